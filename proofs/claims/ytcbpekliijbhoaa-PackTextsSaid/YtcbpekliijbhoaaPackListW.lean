/- The contract of pack.List: a list's bytes, or that it is too big. -/
import Derived.Test.YtcbpekliijbhoaaPackReads
import Derived.Test.YtcbpekliijbhoaaPackOrdMath
namespace Go.Proofs.Ytcbpekliijbhoaa
open Go.RowKit

/-- the bytes of the first j numbers of a list of n, as numbers -/
def lsNums (zs : List Int) (j : Nat) : List Int := beI 2 zs.length ++ (zs.take j).flatMap fun z => beI 8 (flip63 z)
theorem lsNums_zero (zs : List Int) : lsNums zs 0 = beI 2 zs.length := by simp [lsNums]
theorem lsNums_succ (zs : List Int) (j : Nat) (h : j < zs.length) : lsNums zs (j + 1) = lsNums zs j ++ beI 8 (flip63 (zs.getD j 0)) := by
  unfold lsNums
  rw [List.take_succ_eq_append_getElem h, List.flatMap_append]
  simp [List.getD, List.getElem?_eq_getElem h]
theorem lsNums_len (zs : List Int) (j : Nat) (h : j ≤ zs.length) : (lsNums zs j).length = 2 + 8 * j := by
  induction j with
  | zero => simp [lsNums_zero, beI_len]
  | succ j ih => rw [lsNums_succ zs j (by omega), List.length_append, ih (by omega), beI_len]; omega

def listSpec (zs : List Int) : ByteArray × Int := if 512 < zs.length then (⟨#[]⟩, 4) else (strOfNums (lsNums zs zs.length), 0)

theorem byteCells_nums (xs : List Int) : Lib.strCells (strOfNums xs) = Lib.byteCells (xs.map toU8) := by
  rw [Lib.strCells_eq, strOfNums_data]; rfl
theorem byteCells_append (a b : List UInt8) : Lib.byteCells (a ++ b) = Lib.byteCells a ++ Lib.byteCells b := by simp [Lib.byteCells]
theorem strOfNums_eq (xs : List Int) : strOfNums xs = ⟨(xs.map toU8).toArray⟩ := rfl

theorem grown_of_below {w w' : World} (h : Below w.heap.size w w') (row : Option Nat) : w.grownBy w' row := ⟨h.os, h.tape, h.output, h.size, fun k hk _ => h.block k hk⟩

theorem builder_below {T e : TypeId} {B b : Nat} {p : Value} {bs : List Value} {w w' : World} (h : Lib.BuilderAt T e B b p bs w) (hb : Below w.heap.size w w') : Lib.BuilderAt T e B b p bs w' := by
  obtain ⟨h1, v, h2, h3, h4⟩ := h
  have hlt : b < w.heap.size := (Array.getElem?_eq_some_iff.1 h2).1
  refine ⟨h1, v, by rw [hb.block b hlt]; exact h2, h3.kept (grown_of_below hb none) ?_, h4⟩
  rcases hv : v.ownBlock with _ | k
  · exact .inl rfl
  · exact .inr (by simp)

theorem builder_new (w : World) : Lib.BuilderAt 56 5 w.heap.size w.heap.size (.pointer none) [] (w.alloc (.cells #[.pointer none, .slice none 0 0] 56)) :=
  ⟨Nat.le_refl _, .slice none 0 0, heap_alloc_new w _, World.ownsRow_nil _ _ _ _, by simp [Value.ownBlock]⟩

/-- the builder after j numbers -/
def LsAt (w wr : World) (zs : List Int) (j : Nat) : Prop :=
  Lib.IsBuilder 56 5 w.heap.size w.heap.size (Lib.byteCells ((lsNums zs j).map toU8)) wr ∧ Below w.heap.size w wr ∧ w.heap.size < wr.heap.size

theorem ls_lt {T e : TypeId} {B b : Nat} {p : Value} {bs : List Value} {w : World} (h : Lib.BuilderAt T e B b p bs w) : b < w.heap.size := by
  obtain ⟨_, v, h2, _⟩ := h
  exact (Array.getElem?_eq_some_iff.1 h2).1

theorem isBuilder_below {T e : TypeId} {B b : Nat} {bs : List Value} {w w' : World} (h : Lib.IsBuilder T e B b bs w) (hb : Below w.heap.size w w') : Lib.IsBuilder T e B b bs w' := by
  rcases h with h | h
  · exact .inl (builder_below h hb)
  · exact .inr (builder_below h hb)

theorem lsAt_write {w w2 w3 : World} {zs : List Int} {j : Nat} (h : j < zs.length) (hB : Below w.heap.size w w2)
    (hb : Lib.BuilderAt 56 5 w.heap.size w.heap.size (.pointer (some ⟨w.heap.size, 0, none⟩)) (Lib.byteCells ((lsNums zs j).map toU8) ++ Lib.strCells (strOfNums (beI 8 (flip63 (zs.getD j 0))))) w3)
    (hbel : Below w.heap.size w2 w3) : LsAt w w3 zs (j + 1) := by
  refine ⟨.inr ?_, hB.trans hbel, ls_lt hb⟩
  rw [lsNums_succ zs j h, List.map_append, byteCells_append]
  rw [byteCells_nums] at hb
  exact hb

set_option maxHeartbeats 800000 in
theorem packList_ok (ao : Option Addr) (cap : Nat) (zs : List Int) (hn : zs.length ≤ 512) (w : World) (hv : SliceHas w (.slice ao zs.length cap) zs) :
    Calls Try.prog 16 #[.slice ao zs.length cap] w fun e w' => e = .returned (.tuple #[.string (strOfNums (lsNums zs zs.length)), .int .i64 0]) ∧ Below w.heap.size w w' := by
  have HV := Lib.hid hv
  have HL := Lib.hid (lsNums_len zs)
  obtain ⟨n, hnn⟩ : ∃ n, n = zs.length := ⟨_, rfl⟩
  have H1 := Lib.hid (lay_u16_2 (n : Int))
  rw [IntWalk.u64_in _ (by omega)] at H1
  rw [← hnn] at hn ⊢
  have HN := Lib.hid hnn
  have hd : decide ((512 : Int) < (n : Int)) = false := by simp; omega
  clear hv hnn
  go_enter Try.func16, Try.ntmps16
  go_wp2_with fail
  refine (H1.out _).mono ?_
  rintro e w1 ⟨rfl, hb1⟩
  go_wp2_with fail
  have K1 := builder_below (builder_new w) hb1
  refine (writeString w.heap.size w.heap.size [] _ _ (.inl K1) (by rw [strOfNums_size, beI_len]; simp) (by have := ls_lt K1; omega)).mono ?_
  rintro e w2 ⟨rfl, hb2, hbel2⟩
  have L0 : Hid (LsAt w w2 zs 0) := by
    refine ⟨.inr ?_, ((balloc w _).trans (hb1.mono (by simp))).trans hbel2, ls_lt hb2⟩
    rw [lsNums_zero, ← HN.out]
    rw [byteCells_nums] at hb2
    exact hb2
  clear hb2 hbel2 K1 hb1
  go_wp2_with fail
  go_loopw [16] (fun i wr => ∃ j : Nat, j ≤ n ∧ i = .int .i64 j ∧ LsAt w wr zs j) (fun i _ => n - (intOf i).toNat)
  case atStart => exact ⟨0, Nat.zero_le _, rfl, L0.out⟩
  case round =>
    obtain ⟨j, hj, rfl, hl⟩ := hrel
    by_cases hlt : j < n
    · have hjz : j < zs.length := by rw [← HN.out]; exact hlt
      have hne : zs ≠ [] := by intro h0; rw [h0] at hjz; simp at hjz
      obtain ⟨ao', cap', e1, _, _, hk⟩ := HV.out
      obtain ⟨b, o, rfl, hbl, hcell⟩ := hk hne
      simp only [Value.slice.injEq, true_and] at e1
      obtain ⟨rfl, rfl⟩ := e1
      obtain ⟨z, hz⟩ : ∃ z, z = zs.getD j 0 := ⟨_, rfl⟩
      have hc : wr.cell? ⟨b, o + j, none⟩ = some (.int .i64 z) := by rw [hl.2.1.cell (p := ⟨b, o + j, none⟩) hbl, hcell j hjz, hz]
      have HZ := Lib.hid hz
      have HL2 := Lib.hid hl
      have HJ := Lib.hid hjz
      clear hk hl hz hcell hjz hne
      go_wp2_with fail
      refine (packI _ _).mono ?_
      rintro e w3 ⟨rfl, hb3⟩
      go_wp2_with fail
      refine (writeString w.heap.size w.heap.size _ _ _ (isBuilder_below HL2.out.1 hb3) (by rw [strOfNums_size, beI_len, Lib.byteCells_length, List.length_map, HL.out j (by have := HJ.out; omega)]; omega) (by have := HL2.out.2.2; have := hb3.size; omega)).mono ?_
      rintro e w4 ⟨rfl, hb4, hbel4⟩
      have R : Hid (LsAt w w4 zs (j + 1)) := by
        rw [HZ.out] at hb4
        exact lsAt_write HJ.out (bthen HL2.out.2.1 hb3) hb4 hbel4
      clear hb4 hbel4 hb3
      go_wp2_with fail
      go_roundw
      case rel => exact ⟨j + 1, by omega, by go_num, R.out⟩
      case measure => simp [intOf]; omega
    · obtain rfl : j = n := by omega
      have HL2 := Lib.hid hl
      clear hl
      go_wp2_with fail
      refine (builderString w.heap.size w.heap.size _ _ HL2.out.1 (by have := HL2.out.2.2; omega)).mono ?_
      rintro e w5 ⟨rfl, hb5⟩
      go_wp2_with fail
      go_ret2
      exact ⟨by rw [strOfNums_eq, HN.out]; rfl, HL2.out.2.1.trans hb5⟩

set_option maxHeartbeats 400000 in
theorem packList_big (ao : Option Addr) (n cap : Nat) (hn : 512 < n) (hm : n ≤ maxLen) (w : World) :
    Calls Try.prog 16 #[.slice ao n cap] w fun e w' => e = .returned (.tuple #[.string ⟨#[]⟩, .int .i64 4]) ∧ Below w.heap.size w w' := by
  unfold maxLen at hm
  go_enter Try.func16, Try.ntmps16
  go_wp2_with fail
  go_ret2
  exact ⟨rfl, Below.refl _ _⟩

theorem packList_any (v : Value) (zs : List Int) (w : World) (hv : SliceHas w v zs) :
    Calls Try.prog 16 #[v] w fun e w' => e = textRet (listSpec zs) ∧ Below w.heap.size w w' := by
  have hv' := hv
  obtain ⟨ao, cap, rfl, h1, h2, _⟩ := hv
  unfold listSpec
  by_cases h : 512 < zs.length
  · rw [if_pos h]; exact packList_big ao zs.length cap h (by omega) w
  · rw [if_neg h]; exact packList_ok ao cap zs (by omega) w hv'

end Go.Proofs.Ytcbpekliijbhoaa
