/- The contract of the document's own List, and the walk of the law PackTexts. -/
import Derived.Test.YtcbpekliijbhoaaBytesOwn
namespace Go.Proofs.Ytcbpekliijbhoaa
open Go.RowKit

/-- what is gathered after j numbers -/
def RlsAt (w wr : World) (v : Value) (zs : List Int) (j : Nat) : Prop :=
  OwnsB wr w.heap.size 5 v (2 + 8 * j) (Lib.byteCells ((lsNums zs j).map toU8)) ∧ Below w.heap.size w wr

theorem rlsAt_step {w w2 w3 : World} {v' : Value} {zs : List Int} {j : Nat} (h : j < zs.length) (hB : Below w.heap.size w w2)
    (ho : OwnsB w3 w.heap.size 5 v' (2 + 8 * j + (strOfNums (beI 8 (flip63 (zs.getD j 0)))).size) (Lib.byteCells ((lsNums zs j).map toU8) ++ Lib.strCells (strOfNums (beI 8 (flip63 (zs.getD j 0))))))
    (hb : Below w.heap.size w2 w3) : RlsAt w w3 v' zs (j + 1) := by
  refine ⟨?_, hB.trans hb⟩
  rw [strOfNums_size, beI_len, byteCells_nums] at ho
  rw [lsNums_succ zs j h, List.map_append, byteCells_append, show 2 + 8 * (j + 1) = 2 + 8 * j + 8 from by omega]
  exact ho

theorem byteCells_getD (xs : List Int) (i : Nat) (h : i < xs.length) (hx : ∀ x ∈ xs, 0 ≤ x ∧ x ≤ 255) : (Lib.byteCells (xs.map toU8))[i]? = some (.int .u8 (xs.getD i 0)) := by
  have h2 := hx xs[i] (List.getElem_mem h)
  simp only [Lib.byteCells, List.map_map, List.getElem?_map, List.getElem?_eq_getElem h, Option.map_some, Function.comp, List.getD, Option.getD_some]
  congr 2
  simp [toU8]
  omega

theorem ls_mem' (zs : List Int) (j : Nat) : ∀ x ∈ lsNums zs j, 0 ≤ x ∧ x ≤ 255 := by
  have hb : ∀ (k : Nat) (n : Int), ∀ x ∈ beI k n, 0 ≤ x ∧ x ≤ 255 := by
    intro k n
    induction k with
    | zero => intro x hx; simp [beI] at hx
    | succ k ih =>
      intro x hx
      simp only [beI, List.mem_cons] at hx
      rcases hx with rfl | hx
      · omega
      · exact ih x hx
  intro x hx
  unfold lsNums at hx
  rcases List.mem_append.1 hx with hx | hx
  · exact hb _ _ x hx
  · obtain ⟨z, _, hz⟩ := List.mem_flatMap.1 hx
    exact hb _ _ x hz

set_option maxHeartbeats 800000 in
theorem refList_ok (ao : Option Addr) (cap : Nat) (zs : List Int) (hn : zs.length ≤ 512) (w : World) (hv : SliceHas w (.slice ao zs.length cap) zs) :
    Calls Try.prog 17 #[.slice ao zs.length cap] w fun e w' => e = .returned (.tuple #[.string (strOfNums (lsNums zs zs.length)), .int .i64 0]) ∧ Below w.heap.size w w' := by
  have HV := Lib.hid hv
  obtain ⟨i0, hi, hz0, hz1, hz2⟩ := info_parts infoByte
  obtain ⟨n, hnn⟩ : ∃ n, n = zs.length := ⟨_, rfl⟩
  have H1 := Lib.hid (refTwo n (by omega))
  rw [← hnn] at hn ⊢
  have HN := Lib.hid hnn
  have hd : decide ((512 : Int) < (n : Int)) = false := by simp; omega
  clear hv hnn
  go_enter Try.func17, Try.ntmps17
  go_wp2_with fail
  refine (H1.out _).mono ?_
  rintro e w1 ⟨rfl, hb1⟩
  obtain ⟨v0, w2, hcv, ho2, hb2⟩ := run_bytes_free (P := Try.prog) w1 9 50 5 (strOfNums (beI 2 (n : Int))) Try.underlying9 Try.underlying50 Try.underlying5 (by rw [strOfNums_size, beI_len]; unfold maxLen; omega)
  have L0 : Hid (RlsAt w w2 v0 zs 0) := by
    refine ⟨?_, bthen hb1 hb2⟩
    obtain ⟨g1, g, cp, cur, fz, hv0, hbg, rest⟩ := ho2
    rw [strOfNums_size, beI_len] at g1 hv0 rest
    rw [byteCells_nums] at g1 rest
    rw [lsNums_zero, ← HN.out]
    exact ⟨g1, g, cp, cur, fz, hv0, Nat.le_trans hb1.size hbg, rest⟩
  clear ho2 hb2 hb1
  go_wp2_with fail
  go_loopw [4, 5] (fun v i wr => ∃ j : Nat, j ≤ n ∧ i = .int .i64 j ∧ RlsAt w wr v zs j) (fun _ i _ => n - (intOf i).toNat)
  case atStart => exact ⟨0, Nat.zero_le _, rfl, L0.out⟩
  case round =>
    clear hcv
    obtain ⟨j, hj, rfl, hl⟩ := hrel
    by_cases hlt : j < n
    · have hjz : j < zs.length := by rw [← HN.out]; exact hlt
      have hne : zs ≠ [] := by intro h0; rw [h0] at hjz; simp at hjz
      obtain ⟨ao', cap', e1, _, _, hk⟩ := HV.out
      obtain ⟨b, o, rfl, hbl, hcell⟩ := hk hne
      simp only [Value.slice.injEq, true_and] at e1
      obtain ⟨rfl, rfl⟩ := e1
      obtain ⟨z, hz⟩ : ∃ z, z = zs.getD j 0 := ⟨_, rfl⟩
      have hc : wr.cell? ⟨b, o + j, none⟩ = some (.int .i64 z) := by rw [hl.2.cell (p := ⟨b, o + j, none⟩) hbl, hcell j hjz, hz]
      have HZ := Lib.hid hz
      have HL2 := Lib.hid hl
      have HJ := Lib.hid hjz
      clear hk hl hz hcell hjz hne
      go_wp2_with fail
      refine (refI _ _).mono ?_
      rintro e w3 ⟨rfl, hb3⟩
      have ho3 := ownsB_below HL2.out.1 hb3
      have hs3 := HL2.out.2.size
      have hs4 := hb3.size
      have hxz : (strOfNums (beI 8 (flip63 z))).size ≤ 8 := by rw [strOfNums_size, beI_len]; omega
      go_wp2_with (at_builtin; refine wpList_append_free _ rfl _ _ 50 9 rfl w.heap.size 5 i0 Try.underlying50 Try.underlying9 hi hz0 hz1 hz2 _ _ _ rfl ho3 _ rfl (by unfold maxLen; omega) (by omega) (by omega) ?_)
      intro v4 w4 ho4 hb4
      have R : Hid (RlsAt w w4 v4 zs (j + 1)) := by
        rw [HZ.out] at ho4
        exact rlsAt_step HJ.out (bthen HL2.out.2 hb3) ho4 hb4
      clear ho3 ho4 hb4 hb3
      go_wp2_with fail
      go_roundw
      case rel => exact ⟨j + 1, by omega, by go_num, R.out⟩
      case measure => simp [intOf]; omega
    · obtain rfl : j = n := by omega
      have hle : j ≤ zs.length := by rw [← HN.out]; exact Nat.le_refl _
      obtain ⟨g, cp, rfl, hcl⟩ := ownsB_cells hl.1
      have hlen := lsNums_len zs j hle
      have hcv2 := run_convert_bytes_arg (P := Try.prog) wr 50 5 Try.underlying50 Try.underlying5 g 0 (2 + 8 * j) cp (lsNums zs j) hlen
        (fun i hi => by rw [hcl i hi]; exact byteCells_getD _ i (by omega) (ls_mem' zs j)) 9 Try.underlying9
      have HB := Lib.hid hl.2
      clear hl hcl hlen hle
      go_wp2_with fail
      go_ret2
      exact ⟨by rw [HN.out]; rfl, HB.out⟩

set_option maxHeartbeats 400000 in
theorem refList_big (ao : Option Addr) (n cap : Nat) (hn : 512 < n) (hm : n ≤ maxLen) (w : World) :
    Calls Try.prog 17 #[.slice ao n cap] w fun e w' => e = .returned (.tuple #[.string ⟨#[]⟩, .int .i64 4]) ∧ Below w.heap.size w w' := by
  unfold maxLen at hm
  go_enter Try.func17, Try.ntmps17
  go_wp2_with fail
  go_ret2
  exact ⟨rfl, Below.refl _ _⟩

theorem refList_any (v : Value) (zs : List Int) (w : World) (hv : SliceHas w v zs) :
    Calls Try.prog 17 #[v] w fun e w' => e = textRet (listSpec zs) ∧ Below w.heap.size w w' := by
  have hv' := hv
  obtain ⟨ao, cap, rfl, h1, h2, _⟩ := hv
  unfold listSpec
  by_cases h : 512 < zs.length
  · rw [if_pos h]; exact refList_big ao zs.length cap h (by omega) w
  · rw [if_neg h]; exact refList_ok ao cap zs (by omega) w hv'

set_option maxHeartbeats 800000 in
theorem packTexts_core (s x y : ByteArray) (e1 e2 : Int) (ao : Option Addr) (len cap : Nat) (zs : List Int) (w : World) (hS : SliceHas w (.slice ao len cap) zs) (hl : len ≤ maxLen)
    (H1 : Hid (∀ w, Calls Try.prog 14 #[.string s] w fun e w' => e = .returned (.tuple #[.string x, .int .i64 e1]) ∧ Below w.heap.size w w'))
    (H2 : Hid (∀ w, Calls Try.prog 15 #[.string s] w fun e w' => e = .returned (.tuple #[.string x, .int .i64 e1]) ∧ Below w.heap.size w w'))
    (H3 : Hid (listSpec zs = (y, e2))) :
    Calls Try.prog 4 #[.string s, .slice ao len cap] w fun e w' => e = .returned (.bool true) ∧ Below w.heap.size w w' := by
  have HS := Lib.hid hS
  unfold maxLen at hl
  clear hS
  have q1 : (x.toList != x.toList) = false := by simp
  by_cases h6 : 600 < len
  · go_enter Try.func4, Try.ntmps4
    go_wp2_with fail
    refine (H1.out _).mono ?_
    rintro e w1 ⟨rfl, hb1⟩
    go_wp2_with fail
    refine (H2.out _).mono ?_
    rintro e w2 ⟨rfl, hb2⟩
    go_wp2_with fail
    refine (awake_any _).mono ?_
    rintro e w3 ⟨rfl, hb3⟩
    go_wp2_with fail
    go_ret
    exact ⟨rfl, bthen (bthen hb1 hb2) hb3⟩
  · go_enter Try.func4, Try.ntmps4
    go_wp2_with fail
    refine (H1.out _).mono ?_
    rintro e w1 ⟨rfl, hb1⟩
    go_wp2_with fail
    refine (H2.out _).mono ?_
    rintro e w2 ⟨rfl, hb2⟩
    go_wp2_with fail
    refine (awake_any _).mono ?_
    rintro e w3 ⟨rfl, hb3⟩
    have Y3 := Lib.hid (bthen (bthen hb1 hb2) hb3)
    go_wp2_with fail
    have K := packList_any (.slice ao len cap) zs w3 (sliceHas_below HS.out Y3.out)
    rw [H3.out] at K
    unfold textRet at K
    refine K.mono ?_
    clear K
    rintro e w4 ⟨rfl, hb4⟩
    have Y4 := Lib.hid (bthen Y3.out hb4)
    go_wp2_with fail
    have K := refList_any (.slice ao len cap) zs w4 (sliceHas_below HS.out Y4.out)
    rw [H3.out] at K
    unfold textRet at K
    refine K.mono ?_
    clear K
    rintro e w5 ⟨rfl, hb5⟩
    go_wp2_with fail
    go_ret
    exact ⟨rfl, bthen Y4.out hb5⟩

theorem packTexts_walk (s : ByteArray) (ao : Option Addr) (len cap : Nat) (ys : List Int) (w : World) (hs : s.size ≤ maxLen) (hL : IsRow .i64 w ao len cap ys) :
    Calls Try.prog 4 #[.string s, .slice ao len cap] w fun e w' => e = .returned (.bool true) ∧ Below w.heap.size w w' := by
  have hS := sliceHas_of_row hL
  have hlm : len ≤ maxLen := by
    rcases hL with ⟨rfl, rfl, rfl, rfl⟩ | ⟨x, rfl, h1, h2, _⟩ <;> omega
  exact packTexts_core s _ _ _ _ ao len cap _ w hS hlm (packText s hs) (refText s hs) rfl

end Go.Proofs.Ytcbpekliijbhoaa
