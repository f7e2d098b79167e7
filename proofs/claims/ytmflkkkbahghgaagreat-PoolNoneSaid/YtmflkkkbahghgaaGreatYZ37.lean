/- The program's root: which roots may be. A strings.Builder that String() has read and that is written on: copyCheck, Len, WriteString, String at this program. The contract of strings.Repeat at thirty bytes 0. The program's root: numbers of two bytes, and the bytes behind the check. -/
import Derived.BigQuiet
import Derived.Shelf.Strings.BuilderF
import Derived.Deep.LoopGhost
import Derived.Deep.DeepCutAuto
import Derived.Laws.CopyOwn
import Derived.Laws.IdiomCopy
import Derived.Test.YtmflkkkbahghgaaGreatYZ34
import Derived.Test.YtmflkkkbahghgaaGreatYZ7
import Derived.Test.YtmflkkkbahghgaaGreatYZ12
import Derived.Test.YtmflkkkbahghgaaGreatYZ8
namespace Go.Proofs.YtmflkkkbahghgaaGreat
open Go.RowKit Go.Deep
set_option linter.unusedVariables false
set_option linter.unusedSimpArgs false
set_option maxRecDepth 100000

/-- the first j parts are pages, and no two of them the same -/
def GoodN (f : Nat → Int) (j : Nat) : Prop := (∀ i, i < j → 0 ≤ f i ∧ f i ≤ 1023) ∧ ∀ i k, i < k → k < j → f i ≠ f k
def MayR (lg : Int) (l : List Int) : Prop := 0 ≤ lg ∧ lg ≤ 512 ∧ (l.length : Int) = needR lg ∧ GoodN (fun i => l.getD i 0) l.length
theorem goodN_iff (l : List Int) : GoodN (fun i => l.getD i 0) l.length ↔ l.Pairwise (· ≠ ·) ∧ ∀ x ∈ l, 0 ≤ x ∧ x ≤ 1023 := by
  have e : ∀ i (h : i < l.length), l.getD i 0 = l[i] := fun i h => by rw [List.getD_eq_getElem?_getD, List.getElem?_eq_getElem h]; rfl
  constructor
  · rintro ⟨h1, h2⟩
    refine ⟨List.pairwise_iff_getElem.2 fun i j hi hj hij => ?_, fun x hx => ?_⟩
    · have := h2 i j hij hj
      simp only [e i hi, e j hj] at this
      exact this
    · obtain ⟨i, hi, rfl⟩ := List.getElem_of_mem hx
      have := h1 i hi
      simp only [e i hi] at this
      exact this
  · rintro ⟨h1, h2⟩
    refine ⟨fun i hi => ?_, fun i k hik hk => ?_⟩
    · show 0 ≤ l.getD i 0 ∧ l.getD i 0 ≤ 1023
      rw [e i hi]; exact h2 _ (List.getElem_mem hi)
    · show l.getD i 0 ≠ l.getD k 0
      rw [e i (by omega), e k hk]
      exact List.pairwise_iff_getElem.1 h1 i k (by omega) hk hik
theorem rightR_iff (r : Rt) : RightR r ↔ (1 ≤ r.ep ∧ r.ep ≤ 1099511627776) ∧ MayR r.lg r.parts := by
  unfold RightR MayR
  rw [goodN_iff]
  constructor
  · rintro ⟨a, b, c, d, e, f, g⟩; exact ⟨⟨c, d⟩, e, f, g, a, b⟩
  · rintro ⟨⟨c, d⟩, e, f, g, a, b⟩; exact ⟨a, b, c, d, e, f, g⟩
instance (lg : Int) (l : List Int) : Decidable (MayR lg l) := by
  unfold MayR
  rw [goodN_iff]
  infer_instance
set_option maxHeartbeats 6400000 in
theorem pmayR_any (ep lg : Int) (l : List Int) (v : Value) (u : World) (hlg : -9223372036854775808 ≤ lg ∧ lg ≤ 9223372036854775807) (hl : l.length ≤ 1048576) (hv : LstI l v u) :
    Calls Tryz.prog 107 #[rtV ep lg v] u fun e w' => e = .returned (.bool (decide (MayR lg l))) ∧ Below u.heap.size u w' := by
  obtain ⟨ao, cap, rfl, hc1, hc2, hA⟩ := hv
  have X1 := Lib.hid (heap_alloc_new u (.cells #[.int .i64 ep, .int .i64 lg, .slice ao l.length cap] 98))
  have B1 := Lib.hid (balloc u (.cells #[.int .i64 ep, .int .i64 lg, .slice ao l.length cap] 98))
  have A1 : Hid (0 < l.length → ∃ b o, ao = some ⟨b, o, none⟩ ∧ At 1 (gW fun i => l.getD i 0) l.length b o (u.alloc (.cells #[.int .i64 ep, .int .i64 lg, .slice ao l.length cap] 98))) := Lib.hid (fun h => by
    obtain ⟨b, o, e, hb⟩ := hA h
    exact ⟨b, o, e, hb.below (balloc u _)⟩)
  obtain ⟨C, hC⟩ : ∃ C, C = u.heap.size := ⟨_, rfl⟩
  rw [← hC] at X1
  clear hA
  have HN := Lib.hid (fun w => pneed_any lg hlg w)
  have HP := Lib.hid pisPage_any
  have E : Hid (∀ b : Bool, (b = true ↔ MayR lg l) → decide (MayR lg l) = b) := Lib.hid (fun b hb => by
    cases b
    · exact decide_eq_false fun h => by have := hb.2 h; simp at this
    · exact decide_eq_true (hb.1 rfl))
  unfold rtV
  go_enter Tryz.func107, Tryz.ntmps107
  go_upto_region 1 with fail
  rw [← hC]
  generalize u.alloc (.cells #[.int .i64 ep, .int .i64 lg, .slice ao l.length cap] 98) = w1 at *
  clear hC
  have x1 : w1.cell? ⟨C, 1, none⟩ = some (.int .i64 lg) := by rw [Lib.cell_of_heap X1.out]; rfl
  have x2 : w1.cell? ⟨C, 2, none⟩ = some (.slice ao l.length cap) := by rw [Lib.cell_of_heap X1.out]; rfl
  by_cases h1 : lg < 0
  · have d1 : decide (lg < 0) = true := by simp [h1]
    have E1 := Lib.hid (E.out false ⟨fun h => by simp at h, fun h => absurd h.1 (by omega)⟩)
    clear h1
    go_quiet (fail)
    go_wp2_with fail
    go_ret
    exact ⟨by rw [E1.out]; rfl, bdrewN B1.out _⟩
  have d1 : decide (lg < 0) = false := by simp; omega
  by_cases h2 : 512 < lg
  · have d2 : decide (512 < lg) = true := by simp [h2]
    have E1 := Lib.hid (E.out false ⟨fun h => by simp at h, fun h => absurd h.2.1 (by omega)⟩)
    clear h1 h2
    go_quiet (fail)
    go_wp2_with fail
    go_ret
    exact ⟨by rw [E1.out]; rfl, bdrewN B1.out _⟩
  have d2 : decide (512 < lg) = false := by simp; omega
  go_region_held3 (fun w' => w'.cell? ⟨C, 1, none⟩ = some (.int .i64 lg) ∧ w'.cell? ⟨C, 2, none⟩ = some (.slice ao l.length cap)) (go_keep) (first
    | (go_at_call 89; refine (HN.out _).mono ?_; rintro e w9 ⟨rfl, rfl⟩))
  by_cases h3 : ¬ (l.length : Int) = needR lg
  · have d3 : ((l.length : Int) != needR lg) = true := by simp [h3]
    have E1 := Lib.hid (E.out false ⟨fun h => by simp at h, fun h => absurd h.2.2.1 h3⟩)
    clear h1 h2 h3
    go_wp2_with fail
    go_ret
    exact ⟨by rw [E1.out]; rfl, B1.out.drew⟩
  have h3 := Decidable.not_not.1 h3
  have d3 : ((l.length : Int) != needR lg) = false := by simp [h3]
  rw [d3]
  clear d3
  have H0 : Hid (0 ≤ lg ∧ lg ≤ 512 ∧ (l.length : Int) = needR lg) := Lib.hid ⟨by omega, by omega, h3⟩
  have B2 := Lib.hid (bthen B1.out (bdrew w1))
  have X2 := Lib.hid (heap_stays13 X1.out (bdrew w1))
  have A2 : Hid (0 < l.length → ∃ b o, ao = some ⟨b, o, none⟩ ∧ At 1 (gW fun i => l.getD i 0) l.length b o w1.drew) := Lib.hid (fun h => by
    obtain ⟨b, o, e, hb⟩ := A1.out h
    exact ⟨b, o, e, hb.below (bdrew w1)⟩)
  clear h1 h2 h3 x1 x2
  generalize World.drew w1 = w2 at *
  clear X1 A1 B1
  have x2 : w2.cell? ⟨C, 2, none⟩ = some (.slice ao l.length cap) := by rw [Lib.cell_of_heap X2.out]; rfl
  go_wp2_with fail
  go_loop [25] (fun i => ∃ j : Nat, j ≤ l.length ∧ i = .int .i64 j ∧ Hid (GoodN (fun i => l.getD i 0) j)) (fun i => l.length - (intOf i).toNat)
  case atStart => exact ⟨0, Nat.zero_le _, rfl, Lib.hid ⟨fun i hi => absurd hi (Nat.not_lt_zero _), fun i k _ hk => absurd hk (Nat.not_lt_zero _)⟩⟩
  case round =>
    obtain ⟨j, hj, rfl, HG⟩ := hrel
    by_cases hlt : j < l.length
    · obtain ⟨b, o, rfl, hA⟩ := A2.out (by omega)
      have hcell : w2.cell? ⟨b, o + j, none⟩ = some (.int .i64 (l.getD j 0)) := hA.one j hlt
      have hj2 : (j : Int) < (l.length : Int) := by omega
      have hj3 : (0 : Int) ≤ (j : Int) := by omega
      have hj4 : j ≤ l.length := by omega
      have hj5 : j ≤ cap := by omega
      have hj6 : (j : Int) ≤ (cap : Int) := by omega
      have HC : Hid (∀ w3, w3 = w2 → Calls Tryz.prog 146 #[.slice (some ⟨b, o, none⟩) j cap, .int .i64 (l.getD j 0)] w3 fun e w' => e = .returned (.bool (decide (∃ i, i < j ∧ l.getD i 0 = l.getD j 0))) ∧ w' = w3) := Lib.hid (fun w3 hw => by
        rw [hw]
        exact pcontains_any (fun i => l.getD i 0) j _ cap _ w2 (by omega) hj5 fun _ => ⟨b, o, rfl, hA.1, fun i hi => hA.2 i (by omega)⟩)
      have HG2 : Hid (GoodN (fun i => l.getD i 0) (j + 1) ↔ pgOk (l.getD j 0) = true ∧ ¬ ∃ i, i < j ∧ l.getD i 0 = l.getD j 0) := Lib.hid (by
        obtain ⟨g1, g2⟩ := HG.out
        unfold pgOk
        rw [decide_eq_true_iff]
        constructor
        · rintro ⟨k1, k2⟩
          exact ⟨k1 j (by omega), fun ⟨i, hi, he⟩ => k2 i j hi (by omega) he⟩
        · rintro ⟨k1, k2⟩
          refine ⟨fun i hi => ?_, fun i k hik hk => ?_⟩
          · rcases Nat.lt_succ_iff_lt_or_eq.1 hi with h | rfl
            · exact g1 i h
            · exact k1
          · rcases Nat.lt_succ_iff_lt_or_eq.1 hk with h | rfl
            · exact g2 i k hik h
            · exact fun he => k2 ⟨i, hik, he⟩)
      have HB : Hid (GoodN (fun i => l.getD i 0) l.length → GoodN (fun i => l.getD i 0) (j + 1)) := Lib.hid (fun h => ⟨fun i hi => h.1 i (by omega), fun i k hik hk => h.2 i k hik (by omega)⟩)
      have HL := Lib.hid hlt
      clear hA HG
      generalize l.getD j 0 = x at *
      have d4 : decide ((j : Int) < (l.length : Int)) = true := by simp [hlt]
      clear hlt
      cases hpg : pgOk x
      · have E1 := Lib.hid (E.out false ⟨fun h => by simp at h, fun h => absurd (HG2.out.1 (HB.out h.2.2.2)).1 (by simp [hpg])⟩)
        have HPX : Hid (∀ w, Calls Tryz.prog 145 #[.int .i64 x] w fun e w' => e = .returned (.bool false) ∧ w' = w) := Lib.hid (fun w => by have := HP.out x w; rw [hpg] at this; exact this)
        clear hpg
        go_wp2_with fail
        refine (HPX.out _).mono ?_
        rintro e w9 ⟨rfl, hw⟩
        rw [hw]
        clear hw w9
        go_wp2_with fail
        go_ret
        exact ⟨by rw [E1.out]; rfl, B2.out⟩
      have HPX : Hid (∀ w, Calls Tryz.prog 145 #[.int .i64 x] w fun e w' => e = .returned (.bool true) ∧ w' = w) := Lib.hid (fun w => by have := HP.out x w; rw [hpg] at this; exact this)
      by_cases hex : ∃ i, i < j ∧ l.getD i 0 = x
      · have E1 := Lib.hid (E.out false ⟨fun h => by simp at h, fun h => absurd hex (HG2.out.1 (HB.out h.2.2.2)).2⟩)
        rw [decide_eq_true hex] at HC
        clear hpg hex
        go_wp2_with fail
        refine (HPX.out _).mono ?_
        rintro e w9 ⟨rfl, hw⟩
        rw [hw]
        clear hw w9
        go_wp2_with fail
        refine (HC.out _ rfl).mono ?_
        rintro e w9 ⟨rfl, hw⟩
        rw [hw]
        clear hw w9
        go_wp2_with fail
        go_ret
        exact ⟨by rw [E1.out]; rfl, B2.out⟩
      · have HG3 := Lib.hid (HG2.out.2 ⟨hpg, hex⟩)
        rw [decide_eq_false hex] at HC
        clear hpg hex
        go_wp2_with fail
        refine (HPX.out _).mono ?_
        rintro e w9 ⟨rfl, hw⟩
        rw [hw]
        clear hw w9
        go_wp2_with fail
        refine (HC.out _ rfl).mono ?_
        rintro e w9 ⟨rfl, hw⟩
        rw [hw]
        clear hw w9
        go_wp2_with fail
        go_round
        case rel => have := HL.out; exact ⟨j + 1, by omega, by go_num, HG3⟩
        case measure => have := HL.out; simp [intOf]; omega
    · obtain rfl : j = l.length := by omega
      have d4 : decide ((l.length : Int) < (l.length : Int)) = false := by simp
      have E1 := Lib.hid (E.out true ⟨fun _ => ⟨H0.out.1, H0.out.2.1, H0.out.2.2, HG.out⟩, fun _ => rfl⟩)
      go_wp2_with fail
      go_ret
      exact ⟨by rw [E1.out]; rfl, B2.out⟩

end Go.Proofs.YtmflkkkbahghgaaGreat
namespace Go.Proofs.YtmflkkkbahghgaaGreat
open Go.Shelf Go.RowKit
set_option linter.unusedVariables false

theorem copyCheckF (B b : Nat) (bs : List Value) (w : World) (h : Lib.IsBuilderF 161 5 B b bs w) :
    Calls Tryz.prog 175 #[.pointer (some ⟨b, 0, none⟩)] w fun e w' => e = .returned (.tuple #[]) ∧ (Lib.BuilderAtF 161 5 B b (.pointer (some ⟨b, 0, none⟩)) bs w' ∧ Below B w w') := by
  rcases h with h | h
  · refine (copyCheck_fresh b w h.cell0 h.shape h.frozen0).mono ?_
    rintro e w' ⟨rfl, rfl⟩
    exact ⟨rfl, h.used _, (Below.refl B w).setCell (p := ⟨b, 0, none⟩) h.1 _⟩
  · refine (copyCheck_used b w h.cell0).mono ?_
    rintro e w' ⟨rfl, rfl⟩
    exact ⟨rfl, h, Below.refl B _⟩
set_option maxHeartbeats 1000000 in
set_option maxRecDepth 100000 in
theorem lenF (B b : Nat) (bs : List Value) (w : World) (h : Lib.IsBuilderF 161 5 B b bs w) :
    Calls Tryz.prog 152 #[.pointer (some ⟨b, 0, none⟩)] w fun e w' => e = .returned (.int .i64 bs.length) ∧ w' = w := by
  obtain ⟨p, hB, v, hbk, hown, hne⟩ : ∃ p, Lib.BuilderAtF 161 5 B b p bs w := by
    rcases h with h | h
    · exact ⟨_, h⟩
    · exact ⟨_, h⟩
  have c1 : w.cell? ⟨b, 1, none⟩ = some v := by rw [Lib.cell_of_heap hbk]; rfl
  obtain ⟨ao, cap, rfl⟩ : ∃ ao cap, v = .slice ao bs.length cap := by
    rcases hown.2 with ⟨hv, h0⟩ | ⟨g, cap, cur, fz, hv, _⟩
    · exact ⟨_, _, by rw [hv, h0]⟩
    · exact ⟨_, _, hv⟩
  go_enter Tryz.func152, Tryz.ntmps152
  go_wp2
  go_ret
  exact ⟨rfl, rfl⟩
theorem stringF (B b : Nat) (l : List UInt8) (w : World) (h : Lib.IsBuilderF 161 5 B b (Lib.byteCells l) w) (hBw : B ≤ w.heap.size) :
    Calls Tryz.prog 153 #[.pointer (some ⟨b, 0, none⟩)] w fun e w' => e = .returned (.string ⟨l.toArray⟩) ∧ (Lib.IsBuilderF 161 5 B b (Lib.byteCells l) w' ∧ Below B w w') := Any.Builder_String_any_f laysString extraString B b l w h hBw

set_option maxHeartbeats 2000000 in
set_option maxRecDepth 100000 in
theorem writeStringF (B b : Nat) (bs : List Value) (s : ByteArray) (w : World) (h : Lib.IsBuilderF 161 5 B b bs w) (hlen : bs.length + s.size ≤ 140737488355328) (hBw : B ≤ w.heap.size) :
    Calls Tryz.prog 149 #[.pointer (some ⟨b, 0, none⟩), .string s] w fun e w' => e = .returned (.tuple #[.int .i64 s.size, .nilIface]) ∧ (Lib.BuilderAtF 161 5 B b (.pointer (some ⟨b, 0, none⟩)) (bs ++ Lib.strCells s) w' ∧ Below B w w') := by
  obtain ⟨i0, hi, hz0, hz1, hz2⟩ := info_parts infoByte
  go_enter Tryz.func149, Tryz.ntmps149
  go_wp2_with (go_at_call 175; refine (copyCheckF B b bs _ h).mono ?_)
  rintro e w1 ⟨rfl, h1, hb1⟩
  obtain ⟨hB, v, hbk, hown, hne⟩ := h1
  have c0 : w1.cell? ⟨b, 0, none⟩ = some (.pointer (some ⟨b, 0, none⟩)) := by rw [Lib.cell_of_heap hbk]; rfl
  have c1 : w1.cell? ⟨b, 1, none⟩ = some v := by rw [Lib.cell_of_heap hbk]; rfl
  go_wp2_with (at_builtin; refine Lib.wpList_append_own_stringF _ rfl _ _ 71 9 rfl B 5 i0 Tryz.underlying71 Tryz.underlying9 hi hz0 hz1 hz2 _ _ _ rfl hown s rfl ?c3 ?c4 ?c5 ?_)
  case c3 => unfold maxLen; omega
  case c4 => omega
  case c5 => have := hb1.size; omega
  intro v' w2 hown' hgrow _
  have hlt : b < w1.heap.size := by
    rcases Nat.lt_or_ge b w1.heap.size with h' | h'
    · exact h'
    · simp [Array.getElem?_eq_none h'] at hbk
  have hb2 : w2.heap[b]? = some (.cells #[.pointer (some ⟨b, 0, none⟩), v] 161 (0, 0)) := by
    rw [hgrow.block b hlt (fun e => hne e.symm)]
    exact hbk
  have d0 : w2.cell? ⟨b, 0, none⟩ = some (.pointer (some ⟨b, 0, none⟩)) := by rw [Lib.cell_of_heap hb2]; rfl
  have d1 : w2.cell? ⟨b, 1, none⟩ = some v := by rw [Lib.cell_of_heap hb2]; rfl
  have f1 : w2.frozen? ⟨b, 1, none⟩ = false := Lib.frozen_of_heap hb2 1
  obtain ⟨ao, n', cap, rfl⟩ : ∃ ao n' cap, v' = .slice ao n' cap := by
    rcases hown'.2 with ⟨hv, _⟩ | ⟨g, cap, cur, fz, hv, _⟩
    · exact ⟨_, _, _, hv⟩
    · exact ⟨_, _, _, hv⟩
  go_wp2
  go_ret2
  refine ⟨rfl, ?_, ?_⟩
  · exact Lib.BuilderAtF.put (T := 161) (e := 5) hB hb2 (bs' := bs ++ Lib.strCells s) (by simpa [Lib.strCells_length] using hown') (by decide)
  · exact (hb1.grown hgrow (by have := hb1.size; omega) (fun k hk => (hown.lt k hk).1)).setCell (p := ⟨b, 1, none⟩) hB _

end Go.Proofs.YtmflkkkbahghgaaGreat
namespace Go.Proofs.YtmflkkkbahghgaaGreat
open Go.RowKit
set_option linter.unusedVariables false
set_option linter.unusedSimpArgs false

def zerosB (n : Nat) : List UInt8 := List.replicate n 0
theorem min_three {P : Program} {w : World} (ts : Array TypeId) (t : TypeId) (x y z : Int) :
    (Builtin.min_ ts t #[.int .i64 x, .int .i64 y, .int .i64 z]).run P w = .ok (.int .i64 (if z < (if y < x then y else x) then z else (if y < x then y else x))) w := by
  simp [Builtin.min_, Builtin.min2]
set_option maxHeartbeats 6400000 in
set_option maxRecDepth 1000000 in
theorem repeat30_of (s : ByteArray) (hs : s = ⟨#[0]⟩) (w : World) : Calls Tryz.prog 151 #[.string s, .int .i64 30] w fun e w' => e = .returned (.string ⟨(zerosB 30).toArray⟩) ∧ Below w.heap.size w w' := by
  have HM : Hid (∀ w, Calls Tryz.prog 177 #[.int .u64 1, .int .u64 30] w fun e w' => e = .returned (.tuple #[.int .u64 0, .int .u64 30]) ∧ w' = w) := Lib.hid (fun w => bmul1_any 30 (by omega) w)
  have hsz : s.size = 1 := by rw [hs]; rfl
  have hpos : 0 < s.size := by omega
  have k0 : ((s[0].toNat : Nat) : Int) = 0 := by subst hs; rfl
  have HZ : Hid (Lib.strCells s = Lib.byteCells (zerosB 1)) := Lib.hid (by rw [hs, Lib.strCells_eq]; rfl)
  clear hs
  have b0 : Below w.heap.size w (w.alloc (.cells #[.pointer none, .slice none 0 0] 161)) := (Below.refl _ w).alloc (Nat.le_refl _) _
  have HG := Lib.hid (GrowFresh w.heap.size w.heap.size 30 (w.alloc (.cells #[.pointer none, .slice none 0 0] 161)) (Nat.le_refl _) (heap_alloc_new w _) b0.size (by omega))
  have B0 := Lib.hid b0
  clear b0
  go_enter Tryz.func151, Tryz.ntmps151
  go_wp2_with fail
  refine (HM.out _).mono ?_
  rintro e w1 ⟨rfl, hw⟩
  rw [hw]
  clear hw w1
  go_wp2_with fail
  refine (HG.out).mono ?_
  rintro e W1 ⟨rfl, h1, b1⟩
  have B1 := Lib.hid (B0.out.trans b1)
  have HW := Lib.hid (writeStringF w.heap.size w.heap.size [] s W1 (Lib.IsBuilderF.of (Or.inr h1)) (by simp; omega) B1.out.size)
  clear h1 b1 HG B0 HM
  go_wp2_with fail
  refine (HW.out).mono ?_
  rintro e W2 ⟨rfl, h2, b2⟩
  have B2 := Lib.hid (B1.out.trans b2)
  have I2 : Hid (Lib.IsBuilderF 161 5 w.heap.size w.heap.size (Lib.byteCells (zerosB 1)) W2) := Lib.hid (Or.inr (by rw [List.nil_append, HZ.out] at h2; exact h2))
  clear h2 b2 HW B1
  go_wp2_with fail
  go_loopg [] 29 (fun g wx => ∃ q : Nat, 1 ≤ q ∧ q + g = 30 ∧ Hid (Lib.IsBuilderF 161 5 w.heap.size w.heap.size (Lib.byteCells (zerosB q)) wx) ∧ Hid (Below w.heap.size w wx))
  case atStart => exact ⟨1, Nat.le_refl _, by omega, I2, B2⟩
  case round =>
    obtain ⟨q, hq1, hqg, hB, hbx⟩ := hrel
    have hlq : (Lib.byteCells (zerosB q)).length = q := by rw [Lib.byteCells_length]; simp [zerosB]
    have HL := Lib.hid (lenF w.heap.size w.heap.size _ wr hB.out)
    rw [hlq] at HL
    have HS := Lib.hid (stringF w.heap.size w.heap.size (zerosB q) wr hB.out hbx.out.size)
    obtain ⟨S, hS⟩ : ∃ S : ByteArray, (⟨(zerosB q).toArray⟩ : ByteArray) = S := ⟨_, rfl⟩
    have hSd : S.data.toList = zerosB q := by rw [← hS]
    have hSz : S.size = q := by rw [Lib.size_eq, hSd]; simp [zerosB]
    rw [hS] at HS
    cases gk with
    | zero =>
      obtain rfl : q = 30 := by omega
      have hfin : Hid (S = ⟨(zerosB 30).toArray⟩) := Lib.hid hS.symm
      clear hS hSd
      go_wp2_with fail
      refine (HL.out).mono ?_
      rintro e w3 ⟨rfl, hw⟩
      rw [hw]
      clear hw w3
      go_wp2_with fail
      refine (HS.out).mono ?_
      rintro e w3 ⟨rfl, _, hb⟩
      have B3 := Lib.hid (hbx.out.trans hb)
      clear hb
      go_wp2_with fail
      go_ret
      exact ⟨by rw [hfin.out]; rfl, B3.out⟩
    | succ g =>
      have hq30 : (q : Int) < 30 := by omega
      have HSD := Lib.hid hSd
      clear hS hSd
      obtain ⟨c, hc⟩ : ∃ c : Nat, c = min (30 - q) q := ⟨_, rfl⟩
      have hc2 : 1 ≤ c ∧ c ≤ q ∧ q + c ≤ 30 := by omega
      have hmin : ∀ (ts : Array TypeId) (t : TypeId) (W : World), (Builtin.min_ ts t #[.int .i64 (30 - (q : Int)), .int .i64 (q : Int), .int .i64 30]).run Tryz.prog W = .ok (.int .i64 (c : Int)) W := fun ts t W => by
        rw [min_three]
        congr 2
        split <;> split <;> omega
      have HC := Lib.hid hc
      clear hc
      go_wp2_with fail
      refine (HL.out).mono ?_
      rintro e w3 ⟨rfl, hw⟩
      rw [hw]
      clear hw w3
      go_wp2_with fail
      refine (HL.out).mono ?_
      rintro e w3 ⟨rfl, hw⟩
      rw [hw]
      clear hw w3
      go_wp2_with fail
      refine (HL.out).mono ?_
      rintro e w3 ⟨rfl, hw⟩
      rw [hw]
      clear hw w3
      go_wp2_with fail
      refine (HS.out).mono ?_
      rintro e W3 ⟨rfl, h3, hb⟩
      have B3 := Lib.hid (hbx.out.trans hb)
      have HWr := Lib.hid (writeStringF w.heap.size w.heap.size _ (S.extract 0 c) W3 h3 (by
        rw [hlq, ByteArray.size_extract]; omega) B3.out.size)
      clear hb h3 HL HS
      go_wp2_with fail
      refine (HWr.out).mono ?_
      rintro e W4 ⟨rfl, h4, hb⟩
      have B4 := Lib.hid (B3.out.trans hb)
      have I4 : Hid (Lib.IsBuilderF 161 5 w.heap.size w.heap.size (Lib.byteCells (zerosB (q + c))) W4) := Lib.hid (Or.inr (by
        rw [Lib.strCells_eq, ← Lib.byteCells_append, Lib.extract_data, HSD.out] at h4
        have e : zerosB q ++ ((zerosB q).take c).drop 0 = zerosB (q + c) := by
          unfold zerosB
          rw [List.drop_zero, List.take_replicate, List.replicate_append_replicate]
          congr 1; omega
        simp only [List.drop_zero, Nat.sub_zero] at h4 e
        rw [e] at h4
        exact h4))
      clear hb h4 HWr
      go_wp2_with fail
      go_roundg (30 - (q + c))
      case measure => omega
      case rel => exact ⟨q + c, by omega, by omega, I4, B4⟩
theorem repeat30 (w : World) : Calls Tryz.prog 151 #[.string ⟨#[0]⟩, .int .i64 30] w fun e w' => e = .returned (.string ⟨(zerosB 30).toArray⟩) ∧ Below w.heap.size w w' := repeat30_of _ rfl w

end Go.Proofs.YtmflkkkbahghgaaGreat
namespace Go.Proofs.YtmflkkkbahghgaaGreat
open Go.RowKit Go.Deep
set_option linter.unusedVariables false
set_option linter.unusedSimpArgs false
set_option maxRecDepth 100000

theorem beI_eight (n : Int) : ∃ l, l.length = 6 ∧ beI 8 n = l ++ beI 2 n := ⟨[n / 256 ^ 7 % 256, n / 256 ^ 6 % 256, n / 256 ^ 5 % 256, n / 256 ^ 4 % 256, n / 256 ^ 3 % 256, n / 256 ^ 2 % 256], rfl, rfl⟩
theorem str_two (n : Int) : (strOfNums (beI 8 n)).extract 6 8 = strOfNums (beI 2 n) := by
  obtain ⟨l, hl, e⟩ := beI_eight n
  rw [e, ← strOfNums_append]
  have s1 : (strOfNums l).size = 6 := by rw [strOfNums_size, hl]
  have s2 : (strOfNums (beI 2 n)).size = 2 := by rw [strOfNums_size, beI_len]
  refine byD_ext ?_ fun j hj => ?_
  · rw [ByteArray.size_extract, ByteArray.size_append, s1, s2]; rfl
  · rw [ByteArray.size_extract, ByteArray.size_append, s1, s2] at hj
    have hj2 : j < 2 := by simpa using hj
    rw [byD_cut _ _ _ _ (by omega), byD_app, s1, if_neg (by omega)]
    congr 1; omega
theorem pshort_any (n : Int) (h0 : 0 ≤ n) (h1 : n ≤ 65535) (w : World) : Calls Tryz.prog 150 #[.int .i64 n] w fun e w' => e = .returned (.string (strOfNums (beI 2 n))) ∧ Below w.heap.size w w' := by
  have hw : IntKind.u64.wrap n = n := by rw [IntKind.wrap_u64]; omega
  have HU := Lib.hid (packU n)
  have hs : (strOfNums (beI 8 n)).size = 8 := by rw [strOfNums_size, beI_len]
  have E := Lib.hid (str_two n)
  generalize strOfNums (beI 8 n) = s at *
  generalize strOfNums (beI 2 n) = t at *
  clear h0 h1
  go_enter Tryz.func150, Tryz.ntmps150
  go_wp2_with fail
  refine (HU.out _).mono ?_
  rintro e w1 ⟨rfl, hb⟩
  have B1 := Lib.hid hb
  clear hb
  go_wp2_with fail
  go_ret
  exact ⟨by rw [← E.out]; rfl, B1.out⟩

/-- the program's array of pages: the parts, and 0 behind them -/
def five (l : List Int) : List Int := (List.range 5).map fun i => l.getD i 0
def fiveV (l : List Int) : List Value := (five l).map (Value.int .i64)
theorem five_eq {l : List Int} (h : l.length ≤ 5) : five l = l ++ List.replicate (5 - l.length) 0 := by
  apply List.ext_getElem
  · simp [five]; omega
  · intro i h1 h2
    have hi : i < 5 := by simpa [five] using h1
    have e : ∀ (h3 : i < ((List.range 5).map fun i => l.getD i 0).length), ((List.range 5).map fun i => l.getD i 0)[i] = l.getD i 0 := fun h3 => by rw [List.getElem_map, List.getElem_range]
    rw [show (five l)[i] = l.getD i 0 from e h1]
    rw [List.getElem_append]
    split
    · rename_i h4
      rw [List.getD_eq_getElem?_getD, List.getElem?_eq_getElem h4]; rfl
    · rename_i h4
      rw [List.getD_eq_getElem?_getD, List.getElem?_eq_none (by omega), List.getElem_replicate]; rfl
theorem twosL_app (a b : List Int) : twosL (a ++ b) = twosL a ++ twosL b := by
  induction a with
  | nil => rfl
  | cons x a ih => simp only [List.cons_append, twosL, ih, List.append_assoc]
theorem twosL_zero (n : Nat) : twosL (List.replicate n 0) = List.replicate (2 * n) 0 := by
  induction n with
  | zero => rfl
  | succ n ih =>
    rw [List.replicate_succ, twosL, ih, show 2 * (n + 1) = 2 * n + 1 + 1 by omega, List.replicate_succ, List.replicate_succ]
    rfl
/-- what the builder holds after the first j pages -/
def preR (lg : Int) (l : List Int) (j : Nat) : List Int := twosL (lg :: (l.length : Int) :: (five l).take j)
theorem preR_succ (lg : Int) (l : List Int) {j : Nat} (h : j < 5) : preR lg l (j + 1) = preR lg l j ++ beI 2 (l.getD j 0) := by
  have hl : j < (five l).length := by simp [five]; omega
  have e : ∀ (h3 : j < ((List.range 5).map fun i => l.getD i 0).length), ((List.range 5).map fun i => l.getD i 0)[j] = l.getD j 0 := fun h3 => by rw [List.getElem_map, List.getElem_range]
  unfold preR
  rw [List.take_succ_eq_append_getElem hl, show (five l)[j] = l.getD j 0 from e hl, ← List.cons_append, ← List.cons_append, twosL_snoc]
theorem preR_len (lg : Int) (l : List Int) {j : Nat} (h : j ≤ 5) : (preR lg l j).length = 4 + 2 * j := by
  unfold preR
  rw [twosL_len, List.length_cons, List.length_cons, List.length_take]
  have : (five l).length = 5 := by simp [five]
  omega
theorem body_nums (ep lg : Int) {l : List Int} (h : l.length ≤ 5) : strOfNums (preR lg l 5 ++ List.replicate 30 0) = bodyR ⟨ep, lg, l⟩ := by
  have h5 : (five l).length = 5 := by simp [five]
  have e : preR lg l 5 = twosL (lg :: (l.length : Int) :: l) ++ List.replicate (2 * (5 - l.length)) 0 := by
    unfold preR
    rw [List.take_of_length_le (by omega), five_eq h, ← List.cons_append, ← List.cons_append, twosL_app, twosL_zero]
  have hl : (twosL (lg :: (l.length : Int) :: l)).length = 4 + 2 * l.length := by rw [twosL_len]; simp; omega
  unfold bodyR
  refine byD_ext ?_ fun j hj => ?_
  · rw [padN_size, strOfNums_size, List.length_append, preR_len lg l (Nat.le_refl 5), List.length_replicate]
  · rw [strOfNums_size, List.length_append, preR_len lg l (Nat.le_refl 5), List.length_replicate] at hj
    rw [byD_pad _ _ _ (by omega), e, List.append_assoc, List.replicate_append_replicate]
    unfold restR
    have hb := twosL_bd (lg :: (l.length : Int) :: l)
    rw [byD_nums _ (fun x hx => by
      rcases List.mem_append.1 hx with hx | hx
      · exact hb x hx
      · rw [List.eq_of_mem_replicate hx]; omega) j (by rw [List.length_append, List.length_replicate, hl]; omega)]
    rw [List.getElem_append]
    split
    · rename_i h4
      rw [byD_nums _ hb j h4]
    · rename_i h4
      rw [List.getElem_replicate, byD_out]
      rw [strOfNums_size]
      show (twosL (lg :: (l.length : Int) :: l)).length ≤ j
      omega
theorem size_int13 : (Tryz.prog.info? 3).map (·.size) = some 1 := by kernel_rfl
/-- 'copy(pages[:], r.Parts)' -/
theorem copy_five {w : World} {P base : Nat} {l : List Int} {ao : Option Addr} {cap : Nat} (hP : w.heap[P]? = some (.cells (fiveV []).toArray 158 (0, 0))) (h5 : l.length ≤ 5) (hA : 0 < l.length → ∃ b o, ao = some ⟨b, o, none⟩ ∧ At 1 (gW fun i => l.getD i 0) l.length b o w) (hb : base ≤ P) :
    ∃ w2, (Builtin.copy_ #[38, 38] 3 #[.slice (some ⟨P, 0, none⟩) 5 5, .slice ao l.length cap]).run Tryz.prog w = .ok (goInt l.length) w2 ∧ w2.heap[P]? = some (.cells (fiveV l).toArray 158 (0, 0)) ∧ Below base w w2 ∧ w2.heap.size = w.heap.size ∧ ∀ k, k ≠ P → w2.heap[k]? = w.heap[k]? := by
  by_cases h0 : l.length = 0
  · refine ⟨w, ?_, ?_, Below.refl _ _, rfl, fun _ _ => rfl⟩
    · rw [h0]
      exact run_copy_none w 38 38 3 3 _ _ 5 5 0 cap Tryz.underlying38 size_int13 rfl
    · rw [hP, List.eq_nil_of_length_eq_zero h0]
  · obtain ⟨b, o, rfl, hC⟩ := hA (by omega)
    have hlen : (l.map (Value.int .i64)).length = l.length := by simp
    have h := run_copy_row (P := Tryz.prog) w 38 38 3 3 P 0 5 5 ⟨b, o, none⟩ l.length cap _ 158 (l.map (Value.int .i64)) Tryz.underlying38 size_int13 hP
      (by rw [hlen]; exact (Nat.min_eq_left h5).symm)
      (fun j v hj => by
        rw [List.getElem?_map] at hj
        rcases Nat.lt_or_ge j l.length with hjl | hjl
        · rw [List.getElem?_eq_getElem hjl] at hj
          simp only [Option.map_some, Option.some.injEq] at hj
          subst hj
          rw [add_plain, hC.one j hjl]
          show some (Value.int .i64 (l.getD j 0)) = _
          rw [List.getD_eq_getElem?_getD, List.getElem?_eq_getElem hjl]; rfl
        · rw [List.getElem?_eq_none hjl] at hj; simp at hj)
      (by rw [hlen]; simp [fiveV, five]; omega)
      (by intro v hv; obtain ⟨x, _, rfl⟩ := List.mem_map.1 hv; rfl)
    rw [hlen] at h
    refine ⟨_, h, ?_, below_setRow (Below.refl _ _) hb _, by simp [World.setRow], fun k hk => setRow_other w P k _ hk⟩
    rw [setRow_heap w P _ _ _ _ hP]
    congr 3
    unfold fiveV
    rw [five_eq h5]
    have e : five ([] : List Int) = List.replicate 5 0 := rfl
    rw [e, List.map_replicate]
    simp only [List.take_zero, List.nil_append, List.map_append, List.map_replicate, Nat.zero_add, hlen, List.drop_replicate]

end Go.Proofs.YtmflkkkbahghgaaGreat
