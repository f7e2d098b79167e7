/- The contracts of the document's map: at, set, Use, Take, Leave. -/
import Derived.Test.YtbjmdejnipleoaaFmMem
import Derived.Test.YtbjmdejnipleoaaAppendNew
import Derived.Deep.DeepCutAuto
namespace Go.Proofs.Ytbjmdejnipleoaa
open Go.RowKit Go.Deep
set_option linter.unusedVariables false
set_option linter.unusedSimpArgs false
set_option maxRecDepth 100000

variable {base Q n : Nat} {K : Nat → Nat} {u : World}
theorem heap_lt12 {u : World} {B : Nat} {o : Obj} (h : u.heap[B]? = some o) : B < u.heap.size := (Array.getElem?_eq_some_iff.1 h).1
theorem set_else12 {w : World} {P o q : Nat} (v : Value) (h : q ≠ P) : (w.setCell ⟨P, o, none⟩ v).heap[q]? = w.heap[q]? := Below.heap_setCell _ _ _ _ h
theorem infoInt12 : (Try.prog.info? 3).map (fun i => (i.zero, i.size, i.bytes)) = some (some (.int .i64 0), 1, 8) := by kernel_rfl
theorem gK_one (K : Nat → Nat) : ∀ i, i < n → (gK K i 0).oneCell' = true := fun i _ => rfl
/-- the map's slice: its length is n -/
theorem RFm.slice (h : RFm base Q n K u) : ∃ a c, u.heap[Q]? = some (.cells #[.slice a n c] 34 (0, 0)) ∧ KRow base n K (.slice a n c) u := by
  obtain ⟨v, e, hr⟩ := h.box
  rcases hr with ⟨rfl, a, c, rfl, hc, hp⟩ | ⟨h0, b, c, rfl, h1, hr⟩
  · exact ⟨a, c, e, .inl ⟨rfl, a, c, rfl, hc, hp⟩⟩
  · exact ⟨_, c, e, .inr ⟨h0, b, c, rfl, h1, hr⟩⟩
def inE (n : Nat) (i : Int) : Int := if inF n i then 0 else 3
set_option maxHeartbeats 800000 in
theorem rat12_any (h : RFm base Q n K u) (hn : n ≤ 1024) (i : Int) : Calls Try.prog 37 #[.pointer (some ⟨Q, 0, none⟩), .int .i64 i] u fun r u' => r = .returned (.int .i64 (inE n i)) ∧ u' = u := by
  obtain ⟨a, c, e, hr⟩ := h.slice
  have x0 : u.cell? ⟨Q, 0, none⟩ = some (.slice a n c) := by rw [Lib.cell_of_heap e]; rfl
  clear h hr e
  go_enter Try.func37, Try.ntmps37
  by_cases h1 : i < 0
  · have d1 : decide (i < 0) = true := by simp [h1]
    have E : Hid (inE n i = 3) := Lib.hid (if_neg fun h => by have := h.1; omega)
    go_wp2_with fail
    go_ret
    exact ⟨by rw [E.out]; rfl, rfl⟩
  · have d1 : decide (i < 0) = false := by simp; omega
    by_cases h2 : (n : Int) ≤ i
    · have d2 : decide ((n : Int) ≤ i) = true := by simp [h2]
      have E : Hid (inE n i = 3) := Lib.hid (if_neg fun h => by have := h.2; omega)
      go_wp2_with fail
      go_ret
      exact ⟨by rw [E.out]; rfl, rfl⟩
    · have d2 : decide ((n : Int) ≤ i) = false := by simp; omega
      have E : Hid (inE n i = 0) := Lib.hid (if_pos ⟨by omega, by omega⟩)
      go_wp2_with fail
      go_ret
      exact ⟨by rw [E.out]; rfl, rfl⟩

set_option maxHeartbeats 1600000 in
theorem rset12_any (h : RFm base Q n K u) (hb : base ≤ u.heap.size) (hn : n ≤ 1024) (i k : Nat) (hi : i < n) : Calls Try.prog 38 #[.pointer (some ⟨Q, 0, none⟩), .int .i64 (i : Int), .int .i64 (k : Int)] u fun r u' => r = .returned (.tuple #[]) ∧ RFm base Q n (fupd K i k) u' ∧ KpS (QS Q) u u' ∧ Rnew Q u u' := by
  obtain ⟨i0, hi0, hz0, hz1, hz2⟩ := info_parts infoInt12
  obtain ⟨v, e, hr⟩ := h.box
  rcases hr with ⟨rfl, _⟩ | ⟨h0, b, c, rfl, h1, hr⟩
  · omega
  have hQ := h.lt
  have B1 := balloc u (.cells #[] 3)
  have E1 := Lib.hid ((B1.block Q hQ).trans e)
  have R1 := Lib.hid (hr.kept (B1.block _ hr.lt))
  have x0 : (u.alloc (.cells #[] 3)).cell? ⟨Q, 0, none⟩ = some (.slice (some ⟨b, 0, none⟩) n c) := by rw [Lib.cell_of_heap E1.out]; rfl
  have BU := Lib.hid B1
  have LO := Lib.hid h.lo
  have HB := Lib.hid hb
  clear h hr e B1 hQ hb
  go_enter Try.func38, Try.ntmps38
  go_wp2_with (at_builtin; refine wpList_append_new9 rfl _ _ 31 rfl 3 i0 (.int .i64 0) 8 Try.underlying31 hi0 hz0 hz1 hz2 rfl _ rfl b n c (gK K) rfl R1.out (gK_one K) (by omega) (by omega) ?_)
  intro g cap w2 hg hrow hb2
  have W2 := Lib.hid (BU.out.trans (hb2.mono (by omega)))
  have E2 := Lib.hid ((hb2.block Q (by have := heap_lt12 E1.out; simpa using this)).trans E1.out)
  have NE : Hid (Q ≠ g) := Lib.hid (by have := heap_lt12 E1.out; simp at this; omega)
  have y0 := hrow.cell1 hi
  have yf := hrow.frozen i
  have hi1 : (i : Int) < (n : Int) := by omega
  have hi2 : (0 : Int) ≤ (i : Int) := by omega
  have R3 : Hid (RowB 3 1 g (gK (fupd K i k)) n (.slice (some ⟨g, 0, none⟩) n cap) (w2.setCell ⟨g, i, none⟩ (.int .i64 (k : Int)))) := Lib.hid (hrow.put1 hi _ (by unfold gK; rw [fupd_at]) (fun q hq hne => by unfold gK; rw [fupd_else _ _ _ _ hne]))
  have E3 := Lib.hid ((set_else12 (P := g) (o := i) (w := w2) (.int .i64 (k : Int)) NE.out).trans E2.out)
  have W3 : Hid (Below u.heap.size u (w2.setCell ⟨g, i, none⟩ (.int .i64 (k : Int)))) := Lib.hid (W2.out.setCell (p := ⟨g, i, none⟩) (by show u.heap.size ≤ g; omega) _)
  have x3 : (w2.setCell ⟨g, i, none⟩ (.int .i64 (k : Int))).cell? ⟨Q, 0, none⟩ = some (.slice (some ⟨b, 0, none⟩) n c) := by rw [Lib.cell_of_heap E3.out]; rfl
  have xf : (w2.setCell ⟨g, i, none⟩ (.int .i64 (k : Int))).frozen? ⟨Q, 0, none⟩ = false := Lib.frozen_of_heap E3.out 0
  have F : Hid (RFm base Q n (fupd K i k) ((w2.setCell ⟨g, i, none⟩ (.int .i64 (k : Int))).setCell ⟨Q, 0, none⟩ (.slice (some ⟨g, 0, none⟩) n cap))) := Lib.hid ⟨⟨_, Joins.block_setCell (i := 0) E3.out _, .inr ⟨h0, g, cap, rfl, by have := HB.out; omega, R3.out.kept (set_else12 _ NE.out.symm)⟩⟩, LO.out⟩
  have KF := Lib.hid ((KpS.of W3.out : KpS (QS Q) u _).trans (KpS.set (QS.a Q) 0 (.slice (some ⟨g, 0, none⟩) n cap) (w2.setCell ⟨g, i, none⟩ (.int .i64 (k : Int)))))
  have RN : Hid (Rnew Q u ((w2.setCell ⟨g, i, none⟩ (.int .i64 (k : Int))).setCell ⟨Q, 0, none⟩ (.slice (some ⟨g, 0, none⟩) n cap))) := Lib.hid (Rnew.box (Joins.block_setCell (i := 0) E3.out _) (fun q hq => by
    simp only [Value.ownBlock, Option.some.injEq] at hq
    omega))
  unfold gK at y0
  clear hrow hb2 hg x0
  go_wp2_with fail
  exact bodyPost_end (v := .tuple #[]) (by simp [results, Try.results38, go_sem]) rfl ⟨rfl, F.out, KF.out, RN.out⟩

/-- the page that is asked for -/
theorem RFm.look (h : RFm base Q n K u) {i : Nat} (hi : i < n) : ∃ b c, u.cell? ⟨Q, 0, none⟩ = some (.slice (some ⟨b, 0, none⟩) n c) ∧ u.cell? ⟨b, i, none⟩ = some (.int .i64 (K i : Int)) := by
  obtain ⟨v, e, hr⟩ := h.box
  rcases hr with ⟨rfl, _⟩ | ⟨h0, b, c, rfl, h1, hr⟩
  · omega
  · exact ⟨b, c, by rw [Lib.cell_of_heap e]; rfl, hr.cell1 hi⟩
theorem RFm.len (h : RFm base Q n K u) : ∃ a c, u.cell? ⟨Q, 0, none⟩ = some (.slice a n c) := by
  obtain ⟨a, c, e, _⟩ := h.slice
  exact ⟨a, c, by rw [Lib.cell_of_heap e]; rfl⟩
set_option maxHeartbeats 1600000 in
theorem ruse12_any (h : RFm base Q n K u) (hb : base ≤ u.heap.size) (hn : n ≤ 1024) (i : Int) : Calls Try.prog 30 #[.pointer (some ⟨Q, 0, none⟩), .int .i64 i] u fun r u' => r = .returned (.int .i64 (useE n K i)) ∧ RFm base Q n (useF n K i) u' ∧ KpS (QS Q) u u' ∧ Rnew Q u u' := by
  have R := Lib.hid h
  have H := Lib.hid (rat12_any h hn i)
  have HB := Lib.hid hb
  unfold inE at H
  clear h hb
  go_enter Try.func30, Try.ntmps30
  by_cases hi : inF n i
  · rw [if_pos hi] at H
    obtain ⟨k, rfl⟩ : ∃ k : Nat, i = (k : Int) := ⟨i.toNat, by have := hi.1; omega⟩
    have hk : k < n := by have := hi.2; omega
    have hk1 : (k : Int) < (n : Int) := by omega
    have hk2 : (0 : Int) ≤ (k : Int) := by omega
    obtain ⟨b, c, x0, x1⟩ := R.out.look hk
    by_cases hz : K k = 0
    · have E1 : Hid (useE n K (k : Int) = 0) := Lib.hid (by unfold useE; rw [if_pos hi, Int.toNat_natCast, if_pos hz])
      have E2 : Hid (useF n K (k : Int) = fupd K k 1) := Lib.hid (by unfold useF; rw [if_pos hi, Int.toNat_natCast, if_pos hz])
      have HS := Lib.hid (rset12_any R.out HB.out hn k 1 hk)
      rw [hz] at x1
      clear hi hk hz
      go_wp2_with fail
      refine (H.out).mono ?_
      rintro e w1 ⟨rfl, rfl⟩
      go_wp2_with fail
      refine (HS.out).mono ?_
      rintro e w2 ⟨rfl, r2, k2, n2⟩
      have R2 := Lib.hid r2
      have K2 := Lib.hid k2
      have N2 := Lib.hid n2
      clear r2 k2 n2 x0 x1
      go_wp2_with fail
      go_ret
      exact ⟨by rw [E1.out]; rfl, by rw [E2.out]; exact R2.out, K2.out, N2.out⟩
    · have E1 : Hid (useE n K (k : Int) = 10) := Lib.hid (by unfold useE; rw [if_pos hi, Int.toNat_natCast, if_neg hz])
      have E2 : Hid (useF n K (k : Int) = K) := Lib.hid (by unfold useF; rw [if_pos hi, Int.toNat_natCast, if_neg hz])
      have dz : (((K k : Nat) : Int) != 0) = true := by simp; omega
      clear hi hk
      generalize ((K k : Nat) : Int) = q at *
      go_wp2_with fail
      refine (H.out).mono ?_
      rintro e w1 ⟨rfl, rfl⟩
      go_wp2_with fail
      go_ret
      exact ⟨by rw [E1.out]; rfl, by rw [E2.out]; exact R.out, KpS.refl _ _, Rnew.refl _ _⟩
  · rw [if_neg hi] at H
    have E1 : Hid (useE n K i = 3) := Lib.hid (by unfold useE; rw [if_neg hi])
    have E2 : Hid (useF n K i = K) := Lib.hid (by unfold useF; rw [if_neg hi])
    clear hi
    go_wp2_with fail
    refine (H.out).mono ?_
    rintro e w1 ⟨rfl, rfl⟩
    go_wp2_with fail
    go_ret
    exact ⟨by rw [E1.out]; rfl, by rw [E2.out]; exact R.out, KpS.refl _ _, Rnew.refl _ _⟩
set_option maxHeartbeats 1600000 in
theorem rleave12_any (h : RFm base Q n K u) (hb : base ≤ u.heap.size) (hn : n ≤ 1024) (i : Int) : Calls Try.prog 31 #[.pointer (some ⟨Q, 0, none⟩), .int .i64 i] u fun r u' => r = .returned (.int .i64 (leaveE n K i)) ∧ RFm base Q n (leaveF n K i) u' ∧ KpS (QS Q) u u' ∧ Rnew Q u u' := by
  have R := Lib.hid h
  have H := Lib.hid (rat12_any h hn i)
  have HB := Lib.hid hb
  unfold inE at H
  clear h hb
  go_enter Try.func31, Try.ntmps31
  by_cases hi : inF n i
  · rw [if_pos hi] at H
    obtain ⟨k, rfl⟩ : ∃ k : Nat, i = (k : Int) := ⟨i.toNat, by have := hi.1; omega⟩
    have hk : k < n := by have := hi.2; omega
    have hk1 : (k : Int) < (n : Int) := by omega
    have hk2 : (0 : Int) ≤ (k : Int) := by omega
    obtain ⟨b, c, x0, x1⟩ := R.out.look hk
    by_cases hz : K k = 1
    · have E1 : Hid (leaveE n K (k : Int) = 0) := Lib.hid (by unfold leaveE; rw [if_pos hi, Int.toNat_natCast, if_pos (.inl hz)])
      have E2 : Hid (leaveF n K (k : Int) = fupd K k 3) := Lib.hid (by unfold leaveF; rw [if_pos hi, Int.toNat_natCast, if_pos hz])
      have HS := Lib.hid (rset12_any R.out HB.out hn k 3 hk)
      rw [hz] at x1
      clear hi hk hz
      go_wp2_with fail
      refine (H.out).mono ?_
      rintro e w1 ⟨rfl, rfl⟩
      go_wp2_with fail
      refine (HS.out).mono ?_
      rintro e w2 ⟨rfl, r2, k2, n2⟩
      have R2 := Lib.hid r2
      have K2 := Lib.hid k2
      have N2 := Lib.hid n2
      clear r2 k2 n2 x0 x1
      go_wp2_with fail
      go_ret
      exact ⟨by rw [E1.out]; rfl, by rw [E2.out]; exact R2.out, K2.out, N2.out⟩
    · have dz : (((K k : Nat) : Int) == 1) = false := by simp; omega
      by_cases hz2 : K k = 2
      · have E1 : Hid (leaveE n K (k : Int) = 0) := Lib.hid (by unfold leaveE; rw [if_pos hi, Int.toNat_natCast, if_pos (.inr hz2)])
        have E2 : Hid (leaveF n K (k : Int) = fupd K k 0) := Lib.hid (by unfold leaveF; rw [if_pos hi, Int.toNat_natCast, if_neg hz, if_pos hz2])
        have HS := Lib.hid (rset12_any R.out HB.out hn k 0 hk)
        rw [hz2] at x1
        clear hi hk hz hz2 dz
        go_wp2_with fail
        refine (H.out).mono ?_
        rintro e w1 ⟨rfl, rfl⟩
        go_wp2_with fail
        refine (HS.out).mono ?_
        rintro e w2 ⟨rfl, r2, k2, n2⟩
        have R2 := Lib.hid r2
        have K2 := Lib.hid k2
        have N2 := Lib.hid n2
        clear r2 k2 n2 x0 x1
        go_wp2_with fail
        go_ret
        exact ⟨by rw [E1.out]; rfl, by rw [E2.out]; exact R2.out, K2.out, N2.out⟩
      · have E1 : Hid (leaveE n K (k : Int) = 9) := Lib.hid (by unfold leaveE; rw [if_pos hi, Int.toNat_natCast, if_neg (by omega)])
        have E2 : Hid (leaveF n K (k : Int) = K) := Lib.hid (by unfold leaveF; rw [if_pos hi, Int.toNat_natCast, if_neg hz, if_neg hz2])
        have dz2 : (((K k : Nat) : Int) == 2) = false := by simp; omega
        clear hi hk hz hz2
        generalize ((K k : Nat) : Int) = q at *
        go_wp2_with fail
        refine (H.out).mono ?_
        rintro e w1 ⟨rfl, rfl⟩
        go_wp2_with fail
        go_ret
        exact ⟨by rw [E1.out]; rfl, by rw [E2.out]; exact R.out, KpS.refl _ _, Rnew.refl _ _⟩
  · rw [if_neg hi] at H
    have E1 : Hid (leaveE n K i = 3) := Lib.hid (by unfold leaveE; rw [if_neg hi])
    have E2 : Hid (leaveF n K i = K) := Lib.hid (by unfold leaveF; rw [if_neg hi])
    clear hi
    go_wp2_with fail
    refine (H.out).mono ?_
    rintro e w1 ⟨rfl, rfl⟩
    go_wp2_with fail
    go_ret
    exact ⟨by rw [E1.out]; rfl, by rw [E2.out]; exact R.out, KpS.refl _ _, Rnew.refl _ _⟩
set_option maxHeartbeats 1600000 in
theorem rtake12_any (h : RFm base Q n K u) (hb : base ≤ u.heap.size) (hn : n ≤ 1024) : Calls Try.prog 33 #[.pointer (some ⟨Q, 0, none⟩)] u fun r u' => r = .returned (.tuple #[.int .i64 (takeI n K), .int .i64 (takeE n K)]) ∧ RFm base Q n (takeF n K) u' ∧ KpS (QS Q) u u' ∧ Rnew Q u u' := by
  have R := Lib.hid h
  have HB := Lib.hid hb
  obtain ⟨a0, c0, y0⟩ := h.len
  clear h hb
  go_enter Try.func33, Try.ntmps33
  go_wp2_with fail
  go_loopw [4] (fun i wr => ∃ j : Nat, j ≤ n ∧ i = .int .i64 j ∧ (∀ q, q < j → K q ≠ 0) ∧ wr = u) (fun i _ => n - (intOf i).toNat)
  case atStart => exact ⟨0, Nat.zero_le _, rfl, fun q hq => absurd hq (by omega), rfl⟩
  case round =>
    obtain ⟨j, hj, rfl, hall, rfl⟩ := hrel
    have HALL := Lib.hid hall
    clear hall
    by_cases hlt : j < n
    · have hj1 : (j : Int) < (n : Int) := by omega
      have hj2 : (0 : Int) ≤ (j : Int) := by omega
      have d1 : decide ((j : Int) < (n : Int)) = true := by simp [hlt]
      obtain ⟨b, c, x0, x1⟩ := R.out.look hlt
      rw [x0] at y0
      simp only [Option.some.injEq, Value.slice.injEq] at y0
      clear y0
      by_cases hz : K j = 0
      · have HF : Hid (firstN K n = j) := Lib.hid (firstN_of hlt hz HALL.out)
        have E1 : Hid (takeE n K = 0) := Lib.hid (by unfold takeE; rw [HF.out, if_pos hlt])
        have E2 : Hid (takeI n K = (j : Int)) := Lib.hid (by unfold takeI; rw [HF.out, if_pos hlt])
        have E3 : Hid (takeF n K = fupd K j 2) := Lib.hid (by unfold takeF; rw [HF.out, if_pos hlt])
        have HS := Lib.hid (rset12_any R.out HB.out hn j 2 hlt)
        rw [hz] at x1
        clear hz
        go_wp2_with fail
        refine (HS.out).mono ?_
        rintro e w2 ⟨rfl, r2, k2, n2⟩
        have R2 := Lib.hid r2
        have K2 := Lib.hid k2
        have N2 := Lib.hid n2
        clear r2 k2 n2 x0 x1
        go_wp2_with fail
        go_ret2
        exact ⟨by rw [E1.out, E2.out]; rfl, by rw [E3.out]; exact R2.out, K2.out, N2.out⟩
      · have dz : (((K j : Nat) : Int) == 0) = false := by simp; omega
        have HZ := Lib.hid hz
        clear hz
        generalize ((K j : Nat) : Int) = q at *
        go_wp2_with fail
        go_roundw
        case rel => exact ⟨j + 1, hlt, by go_num, fun q hq => by
          rcases Nat.lt_or_ge q j with c | c
          · exact HALL.out q c
          · obtain rfl : q = j := by omega
            exact HZ.out, trivial⟩
        case measure => simp [intOf]; omega
    · obtain rfl : j = n := by omega
      have d1 : decide ((j : Int) < (j : Int)) = false := by simp
      have HF : Hid (firstN K j = j) := Lib.hid (firstN_none HALL.out)
      have E1 : Hid (takeE j K = 11) := Lib.hid (by unfold takeE; rw [HF.out, if_neg (by omega)])
      have E2 : Hid (takeI j K = 0) := Lib.hid (by unfold takeI; rw [HF.out, if_neg (by omega)])
      have E3 : Hid (takeF j K = K) := Lib.hid (by unfold takeF; rw [HF.out, if_neg (by omega)])
      go_wp2_with fail
      go_ret2
      exact ⟨by rw [E1.out, E2.out]; rfl, by rw [E3.out]; exact R.out, KpS.refl _ _, Rnew.refl _ _⟩

end Go.Proofs.Ytbjmdejnipleoaa
