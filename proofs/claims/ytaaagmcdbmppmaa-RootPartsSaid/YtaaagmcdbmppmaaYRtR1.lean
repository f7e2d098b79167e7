/- The contracts of the document's Need and GetPart. -/
import Derived.Deep.DeepCutAuto
import Derived.Test.YtaaagmcdbmppmaaYRtParts
import Derived.Test.YtaaagmcdbmppmaaYZ18
import Derived.Test.YtaaagmcdbmppmaaYModelInts
import Derived.Test.YtaaagmcdbmppmaaYZ0
import Derived.Test.YtaaagmcdbmppmaaYAppendNew
namespace Go.Proofs.Ytaaagmcdbmppmaa
open Go.RowKit Go.Deep
set_option linter.unusedVariables false
set_option linter.unusedSimpArgs false
set_option maxRecDepth 100000

theorem infoInt13 : (Try.prog.info? 3).map (fun i => (i.zero, i.size, i.bytes)) = some (some (.int .i64 0), 1, 8) := by kernel_rfl
/-- a list of numbers as a slice -/
def LstI (l : List Int) (v : Value) (u : World) : Prop := Sl 1 (gW fun i => l.getD i 0) l.length v u
theorem LstI.below {l : List Int} {v : Value} {u u2 : World} (h : LstI l v u) (k : Below u.heap.size u u2) : LstI l v u2 := Sl.below h k
theorem LstI.nil (u : World) : LstI [] (.slice none 0 0) u := ⟨none, 0, rfl, Nat.le_refl _, by omega, fun h => absurd h (Nat.lt_irrefl 0)⟩
def intV (l : List Int) : List Value := l.map (Value.int .i64)
theorem intV_row (l : List Int) : intV l = rowCells 1 (gW fun i => l.getD i 0) l.length := by
  apply List.ext_getElem?
  intro k
  have hl : (rowCells 1 (gW fun i => l.getD i 0) l.length).length = l.length := by rw [rowCells_len, Nat.mul_one]
  rcases Nat.lt_or_ge k l.length with h | h
  · have e := rowCells_at (gW fun i => l.getD i 0) (C := 1) (n := l.length) (i := k) (j := 0) h (by omega)
    rw [Nat.mul_one, Nat.add_zero] at e
    rw [e]
    show _ = some (Value.int .i64 (l.getD k 0))
    unfold intV
    rw [List.getElem?_map, List.getElem?_eq_getElem h, List.getD_eq_getElem?_getD, List.getElem?_eq_getElem h]
    rfl
  · rw [List.getElem?_eq_none (by unfold intV; simpa using h), List.getElem?_eq_none (by rw [hl]; exact h)]
theorem LstI.of {b : Nat} {l : List Int} {v : Value} {u : World} (h : u.ownsRow b 3 1 v l.length (intV l)) : LstI l v u := by
  rw [intV_row] at h
  exact own_sl h
/-- what the document's GetPart hands back -/
def getL (s : ByteArray) (m : Int) : List Int := if tellE s m = 0 then tellL s m.toNat else []
theorem tellL_succ (s : ByteArray) (j : Nat) : tellL s (j + 1) = tellL s j ++ [numP s j - 1] := by
  unfold tellL
  rw [List.range_succ, List.map_append]
  rfl
theorem ilit_cells13 (w : World) (x : Value) : ∀ j v, [x][j]? = some v → (w.alloc (.cells #[x] 3)).cell? ((⟨w.heap.size, 0, none⟩ : Addr).add j) = some v := by
  intro j v hj
  rcases j with _ | j
  · simp only [List.getElem?_cons_zero, Option.some.injEq] at hj
    subst hj
    rw [add_plain, Lib.cell_of_heap (heap_alloc_new w _)]
    rfl
  · simp at hj
theorem rgetpart_bad (s : ByteArray) (m e : Int) (hs : s.size ≤ 9223372036854775807) (h : (m < 0 ∨ 116 < m) ∧ e = 2 ∨ ¬ (m < 0 ∨ 116 < m) ∧ (s.size : Int) < 2 * m ∧ e = 5) (w : World) :
    Calls Try.prog 15 #[.string s, .int .i64 m] w fun r w' => r = .returned (.tuple #[.slice none 0 0, .int .i64 e]) ∧ w' = w := by
  rcases h with ⟨h | h, rfl⟩ | ⟨h, h2, rfl⟩
  · have d : decide (m < 0) = true := by simp [h]
    go_enter Try.func15, Try.ntmps15
    go_wp2_with fail
    go_ret2
    exact ⟨rfl, rfl⟩
  · have d : decide (m < 0) = false := by simp; omega
    have d2 : decide (116 < m) = true := by simp [h]
    go_enter Try.func15, Try.ntmps15
    go_wp2_with fail
    go_ret2
    exact ⟨rfl, rfl⟩
  · have d : decide (m < 0) = false := by simp; omega
    have d2 : decide (116 < m) = false := by simp; omega
    have d3 : decide ((s.size : Int) < 2 * m) = true := by simp [h2]
    have h3 : -9223372036854775808 ≤ 2 * m ∧ 2 * m ≤ 9223372036854775807 := by omega
    clear h
    go_enter Try.func15, Try.ntmps15
    go_wp2_with fail
    go_ret2
    exact ⟨rfl, rfl⟩

set_option maxHeartbeats 3200000 in
theorem rgetpart_go (s : ByteArray) (m : Nat) (hs : s.size ≤ 9223372036854775807) (hm : m ≤ 116) (h2 : 2 * m ≤ s.size) (w : World) :
    Calls Try.prog 15 #[.string s, .int .i64 (m : Int)] w fun r w' => ∃ v, r = .returned (.tuple #[v, .int .i64 (tellE s m)]) ∧ LstI (getL s m) v w' ∧ Below w.heap.size w w' := by
  obtain ⟨i0, hi0, hz0, hz1, hz2⟩ := info_parts infoInt13
  have E : Hid (tellE s (m : Int) = if ∃ i, i < m ∧ 1024 < numP s i then 14 else 0) := Lib.hid (by
    unfold tellE
    rw [if_neg (by omega), if_neg (by omega), Int.toNat_natCast])
  have EL : Hid (getL s (m : Int) = if ∃ i, i < m ∧ 1024 < numP s i then [] else tellL s m) := Lib.hid (by
    unfold getL
    rw [E.out, Int.toNat_natCast]
    split <;> simp)
  have d : decide ((m : Int) < 0) = false := by simp
  have d2 : decide ((116 : Int) < (m : Int)) = false := by simp; omega
  have d3 : decide ((s.size : Int) < 2 * (m : Int)) = false := by simp; omega
  have d4 : decide (s.size < 2 * m) = false := by simp; omega
  have H2 := Lib.hid h2
  have HM := Lib.hid hm
  go_enter Try.func15, Try.ntmps15
  go_wp2_with fail
  go_loopw [6, 7] (fun v i wr => ∃ j : Nat, j ≤ m ∧ i = .int .i64 j ∧ Hid (∀ i, i < j → numP s i ≤ 1024) ∧ Hid (wr.ownsRow w.heap.size 3 1 v (tellL s j).length (intV (tellL s j))) ∧ Hid (Below w.heap.size w wr)) (fun _ i _ => m - (intOf i).toNat)
  case atStart => exact ⟨0, Nat.zero_le _, rfl, Lib.hid (fun i hi => absurd hi (Nat.not_lt_zero i)), Lib.hid (World.ownsRow_nil _ _ _ _), Lib.hid (Below.refl _ _)⟩
  case round =>
    obtain ⟨j, hj, rfl, HG, HO, HB⟩ := hrel
    by_cases hlt : j < m
    · have hj1 : (j : Int) < (m : Int) := by omega
      have hj2 : (0 : Int) ≤ (j : Int) := by omega
      have e1 : decide ((j : Int) < (m : Int)) = true := by simp [hlt]
      have L0 : 2 * j < s.size := by omega
      have L1 : 2 * j + 1 < s.size := by omega
      have k0 := byteI_at s (2 * j) L0
      have k1 := byteI_at s (2 * j + 1) L1
      rw [byteI_byD] at k0 k1
      have J0 : 2 * (j : Int) < (s.size : Int) := by omega
      have J1 : 2 * (j : Int) + 1 < (s.size : Int) := by omega
      have J2 : (0 : Int) ≤ 2 * (j : Int) := by omega
      have J3 : (0 : Int) ≤ 2 * (j : Int) + 1 := by omega
      have T0 : (2 * (j : Int)).toNat = 2 * j := by omega
      have T1 : (2 * (j : Int) + 1).toNat = 2 * j + 1 := by omega
      have g0 := byD_bd s (2 * j)
      have g1 := byD_bd s (2 * j + 1)
      obtain ⟨q, hq⟩ : ∃ q, q = numP s j := ⟨_, rfl⟩
      have HQ : Hid (q = numP s j) := Lib.hid hq
      have hq2 : q = byD s (2 * j) * 256 + byD s (2 * j + 1) := hq
      clear hq
      generalize byD s (2 * j) = m0 at *
      generalize byD s (2 * j + 1) = m1 at *
      go_upto_region 9 with fail
      go_region
      go_upto_region 10 with fail
      rw [← hq2]
      have W1 := Lib.hid (bthen HB.out (bdrew wr))
      have O1 := Lib.hid (own_below HO.out (bdrew wr))
      generalize World.drew wr = w1 at *
      clear HO HB k0 k1 T0 T1 J0 J1 J2 J3 L0 L1
      have HQB : Hid (0 ≤ q ∧ q ≤ 65535) := Lib.hid (by omega)
      clear hq2 g0 g1
      by_cases hbig : 1024 < q
      · have d5 : decide (1024 < q) = true := by simp [hbig]
        have X : ∃ i, i < m ∧ 1024 < numP s i := ⟨j, hlt, by rw [← HQ.out]; exact hbig⟩
        have E2 : Hid (tellE s (m : Int) = 14) := Lib.hid (by rw [E.out, if_pos X])
        have E3 : Hid (getL s (m : Int) = []) := Lib.hid (by rw [EL.out, if_pos X])
        clear X hbig
        go_wp2_with fail
        go_ret2
        exact ⟨_, by rw [E2.out]; rfl, by rw [E3.out]; exact LstI.nil _, W1.out⟩
      · have d5 : decide (1024 < q) = false := by simp; omega
        have hq3 : -9223372036854775808 ≤ q - 1 ∧ q - 1 ≤ 9223372036854775807 := by have := HQB.out; omega
        have HJ := Lib.hid hlt
        have HG2 : Hid (∀ i, i < j + 1 → numP s i ≤ 1024) := Lib.hid (fun i hi => by
          rcases Nat.lt_succ_iff_lt_or_eq.1 hi with h | rfl
          · exact HG.out i h
          · rw [← HQ.out]; omega)
        have ELL : Hid (tellL s (j + 1) = tellL s j ++ [q - 1]) := Lib.hid (by rw [HQ.out]; exact tellL_succ s j)
        have hlen : (tellL s j).length ≤ 116 := by rw [tellL_len]; omega
        have B1 := balloc w1 (.cells #[.int .i64 (q - 1)] 3)
        have O2 := Lib.hid (own_below O1.out B1)
        have W2 := Lib.hid (W1.out.trans (B1.mono W1.out.size))
        have SZ := Lib.hid (Nat.le_trans W1.out.size B1.size)
        clear B1 hbig O1
        go_wp2_with (at_builtin; refine wpList_append_own _ rfl _ _ 22 rfl w.heap.size 3 i0 (.int .i64 0) 1 8 Try.underlying22 hi0 hz0 hz1 hz2 rfl (by decide) _ (tellL s j).length _ rfl O2.out ⟨w1.heap.size, 0, none⟩ 1 1 [.int .i64 (q - 1)] rfl rfl (ilit_cells13 w1 _) (by intro x hx; simp only [List.mem_cons, List.not_mem_nil, or_false] at hx; subst hx; rfl) (by unfold maxLen; omega) (by omega) SZ.out ?_)
        intro v4 w4 ho4 hg4 _
        have O4 : Hid (w4.ownsRow w.heap.size 3 1 v4 (tellL s (j + 1)).length (intV (tellL s (j + 1)))) := Lib.hid (by
          rw [ELL.out, List.length_append, List.length_singleton]
          unfold intV at ho4 ⊢
          rw [List.map_append]
          exact ho4)
        have W4 := Lib.hid (W2.out.trans ((Below.refl _ _).grown hg4 SZ.out (fun g hg => (O2.out.lt g hg).1)))
        clear ho4 hg4
        go_wp2_with fail
        go_roundw
        case rel => exact ⟨j + 1, HJ.out, by go_num, HG2, O4, W4⟩
        case measure => have := HJ.out; simp [intOf]; omega
    · obtain rfl : j = m := by omega
      have d9 : decide ((j : Int) < (j : Int)) = false := by simp
      have X : ¬ ∃ i, i < j ∧ 1024 < numP s i := fun ⟨i, hi, hb⟩ => by have := HG.out i hi; omega
      have E2 : Hid (tellE s (j : Int) = 0) := Lib.hid (by rw [E.out, if_neg X])
      have E3 : Hid (getL s (j : Int) = tellL s j) := Lib.hid (by rw [EL.out, if_neg X])
      clear X
      go_wp2_with fail
      go_ret2
      exact ⟨_, by rw [E2.out]; rfl, by rw [E3.out]; exact LstI.of HO.out, HB.out⟩
theorem rgetpart_any (s : ByteArray) (m : Int) (hs : s.size ≤ 9223372036854775807) (w : World) :
    Calls Try.prog 15 #[.string s, .int .i64 m] w fun r w' => ∃ v, r = .returned (.tuple #[v, .int .i64 (tellE s m)]) ∧ LstI (getL s m) v w' ∧ Below w.heap.size w w' := by
  by_cases h : m < 0 ∨ 116 < m
  · have E : tellE s m = 2 := by unfold tellE; rw [if_pos h]
    refine (rgetpart_bad s m 2 hs (.inl ⟨h, rfl⟩) w).mono fun r w' hr => ?_
    obtain ⟨hr, rfl⟩ := hr
    exact ⟨_, by rw [hr, E], by unfold getL; rw [E, if_neg (by decide)]; exact LstI.nil _, Below.refl _ _⟩
  · by_cases h2 : (s.size : Int) < 2 * m
    · have E : tellE s m = 5 := by unfold tellE; rw [if_neg h, if_pos h2]
      refine (rgetpart_bad s m 5 hs (.inr ⟨h, h2, rfl⟩) w).mono fun r w' hr => ?_
      obtain ⟨hr, rfl⟩ := hr
      exact ⟨_, by rw [hr, E], by unfold getL; rw [E, if_neg (by decide)]; exact LstI.nil _, Below.refl _ _⟩
    · obtain ⟨k, rfl⟩ : ∃ k : Nat, m = (k : Int) := ⟨m.toNat, by omega⟩
      exact rgetpart_go s k hs (by omega) (by omega) w

end Go.Proofs.Ytaaagmcdbmppmaa
