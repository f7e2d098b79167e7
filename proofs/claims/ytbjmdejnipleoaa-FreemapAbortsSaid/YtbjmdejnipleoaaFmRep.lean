/- The contract of slices.Repeat at one number 0: a row of zeros in new memory. -/
import Derived.Test.YtbjmdejnipleoaaFmLaw1
import Derived.Laws.CopyOwn
import Derived.Deep.RegionLaw
namespace Go.Proofs.Ytbjmdejnipleoaa
open Go.RowKit Go.Deep
set_option linter.unusedVariables false
set_option linter.unusedSimpArgs false
set_option maxRecDepth 100000

theorem and32 (n : Nat) (hn : n ≤ 1024) : bits .and .u64 (n : Int) 4294967295 = (n : Int) := by
  have h := bits_and_u64 n 4294967295 (by omega) (by omega)
  have e : n &&& 4294967295 = n := by
    have := Nat.and_two_pow_sub_one_eq_mod n 32
    rw [show (2 ^ 32 - 1 : Nat) = 4294967295 from rfl] at this
    rw [this]
    omega
  rw [e] at h
  exact h
set_option maxHeartbeats 800000 in
theorem mul1_any (n : Nat) (hn : n ≤ 1024) (w : World) : Calls Try.prog 40 #[.int .u64 1, .int .u64 (n : Int)] w fun e w' => e = .returned (.tuple #[.int .u64 0, .int .u64 (n : Int)]) ∧ w' = w := by
  have a1 := and32 n hn
  have s1 : (n : Int) / 4294967296 = 0 := by omega
  have w1 : IntKind.u64.wrap (n : Int) = n := by rw [IntKind.wrap_u64]; omega
  have b1 : bits .and .u64 1 4294967295 = 1 := and32 1 (by omega)
  clear hn
  go_enter Try.func40, Try.ntmps40
  go_wp2_with fail
  go_ret2
  exact ⟨rfl, rfl⟩
set_option maxHeartbeats 800000 in
theorem bmul1_any (n : Nat) (hn : n ≤ 1024) (w : World) : Calls Try.prog 36 #[.int .u64 1, .int .u64 (n : Int)] w fun e w' => e = .returned (.tuple #[.int .u64 0, .int .u64 (n : Int)]) ∧ w' = w := by
  have H := Lib.hid (mul1_any n hn w)
  clear hn
  go_enter Try.func36, Try.ntmps36
  go_wp2_with fail
  refine (H.out).mono ?_
  rintro e w1 ⟨rfl, hw⟩
  rw [hw]
  go_wp2_with fail
  go_ret2
  exact ⟨rfl, rfl⟩

theorem splice_zeros (z : Value) (n off m : Nat) (h : off + m ≤ n) : splice (List.replicate n z) off (List.replicate m z) = List.replicate n z := by
  unfold splice
  rw [List.take_replicate, List.drop_replicate, List.replicate_append_replicate, List.replicate_append_replicate, List.length_replicate]
  congr 1
  omega
theorem made_row12 {w : World} {base g n : Nat} {e : TypeId} (h : w.ownsRow base e 1 (.slice (some ⟨g, 0, none⟩) n n) n (madeCells #[Value.int .i64 0] n).toList) :
    w.heap[g]? = some (.cells (List.replicate n (Value.int .i64 0)).toArray e (0, 0)) := by
  rcases h.2 with ⟨h1, _⟩ | ⟨g', cap, cur, h1, _, h2, h3, _, h4, h5⟩
  · simp at h1
  · simp only [Value.slice.injEq, Option.some.injEq, Addr.mk.injEq, and_true, true_and] at h1
    obtain ⟨rfl, rfl⟩ := h1
    rw [h2]
    rw [toList_madeCells_one] at h5
    have e : cur.toList = List.replicate n (Value.int .i64 0) := by
      rw [← h5]
      exact (List.take_of_length_le (by simp; omega)).symm
    rw [← e]
theorem zero_cell {w : World} {g n : Nat} {e : TypeId} (h : w.heap[g]? = some (.cells (List.replicate n (Value.int .i64 0)).toArray e (0, 0))) {i : Nat} (hi : i < n) : w.cell? ⟨g, i, none⟩ = some (.int .i64 0) := by
  rw [Lib.cell_of_heap h]
  simp [hi]
theorem size_int12 : (Try.prog.info? 3).map (·.size) = some 1 := by kernel_rfl
theorem zeros_src {w : World} {g n k : Nat} {e : TypeId} (h : w.heap[g]? = some (.cells (List.replicate n (Value.int .i64 0)).toArray e (0, 0))) (hk : k ≤ n) : ∀ j v, (List.replicate k (Value.int .i64 0))[j]? = some v → w.cell? ((⟨g, 0, none⟩ : Addr).add j) = some v := by
  intro j v hj
  rw [add_plain]
  rw [List.getElem?_replicate] at hj
  split at hj
  · rename_i c
    simp only [Option.some.injEq] at hj
    subst hj
    rw [Nat.zero_add]
    exact zero_cell h (by omega)
  · cases hj
theorem zeros_one : ∀ (k : Nat), ∀ v ∈ List.replicate k (Value.int .i64 0), v.oneCell' = true := by
  intro k v hv
  obtain ⟨_, rfl⟩ := List.mem_replicate.1 hv
  rfl
theorem zero_copy {w : World} {g n o dl dc sl sc m : Nat} {ad : Addr} (h : w.heap[g]? = some (.cells (List.replicate n (Value.int .i64 0)).toArray 3 (0, 0))) (hm : m = Nat.min sl dl) (hs : ∀ j v, (List.replicate m (Value.int .i64 0))[j]? = some v → w.cell? (ad.add j) = some v) (ho : o + m ≤ n) :
    (Builtin.copy_ #[31, 31] 3 #[.slice (some ⟨g, o, none⟩) dl dc, .slice (some ad) sl sc]).run Try.prog w = .ok (.int .i64 (m : Int)) w := by
  have h1 := run_copy_row (P := Try.prog) w 31 31 3 3 g o dl dc ad sl sc _ 3 (List.replicate m (Value.int .i64 0)) Try.underlying31 size_int12 h (by rw [List.length_replicate]; exact hm) hs (by simp; omega) (zeros_one m)
  rw [List.length_replicate] at h1
  rw [h1]
  have e : (List.replicate n (Value.int .i64 0)).toArray.toList.take o ++ List.replicate m (Value.int .i64 0) ++ (List.replicate n (Value.int .i64 0)).toArray.toList.drop (o + m) = List.replicate n (Value.int .i64 0) := by
    have := splice_zeros (Value.int .i64 0) n o m ho
    unfold splice at this
    rw [List.length_replicate] at this
    rw [List.append_assoc]
    exact this
  rw [e, setRow_self w g _ _ _ h]
  rfl
set_option maxHeartbeats 1600000 in
theorem repeat0_any (n : Nat) (hn : n ≤ 1024) (b c : Nat) (w : World) (x0 : w.cell? ⟨b, 0, none⟩ = some (.int .i64 0)) : Calls Try.prog 29 #[.slice (some ⟨b, 0, none⟩) 1 c, .int .i64 (n : Int)] w fun r u' => ∃ v, r = .returned v ∧ KRow w.heap.size n (fun _ => 0) v u' ∧ Below w.heap.size w u' := by
  obtain ⟨i0, hi0, hz0, hz1, hz2⟩ := info_parts infoInt12
  have HM := Lib.hid (bmul1_any n hn)
  have d0 : decide ((n : Int) < 0) = false := decide_eq_false (by omega)
  have d1 : decide (9223372036854775807 < (n : Int)) = false := decide_eq_false (by omega)
  have w1 : IntKind.u64.wrap (n : Int) = n := by rw [IntKind.wrap_u64]; omega
  have w2 : IntKind.i64.wrap (n : Int) = n := by rw [IntKind.wrap_i64]; omega
  have X := Lib.hid x0
  clear x0
  go_enter Try.func29, Try.ntmps29
  go_wp2_with (first
    | (go_at_call 36; refine (HM.out _).mono ?_; rintro e w' ⟨rfl, hw⟩; rw [hw])
    | (at_make; refine wpList_make_full _ rfl _ _ _ rfl w.heap.size 3 i0 (.int .i64 0) 1 Try.underlying31 hi0 hz0 hz1 .i64 .i64 _ _ n rfl rfl (by omega) (by omega) (by rw [hz2]; omega) (by unfold maxLen; omega) (by omega) ?_))
  intro u2 hown hgr
  have hB2 : Below w.heap.size w u2 := (Below.refl _ _).grown hgr (Nat.le_refl _) (by simp)
  obtain ⟨g, hg⟩ : ∃ g, g = w.heap.size := ⟨_, rfl⟩
  rw [← hg] at hown ⊢
  have HG := Lib.hid hg
  have H2 := Lib.hid (made_row12 hown)
  have XB : Hid (u2.cell? ⟨b, 0, none⟩ = some (.int .i64 0)) := Lib.hid (by
    have hbl : b < w.heap.size := by obtain ⟨_, _, _, e⟩ := cell_block X.out; exact lt_of_block e
    rw [← X.out]
    exact World.cell?_of_block (hB2.block _ hbl))
  have B2 := Lib.hid hB2
  obtain ⟨m, hm⟩ : ∃ m, m = Nat.min 1 n := ⟨_, rfl⟩
  have hm1 : m ≤ 1 := by rw [hm]; exact Nat.min_le_left _ _
  have hm2 : m ≤ n := by rw [hm]; exact Nat.min_le_right _ _
  have hm3 : 0 < n → 0 < m := by rw [hm]; intro h; exact Nat.lt_min.2 ⟨by omega, h⟩
  have hcp := zero_copy (o := 0) (dl := n) (dc := n) (sl := 1) (sc := c) (ad := ⟨b, 0, none⟩) H2.out hm (fun j v hj => by
    rw [List.getElem?_replicate] at hj
    split at hj
    · simp only [Option.some.injEq] at hj
      subst hj
      obtain rfl : j = 0 := by omega
      exact XB.out
    · cases hj) (by omega)
  have HM3 := Lib.hid hm3
  clear hown hgr hm hm3 hg hB2
  go_wp2_with fail
  go_loopw [8] (fun i wr => ∃ j : Nat, j ≤ n ∧ (0 < n → 0 < j) ∧ i = .int .i64 j ∧ Hid (wr.heap[g]? = some (.cells (List.replicate n (Value.int .i64 0)).toArray 3 (0, 0))) ∧ Hid (Below w.heap.size w wr)) (fun i _ => n - (intOf i).toNat)
  case atStart => exact ⟨m, hm2, HM3.out, rfl, H2, B2⟩
  case round =>
    obtain ⟨j, hj, hj0, rfl, HR, HB⟩ := hrel
    clear hcp
    by_cases hlt : j < n
    · have hj1 : (j : Int) < (n : Int) := by omega
      have hj2 : (0 : Int) ≤ (j : Int) := by omega
      have hj3 : 0 < j := hj0 (by omega)
      have hj4 : (j : Int) ≤ (n : Int) := by omega
      have d2 : decide ((j : Int) < (n : Int)) = true := by simp [hlt]
      have hne : ¬ n = j := by omega
      go_upto_region 9 with fail
      refine wp_region_held_drew (S := (fun w' => True)) (by kernel_rfl) trivial (fun hHeld => ?_)
      change wpAnyH _ _ _ _ _ _ _ _ (World.drew wr)
      have H4 : Hid ((World.drew wr).heap[g]? = some (.cells (List.replicate n (Value.int .i64 0)).toArray 3 (0, 0))) := Lib.hid HR.out
      have B4 := Lib.hid (HB.out.trans ((bdrew wr).mono HB.out.size))
      generalize World.drew wr = w4 at *
      obtain ⟨m2, hm2⟩ : ∃ m2, m2 = Nat.min j (n - j) := ⟨_, rfl⟩
      have hq1 : m2 ≤ j := by rw [hm2]; exact Nat.min_le_left _ _
      have hq2 : m2 ≤ n - j := by rw [hm2]; exact Nat.min_le_right _ _
      have hq3 : 0 < m2 := by rw [hm2]; exact Nat.lt_min.2 ⟨hj3, by omega⟩
      have hcp := zero_copy (o := j) (dl := n - j) (dc := n - j) (sl := j) (sc := n) (ad := ⟨g, 0, none⟩) H4.out hm2 (zeros_src H4.out (by omega)) (by omega)
      clear hm2
      first | refine tq0 0 rfl ?_ | refine tq1 0 rfl ?_
      try go_frame
      first | refine tq0 1 rfl ?_ | refine tq1 1 rfl ?_
      try go_frame
      first | refine tq0 2 rfl ?_ | refine tq1 2 rfl ?_
      try go_frame
      first | refine tq0 3 rfl ?_ | refine tq1 3 rfl ?_
      try go_frame
      first | refine tq0 4 rfl ?_ | refine tq1 4 rfl ?_
      try go_frame
      first | refine tq0 5 rfl ?_ | refine tq1 5 rfl ?_
      try go_frame
      first | refine tq0 6 rfl ?_ | refine tq1 6 rfl ?_
      try go_frame
      refine wpAnyH_ready (rs := [7]) (by kernel_rfl) (by simp) ?_
      refine AllReadyH.cons (o := ⟨_, _, _, _, _, _⟩) rfl (fun Kx hKx => ?_) AllReadyH.nil
      go_simp
      refine hKx.out _ _ trivial (fun hHeld => ?_)
      clear hKx Kx
      try simp only [Act.put, List.setIfInBounds_toArray, List.set_cons_zero, List.set_cons_succ]
      first | refine tq0 8 rfl ?_ | refine tq1 8 rfl ?_
      try go_frame
      first | refine tq0 9 rfl ?_ | refine tq1 9 rfl ?_
      try go_frame
      refine wpAnyH_done (by kernel_rfl) ?_ _
      have HW : Hid (IntKind.i64.wrap ((j : Int) + (m2 : Int)) = ((j + m2 : Nat) : Int)) := Lib.hid (by rw [IntKind.wrap_i64]; omega)
      clear hHeld hcp
      go_wp2_with fail
      go_roundw
      case rel => exact ⟨j + m2, by omega, fun _ => by omega, by rw [HW.out], H4, B4⟩
      case measure => rw [HW.out]; simp [intOf]; omega
    · obtain rfl : j = n := by omega
      have d2 : decide ((j : Int) < (j : Int)) = false := by simp
      go_wp2_with fail
      go_ret
      refine ⟨_, rfl, ?_, HB.out⟩
      by_cases h0 : j = 0
      · subst h0
        exact .inl ⟨rfl, _, _, rfl, by omega, fun p hp => by
          simp only [Option.some.injEq] at hp
          subst hp
          exact ⟨by rw [HG.out]; exact Nat.le_refl _, lt_of_block HR.out⟩⟩
      · exact .inr ⟨by omega, g, j, rfl, by rw [HG.out]; exact Nat.le_refl _, ⟨_, rfl, Nat.le_refl _, by omega⟩, ⟨_, HR.out⟩, fun i hi q hq => by
          obtain rfl : q = 0 := by omega
          rw [Nat.mul_one, Nat.add_zero]
          exact zero_cell HR.out hi⟩

end Go.Proofs.Ytbjmdejnipleoaa
