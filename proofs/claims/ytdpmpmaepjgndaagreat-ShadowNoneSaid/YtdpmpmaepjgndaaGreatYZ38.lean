/- The program's reached: a page that the root reaches is read, and is in use from then on. What Open finds on a disk: which root counts, its table's parts, which pages are in use. Plain mathematics. -/
import Derived.Test.YtdpmpmaepjgndaaGreatYZ31
import Derived.Test.YtdpmpmaepjgndaaGreatYZ30
import Derived.Test.YtdpmpmaepjgndaaGreatYZ24
import Derived.Test.YtdpmpmaepjgndaaGreatYZ21
import Derived.Test.YtdpmpmaepjgndaaGreatYZ22
namespace Go.Proofs.YtdpmpmaepjgndaaGreat
open Go.RowKit Go.Deep
set_option linter.unusedVariables false
set_option linter.unusedSimpArgs false
set_option maxRecDepth 100000

/-- it may be that page -/
def okR (d : Dk) (n : Nat) (K : Nat → Nat) (ep id kd : Int) : Prop := readPE d id = 0 ∧ (readPP d id).kd = kd ∧ (readPP d id).ep ≤ ep ∧ useE n K id = 0
theorem readPE_up {d : Dk} (hd : d.down = false) (id : Int) : readPE d id ≠ 13 := by
  unfold readPE
  rw [hd]
  split
  · decide
  · rw [if_neg (by decide)]
    split
    · split <;> decide
    · unfold getE
      split
      · split
        · split <;> decide
        · decide
      · decide
section
variable {base D P M bS bm cS n : Nat} {d : Dk} {K : Nat → Nat} {ep : Int} {slot : Nat} {tb : Nat → Int} {ot parts : List Int} {vp : Value} {SK : Nat → Bool} {u u2 : World}
set_option maxHeartbeats 3200000 in
theorem sreached_any (m : StoM base D P M bS bm cS d n K ep slot tb ot parts vp SK u) (hd : d.down = false) (hdn : d.n ≤ 4096) (hn : n ≤ 1024) (id kd : Int) : Calls Tryz.prog 103 #[.pointer (some ⟨P, 0, none⟩), .int .i64 id, .int .i64 kd] u fun r u' => ∃ SK2, (∀ k, SK2 k = true → SK k = true ∨ u.heap.size ≤ k) ∧ KpS SK u u' ∧ ((okR d n K ep id kd ∧ r = .returned (.tuple #[.string (readPP d id).pay, .int .i64 0]) ∧ StoM base D P M bS bm cS d n (useF n K id) ep slot tb ot parts vp SK2 u') ∨ (¬ okR d n K ep id kd ∧ r = .returned (.tuple #[.string ByteArray.empty, .int .i64 14]) ∧ StoM base D P M bS bm cS d n K ep slot tb ot parts vp SK2 u')) := by
  have HR := Lib.hid (ppread_any m.dk hdn id)
  have hup := readPE_up hd id
  unfold readRet at HR
  obtain ⟨e, he⟩ : ∃ e, readPE d id = e := ⟨_, rfl⟩
  obtain ⟨pid, pep, pkd, pay, hp⟩ : ∃ a b c p, readPP d id = ⟨a, b, c, p⟩ := ⟨_, _, _, _, rfl⟩
  rw [he, hp] at HR
  rw [he] at hup
  have HE := Lib.hid he
  have HP := Lib.hid hp
  have MM := Lib.hid m
  obtain ⟨c0, c3, c4, c5, c6, c7, cf⟩ := m.look
  clear m he hp c3 c4 c5 c6 c7 cf
  go_enter Tryz.func103, Tryz.ntmps103
  go_wp2_with fail
  refine (HR.out).mono ?_
  rintro r w1 ⟨rfl, hb1⟩
  have M1 := Lib.hid (MM.out.below hb1)
  have X2 := Lib.hid (heap_alloc_new w1 (.cells #[.int .i64 pid, .int .i64 pep, .int .i64 pkd, .string pay] 41))
  have BA := Lib.hid (balloc w1 (.cells #[.int .i64 pid, .int .i64 pep, .int .i64 pkd, .string pay] 41))
  have M2 := Lib.hid (M1.out.below BA.out)
  have B2 := Lib.hid (bthen hb1 BA.out)
  have HB1 := Lib.hid hb1.size
  have G2 := X2
  clear hb1 HR c0
  unfold pgV
  go_upto_region 2 with fail
  obtain ⟨G, hG⟩ : ∃ G, G = w1.heap.size := ⟨_, rfl⟩
  have HGL : Hid (u.heap.size ≤ G) := Lib.hid (by rw [hG]; exact HB1.out)
  rw [← hG] at G2 ⊢
  generalize w1.alloc (.cells #[.int .i64 pid, .int .i64 pep, .int .i64 pkd, .string pay] 41) = w2 at *
  obtain ⟨g0, g1, g2, g3⟩ := four_cells G2.out
  obtain ⟨c0, c3, c4, c5, c6, c7, cf⟩ := M2.out.look
  clear hG g0 c0 c5 c6 c7 cf X2 BA M1
  by_cases h0 : e ≠ 0
  · -- it can not be read
    have hne := h0
    have d1 : (e == 13) = false := by simp [hup]
    have d2 : (e == 0) = false := by simp [h0]
    have d3 : decide (e = 13) = false := by simp [hup]
    have d4 : decide (e = 0) = false := by simp [h0]
    have d5 : (e != 0) = true := by simp [h0]
    clear h0 g3
    have NO : Hid (¬ okR d n K ep id kd) := Lib.hid (by unfold okR; rw [HE.out, HP.out]; rintro ⟨h1, h2, h3, h4⟩; first | exact hne h1 | exact hne h2 | exact hne h3)
    clear hne
    go_upto_region 4 with fail
    refine wp_region_held_drew (S := (fun w' => w'.cell? ⟨G, 1, none⟩ = some (.int .i64 pep) ∧ w'.cell? ⟨G, 2, none⟩ = some (.int .i64 pkd) ∧ w'.cell? ⟨P, 1026, none⟩ = some (.int .i64 ep) ∧ w'.cell? ⟨P, 1025, none⟩ = some (.pointer (some ⟨M, 0, none⟩)))) (by kernel_rfl) ⟨g1, g2, c4, c3⟩ (fun hHeld => ?_)
    change wpAnyH _ _ _ _ _ _ _ _ (World.drew w2)
    have MD := Lib.hid (M2.out.below (bdrew w2))
    have BD := Lib.hid (B2.out.trans ((bdrew w2).mono B2.out.size))
    have GD := Lib.hid (heap_stays G2.out (bdrew w2))
    clear g1 g2 c4 c3
    generalize World.drew w2 = wd at *
    first | refine tq0 0 rfl ?_ | refine tq1 0 rfl ?_
    try go_frame
    first | refine tq0 1 rfl ?_ | refine tq1 1 rfl ?_
    try go_frame
    first | refine tq0 2 rfl ?_ | refine tq1 2 rfl ?_
    try go_frame
    first | refine tq0 3 rfl ?_ | refine tq1 3 rfl ?_
    try go_frame
    first | refine tq0 4 rfl ?_ | refine tq1 4 rfl ?_
    try go_frame
    first | refine tq0 5 rfl ?_ | refine tq1 5 rfl ?_
    try go_frame
    first | refine tq0 6 rfl ?_ | refine tq1 6 rfl ?_
    try go_frame
    first | refine tq0 7 rfl ?_ | refine tq1 7 rfl ?_
    try go_frame
    first | refine tq0 8 rfl ?_ | refine tq1 8 rfl ?_
    try go_frame
    first | refine tq0 9 rfl ?_ | refine tq1 9 rfl ?_
    try go_frame
    first | refine tq0 10 rfl ?_ | refine tq1 10 rfl ?_
    try go_frame
    first | refine tq0 11 rfl ?_ | refine tq1 11 rfl ?_
    try go_frame
    first | refine tq0 12 rfl ?_ | refine tq1 12 rfl ?_
    try go_frame
    first | refine tq0 13 rfl ?_ | refine tq1 13 rfl ?_
    try go_frame
    first | refine tq0 14 rfl ?_ | refine tq1 14 rfl ?_
    try go_frame
    first | refine tq0 15 rfl ?_ | refine tq1 15 rfl ?_
    try go_frame
    first | refine tq0 16 rfl ?_ | refine tq1 16 rfl ?_
    try go_frame
    first | refine tq0 17 rfl ?_ | refine tq1 17 rfl ?_
    try go_frame
    first | refine tq0 18 rfl ?_ | refine tq1 18 rfl ?_
    try go_frame
    first | refine tq0 19 rfl ?_ | refine tq1 19 rfl ?_
    try go_frame
    first | refine tq0 20 rfl ?_ | refine tq1 20 rfl ?_
    try go_frame
    first | refine tq0 21 rfl ?_ | refine tq1 21 rfl ?_
    try go_frame
    first | refine tq0 22 rfl ?_ | refine tq1 22 rfl ?_
    try go_frame
    first | refine tq0 23 rfl ?_ | refine tq1 23 rfl ?_
    try go_frame
    first | refine tq0 24 rfl ?_ | refine tq1 24 rfl ?_
    try go_frame
    first | refine tq0 25 rfl ?_ | refine tq1 25 rfl ?_
    try go_frame
    refine wpAnyH_done (by kernel_rfl) ?_ _
    clear hHeld
    go_wp2_with fail
    go_ret2
    exact ⟨SK, fun k hk => .inl hk, KpS.of BD.out, .inr ⟨NO.out, rfl, MD.out⟩⟩
  have h0 := Decidable.not_not.1 h0
  subst h0
  by_cases h1 : pkd ≠ kd
  · -- another kind
    have hne := h1
    have d2 : (pkd == kd) = false := by simp [h1]
    have d4 : decide (pkd = kd) = false := by simp [h1]
    have d5 : (pkd != kd) = true := by simp [h1]
    clear h1 g3
    have NO : Hid (¬ okR d n K ep id kd) := Lib.hid (by unfold okR; rw [HE.out, HP.out]; rintro ⟨h1, h2, h3, h4⟩; first | exact hne h1 | exact hne h2 | exact hne h3)
    clear hne
    go_upto_region 4 with fail
    refine wp_region_held_drew (S := (fun w' => w'.cell? ⟨G, 1, none⟩ = some (.int .i64 pep) ∧ w'.cell? ⟨G, 2, none⟩ = some (.int .i64 pkd) ∧ w'.cell? ⟨P, 1026, none⟩ = some (.int .i64 ep) ∧ w'.cell? ⟨P, 1025, none⟩ = some (.pointer (some ⟨M, 0, none⟩)))) (by kernel_rfl) ⟨g1, g2, c4, c3⟩ (fun hHeld => ?_)
    change wpAnyH _ _ _ _ _ _ _ _ (World.drew w2)
    have MD := Lib.hid (M2.out.below (bdrew w2))
    have BD := Lib.hid (B2.out.trans ((bdrew w2).mono B2.out.size))
    have GD := Lib.hid (heap_stays G2.out (bdrew w2))
    clear g1 g2 c4 c3
    generalize World.drew w2 = wd at *
    first | refine tq0 0 rfl ?_ | refine tq1 0 rfl ?_
    try go_frame
    first | refine tq0 1 rfl ?_ | refine tq1 1 rfl ?_
    try go_frame
    first | refine tq0 2 rfl ?_ | refine tq1 2 rfl ?_
    try go_frame
    first | refine tq0 3 rfl ?_ | refine tq1 3 rfl ?_
    try go_frame
    first | refine tq0 4 rfl ?_ | refine tq1 4 rfl ?_
    try go_frame
    first | refine tq0 5 rfl ?_ | refine tq1 5 rfl ?_
    try go_frame
    first | refine tq0 6 rfl ?_ | refine tq1 6 rfl ?_
    try go_frame
    first | refine tq0 7 rfl ?_ | refine tq1 7 rfl ?_
    try go_frame
    first | refine tq0 8 rfl ?_ | refine tq1 8 rfl ?_
    try go_frame
    first | refine tq0 9 rfl ?_ | refine tq1 9 rfl ?_
    try go_frame
    first | refine tq0 10 rfl ?_ | refine tq1 10 rfl ?_
    try go_frame
    first | refine tq0 11 rfl ?_ | refine tq1 11 rfl ?_
    try go_frame
    first | refine tq0 12 rfl ?_ | refine tq1 12 rfl ?_
    try go_frame
    first | refine tq0 13 rfl ?_ | refine tq1 13 rfl ?_
    try go_frame
    first | refine tq0 14 rfl ?_ | refine tq1 14 rfl ?_
    try go_frame
    first | refine tq0 15 rfl ?_ | refine tq1 15 rfl ?_
    try go_frame
    first | refine tq0 16 rfl ?_ | refine tq1 16 rfl ?_
    try go_frame
    first | refine tq0 17 rfl ?_ | refine tq1 17 rfl ?_
    try go_frame
    first | refine tq0 18 rfl ?_ | refine tq1 18 rfl ?_
    try go_frame
    first | refine tq0 19 rfl ?_ | refine tq1 19 rfl ?_
    try go_frame
    first | refine tq0 20 rfl ?_ | refine tq1 20 rfl ?_
    try go_frame
    first | refine tq0 21 rfl ?_ | refine tq1 21 rfl ?_
    try go_frame
    first | refine tq0 22 rfl ?_ | refine tq1 22 rfl ?_
    try go_frame
    first | refine tq0 23 rfl ?_ | refine tq1 23 rfl ?_
    try go_frame
    first | refine tq0 24 rfl ?_ | refine tq1 24 rfl ?_
    try go_frame
    first | refine tq0 25 rfl ?_ | refine tq1 25 rfl ?_
    try go_frame
    refine wpAnyH_done (by kernel_rfl) ?_ _
    clear hHeld
    go_wp2_with fail
    go_ret2
    exact ⟨SK, fun k hk => .inl hk, KpS.of BD.out, .inr ⟨NO.out, rfl, MD.out⟩⟩
  have h1 := Decidable.not_not.1 h1
  subst h1
  by_cases h2 : ¬ pep ≤ ep
  · -- too new
    have hne := h2
    have d4 : decide (ep < pep) = true := by rw [decide_eq_true_eq]; omega
    have d5 : decide (pep > ep) = true := by rw [decide_eq_true_eq]; omega
    clear h2 g3
    have NO : Hid (¬ okR d n K ep id pkd) := Lib.hid (by unfold okR; rw [HE.out, HP.out]; rintro ⟨h1, h2, h3, h4⟩; first | exact hne h1 | exact hne h2 | exact hne h3)
    clear hne
    go_upto_region 4 with fail
    refine wp_region_held_drew (S := (fun w' => w'.cell? ⟨G, 1, none⟩ = some (.int .i64 pep) ∧ w'.cell? ⟨G, 2, none⟩ = some (.int .i64 pkd) ∧ w'.cell? ⟨P, 1026, none⟩ = some (.int .i64 ep) ∧ w'.cell? ⟨P, 1025, none⟩ = some (.pointer (some ⟨M, 0, none⟩)))) (by kernel_rfl) ⟨g1, g2, c4, c3⟩ (fun hHeld => ?_)
    change wpAnyH _ _ _ _ _ _ _ _ (World.drew w2)
    have MD := Lib.hid (M2.out.below (bdrew w2))
    have BD := Lib.hid (B2.out.trans ((bdrew w2).mono B2.out.size))
    have GD := Lib.hid (heap_stays G2.out (bdrew w2))
    clear g1 g2 c4 c3
    generalize World.drew w2 = wd at *
    first | refine tq0 0 rfl ?_ | refine tq1 0 rfl ?_
    try go_frame
    first | refine tq0 1 rfl ?_ | refine tq1 1 rfl ?_
    try go_frame
    first | refine tq0 2 rfl ?_ | refine tq1 2 rfl ?_
    try go_frame
    first | refine tq0 3 rfl ?_ | refine tq1 3 rfl ?_
    try go_frame
    first | refine tq0 4 rfl ?_ | refine tq1 4 rfl ?_
    try go_frame
    first | refine tq0 5 rfl ?_ | refine tq1 5 rfl ?_
    try go_frame
    first | refine tq0 6 rfl ?_ | refine tq1 6 rfl ?_
    try go_frame
    first | refine tq0 7 rfl ?_ | refine tq1 7 rfl ?_
    try go_frame
    first | refine tq0 8 rfl ?_ | refine tq1 8 rfl ?_
    try go_frame
    first | refine tq0 9 rfl ?_ | refine tq1 9 rfl ?_
    try go_frame
    first | refine tq0 10 rfl ?_ | refine tq1 10 rfl ?_
    try go_frame
    first | refine tq0 11 rfl ?_ | refine tq1 11 rfl ?_
    try go_frame
    first | refine tq0 12 rfl ?_ | refine tq1 12 rfl ?_
    try go_frame
    first | refine tq0 13 rfl ?_ | refine tq1 13 rfl ?_
    try go_frame
    first | refine tq0 14 rfl ?_ | refine tq1 14 rfl ?_
    try go_frame
    first | refine tq0 15 rfl ?_ | refine tq1 15 rfl ?_
    try go_frame
    first | refine tq0 16 rfl ?_ | refine tq1 16 rfl ?_
    try go_frame
    first | refine tq0 17 rfl ?_ | refine tq1 17 rfl ?_
    try go_frame
    first | refine tq0 18 rfl ?_ | refine tq1 18 rfl ?_
    try go_frame
    first | refine tq0 19 rfl ?_ | refine tq1 19 rfl ?_
    try go_frame
    first | refine tq0 20 rfl ?_ | refine tq1 20 rfl ?_
    try go_frame
    first | refine tq0 21 rfl ?_ | refine tq1 21 rfl ?_
    try go_frame
    first | refine tq0 22 rfl ?_ | refine tq1 22 rfl ?_
    try go_frame
    first | refine tq0 23 rfl ?_ | refine tq1 23 rfl ?_
    try go_frame
    first | refine tq0 24 rfl ?_ | refine tq1 24 rfl ?_
    try go_frame
    first | refine tq0 25 rfl ?_ | refine tq1 25 rfl ?_
    try go_frame
    refine wpAnyH_done (by kernel_rfl) ?_ _
    clear hHeld
    go_wp2_with fail
    go_ret2
    exact ⟨SK, fun k hk => .inl hk, KpS.of BD.out, .inr ⟨NO.out, rfl, MD.out⟩⟩
  have h2 := Decidable.not_not.1 h2
  have d4 : decide (ep < pep) = false := by rw [decide_eq_false_iff_not]; omega
  have d5 : decide (pep > ep) = false := by rw [decide_eq_false_iff_not]; omega
  have H2 := Lib.hid h2
  clear h2 g3
  go_upto_region 4 with fail
  refine wp_region_held_drew (S := (fun w' => w'.cell? ⟨G, 1, none⟩ = some (.int .i64 pep) ∧ w'.cell? ⟨G, 2, none⟩ = some (.int .i64 pkd) ∧ w'.cell? ⟨P, 1026, none⟩ = some (.int .i64 ep) ∧ w'.cell? ⟨P, 1025, none⟩ = some (.pointer (some ⟨M, 0, none⟩)))) (by kernel_rfl) ⟨g1, g2, c4, c3⟩ (fun hHeld => ?_)
  change wpAnyH _ _ _ _ _ _ _ _ (World.drew w2)
  have MD := Lib.hid (M2.out.below (bdrew w2))
  have BD := Lib.hid (B2.out.trans ((bdrew w2).mono B2.out.size))
  have GD := Lib.hid (heap_stays G2.out (bdrew w2))
  clear g1 g2 c4 c3
  generalize World.drew w2 = wd at *
  first | refine tq0 0 rfl ?_ | refine tq1 0 rfl ?_
  try go_frame
  first | refine tq0 1 rfl ?_ | refine tq1 1 rfl ?_
  try go_frame
  first | refine tq0 2 rfl ?_ | refine tq1 2 rfl ?_
  try go_frame
  first | refine tq0 3 rfl ?_ | refine tq1 3 rfl ?_
  try go_frame
  first | refine tq0 4 rfl ?_ | refine tq1 4 rfl ?_
  try go_frame
  first | refine tq0 5 rfl ?_ | refine tq1 5 rfl ?_
  try go_frame
  first | refine tq0 6 rfl ?_ | refine tq1 6 rfl ?_
  try go_frame
  first | refine tq0 7 rfl ?_ | refine tq1 7 rfl ?_
  try go_frame
  first | refine tq0 8 rfl ?_ | refine tq1 8 rfl ?_
  try go_frame
  first | refine tq0 9 rfl ?_ | refine tq1 9 rfl ?_
  try go_frame
  first | refine tq0 10 rfl ?_ | refine tq1 10 rfl ?_
  try go_frame
  first | refine tq0 11 rfl ?_ | refine tq1 11 rfl ?_
  try go_frame
  first | refine tq0 12 rfl ?_ | refine tq1 12 rfl ?_
  try go_frame
  first | refine tq0 13 rfl ?_ | refine tq1 13 rfl ?_
  try go_frame
  first | refine tq0 14 rfl ?_ | refine tq1 14 rfl ?_
  try go_frame
  first | refine tq0 15 rfl ?_ | refine tq1 15 rfl ?_
  try go_frame
  first | refine tq0 16 rfl ?_ | refine tq1 16 rfl ?_
  try go_frame
  first | refine tq0 17 rfl ?_ | refine tq1 17 rfl ?_
  try go_frame
  first | refine tq0 18 rfl ?_ | refine tq1 18 rfl ?_
  try go_frame
  first | refine tq0 19 rfl ?_ | refine tq1 19 rfl ?_
  try go_frame
  first | refine tq0 20 rfl ?_ | refine tq1 20 rfl ?_
  try go_frame
  first | refine tq0 21 rfl ?_ | refine tq1 21 rfl ?_
  try go_frame
  first | refine tq0 22 rfl ?_ | refine tq1 22 rfl ?_
  try go_frame
  have HU := Lib.hid (puse12_any MD.out.mp hn id)
  refine wpAnyH_ready (rs := [23]) (by kernel_rfl) (by simp) ?_
  refine AllReadyH.cons (o := ⟨_, _, _, _, _, _⟩) rfl (fun Kx hKx => ?_) AllReadyH.nil
  go_simp
  go_at_call 139
  refine (HU.out).mono ?_
  rintro e9 w7 ⟨rfl, SK2, hs2, hpf, kk⟩
  have M7 := Lib.hid (MD.out.map hpf hs2 kk)
  have HS2 := Lib.hid (fun k hk => (hs2 k hk).imp (fun h => h) (fun (h : wd.heap.size ≤ k) => Nat.le_trans BD.out.size h))
  have K7 := Lib.hid ((KpS.of BD.out).trans kk)
  have G7 := Lib.hid ((kk.blk (lt_of_block GD.out) (by
    cases c : SK G with
    | false => rfl
    | true => exact absurd (MM.out.mp.s_lo G c).2 (Nat.not_lt.2 HGL.out))).trans GD.out)
  obtain ⟨g0, g1, g2, g3⟩ := four_cells G7.out
  obtain ⟨c0, c3, c4, c5, c6, c7, cf⟩ := M7.out.look
  refine hKx.out _ _ ⟨g1, g2, c4, c3⟩ (fun hHeld => ?_)
  clear hKx Kx hs2 hpf kk HU
  try simp only [Act.put, List.setIfInBounds_toArray, List.set_cons_zero, List.set_cons_succ]
  by_cases hu : useE n K id = 0
  · rw [hu]
    have OK : Hid (okR d n K ep id pkd) := Lib.hid (by unfold okR; rw [HE.out, HP.out]; exact ⟨rfl, rfl, H2.out, hu⟩)
    clear hu
    first | refine tq0 24 rfl ?_ | refine tq1 24 rfl ?_
    try go_frame
    first | refine tq0 25 rfl ?_ | refine tq1 25 rfl ?_
    try go_frame
    refine wpAnyH_done (by kernel_rfl) ?_ _
    clear hHeld g0 g1 g2 c0 c3 c4 c5 c6 c7 cf
    go_wp2_with fail
    go_ret2
    exact ⟨SK2, HS2.out, K7.out, .inl ⟨OK.out, by rw [HP.out]; rfl, M7.out⟩⟩
  · have NO : Hid (¬ okR d n K ep id pkd) := Lib.hid (fun h => hu h.2.2.2)
    have d6 : (useE n K id == 0) = false := by simp [hu]
    have d7 : decide (useE n K id = 0) = false := by simp [hu]
    have d8 : (useE n K id != 0) = true := by simp [hu]
    have EU : useF n K id = K := by
      unfold useE at hu
      unfold useF
      by_cases c : inF n id
      · rw [if_pos c] at hu ⊢
        by_cases c2 : K id.toNat = 0
        · rw [if_pos c2] at hu; exact absurd rfl hu
        · rw [if_neg c2]
      · rw [if_neg c]
    have M8 := Lib.hid M7.out
    rw [EU] at M8
    clear hu EU
    generalize useE n K id = ue at *
    first | refine tq0 24 rfl ?_ | refine tq1 24 rfl ?_
    try go_frame
    first | refine tq0 25 rfl ?_ | refine tq1 25 rfl ?_
    try go_frame
    refine wpAnyH_done (by kernel_rfl) ?_ _
    clear hHeld g0 g1 g2 g3 c0 c3 c4 c5 c6 c7 cf
    go_wp2_with fail
    go_ret2
    exact ⟨SK2, HS2.out, K7.out, .inr ⟨NO.out, rfl, M8.out⟩⟩
end

end Go.Proofs.YtdpmpmaepjgndaaGreat
namespace Go.Proofs.YtdpmpmaepjgndaaGreat
open Go.RowKit
set_option linter.unusedVariables false
set_option linter.unusedSimpArgs false
set_option maxRecDepth 100000

section
variable {f : Nat → Nat → Int} {m : Int} {l : List Slt} {E : Int} {slot : Nat} {ot parts : List Int}
/-- the committed root counts -/
theorem ComV.later (h : ComV f m l E slot ot parts) (hf : ∀ i, SecF (f i)) {x : Rt} {sl : Int} (hL : LaterR (sec (f 0)) (sec (f 1)) x sl) : x = ⟨E, (l.length : Int), parts⟩ ∧ sl = (slot : Int) := by
  have hs := h.says
  have hsl := h.sl
  have hep : ∀ y : Rt, SaysR (sec (f (1 - slot))) y → y.ep < E := fun y hy => h.newer hy (hf _)
  rcases (by omega : slot = 0 ∨ slot = 1) with rfl | rfl
  · rcases hL with ⟨e, h1, _⟩ | ⟨e, h1, h2⟩
    · exact ⟨h1.one hs, e⟩
    · have a := hep x h1
      have b := h2 _ hs
      dsimp only at b
      omega
  · rcases hL with ⟨e, h1, h2⟩ | ⟨e, h1, _⟩
    · have a := hep x h1
      have b := h2 _ hs
      dsimp only at b
      omega
    · exact ⟨h1.one hs, e⟩
theorem ComV.some_says (h : ComV f m l E slot ot parts) (h0 : ∀ x, ¬ SaysR (sec (f 0)) x) (h1 : ∀ x, ¬ SaysR (sec (f 1)) x) : False := by
  have hsl := h.sl
  rcases (by omega : slot = 0 ∨ slot = 1) with rfl | rfl
  · exact h0 _ h.says
  · exact h1 _ h.says
end
/-- a part's payload, filled up with bytes 0 -/
theorem part_full {ot : List Int} {i : Nat} (hx : ∀ x ∈ ot, -1 ≤ x ∧ x ≤ 1023) : tellE (padN (partS ot i) 232) ((partT ot i).length : Int) = 0 ∧ tellL (padN (partS ot i) 232) (partT ot i).length = partT ot i := by
  have hlen := partT_len ot i
  have hs := partS_size ot i
  have hin : ∀ x ∈ partT ot i, -1 ≤ x ∧ x ≤ 1023 := fun x h => hx x (List.mem_of_mem_drop (List.mem_of_mem_take h))
  have hnum : ∀ j, j < (partT ot i).length → numP (padN (partS ot i) 232) j = numP (partS ot i) j := fun j hj => by
    unfold numP
    rw [byD_pad _ _ _ (by omega), byD_pad _ _ _ (by omega)]
  have hval : ∀ j (hj : j < (partT ot i).length), numP (partS ot i) j = (partT ot i)[j] + 1 := fun j hj => by
    rw [numP_part hj fun x h => (hin x h).2]
    have := (hin _ (List.getElem_mem hj)).1
    unfold clampP
    split <;> omega
  constructor
  · unfold tellE
    rw [if_neg (by omega), if_neg (by rw [padN_size]; omega), if_neg]
    rintro ⟨j, hj, hgt⟩
    have hj2 : j < (partT ot i).length := by omega
    rw [hnum j hj2, hval j hj2] at hgt
    have := (hin _ (List.getElem_mem hj2)).2
    omega
  · apply List.ext_getElem (by rw [tellL_len])
    intro j h1 h2
    have e : ∀ (h3 : j < ((List.range (partT ot i).length).map fun k => numP (padN (partS ot i) 232) k - 1).length), ((List.range (partT ot i).length).map fun k => numP (padN (partS ot i) 232) k - 1)[j] = numP (padN (partS ot i) 232) j - 1 := fun h3 => by rw [List.getElem_map, List.getElem_range]
    rw [show (tellL (padN (partS ot i) 232) (partT ot i).length)[j] = numP (padN (partS ot i) 232) j - 1 from e h1, hnum j h2, hval j h2]
    omega
/-- the parts ahead of the k-th, one behind the other -/
theorem part_next (ot : List Int) (k : Nat) : ot.take (116 * k) ++ partT ot k = ot.take (116 * (k + 1)) := by
  unfold partT
  rw [show 116 * (k + 1) = 116 * k + 116 by omega, List.take_add]
/-- a map in which these pages are in use -/
def usedK (l : List Int) : Nat → Nat := fun q => if (q : Int) ∈ l then 1 else 0
theorem usedK_nil : usedK [] = fun _ => 0 := by funext q; unfold usedK; rw [if_neg List.not_mem_nil]
theorem usedK_use {l : List Int} {n : Nat} {p : Int} (h0 : 0 ≤ p) (h1 : p < (n : Int)) (hp : p ∉ l) : useE n (usedK l) p = 0 ∧ useF n (usedK l) p = usedK (l ++ [p]) := by
  have hk : usedK l p.toNat = 0 := by unfold usedK; rw [if_neg (by rw [Int.toNat_of_nonneg h0]; exact hp)]
  have hi : inF n p := ⟨h0, h1⟩
  constructor
  · unfold useE
    rw [if_pos hi, if_pos hk]
  · unfold useF
    rw [if_pos hi, if_pos hk]
    funext q
    unfold fupd usedK
    by_cases c : q = p.toNat
    · rw [if_pos c, if_pos (by rw [c, Int.toNat_of_nonneg h0]; exact List.mem_append_right _ (List.mem_singleton.2 rfl))]
    · rw [if_neg c]
      have : ((q : Int) ∈ l ++ [p]) = ((q : Int) ∈ l) := by
        apply propext
        rw [List.mem_append, List.mem_singleton]
        exact ⟨fun h => h.elim id fun e => absurd (by omega) c, .inl⟩
      simp only [this]
theorem usedK_two {l : List Int} {n : Nat} {p : Int} (h0 : 0 ≤ p) (hp : p ∈ l) : useE n (usedK l) p ≠ 0 := by
  have hk : usedK l p.toNat = 1 := by unfold usedK; rw [if_pos (by rw [Int.toNat_of_nonneg h0]; exact hp)]
  unfold useE
  split
  · rw [if_neg (by rw [hk]; decide)]; decide
  · decide
end Go.Proofs.YtdpmpmaepjgndaaGreat
