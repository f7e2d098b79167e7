/- What must come of pages at any rate: awake. -/
import Derived.Test.YtdmlmjmdpmmcgaaPgP6
import Derived.Test.YtdmlmjmdpmmcgaaPgP7
import Derived.Test.YtdmlmjmdpmmcgaaPgR1
import Derived.Test.YtdmlmjmdpmmcgaaDkP6
namespace Go.Proofs.Ytdmlmjmdpmmcgaa
open Go.RowKit Go.Deep
set_option linter.unusedVariables false
set_option linter.unusedSimpArgs false
set_option maxRecDepth 100000

def abcP : Pg := ⟨1, 5, 2, ⟨#[97, 98, 99]⟩⟩
theorem abc_ok : putE abcP = 0 := by unfold abcP; decide
theorem zeros_bad (d : Dk) (id : Nat) (h : ∀ i, i < 4 → ∀ j, j < 64 → nowD d (2 + 4 * id + i) j = 0) : getE (pageS d id) = 14 := by
  have hz : ∀ j, j < 256 → byD (pageS d id) j = 0 := by
    have e : pageS d id = padN ⟨#[]⟩ 256 := by
      have e2 : allF (fun i => nowD d (2 + 4 * id + i)) 4 = padN ⟨#[]⟩ 256 := all_quart (padN_size _ _) (fun i hi j hj => by
        rw [h i hi j hj, byD_quart _ _ _ hj]
        unfold imgF
        rw [byD_pad _ _ _ (by omega), byD_out (by show 0 ≤ _; omega)])
      exact e2
    intro j hj
    rw [e, byD_pad _ _ _ hj, byD_out (by show 0 ≤ _; omega)]
  have hr : ¬ RightP (tellP (pageS d id)) := by
    intro hr
    have h1 : 0 ≤ unflip63 (rdI (pageS d id) 4 8) := hr.1
    have e : rdI (pageS d id) 4 8 = 0 := by
      simp only [rdI, byteI_byD]
      rw [hz _ (by omega), hz _ (by omega), hz _ (by omega), hz _ (by omega), hz _ (by omega), hz _ (by omega), hz _ (by omega), hz _ (by omega)]
      rfl
    rw [e] at h1
    have e9 : unflip63 0 = -9223372036854775808 := by kernel_rfl
    rw [e9] at h1
    exact absurd h1 (by decide)
  unfold getE
  rw [if_pos (pageS_size d id)]
  split <;> first | rfl | (rw [if_neg hr])
theorem new_now (n k j : Nat) : nowD (newD n) k j = 0 := by simp [nowD, newD]
theorem awake_facts : (writeP (newD 10) abcP).2 = 0 ∧ readPE (writeP (newD 10) abcP).1 1 = 0 ∧ readPP (writeP (newD 10) abcP).1 1 = ⟨1, 5, 2, fullP ⟨#[97, 98, 99]⟩⟩ ∧ readPE (writeP (newD 10) abcP).1 0 = 14 := by
  obtain ⟨h1, h2, h3, h4, h5⟩ := writeP_free (d := newD 10) rfl rfl abc_ok (by decide)
  have hn := writeP_n (newD 10) abcP
  obtain ⟨r1, r2⟩ := readP_of (d := (writeP (newD 10) abcP).1) h2 abc_ok (by rw [hn]; decide) (by decide) h4
  refine ⟨h1, r1, ?_, ?_⟩
  · rw [show (1 : Int) = abcP.id from rfl, r2]
    rfl
  · have h6 := h5 0 (by decide)
    have hb := zeros_bad (newD 10) 0 (fun i _ j _ => new_now _ _ _)
    unfold readPE
    rw [hn, if_neg (by decide), if_neg (by rw [h2]; decide), show (0 : Int).toNat = 0 from rfl, h6, hb, if_neg (by decide)]
theorem ret_bad (d : Dk) (id e : Int) (h : readPE d id = e) (hne : e ≠ 0) : readRet d id = .returned (.tuple #[.agg #[.int .i64 0, .int .i64 0, .int .i64 0, .string ⟨#[]⟩], .int .i64 e]) := readRet_bad h hne
set_option maxHeartbeats 6400000 in
theorem awake11_any (w : World) : Calls Try.prog 11 #[] w fun r u' => r = .returned (.bool true) ∧ Below w.heap.size w u' := by
  have H0 := Lib.hid (pnew_any 10 (by omega) (by omega) w)
  obtain ⟨f1, f2, f3, f4⟩ := awake_facts
  have hnd : (writeP (newD 10) abcP).1.n = 10 := writeP_n _ _
  have HW := Lib.hid (fun (base P bS bm cS : Nat) (u : World) (h : PDk base P bS bm cS (newD 10) u) => ppwrite_any h (by decide) (by decide) (by decide) abcP (by decide))
  rw [f1] at HW
  obtain ⟨d1, hd1⟩ : ∃ d, d = (writeP (newD 10) abcP).1 := ⟨_, rfl⟩
  rw [← hd1] at HW f2 f3 f4 hnd
  have HR1 := Lib.hid (fun (base P bS bm cS : Nat) (u : World) (h : PDk base P bS bm cS d1 u) => ppread_any h (by omega) 1)
  have e1 : readRet d1 1 = .returned (.tuple #[.agg #[.int .i64 1, .int .i64 5, .int .i64 2, .string (fullP ⟨#[97, 98, 99]⟩)], .int .i64 0]) := by unfold readRet; rw [f2, f3]; rfl
  rw [e1] at HR1
  have HR0 := Lib.hid (fun (base P bS bm cS : Nat) (u : World) (h : PDk base P bS bm cS d1 u) => ppread_any h (by omega) 0)
  rw [ret_bad d1 0 14 f4 (by decide)] at HR0
  have HM := Lib.hid (fun (base P bS bm cS : Nat) (u : World) (h : PDk base P bS bm cS d1 u) => pmany_any h (by omega))
  rw [hnd] at HM
  change Hid (∀ (base P bS bm cS : Nat) (u : World), _ → Calls _ _ _ u fun r u' => r = .returned (.int .i64 2) ∧ u' = u) at HM
  have HF := Lib.hid (fun u => rfull_any ⟨#[97, 98, 99]⟩ (by decide) u)
  generalize fullP ⟨#[97, 98, 99]⟩ = fa at *
  unfold pgV abcP at HW
  dsimp only at HW
  clear f1 f2 f3 f4 hd1 e1 hnd
  go_enter Try.func11, Try.ntmps11
  go_wp2_with fail
  refine (H0.out).mono ?_
  rintro e w1 ⟨P, bS, bm, cS, rfl, p1, k1⟩
  have P1 := Lib.hid p1
  have K1 := Lib.hid k1
  clear p1 k1 H0
  go_wp2_with fail
  refine (HW.out _ _ _ _ _ _ P1.out).mono ?_
  rintro e w2 ⟨rfl, p2, k2⟩
  have P2 := Lib.hid p2
  have K2 := Lib.hid (K1.out.trans (P1.out.bot k2 K1.out.size))
  clear p2 k2 P1 K1
  go_wp2_with fail
  refine (HR1.out _ _ _ _ _ _ P2.out).mono ?_
  rintro e w3 ⟨rfl, hb⟩
  have P3x := Lib.hid (P2.out.below hb)
  have K3 := Lib.hid (bthen K2.out hb)
  have X4 := Lib.hid (heap_alloc_new w3 (.cells #[.int .i64 1, .int .i64 5, .int .i64 2, .string fa] 23))
  have P4 := Lib.hid (P3x.out.below (balloc w3 (.cells #[.int .i64 1, .int .i64 5, .int .i64 2, .string fa] 23)))
  have K4 := Lib.hid (bthen K3.out (balloc w3 (.cells #[.int .i64 1, .int .i64 5, .int .i64 2, .string fa] 23)))
  obtain ⟨D, hD⟩ : ∃ D, D = w3.heap.size := ⟨_, rfl⟩
  rw [← hD] at X4
  clear hb
  go_upto_region 4 with fail
  rw [← hD]
  generalize w3.alloc (.cells #[.int .i64 1, .int .i64 5, .int .i64 2, .string fa] 23) = w4 at *
  clear hD P2 K2 P3x K3
  go_wp2_with fail
  refine (HR0.out _ _ _ _ _ _ P4.out).mono ?_
  rintro e w5 ⟨rfl, hb⟩
  have P5 := Lib.hid (P4.out.below hb)
  have K5 := Lib.hid (bthen K4.out hb)
  have X5 := Lib.hid (heap_stays X4.out hb)
  have P6 := Lib.hid (P5.out.below (balloc w5 (.cells #[.int .i64 0, .int .i64 0, .int .i64 0, .string ⟨#[]⟩] 23)))
  have K6 := Lib.hid (bthen K5.out (balloc w5 (.cells #[.int .i64 0, .int .i64 0, .int .i64 0, .string ⟨#[]⟩] 23)))
  have X6 := Lib.hid (heap_stays X5.out (balloc w5 (.cells #[.int .i64 0, .int .i64 0, .int .i64 0, .string ⟨#[]⟩] 23)))
  clear hb
  go_upto_region 5 with fail
  generalize w5.alloc (.cells #[.int .i64 0, .int .i64 0, .int .i64 0, .string ⟨#[]⟩] 23) = w6 at *
  clear P4 K4 X4 P5 K5 X5 HR0 HR1 HW
  refine wp_region_held_drew (S := (fun w' => w'.cell? ⟨D, 1, none⟩ = some (.int .i64 5) ∧ w'.cell? ⟨D, 3, none⟩ = some (.string fa))) (by kernel_rfl) ?_ (fun hHeld => ?_)
  · have h := four_cells (heap_stays X6.out (bdrew w6))
    exact ⟨h.2.1, h.2.2.2⟩
  have P7 := Lib.hid (P6.out.below (bdrew w6))
  have K7 := Lib.hid (bthen K6.out (bdrew w6))
  have X7 := Lib.hid (heap_stays X6.out (bdrew w6))
  change wpAnyH _ _ _ _ _ _ _ _ (World.drew w6)
  generalize World.drew w6 = w7 at *
  first | refine tq0 0 rfl ?_ | refine tq1 0 rfl ?_
  try go_frame
  refine wpAnyH_ready (rs := [1]) (by kernel_rfl) (by simp) ?_
  refine AllReadyH.cons (o := ⟨_, _, _, _, _, _⟩) rfl (fun K hK => ?_) AllReadyH.nil
  go_simp
  refine (HM.out _ _ _ _ _ _ P7.out).mono ?_
  rintro e w8 ⟨rfl, hw8⟩
  rw [hw8]
  clear hw8 w8
  refine hK.out _ _ hHeld (fun hHeld => ?_)
  clear hK K
  try simp only [Act.put, List.setIfInBounds_toArray, List.set_cons_zero, List.set_cons_succ]
  first | refine tq0 2 rfl ?_ | refine tq1 2 rfl ?_
  try go_frame
  first | refine tq0 3 rfl ?_ | refine tq1 3 rfl ?_
  try go_frame
  first | refine tq0 4 rfl ?_ | refine tq1 4 rfl ?_
  try go_frame
  first | refine tq0 5 rfl ?_ | refine tq1 5 rfl ?_
  try go_frame
  first | refine tq0 6 rfl ?_ | refine tq1 6 rfl ?_
  try go_frame
  first | refine tq0 7 rfl ?_ | refine tq1 7 rfl ?_
  try go_frame
  first | refine tq0 8 rfl ?_ | refine tq1 8 rfl ?_
  try go_frame
  first | refine tq0 9 rfl ?_ | refine tq1 9 rfl ?_
  try go_frame
  first | refine tq0 10 rfl ?_ | refine tq1 10 rfl ?_
  try go_frame
  first | refine tq0 11 rfl ?_ | refine tq1 11 rfl ?_
  try go_frame
  first | refine tq0 12 rfl ?_ | refine tq1 12 rfl ?_
  try go_frame
  first | refine tq0 13 rfl ?_ | refine tq1 13 rfl ?_
  try go_frame
  first | refine tq0 14 rfl ?_ | refine tq1 14 rfl ?_
  try go_frame
  first | refine tq0 15 rfl ?_ | refine tq1 15 rfl ?_
  try go_frame
  first | refine tq0 16 rfl ?_ | refine tq1 16 rfl ?_
  try go_frame
  first | refine tq0 17 rfl ?_ | refine tq1 17 rfl ?_
  try go_frame
  first | refine tq0 18 rfl ?_ | refine tq1 18 rfl ?_
  try go_frame
  refine wpAnyH_ready (rs := [19]) (by kernel_rfl) (by simp) ?_
  refine AllReadyH.cons (o := ⟨_, _, _, _, _, _⟩) rfl (fun K hK => ?_) AllReadyH.nil
  go_simp
  refine (HF.out _).mono ?_
  rintro e w8 ⟨rfl, hb⟩
  have K8 := Lib.hid (bthen K7.out hb)
  have X8 := Lib.hid (heap_stays X7.out hb)
  refine hK.out _ _ ?_ (fun hHeld => ?_)
  · have h := four_cells X8.out
    exact ⟨h.2.1, h.2.2.2⟩
  clear hK K hb
  try simp only [Act.put, List.setIfInBounds_toArray, List.set_cons_zero, List.set_cons_succ]
  first | refine tq0 20 rfl ?_ | refine tq1 20 rfl ?_
  try go_frame
  first | refine tq0 21 rfl ?_ | refine tq1 21 rfl ?_
  try go_frame
  first | refine tq0 22 rfl ?_ | refine tq1 22 rfl ?_
  try go_frame
  first | refine tq0 23 rfl ?_ | refine tq1 23 rfl ?_
  try go_frame
  first | refine tq0 24 rfl ?_ | refine tq1 24 rfl ?_
  try go_frame
  first | refine tq0 25 rfl ?_ | refine tq1 25 rfl ?_
  try go_frame
  first | refine tq0 26 rfl ?_ | refine tq1 26 rfl ?_
  try go_frame
  refine wpAnyH_done (by kernel_rfl) ?_ _
  go_wp2_with fail
  go_ret
  exact ⟨rfl, K8.out⟩

end Go.Proofs.Ytdmlmjmdpmmcgaa
