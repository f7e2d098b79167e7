/- Check, where a process may not be. The contract of Check. -/
import Derived.Test.YthkfaeplmmlnlaaGreatRZ15
import Derived.Test.YthkfaeplmmlnlaaGreatRZ0
import Derived.Test.YthkfaeplmmlnlaaGreatRZ3
namespace Go.Proofs.YthkfaeplmmlnlaaGreat
open Go.RowKit
set_option linter.unusedVariables false

set_option maxHeartbeats 3200000 in
theorem check_4 (seed : Int) (fin nd np nl ni cd cp cl ci : Nat) (ad ap al ai : Option Addr) (w : World) (b6 : Bool)
    (HC : Hid (∀ w, Calls Tryz.prog 38 #[.agg #[.int .i64 seed, .float .f64 fin, .slice ad nd cd, .slice ap np cp, .slice al nl cl, .slice ai ni ci]] w fun e w' => e = .returned (.bool true) ∧ Below w.heap.size w w'))
    (HN : Hid (∀ w, Calls Tryz.prog 39 #[.float .f64 fin] w fun e w' => e = .returned (.bool (!true)) ∧ w = w'))
    (HF : Hid (∀ w2, Below w.heap.size w w2 → Calls Tryz.prog 40 #[.slice ad nd cd, .func (.func 41) #[] #[]] w2 fun e w' => e = .returned (.bool true) ∧ Below w2.heap.size w2 w'))
    (HP : Hid (∀ w2, Below w.heap.size w w2 → Calls Tryz.prog 42 #[.slice ap np cp, .func (.func 43) #[] #[]] w2 fun e w' => e = .returned (.bool true) ∧ Below w2.heap.size w2 w'))
    (HLB : Hid (∀ w, Calls Tryz.prog 45 #[.int .i64 np] w fun e w' => ∃ q, e = .returned (.func (.func 73) #[] #[.pointer (some ⟨q, 0, none⟩)]) ∧ BoxI np q w' ∧ Below w.heap.size w w'))
    (HL : Hid (∀ q w2, Below w.heap.size w w2 → BoxI np q w2 → Calls Tryz.prog 44 #[.slice al nl cl, .func (.func 73) #[] #[.pointer (some ⟨q, 0, none⟩)]] w2 fun e w' => e = .returned (.bool false) ∧ Below w2.heap.size w2 w'))
    (HEB : Hid (∀ w, Calls Tryz.prog 47 #[.int .i64 nl] w fun e w' => ∃ q, e = .returned (.func (.func 75) #[] #[.pointer (some ⟨q, 0, none⟩)]) ∧ BoxI nl q w' ∧ Below w.heap.size w w'))
    (HE : Hid (∀ q w2, Below w.heap.size w w2 → BoxI nl q w2 → Calls Tryz.prog 46 #[.slice ai ni ci, .func (.func 75) #[] #[.pointer (some ⟨q, 0, none⟩)]] w2 fun e w' => e = .returned (.bool b6) ∧ Below w2.heap.size w2 w')) :
    Calls Tryz.prog 20 #[.agg #[.int .i64 seed, .float .f64 fin, .slice ad nd cd, .slice ap np cp, .slice al nl cl, .slice ai ni ci]] w fun e w' => e = .returned (.int .i64 15) ∧ Below w.heap.size w w' := by
  have HX := Lib.hid (Box6.new (.int .i64 seed) (.float .f64 fin) (.slice ad nd cd) (.slice ap np cp) (.slice al nl cl) (.slice ai ni ci) 28 w)
  have HA := Lib.hid (balloc w (.cells #[.int .i64 seed, .float .f64 fin, .slice ad nd cd, .slice ap np cp, .slice al nl cl, .slice ai ni ci] 28))
  obtain ⟨_, x0, x1, x2, x3, x4, x5⟩ := HX.out
  go_enter Tryz.func20, Tryz.ntmps20
  go_wp2_with fail
  refine wp_region_held_drew (S := (fun w' => w'.cell? ⟨w.heap.size, 0, none⟩ = some (.int .i64 seed) ∧ w'.cell? ⟨w.heap.size, 1, none⟩ = some (.float .f64 fin) ∧ w'.cell? ⟨w.heap.size, 2, none⟩ = some (.slice ad nd cd) ∧ w'.cell? ⟨w.heap.size, 3, none⟩ = some (.slice ap np cp) ∧ w'.cell? ⟨w.heap.size, 4, none⟩ = some (.slice al nl cl) ∧ w'.cell? ⟨w.heap.size, 5, none⟩ = some (.slice ai ni ci))) (by kernel_rfl) ?_ (fun hHeld => ?_)
  · go_keep
  first | refine tq0 0 rfl ?_ | refine tq1 0 rfl ?_
  try go_frame
  first
    | (refine wpAnyH_ready (rs := [1]) (by kernel_rfl) (by simp) ?_
       refine AllReadyH.cons (o := ⟨_, _, _, _, _, _⟩) rfl (fun K hK => ?_) AllReadyH.nil
       go_simp
       first
         | (go_at_call 38; refine (HC.out _).mono ?_; rintro e w1 ⟨rfl, hb1⟩; have HB1 := Lib.hid (bthen (bdrew _) hb1); clear hb1; obtain ⟨_, p0, p1, p2, p3, p4, p5⟩ := HX.out.below HB1.out)
         | (go_at_call 39; refine (HN.out _).mono ?_; rintro e w2 ⟨rfl, rfl⟩)
         | (go_at_call 40; refine (HF.out _ (bthen HA.out HB1.out)).mono ?_; rintro e w3 ⟨rfl, hb3⟩; have HB3 := Lib.hid (bthen HB1.out hb3); clear hb3; obtain ⟨_, p0, p1, p2, p3, p4, p5⟩ := HX.out.below HB3.out)
         | (go_at_call 42; refine (HP.out _ (bthen HA.out HB3.out)).mono ?_; rintro e w4 ⟨rfl, hb4⟩; have HB4 := Lib.hid (bthen HB3.out hb4); clear hb4; obtain ⟨_, p0, p1, p2, p3, p4, p5⟩ := HX.out.below HB4.out)
         | (go_at_call 45; refine (HLB.out _).mono ?_; rintro e w5 ⟨q5, rfl, hq5, hb5⟩; have HQ5 := Lib.hid hq5; clear hq5; have HB5 := Lib.hid (bthen HB4.out hb5); clear hb5; obtain ⟨_, p0, p1, p2, p3, p4, p5⟩ := HX.out.below HB5.out)
         | (go_at_call 44; refine (HL.out _ _ (bthen HA.out HB5.out) HQ5.out).mono ?_; rintro e w6 ⟨rfl, hb6⟩; have HB6 := Lib.hid (bthen HB5.out hb6); clear hb6; obtain ⟨_, p0, p1, p2, p3, p4, p5⟩ := HX.out.below HB6.out)
         | (go_at_call 47; refine (HEB.out _).mono ?_; rintro e w7 ⟨q7, rfl, hq7, hb7⟩; have HQ7 := Lib.hid hq7; clear hq7; have HB7 := Lib.hid (bthen HB6.out hb7); clear hb7; obtain ⟨_, p0, p1, p2, p3, p4, p5⟩ := HX.out.below HB7.out)
         | (go_at_call 46; refine (HE.out _ _ (bthen HA.out HB7.out) HQ7.out).mono ?_; rintro e w8 ⟨rfl, hb8⟩; have HB8 := Lib.hid (bthen HB7.out hb8); clear hb8; obtain ⟨_, p0, p1, p2, p3, p4, p5⟩ := HX.out.below HB8.out)
       refine hK.out _ _ ?_ (fun hHeld => ?_)
       · go_keep
       clear hK K
       try go_frame)
  try go_frame
  first | refine tq0 2 rfl ?_ | refine tq1 2 rfl ?_
  try go_frame
  first | refine tq0 3 rfl ?_ | refine tq1 3 rfl ?_
  try go_frame
  first | refine tq0 4 rfl ?_ | refine tq1 4 rfl ?_
  try go_frame
  first
    | (refine wpAnyH_ready (rs := [5]) (by kernel_rfl) (by simp) ?_
       refine AllReadyH.cons (o := ⟨_, _, _, _, _, _⟩) rfl (fun K hK => ?_) AllReadyH.nil
       go_simp
       first
         | (go_at_call 38; refine (HC.out _).mono ?_; rintro e w1 ⟨rfl, hb1⟩; have HB1 := Lib.hid (bthen (bdrew _) hb1); clear hb1; obtain ⟨_, p0, p1, p2, p3, p4, p5⟩ := HX.out.below HB1.out)
         | (go_at_call 39; refine (HN.out _).mono ?_; rintro e w2 ⟨rfl, rfl⟩)
         | (go_at_call 40; refine (HF.out _ (bthen HA.out HB1.out)).mono ?_; rintro e w3 ⟨rfl, hb3⟩; have HB3 := Lib.hid (bthen HB1.out hb3); clear hb3; obtain ⟨_, p0, p1, p2, p3, p4, p5⟩ := HX.out.below HB3.out)
         | (go_at_call 42; refine (HP.out _ (bthen HA.out HB3.out)).mono ?_; rintro e w4 ⟨rfl, hb4⟩; have HB4 := Lib.hid (bthen HB3.out hb4); clear hb4; obtain ⟨_, p0, p1, p2, p3, p4, p5⟩ := HX.out.below HB4.out)
         | (go_at_call 45; refine (HLB.out _).mono ?_; rintro e w5 ⟨q5, rfl, hq5, hb5⟩; have HQ5 := Lib.hid hq5; clear hq5; have HB5 := Lib.hid (bthen HB4.out hb5); clear hb5; obtain ⟨_, p0, p1, p2, p3, p4, p5⟩ := HX.out.below HB5.out)
         | (go_at_call 44; refine (HL.out _ _ (bthen HA.out HB5.out) HQ5.out).mono ?_; rintro e w6 ⟨rfl, hb6⟩; have HB6 := Lib.hid (bthen HB5.out hb6); clear hb6; obtain ⟨_, p0, p1, p2, p3, p4, p5⟩ := HX.out.below HB6.out)
         | (go_at_call 47; refine (HEB.out _).mono ?_; rintro e w7 ⟨q7, rfl, hq7, hb7⟩; have HQ7 := Lib.hid hq7; clear hq7; have HB7 := Lib.hid (bthen HB6.out hb7); clear hb7; obtain ⟨_, p0, p1, p2, p3, p4, p5⟩ := HX.out.below HB7.out)
         | (go_at_call 46; refine (HE.out _ _ (bthen HA.out HB7.out) HQ7.out).mono ?_; rintro e w8 ⟨rfl, hb8⟩; have HB8 := Lib.hid (bthen HB7.out hb8); clear hb8; obtain ⟨_, p0, p1, p2, p3, p4, p5⟩ := HX.out.below HB8.out)
       refine hK.out _ _ ?_ (fun hHeld => ?_)
       · go_keep
       clear hK K
       try go_frame)
  try go_frame
  first | refine tq0 6 rfl ?_ | refine tq1 6 rfl ?_
  try go_frame
  first | refine tq0 7 rfl ?_ | refine tq1 7 rfl ?_
  try go_frame
  first | refine tq0 8 rfl ?_ | refine tq1 8 rfl ?_
  try go_frame
  first | refine tq0 9 rfl ?_ | refine tq1 9 rfl ?_
  try go_frame
  first | refine tq0 10 rfl ?_ | refine tq1 10 rfl ?_
  try go_frame
  first
    | (refine wpAnyH_ready (rs := [11]) (by kernel_rfl) (by simp) ?_
       refine AllReadyH.cons (o := ⟨_, _, _, _, _, _⟩) rfl (fun K hK => ?_) AllReadyH.nil
       go_simp
       first
         | (go_at_call 38; refine (HC.out _).mono ?_; rintro e w1 ⟨rfl, hb1⟩; have HB1 := Lib.hid (bthen (bdrew _) hb1); clear hb1; obtain ⟨_, p0, p1, p2, p3, p4, p5⟩ := HX.out.below HB1.out)
         | (go_at_call 39; refine (HN.out _).mono ?_; rintro e w2 ⟨rfl, rfl⟩)
         | (go_at_call 40; refine (HF.out _ (bthen HA.out HB1.out)).mono ?_; rintro e w3 ⟨rfl, hb3⟩; have HB3 := Lib.hid (bthen HB1.out hb3); clear hb3; obtain ⟨_, p0, p1, p2, p3, p4, p5⟩ := HX.out.below HB3.out)
         | (go_at_call 42; refine (HP.out _ (bthen HA.out HB3.out)).mono ?_; rintro e w4 ⟨rfl, hb4⟩; have HB4 := Lib.hid (bthen HB3.out hb4); clear hb4; obtain ⟨_, p0, p1, p2, p3, p4, p5⟩ := HX.out.below HB4.out)
         | (go_at_call 45; refine (HLB.out _).mono ?_; rintro e w5 ⟨q5, rfl, hq5, hb5⟩; have HQ5 := Lib.hid hq5; clear hq5; have HB5 := Lib.hid (bthen HB4.out hb5); clear hb5; obtain ⟨_, p0, p1, p2, p3, p4, p5⟩ := HX.out.below HB5.out)
         | (go_at_call 44; refine (HL.out _ _ (bthen HA.out HB5.out) HQ5.out).mono ?_; rintro e w6 ⟨rfl, hb6⟩; have HB6 := Lib.hid (bthen HB5.out hb6); clear hb6; obtain ⟨_, p0, p1, p2, p3, p4, p5⟩ := HX.out.below HB6.out)
         | (go_at_call 47; refine (HEB.out _).mono ?_; rintro e w7 ⟨q7, rfl, hq7, hb7⟩; have HQ7 := Lib.hid hq7; clear hq7; have HB7 := Lib.hid (bthen HB6.out hb7); clear hb7; obtain ⟨_, p0, p1, p2, p3, p4, p5⟩ := HX.out.below HB7.out)
         | (go_at_call 46; refine (HE.out _ _ (bthen HA.out HB7.out) HQ7.out).mono ?_; rintro e w8 ⟨rfl, hb8⟩; have HB8 := Lib.hid (bthen HB7.out hb8); clear hb8; obtain ⟨_, p0, p1, p2, p3, p4, p5⟩ := HX.out.below HB8.out)
       refine hK.out _ _ ?_ (fun hHeld => ?_)
       · go_keep
       clear hK K
       try go_frame)
  try go_frame
  first | refine tq0 12 rfl ?_ | refine tq1 12 rfl ?_
  try go_frame
  first | refine tq0 13 rfl ?_ | refine tq1 13 rfl ?_
  try go_frame
  first | refine tq0 14 rfl ?_ | refine tq1 14 rfl ?_
  try go_frame
  first | refine tq0 15 rfl ?_ | refine tq1 15 rfl ?_
  try go_frame
  first
    | (refine wpAnyH_ready (rs := [16]) (by kernel_rfl) (by simp) ?_
       refine AllReadyH.cons (o := ⟨_, _, _, _, _, _⟩) rfl (fun K hK => ?_) AllReadyH.nil
       go_simp
       first
         | (go_at_call 38; refine (HC.out _).mono ?_; rintro e w1 ⟨rfl, hb1⟩; have HB1 := Lib.hid (bthen (bdrew _) hb1); clear hb1; obtain ⟨_, p0, p1, p2, p3, p4, p5⟩ := HX.out.below HB1.out)
         | (go_at_call 39; refine (HN.out _).mono ?_; rintro e w2 ⟨rfl, rfl⟩)
         | (go_at_call 40; refine (HF.out _ (bthen HA.out HB1.out)).mono ?_; rintro e w3 ⟨rfl, hb3⟩; have HB3 := Lib.hid (bthen HB1.out hb3); clear hb3; obtain ⟨_, p0, p1, p2, p3, p4, p5⟩ := HX.out.below HB3.out)
         | (go_at_call 42; refine (HP.out _ (bthen HA.out HB3.out)).mono ?_; rintro e w4 ⟨rfl, hb4⟩; have HB4 := Lib.hid (bthen HB3.out hb4); clear hb4; obtain ⟨_, p0, p1, p2, p3, p4, p5⟩ := HX.out.below HB4.out)
         | (go_at_call 45; refine (HLB.out _).mono ?_; rintro e w5 ⟨q5, rfl, hq5, hb5⟩; have HQ5 := Lib.hid hq5; clear hq5; have HB5 := Lib.hid (bthen HB4.out hb5); clear hb5; obtain ⟨_, p0, p1, p2, p3, p4, p5⟩ := HX.out.below HB5.out)
         | (go_at_call 44; refine (HL.out _ _ (bthen HA.out HB5.out) HQ5.out).mono ?_; rintro e w6 ⟨rfl, hb6⟩; have HB6 := Lib.hid (bthen HB5.out hb6); clear hb6; obtain ⟨_, p0, p1, p2, p3, p4, p5⟩ := HX.out.below HB6.out)
         | (go_at_call 47; refine (HEB.out _).mono ?_; rintro e w7 ⟨q7, rfl, hq7, hb7⟩; have HQ7 := Lib.hid hq7; clear hq7; have HB7 := Lib.hid (bthen HB6.out hb7); clear hb7; obtain ⟨_, p0, p1, p2, p3, p4, p5⟩ := HX.out.below HB7.out)
         | (go_at_call 46; refine (HE.out _ _ (bthen HA.out HB7.out) HQ7.out).mono ?_; rintro e w8 ⟨rfl, hb8⟩; have HB8 := Lib.hid (bthen HB7.out hb8); clear hb8; obtain ⟨_, p0, p1, p2, p3, p4, p5⟩ := HX.out.below HB8.out)
       refine hK.out _ _ ?_ (fun hHeld => ?_)
       · go_keep
       clear hK K
       try go_frame)
  try go_frame
  first | refine tq0 17 rfl ?_ | refine tq1 17 rfl ?_
  try go_frame
  first | refine tq0 18 rfl ?_ | refine tq1 18 rfl ?_
  try go_frame
  first | refine tq0 19 rfl ?_ | refine tq1 19 rfl ?_
  try go_frame
  first | refine tq0 20 rfl ?_ | refine tq1 20 rfl ?_
  try go_frame
  first | refine tq0 21 rfl ?_ | refine tq1 21 rfl ?_
  try go_frame
  first | refine tq0 22 rfl ?_ | refine tq1 22 rfl ?_
  try go_frame
  first | refine tq0 23 rfl ?_ | refine tq1 23 rfl ?_
  try go_frame
  first
    | (refine wpAnyH_ready (rs := [24]) (by kernel_rfl) (by simp) ?_
       refine AllReadyH.cons (o := ⟨_, _, _, _, _, _⟩) rfl (fun K hK => ?_) AllReadyH.nil
       go_simp
       first
         | (go_at_call 38; refine (HC.out _).mono ?_; rintro e w1 ⟨rfl, hb1⟩; have HB1 := Lib.hid (bthen (bdrew _) hb1); clear hb1; obtain ⟨_, p0, p1, p2, p3, p4, p5⟩ := HX.out.below HB1.out)
         | (go_at_call 39; refine (HN.out _).mono ?_; rintro e w2 ⟨rfl, rfl⟩)
         | (go_at_call 40; refine (HF.out _ (bthen HA.out HB1.out)).mono ?_; rintro e w3 ⟨rfl, hb3⟩; have HB3 := Lib.hid (bthen HB1.out hb3); clear hb3; obtain ⟨_, p0, p1, p2, p3, p4, p5⟩ := HX.out.below HB3.out)
         | (go_at_call 42; refine (HP.out _ (bthen HA.out HB3.out)).mono ?_; rintro e w4 ⟨rfl, hb4⟩; have HB4 := Lib.hid (bthen HB3.out hb4); clear hb4; obtain ⟨_, p0, p1, p2, p3, p4, p5⟩ := HX.out.below HB4.out)
         | (go_at_call 45; refine (HLB.out _).mono ?_; rintro e w5 ⟨q5, rfl, hq5, hb5⟩; have HQ5 := Lib.hid hq5; clear hq5; have HB5 := Lib.hid (bthen HB4.out hb5); clear hb5; obtain ⟨_, p0, p1, p2, p3, p4, p5⟩ := HX.out.below HB5.out)
         | (go_at_call 44; refine (HL.out _ _ (bthen HA.out HB5.out) HQ5.out).mono ?_; rintro e w6 ⟨rfl, hb6⟩; have HB6 := Lib.hid (bthen HB5.out hb6); clear hb6; obtain ⟨_, p0, p1, p2, p3, p4, p5⟩ := HX.out.below HB6.out)
         | (go_at_call 47; refine (HEB.out _).mono ?_; rintro e w7 ⟨q7, rfl, hq7, hb7⟩; have HQ7 := Lib.hid hq7; clear hq7; have HB7 := Lib.hid (bthen HB6.out hb7); clear hb7; obtain ⟨_, p0, p1, p2, p3, p4, p5⟩ := HX.out.below HB7.out)
         | (go_at_call 46; refine (HE.out _ _ (bthen HA.out HB7.out) HQ7.out).mono ?_; rintro e w8 ⟨rfl, hb8⟩; have HB8 := Lib.hid (bthen HB7.out hb8); clear hb8; obtain ⟨_, p0, p1, p2, p3, p4, p5⟩ := HX.out.below HB8.out)
       refine hK.out _ _ ?_ (fun hHeld => ?_)
       · go_keep
       clear hK K
       try go_frame)
  try go_frame
  first
    | (refine wpAnyH_ready (rs := [25]) (by kernel_rfl) (by simp) ?_
       refine AllReadyH.cons (o := ⟨_, _, _, _, _, _⟩) rfl (fun K hK => ?_) AllReadyH.nil
       go_simp
       first
         | (go_at_call 38; refine (HC.out _).mono ?_; rintro e w1 ⟨rfl, hb1⟩; have HB1 := Lib.hid (bthen (bdrew _) hb1); clear hb1; obtain ⟨_, p0, p1, p2, p3, p4, p5⟩ := HX.out.below HB1.out)
         | (go_at_call 39; refine (HN.out _).mono ?_; rintro e w2 ⟨rfl, rfl⟩)
         | (go_at_call 40; refine (HF.out _ (bthen HA.out HB1.out)).mono ?_; rintro e w3 ⟨rfl, hb3⟩; have HB3 := Lib.hid (bthen HB1.out hb3); clear hb3; obtain ⟨_, p0, p1, p2, p3, p4, p5⟩ := HX.out.below HB3.out)
         | (go_at_call 42; refine (HP.out _ (bthen HA.out HB3.out)).mono ?_; rintro e w4 ⟨rfl, hb4⟩; have HB4 := Lib.hid (bthen HB3.out hb4); clear hb4; obtain ⟨_, p0, p1, p2, p3, p4, p5⟩ := HX.out.below HB4.out)
         | (go_at_call 45; refine (HLB.out _).mono ?_; rintro e w5 ⟨q5, rfl, hq5, hb5⟩; have HQ5 := Lib.hid hq5; clear hq5; have HB5 := Lib.hid (bthen HB4.out hb5); clear hb5; obtain ⟨_, p0, p1, p2, p3, p4, p5⟩ := HX.out.below HB5.out)
         | (go_at_call 44; refine (HL.out _ _ (bthen HA.out HB5.out) HQ5.out).mono ?_; rintro e w6 ⟨rfl, hb6⟩; have HB6 := Lib.hid (bthen HB5.out hb6); clear hb6; obtain ⟨_, p0, p1, p2, p3, p4, p5⟩ := HX.out.below HB6.out)
         | (go_at_call 47; refine (HEB.out _).mono ?_; rintro e w7 ⟨q7, rfl, hq7, hb7⟩; have HQ7 := Lib.hid hq7; clear hq7; have HB7 := Lib.hid (bthen HB6.out hb7); clear hb7; obtain ⟨_, p0, p1, p2, p3, p4, p5⟩ := HX.out.below HB7.out)
         | (go_at_call 46; refine (HE.out _ _ (bthen HA.out HB7.out) HQ7.out).mono ?_; rintro e w8 ⟨rfl, hb8⟩; have HB8 := Lib.hid (bthen HB7.out hb8); clear hb8; obtain ⟨_, p0, p1, p2, p3, p4, p5⟩ := HX.out.below HB8.out)
       refine hK.out _ _ ?_ (fun hHeld => ?_)
       · go_keep
       clear hK K
       try go_frame)
  try go_frame
  first | refine tq0 26 rfl ?_ | refine tq1 26 rfl ?_
  try go_frame
  first | refine tq0 27 rfl ?_ | refine tq1 27 rfl ?_
  try go_frame
  first | refine tq0 28 rfl ?_ | refine tq1 28 rfl ?_
  try go_frame
  first | refine tq0 29 rfl ?_ | refine tq1 29 rfl ?_
  try go_frame
  first | refine tq0 30 rfl ?_ | refine tq1 30 rfl ?_
  try go_frame
  first | refine tq0 31 rfl ?_ | refine tq1 31 rfl ?_
  try go_frame
  first | refine tq0 32 rfl ?_ | refine tq1 32 rfl ?_
  try go_frame
  first | refine tq0 33 rfl ?_ | refine tq1 33 rfl ?_
  try go_frame
  first | refine tq0 34 rfl ?_ | refine tq1 34 rfl ?_
  try go_frame
  first | refine tq0 35 rfl ?_ | refine tq1 35 rfl ?_
  try go_frame
  refine wpAnyH_done (by kernel_rfl) ?_ _
  go_wp2_with fail
  go_ret
  exact ⟨rfl, bthen HA.out HB6.out⟩

end Go.Proofs.YthkfaeplmmlnlaaGreat
namespace Go.Proofs.YthkfaeplmmlnlaaGreat
open Go.RowKit
set_option linter.unusedVariables false

set_option maxHeartbeats 3200000 in
theorem check_5 (seed : Int) (fin nd np nl ni cd cp cl ci : Nat) (ad ap al ai : Option Addr) (w : World)
    (HC : Hid (∀ w, Calls Tryz.prog 38 #[.agg #[.int .i64 seed, .float .f64 fin, .slice ad nd cd, .slice ap np cp, .slice al nl cl, .slice ai ni ci]] w fun e w' => e = .returned (.bool true) ∧ Below w.heap.size w w'))
    (HN : Hid (∀ w, Calls Tryz.prog 39 #[.float .f64 fin] w fun e w' => e = .returned (.bool (!true)) ∧ w = w'))
    (HF : Hid (∀ w2, Below w.heap.size w w2 → Calls Tryz.prog 40 #[.slice ad nd cd, .func (.func 41) #[] #[]] w2 fun e w' => e = .returned (.bool true) ∧ Below w2.heap.size w2 w'))
    (HP : Hid (∀ w2, Below w.heap.size w w2 → Calls Tryz.prog 42 #[.slice ap np cp, .func (.func 43) #[] #[]] w2 fun e w' => e = .returned (.bool true) ∧ Below w2.heap.size w2 w'))
    (HLB : Hid (∀ w, Calls Tryz.prog 45 #[.int .i64 np] w fun e w' => ∃ q, e = .returned (.func (.func 73) #[] #[.pointer (some ⟨q, 0, none⟩)]) ∧ BoxI np q w' ∧ Below w.heap.size w w'))
    (HL : Hid (∀ q w2, Below w.heap.size w w2 → BoxI np q w2 → Calls Tryz.prog 44 #[.slice al nl cl, .func (.func 73) #[] #[.pointer (some ⟨q, 0, none⟩)]] w2 fun e w' => e = .returned (.bool true) ∧ Below w2.heap.size w2 w'))
    (HEB : Hid (∀ w, Calls Tryz.prog 47 #[.int .i64 nl] w fun e w' => ∃ q, e = .returned (.func (.func 75) #[] #[.pointer (some ⟨q, 0, none⟩)]) ∧ BoxI nl q w' ∧ Below w.heap.size w w'))
    (HE : Hid (∀ q w2, Below w.heap.size w w2 → BoxI nl q w2 → Calls Tryz.prog 46 #[.slice ai ni ci, .func (.func 75) #[] #[.pointer (some ⟨q, 0, none⟩)]] w2 fun e w' => e = .returned (.bool false) ∧ Below w2.heap.size w2 w')) :
    Calls Tryz.prog 20 #[.agg #[.int .i64 seed, .float .f64 fin, .slice ad nd cd, .slice ap np cp, .slice al nl cl, .slice ai ni ci]] w fun e w' => e = .returned (.int .i64 15) ∧ Below w.heap.size w w' := by
  have HX := Lib.hid (Box6.new (.int .i64 seed) (.float .f64 fin) (.slice ad nd cd) (.slice ap np cp) (.slice al nl cl) (.slice ai ni ci) 28 w)
  have HA := Lib.hid (balloc w (.cells #[.int .i64 seed, .float .f64 fin, .slice ad nd cd, .slice ap np cp, .slice al nl cl, .slice ai ni ci] 28))
  obtain ⟨_, x0, x1, x2, x3, x4, x5⟩ := HX.out
  go_enter Tryz.func20, Tryz.ntmps20
  go_wp2_with fail
  go_region_held3 (fun w' => w'.cell? ⟨w.heap.size, 0, none⟩ = some (.int .i64 seed) ∧ w'.cell? ⟨w.heap.size, 1, none⟩ = some (.float .f64 fin) ∧ w'.cell? ⟨w.heap.size, 2, none⟩ = some (.slice ad nd cd) ∧ w'.cell? ⟨w.heap.size, 3, none⟩ = some (.slice ap np cp) ∧ w'.cell? ⟨w.heap.size, 4, none⟩ = some (.slice al nl cl) ∧ w'.cell? ⟨w.heap.size, 5, none⟩ = some (.slice ai ni ci)) (go_keep) (first
    | (go_at_call 38; refine (HC.out _).mono ?_; rintro e w1 ⟨rfl, hb1⟩; have HB1 := Lib.hid (bthen (bdrew _) hb1); clear hb1; obtain ⟨_, p0, p1, p2, p3, p4, p5⟩ := HX.out.below HB1.out)
    | (go_at_call 39; refine (HN.out _).mono ?_; rintro e w2 ⟨rfl, rfl⟩)
    | (go_at_call 40; refine (HF.out _ (bthen HA.out HB1.out)).mono ?_; rintro e w3 ⟨rfl, hb3⟩; have HB3 := Lib.hid (bthen HB1.out hb3); clear hb3; obtain ⟨_, p0, p1, p2, p3, p4, p5⟩ := HX.out.below HB3.out)
    | (go_at_call 42; refine (HP.out _ (bthen HA.out HB3.out)).mono ?_; rintro e w4 ⟨rfl, hb4⟩; have HB4 := Lib.hid (bthen HB3.out hb4); clear hb4; obtain ⟨_, p0, p1, p2, p3, p4, p5⟩ := HX.out.below HB4.out)
    | (go_at_call 45; refine (HLB.out _).mono ?_; rintro e w5 ⟨q5, rfl, hq5, hb5⟩; have HQ5 := Lib.hid hq5; clear hq5; have HB5 := Lib.hid (bthen HB4.out hb5); clear hb5; obtain ⟨_, p0, p1, p2, p3, p4, p5⟩ := HX.out.below HB5.out)
    | (go_at_call 44; refine (HL.out _ _ (bthen HA.out HB5.out) HQ5.out).mono ?_; rintro e w6 ⟨rfl, hb6⟩; have HB6 := Lib.hid (bthen HB5.out hb6); clear hb6; obtain ⟨_, p0, p1, p2, p3, p4, p5⟩ := HX.out.below HB6.out)
    | (go_at_call 47; refine (HEB.out _).mono ?_; rintro e w7 ⟨q7, rfl, hq7, hb7⟩; have HQ7 := Lib.hid hq7; clear hq7; have HB7 := Lib.hid (bthen HB6.out hb7); clear hb7; obtain ⟨_, p0, p1, p2, p3, p4, p5⟩ := HX.out.below HB7.out)
    | (go_at_call 46; refine (HE.out _ _ (bthen HA.out HB7.out) HQ7.out).mono ?_; rintro e w8 ⟨rfl, hb8⟩; have HB8 := Lib.hid (bthen HB7.out hb8); clear hb8; obtain ⟨_, p0, p1, p2, p3, p4, p5⟩ := HX.out.below HB8.out))
  go_wp2_with fail
  go_ret
  exact ⟨rfl, bthen HA.out HB8.out⟩

set_option maxHeartbeats 3200000 in
theorem check_6 (seed : Int) (fin nd np nl ni cd cp cl ci : Nat) (ad ap al ai : Option Addr) (w : World)
    (HC : Hid (∀ w, Calls Tryz.prog 38 #[.agg #[.int .i64 seed, .float .f64 fin, .slice ad nd cd, .slice ap np cp, .slice al nl cl, .slice ai ni ci]] w fun e w' => e = .returned (.bool true) ∧ Below w.heap.size w w'))
    (HN : Hid (∀ w, Calls Tryz.prog 39 #[.float .f64 fin] w fun e w' => e = .returned (.bool (!true)) ∧ w = w'))
    (HF : Hid (∀ w2, Below w.heap.size w w2 → Calls Tryz.prog 40 #[.slice ad nd cd, .func (.func 41) #[] #[]] w2 fun e w' => e = .returned (.bool true) ∧ Below w2.heap.size w2 w'))
    (HP : Hid (∀ w2, Below w.heap.size w w2 → Calls Tryz.prog 42 #[.slice ap np cp, .func (.func 43) #[] #[]] w2 fun e w' => e = .returned (.bool true) ∧ Below w2.heap.size w2 w'))
    (HLB : Hid (∀ w, Calls Tryz.prog 45 #[.int .i64 np] w fun e w' => ∃ q, e = .returned (.func (.func 73) #[] #[.pointer (some ⟨q, 0, none⟩)]) ∧ BoxI np q w' ∧ Below w.heap.size w w'))
    (HL : Hid (∀ q w2, Below w.heap.size w w2 → BoxI np q w2 → Calls Tryz.prog 44 #[.slice al nl cl, .func (.func 73) #[] #[.pointer (some ⟨q, 0, none⟩)]] w2 fun e w' => e = .returned (.bool true) ∧ Below w2.heap.size w2 w'))
    (HEB : Hid (∀ w, Calls Tryz.prog 47 #[.int .i64 nl] w fun e w' => ∃ q, e = .returned (.func (.func 75) #[] #[.pointer (some ⟨q, 0, none⟩)]) ∧ BoxI nl q w' ∧ Below w.heap.size w w'))
    (HE : Hid (∀ q w2, Below w.heap.size w w2 → BoxI nl q w2 → Calls Tryz.prog 46 #[.slice ai ni ci, .func (.func 75) #[] #[.pointer (some ⟨q, 0, none⟩)]] w2 fun e w' => e = .returned (.bool true) ∧ Below w2.heap.size w2 w')) :
    Calls Tryz.prog 20 #[.agg #[.int .i64 seed, .float .f64 fin, .slice ad nd cd, .slice ap np cp, .slice al nl cl, .slice ai ni ci]] w fun e w' => e = .returned (.int .i64 0) ∧ Below w.heap.size w w' := by
  have HX := Lib.hid (Box6.new (.int .i64 seed) (.float .f64 fin) (.slice ad nd cd) (.slice ap np cp) (.slice al nl cl) (.slice ai ni ci) 28 w)
  have HA := Lib.hid (balloc w (.cells #[.int .i64 seed, .float .f64 fin, .slice ad nd cd, .slice ap np cp, .slice al nl cl, .slice ai ni ci] 28))
  obtain ⟨_, x0, x1, x2, x3, x4, x5⟩ := HX.out
  go_enter Tryz.func20, Tryz.ntmps20
  go_wp2_with fail
  go_region_held3 (fun w' => w'.cell? ⟨w.heap.size, 0, none⟩ = some (.int .i64 seed) ∧ w'.cell? ⟨w.heap.size, 1, none⟩ = some (.float .f64 fin) ∧ w'.cell? ⟨w.heap.size, 2, none⟩ = some (.slice ad nd cd) ∧ w'.cell? ⟨w.heap.size, 3, none⟩ = some (.slice ap np cp) ∧ w'.cell? ⟨w.heap.size, 4, none⟩ = some (.slice al nl cl) ∧ w'.cell? ⟨w.heap.size, 5, none⟩ = some (.slice ai ni ci)) (go_keep) (first
    | (go_at_call 38; refine (HC.out _).mono ?_; rintro e w1 ⟨rfl, hb1⟩; have HB1 := Lib.hid (bthen (bdrew _) hb1); clear hb1; obtain ⟨_, p0, p1, p2, p3, p4, p5⟩ := HX.out.below HB1.out)
    | (go_at_call 39; refine (HN.out _).mono ?_; rintro e w2 ⟨rfl, rfl⟩)
    | (go_at_call 40; refine (HF.out _ (bthen HA.out HB1.out)).mono ?_; rintro e w3 ⟨rfl, hb3⟩; have HB3 := Lib.hid (bthen HB1.out hb3); clear hb3; obtain ⟨_, p0, p1, p2, p3, p4, p5⟩ := HX.out.below HB3.out)
    | (go_at_call 42; refine (HP.out _ (bthen HA.out HB3.out)).mono ?_; rintro e w4 ⟨rfl, hb4⟩; have HB4 := Lib.hid (bthen HB3.out hb4); clear hb4; obtain ⟨_, p0, p1, p2, p3, p4, p5⟩ := HX.out.below HB4.out)
    | (go_at_call 45; refine (HLB.out _).mono ?_; rintro e w5 ⟨q5, rfl, hq5, hb5⟩; have HQ5 := Lib.hid hq5; clear hq5; have HB5 := Lib.hid (bthen HB4.out hb5); clear hb5; obtain ⟨_, p0, p1, p2, p3, p4, p5⟩ := HX.out.below HB5.out)
    | (go_at_call 44; refine (HL.out _ _ (bthen HA.out HB5.out) HQ5.out).mono ?_; rintro e w6 ⟨rfl, hb6⟩; have HB6 := Lib.hid (bthen HB5.out hb6); clear hb6; obtain ⟨_, p0, p1, p2, p3, p4, p5⟩ := HX.out.below HB6.out)
    | (go_at_call 47; refine (HEB.out _).mono ?_; rintro e w7 ⟨q7, rfl, hq7, hb7⟩; have HQ7 := Lib.hid hq7; clear hq7; have HB7 := Lib.hid (bthen HB6.out hb7); clear hb7; obtain ⟨_, p0, p1, p2, p3, p4, p5⟩ := HX.out.below HB7.out)
    | (go_at_call 46; refine (HE.out _ _ (bthen HA.out HB7.out) HQ7.out).mono ?_; rintro e w8 ⟨rfl, hb8⟩; have HB8 := Lib.hid (bthen HB7.out hb8); clear hb8; obtain ⟨_, p0, p1, p2, p3, p4, p5⟩ := HX.out.below HB8.out))
  go_wp2_with fail
  go_ret
  exact ⟨rfl, bthen HA.out HB8.out⟩

theorem check_any (m : Mdl) (vd vp vl vi : Value) (w : World) (h : MdlAt m vd vp vl vi w) :
    Calls Tryz.prog 20 #[mval m vd vp vl vi] w fun e w' => e = .returned (.int .i64 (chkN m)) ∧ Below w.heap.size w w' := by
  obtain ⟨hd, hp, hl, hi⟩ := h
  have hp0 := hp
  have hl0 := hl
  obtain ⟨ad, cd, rfl, _, _, _⟩ := id hd
  obtain ⟨gp, hp1, _⟩ := hp0
  obtain ⟨ap, cp, rfl, _, _, _⟩ := hp1
  obtain ⟨gl, hl1, _⟩ := hl0
  obtain ⟨al, cl, rfl, _, _, _⟩ := hl1
  obtain ⟨ai, ci, rfl, _, _, _⟩ := id hi
  have HC := counts_any m.seed m.fin m.nd m.np m.nl m.ni cd cp cl ci ad ap al ai
  have HN := isNaN_any m.fin
  have HF := fun w2 (k : Below w.heap.size w w2) => allF_any m.d m.nd _ w2 (hd.below k)
  have HP := fun w2 (k : Below w.heap.size w w2) => allP_any m.np m.pl m.pr _ w2 (hp.below k)
  have HL := fun q w2 (k : Below w.heap.size w w2) (hq : BoxI m.np q w2) => allL_any m.nl m.np m.lp m.wl m.wd q _ w2 (hl.below k) hq
  have HE := fun q w2 (k : Below w.heap.size w w2) (hq : BoxI m.nl q w2) => allE_any m.ni m.nl m.ev q _ w2 (hi.below k) hq
  unfold mval chkN mayB countsB
  generalize (from1 6 m.nl && (from1 4 m.np && (from1 8 m.nd && decide (m.ni ≤ 16)))) = b1 at *
  generalize numF m.fin = b2 at *
  generalize allN (fun i => posF (m.d i)) m.nd = b3 at *
  generalize allN (fun i => progB (m.pr i) (m.pl i)) m.np = b4 at *
  generalize allN (fun i => lpB m.np (m.lp i) (m.wl i)) m.nl = b5 at *
  generalize allN (fun i => evB m.nl (m.ev i)) m.ni = b6 at *
  cases b1
  · exact check_0 _ _ _ _ _ _ _ _ _ _ _ _ _ _ w b2 b3 b4 b5 b6 HC HN HF HP (processMayBe_box _) HL (eventMayBe_box _) HE
  cases b2
  · exact check_1 _ _ _ _ _ _ _ _ _ _ _ _ _ _ w b3 b4 b5 b6 HC HN HF HP (processMayBe_box _) HL (eventMayBe_box _) HE
  cases b3
  · exact check_2 _ _ _ _ _ _ _ _ _ _ _ _ _ _ w b4 b5 b6 HC HN HF HP (processMayBe_box _) HL (eventMayBe_box _) HE
  cases b4
  · exact check_3 _ _ _ _ _ _ _ _ _ _ _ _ _ _ w b5 b6 HC HN HF HP (processMayBe_box _) HL (eventMayBe_box _) HE
  cases b5
  · exact check_4 _ _ _ _ _ _ _ _ _ _ _ _ _ _ w b6 HC HN HF HP (processMayBe_box _) HL (eventMayBe_box _) HE
  cases b6
  · exact check_5 _ _ _ _ _ _ _ _ _ _ _ _ _ _ w HC HN HF HP (processMayBe_box _) HL (eventMayBe_box _) HE
  exact check_6 _ _ _ _ _ _ _ _ _ _ _ _ _ _ w HC HN HF HP (processMayBe_box _) HL (eventMayBe_box _) HE

end Go.Proofs.YthkfaeplmmlnlaaGreat
