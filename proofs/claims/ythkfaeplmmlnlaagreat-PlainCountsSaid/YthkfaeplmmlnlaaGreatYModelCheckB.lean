/- Check, where a process may not be. -/
import Derived.Test.YthkfaeplmmlnlaaGreatYZ13
import Derived.Test.YthkfaeplmmlnlaaGreatYZ0
import Derived.Test.YthkfaeplmmlnlaaGreatYZ3
namespace Go.Proofs.YthkfaeplmmlnlaaGreat
open Go.RowKit
set_option linter.unusedVariables false

set_option maxHeartbeats 3200000 in
theorem check_4 (seed : Int) (fin nd np nl ni cd cp cl ci : Nat) (ad ap al ai : Option Addr) (w : World) (b6 : Bool)
    (HC : Hid (∀ w, Calls Tryz.prog 38 #[.agg #[.int .i64 seed, .float .f64 fin, .slice ad nd cd, .slice ap np cp, .slice al nl cl, .slice ai ni ci]] w fun e w' => e = .returned (.bool true) ∧ Below w.heap.size w w'))
    (HN : Hid (∀ w, Calls Tryz.prog 39 #[.float .f64 fin] w fun e w' => e = .returned (.bool (!true)) ∧ w = w'))
    (HF : Hid (∀ w2, Below w.heap.size w w2 → Calls Tryz.prog 40 #[.slice ad nd cd, .func (.func 41) #[] #[]] w2 fun e w' => e = .returned (.bool true) ∧ Below w2.heap.size w2 w'))
    (HP : Hid (∀ w2, Below w.heap.size w w2 → Calls Tryz.prog 42 #[.slice ap np cp, .func (.func 43) #[] #[]] w2 fun e w' => e = .returned (.bool true) ∧ Below w2.heap.size w2 w'))
    (HLB : Hid (∀ w, Calls Tryz.prog 45 #[.int .i64 np] w fun e w' => ∃ q, e = .returned (.func (.func 73) #[] #[.pointer (some ⟨q, 0, none⟩)]) ∧ BoxI np q w' ∧ Below w.heap.size w w'))
    (HL : Hid (∀ q w2, Below w.heap.size w w2 → BoxI np q w2 → Calls Tryz.prog 44 #[.slice al nl cl, .func (.func 73) #[] #[.pointer (some ⟨q, 0, none⟩)]] w2 fun e w' => e = .returned (.bool false) ∧ Below w2.heap.size w2 w'))
    (HEB : Hid (∀ w, Calls Tryz.prog 47 #[.int .i64 nl] w fun e w' => ∃ q, e = .returned (.func (.func 75) #[] #[.pointer (some ⟨q, 0, none⟩)]) ∧ BoxI nl q w' ∧ Below w.heap.size w w'))
    (HE : Hid (∀ q w2, Below w.heap.size w w2 → BoxI nl q w2 → Calls Tryz.prog 46 #[.slice ai ni ci, .func (.func 75) #[] #[.pointer (some ⟨q, 0, none⟩)]] w2 fun e w' => e = .returned (.bool b6) ∧ Below w2.heap.size w2 w')) :
    Calls Tryz.prog 20 #[.agg #[.int .i64 seed, .float .f64 fin, .slice ad nd cd, .slice ap np cp, .slice al nl cl, .slice ai ni ci]] w fun e w' => e = .returned (.int .i64 15) ∧ Below w.heap.size w w' := by
  have HX := Lib.hid (Box6.new (.int .i64 seed) (.float .f64 fin) (.slice ad nd cd) (.slice ap np cp) (.slice al nl cl) (.slice ai ni ci) 28 w)
  have HA := Lib.hid (balloc w (.cells #[.int .i64 seed, .float .f64 fin, .slice ad nd cd, .slice ap np cp, .slice al nl cl, .slice ai ni ci] 28))
  obtain ⟨_, x0, x1, x2, x3, x4, x5⟩ := HX.out
  go_enter Tryz.func20, Tryz.ntmps20
  go_wp2_with fail
  refine wp_region_held_drew (S := (fun w' => w'.cell? ⟨w.heap.size, 0, none⟩ = some (.int .i64 seed) ∧ w'.cell? ⟨w.heap.size, 1, none⟩ = some (.float .f64 fin) ∧ w'.cell? ⟨w.heap.size, 2, none⟩ = some (.slice ad nd cd) ∧ w'.cell? ⟨w.heap.size, 3, none⟩ = some (.slice ap np cp) ∧ w'.cell? ⟨w.heap.size, 4, none⟩ = some (.slice al nl cl) ∧ w'.cell? ⟨w.heap.size, 5, none⟩ = some (.slice ai ni ci))) (by kernel_rfl) ?_ (fun hHeld => ?_)
  · go_keep
  first
    | refine tk0 0 (oi := ⟨_, _, _, _, _, _⟩) rfl ?_
    | refine tk1 0 (oi := ⟨_, _, _, _, _, _⟩) (v := ?_) rfl ?_ ?_; rotate_left; · (intro w5 hSw; (try dsimp only at hSw); go_simp; (try with_reducible rfl))
    | (refine wpAnyH_ready (rs := [0]) (by kernel_rfl) (by simp) ?_
       refine AllReadyH.cons (o := ⟨_, _, _, _, _, _⟩) rfl (fun K hK => ?_) AllReadyH.nil
       go_simp
       first
         | (go_at_call 38; refine (HC.out _).mono ?_; rintro e w1 ⟨rfl, hb1⟩; have HB1 := Lib.hid (bthen (bdrew _) hb1); clear hb1; obtain ⟨_, p0, p1, p2, p3, p4, p5⟩ := HX.out.below HB1.out)
         | (go_at_call 39; refine (HN.out _).mono ?_; rintro e w2 ⟨rfl, rfl⟩)
         | (go_at_call 40; refine (HF.out _ (bthen HA.out HB1.out)).mono ?_; rintro e w3 ⟨rfl, hb3⟩; have HB3 := Lib.hid (bthen HB1.out hb3); clear hb3; obtain ⟨_, p0, p1, p2, p3, p4, p5⟩ := HX.out.below HB3.out)
         | (go_at_call 42; refine (HP.out _ (bthen HA.out HB3.out)).mono ?_; rintro e w4 ⟨rfl, hb4⟩; have HB4 := Lib.hid (bthen HB3.out hb4); clear hb4; obtain ⟨_, p0, p1, p2, p3, p4, p5⟩ := HX.out.below HB4.out)
         | (go_at_call 45; refine (HLB.out _).mono ?_; rintro e w5 ⟨q5, rfl, hq5, hb5⟩; have HQ5 := Lib.hid hq5; clear hq5; have HB5 := Lib.hid (bthen HB4.out hb5); clear hb5; obtain ⟨_, p0, p1, p2, p3, p4, p5⟩ := HX.out.below HB5.out)
         | (go_at_call 44; refine (HL.out _ _ (bthen HA.out HB5.out) HQ5.out).mono ?_; rintro e w6 ⟨rfl, hb6⟩; have HB6 := Lib.hid (bthen HB5.out hb6); clear hb6; obtain ⟨_, p0, p1, p2, p3, p4, p5⟩ := HX.out.below HB6.out)
         | (go_at_call 47; refine (HEB.out _).mono ?_; rintro e w7 ⟨q7, rfl, hq7, hb7⟩; have HQ7 := Lib.hid hq7; clear hq7; have HB7 := Lib.hid (bthen HB6.out hb7); clear hb7; obtain ⟨_, p0, p1, p2, p3, p4, p5⟩ := HX.out.below HB7.out)
         | (go_at_call 46; refine (HE.out _ _ (bthen HA.out HB7.out) HQ7.out).mono ?_; rintro e w8 ⟨rfl, hb8⟩; have HB8 := Lib.hid (bthen HB7.out hb8); clear hb8; obtain ⟨_, p0, p1, p2, p3, p4, p5⟩ := HX.out.below HB8.out)
       refine hK.out _ _ ?_ (fun hHeld => ?_)
       · go_keep
       clear hK K
       try go_frame)
  try go_frame
  first
    | refine tk0 1 (oi := ⟨_, _, _, _, _, _⟩) rfl ?_
    | refine tk1 1 (oi := ⟨_, _, _, _, _, _⟩) (v := ?_) rfl ?_ ?_; rotate_left; · (intro w5 hSw; (try dsimp only at hSw); go_simp; (try with_reducible rfl))
    | (refine wpAnyH_ready (rs := [1]) (by kernel_rfl) (by simp) ?_
       refine AllReadyH.cons (o := ⟨_, _, _, _, _, _⟩) rfl (fun K hK => ?_) AllReadyH.nil
       go_simp
       first
         | (go_at_call 38; refine (HC.out _).mono ?_; rintro e w1 ⟨rfl, hb1⟩; have HB1 := Lib.hid (bthen (bdrew _) hb1); clear hb1; obtain ⟨_, p0, p1, p2, p3, p4, p5⟩ := HX.out.below HB1.out)
         | (go_at_call 39; refine (HN.out _).mono ?_; rintro e w2 ⟨rfl, rfl⟩)
         | (go_at_call 40; refine (HF.out _ (bthen HA.out HB1.out)).mono ?_; rintro e w3 ⟨rfl, hb3⟩; have HB3 := Lib.hid (bthen HB1.out hb3); clear hb3; obtain ⟨_, p0, p1, p2, p3, p4, p5⟩ := HX.out.below HB3.out)
         | (go_at_call 42; refine (HP.out _ (bthen HA.out HB3.out)).mono ?_; rintro e w4 ⟨rfl, hb4⟩; have HB4 := Lib.hid (bthen HB3.out hb4); clear hb4; obtain ⟨_, p0, p1, p2, p3, p4, p5⟩ := HX.out.below HB4.out)
         | (go_at_call 45; refine (HLB.out _).mono ?_; rintro e w5 ⟨q5, rfl, hq5, hb5⟩; have HQ5 := Lib.hid hq5; clear hq5; have HB5 := Lib.hid (bthen HB4.out hb5); clear hb5; obtain ⟨_, p0, p1, p2, p3, p4, p5⟩ := HX.out.below HB5.out)
         | (go_at_call 44; refine (HL.out _ _ (bthen HA.out HB5.out) HQ5.out).mono ?_; rintro e w6 ⟨rfl, hb6⟩; have HB6 := Lib.hid (bthen HB5.out hb6); clear hb6; obtain ⟨_, p0, p1, p2, p3, p4, p5⟩ := HX.out.below HB6.out)
         | (go_at_call 47; refine (HEB.out _).mono ?_; rintro e w7 ⟨q7, rfl, hq7, hb7⟩; have HQ7 := Lib.hid hq7; clear hq7; have HB7 := Lib.hid (bthen HB6.out hb7); clear hb7; obtain ⟨_, p0, p1, p2, p3, p4, p5⟩ := HX.out.below HB7.out)
         | (go_at_call 46; refine (HE.out _ _ (bthen HA.out HB7.out) HQ7.out).mono ?_; rintro e w8 ⟨rfl, hb8⟩; have HB8 := Lib.hid (bthen HB7.out hb8); clear hb8; obtain ⟨_, p0, p1, p2, p3, p4, p5⟩ := HX.out.below HB8.out)
       refine hK.out _ _ ?_ (fun hHeld => ?_)
       · go_keep
       clear hK K
       try go_frame)
  try go_frame
  first
    | refine tk0 2 (oi := ⟨_, _, _, _, _, _⟩) rfl ?_
    | refine tk1 2 (oi := ⟨_, _, _, _, _, _⟩) (v := ?_) rfl ?_ ?_; rotate_left; · (intro w5 hSw; (try dsimp only at hSw); go_simp; (try with_reducible rfl))
    | (refine wpAnyH_ready (rs := [2]) (by kernel_rfl) (by simp) ?_
       refine AllReadyH.cons (o := ⟨_, _, _, _, _, _⟩) rfl (fun K hK => ?_) AllReadyH.nil
       go_simp
       first
         | (go_at_call 38; refine (HC.out _).mono ?_; rintro e w1 ⟨rfl, hb1⟩; have HB1 := Lib.hid (bthen (bdrew _) hb1); clear hb1; obtain ⟨_, p0, p1, p2, p3, p4, p5⟩ := HX.out.below HB1.out)
         | (go_at_call 39; refine (HN.out _).mono ?_; rintro e w2 ⟨rfl, rfl⟩)
         | (go_at_call 40; refine (HF.out _ (bthen HA.out HB1.out)).mono ?_; rintro e w3 ⟨rfl, hb3⟩; have HB3 := Lib.hid (bthen HB1.out hb3); clear hb3; obtain ⟨_, p0, p1, p2, p3, p4, p5⟩ := HX.out.below HB3.out)
         | (go_at_call 42; refine (HP.out _ (bthen HA.out HB3.out)).mono ?_; rintro e w4 ⟨rfl, hb4⟩; have HB4 := Lib.hid (bthen HB3.out hb4); clear hb4; obtain ⟨_, p0, p1, p2, p3, p4, p5⟩ := HX.out.below HB4.out)
         | (go_at_call 45; refine (HLB.out _).mono ?_; rintro e w5 ⟨q5, rfl, hq5, hb5⟩; have HQ5 := Lib.hid hq5; clear hq5; have HB5 := Lib.hid (bthen HB4.out hb5); clear hb5; obtain ⟨_, p0, p1, p2, p3, p4, p5⟩ := HX.out.below HB5.out)
         | (go_at_call 44; refine (HL.out _ _ (bthen HA.out HB5.out) HQ5.out).mono ?_; rintro e w6 ⟨rfl, hb6⟩; have HB6 := Lib.hid (bthen HB5.out hb6); clear hb6; obtain ⟨_, p0, p1, p2, p3, p4, p5⟩ := HX.out.below HB6.out)
         | (go_at_call 47; refine (HEB.out _).mono ?_; rintro e w7 ⟨q7, rfl, hq7, hb7⟩; have HQ7 := Lib.hid hq7; clear hq7; have HB7 := Lib.hid (bthen HB6.out hb7); clear hb7; obtain ⟨_, p0, p1, p2, p3, p4, p5⟩ := HX.out.below HB7.out)
         | (go_at_call 46; refine (HE.out _ _ (bthen HA.out HB7.out) HQ7.out).mono ?_; rintro e w8 ⟨rfl, hb8⟩; have HB8 := Lib.hid (bthen HB7.out hb8); clear hb8; obtain ⟨_, p0, p1, p2, p3, p4, p5⟩ := HX.out.below HB8.out)
       refine hK.out _ _ ?_ (fun hHeld => ?_)
       · go_keep
       clear hK K
       try go_frame)
  try go_frame
  first
    | refine tk0 3 (oi := ⟨_, _, _, _, _, _⟩) rfl ?_
    | refine tk1 3 (oi := ⟨_, _, _, _, _, _⟩) (v := ?_) rfl ?_ ?_; rotate_left; · (intro w5 hSw; (try dsimp only at hSw); go_simp; (try with_reducible rfl))
    | (refine wpAnyH_ready (rs := [3]) (by kernel_rfl) (by simp) ?_
       refine AllReadyH.cons (o := ⟨_, _, _, _, _, _⟩) rfl (fun K hK => ?_) AllReadyH.nil
       go_simp
       first
         | (go_at_call 38; refine (HC.out _).mono ?_; rintro e w1 ⟨rfl, hb1⟩; have HB1 := Lib.hid (bthen (bdrew _) hb1); clear hb1; obtain ⟨_, p0, p1, p2, p3, p4, p5⟩ := HX.out.below HB1.out)
         | (go_at_call 39; refine (HN.out _).mono ?_; rintro e w2 ⟨rfl, rfl⟩)
         | (go_at_call 40; refine (HF.out _ (bthen HA.out HB1.out)).mono ?_; rintro e w3 ⟨rfl, hb3⟩; have HB3 := Lib.hid (bthen HB1.out hb3); clear hb3; obtain ⟨_, p0, p1, p2, p3, p4, p5⟩ := HX.out.below HB3.out)
         | (go_at_call 42; refine (HP.out _ (bthen HA.out HB3.out)).mono ?_; rintro e w4 ⟨rfl, hb4⟩; have HB4 := Lib.hid (bthen HB3.out hb4); clear hb4; obtain ⟨_, p0, p1, p2, p3, p4, p5⟩ := HX.out.below HB4.out)
         | (go_at_call 45; refine (HLB.out _).mono ?_; rintro e w5 ⟨q5, rfl, hq5, hb5⟩; have HQ5 := Lib.hid hq5; clear hq5; have HB5 := Lib.hid (bthen HB4.out hb5); clear hb5; obtain ⟨_, p0, p1, p2, p3, p4, p5⟩ := HX.out.below HB5.out)
         | (go_at_call 44; refine (HL.out _ _ (bthen HA.out HB5.out) HQ5.out).mono ?_; rintro e w6 ⟨rfl, hb6⟩; have HB6 := Lib.hid (bthen HB5.out hb6); clear hb6; obtain ⟨_, p0, p1, p2, p3, p4, p5⟩ := HX.out.below HB6.out)
         | (go_at_call 47; refine (HEB.out _).mono ?_; rintro e w7 ⟨q7, rfl, hq7, hb7⟩; have HQ7 := Lib.hid hq7; clear hq7; have HB7 := Lib.hid (bthen HB6.out hb7); clear hb7; obtain ⟨_, p0, p1, p2, p3, p4, p5⟩ := HX.out.below HB7.out)
         | (go_at_call 46; refine (HE.out _ _ (bthen HA.out HB7.out) HQ7.out).mono ?_; rintro e w8 ⟨rfl, hb8⟩; have HB8 := Lib.hid (bthen HB7.out hb8); clear hb8; obtain ⟨_, p0, p1, p2, p3, p4, p5⟩ := HX.out.below HB8.out)
       refine hK.out _ _ ?_ (fun hHeld => ?_)
       · go_keep
       clear hK K
       try go_frame)
  try go_frame
  first
    | refine tk0 4 (oi := ⟨_, _, _, _, _, _⟩) rfl ?_
    | refine tk1 4 (oi := ⟨_, _, _, _, _, _⟩) (v := ?_) rfl ?_ ?_; rotate_left; · (intro w5 hSw; (try dsimp only at hSw); go_simp; (try with_reducible rfl))
    | (refine wpAnyH_ready (rs := [4]) (by kernel_rfl) (by simp) ?_
       refine AllReadyH.cons (o := ⟨_, _, _, _, _, _⟩) rfl (fun K hK => ?_) AllReadyH.nil
       go_simp
       first
         | (go_at_call 38; refine (HC.out _).mono ?_; rintro e w1 ⟨rfl, hb1⟩; have HB1 := Lib.hid (bthen (bdrew _) hb1); clear hb1; obtain ⟨_, p0, p1, p2, p3, p4, p5⟩ := HX.out.below HB1.out)
         | (go_at_call 39; refine (HN.out _).mono ?_; rintro e w2 ⟨rfl, rfl⟩)
         | (go_at_call 40; refine (HF.out _ (bthen HA.out HB1.out)).mono ?_; rintro e w3 ⟨rfl, hb3⟩; have HB3 := Lib.hid (bthen HB1.out hb3); clear hb3; obtain ⟨_, p0, p1, p2, p3, p4, p5⟩ := HX.out.below HB3.out)
         | (go_at_call 42; refine (HP.out _ (bthen HA.out HB3.out)).mono ?_; rintro e w4 ⟨rfl, hb4⟩; have HB4 := Lib.hid (bthen HB3.out hb4); clear hb4; obtain ⟨_, p0, p1, p2, p3, p4, p5⟩ := HX.out.below HB4.out)
         | (go_at_call 45; refine (HLB.out _).mono ?_; rintro e w5 ⟨q5, rfl, hq5, hb5⟩; have HQ5 := Lib.hid hq5; clear hq5; have HB5 := Lib.hid (bthen HB4.out hb5); clear hb5; obtain ⟨_, p0, p1, p2, p3, p4, p5⟩ := HX.out.below HB5.out)
         | (go_at_call 44; refine (HL.out _ _ (bthen HA.out HB5.out) HQ5.out).mono ?_; rintro e w6 ⟨rfl, hb6⟩; have HB6 := Lib.hid (bthen HB5.out hb6); clear hb6; obtain ⟨_, p0, p1, p2, p3, p4, p5⟩ := HX.out.below HB6.out)
         | (go_at_call 47; refine (HEB.out _).mono ?_; rintro e w7 ⟨q7, rfl, hq7, hb7⟩; have HQ7 := Lib.hid hq7; clear hq7; have HB7 := Lib.hid (bthen HB6.out hb7); clear hb7; obtain ⟨_, p0, p1, p2, p3, p4, p5⟩ := HX.out.below HB7.out)
         | (go_at_call 46; refine (HE.out _ _ (bthen HA.out HB7.out) HQ7.out).mono ?_; rintro e w8 ⟨rfl, hb8⟩; have HB8 := Lib.hid (bthen HB7.out hb8); clear hb8; obtain ⟨_, p0, p1, p2, p3, p4, p5⟩ := HX.out.below HB8.out)
       refine hK.out _ _ ?_ (fun hHeld => ?_)
       · go_keep
       clear hK K
       try go_frame)
  try go_frame
  first
    | refine tk0 5 (oi := ⟨_, _, _, _, _, _⟩) rfl ?_
    | refine tk1 5 (oi := ⟨_, _, _, _, _, _⟩) (v := ?_) rfl ?_ ?_; rotate_left; · (intro w5 hSw; (try dsimp only at hSw); go_simp; (try with_reducible rfl))
    | (refine wpAnyH_ready (rs := [5]) (by kernel_rfl) (by simp) ?_
       refine AllReadyH.cons (o := ⟨_, _, _, _, _, _⟩) rfl (fun K hK => ?_) AllReadyH.nil
       go_simp
       first
         | (go_at_call 38; refine (HC.out _).mono ?_; rintro e w1 ⟨rfl, hb1⟩; have HB1 := Lib.hid (bthen (bdrew _) hb1); clear hb1; obtain ⟨_, p0, p1, p2, p3, p4, p5⟩ := HX.out.below HB1.out)
         | (go_at_call 39; refine (HN.out _).mono ?_; rintro e w2 ⟨rfl, rfl⟩)
         | (go_at_call 40; refine (HF.out _ (bthen HA.out HB1.out)).mono ?_; rintro e w3 ⟨rfl, hb3⟩; have HB3 := Lib.hid (bthen HB1.out hb3); clear hb3; obtain ⟨_, p0, p1, p2, p3, p4, p5⟩ := HX.out.below HB3.out)
         | (go_at_call 42; refine (HP.out _ (bthen HA.out HB3.out)).mono ?_; rintro e w4 ⟨rfl, hb4⟩; have HB4 := Lib.hid (bthen HB3.out hb4); clear hb4; obtain ⟨_, p0, p1, p2, p3, p4, p5⟩ := HX.out.below HB4.out)
         | (go_at_call 45; refine (HLB.out _).mono ?_; rintro e w5 ⟨q5, rfl, hq5, hb5⟩; have HQ5 := Lib.hid hq5; clear hq5; have HB5 := Lib.hid (bthen HB4.out hb5); clear hb5; obtain ⟨_, p0, p1, p2, p3, p4, p5⟩ := HX.out.below HB5.out)
         | (go_at_call 44; refine (HL.out _ _ (bthen HA.out HB5.out) HQ5.out).mono ?_; rintro e w6 ⟨rfl, hb6⟩; have HB6 := Lib.hid (bthen HB5.out hb6); clear hb6; obtain ⟨_, p0, p1, p2, p3, p4, p5⟩ := HX.out.below HB6.out)
         | (go_at_call 47; refine (HEB.out _).mono ?_; rintro e w7 ⟨q7, rfl, hq7, hb7⟩; have HQ7 := Lib.hid hq7; clear hq7; have HB7 := Lib.hid (bthen HB6.out hb7); clear hb7; obtain ⟨_, p0, p1, p2, p3, p4, p5⟩ := HX.out.below HB7.out)
         | (go_at_call 46; refine (HE.out _ _ (bthen HA.out HB7.out) HQ7.out).mono ?_; rintro e w8 ⟨rfl, hb8⟩; have HB8 := Lib.hid (bthen HB7.out hb8); clear hb8; obtain ⟨_, p0, p1, p2, p3, p4, p5⟩ := HX.out.below HB8.out)
       refine hK.out _ _ ?_ (fun hHeld => ?_)
       · go_keep
       clear hK K
       try go_frame)
  try go_frame
  first
    | refine tk0 6 (oi := ⟨_, _, _, _, _, _⟩) rfl ?_
    | refine tk1 6 (oi := ⟨_, _, _, _, _, _⟩) (v := ?_) rfl ?_ ?_; rotate_left; · (intro w5 hSw; (try dsimp only at hSw); go_simp; (try with_reducible rfl))
    | (refine wpAnyH_ready (rs := [6]) (by kernel_rfl) (by simp) ?_
       refine AllReadyH.cons (o := ⟨_, _, _, _, _, _⟩) rfl (fun K hK => ?_) AllReadyH.nil
       go_simp
       first
         | (go_at_call 38; refine (HC.out _).mono ?_; rintro e w1 ⟨rfl, hb1⟩; have HB1 := Lib.hid (bthen (bdrew _) hb1); clear hb1; obtain ⟨_, p0, p1, p2, p3, p4, p5⟩ := HX.out.below HB1.out)
         | (go_at_call 39; refine (HN.out _).mono ?_; rintro e w2 ⟨rfl, rfl⟩)
         | (go_at_call 40; refine (HF.out _ (bthen HA.out HB1.out)).mono ?_; rintro e w3 ⟨rfl, hb3⟩; have HB3 := Lib.hid (bthen HB1.out hb3); clear hb3; obtain ⟨_, p0, p1, p2, p3, p4, p5⟩ := HX.out.below HB3.out)
         | (go_at_call 42; refine (HP.out _ (bthen HA.out HB3.out)).mono ?_; rintro e w4 ⟨rfl, hb4⟩; have HB4 := Lib.hid (bthen HB3.out hb4); clear hb4; obtain ⟨_, p0, p1, p2, p3, p4, p5⟩ := HX.out.below HB4.out)
         | (go_at_call 45; refine (HLB.out _).mono ?_; rintro e w5 ⟨q5, rfl, hq5, hb5⟩; have HQ5 := Lib.hid hq5; clear hq5; have HB5 := Lib.hid (bthen HB4.out hb5); clear hb5; obtain ⟨_, p0, p1, p2, p3, p4, p5⟩ := HX.out.below HB5.out)
         | (go_at_call 44; refine (HL.out _ _ (bthen HA.out HB5.out) HQ5.out).mono ?_; rintro e w6 ⟨rfl, hb6⟩; have HB6 := Lib.hid (bthen HB5.out hb6); clear hb6; obtain ⟨_, p0, p1, p2, p3, p4, p5⟩ := HX.out.below HB6.out)
         | (go_at_call 47; refine (HEB.out _).mono ?_; rintro e w7 ⟨q7, rfl, hq7, hb7⟩; have HQ7 := Lib.hid hq7; clear hq7; have HB7 := Lib.hid (bthen HB6.out hb7); clear hb7; obtain ⟨_, p0, p1, p2, p3, p4, p5⟩ := HX.out.below HB7.out)
         | (go_at_call 46; refine (HE.out _ _ (bthen HA.out HB7.out) HQ7.out).mono ?_; rintro e w8 ⟨rfl, hb8⟩; have HB8 := Lib.hid (bthen HB7.out hb8); clear hb8; obtain ⟨_, p0, p1, p2, p3, p4, p5⟩ := HX.out.below HB8.out)
       refine hK.out _ _ ?_ (fun hHeld => ?_)
       · go_keep
       clear hK K
       try go_frame)
  try go_frame
  first
    | refine tk0 7 (oi := ⟨_, _, _, _, _, _⟩) rfl ?_
    | refine tk1 7 (oi := ⟨_, _, _, _, _, _⟩) (v := ?_) rfl ?_ ?_; rotate_left; · (intro w5 hSw; (try dsimp only at hSw); go_simp; (try with_reducible rfl))
    | (refine wpAnyH_ready (rs := [7]) (by kernel_rfl) (by simp) ?_
       refine AllReadyH.cons (o := ⟨_, _, _, _, _, _⟩) rfl (fun K hK => ?_) AllReadyH.nil
       go_simp
       first
         | (go_at_call 38; refine (HC.out _).mono ?_; rintro e w1 ⟨rfl, hb1⟩; have HB1 := Lib.hid (bthen (bdrew _) hb1); clear hb1; obtain ⟨_, p0, p1, p2, p3, p4, p5⟩ := HX.out.below HB1.out)
         | (go_at_call 39; refine (HN.out _).mono ?_; rintro e w2 ⟨rfl, rfl⟩)
         | (go_at_call 40; refine (HF.out _ (bthen HA.out HB1.out)).mono ?_; rintro e w3 ⟨rfl, hb3⟩; have HB3 := Lib.hid (bthen HB1.out hb3); clear hb3; obtain ⟨_, p0, p1, p2, p3, p4, p5⟩ := HX.out.below HB3.out)
         | (go_at_call 42; refine (HP.out _ (bthen HA.out HB3.out)).mono ?_; rintro e w4 ⟨rfl, hb4⟩; have HB4 := Lib.hid (bthen HB3.out hb4); clear hb4; obtain ⟨_, p0, p1, p2, p3, p4, p5⟩ := HX.out.below HB4.out)
         | (go_at_call 45; refine (HLB.out _).mono ?_; rintro e w5 ⟨q5, rfl, hq5, hb5⟩; have HQ5 := Lib.hid hq5; clear hq5; have HB5 := Lib.hid (bthen HB4.out hb5); clear hb5; obtain ⟨_, p0, p1, p2, p3, p4, p5⟩ := HX.out.below HB5.out)
         | (go_at_call 44; refine (HL.out _ _ (bthen HA.out HB5.out) HQ5.out).mono ?_; rintro e w6 ⟨rfl, hb6⟩; have HB6 := Lib.hid (bthen HB5.out hb6); clear hb6; obtain ⟨_, p0, p1, p2, p3, p4, p5⟩ := HX.out.below HB6.out)
         | (go_at_call 47; refine (HEB.out _).mono ?_; rintro e w7 ⟨q7, rfl, hq7, hb7⟩; have HQ7 := Lib.hid hq7; clear hq7; have HB7 := Lib.hid (bthen HB6.out hb7); clear hb7; obtain ⟨_, p0, p1, p2, p3, p4, p5⟩ := HX.out.below HB7.out)
         | (go_at_call 46; refine (HE.out _ _ (bthen HA.out HB7.out) HQ7.out).mono ?_; rintro e w8 ⟨rfl, hb8⟩; have HB8 := Lib.hid (bthen HB7.out hb8); clear hb8; obtain ⟨_, p0, p1, p2, p3, p4, p5⟩ := HX.out.below HB8.out)
       refine hK.out _ _ ?_ (fun hHeld => ?_)
       · go_keep
       clear hK K
       try go_frame)
  try go_frame
  first
    | refine tk0 8 (oi := ⟨_, _, _, _, _, _⟩) rfl ?_
    | refine tk1 8 (oi := ⟨_, _, _, _, _, _⟩) (v := ?_) rfl ?_ ?_; rotate_left; · (intro w5 hSw; (try dsimp only at hSw); go_simp; (try with_reducible rfl))
    | (refine wpAnyH_ready (rs := [8]) (by kernel_rfl) (by simp) ?_
       refine AllReadyH.cons (o := ⟨_, _, _, _, _, _⟩) rfl (fun K hK => ?_) AllReadyH.nil
       go_simp
       first
         | (go_at_call 38; refine (HC.out _).mono ?_; rintro e w1 ⟨rfl, hb1⟩; have HB1 := Lib.hid (bthen (bdrew _) hb1); clear hb1; obtain ⟨_, p0, p1, p2, p3, p4, p5⟩ := HX.out.below HB1.out)
         | (go_at_call 39; refine (HN.out _).mono ?_; rintro e w2 ⟨rfl, rfl⟩)
         | (go_at_call 40; refine (HF.out _ (bthen HA.out HB1.out)).mono ?_; rintro e w3 ⟨rfl, hb3⟩; have HB3 := Lib.hid (bthen HB1.out hb3); clear hb3; obtain ⟨_, p0, p1, p2, p3, p4, p5⟩ := HX.out.below HB3.out)
         | (go_at_call 42; refine (HP.out _ (bthen HA.out HB3.out)).mono ?_; rintro e w4 ⟨rfl, hb4⟩; have HB4 := Lib.hid (bthen HB3.out hb4); clear hb4; obtain ⟨_, p0, p1, p2, p3, p4, p5⟩ := HX.out.below HB4.out)
         | (go_at_call 45; refine (HLB.out _).mono ?_; rintro e w5 ⟨q5, rfl, hq5, hb5⟩; have HQ5 := Lib.hid hq5; clear hq5; have HB5 := Lib.hid (bthen HB4.out hb5); clear hb5; obtain ⟨_, p0, p1, p2, p3, p4, p5⟩ := HX.out.below HB5.out)
         | (go_at_call 44; refine (HL.out _ _ (bthen HA.out HB5.out) HQ5.out).mono ?_; rintro e w6 ⟨rfl, hb6⟩; have HB6 := Lib.hid (bthen HB5.out hb6); clear hb6; obtain ⟨_, p0, p1, p2, p3, p4, p5⟩ := HX.out.below HB6.out)
         | (go_at_call 47; refine (HEB.out _).mono ?_; rintro e w7 ⟨q7, rfl, hq7, hb7⟩; have HQ7 := Lib.hid hq7; clear hq7; have HB7 := Lib.hid (bthen HB6.out hb7); clear hb7; obtain ⟨_, p0, p1, p2, p3, p4, p5⟩ := HX.out.below HB7.out)
         | (go_at_call 46; refine (HE.out _ _ (bthen HA.out HB7.out) HQ7.out).mono ?_; rintro e w8 ⟨rfl, hb8⟩; have HB8 := Lib.hid (bthen HB7.out hb8); clear hb8; obtain ⟨_, p0, p1, p2, p3, p4, p5⟩ := HX.out.below HB8.out)
       refine hK.out _ _ ?_ (fun hHeld => ?_)
       · go_keep
       clear hK K
       try go_frame)
  try go_frame
  first
    | refine tk0 9 (oi := ⟨_, _, _, _, _, _⟩) rfl ?_
    | refine tk1 9 (oi := ⟨_, _, _, _, _, _⟩) (v := ?_) rfl ?_ ?_; rotate_left; · (intro w5 hSw; (try dsimp only at hSw); go_simp; (try with_reducible rfl))
    | (refine wpAnyH_ready (rs := [9]) (by kernel_rfl) (by simp) ?_
       refine AllReadyH.cons (o := ⟨_, _, _, _, _, _⟩) rfl (fun K hK => ?_) AllReadyH.nil
       go_simp
       first
         | (go_at_call 38; refine (HC.out _).mono ?_; rintro e w1 ⟨rfl, hb1⟩; have HB1 := Lib.hid (bthen (bdrew _) hb1); clear hb1; obtain ⟨_, p0, p1, p2, p3, p4, p5⟩ := HX.out.below HB1.out)
         | (go_at_call 39; refine (HN.out _).mono ?_; rintro e w2 ⟨rfl, rfl⟩)
         | (go_at_call 40; refine (HF.out _ (bthen HA.out HB1.out)).mono ?_; rintro e w3 ⟨rfl, hb3⟩; have HB3 := Lib.hid (bthen HB1.out hb3); clear hb3; obtain ⟨_, p0, p1, p2, p3, p4, p5⟩ := HX.out.below HB3.out)
         | (go_at_call 42; refine (HP.out _ (bthen HA.out HB3.out)).mono ?_; rintro e w4 ⟨rfl, hb4⟩; have HB4 := Lib.hid (bthen HB3.out hb4); clear hb4; obtain ⟨_, p0, p1, p2, p3, p4, p5⟩ := HX.out.below HB4.out)
         | (go_at_call 45; refine (HLB.out _).mono ?_; rintro e w5 ⟨q5, rfl, hq5, hb5⟩; have HQ5 := Lib.hid hq5; clear hq5; have HB5 := Lib.hid (bthen HB4.out hb5); clear hb5; obtain ⟨_, p0, p1, p2, p3, p4, p5⟩ := HX.out.below HB5.out)
         | (go_at_call 44; refine (HL.out _ _ (bthen HA.out HB5.out) HQ5.out).mono ?_; rintro e w6 ⟨rfl, hb6⟩; have HB6 := Lib.hid (bthen HB5.out hb6); clear hb6; obtain ⟨_, p0, p1, p2, p3, p4, p5⟩ := HX.out.below HB6.out)
         | (go_at_call 47; refine (HEB.out _).mono ?_; rintro e w7 ⟨q7, rfl, hq7, hb7⟩; have HQ7 := Lib.hid hq7; clear hq7; have HB7 := Lib.hid (bthen HB6.out hb7); clear hb7; obtain ⟨_, p0, p1, p2, p3, p4, p5⟩ := HX.out.below HB7.out)
         | (go_at_call 46; refine (HE.out _ _ (bthen HA.out HB7.out) HQ7.out).mono ?_; rintro e w8 ⟨rfl, hb8⟩; have HB8 := Lib.hid (bthen HB7.out hb8); clear hb8; obtain ⟨_, p0, p1, p2, p3, p4, p5⟩ := HX.out.below HB8.out)
       refine hK.out _ _ ?_ (fun hHeld => ?_)
       · go_keep
       clear hK K
       try go_frame)
  try go_frame
  first
    | refine tk0 10 (oi := ⟨_, _, _, _, _, _⟩) rfl ?_
    | refine tk1 10 (oi := ⟨_, _, _, _, _, _⟩) (v := ?_) rfl ?_ ?_; rotate_left; · (intro w5 hSw; (try dsimp only at hSw); go_simp; (try with_reducible rfl))
    | (refine wpAnyH_ready (rs := [10]) (by kernel_rfl) (by simp) ?_
       refine AllReadyH.cons (o := ⟨_, _, _, _, _, _⟩) rfl (fun K hK => ?_) AllReadyH.nil
       go_simp
       first
         | (go_at_call 38; refine (HC.out _).mono ?_; rintro e w1 ⟨rfl, hb1⟩; have HB1 := Lib.hid (bthen (bdrew _) hb1); clear hb1; obtain ⟨_, p0, p1, p2, p3, p4, p5⟩ := HX.out.below HB1.out)
         | (go_at_call 39; refine (HN.out _).mono ?_; rintro e w2 ⟨rfl, rfl⟩)
         | (go_at_call 40; refine (HF.out _ (bthen HA.out HB1.out)).mono ?_; rintro e w3 ⟨rfl, hb3⟩; have HB3 := Lib.hid (bthen HB1.out hb3); clear hb3; obtain ⟨_, p0, p1, p2, p3, p4, p5⟩ := HX.out.below HB3.out)
         | (go_at_call 42; refine (HP.out _ (bthen HA.out HB3.out)).mono ?_; rintro e w4 ⟨rfl, hb4⟩; have HB4 := Lib.hid (bthen HB3.out hb4); clear hb4; obtain ⟨_, p0, p1, p2, p3, p4, p5⟩ := HX.out.below HB4.out)
         | (go_at_call 45; refine (HLB.out _).mono ?_; rintro e w5 ⟨q5, rfl, hq5, hb5⟩; have HQ5 := Lib.hid hq5; clear hq5; have HB5 := Lib.hid (bthen HB4.out hb5); clear hb5; obtain ⟨_, p0, p1, p2, p3, p4, p5⟩ := HX.out.below HB5.out)
         | (go_at_call 44; refine (HL.out _ _ (bthen HA.out HB5.out) HQ5.out).mono ?_; rintro e w6 ⟨rfl, hb6⟩; have HB6 := Lib.hid (bthen HB5.out hb6); clear hb6; obtain ⟨_, p0, p1, p2, p3, p4, p5⟩ := HX.out.below HB6.out)
         | (go_at_call 47; refine (HEB.out _).mono ?_; rintro e w7 ⟨q7, rfl, hq7, hb7⟩; have HQ7 := Lib.hid hq7; clear hq7; have HB7 := Lib.hid (bthen HB6.out hb7); clear hb7; obtain ⟨_, p0, p1, p2, p3, p4, p5⟩ := HX.out.below HB7.out)
         | (go_at_call 46; refine (HE.out _ _ (bthen HA.out HB7.out) HQ7.out).mono ?_; rintro e w8 ⟨rfl, hb8⟩; have HB8 := Lib.hid (bthen HB7.out hb8); clear hb8; obtain ⟨_, p0, p1, p2, p3, p4, p5⟩ := HX.out.below HB8.out)
       refine hK.out _ _ ?_ (fun hHeld => ?_)
       · go_keep
       clear hK K
       try go_frame)
  try go_frame
  first
    | refine tk0 11 (oi := ⟨_, _, _, _, _, _⟩) rfl ?_
    | refine tk1 11 (oi := ⟨_, _, _, _, _, _⟩) (v := ?_) rfl ?_ ?_; rotate_left; · (intro w5 hSw; (try dsimp only at hSw); go_simp; (try with_reducible rfl))
    | (refine wpAnyH_ready (rs := [11]) (by kernel_rfl) (by simp) ?_
       refine AllReadyH.cons (o := ⟨_, _, _, _, _, _⟩) rfl (fun K hK => ?_) AllReadyH.nil
       go_simp
       first
         | (go_at_call 38; refine (HC.out _).mono ?_; rintro e w1 ⟨rfl, hb1⟩; have HB1 := Lib.hid (bthen (bdrew _) hb1); clear hb1; obtain ⟨_, p0, p1, p2, p3, p4, p5⟩ := HX.out.below HB1.out)
         | (go_at_call 39; refine (HN.out _).mono ?_; rintro e w2 ⟨rfl, rfl⟩)
         | (go_at_call 40; refine (HF.out _ (bthen HA.out HB1.out)).mono ?_; rintro e w3 ⟨rfl, hb3⟩; have HB3 := Lib.hid (bthen HB1.out hb3); clear hb3; obtain ⟨_, p0, p1, p2, p3, p4, p5⟩ := HX.out.below HB3.out)
         | (go_at_call 42; refine (HP.out _ (bthen HA.out HB3.out)).mono ?_; rintro e w4 ⟨rfl, hb4⟩; have HB4 := Lib.hid (bthen HB3.out hb4); clear hb4; obtain ⟨_, p0, p1, p2, p3, p4, p5⟩ := HX.out.below HB4.out)
         | (go_at_call 45; refine (HLB.out _).mono ?_; rintro e w5 ⟨q5, rfl, hq5, hb5⟩; have HQ5 := Lib.hid hq5; clear hq5; have HB5 := Lib.hid (bthen HB4.out hb5); clear hb5; obtain ⟨_, p0, p1, p2, p3, p4, p5⟩ := HX.out.below HB5.out)
         | (go_at_call 44; refine (HL.out _ _ (bthen HA.out HB5.out) HQ5.out).mono ?_; rintro e w6 ⟨rfl, hb6⟩; have HB6 := Lib.hid (bthen HB5.out hb6); clear hb6; obtain ⟨_, p0, p1, p2, p3, p4, p5⟩ := HX.out.below HB6.out)
         | (go_at_call 47; refine (HEB.out _).mono ?_; rintro e w7 ⟨q7, rfl, hq7, hb7⟩; have HQ7 := Lib.hid hq7; clear hq7; have HB7 := Lib.hid (bthen HB6.out hb7); clear hb7; obtain ⟨_, p0, p1, p2, p3, p4, p5⟩ := HX.out.below HB7.out)
         | (go_at_call 46; refine (HE.out _ _ (bthen HA.out HB7.out) HQ7.out).mono ?_; rintro e w8 ⟨rfl, hb8⟩; have HB8 := Lib.hid (bthen HB7.out hb8); clear hb8; obtain ⟨_, p0, p1, p2, p3, p4, p5⟩ := HX.out.below HB8.out)
       refine hK.out _ _ ?_ (fun hHeld => ?_)
       · go_keep
       clear hK K
       try go_frame)
  try go_frame
  first
    | refine tk0 12 (oi := ⟨_, _, _, _, _, _⟩) rfl ?_
    | refine tk1 12 (oi := ⟨_, _, _, _, _, _⟩) (v := ?_) rfl ?_ ?_; rotate_left; · (intro w5 hSw; (try dsimp only at hSw); go_simp; (try with_reducible rfl))
    | (refine wpAnyH_ready (rs := [12]) (by kernel_rfl) (by simp) ?_
       refine AllReadyH.cons (o := ⟨_, _, _, _, _, _⟩) rfl (fun K hK => ?_) AllReadyH.nil
       go_simp
       first
         | (go_at_call 38; refine (HC.out _).mono ?_; rintro e w1 ⟨rfl, hb1⟩; have HB1 := Lib.hid (bthen (bdrew _) hb1); clear hb1; obtain ⟨_, p0, p1, p2, p3, p4, p5⟩ := HX.out.below HB1.out)
         | (go_at_call 39; refine (HN.out _).mono ?_; rintro e w2 ⟨rfl, rfl⟩)
         | (go_at_call 40; refine (HF.out _ (bthen HA.out HB1.out)).mono ?_; rintro e w3 ⟨rfl, hb3⟩; have HB3 := Lib.hid (bthen HB1.out hb3); clear hb3; obtain ⟨_, p0, p1, p2, p3, p4, p5⟩ := HX.out.below HB3.out)
         | (go_at_call 42; refine (HP.out _ (bthen HA.out HB3.out)).mono ?_; rintro e w4 ⟨rfl, hb4⟩; have HB4 := Lib.hid (bthen HB3.out hb4); clear hb4; obtain ⟨_, p0, p1, p2, p3, p4, p5⟩ := HX.out.below HB4.out)
         | (go_at_call 45; refine (HLB.out _).mono ?_; rintro e w5 ⟨q5, rfl, hq5, hb5⟩; have HQ5 := Lib.hid hq5; clear hq5; have HB5 := Lib.hid (bthen HB4.out hb5); clear hb5; obtain ⟨_, p0, p1, p2, p3, p4, p5⟩ := HX.out.below HB5.out)
         | (go_at_call 44; refine (HL.out _ _ (bthen HA.out HB5.out) HQ5.out).mono ?_; rintro e w6 ⟨rfl, hb6⟩; have HB6 := Lib.hid (bthen HB5.out hb6); clear hb6; obtain ⟨_, p0, p1, p2, p3, p4, p5⟩ := HX.out.below HB6.out)
         | (go_at_call 47; refine (HEB.out _).mono ?_; rintro e w7 ⟨q7, rfl, hq7, hb7⟩; have HQ7 := Lib.hid hq7; clear hq7; have HB7 := Lib.hid (bthen HB6.out hb7); clear hb7; obtain ⟨_, p0, p1, p2, p3, p4, p5⟩ := HX.out.below HB7.out)
         | (go_at_call 46; refine (HE.out _ _ (bthen HA.out HB7.out) HQ7.out).mono ?_; rintro e w8 ⟨rfl, hb8⟩; have HB8 := Lib.hid (bthen HB7.out hb8); clear hb8; obtain ⟨_, p0, p1, p2, p3, p4, p5⟩ := HX.out.below HB8.out)
       refine hK.out _ _ ?_ (fun hHeld => ?_)
       · go_keep
       clear hK K
       try go_frame)
  try go_frame
  first
    | refine tk0 13 (oi := ⟨_, _, _, _, _, _⟩) rfl ?_
    | refine tk1 13 (oi := ⟨_, _, _, _, _, _⟩) (v := ?_) rfl ?_ ?_; rotate_left; · (intro w5 hSw; (try dsimp only at hSw); go_simp; (try with_reducible rfl))
    | (refine wpAnyH_ready (rs := [13]) (by kernel_rfl) (by simp) ?_
       refine AllReadyH.cons (o := ⟨_, _, _, _, _, _⟩) rfl (fun K hK => ?_) AllReadyH.nil
       go_simp
       first
         | (go_at_call 38; refine (HC.out _).mono ?_; rintro e w1 ⟨rfl, hb1⟩; have HB1 := Lib.hid (bthen (bdrew _) hb1); clear hb1; obtain ⟨_, p0, p1, p2, p3, p4, p5⟩ := HX.out.below HB1.out)
         | (go_at_call 39; refine (HN.out _).mono ?_; rintro e w2 ⟨rfl, rfl⟩)
         | (go_at_call 40; refine (HF.out _ (bthen HA.out HB1.out)).mono ?_; rintro e w3 ⟨rfl, hb3⟩; have HB3 := Lib.hid (bthen HB1.out hb3); clear hb3; obtain ⟨_, p0, p1, p2, p3, p4, p5⟩ := HX.out.below HB3.out)
         | (go_at_call 42; refine (HP.out _ (bthen HA.out HB3.out)).mono ?_; rintro e w4 ⟨rfl, hb4⟩; have HB4 := Lib.hid (bthen HB3.out hb4); clear hb4; obtain ⟨_, p0, p1, p2, p3, p4, p5⟩ := HX.out.below HB4.out)
         | (go_at_call 45; refine (HLB.out _).mono ?_; rintro e w5 ⟨q5, rfl, hq5, hb5⟩; have HQ5 := Lib.hid hq5; clear hq5; have HB5 := Lib.hid (bthen HB4.out hb5); clear hb5; obtain ⟨_, p0, p1, p2, p3, p4, p5⟩ := HX.out.below HB5.out)
         | (go_at_call 44; refine (HL.out _ _ (bthen HA.out HB5.out) HQ5.out).mono ?_; rintro e w6 ⟨rfl, hb6⟩; have HB6 := Lib.hid (bthen HB5.out hb6); clear hb6; obtain ⟨_, p0, p1, p2, p3, p4, p5⟩ := HX.out.below HB6.out)
         | (go_at_call 47; refine (HEB.out _).mono ?_; rintro e w7 ⟨q7, rfl, hq7, hb7⟩; have HQ7 := Lib.hid hq7; clear hq7; have HB7 := Lib.hid (bthen HB6.out hb7); clear hb7; obtain ⟨_, p0, p1, p2, p3, p4, p5⟩ := HX.out.below HB7.out)
         | (go_at_call 46; refine (HE.out _ _ (bthen HA.out HB7.out) HQ7.out).mono ?_; rintro e w8 ⟨rfl, hb8⟩; have HB8 := Lib.hid (bthen HB7.out hb8); clear hb8; obtain ⟨_, p0, p1, p2, p3, p4, p5⟩ := HX.out.below HB8.out)
       refine hK.out _ _ ?_ (fun hHeld => ?_)
       · go_keep
       clear hK K
       try go_frame)
  try go_frame
  first
    | refine tk0 14 (oi := ⟨_, _, _, _, _, _⟩) rfl ?_
    | refine tk1 14 (oi := ⟨_, _, _, _, _, _⟩) (v := ?_) rfl ?_ ?_; rotate_left; · (intro w5 hSw; (try dsimp only at hSw); go_simp; (try with_reducible rfl))
    | (refine wpAnyH_ready (rs := [14]) (by kernel_rfl) (by simp) ?_
       refine AllReadyH.cons (o := ⟨_, _, _, _, _, _⟩) rfl (fun K hK => ?_) AllReadyH.nil
       go_simp
       first
         | (go_at_call 38; refine (HC.out _).mono ?_; rintro e w1 ⟨rfl, hb1⟩; have HB1 := Lib.hid (bthen (bdrew _) hb1); clear hb1; obtain ⟨_, p0, p1, p2, p3, p4, p5⟩ := HX.out.below HB1.out)
         | (go_at_call 39; refine (HN.out _).mono ?_; rintro e w2 ⟨rfl, rfl⟩)
         | (go_at_call 40; refine (HF.out _ (bthen HA.out HB1.out)).mono ?_; rintro e w3 ⟨rfl, hb3⟩; have HB3 := Lib.hid (bthen HB1.out hb3); clear hb3; obtain ⟨_, p0, p1, p2, p3, p4, p5⟩ := HX.out.below HB3.out)
         | (go_at_call 42; refine (HP.out _ (bthen HA.out HB3.out)).mono ?_; rintro e w4 ⟨rfl, hb4⟩; have HB4 := Lib.hid (bthen HB3.out hb4); clear hb4; obtain ⟨_, p0, p1, p2, p3, p4, p5⟩ := HX.out.below HB4.out)
         | (go_at_call 45; refine (HLB.out _).mono ?_; rintro e w5 ⟨q5, rfl, hq5, hb5⟩; have HQ5 := Lib.hid hq5; clear hq5; have HB5 := Lib.hid (bthen HB4.out hb5); clear hb5; obtain ⟨_, p0, p1, p2, p3, p4, p5⟩ := HX.out.below HB5.out)
         | (go_at_call 44; refine (HL.out _ _ (bthen HA.out HB5.out) HQ5.out).mono ?_; rintro e w6 ⟨rfl, hb6⟩; have HB6 := Lib.hid (bthen HB5.out hb6); clear hb6; obtain ⟨_, p0, p1, p2, p3, p4, p5⟩ := HX.out.below HB6.out)
         | (go_at_call 47; refine (HEB.out _).mono ?_; rintro e w7 ⟨q7, rfl, hq7, hb7⟩; have HQ7 := Lib.hid hq7; clear hq7; have HB7 := Lib.hid (bthen HB6.out hb7); clear hb7; obtain ⟨_, p0, p1, p2, p3, p4, p5⟩ := HX.out.below HB7.out)
         | (go_at_call 46; refine (HE.out _ _ (bthen HA.out HB7.out) HQ7.out).mono ?_; rintro e w8 ⟨rfl, hb8⟩; have HB8 := Lib.hid (bthen HB7.out hb8); clear hb8; obtain ⟨_, p0, p1, p2, p3, p4, p5⟩ := HX.out.below HB8.out)
       refine hK.out _ _ ?_ (fun hHeld => ?_)
       · go_keep
       clear hK K
       try go_frame)
  try go_frame
  first
    | refine tk0 15 (oi := ⟨_, _, _, _, _, _⟩) rfl ?_
    | refine tk1 15 (oi := ⟨_, _, _, _, _, _⟩) (v := ?_) rfl ?_ ?_; rotate_left; · (intro w5 hSw; (try dsimp only at hSw); go_simp; (try with_reducible rfl))
    | (refine wpAnyH_ready (rs := [15]) (by kernel_rfl) (by simp) ?_
       refine AllReadyH.cons (o := ⟨_, _, _, _, _, _⟩) rfl (fun K hK => ?_) AllReadyH.nil
       go_simp
       first
         | (go_at_call 38; refine (HC.out _).mono ?_; rintro e w1 ⟨rfl, hb1⟩; have HB1 := Lib.hid (bthen (bdrew _) hb1); clear hb1; obtain ⟨_, p0, p1, p2, p3, p4, p5⟩ := HX.out.below HB1.out)
         | (go_at_call 39; refine (HN.out _).mono ?_; rintro e w2 ⟨rfl, rfl⟩)
         | (go_at_call 40; refine (HF.out _ (bthen HA.out HB1.out)).mono ?_; rintro e w3 ⟨rfl, hb3⟩; have HB3 := Lib.hid (bthen HB1.out hb3); clear hb3; obtain ⟨_, p0, p1, p2, p3, p4, p5⟩ := HX.out.below HB3.out)
         | (go_at_call 42; refine (HP.out _ (bthen HA.out HB3.out)).mono ?_; rintro e w4 ⟨rfl, hb4⟩; have HB4 := Lib.hid (bthen HB3.out hb4); clear hb4; obtain ⟨_, p0, p1, p2, p3, p4, p5⟩ := HX.out.below HB4.out)
         | (go_at_call 45; refine (HLB.out _).mono ?_; rintro e w5 ⟨q5, rfl, hq5, hb5⟩; have HQ5 := Lib.hid hq5; clear hq5; have HB5 := Lib.hid (bthen HB4.out hb5); clear hb5; obtain ⟨_, p0, p1, p2, p3, p4, p5⟩ := HX.out.below HB5.out)
         | (go_at_call 44; refine (HL.out _ _ (bthen HA.out HB5.out) HQ5.out).mono ?_; rintro e w6 ⟨rfl, hb6⟩; have HB6 := Lib.hid (bthen HB5.out hb6); clear hb6; obtain ⟨_, p0, p1, p2, p3, p4, p5⟩ := HX.out.below HB6.out)
         | (go_at_call 47; refine (HEB.out _).mono ?_; rintro e w7 ⟨q7, rfl, hq7, hb7⟩; have HQ7 := Lib.hid hq7; clear hq7; have HB7 := Lib.hid (bthen HB6.out hb7); clear hb7; obtain ⟨_, p0, p1, p2, p3, p4, p5⟩ := HX.out.below HB7.out)
         | (go_at_call 46; refine (HE.out _ _ (bthen HA.out HB7.out) HQ7.out).mono ?_; rintro e w8 ⟨rfl, hb8⟩; have HB8 := Lib.hid (bthen HB7.out hb8); clear hb8; obtain ⟨_, p0, p1, p2, p3, p4, p5⟩ := HX.out.below HB8.out)
       refine hK.out _ _ ?_ (fun hHeld => ?_)
       · go_keep
       clear hK K
       try go_frame)
  try go_frame
  first
    | refine tk0 16 (oi := ⟨_, _, _, _, _, _⟩) rfl ?_
    | refine tk1 16 (oi := ⟨_, _, _, _, _, _⟩) (v := ?_) rfl ?_ ?_; rotate_left; · (intro w5 hSw; (try dsimp only at hSw); go_simp; (try with_reducible rfl))
    | (refine wpAnyH_ready (rs := [16]) (by kernel_rfl) (by simp) ?_
       refine AllReadyH.cons (o := ⟨_, _, _, _, _, _⟩) rfl (fun K hK => ?_) AllReadyH.nil
       go_simp
       first
         | (go_at_call 38; refine (HC.out _).mono ?_; rintro e w1 ⟨rfl, hb1⟩; have HB1 := Lib.hid (bthen (bdrew _) hb1); clear hb1; obtain ⟨_, p0, p1, p2, p3, p4, p5⟩ := HX.out.below HB1.out)
         | (go_at_call 39; refine (HN.out _).mono ?_; rintro e w2 ⟨rfl, rfl⟩)
         | (go_at_call 40; refine (HF.out _ (bthen HA.out HB1.out)).mono ?_; rintro e w3 ⟨rfl, hb3⟩; have HB3 := Lib.hid (bthen HB1.out hb3); clear hb3; obtain ⟨_, p0, p1, p2, p3, p4, p5⟩ := HX.out.below HB3.out)
         | (go_at_call 42; refine (HP.out _ (bthen HA.out HB3.out)).mono ?_; rintro e w4 ⟨rfl, hb4⟩; have HB4 := Lib.hid (bthen HB3.out hb4); clear hb4; obtain ⟨_, p0, p1, p2, p3, p4, p5⟩ := HX.out.below HB4.out)
         | (go_at_call 45; refine (HLB.out _).mono ?_; rintro e w5 ⟨q5, rfl, hq5, hb5⟩; have HQ5 := Lib.hid hq5; clear hq5; have HB5 := Lib.hid (bthen HB4.out hb5); clear hb5; obtain ⟨_, p0, p1, p2, p3, p4, p5⟩ := HX.out.below HB5.out)
         | (go_at_call 44; refine (HL.out _ _ (bthen HA.out HB5.out) HQ5.out).mono ?_; rintro e w6 ⟨rfl, hb6⟩; have HB6 := Lib.hid (bthen HB5.out hb6); clear hb6; obtain ⟨_, p0, p1, p2, p3, p4, p5⟩ := HX.out.below HB6.out)
         | (go_at_call 47; refine (HEB.out _).mono ?_; rintro e w7 ⟨q7, rfl, hq7, hb7⟩; have HQ7 := Lib.hid hq7; clear hq7; have HB7 := Lib.hid (bthen HB6.out hb7); clear hb7; obtain ⟨_, p0, p1, p2, p3, p4, p5⟩ := HX.out.below HB7.out)
         | (go_at_call 46; refine (HE.out _ _ (bthen HA.out HB7.out) HQ7.out).mono ?_; rintro e w8 ⟨rfl, hb8⟩; have HB8 := Lib.hid (bthen HB7.out hb8); clear hb8; obtain ⟨_, p0, p1, p2, p3, p4, p5⟩ := HX.out.below HB8.out)
       refine hK.out _ _ ?_ (fun hHeld => ?_)
       · go_keep
       clear hK K
       try go_frame)
  try go_frame
  first
    | refine tk0 17 (oi := ⟨_, _, _, _, _, _⟩) rfl ?_
    | refine tk1 17 (oi := ⟨_, _, _, _, _, _⟩) (v := ?_) rfl ?_ ?_; rotate_left; · (intro w5 hSw; (try dsimp only at hSw); go_simp; (try with_reducible rfl))
    | (refine wpAnyH_ready (rs := [17]) (by kernel_rfl) (by simp) ?_
       refine AllReadyH.cons (o := ⟨_, _, _, _, _, _⟩) rfl (fun K hK => ?_) AllReadyH.nil
       go_simp
       first
         | (go_at_call 38; refine (HC.out _).mono ?_; rintro e w1 ⟨rfl, hb1⟩; have HB1 := Lib.hid (bthen (bdrew _) hb1); clear hb1; obtain ⟨_, p0, p1, p2, p3, p4, p5⟩ := HX.out.below HB1.out)
         | (go_at_call 39; refine (HN.out _).mono ?_; rintro e w2 ⟨rfl, rfl⟩)
         | (go_at_call 40; refine (HF.out _ (bthen HA.out HB1.out)).mono ?_; rintro e w3 ⟨rfl, hb3⟩; have HB3 := Lib.hid (bthen HB1.out hb3); clear hb3; obtain ⟨_, p0, p1, p2, p3, p4, p5⟩ := HX.out.below HB3.out)
         | (go_at_call 42; refine (HP.out _ (bthen HA.out HB3.out)).mono ?_; rintro e w4 ⟨rfl, hb4⟩; have HB4 := Lib.hid (bthen HB3.out hb4); clear hb4; obtain ⟨_, p0, p1, p2, p3, p4, p5⟩ := HX.out.below HB4.out)
         | (go_at_call 45; refine (HLB.out _).mono ?_; rintro e w5 ⟨q5, rfl, hq5, hb5⟩; have HQ5 := Lib.hid hq5; clear hq5; have HB5 := Lib.hid (bthen HB4.out hb5); clear hb5; obtain ⟨_, p0, p1, p2, p3, p4, p5⟩ := HX.out.below HB5.out)
         | (go_at_call 44; refine (HL.out _ _ (bthen HA.out HB5.out) HQ5.out).mono ?_; rintro e w6 ⟨rfl, hb6⟩; have HB6 := Lib.hid (bthen HB5.out hb6); clear hb6; obtain ⟨_, p0, p1, p2, p3, p4, p5⟩ := HX.out.below HB6.out)
         | (go_at_call 47; refine (HEB.out _).mono ?_; rintro e w7 ⟨q7, rfl, hq7, hb7⟩; have HQ7 := Lib.hid hq7; clear hq7; have HB7 := Lib.hid (bthen HB6.out hb7); clear hb7; obtain ⟨_, p0, p1, p2, p3, p4, p5⟩ := HX.out.below HB7.out)
         | (go_at_call 46; refine (HE.out _ _ (bthen HA.out HB7.out) HQ7.out).mono ?_; rintro e w8 ⟨rfl, hb8⟩; have HB8 := Lib.hid (bthen HB7.out hb8); clear hb8; obtain ⟨_, p0, p1, p2, p3, p4, p5⟩ := HX.out.below HB8.out)
       refine hK.out _ _ ?_ (fun hHeld => ?_)
       · go_keep
       clear hK K
       try go_frame)
  try go_frame
  first
    | refine tk0 18 (oi := ⟨_, _, _, _, _, _⟩) rfl ?_
    | refine tk1 18 (oi := ⟨_, _, _, _, _, _⟩) (v := ?_) rfl ?_ ?_; rotate_left; · (intro w5 hSw; (try dsimp only at hSw); go_simp; (try with_reducible rfl))
    | (refine wpAnyH_ready (rs := [18]) (by kernel_rfl) (by simp) ?_
       refine AllReadyH.cons (o := ⟨_, _, _, _, _, _⟩) rfl (fun K hK => ?_) AllReadyH.nil
       go_simp
       first
         | (go_at_call 38; refine (HC.out _).mono ?_; rintro e w1 ⟨rfl, hb1⟩; have HB1 := Lib.hid (bthen (bdrew _) hb1); clear hb1; obtain ⟨_, p0, p1, p2, p3, p4, p5⟩ := HX.out.below HB1.out)
         | (go_at_call 39; refine (HN.out _).mono ?_; rintro e w2 ⟨rfl, rfl⟩)
         | (go_at_call 40; refine (HF.out _ (bthen HA.out HB1.out)).mono ?_; rintro e w3 ⟨rfl, hb3⟩; have HB3 := Lib.hid (bthen HB1.out hb3); clear hb3; obtain ⟨_, p0, p1, p2, p3, p4, p5⟩ := HX.out.below HB3.out)
         | (go_at_call 42; refine (HP.out _ (bthen HA.out HB3.out)).mono ?_; rintro e w4 ⟨rfl, hb4⟩; have HB4 := Lib.hid (bthen HB3.out hb4); clear hb4; obtain ⟨_, p0, p1, p2, p3, p4, p5⟩ := HX.out.below HB4.out)
         | (go_at_call 45; refine (HLB.out _).mono ?_; rintro e w5 ⟨q5, rfl, hq5, hb5⟩; have HQ5 := Lib.hid hq5; clear hq5; have HB5 := Lib.hid (bthen HB4.out hb5); clear hb5; obtain ⟨_, p0, p1, p2, p3, p4, p5⟩ := HX.out.below HB5.out)
         | (go_at_call 44; refine (HL.out _ _ (bthen HA.out HB5.out) HQ5.out).mono ?_; rintro e w6 ⟨rfl, hb6⟩; have HB6 := Lib.hid (bthen HB5.out hb6); clear hb6; obtain ⟨_, p0, p1, p2, p3, p4, p5⟩ := HX.out.below HB6.out)
         | (go_at_call 47; refine (HEB.out _).mono ?_; rintro e w7 ⟨q7, rfl, hq7, hb7⟩; have HQ7 := Lib.hid hq7; clear hq7; have HB7 := Lib.hid (bthen HB6.out hb7); clear hb7; obtain ⟨_, p0, p1, p2, p3, p4, p5⟩ := HX.out.below HB7.out)
         | (go_at_call 46; refine (HE.out _ _ (bthen HA.out HB7.out) HQ7.out).mono ?_; rintro e w8 ⟨rfl, hb8⟩; have HB8 := Lib.hid (bthen HB7.out hb8); clear hb8; obtain ⟨_, p0, p1, p2, p3, p4, p5⟩ := HX.out.below HB8.out)
       refine hK.out _ _ ?_ (fun hHeld => ?_)
       · go_keep
       clear hK K
       try go_frame)
  try go_frame
  first
    | refine tk0 19 (oi := ⟨_, _, _, _, _, _⟩) rfl ?_
    | refine tk1 19 (oi := ⟨_, _, _, _, _, _⟩) (v := ?_) rfl ?_ ?_; rotate_left; · (intro w5 hSw; (try dsimp only at hSw); go_simp; (try with_reducible rfl))
    | (refine wpAnyH_ready (rs := [19]) (by kernel_rfl) (by simp) ?_
       refine AllReadyH.cons (o := ⟨_, _, _, _, _, _⟩) rfl (fun K hK => ?_) AllReadyH.nil
       go_simp
       first
         | (go_at_call 38; refine (HC.out _).mono ?_; rintro e w1 ⟨rfl, hb1⟩; have HB1 := Lib.hid (bthen (bdrew _) hb1); clear hb1; obtain ⟨_, p0, p1, p2, p3, p4, p5⟩ := HX.out.below HB1.out)
         | (go_at_call 39; refine (HN.out _).mono ?_; rintro e w2 ⟨rfl, rfl⟩)
         | (go_at_call 40; refine (HF.out _ (bthen HA.out HB1.out)).mono ?_; rintro e w3 ⟨rfl, hb3⟩; have HB3 := Lib.hid (bthen HB1.out hb3); clear hb3; obtain ⟨_, p0, p1, p2, p3, p4, p5⟩ := HX.out.below HB3.out)
         | (go_at_call 42; refine (HP.out _ (bthen HA.out HB3.out)).mono ?_; rintro e w4 ⟨rfl, hb4⟩; have HB4 := Lib.hid (bthen HB3.out hb4); clear hb4; obtain ⟨_, p0, p1, p2, p3, p4, p5⟩ := HX.out.below HB4.out)
         | (go_at_call 45; refine (HLB.out _).mono ?_; rintro e w5 ⟨q5, rfl, hq5, hb5⟩; have HQ5 := Lib.hid hq5; clear hq5; have HB5 := Lib.hid (bthen HB4.out hb5); clear hb5; obtain ⟨_, p0, p1, p2, p3, p4, p5⟩ := HX.out.below HB5.out)
         | (go_at_call 44; refine (HL.out _ _ (bthen HA.out HB5.out) HQ5.out).mono ?_; rintro e w6 ⟨rfl, hb6⟩; have HB6 := Lib.hid (bthen HB5.out hb6); clear hb6; obtain ⟨_, p0, p1, p2, p3, p4, p5⟩ := HX.out.below HB6.out)
         | (go_at_call 47; refine (HEB.out _).mono ?_; rintro e w7 ⟨q7, rfl, hq7, hb7⟩; have HQ7 := Lib.hid hq7; clear hq7; have HB7 := Lib.hid (bthen HB6.out hb7); clear hb7; obtain ⟨_, p0, p1, p2, p3, p4, p5⟩ := HX.out.below HB7.out)
         | (go_at_call 46; refine (HE.out _ _ (bthen HA.out HB7.out) HQ7.out).mono ?_; rintro e w8 ⟨rfl, hb8⟩; have HB8 := Lib.hid (bthen HB7.out hb8); clear hb8; obtain ⟨_, p0, p1, p2, p3, p4, p5⟩ := HX.out.below HB8.out)
       refine hK.out _ _ ?_ (fun hHeld => ?_)
       · go_keep
       clear hK K
       try go_frame)
  try go_frame
  first
    | refine tk0 20 (oi := ⟨_, _, _, _, _, _⟩) rfl ?_
    | refine tk1 20 (oi := ⟨_, _, _, _, _, _⟩) (v := ?_) rfl ?_ ?_; rotate_left; · (intro w5 hSw; (try dsimp only at hSw); go_simp; (try with_reducible rfl))
    | (refine wpAnyH_ready (rs := [20]) (by kernel_rfl) (by simp) ?_
       refine AllReadyH.cons (o := ⟨_, _, _, _, _, _⟩) rfl (fun K hK => ?_) AllReadyH.nil
       go_simp
       first
         | (go_at_call 38; refine (HC.out _).mono ?_; rintro e w1 ⟨rfl, hb1⟩; have HB1 := Lib.hid (bthen (bdrew _) hb1); clear hb1; obtain ⟨_, p0, p1, p2, p3, p4, p5⟩ := HX.out.below HB1.out)
         | (go_at_call 39; refine (HN.out _).mono ?_; rintro e w2 ⟨rfl, rfl⟩)
         | (go_at_call 40; refine (HF.out _ (bthen HA.out HB1.out)).mono ?_; rintro e w3 ⟨rfl, hb3⟩; have HB3 := Lib.hid (bthen HB1.out hb3); clear hb3; obtain ⟨_, p0, p1, p2, p3, p4, p5⟩ := HX.out.below HB3.out)
         | (go_at_call 42; refine (HP.out _ (bthen HA.out HB3.out)).mono ?_; rintro e w4 ⟨rfl, hb4⟩; have HB4 := Lib.hid (bthen HB3.out hb4); clear hb4; obtain ⟨_, p0, p1, p2, p3, p4, p5⟩ := HX.out.below HB4.out)
         | (go_at_call 45; refine (HLB.out _).mono ?_; rintro e w5 ⟨q5, rfl, hq5, hb5⟩; have HQ5 := Lib.hid hq5; clear hq5; have HB5 := Lib.hid (bthen HB4.out hb5); clear hb5; obtain ⟨_, p0, p1, p2, p3, p4, p5⟩ := HX.out.below HB5.out)
         | (go_at_call 44; refine (HL.out _ _ (bthen HA.out HB5.out) HQ5.out).mono ?_; rintro e w6 ⟨rfl, hb6⟩; have HB6 := Lib.hid (bthen HB5.out hb6); clear hb6; obtain ⟨_, p0, p1, p2, p3, p4, p5⟩ := HX.out.below HB6.out)
         | (go_at_call 47; refine (HEB.out _).mono ?_; rintro e w7 ⟨q7, rfl, hq7, hb7⟩; have HQ7 := Lib.hid hq7; clear hq7; have HB7 := Lib.hid (bthen HB6.out hb7); clear hb7; obtain ⟨_, p0, p1, p2, p3, p4, p5⟩ := HX.out.below HB7.out)
         | (go_at_call 46; refine (HE.out _ _ (bthen HA.out HB7.out) HQ7.out).mono ?_; rintro e w8 ⟨rfl, hb8⟩; have HB8 := Lib.hid (bthen HB7.out hb8); clear hb8; obtain ⟨_, p0, p1, p2, p3, p4, p5⟩ := HX.out.below HB8.out)
       refine hK.out _ _ ?_ (fun hHeld => ?_)
       · go_keep
       clear hK K
       try go_frame)
  try go_frame
  first
    | refine tk0 21 (oi := ⟨_, _, _, _, _, _⟩) rfl ?_
    | refine tk1 21 (oi := ⟨_, _, _, _, _, _⟩) (v := ?_) rfl ?_ ?_; rotate_left; · (intro w5 hSw; (try dsimp only at hSw); go_simp; (try with_reducible rfl))
    | (refine wpAnyH_ready (rs := [21]) (by kernel_rfl) (by simp) ?_
       refine AllReadyH.cons (o := ⟨_, _, _, _, _, _⟩) rfl (fun K hK => ?_) AllReadyH.nil
       go_simp
       first
         | (go_at_call 38; refine (HC.out _).mono ?_; rintro e w1 ⟨rfl, hb1⟩; have HB1 := Lib.hid (bthen (bdrew _) hb1); clear hb1; obtain ⟨_, p0, p1, p2, p3, p4, p5⟩ := HX.out.below HB1.out)
         | (go_at_call 39; refine (HN.out _).mono ?_; rintro e w2 ⟨rfl, rfl⟩)
         | (go_at_call 40; refine (HF.out _ (bthen HA.out HB1.out)).mono ?_; rintro e w3 ⟨rfl, hb3⟩; have HB3 := Lib.hid (bthen HB1.out hb3); clear hb3; obtain ⟨_, p0, p1, p2, p3, p4, p5⟩ := HX.out.below HB3.out)
         | (go_at_call 42; refine (HP.out _ (bthen HA.out HB3.out)).mono ?_; rintro e w4 ⟨rfl, hb4⟩; have HB4 := Lib.hid (bthen HB3.out hb4); clear hb4; obtain ⟨_, p0, p1, p2, p3, p4, p5⟩ := HX.out.below HB4.out)
         | (go_at_call 45; refine (HLB.out _).mono ?_; rintro e w5 ⟨q5, rfl, hq5, hb5⟩; have HQ5 := Lib.hid hq5; clear hq5; have HB5 := Lib.hid (bthen HB4.out hb5); clear hb5; obtain ⟨_, p0, p1, p2, p3, p4, p5⟩ := HX.out.below HB5.out)
         | (go_at_call 44; refine (HL.out _ _ (bthen HA.out HB5.out) HQ5.out).mono ?_; rintro e w6 ⟨rfl, hb6⟩; have HB6 := Lib.hid (bthen HB5.out hb6); clear hb6; obtain ⟨_, p0, p1, p2, p3, p4, p5⟩ := HX.out.below HB6.out)
         | (go_at_call 47; refine (HEB.out _).mono ?_; rintro e w7 ⟨q7, rfl, hq7, hb7⟩; have HQ7 := Lib.hid hq7; clear hq7; have HB7 := Lib.hid (bthen HB6.out hb7); clear hb7; obtain ⟨_, p0, p1, p2, p3, p4, p5⟩ := HX.out.below HB7.out)
         | (go_at_call 46; refine (HE.out _ _ (bthen HA.out HB7.out) HQ7.out).mono ?_; rintro e w8 ⟨rfl, hb8⟩; have HB8 := Lib.hid (bthen HB7.out hb8); clear hb8; obtain ⟨_, p0, p1, p2, p3, p4, p5⟩ := HX.out.below HB8.out)
       refine hK.out _ _ ?_ (fun hHeld => ?_)
       · go_keep
       clear hK K
       try go_frame)
  try go_frame
  first
    | refine tk0 22 (oi := ⟨_, _, _, _, _, _⟩) rfl ?_
    | refine tk1 22 (oi := ⟨_, _, _, _, _, _⟩) (v := ?_) rfl ?_ ?_; rotate_left; · (intro w5 hSw; (try dsimp only at hSw); go_simp; (try with_reducible rfl))
    | (refine wpAnyH_ready (rs := [22]) (by kernel_rfl) (by simp) ?_
       refine AllReadyH.cons (o := ⟨_, _, _, _, _, _⟩) rfl (fun K hK => ?_) AllReadyH.nil
       go_simp
       first
         | (go_at_call 38; refine (HC.out _).mono ?_; rintro e w1 ⟨rfl, hb1⟩; have HB1 := Lib.hid (bthen (bdrew _) hb1); clear hb1; obtain ⟨_, p0, p1, p2, p3, p4, p5⟩ := HX.out.below HB1.out)
         | (go_at_call 39; refine (HN.out _).mono ?_; rintro e w2 ⟨rfl, rfl⟩)
         | (go_at_call 40; refine (HF.out _ (bthen HA.out HB1.out)).mono ?_; rintro e w3 ⟨rfl, hb3⟩; have HB3 := Lib.hid (bthen HB1.out hb3); clear hb3; obtain ⟨_, p0, p1, p2, p3, p4, p5⟩ := HX.out.below HB3.out)
         | (go_at_call 42; refine (HP.out _ (bthen HA.out HB3.out)).mono ?_; rintro e w4 ⟨rfl, hb4⟩; have HB4 := Lib.hid (bthen HB3.out hb4); clear hb4; obtain ⟨_, p0, p1, p2, p3, p4, p5⟩ := HX.out.below HB4.out)
         | (go_at_call 45; refine (HLB.out _).mono ?_; rintro e w5 ⟨q5, rfl, hq5, hb5⟩; have HQ5 := Lib.hid hq5; clear hq5; have HB5 := Lib.hid (bthen HB4.out hb5); clear hb5; obtain ⟨_, p0, p1, p2, p3, p4, p5⟩ := HX.out.below HB5.out)
         | (go_at_call 44; refine (HL.out _ _ (bthen HA.out HB5.out) HQ5.out).mono ?_; rintro e w6 ⟨rfl, hb6⟩; have HB6 := Lib.hid (bthen HB5.out hb6); clear hb6; obtain ⟨_, p0, p1, p2, p3, p4, p5⟩ := HX.out.below HB6.out)
         | (go_at_call 47; refine (HEB.out _).mono ?_; rintro e w7 ⟨q7, rfl, hq7, hb7⟩; have HQ7 := Lib.hid hq7; clear hq7; have HB7 := Lib.hid (bthen HB6.out hb7); clear hb7; obtain ⟨_, p0, p1, p2, p3, p4, p5⟩ := HX.out.below HB7.out)
         | (go_at_call 46; refine (HE.out _ _ (bthen HA.out HB7.out) HQ7.out).mono ?_; rintro e w8 ⟨rfl, hb8⟩; have HB8 := Lib.hid (bthen HB7.out hb8); clear hb8; obtain ⟨_, p0, p1, p2, p3, p4, p5⟩ := HX.out.below HB8.out)
       refine hK.out _ _ ?_ (fun hHeld => ?_)
       · go_keep
       clear hK K
       try go_frame)
  try go_frame
  first
    | refine tk0 23 (oi := ⟨_, _, _, _, _, _⟩) rfl ?_
    | refine tk1 23 (oi := ⟨_, _, _, _, _, _⟩) (v := ?_) rfl ?_ ?_; rotate_left; · (intro w5 hSw; (try dsimp only at hSw); go_simp; (try with_reducible rfl))
    | (refine wpAnyH_ready (rs := [23]) (by kernel_rfl) (by simp) ?_
       refine AllReadyH.cons (o := ⟨_, _, _, _, _, _⟩) rfl (fun K hK => ?_) AllReadyH.nil
       go_simp
       first
         | (go_at_call 38; refine (HC.out _).mono ?_; rintro e w1 ⟨rfl, hb1⟩; have HB1 := Lib.hid (bthen (bdrew _) hb1); clear hb1; obtain ⟨_, p0, p1, p2, p3, p4, p5⟩ := HX.out.below HB1.out)
         | (go_at_call 39; refine (HN.out _).mono ?_; rintro e w2 ⟨rfl, rfl⟩)
         | (go_at_call 40; refine (HF.out _ (bthen HA.out HB1.out)).mono ?_; rintro e w3 ⟨rfl, hb3⟩; have HB3 := Lib.hid (bthen HB1.out hb3); clear hb3; obtain ⟨_, p0, p1, p2, p3, p4, p5⟩ := HX.out.below HB3.out)
         | (go_at_call 42; refine (HP.out _ (bthen HA.out HB3.out)).mono ?_; rintro e w4 ⟨rfl, hb4⟩; have HB4 := Lib.hid (bthen HB3.out hb4); clear hb4; obtain ⟨_, p0, p1, p2, p3, p4, p5⟩ := HX.out.below HB4.out)
         | (go_at_call 45; refine (HLB.out _).mono ?_; rintro e w5 ⟨q5, rfl, hq5, hb5⟩; have HQ5 := Lib.hid hq5; clear hq5; have HB5 := Lib.hid (bthen HB4.out hb5); clear hb5; obtain ⟨_, p0, p1, p2, p3, p4, p5⟩ := HX.out.below HB5.out)
         | (go_at_call 44; refine (HL.out _ _ (bthen HA.out HB5.out) HQ5.out).mono ?_; rintro e w6 ⟨rfl, hb6⟩; have HB6 := Lib.hid (bthen HB5.out hb6); clear hb6; obtain ⟨_, p0, p1, p2, p3, p4, p5⟩ := HX.out.below HB6.out)
         | (go_at_call 47; refine (HEB.out _).mono ?_; rintro e w7 ⟨q7, rfl, hq7, hb7⟩; have HQ7 := Lib.hid hq7; clear hq7; have HB7 := Lib.hid (bthen HB6.out hb7); clear hb7; obtain ⟨_, p0, p1, p2, p3, p4, p5⟩ := HX.out.below HB7.out)
         | (go_at_call 46; refine (HE.out _ _ (bthen HA.out HB7.out) HQ7.out).mono ?_; rintro e w8 ⟨rfl, hb8⟩; have HB8 := Lib.hid (bthen HB7.out hb8); clear hb8; obtain ⟨_, p0, p1, p2, p3, p4, p5⟩ := HX.out.below HB8.out)
       refine hK.out _ _ ?_ (fun hHeld => ?_)
       · go_keep
       clear hK K
       try go_frame)
  try go_frame
  first
    | refine tk0 24 (oi := ⟨_, _, _, _, _, _⟩) rfl ?_
    | refine tk1 24 (oi := ⟨_, _, _, _, _, _⟩) (v := ?_) rfl ?_ ?_; rotate_left; · (intro w5 hSw; (try dsimp only at hSw); go_simp; (try with_reducible rfl))
    | (refine wpAnyH_ready (rs := [24]) (by kernel_rfl) (by simp) ?_
       refine AllReadyH.cons (o := ⟨_, _, _, _, _, _⟩) rfl (fun K hK => ?_) AllReadyH.nil
       go_simp
       first
         | (go_at_call 38; refine (HC.out _).mono ?_; rintro e w1 ⟨rfl, hb1⟩; have HB1 := Lib.hid (bthen (bdrew _) hb1); clear hb1; obtain ⟨_, p0, p1, p2, p3, p4, p5⟩ := HX.out.below HB1.out)
         | (go_at_call 39; refine (HN.out _).mono ?_; rintro e w2 ⟨rfl, rfl⟩)
         | (go_at_call 40; refine (HF.out _ (bthen HA.out HB1.out)).mono ?_; rintro e w3 ⟨rfl, hb3⟩; have HB3 := Lib.hid (bthen HB1.out hb3); clear hb3; obtain ⟨_, p0, p1, p2, p3, p4, p5⟩ := HX.out.below HB3.out)
         | (go_at_call 42; refine (HP.out _ (bthen HA.out HB3.out)).mono ?_; rintro e w4 ⟨rfl, hb4⟩; have HB4 := Lib.hid (bthen HB3.out hb4); clear hb4; obtain ⟨_, p0, p1, p2, p3, p4, p5⟩ := HX.out.below HB4.out)
         | (go_at_call 45; refine (HLB.out _).mono ?_; rintro e w5 ⟨q5, rfl, hq5, hb5⟩; have HQ5 := Lib.hid hq5; clear hq5; have HB5 := Lib.hid (bthen HB4.out hb5); clear hb5; obtain ⟨_, p0, p1, p2, p3, p4, p5⟩ := HX.out.below HB5.out)
         | (go_at_call 44; refine (HL.out _ _ (bthen HA.out HB5.out) HQ5.out).mono ?_; rintro e w6 ⟨rfl, hb6⟩; have HB6 := Lib.hid (bthen HB5.out hb6); clear hb6; obtain ⟨_, p0, p1, p2, p3, p4, p5⟩ := HX.out.below HB6.out)
         | (go_at_call 47; refine (HEB.out _).mono ?_; rintro e w7 ⟨q7, rfl, hq7, hb7⟩; have HQ7 := Lib.hid hq7; clear hq7; have HB7 := Lib.hid (bthen HB6.out hb7); clear hb7; obtain ⟨_, p0, p1, p2, p3, p4, p5⟩ := HX.out.below HB7.out)
         | (go_at_call 46; refine (HE.out _ _ (bthen HA.out HB7.out) HQ7.out).mono ?_; rintro e w8 ⟨rfl, hb8⟩; have HB8 := Lib.hid (bthen HB7.out hb8); clear hb8; obtain ⟨_, p0, p1, p2, p3, p4, p5⟩ := HX.out.below HB8.out)
       refine hK.out _ _ ?_ (fun hHeld => ?_)
       · go_keep
       clear hK K
       try go_frame)
  try go_frame
  first
    | refine tk0 25 (oi := ⟨_, _, _, _, _, _⟩) rfl ?_
    | refine tk1 25 (oi := ⟨_, _, _, _, _, _⟩) (v := ?_) rfl ?_ ?_; rotate_left; · (intro w5 hSw; (try dsimp only at hSw); go_simp; (try with_reducible rfl))
    | (refine wpAnyH_ready (rs := [25]) (by kernel_rfl) (by simp) ?_
       refine AllReadyH.cons (o := ⟨_, _, _, _, _, _⟩) rfl (fun K hK => ?_) AllReadyH.nil
       go_simp
       first
         | (go_at_call 38; refine (HC.out _).mono ?_; rintro e w1 ⟨rfl, hb1⟩; have HB1 := Lib.hid (bthen (bdrew _) hb1); clear hb1; obtain ⟨_, p0, p1, p2, p3, p4, p5⟩ := HX.out.below HB1.out)
         | (go_at_call 39; refine (HN.out _).mono ?_; rintro e w2 ⟨rfl, rfl⟩)
         | (go_at_call 40; refine (HF.out _ (bthen HA.out HB1.out)).mono ?_; rintro e w3 ⟨rfl, hb3⟩; have HB3 := Lib.hid (bthen HB1.out hb3); clear hb3; obtain ⟨_, p0, p1, p2, p3, p4, p5⟩ := HX.out.below HB3.out)
         | (go_at_call 42; refine (HP.out _ (bthen HA.out HB3.out)).mono ?_; rintro e w4 ⟨rfl, hb4⟩; have HB4 := Lib.hid (bthen HB3.out hb4); clear hb4; obtain ⟨_, p0, p1, p2, p3, p4, p5⟩ := HX.out.below HB4.out)
         | (go_at_call 45; refine (HLB.out _).mono ?_; rintro e w5 ⟨q5, rfl, hq5, hb5⟩; have HQ5 := Lib.hid hq5; clear hq5; have HB5 := Lib.hid (bthen HB4.out hb5); clear hb5; obtain ⟨_, p0, p1, p2, p3, p4, p5⟩ := HX.out.below HB5.out)
         | (go_at_call 44; refine (HL.out _ _ (bthen HA.out HB5.out) HQ5.out).mono ?_; rintro e w6 ⟨rfl, hb6⟩; have HB6 := Lib.hid (bthen HB5.out hb6); clear hb6; obtain ⟨_, p0, p1, p2, p3, p4, p5⟩ := HX.out.below HB6.out)
         | (go_at_call 47; refine (HEB.out _).mono ?_; rintro e w7 ⟨q7, rfl, hq7, hb7⟩; have HQ7 := Lib.hid hq7; clear hq7; have HB7 := Lib.hid (bthen HB6.out hb7); clear hb7; obtain ⟨_, p0, p1, p2, p3, p4, p5⟩ := HX.out.below HB7.out)
         | (go_at_call 46; refine (HE.out _ _ (bthen HA.out HB7.out) HQ7.out).mono ?_; rintro e w8 ⟨rfl, hb8⟩; have HB8 := Lib.hid (bthen HB7.out hb8); clear hb8; obtain ⟨_, p0, p1, p2, p3, p4, p5⟩ := HX.out.below HB8.out)
       refine hK.out _ _ ?_ (fun hHeld => ?_)
       · go_keep
       clear hK K
       try go_frame)
  try go_frame
  first
    | refine tk0 26 (oi := ⟨_, _, _, _, _, _⟩) rfl ?_
    | refine tk1 26 (oi := ⟨_, _, _, _, _, _⟩) (v := ?_) rfl ?_ ?_; rotate_left; · (intro w5 hSw; (try dsimp only at hSw); go_simp; (try with_reducible rfl))
    | (refine wpAnyH_ready (rs := [26]) (by kernel_rfl) (by simp) ?_
       refine AllReadyH.cons (o := ⟨_, _, _, _, _, _⟩) rfl (fun K hK => ?_) AllReadyH.nil
       go_simp
       first
         | (go_at_call 38; refine (HC.out _).mono ?_; rintro e w1 ⟨rfl, hb1⟩; have HB1 := Lib.hid (bthen (bdrew _) hb1); clear hb1; obtain ⟨_, p0, p1, p2, p3, p4, p5⟩ := HX.out.below HB1.out)
         | (go_at_call 39; refine (HN.out _).mono ?_; rintro e w2 ⟨rfl, rfl⟩)
         | (go_at_call 40; refine (HF.out _ (bthen HA.out HB1.out)).mono ?_; rintro e w3 ⟨rfl, hb3⟩; have HB3 := Lib.hid (bthen HB1.out hb3); clear hb3; obtain ⟨_, p0, p1, p2, p3, p4, p5⟩ := HX.out.below HB3.out)
         | (go_at_call 42; refine (HP.out _ (bthen HA.out HB3.out)).mono ?_; rintro e w4 ⟨rfl, hb4⟩; have HB4 := Lib.hid (bthen HB3.out hb4); clear hb4; obtain ⟨_, p0, p1, p2, p3, p4, p5⟩ := HX.out.below HB4.out)
         | (go_at_call 45; refine (HLB.out _).mono ?_; rintro e w5 ⟨q5, rfl, hq5, hb5⟩; have HQ5 := Lib.hid hq5; clear hq5; have HB5 := Lib.hid (bthen HB4.out hb5); clear hb5; obtain ⟨_, p0, p1, p2, p3, p4, p5⟩ := HX.out.below HB5.out)
         | (go_at_call 44; refine (HL.out _ _ (bthen HA.out HB5.out) HQ5.out).mono ?_; rintro e w6 ⟨rfl, hb6⟩; have HB6 := Lib.hid (bthen HB5.out hb6); clear hb6; obtain ⟨_, p0, p1, p2, p3, p4, p5⟩ := HX.out.below HB6.out)
         | (go_at_call 47; refine (HEB.out _).mono ?_; rintro e w7 ⟨q7, rfl, hq7, hb7⟩; have HQ7 := Lib.hid hq7; clear hq7; have HB7 := Lib.hid (bthen HB6.out hb7); clear hb7; obtain ⟨_, p0, p1, p2, p3, p4, p5⟩ := HX.out.below HB7.out)
         | (go_at_call 46; refine (HE.out _ _ (bthen HA.out HB7.out) HQ7.out).mono ?_; rintro e w8 ⟨rfl, hb8⟩; have HB8 := Lib.hid (bthen HB7.out hb8); clear hb8; obtain ⟨_, p0, p1, p2, p3, p4, p5⟩ := HX.out.below HB8.out)
       refine hK.out _ _ ?_ (fun hHeld => ?_)
       · go_keep
       clear hK K
       try go_frame)
  try go_frame
  first
    | refine tk0 27 (oi := ⟨_, _, _, _, _, _⟩) rfl ?_
    | refine tk1 27 (oi := ⟨_, _, _, _, _, _⟩) (v := ?_) rfl ?_ ?_; rotate_left; · (intro w5 hSw; (try dsimp only at hSw); go_simp; (try with_reducible rfl))
    | (refine wpAnyH_ready (rs := [27]) (by kernel_rfl) (by simp) ?_
       refine AllReadyH.cons (o := ⟨_, _, _, _, _, _⟩) rfl (fun K hK => ?_) AllReadyH.nil
       go_simp
       first
         | (go_at_call 38; refine (HC.out _).mono ?_; rintro e w1 ⟨rfl, hb1⟩; have HB1 := Lib.hid (bthen (bdrew _) hb1); clear hb1; obtain ⟨_, p0, p1, p2, p3, p4, p5⟩ := HX.out.below HB1.out)
         | (go_at_call 39; refine (HN.out _).mono ?_; rintro e w2 ⟨rfl, rfl⟩)
         | (go_at_call 40; refine (HF.out _ (bthen HA.out HB1.out)).mono ?_; rintro e w3 ⟨rfl, hb3⟩; have HB3 := Lib.hid (bthen HB1.out hb3); clear hb3; obtain ⟨_, p0, p1, p2, p3, p4, p5⟩ := HX.out.below HB3.out)
         | (go_at_call 42; refine (HP.out _ (bthen HA.out HB3.out)).mono ?_; rintro e w4 ⟨rfl, hb4⟩; have HB4 := Lib.hid (bthen HB3.out hb4); clear hb4; obtain ⟨_, p0, p1, p2, p3, p4, p5⟩ := HX.out.below HB4.out)
         | (go_at_call 45; refine (HLB.out _).mono ?_; rintro e w5 ⟨q5, rfl, hq5, hb5⟩; have HQ5 := Lib.hid hq5; clear hq5; have HB5 := Lib.hid (bthen HB4.out hb5); clear hb5; obtain ⟨_, p0, p1, p2, p3, p4, p5⟩ := HX.out.below HB5.out)
         | (go_at_call 44; refine (HL.out _ _ (bthen HA.out HB5.out) HQ5.out).mono ?_; rintro e w6 ⟨rfl, hb6⟩; have HB6 := Lib.hid (bthen HB5.out hb6); clear hb6; obtain ⟨_, p0, p1, p2, p3, p4, p5⟩ := HX.out.below HB6.out)
         | (go_at_call 47; refine (HEB.out _).mono ?_; rintro e w7 ⟨q7, rfl, hq7, hb7⟩; have HQ7 := Lib.hid hq7; clear hq7; have HB7 := Lib.hid (bthen HB6.out hb7); clear hb7; obtain ⟨_, p0, p1, p2, p3, p4, p5⟩ := HX.out.below HB7.out)
         | (go_at_call 46; refine (HE.out _ _ (bthen HA.out HB7.out) HQ7.out).mono ?_; rintro e w8 ⟨rfl, hb8⟩; have HB8 := Lib.hid (bthen HB7.out hb8); clear hb8; obtain ⟨_, p0, p1, p2, p3, p4, p5⟩ := HX.out.below HB8.out)
       refine hK.out _ _ ?_ (fun hHeld => ?_)
       · go_keep
       clear hK K
       try go_frame)
  try go_frame
  first
    | refine tk0 28 (oi := ⟨_, _, _, _, _, _⟩) rfl ?_
    | refine tk1 28 (oi := ⟨_, _, _, _, _, _⟩) (v := ?_) rfl ?_ ?_; rotate_left; · (intro w5 hSw; (try dsimp only at hSw); go_simp; (try with_reducible rfl))
    | (refine wpAnyH_ready (rs := [28]) (by kernel_rfl) (by simp) ?_
       refine AllReadyH.cons (o := ⟨_, _, _, _, _, _⟩) rfl (fun K hK => ?_) AllReadyH.nil
       go_simp
       first
         | (go_at_call 38; refine (HC.out _).mono ?_; rintro e w1 ⟨rfl, hb1⟩; have HB1 := Lib.hid (bthen (bdrew _) hb1); clear hb1; obtain ⟨_, p0, p1, p2, p3, p4, p5⟩ := HX.out.below HB1.out)
         | (go_at_call 39; refine (HN.out _).mono ?_; rintro e w2 ⟨rfl, rfl⟩)
         | (go_at_call 40; refine (HF.out _ (bthen HA.out HB1.out)).mono ?_; rintro e w3 ⟨rfl, hb3⟩; have HB3 := Lib.hid (bthen HB1.out hb3); clear hb3; obtain ⟨_, p0, p1, p2, p3, p4, p5⟩ := HX.out.below HB3.out)
         | (go_at_call 42; refine (HP.out _ (bthen HA.out HB3.out)).mono ?_; rintro e w4 ⟨rfl, hb4⟩; have HB4 := Lib.hid (bthen HB3.out hb4); clear hb4; obtain ⟨_, p0, p1, p2, p3, p4, p5⟩ := HX.out.below HB4.out)
         | (go_at_call 45; refine (HLB.out _).mono ?_; rintro e w5 ⟨q5, rfl, hq5, hb5⟩; have HQ5 := Lib.hid hq5; clear hq5; have HB5 := Lib.hid (bthen HB4.out hb5); clear hb5; obtain ⟨_, p0, p1, p2, p3, p4, p5⟩ := HX.out.below HB5.out)
         | (go_at_call 44; refine (HL.out _ _ (bthen HA.out HB5.out) HQ5.out).mono ?_; rintro e w6 ⟨rfl, hb6⟩; have HB6 := Lib.hid (bthen HB5.out hb6); clear hb6; obtain ⟨_, p0, p1, p2, p3, p4, p5⟩ := HX.out.below HB6.out)
         | (go_at_call 47; refine (HEB.out _).mono ?_; rintro e w7 ⟨q7, rfl, hq7, hb7⟩; have HQ7 := Lib.hid hq7; clear hq7; have HB7 := Lib.hid (bthen HB6.out hb7); clear hb7; obtain ⟨_, p0, p1, p2, p3, p4, p5⟩ := HX.out.below HB7.out)
         | (go_at_call 46; refine (HE.out _ _ (bthen HA.out HB7.out) HQ7.out).mono ?_; rintro e w8 ⟨rfl, hb8⟩; have HB8 := Lib.hid (bthen HB7.out hb8); clear hb8; obtain ⟨_, p0, p1, p2, p3, p4, p5⟩ := HX.out.below HB8.out)
       refine hK.out _ _ ?_ (fun hHeld => ?_)
       · go_keep
       clear hK K
       try go_frame)
  try go_frame
  first
    | refine tk0 29 (oi := ⟨_, _, _, _, _, _⟩) rfl ?_
    | refine tk1 29 (oi := ⟨_, _, _, _, _, _⟩) (v := ?_) rfl ?_ ?_; rotate_left; · (intro w5 hSw; (try dsimp only at hSw); go_simp; (try with_reducible rfl))
    | (refine wpAnyH_ready (rs := [29]) (by kernel_rfl) (by simp) ?_
       refine AllReadyH.cons (o := ⟨_, _, _, _, _, _⟩) rfl (fun K hK => ?_) AllReadyH.nil
       go_simp
       first
         | (go_at_call 38; refine (HC.out _).mono ?_; rintro e w1 ⟨rfl, hb1⟩; have HB1 := Lib.hid (bthen (bdrew _) hb1); clear hb1; obtain ⟨_, p0, p1, p2, p3, p4, p5⟩ := HX.out.below HB1.out)
         | (go_at_call 39; refine (HN.out _).mono ?_; rintro e w2 ⟨rfl, rfl⟩)
         | (go_at_call 40; refine (HF.out _ (bthen HA.out HB1.out)).mono ?_; rintro e w3 ⟨rfl, hb3⟩; have HB3 := Lib.hid (bthen HB1.out hb3); clear hb3; obtain ⟨_, p0, p1, p2, p3, p4, p5⟩ := HX.out.below HB3.out)
         | (go_at_call 42; refine (HP.out _ (bthen HA.out HB3.out)).mono ?_; rintro e w4 ⟨rfl, hb4⟩; have HB4 := Lib.hid (bthen HB3.out hb4); clear hb4; obtain ⟨_, p0, p1, p2, p3, p4, p5⟩ := HX.out.below HB4.out)
         | (go_at_call 45; refine (HLB.out _).mono ?_; rintro e w5 ⟨q5, rfl, hq5, hb5⟩; have HQ5 := Lib.hid hq5; clear hq5; have HB5 := Lib.hid (bthen HB4.out hb5); clear hb5; obtain ⟨_, p0, p1, p2, p3, p4, p5⟩ := HX.out.below HB5.out)
         | (go_at_call 44; refine (HL.out _ _ (bthen HA.out HB5.out) HQ5.out).mono ?_; rintro e w6 ⟨rfl, hb6⟩; have HB6 := Lib.hid (bthen HB5.out hb6); clear hb6; obtain ⟨_, p0, p1, p2, p3, p4, p5⟩ := HX.out.below HB6.out)
         | (go_at_call 47; refine (HEB.out _).mono ?_; rintro e w7 ⟨q7, rfl, hq7, hb7⟩; have HQ7 := Lib.hid hq7; clear hq7; have HB7 := Lib.hid (bthen HB6.out hb7); clear hb7; obtain ⟨_, p0, p1, p2, p3, p4, p5⟩ := HX.out.below HB7.out)
         | (go_at_call 46; refine (HE.out _ _ (bthen HA.out HB7.out) HQ7.out).mono ?_; rintro e w8 ⟨rfl, hb8⟩; have HB8 := Lib.hid (bthen HB7.out hb8); clear hb8; obtain ⟨_, p0, p1, p2, p3, p4, p5⟩ := HX.out.below HB8.out)
       refine hK.out _ _ ?_ (fun hHeld => ?_)
       · go_keep
       clear hK K
       try go_frame)
  try go_frame
  first
    | refine tk0 30 (oi := ⟨_, _, _, _, _, _⟩) rfl ?_
    | refine tk1 30 (oi := ⟨_, _, _, _, _, _⟩) (v := ?_) rfl ?_ ?_; rotate_left; · (intro w5 hSw; (try dsimp only at hSw); go_simp; (try with_reducible rfl))
    | (refine wpAnyH_ready (rs := [30]) (by kernel_rfl) (by simp) ?_
       refine AllReadyH.cons (o := ⟨_, _, _, _, _, _⟩) rfl (fun K hK => ?_) AllReadyH.nil
       go_simp
       first
         | (go_at_call 38; refine (HC.out _).mono ?_; rintro e w1 ⟨rfl, hb1⟩; have HB1 := Lib.hid (bthen (bdrew _) hb1); clear hb1; obtain ⟨_, p0, p1, p2, p3, p4, p5⟩ := HX.out.below HB1.out)
         | (go_at_call 39; refine (HN.out _).mono ?_; rintro e w2 ⟨rfl, rfl⟩)
         | (go_at_call 40; refine (HF.out _ (bthen HA.out HB1.out)).mono ?_; rintro e w3 ⟨rfl, hb3⟩; have HB3 := Lib.hid (bthen HB1.out hb3); clear hb3; obtain ⟨_, p0, p1, p2, p3, p4, p5⟩ := HX.out.below HB3.out)
         | (go_at_call 42; refine (HP.out _ (bthen HA.out HB3.out)).mono ?_; rintro e w4 ⟨rfl, hb4⟩; have HB4 := Lib.hid (bthen HB3.out hb4); clear hb4; obtain ⟨_, p0, p1, p2, p3, p4, p5⟩ := HX.out.below HB4.out)
         | (go_at_call 45; refine (HLB.out _).mono ?_; rintro e w5 ⟨q5, rfl, hq5, hb5⟩; have HQ5 := Lib.hid hq5; clear hq5; have HB5 := Lib.hid (bthen HB4.out hb5); clear hb5; obtain ⟨_, p0, p1, p2, p3, p4, p5⟩ := HX.out.below HB5.out)
         | (go_at_call 44; refine (HL.out _ _ (bthen HA.out HB5.out) HQ5.out).mono ?_; rintro e w6 ⟨rfl, hb6⟩; have HB6 := Lib.hid (bthen HB5.out hb6); clear hb6; obtain ⟨_, p0, p1, p2, p3, p4, p5⟩ := HX.out.below HB6.out)
         | (go_at_call 47; refine (HEB.out _).mono ?_; rintro e w7 ⟨q7, rfl, hq7, hb7⟩; have HQ7 := Lib.hid hq7; clear hq7; have HB7 := Lib.hid (bthen HB6.out hb7); clear hb7; obtain ⟨_, p0, p1, p2, p3, p4, p5⟩ := HX.out.below HB7.out)
         | (go_at_call 46; refine (HE.out _ _ (bthen HA.out HB7.out) HQ7.out).mono ?_; rintro e w8 ⟨rfl, hb8⟩; have HB8 := Lib.hid (bthen HB7.out hb8); clear hb8; obtain ⟨_, p0, p1, p2, p3, p4, p5⟩ := HX.out.below HB8.out)
       refine hK.out _ _ ?_ (fun hHeld => ?_)
       · go_keep
       clear hK K
       try go_frame)
  try go_frame
  first
    | refine tk0 31 (oi := ⟨_, _, _, _, _, _⟩) rfl ?_
    | refine tk1 31 (oi := ⟨_, _, _, _, _, _⟩) (v := ?_) rfl ?_ ?_; rotate_left; · (intro w5 hSw; (try dsimp only at hSw); go_simp; (try with_reducible rfl))
    | (refine wpAnyH_ready (rs := [31]) (by kernel_rfl) (by simp) ?_
       refine AllReadyH.cons (o := ⟨_, _, _, _, _, _⟩) rfl (fun K hK => ?_) AllReadyH.nil
       go_simp
       first
         | (go_at_call 38; refine (HC.out _).mono ?_; rintro e w1 ⟨rfl, hb1⟩; have HB1 := Lib.hid (bthen (bdrew _) hb1); clear hb1; obtain ⟨_, p0, p1, p2, p3, p4, p5⟩ := HX.out.below HB1.out)
         | (go_at_call 39; refine (HN.out _).mono ?_; rintro e w2 ⟨rfl, rfl⟩)
         | (go_at_call 40; refine (HF.out _ (bthen HA.out HB1.out)).mono ?_; rintro e w3 ⟨rfl, hb3⟩; have HB3 := Lib.hid (bthen HB1.out hb3); clear hb3; obtain ⟨_, p0, p1, p2, p3, p4, p5⟩ := HX.out.below HB3.out)
         | (go_at_call 42; refine (HP.out _ (bthen HA.out HB3.out)).mono ?_; rintro e w4 ⟨rfl, hb4⟩; have HB4 := Lib.hid (bthen HB3.out hb4); clear hb4; obtain ⟨_, p0, p1, p2, p3, p4, p5⟩ := HX.out.below HB4.out)
         | (go_at_call 45; refine (HLB.out _).mono ?_; rintro e w5 ⟨q5, rfl, hq5, hb5⟩; have HQ5 := Lib.hid hq5; clear hq5; have HB5 := Lib.hid (bthen HB4.out hb5); clear hb5; obtain ⟨_, p0, p1, p2, p3, p4, p5⟩ := HX.out.below HB5.out)
         | (go_at_call 44; refine (HL.out _ _ (bthen HA.out HB5.out) HQ5.out).mono ?_; rintro e w6 ⟨rfl, hb6⟩; have HB6 := Lib.hid (bthen HB5.out hb6); clear hb6; obtain ⟨_, p0, p1, p2, p3, p4, p5⟩ := HX.out.below HB6.out)
         | (go_at_call 47; refine (HEB.out _).mono ?_; rintro e w7 ⟨q7, rfl, hq7, hb7⟩; have HQ7 := Lib.hid hq7; clear hq7; have HB7 := Lib.hid (bthen HB6.out hb7); clear hb7; obtain ⟨_, p0, p1, p2, p3, p4, p5⟩ := HX.out.below HB7.out)
         | (go_at_call 46; refine (HE.out _ _ (bthen HA.out HB7.out) HQ7.out).mono ?_; rintro e w8 ⟨rfl, hb8⟩; have HB8 := Lib.hid (bthen HB7.out hb8); clear hb8; obtain ⟨_, p0, p1, p2, p3, p4, p5⟩ := HX.out.below HB8.out)
       refine hK.out _ _ ?_ (fun hHeld => ?_)
       · go_keep
       clear hK K
       try go_frame)
  try go_frame
  first
    | refine tk0 32 (oi := ⟨_, _, _, _, _, _⟩) rfl ?_
    | refine tk1 32 (oi := ⟨_, _, _, _, _, _⟩) (v := ?_) rfl ?_ ?_; rotate_left; · (intro w5 hSw; (try dsimp only at hSw); go_simp; (try with_reducible rfl))
    | (refine wpAnyH_ready (rs := [32]) (by kernel_rfl) (by simp) ?_
       refine AllReadyH.cons (o := ⟨_, _, _, _, _, _⟩) rfl (fun K hK => ?_) AllReadyH.nil
       go_simp
       first
         | (go_at_call 38; refine (HC.out _).mono ?_; rintro e w1 ⟨rfl, hb1⟩; have HB1 := Lib.hid (bthen (bdrew _) hb1); clear hb1; obtain ⟨_, p0, p1, p2, p3, p4, p5⟩ := HX.out.below HB1.out)
         | (go_at_call 39; refine (HN.out _).mono ?_; rintro e w2 ⟨rfl, rfl⟩)
         | (go_at_call 40; refine (HF.out _ (bthen HA.out HB1.out)).mono ?_; rintro e w3 ⟨rfl, hb3⟩; have HB3 := Lib.hid (bthen HB1.out hb3); clear hb3; obtain ⟨_, p0, p1, p2, p3, p4, p5⟩ := HX.out.below HB3.out)
         | (go_at_call 42; refine (HP.out _ (bthen HA.out HB3.out)).mono ?_; rintro e w4 ⟨rfl, hb4⟩; have HB4 := Lib.hid (bthen HB3.out hb4); clear hb4; obtain ⟨_, p0, p1, p2, p3, p4, p5⟩ := HX.out.below HB4.out)
         | (go_at_call 45; refine (HLB.out _).mono ?_; rintro e w5 ⟨q5, rfl, hq5, hb5⟩; have HQ5 := Lib.hid hq5; clear hq5; have HB5 := Lib.hid (bthen HB4.out hb5); clear hb5; obtain ⟨_, p0, p1, p2, p3, p4, p5⟩ := HX.out.below HB5.out)
         | (go_at_call 44; refine (HL.out _ _ (bthen HA.out HB5.out) HQ5.out).mono ?_; rintro e w6 ⟨rfl, hb6⟩; have HB6 := Lib.hid (bthen HB5.out hb6); clear hb6; obtain ⟨_, p0, p1, p2, p3, p4, p5⟩ := HX.out.below HB6.out)
         | (go_at_call 47; refine (HEB.out _).mono ?_; rintro e w7 ⟨q7, rfl, hq7, hb7⟩; have HQ7 := Lib.hid hq7; clear hq7; have HB7 := Lib.hid (bthen HB6.out hb7); clear hb7; obtain ⟨_, p0, p1, p2, p3, p4, p5⟩ := HX.out.below HB7.out)
         | (go_at_call 46; refine (HE.out _ _ (bthen HA.out HB7.out) HQ7.out).mono ?_; rintro e w8 ⟨rfl, hb8⟩; have HB8 := Lib.hid (bthen HB7.out hb8); clear hb8; obtain ⟨_, p0, p1, p2, p3, p4, p5⟩ := HX.out.below HB8.out)
       refine hK.out _ _ ?_ (fun hHeld => ?_)
       · go_keep
       clear hK K
       try go_frame)
  try go_frame
  first
    | refine tk0 33 (oi := ⟨_, _, _, _, _, _⟩) rfl ?_
    | refine tk1 33 (oi := ⟨_, _, _, _, _, _⟩) (v := ?_) rfl ?_ ?_; rotate_left; · (intro w5 hSw; (try dsimp only at hSw); go_simp; (try with_reducible rfl))
    | (refine wpAnyH_ready (rs := [33]) (by kernel_rfl) (by simp) ?_
       refine AllReadyH.cons (o := ⟨_, _, _, _, _, _⟩) rfl (fun K hK => ?_) AllReadyH.nil
       go_simp
       first
         | (go_at_call 38; refine (HC.out _).mono ?_; rintro e w1 ⟨rfl, hb1⟩; have HB1 := Lib.hid (bthen (bdrew _) hb1); clear hb1; obtain ⟨_, p0, p1, p2, p3, p4, p5⟩ := HX.out.below HB1.out)
         | (go_at_call 39; refine (HN.out _).mono ?_; rintro e w2 ⟨rfl, rfl⟩)
         | (go_at_call 40; refine (HF.out _ (bthen HA.out HB1.out)).mono ?_; rintro e w3 ⟨rfl, hb3⟩; have HB3 := Lib.hid (bthen HB1.out hb3); clear hb3; obtain ⟨_, p0, p1, p2, p3, p4, p5⟩ := HX.out.below HB3.out)
         | (go_at_call 42; refine (HP.out _ (bthen HA.out HB3.out)).mono ?_; rintro e w4 ⟨rfl, hb4⟩; have HB4 := Lib.hid (bthen HB3.out hb4); clear hb4; obtain ⟨_, p0, p1, p2, p3, p4, p5⟩ := HX.out.below HB4.out)
         | (go_at_call 45; refine (HLB.out _).mono ?_; rintro e w5 ⟨q5, rfl, hq5, hb5⟩; have HQ5 := Lib.hid hq5; clear hq5; have HB5 := Lib.hid (bthen HB4.out hb5); clear hb5; obtain ⟨_, p0, p1, p2, p3, p4, p5⟩ := HX.out.below HB5.out)
         | (go_at_call 44; refine (HL.out _ _ (bthen HA.out HB5.out) HQ5.out).mono ?_; rintro e w6 ⟨rfl, hb6⟩; have HB6 := Lib.hid (bthen HB5.out hb6); clear hb6; obtain ⟨_, p0, p1, p2, p3, p4, p5⟩ := HX.out.below HB6.out)
         | (go_at_call 47; refine (HEB.out _).mono ?_; rintro e w7 ⟨q7, rfl, hq7, hb7⟩; have HQ7 := Lib.hid hq7; clear hq7; have HB7 := Lib.hid (bthen HB6.out hb7); clear hb7; obtain ⟨_, p0, p1, p2, p3, p4, p5⟩ := HX.out.below HB7.out)
         | (go_at_call 46; refine (HE.out _ _ (bthen HA.out HB7.out) HQ7.out).mono ?_; rintro e w8 ⟨rfl, hb8⟩; have HB8 := Lib.hid (bthen HB7.out hb8); clear hb8; obtain ⟨_, p0, p1, p2, p3, p4, p5⟩ := HX.out.below HB8.out)
       refine hK.out _ _ ?_ (fun hHeld => ?_)
       · go_keep
       clear hK K
       try go_frame)
  try go_frame
  first
    | refine tk0 34 (oi := ⟨_, _, _, _, _, _⟩) rfl ?_
    | refine tk1 34 (oi := ⟨_, _, _, _, _, _⟩) (v := ?_) rfl ?_ ?_; rotate_left; · (intro w5 hSw; (try dsimp only at hSw); go_simp; (try with_reducible rfl))
    | (refine wpAnyH_ready (rs := [34]) (by kernel_rfl) (by simp) ?_
       refine AllReadyH.cons (o := ⟨_, _, _, _, _, _⟩) rfl (fun K hK => ?_) AllReadyH.nil
       go_simp
       first
         | (go_at_call 38; refine (HC.out _).mono ?_; rintro e w1 ⟨rfl, hb1⟩; have HB1 := Lib.hid (bthen (bdrew _) hb1); clear hb1; obtain ⟨_, p0, p1, p2, p3, p4, p5⟩ := HX.out.below HB1.out)
         | (go_at_call 39; refine (HN.out _).mono ?_; rintro e w2 ⟨rfl, rfl⟩)
         | (go_at_call 40; refine (HF.out _ (bthen HA.out HB1.out)).mono ?_; rintro e w3 ⟨rfl, hb3⟩; have HB3 := Lib.hid (bthen HB1.out hb3); clear hb3; obtain ⟨_, p0, p1, p2, p3, p4, p5⟩ := HX.out.below HB3.out)
         | (go_at_call 42; refine (HP.out _ (bthen HA.out HB3.out)).mono ?_; rintro e w4 ⟨rfl, hb4⟩; have HB4 := Lib.hid (bthen HB3.out hb4); clear hb4; obtain ⟨_, p0, p1, p2, p3, p4, p5⟩ := HX.out.below HB4.out)
         | (go_at_call 45; refine (HLB.out _).mono ?_; rintro e w5 ⟨q5, rfl, hq5, hb5⟩; have HQ5 := Lib.hid hq5; clear hq5; have HB5 := Lib.hid (bthen HB4.out hb5); clear hb5; obtain ⟨_, p0, p1, p2, p3, p4, p5⟩ := HX.out.below HB5.out)
         | (go_at_call 44; refine (HL.out _ _ (bthen HA.out HB5.out) HQ5.out).mono ?_; rintro e w6 ⟨rfl, hb6⟩; have HB6 := Lib.hid (bthen HB5.out hb6); clear hb6; obtain ⟨_, p0, p1, p2, p3, p4, p5⟩ := HX.out.below HB6.out)
         | (go_at_call 47; refine (HEB.out _).mono ?_; rintro e w7 ⟨q7, rfl, hq7, hb7⟩; have HQ7 := Lib.hid hq7; clear hq7; have HB7 := Lib.hid (bthen HB6.out hb7); clear hb7; obtain ⟨_, p0, p1, p2, p3, p4, p5⟩ := HX.out.below HB7.out)
         | (go_at_call 46; refine (HE.out _ _ (bthen HA.out HB7.out) HQ7.out).mono ?_; rintro e w8 ⟨rfl, hb8⟩; have HB8 := Lib.hid (bthen HB7.out hb8); clear hb8; obtain ⟨_, p0, p1, p2, p3, p4, p5⟩ := HX.out.below HB8.out)
       refine hK.out _ _ ?_ (fun hHeld => ?_)
       · go_keep
       clear hK K
       try go_frame)
  try go_frame
  first
    | refine tk0 35 (oi := ⟨_, _, _, _, _, _⟩) rfl ?_
    | refine tk1 35 (oi := ⟨_, _, _, _, _, _⟩) (v := ?_) rfl ?_ ?_; rotate_left; · (intro w5 hSw; (try dsimp only at hSw); go_simp; (try with_reducible rfl))
    | (refine wpAnyH_ready (rs := [35]) (by kernel_rfl) (by simp) ?_
       refine AllReadyH.cons (o := ⟨_, _, _, _, _, _⟩) rfl (fun K hK => ?_) AllReadyH.nil
       go_simp
       first
         | (go_at_call 38; refine (HC.out _).mono ?_; rintro e w1 ⟨rfl, hb1⟩; have HB1 := Lib.hid (bthen (bdrew _) hb1); clear hb1; obtain ⟨_, p0, p1, p2, p3, p4, p5⟩ := HX.out.below HB1.out)
         | (go_at_call 39; refine (HN.out _).mono ?_; rintro e w2 ⟨rfl, rfl⟩)
         | (go_at_call 40; refine (HF.out _ (bthen HA.out HB1.out)).mono ?_; rintro e w3 ⟨rfl, hb3⟩; have HB3 := Lib.hid (bthen HB1.out hb3); clear hb3; obtain ⟨_, p0, p1, p2, p3, p4, p5⟩ := HX.out.below HB3.out)
         | (go_at_call 42; refine (HP.out _ (bthen HA.out HB3.out)).mono ?_; rintro e w4 ⟨rfl, hb4⟩; have HB4 := Lib.hid (bthen HB3.out hb4); clear hb4; obtain ⟨_, p0, p1, p2, p3, p4, p5⟩ := HX.out.below HB4.out)
         | (go_at_call 45; refine (HLB.out _).mono ?_; rintro e w5 ⟨q5, rfl, hq5, hb5⟩; have HQ5 := Lib.hid hq5; clear hq5; have HB5 := Lib.hid (bthen HB4.out hb5); clear hb5; obtain ⟨_, p0, p1, p2, p3, p4, p5⟩ := HX.out.below HB5.out)
         | (go_at_call 44; refine (HL.out _ _ (bthen HA.out HB5.out) HQ5.out).mono ?_; rintro e w6 ⟨rfl, hb6⟩; have HB6 := Lib.hid (bthen HB5.out hb6); clear hb6; obtain ⟨_, p0, p1, p2, p3, p4, p5⟩ := HX.out.below HB6.out)
         | (go_at_call 47; refine (HEB.out _).mono ?_; rintro e w7 ⟨q7, rfl, hq7, hb7⟩; have HQ7 := Lib.hid hq7; clear hq7; have HB7 := Lib.hid (bthen HB6.out hb7); clear hb7; obtain ⟨_, p0, p1, p2, p3, p4, p5⟩ := HX.out.below HB7.out)
         | (go_at_call 46; refine (HE.out _ _ (bthen HA.out HB7.out) HQ7.out).mono ?_; rintro e w8 ⟨rfl, hb8⟩; have HB8 := Lib.hid (bthen HB7.out hb8); clear hb8; obtain ⟨_, p0, p1, p2, p3, p4, p5⟩ := HX.out.below HB8.out)
       refine hK.out _ _ ?_ (fun hHeld => ?_)
       · go_keep
       clear hK K
       try go_frame)
  try go_frame
  refine wpAnyH_done (by kernel_rfl) ?_ _
  go_wp2_with fail
  go_ret
  exact ⟨rfl, bthen HA.out HB6.out⟩

end Go.Proofs.YthkfaeplmmlnlaaGreat
