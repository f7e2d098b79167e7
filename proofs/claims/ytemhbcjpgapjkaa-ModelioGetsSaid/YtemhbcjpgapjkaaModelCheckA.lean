/- The contracts of countsMayBe and Check. -/
import Derived.Test.YtemhbcjpgapjkaaModelAll
namespace Go.Proofs.Ytemhbcjpgapjkaa
open Go.RowKit
set_option linter.unusedVariables false
set_option maxRecDepth 100000

set_option maxHeartbeats 1600000 in
theorem counts_any (seed : Int) (fin nd np nl ni cd cp cl ci : Nat) (ad ap al ai : Option Addr) (w : World) :
    Calls Try.prog 39 #[.agg #[.int .i64 seed, .float .f64 fin, .slice ad nd cd, .slice ap np cp, .slice al nl cl, .slice ai ni ci]] w fun e w' => e = .returned (.bool (from1 6 nl && (from1 4 np && (from1 8 nd && decide (ni ≤ 16))))) ∧ Below w.heap.size w w' := by
  have H6 : Hid (∀ w, Calls Try.prog 72 #[.int .i64 6, .int .i64 nl] w fun e w' => e = .returned (.bool (from1 6 nl)) ∧ w = w') := isFrom1To_any 6 nl
  have H4 : Hid (∀ w, Calls Try.prog 72 #[.int .i64 4, .int .i64 np] w fun e w' => e = .returned (.bool (from1 4 np)) ∧ w = w') := isFrom1To_any 4 np
  have H8 : Hid (∀ w, Calls Try.prog 72 #[.int .i64 8, .int .i64 nd] w fun e w' => e = .returned (.bool (from1 8 nd)) ∧ w = w') := isFrom1To_any 8 nd
  have HB := Lib.hid (balloc w (.cells #[.int .i64 seed, .float .f64 fin, .slice ad nd cd, .slice ap np cp, .slice al nl cl, .slice ai ni ci] 28))
  generalize from1 6 nl = r6 at *
  generalize from1 4 np = r4 at *
  generalize from1 8 nd = r8 at *
  go_enter Try.func39, Try.ntmps39
  go_wp2_with (first
    | (go_at_call 72; with_reducible refine (H6.out _).mono ?_; rintro e w' ⟨rfl, rfl⟩)
    | (go_at_call 72; with_reducible refine (H4.out _).mono ?_; rintro e w' ⟨rfl, rfl⟩)
    | (go_at_call 72; with_reducible refine (H8.out _).mono ?_; rintro e w' ⟨rfl, rfl⟩))
  all_goals
    go_ret
    refine ⟨?_, HB.out⟩
    simp_all
    try omega

set_option maxHeartbeats 3200000 in
theorem check_0 (seed : Int) (fin nd np nl ni cd cp cl ci : Nat) (ad ap al ai : Option Addr) (w : World) (b2 b3 b4 b5 b6 : Bool)
    (HC : Hid (∀ w, Calls Try.prog 39 #[.agg #[.int .i64 seed, .float .f64 fin, .slice ad nd cd, .slice ap np cp, .slice al nl cl, .slice ai ni ci]] w fun e w' => e = .returned (.bool false) ∧ Below w.heap.size w w'))
    (HN : Hid (∀ w, Calls Try.prog 40 #[.float .f64 fin] w fun e w' => e = .returned (.bool (!b2)) ∧ w = w'))
    (HF : Hid (∀ w2, Below w.heap.size w w2 → Calls Try.prog 41 #[.slice ad nd cd, .func (.func 42) #[] #[]] w2 fun e w' => e = .returned (.bool b3) ∧ Below w2.heap.size w2 w'))
    (HP : Hid (∀ w2, Below w.heap.size w w2 → Calls Try.prog 43 #[.slice ap np cp, .func (.func 44) #[] #[]] w2 fun e w' => e = .returned (.bool b4) ∧ Below w2.heap.size w2 w'))
    (HLB : Hid (∀ w, Calls Try.prog 46 #[.int .i64 np] w fun e w' => ∃ q, e = .returned (.func (.func 75) #[] #[.pointer (some ⟨q, 0, none⟩)]) ∧ BoxI np q w' ∧ Below w.heap.size w w'))
    (HL : Hid (∀ q w2, Below w.heap.size w w2 → BoxI np q w2 → Calls Try.prog 45 #[.slice al nl cl, .func (.func 75) #[] #[.pointer (some ⟨q, 0, none⟩)]] w2 fun e w' => e = .returned (.bool b5) ∧ Below w2.heap.size w2 w'))
    (HEB : Hid (∀ w, Calls Try.prog 48 #[.int .i64 nl] w fun e w' => ∃ q, e = .returned (.func (.func 77) #[] #[.pointer (some ⟨q, 0, none⟩)]) ∧ BoxI nl q w' ∧ Below w.heap.size w w'))
    (HE : Hid (∀ q w2, Below w.heap.size w w2 → BoxI nl q w2 → Calls Try.prog 47 #[.slice ai ni ci, .func (.func 77) #[] #[.pointer (some ⟨q, 0, none⟩)]] w2 fun e w' => e = .returned (.bool b6) ∧ Below w2.heap.size w2 w')) :
    Calls Try.prog 17 #[.agg #[.int .i64 seed, .float .f64 fin, .slice ad nd cd, .slice ap np cp, .slice al nl cl, .slice ai ni ci]] w fun e w' => e = .returned (.int .i64 15) ∧ Below w.heap.size w w' := by
  have HX := Lib.hid (Box6.new (.int .i64 seed) (.float .f64 fin) (.slice ad nd cd) (.slice ap np cp) (.slice al nl cl) (.slice ai ni ci) 28 w)
  have HA := Lib.hid (balloc w (.cells #[.int .i64 seed, .float .f64 fin, .slice ad nd cd, .slice ap np cp, .slice al nl cl, .slice ai ni ci] 28))
  obtain ⟨_, x0, x1, x2, x3, x4, x5⟩ := HX.out
  go_enter Try.func17, Try.ntmps17
  go_wp2_with fail
  refine wp_region_quiet (C := Cls (w.alloc (.cells #[.int .i64 seed, .float .f64 fin, .slice ad nd cd, .slice ap np cp, .slice al nl cl, .slice ai ni ci] 28))) (by kernel_rfl) (by kernel_rfl) (Cls.drew _) ?_
  repeat (first
      | (refine BigFrame.wpQuiet_skip (by rfl) ?_
         try simp only [Act.put, List.setIfInBounds_toArray, List.set_cons_zero, List.set_cons_succ])
      | (refine BigFrame.wpQuiet_want (by rfl) (fun K hK => ?_)
         apply Exists.intro
         refine ⟨fun w' hC => ?_, hK _ ?_⟩
         · obtain ⟨_, p0, p1, p2, p3, p4, p5⟩ := HX.out.below hC.out
           go_simp
           first
             | rfl
             | (go_at_call 39; refine (HC.out _).mono ?_; rintro e w2 ⟨rfl, hb⟩; exact ⟨rfl, hC.on hb⟩)
             | (go_at_call 40; refine (HN.out _).mono ?_; rintro e w2 ⟨rfl, rfl⟩; exact ⟨rfl, hC⟩)
             | (go_at_call 41; refine (HF.out _ (bthen HA.out hC.out)).mono ?_; rintro e w2 ⟨rfl, hb⟩; exact ⟨rfl, hC.on hb⟩)
             | (go_at_call 43; refine (HP.out _ (bthen HA.out hC.out)).mono ?_; rintro e w2 ⟨rfl, hb⟩; exact ⟨rfl, hC.on hb⟩)
         clear hK K
         try simp only [Act.put, List.setIfInBounds_toArray, List.set_cons_zero, List.set_cons_succ]))
  refine wpQuiet_nil ?_
  intro w9 hC9
  go_wp2_with fail
  go_ret
  exact ⟨rfl, bthen HA.out hC9.out⟩

set_option maxHeartbeats 3200000 in
theorem check_1 (seed : Int) (fin nd np nl ni cd cp cl ci : Nat) (ad ap al ai : Option Addr) (w : World) (b3 b4 b5 b6 : Bool)
    (HC : Hid (∀ w, Calls Try.prog 39 #[.agg #[.int .i64 seed, .float .f64 fin, .slice ad nd cd, .slice ap np cp, .slice al nl cl, .slice ai ni ci]] w fun e w' => e = .returned (.bool true) ∧ Below w.heap.size w w'))
    (HN : Hid (∀ w, Calls Try.prog 40 #[.float .f64 fin] w fun e w' => e = .returned (.bool (!false)) ∧ w = w'))
    (HF : Hid (∀ w2, Below w.heap.size w w2 → Calls Try.prog 41 #[.slice ad nd cd, .func (.func 42) #[] #[]] w2 fun e w' => e = .returned (.bool b3) ∧ Below w2.heap.size w2 w'))
    (HP : Hid (∀ w2, Below w.heap.size w w2 → Calls Try.prog 43 #[.slice ap np cp, .func (.func 44) #[] #[]] w2 fun e w' => e = .returned (.bool b4) ∧ Below w2.heap.size w2 w'))
    (HLB : Hid (∀ w, Calls Try.prog 46 #[.int .i64 np] w fun e w' => ∃ q, e = .returned (.func (.func 75) #[] #[.pointer (some ⟨q, 0, none⟩)]) ∧ BoxI np q w' ∧ Below w.heap.size w w'))
    (HL : Hid (∀ q w2, Below w.heap.size w w2 → BoxI np q w2 → Calls Try.prog 45 #[.slice al nl cl, .func (.func 75) #[] #[.pointer (some ⟨q, 0, none⟩)]] w2 fun e w' => e = .returned (.bool b5) ∧ Below w2.heap.size w2 w'))
    (HEB : Hid (∀ w, Calls Try.prog 48 #[.int .i64 nl] w fun e w' => ∃ q, e = .returned (.func (.func 77) #[] #[.pointer (some ⟨q, 0, none⟩)]) ∧ BoxI nl q w' ∧ Below w.heap.size w w'))
    (HE : Hid (∀ q w2, Below w.heap.size w w2 → BoxI nl q w2 → Calls Try.prog 47 #[.slice ai ni ci, .func (.func 77) #[] #[.pointer (some ⟨q, 0, none⟩)]] w2 fun e w' => e = .returned (.bool b6) ∧ Below w2.heap.size w2 w')) :
    Calls Try.prog 17 #[.agg #[.int .i64 seed, .float .f64 fin, .slice ad nd cd, .slice ap np cp, .slice al nl cl, .slice ai ni ci]] w fun e w' => e = .returned (.int .i64 15) ∧ Below w.heap.size w w' := by
  have HX := Lib.hid (Box6.new (.int .i64 seed) (.float .f64 fin) (.slice ad nd cd) (.slice ap np cp) (.slice al nl cl) (.slice ai ni ci) 28 w)
  have HA := Lib.hid (balloc w (.cells #[.int .i64 seed, .float .f64 fin, .slice ad nd cd, .slice ap np cp, .slice al nl cl, .slice ai ni ci] 28))
  obtain ⟨_, x0, x1, x2, x3, x4, x5⟩ := HX.out
  go_enter Try.func17, Try.ntmps17
  go_wp2_with fail
  refine wp_region_quiet (C := Cls (w.alloc (.cells #[.int .i64 seed, .float .f64 fin, .slice ad nd cd, .slice ap np cp, .slice al nl cl, .slice ai ni ci] 28))) (by kernel_rfl) (by kernel_rfl) (Cls.drew _) ?_
  repeat (first
      | (refine BigFrame.wpQuiet_skip (by rfl) ?_
         try simp only [Act.put, List.setIfInBounds_toArray, List.set_cons_zero, List.set_cons_succ])
      | (refine BigFrame.wpQuiet_want (by rfl) (fun K hK => ?_)
         apply Exists.intro
         refine ⟨fun w' hC => ?_, hK _ ?_⟩
         · obtain ⟨_, p0, p1, p2, p3, p4, p5⟩ := HX.out.below hC.out
           go_simp
           first
             | rfl
             | (go_at_call 39; refine (HC.out _).mono ?_; rintro e w2 ⟨rfl, hb⟩; exact ⟨rfl, hC.on hb⟩)
             | (go_at_call 40; refine (HN.out _).mono ?_; rintro e w2 ⟨rfl, rfl⟩; exact ⟨rfl, hC⟩)
             | (go_at_call 41; refine (HF.out _ (bthen HA.out hC.out)).mono ?_; rintro e w2 ⟨rfl, hb⟩; exact ⟨rfl, hC.on hb⟩)
             | (go_at_call 43; refine (HP.out _ (bthen HA.out hC.out)).mono ?_; rintro e w2 ⟨rfl, hb⟩; exact ⟨rfl, hC.on hb⟩)
         clear hK K
         try simp only [Act.put, List.setIfInBounds_toArray, List.set_cons_zero, List.set_cons_succ]))
  refine wpQuiet_nil ?_
  intro w9 hC9
  go_wp2_with fail
  go_ret
  exact ⟨rfl, bthen HA.out hC9.out⟩

set_option maxHeartbeats 3200000 in
theorem check_2 (seed : Int) (fin nd np nl ni cd cp cl ci : Nat) (ad ap al ai : Option Addr) (w : World) (b4 b5 b6 : Bool)
    (HC : Hid (∀ w, Calls Try.prog 39 #[.agg #[.int .i64 seed, .float .f64 fin, .slice ad nd cd, .slice ap np cp, .slice al nl cl, .slice ai ni ci]] w fun e w' => e = .returned (.bool true) ∧ Below w.heap.size w w'))
    (HN : Hid (∀ w, Calls Try.prog 40 #[.float .f64 fin] w fun e w' => e = .returned (.bool (!true)) ∧ w = w'))
    (HF : Hid (∀ w2, Below w.heap.size w w2 → Calls Try.prog 41 #[.slice ad nd cd, .func (.func 42) #[] #[]] w2 fun e w' => e = .returned (.bool false) ∧ Below w2.heap.size w2 w'))
    (HP : Hid (∀ w2, Below w.heap.size w w2 → Calls Try.prog 43 #[.slice ap np cp, .func (.func 44) #[] #[]] w2 fun e w' => e = .returned (.bool b4) ∧ Below w2.heap.size w2 w'))
    (HLB : Hid (∀ w, Calls Try.prog 46 #[.int .i64 np] w fun e w' => ∃ q, e = .returned (.func (.func 75) #[] #[.pointer (some ⟨q, 0, none⟩)]) ∧ BoxI np q w' ∧ Below w.heap.size w w'))
    (HL : Hid (∀ q w2, Below w.heap.size w w2 → BoxI np q w2 → Calls Try.prog 45 #[.slice al nl cl, .func (.func 75) #[] #[.pointer (some ⟨q, 0, none⟩)]] w2 fun e w' => e = .returned (.bool b5) ∧ Below w2.heap.size w2 w'))
    (HEB : Hid (∀ w, Calls Try.prog 48 #[.int .i64 nl] w fun e w' => ∃ q, e = .returned (.func (.func 77) #[] #[.pointer (some ⟨q, 0, none⟩)]) ∧ BoxI nl q w' ∧ Below w.heap.size w w'))
    (HE : Hid (∀ q w2, Below w.heap.size w w2 → BoxI nl q w2 → Calls Try.prog 47 #[.slice ai ni ci, .func (.func 77) #[] #[.pointer (some ⟨q, 0, none⟩)]] w2 fun e w' => e = .returned (.bool b6) ∧ Below w2.heap.size w2 w')) :
    Calls Try.prog 17 #[.agg #[.int .i64 seed, .float .f64 fin, .slice ad nd cd, .slice ap np cp, .slice al nl cl, .slice ai ni ci]] w fun e w' => e = .returned (.int .i64 15) ∧ Below w.heap.size w w' := by
  have HX := Lib.hid (Box6.new (.int .i64 seed) (.float .f64 fin) (.slice ad nd cd) (.slice ap np cp) (.slice al nl cl) (.slice ai ni ci) 28 w)
  have HA := Lib.hid (balloc w (.cells #[.int .i64 seed, .float .f64 fin, .slice ad nd cd, .slice ap np cp, .slice al nl cl, .slice ai ni ci] 28))
  obtain ⟨_, x0, x1, x2, x3, x4, x5⟩ := HX.out
  go_enter Try.func17, Try.ntmps17
  go_wp2_with fail
  refine wp_region_quiet (C := Cls (w.alloc (.cells #[.int .i64 seed, .float .f64 fin, .slice ad nd cd, .slice ap np cp, .slice al nl cl, .slice ai ni ci] 28))) (by kernel_rfl) (by kernel_rfl) (Cls.drew _) ?_
  repeat (first
      | (refine BigFrame.wpQuiet_skip (by rfl) ?_
         try simp only [Act.put, List.setIfInBounds_toArray, List.set_cons_zero, List.set_cons_succ])
      | (refine BigFrame.wpQuiet_want (by rfl) (fun K hK => ?_)
         apply Exists.intro
         refine ⟨fun w' hC => ?_, hK _ ?_⟩
         · obtain ⟨_, p0, p1, p2, p3, p4, p5⟩ := HX.out.below hC.out
           go_simp
           first
             | rfl
             | (go_at_call 39; refine (HC.out _).mono ?_; rintro e w2 ⟨rfl, hb⟩; exact ⟨rfl, hC.on hb⟩)
             | (go_at_call 40; refine (HN.out _).mono ?_; rintro e w2 ⟨rfl, rfl⟩; exact ⟨rfl, hC⟩)
             | (go_at_call 41; refine (HF.out _ (bthen HA.out hC.out)).mono ?_; rintro e w2 ⟨rfl, hb⟩; exact ⟨rfl, hC.on hb⟩)
             | (go_at_call 43; refine (HP.out _ (bthen HA.out hC.out)).mono ?_; rintro e w2 ⟨rfl, hb⟩; exact ⟨rfl, hC.on hb⟩)
         clear hK K
         try simp only [Act.put, List.setIfInBounds_toArray, List.set_cons_zero, List.set_cons_succ]))
  refine wpQuiet_nil ?_
  intro w9 hC9
  go_wp2_with fail
  go_ret
  exact ⟨rfl, bthen HA.out hC9.out⟩

set_option maxHeartbeats 3200000 in
theorem check_3 (seed : Int) (fin nd np nl ni cd cp cl ci : Nat) (ad ap al ai : Option Addr) (w : World) (b5 b6 : Bool)
    (HC : Hid (∀ w, Calls Try.prog 39 #[.agg #[.int .i64 seed, .float .f64 fin, .slice ad nd cd, .slice ap np cp, .slice al nl cl, .slice ai ni ci]] w fun e w' => e = .returned (.bool true) ∧ Below w.heap.size w w'))
    (HN : Hid (∀ w, Calls Try.prog 40 #[.float .f64 fin] w fun e w' => e = .returned (.bool (!true)) ∧ w = w'))
    (HF : Hid (∀ w2, Below w.heap.size w w2 → Calls Try.prog 41 #[.slice ad nd cd, .func (.func 42) #[] #[]] w2 fun e w' => e = .returned (.bool true) ∧ Below w2.heap.size w2 w'))
    (HP : Hid (∀ w2, Below w.heap.size w w2 → Calls Try.prog 43 #[.slice ap np cp, .func (.func 44) #[] #[]] w2 fun e w' => e = .returned (.bool false) ∧ Below w2.heap.size w2 w'))
    (HLB : Hid (∀ w, Calls Try.prog 46 #[.int .i64 np] w fun e w' => ∃ q, e = .returned (.func (.func 75) #[] #[.pointer (some ⟨q, 0, none⟩)]) ∧ BoxI np q w' ∧ Below w.heap.size w w'))
    (HL : Hid (∀ q w2, Below w.heap.size w w2 → BoxI np q w2 → Calls Try.prog 45 #[.slice al nl cl, .func (.func 75) #[] #[.pointer (some ⟨q, 0, none⟩)]] w2 fun e w' => e = .returned (.bool b5) ∧ Below w2.heap.size w2 w'))
    (HEB : Hid (∀ w, Calls Try.prog 48 #[.int .i64 nl] w fun e w' => ∃ q, e = .returned (.func (.func 77) #[] #[.pointer (some ⟨q, 0, none⟩)]) ∧ BoxI nl q w' ∧ Below w.heap.size w w'))
    (HE : Hid (∀ q w2, Below w.heap.size w w2 → BoxI nl q w2 → Calls Try.prog 47 #[.slice ai ni ci, .func (.func 77) #[] #[.pointer (some ⟨q, 0, none⟩)]] w2 fun e w' => e = .returned (.bool b6) ∧ Below w2.heap.size w2 w')) :
    Calls Try.prog 17 #[.agg #[.int .i64 seed, .float .f64 fin, .slice ad nd cd, .slice ap np cp, .slice al nl cl, .slice ai ni ci]] w fun e w' => e = .returned (.int .i64 15) ∧ Below w.heap.size w w' := by
  have HX := Lib.hid (Box6.new (.int .i64 seed) (.float .f64 fin) (.slice ad nd cd) (.slice ap np cp) (.slice al nl cl) (.slice ai ni ci) 28 w)
  have HA := Lib.hid (balloc w (.cells #[.int .i64 seed, .float .f64 fin, .slice ad nd cd, .slice ap np cp, .slice al nl cl, .slice ai ni ci] 28))
  obtain ⟨_, x0, x1, x2, x3, x4, x5⟩ := HX.out
  go_enter Try.func17, Try.ntmps17
  go_wp2_with fail
  refine wp_region_quiet (C := Cls (w.alloc (.cells #[.int .i64 seed, .float .f64 fin, .slice ad nd cd, .slice ap np cp, .slice al nl cl, .slice ai ni ci] 28))) (by kernel_rfl) (by kernel_rfl) (Cls.drew _) ?_
  repeat (first
      | (refine BigFrame.wpQuiet_skip (by rfl) ?_
         try simp only [Act.put, List.setIfInBounds_toArray, List.set_cons_zero, List.set_cons_succ])
      | (refine BigFrame.wpQuiet_want (by rfl) (fun K hK => ?_)
         apply Exists.intro
         refine ⟨fun w' hC => ?_, hK _ ?_⟩
         · obtain ⟨_, p0, p1, p2, p3, p4, p5⟩ := HX.out.below hC.out
           go_simp
           first
             | rfl
             | (go_at_call 39; refine (HC.out _).mono ?_; rintro e w2 ⟨rfl, hb⟩; exact ⟨rfl, hC.on hb⟩)
             | (go_at_call 40; refine (HN.out _).mono ?_; rintro e w2 ⟨rfl, rfl⟩; exact ⟨rfl, hC⟩)
             | (go_at_call 41; refine (HF.out _ (bthen HA.out hC.out)).mono ?_; rintro e w2 ⟨rfl, hb⟩; exact ⟨rfl, hC.on hb⟩)
             | (go_at_call 43; refine (HP.out _ (bthen HA.out hC.out)).mono ?_; rintro e w2 ⟨rfl, hb⟩; exact ⟨rfl, hC.on hb⟩)
         clear hK K
         try simp only [Act.put, List.setIfInBounds_toArray, List.set_cons_zero, List.set_cons_succ]))
  refine wpQuiet_nil ?_
  intro w9 hC9
  go_wp2_with fail
  go_ret
  exact ⟨rfl, bthen HA.out hC9.out⟩

end Go.Proofs.Ytemhbcjpgapjkaa
