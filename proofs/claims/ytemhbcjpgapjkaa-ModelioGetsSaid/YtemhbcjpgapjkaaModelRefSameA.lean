/- The contract of the document's own Same, where it is told at once. -/
import Derived.Test.YtemhbcjpgapjkaaModelSame0
namespace Go.Proofs.Ytemhbcjpgapjkaa
open Go.RowKit
set_option linter.unusedVariables false

set_option maxRecDepth 100000 in
set_option maxHeartbeats 1600000 in
theorem refSame_b0 (s1 s2 : Int) (f1 f2 nd1 np1 nl1 ni1 nd2 np2 nl2 ni2 : Nat) (ad1 ap1 al1 ai1 ad2 ap2 al2 ai2 : Option Addr) (cd1 cp1 cl1 ci1 cd2 cp2 cl2 ci2 : Nat) (b : Bool) (w : World)
    (HF : Hid (∀ w, Calls Try.prog 36 #[.float .f64 f1, .float .f64 f2] w fun e w' => e = .returned (.bool b) ∧ w = w'))  (hz : (s1 != s2) = true) :
    Calls Try.prog 15 #[.agg #[.int .i64 s1, .float .f64 f1, .slice ad1 nd1 cd1, .slice ap1 np1 cp1, .slice al1 nl1 cl1, .slice ai1 ni1 ci1], .agg #[.int .i64 s2, .float .f64 f2, .slice ad2 nd2 cd2, .slice ap2 np2 cp2, .slice al2 nl2 cl2, .slice ai2 ni2 ci2]] w fun e w' => e = .returned (.bool false) ∧ Below w.heap.size w w' := by
  have HB := Lib.hid (bthen (balloc w (.cells #[.int .i64 s1, .float .f64 f1, .slice ad1 nd1 cd1, .slice ap1 np1 cp1, .slice al1 nl1 cl1, .slice ai1 ni1 ci1] 28)) (balloc _ (.cells #[.int .i64 s2, .float .f64 f2, .slice ad2 nd2 cd2, .slice ap2 np2 cp2, .slice al2 nl2 cl2, .slice ai2 ni2 ci2] 28)))
  go_enter Try.func15, Try.ntmps15
  go_wp2_with (go_at_call 36; refine (HF.out _).mono ?_; rintro e w2 ⟨rfl, rfl⟩)
  go_ret
  exact ⟨rfl, HB.out⟩

set_option maxRecDepth 100000 in
set_option maxHeartbeats 1600000 in
theorem refSame_b1 (s1 s2 : Int) (f1 f2 nd1 np1 nl1 ni1 nd2 np2 nl2 ni2 : Nat) (ad1 ap1 al1 ai1 ad2 ap2 al2 ai2 : Option Addr) (cd1 cp1 cl1 ci1 cd2 cp2 cl2 ci2 : Nat) (b : Bool) (w : World)
    (HF : Hid (∀ w, Calls Try.prog 36 #[.float .f64 f1, .float .f64 f2] w fun e w' => e = .returned (.bool b) ∧ w = w')) (g0 : (s1 != s2) = false) (hz : b = false) :
    Calls Try.prog 15 #[.agg #[.int .i64 s1, .float .f64 f1, .slice ad1 nd1 cd1, .slice ap1 np1 cp1, .slice al1 nl1 cl1, .slice ai1 ni1 ci1], .agg #[.int .i64 s2, .float .f64 f2, .slice ad2 nd2 cd2, .slice ap2 np2 cp2, .slice al2 nl2 cl2, .slice ai2 ni2 ci2]] w fun e w' => e = .returned (.bool false) ∧ Below w.heap.size w w' := by
  have HB := Lib.hid (bthen (balloc w (.cells #[.int .i64 s1, .float .f64 f1, .slice ad1 nd1 cd1, .slice ap1 np1 cp1, .slice al1 nl1 cl1, .slice ai1 ni1 ci1] 28)) (balloc _ (.cells #[.int .i64 s2, .float .f64 f2, .slice ad2 nd2 cd2, .slice ap2 np2 cp2, .slice al2 nl2 cl2, .slice ai2 ni2 ci2] 28)))
  subst hz
  go_enter Try.func15, Try.ntmps15
  go_wp2_with (go_at_call 36; refine (HF.out _).mono ?_; rintro e w2 ⟨rfl, rfl⟩)
  go_ret
  exact ⟨rfl, HB.out⟩

set_option maxRecDepth 100000 in
set_option maxHeartbeats 1600000 in
theorem refSame_b2 (s1 s2 : Int) (f1 f2 nd1 np1 nl1 ni1 nd2 np2 nl2 ni2 : Nat) (ad1 ap1 al1 ai1 ad2 ap2 al2 ai2 : Option Addr) (cd1 cp1 cl1 ci1 cd2 cp2 cl2 ci2 : Nat) (b : Bool) (w : World)
    (HF : Hid (∀ w, Calls Try.prog 36 #[.float .f64 f1, .float .f64 f2] w fun e w' => e = .returned (.bool b) ∧ w = w')) (g0 : (s1 != s2) = false) (g1 : b = true) (hz : ((nd1 : Int) != (nd2 : Int)) = true) :
    Calls Try.prog 15 #[.agg #[.int .i64 s1, .float .f64 f1, .slice ad1 nd1 cd1, .slice ap1 np1 cp1, .slice al1 nl1 cl1, .slice ai1 ni1 ci1], .agg #[.int .i64 s2, .float .f64 f2, .slice ad2 nd2 cd2, .slice ap2 np2 cp2, .slice al2 nl2 cl2, .slice ai2 ni2 ci2]] w fun e w' => e = .returned (.bool false) ∧ Below w.heap.size w w' := by
  have HB := Lib.hid (bthen (balloc w (.cells #[.int .i64 s1, .float .f64 f1, .slice ad1 nd1 cd1, .slice ap1 np1 cp1, .slice al1 nl1 cl1, .slice ai1 ni1 ci1] 28)) (balloc _ (.cells #[.int .i64 s2, .float .f64 f2, .slice ad2 nd2 cd2, .slice ap2 np2 cp2, .slice al2 nl2 cl2, .slice ai2 ni2 ci2] 28)))
  subst g1
  go_enter Try.func15, Try.ntmps15
  go_wp2_with (go_at_call 36; refine (HF.out _).mono ?_; rintro e w2 ⟨rfl, rfl⟩)
  go_ret
  exact ⟨rfl, HB.out⟩

set_option maxRecDepth 100000 in
set_option maxHeartbeats 1600000 in
theorem refSame_b3 (s1 s2 : Int) (f1 f2 nd1 np1 nl1 ni1 nd2 np2 nl2 ni2 : Nat) (ad1 ap1 al1 ai1 ad2 ap2 al2 ai2 : Option Addr) (cd1 cp1 cl1 ci1 cd2 cp2 cl2 ci2 : Nat) (b : Bool) (w : World)
    (HF : Hid (∀ w, Calls Try.prog 36 #[.float .f64 f1, .float .f64 f2] w fun e w' => e = .returned (.bool b) ∧ w = w')) (g0 : (s1 != s2) = false) (g1 : b = true) (g2 : ((nd1 : Int) != (nd2 : Int)) = false) (hz : ((np1 : Int) != (np2 : Int)) = true) :
    Calls Try.prog 15 #[.agg #[.int .i64 s1, .float .f64 f1, .slice ad1 nd1 cd1, .slice ap1 np1 cp1, .slice al1 nl1 cl1, .slice ai1 ni1 ci1], .agg #[.int .i64 s2, .float .f64 f2, .slice ad2 nd2 cd2, .slice ap2 np2 cp2, .slice al2 nl2 cl2, .slice ai2 ni2 ci2]] w fun e w' => e = .returned (.bool false) ∧ Below w.heap.size w w' := by
  have HB := Lib.hid (bthen (balloc w (.cells #[.int .i64 s1, .float .f64 f1, .slice ad1 nd1 cd1, .slice ap1 np1 cp1, .slice al1 nl1 cl1, .slice ai1 ni1 ci1] 28)) (balloc _ (.cells #[.int .i64 s2, .float .f64 f2, .slice ad2 nd2 cd2, .slice ap2 np2 cp2, .slice al2 nl2 cl2, .slice ai2 ni2 ci2] 28)))
  subst g1
  go_enter Try.func15, Try.ntmps15
  go_wp2_with (go_at_call 36; refine (HF.out _).mono ?_; rintro e w2 ⟨rfl, rfl⟩)
  go_ret
  exact ⟨rfl, HB.out⟩

set_option maxRecDepth 100000 in
set_option maxHeartbeats 1600000 in
theorem refSame_b4 (s1 s2 : Int) (f1 f2 nd1 np1 nl1 ni1 nd2 np2 nl2 ni2 : Nat) (ad1 ap1 al1 ai1 ad2 ap2 al2 ai2 : Option Addr) (cd1 cp1 cl1 ci1 cd2 cp2 cl2 ci2 : Nat) (b : Bool) (w : World)
    (HF : Hid (∀ w, Calls Try.prog 36 #[.float .f64 f1, .float .f64 f2] w fun e w' => e = .returned (.bool b) ∧ w = w')) (g0 : (s1 != s2) = false) (g1 : b = true) (g2 : ((nd1 : Int) != (nd2 : Int)) = false) (g3 : ((np1 : Int) != (np2 : Int)) = false) (hz : ((nl1 : Int) != (nl2 : Int)) = true) :
    Calls Try.prog 15 #[.agg #[.int .i64 s1, .float .f64 f1, .slice ad1 nd1 cd1, .slice ap1 np1 cp1, .slice al1 nl1 cl1, .slice ai1 ni1 ci1], .agg #[.int .i64 s2, .float .f64 f2, .slice ad2 nd2 cd2, .slice ap2 np2 cp2, .slice al2 nl2 cl2, .slice ai2 ni2 ci2]] w fun e w' => e = .returned (.bool false) ∧ Below w.heap.size w w' := by
  have HB := Lib.hid (bthen (balloc w (.cells #[.int .i64 s1, .float .f64 f1, .slice ad1 nd1 cd1, .slice ap1 np1 cp1, .slice al1 nl1 cl1, .slice ai1 ni1 ci1] 28)) (balloc _ (.cells #[.int .i64 s2, .float .f64 f2, .slice ad2 nd2 cd2, .slice ap2 np2 cp2, .slice al2 nl2 cl2, .slice ai2 ni2 ci2] 28)))
  subst g1
  go_enter Try.func15, Try.ntmps15
  go_wp2_with (go_at_call 36; refine (HF.out _).mono ?_; rintro e w2 ⟨rfl, rfl⟩)
  go_ret
  exact ⟨rfl, HB.out⟩

set_option maxRecDepth 100000 in
set_option maxHeartbeats 1600000 in
theorem refSame_b5 (s1 s2 : Int) (f1 f2 nd1 np1 nl1 ni1 nd2 np2 nl2 ni2 : Nat) (ad1 ap1 al1 ai1 ad2 ap2 al2 ai2 : Option Addr) (cd1 cp1 cl1 ci1 cd2 cp2 cl2 ci2 : Nat) (b : Bool) (w : World)
    (HF : Hid (∀ w, Calls Try.prog 36 #[.float .f64 f1, .float .f64 f2] w fun e w' => e = .returned (.bool b) ∧ w = w')) (g0 : (s1 != s2) = false) (g1 : b = true) (g2 : ((nd1 : Int) != (nd2 : Int)) = false) (g3 : ((np1 : Int) != (np2 : Int)) = false) (g4 : ((nl1 : Int) != (nl2 : Int)) = false) (hz : ((ni1 : Int) != (ni2 : Int)) = true) :
    Calls Try.prog 15 #[.agg #[.int .i64 s1, .float .f64 f1, .slice ad1 nd1 cd1, .slice ap1 np1 cp1, .slice al1 nl1 cl1, .slice ai1 ni1 ci1], .agg #[.int .i64 s2, .float .f64 f2, .slice ad2 nd2 cd2, .slice ap2 np2 cp2, .slice al2 nl2 cl2, .slice ai2 ni2 ci2]] w fun e w' => e = .returned (.bool false) ∧ Below w.heap.size w w' := by
  have HB := Lib.hid (bthen (balloc w (.cells #[.int .i64 s1, .float .f64 f1, .slice ad1 nd1 cd1, .slice ap1 np1 cp1, .slice al1 nl1 cl1, .slice ai1 ni1 ci1] 28)) (balloc _ (.cells #[.int .i64 s2, .float .f64 f2, .slice ad2 nd2 cd2, .slice ap2 np2 cp2, .slice al2 nl2 cl2, .slice ai2 ni2 ci2] 28)))
  subst g1
  go_enter Try.func15, Try.ntmps15
  go_wp2_with (go_at_call 36; refine (HF.out _).mono ?_; rintro e w2 ⟨rfl, rfl⟩)
  go_ret
  exact ⟨rfl, HB.out⟩

end Go.Proofs.Ytemhbcjpgapjkaa
