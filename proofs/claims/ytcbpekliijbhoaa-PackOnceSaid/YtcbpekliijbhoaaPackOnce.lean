/- The walk of the law PackOnce: what is read is laid as the very bytes. One theorem for each of the eight ways: number read or not, text read or not, list read or not. -/
import Derived.Test.YtcbpekliijbhoaaPackBackMath
import Derived.Deep.RegionHeld3
namespace Go.Proofs.Ytcbpekliijbhoaa
open Go.RowKit

set_option maxHeartbeats 1000000 in
set_option maxRecDepth 100000 in
set_option linter.unusedVariables false in
theorem once_ooo (s : ByteArray) (a p q : Nat) (w : World) (x y e1 e2 e3 : Int) (t : ByteArray) (zs : List Int) (hs : s.size ≤ maxLen) (ha : a ≤ s.size)
    (hu : a + 8 ≤ s.size)
    (H1 : Hid (∀ w, Calls Try.prog 18 #[.string s, .int .i64 a] w fun e w' => e = .returned (.tuple #[.int .u64 x, .int .i64 ((a : Int) + 8), .int .i64 0]) ∧ w = w'))
    (H2 : Hid (∀ w, Calls Try.prog 20 #[.string s, .int .i64 a] w fun e w' => e = .returned (.tuple #[.int .i64 y, .int .i64 ((a : Int) + 8), .int .i64 0]) ∧ w = w'))
    (H3 : Hid (∀ w, Calls Try.prog 10 #[.int .u64 x] w fun e w' => e = .returned (.string (s.extract a (a + 8))) ∧ Below w.heap.size w w'))
    (H4 : Hid (∀ w, Calls Try.prog 12 #[.int .i64 y] w fun e w' => e = .returned (.string (s.extract a (a + 8))) ∧ Below w.heap.size w w'))
    (hp1 : a ≤ p) (hp2 : p ≤ s.size)
    (H5 : Hid (∀ w, Calls Try.prog 22 #[.string s, .int .i64 a] w fun e w' => e = .returned (.tuple #[.string t, .int .i64 p, .int .i64 0]) ∧ Below w.heap.size w w'))
    (H6 : Hid (∀ w, Calls Try.prog 14 #[.string t] w fun e w' => e = .returned (.tuple #[.string (s.extract a p), .int .i64 0]) ∧ Below w.heap.size w w'))
    (hq1 : a ≤ q) (hq2 : q ≤ s.size)
    (H7 : Hid (∀ w, Calls Try.prog 24 #[.string s, .int .i64 a] w (ListRet w (zs, (q : Int), 0)))) (H8 : Hid (listSpec zs = (s.extract a q, 0))) :
    Calls Try.prog 7 #[.string s, .int .i64 a] w fun e w' => e = .returned (.bool true) ∧ Below w.heap.size w w' := by
  unfold maxLen at hs
  have h1 : ¬ ((a : Int) < 0) := by omega
  have h2 : ¬ ((s.size : Int) < (a : Int)) := by omega
  have hd1 : decide ((a : Int) < 0) = false := by simp
  have j0 : 0 ≤ (a : Int) + 8 := by omega
  have j1 : ((a : Int) + 8).toNat = a + 8 := by omega
  have j2 : (a : Int) + 8 ≤ (s.size : Int) := by omega
  have j3 : (a : Int) ≤ (a : Int) + 8 := by omega
  have sx : ((s.extract a (a + 8)).toList != (s.extract a (a + 8)).toList) = false := by simp
  go_enter Try.func7, Try.ntmps7
  go_wp2_with fail
  refine (H1.out _).mono ?_
  rintro e w1 ⟨rfl, rfl⟩
  go_wp2_with fail
  go_region_held3 (fun _ => True) (trivial) (first | (go_at_call 10; refine (H3.out _).mono ?_; rintro e w2 ⟨rfl, hb2⟩))
  go_wp2_with fail
  refine (H2.out _).mono ?_
  rintro e w3 ⟨rfl, rfl⟩
  go_wp2_with fail
  go_region_held3 (fun _ => True) (trivial) (first | (go_at_call 12; refine (H4.out _).mono ?_; rintro e w4 ⟨rfl, hb4⟩))
  go_wp2_with fail
  refine (H5.out _).mono ?_
  rintro e w5 ⟨rfl, hb5⟩
  go_wp2_with fail
  refine (H6.out _).mono ?_
  rintro e w6 ⟨rfl, hb6⟩
  go_wp2_with fail
  refine (H7.out _).mono ?_
  rintro e w7 ⟨v7, rfl, hown7, hb7⟩
  have K := packList_any v7 zs w7 (sliceHas_of_own hown7)
  rw [H8.out] at K
  unfold textRet at K
  have KH := Lib.hid K
  clear K hown7
  go_wp2_with fail
  refine KH.out.mono ?_
  rintro e w8 ⟨rfl, hb8⟩
  go_wp2_with fail
  refine (awake_any _).mono ?_
  rintro e w9 ⟨rfl, hb9⟩
  go_wp2_with fail
  go_ret
  exact ⟨rfl, bthen (bthen (bthen (bthen (bthen (bthen (Below.drew (bthen (Below.drew (Below.refl _ _)) hb2)) hb4) hb5) hb6) hb7) hb8) hb9⟩

set_option maxHeartbeats 1000000 in
set_option maxRecDepth 100000 in
set_option linter.unusedVariables false in
theorem once_ooe (s : ByteArray) (a p q : Nat) (w : World) (x y e1 e2 e3 : Int) (t : ByteArray) (zs : List Int) (hs : s.size ≤ maxLen) (ha : a ≤ s.size)
    (hu : a + 8 ≤ s.size)
    (H1 : Hid (∀ w, Calls Try.prog 18 #[.string s, .int .i64 a] w fun e w' => e = .returned (.tuple #[.int .u64 x, .int .i64 ((a : Int) + 8), .int .i64 0]) ∧ w = w'))
    (H2 : Hid (∀ w, Calls Try.prog 20 #[.string s, .int .i64 a] w fun e w' => e = .returned (.tuple #[.int .i64 y, .int .i64 ((a : Int) + 8), .int .i64 0]) ∧ w = w'))
    (H3 : Hid (∀ w, Calls Try.prog 10 #[.int .u64 x] w fun e w' => e = .returned (.string (s.extract a (a + 8))) ∧ Below w.heap.size w w'))
    (H4 : Hid (∀ w, Calls Try.prog 12 #[.int .i64 y] w fun e w' => e = .returned (.string (s.extract a (a + 8))) ∧ Below w.heap.size w w'))
    (hp1 : a ≤ p) (hp2 : p ≤ s.size)
    (H5 : Hid (∀ w, Calls Try.prog 22 #[.string s, .int .i64 a] w fun e w' => e = .returned (.tuple #[.string t, .int .i64 p, .int .i64 0]) ∧ Below w.heap.size w w'))
    (H6 : Hid (∀ w, Calls Try.prog 14 #[.string t] w fun e w' => e = .returned (.tuple #[.string (s.extract a p), .int .i64 0]) ∧ Below w.heap.size w w'))
    (he3 : (e3 != 0) = true)
    (H7 : Hid (∀ w, Calls Try.prog 24 #[.string s, .int .i64 a] w (ListRet w ([], 0, e3)))) :
    Calls Try.prog 7 #[.string s, .int .i64 a] w fun e w' => e = .returned (.bool true) ∧ Below w.heap.size w w' := by
  unfold maxLen at hs
  have h1 : ¬ ((a : Int) < 0) := by omega
  have h2 : ¬ ((s.size : Int) < (a : Int)) := by omega
  have hd1 : decide ((a : Int) < 0) = false := by simp
  have j0 : 0 ≤ (a : Int) + 8 := by omega
  have j1 : ((a : Int) + 8).toNat = a + 8 := by omega
  have j2 : (a : Int) + 8 ≤ (s.size : Int) := by omega
  have j3 : (a : Int) ≤ (a : Int) + 8 := by omega
  have sx : ((s.extract a (a + 8)).toList != (s.extract a (a + 8)).toList) = false := by simp
  go_enter Try.func7, Try.ntmps7
  go_wp2_with fail
  refine (H1.out _).mono ?_
  rintro e w1 ⟨rfl, rfl⟩
  go_wp2_with fail
  go_region_held3 (fun _ => True) (trivial) (first | (go_at_call 10; refine (H3.out _).mono ?_; rintro e w2 ⟨rfl, hb2⟩))
  go_wp2_with fail
  refine (H2.out _).mono ?_
  rintro e w3 ⟨rfl, rfl⟩
  go_wp2_with fail
  go_region_held3 (fun _ => True) (trivial) (first | (go_at_call 12; refine (H4.out _).mono ?_; rintro e w4 ⟨rfl, hb4⟩))
  go_wp2_with fail
  refine (H5.out _).mono ?_
  rintro e w5 ⟨rfl, hb5⟩
  go_wp2_with fail
  refine (H6.out _).mono ?_
  rintro e w6 ⟨rfl, hb6⟩
  go_wp2_with fail
  refine (H7.out _).mono ?_
  rintro e w7 ⟨v7, rfl, hown7, hb7⟩
  obtain ⟨ao, cp, rfl, _⟩ := sliceHas_of_own (zs := []) hown7
  clear hown7
  go_wp2_with fail
  refine (awake_any _).mono ?_
  rintro e w9 ⟨rfl, hb9⟩
  go_wp2_with fail
  go_ret
  exact ⟨rfl, bthen (bthen (bthen (bthen (bthen (Below.drew (bthen (Below.drew (Below.refl _ _)) hb2)) hb4) hb5) hb6) hb7) hb9⟩

set_option maxHeartbeats 1000000 in
set_option maxRecDepth 100000 in
set_option linter.unusedVariables false in
theorem once_oeo (s : ByteArray) (a p q : Nat) (w : World) (x y e1 e2 e3 : Int) (t : ByteArray) (zs : List Int) (hs : s.size ≤ maxLen) (ha : a ≤ s.size)
    (hu : a + 8 ≤ s.size)
    (H1 : Hid (∀ w, Calls Try.prog 18 #[.string s, .int .i64 a] w fun e w' => e = .returned (.tuple #[.int .u64 x, .int .i64 ((a : Int) + 8), .int .i64 0]) ∧ w = w'))
    (H2 : Hid (∀ w, Calls Try.prog 20 #[.string s, .int .i64 a] w fun e w' => e = .returned (.tuple #[.int .i64 y, .int .i64 ((a : Int) + 8), .int .i64 0]) ∧ w = w'))
    (H3 : Hid (∀ w, Calls Try.prog 10 #[.int .u64 x] w fun e w' => e = .returned (.string (s.extract a (a + 8))) ∧ Below w.heap.size w w'))
    (H4 : Hid (∀ w, Calls Try.prog 12 #[.int .i64 y] w fun e w' => e = .returned (.string (s.extract a (a + 8))) ∧ Below w.heap.size w w'))
    (he2 : (e2 == 0) = false)
    (H5 : Hid (∀ w, Calls Try.prog 22 #[.string s, .int .i64 a] w fun e w' => e = .returned (.tuple #[.string ⟨#[]⟩, .int .i64 0, .int .i64 e2]) ∧ Below w.heap.size w w'))
    (hq1 : a ≤ q) (hq2 : q ≤ s.size)
    (H7 : Hid (∀ w, Calls Try.prog 24 #[.string s, .int .i64 a] w (ListRet w (zs, (q : Int), 0)))) (H8 : Hid (listSpec zs = (s.extract a q, 0))) :
    Calls Try.prog 7 #[.string s, .int .i64 a] w fun e w' => e = .returned (.bool true) ∧ Below w.heap.size w w' := by
  unfold maxLen at hs
  have h1 : ¬ ((a : Int) < 0) := by omega
  have h2 : ¬ ((s.size : Int) < (a : Int)) := by omega
  have hd1 : decide ((a : Int) < 0) = false := by simp
  have j0 : 0 ≤ (a : Int) + 8 := by omega
  have j1 : ((a : Int) + 8).toNat = a + 8 := by omega
  have j2 : (a : Int) + 8 ≤ (s.size : Int) := by omega
  have j3 : (a : Int) ≤ (a : Int) + 8 := by omega
  have sx : ((s.extract a (a + 8)).toList != (s.extract a (a + 8)).toList) = false := by simp
  go_enter Try.func7, Try.ntmps7
  go_wp2_with fail
  refine (H1.out _).mono ?_
  rintro e w1 ⟨rfl, rfl⟩
  go_wp2_with fail
  go_region_held3 (fun _ => True) (trivial) (first | (go_at_call 10; refine (H3.out _).mono ?_; rintro e w2 ⟨rfl, hb2⟩))
  go_wp2_with fail
  refine (H2.out _).mono ?_
  rintro e w3 ⟨rfl, rfl⟩
  go_wp2_with fail
  go_region_held3 (fun _ => True) (trivial) (first | (go_at_call 12; refine (H4.out _).mono ?_; rintro e w4 ⟨rfl, hb4⟩))
  go_wp2_with fail
  refine (H5.out _).mono ?_
  rintro e w5 ⟨rfl, hb5⟩
  go_wp2_with fail
  refine (H7.out _).mono ?_
  rintro e w7 ⟨v7, rfl, hown7, hb7⟩
  have K := packList_any v7 zs w7 (sliceHas_of_own hown7)
  rw [H8.out] at K
  unfold textRet at K
  have KH := Lib.hid K
  clear K hown7
  go_wp2_with fail
  refine KH.out.mono ?_
  rintro e w8 ⟨rfl, hb8⟩
  go_wp2_with fail
  refine (awake_any _).mono ?_
  rintro e w9 ⟨rfl, hb9⟩
  go_wp2_with fail
  go_ret
  exact ⟨rfl, bthen (bthen (bthen (bthen (bthen (Below.drew (bthen (Below.drew (Below.refl _ _)) hb2)) hb4) hb5) hb7) hb8) hb9⟩

set_option maxHeartbeats 1000000 in
set_option maxRecDepth 100000 in
set_option linter.unusedVariables false in
theorem once_oee (s : ByteArray) (a p q : Nat) (w : World) (x y e1 e2 e3 : Int) (t : ByteArray) (zs : List Int) (hs : s.size ≤ maxLen) (ha : a ≤ s.size)
    (hu : a + 8 ≤ s.size)
    (H1 : Hid (∀ w, Calls Try.prog 18 #[.string s, .int .i64 a] w fun e w' => e = .returned (.tuple #[.int .u64 x, .int .i64 ((a : Int) + 8), .int .i64 0]) ∧ w = w'))
    (H2 : Hid (∀ w, Calls Try.prog 20 #[.string s, .int .i64 a] w fun e w' => e = .returned (.tuple #[.int .i64 y, .int .i64 ((a : Int) + 8), .int .i64 0]) ∧ w = w'))
    (H3 : Hid (∀ w, Calls Try.prog 10 #[.int .u64 x] w fun e w' => e = .returned (.string (s.extract a (a + 8))) ∧ Below w.heap.size w w'))
    (H4 : Hid (∀ w, Calls Try.prog 12 #[.int .i64 y] w fun e w' => e = .returned (.string (s.extract a (a + 8))) ∧ Below w.heap.size w w'))
    (he2 : (e2 == 0) = false)
    (H5 : Hid (∀ w, Calls Try.prog 22 #[.string s, .int .i64 a] w fun e w' => e = .returned (.tuple #[.string ⟨#[]⟩, .int .i64 0, .int .i64 e2]) ∧ Below w.heap.size w w'))
    (he3 : (e3 != 0) = true)
    (H7 : Hid (∀ w, Calls Try.prog 24 #[.string s, .int .i64 a] w (ListRet w ([], 0, e3)))) :
    Calls Try.prog 7 #[.string s, .int .i64 a] w fun e w' => e = .returned (.bool true) ∧ Below w.heap.size w w' := by
  unfold maxLen at hs
  have h1 : ¬ ((a : Int) < 0) := by omega
  have h2 : ¬ ((s.size : Int) < (a : Int)) := by omega
  have hd1 : decide ((a : Int) < 0) = false := by simp
  have j0 : 0 ≤ (a : Int) + 8 := by omega
  have j1 : ((a : Int) + 8).toNat = a + 8 := by omega
  have j2 : (a : Int) + 8 ≤ (s.size : Int) := by omega
  have j3 : (a : Int) ≤ (a : Int) + 8 := by omega
  have sx : ((s.extract a (a + 8)).toList != (s.extract a (a + 8)).toList) = false := by simp
  go_enter Try.func7, Try.ntmps7
  go_wp2_with fail
  refine (H1.out _).mono ?_
  rintro e w1 ⟨rfl, rfl⟩
  go_wp2_with fail
  go_region_held3 (fun _ => True) (trivial) (first | (go_at_call 10; refine (H3.out _).mono ?_; rintro e w2 ⟨rfl, hb2⟩))
  go_wp2_with fail
  refine (H2.out _).mono ?_
  rintro e w3 ⟨rfl, rfl⟩
  go_wp2_with fail
  go_region_held3 (fun _ => True) (trivial) (first | (go_at_call 12; refine (H4.out _).mono ?_; rintro e w4 ⟨rfl, hb4⟩))
  go_wp2_with fail
  refine (H5.out _).mono ?_
  rintro e w5 ⟨rfl, hb5⟩
  go_wp2_with fail
  refine (H7.out _).mono ?_
  rintro e w7 ⟨v7, rfl, hown7, hb7⟩
  obtain ⟨ao, cp, rfl, _⟩ := sliceHas_of_own (zs := []) hown7
  clear hown7
  go_wp2_with fail
  refine (awake_any _).mono ?_
  rintro e w9 ⟨rfl, hb9⟩
  go_wp2_with fail
  go_ret
  exact ⟨rfl, bthen (bthen (bthen (bthen (Below.drew (bthen (Below.drew (Below.refl _ _)) hb2)) hb4) hb5) hb7) hb9⟩

set_option maxHeartbeats 1000000 in
set_option maxRecDepth 100000 in
set_option linter.unusedVariables false in
theorem once_eoo (s : ByteArray) (a p q : Nat) (w : World) (x y e1 e2 e3 : Int) (t : ByteArray) (zs : List Int) (hs : s.size ≤ maxLen) (ha : a ≤ s.size)
    (he1 : (e1 == 0) = false)
    (H1 : Hid (∀ w, Calls Try.prog 18 #[.string s, .int .i64 a] w fun e w' => e = .returned (.tuple #[.int .u64 0, .int .i64 0, .int .i64 e1]) ∧ w = w'))
    (H2 : Hid (∀ w, Calls Try.prog 20 #[.string s, .int .i64 a] w fun e w' => e = .returned (.tuple #[.int .i64 0, .int .i64 0, .int .i64 e1]) ∧ w = w'))
    (hp1 : a ≤ p) (hp2 : p ≤ s.size)
    (H5 : Hid (∀ w, Calls Try.prog 22 #[.string s, .int .i64 a] w fun e w' => e = .returned (.tuple #[.string t, .int .i64 p, .int .i64 0]) ∧ Below w.heap.size w w'))
    (H6 : Hid (∀ w, Calls Try.prog 14 #[.string t] w fun e w' => e = .returned (.tuple #[.string (s.extract a p), .int .i64 0]) ∧ Below w.heap.size w w'))
    (hq1 : a ≤ q) (hq2 : q ≤ s.size)
    (H7 : Hid (∀ w, Calls Try.prog 24 #[.string s, .int .i64 a] w (ListRet w (zs, (q : Int), 0)))) (H8 : Hid (listSpec zs = (s.extract a q, 0))) :
    Calls Try.prog 7 #[.string s, .int .i64 a] w fun e w' => e = .returned (.bool true) ∧ Below w.heap.size w w' := by
  unfold maxLen at hs
  have h1 : ¬ ((a : Int) < 0) := by omega
  have h2 : ¬ ((s.size : Int) < (a : Int)) := by omega
  have hd1 : decide ((a : Int) < 0) = false := by simp
  go_enter Try.func7, Try.ntmps7
  go_wp2_with fail
  refine (H1.out _).mono ?_
  rintro e w1 ⟨rfl, rfl⟩
  go_wp2_with fail
  go_quiet (fail)
  go_wp2_with fail
  refine (H2.out _).mono ?_
  rintro e w3 ⟨rfl, rfl⟩
  go_wp2_with fail
  go_quiet (fail)
  go_wp2_with fail
  refine (H5.out _).mono ?_
  rintro e w5 ⟨rfl, hb5⟩
  go_wp2_with fail
  refine (H6.out _).mono ?_
  rintro e w6 ⟨rfl, hb6⟩
  go_wp2_with fail
  refine (H7.out _).mono ?_
  rintro e w7 ⟨v7, rfl, hown7, hb7⟩
  have K := packList_any v7 zs w7 (sliceHas_of_own hown7)
  rw [H8.out] at K
  unfold textRet at K
  have KH := Lib.hid K
  clear K hown7
  go_wp2_with fail
  refine KH.out.mono ?_
  rintro e w8 ⟨rfl, hb8⟩
  go_wp2_with fail
  refine (awake_any _).mono ?_
  rintro e w9 ⟨rfl, hb9⟩
  go_wp2_with fail
  go_ret
  exact ⟨rfl, bthen (bthen (bthen (bthen (bthen (bdrewN (Below.refl _ _) _) hb5) hb6) hb7) hb8) hb9⟩

set_option maxHeartbeats 1000000 in
set_option maxRecDepth 100000 in
set_option linter.unusedVariables false in
theorem once_eoe (s : ByteArray) (a p q : Nat) (w : World) (x y e1 e2 e3 : Int) (t : ByteArray) (zs : List Int) (hs : s.size ≤ maxLen) (ha : a ≤ s.size)
    (he1 : (e1 == 0) = false)
    (H1 : Hid (∀ w, Calls Try.prog 18 #[.string s, .int .i64 a] w fun e w' => e = .returned (.tuple #[.int .u64 0, .int .i64 0, .int .i64 e1]) ∧ w = w'))
    (H2 : Hid (∀ w, Calls Try.prog 20 #[.string s, .int .i64 a] w fun e w' => e = .returned (.tuple #[.int .i64 0, .int .i64 0, .int .i64 e1]) ∧ w = w'))
    (hp1 : a ≤ p) (hp2 : p ≤ s.size)
    (H5 : Hid (∀ w, Calls Try.prog 22 #[.string s, .int .i64 a] w fun e w' => e = .returned (.tuple #[.string t, .int .i64 p, .int .i64 0]) ∧ Below w.heap.size w w'))
    (H6 : Hid (∀ w, Calls Try.prog 14 #[.string t] w fun e w' => e = .returned (.tuple #[.string (s.extract a p), .int .i64 0]) ∧ Below w.heap.size w w'))
    (he3 : (e3 != 0) = true)
    (H7 : Hid (∀ w, Calls Try.prog 24 #[.string s, .int .i64 a] w (ListRet w ([], 0, e3)))) :
    Calls Try.prog 7 #[.string s, .int .i64 a] w fun e w' => e = .returned (.bool true) ∧ Below w.heap.size w w' := by
  unfold maxLen at hs
  have h1 : ¬ ((a : Int) < 0) := by omega
  have h2 : ¬ ((s.size : Int) < (a : Int)) := by omega
  have hd1 : decide ((a : Int) < 0) = false := by simp
  go_enter Try.func7, Try.ntmps7
  go_wp2_with fail
  refine (H1.out _).mono ?_
  rintro e w1 ⟨rfl, rfl⟩
  go_wp2_with fail
  go_quiet (fail)
  go_wp2_with fail
  refine (H2.out _).mono ?_
  rintro e w3 ⟨rfl, rfl⟩
  go_wp2_with fail
  go_quiet (fail)
  go_wp2_with fail
  refine (H5.out _).mono ?_
  rintro e w5 ⟨rfl, hb5⟩
  go_wp2_with fail
  refine (H6.out _).mono ?_
  rintro e w6 ⟨rfl, hb6⟩
  go_wp2_with fail
  refine (H7.out _).mono ?_
  rintro e w7 ⟨v7, rfl, hown7, hb7⟩
  obtain ⟨ao, cp, rfl, _⟩ := sliceHas_of_own (zs := []) hown7
  clear hown7
  go_wp2_with fail
  refine (awake_any _).mono ?_
  rintro e w9 ⟨rfl, hb9⟩
  go_wp2_with fail
  go_ret
  exact ⟨rfl, bthen (bthen (bthen (bthen (bdrewN (Below.refl _ _) _) hb5) hb6) hb7) hb9⟩

set_option maxHeartbeats 1000000 in
set_option maxRecDepth 100000 in
set_option linter.unusedVariables false in
theorem once_eeo (s : ByteArray) (a p q : Nat) (w : World) (x y e1 e2 e3 : Int) (t : ByteArray) (zs : List Int) (hs : s.size ≤ maxLen) (ha : a ≤ s.size)
    (he1 : (e1 == 0) = false)
    (H1 : Hid (∀ w, Calls Try.prog 18 #[.string s, .int .i64 a] w fun e w' => e = .returned (.tuple #[.int .u64 0, .int .i64 0, .int .i64 e1]) ∧ w = w'))
    (H2 : Hid (∀ w, Calls Try.prog 20 #[.string s, .int .i64 a] w fun e w' => e = .returned (.tuple #[.int .i64 0, .int .i64 0, .int .i64 e1]) ∧ w = w'))
    (he2 : (e2 == 0) = false)
    (H5 : Hid (∀ w, Calls Try.prog 22 #[.string s, .int .i64 a] w fun e w' => e = .returned (.tuple #[.string ⟨#[]⟩, .int .i64 0, .int .i64 e2]) ∧ Below w.heap.size w w'))
    (hq1 : a ≤ q) (hq2 : q ≤ s.size)
    (H7 : Hid (∀ w, Calls Try.prog 24 #[.string s, .int .i64 a] w (ListRet w (zs, (q : Int), 0)))) (H8 : Hid (listSpec zs = (s.extract a q, 0))) :
    Calls Try.prog 7 #[.string s, .int .i64 a] w fun e w' => e = .returned (.bool true) ∧ Below w.heap.size w w' := by
  unfold maxLen at hs
  have h1 : ¬ ((a : Int) < 0) := by omega
  have h2 : ¬ ((s.size : Int) < (a : Int)) := by omega
  have hd1 : decide ((a : Int) < 0) = false := by simp
  go_enter Try.func7, Try.ntmps7
  go_wp2_with fail
  refine (H1.out _).mono ?_
  rintro e w1 ⟨rfl, rfl⟩
  go_wp2_with fail
  go_quiet (fail)
  go_wp2_with fail
  refine (H2.out _).mono ?_
  rintro e w3 ⟨rfl, rfl⟩
  go_wp2_with fail
  go_quiet (fail)
  go_wp2_with fail
  refine (H5.out _).mono ?_
  rintro e w5 ⟨rfl, hb5⟩
  go_wp2_with fail
  refine (H7.out _).mono ?_
  rintro e w7 ⟨v7, rfl, hown7, hb7⟩
  have K := packList_any v7 zs w7 (sliceHas_of_own hown7)
  rw [H8.out] at K
  unfold textRet at K
  have KH := Lib.hid K
  clear K hown7
  go_wp2_with fail
  refine KH.out.mono ?_
  rintro e w8 ⟨rfl, hb8⟩
  go_wp2_with fail
  refine (awake_any _).mono ?_
  rintro e w9 ⟨rfl, hb9⟩
  go_wp2_with fail
  go_ret
  exact ⟨rfl, bthen (bthen (bthen (bthen (bdrewN (Below.refl _ _) _) hb5) hb7) hb8) hb9⟩

set_option maxHeartbeats 1000000 in
set_option maxRecDepth 100000 in
set_option linter.unusedVariables false in
theorem once_eee (s : ByteArray) (a p q : Nat) (w : World) (x y e1 e2 e3 : Int) (t : ByteArray) (zs : List Int) (hs : s.size ≤ maxLen) (ha : a ≤ s.size)
    (he1 : (e1 == 0) = false)
    (H1 : Hid (∀ w, Calls Try.prog 18 #[.string s, .int .i64 a] w fun e w' => e = .returned (.tuple #[.int .u64 0, .int .i64 0, .int .i64 e1]) ∧ w = w'))
    (H2 : Hid (∀ w, Calls Try.prog 20 #[.string s, .int .i64 a] w fun e w' => e = .returned (.tuple #[.int .i64 0, .int .i64 0, .int .i64 e1]) ∧ w = w'))
    (he2 : (e2 == 0) = false)
    (H5 : Hid (∀ w, Calls Try.prog 22 #[.string s, .int .i64 a] w fun e w' => e = .returned (.tuple #[.string ⟨#[]⟩, .int .i64 0, .int .i64 e2]) ∧ Below w.heap.size w w'))
    (he3 : (e3 != 0) = true)
    (H7 : Hid (∀ w, Calls Try.prog 24 #[.string s, .int .i64 a] w (ListRet w ([], 0, e3)))) :
    Calls Try.prog 7 #[.string s, .int .i64 a] w fun e w' => e = .returned (.bool true) ∧ Below w.heap.size w w' := by
  unfold maxLen at hs
  have h1 : ¬ ((a : Int) < 0) := by omega
  have h2 : ¬ ((s.size : Int) < (a : Int)) := by omega
  have hd1 : decide ((a : Int) < 0) = false := by simp
  go_enter Try.func7, Try.ntmps7
  go_wp2_with fail
  refine (H1.out _).mono ?_
  rintro e w1 ⟨rfl, rfl⟩
  go_wp2_with fail
  go_quiet (fail)
  go_wp2_with fail
  refine (H2.out _).mono ?_
  rintro e w3 ⟨rfl, rfl⟩
  go_wp2_with fail
  go_quiet (fail)
  go_wp2_with fail
  refine (H5.out _).mono ?_
  rintro e w5 ⟨rfl, hb5⟩
  go_wp2_with fail
  refine (H7.out _).mono ?_
  rintro e w7 ⟨v7, rfl, hown7, hb7⟩
  obtain ⟨ao, cp, rfl, _⟩ := sliceHas_of_own (zs := []) hown7
  clear hown7
  go_wp2_with fail
  refine (awake_any _).mono ?_
  rintro e w9 ⟨rfl, hb9⟩
  go_wp2_with fail
  go_ret
  exact ⟨rfl, bthen (bthen (bthen (bdrewN (Below.refl _ _) _) hb5) hb7) hb9⟩


set_option maxHeartbeats 400000 in
theorem once_out (s : ByteArray) (a : Int) (w : World) (hs : s.size ≤ maxLen) (hw1 : -9223372036854775808 ≤ a) (hw2 : a ≤ 9223372036854775807) (h : a < 0 ∨ (s.size : Int) < a) :
    Calls Try.prog 7 #[.string s, .int .i64 a] w fun e w' => e = .returned (.bool true) ∧ Below w.heap.size w w' := by
  unfold maxLen at hs
  rcases h with h | h
  all_goals
    go_enter Try.func7, Try.ntmps7
    go_wp2_with fail
    refine (awake_any _).mono ?_
    rintro e w1 ⟨rfl, hb1⟩
    go_wp2_with fail
    go_ret
    exact ⟨rfl, hb1⟩

theorem rdSpec_bad (s : ByteArray) (a : Nat) (ha : a ≤ s.size) (h : ¬ a + 8 ≤ s.size) : rdSpec s a 8 = (0, 0, 5) := by
  unfold rdSpec; rw [if_neg (by omega), if_pos (by omega)]
theorem rdSpec_good (s : ByteArray) (a : Nat) (h : a + 8 ≤ s.size) : rdSpec s a 8 = (rdI s a 8, (a : Int) + 8, 0) := by
  unfold rdSpec; rw [if_neg (by omega), if_neg (by omega), Int.toNat_natCast]; rfl

/-- the count at a place: an error, or n items, all there -/
theorem rc_cases (s : ByteArray) (a : Nat) (ha : a ≤ s.size) (most sz : Nat) : (∃ e : Int, e ≠ 0 ∧ rcSpec s a most sz = (0, 0, e)) ∨
    ∃ n : Nat, (n : Int) = rdI s a 2 ∧ n ≤ most ∧ a + 2 + n * sz ≤ s.size ∧ rcSpec s a most sz = ((n : Int), (a : Int) + 2, 0) := by
  have hb := rdI_bd s a 2
  obtain ⟨n, hn⟩ := Int.eq_ofNat_of_zero_le hb.1
  unfold rcSpec rdSpec
  rw [if_neg (by omega), Int.toNat_natCast]
  by_cases h1 : (s.size : Int) - (a : Int) < ((2 : Nat) : Int)
  · rw [if_pos h1]; exact .inl ⟨5, by omega, rfl⟩
  · rw [if_neg h1, hn]
    unfold rcOf
    rw [if_neg (by simp)]
    simp only
    by_cases h2 : (most : Int) < (n : Int)
    · rw [if_pos h2]; exact .inl ⟨4, by omega, rfl⟩
    · rw [if_neg h2]
      by_cases h3 : (s.size : Int) - ((a : Int) + ((2 : Nat) : Int)) < (n : Int) * (sz : Int)
      · rw [if_pos h3]; exact .inl ⟨5, by omega, rfl⟩
      · rw [if_neg h3]
        refine .inr ⟨n, rfl, by omega, ?_, rfl⟩
        have : ((n * sz : Nat) : Int) = (n : Int) * (sz : Int) := by simp
        omega

theorem packOnce_walk (s : ByteArray) (a : Int) (w : World) (hs : s.size ≤ maxLen) (ha : (Lit.int .i64 a).wf = true) :
    Calls Try.prog 7 #[.string s, .int .i64 a] w fun e w' => e = .returned (.bool true) ∧ Below w.heap.size w w' := by
  have hw := i64_bd ha
  by_cases hout : a < 0 ∨ (s.size : Int) < a
  · exact once_out s a w hs hw.1 hw.2 hout
  obtain ⟨b, rfl⟩ := Int.eq_ofNat_of_zero_le (show 0 ≤ a by omega)
  have hb : b ≤ s.size := by omega
  have H1 := readU_any s b hs hw
  have H2 := readI_any s b hs hw
  have H5 := readText_any s b hs hw
  have H7 := readList_any s b hs hw
  unfold rtSpec at H5
  unfold rlSpec at H7
  have c5 := rc_cases s b hb 4096 1
  have c7 := rc_cases s b hb 512 8
  rw [show ((4096 : Nat) : Int) = 4096 from rfl, show ((1 : Nat) : Int) = 1 from rfl] at c5
  rw [show ((512 : Nat) : Int) = 512 from rfl, show ((8 : Nat) : Int) = 8 from rfl] at c7
  -- the text
  have T : (∃ e2 : Int, (e2 == 0) = false ∧ ∀ w, Calls Try.prog 22 #[.string s, .int .i64 b] w fun e w' => e = .returned (.tuple #[.string ⟨#[]⟩, .int .i64 0, .int .i64 e2]) ∧ Below w.heap.size w w') ∨
      ∃ (p : Nat) (t : ByteArray), b ≤ p ∧ p ≤ s.size ∧ (∀ w, Calls Try.prog 22 #[.string s, .int .i64 b] w fun e w' => e = .returned (.tuple #[.string t, .int .i64 p, .int .i64 0]) ∧ Below w.heap.size w w') ∧
        ∀ w, Calls Try.prog 14 #[.string t] w fun e w' => e = .returned (.tuple #[.string (s.extract b p), .int .i64 0]) ∧ Below w.heap.size w w' := by
    rcases c5 with ⟨e2, h0, hr⟩ | ⟨n, hn, hm, hz, hr⟩
    · rw [hr] at H5
      have E : rtOf s (0, 0, e2) = (⟨#[]⟩, 0, e2) := by unfold rtOf; rw [if_pos h0]
      rw [E] at H5
      exact .inl ⟨e2, by simp [h0], H5⟩
    · rw [hr] at H5
      have E : rtOf s ((n : Int), (b : Int) + 2, 0) = (s.extract (b + 2) (b + 2 + n), ((b + 2 + n : Nat) : Int), 0) := by
        unfold rtOf; rw [if_neg (by simp)]
        simp only
        rw [show ((b : Int) + 2).toNat = b + 2 from by omega, show ((b : Int) + 2 + (n : Int)).toNat = b + 2 + n from by omega, show (b : Int) + 2 + (n : Int) = ((b + 2 + n : Nat) : Int) from by omega]
      rw [E] at H5
      refine .inr ⟨b + 2 + n, s.extract (b + 2) (b + 2 + n), by omega, by omega, H5, fun w => ?_⟩
      have hsz : (s.extract (b + 2) (b + 2 + n)).size = n := by rw [ByteArray.size_extract]; omega
      have K := packText (s.extract (b + 2) (b + 2 + n)) (by rw [hsz]; unfold maxLen; omega) w
      have E2 : textSpec (s.extract (b + 2) (b + 2 + n)) = (s.extract b (b + 2 + n), 0) := by
        unfold textSpec
        rw [hsz, if_neg (by omega), once_text s b n (by omega) hn]
      rw [E2] at K
      exact K
  -- the list
  have L : (∃ e3 : Int, (e3 != 0) = true ∧ ∀ w, Calls Try.prog 24 #[.string s, .int .i64 b] w (ListRet w ([], 0, e3))) ∨
      ∃ (q : Nat) (zs : List Int), b ≤ q ∧ q ≤ s.size ∧ (∀ w, Calls Try.prog 24 #[.string s, .int .i64 b] w (ListRet w (zs, (q : Int), 0))) ∧ listSpec zs = (s.extract b q, 0) := by
    rcases c7 with ⟨e3, h0, hr⟩ | ⟨n, hn, hm, hz, hr⟩
    · rw [hr] at H7
      have E : rlOf s (0, 0, e3) = ([], 0, e3) := by unfold rlOf; rw [if_pos h0]
      rw [E] at H7
      exact .inl ⟨e3, by simp [h0], H7⟩
    · rw [hr] at H7
      have E : rlOf s ((n : Int), (b : Int) + 2, 0) = (rlNums s (b + 2) n, ((b + 2 + 8 * n : Nat) : Int), 0) := by
        unfold rlOf; rw [if_neg (by simp)]
        simp only
        rw [show ((b : Int) + 2).toNat = b + 2 from by omega, Int.toNat_natCast, show (b : Int) + 2 + 8 * (n : Int) = ((b + 2 + 8 * n : Nat) : Int) from by omega]
      rw [E] at H7
      refine .inr ⟨b + 2 + 8 * n, _, by omega, by omega, H7, ?_⟩
      unfold listSpec
      rw [rlNums_len, if_neg (by omega), once_list s b n (by omega) hn]
  clear H5 H7 c5 c7
  by_cases hu : b + 8 ≤ s.size
  · rw [rdSpec_good s b hu] at H1 H2
    have H3 := packU (rdI s b 8)
    have H4 := packI (unflip63 (rdI s b 8))
    rw [once_u s b hu] at H3
    rw [flip_unflip _ (rdI_bd s b 8).1 (rdI8_bd s b), once_u s b hu] at H4
    have E : rdISpec (rdI s b 8, (b : Int) + 8, 0) = (unflip63 (rdI s b 8), (b : Int) + 8, 0) := by unfold rdISpec; rw [if_pos rfl]
    rw [E] at H2
    rcases T with ⟨e2, g2, T5⟩ | ⟨p, t, p1, p2, T5, T6⟩
    · rcases L with ⟨e3, g3, L7⟩ | ⟨q, zs, q1, q2, L7, L8⟩
      · exact once_oee s b 0 0 w _ _ 0 e2 e3 ⟨#[]⟩ [] hs hb hu H1 H2 H3 H4 g2 T5 g3 L7
      · exact once_oeo s b 0 q w _ _ 0 e2 0 ⟨#[]⟩ zs hs hb hu H1 H2 H3 H4 g2 T5 q1 q2 L7 L8
    · rcases L with ⟨e3, g3, L7⟩ | ⟨q, zs, q1, q2, L7, L8⟩
      · exact once_ooe s b p 0 w _ _ 0 0 e3 t [] hs hb hu H1 H2 H3 H4 p1 p2 T5 T6 g3 L7
      · exact once_ooo s b p q w _ _ 0 0 0 t zs hs hb hu H1 H2 H3 H4 p1 p2 T5 T6 q1 q2 L7 L8
  · rw [rdSpec_bad s b hb hu] at H1 H2
    have E : rdISpec (0, 0, 5) = (0, 0, 5) := rfl
    rw [E] at H2
    rcases T with ⟨e2, g2, T5⟩ | ⟨p, t, p1, p2, T5, T6⟩
    · rcases L with ⟨e3, g3, L7⟩ | ⟨q, zs, q1, q2, L7, L8⟩
      · exact once_eee s b 0 0 w 0 0 5 e2 e3 ⟨#[]⟩ [] hs hb rfl H1 H2 g2 T5 g3 L7
      · exact once_eeo s b 0 q w 0 0 5 e2 0 ⟨#[]⟩ zs hs hb rfl H1 H2 g2 T5 q1 q2 L7 L8
    · rcases L with ⟨e3, g3, L7⟩ | ⟨q, zs, q1, q2, L7, L8⟩
      · exact once_eoe s b p 0 w 0 0 5 0 e3 t [] hs hb rfl H1 H2 p1 p2 T5 T6 g3 L7
      · exact once_eoo s b p q w 0 0 5 0 0 t zs hs hb rfl H1 H2 p1 p2 T5 T6 q1 q2 L7 L8

end Go.Proofs.Ytcbpekliijbhoaa
