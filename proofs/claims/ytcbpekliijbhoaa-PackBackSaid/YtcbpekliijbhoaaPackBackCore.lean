/- The walk of the law PackBack: what was laid is read as it was, whatever stands ahead of it and behind. -/
import Derived.Test.YtcbpekliijbhoaaPackBackMath
import Derived.Deep.RegionHeld3
namespace Go.Proofs.Ytcbpekliijbhoaa
open Go.RowKit

/-- the six cells of the law's boxed argument -/
def Box6 (B : Nat) (A C : ByteArray) (n m : Int) (T : ByteArray) (v : Value) (w : World) : Prop :=
  B < w.heap.size ∧ w.cell? ⟨B, 0, none⟩ = some (.string A) ∧ w.cell? ⟨B, 1, none⟩ = some (.string C) ∧ w.cell? ⟨B, 2, none⟩ = some (.int .u64 n) ∧ w.cell? ⟨B, 3, none⟩ = some (.int .i64 m) ∧ w.cell? ⟨B, 4, none⟩ = some (.string T) ∧ w.cell? ⟨B, 5, none⟩ = some v

theorem box6_below {B : Nat} {A C : ByteArray} {n m : Int} {T : ByteArray} {v : Value} {w w' : World} (h : Box6 B A C n m T v w) (hb : Below w.heap.size w w') : Box6 B A C n m T v w' := by
  obtain ⟨h, c0, c1, c2, c3, c4, c5⟩ := h
  refine ⟨Nat.lt_of_lt_of_le h hb.size, ?_, ?_, ?_, ?_, ?_, ?_⟩
  · rw [hb.cell (p := ⟨B, 0, none⟩) h]; exact c0
  · rw [hb.cell (p := ⟨B, 1, none⟩) h]; exact c1
  · rw [hb.cell (p := ⟨B, 2, none⟩) h]; exact c2
  · rw [hb.cell (p := ⟨B, 3, none⟩) h]; exact c3
  · rw [hb.cell (p := ⟨B, 4, none⟩) h]; exact c4
  · rw [hb.cell (p := ⟨B, 5, none⟩) h]; exact c5
theorem box6_new (A C : ByteArray) (n m : Int) (T : ByteArray) (v : Value) (w : World) (ty : TypeId) : Box6 w.heap.size A C n m T v (w.alloc (.cells #[.string A, .string C, .int .u64 n, .int .i64 m, .string T, v] ty)) := by
  refine ⟨by simp, ?_, ?_, ?_, ?_, ?_, ?_⟩ <;> simp
theorem box6_drew {B : Nat} {A C : ByteArray} {n m : Int} {T : ByteArray} {v : Value} {w : World} (h : Box6 B A C n m T v w) : Box6 B A C n m T v w.drew := h

set_option maxHeartbeats 2000000 in
set_option maxRecDepth 100000 in
set_option linter.unusedVariables false in
theorem back_oo (A C T : ByteArray) (n m : Int) (ao : Option Addr) (len cap : Nat) (zs : List Int) (w : World) (xu xi xt xl : ByteArray)
    (hA : A.size ≤ 5000) (hC : C.size ≤ 5000) (hl : len ≤ 600) (zu : xu.size ≤ 8) (zi : xi.size ≤ 8) (hS : SliceHas w (.slice ao len cap) zs)
    (H1 : Hid (∀ w, Calls Try.prog 10 #[.int .u64 n] w fun e w' => e = .returned (.string xu) ∧ Below w.heap.size w w'))
    (H2 : Hid (∀ w, Calls Try.prog 18 #[.string (A ++ xu ++ C), .int .i64 A.size] w fun e w' => e = .returned (.tuple #[.int .u64 n, .int .i64 ((A.size : Int) + 8), .int .i64 0]) ∧ w = w'))
    (H3 : Hid (∀ w, Calls Try.prog 12 #[.int .i64 m] w fun e w' => e = .returned (.string xi) ∧ Below w.heap.size w w'))
    (H4 : Hid (∀ w, Calls Try.prog 20 #[.string (A ++ xi ++ C), .int .i64 A.size] w fun e w' => e = .returned (.tuple #[.int .i64 m, .int .i64 ((A.size : Int) + 8), .int .i64 0]) ∧ w = w'))
    (zt : xt.size ≤ 5000)
    (H5 : Hid (∀ w, Calls Try.prog 14 #[.string T] w fun e w' => e = .returned (.tuple #[.string xt, .int .i64 0]) ∧ Below w.heap.size w w'))
    (H6 : Hid (∀ w, Calls Try.prog 22 #[.string (A ++ xt ++ C), .int .i64 A.size] w fun e w' => e = .returned (.tuple #[.string T, .int .i64 ((A.size : Int) + (xt.size : Int)), .int .i64 0]) ∧ Below w.heap.size w w'))
    (zl : xl.size ≤ 5000) (H7 : Hid (listSpec zs = (xl, 0)))
    (H8 : Hid (∀ w, Calls Try.prog 24 #[.string (A ++ xl ++ C), .int .i64 A.size] w (ListRet w (zs, (A.size : Int) + (xl.size : Int), 0)))) :
    Calls Try.prog 6 #[.agg #[.string A, .string C, .int .u64 n, .int .i64 m, .string T, .slice ao len cap]] w fun e w' => e = .returned (.bool true) ∧ Below w.heap.size w w' := by
  have HS := Lib.hid hS
  clear hS
  have k1 : (A ++ xu).size ≤ 5008 := by rw [ByteArray.size_append]; omega
  have k2 : (A ++ xi).size ≤ 5008 := by rw [ByteArray.size_append]; omega
  have v_xu : ¬ 9223372036854775807 < A.size + xu.size := by omega
  have v_xi : ¬ 9223372036854775807 < A.size + xi.size := by omega
  have v_xt : ¬ 9223372036854775807 < A.size + xt.size := by omega
  have v_xl : ¬ 9223372036854775807 < A.size + xl.size := by omega
  have k3 : (A ++ xt).size ≤ 10000 := by rw [ByteArray.size_append]; omega
  have q1 : (T.toList != T.toList) = false := by simp
  have k4 : (A ++ xl).size ≤ 10000 := by rw [ByteArray.size_append]; omega
  have s_xu : ¬ 9223372036854775807 < (A ++ xu).size + C.size := by omega
  have r_xu : ¬ 9223372036854775807 < A.size + xu.size + C.size := by omega
  have s_xi : ¬ 9223372036854775807 < (A ++ xi).size + C.size := by omega
  have r_xi : ¬ 9223372036854775807 < A.size + xi.size + C.size := by omega
  have s_xt : ¬ 9223372036854775807 < (A ++ xt).size + C.size := by omega
  have r_xt : ¬ 9223372036854775807 < A.size + xt.size + C.size := by omega
  have s_xl : ¬ 9223372036854775807 < (A ++ xl).size + C.size := by omega
  have r_xl : ¬ 9223372036854775807 < A.size + xl.size + C.size := by omega
  have d1 : decide ((5000 : Int) < (A.size : Int)) = false := by simp; omega
  have d2 : decide ((5000 : Int) < (C.size : Int)) = false := by simp; omega
  have d3 : decide ((600 : Int) < (len : Int)) = false := by simp; omega
  go_enter Try.func6, Try.ntmps6
  go_wp2_with fail
  have X0 := box6_new A C n m T (.slice ao len cap) w 44
  have Y0 := Lib.hid (balloc w (.cells #[.string A, .string C, .int .u64 n, .int .i64 m, .string T, .slice ao len cap] 44))
  generalize w.alloc (.cells #[.string A, .string C, .int .u64 n, .int .i64 m, .string T, .slice ao len cap] 44) = W at X0 Y0 ⊢
  have XH0 := Lib.hid X0
  obtain ⟨_, c0, c1, c2, c3, c4, c5⟩ := X0
  go_region_held3 (fun w' => w'.cell? ⟨w.heap.size, 0, none⟩ = some (.string A) ∧ w'.cell? ⟨w.heap.size, 1, none⟩ = some (.string C) ∧ w'.cell? ⟨w.heap.size, 2, none⟩ = some (.int .u64 n)) (go_keep) (first | (go_at_call 10; refine (H1.out _).mono ?_; rintro e w1 ⟨rfl, hb1⟩; have X1 := box6_below (box6_drew XH0.out) hb1; have XH1 := Lib.hid X1; obtain ⟨_, u0, u1, u2, u3, u4, u5⟩ := X1) | (go_at_call 18; refine (H2.out _).mono ?_; rintro e w9 ⟨rfl, rfl⟩))
  have Y1 := Lib.hid (bthen (Below.drew Y0.out) hb1)
  clear c0 c1 c2 c3 c4 c5
  go_wp2_with fail
  go_region_held3 (fun w' => w'.cell? ⟨w.heap.size, 0, none⟩ = some (.string A) ∧ w'.cell? ⟨w.heap.size, 1, none⟩ = some (.string C) ∧ w'.cell? ⟨w.heap.size, 3, none⟩ = some (.int .i64 m)) (go_keep) (first | (go_at_call 12; refine (H3.out _).mono ?_; rintro e w2 ⟨rfl, hb2⟩; have X2 := box6_below (box6_drew XH1.out) hb2; have XH2 := Lib.hid X2; obtain ⟨_, c0, c1, c2, c3, c4, c5⟩ := X2) | (go_at_call 20; refine (H4.out _).mono ?_; rintro e w9 ⟨rfl, rfl⟩))
  have Y2 := Lib.hid (bthen (Below.drew Y1.out) hb2)
  clear u0 u1 u2 u3 u4 u5 hb1 hb2
  go_wp2_with fail
  refine (H5.out _).mono ?_
  rintro e w3 ⟨rfl, hb3⟩
  have X3 := box6_below XH2.out hb3
  have XH3 := Lib.hid X3
  obtain ⟨_, u0, u1, u2, u3, u4, u5⟩ := X3
  have Y3 := Lib.hid (bthen Y2.out hb3)
  clear c0 c1 c2 c3 c4 c5
  go_wp2_with fail
  refine (H6.out _).mono ?_
  rintro e w4 ⟨rfl, hb4⟩
  have X4 := box6_below XH3.out hb4
  have XH4 := Lib.hid X4
  obtain ⟨_, c0, c1, c2, c3, c4, c5⟩ := X4
  have Y4 := Lib.hid (bthen Y3.out hb4)
  clear u0 u1 u2 u3 u4 u5
  go_wp2_with fail
  have K := packList_any (.slice ao len cap) zs w4 (sliceHas_below HS.out Y4.out)
  rw [H7.out] at K
  unfold textRet at K
  refine K.mono ?_
  clear K
  rintro e w5 ⟨rfl, hb5⟩
  have X5 := box6_below XH4.out hb5
  have XH5 := Lib.hid X5
  obtain ⟨_, g0, g1, g2, g3, g4, g5⟩ := X5
  have Y5 := Lib.hid (bthen Y4.out hb5)
  clear c0 c1 c2 c3 c4 c5
  go_wp2_with fail
  refine (H8.out _).mono ?_
  rintro e w6 ⟨v6, rfl, hown6, hb6⟩
  have X6 := box6_below XH5.out hb6
  obtain ⟨_, f0, f1, f2, f3, f4, f5⟩ := X6
  have Y6 := Lib.hid (bthen Y5.out hb6)
  have S6 := Lib.hid (sliceHas_of_own hown6)
  clear g0 g1 g2 g3 g4 g5 hown6
  go_wp2_with fail
  refine (ints_any S6.out (sliceHas_below HS.out Y6.out)).mono ?_
  rintro e w7 ⟨rfl, hb7⟩
  go_wp2_with fail
  refine (awake_any _).mono ?_
  rintro e w8 ⟨rfl, hb8⟩
  go_wp2_with fail
  go_ret
  exact ⟨rfl, bthen (bthen Y6.out hb7) hb8⟩

set_option maxHeartbeats 2000000 in
set_option maxRecDepth 100000 in
set_option linter.unusedVariables false in
theorem back_oe (A C T : ByteArray) (n m : Int) (ao : Option Addr) (len cap : Nat) (zs : List Int) (w : World) (xu xi xt xl : ByteArray)
    (hA : A.size ≤ 5000) (hC : C.size ≤ 5000) (hl : len ≤ 600) (zu : xu.size ≤ 8) (zi : xi.size ≤ 8) (hS : SliceHas w (.slice ao len cap) zs)
    (H1 : Hid (∀ w, Calls Try.prog 10 #[.int .u64 n] w fun e w' => e = .returned (.string xu) ∧ Below w.heap.size w w'))
    (H2 : Hid (∀ w, Calls Try.prog 18 #[.string (A ++ xu ++ C), .int .i64 A.size] w fun e w' => e = .returned (.tuple #[.int .u64 n, .int .i64 ((A.size : Int) + 8), .int .i64 0]) ∧ w = w'))
    (H3 : Hid (∀ w, Calls Try.prog 12 #[.int .i64 m] w fun e w' => e = .returned (.string xi) ∧ Below w.heap.size w w'))
    (H4 : Hid (∀ w, Calls Try.prog 20 #[.string (A ++ xi ++ C), .int .i64 A.size] w fun e w' => e = .returned (.tuple #[.int .i64 m, .int .i64 ((A.size : Int) + 8), .int .i64 0]) ∧ w = w'))
    (zt : xt.size ≤ 5000)
    (H5 : Hid (∀ w, Calls Try.prog 14 #[.string T] w fun e w' => e = .returned (.tuple #[.string xt, .int .i64 0]) ∧ Below w.heap.size w w'))
    (H6 : Hid (∀ w, Calls Try.prog 22 #[.string (A ++ xt ++ C), .int .i64 A.size] w fun e w' => e = .returned (.tuple #[.string T, .int .i64 ((A.size : Int) + (xt.size : Int)), .int .i64 0]) ∧ Below w.heap.size w w'))
    (H7 : Hid (listSpec zs = (⟨#[]⟩, 4))) :
    Calls Try.prog 6 #[.agg #[.string A, .string C, .int .u64 n, .int .i64 m, .string T, .slice ao len cap]] w fun e w' => e = .returned (.bool true) ∧ Below w.heap.size w w' := by
  have HS := Lib.hid hS
  clear hS
  have k1 : (A ++ xu).size ≤ 5008 := by rw [ByteArray.size_append]; omega
  have k2 : (A ++ xi).size ≤ 5008 := by rw [ByteArray.size_append]; omega
  have v_xu : ¬ 9223372036854775807 < A.size + xu.size := by omega
  have v_xi : ¬ 9223372036854775807 < A.size + xi.size := by omega
  have v_xt : ¬ 9223372036854775807 < A.size + xt.size := by omega
  have k3 : (A ++ xt).size ≤ 10000 := by rw [ByteArray.size_append]; omega
  have q1 : (T.toList != T.toList) = false := by simp
  have s_xu : ¬ 9223372036854775807 < (A ++ xu).size + C.size := by omega
  have r_xu : ¬ 9223372036854775807 < A.size + xu.size + C.size := by omega
  have s_xi : ¬ 9223372036854775807 < (A ++ xi).size + C.size := by omega
  have r_xi : ¬ 9223372036854775807 < A.size + xi.size + C.size := by omega
  have s_xt : ¬ 9223372036854775807 < (A ++ xt).size + C.size := by omega
  have r_xt : ¬ 9223372036854775807 < A.size + xt.size + C.size := by omega
  have d1 : decide ((5000 : Int) < (A.size : Int)) = false := by simp; omega
  have d2 : decide ((5000 : Int) < (C.size : Int)) = false := by simp; omega
  have d3 : decide ((600 : Int) < (len : Int)) = false := by simp; omega
  go_enter Try.func6, Try.ntmps6
  go_wp2_with fail
  have X0 := box6_new A C n m T (.slice ao len cap) w 44
  have Y0 := Lib.hid (balloc w (.cells #[.string A, .string C, .int .u64 n, .int .i64 m, .string T, .slice ao len cap] 44))
  generalize w.alloc (.cells #[.string A, .string C, .int .u64 n, .int .i64 m, .string T, .slice ao len cap] 44) = W at X0 Y0 ⊢
  have XH0 := Lib.hid X0
  obtain ⟨_, c0, c1, c2, c3, c4, c5⟩ := X0
  go_region_held3 (fun w' => w'.cell? ⟨w.heap.size, 0, none⟩ = some (.string A) ∧ w'.cell? ⟨w.heap.size, 1, none⟩ = some (.string C) ∧ w'.cell? ⟨w.heap.size, 2, none⟩ = some (.int .u64 n)) (go_keep) (first | (go_at_call 10; refine (H1.out _).mono ?_; rintro e w1 ⟨rfl, hb1⟩; have X1 := box6_below (box6_drew XH0.out) hb1; have XH1 := Lib.hid X1; obtain ⟨_, u0, u1, u2, u3, u4, u5⟩ := X1) | (go_at_call 18; refine (H2.out _).mono ?_; rintro e w9 ⟨rfl, rfl⟩))
  have Y1 := Lib.hid (bthen (Below.drew Y0.out) hb1)
  clear c0 c1 c2 c3 c4 c5
  go_wp2_with fail
  go_region_held3 (fun w' => w'.cell? ⟨w.heap.size, 0, none⟩ = some (.string A) ∧ w'.cell? ⟨w.heap.size, 1, none⟩ = some (.string C) ∧ w'.cell? ⟨w.heap.size, 3, none⟩ = some (.int .i64 m)) (go_keep) (first | (go_at_call 12; refine (H3.out _).mono ?_; rintro e w2 ⟨rfl, hb2⟩; have X2 := box6_below (box6_drew XH1.out) hb2; have XH2 := Lib.hid X2; obtain ⟨_, c0, c1, c2, c3, c4, c5⟩ := X2) | (go_at_call 20; refine (H4.out _).mono ?_; rintro e w9 ⟨rfl, rfl⟩))
  have Y2 := Lib.hid (bthen (Below.drew Y1.out) hb2)
  clear u0 u1 u2 u3 u4 u5 hb1 hb2
  go_wp2_with fail
  refine (H5.out _).mono ?_
  rintro e w3 ⟨rfl, hb3⟩
  have X3 := box6_below XH2.out hb3
  have XH3 := Lib.hid X3
  obtain ⟨_, u0, u1, u2, u3, u4, u5⟩ := X3
  have Y3 := Lib.hid (bthen Y2.out hb3)
  clear c0 c1 c2 c3 c4 c5
  go_wp2_with fail
  refine (H6.out _).mono ?_
  rintro e w4 ⟨rfl, hb4⟩
  have X4 := box6_below XH3.out hb4
  have XH4 := Lib.hid X4
  obtain ⟨_, c0, c1, c2, c3, c4, c5⟩ := X4
  have Y4 := Lib.hid (bthen Y3.out hb4)
  clear u0 u1 u2 u3 u4 u5
  go_wp2_with fail
  have K := packList_any (.slice ao len cap) zs w4 (sliceHas_below HS.out Y4.out)
  rw [H7.out] at K
  unfold textRet at K
  refine K.mono ?_
  clear K
  rintro e w5 ⟨rfl, hb5⟩
  have X5 := box6_below XH4.out hb5
  have XH5 := Lib.hid X5
  obtain ⟨_, g0, g1, g2, g3, g4, g5⟩ := X5
  have Y5 := Lib.hid (bthen Y4.out hb5)
  clear c0 c1 c2 c3 c4 c5
  go_wp2_with fail
  refine (awake_any _).mono ?_
  rintro e w8 ⟨rfl, hb8⟩
  go_wp2_with fail
  go_ret
  exact ⟨rfl, bthen Y5.out hb8⟩

set_option maxHeartbeats 2000000 in
set_option maxRecDepth 100000 in
set_option linter.unusedVariables false in
theorem back_eo (A C T : ByteArray) (n m : Int) (ao : Option Addr) (len cap : Nat) (zs : List Int) (w : World) (xu xi xt xl : ByteArray)
    (hA : A.size ≤ 5000) (hC : C.size ≤ 5000) (hl : len ≤ 600) (zu : xu.size ≤ 8) (zi : xi.size ≤ 8) (hS : SliceHas w (.slice ao len cap) zs)
    (H1 : Hid (∀ w, Calls Try.prog 10 #[.int .u64 n] w fun e w' => e = .returned (.string xu) ∧ Below w.heap.size w w'))
    (H2 : Hid (∀ w, Calls Try.prog 18 #[.string (A ++ xu ++ C), .int .i64 A.size] w fun e w' => e = .returned (.tuple #[.int .u64 n, .int .i64 ((A.size : Int) + 8), .int .i64 0]) ∧ w = w'))
    (H3 : Hid (∀ w, Calls Try.prog 12 #[.int .i64 m] w fun e w' => e = .returned (.string xi) ∧ Below w.heap.size w w'))
    (H4 : Hid (∀ w, Calls Try.prog 20 #[.string (A ++ xi ++ C), .int .i64 A.size] w fun e w' => e = .returned (.tuple #[.int .i64 m, .int .i64 ((A.size : Int) + 8), .int .i64 0]) ∧ w = w'))
    (H5 : Hid (∀ w, Calls Try.prog 14 #[.string T] w fun e w' => e = .returned (.tuple #[.string ⟨#[]⟩, .int .i64 4]) ∧ Below w.heap.size w w'))
    (zl : xl.size ≤ 5000) (H7 : Hid (listSpec zs = (xl, 0)))
    (H8 : Hid (∀ w, Calls Try.prog 24 #[.string (A ++ xl ++ C), .int .i64 A.size] w (ListRet w (zs, (A.size : Int) + (xl.size : Int), 0)))) :
    Calls Try.prog 6 #[.agg #[.string A, .string C, .int .u64 n, .int .i64 m, .string T, .slice ao len cap]] w fun e w' => e = .returned (.bool true) ∧ Below w.heap.size w w' := by
  have HS := Lib.hid hS
  clear hS
  have k1 : (A ++ xu).size ≤ 5008 := by rw [ByteArray.size_append]; omega
  have k2 : (A ++ xi).size ≤ 5008 := by rw [ByteArray.size_append]; omega
  have v_xu : ¬ 9223372036854775807 < A.size + xu.size := by omega
  have v_xi : ¬ 9223372036854775807 < A.size + xi.size := by omega
  have v_xl : ¬ 9223372036854775807 < A.size + xl.size := by omega
  have k4 : (A ++ xl).size ≤ 10000 := by rw [ByteArray.size_append]; omega
  have s_xu : ¬ 9223372036854775807 < (A ++ xu).size + C.size := by omega
  have r_xu : ¬ 9223372036854775807 < A.size + xu.size + C.size := by omega
  have s_xi : ¬ 9223372036854775807 < (A ++ xi).size + C.size := by omega
  have r_xi : ¬ 9223372036854775807 < A.size + xi.size + C.size := by omega
  have s_xl : ¬ 9223372036854775807 < (A ++ xl).size + C.size := by omega
  have r_xl : ¬ 9223372036854775807 < A.size + xl.size + C.size := by omega
  have d1 : decide ((5000 : Int) < (A.size : Int)) = false := by simp; omega
  have d2 : decide ((5000 : Int) < (C.size : Int)) = false := by simp; omega
  have d3 : decide ((600 : Int) < (len : Int)) = false := by simp; omega
  go_enter Try.func6, Try.ntmps6
  go_wp2_with fail
  have X0 := box6_new A C n m T (.slice ao len cap) w 44
  have Y0 := Lib.hid (balloc w (.cells #[.string A, .string C, .int .u64 n, .int .i64 m, .string T, .slice ao len cap] 44))
  generalize w.alloc (.cells #[.string A, .string C, .int .u64 n, .int .i64 m, .string T, .slice ao len cap] 44) = W at X0 Y0 ⊢
  have XH0 := Lib.hid X0
  obtain ⟨_, c0, c1, c2, c3, c4, c5⟩ := X0
  go_region_held3 (fun w' => w'.cell? ⟨w.heap.size, 0, none⟩ = some (.string A) ∧ w'.cell? ⟨w.heap.size, 1, none⟩ = some (.string C) ∧ w'.cell? ⟨w.heap.size, 2, none⟩ = some (.int .u64 n)) (go_keep) (first | (go_at_call 10; refine (H1.out _).mono ?_; rintro e w1 ⟨rfl, hb1⟩; have X1 := box6_below (box6_drew XH0.out) hb1; have XH1 := Lib.hid X1; obtain ⟨_, u0, u1, u2, u3, u4, u5⟩ := X1) | (go_at_call 18; refine (H2.out _).mono ?_; rintro e w9 ⟨rfl, rfl⟩))
  have Y1 := Lib.hid (bthen (Below.drew Y0.out) hb1)
  clear c0 c1 c2 c3 c4 c5
  go_wp2_with fail
  go_region_held3 (fun w' => w'.cell? ⟨w.heap.size, 0, none⟩ = some (.string A) ∧ w'.cell? ⟨w.heap.size, 1, none⟩ = some (.string C) ∧ w'.cell? ⟨w.heap.size, 3, none⟩ = some (.int .i64 m)) (go_keep) (first | (go_at_call 12; refine (H3.out _).mono ?_; rintro e w2 ⟨rfl, hb2⟩; have X2 := box6_below (box6_drew XH1.out) hb2; have XH2 := Lib.hid X2; obtain ⟨_, c0, c1, c2, c3, c4, c5⟩ := X2) | (go_at_call 20; refine (H4.out _).mono ?_; rintro e w9 ⟨rfl, rfl⟩))
  have Y2 := Lib.hid (bthen (Below.drew Y1.out) hb2)
  clear u0 u1 u2 u3 u4 u5 hb1 hb2
  go_wp2_with fail
  refine (H5.out _).mono ?_
  rintro e w3 ⟨rfl, hb3⟩
  have X3 := box6_below XH2.out hb3
  have XH3 := Lib.hid X3
  obtain ⟨_, u0, u1, u2, u3, u4, u5⟩ := X3
  have Y3 := Lib.hid (bthen Y2.out hb3)
  clear c0 c1 c2 c3 c4 c5
  go_wp2_with fail
  have K := packList_any (.slice ao len cap) zs w3 (sliceHas_below HS.out Y3.out)
  rw [H7.out] at K
  unfold textRet at K
  refine K.mono ?_
  clear K
  rintro e w5 ⟨rfl, hb5⟩
  have X5 := box6_below XH3.out hb5
  have XH5 := Lib.hid X5
  obtain ⟨_, g0, g1, g2, g3, g4, g5⟩ := X5
  have Y5 := Lib.hid (bthen Y3.out hb5)
  clear u0 u1 u2 u3 u4 u5
  go_wp2_with fail
  refine (H8.out _).mono ?_
  rintro e w6 ⟨v6, rfl, hown6, hb6⟩
  have X6 := box6_below XH5.out hb6
  obtain ⟨_, f0, f1, f2, f3, f4, f5⟩ := X6
  have Y6 := Lib.hid (bthen Y5.out hb6)
  have S6 := Lib.hid (sliceHas_of_own hown6)
  clear g0 g1 g2 g3 g4 g5 hown6
  go_wp2_with fail
  refine (ints_any S6.out (sliceHas_below HS.out Y6.out)).mono ?_
  rintro e w7 ⟨rfl, hb7⟩
  go_wp2_with fail
  refine (awake_any _).mono ?_
  rintro e w8 ⟨rfl, hb8⟩
  go_wp2_with fail
  go_ret
  exact ⟨rfl, bthen (bthen Y6.out hb7) hb8⟩

set_option maxHeartbeats 2000000 in
set_option maxRecDepth 100000 in
set_option linter.unusedVariables false in
theorem back_ee (A C T : ByteArray) (n m : Int) (ao : Option Addr) (len cap : Nat) (zs : List Int) (w : World) (xu xi xt xl : ByteArray)
    (hA : A.size ≤ 5000) (hC : C.size ≤ 5000) (hl : len ≤ 600) (zu : xu.size ≤ 8) (zi : xi.size ≤ 8) (hS : SliceHas w (.slice ao len cap) zs)
    (H1 : Hid (∀ w, Calls Try.prog 10 #[.int .u64 n] w fun e w' => e = .returned (.string xu) ∧ Below w.heap.size w w'))
    (H2 : Hid (∀ w, Calls Try.prog 18 #[.string (A ++ xu ++ C), .int .i64 A.size] w fun e w' => e = .returned (.tuple #[.int .u64 n, .int .i64 ((A.size : Int) + 8), .int .i64 0]) ∧ w = w'))
    (H3 : Hid (∀ w, Calls Try.prog 12 #[.int .i64 m] w fun e w' => e = .returned (.string xi) ∧ Below w.heap.size w w'))
    (H4 : Hid (∀ w, Calls Try.prog 20 #[.string (A ++ xi ++ C), .int .i64 A.size] w fun e w' => e = .returned (.tuple #[.int .i64 m, .int .i64 ((A.size : Int) + 8), .int .i64 0]) ∧ w = w'))
    (H5 : Hid (∀ w, Calls Try.prog 14 #[.string T] w fun e w' => e = .returned (.tuple #[.string ⟨#[]⟩, .int .i64 4]) ∧ Below w.heap.size w w'))
    (H7 : Hid (listSpec zs = (⟨#[]⟩, 4))) :
    Calls Try.prog 6 #[.agg #[.string A, .string C, .int .u64 n, .int .i64 m, .string T, .slice ao len cap]] w fun e w' => e = .returned (.bool true) ∧ Below w.heap.size w w' := by
  have HS := Lib.hid hS
  clear hS
  have k1 : (A ++ xu).size ≤ 5008 := by rw [ByteArray.size_append]; omega
  have k2 : (A ++ xi).size ≤ 5008 := by rw [ByteArray.size_append]; omega
  have v_xu : ¬ 9223372036854775807 < A.size + xu.size := by omega
  have v_xi : ¬ 9223372036854775807 < A.size + xi.size := by omega
  have s_xu : ¬ 9223372036854775807 < (A ++ xu).size + C.size := by omega
  have r_xu : ¬ 9223372036854775807 < A.size + xu.size + C.size := by omega
  have s_xi : ¬ 9223372036854775807 < (A ++ xi).size + C.size := by omega
  have r_xi : ¬ 9223372036854775807 < A.size + xi.size + C.size := by omega
  have d1 : decide ((5000 : Int) < (A.size : Int)) = false := by simp; omega
  have d2 : decide ((5000 : Int) < (C.size : Int)) = false := by simp; omega
  have d3 : decide ((600 : Int) < (len : Int)) = false := by simp; omega
  go_enter Try.func6, Try.ntmps6
  go_wp2_with fail
  have X0 := box6_new A C n m T (.slice ao len cap) w 44
  have Y0 := Lib.hid (balloc w (.cells #[.string A, .string C, .int .u64 n, .int .i64 m, .string T, .slice ao len cap] 44))
  generalize w.alloc (.cells #[.string A, .string C, .int .u64 n, .int .i64 m, .string T, .slice ao len cap] 44) = W at X0 Y0 ⊢
  have XH0 := Lib.hid X0
  obtain ⟨_, c0, c1, c2, c3, c4, c5⟩ := X0
  go_region_held3 (fun w' => w'.cell? ⟨w.heap.size, 0, none⟩ = some (.string A) ∧ w'.cell? ⟨w.heap.size, 1, none⟩ = some (.string C) ∧ w'.cell? ⟨w.heap.size, 2, none⟩ = some (.int .u64 n)) (go_keep) (first | (go_at_call 10; refine (H1.out _).mono ?_; rintro e w1 ⟨rfl, hb1⟩; have X1 := box6_below (box6_drew XH0.out) hb1; have XH1 := Lib.hid X1; obtain ⟨_, u0, u1, u2, u3, u4, u5⟩ := X1) | (go_at_call 18; refine (H2.out _).mono ?_; rintro e w9 ⟨rfl, rfl⟩))
  have Y1 := Lib.hid (bthen (Below.drew Y0.out) hb1)
  clear c0 c1 c2 c3 c4 c5
  go_wp2_with fail
  go_region_held3 (fun w' => w'.cell? ⟨w.heap.size, 0, none⟩ = some (.string A) ∧ w'.cell? ⟨w.heap.size, 1, none⟩ = some (.string C) ∧ w'.cell? ⟨w.heap.size, 3, none⟩ = some (.int .i64 m)) (go_keep) (first | (go_at_call 12; refine (H3.out _).mono ?_; rintro e w2 ⟨rfl, hb2⟩; have X2 := box6_below (box6_drew XH1.out) hb2; have XH2 := Lib.hid X2; obtain ⟨_, c0, c1, c2, c3, c4, c5⟩ := X2) | (go_at_call 20; refine (H4.out _).mono ?_; rintro e w9 ⟨rfl, rfl⟩))
  have Y2 := Lib.hid (bthen (Below.drew Y1.out) hb2)
  clear u0 u1 u2 u3 u4 u5 hb1 hb2
  go_wp2_with fail
  refine (H5.out _).mono ?_
  rintro e w3 ⟨rfl, hb3⟩
  have X3 := box6_below XH2.out hb3
  have XH3 := Lib.hid X3
  obtain ⟨_, u0, u1, u2, u3, u4, u5⟩ := X3
  have Y3 := Lib.hid (bthen Y2.out hb3)
  clear c0 c1 c2 c3 c4 c5
  go_wp2_with fail
  have K := packList_any (.slice ao len cap) zs w3 (sliceHas_below HS.out Y3.out)
  rw [H7.out] at K
  unfold textRet at K
  refine K.mono ?_
  clear K
  rintro e w5 ⟨rfl, hb5⟩
  have X5 := box6_below XH3.out hb5
  have XH5 := Lib.hid X5
  obtain ⟨_, g0, g1, g2, g3, g4, g5⟩ := X5
  have Y5 := Lib.hid (bthen Y3.out hb5)
  clear u0 u1 u2 u3 u4 u5
  go_wp2_with fail
  refine (awake_any _).mono ?_
  rintro e w8 ⟨rfl, hb8⟩
  go_wp2_with fail
  go_ret
  exact ⟨rfl, bthen Y5.out hb8⟩

end Go.Proofs.Ytcbpekliijbhoaa
