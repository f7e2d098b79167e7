/- The contracts of layFloat, layIns, layEvent, layList at its six types, layProgram, layProcess. -/
import Derived.Test.YtemhbcjpgapjkaaMioMath
import Derived.Test.YtemhbcjpgapjkaaBuildAid
import Derived.Test.YtemhbcjpgapjkaaModelSmall
import Derived.Test.YtemhbcjpgapjkaaPackRefU
namespace Go.Proofs.Ytemhbcjpgapjkaa
open Go.RowKit
set_option linter.unusedVariables false
set_option maxRecDepth 100000

theorem catN_len {f : Nat → List Int} {n L : Nat} (h : ∀ i, i < n → (f i).length ≤ L) : (catN f n).length ≤ n * L := by
  induction n with
  | zero => simp [catN]
  | succ n ih =>
    simp only [catN, List.length_append]
    have h1 := ih fun i hi => h i (by omega)
    have h2 := h n (by omega)
    rw [Nat.add_mul, Nat.one_mul]
    omega
theorem lsW_len {f : Nat → List Int} {n L : Nat} (h : ∀ i, i < n → (f i).length ≤ L) : (lsW n f).length ≤ 1 + n * L := by
  have := catN_len h
  simp only [lsW, List.length_cons]; omega
/-- the first j of n, as words -/
def lsP (n : Nat) (f : Nat → List Int) (j : Nat) : List Int := flip63 n :: catN f j
theorem lsP_zero (n : Nat) (f : Nat → List Int) : byW (lsP n f 0) = beI 8 (flip63 n) := by simp [lsP, catN, byW]
theorem lsP_succ (n : Nat) (f : Nat → List Int) (j : Nat) : byW (lsP n f (j + 1)) = byW (lsP n f j) ++ byW (f j) := by
  rw [← byW_append]; rfl
theorem lsP_room {n : Nat} {f : Nat → List Int} (hn : n ≤ 48) (h : ∀ i, i < n → (f i).length ≤ 1000) (j : Nat) (hj : j < n) : (byW (lsP n f j)).length + (byW (f j)).length ≤ 140737488355328 := by
  have h1 := catN_len (n := j) fun i hi => h i (by omega)
  have h2 := h j hj
  rw [byW_len, byW_len]
  simp only [lsP, List.length_cons]
  omega
/-- the builder, with bytes -/
def BldAt (w wr : World) (xs : List Int) : Prop :=
  Lib.IsBuilder 92 5 w.heap.size w.heap.size (Lib.byteCells (xs.map toU8)) wr ∧ Below w.heap.size w wr ∧ w.heap.size < wr.heap.size
theorem bldAt_write {w w2 w3 : World} {xs ys : List Int} (hB : Below w.heap.size w w2)
    (hb : Lib.BuilderAt 92 5 w.heap.size w.heap.size (.pointer (some ⟨w.heap.size, 0, none⟩)) (Lib.byteCells (xs.map toU8) ++ Lib.strCells (strOfNums ys)) w3)
    (hbel : Below w.heap.size w2 w3) : BldAt w w3 (xs ++ ys) := by
  refine ⟨.inr ?_, hB.trans hbel, ls_lt hb⟩
  rw [List.map_append, byteCells_append]
  rw [byteCells_nums] at hb
  exact hb

theorem layFloat_any (x : Nat) (w : World) :
    Calls Try.prog 19 #[.float .f64 x] w fun e w' => e = .returned (.string (strOfNums (byW [(x : Int)]))) ∧ Below w.heap.size w w' := by
  have hf := floatbits_run
  have H := Lib.hid (packU (x : Int))
  have E : byW [(x : Int)] = beI 8 (x : Int) := by simp [byW]
  rw [E]
  clear E
  generalize strOfNums (beI 8 (x : Int)) = r at *
  go_enter Try.func19, Try.ntmps19
  go_wp2_with (go_at_call 50; refine (H.out _).mono ?_; rintro e w2 ⟨rfl, hb⟩)
  go_ret
  exact ⟨rfl, hb⟩
theorem packI_w (n : Int) (w : World) :
    Calls Try.prog 18 #[.int .i64 n] w fun e w' => e = .returned (.string (strOfNums (byW [flip63 n]))) ∧ Below w.heap.size w w' := by
  have E : byW [flip63 n] = beI 8 (flip63 n) := by simp [byW]
  rw [E]; exact packI n w

set_option maxHeartbeats 1600000 in
theorem layIns_any (x : I4) (w : World) :
    Calls Try.prog 55 #[.agg #[.int .i64 x.op, .int .i64 x.a, .int .i64 x.b, .int .i64 x.c]] w fun e w' => e = .returned (.string (strOfNums (byW (insW x)))) ∧ Below w.heap.size w w' := by
  have E : byW (insW x) = byW [flip63 x.op] ++ byW [flip63 x.a] ++ byW [flip63 x.b] ++ byW [flip63 x.c] := by simp only [← byW_append]; rfl
  have hsf := store_float
  have H0 := Lib.hid (packI_w x.op)
  have s0 : (strOfNums (byW [flip63 x.op])).size = 8 := by rw [strOfNums_size, byW_len]; rfl
  have H1 := Lib.hid (packI_w x.a)
  have s1 : (strOfNums (byW [flip63 x.a])).size = 8 := by rw [strOfNums_size, byW_len]; rfl
  have H2 := Lib.hid (packI_w x.b)
  have s2 : (strOfNums (byW [flip63 x.b])).size = 8 := by rw [strOfNums_size, byW_len]; rfl
  have H3 := Lib.hid (packI_w x.c)
  have s3 : (strOfNums (byW [flip63 x.c])).size = 8 := by rw [strOfNums_size, byW_len]; rfl
  rw [E]
  simp only [← strOfNums_append]
  clear E
  generalize strOfNums (byW [flip63 x.op]) = r0 at *
  generalize strOfNums (byW [flip63 x.a]) = r1 at *
  generalize strOfNums (byW [flip63 x.b]) = r2 at *
  generalize strOfNums (byW [flip63 x.c]) = r3 at *
  have b1 : ¬ 9223372036854775807 < r0.size + r1.size := by omega
  have b2 : ¬ 9223372036854775807 < r0.size + r1.size + r2.size := by omega
  have b3 : ¬ 9223372036854775807 < r0.size + r1.size + r2.size + r3.size := by omega
  clear s0
  clear s1
  clear s2
  clear s3
  obtain ⟨a0, a1, a2, a3⟩ := x
  dsimp only at *
  have HX : Hid ((w.alloc (.cells #[.int .i64 a0, .int .i64 a1, .int .i64 a2, .int .i64 a3] 45)).cell? ⟨w.heap.size, 0, none⟩ = some (.int .i64 a0) ∧ (w.alloc (.cells #[.int .i64 a0, .int .i64 a1, .int .i64 a2, .int .i64 a3] 45)).cell? ⟨w.heap.size, 1, none⟩ = some (.int .i64 a1) ∧ (w.alloc (.cells #[.int .i64 a0, .int .i64 a1, .int .i64 a2, .int .i64 a3] 45)).cell? ⟨w.heap.size, 2, none⟩ = some (.int .i64 a2) ∧ (w.alloc (.cells #[.int .i64 a0, .int .i64 a1, .int .i64 a2, .int .i64 a3] 45)).cell? ⟨w.heap.size, 3, none⟩ = some (.int .i64 a3) ∧ w.heap.size < (w.alloc (.cells #[.int .i64 a0, .int .i64 a1, .int .i64 a2, .int .i64 a3] 45)).heap.size) := by
    have hh := heap_alloc_new w (.cells #[.int .i64 a0, .int .i64 a1, .int .i64 a2, .int .i64 a3] 45)
    exact ⟨by rw [Lib.cell_of_heap hh]; rfl, by rw [Lib.cell_of_heap hh]; rfl, by rw [Lib.cell_of_heap hh]; rfl, by rw [Lib.cell_of_heap hh]; rfl, lt_of_block hh⟩
  have HA := Lib.hid (balloc w (.cells #[.int .i64 a0, .int .i64 a1, .int .i64 a2, .int .i64 a3] 45))
  obtain ⟨x0, x1, x2, x3, _⟩ := HX.out
  go_enter Try.func55, Try.ntmps55
  go_wp2_with fail
  generalize w.alloc (.cells #[.int .i64 a0, .int .i64 a1, .int .i64 a2, .int .i64 a3] 45) = w1 at *
  go_region_held3 (fun w' => w'.cell? ⟨w.heap.size, 0, none⟩ = some (.int .i64 a0) ∧ w'.cell? ⟨w.heap.size, 1, none⟩ = some (.int .i64 a1) ∧ w'.cell? ⟨w.heap.size, 2, none⟩ = some (.int .i64 a2) ∧ w'.cell? ⟨w.heap.size, 3, none⟩ = some (.int .i64 a3)) (go_keep) (first
    | (go_at_call 18; with_reducible refine (H0.out _).mono ?_; rintro e w2 ⟨rfl, hb2⟩; have HB2 := Lib.hid (bthen (bdrew w1) hb2); have p0 := (HB2.out.cell (p := ⟨w.heap.size, 0, none⟩) HX.out.2.2.2.2).trans HX.out.1; have p1 := (HB2.out.cell (p := ⟨w.heap.size, 1, none⟩) HX.out.2.2.2.2).trans HX.out.2.1; have p2 := (HB2.out.cell (p := ⟨w.heap.size, 2, none⟩) HX.out.2.2.2.2).trans HX.out.2.2.1; have p3 := (HB2.out.cell (p := ⟨w.heap.size, 3, none⟩) HX.out.2.2.2.2).trans HX.out.2.2.2.1; clear hb2)
    | (go_at_call 18; with_reducible refine (H1.out _).mono ?_; rintro e w3 ⟨rfl, hb3⟩; have HB3 := Lib.hid (bthen (HB2.out) hb3); have p0 := (HB3.out.cell (p := ⟨w.heap.size, 0, none⟩) HX.out.2.2.2.2).trans HX.out.1; have p1 := (HB3.out.cell (p := ⟨w.heap.size, 1, none⟩) HX.out.2.2.2.2).trans HX.out.2.1; have p2 := (HB3.out.cell (p := ⟨w.heap.size, 2, none⟩) HX.out.2.2.2.2).trans HX.out.2.2.1; have p3 := (HB3.out.cell (p := ⟨w.heap.size, 3, none⟩) HX.out.2.2.2.2).trans HX.out.2.2.2.1; clear hb3)
    | (go_at_call 18; with_reducible refine (H2.out _).mono ?_; rintro e w4 ⟨rfl, hb4⟩; have HB4 := Lib.hid (bthen (HB3.out) hb4); have p0 := (HB4.out.cell (p := ⟨w.heap.size, 0, none⟩) HX.out.2.2.2.2).trans HX.out.1; have p1 := (HB4.out.cell (p := ⟨w.heap.size, 1, none⟩) HX.out.2.2.2.2).trans HX.out.2.1; have p2 := (HB4.out.cell (p := ⟨w.heap.size, 2, none⟩) HX.out.2.2.2.2).trans HX.out.2.2.1; have p3 := (HB4.out.cell (p := ⟨w.heap.size, 3, none⟩) HX.out.2.2.2.2).trans HX.out.2.2.2.1; clear hb4)
    | (go_at_call 18; with_reducible refine (H3.out _).mono ?_; rintro e w5 ⟨rfl, hb5⟩; have HB5 := Lib.hid (bthen (HB4.out) hb5); have p0 := (HB5.out.cell (p := ⟨w.heap.size, 0, none⟩) HX.out.2.2.2.2).trans HX.out.1; have p1 := (HB5.out.cell (p := ⟨w.heap.size, 1, none⟩) HX.out.2.2.2.2).trans HX.out.2.1; have p2 := (HB5.out.cell (p := ⟨w.heap.size, 2, none⟩) HX.out.2.2.2.2).trans HX.out.2.2.1; have p3 := (HB5.out.cell (p := ⟨w.heap.size, 3, none⟩) HX.out.2.2.2.2).trans HX.out.2.2.2.1; clear hb5))
  go_wp2_with fail
  go_ret
  exact ⟨by simp only [ByteArray.append_assoc]; rfl, bthen HA.out HB5.out⟩

set_option maxHeartbeats 1600000 in
theorem layEvent_any (x : Ev) (w : World) :
    Calls Try.prog 26 #[.agg #[.float .f64 x.t, .int .i64 x.dst, .int .i64 x.pay]] w fun e w' => e = .returned (.string (strOfNums (byW (evW x)))) ∧ Below w.heap.size w w' := by
  have E : byW (evW x) = byW [(x.t : Int)] ++ byW [flip63 x.dst] ++ byW [flip63 x.pay] := by simp only [← byW_append]; rfl
  have hsf := store_float
  have H0 := Lib.hid (layFloat_any x.t)
  have s0 : (strOfNums (byW [(x.t : Int)])).size = 8 := by rw [strOfNums_size, byW_len]; rfl
  have H1 := Lib.hid (packI_w x.dst)
  have s1 : (strOfNums (byW [flip63 x.dst])).size = 8 := by rw [strOfNums_size, byW_len]; rfl
  have H2 := Lib.hid (packI_w x.pay)
  have s2 : (strOfNums (byW [flip63 x.pay])).size = 8 := by rw [strOfNums_size, byW_len]; rfl
  rw [E]
  simp only [← strOfNums_append]
  clear E
  generalize strOfNums (byW [(x.t : Int)]) = r0 at *
  generalize strOfNums (byW [flip63 x.dst]) = r1 at *
  generalize strOfNums (byW [flip63 x.pay]) = r2 at *
  have b1 : ¬ 9223372036854775807 < r0.size + r1.size := by omega
  have b2 : ¬ 9223372036854775807 < r0.size + r1.size + r2.size := by omega
  clear s0
  clear s1
  clear s2
  obtain ⟨a0, a1, a2⟩ := x
  dsimp only at *
  have HX : Hid ((w.alloc (.cells #[.float .f64 a0, .int .i64 a1, .int .i64 a2] 55)).cell? ⟨w.heap.size, 0, none⟩ = some (.float .f64 a0) ∧ (w.alloc (.cells #[.float .f64 a0, .int .i64 a1, .int .i64 a2] 55)).cell? ⟨w.heap.size, 1, none⟩ = some (.int .i64 a1) ∧ (w.alloc (.cells #[.float .f64 a0, .int .i64 a1, .int .i64 a2] 55)).cell? ⟨w.heap.size, 2, none⟩ = some (.int .i64 a2) ∧ w.heap.size < (w.alloc (.cells #[.float .f64 a0, .int .i64 a1, .int .i64 a2] 55)).heap.size) := by
    have hh := heap_alloc_new w (.cells #[.float .f64 a0, .int .i64 a1, .int .i64 a2] 55)
    exact ⟨by rw [Lib.cell_of_heap hh]; rfl, by rw [Lib.cell_of_heap hh]; rfl, by rw [Lib.cell_of_heap hh]; rfl, lt_of_block hh⟩
  have HA := Lib.hid (balloc w (.cells #[.float .f64 a0, .int .i64 a1, .int .i64 a2] 55))
  obtain ⟨x0, x1, x2, _⟩ := HX.out
  go_enter Try.func26, Try.ntmps26
  go_wp2_with fail
  generalize w.alloc (.cells #[.float .f64 a0, .int .i64 a1, .int .i64 a2] 55) = w1 at *
  go_region_held3 (fun w' => w'.cell? ⟨w.heap.size, 0, none⟩ = some (.float .f64 a0) ∧ w'.cell? ⟨w.heap.size, 1, none⟩ = some (.int .i64 a1) ∧ w'.cell? ⟨w.heap.size, 2, none⟩ = some (.int .i64 a2)) (go_keep) (first
    | (go_at_call 19; with_reducible refine (H0.out _).mono ?_; rintro e w2 ⟨rfl, hb2⟩; have HB2 := Lib.hid (bthen (bdrew w1) hb2); have p0 := (HB2.out.cell (p := ⟨w.heap.size, 0, none⟩) HX.out.2.2.2).trans HX.out.1; have p1 := (HB2.out.cell (p := ⟨w.heap.size, 1, none⟩) HX.out.2.2.2).trans HX.out.2.1; have p2 := (HB2.out.cell (p := ⟨w.heap.size, 2, none⟩) HX.out.2.2.2).trans HX.out.2.2.1; clear hb2)
    | (go_at_call 18; with_reducible refine (H1.out _).mono ?_; rintro e w3 ⟨rfl, hb3⟩; have HB3 := Lib.hid (bthen (HB2.out) hb3); have p0 := (HB3.out.cell (p := ⟨w.heap.size, 0, none⟩) HX.out.2.2.2).trans HX.out.1; have p1 := (HB3.out.cell (p := ⟨w.heap.size, 1, none⟩) HX.out.2.2.2).trans HX.out.2.1; have p2 := (HB3.out.cell (p := ⟨w.heap.size, 2, none⟩) HX.out.2.2.2).trans HX.out.2.2.1; clear hb3)
    | (go_at_call 18; with_reducible refine (H2.out _).mono ?_; rintro e w4 ⟨rfl, hb4⟩; have HB4 := Lib.hid (bthen (HB3.out) hb4); have p0 := (HB4.out.cell (p := ⟨w.heap.size, 0, none⟩) HX.out.2.2.2).trans HX.out.1; have p1 := (HB4.out.cell (p := ⟨w.heap.size, 1, none⟩) HX.out.2.2.2).trans HX.out.2.1; have p2 := (HB4.out.cell (p := ⟨w.heap.size, 2, none⟩) HX.out.2.2.2).trans HX.out.2.2.1; clear hb4))
  go_wp2_with fail
  go_ret
  exact ⟨by simp only [ByteArray.append_assoc]; rfl, bthen HA.out HB4.out⟩

set_option maxHeartbeats 1600000 in
theorem layF_any (d : Nat → Nat) (n : Nat) (hn : n ≤ 48) (v : Value) (w : World) (h : Sl 1 (gF d) n v w) :
    Calls Try.prog 20 #[v, .func (.func 19) #[] #[]] w fun e w' => e = .returned (.string (strOfNums (byW (lsW n fun i => [((d i : Nat) : Int)])))) ∧ Below w.heap.size w w' := by
  obtain ⟨ao, cap, rfl, h1, h2, h3⟩ := h
  have H3 := Lib.hid h3
  clear h3
  have hlen : ∀ i, i < n → ((fun i => [((d i : Nat) : Int)]) i).length ≤ 1000 := fun i hi => by simp
  have HC : Hid (∀ i w, Calls Try.prog 19 #[.float .f64 (d i)] w fun e w' => e = .returned (.string (strOfNums (byW ((fun i => [((d i : Nat) : Int)]) i)))) ∧ Below w.heap.size w w') := fun i w => layFloat_any (d i) w
  have HR : Hid (∀ j, j < n → (byW (lsP n (fun i => [((d i : Nat) : Int)]) j)).length + (byW ((fun i => [((d i : Nat) : Int)]) j)).length ≤ 140737488355328) := fun j hj => lsP_room hn hlen j hj
  have HN := Lib.hid hn
  have hn63 : n ≤ 9223372036854775807 := by omega
  clear hlen hn
  have H1 := Lib.hid (packI (n : Int))
  generalize hf : (fun i => [((d i : Nat) : Int)]) = f at HC HR ⊢
  clear hf
  go_enter Try.func20, Try.ntmps20
  go_wp2_with fail
  refine (H1.out _).mono ?_
  rintro e w1 ⟨rfl, hb1⟩
  go_wp2_with fail
  have K1 := builder_below (builder_new w) hb1
  refine (writeString w.heap.size w.heap.size [] _ _ (.inl K1) (by rw [strOfNums_size, beI_len]; simp) (by have := ls_lt K1; omega)).mono ?_
  rintro e w2 ⟨rfl, hb2, hbel2⟩
  have L0 : Hid (BldAt w w2 (byW (lsP n f 0))) := by
    refine ⟨.inr ?_, ((balloc w _).trans (hb1.mono (by simp))).trans hbel2, ls_lt hb2⟩
    rw [lsP_zero]
    rw [byteCells_nums] at hb2
    exact hb2
  clear hb2 hbel2 K1 hb1
  go_wp2_with fail
  go_loopw [14] (fun i wr => ∃ j : Nat, j ≤ n ∧ i = .int .i64 j ∧ BldAt w wr (byW (lsP n f j))) (fun i _ => n - (intOf i).toNat)
  case atStart => exact ⟨0, Nat.zero_le _, rfl, L0.out⟩
  case round =>
    obtain ⟨j, hj, rfl, hbl⟩ := hrel
    have HB := Lib.hid hbl
    have hl := hbl.2.1
    clear hbl
    by_cases hlt : j < n
    · obtain ⟨b, o, rfl, hA⟩ := H3.out (by omega)
      have c0 := (hA.below hl).one j hlt
      dsimp only [gF] at c0
      have HC2 := Lib.hid (HC.out j)
      have HS := Lib.hid (lsP_succ n f j)
      have HR2 := Lib.hid (HR.out j hlt)
      have HL := Lib.hid hl
      clear hA hl
      generalize f j = ys at *
      generalize byW (lsP n f j) = xs at *
      go_wp2_with fail
      refine (HC2.out _).mono ?_
      rintro e w3 ⟨rfl, hb3⟩
      go_wp2_with fail
      refine (writeString w.heap.size w.heap.size _ _ _ (isBuilder_below HB.out.1 (hb3)) (by rw [strOfNums_size, Lib.byteCells_length, List.length_map]; exact HR2.out) (by have := HB.out.2.2; have := (hb3).size; omega)).mono ?_
      rintro e w4 ⟨rfl, hb4, hbel4⟩
      have R : Hid (BldAt w w4 (byW (lsP n f (j + 1)))) := by
        rw [HS.out]
        exact bldAt_write (bthen HL.out (hb3)) hb4 hbel4
      clear hb4 hbel4 hb3
      go_wp2_with fail
      go_roundw
      case rel => exact ⟨j + 1, by omega, by go_num, R.out⟩
      case measure => simp [intOf]; omega
    · obtain rfl : j = n := by omega
      clear hl
      go_wp2_with fail
      refine (builderString w.heap.size w.heap.size _ _ HB.out.1 (by have := HB.out.2.2; omega)).mono ?_
      rintro e w5 ⟨rfl, hb5⟩
      go_wp2_with fail
      go_ret
      exact ⟨by rw [strOfNums_eq]; rfl, HB.out.2.1.trans hb5⟩

set_option maxHeartbeats 1600000 in
theorem layW_any (d : Nat → Int) (n : Nat) (hn : n ≤ 48) (v : Value) (w : World) (h : Sl 1 (gW d) n v w) :
    Calls Try.prog 56 #[v, .func (.func 18) #[] #[]] w fun e w' => e = .returned (.string (strOfNums (byW (lsW n fun i => [flip63 (d i)])))) ∧ Below w.heap.size w w' := by
  obtain ⟨ao, cap, rfl, h1, h2, h3⟩ := h
  have H3 := Lib.hid h3
  clear h3
  have hlen : ∀ i, i < n → ((fun i => [flip63 (d i)]) i).length ≤ 1000 := fun i hi => by simp
  have HC : Hid (∀ i w, Calls Try.prog 18 #[.int .i64 (d i)] w fun e w' => e = .returned (.string (strOfNums (byW ((fun i => [flip63 (d i)]) i)))) ∧ Below w.heap.size w w') := fun i w => packI_w (d i) w
  have HR : Hid (∀ j, j < n → (byW (lsP n (fun i => [flip63 (d i)]) j)).length + (byW ((fun i => [flip63 (d i)]) j)).length ≤ 140737488355328) := fun j hj => lsP_room hn hlen j hj
  have HN := Lib.hid hn
  have hn63 : n ≤ 9223372036854775807 := by omega
  clear hlen hn
  have H1 := Lib.hid (packI (n : Int))
  generalize hf : (fun i => [flip63 (d i)]) = f at HC HR ⊢
  clear hf
  go_enter Try.func56, Try.ntmps56
  go_wp2_with fail
  refine (H1.out _).mono ?_
  rintro e w1 ⟨rfl, hb1⟩
  go_wp2_with fail
  have K1 := builder_below (builder_new w) hb1
  refine (writeString w.heap.size w.heap.size [] _ _ (.inl K1) (by rw [strOfNums_size, beI_len]; simp) (by have := ls_lt K1; omega)).mono ?_
  rintro e w2 ⟨rfl, hb2, hbel2⟩
  have L0 : Hid (BldAt w w2 (byW (lsP n f 0))) := by
    refine ⟨.inr ?_, ((balloc w _).trans (hb1.mono (by simp))).trans hbel2, ls_lt hb2⟩
    rw [lsP_zero]
    rw [byteCells_nums] at hb2
    exact hb2
  clear hb2 hbel2 K1 hb1
  go_wp2_with fail
  go_loopw [14] (fun i wr => ∃ j : Nat, j ≤ n ∧ i = .int .i64 j ∧ BldAt w wr (byW (lsP n f j))) (fun i _ => n - (intOf i).toNat)
  case atStart => exact ⟨0, Nat.zero_le _, rfl, L0.out⟩
  case round =>
    obtain ⟨j, hj, rfl, hbl⟩ := hrel
    have HB := Lib.hid hbl
    have hl := hbl.2.1
    clear hbl
    by_cases hlt : j < n
    · obtain ⟨b, o, rfl, hA⟩ := H3.out (by omega)
      have c0 := (hA.below hl).one j hlt
      dsimp only [gW] at c0
      have HC2 := Lib.hid (HC.out j)
      have HS := Lib.hid (lsP_succ n f j)
      have HR2 := Lib.hid (HR.out j hlt)
      have HL := Lib.hid hl
      clear hA hl
      generalize f j = ys at *
      generalize byW (lsP n f j) = xs at *
      go_wp2_with fail
      refine (HC2.out _).mono ?_
      rintro e w3 ⟨rfl, hb3⟩
      go_wp2_with fail
      refine (writeString w.heap.size w.heap.size _ _ _ (isBuilder_below HB.out.1 (hb3)) (by rw [strOfNums_size, Lib.byteCells_length, List.length_map]; exact HR2.out) (by have := HB.out.2.2; have := (hb3).size; omega)).mono ?_
      rintro e w4 ⟨rfl, hb4, hbel4⟩
      have R : Hid (BldAt w w4 (byW (lsP n f (j + 1)))) := by
        rw [HS.out]
        exact bldAt_write (bthen HL.out (hb3)) hb4 hbel4
      clear hb4 hbel4 hb3
      go_wp2_with fail
      go_roundw
      case rel => exact ⟨j + 1, by omega, by go_num, R.out⟩
      case measure => simp [intOf]; omega
    · obtain rfl : j = n := by omega
      clear hl
      go_wp2_with fail
      refine (builderString w.heap.size w.heap.size _ _ HB.out.1 (by have := HB.out.2.2; omega)).mono ?_
      rintro e w5 ⟨rfl, hb5⟩
      go_wp2_with fail
      go_ret
      exact ⟨by rw [strOfNums_eq]; rfl, HB.out.2.1.trans hb5⟩

set_option maxHeartbeats 1600000 in
theorem layI_any (g : Nat → I4) (n : Nat) (hn : n ≤ 48) (v : Value) (w : World) (h : Sl 4 (gI g) n v w) :
    Calls Try.prog 54 #[v, .func (.func 55) #[] #[]] w fun e w' => e = .returned (.string (strOfNums (byW (lsW n fun i => insW (g i))))) ∧ Below w.heap.size w w' := by
  obtain ⟨ao, cap, rfl, h1, h2, h3⟩ := h
  have H3 := Lib.hid h3
  clear h3
  have hlen : ∀ i, i < n → ((fun i => insW (g i)) i).length ≤ 1000 := fun i hi => by simp [insW]
  have HC : Hid (∀ i w, Calls Try.prog 55 #[.agg #[.int .i64 (g i).op, .int .i64 (g i).a, .int .i64 (g i).b, .int .i64 (g i).c]] w fun e w' => e = .returned (.string (strOfNums (byW ((fun i => insW (g i)) i)))) ∧ Below w.heap.size w w') := fun i w => layIns_any (g i) w
  have HR : Hid (∀ j, j < n → (byW (lsP n (fun i => insW (g i)) j)).length + (byW ((fun i => insW (g i)) j)).length ≤ 140737488355328) := fun j hj => lsP_room hn hlen j hj
  have HN := Lib.hid hn
  have hn63 : n ≤ 9223372036854775807 := by omega
  clear hlen hn
  have H1 := Lib.hid (packI (n : Int))
  generalize hf : (fun i => insW (g i)) = f at HC HR ⊢
  clear hf
  go_enter Try.func54, Try.ntmps54
  go_wp2_with fail
  refine (H1.out _).mono ?_
  rintro e w1 ⟨rfl, hb1⟩
  go_wp2_with fail
  have K1 := builder_below (builder_new w) hb1
  refine (writeString w.heap.size w.heap.size [] _ _ (.inl K1) (by rw [strOfNums_size, beI_len]; simp) (by have := ls_lt K1; omega)).mono ?_
  rintro e w2 ⟨rfl, hb2, hbel2⟩
  have L0 : Hid (BldAt w w2 (byW (lsP n f 0))) := by
    refine ⟨.inr ?_, ((balloc w _).trans (hb1.mono (by simp))).trans hbel2, ls_lt hb2⟩
    rw [lsP_zero]
    rw [byteCells_nums] at hb2
    exact hb2
  clear hb2 hbel2 K1 hb1
  go_wp2_with fail
  go_loopw [14] (fun i wr => ∃ j : Nat, j ≤ n ∧ i = .int .i64 j ∧ BldAt w wr (byW (lsP n f j))) (fun i _ => n - (intOf i).toNat)
  case atStart => exact ⟨0, Nat.zero_le _, rfl, L0.out⟩
  case round =>
    obtain ⟨j, hj, rfl, hbl⟩ := hrel
    have HB := Lib.hid hbl
    have hl := hbl.2.1
    clear hbl
    by_cases hlt : j < n
    · obtain ⟨b, o, rfl, hA⟩ := H3.out (by omega)
      obtain ⟨_, x0, x1, x2, x3⟩ := (hA.below hl).box4 j hlt
      have HC2 := Lib.hid (HC.out j)
      generalize g j = s at x0 x1 x2 x3 HC2
      obtain ⟨a0, a1, a2, a3⟩ := s
      dsimp only at x0 x1 x2 x3 HC2
      have HS := Lib.hid (lsP_succ n f j)
      have HR2 := Lib.hid (HR.out j hlt)
      have HL := Lib.hid hl
      clear hA hl
      generalize f j = ys at *
      generalize byW (lsP n f j) = xs at *
      go_wp2_with fail
      refine (HC2.out _).mono ?_
      rintro e w3 ⟨rfl, hb3⟩
      go_wp2_with fail
      refine (writeString w.heap.size w.heap.size _ _ _ (isBuilder_below HB.out.1 (bthen (balloc _ _) hb3)) (by rw [strOfNums_size, Lib.byteCells_length, List.length_map]; exact HR2.out) (by have := HB.out.2.2; have := (bthen (balloc _ _) hb3).size; omega)).mono ?_
      rintro e w4 ⟨rfl, hb4, hbel4⟩
      have R : Hid (BldAt w w4 (byW (lsP n f (j + 1)))) := by
        rw [HS.out]
        exact bldAt_write (bthen HL.out (bthen (balloc _ _) hb3)) hb4 hbel4
      clear hb4 hbel4 hb3
      go_wp2_with fail
      go_roundw
      case rel => exact ⟨j + 1, by omega, by go_num, R.out⟩
      case measure => simp [intOf]; omega
    · obtain rfl : j = n := by omega
      clear hl
      go_wp2_with fail
      refine (builderString w.heap.size w.heap.size _ _ HB.out.1 (by have := HB.out.2.2; omega)).mono ?_
      rintro e w5 ⟨rfl, hb5⟩
      go_wp2_with fail
      go_ret
      exact ⟨by rw [strOfNums_eq]; rfl, HB.out.2.1.trans hb5⟩

theorem layProgram_any (g : Nat → I4) (n : Nat) (hn : n ≤ 48) (v : Value) (w : World) (h : Sl 4 (gI g) n v w) :
    Calls Try.prog 22 #[v] w fun e w' => e = .returned (.string (strOfNums (byW (prW g n)))) ∧ Below w.heap.size w w' := by
  have H := Lib.hid (layI_any g n hn v w h)
  unfold prW
  generalize strOfNums (byW (lsW n fun i => insW (g i))) = r at *
  obtain ⟨ao, cap, rfl, _⟩ := h
  go_enter Try.func22, Try.ntmps22
  go_wp2_with (go_at_call 54; refine H.out.mono ?_; rintro e w2 ⟨rfl, hb⟩)
  go_ret
  exact ⟨rfl, hb⟩

set_option maxHeartbeats 1600000 in
theorem layProcess_any (p : Int) (f : Nat → Int) (n : Nat) (hn : n ≤ 48) (v : Value) (w : World) (h : Sl 1 (gW f) n v w) :
    Calls Try.prog 24 #[.agg #[.int .i64 p, v]] w fun e w' => e = .returned (.string (strOfNums (byW (lpW p f n)))) ∧ Below w.heap.size w w' := by
  have HP := Lib.hid (packI_w p)
  have HW := Lib.hid (fun w2 k => layW_any f n hn v w2 (h.below k))
  have E : byW (lpW p f n) = byW [flip63 p] ++ byW (lsW n fun i => [flip63 (f i)]) := by rw [← byW_append]; rfl
  have hsz : ((strOfNums (byW [flip63 p])).size + (strOfNums (byW (lsW n fun i => [flip63 (f i)]))).size) ≤ 10000 := by
    have h2 : (lsW n fun i => [flip63 (f i)]).length ≤ 1 + n * 1 := lsW_len fun k hk => by simp
    rw [strOfNums_size, strOfNums_size, byW_len, byW_len]
    simp only [List.length_cons, List.length_nil]
    omega
  rw [E, ← strOfNums_append]
  clear E
  generalize strOfNums (byW (lsW n fun i => [flip63 (f i)])) = r at *
  generalize strOfNums (byW [flip63 p]) = q at *
  have hbig : ¬ 9223372036854775807 < q.size + r.size := by omega
  obtain ⟨ao, cap, rfl, _⟩ := h
  have HX : Hid ((w.alloc (.cells #[.int .i64 p, .slice ao n cap] 43)).cell? ⟨w.heap.size, 0, none⟩ = some (.int .i64 p) ∧ (w.alloc (.cells #[.int .i64 p, .slice ao n cap] 43)).cell? ⟨w.heap.size, 1, none⟩ = some (.slice ao n cap) ∧ w.heap.size < (w.alloc (.cells #[.int .i64 p, .slice ao n cap] 43)).heap.size) := by
    have hh := heap_alloc_new w (.cells #[.int .i64 p, .slice ao n cap] 43)
    exact ⟨by rw [Lib.cell_of_heap hh]; rfl, by rw [Lib.cell_of_heap hh]; rfl, lt_of_block hh⟩
  have HA := Lib.hid (balloc w (.cells #[.int .i64 p, .slice ao n cap] 43))
  obtain ⟨x0, x1, _⟩ := HX.out
  go_enter Try.func24, Try.ntmps24
  go_wp2_with fail
  generalize w.alloc (.cells #[.int .i64 p, .slice ao n cap] 43) = w1 at *
  have HD := Lib.hid (bthen HA.out (bdrew w1))
  go_region_held3 (fun w' => w'.cell? ⟨w.heap.size, 0, none⟩ = some (.int .i64 p) ∧ w'.cell? ⟨w.heap.size, 1, none⟩ = some (.slice ao n cap)) (go_keep) (first
    | (go_at_call 18; refine (HP.out _).mono ?_; rintro e w2 ⟨rfl, hb2⟩; have HB2 := Lib.hid (bthen (bdrew w1) hb2); have p0 := (HB2.out.cell (p := ⟨w.heap.size, 0, none⟩) HX.out.2.2).trans HX.out.1; have p1 := (HB2.out.cell (p := ⟨w.heap.size, 1, none⟩) HX.out.2.2).trans HX.out.2.1; clear hb2)
    | (go_at_call 56; refine (HW.out _ (bthen HA.out HB2.out)).mono ?_; rintro e w3 ⟨rfl, hb3⟩; have HB3 := Lib.hid (bthen HB2.out hb3); have p0 := (HB3.out.cell (p := ⟨w.heap.size, 0, none⟩) HX.out.2.2).trans HX.out.1; have p1 := (HB3.out.cell (p := ⟨w.heap.size, 1, none⟩) HX.out.2.2).trans HX.out.2.1; clear hb3))
  go_wp2_with fail
  go_ret
  exact ⟨rfl, bthen HA.out HB3.out⟩

set_option maxHeartbeats 1600000 in
theorem layP_any (n : Nat) (pl : Nat → Nat) (pr : Nat → Nat → I4) (hpl : ∀ i, i < n → pl i ≤ 48) (hn : n ≤ 48) (v : Value) (w : World) (h : Pgs n pl pr v w) :
    Calls Try.prog 21 #[v, .func (.func 22) #[] #[]] w fun e w' => e = .returned (.string (strOfNums (byW (lsW n fun i => prW (pr i) (pl i))))) ∧ Below w.heap.size w w' := by
  obtain ⟨g, ⟨ao, cap, rfl, h1, h2, h3⟩, hg⟩ := h
  have H3 := Lib.hid h3
  have HG := Lib.hid hg
  clear h3 hg
  have hlen : ∀ i, i < n → ((fun i => prW (pr i) (pl i)) i).length ≤ 1000 := fun i hi => by
    have h1 := hpl i hi
    have h2 : (prW (pr i) (pl i)).length ≤ 1 + pl i * 4 := lsW_len fun k hk => by simp [insW]
    show (prW (pr i) (pl i)).length ≤ 1000
    omega
  have HC : Hid (∀ i v w, i < n → Sl 4 (gI (pr i)) (pl i) v w → Calls Try.prog 22 #[v] w fun e w' => e = .returned (.string (strOfNums (byW ((fun i => prW (pr i) (pl i)) i)))) ∧ Below w.heap.size w w') := fun i v w hi h => layProgram_any (pr i) (pl i) (hpl i hi) v w h
  clear hpl
  have HR : Hid (∀ j, j < n → (byW (lsP n (fun i => prW (pr i) (pl i)) j)).length + (byW ((fun i => prW (pr i) (pl i)) j)).length ≤ 140737488355328) := fun j hj => lsP_room hn hlen j hj
  have HN := Lib.hid hn
  have hn63 : n ≤ 9223372036854775807 := by omega
  clear hlen hn
  have H1 := Lib.hid (packI (n : Int))
  generalize hf : (fun i => prW (pr i) (pl i)) = f at HC HR ⊢
  clear hf
  go_enter Try.func21, Try.ntmps21
  go_wp2_with fail
  refine (H1.out _).mono ?_
  rintro e w1 ⟨rfl, hb1⟩
  go_wp2_with fail
  have K1 := builder_below (builder_new w) hb1
  refine (writeString w.heap.size w.heap.size [] _ _ (.inl K1) (by rw [strOfNums_size, beI_len]; simp) (by have := ls_lt K1; omega)).mono ?_
  rintro e w2 ⟨rfl, hb2, hbel2⟩
  have L0 : Hid (BldAt w w2 (byW (lsP n f 0))) := by
    refine ⟨.inr ?_, ((balloc w _).trans (hb1.mono (by simp))).trans hbel2, ls_lt hb2⟩
    rw [lsP_zero]
    rw [byteCells_nums] at hb2
    exact hb2
  clear hb2 hbel2 K1 hb1
  go_wp2_with fail
  go_loopw [14] (fun i wr => ∃ j : Nat, j ≤ n ∧ i = .int .i64 j ∧ BldAt w wr (byW (lsP n f j))) (fun i _ => n - (intOf i).toNat)
  case atStart => exact ⟨0, Nat.zero_le _, rfl, L0.out⟩
  case round =>
    obtain ⟨j, hj, rfl, hbl⟩ := hrel
    have HB := Lib.hid hbl
    have hl := hbl.2.1
    clear hbl
    by_cases hlt : j < n
    · obtain ⟨b, o, rfl, hA⟩ := H3.out (by omega)
      have c0 := (hA.below hl).one j hlt
      dsimp only [gV] at c0
      have hs := (HG.out j hlt).below hl
      have HS0 := Lib.hid hs
      obtain ⟨aj, capj, ej, _, _, _⟩ := hs
      rw [ej] at c0 HS0
      clear ej
      have HC2 := Lib.hid (fun v w h => HC.out j v w hlt h)
      have HS := Lib.hid (lsP_succ n f j)
      have HR2 := Lib.hid (HR.out j hlt)
      have HL := Lib.hid hl
      clear hA hl
      generalize f j = ys at *
      generalize byW (lsP n f j) = xs at *
      go_wp2_with fail
      refine (HC2.out _ _ HS0.out).mono ?_
      rintro e w3 ⟨rfl, hb3⟩
      go_wp2_with fail
      refine (writeString w.heap.size w.heap.size _ _ _ (isBuilder_below HB.out.1 (hb3)) (by rw [strOfNums_size, Lib.byteCells_length, List.length_map]; exact HR2.out) (by have := HB.out.2.2; have := (hb3).size; omega)).mono ?_
      rintro e w4 ⟨rfl, hb4, hbel4⟩
      have R : Hid (BldAt w w4 (byW (lsP n f (j + 1)))) := by
        rw [HS.out]
        exact bldAt_write (bthen HL.out (hb3)) hb4 hbel4
      clear hb4 hbel4 hb3
      go_wp2_with fail
      go_roundw
      case rel => exact ⟨j + 1, by omega, by go_num, R.out⟩
      case measure => simp [intOf]; omega
    · obtain rfl : j = n := by omega
      clear hl
      go_wp2_with fail
      refine (builderString w.heap.size w.heap.size _ _ HB.out.1 (by have := HB.out.2.2; omega)).mono ?_
      rintro e w5 ⟨rfl, hb5⟩
      go_wp2_with fail
      go_ret
      exact ⟨by rw [strOfNums_eq]; rfl, HB.out.2.1.trans hb5⟩

set_option maxHeartbeats 1600000 in
theorem layL_any (n : Nat) (lp : Nat → Int) (wl : Nat → Nat) (wd : Nat → Nat → Int) (hwl : ∀ i, i < n → wl i ≤ 48) (hn : n ≤ 48) (v : Value) (w : World) (h : Lps n lp wl wd v w) :
    Calls Try.prog 23 #[v, .func (.func 24) #[] #[]] w fun e w' => e = .returned (.string (strOfNums (byW (lsW n fun i => lpW (lp i) (wd i) (wl i))))) ∧ Below w.heap.size w w' := by
  obtain ⟨g, ⟨ao, cap, rfl, h1, h2, h3⟩, hg⟩ := h
  have H3 := Lib.hid h3
  have HG := Lib.hid hg
  clear h3 hg
  have hlen : ∀ i, i < n → ((fun i => lpW (lp i) (wd i) (wl i)) i).length ≤ 1000 := fun i hi => by
    have h1 := hwl i hi
    have h2 : (wdW (wd i) (wl i)).length ≤ 1 + wl i * 1 := lsW_len fun k hk => by simp
    show (lpW (lp i) (wd i) (wl i)).length ≤ 1000
    unfold lpW
    simp only [List.length_cons]
    omega
  have HC : Hid (∀ i v w, i < n → Sl 1 (gW (wd i)) (wl i) v w → Calls Try.prog 24 #[.agg #[.int .i64 (lp i), v]] w fun e w' => e = .returned (.string (strOfNums (byW ((fun i => lpW (lp i) (wd i) (wl i)) i)))) ∧ Below w.heap.size w w') := fun i v w hi h => layProcess_any (lp i) (wd i) (wl i) (hwl i hi) v w h
  clear hwl
  have HR : Hid (∀ j, j < n → (byW (lsP n (fun i => lpW (lp i) (wd i) (wl i)) j)).length + (byW ((fun i => lpW (lp i) (wd i) (wl i)) j)).length ≤ 140737488355328) := fun j hj => lsP_room hn hlen j hj
  have HN := Lib.hid hn
  have hn63 : n ≤ 9223372036854775807 := by omega
  clear hlen hn
  have H1 := Lib.hid (packI (n : Int))
  generalize hf : (fun i => lpW (lp i) (wd i) (wl i)) = f at HC HR ⊢
  clear hf
  go_enter Try.func23, Try.ntmps23
  go_wp2_with fail
  refine (H1.out _).mono ?_
  rintro e w1 ⟨rfl, hb1⟩
  go_wp2_with fail
  have K1 := builder_below (builder_new w) hb1
  refine (writeString w.heap.size w.heap.size [] _ _ (.inl K1) (by rw [strOfNums_size, beI_len]; simp) (by have := ls_lt K1; omega)).mono ?_
  rintro e w2 ⟨rfl, hb2, hbel2⟩
  have L0 : Hid (BldAt w w2 (byW (lsP n f 0))) := by
    refine ⟨.inr ?_, ((balloc w _).trans (hb1.mono (by simp))).trans hbel2, ls_lt hb2⟩
    rw [lsP_zero]
    rw [byteCells_nums] at hb2
    exact hb2
  clear hb2 hbel2 K1 hb1
  go_wp2_with fail
  go_loopw [14] (fun i wr => ∃ j : Nat, j ≤ n ∧ i = .int .i64 j ∧ BldAt w wr (byW (lsP n f j))) (fun i _ => n - (intOf i).toNat)
  case atStart => exact ⟨0, Nat.zero_le _, rfl, L0.out⟩
  case round =>
    obtain ⟨j, hj, rfl, hbl⟩ := hrel
    have HB := Lib.hid hbl
    have hl := hbl.2.1
    clear hbl
    by_cases hlt : j < n
    · obtain ⟨b, o, rfl, hA⟩ := H3.out (by omega)
      obtain ⟨x0, x1⟩ := (hA.below hl).two j hlt
      dsimp only [gL] at x0 x1
      have hs := (HG.out j hlt).below hl
      have HS0 := Lib.hid hs
      obtain ⟨aj, capj, ej, _, _, _⟩ := hs
      rw [ej] at x1 HS0
      clear ej
      have HC2 := Lib.hid (fun v w h => HC.out j v w hlt h)
      have HS := Lib.hid (lsP_succ n f j)
      have HR2 := Lib.hid (HR.out j hlt)
      have HL := Lib.hid hl
      clear hA hl
      generalize f j = ys at *
      generalize byW (lsP n f j) = xs at *
      go_wp2_with fail
      refine (HC2.out _ _ (HS0.out.below (balloc _ _))).mono ?_
      rintro e w3 ⟨rfl, hb3⟩
      go_wp2_with fail
      refine (writeString w.heap.size w.heap.size _ _ _ (isBuilder_below HB.out.1 (bthen (balloc _ _) hb3)) (by rw [strOfNums_size, Lib.byteCells_length, List.length_map]; exact HR2.out) (by have := HB.out.2.2; have := (bthen (balloc _ _) hb3).size; omega)).mono ?_
      rintro e w4 ⟨rfl, hb4, hbel4⟩
      have R : Hid (BldAt w w4 (byW (lsP n f (j + 1)))) := by
        rw [HS.out]
        exact bldAt_write (bthen HL.out (bthen (balloc _ _) hb3)) hb4 hbel4
      clear hb4 hbel4 hb3
      go_wp2_with fail
      go_roundw
      case rel => exact ⟨j + 1, by omega, by go_num, R.out⟩
      case measure => simp [intOf]; omega
    · obtain rfl : j = n := by omega
      clear hl
      go_wp2_with fail
      refine (builderString w.heap.size w.heap.size _ _ HB.out.1 (by have := HB.out.2.2; omega)).mono ?_
      rintro e w5 ⟨rfl, hb5⟩
      go_wp2_with fail
      go_ret
      exact ⟨by rw [strOfNums_eq]; rfl, HB.out.2.1.trans hb5⟩

set_option maxHeartbeats 1600000 in
theorem layE_any (g : Nat → Ev) (n : Nat) (hn : n ≤ 48) (v : Value) (w : World) (h : Sl 3 (gE g) n v w) :
    Calls Try.prog 25 #[v, .func (.func 26) #[] #[]] w fun e w' => e = .returned (.string (strOfNums (byW (lsW n fun i => evW (g i))))) ∧ Below w.heap.size w w' := by
  obtain ⟨ao, cap, rfl, h1, h2, h3⟩ := h
  have H3 := Lib.hid h3
  clear h3
  have hsf := store_float
  have hlen : ∀ i, i < n → ((fun i => evW (g i)) i).length ≤ 1000 := fun i hi => by simp [evW]
  have HC : Hid (∀ i w, Calls Try.prog 26 #[.agg #[.float .f64 (g i).t, .int .i64 (g i).dst, .int .i64 (g i).pay]] w fun e w' => e = .returned (.string (strOfNums (byW ((fun i => evW (g i)) i)))) ∧ Below w.heap.size w w') := fun i w => layEvent_any (g i) w
  have HR : Hid (∀ j, j < n → (byW (lsP n (fun i => evW (g i)) j)).length + (byW ((fun i => evW (g i)) j)).length ≤ 140737488355328) := fun j hj => lsP_room hn hlen j hj
  have HN := Lib.hid hn
  have hn63 : n ≤ 9223372036854775807 := by omega
  clear hlen hn
  have H1 := Lib.hid (packI (n : Int))
  generalize hf : (fun i => evW (g i)) = f at HC HR ⊢
  clear hf
  go_enter Try.func25, Try.ntmps25
  go_wp2_with fail
  refine (H1.out _).mono ?_
  rintro e w1 ⟨rfl, hb1⟩
  go_wp2_with fail
  have K1 := builder_below (builder_new w) hb1
  refine (writeString w.heap.size w.heap.size [] _ _ (.inl K1) (by rw [strOfNums_size, beI_len]; simp) (by have := ls_lt K1; omega)).mono ?_
  rintro e w2 ⟨rfl, hb2, hbel2⟩
  have L0 : Hid (BldAt w w2 (byW (lsP n f 0))) := by
    refine ⟨.inr ?_, ((balloc w _).trans (hb1.mono (by simp))).trans hbel2, ls_lt hb2⟩
    rw [lsP_zero]
    rw [byteCells_nums] at hb2
    exact hb2
  clear hb2 hbel2 K1 hb1
  go_wp2_with fail
  go_loopw [14] (fun i wr => ∃ j : Nat, j ≤ n ∧ i = .int .i64 j ∧ BldAt w wr (byW (lsP n f j))) (fun i _ => n - (intOf i).toNat)
  case atStart => exact ⟨0, Nat.zero_le _, rfl, L0.out⟩
  case round =>
    obtain ⟨j, hj, rfl, hbl⟩ := hrel
    have HB := Lib.hid hbl
    have hl := hbl.2.1
    clear hbl
    by_cases hlt : j < n
    · obtain ⟨b, o, rfl, hA⟩ := H3.out (by omega)
      obtain ⟨x0, x1, x2⟩ := (hA.below hl).three j hlt
      dsimp only [gE] at x0 x1 x2
      have HC2 := Lib.hid (HC.out j)
      generalize g j = s at x0 x1 x2 HC2
      obtain ⟨a0, a1, a2⟩ := s
      dsimp only at x0 x1 x2 HC2
      have HS := Lib.hid (lsP_succ n f j)
      have HR2 := Lib.hid (HR.out j hlt)
      have HL := Lib.hid hl
      clear hA hl
      generalize f j = ys at *
      generalize byW (lsP n f j) = xs at *
      go_wp2_with fail
      refine (HC2.out _).mono ?_
      rintro e w3 ⟨rfl, hb3⟩
      go_wp2_with fail
      refine (writeString w.heap.size w.heap.size _ _ _ (isBuilder_below HB.out.1 (bthen (balloc _ _) hb3)) (by rw [strOfNums_size, Lib.byteCells_length, List.length_map]; exact HR2.out) (by have := HB.out.2.2; have := (bthen (balloc _ _) hb3).size; omega)).mono ?_
      rintro e w4 ⟨rfl, hb4, hbel4⟩
      have R : Hid (BldAt w w4 (byW (lsP n f (j + 1)))) := by
        rw [HS.out]
        exact bldAt_write (bthen HL.out (bthen (balloc _ _) hb3)) hb4 hbel4
      clear hb4 hbel4 hb3
      go_wp2_with fail
      go_roundw
      case rel => exact ⟨j + 1, by omega, by go_num, R.out⟩
      case measure => simp [intOf]; omega
    · obtain rfl : j = n := by omega
      clear hl
      go_wp2_with fail
      refine (builderString w.heap.size w.heap.size _ _ HB.out.1 (by have := HB.out.2.2; omega)).mono ?_
      rintro e w5 ⟨rfl, hb5⟩
      go_wp2_with fail
      go_ret
      exact ⟨by rw [strOfNums_eq]; rfl, HB.out.2.1.trans hb5⟩

end Go.Proofs.Ytemhbcjpgapjkaa
