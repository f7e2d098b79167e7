/- The contract of layer 6's awake. -/
import Derived.Test.YtemhbcjpgapjkaaMioPut
import Derived.Test.YtemhbcjpgapjkaaMioGet
import Derived.Test.YtemhbcjpgapjkaaModelRefSame
namespace Go.Proofs.Ytemhbcjpgapjkaa
open Go.RowKit
set_option linter.unusedVariables false
set_option maxRecDepth 100000

/-- the model that awake asks for -/
def awk6M : Mdl := ⟨5, 4621819117588971520, 1, fun _ => 4607182418800017408, 1, fun _ => 1, fun _ _ => ⟨0, 0, 0, 0⟩, 1, fun _ => 0, fun _ => 1, fun _ _ => 7, 0, fun _ => ⟨0, 0, 0⟩⟩
theorem awk6_mdl (B0 B1 B2 B3 B4 : Nat) (t0 t1 t2 t3 t4 : TypeId) (f0 f1 f2 f3 f4 : Nat × Nat) (W : World) (h0 : W.heap[B0]? = some (.cells #[.float .f64 4607182418800017408] t0 f0))
    (h1 : W.heap[B1]? = some (.cells #[.int .i64 0, .int .i64 0, .int .i64 0, .int .i64 0] t1 f1)) (h2 : W.heap[B2]? = some (.cells #[.slice (some ⟨B1, 0, none⟩) 1 1] t2 f2))
    (h3 : W.heap[B3]? = some (.cells #[.int .i64 7] t3 f3)) (h4 : W.heap[B4]? = some (.cells #[.int .i64 0, .slice (some ⟨B3, 0, none⟩) 1 1] t4 f4)) :
    MdlAt awk6M (.slice (some ⟨B0, 0, none⟩) 1 1) (.slice (some ⟨B2, 0, none⟩) 1 1) (.slice (some ⟨B4, 0, none⟩) 1 1) (.slice none 0 0) W := by
  have one : ∀ i, i < 1 → i = 0 := fun i h => by omega
  have two : ∀ j, j < 2 → j = 0 ∨ j = 1 := fun j h => by omega
  have four : ∀ j, j < 4 → j = 0 ∨ j = 1 ∨ j = 2 ∨ j = 3 := fun j h => by omega
  have row : ∀ (C : Nat) (g : Nat → Nat → Value) (B : Nat) (cs : Array Value) (t : TypeId) (f : Nat × Nat), W.heap[B]? = some (.cells cs t f) → (∀ j, j < C → cs[j]? = some (g 0 j)) → Sl C g 1 (.slice (some ⟨B, 0, none⟩) 1 1) W := by
    intro C g B cs t f h k
    refine ⟨_, 1, rfl, Nat.le_refl _, by omega, fun _ => ⟨B, 0, rfl, lt_of_block h, fun i hi j hj => ?_⟩⟩
    obtain rfl := one i hi
    rw [Lib.cell_of_heap h, show 0 + 0 * C + j = j by omega]
    exact k j hj
  refine ⟨row _ _ _ _ _ _ h0 fun j hj => ?_, ⟨fun _ => .slice (some ⟨B1, 0, none⟩) 1 1, row _ _ _ _ _ _ h2 fun j hj => ?_, fun k hk => row _ _ _ _ _ _ h1 fun j hj => ?_⟩,
    ⟨fun _ => .slice (some ⟨B3, 0, none⟩) 1 1, row _ _ _ _ _ _ h4 fun j hj => ?_, fun k hk => row _ _ _ _ _ _ h3 fun j hj => ?_⟩, ⟨none, 0, rfl, Nat.le_refl _, by omega, fun h => absurd h (Nat.lt_irrefl 0)⟩⟩
  · obtain rfl := one j hj; rfl
  · obtain rfl := one j hj; rfl
  · rcases four j hj with rfl | rfl | rfl | rfl <;> rfl
  · rcases two j hj with rfl | rfl <;> rfl
  · obtain rfl := one j hj; rfl
theorem awk6_may : mayB awk6M = true := by decide +kernel
theorem awk6_rng : Rng awk6M := by
  have r0 : r64 0 := ⟨by decide, by decide⟩
  have r7 : r64 7 := ⟨by decide, by decide⟩
  refine ⟨⟨by decide, by decide⟩, by decide, fun i _ => by show (4607182418800017408 : Nat) < _; decide, fun i _ k _ => ?_, fun i _ => ?_, fun i _ k _ => ?_, fun i hi => absurd hi (Nat.not_lt_zero i)⟩
  · exact ⟨r0, r0, r0, r0⟩
  · exact r0
  · exact r7
theorem awk6_put : putS awk6M = layM awk6M ∧ chkN awk6M = 0 := ⟨by unfold putS; rw [awk6_may]; rfl, by unfold chkN; rw [awk6_may]; rfl⟩
theorem awk6_size : (layM awk6M).size = 120 := by unfold layM; rw [strOfNums_size, byW_len]; rfl
theorem awk6_get : getE (layM awk6M) = 0 ∧ sameB (getR (layM awk6M)) awk6M = true := by
  obtain ⟨h1, h2⟩ := back_all awk6_rng awk6_may
  refine ⟨h1, ?_⟩
  unfold getR
  rw [if_pos h1]
  exact h2.same
theorem awk6_head : (layM awk6M).extract 0 8 = strOfNums (beI 8 (flip63 5)) := by
  apply Go.WideShapes.bytes_inj
  unfold layM
  rw [show mdlW awk6M = flip63 5 :: (mdlW awk6M).tail from rfl, byW_cons, ← strOfNums_append]
  rw [ByteArray.data_extract, ByteArray.data_append, Array.toList_extract, Array.toList_append, strOfNums_data, strOfNums_data]
  simp [beI_len]

theorem MdlAt.forms {m : Mdl} {vd vp vl vi : Value} {w : World} (h : MdlAt m vd vp vl vi w) : ∃ ad cd ap cp al cl ai ci, vd = .slice ad m.nd cd ∧ vp = .slice ap m.np cp ∧ vl = .slice al m.nl cl ∧ vi = .slice ai m.ni ci := by
  obtain ⟨⟨ad, cd, e1, _⟩, ⟨g2, ⟨ap, cp, e2, _⟩, _⟩, ⟨g3, ⟨al, cl, e3, _⟩, _⟩, ⟨ai, ci, e4, _⟩⟩ := h
  exact ⟨_, _, _, _, _, _, _, _, e1, e2, e3, e4⟩
theorem size6A (w : World) (o : Obj) : (w.alloc o).heap.size = w.heap.size + 1 := World.size_alloc w o
theorem heap6A (w : World) (o : Obj) (n : Nat) (h : w.heap.size = n) : (w.alloc o).heap[n]? = some o := by subst h; exact heap_alloc_new w o
/-- the blocks that awake makes first -/
def awk6W (w : World) : World := (((((w.alloc (.cells #[.float .f64 4607182418800017408] 22)).alloc (.cells #[.int .i64 0, .int .i64 0, .int .i64 0, .int .i64 0] 45)).alloc (.cells #[.slice (some ⟨w.heap.size + 1, 0, none⟩) 1 1] 40)).alloc (.cells #[.int .i64 7] 3)).alloc (.cells #[.int .i64 0, .slice (some ⟨w.heap.size + 1 + 1 + 1, 0, none⟩) 1 1] 43)).alloc (.cells #[.int .i64 5, .float .f64 4621819117588971520, .slice (some ⟨w.heap.size, 0, none⟩) 1 1, .slice (some ⟨w.heap.size + 1 + 1, 0, none⟩) 1 1, .slice (some ⟨w.heap.size + 1 + 1 + 1 + 1, 0, none⟩) 1 1, .slice none 0 0] 28)
theorem awk6W_below (w : World) : Below w.heap.size w (awk6W w) := bthen (bthen (bthen (bthen (bthen (balloc _ _) (balloc _ _)) (balloc _ _)) (balloc _ _)) (balloc _ _)) (balloc _ _)
theorem awk6W_0 (w : World) : (awk6W w).heap[w.heap.size]? = some (.cells #[.float .f64 4607182418800017408] 22 (0, 0)) := by
  unfold awk6W
  rw [Below.heap_alloc _ _ _ (by simp only [size6A]; omega)]
  rw [Below.heap_alloc _ _ _ (by simp only [size6A]; omega)]
  rw [Below.heap_alloc _ _ _ (by simp only [size6A]; omega)]
  rw [Below.heap_alloc _ _ _ (by simp only [size6A]; omega)]
  rw [Below.heap_alloc _ _ _ (by simp only [size6A]; omega)]
  exact heap6A _ _ _ (rfl)
theorem awk6W_1 (w : World) : (awk6W w).heap[w.heap.size + 1]? = some (.cells #[.int .i64 0, .int .i64 0, .int .i64 0, .int .i64 0] 45 (0, 0)) := by
  unfold awk6W
  rw [Below.heap_alloc _ _ _ (by simp only [size6A]; omega)]
  rw [Below.heap_alloc _ _ _ (by simp only [size6A]; omega)]
  rw [Below.heap_alloc _ _ _ (by simp only [size6A]; omega)]
  rw [Below.heap_alloc _ _ _ (by simp only [size6A]; omega)]
  exact heap6A _ _ _ (by simp only [size6A])
theorem awk6W_2 (w : World) : (awk6W w).heap[w.heap.size + 1 + 1]? = some (.cells #[.slice (some ⟨w.heap.size + 1, 0, none⟩) 1 1] 40 (0, 0)) := by
  unfold awk6W
  rw [Below.heap_alloc _ _ _ (by simp only [size6A]; omega)]
  rw [Below.heap_alloc _ _ _ (by simp only [size6A]; omega)]
  rw [Below.heap_alloc _ _ _ (by simp only [size6A]; omega)]
  exact heap6A _ _ _ (by simp only [size6A])
theorem awk6W_3 (w : World) : (awk6W w).heap[w.heap.size + 1 + 1 + 1]? = some (.cells #[.int .i64 7] 3 (0, 0)) := by
  unfold awk6W
  rw [Below.heap_alloc _ _ _ (by simp only [size6A]; omega)]
  rw [Below.heap_alloc _ _ _ (by simp only [size6A]; omega)]
  exact heap6A _ _ _ (by simp only [size6A])
theorem awk6W_4 (w : World) : (awk6W w).heap[w.heap.size + 1 + 1 + 1 + 1]? = some (.cells #[.int .i64 0, .slice (some ⟨w.heap.size + 1 + 1 + 1, 0, none⟩) 1 1] 43 (0, 0)) := by
  unfold awk6W
  rw [Below.heap_alloc _ _ _ (by simp only [size6A]; omega)]
  exact heap6A _ _ _ (by simp only [size6A])
theorem awk6W_5 (w : World) : (awk6W w).heap[w.heap.size + 1 + 1 + 1 + 1 + 1]? = some (.cells #[.int .i64 5, .float .f64 4621819117588971520, .slice (some ⟨w.heap.size, 0, none⟩) 1 1, .slice (some ⟨w.heap.size + 1 + 1, 0, none⟩) 1 1, .slice (some ⟨w.heap.size + 1 + 1 + 1 + 1, 0, none⟩) 1 1, .slice none 0 0] 28 (0, 0)) := by
  unfold awk6W
  exact heap6A _ _ _ (by simp only [size6A])
theorem awk6W_mdl (w : World) : MdlAt awk6M (.slice (some ⟨w.heap.size, 0, none⟩) 1 1) (.slice (some ⟨w.heap.size + 1 + 1, 0, none⟩) 1 1) (.slice (some ⟨w.heap.size + 1 + 1 + 1 + 1, 0, none⟩) 1 1) (.slice none 0 0) (awk6W w) :=
  awk6_mdl _ _ _ _ _ _ _ _ _ _ _ _ _ _ _ _ (awk6W_0 w) (awk6W_1 w) (awk6W_2 w) (awk6W_3 w) (awk6W_4 w)

set_option maxHeartbeats 3200000 in
theorem awake6_any (w : World) : Calls Try.prog 9 #[] w fun e w' => e = .returned (.bool true) ∧ Below w.heap.size w w' := by
  have hsf := store_float
  have HM := Lib.hid (awk6W_mdl w)
  have HB := Lib.hid (awk6W_below w)
  have H5 := Lib.hid (awk6W_5 w)
  have HP : Hid (Calls Try.prog 10 #[.agg #[.int .i64 5, .float .f64 4621819117588971520, .slice (some ⟨w.heap.size, 0, none⟩) 1 1, .slice (some ⟨w.heap.size + 1 + 1, 0, none⟩) 1 1, .slice (some ⟨w.heap.size + 1 + 1 + 1 + 1, 0, none⟩) 1 1, .slice none 0 0]] (awk6W w) fun e w' => e = .returned (.tuple #[.string (layM awk6M), .int .i64 0]) ∧ Below (awk6W w).heap.size (awk6W w) w') := by
    have := put_any awk6M _ _ _ _ (awk6W w) HM.out
    rw [awk6_put.1, awk6_put.2] at this
    exact this
  have HG := Lib.hid (get_any (layM awk6M) (by rw [awk6_size]; omega))
  have hsz := awk6_size
  have HH := Lib.hid awk6_head
  have HE := Lib.hid awk6_get
  generalize layM awk6M = S at *
  have h8 : ¬ S.size < 8 := by omega
  go_enter Try.func9, Try.ntmps9
  go_wp2_with fail
  refine HP.out.mono ?_
  rintro e w1 ⟨rfl, hb1⟩
  have B1 := Lib.hid (bthen HB.out hb1)
  have M1 := Lib.hid (HM.out.below hb1)
  have C1 := Lib.hid ((hb1.block _ (lt_of_block H5.out)).trans H5.out)
  clear hb1
  go_wp2_with fail
  refine (HG.out _).mono ?_
  rintro e w3 ⟨vd, vp, vl, vi, rfl, hm, hb3⟩
  obtain ⟨ad, cd, ap, cp, al, cl, ai, ci, rfl, rfl, rfl, rfl⟩ := hm.forms
  have HS := Lib.hid (fun w2 (k : Below w3.heap.size w3 w2) => refSame_any (getR S) awk6M _ _ _ _ _ _ _ _ w2 (hm.below k) ((M1.out.below hb3).below k))
  rw [HE.out.2] at HS
  rw [HE.out.1]
  unfold mval at HS ⊢
  have B3 := Lib.hid (bthen B1.out hb3)
  have C3 := Lib.hid ((hb3.block _ (lt_of_block C1.out)).trans C1.out)
  clear hm hb3
  generalize (getR S).seed = seed at *
  generalize (getR S).fin = fin at *
  generalize (getR S).nd = nd at *
  generalize (getR S).np = np at *
  generalize (getR S).nl = nl at *
  generalize (getR S).ni = ni at *
  have X3 := Lib.hid (Box6.new (.int .i64 seed) (.float .f64 fin) (.slice ad nd cd) (.slice ap np cp) (.slice al nl cl) (.slice ai ni ci) 28 w3)
  have A3 := Lib.hid (balloc w3 (.cells #[.int .i64 seed, .float .f64 fin, .slice ad nd cd, .slice ap np cp, .slice al nl cl, .slice ai ni ci] 28))
  obtain ⟨x0, x1, x2, x3, x4, x5, _⟩ := six_cells ((A3.out.block _ (lt_of_block C3.out)).trans C3.out)
  obtain ⟨_, y0, y1, y2, y3, y4, y5⟩ := X3.out
  have XC := Lib.hid (six_cells ((A3.out.block _ (lt_of_block C3.out)).trans C3.out))
  have hlt := Lib.hid (Nat.lt_of_lt_of_le (lt_of_block C3.out) A3.out.size)
  go_wp2_with fail
  have B4 := Lib.hid (bthen B3.out A3.out)
  have h9 : decide ((8 : Int) < (S.size : Int)) = true := by rw [decide_eq_true_eq]; omega
  have hHd := HH.out
  have HI := Lib.hid (refI 5)
  generalize strOfNums (beI 8 (flip63 5)) = I5 at *
  have HD := Lib.hid (bdrew (w3.alloc (.cells #[.int .i64 seed, .float .f64 fin, .slice ad nd cd, .slice ap np cp, .slice al nl cl, .slice ai ni ci] 28)))
  go_region_held3 (fun w' => w'.cell? ⟨w.heap.size + 1 + 1 + 1 + 1 + 1, 0, none⟩ = some (.int .i64 5) ∧ w'.cell? ⟨w.heap.size + 1 + 1 + 1 + 1 + 1, 1, none⟩ = some (.float .f64 4621819117588971520) ∧ w'.cell? ⟨w.heap.size + 1 + 1 + 1 + 1 + 1, 2, none⟩ = some (.slice (some ⟨w.heap.size, 0, none⟩) 1 1) ∧ w'.cell? ⟨w.heap.size + 1 + 1 + 1 + 1 + 1, 3, none⟩ = some (.slice (some ⟨w.heap.size + 1 + 1, 0, none⟩) 1 1) ∧ w'.cell? ⟨w.heap.size + 1 + 1 + 1 + 1 + 1, 4, none⟩ = some (.slice (some ⟨w.heap.size + 1 + 1 + 1 + 1, 0, none⟩) 1 1) ∧ w'.cell? ⟨w.heap.size + 1 + 1 + 1 + 1 + 1, 5, none⟩ = some (.slice none 0 0) ∧ w'.cell? ⟨w3.heap.size, 0, none⟩ = some (.int .i64 seed) ∧ w'.cell? ⟨w3.heap.size, 1, none⟩ = some (.float .f64 fin) ∧ w'.cell? ⟨w3.heap.size, 2, none⟩ = some (.slice ad nd cd) ∧ w'.cell? ⟨w3.heap.size, 3, none⟩ = some (.slice ap np cp) ∧ w'.cell? ⟨w3.heap.size, 4, none⟩ = some (.slice al nl cl) ∧ w'.cell? ⟨w3.heap.size, 5, none⟩ = some (.slice ai ni ci)) (go_keep) (first
    | (go_at_call 16; refine (HI.out _).mono ?_; rintro e v1 ⟨rfl, hb1⟩; have D1 := Lib.hid (bthen HD.out hb1); obtain ⟨_, y0, y1, y2, y3, y4, y5⟩ := X3.out.below D1.out; obtain ⟨x0, x1, x2, x3, x4, x5, _⟩ := six_cells ((D1.out.block _ hlt.out).trans ((A3.out.block _ (lt_of_block C3.out)).trans C3.out)); clear hb1)
    | (go_at_call 15; refine (HS.out _ (bthen A3.out D1.out)).mono ?_; rintro e v2 ⟨rfl, hb2⟩; have D2 := Lib.hid (bthen D1.out hb2); obtain ⟨_, y0, y1, y2, y3, y4, y5⟩ := X3.out.below D2.out; obtain ⟨x0, x1, x2, x3, x4, x5, _⟩ := six_cells ((D2.out.block _ hlt.out).trans ((A3.out.block _ (lt_of_block C3.out)).trans C3.out)); clear hb2))
  go_wp2_with fail
  go_ret
  exact ⟨rfl, bthen B4.out D2.out⟩

end Go.Proofs.Ytemhbcjpgapjkaa
