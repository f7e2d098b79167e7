/- The program's root: numbers of two bytes, and the bytes behind the check. The program's root: the bytes behind the check, laid. The program's Put. -/
import Derived.Laws.CopyOwn
import Derived.Laws.IdiomCopy
import Derived.Test.YtdpmpmaepjgndaaGreatYZ35
import Derived.Test.YtdpmpmaepjgndaaGreatYZ3
import Derived.Test.YtdpmpmaepjgndaaGreatYZ28
namespace Go.Proofs.YtdpmpmaepjgndaaGreat
open Go.RowKit Go.Deep
set_option linter.unusedVariables false
set_option linter.unusedSimpArgs false
set_option maxRecDepth 100000

theorem beI_eight (n : Int) : ∃ l, l.length = 6 ∧ beI 8 n = l ++ beI 2 n := ⟨[n / 256 ^ 7 % 256, n / 256 ^ 6 % 256, n / 256 ^ 5 % 256, n / 256 ^ 4 % 256, n / 256 ^ 3 % 256, n / 256 ^ 2 % 256], rfl, rfl⟩
theorem str_two (n : Int) : (strOfNums (beI 8 n)).extract 6 8 = strOfNums (beI 2 n) := by
  obtain ⟨l, hl, e⟩ := beI_eight n
  rw [e, ← strOfNums_append]
  have s1 : (strOfNums l).size = 6 := by rw [strOfNums_size, hl]
  have s2 : (strOfNums (beI 2 n)).size = 2 := by rw [strOfNums_size, beI_len]
  refine byD_ext ?_ fun j hj => ?_
  · rw [ByteArray.size_extract, ByteArray.size_append, s1, s2]; rfl
  · rw [ByteArray.size_extract, ByteArray.size_append, s1, s2] at hj
    have hj2 : j < 2 := by simpa using hj
    rw [byD_cut _ _ _ _ (by omega), byD_app, s1, if_neg (by omega)]
    congr 1; omega
theorem pshort_any (n : Int) (h0 : 0 ≤ n) (h1 : n ≤ 65535) (w : World) : Calls Tryz.prog 154 #[.int .i64 n] w fun e w' => e = .returned (.string (strOfNums (beI 2 n))) ∧ Below w.heap.size w w' := by
  have hw : IntKind.u64.wrap n = n := by rw [IntKind.wrap_u64]; omega
  have HU := Lib.hid (packU n)
  have hs : (strOfNums (beI 8 n)).size = 8 := by rw [strOfNums_size, beI_len]
  have E := Lib.hid (str_two n)
  generalize strOfNums (beI 8 n) = s at *
  generalize strOfNums (beI 2 n) = t at *
  clear h0 h1
  go_enter Tryz.func154, Tryz.ntmps154
  go_wp2_with fail
  refine (HU.out _).mono ?_
  rintro e w1 ⟨rfl, hb⟩
  have B1 := Lib.hid hb
  clear hb
  go_wp2_with fail
  go_ret
  exact ⟨by rw [← E.out]; rfl, B1.out⟩

/-- the program's array of pages: the parts, and 0 behind them -/
def five (l : List Int) : List Int := (List.range 5).map fun i => l.getD i 0
def fiveV (l : List Int) : List Value := (five l).map (Value.int .i64)
theorem five_eq {l : List Int} (h : l.length ≤ 5) : five l = l ++ List.replicate (5 - l.length) 0 := by
  apply List.ext_getElem
  · simp [five]; omega
  · intro i h1 h2
    have hi : i < 5 := by simpa [five] using h1
    have e : ∀ (h3 : i < ((List.range 5).map fun i => l.getD i 0).length), ((List.range 5).map fun i => l.getD i 0)[i] = l.getD i 0 := fun h3 => by rw [List.getElem_map, List.getElem_range]
    rw [show (five l)[i] = l.getD i 0 from e h1]
    rw [List.getElem_append]
    split
    · rename_i h4
      rw [List.getD_eq_getElem?_getD, List.getElem?_eq_getElem h4]; rfl
    · rename_i h4
      rw [List.getD_eq_getElem?_getD, List.getElem?_eq_none (by omega), List.getElem_replicate]; rfl
theorem twosL_app (a b : List Int) : twosL (a ++ b) = twosL a ++ twosL b := by
  induction a with
  | nil => rfl
  | cons x a ih => simp only [List.cons_append, twosL, ih, List.append_assoc]
theorem twosL_zero (n : Nat) : twosL (List.replicate n 0) = List.replicate (2 * n) 0 := by
  induction n with
  | zero => rfl
  | succ n ih =>
    rw [List.replicate_succ, twosL, ih, show 2 * (n + 1) = 2 * n + 1 + 1 by omega, List.replicate_succ, List.replicate_succ]
    rfl
/-- what the builder holds after the first j pages -/
def preR (lg : Int) (l : List Int) (j : Nat) : List Int := twosL (lg :: (l.length : Int) :: (five l).take j)
theorem preR_succ (lg : Int) (l : List Int) {j : Nat} (h : j < 5) : preR lg l (j + 1) = preR lg l j ++ beI 2 (l.getD j 0) := by
  have hl : j < (five l).length := by simp [five]; omega
  have e : ∀ (h3 : j < ((List.range 5).map fun i => l.getD i 0).length), ((List.range 5).map fun i => l.getD i 0)[j] = l.getD j 0 := fun h3 => by rw [List.getElem_map, List.getElem_range]
  unfold preR
  rw [List.take_succ_eq_append_getElem hl, show (five l)[j] = l.getD j 0 from e hl, ← List.cons_append, ← List.cons_append, twosL_snoc]
theorem preR_len (lg : Int) (l : List Int) {j : Nat} (h : j ≤ 5) : (preR lg l j).length = 4 + 2 * j := by
  unfold preR
  rw [twosL_len, List.length_cons, List.length_cons, List.length_take]
  have : (five l).length = 5 := by simp [five]
  omega
theorem body_nums (ep lg : Int) {l : List Int} (h : l.length ≤ 5) : strOfNums (preR lg l 5 ++ List.replicate 30 0) = bodyR ⟨ep, lg, l⟩ := by
  have h5 : (five l).length = 5 := by simp [five]
  have e : preR lg l 5 = twosL (lg :: (l.length : Int) :: l) ++ List.replicate (2 * (5 - l.length)) 0 := by
    unfold preR
    rw [List.take_of_length_le (by omega), five_eq h, ← List.cons_append, ← List.cons_append, twosL_app, twosL_zero]
  have hl : (twosL (lg :: (l.length : Int) :: l)).length = 4 + 2 * l.length := by rw [twosL_len]; simp; omega
  unfold bodyR
  refine byD_ext ?_ fun j hj => ?_
  · rw [padN_size, strOfNums_size, List.length_append, preR_len lg l (Nat.le_refl 5), List.length_replicate]
  · rw [strOfNums_size, List.length_append, preR_len lg l (Nat.le_refl 5), List.length_replicate] at hj
    rw [byD_pad _ _ _ (by omega), e, List.append_assoc, List.replicate_append_replicate]
    unfold restR
    have hb := twosL_bd (lg :: (l.length : Int) :: l)
    rw [byD_nums _ (fun x hx => by
      rcases List.mem_append.1 hx with hx | hx
      · exact hb x hx
      · rw [List.eq_of_mem_replicate hx]; omega) j (by rw [List.length_append, List.length_replicate, hl]; omega)]
    rw [List.getElem_append]
    split
    · rename_i h4
      rw [byD_nums _ hb j h4]
    · rename_i h4
      rw [List.getElem_replicate, byD_out]
      rw [strOfNums_size]
      show (twosL (lg :: (l.length : Int) :: l)).length ≤ j
      omega
theorem size_int13 : (Tryz.prog.info? 3).map (·.size) = some 1 := by kernel_rfl
/-- 'copy(pages[:], r.Parts)' -/
theorem copy_five {w : World} {P base : Nat} {l : List Int} {ao : Option Addr} {cap : Nat} (hP : w.heap[P]? = some (.cells (fiveV []).toArray 181 (0, 0))) (h5 : l.length ≤ 5) (hA : 0 < l.length → ∃ b o, ao = some ⟨b, o, none⟩ ∧ At 1 (gW fun i => l.getD i 0) l.length b o w) (hb : base ≤ P) :
    ∃ w2, (Builtin.copy_ #[38, 38] 3 #[.slice (some ⟨P, 0, none⟩) 5 5, .slice ao l.length cap]).run Tryz.prog w = .ok (goInt l.length) w2 ∧ w2.heap[P]? = some (.cells (fiveV l).toArray 181 (0, 0)) ∧ Below base w w2 ∧ w2.heap.size = w.heap.size ∧ ∀ k, k ≠ P → w2.heap[k]? = w.heap[k]? := by
  by_cases h0 : l.length = 0
  · refine ⟨w, ?_, ?_, Below.refl _ _, rfl, fun _ _ => rfl⟩
    · rw [h0]
      exact run_copy_none w 38 38 3 3 _ _ 5 5 0 cap Tryz.underlying38 size_int13 rfl
    · rw [hP, List.eq_nil_of_length_eq_zero h0]
  · obtain ⟨b, o, rfl, hC⟩ := hA (by omega)
    have hlen : (l.map (Value.int .i64)).length = l.length := by simp
    have h := run_copy_row (P := Tryz.prog) w 38 38 3 3 P 0 5 5 ⟨b, o, none⟩ l.length cap _ 181 (l.map (Value.int .i64)) Tryz.underlying38 size_int13 hP
      (by rw [hlen]; exact (Nat.min_eq_left h5).symm)
      (fun j v hj => by
        rw [List.getElem?_map] at hj
        rcases Nat.lt_or_ge j l.length with hjl | hjl
        · rw [List.getElem?_eq_getElem hjl] at hj
          simp only [Option.map_some, Option.some.injEq] at hj
          subst hj
          rw [add_plain, hC.one j hjl]
          show some (Value.int .i64 (l.getD j 0)) = _
          rw [List.getD_eq_getElem?_getD, List.getElem?_eq_getElem hjl]; rfl
        · rw [List.getElem?_eq_none hjl] at hj; simp at hj)
      (by rw [hlen]; simp [fiveV, five]; omega)
      (by intro v hv; obtain ⟨x, _, rfl⟩ := List.mem_map.1 hv; rfl)
    rw [hlen] at h
    refine ⟨_, h, ?_, below_setRow (Below.refl _ _) hb _, by simp [World.setRow], fun k hk => setRow_other w P k _ hk⟩
    rw [setRow_heap w P _ _ _ _ hP]
    congr 3
    unfold fiveV
    rw [five_eq h5]
    have e : five ([] : List Int) = List.replicate 5 0 := rfl
    rw [e, List.map_replicate]
    simp only [List.take_zero, List.nil_append, List.map_append, List.map_replicate, Nat.zero_add, hlen, List.drop_replicate]

end Go.Proofs.YtdpmpmaepjgndaaGreat
namespace Go.Proofs.YtdpmpmaepjgndaaGreat
open Go.RowKit Go.Deep
set_option linter.unusedVariables false
set_option linter.unusedSimpArgs false
set_option maxRecDepth 100000

/-- a builder in block b that holds these bytes -/
def Bl13 (b : Nat) (xs : List Int) (w : World) : Prop := Lib.IsBuilder 184 5 b b (Lib.byteCells (xs.map toU8)) w
theorem Bl13.write {b : Nat} {xs : List Int} {w : World} (h : Bl13 b xs w) (hb : b ≤ w.heap.size) (ys : List Int) (hl : xs.length + ys.length ≤ 100000) :
    Calls Tryz.prog 153 #[.pointer (some ⟨b, 0, none⟩), .string (strOfNums ys)] w fun e w' => (∃ v, e = .returned v) ∧ Bl13 b (xs ++ ys) w' ∧ Below b w w' := by
  refine (writeString b b _ (strOfNums ys) w h (by rw [Lib.byteCells_length, List.length_map, strOfNums_size]; omega) hb).mono ?_
  rintro e w' ⟨rfl, h1, h2⟩
  refine ⟨⟨_, rfl⟩, Or.inr ?_, h2⟩
  rw [byteCells_nums, ← byteCells_append, ← List.map_append] at h1
  exact h1
theorem Bl13.below {b : Nat} {xs : List Int} {w w' : World} (h : Bl13 b xs w) (k : Below w.heap.size w w') : Bl13 b xs w' := isBuilder_below h k
theorem Bl13.new (w : World) : Bl13 w.heap.size [] (w.alloc (.cells #[.pointer none, .slice none 0 0] 184)) := Or.inl (builder_new w)
theorem Bl13.text {b : Nat} {xs : List Int} {w : World} (h : Bl13 b xs w) (hb : b ≤ w.heap.size) :
    Calls Tryz.prog 157 #[.pointer (some ⟨b, 0, none⟩)] w fun e w' => e = .returned (.string (strOfNums xs)) ∧ Below b w w' := by
  have := builderString b b (xs.map toU8) w h hb
  rw [← strOfNums_eq] at this
  exact this
theorem Bl13.len {b : Nat} {xs : List Int} {w : World} (h : Bl13 b xs w) :
    Calls Tryz.prog 156 #[.pointer (some ⟨b, 0, none⟩)] w fun e w' => e = .returned (.int .i64 xs.length) ∧ w' = w := by
  have := lenF b b _ w (Lib.IsBuilderF.of h)
  rw [Lib.byteCells_length, List.length_map] at this
  exact this
/-- what a function made in new memory, and what was below it -/
theorem Below.down {b B : Nat} {w w' : World} (h : Below b w w') (hB : B ≤ b) : Below B w w' := h.mono hB

/-- what bodyOf has in memory: its root, its pages, its builder -/
structure B13 (u : World) (C : Nat) (r p : Obj) (xs : List Int) (w : World) : Prop where
  bl : Bl13 (C + 2) xs w
  lo : Below C u w
  sz : C + 3 ≤ w.heap.size
  bx : w.heap[C]? = some r
  ar : w.heap[C + 1]? = some p
theorem B13.below {u : World} {C : Nat} {r p : Obj} {xs : List Int} {w w' : World} (h : B13 u C r p xs w) (k : Below w.heap.size w w') : B13 u C r p xs w' :=
  ⟨h.bl.below k, h.lo.trans (k.mono (by have := h.sz; omega)), Nat.le_trans h.sz k.size, heap_stays13 h.bx k, heap_stays13 h.ar k⟩
theorem B13.write {u : World} {C : Nat} {r p : Obj} {xs : List Int} {w : World} (h : B13 u C r p xs w) (ys : List Int) (hl : xs.length + ys.length ≤ 100000) :
    Calls Tryz.prog 153 #[.pointer (some ⟨C + 2, 0, none⟩), .string (strOfNums ys)] w fun e w' => (∃ v, e = .returned v) ∧ B13 u C r p (xs ++ ys) w' := by
  refine (h.bl.write (by have := h.sz; omega) ys hl).mono ?_
  rintro e w' ⟨he, h1, h2⟩
  exact ⟨he, h1, h.lo.trans (h2.mono (by omega)), Nat.le_trans h.sz h2.size, (h2.block C (by omega)).trans h.bx, (h2.block (C + 1) (by omega)).trans h.ar⟩
theorem B13.same {u : World} {C : Nat} {r p : Obj} {xs ys : List Int} {w : World} (h : B13 u C r p xs w) (e : xs = ys) : B13 u C r p ys w := e ▸ h
theorem run_index_five (q : Nat → Int) (j : Nat) (hj : j < 5) (w : World) : (Instr.index 181 (.agg #[.int .i64 (q 0), .int .i64 (q 1), .int .i64 (q 2), .int .i64 (q 3), .int .i64 (q 4)]) (.int .i64 (j : Int))).run Tryz.prog w = .ok (.int .i64 (q j)) w := by
  have h1 : ¬ (j : Int) < 0 := by omega
  rcases (by omega : j = 0 ∨ j = 1 ∨ j = 2 ∨ j = 3 ∨ j = 4) with rfl | rfl | rfl | rfl | rfl <;>
    simp [Instr.index, run_underlying Tryz.underlying181, asIntOf, h1, go_sem]
set_option maxHeartbeats 12800000 in
theorem pbodyOf_any (ep lg : Int) (l : List Int) (v : Value) (u : World) (hm : MayR lg l) (hv : LstI l v u) :
    Calls Tryz.prog 116 #[rtV ep lg v] u fun e w' => e = .returned (.string (bodyR ⟨ep, lg, l⟩)) ∧ Below u.heap.size u w' := by
  obtain ⟨ao, cap, rfl, hc1, hc2, hA⟩ := hv
  obtain ⟨m1, m2, m3, m4, m5⟩ := hm
  have h5 : l.length ≤ 5 := by have := need_le (n := lg) m2; omega
  have EB := Lib.hid (body_nums ep lg h5)
  have HPG : Hid (∀ j, 0 ≤ l.getD j 0 ∧ l.getD j 0 ≤ 1023) := Lib.hid (fun j => by
    rcases Nat.lt_or_ge j l.length with h | h
    · exact m4 j h
    · rw [List.getD_eq_getElem?_getD, List.getElem?_eq_none h]; simp)
  have HR := Lib.hid repeat30
  have HS1 := Lib.hid (fun w => pshort_any lg m1 (by omega) w)
  have HS2 := Lib.hid (fun w => pshort_any (l.length : Int) (by omega) (by omega) w)
  have HS3 : Hid (∀ j w, Calls Tryz.prog 154 #[.int .i64 (l.getD j 0)] w fun e w' => e = .returned (.string (strOfNums (beI 2 (l.getD j 0)))) ∧ Below w.heap.size w w') := Lib.hid (fun j w => pshort_any _ (HPG.out j).1 (by have := (HPG.out j).2; omega) w)
  have X1 := Lib.hid (heap_alloc_new u (.cells #[.int .i64 ep, .int .i64 lg, .slice ao l.length cap] 100))
  have B1 := Lib.hid (balloc u (.cells #[.int .i64 ep, .int .i64 lg, .slice ao l.length cap] 100))
  have S1 : (u.alloc (.cells #[.int .i64 ep, .int .i64 lg, .slice ao l.length cap] 100)).heap.size = u.heap.size + 1 := by simp
  have A1 : Hid (0 < l.length → ∃ b o, ao = some ⟨b, o, none⟩ ∧ b < u.heap.size ∧ At 1 (gW fun i => l.getD i 0) l.length b o (u.alloc (.cells #[.int .i64 ep, .int .i64 lg, .slice ao l.length cap] 100))) := Lib.hid (fun h => by
    obtain ⟨b, o, e, hb⟩ := hA h
    exact ⟨b, o, e, hb.1, hb.below (balloc u _)⟩)
  obtain ⟨C, hC⟩ : ∃ C, C = u.heap.size := ⟨_, rfl⟩
  have HCC := Lib.hid hC
  rw [← hC] at X1 S1
  unfold rtV
  clear hA m1 m2 m3 m4 m5 HPG
  go_enter Tryz.func116, Tryz.ntmps116
  go_upto_region 2 with fail
  rw [← hC]
  generalize u.alloc (.cells #[.int .i64 ep, .int .i64 lg, .slice ao l.length cap] 100) = w1 at *
  have P2 := Lib.hid (heap_alloc_new w1 (.cells #[.int .i64 0, .int .i64 0, .int .i64 0, .int .i64 0, .int .i64 0] 181))
  have B2 := Lib.hid (bthen B1.out (balloc w1 (.cells #[.int .i64 0, .int .i64 0, .int .i64 0, .int .i64 0, .int .i64 0] 181)))
  have X2 := Lib.hid (heap_stays13 X1.out (balloc w1 (.cells #[.int .i64 0, .int .i64 0, .int .i64 0, .int .i64 0, .int .i64 0] 181)))
  have S2 : (w1.alloc (.cells #[.int .i64 0, .int .i64 0, .int .i64 0, .int .i64 0, .int .i64 0] 181)).heap.size = C + 2 := by simp; omega
  have A2 : Hid (0 < l.length → ∃ b o, ao = some ⟨b, o, none⟩ ∧ At 1 (gW fun i => l.getD i 0) l.length b o (w1.alloc (.cells #[.int .i64 0, .int .i64 0, .int .i64 0, .int .i64 0, .int .i64 0] 181))) := Lib.hid (fun h => by
    obtain ⟨b, o, e, hlt, hb⟩ := A1.out h
    exact ⟨b, o, e, hb.below (balloc w1 _)⟩)
  rw [S1] at P2
  clear hC X1 B1 A1 S1
  generalize w1.alloc (.cells #[.int .i64 0, .int .i64 0, .int .i64 0, .int .i64 0, .int .i64 0] 181) = w2 at *
  refine wp_region_held_drew (S := (fun w' => w'.cell? ⟨C, 2, none⟩ = some (.slice ao l.length cap))) (by kernel_rfl) (by show w2.cell? ⟨C, 2, none⟩ = _; rw [Lib.cell_of_heap X2.out]; rfl) (fun hHeld => ?_)
  have P3 := Lib.hid (show (World.drew w2).heap[C + 1]? = some (.cells (fiveV []).toArray 181 (0, 0)) from P2.out)
  have X3 := Lib.hid (show (World.drew w2).heap[C]? = _ from X2.out)
  have B3 := Lib.hid (bthen B2.out (bdrew w2))
  have S3 : (World.drew w2).heap.size = C + 2 := S2
  have A3 : Hid (0 < l.length → ∃ b o, ao = some ⟨b, o, none⟩ ∧ At 1 (gW fun i => l.getD i 0) l.length b o (World.drew w2)) := Lib.hid (fun h => by
    obtain ⟨b, o, e, hb⟩ := A2.out h
    exact ⟨b, o, e, hb.below (bdrew w2)⟩)
  clear P2 X2 B2 S2 A2
  change wpAnyH _ _ _ _ _ _ _ _ (World.drew w2)
  generalize World.drew w2 = w3 at *
  obtain ⟨w4, hcp, P4, hb4, hs4, ho4⟩ := copy_five (base := C) (cap := cap) P3.out h5 A3.out (by omega)
  have B4 := Lib.hid (B3.out.trans (HCC.out ▸ hb4))
  have X4 := Lib.hid ((ho4 C (by omega)).trans X3.out)
  have S4 : w4.heap.size = C + 2 := hs4.trans S3
  clear hb4 hs4 ho4 X3 B3 P3 A3 S3
  first | refine tq0 0 rfl ?_ | refine tq1 0 rfl ?_
  try go_frame
  first | refine tq0 1 rfl ?_ | refine tq1 1 rfl ?_
  try go_frame
  first | refine tq0 2 rfl ?_ | refine tq1 2 rfl ?_
  try go_frame
  refine wpAnyH_ready (rs := [3]) (by kernel_rfl) (by simp) ?_
  refine AllReadyH.cons (o := ⟨_, _, _, _, _, _⟩) rfl (fun Kx hKx => ?_) AllReadyH.nil
  go_simp
  refine hKx.out _ _ (by rw [Lib.cell_of_heap X4.out]; rfl) (fun hHeld => ?_)
  clear hKx Kx
  try simp only [Act.put, List.setIfInBounds_toArray, List.set_cons_zero, List.set_cons_succ]
  refine wpAnyH_done (by kernel_rfl) ?_ _
  clear hHeld hcp
  have T5 := Lib.hid (show B13 u C _ _ [] (w4.alloc (.cells #[.pointer none, .slice none 0 0] 184)) from ⟨S4 ▸ Bl13.new w4, HCC.out ▸ bthen B4.out (balloc w4 (.cells #[.pointer none, .slice none 0 0] 184)), by simp; omega, heap_stays13 X4.out (balloc w4 (.cells #[.pointer none, .slice none 0 0] 184)), heap_stays13 P4 (balloc w4 (.cells #[.pointer none, .slice none 0 0] 184))⟩)
  clear P4 X4 B4
  go_upto_region 4 with fail
  generalize w4.alloc (.cells #[.pointer none, .slice none 0 0] 184) = w5 at *
  clear S4
  have x1 : w5.cell? ⟨C, 1, none⟩ = some (.int .i64 lg) := by rw [Lib.cell_of_heap T5.out.bx]; rfl
  go_wp2_with fail
  refine (HS1.out _).mono ?_
  rintro e w6 ⟨rfl, hb⟩
  have T6 := Lib.hid ((T5.out.below hb).write (beI 2 lg) (by rw [beI_len]; simp))
  clear hb x1 T5 HS1
  go_wp2_with fail
  refine (T6.out).mono ?_
  rintro e w7 ⟨⟨ve, rfl⟩, hT⟩
  have T7 := Lib.hid hT
  clear hT T6
  have x2 : w7.cell? ⟨C, 2, none⟩ = some (.slice ao l.length cap) := by rw [Lib.cell_of_heap T7.out.bx]; rfl
  go_wp2_with fail
  refine (HS2.out _).mono ?_
  rintro e w8 ⟨rfl, hb⟩
  have T8 := Lib.hid ((T7.out.below hb).write (beI 2 (l.length : Int)) (by rw [List.nil_append, beI_len, beI_len]; omega))
  clear hb x2 T7 HS2
  go_wp2_with fail
  refine (T8.out).mono ?_
  rintro e w9 ⟨⟨ve2, rfl⟩, hT⟩
  have T9 := Lib.hid (hT.same (show _ = preR lg l 0 from by simp [preR, twosL]))
  clear hT T8
  obtain ⟨p, hp⟩ : ∃ p : Nat → Int, p = fun j => l.getD j 0 := ⟨_, rfl⟩
  have y0 : w9.cell? ⟨C + 1, 0, none⟩ = some (.int .i64 (p 0)) := by rw [Lib.cell_of_heap T9.out.ar, hp]; rfl
  have y1 : w9.cell? ⟨C + 1, 1, none⟩ = some (.int .i64 (p 1)) := by rw [Lib.cell_of_heap T9.out.ar, hp]; rfl
  have y2 : w9.cell? ⟨C + 1, 2, none⟩ = some (.int .i64 (p 2)) := by rw [Lib.cell_of_heap T9.out.ar, hp]; rfl
  have y3 : w9.cell? ⟨C + 1, 3, none⟩ = some (.int .i64 (p 3)) := by rw [Lib.cell_of_heap T9.out.ar, hp]; rfl
  have y4 : w9.cell? ⟨C + 1, 4, none⟩ = some (.int .i64 (p 4)) := by rw [Lib.cell_of_heap T9.out.ar, hp]; rfl
  have HP := Lib.hid hp
  clear hp
  go_wp2_with fail
  clear y0 y1 y2 y3 y4
  go_loopw [21] (fun i wr => ∃ j : Nat, j ≤ 5 ∧ i = .int .i64 j ∧ Hid (B13 u C (.cells #[.int .i64 ep, .int .i64 lg, .slice ao l.length cap] 100 (0, 0)) (.cells (fiveV l).toArray 181 (0, 0)) (preR lg l j) wr)) (fun i _ => 5 - (intOf i).toNat)
  case atStart => exact ⟨0, Nat.zero_le _, rfl, T9⟩
  case round =>
    obtain ⟨j, hj, rfl, HT⟩ := hrel
    by_cases hlt : j < 5
    · have HS : Hid (∀ w, Calls Tryz.prog 154 #[.int .i64 (p j)] w fun e w' => e = .returned (.string (strOfNums (beI 2 (l.getD j 0)))) ∧ Below w.heap.size w w') := Lib.hid (fun w => by rw [HP.out]; exact HS3.out j w)
      have HW : Hid (∀ w, Below wr.heap.size wr w → Calls Tryz.prog 153 #[.pointer (some ⟨C + 2, 0, none⟩), .string (strOfNums (beI 2 (l.getD j 0)))] w fun e w' => (∃ v, e = .returned v) ∧ B13 u C (.cells #[.int .i64 ep, .int .i64 lg, .slice ao l.length cap] 100 (0, 0)) (.cells (fiveV l).toArray 181 (0, 0)) (preR lg l (j + 1)) w') := Lib.hid (fun w hb => ((HT.out.below hb).write (beI 2 (l.getD j 0)) (by rw [preR_len lg l (by omega), beI_len]; omega)).mono fun r w' h => ⟨h.1, h.2.same (preR_succ lg l hlt).symm⟩)
      clear HS3 HT
      have qi : Hid (∀ w, (Instr.index 181 (.agg #[.int .i64 (p 0), .int .i64 (p 1), .int .i64 (p 2), .int .i64 (p 3), .int .i64 (p 4)]) (.int .i64 (j : Int))).run Tryz.prog w = .ok (.int .i64 (p j)) w) := Lib.hid (run_index_five p j hlt)
      have hj2 : (j : Int) < 5 := by omega
      have HLT := Lib.hid hlt
      clear hlt
      have qi2 := qi.out
      go_wp2_with fail
      clear qi2 qi
      refine (HS.out _).mono ?_
      rintro e w10 ⟨rfl, hb⟩
      have HW2 := Lib.hid (HW.out _ hb)
      clear hb HW
      go_wp2_with fail
      refine (HW2.out).mono ?_
      rintro e w11 ⟨⟨ve3, rfl⟩, hT⟩
      have T11 := Lib.hid hT
      clear hT HW2
      go_wp2_with fail
      go_roundw
      case rel => have := HLT.out; exact ⟨j + 1, by omega, by go_num, T11⟩
      case measure => have := HLT.out; simp [intOf]; omega
    · obtain rfl : j = 5 := by omega
      have HL := Lib.hid HT.out.bl.len
      rw [preR_len lg l (Nat.le_refl 5)] at HL
      go_wp2_with fail
      refine (HL.out).mono ?_
      rintro e w10 ⟨rfl, hw⟩
      rw [hw]
      clear hw w10 HL
      go_wp2_with fail
      refine (HR.out _).mono ?_
      rintro e w10 ⟨rfl, hb⟩
      have e30 : (⟨(zerosB 30).toArray⟩ : ByteArray) = strOfNums (List.replicate 30 0) := rfl
      have T10 := Lib.hid ((HT.out.below hb).write (List.replicate 30 0) (by rw [preR_len lg l (Nat.le_refl 5)]; simp))
      rw [e30]
      clear hb HT e30 HR
      go_wp2_with fail
      refine (T10.out).mono ?_
      rintro e w11 ⟨⟨ve3, rfl⟩, hT⟩
      have T11 := Lib.hid hT
      have HX := Lib.hid (hT.bl.text (by have := hT.sz; omega))
      clear hT T10
      go_wp2_with fail
      refine (HX.out).mono ?_
      rintro e w12 ⟨rfl, hb⟩
      have B12 : Hid (Below u.heap.size u w12) := Lib.hid (by
        rw [← HCC.out]
        exact T11.out.lo.trans (hb.mono (by omega)))
      rw [EB.out]
      clear hb HX T11
      go_wp2_with fail
      go_ret
      exact ⟨rfl, B12.out⟩

end Go.Proofs.YtdpmpmaepjgndaaGreat
namespace Go.Proofs.YtdpmpmaepjgndaaGreat
open Go.RowKit Go.Deep
set_option linter.unusedVariables false
set_option linter.unusedSimpArgs false
set_option maxRecDepth 100000

theorem rtO_no {r : Rt} (h : ¬ RightR r) : rtO r = ⟨#[]⟩ ∧ rtE r = 2 := by unfold rtO rtE; rw [if_neg h, if_neg h]; exact ⟨rfl, rfl⟩
theorem rtO_yes {r : Rt} (h : RightR r) : rtO r = bytesR r ∧ rtE r = 0 := by unfold rtO rtE; rw [if_pos h, if_pos h]; exact ⟨rfl, rfl⟩
theorem layP_laid (s : ByteArray) : (⟨(laidL s.data.toList).toArray⟩ : ByteArray) = layP s := rfl
set_option maxHeartbeats 6400000 in
theorem pputR_any (ep lg : Int) (l : List Int) (v : Value) (u : World) (he : big64 ep) (hg : big64 lg) (hl : l.length ≤ 40) (hv : LstI l v u) :
    Calls Tryz.prog 72 #[rtV ep lg v] u fun r u' => r = .returned (.tuple #[.string (rtO ⟨ep, lg, l⟩), .int .i64 (rtE ⟨ep, lg, l⟩)]) ∧ Below u.heap.size u u' := by
  have X1 := Lib.hid (heap_alloc_new u (.cells #[.int .i64 ep, .int .i64 lg, v] 100))
  have B1 := Lib.hid (balloc u (.cells #[.int .i64 ep, .int .i64 lg, v] 100))
  have V1 := Lib.hid (hv.below (balloc u (.cells #[.int .i64 ep, .int .i64 lg, v] 100)))
  have hoc : v.oneCell' = true := by obtain ⟨ao, cap, rfl, _⟩ := hv; rfl
  obtain ⟨C, hC⟩ : ∃ C, C = u.heap.size := ⟨_, rfl⟩
  rw [← hC] at X1
  have HE := Lib.hid (pisEpoch_any ep)
  have HM := Lib.hid (fun w h => pmayR_any ep lg l v w hg (by omega) h)
  have HI := Lib.hid (packI ep)
  have HBO := Lib.hid (fun w hm h => pbodyOf_any ep lg l v w hm h)
  have hbz : (bodyR ⟨ep, lg, l⟩).size = 44 := by unfold bodyR; rw [padN_size]
  have HL := Lib.hid (fun w => lay_any (bodyR ⟨ep, lg, l⟩) (by rw [hbz]; omega) w)
  rw [layP_laid] at HL
  have hlz : (layP (bodyR ⟨ep, lg, l⟩)).size = 48 := by rw [layP_size, hbz]
  have R := Lib.hid (rightR_iff ⟨ep, lg, l⟩)
  have hez : (strOfNums (beI 8 (flip63 ep))).size = 8 := by rw [strOfNums_size, beI_len]
  have EO : Hid (bytesR ⟨ep, lg, l⟩ = strOfNums (beI 8 (flip63 ep)) ++ layP (bodyR ⟨ep, lg, l⟩) ++ strOfNums (beI 8 (flip63 ep))) := Lib.hid rfl
  unfold rtV at *
  clear he hg hv hbz
  go_enter Tryz.func72, Tryz.ntmps72
  go_upto_region 1 with fail
  rw [← hC]
  generalize u.alloc (.cells #[.int .i64 ep, .int .i64 lg, v] 100) = w1 at *
  clear hC
  obtain ⟨x0, x1, x2⟩ := three_of X1.out
  cases hE : epOk ep
  · obtain ⟨E1, E2⟩ := rtO_no (r := ⟨ep, lg, l⟩) fun h => by
      have : 1 ≤ ep ∧ ep ≤ 1099511627776 := (R.out.1 h).1
      simp [epOk] at hE
      omega
    have E3 := Lib.hid (And.intro E1 E2)
    rw [hE] at HE
    clear hE E1 E2
    go_wp2_with fail
    refine (HE.out _).mono ?_
    rintro e w9 ⟨rfl, hw⟩
    rw [hw]
    clear hw w9
    go_wp2_with fail
    go_ret2
    exact ⟨by rw [E3.out.1, E3.out.2]; rfl, B1.out⟩
  have HEE : Hid (1 ≤ ep ∧ ep ≤ 1099511627776) := Lib.hid (by simpa [epOk] using hE)
  rw [hE] at HE
  clear hE
  by_cases hm : MayR lg l
  · obtain ⟨E1, E2⟩ := rtO_yes (r := ⟨ep, lg, l⟩) (R.out.2 ⟨HEE.out, hm⟩)
    have E3 := Lib.hid (And.intro E1 E2)
    have HM2 : Hid (∀ w, LstI l v w → Calls Tryz.prog 113 #[.agg #[.int .i64 ep, .int .i64 lg, v]] w fun e w' => e = .returned (.bool true) ∧ Below w.heap.size w w') := Lib.hid (fun w h => by
      have := HM.out w h
      rw [decide_eq_true hm] at this
      exact this)
    have HB2 := Lib.hid (fun w h => HBO.out w hm h)
    clear hm E1 E2 HM HBO
    go_wp2_with fail
    refine (HE.out _).mono ?_
    rintro e w9 ⟨rfl, hw⟩
    rw [hw]
    clear hw w9
    go_wp2_with fail
    refine (HM2.out _ V1.out).mono ?_
    rintro e w2 ⟨rfl, hb⟩
    have B2 := Lib.hid (bthen B1.out hb)
    have X2 := Lib.hid (heap_stays13 X1.out hb)
    have V2 := Lib.hid (V1.out.below hb)
    clear hb B1 X1 V1 x0 x1 x2
    obtain ⟨x0, x1, x2⟩ := three_of X2.out
    go_wp2_with fail
    refine (HI.out _).mono ?_
    rintro e w3 ⟨rfl, hb⟩
    have B3 := Lib.hid (bthen B2.out hb)
    have X3 := Lib.hid (heap_stays13 X2.out hb)
    have V3 := Lib.hid (V2.out.below hb)
    clear hb B2 X2 V2 x0 x1 x2
    obtain ⟨x0, x1, x2⟩ := three_of X3.out
    generalize strOfNums (beI 8 (flip63 ep)) = se at *
    go_wp2_with fail
    refine (HB2.out _ V3.out).mono ?_
    rintro e w4 ⟨rfl, hb⟩
    have B4 := Lib.hid (bthen B3.out hb)
    clear hb B3 X3 V3 x0 x1 x2
    generalize bodyR ⟨ep, lg, l⟩ = sb at *
    go_wp2_with fail
    refine (HL.out _).mono ?_
    rintro e w5 ⟨rfl, hb⟩
    have B5 := Lib.hid (bthen B4.out hb)
    clear hb B4
    generalize layP sb = sl at *
    have z1 : ¬ 9223372036854775807 < se.size + sl.size := by omega
    have z2 : ¬ 9223372036854775807 < (se ++ sl).size + se.size := by rw [ByteArray.size_append]; omega
    go_wp2_with fail
    go_ret2
    exact ⟨by rw [E3.out.1, E3.out.2, EO.out]; rfl, B5.out⟩
  · obtain ⟨E1, E2⟩ := rtO_no (r := ⟨ep, lg, l⟩) fun h => hm (R.out.1 h).2
    have E3 := Lib.hid (And.intro E1 E2)
    have HM2 : Hid (∀ w, LstI l v w → Calls Tryz.prog 113 #[.agg #[.int .i64 ep, .int .i64 lg, v]] w fun e w' => e = .returned (.bool false) ∧ Below w.heap.size w w') := Lib.hid (fun w h => by
      have := HM.out w h
      rw [decide_eq_false hm] at this
      exact this)
    clear hm E1 E2 HM HBO
    go_wp2_with fail
    refine (HE.out _).mono ?_
    rintro e w9 ⟨rfl, hw⟩
    rw [hw]
    clear hw w9
    go_wp2_with fail
    refine (HM2.out _ V1.out).mono ?_
    rintro e w2 ⟨rfl, hb⟩
    have B2 := Lib.hid (bthen B1.out hb)
    clear hb x0 x1 x2
    go_wp2_with fail
    go_ret2
    exact ⟨by rw [E3.out.1, E3.out.2]; rfl, B2.out⟩

end Go.Proofs.YtdpmpmaepjgndaaGreat
