/- The program's root: numbers of two bytes, and the bytes behind the check. -/
import Derived.Laws.CopyOwn
import Derived.Laws.IdiomCopy
import Derived.Test.YtaaagmcdbmppmaaYRtP2
import Derived.Test.YtaaagmcdbmppmaaYRep0
import Derived.Test.YtaaagmcdbmppmaaYZ0
namespace Go.Proofs.Ytaaagmcdbmppmaa
open Go.RowKit Go.Deep
set_option linter.unusedVariables false
set_option linter.unusedSimpArgs false
set_option maxRecDepth 100000

theorem beI_eight (n : Int) : ∃ l, l.length = 6 ∧ beI 8 n = l ++ beI 2 n := ⟨[n / 256 ^ 7 % 256, n / 256 ^ 6 % 256, n / 256 ^ 5 % 256, n / 256 ^ 4 % 256, n / 256 ^ 3 % 256, n / 256 ^ 2 % 256], rfl, rfl⟩
theorem str_two (n : Int) : (strOfNums (beI 8 n)).extract 6 8 = strOfNums (beI 2 n) := by
  obtain ⟨l, hl, e⟩ := beI_eight n
  rw [e, ← strOfNums_append]
  have s1 : (strOfNums l).size = 6 := by rw [strOfNums_size, hl]
  have s2 : (strOfNums (beI 2 n)).size = 2 := by rw [strOfNums_size, beI_len]
  refine byD_ext ?_ fun j hj => ?_
  · rw [ByteArray.size_extract, ByteArray.size_append, s1, s2]; rfl
  · rw [ByteArray.size_extract, ByteArray.size_append, s1, s2] at hj
    have hj2 : j < 2 := by simpa using hj
    rw [byD_cut _ _ _ _ (by omega), byD_app, s1, if_neg (by omega)]
    congr 1; omega
theorem pshort_any (n : Int) (h0 : 0 ≤ n) (h1 : n ≤ 65535) (w : World) : Calls Try.prog 29 #[.int .i64 n] w fun e w' => e = .returned (.string (strOfNums (beI 2 n))) ∧ Below w.heap.size w w' := by
  have hw : IntKind.u64.wrap n = n := by rw [IntKind.wrap_u64]; omega
  have HU := Lib.hid (packU n)
  have hs : (strOfNums (beI 8 n)).size = 8 := by rw [strOfNums_size, beI_len]
  have E := Lib.hid (str_two n)
  generalize strOfNums (beI 8 n) = s at *
  generalize strOfNums (beI 2 n) = t at *
  clear h0 h1
  go_enter Try.func29, Try.ntmps29
  go_wp2_with fail
  refine (HU.out _).mono ?_
  rintro e w1 ⟨rfl, hb⟩
  have B1 := Lib.hid hb
  clear hb
  go_wp2_with fail
  go_ret
  exact ⟨by rw [← E.out]; rfl, B1.out⟩

/-- the program's array of pages: the parts, and 0 behind them -/
def five (l : List Int) : List Int := (List.range 5).map fun i => l.getD i 0
def fiveV (l : List Int) : List Value := (five l).map (Value.int .i64)
theorem five_eq {l : List Int} (h : l.length ≤ 5) : five l = l ++ List.replicate (5 - l.length) 0 := by
  apply List.ext_getElem
  · simp [five]; omega
  · intro i h1 h2
    have hi : i < 5 := by simpa [five] using h1
    have e : ∀ (h3 : i < ((List.range 5).map fun i => l.getD i 0).length), ((List.range 5).map fun i => l.getD i 0)[i] = l.getD i 0 := fun h3 => by rw [List.getElem_map, List.getElem_range]
    rw [show (five l)[i] = l.getD i 0 from e h1]
    rw [List.getElem_append]
    split
    · rename_i h4
      rw [List.getD_eq_getElem?_getD, List.getElem?_eq_getElem h4]; rfl
    · rename_i h4
      rw [List.getD_eq_getElem?_getD, List.getElem?_eq_none (by omega), List.getElem_replicate]; rfl
theorem twosL_app (a b : List Int) : twosL (a ++ b) = twosL a ++ twosL b := by
  induction a with
  | nil => rfl
  | cons x a ih => simp only [List.cons_append, twosL, ih, List.append_assoc]
theorem twosL_zero (n : Nat) : twosL (List.replicate n 0) = List.replicate (2 * n) 0 := by
  induction n with
  | zero => rfl
  | succ n ih =>
    rw [List.replicate_succ, twosL, ih, show 2 * (n + 1) = 2 * n + 1 + 1 by omega, List.replicate_succ, List.replicate_succ]
    rfl
/-- what the builder holds after the first j pages -/
def preR (lg : Int) (l : List Int) (j : Nat) : List Int := twosL (lg :: (l.length : Int) :: (five l).take j)
theorem preR_bd (lg : Int) (l : List Int) (j : Nat) : ∀ x ∈ preR lg l j, 0 ≤ x ∧ x ≤ 255 := twosL_bd _
theorem preR_succ (lg : Int) (l : List Int) {j : Nat} (h : j < 5) : preR lg l (j + 1) = preR lg l j ++ beI 2 (l.getD j 0) := by
  have hl : j < (five l).length := by simp [five]; omega
  have e : ∀ (h3 : j < ((List.range 5).map fun i => l.getD i 0).length), ((List.range 5).map fun i => l.getD i 0)[j] = l.getD j 0 := fun h3 => by rw [List.getElem_map, List.getElem_range]
  unfold preR
  rw [List.take_succ_eq_append_getElem hl, show (five l)[j] = l.getD j 0 from e hl, ← List.cons_append, ← List.cons_append, twosL_snoc]
theorem preR_len (lg : Int) (l : List Int) {j : Nat} (h : j ≤ 5) : (preR lg l j).length = 4 + 2 * j := by
  unfold preR
  rw [twosL_len, List.length_cons, List.length_cons, List.length_take]
  have : (five l).length = 5 := by simp [five]
  omega
theorem body_nums (ep lg : Int) {l : List Int} (h : l.length ≤ 5) : strOfNums (preR lg l 5 ++ List.replicate 30 0) = bodyR ⟨ep, lg, l⟩ := by
  have h5 : (five l).length = 5 := by simp [five]
  have e : preR lg l 5 = twosL (lg :: (l.length : Int) :: l) ++ List.replicate (2 * (5 - l.length)) 0 := by
    unfold preR
    rw [List.take_of_length_le (by omega), five_eq h, ← List.cons_append, ← List.cons_append, twosL_app, twosL_zero]
  have hl : (twosL (lg :: (l.length : Int) :: l)).length = 4 + 2 * l.length := by rw [twosL_len]; simp; omega
  unfold bodyR
  refine byD_ext ?_ fun j hj => ?_
  · rw [padN_size, strOfNums_size, List.length_append, preR_len lg l (Nat.le_refl 5), List.length_replicate]
  · rw [strOfNums_size, List.length_append, preR_len lg l (Nat.le_refl 5), List.length_replicate] at hj
    rw [byD_pad _ _ _ (by omega), e, List.append_assoc, List.replicate_append_replicate]
    unfold restR
    have hb := twosL_bd (lg :: (l.length : Int) :: l)
    rw [byD_nums _ (fun x hx => by
      rcases List.mem_append.1 hx with hx | hx
      · exact hb x hx
      · rw [List.eq_of_mem_replicate hx]; omega) j (by rw [List.length_append, List.length_replicate, hl]; omega)]
    rw [List.getElem_append]
    split
    · rename_i h4
      rw [byD_nums _ hb j h4]
    · rename_i h4
      rw [List.getElem_replicate, byD_out]
      rw [strOfNums_size]
      show (twosL (lg :: (l.length : Int) :: l)).length ≤ j
      omega
theorem size_int13 : (Try.prog.info? 3).map (·.size) = some 1 := by kernel_rfl
/-- 'copy(pages[:], r.Parts)' -/
theorem copy_five {w : World} {P base : Nat} {l : List Int} {ao : Option Addr} {cap : Nat} (hP : w.heap[P]? = some (.cells (fiveV []).toArray 70 (0, 0))) (h5 : l.length ≤ 5) (hA : 0 < l.length → ∃ b o, ao = some ⟨b, o, none⟩ ∧ At 1 (gW fun i => l.getD i 0) l.length b o w) (hb : base ≤ P) :
    ∃ w2, (Builtin.copy_ #[22, 22] 3 #[.slice (some ⟨P, 0, none⟩) 5 5, .slice ao l.length cap]).run Try.prog w = .ok (goInt l.length) w2 ∧ w2.heap[P]? = some (.cells (fiveV l).toArray 70 (0, 0)) ∧ Below base w w2 ∧ w2.heap.size = w.heap.size ∧ ∀ k, k ≠ P → w2.heap[k]? = w.heap[k]? := by
  by_cases h0 : l.length = 0
  · refine ⟨w, ?_, ?_, Below.refl _ _, rfl, fun _ _ => rfl⟩
    · rw [h0]
      exact run_copy_none w 22 22 3 3 _ _ 5 5 0 cap Try.underlying22 size_int13 rfl
    · rw [hP, List.eq_nil_of_length_eq_zero h0]
  · obtain ⟨b, o, rfl, hC⟩ := hA (by omega)
    have hlen : (l.map (Value.int .i64)).length = l.length := by simp
    have h := run_copy_row (P := Try.prog) w 22 22 3 3 P 0 5 5 ⟨b, o, none⟩ l.length cap _ 70 (l.map (Value.int .i64)) Try.underlying22 size_int13 hP
      (by rw [hlen]; exact (Nat.min_eq_left h5).symm)
      (fun j v hj => by
        rw [List.getElem?_map] at hj
        rcases Nat.lt_or_ge j l.length with hjl | hjl
        · rw [List.getElem?_eq_getElem hjl] at hj
          simp only [Option.map_some, Option.some.injEq] at hj
          subst hj
          rw [add_plain, hC.one j hjl]
          show some (Value.int .i64 (l.getD j 0)) = _
          rw [List.getD_eq_getElem?_getD, List.getElem?_eq_getElem hjl]; rfl
        · rw [List.getElem?_eq_none hjl] at hj; simp at hj)
      (by rw [hlen]; simp [fiveV, five]; omega)
      (by intro v hv; obtain ⟨x, _, rfl⟩ := List.mem_map.1 hv; rfl)
    rw [hlen] at h
    refine ⟨_, h, ?_, below_setRow (Below.refl _ _) hb _, by simp [World.setRow], fun k hk => setRow_other w P k _ hk⟩
    rw [setRow_heap w P _ _ _ _ hP]
    congr 3
    unfold fiveV
    rw [five_eq h5]
    have e : five ([] : List Int) = List.replicate 5 0 := rfl
    rw [e, List.map_replicate]
    simp only [List.take_zero, List.nil_append, List.map_append, List.map_replicate, Nat.zero_add, hlen, List.drop_replicate]

end Go.Proofs.Ytaaagmcdbmppmaa
