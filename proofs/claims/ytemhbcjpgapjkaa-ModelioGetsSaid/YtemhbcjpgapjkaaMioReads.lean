/- A function value that reads a text: what it makes of the place, and what it hands back. -/
import Derived.Test.YtemhbcjpgapjkaaMioGet1
import Derived.Laws.IdiomCopy
namespace Go.Proofs.Ytemhbcjpgapjkaa
open Go.RowKit
set_option linter.unusedVariables false
set_option maxRecDepth 100000

theorem frombits6_run (n : Int) (w : World) : (callFunc 71 #[.int .u64 n]).run Try.prog w = .ok (.value (.float .f64 n.toNat)) w := by
  rw [run_callFunc_extern (e := Extern.MathFloatBits.float64frombits) Try.func71 (by kernel_rfl) (by kernel_rfl) (by kernel_rfl) (by kernel_rfl)]
  rfl

theorem callFunc_go {P : Program} {f : FuncId} {fn : Func} (hf : P.funcs[f]? = some fn) (hname : (fn.name == "runtime.NumGoroutine") = false) (hb : fn.body.isNone = false) (args : Array Value) (w : World) :
    (callFunc f args).run P w = .ok (.enter f args) w := by
  have h1 : fn.name ≠ "runtime.NumGoroutine" := by simpa using hname
  cases h2 : fn.body with
  | none => rw [h2] at hb; cases hb
  | some b => simp [callFunc, hf, h1, h2]

/-- v is a function that goes from place st to nx st, and hands back what R says -/
def Reads (tb : Nat) (s : ByteArray) (nx : St → St) (R : St → Value → World → Prop) (v : Value) (u : World) : Prop :=
  ∃ N caps, v = .func (.func N) #[] caps ∧ (∀ w, (callFunc N caps).run Try.prog w = .ok (.enter N caps) w) ∧ ∀ w st, Below u.heap.size u (Hd tb w) → TextAt tb s st w → Calls Try.prog N caps w fun e w' => ∃ r, e = .returned r ∧ R st r (Hd tb w') ∧ TextAt tb s (nx st) w' ∧ Kp tb w w'
theorem Reads.below {tb : Nat} {s : ByteArray} {nx : St → St} {R : St → Value → World → Prop} {v : Value} {u u2 : World} (h : Reads tb s nx R v u) (k : Below u.heap.size u u2) : Reads tb s nx R v u2 := by
  obtain ⟨N, caps, e, h0, h⟩ := h
  exact ⟨N, caps, e, h0, fun w st k2 ht => h w st (bthen k k2) ht⟩
theorem Reads.kp {tb : Nat} {s : ByteArray} {nx : St → St} {R : St → Value → World → Prop} {v : Value} {w w2 : World} (h : Reads tb s nx R v (Hd tb w)) (k : Kp tb w w2) : Reads tb s nx R v (Hd tb w2) := h.below (by rw [Hd.size]; exact k)
theorem Kp.hid {tb : Nat} {w w2 : World} (k : Kp tb w w2) : Below (Hd tb w).heap.size (Hd tb w) (Hd tb w2) := by rw [Hd.size]; exact k
theorem Reads.call {tb : Nat} {s : ByteArray} {nx : St → St} {R : St → Value → World → Prop} {N : Nat} {caps : Array Value} {w0 : World}
    (h : Reads tb s nx R (.func (.func N) #[] caps) (Hd tb w0)) {w : World} {st : St} (k : Kp tb w0 w) (ht : TextAt tb s st w) :
    Calls Try.prog N caps w fun e w' => ∃ r, e = .returned r ∧ R st r (Hd tb w') ∧ TextAt tb s (nx st) w' ∧ Kp tb w w' := by
  obtain ⟨N2, caps2, e, _, h⟩ := h
  simp only [Value.func.injEq, Fn.func.injEq, true_and] at e
  obtain ⟨rfl, rfl⟩ := e
  exact h w st k.hid ht
theorem Reads.form {tb : Nat} {s : ByteArray} {nx : St → St} {R : St → Value → World → Prop} {v : Value} {u : World} (h : Reads tb s nx R v u) : ∃ N caps, v = .func (.func N) #[] caps ∧ ∀ w, (callFunc N caps).run Try.prog w = .ok (.enter N caps) w := by
  obtain ⟨N, caps, e, h0, _⟩ := h
  exact ⟨N, caps, e, h0⟩

/-- a number; its bits; a float -/
def RI (s : ByteArray) (st : St) (r : Value) (_ : World) : Prop := r = .int .i64 (stI s st)
def RU (s : ByteArray) (st : St) (r : Value) (_ : World) : Prop := r = .int .u64 (stU s st)
def RF (s : ByteArray) (st : St) (r : Value) (_ : World) : Prop := r = .float .f64 (stF s st)

theorem text_set {tb : Nat} {s : ByteArray} {st : St} {x0 : Int} {w : World} (h1 : s.size ≤ 100000000) (h2 : st.e = 0 → st.pos ≤ s.size) {e0 : Int}
    (h : w.heap[tb]? = some (.cells #[.string s, .int .i64 x0, .int .i64 e0] 61 (0, 0))) :
    TextAt tb s st ((w.drew.setCell ⟨tb, 1, none⟩ (.int .i64 (st.pos : Int))).setCell ⟨tb, 2, none⟩ (.int .i64 st.e)) := by
  refine ⟨h1, h2, st.pos, fun _ => rfl, ?_⟩
  have k : w.drew.heap[tb]? = some (.cells #[.string s, .int .i64 x0, .int .i64 e0] 61 (0, 0)) := h
  exact Joins.block_setCell (Joins.block_setCell k _) _
theorem kp_set2 (tb : Nat) (v1 v2 : Value) (w : World) : Kp tb w ((w.drew.setCell ⟨tb, 1, none⟩ v1).setCell ⟨tb, 2, none⟩ v2) :=
  ((Kp.drew tb w).trans (Kp.set tb 1 v1 _)).trans (Kp.set tb 2 v2 _)

theorem num_reads (tb : Nat) (s : ByteArray) (q1 q2 : Nat) (u : World) (h1 : Bx q1 (.pointer (some ⟨tb, 0, none⟩)) u) (h2 : Bx q2 (.func (.func 83) #[] #[]) u) :
    Reads tb s (stN s) (RI s) (.func (.func 100) #[] #[.pointer (some ⟨q1, 0, none⟩), .pointer (some ⟨q2, 0, none⟩)]) u := by
  refine ⟨_, _, rfl, fun w => callFunc_go Try.func100 (by kernel_rfl) (by kernel_rfl) _ w, fun w st k ht => ?_⟩
  have b1 := h1.below k
  have b2 := h2.below k
  have n1 : tb ≠ q1 := by obtain ⟨c, t, f, e⟩ := cell_block b1; exact (Hd.cells e).1
  have n2 : tb ≠ q2 := by obtain ⟨c, t, f, e⟩ := cell_block b2; exact (Hd.cells e).1
  have c1 := b1.now
  have c2 := b2.now
  clear b1 b2 h1 h2 k
  obtain ⟨z1, z2, x, z3, z4⟩ := ht
  by_cases h0 : st.e = 0
  · obtain rfl : x = st.pos := z3 h0
    have hp := z2 h0
    have z4 := z4
    rw [h0] at z4
    have HR : Hid (∀ w, Calls Try.prog 83 #[.string s, .int .i64 (st.pos : Int)] w fun e' w' => e' = .returned (.tuple #[.int .i64 (stI s st), .int .i64 ((stN s st).pos : Int), .int .i64 (stN s st).e]) ∧ w = w') := fun w => by
      have := readI_any s st.pos (by unfold maxLen; omega) (by omega) w
      rw [rdI_st h0 hp] at this
      exact this
    refine (fieldI_ok s tb q1 q2 st.pos _ _ _ w c1 c2 n1 n2 z4 HR).mono ?_
    rintro e w' ⟨rfl, rfl⟩
    exact ⟨_, rfl, rfl, text_set z1 (stN_ok z2) z4, kp_set2 _ _ _ _⟩
  · have hne : (st.e == 0) = false := by simp [h0]
    obtain ⟨t0, t1, t2, _⟩ := TextAt.cells z4
    have HT : Hid (TextAt tb s (stN s st) w) := by
      rw [stick_st s st h0]
      exact ⟨z1, z2, x, z3, z4⟩
    have HV : Hid (stI s st = 0) := by show _ = _; unfold stI; rw [if_neg h0]
    clear z1 z2 z3 z4 h0
    generalize stN s st = st2 at *
    generalize st.e = e0 at *
    go_enter Try.func100, Try.ntmps100
    go_wp2_with fail
    go_ret
    exact ⟨_, rfl, by show _ = _; rw [HV.out]; rfl, HT.out, Kp.refl _ _⟩
theorem u64_reads (tb : Nat) (s : ByteArray) (q1 q2 : Nat) (u : World) (h1 : Bx q1 (.pointer (some ⟨tb, 0, none⟩)) u) (h2 : Bx q2 (.func (.func 85) #[] #[]) u) :
    Reads tb s (stN s) (RU s) (.func (.func 102) #[] #[.pointer (some ⟨q1, 0, none⟩), .pointer (some ⟨q2, 0, none⟩)]) u := by
  refine ⟨_, _, rfl, fun w => callFunc_go Try.func102 (by kernel_rfl) (by kernel_rfl) _ w, fun w st k ht => ?_⟩
  have b1 := h1.below k
  have b2 := h2.below k
  have n1 : tb ≠ q1 := by obtain ⟨c, t, f, e⟩ := cell_block b1; exact (Hd.cells e).1
  have n2 : tb ≠ q2 := by obtain ⟨c, t, f, e⟩ := cell_block b2; exact (Hd.cells e).1
  have c1 := b1.now
  have c2 := b2.now
  clear b1 b2 h1 h2 k
  obtain ⟨z1, z2, x, z3, z4⟩ := ht
  by_cases h0 : st.e = 0
  · obtain rfl : x = st.pos := z3 h0
    have hp := z2 h0
    have z4 := z4
    rw [h0] at z4
    have HR : Hid (∀ w, Calls Try.prog 85 #[.string s, .int .i64 (st.pos : Int)] w fun e' w' => e' = .returned (.tuple #[.int .u64 (stU s st), .int .i64 ((stN s st).pos : Int), .int .i64 (stN s st).e]) ∧ w = w') := fun w => by
      have := readU_any s st.pos (by unfold maxLen; omega) (by omega) w
      rw [rdU_st h0 hp] at this
      exact this
    refine (fieldU_ok s tb q1 q2 st.pos _ _ _ w c1 c2 n1 n2 z4 HR).mono ?_
    rintro e w' ⟨rfl, rfl⟩
    exact ⟨_, rfl, rfl, text_set z1 (stN_ok z2) z4, kp_set2 _ _ _ _⟩
  · have hne : (st.e == 0) = false := by simp [h0]
    obtain ⟨t0, t1, t2, _⟩ := TextAt.cells z4
    have HT : Hid (TextAt tb s (stN s st) w) := by
      rw [stick_st s st h0]
      exact ⟨z1, z2, x, z3, z4⟩
    have HV : Hid (stU s st = 0) := by show _ = _; unfold stU; rw [if_neg h0]
    clear z1 z2 z3 z4 h0
    generalize stN s st = st2 at *
    generalize st.e = e0 at *
    go_enter Try.func102, Try.ntmps102
    go_wp2_with fail
    go_ret
    exact ⟨_, rfl, by show _ = _; rw [HV.out]; rfl, HT.out, Kp.refl _ _⟩

theorem flo_reads (tb : Nat) (s : ByteArray) (q : Nat) (c : Value) (u : World) (h1 : Bx q c u) (h2 : Reads tb s (stN s) (RU s) c u) :
    Reads tb s (stN s) (RF s) (.func (.func 86) #[] #[.pointer (some ⟨q, 0, none⟩)]) u := by
  refine ⟨_, _, rfl, fun w => callFunc_go Try.func86 (by kernel_rfl) (by kernel_rfl) _ w, fun w st k ht => ?_⟩
  obtain ⟨N, caps, rfl, hgo⟩ := h2.form
  have hc := (h1.below k).now
  have H := Lib.hid (Reads.call (h2.below k) (Kp.refl tb w) ht)
  clear h1 h2 k ht
  have hf := frombits6_run
  go_enter Try.func86, Try.ntmps86
  go_wp2_with fail
  refine H.out.mono ?_
  rintro e w2 ⟨r, rfl, hr, ht2, hk2⟩
  obtain rfl : r = .int .u64 (stU s st) := hr
  have HT := Lib.hid ht2
  have HK := Lib.hid hk2
  have HE : Hid (Value.float .f64 (stU s st).toNat = .float .f64 (stF s st)) := rfl
  clear ht2 hk2
  generalize stU s st = x at *
  go_wp2_with fail
  go_ret
  exact ⟨_, rfl, HE.out, HT.out, HK.out⟩

end Go.Proofs.Ytemhbcjpgapjkaa
