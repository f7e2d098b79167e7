/- The mathematics of layer 6 (modelio): a model as words of eight bytes, and reading words back. No Go, no program. -/
import Derived.Test.YtemhbcjpgapjkaaPackByteMath
import Derived.Test.YtemhbcjpgapjkaaModelMath
namespace Go.Proofs.Ytemhbcjpgapjkaa
open Go.RowKit
set_option linter.unusedVariables false

/-- what f says of 0 .. n-1, one behind the other -/
def catN (f : Nat → List Int) : Nat → List Int
  | 0 => []
  | n + 1 => catN f n ++ f n
theorem catN_congr {f g : Nat → List Int} {n : Nat} (h : ∀ i, i < n → f i = g i) : catN f n = catN g n := by
  induction n with
  | zero => rfl
  | succ n ih => simp only [catN]; rw [ih fun i hi => h i (by omega), h n (by omega)]

/-- a list as words: how many, and these -/
def lsW (n : Nat) (f : Nat → List Int) : List Int := flip63 n :: catN f n
def insW (x : I4) : List Int := [flip63 x.op, flip63 x.a, flip63 x.b, flip63 x.c]
def evW (e : Ev) : List Int := [(e.t : Int), flip63 e.dst, flip63 e.pay]
def prW (f : Nat → I4) (n : Nat) : List Int := lsW n fun k => insW (f k)
def wdW (f : Nat → Int) (n : Nat) : List Int := lsW n fun k => [flip63 (f k)]
def lpW (p : Int) (f : Nat → Int) (n : Nat) : List Int := flip63 p :: wdW f n
def mdlW (m : Mdl) : List Int :=
  flip63 m.seed :: (m.fin : Int) :: (lsW m.nd (fun i => [(m.d i : Int)]) ++ (lsW m.np (fun i => prW (m.pr i) (m.pl i)) ++ (lsW m.nl (fun i => lpW (m.lp i) (m.wd i) (m.wl i)) ++ lsW m.ni fun i => evW (m.ev i))))
/-- words as bytes -/
def byW (ws : List Int) : List Int := ws.flatMap (beI 8)
theorem byW_append (a b : List Int) : byW (a ++ b) = byW a ++ byW b := by simp [byW]
theorem byW_cons (x : Int) (b : List Int) : byW (x :: b) = beI 8 x ++ byW b := by simp [byW]
theorem byW_nil : byW [] = [] := rfl
theorem byW_len (ws : List Int) : (byW ws).length = 8 * ws.length := by
  induction ws with
  | nil => rfl
  | cons x b ih => rw [byW_cons, List.length_append, beI_len, ih, List.length_cons]; omega
theorem byW_mem (ws : List Int) : ∀ x ∈ byW ws, 0 ≤ x ∧ x ≤ 255 := by
  intro x hx
  simp only [byW, List.mem_flatMap] at hx
  obtain ⟨y, _, h⟩ := hx
  exact beI_mem 8 y x h
def layM (m : Mdl) : ByteArray := strOfNums (byW (mdlW m))

/-- a place in bytes, and the first error -/
structure St where
  pos : Nat
  e : Int
theorem St.ext' {a b : St} (h : a.pos = b.pos) (k : a.e = b.e) : a = b := by cases a; cases b; simp_all

/-- the next word: the place behind it; what it is; what it is as a number with a sign -/
def stN (s : ByteArray) (st : St) : St := if st.e = 0 then (if s.size < st.pos + 8 then ⟨0, 5⟩ else ⟨st.pos + 8, 0⟩) else st
def stU (s : ByteArray) (st : St) : Int := if st.e = 0 then (if s.size < st.pos + 8 then 0 else rdI s st.pos 8) else 0
def stI (s : ByteArray) (st : St) : Int := if st.e = 0 then (if s.size < st.pos + 8 then 0 else unflip63 (rdI s st.pos 8)) else 0
def stF (s : ByteArray) (st : St) : Nat := (stU s st).toNat
/-- n steps -/
def it (f : St → St) : Nat → St → St
  | 0, st => st
  | n + 1, st => f (it f n st)
/-- a list's count: how many, and the place behind it -/
def lsN (s : ByteArray) (st : St) : Nat := if 0 ≤ stI s st ∧ stI s st ≤ 48 then (stI s st).toNat else 0
def lsS (s : ByteArray) (st : St) : St := if 0 ≤ stI s st ∧ stI s st ≤ 48 then stN s st else ⟨0, 6⟩
def lsE (s : ByteArray) (nx : St → St) (st : St) : St := it nx (lsN s st) (lsS s st)
theorem lsN_le (s : ByteArray) (st : St) : lsN s st ≤ 48 := by unfold lsN; split <;> omega

def insV (s : ByteArray) (st : St) : I4 := ⟨stI s st, stI s (stN s st), stI s (stN s (stN s st)), stI s (stN s (stN s (stN s st)))⟩
def insN (s : ByteArray) (st : St) : St := stN s (stN s (stN s (stN s st)))
def evV (s : ByteArray) (st : St) : Ev := ⟨stF s st, stI s (stN s st), stI s (stN s (stN s st))⟩
def evN (s : ByteArray) (st : St) : St := stN s (stN s (stN s st))
def prN (s : ByteArray) (st : St) : St := lsE s (insN s) st
def prV (s : ByteArray) (st : St) (k : Nat) : I4 := insV s (it (insN s) k (lsS s st))
def wdN (s : ByteArray) (st : St) : St := lsE s (stN s) st
def wdV (s : ByteArray) (st : St) (k : Nat) : Int := stI s (it (stN s) k (lsS s st))
def lpN (s : ByteArray) (st : St) : St := wdN s (stN s st)

def g1 (s : ByteArray) : St := stN s ⟨0, 0⟩
def g2 (s : ByteArray) : St := stN s (g1 s)
def g3 (s : ByteArray) : St := lsE s (stN s) (g2 s)
def g4 (s : ByteArray) : St := lsE s (prN s) (g3 s)
def g5 (s : ByteArray) : St := lsE s (lpN s) (g4 s)
def g6 (s : ByteArray) : St := lsE s (evN s) (g5 s)
/-- what is read -/
def getM (s : ByteArray) : Mdl where
  seed := stI s ⟨0, 0⟩
  fin := stF s (g1 s)
  nd := lsN s (g2 s)
  d := fun i => stF s (it (stN s) i (lsS s (g2 s)))
  np := lsN s (g3 s)
  pl := fun i => lsN s (it (prN s) i (lsS s (g3 s)))
  pr := fun i => prV s (it (prN s) i (lsS s (g3 s)))
  nl := lsN s (g4 s)
  lp := fun i => stI s (it (lpN s) i (lsS s (g4 s)))
  wl := fun i => lsN s (stN s (it (lpN s) i (lsS s (g4 s))))
  wd := fun i => wdV s (stN s (it (lpN s) i (lsS s (g4 s))))
  ni := lsN s (g5 s)
  ev := fun i => evV s (it (evN s) i (lsS s (g5 s)))
def zeroM : Mdl := ⟨0, 0, 0, fun _ => 0, 0, fun _ => 0, fun _ _ => ⟨0, 0, 0, 0⟩, 0, fun _ => 0, fun _ => 0, fun _ _ => 0, 0, fun _ => ⟨0, 0, 0⟩⟩
/-- the error of reading it all -/
def getE (s : ByteArray) : Int := if (g6 s).e ≠ 0 then (g6 s).e else if (g6 s).pos ≠ s.size then 6 else chkN (getM s)
def getR (s : ByteArray) : Mdl := if getE s = 0 then getM s else zeroM

/-- behind an error nothing goes on -/
def Stick (f : St → St) : Prop := ∀ st, st.e ≠ 0 → f st = st
theorem stick_st (s : ByteArray) : Stick (stN s) := fun st h => by unfold stN; rw [if_neg h]
theorem stick_it {f : St → St} (h : Stick f) (n : Nat) : Stick (it f n) := fun st hs => by
  induction n with
  | zero => rfl
  | succ n ih => simp only [it]; rw [ih, h st hs]
theorem stick_comp {f g : St → St} (h : Stick f) (k : Stick g) : Stick fun st => f (g st) := fun st hs => by show f (g st) = st; rw [k st hs, h st hs]
theorem stI_err (s : ByteArray) (st : St) (h : st.e ≠ 0) : stI s st = 0 := by unfold stI; rw [if_neg h]
theorem lsN_err (s : ByteArray) (st : St) (h : st.e ≠ 0) : lsN s st = 0 := by unfold lsN; rw [stI_err s st h]; rfl
theorem lsS_err (s : ByteArray) (st : St) (h : st.e ≠ 0) : lsS s st = st := by unfold lsS; rw [stI_err s st h, stick_st s st h]; simp
theorem stick_lsE (s : ByteArray) (f : St → St) : Stick (lsE s f) := fun st h => by unfold lsE; rw [lsN_err s st h, lsS_err s st h]; rfl
theorem stick_ins (s : ByteArray) : Stick (insN s) := fun st h => by unfold insN; simp only [stick_st s st h]
theorem stick_ev (s : ByteArray) : Stick (evN s) := fun st h => by unfold evN; simp only [stick_st s st h]
theorem stick_pr (s : ByteArray) : Stick (prN s) := stick_lsE s _
theorem stick_wd (s : ByteArray) : Stick (wdN s) := stick_lsE s _
theorem stick_lp (s : ByteArray) : Stick (lpN s) := fun st h => by unfold lpN; rw [stick_st s st h, stick_wd s st h]
theorem it_back {f : St → St} (h : Stick f) {n : Nat} {st : St} (k : (it f (n + 1) st).e = 0) : (it f n st).e = 0 := by
  refine Classical.byContradiction fun hc => ?_
  simp only [it] at k
  rw [h _ hc] at k
  exact hc k
theorem it_zero {f : St → St} (h : Stick f) {n : Nat} {st : St} (k : (it f n st).e = 0) : st.e = 0 := by
  induction n with
  | zero => exact k
  | succ n ih => exact ih (it_back h k)
theorem it_front (f : St → St) (n : Nat) (st : St) : it f n (f st) = it f (n + 1) st := by
  induction n with
  | zero => rfl
  | succ n ih => simp only [it] at ih ⊢; rw [ih]
/-- a loop that stops at an error comes to the same place -/
theorem it_stop {f : St → St} (h : Stick f) {j n : Nat} {st : St} (hj : j ≤ n) (k : (it f j st).e ≠ 0) : it f n st = it f j st := by
  induction n with
  | zero => rw [show j = 0 by omega]
  | succ n ih =>
    rcases Nat.lt_or_ge n j with h' | h'
    · rw [show j = n + 1 by omega]
    · simp only [it]; rw [ih h', h _ k]

/-- the words ws stand from st on, and st2 is the place behind them -/
structure Rd (s : ByteArray) (st : St) (ws : List Int) (st2 : St) : Prop where
  e0 : st.e = 0
  e1 : st2.e = 0
  pos : st2.pos = st.pos + 8 * ws.length
  word : ∀ i x, ws[i]? = some x → st.pos + 8 * i + 8 ≤ s.size ∧ rdI s (st.pos + 8 * i) 8 = x
theorem Rd.nil (s : ByteArray) {st : St} (h : st.e = 0) : Rd s st [] st := ⟨h, h, by simp, by simp⟩
theorem Rd.nil_eq {s : ByteArray} {st st2 : St} (h : Rd s st [] st2) : st = st2 := St.ext' (by have := h.pos; simpa using this.symm) (h.e0.trans h.e1.symm)
theorem Rd.append {s : ByteArray} {a b c : St} {xs ys : List Int} (h : Rd s a xs b) (k : Rd s b ys c) : Rd s a (xs ++ ys) c := by
  refine ⟨h.e0, k.e1, by rw [k.pos, h.pos, List.length_append]; omega, fun i x hx => ?_⟩
  rcases Nat.lt_or_ge i xs.length with hi | hi
  · rw [List.getElem?_append_left hi] at hx; exact h.word i x hx
  · rw [List.getElem?_append_right hi] at hx
    have := k.word _ _ hx
    rw [h.pos] at this
    rw [show a.pos + 8 * xs.length + 8 * (i - xs.length) = a.pos + 8 * i by omega] at this
    exact this
theorem Rd.split {s : ByteArray} {a c : St} {xs ys : List Int} (h : Rd s a (xs ++ ys) c) : ∃ b, Rd s a xs b ∧ Rd s b ys c := by
  refine ⟨⟨a.pos + 8 * xs.length, 0⟩, ⟨h.e0, rfl, rfl, fun i x hx => ?_⟩, rfl, h.e1, by rw [h.pos, List.length_append]; simp only; omega, fun i x hx => ?_⟩
  · have hi : i < xs.length := by
      rcases Nat.lt_or_ge i xs.length with hi | hi
      · exact hi
      · rw [List.getElem?_eq_none hi] at hx; cases hx
    exact h.word i x (by rw [List.getElem?_append_left hi]; exact hx)
  · have := h.word (xs.length + i) x (by rw [List.getElem?_append_right (by omega), Nat.add_sub_cancel_left]; exact hx)
    simp only
    rw [show a.pos + 8 * xs.length + 8 * i = a.pos + 8 * (xs.length + i) by omega]
    exact this
theorem Rd.cons {s : ByteArray} {a b c : St} {x : Int} {ys : List Int} (h : Rd s a [x] b) (k : Rd s b ys c) : Rd s a (x :: ys) c := h.append k
theorem Rd.head {s : ByteArray} {a c : St} {x : Int} {ys : List Int} (h : Rd s a (x :: ys) c) : ∃ b, Rd s a [x] b ∧ Rd s b ys c := Rd.split (xs := [x]) h

theorem word_once {s : ByteArray} {st : St} (h : (stN s st).e = 0) : Rd s st [stU s st] (stN s st) := by
  unfold stN stU at *
  by_cases h0 : st.e = 0
  · rw [if_pos h0] at h ⊢
    rw [if_pos h0]
    by_cases h1 : s.size < st.pos + 8
    · rw [if_pos h1] at h; simp at h
    · rw [if_neg h1, if_neg h1]
      refine ⟨h0, rfl, by simp, fun i x hx => ?_⟩
      have hi : i = 0 := by
        rcases Nat.eq_zero_or_pos i with h | h
        · exact h
        · rw [List.getElem?_eq_none (by simp; omega)] at hx; cases hx
      subst hi
      simp only [List.getElem?_cons_zero, Option.some.injEq] at hx
      exact ⟨by omega, by simpa using hx⟩
  · rw [if_neg h0] at h; exact absurd h h0
theorem word_back {s : ByteArray} {st st2 : St} {x : Int} (h : Rd s st [x] st2) : stU s st = x ∧ stN s st = st2 := by
  obtain ⟨h1, h2⟩ := h.word 0 x rfl
  have hp := h.pos
  simp only [List.length_singleton] at hp
  simp only [Nat.mul_zero, Nat.add_zero] at h1 h2
  unfold stU stN
  rw [if_pos h.e0, if_pos h.e0, if_neg (by omega), if_neg (by omega)]
  exact ⟨h2, St.ext' (by rw [hp]) h.e1.symm⟩
theorem stI_stU {s : ByteArray} {st : St} (h : (stN s st).e = 0) : stI s st = unflip63 (stU s st) ∧ 0 ≤ stU s st ∧ stU s st ≤ 18446744073709551615 := by
  unfold stN at h
  unfold stI stU
  by_cases h0 : st.e = 0
  · rw [if_pos h0] at h ⊢
    rw [if_pos h0]
    by_cases h1 : s.size < st.pos + 8
    · rw [if_pos h1] at h; simp at h
    · rw [if_neg h1, if_neg h1]
      exact ⟨rfl, (rdI_bd s _ 8).1, rdI8_bd s _⟩
  · rw [if_neg h0] at h; exact absurd h h0
theorem num_once {s : ByteArray} {st : St} (h : (stN s st).e = 0) : Rd s st [flip63 (stI s st)] (stN s st) := by
  obtain ⟨e, h1, h2⟩ := stI_stU h
  rw [e, flip_unflip _ h1 h2]
  exact word_once h
theorem flo_once {s : ByteArray} {st : St} (h : (stN s st).e = 0) : Rd s st [((stF s st : Nat) : Int)] (stN s st) := by
  obtain ⟨e, h1, h2⟩ := stI_stU h
  have : ((stF s st : Nat) : Int) = stU s st := by unfold stF; omega
  rw [this]
  exact word_once h
def r64 (n : Int) : Prop := -9223372036854775808 ≤ n ∧ n ≤ 9223372036854775807
theorem num_back {s : ByteArray} {st st2 : St} {n : Int} (hn : r64 n) (h : Rd s st [flip63 n] st2) : stI s st = n ∧ stN s st = st2 := by
  obtain ⟨h1, h2⟩ := word_back h
  have := (stI_stU (s := s) (st := st) (by rw [h2]; exact h.e1)).1
  rw [this, h1, unflip_flip n hn.1 hn.2]
  exact ⟨rfl, h2⟩
theorem flo_back {s : ByteArray} {st st2 : St} {x : Nat} (h : Rd s st [(x : Int)] st2) : stF s st = x ∧ stN s st = st2 := by
  obtain ⟨h1, h2⟩ := word_back h
  exact ⟨by unfold stF; rw [h1]; rfl, h2⟩

/-- lists -/
theorem its_once {s : ByteArray} {nx : St → St} {w : St → List Int} (hs : Stick nx) (h : ∀ st, (nx st).e = 0 → Rd s st (w st) (nx st)) (n : Nat) (st : St) (k : (it nx n st).e = 0) :
    Rd s st (catN (fun i => w (it nx i st)) n) (it nx n st) := by
  induction n with
  | zero => exact Rd.nil s k
  | succ n ih => exact (ih (it_back hs k)).append (h _ k)
theorem its_back {s : ByteArray} {nx : St → St} {f : Nat → List Int} {n : Nat} {P : Nat → St → Prop} (h : ∀ i, i < n → ∀ st st2, Rd s st (f i) st2 → P i st ∧ nx st = st2) (st st2 : St) (k : Rd s st (catN f n) st2) :
    it nx n st = st2 ∧ ∀ i, i < n → P i (it nx i st) := by
  induction n generalizing st2 with
  | zero => exact ⟨k.nil_eq, fun i hi => absurd hi (Nat.not_lt_zero i)⟩
  | succ n ih =>
    obtain ⟨b, k1, k2⟩ := k.split
    obtain ⟨e1, e2⟩ := ih (fun i hi => h i (by omega)) b k1
    obtain ⟨e3, e4⟩ := h n (by omega) b st2 k2
    refine ⟨by simp only [it]; rw [e1, e4], fun i hi => ?_⟩
    rcases Nat.lt_or_ge i n with h' | h'
    · exact e2 i h'
    · rw [show i = n by omega, e1]; exact e3
theorem ls_good {s : ByteArray} {st : St} (h : (lsS s st).e = 0) : 0 ≤ stI s st ∧ stI s st ≤ 48 := by
  refine Classical.byContradiction fun hc => ?_
  unfold lsS at h
  rw [if_neg hc] at h
  simp at h
theorem ls_once {s : ByteArray} {nx : St → St} {w : St → List Int} (hs : Stick nx) (h : ∀ st, (nx st).e = 0 → Rd s st (w st) (nx st)) (st : St) (k : (lsE s nx st).e = 0) :
    Rd s st (lsW (lsN s st) fun i => w (it nx i (lsS s st))) (lsE s nx st) := by
  have k1 : (lsS s st).e = 0 := it_zero hs k
  have hg := ls_good k1
  have e1 : lsS s st = stN s st := by unfold lsS; rw [if_pos hg]
  have e2 : ((lsN s st : Nat) : Int) = stI s st := by unfold lsN; rw [if_pos hg]; omega
  unfold lsW
  refine Rd.cons (b := lsS s st) ?_ (its_once hs h _ _ k)
  rw [e2, e1]
  exact num_once (by rw [← e1]; exact k1)
theorem ls_back {s : ByteArray} {nx : St → St} {f : Nat → List Int} {n : Nat} {P : Nat → St → Prop} (hn : n ≤ 48) (h : ∀ i, i < n → ∀ st st2, Rd s st (f i) st2 → P i st ∧ nx st = st2) (st st2 : St) (k : Rd s st (lsW n f) st2) :
    lsN s st = n ∧ lsE s nx st = st2 ∧ ∀ i, i < n → P i (it nx i (lsS s st)) := by
  obtain ⟨b, k1, k2⟩ := Rd.head k
  obtain ⟨e1, e2⟩ := num_back (n := n) ⟨by omega, by omega⟩ k1
  have e3 : lsN s st = n := by unfold lsN; rw [e1, if_pos (by omega)]; omega
  have e4 : lsS s st = b := by unfold lsS; rw [e1, if_pos (by omega), e2]
  obtain ⟨e5, e6⟩ := its_back h b st2 k2
  refine ⟨e3, by unfold lsE; rw [e3, e4, e5], fun i hi => by rw [e4]; exact e6 i hi⟩

theorem chain3 {s : ByteArray} {st : St} (h : (stN s (stN s st)).e = 0) : (stN s st).e = 0 := it_back (f := stN s) (stick_st s) (n := 1) (st := st) h
theorem ins_once {s : ByteArray} (st : St) (h : (insN s st).e = 0) : Rd s st (insW (insV s st)) (insN s st) := by
  unfold insN at h
  have h3 := chain3 h
  have h2 := chain3 h3
  have h1 := chain3 h2
  exact (num_once h1).cons ((num_once h2).cons ((num_once h3).cons (num_once h)))
theorem ev_once {s : ByteArray} (st : St) (h : (evN s st).e = 0) : Rd s st (evW (evV s st)) (evN s st) := by
  unfold evN at h
  have h2 := chain3 h
  have h1 := chain3 h2
  exact (flo_once h1).cons ((num_once h2).cons (num_once h))
theorem pr_once {s : ByteArray} (st : St) (h : (prN s st).e = 0) : Rd s st (prW (prV s st) (lsN s st)) (prN s st) := ls_once (stick_ins s) ins_once st h
theorem wd_once {s : ByteArray} (st : St) (h : (wdN s st).e = 0) : Rd s st (wdW (wdV s st) (lsN s st)) (wdN s st) := ls_once (w := fun st => [flip63 (stI s st)]) (stick_st s) (fun st h => num_once h) st h
theorem lp_once {s : ByteArray} (st : St) (h : (lpN s st).e = 0) : Rd s st (lpW (stI s st) (wdV s (stN s st)) (lsN s (stN s st))) (lpN s st) := by
  have h1 : (stN s st).e = 0 := Classical.byContradiction fun hc => by
    unfold lpN at h; rw [stick_wd s _ hc] at h; exact hc h
  exact (num_once h1).cons (wd_once _ h)
theorem up {f : St → St} (hf : Stick f) {st : St} (h : (f st).e = 0) : st.e = 0 := Classical.byContradiction fun hc => by rw [hf st hc] at h; exact hc h
theorem get_once {s : ByteArray} (h : (g6 s).e = 0) : Rd s ⟨0, 0⟩ (mdlW (getM s)) (g6 s) := by
  have h5 : (g5 s).e = 0 := up (stick_lsE s _) h
  have h4 : (g4 s).e = 0 := up (stick_lsE s _) h5
  have h3 : (g3 s).e = 0 := up (stick_lsE s _) h4
  have h2 : (g2 s).e = 0 := up (stick_lsE s _) h3
  have h1 : (g1 s).e = 0 := up (stick_st s) h2
  exact (num_once h1).cons ((flo_once h2).cons ((ls_once (w := fun st => [((stF s st : Nat) : Int)]) (stick_st s) (fun st h => flo_once h) _ h3).append
    ((ls_once (w := fun st => prW (prV s st) (lsN s st)) (stick_pr s) pr_once _ h4).append
      ((ls_once (w := fun st => lpW (stI s st) (wdV s (stN s st)) (lsN s (stN s st))) (stick_lp s) lp_once _ h5).append (ls_once (w := fun st => evW (evV s st)) (stick_ev s) ev_once _ h)))))

/-- the words at 0 are all of s: then s is their bytes -/
theorem byW_nums (s : ByteArray) (ws : List Int) (p : Nat) (h : ∀ i x, ws[i]? = some x → rdI s (p + 8 * i) 8 = x) : byW ws = numsAt s p (8 * ws.length) := by
  induction ws generalizing p with
  | nil => rfl
  | cons x ws ih =>
    rw [byW_cons, List.length_cons, show 8 * (ws.length + 1) = 8 + 8 * ws.length by omega, numsAt_add, ← ih (p + 8) fun i y hy => by
      have := h (i + 1) y (by simpa using hy)
      rw [show p + 8 + 8 * i = p + 8 * (i + 1) by omega]; exact this]
    have h0 := h 0 x rfl
    rw [Nat.mul_zero, Nat.add_zero] at h0
    rw [← h0, beI_rdI]
theorem once_all {s : ByteArray} (h : (g6 s).e = 0) (hp : (g6 s).pos = s.size) : layM (getM s) = s := by
  have k := get_once h
  have hl := k.pos
  rw [hp] at hl
  simp only [Nat.zero_add] at hl
  unfold layM
  rw [byW_nums s _ 0 fun i x hx => (k.word i x hx).2, ← hl, nums_self]

/-- all numbers within their 64 bits -/
structure Rng (m : Mdl) : Prop where
  seed : r64 m.seed
  fin : m.fin < 18446744073709551616
  d : ∀ i, i < m.nd → m.d i < 18446744073709551616
  pr : ∀ i, i < m.np → ∀ k, k < m.pl i → r64 (m.pr i k).op ∧ r64 (m.pr i k).a ∧ r64 (m.pr i k).b ∧ r64 (m.pr i k).c
  lp : ∀ i, i < m.nl → r64 (m.lp i)
  wd : ∀ i, i < m.nl → ∀ k, k < m.wl i → r64 (m.wd i k)
  ev : ∀ i, i < m.ni → (m.ev i).t < 18446744073709551616 ∧ r64 (m.ev i).dst ∧ r64 (m.ev i).pay
/-- the very same model, as far as its lists go -/
structure EqM (a b : Mdl) : Prop where
  seed : a.seed = b.seed
  fin : a.fin = b.fin
  nd : a.nd = b.nd
  d : ∀ i, i < b.nd → a.d i = b.d i
  np : a.np = b.np
  pl : ∀ i, i < b.np → a.pl i = b.pl i
  pr : ∀ i, i < b.np → ∀ k, k < b.pl i → a.pr i k = b.pr i k
  nl : a.nl = b.nl
  lp : ∀ i, i < b.nl → a.lp i = b.lp i
  wl : ∀ i, i < b.nl → a.wl i = b.wl i
  wd : ∀ i, i < b.nl → ∀ k, k < b.wl i → a.wd i k = b.wd i k
  ni : a.ni = b.ni
  ev : ∀ i, i < b.ni → a.ev i = b.ev i

theorem lsW_congr {n m : Nat} {f g : Nat → List Int} (h : n = m) (k : ∀ i, i < m → f i = g i) : lsW n f = lsW m g := by subst h; unfold lsW; rw [catN_congr k]
theorem EqM.words {a b : Mdl} (h : EqM a b) : mdlW a = mdlW b := by
  unfold mdlW
  rw [h.seed, h.fin, lsW_congr (f := fun i => [(a.d i : Int)]) (g := fun i => [(b.d i : Int)]) h.nd (fun i hi => by rw [h.d i hi]),
    lsW_congr (f := fun i => prW (a.pr i) (a.pl i)) (g := fun i => prW (b.pr i) (b.pl i)) h.np (fun i hi => by unfold prW; exact lsW_congr (h.pl i hi) fun k hk => by rw [h.pr i hi k hk]),
    lsW_congr (f := fun i => lpW (a.lp i) (a.wd i) (a.wl i)) (g := fun i => lpW (b.lp i) (b.wd i) (b.wl i)) h.nl (fun i hi => by
      unfold lpW wdW; rw [h.lp i hi, lsW_congr (f := fun k => [flip63 (a.wd i k)]) (g := fun k => [flip63 (b.wd i k)]) (h.wl i hi) (fun k hk => by rw [h.wd i hi k hk])]),
    lsW_congr (f := fun i => evW (a.ev i)) (g := fun i => evW (b.ev i)) h.ni (fun i hi => by rw [h.ev i hi])]
theorem EqM.may {a b : Mdl} (h : EqM a b) : mayB a = mayB b := by
  unfold mayB countsB
  rw [h.nl, h.np, h.nd, h.ni, h.fin, allN_congr (p := fun i => posF (a.d i)) (q := fun i => posF (b.d i)) (fun i hi => by rw [h.d i hi]),
    allN_congr (p := fun i => progB (a.pr i) (a.pl i)) (q := fun i => progB (b.pr i) (b.pl i)) (fun i hi => by
      unfold progB; rw [h.pl i hi, allN_congr (p := fun k => insB (a.pr i k) (b.pl i)) (q := fun k => insB (b.pr i k) (b.pl i)) (fun k hk => by rw [h.pr i hi k hk])]),
    allN_congr (p := fun i => lpB b.np (a.lp i) (a.wl i)) (q := fun i => lpB b.np (b.lp i) (b.wl i)) (fun i hi => by rw [h.lp i hi, h.wl i hi]),
    allN_congr (p := fun i => evB b.nl (a.ev i)) (q := fun i => evB b.nl (b.ev i)) (fun i hi => by rw [h.ev i hi])]
theorem sameL_true {n m : Nat} {p : Nat → Bool} : sameL n m p = true ↔ n = m ∧ ∀ i, i < n → p i = true := by unfold sameL; rw [Bool.and_eq_true, allN_iff]; simp
theorem EqM.same {a b : Mdl} (h : EqM a b) : sameB a b = true := by
  unfold sameB
  simp only [Bool.and_eq_true, sameL_true, decide_eq_true_eq]
  refine ⟨h.seed, by rw [h.fin]; exact sameF_refl _, ⟨h.nd, fun i hi => ?_⟩, ⟨h.np, fun i hi => ?_⟩, ⟨h.nl, fun i hi => ?_⟩, h.ni, fun i hi => ?_⟩
  · rw [h.d i (h.nd ▸ hi)]; exact sameF_refl _
  · unfold sameP
    rw [sameL_true]
    exact ⟨h.pl i (h.np ▸ hi), fun k hk => by rw [h.pr i (h.np ▸ hi) k (h.pl i (h.np ▸ hi) ▸ hk)]; exact sameI_refl _⟩
  · unfold sameLp sameW
    rw [Bool.and_eq_true, sameL_true]
    exact ⟨by simpa using h.lp i (h.nl ▸ hi), h.wl i (h.nl ▸ hi), fun k hk => by rw [h.wd i (h.nl ▸ hi) k (h.wl i (h.nl ▸ hi) ▸ hk)]; simp⟩
  · rw [h.ev i (h.ni ▸ hi)]; exact sameE_refl _

/-- which counts are told -/
theorem may_counts {m : Mdl} (h : mayB m = true) : m.nd ≤ 48 ∧ m.np ≤ 48 ∧ m.nl ≤ 48 ∧ m.ni ≤ 48 ∧ (∀ i, i < m.np → m.pl i ≤ 48) ∧ ∀ i, i < m.nl → m.wl i ≤ 48 := by
  unfold mayB countsB from1 at h
  simp only [Bool.and_eq_true, allN_iff, decide_eq_true_eq] at h
  obtain ⟨⟨h1, h2, h3, h4⟩, h5, h6, h7, h8, h9⟩ := h
  refine ⟨by omega, by omega, by omega, by omega, fun i hi => ?_, fun i hi => ?_⟩
  · have := h7 i hi
    unfold progB from1 at this
    simp only [Bool.and_eq_true, decide_eq_true_eq] at this
    omega
  · have := h8 i hi
    unfold lpB at this
    simp only [Bool.and_eq_true, decide_eq_true_eq] at this
    omega
theorem may_nums {m : Mdl} (h : mayB m = true) : isNum m.fin ∧ (∀ i, i < m.nd → isNum (m.d i)) ∧ ∀ i, i < m.ni → isNum (m.ev i).t := by
  unfold mayB at h
  simp only [Bool.and_eq_true, allN_iff] at h
  obtain ⟨_, h5, h6, h7, h8, h9⟩ := h
  refine ⟨by simpa [numF] using h5, fun i hi => ?_, fun i hi => ?_⟩
  · have := h6 i hi
    simp only [posF, decide_eq_true_eq] at this
    exact this.1
  · have := h9 i hi
    simp only [evB, Bool.and_eq_true, numF, decide_eq_true_eq] at this
    exact this.1
theorem sameF_num {x y : Nat} (hx : isNum x) (h : sameF x y = true) : x = y := by
  have : numF x = true := by simpa [numF] using hx
  simpa [sameF, this] using h
theorem sameI_eq {x y : I4} (h : sameI x y = true) : x = y := by
  cases x; cases y
  simp [sameI] at h
  simp [h]
theorem same_eq {a b : Mdl} (ha : mayB a = true) (h : sameB a b = true) : EqM a b := by
  obtain ⟨n1, n2, n3⟩ := may_nums ha
  unfold sameB at h
  simp only [Bool.and_eq_true, sameL_true, decide_eq_true_eq] at h
  obtain ⟨h1, h2, ⟨h3, h3'⟩, ⟨h4, h4'⟩, ⟨h5, h5'⟩, h6, h6'⟩ := h
  refine ⟨h1, sameF_num n1 h2, h3, fun i hi => sameF_num (n2 i (h3 ▸ hi)) (h3' i (h3 ▸ hi)), h4, fun i hi => ?_, fun i hi k hk => ?_, h5, fun i hi => ?_, fun i hi => ?_, fun i hi k hk => ?_, h6, fun i hi => ?_⟩
  · have := h4' i (h4 ▸ hi); unfold sameP at this; exact (sameL_true.1 this).1
  · have := h4' i (h4 ▸ hi); unfold sameP at this; have := sameL_true.1 this; exact sameI_eq (this.2 k (this.1 ▸ hk))
  · have := h5' i (h5 ▸ hi); unfold sameLp at this; simp only [Bool.and_eq_true, decide_eq_true_eq] at this; exact this.1
  · have := h5' i (h5 ▸ hi); unfold sameLp sameW at this; simp only [Bool.and_eq_true, sameL_true] at this; exact this.2.1
  · have := h5' i (h5 ▸ hi); unfold sameLp sameW at this; simp only [Bool.and_eq_true, sameL_true] at this; simpa using this.2.2 k (this.2.1 ▸ hk)
  · have := h6' i (h6 ▸ hi)
    unfold sameE at this
    simp only [Bool.and_eq_true, decide_eq_true_eq] at this
    obtain ⟨k1, k2, k3⟩ := this
    have k4 := sameF_num (n3 i (h6 ▸ hi)) k1
    cases hx : a.ev i; cases hy : b.ev i
    simp only [hx, hy] at k2 k3 k4
    simp [k2, k3, k4]

theorem ins_back {s : ByteArray} {x : I4} (h : r64 x.op ∧ r64 x.a ∧ r64 x.b ∧ r64 x.c) (st st2 : St) (k : Rd s st (insW x) st2) : insV s st = x ∧ insN s st = st2 := by
  obtain ⟨b1, k1, k⟩ := Rd.head k
  obtain ⟨b2, k2, k⟩ := Rd.head k
  obtain ⟨b3, k3, k4⟩ := Rd.head k
  obtain ⟨e1, f1⟩ := num_back h.1 k1
  obtain ⟨e2, f2⟩ := num_back h.2.1 k2
  obtain ⟨e3, f3⟩ := num_back h.2.2.1 k3
  obtain ⟨e4, f4⟩ := num_back h.2.2.2 k4
  unfold insV insN
  rw [f1, f2, f3, f4, e1, e2, e3, e4]
  exact ⟨rfl, rfl⟩
theorem ev_back {s : ByteArray} {x : Ev} (h : r64 x.dst ∧ r64 x.pay) (st st2 : St) (k : Rd s st (evW x) st2) : evV s st = x ∧ evN s st = st2 := by
  obtain ⟨b1, k1, k⟩ := Rd.head k
  obtain ⟨b2, k2, k3⟩ := Rd.head k
  obtain ⟨e1, f1⟩ := flo_back k1
  obtain ⟨e2, f2⟩ := num_back h.1 k2
  obtain ⟨e3, f3⟩ := num_back h.2 k3
  unfold evV evN
  rw [f1, f2, f3, e1, e2, e3]
  exact ⟨rfl, rfl⟩
theorem pr_back {s : ByteArray} {f : Nat → I4} {n : Nat} (hn : n ≤ 48) (h : ∀ k, k < n → r64 (f k).op ∧ r64 (f k).a ∧ r64 (f k).b ∧ r64 (f k).c) (st st2 : St) (k : Rd s st (prW f n) st2) :
    (lsN s st = n ∧ ∀ k, k < n → prV s st k = f k) ∧ prN s st = st2 := by
  obtain ⟨e1, e2, e3⟩ := ls_back (nx := insN s) (P := fun i st => insV s st = f i) hn (fun i hi st st2 k => ins_back (h i hi) st st2 k) st st2 k
  exact ⟨⟨e1, e3⟩, e2⟩
theorem wd_back {s : ByteArray} {f : Nat → Int} {n : Nat} (hn : n ≤ 48) (h : ∀ k, k < n → r64 (f k)) (st st2 : St) (k : Rd s st (wdW f n) st2) :
    (lsN s st = n ∧ ∀ k, k < n → wdV s st k = f k) ∧ wdN s st = st2 := by
  obtain ⟨e1, e2, e3⟩ := ls_back (nx := stN s) (P := fun i st => stI s st = f i) hn (fun i hi st st2 k => num_back (h i hi) k) st st2 k
  exact ⟨⟨e1, e3⟩, e2⟩
theorem lp_back {s : ByteArray} {p : Int} {f : Nat → Int} {n : Nat} (hp : r64 p) (hn : n ≤ 48) (h : ∀ k, k < n → r64 (f k)) (st st2 : St) (k : Rd s st (lpW p f n) st2) :
    (stI s st = p ∧ lsN s (stN s st) = n ∧ ∀ k, k < n → wdV s (stN s st) k = f k) ∧ lpN s st = st2 := by
  obtain ⟨b, k1, k2⟩ := Rd.head k
  obtain ⟨e1, e2⟩ := num_back hp k1
  obtain ⟨⟨e3, e4⟩, e5⟩ := wd_back hn h b st2 k2
  unfold lpN
  rw [e2]
  exact ⟨⟨e1, e3, e4⟩, e5⟩
theorem get_back {s : ByteArray} {m : Mdl} {st2 : St} (hr : Rng m) (hm : mayB m = true) (k : Rd s ⟨0, 0⟩ (mdlW m) st2) : g6 s = st2 ∧ EqM (getM s) m := by
  obtain ⟨c1, c2, c3, c4, c5, c6⟩ := may_counts hm
  obtain ⟨b1, k1, k⟩ := Rd.head k
  obtain ⟨b2, k2, k⟩ := Rd.head k
  obtain ⟨b3, k3, k⟩ := k.split
  obtain ⟨b4, k4, k⟩ := k.split
  obtain ⟨b5, k5, k6⟩ := k.split
  obtain ⟨s1, f1⟩ := num_back hr.seed k1
  have f1 : g1 s = b1 := f1
  obtain ⟨s2, f2⟩ := flo_back k2
  have f2 : g2 s = b2 := by unfold g2; rw [f1]; exact f2
  obtain ⟨n3, f3, d3⟩ := ls_back (nx := stN s) (P := fun i st => stF s st = m.d i) c1 (fun i hi st st2 k => flo_back k) b2 b3 k3
  have f3 : g3 s = b3 := by unfold g3; rw [f2]; exact f3
  obtain ⟨n4, f4, d4⟩ := ls_back (nx := prN s) (P := fun i st => lsN s st = m.pl i ∧ ∀ k, k < m.pl i → prV s st k = m.pr i k) c2 (fun i hi st st2 k => pr_back (c5 i hi) (hr.pr i hi) st st2 k) b3 b4 k4
  have f4 : g4 s = b4 := by unfold g4; rw [f3]; exact f4
  obtain ⟨n5, f5, d5⟩ := ls_back (nx := lpN s) (P := fun i st => stI s st = m.lp i ∧ lsN s (stN s st) = m.wl i ∧ ∀ k, k < m.wl i → wdV s (stN s st) k = m.wd i k) c3 (fun i hi st st2 k => lp_back (hr.lp i hi) (c6 i hi) (hr.wd i hi) st st2 k) b4 b5 k5
  have f5 : g5 s = b5 := by unfold g5; rw [f4]; exact f5
  obtain ⟨n6, f6, d6⟩ := ls_back (nx := evN s) (P := fun i st => evV s st = m.ev i) c4 (fun i hi st st2 k => ev_back (hr.ev i hi).2 st st2 k) b5 st2 k6
  have f6 : g6 s = st2 := by unfold g6; rw [f5]; exact f6
  refine ⟨f6, ?_⟩
  unfold getM
  rw [f1, f2, f3, f4, f5]
  exact ⟨s1, s2, n3, d3, n4, fun i hi => (d4 i hi).1, fun i hi k hk => (d4 i hi).2 k hk, n5, fun i hi => (d5 i hi).1, fun i hi => (d5 i hi).2.1, fun i hi k hk => (d5 i hi).2.2 k hk, n6, d6⟩

/-- the words of bytes that were laid -/
theorem rd_laid (ws : List Int) (h : ∀ x ∈ ws, 0 ≤ x ∧ x ≤ 18446744073709551615) : Rd (strOfNums (byW ws)) ⟨0, 0⟩ ws ⟨8 * ws.length, 0⟩ := by
  refine ⟨rfl, rfl, by simp, fun i x hx => ?_⟩
  have hi : i < ws.length := by
    rcases Nat.lt_or_ge i ws.length with h | h
    · exact h
    · rw [List.getElem?_eq_none h] at hx; cases hx
  have hsz : (strOfNums (byW ws)).size = 8 * ws.length := by rw [strOfNums_size, byW_len]
  refine ⟨by rw [hsz]; simp only; omega, ?_⟩
  have hxm : x ∈ ws := List.mem_of_getElem? hx
  have hb := h x hxm
  have e : ws = ws.take i ++ (x :: ws.drop (i + 1)) := by
    have h1 := List.take_append_drop i ws
    rw [List.drop_eq_getElem_cons hi] at h1
    rw [List.getElem?_eq_getElem hi, Option.some.injEq] at hx
    rw [hx] at h1
    exact h1.symm
  have e2 : strOfNums (byW ws) = strOfNums (byW (ws.take i)) ++ strOfNums (beI 8 x) ++ strOfNums (byW (ws.drop (i + 1))) := by
    rw [strOfNums_append, strOfNums_append]
    congr 1
    conv => lhs; rw [e]
    rw [byW_append, byW_cons, List.append_assoc]
  have hm := numsAt_mid (strOfNums (byW (ws.take i))) (strOfNums (byW (ws.drop (i + 1)))) (beI 8 x) (beI_mem 8 x)
  rw [← e2, beI_len, strOfNums_size, byW_len, List.length_take, Nat.min_eq_left (by omega)] at hm
  simp only [Nat.zero_add]
  exact rdI_of _ _ 8 x hb.1 (by omega) hm
theorem catN_mem {f : Nat → List Int} {n : Nat} {P : Int → Prop} (h : ∀ i, i < n → ∀ x ∈ f i, P x) : ∀ x ∈ catN f n, P x := by
  induction n with
  | zero => intro x hx; simp [catN] at hx
  | succ n ih =>
    intro x hx
    simp only [catN, List.mem_append] at hx
    rcases hx with hx | hx
    · exact ih (fun i hi => h i (by omega)) x hx
    · exact h n (by omega) x hx
theorem mdlW_bd {m : Mdl} (hr : Rng m) : ∀ x ∈ mdlW m, 0 ≤ x ∧ x ≤ 18446744073709551615 := by
  have hf : ∀ n, 0 ≤ flip63 n ∧ flip63 n ≤ 18446744073709551615 := fun n => ⟨flip63_lo n, flip63_hi n⟩
  have hl : ∀ (n : Nat) (f : Nat → List Int), (∀ i, i < n → ∀ x ∈ f i, 0 ≤ x ∧ x ≤ 18446744073709551615) → ∀ x ∈ lsW n f, 0 ≤ x ∧ x ≤ 18446744073709551615 := fun n f h x hx => by
    unfold lsW at hx
    simp only [List.mem_cons] at hx
    rcases hx with rfl | hx
    · exact hf _
    · exact catN_mem (P := fun x => 0 ≤ x ∧ x ≤ 18446744073709551615) h x hx
  intro x hx
  unfold mdlW at hx
  simp only [List.mem_cons, List.mem_append] at hx
  rcases hx with rfl | rfl | hx | hx | hx | hx
  · exact hf _
  · have := hr.fin; omega
  · exact hl _ _ (fun i hi y hy => by simp only [List.mem_singleton] at hy; have := hr.d i hi; omega) x hx
  · exact hl _ _ (fun i hi y hy => hl _ _ (fun k hk z hz => by
      simp only [insW, List.mem_cons, List.not_mem_nil, or_false] at hz
      rcases hz with rfl | rfl | rfl | rfl <;> exact hf _) y hy) x hx
  · exact hl _ _ (fun i hi y hy => by
      unfold lpW at hy
      simp only [List.mem_cons] at hy
      rcases hy with rfl | hy
      · exact hf _
      · exact hl _ _ (fun k hk z hz => by simp only [List.mem_singleton] at hz; rw [hz]; exact hf _) y hy) x hx
  · exact hl _ _ (fun i hi y hy => by
      simp only [evW, List.mem_cons, List.not_mem_nil, or_false] at hy
      have := (hr.ev i hi).1
      rcases hy with rfl | rfl | rfl
      · omega
      · exact hf _
      · exact hf _) x hx
/-- what was laid is read as it was -/
theorem back_all {m : Mdl} (hr : Rng m) (hm : mayB m = true) : getE (layM m) = 0 ∧ EqM (getM (layM m)) m := by
  obtain ⟨e1, e2⟩ := get_back hr hm (rd_laid (mdlW m) (mdlW_bd hr))
  refine ⟨?_, e2⟩
  unfold getE
  have hsz : (layM m).size = 8 * (mdlW m).length := by unfold layM; rw [strOfNums_size, byW_len]
  have e1 : g6 (layM m) = ⟨8 * (mdlW m).length, 0⟩ := e1
  have e3 := e2.may
  have e3 : mayB (getM (layM m)) = mayB m := e3
  rw [e1, if_neg (by simp), if_neg (by simp [hsz])]
  unfold chkN
  rw [e3, hm]
  rfl
/-- unlike models have unlike bytes -/
theorem EqM.symm {a b : Mdl} (h : EqM a b) : EqM b a :=
  ⟨h.seed.symm, h.fin.symm, h.nd.symm, fun i hi => (h.d i (h.nd ▸ hi)).symm, h.np.symm, fun i hi => (h.pl i (h.np ▸ hi)).symm, fun i hi k hk => (h.pr i (h.np ▸ hi) k (h.pl i (h.np ▸ hi) ▸ hk)).symm,
    h.nl.symm, fun i hi => (h.lp i (h.nl ▸ hi)).symm, fun i hi => (h.wl i (h.nl ▸ hi)).symm, fun i hi k hk => (h.wd i (h.nl ▸ hi) k (h.wl i (h.nl ▸ hi) ▸ hk)).symm, h.ni.symm, fun i hi => (h.ev i (h.ni ▸ hi)).symm⟩
theorem EqM.trans {a b c : Mdl} (h : EqM a b) (k : EqM b c) : EqM a c :=
  ⟨h.seed.trans k.seed, h.fin.trans k.fin, h.nd.trans k.nd, fun i hi => (h.d i (k.nd ▸ hi)).trans (k.d i hi), h.np.trans k.np, fun i hi => (h.pl i (k.np ▸ hi)).trans (k.pl i hi),
    fun i hi j hj => (h.pr i (k.np ▸ hi) j ((k.pl i hi).symm ▸ hj)).trans (k.pr i hi j hj),
    h.nl.trans k.nl, fun i hi => (h.lp i (k.nl ▸ hi)).trans (k.lp i hi), fun i hi => (h.wl i (k.nl ▸ hi)).trans (k.wl i hi),
    fun i hi j hj => (h.wd i (k.nl ▸ hi) j ((k.wl i hi).symm ▸ hj)).trans (k.wd i hi j hj), h.ni.trans k.ni, fun i hi => (h.ev i (k.ni ▸ hi)).trans (k.ev i hi)⟩
theorem apart_all {a b : Mdl} (ra : Rng a) (rb : Rng b) (ha : mayB a = true) (hb : mayB b = true) : decide (layM a = layM b) = sameB a b := by
  rw [Bool.eq_iff_iff, decide_eq_true_eq]
  constructor
  · intro h
    have h1 := (back_all ra ha).2
    have h2 := (back_all rb hb).2
    rw [h] at h1
    exact (h1.symm.trans h2).same
  · intro h
    unfold layM
    rw [(same_eq ha h).words]

end Go.Proofs.Ytemhbcjpgapjkaa
