/- A pool that nobody holds between its calls, over six pages: whoever reads sees what was put last. Plain mathematics. -/
import Derived.Test.YtmflkkkbahghgaaGreatYZ32
namespace Go.Proofs.YtmflkkkbahghgaaGreat
open Go.RowKit
set_option linter.unusedVariables false
set_option linter.unusedSimpArgs false
set_option maxRecDepth 100000

/-- six logical pages on forty -/
structure W6 (x : Stt) : Prop where
  m : x.many = 40
  n : x.now.length = 6
  i : ∀ i, i < 6 → (slA x.now i).is = true
  o : x.old.length ≤ 6
theorem need6 {l : List Slt} (h : l.length ≤ 6) : keptS l ≤ 7 := by
  have h1 : thereS l ≤ l.length := cntB_le _ _
  have h2 : needR (l.length : Int) ≤ 1 := by
    have : l.length = 0 ∨ l.length = 1 ∨ l.length = 2 ∨ l.length = 3 ∨ l.length = 4 ∨ l.length = 5 ∨ l.length = 6 := by omega
    rcases this with e | e | e | e | e | e | e <;> rw [e] <;> decide
  unfold keptS
  omega
theorem W6.put {x : Stt} (h : W6 x) {l : Int} (h0 : 0 ≤ l) (h6 : l < 6) {s : ByteArray} (hs : s.size ≤ 232) : putWE x l s = 0 ∧ W6 (putWX x l s) ∧ ∀ k, (slA (putWX x l s).now k).b = if k = l.toNat then fullP s else (slA x.now k).b := by
  have hin : inS x.now l := ⟨h0, h.i _ (by omega)⟩
  have hf : ¬ freeS x.many x.now x.old < 1 := by
    have h1 := need6 h.o
    have h2 : freshS x.now ≤ x.now.length := cntB_le _ _
    have h3 := h.n
    unfold freeS
    rw [h.m]
    omega
  have e : putWE x l s = 0 := by
    unfold putWE
    rw [if_neg (by omega), if_pos hin, if_neg (fun c => hf c.2)]
  refine ⟨e, ?_, fun k => ?_⟩
  · unfold putWX
    rw [if_pos e]
    refine ⟨h.m, ?_, fun i hi => ?_, h.o⟩
    · show (setS _ _ _).length = 6
      rw [setS_len, h.n]
      omega
    · show (slA (setS _ _ _) i).is = true
      rw [setS_at]
      split
      · rfl
      · exact h.i i hi
  · unfold putWX
    rw [if_pos e]
    show (slA (setS _ _ _) k).b = _
    rw [setS_at]
    split <;> rfl
theorem trim6 {l : List Slt} (h : l.length = 6) (hi : ∀ i, i < 6 → (slA l i).is = true) : trimS l l.length = 6 := by
  rw [h]
  have : isS l 5 = true := hi 5 (by omega)
  show (if isS l 5 then 5 + 1 else trimS l 5) = 6
  rw [this]
  rfl
theorem W6.com {x : Stt} (h : W6 x) : W6 (comSX x) ∧ ∀ k, k < 6 → (slA (comSX x).now k).b = (slA x.now k).b := by
  unfold comSX
  split
  · exact ⟨h, fun _ _ => rfl⟩
  · have ht := trim6 h.n h.i
    have hl : (nextS x.now).length = 6 := by rw [nextS_len, ht]
    have ha : ∀ k, k < 6 → slA (nextS x.now) k = oldS (slA x.now k) := fun k hk => by rw [nextS_at, if_pos (by omega)]
    refine ⟨⟨h.m, hl, fun i hi => ?_, by show (nextS x.now).length ≤ 6; omega⟩, fun k hk => ?_⟩
    · show (slA (nextS x.now) i).is = true
      rw [ha i hi]
      exact h.i i hi
    · show (slA (nextS x.now) k).b = _
      rw [ha k hk]
      rfl
/-- what whoever goes through the pool sees -/
structure One (p : Plt) (v : Nat → ByteArray) : Prop where
  w : W6 p.x
  fr : ∀ i, i < p.f.length → 0 ≤ (frA p.f i).pg → (frA p.f i).pg < 6 ∧ (∀ j, j < p.f.length → (frA p.f j).pg = (frA p.f i).pg → j = i) ∧ v (frA p.f i).pg.toNat = (frA p.f i).b ∧ ((frA p.f i).di = false → (slA p.x.now (frA p.f i).pg.toNat).b = (frA p.f i).b)
  un : ∀ l : Nat, l < 6 → (∀ i, i < p.f.length → (frA p.f i).pg ≠ (l : Int)) → v l = (slA p.x.now l).b
section
variable {p q : Plt} {v : Nat → ByteArray} {h0 : Nat}
/-- the same frames, but for who uses and holds them -/
theorem One.same (h : One p v) (hx : q.x = p.x) (hl : q.f.length = p.f.length) (hs : ∀ i, (frA q.f i).pg = (frA p.f i).pg ∧ (frA q.f i).b = (frA p.f i).b ∧ (frA q.f i).di = (frA p.f i).di) : One q v := by
  refine ⟨by rw [hx]; exact h.w, fun i hi h1 => ?_, fun l hl6 hno => ?_⟩
  · rw [(hs i).1] at h1
    rw [hl] at hi
    obtain ⟨a, b, c, d⟩ := h.fr i hi h1
    rw [(hs i).1, (hs i).2.1, (hs i).2.2, hx]
    exact ⟨a, fun j hj e => b j (by rw [← hl]; exact hj) (by rw [← (hs j).1]; exact e), c, d⟩
  · rw [hx]
    exact h.un l hl6 fun i hi => by rw [← (hs i).1]; exact hno i (by rw [hl]; exact hi)
theorem One.vic (h : One p v) : One (vicP p).1 v :=
  h.same (vicP_x p) (vicP_len p) fun i => ⟨(vicP_at p i).1, (vicP_at p i).2.2.1, (vicP_at p i).2.2.2⟩
theorem One.bak (h : One p v) (hf : ∀ i, OkF h0 (frA p.f i)) {i : Nat} (hi : i < p.f.length) : bakE p i = 0 ∧ One (bakP p i) v ∧ (frA (bakP p i).f i).di = false := by
  cases hd : (frA p.f i).di with
  | false =>
    obtain ⟨b1, b2⟩ := cl_bak hd
    rw [b2]
    exact ⟨b1, h, hd⟩
  | true =>
    have hpg : 0 ≤ (frA p.f i).pg ∧ (frA p.f i).b.size = 232 := by
      rcases hf i with e | e
      · rw [e] at hd; cases hd
      · exact ⟨e.1, e.2.1⟩
    obtain ⟨a, b, c, d⟩ := h.fr i hi hpg.1
    obtain ⟨e1, e2, e3⟩ := h.w.put hpg.1 a (s := (frA p.f i).b) (by omega)
    have hfu := full_self hpg.2
    have ep : bakP p i = { p with x := putWX p.x (frA p.f i).pg (frA p.f i).b, f := p.f.set i { frA p.f i with di := false } } := by
      unfold bakP
      rw [hd, if_pos rfl, if_pos e1]
    have fx : ∀ k, frA (p.f.set i { frA p.f i with di := false }) k = if k = i then { frA p.f i with di := false } else frA p.f k := fun k => by
      rw [frA_set]
      by_cases q : k = i
      · rw [if_pos ⟨q, hi⟩, if_pos q]
      · rw [if_neg (fun z => q z.1), if_neg q]
    have fpg : ∀ k, (frA (p.f.set i { frA p.f i with di := false }) k).pg = (frA p.f k).pg ∧ (frA (p.f.set i { frA p.f i with di := false }) k).b = (frA p.f k).b := fun k => by
      rw [fx]
      split
      · next q => rw [q]; exact ⟨rfl, rfl⟩
      · exact ⟨rfl, rfl⟩
    refine ⟨by unfold bakE; rw [hd, if_pos rfl]; exact e1, ?_, ?_⟩
    · rw [ep]
      refine ⟨e2, fun j hj hp => ?_, fun l hl6 hno => ?_⟩
      · dsimp only at hj hp ⊢
        rw [List.length_set] at hj ⊢
        rw [(fpg j).1] at hp
        rw [(fpg j).1, (fpg j).2]
        obtain ⟨a2, b2, c2, d2⟩ := h.fr j hj hp
        refine ⟨a2, fun m hm e => b2 m hm (by rw [← (fpg m).1]; exact e), c2, fun hdj => ?_⟩
        rw [e3]
        by_cases q : j = i
        · subst q
          rw [if_pos rfl, hfu]
        · rw [if_neg]
          · refine d2 ?_
            rw [fx, if_neg q] at hdj
            exact hdj
          · intro e
            exact q (b j hj (by omega))
      · dsimp only at hno ⊢
        rw [List.length_set] at hno
        rw [e3, if_neg]
        · exact h.un l hl6 fun m hm => by rw [← (fpg m).1]; exact hno m hm
        · intro e
          have := hno i hi
          rw [(fpg i).1] at this
          omega
    · rw [ep]
      dsimp only
      rw [fx, if_pos rfl]
/-- a clean frame is made empty -/
theorem One.drop (h : One p v) {i : Nat} (hi : i < p.f.length) (hd : (frA p.f i).di = false) : One { p with f := p.f.set i noF } v := by
  have fx : ∀ k, frA (p.f.set i noF) k = if k = i then noF else frA p.f k := fun k => by
    rw [frA_set]
    by_cases q : k = i
    · rw [if_pos ⟨q, hi⟩, if_pos q]
    · rw [if_neg (fun z => q z.1), if_neg q]
  refine ⟨h.w, fun j hj hp => ?_, fun l hl6 hno => ?_⟩
  · dsimp only at hj hp ⊢
    rw [List.length_set] at hj ⊢
    rw [fx] at hp ⊢
    by_cases q : j = i
    · rw [if_pos q] at hp
      exact absurd hp (by decide)
    · rw [if_neg q] at hp ⊢
      obtain ⟨a2, b2, c2, d2⟩ := h.fr j hj hp
      refine ⟨a2, fun m hm e => ?_, c2, d2⟩
      rw [fx] at e
      by_cases z : m = i
      · rw [if_pos z] at e
        have : (noF.pg : Int) = -1 := rfl
        omega
      · rw [if_neg z] at e
        exact b2 m hm e
  · dsimp only at hno ⊢
    rw [List.length_set] at hno
    by_cases q : (frA p.f i).pg = (l : Int)
    · obtain ⟨a2, b2, c2, d2⟩ := h.fr i hi (by omega)
      have := d2 hd
      rw [q] at c2 this
      rw [Int.toNat_natCast] at c2 this
      rw [c2, this]
    · exact h.un l hl6 fun m hm e => by
        have := hno m hm
        rw [fx] at this
        by_cases z : m = i
        · subst z; exact q e
        · rw [if_neg z] at this; exact this e
theorem One.rm (h : One p v) (ok : OkP p) (hz : NoH p) : (rmQ p).2.2 = 0 ∧ One (rmQ p).1 v := by
  have hv : (vicP p).2 < p.f.length := vicP_found ok.hand ok.hand (hz _)
  have hv2 : (vicP p).2 < (vicP p).1.f.length := by rw [vicP_len]; exact hv
  have hf2 : ∀ i, OkF 1000000 (frA (vicP p).1.f i) := by
    unfold vicP
    split
    · exact ok.f
    · exact vicN_okf _ _ _ _ ok.f
  obtain ⟨b1, b2, b3⟩ := h.vic.bak hf2 hv2
  have e : rmQ p = ({ bakP (vicP p).1 (vicP p).2 with f := (bakP (vicP p).1 (vicP p).2).f.set (vicP p).2 noF }, (vicP p).2, 0) := by
    unfold rmQ
    rw [if_pos hv, if_pos b1]
  rw [e]
  exact ⟨rfl, b2.drop (by rw [bakP_len]; exact hv2) b3⟩
theorem rm_pages {p : Plt} {l : Int} (h0 : 0 ≤ l) (hno : ∀ i, i < p.f.length → (frA p.f i).pg ≠ l) (he : (rmQ p).2.2 = 0) : ∀ i, i < (rmQ p).1.f.length → (frA (rmQ p).1.f i).pg ≠ l := by
  intro i hi
  rw [rm_len] at hi
  by_cases c : i = (rmQ p).2.1
  · rw [c, (rm_no he).1]
    intro e
    have : (noF.pg : Int) = -1 := rfl
    omega
  · rw [rm_pg he c]
    exact hno i hi
/-- a page that no frame has is brought -/
theorem One.br (h : One p v) (ok : OkP p) (hz : NoH p) {l : Nat} (hl : l < 6) (hno : ∀ i, i < p.f.length → (frA p.f i).pg ≠ (l : Int)) : (brR p (l : Int)).2.2 = 0 ∧ One (brR p (l : Int)).1 v ∧ (frA (brR p (l : Int)).1.f (brR p (l : Int)).2.1).b = v l := by
  obtain ⟨r1, r2⟩ := h.rm ok hz
  have hin : inS p.x.now (l : Int) := ⟨by omega, by rw [Int.toNat_natCast]; exact h.w.i l hl⟩
  have hno2 := rm_pages (p := p) (l := (l : Int)) (by omega) hno r1
  have hk := (rm_no r1).2
  have e : brR p (l : Int) = ({ (rmQ p).1 with f := (rmQ p).1.f.set (rmQ p).2.1 ⟨(l : Int), (slA p.x.now l).b, 0, false, false⟩ }, (rmQ p).2.1, 0) := by
    unfold brR
    rw [if_pos hin, if_pos r1, Int.toNat_natCast]
  have v1 := h.un l hl hno
  have v2 := r2.un l hl hno2
  have fx : ∀ k, frA ((rmQ p).1.f.set (rmQ p).2.1 ⟨(l : Int), (slA p.x.now l).b, 0, false, false⟩) k = if k = (rmQ p).2.1 then ⟨(l : Int), (slA p.x.now l).b, 0, false, false⟩ else frA (rmQ p).1.f k := fun k => by
    rw [frA_set]
    by_cases q : k = (rmQ p).2.1
    · rw [if_pos ⟨q, hk⟩, if_pos q]
    · rw [if_neg (fun z => q z.1), if_neg q]
  rw [e]
  refine ⟨rfl, ⟨r2.w, fun j hj hp => ?_, fun l2 hl2 hn2 => ?_⟩, ?_⟩
  · dsimp only at hj hp ⊢
    rw [List.length_set] at hj ⊢
    rw [fx] at hp ⊢
    by_cases q : j = (rmQ p).2.1
    · rw [if_pos q] at hp ⊢
      refine ⟨by show (l : Int) < 6; omega, fun m hm e => ?_, ?_, fun _ => ?_⟩
      · rw [fx] at e
        by_cases z : m = (rmQ p).2.1
        · rw [z, q]
        · rw [if_neg z] at e
          exact absurd e (hno2 m hm)
      · rw [Int.toNat_natCast]; exact v1
      · rw [Int.toNat_natCast, ← v2]; exact v1
    · rw [if_neg q] at hp ⊢
      obtain ⟨a2, b2, c2, d2⟩ := r2.fr j hj hp
      refine ⟨a2, fun m hm e => ?_, c2, d2⟩
      rw [fx] at e
      by_cases z : m = (rmQ p).2.1
      · rw [if_pos z] at e
        exact absurd e.symm (hno2 j hj)
      · rw [if_neg z] at e
        exact b2 m hm e
  · dsimp only at hn2 ⊢
    rw [List.length_set] at hn2
    refine r2.un l2 hl2 fun m hm e => ?_
    have := hn2 m hm
    rw [fx] at this
    by_cases z : m = (rmQ p).2.1
    · rw [z, (rm_no r1).1] at e
      have : (noF.pg : Int) = -1 := rfl
      omega
    · rw [if_neg z] at this; exact this e
  · dsimp only
    rw [fx, if_pos rfl]
    exact v1.symm
theorem once_same (q : Plt) (k : Nat) : ∀ i, (frA (onceF q k).f i).pg = (frA q.f i).pg ∧ (frA (onceF q k).f i).b = (frA q.f i).b ∧ (frA (onceF q k).f i).di = (frA q.f i).di := fun i => by
  unfold onceF
  dsimp only
  rw [frA_set]
  split
  · next c => rw [c.1]; exact ⟨rfl, rfl, rfl⟩
  · exact ⟨rfl, rfl, rfl⟩
theorem One.ho (h : One p v) (ok : OkP p) (hz : NoH p) {l : Nat} (hl : l < 6) : (hoQ p (l : Int)).2.2 = 0 ∧ One (hoQ p (l : Int)).1 v ∧ (frA (hoQ p (l : Int)).1.f (hoQ p (l : Int)).2.1).b = v l ∧ (frA (hoQ p (l : Int)).1.f (hoQ p (l : Int)).2.1).pg = (l : Int) := by
  unfold hoQ
  by_cases c1 : fndF p.f (l : Int) < p.f.length
  · rw [if_pos c1]
    have hh := fndF_has c1
    obtain ⟨a, b, c, d⟩ := h.fr _ c1 (by rw [hh.2]; omega)
    rw [hh.2, Int.toNat_natCast] at c
    refine ⟨rfl, h.same rfl List.length_set (once_same p _), ?_, ?_⟩
    · rw [(once_same p _ _).2.1]; exact c.symm
    · rw [(once_same p _ _).1]; exact hh.2
  · rw [if_neg c1]
    have hno : ∀ i, i < p.f.length → (frA p.f i).pg ≠ (l : Int) := fun i hi => fndF_no (by have := fndF_le p.f (l : Int); omega) (by omega) hi
    obtain ⟨b1, b2, b3⟩ := h.br ok hz hl hno
    rw [if_pos b1]
    refine ⟨rfl, b2.same rfl List.length_set (once_same _ _), ?_, ?_⟩
    · rw [(once_same _ _ _).2.1]; exact b3
    · rw [(once_same _ _ _).1]
      have hin : inS p.x.now (l : Int) := ⟨by omega, by rw [Int.toNat_natCast]; exact h.w.i l hl⟩
      have r1 := (h.rm ok hz).1
      unfold brR
      rw [if_pos hin, if_pos r1]
      dsimp only
      rw [frA_set, if_pos ⟨rfl, (rm_no r1).2⟩]
/-- a page that is not there -/
theorem One.ho_none (h : One p v) {l : Int} (hl : ¬ (0 ≤ l ∧ l < 6)) : hoQ p l = (p, p.f.length, 3) := by
  have c1 : ¬ fndF p.f l < p.f.length := fun c => by
    have hh := fndF_has c
    have := (h.fr _ c (by rw [hh.2]; exact hh.1)).1
    omega
  have hin : ¬ inS p.x.now l := fun c => by
    have := inS_lt c
    have := h.w.n
    have := c.1
    omega
  have e : brR p l = (p, p.f.length, 3) := by
    unfold brR
    rw [if_neg hin]
  unfold hoQ
  rw [if_neg c1, e]
  exact if_neg (show ¬ (3 : Int) = 0 by decide)
theorem less_same (q : Plt) (k : Nat) : ∀ i, (frA (lessF q k).f i).pg = (frA q.f i).pg ∧ (frA (lessF q k).f i).b = (frA q.f i).b ∧ (frA (lessF q k).f i).di = (frA q.f i).di := fun i => by
  unfold lessF
  dsimp only
  rw [frA_set]
  split
  · next c => rw [c.1]; exact ⟨rfl, rfl, rfl⟩
  · exact ⟨rfl, rfl, rfl⟩
theorem One.get (h : One p v) (ok : OkP p) (hz : NoH p) (l : Int) : One (getQ p l).1 v ∧ (0 ≤ l → l < 6 → (getQ p l).2.2 = 0 ∧ (getQ p l).2.1 = v l.toNat) := by
  rw [get_ho ok l]
  dsimp only
  by_cases hl : 0 ≤ l ∧ l < 6
  · obtain ⟨k, rfl⟩ : ∃ k : Nat, l = (k : Int) := ⟨l.toNat, by omega⟩
    obtain ⟨h1, h2, h3, h4⟩ := h.ho ok hz (l := k) (by omega)
    rw [if_pos h1, if_pos h1]
    refine ⟨h2.same rfl List.length_set (less_same _ _), fun _ _ => ⟨h1, ?_⟩⟩
    rw [Int.toNat_natCast]
    exact h3
  · rw [h.ho_none hl]
    dsimp only
    rw [if_neg (show ¬ (3 : Int) = 0 by decide)]
    exact ⟨h, fun a b => absurd ⟨a, b⟩ hl⟩
def updV (v : Nat → ByteArray) (l : Nat) (s : ByteArray) : Nat → ByteArray := fun k => if k = l then s else v k
theorem One.put (h : One p v) (ok : OkP p) (hz : NoH p) (l : Int) (s : ByteArray) : One (putQ p l s) (if putQE p l s = 0 then updV v l.toNat (fullP s) else v) := by
  by_cases hs : 232 < s.size
  · have e1 : putQE p l s = 4 := if_pos hs
    have e2 : putQ p l s = p := if_pos hs
    rw [e1, e2, if_neg (by decide)]
    exact h
  · obtain ⟨e1, e2⟩ := put_ho ok l hs
    rw [e1, e2]
    by_cases hl : 0 ≤ l ∧ l < 6
    · obtain ⟨k, rfl⟩ : ∃ k : Nat, l = (k : Int) := ⟨l.toNat, by omega⟩
      obtain ⟨h1, h2, h3, h4⟩ := h.ho ok hz (l := k) (by omega)
      obtain ⟨i1, i2, _⟩ := ho_in ok h1
      rw [if_pos h1, if_pos h1, Int.toNat_natCast]
      generalize (hoQ p (k : Int)).2.1 = n at *
      generalize (hoQ p (k : Int)).1 = q at *
      obtain ⟨_, hu, _, _⟩ := h2.fr n i1 (by rw [h4]; omega)
      rw [h4] at hu
      have fx : ∀ m, frA (q.f.set n { frA q.f n with b := fullP s, di := true, us := true, held := (frA q.f n).held - 1 }) m = if m = n then { frA q.f n with b := fullP s, di := true, us := true, held := (frA q.f n).held - 1 } else frA q.f m := fun m => by
        rw [frA_set]
        by_cases z : m = n
        · rw [if_pos ⟨z, i1⟩, if_pos z]
        · rw [if_neg (fun c => z c.1), if_neg z]
      have fpg : ∀ m, (frA (q.f.set n { frA q.f n with b := fullP s, di := true, us := true, held := (frA q.f n).held - 1 }) m).pg = (frA q.f m).pg := fun m => by
        rw [fx]
        split
        · next z => rw [z]
        · rfl
      refine ⟨h2.w, fun j hj hp => ?_, fun l2 hl2 hn2 => ?_⟩
      · dsimp only at hj hp ⊢
        rw [List.length_set] at hj ⊢
        rw [fpg] at hp
        rw [fpg]
        obtain ⟨a2, b2, c2, d2⟩ := h2.fr j hj hp
        refine ⟨a2, fun m hm e => b2 m hm (by rw [← fpg m]; exact e), ?_, fun hd => ?_⟩
        · unfold updV
          rw [fx]
          by_cases z : j = n
          · rw [if_pos z, z, h4, Int.toNat_natCast, if_pos rfl]
          · rw [if_neg z, if_neg]
            · exact c2
            · intro e
              exact z (hu j hj (by omega))
        · rw [fx] at hd ⊢
          by_cases z : j = n
          · rw [if_pos z] at hd; cases hd
          · rw [if_neg z] at hd ⊢
            exact d2 hd
      · dsimp only at hn2 ⊢
        rw [List.length_set] at hn2
        unfold updV
        rw [if_neg]
        · exact h2.un l2 hl2 fun m hm => by rw [← fpg m]; exact hn2 m hm
        · intro e
          have := hn2 n i1
          rw [fpg, h4] at this
          omega
    · rw [h.ho_none hl]
      dsimp only
      rw [if_neg (show ¬ (3 : Int) = 0 by decide), if_neg (show ¬ (3 : Int) = 0 by decide)]
      exact h
theorem put_in (h : One p v) {l : Int} {s : ByteArray} (he : putQE p l s = 0) : 0 ≤ l ∧ l < 6 ∧ s.size ≤ 232 := by
  unfold putQE at he
  split at he
  · exact absurd he (by decide)
  · next hs =>
    by_cases hl : 0 ≤ l ∧ l < 6
    · exact ⟨hl.1, hl.2, by omega⟩
    · have : (holQ p l).2.2 = 3 := by rw [ho_hol, h.ho_none hl]
      rw [this] at he
      exact absurd he (by decide)
theorem One.evc (h : One p v) (hf : ∀ i, OkF h0 (frA p.f i)) (hz : NoH p) (l : Int) : One (evcP p l) v := by
  unfold evcP
  split
  · exact h
  · next c =>
    split
    · exact h
    · split
      · exact h
      · have hi : l.toNat < p.f.length := by omega
        obtain ⟨b1, b2, b3⟩ := h.bak hf hi
        rw [if_pos b1]
        exact b2.drop (by rw [bakP_len]; exact hi) b3
theorem bas_okf : ∀ (k i : Nat) (p : Plt), (∀ j, OkF h0 (frA p.f j)) → ∀ j, OkF h0 (frA (bakP p i).f j) := fun k i p hf j => by
  unfold bakP
  split
  · dsimp only
    split
    · rw [frA_set]
      split
      · rcases hf i with e | e
        · exact .inl (by rw [e]; rfl)
        · exact .inr e
      · exact hf j
    · exact hf j
  · exact hf j
theorem One.bas : ∀ (k i : Nat) {p : Plt}, One p v → (∀ j, OkF h0 (frA p.f j)) → i + k ≤ p.f.length → (basP k i p).2 = 0 ∧ One (basP k i p).1 v
  | 0, _, _, h, _, _ => ⟨rfl, h⟩
  | k + 1, i, p, h, hf, hi => by
    obtain ⟨b1, b2, b3⟩ := h.bak hf (i := i) (by omega)
    simp only [basP]
    rw [if_pos b1]
    exact One.bas k (i + 1) b2 (bas_okf k i p hf) (by rw [bakP_len]; omega)
theorem One.cmt (h : One p v) (hf : ∀ i, OkF h0 (frA p.f i)) (hz : NoH p) : One (cmtP p) v := by
  obtain ⟨b1, b2⟩ := One.bas p.f.length 0 h hf (by omega)
  unfold cmtP
  rw [if_neg (by rw [noh_heldF hz]; omega), if_pos b1]
  obtain ⟨w1, w2⟩ := b2.w.com
  refine ⟨w1, fun i hi hp => ?_, fun l hl hno => ?_⟩
  · obtain ⟨a, b, c, d⟩ := b2.fr i hi hp
    refine ⟨a, b, c, fun hd => ?_⟩
    dsimp only at hp ⊢
    rw [w2 _ (by omega)]
    exact d hd
  · dsimp only
    rw [w2 _ hl]
    exact b2.un l hl hno
/-- what PoolOne does beside Put -/
theorem One.doQ (h : One p v) (ok : OkP p) (hz : NoH p) {kind : Int} (hk : kind = 5 ∨ kind = 6 ∨ kind = 7 ∨ kind = 12 ∨ kind = 13) (l : Int) (s : ByteArray) : One (doQ p kind l s) v := by
  rcases hk with rfl | rfl | rfl | rfl | rfl
  · exact (h.get ok hz l).1
  · exact (h.get ok hz l).1
  · exact (h.get ok hz l).1
  · exact h.evc ok.f hz l
  · exact h.cmt ok.f hz
end
/-! ### how it begins -/
def iniP (n : Nat) (pe : ByteArray) (j : Nat) : Plt := ⟨⟨40, List.replicate j ⟨true, true, pe⟩, [], 1, 64 + 64 * j⟩, List.replicate n noF, 0⟩
theorem rep_first {j : Nat} (hj : j < 6) (pe : ByteArray) : firstS (List.replicate j ⟨true, true, pe⟩) = j ∧ freshS (List.replicate j ⟨true, true, pe⟩) = j := by
  have : j = 0 ∨ j = 1 ∨ j = 2 ∨ j = 3 ∨ j = 4 ∨ j = 5 := by omega
  rcases this with rfl | rfl | rfl | rfl | rfl | rfl <;> exact ⟨rfl, rfl⟩
theorem ini_new {n j : Nat} (hj : j < 6) : nwpP (iniP n (fullP ⟨#[]⟩) j) ⟨#[]⟩ = iniP n (fullP ⟨#[]⟩) (j + 1) := by
  have hk : keptS [] = 0 := by show (0 : Int) + needR 0 = 0; rw [show needR 0 = 0 from by decide]; rfl
  obtain ⟨f1, f2⟩ := rep_first hj (fullP ⟨#[]⟩)
  have h : newE (iniP n (fullP ⟨#[]⟩) j).x ⟨#[]⟩ = 0 := by
    unfold newE
    rw [if_neg (by decide), if_neg]
    show ¬ (512 ≤ firstS (List.replicate j ⟨true, true, fullP ⟨#[]⟩⟩) ∨ (40 : Int) - keptS [] - (freshS (List.replicate j ⟨true, true, fullP ⟨#[]⟩⟩) : Int) < 1)
    rw [f1, f2, hk]
    omega
  unfold nwpP newX
  rw [if_pos h]
  have : j = 0 ∨ j = 1 ∨ j = 2 ∨ j = 3 ∨ j = 4 ∨ j = 5 := by omega
  rcases this with rfl | rfl | rfl | rfl | rfl | rfl <;> rfl
theorem ini_one {n : Nat} (pe : ByteArray) : One (iniP n pe 6) (fun _ => pe) := by
  have e : ∀ i, frA (iniP n pe 6).f i = noF := fun i => rep_no' n i
  have hs : ∀ i, i < 6 → slA (iniP n pe 6).x.now i = ⟨true, true, pe⟩ := fun i hi => by
    rw [slA_in (by show i < (List.replicate 6 _).length; rw [List.length_replicate]; exact hi)]
    exact List.getElem_replicate _
  refine ⟨⟨rfl, rfl, fun i hi => by rw [hs i hi], Nat.zero_le _⟩, fun i hi hp => ?_, fun l hl _ => by rw [hs l hl]⟩
  rw [e] at hp
  exact absurd hp (by decide)
theorem ini_noh (n : Nat) (pe : ByteArray) (j : Nat) : NoH (iniP n pe j) := fun i => by
  show (frA (List.replicate n noF) i).held = 0
  rw [rep_no']
  rfl
end Go.Proofs.YtmflkkkbahghgaaGreat
