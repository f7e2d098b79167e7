/- What calls do to a store's table and its map of pages. Plain mathematics. A store on its disk: what holds between calls; what a page's write, a sync, a root's write leave, whether or not the disk goes down in it. Plain mathematics. -/
import Derived.Test.YtmflkkkbahghgaaGreatYZ3
namespace Go.Proofs.YtmflkkkbahghgaaGreat
set_option linter.unusedVariables false
set_option linter.unusedSimpArgs false
set_option maxRecDepth 100000

section
variable {n : Nat} {K K2 : Nat → Nat} {now old : List Slt} {tb : Nat → Int} {ot parts : List Int}
theorem isS_set (l : List Slt) (i : Nat) (x : Slt) (k : Nat) : isS (setS l i x) k = if k = i then x.is else isS l k := by
  unfold isS; rw [setS_at]; split <;> rfl
theorem fr_set (l : List Slt) (i : Nat) (x : Slt) (k : Nat) : (slA (setS l i x) k).fr = if k = i then x.fr else (slA l k).fr := by
  rw [setS_at]; split <;> rfl
theorem leftS_set (l old : List Slt) (i : Nat) (x : Slt) (k : Nat) : leftS (setS l i x) old k = if k = i then (isS old i && (!x.is || x.fr)) else leftS l old k := by
  unfold leftS
  rw [isS_set, fr_set]
  by_cases c : k = i
  · subst c; simp
  · simp [c]
/-- a page that is there and not fresh is the committed one, in use -/
theorem TabV.old1 (h : TabV n K now old tb ot parts) {l : Nat} (a : isS now l = true) (b : (slA now l).fr = false) : isS old l = true ∧ tb l = atL ot l ∧ K (tb l).toNat = 1 := by
  obtain ⟨c, d⟩ := h.same l a b
  have e := h.left l c
  have hl : leftS now old l = false := by unfold leftS; simp [a, b, c]
  rw [hl] at e
  exact ⟨c, d, by rw [d]; exact e⟩
theorem TabV.used (h : TabV n K now old tb ot parts) {l : Nat} (a : isS now l = true) : K (tb l).toNat ≠ 0 := by
  cases b : (slA now l).fr with
  | true => rw [h.fresh l a b]; decide
  | false => rw [(h.old1 a b).2.2]; decide
theorem TabV.oused (h : TabV n K now old tb ot parts) {l : Nat} (a : isS old l = true) : K (atL ot l).toNat = 1 ∨ K (atL ot l).toNat = 3 := by
  have := h.left l a
  split at this
  · exact .inr this
  · exact .inl this
/-- a fresh one is written again -/
theorem TabV.again (h : TabV n K now old tb ot parts) {l : Nat} (a : isS now l = true) (b : (slA now l).fr = true) (s : ByteArray) : TabV n K (wrS now l s) old tb ot parts := by
  have hi : ∀ k, isS (wrS now l s) k = isS now k := fun k => by unfold wrS; rw [isS_set]; split <;> simp_all
  have hf : ∀ k, (slA (wrS now l s) k).fr = (slA now k).fr := fun k => by unfold wrS; rw [fr_set]; split <;> simp_all
  have hl : ∀ k, leftS (wrS now l s) old k = leftS now old k := fun k => by unfold leftS; rw [hi, hf]
  exact ⟨h.four, h.still, h.len, h.pl, h.oin, h.pin, h.pap, h.oinj, h.opap, fun k => by rw [hi]; exact h.tin k, fun k j => by rw [hi, hi]; exact h.inj k j, fun k => by rw [hi, hf]; exact h.fresh k, fun k => by rw [hi, hf]; exact h.same k, h.part, fun k hk => by rw [hl]; exact h.left k hk, fun p hp hq => by
    obtain ⟨k, x, y, z⟩ := h.back2 p hp hq
    exact ⟨k, by rw [hi]; exact x, by rw [hf]; exact y, z⟩, h.back13⟩
/-- one that is not fresh (or not there) is written to a free page p -/
theorem TabV.put (h : TabV n K now old tb ot parts) {l p : Nat} (hf : isS now l = true → (slA now l).fr = false) (hp : p < n) (h0 : K p = 0) (hK : ∀ q, q < n → K2 q = if q = p then 2 else if isS now l = true ∧ (q : Int) = tb l then 3 else K q) (s : ByteArray) : TabV n K2 (wrS now l s) old (upd tb l (p : Int)) ot parts := by
  have hi : ∀ k, isS (wrS now l s) k = if k = l then true else isS now k := fun k => by unfold wrS; rw [isS_set]
  have hr : ∀ k, (slA (wrS now l s) k).fr = if k = l then true else (slA now k).fr := fun k => by unfold wrS; rw [fr_set]
  have hl : ∀ k, leftS (wrS now l s) old k = if k = l then isS old l else leftS now old k := fun k => by unfold wrS; rw [leftS_set]; split <;> simp
  have ut : ∀ k, upd tb l (p : Int) k = if k = l then (p : Int) else tb k := fun k => rfl
  have hnp : ∀ k, isS now k = true → tb k ≠ (p : Int) := fun k a e => by
    have := h.used a
    rw [e, Int.toNat_natCast] at this
    exact this h0
  have hop : ∀ k, isS old k = true → atL ot k ≠ (p : Int) := fun k a e => by
    have := h.oused a
    rw [e, Int.toNat_natCast, h0] at this
    omega
  refine ⟨fun q hq => ?_, h.still, h.len, h.pl, h.oin, h.pin, h.pap, h.oinj, h.opap, fun k => ?_, fun k j => ?_, fun k => ?_, fun k => ?_, fun x hx => ?_, fun k hk => ?_, fun q hq e => ?_, fun q hq e => ?_⟩
  · have := h.four q hq
    rw [hK q hq]; split
    · omega
    · split <;> omega
  · rw [hi, ut]
    by_cases c : k = l
    · rw [if_pos c, if_pos c]; exact ⟨fun _ => by omega, fun e => by cases e⟩
    · rw [if_neg c, if_neg c]; exact h.tin k
  · rw [hi, hi, ut, ut]
    by_cases c : k = l <;> by_cases d : j = l
    · intros; omega
    · rw [if_pos c, if_neg d, if_pos c, if_neg d]; intro _ a e; exact absurd e.symm (hnp j a)
    · rw [if_neg c, if_pos d, if_neg c, if_pos d]; intro a _ e; exact absurd e (hnp k a)
    · rw [if_neg c, if_neg d, if_neg c, if_neg d]; exact h.inj k j
  · rw [hi, hr, ut]
    by_cases c : k = l
    · rw [if_pos c, if_pos c, if_pos c]
      intro _ _
      rw [Int.toNat_natCast, hK p hp, if_pos rfl]
    · rw [if_neg c, if_neg c, if_neg c]
      intro a b
      have t := (h.tin k).1 a
      rw [hK _ (by omega), if_neg (by have := hnp k a; omega), if_neg]
      · exact h.fresh k a b
      · rintro ⟨x, y⟩
        exact c (h.inj k l a x (by omega))
  · rw [hi, hr, ut]
    by_cases c : k = l
    · rw [if_pos c, if_pos c]; intro _ e; cases e
    · rw [if_neg c, if_neg c, if_neg c]; exact h.same k
  · have b := h.pin x hx
    have e := h.part x hx
    rw [hK _ (by omega), if_neg (fun c => by rw [c, h0] at e; cases e), if_neg]
    · exact e
    · rintro ⟨y, z⟩
      obtain ⟨c, d, _⟩ := h.old1 y (hf y)
      exact h.opap l c (by rw [← d, ← z, Int.toNat_of_nonneg b.1]; exact hx)
  · have b := (h.oin k).1 hk
    have e := h.left k hk
    rw [hK _ (by omega), if_neg (by have := hop k hk; omega), hl]
    by_cases c : k = l
    · subst c
      rw [if_pos rfl, if_pos hk]
      by_cases d : isS now k = true
      · obtain ⟨_, d2, _⟩ := h.old1 d (hf d)
        rw [if_pos ⟨d, by omega⟩]
      · rw [if_neg (fun x => d x.1), e, if_pos]
        unfold leftS
        simp [hk, d]
    · rw [if_neg c, if_neg]
      · exact e
      · rintro ⟨x, y⟩
        obtain ⟨c2, d2, _⟩ := h.old1 x (hf x)
        exact c (h.oinj k l hk c2 (by omega))
  · rw [hK q hq] at e
    by_cases c : q = p
    · exact ⟨l, by rw [hi, if_pos rfl], by rw [hr, if_pos rfl], by rw [ut, if_pos rfl, c]⟩
    · rw [if_neg c] at e
      by_cases d : isS now l = true ∧ (q : Int) = tb l
      · rw [if_pos d] at e; cases e
      · rw [if_neg d] at e
        obtain ⟨k, x, y, z⟩ := h.back2 q hq e
        have ne : k ≠ l := fun e9 => by subst e9; rw [hf x] at y; cases y
        exact ⟨k, by rw [hi, if_neg ne]; exact x, by rw [hr, if_neg ne]; exact y, by rw [ut, if_neg ne]; exact z⟩
  · rw [hK q hq] at e
    by_cases c : q = p
    · rw [if_pos c] at e; omega
    · rw [if_neg c] at e
      by_cases d : isS now l = true ∧ (q : Int) = tb l
      · obtain ⟨c2, d2, _⟩ := h.old1 d.1 (hf d.1)
        exact .inr ⟨l, c2, by omega⟩
      · rw [if_neg d] at e
        exact h.back13 q hq e
/-- one is dropped -/
theorem TabV.drop (h : TabV n K now old tb ot parts) {l : Nat} (a : isS now l = true) (hK : ∀ q, q < n → K2 q = if (q : Int) = tb l then (if (slA now l).fr then 0 else 3) else K q) : TabV n K2 (setS now l noSlt) old (upd tb l (-1)) ot parts := by
  have hi : ∀ k, isS (setS now l noSlt) k = if k = l then false else isS now k := fun k => by rw [isS_set]; rfl
  have hr : ∀ k, (slA (setS now l noSlt) k).fr = if k = l then false else (slA now k).fr := fun k => by rw [fr_set]; rfl
  have hl : ∀ k, leftS (setS now l noSlt) old k = if k = l then isS old l else leftS now old k := fun k => by
    rw [leftS_set]
    split
    · show (isS old l && (!false || _)) = _; simp
    · rfl
  have ut : ∀ k, upd tb l (-1) k = if k = l then -1 else tb k := fun k => rfl
  have ta := (h.tin l).1 a
  refine ⟨fun q hq => ?_, h.still, h.len, h.pl, h.oin, h.pin, h.pap, h.oinj, h.opap, fun k => ?_, fun k j => ?_, fun k => ?_, fun k => ?_, fun x hx => ?_, fun k hk => ?_, fun q hq e => ?_, fun q hq e => ?_⟩
  · have := h.four q hq
    rw [hK q hq]; split
    · split <;> omega
    · omega
  · rw [hi, ut]
    by_cases c : k = l
    · rw [if_pos c, if_pos c]; exact ⟨fun e => (by cases e), fun _ => rfl⟩
    · rw [if_neg c, if_neg c]; exact h.tin k
  · rw [hi, hi, ut, ut]
    by_cases c : k = l <;> by_cases d : j = l
    · intros; omega
    · rw [if_pos c]; intro e; cases e
    · rw [if_neg c, if_pos d]; intro _ e; cases e
    · rw [if_neg c, if_neg d, if_neg c, if_neg d]; exact h.inj k j
  · rw [hi, hr, ut]
    by_cases c : k = l
    · rw [if_pos c]; intro e; cases e
    · rw [if_neg c, if_neg c, if_neg c]
      intro x y
      have t := (h.tin k).1 x
      rw [hK _ (by omega), if_neg (fun e => c (h.inj k l x a (by omega)))]
      exact h.fresh k x y
  · rw [hi, hr, ut]
    by_cases c : k = l
    · rw [if_pos c]; intro e; cases e
    · rw [if_neg c, if_neg c, if_neg c]; exact h.same k
  · have b := h.pin x hx
    have e := h.part x hx
    rw [hK _ (by omega), if_neg]
    · exact e
    · intro z
      have ex : x = tb l := by omega
      rw [ex] at e hx
      cases f : (slA now l).fr with
      | true => rw [h.fresh l a f] at e; cases e
      | false =>
        obtain ⟨c, d, _⟩ := h.old1 a f
        exact h.opap l c (by rw [← d]; exact hx)
  · have b := (h.oin k).1 hk
    have e := h.left k hk
    rw [hK _ (by omega), hl]
    by_cases c : k = l
    · subst c
      rw [if_pos rfl, if_pos hk]
      cases f : (slA now k).fr with
      | true =>
        have hf2 := h.fresh k a f
        have hlf : leftS now old k = true := by unfold leftS; simp [hk, f]
        rw [hlf, if_pos rfl] at e
        rw [if_neg]
        · exact e
        · intro z
          have : (atL ot k).toNat = (tb k).toNat := by omega
          rw [this, hf2] at e
          cases e
      | false =>
        obtain ⟨_, d2, _⟩ := h.old1 a f
        rw [if_pos (by omega)]
        rfl
    · rw [if_neg c, if_neg]
      · exact e
      · intro z
        have ex : atL ot k = tb l := by omega
        cases f : (slA now l).fr with
        | true =>
          have hf2 := h.fresh l a f
          have := h.oused hk
          rw [ex, hf2] at this
          omega
        | false =>
          obtain ⟨c2, d2, _⟩ := h.old1 a f
          exact c (h.oinj k l hk c2 (by omega))
  · rw [hK q hq] at e
    by_cases c : (q : Int) = tb l
    · rw [if_pos c] at e; split at e <;> omega
    · rw [if_neg c] at e
      obtain ⟨k, x, y, z⟩ := h.back2 q hq e
      have ne : k ≠ l := fun e9 => by subst e9; exact c z.symm
      exact ⟨k, by rw [hi, if_neg ne]; exact x, by rw [hr, if_neg ne]; exact y, by rw [ut, if_neg ne]; exact z⟩
  · rw [hK q hq] at e
    by_cases c : (q : Int) = tb l
    · rw [if_pos c] at e
      cases f : (slA now l).fr with
      | true => rw [f] at e; simp at e
      | false =>
        obtain ⟨c2, d2, _⟩ := h.old1 a f
        exact .inr ⟨l, c2, by omega⟩
    · rw [if_neg c] at e
      exact h.back13 q hq e
/-- what was committed is back -/
theorem TabV.abort (h : TabV n K now old tb ot parts) {tb2 : Nat → Int} (ht : ∀ l, tb2 l = atL ot l) (hK : ∀ q, q < n → K2 q = if K q = 2 then 0 else if K q = 3 then 1 else K q) : TabV n K2 old old tb2 ot parts := by
  have hl : ∀ k, leftS old old k = false := fun k => by unfold leftS; rw [h.still]; cases isS old k <;> rfl
  refine ⟨fun q hq => ?_, h.still, h.len, h.pl, h.oin, h.pin, h.pap, h.oinj, h.opap, fun k => by rw [ht]; exact h.oin k, fun k j => by rw [ht, ht]; exact h.oinj k j, fun k _ e => (by rw [h.still] at e; cases e), fun k a _ => ⟨a, ht k⟩, fun x hx => ?_, fun k hk => ?_, fun q hq e => ?_, fun q hq e => ?_⟩
  · have := h.four q hq
    rw [hK q hq]; split
    · omega
    · split <;> omega
  · have b := h.pin x hx
    have e := h.part x hx
    rw [hK _ (by omega), e]; rfl
  · have b := (h.oin k).1 hk
    rw [hK _ (by omega), hl]
    rcases h.oused hk with e | e <;> rw [e] <;> rfl
  · rw [hK q hq] at e
    split at e
    · cases e
    · split at e
      · cases e
      · contradiction
  · rw [hK q hq] at e
    by_cases c : K q = 2
    · rw [if_pos c] at e; omega
    · rw [if_neg c] at e
      by_cases d : K q = 3
      · exact h.back13 q hq (.inr d)
      · rw [if_neg d] at e
        exact h.back13 q hq (by omega)
theorem nextS_fr (l : List Slt) (i : Nat) : (slA (nextS l) i).fr = false := by rw [nextS_at]; split <;> rfl
/-- a commit: its parts lie in pages that were free, what was left is free -/
theorem TabV.commit (h : TabV n K now old tb ot parts) {ot2 parts2 : List Int} (len : ot2.length = (nextS now).length) (hot : ∀ l, isS now l = true → atL ot2 l = tb l) (hno : ∀ l, isS now l = false → atL ot2 l = -1)
    (pl : (parts2.length : Int) = needR ((nextS now).length : Int)) (pap : parts2.Pairwise (· ≠ ·)) (pin : ∀ x ∈ parts2, 0 ≤ x ∧ x < (n : Int) ∧ K x.toNat = 0)
    (hK : ∀ q, q < n → K2 q = if (q : Int) ∈ parts2 then 1 else if K q = 2 then 1 else if K q = 3 ∨ (q : Int) ∈ parts then 0 else K q) : TabV n K2 (nextS now) (nextS now) tb ot2 parts2 := by
  have hno2 : ∀ l, isS now l = true → tb l ∉ parts2 := fun l a hm => h.used a (pin _ hm).2.2
  refine ⟨fun q hq => ?_, nextS_fr now, len, pl, fun l => ?_, fun x hx => ⟨(pin x hx).1, (pin x hx).2.1⟩, pap, fun k l a b => ?_, fun l a => ?_, fun l => ?_, fun k l a b => ?_, fun k _ e => ?_, fun k a _ => ?_, fun x hx => ?_, fun k a => ?_, fun q hq e => ?_, fun q hq e => ?_⟩
  · have := h.four q hq
    rw [hK q hq]; split
    · omega
    · split
      · omega
      · split <;> omega
  · rw [nextS_is]
    exact ⟨fun a => by rw [hot l a]; exact (h.tin l).1 a, hno l⟩
  · rw [nextS_is] at a b
    rw [hot k a, hot l b]
    exact h.inj k l a b
  · rw [nextS_is] at a
    rw [hot l a]
    exact hno2 l a
  · rw [nextS_is]; exact h.tin l
  · rw [nextS_is] at a b; exact h.inj k l a b
  · rw [nextS_fr] at e; cases e
  · rw [nextS_is] at a
    exact ⟨by rw [nextS_is]; exact a, (hot k a).symm⟩
  · have b := pin x hx
    rw [hK _ (by omega), if_pos (by rw [Int.toNat_of_nonneg b.1]; exact hx)]
  · rw [nextS_is] at a
    have t := (h.tin k).1 a
    have hl : leftS (nextS now) (nextS now) k = false := by unfold leftS; rw [nextS_fr]; cases isS (nextS now) k <;> rfl
    rw [hl, hot k a, hK _ (by omega), Int.toNat_of_nonneg t.1, if_neg (hno2 k a)]
    cases f : (slA now k).fr with
    | true => rw [if_pos (h.fresh k a f)]; rfl
    | false =>
      obtain ⟨c, d, e⟩ := h.old1 a f
      rw [if_neg (by omega), if_neg (by rintro (x | x); · omega
                                        · exact h.opap k c (by rw [← d]; exact x)), e]
      rfl
  · rw [hK q hq] at e
    split at e
    · cases e
    · split at e
      · cases e
      · split at e
        · cases e
        · contradiction
  · rw [hK q hq] at e
    by_cases c : (q : Int) ∈ parts2
    · exact .inl c
    · rw [if_neg c] at e
      right
      by_cases d : K q = 2
      · obtain ⟨l, x, y, z⟩ := h.back2 q hq d
        exact ⟨l, by rw [nextS_is]; exact x, by rw [hot l x]; exact z⟩
      · rw [if_neg d] at e
        by_cases g : K q = 3 ∨ (q : Int) ∈ parts
        · rw [if_pos g] at e; omega
        · rw [if_neg g] at e
          rcases h.back13 q hq e with x | ⟨l, x, y⟩
          · exact absurd (.inr x) g
          · have z := h.left l x
            rw [y, Int.toNat_natCast] at z
            by_cases w : leftS now old l = true
            · rw [if_pos w] at z; exact absurd (.inl z) g
            · have w2 : isS now l = true ∧ (slA now l).fr = false := by
                unfold leftS at w
                rw [x] at w
                simpa using w
              obtain ⟨_, d2, _⟩ := h.old1 w2.1 w2.2
              exact ⟨l, by rw [nextS_is]; exact w2.1, by rw [hot l w2.1]; omega⟩
end

end Go.Proofs.YtmflkkkbahghgaaGreat
namespace Go.Proofs.YtmflkkkbahghgaaGreat
set_option linter.unusedVariables false
set_option linter.unusedSimpArgs false
set_option maxRecDepth 100000

/-! ### writes, armed or not -/
theorem count_keep (d : Dk) : (countD d).sf = d.sf ∧ (countD d).nw = d.nw ∧ (countD d).is = d.is := by unfold countD; split <;> exact ⟨rfl, rfl, rfl⟩
theorem write_keep (d : Dk) (i : Int) (s : ByteArray) : (writeD d i s).sf = d.sf ∧ ∀ k : Nat, (k : Int) ≠ i → (writeD d i s).is k = d.is k ∧ (writeD d i s).nw k = d.nw k := by
  unfold writeD
  split
  · exact ⟨rfl, fun _ _ => ⟨rfl, rfl⟩⟩
  · split
    · exact ⟨rfl, fun _ _ => ⟨rfl, rfl⟩⟩
    · obtain ⟨h1, h2, h3⟩ := count_keep { d with nw := upd d.nw i.toNat (byD s), is := upd d.is i.toNat true }
      rw [h1, h2, h3]
      refine ⟨rfl, fun k hk => ?_⟩
      have : k ≠ i.toNat := by omega
      exact ⟨upd_else _ _ _ _ this, upd_else _ _ _ _ this⟩
theorem write_done {d : Dk} {i : Int} (s : ByteArray) (h : writeE d i = 0) : d.down = false ∧ 0 ≤ i ∧ i < (d.n : Int) ∧ (writeD d i s).down = false ∧ (writeD d i s).is i.toNat = true ∧ (writeD d i s).nw i.toNat = byD s ∧ ∀ k : Nat, nowD (writeD d i s) k = if (k : Int) = i then byD s else nowD d k := by
  unfold writeE at h
  by_cases c : d.down = true
  · rw [if_pos c] at h; cases h
  rw [if_neg c] at h
  by_cases e : i < 0 ∨ (d.n : Int) ≤ i
  · rw [if_pos e] at h; cases h
  rw [if_neg e] at h
  have ha : ¬ d.arm = 1 := fun a => by unfold countE at h; rw [if_pos a] at h; cases h
  have e2 : writeD d i s = countD { d with nw := upd d.nw i.toNat (byD s), is := upd d.is i.toNat true } := by
    unfold writeD
    rw [if_neg c, if_neg e]
  obtain ⟨h1, h2, h3⟩ := count_keep { d with nw := upd d.nw i.toNat (byD s), is := upd d.is i.toNat true }
  have hdn : (countD { d with nw := upd d.nw i.toNat (byD s), is := upd d.is i.toNat true }).down = false := by
    unfold countD
    rw [if_neg ha]
    simpa using c
  rw [e2]
  refine ⟨by simpa using c, by omega, by omega, hdn, by rw [h3]; exact upd_at _ _ _, by rw [h2]; exact upd_at _ _ _, fun k => ?_⟩
  unfold nowD
  rw [h1, h2, h3]
  by_cases hk : (k : Int) = i
  · have : k = i.toNat := by omega
    rw [if_pos hk, this]
    simp [upd]
  · have : k ≠ i.toNat := by omega
    rw [if_neg hk]
    simp [upd, this]
theorem write_fell {d : Dk} {i : Int} (s : ByteArray) (hd : d.down = false) (h0 : 0 ≤ i) (h1 : i < (d.n : Int)) (h : writeE d i ≠ 0) : writeE d i = 13 ∧ d.arm = 1 ∧ (writeD d i s).down = true ∧ (writeD d i s).is i.toNat = true ∧ (writeD d i s).nw i.toNat = byD s := by
  have e : ¬ (i < 0 ∨ (d.n : Int) ≤ i) := by omega
  have c : ¬ d.down = true := by rw [hd]; decide
  have e3 : writeE d i = countE d := by unfold writeE; rw [if_neg c, if_neg e]
  have ha : d.arm = 1 := by
    rw [e3] at h
    unfold countE at h
    by_cases a : d.arm = 1
    · exact a
    · rw [if_neg a] at h; exact absurd rfl h
  have e2 : writeD d i s = countD { d with nw := upd d.nw i.toNat (byD s), is := upd d.is i.toNat true } := by
    unfold writeD
    rw [if_neg c, if_neg e]
  obtain ⟨h1, h2, h3⟩ := count_keep { d with nw := upd d.nw i.toNat (byD s), is := upd d.is i.toNat true }
  refine ⟨by rw [e3]; unfold countE; rw [if_pos ha], ha, ?_, by rw [e2, h3]; exact upd_at _ _ _, by rw [e2, h2]; exact upd_at _ _ _⟩
  rw [e2]
  unfold countD
  rw [if_pos (show ({ d with nw := upd d.nw i.toNat (byD s), is := upd d.is i.toNat true } : Dk).arm = 1 from ha)]
theorem wr_keep (d : Dk) (s : ByteArray) (a : Nat) : ∀ i, (wrN d s (a : Int) i).1.sf = d.sf ∧ ∀ k : Nat, ¬ (a ≤ k ∧ k < a + i) → (wrN d s (a : Int) i).1.is k = d.is k ∧ (wrN d s (a : Int) i).1.nw k = d.nw k
  | 0 => ⟨rfl, fun _ _ => ⟨rfl, rfl⟩⟩
  | i + 1 => by
    obtain ⟨h1, h2⟩ := wr_keep d s a i
    simp only [wrN]
    split
    · obtain ⟨g1, g2⟩ := write_keep (wrN d s (a : Int) i).1 ((a : Int) + (i : Int)) (quart s i)
      refine ⟨g1.trans h1, fun k hk => ?_⟩
      obtain ⟨g3, g4⟩ := g2 k (by omega)
      obtain ⟨h3, h4⟩ := h2 k (by omega)
      exact ⟨g3.trans h3, g4.trans h4⟩
    · exact ⟨h1, fun k hk => h2 k (by omega)⟩
theorem wr_done {d : Dk} (hd : d.down = false) (s : ByteArray) (a : Nat) : ∀ i, (wrN d s (a : Int) i).2 = 0 → (wrN d s (a : Int) i).1.down = false ∧ ∀ k : Nat, nowD (wrN d s (a : Int) i).1 k = if a ≤ k ∧ k < a + i then byD (quart s (k - a)) else nowD d k
  | 0, _ => ⟨hd, fun k => by rw [if_neg (by omega)]; rfl⟩
  | i + 1, h => by
    simp only [wrN] at h ⊢
    by_cases c : (wrN d s (a : Int) i).2 = 0
    · rw [if_pos c] at h ⊢
      obtain ⟨h1, h2⟩ := wr_done hd s a i c
      obtain ⟨_, _, _, w1, _, _, w2⟩ := write_done (quart s i) h
      refine ⟨w1, fun k => ?_⟩
      show nowD (writeD (wrN d s (a : Int) i).1 ((a : Int) + (i : Int)) (quart s i)) k = _
      rw [w2 k]
      by_cases hk : (k : Int) = (a : Int) + (i : Int)
      · have : k - a = i := by omega
        rw [if_pos hk, if_pos (by omega), this]
      · rw [if_neg hk, h2 k]
        by_cases h5 : a ≤ k ∧ k < a + i
        · rw [if_pos h5, if_pos (by omega)]
        · rw [if_neg h5, if_neg (by omega)]
    · rw [if_neg c] at h; exact absurd h c
theorem wr_fell {d : Dk} (hd : d.down = false) (s : ByteArray) (a : Nat) : ∀ i, a + i ≤ d.n → (wrN d s (a : Int) i).2 ≠ 0 → (wrN d s (a : Int) i).2 = 13 ∧ (wrN d s (a : Int) i).1.down = true
  | 0, _, h => absurd rfl h
  | i + 1, hn, h => by
    simp only [wrN] at h ⊢
    by_cases c : (wrN d s (a : Int) i).2 = 0
    · rw [if_pos c] at h ⊢
      obtain ⟨h1, _⟩ := wr_done hd s a i c
      have hz := wr_n d s (a : Int) i
      obtain ⟨g1, _, g2, _⟩ := write_fell (quart s i) h1 (by omega) (by rw [hz]; omega) h
      exact ⟨g1, g2⟩
    · rw [if_neg c]
      exact wr_fell hd s a i (by omega) c
/-- a page's write: what it leaves of other sectors, whether it goes or not -/
theorem writeP_keep (d : Dk) (p : Pg) : (writeP d p).1.sf = d.sf ∧ ∀ k : Nat, ¬ inP p.id k → (writeP d p).1.is k = d.is k ∧ (writeP d p).1.nw k = d.nw k := by
  unfold writeP
  by_cases c : putE p = 0
  · rw [if_pos c]
    by_cases e : manyP d.n ≤ p.id
    · rw [if_pos e]; exact ⟨rfl, fun _ _ => ⟨rfl, rfl⟩⟩
    · rw [if_neg e]
      have h0 := (putE_zero.1 c).1.1
      obtain ⟨a, ha⟩ : ∃ a : Nat, (a : Int) = 2 + 4 * p.id := ⟨(2 + 4 * p.id).toNat, by omega⟩
      rw [← ha]
      obtain ⟨h1, h2⟩ := wr_keep d (putS p) a 4
      refine ⟨h1, fun k hk => h2 k ?_⟩
      unfold inP at hk
      omega
  · rw [if_neg c]; exact ⟨rfl, fun _ _ => ⟨rfl, rfl⟩⟩
theorem writeP_now {d : Dk} {p : Pg} {q : Int} (hq : q ≠ p.id) : SameP (nowD d) (nowD (writeP d p).1) q := by
  intro k hk j _
  obtain ⟨h1, h2⟩ := writeP_keep d p
  obtain ⟨h3, h4⟩ := h2 k (fun h => hq (inP_one hk h))
  unfold nowD
  rw [h1, h3, h4]
theorem writeP_done {d : Dk} (hd : d.down = false) {p : Pg} (hp : putE p = 0) (hm : p.id < manyP (d.n : Int)) (h : (writeP d p).2 = 0) : (writeP d p).1.down = false ∧ pageF (nowD (writeP d p).1) p.id.toNat = putS p := by
  have h0 := (putE_zero.1 hp).1.1
  obtain ⟨a, ha⟩ : ∃ a : Nat, (a : Int) = 2 + 4 * p.id := ⟨(2 + 4 * p.id).toNat, by omega⟩
  have e : writeP d p = wrN d (putS p) (a : Int) 4 := by
    unfold writeP
    rw [if_pos hp, if_neg (by omega), ha]
  rw [e] at h ⊢
  obtain ⟨h1, h2⟩ := wr_done hd (putS p) a 4 h
  refine ⟨h1, ?_⟩
  unfold pageF
  refine all_quart (putS_size hp) fun i hi j hj => ?_
  rw [h2, if_pos (by omega)]
  have : 2 + 4 * p.id.toNat + i - a = i := by omega
  rw [this]
theorem writeP_fell {d : Dk} (hd : d.down = false) {p : Pg} (hp : putE p = 0) (hm : p.id < manyP (d.n : Int)) (h : (writeP d p).2 ≠ 0) : (writeP d p).2 = 13 ∧ (writeP d p).1.down = true := by
  have h0 := (putE_zero.1 hp).1.1
  have hin := many_in hm h0
  obtain ⟨a, ha⟩ : ∃ a : Nat, (a : Int) = 2 + 4 * p.id := ⟨(2 + 4 * p.id).toNat, by omega⟩
  have e : writeP d p = wrN d (putS p) (a : Int) 4 := by
    unfold writeP
    rw [if_pos hp, if_neg (by omega), ha]
  rw [e] at h ⊢
  exact wr_fell hd (putS p) a 4 (by omega) h
theorem sync_done {d : Dk} (h : syncE d = 0) : (syncD d).down = false ∧ (syncD d).sf = (fun i => nowD d i) ∧ (∀ k, (syncD d).is k = false) ∧ ∀ k, nowD (syncD d) k = nowD d k := by
  unfold syncE at h
  by_cases c : d.down = true
  · rw [if_pos c] at h; cases h
  rw [if_neg c] at h
  have ha : ¬ d.arm = 1 := fun a => by unfold countE at h; rw [if_pos a] at h; cases h
  have e : syncD d = safeD (countD d) := by unfold syncD; rw [if_neg c, if_neg ha]
  obtain ⟨h1, h2, h3⟩ := count_keep d
  have hn : ∀ k, nowD (countD d) k = nowD d k := fun k => by unfold nowD; rw [h1, h2, h3]
  rw [e]
  refine ⟨?_, funext fun k => hn k, fun _ => rfl, fun k => ?_⟩
  · show (countD d).down = false
    unfold countD
    rw [if_neg ha]
    simpa using c
  · show (if (false : Bool) = true then _ else nowD (countD d) k) = _
    rw [if_neg (by decide)]
    exact hn k
theorem sync_fell {d : Dk} (hd : d.down = false) (h : syncE d ≠ 0) : syncE d = 13 ∧ (syncD d).down = true ∧ (syncD d).sf = d.sf ∧ (syncD d).is = d.is ∧ (syncD d).nw = d.nw := by
  have c : ¬ d.down = true := by rw [hd]; decide
  have e3 : syncE d = countE d := by unfold syncE; rw [if_neg c]
  have ha : d.arm = 1 := by
    rw [e3] at h
    unfold countE at h
    by_cases a : d.arm = 1
    · exact a
    · rw [if_neg a] at h; exact absurd rfl h
  have e : syncD d = countD d := by unfold syncD; rw [if_neg c, if_pos ha]
  obtain ⟨h1, h2, h3⟩ := count_keep d
  rw [e]
  refine ⟨by rw [e3]; unfold countE; rw [if_pos ha], ?_, h1, h3, h2⟩
  unfold countD
  rw [if_pos ha]

/-! ### a store on its disk -/
structure HoldP (d : Dk) (x : Stt) (n : Nat) (K : Nat → Nat) (tb : Nat → Int) (ot parts : List Int) (slot : Nat) : Prop where
  mn : x.many = (n : Int) ∧ n ≤ 1024 ∧ (n : Int) ≤ manyP d.n
  pos : 1 ≤ n
  tab : TabV n K x.now x.old tb ot parts
  com : ComV d.sf (n : Int) x.old x.ep slot ot parts
  slots : d.is 0 = false ∧ d.is 1 = false
  safe : ∀ p, ReachV ot parts p → ∀ k, inP p k → d.is k = false
  page : ∀ l, isS x.now l = true → PageOk (nowD d) (x.ep + 1) 2 (tb l) (slA x.now l).b
  dn : d.down = false
  ok : OkD d
/-- what stands behind any crash of a disk that went down: the last commit, or the one that was going on -/
def FallP (d : Dk) (x : Stt) (nxt : List Slt) : Prop :=
  d.down = true ∧ OkD d ∧ 1 ≤ x.many ∧ x.many ≤ 1024 ∧ x.many ≤ manyP d.n ∧ ∀ keep t b, (∃ slot ot parts, ComV (crashF d keep t b) x.many x.old x.ep slot ot parts) ∨ ∃ slot ot parts, ComV (crashF d keep t b) x.many nxt (x.ep + 1) slot ot parts
/-- a disk that crashed -/
def CrashP (d : Dk) (x : Stt) (nxt : List Slt) : Prop :=
  d.down = false ∧ d.arm = 0 ∧ OkD d ∧ 1 ≤ x.many ∧ x.many ≤ 1024 ∧ x.many ≤ manyP d.n ∧ (∀ k, d.is k = false) ∧ ((∃ slot ot parts, ComV d.sf x.many x.old x.ep slot ot parts) ∨ ∃ slot ot parts, ComV d.sf x.many nxt (x.ep + 1) slot ot parts)
section
variable {d d2 : Dk} {x : Stt} {n : Nat} {K : Nat → Nat} {tb : Nat → Int} {ot parts : List Int} {slot : Nat} {nxt : List Slt}
theorem FallP.crash (h : FallP d x nxt) (keep : List Bool) (t b : Int) : CrashP (crashD d keep t b) x nxt := by
  obtain ⟨h1, h2, h3, h4, h5, h6⟩ := h
  exact ⟨rfl, rfl, h2.crash _ _ _, h3, h4, h5, fun _ => rfl, h6 keep t b⟩
theorem HoldP.crash (h : HoldP d x n K tb ot parts slot) (nxt : List Slt) (keep : List Bool) (t b : Int) : CrashP (crashD d keep t b) x nxt := by
  obtain ⟨a, b1, c⟩ := h.mn
  have hpos := h.pos
  refine ⟨rfl, rfl, h.ok.crash _ _ _, by omega, by omega, by show _ ≤ manyP d.n; omega, fun _ => rfl, .inl ⟨slot, ot, parts, ?_⟩⟩
  rw [a]
  exact h.com.crash h.slots.1 h.slots.2 h.safe keep t b
/-- a reached page is in use -/
theorem HoldP.reach (h : HoldP d x n K tb ot parts slot) {p : Int} (hp : ReachV ot parts p) : K p.toNat = 1 ∨ K p.toNat = 3 := by
  obtain ⟨h0, hm | hm⟩ := hp
  · exact .inl (h.tab.part p hm)
  · obtain ⟨i, hi, rfl⟩ := List.getElem_of_mem hm
    have e := atL_in hi
    cases c : isS x.old i with
    | false => have := (h.tab.oin i).2 c; omega
    | true => rw [← e]; exact h.tab.oused c
/-- a page that is free or fresh is written, and the disk goes down in it -/
theorem HoldP.fell (h : HoldP d x n K tb ot parts slot) {p : Pg} (hp : putE p = 0) (hm : p.id < (n : Int)) (hk : K p.id.toNat = 0 ∨ K p.id.toNat = 2) (he : (writeP d p).2 ≠ 0) (nxt : List Slt) : (writeP d p).2 = 13 ∧ FallP (writeP d p).1 x nxt := by
  obtain ⟨a, b1, c⟩ := h.mn
  have hpos := h.pos
  obtain ⟨g1, g2⟩ := writeP_fell h.dn hp (by omega) he
  obtain ⟨k1, k2⟩ := writeP_keep d p
  have h0 := (putE_zero.1 hp).1.1
  refine ⟨g1, g2, writeP_ok h.ok p, by omega, by omega, by rw [writeP_n]; omega, fun keep t b => .inl ⟨slot, ot, parts, ?_⟩⟩
  rw [a]
  have hc : ComV (writeP d p).1.sf (n : Int) x.old x.ep slot ot parts := by rw [k1]; exact h.com
  refine hc.crash ?_ ?_ (fun q hq k hk2 => ?_) keep t b
  · rw [(k2 0 (fun e => by have := inP_root h0 e; omega)).1]; exact h.slots.1
  · rw [(k2 1 (fun e => by have := inP_root h0 e; omega)).1]; exact h.slots.2
  · rw [(k2 k (fun e => by
      have e9 := inP_one hk2 e
      subst e9
      have := h.reach hq
      omega)).1]
    exact h.safe q hq k hk2
/-- it is written -/
theorem HoldP.wrote (h : HoldP d x n K tb ot parts slot) {p : Pg} (hp : putE p = 0) (hm : p.id < (n : Int)) (hk : K p.id.toNat = 0 ∨ K p.id.toNat = 2) (he : (writeP d p).2 = 0) :
    ComV (writeP d p).1.sf (n : Int) x.old x.ep slot ot parts ∧ ((writeP d p).1.is 0 = false ∧ (writeP d p).1.is 1 = false) ∧ (∀ q, ReachV ot parts q → ∀ k, inP q k → (writeP d p).1.is k = false) ∧ (writeP d p).1.down = false ∧ OkD (writeP d p).1 ∧ (writeP d p).1.n = d.n ∧
      PageOk (nowD (writeP d p).1) p.ep p.kd p.id (padN p.pay 232) ∧ ∀ E kd id pay, id ≠ p.id → PageOk (nowD d) E kd id pay → PageOk (nowD (writeP d p).1) E kd id pay := by
  obtain ⟨a, b1, c⟩ := h.mn
  have hpos := h.pos
  obtain ⟨g1, g2⟩ := writeP_done h.dn hp (by omega) he
  obtain ⟨k1, k2⟩ := writeP_keep d p
  have h0 := (putE_zero.1 hp).1.1
  refine ⟨by rw [k1]; exact h.com, ⟨?_, ?_⟩, fun q hq k hk2 => ?_, g1, writeP_ok h.ok p, writeP_n d p, PageOk.put hp (by omega) g2, fun E kd id pay hid hpg => hpg.ext (writeP_now hid)⟩
  · rw [(k2 0 (fun e => by have := inP_root h0 e; omega)).1]; exact h.slots.1
  · rw [(k2 1 (fun e => by have := inP_root h0 e; omega)).1]; exact h.slots.2
  · rw [(k2 k (fun e => by
      have e9 := inP_one hk2 e
      subst e9
      have := h.reach hq
      omega)).1]
    exact h.safe q hq k hk2
end

end Go.Proofs.YtmflkkkbahghgaaGreat
