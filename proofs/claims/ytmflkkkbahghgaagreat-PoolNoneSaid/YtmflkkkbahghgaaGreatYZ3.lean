/- The slot that does not hold the committed root: what it may say, how it is written over. Plain mathematics. Counting by pairs: as many here as there. Plain mathematics. The page table as payloads: parts of it, there and back. Plain mathematics. What is written to a page is read again, and changes no other one. Plain mathematics. A store's committed pages on a disk: as sectors say them; what a crash leaves of them; the next commit's. Plain mathematics. A map of pages: each free, in use, fresh or leaving; what calls do to it, what is kept. Plain mathematics. A store's table and its map of pages: how they belong together, how many there are of each kind. Plain mathematics. -/
import Derived.WalkKit
import Derived.Test.YtmflkkkbahghgaaGreatYZ1
namespace Go.Proofs.YtmflkkkbahghgaaGreat
open Go.RowKit
set_option linter.unusedVariables false
set_option linter.unusedSimpArgs false
set_option maxRecDepth 100000

/-- an epoch's bytes -/
def epB (E : Int) (j : Nat) : Int := byD (strOfNums (beI 8 (flip63 E))) j
theorem epR_B (r : Rt) (j : Nat) : byD (epR r) j = epB r.ep j := rfl
theorem epB_at (E : Int) (j : Nat) (h : j < 8) : epB E j = (beI 8 (flip63 E))[j]'(by rw [beI_len]; exact h) := byD_nums _ (beI_mem _ _) _ _
theorem epB_last {E : Int} (h1 : -9223372036854775808 ≤ E) (h2 : E ≤ 9223372036854775807) : epB E 7 = E % 256 := by
  rw [epB_at E 7 (by omega)]
  show flip63 E / 256 ^ 0 % 256 = _
  rw [flip63_eq E h1 h2]
  omega
theorem epB_first {E : Int} (h1 : 0 ≤ E) (h2 : E ≤ 1099511627777) : epB E 0 = 128 := by
  rw [epB_at E 0 (by omega)]
  show flip63 E / 256 ^ 7 % 256 = _
  rw [flip63_eq E (by omega) (by omega), show (256 : Int) ^ 7 = 72057594037927936 from by decide]
  omega
/-- a slot that is not the one of the committed root (of epoch E): it says no root as new as that, and none when the next one is written over it in part -/
def StaleOk (g : Nat → Int) (E : Int) : Prop :=
  g 63 ≠ (E + 1) % 256 ∧ ((∀ j, j < 8 → g j = epB (E + 1) j) ∨ ∀ r, RightR r → (∀ j, j < 8 → g (56 + j) = epB r.ep j) → r.ep < E)
theorem StaleOk.ext {g f : Nat → Int} {E : Int} (h : StaleOk g E) (e : ∀ j, j < 64 → f j = g j) : StaleOk f E := by
  refine ⟨by rw [e 63 (by omega)]; exact h.1, ?_⟩
  rcases h.2 with a | a
  · exact .inl fun j hj => by rw [e j (by omega)]; exact a j hj
  · exact .inr fun r hr hb => a r hr fun j hj => by rw [← e _ (by omega), hb j hj]
theorem StaleOk.torn {g : Nat → Int} {E : Int} (h : StaleOk g E) {b : Rt} (he : b.ep = E + 1) {k : Nat} (hk : k < 64) : StaleOk (tornF k (byD (bytesR b)) g) E := by
  refine ⟨?_, ?_⟩
  · unfold tornF
    rw [if_neg (by omega)]
    exact h.1
  · by_cases c : 8 ≤ k
    · refine .inl fun j hj => ?_
      unfold tornF
      rw [if_pos (by omega), bytesR_ep b j hj, epR_B, he]
    · rcases h.2 with a | a
      · refine .inl fun j hj => ?_
        unfold tornF
        split
        · rw [bytesR_ep b j hj, epR_B, he]
        · exact a j hj
      · refine .inr fun r hr hb => a r hr fun j hj => ?_
        rw [← hb j hj]
        unfold tornF
        rw [if_neg (by omega)]
theorem StaleOk.of {a : Rt} (ha : RightR a) : StaleOk (byD (bytesR a)) (a.ep + 1) := by
  have h1 := ha.2.2.1
  have h2 := ha.2.2.2.1
  refine ⟨?_, .inr fun r hr hb => ?_⟩
  · have e := bytesR_end a 7 (by omega)
    rw [epR_B, epB_last (by omega) (by omega)] at e
    rw [show (63 : Nat) = 56 + 7 from rfl, e]
    omega
  · have : r.ep = a.ep := epR_inj hr ha fun j hj => by rw [epR_B r j, ← hb j hj, bytesR_end a j hj]
    omega
theorem StaleOk.zero : StaleOk (fun _ => 0) 1 := by
  refine ⟨by decide, .inr fun r hr hb => ?_⟩
  exfalso
  have e := hb 0 (by omega)
  rw [epB_first (by have := hr.2.2.1; omega) (by have := hr.2.2.2.1; omega)] at e
  exact absurd e (by decide)

end Go.Proofs.YtmflkkkbahghgaaGreat
namespace Go.Proofs.YtmflkkkbahghgaaGreat
set_option linter.unusedVariables false

theorem cntB_but {Q : Nat → Bool} {p m : Nat} (hp : p < m) (hq : Q p = true) : cntB Q m = cntB (fun k => Q k && (k != p)) m + 1 := by
  induction m with
  | zero => omega
  | succ m ih =>
    simp only [cntB]
    by_cases c : p = m
    · subst c
      rw [cntB_ext (q := Q) (p := fun k => Q k && (k != p)) (n := p) (fun i hi => by simp [show i ≠ p by omega]), if_pos hq]
      simp
    · rw [ih (by omega)]
      have e : (Q m && (m != p)) = Q m := by simp [show m ≠ p by omega]
      simp only [e]
      omega
/-- as many l below n are so as p below m are so, if they go in pairs -/
theorem cnt_pairs {P : Nat → Bool} {g : Nat → Nat} {m : Nat} : ∀ {n : Nat} {Q : Nat → Bool}, (∀ l, l < n → P l = true → g l < m ∧ Q (g l) = true) → (∀ k l, k < n → l < n → P k = true → P l = true → g k = g l → k = l) → (∀ p, p < m → Q p = true → ∃ l, l < n ∧ P l = true ∧ g l = p) → cntB P n = cntB Q m
  | 0, Q, _, _, h3 => by
    show 0 = _
    rw [cntB_none fun p hp => by
      cases c : Q p with
      | false => rfl
      | true => obtain ⟨l, hl, _⟩ := h3 p hp c; omega]
  | n + 1, Q, h1, h2, h3 => by
    simp only [cntB]
    cases c : P n with
    | false =>
      rw [if_neg (by decide), Nat.add_zero]
      refine cnt_pairs (fun l hl => h1 l (by omega)) (fun k l hk hl => h2 k l (by omega) (by omega)) fun p hp hq => ?_
      obtain ⟨l, hl, hP, e⟩ := h3 p hp hq
      refine ⟨l, ?_, hP, e⟩
      have : l ≠ n := fun e9 => by rw [e9, c] at hP; cases hP
      omega
    | true =>
      obtain ⟨a, b⟩ := h1 n (by omega) c
      rw [if_pos rfl, cntB_but a b]
      congr 1
      refine cnt_pairs (fun l hl hP => ?_) (fun k l hk hl => h2 k l (by omega) (by omega)) fun p hp hq => ?_
      · obtain ⟨a2, b2⟩ := h1 l (by omega) hP
        refine ⟨a2, ?_⟩
        have : g l ≠ g n := fun e => by have := h2 l n (by omega) (by omega) hP c e; omega
        simp [b2, this]
      · simp only [Bool.and_eq_true, bne_iff_ne, ne_eq] at hq
        obtain ⟨l, hl, hP, e⟩ := h3 p hp hq.1
        refine ⟨l, ?_, hP, e⟩
        have : l ≠ n := fun e9 => hq.2 (by rw [← e, e9])
        omega

end Go.Proofs.YtmflkkkbahghgaaGreat
namespace Go.Proofs.YtmflkkkbahghgaaGreat
open Go.RowKit
set_option linter.unusedVariables false
set_option linter.unusedSimpArgs false
set_option maxRecDepth 100000

/-- a physical page; below 0: none -/
def clampP (x : Int) : Int := if x < 0 then -1 else x
theorem clampP_max (x : Int) : clampP x = max x (-1) := by unfold clampP; split <;> omega
/-- a part of a table -/
def partT (l : List Int) (p : Nat) : List Int := (l.drop (116 * p)).take 116
theorem partT_len (l : List Int) (p : Nat) : (partT l p).length = min 116 (l.length - 116 * p) := by unfold partT; rw [List.length_take, List.length_drop]
theorem partT_at (l : List Int) (p i : Nat) (h : i < (partT l p).length) : (partT l p)[i] = l[116 * p + i]'(by rw [partT_len] at h; omega) := by
  have : ∀ (h2 : i < ((l.drop (116 * p)).take 116).length), ((l.drop (116 * p)).take 116)[i] = l[116 * p + i]'(by rw [partT_len] at h; omega) := fun h2 => by rw [List.getElem_take, List.getElem_drop]
  exact this h
def partE (l : List Int) (p : Int) : Int := if p < 0 ∨ needR (l.length : Int) ≤ p then 3 else if ∃ x ∈ partT l p.toNat, 1023 < x then 2 else 0
def partS (l : List Int) (p : Nat) : ByteArray := strOfNums (twosL ((partT l p).map fun x => clampP x + 1))
theorem partS_size (l : List Int) (p : Nat) : (partS l p).size = 2 * (partT l p).length := by unfold partS; rw [strOfNums_size, twosL_len, List.length_map]
theorem need_all {n : Nat} : (n : Int) ≤ 116 * needR (n : Int) ∧ (∀ k : Nat, (k : Int) < needR (n : Int) → 116 * k < n) := by
  unfold needR
  constructor
  · split <;> omega
  · intro k hk
    split at hk <;> omega

end Go.Proofs.YtmflkkkbahghgaaGreat
namespace Go.Proofs.YtmflkkkbahghgaaGreat
open Go.RowKit
set_option linter.unusedVariables false
set_option linter.unusedSimpArgs false
set_option maxRecDepth 100000

theorem allF_ext {f g : Nat → Nat → Int} : ∀ k, (∀ i, i < k → ∀ j, j < 64 → f i j = g i j) → allF f k = allF g k
  | 0, _ => rfl
  | k + 1, h => by
    simp only [allF]
    rw [allF_ext k fun i hi => h i (by omega), sec_ext (h k (by omega))]
theorem all_quart {s : ByteArray} (h : s.size = 256) {f : Nat → Nat → Int} (hf : ∀ i, i < 4 → ∀ j, j < 64 → f i j = byD (quart s i) j) : allF f 4 = s := by
  have e : allF f 4 = allF (imgF s) 4 := allF_ext 4 fun i hi j hj => by rw [hf i hi j hj, byD_quart _ _ _ hj]
  have e2 := all_img s 4 (by omega)
  have e3 : (allF (imgF s) 4).extract 0 s.size = allF (imgF s) 4 := by
    have hs := allF_size (imgF s) 4
    apply byD_ext
    · rw [ByteArray.size_extract, hs]; omega
    · intro j hj
      rw [ByteArray.size_extract, hs] at hj
      rw [byD_cut _ _ _ _ (by omega), Nat.zero_add]
  rw [e, ← e3, e2]
theorem many_in {n : Nat} {id : Int} (h : id < manyP (n : Int)) (h0 : 0 ≤ id) : 2 + 4 * id + 4 ≤ (n : Int) := by
  unfold manyP at h
  by_cases hn : (n : Int) < 2
  · rw [if_pos hn] at h; omega
  · rw [if_neg hn] at h; omega
end Go.Proofs.YtmflkkkbahghgaaGreat
namespace Go.Proofs.YtmflkkkbahghgaaGreat
open Go.RowKit
set_option linter.unusedVariables false
set_option linter.unusedSimpArgs false
set_option maxRecDepth 100000

/-- a page's bytes, of sectors' bytes -/
def pageF (f : Nat → Nat → Int) (id : Nat) : ByteArray := allF (fun i => f (2 + 4 * id + i)) 4
theorem pageS_F (d : Dk) (id : Nat) : pageS d id = pageF (nowD d) id := rfl
/-- a page that passes its checks, of that kind, of no epoch above -/
structure PageOk (f : Nat → Nat → Int) (E kd id : Int) (pay : ByteArray) : Prop where
  lo : 0 ≤ id
  get : getE (pageF f id.toNat) = 0
  say : ∃ e, 0 ≤ e ∧ e ≤ E ∧ getP (pageF f id.toNat) = ⟨id, e, kd, pay⟩
/-- the sectors of a page -/
def inP (id : Int) (k : Nat) : Prop := 2 + 4 * id ≤ (k : Int) ∧ (k : Int) < 2 + 4 * id + 4
theorem inP_one {a b : Int} {k : Nat} (h : inP a k) (h2 : inP b k) : a = b := by unfold inP at *; omega
theorem inP_root {a : Int} {k : Nat} (ha : 0 ≤ a) (h : inP a k) : 2 ≤ k := by unfold inP at *; omega
def SameP (f f2 : Nat → Nat → Int) (id : Int) : Prop := ∀ k, inP id k → ∀ j, j < 64 → f2 k j = f k j
theorem pageF_ext {f f2 : Nat → Nat → Int} {id : Int} (h0 : 0 ≤ id) (h : SameP f f2 id) : pageF f2 id.toNat = pageF f id.toNat :=
  allF_ext 4 fun i hi j hj => h _ (by unfold inP; omega) j hj
theorem PageOk.ext {f f2 : Nat → Nat → Int} {E kd id : Int} {pay : ByteArray} (h : PageOk f E kd id pay) (e : SameP f f2 id) : PageOk f2 E kd id pay := by
  have h9 := pageF_ext h.lo e
  exact ⟨h.lo, by rw [h9]; exact h.get, by rw [h9]; exact h.say⟩
theorem PageOk.up {f : Nat → Nat → Int} {E E2 kd id : Int} {pay : ByteArray} (h : PageOk f E kd id pay) (hE : E ≤ E2) : PageOk f E2 kd id pay := by
  obtain ⟨e, h1, h2, h3⟩ := h.say
  exact ⟨h.lo, h.get, e, h1, by omega, h3⟩
/-- a page just as page.Write lays it -/
theorem PageOk.put {f : Nat → Nat → Int} {p : Pg} (hp : putE p = 0) (hb : p.id ≤ 9223372036854775807) (h : pageF f p.id.toNat = putS p) : PageOk f p.ep p.kd p.id (padN p.pay 232) := by
  obtain ⟨h1, h2⟩ := get_put hp hb
  have hr := (putE_zero.1 hp).1
  exact ⟨hr.1, by rw [h]; exact h1, p.ep, hr.2.1, Int.le_refl _, by rw [h, h2]⟩
/-- what is read of it -/
theorem PageOk.read {d : Dk} {E kd id : Int} {pay : ByteArray} (h : PageOk (nowD d) E kd id pay) (hd : d.down = false) (hm : id < manyP d.n) : readPE d id = 0 ∧ ∃ e, 0 ≤ e ∧ e ≤ E ∧ readPP d id = ⟨id, e, kd, pay⟩ := by
  obtain ⟨e, h1, h2, h3⟩ := h.say
  have hg := h.get
  have h0 := h.lo
  rw [← pageS_F] at h3 hg
  have e9 : readPE d id = 0 := by
    unfold readPE
    rw [if_neg (by omega), if_neg (by rw [hd]; decide), if_pos hg, h3, if_pos rfl]
  refine ⟨e9, e, h1, h2, ?_⟩
  unfold readPP
  rw [if_pos e9, h3]
/-- the committed pages l, as sectors f say them: their root of epoch E in 'slot', their table tb in 'parts' -/
structure ComV (f : Nat → Nat → Int) (m : Int) (l : List Slt) (E : Int) (slot : Nat) (tb parts : List Int) : Prop where
  sl : slot ≤ 1
  len : tb.length = l.length
  root : RightR ⟨E, (l.length : Int), parts⟩
  at_ : ∀ j, j < 64 → f slot j = byD (bytesR ⟨E, (l.length : Int), parts⟩) j
  stale : StaleOk (f (1 - slot)) E
  part : ∀ i (h : i < parts.length), PageOk f E 1 parts[i] (padN (partS tb i) 232)
  page : ∀ i (h : i < tb.length), isS l i = true → PageOk f E 2 tb[i] (slA l i).b
  none : ∀ i (h : i < tb.length), isS l i = false → tb[i] = -1
  apart : (parts ++ tb.filter (fun x => decide (0 ≤ x))).Pairwise (· ≠ ·)
  fits : ∀ x ∈ parts ++ tb, x < m
/-- reached: its parts and its pages -/
def ReachV (tb parts : List Int) (x : Int) : Prop := 0 ≤ x ∧ (x ∈ parts ∨ x ∈ tb)
/-- where the reached pages and the slot stay, the commit stays -/
theorem ComV.ext {f f2 : Nat → Nat → Int} {m : Int} {l : List Slt} {E : Int} {slot : Nat} {tb parts : List Int} (h : ComV f m l E slot tb parts) (hs : ∀ j, j < 64 → f2 slot j = f slot j) (ho : StaleOk (f2 (1 - slot)) E) (hr : ∀ x, ReachV tb parts x → SameP f f2 x) : ComV f2 m l E slot tb parts where
  sl := h.sl
  len := h.len
  root := h.root
  at_ := fun j hj => by rw [hs j hj]; exact h.at_ j hj
  stale := ho
  part := fun i hi => (h.part i hi).ext (hr _ ⟨(h.part i hi).lo, .inl (List.getElem_mem hi)⟩)
  page := fun i hi c => (h.page i hi c).ext (hr _ ⟨(h.page i hi c).lo, .inr (List.getElem_mem hi)⟩)
  none := h.none
  apart := h.apart
  fits := h.fits
/-- the next one's root over the other slot -/
theorem ComV.next {f f2 : Nat → Nat → Int} {m : Int} {l l2 : List Slt} {E : Int} {slot : Nat} {tb parts tb2 parts2 : List Int} (h : ComV f m l E slot tb parts)
    (len : tb2.length = l2.length) (root : RightR ⟨E + 1, (l2.length : Int), parts2⟩)
    (hs : ∀ j, j < 64 → f2 slot j = f slot j) (hn : ∀ j, j < 64 → f2 (1 - slot) j = byD (bytesR ⟨E + 1, (l2.length : Int), parts2⟩) j)
    (part : ∀ i (h : i < parts2.length), PageOk f2 (E + 1) 1 parts2[i] (padN (partS tb2 i) 232))
    (page : ∀ i (h : i < tb2.length), isS l2 i = true → PageOk f2 (E + 1) 2 tb2[i] (slA l2 i).b)
    (none : ∀ i (h : i < tb2.length), isS l2 i = false → tb2[i] = -1)
    (apart : (parts2 ++ tb2.filter (fun x => decide (0 ≤ x))).Pairwise (· ≠ ·)) (fits : ∀ x ∈ parts2 ++ tb2, x < m) : ComV f2 m l2 (E + 1) (1 - slot) tb2 parts2 where
  sl := by omega
  len := len
  root := root
  at_ := hn
  stale := by
    have hsl := h.sl
    rw [show 1 - (1 - slot) = slot by omega]
    exact (StaleOk.of h.root).ext fun j hj => by rw [hs j hj]; exact h.at_ j hj
  part := part
  page := page
  none := none
  apart := apart
  fits := fits

/-! ### crashes -/
/-- sectors that are not loose stay in a crash -/
theorem crash_same {d : Dk} {keep : List Bool} {t b : Int} {x : Int} (h : ∀ k, inP x k → d.is k = false) : SameP d.sf (crashF d keep t b) x := fun k hk j _ => by rw [crash_safe (h k hk)]
/-- while the slots and what is reached are not loose: what was committed stands behind any crash -/
theorem ComV.crash {d : Dk} {m : Int} {l : List Slt} {E : Int} {slot : Nat} {tb parts : List Int} (h : ComV d.sf m l E slot tb parts) (h0 : d.is 0 = false) (h1 : d.is 1 = false) (hr : ∀ x, ReachV tb parts x → ∀ k, inP x k → d.is k = false) (keep : List Bool) (t b : Int) : ComV (crashF d keep t b) m l E slot tb parts := by
  have hsl := h.sl
  have z : ∀ s, s ≤ 1 → d.is s = false := fun s hs => by
    rcases (by omega : s = 0 ∨ s = 1) with rfl | rfl
    · exact h0
    · exact h1
  refine h.ext (fun j _ => by rw [crash_safe (z _ hsl)]) ?_ fun x hx => crash_same (hr x hx)
  rw [crash_safe (z _ (by omega))]
  exact h.stale
/-- while the next one's root is loose, and nothing else that either of them reaches: the one or the other -/
theorem ComV.either {d : Dk} {m : Int} {l l2 : List Slt} {E : Int} {slot : Nat} {tb parts tb2 parts2 : List Int} (h : ComV d.sf m l E slot tb parts)
    (hs : d.is slot = false) (hr : ∀ x, ReachV tb parts x → ∀ k, inP x k → d.is k = false) (hr2 : ∀ x, ReachV tb2 parts2 x → ∀ k, inP x k → d.is k = false)
    (hl : d.is (1 - slot) = true) (hw : ∀ j, j < 64 → d.nw (1 - slot) j = byD (bytesR ⟨E + 1, (l2.length : Int), parts2⟩) j)
    (len : tb2.length = l2.length) (root : RightR ⟨E + 1, (l2.length : Int), parts2⟩)
    (part : ∀ i (h : i < parts2.length), PageOk d.sf (E + 1) 1 parts2[i] (padN (partS tb2 i) 232))
    (page : ∀ i (h : i < tb2.length), isS l2 i = true → PageOk d.sf (E + 1) 2 tb2[i] (slA l2 i).b)
    (none : ∀ i (h : i < tb2.length), isS l2 i = false → tb2[i] = -1)
    (apart : (parts2 ++ tb2.filter (fun x => decide (0 ≤ x))).Pairwise (· ≠ ·)) (fits : ∀ x ∈ parts2 ++ tb2, x < m) (keep : List Bool) (t b : Int) :
    ComV (crashF d keep t b) m l E slot tb parts ∨ ComV (crashF d keep t b) m l2 (E + 1) (1 - slot) tb2 parts2 := by
  obtain ⟨k, hk, e⟩ := crash_some (keep := keep) (t := t) (b := b) hl
  have hslot : ∀ j, j < 64 → crashF d keep t b slot j = d.sf slot j := fun j _ => by rw [crash_safe hs]
  by_cases c : k < 64
  · refine .inl (h.ext hslot ?_ fun x hx => crash_same (hr x hx))
    rw [e]
    refine (h.stale.torn (b := ⟨E + 1, (l2.length : Int), parts2⟩) rfl c).ext fun j hj => ?_
    unfold tornF
    split
    · exact hw j hj
    · rfl
  · refine .inr (h.next len root hslot (fun j hj => ?_) (fun i hi => (part i hi).ext (crash_same (hr2 _ ⟨(part i hi).lo, .inl (List.getElem_mem hi)⟩))) (fun i hi c => (page i hi c).ext (crash_same (hr2 _ ⟨(page i hi c).lo, .inr (List.getElem_mem hi)⟩))) none apart fits)
    rw [e]
    unfold tornF
    rw [if_pos (by omega)]
    exact hw j hj
end Go.Proofs.YtmflkkkbahghgaaGreat
namespace Go.Proofs.YtmflkkkbahghgaaGreat
set_option linter.unusedVariables false
set_option linter.unusedSimpArgs false

def fupd (K : Nat → Nat) (i k : Nat) : Nat → Nat := fun j => if j = i then k else K j
theorem fupd_at (K : Nat → Nat) (i k : Nat) : fupd K i k i = k := by simp [fupd]
theorem fupd_else (K : Nat → Nat) (i k j : Nat) (h : j ≠ i) : fupd K i k j = K j := by simp [fupd, h]
/-- the first free one of the first n; n: there is none -/
def firstN (K : Nat → Nat) : Nat → Nat
  | 0 => 0
  | n + 1 => if firstN K n < n then firstN K n else if K n = 0 then n else n + 1
theorem firstN_le (K : Nat → Nat) (n : Nat) : firstN K n ≤ n := by
  induction n with
  | zero => exact Nat.le_refl _
  | succ n ih =>
    simp only [firstN]
    split
    · omega
    · split <;> omega
theorem firstN_some {K : Nat → Nat} {n : Nat} (h : firstN K n < n) : K (firstN K n) = 0 := by
  induction n with
  | zero => omega
  | succ n ih =>
    simp only [firstN] at h ⊢
    by_cases c : firstN K n < n
    · rw [if_pos c]; exact ih c
    · rw [if_neg c] at h ⊢
      by_cases e : K n = 0
      · rw [if_pos e]; exact e
      · rw [if_neg e] at h; omega
theorem firstN_ahead {K : Nat → Nat} {n : Nat} : ∀ j, j < firstN K n → K j ≠ 0 := by
  induction n with
  | zero => intro j hj; simp [firstN] at hj
  | succ n ih =>
    intro j hj
    simp only [firstN] at hj
    by_cases c : firstN K n < n
    · rw [if_pos c] at hj; exact ih j hj
    · rw [if_neg c] at hj
      have hn : firstN K n = n := by have := firstN_le K n; omega
      by_cases e : K n = 0
      · rw [if_pos e] at hj; exact ih j (by omega)
      · rw [if_neg e] at hj
        by_cases e2 : j = n
        · rw [e2]; exact e
        · exact ih j (by omega)
/-- none is free ahead of i, i is: it is the first -/
theorem firstN_of {K : Nat → Nat} {n i : Nat} (h : i < n) (h0 : K i = 0) (ha : ∀ j, j < i → K j ≠ 0) : firstN K n = i := by
  rcases Nat.lt_trichotomy (firstN K n) i with c | c | c
  · exact absurd (firstN_some (by omega)) (ha _ c)
  · exact c
  · exact absurd h0 (firstN_ahead i c)
theorem firstN_none {K : Nat → Nat} {n : Nat} (ha : ∀ j, j < n → K j ≠ 0) : firstN K n = n := by
  have h := firstN_le K n
  rcases Nat.lt_or_ge (firstN K n) n with c | c
  · exact absurd (firstN_some c) (ha _ c)
  · omega
def turnF (K : Nat → Nat) (fresh leaving : Nat) : Nat → Nat := fun i => if K i = 2 then fresh else if K i = 3 then leaving else K i
def inF (n : Nat) (i : Int) : Prop := 0 ≤ i ∧ i < (n : Int)
instance (n : Nat) (i : Int) : Decidable (inF n i) := by unfold inF; infer_instance
def takeE (n : Nat) (K : Nat → Nat) : Int := if firstN K n < n then 0 else 11
def takeI (n : Nat) (K : Nat → Nat) : Int := if firstN K n < n then (firstN K n : Int) else 0
def takeF (n : Nat) (K : Nat → Nat) : Nat → Nat := if firstN K n < n then fupd K (firstN K n) 2 else K
def leaveE (n : Nat) (K : Nat → Nat) (i : Int) : Int := if inF n i then (if K i.toNat = 1 ∨ K i.toNat = 2 then 0 else 9) else 3
def leaveF (n : Nat) (K : Nat → Nat) (i : Int) : Nat → Nat := if inF n i then (if K i.toNat = 1 then fupd K i.toNat 3 else if K i.toNat = 2 then fupd K i.toNat 0 else K) else K
/-! ### those of a kind, rising -/
def listF (K : Nat → Nat) (k : Nat) : Nat → List Nat
  | 0 => []
  | n + 1 => listF K k n ++ (if K n = k then [n] else [])
def cntF (K : Nat → Nat) (k n : Nat) : Nat := (listF K k n).length
theorem cntF_succ (K : Nat → Nat) (k n : Nat) : cntF K k (n + 1) = cntF K k n + (if K n = k then 1 else 0) := by
  unfold cntF; simp only [listF, List.length_append]; split <;> rfl
theorem cntF_le (K : Nat → Nat) (k n : Nat) : cntF K k n ≤ n := by
  induction n with
  | zero => exact Nat.le_refl _
  | succ n ih => rw [cntF_succ]; split <;> omega
/-! ### what was committed -/
end Go.Proofs.YtmflkkkbahghgaaGreat
namespace Go.Proofs.YtmflkkkbahghgaaGreat
set_option linter.unusedVariables false
set_option linter.unusedSimpArgs false
set_option maxRecDepth 100000

theorem cntB_all (n : Nat) : cntB (fun _ => true) n = n := by
  induction n with
  | zero => rfl
  | succ n ih => simp only [cntB]; rw [ih]; rfl
theorem cntB_or {P Q : Nat → Bool} {n : Nat} (h : ∀ i, i < n → P i = true → Q i = true → False) : cntB (fun i => P i || Q i) n = cntB P n + cntB Q n := by
  induction n with
  | zero => rfl
  | succ n ih =>
    simp only [cntB]
    rw [ih fun i hi => h i (by omega)]
    have := h n (by omega)
    rcases Bool.eq_false_or_eq_true (P n) with c | c <;> rcases Bool.eq_false_or_eq_true (Q n) with e | e <;> simp only [c, e] at this ⊢ <;> simp at this ⊢ <;> omega
theorem cntF_B (K : Nat → Nat) (k n : Nat) : cntF K k n = cntB (fun p => decide (K p = k)) n := by
  induction n with
  | zero => rfl
  | succ n ih =>
    rw [cntF_succ, ih]
    simp only [cntB, decide_eq_true_eq]
theorem cntB_list {l : List Int} {n : Nat} (hd : l.Pairwise (· ≠ ·)) (hb : ∀ x ∈ l, 0 ≤ x ∧ x < (n : Int)) : cntB (fun p => decide ((p : Int) ∈ l)) n = l.length := by
  rw [← cntB_all l.length]
  symm
  refine cnt_pairs (g := fun i => (l.getD i 0).toNat) (fun i hi _ => ?_) (fun i j hi hj _ _ e => ?_) fun p hp hq => ?_
  · have e : l.getD i 0 = l[i] := by rw [List.getD_eq_getElem?_getD, List.getElem?_eq_getElem hi]; rfl
    have hm := List.getElem_mem hi
    have h := hb _ hm
    rw [e]
    refine ⟨by omega, ?_⟩
    rw [decide_eq_true_eq, Int.toNat_of_nonneg h.1]
    exact hm
  · have e1 : l.getD i 0 = l[i] := by rw [List.getD_eq_getElem?_getD, List.getElem?_eq_getElem hi]; rfl
    have e2 : l.getD j 0 = l[j] := by rw [List.getD_eq_getElem?_getD, List.getElem?_eq_getElem hj]; rfl
    rw [e1, e2] at e
    have h1 := (hb _ (List.getElem_mem hi)).1
    have h2 := (hb _ (List.getElem_mem hj)).1
    have e3 : l[i] = l[j] := by omega
    rcases Nat.lt_trichotomy i j with c | c | c
    · exact absurd e3 (List.pairwise_iff_getElem.1 hd i j hi hj c)
    · exact c
    · exact absurd e3.symm (List.pairwise_iff_getElem.1 hd j i hj hi c)
  · rw [decide_eq_true_eq] at hq
    obtain ⟨i, hi, e⟩ := List.getElem_of_mem hq
    refine ⟨i, hi, rfl, ?_⟩
    have e1 : l.getD i 0 = l[i] := by rw [List.getD_eq_getElem?_getD, List.getElem?_eq_getElem hi]; rfl
    show (l.getD i 0).toNat = p
    rw [e1, e]
    rfl

def atL (l : List Int) (i : Nat) : Int := l.getD i (-1)
theorem atL_in {l : List Int} {i : Nat} (h : i < l.length) : atL l i = l[i] := by unfold atL; rw [List.getD_eq_getElem?_getD, List.getElem?_eq_getElem h]; rfl
theorem atL_out {l : List Int} {i : Nat} (h : l.length ≤ i) : atL l i = -1 := by unfold atL; rw [List.getD_eq_getElem?_getD, List.getElem?_eq_none h]; rfl
/-- the table tb of the pages now, the committed one ot with its parts, the map K of n physical pages -/
structure TabV (n : Nat) (K : Nat → Nat) (now old : List Slt) (tb : Nat → Int) (ot parts : List Int) : Prop where
  four : ∀ p, p < n → K p < 4
  still : ∀ l, (slA old l).fr = false
  len : ot.length = old.length
  pl : (parts.length : Int) = needR (old.length : Int)
  oin : ∀ l, (isS old l = true → 0 ≤ atL ot l ∧ atL ot l < (n : Int)) ∧ (isS old l = false → atL ot l = -1)
  pin : ∀ x ∈ parts, 0 ≤ x ∧ x < (n : Int)
  pap : parts.Pairwise (· ≠ ·)
  oinj : ∀ k l, isS old k = true → isS old l = true → atL ot k = atL ot l → k = l
  opap : ∀ l, isS old l = true → atL ot l ∉ parts
  tin : ∀ l, (isS now l = true → 0 ≤ tb l ∧ tb l < (n : Int)) ∧ (isS now l = false → tb l = -1)
  inj : ∀ k l, isS now k = true → isS now l = true → tb k = tb l → k = l
  fresh : ∀ l, isS now l = true → (slA now l).fr = true → K (tb l).toNat = 2
  same : ∀ l, isS now l = true → (slA now l).fr = false → isS old l = true ∧ tb l = atL ot l
  part : ∀ x ∈ parts, K x.toNat = 1
  left : ∀ l, isS old l = true → K (atL ot l).toNat = if leftS now old l then 3 else 1
  back2 : ∀ p, p < n → K p = 2 → ∃ l, isS now l = true ∧ (slA now l).fr = true ∧ tb l = (p : Int)
  back13 : ∀ p, p < n → K p = 1 ∨ K p = 3 → (p : Int) ∈ parts ∨ ∃ l, isS old l = true ∧ atL ot l = (p : Int)
section
variable {n : Nat} {K : Nat → Nat} {now old : List Slt} {tb : Nat → Int} {ot parts : List Int}
theorem isS_in {l : List Slt} {i : Nat} (h : isS l i = true) : i < l.length := by
  rcases Nat.lt_or_ge i l.length with c | c
  · exact c
  · rw [isS_out c] at h; cases h
theorem newS_of {l : List Slt} {i : Nat} : newS l i = true ↔ isS l i = true ∧ (slA l i).fr = true := by unfold newS isS; simp
theorem TabV.c2 (h : TabV n K now old tb ot parts) : cntF K 2 n = freshS now := by
  rw [cntF_B]
  symm
  refine cnt_pairs (g := fun l => (tb l).toNat) (fun l _ hp => ?_) (fun k l _ _ hk hl e => ?_) fun p hp hq => ?_
  · obtain ⟨a, b⟩ := newS_of.1 hp
    have := (h.tin l).1 a
    refine ⟨by omega, ?_⟩
    simpa using h.fresh l a b
  · have a := (h.tin k).1 (newS_of.1 hk).1
    have b := (h.tin l).1 (newS_of.1 hl).1
    exact h.inj k l (newS_of.1 hk).1 (newS_of.1 hl).1 (by omega)
  · obtain ⟨l, a, b, e⟩ := h.back2 p hp (by simpa using hq)
    exact ⟨l, isS_in a, newS_of.2 ⟨a, b⟩, by omega⟩
theorem left_is {i : Nat} (h : leftS now old i = true) : isS old i = true := by
  unfold leftS at h
  simp only [Bool.and_eq_true] at h
  exact h.1
theorem TabV.c3 (h : TabV n K now old tb ot parts) : cntF K 3 n = leavingS now old := by
  rw [cntF_B]
  symm
  refine cnt_pairs (g := fun l => (atL ot l).toNat) (fun l _ hp => ?_) (fun k l _ _ hk hl e => ?_) fun p hp hq => ?_
  · have a := left_is hp
    have := (h.oin l).1 a
    have e := h.left l a
    rw [if_pos hp] at e
    refine ⟨by omega, ?_⟩
    simpa using e
  · have a := (h.oin k).1 (left_is hk)
    have b := (h.oin l).1 (left_is hl)
    exact h.oinj k l (left_is hk) (left_is hl) (by omega)
  · have hq : K p = 3 := by simpa using hq
    rcases h.back13 p hp (.inr hq) with c | ⟨l, a, e⟩
    · have := h.part _ c
      rw [Int.toNat_natCast, hq] at this
      cases this
    · refine ⟨l, isS_in a, ?_, by omega⟩
      have e2 := h.left l a
      rw [e, Int.toNat_natCast, hq] at e2
      by_cases c : leftS now old l = true
      · exact c
      · rw [if_neg c] at e2; cases e2
theorem TabV.c13 (h : TabV n K now old tb ot parts) : cntF K 1 n + cntF K 3 n = thereS old + parts.length := by
  rw [cntF_B, cntF_B, ← cntB_or (fun i _ a b => by simp at a b; omega), ← cntB_list h.pap h.pin, Nat.add_comm]
  have e : thereS old = cntB (fun p => (decide (K p = 1) || decide (K p = 3)) && !decide ((p : Int) ∈ parts)) n := by
    refine cnt_pairs (g := fun l => (atL ot l).toNat) (fun l _ a => ?_) (fun k l _ _ hk hl e => ?_) fun p hp hq => ?_
    · have b := (h.oin l).1 a
      have e := h.left l a
      have e2 := h.opap l a
      refine ⟨by omega, ?_⟩
      rw [Int.toNat_of_nonneg b.1, e]
      split <;> simp [e2]
    · have a := (h.oin k).1 hk
      have b := (h.oin l).1 hl
      exact h.oinj k l hk hl (by omega)
    · simp only [Bool.and_eq_true, Bool.or_eq_true, decide_eq_true_eq, Bool.not_eq_true', decide_eq_false_iff_not] at hq
      rcases h.back13 p hp hq.1 with c | ⟨l, a, e⟩
      · exact absurd c hq.2
      · exact ⟨l, isS_in a, a, by omega⟩
  rw [e, ← cntB_or]
  · refine cntB_ext fun p hp => ?_
    by_cases c : (p : Int) ∈ parts
    · have := h.part _ c
      rw [Int.toNat_natCast] at this
      simp [c, this]
    · simp [c]
  · intro p _ a b
    simp only [Bool.and_eq_true, Bool.not_eq_true', decide_eq_true_eq, decide_eq_false_iff_not] at a b
    exact b.2 a
theorem TabV.c0 (h : TabV n K now old tb ot parts) : (cntF K 0 n : Int) = freeS (n : Int) now old := by
  have e := h.c13
  have e2 := h.c2
  have hp := h.pl
  have e4 : cntF K 0 n + cntF K 1 n + cntF K 2 n + cntF K 3 n = n := by
    have hf := h.four
    clear h e e2 hp
    induction n with
    | zero => rfl
    | succ n ih =>
      have := ih fun p hp => hf p (by omega)
      have h4 := hf n (by omega)
      simp only [cntF_succ]
      rcases (by omega : K n = 0 ∨ K n = 1 ∨ K n = 2 ∨ K n = 3) with c | c | c | c <;> simp [c] <;> omega
  unfold freeS keptS
  omega
theorem TabV.kept (h : TabV n K now old tb ot parts) : (cntF K 1 n : Int) = keptS old - (leavingS now old : Int) := by
  have e := h.c13
  have e3 := h.c3
  have hp := h.pl
  unfold keptS
  omega
end

end Go.Proofs.YtmflkkkbahghgaaGreat
