/- The calls of a store, on its disk: each from what holds to what holds, or to what stands behind a crash. Plain mathematics. A commit's parts; the commit done; what Open finds; what Format lays. Plain mathematics. Models as mathematics: which instructions may be, which models may be, which are the same. Small lemmas that the frames share: a slice of integers that came in, opened; structs of five and six fields by value. Models in memory: rows of cells, slices of them, and what stays when new memory is made. The cells of rows, as a list. -/
import Derived.Laws.FloatArith
import Derived.WalkKit
import Derived.ProofKit
import Derived.OpenShut
import Derived.ShutString
import Derived.ChangeOld
import Derived.Below
import Derived.Lib.SmallJoins
import Derived.Deep.Slices
import Derived.WalkSpells
import Derived.WalkLawsBesides
import Derived.Lib.Hide
import Derived.WalkSmall
import Derived.Deep.RegionHeld3
import Derived.BigQuiet
import Derived.Deep.QuietTactic
import Derived.Test.YtmflkkkbahghgaaGreatYZ4
import Derived.Test.YtmflkkkbahghgaaGreatRows
import Derived.Test.YtmflkkkbahghgaaGreatYZ0
namespace Go.Proofs.YtmflkkkbahghgaaGreat
set_option linter.unusedVariables false
set_option linter.unusedSimpArgs false
set_option maxRecDepth 100000

section
variable {d d2 : Dk} {x : Stt} {n : Nat} {K K2 : Nat → Nat} {tb : Nat → Int} {ot parts : List Int} {slot : Nat} {nxt : List Slt}
theorem full_pad {s : ByteArray} (h : s.size ≤ 232) : fullP s = padN s 232 := by unfold fullP; rw [if_pos h]
theorem wrS_b (l : List Slt) (i : Nat) (s : ByteArray) (k : Nat) : (slA (wrS l i s) k).b = if k = i then fullP s else (slA l k).b := by unfold wrS; rw [setS_at]; split <;> rfl
theorem wrS_is (l : List Slt) (i : Nat) (s : ByteArray) (k : Nat) : isS (wrS l i s) k = if k = i then true else isS l k := by unfold wrS; rw [isS_set]
/-- New, Write: to a free page -/
theorem HoldP.put (h : HoldP d x n K tb ot parts slot) {l p : Nat} (hf : isS x.now l = true → (slA x.now l).fr = false) (hp : p < n) (h0 : K p = 0) (hK : ∀ q, q < n → K2 q = if q = p then 2 else if isS x.now l = true ∧ (q : Int) = tb l then 3 else K q) {s : ByteArray} (hs : s.size ≤ 232) (hE : putE ⟨(p : Int), x.ep + 1, 2, s⟩ = 0) (he : (writeP d ⟨(p : Int), x.ep + 1, 2, s⟩).2 = 0) (c : Nat) :
    HoldP (writeP d ⟨(p : Int), x.ep + 1, 2, s⟩).1 { x with now := wrS x.now l s, cl := c } n K2 (upd tb l (p : Int)) ot parts slot := by
  obtain ⟨w1, w2, w3, w4, w5, w6, w7, w8⟩ := h.wrote hE (by show (p : Int) < n; omega) (.inl (by show K (p : Int).toNat = 0; rw [Int.toNat_natCast]; exact h0)) he
  refine ⟨⟨h.mn.1, h.mn.2.1, by rw [w6]; exact h.mn.2.2⟩, h.pos, h.tab.put hf hp h0 hK s, w1, w2, w3, fun k hk => ?_, w4, w5⟩
  show PageOk _ _ 2 (if k = l then (p : Int) else tb k) (slA (wrS x.now l s) k).b
  rw [wrS_b]
  have hk2 : isS (wrS x.now l s) k = true := hk
  rw [wrS_is] at hk2
  by_cases c : k = l
  · rw [if_pos c, if_pos c, full_pad hs]; exact w7
  · rw [if_neg c, if_neg c]
    rw [if_neg c] at hk2
    refine w8 _ _ _ _ (fun e => ?_) (h.page k hk2)
    have := h.tab.used hk2
    have e2 : tb k = (p : Int) := e
    rw [e2, Int.toNat_natCast] at this
    exact this h0
/-- Write: a fresh one -/
theorem HoldP.again (h : HoldP d x n K tb ot parts slot) {l : Nat} (a : isS x.now l = true) (b : (slA x.now l).fr = true) {s : ByteArray} (hs : s.size ≤ 232) (hE : putE ⟨tb l, x.ep + 1, 2, s⟩ = 0) (he : (writeP d ⟨tb l, x.ep + 1, 2, s⟩).2 = 0) (c : Nat) :
    HoldP (writeP d ⟨tb l, x.ep + 1, 2, s⟩).1 { x with now := wrS x.now l s, cl := c } n K tb ot parts slot := by
  obtain ⟨w1, w2, w3, w4, w5, w6, w7, w8⟩ := h.wrote hE (by show tb l < n; exact ((h.tab.tin l).1 a).2) (.inr (h.tab.fresh l a b)) he
  refine ⟨⟨h.mn.1, h.mn.2.1, by rw [w6]; exact h.mn.2.2⟩, h.pos, h.tab.again a b s, w1, w2, w3, fun k hk => ?_, w4, w5⟩
  show PageOk _ _ 2 (tb k) (slA (wrS x.now l s) k).b
  rw [wrS_b]
  have hk2 : isS (wrS x.now l s) k = true := hk
  rw [wrS_is] at hk2
  by_cases c : k = l
  · rw [if_pos c, full_pad hs, c]; exact w7
  · rw [if_neg c]
    rw [if_neg c] at hk2
    exact w8 _ _ _ _ (fun e => c (h.tab.inj k l hk2 a e)) (h.page k hk2)
/-- Drop -/
theorem HoldP.drop (h : HoldP d x n K tb ot parts slot) {l : Nat} (a : isS x.now l = true) (hK : ∀ q, q < n → K2 q = if (q : Int) = tb l then (if (slA x.now l).fr then 0 else 3) else K q) : HoldP d { x with now := setS x.now l noSlt } n K2 (upd tb l (-1)) ot parts slot := by
  refine ⟨h.mn, h.pos, h.tab.drop a hK, h.com, h.slots, h.safe, fun k hk => ?_, h.dn, h.ok⟩
  show PageOk _ _ 2 (if k = l then -1 else tb k) (slA (setS x.now l noSlt) k).b
  have hk2 : isS (setS x.now l noSlt) k = true := hk
  rw [isS_set] at hk2
  by_cases c : k = l
  · rw [if_pos c] at hk2; cases hk2
  · rw [if_neg c] at hk2
    rw [if_neg c, setS_at, if_neg c]
    exact h.page k hk2
/-- where nothing is loose, what is now is what is safe -/
theorem now_same {p : Int} (h : ∀ k, inP p k → d.is k = false) : SameP d.sf (nowD d) p := fun k hk j _ => by unfold nowD; rw [h k hk, if_neg (by decide)]
theorem ComV.page9 {f : Nat → Nat → Int} {m : Int} {l : List Slt} {E : Int} (h : ComV f m l E slot ot parts) {i : Nat} (a : isS l i = true) : PageOk f E 2 (atL ot i) (slA l i).b ∧ ReachV ot parts (atL ot i) := by
  have hi : i < ot.length := by rw [h.len]; exact isS_in a
  have := h.page i hi a
  rw [atL_in hi]
  exact ⟨this, this.lo, .inr (List.getElem_mem hi)⟩
/-- Abort (and what Open finds, where nothing has been lost) -/
theorem HoldP.abort (h : HoldP d x n K tb ot parts slot) {tb2 : Nat → Int} (ht : ∀ l, tb2 l = atL ot l) (hK : ∀ q, q < n → K2 q = if K q = 2 then 0 else if K q = 3 then 1 else K q) : HoldP d { x with now := x.old } n K2 tb2 ot parts slot := by
  refine ⟨h.mn, h.pos, h.tab.abort ht hK, h.com, h.slots, h.safe, fun k hk => ?_, h.dn, h.ok⟩
  show PageOk _ _ 2 (tb2 k) (slA x.old k).b
  rw [ht]
  obtain ⟨a, b⟩ := h.com.page9 hk
  exact (a.ext (now_same (h.safe _ b))).up (show x.ep ≤ x.ep + 1 by omega)
/-- a Sync -/
theorem HoldP.synced (h : HoldP d x n K tb ot parts slot) (he : syncE d = 0) : HoldP (syncD d) x n K tb ot parts slot ∧ (∀ k, (syncD d).is k = false) ∧ (syncD d).sf = (fun k => nowD d k) ∧ ∀ k, nowD (syncD d) k = nowD d k := by
  obtain ⟨a, b, c, e⟩ := sync_done he
  refine ⟨⟨⟨h.mn.1, h.mn.2.1, by rw [sync_n]; exact h.mn.2.2⟩, h.pos, h.tab, ?_, ⟨c 0, c 1⟩, fun _ _ k _ => c k, fun l hl => ?_, a, h.ok.sync⟩, c, b, e⟩
  · rw [b]
    have hs : ∀ s, s ≤ 1 → nowD d s = d.sf s := fun s hs => by
      unfold nowD
      rcases (by omega : s = 0 ∨ s = 1) with rfl | rfl
      · rw [h.slots.1, if_neg (by decide)]
      · rw [h.slots.2, if_neg (by decide)]
    have hsl := h.com.sl
    refine h.com.ext (fun j _ => by show nowD d slot j = _; rw [hs _ hsl]) ?_ fun p hp => now_same (h.safe p hp)
    show StaleOk (nowD d (1 - slot)) x.ep
    rw [hs _ (by omega)]
    exact h.com.stale
  · have : nowD (syncD d) = nowD d := funext e
    rw [this]
    exact h.page l hl
theorem HoldP.sfell (h : HoldP d x n K tb ot parts slot) (he : syncE d ≠ 0) (nxt : List Slt) : syncE d = 13 ∧ FallP (syncD d) x nxt := by
  obtain ⟨a, b, c, e, g⟩ := sync_fell h.dn he
  obtain ⟨m1, m2, m3⟩ := h.mn
  have hpos := h.pos
  refine ⟨a, b, h.ok.sync, by omega, by omega, by rw [sync_n]; omega, fun keep t bb => .inl ⟨slot, ot, parts, ?_⟩⟩
  rw [m1]
  refine ComV.crash ?_ (by rw [e]; exact h.slots.1) (by rw [e]; exact h.slots.2) (fun q hq k hk => by rw [e]; exact h.safe q hq k hk) keep t bb
  rw [c]
  exact h.com

/-! ### a commit's last steps -/
/-- all that the next commit is but for its root -/
structure NextP (f : Nat → Nat → Int) (m : Int) (l2 : List Slt) (E2 : Int) (tb2 ps : List Int) : Prop where
  len : tb2.length = l2.length
  root : RightR ⟨E2, (l2.length : Int), ps⟩
  part : ∀ i (h : i < ps.length), PageOk f E2 1 ps[i] (padN (partS tb2 i) 232)
  page : ∀ i (h : i < tb2.length), isS l2 i = true → PageOk f E2 2 tb2[i] (slA l2 i).b
  none : ∀ i (h : i < tb2.length), isS l2 i = false → tb2[i] = -1
  apart : (ps ++ tb2.filter (fun x => decide (0 ≤ x))).Pairwise (· ≠ ·)
  fits : ∀ x ∈ ps ++ tb2, x < m
theorem NextP.ext {f f2 : Nat → Nat → Int} {m : Int} {l2 : List Slt} {E2 : Int} {tb2 ps : List Int} (h : NextP f m l2 E2 tb2 ps) (hs : ∀ p, ReachV tb2 ps p → SameP f f2 p) : NextP f2 m l2 E2 tb2 ps :=
  ⟨h.len, h.root, fun i hi => (h.part i hi).ext (hs _ ⟨(h.part i hi).lo, .inl (List.getElem_mem hi)⟩), fun i hi c => (h.page i hi c).ext (hs _ ⟨(h.page i hi c).lo, .inr (List.getElem_mem hi)⟩), h.none, h.apart, h.fits⟩
/-- the next root is loose, nothing else -/
structure LastP (d : Dk) (x : Stt) (n : Nat) (ot parts : List Int) (slot : Nat) (l2 : List Slt) (tb2 ps : List Int) : Prop where
  mn : x.many = (n : Int) ∧ n ≤ 1024 ∧ (n : Int) ≤ manyP d.n
  pos : 1 ≤ n
  com : ComV d.sf (n : Int) x.old x.ep slot ot parts
  nxt : NextP d.sf (n : Int) l2 (x.ep + 1) tb2 ps
  is : ∀ k, d.is k = true ↔ k = 1 - slot
  nw : ∀ j, j < 64 → d.nw (1 - slot) j = byD (bytesR ⟨x.ep + 1, (l2.length : Int), ps⟩) j
  ok : OkD d
variable {l2 : List Slt} {tb2 ps : List Int}
theorem LastP.not (h : LastP d x n ot parts slot l2 tb2 ps) {k : Nat} (hk : k ≠ 1 - slot) : d.is k = false := by
  cases c : d.is k with
  | false => rfl
  | true => exact absurd ((h.is k).1 c) hk
theorem LastP.page (h : LastP d x n ot parts slot l2 tb2 ps) {p : Int} (hp : 0 ≤ p) : ∀ k, inP p k → d.is k = false := fun k hk => by
  have := inP_root hp hk
  have := h.com.sl
  exact h.not (by omega)
theorem LastP.fall (h : LastP d x n ot parts slot l2 tb2 ps) (hd : d.down = true) : FallP d x l2 := by
  obtain ⟨m1, m2, m3⟩ := h.mn
  have hpos := h.pos
  have hsl := h.com.sl
  refine ⟨hd, h.ok, by omega, by omega, by omega, fun keep t b => ?_⟩
  rw [m1]
  rcases h.com.either (h.not (by omega)) (fun p hp => h.page hp.1) (fun p hp => h.page hp.1) ((h.is _).2 rfl) h.nw h.nxt.len h.nxt.root h.nxt.part h.nxt.page h.nxt.none h.nxt.apart h.nxt.fits keep t b with c | c
  · exact .inl ⟨_, _, _, c⟩
  · exact .inr ⟨_, _, _, c⟩
/-- the root's write -/
theorem HoldP.last (h : HoldP d x n K tb ot parts slot) (hi : ∀ k, d.is k = false) (hn : NextP d.sf (n : Int) l2 (x.ep + 1) tb2 ps) : LastP (writeD d ((1 - slot : Nat) : Int) (bytesR ⟨x.ep + 1, (l2.length : Int), ps⟩)) x n ot parts slot l2 tb2 ps ∧
    ((writeE d ((1 - slot : Nat) : Int) = 0 ∧ (writeD d ((1 - slot : Nat) : Int) (bytesR ⟨x.ep + 1, (l2.length : Int), ps⟩)).down = false) ∨ (writeE d ((1 - slot : Nat) : Int) = 13 ∧ (writeD d ((1 - slot : Nat) : Int) (bytesR ⟨x.ep + 1, (l2.length : Int), ps⟩)).down = true)) := by
  obtain ⟨m1, m2, m3⟩ := h.mn
  have hpos := h.pos
  obtain ⟨k1, k2⟩ := write_keep d ((1 - slot : Nat) : Int) (bytesR ⟨x.ep + 1, (l2.length : Int), ps⟩)
  have hdn : ((1 - slot : Nat) : Int) < (d.n : Int) := by
    have hpos := h.pos
    have h2 : 2 ≤ (d.n : Int) := by
      unfold manyP at m3
      by_cases c : (d.n : Int) < 2
      · rw [if_pos c] at m3; omega
      · omega
    omega
  have common : ∀ (hw : (writeD d ((1 - slot : Nat) : Int) (bytesR ⟨x.ep + 1, (l2.length : Int), ps⟩)).is ((1 - slot : Nat) : Int).toNat = true ∧ (writeD d ((1 - slot : Nat) : Int) (bytesR ⟨x.ep + 1, (l2.length : Int), ps⟩)).nw ((1 - slot : Nat) : Int).toNat = byD (bytesR ⟨x.ep + 1, (l2.length : Int), ps⟩)), LastP (writeD d ((1 - slot : Nat) : Int) (bytesR ⟨x.ep + 1, (l2.length : Int), ps⟩)) x n ot parts slot l2 tb2 ps := fun hw => by
    rw [Int.toNat_natCast] at hw
    refine ⟨⟨m1, m2, by rw [write_n]; exact m3⟩, h.pos, by rw [k1]; exact h.com, by rw [k1]; exact hn, fun k => ?_, fun j _ => by rw [hw.2], h.ok.write _ _⟩
    by_cases c : k = 1 - slot
    · rw [c, hw.1]; simp
    · rw [(k2 k (by omega)).1, hi k]; simp [c]
  by_cases he : writeE d ((1 - slot : Nat) : Int) = 0
  · obtain ⟨_, _, _, a, b, c, _⟩ := write_done (bytesR ⟨x.ep + 1, (l2.length : Int), ps⟩) he
    exact ⟨common ⟨b, c⟩, .inl ⟨he, a⟩⟩
  · obtain ⟨a, _, b, c, e⟩ := write_fell (bytesR ⟨x.ep + 1, (l2.length : Int), ps⟩) h.dn (by omega) hdn he
    exact ⟨common ⟨c, e⟩, .inr ⟨a, b⟩⟩
/-- the last Sync: done -/
theorem LastP.done (h : LastP d x n ot parts slot l2 tb2 ps) (he : syncE d = 0) : ComV (syncD d).sf (n : Int) l2 (x.ep + 1) (1 - slot) tb2 ps ∧ (∀ k, (syncD d).is k = false) ∧ (syncD d).down = false ∧ OkD (syncD d) ∧ ∀ k, nowD (syncD d) k = (syncD d).sf k := by
  obtain ⟨a, b, c, e⟩ := sync_done he
  have hsl := h.com.sl
  refine ⟨?_, c, a, h.ok.sync, fun k => by rw [e, b]⟩
  rw [b]
  have hn := h.nxt.ext (f2 := fun k => nowD d k) fun p hp => now_same (h.page hp.1)
  refine h.com.next hn.len hn.root (fun j _ => ?_) (fun j hj => ?_) hn.part hn.page hn.none hn.apart hn.fits
  · show nowD d slot j = _
    unfold nowD
    rw [h.not (show slot ≠ 1 - slot by omega), if_neg (by decide)]
  · show nowD d (1 - slot) j = _
    unfold nowD
    rw [(h.is _).2 rfl, if_pos rfl]
    exact h.nw j hj
theorem LastP.sfell (h : LastP d x n ot parts slot l2 tb2 ps) (hd : d.down = false) (he : syncE d ≠ 0) : syncE d = 13 ∧ FallP (syncD d) x l2 := by
  obtain ⟨a, b, c, e, g⟩ := sync_fell hd he
  refine ⟨a, LastP.fall (n := n) (ot := ot) (parts := parts) (slot := slot) (tb2 := tb2) (ps := ps) ⟨⟨h.mn.1, h.mn.2.1, by rw [sync_n]; exact h.mn.2.2⟩, h.pos, by rw [c]; exact h.com, by rw [c]; exact h.nxt, by rw [e]; exact h.is, by rw [g]; exact h.nw, h.ok.sync⟩ b⟩
end

end Go.Proofs.YtmflkkkbahghgaaGreat
namespace Go.Proofs.YtmflkkkbahghgaaGreat
set_option linter.unusedVariables false
set_option linter.unusedSimpArgs false
set_option maxRecDepth 100000

section
variable {d d2 : Dk} {x : Stt} {n : Nat} {K K2 : Nat → Nat} {tb : Nat → Int} {ot parts tb2 ps : List Int} {slot : Nat} {l2 : List Slt}
/-- a part is written to a free page -/
theorem HoldP.side (h : HoldP d x n K tb ot parts slot) {p : Pg} (hp : putE p = 0) (hm : p.id < (n : Int)) (hk : K p.id.toNat = 0) (he : (writeP d p).2 = 0) :
    HoldP (writeP d p).1 x n K tb ot parts slot ∧ PageOk (nowD (writeP d p).1) p.ep p.kd p.id (padN p.pay 232) ∧ ∀ E kd id pay, id ≠ p.id → PageOk (nowD d) E kd id pay → PageOk (nowD (writeP d p).1) E kd id pay := by
  obtain ⟨w1, w2, w3, w4, w5, w6, w7, w8⟩ := h.wrote hp hm (.inl hk) he
  refine ⟨⟨⟨h.mn.1, h.mn.2.1, by rw [w6]; exact h.mn.2.2⟩, h.pos, h.tab, w1, w2, w3, fun k hk2 => w8 _ _ _ _ (fun e => ?_) (h.page k hk2), w4, w5⟩, w7, w8⟩
  have := h.tab.used hk2
  rw [e, hk] at this
  exact this rfl
theorem filter_apart {l : List Int} (h : ∀ (i j : Nat) (hi : i < l.length) (hj : j < l.length), i < j → 0 ≤ l[i] → l[i] ≠ l[j]) : (l.filter (fun x => decide (0 ≤ x))).Pairwise (· ≠ ·) := by
  rw [List.pairwise_filter, List.pairwise_iff_getElem]
  intro i j hi hj hij a b
  exact h i j hi hj hij (by simpa using a)
/-- what the next commit is, once its parts are written -/
theorem HoldP.nextP (h : HoldP d x n K tb ot parts slot) (len : tb2.length = (nextS x.now).length) (hot : ∀ l, isS x.now l = true → atL tb2 l = tb l) (hno : ∀ l, isS x.now l = false → atL tb2 l = -1)
    (hep : 1 ≤ x.ep + 1 ∧ x.ep + 1 ≤ 1099511627776) (hlen : (nextS x.now).length ≤ 512) (pl : (ps.length : Int) = needR ((nextS x.now).length : Int)) (pap : ps.Pairwise (· ≠ ·)) (pin : ∀ p ∈ ps, 0 ≤ p ∧ p < (n : Int) ∧ K p.toNat = 0)
    (part : ∀ i (hi : i < ps.length), PageOk (nowD d) (x.ep + 1) 1 ps[i] (padN (partS tb2 i) 232)) : NextP (nowD d) (n : Int) (nextS x.now) (x.ep + 1) tb2 ps := by
  have hn := h.mn.2.1
  have at9 : ∀ i (hi : i < tb2.length), tb2[i] = if isS x.now i = true then tb i else -1 := fun i hi => by
    rw [← atL_in hi]
    split
    · exact hot i (by assumption)
    · exact hno i (by simpa using ‹¬ isS x.now i = true›)
  refine ⟨len, ⟨pap, fun p hp => ?_, hep.1, hep.2, by simp, by simp only; omega, pl⟩, part, fun i hi a => ?_, fun i hi a => ?_, ?_, fun y hy => ?_⟩
  · have := pin p hp
    exact ⟨this.1, by omega⟩
  · have a2 := a
    rw [nextS_is] at a
    rw [at9 i hi, if_pos a, nextS_at, if_pos (by have := isS_in a2; rw [nextS_len] at this; exact this)]
    exact h.page i a
  · rw [nextS_is] at a
    rw [at9 i hi, if_neg (by rw [a]; decide)]
  · rw [List.pairwise_append]
    refine ⟨pap, filter_apart fun i j hi hj hij h0 e => ?_, fun p hp q hq e => ?_⟩
    · rw [at9 i hi] at h0 e
      rw [at9 j hj] at e
      by_cases a : isS x.now i = true
      · rw [if_pos a] at h0 e
        by_cases b : isS x.now j = true
        · rw [if_pos b] at e
          have := h.tab.inj i j a b e
          omega
        · rw [if_neg b] at e; omega
      · rw [if_neg a] at h0; omega
    · obtain ⟨hq1, hq2⟩ := List.mem_filter.1 hq
      obtain ⟨i, hi, e2⟩ := List.getElem_of_mem hq1
      rw [at9 i hi] at e2
      have h0 : 0 ≤ q := by simpa using hq2
      by_cases a : isS x.now i = true
      · rw [if_pos a] at e2
        have := h.tab.used a
        rw [e2, ← e] at this
        exact this (pin p hp).2.2
      · rw [if_neg a] at e2; omega
  · rcases List.mem_append.1 hy with hy | hy
    · exact (pin y hy).2.1
    · obtain ⟨i, hi, e2⟩ := List.getElem_of_mem hy
      rw [at9 i hi] at e2
      by_cases a : isS x.now i = true
      · rw [if_pos a] at e2
        have := (h.tab.tin i).1 a
        omega
      · rw [if_neg a] at e2; omega
/-- committed -/
theorem HoldP.commit (h : HoldP d x n K tb ot parts slot) (len : tb2.length = (nextS x.now).length) (hot : ∀ l, isS x.now l = true → atL tb2 l = tb l) (hno : ∀ l, isS x.now l = false → atL tb2 l = -1)
    (pl : (ps.length : Int) = needR ((nextS x.now).length : Int)) (pap : ps.Pairwise (· ≠ ·)) (pin : ∀ p ∈ ps, 0 ≤ p ∧ p < (n : Int) ∧ K p.toNat = 0)
    (hK : ∀ q, q < n → K2 q = if (q : Int) ∈ ps then 1 else if K q = 2 then 1 else if K q = 3 ∨ (q : Int) ∈ parts then 0 else K q)
    {s2 : Nat} (hc : ComV d2.sf (n : Int) (nextS x.now) (x.ep + 1) s2 tb2 ps) (hi : ∀ k, d2.is k = false) (hd : d2.down = false) (ok : OkD d2) (hdn : d2.n = d.n) (c : Nat) : HoldP d2 { x with now := nextS x.now, old := nextS x.now, ep := x.ep + 1, cl := c } n K2 tb tb2 ps s2 := by
  have hnow : nowD d2 = d2.sf := funext fun k => by unfold nowD; rw [hi k, if_neg (by decide)]
  refine ⟨⟨h.mn.1, h.mn.2.1, by rw [hdn]; exact h.mn.2.2⟩, h.pos, h.tab.commit len hot hno pl pap pin hK, hc, ⟨hi 0, hi 1⟩, fun _ _ k _ => hi k, fun l hl => ?_, hd, ok⟩
  show PageOk (nowD d2) (x.ep + 1 + 1) 2 (tb l) (slA (nextS x.now) l).b
  have hl2 : isS (nextS x.now) l = true := hl
  obtain ⟨a, _⟩ := hc.page9 hl2
  rw [nextS_is] at hl2
  rw [hnow, ← hot l hl2]
  exact a.up (by omega)
theorem ComV.filtered {f : Nat → Nat → Int} {m : Int} {l : List Slt} {E : Int} (h : ComV f m l E slot ot parts) : parts.Pairwise (· ≠ ·) ∧ (∀ k j, isS l k = true → isS l j = true → atL ot k = atL ot j → k = j) ∧ ∀ k, isS l k = true → atL ot k ∉ parts := by
  have ha := h.apart
  rw [List.pairwise_append] at ha
  obtain ⟨h1, h2, h3⟩ := ha
  rw [List.pairwise_filter, List.pairwise_iff_getElem] at h2
  have lt : ∀ k, isS l k = true → k < ot.length := fun k a => by rw [h.len]; exact isS_in a
  have key : ∀ k j, isS l k = true → isS l j = true → k < j → atL ot k ≠ atL ot j := fun k j a b c => by
    have p1 := (h.page9 a).1.lo
    have p2 := (h.page9 b).1.lo
    rw [atL_in (lt k a)] at p1 ⊢
    rw [atL_in (lt j b)] at p2 ⊢
    exact h2 k j (lt k a) (lt j b) c (by simpa using p1) (by simpa using p2)
  refine ⟨h1, fun k j a b e => ?_, fun k a hm => ?_⟩
  · rcases Nat.lt_trichotomy k j with c | c | c
    · exact absurd e (key k j a b c)
    · exact c
    · exact absurd e.symm (key j k b a c)
  · obtain ⟨p1, p2⟩ := h.page9 a
    refine h3 _ hm (atL ot k) (List.mem_filter.2 ⟨?_, by simpa using p1.lo⟩) rfl
    rw [atL_in (lt k a)]
    exact List.getElem_mem (lt k a)
/-- what Open finds: pages and parts in use, all else free -/
theorem HoldP.of_com {l : List Slt} {E : Int} {c : Nat} (hc : ComV d.sf (n : Int) l E slot ot parts) (hs : ∀ k, (slA l k).fr = false) (hn : 1 ≤ n ∧ n ≤ 1024 ∧ (n : Int) ≤ manyP d.n) (ht : ∀ k, tb k = atL ot k) (hK : ∀ q, q < n → (K q = 1 ∧ ReachV ot parts (q : Int)) ∨ (K q = 0 ∧ ¬ ReachV ot parts (q : Int)))
    (slots : d.is 0 = false ∧ d.is 1 = false) (safe : ∀ p, ReachV ot parts p → ∀ k, inP p k → d.is k = false) (hd : d.down = false) (ok : OkD d) : HoldP d ⟨(n : Int), l, l, E, c⟩ n K tb ot parts slot := by
  obtain ⟨f1, f2, f3⟩ := hc.filtered
  have hl : ∀ k, leftS l l k = false := fun k => by unfold leftS; rw [hs]; cases isS l k <;> rfl
  have lt : ∀ p, ReachV ot parts p → p < (n : Int) := fun p hp => hc.fits p (by
    rcases hp.2 with h | h
    · exact List.mem_append_left _ h
    · exact List.mem_append_right _ h)
  have k1 : ∀ p, ReachV ot parts p → K p.toNat = 1 := fun p hp => by
    have h1 := lt p hp
    have h0 := hp.1
    rcases hK p.toNat (by omega) with a | a
    · exact a.1
    · exact absurd (by rw [Int.toNat_of_nonneg h0]; exact hp) a.2
  have no : ∀ k, isS l k = false → atL ot k = -1 := fun k a => by
    rcases Nat.lt_or_ge k ot.length with c | c
    · rw [atL_in c]; exact hc.none k c a
    · exact atL_out c
  have yes : ∀ k, isS l k = true → 0 ≤ atL ot k ∧ atL ot k < (n : Int) := fun k a => ⟨(hc.page9 a).1.lo, lt _ (hc.page9 a).2⟩
  refine ⟨⟨rfl, hn.2.1, hn.2.2⟩, hn.1, ⟨fun q hq => ?_, hs, hc.len, hc.root.2.2.2.2.2.2, fun k => ⟨yes k, no k⟩, fun p hp => ?_, f1, f2, f3, fun k => by rw [ht]; exact ⟨yes k, no k⟩, fun k j => by rw [ht, ht]; exact f2 k j, fun k _ e => (by rw [hs] at e; cases e), fun k a _ => ⟨a, ht k⟩, fun p hp => ?_, fun k a => ?_, fun q hq e => ?_, fun q hq e => ?_⟩, hc, slots, safe, fun k a => ?_, hd, ok⟩
  · rcases hK q hq with a | a <;> omega
  · obtain ⟨i, hi, rfl⟩ := List.getElem_of_mem hp
    have h0 := (hc.part i hi).lo
    exact ⟨h0, lt _ ⟨h0, .inl (List.getElem_mem hi)⟩⟩
  · obtain ⟨i, hi, rfl⟩ := List.getElem_of_mem hp
    have h0 := (hc.part i hi).lo
    exact k1 _ ⟨h0, .inl (List.getElem_mem hi)⟩
  · rw [hl, k1 _ (hc.page9 a).2]; rfl
  · rcases hK q hq with a | a <;> omega
  · rcases hK q hq with a | a
    · obtain ⟨h0, hm | hm⟩ := a.2
      · exact .inl hm
      · right
        obtain ⟨i, hi, e2⟩ := List.getElem_of_mem hm
        refine ⟨i, ?_, by rw [atL_in hi]; exact e2⟩
        cases b : isS l i with
        | true => rfl
        | false => have := hc.none i hi b; omega
    · omega
  · rw [ht]
    exact ((hc.page9 a).1.ext (now_same (safe _ (hc.page9 a).2))).up (show E ≤ E + 1 by omega)
/-- what Format lays: the root of epoch 1 without pages, and zeros -/
theorem ComV.first {f : Nat → Nat → Int} {m : Int} (h0 : ∀ j, j < 64 → f 0 j = byD (bytesR ⟨1, 0, []⟩) j) (h1 : ∀ j, j < 64 → f 1 j = 0) : ComV f m [] 1 0 [] [] where
  sl := by omega
  len := rfl
  root := ⟨List.Pairwise.nil, fun _ h => absurd h List.not_mem_nil, by decide, by decide, by decide, by decide, rfl⟩
  at_ := h0
  stale := StaleOk.zero.ext h1
  part := fun i hi => absurd hi (Nat.not_lt_zero i)
  page := fun i hi => absurd hi (Nat.not_lt_zero i)
  none := fun i hi => absurd hi (Nat.not_lt_zero i)
  apart := List.Pairwise.nil
  fits := fun _ h => absurd h List.not_mem_nil
end

end Go.Proofs.YtmflkkkbahghgaaGreat
namespace Go.Proofs.YtmflkkkbahghgaaGreat

/-- an instruction -/
structure I4 where
  op : Int
  a : Int
  b : Int
  c : Int
/-- does p hold of all below n? -/
def allN (p : Nat → Bool) : Nat → Bool
  | 0 => true
  | n + 1 => allN p n && p n
theorem allN_iff (p : Nat → Bool) (n : Nat) : allN p n = true ↔ ∀ i, i < n → p i = true := by
  induction n with
  | zero => simp [allN]
  | succ n ih =>
    simp only [allN, Bool.and_eq_true, ih]
    constructor
    · rintro ⟨h1, h2⟩ i hi
      rcases Nat.lt_or_ge i n with h | h
      · exact h1 i h
      · rw [show i = n by omega]; exact h2
    · exact fun h => ⟨fun i hi => h i (by omega), h n (by omega)⟩
theorem allN_false {p : Nat → Bool} {n j : Nat} (hj : j < n) (h : p j = false) : allN p n = false := by
  rw [Bool.eq_false_iff]
  intro hc
  rw [(allN_iff p n).1 hc j hj] at h
  cases h
theorem allN_step {p : Nat → Bool} {j : Nat} (h : allN p j = true) (h1 : p j = true) : allN p (j + 1) = true := by simp [allN, h, h1]
/-- two lists by a test -/
def sameL (n m : Nat) (p : Nat → Bool) : Bool := decide (n = m) && allN p n
def sameW (f g : Nat → Int) (n m : Nat) : Bool := sameL n m fun k => decide (f k = g k)
theorem sameL_refl (n : Nat) (p : Nat → Bool) (h : ∀ i, i < n → p i = true) : sameL n n p = true := by simp [sameL, (allN_iff p n).2 h]
theorem sameW_refl (f : Nat → Int) (n : Nat) : sameW f f n n = true := sameL_refl _ _ fun _ _ => by simp
end Go.Proofs.YtmflkkkbahghgaaGreat
namespace Go.Proofs.YtmflkkkbahghgaaGreat
open Go.ChangeShapes Go.WideShapes Go.ChangeAt Go.RowKit Go.Joins

theorem list3 {α : Type} {l : List α} (h : l.length = 3) : ∃ c0 c1 c2, l = [c0, c1, c2] := by
  match l, h with
  | [c0, c1, c2], _ => exact ⟨c0, c1, c2, rfl⟩
section
variable {H : Type} {enc : TypeId × Value → H} {P : Program} {w : World}
/-- the fields of a struct that lies in the cells cs: field i, of type T, at cell o, k cells wide, reads as data -/
theorem struct_cells {base fuel : Nat} {spare : Nat → Bool} {held : Bool} {t : TypeId} {fs : Array Field} {cs : List Value} {x : DataW H × List MemPlace} (hs : P.underlying t = some (.struct fs)) (h : DataW.trod enc P w base spare held fuel t cs = some x) :
    ∃ n, ∀ (i : Nat) (T : TypeId) (o k : Nat), fs[i]?.map (fun f => (f.type, f.offset)) = some (T, o) → P.cellsOf T = k → ∃ y, DataW.trod enc P w base spare held n T ((cs.drop o).take k) = some y := by
  obtain ⟨xs, n, _, _, _, hlen, hg⟩ := DataW.trod_struct hs h
  refine ⟨n, fun i T o k hi hk => ?_⟩
  obtain ⟨f, hf, e⟩ := Option.map_eq_some_iff.1 hi
  simp only [Prod.mk.injEq] at e
  have hlt : i < xs.length := by have := (Array.getElem?_eq_some_iff.1 hf).1; omega
  have := hg i f hf
  rw [e.1, e.2, hk, List.getElem?_eq_getElem hlt] at this
  exact ⟨_, this⟩

/-- a struct that came in by value: its cells, and its fields' readings -/
theorem open_struct {r : Reach} {b0 base : Nat} {spare : Nat → Bool} {held : Bool} {t : TypeId} {fs : Array Field} {v : Value} {d : DataW H} {p : List MemPlace} (hs : P.underlying t = some (.struct fs)) (hv : Value.okWide P w r b0 t v) (h : DataW.Trod enc P w base spare held t v d p) :
    ∃ (cs : List Value) (n : Nat), v = .agg cs.toArray ∧ cs.length = P.cellsOf t ∧
      ∀ (i : Nat) (T : TypeId) (o k : Nat), fs[i]?.map (fun f => (f.type, f.offset)) = some (T, o) → P.cellsOf T = k → ∃ y, DataW.trod enc P w base spare held n T ((cs.drop o).take k) = some y := by
  obtain ⟨cs, rfl, hsz⟩ := okWide_struct hs hv
  obtain ⟨fuel, hf⟩ := h
  obtain ⟨n, hn⟩ := struct_cells hs hf
  exact ⟨cs.toList, n, by simp, by simpa using hsz, fun i T o k hi hk => by simpa [Value.cells] using hn i T o k hi hk⟩

/-- a slice that came in: nil, or elements of C cells each, of which 'ok' tells what they are -/
def CellRows (C : Nat) (ok : List Value → Prop) (w : World) (a : Option Addr) (len cap : Nat) : Prop :=
  (a = none ∧ len = 0 ∧ cap = 0) ∨
  ∃ x, a = some x ∧ len ≤ cap ∧ cap ≤ maxLen ∧ ∀ i, i < len → ∃ cs, cs.length = C ∧ ok cs ∧ ∀ j, j < C → w.cell? (x.add (i * C + j)) = cs[j]?

theorem cellRows_of {base fuel C : Nat} {t e : TypeId} {a : Option Addr} {len cap : Nat} {x : DataW H × List MemPlace} {ok : List Value → Prop} (ht : P.underlying t = some (.slice e)) (hc : P.cellsOf e = C)
    (hf : DataW.trod enc P w base (fun _ => true) true fuel t [.slice a len cap] = some x)
    (hok : ∀ (cs : List Value) (m : Nat) (y : DataW H × List MemPlace), cs.length = C → DataW.trod enc P w base (fun _ => true) true m e cs = some y → ok cs) : CellRows C ok w a len cap := by
  rcases Go.Deep.open_slice ht hf with ⟨hcs, _⟩ | ⟨y, l, cp, m, n, D, Pl, hcs, _, hl, hm, hmm, _, hi⟩
  · simp at hcs
    exact .inl hcs
  · simp at hcs
    obtain ⟨rfl, rfl, rfl⟩ := hcs
    refine .inr ⟨y, rfl, hl, hm, fun i hlt => ?_⟩
    obtain ⟨cs, h1, h2⟩ := hi i (by rw [hmm]; simp; omega)
    rw [hc] at h1
    obtain ⟨_, h3, h4⟩ := World.cells?_some h1
    refine ⟨cs, h3, hok cs n _ h3 h2, fun j hj => ?_⟩
    rw [← Go.Deep.add_add]
    exact h4 j hj
end

end Go.Proofs.YtmflkkkbahghgaaGreat
namespace Go.Proofs.YtmflkkkbahghgaaGreat
open Go.RowKit
set_option linter.unusedVariables false

/-- rows of C cells in a block: cell j of row i is g i j -/
def At (C : Nat) (g : Nat → Nat → Value) (n b o : Nat) (w : World) : Prop :=
  b < w.heap.size ∧ ∀ i, i < n → ∀ j, j < C → w.cell? ⟨b, o + i * C + j, none⟩ = some (g i j)
theorem At.below {C : Nat} {g : Nat → Nat → Value} {n b o : Nat} {w w2 : World} (h : At C g n b o w) (k : Below w.heap.size w w2) : At C g n b o w2 :=
  ⟨Nat.lt_of_lt_of_le h.1 k.size, fun i hi j hj => by rw [k.cell (p := ⟨b, o + i * C + j, none⟩) h.1]; exact h.2 i hi j hj⟩
/-- a slice of rows -/
def Sl (C : Nat) (g : Nat → Nat → Value) (n : Nat) (v : Value) (w : World) : Prop :=
  ∃ ao cap, v = .slice ao n cap ∧ n ≤ cap ∧ cap ≤ 9223372036854775807 ∧ (0 < n → ∃ b o, ao = some ⟨b, o, none⟩ ∧ At C g n b o w)
theorem Sl.below {C : Nat} {g : Nat → Nat → Value} {n : Nat} {v : Value} {w w2 : World} (h : Sl C g n v w) (k : Below w.heap.size w w2) : Sl C g n v w2 := by
  obtain ⟨ao, cap, e, h1, h2, h3⟩ := h
  exact ⟨ao, cap, e, h1, h2, fun hn => by obtain ⟨b, o, e2, ha⟩ := h3 hn; exact ⟨b, o, e2, ha.below k⟩⟩
theorem Sl.congr {C : Nat} {g g2 : Nat → Nat → Value} {n : Nat} {v : Value} {w : World} (h : Sl C g n v w) (e : ∀ i, i < n → ∀ j, j < C → g i j = g2 i j) : Sl C g2 n v w := by
  obtain ⟨ao, cap, ev, h1, h2, h3⟩ := h
  exact ⟨ao, cap, ev, h1, h2, fun hn => by
    obtain ⟨b, o, e2, ha⟩ := h3 hn
    exact ⟨b, o, e2, ha.1, fun i hi j hj => by rw [← e i hi j hj]; exact ha.2 i hi j hj⟩⟩

def gW (d : Nat → Int) : Nat → Nat → Value := fun i _ => .int .i64 (d i)
theorem At.one {g : Nat → Nat → Value} {n b o : Nat} {w : World} (h : At 1 g n b o w) (i : Nat) (hi : i < n) : w.cell? ⟨b, o + i, none⟩ = some (g i 0) := by
  have := h.2 i hi 0 (by omega)
  simpa using this
theorem bdrew (w : World) : Below w.heap.size w w.drew := (Below.refl _ _).drew

end Go.Proofs.YtmflkkkbahghgaaGreat
namespace Go.Proofs.YtmflkkkbahghgaaGreat
open Go.RowKit
set_option linter.unusedVariables false

/-- the cells of n rows of C -/
def rowCells (C : Nat) (g : Nat → Nat → Value) (n : Nat) : List Value := (List.range (n * C)).map fun k => g (k / C) (k % C)
theorem rowCells_len (C : Nat) (g : Nat → Nat → Value) (n : Nat) : (rowCells C g n).length = n * C := by simp [rowCells]
theorem rowCells_at {C : Nat} (g : Nat → Nat → Value) {n i j : Nat} (hi : i < n) (hj : j < C) : (rowCells C g n)[i * C + j]? = some (g i j) := by
  have h : i * C + j < n * C := by
    have : (i + 1) * C ≤ n * C := Nat.mul_le_mul_right C hi
    rw [Nat.add_mul, Nat.one_mul] at this
    omega
  have e1 : (i * C + j) / C = i := by
    rw [Nat.mul_comm, Nat.mul_add_div (by omega), Nat.div_eq_of_lt hj]; omega
  have e2 : (i * C + j) % C = j := by
    rw [Nat.mul_comm, Nat.mul_add_mod]; exact Nat.mod_eq_of_lt hj
  simp [rowCells, h, e1, e2]
theorem rowCells_of {C : Nat} (hC : 0 < C) (g : Nat → Nat → Value) {n k : Nat} {v : Value} (h : (rowCells C g n)[k]? = some v) : k < n * C ∧ k / C < n ∧ k % C < C ∧ v = g (k / C) (k % C) := by
  have hk : k < n * C := by
    rcases Nat.lt_or_ge k (n * C) with h' | h'
    · exact h'
    · rw [List.getElem?_eq_none (by rw [rowCells_len]; exact h')] at h; cases h
  refine ⟨hk, (Nat.div_lt_iff_lt_mul hC).2 hk, Nat.mod_lt _ hC, ?_⟩
  simp [rowCells, hk] at h
  exact h.symm

end Go.Proofs.YtmflkkkbahghgaaGreat
