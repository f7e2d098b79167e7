/- What Open finds on a disk that holds a commit: all of it may be, and is in use. Plain mathematics. The program's Open: of a store's disk, of a disk that crashed. The program's PutPart. -/
import Derived.Test.YtdpmpmaepjgndaaGreatYZ40
import Derived.Test.YtdpmpmaepjgndaaGreatYZ38
import Derived.Test.YtdpmpmaepjgndaaGreatYZ42
import Derived.Test.YtdpmpmaepjgndaaGreatYZ35
import Derived.Test.YtdpmpmaepjgndaaGreatYZ36
import Derived.Test.YtdpmpmaepjgndaaGreatYZ24
namespace Go.Proofs.YtdpmpmaepjgndaaGreat
open Go.RowKit
set_option linter.unusedVariables false
set_option linter.unusedSimpArgs false
set_option maxRecDepth 100000

section
variable {d : Dk} {n : Nat} {l : List Slt} {E : Int} {slot : Nat} {ot parts : List Int}
theorem pairwise_at {α : Type} {R : α → α → Prop} {l : List α} (h : l.Pairwise R) {i j : Nat} (hi : i < l.length) (hj : j < l.length) (hij : i < j) : R l[i] l[j] := (List.pairwise_iff_getElem.1 h) i j hi hj hij
theorem take_notin {l : List Int} (h : l.Pairwise (· ≠ ·)) {i : Nat} (hi : i < l.length) : l[i] ∉ l.take i := by
  intro hm
  obtain ⟨j, hj, e⟩ := List.getElem_of_mem hm
  have hj2 : j < i := by rw [List.length_take] at hj; omega
  rw [List.getElem_take] at e
  exact pairwise_at h (by omega) hi hj2 e
theorem getD_in {l : List Int} {i : Nat} (hi : i < l.length) (z : Int) : l.getD i z = l[i] := by rw [List.getD_eq_getElem?_getD, List.getElem?_eq_getElem hi]; rfl
/-- a committed page is one that may be reached, if it is not in use yet -/
theorem okR_of {u : List Int} {id kd : Int} {pay : ByteArray} (h : PageOk (nowD d) E kd id pay) (hd : d.down = false) (hm : (n : Int) ≤ manyP d.n) (h1 : id < (n : Int)) (hu : id ∉ u) : okR d n (usedK u) E id kd ∧ (readPP d id).pay = pay := by
  obtain ⟨e1, e, _, h2, e2⟩ := h.read hd (by omega)
  refine ⟨⟨e1, by rw [e2], by rw [e2]; exact h2, (usedK_use h.lo h1 hu).1⟩, by rw [e2]⟩
theorem ComV.fit (hc : ComV (nowD d) (n : Int) l E slot ot parts) {x : Int} (h : x ∈ parts ∨ x ∈ ot) : x < (n : Int) := hc.fits x (by
  rcases h with h | h
  · exact List.mem_append_left _ h
  · exact List.mem_append_right _ h)
theorem ComV.need (hc : ComV (nowD d) (n : Int) l E slot ot parts) : (parts.length : Int) = needR (l.length : Int) := hc.root.2.2.2.2.2.2
theorem ComV.cnt (hc : ComV (nowD d) (n : Int) l E slot ot parts) {j : Nat} (hj : j < parts.length) : ((partT ot j).length : Int) = cntP (l.length : Int) j := by
  have := hc.need
  have hlen := hc.len
  rw [partT_len]
  unfold cntP
  unfold needR at this
  split at this <;> omega
theorem ComV.small (hc : ComV (nowD d) (n : Int) l E slot ot parts) (hn : n ≤ 1024) : ∀ x ∈ ot, -1 ≤ x ∧ x ≤ 1023 := fun x hx => ⟨hc.filled hx, by have := hc.fit (.inr hx); omega⟩
theorem ComV.partOk (hc : ComV (nowD d) (n : Int) l E slot ot parts) (hd : d.down = false) (hm : (n : Int) ≤ manyP d.n) {j : Nat} (hj : j < parts.length) : okR d n (usedK (parts.take j)) E (parts.getD j 0) 1 ∧ (readPP d (parts.getD j 0)).pay = padN (partS ot j) 232 := by
  rw [getD_in hj]
  exact okR_of (hc.part j hj) hd hm (hc.fit (.inl (List.getElem_mem hj))) (take_notin hc.filtered.1 hj)
theorem ComV.table (hc : ComV (nowD d) (n : Int) l E slot ot parts) (hd : d.down = false) (hn : n ≤ 1024) (hm : (n : Int) ≤ manyP d.n) : ∀ j, j ≤ parts.length → tabF d (l.length : Int) parts j = ot.take (116 * j)
  | 0, _ => by simp [tabF]
  | j + 1, hj => by
    have ih := hc.table hd hn hm j (by omega)
    have hp := (hc.partOk hd hm (j := j) (by omega)).2
    have hc2 := hc.cnt (j := j) (by omega)
    simp only [tabF]
    rw [ih, hp, ← hc2, Int.toNat_natCast, (part_full (i := j) (hc.small hn)).2, part_next]
theorem ComV.whole (hc : ComV (nowD d) (n : Int) l E slot ot parts) (hd : d.down = false) (hn : n ≤ 1024) (hm : (n : Int) ≤ manyP d.n) : tabF d (l.length : Int) parts parts.length = ot := by
  rw [hc.table hd hn hm parts.length (Nat.le_refl _)]
  apply List.take_of_length_le
  have := hc.need
  have hlen := hc.len
  unfold needR at this
  split at this <;> omega
theorem atL_is (hc : ComV (nowD d) (n : Int) l E slot ot parts) (k : Nat) : isS l k = true ↔ atL ot k ≠ -1 := by
  have hlen := hc.len
  constructor
  · intro h
    have := (hc.page9 h).1.lo
    omega
  · intro h
    cases c : isS l k with
    | true => rfl
    | false =>
      exfalso
      rcases Nat.lt_or_ge k ot.length with hk | hk
      · rw [atL_in hk, hc.none k hk c] at h; exact h rfl
      · rw [atL_out hk] at h; exact h rfl
theorem ComV.loads (hc : ComV (nowD d) (n : Int) l E slot ot parts) (hd : d.down = false) (hn : n ≤ 1024) (hm : (n : Int) ≤ manyP d.n) : LoadOk d n E (l.length : Int) parts := by
  obtain ⟨f1, f2, f3⟩ := hc.filtered
  refine ⟨fun i hi => ⟨(hc.partOk hd hm hi).1, ?_⟩, fun i hi => ?_⟩
  · rw [(hc.partOk hd hm hi).2, ← hc.cnt hi]
    exact (part_full (hc.small hn)).1
  · rw [hc.whole hd hn hm] at hi ⊢
    have hme := mem_listT.1 (List.getElem_mem hi)
    have hpw := listT_pair (atL ot) 512
    generalize listT (atL ot) 512 = L at *
    have e : L.getD i 0 = L[i] := by rw [List.getD_eq_getElem?_getD, List.getElem?_eq_getElem hi]; rfl
    rw [e]
    have his := (atL_is hc L[i]).2 hme.2
    have hp := hc.page9 his
    refine (okR_of hp.1 hd hm (hc.fit ?_) ?_).1
    · rcases hp.2.2 with h | h
      · exact .inl h
      · exact .inr h
    · intro hmem
      rcases List.mem_append.1 hmem with h | h
      · exact f3 _ his h
      · obtain ⟨k, hk, ek⟩ := List.mem_map.1 h
        obtain ⟨j, hj, ej⟩ := List.getElem_of_mem hk
        have hj2 : j < i := by rw [List.length_take] at hj; omega
        rw [List.getElem_take] at ej
        have hlt := pairwise_at hpw (by omega) hi hj2
        have hk2 : isS l k = true := by
          rw [atL_is hc k, ek]
          exact hme.2
        have := f2 _ _ hk2 his ek
        omega
/-- what is in use then: what the root reaches -/
theorem usedK_R (hc : ComV (nowD d) (n : Int) l E slot ot parts) (hl : l.length ≤ 512) (q : Nat) : (usedK (parts ++ (listT (atL ot) 512).map (atL ot)) q = 1 ∧ ReachV ot parts (q : Int)) ∨ (usedK (parts ++ (listT (atL ot) 512).map (atL ot)) q = 0 ∧ ¬ ReachV ot parts (q : Int)) := by
  have hlen := hc.len
  have key : ((q : Int) ∈ parts ++ (listT (atL ot) 512).map (atL ot)) ↔ ReachV ot parts (q : Int) := by
    unfold ReachV
    rw [List.mem_append, List.mem_map]
    constructor
    · rintro (h | ⟨k, hk, e⟩)
      · exact ⟨by omega, .inl h⟩
      · refine ⟨by omega, .inr ?_⟩
        rw [← e]
        exact atL_mem (by rw [e]; omega)
    · rintro ⟨h0, h | h⟩
      · exact .inl h
      · obtain ⟨k, hk, e⟩ := List.getElem_of_mem h
        right
        refine ⟨k, mem_listT.2 ⟨by omega, ?_⟩, ?_⟩
        · rw [atL_in hk, e]; omega
        · rw [atL_in hk, e]
  unfold usedK
  by_cases c : (q : Int) ∈ parts ++ (listT (atL ot) 512).map (atL ot)
  · exact .inl ⟨if_pos c, key.1 c⟩
  · exact .inr ⟨if_neg c, fun h => c (key.2 h)⟩
/-- a commit that is safe is seen -/
theorem ComV.seen (hc : ComV d.sf (n : Int) l E slot ot parts) (h0 : d.is 0 = false ∧ d.is 1 = false) (hs : ∀ p, ReachV ot parts p → ∀ k, inP p k → d.is k = false) : ComV (nowD d) (n : Int) l E slot ot parts := by
  have hsl := hc.sl
  have e : ∀ k, k ≤ 1 → ∀ j, j < 64 → nowD d k j = d.sf k j := fun k hk j _ => by
    unfold nowD
    rcases (by omega : k = 0 ∨ k = 1) with rfl | rfl
    · rw [h0.1, if_neg (by decide)]
    · rw [h0.2, if_neg (by decide)]
  exact hc.ext (e slot hsl) (hc.stale.ext (e (1 - slot) (by omega))) fun p hp => now_same (hs p hp)
end
section
variable {d : Dk} {x : Stt} {n : Nat} {K : Nat → Nat} {tb : Nat → Int} {ot parts : List Int} {slot : Nat}
theorem HoldP.reach_iff (h : HoldP d x n K tb ot parts slot) {p : Nat} (hp : p < n) : (K p = 1 ∨ K p = 3) ↔ ReachV ot parts (p : Int) := by
  constructor
  · intro a
    refine ⟨by omega, ?_⟩
    rcases h.tab.back13 p hp a with b | ⟨l, b, c⟩
    · exact .inl b
    · right
      rw [← c]
      exact atL_mem (by omega)
  · intro a
    have := h.reach a
    rwa [Int.toNat_natCast] at this
end

end Go.Proofs.YtdpmpmaepjgndaaGreat
namespace Go.Proofs.YtdpmpmaepjgndaaGreat
open Go.RowKit Go.Deep
set_option linter.unusedVariables false
set_option linter.unusedSimpArgs false
set_option maxRecDepth 100000

section
variable {base D P a : Nat} {x : Stt} {S : Nat → Bool} {M bS bm cS : Nat} {d : Dk} {n : Nat} {K : Nat → Nat} {tb : Nat → Int} {ot parts : List Int} {slot : Nat} {vp : Value} {SK : Nat → Bool} {u u2 : World}
theorem many_two {n m : Nat} (h : 1 ≤ n) (h2 : (n : Int) ≤ manyP (m : Int)) : 2 ≤ m := by
  unfold manyP at h2
  split at h2 <;> omega
/-- what Open finds where a commit is safe -/
theorem com_open {l : List Slt} {E : Int} (hd : PDk base D bS bm cS d u) (hc : ComV d.sf (n : Int) l E slot ot parts) (hl : l.length ≤ 512) (hn : 1 ≤ n ∧ n ≤ 1024) (hm : (n : Int) = manyP d.n) (slots : d.is 0 = false ∧ d.is 1 = false) (safe : ∀ p, ReachV ot parts p → ∀ k, inP p k → d.is k = false) (hdn : d.n ≤ 4096) (hdw : d.down = false) (ok : OkD d) (hb : base ≤ u.heap.size) :
    Calls Tryz.prog 25 #[.pointer (some ⟨D, 0, none⟩)] u fun r u' => ∃ P M SK vp, r = .returned (.tuple #[.pointer (some ⟨P, 0, none⟩), .int .i64 0]) ∧ Below u.heap.size u u' ∧ StoM base D P M bS bm cS d n (usedK (parts ++ (listT (atL ot) 512).map (atL ot))) E slot (atL ot) ot parts vp SK u' ∧ ∀ k, stoS P D bS bm SK vp k = true → P3 D bS bm k = true ∨ u.heap.size ≤ k := by
  have h2 : 2 ≤ d.n := many_two hn.1 (by omega)
  have hs := hc.seen slots safe
  refine (sopen_any hd hdw (by omega) hdn hn.2 hm hb).mono ?_
  rintro r u' ⟨hbl, ⟨h, _⟩ | ⟨_, h0, h1, _⟩ | ⟨_, y, sl, hL, hno, _⟩ | ⟨_, y, sl, hL, hok, P, M, SK, vp, hr, hst, hall⟩⟩
  · omega
  · exact (hs.some_says h0 h1).elim
  · obtain ⟨rfl, _⟩ := hs.later (fun i => ok.now i) hL
    exact absurd (hs.loads hdw hn.2 (by omega)) hno
  · obtain ⟨rfl, e⟩ := hs.later (fun i => ok.now i) hL
    have e2 : sl = slot := by omega
    subst e2
    have hT : tabR d ⟨E, (l.length : Int), parts⟩ = ot := hs.whole hdw hn.2 (by omega)
    unfold allU at hst
    rw [hT] at hst
    exact ⟨P, M, SK, vp, hr, hbl, hst, hall⟩
theorem sopen_x (h0 : PMx base D P x a S u) (hx : OkX x) (hb : base ≤ u.heap.size) : Calls Tryz.prog 25 #[.pointer (some ⟨D, 0, none⟩)] u fun r u' => ∃ P2 S2, r = .returned (.tuple #[.pointer (some ⟨P2, 0, none⟩), .int .i64 0]) ∧ NewB S S2 u ∧ KpS S u u' ∧ PMx base D P2 (aboSX x) a S2 u' := by
  obtain ⟨M, bS, bm, cS, d, n, K, tb, ot, parts, slot, vp, SK, h, rfl⟩ := h0
  have hmn := h.h.mn
  refine (com_open h.m.dk h.h.com hx.old ⟨h.h.pos, hmn.2.1⟩ h.nm h.h.slots h.h.safe h.dn h.h.dn h.h.ok hb).mono ?_
  rintro r u' ⟨P2, M2, SK2, vp2, hr, hbl, hst, hall⟩
  refine ⟨P2, _, hr, fun k hk => (hall k hk).imp (fun h => stoS_iff.2 (.inr (.inl h))) id, KpS.of hbl, M2, bS, bm, cS, d, n, _, atL ot, ot, parts, slot, vp2, SK2, ⟨hst, ?_, h.arm, h.cl, h.dn, h.ab, h.sl, h.nm⟩, rfl⟩
  have hs := h.h.com.seen h.h.slots h.h.safe
  refine h.h.abort (fun l => rfl) fun q hq => ?_
  have h4 := h.h.tab.four q hq
  have hr9 := h.h.reach_iff hq
  rcases usedK_R hs hx.old q with ⟨e, hv⟩ | ⟨e, hv⟩
  · rw [e]
    rcases hr9.2 hv with c | c
    · rw [if_neg (by omega), if_neg (by omega), c]
    · rw [if_neg (by omega), if_pos c]
  · rw [e]
    have c1 : ¬ (K q = 1 ∨ K q = 3) := fun c => hv (hr9.1 c)
    by_cases c2 : K q = 2
    · rw [if_pos c2]
    · rw [if_neg c2, if_neg (by omega)]; omega
theorem scopen_x {nxt : List Slt} (h0 : PCx base D x nxt S u) (hx : OkX x) (hl : nxt.length ≤ 512) (hb : base ≤ u.heap.size) : Calls Tryz.prog 25 #[.pointer (some ⟨D, 0, none⟩)] u fun r u' => ∃ P S2 x2, r = .returned (.tuple #[.pointer (some ⟨P, 0, none⟩), .int .i64 0]) ∧ (x2 = { x with now := x.old, cl := x.cl + 64 } ∨ x2 = { x with now := nxt, old := nxt, ep := x.ep + 1, cl := x.cl + 64 }) ∧ NewB S S2 u ∧ KpS S u u' ∧ PMx base D P x2 0 S2 u' := by
  obtain ⟨bS, bm, cS, d, hd, ⟨c1, c2, c3, c4, c5, c6, c7, hcase⟩, hcl, hdn, hmany, hf1, hf2, rfl⟩ := h0
  obtain ⟨n, hn⟩ : ∃ n : Nat, x.many = (n : Int) := ⟨x.many.toNat, by omega⟩
  have key : ∀ (l : List Slt) (E : Int) (slot : Nat) (ot parts : List Int) (x2 : Stt), l.length ≤ 512 → ComV d.sf x.many l E slot ot parts → (∀ k, (slA l k).fr = false) → x2 = ⟨x.many, l, l, E, x.cl + 64⟩ → Calls Tryz.prog 25 #[.pointer (some ⟨D, 0, none⟩)] u fun r u' => ∃ P S2, r = .returned (.tuple #[.pointer (some ⟨P, 0, none⟩), .int .i64 0]) ∧ NewB (P3 D bS bm) S2 u ∧ KpS (P3 D bS bm) u u' ∧ PMx base D P x2 0 S2 u' := by
    intro l E slot ot parts x2 hl hc hs hx2
    rw [hn] at hc
    refine (com_open hd hc hl ⟨by omega, by omega⟩ (by omega) ⟨c7 0, c7 1⟩ (fun p _ k _ => c7 k) hdn c1 c3 hb).mono ?_
    rintro r u' ⟨P2, M2, SK2, vp2, hr, hbl, hst, hall⟩
    have hsee := hc.seen ⟨c7 0, c7 1⟩ (fun p _ k _ => c7 k)
    rw [hx2, hn]
    refine ⟨P2, _, hr, fun k hk => hall k hk, KpS.of hbl, M2, bS, bm, cS, d, n, _, atL ot, ot, parts, slot, vp2, SK2, ⟨hst, ?_, c2, hcl, hdn, by omega, by have := hc.sl; omega, by omega⟩, rfl⟩
    exact HoldP.of_com hc hs ⟨by omega, by omega, by omega⟩ (fun k => rfl) (fun q hq => usedK_R hsee hl q) ⟨c7 0, c7 1⟩ (fun p _ k _ => c7 k) c1 c3
  rcases hcase with ⟨slot, ot, parts, hc⟩ | ⟨slot, ot, parts, hc⟩
  · refine (key x.old x.ep slot ot parts { x with now := x.old, cl := x.cl + 64 } hx.old hc hf1 rfl).mono ?_
    rintro r u' ⟨P, S2, hr, h1, h2, h3⟩
    exact ⟨P, S2, _, hr, .inl rfl, h1, h2, h3⟩
  · refine (key nxt (x.ep + 1) slot ot parts { x with now := nxt, old := nxt, ep := x.ep + 1, cl := x.cl + 64 } hl hc hf2 rfl).mono ?_
    rintro r u' ⟨P, S2, hr, h1, h2, h3⟩
    exact ⟨P, S2, _, hr, .inr rfl, h1, h2, h3⟩
end

end Go.Proofs.YtdpmpmaepjgndaaGreat
namespace Go.Proofs.YtdpmpmaepjgndaaGreat
open Go.RowKit Go.Deep
set_option linter.unusedVariables false
set_option linter.unusedSimpArgs false
set_option maxRecDepth 100000

theorem pputpart_bad (l : List Int) (v : Value) (p : Int) (w : World) (hv : LstI l v w) (hp : -9223372036854775808 ≤ p ∧ p ≤ 9223372036854775807) (h : p < 0 ∨ needR (l.length : Int) ≤ p) :
    Calls Tryz.prog 159 #[v, .int .i64 p] w fun r w' => r = .returned (.tuple #[.string ⟨#[]⟩, .int .i64 3]) ∧ w' = w := by
  obtain ⟨ao, cap, rfl, h1, h2, _⟩ := hv
  generalize hn : l.length = n at *
  have HN := Lib.hid (fun w => pneed_any (n : Int) (by omega) w)
  have hb := need_bd (n := n) (by omega)
  generalize needR (n : Int) = q at *
  clear hn
  by_cases h0 : p < 0
  · have d : decide (p < 0) = true := by simp [h0]
    go_enter Tryz.func159, Tryz.ntmps159
    go_wp2_with fail
    go_ret2
    exact ⟨rfl, rfl⟩
  · have d : decide (p < 0) = false := by simp; omega
    have d2 : decide (q ≤ p) = true := by simp; omega
    go_enter Tryz.func159, Tryz.ntmps159
    go_wp2_with fail
    refine (HN.out _).mono ?_
    rintro e w1 ⟨rfl, rfl⟩
    go_wp2_with fail
    go_ret2
    exact ⟨rfl, rfl⟩
set_option maxHeartbeats 3200000 in
theorem pputpart_go (l : List Int) (v : Value) (p : Nat) (w : World) (hv : LstI l v w) (hl : l.length ≤ 1048576) (h : (p : Int) < needR (l.length : Int)) :
    Calls Tryz.prog 159 #[v, .int .i64 (p : Int)] w fun r w' => r = .returned (.tuple #[.string (partO l p), .int .i64 (partE l p)]) ∧ Below w.heap.size w w' := by
  obtain ⟨ao, cap, rfl, h1, h2, h3⟩ := hv
  have hlt0 := need_all.2 p h
  obtain ⟨B, o, rfl, hA⟩ := h3 (by omega)
  obtain ⟨K, hK⟩ : ∃ K, K = (partT l p).length := ⟨_, rfl⟩
  have hK2 : K = min 116 (l.length - 116 * p) := by rw [hK]; exact partT_len l p
  have HP : Hid (∀ j, j < K → (partT l p)[j]? = some (l.getD (116 * p + j) 0)) := Lib.hid (fun j hj => by
    have hj2 : j < (partT l p).length := by omega
    rw [List.getElem?_eq_getElem hj2, partT_at l p j hj2, List.getD_eq_getElem?_getD, List.getElem?_eq_getElem (by omega)]
    rfl)
  have HPI : Hid (∀ x ∈ partT l p, ∃ j, j < K ∧ x = l.getD (116 * p + j) 0) := Lib.hid (fun x hx => by
    obtain ⟨j, hj, rfl⟩ := List.getElem_of_mem hx
    refine ⟨j, by omega, ?_⟩
    rw [partT_at l p j hj, List.getD_eq_getElem?_getD, List.getElem?_eq_getElem (by omega)]
    rfl)
  have E : Hid (partE l (p : Int) = if ∃ x ∈ partT l p, 1023 < x then 2 else 0) := Lib.hid (by
    unfold partE
    rw [if_neg (by omega), Int.toNat_natCast])
  have EO : Hid (partO l (p : Int) = if ∃ x ∈ partT l p, 1023 < x then ⟨#[]⟩ else partS l p) := Lib.hid (by
    unfold partO
    rw [E.out, Int.toNat_natCast]
    split <;> simp)
  have EA : Hid (strOfNums (ppN l p K) = partS l p) := Lib.hid (by rw [hK]; exact ppN_all l p)
  have ES : Hid (∀ j, j < K → ppN l p (j + 1) = ppN l p j ++ beI 2 (clampP (l.getD (116 * p + j) 0) + 1)) := Lib.hid (fun j hj => ppN_succ (by omega))
  have EN : Hid (∀ j, j ≤ K → (ppN l p j).length = 2 * j) := Lib.hid (fun j hj => ppN_len (by omega))
  obtain ⟨n, hn⟩ : ∃ n, n = l.length := ⟨_, rfl⟩
  rw [← hn] at h h1 hlt0 hK2 hl ⊢
  have HN := Lib.hid (fun w => pneed_any (n : Int) (by omega) w)
  have hb := need_bd (n := n) (by omega)
  rw [← hn] at hA
  have HA := Lib.hid hA
  generalize needR (n : Int) = q at *
  obtain ⟨a, ha⟩ : ∃ a, a = 116 * p := ⟨_, rfl⟩
  have e0 : (p : Int) * 116 = (a : Int) := by omega
  rw [← ha] at HP ES hK2 hlt0 HPI
  have hKa : K ≤ 116 := by omega
  have hKb : a + K ≤ n := by omega
  have hKc : Hid (K = 116 ∨ a + K = n) := Lib.hid (by omega)
  have d : decide ((p : Int) < 0) = false := by simp
  have d2 : decide (q ≤ (p : Int)) = false := by simp; omega
  have hmin : (if (n : Int) < (a : Int) + 116 then (n : Int) else (a : Int) + 116) = ((a + K : Nat) : Int) := by have := hKc.out; split <;> omega
  have k1 : (a : Int) ≤ ((a + K : Nat) : Int) := by omega
  have k2 : ((a + K : Nat) : Int) ≤ (cap : Int) := by omega
  have k3 : (0 : Int) ≤ (a : Int) := by omega
  have k4 : (((a + K : Nat) : Int) - (a : Int)).toNat = K := by omega
  have L0 : Hid (Bl13 w.heap.size (ppN l p 0) (w.alloc (.cells #[.pointer none, .slice none 0 0] 184)) ∧ Below w.heap.size w (w.alloc (.cells #[.pointer none, .slice none 0 0] 184))) := Lib.hid ⟨Bl13.new w, balloc w _⟩
  have HMIN := Lib.hid hmin
  clear hA h3 hn ha hK h hK2 hmin
  go_enter Tryz.func159, Tryz.ntmps159
  go_wp2_with fail
  refine (HN.out _).mono ?_
  rintro e w1 ⟨rfl, hw⟩
  subst w1
  clear HN
  have em : min ((a : Int) + 116) (n : Int) = ((a + K : Nat) : Int) := by have := hKc.out; omega
  have ek : a + K - a = K := by omega
  go_upto_region 6 with fail
  rw [ek]
  clear em ek k1 k2 k3 k4 HMIN
  generalize hb0 : w.heap.size = b0 at *
  generalize w.alloc (.cells #[.pointer none, .slice none 0 0] 184) = w2 at *
  have HB0 := Lib.hid hb0
  clear hb0
  go_wp2_with fail
  go_loopw [32] (fun i wr => ∃ j : Nat, j ≤ K ∧ i = .int .i64 j ∧ Hid (∀ x, x < j → l.getD (a + x) 0 ≤ 1023) ∧ Hid (Bl13 b0 (ppN l p j) wr ∧ Below b0 w wr)) (fun i _ => K - (intOf i).toNat)
  case atStart => exact ⟨0, Nat.zero_le _, by go_num, Lib.hid (fun x hx => absurd hx (Nat.not_lt_zero x)), L0⟩
  case round =>
    clear L0
    obtain ⟨j, hj, rfl, HG, HO⟩ := hrel
    by_cases hlt : j < K
    · have c1 : decide ((j : Int) < (K : Int)) = true := by simp; omega
      have c4 : (j : Int) < (K : Int) := by omega
      have c5 : (0 : Int) ≤ (j : Int) := by omega
      have hx0 : wr.cell? ⟨B, o + a + j, none⟩ = some (.int .i64 (l.getD (a + j) 0)) := by
        have := ((HA.out.below (HB0.out ▸ HO.out.2)).one (a + j) (by omega))
        rw [← Nat.add_assoc] at this
        exact this
      obtain ⟨z, hz⟩ : ∃ z, z = l.getD (a + j) 0 := ⟨_, rfl⟩
      have HZ := Lib.hid hz
      rw [← hz] at hx0
      clear hz
      by_cases hbig : 1023 < z
      · have d5 : decide (1023 < z) = true := by simp [hbig]
        have X : ∃ x ∈ partT l p, 1023 < x := by
          have := HP.out j hlt
          obtain ⟨hj2, he⟩ := List.getElem?_eq_some_iff.1 this
          exact ⟨_, List.getElem_mem hj2, by rw [he, ← HZ.out]; exact hbig⟩
        have E2 : Hid (partE l (p : Int) = 2) := Lib.hid (by rw [E.out, if_pos X])
        have E3 : Hid (partO l (p : Int) = ⟨#[]⟩) := Lib.hid (by rw [EO.out, if_pos X])
        have W1 := Lib.hid HO.out.2
        clear X hbig
        go_wp2_with fail
        go_ret2
        exact ⟨by rw [E2.out, E3.out]; rfl, by rw [HB0.out]; exact W1.out⟩
      · have d5 : decide (1023 < z) = false := by simp; omega
        have HJ := Lib.hid hlt
        have HG2 : Hid (∀ x, x < j + 1 → l.getD (a + x) 0 ≤ 1023) := Lib.hid (fun x hx => by
          rcases Nat.lt_succ_iff_lt_or_eq.1 hx with h | rfl
          · exact HG.out x h
          · rw [← HZ.out]; omega)
        have hc : clampP z = max z (-1) := clampP_max z
        have HS : Hid (∀ w, Calls Tryz.prog 154 #[.int .i64 (max z (-1) + 1)] w fun e w' => e = .returned (.string (strOfNums (beI 2 (clampP z + 1)))) ∧ Below w.heap.size w w') := Lib.hid (fun w => by
          rw [hc]
          exact pshort_any _ (by omega) (by omega) w)
        have ESJ : Hid (ppN l p (j + 1) = ppN l p j ++ beI 2 (clampP z + 1)) := Lib.hid (by rw [ES.out j hlt, ← HZ.out])
        have hm1 : wrap64 (max z (-1) + 1) = max z (-1) + 1 := by unfold wrap64; omega
        have hsz : Hid (b0 ≤ wr.heap.size) := Lib.hid (by rw [← HB0.out]; exact HO.out.2.size)
        have hlen : Hid ((ppN l p j).length + (beI 2 (clampP z + 1)).length ≤ 100000) := Lib.hid (by rw [EN.out j hj, beI_len]; omega)
        clear hc hbig hlt
        go_wp2_with fail
        refine (HS.out _).mono ?_
        rintro e w3 ⟨rfl, hb⟩
        have HW := Lib.hid ((HO.out.1.below hb).write (by have := hb.size; have := hsz.out; omega) (beI 2 (clampP z + 1)) hlen.out)
        have B3 := Lib.hid (HO.out.2.trans (hb.mono hsz.out))
        clear hb HS HO
        generalize clampP z = cz at *
        go_wp2_with fail
        refine (HW.out).mono ?_
        rintro e w4 ⟨⟨ve, rfl⟩, h4, hb4⟩
        have O4 : Hid (Bl13 b0 (ppN l p (j + 1)) w4 ∧ Below b0 w w4) := Lib.hid ⟨ESJ.out ▸ h4, B3.out.trans hb4⟩
        clear h4 hb4 HW B3
        go_wp2_with fail
        go_roundw
        case rel => have := HJ.out; exact ⟨j + 1, by omega, by go_num, HG2, O4⟩
        case measure => have := HJ.out; simp [intOf]; omega
    · obtain rfl : j = K := by omega
      have c1 : decide ((j : Int) < (j : Int)) = false := by simp
      have X : ¬ ∃ x ∈ partT l p, 1023 < x := fun ⟨x, hx, hgt⟩ => by
        obtain ⟨i, hi, rfl⟩ := HPI.out x hx
        have := HG.out i hi
        omega
      have E2 : Hid (partE l (p : Int) = 0) := Lib.hid (by rw [E.out, if_neg X])
      have E3 : Hid (partO l (p : Int) = strOfNums (ppN l p j)) := Lib.hid (by rw [EO.out, if_neg X, EA.out])
      have HX := Lib.hid (HO.out.1.text (by rw [← HB0.out]; exact HO.out.2.size))
      clear X
      go_wp2_with fail
      refine (HX.out).mono ?_
      rintro e w3 ⟨rfl, hb⟩
      have B3 := Lib.hid (HO.out.2.trans hb)
      clear hb HX
      go_wp2_with fail
      go_ret2
      exact ⟨by rw [E2.out, E3.out]; rfl, by rw [HB0.out]; exact B3.out⟩
theorem pputpart_any (l : List Int) (v : Value) (p : Int) (u : World) (hv : LstI l v u) (hl : l.length ≤ 700) (hp : big64 p) : Calls Tryz.prog 159 #[v, .int .i64 p] u fun r u' => r = .returned (.tuple #[.string (partO l p), .int .i64 (partE l p)]) ∧ Below u.heap.size u u' := by
  by_cases h : p < 0 ∨ needR (l.length : Int) ≤ p
  · have E : partE l p = 3 := by unfold partE; rw [if_pos h]
    have EO : partO l p = ⟨#[]⟩ := by unfold partO; rw [E]; rfl
    refine (pputpart_bad l v p u hv hp h).mono ?_
    rintro r u' ⟨rfl, rfl⟩
    exact ⟨by rw [E, EO], Below.refl _ _⟩
  · obtain ⟨k, rfl⟩ : ∃ k : Nat, p = (k : Int) := ⟨p.toNat, by omega⟩
    exact pputpart_go l v k u hv (by omega) (by omega)

end Go.Proofs.YtdpmpmaepjgndaaGreat
