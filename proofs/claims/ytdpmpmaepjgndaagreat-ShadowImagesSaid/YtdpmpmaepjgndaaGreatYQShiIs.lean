/- A store that the program's Open found on whatever disk: all its pages pass their checks. -/
import Derived.Test.YtdpmpmaepjgndaaGreatYQShImagesW
import Derived.Test.YtdpmpmaepjgndaaGreatYQShrIs
import Derived.Test.YtdpmpmaepjgndaaGreatYZ42
import Derived.Test.YtdpmpmaepjgndaaGreatYZ34
namespace Go.Proofs.YtdpmpmaepjgndaaGreat
open Go.RowKit Go.Deep
set_option linter.unusedVariables false
set_option linter.unusedSimpArgs false
set_option maxRecDepth 100000

/-- a physical page that was read, of that kind -/
def PgI (d : Dk) (ep id kd : Int) : Prop := readPE d id = 0 ∧ (readPP d id).kd = kd ∧ (readPP d id).ep ≤ ep
theorem PgI.inn {d : Dk} {ep id kd : Int} (h : PgI d ep id kd) : 0 ≤ id ∧ PgIn d ep id.toNat ∧ (tellP (pageS d id.toNat)).kd = kd := by
  obtain ⟨h1, h2, h3⟩ := h
  have hin : ¬ (id < 0 ∨ manyP d.n ≤ id) := fun c => by
    unfold readPE at h1
    rw [if_pos c] at h1
    exact absurd h1 (by decide)
  have hdn : ¬ d.down = true := fun c => by
    unfold readPE at h1
    rw [if_neg hin, if_pos c] at h1
    exact absurd h1 (by decide)
  have hg : getE (pageS d id.toNat) = 0 := by
    unfold readPE at h1
    rw [if_neg hin, if_neg hdn] at h1
    split at h1
    · rename_i c; exact c
    · exact h1
  have hid : (getP (pageS d id.toNat)).id = id := by
    unfold readPE at h1
    rw [if_neg hin, if_neg hdn, if_pos hg] at h1
    split at h1
    · rename_i c; exact c
    · exact absurd h1 (by decide)
  have ht : getP (pageS d id.toNat) = tellP (pageS d id.toNat) := by unfold getP; rw [if_pos hg]
  have hp : readPP d id = tellP (pageS d id.toNat) := by unfold readPP; rw [if_pos h1, ht]
  rw [hp] at h2 h3
  rw [ht] at hid
  have hm := many_in (id := id) (n := d.n) (by omega) (by omega)
  exact ⟨by omega, ⟨by omega, hg, by rw [hid]; omega, h3⟩, h2⟩
def PIx : ImM := fun base D P d ep pl u => ∃ bS bm cS n M K slot T parts vp SK, StoM base D P M bS bm cS d n K ep slot (atL T) T parts vp SK u ∧ d.down = false ∧ d.n ≤ 4096 ∧ pl = listT (atL T) 512 ∧ parts.length ≤ 5 ∧ (∀ p ∈ parts, PgI d ep p 1) ∧ ∀ l ∈ pl, PgI d ep (atL T l) 2
theorem LoadOk.pages {d : Dk} {n : Nat} {ep lg : Int} {parts : List Int} (h : LoadOk d n ep lg parts) : (∀ p ∈ parts, PgI d ep p 1) ∧ ∀ l ∈ listT (atL (tabF d lg parts parts.length)) 512, PgI d ep (atL (tabF d lg parts parts.length) l) 2 := by
  constructor
  · intro p hp
    obtain ⟨i, hi, rfl⟩ := List.getElem_of_mem hp
    have := (h.part i hi).1
    rw [List.getD_eq_getElem?_getD, List.getElem?_eq_getElem hi] at this
    exact ⟨this.1, this.2.1, this.2.2.1⟩
  · intro l hl
    have hg := h.page
    generalize tabF d lg parts parts.length = T at *
    generalize listT (atL T) 512 = L at *
    obtain ⟨i, hi, rfl⟩ := List.getElem_of_mem hl
    have := hg i hi
    rw [show L.getD i 0 = L[i] by rw [List.getD_eq_getElem?_getD, List.getElem?_eq_getElem hi]; rfl] at this
    exact ⟨this.1, this.2.1, this.2.2.1⟩
section
variable {base D P : Nat} {d : Dk} {ep : Int} {pl : List Nat} {u u2 : World}
theorem pix_below (h : PIx base D P d ep pl u) (k : Below u.heap.size u u2) : PIx base D P d ep pl u2 := by
  obtain ⟨bS, bm, cS, n, M, K, slot, T, parts, vp, SK, hm, h1⟩ := h
  exact ⟨bS, bm, cS, n, M, K, slot, T, parts, vp, SK, hm.below k, h1⟩
theorem i_open {bS bm cS : Nat} (h : PDk base D bS bm cS d u) (hd : DkOk d) (hb : base ≤ u.heap.size) : Calls Tryz.prog 25 #[.pointer (some ⟨D, 0, none⟩)] u fun r u' => Below u.heap.size u u' ∧ ((∃ e, r = .returned (.tuple #[.pointer none, .int .i64 e]) ∧ (e = 14 ∨ (e = 3 ∧ d.n < 2))) ∨ ∃ P ep pl, r = .returned (.tuple #[.pointer (some ⟨P, 0, none⟩), .int .i64 0]) ∧ PIx base D P d ep pl u') := by
  have hmb := many_bd (n := d.n) hd.2.2.2.1
  obtain ⟨n, hn⟩ : ∃ n : Nat, (n : Int) = manyP d.n := ⟨(manyP d.n).toNat, by omega⟩
  refine (sopen_any h hd.1 hd.2.2.1 hd.2.2.2.1 (by omega) hn hb).mono ?_
  rintro r u' ⟨hbl, ⟨h2, hr⟩ | ⟨_, _, _, hr⟩ | ⟨_, y, sl, _, _, hr⟩ | ⟨_, y, sl, hL, hok, P, M, SK, vp, hr, hst, hall⟩⟩
  · exact ⟨hbl, .inl ⟨3, hr, .inr ⟨rfl, h2⟩⟩⟩
  · exact ⟨hbl, .inl ⟨14, hr, .inl rfl⟩⟩
  · exact ⟨hbl, .inl ⟨14, hr, .inl rfl⟩⟩
  · obtain ⟨p1, p2⟩ := hok.pages
    exact ⟨hbl, .inr ⟨P, y.ep, _, hr, bS, bm, cS, n, M, _, sl, tabR d y, y.parts, vp, SK, hst, hd.1, hd.2.2.2.1, rfl, hL.right.1.few, p1, p2⟩⟩
theorem i_reach (h : PIx base D P d ep pl u) : Calls Tryz.prog 14 #[.pointer (some ⟨P, 0, none⟩)] u fun r u' => ∃ v l, r = .returned v ∧ NewL u.heap.size l v u' ∧ Below u.heap.size u u' ∧ ∀ i ∈ l, PgIn d ep i ∧ ((tellP (pageS d i)).kd = 1 ∨ (tellP (pageS d i)).kd = 2) := by
  obtain ⟨bS, bm, cS, n, M, K, slot, T, parts, vp, SK, hm, hd, hn, hpl, h5, hp1, hp2⟩ := h
  have hs := sreach_m hm (by omega)
  rw [← hpl] at hs
  refine hs.mono ?_
  rintro r u' ⟨v, hr, ho, hb⟩
  have hmem : ∀ z, z ∈ upI (allR T parts pl) → PgI d ep z 1 ∨ PgI d ep z 2 := fun z hz => by
    have hz2 := (upI_perm _).mem_iff.1 hz
    unfold allR at hz2
    rcases List.mem_append.1 hz2 with c | c
    · exact .inl (hp1 z c)
    · obtain ⟨k, hk, ek⟩ := List.mem_map.1 c
      right
      rw [← ek]
      exact hp2 k hk
  clear hs
  generalize upI (allR T parts pl) = zs at *
  have z0 : ∀ z ∈ zs, 0 ≤ z := fun z hz => (hmem z hz).elim (fun c => c.inn.1) fun c => c.inn.1
  refine ⟨v, zs.map Int.toNat, hr, newL_of ho z0, hb, fun i hi => ?_⟩
  obtain ⟨z, hz, rfl⟩ := List.mem_map.1 hi
  rcases hmem z hz with c | c
  · exact ⟨c.inn.2.1, .inl c.inn.2.2⟩
  · exact ⟨c.inn.2.1, .inr c.inn.2.2⟩
theorem shi_is : Sh14I PMx PIx where
  disk := fun h => by
    obtain ⟨M, bS, bm, cS, d, n, K, tb, ot, parts, slot, vp, SK, h, rfl⟩ := h
    exact ⟨bS, bm, cS, d, h.m.dk, h.h.dn, h.arm, h.h.ok.n.1, h.dn, h.cl⟩
  «open» := fun h hd hb => i_open h hd hb
  below := pix_below
  reach := fun h hb => i_reach h
  epoch := fun h hb => by
    obtain ⟨bS, bm, cS, n, M, K, slot, T, parts, vp, SK, hm, _⟩ := h
    refine (sepoch_any hm).mono ?_
    rintro r w ⟨h1, rfl⟩
    exact ⟨h1, Below.refl _ _⟩
  pages := fun h hb => by
    obtain ⟨bS, bm, cS, n, M, K, slot, T, parts, vp, SK, hm, _, _, hpl, _⟩ := h
    have hs := sthere_any hm
    rw [← hpl] at hs
    exact hs
  read := fun i h hb hi => by
    obtain ⟨bS, bm, cS, n, M, K, slot, T, parts, vp, SK, hm, hd, hn, hpl, h5, hp1, hp2⟩ := h
    have hp := hp2 i hi
    rw [hpl] at hi
    have hl := mem_listT.1 hi
    refine (sread_in hm hn hl.1 hl.2 (readPP _ (atL T i)).id (readPP _ (atL T i)).ep (readPP _ (atL T i)).kd (readPP _ (atL T i)).pay hp.1 rfl).mono ?_
    rintro r w ⟨h1, h2⟩
    exact ⟨⟨_, h1⟩, h2⟩
end

end Go.Proofs.YtdpmpmaepjgndaaGreat
