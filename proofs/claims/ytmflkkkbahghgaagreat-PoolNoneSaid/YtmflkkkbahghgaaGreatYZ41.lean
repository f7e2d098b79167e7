/- The program's store: take so many pages, leave pages. A store's own cells written one by one: the committed table, epoch, slot, parts. The program's settle: a root that is safe is what was committed. -/
import Derived.Test.YtmflkkkbahghgaaGreatYZ34
import Derived.Test.YtmflkkkbahghgaaGreatYZ16
import Derived.Test.YtmflkkkbahghgaaGreatYZ40
import Derived.Test.YtmflkkkbahghgaaGreatYZ5
import Derived.Test.YtmflkkkbahghgaaGreatYZ3
import Derived.Test.YtmflkkkbahghgaaGreatYZ35
namespace Go.Proofs.YtmflkkkbahghgaaGreat
open Go.RowKit Go.Deep
set_option linter.unusedVariables false
set_option linter.unusedSimpArgs false
set_option maxRecDepth 100000

/-- the map when m pages were taken -/
def tkK (n : Nat) (K : Nat → Nat) : Nat → Nat → Nat
  | 0 => K
  | m + 1 => takeF n (tkK n K m)
def tkL (n : Nat) (K : Nat → Nat) (m : Nat) : List Int := (List.range m).map fun i => takeI n (tkK n K i)
theorem tkL_len (n : Nat) (K : Nat → Nat) (m : Nat) : (tkL n K m).length = m := by simp [tkL]
theorem tkL_at (n : Nat) (K : Nat → Nat) {m i : Nat} (h : i < m) : (tkL n K m)[i]'(by rw [tkL_len]; exact h) = takeI n (tkK n K i) := by simp [tkL]
theorem tkL_succ (n : Nat) (K : Nat → Nat) (m : Nat) : tkL n K (m + 1) = tkL n K m ++ [takeI n (tkK n K m)] := by
  unfold tkL
  rw [List.range_succ, List.map_append]
  rfl
theorem cnt_fupd {K : Nat → Nat} {p : Nat} (h : K p = 0) : ∀ n, cntF (fupd K p 2) 0 n + (if p < n then 1 else 0) = cntF K 0 n
  | 0 => rfl
  | n + 1 => by
    have ih := cnt_fupd h n
    rw [cntF_succ, cntF_succ]
    by_cases c : p = n
    · subst c
      rw [if_neg (Nat.lt_irrefl _)] at ih
      rw [fupd_at, if_neg (by decide), if_pos (by omega), h, if_pos rfl]
      omega
    · rw [fupd_else _ _ _ _ (fun e => c e.symm)]
      by_cases c2 : p < n
      · rw [if_pos c2] at ih
        rw [show (if p < n + 1 then 1 else 0) = 1 from if_pos (by omega)]
        generalize (if K n = 0 then 1 else 0) = z at *
        omega
      · rw [if_neg c2] at ih
        rw [show (if p < n + 1 then 1 else 0) = 0 from if_neg (by omega)]
        generalize (if K n = 0 then 1 else 0) = z at *
        omega
theorem getD_in9 {l : List Int} {i : Nat} (hi : i < l.length) : l.getD i 0 = l[i] := by rw [List.getD_eq_getElem?_getD, List.getElem?_eq_getElem hi]; rfl
structure TkF (n : Nat) (K : Nat → Nat) (m : Nat) : Prop where
  inn : ∀ p ∈ tkL n K m, 0 ≤ p ∧ p < (n : Int) ∧ K p.toNat = 0
  apart : (tkL n K m).Pairwise (· ≠ ·)
  map : ∀ q, tkK n K m q = if (q : Int) ∈ tkL n K m then 2 else K q
  cnt : cntF (tkK n K m) 0 n + m = cntF K 0 n
theorem tk_first {n : Nat} {K : Nat → Nat} {m : Nat} (h : cntF (tkK n K m) 0 n + m = cntF K 0 n) (hm : m + 1 ≤ cntF K 0 n) : firstN (tkK n K m) n < n := cnt0_first.2 (by omega)
theorem tk_facts (n : Nat) (K : Nat → Nat) : ∀ m, m ≤ cntF K 0 n → TkF n K m
  | 0, _ => ⟨fun p hp => by simp [tkL] at hp, by simp [tkL], fun q => by simp [tkL, tkK], rfl⟩
  | m + 1, hm => by
    have ih := tk_facts n K m (by omega)
    have hf := tk_first ih.cnt hm
    have h0 := firstN_some hf
    have eI : takeI n (tkK n K m) = (firstN (tkK n K m) n : Int) := by unfold takeI; rw [if_pos hf]
    have eK : tkK n K (m + 1) = fupd (tkK n K m) (firstN (tkK n K m) n) 2 := by show takeF n (tkK n K m) = _; unfold takeF; rw [if_pos hf]
    generalize firstN (tkK n K m) n = p at *
    have hmp := ih.map p
    rw [h0] at hmp
    have hno : (p : Int) ∉ tkL n K m := fun h => by rw [if_pos h] at hmp; cases hmp
    rw [if_neg hno] at hmp
    refine ⟨fun q hq => ?_, ?_, fun q => ?_, ?_⟩
    · rw [tkL_succ, eI, List.mem_append, List.mem_singleton] at hq
      rcases hq with h | rfl
      · exact ih.inn q h
      · exact ⟨by omega, by omega, by rw [Int.toNat_natCast]; exact hmp.symm⟩
    · rw [tkL_succ, eI, List.pairwise_append]
      refine ⟨ih.apart, by simp, fun a ha b hb e => ?_⟩
      rw [List.mem_singleton] at hb
      exact hno (by rw [← hb, ← e]; exact ha)
    · rw [eK, tkL_succ, eI]
      unfold fupd
      by_cases c : q = p
      · rw [if_pos c, if_pos (List.mem_append_right _ (by rw [c]; exact List.mem_singleton.2 rfl))]
      · rw [if_neg c, ih.map q]
        have : ((q : Int) ∈ tkL n K m ++ [(p : Int)]) = ((q : Int) ∈ tkL n K m) := by
          apply propext
          rw [List.mem_append, List.mem_singleton]
          exact ⟨fun h => h.elim id fun e => absurd (by omega) c, .inl⟩
        simp only [this]
    · have := cnt_fupd h0 n
      rw [if_pos hf] at this
      rw [eK]
      have := ih.cnt
      omega
section
variable {base D P M bS bm cS n : Nat} {d : Dk} {K : Nat → Nat} {ep : Int} {slot : Nat} {tb : Nat → Int} {ot parts0 : List Int} {vp : Value} {SK : Nat → Bool} {u u2 : World}
set_option maxHeartbeats 1600000 in
theorem stake_any (h : StoM base D P M bS bm cS d n K ep slot tb ot parts0 vp SK u) (hn : n ≤ 1024) (m : Nat) (hm : m ≤ 5) : Calls Tryz.prog 91 #[.pointer (some ⟨P, 0, none⟩), .int .i64 (m : Int)] u fun r u' => ∃ g SK2, r = .returned (.slice (some ⟨g, 0, none⟩) m m) ∧ u.heap.size ≤ g ∧ g < u'.heap.size ∧ LstI (tkL n K m) (.slice (some ⟨g, 0, none⟩) m m) u' ∧ (∀ k, SK2 k = true → SK k = true ∨ u.heap.size ≤ k) ∧ SK2 g = false ∧ KpS SK u u' ∧ StoM base D P M bS bm cS d n (tkK n K m) ep slot tb ot parts0 vp SK2 u' := by
  obtain ⟨i0, hi0, hz0, hz1, hz2⟩ := info_parts infoInt13
  have HH := Lib.hid h
  have HM := Lib.hid hm
  have SLO := Lib.hid h.s_lo
  clear h
  go_enter Tryz.func91, Tryz.ntmps91
  go_wp2_with (at_make; refine wpList_make_full _ rfl _ _ _ rfl u.heap.size 3 i0 (.int .i64 0) 1 Tryz.underlying38 hi0 hz0 hz1 .i64 .i64 _ _ m rfl rfl (by omega) (by omega) (by rw [hz2]; omega) (by unfold maxLen; omega) (Nat.le_refl _) ?_)
  intro w2 hown hgr
  obtain ⟨A0, hA0, hAs⟩ : ∃ A, w2.heap[u.heap.size]? = some (.cells A 3 (0, 0)) ∧ A.size = m := by
    rcases hown.2 with ⟨e, _⟩ | ⟨g, cap, cur, e, hb, hg, hc, hmx, hcs, _⟩
    · cases e
    · simp only [Value.slice.injEq, Option.some.injEq, Addr.mk.injEq, and_true] at e
      obtain ⟨e1, _, e3⟩ := e
      rw [e1]
      exact ⟨cur, hg, by omega⟩
  have B2 := Lib.hid ((Below.refl u.heap.size u).grown hgr (Nat.le_refl _) (by simp))
  have M2 := Lib.hid (HH.out.below B2.out)
  obtain ⟨g, hge⟩ : ∃ g, g = u.heap.size := ⟨_, rfl⟩
  rw [← hge] at hA0 ⊢
  have HG := Lib.hid hge
  have HGS : Hid (stoS P D bS bm SK vp g = false) := Lib.hid (by
    cases c : stoS P D bS bm SK vp g with
    | false => rfl
    | true => have := (SLO.out g c).2; omega)
  have HA0 := Lib.hid (And.intro hA0 hAs)
  clear hown hgr hA0 hAs hge
  go_wp2_with fail
  go_loopw [11] (fun i wr => ∃ j : Nat, j ≤ m ∧ i = .int .i64 j ∧ ∃ SKj, Hid (StoM base D P M bS bm cS d n (tkK n K j) ep slot tb ot parts0 vp SKj wr) ∧ Hid (∀ k, SKj k = true → SK k = true ∨ u.heap.size ≤ k) ∧ Hid (stoS P D bS bm SKj vp g = false) ∧ Hid (KpS SK u wr) ∧ Hid (∃ A, wr.heap[g]? = some (.cells A 3 (0, 0)) ∧ A.size = m ∧ ∀ i, i < j → A[i]? = some (.int .i64 (takeI n (tkK n K i))))) (fun i _ => m - (intOf i).toNat)
  case atStart => exact ⟨0, Nat.zero_le _, rfl, SK, M2, Lib.hid (fun k hk => .inl hk), HGS, Lib.hid (KpS.of B2.out), Lib.hid ⟨A0, HA0.out.1, HA0.out.2, fun i hi => absurd hi (Nat.not_lt_zero i)⟩⟩
  case round =>
    obtain ⟨j, hj, rfl, SKj, HMj, HNj, HGj, HKj, HAj⟩ := hrel
    obtain ⟨A, hA, hAs, hAl⟩ := HAj.out
    by_cases hlt : j < m
    · have hj1 : (j : Int) < (m : Int) := by omega
      have hj2 : (0 : Int) ≤ (j : Int) := by omega
      have d1 : decide ((j : Int) < (m : Int)) = true := by rw [decide_eq_true_eq]; omega
      have d2 : decide (j < m) = true := by rw [decide_eq_true_eq]; omega
      have HLT := Lib.hid hlt
      have HT := Lib.hid (sto_take HMj.out hn)
      have HAA := Lib.hid (And.intro hA (And.intro hAs hAl))
      obtain ⟨c0, c3, c4, c5, c6, c7, cf⟩ := HMj.out.look
      obtain ⟨z, hz⟩ : ∃ z, takeI n (tkK n K j) = z := ⟨_, rfl⟩
      obtain ⟨ze, hze⟩ : ∃ ze, takeE n (tkK n K j) = ze := ⟨_, rfl⟩
      rw [hz, hze] at HT
      have HZ := Lib.hid hz
      clear hA hAs hAl hlt hz hze c0 c4 c5 c6 c7 cf
      go_wp2_with fail
      refine (HT.out).mono ?_
      rintro r w3 ⟨rfl, SK3, hs3, k3, hm3⟩
      have HGN := stoS_no HGj.out
      have hgl : g < wr.heap.size := lt_of_block HAA.out.1
      have hA3 : w3.heap[g]? = some (.cells A 3 (0, 0)) := (k3.blk hgl HGN.2.2.1).trans HAA.out.1
      have hG3 : stoS P D bS bm SK3 vp g = false := stoS_up HGj.out hgl hs3
      have HG3 := Lib.hid hG3
      have ks : KpS (fun q => q == g) w3 (w3.setCell ⟨g, j, none⟩ (.int .i64 z)) := KpS.set (b := g) (by simp) j _ w3
      have M4 : Hid (StoM base D P M bS bm cS d n (tkK n K (j + 1)) ep slot tb ot parts0 vp SK3 (w3.setCell ⟨g, j, none⟩ (.int .i64 z))) := Lib.hid (hm3.kept (fun k hk => by
        have : k ≠ g := fun e => by rw [e, hG3] at hk; cases hk
        simpa using this) ks)
      have N4 : Hid (∀ k, SK3 k = true → SK k = true ∨ u.heap.size ≤ k) := Lib.hid (fun k hk => by
        rcases hs3 k hk with e | e
        · exact HNj.out k e
        · exact .inr (Nat.le_trans HKj.out.size e))
      have K4 : Hid (KpS SK u (w3.setCell ⟨g, j, none⟩ (.int .i64 z))) := Lib.hid (kps_new (S2 := fun q => SKj q || q == g) (fun q hq => by
        simp only [Bool.or_eq_true, beq_iff_eq] at hq
        rcases hq with hq | rfl
        · exact HNj.out q hq
        · exact .inr (by rw [HG.out]; exact Nat.le_refl _)) HKj.out ((k3.mono (fun q hq => by simp [hq])).trans (ks.mono fun q hq => by simp at hq; simp [hq])))
      have A4 : Hid (∃ A, (w3.setCell ⟨g, j, none⟩ (.int .i64 z)).heap[g]? = some (.cells A 3 (0, 0)) ∧ A.size = m ∧ ∀ i, i < j + 1 → A[i]? = some (.int .i64 (takeI n (tkK n K i)))) := Lib.hid (by
        refine ⟨_, Joins.block_setCell (i := j) hA3 _, by rw [Array.size_setIfInBounds]; exact HAA.out.2.1, fun i hi => ?_⟩
        rw [Array.getElem?_setIfInBounds]
        by_cases c : j = i
        · subst c
          rw [if_pos rfl, if_pos (by rw [HAA.out.2.1]; exact HLT.out), HZ.out]
        · rw [if_neg c]; exact HAA.out.2.2 i (by omega))
      have hc : ∃ v, w3.cell? ⟨g, j, none⟩ = some v := by
        rw [Lib.cell_of_heap hA3, Array.getElem?_eq_getElem (by rw [HAA.out.2.1]; exact HLT.out)]
        exact ⟨_, rfl⟩
      obtain ⟨v0, hc⟩ := hc
      have hf : w3.frozen? ⟨g, j, none⟩ = false := Lib.frozen_of_heap hA3 j
      clear hs3 k3 hm3 HT HGN hgl hA3 hG3 ks c3
      go_wp2_with fail
      go_roundw
      case rel => have := HLT.out; exact ⟨j + 1, by omega, by go_num, SK3, M4, N4, HG3, K4, A4⟩
      case measure => have := HLT.out; simp [intOf]; omega
    · have ej : j = m := by omega
      have d1 : decide ((j : Int) < (m : Int)) = false := by rw [decide_eq_false_iff_not]; omega
      have d2 : decide (j < m) = false := by rw [decide_eq_false_iff_not]; omega
      have FIN : Hid (LstI (tkL n K m) (.slice (some ⟨g, 0, none⟩) m m) wr ∧ g < wr.heap.size) := Lib.hid (by
        refine ⟨⟨some ⟨g, 0, none⟩, m, by rw [tkL_len], by rw [tkL_len]; exact Nat.le_refl _, by omega, fun _ => ⟨g, 0, rfl, lt_of_block hA, fun i hi k hk => ?_⟩⟩, lt_of_block hA⟩
        obtain rfl : k = 0 := by omega
        rw [tkL_len] at hi
        rw [Nat.mul_one, Nat.zero_add, Nat.add_zero, Lib.cell_of_heap hA, hAl i (by omega)]
        show _ = some (Value.int .i64 ((tkL n K m).getD i 0))
        rw [getD_in9 (by rw [tkL_len]; exact hi), tkL_at n K hi])
      rw [ej] at HMj
      clear hlt ej hj hA hAs hAl
      go_wp2_with fail
      go_ret
      exact ⟨g, SKj, rfl, by rw [HG.out]; exact Nat.le_refl _, FIN.out.2, FIN.out.1, HNj.out, (stoS_no HGj.out).2.2.1, HKj.out, HMj.out⟩
/-- the map when these pages were left -/
def lvK (n : Nat) (K : Nat → Nat) (l : List Int) : Nat → Nat := l.foldl (leaveF n) K
set_option maxHeartbeats 1600000 in
theorem sleave_any {l : List Int} {v : Value} (h : StoM base D P M bS bm cS d n K ep slot tb ot parts0 vp SK u) (hn : n ≤ 1024) (hl : LstI l v u) (h5 : l.length ≤ 1000) (hv : ∀ g, v.ownBlock = some g → g < u.heap.size ∧ SK g = false) : Calls Tryz.prog 94 #[.pointer (some ⟨P, 0, none⟩), v] u fun r u' => r = .returned (.tuple #[]) ∧ ∃ SK2, (∀ k, SK2 k = true → SK k = true ∨ u.heap.size ≤ k) ∧ KpS SK u u' ∧ StoM base D P M bS bm cS d n (lvK n K l) ep slot tb ot parts0 vp SK2 u' := by
  have HH := Lib.hid h
  have HL := Lib.hid hl
  have HV := Lib.hid hv
  obtain ⟨ao, cap, rfl, hc1, hc2, _⟩ := hl
  clear h hv
  go_enter Tryz.func94, Tryz.ntmps94
  go_wp2_with fail
  go_loopw [8] (fun i wr => ∃ j : Nat, j ≤ l.length ∧ i = .int .i64 j ∧ ∃ SKj, Hid (StoM base D P M bS bm cS d n (lvK n K (l.take j)) ep slot tb ot parts0 vp SKj wr) ∧ Hid (∀ k, SKj k = true → SK k = true ∨ u.heap.size ≤ k) ∧ Hid (KpS SK u wr) ∧ Hid (LstI l (.slice ao l.length cap) wr)) (fun i _ => l.length - (intOf i).toNat)
  case atStart => exact ⟨0, Nat.zero_le _, rfl, SK, Lib.hid (by rw [List.take_zero]; exact HH.out), Lib.hid (fun k hk => .inl hk), Lib.hid (KpS.refl _ _), HL⟩
  case round =>
    obtain ⟨j, hj, rfl, SKj, HMj, HNj, HKj, HLj⟩ := hrel
    by_cases hlt : j < l.length
    · have hj1 : (j : Int) < (l.length : Int) := by omega
      have hj2 : (0 : Int) ≤ (j : Int) := by omega
      have d1 : decide ((j : Int) < (l.length : Int)) = true := by rw [decide_eq_true_eq]; omega
      have d2 : decide (j < l.length) = true := by rw [decide_eq_true_eq]; omega
      have HLT := Lib.hid hlt
      obtain ⟨_, _, e9, _, _, hsl⟩ := HLj.out
      obtain ⟨b, o, hao, hA⟩ := hsl (by omega)
      simp only [Value.slice.injEq, true_and] at e9
      obtain ⟨rfl, rfl⟩ := e9
      subst hao
      have hcell : wr.cell? ⟨b, o + j, none⟩ = some (.int .i64 (l.getD j 0)) := hA.one j hlt
      obtain ⟨z, hz⟩ : ∃ z, l.getD j 0 = z := ⟨_, rfl⟩
      rw [hz] at hcell
      have hzl : l[j] = z := by rw [← hz]; exact (getD_in9 hlt).symm
      have HT := Lib.hid (sto_leave HMj.out hn z)
      have HZ := Lib.hid hzl
      obtain ⟨c0, c3, c4, c5, c6, c7, cf⟩ := HMj.out.look
      clear hlt hz hzl hA hsl c0 c4 c5 c6 c7 cf
      go_wp2_with fail
      refine (HT.out).mono ?_
      rintro r w3 ⟨rfl, SK3, hs3, k3, hm3⟩
      have M4 : Hid (StoM base D P M bS bm cS d n (lvK n K (l.take (j + 1))) ep slot tb ot parts0 vp SK3 w3) := Lib.hid (by
        unfold lvK
        rw [List.take_add_one, List.getElem?_eq_getElem HLT.out, show l[j]'HLT.out = z from HZ.out, List.foldl_append]
        exact hm3)
      have N4 : Hid (∀ k, SK3 k = true → SK k = true ∨ u.heap.size ≤ k) := Lib.hid (fun k hk => by
        rcases hs3 k hk with e | e
        · exact HNj.out k e
        · exact .inr (Nat.le_trans HKj.out.size e))
      have K4 : Hid (KpS SK u w3) := Lib.hid (kps_new (S2 := SKj) HNj.out HKj.out k3)
      have L4 : Hid (LstI l (.slice (some ⟨b, o, none⟩) l.length cap) w3) := Lib.hid (HLj.out.kps (fun g hg => by
        have h9 := HV.out g hg
        cases c : SKj g with
        | false => rfl
        | true =>
          rcases HNj.out g c with e | e
          · rw [h9.2] at e; cases e
          · omega) k3)
      clear hs3 k3 hm3 HT c3 hcell
      go_wp2_with fail
      go_roundw
      case rel => have := HLT.out; exact ⟨j + 1, by omega, by go_num, SK3, M4, N4, K4, L4⟩
      case measure => have := HLT.out; simp [intOf]; omega
    · have ej : j = l.length := by omega
      have d1 : decide ((j : Int) < (l.length : Int)) = false := by rw [decide_eq_false_iff_not]; omega
      have d2 : decide (j < l.length) = false := by rw [decide_eq_false_iff_not]; omega
      rw [ej, List.take_length] at HMj
      clear hlt ej hj
      go_wp2_with fail
      go_end0
      exact ⟨rfl, SKj, HNj.out, HKj.out, HMj.out⟩
end

end Go.Proofs.YtmflkkkbahghgaaGreat
namespace Go.Proofs.YtmflkkkbahghgaaGreat
open Go.RowKit Go.Deep
set_option linter.unusedVariables false
set_option linter.unusedSimpArgs false
set_option maxRecDepth 100000

section
variable {D M : Nat} {ep : Int} {slot : Nat} {f g : Nat → Int} {vp : Value} {A : Array Value}
theorem StoA.setOld (h : StoA D M ep slot f g vp A) (k : Nat → Int) : StoA D M ep slot f k vp (putA A 513 (tabL k)) := by
  have lo : ∀ i, i < 513 → (putA A 513 (tabL k))[i]? = A[i]? := fun i hi => putA_out _ _ _ _ (.inl hi)
  have hi : ∀ i, 1025 ≤ i → (putA A 513 (tabL k))[i]? = A[i]? := fun i hi => putA_out _ _ _ _ (.inr (by rw [tabL_len]; omega))
  refine ⟨by rw [putA_size]; exact h.sz, by rw [lo _ (by omega)]; exact h.c0, fun l hl => by rw [lo _ (by omega)]; exact h.now l hl, fun l hl => ?_, by rw [hi _ (by omega)]; exact h.cm, by rw [hi _ (by omega)]; exact h.ce, by rw [hi _ (by omega)]; exact h.cs, by rw [hi _ (by omega)]; exact h.cp, by rw [hi _ (by omega)]; exact h.cb⟩
  rw [putA_in _ _ _ _ (by rw [tabL_len]; exact hl) (by rw [tabL_len, h.sz]; omega), tabL_at _ hl]
theorem set_ne {i j : Nat} (v : Value) (h : i ≠ j) : (A.setIfInBounds j v)[i]? = A[i]? := by rw [Array.getElem?_setIfInBounds, if_neg (fun e => h e.symm)]
theorem set_eq {j : Nat} (v : Value) (h : j < A.size) : (A.setIfInBounds j v)[j]? = some v := by rw [Array.getElem?_setIfInBounds, if_pos rfl, if_pos h]
theorem StoA.setEp (h : StoA D M ep slot f g vp A) (e : Int) : StoA D M e slot f g vp (A.setIfInBounds 1026 (.int .i64 e)) :=
  ⟨by rw [Array.size_setIfInBounds]; exact h.sz, by rw [set_ne _ (by omega)]; exact h.c0, fun l hl => by rw [set_ne _ (by omega)]; exact h.now l hl, fun l hl => by rw [set_ne _ (by omega)]; exact h.old l hl, by rw [set_ne _ (by omega)]; exact h.cm, set_eq _ (by rw [h.sz]; omega), by rw [set_ne _ (by omega)]; exact h.cs, by rw [set_ne _ (by omega)]; exact h.cp, by rw [set_ne _ (by omega)]; exact h.cb⟩
theorem StoA.setSlot (h : StoA D M ep slot f g vp A) (s : Nat) : StoA D M ep s f g vp (A.setIfInBounds 1027 (.int .i64 (s : Int))) :=
  ⟨by rw [Array.size_setIfInBounds]; exact h.sz, by rw [set_ne _ (by omega)]; exact h.c0, fun l hl => by rw [set_ne _ (by omega)]; exact h.now l hl, fun l hl => by rw [set_ne _ (by omega)]; exact h.old l hl, by rw [set_ne _ (by omega)]; exact h.cm, by rw [set_ne _ (by omega)]; exact h.ce, set_eq _ (by rw [h.sz]; omega), by rw [set_ne _ (by omega)]; exact h.cp, by rw [set_ne _ (by omega)]; exact h.cb⟩
theorem StoA.setParts (h : StoA D M ep slot f g vp A) (v : Value) : StoA D M ep slot f g v (A.setIfInBounds 1028 v) :=
  ⟨by rw [Array.size_setIfInBounds]; exact h.sz, by rw [set_ne _ (by omega)]; exact h.c0, fun l hl => by rw [set_ne _ (by omega)]; exact h.now l hl, fun l hl => by rw [set_ne _ (by omega)]; exact h.old l hl, by rw [set_ne _ (by omega)]; exact h.cm, by rw [set_ne _ (by omega)]; exact h.ce, by rw [set_ne _ (by omega)]; exact h.cs, set_eq _ (by rw [h.sz]; omega), by rw [set_ne _ (by omega)]; exact h.cb⟩
end
/-- a whole table is taken out of a drawn region -/
theorem tqT {ops : Array Oper} {Q : Exit → Act → World → Prop} {md : Region.Mode} {S : World → Prop} (i : Nat) {f1 f2 f3 f4 f5 f6} {fuel : Nat} {listed : Array Bool} {a : Act} {w : World} (b o : Nat) (f : Nat → Int) (x : Operand) (hi : ops[i]? = some (Oper.mk f1 f2 f3 f4 f5 f6))
    (h : wpAnyH Tryz.prog md ops Q S fuel (listed.setIfInBounds i true) (a.put (Oper.mk f1 f2 f3 f4 f5 f6).dst (.agg (tabL f).toArray)) w)
    (ho : (Oper.mk f1 f2 f3 f4 f5 f6).op = .load 111 x) (hx : a.eval x = .pointer (some ⟨b, o, none⟩)) (hR : ∀ w5, S w5 → w5.rangeAt b o (tabL f)) (hS : S w)
    (hs : Region.noSelect ops = true := by kernel_rfl) (hf : Region.free md ops listed i = true := by kernel_rfl) (hr : (Region.ready md ops listed).contains i = true := by kernel_rfl)
    (hQ : ∀ c a w, Q (.panic c) (a.put (Oper.mk f1 f2 f3 f4 f5 f6).dst (.agg (tabL f).toArray)) w → Q (.panic c) a w := by exact fun _ _ _ h => h)
    (hw : Region.wanted (Oper.mk f1 f2 f3 f4 f5 f6) (yielded ops a.tmps) = true := by rfl) : wpAnyH Tryz.prog md ops Q S (fuel + 1) listed a w :=
  wpAnyH_take hi hs hf hr hQ (yieldsIf_load_mid hw 111 x ho b o hx (tabL f) _ hR Tryz.underlying111 rfl (sizeT f)) hS h

end Go.Proofs.YtmflkkkbahghgaaGreat
namespace Go.Proofs.YtmflkkkbahghgaaGreat
open Go.RowKit Go.Deep
set_option linter.unusedVariables false
set_option linter.unusedSimpArgs false
set_option maxRecDepth 100000

section
variable {base D P M bS bm cS n : Nat} {d : Dk} {K : Nat → Nat} {ep : Int} {slot : Nat} {tb : Nat → Int} {ot parts : List Int} {vp : Value} {SK : Nat → Bool} {u u2 : World}
set_option maxHeartbeats 6400000 in
theorem ssettle_any {tl ps : List Int} {v : Value} (m : StoM base D P M bS bm cS d n K ep slot tb ot parts vp SK u) (hn : n ≤ 1024) (hsl : slot = 0 ∨ slot = 1) (hat : atL tl = tb) (h5 : parts.length ≤ 1000) (hps : LstI ps v u) (hv : ∀ g, v.ownBlock = some g → base ≤ g ∧ g < u.heap.size ∧ stoS P D bS bm SK vp g = false) (ep2 lg : Int) :
    Calls Tryz.prog 95 #[.pointer (some ⟨P, 0, none⟩), rtV ep2 lg v] u fun r u' => r = .returned (.tuple #[]) ∧ ∃ SK2, (∀ k, SK2 k = true → SK k = true ∨ u.heap.size ≤ k) ∧ KpS (fun k => k == P || SK k) u u' ∧ StoM base D P M bS bm cS d n (turnF (lvK n K parts) 1 0) ep2 (1 - slot) tb tl ps v SK2 u' := by
  have MM := Lib.hid m
  have HPS := Lib.hid hps
  have HV := Lib.hid hv
  have HAT := Lib.hid hat
  have HSL := Lib.hid hsl
  have H5 := Lib.hid h5
  have LO := Lib.hid m.s_lo
  have X0 := Lib.hid (heap_alloc_new u (.cells #[.int .i64 ep2, .int .i64 lg, v] 98))
  have B0 := Lib.hid (balloc u (.cells #[.int .i64 ep2, .int .i64 lg, v] 98))
  have M0 := Lib.hid (m.below B0.out)
  have P0 := Lib.hid (hps.below B0.out)
  obtain ⟨R, hR⟩ : ∃ R, R = u.heap.size := ⟨_, rfl⟩
  have HRE := Lib.hid hR
  have HRN : Hid (stoS P D bS bm SK vp R = false) := Lib.hid (by
    cases c : stoS P D bS bm SK vp R with
    | false => rfl
    | true => have := (LO.out R c).2; omega)
  rw [← hR] at X0
  obtain ⟨ao, cap, rfl, hc1, hc2, _⟩ := hps
  clear m hv hat hsl h5
  unfold rtV
  go_enter Tryz.func95, Tryz.ntmps95
  go_upto_region 1 with fail
  rw [← hR]
  generalize u.alloc (.cells #[.int .i64 ep2, .int .i64 lg, .slice ao ps.length cap] 98) = w0 at *
  clear hR
  obtain ⟨c0, c3, c4, c5, c6, c7, cf⟩ := M0.out.look
  have HLV := Lib.hid (sleave_any M0.out hn M0.out.par H5.out (fun g hg => ⟨(M0.out.plo g hg).2, M0.out.pa.k g hg⟩))
  obtain ⟨vp0, hvp⟩ : ∃ z, z = vp := ⟨_, rfl⟩
  clear c0 c4 c5 c7 cf hvp vp0
  go_wp2_with fail
  refine (HLV.out).mono ?_
  rintro r w1 ⟨rfl, SK1, hs1, k1, hm1⟩
  have M1 := Lib.hid hm1
  have S1 := Lib.hid (fun k hk => (hs1 k hk).imp (fun h => h) (fun (h : w0.heap.size ≤ k) => Nat.le_trans B0.out.size h))
  have K1 := Lib.hid ((KpS.of B0.out).trans k1)
  have X1 := Lib.hid ((k1.blk (lt_of_block X0.out) (stoS_no HRN.out).2.2.1).trans X0.out)
  have P1 := Lib.hid (P0.out.kps (fun g hg => (stoS_no (HV.out g hg).2.2).2.2.1) k1)
  have R1 := Lib.hid (stoS_up HRN.out (lt_of_block X0.out) hs1)
  have V1 := Lib.hid (fun g (hg : (Value.slice ao ps.length cap).ownBlock = some g) => stoS_up (HV.out g hg).2.2 (by have := (HV.out g hg).2.1; have := B0.out.size; omega) hs1)
  have Z1 := Lib.hid (Nat.le_trans B0.out.size k1.size)
  clear hs1 k1 hm1 HLV c3 c6
  obtain ⟨c0, c3, c4, c5, c6, c7, cf⟩ := M1.out.look
  have HCM := Lib.hid (sto_commit M1.out hn)
  clear c0 c4 c5 c6 c7 cf
  go_wp2_with fail
  refine (HCM.out).mono ?_
  rintro r w2 ⟨rfl, SK2, hs2, k2, hm2⟩
  have M2 := Lib.hid hm2
  have S2 := Lib.hid (fun k hk => (hs2 k hk).elim (fun h => S1.out k h) (fun (h : w1.heap.size ≤ k) => .inr (Nat.le_trans Z1.out h)))
  have K2 := Lib.hid (kps_new (S2 := SK1) S1.out K1.out k2)
  have X2 := Lib.hid ((k2.blk (lt_of_block X1.out) (stoS_no R1.out).2.2.1).trans X1.out)
  have P2 := Lib.hid (P1.out.kps (fun g hg => (stoS_no (V1.out g hg)).2.2.1) k2)
  have R2 := Lib.hid (stoS_up R1.out (lt_of_block X1.out) hs2)
  have V2 := Lib.hid (fun g (hg : (Value.slice ao ps.length cap).ownBlock = some g) => stoS_up (V1.out g hg) (by have := (HV.out g hg).2.1; have := Z1.out; omega) hs2)
  have Z2 := Lib.hid (Nat.le_trans Z1.out k2.size)
  clear hs2 k2 hm2 HCM c3
  obtain ⟨r0, r1, r2⟩ := three_of X2.out
  have hrg := M2.out.now.range
  go_upto_region 3 with fail
  refine wp_region_held_drew (S := (fun w' => w'.rangeAt P 1 (tabL tb) ∧ w'.cell? ⟨R, 0, none⟩ = some (.int .i64 ep2) ∧ w'.cell? ⟨R, 2, none⟩ = some (.slice ao ps.length cap))) (by kernel_rfl) ⟨hrg, r0, r2⟩ (fun hHeld => ?_)
  change wpAnyH _ _ _ _ _ _ _ _ (World.drew w2)
  have MD := Lib.hid (M2.out.below (bdrew w2))
  have KD := Lib.hid (K2.out.trans (KpS.of (bdrew w2)))
  have XD := Lib.hid (heap_stays X2.out (bdrew w2))
  have PD := Lib.hid (P2.out.below (bdrew w2))
  have ZD := Lib.hid (Nat.le_trans Z2.out (bdrew w2).size)
  clear r0 r1 r2 hrg
  generalize World.drew w2 = wd at *
  first | refine tq0 0 rfl ?_ | refine tq1 0 rfl ?_
  try go_frame
  first | refine tq0 1 rfl ?_ | refine tq1 1 rfl ?_
  try go_frame
  first | refine tq0 2 rfl ?_ | refine tq1 2 rfl ?_
  try go_frame
  first | refine tq0 3 rfl ?_ | refine tq1 3 rfl ?_
  try go_frame
  first | refine tq0 4 rfl ?_ | refine tq1 4 rfl ?_
  try go_frame
  first | refine tq0 5 rfl ?_ | refine tq1 5 rfl ?_
  try go_frame
  first | refine tq0 6 rfl ?_ | refine tq1 6 rfl ?_
  try go_frame
  refine tqT 7 P 1 tb _ rfl ?_ rfl rfl (fun w5 h5 => h5.1) hHeld
  try go_frame
  first | refine tq0 8 rfl ?_ | refine tq1 8 rfl ?_
  try go_frame
  first | refine tq0 9 rfl ?_ | refine tq1 9 rfl ?_
  try go_frame
  first | refine tq0 10 rfl ?_ | refine tq1 10 rfl ?_
  try go_frame
  first | refine tq0 12 rfl ?_ | refine tq1 12 rfl ?_
  try go_frame
  first | refine tq0 13 rfl ?_ | refine tq1 13 rfl ?_
  try go_frame
  have HSP := Lib.hid (sspare_any MD.out HSL.out)
  refine wpAnyH_ready (rs := [11]) (by kernel_rfl) (by simp) ?_
  refine AllReadyH.cons (o := ⟨_, _, _, _, _, _⟩) rfl (fun Kx hKx => ?_) AllReadyH.nil
  go_simp
  go_at_call 138
  refine (HSP.out).mono ?_
  rintro r w9 ⟨rfl, hw9⟩
  rw [hw9]
  clear hw9 w9
  refine hKx.out _ _ hHeld (fun hHeld => ?_)
  clear hKx Kx
  try simp only [Act.put, List.setIfInBounds_toArray, List.set_cons_zero, List.set_cons_succ]
  first | refine tq0 14 rfl ?_ | refine tq1 14 rfl ?_
  try go_frame
  first | refine tq0 15 rfl ?_ | refine tq1 15 rfl ?_
  try go_frame
  obtain ⟨A, eA, hA⟩ := MD.out.box
  have ht := MD.out.was.there (g := tb)
  have hza := sizeTA tb
  have h1 := tabL_all tb
  have hnR : Hid (R ≠ P) := Lib.hid (stoS_no HRN.out).1
  have ks1 : KpS (fun q => q == P) wd (wd.setCells P 513 (tabL tb)) := kps_cells (by simp) _ _ _
  have E1 := Lib.hid (putA_block (tabL tb) 513 wd A _ eA)
  have A1 := Lib.hid (hA.setOld tb)
  have K1' := Lib.hid ks1
  have KB : Hid (∀ w9, KpS (fun q => q == P) wd w9 → w9.cell? ⟨R, 0, none⟩ = some (.int .i64 ep2) ∧ w9.cell? ⟨R, 2, none⟩ = some (.slice ao ps.length cap)) := Lib.hid (fun w9 k9 => by
    have e := (k9.blk (lt_of_block XD.out) (by simpa using hnR.out)).trans XD.out
    exact ⟨(three_of e).1, (three_of e).2.2⟩)
  have RNG : Hid (∀ (w9 : World) (A9 : Array Value) (ep9 : Int) (s9 : Nat) (g9 : Nat → Int) (v9 : Value), w9.heap[P]? = some (.cells A9 114 (0, 0)) → StoA D M ep9 s9 tb g9 v9 A9 → w9.rangeAt P 1 (tabL tb)) := Lib.hid (fun w9 A9 ep9 s9 g9 v9 e9 h9 => TabC.range ⟨A9, _, e9, h9.now⟩)
  clear hA eA ks1
  refine wpAnyH_ready (rs := [16]) (by kernel_rfl) (by simp) ?_
  refine AllReadyH.cons (o := ⟨_, _, _, _, _, _⟩) rfl (fun Kx hKx => ?_) AllReadyH.nil
  refine wp_store_mid 111 _ _ rfl P 513 (tabL tb).toArray rfl rfl ht hza h1 ?_
  change Kx _ (wd.setCells P 513 (tabL tb))
  refine hKx.out _ _ ⟨RNG.out _ _ _ _ _ _ E1.out A1.out, KB.out _ K1'.out⟩ (fun hHeld => ?_)
  clear hKx Kx ht hza h1
  try simp only [Act.put, List.setIfInBounds_toArray, List.set_cons_zero, List.set_cons_succ]
  generalize wd.setCells P 513 (tabL tb) = wa at *
  first | refine tq0 17 rfl ?_ | refine tq1 17 rfl ?_
  try go_frame
  first | refine tq0 18 rfl ?_ | refine tq1 18 rfl ?_
  try go_frame
  have E2 := Lib.hid (Joins.block_setCell (i := 1026) E1.out (.int .i64 ep2))
  have A2 := Lib.hid (A1.out.setEp ep2)
  have K2' := Lib.hid (K1'.out.trans (KpS.set (S := fun q => q == P) (b := P) (by simp) 1026 (.int .i64 ep2) wa))
  have z1 : ∃ v, wa.cell? ⟨P, 1026, none⟩ = some v := ⟨_, (Lib.cell_of_heap E1.out _).trans A1.out.ce⟩
  obtain ⟨z1v, z1⟩ := z1
  have zf : wa.frozen? ⟨P, 1026, none⟩ = false := Lib.frozen_of_heap E1.out _
  refine wpAnyH_ready (rs := [19]) (by kernel_rfl) (by simp) ?_
  refine AllReadyH.cons (o := ⟨_, _, _, _, _, _⟩) rfl (fun Kx hKx => ?_) AllReadyH.nil
  go_simp
  refine hKx.out _ _ ⟨RNG.out _ _ _ _ _ _ E2.out A2.out, KB.out _ K2'.out⟩ (fun hHeld => ?_)
  clear hKx Kx z1 zf
  try simp only [Act.put, List.setIfInBounds_toArray, List.set_cons_zero, List.set_cons_succ]
  generalize wa.setCell ⟨P, 1026, none⟩ (.int .i64 ep2) = wb at *
  first | refine tq0 20 rfl ?_ | refine tq1 20 rfl ?_
  try go_frame
  first | refine tq0 21 rfl ?_ | refine tq1 21 rfl ?_
  try go_frame
  have E3 := Lib.hid (Joins.block_setCell (i := 1027) E2.out (.int .i64 ((1 - slot : Nat) : Int)))
  have A3 := Lib.hid (A2.out.setSlot (1 - slot))
  have K3' := Lib.hid (K2'.out.trans (KpS.set (S := fun q => q == P) (b := P) (by simp) 1027 (.int .i64 ((1 - slot : Nat) : Int)) wb))
  have z1 : ∃ v, wb.cell? ⟨P, 1027, none⟩ = some v := ⟨_, (Lib.cell_of_heap E2.out _).trans A2.out.cs⟩
  obtain ⟨z1v, z1⟩ := z1
  have zf : wb.frozen? ⟨P, 1027, none⟩ = false := Lib.frozen_of_heap E2.out _
  refine wpAnyH_ready (rs := [22]) (by kernel_rfl) (by simp) ?_
  refine AllReadyH.cons (o := ⟨_, _, _, _, _, _⟩) rfl (fun Kx hKx => ?_) AllReadyH.nil
  go_simp
  refine hKx.out _ _ ⟨RNG.out _ _ _ _ _ _ E3.out A3.out, KB.out _ K3'.out⟩ (fun hHeld => ?_)
  clear hKx Kx z1 zf
  try simp only [Act.put, List.setIfInBounds_toArray, List.set_cons_zero, List.set_cons_succ]
  generalize wb.setCell ⟨P, 1027, none⟩ (.int .i64 ((1 - slot : Nat) : Int)) = wc at *
  first | refine tq0 23 rfl ?_ | refine tq1 23 rfl ?_
  try go_frame
  first | refine tq0 24 rfl ?_ | refine tq1 24 rfl ?_
  try go_frame
  have E4 := Lib.hid (Joins.block_setCell (i := 1028) E3.out (.slice ao ps.length cap))
  have A4 := Lib.hid (A3.out.setParts (.slice ao ps.length cap))
  have K4' := Lib.hid (K3'.out.trans (KpS.set (S := fun q => q == P) (b := P) (by simp) 1028 (.slice ao ps.length cap) wc))
  have z1 : ∃ v, wc.cell? ⟨P, 1028, none⟩ = some v := ⟨_, (Lib.cell_of_heap E3.out _).trans A3.out.cp⟩
  obtain ⟨z1v, z1⟩ := z1
  have zf : wc.frozen? ⟨P, 1028, none⟩ = false := Lib.frozen_of_heap E3.out _
  refine wpAnyH_ready (rs := [25]) (by kernel_rfl) (by simp) ?_
  refine AllReadyH.cons (o := ⟨_, _, _, _, _, _⟩) rfl (fun Kx hKx => ?_) AllReadyH.nil
  go_simp
  refine hKx.out _ _ ⟨RNG.out _ _ _ _ _ _ E4.out A4.out, KB.out _ K4'.out⟩ (fun hHeld => ?_)
  clear hKx Kx z1 zf
  try simp only [Act.put, List.setIfInBounds_toArray, List.set_cons_zero, List.set_cons_succ]
  generalize wc.setCell ⟨P, 1028, none⟩ (.slice ao ps.length cap) = we at *
  refine wpAnyH_done (by kernel_rfl) ?_ _
  have FM : Hid (StoM base D P M bS bm cS d n (turnF (lvK n K parts) 1 0) ep2 (1 - slot) tb tl ps (.slice ao ps.length cap) SK2 we) := Lib.hid (by
    refine MD.out.rebox (tb2 := tb) (ot2 := tl) K4'.out E4.out ?_ PD.out (fun g hg => ⟨(HV.out g hg).1, Nat.lt_of_lt_of_le (HV.out g hg).2.1 ZD.out⟩) ⟨fun e => (stoS_no (V2.out P e)).1 rfl, fun g hg => (stoS_no (V2.out g hg)).2.1, fun g hg => (stoS_no (V2.out g hg)).2.2.1⟩
    rw [HAT.out]
    exact A4.out)
  have FK : Hid (KpS (fun k => k == P || SK k) u we) := Lib.hid ((KD.out.mono fun q hq => by simp [hq]).trans (K4'.out.mono fun q hq => by simp at hq; simp [hq]))
  clear hHeld
  go_wp2_with fail
  go_end0
  exact ⟨rfl, SK2, S2.out, FK.out, FM.out⟩
end

end Go.Proofs.YtmflkkkbahghgaaGreat
