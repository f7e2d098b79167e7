/- The program's load: the table of a root, and each page that it reaches. The program's Get: what it makes of a slot's text. Plain mathematics. -/
import Derived.Test.YtdpmpmaepjgndaaGreatYZ38
import Derived.Test.YtdpmpmaepjgndaaGreatYZ31
import Derived.Test.YtdpmpmaepjgndaaGreatYZ39
import Derived.Test.YtdpmpmaepjgndaaGreatYZ33
import Derived.Test.YtdpmpmaepjgndaaGreatYZ36
namespace Go.Proofs.YtdpmpmaepjgndaaGreat
open Go.RowKit Go.Deep
set_option linter.unusedVariables false
set_option linter.unusedSimpArgs false
set_option maxRecDepth 100000

/-- how many pages part j tells -/
def cntP (lg : Int) (j : Nat) : Int := min (lg - 116 * (j : Int)) 116
/-- the table that the first parts tell -/
def tabF (d : Dk) (lg : Int) (parts : List Int) : Nat → List Int
  | 0 => []
  | j + 1 => tabF d lg parts j ++ tellL (readPP d (parts.getD j 0)).pay (cntP lg j).toNat
/-- all that a root names may be -/
structure LoadOk (d : Dk) (n : Nat) (ep lg : Int) (parts : List Int) : Prop where
  part : ∀ i, i < parts.length → okR d n (usedK (parts.take i)) ep (parts.getD i 0) 1 ∧ tellE (readPP d (parts.getD i 0)).pay (cntP lg i) = 0
  page : ∀ i, i < (listT (atL (tabF d lg parts parts.length)) 512).length → okR d n (usedK (parts ++ ((listT (atL (tabF d lg parts parts.length)) 512).take i).map (atL (tabF d lg parts parts.length)))) ep (atL (tabF d lg parts parts.length) ((listT (atL (tabF d lg parts parts.length)) 512).getD i 0)) 2
theorem usedK_ok {d : Dk} {n : Nat} {l : List Int} {ep id kd : Int} (h : okR d n (usedK l) ep id kd) : useF n (usedK l) id = usedK (l ++ [id]) ∧ 0 ≤ id ∧ id < (n : Int) ∧ id ∉ l := by
  have hu := h.2.2.2
  unfold useE at hu
  by_cases c : inF n id
  · rw [if_pos c] at hu
    have hp : id ∉ l := fun hm => by
      have := usedK_two (n := n) c.1 hm
      unfold useE at this
      rw [if_pos c] at this
      exact this hu
    exact ⟨(usedK_use c.1 c.2 hp).2, c.1, c.2, hp⟩
  · rw [if_neg c] at hu; exact absurd hu (by decide)
theorem readPP_pay {d : Dk} {id : Int} (h : readPE d id = 0) : (readPP d id).pay.size = 232 := by
  unfold readPE at h
  have h2 : getE (pageS d id.toNat) = 0 := by
    split at h
    · exact absurd h (by decide)
    · split at h
      · exact absurd h (by decide)
      · split at h
        · rename_i c; exact c
        · exact h
  have e : readPP d id = tellP (pageS d id.toNat) := by
    unfold readPP
    rw [if_pos (by unfold readPE; exact h)]
    unfold getP
    rw [if_pos h2]
  have hs : (pageS d id.toNat).size = 256 := by
    unfold getE at h2
    split at h2
    · rename_i c; exact c
    · exact absurd h2 (by decide)
  rw [e]
  unfold tellP
  show ((pageS d id.toNat).extract 24 (pageS d id.toNat).size).size = 232
  rw [hs, ByteArray.size_extract, hs]
  rfl
theorem tabF_len (d : Dk) {lg : Int} {parts : List Int} (h1 : 0 ≤ lg) (hl : (parts.length : Int) = needR lg) : ∀ j, j ≤ parts.length → ((tabF d lg parts j).length : Int) = min (116 * (j : Int)) lg
  | 0, _ => by show (0 : Int) = _; omega
  | j + 1, hj => by
    have ih := tabF_len d h1 hl j (by omega)
    simp only [tabF]
    rw [List.length_append, tellL_len]
    unfold cntP
    have hn : 116 * (j : Int) < lg := by
      unfold needR at hl
      split at hl
      · omega
      · omega
    omega
section
variable {base D P M bS bm cS n : Nat} {d : Dk} {K : Nat → Nat} {ep : Int} {slot : Nat} {tb : Nat → Int} {ot parts0 : List Int} {vp : Value} {SK : Nat → Bool} {u u2 : World}
/-- a part's pages are copied into the table -/
theorem StoM.fill {A : List Int} {l : List Int} (m : StoM base D P M bS bm cS d n K ep slot (atL A) ot parts0 vp SK u) (h : A.length + l.length ≤ 512) : StoM base D P M bS bm cS d n K ep slot (atL (A ++ l)) ot parts0 vp SK (u.setCells P (1 + A.length) (intV l)) := by
  obtain ⟨B, e, hB⟩ := m.box
  have hlen : (intV l).length = l.length := by simp [intV]
  have lo : ∀ i, 513 ≤ i → (putA B (1 + A.length) (intV l))[i]? = B[i]? := fun i hi => putA_out _ _ _ _ (.inr (by rw [hlen]; omega))
  refine m.rebox (kps_cells (q := P) (by simp) _ _ _) (putA_block _ _ u B _ e) ⟨by rw [putA_size]; exact hB.sz, by rw [putA_out _ _ _ _ (.inl (by omega))]; exact hB.c0, fun k hk => ?_, fun k hk => by rw [lo _ (by omega)]; exact hB.old k hk, by rw [lo _ (by omega)]; exact hB.cm, by rw [lo _ (by omega)]; exact hB.ce, by rw [lo _ (by omega)]; exact hB.cs, by rw [lo _ (by omega)]; exact hB.cp, by rw [lo _ (by omega)]; exact hB.cb⟩ m.par m.plo m.pa
  by_cases c1 : k < A.length
  · rw [putA_out _ _ _ _ (.inl (by omega)), hB.now k hk]
    unfold atL
    rw [List.getD_eq_getElem?_getD, List.getD_eq_getElem?_getD, List.getElem?_append_left c1]
  · by_cases c2 : k < A.length + l.length
    · rw [show 1 + k = (1 + A.length) + (k - A.length) by omega, putA_in _ _ _ _ (by rw [hlen]; omega) (by rw [hlen, hB.sz]; omega)]
      unfold atL intV
      rw [List.getD_eq_getElem?_getD, List.getElem?_append_right (by omega), List.getElem?_map, List.getElem?_eq_getElem (by omega)]
      rfl
    · rw [putA_out _ _ _ _ (.inr (by rw [hlen]; omega)), hB.now k hk]
      unfold atL
      rw [List.getD_eq_getElem?_getD, List.getD_eq_getElem?_getD, List.getElem?_eq_none (by omega), List.getElem?_eq_none (by rw [List.length_append]; omega)]
theorem stoS_no {g : Nat} (h : stoS P D bS bm SK vp g = false) : g ≠ P ∧ P3 D bS bm g = false ∧ SK g = false ∧ vp.ownBlock ≠ some g := by
  refine ⟨fun e => ?_, ?_, ?_, fun e => ?_⟩
  · rw [stoS_iff.2 (.inl e)] at h; cases h
  · cases c : P3 D bS bm g with
    | false => rfl
    | true => rw [stoS_iff.2 (.inr (.inl c))] at h; cases h
  · cases c : SK g with
    | false => rfl
    | true => rw [stoS_iff.2 (.inr (.inr (.inl c)))] at h; cases h
  · rw [stoS_iff.2 (.inr (.inr (.inr e)))] at h; cases h
theorem stoS_up {SK2 : Nat → Bool} {g : Nat} (h : stoS P D bS bm SK vp g = false) (hg : g < u.heap.size) (hs : ∀ k, SK2 k = true → SK k = true ∨ u.heap.size ≤ k) : stoS P D bS bm SK2 vp g = false := by
  obtain ⟨h1, h2, h3, h4⟩ := stoS_no h
  cases c : stoS P D bS bm SK2 vp g with
  | false => rfl
  | true =>
    rcases stoS_iff.1 c with e | e | e | e
    · exact absurd e h1
    · rw [h2] at e; cases e
    · rcases hs g e with e2 | e2
      · rw [h3] at e2; cases e2
      · omega
    · exact absurd e h4
theorem StoM.apart (m : StoM base D P M bS bm cS d n K ep slot tb ot parts0 vp SK u) (k : Nat) (hk : SK k = true) : P3 D bS bm k = false ∧ vp.ownBlock ≠ some k := by
  constructor
  · cases c : P3 D bS bm k with
    | false => rfl
    | true => rw [m.dks k c] at hk; cases hk
  · intro e
    have := m.pa.k k e
    rw [hk] at this
    cases this
/-- what is written in the store's own block and its map, of old and new blocks -/
theorem kps_more {SK2 : Nat → Bool} {w w2 w3 : World} (hn : NewB (stoS P D bS bm SK vp) (stoS P D bS bm SK2 vp) w) (hk : ∀ k, SK2 k = true → P3 D bS bm k = false ∧ vp.ownBlock ≠ some k) (k1 : KpS (fun k => k == P || SK k) w w2) (k2 : KpS SK2 w2 w3) : KpS (fun k => k == P || SK k) w w3 := by
  refine kps_new (S2 := SK2) (fun k h => ?_) k1 k2
  rcases hn k (stoS_iff.2 (.inr (.inr (.inl h)))) with h1 | h1
  · left
    rcases stoS_iff.1 h1 with e | e | e | e
    · simp [e]
    · rw [(hk k h).1] at e; cases e
    · simp [e]
    · exact absurd e (hk k h).2
  · exact .inr h1
set_option maxHeartbeats 3200000 in
theorem sload_any {parts : List Int} {lg : Int} {v : Value} (m : StoM base D P M bS bm cS d n (usedK []) ep slot (atL []) ot parts0 vp SK u) (hd : d.down = false) (hdn : d.n ≤ 4096) (hn : n ≤ 1024) (hp : LstI parts v u) (hr : RightR ⟨ep, lg, parts⟩) (hv : ∀ g, v.ownBlock = some g → stoS P D bS bm SK vp g = false) :
    Calls Tryz.prog 63 #[.pointer (some ⟨P, 0, none⟩), rtV ep lg v] u fun r u' => ∃ SK2, NewB (stoS P D bS bm SK vp) (stoS P D bS bm SK2 vp) u ∧ KpS (fun k => k == P || SK k) u u' ∧ ((LoadOk d n ep lg parts ∧ r = .returned (.int .i64 0) ∧ StoM base D P M bS bm cS d n (usedK (parts ++ (listT (atL (tabF d lg parts parts.length)) 512).map (atL (tabF d lg parts parts.length)))) ep slot (atL (tabF d lg parts parts.length)) ot parts0 vp SK2 u') ∨ (¬ LoadOk d n ep lg parts ∧ r = .returned (.int .i64 14))) := by
  have HR := Lib.hid hr
  obtain ⟨_, hpr, _, _, hlg0, hlg1, hplen⟩ := hr
  dsimp only at hpr hlg0 hlg1 hplen
  have h5 := HR.out.few
  dsimp only at h5
  have HPR := Lib.hid hpr
  have HLEN := Lib.hid (fun j (hj : j ≤ parts.length) => tabF_len d hlg0 hplen j hj)
  have HNEED : Hid (∀ j : Nat, j < parts.length → 116 * (j : Int) < lg) := Lib.hid (fun j hj => by
    unfold needR at hplen
    split at hplen <;> omega)
  have HREA := Lib.hid (fun (w : World) (K : Nat → Nat) (tb : Nat → Int) (SK : Nat → Bool) (q : StoM base D P M bS bm cS d n K ep slot tb ot parts0 vp SK w) (id kd : Int) => sreached_any q hd hdn hn id kd)
  have X1 := Lib.hid (heap_alloc_new u (.cells #[.int .i64 ep, .int .i64 lg, v] 100))
  have B1 := Lib.hid (balloc u (.cells #[.int .i64 ep, .int .i64 lg, v] 100))
  have M1 := Lib.hid (m.below B1.out)
  have P1 := Lib.hid (hp.below B1.out)
  have SLO := Lib.hid m.s_lo
  obtain ⟨R, hR⟩ : ∃ R, R = u.heap.size := ⟨_, rfl⟩
  have HRS : Hid (stoS P D bS bm SK vp R = false) := Lib.hid (by
    cases c : stoS P D bS bm SK vp R with
    | false => rfl
    | true => have := (SLO.out R c).2; omega)
  have HRE := Lib.hid hR
  rw [← hR] at X1
  obtain ⟨ao, cap, rfl, hc1, hc2, hsl⟩ := hp
  have HV := Lib.hid hv
  have HSL := Lib.hid hsl
  have HLG := Lib.hid (And.intro hlg0 hlg1)
  clear m hpr hplen hv hsl
  unfold rtV
  go_enter Tryz.func63, Tryz.ntmps63
  go_upto_region 1 with fail
  rw [← hR]
  generalize u.alloc (.cells #[.int .i64 ep, .int .i64 lg, .slice ao parts.length cap] 100) = w0 at *
  clear hR
  obtain ⟨r0, r1, r2⟩ := three_of X1.out
  go_wp2_with fail
  clear r0 r1 r2
  go_loopw [18] (fun i wr => ∃ j : Nat, j ≤ parts.length ∧ i = .int .i64 j ∧ ∃ SKj, Hid (StoM base D P M bS bm cS d n (usedK (parts.take j)) ep slot (atL (tabF d lg parts j)) ot parts0 vp SKj wr) ∧ Hid (NewB (stoS P D bS bm SK vp) (stoS P D bS bm SKj vp) u) ∧ Hid (KpS (fun k => k == P || SK k) u wr) ∧ Hid (wr.heap[R]? = some (.cells #[.int .i64 ep, .int .i64 lg, .slice ao parts.length cap] 100 (0, 0))) ∧ Hid (LstI parts (.slice ao parts.length cap) wr) ∧ Hid (R < wr.heap.size) ∧ Hid (stoS P D bS bm SKj vp R = false) ∧ Hid (∀ g, (Value.slice ao parts.length cap).ownBlock = some g → stoS P D bS bm SKj vp g = false) ∧ Hid (∀ i, i < j → okR d n (usedK (parts.take i)) ep (parts.getD i 0) 1 ∧ tellE (readPP d (parts.getD i 0)).pay (cntP lg i) = 0)) (fun i _ => parts.length - (intOf i).toNat)
  case atStart => exact ⟨0, Nat.zero_le _, rfl, SK, M1, Lib.hid (fun k hk => .inl hk), Lib.hid (KpS.of B1.out), X1, P1, Lib.hid (lt_of_block X1.out), HRS, HV, Lib.hid (fun i hi => absurd hi (Nat.not_lt_zero i))⟩
  case round =>
    obtain ⟨j, hj, rfl, SKj, HM, HNB, HKP, HX, HPL, HRL, HRN, HVN, HOK⟩ := hrel
    by_cases hlt : j < parts.length
    · have hj1 : (j : Int) < (parts.length : Int) := by omega
      have hj2 : (0 : Int) ≤ (j : Int) := by omega
      have d1 : decide ((j : Int) < (parts.length : Int)) = true := by rw [decide_eq_true_eq]; omega
      have d2 : decide (j < parts.length) = true := by rw [decide_eq_true_eq]; omega
      have HLT := Lib.hid hlt
      obtain ⟨_, _, e9, _, _, hsl⟩ := HPL.out
      obtain ⟨b, o, hao, hA⟩ := hsl (by omega)
      simp only [Value.slice.injEq, true_and] at e9
      obtain ⟨rfl, rfl⟩ := e9
      subst hao
      have hcell : wr.cell? ⟨b, o + j, none⟩ = some (.int .i64 (parts.getD j 0)) := hA.one j hlt
      have HREJ := Lib.hid (HREA.out wr _ _ _ HM.out (parts.getD j 0) 1)
      generalize hid : parts.getD j 0 = id at *
      have HID := Lib.hid hid
      clear hid hA hsl hlt
      go_wp2_with fail
      refine (HREJ.out).mono ?_
      rintro r w1 ⟨SK1, hs1, k1, hcase⟩
      have HS1 := Lib.hid hs1
      have K1 := Lib.hid k1
      have HRN2 := Lib.hid (stoS_up HRN.out HRL.out hs1)
      have HBL : Hid (b < wr.heap.size) := Lib.hid (by obtain ⟨_, _, _, e⟩ := cell_block hcell; exact lt_of_block e)
      have HVN2 := Lib.hid (fun g (hg : (Value.slice (some ⟨b, o, none⟩) parts.length cap).ownBlock = some g) => stoS_up (HVN.out g hg) (by
        simp only [Value.ownBlock, Option.some.injEq] at hg
        have := HBL.out; omega) hs1)
      have HNB2 := Lib.hid (NewB.then HNB.out (newB_map hs1) HKP.out.size)
      have HKP2 : Hid (KpS (fun k => k == P || SK k) u w1) := Lib.hid (kps_more HNB.out HM.out.apart HKP.out k1)
      have HX2 := Lib.hid ((k1.blk HRL.out (stoS_no HRN.out).2.2.1).trans HX.out)
      have HRL2 : Hid (R < w1.heap.size) := Lib.hid (Nat.lt_of_lt_of_le HRL.out k1.size)
      have HPL2 := Lib.hid (HPL.out.kps (fun g hg => (stoS_no (HVN.out g hg)).2.2.1) k1)
      clear hs1 k1 HREJ hcell
      rcases hcase with ⟨hok, rfl, hm⟩ | ⟨hno, rfl, _⟩
      · have M2 := Lib.hid hm
        have OK2 := Lib.hid hok
        obtain ⟨u1, u2', u3', u4'⟩ := usedK_ok hok
        have EU := Lib.hid u1
        have PSZ := Lib.hid (readPP_pay hok.1)
        clear hm hok u1 u2' u3' u4'
        obtain ⟨r0, r1, r2⟩ := three_of HX2.out
        have HG := Lib.hid (pgetpart_any (readPP d id).pay (cntP lg j) w1 (by rw [PSZ.out]; omega) (by unfold cntP; have := HLG.out; omega))
        have HC0 : Hid (1 ≤ cntP lg j ∧ cntP lg j ≤ 116) := Lib.hid (by unfold cntP; have := HNEED.out j HLT.out; omega)
        have em : cntP lg j = min (lg - (j : Int) * 116) 116 := by unfold cntP; rw [Int.mul_comm]
        rw [em] at HG
        have HNE := Lib.hid (HNEED.out j HLT.out)
        have hl5 : parts.length ≤ 5 := h5
        have hlg1 := HLG.out.2
        have hlg0 := HLG.out.1
        by_cases ht : tellE (readPP d id).pay (cntP lg j) = 0
        · rw [← em, ht] at HG
          rw [em] at HG
          have HT := Lib.hid ht
          generalize hpay : (readPP d id).pay = pay at *
          have HPAY := Lib.hid hpay
          clear ht hpay
          go_wp2_with fail
          refine (HG.out).mono ?_
          rintro r w2 ⟨v2, rfl, hl2, hb2⟩
          obtain ⟨cn, hcn⟩ : ∃ cn : Nat, (cn : Int) = min (lg - (j : Int) * 116) 116 := ⟨(min (lg - (j : Int) * 116) 116).toNat, by rw [Int.toNat_of_nonneg]; have := HC0.out; omega⟩
          have hcn1 : 1 ≤ cn ∧ cn ≤ 116 := by have := HC0.out; omega
          have egl : getL pay (min (lg - (j : Int) * 116) 116) = tellL pay cn := by
            unfold getL
            rw [← em, HT.out, if_pos rfl, em, ← hcn, Int.toNat_natCast]
          rw [egl] at hl2
          have ETF : Hid (tabF d lg parts (j + 1) = tabF d lg parts j ++ tellL pay cn) := Lib.hid (by
            simp only [tabF]
            rw [HID.out, HPAY.out, em, ← hcn, Int.toNat_natCast])
          have hA0 := HLEN.out j (Nat.le_of_lt HLT.out)
          have hA1 : (tabF d lg parts j).length = 116 * j := by have := HNE.out; omega
          have hsum : 116 * j + cn ≤ 512 := by omega
          have HSUM := Lib.hid hsum
          have HA1 := Lib.hid hA1
          have M3 := Lib.hid (M2.out.below hb2)
          have HX3 := Lib.hid (heap_stays HX2.out hb2)
          have HPL3 := Lib.hid (HPL2.out.below hb2)
          have HKP3 := Lib.hid (HKP2.out.trans (KpS.of hb2))
          have HS3 := Lib.hid hb2.size
          have HL2 := Lib.hid hl2
          obtain ⟨a2, cap2, rfl, hc21, hc22, hsl2⟩ := hl2
          rw [tellL_len] at hc21 hsl2 ⊢
          obtain ⟨b2, o2, rfl, hA2⟩ := hsl2 (by omega)
          have hlenV : (intV (tellL pay cn)).length = cn := by simp [intV, tellL_len]
          have hcp := run_copy_cells (P := Tryz.prog) w2 38 38 3 3 P (1 + 116 * j) (512 - 116 * j) (512 - 116 * j) ⟨b2, o2, none⟩ cn cap2 (intV (tellL pay cn)) Tryz.underlying38 size_int13 (by rw [hlenV]; exact (Nat.min_eq_left (by omega)).symm)
            (fun i v hi => by
              have hi2 : i < cn := by have := (List.getElem?_eq_some_iff.1 hi).1; omega
              have h9 := hA2.one i hi2
              unfold intV at hi
              rw [List.getElem?_map, List.getElem?_eq_getElem (by rw [tellL_len]; exact hi2)] at hi
              simp only [Option.map_some, Option.some.injEq] at hi
              rw [add_plain, h9, ← hi]
              show some (Value.int .i64 ((tellL pay cn).getD i 0)) = _
              rw [List.getD_eq_getElem?_getD, List.getElem?_eq_getElem (by rw [tellL_len]; exact hi2)]
              rfl)
            (fun i hi => by
              rw [hlenV] at hi
              rw [show 1 + 116 * j + i = 1 + (116 * j + i) by omega, M3.out.now.cell (by omega)]
              rfl)
            (fun i hi => M3.out.now.fz _) (fun v hv => by
              unfold intV at hv
              obtain ⟨z, _, rfl⟩ := List.mem_map.1 hv
              rfl)
          rw [hlenV] at hcp
          have M4 : Hid (StoM base D P M bS bm cS d n (usedK (parts.take (j + 1))) ep slot (atL (tabF d lg parts (j + 1))) ot parts0 vp SK1 (w2.setCells P (1 + 116 * j) (intV (tellL pay cn)))) := Lib.hid (by
            have h9 := M3.out.fill (l := tellL pay cn) (by rw [tellL_len, hA1]; exact hsum)
            rw [hA1, EU.out] at h9
            rw [ETF.out, List.take_add_one, List.getElem?_eq_getElem HLT.out]
            have e9 : parts[j]'HLT.out = id := by
              have := HID.out
              rw [List.getD_eq_getElem?_getD, List.getElem?_eq_getElem HLT.out] at this
              exact this
            rw [e9]
            exact h9)
          have K4 : Hid (KpS (fun q => q == P) w2 (w2.setCells P (1 + 116 * j) (intV (tellL pay cn)))) := Lib.hid (kps_cells (by simp) _ _ _)
          have f0 : (0 : Int) ≤ (j : Int) * 116 := by omega
          have f1 : (j : Int) * 116 ≤ 512 := by omega
          have f2 : ((j : Int) * 116).toNat = 116 * j := by omega
          clear hb2 hA0 hA1 hsum hA2 hsl2 egl
          generalize w2.setCells P (1 + 116 * j) (intV (tellL pay cn)) = w3 at *
          generalize min (lg - (j : Int) * 116) 116 = mm at *
          go_wp2_with fail
          have nP : ∀ g, g ≠ P → (fun q => q == P) g = false := fun g h => by simpa using h
          have HX4 := Lib.hid ((K4.out.blk (lt_of_block HX3.out) (nP R (stoS_no HRN.out).1)).trans HX3.out)
          have HPL4 := Lib.hid (HPL3.out.kps (fun g hg => nP g (stoS_no (HVN.out g hg)).1) K4.out)
          have HKP4 : Hid (KpS (fun k => k == P || SK k) u w3) := Lib.hid (HKP3.out.trans (K4.out.mono fun q hq => by simp at hq; simp [hq]))
          have HRL4 : Hid (R < w3.heap.size) := Lib.hid (Nat.lt_of_lt_of_le HRL2.out (Nat.le_trans HS3.out K4.out.size))
          have HOK4 : Hid (∀ i, i < j + 1 → okR d n (usedK (parts.take i)) ep (parts.getD i 0) 1 ∧ tellE (readPP d (parts.getD i 0)).pay (cntP lg i) = 0) := Lib.hid (fun i hi => by
            rcases Nat.lt_succ_iff_lt_or_eq.1 hi with c | rfl
            · exact HOK.out i c
            · rw [HID.out, HPAY.out]
              exact ⟨OK2.out, HT.out⟩)
          go_roundw
          case rel => have := HLT.out; exact ⟨j + 1, by omega, by go_num, SK1, M4, HNB2, HKP4, HX4, HPL4, HRL4, HRN2, HVN2, HOK4⟩
          case measure => have := HLT.out; simp [intOf]; omega
        · have e14 : tellE (readPP d id).pay (cntP lg j) = 14 := by
            have := HC0.out
            have := PSZ.out
            unfold tellE at ht ⊢
            rw [if_neg (by omega), if_neg (by omega)] at ht ⊢
            split at ht
            · rename_i c; rw [if_pos c]
            · exact absurd rfl ht
          have NOT : Hid (¬ LoadOk d n ep lg parts) := Lib.hid (fun h => by
            have := (h.part j HLT.out).2
            rw [HID.out] at this
            exact ht this)
          rw [← em, e14] at HG
          rw [em] at HG
          clear ht e14
          generalize (readPP d id).pay = pay at *
          go_wp2_with fail
          refine (HG.out).mono ?_
          rintro r w2 ⟨v2, rfl, _, hb2⟩
          have K9 : Hid (KpS (fun k => k == P || SK k) u w2) := Lib.hid (HKP2.out.trans (KpS.of hb2))
          clear hb2 HG
          generalize min (lg - (j : Int) * 116) 116 = mm at *
          go_wp2_with fail
          go_ret
          exact ⟨SK1, HNB2.out, K9.out, .inr ⟨NOT.out, rfl⟩⟩
      · have NOT : Hid (¬ LoadOk d n ep lg parts) := Lib.hid (fun h => by
          have := (h.part j HLT.out).1
          rw [HID.out] at this
          exact hno this)
        clear hno
        go_wp2_with fail
        go_ret
        exact ⟨SK1, HNB2.out, HKP2.out, .inr ⟨NOT.out, rfl⟩⟩
    · have ej : j = parts.length := by omega
      have d1 : decide ((j : Int) < (parts.length : Int)) = false := by rw [decide_eq_false_iff_not]; omega
      have d2 : decide (j < parts.length) = false := by rw [decide_eq_false_iff_not]; omega
      rw [ej, List.take_length] at HM
      have hOK := HOK.out
      rw [ej] at hOK
      have HOKP := Lib.hid hOK
      have HTH := Lib.hid (tthere_any HM.out.now)
      have hll : (listT (atL (tabF d lg parts parts.length)) 512).length ≤ 512 := listT_len _ _
      have hlm : ∀ l ∈ listT (atL (tabF d lg parts parts.length)) 512, l < 512 := fun l hl => (mem_listT.1 hl).1
      have HPG : Hid (LoadOk d n ep lg parts ↔ ∀ i, i < (listT (atL (tabF d lg parts parts.length)) 512).length → okR d n (usedK (parts ++ ((listT (atL (tabF d lg parts parts.length)) 512).take i).map (atL (tabF d lg parts parts.length)))) ep (atL (tabF d lg parts parts.length) ((listT (atL (tabF d lg parts parts.length)) 512).getD i 0)) 2) := Lib.hid ⟨fun h => h.page, fun h => ⟨HOKP.out, h⟩⟩
      obtain ⟨T, hT⟩ : ∃ T, T = tabF d lg parts parts.length := ⟨_, rfl⟩
      rw [← hT] at HM HTH hll hlm HPG
      obtain ⟨L, hL⟩ : ∃ L, L = listT (atL T) 512 := ⟨_, rfl⟩
      rw [← hL] at HTH hll hlm HPG
      have HT9 := Lib.hid hT
      have HL9 := Lib.hid hL
      clear hT hL
      obtain ⟨wo, hwo⟩ : ∃ wo, wo = wr := ⟨_, rfl⟩
      subst hwo
      have HLL := Lib.hid hll
      have HLM := Lib.hid hlm
      clear hlt ej hj hOK hll hlm
      go_wp2_with fail
      refine (HTH.out).mono ?_
      rintro r w1 ⟨v1, rfl, hn1, hb1⟩
      have N1 := Lib.hid hn1
      have M1' := Lib.hid (HM.out.below hb1)
      have KP1 : Hid (KpS (fun k => k == P || SK k) u w1) := Lib.hid (HKP.out.trans (KpS.of hb1))
      have VN1 : Hid (∀ g, v1.ownBlock = some g → stoS P D bS bm SKj vp g = false) := Lib.hid (fun g hg => by
        have h9 := (hn1.lo g hg).1
        cases c : stoS P D bS bm SKj vp g with
        | false => rfl
        | true => have := (HM.out.s_lo g c).2; omega)
      obtain ⟨a1, cap1, rfl, hc11, hc12, _⟩ := hn1.sl
      clear hn1 hb1 HTH
      go_wp2_with fail
      go_loopw [60] (fun i wr => ∃ j : Nat, j ≤ L.length ∧ i = .int .i64 j ∧ ∃ SKi, Hid (StoM base D P M bS bm cS d n (usedK (parts ++ (L.take j).map (atL T))) ep slot (atL T) ot parts0 vp SKi wr) ∧ Hid (NewB (stoS P D bS bm SK vp) (stoS P D bS bm SKi vp) u) ∧ Hid (KpS (fun k => k == P || SK k) u wr) ∧ Hid (NewL wo.heap.size L (.slice a1 L.length cap1) wr) ∧ Hid (∀ g, (Value.slice a1 L.length cap1).ownBlock = some g → stoS P D bS bm SKi vp g = false) ∧ Hid (∀ i, i < j → okR d n (usedK (parts ++ (L.take i).map (atL T))) ep (atL T (L.getD i 0)) 2)) (fun i _ => L.length - (intOf i).toNat)
      case atStart => exact ⟨0, Nat.zero_le _, rfl, SKj, Lib.hid (by rw [List.take_zero, List.map_nil, List.append_nil]; exact M1'.out), HNB, KP1, N1, VN1, Lib.hid (fun i hi => absurd hi (Nat.not_lt_zero i))⟩
      case round =>
        obtain ⟨i, hi, rfl, SKi, HMi, HNi, HKi, HLi, HVi, HOi⟩ := hrel
        by_cases hlt : i < L.length
        · have hj1 : (i : Int) < (L.length : Int) := by omega
          have hj2 : (0 : Int) ≤ (i : Int) := by omega
          have d1 : decide ((i : Int) < (L.length : Int)) = true := by rw [decide_eq_true_eq]; omega
          have d2 : decide (i < L.length) = true := by rw [decide_eq_true_eq]; omega
          have HLT := Lib.hid hlt
          obtain ⟨_, _, e9, _, _, hsl⟩ := HLi.out.sl
          obtain ⟨b, o, hao, hA⟩ := hsl (by omega)
          simp only [Value.slice.injEq, true_and] at e9
          obtain ⟨rfl, rfl⟩ := e9
          subst hao
          have hcell : wr.cell? ⟨b, o + i, none⟩ = some (.int .i64 (L.getD i 0 : Nat)) := hA.one i hlt
          obtain ⟨l, hle⟩ : ∃ l, l = L.getD i 0 := ⟨_, rfl⟩
          have hli : L[i] = l := by rw [hle, List.getD_eq_getElem?_getD, List.getElem?_eq_getElem hlt]; rfl
          rw [← hle] at hcell
          have hl5 : l < 512 := by rw [← hli]; exact HLM.out _ (List.getElem_mem hlt)
          have HLE := Lib.hid hle
          have HLI := Lib.hid hli
          have hc9 := HMi.out.now.cell hl5
          have hc8 : wr.cell? ⟨P, l + 1, none⟩ = some (.int .i64 (atL T l)) := by rw [Nat.add_comm]; exact hc9
          have l0 : (0 : Int) ≤ (l : Int) := by omega
          have l1 : (l : Int) < 512 := by omega
          have HREI := Lib.hid (HREA.out wr _ _ _ HMi.out (atL T l) 2)
          have HBL : Hid (b < wr.heap.size) := Lib.hid (by obtain ⟨_, _, _, e⟩ := cell_block hcell; exact lt_of_block e)
          generalize hz : atL T l = z at *
          have HZ := Lib.hid hz
          clear hle hli hA hsl hlt hz
          go_wp2_with fail
          refine (HREI.out).mono ?_
          rintro r w2 ⟨SK1, hs1, k1, hcase⟩
          have HNB2 := Lib.hid (NewB.then HNi.out (newB_map hs1) HKi.out.size)
          have HKP2 : Hid (KpS (fun k => k == P || SK k) u w2) := Lib.hid (kps_more HNi.out HMi.out.apart HKi.out k1)
          have HL2 := Lib.hid (HLi.out.kept (fun g hg => (stoS_no (HVi.out g hg)).2.2.1) k1)
          have HVN2 := Lib.hid (fun g (hg : (Value.slice (some ⟨b, o, none⟩) L.length cap1).ownBlock = some g) => stoS_up (HVi.out g hg) (by
            simp only [Value.ownBlock, Option.some.injEq] at hg
            have := HBL.out; omega) hs1)
          clear hs1 k1 HREI hcell hc9 hc8
          rcases hcase with ⟨hok, rfl, hm⟩ | ⟨hno, rfl, _⟩
          · have OK2 := Lib.hid hok
            have EU := Lib.hid (usedK_ok hok).1
            have M2 : Hid (StoM base D P M bS bm cS d n (usedK (parts ++ (L.take (i + 1)).map (atL T))) ep slot (atL T) ot parts0 vp SK1 w2) := Lib.hid (by
              rw [List.take_add_one, List.getElem?_eq_getElem HLT.out, show L[i]'HLT.out = l from HLI.out, List.map_append, ← List.append_assoc]
              rw [EU.out] at hm
              rw [show (some l).toList.map (atL T) = [z] by simp [HZ.out]]
              exact hm)
            have HO2 : Hid (∀ k, k < i + 1 → okR d n (usedK (parts ++ (L.take k).map (atL T))) ep (atL T (L.getD k 0)) 2) := Lib.hid (fun k hk => by
              rcases Nat.lt_succ_iff_lt_or_eq.1 hk with c | rfl
              · exact HOi.out k c
              · rw [← HLE.out, HZ.out]; exact OK2.out)
            clear hm hok
            generalize (readPP d z).pay = pay at *
            go_wp2_with fail
            go_roundw
            case rel => have := HLT.out; exact ⟨i + 1, by omega, by go_num, SK1, M2, HNB2, HKP2, HL2, HVN2, HO2⟩
            case measure => have := HLT.out; simp [intOf]; omega
          · have NOT : Hid (¬ LoadOk d n ep lg parts) := Lib.hid (fun h => by
              have := HPG.out.1 h i HLT.out
              rw [← HLE.out, HZ.out] at this
              exact hno this)
            clear hno
            go_wp2_with fail
            go_ret
            exact ⟨SK1, HNB2.out, HKP2.out, .inr ⟨NOT.out, rfl⟩⟩
        · have ei : i = L.length := by omega
          have d1 : decide ((i : Int) < (L.length : Int)) = false := by rw [decide_eq_false_iff_not]; omega
          have d2 : decide (i < L.length) = false := by rw [decide_eq_false_iff_not]; omega
          rw [ei, List.take_length] at HMi
          have hOi := HOi.out
          rw [ei] at hOi
          have HOK9 := Lib.hid (HPG.out.2 hOi)
          clear hlt ei hi hOi
          go_wp2_with fail
          go_ret
          have HM9 := HMi.out
          rw [HL9.out, HT9.out] at HM9
          exact ⟨SKi, HNi.out, HKi.out, .inl ⟨HOK9.out, rfl, HM9⟩⟩
end

end Go.Proofs.YtdpmpmaepjgndaaGreat
namespace Go.Proofs.YtdpmpmaepjgndaaGreat
open Go.RowKit Go.Deep
set_option linter.unusedVariables false
set_option linter.unusedSimpArgs false
set_option maxRecDepth 100000

/-- the epoch that stands at a place -/
def epAt (s : ByteArray) (a : Nat) : Int := unflip63 (rdI s a 8)
theorem epAt_of {s : ByteArray} {a : Nat} {r : Rt} (hr : RightR r) (h : ∀ j, j < 8 → byD s (a + j) = byD (epR r) j) : epAt s a = r.ep := by
  have h1 := hr.2.2.1
  have h2 := hr.2.2.2.1
  have e : rdI s a 8 = flip63 r.ep := by
    refine rdI_of s a 8 _ (flip63_lo _) (by have := flip63_hi r.ep; omega) ?_
    refine List.ext_getElem (by rw [numsAt_len, beI_len]) fun i h3 h4 => ?_
    have hi : i < 8 := by rw [numsAt_len] at h3; exact h3
    have e1 : ∀ (h5 : i < ((List.range 8).map fun i => byteI s (a + i)).length), ((List.range 8).map fun i => byteI s (a + i))[i] = byteI s (a + i) := fun h5 => by rw [List.getElem_map, List.getElem_range]
    rw [show (numsAt s a 8)[i] = byteI s (a + i) from e1 h3, byteI_byD, h i hi]
    exact byD_nums _ (beI_mem _ _) _ _
  unfold epAt
  rw [e, unflip_flip _ (by omega) (by omega)]
theorem epAt_bytes {s : ByteArray} {a : Nat} {r : Rt} (he : epAt s a = r.ep) {j : Nat} (hj : j < 8) : byD s (a + j) = byD (epR r) j := by
  have e : flip63 r.ep = rdI s a 8 := by
    rw [← he]
    exact flip_unflip _ (rdI_bd s a 8).1 (rdI8_bd s a)
  unfold epR
  rw [e, beI_rdI, byD_nums _ (numsAt_mem s a 8) j (by rw [numsAt_len]; exact hj)]
  have e1 : ∀ (h5 : j < ((List.range 8).map fun i => byteI s (a + i)).length), ((List.range 8).map fun i => byteI s (a + i))[j] = byteI s (a + j) := fun h5 => by rw [List.getElem_map, List.getElem_range]
  exact (byteI_byD s (a + j)).symm.trans (e1 (by rw [List.length_map, List.length_range]; exact hj)).symm
/-- what the numbers under the check are -/
def rtAt (s : ByteArray) : Rt := ⟨epAt s 0, rd2 s 12, (List.range (rd2 s 14).toNat).map fun i => rd2 s (16 + 2 * i)⟩
/-- the check is right -/
def ChkOk (s : ByteArray) : Prop := s.extract 8 56 = layP (s.extract 12 56)
theorem rtAt_len (s : ByteArray) : ((rtAt s).parts.length : Int) = rd2 s 14 := by
  have := rd2_bd s 14
  simp [rtAt]; omega
theorem rtAt_part (s : ByteArray) (i : Nat) (h : i < (rtAt s).parts.length) : (rtAt s).parts[i] = rd2 s (16 + 2 * i) := by
  have e1 : ∀ (h5 : i < ((List.range (rd2 s 14).toNat).map fun i => rd2 s (16 + 2 * i)).length), ((List.range (rd2 s 14).toNat).map fun i => rd2 s (16 + 2 * i))[i] = rd2 s (16 + 2 * i) := fun h5 => by rw [List.getElem_map, List.getElem_range]
  exact e1 h
theorem rd2_17 (s : ByteArray) (i : Nat) : rd2 s (16 + 2 * i) = byD s (16 + 2 * i) * 256 + byD s (17 + 2 * i) := by
  unfold rd2
  rw [show 16 + 2 * i + 1 = 17 + 2 * i by omega]
theorem says_rtAt {s : ByteArray} {x : Rt} (h : SaysR s x) : x = rtAt s ∧ epAt s 56 = epAt s 0 ∧ ChkOk s := by
  have e0 := epAt_of (s := s) (a := 0) h.right fun j hj => by rw [Nat.zero_add]; exact h.ep j hj
  have e1 := epAt_of (s := s) (a := 56) h.right h.again
  refine ⟨?_, e1.trans e0.symm, h.chk⟩
  have hn : rd2 s 14 = (x.parts.length : Int) := h.many
  have hp : x.parts = (rtAt s).parts := List.ext_getElem (by have := rtAt_len s; omega) fun i h1 h2 => by
    exact (h.part i h1).symm.trans ((rd2_17 s i).symm.trans (rtAt_part s i h2).symm)
  have hl : x.lg = (rtAt s).lg := h.lg.symm
  have he : x.ep = (rtAt s).ep := e0.symm
  cases x
  simp only at hp hl he
  rw [hp, hl, he]
theorem rtAt_says {s : ByteArray} (hz : s.size = 64) (h1 : epAt s 56 = epAt s 0) (h2 : ChkOk s) (h3 : RightR (rtAt s)) : SaysR s (rtAt s) :=
  ⟨h3, hz, fun j hj => by have := epAt_bytes (s := s) (a := 0) (r := rtAt s) rfl hj; rwa [Nat.zero_add] at this, fun j hj => epAt_bytes (r := rtAt s) h1 hj, h2, rfl, (rtAt_len s).symm, fun i hi => by rw [rtAt_part s i hi, rd2_17]⟩
/-- the body under the check, when Cut takes it -/
theorem cut_body {s : ByteArray} (hz : s.size = 64) : (ChkOk s ∧ cutSpec (s.extract 8 56) = (s.extract 12 56, 0)) ∨ (¬ ChkOk s ∧ cutSpec (s.extract 8 56) = (⟨#[]⟩, 14)) := by
  have z : (s.extract 8 56).size = 48 := by rw [ByteArray.size_extract]; omega
  have e : (s.extract 8 56).data.toList.drop 4 = (s.extract 12 56).data.toList := by
    have e2 : (s.extract 8 56).extract 4 48 = s.extract 12 56 := by
      apply byD_ext
      · rw [ByteArray.size_extract, z, ByteArray.size_extract]; omega
      · intro j hj
        rw [ByteArray.size_extract, z] at hj
        have hj2 : j < 44 := by simpa using hj
        rw [byD_cut _ _ _ _ (by omega), byD_cut _ _ _ _ (by omega), byD_cut _ _ _ _ (by omega)]
        congr 1; omega
    rw [← ext_drop, z, e2]
  have k : ChkOk s ↔ (s.extract 8 56).data.toList = laidL (s.extract 12 56).data.toList := by
    unfold ChkOk layP
    constructor
    · intro h; rw [h]
    · intro h
      apply ByteArray.ext
      apply Array.ext'
      rw [h]
  unfold cutSpec
  rw [if_neg (by omega), e]
  by_cases c : ChkOk s
  · exact .inl ⟨c, by rw [if_pos (k.1 c)]⟩
  · exact .inr ⟨c, by rw [if_neg fun h => c (k.2 h)]⟩
theorem rd2_body {s : ByteArray} (hz : s.size = 64) {a : Nat} (ha : a + 2 ≤ 44) : rd2 (s.extract 12 56) a = rd2 s (12 + a) := by
  unfold rd2
  rw [byD_cut _ _ _ _ (by omega), byD_cut _ _ _ _ (by omega)]
  rfl

end Go.Proofs.YtdpmpmaepjgndaaGreat
