/- What the program's act is to answer. The contract of the document's First; its Compare by numbers. What is sent comes later, and is numbered: the mathematics of P8.4 and P8.5. What Run and Steps are to answer, told apart from the laws. What an event's handling leaves within its 64 bits, and how far counts and dice come: no Go, no program. -/
import Derived.Test.YthkfaeplmmlnlaaGreatRZ7
import Derived.Test.YthkfaeplmmlnlaaGreatRActRef3
import Derived.Test.YthkfaeplmmlnlaaGreatRZ6
namespace Go.Proofs.YthkfaeplmmlnlaaGreat
open Go.RowKit
set_option linter.unusedVariables false
set_option maxRecDepth 100000

/-- the parts of two events held against each other, one by one: by numbers -/
def keyE (a : Evn) : Nat → Int := fun i => match i with
  | 0 => frank a.t
  | 1 => a.dst
  | 2 => a.src
  | 3 => a.n
  | _ => a.pay
def lexI (c d : Int) : Int := if c ≠ 0 then c else d
def cmpK (a b : Nat → Int) : Int := lexI (cmpI (a 0) (b 0)) (lexI (cmpI (a 1) (b 1)) (lexI (cmpI (a 2) (b 2)) (lexI (cmpI (a 3) (b 3)) (cmpI (a 4) (b 4)))))
def ordE (a b : Evn) : Int := cmpK (keyE a) (keyE b)
/-- how three answers hang together -/
def Tri (x y z : Int) : Prop := (x ≤ 0 → y ≤ 0 → z ≤ 0) ∧ (x < 0 → y ≤ 0 → z < 0) ∧ (x ≤ 0 → y < 0 → z < 0)
def One (x : Int) : Prop := x = -1 ∨ x = 0 ∨ x = 1
theorem cmpI_one (a b : Int) : One (cmpI a b) := by unfold cmpI One; split; · exact .inl rfl
                                                    · split; · exact .inr (.inl rfl)
                                                      · exact .inr (.inr rfl)
theorem cmpI_self (a : Int) : cmpI a a = 0 := by unfold cmpI; rw [if_neg (by omega), if_pos rfl]
theorem cmpI_turn (a b : Int) : cmpI b a = -cmpI a b := by
  unfold cmpI
  rcases Int.lt_trichotomy a b with h | h | h
  · rw [if_neg (by omega), if_neg (by omega), if_pos h]; rfl
  · rw [if_neg (by omega), if_pos h.symm, if_neg (by omega), if_pos h]; rfl
  · rw [if_pos h, if_neg (by omega), if_neg (by omega)]
theorem cmpI_tri (a b c : Int) : Tri (cmpI a b) (cmpI b c) (cmpI a c) := by
  unfold Tri cmpI
  refine ⟨?_, ?_, ?_⟩ <;> (intro h1 h2; repeat' split at h1) <;> (repeat' split at h2) <;> (repeat' split) <;> omega
theorem lexI_one {c d : Int} (h : One c) (k : One d) : One (lexI c d) := by unfold lexI; split <;> assumption
theorem lexI_turn {c d c2 d2 : Int} (h : c2 = -c) (k : d2 = -d) : lexI c2 d2 = -lexI c d := by
  unfold lexI
  by_cases h0 : c = 0
  · rw [if_neg (by omega), if_neg (by omega)]; exact k
  · rw [if_pos (by omega), if_pos h0]; exact h
theorem lexI_tri {x y z x2 y2 z2 : Int} (h : Tri x y z) (k : Tri x2 y2 z2) : Tri (lexI x x2) (lexI y y2) (lexI z z2) := by
  obtain ⟨h1, h2, h3⟩ := h
  obtain ⟨k1, k2, k3⟩ := k
  unfold Tri lexI
  by_cases hx : x = 0
  · by_cases hy : y = 0
    · by_cases hz : z = 0
      · rw [if_neg (by omega), if_neg (by omega), if_neg (by omega)]; exact ⟨k1, k2, k3⟩
      · rw [if_neg (by omega), if_neg (by omega), if_pos hz]; exact ⟨by omega, by omega, by omega⟩
    · by_cases hz : z = 0
      · rw [if_neg (by omega), if_pos hy, if_neg (by omega)]; exact ⟨by omega, by omega, by omega⟩
      · rw [if_neg (by omega), if_pos hy, if_pos hz]; exact ⟨by omega, by omega, by omega⟩
  · by_cases hy : y = 0
    · by_cases hz : z = 0
      · rw [if_pos hx, if_neg (by omega), if_neg (by omega)]; exact ⟨by omega, by omega, by omega⟩
      · rw [if_pos hx, if_neg (by omega), if_pos hz]; exact ⟨by omega, by omega, by omega⟩
    · by_cases hz : z = 0
      · rw [if_pos hx, if_pos hy, if_neg (by omega)]; exact ⟨by omega, by omega, by omega⟩
      · rw [if_pos hx, if_pos hy, if_pos hz]; exact ⟨by omega, by omega, by omega⟩
theorem ordE_one (a b : Evn) : One (ordE a b) := lexI_one (cmpI_one _ _) (lexI_one (cmpI_one _ _) (lexI_one (cmpI_one _ _) (lexI_one (cmpI_one _ _) (cmpI_one _ _))))
theorem ordE_self (a : Evn) : ordE a a = 0 := by simp [ordE, cmpK, cmpI_self, lexI]
theorem ordE_turn (a b : Evn) : ordE b a = -ordE a b := lexI_turn (cmpI_turn _ _) (lexI_turn (cmpI_turn _ _) (lexI_turn (cmpI_turn _ _) (lexI_turn (cmpI_turn _ _) (cmpI_turn _ _))))
theorem ordE_tri (a b c : Evn) : Tri (ordE a b) (ordE b c) (ordE a c) := lexI_tri (cmpI_tri _ _ _) (lexI_tri (cmpI_tri _ _ _) (lexI_tri (cmpI_tri _ _ _) (lexI_tri (cmpI_tri _ _ _) (cmpI_tri _ _ _))))

/- the program's Compare -/
def CompareAny : Prop := ∀ (a b : Evn) (w : World), Calls Tryz.prog 55 #[eval8 a, eval8 b] w fun e w' => e = .returned (.int .i64 (ordE a b)) ∧ Below w.heap.size w w'
/- the program's Same -/
/-- a state of the call's own -/
def StaAt (base : Nat) (s : Sta) (v : Value) (u : World) : Prop := ∃ vI, v = sval s vI ∧ u.ownsRow base 3 1 vI s.nw (rowCells 1 (gW s.w) s.nw)
theorem StaAt.below {base : Nat} {s : Sta} {v : Value} {u u2 : World} (h : StaAt base s v u) (k : Below u.heap.size u u2) : StaAt base s v u2 := by
  obtain ⟨vI, rfl, h⟩ := h
  exact ⟨vI, rfl, own_below h k⟩
/- the program's Copy -/
def CopyAny8 : Prop := ∀ (s : Sta) (vI : Value) (w : World), s.nw ≤ 100 → Sl 1 (gW s.w) s.nw vI w → Calls Tryz.prog 34 #[sval s vI] w fun e w' => ∃ v, e = .returned v ∧ StaAt w.heap.size s v w' ∧ Below w.heap.size w w'
/- the program's First, Begin, Handle -/
def firstA (m : Mdl) (lp : Int) : Sta × Int := if chkN m ≠ 0 then (sta0, 15) else if lp < 0 ∨ (m.nl : Int) ≤ lp then (sta0, 2) else (firstS m lp.toNat, 0)
def FirstAny : Prop := ∀ (m : Mdl) (vd vp vl vi : Value) (lp : Int) (w : World), MdlAt m vd vp vl vi w → Calls Tryz.prog 23 #[mval m vd vp vl vi, .int .i64 lp] w fun e w' => ∃ v, e = .returned (.tuple #[v, .int .i64 (firstA m lp).2]) ∧ StaAt w.heap.size (firstA m lp).1 v w' ∧ Below w.heap.size w w'
def beginA (m : Mdl) : Evs × Int := if chkN m ≠ 0 then (evs0, 15) else (beginE m m.ni, 0)
def BeginAny : Prop := ∀ (m : Mdl) (vd vp vl vi : Value) (w : World), MdlAt m vd vp vl vi w → Calls Tryz.prog 24 #[mval m vd vp vl vi] w fun e w' => ∃ v, e = .returned (.tuple #[v, .int .i64 (beginA m).2]) ∧ EvsAt w.heap.size (beginA m).1 v w' ∧ Below w.heap.size w w'
def handA (m : Mdl) (lp : Int) (s : Sta) (e : Evn) : Hnd := if chkN m ≠ 0 then ⟨sta0, evs0, 0, 15⟩ else handH m lp s e
def HandleAny : Prop := ∀ (m : Mdl) (vd vp vl vi : Value) (lp : Int) (s : Sta) (vI : Value) (e : Evn) (w : World), MdlAt m vd vp vl vi w → Sl 1 (gW s.w) s.nw vI w → (∀ p k, r64v (m.pr p k).b) → Bd (beginM (inpOf m lp s e)) →
  Calls Tryz.prog 31 #[mval m vd vp vl vi, .int .i64 lp, sval s vI, eval8 e] w fun x w' => ∃ vs ve, x = .returned (.tuple #[vs, ve, .int .i64 (handA m lp s e).f, .int .i64 (handA m lp s e).e]) ∧ StaAt w.heap.size (handA m lp s e).s vs w' ∧ EvsAt w.heap.size (handA m lp s e).l ve w' ∧ Below w.heap.size w w'
theorem handA_bad {m : Mdl} {lp : Int} {s : Sta} {e : Evn} (h : chkN m ≠ 0) : handA m lp s e = ⟨sta0, evs0, 0, 15⟩ := if_pos h
theorem handA_good {m : Mdl} {lp : Int} {s : Sta} {e : Evn} (h : chkN m = 0) : handA m lp s e = handH m lp s e := if_neg (by simp [h])

end Go.Proofs.YthkfaeplmmlnlaaGreat
namespace Go.Proofs.YthkfaeplmmlnlaaGreat
open Go.RowKit Go.Deep
set_option linter.unusedVariables false
set_option maxRecDepth 100000

theorem signI_cmp (a b : Int) : signI a b = cmpI a b := by
  unfold signI cmpI
  rcases Int.lt_trichotomy a b with h | h | h
  · rw [if_pos h, if_pos h]
  · rw [if_neg (by omega), if_neg (by omega), if_neg (by omega), if_pos h]
  · rw [if_neg (by omega), if_pos h, if_neg (by omega), if_neg (by omega)]
theorem cmpE_ord (a b : Evn) : cmpE a b = ordE a b := by
  unfold cmpE firstNZ ordE cmpK lexI
  simp only [partsE, keyE, signI_cmp]
  show (if cmpT a.t b.t ≠ 0 then _ else _) = _
  unfold cmpT
  repeat' split
  all_goals first | rfl | omega
theorem refCompare8_ord (a b : Evn) (w : World) : Calls Tryz.prog 60 #[eval8 a, eval8 b] w fun e w' => e = .returned (.int .i64 (ordE a b)) ∧ Below w.heap.size w w' := by
  have := refCompare8_any a b w
  rwa [cmpE_ord] at this

set_option maxHeartbeats 1600000 in
theorem refFirst8_any (m : Mdl) (vd vp vl vi : Value) (L : Nat) (w : World) (hm : MdlAt m vd vp vl vi w) (hL : L < m.nl) (h8 : m.wl L ≤ 100) :
    Calls Tryz.prog 27 #[mval m vd vp vl vi, .int .i64 (L : Int)] w fun e w' => ∃ v, e = .returned v ∧ StaAt w.heap.size (firstS m L) v w' ∧ Below w.heap.size w w' := by
  obtain ⟨i0, hi0, hz0, hz1, hz2⟩ := info_parts info_int7
  obtain ⟨gl, hl1, hl2⟩ := id hm.l
  obtain ⟨al, cl, rfl, ml1, ml2, kl⟩ := hl1
  obtain ⟨bl, ol, rfl, hAL⟩ := kl (by omega)
  have HL2 := Lib.hid (hl2 L hL)
  have HAL := Lib.hid hAL
  unfold mval
  have X1 : Hid (((w.alloc (.cells #[.int .i64 m.seed, .float .f64 m.fin, vd, vp, .slice (some ⟨bl, ol, none⟩) m.nl cl, vi] 28)).alloc (.cells #[.slice none 0 0, .int .i64 0, .int .i64 0] 55)).heap[w.heap.size]? = some (.cells #[.int .i64 m.seed, .float .f64 m.fin, vd, vp, .slice (some ⟨bl, ol, none⟩) m.nl cl, vi] 28)) := (Below.heap_alloc _ _ _ (by rw [World.size_alloc]; omega)).trans (heap_alloc_new w _)
  have Z1 : Hid (((w.alloc (.cells #[.int .i64 m.seed, .float .f64 m.fin, vd, vp, .slice (some ⟨bl, ol, none⟩) m.nl cl, vi] 28)).alloc (.cells #[.slice none 0 0, .int .i64 0, .int .i64 0] 55)).heap[w.heap.size + 1]? = some (.cells #[.slice none 0 0, .int .i64 0, .int .i64 0] 55)) := by
    have := heap_alloc_new (w.alloc (.cells #[.int .i64 m.seed, .float .f64 m.fin, vd, vp, .slice (some ⟨bl, ol, none⟩) m.nl cl, vi] 28)) (.cells #[.slice none 0 0, .int .i64 0, .int .i64 0] 55)
    rwa [World.size_alloc] at this
  have B1 := Lib.hid (bthen (balloc w (.cells #[.int .i64 m.seed, .float .f64 m.fin, vd, vp, .slice (some ⟨bl, ol, none⟩) m.nl cl, vi] 28)) (balloc _ (.cells #[.slice none 0 0, .int .i64 0, .int .i64 0] 55)))
  have hL2 : (L : Int) < (m.nl : Int) := by omega
  have hL0 : (0 : Int) ≤ (L : Int) := by omega
  have hLt : ((L : Nat) : Int).toNat = L := by omega
  have HLn := Lib.hid hL
  have H8 := Lib.hid h8
  clear hl2 kl hAL hm hL h8
  generalize hu : ((w.alloc (.cells #[.int .i64 m.seed, .float .f64 m.fin, vd, vp, .slice (some ⟨bl, ol, none⟩) m.nl cl, vi] 28)).alloc (.cells #[.slice none 0 0, .int .i64 0, .int .i64 0] 55)) = u at *
  go_enter Tryz.func27, Tryz.ntmps27
  go_upto_region 1 with fail
  try rw [hu]
  clear hu
  have XA := Lib.hid ((Below.heap_alloc u (.cells #[] 3) _ (lt_of_block X1.out)).trans X1.out)
  have ZA := Lib.hid ((Below.heap_alloc u (.cells #[] 3) _ (lt_of_block Z1.out)).trans Z1.out)
  have BA := Lib.hid (bthen B1.out (balloc u (.cells #[] 3)))
  have EA := Lib.hid (World.ownsRow_lit (base := w.heap.size) (e := 3) (size := 1) u #[] 0 B1.out.size (by decide) rfl)
  have WA := Lib.hid (HL2.out.below BA.out)
  have hA2 := HAL.out.below BA.out
  obtain ⟨c0, c1⟩ := hA2.two L HLn.out
  simp only [gL] at c0 c1
  obtain ⟨m0, m1, m2, m3, m4, m5⟩ := six_cells7 XA.out
  obtain ⟨z0, z1, z2⟩ := three_cells8 ZA.out
  have zf : ∀ q, (u.alloc (.cells #[] 3)).frozen? ⟨w.heap.size + 1, q, none⟩ = false := fun q => Lib.frozen_of_heap ZA.out q
  obtain ⟨aw, cw, ew, lw1, lw2, kw⟩ := id WA.out
  rw [ew] at c1
  clear hA2
  rcases Nat.eq_zero_or_pos (m.wl L) with hz | hnz
  · have HZ := Lib.hid hz
    have hsrc : Src Tryz.prog i0.size 53 (.slice aw (m.wl L) cw) 0 [] (u.alloc (.cells #[] 3)) := by
      rw [hz]
      cases aw with
      | none => exact Src.ofNil _ Tryz.underlying53 cw
      | some ad => exact Src.ofSlice _ Tryz.underlying53 ad 0 cw [] (by simp) (by simp) (by simp)
    have HS := Lib.hid hsrc
    clear hsrc hz kw ew
    go_wp2_with (at_builtin; refine wpList_append_nothing7 rfl _ _ 53 rfl 3 i0 Tryz.underlying53 hi0 _ 0 0 rfl (Nat.le_refl _) _ rfl HS.out ?_)
    change bodyPost _ _ _ _ _ (World.setCells (u.alloc (.cells #[] 3)) (w.heap.size + 1) 0 [.slice (some ⟨u.heap.size, 0, none⟩) 0 0, .int .i64 0, .int .i64 0])
    have h5 := put_three8 ZA.out (.slice (some ⟨u.heap.size, 0, none⟩) 0 0) (.int .i64 0) (.int .i64 0)
    have LZ := Lib.hid (BA.out.trans (put_low7 (show w.heap.size ≤ w.heap.size + 1 by omega) [.slice (some ⟨u.heap.size, 0, none⟩) 0 0, .int .i64 0, .int .i64 0] 0 (u.alloc (.cells #[] 3))))
    have SA : Hid (StaAt w.heap.size (firstS m L) (.agg #[.slice (some ⟨u.heap.size, 0, none⟩) 0 0, .int .i64 0, .int .i64 0]) (World.setCells (u.alloc (.cells #[] 3)) (w.heap.size + 1) 0 [.slice (some ⟨u.heap.size, 0, none⟩) 0 0, .int .i64 0, .int .i64 0])) := by
      refine ⟨_, rfl, ?_⟩
      rw [show (firstS m L).nw = 0 from HZ.out, rowCells_zero]
      exact own_setCells (own_not EA.out ZA.out (by decide)) _ 0 _ EA.out
    obtain ⟨t0, t1, t2⟩ := three_cells8 h5
    clear h5
    generalize World.setCells (u.alloc (.cells #[] 3)) (w.heap.size + 1) 0 [.slice (some ⟨u.heap.size, 0, none⟩) 0 0, .int .i64 0, .int .i64 0] = w9 at *
    exact bodyPost_ret (v := .agg #[.slice (some ⟨u.heap.size, 0, none⟩) 0 0, .int .i64 0, .int .i64 0]) (by simp [results, Tryz.results27, go_sem, t0, t1, t2]) rfl ⟨_, rfl, SA.out, LZ.out⟩
  · obtain ⟨bw, ow, rfl, hat⟩ := kw hnz
    have HN := Lib.hid (at_news hat)
    have HB := Lib.hid (BA.out.size)
    have h8 := H8.out
    clear hat ew kw
    go_wp2_with (at_builtin; refine wpList_append_own _ rfl _ _ 53 rfl w.heap.size 3 i0 (.int .i64 0) 1 8 Tryz.underlying53 hi0 hz0 hz1 hz2 rfl (by decide) _ 0 _ rfl EA.out ⟨bw, ow, none⟩ (m.wl L) cw (rowCells 1 (gW (m.wd L)) (m.wl L)) rfl (rowCells_len _ _ _) HN.out (row_one _ _) (by unfold maxLen; omega) (by omega) HB.out ?_)
    intro v1 w10 hown hgr hnn
    have W10 := Lib.hid hown
    have B10 := Lib.hid (BA.out.trans (below_grown EA.out HB.out hgr))
    have Z10 := Lib.hid (grown_keep7 EA.out hgr ZA.out (by decide))
    obtain ⟨a1, c1, rfl⟩ : ∃ a c, v1 = .slice a (m.wl L) c := by
      rcases hown.2 with ⟨rfl, h⟩ | ⟨g, cap, cur, rfl, _⟩
      · omega
      · exact ⟨_, _, rfl⟩
    clear hown hgr hnn z0 z1 z2 zf
    obtain ⟨z0, z1, z2⟩ := three_cells8 Z10.out
    have zf : ∀ q, w10.frozen? ⟨w.heap.size + 1, q, none⟩ = false := fun q => Lib.frozen_of_heap Z10.out q
    go_wp2_with fail
    change bodyPost _ _ _ _ _ (World.setCells w10 (w.heap.size + 1) 0 [.slice a1 (m.wl L) c1, .int .i64 0, .int .i64 0])
    have h5 := put_three8 Z10.out (.slice a1 (m.wl L) c1) (.int .i64 0) (.int .i64 0)
    have LZ := Lib.hid (B10.out.trans (put_low7 (show w.heap.size ≤ w.heap.size + 1 by omega) [.slice a1 (m.wl L) c1, .int .i64 0, .int .i64 0] 0 w10))
    have SA : Hid (StaAt w.heap.size (firstS m L) (.agg #[.slice a1 (m.wl L) c1, .int .i64 0, .int .i64 0]) (World.setCells w10 (w.heap.size + 1) 0 [.slice a1 (m.wl L) c1, .int .i64 0, .int .i64 0])) := by
      refine ⟨_, rfl, ?_⟩
      have hh := W10.out
      exact own_setCells (own_not hh Z10.out (by decide)) _ 0 _ hh
    obtain ⟨t0, t1, t2⟩ := three_cells8 h5
    clear h5
    generalize World.setCells w10 (w.heap.size + 1) 0 [.slice a1 (m.wl L) c1, .int .i64 0, .int .i64 0] = w9 at *
    exact bodyPost_ret (v := .agg #[.slice a1 (m.wl L) c1, .int .i64 0, .int .i64 0]) (by simp [results, Tryz.results27, go_sem, t0, t1, t2]) rfl ⟨_, rfl, SA.out, LZ.out⟩

end Go.Proofs.YthkfaeplmmlnlaaGreat
namespace Go.Proofs.YthkfaeplmmlnlaaGreat
open Go.RowKit
set_option linter.unusedVariables false
set_option maxRecDepth 100000

theorem oneR_dice (x : I4) (seed me : Int) (r : Mch) : (oneR x seed me r).dice = r.dice ∨ (oneR x seed me r).dice = wrap64 (r.dice + 1) := by
  unfold oneR
  repeat' split
  all_goals first | exact .inl rfl | exact .inr rfl
theorem runM_dice (pr : Nat → I4) (pl : Nat) (lps seed me : Int) (k : Nat) : ∀ r : Mch, 0 ≤ r.dice → r.dice + k ≤ 4611686018427387904 → r.dice ≤ (runM pr pl lps seed me k r).dice := by
  induction k with
  | zero =>
    intro r h0 h1
    by_cases c : pl ≤ r.pc
    · rw [runM_end c]; exact Int.le_refl _
    · rw [runM_fuel (by omega)]; exact Int.le_refl _
  | succ k ih =>
    intro r h0 h1
    by_cases c : pl ≤ r.pc
    · rw [runM_end c]; exact Int.le_refl _
    · by_cases h2 : (pr r.pc).op = 0
      · rw [runM_halt (by omega) h2]; exact Int.le_refl _
      · by_cases hf : oneF (pr r.pc) lps { r with n := r.n + 1, pc := r.pc + 1 } = 0
        · rw [runM_on (by omega) h2 hf]
          have hw : wrap64 (r.dice + 1) = r.dice + 1 := by unfold wrap64; omega
          rcases oneR_dice (pr r.pc) seed me { r with n := r.n + 1, pc := r.pc + 1 } with h3 | h3
          · have h4 : (oneR (pr r.pc) seed me { r with n := r.n + 1, pc := r.pc + 1 }).dice = r.dice := h3
            have := ih (oneR (pr r.pc) seed me { r with n := r.n + 1, pc := r.pc + 1 }) (by rw [h4]; exact h0) (by rw [h4]; omega)
            rw [h4] at this
            exact this
          · have h4 : (oneR (pr r.pc) seed me { r with n := r.n + 1, pc := r.pc + 1 }).dice = r.dice + 1 := h3.trans hw
            have := ih (oneR (pr r.pc) seed me { r with n := r.n + 1, pc := r.pc + 1 }) (by rw [h4]; omega) (by rw [h4]; omega)
            rw [h4] at this
            omega
        · rw [runM_bad (by omega) h2 hf]; exact Int.le_refl _
/-- one event, as P8.4 and P8.5 say -/
structure LatE (m : Mdl) (lp : Int) (s : Sta) (e : Evn) (hi : Int) (x : Evn) : Prop where
  num : isNum x.t
  later : ford e.t < ford x.t
  fin : leqF x.t m.fin = true
  src : x.src = lp
  lo : s.sent ≤ x.n
  up : x.n < s.sent + hi
  dst : 0 ≤ x.dst ∧ x.dst < m.nl
theorem later_num {t d : Nat} (h : (laterSpec t d).2 = 0) : isNum (laterSpec t d).1 ∧ ford t < ford (laterSpec t d).1 := by
  unfold laterSpec at h ⊢
  cases hq : FloatKind.f64.format.add t d with
  | none => rw [hq] at h; exact absurd (show (7 : Int) = 0 from h) (by decide)
  | some x =>
    rw [hq] at h
    simp only at h ⊢
    by_cases c : isNum t ∧ isNum d ∧ 0 < ford d ∧ isNum x ∧ ford t < ford x
    · rw [if_pos c]; exact ⟨c.2.2.2.1, c.2.2.2.2⟩
    · rw [if_neg c] at h; exact absurd (show (7 : Int) = 0 from h) (by decide)
/-- all of them, and that their numbers rise -/
theorem sentE_later (m : Mdl) (lp : Int) (s : Sta) (e : Evn) (o : Ou) (hd : ∀ q, q < o.ns → 0 ≤ (o.sn q).dst ∧ (o.sn q).dst < m.nl) : ∀ k, k ≤ o.ns → laterB m e o k = true →
    (∀ i, i < (sentE m lp s e o k).n → LatE m lp s e k ((sentE m lp s e o k).f i)) ∧ ∀ i, i + 1 < (sentE m lp s e o k).n → ((sentE m lp s e o k).f i).n + 1 ≤ ((sentE m lp s e o k).f (i + 1)).n
  | 0, _, _ => ⟨fun i hi => absurd hi (Nat.not_lt_zero i), fun i hi => absurd hi (Nat.not_lt_zero _)⟩
  | k + 1, hk, hl => by
    have hl2 : laterB m e o k = true ∧ (whenS m e o k).2 = 0 := by
      rw [show laterB m e o (k + 1) = (laterB m e o k && decide ((whenS m e o k).2 = 0)) from rfl, Bool.and_eq_true, decide_eq_true_eq] at hl
      exact hl
    obtain ⟨h1, h2⟩ := sentE_later m lp s e o hd k (by omega) hl2.1
    have hn := later_num hl2.2
    have old : ∀ i, i < (sentE m lp s e o k).n → LatE m lp s e (k + 1 : Nat) ((sentE m lp s e o k).f i) := fun i hi => by
      have h := h1 i hi
      exact ⟨h.num, h.later, h.fin, h.src, h.lo, by have := h.up; omega, h.dst⟩
    unfold sentE
    by_cases hq : leqF (whenS m e o k).1 m.fin = true
    · rw [if_pos hq]
      refine ⟨fun i hi => ?_, fun i hi => ?_⟩
      · have hi : i < (sentE m lp s e o k).n + 1 := hi
        by_cases c : i = (sentE m lp s e o k).n
        · simp only [Evs.push, if_pos c]
          exact ⟨hn.1, hn.2, hq, rfl, by show s.sent ≤ s.sent + (k : Int); omega, by show s.sent + (k : Int) < s.sent + ((k + 1 : Nat) : Int); omega, hd k (by omega)⟩
        · simp only [Evs.push, if_neg c]
          exact old i (by omega)
      · have hi : i + 1 < (sentE m lp s e o k).n + 1 := hi
        by_cases c : i + 1 = (sentE m lp s e o k).n
        · have h := h1 i (by omega)
          simp only [Evs.push, if_pos c, if_neg (show ¬ i = (sentE m lp s e o k).n by omega)]
          have := h.up
          omega
        · simp only [Evs.push, if_neg c, if_neg (show ¬ i = (sentE m lp s e o k).n by omega)]
          exact h2 i (by omega)
    · rw [if_neg hq]
      exact ⟨old, h2⟩
theorem chk_prog {m : Mdl} (h : chkN m = 0) : ∀ i, i < m.np → (1 ≤ m.pl i ∧ m.pl i ≤ 48) ∧ allN (fun k => insB (m.pr i k) (m.pl i)) (m.pl i) = true := by
  unfold chkN at h
  have hm : mayB m = true := by
    cases hq : mayB m with
    | true => rfl
    | false => rw [hq] at h; exact absurd h (by decide)
  unfold mayB at hm
  simp only [Bool.and_eq_true] at hm
  obtain ⟨_, _, _, hp, _, _⟩ := hm
  intro i hi
  have := (allN_iff _ _).1 hp i hi
  unfold progB from1 at this
  simp only [Bool.and_eq_true, decide_eq_true_eq] at this
  exact this
/-- what ActLater asks of what an event does -/
structure LatH (m : Mdl) (lp : Int) (s : Sta) (e : Evn) (h : Hnd) : Prop where
  bad : h.e ≠ 0 ∨ h.f ≠ 0 → h.l.n = 0 ∧ (h.e ≠ 0 ∨ h.s = s)
  good : h.e = 0 → h.f = 0 → (∀ i, i < h.l.n → LatE m lp s e (h.s.sent - s.sent) (h.l.f i)) ∧ (∀ i, i + 1 < h.l.n → (h.l.f i).n + 1 ≤ (h.l.f (i + 1)).n) ∧ s.sent ≤ h.s.sent ∧ s.dice ≤ h.s.dice ∧ h.s.nw = s.nw ∧ h.l.n ≤ 4 ∧ h.s.sent ≤ 1099511627780 ∧ 0 ≤ s.sent ∧ isNum e.t ∧ 0 ≤ lp ∧ lp < m.nl
theorem handA_later (m : Mdl) (lp : Int) (s : Sta) (e : Evn) : LatH m lp s e (handA m lp s e) := by
  by_cases hc : chkN m = 0
  · rw [handA_good hc]
    unfold handH
    by_cases hb : badArg m lp s e
    · rw [if_pos hb]
      exact ⟨fun _ => ⟨rfl, .inl (by decide)⟩, fun h => absurd h (by decide)⟩
    · rw [if_neg hb]
      by_cases hf : (ouAt m lp s e).f = 0
      · rw [if_neg (by simp [hf])]
        by_cases hl : laterB m e (ouAt m lp s e) (ouAt m lp s e).ns = false
        · rw [if_pos hl]
          exact ⟨fun _ => ⟨rfl, .inr rfl⟩, fun _ h => absurd (show (7 : Int) = 0 from h) (by decide)⟩
        · rw [if_neg hl]
          have hl2 : laterB m e (ouAt m lp s e) (ouAt m lp s e).ns = true := by simpa using hl
          unfold badArg at hb
          simp only [not_or] at hb
          obtain ⟨b0, b1, b2, b3, b4, b5, b6, b7⟩ := hb
          have hlp := (chk_lp hc).1 lp.toNat (by omega)
          have hp : pgOf m lp < m.np := by unfold pgOf; omega
          have hmn : mayN (m.pr (pgOf m lp)) (m.pl (pgOf m lp)) (inpOf m lp s e) = 0 := by
            unfold mayN
            rw [if_pos (chk_prog hc _ hp), if_neg (show ¬ 8 < (inpOf m lp s e).nw from b3)]
          have hw := doU_whl (m.pr (pgOf m lp)) (m.pl (pgOf m lp)) (inpOf m lp s e)
          obtain ⟨w1, w2, w3⟩ := hw.good hmn hf
          have hd : s.dice ≤ (ouAt m lp s e).dice := by
            unfold ouAt doU at hf ⊢
            rw [if_pos hmn] at hf ⊢
            by_cases hq : (wholeM (m.pr (pgOf m lp)) (m.pl (pgOf m lp)) (inpOf m lp s e)).f = 0
            · rw [if_pos hq]
              exact runM_dice _ _ _ _ _ 120 (beginM (inpOf m lp s e)) (by show 0 ≤ s.dice; omega) (by show s.dice + (120 : Nat) ≤ _; omega)
            · rw [if_neg hq] at hf
              exact absurd hf hq
          obtain ⟨l1, l2⟩ := sentE_later m lp s e (ouAt m lp s e) w3 _ (Nat.le_refl _) hl2
          have hns := ouAt_ns m lp s e
          have hsn := sentE_n m lp s e (ouAt m lp s e) (ouAt m lp s e).ns
          refine ⟨fun h => by rcases h with h | h <;> exact absurd rfl h, fun _ _ => ⟨fun i hi => ?_, l2, by show s.sent ≤ s.sent + _; omega, hd, w1, by show (sentE _ _ _ _ _ _).n ≤ 4; omega, by show s.sent + _ ≤ _; omega, by omega, Classical.not_not.1 b2, by omega, by omega⟩⟩
          have := l1 i hi
          exact ⟨this.num, this.later, this.fin, this.src, this.lo, Int.lt_of_lt_of_le this.up (by show s.sent + _ ≤ s.sent + (s.sent + ((ouAt m lp s e).ns : Int) - s.sent); omega), this.dst⟩
      · rw [if_pos hf]
        exact ⟨fun _ => ⟨rfl, .inr rfl⟩, fun _ h => absurd h hf⟩
  · rw [handA_bad hc]
    exact ⟨fun _ => ⟨rfl, .inl (by decide)⟩, fun h => absurd h (by decide)⟩

end Go.Proofs.YthkfaeplmmlnlaaGreat
namespace Go.Proofs.YthkfaeplmmlnlaaGreat
open Go.RowKit
set_option linter.unusedVariables false
set_option maxRecDepth 100000

/-- what comes of a call that hands back an output and an error -/
def Tells (ou : Ou) (mn : Int) (u : World) (e : Ending) (w' : World) : Prop :=
  ∃ aw cw as_ cs, e = .returned (.tuple #[.agg #[.slice aw ou.nw cw, .slice as_ ou.ns cs, .int .i64 ou.dice, .int .i64 ou.f], .int .i64 mn]) ∧ OutAt u.heap.size ou (.agg #[.slice aw ou.nw cw, .slice as_ ou.ns cs, .int .i64 ou.dice, .int .i64 ou.f]) w' ∧ Below u.heap.size u w'
theorem tells_of {ou : Ou} {mn : Int} {u : World} {e : Ending} {w' : World} (h : ∃ v, e = .returned (.tuple #[v, .int .i64 mn]) ∧ OutAt u.heap.size ou v w' ∧ Below u.heap.size u w') : Tells ou mn u e w' := by
  obtain ⟨v, rfl, ho, hb⟩ := h
  obtain ⟨aw, cw, a, c, rfl, h1, h2⟩ := id ho
  exact ⟨aw, cw, a, c, rfl, ho, hb⟩

/-- the program's Run answers as the document's Do does -/
def RunAny : Prop :=
  ∀ (pr : Nat → I4) (pl : Nat) (vp : Value) (i : Inp) (vI : Value) (u : World), Sl 4 (gI pr) pl vp u → Sl 1 (gW i.w) i.nw vI u → Bd (beginM i) → (∀ k, r64v (pr k).b) →
    Calls Tryz.prog 62 #[vp, .agg #[vI, .int .i64 i.pay, .int .i64 i.me, .int .i64 i.lps, .int .i64 i.seed, .int .i64 i.dice]] u (Tells (doU pr pl i) (mayN pr pl i) u)
theorem sl_block {C n b : Nat} {g : Nat → Nat → Value} {u : World} {cs : Array Value} {T : TypeId} {fr : Nat × Nat} (h : u.heap[b]? = some (.cells cs T fr)) (hn : n ≤ 9223372036854775807) (hc : ∀ i, i < n → ∀ j, j < C → cs[i * C + j]? = some (g i j)) :
    Sl C g n (.slice (some ⟨b, 0, none⟩) n n) u := by
  refine ⟨_, n, rfl, Nat.le_refl _, hn, fun _ => ⟨b, 0, rfl, lt_of_block h, fun i hi j hj => ?_⟩⟩
  rw [Lib.cell_of_heap h, Nat.zero_add]
  exact hc i hi j hj
theorem sl_none (C : Nat) (g : Nat → Nat → Value) (u : World) : Sl C g 0 (.slice none 0 0) u := ⟨none, 0, rfl, Nat.le_refl _, by omega, fun h => absurd h (Nat.lt_irrefl 0)⟩
theorem bd_begin {i : Inp} (h1 : r64v i.pay) (h2 : r64v i.me) (h3 : r64v i.lps) (h4 : i.nw ≤ 9223372036854775807) (h5 : ∀ k, r64v (i.w k)) : Bd (beginM i) := by
  refine ⟨fun k => ?_, h5⟩
  unfold beginM r64v at *
  simp only
  repeat' split
  all_goals omega

end Go.Proofs.YthkfaeplmmlnlaaGreat
namespace Go.Proofs.YthkfaeplmmlnlaaGreat
open Go.RowKit
set_option linter.unusedVariables false
set_option maxRecDepth 100000

theorem oneR_sn {x : I4} {seed me : Int} {r : Mch} (h : Bd r) (hs : ∀ q, q < r.ns → r64v (r.sn q).pay) : ∀ q, q < (oneR x seed me r).ns → r64v ((oneR x seed me r).sn q).pay := by
  unfold oneR
  by_cases h1 : x.op = 1
  · rw [if_pos h1]; exact hs
  rw [if_neg h1]
  by_cases h2 : x.op = 2
  · rw [if_pos h2]; exact hs
  rw [if_neg h2]
  by_cases h9 : x.op = 9
  · rw [if_pos h9]; exact hs
  rw [if_neg h9]
  by_cases h10 : x.op = 10
  · rw [if_pos h10]
    split
    · exact hs
    · exact hs
  rw [if_neg h10]
  by_cases h11 : x.op = 11
  · rw [if_pos h11]; exact hs
  rw [if_neg h11]
  by_cases h12 : x.op = 12
  · rw [if_pos h12]
    intro q hq
    have hq : q < r.ns + 1 := hq
    by_cases c : q = r.ns
    · simp only [if_pos c]; exact h.g _
    · simp only [if_neg c]; exact hs q (by omega)
  rw [if_neg h12]
  by_cases h13 : x.op = 13
  · rw [if_pos h13]; exact hs
  rw [if_neg h13]
  by_cases h14 : x.op = 14
  · rw [if_pos h14]; exact hs
  rw [if_neg h14]
  exact hs
theorem runM_sn (pr : Nat → I4) (pl : Nat) (lps seed me : Int) (hb : ∀ k, r64v (pr k).b) (k : Nat) : ∀ r : Mch, Bd r → (∀ q, q < r.ns → r64v (r.sn q).pay) → Bd (runM pr pl lps seed me k r) ∧ ∀ q, q < (runM pr pl lps seed me k r).ns → r64v ((runM pr pl lps seed me k r).sn q).pay := by
  induction k with
  | zero =>
    intro r h hs
    by_cases c : pl ≤ r.pc
    · rw [runM_end c]; exact ⟨h, hs⟩
    · rw [runM_fuel (by omega)]; exact ⟨⟨h.g, h.w⟩, hs⟩
  | succ k ih =>
    intro r h hs
    by_cases c : pl ≤ r.pc
    · rw [runM_end c]; exact ⟨h, hs⟩
    · by_cases h2 : (pr r.pc).op = 0
      · rw [runM_halt (by omega) h2]; exact ⟨⟨h.g, h.w⟩, hs⟩
      · have hB : Bd { r with n := r.n + 1, pc := r.pc + 1 } := ⟨h.g, h.w⟩
        by_cases hf : oneF (pr r.pc) lps { r with n := r.n + 1, pc := r.pc + 1 } = 0
        · rw [runM_on (by omega) h2 hf]
          exact ih _ (oneR_bd (hb r.pc) hB) (oneR_sn hB hs)
        · rw [runM_bad (by omega) h2 hf]; exact ⟨⟨h.g, h.w⟩, hs⟩
theorem runM_diceUp (pr : Nat → I4) (pl : Nat) (lps seed me : Int) (k : Nat) : ∀ r : Mch, 0 ≤ r.dice → r.dice + k ≤ 4611686018427387904 → (runM pr pl lps seed me k r).dice ≤ r.dice + k := by
  induction k with
  | zero =>
    intro r h0 h1
    by_cases c : pl ≤ r.pc
    · rw [runM_end c]; omega
    · rw [runM_fuel (by omega)]; show r.dice ≤ _; omega
  | succ k ih =>
    intro r h0 h1
    by_cases c : pl ≤ r.pc
    · rw [runM_end c]; omega
    · by_cases h2 : (pr r.pc).op = 0
      · rw [runM_halt (by omega) h2]; show r.dice ≤ _; omega
      · by_cases hf : oneF (pr r.pc) lps { r with n := r.n + 1, pc := r.pc + 1 } = 0
        · rw [runM_on (by omega) h2 hf]
          have hw : wrap64 (r.dice + 1) = r.dice + 1 := by unfold wrap64; omega
          rcases oneR_dice (pr r.pc) seed me { r with n := r.n + 1, pc := r.pc + 1 } with h3 | h3
          · have h4 : (oneR (pr r.pc) seed me { r with n := r.n + 1, pc := r.pc + 1 }).dice = r.dice := h3
            have := ih (oneR (pr r.pc) seed me { r with n := r.n + 1, pc := r.pc + 1 }) (by rw [h4]; exact h0) (by rw [h4]; omega)
            rw [h4] at this
            omega
          · have h4 : (oneR (pr r.pc) seed me { r with n := r.n + 1, pc := r.pc + 1 }).dice = r.dice + 1 := h3.trans hw
            have := ih (oneR (pr r.pc) seed me { r with n := r.n + 1, pc := r.pc + 1 }) (by rw [h4]; omega) (by rw [h4]; omega)
            rw [h4] at this
            omega
        · rw [runM_bad (by omega) h2 hf]; show r.dice ≤ _; omega
/-- a model's numbers within their 64 bits -/
structure MdlR (m : Mdl) : Prop where
  b : ∀ p k, r64v (m.pr p k).b
  w : ∀ i k, r64v (m.wd i k)
  pay : ∀ i, r64v (m.ev i).pay
theorem chk_nl {m : Mdl} (h : chkN m = 0) : 1 ≤ m.nl ∧ m.nl ≤ 6 ∧ m.ni ≤ 16 ∧ (∀ i, i < m.nl → m.wl i ≤ 8) ∧ ∀ i, i < m.ni → isNum (m.ev i).t ∧ 0 ≤ (m.ev i).dst ∧ (m.ev i).dst < m.nl := by
  unfold chkN at h
  have hm : mayB m = true := by
    cases hq : mayB m with
    | true => rfl
    | false => rw [hq] at h; exact absurd h (by decide)
  unfold mayB at hm
  simp only [Bool.and_eq_true] at hm
  obtain ⟨hc, _, _, _, hl, he⟩ := hm
  unfold countsB from1 at hc
  simp only [Bool.and_eq_true, decide_eq_true_eq] at hc
  refine ⟨hc.1.1, hc.1.2, hc.2.2.2, fun i hi => ?_, fun i hi => ?_⟩
  · have := (allN_iff _ _).1 hl i hi
    unfold lpB at this
    simp only [Bool.and_eq_true, decide_eq_true_eq] at this
    exact this.2
  · have := (allN_iff _ _).1 he i hi
    unfold evB numF oneOf at this
    simp only [Bool.and_eq_true, decide_eq_true_eq] at this
    exact ⟨this.1, this.2.1, this.2.2⟩
theorem sentE_pay (m : Mdl) (lp : Int) (s : Sta) (e : Evn) (o : Ou) (hp : ∀ q, q < o.ns → r64v (o.sn q).pay) : ∀ k, k ≤ o.ns → ∀ i, i < (sentE m lp s e o k).n → r64v ((sentE m lp s e o k).f i).pay
  | 0, _, i, hi => absurd hi (Nat.not_lt_zero i)
  | k + 1, hk, i, hi => by
    unfold sentE at hi ⊢
    by_cases hq : leqF (whenS m e o k).1 m.fin = true
    · rw [if_pos hq] at hi ⊢
      have hi : i < (sentE m lp s e o k).n + 1 := hi
      by_cases c : i = (sentE m lp s e o k).n
      · simp only [Evs.push, if_pos c]; exact hp k (by omega)
      · simp only [Evs.push, if_neg c]; exact sentE_pay m lp s e o hp k (by omega) i (by omega)
    · rw [if_neg hq] at hi ⊢
      exact sentE_pay m lp s e o hp k (by omega) i hi
/-- what handling an event comes to, where all is within its bounds -/
structure HandOk (m : Mdl) (lp : Int) (s : Sta) (e : Evn) (h : Hnd) : Prop where
  e0 : h.e = 0
  nw : h.s.nw = s.nw
  sent : s.sent ≤ h.s.sent ∧ h.s.sent ≤ s.sent + 4
  dice : s.dice ≤ h.s.dice ∧ h.s.dice ≤ s.dice + 120
  w : ∀ i, r64v (h.s.w i)
  ev : ∀ i, i < h.l.n → LatE m lp s e (h.s.sent - s.sent) (h.l.f i) ∧ r64v (h.l.f i).pay
  ris : ∀ i, i + 1 < h.l.n → (h.l.f i).n + 1 ≤ (h.l.f (i + 1)).n
  n4 : h.l.n ≤ 4
theorem hand_ok {m : Mdl} {lp : Int} {s : Sta} {e : Evn} (hc : chkN m = 0) (hr : MdlR m) (hl0 : 0 ≤ lp) (hl1 : lp < m.nl) (ht : isNum e.t) (hn : s.nw ≤ 8) (hs : 0 ≤ s.sent ∧ s.sent ≤ 1099511627776) (hd : 0 ≤ s.dice ∧ s.dice ≤ 1099511627776) (hw : ∀ i, r64v (s.w i)) (hp : r64v e.pay) : HandOk m lp s e (handH m lp s e) := by
  have hL := handA_later m lp s e
  rw [handA_good hc] at hL
  have hnl := (chk_nl hc).2.1
  have hgood : ¬ badArg m lp s e := by
    unfold badArg
    rintro (g | g | g | g | g | g | g | g)
    · omega
    · omega
    · exact g ht
    · omega
    · omega
    · omega
    · omega
    · omega
  have hB : Bd (beginM (inpOf m lp s e)) := bd_begin hp (show r64v lp by unfold r64v; omega) (show r64v (m.nl : Int) by unfold r64v; omega) (show s.nw ≤ _ by omega) hw
  have hS := runM_sn (m.pr (pgOf m lp)) (m.pl (pgOf m lp)) (m.nl : Int) m.seed lp (hr.b _) 120 (beginM (inpOf m lp s e)) hB (fun q hq => absurd hq (Nat.not_lt_zero q))
  have hlp := (chk_lp hc).1 lp.toNat (by omega)
  have hpg : pgOf m lp < m.np := by unfold pgOf; omega
  have hmn : mayN (m.pr (pgOf m lp)) (m.pl (pgOf m lp)) (inpOf m lp s e) = 0 := by
    unfold mayN
    rw [if_pos (chk_prog hc _ hpg), if_neg (show ¬ 8 < (inpOf m lp s e).nw from by show ¬ 8 < s.nw; omega)]
  unfold handH at hL ⊢
  rw [if_neg hgood] at hL ⊢
  by_cases hf : (ouAt m lp s e).f = 0
  · have hrun : ouAt m lp s e = ⟨(wholeM (m.pr (pgOf m lp)) (m.pl (pgOf m lp)) (inpOf m lp s e)).nw, (wholeM (m.pr (pgOf m lp)) (m.pl (pgOf m lp)) (inpOf m lp s e)).w, (wholeM (m.pr (pgOf m lp)) (m.pl (pgOf m lp)) (inpOf m lp s e)).ns, (wholeM (m.pr (pgOf m lp)) (m.pl (pgOf m lp)) (inpOf m lp s e)).sn, (wholeM (m.pr (pgOf m lp)) (m.pl (pgOf m lp)) (inpOf m lp s e)).dice, 0⟩ := by
      unfold ouAt doU at hf ⊢
      rw [if_pos hmn] at hf ⊢
      by_cases hq : (wholeM (m.pr (pgOf m lp)) (m.pl (pgOf m lp)) (inpOf m lp s e)).f = 0
      · rw [if_pos hq]
      · rw [if_neg hq] at hf; exact absurd hf hq
    rw [if_neg (by simp [hf])] at hL ⊢
    by_cases hl : laterB m e (ouAt m lp s e) (ouAt m lp s e).ns = false
    · rw [if_pos hl]
      exact ⟨rfl, rfl, ⟨Int.le_refl _, by show s.sent ≤ s.sent + 4; omega⟩, ⟨Int.le_refl _, by show s.dice ≤ s.dice + 120; omega⟩, hw, fun i hi => absurd hi (Nat.not_lt_zero i), fun i hi => absurd hi (Nat.not_lt_zero _), Nat.zero_le _⟩
    · rw [if_neg hl] at hL ⊢
      obtain ⟨g1, g2, g3, g4, g5, g6, _⟩ := hL.good rfl rfl
      have hns := ouAt_ns m lp s e
      refine ⟨rfl, g5, ⟨g3, ?_⟩, ⟨g4, ?_⟩, ?_, fun i hi => ⟨g1 i hi, ?_⟩, g2, g6⟩
      · show s.sent + ((ouAt m lp s e).ns : Int) ≤ s.sent + 4; omega
      · show (ouAt m lp s e).dice ≤ s.dice + 120
        rw [hrun]
        exact runM_diceUp _ _ _ _ _ 120 (beginM (inpOf m lp s e)) (by show 0 ≤ s.dice; omega) (by show s.dice + (120 : Nat) ≤ _; omega)
      · show ∀ i, r64v ((ouAt m lp s e).w i)
        rw [hrun]; exact hS.1.w
      · exact sentE_pay m lp s e (ouAt m lp s e) (by rw [hrun]; exact hS.2) _ (Nat.le_refl _) i hi
  · rw [if_pos hf]
    exact ⟨rfl, rfl, ⟨Int.le_refl _, by show s.sent ≤ s.sent + 4; omega⟩, ⟨Int.le_refl _, by show s.dice ≤ s.dice + 120; omega⟩, hw, fun i hi => absurd hi (Nat.not_lt_zero i), fun i hi => absurd hi (Nat.not_lt_zero _), Nat.zero_le _⟩

end Go.Proofs.YthkfaeplmmlnlaaGreat
