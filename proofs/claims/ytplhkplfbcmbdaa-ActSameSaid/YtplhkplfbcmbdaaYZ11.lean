/- What the program's act is to answer. The contract of the document's First; its Compare by numbers. The contract of slices.Equal over whole numbers. The contracts of the program's act.Same, Copy, isProcess, isCount, delayOf. -/
import Derived.BigFrame
import Derived.Test.YtplhkplfbcmbdaaYZ7
import Derived.Test.YtplhkplfbcmbdaaYActRef3
import Derived.Test.YtplhkplfbcmbdaaYZ8
import Derived.Test.YtplhkplfbcmbdaaYZ3
namespace Go.Proofs.Ytplhkplfbcmbdaa
open Go.RowKit
set_option linter.unusedVariables false
set_option maxRecDepth 100000

/-- the parts of two events held against each other, one by one: by numbers -/
def keyE (a : Evn) : Nat → Int := fun i => match i with
  | 0 => frank a.t
  | 1 => a.dst
  | 2 => a.src
  | 3 => a.n
  | _ => a.pay
def lexI (c d : Int) : Int := if c ≠ 0 then c else d
def cmpK (a b : Nat → Int) : Int := lexI (cmpI (a 0) (b 0)) (lexI (cmpI (a 1) (b 1)) (lexI (cmpI (a 2) (b 2)) (lexI (cmpI (a 3) (b 3)) (cmpI (a 4) (b 4)))))
def ordE (a b : Evn) : Int := cmpK (keyE a) (keyE b)
/-- how three answers hang together -/
def Tri (x y z : Int) : Prop := (x ≤ 0 → y ≤ 0 → z ≤ 0) ∧ (x < 0 → y ≤ 0 → z < 0) ∧ (x ≤ 0 → y < 0 → z < 0)
def One (x : Int) : Prop := x = -1 ∨ x = 0 ∨ x = 1
theorem cmpI_one (a b : Int) : One (cmpI a b) := by unfold cmpI One; split; · exact .inl rfl
                                                    · split; · exact .inr (.inl rfl)
                                                      · exact .inr (.inr rfl)
theorem cmpI_self (a : Int) : cmpI a a = 0 := by unfold cmpI; rw [if_neg (by omega), if_pos rfl]
theorem cmpI_turn (a b : Int) : cmpI b a = -cmpI a b := by
  unfold cmpI
  rcases Int.lt_trichotomy a b with h | h | h
  · rw [if_neg (by omega), if_neg (by omega), if_pos h]; rfl
  · rw [if_neg (by omega), if_pos h.symm, if_neg (by omega), if_pos h]; rfl
  · rw [if_pos h, if_neg (by omega), if_neg (by omega)]
theorem cmpI_tri (a b c : Int) : Tri (cmpI a b) (cmpI b c) (cmpI a c) := by
  unfold Tri cmpI
  refine ⟨?_, ?_, ?_⟩ <;> (intro h1 h2; repeat' split at h1) <;> (repeat' split at h2) <;> (repeat' split) <;> omega
theorem lexI_one {c d : Int} (h : One c) (k : One d) : One (lexI c d) := by unfold lexI; split <;> assumption
theorem lexI_turn {c d c2 d2 : Int} (h : c2 = -c) (k : d2 = -d) : lexI c2 d2 = -lexI c d := by
  unfold lexI
  by_cases h0 : c = 0
  · rw [if_neg (by omega), if_neg (by omega)]; exact k
  · rw [if_pos (by omega), if_pos h0]; exact h
theorem lexI_tri {x y z x2 y2 z2 : Int} (h : Tri x y z) (k : Tri x2 y2 z2) : Tri (lexI x x2) (lexI y y2) (lexI z z2) := by
  obtain ⟨h1, h2, h3⟩ := h
  obtain ⟨k1, k2, k3⟩ := k
  unfold Tri lexI
  by_cases hx : x = 0
  · by_cases hy : y = 0
    · by_cases hz : z = 0
      · rw [if_neg (by omega), if_neg (by omega), if_neg (by omega)]; exact ⟨k1, k2, k3⟩
      · rw [if_neg (by omega), if_neg (by omega), if_pos hz]; exact ⟨by omega, by omega, by omega⟩
    · by_cases hz : z = 0
      · rw [if_neg (by omega), if_pos hy, if_neg (by omega)]; exact ⟨by omega, by omega, by omega⟩
      · rw [if_neg (by omega), if_pos hy, if_pos hz]; exact ⟨by omega, by omega, by omega⟩
  · by_cases hy : y = 0
    · by_cases hz : z = 0
      · rw [if_pos hx, if_neg (by omega), if_neg (by omega)]; exact ⟨by omega, by omega, by omega⟩
      · rw [if_pos hx, if_neg (by omega), if_pos hz]; exact ⟨by omega, by omega, by omega⟩
    · by_cases hz : z = 0
      · rw [if_pos hx, if_pos hy, if_neg (by omega)]; exact ⟨by omega, by omega, by omega⟩
      · rw [if_pos hx, if_pos hy, if_pos hz]; exact ⟨by omega, by omega, by omega⟩
theorem ordE_one (a b : Evn) : One (ordE a b) := lexI_one (cmpI_one _ _) (lexI_one (cmpI_one _ _) (lexI_one (cmpI_one _ _) (lexI_one (cmpI_one _ _) (cmpI_one _ _))))
theorem ordE_self (a : Evn) : ordE a a = 0 := by simp [ordE, cmpK, cmpI_self, lexI]
theorem ordE_turn (a b : Evn) : ordE b a = -ordE a b := lexI_turn (cmpI_turn _ _) (lexI_turn (cmpI_turn _ _) (lexI_turn (cmpI_turn _ _) (lexI_turn (cmpI_turn _ _) (cmpI_turn _ _))))
theorem ordE_tri (a b c : Evn) : Tri (ordE a b) (ordE b c) (ordE a c) := lexI_tri (cmpI_tri _ _ _) (lexI_tri (cmpI_tri _ _ _) (lexI_tri (cmpI_tri _ _ _) (lexI_tri (cmpI_tri _ _ _) (cmpI_tri _ _ _))))

/-- the program's Compare -/
def CompareAny : Prop := ∀ (a b : Evn) (w : World), Calls Try.prog 22 #[eval8 a, eval8 b] w fun e w' => e = .returned (.int .i64 (ordE a b)) ∧ Below w.heap.size w w'
/-- the program's Same -/
def SameAny8 : Prop := ∀ (a b : Sta) (va vb : Value) (w : World), Sl 1 (gW a.w) a.nw va w → Sl 1 (gW b.w) b.nw vb w → Calls Try.prog 14 #[sval a va, sval b vb] w fun e w' => e = .returned (.bool (sameW a.w b.w a.nw b.nw && decide (a.sent = b.sent) && decide (a.dice = b.dice))) ∧ Below w.heap.size w w'
/-- a state of the call's own -/
def StaAt (base : Nat) (s : Sta) (v : Value) (u : World) : Prop := ∃ vI, v = sval s vI ∧ u.ownsRow base 3 1 vI s.nw (rowCells 1 (gW s.w) s.nw)
theorem StaAt.below {base : Nat} {s : Sta} {v : Value} {u u2 : World} (h : StaAt base s v u) (k : Below u.heap.size u u2) : StaAt base s v u2 := by
  obtain ⟨vI, rfl, h⟩ := h
  exact ⟨vI, rfl, own_below h k⟩
/-- the program's Copy -/
def CopyAny8 : Prop := ∀ (s : Sta) (vI : Value) (w : World), s.nw ≤ 100 → Sl 1 (gW s.w) s.nw vI w → Calls Try.prog 24 #[sval s vI] w fun e w' => ∃ v, e = .returned v ∧ StaAt w.heap.size s v w' ∧ Below w.heap.size w w'
/-- the program's First, Begin, Handle -/
def firstA (m : Mdl) (lp : Int) : Sta × Int := if chkN m ≠ 0 then (sta0, 15) else if lp < 0 ∨ (m.nl : Int) ≤ lp then (sta0, 2) else (firstS m lp.toNat, 0)
def FirstAny : Prop := ∀ (m : Mdl) (vd vp vl vi : Value) (lp : Int) (w : World), MdlAt m vd vp vl vi w → Calls Try.prog 12 #[mval m vd vp vl vi, .int .i64 lp] w fun e w' => ∃ v, e = .returned (.tuple #[v, .int .i64 (firstA m lp).2]) ∧ StaAt w.heap.size (firstA m lp).1 v w' ∧ Below w.heap.size w w'
def beginA (m : Mdl) : Evs × Int := if chkN m ≠ 0 then (evs0, 15) else (beginE m m.ni, 0)
def BeginAny : Prop := ∀ (m : Mdl) (vd vp vl vi : Value) (w : World), MdlAt m vd vp vl vi w → Calls Try.prog 11 #[mval m vd vp vl vi] w fun e w' => ∃ v, e = .returned (.tuple #[v, .int .i64 (beginA m).2]) ∧ EvsAt w.heap.size (beginA m).1 v w' ∧ Below w.heap.size w w'
def handA (m : Mdl) (lp : Int) (s : Sta) (e : Evn) : Hnd := if chkN m ≠ 0 then ⟨sta0, evs0, 0, 15⟩ else handH m lp s e
def HandleAny : Prop := ∀ (m : Mdl) (vd vp vl vi : Value) (lp : Int) (s : Sta) (vI : Value) (e : Evn) (w : World), MdlAt m vd vp vl vi w → Sl 1 (gW s.w) s.nw vI w → (∀ p k, r64v (m.pr p k).b) → Bd (beginM (inpOf m lp s e)) →
  Calls Try.prog 20 #[mval m vd vp vl vi, .int .i64 lp, sval s vI, eval8 e] w fun x w' => ∃ vs ve, x = .returned (.tuple #[vs, ve, .int .i64 (handA m lp s e).f, .int .i64 (handA m lp s e).e]) ∧ StaAt w.heap.size (handA m lp s e).s vs w' ∧ EvsAt w.heap.size (handA m lp s e).l ve w' ∧ Below w.heap.size w w'

end Go.Proofs.Ytplhkplfbcmbdaa
namespace Go.Proofs.Ytplhkplfbcmbdaa
open Go.RowKit Go.Deep
set_option linter.unusedVariables false
set_option maxRecDepth 100000

theorem signI_cmp (a b : Int) : signI a b = cmpI a b := by
  unfold signI cmpI
  rcases Int.lt_trichotomy a b with h | h | h
  · rw [if_pos h, if_pos h]
  · rw [if_neg (by omega), if_neg (by omega), if_neg (by omega), if_pos h]
  · rw [if_neg (by omega), if_pos h, if_neg (by omega), if_neg (by omega)]
theorem cmpE_ord (a b : Evn) : cmpE a b = ordE a b := by
  unfold cmpE firstNZ ordE cmpK lexI
  simp only [partsE, keyE, signI_cmp]
  show (if cmpT a.t b.t ≠ 0 then _ else _) = _
  unfold cmpT
  repeat' split
  all_goals first | rfl | omega
theorem refCompare8_ord (a b : Evn) (w : World) : Calls Try.prog 23 #[eval8 a, eval8 b] w fun e w' => e = .returned (.int .i64 (ordE a b)) ∧ Below w.heap.size w w' := by
  have := refCompare8_any a b w
  rwa [cmpE_ord] at this

set_option maxHeartbeats 1600000 in
theorem refFirst8_any (m : Mdl) (vd vp vl vi : Value) (L : Nat) (w : World) (hm : MdlAt m vd vp vl vi w) (hL : L < m.nl) (h8 : m.wl L ≤ 100) :
    Calls Try.prog 18 #[mval m vd vp vl vi, .int .i64 (L : Int)] w fun e w' => ∃ v, e = .returned v ∧ StaAt w.heap.size (firstS m L) v w' ∧ Below w.heap.size w w' := by
  obtain ⟨i0, hi0, hz0, hz1, hz2⟩ := info_parts info_int7
  obtain ⟨gl, hl1, hl2⟩ := id hm.l
  obtain ⟨al, cl, rfl, ml1, ml2, kl⟩ := hl1
  obtain ⟨bl, ol, rfl, hAL⟩ := kl (by omega)
  have HL2 := Lib.hid (hl2 L hL)
  have HAL := Lib.hid hAL
  unfold mval
  have X1 : Hid (((w.alloc (.cells #[.int .i64 m.seed, .float .f64 m.fin, vd, vp, .slice (some ⟨bl, ol, none⟩) m.nl cl, vi] 28)).alloc (.cells #[.slice none 0 0, .int .i64 0, .int .i64 0] 37)).heap[w.heap.size]? = some (.cells #[.int .i64 m.seed, .float .f64 m.fin, vd, vp, .slice (some ⟨bl, ol, none⟩) m.nl cl, vi] 28)) := (Below.heap_alloc _ _ _ (by rw [World.size_alloc]; omega)).trans (heap_alloc_new w _)
  have Z1 : Hid (((w.alloc (.cells #[.int .i64 m.seed, .float .f64 m.fin, vd, vp, .slice (some ⟨bl, ol, none⟩) m.nl cl, vi] 28)).alloc (.cells #[.slice none 0 0, .int .i64 0, .int .i64 0] 37)).heap[w.heap.size + 1]? = some (.cells #[.slice none 0 0, .int .i64 0, .int .i64 0] 37)) := by
    have := heap_alloc_new (w.alloc (.cells #[.int .i64 m.seed, .float .f64 m.fin, vd, vp, .slice (some ⟨bl, ol, none⟩) m.nl cl, vi] 28)) (.cells #[.slice none 0 0, .int .i64 0, .int .i64 0] 37)
    rwa [World.size_alloc] at this
  have B1 := Lib.hid (bthen (balloc w (.cells #[.int .i64 m.seed, .float .f64 m.fin, vd, vp, .slice (some ⟨bl, ol, none⟩) m.nl cl, vi] 28)) (balloc _ (.cells #[.slice none 0 0, .int .i64 0, .int .i64 0] 37)))
  have hL2 : (L : Int) < (m.nl : Int) := by omega
  have hL0 : (0 : Int) ≤ (L : Int) := by omega
  have hLt : ((L : Nat) : Int).toNat = L := by omega
  have HLn := Lib.hid hL
  have H8 := Lib.hid h8
  clear hl2 kl hAL hm hL h8
  generalize hu : ((w.alloc (.cells #[.int .i64 m.seed, .float .f64 m.fin, vd, vp, .slice (some ⟨bl, ol, none⟩) m.nl cl, vi] 28)).alloc (.cells #[.slice none 0 0, .int .i64 0, .int .i64 0] 37)) = u at *
  go_enter Try.func18, Try.ntmps18
  go_upto_region 1 with fail
  try rw [hu]
  clear hu
  have XA := Lib.hid ((Below.heap_alloc u (.cells #[] 3) _ (lt_of_block X1.out)).trans X1.out)
  have ZA := Lib.hid ((Below.heap_alloc u (.cells #[] 3) _ (lt_of_block Z1.out)).trans Z1.out)
  have BA := Lib.hid (bthen B1.out (balloc u (.cells #[] 3)))
  have EA := Lib.hid (World.ownsRow_lit (base := w.heap.size) (e := 3) (size := 1) u #[] 0 B1.out.size (by decide) rfl)
  have WA := Lib.hid (HL2.out.below BA.out)
  have hA2 := HAL.out.below BA.out
  obtain ⟨c0, c1⟩ := hA2.two L HLn.out
  simp only [gL] at c0 c1
  obtain ⟨m0, m1, m2, m3, m4, m5⟩ := six_cells7 XA.out
  obtain ⟨z0, z1, z2⟩ := three_cells8 ZA.out
  have zf : ∀ q, (u.alloc (.cells #[] 3)).frozen? ⟨w.heap.size + 1, q, none⟩ = false := fun q => Lib.frozen_of_heap ZA.out q
  obtain ⟨aw, cw, ew, lw1, lw2, kw⟩ := id WA.out
  rw [ew] at c1
  clear hA2
  rcases Nat.eq_zero_or_pos (m.wl L) with hz | hnz
  · have HZ := Lib.hid hz
    have hsrc : Src Try.prog i0.size 35 (.slice aw (m.wl L) cw) 0 [] (u.alloc (.cells #[] 3)) := by
      rw [hz]
      cases aw with
      | none => exact Src.ofNil _ Try.underlying35 cw
      | some ad => exact Src.ofSlice _ Try.underlying35 ad 0 cw [] (by simp) (by simp) (by simp)
    have HS := Lib.hid hsrc
    clear hsrc hz kw ew
    go_wp2_with (at_builtin; refine wpList_append_nothing7 rfl _ _ 35 rfl 3 i0 Try.underlying35 hi0 _ 0 0 rfl (Nat.le_refl _) _ rfl HS.out ?_)
    change bodyPost _ _ _ _ _ (World.setCells (u.alloc (.cells #[] 3)) (w.heap.size + 1) 0 [.slice (some ⟨u.heap.size, 0, none⟩) 0 0, .int .i64 0, .int .i64 0])
    have h5 := put_three8 ZA.out (.slice (some ⟨u.heap.size, 0, none⟩) 0 0) (.int .i64 0) (.int .i64 0)
    have LZ := Lib.hid (BA.out.trans (put_low7 (show w.heap.size ≤ w.heap.size + 1 by omega) [.slice (some ⟨u.heap.size, 0, none⟩) 0 0, .int .i64 0, .int .i64 0] 0 (u.alloc (.cells #[] 3))))
    have SA : Hid (StaAt w.heap.size (firstS m L) (.agg #[.slice (some ⟨u.heap.size, 0, none⟩) 0 0, .int .i64 0, .int .i64 0]) (World.setCells (u.alloc (.cells #[] 3)) (w.heap.size + 1) 0 [.slice (some ⟨u.heap.size, 0, none⟩) 0 0, .int .i64 0, .int .i64 0])) := by
      refine ⟨_, rfl, ?_⟩
      rw [show (firstS m L).nw = 0 from HZ.out, rowCells_zero]
      exact own_setCells (own_not EA.out ZA.out (by decide)) _ 0 _ EA.out
    obtain ⟨t0, t1, t2⟩ := three_cells8 h5
    clear h5
    generalize World.setCells (u.alloc (.cells #[] 3)) (w.heap.size + 1) 0 [.slice (some ⟨u.heap.size, 0, none⟩) 0 0, .int .i64 0, .int .i64 0] = w9 at *
    exact bodyPost_ret (v := .agg #[.slice (some ⟨u.heap.size, 0, none⟩) 0 0, .int .i64 0, .int .i64 0]) (by simp [results, Try.results18, go_sem, t0, t1, t2]) rfl ⟨_, rfl, SA.out, LZ.out⟩
  · obtain ⟨bw, ow, rfl, hat⟩ := kw hnz
    have HN := Lib.hid (at_news hat)
    have HB := Lib.hid (BA.out.size)
    have h8 := H8.out
    clear hat ew kw
    go_wp2_with (at_builtin; refine wpList_append_own _ rfl _ _ 35 rfl w.heap.size 3 i0 (.int .i64 0) 1 8 Try.underlying35 hi0 hz0 hz1 hz2 rfl (by decide) _ 0 _ rfl EA.out ⟨bw, ow, none⟩ (m.wl L) cw (rowCells 1 (gW (m.wd L)) (m.wl L)) rfl (rowCells_len _ _ _) HN.out (row_one _ _) (by unfold maxLen; omega) (by omega) HB.out ?_)
    intro v1 w10 hown hgr hnn
    have W10 := Lib.hid hown
    have B10 := Lib.hid (BA.out.trans (below_grown EA.out HB.out hgr))
    have Z10 := Lib.hid (grown_keep7 EA.out hgr ZA.out (by decide))
    obtain ⟨a1, c1, rfl⟩ : ∃ a c, v1 = .slice a (m.wl L) c := by
      rcases hown.2 with ⟨rfl, h⟩ | ⟨g, cap, cur, rfl, _⟩
      · omega
      · exact ⟨_, _, rfl⟩
    clear hown hgr hnn z0 z1 z2 zf
    obtain ⟨z0, z1, z2⟩ := three_cells8 Z10.out
    have zf : ∀ q, w10.frozen? ⟨w.heap.size + 1, q, none⟩ = false := fun q => Lib.frozen_of_heap Z10.out q
    go_wp2_with fail
    change bodyPost _ _ _ _ _ (World.setCells w10 (w.heap.size + 1) 0 [.slice a1 (m.wl L) c1, .int .i64 0, .int .i64 0])
    have h5 := put_three8 Z10.out (.slice a1 (m.wl L) c1) (.int .i64 0) (.int .i64 0)
    have LZ := Lib.hid (B10.out.trans (put_low7 (show w.heap.size ≤ w.heap.size + 1 by omega) [.slice a1 (m.wl L) c1, .int .i64 0, .int .i64 0] 0 w10))
    have SA : Hid (StaAt w.heap.size (firstS m L) (.agg #[.slice a1 (m.wl L) c1, .int .i64 0, .int .i64 0]) (World.setCells w10 (w.heap.size + 1) 0 [.slice a1 (m.wl L) c1, .int .i64 0, .int .i64 0])) := by
      refine ⟨_, rfl, ?_⟩
      have hh := W10.out
      exact own_setCells (own_not hh Z10.out (by decide)) _ 0 _ hh
    obtain ⟨t0, t1, t2⟩ := three_cells8 h5
    clear h5
    generalize World.setCells w10 (w.heap.size + 1) 0 [.slice a1 (m.wl L) c1, .int .i64 0, .int .i64 0] = w9 at *
    exact bodyPost_ret (v := .agg #[.slice a1 (m.wl L) c1, .int .i64 0, .int .i64 0]) (by simp [results, Try.results18, go_sem, t0, t1, t2]) rfl ⟨_, rfl, SA.out, LZ.out⟩

end Go.Proofs.Ytplhkplfbcmbdaa
namespace Go.Proofs.Ytplhkplfbcmbdaa
open Go.RowKit
set_option linter.unusedVariables false

set_option maxHeartbeats 1600000 in
theorem equalW_any (f g : Nat → Int) (n m : Nat) (v1 v2 : Value) (w : World) (h1 : Sl 1 (gW f) n v1 w) (h2 : Sl 1 (gW g) m v2 w) :
    Calls Try.prog 31 #[v1, v2] w fun e w' => e = .returned (.bool (sameW f g n m)) ∧ Below w.heap.size w w' := by
  obtain ⟨a1, c1, rfl, l1, m1, k1⟩ := h1
  obtain ⟨a2, c2, rfl, l2, m2, k2⟩ := h2
  have K1 := Lib.hid k1
  have K2 := Lib.hid k2
  clear k1 k2
  have E : Hid (sameW f g n m = (decide (n = m) && allN (fun i => decide (f i = g i)) n)) := rfl
  have EP : Hid (∀ i, (fun i => decide (f i = g i)) i = decide (f i = g i)) := fun i => rfl
  generalize sameW f g n m = s at *
  generalize (fun i => decide (f i = g i)) = p at *
  go_enter Try.func31, Try.ntmps31
  by_cases hnm : n = m
  · subst hnm
    have E2 : Hid (s = allN p n) := by show _ = _; rw [E.out]; simp
    clear E
    go_wp2_with fail
    go_loopw [13] (fun i wr => ∃ j : Nat, j ≤ n ∧ i = .int .i64 j ∧ allN p j = true ∧ Below w.heap.size w wr) (fun i _ => n - (intOf i).toNat)
    case atStart => exact ⟨0, by omega, rfl, rfl, Below.refl _ _⟩
    case round =>
      obtain ⟨j, hj, rfl, hall, hl⟩ := hrel
      have HL := Lib.hid hl
      have HAll := Lib.hid hall
      clear hall
      by_cases hlt : j < n
      · obtain ⟨b1, o1, rfl, hA1⟩ := K1.out (by omega)
        obtain ⟨b2, o2, rfl, hA2⟩ := K2.out (by omega)
        have hj2 : (j : Int) < (n : Int) := by omega
        have hj0 : (0 : Int) ≤ (j : Int) := by omega
        have y1 := (hA1.below hl).one j hlt
        have y2 := (hA2.below hl).one j hlt
        dsimp only [gW] at y1 y2
        have e := EP.out j
        generalize f j = x at y1 e
        generalize g j = y at y2 e
        clear hl hA1 hA2
        by_cases hxy : x = y
        · have hz : (x != y) = false := by simpa using hxy
          have HP : Hid (p j = true) := by show _ = _; rw [e]; simp [hxy]
          clear e hxy
          go_wp2_with fail
          refine wp_region_held_drew (S := (fun w' => w'.cell? ⟨b1, o1 + j, none⟩ = some (.int .i64 x) ∧ w'.cell? ⟨b2, o2 + j, none⟩ = some (.int .i64 y))) (by kernel_rfl) ?_ (fun hHeld => ?_)
          · exact ⟨y1, y2⟩
          first
            | refine tk0 0 (oi := ⟨_, _, _, _, _, _⟩) rfl ?_
            | refine tk1 0 (oi := ⟨_, _, _, _, _, _⟩) (v := ?_) rfl ?_ ?_; rotate_left; · (intro w5 hSw; (try dsimp only at hSw); go_simp; (try with_reducible rfl))
          try simp only [Act.put, List.setIfInBounds_toArray, List.set_cons_zero, List.set_cons_succ]
          first
            | refine tk0 1 (oi := ⟨_, _, _, _, _, _⟩) rfl ?_
            | refine tk1 1 (oi := ⟨_, _, _, _, _, _⟩) (v := ?_) rfl ?_ ?_; rotate_left; · (intro w5 hSw; (try dsimp only at hSw); go_simp; (try with_reducible rfl))
          try simp only [Act.put, List.setIfInBounds_toArray, List.set_cons_zero, List.set_cons_succ]
          first
            | refine tk0 2 (oi := ⟨_, _, _, _, _, _⟩) rfl ?_
            | refine tk1 2 (oi := ⟨_, _, _, _, _, _⟩) (v := ?_) rfl ?_ ?_; rotate_left; · (intro w5 hSw; (try dsimp only at hSw); go_simp; (try with_reducible rfl))
          try simp only [Act.put, List.setIfInBounds_toArray, List.set_cons_zero, List.set_cons_succ]
          first
            | refine tk0 3 (oi := ⟨_, _, _, _, _, _⟩) rfl ?_
            | refine tk1 3 (oi := ⟨_, _, _, _, _, _⟩) (v := ?_) rfl ?_ ?_; rotate_left; · (intro w5 hSw; (try dsimp only at hSw); go_simp; (try with_reducible rfl))
          try simp only [Act.put, List.setIfInBounds_toArray, List.set_cons_zero, List.set_cons_succ]
          first
            | refine tk0 4 (oi := ⟨_, _, _, _, _, _⟩) rfl ?_
            | refine tk1 4 (oi := ⟨_, _, _, _, _, _⟩) (v := ?_) rfl ?_ ?_; rotate_left; · (intro w5 hSw; (try dsimp only at hSw); go_simp; (try with_reducible rfl))
          try simp only [Act.put, List.setIfInBounds_toArray, List.set_cons_zero, List.set_cons_succ]
          first
            | refine tk0 5 (oi := ⟨_, _, _, _, _, _⟩) rfl ?_
            | refine tk1 5 (oi := ⟨_, _, _, _, _, _⟩) (v := ?_) rfl ?_ ?_; rotate_left; · (intro w5 hSw; (try dsimp only at hSw); go_simp; (try with_reducible rfl))
          try simp only [Act.put, List.setIfInBounds_toArray, List.set_cons_zero, List.set_cons_succ]
          first
            | refine tk0 6 (oi := ⟨_, _, _, _, _, _⟩) rfl ?_
            | refine tk1 6 (oi := ⟨_, _, _, _, _, _⟩) (v := ?_) rfl ?_ ?_; rotate_left; · (intro w5 hSw; (try dsimp only at hSw); go_simp; (try with_reducible rfl))
          try simp only [Act.put, List.setIfInBounds_toArray, List.set_cons_zero, List.set_cons_succ]
          first
            | refine tk0 7 (oi := ⟨_, _, _, _, _, _⟩) rfl ?_
            | refine tk1 7 (oi := ⟨_, _, _, _, _, _⟩) (v := ?_) rfl ?_ ?_; rotate_left; · (intro w5 hSw; (try dsimp only at hSw); go_simp; (try with_reducible rfl))
          try simp only [Act.put, List.setIfInBounds_toArray, List.set_cons_zero, List.set_cons_succ]
          first
            | refine tk0 8 (oi := ⟨_, _, _, _, _, _⟩) rfl ?_
            | refine tk1 8 (oi := ⟨_, _, _, _, _, _⟩) (v := ?_) rfl ?_ ?_; rotate_left; · (intro w5 hSw; (try dsimp only at hSw); go_simp; (try with_reducible rfl))
          try simp only [Act.put, List.setIfInBounds_toArray, List.set_cons_zero, List.set_cons_succ]
          refine wpAnyH_done (by kernel_rfl) ?_ _
          go_wp2_with fail
          go_roundw
          case rel => exact ⟨j + 1, by omega, by go_num, allN_step HAll.out HP.out, bthen HL.out (bdrew _)⟩
          case measure => simp [intOf]; omega
        · have hz : (x != y) = true := by simpa using hxy
          have HP : Hid (p j = false) := by show _ = _; rw [e]; simp [hxy]
          clear e hxy
          go_wp2_with fail
          refine wp_region_held_drew (S := (fun w' => w'.cell? ⟨b1, o1 + j, none⟩ = some (.int .i64 x) ∧ w'.cell? ⟨b2, o2 + j, none⟩ = some (.int .i64 y))) (by kernel_rfl) ?_ (fun hHeld => ?_)
          · exact ⟨y1, y2⟩
          first
            | refine tk0 0 (oi := ⟨_, _, _, _, _, _⟩) rfl ?_
            | refine tk1 0 (oi := ⟨_, _, _, _, _, _⟩) (v := ?_) rfl ?_ ?_; rotate_left; · (intro w5 hSw; (try dsimp only at hSw); go_simp; (try with_reducible rfl))
          try simp only [Act.put, List.setIfInBounds_toArray, List.set_cons_zero, List.set_cons_succ]
          first
            | refine tk0 1 (oi := ⟨_, _, _, _, _, _⟩) rfl ?_
            | refine tk1 1 (oi := ⟨_, _, _, _, _, _⟩) (v := ?_) rfl ?_ ?_; rotate_left; · (intro w5 hSw; (try dsimp only at hSw); go_simp; (try with_reducible rfl))
          try simp only [Act.put, List.setIfInBounds_toArray, List.set_cons_zero, List.set_cons_succ]
          first
            | refine tk0 2 (oi := ⟨_, _, _, _, _, _⟩) rfl ?_
            | refine tk1 2 (oi := ⟨_, _, _, _, _, _⟩) (v := ?_) rfl ?_ ?_; rotate_left; · (intro w5 hSw; (try dsimp only at hSw); go_simp; (try with_reducible rfl))
          try simp only [Act.put, List.setIfInBounds_toArray, List.set_cons_zero, List.set_cons_succ]
          first
            | refine tk0 3 (oi := ⟨_, _, _, _, _, _⟩) rfl ?_
            | refine tk1 3 (oi := ⟨_, _, _, _, _, _⟩) (v := ?_) rfl ?_ ?_; rotate_left; · (intro w5 hSw; (try dsimp only at hSw); go_simp; (try with_reducible rfl))
          try simp only [Act.put, List.setIfInBounds_toArray, List.set_cons_zero, List.set_cons_succ]
          first
            | refine tk0 4 (oi := ⟨_, _, _, _, _, _⟩) rfl ?_
            | refine tk1 4 (oi := ⟨_, _, _, _, _, _⟩) (v := ?_) rfl ?_ ?_; rotate_left; · (intro w5 hSw; (try dsimp only at hSw); go_simp; (try with_reducible rfl))
          try simp only [Act.put, List.setIfInBounds_toArray, List.set_cons_zero, List.set_cons_succ]
          first
            | refine tk0 5 (oi := ⟨_, _, _, _, _, _⟩) rfl ?_
            | refine tk1 5 (oi := ⟨_, _, _, _, _, _⟩) (v := ?_) rfl ?_ ?_; rotate_left; · (intro w5 hSw; (try dsimp only at hSw); go_simp; (try with_reducible rfl))
          try simp only [Act.put, List.setIfInBounds_toArray, List.set_cons_zero, List.set_cons_succ]
          first
            | refine tk0 6 (oi := ⟨_, _, _, _, _, _⟩) rfl ?_
            | refine tk1 6 (oi := ⟨_, _, _, _, _, _⟩) (v := ?_) rfl ?_ ?_; rotate_left; · (intro w5 hSw; (try dsimp only at hSw); go_simp; (try with_reducible rfl))
          try simp only [Act.put, List.setIfInBounds_toArray, List.set_cons_zero, List.set_cons_succ]
          first
            | refine tk0 7 (oi := ⟨_, _, _, _, _, _⟩) rfl ?_
            | refine tk1 7 (oi := ⟨_, _, _, _, _, _⟩) (v := ?_) rfl ?_ ?_; rotate_left; · (intro w5 hSw; (try dsimp only at hSw); go_simp; (try with_reducible rfl))
          try simp only [Act.put, List.setIfInBounds_toArray, List.set_cons_zero, List.set_cons_succ]
          first
            | refine tk0 8 (oi := ⟨_, _, _, _, _, _⟩) rfl ?_
            | refine tk1 8 (oi := ⟨_, _, _, _, _, _⟩) (v := ?_) rfl ?_ ?_; rotate_left; · (intro w5 hSw; (try dsimp only at hSw); go_simp; (try with_reducible rfl))
          try simp only [Act.put, List.setIfInBounds_toArray, List.set_cons_zero, List.set_cons_succ]
          refine wpAnyH_done (by kernel_rfl) ?_ _
          go_wp2_with fail
          go_ret
          exact ⟨by rw [E2.out, allN_false hlt HP.out]; rfl, bthen HL.out (bdrew _)⟩
      · obtain rfl : n = j := by omega
        clear hl
        go_wp2_with fail
        go_ret
        exact ⟨by rw [E2.out, HAll.out]; rfl, HL.out⟩
  · have hz : ((n : Int) != (m : Int)) = true := by simp; omega
    have E2 : Hid (s = false) := by show _ = _; rw [E.out]; simp [hnm]
    clear E hnm
    go_wp2_with fail
    go_ret
    exact ⟨by rw [E2.out]; rfl, Below.refl _ _⟩

end Go.Proofs.Ytplhkplfbcmbdaa
namespace Go.Proofs.Ytplhkplfbcmbdaa
open Go.RowKit Go.Deep
set_option linter.unusedVariables false
set_option maxRecDepth 100000

set_option maxHeartbeats 1600000 in
theorem same8_any (a b : Sta) (va vb : Value) (w : World) (ha : Sl 1 (gW a.w) a.nw va w) (hb : Sl 1 (gW b.w) b.nw vb w) :
    Calls Try.prog 14 #[sval a va, sval b vb] w fun e w' => e = .returned (.bool (sameW a.w b.w a.nw b.nw && decide (a.sent = b.sent) && decide (a.dice = b.dice))) ∧ Below w.heap.size w w' := by
  unfold sval
  have B1 := Lib.hid (bthen (balloc w (.cells #[va, .int .i64 a.sent, .int .i64 a.dice] 37)) (balloc _ (.cells #[vb, .int .i64 b.sent, .int .i64 b.dice] 37)))
  have X1 : ((w.alloc (.cells #[va, .int .i64 a.sent, .int .i64 a.dice] 37)).alloc (.cells #[vb, .int .i64 b.sent, .int .i64 b.dice] 37)).heap[w.heap.size]? = some (.cells #[va, .int .i64 a.sent, .int .i64 a.dice] 37) := (Below.heap_alloc _ _ _ (by rw [World.size_alloc]; omega)).trans (heap_alloc_new w _)
  have X2 : ((w.alloc (.cells #[va, .int .i64 a.sent, .int .i64 a.dice] 37)).alloc (.cells #[vb, .int .i64 b.sent, .int .i64 b.dice] 37)).heap[w.heap.size + 1]? = some (.cells #[vb, .int .i64 b.sent, .int .i64 b.dice] 37) := by
    have := heap_alloc_new (w.alloc (.cells #[va, .int .i64 a.sent, .int .i64 a.dice] 37)) (.cells #[vb, .int .i64 b.sent, .int .i64 b.dice] 37)
    rwa [World.size_alloc] at this
  have HIN := Lib.hid (equalW_any a.w b.w a.nw b.nw va vb _ (ha.below B1.out) (hb.below B1.out))
  have HX := Lib.hid X1
  have HY := Lib.hid X2
  obtain ⟨x0, x1, x2⟩ := three_cells8 X1
  obtain ⟨y0, y1, y2⟩ := three_cells8 X2
  clear X1 X2 ha hb
  obtain ⟨res, hres⟩ : ∃ res, res = (sameW a.w b.w a.nw b.nw && decide (a.sent = b.sent) && decide (a.dice = b.dice)) := ⟨_, rfl⟩
  rw [← hres]
  have E := Lib.hid hres
  clear hres
  generalize sameW a.w b.w a.nw b.nw = sw at *
  generalize hu : (w.alloc (.cells #[va, .int .i64 a.sent, .int .i64 a.dice] 37)).alloc (.cells #[vb, .int .i64 b.sent, .int .i64 b.dice] 37) = u at *
  go_enter Try.func14, Try.ntmps14
  go_upto_region 1 with fail
  try rw [hu]
  clear hu
  cases sw with
  | false =>
    obtain rfl : res = false := E.out
    clear E
    go_wp2_with (go_at_call 31; refine HIN.out.mono ?_; rintro e u2 ⟨rfl, hb2⟩; have B2 := Lib.hid (bthen B1.out hb2); clear hb2)
    go_ret
    exact ⟨rfl, B2.out⟩
  | true =>
    by_cases h1 : a.sent = b.sent
    · have d1 : (a.sent == b.sent) = true := by simp [h1]
      by_cases h2 : a.dice = b.dice
      · have d2 : (a.dice == b.dice) = true := by simp [h2]
        obtain rfl : res = true := by rw [E.out, decide_eq_true h1, decide_eq_true h2]; rfl
        clear h1 h2 E
        go_wp2_with (go_at_call 31; refine HIN.out.mono ?_; rintro e u2 ⟨rfl, hb2⟩; have B2 := Lib.hid (bthen B1.out hb2); obtain ⟨x0, x1, x2⟩ := three_cells8 ((hb2.block _ (lt_of_block HX.out)).trans HX.out); obtain ⟨y0, y1, y2⟩ := three_cells8 ((hb2.block _ (lt_of_block HY.out)).trans HY.out); clear hb2)
        go_ret
        exact ⟨rfl, B2.out⟩
      · have d2 : (a.dice == b.dice) = false := by simp [h2]
        obtain rfl : res = false := by rw [E.out, decide_eq_true h1, decide_eq_false h2]; rfl
        clear h1 h2 E
        go_wp2_with (go_at_call 31; refine HIN.out.mono ?_; rintro e u2 ⟨rfl, hb2⟩; have B2 := Lib.hid (bthen B1.out hb2); obtain ⟨x0, x1, x2⟩ := three_cells8 ((hb2.block _ (lt_of_block HX.out)).trans HX.out); obtain ⟨y0, y1, y2⟩ := three_cells8 ((hb2.block _ (lt_of_block HY.out)).trans HY.out); clear hb2)
        go_ret
        exact ⟨rfl, B2.out⟩
    · have d1 : (a.sent == b.sent) = false := by simp [h1]
      obtain rfl : res = false := by rw [E.out, decide_eq_false h1]; rfl
      clear h1 E
      go_wp2_with (go_at_call 31; refine HIN.out.mono ?_; rintro e u2 ⟨rfl, hb2⟩; have B2 := Lib.hid (bthen B1.out hb2); obtain ⟨x0, x1, x2⟩ := three_cells8 ((hb2.block _ (lt_of_block HX.out)).trans HX.out); obtain ⟨y0, y1, y2⟩ := three_cells8 ((hb2.block _ (lt_of_block HY.out)).trans HY.out); clear hb2)
      go_ret
      exact ⟨rfl, B2.out⟩
theorem sameAny8 : SameAny8 := fun a b va vb w ha hb => same8_any a b va vb w ha hb

theorem delay8_any (m : Mdl) (vd vp vl vi : Value) (n : Int) (w : World) (hd : Sl 1 (gF m.d) m.nd vd w) (h0 : 0 < m.nd) (h8 : m.nd ≤ 8) :
    Calls Try.prog 66 #[mval m vd vp vl vi, .int .i64 n] w fun e w' => e = .returned (.float .f64 (m.d (dlyN m.nd n))) ∧ Below w.heap.size w w' := by
  obtain ⟨ad, cd, rfl, hcd, hcd2, hat⟩ := hd
  obtain ⟨b, o, rfl, hA⟩ := hat h0
  obtain ⟨k1, k2, k3⟩ := dly_mod h0 n
  unfold mval
  have X1 := Lib.hid (heap_alloc_new w (.cells #[.int .i64 m.seed, .float .f64 m.fin, .slice (some ⟨b, o, none⟩) m.nd cd, vp, vl, vi] 28))
  have B1 := Lib.hid (balloc w (.cells #[.int .i64 m.seed, .float .f64 m.fin, .slice (some ⟨b, o, none⟩) m.nd cd, vp, vl, vi] 28))
  have c0 := (hA.below B1.out).one (dlyN m.nd n) k3
  simp only [gF] at c0
  clear hA hat
  generalize hk : dlyN m.nd n = k at *
  clear hk
  obtain ⟨n0, n1, n2, n3, n4, n5⟩ := six_cells7 X1.out
  have e0 : ((m.nd : Int) == 0) = false := by simp; omega
  have bk : ((k : Nat) : Int) < (m.nd : Int) := by omega
  have lk : (0 : Int) ≤ ((k : Nat) : Int) := by omega
  have tk : ((k : Nat) : Int).toNat = k := by omega
  generalize hu : w.alloc (.cells #[.int .i64 m.seed, .float .f64 m.fin, .slice (some ⟨b, o, none⟩) m.nd cd, vp, vl, vi] 28) = u at *
  go_enter Try.func66, Try.ntmps66
  go_upto_region 1 with fail
  try rw [hu]
  clear hu
  by_cases hq : n.tmod m.nd < 0
  · have d0 : decide (n.tmod m.nd < 0) = true := by simp [hq]
    have k1 := k1 hq
    have l2 : -9223372036854775808 ≤ n.tmod m.nd + m.nd := by omega
    have l3 : n.tmod m.nd + m.nd ≤ 9223372036854775807 := by omega
    have l4 : wrap64 (n.tmod m.nd + m.nd) = (k : Int) := by rw [k1]; unfold wrap64; omega
    clear k2 hq
    go_upto_region 4 with fail
    clear k1 d0 l2 l3 l4
    go_wp2_with fail
    go_ret
    exact ⟨rfl, B1.out⟩
  · have d0 : decide (n.tmod m.nd < 0) = false := by simp [hq]
    have k2 := k2 hq
    clear k1 hq
    go_upto_region 4 with fail
    clear k2 d0
    go_wp2_with fail
    go_ret
    exact ⟨rfl, B1.out⟩

def cntB (n : Int) : Bool := decide (0 ≤ n) && decide (n ≤ 1099511627776)
theorem isCount8_any (n : Int) (w : World) : Calls Try.prog 61 #[.int .i64 n] w fun e w' => e = .returned (.bool (cntB n)) ∧ w' = w := by
  go_enter Try.func61, Try.ntmps61
  by_cases h : 0 ≤ n
  · have d0 : decide (0 ≤ n) = true := by simp [h]
    by_cases h2 : n ≤ 1099511627776
    · have d1 : decide (n ≤ 1099511627776) = true := by simp [h2]
      rw [show cntB n = true from by unfold cntB; rw [d0, d1]; rfl]
      clear h h2
      go_wp2_with fail
      go_ret
      exact ⟨rfl, rfl⟩
    · have d1 : decide (n ≤ 1099511627776) = false := by simp; omega
      rw [show cntB n = false from by unfold cntB; rw [d0, d1]; rfl]
      clear h h2
      go_wp2_with fail
      go_ret
      exact ⟨rfl, rfl⟩
  · have d0 : decide (0 ≤ n) = false := by simp; omega
    rw [show cntB n = false from by unfold cntB; rw [d0]; rfl]
    clear h
    go_wp2_with fail
    go_ret
    exact ⟨rfl, rfl⟩

def proB (nl : Nat) (lp : Int) : Bool := decide (0 ≤ lp) && decide (lp < (nl : Int))
theorem isProcess8_any (m : Mdl) (vd vp vi : Value) (al : Option Addr) (cl : Nat) (lp : Int) (w : World) :
    Calls Try.prog 29 #[.agg #[.int .i64 m.seed, .float .f64 m.fin, vd, vp, .slice al m.nl cl, vi], .int .i64 lp] w fun e w' => e = .returned (.bool (proB m.nl lp)) ∧ Below w.heap.size w w' := by
  have X1 := Lib.hid (heap_alloc_new w (.cells #[.int .i64 m.seed, .float .f64 m.fin, vd, vp, .slice al m.nl cl, vi] 28))
  have B1 := Lib.hid (balloc w (.cells #[.int .i64 m.seed, .float .f64 m.fin, vd, vp, .slice al m.nl cl, vi] 28))
  obtain ⟨m0, m1, m2, m3, m4, m5⟩ := six_cells7 X1.out
  obtain ⟨res, hr⟩ : ∃ r, r = proB m.nl lp := ⟨_, rfl⟩
  rw [← hr]
  have E := Lib.hid hr
  clear hr
  generalize hu : w.alloc (.cells #[.int .i64 m.seed, .float .f64 m.fin, vd, vp, .slice al m.nl cl, vi] 28) = u at *
  go_enter Try.func29, Try.ntmps29
  go_upto_region 1 with fail
  try rw [hu]
  clear hu
  by_cases h : 0 ≤ lp
  · have d0 : decide (0 ≤ lp) = true := by simp [h]
    by_cases h2 : lp < (m.nl : Int)
    · have d1 : decide (lp < (m.nl : Int)) = true := by simp [h2]
      obtain rfl : res = true := by rw [E.out]; unfold proB; rw [d0, d1]; rfl
      clear h h2 E
      go_wp2_with fail
      go_ret
      exact ⟨rfl, B1.out⟩
    · have d1 : decide (lp < (m.nl : Int)) = false := by simp; omega
      obtain rfl : res = false := by rw [E.out]; unfold proB; rw [d0, d1]; rfl
      clear h h2 E
      go_wp2_with fail
      go_ret
      exact ⟨rfl, B1.out⟩
  · have d0 : decide (0 ≤ lp) = false := by simp; omega
    obtain rfl : res = false := by rw [E.out]; unfold proB; rw [d0]; rfl
    clear h E
    go_wp2_with fail
    go_ret
    exact ⟨rfl, B1.out⟩

set_option maxHeartbeats 1600000 in
theorem copyAny8 : CopyAny8 := by
  intro s vI w h100 hw
  obtain ⟨i0, hi0, hz0, hz1, hz2⟩ := info_parts info_int7
  obtain ⟨ai, ci, rfl, lw1, lw2, _⟩ := id hw
  unfold sval
  have XW : Hid (((w.alloc (.cells #[.slice ai s.nw ci, .int .i64 s.sent, .int .i64 s.dice] 37)).alloc (.cells #[.slice none 0 0, .int .i64 0, .int .i64 0] 37)).heap[w.heap.size]? = some (.cells #[.slice ai s.nw ci, .int .i64 s.sent, .int .i64 s.dice] 37)) := (Below.heap_alloc _ _ _ (by rw [World.size_alloc]; omega)).trans (heap_alloc_new w _)
  have ZW : Hid (((w.alloc (.cells #[.slice ai s.nw ci, .int .i64 s.sent, .int .i64 s.dice] 37)).alloc (.cells #[.slice none 0 0, .int .i64 0, .int .i64 0] 37)).heap[w.heap.size + 1]? = some (.cells #[.slice none 0 0, .int .i64 0, .int .i64 0] 37)) := by
    have := heap_alloc_new (w.alloc (.cells #[.slice ai s.nw ci, .int .i64 s.sent, .int .i64 s.dice] 37)) (.cells #[.slice none 0 0, .int .i64 0, .int .i64 0] 37)
    rwa [World.size_alloc] at this
  have B1 := Lib.hid (bthen (balloc w (.cells #[.slice ai s.nw ci, .int .i64 s.sent, .int .i64 s.dice] 37)) (balloc _ (.cells #[.slice none 0 0, .int .i64 0, .int .i64 0] 37)))
  have WA := Lib.hid (hw.below B1.out)
  have H8 := Lib.hid h100
  clear hw h100
  generalize hu : ((w.alloc (.cells #[.slice ai s.nw ci, .int .i64 s.sent, .int .i64 s.dice] 37)).alloc (.cells #[.slice none 0 0, .int .i64 0, .int .i64 0] 37)) = u at *
  go_enter Try.func24, Try.ntmps24
  go_upto_region 1 with fail
  try rw [hu]
  clear hu
  have EA := Lib.hid (World.ownsRow_nil (u) w.heap.size 3 1)
  obtain ⟨_, _, ew, _, _, kw⟩ := id WA.out
  simp only [Value.slice.injEq, true_and] at ew
  obtain ⟨rfl, rfl⟩ := ew
  obtain ⟨s0, s1, s2⟩ := three_cells8 XW.out
  have sf : ∀ q, u.frozen? ⟨w.heap.size, q, none⟩ = false := fun q => Lib.frozen_of_heap XW.out q
  have zf : ∀ q, u.frozen? ⟨w.heap.size + 1, q, none⟩ = false := fun q => Lib.frozen_of_heap ZW.out q
  rcases Nat.eq_zero_or_pos s.nw with hz | hnz
  · have HZ := Lib.hid hz
    have hsrc : Src Try.prog i0.size 35 (.slice ai s.nw ci) 0 [] u := by
      rw [hz]
      cases ai with
      | none => exact Src.ofNil _ Try.underlying35 ci
      | some ad => exact Src.ofSlice _ Try.underlying35 ad 0 ci [] (by simp) (by simp) (by simp)
    have HS := Lib.hid hsrc
    have EO : Hid (u.ownsRow w.heap.size 3 1 (.slice none 0 0) s.nw (rowCells 1 (gW s.w) s.nw)) := by
      show World.ownsRow _ _ _ _ _ _ _
      rw [HZ.out, rowCells_zero]; exact EA.out
    clear hsrc hz kw
    go_upto_region 2 with (at_builtin; refine wpList_append_nothing7 rfl _ _ 35 rfl 3 i0 Try.underlying35 hi0 _ 0 0 rfl (Nat.le_refl _) _ rfl HS.out ?_)
    have hne : w.heap.size + 1 ≠ w.heap.size := by omega
    have XV : Hid ((World.setCell u ⟨w.heap.size, 0, none⟩ (.slice none 0 0)).heap[w.heap.size]? = some (.cells #[.slice none 0 0, .int .i64 s.sent, .int .i64 s.dice] 37 (0, 0))) := Joins.block_setCell (i := 0) XW.out (.slice none 0 0)
    have ZV : Hid ((World.setCell u ⟨w.heap.size, 0, none⟩ (.slice none 0 0)).heap[w.heap.size + 1]? = some (.cells #[.slice none 0 0, .int .i64 0, .int .i64 0] 37)) := (Below.heap_setCell u ⟨w.heap.size, 0, none⟩ (.slice none 0 0) _ hne).trans ZW.out
    have OV : Hid ((World.setCell u ⟨w.heap.size, 0, none⟩ (.slice none 0 0)).ownsRow w.heap.size 3 1 (.slice none 0 0) s.nw (rowCells 1 (gW s.w) s.nw)) := own_setCell EO.out (own_not EO.out XW.out (by decide))
    have BV : Hid (Below w.heap.size w (World.setCell u ⟨w.heap.size, 0, none⟩ (.slice none 0 0))) := B1.out.setCell (p := ⟨w.heap.size, 0, none⟩) (Nat.le_refl _) (.slice none 0 0)
    clear hne
    change Code.wp _ _ _ _ (World.setCell u ⟨w.heap.size, 0, none⟩ (.slice none 0 0))
    generalize (World.setCell u ⟨w.heap.size, 0, none⟩ (.slice none 0 0)) = w11 at *
    have zf : ∀ q, w11.frozen? ⟨w.heap.size + 1, q, none⟩ = false := fun q => Lib.frozen_of_heap ZV.out q
    obtain ⟨p0, p1, p2⟩ := three_cells8 XV.out
    obtain ⟨z0, z1, z2⟩ := three_cells8 ZV.out
    go_wp2_with fail
    change bodyPost _ _ _ _ _ (World.setCells w11 (w.heap.size + 1) 0 [.slice none 0 0, .int .i64 s.sent, .int .i64 s.dice])
    have h5 := put_three8 ZV.out (.slice none 0 0) (.int .i64 s.sent) (.int .i64 s.dice)
    have LZ := Lib.hid (BV.out.trans (put_low7 (show w.heap.size ≤ w.heap.size + 1 by omega) [.slice none 0 0, .int .i64 s.sent, .int .i64 s.dice] 0 w11))
    have SA : Hid (StaAt w.heap.size s (.agg #[.slice none 0 0, .int .i64 s.sent, .int .i64 s.dice]) (World.setCells w11 (w.heap.size + 1) 0 [.slice none 0 0, .int .i64 s.sent, .int .i64 s.dice])) := ⟨_, rfl, own_setCells (own_not OV.out ZV.out (by decide)) _ 0 _ OV.out⟩
    obtain ⟨t0, t1, t2⟩ := three_cells8 h5
    clear h5
    generalize World.setCells w11 (w.heap.size + 1) 0 [.slice none 0 0, .int .i64 s.sent, .int .i64 s.dice] = w9 at *
    exact bodyPost_ret (v := .agg #[.slice none 0 0, .int .i64 s.sent, .int .i64 s.dice]) (by simp [results, Try.results24, go_sem, t0, t1, t2]) rfl ⟨_, rfl, SA.out, LZ.out⟩
  · obtain ⟨bw, ow, rfl, hat⟩ := kw hnz
    have HN := Lib.hid (at_news hat)
    have HB := Lib.hid (B1.out.size)
    have h8 := H8.out
    clear hat kw
    go_wp2_with (at_builtin; refine wpList_append_own _ rfl _ _ 35 rfl w.heap.size 3 i0 (.int .i64 0) 1 8 Try.underlying35 hi0 hz0 hz1 hz2 rfl (by decide) _ 0 _ rfl EA.out ⟨bw, ow, none⟩ s.nw ci (rowCells 1 (gW s.w) s.nw) rfl (rowCells_len _ _ _) HN.out (row_one _ _) (by unfold maxLen; omega) (by omega) HB.out ?_)
    intro v1 w10 hown hgr hnn
    have W10 := Lib.hid hown
    have B10 := Lib.hid (B1.out.trans (below_grown EA.out HB.out hgr))
    have X10 := Lib.hid (grown_keep7 EA.out hgr XW.out (by decide))
    have Z10 := Lib.hid (grown_keep7 EA.out hgr ZW.out (by decide))
    obtain ⟨a1, c1, rfl⟩ : ∃ a c, v1 = .slice a s.nw c := by
      rcases hown.2 with ⟨rfl, h⟩ | ⟨g, cap, cur, rfl, _⟩
      · omega
      · exact ⟨_, _, rfl⟩
    clear hown hgr hnn s0 s1 s2 sf zf HB HN h8
    obtain ⟨s0, s1, s2⟩ := three_cells8 X10.out
    have sf : ∀ q, w10.frozen? ⟨w.heap.size, q, none⟩ = false := fun q => Lib.frozen_of_heap X10.out q
    go_upto_region 2 with fail
    have hne : w.heap.size + 1 ≠ w.heap.size := by omega
    have XV : Hid ((World.setCell w10 ⟨w.heap.size, 0, none⟩ (.slice a1 s.nw c1)).heap[w.heap.size]? = some (.cells #[.slice a1 s.nw c1, .int .i64 s.sent, .int .i64 s.dice] 37 (0, 0))) := Joins.block_setCell (i := 0) X10.out (.slice a1 s.nw c1)
    have ZV : Hid ((World.setCell w10 ⟨w.heap.size, 0, none⟩ (.slice a1 s.nw c1)).heap[w.heap.size + 1]? = some (.cells #[.slice none 0 0, .int .i64 0, .int .i64 0] 37)) := (Below.heap_setCell w10 ⟨w.heap.size, 0, none⟩ (.slice a1 s.nw c1) _ hne).trans Z10.out
    have OV : Hid ((World.setCell w10 ⟨w.heap.size, 0, none⟩ (.slice a1 s.nw c1)).ownsRow w.heap.size 3 1 (.slice a1 s.nw c1) s.nw (rowCells 1 (gW s.w) s.nw)) := own_setCell W10.out (own_not W10.out X10.out (by decide))
    have BV : Hid (Below w.heap.size w (World.setCell w10 ⟨w.heap.size, 0, none⟩ (.slice a1 s.nw c1))) := B10.out.setCell (p := ⟨w.heap.size, 0, none⟩) (Nat.le_refl _) (.slice a1 s.nw c1)
    clear hne
    change Code.wp _ _ _ _ (World.setCell w10 ⟨w.heap.size, 0, none⟩ (.slice a1 s.nw c1))
    generalize (World.setCell w10 ⟨w.heap.size, 0, none⟩ (.slice a1 s.nw c1)) = w11 at *
    have zf : ∀ q, w11.frozen? ⟨w.heap.size + 1, q, none⟩ = false := fun q => Lib.frozen_of_heap ZV.out q
    obtain ⟨p0, p1, p2⟩ := three_cells8 XV.out
    obtain ⟨z0, z1, z2⟩ := three_cells8 ZV.out
    go_wp2_with fail
    change bodyPost _ _ _ _ _ (World.setCells w11 (w.heap.size + 1) 0 [.slice a1 s.nw c1, .int .i64 s.sent, .int .i64 s.dice])
    have h5 := put_three8 ZV.out (.slice a1 s.nw c1) (.int .i64 s.sent) (.int .i64 s.dice)
    have LZ := Lib.hid (BV.out.trans (put_low7 (show w.heap.size ≤ w.heap.size + 1 by omega) [.slice a1 s.nw c1, .int .i64 s.sent, .int .i64 s.dice] 0 w11))
    have SA : Hid (StaAt w.heap.size s (.agg #[.slice a1 s.nw c1, .int .i64 s.sent, .int .i64 s.dice]) (World.setCells w11 (w.heap.size + 1) 0 [.slice a1 s.nw c1, .int .i64 s.sent, .int .i64 s.dice])) := ⟨_, rfl, own_setCells (own_not OV.out ZV.out (by decide)) _ 0 _ OV.out⟩
    obtain ⟨t0, t1, t2⟩ := three_cells8 h5
    clear h5
    generalize World.setCells w11 (w.heap.size + 1) 0 [.slice a1 s.nw c1, .int .i64 s.sent, .int .i64 s.dice] = w9 at *
    exact bodyPost_ret (v := .agg #[.slice a1 s.nw c1, .int .i64 s.sent, .int .i64 s.dice]) (by simp [results, Try.results24, go_sem, t0, t1, t2]) rfl ⟨_, rfl, SA.out, LZ.out⟩

end Go.Proofs.Ytplhkplfbcmbdaa
