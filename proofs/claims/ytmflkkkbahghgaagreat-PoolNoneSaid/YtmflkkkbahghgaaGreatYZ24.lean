/- The contracts of the document's Kept, Free, Pages, Next, Abort. The contracts of the document's set and Next. The contract of the document's Full. (Moved out of PgR1.) -/
import Derived.Test.YtmflkkkbahghgaaGreatYZ23
import Derived.Test.YtmflkkkbahghgaaGreatYZ6
import Derived.Test.YtmflkkkbahghgaaGreatYZ1
import Derived.Test.YtmflkkkbahghgaaGreatYZ7
namespace Go.Proofs.YtmflkkkbahghgaaGreat
open Go.RowKit Go.Deep
set_option linter.unusedVariables false
set_option linter.unusedSimpArgs false
set_option maxRecDepth 100000

theorem cell_stays {u u2 : World} (k : Below u.heap.size u u2) {a : Addr} {v : Value} (h : u.cell? a = some v) : u2.cell? a = some v := by
  obtain ⟨_, _, _, e⟩ := cell_block h
  exact (World.cell?_of_block (k.block _ (lt_of_block e))).trans h
section
variable {base Q : Nat} {x : Stt} {l : List Slt} {v : Value} {u : World}
set_option maxHeartbeats 1600000 in
theorem rkept14_any (h : RSh base Q x u) (hl2 : x.old.length ≤ 512) : Calls Tryz.prog 122 #[.pointer (some ⟨Q, 0, none⟩)] u fun r u' => r = .returned (.int .i64 (keptS x.old)) ∧ Below u.heap.size u u' := by
  obtain ⟨a1, c1, a2, c2, x0, x1, x2, x3, h1, h2, _⟩ := h.cells
  have HT := Lib.hid (fun w (k : Below u.heap.size u w) => rthere_any (h2.below k) hl2)
  have HN := Lib.hid (rneed_any (x.old.length : Int) ⟨by omega, by omega⟩)
  have HW : Hid (IntKind.i64.wrap ((thereS x.old : Int) + needR (x.old.length : Int)) = keptS x.old) := Lib.hid (by
    have h3 := cntB_le (isS x.old) x.old.length
    have h4 := need_le (n := (x.old.length : Int)) (by omega)
    unfold keptS
    rw [IntKind.wrap_i64]
    unfold thereS
    omega)
  clear h h1 h2 x0 x1 x3
  go_enter Tryz.func122, Tryz.ntmps122
  go_upto_region 1 with fail
  refine wp_region_held_drew (S := (fun w' => w'.cell? ⟨Q, 2, none⟩ = some (.slice a2 x.old.length c2))) (by kernel_rfl) x2 (fun hHeld => ?_)
  change wpAnyH _ _ _ _ _ _ _ _ (World.drew u)
  have B := Lib.hid (bdrew u)
  have X2 : (World.drew u).cell? ⟨Q, 2, none⟩ = some (.slice a2 x.old.length c2) := x2
  clear x2
  generalize World.drew u = w4 at *
  first | refine tq0 0 rfl ?_ | refine tq1 0 rfl ?_
  try go_frame
  first | refine tq0 1 rfl ?_ | refine tq1 1 rfl ?_
  try go_frame
  first | refine tq0 2 rfl ?_ | refine tq1 2 rfl ?_
  try go_frame
  first | refine tq0 3 rfl ?_ | refine tq1 3 rfl ?_
  try go_frame
  first | refine tq0 5 rfl ?_ | refine tq1 5 rfl ?_
  try go_frame
  first | refine tq0 6 rfl ?_ | refine tq1 6 rfl ?_
  try go_frame
  first | refine tq0 7 rfl ?_ | refine tq1 7 rfl ?_
  try go_frame
  first | refine tq0 8 rfl ?_ | refine tq1 8 rfl ?_
  try go_frame
  first | refine tq0 9 rfl ?_ | refine tq1 9 rfl ?_
  try go_frame
  refine wpAnyH_ready (rs := [4]) (by kernel_rfl) (by simp) ?_
  refine AllReadyH.cons (o := ⟨_, _, _, _, _, _⟩) rfl (fun Kx hKx => ?_) AllReadyH.nil
  go_simp
  refine (HT.out _ B.out).mono ?_
  rintro e w5 ⟨rfl, hw⟩
  rw [hw]
  clear hw w5
  refine hKx.out _ _ X2 (fun hHeld => ?_)
  clear hKx Kx
  try simp only [Act.put, List.setIfInBounds_toArray, List.set_cons_zero, List.set_cons_succ]
  refine wpAnyH_ready (rs := [10]) (by kernel_rfl) (by simp) ?_
  refine AllReadyH.cons (o := ⟨_, _, _, _, _, _⟩) rfl (fun Kx hKx => ?_) AllReadyH.nil
  go_simp
  refine (HN.out _).mono ?_
  rintro e w5 ⟨rfl, hw⟩
  rw [hw]
  clear hw w5
  refine hKx.out _ _ X2 (fun hHeld => ?_)
  clear hKx Kx
  try simp only [Act.put, List.setIfInBounds_toArray, List.set_cons_zero, List.set_cons_succ]
  first | refine tq0 11 rfl ?_ | refine tq1 11 rfl ?_
  try go_frame
  first | refine tq0 12 rfl ?_ | refine tq1 12 rfl ?_
  try go_frame
  refine wpAnyH_done (by kernel_rfl) ?_ _
  clear hHeld
  go_wp2_with fail
  go_ret
  exact ⟨by rw [← HW.out]; rfl, B.out⟩
set_option maxHeartbeats 1600000 in
theorem rfree14_any (h : RSh base Q x u) (hl : x.now.length ≤ 512) (hl2 : x.old.length ≤ 512) (hm : 0 ≤ x.many ∧ x.many ≤ 100000) : Calls Tryz.prog 75 #[.pointer (some ⟨Q, 0, none⟩)] u fun r u' => r = .returned (.int .i64 (freeS x.many x.now x.old)) ∧ Below u.heap.size u u' := by
  obtain ⟨a1, c1, a2, c2, x0, x1, x2, x3, h1, h2, _⟩ := h.cells
  have HK := Lib.hid (fun w (k : Below u.heap.size u w) => rkept14_any (h.below k) hl2)
  have HF := Lib.hid (fun w (k : Below u.heap.size u w) => rfresh14_any (h.below k) hl)
  have h3 := cntB_le (isS x.old) x.old.length
  have h4 := need_le (n := (x.old.length : Int)) (by omega)
  have h5 := cntB_le (newS x.now) x.now.length
  have hk : 0 ≤ keptS x.old ∧ keptS x.old ≤ 1000 := by unfold keptS thereS; omega
  have W1 : IntKind.i64.wrap (x.many - keptS x.old) = x.many - keptS x.old := by rw [IntKind.wrap_i64]; omega
  have W2 : IntKind.i64.wrap (x.many - keptS x.old - (freshS x.now : Int)) = freeS x.many x.now x.old := by
    unfold freeS
    rw [IntKind.wrap_i64]
    unfold freshS
    omega
  have HW1 := Lib.hid W1
  have HW2 := Lib.hid W2
  clear h h1 h2 h3 h4 h5 hk W1 W2 x1 x2 x3
  generalize keptS x.old = kp at *
  generalize freeS x.many x.now x.old = fq at *
  generalize freshS x.now = fs at *
  go_enter Tryz.func75, Tryz.ntmps75
  go_upto_region 1 with fail
  refine wp_region_held_drew (S := (fun w' => w'.cell? ⟨Q, 0, none⟩ = some (.int .i64 x.many))) (by kernel_rfl) x0 (fun hHeld => ?_)
  change wpAnyH _ _ _ _ _ _ _ _ (World.drew u)
  have B := Lib.hid (bdrew u)
  have X2 : (World.drew u).cell? ⟨Q, 0, none⟩ = some (.int .i64 x.many) := x0
  clear x0
  generalize World.drew u = w4 at *
  first | refine tq0 0 rfl ?_ | refine tq1 0 rfl ?_
  try go_frame
  first | refine tq0 1 rfl ?_ | refine tq1 1 rfl ?_
  try go_frame
  first | refine tq0 2 rfl ?_ | refine tq1 2 rfl ?_
  try go_frame
  first | refine tq0 3 rfl ?_ | refine tq1 3 rfl ?_
  try go_frame
  first | refine tq0 4 rfl ?_ | refine tq1 4 rfl ?_
  try go_frame
  first | refine tq0 7 rfl ?_ | refine tq1 7 rfl ?_
  try go_frame
  refine wpAnyH_ready (rs := [5]) (by kernel_rfl) (by simp) ?_
  refine AllReadyH.cons (o := ⟨_, _, _, _, _, _⟩) rfl (fun Kx hKx => ?_) AllReadyH.nil
  go_simp
  refine (HK.out _ B.out).mono ?_
  rintro e w5 ⟨rfl, hb⟩
  have X5 := cell_stays hb X2
  have B5 := Lib.hid (bthen B.out hb)
  clear hb X2
  refine hKx.out _ _ X5 (fun hHeld => ?_)
  clear hKx Kx
  try simp only [Act.put, List.setIfInBounds_toArray, List.set_cons_zero, List.set_cons_succ]
  first | refine tq0 6 rfl ?_ | refine tq1 6 rfl ?_
  try go_frame
  refine wpAnyH_ready (rs := [8]) (by kernel_rfl) (by simp) ?_
  refine AllReadyH.cons (o := ⟨_, _, _, _, _, _⟩) rfl (fun Kx hKx => ?_) AllReadyH.nil
  go_simp
  refine (HF.out _ B5.out).mono ?_
  rintro e w6 ⟨rfl, hw⟩
  rw [hw]
  clear hw w6
  refine hKx.out _ _ X5 (fun hHeld => ?_)
  clear hKx Kx
  try simp only [Act.put, List.setIfInBounds_toArray, List.set_cons_zero, List.set_cons_succ]
  first | refine tq0 9 rfl ?_ | refine tq1 9 rfl ?_
  try go_frame
  first | refine tq0 10 rfl ?_ | refine tq1 10 rfl ?_
  try go_frame
  refine wpAnyH_done (by kernel_rfl) ?_ _
  clear hHeld
  go_wp2_with fail
  go_ret
  refine ⟨?_, B5.out⟩
  have e9 : IntKind.i64.wrap (IntKind.i64.wrap (x.many - kp) - (fs : Int)) = fq := by rw [HW1.out]; exact HW2.out
  rw [← e9]
  rfl
end

end Go.Proofs.YtmflkkkbahghgaaGreat
namespace Go.Proofs.YtmflkkkbahghgaaGreat
open Go.RowKit Go.Deep
set_option linter.unusedVariables false
set_option linter.unusedSimpArgs false
set_option maxRecDepth 100000

theorem infoSlot14 : (Tryz.prog.info? 52).map (fun i => (i.zero, i.size, i.bytes)) = some (some (.agg #[.bool false, .bool false, .string ByteArray.empty]), 3, 24) := by kernel_rfl
def sltV (s : Slt) : List Value := [.bool s.is, .bool s.fr, .string s.b]
theorem own_empty14 {u : World} {base g : Nat} {T : TypeId} {C : Nat} (h : u.heap[g]? = some (.cells #[] T (0, 0))) (hb : base ≤ g) : u.ownsRow base T C (.slice (some ⟨g, 0, none⟩) 0 0) 0 [] :=
  ⟨by simp, .inr ⟨g, 0, #[], rfl, hb, h, Nat.le_refl _, by unfold maxLen; omega, by simp, by simp⟩⟩
theorem lit3 (w : World) (s : Slt) : ∀ j v, (sltV s)[j]? = some v → (w.alloc (.cells #[.bool s.is, .bool s.fr, .string s.b] 52)).cell? ((⟨w.heap.size, 0, none⟩ : Addr).add j) = some v := by
  intro j v hj
  rw [add_plain, Lib.cell_of_heap (heap_alloc_new w _), Nat.zero_add]
  rw [show (#[Value.bool s.is, .bool s.fr, .string s.b] : Array Value) = (sltV s).toArray from rfl, List.getElem?_toArray]
  exact hj
theorem sltV_one (s : Slt) : ∀ v ∈ sltV s, v.oneCell' = true := by
  intro v hv
  unfold sltV at hv
  simp only [List.mem_cons, List.not_mem_nil, or_false] at hv
  rcases hv with rfl | rfl | rfl <;> rfl
theorem slG_row (l : List Slt) (k : Nat) : rowCells 3 (slG l) k ++ sltV (slA l k) = rowCells 3 (slG l) (k + 1) := rowCells_succ (by omega) (slG l) k (sltV (slA l k)) rfl (fun j hj => by
  rcases j with _ | _ | _ | j
  · rfl
  · rfl
  · rfl
  · omega)
section
variable {base Q : Nat} {x : Stt} {l : List Slt} {v : Value} {u : World}
set_option maxHeartbeats 3200000 in
theorem rset14_any (h : SRow base l v u) (hl : l.length ≤ 512) (i : Nat) (hi : i < 512) (s : Slt) : Calls Tryz.prog 76 #[v, .int .i64 (i : Int), .agg #[.bool s.is, .bool s.fr, .string s.b]] u fun r u' => ∃ v', r = .returned v' ∧ SRow u.heap.size (setS l i s) v' u' ∧ Below u.heap.size u u' := by
  obtain ⟨i0, hi0, hz0, hz1, hz2⟩ := info_parts infoSlot14
  obtain ⟨a, c, rfl⟩ := h.form
  have X0 := Lib.hid (heap_alloc_new u (.cells #[.bool s.is, .bool s.fr, .string s.b] 52))
  have B0 := Lib.hid (balloc u (.cells #[.bool s.is, .bool s.fr, .string s.b] 52))
  have R := Lib.hid (h.below B0.out)
  clear h
  go_enter Tryz.func76, Tryz.ntmps76
  go_upto_region 1 with fail
  obtain ⟨C, hC⟩ : ∃ C, C = u.heap.size := ⟨_, rfl⟩
  rw [← hC] at X0 B0 ⊢
  have HC := Lib.hid hC
  clear hC
  generalize u.alloc (.cells #[.bool s.is, .bool s.fr, .string s.b] 52) = u1 at *
  have X1 := Lib.hid (heap_alloc_new u1 (.cells #[] 52))
  have B1 := Lib.hid (balloc u1 (.cells #[] 52))
  have LC := Lib.hid (lt_of_block X0.out)
  have OE := Lib.hid (own_empty14 (C := 3) (base := u1.heap.size) X1.out (Nat.le_refl _))
  have SL := Lib.hid (R.out.below B1.out).sl
  go_wp2_with (at_builtin; refine wpList_append_any rfl _ _ 48 rfl u1.heap.size 52 i0 (.agg #[.bool false, .bool false, .string ByteArray.empty]) 3 24 Tryz.underlying48 hi0 hz0 hz1 hz2 rfl (by decide) (.slice (some ⟨u1.heap.size, 0, none⟩) 0 0) 0 [] rfl OE.out (slG l) l.length _ rfl SL.out (fun i _ j _ => slG_one l i j) (by unfold maxLen; omega) (by omega) B1.out.size l.length (by omega) ?_)
  intro a2 c2 w2 ho2 hg2
  have O2 := Lib.hid ho2
  have W2 : Hid (Below u1.heap.size u1 w2) := Lib.hid (B1.out.trans ((Below.refl _ _).grown hg2 B1.out.size (fun g hg => by
    simp only [Value.ownBlock, Option.some.injEq] at hg
    omega)))
  clear ho2 hg2 SL OE X1 B1
  go_wp2_with fail
  go_loopw [7] (fun v wr => ∃ k : Nat, l.length ≤ k ∧ k ≤ max l.length (i + 1) ∧ (∃ a c, v = .slice a k c) ∧ Hid (wr.ownsRow u1.heap.size 52 3 v k (rowCells 3 (slG l) k)) ∧ Hid (Below u1.heap.size u1 wr)) (fun v _ => i + 1 - lenV v)
  case atStart => exact ⟨l.length, Nat.le_refl _, Nat.le_max_left _ _, ⟨_, _, rfl⟩, O2, W2⟩
  case round =>
    obtain ⟨k, hk1, hk2, ⟨a3, c3, rfl⟩, HO, HB⟩ := hrel
    by_cases hlt : k ≤ i
    · have d1 : decide ((k : Int) ≤ (i : Int)) = true := decide_eq_true (by omega)
      have O1 := Lib.hid (own_below HO.out (balloc wr (.cells #[.bool false, .bool false, .string ByteArray.empty] 52)))
      have W1 := Lib.hid (HB.out.trans ((balloc wr (.cells #[.bool false, .bool false, .string ByteArray.empty] 52)).mono HB.out.size))
      have SZ := Lib.hid (Nat.le_trans HB.out.size (balloc wr (.cells #[.bool false, .bool false, .string ByteArray.empty] 52)).size)
      have ER : Hid (rowCells 3 (slG l) k ++ sltV noSlt = rowCells 3 (slG l) (k + 1)) := Lib.hid (by
        have := slG_row l k
        rw [slA_out hk1] at this
        exact this)
      go_wp2_with (at_builtin; refine wpList_append_own _ rfl _ _ 48 rfl u1.heap.size 52 i0 (.agg #[.bool false, .bool false, .string ByteArray.empty]) 3 24 Tryz.underlying48 hi0 hz0 hz1 hz2 rfl (by decide) _ k _ rfl O1.out ⟨wr.heap.size, 0, none⟩ 1 1 (sltV noSlt) rfl rfl (lit3 wr noSlt) (sltV_one _) (by unfold maxLen; omega) (by omega) SZ.out ?_)
      intro v4 w4 ho4 hg4 _
      rw [ER.out] at ho4
      obtain ⟨a5, c5, rfl, _⟩ := own_form ho4
      have O4 := Lib.hid ho4
      have W4 := Lib.hid (W1.out.trans ((Below.refl _ _).grown hg4 SZ.out (fun g hg => (O1.out.lt g hg).1)))
      clear ho4 hg4
      go_wp2_with fail
      go_roundw
      case rel => exact ⟨k + 1, by omega, by omega, ⟨_, _, rfl⟩, O4, W4⟩
      case measure =>
        have e1 : lenV (.slice a5 (k + 1) c5) = k + 1 := rfl
        have e2 : lenV (.slice a3 k c3) = k := rfl
        omega
    · have d1 : decide ((k : Int) ≤ (i : Int)) = false := decide_eq_false (by omega)
      have hk : k = max l.length (i + 1) := by omega
      have hik : i < k := by omega
      obtain ⟨b, hb, hv, hr⟩ := RowB.of HO.out (by omega)
      obtain ⟨c9, e9, _⟩ := hr.v
      simp only [Value.slice.injEq, true_and] at e9
      obtain ⟨rfl, rfl⟩ := e9
      have y0 := hr.c i hik 0 (by omega)
      have y1 := hr.c i hik 1 (by omega)
      have y2 := hr.c i hik 2 (by omega)
      have f0 := hr.frozen (i * 3)
      have f1 := hr.frozen (i * 3 + 1)
      have f2 := hr.frozen (i * 3 + 2)
      rw [Nat.add_zero] at y0
      have X9 := Lib.hid ((HB.out.block C LC.out).trans X0.out)
      have x0 : wr.cell? ⟨C, 0, none⟩ = some (.bool s.is) := by rw [Lib.cell_of_heap X9.out]; rfl
      have x1 : wr.cell? ⟨C, 1, none⟩ = some (.bool s.fr) := by rw [Lib.cell_of_heap X9.out]; rfl
      have x2 : wr.cell? ⟨C, 2, none⟩ = some (.string s.b) := by rw [Lib.cell_of_heap X9.out]; rfl
      have R1 : RowB 52 3 b (fun p q => if p = i ∧ q = 0 then .bool s.is else slG l p q) k (.slice (some ⟨b, 0, none⟩) k c3) (wr.setCell ⟨b, i * 3, none⟩ (.bool s.is)) := by
        have := hr.set1 (i := i) (j := 0) hik (by omega) (.bool s.is) (G2 := fun p q => if p = i ∧ q = 0 then .bool s.is else slG l p q) (if_pos ⟨rfl, rfl⟩) (fun p _ q _ h => if_neg h)
        rwa [Nat.add_zero] at this
      have R2 := R1.set1 (i := i) (j := 1) hik (by omega) (.bool s.fr) (G2 := fun p q => if p = i ∧ q = 1 then .bool s.fr else if p = i ∧ q = 0 then .bool s.is else slG l p q) (if_pos ⟨rfl, rfl⟩) (fun p _ q _ h => if_neg h)
      have R3 := R2.set1 (i := i) (j := 2) hik (by omega) (.string s.b) (G2 := fun p q => if p = i ∧ q = 2 then .string s.b else if p = i ∧ q = 1 then .bool s.fr else if p = i ∧ q = 0 then .bool s.is else slG l p q) (if_pos ⟨rfl, rfl⟩) (fun p _ q _ h => if_neg h)
      have R4 := R3.congr (G2 := slG (setS l i s)) (fun p hp q hq => by
        unfold slG
        rw [setS_at]
        by_cases e : p = i
        · subst e
          rw [if_pos rfl]
          rcases q with _ | _ | _ | q
          · simp
          · simp
          · simp
          · omega
        · rw [if_neg e]
          simp [e])
      have hks : k = (setS l i s).length := by rw [setS_len]; exact hk
      have F : Hid (∃ v', (Ending.returned (.slice (some ⟨b, 0, none⟩) k c3) : Ending) = .returned v' ∧ SRow u.heap.size (setS l i s) v' (((wr.setCell ⟨b, i * 3, none⟩ (.bool s.is)).setCell ⟨b, i * 3 + 1, none⟩ (.bool s.fr)).setCell ⟨b, i * 3 + 2, none⟩ (.string s.b)) ∧ Below u.heap.size u (((wr.setCell ⟨b, i * 3, none⟩ (.bool s.is)).setCell ⟨b, i * 3 + 1, none⟩ (.bool s.fr)).setCell ⟨b, i * 3 + 2, none⟩ (.string s.b))) := Lib.hid (by
        have hu := B0.out.size
        have hbb : Below C u u1 := B0.out
        rw [HC.out] at hbb
        have hc := HC.out
        refine ⟨_, rfl, .inr ⟨by rw [← hks]; omega, b, c3, by rw [← hks], by omega, by rw [← hks]; exact R4⟩, hbb.trans (Below.mono (((HB.out.setCell (p := ⟨b, i * 3, none⟩) hb _).setCell (p := ⟨b, i * 3 + 1, none⟩) hb _).setCell (p := ⟨b, i * 3 + 2, none⟩) hb _) hbb.size)⟩)
      clear hks hk R1 R2 R3 R4 hr
      go_wp2_with fail
      go_ret
      exact F.out
set_option maxHeartbeats 3200000 in
theorem rnext14_any (h : RSh base Q x u) (hl : x.now.length ≤ 512) : Calls Tryz.prog 97 #[.pointer (some ⟨Q, 0, none⟩)] u fun r u' => ∃ v', r = .returned v' ∧ SRow u.heap.size (nextS x.now) v' u' ∧ Below u.heap.size u u' := by
  obtain ⟨i0, hi0, hz0, hz1, hz2⟩ := info_parts infoSlot14
  obtain ⟨a1, c1, a2, c2, x0, x1, x2, x3, h1, h2, _⟩ := h.cells
  have R := Lib.hid h1
  have XN := Lib.hid x1
  clear h h1 h2 x0 x2 x3
  obtain ⟨l, hl9⟩ : ∃ l, l = x.now := ⟨_, rfl⟩
  rw [← hl9] at hl x1 R XN ⊢
  clear hl9
  go_enter Tryz.func97, Tryz.ntmps97
  go_wp2_with fail
  go_loopw [4] (fun i wr => ∃ j : Nat, j ≤ l.length ∧ i = .int .i64 j ∧ Hid (trimS l l.length = trimS l j) ∧ wr = u) (fun i _ => (intOf i).toNat)
  case atStart => exact ⟨l.length, Nat.le_refl _, rfl, Lib.hid rfl, rfl⟩
  case round =>
    obtain ⟨j, hj, rfl, HT, hw⟩ := hrel
    rw [hw]
    clear hw wr
    by_cases hj0 : j = 0
    · subst hj0
      have TZ : Hid (nextS l = []) := Lib.hid (List.eq_nil_of_length_eq_zero (by rw [nextS_len]; exact HT.out))
      clear x1
      go_wp2_with fail
      go_loopw [3, 5] (fun v i wr => v = .slice none 0 0 ∧ i = .int .i64 0 ∧ wr = u) (fun _ _ _ => 0)
      case atStart => exact ⟨rfl, rfl, rfl⟩
      case round =>
        obtain ⟨rfl, rfl, hw⟩ := hrel
        rw [hw]
        clear hw wr
        go_wp2_with fail
        go_ret
        exact ⟨_, rfl, by rw [TZ.out]; exact .inl ⟨rfl, none, 0, rfl, by omega, fun p hp => by cases hp⟩, Below.refl _ _⟩
    · have hj1 : (j : Int) - 1 < (l.length : Int) := by omega
      have hj2 : (0 : Int) ≤ (j : Int) - 1 := by omega
      have hjp : (0 : Int) < (j : Int) := by omega
      have hjt : ((j : Int) - 1).toNat = j - 1 := by omega
      have hjw : IntKind.i64.wrap ((j : Int) - 1) = (j : Int) - 1 := by rw [IntKind.wrap_i64]; omega
      have dp : decide ((0 : Int) < (j : Int)) = true := decide_eq_true hjp
      have hjn : 0 < j := by omega
      obtain ⟨_, b, ha, _, y0, _⟩ := R.out.look (i := j - 1) (by omega)
      subst ha
      by_cases hz : isS l (j - 1) = true
      · have hn : trimS l l.length = j := by
          rw [HT.out]
          obtain ⟨k, rfl⟩ : ∃ k, j = k + 1 := ⟨j - 1, by omega⟩
          simp only [trimS]
          rw [if_pos (by simpa using hz)]
        have NL : Hid (j = (nextS l).length) := Lib.hid (by rw [nextS_len, hn])
        have HN := Lib.hid hn
        rw [show (slA l (j - 1)).is = true from hz] at y0
        clear hn HT hz
        go_wp2_with fail
        clear x1 y0
        go_loopw [3, 5] (fun v i wr => ∃ q : Nat, q ≤ j ∧ i = .int .i64 q ∧ Hid (wr.ownsRow u.heap.size 52 3 v q (rowCells 3 (slG (nextS l)) q)) ∧ Hid (Below u.heap.size u wr)) (fun _ i _ => j - (intOf i).toNat)
        case atStart => exact ⟨0, Nat.zero_le _, rfl, Lib.hid (World.ownsRow_nil _ _ _ _), Lib.hid (Below.refl _ _)⟩
        case round =>
          obtain ⟨q, hq, rfl, HO, HB⟩ := hrel
          by_cases hlt : q < j
          · have hq1 : (q : Int) < (j : Int) := by omega
            have hq0 : (0 : Int) ≤ (q : Int) := by omega
            have hql : (q : Int) < (l.length : Int) := by omega
            have d1 : decide ((q : Int) < (j : Int)) = true := decide_eq_true hq1
            have x1 := cell_stays HB.out XN.out
            obtain ⟨_, b, ha, _, y0, y1, y2⟩ := (R.out.below HB.out).look (i := q) (by omega)
            cases ha
            have ES : Hid (slA (nextS l) q = oldS (slA l q)) := Lib.hid (by rw [nextS_at, if_pos (by rw [HN.out]; exact hlt)])
            have ER : Hid (rowCells 3 (slG (nextS l)) q ++ sltV (oldS (slA l q)) = rowCells 3 (slG (nextS l)) (q + 1)) := Lib.hid (by rw [← ES.out]; exact slG_row _ _)
            clear ES
            generalize slA l q = s at *
            have LC : Hid (∀ j v, (sltV (oldS s))[j]? = some v → ((wr.alloc (.cells #[.bool s.is, .bool false, .string s.b] 52)).alloc (.cells #[.bool s.is, .bool false, .string s.b] 52)).cell? ((⟨wr.heap.size + 1, 0, none⟩ : Addr).add j) = some v) := Lib.hid (by
              have := lit3 (wr.alloc (.cells #[.bool s.is, .bool false, .string s.b] 52)) (oldS s)
              rw [World.size_alloc] at this
              exact this)
            have BA := balloc wr (.cells #[.bool s.is, .bool false, .string s.b] 52)
            have BB := BA.trans ((balloc (wr.alloc (.cells #[.bool s.is, .bool false, .string s.b] 52)) (.cells #[.bool s.is, .bool false, .string s.b] 52)).mono BA.size)
            have O1 := Lib.hid (own_below HO.out BB)
            have W1 := Lib.hid (HB.out.trans (BB.mono HB.out.size))
            have SZ := Lib.hid (Nat.le_trans HB.out.size BB.size)
            clear BA BB
            go_wp2_with (at_builtin; refine wpList_append_own _ rfl _ _ 48 rfl u.heap.size 52 i0 (.agg #[.bool false, .bool false, .string ByteArray.empty]) 3 24 Tryz.underlying48 hi0 hz0 hz1 hz2 rfl (by decide) _ q _ rfl O1.out ⟨wr.heap.size + 1, 0, none⟩ 1 1 (sltV (oldS s)) rfl rfl LC.out (sltV_one _) (by unfold maxLen; omega) (by omega) SZ.out ?_)
            intro v4 w4 ho4 hg4 _
            rw [ER.out] at ho4
            have O4 := Lib.hid ho4
            have W4 := Lib.hid (W1.out.trans ((Below.refl _ _).grown hg4 SZ.out (fun g hg => (O1.out.lt g hg).1)))
            clear ho4 hg4 x1 y0 y1 y2
            go_wp2_with fail
            go_roundw
            case rel => exact ⟨q + 1, hlt, by go_num, O4, W4⟩
            case measure => simp [intOf]; omega
          · have hqn : q = j := by omega
            have d1 : decide ((q : Int) < (j : Int)) = false := decide_eq_false (by omega)
            have F : Hid (∀ v9, wr.ownsRow u.heap.size 52 3 v9 q (rowCells 3 (slG (nextS l)) q) → SRow u.heap.size (nextS l) v9 wr) := Lib.hid (fun v9 h9 => by
              rw [hqn, NL.out] at h9
              exact SRow.of h9 rfl)
            clear hqn
            go_wp2_with fail
            go_ret
            exact ⟨_, rfl, F.out _ HO.out, HB.out⟩
      · have HT2 : Hid (trimS l l.length = trimS l (j - 1)) := Lib.hid (by
          rw [HT.out]
          obtain ⟨k, rfl⟩ : ∃ k, j = k + 1 := ⟨j - 1, by omega⟩
          simp only [trimS]
          rw [if_neg (by simpa using hz)]
          rfl)
        rw [show (slA l (j - 1)).is = false by simpa [isS] using hz] at y0
        go_wp2_with fail
        go_roundw
        case rel => exact ⟨j - 1, by omega, by congr 1; omega, HT2, trivial⟩
        case measure => simp [intOf]; omega
end

end Go.Proofs.YtmflkkkbahghgaaGreat
namespace Go.Proofs.YtmflkkkbahghgaaGreat
open Go.RowKit Go.Deep
set_option linter.unusedVariables false
set_option linter.unusedSimpArgs false
set_option maxRecDepth 100000

theorem full_nums (s : ByteArray) (j : Nat) (h1 : s.size ≤ j) (h2 : j ≤ 232 ∨ j = s.size) (h3 : 232 ≤ j) : strOfNums ((List.range j).map (byD s)) = fullP s := by
  unfold fullP
  by_cases c : s.size ≤ 232
  · rw [if_pos c]
    obtain rfl : j = 232 := by omega
    rfl
  · rw [if_neg c]
    obtain rfl : j = s.size := by omega
    exact padN_self s s.size rfl
set_option maxHeartbeats 800000 in
theorem rfull_any (s : ByteArray) (hs : s.size ≤ 1000000) (u : World) : Calls Tryz.prog 10 #[.string s] u fun r u' => r = .returned (.string (fullP s)) ∧ Below u.heap.size u u' := by
  obtain ⟨i0, hi, hz0, hz1, hz2⟩ := info_parts infoByte9
  have HSZ := Lib.hid hs
  obtain ⟨v0, w2, hcv, ho2, hb2⟩ := run_bytes_free (P := Tryz.prog) u 9 71 5 s Tryz.underlying9 Tryz.underlying71 Tryz.underlying5 (by unfold maxLen; omega)
  rw [bytV_str] at ho2
  have O2 := Lib.hid ho2
  have B2 := Lib.hid hb2
  clear ho2 hb2 hs
  go_enter Tryz.func10, Tryz.ntmps10
  go_wp2_with fail
  go_loopw [3] (fun v wr => ∃ j : Nat, s.size ≤ j ∧ (j ≤ 232 ∨ j = s.size) ∧ OwnsB wr u.heap.size 5 v j (bytV s j) ∧ Below u.heap.size u wr) (fun v _ => 232 - lenV v)
  case atStart => exact ⟨s.size, Nat.le_refl _, .inr rfl, O2.out, B2.out⟩
  case round =>
    clear hcv
    obtain ⟨j, hj, hj9, ho, hb⟩ := hrel
    obtain ⟨g, cap, hv0, hcl⟩ := ownsB_cells ho
    have HO := Lib.hid ho
    have HB := Lib.hid hb
    have hcap : j ≤ cap ∧ cap ≤ maxLen := by
      obtain ⟨_, g1, cap1, _, _, e9, _, _, _, q1, q2, _⟩ := ho
      rw [hv0] at e9
      simp only [Value.slice.injEq, Option.some.injEq, Addr.mk.injEq, and_true, true_and] at e9
      obtain ⟨rfl, rfl⟩ := e9
      exact ⟨q1, q2⟩
    obtain rfl := hv0
    clear ho hb
    unfold maxLen at hcap
    by_cases hlt : j < 232
    · have hj2 : (j : Int) < 232 := by omega
      have X1 := Lib.hid (heap_alloc_new wr (.cells #[.int .u8 0] 5))
      have B1 := Lib.hid (balloc wr (.cells #[.int .u8 0] 5))
      have O1 := Lib.hid (ownsB_below HO.out B1.out)
      have SZ := Lib.hid (Nat.le_trans HB.out.size B1.out.size)
      have SR : Hid (Src Tryz.prog 1 71 (.slice (some ⟨wr.heap.size, 0, none⟩) 1 1) 1 [.int .u8 0] (wr.alloc (.cells #[.int .u8 0] 5))) := Lib.hid (Src.ofSlice _ Tryz.underlying71 ⟨wr.heap.size, 0, none⟩ 1 1 [.int .u8 0] rfl (fun q x hq => by
        rcases q with _ | q
        · simp only [List.getElem?_cons_zero, Option.some.injEq] at hq
          subst hq
          rw [add_plain, Lib.cell_of_heap X1.out]; rfl
        · simp at hq) (by intro x hx; simp only [List.mem_cons, List.not_mem_nil, or_false] at hx; subst hx; rfl))
      go_wp2_with (at_builtin; refine wpList_append_src9 _ rfl _ _ 71 71 rfl u.heap.size 5 i0 Tryz.underlying71 hi hz0 hz1 hz2 _ _ _ rfl O1.out _ rfl 1 _ SR.out (by unfold maxLen; omega) (by omega) SZ.out ?_)
      intro v4 w4 ho4 hb4
      rw [bytV_succ s j hj] at ho4
      have O4 := Lib.hid ho4
      have B4 := Lib.hid ((HB.out.trans (B1.out.mono HB.out.size)).trans hb4)
      have e4 : lenV v4 = j + 1 := by
        obtain ⟨_, g4, cap4, _, _, rfl, _⟩ := ho4
        rfl
      clear ho4 hb4
      go_wp2_with fail
      go_roundw
      case rel => exact ⟨j + 1, by omega, by omega, O4.out, B4.out⟩
      case measure =>
        have e5 : lenV (.slice (some ⟨g, 0, none⟩) j cap) = j := rfl
        omega
    · have hcv2 := run_convert_bytes_arg (P := Tryz.prog) wr 71 5 Tryz.underlying71 Tryz.underlying5 g 0 j cap ((List.range j).map (byD s)) (by simp)
        (fun k hk => by
          rw [hcl k (by omega)]
          unfold bytV
          rw [List.getElem?_map, List.getElem?_range (by omega)]
          simp [hk]) 9 Tryz.underlying9
      rw [full_nums s j hj hj9 (by omega)] at hcv2
      have hj2 : ¬ (j : Int) < 232 := by omega
      clear hcl
      go_wp2_with fail
      go_ret
      exact ⟨rfl, HB.out⟩


end Go.Proofs.YtmflkkkbahghgaaGreat
