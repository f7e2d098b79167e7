/- The contracts of the program's frame: what it says, and what is laid into it. The contracts of the program's frame: a payload is laid into it; it is left. The program's must, and attempt: what is given up is told. The contracts of the program's all, first, many, of, pass. -/
import Derived.Deep.DeepCutAuto
import Derived.Defers
import Derived.Recover
import Derived.Test.YtmflkkkbahghgaaGreatYZ16
import Derived.Test.YtmflkkkbahghgaaGreatYZ10
import Derived.Test.YtmflkkkbahghgaaGreatYZ7
namespace Go.Proofs.YtmflkkkbahghgaaGreat
open Go.RowKit Go.Deep
set_option linter.unusedVariables false
set_option linter.unusedSimpArgs false
set_option maxRecDepth 100000

theorem size_pay : (Tryz.prog.info? 80).map (·.size) = some 232 := by kernel_rfl
def fmL (x : Frm) : List Value := (List.range 237).map (fmV x)
theorem fmL_len (x : Frm) : (fmL x).length = 237 := by simp [fmL]
theorem fmL_size (x : Frm) : (fmL x).toArray.size = 237 := by simp [fmL]
theorem fmL_at (x : Frm) {j : Nat} (h : j < (fmL x).length) : (fmL x)[j] = fmV x j := by simp [fmL]
theorem fmV_one (x : Frm) (j : Nat) : (fmV x j).oneCell' = true := by
  unfold fmV
  split
  · split <;> rfl
  · split
    · rfl
    · split
      · rfl
      · split <;> rfl
theorem fmL_one (x : Frm) : ∀ v ∈ fmL x, v.oneCell' = true := by
  intro v hv
  obtain ⟨j, _, rfl⟩ := List.mem_map.1 hv
  exact fmV_one x j
theorem size_frm : (Tryz.prog.info? 82).map (·.size) = some 237 := by kernel_rfl
theorem zero_frm : (Tryz.prog.info? 82).map (fun i => (i.zero, i.size)) = some (some (.agg (fmL noF).toArray), 237) := by kernel_rfl
theorem zero_frm_val (w : World) : (zeroValue 82).run Tryz.prog w = .ok (.agg (fmL noF).toArray) w := (zero_of_info zero_frm).1 w
/-- a store of a whole payload -/
theorem wpList_store_pay (s : ByteArray) {ops : Array Oper} {rest : List Oper} {op : Oper} {a : Act} {w : World} {Q : Exit → Act → World → Prop} (hgd : op.guard = none) (b o : Nat)
    (ho : ∃ x y cells, op.op = .store 80 x y ∧ a.eval x = .pointer (some ⟨b, o, none⟩) ∧ a.eval y = .agg cells ∧ cells = (payL s).toArray) (ht : w.there b o 232)
    {w3 : World} (hw : w3 = w.setCells b o (payL s)) (h : wpList Tryz.prog ops Q rest (a.put op.dst undef) w3) : wpList Tryz.prog ops Q (op :: rest) a w := by
  obtain ⟨x, y, cells, ho, hx, hy, rfl⟩ := ho
  subst hw
  exact wpList_store_mid hgd _ x y ho b o _ hx hy (by rw [payL_size]; exact ht) (by rw [size_pay, payL_size]) (all_oneCell_toArray (payL_one _)) h
/-- a store of a whole frame -/
theorem wpList_store_frm (s : Frm) {ops : Array Oper} {rest : List Oper} {op : Oper} {a : Act} {w : World} {Q : Exit → Act → World → Prop} (hgd : op.guard = none) (b o : Nat)
    (ho : ∃ x y cells, op.op = .store 82 x y ∧ a.eval x = .pointer (some ⟨b, o, none⟩) ∧ a.eval y = .agg cells ∧ cells = (fmL s).toArray) (ht : w.there b o 237)
    {w3 : World} (hw : w3 = w.setCells b o (fmL s)) (h : wpList Tryz.prog ops Q rest (a.put op.dst undef) w3) : wpList Tryz.prog ops Q (op :: rest) a w := by
  obtain ⟨x, y, cells, ho, hx, hy, rfl⟩ := ho
  subst hw
  exact wpList_store_mid hgd _ x y ho b o _ hx hy (by rw [fmL_size]; exact ht) (by rw [size_frm, fmL_size]) (all_oneCell_toArray (fmL_one _)) h
def hasQ (x : Frm) (l : Int) : Bool := fullB x && (pgN x == l)
section
variable {F n c i : Nat} {f : List Frm} {u : World}
theorem fempty_any (h : QRow F n f c u) (hi : i < n) : Calls Tryz.prog 57 #[.pointer (some ⟨F, i * 237, none⟩)] u fun r u' => r = .returned (.bool (!fullB (frA f i))) ∧ u' = u := by
  obtain ⟨c0, c1, c2, c3, c4⟩ := h.cells hi
  clear h c1 c2 c3 c4
  go_enter Tryz.func57, Tryz.ntmps57
  go_wp2_with fail
  go_ret
  exact ⟨rfl, rfl⟩
theorem fheld_any (h : QRow F n f c u) (hi : i < n) : Calls Tryz.prog 49 #[.pointer (some ⟨F, i * 237, none⟩)] u fun r u' => r = .returned (.bool (heldB f i)) ∧ u' = u := by
  obtain ⟨c0, c1, c2, c3, c4⟩ := h.cells hi
  have E : Hid (heldB f i = decide ((0 : Int) < ((frA f i).held : Int))) := Lib.hid (by unfold heldB; exact decide_eq_decide.2 (by omega))
  clear h c0 c1 c3 c4
  go_enter Tryz.func49, Tryz.ntmps49
  go_wp2_with fail
  go_ret
  refine ⟨?_, rfl⟩
  first
    | rfl
    | (rw [E.out]; rfl)
theorem floose_any (h : QRow F n f c u) (hi : i < n) : Calls Tryz.prog 185 #[.pointer (some ⟨F, i * 237, none⟩)] u fun r u' => r = .returned (.bool (!heldB f i)) ∧ u' = u := by
  have H := Lib.hid (fheld_any h hi)
  clear h
  go_enter Tryz.func185, Tryz.ntmps185
  go_wp2_with fail
  refine (H.out).mono ?_
  rintro r w1 ⟨rfl, rfl⟩
  go_wp2_with fail
  go_ret
  exact ⟨rfl, rfl⟩
theorem fhas_any (h : QRow F n f c u) (hi : i < n) (l : Int) : Calls Tryz.prog 119 #[.pointer (some ⟨F, i * 237, none⟩), .int .i64 l] u fun r u' => r = .returned (.bool (hasQ (frA f i) l)) ∧ u' = u := by
  obtain ⟨c0, c1, c2, c3, c4⟩ := h.cells hi
  clear h c2 c3 c4
  unfold hasQ
  cases hb : fullB (frA f i) with
  | true =>
    rw [hb] at c0
    go_enter Tryz.func119, Tryz.ntmps119
    go_wp2_with fail
    go_ret
    exact ⟨by simp, rfl⟩
  | false =>
    rw [hb] at c0
    clear c1
    go_enter Tryz.func119, Tryz.ntmps119
    go_wp2_with fail
    go_ret
    exact ⟨by simp, rfl⟩
theorem ftext_any (h : QRow F n f c u) (hi : i < n) (hs : (frA f i).b.size ≤ 232) : Calls Tryz.prog 45 #[.pointer (some ⟨F, i * 237, none⟩)] u fun r u' => r = .returned (.string (fullP (frA f i).b)) ∧ u' = u := by
  have hcv := run_convert_bytes_arg (P := Tryz.prog) u 71 5 Tryz.underlying71 Tryz.underlying5 F (i * 237 + 2) 232 232 ((List.range 232).map (byD (frA f i).b)) (by simp)
    (fun j hj => by
      have := h.c i hi (2 + j) (by omega)
      rw [← Nat.add_assoc] at this
      rw [this]
      show some (fmV (frA f i) (2 + j)) = _
      rw [fmV_pay _ hj]
      simp [hj]) 9 Tryz.underlying9
  have E : Hid (fullP (frA f i).b = padN (frA f i).b 232) := Lib.hid (by unfold fullP; rw [if_pos hs])
  rw [E.out]
  change _ = Result.ok (Value.string (padN (frA f i).b 232)) u at hcv
  clear h hs
  go_enter Tryz.func45, Tryz.ntmps45
  go_wp2_with fail
  go_ret
  exact ⟨rfl, rfl⟩
end
end Go.Proofs.YtmflkkkbahghgaaGreat
namespace Go.Proofs.YtmflkkkbahghgaaGreat
open Go.RowKit Go.Deep
set_option linter.unusedVariables false
set_option linter.unusedSimpArgs false
set_option maxRecDepth 100000

section
variable {F n c i : Nat} {f : List Frm} {u : World}
theorem byD_full {s : ByteArray} (hs : s.size ≤ 232) {k : Nat} (hk : k < 232) : byD (fullP s) k = byD s k := by
  unfold fullP
  rw [if_pos hs]
  exact byD_pad s 232 k hk
theorem lay_zero (h : QRow F n f c u) (hf : f.length = n) (hi : i < n) : QRow F n (f.set i { frA f i with b := ByteArray.empty }) c (u.setCells F (i * 237 + 2) (payL ByteArray.empty)) := by
  refine h.sets hf hi _ 2 _ (by rw [payL_len]; omega) (fun k hk => ?_) (fun k hk hne => ?_)
  · rw [payL_at]
    rw [payL_len] at hk
    exact fmV_pay _ hk
  · rw [payL_len] at hne
    revert hne
    revert k
    refine fmV_cases ?_ ?_ ?_ ?_ ?_ ?_
    · intro _; rfl
    · intro _; rfl
    · intro k hk hne; exact absurd ⟨by omega, by omega⟩ hne
    · intro _; rfl
    · intro _; rfl
    · intro _; rfl
theorem lay_text (h : QRow F n (f.set i { frA f i with b := ByteArray.empty }) c u) (hf : f.length = n) (hi : i < n) (s : ByteArray) (hs : s.size ≤ 232) : QRow F n (f.set i { frA f i with b := fullP s }) c (u.setCells F (i * 237 + 2) ((Lib.byteCells s.data.toList).take (Nat.min s.size 232))) := by
  have hm : Nat.min s.size 232 = s.size := Nat.min_eq_left hs
  have hlen : ((Lib.byteCells s.data.toList).take (Nat.min s.size 232)).length = s.size := by
    rw [List.length_take, Lib.byteCells_length, show s.data.toList.length = s.size by simp, hm, Nat.min_self]
  have hx : frA (f.set i { frA f i with b := ByteArray.empty }) i = { frA f i with b := ByteArray.empty } := by rw [frA_set, if_pos ⟨rfl, by omega⟩]
  have := h.sets (i := i) (by rw [List.length_set]; exact hf) hi { frA f i with b := fullP s } 2 _ (by rw [hlen]; omega) (fun k hk => ?_) (fun k hk hne => ?_)
  · rwa [List.set_set] at this
  · rw [hlen] at hk
    rw [fmV_pay _ (by omega), byD_full hs (by omega)]
    have e := byD_cell s (j := k) (by omega)
    have e2 : ((Lib.byteCells s.data.toList).take (Nat.min s.size 232))[k]? = some (.int .u8 (byD s k)) := by rw [List.getElem?_take, if_pos (by rw [hm]; exact hk)]; exact e
    rw [List.getElem?_eq_getElem (by rw [hlen]; exact hk)] at e2
    exact (Option.some.inj e2).symm
  · rw [hx]
    rw [hlen] at hne
    revert hne
    revert k
    refine fmV_cases ?_ ?_ ?_ ?_ ?_ ?_
    · intro _; rfl
    · intro _; rfl
    · intro k hk hne
      rw [fmV_pay _ hk, fmV_pay _ hk, byD_full hs hk, byD_out (s := s) (by have : ¬ k < s.size := fun q => hne ⟨by omega, by omega⟩; omega), byD_out (s := ByteArray.empty) (by exact Nat.zero_le _)]
    · intro _; rfl
    · intro _; rfl
    · intro _; rfl
set_option maxHeartbeats 1600000 in
theorem flay_any (h : QRow F n f c u) (hf : f.length = n) (hi : i < n) (s : ByteArray) (hs : s.size ≤ 232) : Calls Tryz.prog 83 #[.pointer (some ⟨F, i * 237, none⟩), .string s] u fun r u' => r = .returned (.tuple #[]) ∧ QRow F n (f.set i { frA f i with b := fullP s }) c u' ∧ KpS (O1 F) u u' := by
  have HT := Lib.hid (h.there hi 2 232 (by omega))
  obtain ⟨w3, hw3⟩ : ∃ w3, w3 = u.setCells F (i * 237 + 2) (payL ByteArray.empty) := ⟨_, rfl⟩
  have R3 : Hid (QRow F n (f.set i { frA f i with b := ByteArray.empty }) c w3) := Lib.hid (by rw [hw3]; exact lay_zero h hf hi)
  have K3 : Hid (KpS (O1 F) u w3) := Lib.hid (by rw [hw3]; exact KpS.sets (O1.a F) _ _ _)
  have HW3 := Lib.hid hw3
  have hcp := run_copy_text (P := Tryz.prog) w3 71 9 3 5 F (i * 237 + 2) 232 232 s Tryz.underlying71 (by kernel_rfl) (by
    have := R3.out.there hi 2 (Nat.min s.size 232) (by have : Nat.min s.size 232 ≤ 232 := Nat.min_le_right _ _; omega)
    exact this)
  obtain ⟨w4, hw4⟩ : ∃ w4, w4 = w3.setCells F (i * 237 + 2) ((Lib.byteCells s.data.toList).take (Nat.min s.size 232)) := ⟨_, rfl⟩
  rw [← hw4] at hcp
  have R4 : Hid (QRow F n (f.set i { frA f i with b := fullP s }) c w4) := Lib.hid (by rw [hw4]; exact lay_text R3.out hf hi s hs)
  have K4 : Hid (KpS (O1 F) u w4) := Lib.hid (by rw [hw4]; exact K3.out.trans (KpS.sets (O1.a F) _ _ _))
  clear h hf hi hs hw3 hw4
  go_enter Tryz.func83, Tryz.ntmps83
  go_wp2_with (with_reducible refine wpList_store_pay ByteArray.empty rfl F (i * 237 + 2) ?_ HT.out HW3.out ?_; (focus (refine ⟨_, _, _, rfl, rfl, rfl, ?_⟩; kernel_rfl)))
  exact bodyPost_end (v := .tuple #[]) (by simp [results, Tryz.results83, go_sem]) rfl ⟨rfl, R4.out, K4.out⟩
set_option maxHeartbeats 1600000 in
theorem fset_any (h : QRow F n f c u) (hf : f.length = n) (hi : i < n) (s : ByteArray) (hs : s.size ≤ 232) : Calls Tryz.prog 43 #[.pointer (some ⟨F, i * 237, none⟩), .string s] u fun r u' => r = .returned (.tuple #[]) ∧ QRow F n (f.set i { frA f i with b := fullP s, di := true, us := true }) c u' ∧ KpS (O1 F) u u' := by
  have H := Lib.hid (flay_any h hf hi s hs)
  have HF := Lib.hid hf
  have HI := Lib.hid hi
  clear h hs hf hi
  go_enter Tryz.func43, Tryz.ntmps43
  go_wp2_with fail
  refine (H.out).mono ?_
  rintro r w1 ⟨rfl, r1, k1⟩
  have hx : frA (f.set i { frA f i with b := fullP s }) i = { frA f i with b := fullP s } := by rw [frA_set, if_pos ⟨rfl, by have := HF.out; have := HI.out; omega⟩]
  have r2 := r1.set1 (i := i) (by rw [List.length_set]; exact HF.out) HI.out { frA f i with b := fullP s, di := true } 235 (by omega) (by
    rw [hx]
    refine fmV_cases ?_ ?_ ?_ ?_ ?_ ?_
    · intro _; rfl
    · intro _; rfl
    · intro k hk _; rw [fmV_pay _ hk, fmV_pay _ hk]
    · intro _; rfl
    · intro h9; exact absurd rfl h9
    · intro _; rfl)
  rw [List.set_set] at r2
  have hx2 : frA (f.set i { frA f i with b := fullP s, di := true }) i = { frA f i with b := fullP s, di := true } := by rw [frA_set, if_pos ⟨rfl, by have := HF.out; have := HI.out; omega⟩]
  have r3 := r2.set1 (i := i) (by rw [List.length_set]; exact HF.out) HI.out { frA f i with b := fullP s, di := true, us := true } 236 (by omega) (by
    rw [hx2]
    refine fmV_cases ?_ ?_ ?_ ?_ ?_ ?_
    · intro _; rfl
    · intro _; rfl
    · intro k hk _; rw [fmV_pay _ hk, fmV_pay _ hk]
    · intro _; rfl
    · intro _; rfl
    · intro h9; exact absurd rfl h9)
  rw [List.set_set] at r3
  change QRow F n _ c ((w1.setCell ⟨F, i * 237 + 235, none⟩ (.bool true)).setCell ⟨F, i * 237 + 236, none⟩ (.bool true)) at r3
  have R3 := Lib.hid r3
  have K3 : Hid (KpS (O1 F) u ((w1.setCell ⟨F, i * 237 + 235, none⟩ (.bool true)).setCell ⟨F, i * 237 + 236, none⟩ (.bool true))) := Lib.hid ((k1.trans (KpS.set (O1.a F) _ _ _)).trans (KpS.set (O1.a F) _ _ _))
  obtain ⟨_, _, _, c3, c4⟩ := QRow.cells r1 HI.out
  have g3 := RowB.frozen r1 (i * 237 + 235)
  have g4 := RowB.frozen r1 (i * 237 + 236)
  clear r1 r2 r3 k1 hx hx2
  go_wp2_with fail
  exact bodyPost_end (v := .tuple #[]) (by simp [results, Tryz.results43, go_sem]) rfl ⟨rfl, R3.out, K3.out⟩
theorem leave_all (h : QRow F n f c u) (hf : f.length = n) (hi : i < n) : QRow F n (f.set i noF) c (u.setCells F (i * 237) (fmL noF)) := by
  have := h.sets hf hi noF 0 (fmL noF) (by rw [fmL_len]; omega) (fun k hk => by rw [fmL_at, Nat.zero_add]) (fun k hk hne => by
    rw [fmL_len] at hne
    exact absurd ⟨Nat.zero_le _, by omega⟩ hne)
  rwa [Nat.add_zero] at this
/-- what leaving a frame comes to -/
def LeftF (hb : Bool) (F i : Nat) (Q : Int → World → Prop) (u : World) (r : Ending) (u' : World) : Prop :=
  (hb = true ∧ r = .returned (.int .i64 16) ∧ u' = u) ∨ (hb = false ∧ ∃ e u1, Q e u1 ∧ r = .returned (.int .i64 e) ∧ ((e ≠ 0 ∧ u' = u1) ∨ (e = 0 ∧ u' = u1.setCells F (i * 237) (fmL noF))))
set_option maxHeartbeats 1600000 in
/-- a frame is left, behind what is done with its page: 'do' is the function N with what it is bound to -/
theorem fleave_any {N : Nat} {bd : Value} {Q : Int → World → Prop} (h : QRow F n f c u) (hi : i < n)
    (hent : ∀ w, (callFunc N #[bd, .pointer (some ⟨F, i * 237, none⟩)]).run Tryz.prog w = .ok (.enter N #[bd, .pointer (some ⟨F, i * 237, none⟩)]) w)
    (hdo : heldB f i = false → Calls Tryz.prog N #[bd, .pointer (some ⟨F, i * 237, none⟩)] u fun r u' => ∃ e, r = .returned (.int .i64 e) ∧ Q e u')
    (hth : ∀ u1, Q 0 u1 → u1.there F (i * 237) 237) :
    Calls Tryz.prog 71 #[.pointer (some ⟨F, i * 237, none⟩), .func (.func N) #[bd] #[]] u fun r u' => LeftF (heldB f i) F i Q u r u' := by
  have H := Lib.hid (fheld_any h hi)
  have HD := Lib.hid hdo
  have HTH := Lib.hid hth
  clear h hdo hth
  go_enter Tryz.func71, Tryz.ntmps71
  cases hb : heldB f i with
  | true =>
    rw [hb] at H
    clear hent
    go_wp2_with fail
    refine (H.out).mono ?_
    rintro r w1 ⟨rfl, rfl⟩
    go_wp2_with fail
    go_ret
    exact .inl ⟨rfl, rfl, rfl⟩
  | false =>
    rw [hb] at H
    have HD2 := Lib.hid (HD.out hb)
    go_wp2_with fail
    refine (H.out).mono ?_
    rintro r w1 ⟨rfl, hw⟩
    subst hw
    go_wp2_with fail
    refine (HD2.out).mono ?_
    rintro r w2 ⟨e, rfl, hq⟩
    have HQ := Lib.hid hq
    clear hq hent HD HD2 H
    by_cases he : e = 0
    · subst he
      have HT := Lib.hid (HTH.out w2 HQ.out)
      obtain ⟨w3, hw3⟩ : ∃ w3, w3 = w2.setCells F (i * 237) (fmL noF) := ⟨_, rfl⟩
      have HW3 := Lib.hid hw3
      clear hw3
      go_wp2_with (with_reducible refine wpList_store_frm noF rfl F (i * 237) ?_ HT.out HW3.out ?_; (focus (refine ⟨_, _, _, rfl, rfl, rfl, ?_⟩; kernel_rfl)))
      go_ret
      exact .inr ⟨rfl, 0, w2, HQ.out, rfl, .inr ⟨rfl, HW3.out⟩⟩
    · have d1 : (e == 0) = false := by simp [he]
      have d2 : (e != 0) = true := by simp [he]
      have HE := Lib.hid he
      clear he
      go_wp2_with fail
      go_ret
      exact .inr ⟨rfl, e, w2, HQ.out, rfl, .inl ⟨HE.out, rfl⟩⟩
end
end Go.Proofs.YtmflkkkbahghgaaGreat
namespace Go.Proofs.YtmflkkkbahghgaaGreat
open Go.RowKit Go.Deep
set_option linter.unusedVariables false
set_option linter.unusedSimpArgs false
set_option maxRecDepth 100000

/-- what giving up leaves -/
def gaveV (e : Int) : List PanicEntry := [{ v := .iface 123 (.int .i64 e), recovered := false }]
theorem smust_ok (w : World) : Calls Tryz.prog 65 #[.int .i64 0] w fun r w' => r = .returned (.tuple #[]) ∧ w' = w := by
  go_enter Tryz.func65, Tryz.ntmps65
  go_wp2_with fail
  go_end0
  exact ⟨rfl, rfl⟩
theorem smust_bad (e : Int) (h : e ≠ 0) (w : World) : Calls Tryz.prog 65 #[.int .i64 e] w fun r w' => r = .panicked (gaveV e) ∧ w' = w := by
  have d1 : (e == 0) = false := by simp [h]
  have d2 : decide (e = 0) = false := by simp [h]
  clear h
  go_enter Tryz.func65, Tryz.ntmps65
  go_wp2_with fail
  exact ⟨rfl, rfl, rfl⟩
/-- what was given up is caught, and told -/
theorem scatch_any (p : Addr) (e : Int) (older : List PanicEntry) (w : World) (v : Value) (hc : w.cell? p = some v) (hz : w.frozen? p = false) :
    CallsD Tryz.prog 105 #[.pointer (some p)] (.panicking ({ v := .iface 123 (.int .i64 e), recovered := false } :: older)) w fun r u' w' =>
      r = .returned (.tuple #[]) ∧ u' = .panicking ({ v := .iface 123 (.int .i64 e), recovered := true } :: older) ∧ w' = w.setCell p (.int .i64 e) := by
  refine callsD_of_wpS Tryz.func105 rfl fun c₀ cs hu => ?_
  apply wpS_seq
  apply wpS_region
  simp [wpOpsS, go_sem, recoverD, hu, Tryz.ntmps105, Exit.thenS]
  have hta : ∀ (n : Int) (w : World), (Instr.typeAssert (.iface 123 (.int .i64 n)) 20 123 true).run Tryz.prog w = .ok (.tuple #[.int .i64 n, .bool true]) w := fun n w => by kernel_rfl
  refine wpS_of_wp ?_
  change Code.wp _ _ _ { tmps := #[.pointer (some p), undef, undef, undef, .iface 123 (.int .i64 e), undef, undef, undef, undef, undef, undef], defers := [] } w
  go_wp2_with fail
  simp [bodyPostS, results, Tryz.results105]
/-- nothing was given up -/
theorem sidle_any (p : Addr) (w : World) :
    CallsD Tryz.prog 105 #[.pointer (some p)] .returning w fun r u' w' => r = .returned (.tuple #[]) ∧ u' = .returning ∧ w' = w := by
  refine callsD_of_wpS Tryz.func105 rfl fun c₀ cs hu => ?_
  apply wpS_seq
  apply wpS_region
  simp [wpOpsS, go_sem, recoverD, hu, Tryz.ntmps105, Exit.thenS]
  refine wpS_of_wp ?_
  change Code.wp _ _ _ { tmps := #[.pointer (some p), undef, undef, undef, .nilIface, undef, undef, undef, undef, undef, undef], defers := [] } w
  go_wp2_with fail
  cases c₀
  simp_all [bodyPostS, results, Tryz.results105]
theorem callFunc_in {P : Program} {f : FuncId} {fn : Func} (hf : P.funcs[f]? = some fn) (hname : (fn.name == "runtime.NumGoroutine") = false) (hb : fn.body.isNone = false) (args : Array Value) (w : World) :
    (callFunc f args).run P w = .ok (.enter f args) w := by
  have h1 : fn.name ≠ "runtime.NumGoroutine" := by simpa using hname
  cases h2 : fn.body with
  | none => rw [h2] at hb; cases hb
  | some b => simp [callFunc, hf, h1, h2]
set_option maxHeartbeats 1600000 in
theorem attempt_any {f : Nat} {caps : Array Value} {u : World} {Q : Int → World → Prop} (hent : ∀ w, (callFunc f caps).run Tryz.prog w = .ok (.enter f caps) w)
    (H : Calls Tryz.prog f caps (u.alloc (.cells #[.int .i64 0] 33)) fun r w' => w'.heap[u.heap.size]? = some (.cells #[.int .i64 0] 33 (0, 0)) ∧ ((r = .returned (.tuple #[]) ∧ Q 0 w') ∨ ∃ e, e ≠ 0 ∧ r = .panicked (gaveV e) ∧ Q e w')) :
    Calls Tryz.prog 62 #[.func (.func f) #[] caps] u fun r u' => ∃ e w1, r = .returned (.int .i64 e) ∧ Q e w1 ∧ u' = w1.setCell ⟨u.heap.size, 0, none⟩ (.int .i64 e) ∧ w1.heap[u.heap.size]? = some (.cells #[.int .i64 0] 33 (0, 0)) := by
  have hmf : ∀ (fn : Fn) (first cap : Array Value) (w : World), (Instr.makeFunc fn first cap).run Tryz.prog w = .ok (.func fn first cap) w := fun _ _ _ _ => rfl
  have HH := Lib.hid H
  clear H
  obtain ⟨xb, hxb⟩ : ∃ xb, xb = u.heap.size := ⟨_, rfl⟩
  rw [← hxb] at HH ⊢
  go_enter_defers Tryz.func62, Tryz.ntmps62
  go_upto_region 1 with fail
  rw [← hxb]
  generalize u.alloc (.cells #[.int .i64 0] 33) = w0 at *
  clear hxb
  go_wp2_with fail
  refine (HH.out).mono ?_
  rintro r w1 ⟨hx, hcase⟩
  have HX := Lib.hid hx
  have xc : w1.cell? ⟨xb, 0, none⟩ = some (.int .i64 0) := by rw [Lib.cell_of_heap hx]; rfl
  have xf : w1.frozen? ⟨xb, 0, none⟩ = false := Lib.frozen_of_heap hx 0
  rcases hcase with ⟨rfl, hq⟩ | ⟨e, he, rfl, hq⟩
  · have HQ := Lib.hid hq
    clear hq hx
    go_wp2_with fail
    refine leaves_cons (f := 105) (args := #[.pointer (some ⟨xb, 0, none⟩)]) (by simp) (by simp [go_sem]) ?_
    refine (sidle_any ⟨xb, 0, none⟩ _).mono ?_
    rintro e u' w'' ⟨rfl, rfl, rfl⟩
    have xc2 : (w1.setCell ⟨xb, 0, none⟩ (.int .i64 0)).cell? ⟨xb, 0, none⟩ = some (.int .i64 0) := by
      rw [Lib.cell_of_heap (Joins.block_setCell (i := 0) HX.out (.int .i64 0))]; rfl
    simp [Leaves, settle, results, Tryz.results62, go_sem, xc2]
    exact ⟨w1, HQ.out, rfl, HX.out⟩
  · have HQ := Lib.hid hq
    clear hq hx he
    unfold gaveV
    go_wp2_with fail
    refine leaves_cons (f := 105) (args := #[.pointer (some ⟨xb, 0, none⟩)]) (by simp) (by simp [go_sem]) ?_
    refine (scatch_any ⟨xb, 0, none⟩ e [] _ _ xc xf).mono ?_
    rintro r u' w'' ⟨rfl, rfl, rfl⟩
    have xc2 : (w1.setCell ⟨xb, 0, none⟩ (.int .i64 e)).cell? ⟨xb, 0, none⟩ = some (.int .i64 e) := by
      rw [Lib.cell_of_heap (Joins.block_setCell (i := 0) HX.out (.int .i64 e))]; rfl
    simp [Leaves, settle, results, Tryz.results62, go_sem, xc2]
    exact ⟨w1, HQ.out, rfl, HX.out⟩

end Go.Proofs.YtmflkkkbahghgaaGreat
namespace Go.Proofs.YtmflkkkbahghgaaGreat
open Go.RowKit Go.Deep
set_option linter.unusedVariables false
set_option linter.unusedSimpArgs false
set_option maxRecDepth 100000

/-- the k-th frame's address; behind the last one: none -/
def ptrQ (F n k : Nat) : Option Addr := if k < n then some ⟨F, k * 237, none⟩ else none
theorem ptrQ_in {F n k : Nat} (h : k < n) : ptrQ F n k = some ⟨F, k * 237, none⟩ := if_pos h
theorem ptrQ_out {F n k : Nat} (h : ¬ k < n) : ptrQ F n k = none := if_neg h
section
variable {PM : StM} {PF PC : FlM} {base D P Y F c : Nat} {p : Plt} {S : Nat → Bool} {u : World}
theorem qall_any (h : PqAt PM base D P Y F c p S u) : Calls Tryz.prog 46 #[.pointer (some ⟨Y, 0, none⟩)] u fun r u' => r = .returned (.slice (some ⟨F, 0, none⟩) p.f.length c) ∧ u' = u := by
  obtain ⟨x0, x1, x2, f0, f1, f2⟩ := h.cells
  clear h
  go_enter Tryz.func46, Tryz.ntmps46
  go_wp2_with fail
  go_ret
  exact ⟨rfl, rfl⟩
theorem qall_nil (u : World) : Calls Tryz.prog 46 #[.pointer none] u fun r u' => r = .returned (.slice none 0 0) ∧ u' = u := by
  go_enter Tryz.func46, Tryz.ntmps46
  go_wp2_with fail
  go_ret
  exact ⟨rfl, rfl⟩
/-- the first frame of which it is so -/
def AskQ (N : Nat) (caps : Array Value) (F n : Nat) (q : Nat → Bool) (u : World) : Prop :=
  (∀ k w, (callFunc N (#[.pointer (some ⟨F, k * 237, none⟩)] ++ caps)).run Tryz.prog w = .ok (.enter N (#[.pointer (some ⟨F, k * 237, none⟩)] ++ caps)) w) ∧
  ∀ k, k < n → Calls Tryz.prog N (#[.pointer (some ⟨F, k * 237, none⟩)] ++ caps) u fun r u' => r = .returned (.bool (q k)) ∧ u' = u
set_option maxHeartbeats 1600000 in
theorem qfirst_any {N : Nat} {caps : Array Value} {q : Nat → Bool} (h : PqAt PM base D P Y F c p S u) (hl : p.f.length ≤ 32) (hq : AskQ N caps F p.f.length q u) : Calls Tryz.prog 48 #[.pointer (some ⟨Y, 0, none⟩), .func (.func N) #[] caps] u fun r u' => r = .returned (.pointer (ptrQ F p.f.length (lstP q p.f.length))) ∧ u' = u := by
  have H := Lib.hid (qall_any h)
  obtain ⟨hent, hcall⟩ := hq
  have HC := Lib.hid hcall
  have HE := Lib.hid hent
  clear h hent hcall
  go_enter Tryz.func48, Tryz.ntmps48
  go_wp2_with fail
  refine (H.out).mono ?_
  rintro r w1 ⟨rfl, hw⟩
  subst hw
  go_wp2_with fail
  go_loopw [11] (fun i wr => ∃ j : Nat, j ≤ p.f.length ∧ i = .int .i64 j ∧ (∀ k, k < j → q k = false) ∧ wr = w1) (fun i _ => p.f.length - (intOf i).toNat)
  case atStart => exact ⟨0, Nat.zero_le _, rfl, fun k hk => absurd hk (Nat.not_lt_zero k), rfl⟩
  case round =>
    obtain ⟨j, hj, rfl, hk, hw⟩ := hrel
    rw [hw]
    clear hw wr
    have HK := Lib.hid hk
    clear hk
    by_cases hlt : j < p.f.length
    · have hj2 : (0 : Int) ≤ (j : Int) := by omega
      have hj1 : (j : Int) < (p.f.length : Int) := by omega
      have d1 : decide ((j : Int) < (p.f.length : Int)) = true := decide_eq_true hj1
      have hent := HE.out j
      have HC2 := Lib.hid (HC.out j hlt)
      cases hb : q j with
      | true =>
        rw [hb] at HC2
        have E : Hid (ptrQ F p.f.length (lstP q p.f.length) = some ⟨F, j * 237, none⟩) := Lib.hid (by
          rw [lstP_of (i := j) (by omega) (.inr hb) HK.out, ptrQ_in hlt])
        go_wp2_with fail
        refine (HC2.out).mono ?_
        rintro r w2 ⟨rfl, rfl⟩
        go_wp2_with fail
        go_ret
        exact ⟨by rw [E.out]; rfl, rfl⟩
      | false =>
        rw [hb] at HC2
        have HK2 : Hid (∀ k, k < j + 1 → q k = false) := Lib.hid fun k hk => by
          rcases Nat.lt_succ_iff_lt_or_eq.1 hk with h9 | rfl
          · exact HK.out k h9
          · exact hb
        go_wp2_with fail
        refine (HC2.out).mono ?_
        rintro r w2 ⟨rfl, rfl⟩
        go_wp2_with fail
        go_roundw
        case rel => exact ⟨j + 1, hlt, by go_num, HK2.out, trivial⟩
        case measure => simp [intOf]; omega
    · have d1 : decide ((j : Int) < (p.f.length : Int)) = false := decide_eq_false (by omega)
      have E : Hid (ptrQ F p.f.length (lstP q p.f.length) = none) := Lib.hid (by
        rw [ptrQ_out]
        intro h9
        have := HK.out _ (show lstP q p.f.length < j by omega)
        rw [lstP_at h9] at this
        cases this)
      go_wp2_with fail
      go_ret
      exact ⟨by rw [E.out]; rfl, rfl⟩
set_option maxHeartbeats 1600000 in
theorem qmany_any {N : Nat} {caps : Array Value} {q : Nat → Bool} (h : PqAt PM base D P Y F c p S u) (hl : p.f.length ≤ 32) (hq : AskQ N caps F p.f.length q u) : Calls Tryz.prog 56 #[.pointer (some ⟨Y, 0, none⟩), .func (.func N) #[] caps] u fun r u' => r = .returned (.int .i64 (cntB q p.f.length : Int)) ∧ u' = u := by
  have H := Lib.hid (qall_any h)
  obtain ⟨hent, hcall⟩ := hq
  have HC := Lib.hid hcall
  have HE := Lib.hid hent
  clear h hent hcall
  go_enter Tryz.func56, Tryz.ntmps56
  go_wp2_with fail
  refine (H.out).mono ?_
  rintro r w1 ⟨rfl, hw⟩
  subst hw
  go_wp2_with fail
  go_loopw [5, 12] (fun m i wr => ∃ j : Nat, j ≤ p.f.length ∧ i = .int .i64 j ∧ m = .int .i64 (cntB q j : Int) ∧ wr = w1) (fun _ i _ => p.f.length - (intOf i).toNat)
  case atStart => exact ⟨0, Nat.zero_le _, rfl, rfl, rfl⟩
  case round =>
    obtain ⟨j, hj, rfl, rfl, hw⟩ := hrel
    rw [hw]
    clear hw wr
    by_cases hlt : j < p.f.length
    · have hj2 : (0 : Int) ≤ (j : Int) := by omega
      have hj1 : (j : Int) < (p.f.length : Int) := by omega
      have d1 : decide ((j : Int) < (p.f.length : Int)) = true := decide_eq_true hj1
      have hent := HE.out j
      have HC2 := Lib.hid (HC.out j hlt)
      have E1 : Hid (cntB q (j + 1) = cntB q j + (if q j then 1 else 0)) := Lib.hid rfl
      have hle := cntB_le q j
      cases hb : q j with
      | true =>
        rw [hb] at HC2 E1
        go_wp2_with fail
        refine (HC2.out).mono ?_
        rintro r w2 ⟨rfl, rfl⟩
        go_wp2_with fail
        go_roundw
        case rel => exact ⟨j + 1, hlt, by go_num, by rw [E1.out]; go_num, trivial⟩
        case measure => simp [intOf]; omega
      | false =>
        rw [hb] at HC2 E1
        go_wp2_with fail
        refine (HC2.out).mono ?_
        rintro r w2 ⟨rfl, rfl⟩
        go_wp2_with fail
        go_roundw
        case rel => exact ⟨j + 1, hlt, by go_num, by rw [E1.out]; rfl, trivial⟩
        case measure => simp [intOf]; omega
    · have d1 : decide ((j : Int) < (p.f.length : Int)) = false := decide_eq_false (by omega)
      obtain rfl : j = p.f.length := by omega
      go_wp2_with fail
      go_ret
      exact ⟨rfl, rfl⟩
theorem ask_empty (h : QRow F p.f.length p.f c u) : AskQ 57 #[] F p.f.length (fun k => !fullB (frA p.f k)) u :=
  ⟨fun k w => callFunc_in Tryz.func57 (by kernel_rfl) (by kernel_rfl) _ w, fun k hk => fempty_any h hk⟩
theorem ask_held (h : QRow F p.f.length p.f c u) : AskQ 49 #[] F p.f.length (heldB p.f) u :=
  ⟨fun k w => callFunc_in Tryz.func49 (by kernel_rfl) (by kernel_rfl) _ w, fun k hk => fheld_any h hk⟩
theorem ask_loose (h : QRow F p.f.length p.f c u) : AskQ 185 #[] F p.f.length (fun k => !heldB p.f k) u :=
  ⟨fun k w => callFunc_in Tryz.func185 (by kernel_rfl) (by kernel_rfl) _ w, fun k hk => floose_any h hk⟩
theorem of1_any (h : QRow F p.f.length p.f c u) (l : Int) (b : Nat) (hb : u.heap[b]? = some (.cells #[.int .i64 l] 3 (0, 0))) {k : Nat} (hk : k < p.f.length) : Calls Tryz.prog 118 #[.pointer (some ⟨F, k * 237, none⟩), .pointer (some ⟨b, 0, none⟩)] u fun r u' => r = .returned (.bool (hasQ (frA p.f k) l)) ∧ u' = u := by
  have H := Lib.hid (fhas_any h hk l)
  have x0 : u.cell? ⟨b, 0, none⟩ = some (.int .i64 l) := by rw [Lib.cell_of_heap hb]; rfl
  clear h hb
  go_enter Tryz.func118, Tryz.ntmps118
  go_wp2_with fail
  refine (H.out).mono ?_
  rintro r w1 ⟨rfl, rfl⟩
  go_wp2_with fail
  go_ret
  exact ⟨rfl, rfl⟩
theorem ask_has (h : QRow F p.f.length p.f c u) (l : Int) (b : Nat) (hb : u.heap[b]? = some (.cells #[.int .i64 l] 3 (0, 0))) : AskQ 118 #[.pointer (some ⟨b, 0, none⟩)] F p.f.length (fun k => hasQ (frA p.f k) l) u :=
  ⟨fun k w => callFunc_in Tryz.func118 (by kernel_rfl) (by kernel_rfl) _ w, fun k hk => of1_any h l b hb hk⟩
/-- which one has it, by the document's -/
theorem lst_ext {a b : Nat → Bool} {n : Nat} (h : ∀ i, i < n → a i = b i) : lstP a n = lstP b n := by
  refine lstP_of (lstP_le b n) ?_ fun j hj => ?_
  · rcases Nat.lt_or_ge (lstP b n) n with q | q
    · exact .inr (by rw [h _ q]; exact lstP_at q)
    · exact .inl (by have := lstP_le b n; omega)
  · rw [h j (by have := lstP_le b n; omega)]
    exact lstP_ahead j hj
theorem hasQ_eq (x : Frm) (l : Int) : hasQ x l = (decide (0 ≤ l) && (x.pg == l)) := by
  unfold hasQ fullB pgN
  by_cases hp : 0 ≤ x.pg
  · rw [if_pos hp, decide_eq_true hp, Bool.true_and]
    by_cases hx : x.pg = l
    · rw [hx, decide_eq_true (by omega)]; rfl
    · have : (x.pg == l) = false := by simp [hx]
      rw [this, Bool.and_false]
  · rw [decide_eq_false hp, Bool.false_and]
    by_cases hl : 0 ≤ l
    · have : (x.pg == l) = false := by simp; omega
      rw [this, Bool.and_false]
    · rw [decide_eq_false hl, Bool.false_and]
theorem has_fnd (f : List Frm) (l : Int) : ptrQ F f.length (lstP (fun k => hasQ (frA f k) l) f.length) = ptrQ F f.length (fndF f l) := by
  unfold fndF
  by_cases hl : 0 ≤ l
  · rw [if_pos hl, lst_ext (b := hasF f l) fun i hi => ?_]
    rw [hasQ_eq, decide_eq_true hl, Bool.true_and]
    rfl
  · rw [if_neg hl, ptrQ_out, ptrQ_out (by omega)]
    intro h9
    have := lstP_at h9
    rw [hasQ_eq, decide_eq_false hl, Bool.false_and] at this
    cases this
theorem qof_any (I : Sh14 PM PF PC) (h : PqAt PM base D P Y F c p S u) (hl : p.f.length ≤ 32) (l : Int) : Calls Tryz.prog 70 #[.pointer (some ⟨Y, 0, none⟩), .int .i64 l] u fun r u' => r = .returned (.pointer (ptrQ F p.f.length (fndF p.f l))) ∧ Below u.heap.size u u' := by
  have hmf : ∀ (fn : Fn) (first cap : Array Value) (w : World), (Instr.makeFunc fn first cap).run Tryz.prog w = .ok (.func fn first cap) w := fun _ _ _ _ => rfl
  have B1 := Lib.hid (balloc u (.cells #[.int .i64 l] 3))
  have X1 := Lib.hid (heap_alloc_new u (.cells #[.int .i64 l] 3))
  have H1 := Lib.hid (h.below I B1.out)
  have H := Lib.hid (qfirst_any H1.out hl (ask_has H1.out.row l _ X1.out))
  rw [has_fnd] at H
  clear h X1 H1
  go_enter Tryz.func70, Tryz.ntmps70
  go_wp2_with fail
  refine (H.out).mono ?_
  rintro r w1 ⟨rfl, rfl⟩
  go_wp2_with fail
  go_ret
  exact ⟨rfl, B1.out⟩
end
end Go.Proofs.YtmflkkkbahghgaaGreat
