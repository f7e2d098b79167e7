/- The contract of slices.Clone at numbers. -/
import Derived.Lib.SliceRun
import Derived.Test.YtdpmpmaepjgndaaGreatYZ24
import Derived.Test.YtdpmpmaepjgndaaGreatYZ6
namespace Go.Proofs.YtdpmpmaepjgndaaGreat
open Go.RowKit Go.Deep
set_option linter.unusedVariables false
set_option linter.unusedSimpArgs false
set_option maxRecDepth 100000

theorem infoIntC : (Tryz.prog.info? 3).map (fun i => (i.zero, i.size, i.bytes)) = some (some (.int .i64 0), 1, 8) := by kernel_rfl
set_option maxHeartbeats 1600000 in
theorem cloneI_any (l : List Int) (v : Value) (w : World) (h : LstI l v w) (hl : l.length ≤ 100000) : Calls Tryz.prog 48 #[v] w fun r u' => ∃ v2, r = .returned v2 ∧ u'.ownsRow w.heap.size 3 1 v2 l.length (intV l) ∧ Below w.heap.size w u' := by
  obtain ⟨i0, hi, hz0, hz1, hz2⟩ := info_parts infoIntC
  have q22 : ∀ (w : World) (a : Option Addr) (n c n' c' : Nat), (binOp .eql 38 (.slice a n c) (.slice none n' c')).run Tryz.prog w = .ok (.bool a.isNone) w := fun w a n c n' c' => Lib.run_eql_slice_nil w _ _ a n c n' c' Tryz.underlying38
  have H := Lib.hid h
  obtain ⟨ao, cap, rfl, h1, h2, h3⟩ := h
  cases ao with
  | none =>
    have h0 : l.length = 0 := by
      rcases Nat.eq_zero_or_pos l.length with c | c
      · exact c
      · obtain ⟨b, o, e, _⟩ := h3 c; cases e
    have HE := Lib.hid h0
    clear h3 hi hz0 hz1 hz2
    go_enter Tryz.func48, Tryz.ntmps48
    go_wp2_with fail
    go_ret
    exact ⟨_, rfl, by rw [HE.out, List.eq_nil_of_length_eq_zero HE.out]; exact World.ownsRow_nil _ _ _ _, Below.refl _ _⟩
  | some ad =>
    have HS := Lib.hid (H.out.below (balloc w (.cells #[] 3)))
    clear h3
    go_enter Tryz.func48, Tryz.ntmps48
    go_wp2_with (at_builtin; refine wpList_append_any rfl _ _ 38 rfl w.heap.size 3 i0 (.int .i64 0) 1 8 Tryz.underlying38 hi hz0 hz1 hz2 rfl (by decide) _ 0 [] rfl ?ow (gW fun i => l.getD i 0) l.length _ rfl HS.out (fun i hi j hj => rfl) (by unfold maxLen; omega) (by omega) (by simp) l.length (Nat.zero_add _) ?_)
    case ow => exact World.ownsRow_made w #[] 0 (Nat.le_refl _) (Nat.zero_le _) rfl
    intro a' c' w1 hown hgrow
    have O1 := Lib.hid (show w1.ownsRow w.heap.size 3 1 (.slice a' l.length c') l.length (intV l) from by rw [intV_row]; exact hown)
    have B1 := Lib.hid (((Below.refl _ w).alloc (Nat.le_refl _) (.cells #[] 3)).grown hgrow (by simp) (by intro k hk; simp [Value.ownBlock] at hk; omega))
    clear hown hgrow
    go_wp2_with fail
    go_ret
    exact ⟨_, rfl, O1.out, B1.out⟩

end Go.Proofs.YtdpmpmaepjgndaaGreat
