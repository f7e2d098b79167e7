/- The walk of the law DiskDoes: every call of a disk is answered as the document says. -/
import Derived.Test.YtbohcfflkcaijaaDkLaw1
import Derived.Deep.DeepCutAuto
import Derived.Test.YtbohcfflkcaijaaTakeQ
namespace Go.Proofs.Ytbohcfflkcaijaa
open Go.RowKit Go.Deep Go.Maps
set_option linter.unusedVariables false
set_option linter.unusedSimpArgs false
set_option maxRecDepth 100000

theorem does_bad (n : Nat) (A : Nat → Ac) (g : Nat → Value) (ao : Option Addr) (cap : Nat) (x i : Int) (W : World) (hx : x < 1 ∨ 4096 < x) :
    Calls Try.prog 3 #[.int .i64 x, .slice ao n cap, .int .i64 i] W fun e w' => e = .returned (.bool true) ∧ Below W.heap.size W w' := by
  have H := Lib.hid (made_bad (base := 0) (n := n) (A := A) (g := g) (ao := ao) (cap := cap) W x hx)
  have HA : Hid (∀ w, Calls Try.prog 10 #[] w fun r u' => r = .returned (.bool true) ∧ Below w.heap.size w u') := Lib.hid fun w => awake_any w
  go_enter Try.func3, Try.ntmps3
  go_wp2_with fail
  refine (H.out).mono ?_
  rintro e w1 ⟨rfl, rfl⟩
  clear H
  go_wp2_with fail
  refine (HA.out _).mono ?_
  rintro e w2 ⟨rfl, k2⟩
  have K2 := Lib.hid k2
  clear k2
  go_wp2_with fail
  refine (HA.out _).mono ?_
  rintro e w3 ⟨rfl, k3⟩
  have K3 := Lib.hid (bthen K2.out k3)
  clear k3
  go_wp2_with fail
  go_ret
  exact ⟨rfl, K3.out⟩
set_option maxHeartbeats 6400000 in
theorem diskDoes_walk (x : Int) (n : Nat) (A : Nat → Ac) (g : Nat → Value) (ao : Option Addr) (cap : Nat) (i : Int) (W : World) (hx : (Lit.int .i64 x).wf = true) (ha : AcsAt W.heap.size n A g ao cap W) (hi : (Lit.int .i64 i).wf = true) :
    Calls Try.prog 3 #[.int .i64 x, .slice ao n cap, .int .i64 i] W fun e w' => e = .returned (.bool true) ∧ Below W.heap.size W w' := by
  by_cases hb : x < 1 ∨ 4096 < x
  · exact does_bad n A g ao cap x i W hb
  obtain ⟨m, rfl⟩ : ∃ m : Nat, x = (m : Int) := ⟨x.toNat, by omega⟩
  have hm : 1 ≤ m ∧ m ≤ 4096 := by omega
  have H := Lib.hid (made_any (Nat.le_refl _) ha m hm)
  have HA : Hid (∀ w, Calls Try.prog 10 #[] w fun r u' => r = .returned (.bool true) ∧ Below w.heap.size w u') := Lib.hid fun w => awake_any w
  have hib := i64_bd hi
  clear ha hi hx hb
  go_enter Try.func3, Try.ntmps3
  go_wp2_with fail
  refine (H.out).mono ?_
  rintro e w1 ⟨P, bS, bm, cS, Q, b1, b2, b3, c1, c2, c3, d, rfl, hb1, hn, hcalls, harm, k1⟩
  have HB1 := Lib.hid hb1
  have K1 := Lib.hid k1
  have HN := Lib.hid hn
  clear hb1 k1 hn hcalls harm H
  go_wp2_with fail
  refine (HA.out _).mono ?_
  rintro e w2 ⟨rfl, k2⟩
  have HB2 := Lib.hid (HB1.out.below k2)
  have K2 := Lib.hid (K1.out.trans (k2.mono K1.out.size))
  clear k2 HB1 K1
  have hn9 : d.n ≤ 4096 := by rw [HN.out]; exact hm.2
  have G1 := Lib.hid (pread_any HB2.out.p hn9 i)
  have G2 := Lib.hid (rread_any HB2.out.r hn9 i)
  obtain ⟨sa, hsa⟩ : ∃ s, s = readS d i := ⟨_, rfl⟩
  obtain ⟨ea, hea⟩ : ∃ e, e = readE d i := ⟨_, rfl⟩
  rw [← hsa, ← hea] at G1 G2
  clear hsa hea
  go_wp2_with fail
  refine (G1.out).mono ?_
  rintro e w3 ⟨rfl, rfl⟩
  go_wp2_with fail
  refine (G2.out).mono ?_
  rintro e w4 ⟨rfl, rfl⟩
  go_upto_region 6 with fail
  refine wp_region_held_drew (S := (fun w' => w'.cell? ⟨Q, 4, none⟩ = some (.int .i64 (d.calls : Int)) ∧ w'.cell? ⟨Q, 5, none⟩ = some (.bool d.down))) (by kernel_rfl) ?_ (fun hHeld => ?_)
  · have hc := (HB2.out.r.below (bdrew w4)).cells
    exact ⟨hc.2.2.2.2.1, hc.2.2.2.2.2.1⟩
  have HB5 := Lib.hid (HB2.out.below (bdrew w4))
  have K5 := Lib.hid (K2.out.trans ((bdrew w4).mono K2.out.size))
  change wpAnyH _ _ _ _ _ _ _ _ (World.drew w4)
  clear HB2 K2 G1 G2
  generalize World.drew w4 = w5 at *
  have C10 := Lib.hid (pdown_any HB5.out.p)
  have C19 := Lib.hid (psectors_any HB5.out.p)
  rw [HN.out] at C19
  have C25 := Lib.hid (ploose_any HB5.out.p)
  have C27 := Lib.hid (rloose_any HB5.out.r hn9)
  have C32 : Hid (∀ w, Below w5.heap.size w5 w → Calls Try.prog 17 #[.pointer (some ⟨P, 0, none⟩)] w fun r u' => r = .returned (.int .i64 (d.calls : Int)) ∧ u' = w) := Lib.hid fun w k => pcalls_any (HB5.out.p.below k)
  generalize (looseN d.is d.n : Int) = lo at *
  generalize (d.calls : Int) = ca at *
  generalize d.down = dn at *
  first | refine tq0 0 rfl ?_ | refine tq1 0 rfl ?_
  try go_frame
  first | refine tq0 1 rfl ?_ | refine tq1 1 rfl ?_
  try go_frame
  first | refine tq0 2 rfl ?_ | refine tq1 2 rfl ?_
  try go_frame
  first | refine tq0 3 rfl ?_ | refine tq1 3 rfl ?_
  try go_frame
  first | refine tq0 4 rfl ?_ | refine tq1 4 rfl ?_
  try go_frame
  first | refine tq0 5 rfl ?_ | refine tq1 5 rfl ?_
  try go_frame
  first | refine tq0 6 rfl ?_ | refine tq1 6 rfl ?_
  try go_frame
  first | refine tq0 7 rfl ?_ | refine tq1 7 rfl ?_
  try go_frame
  first | refine tq0 8 rfl ?_ | refine tq1 8 rfl ?_
  try go_frame
  first | refine tq0 9 rfl ?_ | refine tq1 9 rfl ?_
  try go_frame
  first | refine tq0 11 rfl ?_ | refine tq1 11 rfl ?_
  try go_frame
  first | refine tq0 12 rfl ?_ | refine tq1 12 rfl ?_
  try go_frame
  first | refine tq0 13 rfl ?_ | refine tq1 13 rfl ?_
  try go_frame
  first | refine tq0 14 rfl ?_ | refine tq1 14 rfl ?_
  try go_frame
  refine wpAnyH_ready (rs := [10]) (by kernel_rfl) (by simp) ?_
  refine AllReadyH.cons (o := ⟨_, _, _, _, _, _⟩) rfl (fun K hK => ?_) AllReadyH.nil
  go_simp
  refine (C10.out).mono ?_
  rintro e w9 ⟨rfl, hw9⟩
  rw [hw9]
  clear hw9 w9
  refine hK.out _ _ hHeld (fun hHeld => ?_)
  clear hK K
  try simp only [Act.put, List.setIfInBounds_toArray, List.set_cons_zero, List.set_cons_succ]
  first | refine tq0 15 rfl ?_ | refine tq1 15 rfl ?_
  try go_frame
  first | refine tq0 16 rfl ?_ | refine tq1 16 rfl ?_
  try go_frame
  first | refine tq0 17 rfl ?_ | refine tq1 17 rfl ?_
  try go_frame
  first | refine tq0 18 rfl ?_ | refine tq1 18 rfl ?_
  try go_frame
  first | refine tq0 20 rfl ?_ | refine tq1 20 rfl ?_
  try go_frame
  refine wpAnyH_ready (rs := [19]) (by kernel_rfl) (by simp) ?_
  refine AllReadyH.cons (o := ⟨_, _, _, _, _, _⟩) rfl (fun K hK => ?_) AllReadyH.nil
  go_simp
  refine (C19.out).mono ?_
  rintro e w9 ⟨rfl, hw9⟩
  rw [hw9]
  clear hw9 w9
  refine hK.out _ _ hHeld (fun hHeld => ?_)
  clear hK K
  try simp only [Act.put, List.setIfInBounds_toArray, List.set_cons_zero, List.set_cons_succ]
  first | refine tq0 21 rfl ?_ | refine tq1 21 rfl ?_
  try go_frame
  first | refine tq0 22 rfl ?_ | refine tq1 22 rfl ?_
  try go_frame
  first | refine tq0 23 rfl ?_ | refine tq1 23 rfl ?_
  try go_frame
  first | refine tq0 24 rfl ?_ | refine tq1 24 rfl ?_
  try go_frame
  first | refine tq0 26 rfl ?_ | refine tq1 26 rfl ?_
  try go_frame
  refine wpAnyH_ready (rs := [25]) (by kernel_rfl) (by simp) ?_
  refine AllReadyH.cons (o := ⟨_, _, _, _, _, _⟩) rfl (fun K hK => ?_) AllReadyH.nil
  go_simp
  refine (C25.out).mono ?_
  rintro e w9 ⟨rfl, hw9⟩
  rw [hw9]
  clear hw9 w9
  refine hK.out _ _ hHeld (fun hHeld => ?_)
  clear hK K
  try simp only [Act.put, List.setIfInBounds_toArray, List.set_cons_zero, List.set_cons_succ]
  refine wpAnyH_ready (rs := [27]) (by kernel_rfl) (by simp) ?_
  refine AllReadyH.cons (o := ⟨_, _, _, _, _, _⟩) rfl (fun K hK => ?_) AllReadyH.nil
  go_simp
  refine (C27.out).mono ?_
  rintro e w6 ⟨rfl, hb6⟩
  have B6 := Lib.hid hb6
  have HB6 := Lib.hid (HB5.out.below hb6)
  have K6 := Lib.hid (K5.out.trans (hb6.mono K5.out.size))
  refine hK.out _ _ ?_ (fun hHeld => ?_)
  · exact ⟨(World.cell?_of_block (hb6.block _ HB5.out.r.lt.1)).trans hHeld.1, (World.cell?_of_block (hb6.block _ HB5.out.r.lt.1)).trans hHeld.2⟩
  clear hb6
  clear hK K
  try simp only [Act.put, List.setIfInBounds_toArray, List.set_cons_zero, List.set_cons_succ]
  first | refine tq0 28 rfl ?_ | refine tq1 28 rfl ?_
  try go_frame
  first | refine tq0 29 rfl ?_ | refine tq1 29 rfl ?_
  try go_frame
  first | refine tq0 30 rfl ?_ | refine tq1 30 rfl ?_
  try go_frame
  first | refine tq0 31 rfl ?_ | refine tq1 31 rfl ?_
  try go_frame
  first | refine tq0 33 rfl ?_ | refine tq1 33 rfl ?_
  try go_frame
  first | refine tq0 34 rfl ?_ | refine tq1 34 rfl ?_
  try go_frame
  first | refine tq0 35 rfl ?_ | refine tq1 35 rfl ?_
  try go_frame
  first | refine tq0 36 rfl ?_ | refine tq1 36 rfl ?_
  try go_frame
  refine wpAnyH_ready (rs := [32]) (by kernel_rfl) (by simp) ?_
  refine AllReadyH.cons (o := ⟨_, _, _, _, _, _⟩) rfl (fun K hK => ?_) AllReadyH.nil
  go_simp
  refine (C32.out _ B6.out).mono ?_
  rintro e w9 ⟨rfl, hw9⟩
  rw [hw9]
  clear hw9 w9
  refine hK.out _ _ hHeld (fun hHeld => ?_)
  clear hK K
  try simp only [Act.put, List.setIfInBounds_toArray, List.set_cons_zero, List.set_cons_succ]
  first | refine tq0 37 rfl ?_ | refine tq1 37 rfl ?_
  try go_frame
  first | refine tq0 38 rfl ?_ | refine tq1 38 rfl ?_
  try go_frame
  refine wpAnyH_done (by kernel_rfl) ?_ _
  clear hHeld C10 C19 C25 C27 C32
  go_wp2_with fail
  go_loopw [14] (fun iv wr => ∃ j : Nat, j ≤ 12 ∧ iv = .int .i64 j ∧ Both W.heap.size P bS bm cS Q b1 b2 b3 c1 c2 c3 d wr ∧ Below W.heap.size W wr) (fun iv _ => 12 - (intOf iv).toNat)
  case atStart => exact ⟨0, by omega, rfl, HB6.out, K6.out⟩
  case round =>
    obtain ⟨j, hj, rfl, hb, hk⟩ := hrel
    have HBJ := Lib.hid hb
    have KJ := Lib.hid hk
    clear hb hk
    have hj0 : (0 : Int) ≤ (j : Int) := by omega
    by_cases hjm : j < m
    · have e1 : decide ((j : Int) < (m : Int)) = true := by simp [hjm]
      by_cases h12 : j < 12
      · have e2 : decide ((j : Int) < 12) = true := by simp; omega
        have G1 := Lib.hid (pread_any HBJ.out.p hn9 (j : Int))
        have G2 := Lib.hid (rread_any HBJ.out.r hn9 (j : Int))
        obtain ⟨sb, hsb⟩ : ∃ s, s = readS d (j : Int) := ⟨_, rfl⟩
        obtain ⟨eb, heb⟩ : ∃ e, e = readE d (j : Int) := ⟨_, rfl⟩
        rw [← hsb, ← heb] at G1 G2
        clear hsb heb
        go_wp2_with fail
        refine (G1.out).mono ?_
        rintro e w7 ⟨rfl, rfl⟩
        go_wp2_with fail
        refine (G2.out).mono ?_
        rintro e w8 ⟨rfl, rfl⟩
        go_wp2_with fail
        go_roundw
        case rel => exact ⟨j + 1, by omega, by go_num, HBJ.out, KJ.out⟩
        case measure => simp [intOf]; omega
      · have e2 : decide ((j : Int) < 12) = false := by simp; omega
        go_wp2_with fail
        go_ret
        exact ⟨rfl, KJ.out⟩
    · have e1 : decide ((j : Int) < (m : Int)) = false := by simp; omega
      go_wp2_with fail
      go_ret
      exact ⟨rfl, KJ.out⟩

end Go.Proofs.Ytbohcfflkcaijaa
