/- The program's store: Abort, Count, Pages, Epoch. The program's store: Read. The program's blank table; a store over a disk. A store whose disk is armed, looked at, crashed. -/
import Derived.Test.YtmflkkkbahghgaaGreatYZ34
import Derived.Test.YtmflkkkbahghgaaGreatYZ35
import Derived.Test.YtmflkkkbahghgaaGreatYZ16
import Derived.Test.YtmflkkkbahghgaaGreatYZ9
import Derived.Test.YtmflkkkbahghgaaGreatYZ12
import Derived.Test.YtmflkkkbahghgaaGreatYZ7
import Derived.Test.YtmflkkkbahghgaaGreatYZ14
namespace Go.Proofs.YtmflkkkbahghgaaGreat
open Go.RowKit Go.Deep
set_option linter.unusedVariables false
set_option linter.unusedSimpArgs false
set_option maxRecDepth 100000

section
variable {base D P a : Nat} {x : Stt} {S : Nat → Bool} {M bS bm cS : Nat} {d : Dk} {n : Nat} {K : Nat → Nat} {tb : Nat → Int} {ot parts : List Int} {slot : Nat} {vp : Value} {SK : Nat → Bool} {u u2 : World}
/-- its cells when a committed table is loaded over the one now -/
theorem StoA.over {D M : Nat} {ep : Int} {f g h : Nat → Int} {A : Array Value} (hA : StoA D M ep slot f g vp A) : StoA D M ep slot h g vp (putA A 1 (tabL h)) := by
  have lo : ∀ i, 513 ≤ i → (putA A 1 (tabL h))[i]? = A[i]? := fun i hi => putA_out _ _ _ _ (.inr (by rw [tabL_len]; omega))
  refine ⟨by rw [putA_size]; exact hA.sz, by rw [putA_out _ _ _ _ (.inl (by omega))]; exact hA.c0, fun l hl => ?_, fun l hl => by rw [lo _ (by omega)]; exact hA.old l hl, by rw [lo _ (by omega)]; exact hA.cm, by rw [lo _ (by omega)]; exact hA.ce, by rw [lo _ (by omega)]; exact hA.cs, by rw [lo _ (by omega)]; exact hA.cp, by rw [lo _ (by omega)]; exact hA.cb⟩
  rw [putA_in _ _ _ _ (by rw [tabL_len]; exact hl) (by rw [tabL_len, hA.sz]; omega), tabL_at _ hl]
theorem StoM.over {ep : Int} {h : Nat → Int} (m : StoM base D P M bS bm cS d n K ep slot tb ot parts vp SK u) : StoM base D P M bS bm cS d n K ep slot h ot parts vp SK (u.setCells P 1 (tabL h)) := by
  obtain ⟨A, e, hA⟩ := m.box
  exact m.rebox (kps_cells (q := P) (by simp) _ _ _) (putA_block _ 1 u A _ e) hA.over m.par m.plo m.pa
set_option maxHeartbeats 1600000 in
theorem sabort_any (h0 : PMx base D P x a S u) (hx : OkX x) : Calls Tryz.prog 55 #[.pointer (some ⟨P, 0, none⟩)] u fun r u' => r = .returned (.bool true) ∧ ∃ S2, NewB S S2 u ∧ KpS S u u' ∧ PMx base D P (aboSX x) a S2 u' := by
  obtain ⟨M, bS, bm, cS, d, n, K, tb, ot, parts, slot, vp, SK, h, rfl⟩ := h0
  have hn := h.n_le
  have HH := Lib.hid h
  have hc := h.m.was.range
  have ht := h.m.now.there (g := atL ot)
  have hz := sizeT (atL ot)
  have hza := sizeTA (atL ot)
  have h1 := tabL_all (atL ot)
  have M1 := Lib.hid (h.m.over (h := atL ot))
  have K1 : Hid (KpS (stoS P D bS bm SK vp) u (u.setCells P 1 (tabL (atL ot)))) := Lib.hid (kps_cells (stoS_iff.2 (.inl rfl)) _ _ _)
  have HA := Lib.hid (sto_abort M1.out hn)
  obtain ⟨c0, c3, c4, c5, c6, c7, cf⟩ := M1.out.look
  clear h c0 c4 c5 c6 c7 cf
  generalize (tabL (atL ot)) = L at *
  go_enter Tryz.func55, Tryz.ntmps55
  go_upto_region 4 with (first | refine wpList_load_mid rfl 111 _ rfl P 513 rfl L _ hc Tryz.underlying111 rfl hz ?_ | refine wpList_store_mid rfl 111 _ _ rfl P 1 L.toArray rfl rfl ht hza h1 ?_)
  simp only [Act.put, List.setIfInBounds_toArray, List.set_cons_zero, List.set_cons_succ]
  generalize u.setCells P 1 L = w1 at *
  clear hc ht hz hza h1
  go_wp2_with fail
  refine (HA.out).mono ?_
  rintro e w2 ⟨rfl, SK2, h1, h2, h3⟩
  have FIN : Hid (∃ S2, NewB (stoS P D bS bm SK vp) S2 u ∧ KpS (stoS P D bS bm SK vp) u w2 ∧ PMx base D P (aboSX x) a S2 w2) := Lib.hid (by
    refine ⟨stoS P D bS bm SK2 vp, NewB.then (S2 := stoS P D bS bm SK vp) (fun k hk => .inl hk) (newB_map h1) K1.out.size, K1.out.trans (h2.mono fun q hq => inSK hq), M, bS, bm, cS, d, n, turnF K 0 1, atL ot, ot, parts, slot, vp, SK2, ⟨h3, ?_, HH.out.arm, HH.out.cl, HH.out.dn, HH.out.ab, HH.out.sl, HH.out.nm⟩, rfl⟩
    exact HH.out.h.abort (fun l => rfl) (fun q hq => by unfold turnF; split <;> rfl))
  clear h1 h2 h3 HA c3
  go_wp2_with fail
  go_ret
  exact ⟨rfl, FIN.out⟩
end

end Go.Proofs.YtmflkkkbahghgaaGreat
namespace Go.Proofs.YtmflkkkbahghgaaGreat
open Go.RowKit Go.Deep
set_option linter.unusedVariables false
set_option linter.unusedSimpArgs false
set_option maxRecDepth 100000

section
variable {base D P M bS bm cS n : Nat} {d : Dk} {K : Nat → Nat} {ep : Int} {slot : Nat} {tb : Nat → Int} {ot parts : List Int} {vp : Value} {SK : Nat → Bool} {u u2 : World}
theorem sread_out (h : StoM base D P M bS bm cS d n K ep slot tb ot parts vp SK u) (l : Int) (hl : hasT tb l = false) : Calls Tryz.prog 141 #[.pointer (some ⟨P, 0, none⟩), .int .i64 l] u fun r u' => r = .returned (.tuple #[.string ByteArray.empty, .int .i64 3]) ∧ u' = u := by
  have HT := Lib.hid (sat_any h l)
  rw [hl, if_neg (by decide)] at HT
  clear h hl
  go_enter Tryz.func141, Tryz.ntmps141
  go_wp2_with fail
  refine (HT.out).mono ?_
  rintro e w1 ⟨rfl, hw⟩
  rw [hw]
  clear hw w1
  go_wp2_with fail
  go_ret2
  exact ⟨rfl, rfl⟩
set_option maxHeartbeats 1600000 in
theorem sread_in (h : StoM base D P M bS bm cS d n K ep slot tb ot parts vp SK u) (hn : d.n ≤ 4096) {k : Nat} (hk : k < 512) (hne : tb k ≠ -1) (id ee kd : Int) (pay : ByteArray) (hr : readPE d (tb k) = 0) (hp : readPP d (tb k) = ⟨id, ee, kd, pay⟩) : Calls Tryz.prog 141 #[.pointer (some ⟨P, 0, none⟩), .int .i64 (k : Int)] u fun r u' => r = .returned (.tuple #[.string pay, .int .i64 0]) ∧ Below u.heap.size u u' := by
  have HT := Lib.hid (sat_any h (k : Int))
  rw [show hasT tb (k : Int) = true from decide_eq_true ⟨by omega, by omega, by rw [Int.toNat_natCast]; exact hne⟩, if_pos rfl] at HT
  have HH := Lib.hid h
  have HR0 := Lib.hid (fun w (hw : StoM base D P M bS bm cS d n K ep slot tb ot parts vp SK w) => ppread_any hw.dk hn (tb k))
  unfold readRet at HR0
  rw [hr, hp] at HR0
  have hc1 := h.now.cell hk
  have hc2 : u.cell? ⟨P, k + 1, none⟩ = some (.int .i64 (tb k)) := by rw [Nat.add_comm]; exact hc1
  obtain ⟨c0, c3, c4, c5, c6, c7, cf⟩ := h.look
  have k1 : (k : Int) < 512 := by omega
  have k2 : (0 : Int) ≤ (k : Int) := by omega
  generalize tb k = z at *
  clear h hk hne hr hp c3 c4 c5 c6 c7 cf
  go_enter Tryz.func141, Tryz.ntmps141
  go_wp2_with fail
  refine (HT.out).mono ?_
  rintro e w1 ⟨rfl, hw⟩
  rw [hw]
  clear hw w1
  go_upto_region 4 with fail
  refine wp_region_held_drew (S := (fun w' => w'.cell? ⟨P, 0, none⟩ = some (.pointer (some ⟨D, 0, none⟩)) ∧ w'.cell? ⟨P, 1 + k, none⟩ = some (.int .i64 z) ∧ w'.cell? ⟨P, k + 1, none⟩ = some (.int .i64 z))) (by kernel_rfl) ⟨c0, hc1, hc2⟩ (fun hHeld => ?_)
  change wpAnyH _ _ _ _ _ _ _ _ (World.drew u)
  have MD := Lib.hid (HH.out.below (bdrew u))
  have BD := Lib.hid (bdrew u)
  have HR : Hid (∀ wq (hq : Below (World.drew u).heap.size (World.drew u) wq), Calls Tryz.prog 170 #[.pointer (some ⟨D, 0, none⟩), .int .i64 z] wq fun r u' => r = .returned (.tuple #[.agg #[.int .i64 id, .int .i64 ee, .int .i64 kd, .string pay], .int .i64 0]) ∧ Below wq.heap.size wq u') := Lib.hid (fun wq hq => HR0.out wq (MD.out.below hq))
  clear c0 hc1 hc2
  have g1 : (World.drew u).cell? ⟨P, 0, none⟩ = some (.pointer (some ⟨D, 0, none⟩)) ∧ (World.drew u).cell? ⟨P, 1 + k, none⟩ = some (.int .i64 z) ∧ (World.drew u).cell? ⟨P, k + 1, none⟩ = some (.int .i64 z) := hHeld
  have G1 := Lib.hid g1
  have PL := Lib.hid MD.out.plt
  clear g1
  generalize World.drew u = wd at *
  first | refine tq0 0 rfl ?_ | refine tq1 0 rfl ?_
  try go_frame
  first | refine tq0 1 rfl ?_ | refine tq1 1 rfl ?_
  try go_frame
  first | refine tq0 2 rfl ?_ | refine tq1 2 rfl ?_
  try go_frame
  first | refine tq0 3 rfl ?_ | refine tq1 3 rfl ?_
  try go_frame
  first | refine tq0 4 rfl ?_ | refine tq1 4 rfl ?_
  try go_frame
  first | refine tq0 5 rfl ?_ | refine tq1 5 rfl ?_
  try go_frame
  first | refine tq0 6 rfl ?_ | refine tq1 6 rfl ?_
  try go_frame
  first | refine tq0 7 rfl ?_ | refine tq1 7 rfl ?_
  try go_frame
  first | refine tq0 8 rfl ?_ | refine tq1 8 rfl ?_
  try go_frame
  first | refine tq0 9 rfl ?_ | refine tq1 9 rfl ?_
  try go_frame
  refine wpAnyH_ready (rs := [10, 14]) (by kernel_rfl) (by simp) ?_
  refine AllReadyH.cons (o := ⟨_, _, _, _, _, _⟩) rfl (fun Kx hKx => ?_) (AllReadyH.cons (o := ⟨_, _, _, _, _, _⟩) rfl (fun Kx hKx => ?_) AllReadyH.nil)
  · go_simp
    go_at_call 170
    refine (HR.out _ (Below.refl _ _)).mono ?_
    rintro e9 w7 ⟨rfl, hb7⟩
    have B7 := Lib.hid hb7
    refine hKx.out _ _ ⟨(B7.out.cell (p := ⟨P, 0, none⟩) PL.out).trans G1.out.1, (B7.out.cell (p := ⟨P, 1 + k, none⟩) PL.out).trans G1.out.2.1, (B7.out.cell (p := ⟨P, k + 1, none⟩) PL.out).trans G1.out.2.2⟩ (fun hHeld => ?_)
    clear hKx Kx hb7
    try simp only [Act.put, List.setIfInBounds_toArray, List.set_cons_zero, List.set_cons_succ]
    first | refine tq0 11 rfl ?_ | refine tq1 11 rfl ?_
    try go_frame
    first | refine tq0 12 rfl ?_ | refine tq1 12 rfl ?_
    try go_frame
    first | refine tq0 13 rfl ?_ | refine tq1 13 rfl ?_
    try go_frame

    refine wpAnyH_ready (rs := [14]) (by kernel_rfl) (by simp) ?_
    refine AllReadyH.cons (o := ⟨_, _, _, _, _, _⟩) rfl (fun Kx hKx => ?_) AllReadyH.nil
    go_simp
    have Z8 := Lib.hid (heap_alloc_new w7 (.cells #[.int .i64 0, .int .i64 0, .int .i64 0, .string ⟨#[]⟩] 181))
    have B8 := Lib.hid (bthen B7.out (balloc w7 (.cells #[.int .i64 0, .int .i64 0, .int .i64 0, .string ⟨#[]⟩] 181)))
    have HXB := Lib.hid B7.out.size
    refine hKx.out _ _ ⟨(B8.out.cell (p := ⟨P, 0, none⟩) PL.out).trans G1.out.1, (B8.out.cell (p := ⟨P, 1 + k, none⟩) PL.out).trans G1.out.2.1, (B8.out.cell (p := ⟨P, k + 1, none⟩) PL.out).trans G1.out.2.2⟩ (fun hHeld => ?_)
    clear hKx Kx
    try simp only [Act.put, List.setIfInBounds_toArray, List.set_cons_zero, List.set_cons_succ]
    generalize w7.alloc (.cells #[.int .i64 0, .int .i64 0, .int .i64 0, .string ⟨#[]⟩] 181) = w8 at *
    generalize w7.heap.size = xb at *
    obtain ⟨z0, z1, z2, z3⟩ := four_cells Z8.out
    have zf : ∀ q, w8.frozen? ⟨xb, q, none⟩ = false := fun q => Lib.frozen_of_heap Z8.out q
    have BS := Lib.hid (B8.out.trans (put_below (base := wd.heap.size) HXB.out [.int .i64 id, .int .i64 ee, .int .i64 kd, .string pay] 0 w8))
    have ZS := Lib.hid (put_four Z8.out (.int .i64 id) (.int .i64 ee) (.int .i64 kd) (.string pay))
    refine wpAnyH_ready (rs := [15]) (by kernel_rfl) (by simp) ?_
    refine AllReadyH.cons (o := ⟨_, _, _, _, _, _⟩) rfl (fun Kx hKx => ?_) AllReadyH.nil
    go_simp
    change Kx _ (World.setCells w8 xb 0 [.int .i64 id, .int .i64 ee, .int .i64 kd, .string pay])
    refine hKx.out _ _ ⟨(BS.out.cell (p := ⟨P, 0, none⟩) PL.out).trans G1.out.1, (BS.out.cell (p := ⟨P, 1 + k, none⟩) PL.out).trans G1.out.2.1, (BS.out.cell (p := ⟨P, k + 1, none⟩) PL.out).trans G1.out.2.2⟩ (fun hHeld => ?_)
    clear hKx Kx z0 z1 z2 z3 zf
    try simp only [Act.put, List.setIfInBounds_toArray, List.set_cons_zero, List.set_cons_succ]
    first | refine tq0 16 rfl ?_ | refine tq1 16 rfl ?_
    try go_frame

    refine wpAnyH_done (by kernel_rfl) ?_ _
    generalize World.setCells w8 xb 0 [.int .i64 id, .int .i64 ee, .int .i64 kd, .string pay] = wf at *
    obtain ⟨z0, z1, z2, z3⟩ := four_cells ZS.out
    have FIN := Lib.hid (bthen BD.out BS.out)
    clear hHeld
    go_wp2_with fail
    go_ret2
    exact ⟨rfl, FIN.out⟩
  · go_simp
    have Z8 := Lib.hid (heap_alloc_new wd (.cells #[.int .i64 0, .int .i64 0, .int .i64 0, .string ⟨#[]⟩] 181))
    have B8 := Lib.hid (balloc wd (.cells #[.int .i64 0, .int .i64 0, .int .i64 0, .string ⟨#[]⟩] 181))
    refine hKx.out _ _ ⟨(B8.out.cell (p := ⟨P, 0, none⟩) PL.out).trans G1.out.1, (B8.out.cell (p := ⟨P, 1 + k, none⟩) PL.out).trans G1.out.2.1, (B8.out.cell (p := ⟨P, k + 1, none⟩) PL.out).trans G1.out.2.2⟩ (fun hHeld => ?_)
    clear hKx Kx
    try simp only [Act.put, List.setIfInBounds_toArray, List.set_cons_zero, List.set_cons_succ]
    have HR2 := Lib.hid (HR.out _ B8.out)
    obtain ⟨xb, hxb⟩ : ∃ xb, xb = wd.heap.size := ⟨_, rfl⟩
    have HXB : Hid (wd.heap.size ≤ xb) := Lib.hid (by omega)
    rw [← hxb] at Z8 ⊢
    generalize wd.alloc (.cells #[.int .i64 0, .int .i64 0, .int .i64 0, .string ⟨#[]⟩] 181) = w8 at *
    clear hxb
    refine wpAnyH_ready (rs := [10]) (by kernel_rfl) (by simp) ?_
    refine AllReadyH.cons (o := ⟨_, _, _, _, _, _⟩) rfl (fun Kx hKx => ?_) AllReadyH.nil
    go_simp
    go_at_call 170
    refine (HR2.out).mono ?_
    rintro e9 w7 ⟨rfl, hb7⟩
    have Z7 := Lib.hid (heap_stays Z8.out hb7)
    have B7 := Lib.hid (bthen B8.out hb7)
    refine hKx.out _ _ ⟨(B7.out.cell (p := ⟨P, 0, none⟩) PL.out).trans G1.out.1, (B7.out.cell (p := ⟨P, 1 + k, none⟩) PL.out).trans G1.out.2.1, (B7.out.cell (p := ⟨P, k + 1, none⟩) PL.out).trans G1.out.2.2⟩ (fun hHeld => ?_)
    clear hKx Kx hb7
    try simp only [Act.put, List.setIfInBounds_toArray, List.set_cons_zero, List.set_cons_succ]
    first | refine tq0 11 rfl ?_ | refine tq1 11 rfl ?_
    try go_frame
    first | refine tq0 12 rfl ?_ | refine tq1 12 rfl ?_
    try go_frame
    first | refine tq0 13 rfl ?_ | refine tq1 13 rfl ?_
    try go_frame

    obtain ⟨z0, z1, z2, z3⟩ := four_cells Z7.out
    have zf : ∀ q, w7.frozen? ⟨xb, q, none⟩ = false := fun q => Lib.frozen_of_heap Z7.out q
    have BS := Lib.hid (B7.out.trans (put_below (base := wd.heap.size) HXB.out [.int .i64 id, .int .i64 ee, .int .i64 kd, .string pay] 0 w7))
    have ZS := Lib.hid (put_four Z7.out (.int .i64 id) (.int .i64 ee) (.int .i64 kd) (.string pay))
    refine wpAnyH_ready (rs := [15]) (by kernel_rfl) (by simp) ?_
    refine AllReadyH.cons (o := ⟨_, _, _, _, _, _⟩) rfl (fun Kx hKx => ?_) AllReadyH.nil
    go_simp
    change Kx _ (World.setCells w7 xb 0 [.int .i64 id, .int .i64 ee, .int .i64 kd, .string pay])
    refine hKx.out _ _ ⟨(BS.out.cell (p := ⟨P, 0, none⟩) PL.out).trans G1.out.1, (BS.out.cell (p := ⟨P, 1 + k, none⟩) PL.out).trans G1.out.2.1, (BS.out.cell (p := ⟨P, k + 1, none⟩) PL.out).trans G1.out.2.2⟩ (fun hHeld => ?_)
    clear hKx Kx z0 z1 z2 z3 zf
    try simp only [Act.put, List.setIfInBounds_toArray, List.set_cons_zero, List.set_cons_succ]
    first | refine tq0 16 rfl ?_ | refine tq1 16 rfl ?_
    try go_frame

    refine wpAnyH_done (by kernel_rfl) ?_ _
    generalize World.setCells w7 xb 0 [.int .i64 id, .int .i64 ee, .int .i64 kd, .string pay] = wf at *
    obtain ⟨z0, z1, z2, z3⟩ := four_cells ZS.out
    have FIN := Lib.hid (bthen BD.out BS.out)
    clear hHeld
    go_wp2_with fail
    go_ret2
    exact ⟨rfl, FIN.out⟩
end
section
variable {base D P a : Nat} {x : Stt} {S : Nat → Bool} {u u2 : World}
theorem sread_any (l : Int) (h0 : PMx base D P x a S u) (hx : OkX x) : Calls Tryz.prog 141 #[.pointer (some ⟨P, 0, none⟩), .int .i64 l] u fun r u' => r = .returned (.tuple #[.string (if inS x.now l then (slA x.now l.toNat).b else ByteArray.empty), .int .i64 (if inS x.now l then 0 else 3)]) ∧ Below u.heap.size u u' := by
  obtain ⟨M, bS, bm, cS, d, n, K, tb, ot, parts, slot, vp, SK, h, rfl⟩ := h0
  by_cases hin : inS x.now l
  · rw [if_pos hin, if_pos hin]
    obtain ⟨k, rfl⟩ : ∃ k : Nat, l = (k : Int) := ⟨l.toNat, by have := hin.1; omega⟩
    have hk : isS x.now k = true := by have := hin.2; rwa [Int.toNat_natCast] at this
    rw [Int.toNat_natCast]
    have t := (h.at_ k).2.2.1 hk
    obtain ⟨e1, e, _, _, e2⟩ := (h.h.page k hk).read h.h.dn (by have := t.2; have := h.h.mn.2.2; omega)
    exact sread_in h.m h.dn (lt512 hx hk) ((h.at_ k).1.1 hk) _ _ _ _ e1 e2
  · rw [if_neg hin, if_neg hin]
    refine (sread_out h.m l ?_).mono ?_
    · cases c : hasT tb l with
      | false => rfl
      | true => exact absurd ((h.has hx l).mp c) hin
    · rintro r w ⟨h1, rfl⟩
      exact ⟨h1, Below.refl _ _⟩
end

end Go.Proofs.YtmflkkkbahghgaaGreat
namespace Go.Proofs.YtmflkkkbahghgaaGreat
open Go.RowKit Go.Deep
set_option linter.unusedVariables false
set_option linter.unusedSimpArgs false
set_option maxRecDepth 100000

theorem wpList_built {ops : Array Oper} {rest : List Oper} {o : Oper} {a : Act} {w : World} {Q : Exit → Act → World → Prop} (hgd : o.guard = none) (t : TypeId) (parts : Array (Nat × Operand)) (ho : o.op = .build t parts) (vs : Array (Nat × Value)) (cells : Array Value) (hb : ∀ w, (Instr.build t vs).run Tryz.prog w = .ok (.agg cells) w) (hv : (parts.toList.map fun (i, x) => (i, a.eval x)) = vs.toList)
    (h : wpList Tryz.prog ops Q rest (a.put o.dst (.agg cells)) w) : wpList Tryz.prog ops Q (o :: rest) a w :=
  wpList_plain hgd fun _ hK => by
    have e : (parts.map fun (i, x) => (i, a.eval x)) = vs := by
      rw [← Array.toList_inj, Array.toList_map]
      exact hv
    unfold Oper.wp execOp
    rw [← e] at hb
    simp only [ho, Sem.run_bind, hb, Result.andThen_ok]
    exact hK _ _ h
/-- a result that lies in a block -/
theorem results_cell {fn : Func} {tmps : Array Value} {w : World} {a : Nat} {t : TypeId} {ad : Addr} {v : Value} (hr : fn.results = #[.cell a t]) (h0 : tmps.getD a undef = .pointer (some ad)) (h : (loadVar t ad).run Tryz.prog w = .ok v w) : (results fn tmps).run Tryz.prog w = .ok v w := by
  unfold results
  rw [hr]
  have h0' : tmps[a]?.getD undef = .pointer (some ad) := by rw [← h0]; simp [Array.getD_eq_getD_getElem?]
  simp [Array.mapM_eq_mapM_toList, List.mapM_cons, Sem.run_bind, h0', asAddr, h]
set_option maxHeartbeats 800000 in
theorem blank_any (u : World) : Calls Tryz.prog 117 #[] u fun r u' => r = .returned (.agg (tabL fun _ => -1).toArray) ∧ Below u.heap.size u u' := by
  have Z := zeroT
  have h0 : ∀ l, l < 512 → (tabL fun _ => 0).toArray[l]? = some (.int .i64 0) := fun l hl => by rw [List.getElem?_toArray]; exact tabL_at _ hl
  have hs : (tabL fun _ => 0).toArray.size = 512 := tabA_size _
  generalize (tabL fun _ => 0).toArray = T0 at *
  have Z1 := heap_alloc_new u (.cells T0 111)
  have B1 := balloc u (.cells T0 111)
  have Z2 := heap_alloc_new (u.alloc (.cells T0 111)) (.cells T0 111)
  have B2 := balloc (u.alloc (.cells T0 111)) (.cells T0 111)
  have B3 := Lib.hid (bthen B1 B2)
  have Y1 := heap_stays Z1 B2
  rw [World.size_alloc] at Z2
  obtain ⟨C, hC⟩ : ∃ C, C = u.heap.size := ⟨_, rfl⟩
  obtain ⟨D, hD⟩ : ∃ D, D = u.heap.size + 1 := ⟨_, rfl⟩
  have HC : Hid (u.heap.size ≤ C) := Lib.hid (by omega)
  have HD : Hid (u.heap.size ≤ D) := Lib.hid (by omega)
  have CD : Hid (C ≠ D) := Lib.hid (by omega)
  rw [← hC] at Y1
  rw [← hD] at Z2
  have HZ := Lib.hid h0
  have HS := Lib.hid hs
  have Y2 := Lib.hid Y1
  have T2 := Lib.hid Z2
  clear Z1 Z2 B1 B2 Y1 h0 hs
  go_enter Tryz.func117, Tryz.ntmps117
  go_upto_region 2 with fail
  rw [← hD, ← hC]
  generalize (u.alloc (.cells T0 111)).alloc (.cells T0 111) = w2 at *
  clear hC hD Z
  go_wp2_with fail
  go_loopw [2, 3] (fun _ i wr => ∃ j : Nat, j ≤ 512 ∧ i = .int .i64 j ∧ Hid (∃ A, wr.heap[D]? = some (.cells A 111 (0, 0)) ∧ A.size = 512 ∧ ∀ l, l < j → A[l]? = some (.int .i64 (-1))) ∧ Hid (wr.heap[C]? = some (.cells T0 111 (0, 0))) ∧ Hid (Below u.heap.size u wr)) (fun _ i _ => 512 - (intOf i).toNat)
  case atStart => exact ⟨0, Nat.zero_le _, rfl, Lib.hid ⟨_, T2.out, HS.out, fun l hl => absurd hl (Nat.not_lt_zero l)⟩, Y2, B3⟩
  case round =>
    obtain ⟨j, hj, rfl, HT, HY, HB⟩ := hrel
    obtain ⟨A, hA, hAs, hAl⟩ := HT.out
    by_cases hlt : j < 512
    · have d1 : decide ((j : Int) < 512) = true := by rw [decide_eq_true_eq]; omega
      have g0 : (0 : Int) ≤ (j : Int) := by omega
      have g1 : (j : Int) < 512 := by omega
      have HLT := Lib.hid hlt
      have hc : ∃ v, wr.cell? ⟨D, j, none⟩ = some v := by
        rw [Lib.cell_of_heap hA, Array.getElem?_eq_getElem (by omega)]
        exact ⟨_, rfl⟩
      obtain ⟨v0, hc⟩ := hc
      have hf : wr.frozen? ⟨D, j, none⟩ = false := Lib.frozen_of_heap hA j
      have F : Hid (∃ A, (wr.setCell ⟨D, j, none⟩ (.int .i64 (-1))).heap[D]? = some (.cells A 111 (0, 0)) ∧ A.size = 512 ∧ ∀ l, l < j + 1 → A[l]? = some (.int .i64 (-1))) := Lib.hid (by
        refine ⟨_, Joins.block_setCell (i := j) hA _, by rw [Array.size_setIfInBounds]; exact hAs, fun l hl => ?_⟩
        rw [Array.getElem?_setIfInBounds]
        by_cases c : j = l
        · rw [if_pos c, if_pos (by omega)]
        · rw [if_neg c]; exact hAl l (by omega))
      have FY := Lib.hid ((set_else (P := D) (o := j) (w := wr) (.int .i64 (-1)) CD.out).trans HY.out)
      have FB := Lib.hid (HB.out.trans ((Below.refl _ _).setCell (p := ⟨D, j, none⟩) HD.out (.int .i64 (-1))))
      clear hA hAs hAl hlt
      go_wp2_with fail
      go_roundw
      case rel => have := HLT.out; exact ⟨j + 1, by omega, by go_num, F, FY, FB⟩
      case measure => have := HLT.out; simp [intOf]; omega
    · have ej : j = 512 := by omega
      have d1 : decide ((j : Int) < 512) = false := by rw [decide_eq_false_iff_not]; omega
      have eA : A = (tabL fun _ => -1).toArray := tabL_of (f := fun _ => -1) hAs fun l hl => hAl l (by omega)
      have hR : TabC D 0 (fun _ => -1) wr := ⟨A, _, hA, fun l hl => by rw [Nat.zero_add]; exact hAl l (by omega)⟩
      have hR0 : TabC C 0 (fun _ => 0) wr := ⟨T0, _, HY.out, fun l hl => by rw [Nat.zero_add]; exact HZ.out l hl⟩
      have hc := hR.range
      have ht := hR0.there (g := fun _ => -1)
      have K9 : TabC C 0 (fun _ => -1) (wr.setCells C 0 (tabL fun _ => -1)) := ⟨_, _, putA_block (tabL fun _ => -1) 0 wr T0 _ HY.out, fun l hl => by
        rw [putA_in _ _ _ _ (by rw [tabL_len]; exact hl) (by rw [tabL_len, HS.out]; omega), tabL_at _ hl]⟩
      have HB9 := Lib.hid (HB.out.trans (below_cells HC.out (tabL fun _ => -1) 0 wr))
      have hz := sizeT (fun _ => -1)
      have hza := sizeTA (fun _ => -1)
      have h1 := tabL_all (fun _ => -1)
      have HR9 : Hid ((loadVar 111 ⟨C, 0, none⟩).run Tryz.prog (wr.setCells C 0 (tabL fun _ => -1)) = .ok (.agg (tabL fun _ => -1).toArray) (wr.setCells C 0 (tabL fun _ => -1))) := Lib.hid (run_loadVar_mid _ _ _ _ _ _ K9.range Tryz.underlying111 rfl (sizeT _))
      clear hA hAs hAl eA hR hR0 K9
      generalize hL : (tabL fun _ => -1) = L at *
      have HL := Lib.hid hL
      clear hL
      go_wp2_with (first | refine wpList_load_mid rfl 111 _ rfl D 0 rfl L _ hc Tryz.underlying111 rfl hz ?_ | refine wpList_store_mid rfl 111 _ _ rfl C 0 L.toArray rfl rfl ht hza h1 ?_)
      generalize wr.setCells C 0 L = w9 at *
      exact bodyPost_ret (v := .agg L.toArray) (results_cell Tryz.results117 rfl HR9.out) rfl ⟨by rw [HL.out], HB9.out⟩

section
variable {base D bS bm cS n : Nat} {d : Dk} {u : World}
set_option maxHeartbeats 1600000 in
/-- a store over a disk, without pages -/
theorem over_any (h : PDk base D bS bm cS d u) (hn : d.n ≤ 4096) (hm : (n : Int) = manyP (d.n : Int)) (ep : Int) : Calls Tryz.prog 68 #[.pointer (some ⟨D, 0, none⟩), .int .i64 ep] u fun r u' => ∃ P M SK, r = .returned (.pointer (some ⟨P, 0, none⟩)) ∧ u.heap.size ≤ P ∧ P < u'.heap.size ∧ SK P = false ∧ u'.heap[P]? = some (.cells (madeS D M ep (fun _ => -1) (fun _ => -1)) 114 (0, 0)) ∧ PFm u.heap.size M n (fun _ => 0) SK u' ∧ Below u.heap.size u u' := by
  have hn2 : n ≤ 1024 := by have := many_bd (n := d.n) hn; omega
  have HM := Lib.hid (pmany_any h hn)
  rw [← hm] at HM
  have HN := Lib.hid (fun w => pnew12_any n w hn2)
  have HB := Lib.hid (fun w => blank_any w)
  have e1 : min (n : Int) 1024 = (n : Int) := by omega
  have d1 : decide ((1024 : Int) < (n : Int)) = false := by rw [decide_eq_false_iff_not]; omega
  have HBU := fun (M : Nat) (w : World) => run_built_S D M ep (fun _ => -1) (fun _ => -1) w
  obtain ⟨AS, hAS⟩ : ∃ AS : Nat → Array Value, AS = fun M => madeS D M ep (fun _ => -1) (fun _ => -1) := ⟨_, rfl⟩
  have HAS := Lib.hid hAS
  have HBU2 : Hid (∀ (M : Nat) (w : World), (Instr.build 114 #[(0, .pointer (some ⟨D, 0, none⟩)), (1, .agg (tabL (fun _ => -1)).toArray), (2, .agg (tabL (fun _ => -1)).toArray), (3, .pointer (some ⟨M, 0, none⟩)), (4, .int .i64 ep)]).run Tryz.prog w = .ok (.agg (AS M)) w) := Lib.hid (by rw [hAS]; exact HBU)
  obtain ⟨L, hL⟩ : ∃ L, L = (tabL (fun _ => -1)).toArray := ⟨_, rfl⟩
  rw [← hL] at HB HBU2
  clear h hm hAS HBU hL
  go_enter Tryz.func68, Tryz.ntmps68
  go_wp2_with fail
  refine (HM.out).mono ?_
  rintro e w1 ⟨rfl, hw⟩
  rw [hw]
  clear hw w1
  go_wp2_with fail
  refine (HN.out _).mono ?_
  rintro e w1 ⟨M, SK, rfl, pm, hb1⟩
  have PM1 := Lib.hid pm
  have B1 := Lib.hid hb1
  clear pm hb1
  go_wp2_with fail
  refine (HB.out _).mono ?_
  rintro e w2 ⟨rfl, hb2⟩
  have B2 := Lib.hid (bthen B1.out hb2)
  have PM2 := Lib.hid (PM1.out.below hb2)
  clear hb2
  go_wp2_with fail
  refine (HB.out _).mono ?_
  rintro e w3 ⟨rfl, hb3⟩
  have B3 := Lib.hid (bthen B2.out hb3)
  have PM3 := Lib.hid (PM2.out.below hb3)
  clear hb3
  have hbu := HBU2.out M
  clear HBU2
  go_wp2_with (refine wpList_built rfl 114 _ rfl _ (AS M) hbu rfl ?_)
  have B4 := balloc w3 (.cells (AS M) 114)
  have X4 := heap_alloc_new w3 (.cells (AS M) 114)
  have sz : u.heap.size ≤ w3.heap.size := B3.out.size
  have hk : SK w3.heap.size = false := by
    cases c : SK w3.heap.size with
    | false => rfl
    | true => have := (PM3.out.s_lo _ c).2; omega
  have PM4 := PM3.out.below B4
  have EAS : AS M = madeS D M ep (fun _ => -1) (fun _ => -1) := by rw [HAS.out]
  go_ret
  exact ⟨w3.heap.size, M, SK, rfl, sz, by simp, hk, by rw [X4, EAS], PM4, bthen B3.out B4⟩
theorem PFm.mono {base base2 P n : Nat} {K : Nat → Nat} {S : Nat → Bool} {u : World} (h : PFm base P n K S u) (hb : base2 ≤ base) : PFm base2 P n K S u := by
  obtain ⟨v, e, hr, hs⟩ := h.box
  exact ⟨⟨v, e, hr.mono hb, hs⟩, Nat.le_trans hb h.lo, h.four⟩
theorem over_sto (h : PDk base D bS bm cS d u) (hb : base ≤ u.heap.size) (hn : d.n ≤ 4096) (hm : (n : Int) = manyP (d.n : Int)) (ep : Int) : Calls Tryz.prog 68 #[.pointer (some ⟨D, 0, none⟩), .int .i64 ep] u fun r u' => ∃ P M SK, r = .returned (.pointer (some ⟨P, 0, none⟩)) ∧ StoM base D P M bS bm cS d n (fun _ => 0) ep 0 (fun _ => -1) [] [] (.slice none 0 0) SK u' ∧ u.heap.size ≤ P ∧ (∀ k, SK k = true → u.heap.size ≤ k) ∧ Below u.heap.size u u' := by
  refine (over_any h hn hm ep).mono ?_
  rintro r u' ⟨P, M, SK, rfl, hP, hP2, hk, hx, hp, hbl⟩
  have lp := pdk_lo h
  have lm := hp.s_lo
  have e0 : atL [] = fun _ => -1 := by funext l; unfold atL; simp
  refine ⟨P, M, SK, rfl, ⟨h.below hbl, hp.mono hb, ⟨_, hx, by rw [e0]; exact madeS_is D M ep _ _⟩, LstI.nil _, by omega, fun b hb => (by cases hb), ?_, hk, fun k hk2 => ?_, ⟨fun e => (by cases e), fun b hb => (by cases hb), fun b hb => (by cases hb)⟩⟩, hP, fun k hk => (lm k hk).1, hbl⟩
  · cases c : P3 D bS bm P with
    | false => rfl
    | true => have := (lp _ c).2; omega
  · cases c : SK k with
    | false => rfl
    | true => have := (lm _ c).1; have := (lp _ hk2).2; omega
end

end Go.Proofs.YtmflkkkbahghgaaGreat
namespace Go.Proofs.YtmflkkkbahghgaaGreat
open Go.RowKit Go.Deep
set_option linter.unusedVariables false
set_option linter.unusedSimpArgs false
set_option maxRecDepth 100000

section
variable {base D P a : Nat} {x : Stt} {S : Nat → Bool} {nxt : List Slt} {u : World}
theorem newB_p3 {bS bm bm2 : Nat} {S : Nat → Bool} (hS : ∀ k, P3 D bS bm k = true → S k = true) (hb : NewOr bm u bm2) : NewB S (P3 D bS bm2) u := by
  intro k hk
  unfold P3 at hk
  simp only [Bool.or_eq_true, beq_iff_eq] at hk
  rcases hk with (rfl | rfl) | rfl
  · exact .inl (hS _ (P3.a _ _ _))
  · exact .inl (hS _ (P3.b _ _ _))
  · rcases hb with rfl | hb
    · exact .inl (hS _ (P3.c _ _ _))
    · exact .inr hb
end

end Go.Proofs.YtmflkkkbahghgaaGreat
