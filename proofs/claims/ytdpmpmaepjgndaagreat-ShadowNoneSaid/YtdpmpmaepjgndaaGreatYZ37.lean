/- The program's Format. A store's own cells written one by one: the committed table, epoch, slot, parts. -/
import Derived.Test.YtdpmpmaepjgndaaGreatYZ34
import Derived.Test.YtdpmpmaepjgndaaGreatYZ35
import Derived.Test.YtdpmpmaepjgndaaGreatYZ31
import Derived.Test.YtdpmpmaepjgndaaGreatYZ36
import Derived.Test.YtdpmpmaepjgndaaGreatYZ33
namespace Go.Proofs.YtdpmpmaepjgndaaGreat
open Go.RowKit Go.Deep
set_option linter.unusedVariables false
set_option linter.unusedSimpArgs false
set_option maxRecDepth 100000

/-- the first root -/
def root1 : Rt := ⟨1, 0, []⟩
theorem root1_right : RightR root1 := ⟨List.Pairwise.nil, fun _ h => absurd h List.not_mem_nil, by decide, by decide, by decide, by decide, rfl⟩
theorem many_of (n : Nat) (hn : 1 ≤ n) : manyP ((2 + 4 * n : Nat) : Int) = (n : Int) := by unfold manyP; split <;> omega
/-- what Format leaves on a new disk, by steps -/
theorem format_math {n : Nat} (h1 : 1 ≤ n) (h2 : n ≤ 1000) {z : ByteArray} (hz : ∀ j, byD z j = 0) :
    let d1 := writeD (newD (2 + 4 * n)) 0 (bytesR root1)
    let d2 := writeD d1 1 z
    writeE (newD (2 + 4 * n)) 0 = 0 ∧ writeE d1 1 = 0 ∧ syncE d2 = 0 ∧ BdD (newD (2 + 4 * n)) ∧ BdD d1 ∧ BdD d2 ∧ (syncD d2).arm = 0 ∧ (syncD d2).calls ≤ 64 ∧ (syncD d2).n ≤ 4096 ∧ (n : Int) = manyP (syncD d2).n ∧
      HoldP (syncD d2) ⟨(n : Int), [], [], 1, 64⟩ n (fun _ => 0) (fun _ => -1) [] [] 0 := by
  intro d1 d2
  have e1 : d1 = ⟨2 + 4 * n, fun _ _ => 0, upd (fun _ _ => 0) 0 (byD (bytesR root1)), upd (fun _ => false) 0 true, 0, 1, false⟩ := by
    show writeD (newD (2 + 4 * n)) 0 (bytesR root1) = _
    unfold writeD newD countD
    dsimp only
    rw [if_neg (by decide), if_neg (by show ¬ ((0 : Int) < 0 ∨ ((2 + 4 * n : Nat) : Int) ≤ 0); omega), if_neg (by decide)]
    rfl
  have e2 : d2 = ⟨2 + 4 * n, fun _ _ => 0, upd (upd (fun _ _ => 0) 0 (byD (bytesR root1))) 1 (byD z), upd (upd (fun _ => false) 0 true) 1 true, 0, 2, false⟩ := by
    show writeD d1 1 z = _
    rw [e1]
    unfold writeD countD
    dsimp only
    rw [if_neg (by decide), if_neg (by show ¬ ((1 : Int) < 0 ∨ ((2 + 4 * n : Nat) : Int) ≤ 1); omega), if_neg (by decide)]
    rfl
  have w1 : writeE (newD (2 + 4 * n)) 0 = 0 := by
    unfold writeE newD countE
    dsimp only
    rw [if_neg (by decide), if_neg (by show ¬ ((0 : Int) < 0 ∨ ((2 + 4 * n : Nat) : Int) ≤ 0); omega), if_neg (by decide)]
  have w2 : writeE d1 1 = 0 := by
    rw [e1]
    unfold writeE countE
    dsimp only
    rw [if_neg (by decide), if_neg (by show ¬ ((1 : Int) < 0 ∨ ((2 + 4 * n : Nat) : Int) ≤ 1); omega), if_neg (by decide)]
  have s1 : syncE d2 = 0 := by
    rw [e2]
    unfold syncE countE
    dsimp only
    rw [if_neg (by decide), if_neg (by decide)]
  obtain ⟨g1, g2, g3, g4⟩ := sync_done s1
  have ok2 : OkD d2 := ((OkD.new ⟨by omega, by omega⟩).write 0 (bytesR root1)).write 1 z
  have hn3 : (syncD d2).n = 2 + 4 * n := by
    rw [e2]
    unfold syncD countD safeD
    dsimp only
    rw [if_neg (by decide), if_neg (by decide)]
    rfl
  have hc3 : (syncD d2).calls = 3 ∧ (syncD d2).arm = 0 := by
    rw [e2]
    unfold syncD countD safeD
    dsimp only
    rw [if_neg (by decide), if_neg (by decide)]
    exact ⟨rfl, rfl⟩
  refine ⟨w1, w2, s1, ⟨by show 2 + 4 * n ≤ 4096; omega, by show 0 < 1000000; omega, by show 0 ≤ _; omega⟩, by rw [e1]; exact ⟨by show 2 + 4 * n ≤ 4096; omega, by show 1 < 1000000; omega, by show 0 ≤ _; omega⟩, by rw [e2]; exact ⟨by show 2 + 4 * n ≤ 4096; omega, by show 2 < 1000000; omega, by show 0 ≤ _; omega⟩, hc3.2, by rw [hc3.1]; omega, by rw [hn3]; omega, by rw [hn3, many_of n h1], ?_⟩
  have hcom : ComV (syncD d2).sf (n : Int) [] 1 0 [] [] := ComV.first (fun j hj => by
    rw [g2, e2]
    rfl) (fun j hj => by
    rw [g2, e2]
    exact hz j)
  refine HoldP.of_com hcom (fun k => by unfold slA; simp [noSlt]) ⟨h1, by omega, by rw [hn3, many_of n h1]; exact Int.le_refl _⟩ (fun k => by unfold atL; simp) (fun q hq => .inr ⟨rfl, fun h => by rcases h.2 with h | h <;> exact absurd h List.not_mem_nil⟩) ⟨g3 0, g3 1⟩ (fun p hp => by rcases hp.2 with h | h <;> exact absurd h List.not_mem_nil) g1 ok2.sync

set_option maxHeartbeats 1600000 in
theorem sform1_any {base D bS bm cS n B : Nat} {u : World} (h : PDk base D bS bm cS (newD (2 + 4 * n)) u) (h1 : 1 ≤ n) (h2 : n ≤ 1000) (hx : u.heap[B]? = some (.cells #[.pointer (some ⟨D, 0, none⟩)] 23 (0, 0))) (hB : P3 D bS bm B = false) : Calls Tryz.prog 71 #[.pointer (some ⟨B, 0, none⟩)] u fun r u' => r = .returned (.tuple #[]) ∧ KpS (P3 D bS bm) u u' ∧ ∃ bm2, NewOr bm u bm2 ∧ PDk base D bS bm2 cS (syncD (writeD (writeD (newD (2 + 4 * n)) 0 (bytesR root1)) 1 ⟨#[]⟩)) u' := by
  obtain ⟨m1, m2, m3, m4, m5, m6, _⟩ := format_math (n := n) h1 h2 (z := ⟨#[]⟩) (fun j => by unfold byD; simp)
  have H := Lib.hid h
  have HP : Hid (∀ w, Calls Tryz.prog 72 #[.agg #[.int .i64 1, .int .i64 0, .slice none 0 0]] w fun r u' => r = .returned (.tuple #[.string (bytesR root1), .int .i64 0]) ∧ Below w.heap.size w u') := Lib.hid (fun w => by
    have := pputR_any 1 0 [] (.slice none 0 0) w (by unfold big64; omega) (by unfold big64; omega) (by decide) (LstI.nil w)
    obtain ⟨e1, e2⟩ := rtO_yes root1_right
    unfold root1 at e1 e2
    rw [e1, e2] at this
    exact this)
  have HW1 := Lib.hid (fun w (hq : PDk base D bS bm cS (newD (2 + 4 * n)) w) => pwrite_any hq m4 0 (bytesR root1))
  rw [m1] at HW1
  have HW2 := Lib.hid (fun w (hq : PDk base D bS bm cS (writeD (newD (2 + 4 * n)) 0 (bytesR root1)) w) => pwrite_any hq m5 1 ⟨#[]⟩)
  rw [m2] at HW2
  have HS := Lib.hid (fun w (hq : PDk base D bS bm cS (writeD (writeD (newD (2 + 4 * n)) 0 (bytesR root1)) 1 ⟨#[]⟩) w) => psyncB_any hq m6)
  rw [m3] at HS
  have HM := Lib.hid (fun w => smust_ok w)
  have HX := Lib.hid hx
  have BX : Hid (∀ w, KpS (P3 D bS bm) u w → w.cell? ⟨B, 0, none⟩ = some (.pointer (some ⟨D, 0, none⟩))) := Lib.hid (fun w k => by
    rw [Lib.cell_of_heap ((k.blk (lt_of_block HX.out) hB).trans HX.out)]; rfl)
  generalize syncD (writeD (writeD (newD (2 + 4 * n)) 0 (bytesR root1)) 1 ⟨#[]⟩) = d3 at *
  generalize writeD (writeD (newD (2 + 4 * n)) 0 (bytesR root1)) 1 ⟨#[]⟩ = d2 at *
  generalize writeD (newD (2 + 4 * n)) 0 (bytesR root1) = dd1 at *
  generalize bytesR root1 = s1 at *
  clear m1 m2 m3 m4 m5 m6 h hx hB
  go_enter Tryz.func71, Tryz.ntmps71
  go_wp2_with fail
  refine (HP.out _).mono ?_
  rintro e w1 ⟨rfl, hb1⟩
  have B1 := Lib.hid hb1
  have x1 := BX.out w1 (KpS.of hb1)
  clear hb1
  go_wp2_with fail
  refine (HM.out _).mono ?_
  rintro e w9 ⟨rfl, hw⟩
  rw [hw]
  clear hw w9
  go_wp2_with fail
  refine (HW1.out _ (H.out.below B1.out)).mono ?_
  rintro e w2 ⟨rfl, p2, k2⟩
  have P2 := Lib.hid p2
  have K2 := Lib.hid ((KpS.of B1.out).trans k2)
  have x2 := BX.out w2 K2.out
  clear p2 k2 x1
  go_wp2_with fail
  refine (HM.out _).mono ?_
  rintro e w9 ⟨rfl, hw⟩
  rw [hw]
  clear hw w9
  go_wp2_with fail
  refine (HW2.out _ P2.out).mono ?_
  rintro e w3 ⟨rfl, p3, k3⟩
  have P3' := Lib.hid p3
  have K3 := Lib.hid (K2.out.trans k3)
  have x3 := BX.out w3 K3.out
  clear p3 k3 x2
  go_wp2_with fail
  refine (HM.out _).mono ?_
  rintro e w9 ⟨rfl, hw⟩
  rw [hw]
  clear hw w9
  go_wp2_with fail
  refine (HS.out _ P3'.out).mono ?_
  rintro e w4 ⟨rfl, ⟨bm2, ho, hlt, p4⟩, k4⟩
  have P4 := Lib.hid p4
  have K4 := Lib.hid (K3.out.trans k4)
  have NO : Hid (NewOr bm u bm2) := Lib.hid (Or.imp id (fun h => Nat.le_trans K3.out.size h) ho)
  clear p4 k4 ho hlt x3
  go_wp2_with fail
  refine (HM.out _).mono ?_
  rintro e w9 ⟨rfl, hw⟩
  rw [hw]
  clear hw w9
  go_wp2_with fail
  go_end0
  exact ⟨rfl, K4.out, bm2, NO.out, P4.out⟩
set_option maxHeartbeats 1600000 in
theorem sformat_any {base D bS bm cS n : Nat} {u : World} (h : PDk base D bS bm cS (newD (2 + 4 * n)) u) (h1 : 1 ≤ n) (h2 : n ≤ 1000) (hb : base ≤ u.heap.size) : Calls Tryz.prog 30 #[.pointer (some ⟨D, 0, none⟩)] u fun r u' => ∃ P S2, r = .returned (.tuple #[.pointer (some ⟨P, 0, none⟩), .int .i64 0]) ∧ PMx base D P ⟨(n : Int), [], [], 1, 64⟩ 0 S2 u' ∧ NewB (P3 D bS bm) S2 u ∧ KpS (P3 D bS bm) u u' := by
  obtain ⟨_, _, _, _, _, _, m7, m8, m9, m11, m10⟩ := format_math (n := n) h1 h2 (z := ⟨#[]⟩) (fun j => by unfold byD; simp)
  have hmf : ∀ (fn : Fn) (first cap : Array Value) (w : World), (Instr.makeFunc fn first cap).run Tryz.prog w = .ok (.func fn first cap) w := fun _ _ _ _ => rfl
  have H := Lib.hid h
  have HM : Hid (∀ w, PDk base D bS bm cS (newD (2 + 4 * n)) w → Calls Tryz.prog 69 #[.pointer (some ⟨D, 0, none⟩)] w fun r u' => r = .returned (.int .i64 (n : Int)) ∧ u' = w) := Lib.hid (fun w hw => by
    have := pmany_any hw (by show 2 + 4 * n ≤ 4096; omega)
    rw [show ((newD (2 + 4 * n)).n : Int) = ((2 + 4 * n : Nat) : Int) from rfl, many_of n h1] at this
    exact this)
  have M7 := Lib.hid (And.intro m7 (And.intro m8 (And.intro m9 m10)))
  have M11 := Lib.hid m11
  have HF1 := Lib.hid (fun (w : World) (B : Nat) (hq : PDk base D bS bm cS (newD (2 + 4 * n)) w) hx hB => sform1_any (B := B) hq h1 h2 hx hB)
  generalize syncD (writeD (writeD (newD (2 + 4 * n)) 0 (bytesR root1)) 1 ⟨#[]⟩) = d3 at *
  have HO := Lib.hid (fun (w : World) (bm2 : Nat) (hq : PDk base D bS bm2 cS d3 w) (hbw : base ≤ w.heap.size) => over_sto hq hbw M7.out.2.2.1 M11.out 1)
  have d1 : decide ((n : Int) < 1) = false := by rw [decide_eq_false_iff_not]; omega
  have HB := Lib.hid hb
  have X0 := Lib.hid (heap_alloc_new u (.cells #[.pointer (some ⟨D, 0, none⟩)] 23))
  have B0 := Lib.hid (balloc u (.cells #[.pointer (some ⟨D, 0, none⟩)] 23))
  have SZ0 : Hid ((u.alloc (.cells #[.pointer (some ⟨D, 0, none⟩)] 23)).heap.size = u.heap.size + 1) := Lib.hid (by simp)
  have H0 := Lib.hid (H.out.below B0.out)
  have LP := Lib.hid (pdk_lo H.out)
  obtain ⟨B, hBe⟩ : ∃ B, B = u.heap.size := ⟨_, rfl⟩
  have HBE := Lib.hid hBe
  rw [← hBe] at X0
  have PB : Hid (P3 D bS bm B = false) := Lib.hid (by
    cases c : P3 D bS bm B with
    | false => rfl
    | true => have := (LP.out _ c).2; omega)
  clear m7 m8 m9 m10 m11 h hb
  go_enter Tryz.func30, Tryz.ntmps30
  go_upto_region 1 with fail
  rw [← hBe]
  generalize u.alloc (.cells #[.pointer (some ⟨D, 0, none⟩)] 23) = w0 at *
  clear hBe
  have x0 : w0.cell? ⟨B, 0, none⟩ = some (.pointer (some ⟨D, 0, none⟩)) := by rw [Lib.cell_of_heap X0.out]; rfl
  go_wp2_with fail
  refine (HM.out _ H0.out).mono ?_
  rintro e w1 ⟨rfl, hw⟩
  rw [hw]
  clear hw w1
  have HT := Lib.hid (attempt_any (f := 71) (caps := #[.pointer (some ⟨B, 0, none⟩)]) (u := w0) (Q := fun e w => e = 0 ∧ KpS (P3 D bS bm) w0 w ∧ ∃ bm2, NewOr bm (w0.alloc (.cells #[.int .i64 0] 42)) bm2 ∧ PDk base D bS bm2 cS d3 w)
    (fun w => callFunc_in Tryz.func71 (by kernel_rfl) (by kernel_rfl) _ w)
    (by
      have bE := balloc w0 (.cells #[.int .i64 0] 42)
      refine (HF1.out (w0.alloc (.cells #[.int .i64 0] 42)) B (H0.out.below bE) (heap_stays X0.out bE) PB.out).mono ?_
      rintro r w' ⟨rfl, k, bm2, ho, hp⟩
      refine ⟨?_, .inl ⟨rfl, rfl, (KpS.of bE).trans k, bm2, ho, hp⟩⟩
      refine (k.blk (by simp) ?_).trans (heap_alloc_new w0 _)
      cases c : P3 D bS bm w0.heap.size with
      | false => rfl
      | true => have := (LP.out _ c).2; have := SZ0.out; omega))
  clear HF1 HM
  go_wp2_with fail
  refine (HT.out).mono ?_
  rintro r w3 ⟨e, w2, rfl, ⟨rfl, k2, bm2, ho, p2⟩, hw3, hx2⟩
  have ks3 : KpS (fun q => q == w0.heap.size) w2 w3 := by rw [hw3]; exact KpS.set (b := w0.heap.size) (by simp) 0 _ w2
  have np3 : ∀ k, P3 D bS bm2 k = true → k ≠ w0.heap.size := fun k hk e => by
    subst e
    unfold P3 at hk
    simp only [Bool.or_eq_true, beq_iff_eq] at hk
    have hs := SZ0.out
    rcases hk with (e | e) | e
    · have := (LP.out _ (P3.a D bS bm)).2; omega
    · have := (LP.out _ (P3.b D bS bm)).2; omega
    · rcases ho with e2 | e2
      · have := (LP.out _ (P3.c D bS bm)).2; omega
      · simp at e2; omega
  have P3W := Lib.hid (pdk_kept p2 (T := fun q => q == w0.heap.size) (fun k hk => by simpa using np3 k hk) ks3)
  have K3 : Hid (KpS (P3 D bS bm) u w3) := Lib.hid (by
    have k03 : KpS (P3 D bS bm) w0 w3 := by
      refine kps_new (S2 := fun q => q == w0.heap.size) (fun q hq => .inr ?_) k2 ks3
      have : q = w0.heap.size := by simpa using hq
      omega
    exact (KpS.of B0.out).trans k03)
  have NO : Hid (NewOr bm u bm2) := Lib.hid (Or.imp id (fun h => by have := SZ0.out; simp at h; omega) ho)
  have x3 : w3.cell? ⟨B, 0, none⟩ = some (.pointer (some ⟨D, 0, none⟩)) := by
    have e2 := (k2.blk (lt_of_block X0.out) PB.out).trans X0.out
    have e3 := (ks3.blk (lt_of_block e2) (by have := HBE.out; have := SZ0.out; simp; omega)).trans e2
    rw [Lib.cell_of_heap e3]; rfl
  have HO3 := Lib.hid (HO.out w3 bm2 P3W.out (Nat.le_trans HB.out K3.out.size))
  clear HT k2 ho p2 hw3 hx2 ks3 np3 x0
  go_wp2_with fail
  refine (HO3.out).mono ?_
  rintro r w4 ⟨P, M, SK, rfl, hm, hP, hk, hbl⟩
  have FIN : Hid (∃ P2 S2, Ending.returned (.tuple #[.pointer (some ⟨P, 0, none⟩), .int .i64 0]) = .returned (.tuple #[.pointer (some ⟨P2, 0, none⟩), .int .i64 0]) ∧ PMx base D P2 ⟨(n : Int), [], [], 1, 64⟩ 0 S2 w4 ∧ NewB (P3 D bS bm) S2 u ∧ KpS (P3 D bS bm) u w4) := Lib.hid (by
    refine ⟨P, stoS P D bS bm2 SK (.slice none 0 0), rfl, ⟨M, bS, bm2, cS, d3, n, fun _ => 0, fun _ => -1, [], [], 0, .slice none 0 0, SK, ⟨hm, M7.out.2.2.2, M7.out.1, M7.out.2.1, M7.out.2.2.1, by rw [M7.out.1]; omega, .inl rfl, M11.out⟩, rfl⟩, fun k hk2 => ?_, K3.out.trans (KpS.of hbl)⟩
    rcases stoS_iff.1 hk2 with rfl | h2 | h2 | h2
    · exact .inr (Nat.le_trans K3.out.size hP)
    · exact newB_p3 (fun q hq => hq) NO.out k h2
    · exact .inr (Nat.le_trans K3.out.size (hk k h2))
    · cases h2)
  clear hm hP hk hbl HO3 x3
  go_wp2_with fail
  go_ret2
  exact FIN.out

end Go.Proofs.YtdpmpmaepjgndaaGreat
namespace Go.Proofs.YtdpmpmaepjgndaaGreat
open Go.RowKit Go.Deep
set_option linter.unusedVariables false
set_option linter.unusedSimpArgs false
set_option maxRecDepth 100000

section
variable {D M : Nat} {ep : Int} {slot : Nat} {f g : Nat → Int} {vp : Value} {A : Array Value}
theorem StoA.setOld (h : StoA D M ep slot f g vp A) (k : Nat → Int) : StoA D M ep slot f k vp (putA A 513 (tabL k)) := by
  have lo : ∀ i, i < 513 → (putA A 513 (tabL k))[i]? = A[i]? := fun i hi => putA_out _ _ _ _ (.inl hi)
  have hi : ∀ i, 1025 ≤ i → (putA A 513 (tabL k))[i]? = A[i]? := fun i hi => putA_out _ _ _ _ (.inr (by rw [tabL_len]; omega))
  refine ⟨by rw [putA_size]; exact h.sz, by rw [lo _ (by omega)]; exact h.c0, fun l hl => by rw [lo _ (by omega)]; exact h.now l hl, fun l hl => ?_, by rw [hi _ (by omega)]; exact h.cm, by rw [hi _ (by omega)]; exact h.ce, by rw [hi _ (by omega)]; exact h.cs, by rw [hi _ (by omega)]; exact h.cp, by rw [hi _ (by omega)]; exact h.cb⟩
  rw [putA_in _ _ _ _ (by rw [tabL_len]; exact hl) (by rw [tabL_len, h.sz]; omega), tabL_at _ hl]
theorem set_ne {i j : Nat} (v : Value) (h : i ≠ j) : (A.setIfInBounds j v)[i]? = A[i]? := by rw [Array.getElem?_setIfInBounds, if_neg (fun e => h e.symm)]
theorem set_eq {j : Nat} (v : Value) (h : j < A.size) : (A.setIfInBounds j v)[j]? = some v := by rw [Array.getElem?_setIfInBounds, if_pos rfl, if_pos h]
theorem StoA.setEp (h : StoA D M ep slot f g vp A) (e : Int) : StoA D M e slot f g vp (A.setIfInBounds 1026 (.int .i64 e)) :=
  ⟨by rw [Array.size_setIfInBounds]; exact h.sz, by rw [set_ne _ (by omega)]; exact h.c0, fun l hl => by rw [set_ne _ (by omega)]; exact h.now l hl, fun l hl => by rw [set_ne _ (by omega)]; exact h.old l hl, by rw [set_ne _ (by omega)]; exact h.cm, set_eq _ (by rw [h.sz]; omega), by rw [set_ne _ (by omega)]; exact h.cs, by rw [set_ne _ (by omega)]; exact h.cp, by rw [set_ne _ (by omega)]; exact h.cb⟩
theorem StoA.setSlot (h : StoA D M ep slot f g vp A) (s : Nat) : StoA D M ep s f g vp (A.setIfInBounds 1027 (.int .i64 (s : Int))) :=
  ⟨by rw [Array.size_setIfInBounds]; exact h.sz, by rw [set_ne _ (by omega)]; exact h.c0, fun l hl => by rw [set_ne _ (by omega)]; exact h.now l hl, fun l hl => by rw [set_ne _ (by omega)]; exact h.old l hl, by rw [set_ne _ (by omega)]; exact h.cm, by rw [set_ne _ (by omega)]; exact h.ce, set_eq _ (by rw [h.sz]; omega), by rw [set_ne _ (by omega)]; exact h.cp, by rw [set_ne _ (by omega)]; exact h.cb⟩
theorem StoA.setParts (h : StoA D M ep slot f g vp A) (v : Value) : StoA D M ep slot f g v (A.setIfInBounds 1028 v) :=
  ⟨by rw [Array.size_setIfInBounds]; exact h.sz, by rw [set_ne _ (by omega)]; exact h.c0, fun l hl => by rw [set_ne _ (by omega)]; exact h.now l hl, fun l hl => by rw [set_ne _ (by omega)]; exact h.old l hl, by rw [set_ne _ (by omega)]; exact h.cm, by rw [set_ne _ (by omega)]; exact h.ce, by rw [set_ne _ (by omega)]; exact h.cs, set_eq _ (by rw [h.sz]; omega), by rw [set_ne _ (by omega)]; exact h.cb⟩
end
/-- a whole table is taken out of a drawn region -/
theorem tqT {ops : Array Oper} {Q : Exit → Act → World → Prop} {md : Region.Mode} {S : World → Prop} (i : Nat) {f1 f2 f3 f4 f5 f6} {fuel : Nat} {listed : Array Bool} {a : Act} {w : World} (b o : Nat) (f : Nat → Int) (x : Operand) (hi : ops[i]? = some (Oper.mk f1 f2 f3 f4 f5 f6))
    (h : wpAnyH Tryz.prog md ops Q S fuel (listed.setIfInBounds i true) (a.put (Oper.mk f1 f2 f3 f4 f5 f6).dst (.agg (tabL f).toArray)) w)
    (ho : (Oper.mk f1 f2 f3 f4 f5 f6).op = .load 78 x) (hx : a.eval x = .pointer (some ⟨b, o, none⟩)) (hR : ∀ w5, S w5 → w5.rangeAt b o (tabL f)) (hS : S w)
    (hs : Region.noSelect ops = true := by kernel_rfl) (hf : Region.free md ops listed i = true := by kernel_rfl) (hr : (Region.ready md ops listed).contains i = true := by kernel_rfl)
    (hQ : ∀ c a w, Q (.panic c) (a.put (Oper.mk f1 f2 f3 f4 f5 f6).dst (.agg (tabL f).toArray)) w → Q (.panic c) a w := by exact fun _ _ _ h => h)
    (hw : Region.wanted (Oper.mk f1 f2 f3 f4 f5 f6) (yielded ops a.tmps) = true := by rfl) : wpAnyH Tryz.prog md ops Q S (fuel + 1) listed a w :=
  wpAnyH_take hi hs hf hr hQ (yieldsIf_load_mid hw 78 x ho b o hx (tabL f) _ hR Tryz.underlying78 rfl (sizeT f)) hS h

end Go.Proofs.YtdpmpmaepjgndaaGreat
