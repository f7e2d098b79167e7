/- The contract of slices.Repeat at one number 0: a row of zeros in new memory. The program's map of pages: become, Commit, Abort, New. -/
import Derived.Deep.AppendSrc
import Derived.Deep.DeepCutAuto
import Derived.Laws.CopyOwn
import Derived.Deep.RegionLaw
import Derived.StillTailTactics
import Derived.Test.YtdpmpmaepjgndaaGreatYZ24
import Derived.Test.YtdpmpmaepjgndaaGreatYZ3
import Derived.Test.YtdpmpmaepjgndaaGreatYZ2
import Derived.Test.YtdpmpmaepjgndaaGreatYZ25
namespace Go.Proofs.YtdpmpmaepjgndaaGreat
open Go.RowKit Go.Deep
set_option linter.unusedVariables false
set_option linter.unusedSimpArgs false
set_option maxRecDepth 100000

theorem splice_zeros (z : Value) (n off m : Nat) (h : off + m ≤ n) : splice (List.replicate n z) off (List.replicate m z) = List.replicate n z := by
  unfold splice
  rw [List.take_replicate, List.drop_replicate, List.replicate_append_replicate, List.replicate_append_replicate, List.length_replicate]
  congr 1
  omega
theorem made_row12 {w : World} {base g n : Nat} {e : TypeId} (h : w.ownsRow base e 1 (.slice (some ⟨g, 0, none⟩) n n) n (madeCells #[Value.int .i64 0] n).toList) :
    w.heap[g]? = some (.cells (List.replicate n (Value.int .i64 0)).toArray e (0, 0)) := by
  rcases h.2 with ⟨h1, _⟩ | ⟨g', cap, cur, h1, _, h2, h3, _, h4, h5⟩
  · simp at h1
  · simp only [Value.slice.injEq, Option.some.injEq, Addr.mk.injEq, and_true, true_and] at h1
    obtain ⟨rfl, rfl⟩ := h1
    rw [h2]
    rw [toList_madeCells_one] at h5
    have e : cur.toList = List.replicate n (Value.int .i64 0) := by
      rw [← h5]
      exact (List.take_of_length_le (by simp; omega)).symm
    rw [← e]
theorem zero_cell {w : World} {g n : Nat} {e : TypeId} (h : w.heap[g]? = some (.cells (List.replicate n (Value.int .i64 0)).toArray e (0, 0))) {i : Nat} (hi : i < n) : w.cell? ⟨g, i, none⟩ = some (.int .i64 0) := by
  rw [Lib.cell_of_heap h]
  simp [hi]
theorem size_int12 : (Tryz.prog.info? 3).map (·.size) = some 1 := by kernel_rfl
theorem zeros_src {w : World} {g n k : Nat} {e : TypeId} (h : w.heap[g]? = some (.cells (List.replicate n (Value.int .i64 0)).toArray e (0, 0))) (hk : k ≤ n) : ∀ j v, (List.replicate k (Value.int .i64 0))[j]? = some v → w.cell? ((⟨g, 0, none⟩ : Addr).add j) = some v := by
  intro j v hj
  rw [add_plain]
  rw [List.getElem?_replicate] at hj
  split at hj
  · rename_i c
    simp only [Option.some.injEq] at hj
    subst hj
    rw [Nat.zero_add]
    exact zero_cell h (by omega)
  · cases hj
theorem zeros_one : ∀ (k : Nat), ∀ v ∈ List.replicate k (Value.int .i64 0), v.oneCell' = true := by
  intro k v hv
  obtain ⟨_, rfl⟩ := List.mem_replicate.1 hv
  rfl
theorem zero_copy {w : World} {g n o dl dc sl sc m : Nat} {ad : Addr} (h : w.heap[g]? = some (.cells (List.replicate n (Value.int .i64 0)).toArray 3 (0, 0))) (hm : m = Nat.min sl dl) (hs : ∀ j v, (List.replicate m (Value.int .i64 0))[j]? = some v → w.cell? (ad.add j) = some v) (ho : o + m ≤ n) :
    (Builtin.copy_ #[38, 38] 3 #[.slice (some ⟨g, o, none⟩) dl dc, .slice (some ad) sl sc]).run Tryz.prog w = .ok (.int .i64 (m : Int)) w := by
  have h1 := run_copy_row (P := Tryz.prog) w 38 38 3 3 g o dl dc ad sl sc _ 3 (List.replicate m (Value.int .i64 0)) Tryz.underlying38 size_int12 h (by rw [List.length_replicate]; exact hm) hs (by simp; omega) (zeros_one m)
  rw [List.length_replicate] at h1
  rw [h1]
  have e : (List.replicate n (Value.int .i64 0)).toArray.toList.take o ++ List.replicate m (Value.int .i64 0) ++ (List.replicate n (Value.int .i64 0)).toArray.toList.drop (o + m) = List.replicate n (Value.int .i64 0) := by
    have := splice_zeros (Value.int .i64 0) n o m ho
    unfold splice at this
    rw [List.length_replicate] at this
    rw [List.append_assoc]
    exact this
  rw [e, setRow_self w g _ _ _ h]
  rfl
set_option maxHeartbeats 1600000 in
theorem repeat0_any (n : Nat) (hn : n ≤ 1024) (b c : Nat) (w : World) (x0 : w.cell? ⟨b, 0, none⟩ = some (.int .i64 0)) : Calls Tryz.prog 138 #[.slice (some ⟨b, 0, none⟩) 1 c, .int .i64 (n : Int)] w fun r u' => ∃ v, r = .returned v ∧ KRow w.heap.size n (fun _ => 0) v u' ∧ Below w.heap.size w u' := by
  obtain ⟨i0, hi0, hz0, hz1, hz2⟩ := info_parts infoInt12
  have HM := Lib.hid (bmul1_any n hn)
  have d0 : decide ((n : Int) < 0) = false := decide_eq_false (by omega)
  have d1 : decide (9223372036854775807 < (n : Int)) = false := decide_eq_false (by omega)
  have w1 : IntKind.u64.wrap (n : Int) = n := by rw [IntKind.wrap_u64]; omega
  have w2 : IntKind.i64.wrap (n : Int) = n := by rw [IntKind.wrap_i64]; omega
  have X := Lib.hid x0
  clear x0
  go_enter Tryz.func138, Tryz.ntmps138
  go_wp2_with (first
    | (go_at_call 168; refine (HM.out _).mono ?_; rintro e w' ⟨rfl, hw⟩; rw [hw])
    | (at_make; refine wpList_make_full _ rfl _ _ _ rfl w.heap.size 3 i0 (.int .i64 0) 1 Tryz.underlying38 hi0 hz0 hz1 .i64 .i64 _ _ n rfl rfl (by omega) (by omega) (by rw [hz2]; omega) (by unfold maxLen; omega) (by omega) ?_))
  intro u2 hown hgr
  have hB2 : Below w.heap.size w u2 := (Below.refl _ _).grown hgr (Nat.le_refl _) (by simp)
  obtain ⟨g, hg⟩ : ∃ g, g = w.heap.size := ⟨_, rfl⟩
  rw [← hg] at hown ⊢
  have HG := Lib.hid hg
  have H2 := Lib.hid (made_row12 hown)
  have XB : Hid (u2.cell? ⟨b, 0, none⟩ = some (.int .i64 0)) := Lib.hid (by
    have hbl : b < w.heap.size := by obtain ⟨_, _, _, e⟩ := cell_block X.out; exact lt_of_block e
    rw [← X.out]
    exact World.cell?_of_block (hB2.block _ hbl))
  have B2 := Lib.hid hB2
  obtain ⟨m, hm⟩ : ∃ m, m = Nat.min 1 n := ⟨_, rfl⟩
  have hm1 : m ≤ 1 := by rw [hm]; exact Nat.min_le_left _ _
  have hm2 : m ≤ n := by rw [hm]; exact Nat.min_le_right _ _
  have hm3 : 0 < n → 0 < m := by rw [hm]; intro h; exact Nat.lt_min.2 ⟨by omega, h⟩
  have hcp := zero_copy (o := 0) (dl := n) (dc := n) (sl := 1) (sc := c) (ad := ⟨b, 0, none⟩) H2.out hm (fun j v hj => by
    rw [List.getElem?_replicate] at hj
    split at hj
    · simp only [Option.some.injEq] at hj
      subst hj
      obtain rfl : j = 0 := by omega
      exact XB.out
    · cases hj) (by omega)
  have HM3 := Lib.hid hm3
  clear hown hgr hm hm3 hg hB2
  go_wp2_with fail
  go_loopw [8] (fun i wr => ∃ j : Nat, j ≤ n ∧ (0 < n → 0 < j) ∧ i = .int .i64 j ∧ Hid (wr.heap[g]? = some (.cells (List.replicate n (Value.int .i64 0)).toArray 3 (0, 0))) ∧ Hid (Below w.heap.size w wr)) (fun i _ => n - (intOf i).toNat)
  case atStart => exact ⟨m, hm2, HM3.out, rfl, H2, B2⟩
  case round =>
    obtain ⟨j, hj, hj0, rfl, HR, HB⟩ := hrel
    clear hcp
    by_cases hlt : j < n
    · have hj1 : (j : Int) < (n : Int) := by omega
      have hj2 : (0 : Int) ≤ (j : Int) := by omega
      have hj3 : 0 < j := hj0 (by omega)
      have hj4 : (j : Int) ≤ (n : Int) := by omega
      have d2 : decide ((j : Int) < (n : Int)) = true := by simp [hlt]
      have hne : ¬ n = j := by omega
      go_upto_region 9 with fail
      refine wp_region_held_drew (S := (fun w' => True)) (by kernel_rfl) trivial (fun hHeld => ?_)
      change wpAnyH _ _ _ _ _ _ _ _ (World.drew wr)
      have H4 : Hid ((World.drew wr).heap[g]? = some (.cells (List.replicate n (Value.int .i64 0)).toArray 3 (0, 0))) := Lib.hid HR.out
      have B4 := Lib.hid (HB.out.trans ((bdrew wr).mono HB.out.size))
      generalize World.drew wr = w4 at *
      obtain ⟨m2, hm2⟩ : ∃ m2, m2 = Nat.min j (n - j) := ⟨_, rfl⟩
      have hq1 : m2 ≤ j := by rw [hm2]; exact Nat.min_le_left _ _
      have hq2 : m2 ≤ n - j := by rw [hm2]; exact Nat.min_le_right _ _
      have hq3 : 0 < m2 := by rw [hm2]; exact Nat.lt_min.2 ⟨hj3, by omega⟩
      have hcp := zero_copy (o := j) (dl := n - j) (dc := n - j) (sl := j) (sc := n) (ad := ⟨g, 0, none⟩) H4.out hm2 (zeros_src H4.out (by omega)) (by omega)
      clear hm2
      first | refine tq0 0 rfl ?_ | refine tq1 0 rfl ?_
      try go_frame
      first | refine tq0 1 rfl ?_ | refine tq1 1 rfl ?_
      try go_frame
      first | refine tq0 2 rfl ?_ | refine tq1 2 rfl ?_
      try go_frame
      first | refine tq0 3 rfl ?_ | refine tq1 3 rfl ?_
      try go_frame
      first | refine tq0 4 rfl ?_ | refine tq1 4 rfl ?_
      try go_frame
      first | refine tq0 5 rfl ?_ | refine tq1 5 rfl ?_
      try go_frame
      first | refine tq0 6 rfl ?_ | refine tq1 6 rfl ?_
      try go_frame
      refine wpAnyH_ready (rs := [7]) (by kernel_rfl) (by simp) ?_
      refine AllReadyH.cons (o := ⟨_, _, _, _, _, _⟩) rfl (fun Kx hKx => ?_) AllReadyH.nil
      go_simp
      refine hKx.out _ _ trivial (fun hHeld => ?_)
      clear hKx Kx
      try simp only [Act.put, List.setIfInBounds_toArray, List.set_cons_zero, List.set_cons_succ]
      first | refine tq0 8 rfl ?_ | refine tq1 8 rfl ?_
      try go_frame
      first | refine tq0 9 rfl ?_ | refine tq1 9 rfl ?_
      try go_frame
      refine wpAnyH_done (by kernel_rfl) ?_ _
      have HW : Hid (IntKind.i64.wrap ((j : Int) + (m2 : Int)) = ((j + m2 : Nat) : Int)) := Lib.hid (by rw [IntKind.wrap_i64]; omega)
      clear hHeld hcp
      go_wp2_with fail
      go_roundw
      case rel => exact ⟨j + m2, by omega, fun _ => by omega, by rw [HW.out], H4, B4⟩
      case measure => rw [HW.out]; simp [intOf]; omega
    · obtain rfl : j = n := by omega
      have d2 : decide ((j : Int) < (j : Int)) = false := by simp
      go_wp2_with fail
      go_ret
      refine ⟨_, rfl, ?_, HB.out⟩
      by_cases h0 : j = 0
      · subst h0
        exact .inl ⟨rfl, _, _, rfl, by omega, fun p hp => by
          simp only [Option.some.injEq] at hp
          subst hp
          exact ⟨by rw [HG.out]; exact Nat.le_refl _, lt_of_block HR.out⟩⟩
      · exact .inr ⟨by omega, g, j, rfl, by rw [HG.out]; exact Nat.le_refl _, ⟨_, rfl, Nat.le_refl _, by omega⟩, ⟨_, HR.out⟩, fun i hi q hq => by
          obtain rfl : q = 0 := by omega
          rw [Nat.mul_one, Nat.add_zero]
          exact zero_cell HR.out hi⟩

end Go.Proofs.YtdpmpmaepjgndaaGreat
namespace Go.Proofs.YtdpmpmaepjgndaaGreat
open Go.RowKit Go.Deep
set_option linter.unusedVariables false
set_option linter.unusedSimpArgs false
set_option maxRecDepth 100000

section
variable {base P n : Nat} {K : Nat → Nat} {S T : Nat → Bool} {u u2 : World}
theorem PFm.apart (h : PFm base P n K S u) {b c : Nat} (x0 : u.cell? ⟨P, 0, none⟩ = some (.slice (some ⟨b, 0, none⟩) n c)) (hn : 0 < n) : b ≠ P := by
  obtain ⟨v, e, hr, hs⟩ := h.box
  rw [Lib.cell_of_heap e] at x0
  have hv : v = .slice (some ⟨b, 0, none⟩) n c := by simpa using x0
  subst hv
  rcases hr with ⟨h0, _⟩ | ⟨h0, b2, c2, e2, h1, hr⟩
  · omega
  simp only [Value.slice.injEq, Option.some.injEq, Addr.mk.injEq, and_true, true_and] at e2
  obtain ⟨rfl, rfl⟩ := e2
  rintro rfl
  obtain ⟨cs, e3⟩ := hr.b
  rw [e3] at e
  simp at e
/-- the first j pages turned -/
def mixK (K : Nat → Nat) (a b j : Nat) : Nat → Nat := fun i => if i < j then turnF K a b i else K i
theorem mixK_at (K : Nat → Nat) (a b j : Nat) : mixK K a b j j = K j := by unfold mixK; rw [if_neg (by omega)]
theorem mixK_succ (K : Nat → Nat) (a b j : Nat) : fupd (mixK K a b j) j (turnF K a b j) = mixK K a b (j + 1) := by
  funext i
  unfold fupd mixK
  by_cases c : i = j
  · subst c
    rw [if_pos rfl, if_pos (by omega)]
  · rw [if_neg c]
    by_cases d : i < j
    · rw [if_pos d, if_pos (by omega)]
    · rw [if_neg d, if_neg (by omega)]
theorem PFm.congr {K2 : Nat → Nat} (h : PFm base P n K S u) (e : ∀ i, i < n → K2 i = K i) : PFm base P n K2 S u := by
  obtain ⟨v, e1, hr, hs⟩ := h.box
  exact ⟨⟨v, e1, hr.congr e, hs⟩, h.lo, fun i hi => by rw [e i hi]; exact h.four i hi⟩
theorem turn_cell {w : World} {A a b k : Nat} {x : Nat} (h : w.heap[A]? = some (.cells #[.int .i64 0, .int .i64 1, .int .i64 (a : Int), .int .i64 (b : Int)] 153 (0, 0))) (hk : k < 4) (hx : x = if k = 2 then a else if k = 3 then b else k) : w.cell? ⟨A, k, none⟩ = some (.int .i64 (x : Int)) := by
  rw [Lib.cell_of_heap h]
  subst hx
  rcases k with _ | _ | _ | _ | k
  · rfl
  · rfl
  · rfl
  · rfl
  · omega
set_option maxHeartbeats 3200000 in
theorem pbecome12_any (h : PFm base P n K S u) (hn : n ≤ 1024) (a b : Nat) (ha : a < 4) (hb : b < 4) : Calls Tryz.prog 121 #[.pointer (some ⟨P, 0, none⟩), .agg #[.int .i64 0, .int .i64 1, .int .i64 (a : Int), .int .i64 (b : Int)]] u fun r u' => r = .returned (.bool true) ∧ Post12 PFm base P n (turnF K a b) S u u' := by
  have X1 := Lib.hid (heap_alloc_new u (.cells #[.int .i64 0, .int .i64 1, .int .i64 (a : Int), .int .i64 (b : Int)] 153))
  have B1 := Lib.hid (balloc u (.cells #[.int .i64 0, .int .i64 1, .int .i64 (a : Int), .int .i64 (b : Int)] 153))
  have R1 := Lib.hid (h.below B1.out)
  have SA : Hid (S u.heap.size = false) := Lib.hid (by
    cases c : S u.heap.size with
    | false => rfl
    | true => have := (h.s_lo _ c).2; omega)
  have HF := Lib.hid h.four
  have HT : Hid (∀ j, j < n → turnF K a b j < 4) := Lib.hid (fun j hj => by
    have := h.four j hj
    unfold turnF
    split
    · exact ha
    · split
      · exact hb
      · exact this)
  clear h
  go_enter Tryz.func121, Tryz.ntmps121
  go_upto_region 1 with fail
  generalize hA : u.heap.size = A at *
  generalize u.alloc (.cells #[.int .i64 0, .int .i64 1, .int .i64 (a : Int), .int .i64 (b : Int)] 153) = u1 at *
  have LA := Lib.hid (lt_of_block X1.out)
  obtain ⟨ao, c, x0, hr⟩ := R1.out.len
  clear hr
  have X0 := Lib.hid x0
  go_wp2_with fail
  clear x0
  go_loopw [14] (fun i wr => ∃ j : Nat, j ≤ n ∧ i = .int .i64 j ∧ Hid (PFm base P n (mixK K a b j) S wr) ∧ Hid (wr.cell? ⟨P, 0, none⟩ = some (.slice ao n c)) ∧ Hid (KpS S u1 wr)) (fun i _ => n - (intOf i).toNat)
  case atStart => exact ⟨0, Nat.zero_le _, rfl, Lib.hid (R1.out.congr fun i _ => by unfold mixK; rw [if_neg (by omega)]), X0, Lib.hid (KpS.refl _ _)⟩
  case round =>
    obtain ⟨j, hj, rfl, HR, HX, HK⟩ := hrel
    by_cases hlt : j < n
    · have hj1 : (j : Int) < (n : Int) := by omega
      have hj2 : (0 : Int) ≤ (j : Int) := by omega
      have d1 : decide ((j : Int) < (n : Int)) = true := by simp [hlt]
      have HD := Lib.hid (bdrew wr)
      have HR2 := Lib.hid (HR.out.below HD.out)
      have HK2 := Lib.hid (HK.out.on HD.out)
      have HX2 : Hid ((World.drew wr).cell? ⟨P, 0, none⟩ = some (.slice ao n c)) := Lib.hid HX.out
      obtain ⟨bb, cc, x0, x1, xf, hput⟩ := HR2.out.look hlt
      have hao : some (⟨bb, 0, none⟩ : Addr) = ao ∧ cc = c := by
        have := x0.symm.trans HX2.out
        simpa using this
      obtain ⟨rfl, rfl⟩ := hao
      have NE := Lib.hid (HR2.out.apart x0 (by omega))
      rw [mixK_at] at x1
      have hK4 := HF.out j hlt
      have y1 : (World.drew wr).cell? ⟨A, K j, none⟩ = some (.int .i64 (turnF K a b j : Int)) := turn_cell ((HK2.out.blk LA.out SA.out).trans X1.out) hK4 rfl
      have HP := Lib.hid (hput (turnF K a b j) (HT.out j hlt))
      rw [mixK_succ] at HP
      clear hput HR
      generalize turnF K a b j = t at *
      generalize K j = q at *
      have q1 : (0 : Int) ≤ (q : Int) := by omega
      have q2 : (q : Int) < 4 := by omega
      have XF := Lib.hid xf
      have X0 := Lib.hid x0
      have XC := Lib.hid x1
      change wr.cell? _ = _ at x0 x1 y1
      clear xf
      go_upto_region 6 with fail
      go_still_tail 9, (by kernel_rfl)
      change wpList _ _ _ _ _ (World.drew wr)
      have xf := XF.out
      have xc := XC.out
      clear x0 x1 y1 HX HK HD XF XC
      generalize World.drew wr = w2 at *
      have X9 : Hid ((w2.setCell ⟨bb, j, none⟩ (.int .i64 (t : Int))).cell? ⟨P, 0, none⟩ = some (.slice (some ⟨bb, 0, none⟩) n cc)) := Lib.hid ((World.cell?_of_block (set_else12 _ NE.out.symm)).trans X0.out)
      have K9 := Lib.hid (HK2.out.trans HP.out.2)
      go_wp2_with fail
      go_roundw
      case rel => exact ⟨j + 1, hlt, by go_num, Lib.hid HP.out.1, X9, K9⟩
      case measure => simp [intOf]; omega
    · obtain rfl : j = n := by omega
      have d1 : decide ((j : Int) < (j : Int)) = false := by simp
      have F := Lib.hid ((HR.out.congr (K2 := turnF K a b) (fun i hi => by unfold mixK; rw [if_pos hi])).post ((KpS.of (by rw [hA]; exact B1.out) : KpS S u u1).trans HK.out))
      go_wp2_with fail
      go_ret
      exact ⟨rfl, F.out⟩
theorem pcommit12_any (h : PFm base P n K S u) (hn : n ≤ 1024) : Calls Tryz.prog 120 #[.pointer (some ⟨P, 0, none⟩)] u fun r u' => r = .returned (.bool true) ∧ Post12 PFm base P n (turnF K 1 0) S u u' := by
  have H := Lib.hid (pbecome12_any h hn 1 0 (by omega) (by omega))
  change Hid (Calls _ _ #[_, .agg #[_, _, .int .i64 1, .int .i64 0]] _ _) at H
  clear h
  go_enter Tryz.func120, Tryz.ntmps120
  go_wp2_with fail
  refine (H.out).mono ?_
  rintro e w1 ⟨rfl, hp⟩
  have HP := Lib.hid hp
  clear hp
  go_wp2_with fail
  go_ret
  exact ⟨rfl, HP.out⟩
theorem pabort12_any (h : PFm base P n K S u) (hn : n ≤ 1024) : Calls Tryz.prog 85 #[.pointer (some ⟨P, 0, none⟩)] u fun r u' => r = .returned (.bool true) ∧ Post12 PFm base P n (turnF K 0 1) S u u' := by
  have H := Lib.hid (pbecome12_any h hn 0 1 (by omega) (by omega))
  change Hid (Calls _ _ #[_, .agg #[_, _, .int .i64 0, .int .i64 1]] _ _) at H
  clear h
  go_enter Tryz.func85, Tryz.ntmps85
  go_wp2_with fail
  refine (H.out).mono ?_
  rintro e w1 ⟨rfl, hp⟩
  have HP := Lib.hid hp
  clear hp
  go_wp2_with fail
  go_ret
  exact ⟨rfl, HP.out⟩
end
/-! ### New -/
theorem KRow.form {base n : Nat} {K : Nat → Nat} {v : Value} {u : World} (h : KRow base n K v u) : ∃ a c, v = .slice a n c := by
  rcases h with ⟨rfl, a, c, rfl, _⟩ | ⟨_, b, c, rfl, _⟩
  · exact ⟨_, _, rfl⟩
  · exact ⟨_, _, rfl⟩
set_option maxHeartbeats 800000 in
theorem pnew12_any (n : Nat) (u : World) (hn : n ≤ 1024) : Calls Tryz.prog 101 #[.int .i64 (n : Int)] u fun r u' => ∃ P S, r = .returned (.tuple #[.pointer (some ⟨P, 0, none⟩), .int .i64 0]) ∧ PFm u.heap.size P n (fun _ => 0) S u' ∧ Below u.heap.size u u' := by
  have d0 : decide ((n : Int) < 0) = false := decide_eq_false (by omega)
  have d1 : decide (1024 < (n : Int)) = false := decide_eq_false (by omega)
  have B1 := Lib.hid (balloc u (.cells #[.int .i64 0] 3))
  have H := Lib.hid (repeat0_any n hn u.heap.size 1 (u.alloc (.cells #[.int .i64 0] 3)) (by rw [Lib.cell_of_heap (heap_alloc_new u _)]; rfl))
  go_enter Tryz.func101, Tryz.ntmps101
  go_wp2_with fail
  refine (H.out).mono ?_
  rintro e w1 ⟨v, rfl, hr, hb⟩
  obtain ⟨a, c, rfl⟩ := hr.form
  have BB := Lib.hid (B1.out.trans (hb.mono B1.out.size))
  have SZ := Lib.hid B1.out.size
  have HR := Lib.hid hr
  have X2 := Lib.hid (heap_alloc_new w1 (.cells #[.slice a n c] 150))
  have B2 := Lib.hid (balloc w1 (.cells #[.slice a n c] 150))
  clear hr hb H
  have F : Hid (∃ P S, (Ending.returned (.tuple #[.pointer (some ⟨w1.heap.size, 0, none⟩), .int .i64 0]) : Ending) = .returned (.tuple #[.pointer (some ⟨P, 0, none⟩), .int .i64 0]) ∧ PFm u.heap.size P n (fun _ => 0) S (w1.alloc (.cells #[.slice a n c] 150)) ∧ Below u.heap.size u (w1.alloc (.cells #[.slice a n c] 150))) := Lib.hid ⟨w1.heap.size, fun k => decide (k = w1.heap.size) || decide ((Value.slice a n c).ownBlock = some k), rfl, ⟨⟨_, X2.out, KRow.mono (HR.out.below B2.out) SZ.out, fun k => by simp⟩, BB.out.size, fun i hi => by omega⟩, BB.out.trans (B2.out.mono BB.out.size)⟩
  go_wp2_with fail
  go_ret2
  exact F.out

end Go.Proofs.YtdpmpmaepjgndaaGreat
