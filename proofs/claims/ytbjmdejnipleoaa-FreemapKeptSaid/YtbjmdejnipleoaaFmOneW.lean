/- The walk of the law FreemapOne, whatever the program's map is made of. -/
import Derived.Test.YtbjmdejnipleoaaFmLaw1
namespace Go.Proofs.Ytbjmdejnipleoaa
open Go.RowKit Go.Deep
set_option linter.unusedVariables false
set_option linter.unusedSimpArgs false
set_option maxRecDepth 100000

/-- how often page i was seen: of the kinds ahead of k, and of the first q of kind k -/
def seenF (K : Nat → Nat) (k q i : Nat) : Nat := (if K i < k then 1 else 0) + ((listF K k 12).take q).count i
theorem seen_next {K : Nat → Nat} {k q : Nat} (h : q < (listF K k 12).length) (i : Nat) : seenF K k (q + 1) i = if i = (listF K k 12).getD q 0 then seenF K k q i + 1 else seenF K k q i := by
  unfold seenF
  rw [List.take_add_one, List.getElem?_eq_getElem h, List.getD_eq_getElem?_getD, List.getElem?_eq_getElem h, List.count_append]
  simp only [Option.toList_some, Option.getD_some]
  by_cases c : i = (listF K k 12)[q]
  · rw [if_pos c, ← c]; simp; omega
  · have h0 : List.count i [(listF K k 12)[q]] = 0 := List.count_eq_zero.2 (by simp [c])
    rw [if_neg c, h0]; omega
theorem seen_kind {K : Nat → Nat} {k i : Nat} (hi : i < 12) : seenF K k (listF K k 12).length i = seenF K (k + 1) 0 i := by
  unfold seenF
  rw [List.take_of_length_le (Nat.le_refl _), count_listF]
  simp only [List.take_zero, List.count_nil]
  by_cases c : K i = k
  · have h1 : ¬ K i < k := by omega
    have h2 : K i < k + 1 := by omega
    rw [if_neg h1, if_pos ⟨hi, c⟩, if_pos h2]
  · have h3 : ¬ (i < 12 ∧ K i = k) := fun h => c h.2
    rw [if_neg h3]
    by_cases c2 : K i < k
    · have h4 : K i < k + 1 := by omega
      rw [if_pos c2, if_pos h4]
    · have h4 : ¬ K i < k + 1 := by omega
      rw [if_neg c2, if_neg h4]
theorem seen_end {K : Nat → Nat} (hf : FourF K) (i : Nat) : seenF K 4 0 i = 1 := by
  unfold seenF
  rw [if_pos (hf i)]
  rfl
theorem seen_le (K : Nat → Nat) (k q i : Nat) : seenF K k q i ≤ 13 := by
  unfold seenF
  have h1 := List.count_le_length (a := i) (l := (listF K k 12).take q)
  have h2 := cntF_le K k 12
  unfold cntF at h2
  rw [List.length_take] at h1
  split <;> omega
section
variable {PM : PMap}
set_option maxHeartbeats 6400000 in
theorem one12_walk (I : Fm12 PM) (n : Nat) (A : Nat → Int × Int) (ao : Option Addr) (cap : Nat) (W : World) (ha : FasAt W.heap.size n A ao cap W) : Calls Try.prog 4 #[.slice ao n cap] W fun r u' => r = .returned (.bool true) ∧ Below W.heap.size W u' := by
  obtain ⟨i0, hi0, hz0, hz1, hz2⟩ := info_parts infoInt12
  have H := Lib.hid (made12_any I (Nat.le_refl _) ha 12 (by omega))
  change Hid (Calls _ _ #[.int .i64 12, _] _ _) at H
  have HA := Lib.hid (fun w => awake12_any I w)
  have HI := Lib.hid I
  clear I ha
  go_enter Try.func4, Try.ntmps4
  go_wp2_with fail
  refine (H.out).mono ?_
  rintro e w1 ⟨P, Q, K, rfl, hb, hf, k1⟩
  obtain ⟨S, hp, _⟩ := hb.ex
  have P1 := Lib.hid hp
  have Z1 := Lib.hid hb.sz
  have K1 := Lib.hid k1
  have HF := Lib.hid hf
  clear hb hf hp k1 H
  go_wp2_with fail
  refine (HA.out _).mono ?_
  rintro e w2 ⟨rfl, k2⟩
  have P2 := Lib.hid (HI.out.below P1.out k2)
  have Z2 := Lib.hid (Nat.le_trans Z1.out k2.size)
  have K2 := Lib.hid (bthen K1.out k2)
  clear k2 HA P1 Z1 K1
  go_wp2_with (at_make; refine wpList_make_full _ rfl _ _ _ rfl w2.heap.size 3 i0 (.int .i64 0) 1 Try.underlying31 hi0 hz0 hz1 .i64 .i64 _ _ 12 rfl rfl (by omega) (by omega) (by rw [hz2]; omega) (by unfold maxLen; omega) (by omega) ?_)
  intro w3 hown hgr
  have W3 := (Below.refl w2.heap.size w2).grown hgr (Nat.le_refl _) (by simp)
  rw [zeros_row] at hown
  obtain ⟨g, hg, hvg, hrow⟩ := RowB.of hown (by omega)
  simp only [Value.ownBlock, Option.some.injEq] at hvg
  subst hvg
  have R3 : Hid (RowB 3 1 w2.heap.size (gK (seenF K 0 0)) 12 (.slice (some ⟨w2.heap.size, 0, none⟩) 12 12) w3) := Lib.hid (hrow.congr fun i hi j hj => by
    unfold gK seenF
    simp)
  have P3 := Lib.hid (HI.out.below P2.out W3)
  have Z3 := Lib.hid (Nat.le_trans Z2.out W3.size)
  have K3 := Lib.hid (bthen K2.out W3)
  have GB : Hid (∀ k, S k = true → k < w2.heap.size) := Lib.hid (fun k hk => (HI.out.lo P2.out k hk).2)
  obtain ⟨G, hG⟩ : ∃ G, G = w2.heap.size := ⟨_, rfl⟩
  have GW : Hid (W.heap.size ≤ G) := Lib.hid (by rw [hG]; exact K2.out.size)
  rw [← hG] at R3 GB
  rw [← hG]
  clear hown hgr W3 hrow hg P2 Z2 K2 hG
  go_wp2_with fail
  go_loopw [7] (fun i wr => ∃ k : Nat, k ≤ 4 ∧ i = .int .i64 k ∧ Hid (RowB 3 1 G (gK (seenF K k 0)) 12 (.slice (some ⟨G, 0, none⟩) 12 12) wr) ∧ Hid (PM W.heap.size P 12 K S wr) ∧ Hid (W.heap.size ≤ wr.heap.size) ∧ Hid (Below W.heap.size W wr)) (fun i _ => 4 - (intOf i).toNat)
  case atStart => exact ⟨0, by omega, rfl, R3, P3, Z3, K3⟩
  case round =>
    clear R3 P3 Z3 K3
    obtain ⟨k, hk, rfl, HR, HP, HZ, HK⟩ := hrel
    by_cases hk4 : k < 4
    · have e1 : decide ((k : Int) < 4) = true := by simp; omega
      have GL := Lib.hid (HI.out.list k HP.out (by omega) HZ.out (by omega))
      have HK4 := Lib.hid hk4
      have LN : Hid ((listF K k 12).length ≤ 12) := Lib.hid (cntF_le K k 12)
      have LI : Hid (∀ q, q < (listF K k 12).length → (listF K k 12).getD q 0 < 12) := Lib.hid (fun q hq => by
        have := List.getElem_mem hq
        rw [List.getD_eq_getElem?_getD, List.getElem?_eq_getElem hq]
        exact (mem_listF.1 this).1)
      go_wp2_with fail
      refine (GL.out).mono ?_
      rintro e w4 ⟨v, rfl, nl, k4⟩
      obtain ⟨va, vc, hv, c1, c2, hx⟩ := nl.sl
      subst hv
      have NL := Lib.hid nl
      have HX := Lib.hid hx
      have R4 : Hid (RowB 3 1 G (gK (seenF K k 0)) 12 (.slice (some ⟨G, 0, none⟩) 12 12) w4) := Lib.hid (HR.out.kept (k4.block _ HR.out.lt))
      have P4 := Lib.hid (HI.out.below HP.out k4)
      have Z4 := Lib.hid (Nat.le_trans HZ.out k4.size)
      have K4 := Lib.hid (bthen HK.out k4)
      have NG : Hid (∀ b o, va = some ⟨b, o, none⟩ → b ≠ G) := Lib.hid (fun b o h e => by
        have h1 := (NL.out.lo b (by rw [h]; rfl)).1
        have := HR.out.lt
        omega)
      obtain ⟨ll, hll⟩ : ∃ l, l = (listF K k 12).length := ⟨_, rfl⟩
      rw [← hll] at LN LI c1 HX
      have HLL := Lib.hid hll
      rw [← hll]
      clear nl hx hll GL k4
      go_wp2_with fail
      go_loopw [36] (fun i wr => ∃ q : Nat, q ≤ ll ∧ i = .int .i64 q ∧ Hid (RowB 3 1 G (gK (seenF K k q)) 12 (.slice (some ⟨G, 0, none⟩) 12 12) wr) ∧ Hid (PM W.heap.size P 12 K S wr) ∧ Hid (∀ b o, va = some ⟨b, o, none⟩ → At 1 (gK fun i => (listF K k 12).getD i 0) ll b o wr) ∧ Hid (W.heap.size ≤ wr.heap.size) ∧ Hid (Below W.heap.size W wr)) (fun i _ => ll - (intOf i).toNat)
      case atStart => exact ⟨0, Nat.zero_le _, rfl, R4, P4, Lib.hid (fun b o h => by
        by_cases h0 : 0 < ll
        · obtain ⟨b2, o2, e2, h2⟩ := HX.out h0
          rw [h] at e2
          simp only [Option.some.injEq, Addr.mk.injEq, and_true] at e2
          obtain ⟨rfl, rfl⟩ := e2
          exact h2
        · have h1 := (NL.out.lo b (by rw [h]; rfl)).2
          exact ⟨h1, fun i hi => by omega⟩), Z4, K4⟩
      case round =>
        obtain ⟨q, hq, rfl, HR2, HP2, HX2, HZ2, HK2⟩ := hrel
        by_cases hql : q < ll
        · obtain ⟨b, o, rfl, _⟩ := HX.out (by omega)
          have e2 : decide ((q : Int) < (ll : Int)) = true := by simp [hql]
          have hq1 : (q : Int) < (ll : Int) := by omega
          have hq2 : (0 : Int) ≤ (q : Int) := by omega
          have hi := LI.out q hql
          have x0 := (HX2.out b o rfl).2 q hql 0 (by omega)
          rw [Nat.mul_one, Nat.add_zero] at x0
          have hcl : ll ≤ vc := c1
          obtain ⟨i, hie⟩ : ∃ i, i = (listF K k 12).getD q 0 := ⟨_, rfl⟩
          unfold gK at x0
          dsimp only at x0
          rw [← hie] at hi x0
          have hi1 : (i : Int) < 12 := by omega
          have hi2 : (0 : Int) ≤ (i : Int) := by omega
          have d3 : decide ((i : Int) < 0) = false := by simp
          have d4 : decide ((12 : Int) ≤ (i : Int)) = false := by simp; omega
          have y0 := HR2.out.cell1 hi
          have yf := HR2.out.frozen i
          have hs13 := seen_le K k q i
          have R5 : Hid (RowB 3 1 G (gK (seenF K k (q + 1))) 12 (.slice (some ⟨G, 0, none⟩) 12 12) (wr.setCell ⟨G, i, none⟩ (.int .i64 ((seenF K k q i : Int) + 1)))) := Lib.hid (HR2.out.put1 hi _ (by
            show Value.int .i64 ((seenF K k (q + 1) i : Nat) : Int) = _
            rw [seen_next (by rw [← HLL.out]; exact hql), if_pos hie]
            rfl) (fun z hz hne => by
            show Value.int .i64 ((seenF K k (q + 1) z : Nat) : Int) = Value.int .i64 ((seenF K k q z : Nat) : Int)
            rw [seen_next (by rw [← HLL.out]; exact hql), if_neg (by rw [← hie]; exact hne)]))
          have KS : Hid (KpS (QS G) wr (wr.setCell ⟨G, i, none⟩ (.int .i64 ((seenF K k q i : Int) + 1)))) := Lib.hid (KpS.set (QS.a G) i _ wr)
          have P5 := Lib.hid (HI.out.kept HP2.out (fun z hz => QS.no (by have := GB.out z hz; omega)) KS.out)
          have X5 : Hid (∀ b2 o2, some (⟨b, o, none⟩ : Addr) = some ⟨b2, o2, none⟩ → At 1 (gK fun i => (listF K k 12).getD i 0) ll b2 o2 (wr.setCell ⟨G, i, none⟩ (.int .i64 ((seenF K k q i : Int) + 1)))) := Lib.hid (fun b2 o2 h => by
            have h2 := HX2.out b2 o2 h
            refine ⟨by rw [World.size_setCell]; exact h2.1, fun z hz y hy => ?_⟩
            rw [World.cell?_of_block (set_else12 _ (NG.out b2 o2 h))]
            exact h2.2 z hz y hy)
          have Z5 : Hid (W.heap.size ≤ (wr.setCell ⟨G, i, none⟩ (.int .i64 ((seenF K k q i : Int) + 1))).heap.size) := Lib.hid (by rw [World.size_setCell]; exact HZ2.out)
          have K5 := Lib.hid (HK2.out.setCell (p := ⟨G, i, none⟩) GW.out (.int .i64 ((seenF K k q i : Int) + 1)))
          have HQL := Lib.hid hql
          unfold gK at y0
          clear hie
          generalize hsq : ((seenF K k q i : Nat) : Int) = sq at *
          have hsq1 : 0 ≤ sq ∧ sq ≤ 13 := by omega
          clear hsq hs13
          go_wp2_with fail
          go_roundw
          case rel => exact ⟨q + 1, HQL.out, by go_num, R5, P5, X5, Z5, K5⟩
          case measure => have := HQL.out; simp [intOf]; omega
        · obtain rfl : q = ll := by omega
          have e2 : decide ((q : Int) < (q : Int)) = false := by simp
          have R6 : Hid (RowB 3 1 G (gK (seenF K (k + 1) 0)) 12 (.slice (some ⟨G, 0, none⟩) 12 12) wr) := Lib.hid (HR2.out.congr fun i hi j hj => by
            unfold gK
            rw [HLL.out, seen_kind hi])
          go_wp2_with fail
          go_roundw
          case rel => exact ⟨k + 1, HK4.out, by go_num, R6, HP2, HZ2, HK2⟩
          case measure => have := HK4.out; simp [intOf]; omega
    · obtain rfl : k = 4 := by omega
      have e1 : decide ((4 : Int) < 4) = false := by decide
      go_wp2_with fail
      go_loopw [10] (fun i wq => ∃ q : Nat, q ≤ 12 ∧ i = .int .i64 q ∧ wq = wr) (fun i _ => 12 - (intOf i).toNat)
      case atStart => exact ⟨0, by omega, rfl, rfl⟩
      case round =>
        obtain ⟨q, hq, rfl, hwq⟩ := hrel
        subst hwq
        by_cases hql : q < 12
        · have e2 : decide ((q : Int) < 12) = true := by simp; omega
          have hq1 : (q : Int) < 12 := by omega
          have hq2 : (0 : Int) ≤ (q : Int) := by omega
          have y0 := HR.out.cell1 hql
          unfold gK at y0
          rw [seen_end HF.out] at y0
          have HQL := Lib.hid hql
          go_wp2_with fail
          go_roundw
          case rel => exact ⟨q + 1, HQL.out, by go_num, trivial⟩
          case measure => have := HQL.out; simp [intOf]; omega
        · have e2 : decide ((q : Int) < 12) = false := by simp; omega
          go_wp2_with fail
          go_ret
          exact ⟨rfl, HK.out⟩
end

end Go.Proofs.Ytbjmdejnipleoaa
