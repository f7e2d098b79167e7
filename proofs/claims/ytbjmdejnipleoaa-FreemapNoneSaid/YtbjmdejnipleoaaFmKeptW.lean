/- The walk of the law FreemapKept, whatever the program's map is made of. -/
import Derived.Test.YtbjmdejnipleoaaFmLaw1
namespace Go.Proofs.Ytbjmdejnipleoaa
open Go.RowKit Go.Deep
set_option linter.unusedVariables false
set_option linter.unusedSimpArgs false
set_option maxRecDepth 100000

/-- a list in memory that lies beside the map's blocks: a call of the map leaves it -/
theorem NewL.post {PM : PMap} {base P n b : Nat} {K2 : Nat → Nat} {S : Nat → Bool} {l : List Nat} {v : Value} {u u2 : World} (h : NewL b l v u) (hS : ∀ g, v.ownBlock = some g → S g = false) (k : KpS S u u2) {S2 : Nat → Bool} (h2 : ∀ k, S2 k = true → S k = true ∨ u.heap.size ≤ k) : NewL b l v u2 ∧ ∀ g, v.ownBlock = some g → S2 g = false := by
  refine ⟨h.kept hS k, fun g hg => ?_⟩
  cases c : S2 g with
  | false => rfl
  | true =>
    rcases h2 g c with c2 | c2
    · rw [hS g hg] at c2; cases c2
    · have := (h.lo g hg).2; omega
theorem SinceF.apart {n : Nat} {K0 K : Nat → Nat} (h : SinceF n K0 K) : takeE n K = 0 → ∀ q, q < (listF K0 1 n).length → (((listF K0 1 n).getD q 0 : Nat) : Int) ≠ takeI n K := by
  intro h0 q hq
  have hc : firstN K n < n := by
    by_cases c : firstN K n < n
    · exact c
    · unfold takeE at h0; rw [if_neg c] at h0; exact absurd h0 (by decide)
  have hm := List.getElem_mem hq
  have h1 := (mem_listF.1 hm).2
  have h2 := h.taken hc
  rw [List.getD_eq_getElem?_getD, List.getElem?_eq_getElem hq]
  unfold takeI
  rw [if_pos hc]
  intro he
  apply h2
  have he2 : (listF K0 1 n)[q] = firstN K n := by simp only [Option.getD_some] at he; omega
  rw [← he2]
  exact h1
theorem NewL.at0 {b : Nat} {l : List Nat} {v : Value} {u : World} (h : NewL b l v u) {q : Nat} (hq : q < l.length) : ∃ B o c, v = .slice (some ⟨B, o, none⟩) l.length c ∧ l.length ≤ c ∧ c ≤ 9223372036854775807 ∧ u.cell? ⟨B, o + q, none⟩ = some (.int .i64 ((l.getD q 0 : Nat) : Int)) := by
  obtain ⟨ao, cap, e, h1, h2, h3⟩ := h.sl
  obtain ⟨B, o, e2, hA⟩ := h3 (by omega)
  have := hA.2 q hq 0 (by omega)
  rw [Nat.mul_one, Nat.add_zero] at this
  exact ⟨B, o, cap, by rw [e, e2], h1, h2, this⟩
section
variable {PM : PMap}
set_option maxHeartbeats 12800000 in
theorem kept12_walk (I : Fm12 PM) (n : Nat) (A : Nat → Int × Int) (ao : Option Addr) (cap : Nat) (n2 : Nat) (A2 : Nat → Int × Int) (ao2 : Option Addr) (cap2 : Nat) (W : World) (ha : FasAt W.heap.size n A ao cap W) (ha2 : FasAt W.heap.size n2 A2 ao2 cap2 W) : Calls Try.prog 5 #[.slice ao n cap, .slice ao2 n2 cap2] W fun r u' => r = .returned (.bool true) ∧ Below W.heap.size W u' := by
  have H := Lib.hid (made12_any I (Nat.le_refl _) ha 12 (by omega))
  change Hid (Calls _ _ #[.int .i64 12, _] _ _) at H
  have HA := Lib.hid (fun w => awake12_any I w)
  have HI := Lib.hid I
  have HX2 := Lib.hid ha2
  have hcap := ha2.c
  clear I ha ha2
  go_enter Try.func5, Try.ntmps5
  go_wp2_with fail
  refine (H.out).mono ?_
  rintro e w1 ⟨P, Q, K, rfl, hb, hf, k1⟩
  obtain ⟨S, hp, _⟩ := hb.ex
  have P1 := Lib.hid hp
  have Z1 := Lib.hid hb.sz
  have K1 := Lib.hid k1
  have HF := Lib.hid hf
  clear hb hf hp k1 H
  go_wp2_with fail
  refine (HA.out _).mono ?_
  rintro e w2 ⟨rfl, k2⟩
  have P2 := Lib.hid (HI.out.below P1.out k2)
  have Z2 := Lib.hid (Nat.le_trans Z1.out k2.size)
  have K2 := Lib.hid (bthen K1.out k2)
  clear k2 HA P1 Z1 K1
  have GC := Lib.hid (HI.out.commit P2.out (by omega) Z2.out)
  have H01 : Hid (∀ i, i < 12 → turnF K 1 0 i = 0 ∨ turnF K 1 0 i = 1) := Lib.hid (fun i _ => commit_two HF.out i)
  obtain ⟨K0, hK0⟩ : ∃ K0, K0 = turnF K 1 0 := ⟨_, rfl⟩
  rw [← hK0] at GC H01
  clear hK0 HF
  go_wp2_with fail
  refine (GC.out).mono ?_
  rintro e w3 ⟨rfl, S3, h3, p3, k3⟩
  have P3 := Lib.hid p3
  have Z3 := Lib.hid (Nat.le_trans Z2.out k3.size)
  have K3 := Lib.hid (K2.out.trans (k3.bot Z2.out fun q hq => by
    cases c : S q with
    | false => rfl
    | true => have := (HI.out.lo P2.out q c).1; omega))
  clear h3 p3 k3 P2 Z2 K2 GC
  have GL4 := Lib.hid (HI.out.list 1 P3.out (by omega) Z3.out (by omega))
  change Hid (Calls _ _ #[_, .int .i64 1] _ _) at GL4
  go_wp2_with fail
  refine (GL4.out).mono ?_
  rintro e w4 ⟨v4, rfl, nl, k4⟩
  have NL4 := Lib.hid nl
  have NS4 : Hid (∀ g, v4.ownBlock = some g → S3 g = false) := Lib.hid (fun g hg => by
    cases c : S3 g with
    | false => rfl
    | true => have h1 := (HI.out.lo P3.out g c).2; have h2 := (NL4.out.lo g hg).1; omega)
  have P4 := Lib.hid (HI.out.below P3.out k4)
  have Z4 := Lib.hid (Nat.le_trans Z3.out k4.size)
  have K4 := Lib.hid (bthen K3.out k4)
  clear nl k4 GL4
  go_wp2_with fail
  go_loopw [9] (fun i wr => ∃ j : Nat, j ≤ 40 ∧ i = .int .i64 j ∧ (∃ K S, Hid (PM W.heap.size P 12 K S wr) ∧ Hid (SinceF 12 K0 K) ∧ Hid (NewL w3.heap.size (listF K0 1 12) v4 wr) ∧ Hid (∀ g, v4.ownBlock = some g → S g = false)) ∧ Hid (W.heap.size ≤ wr.heap.size) ∧ Hid (Below W.heap.size W wr)) (fun i _ => 40 - (intOf i).toNat)
  case atStart => exact ⟨0, by omega, rfl, ⟨K0, S3, P4, Lib.hid (SinceF.refl _ _), NL4, NS4⟩, Z4, K4⟩
  case round =>
    clear NL4 NS4 P4 Z4 K4 P3 Z3 K3
    obtain ⟨j, hj, rfl, ⟨K, S, HP, HS, HN0, HG0⟩, HZ, HK⟩ := hrel
    have hj0 : (0 : Int) ≤ (j : Int) := by omega
    by_cases hl : j < n2 ∧ j < 40
    · obtain ⟨hl, h40⟩ := hl
      have e1 : decide ((j : Int) < (n2 : Int)) = true := by simp [hl]
      have hl2 : (j : Int) < (n2 : Int) := by omega
      have e2 : decide ((j : Int) < 40) = true := by simp; omega
      have h402 : (j : Int) < 40 := by omega
      have AJ := HX2.out.below HK.out
      obtain ⟨B, o, rfl, hB, hcell⟩ := AJ.x (by omega)
      obtain ⟨x0, x1⟩ := hcell j hl
      obtain ⟨kind, hkind⟩ : ∃ k, k = (A2 j).1 := ⟨_, rfl⟩
      obtain ⟨i, hia⟩ : ∃ i, i = (A2 j).2 := ⟨_, rfl⟩
      rw [← hkind] at x0
      rw [← hia] at x1
      have H40 := Lib.hid h40
      have X1 := Lib.hid (heap_alloc_new wr (.cells #[.int .i64 kind, .int .i64 i] 40))
      have B1 := balloc wr (.cells #[.int .i64 kind, .int .i64 i] 40)
      have HP1 := Lib.hid (HI.out.below HP.out B1)
      have HM0 := Lib.hid (HN0.out.below B1)
      have HZ1 := Lib.hid (Nat.le_trans HZ.out B1.size)
      have HK1 := Lib.hid (bthen HK.out B1)
      have NB : Hid (∀ k, S k = true → W.heap.size ≤ k) := Lib.hid (fun k hk => (HI.out.lo HP.out k hk).1)
      obtain ⟨C, hC⟩ : ∃ C, C = wr.heap.size := ⟨_, rfl⟩
      rw [← hC] at X1
      clear AJ hcell hB hkind hia
      go_upto_region 10 with fail
      rw [← hC]
      generalize wr.alloc (.cells #[.int .i64 kind, .int .i64 i] 40) = w5 at *
      clear hC B1 x0 x1 HP HK HZ HN0
      have x0 : w5.cell? ⟨C, 0, none⟩ = some (.int .i64 kind) := by rw [Lib.cell_of_heap X1.out]; rfl
      have x1 : w5.cell? ⟨C, 1, none⟩ = some (.int .i64 i) := by rw [Lib.cell_of_heap X1.out]; rfl
      by_cases k4 : kind = 4 ∨ kind = 5
      · rcases k4 with rfl | rfl
        · have GO := Lib.hid (HI.out.leave i HP1.out (by omega) HZ1.out)
          have SN := Lib.hid (HS.out.leave H01.out i)
          go_wp2_with fail
          refine (GO.out).mono ?_
          rintro e w6 ⟨rfl, S6, h6, p6, k6⟩
          have P6 := Lib.hid p6
          have Z6 := Lib.hid (Nat.le_trans HZ1.out k6.size)
          have K6 := Lib.hid (HK1.out.trans (k6.bot HZ1.out fun q hq => by
            cases c : S q with
            | false => rfl
            | true => have := NB.out q c; omega))
          obtain ⟨n6, g6⟩ := HM0.out.post (PM := PM) (base := 0) (P := 0) (n := 0) (K2 := K) HG0.out k6 h6
          have HN0x := Lib.hid n6
          have HG0x := Lib.hid g6
          clear n6 g6
          clear h6 p6 k6 GO x0 x1
          go_wp2_with fail
          go_roundw
          case rel => exact ⟨j + 1, by have := H40.out; omega, by go_num, ⟨leaveF 12 K i, S6, P6, SN, HN0x, HG0x⟩, Z6, K6⟩
          case measure => have := H40.out; simp [intOf]; omega
        · have GO := Lib.hid (HI.out.leave i HP1.out (by omega) HZ1.out)
          have SN := Lib.hid (HS.out.leave H01.out i)
          go_wp2_with fail
          refine (GO.out).mono ?_
          rintro e w6 ⟨rfl, S6, h6, p6, k6⟩
          have P6 := Lib.hid p6
          have Z6 := Lib.hid (Nat.le_trans HZ1.out k6.size)
          have K6 := Lib.hid (HK1.out.trans (k6.bot HZ1.out fun q hq => by
            cases c : S q with
            | false => rfl
            | true => have := NB.out q c; omega))
          obtain ⟨n6, g6⟩ := HM0.out.post (PM := PM) (base := 0) (P := 0) (n := 0) (K2 := K) HG0.out k6 h6
          have HN0x := Lib.hid n6
          have HG0x := Lib.hid g6
          clear n6 g6
          clear h6 p6 k6 GO x0 x1
          go_wp2_with fail
          go_roundw
          case rel => exact ⟨j + 1, by have := H40.out; omega, by go_num, ⟨leaveF 12 K i, S6, P6, SN, HN0x, HG0x⟩, Z6, K6⟩
          case measure => have := H40.out; simp [intOf]; omega
      · have n4 : (kind == 4) = false := by simp; omega
        have n5 : (kind == 5) = false := by simp; omega
        by_cases k7 : kind = 7
        · subst k7
          clear k4 n4 n5
          have GO := Lib.hid (HI.out.abort HP1.out (by omega) HZ1.out)
          have SN := Lib.hid (HS.out.turn H01.out)
          go_wp2_with fail
          refine (GO.out).mono ?_
          rintro e w6 ⟨rfl, S6, h6, p6, k6⟩
          have P6 := Lib.hid p6
          have Z6 := Lib.hid (Nat.le_trans HZ1.out k6.size)
          have K6 := Lib.hid (HK1.out.trans (k6.bot HZ1.out fun q hq => by
            cases c : S q with
            | false => rfl
            | true => have := NB.out q c; omega))
          obtain ⟨n6, g6⟩ := HM0.out.post (PM := PM) (base := 0) (P := 0) (n := 0) (K2 := K) HG0.out k6 h6
          have HN0x := Lib.hid n6
          have HG0x := Lib.hid g6
          clear n6 g6
          clear h6 p6 k6 GO x0 x1
          go_wp2_with fail
          go_roundw
          case rel => exact ⟨j + 1, by have := H40.out; omega, by go_num, ⟨turnF K 0 1, S6, P6, SN, HN0x, HG0x⟩, Z6, K6⟩
          case measure => have := H40.out; simp [intOf]; omega
        · have n7 : (kind == 7) = false := by simp [k7]
          by_cases k1 : 1 ≤ kind
          · have d5 : decide ((1 : Int) ≤ kind) = true := by simp [k1]
            by_cases k3 : kind ≤ 3
            · have d6 : decide (kind ≤ 3) = true := by simp [k3]
              have GO := Lib.hid (HI.out.take HP1.out (by omega) HZ1.out)
              have SN := Lib.hid (HS.out.take H01.out)
              obtain ⟨te, hte⟩ : ∃ t, t = takeE 12 K := ⟨_, rfl⟩
              obtain ⟨ti, hti⟩ : ∃ t, t = takeI 12 K := ⟨_, rfl⟩
              have TK := Lib.hid (HS.out.apart)
              rw [← hte, ← hti] at GO TK
              clear hte hti
              go_wp2_with fail
              refine (GO.out).mono ?_
              rintro e w6 ⟨rfl, S6, h6, p6, k6⟩
              have P6 := Lib.hid p6
              have Z6 := Lib.hid (Nat.le_trans HZ1.out k6.size)
              have K6 := Lib.hid (HK1.out.trans (k6.bot HZ1.out fun q hq => by
                cases c : S q with
                | false => rfl
                | true => have := NB.out q c; omega))
              obtain ⟨n6, g6⟩ := HM0.out.post (PM := PM) (base := 0) (P := 0) (n := 0) (K2 := K) HG0.out k6 h6
              have HN0x := Lib.hid n6
              have HG0x := Lib.hid g6
              clear n6 g6
              clear h6 p6 k6 GO x0 x1
              obtain ⟨ll, hll⟩ : ∃ l, l = (listF K0 1 12).length := ⟨_, rfl⟩
              have HLL := Lib.hid hll
              obtain ⟨va, vc, hv, c1, c2, _⟩ := HN0x.out.sl
              rw [← hll] at hv c1
              subst hv
              clear hll
              have LN : Hid (ll ≤ 12) := Lib.hid (by rw [HLL.out]; exact cntF_le K0 1 12)
              go_wp2_with fail
              go_loopw [84] (fun i wq => ∃ q : Nat, q ≤ ll ∧ i = .int .i64 q ∧ wq = w6) (fun i _ => ll - (intOf i).toNat)
              case atStart => exact ⟨0, Nat.zero_le _, rfl, rfl⟩
              case round =>
                obtain ⟨q, hq, rfl, hwq⟩ := hrel
                subst hwq
                by_cases hql : q < ll
                · have d2 : decide ((q : Int) < (ll : Int)) = true := by simp [hql]
                  have hq1 : (q : Int) < (ll : Int) := by omega
                  have hq2 : (0 : Int) ≤ (q : Int) := by omega
                  obtain ⟨b2, o2, c9, e9, c10, c11, y0⟩ := HN0x.out.at0 (q := q) (by rw [← HLL.out]; exact hql)
                  simp only [Value.slice.injEq] at e9
                  obtain ⟨rfl, _, rfl⟩ := e9
                  have HQL := Lib.hid hql
                  have TQ := Lib.hid (fun h0 => TK.out h0 q (by rw [← HLL.out]; exact hql))
                  generalize (((listF K0 1 12).getD q 0 : Nat) : Int) = yq at *
                  have c12 : ll ≤ vc := c1
                  clear c10
                  by_cases ht : te = 0
                  · have d3 : (yq == ti) = false := by simpa using TQ.out ht
                    subst ht
                    go_wp2_with fail
                    go_roundw
                    case rel => exact ⟨q + 1, HQL.out, by go_num, trivial⟩
                    case measure => have := HQL.out; simp [intOf]; omega
                  · have d3 : (te == 0) = false := by simp [ht]
                    go_wp2_with fail
                    go_roundw
                    case rel => exact ⟨q + 1, HQL.out, by go_num, trivial⟩
                    case measure => have := HQL.out; simp [intOf]; omega
                · obtain rfl : q = ll := by omega
                  have d2 : decide ((q : Int) < (q : Int)) = false := by simp
                  go_wp2_with fail
                  go_roundw
                  case rel => exact ⟨j + 1, by have := H40.out; omega, by go_num, ⟨takeF 12 K, S6, P6, SN, HN0x, HG0x⟩, Z6, K6⟩
                  case measure => have := H40.out; simp [intOf]; omega
            · have d6 : decide (kind ≤ 3) = false := by simp; omega
              go_wp2_with fail
              go_roundw
              case rel => exact ⟨j + 1, by have := H40.out; omega, by go_num, ⟨K, S, HP1, HS, HM0, HG0⟩, HZ1, HK1⟩
              case measure => have := H40.out; simp [intOf]; omega
          · have d5 : decide ((1 : Int) ≤ kind) = false := by simp; omega
            go_wp2_with fail
            go_roundw
            case rel => exact ⟨j + 1, by have := H40.out; omega, by go_num, ⟨K, S, HP1, HS, HM0, HG0⟩, HZ1, HK1⟩
            case measure => have := H40.out; simp [intOf]; omega
    · by_cases hl2 : j < n2
      · have e1 : decide ((j : Int) < (n2 : Int)) = true := by simp [hl2]
        have e2 : decide ((j : Int) < 40) = false := by simp; omega
        clear hl
        go_wp2_with fail
        go_ret
        exact ⟨rfl, HK.out⟩
      · have e1 : decide ((j : Int) < (n2 : Int)) = false := by simp; omega
        clear hl
        go_wp2_with fail
        go_ret
        exact ⟨rfl, HK.out⟩
end

end Go.Proofs.Ytbjmdejnipleoaa
