/- The walk of the law FreemapDoes, whatever the program's map is made of. -/
import Derived.Test.YtbjmdejnipleoaaFmLaw1
import Derived.Test.YtbjmdejnipleoaaModelInts
namespace Go.Proofs.Ytbjmdejnipleoaa
open Go.RowKit Go.Deep
set_option linter.unusedVariables false
set_option linter.unusedSimpArgs false
set_option maxRecDepth 100000

section
variable {PM : PMap}
theorem ints12_any (l : List Nat) {b1 b2 : Nat} {v1 v2 : Value} {w : World} (h1 : NewL b1 l v1 w) (h2 : NewL b2 l v2 w) : Calls Try.prog 11 #[v1, v2] w fun e w' => e = .returned (.bool true) ∧ Below w.heap.size w w' := by
  have h := ints5_any (fun i => ((l.getD i 0 : Nat) : Int)) (fun i => ((l.getD i 0 : Nat) : Int)) l.length l.length v1 v2 w h1.sl h2.sl
  rwa [sameW_refl] at h
theorem Bo12.p {base P Q n : Nat} {K : Nat → Nat} {u : World} (h : Bo12 PM base P Q n K u) : ∃ S, PM base P n K S u := by
  obtain ⟨S, hp, _⟩ := h.ex
  exact ⟨S, hp⟩
theorem does12_bad (I : Fm12 PM) (x : Int) (hx : x < 0 ∨ 1024 < x) (n : Nat) (ao : Option Addr) (cap : Nat) (o : Int) (W : World) : Calls Try.prog 3 #[.int .i64 x, .slice ao n cap, .int .i64 o] W fun r u' => r = .returned (.bool true) ∧ Below W.heap.size W u' := by
  have H := Lib.hid (made12_bad I x hx n ao cap W)
  have HA := Lib.hid (fun w => awake12_any I w)
  clear I
  go_enter Try.func3, Try.ntmps3
  go_wp2_with fail
  refine (H.out).mono ?_
  rintro e w1 ⟨rfl, hb⟩
  have B1 := Lib.hid hb
  clear hb
  go_wp2_with fail
  refine (HA.out _).mono ?_
  rintro e w2 ⟨rfl, hb⟩
  have B2 := Lib.hid (bthen B1.out hb)
  clear hb
  go_wp2_with fail
  refine (HA.out _).mono ?_
  rintro e w3 ⟨rfl, hb⟩
  have B3 := Lib.hid (bthen B2.out hb)
  clear hb
  go_wp2_with fail
  go_ret
  exact ⟨rfl, B3.out⟩
set_option maxHeartbeats 6400000 in
theorem does12_walk (I : Fm12 PM) (x : Int) (n : Nat) (A : Nat → Int × Int) (ao : Option Addr) (cap : Nat) (o : Int) (W : World) (ha : FasAt W.heap.size n A ao cap W) : Calls Try.prog 3 #[.int .i64 x, .slice ao n cap, .int .i64 o] W fun r u' => r = .returned (.bool true) ∧ Below W.heap.size W u' := by
  by_cases hx : x < 0 ∨ 1024 < x
  · exact does12_bad I x hx n ao cap o W
  obtain ⟨m, rfl⟩ : ∃ m : Nat, x = (m : Int) := ⟨x.toNat, by omega⟩
  have hm : m ≤ 1024 := by omega
  have H := Lib.hid (made12_any I (Nat.le_refl _) ha m hm)
  have HA := Lib.hid (fun w => awake12_any I w)
  have HI := Lib.hid I
  have HM := Lib.hid hm
  clear I ha hx
  go_enter Try.func3, Try.ntmps3
  go_wp2_with fail
  refine (H.out).mono ?_
  rintro e w1 ⟨P, Q, K, rfl, hb, hf, k1⟩
  have HB1 := Lib.hid hb
  have K1 := Lib.hid k1
  clear hb hf k1 H
  go_wp2_with fail
  refine (HA.out _).mono ?_
  rintro e w2 ⟨rfl, k2⟩
  have HB2 := Lib.hid (HB1.out.below HI.out k2)
  have K2 := Lib.hid (bthen K1.out k2)
  clear k2 HB1 K1 HA
  obtain ⟨S2, p2⟩ := HB2.out.p
  have GC := Lib.hid (HI.out.count p2 HM.out HB2.out.sz)
  have GF := Lib.hid (fun w (k : Below w2.heap.size w2 w) => HI.out.free (HI.out.below p2 k) HM.out (Nat.le_trans HB2.out.sz k.size))
  have GH := Lib.hid (fun w (k : Below w2.heap.size w2 w) => HI.out.fresh o (HI.out.below p2 k) HM.out (Nat.le_trans HB2.out.sz k.size))
  have GL := Lib.hid (fun (q : Nat) (hq : q ≤ 4) w (k : Below w2.heap.size w2 w) => HI.out.list q (HI.out.below p2 k) HM.out (Nat.le_trans HB2.out.sz k.size) hq)
  have RL := Lib.hid (fun (q : Nat) w (k : Below w2.heap.size w2 w) => rlist12_any (HB2.out.r.below k) HM.out q)
  have RK := Lib.hid (fun (i : Nat) (hi : i < m) w (k : Below w2.heap.size w2 w) => (HB2.out.r.below k).look hi)
  have L0 : Hid (cntF K 0 m = (listF K 0 m).length) := Lib.hid rfl
  have L1 : Hid (cntF K 1 m = (listF K 1 m).length) := Lib.hid rfl
  have L2 : Hid (cntF K 2 m = (listF K 2 m).length) := Lib.hid rfl
  have L3 : Hid (cntF K 3 m = (listF K 3 m).length) := Lib.hid rfl
  rw [L0.out] at GF
  rw [L0.out, L1.out, L2.out, L3.out] at GC
  clear p2 L0 L1 L2 L3
  go_wp2_with fail
  refine (GC.out).mono ?_
  rintro e w3 ⟨rfl, k3⟩
  have K3 := Lib.hid k3
  have KW := Lib.hid (bthen K2.out k3)
  clear k3
  go_wp2_with fail
  go_loopw [14] (fun i wr => ∃ q : Nat, q ≤ 5 ∧ i = .int .i64 q ∧ Below w2.heap.size w2 wr ∧ Below W.heap.size W wr) (fun i _ => 5 - (intOf i).toNat)
  case atStart => exact ⟨0, by omega, rfl, K3.out, KW.out⟩
  case round =>
    clear K3 KW GC
    obtain ⟨q, hq, rfl, hk, hw⟩ := hrel
    have HK := Lib.hid hk
    have KW := Lib.hid hw
    clear hk hw
    by_cases h5 : q < 5
    · have e1 : decide ((q : Int) < 5) = true := by simp; omega
      have G1 := Lib.hid (GL.out q (by omega) wr HK.out)
      have H5 := Lib.hid h5
      go_wp2_with fail
      refine (G1.out).mono ?_
      rintro e w4 ⟨v1, rfl, n1, k4⟩
      have N1 := Lib.hid n1
      have K4 := Lib.hid (bthen HK.out k4)
      have W4 := Lib.hid (bthen KW.out k4)
      clear n1 k4
      have G2 := Lib.hid (RL.out q w4 K4.out)
      go_wp2_with fail
      refine (G2.out).mono ?_
      rintro e w5 ⟨v2, rfl, n2, k5⟩
      have N2 := Lib.hid (NewL.of n2)
      have N1b := Lib.hid (N1.out.below k5)
      have K5 := Lib.hid (bthen K4.out k5)
      have W5 := Lib.hid (bthen W4.out k5)
      clear n2 k5
      have G3 := Lib.hid (ints12_any _ N1b.out N2.out)
      go_wp2_with fail
      refine (G3.out).mono ?_
      rintro e w6 ⟨rfl, k6⟩
      have K6 := Lib.hid (bthen K5.out k6)
      have W6 := Lib.hid (bthen W5.out k6)
      clear k6
      go_wp2_with fail
      go_roundw
      case rel => exact ⟨q + 1, H5.out, by go_num, K6.out, W6.out⟩
      case measure => have := H5.out; simp [intOf]; omega
    · have e1 : decide ((q : Int) < 5) = false := by simp; omega
      obtain ⟨fr, hfr⟩ : ∃ fr, fr = decide (inF m o ∧ K o.toNat = 2) := ⟨_, rfl⟩
      rw [← hfr] at GH
      by_cases hi : inF m o
      · obtain ⟨i, rfl⟩ : ∃ i : Nat, o = (i : Int) := ⟨o.toNat, by have := hi.1; omega⟩
        have hi1 : i < m := by have := hi.2; omega
        have d1 : decide ((0 : Int) ≤ (i : Int)) = true := by simp
        have d2 : decide ((i : Int) < (m : Int)) = true := by simp; omega
        have i1 : (i : Int) < (m : Int) := by omega
        have i2 : (0 : Int) ≤ (i : Int) := by omega
        obtain ⟨b, c, x0, x1⟩ := RK.out i hi1 wr HK.out
        rw [Int.toNat_natCast] at hfr
        by_cases hz : K i = 2
        · have d3 : (((K i : Nat) : Int) == 2) = true := by simp; omega
          obtain rfl : fr = true := by rw [hfr]; simp [hi, hz]
          clear hfr hz hi
          generalize ((K i : Nat) : Int) = ki at *
          go_upto_region 11 with fail
          clear x0 x1 d1 d2 d3
          have HK0 := HK
          have KW0 := KW
          have G0 := Lib.hid (RL.out 0 _ HK0.out)
          go_wp2_with fail
          refine (G0.out).mono ?_
          rintro e z0 ⟨v0, rfl, n0, k0⟩
          obtain ⟨a0, c0, hv0, _⟩ := (NewL.of n0).sl
          subst hv0
          have HK1 := Lib.hid (bthen HK0.out k0)
          have KW1 := Lib.hid (bthen KW0.out k0)
          clear n0 k0 G0
          have G1 := Lib.hid (RL.out 1 _ HK1.out)
          go_wp2_with fail
          refine (G1.out).mono ?_
          rintro e z1 ⟨v1, rfl, n1, k1⟩
          obtain ⟨a1, c1, hv1, _⟩ := (NewL.of n1).sl
          subst hv1
          have HK2 := Lib.hid (bthen HK1.out k1)
          have KW2 := Lib.hid (bthen KW1.out k1)
          clear n1 k1 G1
          have G2 := Lib.hid (RL.out 2 _ HK2.out)
          go_wp2_with fail
          refine (G2.out).mono ?_
          rintro e z2 ⟨v2, rfl, n2, k2⟩
          obtain ⟨a2, c2, hv2, _⟩ := (NewL.of n2).sl
          subst hv2
          have HK3 := Lib.hid (bthen HK2.out k2)
          have KW3 := Lib.hid (bthen KW2.out k2)
          clear n2 k2 G2
          have G3 := Lib.hid (RL.out 3 _ HK3.out)
          go_wp2_with fail
          refine (G3.out).mono ?_
          rintro e z3 ⟨v3, rfl, n3, k3⟩
          obtain ⟨a3, c3, hv3, _⟩ := (NewL.of n3).sl
          subst hv3
          have HK4 := Lib.hid (bthen HK3.out k3)
          have KW4 := Lib.hid (bthen KW3.out k3)
          clear n3 k3 G3
          go_wp2_with fail
          refine (GF.out _ HK4.out).mono ?_
          rintro e z5 ⟨rfl, k5⟩
          have HK5 := Lib.hid (bthen HK4.out k5)
          have KW5 := Lib.hid (bthen KW4.out k5)
          clear k5
          go_wp2_with fail
          refine (GH.out _ HK5.out).mono ?_
          rintro e z6 ⟨rfl, k6⟩
          have KW6 := Lib.hid (bthen KW5.out k6)
          clear k6
          go_wp2_with fail
          go_ret
          exact ⟨rfl, KW6.out⟩
        · have d3 : (((K i : Nat) : Int) == 2) = false := by simp; omega
          obtain rfl : fr = false := by rw [hfr]; simp [hz]
          clear hfr hz hi
          generalize ((K i : Nat) : Int) = ki at *
          go_upto_region 11 with fail
          clear x0 x1 d1 d2 d3
          have HK0 := HK
          have KW0 := KW
          have G0 := Lib.hid (RL.out 0 _ HK0.out)
          go_wp2_with fail
          refine (G0.out).mono ?_
          rintro e z0 ⟨v0, rfl, n0, k0⟩
          obtain ⟨a0, c0, hv0, _⟩ := (NewL.of n0).sl
          subst hv0
          have HK1 := Lib.hid (bthen HK0.out k0)
          have KW1 := Lib.hid (bthen KW0.out k0)
          clear n0 k0 G0
          have G1 := Lib.hid (RL.out 1 _ HK1.out)
          go_wp2_with fail
          refine (G1.out).mono ?_
          rintro e z1 ⟨v1, rfl, n1, k1⟩
          obtain ⟨a1, c1, hv1, _⟩ := (NewL.of n1).sl
          subst hv1
          have HK2 := Lib.hid (bthen HK1.out k1)
          have KW2 := Lib.hid (bthen KW1.out k1)
          clear n1 k1 G1
          have G2 := Lib.hid (RL.out 2 _ HK2.out)
          go_wp2_with fail
          refine (G2.out).mono ?_
          rintro e z2 ⟨v2, rfl, n2, k2⟩
          obtain ⟨a2, c2, hv2, _⟩ := (NewL.of n2).sl
          subst hv2
          have HK3 := Lib.hid (bthen HK2.out k2)
          have KW3 := Lib.hid (bthen KW2.out k2)
          clear n2 k2 G2
          have G3 := Lib.hid (RL.out 3 _ HK3.out)
          go_wp2_with fail
          refine (G3.out).mono ?_
          rintro e z3 ⟨v3, rfl, n3, k3⟩
          obtain ⟨a3, c3, hv3, _⟩ := (NewL.of n3).sl
          subst hv3
          have HK4 := Lib.hid (bthen HK3.out k3)
          have KW4 := Lib.hid (bthen KW3.out k3)
          clear n3 k3 G3
          go_wp2_with fail
          refine (GF.out _ HK4.out).mono ?_
          rintro e z5 ⟨rfl, k5⟩
          have HK5 := Lib.hid (bthen HK4.out k5)
          have KW5 := Lib.hid (bthen KW4.out k5)
          clear k5
          go_wp2_with fail
          refine (GH.out _ HK5.out).mono ?_
          rintro e z6 ⟨rfl, k6⟩
          have KW6 := Lib.hid (bthen KW5.out k6)
          clear k6
          go_wp2_with fail
          go_ret
          exact ⟨rfl, KW6.out⟩
      · obtain rfl : fr = false := by rw [hfr]; simp [hi]
        clear hfr
        by_cases h0 : 0 ≤ o
        · have d1 : decide ((0 : Int) ≤ o) = true := by simp [h0]
          have d2 : decide (o < (m : Int)) = false := by simp; exact Int.not_lt.1 fun h => hi ⟨h0, h⟩
          clear hi
          go_upto_region 11 with fail
          have HK0 := HK
          have KW0 := KW
          have G0 := Lib.hid (RL.out 0 _ HK0.out)
          go_wp2_with fail
          refine (G0.out).mono ?_
          rintro e z0 ⟨v0, rfl, n0, k0⟩
          obtain ⟨a0, c0, hv0, _⟩ := (NewL.of n0).sl
          subst hv0
          have HK1 := Lib.hid (bthen HK0.out k0)
          have KW1 := Lib.hid (bthen KW0.out k0)
          clear n0 k0 G0
          have G1 := Lib.hid (RL.out 1 _ HK1.out)
          go_wp2_with fail
          refine (G1.out).mono ?_
          rintro e z1 ⟨v1, rfl, n1, k1⟩
          obtain ⟨a1, c1, hv1, _⟩ := (NewL.of n1).sl
          subst hv1
          have HK2 := Lib.hid (bthen HK1.out k1)
          have KW2 := Lib.hid (bthen KW1.out k1)
          clear n1 k1 G1
          have G2 := Lib.hid (RL.out 2 _ HK2.out)
          go_wp2_with fail
          refine (G2.out).mono ?_
          rintro e z2 ⟨v2, rfl, n2, k2⟩
          obtain ⟨a2, c2, hv2, _⟩ := (NewL.of n2).sl
          subst hv2
          have HK3 := Lib.hid (bthen HK2.out k2)
          have KW3 := Lib.hid (bthen KW2.out k2)
          clear n2 k2 G2
          have G3 := Lib.hid (RL.out 3 _ HK3.out)
          go_wp2_with fail
          refine (G3.out).mono ?_
          rintro e z3 ⟨v3, rfl, n3, k3⟩
          obtain ⟨a3, c3, hv3, _⟩ := (NewL.of n3).sl
          subst hv3
          have HK4 := Lib.hid (bthen HK3.out k3)
          have KW4 := Lib.hid (bthen KW3.out k3)
          clear n3 k3 G3
          go_wp2_with fail
          refine (GF.out _ HK4.out).mono ?_
          rintro e z5 ⟨rfl, k5⟩
          have HK5 := Lib.hid (bthen HK4.out k5)
          have KW5 := Lib.hid (bthen KW4.out k5)
          clear k5
          go_wp2_with fail
          refine (GH.out _ HK5.out).mono ?_
          rintro e z6 ⟨rfl, k6⟩
          have KW6 := Lib.hid (bthen KW5.out k6)
          clear k6
          go_wp2_with fail
          go_ret
          exact ⟨rfl, KW6.out⟩
        · have d1 : decide ((0 : Int) ≤ o) = false := by simp; omega
          clear hi
          go_upto_region 11 with fail
          have HK0 := HK
          have KW0 := KW
          have G0 := Lib.hid (RL.out 0 _ HK0.out)
          go_wp2_with fail
          refine (G0.out).mono ?_
          rintro e z0 ⟨v0, rfl, n0, k0⟩
          obtain ⟨a0, c0, hv0, _⟩ := (NewL.of n0).sl
          subst hv0
          have HK1 := Lib.hid (bthen HK0.out k0)
          have KW1 := Lib.hid (bthen KW0.out k0)
          clear n0 k0 G0
          have G1 := Lib.hid (RL.out 1 _ HK1.out)
          go_wp2_with fail
          refine (G1.out).mono ?_
          rintro e z1 ⟨v1, rfl, n1, k1⟩
          obtain ⟨a1, c1, hv1, _⟩ := (NewL.of n1).sl
          subst hv1
          have HK2 := Lib.hid (bthen HK1.out k1)
          have KW2 := Lib.hid (bthen KW1.out k1)
          clear n1 k1 G1
          have G2 := Lib.hid (RL.out 2 _ HK2.out)
          go_wp2_with fail
          refine (G2.out).mono ?_
          rintro e z2 ⟨v2, rfl, n2, k2⟩
          obtain ⟨a2, c2, hv2, _⟩ := (NewL.of n2).sl
          subst hv2
          have HK3 := Lib.hid (bthen HK2.out k2)
          have KW3 := Lib.hid (bthen KW2.out k2)
          clear n2 k2 G2
          have G3 := Lib.hid (RL.out 3 _ HK3.out)
          go_wp2_with fail
          refine (G3.out).mono ?_
          rintro e z3 ⟨v3, rfl, n3, k3⟩
          obtain ⟨a3, c3, hv3, _⟩ := (NewL.of n3).sl
          subst hv3
          have HK4 := Lib.hid (bthen HK3.out k3)
          have KW4 := Lib.hid (bthen KW3.out k3)
          clear n3 k3 G3
          go_wp2_with fail
          refine (GF.out _ HK4.out).mono ?_
          rintro e z5 ⟨rfl, k5⟩
          have HK5 := Lib.hid (bthen HK4.out k5)
          have KW5 := Lib.hid (bthen KW4.out k5)
          clear k5
          go_wp2_with fail
          refine (GH.out _ HK5.out).mono ?_
          rintro e z6 ⟨rfl, k6⟩
          have KW6 := Lib.hid (bthen KW5.out k6)
          clear k6
          go_wp2_with fail
          go_ret
          exact ⟨rfl, KW6.out⟩
end

end Go.Proofs.Ytbjmdejnipleoaa
