/- The walk of the law RootParts, whatever the program's root blocks are made of. -/
import Derived.Test.YtaaagmcdbmppmaaYRtLaw0
namespace Go.Proofs.Ytaaagmcdbmppmaa
open Go.RowKit Go.Deep
set_option linter.unusedVariables false
set_option linter.unusedSimpArgs false
set_option maxRecDepth 100000

theorem four_of {w : World} {C : Nat} {a b c d : Value} {T : TypeId} {z : Nat × Nat} (h : w.heap[C]? = some (.cells #[a, b, c, d] T z)) : w.cell? ⟨C, 0, none⟩ = some a ∧ w.cell? ⟨C, 1, none⟩ = some b ∧ w.cell? ⟨C, 2, none⟩ = some c ∧ w.cell? ⟨C, 3, none⟩ = some d := by
  refine ⟨?_, ?_, ?_, ?_⟩ <;> (rw [Lib.cell_of_heap h]; rfl)
set_option maxHeartbeats 6400000 in
theorem parts13_walk (I : Rt13) (l : List Int) (ao : Option Addr) (cap : Nat) (p : Int) (s : ByteArray) (m : Int) (W : World) (hv : LstI l (.slice ao l.length cap) W) (hp : big64 p) (hs : s.size ≤ 9223372036854775807) (hm : big64 m) : Calls Try.prog 4 #[.agg #[.slice ao l.length cap, .int .i64 p, .string s, .int .i64 m]] W fun r u' => r = .returned (.bool true) ∧ Below W.heap.size W u' := by
  have HA := Lib.hid (fun w => awake13_any I w)
  have HV := Lib.hid hv
  have HL : Hid (l.length ≤ 9223372036854775807) := Lib.hid (by obtain ⟨_, _, e, h1, h2, _⟩ := hv; omega)
  have HI := Lib.hid I
  have HPb := Lib.hid hp
  have HMb := Lib.hid hm
  obtain ⟨n, hn⟩ : ∃ n, n = l.length := ⟨_, rfl⟩
  have HN := Lib.hid hn
  rw [← hn] at HV HL ⊢
  have X1 := Lib.hid (heap_alloc_new W (.cells #[.slice ao n cap, .int .i64 p, .string s, .int .i64 m] 37))
  have B1 := Lib.hid (balloc W (.cells #[.slice ao n cap, .int .i64 p, .string s, .int .i64 m] 37))
  obtain ⟨C, hC⟩ : ∃ C, C = W.heap.size := ⟨_, rfl⟩
  rw [← hC] at X1
  have hn2 := HL.out
  clear I hv hp hm hn
  go_enter Try.func4, Try.ntmps4
  go_upto_region 1 with fail
  rw [← hC]
  generalize W.alloc (.cells #[.slice ao n cap, .int .i64 p, .string s, .int .i64 m] 37) = w1 at *
  clear hC
  obtain ⟨x0, x1, x2, x3⟩ := four_of X1.out
  go_region
  go_upto_region 2 with fail
  have B2 := Lib.hid (bthen B1.out (bdrew w1))
  generalize World.drew w1 = w2 at *
  clear x0 x1 x2 x3 X1 B1
  by_cases hc : 700 < n ∨ 600 < s.size
  · have HB : Hid (∀ w, Calls Try.prog 6 #[] w fun r u' => r = .returned (.bool true) ∧ Below w.heap.size w u') := HA
    by_cases h7 : 700 < n
    · have d1 : decide ((700 : Int) < (n : Int)) = true := by simp; omega
      go_wp2_with fail
      refine (HA.out _).mono ?_
      rintro e w3 ⟨rfl, hb⟩
      have B3 := Lib.hid (bthen B2.out hb)
      clear hb
      go_wp2_with fail
      go_ret
      exact ⟨rfl, B3.out⟩
    · have d1 : decide ((700 : Int) < (n : Int)) = false := by simp; omega
      have h6 : 600 < s.size := by omega
      have d2 : decide ((600 : Int) < (s.size : Int)) = true := by simp; omega
      go_wp2_with fail
      refine (HA.out _).mono ?_
      rintro e w3 ⟨rfl, hb⟩
      have B3 := Lib.hid (bthen B2.out hb)
      clear hb
      go_wp2_with fail
      go_ret
      exact ⟨rfl, B3.out⟩
  · have h7 : ¬ 700 < n := by omega
    have h6 : ¬ 600 < s.size := by omega
    have d1 : decide ((700 : Int) < (n : Int)) = false := by simp; omega
    have d2 : decide ((600 : Int) < (s.size : Int)) = false := by simp; omega
    clear hc
    have V2 := Lib.hid (show LstI l (.slice ao n cap) w2 from (HV.out.below B2.out))
    have G1 := Lib.hid (HI.out.putPart l _ p w2 V2.out (by rw [← HN.out]; omega) HPb.out)
    go_wp2_with fail
    refine (G1.out).mono ?_
    rintro e w3 ⟨rfl, hb⟩
    have V3 := Lib.hid (V2.out.below hb)
    have B3 := Lib.hid (bthen B2.out hb)
    clear hb G1
    have G2 := Lib.hid (rputpart_any l _ p w3 V3.out (by rw [← HN.out]; omega) HPb.out)
    go_wp2_with fail
    refine (G2.out).mono ?_
    rintro e w4 ⟨rfl, hb⟩
    have B4 := Lib.hid (bthen B3.out hb)
    clear hb G2
    have G3 := Lib.hid (HI.out.getPart s m w4 (by omega) HMb.out)
    go_wp2_with fail
    refine (G3.out).mono ?_
    rintro e w5 ⟨v5, rfl, l5, hb⟩
    have L5 := Lib.hid l5
    have B5 := Lib.hid (bthen B4.out hb)
    clear hb G3 l5
    have G4 := Lib.hid (rgetpart_any s m (by omega) w5)
    go_wp2_with fail
    refine (G4.out).mono ?_
    rintro e w6 ⟨v6, rfl, l6, hb⟩
    have L6 := Lib.hid l6
    have M6 := Lib.hid (L5.out.below hb)
    have B6 := Lib.hid (bthen B5.out hb)
    clear hb G4 l6
    obtain ⟨po, hpo⟩ : ∃ po, po = partO l p := ⟨_, rfl⟩
    obtain ⟨pe, hpe⟩ : ∃ pe, pe = partE l p := ⟨_, rfl⟩
    obtain ⟨te, hte⟩ : ∃ te, te = tellE s m := ⟨_, rfl⟩
    rw [← hpo, ← hpe, ← hte]
    clear hpo hpe hte
    go_wp2_with fail
    refine (HA.out _).mono ?_
    rintro e w7 ⟨rfl, hb⟩
    have L7 := Lib.hid (L6.out.below hb)
    have M7 := Lib.hid (M6.out.below hb)
    have B7 := Lib.hid (bthen B6.out hb)
    clear hb
    have G5 : Hid (Calls Try.prog 16 #[v5, v6] w7 fun e w' => e = .returned (.bool true) ∧ Below w7.heap.size w7 w') := Lib.hid (by
      have := ints5_any _ _ _ _ _ _ w7 M7.out L7.out
      rwa [sameW_refl] at this)
    go_wp2_with fail
    refine (G5.out).mono ?_
    rintro e w8 ⟨rfl, hb⟩
    have B8 := Lib.hid (bthen B7.out hb)
    clear hb G5
    have G6 := Lib.hid (HI.out.need m w8 HMb.out)
    go_wp2_with fail
    refine (G6.out).mono ?_
    rintro e w9 ⟨rfl, hb⟩
    have B9 := Lib.hid (bthen B8.out hb)
    clear hb G6
    have G7 := Lib.hid (rneed_any m HMb.out w9)
    go_wp2_with fail
    refine (G7.out).mono ?_
    rintro e w10 ⟨rfl, hw⟩
    subst w10
    go_wp2_with fail
    go_ret
    exact ⟨rfl, B9.out⟩

end Go.Proofs.Ytaaagmcdbmppmaa
