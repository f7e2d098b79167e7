/- The contract of layer 7's must. -/
import Derived.Test.YtehdlpgopcoecaaVmLaws1
namespace Go.Proofs.Ytehdlpgopcoecaa
open Go.RowKit
set_option linter.unusedVariables false
set_option maxRecDepth 100000

theorem put_other7 {B k : Nat} (hk : k ≠ B) : ∀ (l : List Value) (o : Nat) (W : World), (W.setCells B o l).heap[k]? = W.heap[k]?
  | [], _, W => rfl
  | v :: l, o, W => (put_other7 hk l (o + 1) _).trans (Below.heap_setCell W ⟨B, o, none⟩ v k hk)
set_option maxHeartbeats 1600000 in
theorem must7_any (ou : Ou) (mn : Int) (ap aw : Option Addr) (pl cp nw cw : Nat) (pay me lps seed dice : Int) (w : World)
    (HD : Hid (∀ u, Below w.heap.size w u → Calls Try.prog 11 #[.slice ap pl cp, .agg #[.slice aw nw cw, .int .i64 pay, .int .i64 me, .int .i64 lps, .int .i64 seed, .int .i64 dice]] u (Tells ou mn u))) :
    Calls Try.prog 17 #[.slice ap pl cp, .agg #[.slice aw nw cw, .int .i64 pay, .int .i64 me, .int .i64 lps, .int .i64 seed, .int .i64 dice]] w fun e w' =>
      ∃ aw2 cw2 as_ cs, e = .returned (.agg #[.slice aw2 ou.nw cw2, .slice as_ ou.ns cs, .int .i64 ou.dice, .int .i64 ou.f]) ∧ OutAt w.heap.size ou (.agg #[.slice aw2 ou.nw cw2, .slice as_ ou.ns cs, .int .i64 ou.dice, .int .i64 ou.f]) w' ∧ Below w.heap.size w w' := by
  have X1 : Hid (((w.alloc (.cells #[.slice aw nw cw, .int .i64 pay, .int .i64 me, .int .i64 lps, .int .i64 seed, .int .i64 dice] 25)).alloc (.cells #[.slice none 0 0, .slice none 0 0, .int .i64 0, .int .i64 0] 30)).heap[w.heap.size]? = some (.cells #[.slice aw nw cw, .int .i64 pay, .int .i64 me, .int .i64 lps, .int .i64 seed, .int .i64 dice] 25)) := (Below.heap_alloc _ _ _ (by rw [World.size_alloc]; omega)).trans (heap_alloc_new w _)
  have R1 : Hid (((w.alloc (.cells #[.slice aw nw cw, .int .i64 pay, .int .i64 me, .int .i64 lps, .int .i64 seed, .int .i64 dice] 25)).alloc (.cells #[.slice none 0 0, .slice none 0 0, .int .i64 0, .int .i64 0] 30)).heap[w.heap.size + 1]? = some (.cells #[.slice none 0 0, .slice none 0 0, .int .i64 0, .int .i64 0] 30 (0, 0))) := by
    have := heap_alloc_new (w.alloc (.cells #[.slice aw nw cw, .int .i64 pay, .int .i64 me, .int .i64 lps, .int .i64 seed, .int .i64 dice] 25)) (.cells #[.slice none 0 0, .slice none 0 0, .int .i64 0, .int .i64 0] 30)
    rwa [World.size_alloc] at this
  have B1 := Lib.hid (bthen (balloc w (.cells #[.slice aw nw cw, .int .i64 pay, .int .i64 me, .int .i64 lps, .int .i64 seed, .int .i64 dice] 25)) (balloc _ (.cells #[.slice none 0 0, .slice none 0 0, .int .i64 0, .int .i64 0] 30)))
  obtain ⟨n0, n1, n2, n3, n4, n5⟩ := six_cells7 X1.out
  generalize hu : (w.alloc (.cells #[.slice aw nw cw, .int .i64 pay, .int .i64 me, .int .i64 lps, .int .i64 seed, .int .i64 dice] 25)).alloc (.cells #[.slice none 0 0, .slice none 0 0, .int .i64 0, .int .i64 0] 30) = u at X1 R1 B1 n0 n1 n2 n3 n4 n5
  go_enter Try.func17, Try.ntmps17
  go_upto_region 1 with fail
  try rw [hu]
  clear hu
  go_wp2_with fail
  refine (HD.out _ B1.out).mono ?_
  rintro e w3 ⟨aw3, cw3, az, cz, rfl, ho3, hb3⟩
  have R3 := Lib.hid ((hb3.block _ (lt_of_block R1.out)).trans R1.out)
  have R4 := Lib.hid ((Below.heap_alloc w3 (.cells #[.slice aw3 ou.nw cw3, .slice az ou.ns cz, .int .i64 ou.dice, .int .i64 ou.f] 30) _ (lt_of_block R3.out)).trans R3.out)
  have Y4 := Lib.hid (heap_alloc_new w3 (.cells #[.slice aw3 ou.nw cw3, .slice az ou.ns cz, .int .i64 ou.dice, .int .i64 ou.f] 30))
  have B4 := Lib.hid (bthen (bthen B1.out hb3) (balloc w3 (.cells #[.slice aw3 ou.nw cw3, .slice az ou.ns cz, .int .i64 ou.dice, .int .i64 ou.f] 30)))
  have O4 := Lib.hid (ho3.below (balloc w3 (.cells #[.slice aw3 ou.nw cw3, .slice az ou.ns cz, .int .i64 ou.dice, .int .i64 ou.f] 30)))
  clear hb3 ho3 n0 n1 n2 n3 n4 n5
  go_upto_region 2 with fail
  generalize w3.alloc (.cells #[.slice aw3 ou.nw cw3, .slice az ou.ns cz, .int .i64 ou.dice, .int .i64 ou.f] 30) = u3 at *
  generalize w3.heap.size = xb at *
  obtain ⟨y0, y1, y2, y3⟩ := four_cells Y4.out
  obtain ⟨z0, z1, z2, z3⟩ := four_cells R4.out
  have zf : ∀ q, u3.frozen? ⟨w.heap.size + 1, q, none⟩ = false := fun q => Lib.frozen_of_heap R4.out q
  go_wp2_with fail
  change bodyPost _ _ _ _ _ (World.setCells u3 (w.heap.size + 1) 0 [.slice aw3 ou.nw cw3, .slice az ou.ns cz, .int .i64 ou.dice, .int .i64 ou.f])
  have h5 := put_four R4.out (.slice aw3 ou.nw cw3) (.slice az ou.ns cz) (.int .i64 ou.dice) (.int .i64 ou.f)
  have LZ := Lib.hid (B4.out.trans (put_low7 (show w.heap.size ≤ w.heap.size + 1 by omega) [.slice aw3 ou.nw cw3, .slice az ou.ns cz, .int .i64 ou.dice, .int .i64 ou.f] 0 u3))
  have O9 := Lib.hid (O4.out.set (u2 := World.setCells u3 (w.heap.size + 1) 0 [.slice aw3 ou.nw cw3, .slice az ou.ns cz, .int .i64 ou.dice, .int .i64 ou.f]) R4.out (by decide) (by decide) (fun k hk => put_other7 hk _ _ _))
  obtain ⟨t0, t1, t2, t3⟩ := four_cells h5
  clear h5
  generalize World.setCells u3 (w.heap.size + 1) 0 [.slice aw3 ou.nw cw3, .slice az ou.ns cz, .int .i64 ou.dice, .int .i64 ou.f] = w9 at *
  exact bodyPost_ret (v := .agg #[.slice aw3 ou.nw cw3, .slice az ou.ns cz, .int .i64 ou.dice, .int .i64 ou.f]) (by simp [results, Try.results17, go_sem, t0, t1, t2, t3]) rfl ⟨_, _, _, _, rfl, O9.out.lower B1.out.size, LZ.out⟩

end Go.Proofs.Ytehdlpgopcoecaa
