/- The contract of modelio.Put. -/
import Derived.Test.YtemhbcjpgapjkaaMioPut1
import Derived.Test.YtemhbcjpgapjkaaModelCheck
namespace Go.Proofs.Ytemhbcjpgapjkaa
open Go.RowKit
set_option linter.unusedVariables false
set_option maxRecDepth 100000

theorem put_bad (seed : Int) (fin : Nat) (vd vp vl vi : Value) (w : World)
    (HC : Hid (∀ w2, Below w.heap.size w w2 → Calls Try.prog 17 #[.agg #[.int .i64 seed, .float .f64 fin, vd, vp, vl, vi]] w2 fun e w' => e = .returned (.int .i64 15) ∧ Below w2.heap.size w2 w')) :
    Calls Try.prog 10 #[.agg #[.int .i64 seed, .float .f64 fin, vd, vp, vl, vi]] w fun e w' => e = .returned (.tuple #[.string ⟨#[]⟩, .int .i64 15]) ∧ Below w.heap.size w w' := by
  have HX := Lib.hid (Box6.new (.int .i64 seed) (.float .f64 fin) vd vp vl vi 28 w)
  have HA := Lib.hid (balloc w (.cells #[.int .i64 seed, .float .f64 fin, vd, vp, vl, vi] 28))
  obtain ⟨_, x0, x1, x2, x3, x4, x5⟩ := HX.out
  go_enter Try.func10, Try.ntmps10
  go_wp2_with (go_at_call 17; refine (HC.out _ HA.out).mono ?_; rintro e w2 ⟨rfl, hb2⟩)
  go_ret2
  exact ⟨rfl, bthen HA.out hb2⟩

set_option maxHeartbeats 3200000 in
theorem put_good (seed : Int) (fin : Nat) (vd vp vl vi : Value) (r0 r1 r2 r3 r4 r5 : ByteArray) (hsz : r0.size + r1.size + r2.size + r3.size + r4.size + r5.size ≤ 10000000) (w : World)
    (HC : Hid (∀ w2, Below w.heap.size w w2 → Calls Try.prog 17 #[.agg #[.int .i64 seed, .float .f64 fin, vd, vp, vl, vi]] w2 fun e w' => e = .returned (.int .i64 0) ∧ Below w2.heap.size w2 w'))
    (H0 : Hid (∀ w2, Below w.heap.size w w2 → Calls Try.prog 18 #[.int .i64 seed] w2 fun e w' => e = .returned (.string r0) ∧ Below w2.heap.size w2 w'))
    (H1 : Hid (∀ w2, Below w.heap.size w w2 → Calls Try.prog 19 #[.float .f64 fin] w2 fun e w' => e = .returned (.string r1) ∧ Below w2.heap.size w2 w'))
    (H2 : Hid (∀ w2, Below w.heap.size w w2 → Calls Try.prog 20 #[vd, .func (.func 19) #[] #[]] w2 fun e w' => e = .returned (.string r2) ∧ Below w2.heap.size w2 w'))
    (H3 : Hid (∀ w2, Below w.heap.size w w2 → Calls Try.prog 21 #[vp, .func (.func 22) #[] #[]] w2 fun e w' => e = .returned (.string r3) ∧ Below w2.heap.size w2 w'))
    (H4 : Hid (∀ w2, Below w.heap.size w w2 → Calls Try.prog 23 #[vl, .func (.func 24) #[] #[]] w2 fun e w' => e = .returned (.string r4) ∧ Below w2.heap.size w2 w'))
    (H5 : Hid (∀ w2, Below w.heap.size w w2 → Calls Try.prog 25 #[vi, .func (.func 26) #[] #[]] w2 fun e w' => e = .returned (.string r5) ∧ Below w2.heap.size w2 w')) :
    Calls Try.prog 10 #[.agg #[.int .i64 seed, .float .f64 fin, vd, vp, vl, vi]] w fun e w' => e = .returned (.tuple #[.string (r0 ++ (r1 ++ (r2 ++ (r3 ++ (r4 ++ r5))))), .int .i64 0]) ∧ Below w.heap.size w w' := by
  have b1 : ¬ 9223372036854775807 < r0.size + r1.size := by omega
  have b2 : ¬ 9223372036854775807 < r0.size + r1.size + r2.size := by omega
  have b3 : ¬ 9223372036854775807 < r0.size + r1.size + r2.size + r3.size := by omega
  have b4 : ¬ 9223372036854775807 < r0.size + r1.size + r2.size + r3.size + r4.size := by omega
  have b5 : ¬ 9223372036854775807 < r0.size + r1.size + r2.size + r3.size + r4.size + r5.size := by omega
  clear hsz
  have HX0 := Lib.hid (Box6.new (.int .i64 seed) (.float .f64 fin) vd vp vl vi 28 w)
  have HA0 := Lib.hid (balloc w (.cells #[.int .i64 seed, .float .f64 fin, vd, vp, vl, vi] 28))
  obtain ⟨_, x0, x1, x2, x3, x4, x5⟩ := HX0.out
  go_enter Try.func10, Try.ntmps10
  go_wp2_with (go_at_call 17; refine (HC.out _ HA0.out).mono ?_; rintro e w1 ⟨rfl, hb1⟩)
  have HX := Lib.hid (HX0.out.below hb1)
  have HA := Lib.hid (bthen HA0.out hb1)
  clear x0 x1 x2 x3 x4 x5 HX0 HA0 hb1
  have HD := Lib.hid (bdrew w1)
  obtain ⟨_, p0, p1, p2, p3, p4, p5⟩ := HX.out.below HD.out
  go_region_held3 (fun w' => w'.cell? ⟨w.heap.size, 0, none⟩ = some (.int .i64 seed) ∧ w'.cell? ⟨w.heap.size, 1, none⟩ = some (.float .f64 fin) ∧ w'.cell? ⟨w.heap.size, 2, none⟩ = some (vd) ∧ w'.cell? ⟨w.heap.size, 3, none⟩ = some (vp) ∧ w'.cell? ⟨w.heap.size, 4, none⟩ = some (vl) ∧ w'.cell? ⟨w.heap.size, 5, none⟩ = some (vi)) (go_keep) (first
    | (go_at_call 18; refine (H0.out _ (bthen HA.out HD.out)).mono ?_; rintro e v0 ⟨rfl, hb0⟩; have HB0 := Lib.hid (bthen HD.out hb0); obtain ⟨_, p0, p1, p2, p3, p4, p5⟩ := HX.out.below HB0.out; clear hb0)
    | (go_at_call 19; refine (H1.out _ (bthen HA.out HB0.out)).mono ?_; rintro e v1 ⟨rfl, hb1⟩; have HB1 := Lib.hid (bthen HB0.out hb1); obtain ⟨_, p0, p1, p2, p3, p4, p5⟩ := HX.out.below HB1.out; clear hb1)
    | (go_at_call 20; refine (H2.out _ (bthen HA.out HB1.out)).mono ?_; rintro e v2 ⟨rfl, hb2⟩; have HB2 := Lib.hid (bthen HB1.out hb2); obtain ⟨_, p0, p1, p2, p3, p4, p5⟩ := HX.out.below HB2.out; clear hb2)
    | (go_at_call 21; refine (H3.out _ (bthen HA.out HB2.out)).mono ?_; rintro e v3 ⟨rfl, hb3⟩; have HB3 := Lib.hid (bthen HB2.out hb3); obtain ⟨_, p0, p1, p2, p3, p4, p5⟩ := HX.out.below HB3.out; clear hb3)
    | (go_at_call 23; refine (H4.out _ (bthen HA.out HB3.out)).mono ?_; rintro e v4 ⟨rfl, hb4⟩; have HB4 := Lib.hid (bthen HB3.out hb4); obtain ⟨_, p0, p1, p2, p3, p4, p5⟩ := HX.out.below HB4.out; clear hb4)
    | (go_at_call 25; refine (H5.out _ (bthen HA.out HB4.out)).mono ?_; rintro e v5 ⟨rfl, hb5⟩; have HB5 := Lib.hid (bthen HB4.out hb5); obtain ⟨_, p0, p1, p2, p3, p4, p5⟩ := HX.out.below HB5.out; clear hb5))
  go_wp2_with fail
  go_ret2
  exact ⟨by simp only [ByteArray.append_assoc]; rfl, bthen HA.out HB5.out⟩

def putS (m : Mdl) : ByteArray := if mayB m then layM m else ⟨#[]⟩
set_option maxHeartbeats 1600000 in
theorem put_any (m : Mdl) (vd vp vl vi : Value) (w : World) (h : MdlAt m vd vp vl vi w) :
    Calls Try.prog 10 #[mval m vd vp vl vi] w fun e w' => e = .returned (.tuple #[.string (putS m), .int .i64 (chkN m)]) ∧ Below w.heap.size w w' := by
  have HC : ∀ w2, Below w.heap.size w w2 → Calls Try.prog 17 #[mval m vd vp vl vi] w2 fun e w' => e = .returned (.int .i64 (chkN m)) ∧ Below w2.heap.size w2 w' := fun w2 k => check_any m vd vp vl vi w2 (h.below k)
  unfold putS
  unfold chkN at HC ⊢
  by_cases hm : mayB m = true
  · rw [if_pos hm] at HC ⊢
    rw [if_pos hm]
    obtain ⟨c1, c2, c3, c4, c5, c6⟩ := may_counts hm
    have e : layM m = strOfNums (byW [flip63 m.seed]) ++ (strOfNums (byW [(m.fin : Int)]) ++ (strOfNums (byW (lsW m.nd fun i => [((m.d i : Nat) : Int)])) ++ (strOfNums (byW (lsW m.np fun i => prW (m.pr i) (m.pl i)))
        ++ (strOfNums (byW (lsW m.nl fun i => lpW (m.lp i) (m.wd i) (m.wl i))) ++ strOfNums (byW (lsW m.ni fun i => evW (m.ev i))))))) := by
      simp only [strOfNums_append, ← byW_append]
      rfl
    have l1 : (lsW m.nd fun i => [((m.d i : Nat) : Int)]).length ≤ 1 + m.nd * 1 := lsW_len fun k hk => by simp
    have l2 : (lsW m.np fun i => prW (m.pr i) (m.pl i)).length ≤ 1 + m.np * 200 := lsW_len fun k hk => by
      have := c5 k hk
      have h2 : (prW (m.pr k) (m.pl k)).length ≤ 1 + m.pl k * 4 := lsW_len fun k hk => by simp [insW]
      omega
    have l3 : (lsW m.nl fun i => lpW (m.lp i) (m.wd i) (m.wl i)).length ≤ 1 + m.nl * 200 := lsW_len fun k hk => by
      have := c6 k hk
      have h2 : (wdW (m.wd k) (m.wl k)).length ≤ 1 + m.wl k * 1 := lsW_len fun k hk => by simp
      unfold lpW
      simp only [List.length_cons]
      omega
    have l4 : (lsW m.ni fun i => evW (m.ev i)).length ≤ 1 + m.ni * 3 := lsW_len fun k hk => by simp [evW]
    rw [e]
    refine put_good m.seed m.fin vd vp vl vi _ _ _ _ _ _ ?_ w HC (fun w2 _ => packI_w _ w2) (fun w2 _ => layFloat_any _ w2) (fun w2 k => layF_any _ _ c1 vd w2 (h.d.below k)) (fun w2 k => layP_any _ _ _ c5 c2 vp w2 (h.p.below k)) (fun w2 k => layL_any _ _ _ _ c6 c3 vl w2 (h.l.below k)) (fun w2 k => layE_any _ _ c4 vi w2 (h.i.below k))
    simp only [strOfNums_size, byW_len, List.length_cons, List.length_nil]
    omega
  · rw [if_neg hm] at HC ⊢
    rw [if_neg hm]
    exact put_bad m.seed m.fin vd vp vl vi w HC

end Go.Proofs.Ytemhbcjpgapjkaa
