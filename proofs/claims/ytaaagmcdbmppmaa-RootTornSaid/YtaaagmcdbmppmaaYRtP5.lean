/- The program's Put. -/
import Derived.Test.YtaaagmcdbmppmaaYRtP4
import Derived.Test.YtaaagmcdbmppmaaYCrcCut
namespace Go.Proofs.Ytaaagmcdbmppmaa
open Go.RowKit Go.Deep
set_option linter.unusedVariables false
set_option linter.unusedSimpArgs false
set_option maxRecDepth 100000

theorem rtO_no {r : Rt} (h : ¬ RightR r) : rtO r = ⟨#[]⟩ ∧ rtE r = 2 := by unfold rtO rtE; rw [if_neg h, if_neg h]; exact ⟨rfl, rfl⟩
theorem rtO_yes {r : Rt} (h : RightR r) : rtO r = bytesR r ∧ rtE r = 0 := by unfold rtO rtE; rw [if_pos h, if_pos h]; exact ⟨rfl, rfl⟩
theorem layP_laid (s : ByteArray) : (⟨(laidL s.data.toList).toArray⟩ : ByteArray) = layP s := rfl
set_option maxHeartbeats 6400000 in
theorem pputR_any (ep lg : Int) (l : List Int) (v : Value) (u : World) (he : big64 ep) (hg : big64 lg) (hl : l.length ≤ 40) (hv : LstI l v u) :
    Calls Try.prog 7 #[rtV ep lg v] u fun r u' => r = .returned (.tuple #[.string (rtO ⟨ep, lg, l⟩), .int .i64 (rtE ⟨ep, lg, l⟩)]) ∧ Below u.heap.size u u' := by
  have X1 := Lib.hid (heap_alloc_new u (.cells #[.int .i64 ep, .int .i64 lg, v] 29))
  have B1 := Lib.hid (balloc u (.cells #[.int .i64 ep, .int .i64 lg, v] 29))
  have V1 := Lib.hid (hv.below (balloc u (.cells #[.int .i64 ep, .int .i64 lg, v] 29)))
  have hoc : v.oneCell' = true := by obtain ⟨ao, cap, rfl, _⟩ := hv; rfl
  obtain ⟨C, hC⟩ : ∃ C, C = u.heap.size := ⟨_, rfl⟩
  rw [← hC] at X1
  have HE := Lib.hid (pisEpoch_any ep)
  have HM := Lib.hid (fun w h => pmayR_any ep lg l v w hg (by omega) h)
  have HI := Lib.hid (packI ep)
  have HBO := Lib.hid (fun w hm h => pbodyOf_any ep lg l v w hm h)
  have hbz : (bodyR ⟨ep, lg, l⟩).size = 44 := by unfold bodyR; rw [padN_size]
  have HL := Lib.hid (fun w => lay_any (bodyR ⟨ep, lg, l⟩) (by rw [hbz]; omega) w)
  rw [layP_laid] at HL
  have hlz : (layP (bodyR ⟨ep, lg, l⟩)).size = 48 := by rw [layP_size, hbz]
  have R := Lib.hid (rightR_iff ⟨ep, lg, l⟩)
  have hez : (strOfNums (beI 8 (flip63 ep))).size = 8 := by rw [strOfNums_size, beI_len]
  have EO : Hid (bytesR ⟨ep, lg, l⟩ = strOfNums (beI 8 (flip63 ep)) ++ layP (bodyR ⟨ep, lg, l⟩) ++ strOfNums (beI 8 (flip63 ep))) := Lib.hid rfl
  unfold rtV at *
  clear he hg hv hbz
  go_enter Try.func7, Try.ntmps7
  go_upto_region 1 with fail
  rw [← hC]
  generalize u.alloc (.cells #[.int .i64 ep, .int .i64 lg, v] 29) = w1 at *
  clear hC
  obtain ⟨x0, x1, x2⟩ := three_of X1.out
  cases hE : epOk ep
  · obtain ⟨E1, E2⟩ := rtO_no (r := ⟨ep, lg, l⟩) fun h => by
      have : 1 ≤ ep ∧ ep ≤ 1099511627776 := (R.out.1 h).1
      simp [epOk] at hE
      omega
    have E3 := Lib.hid (And.intro E1 E2)
    rw [hE] at HE
    clear hE E1 E2
    go_wp2_with fail
    refine (HE.out _).mono ?_
    rintro e w9 ⟨rfl, hw⟩
    rw [hw]
    clear hw w9
    go_wp2_with fail
    go_ret2
    exact ⟨by rw [E3.out.1, E3.out.2]; rfl, B1.out⟩
  have HEE : Hid (1 ≤ ep ∧ ep ≤ 1099511627776) := Lib.hid (by simpa [epOk] using hE)
  rw [hE] at HE
  clear hE
  by_cases hm : MayR lg l
  · obtain ⟨E1, E2⟩ := rtO_yes (r := ⟨ep, lg, l⟩) (R.out.2 ⟨HEE.out, hm⟩)
    have E3 := Lib.hid (And.intro E1 E2)
    have HM2 : Hid (∀ w, LstI l v w → Calls Try.prog 21 #[.agg #[.int .i64 ep, .int .i64 lg, v]] w fun e w' => e = .returned (.bool true) ∧ Below w.heap.size w w') := Lib.hid (fun w h => by
      have := HM.out w h
      rw [decide_eq_true hm] at this
      exact this)
    have HB2 := Lib.hid (fun w h => HBO.out w hm h)
    clear hm E1 E2 HM HBO
    go_wp2_with fail
    refine (HE.out _).mono ?_
    rintro e w9 ⟨rfl, hw⟩
    rw [hw]
    clear hw w9
    go_wp2_with fail
    refine (HM2.out _ V1.out).mono ?_
    rintro e w2 ⟨rfl, hb⟩
    have B2 := Lib.hid (bthen B1.out hb)
    have X2 := Lib.hid (heap_stays13 X1.out hb)
    have V2 := Lib.hid (V1.out.below hb)
    clear hb B1 X1 V1 x0 x1 x2
    obtain ⟨x0, x1, x2⟩ := three_of X2.out
    go_wp2_with fail
    refine (HI.out _).mono ?_
    rintro e w3 ⟨rfl, hb⟩
    have B3 := Lib.hid (bthen B2.out hb)
    have X3 := Lib.hid (heap_stays13 X2.out hb)
    have V3 := Lib.hid (V2.out.below hb)
    clear hb B2 X2 V2 x0 x1 x2
    obtain ⟨x0, x1, x2⟩ := three_of X3.out
    generalize strOfNums (beI 8 (flip63 ep)) = se at *
    go_wp2_with fail
    refine (HB2.out _ V3.out).mono ?_
    rintro e w4 ⟨rfl, hb⟩
    have B4 := Lib.hid (bthen B3.out hb)
    clear hb B3 X3 V3 x0 x1 x2
    generalize bodyR ⟨ep, lg, l⟩ = sb at *
    go_wp2_with fail
    refine (HL.out _).mono ?_
    rintro e w5 ⟨rfl, hb⟩
    have B5 := Lib.hid (bthen B4.out hb)
    clear hb B4
    generalize layP sb = sl at *
    have z1 : ¬ 9223372036854775807 < se.size + sl.size := by omega
    have z2 : ¬ 9223372036854775807 < (se ++ sl).size + se.size := by rw [ByteArray.size_append]; omega
    go_wp2_with fail
    go_ret2
    exact ⟨by rw [E3.out.1, E3.out.2, EO.out]; rfl, B5.out⟩
  · obtain ⟨E1, E2⟩ := rtO_no (r := ⟨ep, lg, l⟩) fun h => hm (R.out.1 h).2
    have E3 := Lib.hid (And.intro E1 E2)
    have HM2 : Hid (∀ w, LstI l v w → Calls Try.prog 21 #[.agg #[.int .i64 ep, .int .i64 lg, v]] w fun e w' => e = .returned (.bool false) ∧ Below w.heap.size w w') := Lib.hid (fun w h => by
      have := HM.out w h
      rw [decide_eq_false hm] at this
      exact this)
    clear hm E1 E2 HM HBO
    go_wp2_with fail
    refine (HE.out _).mono ?_
    rintro e w9 ⟨rfl, hw⟩
    rw [hw]
    clear hw w9
    go_wp2_with fail
    refine (HM2.out _ V1.out).mono ?_
    rintro e w2 ⟨rfl, hb⟩
    have B2 := Lib.hid (bthen B1.out hb)
    clear hb x0 x1 x2
    go_wp2_with fail
    go_ret2
    exact ⟨by rw [E3.out.1, E3.out.2]; rfl, B2.out⟩

end Go.Proofs.Ytaaagmcdbmppmaa
