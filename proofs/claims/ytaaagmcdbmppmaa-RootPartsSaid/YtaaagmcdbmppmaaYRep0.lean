/- The contract of strings.Repeat at thirty bytes 0. -/
import Derived.Deep.LoopGhost
import Derived.Deep.DeepCutAuto
import Derived.Test.YtaaagmcdbmppmaaYBuildF
import Derived.Test.YtaaagmcdbmppmaaYZ39
namespace Go.Proofs.Ytaaagmcdbmppmaa
open Go.RowKit
set_option linter.unusedVariables false
set_option linter.unusedSimpArgs false

def zerosB (n : Nat) : List UInt8 := List.replicate n 0
theorem min_three {P : Program} {w : World} (ts : Array TypeId) (t : TypeId) (x y z : Int) :
    (Builtin.min_ ts t #[.int .i64 x, .int .i64 y, .int .i64 z]).run P w = .ok (.int .i64 (if z < (if y < x then y else x) then z else (if y < x then y else x))) w := by
  simp [Builtin.min_, Builtin.min2]
set_option maxHeartbeats 6400000 in
set_option maxRecDepth 1000000 in
theorem repeat30_of (s : ByteArray) (hs : s = ⟨#[0]⟩) (w : World) : Calls Try.prog 37 #[.string s, .int .i64 30] w fun e w' => e = .returned (.string ⟨(zerosB 30).toArray⟩) ∧ Below w.heap.size w w' := by
  have HM : Hid (∀ w, Calls Try.prog 48 #[.int .u64 1, .int .u64 30] w fun e w' => e = .returned (.tuple #[.int .u64 0, .int .u64 30]) ∧ w' = w) := Lib.hid (fun w => bmul1_any 30 (by omega) w)
  have hsz : s.size = 1 := by rw [hs]; rfl
  have hpos : 0 < s.size := by omega
  have k0 : ((s[0].toNat : Nat) : Int) = 0 := by subst hs; rfl
  have HZ : Hid (Lib.strCells s = Lib.byteCells (zerosB 1)) := Lib.hid (by rw [hs, Lib.strCells_eq]; rfl)
  clear hs
  have b0 : Below w.heap.size w (w.alloc (.cells #[.pointer none, .slice none 0 0] 58)) := (Below.refl _ w).alloc (Nat.le_refl _) _
  have HG := Lib.hid (GrowFresh w.heap.size w.heap.size 30 (w.alloc (.cells #[.pointer none, .slice none 0 0] 58)) (Nat.le_refl _) (heap_alloc_new w _) b0.size (by omega))
  have B0 := Lib.hid b0
  clear b0
  go_enter Try.func37, Try.ntmps37
  go_wp2_with fail
  refine (HM.out _).mono ?_
  rintro e w1 ⟨rfl, hw⟩
  rw [hw]
  clear hw w1
  go_wp2_with fail
  refine (HG.out).mono ?_
  rintro e W1 ⟨rfl, h1, b1⟩
  have B1 := Lib.hid (B0.out.trans b1)
  have HW := Lib.hid (writeStringF w.heap.size w.heap.size [] s W1 (Lib.IsBuilderF.of (Or.inr h1)) (by simp; omega) B1.out.size)
  clear h1 b1 HG B0 HM
  go_wp2_with fail
  refine (HW.out).mono ?_
  rintro e W2 ⟨rfl, h2, b2⟩
  have B2 := Lib.hid (B1.out.trans b2)
  have I2 : Hid (Lib.IsBuilderF 58 5 w.heap.size w.heap.size (Lib.byteCells (zerosB 1)) W2) := Lib.hid (Or.inr (by rw [List.nil_append, HZ.out] at h2; exact h2))
  clear h2 b2 HW B1
  go_wp2_with fail
  go_loopg [] 29 (fun g wx => ∃ q : Nat, 1 ≤ q ∧ q + g = 30 ∧ Hid (Lib.IsBuilderF 58 5 w.heap.size w.heap.size (Lib.byteCells (zerosB q)) wx) ∧ Hid (Below w.heap.size w wx))
  case atStart => exact ⟨1, Nat.le_refl _, by omega, I2, B2⟩
  case round =>
    obtain ⟨q, hq1, hqg, hB, hbx⟩ := hrel
    have hlq : (Lib.byteCells (zerosB q)).length = q := by rw [Lib.byteCells_length]; simp [zerosB]
    have HL := Lib.hid (lenF w.heap.size w.heap.size _ wr hB.out)
    rw [hlq] at HL
    have HS := Lib.hid (stringF w.heap.size w.heap.size (zerosB q) wr hB.out hbx.out.size)
    obtain ⟨S, hS⟩ : ∃ S : ByteArray, (⟨(zerosB q).toArray⟩ : ByteArray) = S := ⟨_, rfl⟩
    have hSd : S.data.toList = zerosB q := by rw [← hS]
    have hSz : S.size = q := by rw [Lib.size_eq, hSd]; simp [zerosB]
    rw [hS] at HS
    cases gk with
    | zero =>
      obtain rfl : q = 30 := by omega
      have hfin : Hid (S = ⟨(zerosB 30).toArray⟩) := Lib.hid hS.symm
      clear hS hSd
      go_wp2_with fail
      refine (HL.out).mono ?_
      rintro e w3 ⟨rfl, hw⟩
      rw [hw]
      clear hw w3
      go_wp2_with fail
      refine (HS.out).mono ?_
      rintro e w3 ⟨rfl, _, hb⟩
      have B3 := Lib.hid (hbx.out.trans hb)
      clear hb
      go_wp2_with fail
      go_ret
      exact ⟨by rw [hfin.out]; rfl, B3.out⟩
    | succ g =>
      have hq30 : (q : Int) < 30 := by omega
      have HSD := Lib.hid hSd
      clear hS hSd
      obtain ⟨c, hc⟩ : ∃ c : Nat, c = min (30 - q) q := ⟨_, rfl⟩
      have hc2 : 1 ≤ c ∧ c ≤ q ∧ q + c ≤ 30 := by omega
      have hmin : ∀ (ts : Array TypeId) (t : TypeId) (W : World), (Builtin.min_ ts t #[.int .i64 (30 - (q : Int)), .int .i64 (q : Int), .int .i64 30]).run Try.prog W = .ok (.int .i64 (c : Int)) W := fun ts t W => by
        rw [min_three]
        congr 2
        split <;> split <;> omega
      have HC := Lib.hid hc
      clear hc
      go_wp2_with fail
      refine (HL.out).mono ?_
      rintro e w3 ⟨rfl, hw⟩
      rw [hw]
      clear hw w3
      go_wp2_with fail
      refine (HL.out).mono ?_
      rintro e w3 ⟨rfl, hw⟩
      rw [hw]
      clear hw w3
      go_wp2_with fail
      refine (HL.out).mono ?_
      rintro e w3 ⟨rfl, hw⟩
      rw [hw]
      clear hw w3
      go_wp2_with fail
      refine (HS.out).mono ?_
      rintro e W3 ⟨rfl, h3, hb⟩
      have B3 := Lib.hid (hbx.out.trans hb)
      have HWr := Lib.hid (writeStringF w.heap.size w.heap.size _ (S.extract 0 c) W3 h3 (by
        rw [hlq, ByteArray.size_extract]; omega) B3.out.size)
      clear hb h3 HL HS
      go_wp2_with fail
      refine (HWr.out).mono ?_
      rintro e W4 ⟨rfl, h4, hb⟩
      have B4 := Lib.hid (B3.out.trans hb)
      have I4 : Hid (Lib.IsBuilderF 58 5 w.heap.size w.heap.size (Lib.byteCells (zerosB (q + c))) W4) := Lib.hid (Or.inr (by
        rw [Lib.strCells_eq, ← Lib.byteCells_append, Lib.extract_data, HSD.out] at h4
        have e : zerosB q ++ ((zerosB q).take c).drop 0 = zerosB (q + c) := by
          unfold zerosB
          rw [List.drop_zero, List.take_replicate, List.replicate_append_replicate]
          congr 1; omega
        simp only [List.drop_zero, Nat.sub_zero] at h4 e
        rw [e] at h4
        exact h4))
      clear hb h4 HWr
      go_wp2_with fail
      go_roundg (30 - (q + c))
      case measure => omega
      case rel => exact ⟨q + c, by omega, by omega, I4, B4⟩
theorem repeat30 (w : World) : Calls Try.prog 37 #[.string ⟨#[0]⟩, .int .i64 30] w fun e w' => e = .returned (.string ⟨(zerosB 30).toArray⟩) ∧ Below w.heap.size w w' := repeat30_of _ rfl w

end Go.Proofs.Ytaaagmcdbmppmaa
