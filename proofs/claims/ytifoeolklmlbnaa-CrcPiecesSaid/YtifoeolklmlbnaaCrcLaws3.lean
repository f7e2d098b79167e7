/- The walk of CrcPieces. -/
import Derived.Test.YtifoeolklmlbnaaCrcLaws2
import Derived.Test.YtifoeolklmlbnaaFrameAid
namespace Go.Proofs.Ytifoeolklmlbnaa
open Go.RowKit

/-- the check of more bytes -/
theorem crcN_more (a b : List UInt8) : 4294967295 - regL (4294967295 - crcN a) b = crcN (a ++ b) := by
  have h := regL_lt (r := 4294967295) a (by omega)
  have e : 4294967295 - crcN a = regL 4294967295 a := by
    unfold crcN
    generalize regL 4294967295 a = x at h
    omega
  rw [e]
  unfold crcN
  rw [regL_append]

/-- the strings of a slice, in memory -/
def StrsAt (f : Nat → ByteArray) (n b o : Nat) (w : World) : Prop := ∀ i, i < n → w.cell? ⟨b, o + i, none⟩ = some (.string (f i)) ∧ (f i).size ≤ maxLen

set_option maxHeartbeats 800000 in
set_option maxRecDepth 100000 in
theorem crcPieces_core (f : Nat → ByteArray) (a : Option Addr) (n b o cap : Nat) (ha : 0 < n → a = some ⟨b, o, none⟩) (w : World) (hw : StrsAt f n b o w) :
    Calls Try.prog 4 #[.slice a n cap] w fun e w' => e = .returned (.bool true) ∧ Below w.heap.size w w' := by
  have HW := Lib.hid hw
  have HA := Lib.hid ha
  have H0 : Hid (∀ w, Calls Try.prog 10 #[.string ⟨#[]⟩] w fun e w' => e = .returned (.int .u32 0) ∧ w = w') := fun w => sum_any ⟨#[]⟩ (by decide +kernel) w
  clear hw ha
  go_enter Try.func4, Try.ntmps4
  go_wp2_with fail
  refine (H0.out _).mono ?_
  rintro e w1 ⟨rfl, rfl⟩
  go_wp2_with fail
  go_loop [3, 4, 5] (fun x y i => ∃ (j : Nat) (A : ByteArray), j ≤ n ∧ j ≤ 15 ∧ A.size ≤ 4000 ∧ i = .int .i64 j ∧ y = .string A ∧ x = .int .u32 (crcN A.data.toList)) (fun _ _ i => 15 - (intOf i).toNat)
  case atStart => exact ⟨0, ⟨#[]⟩, by omega, by omega, by decide +kernel, rfl, rfl, rfl⟩
  case round =>
    obtain ⟨j, A, hj, hj15, hA, rfl, rfl, rfl⟩ := hrel
    by_cases hlt : j < n ∧ j < 15 ∧ A.size < 2000
    · obtain ⟨h1, h2, h3⟩ := hlt
      obtain rfl := HA.out (by omega)
      obtain ⟨hc1, hc2⟩ := HW.out j h1
      have HF := Lib.hid (few_any (f j) hc2)
      have hfs := fewB_size (f j)
      have hl := crcN_lt A.data.toList
      have hmore := crcN_more A.data.toList (fewB (f j)).data.toList
      generalize fewB (f j) = t at HF hfs hmore
      have h9 := more_any (crcN A.data.toList) t hl (by unfold maxLen; omega)
      rw [hmore] at h9
      have HM := Lib.hid h9
      have hd : (A ++ t).data.toList = A.data.toList ++ t.data.toList := by simp
      rw [← hd] at HM
      have hsz : (A ++ t).size ≤ 4000 := by simp; omega
      clear hc2 hmore h9 hd
      go_wp2_with fail
      refine (HF.out _).mono ?_
      rintro e w1 ⟨rfl, rfl⟩
      go_wp2_with fail
      refine (HM.out _).mono ?_
      rintro e w1 ⟨rfl, rfl⟩
      go_wp2_with fail
      go_round
      case rel => exact ⟨j + 1, A ++ t, by omega, by omega, hsz, by go_num, rfl, rfl⟩
      case measure => simp [intOf]; omega
    · have HR := Lib.hid (refSum_any A (by omega))
      generalize crcN A.data.toList = q at HR ⊢
      by_cases h1 : j < n
      · by_cases h2 : j < 15
        · have h3 : ¬ A.size < 2000 := fun h => hlt ⟨h1, h2, h⟩
          clear hlt
          go_wp2_with fail
          refine (awake3_any _).mono ?_
          rintro e w1 ⟨rfl, hb1⟩
          go_wp2_with fail
          refine (HR.out _).mono ?_
          rintro e w2 ⟨rfl, rfl⟩
          go_wp2_with fail
          go_ret
          exact ⟨rfl, hb1⟩
        · clear hlt
          go_wp2_with fail
          refine (awake3_any _).mono ?_
          rintro e w1 ⟨rfl, hb1⟩
          go_wp2_with fail
          refine (HR.out _).mono ?_
          rintro e w2 ⟨rfl, rfl⟩
          go_wp2_with fail
          go_ret
          exact ⟨rfl, hb1⟩
      · clear hlt
        go_wp2_with fail
        refine (awake3_any _).mono ?_
        rintro e w1 ⟨rfl, hb1⟩
        go_wp2_with fail
        refine (HR.out _).mono ?_
        rintro e w2 ⟨rfl, rfl⟩
        go_wp2_with fail
        go_ret
        exact ⟨rfl, hb1⟩

theorem addr_plain3 {w : World} {x : Addr} {u : Value} (h : w.cell? (x.add 0) = some u) : x = ⟨x.block, x.off, none⟩ := by
  obtain ⟨b, off, spot⟩ := x
  have hspot : spot = none := by simpa [Addr.add] using World.cell?_spot h
  subst hspot
  rfl

theorem crcPieces_walk (a : Option Addr) (len cap : Nat) (w : World)
    (hr : CellRows 1 (fun cs : List Value => ∃ x0 : ByteArray, cs = [.string x0] ∧ x0.size ≤ maxLen) w a len cap) :
    Calls Try.prog 4 #[.slice a len cap] w fun e w' => e = .returned (.bool true) ∧ Below w.heap.size w w' := by
  by_cases hz : len = 0
  · subst hz
    exact crcPieces_core (fun _ => ⟨#[]⟩) a 0 0 0 cap (fun h => absurd h (by omega)) w (fun i hi => absurd hi (by omega))
  rcases hr with ⟨_, h0, _⟩ | ⟨x, rfl, hl, hm, hc⟩
  · exact absurd h0 hz
  have hex : ∀ i, ∃ s : ByteArray, i < len → w.cell? (x.add i) = some (.string s) ∧ s.size ≤ maxLen := by
    intro i
    by_cases hi : i < len
    · obtain ⟨cs, _, ⟨x0, rfl, hs⟩, hj⟩ := hc i hi
      refine ⟨x0, fun _ => ⟨?_, hs⟩⟩
      have := hj 0 (by omega)
      simpa using this
    · exact ⟨⟨#[]⟩, fun h => absurd h hi⟩
  have hx := addr_plain3 ((Classical.choose_spec (hex 0)) (by omega)).1
  generalize x.block = b at hx
  generalize x.off = o at hx
  subst hx
  refine crcPieces_core (fun i => Classical.choose (hex i)) _ len b o cap (fun _ => rfl) w (fun i hi => ?_)
  have h := Classical.choose_spec (hex i) hi
  exact ⟨(congrArg w.cell? (add_at b o i)).symm.trans h.1, h.2⟩

end Go.Proofs.Ytifoeolklmlbnaa
