/- The contract of the program's fetch. -/
import Derived.Test.YtdmlmjmdpmmcgaaPgP4
namespace Go.Proofs.Ytdmlmjmdpmmcgaa
open Go.RowKit Go.Deep
set_option linter.unusedVariables false
set_option linter.unusedSimpArgs false
set_option maxRecDepth 100000

theorem join_four (f : Nat → Nat → Int) : (⟨(Lib.join ([sec (f 0), sec (f 1), sec (f 2), sec (f 3)].map (·.data.toList)) (ByteArray.mk #[]).data.toList).toArray⟩ : ByteArray) = allF f 4 := by
  simp only [List.map_cons, List.map_nil]
  rw [Lib.join_cons]
  apply ByteArray.ext
  apply Array.ext'
  simp only [allF]
  simp [Lib.joinTail]
theorem join_four_len (f : Nat → Nat → Int) : (Lib.join ([sec (f 0), sec (f 1), sec (f 2), sec (f 3)].map (·.data.toList)) (ByteArray.mk #[]).data.toList).length ≤ 140737488355328 := by
  have h := congrArg ByteArray.size (join_four f)
  rw [allF_size] at h
  have h2 : (⟨(Lib.join ([sec (f 0), sec (f 1), sec (f 2), sec (f 3)].map (·.data.toList)) (ByteArray.mk #[]).data.toList).toArray⟩ : ByteArray).size = (Lib.join ([sec (f 0), sec (f 1), sec (f 2), sec (f 3)].map (·.data.toList)) (ByteArray.mk #[]).data.toList).length := by
    show (Lib.join _ _).toArray.size = _
    rw [List.size_toArray]
  omega
variable {base P bS bm cS : Nat} {d : Dk} {u : World}
def fetchRet (d : Dk) (k : Nat) : Ending := .returned (.tuple (if d.down then #[.string ⟨#[]⟩, .int .i64 13] else #[.string (pageS d k), .int .i64 0]))
set_option maxHeartbeats 3200000 in
theorem pfetch_any (h : PDk base P bS bm cS d u) (hn : d.n ≤ 4096) (k : Nat) (hk : (k : Int) < manyP (d.n : Int)) : Calls Try.prog 55 #[.pointer (some ⟨P, 0, none⟩), .int .i64 (k : Int)] u fun r u' => r = fetchRet d k ∧ Below u.heap.size u u' := by
  have hin := many_in hk (by omega)
  have hk1 : (k : Int) ≤ 4096 := by omega
  have HF := Lib.hid (fun w => pfirst_any (k : Int) (by omega) hk1 w)
  have HIN := Lib.hid hin
  clear hin hk
  have Z1 := heap_alloc_new u (.cells #[.string ⟨#[]⟩, .string ⟨#[]⟩, .string ⟨#[]⟩, .string ⟨#[]⟩] 77)
  have B1 := balloc u (.cells #[.string ⟨#[]⟩, .string ⟨#[]⟩, .string ⟨#[]⟩, .string ⟨#[]⟩] 77)
  obtain ⟨D, hD⟩ : ∃ D, D = u.heap.size := ⟨_, rfl⟩
  have HD : Hid (u.heap.size ≤ D) := Lib.hid (by omega)
  rw [← hD] at Z1
  have T1 : Hid (BoxT D (fun i => sec (nowD d (2 + 4 * k + i))) 0 (u.alloc (.cells #[.string ⟨#[]⟩, .string ⟨#[]⟩, .string ⟨#[]⟩, .string ⟨#[]⟩] 77))) := Lib.hid ⟨Z1⟩
  have D1 := Lib.hid (h.below B1)
  have HNP : Hid (D ≠ P ∧ D ≠ bS ∧ D ≠ bm) := Lib.hid (by have := h.lt; omega)
  have B2 := Lib.hid B1
  clear Z1 B1 h
  cases hd : d.down with
  | true =>
    have E : Hid (fetchRet d k = .returned (.tuple #[.string ⟨#[]⟩, .int .i64 13])) := Lib.hid (by unfold fetchRet; rw [hd]; rfl)
    have HR := Lib.hid (fun (w : World) (h : PDk base P bS bm cS d w) (i : Int) => pread_any h hn i)
    unfold readE readS at HR
    rw [hd] at HR
    simp only [if_true] at HR
    clear hd
    go_enter Try.func55, Try.ntmps55
    go_upto_region 2 with fail
    rw [← hD]
    generalize u.alloc (.cells #[.string ⟨#[]⟩, .string ⟨#[]⟩, .string ⟨#[]⟩, .string ⟨#[]⟩] 77) = w1 at *
    clear hD
    go_wp2_with fail
    go_loopw [7, 8, 9, 10] (fun _ _ _ i wr => i = .int .i64 0 ∧ wr = w1) (fun _ _ _ i _ => 4 - (intOf i).toNat)
    case atStart => exact ⟨rfl, rfl⟩
    case round =>
      obtain ⟨rfl, rfl⟩ := hrel
      go_wp2_with fail
      refine (HF.out _).mono ?_
      rintro e w2 ⟨rfl, rfl⟩
      go_wp2_with fail
      refine (HR.out _ D1.out _).mono ?_
      rintro e w3 ⟨rfl, rfl⟩
      go_wp2_with fail
      go_ret2
      exact ⟨by rw [E.out]; rfl, B2.out⟩
  | false =>
    have E : Hid (fetchRet d k = .returned (.tuple #[.string (pageS d k), .int .i64 0])) := Lib.hid (by unfold fetchRet; rw [hd]; rfl)
    have HR := Lib.hid (fun (w : World) (h : PDk base P bS bm cS d w) (i : Int) => pread_any h hn i)
    unfold readE readS at HR
    rw [hd] at HR
    simp only [if_false, Bool.false_eq_true] at HR
    clear hd
    go_enter Try.func55, Try.ntmps55
    go_upto_region 2 with fail
    rw [← hD]
    generalize u.alloc (.cells #[.string ⟨#[]⟩, .string ⟨#[]⟩, .string ⟨#[]⟩, .string ⟨#[]⟩] 77) = w1 at *
    clear hD
    go_wp2_with fail
    go_loopw [7, 8, 9, 10] (fun _ _ _ i wr => ∃ j : Nat, j ≤ 4 ∧ i = .int .i64 j ∧ Hid (BoxT D (fun i => sec (nowD d (2 + 4 * k + i))) j wr) ∧ Hid (PDk base P bS bm cS d wr) ∧ Hid (Below u.heap.size u wr)) (fun _ _ _ i _ => 4 - (intOf i).toNat)
    case atStart => exact ⟨0, Nat.zero_le _, rfl, T1, D1, B2⟩
    case round =>
      obtain ⟨j, hj, rfl, HT, HP, HB⟩ := hrel
      by_cases hlt : j < 4
      · have d1 : decide ((j : Int) < 4) = true := by simp; omega
        have g0 : (0 : Int) ≤ (j : Int) := by omega
        have g1 : (j : Int) < 4 := by omega
        have H5 := HR.out wr HP.out (2 + 4 * (k : Int) + (j : Int))
        rw [if_neg (by have := HIN.out; omega), if_neg (by have := HIN.out; omega), show (2 + 4 * (k : Int) + (j : Int)).toNat = 2 + 4 * k + j by omega] at H5
        have H6 := Lib.hid H5
        clear H5
        have hc := HT.out.cell (i := j) hlt
        have hf := HT.out.frozen j
        have F := Lib.hid (HT.out.put hlt)
        have FP : Hid (PDk base P bS bm cS d (wr.setCell ⟨D, j, none⟩ (.string (sec (nowD d (2 + 4 * k + j)))))) := Lib.hid (HP.out.kept (set_else _ HNP.out.1.symm) (set_else _ HNP.out.2.1.symm) (set_else _ HNP.out.2.2.symm))
        have FB := Lib.hid (HB.out.trans ((Below.refl _ _).setCell (p := ⟨D, j, none⟩) HD.out (.string (sec (nowD d (2 + 4 * k + j))))))
        generalize sec (nowD d (2 + 4 * k + j)) = tx at *
        go_wp2_with fail
        refine (HF.out _).mono ?_
        rintro e w2 ⟨rfl, rfl⟩
        go_wp2_with fail
        refine (H6.out).mono ?_
        rintro e w3 ⟨rfl, rfl⟩
        go_wp2_with fail
        go_roundw
        case rel => exact ⟨j + 1, hlt, by go_num, F, FP, FB⟩
        case measure => simp [intOf]; omega
      · obtain rfl : j = 4 := by omega
        have HJ := Lib.hid (strJoin D 0 4 [sec (nowD d (2 + 4 * k + 0)), sec (nowD d (2 + 4 * k + 1)), sec (nowD d (2 + 4 * k + 2)), sec (nowD d (2 + 4 * k + 3))] ⟨#[]⟩ wr (fun q x hq => by
          rcases q with _ | _ | _ | _ | q
          · simp only [List.getElem?_cons_zero, Option.some.injEq] at hq; subst hq; exact HT.out.cell (i := 0) (by omega)
          · simp only [List.getElem?_cons_zero, List.getElem?_cons_succ, Option.some.injEq] at hq; subst hq; exact HT.out.cell (i := 1) (by omega)
          · simp only [List.getElem?_cons_zero, List.getElem?_cons_succ, Option.some.injEq] at hq; subst hq; exact HT.out.cell (i := 2) (by omega)
          · simp only [List.getElem?_cons_zero, List.getElem?_cons_succ, Option.some.injEq] at hq; subst hq; exact HT.out.cell (i := 3) (by omega)
          · simp at hq) (heap_lt HT.out.b) (by simp) (by simp) (by simp) (join_four_len (fun i => nowD d (2 + 4 * k + i))))
        rw [join_four (fun i => nowD d (2 + 4 * k + i))] at HJ
        change Hid (Calls _ _ #[.slice (some ⟨D, 0, none⟩) 4 4, .string ⟨#[]⟩] _ fun e w' => e = .returned (.string (pageS d k)) ∧ _) at HJ
        have d1 : decide ((4 : Int) < 4) = false := by decide
        go_wp2_with fail
        refine (HJ.out).mono ?_
        rintro e w2 ⟨rfl, hb⟩
        have FB := Lib.hid (bthen HB.out hb)
        clear hb
        go_wp2_with fail
        go_ret2
        exact ⟨by rw [E.out]; rfl, FB.out⟩

end Go.Proofs.Ytdmlmjmdpmmcgaa
