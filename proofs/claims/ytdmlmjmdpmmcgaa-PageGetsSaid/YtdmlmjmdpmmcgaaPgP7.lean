/- The contract of the program's Read. -/
import Derived.Test.YtdmlmjmdpmmcgaaPgP5
import Derived.Test.YtdmlmjmdpmmcgaaPgP3
import Derived.Test.YtdmlmjmdpmmcgaaPgCells
namespace Go.Proofs.Ytdmlmjmdpmmcgaa
open Go.RowKit Go.Deep
set_option linter.unusedVariables false
set_option linter.unusedSimpArgs false
set_option maxRecDepth 100000

variable {base P bS bm cS : Nat} {d : Dk} {u : World}
set_option maxHeartbeats 3200000 in
theorem ppread_any (h : PDk base P bS bm cS d u) (hn : d.n ≤ 4096) (id : Int) : Calls Try.prog 28 #[.pointer (some ⟨P, 0, none⟩), .int .i64 id] u fun r u' => r = readRet d id ∧ Below u.heap.size u u' := by
  have X1 := Lib.hid (heap_alloc_new u (.cells #[.int .i64 0, .int .i64 0, .int .i64 0, .string ⟨#[]⟩] 23))
  have B1 := Lib.hid (balloc u (.cells #[.int .i64 0, .int .i64 0, .int .i64 0, .string ⟨#[]⟩] 23))
  have D1 := Lib.hid (h.below B1.out)
  obtain ⟨C, hC⟩ : ∃ C, C = u.heap.size := ⟨_, rfl⟩
  have HC : Hid (u.heap.size ≤ C) := Lib.hid (by omega)
  rw [← hC] at X1
  clear h
  have HH := Lib.hid (phas_any D1.out hn id)
  have EP : Hid (readPE d id = if id < 0 ∨ manyP d.n ≤ id then 3 else if d.down then 13 else if getE (pageS d id.toNat) = 0 then (if (getP (pageS d id.toNat)).id = id then 0 else 14) else getE (pageS d id.toNat)) := Lib.hid rfl
  cases hb : hasB d id with
  | false =>
    rw [hb] at HH
    have hq := hasB_false hb
    rw [if_pos hq] at EP
    have E := Lib.hid (readRet_bad EP.out (by decide))
    clear hb hq EP
    go_enter Try.func28, Try.ntmps28
    go_upto_region 1 with fail
    rw [← hC]
    generalize u.alloc (.cells #[.int .i64 0, .int .i64 0, .int .i64 0, .string ⟨#[]⟩] 23) = w1 at *
    clear hC
    go_wp2_with fail
    refine (HH.out).mono ?_
    rintro e w2 ⟨rfl, rfl⟩
    obtain ⟨x0, x1, x2, x3⟩ := four_cells X1.out
    have xf : ∀ q, w2.frozen? ⟨C, q, none⟩ = false := fun q => Lib.frozen_of_heap X1.out q
    go_wp2_with fail
    change bodyPost _ _ _ _ _ (World.setCells w2 C 0 [.int .i64 0, .int .i64 0, .int .i64 0, .string ⟨#[]⟩])
    obtain ⟨t0, t1, t2, t3⟩ := four_cells (put_four X1.out (.int .i64 0) (.int .i64 0) (.int .i64 0) (.string ⟨#[]⟩))
    have LZ := Lib.hid (B1.out.trans (put_below HC.out [.int .i64 0, .int .i64 0, .int .i64 0, .string ⟨#[]⟩] 0 w2))
    generalize World.setCells w2 C 0 [.int .i64 0, .int .i64 0, .int .i64 0, .string ⟨#[]⟩] = w9 at *
    exact bodyPost_ret (v := .tuple #[.agg #[.int .i64 0, .int .i64 0, .int .i64 0, .string ⟨#[]⟩], .int .i64 3]) (by simp [results, Try.results28, go_sem, t0, t1, t2, t3]) rfl ⟨by rw [E.out], LZ.out⟩
  | true =>
    rw [hb] at HH
    have hq := hasB_true hb
    rw [if_neg (by omega)] at EP
    obtain ⟨k, rfl⟩ : ∃ k : Nat, id = (k : Int) := ⟨id.toNat, by omega⟩
    have HF := Lib.hid (pfetch_any D1.out hn k hq.2)
    rw [Int.toNat_natCast] at EP
    unfold fetchRet at HF
    clear hb hq
    cases hd : d.down with
    | true =>
      rw [hd] at HF EP
      rw [if_pos rfl] at EP
      simp only [if_true] at HF
      have E := Lib.hid (readRet_bad EP.out (by decide))
      clear hd EP
      go_enter Try.func28, Try.ntmps28
      go_upto_region 1 with fail
      rw [← hC]
      generalize u.alloc (.cells #[.int .i64 0, .int .i64 0, .int .i64 0, .string ⟨#[]⟩] 23) = w1 at *
      clear hC
      go_wp2_with fail
      refine (HH.out).mono ?_
      rintro e w2 ⟨rfl, rfl⟩
      go_wp2_with fail
      refine (HF.out).mono ?_
      rintro e w3 ⟨rfl, hb⟩
      have X3 := Lib.hid (heap_stays X1.out hb)
      have B3 := Lib.hid (bthen B1.out hb)
      clear hb
      obtain ⟨x0, x1, x2, x3⟩ := four_cells X3.out
      have xf : ∀ q, w3.frozen? ⟨C, q, none⟩ = false := fun q => Lib.frozen_of_heap X3.out q
      go_wp2_with fail
      change bodyPost _ _ _ _ _ (World.setCells w3 C 0 [.int .i64 0, .int .i64 0, .int .i64 0, .string ⟨#[]⟩])
      obtain ⟨t0, t1, t2, t3⟩ := four_cells (put_four X3.out (.int .i64 0) (.int .i64 0) (.int .i64 0) (.string ⟨#[]⟩))
      have LZ := Lib.hid (B3.out.trans (put_below HC.out [.int .i64 0, .int .i64 0, .int .i64 0, .string ⟨#[]⟩] 0 w3))
      generalize World.setCells w3 C 0 [.int .i64 0, .int .i64 0, .int .i64 0, .string ⟨#[]⟩] = w9 at *
      exact bodyPost_ret (v := .tuple #[.agg #[.int .i64 0, .int .i64 0, .int .i64 0, .string ⟨#[]⟩], .int .i64 13]) (by simp [results, Try.results28, go_sem, t0, t1, t2, t3]) rfl ⟨by rw [E.out], LZ.out⟩
    | false =>
      rw [hd] at HF EP
      rw [if_neg (by decide)] at EP
      simp only [if_false, Bool.false_eq_true] at HF
      have HG := Lib.hid (fun w => pget_any (pageS d k) (by rw [pageS_size]; omega) w)
      have EO := Lib.hid (fun h : readPE d (k : Int) = 0 => readRet_ok (d := d) (id := (k : Int)) h)
      rw [Int.toNat_natCast] at EO
      clear hd
      unfold getRet at HG
      generalize pageS d k = s at *
      obtain ⟨g, hg⟩ : ∃ g, g = getP s := ⟨_, rfl⟩
      rw [← hg] at HG EO EP
      clear hg
      obtain ⟨n1, n2, n3, pb⟩ := g
      unfold pgV at HG EO
      dsimp only at HG EO EP
      obtain ⟨ge, hge⟩ : ∃ e, e = getE s := ⟨_, rfl⟩
      rw [← hge] at HG EP
      clear hge
      go_enter Try.func28, Try.ntmps28
      go_upto_region 1 with fail
      rw [← hC]
      generalize u.alloc (.cells #[.int .i64 0, .int .i64 0, .int .i64 0, .string ⟨#[]⟩] 23) = w1 at *
      clear hC
      go_wp2_with fail
      refine (HH.out).mono ?_
      rintro e w2 ⟨rfl, rfl⟩
      go_wp2_with fail
      refine (HF.out).mono ?_
      rintro e w3 ⟨rfl, hb⟩
      have X3 := Lib.hid (heap_stays X1.out hb)
      have B3 := Lib.hid (bthen B1.out hb)
      clear hb
      go_wp2_with fail
      refine (HG.out _).mono ?_
      rintro e w4 ⟨rfl, hb⟩
      have X4 := Lib.hid (heap_stays X3.out hb)
      have B4 := Lib.hid (bthen B3.out hb)
      clear hb
      have Y5 := Lib.hid (heap_alloc_new w4 (.cells #[.int .i64 n1, .int .i64 n2, .int .i64 n3, .string pb] 23))
      have X5 := Lib.hid (heap_stays X4.out (balloc w4 (.cells #[.int .i64 n1, .int .i64 n2, .int .i64 n3, .string pb] 23)))
      have B5 := Lib.hid (bthen B4.out (balloc w4 (.cells #[.int .i64 n1, .int .i64 n2, .int .i64 n3, .string pb] 23)))
      obtain ⟨D, hD⟩ : ∃ D, D = w4.heap.size := ⟨_, rfl⟩
      rw [← hD] at Y5
      go_upto_region 9 with fail
      rw [← hD]
      generalize w4.alloc (.cells #[.int .i64 n1, .int .i64 n2, .int .i64 n3, .string pb] 23) = w5 at *
      clear hD
      obtain ⟨y0, y1, y2, y3⟩ := four_cells Y5.out
      obtain ⟨x0, x1, x2, x3⟩ := four_cells X5.out
      have xf : ∀ q, w5.frozen? ⟨C, q, none⟩ = false := fun q => Lib.frozen_of_heap X5.out q
      by_cases hz : ge = 0
      · rw [if_pos hz] at EP
        subst hz
        by_cases hi : n1 = (k : Int)
        · rw [if_pos hi] at EP
          have E := Lib.hid (EO.out EP.out)
          have d2 : (n1 != (k : Int)) = false := by simp [hi]
          clear EO EP hi
          go_wp2_with fail
          change bodyPost _ _ _ _ _ (World.setCells w5 C 0 [.int .i64 n1, .int .i64 n2, .int .i64 n3, .string pb])
          obtain ⟨t0, t1, t2, t3⟩ := four_cells (put_four X5.out (.int .i64 n1) (.int .i64 n2) (.int .i64 n3) (.string pb))
          have LZ := Lib.hid (B5.out.trans (put_below HC.out [.int .i64 n1, .int .i64 n2, .int .i64 n3, .string pb] 0 w5))
          generalize World.setCells w5 C 0 [.int .i64 n1, .int .i64 n2, .int .i64 n3, .string pb] = w9 at *
          exact bodyPost_ret (v := .tuple #[.agg #[.int .i64 n1, .int .i64 n2, .int .i64 n3, .string pb], .int .i64 0]) (by simp [results, Try.results28, go_sem, t0, t1, t2, t3]) rfl ⟨by rw [E.out], LZ.out⟩
        · rw [if_neg hi] at EP
          have E := Lib.hid (readRet_bad EP.out (by decide))
          have d2 : (n1 != (k : Int)) = true := by simp [hi]
          clear EO EP hi
          go_wp2_with fail
          change bodyPost _ _ _ _ _ (World.setCells w5 C 0 [.int .i64 0, .int .i64 0, .int .i64 0, .string ⟨#[]⟩])
          obtain ⟨t0, t1, t2, t3⟩ := four_cells (put_four X5.out (.int .i64 0) (.int .i64 0) (.int .i64 0) (.string ⟨#[]⟩))
          have LZ := Lib.hid (B5.out.trans (put_below HC.out [.int .i64 0, .int .i64 0, .int .i64 0, .string ⟨#[]⟩] 0 w5))
          generalize World.setCells w5 C 0 [.int .i64 0, .int .i64 0, .int .i64 0, .string ⟨#[]⟩] = w9 at *
          exact bodyPost_ret (v := .tuple #[.agg #[.int .i64 0, .int .i64 0, .int .i64 0, .string ⟨#[]⟩], .int .i64 14]) (by simp [results, Try.results28, go_sem, t0, t1, t2, t3]) rfl ⟨by rw [E.out], LZ.out⟩
      · rw [if_neg hz] at EP
        have E := Lib.hid (readRet_bad EP.out hz)
        have d2 : (ge != 0) = true := by simp [hz]
        clear EO EP hz
        go_wp2_with fail
        change bodyPost _ _ _ _ _ (World.setCells w5 C 0 [.int .i64 0, .int .i64 0, .int .i64 0, .string ⟨#[]⟩])
        obtain ⟨t0, t1, t2, t3⟩ := four_cells (put_four X5.out (.int .i64 0) (.int .i64 0) (.int .i64 0) (.string ⟨#[]⟩))
        have LZ := Lib.hid (B5.out.trans (put_below HC.out [.int .i64 0, .int .i64 0, .int .i64 0, .string ⟨#[]⟩] 0 w5))
        generalize World.setCells w5 C 0 [.int .i64 0, .int .i64 0, .int .i64 0, .string ⟨#[]⟩] = w9 at *
        exact bodyPost_ret (v := .tuple #[.agg #[.int .i64 0, .int .i64 0, .int .i64 0, .string ⟨#[]⟩], .int .i64 ge]) (by simp [results, Try.results28, go_sem, t0, t1, t2, t3]) rfl ⟨by rw [E.out], LZ.out⟩

end Go.Proofs.Ytdmlmjmdpmmcgaa
