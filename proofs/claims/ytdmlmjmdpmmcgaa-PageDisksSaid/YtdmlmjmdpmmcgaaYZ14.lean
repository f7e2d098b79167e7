/- The contract of the program's Read. The acts of the law PageDisks. What must come of pages at any rate: awake. -/
import Derived.Test.YtdmlmjmdpmmcgaaYZ13
import Derived.Test.YtdmlmjmdpmmcgaaYZ12
import Derived.Test.YtdmlmjmdpmmcgaaYZ7
import Derived.Test.YtdmlmjmdpmmcgaaYZ0
import Derived.Test.YtdmlmjmdpmmcgaaYZ10
import Derived.Test.YtdmlmjmdpmmcgaaYZ4
namespace Go.Proofs.Ytdmlmjmdpmmcgaa
open Go.RowKit Go.Deep
set_option linter.unusedVariables false
set_option linter.unusedSimpArgs false
set_option maxRecDepth 100000

variable {base P bS bm cS : Nat} {d : Dk} {u : World}
set_option maxHeartbeats 3200000 in
theorem ppread_any (h : PDk base P bS bm cS d u) (hn : d.n ≤ 4096) (id : Int) : Calls Try.prog 28 #[.pointer (some ⟨P, 0, none⟩), .int .i64 id] u fun r u' => r = readRet d id ∧ Below u.heap.size u u' := by
  have X1 := Lib.hid (heap_alloc_new u (.cells #[.int .i64 0, .int .i64 0, .int .i64 0, .string ⟨#[]⟩] 23))
  have B1 := Lib.hid (balloc u (.cells #[.int .i64 0, .int .i64 0, .int .i64 0, .string ⟨#[]⟩] 23))
  have D1 := Lib.hid (h.below B1.out)
  obtain ⟨C, hC⟩ : ∃ C, C = u.heap.size := ⟨_, rfl⟩
  have HC : Hid (u.heap.size ≤ C) := Lib.hid (by omega)
  rw [← hC] at X1
  clear h
  have HH := Lib.hid (phas_any D1.out hn id)
  have EP : Hid (readPE d id = if id < 0 ∨ manyP d.n ≤ id then 3 else if d.down then 13 else if getE (pageS d id.toNat) = 0 then (if (getP (pageS d id.toNat)).id = id then 0 else 14) else getE (pageS d id.toNat)) := Lib.hid rfl
  cases hb : hasB d id with
  | false =>
    rw [hb] at HH
    have hq := hasB_false hb
    rw [if_pos hq] at EP
    have E := Lib.hid (readRet_bad EP.out (by decide))
    clear hb hq EP
    go_enter Try.func28, Try.ntmps28
    go_upto_region 1 with fail
    rw [← hC]
    generalize u.alloc (.cells #[.int .i64 0, .int .i64 0, .int .i64 0, .string ⟨#[]⟩] 23) = w1 at *
    clear hC
    go_wp2_with fail
    refine (HH.out).mono ?_
    rintro e w2 ⟨rfl, rfl⟩
    obtain ⟨x0, x1, x2, x3⟩ := four_cells X1.out
    have xf : ∀ q, w2.frozen? ⟨C, q, none⟩ = false := fun q => Lib.frozen_of_heap X1.out q
    go_wp2_with fail
    change bodyPost _ _ _ _ _ (World.setCells w2 C 0 [.int .i64 0, .int .i64 0, .int .i64 0, .string ⟨#[]⟩])
    obtain ⟨t0, t1, t2, t3⟩ := four_cells (put_four X1.out (.int .i64 0) (.int .i64 0) (.int .i64 0) (.string ⟨#[]⟩))
    have LZ := Lib.hid (B1.out.trans (put_below HC.out [.int .i64 0, .int .i64 0, .int .i64 0, .string ⟨#[]⟩] 0 w2))
    generalize World.setCells w2 C 0 [.int .i64 0, .int .i64 0, .int .i64 0, .string ⟨#[]⟩] = w9 at *
    exact bodyPost_ret (v := .tuple #[.agg #[.int .i64 0, .int .i64 0, .int .i64 0, .string ⟨#[]⟩], .int .i64 3]) (by simp [results, Try.results28, go_sem, t0, t1, t2, t3]) rfl ⟨by rw [E.out], LZ.out⟩
  | true =>
    rw [hb] at HH
    have hq := hasB_true hb
    rw [if_neg (by omega)] at EP
    obtain ⟨k, rfl⟩ : ∃ k : Nat, id = (k : Int) := ⟨id.toNat, by omega⟩
    have HF := Lib.hid (pfetch_any D1.out hn k hq.2)
    rw [Int.toNat_natCast] at EP
    unfold fetchRet at HF
    clear hb hq
    cases hd : d.down with
    | true =>
      rw [hd] at HF EP
      rw [if_pos rfl] at EP
      simp only [if_true] at HF
      have E := Lib.hid (readRet_bad EP.out (by decide))
      clear hd EP
      go_enter Try.func28, Try.ntmps28
      go_upto_region 1 with fail
      rw [← hC]
      generalize u.alloc (.cells #[.int .i64 0, .int .i64 0, .int .i64 0, .string ⟨#[]⟩] 23) = w1 at *
      clear hC
      go_wp2_with fail
      refine (HH.out).mono ?_
      rintro e w2 ⟨rfl, rfl⟩
      go_wp2_with fail
      refine (HF.out).mono ?_
      rintro e w3 ⟨rfl, hb⟩
      have X3 := Lib.hid (heap_stays X1.out hb)
      have B3 := Lib.hid (bthen B1.out hb)
      clear hb
      obtain ⟨x0, x1, x2, x3⟩ := four_cells X3.out
      have xf : ∀ q, w3.frozen? ⟨C, q, none⟩ = false := fun q => Lib.frozen_of_heap X3.out q
      go_wp2_with fail
      change bodyPost _ _ _ _ _ (World.setCells w3 C 0 [.int .i64 0, .int .i64 0, .int .i64 0, .string ⟨#[]⟩])
      obtain ⟨t0, t1, t2, t3⟩ := four_cells (put_four X3.out (.int .i64 0) (.int .i64 0) (.int .i64 0) (.string ⟨#[]⟩))
      have LZ := Lib.hid (B3.out.trans (put_below HC.out [.int .i64 0, .int .i64 0, .int .i64 0, .string ⟨#[]⟩] 0 w3))
      generalize World.setCells w3 C 0 [.int .i64 0, .int .i64 0, .int .i64 0, .string ⟨#[]⟩] = w9 at *
      exact bodyPost_ret (v := .tuple #[.agg #[.int .i64 0, .int .i64 0, .int .i64 0, .string ⟨#[]⟩], .int .i64 13]) (by simp [results, Try.results28, go_sem, t0, t1, t2, t3]) rfl ⟨by rw [E.out], LZ.out⟩
    | false =>
      rw [hd] at HF EP
      rw [if_neg (by decide)] at EP
      simp only [if_false, Bool.false_eq_true] at HF
      have HG := Lib.hid (fun w => pget_any (pageS d k) (by rw [pageS_size]; omega) w)
      have EO := Lib.hid (fun h : readPE d (k : Int) = 0 => readRet_ok (d := d) (id := (k : Int)) h)
      rw [Int.toNat_natCast] at EO
      clear hd
      unfold getRet at HG
      generalize pageS d k = s at *
      obtain ⟨g, hg⟩ : ∃ g, g = getP s := ⟨_, rfl⟩
      rw [← hg] at HG EO EP
      clear hg
      obtain ⟨n1, n2, n3, pb⟩ := g
      unfold pgV at HG EO
      dsimp only at HG EO EP
      obtain ⟨ge, hge⟩ : ∃ e, e = getE s := ⟨_, rfl⟩
      rw [← hge] at HG EP
      clear hge
      go_enter Try.func28, Try.ntmps28
      go_upto_region 1 with fail
      rw [← hC]
      generalize u.alloc (.cells #[.int .i64 0, .int .i64 0, .int .i64 0, .string ⟨#[]⟩] 23) = w1 at *
      clear hC
      go_wp2_with fail
      refine (HH.out).mono ?_
      rintro e w2 ⟨rfl, rfl⟩
      go_wp2_with fail
      refine (HF.out).mono ?_
      rintro e w3 ⟨rfl, hb⟩
      have X3 := Lib.hid (heap_stays X1.out hb)
      have B3 := Lib.hid (bthen B1.out hb)
      clear hb
      go_wp2_with fail
      refine (HG.out _).mono ?_
      rintro e w4 ⟨rfl, hb⟩
      have X4 := Lib.hid (heap_stays X3.out hb)
      have B4 := Lib.hid (bthen B3.out hb)
      clear hb
      have Y5 := Lib.hid (heap_alloc_new w4 (.cells #[.int .i64 n1, .int .i64 n2, .int .i64 n3, .string pb] 23))
      have X5 := Lib.hid (heap_stays X4.out (balloc w4 (.cells #[.int .i64 n1, .int .i64 n2, .int .i64 n3, .string pb] 23)))
      have B5 := Lib.hid (bthen B4.out (balloc w4 (.cells #[.int .i64 n1, .int .i64 n2, .int .i64 n3, .string pb] 23)))
      obtain ⟨D, hD⟩ : ∃ D, D = w4.heap.size := ⟨_, rfl⟩
      rw [← hD] at Y5
      go_upto_region 9 with fail
      rw [← hD]
      generalize w4.alloc (.cells #[.int .i64 n1, .int .i64 n2, .int .i64 n3, .string pb] 23) = w5 at *
      clear hD
      obtain ⟨y0, y1, y2, y3⟩ := four_cells Y5.out
      obtain ⟨x0, x1, x2, x3⟩ := four_cells X5.out
      have xf : ∀ q, w5.frozen? ⟨C, q, none⟩ = false := fun q => Lib.frozen_of_heap X5.out q
      by_cases hz : ge = 0
      · rw [if_pos hz] at EP
        subst hz
        by_cases hi : n1 = (k : Int)
        · rw [if_pos hi] at EP
          have E := Lib.hid (EO.out EP.out)
          have d2 : (n1 != (k : Int)) = false := by simp [hi]
          clear EO EP hi
          go_wp2_with fail
          change bodyPost _ _ _ _ _ (World.setCells w5 C 0 [.int .i64 n1, .int .i64 n2, .int .i64 n3, .string pb])
          obtain ⟨t0, t1, t2, t3⟩ := four_cells (put_four X5.out (.int .i64 n1) (.int .i64 n2) (.int .i64 n3) (.string pb))
          have LZ := Lib.hid (B5.out.trans (put_below HC.out [.int .i64 n1, .int .i64 n2, .int .i64 n3, .string pb] 0 w5))
          generalize World.setCells w5 C 0 [.int .i64 n1, .int .i64 n2, .int .i64 n3, .string pb] = w9 at *
          exact bodyPost_ret (v := .tuple #[.agg #[.int .i64 n1, .int .i64 n2, .int .i64 n3, .string pb], .int .i64 0]) (by simp [results, Try.results28, go_sem, t0, t1, t2, t3]) rfl ⟨by rw [E.out], LZ.out⟩
        · rw [if_neg hi] at EP
          have E := Lib.hid (readRet_bad EP.out (by decide))
          have d2 : (n1 != (k : Int)) = true := by simp [hi]
          clear EO EP hi
          go_wp2_with fail
          change bodyPost _ _ _ _ _ (World.setCells w5 C 0 [.int .i64 0, .int .i64 0, .int .i64 0, .string ⟨#[]⟩])
          obtain ⟨t0, t1, t2, t3⟩ := four_cells (put_four X5.out (.int .i64 0) (.int .i64 0) (.int .i64 0) (.string ⟨#[]⟩))
          have LZ := Lib.hid (B5.out.trans (put_below HC.out [.int .i64 0, .int .i64 0, .int .i64 0, .string ⟨#[]⟩] 0 w5))
          generalize World.setCells w5 C 0 [.int .i64 0, .int .i64 0, .int .i64 0, .string ⟨#[]⟩] = w9 at *
          exact bodyPost_ret (v := .tuple #[.agg #[.int .i64 0, .int .i64 0, .int .i64 0, .string ⟨#[]⟩], .int .i64 14]) (by simp [results, Try.results28, go_sem, t0, t1, t2, t3]) rfl ⟨by rw [E.out], LZ.out⟩
      · rw [if_neg hz] at EP
        have E := Lib.hid (readRet_bad EP.out hz)
        have d2 : (ge != 0) = true := by simp [hz]
        clear EO EP hz
        go_wp2_with fail
        change bodyPost _ _ _ _ _ (World.setCells w5 C 0 [.int .i64 0, .int .i64 0, .int .i64 0, .string ⟨#[]⟩])
        obtain ⟨t0, t1, t2, t3⟩ := four_cells (put_four X5.out (.int .i64 0) (.int .i64 0) (.int .i64 0) (.string ⟨#[]⟩))
        have LZ := Lib.hid (B5.out.trans (put_below HC.out [.int .i64 0, .int .i64 0, .int .i64 0, .string ⟨#[]⟩] 0 w5))
        generalize World.setCells w5 C 0 [.int .i64 0, .int .i64 0, .int .i64 0, .string ⟨#[]⟩] = w9 at *
        exact bodyPost_ret (v := .tuple #[.agg #[.int .i64 0, .int .i64 0, .int .i64 0, .string ⟨#[]⟩], .int .i64 ge]) (by simp [results, Try.results28, go_sem, t0, t1, t2, t3]) rfl ⟨by rw [E.out], LZ.out⟩

end Go.Proofs.Ytdmlmjmdpmmcgaa
namespace Go.Proofs.Ytdmlmjmdpmmcgaa
open Go.RowKit Go.Deep
set_option linter.unusedVariables false
set_option linter.unusedSimpArgs false
set_option maxRecDepth 100000

/-- an act -/
structure Pac where
  kind : Int
  i : Int
  p : Pg
  s : ByteArray
  keep : List Bool
  t : Int
  b : Int
def in64 (x : Int) : Prop := -9223372036854775808 ≤ x ∧ x ≤ 9223372036854775807
structure PacAt (base : Nat) (a : Pac) (v : Value) (u : World) : Prop where
  kind : in64 a.kind
  i : in64 a.i
  id : in64 a.p.id
  pay : a.p.pay.size ≤ 9223372036854775807
  s : a.s.size ≤ 9223372036854775807
  c : CrA base a.keep a.t a.b v u
theorem PacAt.below {base : Nat} {a : Pac} {v : Value} {u u2 : World} (h : PacAt base a v u) (k : Below base u u2) : PacAt base a v u2 := ⟨h.kind, h.i, h.id, h.pay, h.s, h.c.below k⟩
def pacV (a : Pac) (v : Value) : List Value := [.int .i64 a.kind, .int .i64 a.i, .int .i64 a.p.id, .int .i64 a.p.ep, .int .i64 a.p.kd, .string a.p.pay, .string a.s, v, .int .i64 a.t, .int .i64 a.b]
/-- a slice of acts that lies below base -/
structure PacsAt (base n : Nat) (A : Nat → Pac) (g : Nat → Value) (ao : Option Addr) (cap : Nat) (u : World) : Prop where
  c : n ≤ cap ∧ cap ≤ 9223372036854775807
  x : 0 < n → ∃ B o, ao = some ⟨B, o, none⟩ ∧ B < base ∧ ∀ i, i < n → ∀ j, j < 10 → u.cell? ⟨B, o + i * 10 + j, none⟩ = (pacV (A i) (g i))[j]?
  a : ∀ i, i < n → PacAt base (A i) (g i) u
theorem PacsAt.below {base n : Nat} {A : Nat → Pac} {g : Nat → Value} {ao : Option Addr} {cap : Nat} {u u2 : World} (h : PacsAt base n A g ao cap u) (k : Below base u u2) : PacsAt base n A g ao cap u2 :=
  ⟨h.c, fun hn => by
    obtain ⟨B, o, e, hB, hc⟩ := h.x hn
    exact ⟨B, o, e, hB, fun i hi j hj => by rw [World.cell?_of_block (k.block B hB)]; exact hc i hi j hj⟩, fun i hi => (h.a i hi).below k⟩

end Go.Proofs.Ytdmlmjmdpmmcgaa
namespace Go.Proofs.Ytdmlmjmdpmmcgaa
open Go.RowKit Go.Deep
set_option linter.unusedVariables false
set_option linter.unusedSimpArgs false
set_option maxRecDepth 100000

def abcP : Pg := ⟨1, 5, 2, ⟨#[97, 98, 99]⟩⟩
theorem abc_ok : putE abcP = 0 := by unfold abcP; decide
theorem zeros_bad (d : Dk) (id : Nat) (h : ∀ i, i < 4 → ∀ j, j < 64 → nowD d (2 + 4 * id + i) j = 0) : getE (pageS d id) = 14 := by
  have hz : ∀ j, j < 256 → byD (pageS d id) j = 0 := by
    have e : pageS d id = padN ⟨#[]⟩ 256 := by
      have e2 : allF (fun i => nowD d (2 + 4 * id + i)) 4 = padN ⟨#[]⟩ 256 := all_quart (padN_size _ _) (fun i hi j hj => by
        rw [h i hi j hj, byD_quart _ _ _ hj]
        unfold imgF
        rw [byD_pad _ _ _ (by omega), byD_out (by show 0 ≤ _; omega)])
      exact e2
    intro j hj
    rw [e, byD_pad _ _ _ hj, byD_out (by show 0 ≤ _; omega)]
  have hr : ¬ RightP (tellP (pageS d id)) := by
    intro hr
    have h1 : 0 ≤ unflip63 (rdI (pageS d id) 4 8) := hr.1
    have e : rdI (pageS d id) 4 8 = 0 := by
      simp only [rdI, byteI_byD]
      rw [hz _ (by omega), hz _ (by omega), hz _ (by omega), hz _ (by omega), hz _ (by omega), hz _ (by omega), hz _ (by omega), hz _ (by omega)]
      rfl
    rw [e] at h1
    have e9 : unflip63 0 = -9223372036854775808 := by kernel_rfl
    rw [e9] at h1
    exact absurd h1 (by decide)
  unfold getE
  rw [if_pos (pageS_size d id)]
  split <;> first | rfl | (rw [if_neg hr])
theorem new_now (n k j : Nat) : nowD (newD n) k j = 0 := by simp [nowD, newD]
theorem awake_facts : (writeP (newD 10) abcP).2 = 0 ∧ readPE (writeP (newD 10) abcP).1 1 = 0 ∧ readPP (writeP (newD 10) abcP).1 1 = ⟨1, 5, 2, fullP ⟨#[97, 98, 99]⟩⟩ ∧ readPE (writeP (newD 10) abcP).1 0 = 14 := by
  obtain ⟨h1, h2, h3, h4, h5⟩ := writeP_free (d := newD 10) rfl rfl abc_ok (by decide)
  have hn := writeP_n (newD 10) abcP
  obtain ⟨r1, r2⟩ := readP_of (d := (writeP (newD 10) abcP).1) h2 abc_ok (by rw [hn]; decide) (by decide) h4
  refine ⟨h1, r1, ?_, ?_⟩
  · rw [show (1 : Int) = abcP.id from rfl, r2]
    rfl
  · have h6 := h5 0 (by decide)
    have hb := zeros_bad (newD 10) 0 (fun i _ j _ => new_now _ _ _)
    unfold readPE
    rw [hn, if_neg (by decide), if_neg (by rw [h2]; decide), show (0 : Int).toNat = 0 from rfl, h6, hb, if_neg (by decide)]
theorem ret_bad (d : Dk) (id e : Int) (h : readPE d id = e) (hne : e ≠ 0) : readRet d id = .returned (.tuple #[.agg #[.int .i64 0, .int .i64 0, .int .i64 0, .string ⟨#[]⟩], .int .i64 e]) := readRet_bad h hne
set_option maxHeartbeats 6400000 in
theorem awake11_any (w : World) : Calls Try.prog 11 #[] w fun r u' => r = .returned (.bool true) ∧ Below w.heap.size w u' := by
  have H0 := Lib.hid (pnew_any 10 (by omega) (by omega) w)
  obtain ⟨f1, f2, f3, f4⟩ := awake_facts
  have hnd : (writeP (newD 10) abcP).1.n = 10 := writeP_n _ _
  have HW := Lib.hid (fun (base P bS bm cS : Nat) (u : World) (h : PDk base P bS bm cS (newD 10) u) => ppwrite_any h (by decide) (by decide) (by decide) abcP (by decide))
  rw [f1] at HW
  obtain ⟨d1, hd1⟩ : ∃ d, d = (writeP (newD 10) abcP).1 := ⟨_, rfl⟩
  rw [← hd1] at HW f2 f3 f4 hnd
  have HR1 := Lib.hid (fun (base P bS bm cS : Nat) (u : World) (h : PDk base P bS bm cS d1 u) => ppread_any h (by omega) 1)
  have e1 : readRet d1 1 = .returned (.tuple #[.agg #[.int .i64 1, .int .i64 5, .int .i64 2, .string (fullP ⟨#[97, 98, 99]⟩)], .int .i64 0]) := by unfold readRet; rw [f2, f3]; rfl
  rw [e1] at HR1
  have HR0 := Lib.hid (fun (base P bS bm cS : Nat) (u : World) (h : PDk base P bS bm cS d1 u) => ppread_any h (by omega) 0)
  rw [ret_bad d1 0 14 f4 (by decide)] at HR0
  have HM := Lib.hid (fun (base P bS bm cS : Nat) (u : World) (h : PDk base P bS bm cS d1 u) => pmany_any h (by omega))
  rw [hnd] at HM
  change Hid (∀ (base P bS bm cS : Nat) (u : World), _ → Calls _ _ _ u fun r u' => r = .returned (.int .i64 2) ∧ u' = u) at HM
  have HF := Lib.hid (fun u => rfull_any ⟨#[97, 98, 99]⟩ (by decide) u)
  generalize fullP ⟨#[97, 98, 99]⟩ = fa at *
  unfold pgV abcP at HW
  dsimp only at HW
  clear f1 f2 f3 f4 hd1 e1 hnd
  go_enter Try.func11, Try.ntmps11
  go_wp2_with fail
  refine (H0.out).mono ?_
  rintro e w1 ⟨P, bS, bm, cS, rfl, p1, k1⟩
  have P1 := Lib.hid p1
  have K1 := Lib.hid k1
  clear p1 k1 H0
  go_wp2_with fail
  refine (HW.out _ _ _ _ _ _ P1.out).mono ?_
  rintro e w2 ⟨rfl, p2, k2⟩
  have P2 := Lib.hid p2
  have K2 := Lib.hid (K1.out.trans (P1.out.bot k2 K1.out.size))
  clear p2 k2 P1 K1
  go_wp2_with fail
  refine (HR1.out _ _ _ _ _ _ P2.out).mono ?_
  rintro e w3 ⟨rfl, hb⟩
  have P3x := Lib.hid (P2.out.below hb)
  have K3 := Lib.hid (bthen K2.out hb)
  have X4 := Lib.hid (heap_alloc_new w3 (.cells #[.int .i64 1, .int .i64 5, .int .i64 2, .string fa] 23))
  have P4 := Lib.hid (P3x.out.below (balloc w3 (.cells #[.int .i64 1, .int .i64 5, .int .i64 2, .string fa] 23)))
  have K4 := Lib.hid (bthen K3.out (balloc w3 (.cells #[.int .i64 1, .int .i64 5, .int .i64 2, .string fa] 23)))
  obtain ⟨D, hD⟩ : ∃ D, D = w3.heap.size := ⟨_, rfl⟩
  rw [← hD] at X4
  clear hb
  go_upto_region 4 with fail
  rw [← hD]
  generalize w3.alloc (.cells #[.int .i64 1, .int .i64 5, .int .i64 2, .string fa] 23) = w4 at *
  clear hD P2 K2 P3x K3
  go_wp2_with fail
  refine (HR0.out _ _ _ _ _ _ P4.out).mono ?_
  rintro e w5 ⟨rfl, hb⟩
  have P5 := Lib.hid (P4.out.below hb)
  have K5 := Lib.hid (bthen K4.out hb)
  have X5 := Lib.hid (heap_stays X4.out hb)
  have P6 := Lib.hid (P5.out.below (balloc w5 (.cells #[.int .i64 0, .int .i64 0, .int .i64 0, .string ⟨#[]⟩] 23)))
  have K6 := Lib.hid (bthen K5.out (balloc w5 (.cells #[.int .i64 0, .int .i64 0, .int .i64 0, .string ⟨#[]⟩] 23)))
  have X6 := Lib.hid (heap_stays X5.out (balloc w5 (.cells #[.int .i64 0, .int .i64 0, .int .i64 0, .string ⟨#[]⟩] 23)))
  clear hb
  go_upto_region 5 with fail
  generalize w5.alloc (.cells #[.int .i64 0, .int .i64 0, .int .i64 0, .string ⟨#[]⟩] 23) = w6 at *
  clear P4 K4 X4 P5 K5 X5 HR0 HR1 HW
  refine wp_region_held_drew (S := (fun w' => w'.cell? ⟨D, 1, none⟩ = some (.int .i64 5) ∧ w'.cell? ⟨D, 3, none⟩ = some (.string fa))) (by kernel_rfl) ?_ (fun hHeld => ?_)
  · have h := four_cells (heap_stays X6.out (bdrew w6))
    exact ⟨h.2.1, h.2.2.2⟩
  have P7 := Lib.hid (P6.out.below (bdrew w6))
  have K7 := Lib.hid (bthen K6.out (bdrew w6))
  have X7 := Lib.hid (heap_stays X6.out (bdrew w6))
  change wpAnyH _ _ _ _ _ _ _ _ (World.drew w6)
  generalize World.drew w6 = w7 at *
  first | refine tq0 0 rfl ?_ | refine tq1 0 rfl ?_
  try go_frame
  refine wpAnyH_ready (rs := [1]) (by kernel_rfl) (by simp) ?_
  refine AllReadyH.cons (o := ⟨_, _, _, _, _, _⟩) rfl (fun K hK => ?_) AllReadyH.nil
  go_simp
  refine (HM.out _ _ _ _ _ _ P7.out).mono ?_
  rintro e w8 ⟨rfl, hw8⟩
  rw [hw8]
  clear hw8 w8
  refine hK.out _ _ hHeld (fun hHeld => ?_)
  clear hK K
  try go_frame
  first | refine tq0 2 rfl ?_ | refine tq1 2 rfl ?_
  try go_frame
  first | refine tq0 3 rfl ?_ | refine tq1 3 rfl ?_
  try go_frame
  first | refine tq0 4 rfl ?_ | refine tq1 4 rfl ?_
  try go_frame
  first | refine tq0 5 rfl ?_ | refine tq1 5 rfl ?_
  try go_frame
  first | refine tq0 6 rfl ?_ | refine tq1 6 rfl ?_
  try go_frame
  first | refine tq0 7 rfl ?_ | refine tq1 7 rfl ?_
  try go_frame
  first | refine tq0 8 rfl ?_ | refine tq1 8 rfl ?_
  try go_frame
  first | refine tq0 9 rfl ?_ | refine tq1 9 rfl ?_
  try go_frame
  first | refine tq0 10 rfl ?_ | refine tq1 10 rfl ?_
  try go_frame
  first | refine tq0 11 rfl ?_ | refine tq1 11 rfl ?_
  try go_frame
  first | refine tq0 12 rfl ?_ | refine tq1 12 rfl ?_
  try go_frame
  first | refine tq0 13 rfl ?_ | refine tq1 13 rfl ?_
  try go_frame
  first | refine tq0 14 rfl ?_ | refine tq1 14 rfl ?_
  try go_frame
  first | refine tq0 15 rfl ?_ | refine tq1 15 rfl ?_
  try go_frame
  first | refine tq0 16 rfl ?_ | refine tq1 16 rfl ?_
  try go_frame
  first | refine tq0 17 rfl ?_ | refine tq1 17 rfl ?_
  try go_frame
  first | refine tq0 18 rfl ?_ | refine tq1 18 rfl ?_
  try go_frame
  refine wpAnyH_ready (rs := [19]) (by kernel_rfl) (by simp) ?_
  refine AllReadyH.cons (o := ⟨_, _, _, _, _, _⟩) rfl (fun K hK => ?_) AllReadyH.nil
  go_simp
  refine (HF.out _).mono ?_
  rintro e w8 ⟨rfl, hb⟩
  have K8 := Lib.hid (bthen K7.out hb)
  have X8 := Lib.hid (heap_stays X7.out hb)
  refine hK.out _ _ ?_ (fun hHeld => ?_)
  · have h := four_cells X8.out
    exact ⟨h.2.1, h.2.2.2⟩
  clear hK K hb
  try go_frame
  first | refine tq0 20 rfl ?_ | refine tq1 20 rfl ?_
  try go_frame
  first | refine tq0 21 rfl ?_ | refine tq1 21 rfl ?_
  try go_frame
  first | refine tq0 22 rfl ?_ | refine tq1 22 rfl ?_
  try go_frame
  first | refine tq0 23 rfl ?_ | refine tq1 23 rfl ?_
  try go_frame
  first | refine tq0 24 rfl ?_ | refine tq1 24 rfl ?_
  try go_frame
  first | refine tq0 25 rfl ?_ | refine tq1 25 rfl ?_
  try go_frame
  first | refine tq0 26 rfl ?_ | refine tq1 26 rfl ?_
  try go_frame
  refine wpAnyH_done (by kernel_rfl) ?_ _
  go_wp2_with fail
  go_ret
  exact ⟨rfl, K8.out⟩

end Go.Proofs.Ytdmlmjmdpmmcgaa
