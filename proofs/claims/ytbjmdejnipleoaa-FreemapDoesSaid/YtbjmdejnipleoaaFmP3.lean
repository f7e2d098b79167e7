/- The program's map of pages: become, Commit, Abort, New. -/
import Derived.Test.YtbjmdejnipleoaaFmP2
import Derived.Test.YtbjmdejnipleoaaFmRep
import Derived.StillTailTactics
namespace Go.Proofs.Ytbjmdejnipleoaa
open Go.RowKit Go.Deep
set_option linter.unusedVariables false
set_option linter.unusedSimpArgs false
set_option maxRecDepth 100000

section
variable {base P n : Nat} {K : Nat → Nat} {S T : Nat → Bool} {u u2 : World}
theorem PFm.apart (h : PFm base P n K S u) {b c : Nat} (x0 : u.cell? ⟨P, 0, none⟩ = some (.slice (some ⟨b, 0, none⟩) n c)) (hn : 0 < n) : b ≠ P := by
  obtain ⟨v, e, hr, hs⟩ := h.box
  rw [Lib.cell_of_heap e] at x0
  have hv : v = .slice (some ⟨b, 0, none⟩) n c := by simpa using x0
  subst hv
  rcases hr with ⟨h0, _⟩ | ⟨h0, b2, c2, e2, h1, hr⟩
  · omega
  simp only [Value.slice.injEq, Option.some.injEq, Addr.mk.injEq, and_true, true_and] at e2
  obtain ⟨rfl, rfl⟩ := e2
  rintro rfl
  obtain ⟨cs, e3⟩ := hr.b
  rw [e3] at e
  simp at e
theorem KRow.mono {base2 : Nat} {v : Value} (h : KRow base n K v u) (hb : base2 ≤ base) : KRow base2 n K v u := by
  rcases h with ⟨hr, a, c, e1, hc, hp⟩ | ⟨h0, b, c, e1, h1, hr⟩
  · exact .inl ⟨hr, a, c, e1, hc, fun p h1 => ⟨Nat.le_trans hb (hp p h1).1, (hp p h1).2⟩⟩
  · exact .inr ⟨h0, b, c, e1, Nat.le_trans hb h1, hr⟩
/-- the first j pages turned -/
def mixK (K : Nat → Nat) (a b j : Nat) : Nat → Nat := fun i => if i < j then turnF K a b i else K i
theorem mixK_at (K : Nat → Nat) (a b j : Nat) : mixK K a b j j = K j := by unfold mixK; rw [if_neg (by omega)]
theorem mixK_succ (K : Nat → Nat) (a b j : Nat) : fupd (mixK K a b j) j (turnF K a b j) = mixK K a b (j + 1) := by
  funext i
  unfold fupd mixK
  by_cases c : i = j
  · subst c
    rw [if_pos rfl, if_pos (by omega)]
  · rw [if_neg c]
    by_cases d : i < j
    · rw [if_pos d, if_pos (by omega)]
    · rw [if_neg d, if_neg (by omega)]
theorem PFm.congr {K2 : Nat → Nat} (h : PFm base P n K S u) (e : ∀ i, i < n → K2 i = K i) : PFm base P n K2 S u := by
  obtain ⟨v, e1, hr, hs⟩ := h.box
  exact ⟨⟨v, e1, hr.congr e, hs⟩, h.lo, fun i hi => by rw [e i hi]; exact h.four i hi⟩
theorem turn_cell {w : World} {A a b k : Nat} {x : Nat} (h : w.heap[A]? = some (.cells #[.int .i64 0, .int .i64 1, .int .i64 (a : Int), .int .i64 (b : Int)] 55 (0, 0))) (hk : k < 4) (hx : x = if k = 2 then a else if k = 3 then b else k) : w.cell? ⟨A, k, none⟩ = some (.int .i64 (x : Int)) := by
  rw [Lib.cell_of_heap h]
  subst hx
  rcases k with _ | _ | _ | _ | k
  · rfl
  · rfl
  · rfl
  · rfl
  · omega
set_option maxHeartbeats 3200000 in
theorem pbecome12_any (h : PFm base P n K S u) (hn : n ≤ 1024) (a b : Nat) (ha : a < 4) (hb : b < 4) : Calls Try.prog 26 #[.pointer (some ⟨P, 0, none⟩), .agg #[.int .i64 0, .int .i64 1, .int .i64 (a : Int), .int .i64 (b : Int)]] u fun r u' => r = .returned (.bool true) ∧ Post12 PFm base P n (turnF K a b) S u u' := by
  have X1 := Lib.hid (heap_alloc_new u (.cells #[.int .i64 0, .int .i64 1, .int .i64 (a : Int), .int .i64 (b : Int)] 55))
  have B1 := Lib.hid (balloc u (.cells #[.int .i64 0, .int .i64 1, .int .i64 (a : Int), .int .i64 (b : Int)] 55))
  have R1 := Lib.hid (h.below B1.out)
  have SA : Hid (S u.heap.size = false) := Lib.hid (by
    cases c : S u.heap.size with
    | false => rfl
    | true => have := (h.s_lo _ c).2; omega)
  have HF := Lib.hid h.four
  have HT : Hid (∀ j, j < n → turnF K a b j < 4) := Lib.hid (fun j hj => by
    have := h.four j hj
    unfold turnF
    split
    · exact ha
    · split
      · exact hb
      · exact this)
  clear h
  go_enter Try.func26, Try.ntmps26
  go_upto_region 1 with fail
  generalize hA : u.heap.size = A at *
  generalize u.alloc (.cells #[.int .i64 0, .int .i64 1, .int .i64 (a : Int), .int .i64 (b : Int)] 55) = u1 at *
  have LA := Lib.hid (lt_of_block X1.out)
  obtain ⟨ao, c, x0, hr⟩ := R1.out.len
  clear hr
  have X0 := Lib.hid x0
  go_wp2_with fail
  clear x0
  go_loopw [14] (fun i wr => ∃ j : Nat, j ≤ n ∧ i = .int .i64 j ∧ Hid (PFm base P n (mixK K a b j) S wr) ∧ Hid (wr.cell? ⟨P, 0, none⟩ = some (.slice ao n c)) ∧ Hid (KpS S u1 wr)) (fun i _ => n - (intOf i).toNat)
  case atStart => exact ⟨0, Nat.zero_le _, rfl, Lib.hid (R1.out.congr fun i _ => by unfold mixK; rw [if_neg (by omega)]), X0, Lib.hid (KpS.refl _ _)⟩
  case round =>
    obtain ⟨j, hj, rfl, HR, HX, HK⟩ := hrel
    by_cases hlt : j < n
    · have hj1 : (j : Int) < (n : Int) := by omega
      have hj2 : (0 : Int) ≤ (j : Int) := by omega
      have d1 : decide ((j : Int) < (n : Int)) = true := by simp [hlt]
      have HD := Lib.hid (bdrew wr)
      have HR2 := Lib.hid (HR.out.below HD.out)
      have HK2 := Lib.hid (HK.out.on HD.out)
      have HX2 : Hid ((World.drew wr).cell? ⟨P, 0, none⟩ = some (.slice ao n c)) := Lib.hid HX.out
      obtain ⟨bb, cc, x0, x1, xf, hput⟩ := HR2.out.look hlt
      have hao : some (⟨bb, 0, none⟩ : Addr) = ao ∧ cc = c := by
        have := x0.symm.trans HX2.out
        simpa using this
      obtain ⟨rfl, rfl⟩ := hao
      have NE := Lib.hid (HR2.out.apart x0 (by omega))
      rw [mixK_at] at x1
      have hK4 := HF.out j hlt
      have y1 : (World.drew wr).cell? ⟨A, K j, none⟩ = some (.int .i64 (turnF K a b j : Int)) := turn_cell ((HK2.out.blk LA.out SA.out).trans X1.out) hK4 rfl
      have HP := Lib.hid (hput (turnF K a b j) (HT.out j hlt))
      rw [mixK_succ] at HP
      clear hput HR
      generalize turnF K a b j = t at *
      generalize K j = q at *
      have q1 : (0 : Int) ≤ (q : Int) := by omega
      have q2 : (q : Int) < 4 := by omega
      have XF := Lib.hid xf
      have X0 := Lib.hid x0
      have XC := Lib.hid x1
      change wr.cell? _ = _ at x0 x1 y1
      clear xf
      go_upto_region 6 with fail
      go_still_tail 9, (by kernel_rfl)
      change wpList _ _ _ _ _ (World.drew wr)
      have xf := XF.out
      have xc := XC.out
      clear x0 x1 y1 HX HK HD XF XC
      generalize World.drew wr = w2 at *
      have X9 : Hid ((w2.setCell ⟨bb, j, none⟩ (.int .i64 (t : Int))).cell? ⟨P, 0, none⟩ = some (.slice (some ⟨bb, 0, none⟩) n cc)) := Lib.hid ((World.cell?_of_block (set_else12 _ NE.out.symm)).trans X0.out)
      have K9 := Lib.hid (HK2.out.trans HP.out.2)
      go_wp2_with fail
      go_roundw
      case rel => exact ⟨j + 1, hlt, by go_num, Lib.hid HP.out.1, X9, K9⟩
      case measure => simp [intOf]; omega
    · obtain rfl : j = n := by omega
      have d1 : decide ((j : Int) < (j : Int)) = false := by simp
      have F := Lib.hid ((HR.out.congr (K2 := turnF K a b) (fun i hi => by unfold mixK; rw [if_pos hi])).post ((KpS.of (by rw [hA]; exact B1.out) : KpS S u u1).trans HK.out))
      go_wp2_with fail
      go_ret
      exact ⟨rfl, F.out⟩
theorem pcommit12_any (h : PFm base P n K S u) (hn : n ≤ 1024) : Calls Try.prog 16 #[.pointer (some ⟨P, 0, none⟩)] u fun r u' => r = .returned (.bool true) ∧ Post12 PFm base P n (turnF K 1 0) S u u' := by
  have H := Lib.hid (pbecome12_any h hn 1 0 (by omega) (by omega))
  change Hid (Calls _ _ #[_, .agg #[_, _, .int .i64 1, .int .i64 0]] _ _) at H
  clear h
  go_enter Try.func16, Try.ntmps16
  go_wp2_with fail
  refine (H.out).mono ?_
  rintro e w1 ⟨rfl, hp⟩
  have HP := Lib.hid hp
  clear hp
  go_wp2_with fail
  go_ret
  exact ⟨rfl, HP.out⟩
theorem pabort12_any (h : PFm base P n K S u) (hn : n ≤ 1024) : Calls Try.prog 18 #[.pointer (some ⟨P, 0, none⟩)] u fun r u' => r = .returned (.bool true) ∧ Post12 PFm base P n (turnF K 0 1) S u u' := by
  have H := Lib.hid (pbecome12_any h hn 0 1 (by omega) (by omega))
  change Hid (Calls _ _ #[_, .agg #[_, _, .int .i64 0, .int .i64 1]] _ _) at H
  clear h
  go_enter Try.func18, Try.ntmps18
  go_wp2_with fail
  refine (H.out).mono ?_
  rintro e w1 ⟨rfl, hp⟩
  have HP := Lib.hid hp
  clear hp
  go_wp2_with fail
  go_ret
  exact ⟨rfl, HP.out⟩
end
theorem pbecome12_none (x y : Int) (u : World) : Calls Try.prog 26 #[.pointer none, .agg #[.int .i64 0, .int .i64 1, .int .i64 x, .int .i64 y]] u fun r u' => r = .returned (.bool false) ∧ Below u.heap.size u u' := by
  have B1 := Lib.hid (balloc u (.cells #[.int .i64 0, .int .i64 1, .int .i64 x, .int .i64 y] 55))
  go_enter Try.func26, Try.ntmps26
  go_wp2_with fail
  go_ret
  exact ⟨rfl, B1.out⟩
theorem pcommit12_nil (u : World) : Calls Try.prog 16 #[.pointer none] u fun r u' => r = .returned (.bool false) ∧ Below u.heap.size u u' := by
  have H := Lib.hid (pbecome12_none 1 0 u)
  go_enter Try.func16, Try.ntmps16
  go_wp2_with fail
  refine (H.out).mono ?_
  rintro e w1 ⟨rfl, hp⟩
  have HP := Lib.hid hp
  clear hp
  go_wp2_with fail
  go_ret
  exact ⟨rfl, HP.out⟩
theorem pabort12_nil (u : World) : Calls Try.prog 18 #[.pointer none] u fun r u' => r = .returned (.bool false) ∧ Below u.heap.size u u' := by
  have H := Lib.hid (pbecome12_none 0 1 u)
  go_enter Try.func18, Try.ntmps18
  go_wp2_with fail
  refine (H.out).mono ?_
  rintro e w1 ⟨rfl, hp⟩
  have HP := Lib.hid hp
  clear hp
  go_wp2_with fail
  go_ret
  exact ⟨rfl, HP.out⟩

/-! ### New -/
theorem KRow.form {base n : Nat} {K : Nat → Nat} {v : Value} {u : World} (h : KRow base n K v u) : ∃ a c, v = .slice a n c := by
  rcases h with ⟨rfl, a, c, rfl, _⟩ | ⟨_, b, c, rfl, _⟩
  · exact ⟨_, _, rfl⟩
  · exact ⟨_, _, rfl⟩
theorem pnew12_bad (x : Int) (u : World) (hx : x < 0 ∨ 1024 < x) : Calls Try.prog 21 #[.int .i64 x] u fun r u' => r = .returned (.tuple #[.pointer none, .int .i64 2]) ∧ Below u.heap.size u u' := by
  by_cases h0 : x < 0
  · have d0 : decide (x < 0) = true := by simp [h0]
    go_enter Try.func21, Try.ntmps21
    go_wp2_with fail
    go_ret2
    exact ⟨rfl, Below.refl _ _⟩
  · have d0 : decide (x < 0) = false := by simp; omega
    have d1 : decide (1024 < x) = true := by simp; omega
    go_enter Try.func21, Try.ntmps21
    go_wp2_with fail
    go_ret2
    exact ⟨rfl, Below.refl _ _⟩
set_option maxHeartbeats 800000 in
theorem pnew12_any (n : Nat) (u : World) (hn : n ≤ 1024) : Calls Try.prog 21 #[.int .i64 (n : Int)] u fun r u' => ∃ P S, r = .returned (.tuple #[.pointer (some ⟨P, 0, none⟩), .int .i64 0]) ∧ PFm u.heap.size P n (fun _ => 0) S u' ∧ Below u.heap.size u u' := by
  have d0 : decide ((n : Int) < 0) = false := decide_eq_false (by omega)
  have d1 : decide (1024 < (n : Int)) = false := decide_eq_false (by omega)
  have B1 := Lib.hid (balloc u (.cells #[.int .i64 0] 3))
  have H := Lib.hid (repeat0_any n hn u.heap.size 1 (u.alloc (.cells #[.int .i64 0] 3)) (by rw [Lib.cell_of_heap (heap_alloc_new u _)]; rfl))
  go_enter Try.func21, Try.ntmps21
  go_wp2_with fail
  refine (H.out).mono ?_
  rintro e w1 ⟨v, rfl, hr, hb⟩
  obtain ⟨a, c, rfl⟩ := hr.form
  have BB := Lib.hid (B1.out.trans (hb.mono B1.out.size))
  have SZ := Lib.hid B1.out.size
  have HR := Lib.hid hr
  have X2 := Lib.hid (heap_alloc_new w1 (.cells #[.slice a n c] 53))
  have B2 := Lib.hid (balloc w1 (.cells #[.slice a n c] 53))
  clear hr hb H
  have F : Hid (∃ P S, (Ending.returned (.tuple #[.pointer (some ⟨w1.heap.size, 0, none⟩), .int .i64 0]) : Ending) = .returned (.tuple #[.pointer (some ⟨P, 0, none⟩), .int .i64 0]) ∧ PFm u.heap.size P n (fun _ => 0) S (w1.alloc (.cells #[.slice a n c] 53)) ∧ Below u.heap.size u (w1.alloc (.cells #[.slice a n c] 53))) := Lib.hid ⟨w1.heap.size, fun k => decide (k = w1.heap.size) || decide ((Value.slice a n c).ownBlock = some k), rfl, ⟨⟨_, X2.out, KRow.mono (HR.out.below B2.out) SZ.out, fun k => by simp⟩, BB.out.size, fun i hi => by omega⟩, BB.out.trans (B2.out.mono BB.out.size)⟩
  go_wp2_with fail
  go_ret2
  exact F.out

end Go.Proofs.Ytbjmdejnipleoaa
