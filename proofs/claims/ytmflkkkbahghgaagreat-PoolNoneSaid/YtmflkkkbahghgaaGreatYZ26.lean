/- The contracts of the document's Find, set, read, Held. The contracts of the document's set, read. The contracts of the document's read, back. The contract of the document's back. -/
import Derived.Deep.DeepCutAuto
import Derived.Test.YtmflkkkbahghgaaGreatYZ23
import Derived.Test.YtmflkkkbahghgaaGreatYQShRef4
import Derived.Test.YtmflkkkbahghgaaGreatYZ7
namespace Go.Proofs.YtmflkkkbahghgaaGreat
open Go.RowKit Go.Deep
set_option linter.unusedVariables false
set_option linter.unusedSimpArgs false
set_option maxRecDepth 100000

def R2 (Q R : Nat) : Nat → Bool := fun k => k == Q || k == R
theorem R2.a (Q R : Nat) : R2 Q R Q = true := by simp [R2]
theorem R2.b (Q R : Nat) : R2 Q R R = true := by simp [R2]
theorem R2.no {Q R k : Nat} (h : k ≠ Q) (h2 : k ≠ R) : R2 Q R k = false := by simp [R2, h, h2]
theorem R2.of_q {Q R k : Nat} (h : Q1 Q k = true) : R2 Q R k = true := by
  unfold R2
  rw [show (k == Q) = true from h, Bool.true_or]
theorem R2.of_r {Q R k : Nat} (h : Q1 R k = true) : R2 Q R k = true := by
  unfold R2
  rw [show (k == R) = true from h, Bool.or_true]
/-- what a call of the document's pool leaves -/
def RQ (base Q R : Nat) (p2 : Plt) (u u2 : World) : Prop := RPl base Q R p2 u2 ∧ KpS (R2 Q R) u u2 ∧ ∀ k, Rp Q R u2 k → Rp Q R u k ∨ u.heap.size ≤ k
section
variable {base Q R : Nat} {p p2 p3 : Plt} {u u2 u3 w : World}
theorem RQ.trans (h : RQ base Q R p2 u u2) (h2 : RQ base Q R p3 u2 u3) : RQ base Q R p3 u u3 := by
  refine ⟨h2.1, h.2.1.trans h2.2.1, fun k hk => ?_⟩
  rcases h2.2.2 k hk with h3 | h3
  · exact h.2.2 k h3
  · exact .inr (Nat.le_trans h.2.1.size h3)
theorem rp_of {q v hd : Value} {k : Nat} (e0 : u.heap[R]? = some (.cells #[q, v, hd] 42 (0, 0))) (hk : Rp Q R u k) : k = R ∨ Rs Q u k ∨ v.ownBlock = some k := by
  rcases hk with rfl | hk | ⟨q2, v2, h2, e3, hv⟩
  · exact .inl rfl
  · exact .inr (.inl hk)
  · rw [e0] at e3
    simp only [Option.some.injEq, Obj.cells.injEq, and_true, true_and] at e3
    obtain rfl : v = v2 := by injection e3 with e3; injection e3 with _ e3; injection e3
    exact .inr (.inr hv)
theorem rp_below (h : RPl base Q R p u) (k : Below u.heap.size u u2) {j : Nat} (hj : Rp Q R u2 j) : Rp Q R u j := by
  obtain ⟨v, e, hf, n1, n2⟩ := h.box
  rcases rp_of ((k.block _ (lt_of_block e)).trans e) hj with rfl | hj | hj
  · exact .inl rfl
  · exact .inr (.inl (rs_same (k.block Q h.st.lt) hj))
  · exact .inr (.inr ⟨_, _, _, e, hj⟩)
theorem RPl.stays (h : RPl base Q R p u) (k : Below u.heap.size u w) : RQ base Q R p u w := ⟨h.below k, KpS.of k, fun j hj => .inl (rp_below h k hj)⟩
theorem RPl.cells (h : RPl base Q R p u) : ∃ a c, u.cell? ⟨R, 0, none⟩ = some (.pointer (some ⟨Q, 0, none⟩)) ∧ u.cell? ⟨R, 1, none⟩ = some (.slice a p.f.length c) ∧ u.cell? ⟨R, 2, none⟩ = some (.int .i64 (p.hand : Int)) ∧ FRow base p.f (.slice a p.f.length c) u ∧ u.frozen? ⟨R, 0, none⟩ = false ∧ u.frozen? ⟨R, 1, none⟩ = false ∧ u.frozen? ⟨R, 2, none⟩ = false := by
  obtain ⟨v, e, h1, n1, n2⟩ := h.box
  obtain ⟨a, c, rfl⟩ := h1.form
  refine ⟨a, c, ?_, ?_, ?_, h1, Lib.frozen_of_heap e 0, Lib.frozen_of_heap e 1, Lib.frozen_of_heap e 2⟩
  · rw [Lib.cell_of_heap e]; rfl
  · rw [Lib.cell_of_heap e]; rfl
  · rw [Lib.cell_of_heap e]; rfl
/-- other frames, in a row of their own -/
theorem RPl.wrote (h : RPl base Q R p u) (k : Below u.heap.size u w) {f2 : List Frm} {v : Value} {b6 : Nat} (hs : FRow b6 f2 v w) (hb : u.heap.size ≤ b6) (hbase : base ≤ u.heap.size) : RQ base Q R { p with f := f2 } u (w.setCell ⟨R, 1, none⟩ v) := by
  obtain ⟨v1, e, h1, n1, n2⟩ := h.box
  have hR := lt_of_block e
  have hw := h.below k
  have e2 := (k.block R hR).trans e
  have hQR : Q ≠ R := fun h9 => h.ap (.inl h9.symm)
  have nv : v.ownBlock ≠ some R := fun h9 => by have := (hs.lo R h9).1; omega
  have hset : KpS (Q1 R) w (w.setCell ⟨R, 1, none⟩ v) := KpS.set (Q1.a R) 1 _ w
  have e3 := Joins.block_setCell (i := 1) e2 v
  have eQ : (w.setCell ⟨R, 1, none⟩ v).heap[Q]? = w.heap[Q]? := set_else12 _ hQR
  obtain ⟨hst, hrs⟩ := hw.st.kept (S := Q1 R) (fun j hj => Q1.no fun h9 => hw.ap (h9 ▸ hj)) hset
  refine ⟨⟨hst, ⟨v, e3, (hs.mono (Nat.le_trans hbase hb)).kept (Q1 R) (fun b hb => Q1.no fun h9 => nv (by rw [hb, h9])) hset, nv, fun j hj hr => ?_⟩, fun hr => hw.ap (hrs _ hr), h.lo⟩, (KpS.of k : KpS (R2 Q R) u w).trans (hset.mono fun j hj => R2.of_r hj), fun j hj => ?_⟩
  · have h1 := (hs.lo j hj).1
    have h2 := (h.st.rlt (rs_same (k.block Q h.st.lt) (hrs _ hr))).2
    omega
  · rcases rp_of e3 hj with rfl | hj | hj
    · exact .inl (.inl rfl)
    · exact .inl (.inr (.inl (rs_same (k.block Q h.st.lt) (hrs _ hj))))
    · exact .inr (Nat.le_trans hb (hs.lo j hj).1)
/-- another place of the hand -/
theorem RPl.turn (h : RPl base Q R p u) (n : Nat) : RQ base Q R { p with hand := n } u (u.setCell ⟨R, 2, none⟩ (.int .i64 (n : Int))) := by
  obtain ⟨v1, e, h1, n1, n2⟩ := h.box
  have hR := lt_of_block e
  have hQR : Q ≠ R := fun h9 => h.ap (.inl h9.symm)
  have hset : KpS (Q1 R) u (u.setCell ⟨R, 2, none⟩ (.int .i64 (n : Int))) := KpS.set (Q1.a R) 2 _ u
  have e3 := Joins.block_setCell (i := 2) e (.int .i64 (n : Int))
  obtain ⟨hst, hrs⟩ := h.st.kept (S := Q1 R) (fun j hj => Q1.no fun h9 => h.ap (h9 ▸ hj)) hset
  refine ⟨⟨hst, ⟨v1, e3, h1.kept (Q1 R) (fun b hb => Q1.no fun h9 => n1 (by rw [hb, h9])) hset, n1, fun j hj hr => n2 j hj (hrs _ hr)⟩, fun hr => h.ap (hrs _ hr), h.lo⟩, hset.mono fun j hj => R2.of_r hj, fun j hj => .inl ?_⟩
  rcases rp_of e3 hj with rfl | hj | hj
  · exact .inl rfl
  · exact .inr (.inl (hrs _ hj))
  · exact .inr (.inr ⟨_, _, _, e, hj⟩)
/-- the store wrote -/
theorem RPl.stored (h : RPl base Q R p u) {x2 : Stt} (hr : RP base Q x2 u w) : RQ base Q R { p with x := x2 } u w := by
  obtain ⟨v1, e, h1, n1, n2⟩ := h.box
  have hR := lt_of_block e
  have hQR : R ≠ Q := fun h9 => h.ap (.inl h9)
  have eR := hr.2.1.blk hR (Q1.no hQR)
  have nq : ∀ j, v1.ownBlock = some j → j ≠ Q := fun j hj h9 => n2 j hj (.inl h9)
  refine ⟨⟨hr.1, ⟨v1, eR.trans e, h1.kept (Q1 Q) (fun b hb => Q1.no (nq b hb)) hr.2.1, n1, fun j hj h9 => ?_⟩, fun h9 => ?_, h.lo⟩, hr.2.1.mono fun j hj => R2.of_q hj, fun j hj => ?_⟩
  · rcases hr.2.2 j h9 with h8 | h8
    · exact n2 j hj h8
    · have := (h1.lo j hj).2; omega
  · rcases hr.2.2 R h9 with h8 | h8
    · exact h.ap h8
    · omega
  · rcases rp_of (eR.trans e) hj with rfl | hj | hj
    · exact .inl (.inl rfl)
    · rcases hr.2.2 j hj with h8 | h8
      · exact .inl (.inr (.inl h8))
      · exact .inr h8
    · exact .inl (.inr (.inr ⟨_, _, _, e, hj⟩))
theorem FRow.look {f : List Frm} {a : Option Addr} {c i : Nat} (h : FRow base f (.slice a f.length c) u) (hi : i < f.length) : ∃ b, a = some ⟨b, 0, none⟩ ∧ u.cell? ⟨b, i * 5, none⟩ = some (.int .i64 (frA f i).pg) ∧ u.cell? ⟨b, i * 5 + 1, none⟩ = some (.string (frA f i).b) ∧ u.cell? ⟨b, i * 5 + 2, none⟩ = some (.int .i64 ((frA f i).held : Int)) ∧ u.cell? ⟨b, i * 5 + 3, none⟩ = some (.bool (frA f i).di) ∧ u.cell? ⟨b, i * 5 + 4, none⟩ = some (.bool (frA f i).us) := by
  obtain ⟨_, b, rfl, _, _, x, _⟩ := GRow.look h hi
  have x0 := x 0 (by omega)
  rw [Nat.add_zero] at x0
  exact ⟨b, rfl, x0, x 1 (by omega), x 2 (by omega), x 3 (by omega), x 4 (by omega)⟩
/-- as the document's Find tells it -/
def fndI (f : List Frm) (l : Int) : Int := if fndF f l < f.length then (fndF f l : Int) else -1
set_option maxHeartbeats 1600000 in
theorem rfind15_any (h : RPl base Q R p u) (hl : p.f.length ≤ 32) (l : Int) : Calls Tryz.prog 77 #[.pointer (some ⟨R, 0, none⟩), .int .i64 l] u fun r u' => r = .returned (.int .i64 (fndI p.f l)) ∧ u' = u := by
  obtain ⟨a, c, x0, x1, x2, hf, f0, f1, f2⟩ := h.cells
  have F := Lib.hid hf
  clear h hf x0 x2
  go_enter Tryz.func77, Tryz.ntmps77
  go_wp2_with fail
  go_loopw [5] (fun i wr => ∃ j : Nat, j ≤ p.f.length ∧ i = .int .i64 j ∧ (∀ k, k < j → (hasF p.f l k && decide (0 ≤ l)) = false) ∧ wr = u) (fun i _ => p.f.length - (intOf i).toNat)
  case atStart => exact ⟨0, Nat.zero_le _, rfl, fun k hk => absurd hk (Nat.not_lt_zero k), rfl⟩
  case round =>
    obtain ⟨j, hj, rfl, hk, hw⟩ := hrel
    rw [hw]
    clear hw wr
    have HK := Lib.hid hk
    clear hk
    by_cases hlt : j < p.f.length
    · have hj2 : (0 : Int) ≤ (j : Int) := by omega
      have hj1 : (j : Int) < (p.f.length : Int) := by omega
      have d1 : decide ((j : Int) < (p.f.length : Int)) = true := decide_eq_true hj1
      obtain ⟨b, ha, y0, _⟩ := FRow.look F.out hlt
      subst ha
      by_cases c1 : (frA p.f j).pg = l
      · have d2 : decide ((frA p.f j).pg = l) = true := decide_eq_true c1
        by_cases c2 : 0 ≤ l
        · have d3 : decide (0 ≤ l) = true := decide_eq_true c2
          have E : Hid (fndI p.f l = (j : Int)) := Lib.hid (by
            unfold fndI
            have : fndF p.f l = j := by
              unfold fndF
              rw [if_pos c2]
              exact lstP_of (by omega) (.inr (by simp [hasF, c1])) fun k hk => by
                have := HK.out k hk
                simpa [c2] using this
            rw [this, if_pos hlt])
          go_wp2_with fail
          go_ret
          exact ⟨by rw [E.out]; rfl, rfl⟩
        · have d3 : decide (0 ≤ l) = false := decide_eq_false c2
          have HK2 : Hid (∀ k, k < j + 1 → (hasF p.f l k && decide (0 ≤ l)) = false) := Lib.hid fun k hk => by rw [d3, Bool.and_false]
          go_wp2_with fail
          go_roundw
          case rel => exact ⟨j + 1, hlt, by go_num, HK2.out, trivial⟩
          case measure => simp [intOf]; omega
      · have d2 : decide ((frA p.f j).pg = l) = false := decide_eq_false c1
        have HK2 : Hid (∀ k, k < j + 1 → (hasF p.f l k && decide (0 ≤ l)) = false) := Lib.hid fun k hk => by
          rcases Nat.lt_succ_iff_lt_or_eq.1 hk with h9 | rfl
          · exact HK.out k h9
          · simp [hasF, c1]
        go_wp2_with fail
        go_roundw
        case rel => exact ⟨j + 1, hlt, by go_num, HK2.out, trivial⟩
        case measure => simp [intOf]; omega
    · have d1 : decide ((j : Int) < (p.f.length : Int)) = false := decide_eq_false (by omega)
      have E : Hid (fndI p.f l = -1) := Lib.hid (if_neg fun h9 => by
        obtain ⟨c2, e⟩ := fndF_has h9
        have := HK.out (fndF p.f l) (by omega)
        simp [hasF, e, c2] at this)
      go_wp2_with fail
      go_ret
      exact ⟨by rw [E.out]; rfl, rfl⟩
end
end Go.Proofs.YtmflkkkbahghgaaGreat
namespace Go.Proofs.YtmflkkkbahghgaaGreat
open Go.RowKit Go.Deep
set_option linter.unusedVariables false
set_option linter.unusedSimpArgs false
set_option maxRecDepth 100000

theorem infoFrame15 : (Tryz.prog.info? 44).map (fun i => (i.zero, i.size, i.bytes)) = some (some (.agg #[.int .i64 0, .string ByteArray.empty, .int .i64 0, .bool false, .bool false]), 5, 40) := by kernel_rfl
abbrev frW (x : Frm) : Value := .agg #[.int .i64 x.pg, .string x.b, .int .i64 (x.held : Int), .bool x.di, .bool x.us]
abbrev frC (x : Frm) : Obj := .cells #[.int .i64 x.pg, .string x.b, .int .i64 (x.held : Int), .bool x.di, .bool x.us] 44 (0, 0)
section
variable {base Q R : Nat} {p : Plt} {u : World}
/-- the five cells of a frame of the row are written -/
theorem frow_put {base : Nat} {f : List Frm} {b c i : Nat} {w : World} (x : Frm) (hi : i < f.length) (hr : RowB 44 5 b (frG f) f.length (.slice (some ⟨b, 0, none⟩) f.length c) w) (hb : base ≤ b) : FRow base (f.set i x) (.slice (some ⟨b, 0, none⟩) f.length c) (((((w.setCell ⟨b, i * 5, none⟩ (.int .i64 x.pg)).setCell ⟨b, i * 5 + 1, none⟩ (.string x.b)).setCell ⟨b, i * 5 + 2, none⟩ (.int .i64 (x.held : Int))).setCell ⟨b, i * 5 + 3, none⟩ (.bool x.di)).setCell ⟨b, i * 5 + 4, none⟩ (.bool x.us)) := by
  have R1 := hr.set1 (i := i) (j := 0) hi (by omega) (.int .i64 x.pg) (G2 := fun p q => if p = i ∧ q < 1 then frV x q else frG f p q) (if_pos ⟨rfl, by omega⟩) (fun p _ q _ h => if_neg fun h9 => h ⟨h9.1, by omega⟩)
  have R2 := R1.set1 (i := i) (j := 1) hi (by omega) (.string x.b) (G2 := fun p q => if p = i ∧ q < 2 then frV x q else frG f p q) (if_pos ⟨rfl, by omega⟩) (fun p _ q _ h => by
    by_cases c : p = i ∧ q < 1
    · rw [if_pos c, if_pos ⟨c.1, by omega⟩]
    · rw [if_neg c, if_neg fun h9 => h ⟨h9.1, by have : ¬ q < 1 := fun h8 => c ⟨h9.1, h8⟩; omega⟩])
  have R3 := R2.set1 (i := i) (j := 2) hi (by omega) (.int .i64 (x.held : Int)) (G2 := fun p q => if p = i ∧ q < 3 then frV x q else frG f p q) (if_pos ⟨rfl, by omega⟩) (fun p _ q _ h => by
    by_cases c : p = i ∧ q < 2
    · rw [if_pos c, if_pos ⟨c.1, by omega⟩]
    · rw [if_neg c, if_neg fun h9 => h ⟨h9.1, by have : ¬ q < 2 := fun h8 => c ⟨h9.1, h8⟩; omega⟩])
  have R4 := R3.set1 (i := i) (j := 3) hi (by omega) (.bool x.di) (G2 := fun p q => if p = i ∧ q < 4 then frV x q else frG f p q) (if_pos ⟨rfl, by omega⟩) (fun p _ q _ h => by
    by_cases c : p = i ∧ q < 3
    · rw [if_pos c, if_pos ⟨c.1, by omega⟩]
    · rw [if_neg c, if_neg fun h9 => h ⟨h9.1, by have : ¬ q < 3 := fun h8 => c ⟨h9.1, h8⟩; omega⟩])
  have R5 := R4.set1 (i := i) (j := 4) hi (by omega) (.bool x.us) (G2 := frG (f.set i x)) (by unfold frG; rw [frA_set, if_pos ⟨rfl, hi⟩]; rfl) (fun p hp q hq h => by
    unfold frG
    rw [frA_set]
    by_cases c : p = i ∧ q < 4
    · rw [if_pos c, if_pos ⟨c.1, hi⟩]
    · rw [if_neg c, if_neg fun h9 => h ⟨h9.1, by have : ¬ q < 4 := fun h8 => c ⟨h9.1, h8⟩; omega⟩])
  rw [Nat.add_zero] at R5
  have hl : (f.set i x).length = f.length := List.length_set
  unfold FRow
  rw [hl]
  exact .inr ⟨by omega, b, c, rfl, hb, R5⟩
set_option maxHeartbeats 3200000 in
theorem rset15_any (h : RPl base Q R p u) (hl : p.f.length ≤ 32) (hbase : base ≤ u.heap.size) (i : Nat) (hi : i < p.f.length) (x : Frm) : Calls Tryz.prog 78 #[.pointer (some ⟨R, 0, none⟩), .int .i64 (i : Int), frW x] u fun r u' => r = .returned (.tuple #[]) ∧ RQ base Q R { p with f := p.f.set i x } u u' := by
  obtain ⟨i0, hi0, hz0, hz1, hz2⟩ := info_parts infoFrame15
  have H := Lib.hid h
  have LR := h.lt
  obtain ⟨v, e, hf, n1, n2⟩ := h.box
  obtain ⟨a, c, rfl⟩ := hf.form
  have HBASE := Lib.hid hbase
  clear h n1 n2 hbase
  have X0 := Lib.hid (heap_alloc_new u (frC x))
  have B0 := Lib.hid (balloc u (frC x))
  have F := Lib.hid (hf.below B0.out)
  have e1 := (B0.out.block R LR).trans e
  have E1 := Lib.hid e1
  have x1 : (u.alloc (frC x)).cell? ⟨R, 1, none⟩ = some (.slice a p.f.length c) := by rw [Lib.cell_of_heap e1]; rfl
  clear hf e e1
  go_enter Tryz.func78, Tryz.ntmps78
  go_upto_region 1 with fail
  obtain ⟨C, hC⟩ : ∃ C, C = u.heap.size := ⟨_, rfl⟩
  rw [← hC] at X0 B0 LR ⊢
  have HC := Lib.hid hC
  clear hC
  generalize u.alloc (frC x) = u1 at *
  have X1 := Lib.hid (heap_alloc_new u1 (.cells #[] 44))
  have B1 := Lib.hid (balloc u1 (.cells #[] 44))
  have LC := Lib.hid (lt_of_block X0.out)
  have OE := Lib.hid (own_empty14 (C := 5) (base := u1.heap.size) X1.out (Nat.le_refl _))
  have SL := Lib.hid (F.out.below B1.out).sl
  have LR1 : Hid (R < u1.heap.size) := Lib.hid (lt_of_block E1.out)
  have x1b : (u1.alloc (.cells #[] 44)).cell? ⟨R, 1, none⟩ = some (.slice a p.f.length c) := by rw [Lib.cell_of_heap ((B1.out.block R LR1.out).trans E1.out)]; rfl
  clear x1
  go_wp2_with (at_builtin; refine wpList_append_any rfl _ _ 40 rfl u1.heap.size 44 i0 (.agg #[.int .i64 0, .string ByteArray.empty, .int .i64 0, .bool false, .bool false]) 5 40 Tryz.underlying40 hi0 hz0 hz1 hz2 rfl (by decide) (.slice (some ⟨u1.heap.size, 0, none⟩) 0 0) 0 [] rfl OE.out (frG p.f) p.f.length _ rfl SL.out (fun i _ j _ => frV_one _ j) (by unfold maxLen; omega) (by omega) B1.out.size p.f.length (by omega) ?_)
  intro a2 c2 w2 ho2 hg2
  have O2 := Lib.hid ho2
  have W2 : Hid (Below u1.heap.size u1 w2) := Lib.hid (B1.out.trans ((Below.refl _ _).grown hg2 B1.out.size (fun g hg => by
    simp only [Value.ownBlock, Option.some.injEq] at hg
    omega)))
  clear ho2 hg2 SL OE X1 B1 x1b
  obtain ⟨b, hb, hv, hr⟩ := RowB.of O2.out (by omega)
  obtain ⟨c9, e9, _⟩ := hr.v
  simp only [Value.slice.injEq, true_and] at e9
  obtain ⟨rfl, rfl⟩ := e9
  have HR := Lib.hid hr
  have HB := Lib.hid hb
  have y0 := hr.c i hi 0 (by omega)
  have y1 := hr.c i hi 1 (by omega)
  have y2 := hr.c i hi 2 (by omega)
  have y3 := hr.c i hi 3 (by omega)
  have y4 := hr.c i hi 4 (by omega)
  have g0 := hr.frozen (i * 5)
  have g1 := hr.frozen (i * 5 + 1)
  have g2 := hr.frozen (i * 5 + 2)
  have g3 := hr.frozen (i * 5 + 3)
  have g4 := hr.frozen (i * 5 + 4)
  rw [Nat.add_zero] at y0
  have X9 := Lib.hid ((W2.out.block C LC.out).trans X0.out)
  have z0 : w2.cell? ⟨C, 0, none⟩ = some (.int .i64 x.pg) := by rw [Lib.cell_of_heap X9.out]; rfl
  have z1 : w2.cell? ⟨C, 1, none⟩ = some (.string x.b) := by rw [Lib.cell_of_heap X9.out]; rfl
  have z2 : w2.cell? ⟨C, 2, none⟩ = some (.int .i64 (x.held : Int)) := by rw [Lib.cell_of_heap X9.out]; rfl
  have z3 : w2.cell? ⟨C, 3, none⟩ = some (.bool x.di) := by rw [Lib.cell_of_heap X9.out]; rfl
  have z4 : w2.cell? ⟨C, 4, none⟩ = some (.bool x.us) := by rw [Lib.cell_of_heap X9.out]; rfl
  have E2 := Lib.hid ((W2.out.block R LR1.out).trans E1.out)
  have q1 : w2.cell? ⟨R, 1, none⟩ = some (.slice a p.f.length c) := by rw [Lib.cell_of_heap E2.out]; rfl
  have qf := Lib.frozen_of_heap E2.out 1
  have F9 : Hid (RQ base Q R { p with f := p.f.set i x } u ((((((w2.setCell ⟨b, i * 5, none⟩ (.int .i64 x.pg)).setCell ⟨b, i * 5 + 1, none⟩ (.string x.b)).setCell ⟨b, i * 5 + 2, none⟩ (.int .i64 (x.held : Int))).setCell ⟨b, i * 5 + 3, none⟩ (.bool x.di)).setCell ⟨b, i * 5 + 4, none⟩ (.bool x.us)).setCell ⟨R, 1, none⟩ (.slice (some ⟨b, 0, none⟩) p.f.length c2))) := Lib.hid (by
    have hu := B0.out.size
    have hbb : Below C u u1 := B0.out
    have hc := HC.out
    have hW := ((((W2.out.setCell (p := ⟨b, i * 5, none⟩) HB.out (.int .i64 x.pg)).setCell (p := ⟨b, i * 5 + 1, none⟩) HB.out (.string x.b)).setCell (p := ⟨b, i * 5 + 2, none⟩) HB.out (.int .i64 (x.held : Int))).setCell (p := ⟨b, i * 5 + 3, none⟩) HB.out (.bool x.di)).setCell (p := ⟨b, i * 5 + 4, none⟩) HB.out (.bool x.us)
    rw [hc] at hbb
    refine H.out.wrote (b6 := u1.heap.size) (hbb.trans (Below.mono hW hbb.size)) (frow_put x hi HR.out HB.out) hbb.size HBASE.out)
  clear hr hb hv
  go_upto_region 3 with fail
  have E5 : Hid ((((((w2.setCell ⟨b, i * 5, none⟩ (.int .i64 x.pg)).setCell ⟨b, i * 5 + 1, none⟩ (.string x.b)).setCell ⟨b, i * 5 + 2, none⟩ (.int .i64 (x.held : Int))).setCell ⟨b, i * 5 + 3, none⟩ (.bool x.di)).setCell ⟨b, i * 5 + 4, none⟩ (.bool x.us)).heap[R]? = w2.heap[R]?) := Lib.hid (by
    have hn : R ≠ b := by have := HB.out; have := LR1.out; omega
    rw [set_else12 _ hn, set_else12 _ hn, set_else12 _ hn, set_else12 _ hn, set_else12 _ hn])
  generalize ((((w2.setCell ⟨b, i * 5, none⟩ (.int .i64 x.pg)).setCell ⟨b, i * 5 + 1, none⟩ (.string x.b)).setCell ⟨b, i * 5 + 2, none⟩ (.int .i64 (x.held : Int))).setCell ⟨b, i * 5 + 3, none⟩ (.bool x.di)).setCell ⟨b, i * 5 + 4, none⟩ (.bool x.us) = w5 at *
  have q5 : w5.cell? ⟨R, 1, none⟩ = some (.slice a p.f.length c) := by rw [Lib.cell_of_heap (E5.out.trans E2.out)]; rfl
  have qf5 := Lib.frozen_of_heap (E5.out.trans E2.out) 1
  clear y0 y1 y2 y3 y4 z0 z1 z2 z3 z4 g0 g1 g2 g3 g4 q1 qf
  go_wp2_with fail
  exact bodyPost_end (v := .tuple #[]) (by simp [results, Tryz.results78, go_sem]) rfl ⟨rfl, F9.out⟩
end
end Go.Proofs.YtmflkkkbahghgaaGreat
namespace Go.Proofs.YtmflkkkbahghgaaGreat
open Go.RowKit Go.Deep
set_option linter.unusedVariables false
set_option linter.unusedSimpArgs false
set_option maxRecDepth 100000

def reaB (x : Stt) (l : Int) : ByteArray := if inS x.now l then (slA x.now l.toNat).b else ByteArray.empty
def reaE (x : Stt) (l : Int) : Int := if inS x.now l then 0 else 3
section
variable {base Q R : Nat} {p : Plt} {u : World}
set_option maxHeartbeats 3200000 in
theorem rread15_any (h : RPl base Q R p u) (hl : p.x.now.length ≤ 512) (l : Int) : Calls Tryz.prog 79 #[.pointer (some ⟨R, 0, none⟩), .int .i64 l] u fun r u' => r = .returned (.tuple #[.string (reaB p.x l), .int .i64 (reaE p.x l)]) ∧ u' = u := by
  obtain ⟨a, c, x0, x1, x2, hf, f0, f1, f2⟩ := h.cells
  obtain ⟨a1, c1, a2, c2, y0, y1, y2, y3, h1, h2, g1, g2, g3, e, n1, n2⟩ := h.st.cells
  have S := Lib.hid h1
  clear h hf h1 h2 x1 x2 f1 f2 y0 y2 y3 g2 g3 e n1 n2
  go_enter Tryz.func79, Tryz.ntmps79
  by_cases hneg : l < 0
  · have d1 : decide (l < 0) = true := decide_eq_true hneg
    have E : Hid (reaB p.x l = ByteArray.empty ∧ reaE p.x l = 3) := Lib.hid ⟨if_neg fun h9 => by have := h9.1; omega, if_neg fun h9 => by have := h9.1; omega⟩
    go_wp2_with fail
    go_ret2
    exact ⟨by rw [E.out.1, E.out.2]; rfl, rfl⟩
  · have d1 : decide (l < 0) = false := decide_eq_false hneg
    obtain ⟨n, rfl⟩ := Int.eq_ofNat_of_zero_le (show 0 ≤ l by omega)
    by_cases hlt : n < p.x.now.length
    · have hlt2 : ¬ ((p.x.now.length : Int) ≤ (n : Int)) := by omega
      have d2 : decide ((p.x.now.length : Int) ≤ (n : Int)) = false := decide_eq_false hlt2
      have hn0 : (0 : Int) ≤ (n : Int) := by omega
      have hn1 : (n : Int) < (p.x.now.length : Int) := by omega
      obtain ⟨_, b, ha, _, z0, _, z2⟩ := S.out.look hlt
      subst ha
      by_cases hz : isS p.x.now n = true
      · rw [show (slA p.x.now n).is = true from hz] at z0
        have hi : inS p.x.now (n : Int) := ⟨hn0, by simpa using hz⟩
        have E : Hid (reaB p.x (n : Int) = (slA p.x.now n).b ∧ reaE p.x (n : Int) = 0) := Lib.hid ⟨if_pos hi, if_pos hi⟩
        clear hi
        go_wp2_with fail
        go_ret2
        exact ⟨by rw [E.out.1, E.out.2]; rfl, rfl⟩
      · rw [show (slA p.x.now n).is = false by simpa [isS] using hz] at z0
        have hi : ¬ inS p.x.now (n : Int) := fun h9 => hz (by simpa using h9.2)
        have E : Hid (reaB p.x (n : Int) = ByteArray.empty ∧ reaE p.x (n : Int) = 3) := Lib.hid ⟨if_neg hi, if_neg hi⟩
        clear hi
        go_wp2_with fail
        go_ret2
        exact ⟨by rw [E.out.1, E.out.2]; rfl, rfl⟩
    · have hlt2 : (p.x.now.length : Int) ≤ (n : Int) := by omega
      have d2 : decide ((p.x.now.length : Int) ≤ (n : Int)) = true := decide_eq_true hlt2
      have hi : ¬ inS p.x.now (n : Int) := fun h9 => by
        have := h9.2
        rw [isS_out (by omega)] at this
        cases this
      have E : Hid (reaB p.x (n : Int) = ByteArray.empty ∧ reaE p.x (n : Int) = 3) := Lib.hid ⟨if_neg hi, if_neg hi⟩
      clear hi
      go_wp2_with fail
      go_ret2
      exact ⟨by rw [E.out.1, E.out.2]; rfl, rfl⟩
end
end Go.Proofs.YtmflkkkbahghgaaGreat
namespace Go.Proofs.YtmflkkkbahghgaaGreat
open Go.RowKit Go.Deep
set_option linter.unusedVariables false
set_option linter.unusedSimpArgs false
set_option maxRecDepth 100000

/-- limits -/
structure OkR (p : Plt) : Prop where
  now : p.x.now.length ≤ 512
  old : p.x.old.length ≤ 512
  many : 0 ≤ p.x.many ∧ p.x.many ≤ 100000
  ep : 0 ≤ p.x.ep ∧ p.x.ep ≤ 1000000
  len : 1 ≤ p.f.length ∧ p.f.length ≤ 32
  hand : p.hand < p.f.length
  held : ∀ i, (frA p.f i).held ≤ 2000000
  b : ∀ i, (frA p.f i).b.size ≤ 232
section
variable {base Q R : Nat} {p : Plt} {u : World}
set_option maxHeartbeats 3200000 in
theorem rback15_any (h : RPl base Q R p u) (ok : OkR p) (hbase : base ≤ u.heap.size) (i : Nat) (hi : i < p.f.length) : Calls Tryz.prog 53 #[.pointer (some ⟨R, 0, none⟩), .int .i64 (i : Int)] u fun r u' => r = .returned (.int .i64 (bakE p i)) ∧ RQ base Q R (bakP p i) u u' := by
  obtain ⟨i0, hi0, hz0, hz1, hz2⟩ := info_parts infoFrame15
  obtain ⟨a, c, x0, x1, x2, hf, f0, f1, f2⟩ := h.cells
  obtain ⟨b, ha, y0, y1, y2, y3, y4⟩ := FRow.look hf hi
  subst ha
  have H := Lib.hid h
  have OK := Lib.hid ok
  have HBASE := Lib.hid hbase
  have hj1 : (i : Int) < (p.f.length : Int) := by omega
  have hj2 : (0 : Int) ≤ (i : Int) := by omega
  clear h hf x2 f2 ok hbase
  by_cases hd : (frA p.f i).di = true
  · rw [hd] at y3
    have hy := OK.out.b i
    have EB : Hid (bakE p i = putWE p.x (frA p.f i).pg (frA p.f i).b) := Lib.hid (if_pos hd)
    have EP : Hid (bakP p i = { p with x := putWX p.x (frA p.f i).pg (frA p.f i).b, f := if putWE p.x (frA p.f i).pg (frA p.f i).b = 0 then p.f.set i { frA p.f i with di := false } else p.f }) := Lib.hid (if_pos hd)
    clear hd
    go_enter Tryz.func53, Tryz.ntmps53
    go_upto_region 4 with fail
    obtain ⟨C, hC⟩ : ∃ C, C = u.heap.size := ⟨_, rfl⟩
    have X0 := Lib.hid (heap_alloc_new u (.cells #[.int .i64 (frA p.f i).pg, .string (frA p.f i).b, .int .i64 ((frA p.f i).held : Int), .bool true, .bool (frA p.f i).us] 44))
    have B0 := Lib.hid (balloc u (.cells #[.int .i64 (frA p.f i).pg, .string (frA p.f i).b, .int .i64 ((frA p.f i).held : Int), .bool true, .bool (frA p.f i).us] 44))
    have Q0 := Lib.hid (H.out.stays B0.out)
    rw [← hC] at X0 ⊢
    have HC := Lib.hid hC
    clear x0 x1 f0 f1 y0 y1 y2 y3 y4 hC
    generalize u.alloc (.cells #[.int .i64 (frA p.f i).pg, .string (frA p.f i).b, .int .i64 ((frA p.f i).held : Int), .bool true, .bool (frA p.f i).us] 44) = w1 at *
    obtain ⟨a9, c9, v0, v1, v2, _, _, _, _⟩ := Q0.out.1.cells
    have c0 : w1.cell? ⟨C, 0, none⟩ = some (.int .i64 (frA p.f i).pg) := by rw [Lib.cell_of_heap X0.out]; rfl
    have c1 : w1.cell? ⟨C, 1, none⟩ = some (.string (frA p.f i).b) := by rw [Lib.cell_of_heap X0.out]; rfl
    refine wp_region_held_drew (S := (fun w' => w'.cell? ⟨R, 0, none⟩ = some (.pointer (some ⟨Q, 0, none⟩)) ∧ w'.cell? ⟨C, 0, none⟩ = some (.int .i64 (frA p.f i).pg) ∧ w'.cell? ⟨C, 1, none⟩ = some (.string (frA p.f i).b))) (by kernel_rfl) ⟨v0, c0, c1⟩ (fun hHeld => ?_)
    change wpAnyH _ _ _ _ _ _ _ _ (World.drew w1)
    have QD := Lib.hid (Q0.out.trans (Q0.out.1.stays (bdrew w1)))
    have BW := Lib.hid (B0.out.trans (Below.mono (bdrew w1) B0.out.size))
    have XD := Lib.hid (((bdrew w1).block C (lt_of_block X0.out)).trans X0.out)
    clear v0 v1 v2 c0 c1
    generalize World.drew w1 = wd at *
    first | refine tq0 0 rfl ?_ | refine tq1 0 rfl ?_
    try go_frame
    first | refine tq0 1 rfl ?_ | refine tq1 1 rfl ?_
    try go_frame
    first | refine tq0 2 rfl ?_ | refine tq1 2 rfl ?_
    try go_frame
    first | refine tq0 3 rfl ?_ | refine tq1 3 rfl ?_
    try go_frame
    first | refine tq0 4 rfl ?_ | refine tq1 4 rfl ?_
    try go_frame
    first | refine tq0 5 rfl ?_ | refine tq1 5 rfl ?_
    try go_frame
    first | refine tq0 6 rfl ?_ | refine tq1 6 rfl ?_
    try go_frame
    first | refine tq0 7 rfl ?_ | refine tq1 7 rfl ?_
    try go_frame
    have HW := Lib.hid (rwrite14_any QD.out.1.st OK.out.now OK.out.old OK.out.many (Nat.le_trans HBASE.out QD.out.2.1.size) (frA p.f i).pg (frA p.f i).b (by omega))
    refine wpAnyH_ready (rs := [8]) (by kernel_rfl) (by simp) ?_
    refine AllReadyH.cons (o := ⟨_, _, _, _, _, _⟩) rfl (fun Kx hKx => ?_) AllReadyH.nil
    go_simp
    go_at_call 96
    refine (HW.out).mono ?_
    rintro e9 w7 ⟨rfl, hrp⟩
    have QS1 := Lib.hid (QD.out.1.stored hrp)
    have QS := Lib.hid (QD.out.trans QS1.out)
    have NC : Hid (∀ k, Rp Q R w7 k → k ≠ C) := Lib.hid (fun k hk h9 => by
      rcases QS1.out.2.2 k hk with h1 | h1
      · have h2 := (H.out.rlt (rp_below H.out BW.out h1)).2
        have := HC.out
        omega
      · have := lt_of_block XD.out
        omega)
    have CQ : Hid (C ≠ Q) := Lib.hid (by have := H.out.st.lt; have := HC.out; omega)
    have X7 := Lib.hid ((hrp.2.1.blk (lt_of_block XD.out) (Q1.no CQ.out)).trans XD.out)
    clear hrp HW
    have q0 : w7.cell? ⟨R, 0, none⟩ = some (.pointer (some ⟨Q, 0, none⟩)) := QS.out.1.cells.choose_spec.choose_spec.1
    have q1 : w7.cell? ⟨C, 0, none⟩ = some (.int .i64 (frA p.f i).pg) := by rw [Lib.cell_of_heap X7.out]; rfl
    have q2 : w7.cell? ⟨C, 1, none⟩ = some (.string (frA p.f i).b) := by rw [Lib.cell_of_heap X7.out]; rfl
    refine hKx.out _ _ ⟨q0, q1, q2⟩ (fun hHeld => ?_)
    clear hKx Kx q0 q1 q2
    try simp only [Act.put, List.setIfInBounds_toArray, List.set_cons_zero, List.set_cons_succ]
    first | refine tq0 9 rfl ?_ | refine tq1 9 rfl ?_
    try go_frame
    refine wpAnyH_done (by kernel_rfl) ?_ _
    clear hHeld
    generalize putWE p.x (frA p.f i).pg (frA p.f i).b = e at *
    by_cases he : e = 0
    · subst he
      have z3 : w7.cell? ⟨C, 3, none⟩ = some (.bool true) := by rw [Lib.cell_of_heap X7.out]; rfl
      have g3 := Lib.frozen_of_heap X7.out 3
      have K8 : Hid (RQ base Q R { p with x := putWX p.x (frA p.f i).pg (frA p.f i).b } u (w7.setCell ⟨C, 3, none⟩ (.bool false))) := Lib.hid (by
        obtain ⟨hk, hr⟩ := QS.out.1.kept (S := Q1 C) (fun k hk => Q1.no (NC.out k hk)) (KpS.set (Q1.a C) 3 (.bool false) w7)
        refine ⟨hk, QS.out.2.1.low ((Below.refl _ _).setCell (p := ⟨C, 3, none⟩) (by have := HC.out; show u.heap.size ≤ C; omega) _), fun k h9 => QS.out.2.2 k (hr k h9)⟩)
      have X8 := Lib.hid (Joins.block_setCell (i := 3) X7.out (.bool false))
      go_upto_region 7 with fail
      clear z3 g3
      generalize w7.setCell ⟨C, 3, none⟩ (.bool false) = w8 at *
      have v0 : w8.cell? ⟨C, 0, none⟩ = some (.int .i64 (frA p.f i).pg) := by rw [Lib.cell_of_heap X8.out]; rfl
      have v1 : w8.cell? ⟨C, 1, none⟩ = some (.string (frA p.f i).b) := by rw [Lib.cell_of_heap X8.out]; rfl
      have v2 : w8.cell? ⟨C, 2, none⟩ = some (.int .i64 ((frA p.f i).held : Int)) := by rw [Lib.cell_of_heap X8.out]; rfl
      have v3 : w8.cell? ⟨C, 3, none⟩ = some (.bool false) := by rw [Lib.cell_of_heap X8.out]; rfl
      have v4 : w8.cell? ⟨C, 4, none⟩ = some (.bool (frA p.f i).us) := by rw [Lib.cell_of_heap X8.out]; rfl
      have HT := Lib.hid (rset15_any K8.out.1 OK.out.len.2 (Nat.le_trans HBASE.out K8.out.2.1.size) i hi { frA p.f i with di := false })
      go_wp2_with fail
      refine (HT.out).mono ?_
      rintro r w9 ⟨rfl, hq⟩
      have F : Hid (RQ base Q R (bakP p i) u w9) := Lib.hid (by rw [EP.out]; simp only [if_true]; exact K8.out.trans hq)
      clear hq v0 v1 v2 v3 v4
      go_wp2_with fail
      go_ret
      exact ⟨by rw [EB.out]; rfl, F.out⟩
    · have d1 : (e == 0) = false := by simp [he]
      have F : Hid (RQ base Q R (bakP p i) u w7) := Lib.hid (by rw [EP.out, if_neg he]; exact QS.out)
      go_wp2_with fail
      go_ret
      exact ⟨by rw [EB.out]; rfl, F.out⟩
  · have hd' : (frA p.f i).di = false := by simpa using hd
    rw [hd'] at y3
    have E1 : Hid (bakE p i = 0) := Lib.hid (if_neg hd)
    have E2 : Hid (bakP p i = p) := Lib.hid (if_neg hd)
    clear hd hd'
    go_enter Tryz.func53, Tryz.ntmps53
    go_wp2_with fail
    go_ret
    exact ⟨by rw [E1.out]; rfl, by rw [E2.out]; exact H.out.stays (balloc _ _)⟩
end
end Go.Proofs.YtmflkkkbahghgaaGreat
