/- What the laws of plain have in common: a model's numbers outside its lists; a model that came in, not too great. The contract of the document's Same, at the same lists of what was handled. PlainParts, walked. Both simulations, step by step. -/
import Derived.Test.YthkfaeplmmlnlaaGreatRZ34
import Derived.Test.YthkfaeplmmlnlaaGreatRZ11
import Derived.Test.YthkfaeplmmlnlaaGreatRZ8
import Derived.Test.YthkfaeplmmlnlaaGreatRZ0
import Derived.Test.YthkfaeplmmlnlaaGreatRPlRStep
namespace Go.Proofs.YthkfaeplmmlnlaaGreat
open Go.RowKit Go.Deep Go.Maps
set_option linter.unusedVariables false
set_option maxRecDepth 100000

theorem r64_r64v {x : Int} (h : r64 x) : r64v x := by unfold r64 at h; unfold r64v; omega
/-- the same model: what stands outside its lists is nought -/
theorem mdl_clamp {m : Mdl} {vd vp vl vi : Value} {w : World} (hm : MdlAt m vd vp vl vi w) (hr : Rng m) : ∃ m2, MdlAt m2 vd vp vl vi w ∧ MdlR m2 ∧ m2.seed = m.seed ∧ m2.fin = m.fin := by
  refine ⟨⟨m.seed, m.fin, m.nd, m.d, m.np, m.pl, fun p k => if p < m.np ∧ k < m.pl p then m.pr p k else ⟨0, 0, 0, 0⟩, m.nl, m.lp, m.wl, fun i k => if i < m.nl ∧ k < m.wl i then m.wd i k else 0, m.ni, fun i => if i < m.ni then m.ev i else ⟨0, 0, 0⟩⟩, ?_, ?_, rfl, rfl⟩
  · obtain ⟨gp, p1, p2⟩ := hm.p
    obtain ⟨gl, l1, l2⟩ := hm.l
    refine ⟨hm.d, ⟨gp, p1, fun i hi => (p2 i hi).congr fun k hk j hj => ?_⟩, ⟨gl, l1, fun i hi => (l2 i hi).congr fun k hk j hj => ?_⟩, hm.i.congr fun i hi j hj => ?_⟩
    · have e : (if i < m.np ∧ k < m.pl i then m.pr i k else ⟨0, 0, 0, 0⟩) = m.pr i k := if_pos ⟨hi, hk⟩
      unfold gI
      rcases j with _ | _ | _ | j <;> simp only [e]
    · show Value.int .i64 (m.wd i k) = .int .i64 (if i < m.nl ∧ k < m.wl i then m.wd i k else 0)
      rw [if_pos ⟨hi, hk⟩]
    · have e : (if i < m.ni then m.ev i else ⟨0, 0, 0⟩) = m.ev i := if_pos hi
      unfold gE
      rcases j with _ | _ | j <;> simp only [e]
  · have z : r64v 0 := by unfold r64v; decide
    refine ⟨fun p k => ?_, fun i k => ?_, fun i => ?_⟩
    · show r64v (if p < m.np ∧ k < m.pl p then m.pr p k else ⟨0, 0, 0, 0⟩).b
      split
      · rename_i c; exact r64_r64v (hr.pr p c.1 k c.2).2.2.1
      · exact z
    · show r64v (if i < m.nl ∧ k < m.wl i then m.wd i k else 0)
      split
      · rename_i c; exact r64_r64v (hr.wd i c.1 k c.2)
      · exact z
    · show r64v (if i < m.ni then m.ev i else ⟨0, 0, 0⟩).pay
      split
      · rename_i c; exact r64_r64v (hr.ev i c).2.2
      · exact z
/-- each event that is handled -/
theorem dn_ok {m : Mdl} {k : Nat} {x : Sm} (h : InvP m k x) (hw : x.W ≠ []) : GoodE m x.S (dnP m x).e ∧ ∃ r, x.W = (dnP m x).e :: r := by
  unfold dnP
  cases hW : x.W with
  | nil => exact absurd hW hw
  | cons e r => exact ⟨h.ev e (by rw [hW]; exact List.mem_cons_self), r, rfl⟩
theorem inv_from {m : Mdl} (hc : chkN m = 0) (hr : MdlR m) {k : Nat} {x : Sm} (h : InvP m k x) : ∀ (i : Nat), k + i ≤ 1000000 → InvP m (k + i) (stepsP m i x)
  | 0, _ => h
  | i + 1, hi => by rw [stepsP_succ]; exact inv_step hc hr (show k + i ≤ 1000000 by omega) (inv_from hc hr h i (by omega))
theorem dn_order {m : Mdl} (hc : chkN m = 0) (hr : MdlR m) {k : Nat} {x : Sm} (h : InvP m k x) {i : Nat} (hi : k + i ≤ 100000) (h1 : (stepsP m i x).W ≠ []) (h2 : (stepsP m (i + 1) x).W ≠ []) : ordE (dnF m x i).e (dnF m x (i + 1)).e ≤ 0 := by
  have I := inv_from hc hr h i (by omega)
  have I2 := inv_from hc hr h (i + 1) (by omega)
  obtain ⟨_, r, e1⟩ := dn_ok I h1
  obtain ⟨_, r2, e2⟩ := dn_ok I2 h2
  have := step_later hc hr (by omega) I e1 (dnP m (stepsP m (i + 1) x)).e (by rw [← stepsP_succ, e2]; exact List.mem_cons_self)
  exact this
theorem dn_fin {m : Mdl} (hc : chkN m = 0) (hr : MdlR m) {k : Nat} {x : Sm} (h : InvP m k x) {i : Nat} (hi : k + i ≤ 100000) (h1 : (stepsP m i x).W ≠ []) : isNum (dnF m x i).e.t ∧ leqF (dnF m x i).e.t m.fin = true := by
  have I := inv_from hc hr h i (by omega)
  obtain ⟨g, _⟩ := dn_ok I h1
  exact ⟨g.num, g.fin⟩

end Go.Proofs.YthkfaeplmmlnlaaGreat
namespace Go.Proofs.YthkfaeplmmlnlaaGreat
open Go.RowKit Go.Deep
set_option linter.unusedVariables false
set_option maxRecDepth 100000

set_option maxHeartbeats 3200000 in
theorem sameDn_refl (D : Nat → Dn) (n : Nat) (va vb : Value) (w : World) (ha : Sl 6 (gD D) n va w) (hb : Sl 6 (gD D) n vb w) :
    Calls Tryz.prog 12 #[va, vb] w fun e w' => e = .returned (.bool true) ∧ Below w.heap.size w w' := by
  obtain ⟨aa, ca, rfl, m1, m2, k1⟩ := ha
  obtain ⟨ab, cb, rfl, m3, m4, k2⟩ := hb
  have K1 := Lib.hid k1
  have K2 := Lib.hid k2
  clear k1 k2
  go_enter Tryz.func12, Tryz.ntmps12
  go_wp2_with fail
  go_loopw [5] (fun x wr => ∃ j : Nat, j ≤ n ∧ x = .int .i64 j ∧ Below w.heap.size w wr) (fun x _ => n - (intOf x).toNat)
  case atStart => exact ⟨0, Nat.zero_le _, rfl, Below.refl _ _⟩
  case round =>
    obtain ⟨j, hj, rfl, hl⟩ := hrel
    have HL := Lib.hid hl
    by_cases hlt : j < n
    · obtain ⟨b1, o1, rfl, h1⟩ := K1.out (by omega)
      obtain ⟨b2, o2, rfl, h2⟩ := K2.out (by omega)
      have hj2 : (j : Int) < (n : Int) := by omega
      have hj0 : (0 : Int) ≤ (j : Int) := by omega
      have hjt : ((j : Nat) : Int).toNat = j := by omega
      have L0 := Lib.hid hl.drew
      have SS0 : Hid (∀ w', Below w.heap.size w w' → (∀ c, c < 6 → w'.cell? ⟨b1, o1 + j * 6 + c, none⟩ = some (gD D j c)) ∧ (∀ c, c < 6 → w'.cell? ⟨b2, o2 + j * 6 + c, none⟩ = some (gD D j c))) := fun w' k => ⟨fun c hc => (h1.below k).2 j hlt c hc, fun c hc => (h2.below k).2 j hlt c hc⟩
      have SS : Hid (∀ w', Below w.heap.size w w' → (fun w' => w'.cell? ⟨b1, o1 + j * 6, none⟩ = some (.float .f64 (D j).e.t) ∧ w'.cell? ⟨b1, o1 + j * 6 + 1, none⟩ = some (.int .i64 (D j).e.src) ∧ w'.cell? ⟨b1, o1 + j * 6 + 2, none⟩ = some (.int .i64 (D j).e.n) ∧ w'.cell? ⟨b1, o1 + j * 6 + 3, none⟩ = some (.int .i64 (D j).e.dst) ∧ w'.cell? ⟨b1, o1 + j * 6 + 4, none⟩ = some (.int .i64 (D j).e.pay) ∧ w'.cell? ⟨b1, o1 + j * 6 + 5, none⟩ = some (.int .i64 (D j).f) ∧ w'.cell? ⟨b2, o2 + j * 6, none⟩ = some (.float .f64 (D j).e.t) ∧ w'.cell? ⟨b2, o2 + j * 6 + 1, none⟩ = some (.int .i64 (D j).e.src) ∧ w'.cell? ⟨b2, o2 + j * 6 + 2, none⟩ = some (.int .i64 (D j).e.n) ∧ w'.cell? ⟨b2, o2 + j * 6 + 3, none⟩ = some (.int .i64 (D j).e.dst) ∧ w'.cell? ⟨b2, o2 + j * 6 + 4, none⟩ = some (.int .i64 (D j).e.pay) ∧ w'.cell? ⟨b2, o2 + j * 6 + 5, none⟩ = some (.int .i64 (D j).f)) w') := fun w' k => by
        obtain ⟨s1, s2⟩ := SS0.out w' k
        exact ⟨s1 0 (by omega), s1 1 (by omega), s1 2 (by omega), s1 3 (by omega), s1 4 (by omega), s1 5 (by omega), s2 0 (by omega), s2 1 (by omega), s2 2 (by omega), s2 3 (by omega), s2 4 (by omega), s2 5 (by omega)⟩
      clear SS0 h1 h2 hl K1 K2
      generalize D j = q at *
      have HS := Lib.hid (same2_any q.e.t q.e.src q.e.n)
      have e3 : (q.e.dst != q.e.dst) = false := by simp
      have e4 : (q.e.pay != q.e.pay) = false := by simp
      have e5 : (q.f != q.f) = false := by simp
      go_wp2_with fail
      refine wp_region_held_drew (S := (fun w' => w'.cell? ⟨b1, o1 + j * 6, none⟩ = some (.float .f64 q.e.t) ∧ w'.cell? ⟨b1, o1 + j * 6 + 1, none⟩ = some (.int .i64 q.e.src) ∧ w'.cell? ⟨b1, o1 + j * 6 + 2, none⟩ = some (.int .i64 q.e.n) ∧ w'.cell? ⟨b1, o1 + j * 6 + 3, none⟩ = some (.int .i64 q.e.dst) ∧ w'.cell? ⟨b1, o1 + j * 6 + 4, none⟩ = some (.int .i64 q.e.pay) ∧ w'.cell? ⟨b1, o1 + j * 6 + 5, none⟩ = some (.int .i64 q.f) ∧ w'.cell? ⟨b2, o2 + j * 6, none⟩ = some (.float .f64 q.e.t) ∧ w'.cell? ⟨b2, o2 + j * 6 + 1, none⟩ = some (.int .i64 q.e.src) ∧ w'.cell? ⟨b2, o2 + j * 6 + 2, none⟩ = some (.int .i64 q.e.n) ∧ w'.cell? ⟨b2, o2 + j * 6 + 3, none⟩ = some (.int .i64 q.e.dst) ∧ w'.cell? ⟨b2, o2 + j * 6 + 4, none⟩ = some (.int .i64 q.e.pay) ∧ w'.cell? ⟨b2, o2 + j * 6 + 5, none⟩ = some (.int .i64 q.f))) (by kernel_rfl) ?_ (fun hHeld => ?_)
      · exact SS.out _ L0.out
      change wpAnyH _ _ _ _ _ _ _ _ (World.drew wr)
      generalize wr.drew = u0 at *
      first | refine tq0 0 rfl ?_ | refine tq1 0 rfl ?_
      try go_frame
      first | refine tq0 1 rfl ?_ | refine tq1 1 rfl ?_
      try go_frame
      first | refine tq0 2 rfl ?_ | refine tq1 2 rfl ?_
      try go_frame
      first | refine tq0 3 rfl ?_ | refine tq1 3 rfl ?_
      try go_frame
      first | refine tq0 4 rfl ?_ | refine tq1 4 rfl ?_
      try go_frame
      first | refine tq0 5 rfl ?_ | refine tq1 5 rfl ?_
      try go_frame
      first | refine tq0 6 rfl ?_ | refine tq1 6 rfl ?_
      try go_frame
      first | refine tq0 7 rfl ?_ | refine tq1 7 rfl ?_
      try go_frame
      first | refine tq0 8 rfl ?_ | refine tq1 8 rfl ?_
      try go_frame
      first | refine tq0 9 rfl ?_ | refine tq1 9 rfl ?_
      try go_frame
      first | refine tq0 10 rfl ?_ | refine tq1 10 rfl ?_
      try go_frame
      first | refine tq0 11 rfl ?_ | refine tq1 11 rfl ?_
      try go_frame
      refine wpAnyH_ready (rs := [12]) (by kernel_rfl) (by simp) ?_
      refine AllReadyH.cons (o := ⟨_, _, _, _, _, _⟩) rfl (fun K hK => ?_) AllReadyH.nil
      go_simp
      go_at_call 32
      refine (HS.out _).mono ?_
      rintro e w1 ⟨rfl, hb1⟩
      have L1 := Lib.hid (bthen L0.out hb1)
      refine hK.out _ _ ?_ (fun hHeld => ?_)
      · exact SS.out _ L1.out
      clear hK K hb1
      try go_frame
      first | refine tq0 13 rfl ?_ | refine tq1 13 rfl ?_
      try go_frame
      first | refine tq0 14 rfl ?_ | refine tq1 14 rfl ?_
      try go_frame
      first | refine tq0 15 rfl ?_ | refine tq1 15 rfl ?_
      try go_frame
      first | refine tq0 16 rfl ?_ | refine tq1 16 rfl ?_
      try go_frame
      first | refine tq0 17 rfl ?_ | refine tq1 17 rfl ?_
      try go_frame
      first | refine tq0 18 rfl ?_ | refine tq1 18 rfl ?_
      try go_frame
      first | refine tq0 19 rfl ?_ | refine tq1 19 rfl ?_
      try go_frame
      first | refine tq0 20 rfl ?_ | refine tq1 20 rfl ?_
      try go_frame
      first | refine tq0 21 rfl ?_ | refine tq1 21 rfl ?_
      try go_frame
      first | refine tq0 22 rfl ?_ | refine tq1 22 rfl ?_
      try go_frame
      first | refine tq0 23 rfl ?_ | refine tq1 23 rfl ?_
      try go_frame
      first | refine tq0 24 rfl ?_ | refine tq1 24 rfl ?_
      try go_frame
      first | refine tq0 25 rfl ?_ | refine tq1 25 rfl ?_
      try go_frame
      first | refine tq0 26 rfl ?_ | refine tq1 26 rfl ?_
      try go_frame
      first | refine tq0 27 rfl ?_ | refine tq1 27 rfl ?_
      try go_frame
      first | refine tq0 28 rfl ?_ | refine tq1 28 rfl ?_
      try go_frame
      first | refine tq0 29 rfl ?_ | refine tq1 29 rfl ?_
      try go_frame
      first | refine tq0 30 rfl ?_ | refine tq1 30 rfl ?_
      try go_frame
      first | refine tq0 31 rfl ?_ | refine tq1 31 rfl ?_
      try go_frame
      first | refine tq0 32 rfl ?_ | refine tq1 32 rfl ?_
      try go_frame
      first | refine tq0 33 rfl ?_ | refine tq1 33 rfl ?_
      try go_frame
      first | refine tq0 34 rfl ?_ | refine tq1 34 rfl ?_
      try go_frame
      first | refine tq0 35 rfl ?_ | refine tq1 35 rfl ?_
      try go_frame
      first | refine tq0 36 rfl ?_ | refine tq1 36 rfl ?_
      try go_frame
      first | refine tq0 37 rfl ?_ | refine tq1 37 rfl ?_
      try go_frame
      first | refine tq0 38 rfl ?_ | refine tq1 38 rfl ?_
      try go_frame
      first | refine tq0 39 rfl ?_ | refine tq1 39 rfl ?_
      try go_frame
      first | refine tq0 40 rfl ?_ | refine tq1 40 rfl ?_
      try go_frame
      first | refine tq0 41 rfl ?_ | refine tq1 41 rfl ?_
      try go_frame
      first | refine tq0 42 rfl ?_ | refine tq1 42 rfl ?_
      try go_frame
      first | refine tq0 43 rfl ?_ | refine tq1 43 rfl ?_
      try go_frame
      first | refine tq0 44 rfl ?_ | refine tq1 44 rfl ?_
      try go_frame
      first | refine tq0 45 rfl ?_ | refine tq1 45 rfl ?_
      try go_frame
      first | refine tq0 46 rfl ?_ | refine tq1 46 rfl ?_
      try go_frame
      first | refine tq0 47 rfl ?_ | refine tq1 47 rfl ?_
      try go_frame
      first | refine tq0 48 rfl ?_ | refine tq1 48 rfl ?_
      try go_frame
      first | refine tq0 49 rfl ?_ | refine tq1 49 rfl ?_
      try go_frame
      first | refine tq0 50 rfl ?_ | refine tq1 50 rfl ?_
      try go_frame
      first | refine tq0 51 rfl ?_ | refine tq1 51 rfl ?_
      try go_frame
      first | refine tq0 52 rfl ?_ | refine tq1 52 rfl ?_
      try go_frame
      first | refine tq0 53 rfl ?_ | refine tq1 53 rfl ?_
      try go_frame
      first | refine tq0 54 rfl ?_ | refine tq1 54 rfl ?_
      try go_frame
      first | refine tq0 55 rfl ?_ | refine tq1 55 rfl ?_
      try go_frame
      first | refine tq0 56 rfl ?_ | refine tq1 56 rfl ?_
      try go_frame
      refine wpAnyH_done (by kernel_rfl) ?_ _
      go_wp2_with fail
      go_roundw
      case rel => exact ⟨j + 1, by omega, by go_num, L1.out⟩
      case measure => simp [intOf]; omega
    · obtain rfl : j = n := by omega
      clear hl
      go_wp2_with fail
      go_ret
      exact ⟨rfl, HL.out⟩

end Go.Proofs.YthkfaeplmmlnlaaGreat
namespace Go.Proofs.YthkfaeplmmlnlaaGreat
open Go.RowKit Go.Deep Go.Maps
set_option linter.unusedVariables false
set_option maxRecDepth 100000

/-- append of a slice of any length, and where the new one lies -/
theorem wpList_append_any_at {P : Program} {ops : Array Oper} {o : Oper} {a : Act} {w : World} {Q : Exit → Act → World → Prop} {rest : List Oper} (hgd : o.guard = none) (s x : Operand) (t : TypeId) (ho : o.op = .call { callee := .builtin .append, args := #[s, x], argTypes := #[t, t] })
    (base : Nat) (e : TypeId) (i : TypeInfo) (z : Value) (size bytes : Nat) (ht : P.underlying t = some (.slice e)) (hi : P.info? e = some i) (hz : i.zero = some z)
    (hsize : i.size = size) (hby : i.bytes = bytes) (hzs : z.cells.size = size) (hsz : 0 < size)
    (v : Value) (n : Nat) (xs : List Value) (hs : a.eval s = v) (hown : w.ownsRow base e size v n xs)
    (g : Nat → Nat → Value) (m : Nat) (vx : Value) (hx : a.eval x = vx) (hsl : Sl size g m vx w) (h1 : ∀ i, i < m → ∀ j, j < size → (g i j).oneCell' = true)
    (h63 : n + m ≤ maxLen) (hbytes : (n + m) * bytes ≤ 140737488355328) (hbase : base ≤ w.heap.size)
    (N : Nat) (hN : n + m = N) (h : ∀ a' c' w', w'.ownsRow base e size (.slice a' N c') N (xs ++ rowCells size g m) → w.grownBy w' v.ownBlock → ((Value.slice a' N c').ownBlock = v.ownBlock ∨ (Value.slice a' N c').ownBlock = some w.heap.size) → wpList P ops Q rest (a.put o.dst (.slice a' N c')) w') : wpList P ops Q (o :: rest) a w := by
  subst hN
  obtain ⟨ax, cx, rfl, hx1, hx2, hx3⟩ := hsl
  rcases Nat.eq_zero_or_pos m with hm | hm
  · subst hm
    obtain ⟨av, cv, rfl, hc⟩ := own_form hown
    refine wpList_append_nothing7 hgd s x t ho e i ht hi av n cv hs hc _ hx (src_none ht ax cx) ?_
    refine h av cv w ?_ (grown_self w _) (.inl (by cases av <;> rfl))
    rw [rowCells_zero, List.append_nil, Nat.add_zero]
    exact hown
  · obtain ⟨b, off, rfl, hA⟩ := hx3 hm
    refine wpList_append_own_at w hgd s x t ho base e i z size bytes ht hi hz hsize hby hzs hsz v n xs hs hown ⟨b, off, none⟩ m cx (rowCells size g m) hx (rowCells_len _ _ _) (at_newsC hsz hA) (row_cells_one hsz h1) h63 hbytes hbase ?_
    intro v' w' hown' hgr _ hat
    obtain ⟨av, cv, rfl, _⟩ := own_form hown'
    exact h _ _ _ hown' hgr hat
theorem u8_row {w : World} {a : Option Addr} {len cap : Nat} {zs : List Int} (h : IsRow .u8 w a len cap zs) : ∃ f : Nat → Int, Sl 1 (fun i _ => .int .u8 (f i)) len (.slice a len cap) w ∧ ∀ i, 0 ≤ f i ∧ f i < 256 := by
  rcases h with ⟨rfl, rfl, rfl, rfl⟩ | ⟨x, rfl, hl, hm, hz, hcell, hw⟩
  · exact ⟨fun _ => 0, sl_none8 _ _ _, fun _ => ⟨Int.le_refl 0, (by decide : (0 : Int) < 256)⟩⟩
  · refine ⟨fun i => zs.getD i 0, ⟨_, cap, rfl, hl, by unfold maxLen at hm; omega, fun h0 => ?_⟩, fun i => ?_⟩
    · have c0 := hcell 0 (by omega)
      obtain ⟨b, off, spot⟩ := x
      have hspot : spot = none := by simpa [Addr.add] using World.cell?_spot c0
      subst hspot
      refine ⟨b, off, rfl, ?_, fun i hi j hj => ?_⟩
      · rw [add_plain] at c0
        obtain ⟨c, t, f, e⟩ := cell_block c0
        exact lt_of_block e
      · obtain rfl : j = 0 := by omega
        have := hcell i (by omega)
        rw [add_plain] at this
        rw [Nat.mul_one, Nat.add_zero]
        exact this
    · show 0 ≤ zs.getD i 0 ∧ zs.getD i 0 < 256
      rw [List.getD_eq_getElem?_getD]
      cases hq : zs[i]? with
      | none => simp
      | some n =>
        have h9 := hw n (List.mem_of_getElem? hq)
        simp [Lit.wf] at h9
        have e1 : IntKind.u8.min = 0 := rfl
        have e2 : IntKind.u8.max = 255 := rfl
        simp; omega
theorem stepsP_stay {m : Mdl} {x : Sm} (h : x.W = []) : ∀ i, stepsP m i x = x
  | 0 => rfl
  | i + 1 => by rw [stepsP_succ, stepsP_stay h i, stepP_none h]
/-- how far it comes is told by how many steps there may be -/
theorem far_one {m : Mdl} {x : Sm} {N i j : Nat} (h1 : i ≤ N) (h2 : ∀ q, q < i → (stepsP m q x).W ≠ []) (h3 : i < N → (stepsP m i x).W = []) (k1 : j ≤ N) (k2 : ∀ q, q < j → (stepsP m q x).W ≠ []) (k3 : j < N → (stepsP m j x).W = []) : i = j := by
  rcases Nat.lt_trichotomy i j with h | h | h
  · exact absurd (h3 (by omega)) (k2 i h)
  · exact h
  · exact absurd (k3 (by omega)) (h2 j h)
theorem far_more {m : Mdl} {x : Sm} {N J k j : Nat} (h1 : J ≤ N) (h2 : ∀ q, q < J → (stepsP m q x).W ≠ []) (h3 : J < N → (stepsP m J x).W = []) (k1 : j ≤ k) (k2 : ∀ q, q < j → (stepsP m q (stepsP m J x)).W ≠ []) (k3 : j < k → (stepsP m j (stepsP m J x)).W = []) :
    J + j ≤ N + k ∧ (∀ q, q < J + j → (stepsP m q x).W ≠ []) ∧ (J + j < N + k → (stepsP m (J + j) x).W = []) := by
  have ad : ∀ q, stepsP m q (stepsP m J x) = stepsP m (J + q) x := fun q => (stepsP_add m J q x).symm
  refine ⟨by omega, fun q hq => ?_, fun hlt => ?_⟩
  · by_cases c : q < J
    · exact h2 q c
    · have := k2 (q - J) (by omega)
      rw [ad, show J + (q - J) = q by omega] at this
      exact this
  · by_cases c : j < k
    · rw [← ad]; exact k3 c
    · have hJ : J < N := by omega
      have e := h3 hJ
      by_cases cj : j = 0
      · subst cj; exact e
      · exact absurd e (k2 0 (by omega))
theorem dnF_add (m : Mdl) (x : Sm) (J i : Nat) : dnF m (stepsP m J x) i = dnF m x (J + i) := by
  unfold dnF
  rw [stepsP_add]
theorem PAt.kept {S T : Nat → Bool} {P bm bc bs : Nat} {m : Mdl} {vd vp vl vi vS : Value} {x : Sm} {k nd : Nat} {u u2 : World} (h : PAt S P bm bc bs m vd vp vl vi vS x k nd u) (g : KpS T u u2) (hT : ∀ k, T k = true → S k = true) (tP : T P = false) (tm : T bm = false) (ts : T bs = false) : PAt S P bm bc bs m vd vp vl vi vS x k nd u2 := by
  obtain ⟨i, ⟨nx, hx, s⟩, l⟩ := h
  exact ⟨i, ⟨nx, hx, s.kept g hT tP tm ts⟩, fun q hq => Nat.lt_of_lt_of_le (l q hq) g.size⟩
theorem PAt.more {S S2 : Nat → Bool} {P bm bc bs : Nat} {m : Mdl} {vd vp vl vi vS : Value} {x : Sm} {k nd : Nat} {u u2 : World} (h : PAt S P bm bc bs m vd vp vl vi vS x k nd u) (g : Below u.heap.size u u2) (e : ∀ k, k < u.heap.size → S2 k = S k) (hl : ∀ q, S2 q = true → q < u2.heap.size) : PAt S2 P bm bc bs m vd vp vl vi vS x k nd u2 := by
  obtain ⟨i, ⟨nx, hx, s⟩, l⟩ := h
  exact ⟨i, ⟨nx, hx, s.below2 g e⟩, hl⟩
theorem PAt.subT {S : Nat → Bool} {P bm bc bs : Nat} {m : Mdl} {vd vp vl vi vS : Value} {x : Sm} {k nd : Nat} {u : World} (h : PAt S P bm bc bs m vd vp vl vi vS x k nd u) : ∀ k, T3 P bm bs k = true → S k = true := by
  obtain ⟨i, ⟨nx, hx, s⟩, l⟩ := h
  exact s.sub

end Go.Proofs.YthkfaeplmmlnlaaGreat
namespace Go.Proofs.YthkfaeplmmlnlaaGreat
open Go.RowKit Go.Deep Go.Maps
set_option linter.unusedVariables false
set_option maxRecDepth 100000

set_option maxHeartbeats 1600000 in
theorem rstep_none (S : Nat → Bool) (Q : Nat) (m : Mdl) (vd vp vl vi : Value) (x : Sm) (nd : Nat) (D : Nat → Dn) (vS vW vD : Value) (u : World) (h : RSim S Q m vd vp vl vi x nd D (vS) (vW) (vD) u) (hw : x.W = []) :
    Calls Tryz.prog 11 #[.pointer (some ⟨Q, 0, none⟩)] u fun z u' => z = .returned (.tuple #[.agg #[.float .f64 0, .int .i64 0, .int .i64 0, .int .i64 0, .int .i64 0, .int .i64 0], .bool false]) ∧ Below u.heap.size u u' := by
  have hsf := store_float
  have X0 := Lib.hid (heap_alloc_new u (.cells #[.float .f64 0, .int .i64 0, .int .i64 0, .int .i64 0, .int .i64 0, .int .i64 0] 43))
  have B0 := Lib.hid (balloc u (.cells #[.float .f64 0, .int .i64 0, .int .i64 0, .int .i64 0, .int .i64 0, .int .i64 0] 43))
  have hcw := (h.below B0.out).cells.2.2.2.2.2.2.2.1
  obtain ⟨aW, cW, rfl, _, _, _⟩ := h.wt
  have h0 : x.W.length = 0 := by rw [hw]; rfl
  rw [h0] at hcw
  clear h hw
  go_enter Tryz.func11, Tryz.ntmps11
  go_upto_region 1 with fail
  generalize u.alloc (.cells #[.float .f64 0, .int .i64 0, .int .i64 0, .int .i64 0, .int .i64 0, .int .i64 0] 43) = u1 at *
  have zf : ∀ q9, u1.frozen? ⟨u.heap.size, q9, none⟩ = false := fun q9 => Lib.frozen_of_heap X0.out q9
  obtain ⟨z0, z1, z2, z3, z4, z5⟩ := six_cells7 X0.out
  have X9 := Lib.hid (put_six8 X0.out (.float .f64 0) (.int .i64 0) (.int .i64 0) (.int .i64 0) (.int .i64 0) (.int .i64 0))
  have L9 := Lib.hid (B0.out.trans (put_low7 (base := u.heap.size) (Nat.le_refl _) [.float .f64 0, .int .i64 0, .int .i64 0, .int .i64 0, .int .i64 0, .int .i64 0] 0 u1))
  go_upto_region 2 with fail
  go_wp2_with fail
  change bodyPost _ _ _ _ _ (World.setCells u1 u.heap.size 0 [.float .f64 0, .int .i64 0, .int .i64 0, .int .i64 0, .int .i64 0, .int .i64 0])
  clear z0 z1 z2 z3 z4 z5 zf hcw
  generalize World.setCells u1 u.heap.size 0 [.float .f64 0, .int .i64 0, .int .i64 0, .int .i64 0, .int .i64 0, .int .i64 0] = u9 at *
  obtain ⟨z0, z1, z2, z3, z4, z5⟩ := six_cells7 X9.out
  exact bodyPost_ret (v := .tuple #[.agg #[.float .f64 0, .int .i64 0, .int .i64 0, .int .i64 0, .int .i64 0, .int .i64 0], .bool false]) (by simp [results, Tryz.results11, go_sem, z0, z1, z2, z3, z4, z5]) rfl ⟨rfl, L9.out⟩
/-- a step of both -/
theorem duo {S : Nat → Bool} {P bm bc bs Q : Nat} {m : Mdl} {vd vp vl vi xd xp xl xi xS : Value} {x : Sm} {k nd : Nat} {D : Nat → Dn} {vS vW vD : Value} {u : World} (hc : chkN m = 0) (hr : MdlR m) (hk : k ≤ 200) (hnd : nd ≤ 200) (ha : PAt S P bm bc bs m xd xp xl xi xS x k nd u) :
    ∃ (q : Dn) (bb : Bool) (y : Sm) (k2 nd2 : Nat) (D2 : Nat → Dn), k2 ≤ k + 1 ∧ nd2 ≤ nd + 1 ∧
      (Calls Tryz.prog 10 #[.pointer (some ⟨P, 0, none⟩)] u fun z u' => z = .returned (.tuple #[.agg #[.float .f64 (q).e.t, .int .i64 (q).e.src, .int .i64 (q).e.n, .int .i64 (q).e.dst, .int .i64 (q).e.pay, .int .i64 (q).f], .bool bb]) ∧ PAt S P bm bc bs m xd xp xl xi xS y k2 nd2 u' ∧ KpS (T3 P bm bs) u u') ∧
      (∀ v, RSim S Q m vd vp vl vi x nd D (vS) (vW) (vD) v → Calls Tryz.prog 11 #[.pointer (some ⟨Q, 0, none⟩)] v fun z v' => z = .returned (.tuple #[.agg #[.float .f64 (q).e.t, .int .i64 (q).e.src, .int .i64 (q).e.n, .int .i64 (q).e.dst, .int .i64 (q).e.pay, .int .i64 (q).f], .bool bb]) ∧ (∃ vS' vW' vD', RSim S Q m vd vp vl vi y nd2 D2 (vS') (vW') (vD') v') ∧ Kp Q v v') := by
  by_cases hW : x.W = []
  · refine ⟨⟨zE, 0⟩, false, x, k, nd, D, by omega, by omega, (ha.stop hW).mono ?_, fun v h => (rstep_none S Q m vd vp vl vi x nd D vS vW vD v h hW).mono ?_⟩
    · rintro z u' ⟨rfl, hb⟩
      exact ⟨rfl, ha.below hb, KpS.of hb⟩
    · rintro z v' ⟨rfl, hb⟩
      exact ⟨rfl, ⟨_, _, _, h.below hb⟩, Kp.of hb⟩
  · obtain ⟨e, r, hWe⟩ : ∃ e r, x.W = e :: r := by
      cases h9 : x.W with
      | nil => exact absurd h9 hW
      | cons e r => exact ⟨e, r, rfl⟩
    have ge := ha.inv.ev e (by rw [hWe]; exact List.mem_cons_self)
    have ho := han_ok hc hr (by omega) ha.inv (show e ∈ x.W by rw [hWe]; exact List.mem_cons_self)
    obtain ⟨et, es, en, ed, ep⟩ := e
    obtain ⟨d, rfl⟩ : ∃ d : Nat, ed = (d : Int) := ⟨ed.toNat, by have := ge.dst; simp only at this; omega⟩
    have hd : d < m.nl := by have := ge.dst; simp only at this; omega
    have gs := ha.inv.st d hd
    have hnl := (chk_nl hc).2.1
    have hB : Bd (beginM (inpOf m (d : Int) (x.S d) ⟨et, es, en, (d : Int), ep⟩)) :=
      bd_begin ge.pay (show r64v (d : Int) by unfold r64v; omega) (show r64v (m.nl : Int) by unfold r64v; omega) (show (x.S d).nw ≤ _ by have := gs.nw; omega) gs.w
    have hdn : dnP m x = ⟨⟨et, es, en, (d : Int), ep⟩, (hanP m x ⟨et, es, en, (d : Int), ep⟩).f⟩ := by unfold dnP; rw [hWe]
    have hst : stepP m x = ⟨updS x.S d (hanP m x ⟨et, es, en, (d : Int), ep⟩).s, insAll r (toL (hanP m x ⟨et, es, en, (d : Int), ep⟩).l)⟩ := stepP_some hWe
    have hle := ha.inv.le
    rw [hWe] at hle
    refine ⟨dnP m x, true, stepP m x, k + 1, nd + 1, fun i => if i = nd then dnP m x else D i, Nat.le_refl _, Nat.le_refl _, ha.step hc hr (by omega) (by omega) hW, fun v h => ?_⟩
    have h9 := rstep_some S Q m vd vp vl vi x nd D vS vW vD et es en d ep r (hanP m x ⟨et, es, en, (d : Int), ep⟩) v h hWe (by simp only [List.length_cons] at hle; omega) hc hr.b hd hB (by omega) rfl ho.n4 ho.nw (by omega)
    rw [hdn, hst]
    exact h9

end Go.Proofs.YthkfaeplmmlnlaaGreat
