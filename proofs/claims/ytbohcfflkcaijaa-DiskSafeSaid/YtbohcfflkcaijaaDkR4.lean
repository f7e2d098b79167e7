/- The contract of the document's Made. -/
import Derived.Test.YtbohcfflkcaijaaDkR3
import Derived.Deep.AppendLies
namespace Go.Proofs.Ytbohcfflkcaijaa
open Go.RowKit Go.Deep Go.Maps
set_option linter.unusedVariables false
set_option linter.unusedSimpArgs false
set_option maxRecDepth 100000

theorem wpList_append_lies9 {P : Program} {w : World} {ops : Array Oper} {rest : List Oper} {o : Oper} {a : Act} {Q : Exit → Act → World → Prop} (hgd : o.guard = none) (s x : Operand) (t : TypeId)
    (ho : o.op = .call { callee := .builtin .append, args := #[s, x], argTypes := #[t, t] })
    (base : Nat) (e : TypeId) (i : TypeInfo) (z : Value) (size bytes : Nat) (ht : P.underlying t = some (.slice e)) (hi : P.info? e = some i) (hz : i.zero = some z)
    (hsize : i.size = size) (hby : i.bytes = bytes) (hzs : z.cells.size = size) (hsz : 0 < size)
    (v : Value) (n : Nat) (xs : List Value) (hs : a.eval s = v) (hown : w.ownsRow base e size v n xs)
    (ad : Addr) (m c : Nat) (news : List Value) (hx : a.eval x = .slice (some ad) m c) (hl : news.length = m * size) (hnews : ∀ j u, news[j]? = some u → w.cell? (ad.add j) = some u) (h1 : ∀ u ∈ news, u.oneCell' = true)
    (hm : 0 < m) (h63 : n + m ≤ maxLen) (hbytes : (n + m) * bytes ≤ 140737488355328) (hbase : base ≤ w.heap.size) (H : Nat) (hH : w.heap.size = H)
    (h : ∀ g cap w', w'.ownsRow base e size (.slice (some ⟨g, 0, none⟩) (n + m) cap) (n + m) (xs ++ news) → w.grownBy w' v.ownBlock → (v.ownBlock = some g ∨ g = H) → g < w'.heap.size → wpList P ops Q rest (a.put o.dst (.slice (some ⟨g, 0, none⟩) (n + m) cap)) w') : wpList P ops Q (o :: rest) a w :=
  wpList_plain hgd fun _ hK => wp_append_lies w s x t ho base e i z size bytes ht hi hz hsize hby hzs hsz v n xs hs hown ad m c news hx hl hnews h1 hm h63 hbytes hbase H hH fun g cap w' h2 h3 h4 h5 => hK _ _ (h g cap w' h2 h3 h4 h5)
theorem infoStr9 : (Try.prog.info? 9).map (fun i => (i.zero, i.size, i.bytes)) = some (some (.string ⟨#[]⟩), 1, 16) := by kernel_rfl
theorem infoBool9 : (Try.prog.info? 4).map (fun i => (i.zero, i.size, i.bytes)) = some (some (.bool false), 1, 1) := by kernel_rfl
theorem grown_keep9 {w w4 : World} {b C n q : Nat} {E : TypeId} {v : Value} {xs : List Value} {o : Obj} (h : w.ownsRow b E C v n xs) (hg : w.grownBy w4 v.ownBlock) (hq : w.heap[q]? = some o) (hne : ∀ c f, o ≠ .cells c E f) : w4.heap[q]? = some o := by
  rw [hg.block q (Array.getElem?_eq_some_iff.1 hq).1 ?_]
  · exact hq
  · intro he
    rcases h.2 with ⟨rfl, _⟩ | ⟨g, cap, cur, rfl, _, r3, _⟩
    · simp [Value.ownBlock] at he
    · simp only [Value.ownBlock, Option.some.injEq] at he
      subst he
      rw [hq] at r3
      exact hne _ _ (by simpa using r3)
/-- a row of the call's own, as another grows -/
theorem grown_own9 {w w4 : World} {b2 C2 n2 : Nat} {E2 : TypeId} {v v2 : Value} {xs2 : List Value} (k : w.ownsRow b2 E2 C2 v2 n2 xs2) (hg : w.grownBy w4 v.ownBlock) (hne : ∀ g, v2.ownBlock = some g → v.ownBlock ≠ some g) : w4.ownsRow b2 E2 C2 v2 n2 xs2 :=
  own_kept k fun g e => hg.block g (own_lt k e).2 (fun e2 => hne g e e2.symm)
theorem below_grown9 {w w4 : World} {b C n : Nat} {E : TypeId} {v : Value} {xs : List Value} (h : w.ownsRow b E C v n xs) (hb : b ≤ w.heap.size) (hg : w.grownBy w4 v.ownBlock) : Below b w w4 :=
  ⟨hg.os, hg.tape, hg.output, hg.size, fun k hk => hg.block k (by omega) (fun e => by
    have := own_lt h e.symm
    omega)⟩
theorem set_below9 {B P o : Nat} (h : B ≤ P) (v : Value) (w : World) : Below B w (w.setCell ⟨P, o, none⟩ v) := ⟨rfl, rfl, rfl, by rw [World.size_setCell]; exact Nat.le_refl _, fun k hk => set_else v (by omega)⟩
/-- the rows as they are laid: a of the first, b of the second, c of the third -/
structure MkR (base Q a b c : Nat) (v1 v2 v3 : Value) (u : World) : Prop where
  box : u.heap[Q]? = some (.cells #[v1, v2, v3, .int .i64 0, .int .i64 0, .bool false] 34 (0, 0))
  o1 : u.ownsRow base 9 1 v1 a (rowCells 1 (gT fun _ => sec fun _ => 0) a)
  o2 : u.ownsRow base 9 1 v2 b (rowCells 1 (gT fun _ => ByteArray.empty) b)
  o3 : u.ownsRow base 4 1 v3 c (rowCells 1 (gO fun _ => false) c)
  ne : ∀ g, v1.ownBlock = some g → v2.ownBlock ≠ some g
  lo : base ≤ Q ∧ Q < u.heap.size
variable {base Q a b c : Nat} {v1 v2 v3 : Value} {u u2 : World}
theorem MkR.below (h : MkR base Q a b c v1 v2 v3 u) (k : Below u.heap.size u u2) : MkR base Q a b c v1 v2 v3 u2 :=
  ⟨(k.block _ h.lo.2).trans h.box, own_below h.o1 k, own_below h.o2 k, own_below h.o3 k, h.ne, h.lo.1, Nat.lt_of_lt_of_le h.lo.2 k.size⟩
theorem own_set9 {w : World} {b C n P : Nat} {E : TypeId} {v : Value} {xs : List Value} (h : w.ownsRow b E C v n xs) (hP : ∃ c T f, w.heap[P]? = some (.cells c T f) ∧ T ≠ E) (o : Nat) (x : Value) : (w.setCell ⟨P, o, none⟩ x).ownsRow b E C v n xs := by
  refine own_kept h fun q hq => Below.heap_setCell w ⟨P, o, none⟩ x q ?_
  rcases h.2 with ⟨rfl, _⟩ | ⟨g, cap, cur, rfl, _, r3, _⟩
  · simp [Value.ownBlock] at hq
  · simp only [Value.ownBlock, Option.some.injEq] at hq
    subst hq
    obtain ⟨c, T, f, e, hne⟩ := hP
    rintro rfl
    rw [e] at r3
    simp only [Option.some.injEq, Obj.cells.injEq] at r3
    exact hne r3.2.1
theorem row1 (G : Nat → Nat → Value) (n : Nat) (x : Value) (h : G n 0 = x) : rowCells 1 G n ++ [x] = rowCells 1 G (n + 1) := rowCells_succ (by omega) G n [x] rfl (fun j hj => by
  obtain rfl : j = 0 := by omega
  rw [h]; rfl)
theorem MkR.one (h : MkR base Q a b c v1 v2 v3 u) {v : Value} (ho : u2.ownsRow base 9 1 v (a + 1) (rowCells 1 (gT fun _ => sec fun _ => 0) a ++ [.string (sec fun _ => 0)])) (hg : u.grownBy u2 v1.ownBlock) {g : Nat} (hv : v.ownBlock = some g) (hl : v1.ownBlock = some g ∨ g = u.heap.size) : MkR base Q (a + 1) b c v v2 v3 (u2.setCell ⟨Q, 0, none⟩ v) := by
  have b2 := grown_keep9 h.o1 hg h.box (fun c f => by simp)
  rw [row1 (gT fun _ => sec fun _ => 0) a (.string (sec fun _ => 0)) rfl] at ho
  refine ⟨Joins.block_setCell (i := 0) b2 _, own_set9 ho ⟨_, _, _, b2, by decide⟩ _ _, own_set9 (grown_own9 h.o2 hg fun g2 e e2 => h.ne g2 e2 e) ⟨_, _, _, b2, by decide⟩ _ _, own_set9 (grown_own9 h.o3 hg fun g2 e e2 => own_apart h.o1 h.o3 (by decide) e2 e) ⟨_, _, _, b2, by decide⟩ _ _, fun g2 e e2 => ?_, h.lo.1, by rw [World.size_setCell]; exact Nat.lt_of_lt_of_le h.lo.2 hg.size⟩
  rw [hv] at e
  obtain rfl : g = g2 := by simpa using e
  rcases hl with hl | hl
  · exact h.ne g hl e2
  · have := (own_lt h.o2 e2).2; omega
theorem MkR.two (h : MkR base Q a b c v1 v2 v3 u) {v : Value} (ho : u2.ownsRow base 9 1 v (b + 1) (rowCells 1 (gT fun _ => ByteArray.empty) b ++ [.string ByteArray.empty])) (hg : u.grownBy u2 v2.ownBlock) {g : Nat} (hv : v.ownBlock = some g) (hl : v2.ownBlock = some g ∨ g = u.heap.size) : MkR base Q a (b + 1) c v1 v v3 (u2.setCell ⟨Q, 1, none⟩ v) := by
  have b2 := grown_keep9 h.o2 hg h.box (fun c f => by simp)
  rw [row1 (gT fun _ => ByteArray.empty) b (.string ByteArray.empty) rfl] at ho
  refine ⟨Joins.block_setCell (i := 1) b2 _, own_set9 (grown_own9 h.o1 hg fun g2 e e2 => h.ne g2 e e2) ⟨_, _, _, b2, by decide⟩ _ _, own_set9 ho ⟨_, _, _, b2, by decide⟩ _ _, own_set9 (grown_own9 h.o3 hg fun g2 e e2 => own_apart h.o2 h.o3 (by decide) e2 e) ⟨_, _, _, b2, by decide⟩ _ _, fun g2 e e2 => ?_, h.lo.1, by rw [World.size_setCell]; exact Nat.lt_of_lt_of_le h.lo.2 hg.size⟩
  rw [hv] at e2
  obtain rfl : g = g2 := by simpa using e2
  rcases hl with hl | hl
  · exact h.ne g e hl
  · have := (own_lt h.o1 e).2; omega
theorem MkR.three (h : MkR base Q a b c v1 v2 v3 u) {v : Value} (ho : u2.ownsRow base 4 1 v (c + 1) (rowCells 1 (gO fun _ => false) c ++ [.bool false])) (hg : u.grownBy u2 v3.ownBlock) : MkR base Q a b (c + 1) v1 v2 v (u2.setCell ⟨Q, 2, none⟩ v) := by
  have b2 := grown_keep9 h.o3 hg h.box (fun c f => by simp)
  rw [row1 (gO fun _ => false) c (.bool false) rfl] at ho
  exact ⟨Joins.block_setCell (i := 2) b2 _, own_set9 (grown_own9 h.o1 hg fun g2 e e2 => own_apart h.o1 h.o3 (by decide) e e2) ⟨_, _, _, b2, by decide⟩ _ _, own_set9 (grown_own9 h.o2 hg fun g2 e e2 => own_apart h.o2 h.o3 (by decide) e e2) ⟨_, _, _, b2, by decide⟩ _ _, own_set9 ho ⟨_, _, _, b2, by decide⟩ _ _, h.ne, h.lo.1, by rw [World.size_setCell]; exact Nat.lt_of_lt_of_le h.lo.2 hg.size⟩
/-- all is laid -/
theorem MkR.disk {n : Nat} (h : MkR base Q n n n v1 v2 v3 u) (hn : 0 < n) : ∃ b1 b2 b3 c1 c2 c3, RDk base Q b1 b2 b3 c1 c2 c3 (newD n) u := by
  obtain ⟨b1, l1, q1, r1⟩ := RowB.of h.o1 hn
  obtain ⟨b2, l2, q2, r2⟩ := RowB.of h.o2 hn
  obtain ⟨b3, l3, q3, r3⟩ := RowB.of h.o3 hn
  have ne : b1 ≠ b2 := by
    rintro rfl
    exact h.ne _ q1 q2
  obtain ⟨c1, e1, _⟩ := r1.v
  obtain ⟨c2, e2, _⟩ := r2.v
  obtain ⟨c3, e3, _⟩ := r3.v
  subst e1 e2 e3
  exact ⟨b1, b2, b3, c1, c2, c3, h.box, r1, ⟨_, r2, fun i _ hs => by cases hs⟩, r3, ne, h.lo.1, l1, l2, l3⟩

theorem byD_empty : byD (⟨#[]⟩ : ByteArray) = fun _ => 0 := by
  funext j
  exact byD_out (Nat.zero_le _)
set_option maxHeartbeats 6400000 in
theorem rmade_any (n : Nat) (hn : 1 ≤ n) (hn2 : n ≤ 4096) (u : World) : Calls Try.prog 27 #[.int .i64 (n : Int)] u fun r u' => ∃ Q b1 b2 b3 c1 c2 c3, r = .returned (.pointer (some ⟨Q, 0, none⟩)) ∧ RDk u.heap.size Q b1 b2 b3 c1 c2 c3 (newD n) u' ∧ Below u.heap.size u u' := by
  obtain ⟨i1, hi1, hz1, hs1, hb1⟩ := info_parts infoStr9
  obtain ⟨i3, hi3, hz3, hs3, hb3⟩ := info_parts infoBool9
  have HF : Hid (∀ w, Calls Try.prog 22 #[.string ⟨#[]⟩] w fun r u' => r = .returned (.string (sec fun _ => 0)) ∧ Below w.heap.size w u') := Lib.hid fun w => by
    have := rfill_any ⟨#[]⟩ (by decide) w
    rw [byD_empty] at this
    exact this
  have X1 := Lib.hid (heap_alloc_new u (.cells #[.slice none 0 0, .slice none 0 0, .slice none 0 0, .int .i64 0, .int .i64 0, .bool false] 34))
  have B1 := Lib.hid (balloc u (.cells #[.slice none 0 0, .slice none 0 0, .slice none 0 0, .int .i64 0, .int .i64 0, .bool false] 34))
  have M0 : Hid (MkR u.heap.size u.heap.size 0 0 0 (.slice none 0 0) (.slice none 0 0) (.slice none 0 0) (u.alloc (.cells #[.slice none 0 0, .slice none 0 0, .slice none 0 0, .int .i64 0, .int .i64 0, .bool false] 34))) :=
    Lib.hid ⟨X1.out, ⟨rfl, .inl ⟨rfl, rfl⟩⟩, ⟨rfl, .inl ⟨rfl, rfl⟩⟩, ⟨rfl, .inl ⟨rfl, rfl⟩⟩, fun g e => by simp [Value.ownBlock] at e, Nat.le_refl _, by rw [World.size_alloc]; omega⟩
  go_enter Try.func27, Try.ntmps27
  go_upto_region 2 with fail
  obtain ⟨Q, hQ⟩ : ∃ Q, Q = u.heap.size := ⟨_, rfl⟩
  generalize u.alloc (.cells #[.slice none 0 0, .slice none 0 0, .slice none 0 0, .int .i64 0, .int .i64 0, .bool false] 34) = w1 at *
  clear X1
  go_wp2_with fail
  go_loopw [4] (fun i wr => ∃ j : Nat, j ≤ n ∧ i = .int .i64 j ∧ (∃ v1 v2 v3, MkR u.heap.size u.heap.size j j j v1 v2 v3 wr) ∧ Below u.heap.size u wr) (fun i _ => n - (intOf i).toNat)
  case atStart => exact ⟨0, Nat.zero_le _, rfl, ⟨_, _, _, M0.out⟩, B1.out⟩
  case round =>
    obtain ⟨j, hj, rfl, ⟨v1, v2, v3, hm⟩, hk⟩ := hrel
    have MJ := Lib.hid hm
    have KJ := Lib.hid hk
    clear hm hk
    have hj0 : (0 : Int) ≤ (j : Int) := by omega
    by_cases hlt : j < n
    · have hj2 : (j : Int) < (n : Int) := by omega
      have HJ := Lib.hid hlt
      have d1 : decide ((j : Int) < (n : Int)) = true := by simp [hlt]
      go_upto_region 5 with fail
      refine wp_region_x_drew (S := (fun w' => w'.cell? ⟨u.heap.size, 0, none⟩ = some v1)) 10 (by kernel_rfl) ?_ (fun hHeld => ?_)
      · rw [Lib.cell_of_heap (MJ.out.below (bdrew wr)).box]; rfl
      change wpAnyX _ _ _ _ _ _ _ _ _ (World.drew wr)
      have M2 := Lib.hid (MJ.out.below (bdrew wr))
      have K2 := Lib.hid (KJ.out.trans ((bdrew wr).mono KJ.out.size))
      generalize World.drew wr = w4 at *
      first
        | refine tx0 0 (oi := ⟨_, _, _, _, _, _⟩) rfl ?_
        | refine tx1 0 (oi := ⟨_, _, _, _, _, _⟩) (v := ?_) rfl ?_ ?_; rotate_left; · (intro w5 hSw; (try dsimp only at hSw); go_simp; (try with_reducible rfl))
      try simp only [Act.put, List.setIfInBounds_toArray, List.set_cons_zero, List.set_cons_succ]
      first
        | refine tx0 1 (oi := ⟨_, _, _, _, _, _⟩) rfl ?_
        | refine tx1 1 (oi := ⟨_, _, _, _, _, _⟩) (v := ?_) rfl ?_ ?_; rotate_left; · (intro w5 hSw; (try dsimp only at hSw); go_simp; (try with_reducible rfl))
      try simp only [Act.put, List.setIfInBounds_toArray, List.set_cons_zero, List.set_cons_succ]
      first
        | refine tx0 2 (oi := ⟨_, _, _, _, _, _⟩) rfl ?_
        | refine tx1 2 (oi := ⟨_, _, _, _, _, _⟩) (v := ?_) rfl ?_ ?_; rotate_left; · (intro w5 hSw; (try dsimp only at hSw); go_simp; (try with_reducible rfl))
      try simp only [Act.put, List.setIfInBounds_toArray, List.set_cons_zero, List.set_cons_succ]
      first
        | refine tx0 3 (oi := ⟨_, _, _, _, _, _⟩) rfl ?_
        | refine tx1 3 (oi := ⟨_, _, _, _, _, _⟩) (v := ?_) rfl ?_ ?_; rotate_left; · (intro w5 hSw; (try dsimp only at hSw); go_simp; (try with_reducible rfl))
      try simp only [Act.put, List.setIfInBounds_toArray, List.set_cons_zero, List.set_cons_succ]
      first
        | refine tx0 4 (oi := ⟨_, _, _, _, _, _⟩) rfl ?_
        | refine tx1 4 (oi := ⟨_, _, _, _, _, _⟩) (v := ?_) rfl ?_ ?_; rotate_left; · (intro w5 hSw; (try dsimp only at hSw); go_simp; (try with_reducible rfl))
      try simp only [Act.put, List.setIfInBounds_toArray, List.set_cons_zero, List.set_cons_succ]
      refine wpAnyX_ready (rs := [5]) (by kernel_rfl) (by simp) ?_
      refine AllReadyX.cons (o := ⟨_, _, _, _, _, _⟩) rfl (fun K hK => ?_) AllReadyX.nil
      go_simp
      refine (HF.out _).mono ?_
      rintro e w5 ⟨rfl, hb5⟩
      have M5 := Lib.hid (M2.out.below hb5)
      have K5 := Lib.hid (K2.out.trans (hb5.mono K2.out.size))
      clear hb5
      refine hK.out _ _ ?_ (fun hHeld => ?_)
      · rw [Lib.cell_of_heap M5.out.box]; rfl
      clear hK K
      try simp only [Act.put, List.setIfInBounds_toArray, List.set_cons_zero, List.set_cons_succ]
      have B6 := Lib.hid (balloc w5 (.cells #[.string (sec fun _ => 0)] 9))
      have M6 := Lib.hid (M5.out.below B6.out)
      have K6 := Lib.hid (K5.out.trans (B6.out.mono K5.out.size))
      have C6 := Lib.hid (heap_alloc_new w5 (.cells #[.string (sec fun _ => 0)] 9))
      refine wpAnyX_ready (rs := [6]) (by kernel_rfl) (by simp) ?_
      refine AllReadyX.cons (o := ⟨_, _, _, _, _, _⟩) rfl (fun K hK => ?_) AllReadyX.nil
      go_simp
      refine hK.out _ _ ?_ (fun hHeld => ?_)
      · rw [Lib.cell_of_heap M6.out.box]; rfl
      clear hK K
      try simp only [Act.put, List.setIfInBounds_toArray, List.set_cons_zero, List.set_cons_succ]
      generalize w5.alloc (.cells #[.string (sec fun _ => 0)] 9) = w6 at *
      clear B6
      refine wpAnyX_ready (rs := [7]) (by kernel_rfl) (by simp) ?_
      refine AllReadyX.cons (o := ⟨_, _, _, _, _, _⟩) rfl (fun K hK => ?_) AllReadyX.nil
      refine step_append_lies w6 rfl (.tmp 16) (.tmp 18) 31 rfl u.heap.size 9 i1 (.string ⟨#[]⟩) 1 16 Try.underlying31 hi1 hz1 hs1 hb1 rfl (by decide) v1 j _ (by simp [Act.eval]) M6.out.o1 ⟨w5.heap.size, 0, none⟩ 1 1 [.string (sec fun _ => 0)] (by simp [Act.eval]) rfl (fun q x hq => ?_) (fun x hx => ?_) (by decide) (by unfold maxLen; omega) (by omega) K6.out.size w6.heap.size rfl ?_
      · rcases q with _ | q
        · simp only [List.getElem?_cons_zero, Option.some.injEq] at hq
          subst hq
          rw [add_plain, Lib.cell_of_heap C6.out]; rfl
        · simp at hq
      · simp only [List.mem_cons, List.not_mem_nil, or_false] at hx
        subst hx; rfl
      intro g7 cap7 w7 hown hgr hl hlt7
      have M7 := Lib.hid (M6.out.one hown hgr rfl hl)
      have K7 := Lib.hid (K6.out.trans ((below_grown9 M6.out.o1 K6.out.size hgr)))
      have P7 := Lib.hid (grown_keep9 M6.out.o1 hgr M6.out.box (fun c f => by simp))
      refine hK.out _ _ ?_ (fun hHeld => ?_)
      · rw [Lib.cell_of_heap P7.out]; rfl
      clear hK K hown hgr hl
      try simp only [Act.put, List.setIfInBounds_toArray, List.set_cons_zero, List.set_cons_succ]
      refine wpAnyX_ready (rs := [8]) (by kernel_rfl) (by simp) ?_
      refine AllReadyX.cons (o := ⟨_, _, _, _, _, _⟩) rfl (fun K hK => ?_) AllReadyX.nil
      go_simp
      refine hK.out _ _ ?_ (fun hHeld => ?_)
      · rw [Lib.cell_of_heap P7.out]; rfl
      clear hK K
      try simp only [Act.put, List.setIfInBounds_toArray, List.set_cons_zero, List.set_cons_succ]
      refine wpAnyX_ready (rs := [9]) (by kernel_rfl) (by simp) ?_
      refine AllReadyX.cons (o := ⟨_, _, _, _, _, _⟩) rfl (fun K hK => ?_) AllReadyX.nil
      go_simp
      refine hK.out _ _ ?_ (fun hHeld => ?_)
      · rw [Lib.cell_of_heap P7.out]; rfl
      clear hK K
      try simp only [Act.put, List.setIfInBounds_toArray, List.set_cons_zero, List.set_cons_succ]
      refine wpAnyX_last (o := ⟨_, _, _, _, _, _⟩) (by kernel_rfl) rfl (fun K hK => ?_) (by kernel_rfl)
      have hfz : w7.frozen? ⟨u.heap.size, 0, none⟩ = false := Lib.frozen_of_heap P7.out 0
      have hcw : w7.cell? ⟨u.heap.size, 0, none⟩ = some v1 := hHeld
      have K8 := Lib.hid (K7.out.trans (set_below9 (o := 0) (Nat.le_refl _) (.slice (some ⟨g7, 0, none⟩) (j + 1) cap7) w7))
      go_simp
      refine hK.out _ _ ?_
      clear hK K
      try simp only [Act.put, List.setIfInBounds_toArray, List.set_cons_zero, List.set_cons_succ]
      clear hfz hcw hHeld P7
      generalize w7.setCell ⟨u.heap.size, 0, none⟩ (.slice (some ⟨g7, 0, none⟩) (j + 1) cap7) = w8 at *
      have q1 : w8.cell? ⟨u.heap.size, 1, none⟩ = some v2 := by rw [Lib.cell_of_heap M7.out.box]; rfl
      have B9 := Lib.hid (balloc w8 (.cells #[.string ⟨#[]⟩] 9))
      have M9 := Lib.hid (M7.out.below B9.out)
      have K9 := Lib.hid (K8.out.trans (B9.out.mono K8.out.size))
      have S9 := Lib.hid (show (w8.alloc (.cells #[.string ⟨#[]⟩] 9)).heap.size = w8.heap.size + 1 from World.size_alloc _ _)
      have C9 := Lib.hid (heap_alloc_new w8 (.cells #[.string ⟨#[]⟩] 9))
      go_wp2_with (at_builtin; refine wpList_append_lies9 rfl _ _ 31 rfl u.heap.size 9 i1 (.string ⟨#[]⟩) 1 16 Try.underlying31 hi1 hz1 hs1 hb1 rfl (by decide) v2 j _ rfl M9.out.o2 ⟨w8.heap.size, 0, none⟩ 1 1 [.string ⟨#[]⟩] rfl rfl ?_ ?_ (by decide) (by unfold maxLen; omega) (by omega) K9.out.size (w8.alloc (.cells #[.string ⟨#[]⟩] 9)).heap.size rfl ?_)
      · intro q x hq
        rcases q with _ | q
        · simp only [List.getElem?_cons_zero, Option.some.injEq] at hq
          subst hq
          rw [add_plain, Lib.cell_of_heap C9.out]; rfl
        · simp at hq
      · intro x hx
        simp only [List.mem_cons, List.not_mem_nil, or_false] at hx
        subst hx; rfl
      intro g10 cap10 w10 hown hgr hl hlt10
      generalize w8.alloc (.cells #[.string ⟨#[]⟩] 9) = w9 at *
      have hl2 : v2.ownBlock = some g10 ∨ g10 = w9.heap.size := by
        rcases hl with hl | hl
        · exact .inl hl
        · right; rw [hl]; have := S9.out; omega
      have M10 := Lib.hid (M9.out.two hown hgr rfl hl2)
      have K10 := Lib.hid (K9.out.trans (below_grown9 M9.out.o2 K9.out.size hgr))
      have P10 := Lib.hid (grown_keep9 M9.out.o2 hgr M9.out.box (fun c f => by simp))
      have K11 := Lib.hid (K10.out.trans (set_below9 (o := 1) (Nat.le_refl _) (.slice (some ⟨g10, 0, none⟩) (j + 1) cap10) w10))
      have q2 : w10.cell? ⟨u.heap.size, 1, none⟩ = some v2 := by rw [Lib.cell_of_heap P10.out]; rfl
      have f2 : w10.frozen? ⟨u.heap.size, 1, none⟩ = false := Lib.frozen_of_heap P10.out 1
      clear hown hgr hl hl2 q1
      have q3 : (w10.setCell ⟨u.heap.size, 1, none⟩ (.slice (some ⟨g10, 0, none⟩) (j + 1) cap10)).cell? ⟨u.heap.size, 2, none⟩ = some v3 := by rw [Lib.cell_of_heap M10.out.box]; rfl
      have B12 := Lib.hid (balloc (w10.setCell ⟨u.heap.size, 1, none⟩ (.slice (some ⟨g10, 0, none⟩) (j + 1) cap10)) (.cells #[.bool false] 4))
      have M12 := Lib.hid (M10.out.below B12.out)
      have K12 := Lib.hid (K11.out.trans (B12.out.mono K11.out.size))
      have C12 := Lib.hid (heap_alloc_new (w10.setCell ⟨u.heap.size, 1, none⟩ (.slice (some ⟨g10, 0, none⟩) (j + 1) cap10)) (.cells #[.bool false] 4))
      go_upto_region 7 with fail
      generalize w10.setCell ⟨u.heap.size, 1, none⟩ (.slice (some ⟨g10, 0, none⟩) (j + 1) cap10) = w11 at *
      go_wp2_with (at_builtin; refine wpList_append_lies9 rfl _ _ 32 rfl u.heap.size 4 i3 (.bool false) 1 1 Try.underlying32 hi3 hz3 hs3 hb3 rfl (by decide) v3 j _ rfl M12.out.o3 ⟨w11.heap.size, 0, none⟩ 1 1 [.bool false] rfl rfl ?_ ?_ (by decide) (by unfold maxLen; omega) (by omega) K12.out.size (w11.alloc (.cells #[.bool false] 4)).heap.size rfl ?_)
      · intro q x hq
        rcases q with _ | q
        · simp only [List.getElem?_cons_zero, Option.some.injEq] at hq
          subst hq
          rw [add_plain, Lib.cell_of_heap C12.out]; rfl
        · simp at hq
      · intro x hx
        simp only [List.mem_cons, List.not_mem_nil, or_false] at hx
        subst hx; rfl
      intro g13 cap13 w13 hown hgr hl hlt13
      generalize w11.alloc (.cells #[.bool false] 4) = w12 at *
      have M13 := Lib.hid (M12.out.three hown hgr)
      have K13 := Lib.hid (K12.out.trans (below_grown9 M12.out.o3 K12.out.size hgr))
      have P13 := Lib.hid (grown_keep9 M12.out.o3 hgr M12.out.box (fun c f => by simp))
      have K14 := Lib.hid (K13.out.trans (set_below9 (o := 2) (Nat.le_refl _) (.slice (some ⟨g13, 0, none⟩) (j + 1) cap13) w13))
      have q4 : w13.cell? ⟨u.heap.size, 2, none⟩ = some v3 := by rw [Lib.cell_of_heap P13.out]; rfl
      have f4 : w13.frozen? ⟨u.heap.size, 2, none⟩ = false := Lib.frozen_of_heap P13.out 2
      clear hown hgr hl q2 f2 q3
      go_wp2_with fail
      go_roundw
      case rel => exact ⟨j + 1, HJ.out, by go_num, ⟨_, _, _, M13.out⟩, K14.out⟩
      case measure => have := HJ.out; simp [intOf]; omega
    · obtain rfl : j = n := by omega
      have d1 : decide ((j : Int) < (j : Int)) = false := by simp
      obtain ⟨b1, b2, b3, c1, c2, c3, hd⟩ := MJ.out.disk (by omega)
      have HD := Lib.hid hd
      clear hd
      go_wp2_with fail
      go_ret
      exact ⟨_, b1, b2, b3, c1, c2, c3, rfl, HD.out, KJ.out⟩

end Go.Proofs.Ytbohcfflkcaijaa
