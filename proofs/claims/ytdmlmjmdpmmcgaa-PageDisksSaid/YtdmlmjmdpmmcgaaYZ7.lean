/- The contract of the document's Made. Both disks, beside each other: what stays, and their bounds. The plain mathematics of layer 1 (pack): the bytes of a number, highest first, as a list of integers. No Go, no program. Numbers as they are read: bytes, places, errors. Plain mathematics. The order of bytes is the order of numbers. Plain mathematics. Bytes there and back: numbers. Plain mathematics. -/
import Derived.Deep.AppendLies
import Derived.WalkKit
import Derived.WalkSpells
import Derived.Laws.BytesArg
import Derived.Test.YtdmlmjmdpmmcgaaYDkR3
import Derived.Test.YtdmlmjmdpmmcgaaYZ0
import Derived.Test.YtdmlmjmdpmmcgaaYZ4
namespace Go.Proofs.Ytdmlmjmdpmmcgaa
open Go.RowKit Go.Deep Go.Maps
set_option linter.unusedVariables false
set_option linter.unusedSimpArgs false
set_option maxRecDepth 100000

theorem wpList_append_lies9 {P : Program} {w : World} {ops : Array Oper} {rest : List Oper} {o : Oper} {a : Act} {Q : Exit → Act → World → Prop} (hgd : o.guard = none) (s x : Operand) (t : TypeId)
    (ho : o.op = .call { callee := .builtin .append, args := #[s, x], argTypes := #[t, t] })
    (base : Nat) (e : TypeId) (i : TypeInfo) (z : Value) (size bytes : Nat) (ht : P.underlying t = some (.slice e)) (hi : P.info? e = some i) (hz : i.zero = some z)
    (hsize : i.size = size) (hby : i.bytes = bytes) (hzs : z.cells.size = size) (hsz : 0 < size)
    (v : Value) (n : Nat) (xs : List Value) (hs : a.eval s = v) (hown : w.ownsRow base e size v n xs)
    (ad : Addr) (m c : Nat) (news : List Value) (hx : a.eval x = .slice (some ad) m c) (hl : news.length = m * size) (hnews : ∀ j u, news[j]? = some u → w.cell? (ad.add j) = some u) (h1 : ∀ u ∈ news, u.oneCell' = true)
    (hm : 0 < m) (h63 : n + m ≤ maxLen) (hbytes : (n + m) * bytes ≤ 140737488355328) (hbase : base ≤ w.heap.size) (H : Nat) (hH : w.heap.size = H)
    (h : ∀ g cap w', w'.ownsRow base e size (.slice (some ⟨g, 0, none⟩) (n + m) cap) (n + m) (xs ++ news) → w.grownBy w' v.ownBlock → (v.ownBlock = some g ∨ g = H) → g < w'.heap.size → wpList P ops Q rest (a.put o.dst (.slice (some ⟨g, 0, none⟩) (n + m) cap)) w') : wpList P ops Q (o :: rest) a w :=
  wpList_plain hgd fun _ hK => wp_append_lies w s x t ho base e i z size bytes ht hi hz hsize hby hzs hsz v n xs hs hown ad m c news hx hl hnews h1 hm h63 hbytes hbase H hH fun g cap w' h2 h3 h4 h5 => hK _ _ (h g cap w' h2 h3 h4 h5)
theorem infoStr9 : (Try.prog.info? 9).map (fun i => (i.zero, i.size, i.bytes)) = some (some (.string ⟨#[]⟩), 1, 16) := by kernel_rfl
theorem infoBool9 : (Try.prog.info? 4).map (fun i => (i.zero, i.size, i.bytes)) = some (some (.bool false), 1, 1) := by kernel_rfl
theorem grown_keep9 {w w4 : World} {b C n q : Nat} {E : TypeId} {v : Value} {xs : List Value} {o : Obj} (h : w.ownsRow b E C v n xs) (hg : w.grownBy w4 v.ownBlock) (hq : w.heap[q]? = some o) (hne : ∀ c f, o ≠ .cells c E f) : w4.heap[q]? = some o := by
  rw [hg.block q (Array.getElem?_eq_some_iff.1 hq).1 ?_]
  · exact hq
  · intro he
    rcases h.2 with ⟨rfl, _⟩ | ⟨g, cap, cur, rfl, _, r3, _⟩
    · simp [Value.ownBlock] at he
    · simp only [Value.ownBlock, Option.some.injEq] at he
      subst he
      rw [hq] at r3
      exact hne _ _ (by simpa using r3)
/-- a row of the call's own, as another grows -/
theorem grown_own9 {w w4 : World} {b2 C2 n2 : Nat} {E2 : TypeId} {v v2 : Value} {xs2 : List Value} (k : w.ownsRow b2 E2 C2 v2 n2 xs2) (hg : w.grownBy w4 v.ownBlock) (hne : ∀ g, v2.ownBlock = some g → v.ownBlock ≠ some g) : w4.ownsRow b2 E2 C2 v2 n2 xs2 :=
  own_kept k fun g e => hg.block g (own_lt k e).2 (fun e2 => hne g e e2.symm)
theorem below_grown9 {w w4 : World} {b C n : Nat} {E : TypeId} {v : Value} {xs : List Value} (h : w.ownsRow b E C v n xs) (hb : b ≤ w.heap.size) (hg : w.grownBy w4 v.ownBlock) : Below b w w4 :=
  ⟨hg.os, hg.tape, hg.output, hg.size, fun k hk => hg.block k (by omega) (fun e => by
    have := own_lt h e.symm
    omega)⟩
theorem set_below9 {B P o : Nat} (h : B ≤ P) (v : Value) (w : World) : Below B w (w.setCell ⟨P, o, none⟩ v) := ⟨rfl, rfl, rfl, by rw [World.size_setCell]; exact Nat.le_refl _, fun k hk => set_else v (by omega)⟩
/-- the rows as they are laid: a of the first, b of the second, c of the third -/
structure MkR (base Q a b c : Nat) (v1 v2 v3 : Value) (u : World) : Prop where
  box : u.heap[Q]? = some (.cells #[v1, v2, v3, .int .i64 0, .int .i64 0, .bool false] 53 (0, 0))
  o1 : u.ownsRow base 9 1 v1 a (rowCells 1 (gT fun _ => sec fun _ => 0) a)
  o2 : u.ownsRow base 9 1 v2 b (rowCells 1 (gT fun _ => ByteArray.empty) b)
  o3 : u.ownsRow base 4 1 v3 c (rowCells 1 (gO fun _ => false) c)
  ne : ∀ g, v1.ownBlock = some g → v2.ownBlock ≠ some g
  lo : base ≤ Q ∧ Q < u.heap.size
variable {base Q a b c : Nat} {v1 v2 v3 : Value} {u u2 : World}
theorem MkR.below (h : MkR base Q a b c v1 v2 v3 u) (k : Below u.heap.size u u2) : MkR base Q a b c v1 v2 v3 u2 :=
  ⟨(k.block _ h.lo.2).trans h.box, own_below h.o1 k, own_below h.o2 k, own_below h.o3 k, h.ne, h.lo.1, Nat.lt_of_lt_of_le h.lo.2 k.size⟩
theorem own_set9 {w : World} {b C n P : Nat} {E : TypeId} {v : Value} {xs : List Value} (h : w.ownsRow b E C v n xs) (hP : ∃ c T f, w.heap[P]? = some (.cells c T f) ∧ T ≠ E) (o : Nat) (x : Value) : (w.setCell ⟨P, o, none⟩ x).ownsRow b E C v n xs := by
  refine own_kept h fun q hq => Below.heap_setCell w ⟨P, o, none⟩ x q ?_
  rcases h.2 with ⟨rfl, _⟩ | ⟨g, cap, cur, rfl, _, r3, _⟩
  · simp [Value.ownBlock] at hq
  · simp only [Value.ownBlock, Option.some.injEq] at hq
    subst hq
    obtain ⟨c, T, f, e, hne⟩ := hP
    rintro rfl
    rw [e] at r3
    simp only [Option.some.injEq, Obj.cells.injEq] at r3
    exact hne r3.2.1
theorem row1 (G : Nat → Nat → Value) (n : Nat) (x : Value) (h : G n 0 = x) : rowCells 1 G n ++ [x] = rowCells 1 G (n + 1) := rowCells_succ (by omega) G n [x] rfl (fun j hj => by
  obtain rfl : j = 0 := by omega
  rw [h]; rfl)
theorem MkR.one (h : MkR base Q a b c v1 v2 v3 u) {v : Value} (ho : u2.ownsRow base 9 1 v (a + 1) (rowCells 1 (gT fun _ => sec fun _ => 0) a ++ [.string (sec fun _ => 0)])) (hg : u.grownBy u2 v1.ownBlock) {g : Nat} (hv : v.ownBlock = some g) (hl : v1.ownBlock = some g ∨ g = u.heap.size) : MkR base Q (a + 1) b c v v2 v3 (u2.setCell ⟨Q, 0, none⟩ v) := by
  have b2 := grown_keep9 h.o1 hg h.box (fun c f => by simp)
  rw [row1 (gT fun _ => sec fun _ => 0) a (.string (sec fun _ => 0)) rfl] at ho
  refine ⟨Joins.block_setCell (i := 0) b2 _, own_set9 ho ⟨_, _, _, b2, by decide⟩ _ _, own_set9 (grown_own9 h.o2 hg fun g2 e e2 => h.ne g2 e2 e) ⟨_, _, _, b2, by decide⟩ _ _, own_set9 (grown_own9 h.o3 hg fun g2 e e2 => own_apart h.o1 h.o3 (by decide) e2 e) ⟨_, _, _, b2, by decide⟩ _ _, fun g2 e e2 => ?_, h.lo.1, by rw [World.size_setCell]; exact Nat.lt_of_lt_of_le h.lo.2 hg.size⟩
  rw [hv] at e
  obtain rfl : g = g2 := by simpa using e
  rcases hl with hl | hl
  · exact h.ne g hl e2
  · have := (own_lt h.o2 e2).2; omega
theorem MkR.two (h : MkR base Q a b c v1 v2 v3 u) {v : Value} (ho : u2.ownsRow base 9 1 v (b + 1) (rowCells 1 (gT fun _ => ByteArray.empty) b ++ [.string ByteArray.empty])) (hg : u.grownBy u2 v2.ownBlock) {g : Nat} (hv : v.ownBlock = some g) (hl : v2.ownBlock = some g ∨ g = u.heap.size) : MkR base Q a (b + 1) c v1 v v3 (u2.setCell ⟨Q, 1, none⟩ v) := by
  have b2 := grown_keep9 h.o2 hg h.box (fun c f => by simp)
  rw [row1 (gT fun _ => ByteArray.empty) b (.string ByteArray.empty) rfl] at ho
  refine ⟨Joins.block_setCell (i := 1) b2 _, own_set9 (grown_own9 h.o1 hg fun g2 e e2 => h.ne g2 e e2) ⟨_, _, _, b2, by decide⟩ _ _, own_set9 ho ⟨_, _, _, b2, by decide⟩ _ _, own_set9 (grown_own9 h.o3 hg fun g2 e e2 => own_apart h.o2 h.o3 (by decide) e2 e) ⟨_, _, _, b2, by decide⟩ _ _, fun g2 e e2 => ?_, h.lo.1, by rw [World.size_setCell]; exact Nat.lt_of_lt_of_le h.lo.2 hg.size⟩
  rw [hv] at e2
  obtain rfl : g = g2 := by simpa using e2
  rcases hl with hl | hl
  · exact h.ne g e hl
  · have := (own_lt h.o1 e).2; omega
theorem MkR.three (h : MkR base Q a b c v1 v2 v3 u) {v : Value} (ho : u2.ownsRow base 4 1 v (c + 1) (rowCells 1 (gO fun _ => false) c ++ [.bool false])) (hg : u.grownBy u2 v3.ownBlock) : MkR base Q a b (c + 1) v1 v2 v (u2.setCell ⟨Q, 2, none⟩ v) := by
  have b2 := grown_keep9 h.o3 hg h.box (fun c f => by simp)
  rw [row1 (gO fun _ => false) c (.bool false) rfl] at ho
  exact ⟨Joins.block_setCell (i := 2) b2 _, own_set9 (grown_own9 h.o1 hg fun g2 e e2 => own_apart h.o1 h.o3 (by decide) e e2) ⟨_, _, _, b2, by decide⟩ _ _, own_set9 (grown_own9 h.o2 hg fun g2 e e2 => own_apart h.o2 h.o3 (by decide) e e2) ⟨_, _, _, b2, by decide⟩ _ _, own_set9 ho ⟨_, _, _, b2, by decide⟩ _ _, h.ne, h.lo.1, by rw [World.size_setCell]; exact Nat.lt_of_lt_of_le h.lo.2 hg.size⟩
/-- all is laid -/
theorem MkR.disk {n : Nat} (h : MkR base Q n n n v1 v2 v3 u) (hn : 0 < n) : ∃ b1 b2 b3 c1 c2 c3, RDk base Q b1 b2 b3 c1 c2 c3 (newD n) u := by
  obtain ⟨b1, l1, q1, r1⟩ := RowB.of h.o1 hn
  obtain ⟨b2, l2, q2, r2⟩ := RowB.of h.o2 hn
  obtain ⟨b3, l3, q3, r3⟩ := RowB.of h.o3 hn
  have ne : b1 ≠ b2 := by
    rintro rfl
    exact h.ne _ q1 q2
  obtain ⟨c1, e1, _⟩ := r1.v
  obtain ⟨c2, e2, _⟩ := r2.v
  obtain ⟨c3, e3, _⟩ := r3.v
  subst e1 e2 e3
  exact ⟨b1, b2, b3, c1, c2, c3, h.box, r1, ⟨_, r2, fun i _ hs => by cases hs⟩, r3, ne, h.lo.1, l1, l2, l3⟩

theorem byD_empty : byD (⟨#[]⟩ : ByteArray) = fun _ => 0 := by
  funext j
  exact byD_out (Nat.zero_le _)
set_option maxHeartbeats 6400000 in
theorem rmade_any (n : Nat) (hn : 1 ≤ n) (hn2 : n ≤ 4096) (u : World) : Calls Try.prog 16 #[.int .i64 (n : Int)] u fun r u' => ∃ Q b1 b2 b3 c1 c2 c3, r = .returned (.pointer (some ⟨Q, 0, none⟩)) ∧ RDk u.heap.size Q b1 b2 b3 c1 c2 c3 (newD n) u' ∧ Below u.heap.size u u' := by
  obtain ⟨i1, hi1, hz1, hs1, hb1⟩ := info_parts infoStr9
  obtain ⟨i3, hi3, hz3, hs3, hb3⟩ := info_parts infoBool9
  have HF : Hid (∀ w, Calls Try.prog 42 #[.string ⟨#[]⟩] w fun r u' => r = .returned (.string (sec fun _ => 0)) ∧ Below w.heap.size w u') := Lib.hid fun w => by
    have := rfill_any ⟨#[]⟩ (by decide) w
    rw [byD_empty] at this
    exact this
  have X1 := Lib.hid (heap_alloc_new u (.cells #[.slice none 0 0, .slice none 0 0, .slice none 0 0, .int .i64 0, .int .i64 0, .bool false] 53))
  have B1 := Lib.hid (balloc u (.cells #[.slice none 0 0, .slice none 0 0, .slice none 0 0, .int .i64 0, .int .i64 0, .bool false] 53))
  have M0 : Hid (MkR u.heap.size u.heap.size 0 0 0 (.slice none 0 0) (.slice none 0 0) (.slice none 0 0) (u.alloc (.cells #[.slice none 0 0, .slice none 0 0, .slice none 0 0, .int .i64 0, .int .i64 0, .bool false] 53))) :=
    Lib.hid ⟨X1.out, ⟨rfl, .inl ⟨rfl, rfl⟩⟩, ⟨rfl, .inl ⟨rfl, rfl⟩⟩, ⟨rfl, .inl ⟨rfl, rfl⟩⟩, fun g e => by simp [Value.ownBlock] at e, Nat.le_refl _, by rw [World.size_alloc]; omega⟩
  go_enter Try.func16, Try.ntmps16
  go_upto_region 2 with fail
  obtain ⟨Q, hQ⟩ : ∃ Q, Q = u.heap.size := ⟨_, rfl⟩
  generalize u.alloc (.cells #[.slice none 0 0, .slice none 0 0, .slice none 0 0, .int .i64 0, .int .i64 0, .bool false] 53) = w1 at *
  clear X1
  go_wp2_with fail
  go_loopw [4] (fun i wr => ∃ j : Nat, j ≤ n ∧ i = .int .i64 j ∧ (∃ v1 v2 v3, MkR u.heap.size u.heap.size j j j v1 v2 v3 wr) ∧ Below u.heap.size u wr) (fun i _ => n - (intOf i).toNat)
  case atStart => exact ⟨0, Nat.zero_le _, rfl, ⟨_, _, _, M0.out⟩, B1.out⟩
  case round =>
    obtain ⟨j, hj, rfl, ⟨v1, v2, v3, hm⟩, hk⟩ := hrel
    have MJ := Lib.hid hm
    have KJ := Lib.hid hk
    clear hm hk
    have hj0 : (0 : Int) ≤ (j : Int) := by omega
    by_cases hlt : j < n
    · have hj2 : (j : Int) < (n : Int) := by omega
      have HJ := Lib.hid hlt
      have d1 : decide ((j : Int) < (n : Int)) = true := by simp [hlt]
      go_upto_region 5 with fail
      refine wp_region_x_drew (S := (fun w' => w'.cell? ⟨u.heap.size, 0, none⟩ = some v1)) 10 (by kernel_rfl) ?_ (fun hHeld => ?_)
      · rw [Lib.cell_of_heap (MJ.out.below (bdrew wr)).box]; rfl
      change wpAnyX _ _ _ _ _ _ _ _ _ (World.drew wr)
      have M2 := Lib.hid (MJ.out.below (bdrew wr))
      have K2 := Lib.hid (KJ.out.trans ((bdrew wr).mono KJ.out.size))
      generalize World.drew wr = w4 at *
      first
        | refine tx0 0 (oi := ⟨_, _, _, _, _, _⟩) rfl ?_
        | refine tx1 0 (oi := ⟨_, _, _, _, _, _⟩) (v := ?_) rfl ?_ ?_; rotate_left; · (intro w5 hSw; (try dsimp only at hSw); go_simp; (try with_reducible rfl))
      try go_frame
      first
        | refine tx0 1 (oi := ⟨_, _, _, _, _, _⟩) rfl ?_
        | refine tx1 1 (oi := ⟨_, _, _, _, _, _⟩) (v := ?_) rfl ?_ ?_; rotate_left; · (intro w5 hSw; (try dsimp only at hSw); go_simp; (try with_reducible rfl))
      try go_frame
      first
        | refine tx0 2 (oi := ⟨_, _, _, _, _, _⟩) rfl ?_
        | refine tx1 2 (oi := ⟨_, _, _, _, _, _⟩) (v := ?_) rfl ?_ ?_; rotate_left; · (intro w5 hSw; (try dsimp only at hSw); go_simp; (try with_reducible rfl))
      try go_frame
      first
        | refine tx0 3 (oi := ⟨_, _, _, _, _, _⟩) rfl ?_
        | refine tx1 3 (oi := ⟨_, _, _, _, _, _⟩) (v := ?_) rfl ?_ ?_; rotate_left; · (intro w5 hSw; (try dsimp only at hSw); go_simp; (try with_reducible rfl))
      try go_frame
      first
        | refine tx0 4 (oi := ⟨_, _, _, _, _, _⟩) rfl ?_
        | refine tx1 4 (oi := ⟨_, _, _, _, _, _⟩) (v := ?_) rfl ?_ ?_; rotate_left; · (intro w5 hSw; (try dsimp only at hSw); go_simp; (try with_reducible rfl))
      try go_frame
      refine wpAnyX_ready (rs := [5]) (by kernel_rfl) (by simp) ?_
      refine AllReadyX.cons (o := ⟨_, _, _, _, _, _⟩) rfl (fun K hK => ?_) AllReadyX.nil
      go_simp
      refine (HF.out _).mono ?_
      rintro e w5 ⟨rfl, hb5⟩
      have M5 := Lib.hid (M2.out.below hb5)
      have K5 := Lib.hid (K2.out.trans (hb5.mono K2.out.size))
      clear hb5
      refine hK.out _ _ ?_ (fun hHeld => ?_)
      · rw [Lib.cell_of_heap M5.out.box]; rfl
      clear hK K
      try go_frame
      have B6 := Lib.hid (balloc w5 (.cells #[.string (sec fun _ => 0)] 9))
      have M6 := Lib.hid (M5.out.below B6.out)
      have K6 := Lib.hid (K5.out.trans (B6.out.mono K5.out.size))
      have C6 := Lib.hid (heap_alloc_new w5 (.cells #[.string (sec fun _ => 0)] 9))
      refine wpAnyX_ready (rs := [6]) (by kernel_rfl) (by simp) ?_
      refine AllReadyX.cons (o := ⟨_, _, _, _, _, _⟩) rfl (fun K hK => ?_) AllReadyX.nil
      go_simp
      refine hK.out _ _ ?_ (fun hHeld => ?_)
      · rw [Lib.cell_of_heap M6.out.box]; rfl
      clear hK K
      try go_frame
      generalize w5.alloc (.cells #[.string (sec fun _ => 0)] 9) = w6 at *
      clear B6
      refine wpAnyX_ready (rs := [7]) (by kernel_rfl) (by simp) ?_
      refine AllReadyX.cons (o := ⟨_, _, _, _, _, _⟩) rfl (fun K hK => ?_) AllReadyX.nil
      refine step_append_lies w6 rfl (.tmp 16) (.tmp 18) 51 rfl u.heap.size 9 i1 (.string ⟨#[]⟩) 1 16 Try.underlying51 hi1 hz1 hs1 hb1 rfl (by decide) v1 j _ (by simp [Act.eval]) M6.out.o1 ⟨w5.heap.size, 0, none⟩ 1 1 [.string (sec fun _ => 0)] (by simp [Act.eval]) rfl (fun q x hq => ?_) (fun x hx => ?_) (by decide) (by unfold maxLen; omega) (by omega) K6.out.size w6.heap.size rfl ?_
      · rcases q with _ | q
        · simp only [List.getElem?_cons_zero, Option.some.injEq] at hq
          subst hq
          rw [add_plain, Lib.cell_of_heap C6.out]; rfl
        · simp at hq
      · simp only [List.mem_cons, List.not_mem_nil, or_false] at hx
        subst hx; rfl
      intro g7 cap7 w7 hown hgr hl hlt7
      have M7 := Lib.hid (M6.out.one hown hgr rfl hl)
      have K7 := Lib.hid (K6.out.trans ((below_grown9 M6.out.o1 K6.out.size hgr)))
      have P7 := Lib.hid (grown_keep9 M6.out.o1 hgr M6.out.box (fun c f => by simp))
      refine hK.out _ _ ?_ (fun hHeld => ?_)
      · rw [Lib.cell_of_heap P7.out]; rfl
      clear hK K hown hgr hl
      try go_frame
      refine wpAnyX_ready (rs := [8]) (by kernel_rfl) (by simp) ?_
      refine AllReadyX.cons (o := ⟨_, _, _, _, _, _⟩) rfl (fun K hK => ?_) AllReadyX.nil
      go_simp
      refine hK.out _ _ ?_ (fun hHeld => ?_)
      · rw [Lib.cell_of_heap P7.out]; rfl
      clear hK K
      try go_frame
      refine wpAnyX_ready (rs := [9]) (by kernel_rfl) (by simp) ?_
      refine AllReadyX.cons (o := ⟨_, _, _, _, _, _⟩) rfl (fun K hK => ?_) AllReadyX.nil
      go_simp
      refine hK.out _ _ ?_ (fun hHeld => ?_)
      · rw [Lib.cell_of_heap P7.out]; rfl
      clear hK K
      try go_frame
      refine wpAnyX_last (o := ⟨_, _, _, _, _, _⟩) (by kernel_rfl) rfl (fun K hK => ?_) (by kernel_rfl)
      have hfz : w7.frozen? ⟨u.heap.size, 0, none⟩ = false := Lib.frozen_of_heap P7.out 0
      have hcw : w7.cell? ⟨u.heap.size, 0, none⟩ = some v1 := hHeld
      have K8 := Lib.hid (K7.out.trans (set_below9 (o := 0) (Nat.le_refl _) (.slice (some ⟨g7, 0, none⟩) (j + 1) cap7) w7))
      go_simp
      refine hK.out _ _ ?_
      clear hK K
      try go_frame
      clear hfz hcw hHeld P7
      generalize w7.setCell ⟨u.heap.size, 0, none⟩ (.slice (some ⟨g7, 0, none⟩) (j + 1) cap7) = w8 at *
      have q1 : w8.cell? ⟨u.heap.size, 1, none⟩ = some v2 := by rw [Lib.cell_of_heap M7.out.box]; rfl
      have B9 := Lib.hid (balloc w8 (.cells #[.string ⟨#[]⟩] 9))
      have M9 := Lib.hid (M7.out.below B9.out)
      have K9 := Lib.hid (K8.out.trans (B9.out.mono K8.out.size))
      have S9 := Lib.hid (show (w8.alloc (.cells #[.string ⟨#[]⟩] 9)).heap.size = w8.heap.size + 1 from World.size_alloc _ _)
      have C9 := Lib.hid (heap_alloc_new w8 (.cells #[.string ⟨#[]⟩] 9))
      go_wp2_with (at_builtin; refine wpList_append_lies9 rfl _ _ 51 rfl u.heap.size 9 i1 (.string ⟨#[]⟩) 1 16 Try.underlying51 hi1 hz1 hs1 hb1 rfl (by decide) v2 j _ rfl M9.out.o2 ⟨w8.heap.size, 0, none⟩ 1 1 [.string ⟨#[]⟩] rfl rfl ?_ ?_ (by decide) (by unfold maxLen; omega) (by omega) K9.out.size (w8.alloc (.cells #[.string ⟨#[]⟩] 9)).heap.size rfl ?_)
      · intro q x hq
        rcases q with _ | q
        · simp only [List.getElem?_cons_zero, Option.some.injEq] at hq
          subst hq
          rw [add_plain, Lib.cell_of_heap C9.out]; rfl
        · simp at hq
      · intro x hx
        simp only [List.mem_cons, List.not_mem_nil, or_false] at hx
        subst hx; rfl
      intro g10 cap10 w10 hown hgr hl hlt10
      generalize w8.alloc (.cells #[.string ⟨#[]⟩] 9) = w9 at *
      have hl2 : v2.ownBlock = some g10 ∨ g10 = w9.heap.size := by
        rcases hl with hl | hl
        · exact .inl hl
        · right; rw [hl]; have := S9.out; omega
      have M10 := Lib.hid (M9.out.two hown hgr rfl hl2)
      have K10 := Lib.hid (K9.out.trans (below_grown9 M9.out.o2 K9.out.size hgr))
      have P10 := Lib.hid (grown_keep9 M9.out.o2 hgr M9.out.box (fun c f => by simp))
      have K11 := Lib.hid (K10.out.trans (set_below9 (o := 1) (Nat.le_refl _) (.slice (some ⟨g10, 0, none⟩) (j + 1) cap10) w10))
      have q2 : w10.cell? ⟨u.heap.size, 1, none⟩ = some v2 := by rw [Lib.cell_of_heap P10.out]; rfl
      have f2 : w10.frozen? ⟨u.heap.size, 1, none⟩ = false := Lib.frozen_of_heap P10.out 1
      clear hown hgr hl hl2 q1
      have q3 : (w10.setCell ⟨u.heap.size, 1, none⟩ (.slice (some ⟨g10, 0, none⟩) (j + 1) cap10)).cell? ⟨u.heap.size, 2, none⟩ = some v3 := by rw [Lib.cell_of_heap M10.out.box]; rfl
      have B12 := Lib.hid (balloc (w10.setCell ⟨u.heap.size, 1, none⟩ (.slice (some ⟨g10, 0, none⟩) (j + 1) cap10)) (.cells #[.bool false] 4))
      have M12 := Lib.hid (M10.out.below B12.out)
      have K12 := Lib.hid (K11.out.trans (B12.out.mono K11.out.size))
      have C12 := Lib.hid (heap_alloc_new (w10.setCell ⟨u.heap.size, 1, none⟩ (.slice (some ⟨g10, 0, none⟩) (j + 1) cap10)) (.cells #[.bool false] 4))
      go_upto_region 7 with fail
      generalize w10.setCell ⟨u.heap.size, 1, none⟩ (.slice (some ⟨g10, 0, none⟩) (j + 1) cap10) = w11 at *
      go_wp2_with (at_builtin; refine wpList_append_lies9 rfl _ _ 42 rfl u.heap.size 4 i3 (.bool false) 1 1 Try.underlying42 hi3 hz3 hs3 hb3 rfl (by decide) v3 j _ rfl M12.out.o3 ⟨w11.heap.size, 0, none⟩ 1 1 [.bool false] rfl rfl ?_ ?_ (by decide) (by unfold maxLen; omega) (by omega) K12.out.size (w11.alloc (.cells #[.bool false] 4)).heap.size rfl ?_)
      · intro q x hq
        rcases q with _ | q
        · simp only [List.getElem?_cons_zero, Option.some.injEq] at hq
          subst hq
          rw [add_plain, Lib.cell_of_heap C12.out]; rfl
        · simp at hq
      · intro x hx
        simp only [List.mem_cons, List.not_mem_nil, or_false] at hx
        subst hx; rfl
      intro g13 cap13 w13 hown hgr hl hlt13
      generalize w11.alloc (.cells #[.bool false] 4) = w12 at *
      have M13 := Lib.hid (M12.out.three hown hgr)
      have K13 := Lib.hid (K12.out.trans (below_grown9 M12.out.o3 K12.out.size hgr))
      have P13 := Lib.hid (grown_keep9 M12.out.o3 hgr M12.out.box (fun c f => by simp))
      have K14 := Lib.hid (K13.out.trans (set_below9 (o := 2) (Nat.le_refl _) (.slice (some ⟨g13, 0, none⟩) (j + 1) cap13) w13))
      have q4 : w13.cell? ⟨u.heap.size, 2, none⟩ = some v3 := by rw [Lib.cell_of_heap P13.out]; rfl
      have f4 : w13.frozen? ⟨u.heap.size, 2, none⟩ = false := Lib.frozen_of_heap P13.out 2
      clear hown hgr hl q2 f2 q3
      go_wp2_with fail
      go_roundw
      case rel => exact ⟨j + 1, HJ.out, by go_num, ⟨_, _, _, M13.out⟩, K14.out⟩
      case measure => have := HJ.out; simp [intOf]; omega
    · obtain rfl : j = n := by omega
      have d1 : decide ((j : Int) < (j : Int)) = false := by simp
      obtain ⟨b1, b2, b3, c1, c2, c3, hd⟩ := MJ.out.disk (by omega)
      have HD := Lib.hid hd
      clear hd
      go_wp2_with fail
      go_ret
      exact ⟨_, b1, b2, b3, c1, c2, c3, rfl, HD.out, KJ.out⟩

end Go.Proofs.Ytdmlmjmdpmmcgaa
namespace Go.Proofs.Ytdmlmjmdpmmcgaa
open Go.RowKit Go.Deep Go.Maps
set_option linter.unusedVariables false
set_option linter.unusedSimpArgs false
set_option maxRecDepth 100000

/-- both disks -/
structure Both (base P bS bm cS Q b1 b2 b3 c1 c2 c3 : Nat) (d : Dk) (u : World) : Prop where
  p : PDk base P bS bm cS d u
  r : RDk base Q b1 b2 b3 c1 c2 c3 d u
  ok : OkD d
  sz : base ≤ u.heap.size
theorem RDk.mono {base base2 Q b1 b2 b3 c1 c2 c3 : Nat} {d : Dk} {u : World} (h : RDk base Q b1 b2 b3 c1 c2 c3 d u) (hb : base2 ≤ base) : RDk base2 Q b1 b2 b3 c1 c2 c3 d u :=
  ⟨h.box, h.r1, h.r2, h.r3, h.ne, Nat.le_trans hb h.lo.1, Nat.le_trans hb h.lo.2.1, Nat.le_trans hb h.lo.2.2.1, Nat.le_trans hb h.lo.2.2.2⟩
theorem CrA.mono {base base2 : Nat} {keep : List Bool} {t b : Int} {v : Value} {u : World} (h : CrA base keep t b v u) (hb : base ≤ base2) : CrA base2 keep t b v u := by
  obtain ⟨ao, cap, e, h1, h2, h3⟩ := h.k
  exact ⟨⟨ao, cap, e, h1, h2, fun hp => by
    obtain ⟨B, o, e2, hB, hc⟩ := h3 hp
    exact ⟨B, o, e2, Nat.lt_of_lt_of_le hB hb, hc⟩⟩, h.t, h.b⟩
section
variable {base P bS bm cS Q b1 b2 b3 c1 c2 c3 : Nat} {d : Dk} {u u2 u3 : World}
theorem Both.below (h : Both base P bS bm cS Q b1 b2 b3 c1 c2 c3 d u) (k : Below u.heap.size u u2) : Both base P bS bm cS Q b1 b2 b3 c1 c2 c3 d u2 := ⟨h.p.below k, h.r.below k, h.ok, Nat.le_trans h.sz k.size⟩
theorem bd_of (h : OkD d) {m : Nat} (hm : d.calls ≤ m) (hm2 : m < 1000000) (ha : d.arm ≤ 9223372036854775807) : BdD d := ⟨h.n.2, by omega, ha⟩
theorem count_calls (d : Dk) : (countD d).calls = d.calls + 1 ∧ (countD d).arm ≤ d.arm := by
  unfold countD; split
  · exact ⟨rfl, Nat.zero_le _⟩
  · exact ⟨rfl, Nat.sub_le _ _⟩
/-- one is written, then the other -/
theorem Both.next {bm2 : Nat} {d2 : Dk} (h : Both base P bS bm cS Q b1 b2 b3 c1 c2 c3 d u) (hp : PDk base P bS bm2 cS d2 u2) (k1 : KpS (P3 P bS bm) u u2) : RDk base Q b1 b2 b3 c1 c2 c3 d u2 ∧ Below base u u2 ∧ base ≤ u2.heap.size :=
  ⟨h.r.stays h.p k1, h.p.bot k1 h.sz, Nat.le_trans h.sz k1.size⟩
theorem Both.last {bm2 : Nat} {d2 : Dk} (h : Both base P bS bm cS Q b1 b2 b3 c1 c2 c3 d u) (hp : PDk base P bS bm2 cS d2 u2) (k1 : KpS (P3 P bS bm) u u2) (hr : RDk base Q b1 b2 b3 c1 c2 c3 d2 u3) (k2 : KpS (R4 Q b1 b2 b3) u2 u3) (ho : OkD d2) : Both base P bS bm2 cS Q b1 b2 b3 c1 c2 c3 d2 u3 ∧ Below base u u3 := by
  obtain ⟨h1, h2, h3⟩ := h.next hp k1
  exact ⟨⟨hp.stays h1 k2, hr, ho, Nat.le_trans h3 k2.size⟩, h2.trans (h1.bot k2 h3)⟩
end

end Go.Proofs.Ytdmlmjmdpmmcgaa
namespace Go.Proofs.Ytdmlmjmdpmmcgaa
open Go.RowKit

/-- the lowest k bytes of n, the highest first -/
def beI : Nat → Int → List Int
  | 0, _ => []
  | k + 1, n => (n / 256 ^ k % 256) :: beI k n

theorem beI_len (k : Nat) (n : Int) : (beI k n).length = k := by
  induction k with
  | zero => rfl
  | succ k ih => simp [beI, ih]

/-- what the row holds when i of k bytes have been laid -/
def layRow (k i : Nat) (n : Int) : List Int := List.replicate (k - i) 0 ++ beI i n

theorem layRow_len (k i : Nat) (n : Int) (h : i ≤ k) : (layRow k i n).length = k := by
  simp [layRow, beI_len]; omega

theorem layRow_step (k i : Nat) (n : Int) (h : i < k) :
    (layRow k i n).set (k - 1 - i) (n / 256 ^ i % 256) = layRow k (i + 1) n := by
  unfold layRow
  have e : k - i = (k - 1 - i) + 1 := by omega
  have e2 : k - (i + 1) = k - 1 - i := by omega
  rw [e2, e, List.replicate_succ', List.append_assoc, List.set_append_right _ _ (by simp)]
  simp [beI]

theorem layRow_full (k : Nat) (n : Int) : layRow k k n = beI k n := by simp [layRow]
theorem layRow_zero (k : Nat) (n : Int) : layRow k 0 n = List.replicate k 0 := by simp [layRow, beI]

theorem div_next (n : Int) (j : Nat) : n / 256 ^ j / 256 = n / 256 ^ (j + 1) := by
  rw [Int.pow_succ, Int.ediv_ediv_of_nonneg (Int.pow_nonneg (by omega))]

/-- a signed number as the unsigned one whose bytes are laid: plus 2^63, wrap-round -/
def flip63 (n : Int) : Int := IntKind.u64.wrap (IntKind.u64.wrap n + 9223372036854775808)

theorem flip63_lo (n : Int) : 0 ≤ flip63 n := by unfold flip63 IntKind.wrap; simp [IntKind.bits, IntKind.signed]; omega
theorem flip63_hi (n : Int) : flip63 n ≤ 18446744073709551615 := by unfold flip63 IntKind.wrap; simp [IntKind.bits, IntKind.signed]; omega

theorem bits_or_u64 (x y : Nat) (hx : x < 2 ^ 64) (hy : y < 2 ^ 64) : bits .or .u64 (x : Int) (y : Int) = ((x ||| y : Nat) : Int) := by
  have h := Nat.or_lt_two_pow hx hy
  show IntKind.u64.wrap (((BitVec.ofInt 64 (x : Int) ||| BitVec.ofInt 64 (y : Int)).toNat : Nat) : Int) = _
  rw [BitVec.toNat_or, BitVec.toNat_ofInt, BitVec.toNat_ofInt]
  have ex : ((x : Int) % ((2 ^ 64 : Nat) : Int)).toNat = x := by omega
  have ey : ((y : Int) % ((2 ^ 64 : Nat) : Int)).toNat = y := by omega
  rw [ex, ey]
  exact IntWalk.u64_in _ (by omega)

/-- 'n << 8 | b' on a uint64 -/
theorem shl8_or (x b : Int) (hx0 : 0 ≤ x) (hx : x < 72057594037927936) (hb0 : 0 ≤ b) (hb : b ≤ 255) :
    bits .or .u64 (IntKind.u64.wrap (x * 256)) (IntKind.u64.wrap b) = x * 256 + b := by
  obtain ⟨X, rfl⟩ := Int.eq_ofNat_of_zero_le hx0
  obtain ⟨B, rfl⟩ := Int.eq_ofNat_of_zero_le hb0
  rw [IntWalk.u64_in _ (by omega), IntWalk.u64_in _ (by omega)]
  have e : ((X : Int) * 256) = ((X * 256 : Nat) : Int) := by omega
  rw [e, bits_or_u64 _ _ (by omega) (by omega)]
  have hB : B < 2 ^ 8 := by omega
  have := Nat.shiftLeft_add_eq_or_of_lt hB X
  rw [Nat.shiftLeft_eq] at this
  have e2 : X * 256 ||| B = X * 256 + B := by rw [← this]
  rw [e2]
  omega

end Go.Proofs.Ytdmlmjmdpmmcgaa
namespace Go.Proofs.Ytdmlmjmdpmmcgaa
open Go.RowKit
set_option maxRecDepth 100000

/-- byte i of a string, as a number; 0 behind its end -/
def byteI (s : ByteArray) (i : Nat) : Int := ((s.data.toList.getD i 0).toNat : Int)
/-- k bytes from a place on, as one number -/
def rdI (s : ByteArray) (at0 : Nat) : Nat → Int
  | 0 => 0
  | k + 1 => rdI s at0 k * 256 + byteI s (at0 + k)

theorem byteI_bd (s : ByteArray) (i : Nat) : 0 ≤ byteI s i ∧ byteI s i ≤ 255 := by
  unfold byteI; have := (s.data.toList.getD i 0).toNat_lt; omega

theorem rdI_bd (s : ByteArray) (a k : Nat) : 0 ≤ rdI s a k ∧ rdI s a k < 256 ^ k := by
  induction k with
  | zero => simp [rdI]
  | succ k ih =>
    have hb := byteI_bd s (a + k)
    have e : (256 : Int) ^ (k + 1) = 256 ^ k * 256 := Int.pow_succ 256 k
    rw [e]
    simp only [rdI]
    omega

theorem rdI_56 (s : ByteArray) (a j : Nat) (h : j < 8) : rdI s a j < 72057594037927936 := by
  have := (rdI_bd s a j).2
  rcases (by omega : j = 0 ∨ j = 1 ∨ j = 2 ∨ j = 3 ∨ j = 4 ∨ j = 5 ∨ j = 6 ∨ j = 7) with rfl | rfl | rfl | rfl | rfl | rfl | rfl | rfl <;> omega

theorem byteI_at (s : ByteArray) (i : Nat) (h : i < s.size) : ((s[i].toNat : Nat) : Int) = byteI s i := by
  unfold byteI
  have h2 : i < s.data.toList.length := by simpa using h
  simp [List.getD, List.getElem?_eq_getElem h2]
  rfl

/-- what reading k bytes at a place gives: the number, the place behind it, the error -/
def rdSpec (s : ByteArray) (a : Int) (k : Nat) : Int × Int × Int :=
  if a < 0 ∨ (s.size : Int) < a then (0, 0, 3) else if (s.size : Int) - a < (k : Int) then (0, 0, 5) else (rdI s a.toNat k, a + k, 0)

/-- the three results, as the Go functions hand them back -/
def rdRet (x : Int × Int × Int) : Ending := .returned (.tuple #[.int .u64 x.1, .int .i64 x.2.1, .int .i64 x.2.2])

/-- from the number that was laid to the signed one -/
def unflip63 (n : Int) : Int := wrap64 (IntKind.u64.wrap (n - 9223372036854775808))
def rdISpec (x : Int × Int × Int) : Int × Int × Int := if x.2.2 = 0 then (unflip63 x.1, x.2.1, 0) else (0, 0, x.2.2)
def rdIRet (x : Int × Int × Int) : Ending := .returned (.tuple #[.int .i64 x.1, .int .i64 x.2.1, .int .i64 x.2.2])

end Go.Proofs.Ytdmlmjmdpmmcgaa
namespace Go.Proofs.Ytdmlmjmdpmmcgaa
open Go.RowKit

theorem emod_next (a : Int) (p : Int) (hp : 0 < p) : a % (p * 256) = p * (a / p % 256) + a % p := by
  have h1 := Int.mul_ediv_add_emod a p
  have h2 := Int.mul_ediv_add_emod (a / p) 256
  have h3 := Int.emod_nonneg a (show p ≠ 0 by omega)
  have h4 := Int.emod_lt_of_pos a hp
  have h5 := Int.emod_nonneg (a / p) (show (256 : Int) ≠ 0 by omega)
  have h6 := Int.emod_lt_of_pos (a / p) (show (0 : Int) < 256 by omega)
  generalize hd : a / p % 256 = d at *
  generalize hr : a % p = r at *
  generalize hq : a / p = q at *
  generalize q / 256 = c at *
  have e : a = (p * d + r) + (p * 256) * c := by
    have : p * q = p * (256 * c) + p * d := by rw [← h2, Int.mul_add]
    have e2 : p * 256 * c = p * (256 * c) := Int.mul_assoc p 256 c
    omega
  rw [e, Int.add_mul_emod_self_left]
  apply Int.emod_eq_of_lt
  · have := Int.mul_nonneg (Int.le_of_lt hp) h5; omega
  · have := Int.mul_le_mul_of_nonneg_left (show d ≤ 255 by omega) (Int.le_of_lt hp); omega

theorem lex (p da db ra rb : Int) (hp : 0 < p) (h1 : 0 ≤ ra) (h2 : ra < p) (h3 : 0 ≤ rb) (h4 : rb < p) :
    (p * da + ra < p * db + rb) ↔ (da < db ∨ (da = db ∧ ra < rb)) := by
  constructor
  · intro h
    by_cases hlt : da < db
    · exact .inl hlt
    by_cases heq : da = db
    · subst heq; exact .inr ⟨rfl, by omega⟩
    · exfalso
      have := Int.mul_le_mul_of_nonneg_left (show db + 1 ≤ da by omega) (Int.le_of_lt hp)
      rw [Int.mul_add] at this
      omega
  · rintro (h | ⟨rfl, h⟩)
    · have := Int.mul_le_mul_of_nonneg_left (show da + 1 ≤ db by omega) (Int.le_of_lt hp)
      rw [Int.mul_add] at this
      omega
    · omega

def toU8 (x : Int) : UInt8 := UInt8.ofNat x.toNat
theorem toU8_lt (x y : Int) (hx : 0 ≤ x) (hx2 : x < 256) (hy : 0 ≤ y) (hy2 : y < 256) : (toU8 x < toU8 y) ↔ x < y := by
  rw [UInt8.lt_iff_toNat_lt]; simp [toU8]; omega
theorem toU8_eq (x y : Int) (hx : 0 ≤ x) (hx2 : x < 256) (hy : 0 ≤ y) (hy2 : y < 256) : (toU8 x = toU8 y) ↔ x = y := by
  rw [← UInt8.toNat_inj]; simp [toU8]; omega

theorem less_beI (k : Nat) (a b : Int) : Op.bytesLess ((beI k a).map toU8) ((beI k b).map toU8) = decide (a % 256 ^ k < b % 256 ^ k) := by
  induction k with
  | zero => simp [beI, Op.bytesLess, Int.emod_one]
  | succ k ih =>
    have hp : (0 : Int) < 256 ^ k := Int.pow_pos (by omega)
    have ea := emod_next a (256 ^ k) hp
    have eb := emod_next b (256 ^ k) hp
    have e := Int.pow_succ 256 k
    rw [e, ea, eb]
    have a1 := Int.emod_nonneg a (show (256 : Int) ^ k ≠ 0 by omega)
    have a2 := Int.emod_lt_of_pos a hp
    have b1 := Int.emod_nonneg b (show (256 : Int) ^ k ≠ 0 by omega)
    have b2 := Int.emod_lt_of_pos b hp
    have hl := lex (256 ^ k) (a / 256 ^ k % 256) (b / 256 ^ k % 256) (a % 256 ^ k) (b % 256 ^ k) hp a1 a2 b1 b2
    simp only [beI, List.map_cons, Op.bytesLess, ih]
    generalize hda : a / 256 ^ k % 256 = da at *
    generalize hdb : b / 256 ^ k % 256 = db at *
    have c1 : 0 ≤ da := by omega
    have c2 : da < 256 := by omega
    have c3 : 0 ≤ db := by omega
    have c4 : db < 256 := by omega
    rw [Bool.eq_iff_iff]
    simp only [Bool.or_eq_true, decide_eq_true_eq, Bool.and_eq_true, beq_iff_eq, hl, toU8_lt da db c1 c2 c3 c4, toU8_eq da db c1 c2 c3 c4]

theorem strOfNums_toList (xs : List Int) : (strOfNums xs).toList = xs.map toU8 := by
  rw [ByteArray.toList_eq, strOfNums_data]; rfl

theorem less_8 (a b : Int) (ha : 0 ≤ a) (ha2 : a ≤ 18446744073709551615) (hb : 0 ≤ b) (hb2 : b ≤ 18446744073709551615) :
    Op.bytesLess (strOfNums (beI 8 a)).toList (strOfNums (beI 8 b)).toList = decide (a < b) := by
  rw [strOfNums_toList, strOfNums_toList, less_beI]
  have e1 : a % 256 ^ 8 = a := by omega
  have e2 : b % 256 ^ 8 = b := by omega
  rw [e1, e2]

theorem eq_8 (a b : Int) (ha : 0 ≤ a) (ha2 : a ≤ 18446744073709551615) (hb : 0 ≤ b) (hb2 : b ≤ 18446744073709551615) :
    ((strOfNums (beI 8 a)).toList == (strOfNums (beI 8 b)).toList) = (a == b) := by
  rw [Bool.eq_iff_iff, beq_iff_eq, beq_iff_eq]
  constructor
  · intro h
    have h1 := less_8 a b ha ha2 hb hb2
    have h2 := less_8 b a hb hb2 ha ha2
    rw [h] at h1 h2
    rw [h2] at h1
    by_cases c1 : a < b
    · have : ¬ b < a := by omega
      simp [c1, this] at h1
    · by_cases c2 : b < a
      · simp [c1, c2] at h1
      · omega
  · rintro rfl; rfl

theorem flip63_eq (n : Int) (h1 : -9223372036854775808 ≤ n) (h2 : n ≤ 9223372036854775807) : flip63 n = n + 9223372036854775808 := by
  unfold flip63
  rw [IntKind.wrap_u64, IntKind.wrap_u64]
  omega

theorem flip63_lt (c d : Int) (h1 : -9223372036854775808 ≤ c) (h2 : c ≤ 9223372036854775807) (h3 : -9223372036854775808 ≤ d) (h4 : d ≤ 9223372036854775807) :
    Op.bytesLess (strOfNums (beI 8 (flip63 c))).toList (strOfNums (beI 8 (flip63 d))).toList = decide (c < d) := by
  rw [less_8 _ _ (flip63_lo c) (flip63_hi c) (flip63_lo d) (flip63_hi d), flip63_eq c h1 h2, flip63_eq d h3 h4]
  rw [Bool.eq_iff_iff]; simp

end Go.Proofs.Ytdmlmjmdpmmcgaa
namespace Go.Proofs.Ytdmlmjmdpmmcgaa
open Go.RowKit
set_option maxRecDepth 100000

/-- k bytes of s from a on, as numbers -/
def numsAt (s : ByteArray) (a k : Nat) : List Int := (List.range k).map fun i => byteI s (a + i)
theorem numsAt_len (s : ByteArray) (a k : Nat) : (numsAt s a k).length = k := by simp [numsAt]
theorem numsAt_succ (s : ByteArray) (a k : Nat) : numsAt s a (k + 1) = numsAt s a k ++ [byteI s (a + k)] := by simp [numsAt, List.range_succ]
theorem numsAt_add (s : ByteArray) (a j k : Nat) : numsAt s a (j + k) = numsAt s a j ++ numsAt s (a + j) k := by
  induction k with
  | zero => simp [numsAt]
  | succ k ih => rw [← Nat.add_assoc, numsAt_succ, ih, numsAt_succ, List.append_assoc, Nat.add_assoc]

theorem beI_snoc (k : Nat) (n : Int) : beI (k + 1) n = beI k (n / 256) ++ [n % 256] := by
  induction k with
  | zero => simp [beI]
  | succ k ih =>
    rw [show beI (k + 1 + 1) n = (n / 256 ^ (k + 1) % 256) :: beI (k + 1) n from rfl, ih]
    rw [show beI (k + 1) (n / 256) = (n / 256 / 256 ^ k % 256) :: beI k (n / 256) from rfl]
    have e : n / 256 ^ (k + 1) = n / 256 / 256 ^ k := by
      rw [Int.ediv_ediv_of_nonneg (by omega), Int.pow_succ, Int.mul_comm]
    rw [e]
    rfl

theorem beI_rdI (s : ByteArray) (a k : Nat) : beI k (rdI s a k) = numsAt s a k := by
  induction k with
  | zero => rfl
  | succ k ih =>
    have hb := byteI_bd s (a + k)
    rw [beI_snoc, numsAt_succ]
    simp only [rdI]
    rw [show (rdI s a k * 256 + byteI s (a + k)) / 256 = rdI s a k from by omega, show (rdI s a k * 256 + byteI s (a + k)) % 256 = byteI s (a + k) from by omega, ih]

theorem beI_inj (k : Nat) (a b : Int) (ha : 0 ≤ a) (ha2 : a < 256 ^ k) (hb : 0 ≤ b) (hb2 : b < 256 ^ k) (h : beI k a = beI k b) : a = b := by
  have h1 := less_beI k a b
  have h2 := less_beI k b a
  rw [h] at h1 h2
  rw [h2] at h1
  rw [Int.emod_eq_of_lt ha ha2, Int.emod_eq_of_lt hb hb2] at h1
  by_cases c1 : a < b
  · have : ¬ b < a := by omega
    simp [c1, this] at h1
  · by_cases c2 : b < a
    · simp [c1, c2] at h1
    · omega

/-- what stands as the bytes of n is read as n -/
theorem rdI_of (s : ByteArray) (a k : Nat) (n : Int) (hn : 0 ≤ n) (hn2 : n < 256 ^ k) (h : numsAt s a k = beI k n) : rdI s a k = n := by
  have hb := rdI_bd s a k
  exact beI_inj k _ _ hb.1 hb.2 hn hn2 ((beI_rdI s a k).trans h)

theorem strOfNums_append (xs ys : List Int) : strOfNums xs ++ strOfNums ys = strOfNums (xs ++ ys) := by
  apply Go.WideShapes.bytes_inj
  simp [strOfNums]

theorem toU8_byteI (s : ByteArray) (i : Nat) : toU8 (byteI s i) = s.data.toList.getD i 0 := by
  unfold toU8 byteI; simp

theorem extract_nums (s : ByteArray) (a k : Nat) (h : a + k ≤ s.size) : s.extract a (a + k) = strOfNums (numsAt s a k) := by
  apply Go.WideShapes.bytes_inj
  rw [strOfNums_data]
  have hs : s.data.toList.length = s.size := by simp
  have e : (s.extract a (a + k)).data.toList = (s.data.toList.drop a).take k := by
    simp [ByteArray.data_extract, Array.toList_extract, List.extract_eq_take_drop]
  rw [e]
  apply List.ext_getElem
  · simp [numsAt]; omega
  · intro i h1 h2
    have hi : i < k := by simp [numsAt] at h2; exact h2
    simp only [List.getElem_take, List.getElem_drop, numsAt, List.map_map, List.getElem_map, List.getElem_range, Function.comp]
    have := toU8_byteI s (a + i)
    unfold toU8 at this
    rw [this]
    simp [List.getD, List.getElem?_eq_getElem (show a + i < s.data.toList.length by omega)]

theorem nums_self (s : ByteArray) : strOfNums (numsAt s 0 s.size) = s := by
  have h := extract_nums s 0 s.size (by omega)
  rw [← h]
  simp

/-- the bytes of what was laid between two others -/
theorem numsAt_mid (A B : ByteArray) (xs : List Int) (hx : ∀ x ∈ xs, 0 ≤ x ∧ x ≤ 255) : numsAt (A ++ strOfNums xs ++ B) A.size xs.length = xs := by
  apply List.ext_getElem
  · simp [numsAt]
  · intro i h1 h2
    have hx2 := hx xs[i] (List.getElem_mem h2)
    simp only [numsAt, List.getElem_map, List.getElem_range, byteI]
    have e : (A ++ strOfNums xs ++ B).data.toList = A.data.toList ++ ((strOfNums xs).data.toList ++ B.data.toList) := by simp
    have hA : A.data.toList.length = A.size := by simp
    rw [e, List.getD_eq_getElem?_getD, List.getElem?_append_right (by omega), hA, Nat.add_sub_cancel_left, strOfNums_data, List.getElem?_append_left (by simpa using h2)]
    simp [List.getElem?_eq_getElem h2]
    omega

theorem beI_mem (k : Nat) (n : Int) : ∀ x ∈ beI k n, 0 ≤ x ∧ x ≤ 255 := by
  induction k with
  | zero => intro x hx; simp [beI] at hx
  | succ k ih =>
    intro x hx
    simp only [beI, List.mem_cons] at hx
    rcases hx with rfl | hx
    · omega
    · exact ih x hx

theorem numsAt_mem (s : ByteArray) (a k : Nat) : ∀ x ∈ numsAt s a k, 0 ≤ x ∧ x ≤ 255 := by
  intro x hx
  simp only [numsAt, List.mem_map] at hx
  obtain ⟨i, _, rfl⟩ := hx
  exact byteI_bd s _

theorem unflip_flip (m : Int) (h1 : -9223372036854775808 ≤ m) (h2 : m ≤ 9223372036854775807) : unflip63 (flip63 m) = m := by
  rw [flip63_eq m h1 h2]
  unfold unflip63
  rw [show m + 9223372036854775808 - 9223372036854775808 = m from by omega, IntKind.wrap_u64]
  unfold wrap64
  omega

theorem flip_unflip (x : Int) (h1 : 0 ≤ x) (h2 : x ≤ 18446744073709551615) : flip63 (unflip63 x) = x := by
  have e : unflip63 x = x - 9223372036854775808 := by
    unfold unflip63
    rw [IntKind.wrap_u64]
    unfold wrap64
    omega
  rw [e, flip63_eq _ (by omega) (by omega)]
  omega

theorem rdI8_bd (s : ByteArray) (a : Nat) : rdI s a 8 ≤ 18446744073709551615 := by
  have := (rdI_bd s a 8).2
  omega

/-! ### there and back -/

theorem size_mid (A B : ByteArray) (xs : List Int) : (A ++ strOfNums xs ++ B).size = A.size + xs.length + B.size := by
  rw [ByteArray.size_append, ByteArray.size_append, strOfNums_size]

theorem back_u (A B : ByteArray) (n : Int) (h1 : 0 ≤ n) (h2 : n ≤ 18446744073709551615) : rdSpec (A ++ strOfNums (beI 8 n) ++ B) A.size 8 = (n, (A.size : Int) + 8, 0) := by
  have hm := numsAt_mid A B (beI 8 n) (beI_mem 8 n)
  rw [beI_len] at hm
  have hz := size_mid A B (beI 8 n)
  rw [beI_len] at hz
  unfold rdSpec
  rw [if_neg (by omega), if_neg (by omega), Int.toNat_natCast, rdI_of _ _ 8 n h1 (by omega) hm]
  rfl

theorem back_i (A B : ByteArray) (m : Int) (h1 : -9223372036854775808 ≤ m) (h2 : m ≤ 9223372036854775807) : rdISpec (rdSpec (A ++ strOfNums (beI 8 (flip63 m)) ++ B) A.size 8) = (m, (A.size : Int) + 8, 0) := by
  rw [back_u A B _ (flip63_lo m) (flip63_hi m)]
  unfold rdISpec
  rw [if_pos rfl]
  simp only
  rw [unflip_flip m h1 h2]

theorem once_u (s : ByteArray) (a : Nat) (h : a + 8 ≤ s.size) : strOfNums (beI 8 (rdI s a 8)) = s.extract a (a + 8) := by
  rw [beI_rdI, extract_nums s a 8 h]


end Go.Proofs.Ytdmlmjmdpmmcgaa
