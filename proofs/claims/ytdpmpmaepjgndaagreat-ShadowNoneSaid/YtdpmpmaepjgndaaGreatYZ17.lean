/- The contracts of the program's chooser and Crash. A call of both whose disk may go down in it (part); what is asked of disks that go down and crash. -/
import Derived.StillTailTactics
import Derived.Test.YtdpmpmaepjgndaaGreatYZ5
import Derived.Test.YtdpmpmaepjgndaaGreatYZ11
namespace Go.Proofs.YtdpmpmaepjgndaaGreat
open Go.RowKit Go.Deep Go.Maps
set_option linter.unusedVariables false
set_option linter.unusedSimpArgs false
set_option maxRecDepth 100000

variable {base P bS bm cS : Nat} {d : Dk} {u : World}
/-- what a crash says: a slice of bools that lies below base, and two numbers -/
structure CrA (base : Nat) (keep : List Bool) (t b : Int) (v : Value) (u : World) : Prop where
  k : ∃ ao cap, v = .slice ao keep.length cap ∧ keep.length ≤ cap ∧ cap ≤ 9223372036854775807 ∧ (0 < keep.length → ∃ B o, ao = some ⟨B, o, none⟩ ∧ B < base ∧ ∀ i, i < keep.length → u.cell? ⟨B, o + i, none⟩ = some (.bool (keep.getD i false)))
  t : -9223372036854775808 ≤ t ∧ t ≤ 9223372036854775807
  b : -9223372036854775808 ≤ b ∧ b ≤ 9223372036854775807
theorem CrA.below {base : Nat} {keep : List Bool} {t b : Int} {v : Value} {u u2 : World} (h : CrA base keep t b v u) (k : Below base u u2) : CrA base keep t b v u2 := by
  obtain ⟨ao, cap, e, h1, h2, h3⟩ := h.k
  exact ⟨⟨ao, cap, e, h1, h2, fun hp => by
    obtain ⟨B, o, e2, hB, hc⟩ := h3 hp
    exact ⟨B, o, e2, hB, fun i hi => by rw [World.cell?_of_block (k.block B hB)]; exact hc i hi⟩⟩, h.t, h.b⟩
/-- how many bytes of the torn one stay -/
def tornB (b : Int) : Int := if 0 < b then b % 65 else 0
/-- the function that tells how many bytes stay -/
def fvC (B1 B2 : Nat) : Value := .func (.func 136) #[] #[.pointer (some ⟨B1, 0, none⟩), .pointer (some ⟨B2, 0, none⟩)]
structure ChA (base : Nat) (keep : List Bool) (t b : Int) (v : Value) (B1 B2 : Nat) (u : World) : Prop where
  a : CrA base keep t b v u
  x : u.heap[B1]? = some (.cells #[v, .int .i64 t, .int .i64 b] 50 (0, 0))
  y : u.heap[B2]? = some (.cells #[.int .i64 (tornB b)] 3 (0, 0))
theorem ChA.kept {base : Nat} {keep : List Bool} {t b : Int} {v : Value} {B1 B2 : Nat} {u u2 : World} (h : ChA base keep t b v B1 B2 u) (k : Below base u u2) (k1 : u2.heap[B1]? = u.heap[B1]?) (k2 : u2.heap[B2]? = u.heap[B2]?) : ChA base keep t b v B1 B2 u2 :=
  ⟨h.a.below k, k1.trans h.x, k2.trans h.y⟩
set_option maxHeartbeats 800000 in
theorem chooser_any {keep : List Bool} {t b : Int} {v : Value} {u : World} (h : CrA base keep t b v u) (hbase : base ≤ u.heap.size) : Calls Tryz.prog 98 #[.agg #[v, .int .i64 t, .int .i64 b]] u fun r u' => ∃ B1 B2, r = .returned (fvC B1 B2) ∧ u.heap.size ≤ B1 ∧ u.heap.size ≤ B2 ∧ ChA base keep t b v B1 B2 u' ∧ Below u.heap.size u u' := by
  have hmf : ∀ (fn : Fn) (first cap : Array Value) (w : World), (Instr.makeFunc fn first cap).run Tryz.prog w = .ok (.func fn first cap) w := fun _ _ _ _ => rfl
  have H := Lib.hid h
  obtain ⟨ht1, ht2⟩ := h.t
  obtain ⟨hb1, hb2⟩ := h.b
  clear h
  go_enter Tryz.func98, Tryz.ntmps98
  have X1 := Lib.hid (heap_alloc_new u (.cells #[v, .int .i64 t, .int .i64 b] 50))
  have B1 := Lib.hid (balloc u (.cells #[v, .int .i64 t, .int .i64 b] 50))
  have S1 : Hid ((u.alloc (.cells #[v, .int .i64 t, .int .i64 b] 50)).heap.size = u.heap.size + 1) := Lib.hid (World.size_alloc _ _)
  have X2 := Lib.hid (heap_alloc_new (u.alloc (.cells #[v, .int .i64 t, .int .i64 b] 50)) (.cells #[.int .i64 (tornB b)] 3))
  have B2 := Lib.hid (balloc (u.alloc (.cells #[v, .int .i64 t, .int .i64 b] 50)) (.cells #[.int .i64 (tornB b)] 3))
  have F : ∀ q : Int, q = tornB b → Hid (∃ B1 B2, Ending.returned (Value.func (.func 136) #[] #[.pointer (some ⟨u.heap.size, 0, none⟩), .pointer (some ⟨u.heap.size + 1, 0, none⟩)]) = Ending.returned (fvC B1 B2) ∧ u.heap.size ≤ B1 ∧ u.heap.size ≤ B2 ∧ ChA base keep t b v B1 B2 ((u.alloc (.cells #[v, .int .i64 t, .int .i64 b] 50)).alloc (.cells #[.int .i64 q] 3)) ∧ Below u.heap.size u ((u.alloc (.cells #[v, .int .i64 t, .int .i64 b] 50)).alloc (.cells #[.int .i64 q] 3))) := by
    rintro q rfl
    have X2' := X2.out
    have B2' := B2.out
    rw [S1.out] at X2' B2'
    refine Lib.hid ⟨_, _, rfl, Nat.le_refl _, by omega, ⟨(H.out.below (B1.out.mono hbase)).below (B2.out.mono (Nat.le_trans hbase B1.out.size)), ?_, X2'⟩, B1.out.trans (B2.out.mono B1.out.size)⟩
    rw [B2'.block _ (by omega)]; exact X1.out
  have F := Lib.hid F
  by_cases hb : 0 < b
  · have E := Lib.hid (show b % 65 = tornB b by simp [tornB, hb])
    go_wp2_with fail
    all_goals (go_ret; exact (F.out _ E.out).out)
  · have E := Lib.hid (show 0 = tornB b by simp [tornB, hb])
    go_wp2_with fail
    all_goals (go_ret; first | exact (F.out _ E.out).out | exact (F.out _ (by unfold tornB; split <;> omega)).out)

theorem chose_any {keep : List Bool} {t b : Int} {v : Value} {B1 B2 : Nat} {u : World} (h : ChA base keep t b v B1 B2 u) (j : Nat) (hj : j ≤ 1000000) : Calls Tryz.prog 136 #[.int .i64 (j : Int), .pointer (some ⟨B1, 0, none⟩), .pointer (some ⟨B2, 0, none⟩)] u fun r u' => r = .returned (.int .i64 (keepN keep t b j : Int)) ∧ u' = u := by
  have x0 : u.cell? ⟨B1, 0, none⟩ = some v := by rw [Lib.cell_of_heap h.x]; rfl
  have x1 : u.cell? ⟨B1, 1, none⟩ = some (.int .i64 t) := by rw [Lib.cell_of_heap h.x]; rfl
  have y0 : u.cell? ⟨B2, 0, none⟩ = some (.int .i64 (tornB b)) := by rw [Lib.cell_of_heap h.y]; rfl
  obtain ⟨ao, cap, rfl, h1, h2, h3⟩ := h.a.k
  have hj0 : (0 : Int) ≤ (j : Int) := by omega
  go_enter Tryz.func136, Tryz.ntmps136
  by_cases e : (j : Int) = t
  · have E : (keepN keep t b j : Int) = tornB b := by
      unfold keepN tornB
      rw [if_pos e]
      split <;> omega
    have d1 : ((j : Int) == t) = true := by simp [e]
    clear h h3 x0
    rw [E]
    go_wp2_with fail
    go_ret
    exact ⟨rfl, rfl⟩
  · have d1 : ((j : Int) == t) = false := by simp [e]
    by_cases hl : j < keep.length
    · have d2 : decide ((j : Int) < (keep.length : Int)) = true := by simp [hl]
      have hl2 : (j : Int) < (keep.length : Int) := by omega
      obtain ⟨B, o, rfl, hB, hc⟩ := h3 (by omega)
      have c := hc j hl
      cases hk : keep.getD j false with
      | true =>
        have E : (keepN keep t b j : Int) = 64 := by unfold keepN; rw [if_neg e, hk]; rfl
        rw [hk] at c
        clear h h3 hc y0
        rw [E]
        generalize keep.length = n at *
        go_wp2_with fail
        go_ret
        exact ⟨rfl, rfl⟩
      | false =>
        have E : (keepN keep t b j : Int) = 0 := by unfold keepN; rw [if_neg e, hk]; rfl
        rw [hk] at c
        clear h h3 hc y0
        rw [E]
        generalize keep.length = n at *
        go_wp2_with fail
        go_ret
        exact ⟨rfl, rfl⟩
    · have d2 : decide ((j : Int) < (keep.length : Int)) = false := by simp; omega
      have E : (keepN keep t b j : Int) = 0 := by
        unfold keepN
        rw [if_neg e, List.getD_eq_getElem?_getD, List.getElem?_eq_none (by omega)]; rfl
      clear h h3 y0
      rw [E]
      generalize keep.length = n at *
      go_wp2_with fail
      go_ret
      exact ⟨rfl, rfl⟩

end Go.Proofs.YtdpmpmaepjgndaaGreat
namespace Go.Proofs.YtdpmpmaepjgndaaGreat
open Go.RowKit Go.Deep
set_option linter.unusedVariables false
set_option linter.unusedSimpArgs false
set_option maxRecDepth 100000

structure Sh14C (PM : StM) (PF PC : FlM) : Prop where
  arm : ∀ {base D P a : Nat} {x : Stt} {S : Nat → Bool} {u : World} (n : Int), PM base D P x a S u → OkX x → base ≤ u.heap.size → 1 ≤ n → n ≤ 1000 → Calls Tryz.prog 18 #[.pointer (some ⟨D, 0, none⟩), .int .i64 n] u fun r u' => ∃ e S2, r = .returned (.int .i64 e) ∧ NewB S S2 u ∧ KpS S u u' ∧ PM base D P x n.toNat S2 u'
  down : ∀ {base D P a : Nat} {x : Stt} {S : Nat → Bool} {u : World}, PM base D P x a S u → Calls Tryz.prog 20 #[.pointer (some ⟨D, 0, none⟩)] u fun r u' => r = .returned (.bool false) ∧ u' = u
  fdown : ∀ {base D : Nat} {x : Stt} {n : List Slt} {S : Nat → Bool} {u : World}, PF base D x n S u → Calls Tryz.prog 20 #[.pointer (some ⟨D, 0, none⟩)] u fun r u' => r = .returned (.bool true) ∧ u' = u
  crash : ∀ {base D P a : Nat} {x : Stt} {S : Nat → Bool} {u : World} {keep : List Bool} {t b : Int} {v : Value}, PM base D P x a S u → OkX x → base ≤ u.heap.size → CrA base keep t b v u → Calls Tryz.prog 56 #[.pointer (some ⟨D, 0, none⟩), .agg #[v, .int .i64 t, .int .i64 b]] u fun r u' => ∃ e S2, r = .returned (.int .i64 e) ∧ NewB S S2 u ∧ KpS S u u' ∧ PC base D x x.old S2 u'
  fcrash : ∀ {base D : Nat} {x : Stt} {n : List Slt} {S : Nat → Bool} {u : World} {keep : List Bool} {t b : Int} {v : Value}, PF base D x n S u → OkX x → base ≤ u.heap.size → CrA base keep t b v u → Calls Tryz.prog 56 #[.pointer (some ⟨D, 0, none⟩), .agg #[v, .int .i64 t, .int .i64 b]] u fun r u' => ∃ e S2, r = .returned (.int .i64 e) ∧ NewB S S2 u ∧ KpS S u u' ∧ PC base D x n S2 u'
  copen : ∀ {base D : Nat} {x : Stt} {n : List Slt} {S : Nat → Bool} {u : World}, PC base D x n S u → OkX x → n.length ≤ 512 → base ≤ u.heap.size → Calls Tryz.prog 25 #[.pointer (some ⟨D, 0, none⟩)] u fun r u' => ∃ P S2 x2, r = .returned (.tuple #[.pointer (some ⟨P, 0, none⟩), .int .i64 0]) ∧ (x2 = { x with now := x.old, cl := x.cl + 64 } ∨ x2 = { x with now := n, old := n, ep := x.ep + 1, cl := x.cl + 64 }) ∧ NewB S S2 u ∧ KpS S u u' ∧ PM base D P x2 0 S2 u'
section
variable {PM : StM} {PF PC : FlM} {base D P Q R a : Nat} {x y : Stt} {S T : Nat → Bool} {u w w2 : World}
theorem kps_cut {B : Nat} (k : KpS T w w2) (hB : B ≤ w.heap.size) (h : ∀ j, j < B → T j = true → S j = true) : Below B (HdS S w) (HdS S w2) := by
  have k0 : Below w.heap.size (HdS T w) (HdS T w2) := k
  refine ⟨k0.os, k0.tape, k0.output, by rw [HdS.size, HdS.size]; exact k.size, fun i hi => ?_⟩
  cases c : S i with
  | true => exact HdS.hid c (by omega) (by have := k.size; omega)
  | false =>
    rw [HdS.other _ c, HdS.other _ c]
    refine k.blk (by omega) ?_
    cases d : T i with
    | false => rfl
    | true => rw [h i hi d] at c; cases c
theorem kps_then (hb : Below u.heap.size u w) (k : KpS T w w2) (h : ∀ j, j < u.heap.size → T j = true → S j = true) : KpS S u w2 :=
  Below.trans (HdS.below hb) (kps_cut k hb.size h)
theorem do_many (x : Stt) (kind l : Int) (s : ByteArray) : (doX x kind l s).many = x.many := by
  unfold doX newX dropSX comSX aboSX putWX
  repeat (split <;> try rfl)
theorem RSh.copied (h : RSh base Q x w) (k : RSh base R y w) (hm : y.many = x.many) (hne : ∀ j, Rs R w j → j ≠ Q) {v1 v2 : Value} (e : w.heap[R]? = some (.cells #[.int .i64 y.many, v1, v2, .int .i64 y.ep, .bool false] 58 (0, 0))) :
    RSh base Q y (((w.setCell ⟨Q, 1, none⟩ v1).setCell ⟨Q, 2, none⟩ v2).setCell ⟨Q, 3, none⟩ (.int .i64 y.ep)) ∧ ∀ j, Rs Q (((w.setCell ⟨Q, 1, none⟩ v1).setCell ⟨Q, 2, none⟩ v2).setCell ⟨Q, 3, none⟩ (.int .i64 y.ep)) j → j = Q ∨ Rs R w j := by
  obtain ⟨q1, q2, e2, g1, g2, m1, m2⟩ := k.box
  have e9 : v1 = q1 ∧ v2 = q2 := by
    rw [e] at e2
    simp only [Option.some.injEq, Obj.cells.injEq, and_true, true_and] at e2
    simpa using e2
  obtain ⟨rfl, rfl⟩ := e9
  obtain ⟨p1, p2, e0, h1, h2, n1, n2⟩ := h.box
  have hset : KpS (Q1 Q) w (((w.setCell ⟨Q, 1, none⟩ v1).setCell ⟨Q, 2, none⟩ v2).setCell ⟨Q, 3, none⟩ (.int .i64 y.ep)) := ((KpS.set (Q1.a Q) 1 v1 w).trans (KpS.set (Q1.a Q) 2 v2 _)).trans (KpS.set (Q1.a Q) 3 (.int .i64 y.ep) _)
  have e3 := Joins.block_setCell (i := 3) (Joins.block_setCell (i := 2) (Joins.block_setCell (i := 1) e0 v1) v2) (.int .i64 y.ep)
  have nv1 : v1.ownBlock ≠ some Q := fun h9 => hne Q (.inr ⟨_, _, _, _, _, e, .inl h9⟩) rfl
  have nv2 : v2.ownBlock ≠ some Q := fun h9 => hne Q (.inr ⟨_, _, _, _, _, e, .inr h9⟩) rfl
  rw [← hm] at e3
  refine ⟨⟨⟨v1, v2, e3, g1.kept (Q1 Q) (fun b hb => Q1.no fun h9 => nv1 (by rw [hb, h9])) hset, g2.kept (Q1 Q) (fun b hb => Q1.no fun h9 => nv2 (by rw [hb, h9])) hset, nv1, nv2⟩, h.lo⟩, fun j hj => ?_⟩
  rcases rs_of e3 hj with rfl | hv | hv
  · exact .inl rfl
  · exact .inr (.inr ⟨_, _, _, _, _, e, .inl hv⟩)
  · exact .inr (.inr ⟨_, _, _, _, _, e, .inr hv⟩)
/-- what 'part' leaves -/
def Part14 (PM : StM) (PF : FlM) (base D P Q : Nat) (x x2 : Stt) (nxt : List Slt) (S : Nat → Bool) (b : Bool) (u u2 : World) : Prop :=
  Below base u u2 ∧ KpS (fun k => S k || Q1 Q k) u u2 ∧ ∃ S2, NewB S S2 u ∧ ((b = true ∧ ∃ a2, Bs14 PM base D P Q x2 a2 S2 u2) ∨ (b = false ∧ PF base D x nxt S2 u2 ∧ RSh base Q x u2 ∧ ∀ k, Rs Q u2 k → S2 k = false))
set_option maxHeartbeats 6400000 in
theorem part14_any (I : Sh14 PM PF PC) (C : Sh14C PM PF PC) (h : Bs14 PM base D P Q x a S u) {k0 : Int} (hL : Lim x k0) (hk0 : k0 ≤ 10000) (kind l : Int) (s : ByteArray) (hk : kind ≠ 9) (hs : s.size ≤ 1000000) : Calls Tryz.prog 21 #[.pointer (some ⟨D, 0, none⟩), .pointer (some ⟨P, 0, none⟩), .pointer (some ⟨Q, 0, none⟩), .agg #[.int .i64 kind, .int .i64 l, .string s]] u fun r u' => ∃ b, r = .returned (.bool b) ∧ Part14 PM PF base D P Q x (doX x kind l s) (nxX x kind) S b u u' := by
  have HI := Lib.hid I
  have HC := Lib.hid C
  have H0 := Lib.hid h
  have HE := Lib.hid hL
  have HS := Lib.hid hs
  have HK := Lib.hid hk
  have X1 := Lib.hid (heap_alloc_new u (.cells #[.int .i64 kind, .int .i64 l, .string s] 31))
  have B1 := Lib.hid (balloc u (.cells #[.int .i64 kind, .int .i64 l, .string s] 31))
  have H1 := Lib.hid (h.below I B1.out)
  clear h I C hs hL hk
  go_enter Tryz.func21, Tryz.ntmps21
  go_upto_region 1 with fail
  obtain ⟨A, hA⟩ : ∃ A, A = u.heap.size := ⟨_, rfl⟩
  rw [← hA] at X1 ⊢
  have HA := Lib.hid hA
  clear hA
  generalize u.alloc (.cells #[.int .i64 kind, .int .i64 l, .string s] 31) = w1 at *
  obtain ⟨a1, c1, a2, c2, x0, x1, x2, x3, h1, h2, _, _, _, hx, n1, n2⟩ := H1.out.r.cells
  have B2 := Lib.hid (bdrew w1)
  have X2 := Lib.hid (show (World.drew w1).heap[A]? = _ from X1.out)
  have H2 := Lib.hid (H1.out.below HI.out B2.out)
  have V1 := Lib.hid (h1.below B2.out)
  have V2 := Lib.hid (h2.below B2.out)
  have XQ := Lib.hid (show (World.drew w1).heap[Q]? = _ from hx)
  have N1 := Lib.hid n1
  have N2 := Lib.hid n2
  have BU := Lib.hid (B1.out.trans (B2.out.mono B1.out.size))
  clear h1 h2 hx n1 n2
  go_still_tail 16, (by kernel_rfl)
  change wpList _ _ _ _ _ (World.drew w1)
  clear x0 x1 x2 x3 H1 X1
  generalize World.drew w1 = w2 at *
  obtain ⟨R, hR⟩ : ∃ R, R = w2.heap.size := ⟨_, rfl⟩
  have A3 := Lib.hid (balloc w2 (.cells #[.int .i64 x.many, .slice a1 x.now.length c1, .slice a2 x.old.length c2, .int .i64 x.ep, .bool false] 58))
  have X3 := Lib.hid (heap_alloc_new w2 (.cells #[.int .i64 x.many, .slice a1 x.now.length c1, .slice a2 x.old.length c2, .int .i64 x.ep, .bool false] 58))
  have RQ : Hid (Q < w2.heap.size ∧ A < w2.heap.size) := Lib.hid ⟨lt_of_block XQ.out, lt_of_block X2.out⟩
  have HR := Lib.hid hR
  rw [← hR] at X3
  go_upto_region 2 with fail
  rw [← hR]
  clear hR
  generalize w2.alloc (.cells #[.int .i64 x.many, .slice a1 x.now.length c1, .slice a2 x.old.length c2, .int .i64 x.ep, .bool false] 58) = w3 at *
  have XA := Lib.hid ((A3.out.block A RQ.out.2).trans X2.out)
  have H3 := Lib.hid (H2.out.below HI.out A3.out)
  have BU3 := Lib.hid (BU.out.trans (A3.out.mono BU.out.size))
  have RS3 : Hid (∀ k, Rs R w3 k → (k = R ∨ Rs Q w2 k)) := Lib.hid (fun k hk => by
    rcases rs_of X3.out hk with rfl | hv | hv
    · exact .inl rfl
    · exact .inr (.inr ⟨_, _, _, _, _, XQ.out, .inl hv⟩)
    · exact .inr (.inr ⟨_, _, _, _, _, XQ.out, .inr hv⟩))
  have RS4 : Hid (∀ k, Rs R w3 k → k ≠ Q) := Lib.hid (fun k hk => by
    rcases rs_of X3.out hk with rfl | hv | hv
    · have := HR.out; have := RQ.out.1; omega
    · exact fun e => N1.out (by rw [hv, e])
    · exact fun e => N2.out (by rw [hv, e]))
  have BY : Hid (Bs14 PM base D P R x a S w3) := Lib.hid ⟨H3.out.p, ⟨⟨_, _, X3.out, V1.out.below A3.out, V2.out.below A3.out, fun e => by have := V1.out.lo R e; have := HR.out; omega, fun e => by have := V2.out.lo R e; have := HR.out; omega⟩, by have := H2.out.sz; have := HR.out; omega⟩, fun k hk => by
    rcases RS3.out k hk with rfl | hk
    · cases c : S k with
      | false => rfl
      | true => have := (HI.out.lo H2.out.p k c).2; have := HR.out; omega
    · exact H2.out.d k hk, H3.out.ok, H3.out.sz⟩
  have HD := Lib.hid (do14_any HI.out BY.out kind l s HS.out)
  have z0 : w3.cell? ⟨A, 0, none⟩ = some (.int .i64 kind) := by rw [Lib.cell_of_heap XA.out]; rfl
  have z1 : w3.cell? ⟨A, 1, none⟩ = some (.int .i64 l) := by rw [Lib.cell_of_heap XA.out]; rfl
  have z2 : w3.cell? ⟨A, 2, none⟩ = some (.string s) := by rw [Lib.cell_of_heap XA.out]; rfl
  go_wp2_with fail
  refine (HD.out).mono ?_
  rintro e w4 ⟨P4, b4, rfl, hp4, ⟨r1, r2⟩, b5, k4, S2, n2, d2, alt⟩
  obtain rfl := hp4 HK.out
  clear z0 z1 z2 hp4
  have NB : Hid (NewB S S2 u) := Lib.hid (fun k hk => by
    rcases n2 k hk with c | c
    · exact .inl c
    · exact .inr (Nat.le_trans BU3.out.size c))
  have BB := Lib.hid ((BU3.out.mono H0.out.sz).trans b5)
  have QN : Hid (∀ k, Rs Q w3 k → (fun k => S k || Q1 R k) k = false) := Lib.hid (fun k hk => by
    have h1 := H3.out.d k hk
    have h2 := (H2.out.r.rlt (rs_below H2.out.r A3.out hk)).2
    have h3 := HR.out
    simp only [h1, Bool.false_or]
    exact Q1.no (by omega))
  have KX := Lib.hid (H3.out.r.kept QN.out k4)
  have SUB : Hid (∀ j, j < u.heap.size → (fun k => S k || Q1 R k) j = true → S j = true) := Lib.hid (fun j hj hjt => by
    have h4 := BU.out.size
    have h5 := HR.out
    simp only [Q1.no (show j ≠ R by omega), Bool.or_false] at hjt
    exact hjt)
  have KU : Hid (KpS S u w4) := Lib.hid (kps_then BU3.out k4 SUB.out)
  have DQ : Hid (∀ k, Rs Q w4 k → S2 k = false) := Lib.hid (fun k hk => by
    have hk3 := KX.out.2 k hk
    have h1 := H3.out.d k hk3
    have h2 := (H3.out.r.rlt hk3).2
    cases c : S2 k with
    | false => rfl
    | true =>
      rcases n2 k c with e | e
      · rw [h1] at e; cases e
      · omega)
  rcases alt with ⟨hb, a2', ha, hp⟩ | ⟨ha, hp⟩
  · have PP := Lib.hid hp
    have R1 := Lib.hid r1
    have R2 : Hid (∀ j, Rs R w4 j → j ≠ Q) := Lib.hid (fun j hj => by
      rcases r2 j hj with c | c
      · exact RS4.out j c
      · have := RQ.out.1; have := A3.out.size; omega)
    have D2 := Lib.hid d2
    obtain ⟨f1, g1, f2, g2, y0, y1, y2, y3, _, _, _, _, _, hy, _, _⟩ := r1.cells
    have CP := Lib.hid (KX.out.1.copied r1 (do_many x kind l s) R2.out hy)
    obtain ⟨o1, _⟩ := okx_do H0.out.ok HE.out hk0 kind l s
    have OK2 := Lib.hid o1
    have HDN := Lib.hid (HC.out.down hp)
    obtain ⟨q1, e1, q2, e2, t0, t1, t2, t3, _, _, fz1, fz2, fz3, _, _, _⟩ := KX.out.1.cells
    have FIN : Hid (Part14 PM PF base D P4 Q x (doX x kind l s) (nxX x kind) S true u (((w4.setCell ⟨Q, 1, none⟩ (.slice f1 (doX x kind l s).now.length g1)).setCell ⟨Q, 2, none⟩ (.slice f2 (doX x kind l s).old.length g2)).setCell ⟨Q, 3, none⟩ (.int .i64 (doX x kind l s).ep))) := Lib.hid (by
      have hset : KpS (Q1 Q) w4 (((w4.setCell ⟨Q, 1, none⟩ (.slice f1 (doX x kind l s).now.length g1)).setCell ⟨Q, 2, none⟩ (.slice f2 (doX x kind l s).old.length g2)).setCell ⟨Q, 3, none⟩ (.int .i64 (doX x kind l s).ep)) := ((KpS.set (Q1.a Q) 1 _ w4).trans (KpS.set (Q1.a Q) 2 _ _)).trans (KpS.set (Q1.a Q) 3 _ _)
      have hs2q : S2 Q = false := DQ.out Q (.inl rfl)
      have hsz4 : base ≤ w4.heap.size := Nat.le_trans H0.out.sz KU.out.size
      refine ⟨BB.out.trans (hset.bot hsz4 fun k hk => Q1.no fun e => by subst e; have := H0.out.r.lo; omega), (kps_l KU.out).trans (kps_r hset), S2, NB.out, .inl ⟨rfl, a2', HI.out.kept hp (fun k hk => Q1.no fun e => by subst e; rw [hs2q] at hk; cases hk) hset, CP.out.1, fun k hk => ?_, OK2.out, Nat.le_trans hsz4 hset.size⟩⟩
      rcases CP.out.2 k hk with rfl | c
      · exact hs2q
      · exact D2.out k c)
    clear hp r1 r2 d2 n2 k4 hy b5 ha o1 hb
    generalize hY : (doX x kind l s) = y at *
    have HY := Lib.hid hY
    clear hY
    go_wp2_with fail
    refine (HDN.out).mono ?_
    rintro e w5 ⟨rfl, hw⟩
    rw [hw]
    clear hw w5
    have hrq : ¬ R = Q := by have := HR.out; have := RQ.out.1; omega
    have hqr : ¬ Q = R := fun e => hrq e.symm
    go_wp2_with fail
    go_ret
    exact ⟨_, rfl, by rw [HY.out]; exact FIN.out⟩
  · have HDN := Lib.hid (HC.out.fdown hp)
    have FIN : Hid (Part14 PM PF base D P4 Q x (doX x kind l s) (nxX x kind) S false u w4) := Lib.hid ⟨BB.out, kps_l KU.out, S2, NB.out, .inr ⟨rfl, hp, KX.out.1, DQ.out⟩⟩
    clear hp r1 r2 d2 n2 k4 b5 ha
    go_wp2_with fail
    refine (HDN.out).mono ?_
    rintro e w5 ⟨rfl, hw⟩
    rw [hw]
    clear hw w5
    go_wp2_with fail
    go_ret
    exact ⟨_, rfl, FIN.out⟩
end

end Go.Proofs.YtdpmpmaepjgndaaGreat
