/- What is asked of the program's store of logical pages, whatever it is made of. The contract of the document's Full. (Moved out of PgR1.) Takes out of a drawn region, said shortly: an operation that is not wanted, one that only reads. The contracts of the program's up, at, count, settle, Arm, and of what only looks. The contracts of the program's settle, Arm, Sync, Read, and of what only looks. -/
import Derived.Deep.DeepCutAuto
import Derived.WalkKit
import Derived.Deep.RegionHeld3
import Derived.Laws.BytesArg
import Derived.Test.YtdpmpmaepjgndaaGreatYZ1
import Derived.Test.YtdpmpmaepjgndaaGreatYZ2
import Derived.Test.YtdpmpmaepjgndaaGreatYZ3
namespace Go.Proofs.YtdpmpmaepjgndaaGreat
open Go.RowKit Go.Deep
set_option linter.unusedVariables false
set_option linter.unusedSimpArgs false
set_option maxRecDepth 100000

/-- base, the disk's block, the store's, what it holds, at which call the disk goes down (0: at none), its blocks -/
abbrev StM := Nat → Nat → Nat → Stt → Nat → (Nat → Bool) → World → Prop
/-- base, the disk's block, what was committed, what was being committed, its blocks -/
abbrev FlM := Nat → Nat → Stt → List Slt → (Nat → Bool) → World → Prop
def NewB (S S2 : Nat → Bool) (u : World) : Prop := ∀ k, S2 k = true → S k = true ∨ u.heap.size ≤ k
/-- limits -/
structure OkX (x : Stt) : Prop where
  now : x.now.length ≤ 512
  old : x.old.length ≤ 512
  many : 0 ≤ x.many ∧ x.many ≤ 1024
  ep : 1 ≤ x.ep ∧ x.ep ≤ 1000000
  cl : x.cl ≤ 900000
/-- how far it can have come -/
def Lim (x : Stt) (k : Int) : Prop := x.ep ≤ k ∧ (x.cl : Int) ≤ 64 * k
theorem Lim.up {x : Stt} {k k2 : Int} (h : Lim x k) (hk : k ≤ k2) : Lim x k2 := ⟨by have := h.1; omega, by have := h.2; omega⟩
/-- what a call leaves: it went (and said what it should), or the disk went down in it -/
def Out14 (PM : StM) (PF : FlM) (base D P : Nat) (x x2 : Stt) (nxt : List Slt) (a : Nat) (S : Nat → Bool) (ok : Prop) (u u2 : World) : Prop :=
  ∃ S2, NewB S S2 u ∧ KpS S u u2 ∧ ((ok ∧ ∃ a2, (a = 0 → a2 = 0) ∧ PM base D P x2 a2 S2 u2) ∨ (a ≠ 0 ∧ PF base D x nxt S2 u2))
structure Sh14 (PM : StM) (PF PC : FlM) : Prop where
  kept : ∀ {base D P a : Nat} {x : Stt} {S T : Nat → Bool} {u u2 : World}, PM base D P x a S u → (∀ k, S k = true → T k = false) → KpS T u u2 → PM base D P x a S u2
  lo : ∀ {base D P a : Nat} {x : Stt} {S : Nat → Bool} {u : World}, PM base D P x a S u → ∀ k, S k = true → base ≤ k ∧ k < u.heap.size
  fkept : ∀ {base D : Nat} {x : Stt} {n : List Slt} {S T : Nat → Bool} {u u2 : World}, PF base D x n S u → (∀ k, S k = true → T k = false) → KpS T u u2 → PF base D x n S u2
  flo : ∀ {base D : Nat} {x : Stt} {n : List Slt} {S : Nat → Bool} {u : World}, PF base D x n S u → ∀ k, S k = true → base ≤ k ∧ k < u.heap.size
  ckept : ∀ {base D : Nat} {x : Stt} {n : List Slt} {S T : Nat → Bool} {u u2 : World}, PC base D x n S u → (∀ k, S k = true → T k = false) → KpS T u u2 → PC base D x n S u2
  clo : ∀ {base D : Nat} {x : Stt} {n : List Slt} {S : Nat → Bool} {u : World}, PC base D x n S u → ∀ k, S k = true → base ≤ k ∧ k < u.heap.size
  format : ∀ {base D bS bm cS n : Nat} {u : World}, PDk base D bS bm cS (newD (2 + 4 * n)) u → 1 ≤ n → n ≤ 1000 → base ≤ u.heap.size → Calls Tryz.prog 30 #[.pointer (some ⟨D, 0, none⟩)] u fun r u' => ∃ P S2, r = .returned (.tuple #[.pointer (some ⟨P, 0, none⟩), .int .i64 0]) ∧ PM base D P ⟨(n : Int), [], [], 1, 64⟩ 0 S2 u' ∧ NewB (P3 D bS bm) S2 u ∧ KpS (P3 D bS bm) u u'
  new : ∀ {base D P a : Nat} {x : Stt} {S : Nat → Bool} {u : World} (s : ByteArray), PM base D P x a S u → OkX x → base ≤ u.heap.size → s.size ≤ 1000000 → Calls Tryz.prog 29 #[.pointer (some ⟨P, 0, none⟩), .string s] u fun r u' => ∃ i e, r = .returned (.tuple #[.int .i64 i, .int .i64 e]) ∧ Out14 PM PF base D P x (newX x s) x.old a S (i = newI x s ∧ e = newE x s) u u'
  write : ∀ {base D P a : Nat} {x : Stt} {S : Nat → Bool} {u : World} (l : Int) (s : ByteArray), PM base D P x a S u → OkX x → base ≤ u.heap.size → s.size ≤ 1000000 → Calls Tryz.prog 31 #[.pointer (some ⟨P, 0, none⟩), .int .i64 l, .string s] u fun r u' => ∃ e, r = .returned (.int .i64 e) ∧ Out14 PM PF base D P x (putWX x l s) x.old a S (e = putWE x l s) u u'
  drop : ∀ {base D P a : Nat} {x : Stt} {S : Nat → Bool} {u : World} (l : Int), PM base D P x a S u → OkX x → base ≤ u.heap.size → Calls Tryz.prog 32 #[.pointer (some ⟨P, 0, none⟩), .int .i64 l] u fun r u' => ∃ e, r = .returned (.int .i64 e) ∧ Out14 PM PF base D P x (dropSX x l) x.old a S (e = dropSE x l) u u'
  commit : ∀ {base D P a : Nat} {x : Stt} {S : Nat → Bool} {u : World}, PM base D P x a S u → OkX x → base ≤ u.heap.size → Calls Tryz.prog 33 #[.pointer (some ⟨P, 0, none⟩)] u fun r u' => ∃ e, r = .returned (.int .i64 e) ∧ Out14 PM PF base D P x (comSX x) (nextS x.now) a S (e = comSE x) u u'
  abort : ∀ {base D P a : Nat} {x : Stt} {S : Nat → Bool} {u : World}, PM base D P x a S u → OkX x → base ≤ u.heap.size → Calls Tryz.prog 34 #[.pointer (some ⟨P, 0, none⟩)] u fun r u' => r = .returned (.bool true) ∧ ∃ S2, NewB S S2 u ∧ KpS S u u' ∧ PM base D P (aboSX x) a S2 u'
  «open» : ∀ {base D P a : Nat} {x : Stt} {S : Nat → Bool} {u : World}, PM base D P x a S u → OkX x → base ≤ u.heap.size → Calls Tryz.prog 25 #[.pointer (some ⟨D, 0, none⟩)] u fun r u' => ∃ P2 S2, r = .returned (.tuple #[.pointer (some ⟨P2, 0, none⟩), .int .i64 0]) ∧ NewB S S2 u ∧ KpS S u u' ∧ PM base D P2 (aboSX x) a S2 u'
  read : ∀ {base D P a : Nat} {x : Stt} {S : Nat → Bool} {u : World} (i : Int), PM base D P x a S u → OkX x → base ≤ u.heap.size → Calls Tryz.prog 28 #[.pointer (some ⟨P, 0, none⟩), .int .i64 i] u fun r u' => r = .returned (.tuple #[.string (if inS x.now i then (slA x.now i.toNat).b else ByteArray.empty), .int .i64 (if inS x.now i then 0 else 3)]) ∧ Below u.heap.size u u'
  pages : ∀ {base D P a : Nat} {x : Stt} {S : Nat → Bool} {u : World}, PM base D P x a S u → OkX x → base ≤ u.heap.size → Calls Tryz.prog 27 #[.pointer (some ⟨P, 0, none⟩)] u fun r u' => ∃ v, r = .returned v ∧ NewL u.heap.size (pagesS x.now) v u' ∧ Below u.heap.size u u'
  epoch : ∀ {base D P a : Nat} {x : Stt} {S : Nat → Bool} {u : World}, PM base D P x a S u → OkX x → base ≤ u.heap.size → Calls Tryz.prog 17 #[.pointer (some ⟨P, 0, none⟩)] u fun r u' => r = .returned (.int .i64 x.ep) ∧ Below u.heap.size u u'
  count : ∀ {base D P a : Nat} {x : Stt} {S : Nat → Bool} {u : World}, PM base D P x a S u → OkX x → base ≤ u.heap.size → Calls Tryz.prog 13 #[.pointer (some ⟨P, 0, none⟩)] u fun r u' => r = .returned (.tuple #[.int .i64 (freeS x.many x.now x.old), .int .i64 (keptS x.old - (leavingS x.now x.old : Int)), .int .i64 (freshS x.now : Int), .int .i64 (leavingS x.now x.old : Int)]) ∧ Below u.heap.size u u'

section
variable {PM : StM} {PF PC : FlM} {base D P a : Nat} {x x2 : Stt} {S : Nat → Bool} {u u2 : World}
def noB : Nat → Bool := fun _ => false
theorem Sh14.below (I : Sh14 PM PF PC) (h : PM base D P x a S u) (k : Below u.heap.size u u2) : PM base D P x a S u2 := I.kept h (T := noB) (fun _ _ => rfl) (KpS.of k)
theorem Sh14.fbelow (I : Sh14 PM PF PC) {n : List Slt} (h : PF base D x n S u) (k : Below u.heap.size u u2) : PF base D x n S u2 := I.fkept h (T := noB) (fun _ _ => rfl) (KpS.of k)
theorem out_zero {nxt : List Slt} {ok : Prop} (h : Out14 PM PF base D P x x2 nxt 0 S ok u u2) : ok ∧ ∃ S2, NewB S S2 u ∧ KpS S u u2 ∧ PM base D P x2 0 S2 u2 := by
  obtain ⟨S2, n, k, h | h⟩ := h
  · obtain ⟨hok, a2, ha, hp⟩ := h
    rw [ha rfl] at hp
    exact ⟨hok, S2, n, k, hp⟩
  · exact absurd rfl h.1
theorem Sh14.bot (I : Sh14 PM PF PC) (h : PM base D P x a S u) (hz : base ≤ u.heap.size) (k : KpS S u u2) : Below base u u2 := k.bot hz fun q hq => by
  cases c : S q with
  | false => rfl
  | true => have := (I.lo h q c).1; omega
end

end Go.Proofs.YtdpmpmaepjgndaaGreat
namespace Go.Proofs.YtdpmpmaepjgndaaGreat
open Go.RowKit Go.Deep
set_option linter.unusedVariables false
set_option linter.unusedSimpArgs false
set_option maxRecDepth 100000

theorem full_nums (s : ByteArray) (j : Nat) (h1 : s.size ≤ j) (h2 : j ≤ 232 ∨ j = s.size) (h3 : 232 ≤ j) : strOfNums ((List.range j).map (byD s)) = fullP s := by
  unfold fullP
  by_cases c : s.size ≤ 232
  · rw [if_pos c]
    obtain rfl : j = 232 := by omega
    rfl
  · rw [if_neg c]
    obtain rfl : j = s.size := by omega
    exact padN_self s s.size rfl
set_option maxHeartbeats 800000 in
theorem rfull_any (s : ByteArray) (hs : s.size ≤ 1000000) (u : World) : Calls Tryz.prog 36 #[.string s] u fun r u' => r = .returned (.string (fullP s)) ∧ Below u.heap.size u u' := by
  obtain ⟨i0, hi, hz0, hz1, hz2⟩ := info_parts infoByte9
  have HSZ := Lib.hid hs
  obtain ⟨v0, w2, hcv, ho2, hb2⟩ := run_bytes_free (P := Tryz.prog) u 9 97 5 s Tryz.underlying9 Tryz.underlying97 Tryz.underlying5 (by unfold maxLen; omega)
  rw [bytV_str] at ho2
  have O2 := Lib.hid ho2
  have B2 := Lib.hid hb2
  clear ho2 hb2 hs
  go_enter Tryz.func36, Tryz.ntmps36
  go_wp2_with fail
  go_loopw [3] (fun v wr => ∃ j : Nat, s.size ≤ j ∧ (j ≤ 232 ∨ j = s.size) ∧ OwnsB wr u.heap.size 5 v j (bytV s j) ∧ Below u.heap.size u wr) (fun v _ => 232 - lenV v)
  case atStart => exact ⟨s.size, Nat.le_refl _, .inr rfl, O2.out, B2.out⟩
  case round =>
    clear hcv
    obtain ⟨j, hj, hj9, ho, hb⟩ := hrel
    obtain ⟨g, cap, hv0, hcl⟩ := ownsB_cells ho
    have HO := Lib.hid ho
    have HB := Lib.hid hb
    have hcap : j ≤ cap ∧ cap ≤ maxLen := by
      obtain ⟨_, g1, cap1, _, _, e9, _, _, _, q1, q2, _⟩ := ho
      rw [hv0] at e9
      simp only [Value.slice.injEq, Option.some.injEq, Addr.mk.injEq, and_true, true_and] at e9
      obtain ⟨rfl, rfl⟩ := e9
      exact ⟨q1, q2⟩
    obtain rfl := hv0
    clear ho hb
    unfold maxLen at hcap
    by_cases hlt : j < 232
    · have hj2 : (j : Int) < 232 := by omega
      have X1 := Lib.hid (heap_alloc_new wr (.cells #[.int .u8 0] 5))
      have B1 := Lib.hid (balloc wr (.cells #[.int .u8 0] 5))
      have O1 := Lib.hid (ownsB_below HO.out B1.out)
      have SZ := Lib.hid (Nat.le_trans HB.out.size B1.out.size)
      have SR : Hid (Src Tryz.prog 1 97 (.slice (some ⟨wr.heap.size, 0, none⟩) 1 1) 1 [.int .u8 0] (wr.alloc (.cells #[.int .u8 0] 5))) := Lib.hid (Src.ofSlice _ Tryz.underlying97 ⟨wr.heap.size, 0, none⟩ 1 1 [.int .u8 0] rfl (fun q x hq => by
        rcases q with _ | q
        · simp only [List.getElem?_cons_zero, Option.some.injEq] at hq
          subst hq
          rw [add_plain, Lib.cell_of_heap X1.out]; rfl
        · simp at hq) (by intro x hx; simp only [List.mem_cons, List.not_mem_nil, or_false] at hx; subst hx; rfl))
      go_wp2_with (at_builtin; refine wpList_append_src9 _ rfl _ _ 97 97 rfl u.heap.size 5 i0 Tryz.underlying97 hi hz0 hz1 hz2 _ _ _ rfl O1.out _ rfl 1 _ SR.out (by unfold maxLen; omega) (by omega) SZ.out ?_)
      intro v4 w4 ho4 hb4
      rw [bytV_succ s j hj] at ho4
      have O4 := Lib.hid ho4
      have B4 := Lib.hid ((HB.out.trans (B1.out.mono HB.out.size)).trans hb4)
      have e4 : lenV v4 = j + 1 := by
        obtain ⟨_, g4, cap4, _, _, rfl, _⟩ := ho4
        rfl
      clear ho4 hb4
      go_wp2_with fail
      go_roundw
      case rel => exact ⟨j + 1, by omega, by omega, O4.out, B4.out⟩
      case measure =>
        have e5 : lenV (.slice (some ⟨g, 0, none⟩) j cap) = j := rfl
        omega
    · have hcv2 := run_convert_bytes_arg (P := Tryz.prog) wr 97 5 Tryz.underlying97 Tryz.underlying5 g 0 j cap ((List.range j).map (byD s)) (by simp)
        (fun k hk => by
          rw [hcl k (by omega)]
          unfold bytV
          rw [List.getElem?_map, List.getElem?_range (by omega)]
          simp [hk]) 9 Tryz.underlying9
      rw [full_nums s j hj hj9 (by omega)] at hcv2
      have hj2 : ¬ (j : Int) < 232 := by omega
      clear hcl
      go_wp2_with fail
      go_ret
      exact ⟨rfl, HB.out⟩


end Go.Proofs.YtdpmpmaepjgndaaGreat
namespace Go.Proofs.YtdpmpmaepjgndaaGreat
open Go.RowKit
section
variable {P : Program} {ops : Array Oper} {Q : Exit → Act → World → Prop} {md : Region.Mode} {S : World → Prop}
theorem tk0 (i : Nat) {oi : Oper} {fuel : Nat} {listed : Array Bool} {a : Act} {w : World} (hi : ops[i]? = some oi)
    (h : wpAnyH P md ops Q S fuel (listed.setIfInBounds i true) (a.put oi.dst undef) w)
    (hs : Region.noSelect ops = true := by kernel_rfl) (hf : Region.free md ops listed i = true := by kernel_rfl) (hr : (Region.ready md ops listed).contains i = true := by kernel_rfl)
    (hQ : ∀ c a w, Q (.panic c) (a.put oi.dst undef) w → Q (.panic c) a w := by exact fun _ _ _ h => h)
    (hw : Region.wanted oi (yielded ops a.tmps) = false := by rfl) (hS : S w := by assumption) : wpAnyH P md ops Q S (fuel + 1) listed a w := wpAnyH_take hi hs hf hr hQ (.inr ⟨hw, rfl⟩) hS h
theorem tk1 (i : Nat) {oi : Oper} {v : Value} {fuel : Nat} {listed : Array Bool} {a : Act} {w : World} (hi : ops[i]? = some oi)
    (hy : ∀ w5, S w5 → (execOp a.eval oi).run P w5 = .ok (.value v) w5)
    (h : wpAnyH P md ops Q S fuel (listed.setIfInBounds i true) (a.put oi.dst v) w)
    (hs : Region.noSelect ops = true := by kernel_rfl) (hf : Region.free md ops listed i = true := by kernel_rfl) (hr : (Region.ready md ops listed).contains i = true := by kernel_rfl)
    (hQ : ∀ c a w, Q (.panic c) (a.put oi.dst v) w → Q (.panic c) a w := by exact fun _ _ _ h => h)
    (hw : Region.wanted oi (yielded ops a.tmps) = true := by rfl) (hS : S w := by assumption) : wpAnyH P md ops Q S (fuel + 1) listed a w := wpAnyH_take hi hs hf hr hQ (.inl ⟨hw, hy⟩) hS h
end
end Go.Proofs.YtdpmpmaepjgndaaGreat
namespace Go.Proofs.YtdpmpmaepjgndaaGreat
open Go.RowKit Go.Deep Go.Maps
set_option linter.unusedVariables false
set_option linter.unusedSimpArgs false
set_option maxRecDepth 100000

/-- a sector is written -/
def putD (d : Dk) (i : Nat) (s : ByteArray) : Dk := { d with nw := upd d.nw i (byD s), is := upd d.is i true }
structure BdD (d : Dk) : Prop where
  n : d.n ≤ 4096
  calls : d.calls < 1000000
  arm : d.arm ≤ 9223372036854775807
variable {base P bS bm cS : Nat} {d : Dk} {u : World}
theorem pup_any (h : PDk base P bS bm cS d u) : Calls Tryz.prog 55 #[.pointer (some ⟨P, 0, none⟩)] u fun r u' => r = .returned (.int .i64 (if d.down then 13 else 0)) ∧ u' = u := by
  obtain ⟨c0, c1, c2, c3, c4, cf⟩ := h.cells
  go_enter Tryz.func55, Tryz.ntmps55
  cases hd : d.down with
  | true =>
    rw [hd] at c4
    go_wp2_with fail
    go_ret
    exact ⟨rfl, rfl⟩
  | false =>
    rw [hd] at c4
    go_wp2_with fail
    go_ret
    exact ⟨rfl, rfl⟩
theorem pat_any (h : PDk base P bS bm cS d u) (i : Int) : Calls Tryz.prog 57 #[.pointer (some ⟨P, 0, none⟩), .int .i64 i] u fun r u' => r = .returned (.int .i64 (readE d i)) ∧ u' = u := by
  obtain ⟨c0, c1, c2, c3, c4, cf⟩ := h.cells
  have H := Lib.hid (pup_any h)
  unfold readE
  go_enter Tryz.func57, Tryz.ntmps57
  cases hd : d.down with
  | true =>
    rw [hd] at H
    go_wp2_with fail
    refine (H.out).mono ?_
    rintro e w1 ⟨rfl, rfl⟩
    go_wp2_with fail
    go_ret
    exact ⟨rfl, rfl⟩
  | false =>
    rw [hd] at H
    go_wp2_with fail
    refine (H.out).mono ?_
    rintro e w1 ⟨rfl, rfl⟩
    by_cases h1 : i < 0
    · have d1 : decide (i < 0) = true := by simp [h1]
      go_wp2_with fail
      go_ret
      refine ⟨?_, rfl⟩
      show Ending.returned (Value.int .i64 3) = _
      simp [h1]
    · have d1 : decide (i < 0) = false := by simp; omega
      by_cases h2 : (d.n : Int) ≤ i
      · have d2 : decide ((d.n : Int) ≤ i) = true := by simp [h2]
        go_wp2_with fail
        go_ret
        refine ⟨?_, rfl⟩
        show Ending.returned (Value.int .i64 3) = _
        simp [h2]
      · have d2 : decide ((d.n : Int) ≤ i) = false := by simp; omega
        go_wp2_with fail
        go_ret
        refine ⟨?_, rfl⟩
        show Ending.returned (Value.int .i64 0) = _
        simp [h1, h2]
theorem PDk.rebox (h : PDk base P bS bm cS d u) {d2 : Dk} {u2 : World} (hP : ∀ q, q ≠ P → u2.heap[q]? = u.heap[q]?) (hb : u2.heap[P]? = some (.cells (pbx bS cS bm d2) 90 (0, 0)))
    (hn : d2.n = d.n) (hi : d2.is = d.is) (hs : d2.sf = d.sf) (hw : d2.nw = d.nw) : PDk base P bS bm cS d2 u2 := by
  obtain ⟨n1, n2, n3⟩ := h.ne
  have e : nowD d2 = nowD d := by unfold nowD; rw [hi, hs, hw]
  refine ⟨hb, ?_, ?_, h.lo⟩
  · rw [hn, e]; exact h.row.kept (hP _ n1.symm)
  · rw [hn, hi, hs]; exact h.mp.kept (hP _ n2.symm)
theorem set_else {w : World} {P o q : Nat} (v : Value) (h : q ≠ P) : (w.setCell ⟨P, o, none⟩ v).heap[q]? = w.heap[q]? := Below.heap_setCell _ _ _ _ h
set_option maxHeartbeats 1600000 in
theorem pcount_any (h : PDk base P bS bm cS d u) (hb : BdD d) (hdn : d.down = false) : Calls Tryz.prog 59 #[.pointer (some ⟨P, 0, none⟩)] u fun r u' => r = .returned (.int .i64 (countE d)) ∧ PDk base P bS bm cS (countD d) u' ∧ KpS (P3 P bS bm) u u' := by
  obtain ⟨n, sf, nw, is, arm, calls, down⟩ := d
  have hc : calls < 1000000 := hb.calls
  have ha : arm ≤ 9223372036854775807 := hb.arm
  obtain rfl : down = false := hdn
  have R := Lib.hid h
  have HB := Lib.hid h.box
  obtain ⟨c0, c1, c2, c3, c4, cf⟩ := h.cells
  have hf2 := cf 2
  have hf3 := cf 3
  have hf4 := cf 4
  clear h cf hb c0 c1
  dsimp only at c2 c3 c4
  go_enter Tryz.func59, Tryz.ntmps59
  rcases arm with _ | _ | arm
  · have B1 := Lib.hid (show (u.setCell ⟨P, 2, none⟩ (.int .i64 ((calls : Int) + 1))).heap[P]? = some (.cells (pbx bS cS bm ⟨n, sf, nw, is, 0, calls + 1, false⟩) 90 (0, 0)) from Joins.block_setCell (i := 2) HB.out _)
    have R1 := Lib.hid (R.out.rebox (fun q hq => set_else _ hq) B1.out rfl rfl rfl rfl)
    have K1 := Lib.hid (KpS.set (P3.a P bS bm) 2 (.int .i64 ((calls : Int) + 1)) u)
    have H := Lib.hid (pup_any R1.out)
    go_wp2_with fail
    refine (H.out).mono ?_
    rintro e w1 ⟨rfl, rfl⟩
    go_wp2_with fail
    go_ret
    exact ⟨rfl, R1.out, K1.out⟩
  · have B1 := Lib.hid (show (((u.setCell ⟨P, 2, none⟩ (.int .i64 ((calls : Int) + 1))).setCell ⟨P, 3, none⟩ (.int .i64 0)).setCell ⟨P, 4, none⟩ (.bool true)).heap[P]? = some (.cells (pbx bS cS bm ⟨n, sf, nw, is, 0, calls + 1, true⟩) 90 (0, 0)) from Joins.block_setCell (i := 4) (Joins.block_setCell (i := 3) (Joins.block_setCell (i := 2) HB.out _) _) _)
    have R1 := Lib.hid (R.out.rebox (fun q hq => ((set_else _ hq).trans (set_else _ hq)).trans (set_else _ hq)) B1.out rfl rfl rfl rfl)
    have K1 := Lib.hid (((KpS.set (P3.a P bS bm) 2 (.int .i64 ((calls : Int) + 1)) u).trans (KpS.set (P3.a P bS bm) 3 (.int .i64 0) _)).trans (KpS.set (P3.a P bS bm) 4 (.bool true) _))
    have H := Lib.hid (pup_any R1.out)
    go_wp2_with fail
    refine (H.out).mono ?_
    rintro e w1 ⟨rfl, rfl⟩
    go_wp2_with fail
    go_ret
    exact ⟨rfl, R1.out, K1.out⟩
  · have e1 : ((arm + 1 + 1 : Nat) : Int) - 1 = ((arm + 1 : Nat) : Int) := by omega
    have B1 := Lib.hid (show (((u.setCell ⟨P, 2, none⟩ (.int .i64 ((calls : Int) + 1))).setCell ⟨P, 3, none⟩ (.int .i64 ((arm + 1 : Nat) : Int))).setCell ⟨P, 4, none⟩ (.bool false)).heap[P]? = some (.cells (pbx bS cS bm ⟨n, sf, nw, is, arm + 1, calls + 1, false⟩) 90 (0, 0)) from Joins.block_setCell (i := 4) (Joins.block_setCell (i := 3) (Joins.block_setCell (i := 2) HB.out _) _) _)
    have R1 := Lib.hid (R.out.rebox (fun q hq => ((set_else _ hq).trans (set_else _ hq)).trans (set_else _ hq)) B1.out rfl rfl rfl rfl)
    have K1 := Lib.hid (((KpS.set (P3.a P bS bm) 2 (.int .i64 ((calls : Int) + 1)) u).trans (KpS.set (P3.a P bS bm) 3 (.int .i64 ((arm + 1 : Nat) : Int)) _)).trans (KpS.set (P3.a P bS bm) 4 (.bool false) _))
    have H := Lib.hid (pup_any R1.out)
    have d1 : decide ((0 : Int) < ((arm + 1 + 1 : Nat) : Int)) = true := by simp; omega
    have d2 : (((arm + 1 : Nat) : Int) == 0) = false := by simp; omega
    generalize hq1 : ((arm + 1 + 1 : Nat) : Int) = q1 at *
    generalize hq2 : ((arm + 1 : Nat) : Int) = q2 at *
    have hq3 : q1 ≤ 9223372036854775807 ∧ 0 < q1 := by omega
    go_wp2_with fail
    refine (H.out).mono ?_
    rintro e w1 ⟨rfl, rfl⟩
    go_wp2_with fail
    go_ret
    exact ⟨rfl, R1.out, K1.out⟩

end Go.Proofs.YtdpmpmaepjgndaaGreat
namespace Go.Proofs.YtdpmpmaepjgndaaGreat
open Go.RowKit Go.Deep Go.Maps
set_option linter.unusedVariables false
set_option linter.unusedSimpArgs false
set_option maxRecDepth 100000

variable {base P bS bm cS : Nat} {d : Dk} {u : World}
/-- a block is the one that it was, or new -/
def NewOr (b : Nat) (u : World) (b2 : Nat) : Prop := b2 = b ∨ u.heap.size ≤ b2
theorem psettleB_any (h : PDk base P bS bm cS d u) : Calls Tryz.prog 99 #[.pointer (some ⟨P, 0, none⟩)] u fun r u' => r = .returned (.tuple #[]) ∧ (∃ bm2, NewOr bm u bm2 ∧ bm2 < u'.heap.size ∧ PDk base P bS bm2 cS (safeD d) u') ∧ KpS (P3 P bS bm) u u' := by
  have hmm := @run_makeMap Tryz.prog
  obtain ⟨n1, n2, n3⟩ := h.ne
  obtain ⟨l1, l2, l3⟩ := h.lt
  obtain ⟨o1, o2, o3⟩ := h.lo
  obtain ⟨c0, c1, c2, c3, c4, cf⟩ := h.cells
  have hf1 := cf 1
  have B1 := balloc (u.setCell ⟨P, 1, none⟩ (.map (some u.heap.size))) (.map #[] 0)
  have e9 : (u.setCell ⟨P, 1, none⟩ (.map (some u.heap.size))).heap.size = u.heap.size := World.size_setCell _ _ _
  have X1 := heap_alloc_new (u.setCell ⟨P, 1, none⟩ (.map (some u.heap.size))) (.map #[] 0)
  rw [e9] at X1 B1
  have S1 : Hid (PDk base P bS u.heap.size cS (safeD d) ((u.setCell ⟨P, 1, none⟩ (.map (some u.heap.size))).alloc (.map #[] 0))) := by
    refine ⟨?_, ?_, MpD.none X1 fun _ => rfl, o1, o2, by omega⟩
    · rw [B1.block _ l1]; exact Joins.block_setCell (i := 1) h.box _
    · exact h.row.kept ((B1.block _ l2).trans (set_else _ n1.symm))
  have SZ := Lib.hid (show u.heap.size < ((u.setCell ⟨P, 1, none⟩ (.map (some u.heap.size))).alloc (.map #[] 0)).heap.size by rw [World.size_alloc, e9]; omega)
  have K1 := Lib.hid ((KpS.set (P3.a P bS bm) 1 (.map (some u.heap.size)) u).on (balloc (u.setCell ⟨P, 1, none⟩ (.map (some u.heap.size))) (.map #[] 0)))
  clear h B1 X1 cf c0 c2 c3 c4 e9
  go_enter Tryz.func99, Tryz.ntmps99
  go_wp2_with fail
  exact bodyPost_end (v := .tuple #[]) (by simp [results, Tryz.results99, go_sem]) rfl ⟨rfl, ⟨_, .inr (Nat.le_refl _), SZ.out, S1.out⟩, K1.out⟩
theorem parm_any (h : PDk base P bS bm cS d u) (i : Int) : Calls Tryz.prog 18 #[.pointer (some ⟨P, 0, none⟩), .int .i64 i] u fun r u' => r = .returned (.int .i64 (armE d i)) ∧ PDk base P bS bm cS (armD d i) u' ∧ KpS (P3 P bS bm) u u' := by
  have R := Lib.hid h
  obtain ⟨c0, c1, c2, c3, c4, cf⟩ := h.cells
  have hf3 := cf 3
  have H := Lib.hid (pup_any h)
  unfold armE armD
  go_enter Tryz.func18, Tryz.ntmps18
  cases hd : d.down with
  | true =>
    rw [hd] at H
    clear h
    go_wp2_with fail
    refine (H.out).mono ?_
    rintro e w1 ⟨rfl, rfl⟩
    go_wp2_with fail
    go_ret
    exact ⟨rfl, R.out, KpS.refl _ _⟩
  | false =>
    rw [hd] at H
    clear h
    go_wp2_with fail
    refine (H.out).mono ?_
    rintro e w1 ⟨rfl, rfl⟩
    by_cases h1 : i < 1
    · have d1 : decide (i < 1) = true := by simp [h1]
      go_wp2_with fail
      go_ret
      refine ⟨?_, ?_, KpS.refl _ _⟩
      · show Ending.returned (Value.int .i64 2) = _
        simp [h1]
      · first
          | exact R.out
          | (rw [if_neg (by decide), if_pos h1]; exact R.out)
    · have d1 : decide (i < 1) = false := by simp; omega
      have B1 := Lib.hid (show (w1.setCell ⟨P, 3, none⟩ (.int .i64 i)).heap[P]? = some (.cells (pbx bS cS bm { d with arm := i.toNat }) 90 (0, 0)) from by
        have := Joins.block_setCell (i := 3) R.out.box (.int .i64 i)
        rw [this]
        unfold pbx
        simp only [show ((i.toNat : Nat) : Int) = i by omega]
        rfl)
      have R1 := Lib.hid (R.out.rebox (fun q hq => set_else _ hq) B1.out rfl rfl rfl rfl)
      go_wp2_with fail
      go_ret
      refine ⟨?_, ?_, KpS.set (P3.a P bS bm) 3 (.int .i64 i) _⟩
      · show Ending.returned (Value.int .i64 0) = _
        simp [h1]
      · first
          | exact R1.out
          | (have := R1.out; rw [hd] at this; exact this)
          | (rw [if_neg (by decide), if_neg h1]; exact R1.out)
theorem psyncB_any (h : PDk base P bS bm cS d u) (hb : BdD d) : Calls Tryz.prog 74 #[.pointer (some ⟨P, 0, none⟩)] u fun r u' => r = .returned (.int .i64 (syncE d)) ∧ (∃ bm2, NewOr bm u bm2 ∧ bm2 < u'.heap.size ∧ PDk base P bS bm2 cS (syncD d) u') ∧ KpS (P3 P bS bm) u u' := by
  have R := Lib.hid h
  have H := Lib.hid (pup_any h)
  unfold syncE syncD
  go_enter Tryz.func74, Tryz.ntmps74
  cases hd : d.down with
  | true =>
    rw [hd] at H
    clear h hb
    go_wp2_with fail
    refine (H.out).mono ?_
    rintro e w1 ⟨rfl, rfl⟩
    go_wp2_with fail
    go_ret
    exact ⟨rfl, ⟨_, .inl rfl, R.out.lt.2.2, R.out⟩, KpS.refl _ _⟩
  | false =>
    rw [hd] at H
    have H2 := Lib.hid (pcount_any h hb hd)
    clear h hb
    go_wp2_with fail
    refine (H.out).mono ?_
    rintro e w1 ⟨rfl, rfl⟩
    go_wp2_with fail
    refine (H2.out).mono ?_
    rintro e w2 ⟨rfl, r2, k2⟩
    have R2 := Lib.hid r2
    have K2 := Lib.hid k2
    clear r2 k2
    by_cases h1 : d.arm = 1
    · have e1 : countE d = 13 := by simp [countE, h1]
      rw [e1]
      go_wp2_with fail
      go_ret
      refine ⟨rfl, ?_, K2.out⟩
      first
        | exact ⟨_, .inl rfl, R2.out.lt.2.2, R2.out⟩
        | (rw [if_neg (by decide), if_pos h1]; exact ⟨_, .inl rfl, R2.out.lt.2.2, R2.out⟩)
    · have e1 : countE d = 0 := by simp [countE, h1]
      have H3 := Lib.hid (psettleB_any R2.out)
      rw [e1]
      go_wp2_with fail
      refine (H3.out).mono ?_
      rintro e w3 ⟨rfl, r3, k3⟩
      have R3 := Lib.hid (show ∃ bm2, NewOr bm w1 bm2 ∧ bm2 < w3.heap.size ∧ _ from r3.elim fun b h => ⟨b, Or.imp id (fun h => Nat.le_trans K2.out.size h) h.1, h.2⟩)
      have K3 := Lib.hid (K2.out.trans k3)
      clear r3 k3
      go_wp2_with fail
      go_ret
      refine ⟨rfl, ?_, K3.out⟩
      first
        | exact R3.out
        | (rw [if_neg (by decide), if_neg h1]; exact R3.out)
theorem pread_any (h : PDk base P bS bm cS d u) (hn : d.n ≤ 4096) (i : Int) : Calls Tryz.prog 54 #[.pointer (some ⟨P, 0, none⟩), .int .i64 i] u fun r u' => r = .returned (.tuple #[.string (readS d i), .int .i64 (readE d i)]) ∧ u' = u := by
  have R := Lib.hid h
  obtain ⟨c0, c1, c2, c3, c4, cf⟩ := h.cells
  have H := Lib.hid (pat_any h i)
  unfold readE at H
  unfold readE readS
  go_enter Tryz.func54, Tryz.ntmps54
  cases hd : d.down with
  | true =>
    rw [hd] at H
    clear h
    go_wp2_with fail
    refine (H.out).mono ?_
    rintro e w1 ⟨rfl, rfl⟩
    go_wp2_with fail
    go_ret2
    exact ⟨rfl, rfl⟩
  | false =>
    rw [hd] at H
    by_cases h1 : i < 0 ∨ (d.n : Int) ≤ i
    · rw [if_neg (by decide), if_pos h1] at H
      clear h
      go_wp2_with fail
      refine (H.out).mono ?_
      rintro e w1 ⟨rfl, rfl⟩
      go_wp2_with fail
      go_ret2
      refine ⟨?_, rfl⟩
      first
        | rfl
        | (simp only [if_pos h1]; rfl)
    · rw [if_neg (by decide), if_neg h1] at H
      obtain ⟨k, rfl⟩ : ∃ k : Nat, i = (k : Int) := ⟨i.toNat, by omega⟩
      have hk : k < d.n := by omega
      have hlt : (k : Int) < (d.n : Int) := by omega
      have hcv := run_convert_bytes_arg (P := Tryz.prog) u 97 5 Tryz.underlying97 Tryz.underlying5 bS (k * 64) 64 64 ((List.range 64).map (nowD d k)) (by simp)
        (fun j hj => by rw [h.row.c k hk j hj]; simp [gB, hj]) 9 Tryz.underlying9
      change _ = Result.ok (Value.string (sec (nowD d k))) u at hcv
      clear h
      go_wp2_with fail
      refine (H.out).mono ?_
      rintro e w1 ⟨rfl, rfl⟩
      go_wp2_with fail
      go_ret2
      refine ⟨?_, rfl⟩
      simp only [if_neg h1, Int.toNat_natCast]
      rfl
theorem pdown_any (h : PDk base P bS bm cS d u) : Calls Tryz.prog 20 #[.pointer (some ⟨P, 0, none⟩)] u fun r u' => r = .returned (.bool d.down) ∧ u' = u := by
  obtain ⟨c0, c1, c2, c3, c4, cf⟩ := h.cells
  go_enter Tryz.func20, Tryz.ntmps20
  go_wp2_with fail
  go_ret
  exact ⟨rfl, rfl⟩
theorem psectors_any (h : PDk base P bS bm cS d u) : Calls Tryz.prog 26 #[.pointer (some ⟨P, 0, none⟩)] u fun r u' => r = .returned (.int .i64 (d.n : Int)) ∧ u' = u := by
  obtain ⟨c0, c1, c2, c3, c4, cf⟩ := h.cells
  go_enter Tryz.func26, Tryz.ntmps26
  go_wp2_with fail
  go_ret
  exact ⟨rfl, rfl⟩
end Go.Proofs.YtdpmpmaepjgndaaGreat
