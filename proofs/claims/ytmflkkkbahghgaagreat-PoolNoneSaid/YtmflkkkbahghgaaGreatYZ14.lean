/- The contract of the program's Read. The program's store in memory: its disk, its map, its rows, apart from each other. What the laws ask of the program's store, its fallen and its crashed disk: the predicates, and what keeps them. -/
import Derived.Test.YtmflkkkbahghgaaGreatYZ13
import Derived.Test.YtmflkkkbahghgaaGreatYZ11
import Derived.Test.YtmflkkkbahghgaaGreatYZ5
import Derived.Test.YtmflkkkbahghgaaGreatYZ7
import Derived.Test.YtmflkkkbahghgaaGreatYZ9
import Derived.Test.YtmflkkkbahghgaaGreatYZ10
namespace Go.Proofs.YtmflkkkbahghgaaGreat
open Go.RowKit Go.Deep
set_option linter.unusedVariables false
set_option linter.unusedSimpArgs false
set_option maxRecDepth 100000

variable {base P bS bm cS : Nat} {d : Dk} {u : World}
set_option maxHeartbeats 3200000 in
theorem ppread_any (h : PDk base P bS bm cS d u) (hn : d.n ≤ 4096) (id : Int) : Calls Tryz.prog 170 #[.pointer (some ⟨P, 0, none⟩), .int .i64 id] u fun r u' => r = readRet d id ∧ Below u.heap.size u u' := by
  have X1 := Lib.hid (heap_alloc_new u (.cells #[.int .i64 0, .int .i64 0, .int .i64 0, .string ⟨#[]⟩] 181))
  have B1 := Lib.hid (balloc u (.cells #[.int .i64 0, .int .i64 0, .int .i64 0, .string ⟨#[]⟩] 181))
  have D1 := Lib.hid (h.below B1.out)
  obtain ⟨C, hC⟩ : ∃ C, C = u.heap.size := ⟨_, rfl⟩
  have HC : Hid (u.heap.size ≤ C) := Lib.hid (by omega)
  rw [← hC] at X1
  clear h
  have HH := Lib.hid (phas_any D1.out hn id)
  have EP : Hid (readPE d id = if id < 0 ∨ manyP d.n ≤ id then 3 else if d.down then 13 else if getE (pageS d id.toNat) = 0 then (if (getP (pageS d id.toNat)).id = id then 0 else 14) else getE (pageS d id.toNat)) := Lib.hid rfl
  cases hb : hasB d id with
  | false =>
    rw [hb] at HH
    have hq := hasB_false hb
    rw [if_pos hq] at EP
    have E := Lib.hid (readRet_bad EP.out (by decide))
    clear hb hq EP
    go_enter Tryz.func170, Tryz.ntmps170
    go_upto_region 1 with fail
    rw [← hC]
    generalize u.alloc (.cells #[.int .i64 0, .int .i64 0, .int .i64 0, .string ⟨#[]⟩] 181) = w1 at *
    clear hC
    go_wp2_with fail
    refine (HH.out).mono ?_
    rintro e w2 ⟨rfl, rfl⟩
    obtain ⟨x0, x1, x2, x3⟩ := four_cells X1.out
    have xf : ∀ q, w2.frozen? ⟨C, q, none⟩ = false := fun q => Lib.frozen_of_heap X1.out q
    go_wp2_with fail
    change bodyPost _ _ _ _ _ (World.setCells w2 C 0 [.int .i64 0, .int .i64 0, .int .i64 0, .string ⟨#[]⟩])
    obtain ⟨t0, t1, t2, t3⟩ := four_cells (put_four X1.out (.int .i64 0) (.int .i64 0) (.int .i64 0) (.string ⟨#[]⟩))
    have LZ := Lib.hid (B1.out.trans (put_below HC.out [.int .i64 0, .int .i64 0, .int .i64 0, .string ⟨#[]⟩] 0 w2))
    generalize World.setCells w2 C 0 [.int .i64 0, .int .i64 0, .int .i64 0, .string ⟨#[]⟩] = w9 at *
    exact bodyPost_ret (v := .tuple #[.agg #[.int .i64 0, .int .i64 0, .int .i64 0, .string ⟨#[]⟩], .int .i64 3]) (by simp [results, Tryz.results170, go_sem, t0, t1, t2, t3]) rfl ⟨by rw [E.out], LZ.out⟩
  | true =>
    rw [hb] at HH
    have hq := hasB_true hb
    rw [if_neg (by omega)] at EP
    obtain ⟨k, rfl⟩ : ∃ k : Nat, id = (k : Int) := ⟨id.toNat, by omega⟩
    have HF := Lib.hid (pfetch_any D1.out hn k hq.2)
    rw [Int.toNat_natCast] at EP
    unfold fetchRet at HF
    clear hb hq
    cases hd : d.down with
    | true =>
      rw [hd] at HF EP
      rw [if_pos rfl] at EP
      simp only [if_true] at HF
      have E := Lib.hid (readRet_bad EP.out (by decide))
      clear hd EP
      go_enter Tryz.func170, Tryz.ntmps170
      go_upto_region 1 with fail
      rw [← hC]
      generalize u.alloc (.cells #[.int .i64 0, .int .i64 0, .int .i64 0, .string ⟨#[]⟩] 181) = w1 at *
      clear hC
      go_wp2_with fail
      refine (HH.out).mono ?_
      rintro e w2 ⟨rfl, rfl⟩
      go_wp2_with fail
      refine (HF.out).mono ?_
      rintro e w3 ⟨rfl, hb⟩
      have X3 := Lib.hid (heap_stays X1.out hb)
      have B3 := Lib.hid (bthen B1.out hb)
      clear hb
      obtain ⟨x0, x1, x2, x3⟩ := four_cells X3.out
      have xf : ∀ q, w3.frozen? ⟨C, q, none⟩ = false := fun q => Lib.frozen_of_heap X3.out q
      go_wp2_with fail
      change bodyPost _ _ _ _ _ (World.setCells w3 C 0 [.int .i64 0, .int .i64 0, .int .i64 0, .string ⟨#[]⟩])
      obtain ⟨t0, t1, t2, t3⟩ := four_cells (put_four X3.out (.int .i64 0) (.int .i64 0) (.int .i64 0) (.string ⟨#[]⟩))
      have LZ := Lib.hid (B3.out.trans (put_below HC.out [.int .i64 0, .int .i64 0, .int .i64 0, .string ⟨#[]⟩] 0 w3))
      generalize World.setCells w3 C 0 [.int .i64 0, .int .i64 0, .int .i64 0, .string ⟨#[]⟩] = w9 at *
      exact bodyPost_ret (v := .tuple #[.agg #[.int .i64 0, .int .i64 0, .int .i64 0, .string ⟨#[]⟩], .int .i64 13]) (by simp [results, Tryz.results170, go_sem, t0, t1, t2, t3]) rfl ⟨by rw [E.out], LZ.out⟩
    | false =>
      rw [hd] at HF EP
      rw [if_neg (by decide)] at EP
      simp only [if_false, Bool.false_eq_true] at HF
      have HG := Lib.hid (fun w => pget_any (pageS d k) (by rw [pageS_size]; omega) w)
      have EO := Lib.hid (fun h : readPE d (k : Int) = 0 => readRet_ok (d := d) (id := (k : Int)) h)
      rw [Int.toNat_natCast] at EO
      clear hd
      unfold getRet at HG
      generalize pageS d k = s at *
      obtain ⟨g, hg⟩ : ∃ g, g = getP s := ⟨_, rfl⟩
      rw [← hg] at HG EO EP
      clear hg
      obtain ⟨n1, n2, n3, pb⟩ := g
      unfold pgV at HG EO
      dsimp only at HG EO EP
      obtain ⟨ge, hge⟩ : ∃ e, e = getE s := ⟨_, rfl⟩
      rw [← hge] at HG EP
      clear hge
      go_enter Tryz.func170, Tryz.ntmps170
      go_upto_region 1 with fail
      rw [← hC]
      generalize u.alloc (.cells #[.int .i64 0, .int .i64 0, .int .i64 0, .string ⟨#[]⟩] 181) = w1 at *
      clear hC
      go_wp2_with fail
      refine (HH.out).mono ?_
      rintro e w2 ⟨rfl, rfl⟩
      go_wp2_with fail
      refine (HF.out).mono ?_
      rintro e w3 ⟨rfl, hb⟩
      have X3 := Lib.hid (heap_stays X1.out hb)
      have B3 := Lib.hid (bthen B1.out hb)
      clear hb
      go_wp2_with fail
      refine (HG.out _).mono ?_
      rintro e w4 ⟨rfl, hb⟩
      have X4 := Lib.hid (heap_stays X3.out hb)
      have B4 := Lib.hid (bthen B3.out hb)
      clear hb
      have Y5 := Lib.hid (heap_alloc_new w4 (.cells #[.int .i64 n1, .int .i64 n2, .int .i64 n3, .string pb] 181))
      have X5 := Lib.hid (heap_stays X4.out (balloc w4 (.cells #[.int .i64 n1, .int .i64 n2, .int .i64 n3, .string pb] 181)))
      have B5 := Lib.hid (bthen B4.out (balloc w4 (.cells #[.int .i64 n1, .int .i64 n2, .int .i64 n3, .string pb] 181)))
      obtain ⟨D, hD⟩ : ∃ D, D = w4.heap.size := ⟨_, rfl⟩
      rw [← hD] at Y5
      go_upto_region 9 with fail
      rw [← hD]
      generalize w4.alloc (.cells #[.int .i64 n1, .int .i64 n2, .int .i64 n3, .string pb] 181) = w5 at *
      clear hD
      obtain ⟨y0, y1, y2, y3⟩ := four_cells Y5.out
      obtain ⟨x0, x1, x2, x3⟩ := four_cells X5.out
      have xf : ∀ q, w5.frozen? ⟨C, q, none⟩ = false := fun q => Lib.frozen_of_heap X5.out q
      by_cases hz : ge = 0
      · rw [if_pos hz] at EP
        subst hz
        by_cases hi : n1 = (k : Int)
        · rw [if_pos hi] at EP
          have E := Lib.hid (EO.out EP.out)
          have d2 : (n1 != (k : Int)) = false := by simp [hi]
          clear EO EP hi
          go_wp2_with fail
          change bodyPost _ _ _ _ _ (World.setCells w5 C 0 [.int .i64 n1, .int .i64 n2, .int .i64 n3, .string pb])
          obtain ⟨t0, t1, t2, t3⟩ := four_cells (put_four X5.out (.int .i64 n1) (.int .i64 n2) (.int .i64 n3) (.string pb))
          have LZ := Lib.hid (B5.out.trans (put_below HC.out [.int .i64 n1, .int .i64 n2, .int .i64 n3, .string pb] 0 w5))
          generalize World.setCells w5 C 0 [.int .i64 n1, .int .i64 n2, .int .i64 n3, .string pb] = w9 at *
          exact bodyPost_ret (v := .tuple #[.agg #[.int .i64 n1, .int .i64 n2, .int .i64 n3, .string pb], .int .i64 0]) (by simp [results, Tryz.results170, go_sem, t0, t1, t2, t3]) rfl ⟨by rw [E.out], LZ.out⟩
        · rw [if_neg hi] at EP
          have E := Lib.hid (readRet_bad EP.out (by decide))
          have d2 : (n1 != (k : Int)) = true := by simp [hi]
          clear EO EP hi
          go_wp2_with fail
          change bodyPost _ _ _ _ _ (World.setCells w5 C 0 [.int .i64 0, .int .i64 0, .int .i64 0, .string ⟨#[]⟩])
          obtain ⟨t0, t1, t2, t3⟩ := four_cells (put_four X5.out (.int .i64 0) (.int .i64 0) (.int .i64 0) (.string ⟨#[]⟩))
          have LZ := Lib.hid (B5.out.trans (put_below HC.out [.int .i64 0, .int .i64 0, .int .i64 0, .string ⟨#[]⟩] 0 w5))
          generalize World.setCells w5 C 0 [.int .i64 0, .int .i64 0, .int .i64 0, .string ⟨#[]⟩] = w9 at *
          exact bodyPost_ret (v := .tuple #[.agg #[.int .i64 0, .int .i64 0, .int .i64 0, .string ⟨#[]⟩], .int .i64 14]) (by simp [results, Tryz.results170, go_sem, t0, t1, t2, t3]) rfl ⟨by rw [E.out], LZ.out⟩
      · rw [if_neg hz] at EP
        have E := Lib.hid (readRet_bad EP.out hz)
        have d2 : (ge != 0) = true := by simp [hz]
        clear EO EP hz
        go_wp2_with fail
        change bodyPost _ _ _ _ _ (World.setCells w5 C 0 [.int .i64 0, .int .i64 0, .int .i64 0, .string ⟨#[]⟩])
        obtain ⟨t0, t1, t2, t3⟩ := four_cells (put_four X5.out (.int .i64 0) (.int .i64 0) (.int .i64 0) (.string ⟨#[]⟩))
        have LZ := Lib.hid (B5.out.trans (put_below HC.out [.int .i64 0, .int .i64 0, .int .i64 0, .string ⟨#[]⟩] 0 w5))
        generalize World.setCells w5 C 0 [.int .i64 0, .int .i64 0, .int .i64 0, .string ⟨#[]⟩] = w9 at *
        exact bodyPost_ret (v := .tuple #[.agg #[.int .i64 0, .int .i64 0, .int .i64 0, .string ⟨#[]⟩], .int .i64 ge]) (by simp [results, Tryz.results170, go_sem, t0, t1, t2, t3]) rfl ⟨by rw [E.out], LZ.out⟩

end Go.Proofs.YtmflkkkbahghgaaGreat
namespace Go.Proofs.YtmflkkkbahghgaaGreat
open Go.RowKit Go.Deep
set_option linter.unusedVariables false
set_option linter.unusedSimpArgs false
set_option maxRecDepth 100000

def obB (v : Value) (k : Nat) : Bool := decide (v.ownBlock = some k)
theorem obB_iff {v : Value} {k : Nat} : obB v k = true ↔ v.ownBlock = some k := by simp [obB]
/-- a store's own cells: its disk, its table, the committed one, its map, epoch, slot, parts -/
structure StoA (D M : Nat) (ep : Int) (slot : Nat) (tb ot : Nat → Int) (vp : Value) (A : Array Value) : Prop where
  sz : A.size = 1030
  c0 : A[0]? = some (.pointer (some ⟨D, 0, none⟩))
  now : ∀ l, l < 512 → A[1 + l]? = some (.int .i64 (tb l))
  old : ∀ l, l < 512 → A[513 + l]? = some (.int .i64 (ot l))
  cm : A[1025]? = some (.pointer (some ⟨M, 0, none⟩))
  ce : A[1026]? = some (.int .i64 ep)
  cs : A[1027]? = some (.int .i64 (slot : Int))
  cp : A[1028]? = some vp
  cb : A[1029]? = some (.bool false)
theorem StoA.set {D M : Nat} {ep : Int} {slot : Nat} {tb ot : Nat → Int} {vp : Value} {A : Array Value} (h : StoA D M ep slot tb ot vp A) {l : Nat} (hl : l < 512) (z : Int) : StoA D M ep slot (upd tb l z) ot vp (A.setIfInBounds (1 + l) (.int .i64 z)) := by
  have ne : ∀ i, i ≠ 1 + l → (A.setIfInBounds (1 + l) (.int .i64 z))[i]? = A[i]? := fun i hi => by rw [Array.getElem?_setIfInBounds, if_neg (fun e => hi e.symm)]
  refine ⟨by rw [Array.size_setIfInBounds]; exact h.sz, by rw [ne 0 (by omega)]; exact h.c0, fun k hk => ?_, fun k hk => by rw [ne _ (by omega)]; exact h.old k hk, by rw [ne _ (by omega)]; exact h.cm, by rw [ne _ (by omega)]; exact h.ce, by rw [ne _ (by omega)]; exact h.cs, by rw [ne _ (by omega)]; exact h.cp, by rw [ne _ (by omega)]; exact h.cb⟩
  unfold upd
  by_cases c : k = l
  · subst c
    rw [if_pos rfl, Array.getElem?_setIfInBounds, if_pos rfl, if_pos (by rw [h.sz]; omega)]
  · rw [if_neg c, ne _ (by omega)]
    exact h.now k hk
/-- all its blocks -/
def stoS (P D bS bm : Nat) (SK : Nat → Bool) (vp : Value) (k : Nat) : Bool := k == P || P3 D bS bm k || SK k || obB vp k
/-- a row is apart from all the others -/
structure Apt (P D bS bm : Nat) (SK : Nat → Bool) (v : Value) : Prop where
  p : v.ownBlock ≠ some P
  d : ∀ b, v.ownBlock = some b → P3 D bS bm b = false
  k : ∀ b, v.ownBlock = some b → SK b = false
structure StoM (base D P M bS bm cS : Nat) (d : Dk) (n : Nat) (K : Nat → Nat) (ep : Int) (slot : Nat) (tb : Nat → Int) (ot parts : List Int) (vp : Value) (SK : Nat → Bool) (u : World) : Prop where
  dk : PDk base D bS bm cS d u
  mp : PFm base M n K SK u
  box : ∃ A, u.heap[P]? = some (.cells A 114 (0, 0)) ∧ StoA D M ep slot tb (atL ot) vp A
  par : LstI parts vp u
  lo : base ≤ P
  plo : ∀ b, vp.ownBlock = some b → base ≤ b ∧ b < u.heap.size
  pd : P3 D bS bm P = false
  pk : SK P = false
  dks : ∀ k, P3 D bS bm k = true → SK k = false
  pa : Apt P D bS bm SK vp
theorem LstI.kps {S : Nat → Bool} {u u2 : World} {l : List Int} {v : Value} (h : LstI l v u) (hS : ∀ g, v.ownBlock = some g → S g = false) (k : KpS S u u2) : LstI l v u2 := by
  obtain ⟨ao, cap, e, h1, h2, h3⟩ := h
  refine ⟨ao, cap, e, h1, h2, fun hn => ?_⟩
  obtain ⟨b, o, e2, hA⟩ := h3 hn
  refine ⟨b, o, e2, Nat.lt_of_lt_of_le hA.1 k.size, fun i hi j hj => ?_⟩
  rw [← hA.2 i hi j hj]
  exact World.cell?_of_block (k.blk hA.1 (hS b (by rw [e, e2]; rfl)))
section
variable {base D P M bS bm cS n : Nat} {d d2 : Dk} {K K2 : Nat → Nat} {ep : Int} {slot : Nat} {tb : Nat → Int} {ot parts : List Int} {vp : Value} {SK SK2 T : Nat → Bool} {u u2 : World}
theorem stoS_iff {k : Nat} : stoS P D bS bm SK vp k = true ↔ k = P ∨ P3 D bS bm k = true ∨ SK k = true ∨ vp.ownBlock = some k := by
  unfold stoS
  simp only [Bool.or_eq_true, beq_iff_eq, obB_iff, or_assoc]
theorem StoM.plt (h : StoM base D P M bS bm cS d n K ep slot tb ot parts vp SK u) : P < u.heap.size := by
  obtain ⟨A, e, _⟩ := h.box
  exact lt_of_block e
theorem StoM.boxed (h : StoM base D P M bS bm cS d n K ep slot tb ot parts vp SK u) (e : u2.heap[P]? = u.heap[P]?) : ∃ A, u2.heap[P]? = some (.cells A 114 (0, 0)) ∧ StoA D M ep slot tb (atL ot) vp A := by
  obtain ⟨A, e2, hA⟩ := h.box
  exact ⟨A, e.trans e2, hA⟩
/-- what is written is none of its blocks -/
theorem StoM.kept (h : StoM base D P M bS bm cS d n K ep slot tb ot parts vp SK u) (hT : ∀ k, stoS P D bS bm SK vp k = true → T k = false) (k : KpS T u u2) : StoM base D P M bS bm cS d n K ep slot tb ot parts vp SK u2 := by
  have t : ∀ q, (q = P ∨ P3 D bS bm q = true ∨ SK q = true ∨ vp.ownBlock = some q) → T q = false := fun q hq => hT q (stoS_iff.2 hq)
  obtain ⟨l1, l2, l3⟩ := h.dk.lt
  exact { h with
    dk := h.dk.kept (k.blk l1 (t _ (.inr (.inl (P3.a _ _ _))))) (k.blk l2 (t _ (.inr (.inl (P3.b _ _ _))))) (k.blk l3 (t _ (.inr (.inl (P3.c _ _ _)))))
    mp := h.mp.kept (fun q hq => t q (.inr (.inr (.inl hq)))) k
    box := h.boxed (k.blk h.plt (t _ (.inl rfl)))
    par := h.par.kps (fun g hg => t g (.inr (.inr (.inr hg)))) k
    plo := fun b hb => ⟨(h.plo b hb).1, Nat.lt_of_lt_of_le (h.plo b hb).2 k.size⟩ }
theorem StoM.below (h : StoM base D P M bS bm cS d n K ep slot tb ot parts vp SK u) (k : Below u.heap.size u u2) : StoM base D P M bS bm cS d n K ep slot tb ot parts vp SK u2 := h.kept (T := noB) (fun _ _ => rfl) (KpS.of k)
theorem StoM.s_lo (h : StoM base D P M bS bm cS d n K ep slot tb ot parts vp SK u) : ∀ k, stoS P D bS bm SK vp k = true → base ≤ k ∧ k < u.heap.size := by
  intro k hk
  obtain ⟨l1, l2, l3⟩ := h.dk.lt
  obtain ⟨o1, o2, o3⟩ := h.dk.lo
  rcases stoS_iff.1 hk with rfl | hk | hk | hk
  · exact ⟨h.lo, h.plt⟩
  · unfold P3 at hk
    simp only [Bool.or_eq_true, beq_iff_eq] at hk
    rcases hk with (rfl | rfl) | rfl
    · exact ⟨o1, l1⟩
    · exact ⟨o2, l2⟩
    · exact ⟨o3, l3⟩
  · exact h.mp.s_lo k hk
  · exact h.plo k hk
/-- its disk is written -/
theorem StoM.disk {bm2 : Nat} (h : StoM base D P M bS bm cS d n K ep slot tb ot parts vp SK u) (hd : PDk base D bS bm2 cS d2 u2) (hb : NewOr bm u bm2) (k : KpS (P3 D bS bm) u u2) : StoM base D P M bS bm2 cS d2 n K ep slot tb ot parts vp SK u2 := by
  have p2 : ∀ q, q < u.heap.size → P3 D bS bm q = false → P3 D bS bm2 q = false := fun q hq h0 => by
    unfold P3 at h0 ⊢
    simp only [Bool.or_eq_false_iff, beq_eq_false_iff_ne] at h0 ⊢
    rcases hb with rfl | hb
    · exact h0
    · exact ⟨h0.1, by omega⟩
  have apt : ∀ {v : Value}, (∀ b, v.ownBlock = some b → b < u.heap.size) → Apt P D bS bm SK v → Apt P D bS bm2 SK v := fun hl a => ⟨a.p, fun b hb => p2 b (hl b hb) (a.d b hb), a.k⟩
  exact
  { dk := hd
    mp := h.mp.kept (fun q hq => by
      cases c : P3 D bS bm q with
      | false => rfl
      | true => rw [h.dks q c] at hq; cases hq) k
    box := h.boxed (k.blk h.plt h.pd)
    par := h.par.kps h.pa.d k
    lo := h.lo
    plo := fun b hb => ⟨(h.plo b hb).1, Nat.lt_of_lt_of_le (h.plo b hb).2 k.size⟩
    pd := p2 P h.plt h.pd
    pk := h.pk
    dks := fun q hq => by
      cases c : P3 D bS bm q with
      | true => exact h.dks q c
      | false =>
        cases c2 : SK q with
        | false => rfl
        | true => have := p2 q (h.mp.s_lo q c2).2 c; rw [this] at hq; cases hq
    pa := apt (fun b hb => (h.plo b hb).2) h.pa }
/-- its map is written -/
theorem StoM.map (h : StoM base D P M bS bm cS d n K ep slot tb ot parts vp SK u) (hm : PFm base M n K2 SK2 u2) (hn : ∀ k, SK2 k = true → SK k = true ∨ u.heap.size ≤ k) (k : KpS SK u u2) : StoM base D P M bS bm cS d n K2 ep slot tb ot parts vp SK2 u2 := by
  obtain ⟨l1, l2, l3⟩ := h.dk.lt
  have no : ∀ q, P3 D bS bm q = true → SK q = false := h.dks
  have s2 : ∀ q, q < u.heap.size → SK q = false → SK2 q = false := fun q hq h0 => by
    cases c : SK2 q with
    | false => rfl
    | true =>
      rcases hn q c with h1 | h1
      · rw [h0] at h1; cases h1
      · omega
  have apt : ∀ {v : Value}, (∀ b, v.ownBlock = some b → b < u.heap.size) → Apt P D bS bm SK v → Apt P D bS bm SK2 v := fun hl a => ⟨a.p, a.d, fun b hb => s2 b (hl b hb) (a.k b hb)⟩
  exact
  { dk := h.dk.kept (k.blk l1 (no _ (P3.a _ _ _))) (k.blk l2 (no _ (P3.b _ _ _))) (k.blk l3 (no _ (P3.c _ _ _)))
    mp := hm
    box := h.boxed (k.blk h.plt h.pk)
    par := h.par.kps h.pa.k k
    lo := h.lo
    plo := fun b hb => ⟨(h.plo b hb).1, Nat.lt_of_lt_of_le (h.plo b hb).2 k.size⟩
    pd := h.pd
    pk := s2 P h.plt h.pk
    dks := fun q hq => by
      cases c : SK2 q with
      | false => rfl
      | true =>
        rcases hn q c with h1 | h1
        · rw [h.dks q hq] at h1; cases h1
        · unfold P3 at hq
          simp only [Bool.or_eq_true, beq_iff_eq] at hq
          omega
    pa := apt (fun b hb => (h.plo b hb).2) h.pa }
/-- its own cells are written: others stand there -/
theorem StoM.rebox {ep2 : Int} {slot2 : Nat} {tb2 : Nat → Int} {ot2 parts2 : List Int} {vp2 : Value} {A : Array Value} (h : StoM base D P M bS bm cS d n K ep slot tb ot parts vp SK u) (ks : KpS (fun q => q == P) u u2) (e : u2.heap[P]? = some (.cells A 114 (0, 0))) (hA : StoA D M ep2 slot2 tb2 (atL ot2) vp2 A) (hp : LstI parts2 vp2 u) (hlo : ∀ b, vp2.ownBlock = some b → base ≤ b ∧ b < u.heap.size) (ha : Apt P D bS bm SK vp2) : StoM base D P M bS bm cS d n K ep2 slot2 tb2 ot2 parts2 vp2 SK u2 := by
  have ne : ∀ q, q ≠ P → (fun q => q == P) q = false := fun q hq => by simpa using hq
  obtain ⟨l1, l2, l3⟩ := h.dk.lt
  have dn : ∀ q, P3 D bS bm q = true → q ≠ P := fun q hq e => by subst e; rw [h.pd] at hq; cases hq
  exact
  { dk := h.dk.kept (ks.blk l1 (ne _ (dn _ (P3.a _ _ _)))) (ks.blk l2 (ne _ (dn _ (P3.b _ _ _)))) (ks.blk l3 (ne _ (dn _ (P3.c _ _ _))))
    mp := h.mp.kept (fun q hq => ne q (fun e => by subst e; rw [h.pk] at hq; cases hq)) ks
    box := ⟨A, e, hA⟩
    par := hp.kps (fun b hb => ne b (fun e => ha.p (by rw [hb, e]))) ks
    lo := h.lo
    plo := fun b hb => ⟨(hlo b hb).1, Nat.lt_of_lt_of_le (hlo b hb).2 ks.size⟩
    pd := h.pd
    pk := h.pk
    dks := h.dks
    pa := ha }
/-- a cell of its table is written -/
theorem StoM.put (h : StoM base D P M bS bm cS d n K ep slot tb ot parts vp SK u) {l : Nat} (hl : l < 512) (z : Int) : StoM base D P M bS bm cS d n K ep slot (upd tb l z) ot parts vp SK (u.setCell ⟨P, 1 + l, none⟩ (.int .i64 z)) := by
  obtain ⟨A, e, hA⟩ := h.box
  exact h.rebox (KpS.set (b := P) (by simp) (1 + l) _ u) (Joins.block_setCell (i := 1 + l) e _) (hA.set hl z) h.par h.plo h.pa
theorem StoM.look (h : StoM base D P M bS bm cS d n K ep slot tb ot parts vp SK u) : u.cell? ⟨P, 0, none⟩ = some (.pointer (some ⟨D, 0, none⟩)) ∧ u.cell? ⟨P, 1025, none⟩ = some (.pointer (some ⟨M, 0, none⟩)) ∧ u.cell? ⟨P, 1026, none⟩ = some (.int .i64 ep) ∧ u.cell? ⟨P, 1027, none⟩ = some (.int .i64 (slot : Int)) ∧ u.cell? ⟨P, 1028, none⟩ = some vp ∧ u.cell? ⟨P, 1029, none⟩ = some (.bool false) ∧ ∀ q, u.frozen? ⟨P, q, none⟩ = false := by
  obtain ⟨A, e, hA⟩ := h.box
  exact ⟨(Lib.cell_of_heap e _).trans hA.c0, (Lib.cell_of_heap e _).trans hA.cm, (Lib.cell_of_heap e _).trans hA.ce, (Lib.cell_of_heap e _).trans hA.cs, (Lib.cell_of_heap e _).trans hA.cp, (Lib.cell_of_heap e _).trans hA.cb, fun q => Lib.frozen_of_heap e q⟩
/-- a table in memory: 512 cells from o on -/
def TabC (q o : Nat) (f : Nat → Int) (u : World) : Prop := ∃ A t, u.heap[q]? = some (.cells A t (0, 0)) ∧ ∀ l, l < 512 → A[o + l]? = some (.int .i64 (f l))
theorem TabC.cell {q o : Nat} {f : Nat → Int} (h : TabC q o f u) {l : Nat} (hl : l < 512) : u.cell? ⟨q, o + l, none⟩ = some (.int .i64 (f l)) := by
  obtain ⟨A, t, e, hA⟩ := h
  exact (Lib.cell_of_heap e _).trans (hA l hl)
theorem TabC.fz {q o : Nat} {f : Nat → Int} (h : TabC q o f u) (k : Nat) : u.frozen? ⟨q, k, none⟩ = false := by
  obtain ⟨A, t, e, hA⟩ := h
  exact Lib.frozen_of_heap e k
theorem TabC.below {q o : Nat} {f : Nat → Int} (h : TabC q o f u) (k : Below u.heap.size u u2) : TabC q o f u2 := by
  obtain ⟨A, t, e, hA⟩ := h
  exact ⟨A, t, heap_stays e k, hA⟩
theorem StoM.now (h : StoM base D P M bS bm cS d n K ep slot tb ot parts vp SK u) : TabC P 1 tb u := by
  obtain ⟨A, e, hA⟩ := h.box
  exact ⟨A, _, e, hA.now⟩
theorem StoM.was (h : StoM base D P M bS bm cS d n K ep slot tb ot parts vp SK u) : TabC P 513 (atL ot) u := by
  obtain ⟨A, e, hA⟩ := h.box
  exact ⟨A, _, e, hA.old⟩
end

end Go.Proofs.YtmflkkkbahghgaaGreat
namespace Go.Proofs.YtmflkkkbahghgaaGreat
open Go.RowKit Go.Deep
set_option linter.unusedVariables false
set_option linter.unusedSimpArgs false
set_option maxRecDepth 100000

/-- a store that holds x -/
structure PmAt (base D P : Nat) (x : Stt) (a : Nat) (M bS bm cS : Nat) (d : Dk) (n : Nat) (K : Nat → Nat) (tb : Nat → Int) (ot parts : List Int) (slot : Nat) (vp : Value) (SK : Nat → Bool) (u : World) : Prop where
  m : StoM base D P M bS bm cS d n K x.ep slot tb ot parts vp SK u
  h : HoldP d x n K tb ot parts slot
  arm : d.arm = a
  cl : d.calls ≤ x.cl
  dn : d.n ≤ 4096
  ab : d.arm ≤ 9223372036854775807
  sl : slot = 0 ∨ slot = 1
  nm : (n : Int) = manyP d.n
def PMx : StM := fun base D P x a S u => ∃ M bS bm cS d n K tb ot parts slot vp SK, PmAt base D P x a M bS bm cS d n K tb ot parts slot vp SK u ∧ S = stoS P D bS bm SK vp
def PFx : FlM := fun base D x nxt S u => ∃ bS bm cS d, PDk base D bS bm cS d u ∧ FallP d x nxt ∧ d.calls ≤ x.cl + 64 ∧ d.n ≤ 4096 ∧ x.many = manyP d.n ∧ (∀ k, (slA x.old k).fr = false) ∧ (∀ k, (slA nxt k).fr = false) ∧ S = P3 D bS bm
def PCx : FlM := fun base D x nxt S u => ∃ bS bm cS d, PDk base D bS bm cS d u ∧ CrashP d x nxt ∧ d.calls ≤ x.cl + 64 ∧ d.n ≤ 4096 ∧ x.many = manyP d.n ∧ (∀ k, (slA x.old k).fr = false) ∧ (∀ k, (slA nxt k).fr = false) ∧ S = P3 D bS bm
theorem pdk_kept {base D bS bm cS : Nat} {d : Dk} {T : Nat → Bool} {u u2 : World} (h : PDk base D bS bm cS d u) (hT : ∀ k, P3 D bS bm k = true → T k = false) (k : KpS T u u2) : PDk base D bS bm cS d u2 := by
  obtain ⟨l1, l2, l3⟩ := h.lt
  exact h.kept (k.blk l1 (hT _ (P3.a _ _ _))) (k.blk l2 (hT _ (P3.b _ _ _))) (k.blk l3 (hT _ (P3.c _ _ _)))
theorem pdk_lo {base D bS bm cS : Nat} {d : Dk} {u : World} (h : PDk base D bS bm cS d u) : ∀ k, P3 D bS bm k = true → base ≤ k ∧ k < u.heap.size := by
  obtain ⟨l1, l2, l3⟩ := h.lt
  obtain ⟨o1, o2, o3⟩ := h.lo
  intro k hk
  unfold P3 at hk
  simp only [Bool.or_eq_true, beq_iff_eq] at hk
  rcases hk with (rfl | rfl) | rfl
  · exact ⟨o1, l1⟩
  · exact ⟨o2, l2⟩
  · exact ⟨o3, l3⟩
section
variable {base D P a : Nat} {x : Stt} {S T : Nat → Bool} {nxt : List Slt} {u u2 : World}
theorem pmx_kept (h : PMx base D P x a S u) (hT : ∀ k, S k = true → T k = false) (k : KpS T u u2) : PMx base D P x a S u2 := by
  obtain ⟨M, bS, bm, cS, d, n, K, tb, ot, parts, slot, vp, SK, hp, rfl⟩ := h
  exact ⟨M, bS, bm, cS, d, n, K, tb, ot, parts, slot, vp, SK, { hp with m := hp.m.kept hT k }, rfl⟩
theorem pmx_lo (h : PMx base D P x a S u) : ∀ k, S k = true → base ≤ k ∧ k < u.heap.size := by
  obtain ⟨M, bS, bm, cS, d, n, K, tb, ot, parts, slot, vp, SK, hp, rfl⟩ := h
  exact hp.m.s_lo
theorem pfx_kept (h : PFx base D x nxt S u) (hT : ∀ k, S k = true → T k = false) (k : KpS T u u2) : PFx base D x nxt S u2 := by
  obtain ⟨bS, bm, cS, d, hd, h1, h2, h3, h4, h5, h6, rfl⟩ := h
  exact ⟨bS, bm, cS, d, pdk_kept hd hT k, h1, h2, h3, h4, h5, h6, rfl⟩
theorem pfx_lo (h : PFx base D x nxt S u) : ∀ k, S k = true → base ≤ k ∧ k < u.heap.size := by
  obtain ⟨bS, bm, cS, d, hd, h1, h2, h3, h4, h5, h6, rfl⟩ := h
  exact pdk_lo hd
theorem pcx_kept (h : PCx base D x nxt S u) (hT : ∀ k, S k = true → T k = false) (k : KpS T u u2) : PCx base D x nxt S u2 := by
  obtain ⟨bS, bm, cS, d, hd, h1, h2, h3, h4, h5, h6, rfl⟩ := h
  exact ⟨bS, bm, cS, d, pdk_kept hd hT k, h1, h2, h3, h4, h5, h6, rfl⟩
theorem pcx_lo (h : PCx base D x nxt S u) : ∀ k, S k = true → base ≤ k ∧ k < u.heap.size := by
  obtain ⟨bS, bm, cS, d, hd, h1, h2, h3, h4, h5, h6, rfl⟩ := h
  exact pdk_lo hd
end
section
variable {base D P a : Nat} {x : Stt} {M bS bm cS : Nat} {d : Dk} {n : Nat} {K : Nat → Nat} {tb : Nat → Int} {ot parts : List Int} {slot : Nat} {vp : Value} {SK : Nat → Bool} {u u2 : World}
theorem PmAt.below (h : PmAt base D P x a M bS bm cS d n K tb ot parts slot vp SK u) (k : Below u.heap.size u u2) : PmAt base D P x a M bS bm cS d n K tb ot parts slot vp SK u2 := { h with m := h.m.below k }
theorem PmAt.bd (h : PmAt base D P x a M bS bm cS d n K tb ot parts slot vp SK u) (hx : OkX x) : BdD d := ⟨h.dn, by have := h.cl; have := hx.cl; omega, h.ab⟩
theorem PmAt.n_le (h : PmAt base D P x a M bS bm cS d n K tb ot parts slot vp SK u) : n ≤ 1024 := h.h.mn.2.1
/-- a page of the table: there or not -/
theorem PmAt.at_ (h : PmAt base D P x a M bS bm cS d n K tb ot parts slot vp SK u) (l : Nat) : (isS x.now l = true ↔ tb l ≠ -1) ∧ (isS x.now l = false → tb l = -1) ∧ (isS x.now l = true → 0 ≤ tb l ∧ tb l < (n : Int)) ∧ -1 ≤ tb l ∧ tb l < 1024 := by
  have t := h.h.tab.tin l
  have hn := h.n_le
  cases c : isS x.now l with
  | true => have := t.1 c; exact ⟨⟨fun _ => by omega, fun _ => rfl⟩, fun h => Bool.noConfusion h, fun _ => this, by omega, by omega⟩
  | false => have := t.2 c; exact ⟨⟨fun h => Bool.noConfusion h, fun h => absurd this h⟩, fun _ => this, fun h => Bool.noConfusion h, by omega, by omega⟩
theorem lt512 {x : Stt} (hx : OkX x) {l : Nat} (h : isS x.now l = true) : l < 512 := by
  rcases Nat.lt_or_ge l 512 with c | c
  · exact c
  · rw [isS_out (by have := hx.now; omega)] at h; cases h
end

end Go.Proofs.YtmflkkkbahghgaaGreat
