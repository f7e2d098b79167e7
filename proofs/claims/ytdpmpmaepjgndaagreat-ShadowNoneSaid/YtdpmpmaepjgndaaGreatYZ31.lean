/- The program's tables: which pages are there, up to which one, a blank one. The program's store: whether it works, which pages are there, its epoch, which payloads it takes, its spare slot. The program's store lays a physical page of its next root. -/
import Derived.BigQuiet
import Derived.Deep.WholeRow
import Derived.Shelf.SlicesQ.Load
import Derived.Test.YtdpmpmaepjgndaaGreatYZ30
namespace Go.Proofs.YtdpmpmaepjgndaaGreat
open Go.RowKit Go.Deep
set_option linter.unusedVariables false
set_option linter.unusedSimpArgs false
set_option maxRecDepth 100000

def hasT (f : Nat → Int) (l : Int) : Bool := decide (0 ≤ l ∧ l < 512 ∧ f l.toNat ≠ -1)
/-- the pages ahead of n that are there, rising -/
def listT (f : Nat → Int) : Nat → List Nat
  | 0 => []
  | n + 1 => listT f n ++ (if f n ≠ -1 then [n] else [])
theorem listT_len (f : Nat → Int) (n : Nat) : (listT f n).length ≤ n := by
  induction n with
  | zero => exact Nat.le_refl _
  | succ n ih =>
    simp only [listT, List.length_append]
    split <;> simp <;> omega
theorem mem_listT {f : Nat → Int} {n i : Nat} : i ∈ listT f n ↔ i < n ∧ f i ≠ -1 := by
  induction n with
  | zero => simp [listT]
  | succ n ih =>
    simp only [listT, List.mem_append, ih]
    by_cases c : f n ≠ -1
    · rw [if_pos c]
      simp only [List.mem_singleton]
      constructor
      · rintro (⟨a, b⟩ | rfl)
        · exact ⟨by omega, b⟩
        · exact ⟨by omega, c⟩
      · rintro ⟨a, b⟩
        by_cases e : i = n
        · exact .inr e
        · exact .inl ⟨by omega, b⟩
    · rw [if_neg c]
      simp only [List.not_mem_nil, or_false]
      constructor
      · rintro ⟨a, b⟩; exact ⟨by omega, b⟩
      · rintro ⟨a, b⟩
        refine ⟨?_, b⟩
        have : i ≠ n := by rintro rfl; exact c b
        omega
theorem listT_pair (f : Nat → Int) (n : Nat) : (listT f n).Pairwise (· < ·) := by
  induction n with
  | zero => exact List.Pairwise.nil
  | succ n ih =>
    simp only [listT]
    rw [List.pairwise_append]
    refine ⟨ih, by split <;> simp, fun a ha b hb => ?_⟩
    have := (mem_listT.1 ha).1
    split at hb
    · simp at hb; omega
    · simp at hb
/-- up to the last one that is there -/
def trimT (f : Nat → Int) : Nat → Nat
  | 0 => 0
  | n + 1 => if f n = -1 then trimT f n else n + 1
section
variable {q o : Nat} {f : Nat → Int} {u : World}
theorem thas_any (h : TabC q o f u) (l : Int) : Calls Tryz.prog 93 #[.pointer (some ⟨q, o, none⟩), .int .i64 l] u fun r u' => r = .returned (.bool (hasT f l)) ∧ u' = u := by
  by_cases h0 : 0 ≤ l
  · have d0 : decide (0 ≤ l) = true := by simp [h0]
    by_cases h1 : l < 512
    · have d1 : decide (l < 512) = true := by simp [h1]
      obtain ⟨k, rfl⟩ : ∃ k : Nat, l = (k : Int) := ⟨l.toNat, by omega⟩
      have hk : k < 512 := by omega
      have hc := h.cell hk
      have hc2 : u.cell? ⟨q, k + o, none⟩ = some (.int .i64 (f k)) := by rw [Nat.add_comm]; exact hc
      have E : Hid (hasT f (k : Int) = !decide (f k = -1)) := Lib.hid (by
        unfold hasT
        rw [Int.toNat_natCast]
        by_cases c : f k = -1
        · rw [decide_eq_false (fun h => h.2.2 c), decide_eq_true c]; rfl
        · rw [decide_eq_true ⟨h0, h1, c⟩, decide_eq_false c]; rfl)
      generalize f k = z at *
      have g0 : (0 : Int) ≤ (k : Int) := h0
      have g1 : (k : Int) < 512 := h1
      clear h h0 h1 hk
      go_enter Tryz.func93, Tryz.ntmps93
      go_wp2_with fail
      go_ret
      exact ⟨by rw [E.out]; by_cases c : z = -1 <;> simp [c], rfl⟩
    · have d1 : decide (l < 512) = false := by simp; omega
      have E : Hid (hasT f l = false) := Lib.hid (decide_eq_false fun hi => h1 hi.2.1)
      clear h1 h
      go_enter Tryz.func93, Tryz.ntmps93
      go_wp2_with fail
      go_ret
      exact ⟨by rw [E.out]; rfl, rfl⟩
  · have d0 : decide (0 ≤ l) = false := by simp; omega
    have E : Hid (hasT f l = false) := Lib.hid (decide_eq_false fun hi => h0 hi.1)
    clear h0 h
    go_enter Tryz.func93, Tryz.ntmps93
    go_wp2_with fail
    go_ret
    exact ⟨by rw [E.out]; rfl, rfl⟩
set_option maxHeartbeats 1600000 in
theorem tthere_any (h : TabC q o f u) : Calls Tryz.prog 49 #[.pointer (some ⟨q, o, none⟩)] u fun r u' => ∃ v, r = .returned v ∧ NewL u.heap.size (listT f 512) v u' ∧ Below u.heap.size u u' := by
  obtain ⟨i0, hi0, hz0, hz1, hz2⟩ := info_parts infoInt12
  have HH := Lib.hid h
  have N : Hid (∃ N : Nat, N = 512) := Lib.hid ⟨512, rfl⟩
  clear h
  go_enter Tryz.func49, Tryz.ntmps49
  go_wp2_with fail
  go_loopw [3, 5] (fun v i wr => ∃ j : Nat, j ≤ 512 ∧ i = .int .i64 j ∧ Hid (wr.ownsRow u.heap.size 3 1 v (listT f j).length (natV (listT f j))) ∧ Hid (Below u.heap.size u wr)) (fun _ i _ => 512 - (intOf i).toNat)
  case atStart => exact ⟨0, Nat.zero_le _, rfl, Lib.hid (World.ownsRow_nil _ _ _ _), Lib.hid (Below.refl _ _)⟩
  case round =>
    obtain ⟨j, hj, rfl, HO, HB⟩ := hrel
    by_cases hlt : j < 512
    · have d1 : decide ((j : Int) < 512) = true := by simp; omega
      have HLT := Lib.hid hlt
      have HA := Lib.hid (thas_any (HH.out.below HB.out) (j : Int))
      by_cases hz : f j ≠ -1
      · have EL : Hid (listT f (j + 1) = listT f j ++ [j]) := Lib.hid (by simp only [listT]; rw [if_pos hz])
        rw [show hasT f (j : Int) = true from decide_eq_true ⟨by omega, by omega, by rw [Int.toNat_natCast]; exact hz⟩] at HA
        have hlen : (listT f j).length ≤ 1024 := by have := listT_len f j; omega
        have B1 := balloc wr (.cells #[.int .i64 (j : Int)] 3)
        have O1 := Lib.hid (own_below HO.out B1)
        have W1 := Lib.hid (HB.out.trans (B1.mono HB.out.size))
        have SZ := Lib.hid (Nat.le_trans HB.out.size B1.size)
        have hone : ∀ (q : Nat) v, [Value.int .i64 (j : Int)][q]? = some v → (wr.alloc (.cells #[.int .i64 (j : Int)] 3)).cell? ((⟨wr.heap.size, 0, none⟩ : Addr).add q) = some v := fun q v hq => by
          rcases q with _ | q
          · simp only [List.getElem?_cons_zero, Option.some.injEq] at hq
            subst hq
            rw [add_plain, Lib.cell_of_heap (heap_alloc_new wr _)]
            rfl
          · simp at hq
        clear hz B1 hlt
        go_wp2_with (first | (at_builtin; refine wpList_append_own _ rfl _ _ 38 rfl u.heap.size 3 i0 (.int .i64 0) 1 8 Tryz.underlying38 hi0 hz0 hz1 hz2 rfl (by decide) _ (listT f j).length _ rfl O1.out ⟨wr.heap.size, 0, none⟩ 1 1 [.int .i64 (j : Int)] rfl rfl hone (by intro q hq; simp only [List.mem_cons, List.not_mem_nil, or_false] at hq; subst hq; rfl) (by unfold maxLen; omega) (by omega) SZ.out ?_) | (go_at_call 93; refine HA.out.mono ?_; rintro e w1 ⟨rfl, hw⟩; rw [hw]; clear hw w1))
        intro v4 w4 ho4 hg4 _
        have O4 : Hid (w4.ownsRow u.heap.size 3 1 v4 (listT f (j + 1)).length (natV (listT f (j + 1)))) := Lib.hid (by
          rw [EL.out, List.length_append, List.length_singleton]
          unfold natV at ho4 ⊢
          rw [List.map_append]
          exact ho4)
        have W4 := Lib.hid (W1.out.trans ((Below.refl _ _).grown hg4 SZ.out (fun g hg => (O1.out.lt g hg).1)))
        clear ho4 hg4
        go_wp2_with fail
        go_roundw
        case rel => have := HLT.out; exact ⟨j + 1, by omega, by go_num, O4, W4⟩
        case measure => have := HLT.out; simp [intOf]; omega
      · have EL : Hid (listT f (j + 1) = listT f j) := Lib.hid (by simp only [listT]; rw [if_neg hz, List.append_nil])
        rw [show hasT f (j : Int) = false from decide_eq_false fun h => hz (by have := h.2.2; rwa [Int.toNat_natCast] at this)] at HA
        have O4 := HO
        rw [← EL.out] at O4
        clear hz hlt
        go_wp2_with fail
        refine HA.out.mono ?_
        rintro e w1 ⟨rfl, hw⟩
        rw [hw]
        clear hw w1
        go_wp2_with fail
        go_roundw
        case rel => have := HLT.out; exact ⟨j + 1, by omega, by go_num, O4, HB⟩
        case measure => have := HLT.out; simp [intOf]; omega
    · have ej : j = 512 := by omega
      have d1 : decide ((j : Int) < 512) = false := by simp; omega
      have EJ := Lib.hid ej
      clear hlt ej hj
      go_wp2_with fail
      go_ret
      exact ⟨_, rfl, by rw [← EJ.out]; exact NewL.of HO.out, HB.out⟩
set_option maxHeartbeats 800000 in
theorem tend_any (h : TabC q o f u) : Calls Tryz.prog 77 #[.pointer (some ⟨q, o, none⟩)] u fun r u' => r = .returned (.int .i64 (trimT f 512 : Nat)) ∧ u' = u := by
  obtain ⟨T, hT⟩ : ∃ T, T = trimT f 512 := ⟨_, rfl⟩
  rw [← hT]
  have HT := Lib.hid hT
  have HH := Lib.hid h
  clear h hT
  go_enter Tryz.func77, Tryz.ntmps77
  go_wp2_with fail
  go_loop [3] (fun i => ∃ j : Nat, j ≤ 512 ∧ i = .int .i64 j ∧ Hid (T = trimT f j)) (fun i => (intOf i).toNat)
  case atStart => exact ⟨512, Nat.le_refl _, rfl, HT⟩
  case round =>
    obtain ⟨j, hj, rfl, HJ⟩ := hrel
    rcases Nat.eq_zero_or_pos j with rfl | hp
    · have E : Hid (T = 0) := HJ
      have d1 : decide ((0 : Int) < ((0 : Nat) : Int)) = false := by decide
      go_wp2_with fail
      go_ret
      exact ⟨by rw [E.out]; rfl, rfl⟩
    · obtain ⟨k, rfl⟩ : ∃ k, j = k + 1 := ⟨j - 1, by omega⟩
      have d1 : decide ((0 : Int) < ((k + 1 : Nat) : Int)) = true := by rw [decide_eq_true_eq]; omega
      have hk : k < 512 := by omega
      have hc := HH.out.cell hk
      have hc2 : u.cell? ⟨q, k + o, none⟩ = some (.int .i64 (f k)) := by rw [Nat.add_comm]; exact hc
      have e1 : ((k + 1 : Nat) : Int) - 1 = (k : Int) := by omega
      have HK := Lib.hid hk
      by_cases c : f k = -1
      · have E : Hid (T = trimT f k) := Lib.hid (by rw [HJ.out]; simp only [trimT]; rw [if_pos c])
        rw [c] at hc hc2
        clear c
        go_wp2_with fail
        go_round
        case rel => have := HK.out; exact ⟨k, by omega, by go_num, E⟩
        case measure => simp [intOf]
      · have E : Hid (T = k + 1) := Lib.hid (by rw [HJ.out]; simp only [trimT]; rw [if_neg c])
        have d2 : decide (f k = -1) = false := by simp [c]
        have d3 : (f k == -1) = false := by simp [c]
        generalize f k = z at *
        go_wp2_with fail
        go_ret
        exact ⟨by rw [E.out]; rfl, rfl⟩
end

end Go.Proofs.YtdpmpmaepjgndaaGreat
namespace Go.Proofs.YtdpmpmaepjgndaaGreat
open Go.RowKit Go.Deep
set_option linter.unusedVariables false
set_option linter.unusedSimpArgs false
set_option maxRecDepth 100000

section
variable {base D P M bS bm cS n : Nat} {d : Dk} {K : Nat → Nat} {ep : Int} {slot : Nat} {tb : Nat → Int} {ot parts : List Int} {vp : Value} {SK : Nat → Bool} {u u2 : World}
theorem sup_any (h : StoM base D P M bS bm cS d n K ep slot tb ot parts vp SK u) : Calls Tryz.prog 76 #[.pointer (some ⟨P, 0, none⟩)] u fun r u' => r = .returned (.int .i64 0) ∧ u' = u := by
  obtain ⟨c0, c3, c4, c5, c6, c7, cf⟩ := h.look
  clear h c0 c3 c4 c5 c6 cf
  go_enter Tryz.func76, Tryz.ntmps76
  go_wp2_with fail
  go_ret
  exact ⟨rfl, rfl⟩
theorem sat_any (h : StoM base D P M bS bm cS d n K ep slot tb ot parts vp SK u) (l : Int) : Calls Tryz.prog 64 #[.pointer (some ⟨P, 0, none⟩), .int .i64 l] u fun r u' => r = .returned (.int .i64 (if hasT tb l = true then 0 else 3)) ∧ u' = u := by
  have HU := Lib.hid (sup_any h)
  have HT := Lib.hid (thas_any h.now l)
  clear h
  cases hc : hasT tb l with
  | true =>
    rw [hc] at HT
    rw [if_pos rfl]
    clear hc
    go_enter Tryz.func64, Tryz.ntmps64
    go_wp2_with fail
    refine (HU.out).mono ?_
    rintro e w1 ⟨rfl, hw⟩
    rw [hw]
    clear hw w1
    go_wp2_with fail
    refine (HT.out).mono ?_
    rintro e w1 ⟨rfl, hw⟩
    rw [hw]
    clear hw w1
    go_wp2_with fail
    go_ret
    exact ⟨rfl, rfl⟩
  | false =>
    rw [hc] at HT
    rw [if_neg (by decide)]
    clear hc
    go_enter Tryz.func64, Tryz.ntmps64
    go_wp2_with fail
    refine (HU.out).mono ?_
    rintro e w1 ⟨rfl, hw⟩
    rw [hw]
    clear hw w1
    go_wp2_with fail
    refine (HT.out).mono ?_
    rintro e w1 ⟨rfl, hw⟩
    rw [hw]
    clear hw w1
    go_wp2_with fail
    go_ret
    exact ⟨rfl, rfl⟩
theorem stakes_any (h : StoM base D P M bS bm cS d n K ep slot tb ot parts vp SK u) (s : ByteArray) : Calls Tryz.prog 66 #[.pointer (some ⟨P, 0, none⟩), .string s] u fun r u' => r = .returned (.int .i64 (if 232 < s.size then 4 else 0)) ∧ u' = u := by
  have HU := Lib.hid (sup_any h)
  clear h
  by_cases hbig : 232 < s.size
  · have dbig : decide ((232 : Int) < (s.size : Int)) = true := by simp; omega
    rw [if_pos hbig]
    clear hbig
    go_enter Tryz.func66, Tryz.ntmps66
    go_wp2_with fail
    refine (HU.out).mono ?_
    rintro e w1 ⟨rfl, hw⟩
    rw [hw]
    clear hw w1
    go_wp2_with fail
    go_ret
    exact ⟨rfl, rfl⟩
  · have dbig : decide ((232 : Int) < (s.size : Int)) = false := by simp; omega
    rw [if_neg hbig]
    clear hbig
    go_enter Tryz.func66, Tryz.ntmps66
    go_wp2_with fail
    refine (HU.out).mono ?_
    rintro e w1 ⟨rfl, hw⟩
    rw [hw]
    clear hw w1
    go_wp2_with fail
    go_ret
    exact ⟨rfl, rfl⟩
theorem sepoch_any (h : StoM base D P M bS bm cS d n K ep slot tb ot parts vp SK u) : Calls Tryz.prog 17 #[.pointer (some ⟨P, 0, none⟩)] u fun r u' => r = .returned (.int .i64 ep) ∧ u' = u := by
  obtain ⟨c0, c3, c4, c5, c6, c7, cf⟩ := h.look
  clear h c0 c3 c5 c6 c7 cf
  go_enter Tryz.func17, Tryz.ntmps17
  go_wp2_with fail
  go_ret
  exact ⟨rfl, rfl⟩
theorem sspare_any (h : StoM base D P M bS bm cS d n K ep slot tb ot parts vp SK u) (hs : slot = 0 ∨ slot = 1) : Calls Tryz.prog 119 #[.pointer (some ⟨P, 0, none⟩)] u fun r u' => r = .returned (.int .i64 ((1 - slot : Nat) : Int)) ∧ u' = u := by
  obtain ⟨c0, c3, c4, c5, c6, c7, cf⟩ := h.look
  have e : ((1 - slot : Nat) : Int) = 1 - (slot : Int) := by omega
  have e0 : 0 ≤ 1 - (slot : Int) ∧ 1 - (slot : Int) ≤ 1 := by omega
  clear h c0 c3 c4 c6 c7 cf hs
  rw [e]
  go_enter Tryz.func119, Tryz.ntmps119
  go_wp2_with fail
  go_ret
  exact ⟨rfl, rfl⟩
theorem sthere_any (h : StoM base D P M bS bm cS d n K ep slot tb ot parts vp SK u) : Calls Tryz.prog 27 #[.pointer (some ⟨P, 0, none⟩)] u fun r u' => ∃ v, r = .returned v ∧ NewL u.heap.size (listT tb 512) v u' ∧ Below u.heap.size u u' := by
  have HT := Lib.hid (tthere_any h.now)
  obtain ⟨L, hL⟩ : ∃ L, L = listT tb 512 := ⟨_, rfl⟩
  rw [← hL] at HT ⊢
  clear h hL
  go_enter Tryz.func27, Tryz.ntmps27
  go_wp2_with fail
  refine (HT.out).mono ?_
  rintro e w1 ⟨v, rfl, h1, h2⟩
  have H1 := Lib.hid h1
  have H2 := Lib.hid h2
  clear h1 h2
  go_wp2_with fail
  go_ret
  exact ⟨_, rfl, H1.out, H2.out⟩
end
section
variable {base D P a : Nat} {x : Stt} {M bS bm cS : Nat} {d : Dk} {n : Nat} {K : Nat → Nat} {tb : Nat → Int} {ot parts : List Int} {slot : Nat} {vp : Value} {SK : Nat → Bool} {u u2 : World}
theorem PmAt.has (h : PmAt base D P x a M bS bm cS d n K tb ot parts slot vp SK u) (hx : OkX x) (l : Int) : (hasT tb l = true) = inS x.now l := by
  unfold hasT inS
  rw [decide_eq_true_eq]
  apply propext
  have := h.at_ l.toNat
  constructor
  · rintro ⟨h1, h2, h3⟩; exact ⟨h1, this.1.2 h3⟩
  · rintro ⟨h1, h2⟩; exact ⟨h1, by have := lt512 hx h2; omega, this.1.1 h2⟩
theorem listS_more {l : List Slt} {m : Nat} (h : ∀ i, m ≤ i → isS l i = false) : ∀ k, listS l (m + k) = listS l m
  | 0 => rfl
  | k + 1 => by
    rw [← Nat.add_assoc]
    simp only [listS]
    rw [listS_more h k, h (m + k) (by omega)]
    simp
theorem listS_T {l : List Slt} {f : Nat → Int} (h : ∀ i, isS l i = true ↔ f i ≠ -1) : ∀ m, listT f m = listS l m
  | 0 => rfl
  | m + 1 => by
    simp only [listT, listS]
    rw [listS_T h m]
    cases c : isS l m with
    | true => rw [if_pos ((h m).1 c), if_pos rfl]
    | false => rw [if_neg (fun e => by rw [(h m).2 e] at c; cases c), if_neg (by decide)]
theorem PmAt.pages (h : PmAt base D P x a M bS bm cS d n K tb ot parts slot vp SK u) (hx : OkX x) : listT tb 512 = pagesS x.now := by
  rw [listS_T (l := x.now) (fun i => (h.at_ i).1) 512]
  unfold pagesS
  obtain ⟨k, e⟩ := Nat.exists_eq_add_of_le hx.now
  rw [e, listS_more (fun i hi => isS_out hi)]
end

end Go.Proofs.YtdpmpmaepjgndaaGreat
namespace Go.Proofs.YtdpmpmaepjgndaaGreat
open Go.RowKit Go.Deep
set_option linter.unusedVariables false
set_option linter.unusedSimpArgs false
set_option maxRecDepth 100000

section
variable {base D P a : Nat} {x : Stt} {M bS bm cS : Nat} {d : Dk} {n : Nat} {K K2 : Nat → Nat} {tb tb0 : Nat → Int} {ot parts : List Int} {slot : Nat} {vp : Value} {SK : Nat → Bool} {u u2 : World}
theorem newB_map {SK2 : Nat → Bool} (h : ∀ k, SK2 k = true → SK k = true ∨ u.heap.size ≤ k) : NewB (stoS P D bS bm SK vp) (stoS P D bS bm SK2 vp) u := by
  intro k hk
  rcases stoS_iff.1 hk with h1 | h1 | h1 | h1
  · exact .inl (stoS_iff.2 (.inl h1))
  · exact .inl (stoS_iff.2 (.inr (.inl h1)))
  · exact (h k h1).imp (fun h => stoS_iff.2 (.inr (.inr (.inl h)))) id
  · exact .inl (stoS_iff.2 (.inr (.inr (.inr h1))))
theorem NewB.then {S S2 S3 : Nat → Bool} {w w2 : World} (h : NewB S S2 w) (k : NewB S2 S3 w2) (hs : w.heap.size ≤ w2.heap.size) : NewB S S3 w := fun q hq => by
  rcases k q hq with h1 | h1
  · exact h q h1
  · exact .inr (by omega)
/-- what is written in new blocks of the later set was new -/
theorem kps_new {S S2 : Nat → Bool} {w w2 w3 : World} (hn : NewB S S2 w) (k1 : KpS S w w2) (k2 : KpS S2 w2 w3) : KpS S w w3 := by
  have k1' : Below w.heap.size (HdS S w) (HdS S w2) := k1
  have k2' : Below w2.heap.size (HdS S2 w2) (HdS S2 w3) := k2
  refine ⟨k2'.os.trans k1'.os, k2'.tape.trans k1'.tape, k2'.output.trans k1'.output, by rw [HdS.size, HdS.size]; exact Nat.le_trans k1.size k2.size, fun q hq => ?_⟩
  cases c : S q with
  | true => exact HdS.hid c hq (Nat.lt_of_lt_of_le hq (Nat.le_trans k1.size k2.size))
  | false =>
    rw [HdS.other _ c, HdS.other _ c]
    have e2 : S2 q = false := by
      cases c2 : S2 q with
      | false => rfl
      | true => rcases hn q c2 with h1 | h1
                · rw [c] at h1; cases h1
                · omega
    exact (k2.blk (Nat.lt_of_lt_of_le hq k1.size) e2).trans (k1.blk hq c)
theorem put_ok {x : Stt} (hx : OkX x) {p : Int} (h0 : 0 ≤ p) {s : ByteArray} (hs : s.size ≤ 232) : putE ⟨p, x.ep + 1, 2, s⟩ = 0 := by
  have := hx.ep
  exact putE_zero.2 ⟨⟨h0, by show 0 ≤ x.ep + 1; omega, by show x.ep + 1 ≤ _; omega, by show (0 : Int) ≤ 2; omega, by show (2 : Int) ≤ _; omega⟩, hs⟩
/-- what lay leaves -/
def LayO (base D P : Nat) (x : Stt) (M bS bm cS : Nat) (d : Dk) (n : Nat) (K : Nat → Nat) (tb : Nat → Int) (ot parts : List Int) (slot : Nat) (vp : Value) (SK : Nat → Bool) (p : Pg) (nxt : List Slt) (r : Ending) (u u' : World) : Prop :=
  ∃ e, r = .returned (.int .i64 e) ∧ KpS (P3 D bS bm) u u' ∧
      ((e = 0 ∧ (writeP d p).2 = 0 ∧ StoM base D P M bS bm cS (writeP d p).1 n K x.ep slot tb ot parts vp SK u') ∨
       (e = 13 ∧ (writeP d p).2 ≠ 0 ∧ d.arm ≠ 0 ∧ StoM base D P M bS bm cS (writeP d p).1 n K x.ep slot tb ot parts vp SK u' ∧ FallP (writeP d p).1 x nxt ∧ (writeP d p).1.calls ≤ d.calls + 4 ∧ (writeP d p).1.n ≤ 4096))
set_option maxHeartbeats 800000 in
theorem slay_any (m : StoM base D P M bS bm cS d n K2 x.ep slot tb ot parts vp SK u) (h : HoldP d x n K tb0 ot parts slot) (hn : d.n ≤ 4096) (hc : d.calls < 950000) (ha : d.arm ≤ 9223372036854775807) (hx : OkX x) (id kd : Int) (s : ByteArray) (hE : putE ⟨id, x.ep + 1, kd, s⟩ = 0) (hm : id < (n : Int)) (hk : K id.toNat = 0 ∨ K id.toNat = 2) (nxt : List Slt) :
    Calls Tryz.prog 109 #[.pointer (some ⟨P, 0, none⟩), .int .i64 id, .int .i64 kd, .string s] u fun r u' => LayO base D P x M bS bm cS d n K2 tb ot parts slot vp SK ⟨id, x.ep + 1, kd, s⟩ nxt r u u' := by
  have hxe := hx.ep
  have hep : -9223372036854775808 ≤ x.ep + 1 ∧ x.ep + 1 ≤ 9223372036854775807 := by omega
  have HWP : Hid (IntKind.i64.wrap (x.ep + 1) = x.ep + 1) := Lib.hid (by rw [IntKind.wrap_i64]; omega)
  have H := Lib.hid h
  have MM := Lib.hid m
  have HE := Lib.hid hE
  have HK := Lib.hid hk
  have HM := Lib.hid hm
  have HA := Lib.hid (And.intro hn (And.intro hc ha))
  obtain ⟨c0, c3, c4, c5, c6, c7, cf⟩ := m.look
  clear m h hE hk hm hn hc ha hx hxe c3 c5 c6 c7
  go_enter Tryz.func109, Tryz.ntmps109
  go_upto_region 1 with fail
  refine wp_region_held_drew (S := (fun w' => w'.cell? ⟨P, 0, none⟩ = some (.pointer (some ⟨D, 0, none⟩)) ∧ w'.cell? ⟨P, 1026, none⟩ = some (.int .i64 x.ep))) (by kernel_rfl) ⟨c0, c4⟩ (fun hHeld => ?_)
  change wpAnyH _ _ _ _ _ _ _ _ (World.drew u)
  have MD := Lib.hid (MM.out.below (bdrew u))
  have BD := Lib.hid (bdrew u)
  clear c0 c4 cf
  generalize World.drew u = wd at *
  first | refine tq0 0 rfl ?_ | refine tq1 0 rfl ?_
  try go_frame
  first | refine tq0 1 rfl ?_ | refine tq1 1 rfl ?_
  try go_frame
  first | refine tq0 2 rfl ?_ | refine tq1 2 rfl ?_
  try go_frame
  first | refine tq0 3 rfl ?_ | refine tq1 3 rfl ?_
  try go_frame
  first | refine tq0 4 rfl ?_ | refine tq1 4 rfl ?_
  try go_frame
  first | refine tq0 5 rfl ?_ | refine tq1 5 rfl ?_
  try go_frame
  first | refine tq0 6 rfl ?_ | refine tq1 6 rfl ?_
  try go_frame
  first | refine tq0 7 rfl ?_ | refine tq1 7 rfl ?_
  try go_frame
  first | refine tq0 8 rfl ?_ | refine tq1 8 rfl ?_
  try go_frame
  first | refine tq0 9 rfl ?_ | refine tq1 9 rfl ?_
  try go_frame
  first | refine tq0 10 rfl ?_ | refine tq1 10 rfl ?_
  try go_frame
  first | refine tq0 11 rfl ?_ | refine tq1 11 rfl ?_
  try go_frame
  first | refine tq0 12 rfl ?_ | refine tq1 12 rfl ?_
  try go_frame
  have HW := Lib.hid (sto_write MD.out H.out HA.out.1 HA.out.2.1 HA.out.2.2 ⟨id, x.ep + 1, kd, s⟩ HE.out HM.out HK.out nxt)
  dsimp only at HW
  refine wpAnyH_ready (rs := [13]) (by kernel_rfl) (by simp) ?_
  refine AllReadyH.cons (o := ⟨_, _, _, _, _, _⟩) rfl (fun Kx hKx => ?_) AllReadyH.nil
  go_simp
  go_at_call 146
  rw [HWP.out]
  refine (HW.out).mono ?_
  rintro e9 w7 ⟨ee, rfl, kd2, hcase⟩
  have KD := Lib.hid kd2
  have FIN : Hid (LayO base D P x M bS bm cS d n K2 tb ot parts slot vp SK ⟨id, x.ep + 1, kd, s⟩ nxt (.returned (.int .i64 ee)) u w7) := Lib.hid ⟨ee, rfl, (KpS.of BD.out).trans kd2, hcase⟩
  clear hcase kd2 HW
  obtain ⟨q0, q4⟩ : w7.cell? ⟨P, 0, none⟩ = some (.pointer (some ⟨D, 0, none⟩)) ∧ w7.cell? ⟨P, 1026, none⟩ = some (.int .i64 x.ep) := by
    obtain ⟨A, eA, hA⟩ := MD.out.boxed (KD.out.blk MD.out.plt MD.out.pd)
    exact ⟨(Lib.cell_of_heap eA _).trans hA.c0, (Lib.cell_of_heap eA _).trans hA.ce⟩
  refine hKx.out _ _ ⟨q0, q4⟩ (fun hHeld => ?_)
  clear hKx Kx q0 q4
  try simp only [Act.put, List.setIfInBounds_toArray, List.set_cons_zero, List.set_cons_succ]
  first | refine tq0 14 rfl ?_ | refine tq1 14 rfl ?_
  try go_frame
  refine wpAnyH_done (by kernel_rfl) ?_ _
  clear hHeld
  go_wp2_with fail
  go_ret
  exact FIN.out
end

end Go.Proofs.YtdpmpmaepjgndaaGreat
