/- What a store calls: pages written and read, its map. The program's tables: which pages are there, up to which one, a blank one. The program's store: whether it works, which pages are there, its epoch, which payloads it takes, its spare slot. The program's store lays a physical page of its next root. The program's pool in memory: a struct, and a row of frames, over a store. -/
import Derived.BigQuiet
import Derived.Deep.WholeRow
import Derived.Shelf.SlicesQ.Load
import Derived.Test.YtmflkkkbahghgaaGreatYZ14
import Derived.Test.YtmflkkkbahghgaaGreatYZ15
import Derived.Test.YtmflkkkbahghgaaGreatYZ2
namespace Go.Proofs.YtmflkkkbahghgaaGreat
open Go.RowKit Go.Deep
set_option linter.unusedVariables false
set_option linter.unusedSimpArgs false
set_option maxRecDepth 100000

theorem wr_armed {d : Dk} (hd : d.down = false) (s : ByteArray) (a : Nat) : ∀ i, a + i ≤ d.n → (wrN d s (a : Int) i).2 ≠ 0 → d.arm ≠ 0
  | 0, _, h => absurd rfl h
  | i + 1, hn, h => by
    simp only [wrN] at h
    by_cases c : (wrN d s (a : Int) i).2 = 0
    · rw [if_pos c] at h
      obtain ⟨h1, _⟩ := wr_done hd s a i c
      have hz := wr_n d s (a : Int) i
      obtain ⟨_, g1, _⟩ := write_fell (quart s i) h1 (by omega) (by rw [hz]; omega) h
      have := (wr_bd d s (a : Int) i).2
      omega
    · exact wr_armed hd s a i (by omega) c
theorem writeP_armed {d : Dk} (hd : d.down = false) {p : Pg} (hm : p.id < manyP (d.n : Int)) (hp : putE p = 0) (h : (writeP d p).2 ≠ 0) : d.arm ≠ 0 := by
  have h0 := (putE_zero.1 hp).1.1
  have hin := many_in hm h0
  obtain ⟨a, ha⟩ : ∃ a : Nat, (a : Int) = 2 + 4 * p.id := ⟨(2 + 4 * p.id).toNat, by omega⟩
  have e : writeP d p = wrN d (putS p) (a : Int) 4 := by
    unfold writeP
    rw [if_pos hp, if_neg (by omega), ha]
  rw [e] at h
  exact wr_armed hd (putS p) a 4 (by omega) h
section
variable {base D P M bS bm cS n : Nat} {d : Dk} {x : Stt} {K K2 : Nat → Nat} {tb : Nat → Int} {ep : Int} {slot : Nat} {ot parts : List Int} {vp : Value} {SK : Nat → Bool} {u : World}
/-- a page that is free or fresh by what was held is written -/
theorem sto_write {tb0 : Nat → Int} (m : StoM base D P M bS bm cS d n K2 ep slot tb ot parts vp SK u) (h : HoldP d x n K tb0 ot parts slot) (hn : d.n ≤ 4096) (hc : d.calls < 950000) (ha : d.arm ≤ 9223372036854775807) (p : Pg) (hE : putE p = 0) (hm : p.id < (n : Int)) (hk : K p.id.toNat = 0 ∨ K p.id.toNat = 2) (nxt : List Slt) :
    Calls Tryz.prog 172 #[.pointer (some ⟨D, 0, none⟩), .agg #[.int .i64 p.id, .int .i64 p.ep, .int .i64 p.kd, .string p.pay]] u fun r u' => ∃ e, r = .returned (.int .i64 e) ∧ KpS (P3 D bS bm) u u' ∧
      ((e = 0 ∧ (writeP d p).2 = 0 ∧ StoM base D P M bS bm cS (writeP d p).1 n K2 ep slot tb ot parts vp SK u') ∨
       (e = 13 ∧ (writeP d p).2 ≠ 0 ∧ d.arm ≠ 0 ∧ StoM base D P M bS bm cS (writeP d p).1 n K2 ep slot tb ot parts vp SK u' ∧ FallP (writeP d p).1 x nxt ∧ (writeP d p).1.calls ≤ d.calls + 4 ∧ (writeP d p).1.n ≤ 4096)) := by
  have hps : p.pay.size ≤ 9223372036854775807 := by
    have := (putE_zero.1 hE).2
    omega
  refine (ppwrite_any m.dk hn hc ha p hps).mono ?_
  rintro r u' ⟨hr, hd, k⟩
  refine ⟨_, hr, k, ?_⟩
  by_cases he : (writeP d p).2 = 0
  · exact .inl ⟨he, he, m.disk hd (.inl rfl) k⟩
  · obtain ⟨e1, e2⟩ := h.fell hE hm hk he nxt
    exact .inr ⟨e1, he, writeP_armed h.dn (by have := h.mn.2.2; omega) hE he, m.disk hd (.inl rfl) k, e2, (writeP_bd d p).1, by rw [writeP_n]; exact hn⟩
/-- a free page is taken, if there is one -/
theorem sto_take (m : StoM base D P M bS bm cS d n K ep slot tb ot parts vp SK u) (hn : n ≤ 1024) : Calls Tryz.prog 136 #[.pointer (some ⟨M, 0, none⟩)] u fun r u' => r = .returned (.tuple #[.int .i64 (takeI n K), .int .i64 (takeE n K)]) ∧ ∃ SK2, (∀ k, SK2 k = true → SK k = true ∨ u.heap.size ≤ k) ∧ KpS SK u u' ∧ StoM base D P M bS bm cS d n (takeF n K) ep slot tb ot parts vp SK2 u' := by
  refine (ptake12_any m.mp hn).mono ?_
  rintro r u' ⟨hr, S2, h1, h2, k⟩
  exact ⟨hr, S2, h1, k, m.map h2 h1 k⟩
theorem sto_leave (m : StoM base D P M bS bm cS d n K ep slot tb ot parts vp SK u) (hn : n ≤ 1024) (i : Int) : Calls Tryz.prog 121 #[.pointer (some ⟨M, 0, none⟩), .int .i64 i] u fun r u' => r = .returned (.int .i64 (leaveE n K i)) ∧ ∃ SK2, (∀ k, SK2 k = true → SK k = true ∨ u.heap.size ≤ k) ∧ KpS SK u u' ∧ StoM base D P M bS bm cS d n (leaveF n K i) ep slot tb ot parts vp SK2 u' := by
  refine (pleave12_any m.mp hn i).mono ?_
  rintro r u' ⟨hr, S2, h1, h2, k⟩
  exact ⟨hr, S2, h1, k, m.map h2 h1 k⟩
theorem sto_abort (m : StoM base D P M bS bm cS d n K ep slot tb ot parts vp SK u) (hn : n ≤ 1024) : Calls Tryz.prog 99 #[.pointer (some ⟨M, 0, none⟩)] u fun r u' => r = .returned (.bool true) ∧ ∃ SK2, (∀ k, SK2 k = true → SK k = true ∨ u.heap.size ≤ k) ∧ KpS SK u u' ∧ StoM base D P M bS bm cS d n (turnF K 0 1) ep slot tb ot parts vp SK2 u' := by
  refine (pabort12_any m.mp hn).mono ?_
  rintro r u' ⟨hr, S2, h1, h2, k⟩
  exact ⟨hr, S2, h1, k, m.map h2 h1 k⟩
theorem sto_commit (m : StoM base D P M bS bm cS d n K ep slot tb ot parts vp SK u) (hn : n ≤ 1024) : Calls Tryz.prog 139 #[.pointer (some ⟨M, 0, none⟩)] u fun r u' => r = .returned (.bool true) ∧ ∃ SK2, (∀ k, SK2 k = true → SK k = true ∨ u.heap.size ≤ k) ∧ KpS SK u u' ∧ StoM base D P M bS bm cS d n (turnF K 1 0) ep slot tb ot parts vp SK2 u' := by
  refine (pcommit12_any m.mp hn).mono ?_
  rintro r u' ⟨hr, S2, h1, h2, k⟩
  exact ⟨hr, S2, h1, k, m.map h2 h1 k⟩
/-- the disk is synced -/
theorem sto_sync (m : StoM base D P M bS bm cS d n K ep slot tb ot parts vp SK u) (hb : BdD d) : Calls Tryz.prog 67 #[.pointer (some ⟨D, 0, none⟩)] u fun r u' => r = .returned (.int .i64 (syncE d)) ∧ KpS (P3 D bS bm) u u' ∧ ∃ bm2, NewOr bm u bm2 ∧ PDk base D bS bm2 cS (syncD d) u' ∧ StoM base D P M bS bm2 cS (syncD d) n K ep slot tb ot parts vp SK u' := by
  refine (psyncB_any m.dk hb).mono ?_
  rintro r u' ⟨hr, ⟨bm2, ho, _, hd⟩, k⟩
  exact ⟨hr, k, bm2, ho, hd, m.disk hd ho k⟩
end

end Go.Proofs.YtmflkkkbahghgaaGreat
namespace Go.Proofs.YtmflkkkbahghgaaGreat
open Go.RowKit Go.Deep
set_option linter.unusedVariables false
set_option linter.unusedSimpArgs false
set_option maxRecDepth 100000

def hasT (f : Nat → Int) (l : Int) : Bool := decide (0 ≤ l ∧ l < 512 ∧ f l.toNat ≠ -1)
/-- up to the last one that is there -/
def trimT (f : Nat → Int) : Nat → Nat
  | 0 => 0
  | n + 1 => if f n = -1 then trimT f n else n + 1
section
variable {q o : Nat} {f : Nat → Int} {u : World}
theorem thas_any (h : TabC q o f u) (l : Int) : Calls Tryz.prog 155 #[.pointer (some ⟨q, o, none⟩), .int .i64 l] u fun r u' => r = .returned (.bool (hasT f l)) ∧ u' = u := by
  by_cases h0 : 0 ≤ l
  · have d0 : decide (0 ≤ l) = true := by simp [h0]
    by_cases h1 : l < 512
    · have d1 : decide (l < 512) = true := by simp [h1]
      obtain ⟨k, rfl⟩ : ∃ k : Nat, l = (k : Int) := ⟨l.toNat, by omega⟩
      have hk : k < 512 := by omega
      have hc := h.cell hk
      have hc2 : u.cell? ⟨q, k + o, none⟩ = some (.int .i64 (f k)) := by rw [Nat.add_comm]; exact hc
      have E : Hid (hasT f (k : Int) = !decide (f k = -1)) := Lib.hid (by
        unfold hasT
        rw [Int.toNat_natCast]
        by_cases c : f k = -1
        · rw [decide_eq_false (fun h => h.2.2 c), decide_eq_true c]; rfl
        · rw [decide_eq_true ⟨h0, h1, c⟩, decide_eq_false c]; rfl)
      generalize f k = z at *
      have g0 : (0 : Int) ≤ (k : Int) := h0
      have g1 : (k : Int) < 512 := h1
      clear h h0 h1 hk
      go_enter Tryz.func155, Tryz.ntmps155
      go_wp2_with fail
      go_ret
      exact ⟨by rw [E.out]; by_cases c : z = -1 <;> simp [c], rfl⟩
    · have d1 : decide (l < 512) = false := by simp; omega
      have E : Hid (hasT f l = false) := Lib.hid (decide_eq_false fun hi => h1 hi.2.1)
      clear h1 h
      go_enter Tryz.func155, Tryz.ntmps155
      go_wp2_with fail
      go_ret
      exact ⟨by rw [E.out]; rfl, rfl⟩
  · have d0 : decide (0 ≤ l) = false := by simp; omega
    have E : Hid (hasT f l = false) := Lib.hid (decide_eq_false fun hi => h0 hi.1)
    clear h0 h
    go_enter Tryz.func155, Tryz.ntmps155
    go_wp2_with fail
    go_ret
    exact ⟨by rw [E.out]; rfl, rfl⟩
set_option maxHeartbeats 800000 in
theorem tend_any (h : TabC q o f u) : Calls Tryz.prog 88 #[.pointer (some ⟨q, o, none⟩)] u fun r u' => r = .returned (.int .i64 (trimT f 512 : Nat)) ∧ u' = u := by
  obtain ⟨T, hT⟩ : ∃ T, T = trimT f 512 := ⟨_, rfl⟩
  rw [← hT]
  have HT := Lib.hid hT
  have HH := Lib.hid h
  clear h hT
  go_enter Tryz.func88, Tryz.ntmps88
  go_wp2_with fail
  go_loop [3] (fun i => ∃ j : Nat, j ≤ 512 ∧ i = .int .i64 j ∧ Hid (T = trimT f j)) (fun i => (intOf i).toNat)
  case atStart => exact ⟨512, Nat.le_refl _, rfl, HT⟩
  case round =>
    obtain ⟨j, hj, rfl, HJ⟩ := hrel
    rcases Nat.eq_zero_or_pos j with rfl | hp
    · have E : Hid (T = 0) := HJ
      have d1 : decide ((0 : Int) < ((0 : Nat) : Int)) = false := by decide
      go_wp2_with fail
      go_ret
      exact ⟨by rw [E.out]; rfl, rfl⟩
    · obtain ⟨k, rfl⟩ : ∃ k, j = k + 1 := ⟨j - 1, by omega⟩
      have d1 : decide ((0 : Int) < ((k + 1 : Nat) : Int)) = true := by rw [decide_eq_true_eq]; omega
      have hk : k < 512 := by omega
      have hc := HH.out.cell hk
      have hc2 : u.cell? ⟨q, k + o, none⟩ = some (.int .i64 (f k)) := by rw [Nat.add_comm]; exact hc
      have e1 : ((k + 1 : Nat) : Int) - 1 = (k : Int) := by omega
      have HK := Lib.hid hk
      by_cases c : f k = -1
      · have E : Hid (T = trimT f k) := Lib.hid (by rw [HJ.out]; simp only [trimT]; rw [if_pos c])
        rw [c] at hc hc2
        clear c
        go_wp2_with fail
        go_round
        case rel => have := HK.out; exact ⟨k, by omega, by go_num, E⟩
        case measure => simp [intOf]
      · have E : Hid (T = k + 1) := Lib.hid (by rw [HJ.out]; simp only [trimT]; rw [if_neg c])
        have d2 : decide (f k = -1) = false := by simp [c]
        have d3 : (f k == -1) = false := by simp [c]
        generalize f k = z at *
        go_wp2_with fail
        go_ret
        exact ⟨by rw [E.out]; rfl, rfl⟩
end

end Go.Proofs.YtmflkkkbahghgaaGreat
namespace Go.Proofs.YtmflkkkbahghgaaGreat
open Go.RowKit Go.Deep
set_option linter.unusedVariables false
set_option linter.unusedSimpArgs false
set_option maxRecDepth 100000

section
variable {base D P M bS bm cS n : Nat} {d : Dk} {K : Nat → Nat} {ep : Int} {slot : Nat} {tb : Nat → Int} {ot parts : List Int} {vp : Value} {SK : Nat → Bool} {u u2 : World}
theorem sup_any (h : StoM base D P M bS bm cS d n K ep slot tb ot parts vp SK u) : Calls Tryz.prog 87 #[.pointer (some ⟨P, 0, none⟩)] u fun r u' => r = .returned (.int .i64 0) ∧ u' = u := by
  obtain ⟨c0, c3, c4, c5, c6, c7, cf⟩ := h.look
  clear h c0 c3 c4 c5 c6 cf
  go_enter Tryz.func87, Tryz.ntmps87
  go_wp2_with fail
  go_ret
  exact ⟨rfl, rfl⟩
theorem sat_any (h : StoM base D P M bS bm cS d n K ep slot tb ot parts vp SK u) (l : Int) : Calls Tryz.prog 120 #[.pointer (some ⟨P, 0, none⟩), .int .i64 l] u fun r u' => r = .returned (.int .i64 (if hasT tb l = true then 0 else 3)) ∧ u' = u := by
  have HU := Lib.hid (sup_any h)
  have HT := Lib.hid (thas_any h.now l)
  clear h
  cases hc : hasT tb l with
  | true =>
    rw [hc] at HT
    rw [if_pos rfl]
    clear hc
    go_enter Tryz.func120, Tryz.ntmps120
    go_wp2_with fail
    refine (HU.out).mono ?_
    rintro e w1 ⟨rfl, hw⟩
    rw [hw]
    clear hw w1
    go_wp2_with fail
    refine (HT.out).mono ?_
    rintro e w1 ⟨rfl, hw⟩
    rw [hw]
    clear hw w1
    go_wp2_with fail
    go_ret
    exact ⟨rfl, rfl⟩
  | false =>
    rw [hc] at HT
    rw [if_neg (by decide)]
    clear hc
    go_enter Tryz.func120, Tryz.ntmps120
    go_wp2_with fail
    refine (HU.out).mono ?_
    rintro e w1 ⟨rfl, hw⟩
    rw [hw]
    clear hw w1
    go_wp2_with fail
    refine (HT.out).mono ?_
    rintro e w1 ⟨rfl, hw⟩
    rw [hw]
    clear hw w1
    go_wp2_with fail
    go_ret
    exact ⟨rfl, rfl⟩
theorem stakes_any (h : StoM base D P M bS bm cS d n K ep slot tb ot parts vp SK u) (s : ByteArray) : Calls Tryz.prog 101 #[.pointer (some ⟨P, 0, none⟩), .string s] u fun r u' => r = .returned (.int .i64 (if 232 < s.size then 4 else 0)) ∧ u' = u := by
  have HU := Lib.hid (sup_any h)
  clear h
  by_cases hbig : 232 < s.size
  · have dbig : decide ((232 : Int) < (s.size : Int)) = true := by simp; omega
    rw [if_pos hbig]
    clear hbig
    go_enter Tryz.func101, Tryz.ntmps101
    go_wp2_with fail
    refine (HU.out).mono ?_
    rintro e w1 ⟨rfl, hw⟩
    rw [hw]
    clear hw w1
    go_wp2_with fail
    go_ret
    exact ⟨rfl, rfl⟩
  · have dbig : decide ((232 : Int) < (s.size : Int)) = false := by simp; omega
    rw [if_neg hbig]
    clear hbig
    go_enter Tryz.func101, Tryz.ntmps101
    go_wp2_with fail
    refine (HU.out).mono ?_
    rintro e w1 ⟨rfl, hw⟩
    rw [hw]
    clear hw w1
    go_wp2_with fail
    go_ret
    exact ⟨rfl, rfl⟩
theorem sspare_any (h : StoM base D P M bS bm cS d n K ep slot tb ot parts vp SK u) (hs : slot = 0 ∨ slot = 1) : Calls Tryz.prog 138 #[.pointer (some ⟨P, 0, none⟩)] u fun r u' => r = .returned (.int .i64 ((1 - slot : Nat) : Int)) ∧ u' = u := by
  obtain ⟨c0, c3, c4, c5, c6, c7, cf⟩ := h.look
  have e : ((1 - slot : Nat) : Int) = 1 - (slot : Int) := by omega
  have e0 : 0 ≤ 1 - (slot : Int) ∧ 1 - (slot : Int) ≤ 1 := by omega
  clear h c0 c3 c4 c6 c7 cf hs
  rw [e]
  go_enter Tryz.func138, Tryz.ntmps138
  go_wp2_with fail
  go_ret
  exact ⟨rfl, rfl⟩
end
section
variable {base D P a : Nat} {x : Stt} {M bS bm cS : Nat} {d : Dk} {n : Nat} {K : Nat → Nat} {tb : Nat → Int} {ot parts : List Int} {slot : Nat} {vp : Value} {SK : Nat → Bool} {u u2 : World}
theorem PmAt.has (h : PmAt base D P x a M bS bm cS d n K tb ot parts slot vp SK u) (hx : OkX x) (l : Int) : (hasT tb l = true) = inS x.now l := by
  unfold hasT inS
  rw [decide_eq_true_eq]
  apply propext
  have := h.at_ l.toNat
  constructor
  · rintro ⟨h1, h2, h3⟩; exact ⟨h1, this.1.2 h3⟩
  · rintro ⟨h1, h2⟩; exact ⟨h1, by have := lt512 hx h2; omega, this.1.1 h2⟩
end

end Go.Proofs.YtmflkkkbahghgaaGreat
namespace Go.Proofs.YtmflkkkbahghgaaGreat
open Go.RowKit Go.Deep
set_option linter.unusedVariables false
set_option linter.unusedSimpArgs false
set_option maxRecDepth 100000

section
variable {base D P a : Nat} {x : Stt} {M bS bm cS : Nat} {d : Dk} {n : Nat} {K K2 : Nat → Nat} {tb tb0 : Nat → Int} {ot parts : List Int} {slot : Nat} {vp : Value} {SK : Nat → Bool} {u u2 : World}
theorem newB_map {SK2 : Nat → Bool} (h : ∀ k, SK2 k = true → SK k = true ∨ u.heap.size ≤ k) : NewB (stoS P D bS bm SK vp) (stoS P D bS bm SK2 vp) u := by
  intro k hk
  rcases stoS_iff.1 hk with h1 | h1 | h1 | h1
  · exact .inl (stoS_iff.2 (.inl h1))
  · exact .inl (stoS_iff.2 (.inr (.inl h1)))
  · exact (h k h1).imp (fun h => stoS_iff.2 (.inr (.inr (.inl h)))) id
  · exact .inl (stoS_iff.2 (.inr (.inr (.inr h1))))
theorem NewB.then {S S2 S3 : Nat → Bool} {w w2 : World} (h : NewB S S2 w) (k : NewB S2 S3 w2) (hs : w.heap.size ≤ w2.heap.size) : NewB S S3 w := fun q hq => by
  rcases k q hq with h1 | h1
  · exact h q h1
  · exact .inr (by omega)
/-- what is written in new blocks of the later set was new -/
theorem kps_new {S S2 : Nat → Bool} {w w2 w3 : World} (hn : NewB S S2 w) (k1 : KpS S w w2) (k2 : KpS S2 w2 w3) : KpS S w w3 := by
  have k1' : Below w.heap.size (HdS S w) (HdS S w2) := k1
  have k2' : Below w2.heap.size (HdS S2 w2) (HdS S2 w3) := k2
  refine ⟨k2'.os.trans k1'.os, k2'.tape.trans k1'.tape, k2'.output.trans k1'.output, by rw [HdS.size, HdS.size]; exact Nat.le_trans k1.size k2.size, fun q hq => ?_⟩
  cases c : S q with
  | true => exact HdS.hid c hq (Nat.lt_of_lt_of_le hq (Nat.le_trans k1.size k2.size))
  | false =>
    rw [HdS.other _ c, HdS.other _ c]
    have e2 : S2 q = false := by
      cases c2 : S2 q with
      | false => rfl
      | true => rcases hn q c2 with h1 | h1
                · rw [c] at h1; cases h1
                · omega
    exact (k2.blk (Nat.lt_of_lt_of_le hq k1.size) e2).trans (k1.blk hq c)
theorem put_ok {x : Stt} (hx : OkX x) {p : Int} (h0 : 0 ≤ p) {s : ByteArray} (hs : s.size ≤ 232) : putE ⟨p, x.ep + 1, 2, s⟩ = 0 := by
  have := hx.ep
  exact putE_zero.2 ⟨⟨h0, by show 0 ≤ x.ep + 1; omega, by show x.ep + 1 ≤ _; omega, by show (0 : Int) ≤ 2; omega, by show (2 : Int) ≤ _; omega⟩, hs⟩
/-- what lay leaves -/
def LayO (base D P : Nat) (x : Stt) (M bS bm cS : Nat) (d : Dk) (n : Nat) (K : Nat → Nat) (tb : Nat → Int) (ot parts : List Int) (slot : Nat) (vp : Value) (SK : Nat → Bool) (p : Pg) (nxt : List Slt) (r : Ending) (u u' : World) : Prop :=
  ∃ e, r = .returned (.int .i64 e) ∧ KpS (P3 D bS bm) u u' ∧
      ((e = 0 ∧ (writeP d p).2 = 0 ∧ StoM base D P M bS bm cS (writeP d p).1 n K x.ep slot tb ot parts vp SK u') ∨
       (e = 13 ∧ (writeP d p).2 ≠ 0 ∧ d.arm ≠ 0 ∧ StoM base D P M bS bm cS (writeP d p).1 n K x.ep slot tb ot parts vp SK u' ∧ FallP (writeP d p).1 x nxt ∧ (writeP d p).1.calls ≤ d.calls + 4 ∧ (writeP d p).1.n ≤ 4096))
set_option maxHeartbeats 800000 in
theorem slay_any (m : StoM base D P M bS bm cS d n K2 x.ep slot tb ot parts vp SK u) (h : HoldP d x n K tb0 ot parts slot) (hn : d.n ≤ 4096) (hc : d.calls < 950000) (ha : d.arm ≤ 9223372036854775807) (hx : OkX x) (id kd : Int) (s : ByteArray) (hE : putE ⟨id, x.ep + 1, kd, s⟩ = 0) (hm : id < (n : Int)) (hk : K id.toNat = 0 ∨ K id.toNat = 2) (nxt : List Slt) :
    Calls Tryz.prog 144 #[.pointer (some ⟨P, 0, none⟩), .int .i64 id, .int .i64 kd, .string s] u fun r u' => LayO base D P x M bS bm cS d n K2 tb ot parts slot vp SK ⟨id, x.ep + 1, kd, s⟩ nxt r u u' := by
  have hxe := hx.ep
  have hep : -9223372036854775808 ≤ x.ep + 1 ∧ x.ep + 1 ≤ 9223372036854775807 := by omega
  have HWP : Hid (IntKind.i64.wrap (x.ep + 1) = x.ep + 1) := Lib.hid (by rw [IntKind.wrap_i64]; omega)
  have H := Lib.hid h
  have MM := Lib.hid m
  have HE := Lib.hid hE
  have HK := Lib.hid hk
  have HM := Lib.hid hm
  have HA := Lib.hid (And.intro hn (And.intro hc ha))
  obtain ⟨c0, c3, c4, c5, c6, c7, cf⟩ := m.look
  clear m h hE hk hm hn hc ha hx hxe c3 c5 c6 c7
  go_enter Tryz.func144, Tryz.ntmps144
  go_upto_region 1 with fail
  refine wp_region_held_drew (S := (fun w' => w'.cell? ⟨P, 0, none⟩ = some (.pointer (some ⟨D, 0, none⟩)) ∧ w'.cell? ⟨P, 1026, none⟩ = some (.int .i64 x.ep))) (by kernel_rfl) ⟨c0, c4⟩ (fun hHeld => ?_)
  change wpAnyH _ _ _ _ _ _ _ _ (World.drew u)
  have MD := Lib.hid (MM.out.below (bdrew u))
  have BD := Lib.hid (bdrew u)
  clear c0 c4 cf
  generalize World.drew u = wd at *
  first | refine tq0 0 rfl ?_ | refine tq1 0 rfl ?_
  try go_frame
  first | refine tq0 1 rfl ?_ | refine tq1 1 rfl ?_
  try go_frame
  first | refine tq0 2 rfl ?_ | refine tq1 2 rfl ?_
  try go_frame
  first | refine tq0 3 rfl ?_ | refine tq1 3 rfl ?_
  try go_frame
  first | refine tq0 4 rfl ?_ | refine tq1 4 rfl ?_
  try go_frame
  first | refine tq0 5 rfl ?_ | refine tq1 5 rfl ?_
  try go_frame
  first | refine tq0 6 rfl ?_ | refine tq1 6 rfl ?_
  try go_frame
  first | refine tq0 7 rfl ?_ | refine tq1 7 rfl ?_
  try go_frame
  first | refine tq0 8 rfl ?_ | refine tq1 8 rfl ?_
  try go_frame
  first | refine tq0 9 rfl ?_ | refine tq1 9 rfl ?_
  try go_frame
  first | refine tq0 10 rfl ?_ | refine tq1 10 rfl ?_
  try go_frame
  first | refine tq0 11 rfl ?_ | refine tq1 11 rfl ?_
  try go_frame
  first | refine tq0 12 rfl ?_ | refine tq1 12 rfl ?_
  try go_frame
  have HW := Lib.hid (sto_write MD.out H.out HA.out.1 HA.out.2.1 HA.out.2.2 ⟨id, x.ep + 1, kd, s⟩ HE.out HM.out HK.out nxt)
  dsimp only at HW
  refine wpAnyH_ready (rs := [13]) (by kernel_rfl) (by simp) ?_
  refine AllReadyH.cons (o := ⟨_, _, _, _, _, _⟩) rfl (fun Kx hKx => ?_) AllReadyH.nil
  go_simp
  go_at_call 172
  rw [HWP.out]
  refine (HW.out).mono ?_
  rintro e9 w7 ⟨ee, rfl, kd2, hcase⟩
  have KD := Lib.hid kd2
  have FIN : Hid (LayO base D P x M bS bm cS d n K2 tb ot parts slot vp SK ⟨id, x.ep + 1, kd, s⟩ nxt (.returned (.int .i64 ee)) u w7) := Lib.hid ⟨ee, rfl, (KpS.of BD.out).trans kd2, hcase⟩
  clear hcase kd2 HW
  obtain ⟨q0, q4⟩ : w7.cell? ⟨P, 0, none⟩ = some (.pointer (some ⟨D, 0, none⟩)) ∧ w7.cell? ⟨P, 1026, none⟩ = some (.int .i64 x.ep) := by
    obtain ⟨A, eA, hA⟩ := MD.out.boxed (KD.out.blk MD.out.plt MD.out.pd)
    exact ⟨(Lib.cell_of_heap eA _).trans hA.c0, (Lib.cell_of_heap eA _).trans hA.ce⟩
  refine hKx.out _ _ ⟨q0, q4⟩ (fun hHeld => ?_)
  clear hKx Kx q0 q4
  try simp only [Act.put, List.setIfInBounds_toArray, List.set_cons_zero, List.set_cons_succ]
  first | refine tq0 14 rfl ?_ | refine tq1 14 rfl ?_
  try go_frame
  refine wpAnyH_done (by kernel_rfl) ?_ _
  clear hHeld
  go_wp2_with fail
  go_ret
  exact FIN.out
end

end Go.Proofs.YtmflkkkbahghgaaGreat
namespace Go.Proofs.YtmflkkkbahghgaaGreat
open Go.RowKit Go.Deep
set_option linter.unusedVariables false
set_option linter.unusedSimpArgs false
set_option maxRecDepth 100000

def pgN (x : Frm) : Int := if 0 ≤ x.pg then x.pg else 0
def fullB (x : Frm) : Bool := decide (0 ≤ x.pg)
def payL (b : ByteArray) : List Value := (List.range 232).map fun k => .int .u8 (byD b k)
theorem payL_len (b : ByteArray) : (payL b).length = 232 := by simp [payL]
theorem payL_size (b : ByteArray) : (payL b).toArray.size = 232 := by simp [payL]
theorem payL_at (b : ByteArray) {j : Nat} (h : j < (payL b).length) : (payL b)[j] = .int .u8 (byD b j) := by simp [payL]
theorem payL_one (b : ByteArray) : ∀ v ∈ payL b, v.oneCell' = true := by
  intro v hv
  obtain ⟨j, _, rfl⟩ := List.mem_map.1 hv
  rfl
/-- a frame's cells -/
def fmV (x : Frm) (j : Nat) : Value := if j < 2 then (if j = 0 then .bool (fullB x) else .int .i64 (pgN x)) else if j < 234 then .int .u8 (byD x.b (j - 2)) else if j = 234 then .int .i64 (x.held : Int) else if j = 235 then .bool x.di else .bool x.us
theorem fmV_0 (x : Frm) : fmV x 0 = .bool (fullB x) := rfl
theorem fmV_1 (x : Frm) : fmV x 1 = .int .i64 (pgN x) := rfl
theorem fmV_pay (x : Frm) {j : Nat} (h : j < 232) : fmV x (2 + j) = .int .u8 (byD x.b j) := by
  unfold fmV
  rw [if_neg (by omega), if_pos (by omega), show 2 + j - 2 = j by omega]
/-- two frames' cells are the same, if their parts are -/
theorem fmV_cases {P : Nat → Prop} (h0 : P 0) (h1 : P 1) (h2 : ∀ k, k < 232 → P (2 + k)) (h3 : P 234) (h4 : P 235) (h5 : P 236) : ∀ j, j < 237 → P j := by
  intro j hj
  by_cases c0 : j = 0
  · subst c0; exact h0
  · by_cases c1 : j = 1
    · subst c1; exact h1
    · by_cases c2 : j < 234
      · have := h2 (j - 2) (by omega)
        rwa [show 2 + (j - 2) = j by omega] at this
      · by_cases c3 : j = 234
        · subst c3; exact h3
        · by_cases c4 : j = 235
          · subst c4; exact h4
          · obtain rfl : j = 236 := by omega
            exact h5
def fmG (f : List Frm) : Nat → Nat → Value := fun i j => fmV (frA f i) j
abbrev QRow (F n : Nat) (f : List Frm) (c : Nat) (u : World) : Prop := RowB 82 237 F (fmG f) n (.slice (some ⟨F, 0, none⟩) n c) u
section
variable {F n c i : Nat} {f : List Frm} {u : World}
theorem QRow.cells (h : QRow F n f c u) (hi : i < n) : u.cell? ⟨F, i * 237, none⟩ = some (.bool (fullB (frA f i))) ∧ u.cell? ⟨F, i * 237 + 1, none⟩ = some (.int .i64 (pgN (frA f i))) ∧ u.cell? ⟨F, i * 237 + 234, none⟩ = some (.int .i64 ((frA f i).held : Int)) ∧ u.cell? ⟨F, i * 237 + 235, none⟩ = some (.bool (frA f i).di) ∧ u.cell? ⟨F, i * 237 + 236, none⟩ = some (.bool (frA f i).us) := by
  have x0 := h.c i hi 0 (by omega)
  rw [Nat.add_zero] at x0
  exact ⟨x0, h.c i hi 1 (by omega), h.c i hi 234 (by omega), h.c i hi 235 (by omega), h.c i hi 236 (by omega)⟩
/-- one cell is written -/
theorem QRow.set1 (h : QRow F n f c u) (hf : f.length = n) (hi : i < n) (x : Frm) (j : Nat) (hj : j < 237) (ho : ∀ k, k < 237 → k ≠ j → fmV x k = fmV (frA f i) k) : QRow F n (f.set i x) c (u.setCell ⟨F, i * 237 + j, none⟩ (fmV x j)) := by
  refine RowB.set1 h hi hj _ ?_ ?_
  · show fmV (frA (f.set i x) i) j = _
    rw [frA_set, if_pos ⟨rfl, by omega⟩]
  · intro i2 h2 j2 hj2 hne
    show fmV (frA (f.set i x) i2) j2 = fmV (frA f i2) j2
    rw [frA_set]
    split
    · next e => rw [e.1]; exact ho j2 hj2 fun e2 => hne ⟨e.1, e2⟩
    · rfl
/-- many cells are written -/
theorem QRow.sets (h : QRow F n f c u) (hf : f.length = n) (hi : i < n) (x : Frm) (o : Nat) (vs : List Value) (ho : o + vs.length ≤ 237) (h0 : ∀ k (hk : k < vs.length), fmV x (o + k) = vs[k]) (h1 : ∀ k, k < 237 → ¬ (o ≤ k ∧ k < o + vs.length) → fmV x k = fmV (frA f i) k) : QRow F n (f.set i x) c (u.setCells F (i * 237 + o) vs) := by
  refine RowB.sets h hi vs ho (fun k hk => ?_) (fun i2 h2 j hj hne => ?_)
  · show fmV (frA (f.set i x) i) (o + k) = _
    rw [frA_set, if_pos ⟨rfl, by omega⟩]
    exact h0 k hk
  · show fmV (frA (f.set i x) i2) j = fmV (frA f i2) j
    rw [frA_set]
    split
    · next e => rw [e.1]; exact h1 j hj fun e2 => hne ⟨e.1, e2⟩
    · rfl
theorem QRow.there (h : QRow F n f c u) (hi : i < n) (o m : Nat) (hm : o + m ≤ 237) : u.there F (i * 237 + o) m := RowB.there h hi o m hm
/-- a frame's payload -/
theorem QRow.pay (h : QRow F n f c u) (hi : i < n) : u.rangeAt F (i * 237 + 2) (payL (frA f i).b) := by
  intro j x hx
  have hj : j < (payL (frA f i).b).length := (List.getElem?_eq_some_iff.1 hx).1
  rw [List.getElem?_eq_getElem hj, payL_at] at hx
  rw [payL_len] at hj
  have := h.c i hi (2 + j) (by omega)
  rw [← Nat.add_assoc] at this
  rw [this, ← hx]
  exact congrArg some (fmV_pay (frA f i) hj)
/-- the same cells say the same frames -/
theorem QRow.frames {f2 : List Frm} (h : QRow F n f c u) (e : ∀ i, i < n → frA f2 i = frA f i) : QRow F n f2 c u := RowB.congr h fun i hi j hj => by
  show fmV (frA f2 i) j = fmV (frA f i) j
  rw [e i hi]
theorem set_self {f : List Frm} {i : Nat} : f.set i (frA f i) = f := by
  refine frA_ext List.length_set fun k hk => ?_
  rw [frA_set]
  split
  · next e => rw [e.1]
  · rfl
end

/-! ### the pool -/
def pqS (S : Nat → Bool) (Y F : Nat) : Nat → Bool := fun k => S k || k == Y || k == F
theorem pqS.s {S : Nat → Bool} {Y F k : Nat} (h : S k = true) : pqS S Y F k = true := by simp [pqS, h]
theorem pqS.y (S : Nat → Bool) (Y F : Nat) : pqS S Y F Y = true := by simp [pqS]
theorem pqS.f (S : Nat → Bool) (Y F : Nat) : pqS S Y F F = true := by simp [pqS]
theorem pqS.no {S : Nat → Bool} {Y F k : Nat} (h : S k = false) (h1 : k ≠ Y) (h2 : k ≠ F) : pqS S Y F k = false := by simp [pqS, h, h1, h2]
theorem pqS.inv {S : Nat → Bool} {Y F k : Nat} (h : pqS S Y F k = false) : S k = false ∧ k ≠ Y ∧ k ≠ F := by
  simp [pqS] at h
  exact ⟨h.1.1, h.1.2, h.2⟩
def O1 (b : Nat) : Nat → Bool := fun k => k == b
theorem O1.a (b : Nat) : O1 b b = true := by simp [O1]
theorem O1.no {b k : Nat} (h : k ≠ b) : O1 b k = false := by simp [O1, h]
/-- the program's pool in block Y, its frames in block F, its store in block P -/
structure PqAt (PM : StM) (base D P Y F c : Nat) (p : Plt) (S : Nat → Bool) (u : World) : Prop where
  st : PM base D P p.x 0 S u
  box : u.heap[Y]? = some (.cells #[.pointer (some ⟨P, 0, none⟩), .slice (some ⟨F, 0, none⟩) p.f.length c, .int .i64 (p.hand : Int)] 87 (0, 0))
  row : QRow F p.f.length p.f c u
  sy : S Y = false
  sf : S F = false
  ne : F ≠ Y
  lo : base ≤ Y ∧ base ≤ F
/-- what a call leaves -/
def PqTo (PM : StM) (base D P Y F c : Nat) (S : Nat → Bool) (p2 : Plt) (u u2 : World) : Prop := ∃ S2, PqAt PM base D P Y F c p2 S2 u2 ∧ NewB S S2 u ∧ KpS (pqS S Y F) u u2
section
variable {PM : StM} {PF PC : FlM} {base D P Y F c : Nat} {p p2 p3 : Plt} {S S2 T : Nat → Bool} {u u2 u3 : World}
theorem PqAt.lt (h : PqAt PM base D P Y F c p S u) : Y < u.heap.size ∧ F < u.heap.size := ⟨lt_of_block h.box, RowB.lt h.row⟩
theorem PqAt.kept (I : Sh14 PM PF PC) (h : PqAt PM base D P Y F c p S u) (hT : ∀ k, pqS S Y F k = true → T k = false) (k : KpS T u u2) : PqAt PM base D P Y F c p S u2 :=
  ⟨I.kept h.st (fun j hj => hT j (pqS.s hj)) k, (k.blk h.lt.1 (hT _ (pqS.y _ _ _))).trans h.box, RowB.kept h.row (k.blk h.lt.2 (hT _ (pqS.f _ _ _))), h.sy, h.sf, h.ne, h.lo⟩
theorem PqAt.below (I : Sh14 PM PF PC) (h : PqAt PM base D P Y F c p S u) (k : Below u.heap.size u u2) : PqAt PM base D P Y F c p S u2 := h.kept I (T := noB) (fun _ _ => rfl) (KpS.of k)
theorem PqAt.slo (I : Sh14 PM PF PC) (h : PqAt PM base D P Y F c p S u) : ∀ k, pqS S Y F k = true → base ≤ k ∧ k < u.heap.size := by
  intro k hk
  unfold pqS at hk
  simp only [Bool.or_eq_true, beq_iff_eq] at hk
  rcases hk with (hk | rfl) | rfl
  · exact I.lo h.st k hk
  · exact ⟨h.lo.1, h.lt.1⟩
  · exact ⟨h.lo.2, h.lt.2⟩
theorem PqAt.same (h : PqAt PM base D P Y F c p S u) : PqTo PM base D P Y F c S p u u := ⟨S, h, fun _ hk => .inl hk, KpS.refl _ _⟩
theorem PqAt.stays (I : Sh14 PM PF PC) (h : PqAt PM base D P Y F c p S u) (k : Below u.heap.size u u2) : PqTo PM base D P Y F c S p u u2 := ⟨S, h.below I k, fun _ hk => .inl hk, KpS.of k⟩
theorem newPq (h : NewB S S2 u) : NewB (pqS S Y F) (pqS S2 Y F) u := by
  intro k hk
  unfold pqS at hk ⊢
  simp only [Bool.or_eq_true, beq_iff_eq] at hk
  rcases hk with (hk | rfl) | rfl
  · rcases h k hk with c | c
    · exact .inl (by simp [c])
    · exact .inr c
  · exact .inl (by simp)
  · exact .inl (by simp)
theorem PqTo.trans (h : PqTo PM base D P Y F c S p2 u u2) (h2 : ∀ S2, PqAt PM base D P Y F c p2 S2 u2 → PqTo PM base D P Y F c S2 p3 u2 u3) : PqTo PM base D P Y F c S p3 u u3 := by
  obtain ⟨S2, a, n, k⟩ := h
  obtain ⟨S3, a3, n3, k3⟩ := h2 S2 a
  exact ⟨S3, a3, n.then n3 k.size, kps_new (newPq n) k k3⟩
theorem PqTo.size (h : PqTo PM base D P Y F c S p2 u u2) : u.heap.size ≤ u2.heap.size := by obtain ⟨_, _, _, k⟩ := h; exact k.size
theorem PqAt.cells (h : PqAt PM base D P Y F c p S u) : u.cell? ⟨Y, 0, none⟩ = some (.pointer (some ⟨P, 0, none⟩)) ∧ u.cell? ⟨Y, 1, none⟩ = some (.slice (some ⟨F, 0, none⟩) p.f.length c) ∧ u.cell? ⟨Y, 2, none⟩ = some (.int .i64 (p.hand : Int)) ∧ u.frozen? ⟨Y, 0, none⟩ = false ∧ u.frozen? ⟨Y, 1, none⟩ = false ∧ u.frozen? ⟨Y, 2, none⟩ = false := by
  refine ⟨?_, ?_, ?_, Lib.frozen_of_heap h.box 0, Lib.frozen_of_heap h.box 1, Lib.frozen_of_heap h.box 2⟩
  · rw [Lib.cell_of_heap h.box]; rfl
  · rw [Lib.cell_of_heap h.box]; rfl
  · rw [Lib.cell_of_heap h.box]; rfl
/-- other frames were written -/
theorem PqAt.wrote (I : Sh14 PM PF PC) (h : PqAt PM base D P Y F c p S u) {f2 : List Frm} (hl : f2.length = p.f.length) (k : KpS (O1 F) u u2) (hr : QRow F p.f.length f2 c u2) : PqTo PM base D P Y F c S { p with f := f2 } u u2 := by
  refine ⟨S, ⟨I.kept h.st (fun j hj => O1.no fun e => ?_) k, ?_, ?_, h.sy, h.sf, h.ne, h.lo⟩, fun _ hk => .inl hk, k.mono fun j hj => ?_⟩
  · rw [e, h.sf] at hj; cases hj
  · show u2.heap[Y]? = some (.cells #[_, .slice _ f2.length c, _] _ _)
    rw [hl]
    exact (k.blk h.lt.1 (O1.no fun e => h.ne e.symm)).trans h.box
  · show QRow F f2.length f2 c u2
    rw [hl]
    exact hr
  · have : j = F := by simpa [O1] using hj
    rw [this]
    exact pqS.f _ _ _
/-- another place of the hand -/
theorem PqAt.turn (I : Sh14 PM PF PC) (h : PqAt PM base D P Y F c p S u) (n : Nat) : PqTo PM base D P Y F c S { p with hand := n } u (u.setCell ⟨Y, 2, none⟩ (.int .i64 (n : Int))) := by
  have k : KpS (O1 Y) u (u.setCell ⟨Y, 2, none⟩ (.int .i64 (n : Int))) := KpS.set (O1.a Y) 2 _ u
  refine ⟨S, ⟨I.kept h.st (fun j hj => O1.no fun e => ?_) k, Joins.block_setCell (i := 2) h.box (.int .i64 (n : Int)), RowB.kept h.row (k.blk h.lt.2 (O1.no h.ne)), h.sy, h.sf, h.ne, h.lo⟩, fun _ hk => .inl hk, k.mono fun j hj => ?_⟩
  · rw [e, h.sy] at hj; cases hj
  · have : j = Y := by simpa [O1] using hj
    rw [this]
    exact pqS.y _ _ _
/-- the store wrote -/
theorem PqAt.stored (I : Sh14 PM PF PC) (h : PqAt PM base D P Y F c p S u) {x2 : Stt} (n : NewB S S2 u) (k : KpS S u u2) (hp : PM base D P x2 0 S2 u2) : PqTo PM base D P Y F c S { p with x := x2 } u u2 := by
  have no : ∀ j, j < u.heap.size → S j = false → S2 j = false := fun j hj hs => by
    cases q : S2 j with
    | false => rfl
    | true =>
      rcases n j q with h1 | h1
      · rw [hs] at h1; cases h1
      · omega
  exact ⟨S2, ⟨hp, (k.blk h.lt.1 h.sy).trans h.box, RowB.kept h.row (k.blk h.lt.2 h.sf), no _ h.lt.1 h.sy, no _ h.lt.2 h.sf, h.ne, h.lo⟩, n, k.mono fun j hj => pqS.s hj⟩
end
end Go.Proofs.YtmflkkkbahghgaaGreat
