/- What is asked of the program's map of pages (whatever it is made of), and both maps beside each other: a call of both. -/
import Derived.Test.YtbjmdejnipleoaaFmRef2
import Derived.Test.YtbjmdejnipleoaaTakeQ
import Derived.Deep.DeepCutAuto
namespace Go.Proofs.Ytbjmdejnipleoaa
open Go.RowKit Go.Deep
set_option linter.unusedVariables false
set_option linter.unusedSimpArgs false
set_option maxRecDepth 100000

abbrev PMap := Nat → Nat → Nat → (Nat → Nat) → (Nat → Bool) → World → Prop
/-- what a call that writes leaves: the map anew, in its own blocks or in new ones -/
def Post12 (PM : PMap) (base P n : Nat) (K2 : Nat → Nat) (S : Nat → Bool) (u u2 : World) : Prop := ∃ S2, (∀ k, S2 k = true → S k = true ∨ u.heap.size ≤ k) ∧ PM base P n K2 S2 u2 ∧ KpS S u u2
/-- a list of numbers in memory from b on -/
structure NewL (b : Nat) (l : List Nat) (v : Value) (u : World) : Prop where
  sl : Sl 1 (gK fun i => l.getD i 0) l.length v u
  lo : ∀ g, v.ownBlock = some g → b ≤ g ∧ g < u.heap.size
theorem NewL.below {b : Nat} {l : List Nat} {v : Value} {u u2 : World} (h : NewL b l v u) (k : Below u.heap.size u u2) : NewL b l v u2 := ⟨h.sl.below k, fun g hg => ⟨(h.lo g hg).1, Nat.lt_of_lt_of_le (h.lo g hg).2 k.size⟩⟩
theorem NewL.of {b : Nat} {l : List Nat} {v : Value} {u : World} (h : u.ownsRow b 3 1 v l.length (natV l)) : NewL b l v u := by
  rw [natV_row] at h
  exact ⟨own_sl h, fun g hg => h.lt g hg⟩
theorem NewL.kept {b : Nat} {l : List Nat} {v : Value} {u u2 : World} {S : Nat → Bool} (h : NewL b l v u) (hS : ∀ g, v.ownBlock = some g → S g = false) (k : KpS S u u2) : NewL b l v u2 := by
  obtain ⟨ao, cap, e, h1, h2, h3⟩ := h.sl
  refine ⟨⟨ao, cap, e, h1, h2, fun hn => ?_⟩, fun g hg => ⟨(h.lo g hg).1, Nat.lt_of_lt_of_le (h.lo g hg).2 k.size⟩⟩
  obtain ⟨b1, o, e1, hlt, hc⟩ := h3 hn
  have hb := k.blk hlt (hS b1 (by rw [e, e1]; rfl))
  exact ⟨b1, o, e1, Nat.lt_of_lt_of_le hlt k.size, fun i hi j hj => by rw [World.cell?_of_block hb]; exact hc i hi j hj⟩
structure Fm12 (PM : PMap) : Prop where
  below : ∀ {base P n : Nat} {K : Nat → Nat} {S : Nat → Bool} {u u2 : World}, PM base P n K S u → Below u.heap.size u u2 → PM base P n K S u2
  kept : ∀ {base P n : Nat} {K : Nat → Nat} {S T : Nat → Bool} {u u2 : World}, PM base P n K S u → (∀ k, S k = true → T k = false) → KpS T u u2 → PM base P n K S u2
  lo : ∀ {base P n : Nat} {K : Nat → Nat} {S : Nat → Bool} {u : World}, PM base P n K S u → ∀ k, S k = true → base ≤ k ∧ k < u.heap.size
  new : ∀ (n : Nat) (u : World), n ≤ 1024 → Calls Try.prog 21 #[.int .i64 (n : Int)] u fun r u' => ∃ P S, r = .returned (.tuple #[.pointer (some ⟨P, 0, none⟩), .int .i64 0]) ∧ PM u.heap.size P n (fun _ => 0) S u' ∧ Below u.heap.size u u'
  bad : ∀ (x : Int) (u : World), x < 0 ∨ 1024 < x → Calls Try.prog 21 #[.int .i64 x] u fun r u' => r = .returned (.tuple #[.pointer none, .int .i64 2]) ∧ Below u.heap.size u u'
  use : ∀ {base P n : Nat} {K : Nat → Nat} {S : Nat → Bool} {u : World} (i : Int), PM base P n K S u → n ≤ 1024 → base ≤ u.heap.size → Calls Try.prog 20 #[.pointer (some ⟨P, 0, none⟩), .int .i64 i] u fun r u' => r = .returned (.int .i64 (useE n K i)) ∧ Post12 PM base P n (useF n K i) S u u'
  take : ∀ {base P n : Nat} {K : Nat → Nat} {S : Nat → Bool} {u : World}, PM base P n K S u → n ≤ 1024 → base ≤ u.heap.size → Calls Try.prog 19 #[.pointer (some ⟨P, 0, none⟩)] u fun r u' => r = .returned (.tuple #[.int .i64 (takeI n K), .int .i64 (takeE n K)]) ∧ Post12 PM base P n (takeF n K) S u u'
  leave : ∀ {base P n : Nat} {K : Nat → Nat} {S : Nat → Bool} {u : World} (i : Int), PM base P n K S u → n ≤ 1024 → base ≤ u.heap.size → Calls Try.prog 17 #[.pointer (some ⟨P, 0, none⟩), .int .i64 i] u fun r u' => r = .returned (.int .i64 (leaveE n K i)) ∧ Post12 PM base P n (leaveF n K i) S u u'
  commit : ∀ {base P n : Nat} {K : Nat → Nat} {S : Nat → Bool} {u : World}, PM base P n K S u → n ≤ 1024 → base ≤ u.heap.size → Calls Try.prog 16 #[.pointer (some ⟨P, 0, none⟩)] u fun r u' => r = .returned (.bool true) ∧ Post12 PM base P n (turnF K 1 0) S u u'
  abort : ∀ {base P n : Nat} {K : Nat → Nat} {S : Nat → Bool} {u : World}, PM base P n K S u → n ≤ 1024 → base ≤ u.heap.size → Calls Try.prog 18 #[.pointer (some ⟨P, 0, none⟩)] u fun r u' => r = .returned (.bool true) ∧ Post12 PM base P n (turnF K 0 1) S u u'
  list : ∀ {base P n : Nat} {K : Nat → Nat} {S : Nat → Bool} {u : World} (k : Nat), PM base P n K S u → n ≤ 1024 → base ≤ u.heap.size → k ≤ 4 → Calls Try.prog 12 #[.pointer (some ⟨P, 0, none⟩), .int .i64 (k : Int)] u fun r u' => ∃ v, r = .returned v ∧ NewL u.heap.size (listF K k n) v u' ∧ Below u.heap.size u u'
  count : ∀ {base P n : Nat} {K : Nat → Nat} {S : Nat → Bool} {u : World}, PM base P n K S u → n ≤ 1024 → base ≤ u.heap.size → Calls Try.prog 10 #[.pointer (some ⟨P, 0, none⟩)] u fun r u' => r = .returned (.tuple #[.int .i64 (cntF K 0 n : Int), .int .i64 (cntF K 1 n : Int), .int .i64 (cntF K 2 n : Int), .int .i64 (cntF K 3 n : Int)]) ∧ Below u.heap.size u u'
  free : ∀ {base P n : Nat} {K : Nat → Nat} {S : Nat → Bool} {u : World}, PM base P n K S u → n ≤ 1024 → base ≤ u.heap.size → Calls Try.prog 14 #[.pointer (some ⟨P, 0, none⟩)] u fun r u' => r = .returned (.int .i64 (cntF K 0 n : Int)) ∧ Below u.heap.size u u'
  fresh : ∀ {base P n : Nat} {K : Nat → Nat} {S : Nat → Bool} {u : World} (i : Int), PM base P n K S u → n ≤ 1024 → base ≤ u.heap.size → Calls Try.prog 15 #[.pointer (some ⟨P, 0, none⟩), .int .i64 i] u fun r u' => r = .returned (.bool (decide (inF n i ∧ K i.toNat = 2))) ∧ Below u.heap.size u u'

/-- both maps -/
structure Bo12 (PM : PMap) (base P Q n : Nat) (K : Nat → Nat) (u : World) : Prop where
  ex : ∃ S, PM base P n K S u ∧ ∀ k, Rb Q u k → S k = false
  r : RFm base Q n K u
  n : n ≤ 1024
  sz : base ≤ u.heap.size
section
variable {PM : PMap} {base P Q n : Nat} {K K2 : Nat → Nat} {S : Nat → Bool} {u u2 : World}
theorem Bo12.below (I : Fm12 PM) (h : Bo12 PM base P Q n K u) (k : Below u.heap.size u u2) : Bo12 PM base P Q n K u2 := by
  obtain ⟨S, hp, hs⟩ := h.ex
  refine ⟨⟨S, I.below hp k, fun q hq => hs q ?_⟩, h.r.below k, h.n, Nat.le_trans h.sz k.size⟩
  rcases hq with rfl | ⟨v, e, hv⟩
  · exact .inl rfl
  · exact .inr ⟨v, by rw [← k.block Q h.r.lt]; exact e, hv⟩
/-- the program's was called -/
theorem pro12 (I : Fm12 PM) (hp : PM base P n K S u) (hs : ∀ k, Rb Q u k → S k = false) (hr : RFm base Q n K2 u) (hz : base ≤ u.heap.size) {K3 : Nat → Nat} (h : Post12 PM base P n K3 S u u2) :
    (∃ S2, PM base P n K3 S2 u2 ∧ ∀ k, Rb Q u2 k → S2 k = false) ∧ RFm base Q n K2 u2 ∧ base ≤ u2.heap.size ∧ Below base u u2 := by
  obtain ⟨S2, h1, h2, h3⟩ := h
  obtain ⟨r1, r2⟩ := hr.stays hs h3
  refine ⟨⟨S2, h2, fun q hq => ?_⟩, r1, Nat.le_trans hz h3.size, h3.bot hz fun q hq => ?_⟩
  · have hq1 := r2 q hq
    cases c : S2 q with
    | false => rfl
    | true =>
      rcases h1 q c with c1 | c1
      · rw [hs q hq1] at c1; cases c1
      · have := hr.rlt hq1; omega
  · cases c : S q with
    | false => rfl
    | true => have := (I.lo hp q c).1; omega
/-- the document's was called -/
theorem doc12 (I : Fm12 PM) (hp : PM base P n K S u) (hs : ∀ k, Rb Q u k → S k = false) (hr : RFm base Q n K2 u) (hz : base ≤ u.heap.size) {K3 : Nat → Nat} (h1 : RFm base Q n K3 u2) (h2 : KpS (QS Q) u u2) (h3 : Rnew Q u u2) :
    PM base P n K S u2 ∧ (∀ k, Rb Q u2 k → S k = false) ∧ base ≤ u2.heap.size ∧ Below base u u2 := by
  refine ⟨I.kept hp (fun k hk => QS.no fun e => ?_) h2, fun k hk => ?_, Nat.le_trans hz h2.size, hr.bot h2 hz⟩
  · rw [e, hs Q (.inl rfl)] at hk; cases hk
  · rcases h3 k hk with c | c
    · exact hs k c
    · cases d : S k with
      | false => rfl
      | true => have := (I.lo hp k d).2; omega
end
def doF (n : Nat) (K : Nat → Nat) (kind i : Int) : Nat → Nat :=
  if kind = 0 then useF n K i else if kind = 4 ∨ kind = 5 then leaveF n K i else if kind = 6 then turnF K 1 0 else if kind = 7 then turnF K 0 1 else takeF n K
section
variable {PM : PMap} {base P Q n : Nat} {K : Nat → Nat} {u : World}
set_option maxHeartbeats 6400000 in
theorem do12_any (I : Fm12 PM) (h : Bo12 PM base P Q n K u) (kind i : Int) : Calls Try.prog 22 #[.pointer (some ⟨P, 0, none⟩), .pointer (some ⟨Q, 0, none⟩), .agg #[.int .i64 kind, .int .i64 i]] u fun r u' => r = .returned (.bool true) ∧ Bo12 PM base P Q n (doF n K kind i) u' ∧ Below base u u' := by
  have X1 := Lib.hid (heap_alloc_new u (.cells #[.int .i64 kind, .int .i64 i] 40))
  have B1 := Lib.hid (balloc u (.cells #[.int .i64 kind, .int .i64 i] 40))
  have H1 := Lib.hid (h.below I B1.out)
  have K1 := Lib.hid (B1.out.mono h.sz)
  have HI := Lib.hid I
  obtain ⟨C, hC⟩ : ∃ C, C = u.heap.size := ⟨_, rfl⟩
  have NQ : Hid (Q ≠ C) := Lib.hid (by have := h.r.lt; omega)
  have NS : Hid (∀ S : Nat → Bool, PM base P n K S u → S C = false) := Lib.hid (fun S hp => by
    cases c : S C with
    | false => rfl
    | true => have := (I.lo hp C c).2; omega)
  rw [← hC] at X1
  obtain ⟨S0, hp0, hs0⟩ := h.ex
  have NS0 := Lib.hid (NS.out S0 hp0)
  have HP1 := Lib.hid (I.below hp0 B1.out)
  have HS1 : Hid (∀ k, Rb Q (u.alloc (.cells #[.int .i64 kind, .int .i64 i] 40)) k → S0 k = false) := Lib.hid (fun q hq => hs0 q (by
    rcases hq with rfl | ⟨v, e, hv⟩
    · exact .inl rfl
    · exact .inr ⟨v, by rw [← B1.out.block Q h.r.lt]; exact e, hv⟩))
  clear hp0 hs0 NS h
  go_enter Try.func22, Try.ntmps22
  go_upto_region 1 with fail
  rw [← hC]
  clear hC B1
  generalize u.alloc (.cells #[.int .i64 kind, .int .i64 i] 40) = w1 at *
  have x0 : w1.cell? ⟨C, 0, none⟩ = some (.int .i64 kind) := by rw [Lib.cell_of_heap X1.out]; rfl
  have x1 : w1.cell? ⟨C, 1, none⟩ = some (.int .i64 i) := by rw [Lib.cell_of_heap X1.out]; rfl
  by_cases k0 : kind = 0
  · subst k0
    have E := Lib.hid (show doF n K 0 i = useF n K i from (by unfold doF; rw [if_pos rfl]))
    have GP := Lib.hid (fun w (h : PM base P n K S0 w) (hz : base ≤ w.heap.size) => HI.out.use i h H1.out.n hz)
    have GR := Lib.hid (fun w (h : RFm base Q n K w) (hz : base ≤ w.heap.size) => ruse12_any h hz H1.out.n i)
    obtain ⟨ee, hee⟩ : ∃ e, e = useE n K i := ⟨_, rfl⟩
    rw [← hee] at GP GR
    clear hee
    go_upto_region 3 with fail
    refine wp_region_held_drew (S := (fun w' => w'.cell? ⟨C, 1, none⟩ = some (.int .i64 i))) (by kernel_rfl) x1 (fun hHeld => ?_)
    have H2 := Lib.hid (H1.out.below HI.out (bdrew w1))
    have HP2 := Lib.hid (HI.out.below HP1.out (bdrew w1))
    have HS2 : Hid (∀ k, Rb Q (World.drew w1) k → S0 k = false) := Lib.hid HS1.out
    have K2 := Lib.hid (K1.out.trans ((bdrew w1).mono H1.out.sz))
    have X2 := Lib.hid (show (World.drew w1).heap[C]? = some (.cells #[.int .i64 _, .int .i64 i] 40 (0, 0)) from X1.out)
    change wpAnyH _ _ _ _ _ _ _ _ (World.drew w1)
    clear x0 x1 HP1 HS1 H1 K1 X1
    generalize World.drew w1 = w2 at *
    first | refine tq0 0 rfl ?_ | refine tq1 0 rfl ?_
    try go_frame
    first | refine tq0 1 rfl ?_ | refine tq1 1 rfl ?_
    try go_frame
    first | refine tq0 2 rfl ?_ | refine tq1 2 rfl ?_
    try go_frame
    first | refine tq0 4 rfl ?_ | refine tq1 4 rfl ?_
    try go_frame
    first | refine tq0 5 rfl ?_ | refine tq1 5 rfl ?_
    try go_frame
    first | refine tq0 6 rfl ?_ | refine tq1 6 rfl ?_
    try go_frame
    refine wpAnyH_ready (rs := [3]) (by kernel_rfl) (by simp) ?_
    refine AllReadyH.cons (o := ⟨_, _, _, _, _, _⟩) rfl (fun Kx hKx => ?_) AllReadyH.nil
    go_simp
    refine (GP.out _ HP2.out H2.out.sz).mono ?_
    rintro e w3 ⟨rfl, hp3⟩
    obtain ⟨⟨S3, p3, s3⟩, r3, z3, b3⟩ := pro12 HI.out HP2.out HS2.out H2.out.r H2.out.sz hp3
    obtain ⟨_, _, _, kk3⟩ := hp3
    have X3 := Lib.hid ((kk3.blk (heap_lt12 X2.out) NS0.out).trans X2.out)
    have P3 := Lib.hid p3
    have Q3 := Lib.hid s3
    have R3 := Lib.hid r3
    have Z3 := Lib.hid z3
    have B3 := Lib.hid b3
    clear p3 s3 r3 z3 b3 kk3
    refine hKx.out _ _ ?_ (fun hHeld => ?_)
    · rw [Lib.cell_of_heap X3.out]; rfl
    clear hKx Kx
    try simp only [Act.put, List.setIfInBounds_toArray, List.set_cons_zero, List.set_cons_succ]
    refine wpAnyH_ready (rs := [7]) (by kernel_rfl) (by simp) ?_
    refine AllReadyH.cons (o := ⟨_, _, _, _, _, _⟩) rfl (fun Kx hKx => ?_) AllReadyH.nil
    go_simp
    refine (GR.out _ R3.out Z3.out).mono ?_
    rintro e w4 ⟨rfl, r4, k4, n4⟩
    obtain ⟨p4, s4, z4, b4⟩ := doc12 HI.out P3.out Q3.out R3.out Z3.out r4 k4 n4
    have X4 := Lib.hid ((k4.blk (heap_lt12 X3.out) (QS.no NQ.out.symm)).trans X3.out)
    have F4 : Hid (Bo12 PM base P Q n (useF n K i) w4) := Lib.hid ⟨⟨S3, p4, s4⟩, r4, H2.out.n, z4⟩
    have K4 := Lib.hid (K2.out.trans (B3.out.trans b4))
    clear p4 s4 z4 b4 r4 k4 n4
    refine hKx.out _ _ ?_ (fun hHeld => ?_)
    · rw [Lib.cell_of_heap X4.out]; rfl
    clear hKx Kx
    try simp only [Act.put, List.setIfInBounds_toArray, List.set_cons_zero, List.set_cons_succ]
    first | refine tq0 8 rfl ?_ | refine tq1 8 rfl ?_
    try go_frame
    first | refine tq0 9 rfl ?_ | refine tq1 9 rfl ?_
    try go_frame
    refine wpAnyH_done (by kernel_rfl) ?_ _
    clear hHeld
    go_wp2_with fail
    go_ret
    exact ⟨rfl, by rw [E.out]; exact F4.out, K4.out⟩
  · have n0 : (kind == 0) = false := by simp [k0]
    by_cases k4 : kind = 4
    · subst k4
      have E := Lib.hid (show doF n K 4 i = leaveF n K i from by unfold doF; rw [if_neg (by decide), if_pos (.inl rfl)])
      have GP := Lib.hid (fun w (h : PM base P n K S0 w) (hz : base ≤ w.heap.size) => HI.out.leave i h H1.out.n hz)
      have GR := Lib.hid (fun w (h : RFm base Q n K w) (hz : base ≤ w.heap.size) => rleave12_any h hz H1.out.n i)
      obtain ⟨ee, hee⟩ : ∃ e, e = leaveE n K i := ⟨_, rfl⟩
      rw [← hee] at GP GR
      clear hee
      go_upto_region 6 with fail
      refine wp_region_held_drew (S := (fun w' => w'.cell? ⟨C, 1, none⟩ = some (.int .i64 i))) (by kernel_rfl) x1 (fun hHeld => ?_)
      have H2 := Lib.hid (H1.out.below HI.out (bdrew w1))
      have HP2 := Lib.hid (HI.out.below HP1.out (bdrew w1))
      have HS2 : Hid (∀ k, Rb Q (World.drew w1) k → S0 k = false) := Lib.hid HS1.out
      have K2 := Lib.hid (K1.out.trans ((bdrew w1).mono H1.out.sz))
      have X2 := Lib.hid (show (World.drew w1).heap[C]? = some (.cells #[.int .i64 _, .int .i64 i] 40 (0, 0)) from X1.out)
      change wpAnyH _ _ _ _ _ _ _ _ (World.drew w1)
      clear x0 x1 HP1 HS1 H1 K1 X1
      generalize World.drew w1 = w2 at *
      first | refine tq0 0 rfl ?_ | refine tq1 0 rfl ?_
      try go_frame
      first | refine tq0 1 rfl ?_ | refine tq1 1 rfl ?_
      try go_frame
      first | refine tq0 2 rfl ?_ | refine tq1 2 rfl ?_
      try go_frame
      first | refine tq0 4 rfl ?_ | refine tq1 4 rfl ?_
      try go_frame
      first | refine tq0 5 rfl ?_ | refine tq1 5 rfl ?_
      try go_frame
      first | refine tq0 6 rfl ?_ | refine tq1 6 rfl ?_
      try go_frame
      refine wpAnyH_ready (rs := [3]) (by kernel_rfl) (by simp) ?_
      refine AllReadyH.cons (o := ⟨_, _, _, _, _, _⟩) rfl (fun Kx hKx => ?_) AllReadyH.nil
      go_simp
      refine (GP.out _ HP2.out H2.out.sz).mono ?_
      rintro e w3 ⟨rfl, hp3⟩
      obtain ⟨⟨S3, p3, s3⟩, r3, z3, b3⟩ := pro12 HI.out HP2.out HS2.out H2.out.r H2.out.sz hp3
      obtain ⟨_, _, _, kk3⟩ := hp3
      have X3 := Lib.hid ((kk3.blk (heap_lt12 X2.out) NS0.out).trans X2.out)
      have P3 := Lib.hid p3
      have Q3 := Lib.hid s3
      have R3 := Lib.hid r3
      have Z3 := Lib.hid z3
      have B3 := Lib.hid b3
      clear p3 s3 r3 z3 b3 kk3
      refine hKx.out _ _ ?_ (fun hHeld => ?_)
      · rw [Lib.cell_of_heap X3.out]; rfl
      clear hKx Kx
      try simp only [Act.put, List.setIfInBounds_toArray, List.set_cons_zero, List.set_cons_succ]
      refine wpAnyH_ready (rs := [7]) (by kernel_rfl) (by simp) ?_
      refine AllReadyH.cons (o := ⟨_, _, _, _, _, _⟩) rfl (fun Kx hKx => ?_) AllReadyH.nil
      go_simp
      refine (GR.out _ R3.out Z3.out).mono ?_
      rintro e w4 ⟨rfl, r4, k4, n4⟩
      obtain ⟨p4, s4, z4, b4⟩ := doc12 HI.out P3.out Q3.out R3.out Z3.out r4 k4 n4
      have X4 := Lib.hid ((k4.blk (heap_lt12 X3.out) (QS.no NQ.out.symm)).trans X3.out)
      have F4 : Hid (Bo12 PM base P Q n (leaveF n K i) w4) := Lib.hid ⟨⟨S3, p4, s4⟩, r4, H2.out.n, z4⟩
      have K4 := Lib.hid (K2.out.trans (B3.out.trans b4))
      clear p4 s4 z4 b4 r4 k4 n4
      refine hKx.out _ _ ?_ (fun hHeld => ?_)
      · rw [Lib.cell_of_heap X4.out]; rfl
      clear hKx Kx
      try simp only [Act.put, List.setIfInBounds_toArray, List.set_cons_zero, List.set_cons_succ]
      first | refine tq0 8 rfl ?_ | refine tq1 8 rfl ?_
      try go_frame
      first | refine tq0 9 rfl ?_ | refine tq1 9 rfl ?_
      try go_frame
      refine wpAnyH_done (by kernel_rfl) ?_ _
      clear hHeld
      go_wp2_with fail
      go_ret
      exact ⟨rfl, by rw [E.out]; exact F4.out, K4.out⟩
    · have n4 : (kind == 4) = false := by simp [k4]
      by_cases k5 : kind = 5
      · subst k5
        have E := Lib.hid (show doF n K 5 i = leaveF n K i from by unfold doF; rw [if_neg (by decide), if_pos (.inr rfl)])
        have GP := Lib.hid (fun w (h : PM base P n K S0 w) (hz : base ≤ w.heap.size) => HI.out.leave i h H1.out.n hz)
        have GR := Lib.hid (fun w (h : RFm base Q n K w) (hz : base ≤ w.heap.size) => rleave12_any h hz H1.out.n i)
        obtain ⟨ee, hee⟩ : ∃ e, e = leaveE n K i := ⟨_, rfl⟩
        rw [← hee] at GP GR
        clear hee
        go_upto_region 6 with fail
        refine wp_region_held_drew (S := (fun w' => w'.cell? ⟨C, 1, none⟩ = some (.int .i64 i))) (by kernel_rfl) x1 (fun hHeld => ?_)
        have H2 := Lib.hid (H1.out.below HI.out (bdrew w1))
        have HP2 := Lib.hid (HI.out.below HP1.out (bdrew w1))
        have HS2 : Hid (∀ k, Rb Q (World.drew w1) k → S0 k = false) := Lib.hid HS1.out
        have K2 := Lib.hid (K1.out.trans ((bdrew w1).mono H1.out.sz))
        have X2 := Lib.hid (show (World.drew w1).heap[C]? = some (.cells #[.int .i64 _, .int .i64 i] 40 (0, 0)) from X1.out)
        change wpAnyH _ _ _ _ _ _ _ _ (World.drew w1)
        clear x0 x1 HP1 HS1 H1 K1 X1
        generalize World.drew w1 = w2 at *
        first | refine tq0 0 rfl ?_ | refine tq1 0 rfl ?_
        try go_frame
        first | refine tq0 1 rfl ?_ | refine tq1 1 rfl ?_
        try go_frame
        first | refine tq0 2 rfl ?_ | refine tq1 2 rfl ?_
        try go_frame
        first | refine tq0 4 rfl ?_ | refine tq1 4 rfl ?_
        try go_frame
        first | refine tq0 5 rfl ?_ | refine tq1 5 rfl ?_
        try go_frame
        first | refine tq0 6 rfl ?_ | refine tq1 6 rfl ?_
        try go_frame
        refine wpAnyH_ready (rs := [3]) (by kernel_rfl) (by simp) ?_
        refine AllReadyH.cons (o := ⟨_, _, _, _, _, _⟩) rfl (fun Kx hKx => ?_) AllReadyH.nil
        go_simp
        refine (GP.out _ HP2.out H2.out.sz).mono ?_
        rintro e w3 ⟨rfl, hp3⟩
        obtain ⟨⟨S3, p3, s3⟩, r3, z3, b3⟩ := pro12 HI.out HP2.out HS2.out H2.out.r H2.out.sz hp3
        obtain ⟨_, _, _, kk3⟩ := hp3
        have X3 := Lib.hid ((kk3.blk (heap_lt12 X2.out) NS0.out).trans X2.out)
        have P3 := Lib.hid p3
        have Q3 := Lib.hid s3
        have R3 := Lib.hid r3
        have Z3 := Lib.hid z3
        have B3 := Lib.hid b3
        clear p3 s3 r3 z3 b3 kk3
        refine hKx.out _ _ ?_ (fun hHeld => ?_)
        · rw [Lib.cell_of_heap X3.out]; rfl
        clear hKx Kx
        try simp only [Act.put, List.setIfInBounds_toArray, List.set_cons_zero, List.set_cons_succ]
        refine wpAnyH_ready (rs := [7]) (by kernel_rfl) (by simp) ?_
        refine AllReadyH.cons (o := ⟨_, _, _, _, _, _⟩) rfl (fun Kx hKx => ?_) AllReadyH.nil
        go_simp
        refine (GR.out _ R3.out Z3.out).mono ?_
        rintro e w4 ⟨rfl, r4, k4, n4⟩
        obtain ⟨p4, s4, z4, b4⟩ := doc12 HI.out P3.out Q3.out R3.out Z3.out r4 k4 n4
        have X4 := Lib.hid ((k4.blk (heap_lt12 X3.out) (QS.no NQ.out.symm)).trans X3.out)
        have F4 : Hid (Bo12 PM base P Q n (leaveF n K i) w4) := Lib.hid ⟨⟨S3, p4, s4⟩, r4, H2.out.n, z4⟩
        have K4 := Lib.hid (K2.out.trans (B3.out.trans b4))
        clear p4 s4 z4 b4 r4 k4 n4
        refine hKx.out _ _ ?_ (fun hHeld => ?_)
        · rw [Lib.cell_of_heap X4.out]; rfl
        clear hKx Kx
        try simp only [Act.put, List.setIfInBounds_toArray, List.set_cons_zero, List.set_cons_succ]
        first | refine tq0 8 rfl ?_ | refine tq1 8 rfl ?_
        try go_frame
        first | refine tq0 9 rfl ?_ | refine tq1 9 rfl ?_
        try go_frame
        refine wpAnyH_done (by kernel_rfl) ?_ _
        clear hHeld
        go_wp2_with fail
        go_ret
        exact ⟨rfl, by rw [E.out]; exact F4.out, K4.out⟩
      · have n5 : (kind == 5) = false := by simp [k5]
        by_cases k6 : kind = 6
        · subst k6
          clear n0 n4 n5 k0 k4 k5
          have E := Lib.hid (show doF n K 6 i = turnF K 1 0 from by unfold doF; rw [if_neg (by decide), if_neg (by decide), if_pos rfl])
          have GR := Lib.hid (rturn12_any H1.out.r H1.out.sz H1.out.n 1 0)
          change Hid (Calls _ _ #[_, .int .i64 1, .int .i64 0] _ _) at GR
          clear x1
          go_wp2_with fail
          refine (GR.out).mono ?_
          rintro e w3 ⟨rfl, r4, k4, n4⟩
          obtain ⟨p4, s4, z4, b4⟩ := doc12 HI.out HP1.out HS1.out H1.out.r H1.out.sz r4 k4 n4
          have P4 := Lib.hid p4
          have S4 := Lib.hid s4
          have Z4 := Lib.hid z4
          have R4 := Lib.hid r4
          have B4 := Lib.hid b4
          clear p4 s4 z4 b4 r4 k4 n4
          have GP := Lib.hid (HI.out.commit P4.out H1.out.n Z4.out)
          go_wp2_with fail
          refine (GP.out).mono ?_
          rintro e w4 ⟨rfl, hp5⟩
          obtain ⟨e5, r5, z5, b5⟩ := pro12 HI.out P4.out S4.out R4.out Z4.out hp5
          have F5 : Hid (Bo12 PM base P Q n (turnF K 1 0) w4) := Lib.hid ⟨e5, r5, H1.out.n, z5⟩
          have K5 := Lib.hid (K1.out.trans (B4.out.trans b5))
          clear e5 r5 z5 b5 hp5
          go_wp2_with fail
          go_ret
          exact ⟨rfl, by rw [E.out]; exact F5.out, K5.out⟩
        · have n6 : (kind == 6) = false := by simp [k6]
          by_cases k7 : kind = 7
          · subst k7
            clear n0 n4 n5 n6 k0 k4 k5 k6
            have E := Lib.hid (show doF n K 7 i = turnF K 0 1 from by unfold doF; rw [if_neg (by decide), if_neg (by decide), if_neg (by decide), if_pos rfl])
            have GR := Lib.hid (rturn12_any H1.out.r H1.out.sz H1.out.n 0 1)
            change Hid (Calls _ _ #[_, .int .i64 0, .int .i64 1] _ _) at GR
            clear x1
            go_wp2_with fail
            refine (GR.out).mono ?_
            rintro e w3 ⟨rfl, r4, k4, n4⟩
            obtain ⟨p4, s4, z4, b4⟩ := doc12 HI.out HP1.out HS1.out H1.out.r H1.out.sz r4 k4 n4
            have P4 := Lib.hid p4
            have S4 := Lib.hid s4
            have Z4 := Lib.hid z4
            have R4 := Lib.hid r4
            have B4 := Lib.hid b4
            clear p4 s4 z4 b4 r4 k4 n4
            have GP := Lib.hid (HI.out.abort P4.out H1.out.n Z4.out)
            go_wp2_with fail
            refine (GP.out).mono ?_
            rintro e w4 ⟨rfl, hp5⟩
            obtain ⟨e5, r5, z5, b5⟩ := pro12 HI.out P4.out S4.out R4.out Z4.out hp5
            have F5 : Hid (Bo12 PM base P Q n (turnF K 0 1) w4) := Lib.hid ⟨e5, r5, H1.out.n, z5⟩
            have K5 := Lib.hid (K1.out.trans (B4.out.trans b5))
            clear e5 r5 z5 b5 hp5
            go_wp2_with fail
            go_ret
            exact ⟨rfl, by rw [E.out]; exact F5.out, K5.out⟩
          · have n7 : (kind == 7) = false := by simp [k7]
            have E : Hid (doF n K kind i = takeF n K) := Lib.hid (by unfold doF; rw [if_neg k0, if_neg (by omega), if_neg k6, if_neg k7])
            have GP := Lib.hid (HI.out.take HP1.out H1.out.n H1.out.sz)
            have GR := Lib.hid (fun w (h : RFm base Q n K w) (hz : base ≤ w.heap.size) => rtake12_any h hz H1.out.n)
            generalize takeI n K = ti at *
            generalize takeE n K = te at *
            clear k0 k4 k5 k6 k7 x1
            go_wp2_with fail
            refine (GP.out).mono ?_
            rintro e w3 ⟨rfl, hp3⟩
            obtain ⟨⟨S3, p3, s3⟩, r3, z3, b3⟩ := pro12 HI.out HP1.out HS1.out H1.out.r H1.out.sz hp3
            have P3 := Lib.hid p3
            have Q3 := Lib.hid s3
            have R3 := Lib.hid r3
            have Z3 := Lib.hid z3
            have B3 := Lib.hid b3
            clear p3 s3 r3 z3 b3 hp3
            go_wp2_with fail
            refine (GR.out _ R3.out Z3.out).mono ?_
            rintro e w4 ⟨rfl, r4, k4, n4⟩
            obtain ⟨p4, s4, z4, b4⟩ := doc12 HI.out P3.out Q3.out R3.out Z3.out r4 k4 n4
            have F4 : Hid (Bo12 PM base P Q n (takeF n K) w4) := Lib.hid ⟨⟨S3, p4, s4⟩, r4, H1.out.n, z4⟩
            have K4 := Lib.hid (K1.out.trans (B3.out.trans b4))
            clear p4 s4 z4 b4 r4 k4 n4
            go_wp2_with fail
            go_ret
            exact ⟨rfl, by rw [E.out]; exact F4.out, K4.out⟩
  end

  end Go.Proofs.Ytbjmdejnipleoaa
