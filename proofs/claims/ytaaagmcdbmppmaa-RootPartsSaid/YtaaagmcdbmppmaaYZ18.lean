/- A row in a block of its own that is written again and again: how its cells are told, a store of an element or of a cell. The contract of the document's Need. (Moved out of RtR1.) Takes out of a drawn region, said shortly: an operation that is not wanted, one that only reads. -/
import Derived.Laws.IdiomCopy
import Derived.Deep.DeepCutAuto
import Derived.WalkKit
import Derived.Deep.RegionHeld3
import Derived.Test.YtaaagmcdbmppmaaYHideS
import Derived.Test.YtaaagmcdbmppmaaYBase
import Derived.Test.YtaaagmcdbmppmaaYRtMath
import Derived.Test.YtaaagmcdbmppmaaYZ0
namespace Go.Proofs.Ytaaagmcdbmppmaa
open Go.RowKit
set_option linter.unusedVariables false
set_option maxRecDepth 100000

/-- the slice v: n elements of C cells, in block b from its beginning on -/
structure RowB (T : TypeId) (C B : Nat) (G : Nat → Nat → Value) (n : Nat) (v : Value) (u : World) : Prop where
  v : ∃ c, v = .slice (some ⟨B, 0, none⟩) n c ∧ n ≤ c ∧ c ≤ 9223372036854775807
  b : ∃ cs, u.heap[B]? = some (.cells cs T (0, 0))
  c : ∀ i, i < n → ∀ j, j < C → u.cell? ⟨B, i * C + j, none⟩ = some (G i j)
section
variable {T : TypeId} {C b n : Nat} {G : Nat → Nat → Value} {v : Value} {u u2 : World}
theorem RowB.kept (h : RowB T C b G n v u) (e : u2.heap[b]? = u.heap[b]?) : RowB T C b G n v u2 :=
  ⟨h.v, by rw [e]; exact h.b, fun i hi j hj => by have := h.c i hi j hj; rw [← this]; exact World.cell?_of_block e⟩
theorem RowB.congr {G2 : Nat → Nat → Value} (h : RowB T C b G n v u) (e : ∀ i, i < n → ∀ j, j < C → G2 i j = G i j) : RowB T C b G2 n v u :=
  ⟨h.v, h.b, fun i hi j hj => by rw [e i hi j hj]; exact h.c i hi j hj⟩
theorem RowB.of {base : Nat} (h : u.ownsRow base T C v n (rowCells C G n)) (hn : 0 < n) : ∃ b, base ≤ b ∧ v.ownBlock = some b ∧ RowB T C b G n v u := by
  have hs := own_sl h
  rcases h.2 with ⟨_, h0⟩ | ⟨g, cap, cur, rfl, h1, h2, h3, h4, h5, h6⟩
  · omega
  · obtain ⟨a, c, e, s1, s2, s3⟩ := hs
    simp only [Value.slice.injEq, true_and] at e
    obtain ⟨rfl, rfl⟩ := e
    obtain ⟨b, o, e2, hA⟩ := s3 hn
    simp only [Option.some.injEq, Addr.mk.injEq, and_true] at e2
    obtain ⟨rfl, rfl⟩ := e2
    refine ⟨g, h1, rfl, ⟨_, rfl, s1, s2⟩, ⟨_, h2⟩, fun i hi j hj => ?_⟩
    have := hA.2 i hi j hj
    rwa [Nat.zero_add] at this
theorem RowB.lt (h : RowB T C b G n v u) : b < u.heap.size := by
  obtain ⟨cs, e⟩ := h.b
  exact lt_of_block e
theorem RowB.frozen (h : RowB T C b G n v u) (o : Nat) : u.frozen? ⟨b, o, none⟩ = false := by
  obtain ⟨cs, e⟩ := h.b
  simp [World.frozen?, e]
/-- a store of one cell -/
theorem RowB.set1 (h : RowB T C b G n v u) {i j : Nat} (hi : i < n) (hj : j < C) (x : Value) {G2 : Nat → Nat → Value}
    (h0 : G2 i j = x) (ho : ∀ i2, i2 < n → ∀ j2, j2 < C → ¬ (i2 = i ∧ j2 = j) → G2 i2 j2 = G i2 j2) : RowB T C b G2 n v (u.setCell ⟨b, i * C + j, none⟩ x) := by
  obtain ⟨cs, e⟩ := h.b
  refine ⟨h.v, ⟨_, Joins.block_setCell e x⟩, fun i2 hi2 j2 hj2 => ?_⟩
  by_cases c : i2 = i ∧ j2 = j
  · obtain ⟨rfl, rfl⟩ := c
    have := World.cell?_setCells_in b [x] (i2 * C + j2) u (fun q hq => by
      obtain rfl : q = 0 := by simpa using hq
      rw [Nat.add_zero, h.c i2 hi j2 hj]; rfl) 0 (by simp)
    rw [Nat.add_zero] at this
    rw [h0]; exact this
  · rw [ho i2 hi2 j2 hj2 c]
    have := World.cell?_setCells_out b [x] (i * C + j) u ⟨b, i2 * C + j2, none⟩ (fun _ _ => by
      show i2 * C + j2 < i * C + j ∨ i * C + j + 1 ≤ i2 * C + j2
      have hne : i2 * C + j2 ≠ i * C + j := by
        intro he
        apply c
        have d1 : i2 = i := by
          have := congrArg (· / C) he
          simp only [Nat.mul_comm _ C, Nat.mul_add_div (show 0 < C by omega), Nat.div_eq_of_lt hj2, Nat.div_eq_of_lt hj, Nat.add_zero] at this
          exact this
        subst d1
        exact ⟨rfl, by omega⟩
      omega)
    have e3 : u.setCells b (i * C + j) [x] = u.setCell ⟨b, i * C + j, none⟩ x := rfl
    rw [← e3, this]
    exact h.c i2 hi2 j2 hj2
end
section
variable {T : TypeId} {b n : Nat} {G : Nat → Nat → Value} {v : Value} {u : World}
theorem RowB.cell1 (h : RowB T 1 b G n v u) {i : Nat} (hi : i < n) : u.cell? ⟨b, i, none⟩ = some (G i 0) := by
  have := h.c i hi 0 (by omega)
  rwa [Nat.mul_one, Nat.add_zero] at this
theorem RowB.put1 (h : RowB T 1 b G n v u) {i : Nat} (hi : i < n) (x : Value) {G2 : Nat → Nat → Value} (h0 : G2 i 0 = x) (ho : ∀ k, k < n → k ≠ i → G2 k 0 = G k 0) : RowB T 1 b G2 n v (u.setCell ⟨b, i, none⟩ x) := by
  have := h.set1 (j := 0) hi (by omega) x (G2 := G2) h0 (fun i2 h2 j2 hj2 hne => by
    obtain rfl : j2 = 0 := by omega
    exact ho i2 h2 fun e => hne ⟨e, rfl⟩)
  rwa [Nat.mul_one, Nat.add_zero] at this
end

end Go.Proofs.Ytaaagmcdbmppmaa
namespace Go.Proofs.Ytaaagmcdbmppmaa
open Go.RowKit
set_option linter.unusedVariables false
set_option maxRecDepth 100000

theorem rneed_any (x : Int) (hx : -9223372036854775808 ≤ x ∧ x ≤ 9223372036854775807) (w : World) : Calls Try.prog 18 #[.int .i64 x] w fun e w' => e = .returned (.int .i64 (needR x)) ∧ w' = w := by
  by_cases h : x < 1
  · have E : Hid (needR x = 0) := Lib.hid (by unfold needR; rw [if_pos h])
    have d : decide (x < 1) = true := by simp [h]
    go_enter Try.func18, Try.ntmps18
    go_wp2_with fail
    go_ret
    exact ⟨by rw [E.out]; rfl, rfl⟩
  · obtain ⟨m, rfl⟩ : ∃ m : Nat, x = (m : Int) + 1 := ⟨(x - 1).toNat, by omega⟩
    have E : Hid (needR ((m : Int) + 1) = (m : Int) / 116 + 1) := Lib.hid (by unfold needR; rw [if_neg h]; congr 2; omega)
    have d : decide ((m : Int) + 1 < 1) = false := by simp; omega
    have e0 : (m : Int) + 1 - 1 = m := by omega
    clear h
    go_enter Try.func18, Try.ntmps18
    go_wp2_with fail
    go_ret
    exact ⟨by rw [E.out]; rfl, rfl⟩


end Go.Proofs.Ytaaagmcdbmppmaa
namespace Go.Proofs.Ytaaagmcdbmppmaa
open Go.RowKit
section
variable {P : Program} {ops : Array Oper} {Q : Exit → Act → World → Prop} {md : Region.Mode} {S : World → Prop}
theorem tk0 (i : Nat) {oi : Oper} {fuel : Nat} {listed : Array Bool} {a : Act} {w : World} (hi : ops[i]? = some oi)
    (h : wpAnyH P md ops Q S fuel (listed.setIfInBounds i true) (a.put oi.dst undef) w)
    (hs : Region.noSelect ops = true := by kernel_rfl) (hf : Region.free md ops listed i = true := by kernel_rfl) (hr : (Region.ready md ops listed).contains i = true := by kernel_rfl)
    (hQ : ∀ c a w, Q (.panic c) (a.put oi.dst undef) w → Q (.panic c) a w := by exact fun _ _ _ h => h)
    (hw : Region.wanted oi (yielded ops a.tmps) = false := by rfl) (hS : S w := by assumption) : wpAnyH P md ops Q S (fuel + 1) listed a w := wpAnyH_take hi hs hf hr hQ (.inr ⟨hw, rfl⟩) hS h
theorem tk1 (i : Nat) {oi : Oper} {v : Value} {fuel : Nat} {listed : Array Bool} {a : Act} {w : World} (hi : ops[i]? = some oi)
    (hy : ∀ w5, S w5 → (execOp a.eval oi).run P w5 = .ok (.value v) w5)
    (h : wpAnyH P md ops Q S fuel (listed.setIfInBounds i true) (a.put oi.dst v) w)
    (hs : Region.noSelect ops = true := by kernel_rfl) (hf : Region.free md ops listed i = true := by kernel_rfl) (hr : (Region.ready md ops listed).contains i = true := by kernel_rfl)
    (hQ : ∀ c a w, Q (.panic c) (a.put oi.dst v) w → Q (.panic c) a w := by exact fun _ _ _ h => h)
    (hw : Region.wanted oi (yielded ops a.tmps) = true := by rfl) (hS : S w := by assumption) : wpAnyH P md ops Q S (fuel + 1) listed a w := wpAnyH_take hi hs hf hr hQ (.inl ⟨hw, hy⟩) hS h
end
end Go.Proofs.Ytaaagmcdbmppmaa
