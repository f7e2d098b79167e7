/- PlainParts, walked. -/
import Derived.Test.YthkfaeplmmlnlaaYPlLaws0
import Derived.Test.YthkfaeplmmlnlaaYPlSame
namespace Go.Proofs.Ythkfaeplmmlnlaa
open Go.RowKit Go.Deep Go.Maps
set_option linter.unusedVariables false
set_option maxRecDepth 100000

/-- append of a slice of any length, and where the new one lies -/
theorem wpList_append_any_at {P : Program} {ops : Array Oper} {o : Oper} {a : Act} {w : World} {Q : Exit → Act → World → Prop} {rest : List Oper} (hgd : o.guard = none) (s x : Operand) (t : TypeId) (ho : o.op = .call { callee := .builtin .append, args := #[s, x], argTypes := #[t, t] })
    (base : Nat) (e : TypeId) (i : TypeInfo) (z : Value) (size bytes : Nat) (ht : P.underlying t = some (.slice e)) (hi : P.info? e = some i) (hz : i.zero = some z)
    (hsize : i.size = size) (hby : i.bytes = bytes) (hzs : z.cells.size = size) (hsz : 0 < size)
    (v : Value) (n : Nat) (xs : List Value) (hs : a.eval s = v) (hown : w.ownsRow base e size v n xs)
    (g : Nat → Nat → Value) (m : Nat) (vx : Value) (hx : a.eval x = vx) (hsl : Sl size g m vx w) (h1 : ∀ i, i < m → ∀ j, j < size → (g i j).oneCell' = true)
    (h63 : n + m ≤ maxLen) (hbytes : (n + m) * bytes ≤ 140737488355328) (hbase : base ≤ w.heap.size)
    (N : Nat) (hN : n + m = N) (h : ∀ a' c' w', w'.ownsRow base e size (.slice a' N c') N (xs ++ rowCells size g m) → w.grownBy w' v.ownBlock → ((Value.slice a' N c').ownBlock = v.ownBlock ∨ (Value.slice a' N c').ownBlock = some w.heap.size) → wpList P ops Q rest (a.put o.dst (.slice a' N c')) w') : wpList P ops Q (o :: rest) a w := by
  subst hN
  obtain ⟨ax, cx, rfl, hx1, hx2, hx3⟩ := hsl
  rcases Nat.eq_zero_or_pos m with hm | hm
  · subst hm
    obtain ⟨av, cv, rfl, hc⟩ := own_form hown
    refine wpList_append_nothing7 hgd s x t ho e i ht hi av n cv hs hc _ hx (src_none ht ax cx) ?_
    refine h av cv w ?_ (grown_self w _) (.inl (by cases av <;> rfl))
    rw [rowCells_zero, List.append_nil, Nat.add_zero]
    exact hown
  · obtain ⟨b, off, rfl, hA⟩ := hx3 hm
    refine wpList_append_own_at w hgd s x t ho base e i z size bytes ht hi hz hsize hby hzs hsz v n xs hs hown ⟨b, off, none⟩ m cx (rowCells size g m) hx (rowCells_len _ _ _) (at_newsC hsz hA) (row_cells_one hsz h1) h63 hbytes hbase ?_
    intro v' w' hown' hgr _ hat
    obtain ⟨av, cv, rfl, _⟩ := own_form hown'
    exact h _ _ _ hown' hgr hat
theorem u8_row {w : World} {a : Option Addr} {len cap : Nat} {zs : List Int} (h : IsRow .u8 w a len cap zs) : ∃ f : Nat → Int, Sl 1 (fun i _ => .int .u8 (f i)) len (.slice a len cap) w ∧ ∀ i, 0 ≤ f i ∧ f i < 256 := by
  rcases h with ⟨rfl, rfl, rfl, rfl⟩ | ⟨x, rfl, hl, hm, hz, hcell, hw⟩
  · exact ⟨fun _ => 0, sl_none8 _ _ _, fun _ => ⟨Int.le_refl 0, (by decide : (0 : Int) < 256)⟩⟩
  · refine ⟨fun i => zs.getD i 0, ⟨_, cap, rfl, hl, by unfold maxLen at hm; omega, fun h0 => ?_⟩, fun i => ?_⟩
    · have c0 := hcell 0 (by omega)
      obtain ⟨b, off, spot⟩ := x
      have hspot : spot = none := by simpa [Addr.add] using World.cell?_spot c0
      subst hspot
      refine ⟨b, off, rfl, ?_, fun i hi j hj => ?_⟩
      · rw [add_plain] at c0
        obtain ⟨c, t, f, e⟩ := cell_block c0
        exact lt_of_block e
      · obtain rfl : j = 0 := by omega
        have := hcell i (by omega)
        rw [add_plain] at this
        rw [Nat.mul_one, Nat.add_zero]
        exact this
    · show 0 ≤ zs.getD i 0 ∧ zs.getD i 0 < 256
      rw [List.getD_eq_getElem?_getD]
      cases hq : zs[i]? with
      | none => simp
      | some n =>
        have h9 := hw n (List.mem_of_getElem? hq)
        simp [Lit.wf] at h9
        have e1 : IntKind.u8.min = 0 := rfl
        have e2 : IntKind.u8.max = 255 := rfl
        simp; omega
theorem stepsP_stay {m : Mdl} {x : Sm} (h : x.W = []) : ∀ i, stepsP m i x = x
  | 0 => rfl
  | i + 1 => by rw [stepsP_succ, stepsP_stay h i, stepP_none h]
/-- how far it comes is told by how many steps there may be -/
theorem far_one {m : Mdl} {x : Sm} {N i j : Nat} (h1 : i ≤ N) (h2 : ∀ q, q < i → (stepsP m q x).W ≠ []) (h3 : i < N → (stepsP m i x).W = []) (k1 : j ≤ N) (k2 : ∀ q, q < j → (stepsP m q x).W ≠ []) (k3 : j < N → (stepsP m j x).W = []) : i = j := by
  rcases Nat.lt_trichotomy i j with h | h | h
  · exact absurd (h3 (by omega)) (k2 i h)
  · exact h
  · exact absurd (k3 (by omega)) (h2 j h)
theorem far_more {m : Mdl} {x : Sm} {N J k j : Nat} (h1 : J ≤ N) (h2 : ∀ q, q < J → (stepsP m q x).W ≠ []) (h3 : J < N → (stepsP m J x).W = []) (k1 : j ≤ k) (k2 : ∀ q, q < j → (stepsP m q (stepsP m J x)).W ≠ []) (k3 : j < k → (stepsP m j (stepsP m J x)).W = []) :
    J + j ≤ N + k ∧ (∀ q, q < J + j → (stepsP m q x).W ≠ []) ∧ (J + j < N + k → (stepsP m (J + j) x).W = []) := by
  have ad : ∀ q, stepsP m q (stepsP m J x) = stepsP m (J + q) x := fun q => (stepsP_add m J q x).symm
  refine ⟨by omega, fun q hq => ?_, fun hlt => ?_⟩
  · by_cases c : q < J
    · exact h2 q c
    · have := k2 (q - J) (by omega)
      rw [ad, show J + (q - J) = q by omega] at this
      exact this
  · by_cases c : j < k
    · rw [← ad]; exact k3 c
    · have hJ : J < N := by omega
      have e := h3 hJ
      by_cases cj : j = 0
      · subst cj; exact e
      · exact absurd e (k2 0 (by omega))
theorem dnF_add (m : Mdl) (x : Sm) (J i : Nat) : dnF m (stepsP m J x) i = dnF m x (J + i) := by
  unfold dnF
  rw [stepsP_add]
theorem PAt.kept {S T : Nat → Bool} {P bm bc bs : Nat} {m : Mdl} {vd vp vl vi vS : Value} {x : Sm} {k nd : Nat} {u u2 : World} (h : PAt S P bm bc bs m vd vp vl vi vS x k nd u) (g : KpS T u u2) (hT : ∀ k, T k = true → S k = true) (tP : T P = false) (tm : T bm = false) (ts : T bs = false) : PAt S P bm bc bs m vd vp vl vi vS x k nd u2 := by
  obtain ⟨i, ⟨nx, hx, s⟩, l⟩ := h
  exact ⟨i, ⟨nx, hx, s.kept g hT tP tm ts⟩, fun q hq => Nat.lt_of_lt_of_le (l q hq) g.size⟩
theorem PAt.more {S S2 : Nat → Bool} {P bm bc bs : Nat} {m : Mdl} {vd vp vl vi vS : Value} {x : Sm} {k nd : Nat} {u u2 : World} (h : PAt S P bm bc bs m vd vp vl vi vS x k nd u) (g : Below u.heap.size u u2) (e : ∀ k, k < u.heap.size → S2 k = S k) (hl : ∀ q, S2 q = true → q < u2.heap.size) : PAt S2 P bm bc bs m vd vp vl vi vS x k nd u2 := by
  obtain ⟨i, ⟨nx, hx, s⟩, l⟩ := h
  exact ⟨i, ⟨nx, hx, s.below2 g e⟩, hl⟩
theorem PAt.subT {S : Nat → Bool} {P bm bc bs : Nat} {m : Mdl} {vd vp vl vi vS : Value} {x : Sm} {k nd : Nat} {u : World} (h : PAt S P bm bc bs m vd vp vl vi vS x k nd u) : ∀ k, T3 P bm bs k = true → S k = true := by
  obtain ⟨i, ⟨nx, hx, s⟩, l⟩ := h
  exact s.sub

end Go.Proofs.Ythkfaeplmmlnlaa
