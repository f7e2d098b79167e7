/- Slices that hold a list of numbers, and the document's Ints at two of them. -/
import Derived.Test.YtcbpekliijbhoaaPackRefList
import Derived.Test.YtcbpekliijbhoaaFrameAid
import Derived.Test.YtcbpekliijbhoaaPackLaws
namespace Go.Proofs.Ytcbpekliijbhoaa
open Go.RowKit

/-- the slice v holds the numbers zs -/
def SliceHas (w : World) (v : Value) (zs : List Int) : Prop :=
  ∃ ao cap, v = .slice ao zs.length cap ∧ zs.length ≤ cap ∧ cap ≤ maxLen ∧ (zs ≠ [] → ∃ b o, ao = some ⟨b, o, none⟩ ∧ b < w.heap.size ∧ ∀ i, i < zs.length → w.cell? ⟨b, o + i, none⟩ = some (.int .i64 (zs.getD i 0)))

theorem sliceHas_of_own {w : World} {base : Nat} {v : Value} {n : Nat} {zs : List Int} (h : w.ownsRow base 3 1 v n (zs.map (Value.int .i64))) : SliceHas w v zs := by
  have hl : zs.length = n := by simpa using h.1
  subst hl
  rcases h.2 with ⟨rfl, h0⟩ | ⟨g, cap, cur, rfl, hb, hg, hc1, hc2, hc3, hc4⟩
  · exact ⟨none, 0, by simp [h0], by omega, by omega, fun hne => absurd (List.length_eq_zero_iff.1 h0) hne⟩
  · refine ⟨_, cap, rfl, hc1, hc2, fun _ => ⟨g, 0, rfl, (Array.getElem?_eq_some_iff.1 hg).1, fun i hi => ?_⟩⟩
    have := h.cellAt i (by omega)
    rw [Nat.zero_add, this]
    simp [List.getElem?_eq_getElem hi]

theorem sliceHas_below {w w' : World} {v : Value} {zs : List Int} (h : SliceHas w v zs) (hb : Below w.heap.size w w') : SliceHas w' v zs := by
  obtain ⟨ao, cap, rfl, h1, h2, h3⟩ := h
  refine ⟨ao, cap, rfl, h1, h2, fun hne => ?_⟩
  obtain ⟨b, o, e, hlt, hc⟩ := h3 hne
  exact ⟨b, o, e, Nat.lt_of_lt_of_le hlt hb.size, fun i hi => by rw [hb.cell (p := ⟨b, o + i, none⟩) hlt]; exact hc i hi⟩

theorem addr_plain {w : World} {x : Addr} {u : Value} (h : w.cell? (x.add 0) = some u) : x = ⟨x.block, x.off, none⟩ := by
  obtain ⟨b, off, spot⟩ := x
  have hspot : spot = none := by simpa [Addr.add] using World.cell?_spot h
  subst hspot
  rfl
theorem add_plain (b o i : Nat) : (⟨b, o, none⟩ : Addr).add i = ⟨b, o + i, none⟩ := by unfold Addr.add; split <;> simp_all

theorem cell_lt {w : World} {b o : Nat} {u : Value} (h : w.cell? ⟨b, o, none⟩ = some u) : b < w.heap.size := by
  rcases Nat.lt_or_ge b w.heap.size with h' | h'
  · exact h'
  · simp [World.cell?, Array.getElem?_eq_none h'] at h

theorem sliceHas_of_row {w : World} {a : Option Addr} {len cap : Nat} {zs : List Int} (h : IsRow .i64 w a len cap zs) : SliceHas w (.slice a len cap) (zs.take len) := by
  rcases h with ⟨rfl, rfl, rfl, rfl⟩ | ⟨x, rfl, hl, hm, hz, hcell, _⟩
  · exact ⟨none, 0, rfl, by simp, by omega, fun hne => absurd rfl hne⟩
  · have e : (zs.take len).length = len := by rw [List.length_take]; omega
    refine ⟨some x, cap, by rw [e], by omega, hm, fun hne => ?_⟩
    have hpos : 0 < len := by
      rcases Nat.eq_zero_or_pos len with h0 | h0
      · subst h0; simp at hne
      · exact h0
    have h0 := hcell 0 (by omega)
    have hx := addr_plain h0
    generalize x.block = b at hx
    generalize x.off = o at hx
    subst hx
    refine ⟨b, o, rfl, ?_, fun i hi => ?_⟩
    · rw [add_plain] at h0; exact cell_lt h0
    · have := hcell i (by omega)
      rw [add_plain] at this
      rw [this]
      simp [List.getD, show i < len by omega]

theorem ints_any {w : World} {v1 v2 : Value} {zs : List Int} (h1 : SliceHas w v1 zs) (h2 : SliceHas w v2 zs) :
    Calls Try.prog 26 #[v1, v2] w fun e w' => e = .returned (.bool true) ∧ Below w.heap.size w w' := by
  obtain ⟨a1, c1, rfl, l1, m1, k1⟩ := h1
  obtain ⟨a2, c2, rfl, l2, m2, k2⟩ := h2
  by_cases hne : zs = []
  · subst hne; exact ints_zero a1 a2 c1 c2 w
  · obtain ⟨b1, o1, rfl, _, g1⟩ := k1 hne
    obtain ⟨b2, o2, rfl, _, g2⟩ := k2 hne
    exact ints_same b1 o1 c1 b2 o2 c2 zs (by omega) w g1 g2

set_option maxHeartbeats 800000 in
theorem packReads_core (s : ByteArray) (a : Int) (w : World) (x0 x1 x2 y0 y1 y2 z1 z2 q1 q2 : Int) (t : ByteArray) (l : List Int)
    (H1 : Hid (∀ w, Calls Try.prog 18 #[.string s, .int .i64 a] w fun e w' => e = .returned (.tuple #[.int .u64 x0, .int .i64 x1, .int .i64 x2]) ∧ w = w'))
    (H2 : Hid (∀ w, Calls Try.prog 19 #[.string s, .int .i64 a] w fun e w' => e = .returned (.tuple #[.int .u64 x0, .int .i64 x1, .int .i64 x2]) ∧ w = w'))
    (H3 : Hid (∀ w, Calls Try.prog 20 #[.string s, .int .i64 a] w fun e w' => e = .returned (.tuple #[.int .i64 y0, .int .i64 y1, .int .i64 y2]) ∧ w = w'))
    (H4 : Hid (∀ w, Calls Try.prog 21 #[.string s, .int .i64 a] w fun e w' => e = .returned (.tuple #[.int .i64 y0, .int .i64 y1, .int .i64 y2]) ∧ w = w'))
    (H5 : Hid (∀ w, Calls Try.prog 22 #[.string s, .int .i64 a] w fun e w' => e = .returned (.tuple #[.string t, .int .i64 z1, .int .i64 z2]) ∧ Below w.heap.size w w'))
    (H6 : Hid (∀ w, Calls Try.prog 23 #[.string s, .int .i64 a] w fun e w' => e = .returned (.tuple #[.string t, .int .i64 z1, .int .i64 z2]) ∧ Below w.heap.size w w'))
    (H7 : Hid (∀ w, Calls Try.prog 24 #[.string s, .int .i64 a] w (ListRet w (l, q1, q2))))
    (H8 : Hid (∀ w, Calls Try.prog 25 #[.string s, .int .i64 a] w (ListRet w (l, q1, q2)))) :
    Calls Try.prog 5 #[.string s, .int .i64 a] w fun e w' => e = .returned (.bool true) ∧ Below w.heap.size w w' := by
  go_enter Try.func5, Try.ntmps5
  go_wp2_with fail
  refine (H1.out _).mono ?_
  rintro e w1 ⟨rfl, rfl⟩
  go_wp2_with fail
  refine (H2.out _).mono ?_
  rintro e w1 ⟨rfl, rfl⟩
  go_wp2_with fail
  refine (awake_any _).mono ?_
  rintro e w2 ⟨rfl, hb2⟩
  go_wp2_with fail
  refine (H3.out _).mono ?_
  rintro e w3 ⟨rfl, rfl⟩
  go_wp2_with fail
  refine (H4.out _).mono ?_
  rintro e w3 ⟨rfl, rfl⟩
  go_wp2_with fail
  refine (H5.out _).mono ?_
  rintro e w4 ⟨rfl, hb4⟩
  go_wp2_with fail
  refine (H6.out _).mono ?_
  rintro e w5 ⟨rfl, hb5⟩
  go_wp2_with fail
  refine (H7.out _).mono ?_
  rintro e w6 ⟨v6, rfl, hown6, hb6⟩
  have S6 := Lib.hid (sliceHas_of_own hown6)
  clear hown6
  go_wp2_with fail
  refine (H8.out _).mono ?_
  rintro e w7 ⟨v7, rfl, hown7, hb7⟩
  have S7 := Lib.hid (sliceHas_of_own hown7)
  have S8 := Lib.hid (sliceHas_below S6.out hb7)
  clear hown7
  go_wp2_with fail
  refine (ints_any S8.out S7.out).mono ?_
  rintro e w8 ⟨rfl, hb8⟩
  go_wp2_with fail
  go_ret
  exact ⟨rfl, bthen (bthen (bthen (bthen (bthen hb2 hb4) hb5) hb6) hb7) hb8⟩

theorem packReads_walk (s : ByteArray) (a : Int) (w : World) (hs : s.size ≤ maxLen) (ha : (Lit.int .i64 a).wf = true) :
    Calls Try.prog 5 #[.string s, .int .i64 a] w fun e w' => e = .returned (.bool true) ∧ Below w.heap.size w w' := by
  have hw := i64_bd ha
  exact packReads_core s a w _ _ _ _ _ _ _ _ _ _ _ _ (readU_any s a hs hw) (refReadU_any s a hs hw) (readI_any s a hs hw) (refReadI_any s a hs hw) (readText_any s a hs hw) (refReadText_any s a hs hw)
    (readList_any s a hs hw) (refReadList_any s a hs hw)

end Go.Proofs.Ytcbpekliijbhoaa
