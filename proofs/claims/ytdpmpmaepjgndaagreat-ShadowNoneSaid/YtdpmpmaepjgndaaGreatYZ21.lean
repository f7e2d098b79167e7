/- Slices that came in, as rows: what the frames share. A crash that came in, opened. What came in, opened: stage 14's acts, alone, beside a crash, beside an image. The walks of stage 14's four laws over what came in as the frames lay it. The slot that does not hold the committed root: what it may say, how it is written over. Plain mathematics. Counting by pairs: as many here as there. Plain mathematics. The page table as payloads: parts of it, there and back. Plain mathematics. What is written to a page is read again, and changes no other one. Plain mathematics. -/
import Derived.Test.YtdpmpmaepjgndaaGreatYZ2
import Derived.Test.YtdpmpmaepjgndaaGreatYZ17
import Derived.Test.YtdpmpmaepjgndaaGreatYZ11
import Derived.Test.YtdpmpmaepjgndaaGreatYQShCrashW
import Derived.Test.YtdpmpmaepjgndaaGreatYZ12
import Derived.Test.YtdpmpmaepjgndaaGreatYQShOnceW
import Derived.Test.YtdpmpmaepjgndaaGreatYQShImagesW
import Derived.Test.YtdpmpmaepjgndaaGreatYZ1
namespace Go.Proofs.YtdpmpmaepjgndaaGreat
open Go.ChangeShapes Go.WideShapes Go.ChangeAt Go.RowKit Go.Joins
set_option linter.unusedVariables false
set_option maxRecDepth 100000

theorem rows_sl {C : Nat} (hC : 0 < C) {ok : List Value → Prop} {w : World} {a : Option Addr} {len cap : Nat} (h : CellRows C ok w a len cap) :
    ∃ f : Nat → List Value, (∀ i, i < len → (f i).length = C ∧ ok (f i)) ∧ Sl C (fun i j => (f i).getD j undef) len (.slice a len cap) w := by
  rcases h with ⟨rfl, rfl, rfl⟩ | ⟨x, rfl, hl, hm, hc⟩
  · exact ⟨fun _ => [], fun i hi => absurd hi (Nat.not_lt_zero i), none, 0, rfl, Nat.le_refl _, by omega, fun h => absurd h (Nat.lt_irrefl 0)⟩
  · have hex : ∀ i, ∃ cs : List Value, i < len → cs.length = C ∧ ok cs ∧ ∀ j, j < C → w.cell? (x.add (i * C + j)) = cs[j]? := fun i => by
      by_cases hi : i < len
      · obtain ⟨cs, h1, h2, h3⟩ := hc i hi; exact ⟨cs, fun _ => ⟨h1, h2, h3⟩⟩
      · exact ⟨[], fun h => absurd h hi⟩
    obtain ⟨f, hf⟩ : ∃ f : Nat → List Value, ∀ i, i < len → (f i).length = C ∧ ok (f i) ∧ ∀ j, j < C → w.cell? (x.add (i * C + j)) = (f i)[j]? := ⟨fun i => Classical.choose (hex i), fun i => Classical.choose_spec (hex i)⟩
    refine ⟨f, fun i hi => ⟨(hf i hi).1, (hf i hi).2.1⟩, some x, cap, rfl, hl, hm, fun hn => ?_⟩
    have h0 := (hf 0 hn).2.2 0 hC
    rw [Nat.zero_mul, List.getElem?_eq_getElem (by rw [(hf 0 hn).1]; exact hC)] at h0
    obtain ⟨b, off, spot⟩ := x
    have hspot : spot = none := by simpa [Addr.add] using World.cell?_spot h0
    subst hspot
    refine ⟨b, off, rfl, ?_, fun i hi j hj => ?_⟩
    · rw [add_plain] at h0
      rcases Nat.lt_or_ge b w.heap.size with h' | h'
      · exact h'
      · simp [World.cell?, Array.getElem?_eq_none h'] at h0
    · have := (hf i hi).2.2 j hj
      rw [add_plain] at this
      rw [Nat.add_assoc, this, List.getElem?_eq_getElem (by rw [(hf i hi).1]; exact hj)]
      simp [List.getD, List.getElem?_eq_getElem (show j < (f i).length by rw [(hf i hi).1]; exact hj)]

theorem choose_fn {α : Type} {n : Nat} {p : Nat → α → Prop} (d : α) (h : ∀ i, i < n → ∃ x, p i x) : ∃ f : Nat → α, ∀ i, i < n → p i (f i) := by
  have hex : ∀ i, ∃ x, i < n → p i x := fun i => by
    by_cases hi : i < n
    · obtain ⟨x, hx⟩ := h i hi; exact ⟨x, fun _ => hx⟩
    · exact ⟨d, fun h => absurd h hi⟩
  exact ⟨fun i => Classical.choose (hex i), fun i => Classical.choose_spec (hex i)⟩

section
variable {H : Type} {enc : TypeId × Value → H} {W : World}

/-- what a slice's one cell is -/
theorem slice_cell {P : Program} {base fuel : Nat} {t e : TypeId} {c : Value} {x : DataW H × List MemPlace} (ht : P.underlying t = some (.slice e)) (hf : DataW.trod enc P W base (fun _ => true) true fuel t [c] = some x) : ∃ a len cap, c = .slice a len cap := by
  rcases Go.Deep.open_slice ht hf with ⟨hcs, _⟩ | ⟨y, l, cp, m, n, D, Pl, hcs, _⟩
  · exact ⟨none, 0, 0, by simpa using hcs⟩
  · exact ⟨some y, l, cp, by simpa using hcs⟩

end

end Go.Proofs.YtdpmpmaepjgndaaGreat
namespace Go.Proofs.YtdpmpmaepjgndaaGreat
open Go.ChangeShapes Go.WideShapes Go.ChangeAt Go.RowKit Go.Joins
set_option linter.unusedVariables false
set_option maxRecDepth 100000

section
variable {H : Type} {enc : TypeId × Value → H} {W : World}
theorem bools_of {base fuel : Nat} {c : Value} {x : DataW H × List MemPlace} (hf : DataW.trod enc Tryz.prog W base (fun _ => true) true fuel 48 [c] = some x) : ∃ l : List Bool, Sl 1 (fun i _ => .bool (l.getD i false)) l.length c W := by
  obtain ⟨a, len, cap, rfl⟩ := slice_cell Tryz.underlying48 hf
  have h : CellRows 1 (fun cs => ∃ x : Bool, cs = [.bool x]) W a len cap := by
    refine cellRows_of (C := 1) Tryz.underlying48 (by kernel_rfl) hf ?_
    intro cs m y hl hy
    obtain ⟨b, hb, _⟩ := DataW.trod_bool Tryz.underlying4 hy
    exact ⟨b, hb⟩
  obtain ⟨f, hf1, hs⟩ := rows_sl (by omega) h
  obtain ⟨d, hd⟩ := choose_fn false fun i hi => (hf1 i hi).2
  have hlen : ((List.range len).map d).length = len := by simp
  refine ⟨(List.range len).map d, ?_⟩
  rw [hlen]
  refine hs.congr fun i hi j hj => ?_
  rcases (show j = 0 by omega) with rfl
  have e9 : ((List.range len).map d).getD i false = d i := by rw [List.getD_eq_getElem?_getD, List.getElem?_map, List.getElem?_range hi]; rfl
  rw [hd i hi, e9]; rfl
theorem crA_of {l : List Bool} {t b : Int} {c : Value} (h : Sl 1 (fun i _ => .bool (l.getD i false)) l.length c W) (ht : -9223372036854775808 ≤ t ∧ t ≤ 9223372036854775807) (hb : -9223372036854775808 ≤ b ∧ b ≤ 9223372036854775807) : CrA W.heap.size l t b c W := by
  obtain ⟨ao, cap, e, h1, h2, h3⟩ := h
  refine ⟨⟨ao, cap, e, h1, h2, fun hn => ?_⟩, ht, hb⟩
  obtain ⟨B, o, e2, hA⟩ := h3 hn
  exact ⟨B, o, e2, hA.1, fun i hi => by have := hA.2 i hi 0 (by omega); rwa [Nat.mul_one, Nat.add_zero] at this⟩
theorem bd_wf {x : Int} (h : (Lit.int .i64 x).wf = true) : -9223372036854775808 ≤ x ∧ x ≤ 9223372036854775807 := i64_bd h
/-- a crash's three cells -/
theorem crash_cells {base fuel : Nat} {l : List Value} {x : DataW H × List MemPlace} (hl : l.length = 3) (hf : DataW.trod enc Tryz.prog W base (fun _ => true) true fuel 50 l = some x) :
    ∃ (keep : List Bool) (t b : Int) (v : Value), l = [v, .int .i64 t, .int .i64 b] ∧ CrA W.heap.size keep t b v W := by
  obtain ⟨c0, c1, c2, rfl⟩ := list3 hl
  obtain ⟨n, hs⟩ := struct_cells Tryz.underlying50 hf
  obtain ⟨y0, g0⟩ := hs 0 48 0 1 rfl (by kernel_rfl)
  obtain ⟨y1, g1⟩ := hs 1 3 1 1 rfl (by kernel_rfl)
  obtain ⟨a1, e1, _, w1⟩ := DataW.trod_int Tryz.underlying3 g1
  obtain rfl : c1 = .int .i64 a1 := by simpa using e1
  obtain ⟨y2, g2⟩ := hs 2 3 2 1 rfl (by kernel_rfl)
  obtain ⟨a2, e2, _, w2⟩ := DataW.trod_int Tryz.underlying3 g2
  obtain rfl : c2 = .int .i64 a2 := by simpa using e2
  obtain ⟨k, hk⟩ := bools_of g0
  exact ⟨k, a1, a2, c0, rfl, crA_of hk (bd_wf w1) (bd_wf w2)⟩
end

end Go.Proofs.YtdpmpmaepjgndaaGreat
namespace Go.Proofs.YtdpmpmaepjgndaaGreat
open Go.ChangeShapes Go.WideShapes Go.ChangeAt Go.RowKit Go.Joins
set_option linter.unusedVariables false
set_option maxRecDepth 100000

section
variable {H : Type} {enc : TypeId × Value → H} {W : World}
def sasV (x : Int × Int × ByteArray) : List Value := [.int .i64 x.1, .int .i64 x.2.1, .string x.2.2]
theorem sas_cells {base fuel : Nat} {l : List Value} {x : DataW H × List MemPlace} (hl : l.length = 3) (hf : DataW.trod enc Tryz.prog W base (fun _ => true) true fuel 31 l = some x) :
    ∃ y : Int × Int × ByteArray, l = sasV y := by
  obtain ⟨c0, c1, c2, rfl⟩ := list3 hl
  obtain ⟨n, hs⟩ := struct_cells Tryz.underlying31 hf
  obtain ⟨y0, g0⟩ := hs 0 3 0 1 rfl (by kernel_rfl)
  obtain ⟨a0, e0, _, w0⟩ := DataW.trod_int Tryz.underlying3 g0
  obtain rfl : c0 = .int .i64 a0 := by simpa using e0
  obtain ⟨y1, g1⟩ := hs 1 3 1 1 rfl (by kernel_rfl)
  obtain ⟨a1, e1, _, w1⟩ := DataW.trod_int Tryz.underlying3 g1
  obtain rfl : c1 = .int .i64 a1 := by simpa using e1
  obtain ⟨y2, g2⟩ := hs 2 9 2 1 rfl (by kernel_rfl)
  obtain ⟨a2, e2, _, w2⟩ := DataW.trod_string Tryz.underlying9 g2
  obtain rfl : c2 = .string a2 := by simpa using e2
  exact ⟨(a0, a1, a2), rfl⟩
theorem sas_row {len cap : Nat} {ao : Option Addr} (h : CellRows 3 (fun cs => ∃ x : Int × Int × ByteArray, cs = sasV x) W ao len cap) : ∃ A : Nat → Int × Int × ByteArray, SaAt W.heap.size len A ao cap W := by
  obtain ⟨f, hf1, hs⟩ := rows_sl (by omega) h
  obtain ⟨d, hd⟩ := choose_fn ((0, 0, ByteArray.empty) : Int × Int × ByteArray) fun i hi => (hf1 i hi).2
  obtain ⟨a1, c1, e1, s1, s2, s3⟩ := hs
  simp only [Value.slice.injEq, true_and] at e1
  obtain ⟨rfl, rfl⟩ := e1
  refine ⟨d, ⟨s1, s2⟩, fun hn => ?_⟩
  obtain ⟨B, o, e2, hA⟩ := s3 hn
  refine ⟨B, o, e2, hA.1, fun i hi => ?_⟩
  have h0 := hA.2 i hi 0 (by omega)
  have h1 := hA.2 i hi 1 (by omega)
  have h2 := hA.2 i hi 2 (by omega)
  rw [Nat.add_zero] at h0
  refine ⟨h0.trans ?_, h1.trans ?_, h2.trans ?_⟩
  · show some ((f i).getD 0 undef) = _
    rw [hd i hi]; rfl
  · show some ((f i).getD 1 undef) = _
    rw [hd i hi]; rfl
  · show some ((f i).getD 2 undef) = _
    rw [hd i hi]; rfl
/-- a slice of acts as a cell -/
theorem sas_of {base fuel : Nat} {c : Value} {x : DataW H × List MemPlace} (hf : DataW.trod enc Tryz.prog W base (fun _ => true) true fuel 22 [c] = some x) : ∃ (n : Nat) (A : Nat → Int × Int × ByteArray) (ao : Option Addr) (cap : Nat), c = .slice ao n cap ∧ SaAt W.heap.size n A ao cap W := by
  obtain ⟨a, len, cap, rfl⟩ := slice_cell Tryz.underlying22 hf
  have h : CellRows 3 (fun cs => ∃ x : Int × Int × ByteArray, cs = sasV x) W a len cap := by
    refine cellRows_of (C := 3) Tryz.underlying22 (by kernel_rfl) hf ?_
    intro cs m y hl hy
    exact sas_cells hl hy
  obtain ⟨A, hA⟩ := sas_row h
  exact ⟨len, A, a, cap, rfl, hA⟩
theorem open_sas {r : Reach} {b0 base : Nat} {v : Value} {d : DataW H} {p : List MemPlace} (hv : Value.okWide Tryz.prog W r b0 22 v) (h : DataW.Trod enc Tryz.prog W base (fun _ => true) true 22 v d p) :
    ∃ (n : Nat) (A : Nat → Int × Int × ByteArray) (ao : Option Addr) (cap : Nat), v = .slice ao n cap ∧ SaAt W.heap.size n A ao cap W := by
  obtain ⟨ao, len, cap, rfl⟩ := okWide_slice Tryz.underlying22 hv
  obtain ⟨fuel, hf⟩ := h
  exact sas_of (by simpa [Value.cells] using hf)
theorem u8_lt14 {n : Int} (h : (Lit.int .u8 n).wf = true) : ∃ k : Nat, n = (k : Int) ∧ k < 256 := by
  simp [Lit.wf] at h
  have e1 : IntKind.u8.min = 0 := rfl
  have e2 : IntKind.u8.max = 255 := rfl
  exact ⟨n.toNat, by omega, by omega⟩
theorem open_four {r : Reach} {b0 base : Nat} {v : Value} {d : DataW H} {p : List MemPlace} (hv : Value.okWide Tryz.prog W r b0 52 v) (h : DataW.Trod enc Tryz.prog W base (fun _ => true) true 52 v d p) :
    ∃ (n : Nat) (A : Nat → Int × Int × ByteArray) (ao : Option Addr) (cap q : Nat) (keep : List Bool) (t b : Int) (vK : Value) (m : Nat) (M : Nat → Int × Int × ByteArray) (mo : Option Addr) (mcap : Nat), v = .agg #[.slice ao n cap, .int .u8 (q : Int), vK, .int .i64 t, .int .i64 b, .slice mo m mcap] ∧ q < 256 ∧ SaAt W.heap.size n A ao cap W ∧ CrA W.heap.size keep t b vK W ∧ SaAt W.heap.size m M mo mcap W := by
  obtain ⟨cs, k, rfl, hl, hs⟩ := open_struct Tryz.underlying52 hv h
  obtain ⟨c0, c1, c2, c3, c4, c5, rfl⟩ := list6 (show cs.length = 6 by rw [hl]; kernel_rfl)
  obtain ⟨y0, g0⟩ := hs 0 22 0 1 rfl (by kernel_rfl)
  obtain ⟨y1, g1⟩ := hs 1 5 1 1 rfl (by kernel_rfl)
  obtain ⟨y2, g2⟩ := hs 2 50 2 3 rfl (by kernel_rfl)
  obtain ⟨y3, g3⟩ := hs 3 22 5 1 rfl (by kernel_rfl)
  obtain ⟨n, A, ao, cap, rfl, hA⟩ := sas_of (by simpa using g0)
  obtain ⟨a1, e1, _, w1⟩ := DataW.trod_int Tryz.underlying5 g1
  obtain rfl : c1 = .int .u8 a1 := by simpa using e1
  obtain ⟨q, rfl, hq⟩ := u8_lt14 w1
  obtain ⟨keep, t, b, vK, e, hC⟩ := crash_cells (l := [c2, c3, c4]) rfl (by simpa using g2)
  simp only [List.cons.injEq, and_true] at e
  obtain ⟨rfl, rfl, rfl⟩ := e
  obtain ⟨m, M, mo, mcap, rfl, hM⟩ := sas_of (by simpa using g3)
  exact ⟨n, A, ao, cap, q, keep, t, b, _, m, M, mo, mcap, rfl, hq, hA, hC, hM⟩
theorem open_image {r : Reach} {b0 base : Nat} {v : Value} {d : DataW H} {p : List MemPlace} (hv : Value.okWide Tryz.prog W r b0 62 v) (h : DataW.Trod enc Tryz.prog W base (fun _ => true) true 62 v d p) :
    ∃ (n : Nat) (A : Nat → Int × Int × ByteArray) (ao : Option Addr) (cap : Nat) (i : Int) (b img : ByteArray), v = .agg #[.slice ao n cap, .int .i64 i, .string b, .string img] ∧ SaAt W.heap.size n A ao cap W := by
  obtain ⟨cs, k, rfl, hl, hs⟩ := open_struct Tryz.underlying62 hv h
  obtain ⟨c0, c1, c2, c3, rfl⟩ := list4 (show cs.length = 4 by rw [hl]; kernel_rfl)
  obtain ⟨y0, g0⟩ := hs 0 22 0 1 rfl (by kernel_rfl)
  obtain ⟨y1, g1⟩ := hs 1 3 1 1 rfl (by kernel_rfl)
  obtain ⟨y2, g2⟩ := hs 2 9 2 1 rfl (by kernel_rfl)
  obtain ⟨y3, g3⟩ := hs 3 9 3 1 rfl (by kernel_rfl)
  obtain ⟨n, A, ao, cap, rfl, hA⟩ := sas_of (by simpa using g0)
  obtain ⟨a1, e1, _, w1⟩ := DataW.trod_int Tryz.underlying3 g1
  obtain rfl : c1 = .int .i64 a1 := by simpa using e1
  obtain ⟨a2, e2, _, w2⟩ := DataW.trod_string Tryz.underlying9 g2
  obtain rfl : c2 = .string a2 := by simpa using e2
  obtain ⟨a3, e3, _, w3⟩ := DataW.trod_string Tryz.underlying9 g3
  obtain rfl : c3 = .string a3 := by simpa using e3
  exact ⟨n, A, ao, cap, a1, a2, a3, rfl, hA⟩
end

end Go.Proofs.YtdpmpmaepjgndaaGreat
namespace Go.Proofs.YtdpmpmaepjgndaaGreat
open Go.RowKit Go.Deep
set_option linter.unusedVariables false
set_option maxRecDepth 100000

section
variable {PM : StM} {PF PC : FlM}
theorem shadowDoes_of (I : Sh14 PM PF PC) (x : Int) (n : Nat) (A : Nat → Int × Int × ByteArray) (ao : Option Addr) (cap : Nat) (W : World) (p1 : (Lit.int .u8 x).wf = true) (ha : SaAt W.heap.size n A ao cap W) :
    Calls Tryz.prog 3 #[.int .u8 x, .slice ao n cap] W fun r u' => r = .returned (.bool true) ∧ Below W.heap.size W u' := by
  obtain ⟨p, rfl, hp⟩ := u8_lt14 p1
  exact does14_walk I p hp n A ao cap W ha
theorem shadowOnce_of (I : Sh14 PM PF PC) (R : Sh14R PM) (n : Nat) (A : Nat → Int × Int × ByteArray) (ao : Option Addr) (cap : Nat) (W : World) (ha : SaAt W.heap.size n A ao cap W) :
    Calls Tryz.prog 4 #[.slice ao n cap] W fun r u' => r = .returned (.bool true) ∧ Below W.heap.size W u' := once14_walk I R n A ao cap W ha
theorem shadowCrash_of (I : Sh14 PM PF PC) (C : Sh14C PM PF PC) (n : Nat) (A : Nat → Int × Int × ByteArray) (ao : Option Addr) (cap : Nat) (q : Nat) (keep : List Bool) (t b : Int) (v : Value) (m : Nat) (M : Nat → Int × Int × ByteArray) (mo : Option Addr) (mcap : Nat) (W : World) (hq : q < 256) (ha : SaAt W.heap.size n A ao cap W) (hc : CrA W.heap.size keep t b v W) (hm : SaAt W.heap.size m M mo mcap W) :
    Calls Tryz.prog 5 #[.agg #[.slice ao n cap, .int .u8 (q : Int), v, .int .i64 t, .int .i64 b, .slice mo m mcap]] W fun r u' => r = .returned (.bool true) ∧ Below W.heap.size W u' := crash14_walk I C n A ao cap q hq m M mo mcap W ha hc hm
theorem shadowImages_of {IM : ImM} (I : Sh14 PM PF PC) (II : Sh14I PM IM) (n : Nat) (A : Nat → Int × Int × ByteArray) (ao : Option Addr) (cap : Nat) (i : Int) (b img : ByteArray) (W : World) (ha : SaAt W.heap.size n A ao cap W) :
    Calls Tryz.prog 6 #[.agg #[.slice ao n cap, .int .i64 i, .string b, .string img]] W fun r u' => r = .returned (.bool true) ∧ Below W.heap.size W u' := images14_walk I II n A ao cap i b img W ha
end

end Go.Proofs.YtdpmpmaepjgndaaGreat
namespace Go.Proofs.YtdpmpmaepjgndaaGreat
open Go.RowKit
set_option linter.unusedVariables false
set_option linter.unusedSimpArgs false
set_option maxRecDepth 100000

/-- an epoch's bytes -/
def epB (E : Int) (j : Nat) : Int := byD (strOfNums (beI 8 (flip63 E))) j
theorem epR_B (r : Rt) (j : Nat) : byD (epR r) j = epB r.ep j := rfl
theorem epB_at (E : Int) (j : Nat) (h : j < 8) : epB E j = (beI 8 (flip63 E))[j]'(by rw [beI_len]; exact h) := byD_nums _ (beI_mem _ _) _ _
theorem epB_last {E : Int} (h1 : -9223372036854775808 ≤ E) (h2 : E ≤ 9223372036854775807) : epB E 7 = E % 256 := by
  rw [epB_at E 7 (by omega)]
  show flip63 E / 256 ^ 0 % 256 = _
  rw [flip63_eq E h1 h2]
  omega
theorem epB_first {E : Int} (h1 : 0 ≤ E) (h2 : E ≤ 1099511627777) : epB E 0 = 128 := by
  rw [epB_at E 0 (by omega)]
  show flip63 E / 256 ^ 7 % 256 = _
  rw [flip63_eq E (by omega) (by omega), show (256 : Int) ^ 7 = 72057594037927936 from by decide]
  omega
/-- a slot that is not the one of the committed root (of epoch E): it says no root as new as that, and none when the next one is written over it in part -/
def StaleOk (g : Nat → Int) (E : Int) : Prop :=
  g 63 ≠ (E + 1) % 256 ∧ ((∀ j, j < 8 → g j = epB (E + 1) j) ∨ ∀ r, RightR r → (∀ j, j < 8 → g (56 + j) = epB r.ep j) → r.ep < E)
theorem StaleOk.ext {g f : Nat → Int} {E : Int} (h : StaleOk g E) (e : ∀ j, j < 64 → f j = g j) : StaleOk f E := by
  refine ⟨by rw [e 63 (by omega)]; exact h.1, ?_⟩
  rcases h.2 with a | a
  · exact .inl fun j hj => by rw [e j (by omega)]; exact a j hj
  · exact .inr fun r hr hb => a r hr fun j hj => by rw [← e _ (by omega), hb j hj]
theorem StaleOk.says {g : Nat → Int} {E : Int} (h : StaleOk g E) (h1 : 0 ≤ E) (h2 : E ≤ 1099511627776) {r : Rt} (hr : RightR r) (ha : ∀ j, j < 8 → g j = epB r.ep j) (hb : ∀ j, j < 8 → g (56 + j) = epB r.ep j) : r.ep < E := by
  rcases h.2 with a | a
  · exfalso
    have e1 := (hb 7 (by omega)).trans (ha 7 (by omega)).symm
    rw [a 7 (by omega), epB_last (by omega) (by omega)] at e1
    exact h.1 e1
  · exact a r hr hb
theorem StaleOk.torn {g : Nat → Int} {E : Int} (h : StaleOk g E) {b : Rt} (he : b.ep = E + 1) {k : Nat} (hk : k < 64) : StaleOk (tornF k (byD (bytesR b)) g) E := by
  refine ⟨?_, ?_⟩
  · unfold tornF
    rw [if_neg (by omega)]
    exact h.1
  · by_cases c : 8 ≤ k
    · refine .inl fun j hj => ?_
      unfold tornF
      rw [if_pos (by omega), bytesR_ep b j hj, epR_B, he]
    · rcases h.2 with a | a
      · refine .inl fun j hj => ?_
        unfold tornF
        split
        · rw [bytesR_ep b j hj, epR_B, he]
        · exact a j hj
      · refine .inr fun r hr hb => a r hr fun j hj => ?_
        rw [← hb j hj]
        unfold tornF
        rw [if_neg (by omega)]
theorem StaleOk.of {a : Rt} (ha : RightR a) : StaleOk (byD (bytesR a)) (a.ep + 1) := by
  have h1 := ha.2.2.1
  have h2 := ha.2.2.2.1
  refine ⟨?_, .inr fun r hr hb => ?_⟩
  · have e := bytesR_end a 7 (by omega)
    rw [epR_B, epB_last (by omega) (by omega)] at e
    rw [show (63 : Nat) = 56 + 7 from rfl, e]
    omega
  · have : r.ep = a.ep := epR_inj hr ha fun j hj => by rw [epR_B r j, ← hb j hj, bytesR_end a j hj]
    omega
theorem StaleOk.zero : StaleOk (fun _ => 0) 1 := by
  refine ⟨by decide, .inr fun r hr hb => ?_⟩
  exfalso
  have e := hb 0 (by omega)
  rw [epB_first (by have := hr.2.2.1; omega) (by have := hr.2.2.2.1; omega)] at e
  exact absurd e (by decide)

end Go.Proofs.YtdpmpmaepjgndaaGreat
namespace Go.Proofs.YtdpmpmaepjgndaaGreat
set_option linter.unusedVariables false

theorem cntB_but {Q : Nat → Bool} {p m : Nat} (hp : p < m) (hq : Q p = true) : cntB Q m = cntB (fun k => Q k && (k != p)) m + 1 := by
  induction m with
  | zero => omega
  | succ m ih =>
    simp only [cntB]
    by_cases c : p = m
    · subst c
      rw [cntB_ext (q := Q) (p := fun k => Q k && (k != p)) (n := p) (fun i hi => by simp [show i ≠ p by omega]), if_pos hq]
      simp
    · rw [ih (by omega)]
      have e : (Q m && (m != p)) = Q m := by simp [show m ≠ p by omega]
      simp only [e]
      omega
/-- as many l below n are so as p below m are so, if they go in pairs -/
theorem cnt_pairs {P : Nat → Bool} {g : Nat → Nat} {m : Nat} : ∀ {n : Nat} {Q : Nat → Bool}, (∀ l, l < n → P l = true → g l < m ∧ Q (g l) = true) → (∀ k l, k < n → l < n → P k = true → P l = true → g k = g l → k = l) → (∀ p, p < m → Q p = true → ∃ l, l < n ∧ P l = true ∧ g l = p) → cntB P n = cntB Q m
  | 0, Q, _, _, h3 => by
    show 0 = _
    rw [cntB_none fun p hp => by
      cases c : Q p with
      | false => rfl
      | true => obtain ⟨l, hl, _⟩ := h3 p hp c; omega]
  | n + 1, Q, h1, h2, h3 => by
    simp only [cntB]
    cases c : P n with
    | false =>
      rw [if_neg (by decide), Nat.add_zero]
      refine cnt_pairs (fun l hl => h1 l (by omega)) (fun k l hk hl => h2 k l (by omega) (by omega)) fun p hp hq => ?_
      obtain ⟨l, hl, hP, e⟩ := h3 p hp hq
      refine ⟨l, ?_, hP, e⟩
      have : l ≠ n := fun e9 => by rw [e9, c] at hP; cases hP
      omega
    | true =>
      obtain ⟨a, b⟩ := h1 n (by omega) c
      rw [if_pos rfl, cntB_but a b]
      congr 1
      refine cnt_pairs (fun l hl hP => ?_) (fun k l hk hl => h2 k l (by omega) (by omega)) fun p hp hq => ?_
      · obtain ⟨a2, b2⟩ := h1 l (by omega) hP
        refine ⟨a2, ?_⟩
        have : g l ≠ g n := fun e => by have := h2 l n (by omega) (by omega) hP c e; omega
        simp [b2, this]
      · simp only [Bool.and_eq_true, bne_iff_ne, ne_eq] at hq
        obtain ⟨l, hl, hP, e⟩ := h3 p hp hq.1
        refine ⟨l, ?_, hP, e⟩
        have : l ≠ n := fun e9 => hq.2 (by rw [← e, e9])
        omega

end Go.Proofs.YtdpmpmaepjgndaaGreat
namespace Go.Proofs.YtdpmpmaepjgndaaGreat
open Go.RowKit
set_option linter.unusedVariables false
set_option linter.unusedSimpArgs false
set_option maxRecDepth 100000

/-- a physical page; below 0: none -/
def clampP (x : Int) : Int := if x < 0 then -1 else x
theorem clampP_max (x : Int) : clampP x = max x (-1) := by unfold clampP; split <;> omega
/-- a part of a table -/
def partT (l : List Int) (p : Nat) : List Int := (l.drop (116 * p)).take 116
theorem partT_len (l : List Int) (p : Nat) : (partT l p).length = min 116 (l.length - 116 * p) := by unfold partT; rw [List.length_take, List.length_drop]
theorem partT_at (l : List Int) (p i : Nat) (h : i < (partT l p).length) : (partT l p)[i] = l[116 * p + i]'(by rw [partT_len] at h; omega) := by
  have : ∀ (h2 : i < ((l.drop (116 * p)).take 116).length), ((l.drop (116 * p)).take 116)[i] = l[116 * p + i]'(by rw [partT_len] at h; omega) := fun h2 => by rw [List.getElem_take, List.getElem_drop]
  exact this h
def partE (l : List Int) (p : Int) : Int := if p < 0 ∨ needR (l.length : Int) ≤ p then 3 else if ∃ x ∈ partT l p.toNat, 1023 < x then 2 else 0
def partS (l : List Int) (p : Nat) : ByteArray := strOfNums (twosL ((partT l p).map fun x => clampP x + 1))
theorem partS_size (l : List Int) (p : Nat) : (partS l p).size = 2 * (partT l p).length := by unfold partS; rw [strOfNums_size, twosL_len, List.length_map]
/-- the i-th number of a payload -/
def numP (s : ByteArray) (i : Nat) : Int := byD s (2 * i) * 256 + byD s (2 * i + 1)
theorem numP_bd (s : ByteArray) (i : Nat) : 0 ≤ numP s i ∧ numP s i ≤ 65535 := by
  have := byD_bd s (2 * i)
  have := byD_bd s (2 * i + 1)
  unfold numP; omega
def tellL (s : ByteArray) (m : Nat) : List Int := (List.range m).map fun i => numP s i - 1
theorem tellL_len (s : ByteArray) (m : Nat) : (tellL s m).length = m := by simp [tellL]
def tellE (s : ByteArray) (m : Int) : Int := if m < 0 ∨ 116 < m then 2 else if (s.size : Int) < 2 * m then 5 else if ∃ i, i < m.toNat ∧ 1024 < numP s i then 14 else 0
theorem numP_part {l : List Int} {p i : Nat} (h : i < (partT l p).length) (hx : ∀ x ∈ partT l p, x ≤ 1023) : numP (partS l p) i = clampP (partT l p)[i] + 1 := by
  have hl : i < ((partT l p).map fun x => clampP x + 1).length := by rw [List.length_map]; exact h
  obtain ⟨e1, e2⟩ := twosL_at _ i hl
  have hlen : (twosL ((partT l p).map fun x => clampP x + 1)).length = 2 * (partT l p).length := by rw [twosL_len, List.length_map]
  unfold numP partS
  rw [byD_nums _ (twosL_bd _) _ (by omega), byD_nums _ (twosL_bd _) _ (by omega)]
  rw [List.getD_eq_getElem?_getD, List.getElem?_eq_getElem (by omega)] at e1 e2
  simp only [Option.getD_some] at e1 e2
  rw [e1, e2, List.getElem_map]
  have hb := hx _ (List.getElem_mem h)
  have hc : -1 ≤ clampP (partT l p)[i] ∧ clampP (partT l p)[i] ≤ 1023 := by unfold clampP; split <;> omega
  omega
theorem need_all {n : Nat} : (n : Int) ≤ 116 * needR (n : Int) ∧ (∀ k : Nat, (k : Int) < needR (n : Int) → 116 * k < n) := by
  unfold needR
  constructor
  · split <;> omega
  · intro k hk
    split at hk <;> omega

end Go.Proofs.YtdpmpmaepjgndaaGreat
namespace Go.Proofs.YtdpmpmaepjgndaaGreat
open Go.RowKit
set_option linter.unusedVariables false
set_option linter.unusedSimpArgs false
set_option maxRecDepth 100000

theorem allF_ext {f g : Nat → Nat → Int} : ∀ k, (∀ i, i < k → ∀ j, j < 64 → f i j = g i j) → allF f k = allF g k
  | 0, _ => rfl
  | k + 1, h => by
    simp only [allF]
    rw [allF_ext k fun i hi => h i (by omega), sec_ext (h k (by omega))]
theorem all_quart {s : ByteArray} (h : s.size = 256) {f : Nat → Nat → Int} (hf : ∀ i, i < 4 → ∀ j, j < 64 → f i j = byD (quart s i) j) : allF f 4 = s := by
  have e : allF f 4 = allF (imgF s) 4 := allF_ext 4 fun i hi j hj => by rw [hf i hi j hj, byD_quart _ _ _ hj]
  have e2 := all_img s 4 (by omega)
  have e3 : (allF (imgF s) 4).extract 0 s.size = allF (imgF s) 4 := by
    have hs := allF_size (imgF s) 4
    apply byD_ext
    · rw [ByteArray.size_extract, hs]; omega
    · intro j hj
      rw [ByteArray.size_extract, hs] at hj
      rw [byD_cut _ _ _ _ (by omega), Nat.zero_add]
  rw [e, ← e3, e2]
theorem many_in {n : Nat} {id : Int} (h : id < manyP (n : Int)) (h0 : 0 ≤ id) : 2 + 4 * id + 4 ≤ (n : Int) := by
  unfold manyP at h
  by_cases hn : (n : Int) < 2
  · rw [if_pos hn] at h; omega
  · rw [if_neg hn] at h; omega
end Go.Proofs.YtdpmpmaepjgndaaGreat
