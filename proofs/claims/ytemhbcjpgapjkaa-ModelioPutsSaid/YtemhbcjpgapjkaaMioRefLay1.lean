/- The contracts of the document's bits and Ints. -/
import Derived.Test.YtemhbcjpgapjkaaMioPut1
import Derived.Test.YtemhbcjpgapjkaaMioMem
import Derived.Lib.AppendStr
namespace Go.Proofs.Ytemhbcjpgapjkaa
open Go.RowKit
set_option linter.unusedVariables false
set_option maxRecDepth 100000

theorem bits6_any (x : Nat) (hx : x < 18446744073709551616) (w : World) :
    Calls Try.prog 28 #[.float .f64 x] w fun e w' => e = .returned (.string (strOfNums (byW [(x : Int)]))) ∧ Below w.heap.size w w' := by
  have hf := floatbits_run
  have H := Lib.hid (refU (x : Int) (by omega) (by omega))
  have E : byW [(x : Int)] = beI 8 (x : Int) := by simp [byW]
  rw [E]
  clear E hx
  generalize strOfNums (beI 8 (x : Int)) = r at *
  go_enter Try.func28, Try.ntmps28
  go_wp2_with (go_at_call 38; refine (H.out _).mono ?_; rintro e w2 ⟨rfl, hb⟩)
  go_ret
  exact ⟨rfl, hb⟩
theorem refI_w (n : Int) (w : World) :
    Calls Try.prog 16 #[.int .i64 n] w fun e w' => e = .returned (.string (strOfNums (byW [flip63 n]))) ∧ Below w.heap.size w w' := by
  have E : byW [flip63 n] = beI 8 (flip63 n) := by simp [byW]
  rw [E]; exact refI n w

/-- the bytes of the first j numbers, in a row of the call's own -/
def IntsAt (w wr : World) (f : Nat → Int) (j : Nat) (v : Value) : Prop :=
  wr.ownsRow w.heap.size 5 1 v (8 * j) (Lib.byteCells ((byW (catN (fun k => [flip63 (f k)]) j)).map toU8)) ∧ Below w.heap.size w wr
theorem words_len (f : Nat → Int) (j : Nat) : (catN (fun k => [flip63 (f k)]) j).length = j := by
  induction j with
  | zero => rfl
  | succ j ih => simp [catN, ih]
theorem ints6_cells {w : World} {b : Nat} {xs : List Int} {g n cap : Nat} (hx : ∀ x ∈ xs, 0 ≤ x ∧ x ≤ 255) (hl : xs.length = n) (h : w.ownsRow b 5 1 (.slice (some ⟨g, 0, none⟩) n cap) n (Lib.byteCells (xs.map toU8))) :
    ∀ i, i < n → w.cell? ⟨g, 0 + i, none⟩ = some (.int .u8 (xs.getD i 0)) := by
  intro i hi
  have h1 := h.cellAt i (by omega)
  have h2 : i < xs.length := by omega
  rw [Nat.zero_add, h1]
  have hb := hx xs[i] (List.getElem_mem h2)
  simp only [Lib.byteCells, List.getElem?_map, List.getElem?_eq_getElem h2, Option.map_some, List.getD, Option.getD_some]
  have : ((toU8 xs[i]).toNat : Int) = xs[i] := by simp [toU8]; omega
  simp [this]

set_option maxHeartbeats 1600000 in
theorem ints6_any (f : Nat → Int) (n : Nat) (hn : n ≤ 1000) (v : Value) (w : World) (h : Sl 1 (gW f) n v w) :
    Calls Try.prog 29 #[v] w fun e w' => e = .returned (.string (strOfNums (byW (catN (fun k => [flip63 (f k)]) n)))) ∧ Below w.heap.size w w' := by
  obtain ⟨i0, hi, hz0, hz1, hz2⟩ := info_parts infoByte
  obtain ⟨ao, cap, rfl, h1, h2, h3⟩ := h
  have H3 := Lib.hid h3
  clear h3
  go_enter Try.func29, Try.ntmps29
  go_wp2_with fail
  go_loopw [3, 4] (fun v i wr => ∃ j : Nat, j ≤ n ∧ i = .int .i64 j ∧ IntsAt w wr f j v) (fun _ i _ => n - (intOf i).toNat)
  case atStart => exact ⟨0, Nat.zero_le _, rfl, World.ownsRow_nil _ _ _ _, Below.refl _ _⟩
  case round =>
    obtain ⟨j, hj, rfl, hl⟩ := hrel
    have HL := Lib.hid hl
    by_cases hlt : j < n
    · obtain ⟨b, o, rfl, hA⟩ := H3.out (by omega)
      have c0 := (hA.below hl.2).one j hlt
      dsimp only [gW] at c0
      have HI := Lib.hid (refI (f j))
      clear hA hl
      go_wp2_with fail
      refine (HI.out _).mono ?_
      rintro e w2 ⟨rfl, hb2⟩
      have hown := own_below HL.out.1 hb2
      have B2 := Lib.hid (bthen HL.out.2 hb2)
      have hsz : (strOfNums (beI 8 (flip63 (f j)))).size = 8 := by rw [strOfNums_size, beI_len]
      have HS := Lib.hid hsz
      clear hsz
      go_wp2_with (at_builtin; refine Lib.wpList_append_own_string _ rfl _ _ 90 9 rfl w.heap.size 5 i0 Try.underlying90 Try.underlying9 hi hz0 hz1 hz2 _ _ _ rfl hown (strOfNums (beI 8 (flip63 (f j)))) rfl ?c3 ?c4 ?c5 ?_)
      case c3 => rw [HS.out]; unfold maxLen; omega
      case c4 => rw [HS.out]; omega
      case c5 => exact B2.out.size
      intro v1 w4 hown4 hgr _
      have R : Hid (IntsAt w w4 f (j + 1) v1) := by
        refine ⟨?_, B2.out.grown hgr B2.out.size fun k hk => (own_lt hown hk).1⟩
        rw [HS.out] at hown4
        have e : byW (catN (fun k => [flip63 (f k)]) (j + 1)) = byW (catN (fun k => [flip63 (f k)]) j) ++ beI 8 (flip63 (f j)) := by simp only [catN, byW_append]; simp [byW]
        rw [e, List.map_append, byteCells_append, ← byteCells_nums (beI 8 (flip63 (f j)))]
        exact hown4
      clear hown4 hgr hown hb2
      go_wp2_with fail
      go_roundw
      case rel => exact ⟨j + 1, by omega, by go_num, R.out⟩
      case measure => simp [intOf]; omega
    · obtain rfl : j = n := by omega
      have hlen : (byW (catN (fun k => [flip63 (f k)]) j)).length = 8 * j := by rw [byW_len, words_len]
      rcases hl.1.2 with ⟨rfl, h0⟩ | ⟨g, cp, cur, rfl, _⟩
      · obtain rfl : j = 0 := by omega
        have hcv := run_convert_bytes_nil (P := Try.prog) wr 90 5 Try.underlying90 Try.underlying5 0 0 9 Try.underlying9
        clear hl hlen
        go_wp2_with fail
        go_ret
        exact ⟨rfl, HL.out.2⟩
      · have hcv := run_convert_bytes_arg (P := Try.prog) wr 90 5 Try.underlying90 Try.underlying5 g 0 (8 * j) cp _ hlen (ints6_cells (byW_mem _) hlen hl.1) 9 Try.underlying9
        clear hl hlen
        go_wp2_with fail
        go_ret
        exact ⟨rfl, HL.out.2⟩

end Go.Proofs.Ytemhbcjpgapjkaa
