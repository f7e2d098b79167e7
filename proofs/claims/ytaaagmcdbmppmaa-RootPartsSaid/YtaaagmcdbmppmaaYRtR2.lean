/- The contract of the document's PutPart. -/
import Derived.Test.YtaaagmcdbmppmaaYRtR1
import Derived.Test.YtaaagmcdbmppmaaYPackTwo
import Derived.Test.YtaaagmcdbmppmaaYByteCells
namespace Go.Proofs.Ytaaagmcdbmppmaa
open Go.RowKit Go.Deep
set_option linter.unusedVariables false
set_option linter.unusedSimpArgs false
set_option maxRecDepth 100000

theorem infoByte13 : (Try.prog.info? 5).map (fun i => (i.zero, i.size, i.bytes)) = some (some (.int .u8 0), 1, 1) := by kernel_rfl
theorem twosL_snoc (l : List Int) (x : Int) : twosL (l ++ [x]) = twosL l ++ beI 2 x := by
  induction l with
  | nil => simp [twosL]
  | cons a l ih => simp only [List.cons_append, twosL, ih, List.append_assoc]
/-- the bytes of the first j pages of a part -/
def ppN (l : List Int) (p j : Nat) : List Int := twosL (((partT l p).take j).map fun x => clampP x + 1)
theorem ppN_len {l : List Int} {p j : Nat} (h : j ≤ (partT l p).length) : (ppN l p j).length = 2 * j := by
  unfold ppN
  rw [twosL_len, List.length_map, List.length_take]; omega
theorem ppN_bd (l : List Int) (p j : Nat) : ∀ x ∈ ppN l p j, 0 ≤ x ∧ x ≤ 255 := twosL_bd _
theorem ppN_succ {l : List Int} {p j : Nat} (h : j < (partT l p).length) : ppN l p (j + 1) = ppN l p j ++ beI 2 (clampP (l.getD (116 * p + j) 0) + 1) := by
  unfold ppN
  rw [List.take_succ_eq_append_getElem h, List.map_append, List.map_singleton, twosL_snoc, partT_at l p j h, List.getD_eq_getElem?_getD, List.getElem?_eq_getElem (by rw [partT_len] at h; omega)]
  rfl
theorem ppN_all (l : List Int) (p : Nat) : strOfNums (ppN l p (partT l p).length) = partS l p := by
  unfold ppN partS
  rw [List.take_of_length_le (Nat.le_refl _)]
structure PpAt (w wr : World) (v : Value) (l : List Int) (p j : Nat) : Prop where
  o : OwnsB wr w.heap.size 5 v (2 * j) (Lib.byteCells ((ppN l p j).map toU8))
  b : Below w.heap.size w wr
/-- what PutPart hands back -/
def partO (l : List Int) (p : Int) : ByteArray := if partE l p = 0 then partS l p.toNat else ⟨#[]⟩

theorem need_bd {n : Nat} (h : n ≤ 9223372036854775807) : 0 ≤ needR (n : Int) ∧ needR (n : Int) ≤ 79512896912102203 := by
  unfold needR; split <;> omega
theorem rputpart_bad (l : List Int) (v : Value) (p : Int) (w : World) (hv : LstI l v w) (hp : -9223372036854775808 ≤ p ∧ p ≤ 9223372036854775807) (h : p < 0 ∨ needR (l.length : Int) ≤ p) :
    Calls Try.prog 13 #[v, .int .i64 p] w fun r w' => r = .returned (.tuple #[.string ⟨#[]⟩, .int .i64 3]) ∧ w' = w := by
  obtain ⟨ao, cap, rfl, h1, h2, _⟩ := hv
  generalize hn : l.length = n at *
  have HN := Lib.hid (fun w => rneed_any (n : Int) (by omega) w)
  have hb := need_bd (n := n) (by omega)
  generalize needR (n : Int) = q at *
  clear hn
  by_cases h0 : p < 0
  · have d : decide (p < 0) = true := by simp [h0]
    go_enter Try.func13, Try.ntmps13
    go_wp2_with fail
    go_ret2
    exact ⟨rfl, rfl⟩
  · have d : decide (p < 0) = false := by simp; omega
    have d2 : decide (q ≤ p) = true := by simp; omega
    go_enter Try.func13, Try.ntmps13
    go_wp2_with fail
    refine (HN.out _).mono ?_
    rintro e w1 ⟨rfl, rfl⟩
    go_wp2_with fail
    go_ret2
    exact ⟨rfl, rfl⟩
set_option maxHeartbeats 6400000 in
theorem rputpart_go (l : List Int) (v : Value) (p : Nat) (w : World) (hv : LstI l v w) (hl : l.length ≤ 1048576) (h : (p : Int) < needR (l.length : Int)) :
    Calls Try.prog 13 #[v, .int .i64 (p : Int)] w fun r w' => r = .returned (.tuple #[.string (partO l p), .int .i64 (partE l p)]) ∧ Below w.heap.size w w' := by
  obtain ⟨i0, hi0, hz0, hz1, hz2⟩ := info_parts infoByte13
  obtain ⟨ao, cap, rfl, h1, h2, h3⟩ := hv
  have hlt0 := need_all.2 p h
  obtain ⟨B, o, rfl, hA⟩ := h3 (by omega)
  have HA := Lib.hid hA
  obtain ⟨K, hK⟩ : ∃ K, K = (partT l p).length := ⟨_, rfl⟩
  have hK2 : K = min 116 (l.length - 116 * p) := by rw [hK]; exact partT_len l p
  have HK := Lib.hid hK
  have HP : Hid (∀ j, j < K → (partT l p)[j]? = some (l.getD (116 * p + j) 0)) := Lib.hid (fun j hj => by
    have hj2 : j < (partT l p).length := by omega
    rw [List.getElem?_eq_getElem hj2, partT_at l p j hj2, List.getD_eq_getElem?_getD, List.getElem?_eq_getElem (by omega)]
    rfl)
  have E : Hid (partE l (p : Int) = if ∃ x ∈ partT l p, 1023 < x then 2 else 0) := Lib.hid (by
    unfold partE
    rw [if_neg (by omega), Int.toNat_natCast])
  have EO : Hid (partO l (p : Int) = if ∃ x ∈ partT l p, 1023 < x then ⟨#[]⟩ else partS l p) := Lib.hid (by
    unfold partO
    rw [E.out, Int.toNat_natCast]
    split <;> simp)
  have EA : Hid (strOfNums (ppN l p K) = partS l p) := Lib.hid (by rw [hK]; exact ppN_all l p)
  have ES : Hid (∀ j, j < K → ppN l p (j + 1) = ppN l p j ++ beI 2 (clampP (l.getD (116 * p + j) 0) + 1)) := Lib.hid (fun j hj => ppN_succ (by omega))
  have EN : Hid (∀ j, j ≤ K → (ppN l p j).length = 2 * j) := Lib.hid (fun j hj => ppN_len (by omega))
  obtain ⟨n, hn⟩ : ∃ n, n = l.length := ⟨_, rfl⟩
  rw [← hn] at h h1 hlt0 hK2 hl ⊢
  have HN := Lib.hid (fun w => rneed_any (n : Int) (by omega) w)
  have hb := need_bd (n := n) (by omega)
  rw [← hn] at hA
  have HA := Lib.hid hA
  generalize needR (n : Int) = q at *
  obtain ⟨a, ha⟩ : ∃ a, a = 116 * p := ⟨_, rfl⟩
  have e0 : 116 * (p : Int) = (a : Int) := by omega
  rw [← ha] at HP ES hK2 hlt0
  have hKa : K ≤ 116 := by omega
  have hKb : a + K ≤ n := by omega
  have hKc : Hid (K = 116 ∨ a + K = n) := Lib.hid (by omega)
  have d : decide ((p : Int) < 0) = false := by simp
  have d2 : decide (q ≤ (p : Int)) = false := by simp; omega
  have L0 : Hid (PpAt w (w.alloc (.cells #[] 5)) (.slice (some ⟨w.heap.size, 0, none⟩) 0 0) l p 0) := Lib.hid (⟨⟨by
    simp [ppN, twosL, Lib.byteCells], w.heap.size, 0, #[], (0, 0), rfl, Nat.le_refl _, heap_alloc_new w _, fun i hi => absurd hi (Nat.not_lt_zero i), Nat.le_refl _, by unfold maxLen; omega, rfl, by simp [ppN, twosL, Lib.byteCells]⟩, balloc w _⟩)
  clear hA h3 hn ha hK h hK2
  go_enter Try.func13, Try.ntmps13
  go_wp2_with fail
  refine (HN.out _).mono ?_
  rintro e w1 ⟨rfl, hw⟩
  subst w1
  clear HN
  go_wp2_with fail
  go_loopw [6, 7] (fun v i wr => ∃ j : Nat, j ≤ K ∧ i = .int .i64 (a + j : Nat) ∧ Hid (∀ x, x < j → l.getD (a + x) 0 ≤ 1023) ∧ Hid (PpAt w wr v l p j)) (fun _ i _ => K + a - (intOf i).toNat)
  case atStart => exact ⟨0, Nat.zero_le _, by go_num, Lib.hid (fun x hx => absurd hx (Nat.not_lt_zero x)), L0⟩
  case round =>
    clear L0
    obtain ⟨j, hj, rfl, HG, HO⟩ := hrel
    have e1 : 116 * (p : Int) + 116 = ((a + 116 : Nat) : Int) := by omega
    by_cases hlt : j < K
    · have c1 : decide (((a + j : Nat) : Int) < (n : Int)) = true := by simp; omega
      have c2 : decide (((a + j : Nat) : Int) < ((a + 116 : Nat) : Int)) = true := by simp; omega
      have c3 : a + j < n := by omega
      have c4 : ((a + j : Nat) : Int) < (n : Int) := by omega
      have c5 : (0 : Int) ≤ ((a + j : Nat) : Int) := by omega
      have c6 : a + j < a + 116 := by omega
      have c12 : decide ((j : Int) < 116) = true := by simp; omega
      have c13 : j < 116 := by omega
      have hx0 := ((HA.out.below HO.out.b).one (a + j) c3)
      dsimp only [gW] at hx0
      obtain ⟨z, hz⟩ : ∃ z, z = l.getD (a + j) 0 := ⟨_, rfl⟩
      have HZ := Lib.hid hz
      rw [← hz] at hx0
      clear hz
      by_cases hbig : 1023 < z
      · have d5 : decide (1023 < z) = true := by simp [hbig]
        have X : ∃ x ∈ partT l p, 1023 < x := by
          have := HP.out j hlt
          obtain ⟨hj2, he⟩ := List.getElem?_eq_some_iff.1 this
          exact ⟨_, List.getElem_mem hj2, by rw [he, ← HZ.out]; exact hbig⟩
        have E2 : Hid (partE l (p : Int) = 2) := Lib.hid (by rw [E.out, if_pos X])
        have E3 : Hid (partO l (p : Int) = ⟨#[]⟩) := Lib.hid (by rw [EO.out, if_pos X])
        have W1 := Lib.hid HO.out.b
        clear X hbig
        go_wp2_with fail
        go_ret2
        exact ⟨by rw [E2.out, E3.out]; rfl, W1.out⟩
      · have d5 : decide (1023 < z) = false := by simp; omega
        have HJ := Lib.hid hlt
        have HG2 : Hid (∀ x, x < j + 1 → l.getD (a + x) 0 ≤ 1023) := Lib.hid (fun x hx => by
          rcases Nat.lt_succ_iff_lt_or_eq.1 hx with h | rfl
          · exact HG.out x h
          · rw [← HZ.out]; omega)
        obtain ⟨k, hk⟩ : ∃ k : Nat, clampP z + 1 = (k : Int) := ⟨(clampP z + 1).toNat, by unfold clampP; split <;> omega⟩
        have hk2 : k ≤ 1024 := by unfold clampP at hk; split at hk <;> omega
        have ESJ : Hid (ppN l p (j + 1) = ppN l p j ++ beI 2 (k : Int)) := Lib.hid (by rw [ES.out j hlt, ← HZ.out, hk])
        have RT := Lib.hid (fun w => refTwo k (by omega) w)
        have HK2 := Lib.hid hk2
        by_cases hneg : z < 0
        · have d6 : decide (z < 0) = true := by simp [hneg]
          have hk0 : k = 0 := by unfold clampP at hk; rw [if_pos hneg] at hk; omega
          subst hk0
          change Hid (∀ w, Calls _ _ #[.int .i64 0] w _) at RT
          clear hneg hk hbig hk2
          go_wp2_with fail
          refine (RT.out _).mono ?_
          rintro e w3 ⟨rfl, hb3⟩
          have ho3 := ownsB_below HO.out.o hb3
          have hs3 := HO.out.b.size
          have hs4 := hb3.size
          have hxz : (strOfNums (beI 2 0)).size = 2 := by rw [strOfNums_size, beI_len]
          have hj3 : j < K := HJ.out
          go_wp2_with (at_builtin; refine wpList_append_free _ rfl _ _ 56 9 rfl w.heap.size 5 i0 Try.underlying56 Try.underlying9 hi0 hz0 hz1 hz2 _ _ _ rfl ho3 _ rfl (by unfold maxLen; omega) (by omega) (by omega) ?_)
          intro v4 w4 ho4 hb4
          have O4 : Hid (PpAt w w4 v4 l p (j + 1)) := Lib.hid (⟨by
            rw [ESJ.out, List.map_append, byteCells_append, ← byteCells_nums (beI 2 _), show 2 * (j + 1) = 2 * j + (strOfNums (beI 2 0)).size by omega]
            exact ho4, (bthen HO.out.b hb3).trans hb4⟩)
          clear ho3 ho4 hb4 hb3 hxz hs3 hs4
          go_wp2_with fail
          go_roundw
          case rel => exact ⟨j + 1, HJ.out, by go_num, HG2, O4⟩
          case measure => have := HJ.out; simp [intOf]; omega
        · have d6 : decide (z < 0) = false := by simp; omega
          have hk0 : z + 1 = (k : Int) := by unfold clampP at hk; rw [if_neg hneg] at hk; exact hk
          clear hneg hk hbig
          go_wp2_with fail
          refine (RT.out _).mono ?_
          rintro e w3 ⟨rfl, hb3⟩
          have ho3 := ownsB_below HO.out.o hb3
          have hs3 := HO.out.b.size
          have hs4 := hb3.size
          have hxz : (strOfNums (beI 2 (k : Int))).size = 2 := by rw [strOfNums_size, beI_len]
          have hj3 : j < K := HJ.out
          go_wp2_with (at_builtin; refine wpList_append_free _ rfl _ _ 56 9 rfl w.heap.size 5 i0 Try.underlying56 Try.underlying9 hi0 hz0 hz1 hz2 _ _ _ rfl ho3 _ rfl (by unfold maxLen; omega) (by omega) (by omega) ?_)
          intro v4 w4 ho4 hb4
          have O4 : Hid (PpAt w w4 v4 l p (j + 1)) := Lib.hid (⟨by
            rw [ESJ.out, List.map_append, byteCells_append, ← byteCells_nums (beI 2 _), show 2 * (j + 1) = 2 * j + (strOfNums (beI 2 (k : Int))).size by omega]
            exact ho4, (bthen HO.out.b hb3).trans hb4⟩)
          clear ho3 ho4 hb4 hb3 hxz hs3 hs4
          go_wp2_with fail
          go_roundw
          case rel => exact ⟨j + 1, HJ.out, by go_num, HG2, O4⟩
          case measure => have := HJ.out; simp [intOf]; omega
    · obtain rfl : j = K := by omega
      have X : ¬ ∃ x ∈ partT l p, 1023 < x := by
        rintro ⟨x, hx, hb⟩
        obtain ⟨q2, hq2, rfl⟩ := List.mem_iff_getElem.1 hx
        have h1 := HP.out q2 (by rw [HK.out]; exact hq2)
        have h2 := HG.out q2 (by rw [HK.out]; exact hq2)
        rw [List.getElem?_eq_getElem hq2] at h1
        rw [Option.some.inj h1] at hb
        omega
      have E2 : Hid (partE l (p : Int) = 0) := Lib.hid (by rw [E.out, if_neg X])
      have E3 : Hid (partO l (p : Int) = strOfNums (ppN l p j)) := Lib.hid (by rw [EO.out, if_neg X, EA.out])
      clear X
      obtain ⟨g, cp, rfl, hcl⟩ := ownsB_cells HO.out.o
      have hlen := EN.out j (Nat.le_refl _)
      have hcv2 := run_convert_bytes_arg (P := Try.prog) wr 56 5 Try.underlying56 Try.underlying5 g 0 (2 * j) cp (ppN l p j) hlen
        (fun i hi => by rw [hcl i hi]; exact byteCells_getD _ i (by omega) (ppN_bd l p j)) 9 Try.underlying9
      have HB := Lib.hid HO.out.b
      clear hcl hlen HO
      by_cases c7 : a + j < n
      · have c9 : decide (((a + j : Nat) : Int) < (n : Int)) = true := by simp; omega
        have c10 : decide (((a + j : Nat) : Int) < ((a + 116 : Nat) : Int)) = false := by have := hKc.out; simp; omega
        have c11 : ¬ a + j < a + 116 := by have := hKc.out; omega
        have c12 : decide ((j : Int) < 116) = false := by have := hKc.out; simp; omega
        have c13 : ¬ j < 116 := by omega
        go_wp2_with fail
        go_ret2
        exact ⟨by rw [E2.out, E3.out]; rfl, HB.out⟩
      · have c9 : decide (((a + j : Nat) : Int) < (n : Int)) = false := by simp; omega
        go_wp2_with fail
        go_ret2
        exact ⟨by rw [E2.out, E3.out]; rfl, HB.out⟩
theorem rputpart_any (l : List Int) (v : Value) (p : Int) (w : World) (hv : LstI l v w) (hl : l.length ≤ 1048576) (hp : -9223372036854775808 ≤ p ∧ p ≤ 9223372036854775807) :
    Calls Try.prog 13 #[v, .int .i64 p] w fun r w' => r = .returned (.tuple #[.string (partO l p), .int .i64 (partE l p)]) ∧ Below w.heap.size w w' := by
  by_cases h : p < 0 ∨ needR (l.length : Int) ≤ p
  · have E : partE l p = 3 := by unfold partE; rw [if_pos h]
    refine (rputpart_bad l v p w hv hp h).mono fun r w' hr => ?_
    obtain ⟨hr, rfl⟩ := hr
    exact ⟨by unfold partO; rw [hr, E, if_neg (by decide)], Below.refl _ _⟩
  · obtain ⟨k, rfl⟩ : ∃ k : Nat, p = (k : Int) := ⟨p.toNat, by omega⟩
    exact rputpart_go l v k w hv hl (by omega)

end Go.Proofs.Ytaaagmcdbmppmaa
