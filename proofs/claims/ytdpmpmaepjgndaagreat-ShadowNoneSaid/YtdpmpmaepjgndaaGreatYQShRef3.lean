/- The contracts of the document's set and Next. -/
import Derived.Test.YtdpmpmaepjgndaaGreatYZ7
import Derived.Test.YtdpmpmaepjgndaaGreatYZ3
namespace Go.Proofs.YtdpmpmaepjgndaaGreat
open Go.RowKit Go.Deep
set_option linter.unusedVariables false
set_option linter.unusedSimpArgs false
set_option maxRecDepth 100000

theorem infoSlot14 : (Tryz.prog.info? 92).map (fun i => (i.zero, i.size, i.bytes)) = some (some (.agg #[.bool false, .bool false, .string ByteArray.empty]), 3, 24) := by kernel_rfl
def sltV (s : Slt) : List Value := [.bool s.is, .bool s.fr, .string s.b]
theorem own_empty14 {u : World} {base g : Nat} {T : TypeId} {C : Nat} (h : u.heap[g]? = some (.cells #[] T (0, 0))) (hb : base ≤ g) : u.ownsRow base T C (.slice (some ⟨g, 0, none⟩) 0 0) 0 [] :=
  ⟨by simp, .inr ⟨g, 0, #[], rfl, hb, h, Nat.le_refl _, by unfold maxLen; omega, by simp, by simp⟩⟩
theorem lit3 (w : World) (s : Slt) : ∀ j v, (sltV s)[j]? = some v → (w.alloc (.cells #[.bool s.is, .bool s.fr, .string s.b] 92)).cell? ((⟨w.heap.size, 0, none⟩ : Addr).add j) = some v := by
  intro j v hj
  rw [add_plain, Lib.cell_of_heap (heap_alloc_new w _), Nat.zero_add]
  rw [show (#[Value.bool s.is, .bool s.fr, .string s.b] : Array Value) = (sltV s).toArray from rfl, List.getElem?_toArray]
  exact hj
theorem sltV_one (s : Slt) : ∀ v ∈ sltV s, v.oneCell' = true := by
  intro v hv
  unfold sltV at hv
  simp only [List.mem_cons, List.not_mem_nil, or_false] at hv
  rcases hv with rfl | rfl | rfl <;> rfl
theorem slG_row (l : List Slt) (k : Nat) : rowCells 3 (slG l) k ++ sltV (slA l k) = rowCells 3 (slG l) (k + 1) := rowCells_succ (by omega) (slG l) k (sltV (slA l k)) rfl (fun j hj => by
  rcases j with _ | _ | _ | j
  · rfl
  · rfl
  · rfl
  · omega)
section
variable {base Q : Nat} {x : Stt} {l : List Slt} {v : Value} {u : World}
set_option maxHeartbeats 3200000 in
theorem rset14_any (h : SRow base l v u) (hl : l.length ≤ 512) (i : Nat) (hi : i < 512) (s : Slt) : Calls Tryz.prog 87 #[v, .int .i64 (i : Int), .agg #[.bool s.is, .bool s.fr, .string s.b]] u fun r u' => ∃ v', r = .returned v' ∧ SRow u.heap.size (setS l i s) v' u' ∧ Below u.heap.size u u' := by
  obtain ⟨i0, hi0, hz0, hz1, hz2⟩ := info_parts infoSlot14
  obtain ⟨a, c, rfl⟩ := h.form
  have X0 := Lib.hid (heap_alloc_new u (.cells #[.bool s.is, .bool s.fr, .string s.b] 92))
  have B0 := Lib.hid (balloc u (.cells #[.bool s.is, .bool s.fr, .string s.b] 92))
  have R := Lib.hid (h.below B0.out)
  clear h
  go_enter Tryz.func87, Tryz.ntmps87
  go_upto_region 1 with fail
  obtain ⟨C, hC⟩ : ∃ C, C = u.heap.size := ⟨_, rfl⟩
  rw [← hC] at X0 B0 ⊢
  have HC := Lib.hid hC
  clear hC
  generalize u.alloc (.cells #[.bool s.is, .bool s.fr, .string s.b] 92) = u1 at *
  have X1 := Lib.hid (heap_alloc_new u1 (.cells #[] 92))
  have B1 := Lib.hid (balloc u1 (.cells #[] 92))
  have LC := Lib.hid (lt_of_block X0.out)
  have OE := Lib.hid (own_empty14 (C := 3) (base := u1.heap.size) X1.out (Nat.le_refl _))
  have SL := Lib.hid (R.out.below B1.out).sl
  go_wp2_with (at_builtin; refine wpList_append_any rfl _ _ 54 rfl u1.heap.size 92 i0 (.agg #[.bool false, .bool false, .string ByteArray.empty]) 3 24 Tryz.underlying54 hi0 hz0 hz1 hz2 rfl (by decide) (.slice (some ⟨u1.heap.size, 0, none⟩) 0 0) 0 [] rfl OE.out (slG l) l.length _ rfl SL.out (fun i _ j _ => slG_one l i j) (by unfold maxLen; omega) (by omega) B1.out.size l.length (by omega) ?_)
  intro a2 c2 w2 ho2 hg2
  have O2 := Lib.hid ho2
  have W2 : Hid (Below u1.heap.size u1 w2) := Lib.hid (B1.out.trans ((Below.refl _ _).grown hg2 B1.out.size (fun g hg => by
    simp only [Value.ownBlock, Option.some.injEq] at hg
    omega)))
  clear ho2 hg2 SL OE X1 B1
  go_wp2_with fail
  go_loopw [7] (fun v wr => ∃ k : Nat, l.length ≤ k ∧ k ≤ max l.length (i + 1) ∧ (∃ a c, v = .slice a k c) ∧ Hid (wr.ownsRow u1.heap.size 92 3 v k (rowCells 3 (slG l) k)) ∧ Hid (Below u1.heap.size u1 wr)) (fun v _ => i + 1 - lenV v)
  case atStart => exact ⟨l.length, Nat.le_refl _, Nat.le_max_left _ _, ⟨_, _, rfl⟩, O2, W2⟩
  case round =>
    obtain ⟨k, hk1, hk2, ⟨a3, c3, rfl⟩, HO, HB⟩ := hrel
    by_cases hlt : k ≤ i
    · have d1 : decide ((k : Int) ≤ (i : Int)) = true := decide_eq_true (by omega)
      have O1 := Lib.hid (own_below HO.out (balloc wr (.cells #[.bool false, .bool false, .string ByteArray.empty] 92)))
      have W1 := Lib.hid (HB.out.trans ((balloc wr (.cells #[.bool false, .bool false, .string ByteArray.empty] 92)).mono HB.out.size))
      have SZ := Lib.hid (Nat.le_trans HB.out.size (balloc wr (.cells #[.bool false, .bool false, .string ByteArray.empty] 92)).size)
      have ER : Hid (rowCells 3 (slG l) k ++ sltV noSlt = rowCells 3 (slG l) (k + 1)) := Lib.hid (by
        have := slG_row l k
        rw [slA_out hk1] at this
        exact this)
      go_wp2_with (at_builtin; refine wpList_append_own _ rfl _ _ 54 rfl u1.heap.size 92 i0 (.agg #[.bool false, .bool false, .string ByteArray.empty]) 3 24 Tryz.underlying54 hi0 hz0 hz1 hz2 rfl (by decide) _ k _ rfl O1.out ⟨wr.heap.size, 0, none⟩ 1 1 (sltV noSlt) rfl rfl (lit3 wr noSlt) (sltV_one _) (by unfold maxLen; omega) (by omega) SZ.out ?_)
      intro v4 w4 ho4 hg4 _
      rw [ER.out] at ho4
      obtain ⟨a5, c5, rfl, _⟩ := own_form ho4
      have O4 := Lib.hid ho4
      have W4 := Lib.hid (W1.out.trans ((Below.refl _ _).grown hg4 SZ.out (fun g hg => (O1.out.lt g hg).1)))
      clear ho4 hg4
      go_wp2_with fail
      go_roundw
      case rel => exact ⟨k + 1, by omega, by omega, ⟨_, _, rfl⟩, O4, W4⟩
      case measure =>
        have e1 : lenV (.slice a5 (k + 1) c5) = k + 1 := rfl
        have e2 : lenV (.slice a3 k c3) = k := rfl
        omega
    · have d1 : decide ((k : Int) ≤ (i : Int)) = false := decide_eq_false (by omega)
      have hk : k = max l.length (i + 1) := by omega
      have hik : i < k := by omega
      obtain ⟨b, hb, hv, hr⟩ := RowB.of HO.out (by omega)
      obtain ⟨c9, e9, _⟩ := hr.v
      simp only [Value.slice.injEq, true_and] at e9
      obtain ⟨rfl, rfl⟩ := e9
      have y0 := hr.c i hik 0 (by omega)
      have y1 := hr.c i hik 1 (by omega)
      have y2 := hr.c i hik 2 (by omega)
      have f0 := hr.frozen (i * 3)
      have f1 := hr.frozen (i * 3 + 1)
      have f2 := hr.frozen (i * 3 + 2)
      rw [Nat.add_zero] at y0
      have X9 := Lib.hid ((HB.out.block C LC.out).trans X0.out)
      have x0 : wr.cell? ⟨C, 0, none⟩ = some (.bool s.is) := by rw [Lib.cell_of_heap X9.out]; rfl
      have x1 : wr.cell? ⟨C, 1, none⟩ = some (.bool s.fr) := by rw [Lib.cell_of_heap X9.out]; rfl
      have x2 : wr.cell? ⟨C, 2, none⟩ = some (.string s.b) := by rw [Lib.cell_of_heap X9.out]; rfl
      have R1 : RowB 92 3 b (fun p q => if p = i ∧ q = 0 then .bool s.is else slG l p q) k (.slice (some ⟨b, 0, none⟩) k c3) (wr.setCell ⟨b, i * 3, none⟩ (.bool s.is)) := by
        have := hr.set1 (i := i) (j := 0) hik (by omega) (.bool s.is) (G2 := fun p q => if p = i ∧ q = 0 then .bool s.is else slG l p q) (if_pos ⟨rfl, rfl⟩) (fun p _ q _ h => if_neg h)
        rwa [Nat.add_zero] at this
      have R2 := R1.set1 (i := i) (j := 1) hik (by omega) (.bool s.fr) (G2 := fun p q => if p = i ∧ q = 1 then .bool s.fr else if p = i ∧ q = 0 then .bool s.is else slG l p q) (if_pos ⟨rfl, rfl⟩) (fun p _ q _ h => if_neg h)
      have R3 := R2.set1 (i := i) (j := 2) hik (by omega) (.string s.b) (G2 := fun p q => if p = i ∧ q = 2 then .string s.b else if p = i ∧ q = 1 then .bool s.fr else if p = i ∧ q = 0 then .bool s.is else slG l p q) (if_pos ⟨rfl, rfl⟩) (fun p _ q _ h => if_neg h)
      have R4 := R3.congr (G2 := slG (setS l i s)) (fun p hp q hq => by
        unfold slG
        rw [setS_at]
        by_cases e : p = i
        · subst e
          rw [if_pos rfl]
          rcases q with _ | _ | _ | q
          · simp
          · simp
          · simp
          · omega
        · rw [if_neg e]
          simp [e])
      have hks : k = (setS l i s).length := by rw [setS_len]; exact hk
      have F : Hid (∃ v', (Ending.returned (.slice (some ⟨b, 0, none⟩) k c3) : Ending) = .returned v' ∧ SRow u.heap.size (setS l i s) v' (((wr.setCell ⟨b, i * 3, none⟩ (.bool s.is)).setCell ⟨b, i * 3 + 1, none⟩ (.bool s.fr)).setCell ⟨b, i * 3 + 2, none⟩ (.string s.b)) ∧ Below u.heap.size u (((wr.setCell ⟨b, i * 3, none⟩ (.bool s.is)).setCell ⟨b, i * 3 + 1, none⟩ (.bool s.fr)).setCell ⟨b, i * 3 + 2, none⟩ (.string s.b))) := Lib.hid (by
        have hu := B0.out.size
        have hbb : Below C u u1 := B0.out
        rw [HC.out] at hbb
        have hc := HC.out
        refine ⟨_, rfl, .inr ⟨by rw [← hks]; omega, b, c3, by rw [← hks], by omega, by rw [← hks]; exact R4⟩, hbb.trans (Below.mono (((HB.out.setCell (p := ⟨b, i * 3, none⟩) hb _).setCell (p := ⟨b, i * 3 + 1, none⟩) hb _).setCell (p := ⟨b, i * 3 + 2, none⟩) hb _) hbb.size)⟩)
      clear hks hk R1 R2 R3 R4 hr
      go_wp2_with fail
      go_ret
      exact F.out
set_option maxHeartbeats 3200000 in
theorem rnext14_any (h : RSh base Q x u) (hl : x.now.length ≤ 512) : Calls Tryz.prog 19 #[.pointer (some ⟨Q, 0, none⟩)] u fun r u' => ∃ v', r = .returned v' ∧ SRow u.heap.size (nextS x.now) v' u' ∧ Below u.heap.size u u' := by
  obtain ⟨i0, hi0, hz0, hz1, hz2⟩ := info_parts infoSlot14
  obtain ⟨a1, c1, a2, c2, x0, x1, x2, x3, h1, h2, _⟩ := h.cells
  have R := Lib.hid h1
  have XN := Lib.hid x1
  clear h h1 h2 x0 x2 x3
  obtain ⟨l, hl9⟩ : ∃ l, l = x.now := ⟨_, rfl⟩
  rw [← hl9] at hl x1 R XN ⊢
  clear hl9
  go_enter Tryz.func19, Tryz.ntmps19
  go_wp2_with fail
  go_loopw [4] (fun i wr => ∃ j : Nat, j ≤ l.length ∧ i = .int .i64 j ∧ Hid (trimS l l.length = trimS l j) ∧ wr = u) (fun i _ => (intOf i).toNat)
  case atStart => exact ⟨l.length, Nat.le_refl _, rfl, Lib.hid rfl, rfl⟩
  case round =>
    obtain ⟨j, hj, rfl, HT, hw⟩ := hrel
    rw [hw]
    clear hw wr
    by_cases hj0 : j = 0
    · subst hj0
      have TZ : Hid (nextS l = []) := Lib.hid (List.eq_nil_of_length_eq_zero (by rw [nextS_len]; exact HT.out))
      clear x1
      go_wp2_with fail
      go_loopw [3, 5] (fun v i wr => v = .slice none 0 0 ∧ i = .int .i64 0 ∧ wr = u) (fun _ _ _ => 0)
      case atStart => exact ⟨rfl, rfl, rfl⟩
      case round =>
        obtain ⟨rfl, rfl, hw⟩ := hrel
        rw [hw]
        clear hw wr
        go_wp2_with fail
        go_ret
        exact ⟨_, rfl, by rw [TZ.out]; exact .inl ⟨rfl, none, 0, rfl, by omega, fun p hp => by cases hp⟩, Below.refl _ _⟩
    · have hj1 : (j : Int) - 1 < (l.length : Int) := by omega
      have hj2 : (0 : Int) ≤ (j : Int) - 1 := by omega
      have hjp : (0 : Int) < (j : Int) := by omega
      have hjt : ((j : Int) - 1).toNat = j - 1 := by omega
      have hjw : IntKind.i64.wrap ((j : Int) - 1) = (j : Int) - 1 := by rw [IntKind.wrap_i64]; omega
      have dp : decide ((0 : Int) < (j : Int)) = true := decide_eq_true hjp
      have hjn : 0 < j := by omega
      obtain ⟨_, b, ha, _, y0, _⟩ := R.out.look (i := j - 1) (by omega)
      subst ha
      by_cases hz : isS l (j - 1) = true
      · have hn : trimS l l.length = j := by
          rw [HT.out]
          obtain ⟨k, rfl⟩ : ∃ k, j = k + 1 := ⟨j - 1, by omega⟩
          simp only [trimS]
          rw [if_pos (by simpa using hz)]
        have NL : Hid (j = (nextS l).length) := Lib.hid (by rw [nextS_len, hn])
        have HN := Lib.hid hn
        rw [show (slA l (j - 1)).is = true from hz] at y0
        clear hn HT hz
        go_wp2_with fail
        clear x1 y0
        go_loopw [3, 5] (fun v i wr => ∃ q : Nat, q ≤ j ∧ i = .int .i64 q ∧ Hid (wr.ownsRow u.heap.size 92 3 v q (rowCells 3 (slG (nextS l)) q)) ∧ Hid (Below u.heap.size u wr)) (fun _ i _ => j - (intOf i).toNat)
        case atStart => exact ⟨0, Nat.zero_le _, rfl, Lib.hid (World.ownsRow_nil _ _ _ _), Lib.hid (Below.refl _ _)⟩
        case round =>
          obtain ⟨q, hq, rfl, HO, HB⟩ := hrel
          by_cases hlt : q < j
          · have hq1 : (q : Int) < (j : Int) := by omega
            have hq0 : (0 : Int) ≤ (q : Int) := by omega
            have hql : (q : Int) < (l.length : Int) := by omega
            have d1 : decide ((q : Int) < (j : Int)) = true := decide_eq_true hq1
            have x1 := cell_stays HB.out XN.out
            obtain ⟨_, b, ha, _, y0, y1, y2⟩ := (R.out.below HB.out).look (i := q) (by omega)
            cases ha
            have ES : Hid (slA (nextS l) q = oldS (slA l q)) := Lib.hid (by rw [nextS_at, if_pos (by rw [HN.out]; exact hlt)])
            have ER : Hid (rowCells 3 (slG (nextS l)) q ++ sltV (oldS (slA l q)) = rowCells 3 (slG (nextS l)) (q + 1)) := Lib.hid (by rw [← ES.out]; exact slG_row _ _)
            clear ES
            generalize slA l q = s at *
            have LC : Hid (∀ j v, (sltV (oldS s))[j]? = some v → ((wr.alloc (.cells #[.bool s.is, .bool false, .string s.b] 92)).alloc (.cells #[.bool s.is, .bool false, .string s.b] 92)).cell? ((⟨wr.heap.size + 1, 0, none⟩ : Addr).add j) = some v) := Lib.hid (by
              have := lit3 (wr.alloc (.cells #[.bool s.is, .bool false, .string s.b] 92)) (oldS s)
              rw [World.size_alloc] at this
              exact this)
            have BA := balloc wr (.cells #[.bool s.is, .bool false, .string s.b] 92)
            have BB := BA.trans ((balloc (wr.alloc (.cells #[.bool s.is, .bool false, .string s.b] 92)) (.cells #[.bool s.is, .bool false, .string s.b] 92)).mono BA.size)
            have O1 := Lib.hid (own_below HO.out BB)
            have W1 := Lib.hid (HB.out.trans (BB.mono HB.out.size))
            have SZ := Lib.hid (Nat.le_trans HB.out.size BB.size)
            clear BA BB
            go_wp2_with (at_builtin; refine wpList_append_own _ rfl _ _ 54 rfl u.heap.size 92 i0 (.agg #[.bool false, .bool false, .string ByteArray.empty]) 3 24 Tryz.underlying54 hi0 hz0 hz1 hz2 rfl (by decide) _ q _ rfl O1.out ⟨wr.heap.size + 1, 0, none⟩ 1 1 (sltV (oldS s)) rfl rfl LC.out (sltV_one _) (by unfold maxLen; omega) (by omega) SZ.out ?_)
            intro v4 w4 ho4 hg4 _
            rw [ER.out] at ho4
            have O4 := Lib.hid ho4
            have W4 := Lib.hid (W1.out.trans ((Below.refl _ _).grown hg4 SZ.out (fun g hg => (O1.out.lt g hg).1)))
            clear ho4 hg4 x1 y0 y1 y2
            go_wp2_with fail
            go_roundw
            case rel => exact ⟨q + 1, hlt, by go_num, O4, W4⟩
            case measure => simp [intOf]; omega
          · have hqn : q = j := by omega
            have d1 : decide ((q : Int) < (j : Int)) = false := decide_eq_false (by omega)
            have F : Hid (∀ v9, wr.ownsRow u.heap.size 92 3 v9 q (rowCells 3 (slG (nextS l)) q) → SRow u.heap.size (nextS l) v9 wr) := Lib.hid (fun v9 h9 => by
              rw [hqn, NL.out] at h9
              exact SRow.of h9 rfl)
            clear hqn
            go_wp2_with fail
            go_ret
            exact ⟨_, rfl, F.out _ HO.out, HB.out⟩
      · have HT2 : Hid (trimS l l.length = trimS l (j - 1)) := Lib.hid (by
          rw [HT.out]
          obtain ⟨k, rfl⟩ : ∃ k, j = k + 1 := ⟨j - 1, by omega⟩
          simp only [trimS]
          rw [if_neg (by simpa using hz)]
          rfl)
        rw [show (slA l (j - 1)).is = false by simpa [isS] using hz] at y0
        go_wp2_with fail
        go_roundw
        case rel => exact ⟨j - 1, by omega, by congr 1; omega, HT2, trivial⟩
        case measure => simp [intOf]; omega
end

end Go.Proofs.YtdpmpmaepjgndaaGreat
