/- The contracts of the document's own ReadList and Ints. -/
import Derived.Test.YtcbpekliijbhoaaPackList
namespace Go.Proofs.Ytcbpekliijbhoaa
open Go.RowKit

def RrAt (w wr : World) (v : Value) (s : ByteArray) (p j : Nat) : Prop :=
  wr.ownsRow w.heap.size 3 1 v j ((rlNums s p j).map (Value.int .i64)) ∧ Below w.heap.size w wr
theorem rrAt_step {w wr w1 : World} {v v' : Value} {s : ByteArray} {p j : Nat} (h : RrAt w wr v s p j)
    (hown : w1.ownsRow w.heap.size 3 1 v' (j + 1) ((rlNums s p j).map (Value.int .i64) ++ [.int .i64 (rlNum s p j)]))
    (hg : (wr.alloc (.cells #[.int .i64 (rlNum s p j)] 3)).grownBy w1 v.ownBlock) : RrAt w w1 v' s p (j + 1) := by
  obtain ⟨h1, h2⟩ := h
  refine ⟨?_, (h2.alloc h2.size _).grown hg (by have := h2.size; simp; omega) (fun k hk => (h1.lt k hk).1)⟩
  rw [rlNums_succ, List.map_append]; exact hown

theorem one_cell {wr : World} (x : Int) : ∀ j u, [Value.int .i64 x][j]? = some u → (wr.alloc (.cells #[.int .i64 x] 3)).cell? ((⟨wr.heap.size, 0, none⟩ : Addr).add j) = some u := by
  intro j u hj
  match j, hj with
  | 0, hj => simp at hj; subst hj; simp [Addr.add]
  | k + 1, hj => simp at hj
theorem one_oneCell (x : Int) : ∀ u ∈ [Value.int .i64 x], u.oneCell' = true := by intro u hu; simp at hu; subst hu; rfl

set_option maxHeartbeats 800000 in
theorem refReadList_any (s : ByteArray) (a : Int) (hs : s.size ≤ maxLen) (hw : -9223372036854775808 ≤ a ∧ a ≤ 9223372036854775807) (w : World) :
    Calls Try.prog 25 #[.string s, .int .i64 a] w (ListRet w (rlSpec s a)) := by
  obtain ⟨hw1, hw2⟩ := hw
  by_cases h1 : a < 0
  · have E : rlSpec s a = ([], 0, 3) := by unfold rlSpec rcSpec rdSpec; rw [if_pos (.inl h1)]; rfl
    rw [E]
    clear E
    unfold maxLen at hs
    go_enter Try.func25, Try.ntmps25
    go_wp2_with fail
    go_ret3
    exact ⟨_, rfl, World.ownsRow_nil _ _ _ _, Below.refl _ _⟩
  by_cases h2 : (s.size : Int) < a
  · have E : rlSpec s a = ([], 0, 3) := by unfold rlSpec rcSpec rdSpec; rw [if_pos (.inr h2)]; rfl
    rw [E]
    clear E
    unfold maxLen at hs
    go_enter Try.func25, Try.ntmps25
    go_wp2_with fail
    go_ret3
    exact ⟨_, rfl, World.ownsRow_nil _ _ _ _, Below.refl _ _⟩
  by_cases h3 : (s.size : Int) - a < 2
  · have E : rlSpec s a = ([], 0, 5) := by unfold rlSpec rcSpec rdSpec; rw [if_neg (by omega), if_pos (by exact h3)]; rfl
    rw [E]
    clear E
    unfold maxLen at hs
    go_enter Try.func25, Try.ntmps25
    go_wp2_with fail
    go_ret3
    exact ⟨_, rfl, World.ownsRow_nil _ _ _ _, Below.refl _ _⟩
  obtain ⟨b, rfl⟩ := Int.eq_ofNat_of_zero_le (show 0 ≤ a by omega)
  have HS := Lib.hid hs
  unfold maxLen at hs
  have hlen : b + 2 ≤ s.size := by omega
  have hr := rdSpec_ok2 s b hlen
  have x1 : (s[b].toNat : Int) ≤ 255 := by have := s[b].toNat_lt; omega
  have x2 : (s[b + 1].toNat : Int) ≤ 255 := by have := s[b + 1].toNat_lt; omega
  have hi1 : b < s.size := by omega
  have hi2 : b + 1 < s.size := by omega
  have j1 : (b : Int) + 1 < (s.size : Int) := by omega
  have j2 : 0 ≤ (b : Int) + 1 := by omega
  have j3 : ((b : Int) + 1).toNat = b + 1 := by omega
  by_cases h4 : 512 < (s[b].toNat : Int) * 256 + (s[b + 1].toNat : Int)
  · have E : rlSpec s b = ([], 0, 4) := by unfold rlSpec rcSpec; rw [hr]; unfold rcOf; rw [if_neg (by simp), if_pos h4]; rfl
    rw [E]
    clear hr E
    go_enter Try.func25, Try.ntmps25
    go_wp2_with fail
    go_region
    go_wp2_with fail
    go_ret3
    exact ⟨_, rfl, World.ownsRow_nil _ _ _ _, (Below.refl _ _).drew⟩
  by_cases h5 : (s.size : Int) - (b : Int) - 2 < 8 * ((s[b].toNat : Int) * 256 + (s[b + 1].toNat : Int))
  · have E : rlSpec s b = ([], 0, 5) := by unfold rlSpec rcSpec; rw [hr]; unfold rcOf; rw [if_neg (by simp), if_neg h4, if_pos (by simp only; omega)]; rfl
    rw [E]
    clear hr E
    go_enter Try.func25, Try.ntmps25
    go_wp2_with fail
    go_region
    go_wp2_with fail
    go_ret3
    exact ⟨_, rfl, World.ownsRow_nil _ _ _ _, (Below.refl _ _).drew⟩
  · obtain ⟨n, hn⟩ : ∃ n, n = s[b].toNat * 256 + s[b + 1].toNat := ⟨_, rfl⟩
    have E : rlSpec s b = (rlNums s (b + 2) n, (b : Int) + 2 + 8 * (n : Int), 0) := by
      unfold rlSpec rcSpec; rw [hr]; unfold rcOf; rw [if_neg (by simp), if_neg h4, if_neg (by simp only; omega)]
      unfold rlOf; rw [if_neg (by simp)]
      simp only
      rw [show ((b : Int) + 2).toNat = b + 2 from by omega, show ((s[b].toNat : Int) * 256 + (s[b + 1].toNat : Int)).toNat = n from by omega,
        show (s[b].toNat : Int) * 256 + (s[b + 1].toNat : Int) = (n : Int) from by omega]
    rw [E]
    clear hr E
    obtain ⟨i0, hi, hz0, hz1, hz2⟩ := info_parts info_int
    have HN : Hid ((s[b].toNat : Int) * 256 + (s[b + 1].toNat : Int) = (n : Int)) := by show _ = _; omega
    have b1 : n ≤ 512 := by omega
    have b2 : b + 2 + 8 * n ≤ s.size := by omega
    go_enter Try.func25, Try.ntmps25
    go_wp2_with fail
    go_region
    rw [HN.out]
    clear h4 h5 hn
    go_wp2_with fail
    go_loopw [8, 9] (fun v i wr => ∃ j : Nat, j ≤ n ∧ i = .int .i64 j ∧ RrAt w wr v s (b + 2) j) (fun _ i _ => n - (intOf i).toNat)
    case atStart => exact ⟨0, Nat.zero_le _, rfl, World.ownsRow_nil _ _ _ _, (Below.refl _ _).drew⟩
    case round =>
      obtain ⟨j, hj, rfl, hl⟩ := hrel
      by_cases hlt : j < n
      · have h2 := refReadI_any s (((b + 2 : Nat) : Int) + 8 * (j : Int)) HS.out (by omega)
        rw [rdI_num s (b + 2) j (by omega)] at h2
        unfold rdIRet at h2
        rw [show ((b + 2 : Nat) : Int) = (b : Int) + 2 from by omega] at h2
        have H2 := Lib.hid h2
        have HL := Lib.hid hl
        have hsz := hl.2.size
        have hown := hl.1.alloc (.cells #[.int .i64 (rlNum s (b + 2) j)] 3)
        clear h2 hl
        go_wp2_with fail
        refine (H2.out _).mono ?_
        rintro e w2 ⟨rfl, rfl⟩
        go_wp2_with (at_builtin; refine wpList_append_own _ rfl _ _ 27 rfl w.heap.size 3 i0 (.int .i64 0) 1 8 Try.underlying27 hi hz0 hz1 hz2 rfl (by decide) _ j _ rfl hown ⟨wr.heap.size, 0, none⟩ 1 1 [.int .i64 (rlNum s (b + 2) j)] rfl rfl (one_cell _) (one_oneCell _) (by unfold maxLen; omega) (by omega) (by simp; omega) ?_)
        intro v1 w3 hown1 hgr _
        have R := Lib.hid (rrAt_step HL.out hown1 hgr)
        clear hown hown1 hgr
        go_wp2_with fail
        go_roundw
        case rel => exact ⟨j + 1, by omega, by go_num, R.out⟩
        case measure => simp [intOf]; omega
      · obtain rfl : j = n := by omega
        have HL := Lib.hid hl
        clear hl
        go_wp2_with fail
        go_ret3
        refine ⟨u8, rfl, ?_, HL.out.2⟩
        have := HL.out.1
        simpa only [rlNums_len] using this


set_option maxHeartbeats 400000 in
theorem ints_zero (ao bo : Option Addr) (ca cb : Nat) (w : World) :
    Calls Try.prog 26 #[.slice ao 0 ca, .slice bo 0 cb] w fun e w' => e = .returned (.bool true) ∧ Below w.heap.size w w' := by
  go_enter Try.func26, Try.ntmps26
  go_wp2_with fail
  refine wp_loop_rounds 1 ?_
  rw [rounds_succ]
  go_wp2_with fail
  go_ret
  exact ⟨rfl, Below.refl _ _⟩

set_option maxHeartbeats 400000 in
theorem ints_same (b1 o1 c1 b2 o2 c2 : Nat) (zs : List Int) (hl : zs.length ≤ maxLen) (w : World)
    (h1 : ∀ i, i < zs.length → w.cell? ⟨b1, o1 + i, none⟩ = some (.int .i64 (zs.getD i 0))) (h2 : ∀ i, i < zs.length → w.cell? ⟨b2, o2 + i, none⟩ = some (.int .i64 (zs.getD i 0))) :
    Calls Try.prog 26 #[.slice (some ⟨b1, o1, none⟩) zs.length c1, .slice (some ⟨b2, o2, none⟩) zs.length c2] w fun e w' => e = .returned (.bool true) ∧ Below w.heap.size w w' := by
  generalize hn : zs.length = n at *
  clear hn
  unfold maxLen at hl
  have H1 := Lib.hid h1
  have H2 := Lib.hid h2
  clear h1 h2
  go_enter Try.func26, Try.ntmps26
  go_wp2_with fail
  go_loopw [5] (fun i wr => ∃ j : Nat, j ≤ n ∧ i = .int .i64 j ∧ (∀ a, wr.cell? a = w.cell? a) ∧ Below w.heap.size w wr) (fun i _ => n - (intOf i).toNat)
  case atStart => exact ⟨0, Nat.zero_le _, rfl, fun _ => rfl, Below.refl _ _⟩
  case round =>
    obtain ⟨j, hj, rfl, hc, hb⟩ := hrel
    by_cases hlt : j < n
    · obtain ⟨z, hz⟩ : ∃ z, z = zs.getD j 0 := ⟨_, rfl⟩
      have g1 : wr.cell? ⟨b1, o1 + j, none⟩ = some (.int .i64 z) := by rw [hc, H1.out j hlt, hz]
      have g2 : wr.cell? ⟨b2, o2 + j, none⟩ = some (.int .i64 z) := by rw [hc, H2.out j hlt, hz]
      have HC := Lib.hid hc
      clear hc hz
      go_wp2_with fail
      go_region
      all_goals
        go_wp2_with fail
        go_roundw
        case rel => exact ⟨j + 1, by omega, by go_num, fun a => HC.out a, hb.drew⟩
        case measure => simp [intOf]; omega
    · clear hc
      go_wp2_with fail
      go_ret
      exact ⟨rfl, hb⟩

end Go.Proofs.Ytcbpekliijbhoaa
