/- What is asked of the program's root blocks, and what must come at any rate. -/
import Derived.Test.YtaaagmcdbmppmaaYRtR2
import Derived.Test.YtaaagmcdbmppmaaYRtSame
namespace Go.Proofs.Ytaaagmcdbmppmaa
open Go.RowKit Go.Deep
set_option linter.unusedVariables false
set_option linter.unusedSimpArgs false
set_option maxRecDepth 100000

def big64 (x : Int) : Prop := -9223372036854775808 ≤ x ∧ x ≤ 9223372036854775807
def rtE (r : Rt) : Int := if RightR r then 0 else 2
def rtO (r : Rt) : ByteArray := if RightR r then bytesR r else ⟨#[]⟩
/-- what Get hands back -/
def GotR (s : ByteArray) (r : Ending) (u u' : World) : Prop := Below u.heap.size u u' ∧ ((∃ x v, SaysR s x ∧ r = .returned (.tuple #[rtV x.ep x.lg v, .bool true]) ∧ LstI x.parts v u' ∧ ∀ g, v.ownBlock = some g → u.heap.size ≤ g ∧ g < u'.heap.size) ∨ ((∀ x, ¬ SaysR s x) ∧ ∃ ep lg a n c, r = .returned (.tuple #[rtV ep lg (.slice a n c), .bool false])))
structure Rt13 : Prop where
  put : ∀ (ep lg : Int) (l : List Int) (v : Value) (u : World), big64 ep → big64 lg → l.length ≤ 40 → LstI l v u → Calls Try.prog 7 #[rtV ep lg v] u fun r u' => r = .returned (.tuple #[.string (rtO ⟨ep, lg, l⟩), .int .i64 (rtE ⟨ep, lg, l⟩)]) ∧ Below u.heap.size u u'
  get : ∀ (s : ByteArray) (u : World), s.size ≤ 1000 → Calls Try.prog 9 #[.string s] u fun r u' => GotR s r u u'
  newer : ∀ (s : ByteArray) (x : Rt) (u : World), SaysR s x → Calls Try.prog 19 #[.string ⟨#[]⟩, .string s] u fun r u' => (∃ ep lg a n c, r = .returned (.tuple #[rtV ep lg (.slice a n c), .int .i64 1, .bool true])) ∧ Below u.heap.size u u'
  need : ∀ (x : Int) (u : World), big64 x → Calls Try.prog 17 #[.int .i64 x] u fun r u' => r = .returned (.int .i64 (needR x)) ∧ Below u.heap.size u u'
  putPart : ∀ (l : List Int) (v : Value) (p : Int) (u : World), LstI l v u → l.length ≤ 700 → big64 p → Calls Try.prog 12 #[v, .int .i64 p] u fun r u' => r = .returned (.tuple #[.string (partO l p), .int .i64 (partE l p)]) ∧ Below u.heap.size u u'
  getPart : ∀ (s : ByteArray) (m : Int) (u : World), s.size ≤ 1000 → big64 m → Calls Try.prog 14 #[.string s, .int .i64 m] u fun r u' => ∃ v, r = .returned (.tuple #[v, .int .i64 (tellE s m)]) ∧ LstI (getL s m) v u' ∧ Below u.heap.size u u'
theorem heap_stays13 {u u2 : World} {B : Nat} {o : Obj} (h : u.heap[B]? = some o) (k : Below u.heap.size u u2) : u2.heap[B]? = some o := (k.block _ (lt_of_block h)).trans h
theorem awakeR : RightR ⟨3, 117, [5, 9]⟩ := by
  refine ⟨by simp, ?_, by decide, by decide, by decide, by decide, by decide⟩
  intro x hx
  simp only [List.mem_cons, List.not_mem_nil, or_false] at hx
  rcases hx with rfl | rfl <;> omega
theorem two_lit (w : World) : LstI [5, 9] (.slice (some ⟨w.heap.size, 0, none⟩) 2 2) (w.alloc (.cells #[.int .i64 5, .int .i64 9] 3)) := by
  have e := heap_alloc_new w (.cells #[.int .i64 5, .int .i64 9] 3)
  refine ⟨_, _, rfl, Nat.le_refl _, by decide, fun _ => ⟨_, _, rfl, lt_of_block e, fun i hi j hj => ?_⟩⟩
  obtain rfl : j = 0 := by omega
  rw [Lib.cell_of_heap e]
  rcases (by simp at hi; omega : i = 0 ∨ i = 1) with rfl | rfl <;> rfl
set_option maxHeartbeats 6400000 in
theorem awake13_any (I : Rt13) (w : World) : Calls Try.prog 6 #[] w fun r u' => r = .returned (.bool true) ∧ Below w.heap.size w u' := by
  have HR : SaysR (bytesR ⟨3, 117, [5, 9]⟩) ⟨3, 117, [5, 9]⟩ := SaysR.of awakeR
  have HZ := bytesR_size ⟨3, 117, [5, 9]⟩
  have HP := Lib.hid (I.put 3 117 [5, 9] _ _ (by unfold big64; omega) (by unfold big64; omega) (by decide) (two_lit w))
  rw [show rtO ⟨3, 117, [5, 9]⟩ = bytesR ⟨3, 117, [5, 9]⟩ from by unfold rtO; rw [if_pos awakeR], show rtE ⟨3, 117, [5, 9]⟩ = 0 from by unfold rtE; rw [if_pos awakeR]] at HP
  generalize bytesR ⟨3, 117, [5, 9]⟩ = s at *
  have HG : Hid (∀ u, Calls Try.prog 9 #[.string s] u fun r u' => ∃ B o c, r = .returned (.tuple #[.agg #[.int .i64 3, .int .i64 117, .slice (some ⟨B, o, none⟩) 2 c], .bool true]) ∧ 2 ≤ c ∧ B < u'.heap.size ∧ u'.cell? ⟨B, o + 1, none⟩ = some (.int .i64 9) ∧ Below u.heap.size u u') := Lib.hid (fun u => (I.get s u (by omega)).mono fun r u' hg => by
    obtain ⟨hb, ⟨x, v, hx, hr, hv, _⟩ | ⟨h, _⟩⟩ := hg
    · obtain rfl := hx.one HR
      obtain ⟨a, c, e1, hc1, hc2, hc3⟩ := hv
      obtain ⟨b, o, e2, hA⟩ := hc3 (by decide)
      have := hA.one 1 (by decide)
      exact ⟨b, o, c, by rw [hr, e1, e2]; rfl, hc1, hA.1, this, hb⟩
    · exact absurd HR (h _))
  have HN := Lib.hid (fun u => I.newer s _ u HR)
  have HD := Lib.hid (fun u => I.need 117 u (by unfold big64; omega))
  have HS := Lib.hid HR
  unfold rtV at HP HN
  clear I HR
  go_enter Try.func6, Try.ntmps6
  go_wp2_with fail
  refine (HP.out).mono ?_
  rintro e w1 ⟨rfl, hb⟩
  have B1 := Lib.hid (bthen (balloc w _) hb)
  clear hb HP
  go_wp2_with fail
  refine (HG.out _).mono ?_
  rintro e w2 ⟨b, o, c, rfl, hc1, hlt, hcell, hb⟩
  have B2 := Lib.hid (bthen B1.out hb)
  clear hb HG
  have X3 := Lib.hid (heap_alloc_new w2 (.cells #[.int .i64 3, .int .i64 117, .slice (some ⟨b, o, none⟩) 2 c] 29))
  have B3 := Lib.hid (bthen B2.out (balloc w2 (.cells #[.int .i64 3, .int .i64 117, .slice (some ⟨b, o, none⟩) 2 c] 29)))
  have C3 := Lib.hid (show (w2.alloc (.cells #[.int .i64 3, .int .i64 117, .slice (some ⟨b, o, none⟩) 2 c] 29)).cell? ⟨b, o + 1, none⟩ = some (.int .i64 9) from ((balloc w2 _).cell (p := ⟨b, o + 1, none⟩) hlt).trans hcell)
  have L3 := Lib.hid (Nat.lt_of_lt_of_le hlt (balloc w2 (.cells #[.int .i64 3, .int .i64 117, .slice (some ⟨b, o, none⟩) 2 c] 29)).size)
  obtain ⟨C, hC⟩ : ∃ C, C = w2.heap.size := ⟨_, rfl⟩
  rw [← hC] at X3
  clear hlt hcell
  go_upto_region 3 with fail
  rw [← hC]
  generalize w2.alloc (.cells #[.int .i64 3, .int .i64 117, .slice (some ⟨b, o, none⟩) 2 c] 29) = w3 at *
  clear hC
  go_wp2_with fail
  refine (HN.out _).mono ?_
  rintro e w4 ⟨⟨ep, lg, a, n, c2, rfl⟩, hb⟩
  have B4 := Lib.hid (bthen B3.out hb)
  have X4 := Lib.hid (heap_stays13 X3.out hb)
  have C4 := Lib.hid ((hb.cell (p := ⟨b, o + 1, none⟩) L3.out).trans C3.out)
  have L4 := Lib.hid (Nat.lt_of_lt_of_le L3.out hb.size)
  clear hb HN
  have X5 := Lib.hid (heap_stays13 X4.out (balloc w4 (.cells #[.int .i64 ep, .int .i64 lg, .slice a n c2] 29)))
  have B5 := Lib.hid (bthen B4.out (balloc w4 (.cells #[.int .i64 ep, .int .i64 lg, .slice a n c2] 29)))
  have C5 := Lib.hid (((balloc w4 (.cells #[.int .i64 ep, .int .i64 lg, .slice a n c2] 29)).cell (p := ⟨b, o + 1, none⟩) L4.out).trans C4.out)
  clear X3 X4 B3 B4 B1 B2 C3 C4 L3
  go_upto_region 4 with fail
  generalize w4.alloc (.cells #[.int .i64 ep, .int .i64 lg, .slice a n c2] 29) = w5 at *
  obtain ⟨x0, x1, x2⟩ := three_of X5.out
  have x3 := C5.out
  have hz : s.size = 64 := HZ
  go_wp2_with fail
  refine (HD.out _).mono ?_
  rintro e w6 ⟨rfl, hb⟩
  have B6 := Lib.hid (bthen B5.out hb)
  clear hb x0 x1 x2 x3
  have d9 : needR 117 = 2 := by decide
  rw [d9]
  go_wp2_with fail
  go_ret
  exact ⟨rfl, B6.out⟩

end Go.Proofs.Ytaaagmcdbmppmaa
