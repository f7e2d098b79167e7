/- The program's through: a run to its end, or to the step that goes wrong. -/
import Derived.Test.YtehdlpgopcoecaaVmP7
import Derived.Test.YtehdlpgopcoecaaVmOf
import Derived.Defers
import Derived.Recover
namespace Go.Proofs.Ytehdlpgopcoecaa
open Go.RowKit
set_option linter.unusedVariables false
set_option maxRecDepth 100000

/-- what went wrong is caught, and told -/
theorem catch7 (p : Addr) (P : Nat) (m n : Int) (older : List PanicEntry) (w : World) (hc : w.cell? p = some (.pointer (some ⟨P, 0, none⟩))) (hf : w.cell? ⟨P, 14, none⟩ = some (.int .i64 m)) (hz : w.frozen? ⟨P, 14, none⟩ = false) :
    CallsD Try.prog 33 #[.pointer (some p)] (.panicking ({ v := .iface 55 (.int .i64 n), recovered := false } :: older)) w fun e u' w' =>
      e = .returned (.tuple #[]) ∧ u' = .panicking ({ v := .iface 55 (.int .i64 n), recovered := true } :: older) ∧ w' = w.setCell ⟨P, 14, none⟩ (.int .i64 n) := by
  refine callsD_of_wpS Try.func33 rfl fun c₀ cs hu => ?_
  apply wpS_seq
  apply wpS_region
  simp [wpOpsS, go_sem, recoverD, hu, Try.ntmps33, Exit.thenS]
  have hta : ∀ (n : Int) (w : World), (Instr.typeAssert (.iface 55 (.int .i64 n)) 20 55 true).run Try.prog w = .ok (.tuple #[.int .i64 n, .bool true]) w := fun n w => by kernel_rfl
  refine wpS_of_wp ?_
  change Code.wp _ _ _ { tmps := #[.pointer (some p), undef, undef, undef, .iface 55 (.int .i64 n), undef, undef, undef, undef, undef, undef, undef, undef, undef], defers := [] } w
  go_wp2_with fail
  simp [bodyPostS, results, Try.results33]
/-- nothing went wrong -/
theorem idle7 (p : Addr) (w : World) :
    CallsD Try.prog 33 #[.pointer (some p)] .returning w fun e u' w' => e = .returned (.tuple #[]) ∧ u' = .returning ∧ w' = w := by
  refine callsD_of_wpS Try.func33 rfl fun c₀ cs hu => ?_
  apply wpS_seq
  apply wpS_region
  simp [wpOpsS, go_sem, recoverD, hu, Try.ntmps33, Exit.thenS]
  refine wpS_of_wp ?_
  change Code.wp _ _ _ { tmps := #[.pointer (some p), undef, undef, undef, .nilIface, undef, undef, undef, undef, undef, undef, undef, undef, undef], defers := [] } w
  go_wp2_with fail
  cases c₀
  simp_all [bodyPostS, results, Try.results33]

section
variable {base P bd da : Nat} {lps : Int} {vw vs : Value}
/-- a run to its end -/
def ThroughPost (base P bd da : Nat) (lps : Int) (vw : Value) (M : Mch) (w : World) (e : Ending) (w' : World) : Prop :=
  e = .returned (.tuple #[]) ∧ (∃ vs' q, VmAt base P bd da lps vw vs' { M with pc := q } w') ∧ Below base w w'
set_option maxHeartbeats 3200000 in
theorem through7_any (pr : Nat → I4) (pl : Nat) (seed me : Int) (hda : da = wordN seed me) (B O cp : Nat) (r0 : Mch) (w : World) (hr : VmAt base P bd da lps vw vs r0 w) (hbase : base ≤ w.heap.size) (hpl : pl ≤ 48) (hpos : 0 < pl) (hins : ∀ k, k < pl → insB (pr k) pl = true)
    (hat : At 4 (gI pr) pl B O w) (hB : B < base) (hbd : Bd r0) (hb : ∀ k, r64v (pr k).b) (hn : r0.n = 0) :
    Calls Try.prog 24 #[.pointer (some ⟨P, 0, none⟩), .slice (some ⟨B, O, none⟩) pl cp] w (ThroughPost base P bd da lps vw (runM pr pl lps seed me 120 r0) w) := by
  have hmf : ∀ (fn : Fn) (first cap : Array Value) (w : World), (Instr.makeFunc fn first cap).run Try.prog w = .ok (.func fn first cap) w := fun _ _ _ _ => rfl
  obtain ⟨M, hM⟩ : ∃ M, runM pr pl lps seed me 120 r0 = M := ⟨_, rfl⟩
  rw [hM]
  have HAT := Lib.hid hat
  have HIN := Lib.hid hins
  have HBB := Lib.hid hb
  have HBD := Lib.hid hbd
  have R1 := Lib.hid (hr.below (balloc w (.cells #[.pointer (some ⟨P, 0, none⟩)] 49)))
  have L1 := Lib.hid ((balloc w (.cells #[.pointer (some ⟨P, 0, none⟩)] 49)).mono hbase)
  have X1 := Lib.hid (heap_alloc_new w (.cells #[.pointer (some ⟨P, 0, none⟩)] 49))
  have HBASE := Lib.hid hbase
  have hMh := Lib.hid hM
  have HDA := Lib.hid hda
  have hnh := Lib.hid hn
  clear hr hat hins hb hbd hM hn hbase hda
  go_enter_defers Try.func24, Try.ntmps24
  go_upto_region 1 with fail
  generalize w.alloc (.cells #[.pointer (some ⟨P, 0, none⟩)] 49) = u at *
  generalize w.heap.size = xb at *
  go_wp2_with fail
  go_loopg [] 120 (fun k wr => ∃ r vs q, VmAt base P bd da lps vw vs r wr ∧ Below base w wr ∧ wr.heap[xb]? = some (.cells #[.pointer (some ⟨P, 0, none⟩)] 49 (0, 0)) ∧ (r.pc < pl → r.n + k = 120) ∧ runM pr pl lps seed me k r = { M with pc := q } ∧ Bd r)
  case atStart => exact ⟨r0, vs, M.pc, R1.out, L1.out, X1.out, fun _ => by have := hnh.out; omega, by rw [hMh.out], HBD.out⟩
  case round =>
    clear R1 L1 X1
    obtain ⟨r, vs, q, hr, hl, hx, hk, he, hbd⟩ := hrel
    have RU := Lib.hid hr
    have LU := Lib.hid hl
    have XU := Lib.hid hx
    have HE := Lib.hid he
    have HB2 := Lib.hid hbd
    have HK := Lib.hid hk
    have xb0 : wr.cell? ⟨xb, 0, none⟩ = some (.pointer (some ⟨P, 0, none⟩)) := by rw [Lib.cell_of_heap hx]; rfl
    obtain ⟨p8, p9, p10, p11, p12, p13, p14, pf⟩ := hr.cells
    have SZ : Hid (base ≤ wr.heap.size) := by show _ ≤ _; have := lt_of_block hx; have := HBASE.out; omega
    clear hr hl hx he hbd hk
    by_cases hpc : r.pc < pl
    · have d1 : decide ((r.pc : Int) < (pl : Int)) = true := by rw [decide_eq_true_eq]; omega
      have HPC := Lib.hid hpc
      clear hpc
      have C := Lib.hid (HAT.out)
      have A : Hid (At 4 (gI pr) pl B O wr) := ⟨by have := SZ.out; omega, fun i hi j hj => by rw [LU.out.cell (p := ⟨B, O + i * 4 + j, none⟩) hB]; exact HAT.out.2 i hi j hj⟩
      cases gk with
      | zero =>
        have HF := Lib.hid (vstep_fuel (some ⟨B, O, none⟩) pl cp wr RU.out (by have := HK.out HPC.out; omega))
        go_wp2_with (go_at_call 34; refine HF.out.mono ?_; rintro e w1 ⟨rfl, hw1⟩; subst w1)
        refine leaves_cons (f := 33) (args := #[.pointer (some ⟨xb, 0, none⟩)]) (by simp) (by simp [go_sem]) ?_
        refine (catch7 ⟨xb, 0, none⟩ P _ 1 [] _ xb0 p14 (pf 14)).mono ?_
        rintro e u' w'' ⟨rfl, rfl, rfl⟩
        have R9 := RU.out.setF 1
        have E9 : ({ r with f := 1 } : Mch) = { M with pc := q } := by rw [← HE.out, runM_fuel HPC.out]
        rw [E9] at R9
        have L9 := LU.out.setCell (p := ⟨P, 14, none⟩) RU.out.lo (.int .i64 1)
        simp [Leaves, settle, results, Try.results24, go_sem]
        exact ⟨rfl, ⟨_, _, R9⟩, L9⟩
      | succ k =>
        have hn : r.n < 120 := by have := HK.out HPC.out; omega
        have c0 : wr.cell? ⟨B, O + r.pc * 4, none⟩ = some (.int .i64 (pr r.pc).op) := A.out.2 r.pc HPC.out 0 (by omega)
        have c1 : wr.cell? ⟨B, O + r.pc * 4 + 1, none⟩ = some (.int .i64 (pr r.pc).a) := A.out.2 r.pc HPC.out 1 (by omega)
        have c2 : wr.cell? ⟨B, O + r.pc * 4 + 2, none⟩ = some (.int .i64 (pr r.pc).b) := A.out.2 r.pc HPC.out 2 (by omega)
        have c3 : wr.cell? ⟨B, O + r.pc * 4 + 3, none⟩ = some (.int .i64 (pr r.pc).c) := A.out.2 r.pc HPC.out 3 (by omega)
        by_cases h0 : (pr r.pc).op = 0
        · rw [h0] at c0
          have HS := Lib.hid (vstep_halt (r1 := { r with n := r.n + 1, pc := r.pc + 1 }) _ _ _ B O pl cp wr RU.out rfl SZ.out hB hn HPC.out hpl c0 c1 c2 c3)
          have e0 := Lib.hid ((runM_halt (lps := lps) (seed := seed) (me := me) (k := k) HPC.out h0).symm.trans HE.out)
          clear c0 c1 c2 c3 h0 hn
          go_wp2_with (go_at_call 34; refine HS.out.mono ?_; rintro e w1 ⟨rfl, ⟨vs1, hv⟩, hb1, hk1⟩; have R9 := Lib.hid hv; have L9 := Lib.hid (LU.out.trans hb1); have X9 := Lib.hid (hk1 xb _ _ XU.out); clear hv hb1 hk1)
          go_roundg k
          case measure => omega
          case rel => exact ⟨_, vs1, pl, R9.out, L9.out, X9.out, fun h => absurd h (Nat.lt_irrefl _), (runM_end (r := { r with n := r.n + 1, pc := pl }) (Nat.le_refl pl)).trans (congrArg (fun z : Mch => ({ z with pc := pl } : Mch)) e0.out), ⟨HB2.out.g, HB2.out.w⟩⟩
        · by_cases hf : oneF (pr r.pc) lps { r with n := r.n + 1, pc := r.pc + 1 } = 0
          · have HS := Lib.hid (vstep_ok (r1 := { r with n := r.n + 1, pc := r.pc + 1 }) (pr r.pc) seed me HDA.out B O pl cp wr RU.out rfl SZ.out hB hn HPC.out hpl c0 c1 c2 c3 (HIN.out r.pc HPC.out) h0 ⟨HB2.out.g, HB2.out.w⟩ hf)
            have e0 := Lib.hid ((runM_on (lps := lps) (seed := seed) (me := me) (k := k) HPC.out h0 hf).symm.trans HE.out)
            clear c0 c1 c2 c3 h0 hn hf
            go_wp2_with (go_at_call 34; refine HS.out.mono ?_; rintro e w1 ⟨rfl, ⟨vs1, hv⟩, hb1, hk1⟩; have R9 := Lib.hid hv; have L9 := Lib.hid (LU.out.trans hb1); have X9 := Lib.hid (hk1 xb _ _ XU.out); clear hv hb1 hk1)
            go_roundg k
            case measure => omega
            case rel => exact ⟨_, vs1, q, R9.out, L9.out, X9.out, fun _ => by rw [oneR_n]; have := HK.out HPC.out; show r.n + 1 + k = 120; omega, e0.out, oneR_bd (HBB.out _) ⟨HB2.out.g, HB2.out.w⟩⟩
          · have HS := Lib.hid (vstep_bad (r1 := { r with n := r.n + 1, pc := r.pc + 1 }) (pr r.pc) B O pl cp wr RU.out rfl SZ.out hB hn HPC.out hpl c0 c1 c2 c3 (HIN.out r.pc HPC.out) h0 ⟨HB2.out.g, HB2.out.w⟩ hf)
            have e0 := Lib.hid ((runM_bad (lps := lps) (seed := seed) (me := me) (k := k) HPC.out h0 hf).symm.trans HE.out)
            clear c0 c1 c2 c3 h0 hn hf
            generalize oneF (pr r.pc) lps { r with n := r.n + 1, pc := r.pc + 1 } = fv at *
            go_wp2_with (go_at_call 34; refine HS.out.mono ?_; rintro e w1 ⟨rfl, hv, hb1, hk1⟩; have R9 := Lib.hid hv; have L9 := Lib.hid (LU.out.trans hb1); have X9 := Lib.hid (hk1 xb _ _ XU.out); clear hv hb1 hk1)
            have xb9 : w1.cell? ⟨xb, 0, none⟩ = some (.pointer (some ⟨P, 0, none⟩)) := by rw [Lib.cell_of_heap X9.out]; rfl
            refine leaves_cons (f := 33) (args := #[.pointer (some ⟨xb, 0, none⟩)]) (by simp) (by simp [go_sem]) ?_
            refine (catch7 ⟨xb, 0, none⟩ P _ fv [] _ xb9 R9.out.cells.2.2.2.2.2.2.1 (R9.out.fz 14)).mono ?_
            rintro e u' w'' ⟨rfl, rfl, rfl⟩
            have R8 := R9.out.setF fv
            have E9 : ({ r with n := r.n + 1, pc := r.pc + 1, f := fv } : Mch) = { M with pc := q } := e0.out
            rw [E9] at R8
            have L8 := L9.out.setCell (p := ⟨P, 14, none⟩) R9.out.lo (.int .i64 fv)
            simp [Leaves, settle, results, Try.results24, go_sem]
            exact ⟨rfl, ⟨_, _, R8⟩, L8⟩
    · have d1 : decide ((r.pc : Int) < (pl : Int)) = false := by rw [decide_eq_false_iff_not]; omega
      have HPC := Lib.hid (Nat.le_of_not_lt hpc)
      have d2 : decide (r.pc < pl) = false := by simp [hpc]
      clear hpc
      go_wp2_with fail
      refine leaves_cons (f := 33) (args := #[.pointer (some ⟨xb, 0, none⟩)]) (by simp) (by simp [go_sem]) ?_
      refine (idle7 ⟨xb, 0, none⟩ _).mono ?_
      rintro e u' w'' ⟨rfl, rfl, rfl⟩
      have R9 := RU.out
      have E9 : r = { M with pc := q } := by rw [← HE.out, runM_end HPC.out]
      rw [E9] at R9
      have L9 := LU.out
      simp [Leaves, settle, results, Try.results24, go_sem]
      exact ⟨rfl, ⟨_, _, R9⟩, L9⟩
end

end Go.Proofs.Ytehdlpgopcoecaa
