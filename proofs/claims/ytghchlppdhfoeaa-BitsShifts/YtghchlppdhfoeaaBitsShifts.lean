/- Proved: eggboxlaw02.BitsShifts answers true at every set and every n (P2.6): bits.Shift answers what the document's Shift answers; its arguments read behind the call as before. -/
import Derived.Test.YtghchlppdhfoeaaRs
import Derived.Test.YtghchlppdhfoeaaBk
import Derived.ProofKit
import Derived.OpenShut
import Derived.ShutString
import Derived.ChangeOld
import Derived.JoinedCond
namespace Go.Proofs.Ytghchlppdhfoeaa.bitsShifts
open Go.ChangeShapes Go.WideShapes Go.ChangeAt Go.RowKit
set_option linter.unusedVariables false

theorem row_drew {w : World} {b : Nat} {arr : Array Value} (r : RowAt w b arr) : RowAt w.drew b arr := ⟨r.lt, r.cell⟩

set_option maxHeartbeats 4000000 in
set_option maxRecDepth 100000 in
theorem walk (N : Nat) (n : Int) (hN : Fits N) (hn : (Lit.int .i64 n).wf = true) (w : World) :
    Calls Try.prog 4 #[setV N, .int .i64 n] w fun e w' => e = .returned (.bool true) ∧ Below w.heap.size w w' := by
  clear hn
  obtain ⟨X, HX⟩ : ∃ X, Hid (shiftN N n = X) := ⟨_, rfl⟩
  have hP := eq_same (word X)
  have r0 := RowAt.last w (cellsF (word N)) 24
  unfold setV cellsF
  unfold cellsF at hP r0
  have HW : Hid _ := (Below.refl w.heap.size w).alloc (Nat.le_refl _) (.cells #[.int .u64 (word N 0 : Nat), .int .u64 (word N 1 : Nat), .int .u64 (word N 2 : Nat), .int .u64 (word N 3 : Nat), .int .u64 (word N 4 : Nat), .int .u64 (word N 5 : Nat), .int .u64 (word N 6 : Nat), .int .u64 (word N 7 : Nat)] 24)
  go_enter Try.func4, Try.ntmps4
  go_wp2_with fail
  generalize hWd : w.alloc (.cells #[.int .u64 (word N 0 : Nat), .int .u64 (word N 1 : Nat), .int .u64 (word N 2 : Nat), .int .u64 (word N 3 : Nat), .int .u64 (word N 4 : Nat), .int .u64 (word N 5 : Nat), .int .u64 (word N 6 : Nat), .int .u64 (word N 7 : Nat)] 24) = W at r0 HW ⊢
  clear hWd
  have rs := row_drew r0
  have B : Below w.heap.size w W.drew := HW.out.drew
  have cs := RowAt.cell rs
  have cs0 := RowAt.cell r0
  go_region_with (first
    | (go_at_call 20; refine (shift_any N hN n _).mono ?_; rintro e w1 ⟨rfl, hb1⟩; rw [HX.out]; unfold setV cellsF; have rs := RowAt.stay rs hb1; have cs := RowAt.cell rs; have B := go_on B hb1)
    | (go_at_call 21; refine (rshift_any N hN n _).mono ?_; rintro e w2 ⟨rfl, hb2⟩; rw [HX.out]; unfold setV cellsF; have rs := RowAt.stay rs hb2; have cs := RowAt.cell rs; have B := go_on B hb2)
    | (go_at_call 19; refine (live_any _).mono ?_; rintro e wl ⟨rfl, hbl⟩; have B := go_on B hbl))
  all_goals go_wp2_with fail
  all_goals go_ret
  all_goals exact ⟨rfl, B⟩

/-! ### The row's step -/
theorem own : ownKnob Try.prog.godebug = none := by kernel_rfl
set_option maxRecDepth 100000 in
theorem lifted (os : Os) (started : os.Started) (H : Type) (enc : TypeId × Value → H) :
    ReturnsInHanded {} Try.checked os 4 .any (Rows.bitsShiftsSpec.pre6 enc Try.prog Try.f4 Rows.bitsShiftsRow.domain false) (Rows.bitsShiftsSpec.post enc Try.prog Try.f4 false true false false) := by
  refine returnsInHanded_of_change (C := Try.checked) own started (by kernel_rfl) Try.func4
    (ChangeSpec.witness6 (enc := enc) (C := Try.checked) false ⟨#[], #[.agg #[.int .u64 0, .int .u64 0, .int .u64 0, .int .u64 0, .int .u64 0, .int .u64 0, .int .u64 0, .int .u64 0], .int .i64 0], []⟩ 8 (by kernel_rfl) (by kernel_rfl) (by kernel_rfl) (by kernel_rfl)) ?_
  intro W base args ds gs before hval0 hW hcnd _
  have hval : ∀ (j : Nat) t v, Try.f4.params[j]? = some t → args[j]? = some v → Value.okWide Try.prog W .any base t v := hval0
  clear hval0
  have hW' := hW
  obtain ⟨p, q, hA0, hV, rfl, hfz, hnd⟩ := hW
  have hA : DataW.TrodAll enc Try.prog W 0 (fun _ => true) true Try.f4.params.toList args.toList ds p := hA0
  rw [Try.params4] at hA hval
  obtain ⟨v0, vs0, d0, ds0, p0, q0, hargs, rfl, rfl, h0, r0⟩ := trodAll_cons hA
  obtain ⟨v1, vs1, d1, ds1, p1, q1, rfl, rfl, rfl, h1, r1⟩ := trodAll_cons r0
  obtain ⟨rfl, rfl, rfl⟩ := trodAll_nil r1
  obtain rfl : args = #[v0, v1] := by cases args; simp_all
  obtain ⟨rfl, rfl⟩ := trodVars_none hV
  obtain ⟨a0, rfl, rfl, rfl, w0⟩ := open_set (hval 0 24 v0 rfl rfl) h0
  obtain ⟨a1, rfl, rfl, rfl, w1⟩ := open_int Try.underlying3 (hval 1 3 v1 rfl rfl) h1
  have z0 := w0
  have z1 := w1
  clear hA0
  refine (walk a0 a1 z0 z1 W).mono fun e W' ⟨he, bel⟩ => ?_
  subst he
  exact ⟨_, rfl, _, _, _, [], _, [], hW', trodAll_mk1 (shut_bool Try.underlying4 _), (trodAll_cons_mk (shut_set a0) (trodAll_cons_mk (shut_int Try.underlying3 w1) trodAll_mk0)), rfl, bel.frame _, fun h => by cases h⟩

theorem over : Rows.bitsShiftsRow.holds Try.pinned (OpenSpec.ofChange Rows.bitsShiftsSpec) :=
  OpenClaim.holds_of_wide 4 Try.f4 rfl rfl rfl rfl rfl rfl rfl ⟨rfl, rfl, rfl, rfl, rfl⟩ rfl rfl rfl rfl rfl (by kernel_rfl) Try.func4 (by kernel_rfl)
    (of_decide_eq_true (by kernel_rfl)) (by unfold Func.isWrapper; first | (rw [if_pos (by decide +kernel)]; kernel_rfl) | (rw [if_neg (by decide +kernel)]; exact ⟨rfl, rfl⟩))
    (fun os started H enc _ => lifted os started H enc)

end Go.Proofs.Ytghchlppdhfoeaa.bitsShifts
namespace Go.Proofs.Ytghchlppdhfoeaa
/-- The given statement. -/
theorem bitsShifts_holds : Rows.BitsShiftsSaid := bitsShifts.over
end Go.Proofs.Ytghchlppdhfoeaa
