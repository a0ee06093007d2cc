/- Proved: eggboxlaw02.BitsBack answers true at every set and all n and m (P2.11): what did not fall out of a bits.Shift comes back by the opposite one, and two shifts to one side are one, as long as the sum is an int; its arguments read behind the call as before. -/
import Derived.Test.YtghchlppdhfoeabBb
import Derived.Test.YtghchlppdhfoeabBz
import Derived.Test.YtghchlppdhfoeabBk
import Derived.Deep.DeepCutAuto
import Derived.ProofKit
import Derived.OpenShut
import Derived.ShutString
import Derived.ChangeOld
import Derived.JoinedCond
namespace Go.Proofs.Ytghchlppdhfoeab.bitsBack
open Go.ChangeShapes Go.WideShapes Go.ChangeAt Go.RowKit
set_option linter.unusedVariables false

theorem i64_bounds {n : Int} (h : (Lit.int .i64 n).wf = true) : -9223372036854775808 ≤ n ∧ n ≤ 9223372036854775807 := by
  simp [Lit.wf, IntKind.min, IntKind.max, IntKind.signed, IntKind.bits] at h
  exact h

set_option maxHeartbeats 4000000 in
set_option maxRecDepth 100000 in
theorem walk (N : Nat) (n m : Int) (hN : Fits N) (hn : (Lit.int .i64 n).wf = true) (hm : (Lit.int .i64 m).wf = true) (w : World) :
    Calls Try.prog 3 #[setV N, .int .i64 n, .int .i64 m] w fun e w' => e = .returned (.bool true) ∧ Below w.heap.size w w' := by
  obtain ⟨hn1, hn2⟩ := i64_bounds hn
  obtain ⟨hm1, hm2⟩ := i64_bounds hm
  clear hn hm
  by_cases hmin : n = -9223372036854775808
  · subst hmin
    obtain ⟨T, HT⟩ : ∃ T, Hid (shiftN N (-9223372036854775808) = T) := ⟨_, rfl⟩
    have hTf : Fits T := by rw [← HT.out]; exact fits_shift hN _
    have r0 := RowAt.last w (cellsF (word N)) 24
    have BB := (Below.refl w.heap.size w).alloc (Nat.le_refl _) (.cells (cellsF (word N)) 24)
    unfold setV cellsF
    unfold cellsF at r0 BB
    have hT0 : T = 0 := by rw [← HT.out]; exact shift_big (by omega)
    subst hT0
    have hz := eq_zero
    have hw0 : wrap64 9223372036854775808 = -9223372036854775808 := by unfold wrap64; omega
    go_enter Try.func3, Try.ntmps3
    go_wp2_with (first
      | (go_at_call_of 5 (Value.int IntKind.u64 ((word N 0 : Nat) : Int)); refine (shift_any N hN _ _).mono ?_; rintro e w1 ⟨rfl, hb1⟩; rw [HT.out]; unfold setV cellsF; have rs := RowAt.stay r0 hb1; have cs := RowAt.cell rs; have ds := RowAt.cellA rs; have BB := go_on BB hb1)
      | (go_at_call_of 5 (Value.int IntKind.u64 ((word 0 0 : Nat) : Int)); refine (shift_any 0 fits_zero _ _).mono ?_; rintro e w2 ⟨rfl, hb2⟩; unfold setV cellsF; have rs := RowAt.step rs hb2; have cs := RowAt.cell rs; have ds := RowAt.cellA rs; have rt := RowAt.new hb2; have ct := RowAt.cell rt; have dt := RowAt.cellA rt; have BB := go_new BB hb2))
    go_wp2_with (first
      | (go_at_call 6; refine (live_any _).mono ?_; rintro e wl ⟨rfl, hbl⟩; have BB := go_new BB hbl))
    go_ret
    exact ⟨rfl, BB⟩
  · by_cases hz : n = 0
    · subst hz
      have h := back_zero N m hN hm1 hm2 w
      exact h
    · exact back_any N n m hN (by omega) hn2 hm1 hm2 hz w

/-! ### The row's step -/
theorem own : ownKnob Try.prog.godebug = none := by kernel_rfl
set_option maxRecDepth 100000 in
theorem lifted (os : Os) (started : os.Started) (H : Type) (enc : TypeId × Value → H) :
    ReturnsInHanded {} Try.checked os 3 .any (Rows.bitsBackSpec.pre6 enc Try.prog Try.f3 Rows.bitsBackRow.domain false) (Rows.bitsBackSpec.post enc Try.prog Try.f3 false true false false) := by
  refine returnsInHanded_of_change (C := Try.checked) own started (by kernel_rfl) Try.func3
    (ChangeSpec.witness6 (enc := enc) (C := Try.checked) false ⟨#[], #[.agg #[.int .u64 0, .int .u64 0, .int .u64 0, .int .u64 0, .int .u64 0, .int .u64 0, .int .u64 0, .int .u64 0], .int .i64 0, .int .i64 0], []⟩ 8 (by kernel_rfl) (by kernel_rfl) (by kernel_rfl) (by kernel_rfl)) ?_
  intro W base args ds gs before hval0 hW hcnd _
  have hval : ∀ (j : Nat) t v, Try.f3.params[j]? = some t → args[j]? = some v → Value.okWide Try.prog W .any base t v := hval0
  clear hval0
  have hW' := hW
  obtain ⟨p, q, hA0, hV, rfl, hfz, hnd⟩ := hW
  have hA : DataW.TrodAll enc Try.prog W 0 (fun _ => true) true Try.f3.params.toList args.toList ds p := hA0
  rw [Try.params3] at hA hval
  obtain ⟨v0, vs0, d0, ds0, p0, q0, hargs, rfl, rfl, h0, r0⟩ := trodAll_cons hA
  obtain ⟨v1, vs1, d1, ds1, p1, q1, rfl, rfl, rfl, h1, r1⟩ := trodAll_cons r0
  obtain ⟨v2, vs2, d2, ds2, p2, q2, rfl, rfl, rfl, h2, r2⟩ := trodAll_cons r1
  obtain ⟨rfl, rfl, rfl⟩ := trodAll_nil r2
  obtain rfl : args = #[v0, v1, v2] := by cases args; simp_all
  obtain ⟨rfl, rfl⟩ := trodVars_none hV
  obtain ⟨a0, rfl, rfl, rfl, w0⟩ := open_set (hval 0 24 v0 rfl rfl) h0
  obtain ⟨a1, rfl, rfl, rfl, w1⟩ := open_int Try.underlying3 (hval 1 3 v1 rfl rfl) h1
  obtain ⟨a2, rfl, rfl, rfl, w2⟩ := open_int Try.underlying3 (hval 2 3 v2 rfl rfl) h2
  have z0 := w0
  have z1 := w1
  have z2 := w2
  clear hA0
  refine (walk a0 a1 a2 z0 z1 z2 W).mono fun e W' ⟨he, bel⟩ => ?_
  subst he
  exact ⟨_, rfl, _, _, _, [], _, [], hW', trodAll_mk1 (shut_bool Try.underlying4 _), (trodAll_cons_mk (shut_set a0) (trodAll_cons_mk (shut_int Try.underlying3 w1) (trodAll_cons_mk (shut_int Try.underlying3 w2) trodAll_mk0))), rfl, bel.frame _, fun h => by cases h⟩

theorem over : Rows.bitsBackRow.holds Try.pinned (OpenSpec.ofChange Rows.bitsBackSpec) :=
  OpenClaim.holds_of_wide 3 Try.f3 rfl rfl rfl rfl rfl rfl rfl ⟨rfl, rfl, rfl, rfl, rfl⟩ rfl rfl rfl rfl rfl (by kernel_rfl) Try.func3 (by kernel_rfl)
    (of_decide_eq_true (by kernel_rfl)) (by unfold Func.isWrapper; first | (rw [if_pos (by decide +kernel)]; kernel_rfl) | (rw [if_neg (by decide +kernel)]; exact ⟨rfl, rfl⟩))
    (fun os started H enc _ => lifted os started H enc)

end Go.Proofs.Ytghchlppdhfoeab.bitsBack
namespace Go.Proofs.Ytghchlppdhfoeab
/-- The given statement. -/
theorem bitsBack_holds : Rows.BitsBackSaid := bitsBack.over
end Go.Proofs.Ytghchlppdhfoeab
