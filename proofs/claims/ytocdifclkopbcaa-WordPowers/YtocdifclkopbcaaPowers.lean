/- Proved: eggboxlaw01.WordPowers answers true at every k, w and n (P105): word.Power and word.Reverse answer what the document's Power and Reverse answer; its arguments read behind the call as before. No condition but the form's own. -/
import Derived.Test.YtocdifclkopbcaaRep
import Derived.ProofKit
import Derived.OpenShut
import Derived.ShutString
import Derived.ChangeOld
import Derived.SizedLaws
namespace Go.Proofs.Ytocdifclkopbcaa.wordPowers
open Go.ChangeShapes Go.WideShapes Go.ChangeAt Go.RowKit
open Go.ChangeMaps (open_string shut_string)
set_option linter.unusedVariables false

theorem power_both (k : Int) (U : List UInt8) (n : Int) (hs : U.length ≤ 9223372036854775807) : ∃ (A : ByteArray) (E : Int),
    (∀ w, Calls Try.prog 21 #[.int .i64 k, .string (str U), .int .i64 n] w fun e w' => e = .returned (.tuple #[.string A, .int .i64 E]) ∧ Below w.heap.size w w') ∧
    (∀ w, Calls Try.prog 23 #[.int .i64 k, .string (str U), .int .i64 n] w fun e w' => e = .returned (.tuple #[.string A, .int .i64 E]) ∧ Below w.heap.size w w') := by
  by_cases hc : chk k (str U) = 0
  · by_cases h : n < 0 ∨ U = [] ∨ 4096 / (U.length : Int) < n
    · exact ⟨_, _, fun w => power_none k U n w hc h, fun w => rpower_none k U n w hs hc h⟩
    · have hn : ¬ n < 0 := fun g => h (.inl g)
      have h0 : U ≠ [] := fun g => h (.inr (.inl g))
      have hq : ¬ 4096 / (U.length : Int) < n := fun g => h (.inr (.inr g))
      obtain ⟨m, rfl⟩ := Int.eq_ofNat_of_zero_le (show 0 ≤ n by omega)
      have hm : m ≤ 4096 / U.length := by
        have e : (4096 : Int) / (U.length : Int) = ((4096 / U.length : Nat) : Int) := by simp
        rw [e] at hq
        omega
      exact ⟨_, _, fun w => power_do k U m w hc h0 hm, fun w => rpower_do k U m w hs hc h0 hm⟩
  · exact ⟨_, _, fun w => power_err k U n w hc, fun w => rpower_err k U n w hs hc⟩

set_option maxHeartbeats 1000000 in
set_option maxRecDepth 100000 in
theorem walk (a0 : Int) (a1 : ByteArray) (a2 : Int) (w0 : (Lit.int .i64 a0).wf = true) (w1 : a1.size ≤ 140737488351232) (w2 : (Lit.int .i64 a2).wf = true) (w : World) :
    Calls Try.prog 5 #[.int .i64 a0, .string a1, .int .i64 a2] w fun e w' => e = .returned (.bool true) ∧ Below w.heap.size w w' := by
  obtain ⟨U, hU⟩ : ∃ U, a1 = str U := ⟨a1.data.toList, by apply ByteArray.ext; simp [str]⟩
  subst hU
  have hl : U.length ≤ 140737488351232 := by rw [← str_size]; exact w1
  obtain ⟨A, E, hP, hR⟩ := power_both a0 U a2 (by omega)
  have HP : Hid _ := hP
  have HR : Hid _ := hR
  clear hP hR w0 w2
  go_enter Try.func5, Try.ntmps5
  go_wp2_with fail
  refine (HP.out _).mono ?_
  rintro e x1 ⟨rfl, b1⟩
  go_wp2_with fail
  refine (reverse_any a0 (str U) _ (by omega)).mono ?_
  rintro e x2 ⟨rfl, b2⟩
  go_wp2_with fail
  refine (HR.out _).mono ?_
  rintro e x3 ⟨rfl, b3⟩
  go_wp2_with fail
  refine (rreverse_any a0 (str U) _ (by omega)).mono ?_
  rintro e x4 ⟨rfl, b4⟩
  go_wp2_with (go_at_call 11; refine (num_any _ _).mono ?_; rintro e y1 ⟨rfl, hy1⟩; subst y1)
  refine (knows_any _).mono ?_
  rintro e x5 ⟨rfl, b5⟩
  go_wp2
  go_ret
  exact ⟨rfl, go_on (go_on (go_on (go_on b1 b2) b3) b4) b5⟩

/-! ### The row's step -/
theorem own : ownKnob Try.prog.godebug = none := by kernel_rfl
set_option maxRecDepth 100000 in
theorem lifted (os : Os) (started : os.Started) (H : Type) (enc : TypeId × Value → H) :
    ReturnsInHanded {} Try.checked os 5 .any (Rows.wordPowersSpec.pre6 enc Try.prog Try.f5 Rows.wordPowersRow.domain false) (Rows.wordPowersSpec.post enc Try.prog Try.f5 false true false false) := by
  refine returnsInHanded_of_change_sized (C := Try.checked) own started (by kernel_rfl) Try.func5
    (ChangeSpec.witness6 (enc := enc) (C := Try.checked) false ⟨#[], #[.int .i64 0, .string ByteArray.empty, .int .i64 0], []⟩ 8 (by kernel_rfl) (by kernel_rfl) (by kernel_rfl) (by kernel_rfl)) ?_
  intro W base args ds gs before hval0 hW hcnd hsz0 _
  have hval : ∀ (j : Nat) t v, Try.f5.params[j]? = some t → args[j]? = some v → Value.okWide Try.prog W .any base t v := hval0
  clear hval0
  have hsz : (DataW.weightsEach Try.prog (Try.f5.params.toList ++ Rows.wordPowersSpec.plain.varTypes Try.prog) (ds ++ gs)).all (· ≤ reachBytes) = true := hsz0
  clear hsz0
  have hW' := hW
  obtain ⟨p, q, hA0, hV, rfl, hfz, hnd⟩ := hW
  have hA : DataW.TrodAll enc Try.prog W 0 (fun _ => true) true Try.f5.params.toList args.toList ds p := hA0
  rw [Try.params5] at hA hval hsz
  obtain ⟨v0, vs0, d0, ds0, p0, q0, hargs, rfl, rfl, h0, r0⟩ := trodAll_cons hA
  obtain ⟨v1, vs1, d1, ds1, p1, q1, rfl, rfl, rfl, h1, r1⟩ := trodAll_cons r0
  obtain ⟨v2, vs2, d2, ds2, p2, q2, rfl, rfl, rfl, h2, r2⟩ := trodAll_cons r1
  obtain ⟨rfl, rfl, rfl⟩ := trodAll_nil r2
  obtain rfl : args = #[v0, v1, v2] := by cases args; simp_all
  obtain ⟨rfl, rfl⟩ := trodVars_none hV
  obtain ⟨a0, rfl, rfl, rfl, w0⟩ := open_int Try.underlying3 (hval 0 3 v0 rfl rfl) h0
  obtain ⟨a1, rfl, rfl, rfl, w1⟩ := open_string Try.underlying9 (hval 1 9 v1 rfl rfl) h1
  obtain ⟨a2, rfl, rfl, rfl, w2⟩ := open_int Try.underlying3 (hval 2 3 v2 rfl rfl) h2
  have z0 := w0
  have z1 : a1.size ≤ 140737488351232 := by
    have := sized_string hsz (j := 1) (t := 9) rfl rfl
    simpa [reachBytes] using this
  have z2 := w2
  clear hA0
  refine (walk a0 a1 a2 z0 z1 z2 W).mono fun e W' ⟨he, bel⟩ => ?_
  subst he
  exact ⟨_, rfl, _, _, _, [], _, [], hW', trodAll_mk1 (shut_bool Try.underlying4 _), (trodAll_cons_mk (shut_int Try.underlying3 w0) (trodAll_cons_mk (shut_string Try.underlying9 w1) (trodAll_cons_mk (shut_int Try.underlying3 w2) trodAll_mk0))), rfl, bel.frame _, fun h => by cases h⟩

theorem over : Rows.wordPowersRow.holds Try.pinned (OpenSpec.ofChange Rows.wordPowersSpec) :=
  OpenClaim.holds_of_wide 5 Try.f5 rfl rfl rfl rfl rfl rfl rfl ⟨rfl, rfl, rfl, rfl, rfl⟩ rfl rfl rfl rfl rfl (by kernel_rfl) Try.func5 (by kernel_rfl)
    (of_decide_eq_true (by kernel_rfl)) (by unfold Func.isWrapper; first | (rw [if_pos (by decide +kernel)]; kernel_rfl) | (rw [if_neg (by decide +kernel)]; exact ⟨rfl, rfl⟩))
    (fun os started H enc _ => lifted os started H enc)

end Go.Proofs.Ytocdifclkopbcaa.wordPowers
namespace Go.Proofs.Ytocdifclkopbcaa
/-- The given statement. -/
theorem wordPowers_holds : Rows.WordPowersSaid := wordPowers.over
end Go.Proofs.Ytocdifclkopbcaa
