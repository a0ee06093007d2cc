/- Proved: eggboxlaw01.WordTurns answers true at every k, x and y (P105): of words over 1 to 8 letters, turned round twice a word is as it was, a product turned round is both turned round and changed about, the order is kept by a letter put ahead of both and turned about with its words; its arguments read behind the call as before. No condition but the form's own. -/
import Derived.Test.YtocdifclkopbcabWrd
import Derived.ProofKit
import Derived.OpenShut
import Derived.ShutString
import Derived.ChangeOld
import Derived.SizedLaws
namespace Go.Proofs.Ytocdifclkopbcab.wordTurns
open Go.ChangeShapes Go.WideShapes Go.ChangeAt Go.RowKit
open Go.ChangeMaps (open_string shut_string)
set_option linter.unusedVariables false

set_option maxHeartbeats 2000000 in
set_option maxRecDepth 100000 in
theorem walk (a0 : Int) (a1 : ByteArray) (a2 : ByteArray) (w0 : (Lit.int .i64 a0).wf = true) (w1 : a1.size ≤ 140737488351232) (w2 : a2.size ≤ 140737488351232) (w : World) :
    Calls Try.prog 5 #[.int .i64 a0, .string a1, .string a2] w fun e w' => e = .returned (.bool true) ∧ Below w.heap.size w w' := by
  obtain ⟨h1, h8⟩ := lts_range a0
  go_enter Try.func5, Try.ntmps5
  go_wp2_with fail
  refine (lettersL_any a0 _).mono ?_
  rintro e x0 ⟨rfl, rfl⟩
  generalize lts a0 = k at *
  go_wp2_with fail
  refine (over_w k a1 _ h1 h8 (by omega)).mono ?_
  rintro e x1 ⟨U, hU, lU, rfl, b1⟩
  have HU : Hid _ := hU
  have HLU : Hid _ := lU
  clear hU lU
  go_wp2_with fail
  refine (over_w k a2 _ h1 h8 (by omega)).mono ?_
  rintro e x2 ⟨V, hV, lV, rfl, b2⟩
  have HV : Hid _ := hV
  have HLV : Hid _ := lV
  clear hV lV
  go_wp2_with fail
  refine (reverse_w k U _ h1 h8 HU.out (by have := HLU.out; omega)).mono ?_
  rintro e x3 ⟨rfl, b3⟩
  go_wp2_with fail
  refine (reverse_w k V _ h1 h8 HV.out (by have := HLV.out; omega)).mono ?_
  rintro e x4 ⟨rfl, b4⟩
  have hz1 : ¬ 9223372036854775807 < (str U).size + (str V).size := by rw [str_size, str_size, HLU.out, HLV.out]; omega
  go_wp2_with fail
  rw [str_append]
  refine (reverse_w k (U ++ V) _ h1 h8 (isW_append HU.out HV.out) (by rw [List.length_append, HLU.out, HLV.out]; omega)).mono ?_
  rintro e x5 ⟨rfl, b5⟩
  clear hz1
  go_wp2_with fail
  refine (reverse_w k U.reverse _ h1 h8 (isW_reverse HU.out) (by rw [List.length_reverse, HLU.out]; omega)).mono ?_
  rintro e x6 ⟨rfl, b6⟩
  rw [List.reverse_reverse]
  go_wp2_with fail
  refine (compare_w k U V _ h1 h8 HU.out HV.out).mono ?_
  rintro e x7 ⟨rfl, b7⟩
  have hzu : ¬ 9223372036854775807 < 1 + (str U).size := by rw [str_size, HLU.out]; omega
  have hzv : ¬ 9223372036854775807 < 1 + (str V).size := by rw [str_size, HLV.out]; omega
  go_wp2_with fail
  rw [a_str, a_str]
  refine (compare_w k (97 :: U) (97 :: V) _ h1 h8 (isW_a h1 HU.out) (isW_a h1 HV.out)).mono ?_
  rintro e x8 ⟨rfl, b8⟩
  rw [ordL_cons]
  clear hzu hzv
  go_wp2_with fail
  refine (compare_w k V U _ h1 h8 HV.out HU.out).mono ?_
  rintro e x9 ⟨rfl, b9⟩
  rw [ordL_swap V U]
  have hrg := ordL_range U V
  generalize ordL U V = o at *
  obtain ⟨hr1, hr2⟩ := hrg
  have hsa : str V.reverse ++ str U.reverse = str (V.reverse ++ U.reverse) := str_append _ _
  have hz3 : ¬ 9223372036854775807 < (str V.reverse).size + (str U.reverse).size := by rw [str_size, str_size, List.length_reverse, List.length_reverse, HLU.out, HLV.out]; omega
  go_wp2_with (go_at_call 9; refine (num_any _ _).mono ?_; rintro e x10 ⟨rfl, rfl⟩)
  refine (knows_any _).mono ?_
  rintro e x11 ⟨rfl, b11⟩
  go_wp2
  go_ret
  exact ⟨rfl, go_on (go_on (go_on (go_on (go_on (go_on (go_on (go_on (go_on b1 b2) b3) b4) b5) b6) b7) b8) b9) b11⟩

/-! ### The row's step -/
theorem own : ownKnob Try.prog.godebug = none := by kernel_rfl
set_option maxRecDepth 100000 in
theorem lifted (os : Os) (started : os.Started) (H : Type) (enc : TypeId × Value → H) :
    ReturnsInHanded {} Try.checked os 5 .any (Rows.wordTurnsSpec.pre6 enc Try.prog Try.f5 Rows.wordTurnsRow.domain false) (Rows.wordTurnsSpec.post enc Try.prog Try.f5 false true false false) := by
  refine returnsInHanded_of_change_sized (C := Try.checked) own started (by kernel_rfl) Try.func5
    (ChangeSpec.witness6 (enc := enc) (C := Try.checked) false ⟨#[], #[.int .i64 0, .string ByteArray.empty, .string ByteArray.empty], []⟩ 8 (by kernel_rfl) (by kernel_rfl) (by kernel_rfl) (by kernel_rfl)) ?_
  intro W base args ds gs before hval0 hW hcnd hsz0 _
  have hval : ∀ (j : Nat) t v, Try.f5.params[j]? = some t → args[j]? = some v → Value.okWide Try.prog W .any base t v := hval0
  clear hval0
  have hsz : (DataW.weightsEach Try.prog (Try.f5.params.toList ++ Rows.wordTurnsSpec.plain.varTypes Try.prog) (ds ++ gs)).all (· ≤ reachBytes) = true := hsz0
  clear hsz0
  have hW' := hW
  obtain ⟨p, q, hA0, hV, rfl, hfz, hnd⟩ := hW
  have hA : DataW.TrodAll enc Try.prog W 0 (fun _ => true) true Try.f5.params.toList args.toList ds p := hA0
  rw [Try.params5] at hA hval hsz
  obtain ⟨v0, vs0, d0, ds0, p0, q0, hargs, rfl, rfl, h0, r0⟩ := trodAll_cons hA
  obtain ⟨v1, vs1, d1, ds1, p1, q1, rfl, rfl, rfl, h1, r1⟩ := trodAll_cons r0
  obtain ⟨v2, vs2, d2, ds2, p2, q2, rfl, rfl, rfl, h2, r2⟩ := trodAll_cons r1
  obtain ⟨rfl, rfl, rfl⟩ := trodAll_nil r2
  obtain rfl : args = #[v0, v1, v2] := by cases args; simp_all
  obtain ⟨rfl, rfl⟩ := trodVars_none hV
  obtain ⟨a0, rfl, rfl, rfl, w0⟩ := open_int Try.underlying3 (hval 0 3 v0 rfl rfl) h0
  obtain ⟨a1, rfl, rfl, rfl, w1⟩ := open_string Try.underlying9 (hval 1 9 v1 rfl rfl) h1
  obtain ⟨a2, rfl, rfl, rfl, w2⟩ := open_string Try.underlying9 (hval 2 9 v2 rfl rfl) h2
  have z0 := w0
  have z1 : a1.size ≤ 140737488351232 := by
    have := sized_string hsz (j := 1) (t := 9) rfl rfl
    simpa [reachBytes] using this
  have z2 : a2.size ≤ 140737488351232 := by
    have := sized_string hsz (j := 2) (t := 9) rfl rfl
    simpa [reachBytes] using this
  clear hA0
  refine (walk a0 a1 a2 z0 z1 z2 W).mono fun e W' ⟨he, bel⟩ => ?_
  subst he
  exact ⟨_, rfl, _, _, _, [], _, [], hW', trodAll_mk1 (shut_bool Try.underlying4 _), (trodAll_cons_mk (shut_int Try.underlying3 w0) (trodAll_cons_mk (shut_string Try.underlying9 w1) (trodAll_cons_mk (shut_string Try.underlying9 w2) trodAll_mk0))), rfl, bel.frame _, fun h => by cases h⟩

theorem over : Rows.wordTurnsRow.holds Try.pinned (OpenSpec.ofChange Rows.wordTurnsSpec) :=
  OpenClaim.holds_of_wide 5 Try.f5 rfl rfl rfl rfl rfl rfl rfl ⟨rfl, rfl, rfl, rfl, rfl⟩ rfl rfl rfl rfl rfl (by kernel_rfl) Try.func5 (by kernel_rfl)
    (of_decide_eq_true (by kernel_rfl)) (by unfold Func.isWrapper; first | (rw [if_pos (by decide +kernel)]; kernel_rfl) | (rw [if_neg (by decide +kernel)]; exact ⟨rfl, rfl⟩))
    (fun os started H enc _ => lifted os started H enc)

end Go.Proofs.Ytocdifclkopbcab.wordTurns
namespace Go.Proofs.Ytocdifclkopbcab
/-- The given statement. -/
theorem wordTurns_holds : Rows.WordTurnsSaid := wordTurns.over
end Go.Proofs.Ytocdifclkopbcab
