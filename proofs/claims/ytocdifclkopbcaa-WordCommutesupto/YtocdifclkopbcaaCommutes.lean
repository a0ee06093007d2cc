/- Proved: eggboxlaw01.WordCommutes answers true at every k, x and y (P108), where they together hold at most 1048576 values and letters (the statement's second form): of two words over 1 to 8 letters, u v is v u just where one of them is empty or Root answers the same root of both (Lyndon and Schuetzenberger); its arguments read behind the call as before. -/
import Derived.Test.YtocdifclkopbcaaLyn
import Derived.ProofKit
import Derived.OpenShut
import Derived.ShutString
import Derived.ChangeOld
import Derived.JoinedCond
namespace Go.Proofs.Ytocdifclkopbcaa.wordCommutes
open Go.ChangeShapes Go.WideShapes Go.ChangeAt Go.RowKit
open Go.ChangeMaps (open_string shut_string)
set_option linter.unusedVariables false

theorem str_toList (l : List UInt8) : (str l).toList = l := by rw [ByteArray.toList_eq, str_list]
theorem root_w (k : Nat) (U : List UInt8) (w : World) (h1 : 1 ≤ k) (h8 : k ≤ 8) (hU : isW k U) (hs : U.length ≤ 1048576) :
    Calls Try.prog 26 #[.int .i64 k, .string (str U)] w fun e w' => ∃ (R : List UInt8) (t : Int), e = .returned (.tuple #[.string (str R), .int .i64 t, .int .i64 0]) ∧ (U ≠ [] → ∃ p, IsRoot (str U) p ∧ R = U.take p) ∧ Below w.heap.size w w' := by
  by_cases h : U = []
  · refine (root_none k (str U) w (by rw [str_size]; omega) (.inr (by rw [str_size, h]; rfl))).mono ?_
    rintro e w' ⟨rfl, b⟩
    rw [chk_isW k U h1 h8 hU]
    exact ⟨[], 0, rfl, fun g => absurd h g, b⟩
  · refine (root_any k (str U) w (by rw [str_size]; omega) (chk_isW k U h1 h8 hU) (by rw [str_size]; exact List.length_pos_iff.2 h)).mono ?_
    rintro e w' ⟨p, hp, rfl, b⟩
    refine ⟨U.take p, (((str U).size / p : Nat) : Int), ?_, fun _ => ⟨p, hp, rfl⟩, b⟩
    have : (str U).extract 0 p = str (U.take p) := by
      apply ByteArray.ext
      simp [str]
    rw [this]

set_option maxHeartbeats 4000000 in
set_option maxRecDepth 100000 in
theorem walk (a0 : Int) (a1 : ByteArray) (a2 : ByteArray) (w0 : (Lit.int .i64 a0).wf = true) (w1 : a1.size ≤ 1048576) (w2 : a2.size ≤ 1048576) (w : World) :
    Calls Try.prog 8 #[.int .i64 a0, .string a1, .string a2] w fun e w' => e = .returned (.bool true) ∧ Below w.heap.size w w' := by
  obtain ⟨h1, h8⟩ := lts_range a0
  go_enter Try.func8, Try.ntmps8
  go_wp2_with fail
  refine (lettersL_any a0 _).mono ?_
  rintro e x0 ⟨rfl, rfl⟩
  generalize lts a0 = k at *
  go_wp2_with fail
  refine (over_w k a1 _ h1 h8 (by omega)).mono ?_
  rintro e x1 ⟨U, hU, lU, rfl, b1⟩
  have HU : Hid (isW k U) := hU
  have HLU : Hid (U.length = a1.size) := lU
  clear hU lU
  go_wp2_with fail
  refine (over_w k a2 _ h1 h8 (by omega)).mono ?_
  rintro e x2 ⟨V, hV, lV, rfl, b2⟩
  have HV : Hid (isW k V) := hV
  have HLV : Hid (V.length = a2.size) := lV
  clear hV lV
  go_wp2_with fail
  refine (root_w k U _ h1 h8 HU.out (by rw [HLU.out]; exact w1)).mono ?_
  rintro e x3 ⟨R, t, rfl, hR, b3⟩
  have HR : Hid (U ≠ [] → ∃ p, IsRoot (str U) p ∧ R = U.take p) := hR
  clear hR
  go_wp2_with fail
  refine (root_w k V _ h1 h8 HV.out (by rw [HLV.out]; exact w2)).mono ?_
  rintro e x4 ⟨S, t2, rfl, hS, b4⟩
  have HS : Hid (V ≠ [] → ∃ p, IsRoot (str V) p ∧ S = V.take p) := hS
  clear hS
  have hz1 : ¬ 9223372036854775807 < (str U).size + (str V).size := by rw [str_size, str_size, HLU.out, HLV.out]; omega
  have hz2 : ¬ 9223372036854775807 < (str V).size + (str U).size := by rw [str_size, str_size, HLU.out, HLV.out]; omega
  have hsa : str U ++ str V = str (U ++ V) := str_append _ _
  have hsb : str V ++ str U = str (V ++ U) := str_append _ _
  have hcase : (U = []) ∨ (U ≠ [] ∧ V = []) ∨ (U ≠ [] ∧ V ≠ [] ∧ R = S ∧ U ++ V = V ++ U) ∨ (U ≠ [] ∧ V ≠ [] ∧ R ≠ S ∧ U ++ V ≠ V ++ U) := by
    by_cases hUe : U = []
    · exact .inl hUe
    by_cases hVe : V = []
    · exact .inr (.inl ⟨hUe, hVe⟩)
    obtain ⟨p, hp, rp⟩ := HR.out hUe
    obtain ⟨q, hq, rq⟩ := HS.out hVe
    by_cases hc : U ++ V = V ++ U
    · exact .inr (.inr (.inl ⟨hUe, hVe, by rw [rp, rq]; exact (comm_root U V p q hp hq hc).2, hc⟩))
    · exact .inr (.inr (.inr ⟨hUe, hVe, fun e => hc (root_comm U V p q hp hq (by rw [← rp, ← rq]; exact e)), hc⟩))
  rcases hcase with hUe | ⟨hUe, hVe⟩ | ⟨hUe, hVe, hRS, hc⟩ | ⟨hUe, hVe, hRS, hc⟩
  · have e1 : ((str (U ++ V)).toList == (str (V ++ U)).toList) = true := by rw [str_toList, str_toList, hUe]; simp
    have e2 : (str U).toList.isEmpty = true := by rw [str_toList, hUe]; rfl
    clear hUe
    go_wp2_with (go_at_call 11; refine (num_any _ _).mono ?_; rintro e x10 ⟨rfl, rfl⟩)
    refine (knows_any _).mono ?_
    rintro e x11 ⟨rfl, b11⟩
    go_wp2
    go_ret
    exact ⟨rfl, go_on (go_on (go_on (go_on b1 b2) b3) b4) b11⟩
  · have e1 : ((str (U ++ V)).toList == (str (V ++ U)).toList) = true := by rw [str_toList, str_toList, hVe]; simp
    have e2 : (str U).toList.isEmpty = false := by rw [str_toList]; simpa using hUe
    have e3 : (str V).toList.isEmpty = true := by rw [str_toList, hVe]; rfl
    clear hUe hVe
    go_wp2_with (go_at_call 11; refine (num_any _ _).mono ?_; rintro e x10 ⟨rfl, rfl⟩)
    refine (knows_any _).mono ?_
    rintro e x11 ⟨rfl, b11⟩
    go_wp2
    go_ret
    exact ⟨rfl, go_on (go_on (go_on (go_on b1 b2) b3) b4) b11⟩
  · have e1 : ((str (U ++ V)).toList == (str (V ++ U)).toList) = true := by rw [str_toList, str_toList, hc]; simp
    have e2 : (str U).toList.isEmpty = false := by rw [str_toList]; simpa using hUe
    have e3 : (str V).toList.isEmpty = false := by rw [str_toList]; simpa using hVe
    have e4 : ((str R).toList == (str S).toList) = true := by rw [str_toList, str_toList, hRS]; simp
    clear hUe hVe hRS hc
    go_wp2_with (go_at_call 11; refine (num_any _ _).mono ?_; rintro e x10 ⟨rfl, rfl⟩)
    refine (knows_any _).mono ?_
    rintro e x11 ⟨rfl, b11⟩
    go_wp2
    go_ret
    exact ⟨rfl, go_on (go_on (go_on (go_on b1 b2) b3) b4) b11⟩
  · have e1 : ((str (U ++ V)).toList == (str (V ++ U)).toList) = false := by rw [str_toList, str_toList]; simpa using hc
    have e2 : (str U).toList.isEmpty = false := by rw [str_toList]; simpa using hUe
    have e3 : (str V).toList.isEmpty = false := by rw [str_toList]; simpa using hVe
    have e4 : ((str R).toList == (str S).toList) = false := by rw [str_toList, str_toList]; simpa using hRS
    clear hUe hVe hRS hc
    go_wp2_with (go_at_call 11; refine (num_any _ _).mono ?_; rintro e x10 ⟨rfl, rfl⟩)
    refine (knows_any _).mono ?_
    rintro e x11 ⟨rfl, b11⟩
    go_wp2
    go_ret
    exact ⟨rfl, go_on (go_on (go_on (go_on b1 b2) b3) b4) b11⟩

/-! ### The row's step -/
theorem own : ownKnob Try.prog.godebug = none := by kernel_rfl
theorem contract (H : Type) (enc : TypeId × Value → H) (W : World) (base : Nat) (args : Array Value) (ds gs : List (DataW H)) (before : List MemPlace)
    (hval : ∀ (j : Nat) t v, Try.f8.params[j]? = some t → args[j]? = some v → Value.okWide Try.prog W .any base t v)
    (hW : DataW.Whole enc Try.prog Try.f8.params.toList Rows.wordCommutesSpec.vars false W args.toList ds gs before) (hk : Rows.uptoSmall H (ds ++ gs) = true) :
    Calls Try.prog 8 args W fun e W' => ∃ v, e = .returned v ∧ Rows.wordCommutesSpec.post enc Try.prog Try.f8 false true false false W args v W' := by
  have hW' := hW
  obtain ⟨p, q, hA0, hV, rfl, hfz, hnd⟩ := hW
  have hA : DataW.TrodAll enc Try.prog W 0 (fun _ => true) true Try.f8.params.toList args.toList ds p := hA0
  rw [Try.params8] at hA hval
  obtain ⟨v0, vs0, d0, ds0, p0, q0, hargs, rfl, rfl, h0, r0⟩ := trodAll_cons hA
  obtain ⟨v1, vs1, d1, ds1, p1, q1, rfl, rfl, rfl, h1, r1⟩ := trodAll_cons r0
  obtain ⟨v2, vs2, d2, ds2, p2, q2, rfl, rfl, rfl, h2, r2⟩ := trodAll_cons r1
  obtain ⟨rfl, rfl, rfl⟩ := trodAll_nil r2
  obtain rfl : args = #[v0, v1, v2] := by cases args; simp_all
  obtain ⟨rfl, rfl⟩ := trodVars_none hV
  obtain ⟨a0, rfl, rfl, rfl, w0⟩ := open_int Try.underlying3 (hval 0 3 v0 rfl rfl) h0
  obtain ⟨a1, rfl, rfl, rfl, w1⟩ := open_string Try.underlying9 (hval 1 9 v1 rfl rfl) h1
  obtain ⟨a2, rfl, rfl, rfl, w2⟩ := open_string Try.underlying9 (hval 2 9 v2 rfl rfl) h2
  have z0 := w0
  have z1 : a1.size ≤ 1048576 := by
    have h := of_decide_eq_true hk
    simp only [List.append_nil, Rows.uptoBulkAll, Rows.uptoBulk, Array.length_toList] at h
    have e : ∀ x : ByteArray, x.data.size = x.size := fun x => rfl
    simp only [e] at h
    omega
  have z2 : a2.size ≤ 1048576 := by
    have h := of_decide_eq_true hk
    simp only [List.append_nil, Rows.uptoBulkAll, Rows.uptoBulk, Array.length_toList] at h
    have e : ∀ x : ByteArray, x.data.size = x.size := fun x => rfl
    simp only [e] at h
    omega
  clear hA0
  refine (walk a0 a1 a2 z0 z1 z2 W).mono fun e W' ⟨he, bel⟩ => ?_
  subst he
  exact ⟨_, rfl, _, _, _, [], _, [], hW', trodAll_mk1 (shut_bool Try.underlying4 _), (trodAll_cons_mk (shut_int Try.underlying3 w0) (trodAll_cons_mk (shut_string Try.underlying9 w1) (trodAll_cons_mk (shut_string Try.underlying9 w2) trodAll_mk0))), rfl, bel.frame _, fun h => by cases h⟩

set_option maxRecDepth 100000 in
theorem lifted (os : Os) (started : os.Started) (H : Type) (enc : TypeId × Value → H) (F : Stop.Interp) :
    ReturnsInHanded {} Try.checked os 8 .any ((Rows.OpenSpec.upto Rows.wordCommutesSpec).pre6 enc Try.prog Try.f8 Rows.wordCommutesUptoRow.domain false) (((Rows.OpenSpec.upto Rows.wordCommutesSpec).at F).post enc Try.prog Try.f8 false true false false) := by
  refine returnsInHanded_of_cond (C := Try.checked) (s := Rows.OpenSpec.upto Rows.wordCommutesSpec) (k := Rows.uptoSmall) rfl own started (by kernel_rfl) Try.func8
    (OpenSpec.witness (enc := enc) (C := Try.checked) (s := Rows.OpenSpec.upto Rows.wordCommutesSpec) (k := Rows.uptoSmall) rfl false ⟨#[], #[.int .i64 0, .string ByteArray.empty, .string ByteArray.empty], []⟩ 8 (by kernel_rfl) (by kernel_rfl) (by kernel_rfl)
      (x := ([.lit (.int .i64 0), .lit (.string []), .lit (.string [])], [], [])) (by kernel_rfl) rfl (by kernel_rfl)) ?_
  intro W base args ds gs before hval hW _ hk _
  exact contract H enc W base args ds gs before hval hW hk

theorem over : Rows.wordCommutesUptoRow.holds Try.pinned (Rows.OpenSpec.upto Rows.wordCommutesSpec) :=
  OpenClaim.holds_of_cond 8 Try.f8 rfl rfl rfl rfl rfl rfl rfl ⟨rfl, rfl, rfl, rfl, rfl⟩ rfl rfl rfl rfl rfl (by kernel_rfl) Try.func8 (by kernel_rfl)
    (of_decide_eq_true (by kernel_rfl)) (by unfold Func.isWrapper; first | (rw [if_pos (by decide +kernel)]; kernel_rfl) | (rw [if_neg (by decide +kernel)]; exact ⟨rfl, rfl⟩))
    (fun os started H enc _ F => lifted os started H enc F)

end Go.Proofs.Ytocdifclkopbcaa.wordCommutes
namespace Go.Proofs.Ytocdifclkopbcaa
/-- The given statement. -/
theorem wordCommutes_holds : Rows.WordCommutesUptoSaid := wordCommutes.over
end Go.Proofs.Ytocdifclkopbcaa
