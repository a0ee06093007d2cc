/- Proved: eggboxlaw01.WordNumbers answers true at every k, w and n (P104): word.Next, word.Nth and word.Rank answer what the document's Next, Nth and Rank answer; its arguments read behind the call as before. No condition but the form's own. -/
import Derived.Test.YtocdifclkopbcaaRnt
import Derived.ProofKit
import Derived.OpenShut
import Derived.ShutString
import Derived.ChangeOld
import Derived.SizedLaws
namespace Go.Proofs.Ytocdifclkopbcaa.wordNumbers
open Go.ChangeShapes Go.WideShapes Go.ChangeAt Go.RowKit
open Go.ChangeMaps (open_string shut_string)
set_option linter.unusedVariables false

theorem of_chk (k : Int) (U : List UInt8) (h : chk k (str U) = 0) : ∃ m : Nat, k = m ∧ 1 ≤ m ∧ m ≤ 8 ∧ isW m U := by
  unfold chk at h
  by_cases hk : k < 1 ∨ 8 < k
  · rw [if_pos hk] at h; omega
  · rw [if_neg hk] at h
    obtain ⟨m, rfl⟩ := Int.eq_ofNat_of_zero_le (show 0 ≤ k by omega)
    refine ⟨m, rfl, by omega, by omega, ?_⟩
    by_cases ha : (str U).data.toList.all (letterAt (m : Int)) = true
    · rw [str_list, List.all_eq_true] at ha
      intro c hc
      have := ha c hc
      simp only [letterAt, decide_eq_true_eq] at this
      omega
    · rw [if_neg ha] at h; omega
theorem next_both (k : Int) (U : List UInt8) (hs : U.length ≤ 140737488351232) : ∃ (A : ByteArray) (E : Int),
    (∀ w, Calls Try.prog 15 #[.int .i64 k, .string (str U)] w fun e w' => e = .returned (.tuple #[.string A, .int .i64 E]) ∧ Below w.heap.size w w') ∧
    (∀ w, Calls Try.prog 18 #[.int .i64 k, .string (str U)] w fun e w' => e = .returned (.tuple #[.string A, .int .i64 E]) ∧ Below w.heap.size w w') := by
  by_cases hc : chk k (str U) = 0
  · obtain ⟨m, rfl, h1, h8, hU⟩ := of_chk k U hc
    by_cases hl : (nextL m U).length ≤ 4096
    · refine ⟨str (nextL m U), 0, fun w => ?_, fun w => ?_⟩
      · refine (next_w m U w h1 h8 hU (by omega)).mono ?_
        rintro e w' ⟨⟨_, rfl⟩ | ⟨h, _⟩, b⟩
        · exact ⟨rfl, b⟩
        · omega
      · refine (rnext_w m U w h1 h8 hU (by omega)).mono ?_
        rintro e w' ⟨⟨_, rfl⟩ | ⟨h, _⟩, b⟩
        · exact ⟨rfl, b⟩
        · omega
    · refine ⟨⟨#[]⟩, 6, fun w => ?_, fun w => ?_⟩
      · refine (next_w m U w h1 h8 hU (by omega)).mono ?_
        rintro e w' ⟨⟨h, _⟩ | ⟨_, _, rfl⟩, b⟩
        · omega
        · exact ⟨rfl, b⟩
      · refine (rnext_w m U w h1 h8 hU (by omega)).mono ?_
        rintro e w' ⟨⟨h, _⟩ | ⟨_, rfl⟩, b⟩
        · omega
        · exact ⟨rfl, b⟩
  · exact ⟨_, _, fun w => next_err k (str U) w hc, fun w => rnext_err k (str U) w (by rw [str_size]; unfold maxLen; omega) hc⟩
theorem rank_both (k : Int) (U : List UInt8) (hs : U.length ≤ 140737488351232) : ∃ (A E : Int),
    (∀ w, Calls Try.prog 17 #[.int .i64 k, .string (str U)] w fun e w' => e = .returned (.tuple #[.int .u64 A, .int .i64 E]) ∧ Below w.heap.size w w') ∧
    (∀ w, Calls Try.prog 20 #[.int .i64 k, .string (str U)] w fun e w' => e = .returned (.tuple #[.int .u64 A, .int .i64 E]) ∧ Below w.heap.size w w') := by
  by_cases hc : chk k (str U) = 0
  · obtain ⟨m, rfl, h1, h8, hU⟩ := of_chk k U hc
    by_cases hl : rankL m U ≤ 18446744073709551615
    · refine ⟨(rankL m U : Nat), 0, fun w => ?_, fun w => ?_⟩
      · refine (rank_w m U w h1 h8 hU).mono ?_
        rintro e w' ⟨⟨_, rfl⟩ | ⟨h, _⟩, b⟩
        · exact ⟨rfl, b⟩
        · omega
      · refine (rrank_w m U w h1 h8 hU (by omega)).mono ?_
        rintro e w' ⟨⟨_, rfl⟩ | ⟨h, _⟩, b⟩
        · exact ⟨rfl, b⟩
        · omega
    · refine ⟨0, 11, fun w => ?_, fun w => ?_⟩
      · refine (rank_w m U w h1 h8 hU).mono ?_
        rintro e w' ⟨⟨h, _⟩ | ⟨_, rfl⟩, b⟩
        · omega
        · exact ⟨rfl, b⟩
      · refine (rrank_w m U w h1 h8 hU (by omega)).mono ?_
        rintro e w' ⟨⟨h, _⟩ | ⟨_, rfl⟩, b⟩
        · omega
        · exact ⟨rfl, b⟩
  · exact ⟨_, _, fun w => rank_err k (str U) w hc, fun w => rrank_err k (str U) w (by rw [str_size]; unfold maxLen; omega) hc⟩
theorem nth_both (k : Int) (n : Nat) (hn : n ≤ 18446744073709551615) : ∃ (A : ByteArray) (E : Int),
    (∀ w, Calls Try.prog 16 #[.int .i64 k, .int .u64 n] w fun e w' => e = .returned (.tuple #[.string A, .int .i64 E]) ∧ Below w.heap.size w w') ∧
    (∀ w, Calls Try.prog 19 #[.int .i64 k, .int .u64 n] w fun e w' => e = .returned (.tuple #[.string A, .int .i64 E]) ∧ Below w.heap.size w w') := by
  by_cases hk : k < 1 ∨ 8 < k
  · exact ⟨_, _, fun w => nth_err k n w hk, fun w => rnth_err k n w hk⟩
  · obtain ⟨m, rfl⟩ := Int.eq_ofNat_of_zero_le (show 0 ≤ k by omega)
    by_cases hl : (nthB m n).length ≤ 4096
    · refine ⟨⟨(nthW m n).toArray⟩, 0, fun w => ?_, fun w => ?_⟩
      · refine (nth_any m n w (by omega) (by omega) (by omega)).mono ?_
        rintro e w' ⟨⟨_, rfl⟩ | ⟨h, _⟩, b⟩
        · exact ⟨rfl, b⟩
        · omega
      · refine (rnth_any m n w (by omega) (by omega) (by omega)).mono ?_
        rintro e w' ⟨⟨_, rfl⟩ | ⟨h, _⟩, b⟩
        · exact ⟨rfl, b⟩
        · omega
    · refine ⟨⟨#[]⟩, 6, fun w => ?_, fun w => ?_⟩
      · refine (nth_any m n w (by omega) (by omega) (by omega)).mono ?_
        rintro e w' ⟨⟨h, _⟩ | ⟨_, rfl⟩, b⟩
        · omega
        · exact ⟨rfl, b⟩
      · refine (rnth_any m n w (by omega) (by omega) (by omega)).mono ?_
        rintro e w' ⟨⟨h, _⟩ | ⟨_, rfl⟩, b⟩
        · omega
        · exact ⟨rfl, b⟩

set_option maxHeartbeats 1000000 in
set_option maxRecDepth 100000 in
theorem walk (a0 : Int) (a1 : ByteArray) (a2 : Int) (w0 : (Lit.int .i64 a0).wf = true) (w1 : a1.size ≤ 140737488351232) (w2 : (Lit.int .u64 a2).wf = true) (w : World) :
    Calls Try.prog 4 #[.int .i64 a0, .string a1, .int .u64 a2] w fun e w' => e = .returned (.bool true) ∧ Below w.heap.size w w' := by
  obtain ⟨U, hU⟩ : ∃ U, a1 = str U := ⟨a1.data.toList, by apply ByteArray.ext; simp [str]⟩
  subst hU
  have hl : U.length ≤ 140737488351232 := by rw [← str_size]; exact w1
  have hn : 0 ≤ a2 ∧ a2 ≤ 18446744073709551615 := by simpa [Lit.wf, IntKind.min, IntKind.max, IntKind.signed, IntKind.bits] using w2
  obtain ⟨n, rfl⟩ := Int.eq_ofNat_of_zero_le hn.1
  obtain ⟨A, E, hA, hA'⟩ := next_both a0 U hl
  obtain ⟨B, F, hB, hB'⟩ := nth_both a0 n (by omega)
  obtain ⟨C, G, hC, hC'⟩ := rank_both a0 U hl
  have HA : Hid _ := hA
  have HA' : Hid _ := hA'
  have HB : Hid _ := hB
  have HB' : Hid _ := hB'
  have HC : Hid _ := hC
  have HC' : Hid _ := hC'
  clear hA hA' hB hB' hC hC' w0 w2 hn
  go_enter Try.func4, Try.ntmps4
  go_wp2_with fail
  refine (HA.out _).mono ?_
  rintro e x1 ⟨rfl, b1⟩
  go_wp2_with fail
  refine (HB.out _).mono ?_
  rintro e x2 ⟨rfl, b2⟩
  go_wp2_with fail
  refine (HC.out _).mono ?_
  rintro e x3 ⟨rfl, b3⟩
  go_wp2_with fail
  refine (HA'.out _).mono ?_
  rintro e x4 ⟨rfl, b4⟩
  go_wp2_with fail
  refine (HB'.out _).mono ?_
  rintro e x5 ⟨rfl, b5⟩
  go_wp2_with fail
  refine (HC'.out _).mono ?_
  rintro e x6 ⟨rfl, b6⟩
  go_wp2_with (go_at_call 11; refine (num_any _ _).mono ?_; rintro e y1 ⟨rfl, hy1⟩; subst y1)
  refine (knows_any _).mono ?_
  rintro e x7 ⟨rfl, b7⟩
  go_wp2
  go_ret
  exact ⟨rfl, go_on (go_on (go_on (go_on (go_on (go_on b1 b2) b3) b4) b5) b6) b7⟩

/-! ### The row's step -/
theorem own : ownKnob Try.prog.godebug = none := by kernel_rfl
set_option maxRecDepth 100000 in
theorem lifted (os : Os) (started : os.Started) (H : Type) (enc : TypeId × Value → H) :
    ReturnsInHanded {} Try.checked os 4 .any (Rows.wordNumbersSpec.pre6 enc Try.prog Try.f4 Rows.wordNumbersRow.domain false) (Rows.wordNumbersSpec.post enc Try.prog Try.f4 false true false false) := by
  refine returnsInHanded_of_change_sized (C := Try.checked) own started (by kernel_rfl) Try.func4
    (ChangeSpec.witness6 (enc := enc) (C := Try.checked) false ⟨#[], #[.int .i64 0, .string ByteArray.empty, .int .u64 0], []⟩ 8 (by kernel_rfl) (by kernel_rfl) (by kernel_rfl) (by kernel_rfl)) ?_
  intro W base args ds gs before hval0 hW hcnd hsz0 _
  have hval : ∀ (j : Nat) t v, Try.f4.params[j]? = some t → args[j]? = some v → Value.okWide Try.prog W .any base t v := hval0
  clear hval0
  have hsz : (DataW.weightsEach Try.prog (Try.f4.params.toList ++ Rows.wordNumbersSpec.plain.varTypes Try.prog) (ds ++ gs)).all (· ≤ reachBytes) = true := hsz0
  clear hsz0
  have hW' := hW
  obtain ⟨p, q, hA0, hV, rfl, hfz, hnd⟩ := hW
  have hA : DataW.TrodAll enc Try.prog W 0 (fun _ => true) true Try.f4.params.toList args.toList ds p := hA0
  rw [Try.params4] at hA hval hsz
  obtain ⟨v0, vs0, d0, ds0, p0, q0, hargs, rfl, rfl, h0, r0⟩ := trodAll_cons hA
  obtain ⟨v1, vs1, d1, ds1, p1, q1, rfl, rfl, rfl, h1, r1⟩ := trodAll_cons r0
  obtain ⟨v2, vs2, d2, ds2, p2, q2, rfl, rfl, rfl, h2, r2⟩ := trodAll_cons r1
  obtain ⟨rfl, rfl, rfl⟩ := trodAll_nil r2
  obtain rfl : args = #[v0, v1, v2] := by cases args; simp_all
  obtain ⟨rfl, rfl⟩ := trodVars_none hV
  obtain ⟨a0, rfl, rfl, rfl, w0⟩ := open_int Try.underlying3 (hval 0 3 v0 rfl rfl) h0
  obtain ⟨a1, rfl, rfl, rfl, w1⟩ := open_string Try.underlying9 (hval 1 9 v1 rfl rfl) h1
  obtain ⟨a2, rfl, rfl, rfl, w2⟩ := open_int Try.underlying32 (hval 2 32 v2 rfl rfl) h2
  have z0 := w0
  have z1 : a1.size ≤ 140737488351232 := by
    have := sized_string hsz (j := 1) (t := 9) rfl rfl
    simpa [reachBytes] using this
  have z2 := w2
  clear hA0
  refine (walk a0 a1 a2 z0 z1 z2 W).mono fun e W' ⟨he, bel⟩ => ?_
  subst he
  exact ⟨_, rfl, _, _, _, [], _, [], hW', trodAll_mk1 (shut_bool Try.underlying4 _), (trodAll_cons_mk (shut_int Try.underlying3 w0) (trodAll_cons_mk (shut_string Try.underlying9 w1) (trodAll_cons_mk (shut_int Try.underlying32 w2) trodAll_mk0))), rfl, bel.frame _, fun h => by cases h⟩

theorem over : Rows.wordNumbersRow.holds Try.pinned (OpenSpec.ofChange Rows.wordNumbersSpec) :=
  OpenClaim.holds_of_wide 4 Try.f4 rfl rfl rfl rfl rfl rfl rfl ⟨rfl, rfl, rfl, rfl, rfl⟩ rfl rfl rfl rfl rfl (by kernel_rfl) Try.func4 (by kernel_rfl)
    (of_decide_eq_true (by kernel_rfl)) (by unfold Func.isWrapper; first | (rw [if_pos (by decide +kernel)]; kernel_rfl) | (rw [if_neg (by decide +kernel)]; exact ⟨rfl, rfl⟩))
    (fun os started H enc _ => lifted os started H enc)

end Go.Proofs.Ytocdifclkopbcaa.wordNumbers
namespace Go.Proofs.Ytocdifclkopbcaa
/-- The given statement. -/
theorem wordNumbers_holds : Rows.WordNumbersSaid := wordNumbers.over
end Go.Proofs.Ytocdifclkopbcaa
