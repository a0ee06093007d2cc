/- Proved: eggboxlaw13.TransNil answers true at every list of calls' data (P1301): of no table, and of one that nobody made, Put answers ErrArg and zero answers, Find, At and Len answer zero answers, as the document's of none. No condition. -/
import Derived.Test.YthglficjhgpegaaCl
namespace Go.Proofs.Ythglficjhgpegaa.transNil
open Go Go.ChangeShapes Go.WideShapes Go.ChangeAt Go.RowKit Go.Lib
open Go.ChangeMaps (open_string shut_string)
set_option linter.unusedVariables false

set_option maxHeartbeats 8000000 in
set_option maxRecDepth 100000 in
theorem walk (v0 : Value) (n : Nat) (W : World) (r0 : OReads W v0 n) (hn : n ≤ maxLen) :
    Calls Try.prog 8 #[v0] W fun e w' => e = .returned (.bool true) ∧ Below W.heap.size W w' := by
  have hm : n ≤ 9223372036854775807 := Nat.le_trans hn (by decide)
  obtain ⟨a, cap, rfl, hr⟩ := r0
  have HR : Hid (∀ i, i < n → ∃ g o k, ∃ c : Nat → Value, a = some ⟨g, o, none⟩ ∧ g < W.heap.size ∧ W.cell? ⟨g, o + i * 10, none⟩ = some (.int .i64 k) ∧ ∀ j, 1 ≤ j → j < 10 → W.cell? ⟨g, o + i * 10 + j, none⟩ = some (c j)) := hr
  clear hr hn
  obtain ⟨w0, hw0⟩ : ∃ w0, w0 = W.alloc (.cells #[.pointer none, .int .i64 0, .map none, .slice none 0 0] 86) := ⟨_, rfl⟩
  have HW0 : Hid (w0 = W.alloc (.cells #[.pointer none, .int .i64 0, .map none, .slice none 0 0] 86)) := hw0
  have HB0 : Hid (Below W.heap.size W w0) := by show Below _ _ _; rw [hw0]; exact (Below.refl _ _).alloc (Nat.le_refl _) _
  have HZ0 : Hid (NoT w0 (.pointer (some ⟨W.heap.size, 0, none⟩))) := .inr ⟨W.heap.size, rfl, by rw [hw0]; simp, by
    rw [hw0]
    exact (cell_of_row _ _ _ _ _ _ (heap_last W _)).trans rfl⟩
  clear hw0
  go_enter Try.func8, Try.ntmps8
  go_wp2_with fail
  rw [← HW0.out]
  go_loopw [5] (fun vi wr => ∃ i : Nat, vi = .int .i64 i ∧ i ≤ n ∧ NoT wr (.pointer (some ⟨W.heap.size, 0, none⟩)) ∧ Below W.heap.size W wr) (fun vi _ => n - (intOf vi).toNat)
  case atStart => exact ⟨0, rfl, Nat.zero_le _, HZ0.out, HB0.out⟩
  case round =>
    clear HZ0 HB0
    obtain ⟨i, rfl, hin, hz, hb⟩ := hrel
    have HZ : Hid (NoT wr (.pointer (some ⟨W.heap.size, 0, none⟩))) := hz
    have HB : Hid (Below W.heap.size W wr) := hb
    clear hz
    by_cases hlt : i < n
    · have hiI : (i : Int) < n := by omega
      obtain ⟨g, o, k, c, rfl, hg, h0, hc⟩ := HR.out i hlt
      have HCL : Hid (∀ y, Below W.heap.size W y → y.cell? ⟨g, o + i * 10, none⟩ = some (.int .i64 k) ∧ y.cell? ⟨g, o + i * 10 + 1, none⟩ = some (c 1) ∧ y.cell? ⟨g, o + i * 10 + 2, none⟩ = some (c 2) ∧ y.cell? ⟨g, o + i * 10 + 3, none⟩ = some (c 3) ∧ y.cell? ⟨g, o + i * 10 + 4, none⟩ = some (c 4) ∧ y.cell? ⟨g, o + i * 10 + 5, none⟩ = some (c 5) ∧ y.cell? ⟨g, o + i * 10 + 6, none⟩ = some (c 6) ∧ y.cell? ⟨g, o + i * 10 + 7, none⟩ = some (c 7) ∧ y.cell? ⟨g, o + i * 10 + 8, none⟩ = some (c 8) ∧ y.cell? ⟨g, o + i * 10 + 9, none⟩ = some (c 9)) := fun y hy => by
        refine ⟨?_, ?_, ?_, ?_, ?_, ?_, ?_, ?_, ?_, ?_⟩
        · rw [below_cell hy hg]; exact h0
        all_goals (rw [below_cell hy hg]; exact hc _ (by decide) (by decide))
      obtain ⟨d0, d1, d2, d3, d4, d5, d6, d7, d8, d9⟩ := HCL.out wr hb
      clear hb h0 hc
      go_wp2_with fail
      refine (asks_no _ k (c 1) (c 2) (c 3) (c 4) (c 5) (c 6) (c 7) (c 8) (c 9) wr (.inl rfl)).mono ?_
      rintro e y1 ⟨rfl, hy1⟩
      have HZ1 : Hid (NoT y1 (.pointer (some ⟨W.heap.size, 0, none⟩))) := HZ.out.below hy1
      have HB1 : Hid (Below W.heap.size W y1) := go_on' HB.out hy1
      clear hy1 d0 d1 d2 d3 d4 d5 d6 d7 d8 d9
      obtain ⟨d0, d1, d2, d3, d4, d5, d6, d7, d8, d9⟩ := HCL.out y1 HB1.out
      go_wp2_with fail
      refine (asks_no _ k (c 1) (c 2) (c 3) (c 4) (c 5) (c 6) (c 7) (c 8) (c 9) y1 HZ1.out).mono ?_
      rintro e y2 ⟨rfl, hy2⟩
      have HZ2 : Hid (NoT y2 (.pointer (some ⟨W.heap.size, 0, none⟩))) := HZ1.out.below hy2
      have HB2 : Hid (Below W.heap.size W y2) := go_on' HB1.out hy2
      clear hy2 d0 d1 d2 d3 d4 d5 d6 d7 d8 d9
      go_wp2_with fail
      go_roundw
      case rel => exact ⟨i + 1, by go_num, by omega, HZ2.out, HB2.out⟩
      case measure => simp [intOf]; omega
    · have hiI : ¬ (i : Int) < n := by omega
      clear hb
      go_wp2_with fail
      refine (len_no _ wr (.inl rfl)).mono ?_
      rintro e w1 ⟨rfl, rfl⟩
      go_wp2_with fail
      refine (len_no _ wr HZ.out).mono ?_
      rintro e w1 ⟨rfl, rfl⟩
      go_wp2_with fail
      refine (knows13_any _).mono ?_
      rintro e w2 ⟨rfl, hB2⟩
      have HB2 : Hid (Below W.heap.size W w2) := go_on' HB.out hB2
      clear hB2
      go_wp2_with fail
      go_ret
      exact ⟨rfl, HB2.out⟩

/-! ### The row's step -/
theorem own : ownKnob Try.prog.godebug = none := by kernel_rfl
set_option maxRecDepth 100000 in
theorem lifted (os : Os) (started : os.Started) (H : Type) (enc : TypeId × Value → H) :
    ReturnsInHanded {} Try.checked os 8 .any (Rows.transNilSpec.pre6 enc Try.prog Try.f8 Rows.transNilRow.domain false) (Rows.transNilSpec.post enc Try.prog Try.f8 false true false false) := by
  refine returnsInHanded_of_change_sized (C := Try.checked) own started (by kernel_rfl) Try.func8
    (ChangeSpec.witness6 (enc := enc) (C := Try.checked) false ⟨#[], #[.slice none 0 0], []⟩ 8 (by kernel_rfl) (by kernel_rfl) (by kernel_rfl) (by kernel_rfl)) ?_
  intro W base args ds gs before hval0 hW hcnd hsz0 _
  have hval : ∀ (j : Nat) t v, Try.f8.params[j]? = some t → args[j]? = some v → Value.okWide Try.prog W .any base t v := hval0
  clear hval0
  have hsz : (DataW.weightsEach Try.prog (Try.f8.params.toList ++ Rows.transNilSpec.plain.varTypes Try.prog) (ds ++ gs)).all (· ≤ reachBytes) = true := hsz0
  clear hsz0
  have hW' := hW
  obtain ⟨p, q, hA0, hV, rfl, hfz, hnd⟩ := hW
  have hA : DataW.TrodAll enc Try.prog W 0 (fun _ => true) true Try.f8.params.toList args.toList ds p := hA0
  rw [Try.params8] at hA hval hsz
  obtain ⟨v0, vs0, d0, ds0, p0, q0, hargs, rfl, rfl, h0, r0⟩ := trodAll_cons hA
  obtain ⟨rfl, rfl, rfl⟩ := trodAll_nil r0
  obtain rfl : args = #[v0] := by cases args; simp_all
  obtain ⟨rfl, rfl⟩ := trodVars_none hV
  obtain ⟨a0, w0, x0⟩ := open_ops (hval 0 71 v0 rfl rfl) h0
  have g0 : ∀ x ∈ p0, x.block < W.heap.size := fun x hx => hW'.lt x (by simp [hx])
  clear hA0
  refine (walk v0 a0 W w0 x0).mono fun e W' ⟨he, bel⟩ => ?_
  subst he
  exact ⟨_, rfl, _, _, _, [], _, [], hW', trodAll_mk1 (shut_bool Try.underlying4 _), (trodAll_cons_mk (Below.trod Try.laidOut (by kernel_rfl) (of_decide_eq_true (by kernel_rfl)) h0 bel g0) trodAll_mk0), rfl, bel.frame _, fun h => by cases h⟩

theorem over : Rows.transNilRow.holds Try.pinned (OpenSpec.ofChange Rows.transNilSpec) :=
  OpenClaim.holds_of_wide 8 Try.f8 rfl rfl rfl rfl rfl rfl rfl ⟨rfl, rfl, rfl, rfl, rfl⟩ rfl rfl rfl rfl rfl (by kernel_rfl) Try.func8 (by kernel_rfl)
    (of_decide_eq_true (by kernel_rfl)) (by unfold Func.isWrapper; first | (rw [if_pos (by decide +kernel)]; kernel_rfl) | (rw [if_neg (by decide +kernel)]; exact ⟨rfl, rfl⟩))
    (fun os started H enc _ => lifted os started H enc)

end Go.Proofs.Ythglficjhgpegaa.transNil
namespace Go.Proofs.Ythglficjhgpegaa
/-- The given statement. -/
theorem transNil_holds : Rows.TransNilSaid := transNil.over
end Go.Proofs.Ythglficjhgpegaa
