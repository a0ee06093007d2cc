/- Proved: eggboxlaw13.TransWords answers true at every automaton's data a and every word w (P1305): OfWord answers what the document's answers, with the same error, and leaves the automaton as it was. No condition. -/
import Derived.Test.YtihjhkbbpphocaaW2
import Derived.Test.YtihjhkbbpphocaaAn
import Derived.Test.YtihjhkbbpphocaaW3
import Derived.SizedLaws
namespace Go.Proofs.Ytihjhkbbpphocaa.transWords
open Go Go.ChangeShapes Go.WideShapes Go.ChangeAt Go.RowKit Go.Lib
open Go.ChangeMaps (open_string shut_string)
set_option linter.unusedVariables false

theorem owV_two (A : Aut) (b : ByteArray) : ∃ M f, owV A b = .tuple #[.agg (trC M f), .int .i64 (owE A b)] := by
  unfold owV
  split
  · rename_i h; exact ⟨_, _, by rw [h]; rfl⟩
  · exact ⟨_, _, rfl⟩

set_option maxHeartbeats 16000000 in
set_option maxRecDepth 100000 in
theorem walk (v : Value) (A : Aut) (b : ByteArray) (w : World) (h : AR w v A) (hn : NilOk v) (hm : (A.nx.length + 2) * 8 ≤ 140737488355328) (hm2 : A.ac.length ≤ 140737488355328) (hb : b.size ≤ 140737488355327) :
    Calls Try.prog 5 #[v, .string b] w fun e w' => e = .returned (.bool true) ∧ Below w.heap.size w w' := by
  obtain ⟨an, cn, aa, ca, e, h1, h2⟩ := h.is
  have HLE : Hid (∀ w', Below w.heap.size w w' → Calls Try.prog 26 #[v] w' (LQ A w')) := fun w' hb => lentAuto_any v A w' (h.stay hb) hn hm hm2
  have HAR : Hid (∀ y, Below w.heap.size w y → AR y v A) := fun y hy => h.stay hy
  have HM : Hid (A.nx.length ≤ 9223372036854775806 ∧ A.ac.length ≤ 9223372036854775806 ∧ b.size ≤ 9223372036854775807) := by show _ ∧ _; omega
  clear h h1 h2 hn
  subst e
  go_enter Try.func5, Try.ntmps5
  go_wp2_with fail
  refine (HLE.out _ (below_new _ _)).mono ?_
  rintro e w1 ⟨g, gc, ba, bc, rfl, hi1, hb1, hl1⟩
  have HI1 : Hid (AR w1 (.agg #[.int .i64 A.k, .slice (some ⟨g, 0, none⟩) A.nx.length gc, .slice ba A.ac.length bc]) A) := ⟨_, _, _, _, rfl, lent_sr hi1, own_sr hb1⟩
  have HB1 : Hid (Below w.heap.size w w1) := go_on (below_new _ _) hl1
  have HRA : Hid (RowAt w1 w.heap.size #[.int .i64 A.k, .slice an A.nx.length cn, .slice aa A.ac.length ca]) := (RowAt.last _ _ _).stay hl1
  clear hi1 hb1 hl1 HLE
  obtain ⟨W, hW⟩ : ∃ W, W = w1.alloc (.cells #[.int .i64 A.k, .slice (some ⟨g, 0, none⟩) A.nx.length gc, .slice ba A.ac.length bc] 58) := ⟨_, rfl⟩
  have HWE : Hid (W = w1.alloc (.cells #[.int .i64 A.k, .slice (some ⟨g, 0, none⟩) A.nx.length gc, .slice ba A.ac.length bc] 58)) := hW
  have hWb : Below w1.heap.size w1 W := by rw [hW]; exact below_new _ _
  obtain ⟨bx, hbx⟩ : ∃ bx, w1.heap.size = bx := ⟨_, rfl⟩
  have HRX : Hid (∀ y, Below W.heap.size W y → RowAt y bx #[.int .i64 A.k, .slice (some ⟨g, 0, none⟩) A.nx.length gc, .slice ba A.ac.length bc]) := fun y hy => by
    have h0 : RowAt W bx #[.int .i64 A.k, .slice (some ⟨g, 0, none⟩) A.nx.length gc, .slice ba A.ac.length bc] := by rw [hW, ← hbx]; exact RowAt.last _ _ _
    exact h0.stay hy
  have HRW : Hid (∀ y, Below W.heap.size W y → RowAt y w.heap.size #[.int .i64 A.k, .slice an A.nx.length cn, .slice aa A.ac.length ca]) := fun y hy => (HRA.out.stay hWb).stay hy
  have HBW : Hid (Below w.heap.size w W) := go_on HB1.out hWb
  have HX : Hid (∀ y, Below W.heap.size W y → AR y (.agg #[.int .i64 A.k, .slice (some ⟨g, 0, none⟩) A.nx.length gc, .slice ba A.ac.length bc]) A) := fun y hy => (HI1.out.stay hWb).stay hy
  have HA : Hid (∀ y, Below W.heap.size W y → AR y (.agg #[.int .i64 A.k, .slice an A.nx.length cn, .slice aa A.ac.length ca]) A) := fun y hy => HAR.out y (go_on HBW.out hy)
  obtain ⟨N, f, hov⟩ := owV_two A b
  have HOV : Hid (owV A b = .tuple #[.agg (trC N f), .int .i64 (owE A b)]) := hov
  have HP : Hid (∀ y, Below W.heap.size W y → Calls Try.prog 27 #[.agg #[.int .i64 A.k, .slice (some ⟨g, 0, none⟩) A.nx.length gc, .slice ba A.ac.length bc], .string b] y fun e w' => e = .returned (owV A b) ∧ Below y.heap.size y w') := fun y hy => ofWord_any _ A y (HX.out y hy) HM.out.1 HM.out.2.1 b HM.out.2.2
  have HD : Hid (∀ y, Below W.heap.size W y → Calls Try.prog 28 #[.agg #[.int .i64 A.k, .slice an A.nx.length cn, .slice aa A.ac.length ca], .string b] y fun e w' => e = .returned (owV A b) ∧ Below y.heap.size y w') := fun y hy => rofWord_any _ A y (HA.out y hy) HM.out.1 HM.out.2.1 b HM.out.2.2
  have HSA : Hid (∀ y, Below W.heap.size W y → Calls Try.prog 29 #[.agg #[.int .i64 A.k, .slice (some ⟨g, 0, none⟩) A.nx.length gc, .slice ba A.ac.length bc], .agg #[.int .i64 A.k, .slice an A.nx.length cn, .slice aa A.ac.length ca]] y fun e w' => e = .returned (.bool true) ∧ Below y.heap.size y w') := fun y hy => sameAuto_any _ _ A y (HX.out y hy) (HA.out y hy) HM.out.1 HM.out.2.1
  obtain ⟨E, hE⟩ : ∃ E, owE A b = E := ⟨_, rfl⟩
  rw [hov, hE] at HP HD
  clear hov hE hWb HRA HI1 HAR HOV
  go_wp2_with fail
  rw [← HWE.out]
  clear hW hbx HWE
  refine (HP.out _ (Below.refl _ _)).mono ?_
  rintro e w2 ⟨rfl, hb⟩
  have HB2 : Hid (Below W.heap.size W w2) := hb
  have hst := st_trNewG w2 N f
  have hsz := trC_size N f
  obtain ⟨w3, hw3⟩ : ∃ w3, w3 = w2.alloc (.cells (trC N f) 26) := ⟨_, rfl⟩
  have HW3 : Hid (w3 = w2.alloc (.cells (trC N f) 26)) := hw3
  have HB3 : Hid (Below W.heap.size W w3) := by show Below _ _ _; rw [hw3]; exact go_on HB2.out (below_new _ _)
  obtain ⟨bt, hbt⟩ : ∃ bt, w2.heap.size = bt := ⟨_, rfl⟩
  have HT3 : Hid (TrAt w3 bt N f) := by show TrAt _ _ _ _; rw [hw3, ← hbt]; exact heap_last _ _
  have HBT : Hid (w2.heap.size = bt) := hbt
  have a0 := (HRW.out _ (go_on HB2.out (below_new w2 (.cells (trC N f) 26)))).cell
  rw [hbt] at hst
  clear hb hw3
  go_wp2_with fail
  rw [← HW3.out]
  clear hst HW3 HBT hbt a0
  refine (HD.out _ HB3.out).mono ?_
  rintro e w4 ⟨rfl, hb⟩
  have HB4 : Hid (Below W.heap.size W w4) := go_on HB3.out hb
  have HT4 : Hid (TrAt w4 bt N f) := HT3.out.of (hb.block _ HT3.out.lt)
  have hst := st_trNewG w4 N f
  obtain ⟨w5, hw5⟩ : ∃ w5, w5 = w4.alloc (.cells (trC N f) 26) := ⟨_, rfl⟩
  have HW5 : Hid (w5 = w4.alloc (.cells (trC N f) 26)) := hw5
  have HB5 : Hid (Below W.heap.size W w5) := by show Below _ _ _; rw [hw5]; exact go_on HB4.out (below_new _ _)
  obtain ⟨bu, hbu⟩ : ∃ bu, w4.heap.size = bu := ⟨_, rfl⟩
  have HBU : Hid (w4.heap.size = bu) := hbu
  have HU5 : Hid (TrAt w5 bu N f) := by show TrAt _ _ _ _; rw [hw5, ← hbu]; exact heap_last _ _
  have HT5 : Hid (TrAt w5 bt N f) := by show TrAt _ _ _ _; rw [hw5]; exact HT4.out.of (heap_allo HT4.out.lt _)
  have hsm := same2_refl 7 N f
  have x5 := (HRX.out _ (go_on HB4.out (below_new w4 (.cells (trC N f) 26)))).cell
  have a5 := (HRW.out _ (go_on HB4.out (below_new w4 (.cells (trC N f) 26)))).cell
  rw [hw5] at HB5 HU5 HT5
  rw [hbu] at hst
  clear hb HT3 HT4 hw5 HW5 HBU
  go_wp2_with (first
    | (refine wg_load rfl rfl HT5.out rfl ?_)
    | (refine wg_load rfl rfl HU5.out rfl ?_)
    | (refine wg_eq (N := N) (M := N) (f := f) (g := f) rfl rfl rfl rfl ?_)
    | (go_at_call 10; refine (num13_any _ _).mono ?_; rintro e wn ⟨rfl, rfl⟩)
    | (go_at_call 29; refine (HSA.out _ HB5.out).mono ?_; rintro e w6 ⟨rfl, hb⟩; have HB6 : Hid (Below W.heap.size W w6) := go_on HB5.out hb; clear hb)
    | (go_at_call 14; refine (knows13_any _).mono ?_; rintro e w7 ⟨rfl, hb⟩; have HB7 : Hid (Below W.heap.size W w7) := go_on HB6.out hb; clear hb))
  go_ret
  exact ⟨rfl, go_on HBW.out HB7.out⟩

/-! ### The row's step -/
theorem own : ownKnob Try.prog.godebug = none := by kernel_rfl
set_option maxRecDepth 100000 in
theorem lifted (os : Os) (started : os.Started) (H : Type) (enc : TypeId × Value → H) :
    ReturnsInHanded {} Try.checked os 5 .any (Rows.transWordsSpec.pre6 enc Try.prog Try.f5 Rows.transWordsRow.domain false) (Rows.transWordsSpec.post enc Try.prog Try.f5 false true false false) := by
  refine returnsInHanded_of_change_sized (C := Try.checked) own started (by kernel_rfl) Try.func5
    (ChangeSpec.witness6 (enc := enc) (C := Try.checked) false ⟨#[], #[.agg #[.int .i64 0, .slice none 0 0, .slice none 0 0], .string ByteArray.empty], []⟩ 8 (by kernel_rfl) (by kernel_rfl) (by kernel_rfl) (by kernel_rfl)) ?_
  intro W base args ds gs before hval0 hW hcnd hsz0 _
  have hval : ∀ (j : Nat) t v, Try.f5.params[j]? = some t → args[j]? = some v → Value.okWide Try.prog W .any base t v := hval0
  clear hval0
  have hsz : (DataW.weightsEach Try.prog (Try.f5.params.toList ++ Rows.transWordsSpec.plain.varTypes Try.prog) (ds ++ gs)).all (· ≤ reachBytes) = true := hsz0
  clear hsz0
  have hW' := hW
  obtain ⟨p, q, hA0, hV, rfl, hfz, hnd⟩ := hW
  have hA : DataW.TrodAll enc Try.prog W 0 (fun _ => true) true Try.f5.params.toList args.toList ds p := hA0
  rw [Try.params5] at hA hval hsz
  obtain ⟨v0, vs0, d0, ds0, p0, q0, hargs, rfl, rfl, h0, r0⟩ := trodAll_cons hA
  obtain ⟨v1, vs1, d1, ds1, p1, q1, rfl, rfl, rfl, h1, r1⟩ := trodAll_cons r0
  obtain ⟨rfl, rfl, rfl⟩ := trodAll_nil r1
  obtain rfl : args = #[v0, v1] := by cases args; simp_all
  obtain ⟨rfl, rfl⟩ := trodVars_none hV
  obtain ⟨a0, x0, n0, w0, dk0, dn0, da0, e0, y0, z0⟩ := open_auto (hval 0 58 v0 rfl rfl) h0
  have b0 := auto_bounds hsz (j := 0) rfl (by rw [e0]; rfl) y0 z0
  have g0 : ∀ x ∈ p0, x.block < W.heap.size := fun x hx => hW'.lt x (by simp [hx])
  obtain ⟨a1, rfl, rfl, rfl, w1⟩ := open_string Try.underlying9 (hval 1 9 v1 rfl rfl) h1
  have u1 : a1.size ≤ 140737488355327 := by
    have := sized_string hsz (j := 1) (t := 9) rfl rfl
    have e : a1.data.toList.length = a1.size := rfl
    simp only [reachBytes] at this
    omega
  clear hA0
  refine (walk v0 a0 a1 W x0 n0 b0.1 b0.2 u1).mono fun e W' ⟨he, bel⟩ => ?_
  subst he
  exact ⟨_, rfl, _, _, _, [], _, [], hW', trodAll_mk1 (shut_bool Try.underlying4 _), (trodAll_cons_mk (Below.trod Try.laidOut (by kernel_rfl) (of_decide_eq_true (by kernel_rfl)) h0 bel g0) (trodAll_cons_mk (shut_string Try.underlying9 w1) trodAll_mk0)), rfl, bel.frame _, fun h => by cases h⟩

theorem over : Rows.transWordsRow.holds Try.pinned (OpenSpec.ofChange Rows.transWordsSpec) :=
  OpenClaim.holds_of_wide 5 Try.f5 rfl rfl rfl rfl rfl rfl rfl ⟨rfl, rfl, rfl, rfl, rfl⟩ rfl rfl rfl rfl rfl (by kernel_rfl) Try.func5 (by kernel_rfl)
    (of_decide_eq_true (by kernel_rfl)) (by unfold Func.isWrapper; first | (rw [if_pos (by decide +kernel)]; kernel_rfl) | (rw [if_neg (by decide +kernel)]; exact ⟨rfl, rfl⟩))
    (fun os started H enc _ => lifted os started H enc)

end Go.Proofs.Ytihjhkbbpphocaa.transWords
namespace Go.Proofs.Ytihjhkbbpphocaa
/-- The given statement. -/
theorem transWords_holds : Rows.TransWordsSaid := transWords.over
end Go.Proofs.Ytihjhkbbpphocaa
