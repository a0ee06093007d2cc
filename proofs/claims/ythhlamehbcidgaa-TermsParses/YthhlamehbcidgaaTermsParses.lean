/- Proved: eggboxlaw19.TermsParses answers true (P19.3): Parse answers what the document's own reader answers, of any text: the identity, or the place and the error; and what it tells is the caller's own each time -/
import Derived.Test.YthhlamehbcidgaaY16
import Derived.Test.YthhlamehbcidgaaY48
import Derived.Test.YthhlamehbcidgaaY54
import Derived.ChangeMaps5
namespace Go.Proofs.Ythhlamehbcidgaa.termsParses
open Go Go.ChangeShapes Go.WideShapes Go.ChangeAt Go.RowKit Go.Lib
open Go.ChangeMaps (open_string shut_string)
set_option linter.unusedVariables false
set_option linter.unusedSimpArgs false

theorem Try.laidOut : laidOutB Try.prog = true := by kernel_rfl

set_option maxHeartbeats 16000000 in
set_option maxRecDepth 100000 in
theorem walk (text : ByteArray) (w : World) (_ : text.size ≤ 140737488355327) : Calls Try.prog 3 #[.string text] w fun e w' => e = .returned (.bool true) ∧ Below w.heap.size w w' := by
  obtain ⟨L, hL⟩ : ∃ L, (prS text).1 = L := ⟨_, rfl⟩
  obtain ⟨R, hR⟩ : ∃ R, (prS text).2.1 = R := ⟨_, rfl⟩
  obtain ⟨x, hx⟩ : ∃ x, (prS text).2.2.1 = x := ⟨_, rfl⟩
  obtain ⟨pl, hpl⟩ : ∃ pl, (prS text).2.2.2.1 = pl := ⟨_, rfl⟩
  obtain ⟨er, her⟩ : ∃ er, (prS text).2.2.2.2 = er := ⟨_, rfl⟩
  have HPS : Hid ((prS text).1 = L ∧ (prS text).2.1 = R ∧ (prS text).2.2.1 = x ∧ (prS text).2.2.2.1 = pl ∧ (prS text).2.2.2.2 = er) := ⟨hL, hR, hx, hpl, her⟩
  have hby := pr_byt text
  rw [hL, hR] at hby
  have HBY : Hid ((∀ p ∈ L, p.2 < 256) ∧ (∀ p ∈ R, p.2 < 256) ∧ L.length ≤ 400 ∧ R.length ≤ 400) := hby
  clear hL hR hx hpl her hby
  go_enter Try.func3, Try.ntmps3
  go_wp2_with fail
  refine (parse_pr text w).mono ?_
  rintro e v1 ⟨vl, vr, rfl, hl, hr, hb⟩
  rw [HPS.out.1] at hl
  rw [HPS.out.2.1] at hr
  rw [HPS.out.2.2.1, HPS.out.2.2.2.1, HPS.out.2.2.2.2]
  obtain ⟨a1, c1, rfl⟩ := own_shape hl
  obtain ⟨b1, d1, rfl⟩ := own_shape hr
  obtain ⟨w2, hw1⟩ : ∃ w2, w2 = v1.alloc (.cells #[.slice a1 L.length c1, .slice b1 R.length d1, .bool x] 24) := ⟨_, rfl⟩
  have HW1 : Hid (w2 = v1.alloc (.cells #[.slice a1 L.length c1, .slice b1 R.length d1, .bool x] 24)) := hw1
  have hbb : Below v1.heap.size v1 w2 := by rw [hw1]; exact below_new _ _
  have HX1 : Hid (w2.heap[v1.heap.size]? = some (.cells #[.slice a1 L.length c1, .slice b1 R.length d1, .bool x] 24 (0, 0))) := by show _ = _; rw [hw1]; exact heap_last _ _
  have HO1 : Hid (w2.ownsRow w.heap.size 81 2 (.slice a1 L.length c1) L.length (sgC L) ∧ w2.ownsRow w.heap.size 81 2 (.slice b1 R.length d1) R.length (sgC R)) := ⟨own_below hl hbb, own_below hr hbb⟩
  have HR1 : Hid (v1.ownsRow w.heap.size 81 2 (.slice a1 L.length c1) L.length (sgC L) ∧ v1.ownsRow w.heap.size 81 2 (.slice b1 R.length d1) R.length (sgC R)) := ⟨hl, hr⟩
  have HB1 : Hid (Below w.heap.size w w2) := go_on hb hbb
  have HVS1 : Hid (w.heap.size ≤ v1.heap.size) := hb.size
  clear hl hr hb hbb hw1
  go_upto_region 2 with fail
  rw [← HW1.out]
  go_wp2_with fail
  refine (parse_pr text w2).mono ?_
  rintro e v2 ⟨vl, vr, rfl, hl, hr, hb⟩
  rw [HPS.out.1] at hl
  rw [HPS.out.2.1] at hr
  rw [HPS.out.2.2.1, HPS.out.2.2.2.1, HPS.out.2.2.2.2]
  obtain ⟨a2, c2, rfl⟩ := own_shape hl
  obtain ⟨b2, d2, rfl⟩ := own_shape hr
  obtain ⟨w4, hw2⟩ : ∃ w4, w4 = v2.alloc (.cells #[.slice a2 L.length c2, .slice b2 R.length d2, .bool x] 24) := ⟨_, rfl⟩
  have HW2 : Hid (w4 = v2.alloc (.cells #[.slice a2 L.length c2, .slice b2 R.length d2, .bool x] 24)) := hw2
  have hbb : Below v2.heap.size v2 w4 := by rw [hw2]; exact below_new _ _
  have HX2 : Hid (w4.heap[v2.heap.size]? = some (.cells #[.slice a2 L.length c2, .slice b2 R.length d2, .bool x] 24 (0, 0))) := by show _ = _; rw [hw2]; exact heap_last _ _
  have HO2 : Hid (w4.ownsRow w2.heap.size 81 2 (.slice a2 L.length c2) L.length (sgC L) ∧ w4.ownsRow w2.heap.size 81 2 (.slice b2 R.length d2) R.length (sgC R)) := ⟨own_below hl hbb, own_below hr hbb⟩
  have HR2 : Hid (v2.ownsRow w2.heap.size 81 2 (.slice a2 L.length c2) L.length (sgC L) ∧ v2.ownsRow w2.heap.size 81 2 (.slice b2 R.length d2) R.length (sgC R)) := ⟨hl, hr⟩
  have HB2 : Hid (Below w2.heap.size w2 w4) := go_on hb hbb
  have HVS2 : Hid (w2.heap.size ≤ v2.heap.size) := hb.size
  clear hl hr hb hbb hw2
  go_upto_region 3 with fail
  rw [← HW2.out]
  go_wp2_with fail
  refine (rparse_pr text w4).mono ?_
  rintro e v3 ⟨vl, vr, rfl, hl, hr, hb⟩
  rw [HPS.out.1] at hl
  rw [HPS.out.2.1] at hr
  rw [HPS.out.2.2.1, HPS.out.2.2.2.1, HPS.out.2.2.2.2]
  obtain ⟨a3, c3, rfl⟩ := own_shape hl
  obtain ⟨b3, d3, rfl⟩ := own_shape hr
  obtain ⟨w6, hw3⟩ : ∃ w6, w6 = v3.alloc (.cells #[.slice a3 L.length c3, .slice b3 R.length d3, .bool x] 24) := ⟨_, rfl⟩
  have HW3 : Hid (w6 = v3.alloc (.cells #[.slice a3 L.length c3, .slice b3 R.length d3, .bool x] 24)) := hw3
  have hbb : Below v3.heap.size v3 w6 := by rw [hw3]; exact below_new _ _
  have HX3 : Hid (w6.heap[v3.heap.size]? = some (.cells #[.slice a3 L.length c3, .slice b3 R.length d3, .bool x] 24 (0, 0))) := by show _ = _; rw [hw3]; exact heap_last _ _
  have HO3 : Hid (w6.ownsRow w4.heap.size 81 2 (.slice a3 L.length c3) L.length (sgC L) ∧ w6.ownsRow w4.heap.size 81 2 (.slice b3 R.length d3) R.length (sgC R)) := ⟨own_below hl hbb, own_below hr hbb⟩
  have HR3 : Hid (v3.ownsRow w4.heap.size 81 2 (.slice a3 L.length c3) L.length (sgC L) ∧ v3.ownsRow w4.heap.size 81 2 (.slice b3 R.length d3) R.length (sgC R)) := ⟨hl, hr⟩
  have HB3 : Hid (Below w4.heap.size w4 w6) := go_on hb hbb
  have HVS3 : Hid (w4.heap.size ≤ v3.heap.size) := hb.size
  clear hl hr hb hbb hw3
  go_upto_region 4 with fail
  rw [← HW3.out]
  have HB26 : Hid (Below w2.heap.size w2 w6) := go_on HB2.out HB3.out
  have HF1 : Hid (∀ y, Below w6.heap.size w6 y → y.cell? ⟨v1.heap.size, 0, none⟩ = some (.slice a1 L.length c1) ∧ y.cell? ⟨v1.heap.size, 1, none⟩ = some (.slice b1 R.length d1) ∧ y.cell? ⟨v1.heap.size, 2, none⟩ = some (.bool x)) := fun y hy => by
    have h := ((go_on HB26.out hy).block _ (Array.getElem?_eq_some_iff.1 HX1.out).1).trans HX1.out
    exact ⟨cell_at h rfl, cell_at h rfl, cell_at h rfl⟩
  have HF3 : Hid (∀ y, Below w6.heap.size w6 y → y.cell? ⟨v3.heap.size, 0, none⟩ = some (.slice a3 L.length c3) ∧ y.cell? ⟨v3.heap.size, 1, none⟩ = some (.slice b3 R.length d3) ∧ y.cell? ⟨v3.heap.size, 2, none⟩ = some (.bool x)) := fun y hy => by
    have h := (hy.block _ (Array.getElem?_eq_some_iff.1 HX3.out).1).trans HX3.out
    exact ⟨cell_at h rfl, cell_at h rfl, cell_at h rfl⟩
  have HSM : Hid (∀ y, Below w6.heap.size w6 y → Calls Try.prog 10 #[.agg #[.slice a1 L.length c1, .slice b1 R.length d1, .bool x], .agg #[.slice a3 L.length c3, .slice b3 R.length d3, .bool x]] y fun e w' => e = .returned (.bool true) ∧ Below y.heap.size y w') := fun y hy => by
    obtain ⟨t1, t2, t3, t4⟩ := HBY.out
    have u1 := own_below HO1.out.1 (go_on HB26.out hy)
    have u2 := own_below HO1.out.2 (go_on HB26.out hy)
    have v1 := own_below HO3.out.1 hy
    have v2 := own_below HO3.out.2 hy
    have h := same_same (.slice a1 L.length c1) (.slice b1 R.length d1) (.slice a3 L.length c3) (.slice b3 R.length d3) x (intS L) (intS R) y (row_sgr u1 t1) (row_sgr u2 t2) (row_sgr v1 t1) (row_sgr v2 t2) (by rw [intS_len]; omega) (by rw [intS_len]; omega)
    exact h
  have hq1 := HF1.out w6 (Below.refl _ _)
  obtain ⟨m0, m1, m2⟩ := hq1
  have hq3 := HF3.out w6 (Below.refl _ _)
  obtain ⟨n0, n1, n2⟩ := hq3
  have HSMW : Hid _ := HSM.out w6 (Below.refl _ _)
  go_wp2_with fail
  refine Calls.mono HSMW.out ?_
  rintro e y1 ⟨rfl, hb⟩
  have HBY1 : Hid (Below w6.heap.size w6 y1) := hb
  clear hb m0 m1 m2 n0 n1 n2
  go_wp2_with fail
  refine (num_any _ _).mono ?_
  rintro e yy ⟨rfl, rfl⟩
  go_wp2_with fail
  refine (num_any _ _).mono ?_
  rintro e yy ⟨rfl, rfl⟩
  go_wp2_with fail
  refine (knows19_any _).mono ?_
  rintro e y2 ⟨rfl, hb⟩
  have hH2 : Below w6.heap.size w6 y2 := go_on HBY1.out hb
  clear hb
  have HBX : Hid (Below w6.heap.size w6 y2) := hH2
  have hf := HF1.out y2 hH2
  obtain ⟨m0, m1, m2⟩ := hf
  have HSP : Hid (Calls Try.prog 13 #[.agg #[.slice a1 L.length c1, .slice b1 R.length d1, .bool x]] y2 fun e w' => e = .returned (.tuple #[]) ∧ Only (fun b => (Value.slice a1 L.length c1).ownBlock = some b ∨ (Value.slice b1 R.length d1).ownBlock = some b) y2 w') := by
    have hb := HBY.out.2.2
    exact spoil_any _ _ x L.length R.length y2 ((WR.of HO1.out.1).below (go_on HB26.out HBX.out)) ((WR.of HO1.out.2).below (go_on HB26.out HBX.out)) (by omega) (by omega)
  clear hH2
  go_wp2_with fail
  refine Calls.mono HSP.out ?_
  rintro e y3 ⟨rfl, ho⟩
  have HO : Hid (Only (fun b => (Value.slice a1 L.length c1).ownBlock = some b ∨ (Value.slice b1 R.length d1).ownBlock = some b) y2 y3) := ho
  have HSB : Hid (∀ b, ((Value.slice a1 L.length c1).ownBlock = some b ∨ (Value.slice b1 R.length d1).ownBlock = some b) → w.heap.size ≤ b ∧ b < v1.heap.size) := fun b hb => by
    rcases hb with hb | hb
    · exact HR1.out.1.lt b hb
    · exact HR1.out.2.lt b hb
  have hz1 : w2.heap.size = v1.heap.size + 1 := by rw [HW1.out, World.size_alloc]
  have hz2 := HVS2.out
  have hz4 := HVS3.out
  have hz5 := HB2.out.size
  have HY2 : Hid (y3.heap[v2.heap.size]? = some (.cells #[.slice a2 L.length c2, .slice b2 R.length d2, .bool x] 24 (0, 0))) := by
    have h1 := ((go_on HB3.out HBX.out).block _ (Array.getElem?_eq_some_iff.1 HX2.out).1).trans HX2.out
    exact (HO.out.block _ (Array.getElem?_eq_some_iff.1 h1).1 (fun q => by have := HSB.out _ q; omega)).trans h1
  have HY3 : Hid (y3.heap[v3.heap.size]? = some (.cells #[.slice a3 L.length c3, .slice b3 R.length d3, .bool x] 24 (0, 0))) := by
    have h1 := (HBX.out.block _ (Array.getElem?_eq_some_iff.1 HX3.out).1).trans HX3.out
    exact (HO.out.block _ (Array.getElem?_eq_some_iff.1 h1).1 (fun q => by have := HSB.out _ q; omega)).trans h1
  have HSAM : Hid (Calls Try.prog 10 #[.agg #[.slice a2 L.length c2, .slice b2 R.length d2, .bool x], .agg #[.slice a3 L.length c3, .slice b3 R.length d3, .bool x]] y3 fun e w' => e = .returned (.bool true) ∧ Below y3.heap.size y3 w') := by
    obtain ⟨t1, t2, t3, t4⟩ := HBY.out
    have hbu := go_on HB3.out HBX.out
    have u1 := own_only (own_below HO2.out.1 hbu) HO.out (fun b hb q => by have h1 := HSB.out b q; have h2 := (HO2.out.1.lt b hb).1; omega)
    have u2 := own_only (own_below HO2.out.2 hbu) HO.out (fun b hb q => by have h1 := HSB.out b q; have h2 := (HO2.out.2.lt b hb).1; omega)
    have v1 := own_only (own_below HO3.out.1 HBX.out) HO.out (fun b hb q => by have h1 := HSB.out b q; have h2 := (HO3.out.1.lt b hb).1; omega)
    have v2 := own_only (own_below HO3.out.2 HBX.out) HO.out (fun b hb q => by have h1 := HSB.out b q; have h2 := (HO3.out.2.lt b hb).1; omega)
    have h := same_same (.slice a2 L.length c2) (.slice b2 R.length d2) (.slice a3 L.length c3) (.slice b3 R.length d3) x (intS L) (intS R) y3 (row_sgr u1 t1) (row_sgr u2 t2) (row_sgr v1 t1) (row_sgr v2 t2) (by rw [intS_len]; omega) (by rw [intS_len]; omega)
    exact h
  have HBW : Hid (Below w.heap.size w y3) := HO.out.below (go_on HB1.out (go_on HB26.out HBX.out)) (Nat.le_refl _) (fun b q => (HSB.out b q).1)
  clear ho m0 m1 m2 hz1 hz2 hz4 hz5
  have m0 : y3.cell? ⟨v2.heap.size, 0, none⟩ = some (.slice a2 L.length c2) := cell_at HY2.out rfl
  have m1 : y3.cell? ⟨v2.heap.size, 1, none⟩ = some (.slice b2 R.length d2) := cell_at HY2.out rfl
  have m2 : y3.cell? ⟨v2.heap.size, 2, none⟩ = some (.bool x) := cell_at HY2.out rfl
  have n0 : y3.cell? ⟨v3.heap.size, 0, none⟩ = some (.slice a3 L.length c3) := cell_at HY3.out rfl
  have n1 : y3.cell? ⟨v3.heap.size, 1, none⟩ = some (.slice b3 R.length d3) := cell_at HY3.out rfl
  have n2 : y3.cell? ⟨v3.heap.size, 2, none⟩ = some (.bool x) := cell_at HY3.out rfl
  go_wp2_with fail
  refine Calls.mono HSAM.out ?_
  rintro e y4 ⟨rfl, hb4⟩
  have HB4 : Hid (Below w.heap.size w y4) := go_on HBW.out hb4
  clear hb4 m0 m1 m2 n0 n1 n2
  go_wp2_with fail
  go_ret
  exact ⟨rfl, HB4.out⟩

/-! ### The row's step -/
theorem own : ownKnob Try.prog.godebug = none := by kernel_rfl
set_option maxRecDepth 100000 in
theorem lifted (os : Os) (started : os.Started) (H : Type) (enc : TypeId × Value → H) :
    ReturnsInHanded {} Try.checked os 3 .any (Rows.termsParsesSpec.pre6 enc Try.prog Try.f3 Rows.termsParsesRow.domain false) (Rows.termsParsesSpec.post enc Try.prog Try.f3 false true false false) := by
  refine returnsInHanded_of_change_sized (C := Try.checked) own started (by kernel_rfl) Try.func3
    (ChangeSpec.witness6 (enc := enc) (C := Try.checked) false ⟨#[], #[.string ByteArray.empty], []⟩ 8 (by kernel_rfl) (by kernel_rfl) (by kernel_rfl) (by kernel_rfl)) ?_
  intro W base args ds gs before hval0 hW hcnd hsz0 _
  have hval : ∀ (j : Nat) t v, Try.f3.params[j]? = some t → args[j]? = some v → Value.okWide Try.prog W .any base t v := hval0
  clear hval0
  have hsz : (DataW.weightsEach Try.prog (Try.f3.params.toList ++ Rows.termsParsesSpec.plain.varTypes Try.prog) (ds ++ gs)).all (· ≤ reachBytes) = true := hsz0
  clear hsz0
  have hW' := hW
  obtain ⟨p, q, hA0, hV, rfl, hfz, hnd⟩ := hW
  have hA : DataW.TrodAll enc Try.prog W 0 (fun _ => true) true Try.f3.params.toList args.toList ds p := hA0
  rw [Try.params3] at hA hval hsz
  obtain ⟨v0, vs0, d0, ds0, p0, q0, hargs, rfl, rfl, h0, r0⟩ := trodAll_cons hA
  obtain ⟨rfl, rfl, rfl⟩ := trodAll_nil r0
  obtain rfl : args = #[v0] := by cases args; simp_all
  obtain ⟨rfl, rfl⟩ := trodVars_none hV
  obtain ⟨a0, rfl, rfl, rfl, w0⟩ := open_string Try.underlying9 (hval 0 9 v0 rfl rfl) h0
  have u0 : a0.size ≤ 140737488355327 := by
    have := sized_string hsz (j := 0) (t := 9) rfl rfl
    have e : a0.data.toList.length = a0.size := rfl
    simp only [reachBytes] at this
    omega
  clear hA0
  refine (walk a0 W u0).mono fun e W' ⟨he, bel⟩ => ?_
  subst he
  exact ⟨_, rfl, _, _, _, [], _, [], hW', trodAll_mk1 (shut_bool Try.underlying4 _), (trodAll_cons_mk (shut_string Try.underlying9 w0) trodAll_mk0), rfl, bel.frame _, fun h => by cases h⟩

theorem over : Rows.termsParsesRow.holds Try.pinned (OpenSpec.ofChange Rows.termsParsesSpec) :=
  OpenClaim.holds_of_wide 3 Try.f3 rfl rfl rfl rfl rfl rfl rfl ⟨rfl, rfl, rfl, rfl, rfl⟩ rfl rfl rfl rfl rfl (by kernel_rfl) Try.func3 (by kernel_rfl)
    (of_decide_eq_true (by kernel_rfl)) (by unfold Func.isWrapper; first | (rw [if_pos (by decide +kernel)]; kernel_rfl) | (rw [if_neg (by decide +kernel)]; exact ⟨rfl, rfl⟩))
    (fun os started H enc _ => lifted os started H enc)

end Go.Proofs.Ythhlamehbcidgaa.termsParses
namespace Go.Proofs.Ythhlamehbcidgaa
/-- The given statement. -/
theorem termsParses_holds : Rows.TermsParsesSaid := termsParses.over
end Go.Proofs.Ythhlamehbcidgaa
