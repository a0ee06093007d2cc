/- Proved: eggboxlaw12.EqualTogether answers true at all automata's data a and b (P12.3): Equal is Inside both ways, each is true just where Differ or Escape finds no word, and Differ's word is the lesser of the two Escapes'; its arguments read behind the call as before. -/
import Derived.Test.YtceoceecgekkjaaJu
import Derived.Test.YtceoceecgekkjaaInb
import Derived.Deep.RegionHeld3
namespace Go.Proofs.Ytceoceecgekkjaa.equalTogether
open Go Go.ChangeShapes Go.WideShapes Go.ChangeAt Go.RowKit Go.Lib
open Go.ChangeMaps (open_string shut_string)
set_option linter.unusedVariables false

set_option maxHeartbeats 16000000 in
set_option maxRecDepth 100000 in
theorem walk (va : Value) (A : Aut) (vb : Value) (B : Aut) (w : World) (ha : AR w va A) (hna : NilOk va) (hma : (A.nx.length + 2) * 8 ≤ 140737488355328) (hma2 : A.ac.length ≤ 140737488355328) (hb : AR w vb B) (hnb : NilOk vb) (hmb : (B.nx.length + 2) * 8 ≤ 140737488355328) (hmb2 : B.ac.length ≤ 140737488355328) :
    Calls Try.prog 5 #[va, vb] w fun e w' => e = .returned (.bool true) ∧ Below w.heap.size w w' := by
  obtain ⟨an, cn, aa, ca, ea, _, _⟩ := ha.is
  obtain ⟨bn, dn, ba, da, eb, _, _⟩ := hb.is
  have hA1 : A.nx.length ≤ 9223372036854775806 := by omega
  have hA2 : A.ac.length ≤ 9223372036854775806 := by omega
  have hB1 : B.nx.length ≤ 9223372036854775806 := by omega
  have hB2 : B.ac.length ≤ 9223372036854775806 := by omega
  subst ea eb
  obtain ⟨V, hV⟩ : ∃ V, V = ((w.alloc (.cells #[.int .i64 A.k, .slice an A.nx.length cn, .slice aa A.ac.length ca] 25)).alloc (.cells #[.int .i64 B.k, .slice bn B.nx.length dn, .slice ba B.ac.length da] 25)) := ⟨_, rfl⟩
  have HVE : Hid (V = ((w.alloc (.cells #[.int .i64 A.k, .slice an A.nx.length cn, .slice aa A.ac.length ca] 25)).alloc (.cells #[.int .i64 B.k, .slice bn B.nx.length dn, .slice ba B.ac.length da] 25))) := hV
  have HBV : Hid (Below w.heap.size w V) := by show Below _ _ _; rw [hV]; exact go_on (below_new _ _) (below_new _ _)
  have HRA : Hid (RowAt V w.heap.size #[.int .i64 A.k, .slice an A.nx.length cn, .slice aa A.ac.length ca]) := by show RowAt _ _ _; rw [hV]; exact (RowAt.last _ _ _).alloc _
  have HRB : Hid (RowAt V (w.heap.size + 1) #[.int .i64 B.k, .slice bn B.nx.length dn, .slice ba B.ac.length da]) := by
    show RowAt _ _ _
    rw [hV]
    have := RowAt.last (w.alloc (.cells #[.int .i64 A.k, .slice an A.nx.length cn, .slice aa A.ac.length ca] 25)) #[.int .i64 B.k, .slice bn B.nx.length dn, .slice ba B.ac.length da] 25
    simpa using this
  clear hV
  have HGD : Hid (∀ b, decide (ckE A B = 0) = b → ∀ y, Below w.heap.size w y → Calls Try.prog 23 #[.agg #[.int .i64 A.k, .slice an A.nx.length cn, .slice aa A.ac.length ca], .agg #[.int .i64 B.k, .slice bn B.nx.length dn, .slice ba B.ac.length da]] y fun e w' => e = .returned (.bool b) ∧ Below y.heap.size y w') := fun b hbb y hy => good_any _ _ A B y (ha.stay hy) (hb.stay hy) hA1 hA2 hB1 hB2 b hbb
  by_cases h0 : ckE A B = 0
  case neg =>
    have HG : Hid (∀ y, Below w.heap.size w y → Calls Try.prog 23 #[.agg #[.int .i64 A.k, .slice an A.nx.length cn, .slice aa A.ac.length ca], .agg #[.int .i64 B.k, .slice bn B.nx.length dn, .slice ba B.ac.length da]] y fun e w' => e = .returned (.bool false) ∧ Below y.heap.size y w') := HGD.out false (decide_eq_false h0)
    clear ha hb hna hnb hma hma2 hmb hmb2 HGD
    go_enter Try.func5, Try.ntmps5
    go_wp2_with fail
    rw [← HVE.out]
    refine (HG.out V HBV.out).mono ?_
    rintro e w1 ⟨rfl, hb1⟩
    have HB1 : Hid (Below w.heap.size w w1) := go_on HBV.out hb1
    clear hb1
    go_wp2_with (first
      | (go_at_call 16; refine (live12_any _).mono ?_; rintro e y6 ⟨rfl, hy6⟩; have HY6 : Hid (Below w.heap.size w y6) := go_on HB1.out hy6; clear hy6))
    go_ret
    exact ⟨rfl, HY6.out⟩
  case pos =>
  have HG : Hid (∀ y, Below w.heap.size w y → Calls Try.prog 23 #[.agg #[.int .i64 A.k, .slice an A.nx.length cn, .slice aa A.ac.length ca], .agg #[.int .i64 B.k, .slice bn B.nx.length dn, .slice ba B.ac.length da]] y fun e w' => e = .returned (.bool true) ∧ Below y.heap.size y w') := HGD.out true (decide_eq_true h0)
  obtain ⟨G, H, hk⟩ : Good A ∧ Good B ∧ A.k = B.k := by
    rcases ckE_cases A B with ⟨g1, g2, hk, _⟩ | ⟨_, _, _, h3⟩ | ⟨_, h3⟩ | ⟨_, _, h3⟩
    · exact ⟨g1, g2, hk⟩
    · rw [h3] at h0; exact absurd h0 (by decide)
    · rw [h3] at h0; exact absurd h0 (by decide)
    · rw [h3] at h0; exact absurd h0 (by decide)
  have h0' : ckE B A = 0 := ckE_ok H G hk.symm
  have ht := tg_is G H hk
  obtain ⟨sm, hsm⟩ : ∃ x, eqB A B (sx A B) = x := ⟨_, rfl⟩
  obtain ⟨on, hon⟩ : ∃ x, eqB A B (se A B) = x := ⟨_, rfl⟩
  obtain ⟨tw, htw⟩ : ∃ x, eqB B A (se B A) = x := ⟨_, rfl⟩
  obtain ⟨df, hdf⟩ : ∃ x, apF (eqO A B (sx A B)) = x := ⟨_, rfl⟩
  obtain ⟨fi, hfi⟩ : ∃ x, apF (eqO A B (se A B)) = x := ⟨_, rfl⟩
  obtain ⟨sc, hsc⟩ : ∃ x, apF (eqO B A (se B A)) = x := ⟨_, rfl⟩
  obtain ⟨d, hd⟩ : ∃ x, apS (eqO A B (sx A B)) = x := ⟨_, rfl⟩
  obtain ⟨u, hu⟩ : ∃ x, apS (eqO A B (se A B)) = x := ⟨_, rfl⟩
  obtain ⟨v, hv⟩ : ∃ x, apS (eqO B A (se B A)) = x := ⟨_, rfl⟩
  obtain ⟨r, hr⟩ : ∃ x, ord u v = x := ⟨_, rfl⟩
  rw [hsm, hon, htw, hdf, hfi, hsc, hd, hu, hv, hr] at ht
  have HT : Hid (Tg sm on tw df fi sc d u v r) := ht
  have C1 : Hid (∀ y, Below w.heap.size w y → Calls Try.prog 10 #[.agg #[.int .i64 A.k, .slice an A.nx.length cn, .slice aa A.ac.length ca], .agg #[.int .i64 B.k, .slice bn B.nx.length dn, .slice ba B.ac.length da]] y fun e w' => e = .returned (.tuple #[.bool sm, .int .i64 0]) ∧ Below y.heap.size y w') := fun y hy => by
    have := eeq_any _ _ A B y (ha.stay hy) (hb.stay hy) hA1 hA2 hB1 hB2
    rwa [hsm, h0] at this
  have C2 : Hid (∀ y, Below w.heap.size w y → Calls Try.prog 12 #[.agg #[.int .i64 A.k, .slice an A.nx.length cn, .slice aa A.ac.length ca], .agg #[.int .i64 B.k, .slice bn B.nx.length dn, .slice ba B.ac.length da]] y fun e w' => e = .returned (.tuple #[.bool on, .int .i64 0]) ∧ Below y.heap.size y w') := fun y hy => by
    have := ein_any _ _ A B y (ha.stay hy) (hb.stay hy) hA1 hA2 hB1 hB2
    rwa [hon, h0] at this
  have C3 : Hid (∀ y, Below w.heap.size w y → Calls Try.prog 12 #[.agg #[.int .i64 B.k, .slice bn B.nx.length dn, .slice ba B.ac.length da], .agg #[.int .i64 A.k, .slice an A.nx.length cn, .slice aa A.ac.length ca]] y fun e w' => e = .returned (.tuple #[.bool tw, .int .i64 0]) ∧ Below y.heap.size y w') := fun y hy => by
    have := ein_any _ _ B A y (hb.stay hy) (ha.stay hy) hB1 hB2 hA1 hA2
    rwa [htw, h0'] at this
  have C4 : Hid (∀ y, Below w.heap.size w y → Calls Try.prog 17 #[.agg #[.int .i64 A.k, .slice an A.nx.length cn, .slice aa A.ac.length ca], .agg #[.int .i64 B.k, .slice bn B.nx.length dn, .slice ba B.ac.length da]] y fun e w' => e = .returned (.tuple #[.string d, .bool df, .int .i64 0]) ∧ Below y.heap.size y w') := fun y hy => by
    refine Calls.mono (edf_any _ _ A B y (ha.stay hy) (hb.stay hy) hA1 hA2 hB1 hB2) ?_
    rintro e w' ⟨rfl, _, h3⟩
    exact ⟨by rw [hd, hdf, h0], h3⟩
  have C5 : Hid (∀ y, Below w.heap.size w y → Calls Try.prog 19 #[.agg #[.int .i64 A.k, .slice an A.nx.length cn, .slice aa A.ac.length ca], .agg #[.int .i64 B.k, .slice bn B.nx.length dn, .slice ba B.ac.length da]] y fun e w' => e = .returned (.tuple #[.string u, .bool fi, .int .i64 0]) ∧ Below y.heap.size y w') := fun y hy => by
    refine Calls.mono (ees_any _ _ A B y (ha.stay hy) (hb.stay hy) hA1 hA2 hB1 hB2) ?_
    rintro e w' ⟨rfl, _, h3⟩
    exact ⟨by rw [hu, hfi, h0], h3⟩
  have C6 : Hid (∀ y, Below w.heap.size w y → Calls Try.prog 19 #[.agg #[.int .i64 B.k, .slice bn B.nx.length dn, .slice ba B.ac.length da], .agg #[.int .i64 A.k, .slice an A.nx.length cn, .slice aa A.ac.length ca]] y fun e w' => e = .returned (.tuple #[.string v, .bool sc, .int .i64 0]) ∧ Below y.heap.size y w') := fun y hy => by
    refine Calls.mono (ees_any _ _ B A y (hb.stay hy) (ha.stay hy) hB1 hB2 hA1 hA2) ?_
    rintro e w' ⟨rfl, _, h3⟩
    exact ⟨by rw [hv, hsc, h0'], h3⟩
  have HOR : Hid (∀ y, Calls Try.prog 24 #[.string u, .string v] y fun e w' => e = .returned (.int .i64 r) ∧ w' = y) := fun y => by rw [← hr]; exact order_any u v y
  clear ha hb hna hnb hma hma2 hmb hmb2 HGD ht hsm hon htw hdf hfi hsc hd hu hv hr G H hk h0 h0'
  go_enter Try.func5, Try.ntmps5
  go_wp2_with fail
  rw [← HVE.out]
  refine (HG.out V HBV.out).mono ?_
  rintro e w0 ⟨rfl, hb0⟩
  have HV0 : Hid (Below V.heap.size V w0) := hb0
  have ca0 := (HRA.out.stay hb0).cell
  have cb0 := (HRB.out.stay hb0).cell
  clear hb0
  go_wp2_with fail
  refine (C1.out w0 (go_on HBV.out HV0.out)).mono ?_
  rintro e w1 ⟨rfl, hb1⟩
  have HV1 : Hid (Below V.heap.size V w1) := go_on HV0.out hb1
  have ca1 := (HRA.out.stay HV1.out).cell
  have cb1 := (HRB.out.stay HV1.out).cell
  clear hb1 ca0 cb0
  go_wp2_with fail
  refine (C2.out w1 (go_on HBV.out HV1.out)).mono ?_
  rintro e w2 ⟨rfl, hb2⟩
  have HV2 : Hid (Below V.heap.size V w2) := go_on HV1.out hb2
  have ca2 := (HRA.out.stay HV2.out).cell
  have cb2 := (HRB.out.stay HV2.out).cell
  clear hb2 ca1 cb1
  go_wp2_with fail
  refine (C3.out w2 (go_on HBV.out HV2.out)).mono ?_
  rintro e w3 ⟨rfl, hb3⟩
  have HV3 : Hid (Below V.heap.size V w3) := go_on HV2.out hb3
  have ca3 := (HRA.out.stay HV3.out).cell
  have cb3 := (HRB.out.stay HV3.out).cell
  clear hb3 ca2 cb2
  go_wp2_with fail
  refine (C4.out w3 (go_on HBV.out HV3.out)).mono ?_
  rintro e w4 ⟨rfl, hb4⟩
  have HV4 : Hid (Below V.heap.size V w4) := go_on HV3.out hb4
  have ca4 := (HRA.out.stay HV4.out).cell
  have cb4 := (HRB.out.stay HV4.out).cell
  clear hb4 ca3 cb3
  go_wp2_with fail
  refine (C5.out w4 (go_on HBV.out HV4.out)).mono ?_
  rintro e w5 ⟨rfl, hb5⟩
  have HV5 : Hid (Below V.heap.size V w5) := go_on HV4.out hb5
  have ca5 := (HRA.out.stay HV5.out).cell
  have cb5 := (HRB.out.stay HV5.out).cell
  clear hb5 ca4 cb4
  go_wp2_with fail
  refine (C6.out w5 (go_on HBV.out HV5.out)).mono ?_
  rintro e w6 ⟨rfl, hb6⟩
  have HV6 : Hid (Below V.heap.size V w6) := go_on HV5.out hb6
  have ca6 := (HRA.out.stay HV6.out).cell
  have cb6 := (HRB.out.stay HV6.out).cell
  clear hb6 ca5 cb5
  clear C1 C2 C3 C4 C5 C6
  have HB6 : Hid (Below w.heap.size w w6) := go_on HBV.out HV6.out
  rcases HT.out with ⟨rfl, rfl, rfl, rfl, rfl, rfl, hr, rfl⟩ | ⟨rfl, rfl, rfl, rfl, rfl, rfl, hr, rfl⟩ | ⟨rfl, rfl, rfl, rfl, rfl, rfl, rfl⟩ | ⟨rfl, rfl, rfl, rfl, rfl, rfl, rfl⟩ | ⟨rfl, rfl, rfl, rfl, rfl, rfl, rfl⟩
  · have hdr : decide (r < 0) = true := decide_eq_true hr
    clear HT
    go_wp2_with (first
      | (go_at_call 14; refine (num12_any _ _).mono ?_; rintro e yn ⟨rfl, hyn⟩; subst yn)
      | (go_at_call 24; refine (HOR.out _).mono ?_; rintro e yn ⟨rfl, hyn⟩; subst yn)
      | (go_at_call 16; refine (live12_any _).mono ?_; rintro e y6 ⟨rfl, hy6⟩; have HY6 : Hid (Below w.heap.size w y6) := go_on HB6.out hy6; clear hy6))
    go_ret
    exact ⟨rfl, HY6.out⟩
  · have hdr : decide (r < 0) = false := decide_eq_false hr
    clear HT
    go_wp2_with (first
      | (go_at_call 14; refine (num12_any _ _).mono ?_; rintro e yn ⟨rfl, hyn⟩; subst yn)
      | (go_at_call 24; refine (HOR.out _).mono ?_; rintro e yn ⟨rfl, hyn⟩; subst yn)
      | (go_at_call 16; refine (live12_any _).mono ?_; rintro e y6 ⟨rfl, hy6⟩; have HY6 : Hid (Below w.heap.size w y6) := go_on HB6.out hy6; clear hy6))
    go_ret
    exact ⟨rfl, HY6.out⟩
  · clear HT
    go_wp2_with (first
      | (go_at_call 14; refine (num12_any _ _).mono ?_; rintro e yn ⟨rfl, hyn⟩; subst yn)
      | (go_at_call 24; refine (HOR.out _).mono ?_; rintro e yn ⟨rfl, hyn⟩; subst yn)
      | (go_at_call 16; refine (live12_any _).mono ?_; rintro e y6 ⟨rfl, hy6⟩; have HY6 : Hid (Below w.heap.size w y6) := go_on HB6.out hy6; clear hy6))
    go_ret
    exact ⟨rfl, HY6.out⟩
  · clear HT
    go_wp2_with (first
      | (go_at_call 14; refine (num12_any _ _).mono ?_; rintro e yn ⟨rfl, hyn⟩; subst yn)
      | (go_at_call 24; refine (HOR.out _).mono ?_; rintro e yn ⟨rfl, hyn⟩; subst yn)
      | (go_at_call 16; refine (live12_any _).mono ?_; rintro e y6 ⟨rfl, hy6⟩; have HY6 : Hid (Below w.heap.size w y6) := go_on HB6.out hy6; clear hy6))
    go_ret
    exact ⟨rfl, HY6.out⟩
  · clear HT
    go_wp2_with (first
      | (go_at_call 14; refine (num12_any _ _).mono ?_; rintro e yn ⟨rfl, hyn⟩; subst yn)
      | (go_at_call 24; refine (HOR.out _).mono ?_; rintro e yn ⟨rfl, hyn⟩; subst yn)
      | (go_at_call 16; refine (live12_any _).mono ?_; rintro e y6 ⟨rfl, hy6⟩; have HY6 : Hid (Below w.heap.size w y6) := go_on HB6.out hy6; clear hy6))
    go_ret
    exact ⟨rfl, HY6.out⟩

/-! ### The row's step -/
theorem own : ownKnob Try.prog.godebug = none := by kernel_rfl
set_option maxRecDepth 100000 in
theorem lifted (os : Os) (started : os.Started) (H : Type) (enc : TypeId × Value → H) :
    ReturnsInHanded {} Try.checked os 5 .any (Rows.equalTogetherSpec.pre6 enc Try.prog Try.f5 Rows.equalTogetherRow.domain false) (Rows.equalTogetherSpec.post enc Try.prog Try.f5 false true false false) := by
  refine returnsInHanded_of_change_sized (C := Try.checked) own started (by kernel_rfl) Try.func5
    (ChangeSpec.witness6 (enc := enc) (C := Try.checked) false ⟨#[], #[.agg #[.int .i64 0, .slice none 0 0, .slice none 0 0], .agg #[.int .i64 0, .slice none 0 0, .slice none 0 0]], []⟩ 8 (by kernel_rfl) (by kernel_rfl) (by kernel_rfl) (by kernel_rfl)) ?_
  intro W base args ds gs before hval0 hW hcnd hsz0 _
  have hval : ∀ (j : Nat) t v, Try.f5.params[j]? = some t → args[j]? = some v → Value.okWide Try.prog W .any base t v := hval0
  clear hval0
  have hsz : (DataW.weightsEach Try.prog (Try.f5.params.toList ++ Rows.equalTogetherSpec.plain.varTypes Try.prog) (ds ++ gs)).all (· ≤ reachBytes) = true := hsz0
  clear hsz0
  have hW' := hW
  obtain ⟨p, q, hA0, hV, rfl, hfz, hnd⟩ := hW
  have hA : DataW.TrodAll enc Try.prog W 0 (fun _ => true) true Try.f5.params.toList args.toList ds p := hA0
  rw [Try.params5] at hA hval hsz
  obtain ⟨v0, vs0, d0, ds0, p0, q0, hargs, rfl, rfl, h0, r0⟩ := trodAll_cons hA
  obtain ⟨v1, vs1, d1, ds1, p1, q1, rfl, rfl, rfl, h1, r1⟩ := trodAll_cons r0
  obtain ⟨rfl, rfl, rfl⟩ := trodAll_nil r1
  obtain rfl : args = #[v0, v1] := by cases args; simp_all
  obtain ⟨rfl, rfl⟩ := trodVars_none hV
  obtain ⟨a0, x0, n0, w0, dk0, dn0, da0, e0, y0, z0⟩ := open_auto (hval 0 25 v0 rfl rfl) h0
  have b0 := auto_bounds hsz (j := 0) rfl (by rw [e0]; rfl) y0 z0
  have g0 : ∀ x ∈ p0, x.block < W.heap.size := fun x hx => hW'.lt x (by simp [hx])
  obtain ⟨a1, x1, n1, w1, dk1, dn1, da1, e1, y1, z1⟩ := open_auto (hval 1 25 v1 rfl rfl) h1
  have b1 := auto_bounds hsz (j := 1) rfl (by rw [e1]; rfl) y1 z1
  have g1 : ∀ x ∈ p1, x.block < W.heap.size := fun x hx => hW'.lt x (by simp [hx])
  clear hA0
  refine (walk v0 a0 v1 a1 W x0 n0 b0.1 b0.2 x1 n1 b1.1 b1.2).mono fun e W' ⟨he, bel⟩ => ?_
  subst he
  exact ⟨_, rfl, _, _, _, [], _, [], hW', trodAll_mk1 (shut_bool Try.underlying4 _), (trodAll_cons_mk (Below.trod Try.laidOut (by kernel_rfl) (of_decide_eq_true (by kernel_rfl)) h0 bel g0) (trodAll_cons_mk (Below.trod Try.laidOut (by kernel_rfl) (of_decide_eq_true (by kernel_rfl)) h1 bel g1) trodAll_mk0)), rfl, bel.frame _, fun h => by cases h⟩

theorem over : Rows.equalTogetherRow.holds Try.pinned (OpenSpec.ofChange Rows.equalTogetherSpec) :=
  OpenClaim.holds_of_wide 5 Try.f5 rfl rfl rfl rfl rfl rfl rfl ⟨rfl, rfl, rfl, rfl, rfl⟩ rfl rfl rfl rfl rfl (by kernel_rfl) Try.func5 (by kernel_rfl)
    (of_decide_eq_true (by kernel_rfl)) (by unfold Func.isWrapper; first | (rw [if_pos (by decide +kernel)]; kernel_rfl) | (rw [if_neg (by decide +kernel)]; exact ⟨rfl, rfl⟩))
    (fun os started H enc _ => lifted os started H enc)

end Go.Proofs.Ytceoceecgekkjaa.equalTogether
namespace Go.Proofs.Ytceoceecgekkjaa
/-- The given statement. -/
theorem equalTogether_holds : Rows.EqualTogetherSaid := equalTogether.over
end Go.Proofs.Ytceoceecgekkjaa
