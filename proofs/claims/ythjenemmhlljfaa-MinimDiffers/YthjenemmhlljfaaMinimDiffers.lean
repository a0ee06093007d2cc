/- Proved: eggboxlaw10.MinimDiffers answers true at every automaton's data a and all s, t (P10.4): minim.Differ answers what the document's does: the least word that tells the two states apart, and whether there is one; its arguments read behind the call as before. -/
import Derived.Test.YthjenemmhlljfaaJu
import Derived.Test.YthjenemmhlljfaaMp
import Derived.Test.YthjenemmhlljfaaLo
namespace Go.Proofs.Ythjenemmhlljfaa.minimDiffers
open Go Go.ChangeShapes Go.WideShapes Go.ChangeAt Go.RowKit Go.Lib
open Go.ChangeMaps (open_string shut_string)
set_option linter.unusedVariables false

set_option maxHeartbeats 8000000 in
set_option maxRecDepth 100000 in
theorem walk (va : Value) (A : Aut) (s t : Int) (w : World) (ha : AR w va A) (hna : NilOk va) (hma : (A.nx.length + 2) * 8 ≤ 140737488355328) (hma2 : A.ac.length ≤ 140737488355328) :
    Calls Try.prog 5 #[va, .int .i64 s, .int .i64 t] w fun e w' => e = .returned (.bool true) ∧ Below w.heap.size w w' := by
  obtain ⟨an, cn, aa, ca, ea, _, _⟩ := ha.is
  have HLA : Hid (∀ y, Below w.heap.size w y → Calls Try.prog 9 #[va] y (LQ A y)) := fun y hy => lentAuto_any va A y (ha.stay hy) hna hma hma2
  obtain ⟨S, F, E, q1, q2⟩ : ∃ (S : ByteArray) (F : Bool) (E : Int), (∀ y x, AR y x A → Calls Try.prog 24 #[x, .int .i64 s, .int .i64 t] y fun e w' => e = .returned (.tuple #[.string S, .bool F, .int .i64 E]) ∧ Below y.heap.size y w') ∧ (∀ y x, AR y x A → Calls Try.prog 25 #[x, .int .i64 s, .int .i64 t] y fun e w' => e = .returned (.tuple #[.string S, .bool F, .int .i64 E]) ∧ Below y.heap.size y w') :=
    ⟨apS (dfO A s t), apF (dfO A s t), dfE A s t, fun y x h => (mdiffer_any x A y h (by omega) (by omega) s t).mono fun e w' q => ⟨q.1, q.2.2⟩, fun y x h => rdiffer_any x A y h (by omega) (by omega) s t⟩
  have C1 : Hid (∀ y x, AR y x A → Calls Try.prog 24 #[x, .int .i64 s, .int .i64 t] y fun e w' => e = .returned (.tuple #[.string S, .bool F, .int .i64 E]) ∧ Below y.heap.size y w') := q1
  have C2 : Hid (∀ y x, AR y x A → Calls Try.prog 25 #[x, .int .i64 s, .int .i64 t] y fun e w' => e = .returned (.tuple #[.string S, .bool F, .int .i64 E]) ∧ Below y.heap.size y w') := q2
  have HAA : Hid (∀ y, Below w.heap.size w y → AR y va A) := fun y hy => ha.stay hy
  clear q1 q2 hna hma hma2 ha
  subst ea
  have HRV : Hid (RowAt (w.alloc (.cells #[.int .i64 A.k, .slice an A.nx.length cn, .slice aa A.ac.length ca] 25)) w.heap.size #[.int .i64 A.k, .slice an A.nx.length cn, .slice aa A.ac.length ca]) := RowAt.last _ _ _
  go_enter Try.func5, Try.ntmps5
  go_wp2_with fail
  refine (HLA.out _ (below_new _ _)).mono ?_
  rintro e w1 ⟨g, gc, xa, xc, rfl, hi1, ho1, hb1⟩
  have HB1 : Hid (Below w.heap.size w w1) := go_on (below_new _ _) hb1
  have HXA : Hid (AR w1 (.agg #[.int .i64 A.k, .slice (some ⟨g, 0, none⟩) A.nx.length gc, .slice xa A.ac.length xc]) A) := ⟨_, _, _, _, rfl, lent_sr hi1, own_sr ho1⟩
  have HR1 : Hid (RowAt w1 w.heap.size #[.int .i64 A.k, .slice an A.nx.length cn, .slice aa A.ac.length ca]) := HRV.out.stay hb1
  clear hi1 ho1 hb1 HLA
  go_wp2_with fail
  refine (C1.out _ _ HXA.out).mono ?_
  rintro e w2 ⟨rfl, hb2⟩
  have HB2 : Hid (Below w.heap.size w w2) := go_on HB1.out hb2
  have cs := (HR1.out.stay hb2).cell
  clear hb2
  go_wp2_with fail
  refine (C2.out _ _ (HAA.out _ HB2.out)).mono ?_
  rintro e w3 ⟨rfl, hb3⟩
  have HB3 : Hid (Below w.heap.size w w3) := go_on HB2.out hb3
  clear hb3 cs
  go_wp2_with (first
    | (go_at_call 15; refine (num10_any _ _).mono ?_; rintro e yn ⟨rfl, hyn⟩; subst yn)
    | (go_at_call 18; refine (live10_any _).mono ?_; rintro e y6 ⟨rfl, hy6⟩; have HY6 : Hid (Below w.heap.size w y6) := go_on HB3.out hy6; clear hy6))
  go_ret
  exact ⟨rfl, HY6.out⟩

/-! ### The row's step -/
theorem own : ownKnob Try.prog.godebug = none := by kernel_rfl
set_option maxRecDepth 100000 in
theorem lifted (os : Os) (started : os.Started) (H : Type) (enc : TypeId × Value → H) :
    ReturnsInHanded {} Try.checked os 5 .any (Rows.minimDiffersSpec.pre6 enc Try.prog Try.f5 Rows.minimDiffersRow.domain false) (Rows.minimDiffersSpec.post enc Try.prog Try.f5 false true false false) := by
  refine returnsInHanded_of_change_sized (C := Try.checked) own started (by kernel_rfl) Try.func5
    (ChangeSpec.witness6 (enc := enc) (C := Try.checked) false ⟨#[], #[.agg #[.int .i64 0, .slice none 0 0, .slice none 0 0], .int .i64 0, .int .i64 0], []⟩ 8 (by kernel_rfl) (by kernel_rfl) (by kernel_rfl) (by kernel_rfl)) ?_
  intro W base args ds gs before hval0 hW hcnd hsz0 _
  have hval : ∀ (j : Nat) t v, Try.f5.params[j]? = some t → args[j]? = some v → Value.okWide Try.prog W .any base t v := hval0
  clear hval0
  have hsz : (DataW.weightsEach Try.prog (Try.f5.params.toList ++ Rows.minimDiffersSpec.plain.varTypes Try.prog) (ds ++ gs)).all (· ≤ reachBytes) = true := hsz0
  clear hsz0
  have hW' := hW
  obtain ⟨p, q, hA0, hV, rfl, hfz, hnd⟩ := hW
  have hA : DataW.TrodAll enc Try.prog W 0 (fun _ => true) true Try.f5.params.toList args.toList ds p := hA0
  rw [Try.params5] at hA hval hsz
  obtain ⟨v0, vs0, d0, ds0, p0, q0, hargs, rfl, rfl, h0, r0⟩ := trodAll_cons hA
  obtain ⟨v1, vs1, d1, ds1, p1, q1, rfl, rfl, rfl, h1, r1⟩ := trodAll_cons r0
  obtain ⟨v2, vs2, d2, ds2, p2, q2, rfl, rfl, rfl, h2, r2⟩ := trodAll_cons r1
  obtain ⟨rfl, rfl, rfl⟩ := trodAll_nil r2
  obtain rfl : args = #[v0, v1, v2] := by cases args; simp_all
  obtain ⟨rfl, rfl⟩ := trodVars_none hV
  obtain ⟨a0, x0, n0, w0, dk0, dn0, da0, e0, y0, z0⟩ := open_auto (hval 0 25 v0 rfl rfl) h0
  have b0 := auto_bounds hsz (j := 0) rfl (by rw [e0]; rfl) y0 z0
  have g0 : ∀ x ∈ p0, x.block < W.heap.size := fun x hx => hW'.lt x (by simp [hx])
  obtain ⟨a1, rfl, rfl, rfl, w1⟩ := open_int Try.underlying3 (hval 1 3 v1 rfl rfl) h1
  obtain ⟨a2, rfl, rfl, rfl, w2⟩ := open_int Try.underlying3 (hval 2 3 v2 rfl rfl) h2
  clear hA0
  refine (walk v0 a0 a1 a2 W x0 n0 b0.1 b0.2  ).mono fun e W' ⟨he, bel⟩ => ?_
  subst he
  exact ⟨_, rfl, _, _, _, [], _, [], hW', trodAll_mk1 (shut_bool Try.underlying4 _), (trodAll_cons_mk (Below.trod Try.laidOut (by kernel_rfl) (of_decide_eq_true (by kernel_rfl)) h0 bel g0) (trodAll_cons_mk (shut_int Try.underlying3 w1) (trodAll_cons_mk (shut_int Try.underlying3 w2) trodAll_mk0))), rfl, bel.frame _, fun h => by cases h⟩

theorem over : Rows.minimDiffersRow.holds Try.pinned (OpenSpec.ofChange Rows.minimDiffersSpec) :=
  OpenClaim.holds_of_wide 5 Try.f5 rfl rfl rfl rfl rfl rfl rfl ⟨rfl, rfl, rfl, rfl, rfl⟩ rfl rfl rfl rfl rfl (by kernel_rfl) Try.func5 (by kernel_rfl)
    (of_decide_eq_true (by kernel_rfl)) (by unfold Func.isWrapper; first | (rw [if_pos (by decide +kernel)]; kernel_rfl) | (rw [if_neg (by decide +kernel)]; exact ⟨rfl, rfl⟩))
    (fun os started H enc _ => lifted os started H enc)

end Go.Proofs.Ythjenemmhlljfaa.minimDiffers
namespace Go.Proofs.Ythjenemmhlljfaa
/-- The given statement. -/
theorem minimDiffers_holds : Rows.MinimDiffersSaid := minimDiffers.over
end Go.Proofs.Ythjenemmhlljfaa
