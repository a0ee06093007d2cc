/- Proved: eggboxlaw13.TransComposes answers true at every number n, any two transformations' data s and t and every number m (P1303): trans.Identity, trans.Compose and trans.Power answer what the document's answer, with the same error. No condition. -/
import Derived.Test.YthglficjhgpegaaCe
import Derived.Test.YthglficjhgpegaaCd
namespace Go.Proofs.Ythglficjhgpegaa.transComposes
open Go Go.ChangeShapes Go.WideShapes Go.ChangeAt Go.RowKit Go.Lib
open Go.ChangeMaps (open_string shut_string)
set_option linter.unusedVariables false

set_option maxHeartbeats 16000000 in
set_option maxRecDepth 100000 in
theorem walk (a0 : Int) (N1 : Int) (g1 : Nat → Nat) (N2 : Int) (g2 : Nat → Nat) (a3 : Nat) (W : World) (h0 : I64 a0) (x1 : W64 g1) (i1 : I64 N1) (x2 : W64 g2) (i2 : I64 N2) (h3 : a3 < 18446744073709551616) :
    Calls Try.prog 5 #[.int .i64 a0, .agg (trC N1 g1), .agg (trC N2 g2), .int .u64 (a3 : Int)] W fun e w' => e = .returned (.bool true) ∧ Below W.heap.size W w' := by
  obtain ⟨M1, f1, e1, q1⟩ := idV_two a0
  obtain ⟨M2, f2, e2, q2⟩ := cmV_two N1 g1 N2 g2
  obtain ⟨M3, f3, e3, q3⟩ := pwV_two N2 g2 a3
  have HI : Hid (∀ w, Calls Try.prog 28 #[.int .i64 a0] w fun e w' => e = .returned (.tuple #[.agg (trC M1 f1), .int .i64 e1]) ∧ Below w.heap.size w w') := fun w => by
    have := identity_any a0 w
    rw [q1] at this
    exact this
  have HJ : Hid (∀ w, Calls Try.prog 31 #[.int .i64 a0] w fun e w' => e = .returned (.tuple #[.agg (trC M1 f1), .int .i64 e1]) ∧ Below w.heap.size w w') := fun w => by
    have := ridentity_any a0 w
    rw [q1] at this
    exact this
  have HC : Hid (∀ w, Calls Try.prog 29 #[.agg (trC N1 g1), .agg (trC N2 g2)] w fun e w' => e = .returned (.tuple #[.agg (trC M2 f2), .int .i64 e2]) ∧ Below w.heap.size w w') := fun w => by
    have := compose_any N1 g1 x1 N2 g2 x2 w
    rw [q2] at this
    exact this
  have HD : Hid (∀ w, Calls Try.prog 32 #[.agg (trC N1 g1), .agg (trC N2 g2)] w fun e w' => e = .returned (.tuple #[.agg (trC M2 f2), .int .i64 e2]) ∧ Below w.heap.size w w') := fun w => by
    have := rcompose_any N1 g1 x1 N2 g2 x2 w
    rw [q2] at this
    exact this
  have HP : Hid (∀ w, Calls Try.prog 30 #[.agg (trC N2 g2), .int .u64 (a3 : Int)] w fun e w' => e = .returned (.tuple #[.agg (trC M3 f3), .int .i64 e3]) ∧ Below w.heap.size w w') := fun w => by
    have := power_any N2 g2 x2 a3 h3 w
    rw [q3] at this
    exact this
  have HQ : Hid (∀ w, Calls Try.prog 33 #[.agg (trC N2 g2), .int .u64 (a3 : Int)] w fun e w' => e = .returned (.tuple #[.agg (trC M3 f3), .int .i64 e3]) ∧ Below w.heap.size w w') := fun w => by
    have := rpower_any N2 g2 x2 a3 h3 w
    rw [q3] at this
    exact this
  have s1 := same2_refl 7 M1 f1
  have s2 := same2_refl 7 M2 f2
  have s3 := same2_refl 7 M3 f3
  clear q1 q2 q3 x1 i1 x2 i2 h0 h3
  have HK1 : Hid (KG [(W.heap.size + 1, N2, g2), (W.heap.size, N1, g1)] W ((W.alloc (.cells (trC N1 g1) 26)).alloc (.cells (trC N2 g2) 26))) := (by
      have h1 : KG [] W W := ⟨fun p hp => by simp at hp, Below.refl _ _⟩
      have h2 := (h1.new N1 g1).new N2 g2
      rw [World.size_alloc] at h2
      exact h2)
  go_enter Try.func5, Try.ntmps5
  go_wp2_with (first
    | (refine wg_load rfl rfl (HK1.out.get (b := W.heap.size + 1) (N := N2) (g := g2) (by simp)) rfl ?_)
    | (refine wg_load rfl rfl (HK1.out.get (b := W.heap.size) (N := N1) (g := g1) (by simp)) rfl ?_)
    | (refine wg_eq rfl rfl rfl rfl ?_)
    | (go_at_call 12; refine (num13_any _ _).mono ?_; rintro e wn ⟨rfl, rfl⟩))
  refine (HI.out _).mono ?_
  rintro e w2 ⟨rfl, hB⟩
  have HJ2 : Hid (KG [(W.heap.size + 1, N2, g2), (W.heap.size, N1, g1)] W w2) := HK1.out.call hB
  clear hB
  have hst := st_trNewG w2 M1 f1
  have HK2 : Hid (KG [(w2.heap.size, M1, f1), (W.heap.size + 1, N2, g2), (W.heap.size, N1, g1)] W (w2.alloc (.cells (trC M1 f1) 26))) := HJ2.out.new _ _
  clear HK1 HJ2
  go_wp2_with (first
    | (refine wg_load rfl rfl (HK2.out.get (b := w2.heap.size) (N := M1) (g := f1) (by simp)) rfl ?_)
    | (refine wg_load rfl rfl (HK2.out.get (b := W.heap.size + 1) (N := N2) (g := g2) (by simp)) rfl ?_)
    | (refine wg_load rfl rfl (HK2.out.get (b := W.heap.size) (N := N1) (g := g1) (by simp)) rfl ?_)
    | (refine wg_eq rfl rfl rfl rfl ?_)
    | (go_at_call 12; refine (num13_any _ _).mono ?_; rintro e wn ⟨rfl, rfl⟩))
  clear hst
  refine (HC.out _).mono ?_
  rintro e w3 ⟨rfl, hB⟩
  have HJ3 : Hid (KG [(w2.heap.size, M1, f1), (W.heap.size + 1, N2, g2), (W.heap.size, N1, g1)] W w3) := HK2.out.call hB
  clear hB
  have hst := st_trNewG w3 M2 f2
  have HK3 : Hid (KG [(w3.heap.size, M2, f2), (w2.heap.size, M1, f1), (W.heap.size + 1, N2, g2), (W.heap.size, N1, g1)] W (w3.alloc (.cells (trC M2 f2) 26))) := HJ3.out.new _ _
  clear HK2 HJ3
  go_wp2_with (first
    | (refine wg_load rfl rfl (HK3.out.get (b := w3.heap.size) (N := M2) (g := f2) (by simp)) rfl ?_)
    | (refine wg_load rfl rfl (HK3.out.get (b := w2.heap.size) (N := M1) (g := f1) (by simp)) rfl ?_)
    | (refine wg_load rfl rfl (HK3.out.get (b := W.heap.size + 1) (N := N2) (g := g2) (by simp)) rfl ?_)
    | (refine wg_load rfl rfl (HK3.out.get (b := W.heap.size) (N := N1) (g := g1) (by simp)) rfl ?_)
    | (refine wg_eq rfl rfl rfl rfl ?_)
    | (go_at_call 12; refine (num13_any _ _).mono ?_; rintro e wn ⟨rfl, rfl⟩))
  clear hst
  refine (HP.out _).mono ?_
  rintro e w4 ⟨rfl, hB⟩
  have HJ4 : Hid (KG [(w3.heap.size, M2, f2), (w2.heap.size, M1, f1), (W.heap.size + 1, N2, g2), (W.heap.size, N1, g1)] W w4) := HK3.out.call hB
  clear hB
  have hst := st_trNewG w4 M3 f3
  have HK4 : Hid (KG [(w4.heap.size, M3, f3), (w3.heap.size, M2, f2), (w2.heap.size, M1, f1), (W.heap.size + 1, N2, g2), (W.heap.size, N1, g1)] W (w4.alloc (.cells (trC M3 f3) 26))) := HJ4.out.new _ _
  clear HK3 HJ4
  go_wp2_with (first
    | (refine wg_load rfl rfl (HK4.out.get (b := w4.heap.size) (N := M3) (g := f3) (by simp)) rfl ?_)
    | (refine wg_load rfl rfl (HK4.out.get (b := w3.heap.size) (N := M2) (g := f2) (by simp)) rfl ?_)
    | (refine wg_load rfl rfl (HK4.out.get (b := w2.heap.size) (N := M1) (g := f1) (by simp)) rfl ?_)
    | (refine wg_load rfl rfl (HK4.out.get (b := W.heap.size + 1) (N := N2) (g := g2) (by simp)) rfl ?_)
    | (refine wg_load rfl rfl (HK4.out.get (b := W.heap.size) (N := N1) (g := g1) (by simp)) rfl ?_)
    | (refine wg_eq rfl rfl rfl rfl ?_)
    | (go_at_call 12; refine (num13_any _ _).mono ?_; rintro e wn ⟨rfl, rfl⟩))
  clear hst
  refine (HJ.out _).mono ?_
  rintro e w5 ⟨rfl, hB⟩
  have HJ5 : Hid (KG [(w4.heap.size, M3, f3), (w3.heap.size, M2, f2), (w2.heap.size, M1, f1), (W.heap.size + 1, N2, g2), (W.heap.size, N1, g1)] W w5) := HK4.out.call hB
  clear hB
  have hst := st_trNewG w5 M1 f1
  have HK5 : Hid (KG [(w5.heap.size, M1, f1), (w4.heap.size, M3, f3), (w3.heap.size, M2, f2), (w2.heap.size, M1, f1), (W.heap.size + 1, N2, g2), (W.heap.size, N1, g1)] W (w5.alloc (.cells (trC M1 f1) 26))) := HJ5.out.new _ _
  clear HK4 HJ5
  go_wp2_with (first
    | (refine wg_load rfl rfl (HK5.out.get (b := w5.heap.size) (N := M1) (g := f1) (by simp)) rfl ?_)
    | (refine wg_load rfl rfl (HK5.out.get (b := w4.heap.size) (N := M3) (g := f3) (by simp)) rfl ?_)
    | (refine wg_load rfl rfl (HK5.out.get (b := w3.heap.size) (N := M2) (g := f2) (by simp)) rfl ?_)
    | (refine wg_load rfl rfl (HK5.out.get (b := w2.heap.size) (N := M1) (g := f1) (by simp)) rfl ?_)
    | (refine wg_load rfl rfl (HK5.out.get (b := W.heap.size + 1) (N := N2) (g := g2) (by simp)) rfl ?_)
    | (refine wg_load rfl rfl (HK5.out.get (b := W.heap.size) (N := N1) (g := g1) (by simp)) rfl ?_)
    | (refine wg_eq rfl rfl rfl rfl ?_)
    | (go_at_call 12; refine (num13_any _ _).mono ?_; rintro e wn ⟨rfl, rfl⟩))
  clear hst
  refine (HD.out _).mono ?_
  rintro e w6 ⟨rfl, hB⟩
  have HJ6 : Hid (KG [(w5.heap.size, M1, f1), (w4.heap.size, M3, f3), (w3.heap.size, M2, f2), (w2.heap.size, M1, f1), (W.heap.size + 1, N2, g2), (W.heap.size, N1, g1)] W w6) := HK5.out.call hB
  clear hB
  have hst := st_trNewG w6 M2 f2
  have HK6 : Hid (KG [(w6.heap.size, M2, f2), (w5.heap.size, M1, f1), (w4.heap.size, M3, f3), (w3.heap.size, M2, f2), (w2.heap.size, M1, f1), (W.heap.size + 1, N2, g2), (W.heap.size, N1, g1)] W (w6.alloc (.cells (trC M2 f2) 26))) := HJ6.out.new _ _
  clear HK5 HJ6
  go_wp2_with (first
    | (refine wg_load rfl rfl (HK6.out.get (b := w6.heap.size) (N := M2) (g := f2) (by simp)) rfl ?_)
    | (refine wg_load rfl rfl (HK6.out.get (b := w5.heap.size) (N := M1) (g := f1) (by simp)) rfl ?_)
    | (refine wg_load rfl rfl (HK6.out.get (b := w4.heap.size) (N := M3) (g := f3) (by simp)) rfl ?_)
    | (refine wg_load rfl rfl (HK6.out.get (b := w3.heap.size) (N := M2) (g := f2) (by simp)) rfl ?_)
    | (refine wg_load rfl rfl (HK6.out.get (b := w2.heap.size) (N := M1) (g := f1) (by simp)) rfl ?_)
    | (refine wg_load rfl rfl (HK6.out.get (b := W.heap.size + 1) (N := N2) (g := g2) (by simp)) rfl ?_)
    | (refine wg_load rfl rfl (HK6.out.get (b := W.heap.size) (N := N1) (g := g1) (by simp)) rfl ?_)
    | (refine wg_eq rfl rfl rfl rfl ?_)
    | (go_at_call 12; refine (num13_any _ _).mono ?_; rintro e wn ⟨rfl, rfl⟩))
  clear hst
  refine (HQ.out _).mono ?_
  rintro e w7 ⟨rfl, hB⟩
  have HJ7 : Hid (KG [(w6.heap.size, M2, f2), (w5.heap.size, M1, f1), (w4.heap.size, M3, f3), (w3.heap.size, M2, f2), (w2.heap.size, M1, f1), (W.heap.size + 1, N2, g2), (W.heap.size, N1, g1)] W w7) := HK6.out.call hB
  clear hB
  have hst := st_trNewG w7 M3 f3
  have HK7 : Hid (KG [(w7.heap.size, M3, f3), (w6.heap.size, M2, f2), (w5.heap.size, M1, f1), (w4.heap.size, M3, f3), (w3.heap.size, M2, f2), (w2.heap.size, M1, f1), (W.heap.size + 1, N2, g2), (W.heap.size, N1, g1)] W (w7.alloc (.cells (trC M3 f3) 26))) := HJ7.out.new _ _
  clear HK6 HJ7
  go_wp2_with (first
    | (refine wg_load rfl rfl (HK7.out.get (b := w7.heap.size) (N := M3) (g := f3) (by simp)) rfl ?_)
    | (refine wg_load rfl rfl (HK7.out.get (b := w6.heap.size) (N := M2) (g := f2) (by simp)) rfl ?_)
    | (refine wg_load rfl rfl (HK7.out.get (b := w5.heap.size) (N := M1) (g := f1) (by simp)) rfl ?_)
    | (refine wg_load rfl rfl (HK7.out.get (b := w4.heap.size) (N := M3) (g := f3) (by simp)) rfl ?_)
    | (refine wg_load rfl rfl (HK7.out.get (b := w3.heap.size) (N := M2) (g := f2) (by simp)) rfl ?_)
    | (refine wg_load rfl rfl (HK7.out.get (b := w2.heap.size) (N := M1) (g := f1) (by simp)) rfl ?_)
    | (refine wg_load rfl rfl (HK7.out.get (b := W.heap.size + 1) (N := N2) (g := g2) (by simp)) rfl ?_)
    | (refine wg_load rfl rfl (HK7.out.get (b := W.heap.size) (N := N1) (g := g1) (by simp)) rfl ?_)
    | (refine wg_eq rfl rfl rfl rfl ?_)
    | (go_at_call 12; refine (num13_any _ _).mono ?_; rintro e wn ⟨rfl, rfl⟩))
  refine (knows13_any _).mono ?_
  rintro e w8 ⟨rfl, hB⟩
  have HK8 : Hid (KG [(w7.heap.size, M3, f3), (w6.heap.size, M2, f2), (w5.heap.size, M1, f1), (w4.heap.size, M3, f3), (w3.heap.size, M2, f2), (w2.heap.size, M1, f1), (W.heap.size + 1, N2, g2), (W.heap.size, N1, g1)] W w8) := HK7.out.call hB
  clear hB HK7
  go_wp2_with (first
    | (refine wg_load rfl rfl (HK8.out.get (b := w7.heap.size) (N := M3) (g := f3) (by simp)) rfl ?_)
    | (refine wg_load rfl rfl (HK8.out.get (b := w6.heap.size) (N := M2) (g := f2) (by simp)) rfl ?_)
    | (refine wg_load rfl rfl (HK8.out.get (b := w5.heap.size) (N := M1) (g := f1) (by simp)) rfl ?_)
    | (refine wg_load rfl rfl (HK8.out.get (b := w4.heap.size) (N := M3) (g := f3) (by simp)) rfl ?_)
    | (refine wg_load rfl rfl (HK8.out.get (b := w3.heap.size) (N := M2) (g := f2) (by simp)) rfl ?_)
    | (refine wg_load rfl rfl (HK8.out.get (b := w2.heap.size) (N := M1) (g := f1) (by simp)) rfl ?_)
    | (refine wg_load rfl rfl (HK8.out.get (b := W.heap.size + 1) (N := N2) (g := g2) (by simp)) rfl ?_)
    | (refine wg_load rfl rfl (HK8.out.get (b := W.heap.size) (N := N1) (g := g1) (by simp)) rfl ?_)
    | (refine wg_eq rfl rfl rfl rfl ?_)
    | (go_at_call 12; refine (num13_any _ _).mono ?_; rintro e wn ⟨rfl, rfl⟩))
  go_ret
  exact ⟨rfl, HK8.out.below⟩

/-! ### The row's step -/
theorem own : ownKnob Try.prog.godebug = none := by kernel_rfl
set_option maxRecDepth 100000 in
theorem lifted (os : Os) (started : os.Started) (H : Type) (enc : TypeId × Value → H) :
    ReturnsInHanded {} Try.checked os 5 .any (Rows.transComposesSpec.pre6 enc Try.prog Try.f5 Rows.transComposesRow.domain false) (Rows.transComposesSpec.post enc Try.prog Try.f5 false true false false) := by
  refine returnsInHanded_of_change_sized (C := Try.checked) own started (by kernel_rfl) Try.func5
    (ChangeSpec.witness6 (enc := enc) (C := Try.checked) false ⟨#[], #[.int .i64 0, .agg #[.int .i64 0, .int .u64 0, .int .u64 0, .int .u64 0, .int .u64 0, .int .u64 0, .int .u64 0, .int .u64 0], .agg #[.int .i64 0, .int .u64 0, .int .u64 0, .int .u64 0, .int .u64 0, .int .u64 0, .int .u64 0, .int .u64 0], .int .u64 0], []⟩ 8 (by kernel_rfl) (by kernel_rfl) (by kernel_rfl) (by kernel_rfl)) ?_
  intro W base args ds gs before hval0 hW hcnd hsz0 _
  have hval : ∀ (j : Nat) t v, Try.f5.params[j]? = some t → args[j]? = some v → Value.okWide Try.prog W .any base t v := hval0
  clear hval0
  have hsz : (DataW.weightsEach Try.prog (Try.f5.params.toList ++ Rows.transComposesSpec.plain.varTypes Try.prog) (ds ++ gs)).all (· ≤ reachBytes) = true := hsz0
  clear hsz0
  have hW' := hW
  obtain ⟨p, q, hA0, hV, rfl, hfz, hnd⟩ := hW
  have hA : DataW.TrodAll enc Try.prog W 0 (fun _ => true) true Try.f5.params.toList args.toList ds p := hA0
  rw [Try.params5] at hA hval hsz
  obtain ⟨v0, vs0, d0, ds0, p0, q0, hargs, rfl, rfl, h0, r0⟩ := trodAll_cons hA
  obtain ⟨v1, vs1, d1, ds1, p1, q1, rfl, rfl, rfl, h1, r1⟩ := trodAll_cons r0
  obtain ⟨v2, vs2, d2, ds2, p2, q2, rfl, rfl, rfl, h2, r2⟩ := trodAll_cons r1
  obtain ⟨v3, vs3, d3, ds3, p3, q3, rfl, rfl, rfl, h3, r3⟩ := trodAll_cons r2
  obtain ⟨rfl, rfl, rfl⟩ := trodAll_nil r3
  obtain rfl : args = #[v0, v1, v2, v3] := by cases args; simp_all
  obtain ⟨rfl, rfl⟩ := trodVars_none hV
  obtain ⟨a0, rfl, rfl, rfl, w0⟩ := open_int Try.underlying3 (hval 0 3 v0 rfl rfl) h0
  obtain ⟨N1, a1, rfl, rfl, rfl, w1, x1⟩ := open_tr (hval 1 26 v1 rfl rfl) h1
  obtain ⟨N2, a2, rfl, rfl, rfl, w2, x2⟩ := open_tr (hval 2 26 v2 rfl rfl) h2
  obtain ⟨b3, rfl, rfl, rfl, w3⟩ := open_int Try.underlying23 (hval 3 23 v3 rfl rfl) h3
  obtain ⟨a3, rfl, x3⟩ := u64_of w3
  clear hA0
  refine (walk a0 N1 a1 N2 a2 a3 W (i64_of w0) x1 (i64_of w1) x2 (i64_of w2) x3).mono fun e W' ⟨he, bel⟩ => ?_
  subst he
  exact ⟨_, rfl, _, _, _, [], _, [], hW', trodAll_mk1 (shut_bool Try.underlying4 _), (trodAll_cons_mk (shut_int Try.underlying3 w0) (trodAll_cons_mk (shut_tr w1 x1) (trodAll_cons_mk (shut_tr w2 x2) (trodAll_cons_mk (shut_int Try.underlying23 w3) trodAll_mk0)))), rfl, bel.frame _, fun h => by cases h⟩

theorem over : Rows.transComposesRow.holds Try.pinned (OpenSpec.ofChange Rows.transComposesSpec) :=
  OpenClaim.holds_of_wide 5 Try.f5 rfl rfl rfl rfl rfl rfl rfl ⟨rfl, rfl, rfl, rfl, rfl⟩ rfl rfl rfl rfl rfl (by kernel_rfl) Try.func5 (by kernel_rfl)
    (of_decide_eq_true (by kernel_rfl)) (by unfold Func.isWrapper; first | (rw [if_pos (by decide +kernel)]; kernel_rfl) | (rw [if_neg (by decide +kernel)]; exact ⟨rfl, rfl⟩))
    (fun os started H enc _ => lifted os started H enc)

end Go.Proofs.Ythglficjhgpegaa.transComposes
namespace Go.Proofs.Ythglficjhgpegaa
/-- The given statement. -/
theorem transComposes_holds : Rows.TransComposesSaid := transComposes.over
end Go.Proofs.Ythglficjhgpegaa
