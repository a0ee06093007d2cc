/- Proved: eggboxlaw17.GroupsNil answers true at all numbers e, i (P1701): no group, and one that Of did not make, answer as the document's no group does; Of and Orders of no monoid, and of one that nobody made, answer ErrArg and nothing; and the law's own group of two is as the law names it. No condition. -/
import Derived.Test.YtlohfeogaalfcaaGreatW4
import Derived.ProofKit
import Derived.OpenShut
import Derived.ShutString
import Derived.ChangeOld
import Derived.SizedLaws
namespace Go.Proofs.YtlohfeogaalfcaaGreat.groupsNil
open Go Go.ChangeShapes Go.WideShapes Go.ChangeAt Go.RowKit Go.Lib
open Go.ChangeMaps (open_string shut_string)
set_option linter.unusedVariables false
attribute [-instance] List.instBEq instBEqProd

theorem nom_new (w : World) : NoM (w.alloc (.cells #[.pointer none, .int .i64 0, .slice none 0 0, .slice none 0 0, .pointer none, .slice none 0 0, .slice none 0 0, .int .i64 0, .slice none 0 0, .int .i64 0, .slice none 0 0, .int .i64 0, .slice none 0 0] 61)) (.pointer (some ⟨w.heap.size, 0, none⟩)) :=
  .inr ⟨w.heap.size, rfl, by simp, (cell_of_row _ _ _ _ _ _ (heap_last w _)).trans rfl⟩

set_option maxHeartbeats 8000000 in
set_option maxRecDepth 100000 in
theorem walk (a0 a1 : Int) (W : World) :
    Calls Tryz.prog 5 #[.int .i64 a0, .int .i64 a1] W fun e w' => e = .returned (.bool true) ∧ Below W.heap.size W w' := by
  obtain ⟨w0, hw0⟩ : ∃ w0, w0 = W.alloc (.cells #[.pointer none, .slice none 0 0, .map none, .slice none 0 0, .slice none 0 0, .int .i64 0, .slice none 0 0] 53) := ⟨_, rfl⟩
  have HW0 : Hid (w0 = W.alloc (.cells #[.pointer none, .slice none 0 0, .map none, .slice none 0 0, .slice none 0 0, .int .i64 0, .slice none 0 0] 53)) := hw0
  have HB0 : Hid (Below W.heap.size W w0) := by show Below _ _ _; rw [hw0]; exact below_new _ _
  have HG0 : Hid (NoG w0 (.pointer (some ⟨W.heap.size, 0, none⟩))) := by show NoG _ _; rw [hw0]; exact .inr ⟨W.heap.size, rfl, heap_last _ _⟩
  have HNN : Hid (∀ y, NoM y (.pointer none)) := fun y => .inl rfl
  clear hw0
  go_enter Tryz.func5, Tryz.ntmps5
  go_wp2_with fail
  rw [← HW0.out]
  refine (of_none none a0 w0 (.inl rfl)).mono ?_
  rintro e w1 ⟨rfl, hb⟩
  have HB1 : Hid (Below W.heap.size W w1) := go_on HB0.out hb
  have HG1 : Hid (NoG w1 (.pointer (some ⟨W.heap.size, 0, none⟩))) := HG0.out.below hb
  clear hb
  go_wp2_with fail
  refine (of_none _ a0 _ (nom_new w1)).mono ?_
  rintro e w2 ⟨rfl, hb⟩
  have HB2 : Hid (Below W.heap.size W w2) := go_on (go_on HB1.out (below_new _ _)) hb
  have HG2 : Hid (NoG w2 (.pointer (some ⟨W.heap.size, 0, none⟩))) := (HG1.out.below (below_new _ _)).below hb
  clear hb
  go_wp2_with fail
  refine (orders_none none w2 (.inl rfl)).mono ?_
  rintro e w3 ⟨rfl, hb⟩
  have HB3 : Hid (Below W.heap.size W w3) := go_on HB2.out hb
  have HG3 : Hid (NoG w3 (.pointer (some ⟨W.heap.size, 0, none⟩))) := HG2.out.below hb
  clear hb
  go_wp2_with fail
  refine (orders_none _ _ (nom_new w3)).mono ?_
  rintro e w4 ⟨rfl, hb⟩
  have HB4 : Hid (Below W.heap.size W w4) := go_on (go_on HB3.out (below_new _ _)) hb
  have HG4 : Hid (NoG w4 (.pointer (some ⟨W.heap.size, 0, none⟩))) := (HG3.out.below (below_new _ _)).below hb
  have HN4 : Hid (∀ y, NoG y (.pointer none)) := fun y => .inl rfl
  clear hb
  go_wp2_with (first
    | (go_at_call_of 14 ([Value.pointer none, Value.pointer none, Value.int .i64 a1] : List Value); refine (alike_none (HN4.out w4) a1).mono ?_; rintro e w5 ⟨rfl, hb⟩; have HB5 : Hid (Below W.heap.size W w5) := go_on HB4.out hb; have HG5 : Hid (NoG w5 (.pointer (some ⟨W.heap.size, 0, none⟩))) := HG4.out.below hb; clear hb)
    | (go_at_call 14; refine (alike_none HG5.out a1).mono ?_; rintro e w6 ⟨rfl, hb⟩; have HB6 : Hid (Below W.heap.size W w6) := go_on HB5.out hb; have HG6 : Hid (NoG w6 (.pointer (some ⟨W.heap.size, 0, none⟩))) := HG5.out.below hb; clear hb)
    | (go_at_call 15; refine Calls.mono (nog_members (HN4.out _)) ?_; rintro en yn ⟨rfl, hyn⟩; subst yn)
    | (go_at_call 16; refine Calls.mono (nog_center HG6.out) ?_; rintro en yn ⟨rfl, hyn⟩; subst yn)
    | (go_at_call 17; refine Calls.mono (nog_derived (HN4.out _)) ?_; rintro en yn ⟨rfl, hyn⟩; subst yn)
    | (go_at_call 11; refine (num17_any _ _).mono ?_; rintro e yn ⟨rfl, hyn⟩; subst yn)
    | (go_at_call 21; refine (knows17_any _).mono ?_; rintro e w7 ⟨rfl, hb⟩; have HB7 : Hid (Below W.heap.size W w7) := go_on HB6.out hb; clear hb))
  go_ret
  exact ⟨rfl, HB7.out⟩


/-! ### The row's step -/
theorem own : ownKnob Tryz.prog.godebug = none := by kernel_rfl
set_option maxRecDepth 100000 in
theorem lifted (os : Os) (started : os.Started) (H : Type) (enc : TypeId × Value → H) :
    ReturnsInHanded {} Tryz.checked os 5 .any (Rows.groupsNilSpec.pre6 enc Tryz.prog Tryz.f5 Rows.groupsNilRow.domain false) (Rows.groupsNilSpec.post enc Tryz.prog Tryz.f5 false true false false) := by
  refine returnsInHanded_of_change_sized (C := Tryz.checked) own started (by kernel_rfl) Tryz.func5
    (ChangeSpec.witness6 (enc := enc) (C := Tryz.checked) false ⟨#[], #[.int .i64 0, .int .i64 0], []⟩ 8 (by kernel_rfl) (by kernel_rfl) (by kernel_rfl) (by kernel_rfl)) ?_
  intro W base args ds gs before hval0 hW hcnd hsz0 _
  have hval : ∀ (j : Nat) t v, Tryz.f5.params[j]? = some t → args[j]? = some v → Value.okWide Tryz.prog W .any base t v := hval0
  clear hval0
  have hsz : (DataW.weightsEach Tryz.prog (Tryz.f5.params.toList ++ Rows.groupsNilSpec.plain.varTypes Tryz.prog) (ds ++ gs)).all (· ≤ reachBytes) = true := hsz0
  clear hsz0
  have hW' := hW
  obtain ⟨p, q, hA0, hV, rfl, hfz, hnd⟩ := hW
  have hA : DataW.TrodAll enc Tryz.prog W 0 (fun _ => true) true Tryz.f5.params.toList args.toList ds p := hA0
  rw [Tryz.params5] at hA hval hsz
  obtain ⟨v0, vs0, d0, ds0, p0, q0, hargs, rfl, rfl, h0, r0⟩ := trodAll_cons hA
  obtain ⟨v1, vs1, d1, ds1, p1, q1, rfl, rfl, rfl, h1, r1⟩ := trodAll_cons r0
  obtain ⟨rfl, rfl, rfl⟩ := trodAll_nil r1
  obtain rfl : args = #[v0, v1] := by cases args; simp_all
  obtain ⟨rfl, rfl⟩ := trodVars_none hV
  obtain ⟨a0, rfl, rfl, rfl, w0⟩ := open_int Tryz.underlying3 (hval 0 3 v0 rfl rfl) h0
  obtain ⟨a1, rfl, rfl, rfl, w1⟩ := open_int Tryz.underlying3 (hval 1 3 v1 rfl rfl) h1
  clear hA0
  refine (walk a0 a1 W).mono fun e W' ⟨he, bel⟩ => ?_
  subst he
  exact ⟨_, rfl, _, _, _, [], _, [], hW', trodAll_mk1 (shut_bool Tryz.underlying4 _), (trodAll_cons_mk (shut_int Tryz.underlying3 w0) (trodAll_cons_mk (shut_int Tryz.underlying3 w1) trodAll_mk0)), rfl, bel.frame _, fun h => by cases h⟩

theorem over : Rows.groupsNilRow.holds Tryz.pinned (OpenSpec.ofChange Rows.groupsNilSpec) :=
  OpenClaim.holds_of_wide 5 Tryz.f5 rfl rfl rfl rfl rfl rfl rfl ⟨rfl, rfl, rfl, rfl, rfl⟩ rfl rfl rfl rfl rfl (by kernel_rfl) Tryz.func5 (by kernel_rfl)
    (of_decide_eq_true (by kernel_rfl)) (by unfold Func.isWrapper; first | (rw [if_pos (by decide +kernel)]; kernel_rfl) | (rw [if_neg (by decide +kernel)]; exact ⟨rfl, rfl⟩))
    (fun os started H enc _ => lifted os started H enc)

end Go.Proofs.YtlohfeogaalfcaaGreat.groupsNil
namespace Go.Proofs.YtlohfeogaalfcaaGreat
/-- The given statement. -/
theorem groupsNil_holds : Rows.GroupsNilSaid := groupsNil.over
end Go.Proofs.YtlohfeogaalfcaaGreat
