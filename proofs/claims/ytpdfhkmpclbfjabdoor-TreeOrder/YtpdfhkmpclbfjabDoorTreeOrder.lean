/- Proved: the card of eggboxlaw03.TreeOrder: it answers true at every three lists of nodes (P307), with tree.partsOf as the program's text lays it: tree.Compare is an order: of a list and itself it is 0, turned about it is the negative, 0 just of equal lists, and of three it is the same either way round; its arguments read behind the call as before. The card ties the variable to the pruned copy of the project that the seat holds. -/
import Derived.Test.YtpdfhkmpclbfjabDoorTh
import Derived.Test.YtpdfhkmpclbfjabDoorTc
import Derived.Test.YtpdfhkmpclbfjabDoorTk
import Derived.LaidMore
import Derived.Stop.Joined
import Derived.Lib.LaidTab
import Derived.SevenTiedAt
import Derived.Test.YtpdfhkmpclbfjabDoorTie
import Derived.Test.YtpdfhkmpclbfjabDoorCards
namespace Go.Proofs.YtpdfhkmpclbfjabDoor.treeOrder
open Go.ChangeShapes Go.WideShapes Go.ChangeAt Go.RowKit
set_option linter.unusedVariables false

theorem ci_anti (x y : Int) : ci x y = - ci y x := by unfold ci; split <;> split <;> (try split) <;> omega
theorem ci_zero {x y : Int} : ci x y = 0 ↔ x = y := by unfold ci; split <;> (try split) <;> omega
theorem ci_trans {x y z : Int} (h1 : ci x y ≤ 0) (h2 : ci y z ≤ 0) : ci x z ≤ 0 := by
  unfold ci at *
  split at h1 <;> split at h2 <;> (try split at h1) <;> (try split at h2) <;> split <;> (try split) <;> omega
theorem lex_trans {f1 f2 f3 f1' f2' f3' g1 g2 g3 : Int} (a1 : f1 = - f1') (a2 : f2 = - f2') (a3 : f3 = - f3') (t1 : f1 ≤ 0 → f2 ≤ 0 → f3 ≤ 0) (t2 : f2 ≤ 0 → f3' ≤ 0 → f1' ≤ 0) (t3 : f3' ≤ 0 → f1 ≤ 0 → f2' ≤ 0)
    (tg : f1 = 0 → f2 = 0 → g1 ≤ 0 → g2 ≤ 0 → g3 ≤ 0) (h1 : (if f1 = 0 then g1 else f1) ≤ 0) (h2 : (if f2 = 0 then g2 else f2) ≤ 0) : (if f3 = 0 then g3 else f3) ≤ 0 := by
  have l1 : f1 ≤ 0 := by split at h1 <;> omega
  have l2 : f2 ≤ 0 := by split at h2 <;> omega
  have l3 := t1 l1 l2
  by_cases e3 : f3 = 0
  · have k1 := t2 l2 (by omega)
    have k2 := t3 (by omega) l1
    have e1 : f1 = 0 := by omega
    have e2 : f2 = 0 := by omega
    rw [if_pos e3]
    rw [if_pos e1] at h1
    rw [if_pos e2] at h2
    exact tg e1 e2 h1 h2
  · rw [if_neg e3]; exact l3
theorem cn_anti (m n : Nd) : cn m n = - cn n m := by
  unfold cn
  rw [ci_anti m.1 n.1, ci_anti m.2 n.2]
  split <;> split <;> omega
theorem cn_zero {m n : Nd} : cn m n = 0 ↔ m = n := by
  unfold cn
  constructor
  · intro h
    split at h
    · rename_i h1
      exact Prod.ext (ci_zero.1 h1) (ci_zero.1 h)
    · omega
  · rintro rfl
    rw [if_pos (ci_zero.2 rfl)]
    exact ci_zero.2 rfl
theorem cn_trans {m n o : Nd} (h1 : cn m n ≤ 0) (h2 : cn n o ≤ 0) : cn m o ≤ 0 := by
  unfold cn at *
  exact lex_trans (ci_anti _ _) (ci_anti _ _) (ci_anti _ _) (fun a b => ci_trans a b) (fun a b => ci_trans a b) (fun a b => ci_trans a b) (fun _ _ a b => ci_trans a b) h1 h2
theorem cl_anti : ∀ a b : List Nd, cl a b = - cl b a
  | [], [] => rfl
  | [], _ :: _ => rfl
  | _ :: _, [] => rfl
  | m :: a, n :: b => by
    unfold cl
    rw [cn_anti m n, cl_anti a b]
    split <;> split <;> omega
theorem cl_zero : ∀ {a b : List Nd}, a.length = b.length → (cl a b = 0 ↔ a = b)
  | [], [], _ => by simp [cl]
  | m :: a, n :: b, h => by
    unfold cl
    have ih := cl_zero (a := a) (b := b) (by simpa using h)
    constructor
    · intro h0
      split at h0
      · rename_i h1
        rw [cn_zero.1 h1, ih.1 h0]
      · omega
    · intro h0
      injection h0 with h1 h2
      rw [if_pos (cn_zero.2 h1)]
      exact ih.2 h2
theorem cl_trans : ∀ {a b c : List Nd}, a.length = b.length → b.length = c.length → cl a b ≤ 0 → cl b c ≤ 0 → cl a c ≤ 0
  | [], [], [], _, _, _, _ => by simp [cl]
  | m :: a, n :: b, o :: c, h1, h2, g1, g2 => by
    unfold cl at *
    exact lex_trans (cn_anti _ _) (cn_anti _ _) (cn_anti _ _) (fun a b => cn_trans a b) (fun a b => cn_trans a b) (fun a b => cn_trans a b) (fun _ _ x y => cl_trans (by simpa using h1) (by simpa using h2) x y) g1 g2
theorem ct_anti (a b : List Nd) : ct a b = - ct b a := by
  unfold ct
  rw [ci_anti a.length b.length, cl_anti a b]
  split <;> split <;> omega
theorem ct_zero {a b : List Nd} : ct a b = 0 ↔ a = b := by
  unfold ct
  constructor
  · intro h
    split at h
    · rename_i h1
      exact (cl_zero (by have := ci_zero.1 h1; omega)).1 h
    · omega
  · rintro rfl
    rw [if_pos (ci_zero.2 rfl)]
    exact (cl_zero rfl).2 rfl
theorem ct_trans {a b c : List Nd} (h1 : ct a b ≤ 0) (h2 : ct b c ≤ 0) : ct a c ≤ 0 := by
  unfold ct at *
  refine lex_trans (ci_anti _ _) (ci_anti _ _) (ci_anti _ _) (fun a b => ci_trans a b) (fun a b => ci_trans a b) (fun a b => ci_trans a b) (fun e1 e2 x y => ?_) h1 h2
  have e1 := ci_zero.1 e1
  have e2 := ci_zero.1 e2
  exact cl_trans (by omega) (by omega) x y
theorem cl_range : ∀ a b : List Nd, cl a b = -1 ∨ cl a b = 0 ∨ cl a b = 1
  | [], [] => by simp [cl]
  | [], _ :: _ => by simp [cl]
  | _ :: _, [] => by simp [cl]
  | m :: a, n :: b => by
    unfold cl
    split
    · exact cl_range a b
    · unfold cn ci
      repeat' split
      all_goals omega
theorem ct_range (a b : List Nd) : ct a b = -1 ∨ ct a b = 0 ∨ ct a b = 1 := by
  unfold ct
  split
  · exact cl_range a b
  · unfold ci
    repeat' split
    all_goals omega

set_option maxHeartbeats 8000000 in
set_option maxRecDepth 100000 in
theorem walk (v0 : Value) (a : List Nd) (v1 : Value) (b : List Nd) (v2 : Value) (c : List Nd) (w : World) (h0 : NReads w v0 a) (l0 : a.length ≤ 9223372036854775806) (h1 : NReads w v1 b) (l1 : b.length ≤ 9223372036854775806) (h2 : NReads w v2 c) (l2 : c.length ≤ 9223372036854775806) (hP : PTab w) :
    Calls Tryd.prog 4 #[v0, v1, v2] w fun e w' => e = .returned (.bool true) ∧ Below w.heap.size w w' := by
  have H0 : Hid (NReads w v0 a) := h0
  have H1 : Hid (NReads w v1 b) := h1
  have H2 : Hid (NReads w v2 c) := h2
  have HP : Hid (PTab w) := hP
  obtain ⟨x, HX⟩ : ∃ x, Hid (ct a b = x) := ⟨_, rfl⟩
  obtain ⟨y, HY⟩ : ∃ y, Hid (ct b c = y) := ⟨_, rfl⟩
  obtain ⟨z, HZ⟩ : ∃ z, Hid (ct a c = z) := ⟨_, rfl⟩
  obtain ⟨u, HU⟩ : ∃ u, Hid (ct b a = u) := ⟨_, rfl⟩
  have HA : Hid (ct a a = 0) := ct_zero.2 rfl
  have HS : Hid (decide (a = b) = (x == 0)) := by
    show _ = _
    rw [← HX.out, Bool.eq_iff_iff, decide_eq_true_iff, beq_iff_eq]
    exact ct_zero.symm
  have hx := ct_range a b
  have hy := ct_range b c
  have hz := ct_range a c
  rw [HX.out] at hx
  rw [HY.out] at hy
  rw [HZ.out] at hz
  have hu : IntKind.i64.wrap (-u) = x := by
    have e := ct_anti b a
    rw [HU.out, HX.out] at e
    rw [IntKind.wrap_i64]
    omega
  have HT1 : Hid (x ≤ 0 → y ≤ 0 → z ≤ 0) := by
    show _ → _ → _
    rw [← HX.out, ← HY.out, ← HZ.out]
    exact ct_trans
  have HT2 : Hid (0 ≤ x → 0 ≤ y → 0 ≤ z) := by
    show _ → _ → _
    rw [← HX.out, ← HY.out, ← HZ.out, ct_anti a b, ct_anti b c, ct_anti a c]
    intro p q
    have := ct_trans (a := c) (b := b) (c := a) (by omega) (by omega)
    omega
  have HXr : Hid _ := hx
  have HYr : Hid _ := hy
  have HZr : Hid _ := hz
  clear h0 h1 h2 hP hx hy hz
  go_enter Tryd.func4, Tryd.ntmps4
  go_wp2_with fail
  refine (compare_any v0 v1 a b _ H0.out H1.out l0).mono ?_
  rintro e w1 ⟨rfl, hb1⟩
  rw [HX.out]
  have B1 : Hid (Below w.heap.size w w1) := hb1
  clear hb1
  go_wp2_with fail
  refine (compare_any v1 v2 b c _ (H1.out.stay B1.out) (H2.out.stay B1.out) l1).mono ?_
  rintro e w2 ⟨rfl, hb2⟩
  rw [HY.out]
  have B2 : Hid (Below w.heap.size w w2) := go_on B1.out hb2
  clear hb2
  go_wp2_with fail
  refine (compare_any v0 v2 a c _ (H0.out.stay B2.out) (H2.out.stay B2.out) l0).mono ?_
  rintro e w3 ⟨rfl, hb3⟩
  rw [HZ.out]
  have B3 : Hid (Below w.heap.size w w3) := go_on B2.out hb3
  clear hb3
  go_wp2_with fail
  refine (compare_any v0 v0 a a _ (H0.out.stay B3.out) (H0.out.stay B3.out) l0).mono ?_
  rintro e w4 ⟨rfl, hb4⟩
  rw [HA.out]
  have B4 : Hid (Below w.heap.size w w4) := go_on B3.out hb4
  clear hb4
  go_wp2_with fail
  refine (compare_any v1 v0 b a _ (H1.out.stay B4.out) (H0.out.stay B4.out) l1).mono ?_
  rintro e w5 ⟨rfl, hb5⟩
  rw [HU.out]
  have B5 : Hid (Below w.heap.size w w5) := go_on B4.out hb5
  clear hb5
  go_wp2_with fail
  refine (same_any v0 v1 a b _ (H0.out.stay B5.out) (H1.out.stay B5.out) l0).mono ?_
  rintro e w6 ⟨rfl, hb6⟩
  rw [HS.out]
  have B6 : Hid (Below w.heap.size w w6) := go_on B5.out hb6
  clear hb6
  go_wp2_with fail
  refine (knows_any _ (HP.out.stay B6.out)).mono ?_
  rintro e w7 ⟨rfl, hb7⟩
  have B7 : Hid (Below w.heap.size w w7) := go_on B6.out hb7
  clear hb7 hu
  rcases HXr.out with rfl | rfl | rfl <;> rcases HYr.out with rfl | rfl | rfl <;> rcases HZr.out with rfl | rfl | rfl <;> first
    | exact absurd (HT1.out (by decide) (by decide)) (by decide)
    | exact absurd (HT2.out (by decide) (by decide)) (by decide)
    | (go_wp2_with fail; go_ret; exact ⟨rfl, B7.out⟩)

/-! ### The row's step -/
theorem own : ownKnob Tryd.prog.godebug = none := by kernel_rfl
def laid1 : List (String × DataW Unit) := [("eggbox/tree.partsOf", Rows.laid_eggbox_tree_partsOf)]
def tabZ : List Int := [0, 0, 0, 0, 0, 2, 2, 2, 1, 1]
theorem gTab : Tryd.prog.globalNamed "eggbox/tree.partsOf" = some 0 := by kernel_rfl
theorem tTab : (Tryd.prog.globals[0]?).map (·.type) = some 40 := by kernel_rfl
theorem of_laid {W : World} (h : laidMetH Tryd.prog laid1 W) : PTab W := by
  rw [MakeChecks.laidMetH_plain _ _ _ (by kernel_rfl)] at h
  have ht : Lib.TabIs Tryd.prog W "eggbox/tree.partsOf" .i64 tabZ :=
    Lib.tabIs_of_head (rest := []) gTab tTab Tryd.underlying40 Tryd.underlying3 (by kernel_rfl) (by kernel_rfl) h
  intro j hj
  have := ht.cell gTab j hj
  rw [this]
  have hc : j = 0 ∨ j = 1 ∨ j = 2 ∨ j = 3 ∨ j = 4 ∨ j = 5 ∨ j = 6 ∨ j = 7 ∨ j = 8 ∨ j = 9 := by omega
  rcases hc with rfl | rfl | rfl | rfl | rfl | rfl | rfl | rfl | rfl | rfl <;> rfl
/-- The door's own heap meets the condition. -/
theorem door_met (os : Os) (args : Array Value) : laidMetH Tryd.prog laid1 ((World.doorLaid Tryd.prog 400 os).forCall (fun _ _ => 0) ⟨#[], args, []⟩).memory :=
  laidMetH_of_parts3 (fuel := 8) (laidMet_of_run' 8 (by kernel_rfl) (by kernel_rfl)) (by kernel_rfl) (by kernel_rfl)

set_option maxRecDepth 100000 in
theorem lifted (os : Os) (started : os.Started) (H : Type) (enc : TypeId × Value → H) :
    ReturnsInHanded {} Tryd.checked os 4 .any (fun w args => (Rows.treeOrderSpec.pre enc Tryd.prog Tryd.f4 [] false w args ∧ laidMetH Tryd.prog laid1 w) ∧ sizedMet enc Tryd.prog Tryd.f4 (OpenSpec.ofChange Rows.treeOrderSpec) false w args)
      (Rows.treeOrderSpec.post enc Tryd.prog Tryd.f4 false true false false) := by
  refine returnsInHanded_of_change_and (C := Tryd.checked) (X := fun w _ => laidMetH Tryd.prog laid1 w) (fun _ _ _ hh h => h.of_heap hh) own started (by kernel_rfl) Tryd.func4
    (ChangeSpec.witness_shaped (enc := enc) (C := Tryd.checked) (os := os) (X := fun w _ => laidMetH Tryd.prog laid1 w) false (World.doorLaid Tryd.prog 400 os) #[.slice none 0 0, .slice none 0 0, .slice none 0 0] 8 rfl (World.shaped_of_RefB (by kernel_rfl) (by kernel_rfl)) (by kernel_rfl) (by kernel_rfl) (by kernel_rfl) (door_met os _)) ?_
  intro W base args ds gs before hval0 hW _ hsz0 hL _
  have hval : ∀ (j : Nat) t v, Tryd.f4.params[j]? = some t → args[j]? = some v → Value.okWide Tryd.prog W .any base t v := hval0
  have hW' := hW
  obtain ⟨p, q, hA0, hV, rfl, hfz, hnd⟩ := hW
  have hA : DataW.TrodAll enc Tryd.prog W 0 (fun _ => true) true Tryd.f4.params.toList args.toList ds p := hA0
  have hsz : (DataW.weightsEach Tryd.prog (Tryd.f4.params.toList ++ Rows.treeOrderSpec.plain.varTypes Tryd.prog) (ds ++ gs)).all (· ≤ reachBytes) = true := hsz0
  rw [Tryd.params4] at hA hval hsz
  obtain ⟨v0, vs0, d0, ds0, p0, q0, hargs, rfl, rfl, h0, r0⟩ := trodAll_cons hA
  obtain ⟨v1, vs1, d1, ds1, p1, q1, rfl, rfl, rfl, h1, r1⟩ := trodAll_cons r0
  obtain ⟨v2, vs2, d2, ds2, p2, q2, rfl, rfl, rfl, h2, r2⟩ := trodAll_cons r1
  obtain ⟨rfl, rfl, rfl⟩ := trodAll_nil r2
  obtain rfl : args = #[v0, v1, v2] := by cases args; simp_all
  obtain ⟨rfl, rfl⟩ := trodVars_none hV
  obtain ⟨a0, w0, y0⟩ := open_nodes (hval 0 22 v0 rfl rfl) h0
  have s0 : (a0.length + 2) * 16 ≤ 140737488355328 := by
    rcases y0 with ⟨_, rfl⟩ | ⟨e, s, rfl, hy⟩
    · decide
    · have := sized_slice hsz (j := 0) (t := 22) rfl rfl Tryd.underlying22
      rw [Tryd.bytes_node] at this
      simp only [reachBytes] at this
      omega
  have z0 : a0.length ≤ 9223372036854775806 := by omega
  have g0 : ∀ x ∈ p0, x.block < W.heap.size := fun x hx => hW'.lt x (by simp [hx])
  obtain ⟨a1, w1, y1⟩ := open_nodes (hval 1 22 v1 rfl rfl) h1
  have s1 : (a1.length + 2) * 16 ≤ 140737488355328 := by
    rcases y1 with ⟨_, rfl⟩ | ⟨e, s, rfl, hy⟩
    · decide
    · have := sized_slice hsz (j := 1) (t := 22) rfl rfl Tryd.underlying22
      rw [Tryd.bytes_node] at this
      simp only [reachBytes] at this
      omega
  have z1 : a1.length ≤ 9223372036854775806 := by omega
  have g1 : ∀ x ∈ p1, x.block < W.heap.size := fun x hx => hW'.lt x (by simp [hx])
  obtain ⟨a2, w2, y2⟩ := open_nodes (hval 2 22 v2 rfl rfl) h2
  have s2 : (a2.length + 2) * 16 ≤ 140737488355328 := by
    rcases y2 with ⟨_, rfl⟩ | ⟨e, s, rfl, hy⟩
    · decide
    · have := sized_slice hsz (j := 2) (t := 22) rfl rfl Tryd.underlying22
      rw [Tryd.bytes_node] at this
      simp only [reachBytes] at this
      omega
  have z2 : a2.length ≤ 9223372036854775806 := by omega
  have g2 : ∀ x ∈ p2, x.block < W.heap.size := fun x hx => hW'.lt x (by simp [hx])
  have hTz := of_laid hL
  clear hA0 hval0
  refine (walk v0 a0 v1 a1 v2 a2 W w0 z0 w1 z1 w2 z2 hTz).mono fun e W' ⟨he, bel⟩ => ?_
  subst he
  exact ⟨_, rfl, _, _, _, [], _, [], hW', trodAll_mk1 (shut_bool Tryd.underlying4 _), (trodAll_cons_mk (Below.trod Tryd.laidOut (by kernel_rfl) (of_decide_eq_true (by kernel_rfl)) h0 bel g0) (trodAll_cons_mk (Below.trod Tryd.laidOut (by kernel_rfl) (of_decide_eq_true (by kernel_rfl)) h1 bel g1) (trodAll_cons_mk (Below.trod Tryd.laidOut (by kernel_rfl) (of_decide_eq_true (by kernel_rfl)) h2 bel g2) trodAll_mk0))), rfl, bel.frame _, fun h => by cases h⟩

theorem over : Rows.TreeOrderSaid :=
  OpenClaim.holds_of_wide 4 Tryd.f4 rfl rfl rfl rfl rfl rfl rfl ⟨rfl, rfl, rfl, rfl, rfl⟩ rfl rfl rfl rfl rfl (by kernel_rfl) Tryd.func4 (by kernel_rfl)
    (of_decide_eq_true (by kernel_rfl)) (by unfold Func.isWrapper; first | (rw [if_pos (by decide +kernel)]; kernel_rfl) | (rw [if_neg (by decide +kernel)]; exact ⟨rfl, rfl⟩))
    (fun os started H enc _ => lifted os started H enc)

theorem card : Rows.TreeOrderCardSaid :=
  Claim7.holds_tied_plain_at .later [] [.data] true (true, "f4da79c01b06a6c8651d62745831bc69100b35b514a3fa88da8ccbeb262f2b52") false
    over (fun _ h => by cases h) (by kernel_rfl) (fun _ h => by cases h) treeOrder_row_tie rfl ⟨rfl, rfl⟩ (by kernel_rfl) rfl
    (fun f fn hf hfn => by
      obtain rfl : f = 4 := Option.some.inj ((show Tryd.prog.funcNamed "eggbox/eggboxlaw03.TreeOrder" = some 4 by kernel_rfl).symm.trans hf) |>.symm
      obtain rfl : fn = Tryd.f4 := (Option.some.inj (Tryd.func4.symm.trans hfn)).symm
      exact ⟨by kernel_rfl, fun j t ht => by
        rw [Tryd.params4] at ht
        have hm : t ∈ [22, 22, 22] := by simpa using Array.mem_of_getElem? ht
        have hall : ([22, 22, 22].all fun u => !Tryd.prog.wantsStandIn u) = true := by kernel_rfl
        exact (show Tryd.prog.wantsStandIn t = false by simpa using List.all_eq_true.1 hall t hm)⟩)
    (by kernel_rfl)

end Go.Proofs.YtpdfhkmpclbfjabDoor.treeOrder
namespace Go.Proofs.YtpdfhkmpclbfjabDoor
/-- The given statement. -/
theorem treeOrder_holds : Rows.TreeOrderCardSaid := treeOrder.card
end Go.Proofs.YtpdfhkmpclbfjabDoor
