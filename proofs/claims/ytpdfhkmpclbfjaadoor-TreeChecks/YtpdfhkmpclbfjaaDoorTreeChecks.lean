/- Proved: the card of eggboxlaw03.TreeChecks: it answers true at every k and every list of nodes (P301 to P303), with tree.partsOf as the program's text lays it: tree.Check, Depth and Stars answer what the document's answer, and the list that is handed in stays; its arguments read behind the call as before. The card ties the variable to the pruned copy of the project that the seat holds. -/
import Derived.Test.YtpdfhkmpclbfjaaDoorTv
import Derived.Test.YtpdfhkmpclbfjaaDoorTl
import Derived.Test.YtpdfhkmpclbfjaaDoorTm
import Derived.LaidMore
import Derived.Stop.Joined
import Derived.Lib.LaidTab
import Derived.SevenTiedAt
import Derived.Test.YtpdfhkmpclbfjaaDoorTie
import Derived.Test.YtpdfhkmpclbfjaaDoorCards
namespace Go.Proofs.YtpdfhkmpclbfjaaDoor.treeChecks
open Go.ChangeShapes Go.WideShapes Go.ChangeAt Go.RowKit
set_option linter.unusedVariables false

theorem depthV (v : Value) (ts : List Nd) (w : World) (hv : NReads w v ts) (hm : ts.length ≤ 9223372036854775806) (hP : PTab w) :
    Calls Tryd.prog 11 #[v] w fun e w' => e = .returned (.tuple #[.int .i64 (if wrong ts = 0 then (((heavyN (fun _ => 1) ts).getD 0 0 : Nat) : Int) else 0), .int .i64 (wrong ts)]) ∧ Below w.heap.size w w' := by
  by_cases h0 : wrong ts = 0
  · obtain ⟨hl, hf⟩ := wrong_zero h0
    rw [if_pos h0, h0]
    exact depth_any v ts w hv hl hP h0 hf
  · rw [if_neg h0]
    exact depth_bad v ts w hv hm hP h0
theorem starsV (v : Value) (ts : List Nd) (w : World) (hv : NReads w v ts) (hm : ts.length ≤ 9223372036854775806) (hP : PTab w) :
    Calls Tryd.prog 12 #[v] w fun e w' => e = .returned (.tuple #[.int .i64 (if wrong ts = 0 then (((heavyN wtS ts).getD 0 0 : Nat) : Int) else 0), .int .i64 (wrong ts)]) ∧ Below w.heap.size w w' := by
  by_cases h0 : wrong ts = 0
  · obtain ⟨hl, hf⟩ := wrong_zero h0
    rw [if_pos h0, h0]
    exact stars_any v ts w hv hl hP h0 hf
  · rw [if_neg h0]
    exact stars_bad v ts w hv hm hP h0

set_option maxHeartbeats 8000000 in
set_option maxRecDepth 100000 in
theorem walk (k : Int) (v1 : Value) (b : List Nd) (w : World) (hk : (Lit.int .i64 k).wf = true) (h1 : NReads w v1 b) (n1 : ∀ c, v1 = .slice none 0 c → c = 0) (l1 : (b.length + 2) * 16 ≤ 140737488355328) (hP : PTab w) :
    Calls Tryd.prog 3 #[.int .i64 k, v1] w fun e w' => e = .returned (.bool true) ∧ Below w.heap.size w w' := by
  have hkb := bounds_i64 hk
  have HKb : Hid (-9223372036854775808 ≤ k ∧ k ≤ 9223372036854775807) := hkb
  have H1 : Hid (NReads w v1 b) := h1
  have N1 : Hid (∀ c, v1 = .slice none 0 c → c = 0) := n1
  have L1 : Hid ((b.length + 2) * 16 ≤ 140737488355328) := l1
  have HP : Hid (PTab w) := hP
  have hb : b.length ≤ 9223372036854775806 := by omega
  obtain ⟨x, HX⟩ : ∃ x, Hid (checkV k b = x) := ⟨_, rfl⟩
  obtain ⟨d, HD⟩ : ∃ d, Hid ((if wrong b = 0 then (((heavyN (fun _ => 1) b).getD 0 0 : Nat) : Int) else 0) = d) := ⟨_, rfl⟩
  obtain ⟨s, HS⟩ : ∃ s, Hid ((if wrong b = 0 then (((heavyN wtS b).getD 0 0 : Nat) : Int) else 0) = s) := ⟨_, rfl⟩
  obtain ⟨f, HF⟩ : ∃ f, Hid (wrong b = f) := ⟨_, rfl⟩
  clear h1 hP n1 l1 hk hkb
  go_enter Tryd.func3, Tryd.ntmps3
  go_wp2_with fail
  refine (lent_any v1 b _ H1.out N1.out L1.out).mono ?_
  rintro e w1 ⟨g1, c1, rfl, ho1, hb1⟩
  have B1 : Hid (Below w.heap.size w w1) := hb1
  have O1 : Hid (w1.ownsRow w.heap.size 36 2 (.slice (some ⟨g1, 0, none⟩) (b.length + 2) c1) (b.length + 2) (ndC (b ++ [(-7, 0), (-8, 0)]))) := ho1
  clear ho1 hb1
  go_wp2_with fail
  refine (check_any k HKb.out _ b _ (lent_reads O1.out).1 hb (HP.out.stay B1.out)).mono ?_
  rintro e w2 ⟨rfl, hb2⟩
  rw [HX.out]
  have B2 : Hid (Below w.heap.size w w2) := go_on B1.out hb2
  have O2 : Hid (w2.ownsRow w.heap.size 36 2 (.slice (some ⟨g1, 0, none⟩) (b.length + 2) c1) (b.length + 2) (ndC (b ++ [(-7, 0), (-8, 0)]))) := own_below O1.out hb2
  clear hb2 O1
  go_wp2_with fail
  refine (depthV _ b _ (lent_reads O2.out).1 hb (HP.out.stay B2.out)).mono ?_
  rintro e w3 ⟨rfl, hb3⟩
  rw [HD.out, HF.out]
  have B3 : Hid (Below w.heap.size w w3) := go_on B2.out hb3
  have O3 : Hid (w3.ownsRow w.heap.size 36 2 (.slice (some ⟨g1, 0, none⟩) (b.length + 2) c1) (b.length + 2) (ndC (b ++ [(-7, 0), (-8, 0)]))) := own_below O2.out hb3
  clear hb3 O2
  go_wp2_with fail
  refine (starsV _ b _ (lent_reads O3.out).1 hb (HP.out.stay B3.out)).mono ?_
  rintro e w4 ⟨rfl, hb4⟩
  rw [HS.out, HF.out]
  have B4 : Hid (Below w.heap.size w w4) := go_on B3.out hb4
  have O4 : Hid (w4.ownsRow w.heap.size 36 2 (.slice (some ⟨g1, 0, none⟩) (b.length + 2) c1) (b.length + 2) (ndC (b ++ [(-7, 0), (-8, 0)]))) := own_below O3.out hb4
  clear hb4 O3
  go_wp2_with fail
  refine (rDepth_any v1 b _ (H1.out.stay B4.out) hb).mono ?_
  rintro e w5 ⟨rfl, hb5⟩
  rw [HD.out, HF.out]
  have B5 : Hid (Below w.heap.size w w5) := go_on B4.out hb5
  have O5 : Hid (w5.ownsRow w.heap.size 36 2 (.slice (some ⟨g1, 0, none⟩) (b.length + 2) c1) (b.length + 2) (ndC (b ++ [(-7, 0), (-8, 0)]))) := own_below O4.out hb5
  clear hb5 O4
  go_wp2_with fail
  refine (rStars_any v1 b _ (H1.out.stay B5.out) hb).mono ?_
  rintro e w6 ⟨rfl, hb6⟩
  rw [HS.out, HF.out]
  have B6 : Hid (Below w.heap.size w w6) := go_on B5.out hb6
  have O6 : Hid (w6.ownsRow w.heap.size 36 2 (.slice (some ⟨g1, 0, none⟩) (b.length + 2) c1) (b.length + 2) (ndC (b ++ [(-7, 0), (-8, 0)]))) := own_below O5.out hb6
  clear hb6 O5
  go_wp2_with (first
    | (go_at_call 15; refine (num_any _ _).mono ?_; rintro e wn ⟨rfl, rfl⟩)
    | (go_at_call 16; refine (rcheck_any k HKb.out v1 b _ (H1.out.stay B6.out) hb (HP.out.stay B6.out)).mono ?_; rintro e w7 ⟨rfl, hb7⟩; rw [HX.out])
    | (go_at_call 17; refine (stay_any v1 b _ (H1.out.stay (go_on B6.out hb7)) w.heap.size g1 c1 (by have := L1.out; omega) (own_below O6.out hb7)).mono ?_; rintro e w8 ⟨rfl, hb8⟩)
    | (go_at_call 18; refine (knows_any _ (HP.out.stay (go_on (go_on B6.out hb7) hb8))).mono ?_; rintro e w9 ⟨rfl, hb9⟩))
  go_ret
  exact ⟨rfl, go_on (go_on (go_on B6.out hb7) hb8) hb9⟩

/-! ### The row's step -/
theorem own : ownKnob Tryd.prog.godebug = none := by kernel_rfl
def laid1 : List (String × DataW Unit) := [("eggbox/tree.partsOf", Rows.laid_eggbox_tree_partsOf)]
def tabZ : List Int := [0, 0, 0, 0, 0, 2, 2, 2, 1, 1]
theorem gTab : Tryd.prog.globalNamed "eggbox/tree.partsOf" = some 0 := by kernel_rfl
theorem tTab : (Tryd.prog.globals[0]?).map (·.type) = some 63 := by kernel_rfl
theorem of_laid {W : World} (h : laidMetH Tryd.prog laid1 W) : PTab W := by
  rw [MakeChecks.laidMetH_plain _ _ _ (by kernel_rfl)] at h
  have ht : Lib.TabIs Tryd.prog W "eggbox/tree.partsOf" .i64 tabZ :=
    Lib.tabIs_of_head (rest := []) gTab tTab Tryd.underlying63 Tryd.underlying3 (by kernel_rfl) (by kernel_rfl) h
  intro j hj
  have := ht.cell gTab j hj
  rw [this]
  have hc : j = 0 ∨ j = 1 ∨ j = 2 ∨ j = 3 ∨ j = 4 ∨ j = 5 ∨ j = 6 ∨ j = 7 ∨ j = 8 ∨ j = 9 := by omega
  rcases hc with rfl | rfl | rfl | rfl | rfl | rfl | rfl | rfl | rfl | rfl <;> rfl
/-- The door's own heap meets the condition. -/
theorem door_met (os : Os) (args : Array Value) : laidMetH Tryd.prog laid1 ((World.doorLaid Tryd.prog 400 os).forCall (fun _ _ => 0) ⟨#[], args, []⟩).memory :=
  laidMetH_of_parts3 (fuel := 8) (laidMet_of_run' 8 (by kernel_rfl) (by kernel_rfl)) (by kernel_rfl) (by kernel_rfl)

set_option maxRecDepth 100000 in
theorem lifted (os : Os) (started : os.Started) (H : Type) (enc : TypeId × Value → H) :
    ReturnsInHanded {} Tryd.checked os 3 .any (fun w args => (Rows.treeChecksSpec.pre enc Tryd.prog Tryd.f3 [] false w args ∧ laidMetH Tryd.prog laid1 w) ∧ sizedMet enc Tryd.prog Tryd.f3 (OpenSpec.ofChange Rows.treeChecksSpec) false w args)
      (Rows.treeChecksSpec.post enc Tryd.prog Tryd.f3 false true false false) := by
  refine returnsInHanded_of_change_and (C := Tryd.checked) (X := fun w _ => laidMetH Tryd.prog laid1 w) (fun _ _ _ hh h => h.of_heap hh) own started (by kernel_rfl) Tryd.func3
    (ChangeSpec.witness_shaped (enc := enc) (C := Tryd.checked) (os := os) (X := fun w _ => laidMetH Tryd.prog laid1 w) false (World.doorLaid Tryd.prog 400 os) #[.int .i64 0, .slice none 0 0] 8 rfl (World.shaped_of_RefB (by kernel_rfl) (by kernel_rfl)) (by kernel_rfl) (by kernel_rfl) (by kernel_rfl) (door_met os _)) ?_
  intro W base args ds gs before hval0 hW _ hsz0 hL _
  have hval : ∀ (j : Nat) t v, Tryd.f3.params[j]? = some t → args[j]? = some v → Value.okWide Tryd.prog W .any base t v := hval0
  have hW' := hW
  obtain ⟨p, q, hA0, hV, rfl, hfz, hnd⟩ := hW
  have hA : DataW.TrodAll enc Tryd.prog W 0 (fun _ => true) true Tryd.f3.params.toList args.toList ds p := hA0
  have hsz : (DataW.weightsEach Tryd.prog (Tryd.f3.params.toList ++ Rows.treeChecksSpec.plain.varTypes Tryd.prog) (ds ++ gs)).all (· ≤ reachBytes) = true := hsz0
  rw [Tryd.params3] at hA hval hsz
  obtain ⟨v0, vs0, d0, ds0, p0, q0, hargs, rfl, rfl, h0, r0⟩ := trodAll_cons hA
  obtain ⟨v1, vs1, d1, ds1, p1, q1, rfl, rfl, rfl, h1, r1⟩ := trodAll_cons r0
  obtain ⟨rfl, rfl, rfl⟩ := trodAll_nil r1
  obtain rfl : args = #[v0, v1] := by cases args; simp_all
  obtain ⟨rfl, rfl⟩ := trodVars_none hV
  obtain ⟨a0, rfl, rfl, rfl, w0⟩ := open_int Tryd.underlying3 (hval 0 3 v0 rfl rfl) h0
  obtain ⟨a1, w1, x1, y1⟩ := open_nodes (hval 1 22 v1 rfl rfl) h1
  have s1 : (a1.length + 2) * 16 ≤ 140737488355328 := by
    rcases y1 with ⟨_, rfl⟩ | ⟨e, s, rfl, hy⟩
    · decide
    · have := sized_slice hsz (j := 1) (t := 22) rfl rfl Tryd.underlying22
      rw [Tryd.bytes_node] at this
      simp only [reachBytes] at this
      omega
  have z1 : a1.length ≤ 9223372036854775806 := by omega
  have g1 : ∀ x ∈ p1, x.block < W.heap.size := fun x hx => hW'.lt x (by simp [hx])
  have hTz := of_laid hL
  clear hA0 hval0
  refine (walk a0 v1 a1 W w0 w1 x1 s1 hTz).mono fun e W' ⟨he, bel⟩ => ?_
  subst he
  exact ⟨_, rfl, _, _, _, [], _, [], hW', trodAll_mk1 (shut_bool Tryd.underlying4 _), (trodAll_cons_mk (shut_int Tryd.underlying3 w0) (trodAll_cons_mk (Below.trod Tryd.laidOut (by kernel_rfl) (of_decide_eq_true (by kernel_rfl)) h1 bel g1) trodAll_mk0)), rfl, bel.frame _, fun h => by cases h⟩

theorem over : Rows.TreeChecksSaid :=
  OpenClaim.holds_of_wide 3 Tryd.f3 rfl rfl rfl rfl rfl rfl rfl ⟨rfl, rfl, rfl, rfl, rfl⟩ rfl rfl rfl rfl rfl (by kernel_rfl) Tryd.func3 (by kernel_rfl)
    (of_decide_eq_true (by kernel_rfl)) (by unfold Func.isWrapper; first | (rw [if_pos (by decide +kernel)]; kernel_rfl) | (rw [if_neg (by decide +kernel)]; exact ⟨rfl, rfl⟩))
    (fun os started H enc _ => lifted os started H enc)

theorem card : Rows.TreeChecksCardSaid :=
  Claim7.holds_tied_plain_at .later [] [.data] true (true, "014b10a7dc2b80ed82ed1e55c7eae7f3da860af38cf5edac7383b099fbb40189") false
    over (fun _ h => by cases h) (by kernel_rfl) (fun _ h => by cases h) treeChecks_row_tie rfl ⟨rfl, rfl⟩ (by kernel_rfl) rfl
    (fun f fn hf hfn => by
      obtain rfl : f = 3 := Option.some.inj ((show Tryd.prog.funcNamed "eggbox/eggboxlaw03.TreeChecks" = some 3 by kernel_rfl).symm.trans hf) |>.symm
      obtain rfl : fn = Tryd.f3 := (Option.some.inj (Tryd.func3.symm.trans hfn)).symm
      exact ⟨by kernel_rfl, fun j t ht => by
        rw [Tryd.params3] at ht
        have hm : t ∈ [3, 22] := by simpa using Array.mem_of_getElem? ht
        have hall : ([3, 22].all fun u => !Tryd.prog.wantsStandIn u) = true := by kernel_rfl
        exact (show Tryd.prog.wantsStandIn t = false by simpa using List.all_eq_true.1 hall t hm)⟩)
    (by kernel_rfl)

end Go.Proofs.YtpdfhkmpclbfjaaDoor.treeChecks
namespace Go.Proofs.YtpdfhkmpclbfjaaDoor
/-- The given statement. -/
theorem treeChecks_holds : Rows.TreeChecksCardSaid := treeChecks.card
end Go.Proofs.YtpdfhkmpclbfjaaDoor
