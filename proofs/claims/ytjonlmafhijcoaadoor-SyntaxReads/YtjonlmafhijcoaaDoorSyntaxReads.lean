/- Proved: the card of eggboxlaw04.SyntaxReads: it answers true at every k and every text (P4.1), with tree.partsOf and syntax.tightness as the program's text lays them: syntax.Parse answers the nodes, the place and the error that the document's grammar answers, rule by rule, and the nodes are the caller's own: what is written to one answer's list changes neither another answer's nor a later one. -/
import Derived.Test.YtjonlmafhijcoaaDoorVp
import Derived.Test.YtjonlmafhijcoaaDoorOa
import Derived.Deep.RegionHeld3
import Derived.LaidMore
import Derived.Stop.Joined
import Derived.Lib.LaidTab
import Derived.SevenTiedAt
import Derived.ShutString
import Derived.ChangeMaps5
import Derived.OpenShut
import Derived.ProofKit
import Derived.Test.YtjonlmafhijcoaaDoorTie
import Derived.Test.YtjonlmafhijcoaaDoorCards
namespace Go.Proofs.YtjonlmafhijcoaaDoor.syntaxReads
open Go.ChangeShapes Go.WideShapes Go.ChangeAt Go.RowKit
open Go.ChangeMaps (open_string shut_string)
set_option linter.unusedVariables false

set_option maxHeartbeats 8000000 in
set_option maxRecDepth 100000 in
theorem walk (k : Int) (tx : ByteArray) (w : World) (hk : (Lit.int .i64 k).wf = true) (hx : tx.size ≤ maxLen) (hT : TTab w) (hP : PTab w) :
    Calls Tryd.prog 3 #[.int .i64 k, .string tx] w fun e w' => e = .returned (.bool true) ∧ Below w.heap.size w w' := by
  have hkb := bounds_i64 hk
  have hx2 : tx.size ≤ 9223372036854775807 := by unfold maxLen at hx; omega
  have HT : Hid (TTab w) := hT
  have HP : Hid (PTab w) := hP
  clear hT hP hk hx
  have hl1 := pcode_len k tx
  go_enter Tryd.func3, Tryd.ntmps3
  go_wp2_with fail
  refine (parse_at k tx hx2 _ HT.out HP.out).mono ?_
  rintro e w1 ⟨a, rfl, hoa, hb1⟩
  have HB1 : Hid (Below w.heap.size w w1) := hb1
  have hs1 := hb1.size
  go_wp2_with fail
  refine (parse_at k tx hx2 _ (HT.out.stay HB1.out) (HP.out.stay HB1.out)).mono ?_
  rintro e w2 ⟨b, rfl, hob, hb2⟩
  have hs2 := hb2.size
  have HB2 : Hid (Below w.heap.size w w2) := go_on HB1.out hb2
  go_wp2_with fail
  refine (rparse_any k tx hx2 _).mono ?_
  rintro e w3 ⟨t, rfl, hot, hb3⟩
  have hs3 := hb3.size
  have HB3 : Hid (Below w.heap.size w w3) := go_on HB2.out hb3
  obtain ⟨A, hA⟩ : ∃ A, (pcode k tx).2 = A := ⟨_, rfl⟩
  obtain ⟨c, hc⟩ : ∃ A, (pcode k tx).1 = A := ⟨_, rfl⟩
  obtain ⟨p, hp⟩ : ∃ A, pplace k tx = A := ⟨_, rfl⟩
  rw [hA] at hoa hob hot hl1
  rw [hc, hp]
  clear hA hc hp
  obtain ⟨aa, ac, rfl⟩ := own_shape hoa
  obtain ⟨ba, bc, rfl⟩ := own_shape hob
  obtain ⟨ta, tc, rfl⟩ := own_shape hot
  have HAB : Hid (∀ b', (Value.slice aa A.length ac).ownBlock = some b' → b' < w1.heap.size) := fun b' hb' => (hoa.lt b' hb').2
  have HA3 : Hid (w3.ownsRow w.heap.size 56 2 (.slice aa A.length ac) A.length (ndC A)) := own_below (own_below hoa hb2) hb3
  have HR3 : Hid (w3.ownsRow w1.heap.size 56 2 (.slice ba A.length bc) A.length (ndC A)) := own_below hob hb3
  have HT3 : Hid (w3.ownsRow w2.heap.size 56 2 (.slice ta A.length tc) A.length (ndC A)) := hot
  clear hoa hob hot hb1 hb2 hb3
  go_wp2_with fail
  refine (same_any _ _ A A _ (own_nreads HA3.out) (own_nreads HT3.out) (by omega)).mono ?_
  rintro e w4 ⟨rfl, hb4⟩
  rw [decide_eq_true (Eq.refl A)]
  have HB4 : Hid (Below w.heap.size w w4) := go_on HB3.out hb4
  have hs4 := hb4.size
  have HA4 : Hid (w4.ownsRow w.heap.size 56 2 (.slice aa A.length ac) A.length (ndC A)) := own_below HA3.out hb4
  have HR4 : Hid (w4.ownsRow w1.heap.size 56 2 (.slice ba A.length bc) A.length (ndC A)) := own_below HR3.out hb4
  have HT4 : Hid (w4.ownsRow w2.heap.size 56 2 (.slice ta A.length tc) A.length (ndC A)) := own_below HT3.out hb4
  clear hb4 HA3 HR3 HT3
  go_wp2_with fail
  refine (same_any _ _ A A _ (own_nreads HR4.out) (own_nreads HT4.out) (by omega)).mono ?_
  rintro e w5 ⟨rfl, hb5⟩
  rw [decide_eq_true (Eq.refl A)]
  have HB5 : Hid (Below w.heap.size w w5) := go_on HB4.out hb5
  have hs5 := hb5.size
  have HA5 : Hid (w5.ownsRow w.heap.size 56 2 (.slice aa A.length ac) A.length (ndC A)) := own_below HA4.out hb5
  have HR5 : Hid (w5.ownsRow w1.heap.size 56 2 (.slice ba A.length bc) A.length (ndC A)) := own_below HR4.out hb5
  clear hb5 HA4 HR4 HT4
  go_wp2_with fail
  refine (num4_any _ _).mono ?_
  rintro e w6 ⟨rfl, rfl⟩
  go_wp2_with fail
  have hTold : Told (w6.alloc (.cells #[.slice aa A.length ac, .slice ba A.length bc] 22)) w.heap.size w6.heap.size [.slice aa A.length ac, .slice ba A.length bc] [A, A] := by
    refine ⟨rfl, heap_alloc_new w6 _, by omega, fun j hj => ?_, fun j j' hj hj' hne b hb hb' => ?_⟩
    · have hj : j < 2 := hj
      have hc : j = 0 ∨ j = 1 := by omega
      rcases hc with rfl | rfl
      · exact HA5.out.alloc _
      · exact own_mono (HR5.out.alloc _) (by omega)
    · have hj : j < 2 := hj
      have hj' : j' < 2 := hj'
      have hc : (j = 0 ∧ j' = 1) ∨ (j = 1 ∧ j' = 0) := by omega
      rcases hc with ⟨rfl, rfl⟩ | ⟨rfl, rfl⟩
      · have x := HAB.out b hb
        have y := (HR5.out.lt b hb').1
        omega
      · have x := HAB.out b hb'
        have y := (HR5.out.lt b hb).1
        omega
  have HBl : Hid (Below w.heap.size w (w6.alloc (.cells #[.slice aa A.length ac, .slice ba A.length bc] 22))) := HB5.out.alloc HB5.out.size _
  refine (apart_told hTold 2 (by simp; omega) (by simp) (by simp) (fun j hj => by
    have hj : j < 2 := hj
    have hc : j = 0 ∨ j = 1 := by omega
    rcases hc with rfl | rfl
    · show A.length ≤ 1048576; omega
    · show A.length ≤ 1048576; omega)).mono ?_
  rintro e w12 ⟨rfl, hb12⟩
  have HB12 : Hid (Below w.heap.size w w12) := HBl.out.trans hb12
  clear hb12 hTold
  go_wp2_with fail
  refine (live_any _ (HT.out.stay HB12.out) (HP.out.stay HB12.out)).mono ?_
  rintro e w13 ⟨rfl, hb13⟩
  have HB13 : Hid (Below w.heap.size w w13) := go_on HB12.out hb13
  clear hb13
  go_wp2_with fail
  go_ret
  exact ⟨rfl, HB13.out⟩
/-! ### The row's step -/
theorem own : ownKnob Tryd.prog.godebug = none := by kernel_rfl
def laid1 : List (String × DataW Unit) := [("eggbox/tree.partsOf", Rows.laid_eggbox_tree_partsOf), ("eggbox/syntax.tightness", Rows.laid_eggbox_syntax_tightness)]
def tabZ : List Int := [0, 0, 0, 0, 0, 2, 2, 2, 1, 1]
def tabY : List Int := [0, 5, 5, 5, 5, 1, 2, 3, 5, 4]
theorem gTab : Tryd.prog.globalNamed "eggbox/tree.partsOf" = some 1 := by kernel_rfl
theorem tTab : (Tryd.prog.globals[1]?).map (·.type) = some 60 := by kernel_rfl
theorem gTab2 : Tryd.prog.globalNamed "eggbox/syntax.tightness" = some 0 := by kernel_rfl
theorem tTab2 : (Tryd.prog.globals[0]?).map (·.type) = some 60 := by kernel_rfl
theorem tab_second {P : Program} {W : World} {n1 : String} {d1 : DataW Unit} {name : String} {k : IntKind} {zs : List Int} {rest : List (String × DataW Unit)} {g : Nat} {t e : TypeId} {n : Nat}
    (hg : P.globalNamed name = some g) (hty : (P.globals[g]?).map (·.type) = some t) (ht : P.underlying t = some (.array n e)) (he : P.underlying e = some (.int k)) (hce : P.cellsOf e = 1) (hct : P.cellsOf t = n)
    (h : laidMet P ((n1, d1) :: (name, Lib.tabData k zs) :: rest) W) : Lib.TabIs P W name k zs := by
  obtain ⟨ps, ⟨_, _, _, _, p, q, _, _, _, _, hrest, _⟩, _⟩ := h
  obtain ⟨g', t', cs, fuel, p', q', hg', ht', hvar, hd, _, _⟩ := hrest
  obtain rfl := Option.some.inj (hg.symm.trans hg')
  obtain rfl := Option.some.inj (hty.symm.trans ht')
  unfold Lib.TabIs
  rw [hvar, ← Lib.cells_of_tab ht he hce hct hd]
theorem of_laid {W : World} (h : laidMetH Tryd.prog laid1 W) : TTab W ∧ PTab W := by
  rw [MakeChecks.laidMetH_plain _ _ _ (by kernel_rfl)] at h
  have ht : Lib.TabIs Tryd.prog W "eggbox/tree.partsOf" .i64 tabZ :=
    Lib.tabIs_of_head (rest := [("eggbox/syntax.tightness", Rows.laid_eggbox_syntax_tightness)]) gTab tTab Tryd.underlying60 Tryd.underlying3 (by kernel_rfl) (by kernel_rfl) h
  have hs : Lib.TabIs Tryd.prog W "eggbox/syntax.tightness" .i64 tabY :=
    tab_second (rest := []) gTab2 tTab2 Tryd.underlying60 Tryd.underlying3 (by kernel_rfl) (by kernel_rfl) h
  constructor
  · intro j hj
    have := hs.cell gTab2 j hj
    rw [this]
    have hc : j = 0 ∨ j = 1 ∨ j = 2 ∨ j = 3 ∨ j = 4 ∨ j = 5 ∨ j = 6 ∨ j = 7 ∨ j = 8 ∨ j = 9 := by omega
    rcases hc with rfl | rfl | rfl | rfl | rfl | rfl | rfl | rfl | rfl | rfl <;> rfl
  · intro j hj
    have := ht.cell gTab j hj
    rw [this]
    have hc : j = 0 ∨ j = 1 ∨ j = 2 ∨ j = 3 ∨ j = 4 ∨ j = 5 ∨ j = 6 ∨ j = 7 ∨ j = 8 ∨ j = 9 := by omega
    rcases hc with rfl | rfl | rfl | rfl | rfl | rfl | rfl | rfl | rfl | rfl <;> rfl
/-- The door's own heap meets the condition. -/
theorem door_met (os : Os) (args : Array Value) : laidMetH Tryd.prog laid1 ((World.doorLaid Tryd.prog 400 os).forCall (fun _ _ => 0) ⟨#[], args, []⟩).memory :=
  laidMetH_of_parts3 (fuel := 8) (laidMet_of_run' 8 (by kernel_rfl) (by kernel_rfl)) (by kernel_rfl) (by kernel_rfl)

set_option maxRecDepth 100000 in
theorem lifted (os : Os) (started : os.Started) (H : Type) (enc : TypeId × Value → H) :
    ReturnsInHanded {} Tryd.checked os 3 .any (fun w args => (Rows.syntaxReadsSpec.pre enc Tryd.prog Tryd.f3 [] false w args ∧ laidMetH Tryd.prog laid1 w) ∧ sizedMet enc Tryd.prog Tryd.f3 (OpenSpec.ofChange Rows.syntaxReadsSpec) false w args)
      (Rows.syntaxReadsSpec.post enc Tryd.prog Tryd.f3 false true false false) := by
  refine returnsInHanded_of_change_and (C := Tryd.checked) (X := fun w _ => laidMetH Tryd.prog laid1 w) (fun _ _ _ hh h => h.of_heap hh) own started (by kernel_rfl) Tryd.func3
    (ChangeSpec.witness_shaped (enc := enc) (C := Tryd.checked) (os := os) (X := fun w _ => laidMetH Tryd.prog laid1 w) false (World.doorLaid Tryd.prog 400 os) #[.int .i64 0, .string ByteArray.empty] 8 rfl (World.shaped_of_RefB (by kernel_rfl) (by kernel_rfl)) (by kernel_rfl) (by kernel_rfl) (by kernel_rfl) (door_met os _)) ?_
  intro W base args ds gs before hval0 hW _ hsz0 hL _
  have hval : ∀ (j : Nat) t v, Tryd.f3.params[j]? = some t → args[j]? = some v → Value.okWide Tryd.prog W .any base t v := hval0
  have hW' := hW
  obtain ⟨p, q, hA0, hV, rfl, hfz, hnd⟩ := hW
  have hA : DataW.TrodAll enc Tryd.prog W 0 (fun _ => true) true Tryd.f3.params.toList args.toList ds p := hA0
  have hsz : (DataW.weightsEach Tryd.prog (Tryd.f3.params.toList ++ Rows.syntaxReadsSpec.plain.varTypes Tryd.prog) (ds ++ gs)).all (· ≤ reachBytes) = true := hsz0
  rw [Tryd.params3] at hA hval hsz
  obtain ⟨v0, vs0, d0, ds0, p0, q0, hargs, rfl, rfl, h0, r0⟩ := trodAll_cons hA
  obtain ⟨v1, vs1, d1, ds1, p1, q1, rfl, rfl, rfl, h1, r1⟩ := trodAll_cons r0
  obtain ⟨rfl, rfl, rfl⟩ := trodAll_nil r1
  obtain rfl : args = #[v0, v1] := by cases args; simp_all
  obtain ⟨rfl, rfl⟩ := trodVars_none hV
  obtain ⟨a0, rfl, rfl, rfl, w0⟩ := open_int Tryd.underlying3 (hval 0 3 v0 rfl rfl) h0
  obtain ⟨a1, rfl, rfl, rfl, w1⟩ := open_string Tryd.underlying9 (hval 1 9 v1 rfl rfl) h1
  have hTz := of_laid hL
  clear hA0 hval0
  refine (walk a0 a1 W w0 w1 hTz.1 hTz.2).mono fun e W' ⟨he, bel⟩ => ?_
  subst he
  exact ⟨_, rfl, _, _, _, [], _, [], hW', trodAll_mk1 (shut_bool Tryd.underlying4 _), (trodAll_cons_mk (shut_int Tryd.underlying3 w0) (trodAll_cons_mk (shut_string Tryd.underlying9 w1) trodAll_mk0)), rfl, bel.frame _, fun h => by cases h⟩

theorem over : Rows.SyntaxReadsSaid :=
  OpenClaim.holds_of_wide 3 Tryd.f3 rfl rfl rfl rfl rfl rfl rfl ⟨rfl, rfl, rfl, rfl, rfl⟩ rfl rfl rfl rfl rfl (by kernel_rfl) Tryd.func3 (by kernel_rfl)
    (of_decide_eq_true (by kernel_rfl)) (by unfold Func.isWrapper; first | (rw [if_pos (by decide +kernel)]; kernel_rfl) | (rw [if_neg (by decide +kernel)]; exact ⟨rfl, rfl⟩))
    (fun os started H enc _ => lifted os started H enc)

theorem card : Rows.SyntaxReadsCardSaid :=
  Claim7.holds_tied_plain_at .later [] [.data, .data] true (true, "e48e947476c5cceda7b2a36946ccec6e1a0e1013b2625482918b94fcb7057138") false
    over (fun _ h => by cases h) (by kernel_rfl) (fun _ h => by cases h) syntaxReads_row_tie rfl ⟨rfl, rfl⟩ (by kernel_rfl) rfl
    (fun f fn hf hfn => by
      obtain rfl : f = 3 := Option.some.inj ((show Tryd.prog.funcNamed "eggbox/eggboxlaw04.SyntaxReads" = some 3 by kernel_rfl).symm.trans hf) |>.symm
      obtain rfl : fn = Tryd.f3 := (Option.some.inj (Tryd.func3.symm.trans hfn)).symm
      exact ⟨by kernel_rfl, fun j t ht => by
        rw [Tryd.params3] at ht
        have hm : t ∈ [3, 9] := by simpa using Array.mem_of_getElem? ht
        have hall : ([3, 9].all fun u => !Tryd.prog.wantsStandIn u) = true := by kernel_rfl
        exact (show Tryd.prog.wantsStandIn t = false by simpa using List.all_eq_true.1 hall t hm)⟩)
    (by kernel_rfl)

end Go.Proofs.YtjonlmafhijcoaaDoor.syntaxReads
namespace Go.Proofs.YtjonlmafhijcoaaDoor
/-- The given statement. -/
theorem syntaxReads_holds : Rows.SyntaxReadsCardSaid := syntaxReads.card
end Go.Proofs.YtjonlmafhijcoaaDoor
