/- Proved: the card of eggboxlaw04.SyntaxPrints: it answers true at every k and every list of nodes (P4.2), with tree.partsOf and syntax.tightness as the program's text lays them: syntax.Print answers the text and the error that the document's Print answers, and the list that is handed in stays; its arguments reach no more than 2^47 bytes. -/
import Derived.Test.YtogcnopmgfpojaaDoorVg
import Derived.Test.YtogcnopmgfpojaaDoorTl
import Derived.Test.YtogcnopmgfpojaaDoorTm
import Derived.LaidMore
import Derived.Stop.Joined
import Derived.Lib.LaidTab
import Derived.SevenTiedAt
import Derived.ShutString
import Derived.ChangeMaps5
import Derived.OpenShut
import Derived.ProofKit
import Derived.Test.YtogcnopmgfpojaaDoorTie
import Derived.Test.YtogcnopmgfpojaaDoorCards
namespace Go.Proofs.YtogcnopmgfpojaaDoor.syntaxPrints
open Go.ChangeShapes Go.WideShapes Go.ChangeAt Go.RowKit
open Go.ChangeMaps (open_string shut_string)
set_option linter.unusedVariables false

set_option maxHeartbeats 8000000 in
set_option maxRecDepth 100000 in
theorem walk (k : Int) (v0 : Value) (a : List Nd) (w : World) (hk : (Lit.int .i64 k).wf = true) (h0 : NReads w v0 a) (n0 : ∀ c, v0 = .slice none 0 c → c = 0) (l0 : (a.length + 2) * 16 ≤ 140737488355328) (hT : TTab w) (hP : PTab w) :
    Calls Tryd.prog 4 #[.int .i64 k, v0] w fun e w' => e = .returned (.bool true) ∧ Below w.heap.size w w' := by
  have hkb := bounds_i64 hk
  have H0 : Hid (NReads w v0 a) := h0
  have N0 : Hid (∀ c, v0 = .slice none 0 c → c = 0) := n0
  have L0 : Hid ((a.length + 2) * 16 ≤ 140737488355328) := l0
  have HT : Hid (TTab w) := hT
  have HP : Hid (PTab w) := hP
  have ha : a.length ≤ 9223372036854775806 := by omega
  obtain ⟨c, hc⟩ : ∃ c, (printV k a).2 = c := ⟨_, rfl⟩
  obtain ⟨s, hs⟩ : ∃ c, (printV k a).1 = c := ⟨_, rfl⟩
  have HC : Hid ((printV k a).2 = c ∧ (printV k a).1 = s) := ⟨hc, hs⟩
  have HD : Hid ((rprintV k a).2 = c ∧ (rprintV k a).1 = s) := by rw [rprint_eq]; exact ⟨hc, hs⟩
  clear hT hP hk h0 n0 l0 hc hs
  go_enter Tryd.func4, Tryd.ntmps4
  go_wp2_with fail
  refine (lent_any v0 a _ H0.out N0.out L0.out).mono ?_
  rintro e w1 ⟨g0, c0, rfl, ho0, hb1⟩
  have B1 : Hid (Below w.heap.size w w1) := hb1
  have O1 : Hid (w1.ownsRow w.heap.size 56 2 (.slice (some ⟨g0, 0, none⟩) (a.length + 2) c0) (a.length + 2) (ndC (a ++ [(-7, 0), (-8, 0)]))) := ho0
  clear ho0 hb1
  go_wp2_with fail
  refine (print_any k hkb _ a _ (lent_reads O1.out).1 ha (HT.out.stay B1.out) (HP.out.stay B1.out)).mono ?_
  rintro e w2 ⟨rfl, hb2⟩
  rw [HC.out.1, HC.out.2]
  have B2 : Hid (Below w.heap.size w w2) := go_on B1.out hb2
  have O2 : Hid (w2.ownsRow w.heap.size 56 2 (.slice (some ⟨g0, 0, none⟩) (a.length + 2) c0) (a.length + 2) (ndC (a ++ [(-7, 0), (-8, 0)]))) := own_below O1.out hb2
  clear hb2 O1
  go_wp2_with fail
  refine (rprint_any k hkb _ a _ (H0.out.stay B2.out) ha (HP.out.stay B2.out)).mono ?_
  rintro e w3 ⟨rfl, hb3⟩
  rw [HD.out.1, HD.out.2]
  have B3 : Hid (Below w.heap.size w w3) := go_on B2.out hb3
  have O3 : Hid (w3.ownsRow w.heap.size 56 2 (.slice (some ⟨g0, 0, none⟩) (a.length + 2) c0) (a.length + 2) (ndC (a ++ [(-7, 0), (-8, 0)]))) := own_below O2.out hb3
  clear hb3 O2
  go_wp2_with fail
  refine (num4_any _ _).mono ?_
  rintro e w4 ⟨rfl, rfl⟩
  go_wp2_with fail
  refine (stay_any v0 a _ (H0.out.stay B3.out) w.heap.size g0 c0 (by have := L0.out; omega) O3.out).mono ?_
  rintro e w5 ⟨rfl, hb5⟩
  have B5 : Hid (Below w.heap.size w w5) := go_on B3.out hb5
  clear hb5
  go_wp2_with fail
  refine (live_any _ (HT.out.stay B5.out) (HP.out.stay B5.out)).mono ?_
  rintro e w6 ⟨rfl, hb6⟩
  have B6 : Hid (Below w.heap.size w w6) := go_on B5.out hb6
  clear hb6
  go_wp2_with fail
  go_ret
  exact ⟨rfl, B6.out⟩
/-! ### The row's step -/
theorem own : ownKnob Tryd.prog.godebug = none := by kernel_rfl
def laid1 : List (String × DataW Unit) := [("eggbox/tree.partsOf", Rows.laid_eggbox_tree_partsOf), ("eggbox/syntax.tightness", Rows.laid_eggbox_syntax_tightness)]
def tabZ : List Int := [0, 0, 0, 0, 0, 2, 2, 2, 1, 1]
def tabY : List Int := [0, 5, 5, 5, 5, 1, 2, 3, 5, 4]
theorem gTab : Tryd.prog.globalNamed "eggbox/tree.partsOf" = some 1 := by kernel_rfl
theorem tTab : (Tryd.prog.globals[1]?).map (·.type) = some 60 := by kernel_rfl
theorem gTab2 : Tryd.prog.globalNamed "eggbox/syntax.tightness" = some 0 := by kernel_rfl
theorem tTab2 : (Tryd.prog.globals[0]?).map (·.type) = some 60 := by kernel_rfl
theorem tab_second {P : Program} {W : World} {n1 : String} {d1 : DataW Unit} {name : String} {k : IntKind} {zs : List Int} {rest : List (String × DataW Unit)} {g : Nat} {t e : TypeId} {n : Nat}
    (hg : P.globalNamed name = some g) (hty : (P.globals[g]?).map (·.type) = some t) (ht : P.underlying t = some (.array n e)) (he : P.underlying e = some (.int k)) (hce : P.cellsOf e = 1) (hct : P.cellsOf t = n)
    (h : laidMet P ((n1, d1) :: (name, Lib.tabData k zs) :: rest) W) : Lib.TabIs P W name k zs := by
  obtain ⟨ps, ⟨_, _, _, _, p, q, _, _, _, _, hrest, _⟩, _⟩ := h
  obtain ⟨g', t', cs, fuel, p', q', hg', ht', hvar, hd, _, _⟩ := hrest
  obtain rfl := Option.some.inj (hg.symm.trans hg')
  obtain rfl := Option.some.inj (hty.symm.trans ht')
  unfold Lib.TabIs
  rw [hvar, ← Lib.cells_of_tab ht he hce hct hd]
theorem of_laid {W : World} (h : laidMetH Tryd.prog laid1 W) : TTab W ∧ PTab W := by
  rw [MakeChecks.laidMetH_plain _ _ _ (by kernel_rfl)] at h
  have ht : Lib.TabIs Tryd.prog W "eggbox/tree.partsOf" .i64 tabZ :=
    Lib.tabIs_of_head (rest := [("eggbox/syntax.tightness", Rows.laid_eggbox_syntax_tightness)]) gTab tTab Tryd.underlying60 Tryd.underlying3 (by kernel_rfl) (by kernel_rfl) h
  have hs : Lib.TabIs Tryd.prog W "eggbox/syntax.tightness" .i64 tabY :=
    tab_second (rest := []) gTab2 tTab2 Tryd.underlying60 Tryd.underlying3 (by kernel_rfl) (by kernel_rfl) h
  constructor
  · intro j hj
    have := hs.cell gTab2 j hj
    rw [this]
    have hc : j = 0 ∨ j = 1 ∨ j = 2 ∨ j = 3 ∨ j = 4 ∨ j = 5 ∨ j = 6 ∨ j = 7 ∨ j = 8 ∨ j = 9 := by omega
    rcases hc with rfl | rfl | rfl | rfl | rfl | rfl | rfl | rfl | rfl | rfl <;> rfl
  · intro j hj
    have := ht.cell gTab j hj
    rw [this]
    have hc : j = 0 ∨ j = 1 ∨ j = 2 ∨ j = 3 ∨ j = 4 ∨ j = 5 ∨ j = 6 ∨ j = 7 ∨ j = 8 ∨ j = 9 := by omega
    rcases hc with rfl | rfl | rfl | rfl | rfl | rfl | rfl | rfl | rfl | rfl <;> rfl
/-- The door's own heap meets the condition. -/
theorem door_met (os : Os) (args : Array Value) : laidMetH Tryd.prog laid1 ((World.doorLaid Tryd.prog 400 os).forCall (fun _ _ => 0) ⟨#[], args, []⟩).memory :=
  laidMetH_of_parts3 (fuel := 8) (laidMet_of_run' 8 (by kernel_rfl) (by kernel_rfl)) (by kernel_rfl) (by kernel_rfl)

set_option maxRecDepth 100000 in
theorem lifted (os : Os) (started : os.Started) (H : Type) (enc : TypeId × Value → H) :
    ReturnsInHanded {} Tryd.checked os 4 .any (fun w args => (Rows.syntaxPrintsSpec.pre enc Tryd.prog Tryd.f4 [] false w args ∧ laidMetH Tryd.prog laid1 w) ∧ sizedMet enc Tryd.prog Tryd.f4 (OpenSpec.ofChange Rows.syntaxPrintsSpec) false w args)
      (Rows.syntaxPrintsSpec.post enc Tryd.prog Tryd.f4 false true false false) := by
  refine returnsInHanded_of_change_and (C := Tryd.checked) (X := fun w _ => laidMetH Tryd.prog laid1 w) (fun _ _ _ hh h => h.of_heap hh) own started (by kernel_rfl) Tryd.func4
    (ChangeSpec.witness_shaped (enc := enc) (C := Tryd.checked) (os := os) (X := fun w _ => laidMetH Tryd.prog laid1 w) false (World.doorLaid Tryd.prog 400 os) #[.int .i64 0, .slice none 0 0] 8 rfl (World.shaped_of_RefB (by kernel_rfl) (by kernel_rfl)) (by kernel_rfl) (by kernel_rfl) (by kernel_rfl) (door_met os _)) ?_
  intro W base args ds gs before hval0 hW _ hsz0 hL _
  have hval : ∀ (j : Nat) t v, Tryd.f4.params[j]? = some t → args[j]? = some v → Value.okWide Tryd.prog W .any base t v := hval0
  have hW' := hW
  obtain ⟨p, q, hA0, hV, rfl, hfz, hnd⟩ := hW
  have hA : DataW.TrodAll enc Tryd.prog W 0 (fun _ => true) true Tryd.f4.params.toList args.toList ds p := hA0
  have hsz : (DataW.weightsEach Tryd.prog (Tryd.f4.params.toList ++ Rows.syntaxPrintsSpec.plain.varTypes Tryd.prog) (ds ++ gs)).all (· ≤ reachBytes) = true := hsz0
  rw [Tryd.params4] at hA hval hsz
  obtain ⟨v0, vs0, d0, ds0, p0, q0, hargs, rfl, rfl, h0, r0⟩ := trodAll_cons hA
  obtain ⟨v1, vs1, d1, ds1, p1, q1, rfl, rfl, rfl, h1, r1⟩ := trodAll_cons r0
  obtain ⟨rfl, rfl, rfl⟩ := trodAll_nil r1
  obtain rfl : args = #[v0, v1] := by cases args; simp_all
  obtain ⟨rfl, rfl⟩ := trodVars_none hV
  obtain ⟨a0, rfl, rfl, rfl, w0⟩ := open_int Tryd.underlying3 (hval 0 3 v0 rfl rfl) h0
  obtain ⟨a1, w1, x1, y1⟩ := open_nodes (hval 1 22 v1 rfl rfl) h1
  have s1 : (a1.length + 2) * 16 ≤ 140737488355328 := by
    rcases y1 with ⟨_, rfl⟩ | ⟨e, s, rfl, hy⟩
    · decide
    · have := sized_slice hsz (j := 1) (t := 22) rfl rfl Tryd.underlying22
      rw [Tryd.bytes_node] at this
      simp only [reachBytes] at this
      omega
  have z1 : a1.length ≤ 9223372036854775806 := by omega
  have g1 : ∀ x ∈ p1, x.block < W.heap.size := fun x hx => hW'.lt x (by simp [hx])
  have hTz := of_laid hL
  clear hA0 hval0
  refine (walk a0 v1 a1 W w0 w1 x1 s1 hTz.1 hTz.2).mono fun e W' ⟨he, bel⟩ => ?_
  subst he
  exact ⟨_, rfl, _, _, _, [], _, [], hW', trodAll_mk1 (shut_bool Tryd.underlying4 _), (trodAll_cons_mk (shut_int Tryd.underlying3 w0) (trodAll_cons_mk (Below.trod Tryd.laidOut (by kernel_rfl) (of_decide_eq_true (by kernel_rfl)) h1 bel g1) trodAll_mk0)), rfl, bel.frame _, fun h => by cases h⟩

theorem over : Rows.SyntaxPrintsSaid :=
  OpenClaim.holds_of_wide 4 Tryd.f4 rfl rfl rfl rfl rfl rfl rfl ⟨rfl, rfl, rfl, rfl, rfl⟩ rfl rfl rfl rfl rfl (by kernel_rfl) Tryd.func4 (by kernel_rfl)
    (of_decide_eq_true (by kernel_rfl)) (by unfold Func.isWrapper; first | (rw [if_pos (by decide +kernel)]; kernel_rfl) | (rw [if_neg (by decide +kernel)]; exact ⟨rfl, rfl⟩))
    (fun os started H enc _ => lifted os started H enc)

theorem card : Rows.SyntaxPrintsCardSaid :=
  Claim7.holds_tied_plain_at .later [] [.data, .data] true (true, "e48e947476c5cceda7b2a36946ccec6e1a0e1013b2625482918b94fcb7057138") false
    over (fun _ h => by cases h) (by kernel_rfl) (fun _ h => by cases h) syntaxPrints_row_tie rfl ⟨rfl, rfl⟩ (by kernel_rfl) rfl
    (fun f fn hf hfn => by
      obtain rfl : f = 4 := Option.some.inj ((show Tryd.prog.funcNamed "eggbox/eggboxlaw04.SyntaxPrints" = some 4 by kernel_rfl).symm.trans hf) |>.symm
      obtain rfl : fn = Tryd.f4 := (Option.some.inj (Tryd.func4.symm.trans hfn)).symm
      exact ⟨by kernel_rfl, fun j t ht => by
        rw [Tryd.params4] at ht
        have hm : t ∈ [3, 22] := by simpa using Array.mem_of_getElem? ht
        have hall : ([3, 22].all fun u => !Tryd.prog.wantsStandIn u) = true := by kernel_rfl
        exact (show Tryd.prog.wantsStandIn t = false by simpa using List.all_eq_true.1 hall t hm)⟩)
    (by kernel_rfl)

end Go.Proofs.YtogcnopmgfpojaaDoor.syntaxPrints
namespace Go.Proofs.YtogcnopmgfpojaaDoor
/-- The given statement. -/
theorem syntaxPrints_holds : Rows.SyntaxPrintsCardSaid := syntaxPrints.card
end Go.Proofs.YtogcnopmgfpojaaDoor
