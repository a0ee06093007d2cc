/- Proved: the card of eggboxlaw04.SyntaxBlanks: it answers true at every k, every text and every place (P4.4), with tree.partsOf and syntax.tightness as the program's text lays them: where the place lies within the text and the text is shorter than 1000 bytes, syntax.Parse of the text with a blank put in at that place answers the same nodes and the same error, and its place is the same or greater by one. -/
import Derived.Test.YtogcnopmgfpojaaDoorVa
import Derived.Deep.RegionHeld3
import Derived.LaidMore
import Derived.Stop.Joined
import Derived.Lib.LaidTab
import Derived.SevenTiedAt
import Derived.ShutString
import Derived.ChangeMaps5
import Derived.OpenShut
import Derived.ProofKit
import Derived.Test.YtogcnopmgfpojaaDoorTie
import Derived.Test.YtogcnopmgfpojaaDoorCards
namespace Go.Proofs.YtogcnopmgfpojaaDoor.syntaxBlanks
open Go.ChangeShapes Go.WideShapes Go.ChangeAt Go.RowKit
open Go.ChangeMaps (open_string shut_string)
set_option linter.unusedVariables false

def blankB : ByteArray := { data := #[32] }
set_option maxHeartbeats 8000000 in
set_option maxRecDepth 100000 in
theorem walk (k : Int) (tx : ByteArray) (at_ : Int) (w : World) (hk : (Lit.int .i64 k).wf = true) (hx : tx.size ≤ maxLen) (ha : (Lit.int .i64 at_).wf = true) (hT : TTab w) (hP : PTab w) :
    Calls Tryd.prog 7 #[.int .i64 k, .string tx, .int .i64 at_] w fun e w' => e = .returned (.bool true) ∧ Below w.heap.size w w' := by
  have hkb := bounds_i64 hk
  have hab := bounds_i64 ha
  have hx2 : tx.size ≤ 9223372036854775807 := by unfold maxLen at hx; omega
  have HT : Hid (TTab w) := hT
  have HP : Hid (PTab w) := hP
  clear hT hP hk hx ha
  by_cases h1 : at_ < 0
  · go_enter Tryd.func7, Tryd.ntmps7
    go_wp2_with fail
    refine (live_any _ HT.out HP.out).mono ?_
    rintro e w6 ⟨rfl, hb6⟩
    go_wp2_with fail
    go_ret
    exact ⟨rfl, hb6⟩
  by_cases h2 : (tx.size : Int) < at_
  · go_enter Tryd.func7, Tryd.ntmps7
    go_wp2_with fail
    refine (live_any _ HT.out HP.out).mono ?_
    rintro e w6 ⟨rfl, hb6⟩
    go_wp2_with fail
    go_ret
    exact ⟨rfl, hb6⟩
  by_cases h3 : 1000 ≤ (tx.size : Int)
  · go_enter Tryd.func7, Tryd.ntmps7
    go_wp2_with fail
    refine (live_any _ HT.out HP.out).mono ?_
    rintro e w6 ⟨rfl, hb6⟩
    go_wp2_with fail
    go_ret
    exact ⟨rfl, hb6⟩
  obtain ⟨n, rfl⟩ := Int.eq_ofNat_of_zero_le (show 0 ≤ at_ by omega)
  have hl1 := pcode_len k tx
  have hl2 := pplace_le k tx
  have HM : Hid (∀ ty : ByteArray, ty = (tx.extract 0 n ++ blankB) ++ tx.extract n tx.size → pcode k ty = pcode k tx ∧ (pplace k ty = pplace k tx ∨ pplace k ty = pplace k tx + 1)) := by
    intro ty hty
    refine pcode_blank (a := (tx.data.toList).take n) (l := (tx.data.toList).drop n) (by omega) (List.take_append_drop _ _).symm ?_
    rw [hty]
    have e : (tx.data.toList).length = tx.size := by simp
    simp only [blankB, ByteArray.data_append, ByteArray.data_extract, Array.toList_append, Array.toList_extract, List.extract_eq_take_drop, List.drop_zero, Nat.sub_zero, List.append_assoc]
    rw [List.take_of_length_le (l := List.drop n _) (by simp)]
    rfl
  go_enter Tryd.func7, Tryd.ntmps7
  go_wp2_with fail
  refine (parse_at k tx hx2 _ HT.out HP.out).mono ?_
  rintro e w1 ⟨a, rfl, hoa, hb1⟩
  obtain ⟨A, hA⟩ : ∃ A, (pcode k tx).2 = A := ⟨_, rfl⟩
  obtain ⟨c, hc⟩ : ∃ A, (pcode k tx).1 = A := ⟨_, rfl⟩
  obtain ⟨p, hp⟩ : ∃ A, pplace k tx = A := ⟨_, rfl⟩
  rw [hA] at hoa hl1
  rw [hc, hp]
  rw [hp] at hl2
  obtain ⟨aa, ac, rfl⟩ := own_shape hoa
  have HA1 : Hid (NReads w1 (.slice aa A.length ac) A) := own_nreads hoa
  have HB1 : Hid (Below w.heap.size w w1) := hb1
  have HC : Hid ((pcode k tx).2 = A ∧ (pcode k tx).1 = c ∧ pplace k tx = p) := ⟨hA, hc, hp⟩
  clear hoa hb1 hA hc hp
  have hn : n ≤ tx.size := by omega
  have hnI : (n : Int) ≤ tx.size := by omega
  have HTY : Hid (((tx.extract 0 n ++ blankB) ++ tx.extract n tx.size).size ≤ 9223372036854775807) := by
    show _ ≤ _
    have e1 : blankB.size = 1 := rfl
    rw [ByteArray.size_append, ByteArray.size_append, ByteArray.size_extract, ByteArray.size_extract, e1]
    omega
  go_wp2_with fail
  go_region_with (go_at_call 9; refine (parse_at k _ HTY.out _ (HT.out.stay HB1.out.drew) (HP.out.stay HB1.out.drew)).mono ?_; rintro e w2 ⟨b, rfl, hob, hb2⟩)
  all_goals
    rw [(HM.out _ rfl).1] at hob
    have hpl := (HM.out _ rfl).2
    rw [(HM.out _ rfl).1]
    obtain ⟨q, hq⟩ : ∃ q, pplace k ((tx.extract 0 n ++ blankB) ++ tx.extract n tx.size) = q := ⟨_, rfl⟩
    have hpl : q = p ∨ q = p + 1 := by rw [← hq, ← HC.out.2.2]; exact hpl
    have hqe : pplace k ((tx.extract 0 n ++ blankB) ++ tx.extract n tx.size) = q := hq
    rw [hqe, HC.out.2.1]
    rw [HC.out.1] at hob
    obtain ⟨ba, bc, rfl⟩ := own_shape hob
    have HB2 : Hid (NReads w2 (.slice ba A.length bc) A) := own_nreads hob
    have HA2 : Hid (NReads w2 (.slice aa A.length ac) A) := (HA1.out.stay (Below.refl _ _).drew).stay hb2
    have HW2 : Hid (Below w.heap.size w w2) := go_on HB1.out.drew hb2
    clear hob hb2 hq hqe
    go_wp2_with fail
    refine (same_any _ _ A A _ HA2.out HB2.out (by omega)).mono ?_
    rintro e w5 ⟨rfl, hb5⟩
    rw [decide_eq_true (Eq.refl A)]
    have HW5 : Hid (Below w.heap.size w w5) := go_on HW2.out hb5
    clear hb5
    rcases hpl with rfl | rfl
    · go_wp2_with fail
      refine (live_any _ (HT.out.stay HW5.out) (HP.out.stay HW5.out)).mono ?_
      rintro e w6 ⟨rfl, hb6⟩
      have HW6 : Hid (Below w.heap.size w w6) := go_on HW5.out hb6
      clear hb6
      go_wp2_with fail
      go_ret
      exact ⟨rfl, HW6.out⟩
    · have hne : (((p + 1 : Nat) : Int) == (p : Int)) = false := by rw [beq_eq_false_iff_ne]; omega
      have hwr : IntKind.i64.wrap ((p : Int) + 1) = ((p + 1 : Nat) : Int) := by rw [IntKind.wrap_i64]; omega
      go_wp2_with fail
      refine (live_any _ (HT.out.stay HW5.out) (HP.out.stay HW5.out)).mono ?_
      rintro e w6 ⟨rfl, hb6⟩
      have HW6 : Hid (Below w.heap.size w w6) := go_on HW5.out hb6
      clear hb6
      go_wp2_with fail
      go_ret
      exact ⟨rfl, HW6.out⟩
/-! ### The row's step -/
theorem own : ownKnob Tryd.prog.godebug = none := by kernel_rfl
def laid1 : List (String × DataW Unit) := [("eggbox/tree.partsOf", Rows.laid_eggbox_tree_partsOf), ("eggbox/syntax.tightness", Rows.laid_eggbox_syntax_tightness)]
def tabZ : List Int := [0, 0, 0, 0, 0, 2, 2, 2, 1, 1]
def tabY : List Int := [0, 5, 5, 5, 5, 1, 2, 3, 5, 4]
theorem gTab : Tryd.prog.globalNamed "eggbox/tree.partsOf" = some 1 := by kernel_rfl
theorem tTab : (Tryd.prog.globals[1]?).map (·.type) = some 60 := by kernel_rfl
theorem gTab2 : Tryd.prog.globalNamed "eggbox/syntax.tightness" = some 0 := by kernel_rfl
theorem tTab2 : (Tryd.prog.globals[0]?).map (·.type) = some 60 := by kernel_rfl
theorem tab_second {P : Program} {W : World} {n1 : String} {d1 : DataW Unit} {name : String} {k : IntKind} {zs : List Int} {rest : List (String × DataW Unit)} {g : Nat} {t e : TypeId} {n : Nat}
    (hg : P.globalNamed name = some g) (hty : (P.globals[g]?).map (·.type) = some t) (ht : P.underlying t = some (.array n e)) (he : P.underlying e = some (.int k)) (hce : P.cellsOf e = 1) (hct : P.cellsOf t = n)
    (h : laidMet P ((n1, d1) :: (name, Lib.tabData k zs) :: rest) W) : Lib.TabIs P W name k zs := by
  obtain ⟨ps, ⟨_, _, _, _, p, q, _, _, _, _, hrest, _⟩, _⟩ := h
  obtain ⟨g', t', cs, fuel, p', q', hg', ht', hvar, hd, _, _⟩ := hrest
  obtain rfl := Option.some.inj (hg.symm.trans hg')
  obtain rfl := Option.some.inj (hty.symm.trans ht')
  unfold Lib.TabIs
  rw [hvar, ← Lib.cells_of_tab ht he hce hct hd]
theorem of_laid {W : World} (h : laidMetH Tryd.prog laid1 W) : TTab W ∧ PTab W := by
  rw [MakeChecks.laidMetH_plain _ _ _ (by kernel_rfl)] at h
  have ht : Lib.TabIs Tryd.prog W "eggbox/tree.partsOf" .i64 tabZ :=
    Lib.tabIs_of_head (rest := [("eggbox/syntax.tightness", Rows.laid_eggbox_syntax_tightness)]) gTab tTab Tryd.underlying60 Tryd.underlying3 (by kernel_rfl) (by kernel_rfl) h
  have hs : Lib.TabIs Tryd.prog W "eggbox/syntax.tightness" .i64 tabY :=
    tab_second (rest := []) gTab2 tTab2 Tryd.underlying60 Tryd.underlying3 (by kernel_rfl) (by kernel_rfl) h
  constructor
  · intro j hj
    have := hs.cell gTab2 j hj
    rw [this]
    have hc : j = 0 ∨ j = 1 ∨ j = 2 ∨ j = 3 ∨ j = 4 ∨ j = 5 ∨ j = 6 ∨ j = 7 ∨ j = 8 ∨ j = 9 := by omega
    rcases hc with rfl | rfl | rfl | rfl | rfl | rfl | rfl | rfl | rfl | rfl <;> rfl
  · intro j hj
    have := ht.cell gTab j hj
    rw [this]
    have hc : j = 0 ∨ j = 1 ∨ j = 2 ∨ j = 3 ∨ j = 4 ∨ j = 5 ∨ j = 6 ∨ j = 7 ∨ j = 8 ∨ j = 9 := by omega
    rcases hc with rfl | rfl | rfl | rfl | rfl | rfl | rfl | rfl | rfl | rfl <;> rfl
/-- The door's own heap meets the condition. -/
theorem door_met (os : Os) (args : Array Value) : laidMetH Tryd.prog laid1 ((World.doorLaid Tryd.prog 400 os).forCall (fun _ _ => 0) ⟨#[], args, []⟩).memory :=
  laidMetH_of_parts3 (fuel := 8) (laidMet_of_run' 8 (by kernel_rfl) (by kernel_rfl)) (by kernel_rfl) (by kernel_rfl)

set_option maxRecDepth 100000 in
theorem lifted (os : Os) (started : os.Started) (H : Type) (enc : TypeId × Value → H) :
    ReturnsInHanded {} Tryd.checked os 7 .any (fun w args => (Rows.syntaxBlanksSpec.pre enc Tryd.prog Tryd.f7 [] false w args ∧ laidMetH Tryd.prog laid1 w) ∧ sizedMet enc Tryd.prog Tryd.f7 (OpenSpec.ofChange Rows.syntaxBlanksSpec) false w args)
      (Rows.syntaxBlanksSpec.post enc Tryd.prog Tryd.f7 false true false false) := by
  refine returnsInHanded_of_change_and (C := Tryd.checked) (X := fun w _ => laidMetH Tryd.prog laid1 w) (fun _ _ _ hh h => h.of_heap hh) own started (by kernel_rfl) Tryd.func7
    (ChangeSpec.witness_shaped (enc := enc) (C := Tryd.checked) (os := os) (X := fun w _ => laidMetH Tryd.prog laid1 w) false (World.doorLaid Tryd.prog 400 os) #[.int .i64 0, .string ByteArray.empty, .int .i64 0] 8 rfl (World.shaped_of_RefB (by kernel_rfl) (by kernel_rfl)) (by kernel_rfl) (by kernel_rfl) (by kernel_rfl) (door_met os _)) ?_
  intro W base args ds gs before hval0 hW _ hsz0 hL _
  have hval : ∀ (j : Nat) t v, Tryd.f7.params[j]? = some t → args[j]? = some v → Value.okWide Tryd.prog W .any base t v := hval0
  have hW' := hW
  obtain ⟨p, q, hA0, hV, rfl, hfz, hnd⟩ := hW
  have hA : DataW.TrodAll enc Tryd.prog W 0 (fun _ => true) true Tryd.f7.params.toList args.toList ds p := hA0
  have hsz : (DataW.weightsEach Tryd.prog (Tryd.f7.params.toList ++ Rows.syntaxBlanksSpec.plain.varTypes Tryd.prog) (ds ++ gs)).all (· ≤ reachBytes) = true := hsz0
  rw [Tryd.params7] at hA hval hsz
  obtain ⟨v0, vs0, d0, ds0, p0, q0, hargs, rfl, rfl, h0, r0⟩ := trodAll_cons hA
  obtain ⟨v1, vs1, d1, ds1, p1, q1, rfl, rfl, rfl, h1, r1⟩ := trodAll_cons r0
  obtain ⟨v2, vs2, d2, ds2, p2, q2, rfl, rfl, rfl, h2, r2⟩ := trodAll_cons r1
  obtain ⟨rfl, rfl, rfl⟩ := trodAll_nil r2
  obtain rfl : args = #[v0, v1, v2] := by cases args; simp_all
  obtain ⟨rfl, rfl⟩ := trodVars_none hV
  obtain ⟨a0, rfl, rfl, rfl, w0⟩ := open_int Tryd.underlying3 (hval 0 3 v0 rfl rfl) h0
  obtain ⟨a1, rfl, rfl, rfl, w1⟩ := open_string Tryd.underlying9 (hval 1 9 v1 rfl rfl) h1
  obtain ⟨a2, rfl, rfl, rfl, w2⟩ := open_int Tryd.underlying3 (hval 2 3 v2 rfl rfl) h2
  have hTz := of_laid hL
  clear hA0 hval0
  refine (walk a0 a1 a2 W w0 w1 w2 hTz.1 hTz.2).mono fun e W' ⟨he, bel⟩ => ?_
  subst he
  exact ⟨_, rfl, _, _, _, [], _, [], hW', trodAll_mk1 (shut_bool Tryd.underlying4 _), (trodAll_cons_mk (shut_int Tryd.underlying3 w0) (trodAll_cons_mk (shut_string Tryd.underlying9 w1) (trodAll_cons_mk (shut_int Tryd.underlying3 w2) trodAll_mk0))), rfl, bel.frame _, fun h => by cases h⟩

theorem over : Rows.SyntaxBlanksSaid :=
  OpenClaim.holds_of_wide 7 Tryd.f7 rfl rfl rfl rfl rfl rfl rfl ⟨rfl, rfl, rfl, rfl, rfl⟩ rfl rfl rfl rfl rfl (by kernel_rfl) Tryd.func7 (by kernel_rfl)
    (of_decide_eq_true (by kernel_rfl)) (by unfold Func.isWrapper; first | (rw [if_pos (by decide +kernel)]; kernel_rfl) | (rw [if_neg (by decide +kernel)]; exact ⟨rfl, rfl⟩))
    (fun os started H enc _ => lifted os started H enc)

theorem card : Rows.SyntaxBlanksCardSaid :=
  Claim7.holds_tied_plain_at .later [] [.data, .data] true (true, "e48e947476c5cceda7b2a36946ccec6e1a0e1013b2625482918b94fcb7057138") false
    over (fun _ h => by cases h) (by kernel_rfl) (fun _ h => by cases h) syntaxBlanks_row_tie rfl ⟨rfl, rfl⟩ (by kernel_rfl) rfl
    (fun f fn hf hfn => by
      obtain rfl : f = 7 := Option.some.inj ((show Tryd.prog.funcNamed "eggbox/eggboxlaw04.SyntaxBlanks" = some 7 by kernel_rfl).symm.trans hf) |>.symm
      obtain rfl : fn = Tryd.f7 := (Option.some.inj (Tryd.func7.symm.trans hfn)).symm
      exact ⟨by kernel_rfl, fun j t ht => by
        rw [Tryd.params7] at ht
        have hm : t ∈ [3, 9, 3] := by simpa using Array.mem_of_getElem? ht
        have hall : ([3, 9, 3].all fun u => !Tryd.prog.wantsStandIn u) = true := by kernel_rfl
        exact (show Tryd.prog.wantsStandIn t = false by simpa using List.all_eq_true.1 hall t hm)⟩)
    (by kernel_rfl)

end Go.Proofs.YtogcnopmgfpojaaDoor.syntaxBlanks
namespace Go.Proofs.YtogcnopmgfpojaaDoor
/-- The given statement. -/
theorem syntaxBlanks_holds : Rows.SyntaxBlanksCardSaid := syntaxBlanks.card
end Go.Proofs.YtogcnopmgfpojaaDoor
