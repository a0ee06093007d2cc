/- Proved: the card of eggboxlaw04.SyntaxMore: it answers true at every k and every text (P4.6), with tree.partsOf and syntax.tightness as the program's text lays them: what syntax.Parse reads with k letters it reads with k + 1 as the same tree, and it answers ErrLetters just where k is none of 1 to 8. -/
import Derived.Test.YtmodjkbaoifnbaaDoorSn
import Derived.LaidMore
import Derived.Stop.Joined
import Derived.Lib.LaidTab
import Derived.SevenTiedAt
import Derived.ShutString
import Derived.ChangeMaps5
import Derived.OpenShut
import Derived.ProofKit
import Derived.Test.YtmodjkbaoifnbaaDoorTie
import Derived.Test.YtmodjkbaoifnbaaDoorCards
namespace Go.Proofs.YtmodjkbaoifnbaaDoor.syntaxMore
open Go.ChangeShapes Go.WideShapes Go.ChangeAt Go.RowKit
open Go.ChangeMaps (open_string shut_string)
set_option linter.unusedVariables false

set_option maxHeartbeats 8000000 in
set_option maxRecDepth 100000 in
theorem walk (k : Int) (tx : ByteArray) (w : World) (hk : (Lit.int .i64 k).wf = true) (hx : tx.size ≤ maxLen) (hT : TTab w) (hP : PTab w) :
    Calls Tryd.prog 8 #[.int .i64 k, .string tx] w fun e w' => e = .returned (.bool true) ∧ Below w.heap.size w w' := by
  have hkb := bounds_i64 hk
  have hx2 : tx.size ≤ 9223372036854775807 := by unfold maxLen at hx; omega
  have HT : Hid (TTab w) := hT
  have HP : Hid (PTab w) := hP
  obtain ⟨c, hc⟩ : ∃ c, (pcode k tx).1 = c := ⟨_, rfl⟩
  have HC : Hid ((pcode k tx).1 = c) := hc
  clear hT hP hk hx
  by_cases hin : 1 ≤ k ∧ k < 8
  · have hk1 : ¬ k < 1 := by omega
    have hk8 : ¬ 8 ≤ k := by omega
    have hl1 := pcode_len k tx
    have hl2 := pcode_len (k + 1) tx
    have HM : Hid (c = 0 → pcode (k + 1) tx = pcode k tx) := fun h => pcode_more hin (by rw [hc]; exact h)
    obtain ⟨d, hd⟩ : ∃ d, (pcode (k + 1) tx).1 = d := ⟨_, rfl⟩
    have HD : Hid ((pcode (k + 1) tx).1 = d) := hd
    obtain ⟨A, hA⟩ : ∃ A, (pcode k tx).2 = A := ⟨_, rfl⟩
    obtain ⟨B, hB⟩ : ∃ B, (pcode (k + 1) tx).2 = B := ⟨_, rfl⟩
    have HA : Hid ((pcode k tx).2 = A ∧ (pcode (k + 1) tx).2 = B) := ⟨hA, hB⟩
    rw [hA] at hl1
    rw [hB] at hl2
    have hkw : IntKind.i64.wrap (k + 1) = k + 1 := by rw [IntKind.wrap_i64]; omega
    clear hin hc hd hA hB
    go_enter Tryd.func8, Tryd.ntmps8
    go_wp2_with fail
    refine (parse_full k tx hx2 _ HT.out HP.out).mono ?_
    rintro e w1 ⟨a, p, rfl, hoa, hb1⟩
    rw [HC.out]
    rw [HA.out.1] at hoa
    obtain ⟨aa, ac, rfl⟩ := own_shape hoa
    have HA1 : Hid (NReads w1 (.slice aa A.length ac) A) := own_nreads hoa
    have HB1 : Hid (Below w.heap.size w w1) := hb1
    clear hoa hb1
    go_wp2_with fail
    refine (parse_full (k + 1) tx hx2 _ (HT.out.stay HB1.out) (HP.out.stay HB1.out)).mono ?_
    rintro e w2 ⟨b, q, rfl, hob, hb2⟩
    rw [HD.out]
    rw [HA.out.2] at hob
    obtain ⟨ba, bc, rfl⟩ := own_shape hob
    have HB2 : Hid (NReads w2 (.slice ba B.length bc) B) := own_nreads hob
    have HA2 : Hid (NReads w2 (.slice aa A.length ac) A) := HA1.out.stay hb2
    have HW2 : Hid (Below w.heap.size w w2) := go_on HB1.out hb2
    clear hob hb2
    by_cases hc0 : c = 0
    · have hm := HM.out hc0
      have hd0 : d = 0 := by rw [← HD.out, hm, HC.out]; exact hc0
      have hAB : B = A := by rw [← HA.out.2, ← HA.out.1, hm]
      subst hc0 hd0 hAB
      clear hm
      go_wp2_with fail
      refine (num4_any _ _).mono ?_
      rintro e w3 ⟨rfl, rfl⟩
      go_wp2_with fail
      refine (num4_any _ _).mono ?_
      rintro e w4 ⟨rfl, rfl⟩
      go_wp2_with fail
      refine (same_any _ _ B B _ HA2.out HB2.out (by omega)).mono ?_
      rintro e w5 ⟨rfl, hb5⟩
      rw [decide_eq_true (Eq.refl B)]
      have HW5 : Hid (Below w.heap.size w w5) := go_on HW2.out hb5
      clear hb5
      go_wp2_with fail
      refine (live_any _ (HT.out.stay HW5.out) (HP.out.stay HW5.out)).mono ?_
      rintro e w6 ⟨rfl, hb6⟩
      have HW6 : Hid (Below w.heap.size w w6) := go_on HW5.out hb6
      clear hb6
      go_wp2_with fail
      go_ret
      exact ⟨rfl, HW6.out⟩
    · have hcb : (c != 0) = true := by simpa using hc0
      clear hc0
      go_wp2_with fail
      refine (num4_any _ _).mono ?_
      rintro e w3 ⟨rfl, rfl⟩
      go_wp2_with fail
      refine (live_any _ (HT.out.stay HW2.out) (HP.out.stay HW2.out)).mono ?_
      rintro e w6 ⟨rfl, hb6⟩
      have HW6 : Hid (Below w.heap.size w w6) := go_on HW2.out hb6
      clear hb6
      go_wp2_with fail
      go_ret
      exact ⟨rfl, HW6.out⟩
  · have ho := pcode_out (tx := tx) hin
    rw [hc] at ho
    have hb20 : ((c == 20) == (k != 8)) = true := by
      by_cases h8 : k = 8
      · have : c ≠ 20 := fun e => (ho.1 e) h8
        simp [h8, this]
      · have : c = 20 := ho.2 h8
        simp [h8, this]
    have HB20 : Hid (((c == 20) == (k != 8)) = true) := hb20
    clear hc ho
    by_cases hk1 : k < 1
    · go_enter Tryd.func8, Tryd.ntmps8
      go_wp2_with fail
      refine (parse_full k tx hx2 _ HT.out HP.out).mono ?_
      rintro e w1 ⟨a, p, rfl, hoa, hb1⟩
      rw [HC.out]
      have HW1 : Hid (Below w.heap.size w w1) := hb1
      clear hb1 hoa
      go_wp2_with fail
      refine (num4_any _ _).mono ?_
      rintro e w3 ⟨rfl, rfl⟩
      go_wp2_with fail
      refine (live_any _ (HT.out.stay HW1.out) (HP.out.stay HW1.out)).mono ?_
      rintro e w6 ⟨rfl, hb6⟩
      have HW6 : Hid (Below w.heap.size w w6) := go_on HW1.out hb6
      clear hb6
      go_wp2_with fail
      go_ret
      exact ⟨rfl, HW6.out⟩
    · have hk8 : 8 ≤ k := by omega
      go_enter Tryd.func8, Tryd.ntmps8
      go_wp2_with fail
      refine (parse_full k tx hx2 _ HT.out HP.out).mono ?_
      rintro e w1 ⟨a, p, rfl, hoa, hb1⟩
      rw [HC.out]
      have HW1 : Hid (Below w.heap.size w w1) := hb1
      clear hb1 hoa
      go_wp2_with fail
      refine (num4_any _ _).mono ?_
      rintro e w3 ⟨rfl, rfl⟩
      go_wp2_with fail
      refine (live_any _ (HT.out.stay HW1.out) (HP.out.stay HW1.out)).mono ?_
      rintro e w6 ⟨rfl, hb6⟩
      have HW6 : Hid (Below w.heap.size w w6) := go_on HW1.out hb6
      clear hb6
      go_wp2_with fail
      go_ret
      exact ⟨rfl, HW6.out⟩
/-! ### The row's step -/
theorem own : ownKnob Tryd.prog.godebug = none := by kernel_rfl
def laid1 : List (String × DataW Unit) := [("eggbox/tree.partsOf", Rows.laid_eggbox_tree_partsOf), ("eggbox/syntax.tightness", Rows.laid_eggbox_syntax_tightness)]
def tabZ : List Int := [0, 0, 0, 0, 0, 2, 2, 2, 1, 1]
def tabY : List Int := [0, 5, 5, 5, 5, 1, 2, 3, 5, 4]
theorem gTab : Tryd.prog.globalNamed "eggbox/tree.partsOf" = some 1 := by kernel_rfl
theorem tTab : (Tryd.prog.globals[1]?).map (·.type) = some 60 := by kernel_rfl
theorem gTab2 : Tryd.prog.globalNamed "eggbox/syntax.tightness" = some 0 := by kernel_rfl
theorem tTab2 : (Tryd.prog.globals[0]?).map (·.type) = some 60 := by kernel_rfl
theorem tab_second {P : Program} {W : World} {n1 : String} {d1 : DataW Unit} {name : String} {k : IntKind} {zs : List Int} {rest : List (String × DataW Unit)} {g : Nat} {t e : TypeId} {n : Nat}
    (hg : P.globalNamed name = some g) (hty : (P.globals[g]?).map (·.type) = some t) (ht : P.underlying t = some (.array n e)) (he : P.underlying e = some (.int k)) (hce : P.cellsOf e = 1) (hct : P.cellsOf t = n)
    (h : laidMet P ((n1, d1) :: (name, Lib.tabData k zs) :: rest) W) : Lib.TabIs P W name k zs := by
  obtain ⟨ps, ⟨_, _, _, _, p, q, _, _, _, _, hrest, _⟩, _⟩ := h
  obtain ⟨g', t', cs, fuel, p', q', hg', ht', hvar, hd, _, _⟩ := hrest
  obtain rfl := Option.some.inj (hg.symm.trans hg')
  obtain rfl := Option.some.inj (hty.symm.trans ht')
  unfold Lib.TabIs
  rw [hvar, ← Lib.cells_of_tab ht he hce hct hd]
theorem of_laid {W : World} (h : laidMetH Tryd.prog laid1 W) : TTab W ∧ PTab W := by
  rw [MakeChecks.laidMetH_plain _ _ _ (by kernel_rfl)] at h
  have ht : Lib.TabIs Tryd.prog W "eggbox/tree.partsOf" .i64 tabZ :=
    Lib.tabIs_of_head (rest := [("eggbox/syntax.tightness", Rows.laid_eggbox_syntax_tightness)]) gTab tTab Tryd.underlying60 Tryd.underlying3 (by kernel_rfl) (by kernel_rfl) h
  have hs : Lib.TabIs Tryd.prog W "eggbox/syntax.tightness" .i64 tabY :=
    tab_second (rest := []) gTab2 tTab2 Tryd.underlying60 Tryd.underlying3 (by kernel_rfl) (by kernel_rfl) h
  constructor
  · intro j hj
    have := hs.cell gTab2 j hj
    rw [this]
    have hc : j = 0 ∨ j = 1 ∨ j = 2 ∨ j = 3 ∨ j = 4 ∨ j = 5 ∨ j = 6 ∨ j = 7 ∨ j = 8 ∨ j = 9 := by omega
    rcases hc with rfl | rfl | rfl | rfl | rfl | rfl | rfl | rfl | rfl | rfl <;> rfl
  · intro j hj
    have := ht.cell gTab j hj
    rw [this]
    have hc : j = 0 ∨ j = 1 ∨ j = 2 ∨ j = 3 ∨ j = 4 ∨ j = 5 ∨ j = 6 ∨ j = 7 ∨ j = 8 ∨ j = 9 := by omega
    rcases hc with rfl | rfl | rfl | rfl | rfl | rfl | rfl | rfl | rfl | rfl <;> rfl
/-- The door's own heap meets the condition. -/
theorem door_met (os : Os) (args : Array Value) : laidMetH Tryd.prog laid1 ((World.doorLaid Tryd.prog 400 os).forCall (fun _ _ => 0) ⟨#[], args, []⟩).memory :=
  laidMetH_of_parts3 (fuel := 8) (laidMet_of_run' 8 (by kernel_rfl) (by kernel_rfl)) (by kernel_rfl) (by kernel_rfl)

set_option maxRecDepth 100000 in
theorem lifted (os : Os) (started : os.Started) (H : Type) (enc : TypeId × Value → H) :
    ReturnsInHanded {} Tryd.checked os 8 .any (fun w args => (Rows.syntaxMoreSpec.pre enc Tryd.prog Tryd.f8 [] false w args ∧ laidMetH Tryd.prog laid1 w) ∧ sizedMet enc Tryd.prog Tryd.f8 (OpenSpec.ofChange Rows.syntaxMoreSpec) false w args)
      (Rows.syntaxMoreSpec.post enc Tryd.prog Tryd.f8 false true false false) := by
  refine returnsInHanded_of_change_and (C := Tryd.checked) (X := fun w _ => laidMetH Tryd.prog laid1 w) (fun _ _ _ hh h => h.of_heap hh) own started (by kernel_rfl) Tryd.func8
    (ChangeSpec.witness_shaped (enc := enc) (C := Tryd.checked) (os := os) (X := fun w _ => laidMetH Tryd.prog laid1 w) false (World.doorLaid Tryd.prog 400 os) #[.int .i64 0, .string ByteArray.empty] 8 rfl (World.shaped_of_RefB (by kernel_rfl) (by kernel_rfl)) (by kernel_rfl) (by kernel_rfl) (by kernel_rfl) (door_met os _)) ?_
  intro W base args ds gs before hval0 hW _ hsz0 hL _
  have hval : ∀ (j : Nat) t v, Tryd.f8.params[j]? = some t → args[j]? = some v → Value.okWide Tryd.prog W .any base t v := hval0
  have hW' := hW
  obtain ⟨p, q, hA0, hV, rfl, hfz, hnd⟩ := hW
  have hA : DataW.TrodAll enc Tryd.prog W 0 (fun _ => true) true Tryd.f8.params.toList args.toList ds p := hA0
  have hsz : (DataW.weightsEach Tryd.prog (Tryd.f8.params.toList ++ Rows.syntaxMoreSpec.plain.varTypes Tryd.prog) (ds ++ gs)).all (· ≤ reachBytes) = true := hsz0
  rw [Tryd.params8] at hA hval hsz
  obtain ⟨v0, vs0, d0, ds0, p0, q0, hargs, rfl, rfl, h0, r0⟩ := trodAll_cons hA
  obtain ⟨v1, vs1, d1, ds1, p1, q1, rfl, rfl, rfl, h1, r1⟩ := trodAll_cons r0
  obtain ⟨rfl, rfl, rfl⟩ := trodAll_nil r1
  obtain rfl : args = #[v0, v1] := by cases args; simp_all
  obtain ⟨rfl, rfl⟩ := trodVars_none hV
  obtain ⟨a0, rfl, rfl, rfl, w0⟩ := open_int Tryd.underlying3 (hval 0 3 v0 rfl rfl) h0
  obtain ⟨a1, rfl, rfl, rfl, w1⟩ := open_string Tryd.underlying9 (hval 1 9 v1 rfl rfl) h1
  have hTz := of_laid hL
  clear hA0 hval0
  refine (walk a0 a1 W w0 w1 hTz.1 hTz.2).mono fun e W' ⟨he, bel⟩ => ?_
  subst he
  exact ⟨_, rfl, _, _, _, [], _, [], hW', trodAll_mk1 (shut_bool Tryd.underlying4 _), (trodAll_cons_mk (shut_int Tryd.underlying3 w0) (trodAll_cons_mk (shut_string Tryd.underlying9 w1) trodAll_mk0)), rfl, bel.frame _, fun h => by cases h⟩

theorem over : Rows.SyntaxMoreSaid :=
  OpenClaim.holds_of_wide 8 Tryd.f8 rfl rfl rfl rfl rfl rfl rfl ⟨rfl, rfl, rfl, rfl, rfl⟩ rfl rfl rfl rfl rfl (by kernel_rfl) Tryd.func8 (by kernel_rfl)
    (of_decide_eq_true (by kernel_rfl)) (by unfold Func.isWrapper; first | (rw [if_pos (by decide +kernel)]; kernel_rfl) | (rw [if_neg (by decide +kernel)]; exact ⟨rfl, rfl⟩))
    (fun os started H enc _ => lifted os started H enc)

theorem card : Rows.SyntaxMoreCardSaid :=
  Claim7.holds_tied_plain_at .later [] [.data, .data] true (true, "e48e947476c5cceda7b2a36946ccec6e1a0e1013b2625482918b94fcb7057138") false
    over (fun _ h => by cases h) (by kernel_rfl) (fun _ h => by cases h) syntaxMore_row_tie rfl ⟨rfl, rfl⟩ (by kernel_rfl) rfl
    (fun f fn hf hfn => by
      obtain rfl : f = 8 := Option.some.inj ((show Tryd.prog.funcNamed "eggbox/eggboxlaw04.SyntaxMore" = some 8 by kernel_rfl).symm.trans hf) |>.symm
      obtain rfl : fn = Tryd.f8 := (Option.some.inj (Tryd.func8.symm.trans hfn)).symm
      exact ⟨by kernel_rfl, fun j t ht => by
        rw [Tryd.params8] at ht
        have hm : t ∈ [3, 9] := by simpa using Array.mem_of_getElem? ht
        have hall : ([3, 9].all fun u => !Tryd.prog.wantsStandIn u) = true := by kernel_rfl
        exact (show Tryd.prog.wantsStandIn t = false by simpa using List.all_eq_true.1 hall t hm)⟩)
    (by kernel_rfl)

end Go.Proofs.YtmodjkbaoifnbaaDoor.syntaxMore
namespace Go.Proofs.YtmodjkbaoifnbaaDoor
/-- The given statement. -/
theorem syntaxMore_holds : Rows.SyntaxMoreCardSaid := syntaxMore.card
end Go.Proofs.YtmodjkbaoifnbaaDoor
