/- Proved: the card of eggboxlaw07.DerivNorm: it answers true at every list of nodes and every text (P506), with math/bits.deBruijn64tab and tree.partsOf as the program's text lays them: what norm.Normal makes of a tree says, of any word, by the document's definition, what the tree says; its arguments read behind the call as before. The card ties the variables to the pruned copy of the project that the seat holds. -/
import Derived.Test.YtdgpajdlomihaaaGreatDoorQS
import Derived.Test.YtdgpajdlomihaaaGreatDoorQGe
import Derived.Test.YtdgpajdlomihaaaGreatDoorQTl
import Derived.Test.YtdgpajdlomihaaaGreatDoorQTn
import Derived.LaidMore
import Derived.Stop.Joined
import Derived.Stop.LaidErr
import Derived.Lib.LaidTab
import Derived.SevenTiedAt
import Derived.ShutString
import Derived.ChangeMaps5
import Derived.Test.YtdgpajdlomihaaaGreatDoorTie
import Derived.Test.YtdgpajdlomihaaaGreatDoorCards
namespace Go.Proofs.YtdgpajdlomihaaaGreatDoor.derivNorm
open Go.ChangeShapes Go.WideShapes Go.ChangeAt Go.RowKit
open Go.ChangeMaps (open_string shut_string)
set_option linter.unusedVariables false

set_option maxHeartbeats 8000000 in
set_option maxRecDepth 100000 in
theorem walk (v : Value) (ts : List Nd) (s : ByteArray) (w : World) (hv : NReads w v ts) (hn0 : ∀ c, v = .slice none 0 c → c = 0) (hl : (ts.length + 2) * 16 ≤ 140737488355328) (hs : s.size ≤ 140737488355327) (hP : PTab w) (hT : TzTab w) :
    Calls Tryz.prog 7 #[v, .string s] w fun e w' => e = .returned (.bool true) ∧ Below w.heap.size w w' := by
  have HV : Hid (NReads w v ts) := hv
  have HP : Hid (PTab w) := hP
  have HT : Hid (TzTab w) := hT
  have HL : Hid (ts.length ≤ 9223372036854775806) := by show _ ≤ _; omega
  have HS : Hid (s.size ≤ 9223372036854775806) := by show _ ≤ _; omega
  obtain ⟨va, vc, hva, _⟩ := hv
  subst hva
  by_cases h0 : wrong ts = 0
  · obtain ⟨T, ho, hTf⟩ := nfL_of h0
    subst hTf
    have HN : Hid (Calls Tryz.prog 21 #[.slice va T.flat.length vc] w fun e w' => NQ T w e w') := normal_good T ho _ _ w HV.out HP.out h0
    have hno := nrm_ok (t := T) ho
    have hnl := nrm_len (t := T) ho
    have hl4 := (wrong_zero h0).1
    have HW : Hid (wrong T.flat = 0 ∧ wrong (nrm T).flat = 0 ∧ T.ok ∧ (nrm T).ok ∧ (nrm T).flat.length ≤ 4000) := ⟨h0, ok_wrong hno.1 (by omega), ho, hno.1, by omega⟩
    have HE : Hid (endsE (nrm T).flat s 0 = endsE T.flat s 0) := by
      show _ = _
      unfold endsE
      rw [HW.out.1, HW.out.2.1]
    clear hno hnl h0 hl4 hl hs hP hT hn0
    go_enter Tryz.func7, Tryz.ntmps7
    go_wp2_with fail
    refine HN.out.mono ?_
    rintro e w1 ⟨u, rfl, hou, hb1⟩
    have HB1 : Hid (Below w.heap.size w w1) := hb1
    have HU : Hid (NReads w1 u (nrm T).flat) := own_nreads hou
    clear hou hb1 HN
    go_wp2_with fail
    refine (num7_any 0 _).mono ?_
    rintro e w2 ⟨rfl, rfl⟩
    go_wp2_with fail
    refine (knows7_any _ (HP.out.stay HB1.out) (HT.out.stay HB1.out)).mono ?_
    rintro e w2 ⟨rfl, hb2⟩
    have HB2 : Hid (Below w.heap.size w w2) := go_on HB1.out hb2
    have HU2 : Hid (NReads w2 u (nrm T).flat) := HU.out.stay hb2
    clear hb2 HU HB1
    go_wp2_with fail
    refine (rMember6_any s HU2.out (by have := HW.out.2.2.2.2; omega) HS.out).mono ?_
    rintro e w3 ⟨a, rfl, a1, a2, hb3⟩
    have HB3 : Hid (Below w.heap.size w w3) := go_on HB2.out hb3
    have HA : Hid ((endsE (nrm T).flat s 0 ≠ 0 → a = false) ∧ (endsE (nrm T).flat s 0 = 0 → ∀ t : Tr, t.ok → t.flat = (nrm T).flat → (a = true ↔ Lg t (wl s)))) := ⟨a1, a2⟩
    clear hb3 a1 a2 HU2 HB2
    go_wp2_with fail
    refine (rMember6_any s (HV.out.stay HB3.out) HL.out HS.out).mono ?_
    rintro e w4 ⟨b, rfl, b1, b2, hb4⟩
    have HB4 : Hid (Below w.heap.size w w4) := go_on HB3.out hb4
    have hab : a = b := by
      by_cases hz : endsE T.flat s 0 = 0
      · rw [Bool.eq_iff_iff, HA.out.2 (by rw [HE.out]; exact hz) _ HW.out.2.2.2.1 rfl, b2 hz T HW.out.2.2.1 rfl]
        exact nrm_lg HW.out.2.2.1 _
      · rw [HA.out.1 (by rw [HE.out]; exact hz), b1 hz]
    subst hab
    rw [HE.out]
    obtain ⟨z, hz⟩ : ∃ z, endsE T.flat s 0 = z := ⟨_, rfl⟩
    rw [hz]
    clear hb4 b1 b2 hz HA HB3
    go_wp2_with fail
    go_ret
    exact ⟨rfl, HB4.out⟩
  · have HN : Hid (Calls Tryz.prog 21 #[.slice va ts.length vc] w fun e w' => e = .returned (.tuple #[.slice none 0 0, .int .i64 (wrong ts)]) ∧ Below w.heap.size w w') := normal_bad _ ts w HV.out HL.out HP.out h0
    obtain ⟨x, hx⟩ : ∃ x, wrong ts = x := ⟨_, rfl⟩
    rw [hx] at HN h0
    have hxb : (x != 0) = true := by simpa using h0
    clear hl hs hP hT h0 hx hn0
    go_enter Tryz.func7, Tryz.ntmps7
    go_wp2_with fail
    refine HN.out.mono ?_
    rintro e w1 ⟨rfl, hb1⟩
    have HB1 : Hid (Below w.heap.size w w1) := hb1
    clear hb1 HN
    go_wp2_with fail
    refine (num7_any x _).mono ?_
    rintro e w2 ⟨rfl, rfl⟩
    go_wp2_with fail
    refine (knows7_any _ (HP.out.stay HB1.out) (HT.out.stay HB1.out)).mono ?_
    rintro e w2 ⟨rfl, hb2⟩
    have HB2 : Hid (Below w.heap.size w w2) := go_on HB1.out hb2
    clear hb2
    go_wp2_with fail
    go_ret
    exact ⟨rfl, HB2.out⟩

/-! ### The row's step -/
theorem own : ownKnob Tryz.prog.godebug = none := by kernel_rfl
def laid1 : List (String × DataW Unit) := [("math/bits.deBruijn64tab", Rows.laid_math_bits_deBruijn64tab), ("eggbox/tree.partsOf", Rows.laid_eggbox_tree_partsOf)]
def tabZ : List Int := [0, 0, 0, 0, 0, 2, 2, 2, 1, 1]
def tabT : List Int := Lib.deBruijn64tab.map fun (z : Nat) => (z : Int)
theorem gTab : Tryz.prog.globalNamed "eggbox/tree.partsOf" = some 0 := by kernel_rfl
theorem tTab : (Tryz.prog.globals[0]?).map (·.type) = some 136 := by kernel_rfl
theorem gTz : Tryz.prog.globalNamed "math/bits.deBruijn64tab" = some 1 := by kernel_rfl
theorem tTz : (Tryz.prog.globals[1]?).map (·.type) = some 183 := by kernel_rfl
theorem of_laid {W : World} (h : laidMetH Tryz.prog laid1 W) : PTab W ∧ TzTab W := by
  rw [MakeChecks.laidMetH_plain _ _ _ (by kernel_rfl)] at h
  have h1 : Lib.TabIs Tryz.prog W "math/bits.deBruijn64tab" .u8 tabT :=
    Lib.tabIs_of_head (rest := [("eggbox/tree.partsOf", Rows.laid_eggbox_tree_partsOf)]) gTz tTz Tryz.underlying183 Tryz.underlying5 (by kernel_rfl) (by kernel_rfl) h
  have h2 : Lib.TabIs Tryz.prog W "eggbox/tree.partsOf" .i64 tabZ :=
    Lib.tabIs_of_head (rest := []) gTab tTab Tryz.underlying136 Tryz.underlying3 (by kernel_rfl) (by kernel_rfl) h.tail
  refine ⟨fun j hj => ?_, fun j hj => ?_⟩
  · have := h2.cell gTab j hj
    rw [this]
    have hc : j = 0 ∨ j = 1 ∨ j = 2 ∨ j = 3 ∨ j = 4 ∨ j = 5 ∨ j = 6 ∨ j = 7 ∨ j = 8 ∨ j = 9 := by omega
    rcases hc with rfl | rfl | rfl | rfl | rfl | rfl | rfl | rfl | rfl | rfl <;> rfl
  · have := h1.cell gTz j hj
    rw [this]
    have e : tabT.getD j 0 = ((Lib.deBruijn64tab.getD j 0 : Nat) : Int) := by
      unfold tabT
      rw [List.getD_eq_getElem?_getD, List.getElem?_map, List.getD_eq_getElem?_getD]
      cases Lib.deBruijn64tab[j]? <;> rfl
    rw [e]
/-- The door's own heap meets the condition. -/
theorem door_met (os : Os) (args : Array Value) : laidMetH Tryz.prog laid1 ((World.doorLaid Tryz.prog 400 os).forCall (fun _ _ => 0) ⟨#[], args, []⟩).memory :=
  laidMetH_of_parts3 (fuel := 8) (laidMet_of_run' 8 (by kernel_rfl) (by kernel_rfl)) (by kernel_rfl) (by kernel_rfl)

set_option maxRecDepth 100000 in
theorem lifted (os : Os) (started : os.Started) (H : Type) (enc : TypeId × Value → H) :
    ReturnsInHanded {} Tryz.checked os 7 .any (fun w args => (Rows.derivNormSpec.pre enc Tryz.prog Tryz.f7 [] false w args ∧ laidMetH Tryz.prog laid1 w) ∧ sizedMet enc Tryz.prog Tryz.f7 (OpenSpec.ofChange Rows.derivNormSpec) false w args)
      (Rows.derivNormSpec.post enc Tryz.prog Tryz.f7 false true false false) := by
  refine returnsInHanded_of_change_and (C := Tryz.checked) (X := fun w _ => laidMetH Tryz.prog laid1 w) (fun _ _ _ hh h => h.of_heap hh) own started (by kernel_rfl) Tryz.func7
    (ChangeSpec.witness_shaped (enc := enc) (C := Tryz.checked) (os := os) (X := fun w _ => laidMetH Tryz.prog laid1 w) false (World.doorLaid Tryz.prog 400 os) #[.slice none 0 0, .string ByteArray.empty] 8 rfl (World.shaped_of_RefB (by kernel_rfl) (by kernel_rfl)) (by kernel_rfl) (by kernel_rfl) (by kernel_rfl) (door_met os _)) ?_
  intro W base args ds gs before hval0 hW _ hsz0 hL _
  have hval : ∀ (j : Nat) t v, Tryz.f7.params[j]? = some t → args[j]? = some v → Value.okWide Tryz.prog W .any base t v := hval0
  have hW' := hW
  obtain ⟨p, q, hA0, hV, rfl, hfz, hnd⟩ := hW
  have hA : DataW.TrodAll enc Tryz.prog W 0 (fun _ => true) true Tryz.f7.params.toList args.toList ds p := hA0
  have hsz : (DataW.weightsEach Tryz.prog (Tryz.f7.params.toList ++ Rows.derivNormSpec.plain.varTypes Tryz.prog) (ds ++ gs)).all (· ≤ reachBytes) = true := hsz0
  rw [Tryz.params7] at hA hval hsz
  obtain ⟨v0, vs0, d0, ds0, p0, q0, hargs, rfl, rfl, h0, r0⟩ := trodAll_cons hA
  obtain ⟨v1, vs1, d1, ds1, p1, q1, rfl, rfl, rfl, h1, r1⟩ := trodAll_cons r0
  obtain ⟨rfl, rfl, rfl⟩ := trodAll_nil r1
  obtain rfl : args = #[v0, v1] := by cases args; simp_all
  obtain ⟨rfl, rfl⟩ := trodVars_none hV
  obtain ⟨a0, w0, x0, y0⟩ := open_nodes (hval 0 22 v0 rfl rfl) h0
  have s0 : (a0.length + 2) * 16 ≤ 140737488355328 := by
    rcases y0 with ⟨_, rfl⟩ | ⟨e, s, rfl, hy⟩
    · decide
    · have := sized_slice hsz (j := 0) (t := 22) rfl rfl Tryz.underlying22
      rw [Tryz.bytes_node] at this
      simp only [reachBytes] at this
      omega
  have z0 : a0.length ≤ 9223372036854775806 := by omega
  have g0 : ∀ x ∈ p0, x.block < W.heap.size := fun x hx => hW'.lt x (by simp [hx])
  obtain ⟨a1, rfl, rfl, rfl, w1⟩ := open_string Tryz.underlying9 (hval 1 9 v1 rfl rfl) h1
  have u1 : a1.size ≤ 140737488355327 := by
    have := sized_string hsz (j := 1) (t := 9) rfl rfl
    have e : a1.data.toList.length = a1.size := rfl
    simp only [reachBytes] at this
    omega
  have hTz := of_laid hL
  clear hA0 hval0
  refine (walk v0 a0 a1 W w0 x0.1 s0 u1 hTz.1 hTz.2).mono fun e W' ⟨he, bel⟩ => ?_
  subst he
  exact ⟨_, rfl, _, _, _, [], _, [], hW', trodAll_mk1 (shut_bool Tryz.underlying4 _), (trodAll_cons_mk (Below.trod Tryz.laidOut (by kernel_rfl) (of_decide_eq_true (by kernel_rfl)) h0 bel g0) (trodAll_cons_mk (shut_string Tryz.underlying9 w1) trodAll_mk0)), rfl, bel.frame _, fun h => by cases h⟩

theorem over : Rows.DerivNormSaid :=
  OpenClaim.holds_of_wide 7 Tryz.f7 rfl rfl rfl rfl rfl rfl rfl ⟨rfl, rfl, rfl, rfl, rfl⟩ rfl rfl rfl rfl rfl (by kernel_rfl) Tryz.func7 (by kernel_rfl)
    (of_decide_eq_true (by kernel_rfl)) (by unfold Func.isWrapper; first | (rw [if_pos (by decide +kernel)]; kernel_rfl) | (rw [if_neg (by decide +kernel)]; exact ⟨rfl, rfl⟩))
    (fun os started H enc _ => lifted os started H enc)

theorem card : Rows.DerivNormCardSaid :=
  Claim7.holds_tied_plain_at .later [] [.data, .data] true (true, "f1ddeb86a404e66433fc3edcced06eb03424df9f8f2b565ab381a835c8e8444c") false
    over (fun _ h => by cases h) (by kernel_rfl) (fun _ h => by cases h) derivNorm_row_tie rfl ⟨rfl, rfl⟩ (by kernel_rfl) rfl
    (fun f fn hf hfn => by
      obtain rfl : f = 7 := Option.some.inj ((show Tryz.prog.funcNamed "eggbox/eggboxlaw07.DerivNorm" = some 7 by kernel_rfl).symm.trans hf) |>.symm
      obtain rfl : fn = Tryz.f7 := (Option.some.inj (Tryz.func7.symm.trans hfn)).symm
      exact ⟨by kernel_rfl, fun j t ht => by
        rw [Tryz.params7] at ht
        have hm : t ∈ [22, 9] := by simpa using Array.mem_of_getElem? ht
        have hall : ([22, 9].all fun u => !Tryz.prog.wantsStandIn u) = true := by kernel_rfl
        exact (show Tryz.prog.wantsStandIn t = false by simpa using List.all_eq_true.1 hall t hm)⟩)
    (by kernel_rfl)

end Go.Proofs.YtdgpajdlomihaaaGreatDoor.derivNorm
namespace Go.Proofs.YtdgpajdlomihaaaGreatDoor
/-- The given statement. -/
theorem derivNorm_holds : Rows.DerivNormCardSaid := derivNorm.card
end Go.Proofs.YtdgpajdlomihaaaGreatDoor
