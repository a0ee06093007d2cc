/- Proved: the card of eggboxlaw06.MatchWords: it answers true at every k, every list of nodes and every n (P6.4), with math/bits.deBruijn64tab and tree.partsOf as the program's text lays them: match.Words answers what the document's answers; its arguments read behind the call as before. The card ties the variables to the pruned copy of the project that the seat holds. -/
import Derived.Test.YtfdkkiecibdblaaDoorGl
import Derived.Test.YtfdkkiecibdblaaDoorTl
import Derived.Test.YtfdkkiecibdblaaDoorTn
import Derived.LaidMore
import Derived.Stop.Joined
import Derived.Stop.LaidErr
import Derived.Lib.LaidTab
import Derived.SevenTiedAt
import Derived.ShutString
import Derived.ChangeMaps5
import Derived.Test.YtfdkkiecibdblaaDoorTie
import Derived.Test.YtfdkkiecibdblaaDoorCards
namespace Go.Proofs.YtfdkkiecibdblaaDoor.matchWords
open Go.ChangeShapes Go.WideShapes Go.ChangeAt Go.RowKit
open Go.ChangeMaps (open_string shut_string)
set_option linter.unusedVariables false

set_option maxHeartbeats 16000000 in
set_option maxRecDepth 100000 in
theorem walk (k : Int) (v : Value) (ts : List Nd) (n : Int) (w : World) (hk : (Lit.int .i64 k).wf = true) (hv : NReads w v ts) (hn0 : ∀ c, v = .slice none 0 c → c = 0) (hl : (ts.length + 2) * 16 ≤ 140737488355328) (hn : (Lit.int .i64 n).wf = true) (hP : PTab w) (hT : TzTab w) :
    Calls Tryd.prog 4 #[.int .i64 k, v, .int .i64 n] w fun e w' => e = .returned (.bool true) ∧ Below w.heap.size w w' := by
  have HV : Hid (NReads w v ts) := hv
  have HN0 : Hid (∀ c, v = .slice none 0 c → c = 0) := hn0
  have HL : Hid ((ts.length + 2) * 16 ≤ 140737488355328) := hl
  have HP : Hid (PTab w) := hP
  have HT : Hid (TzTab w) := hT
  have HMW : Hid (∀ (W : World) (u : Value), NReads W u ts → PTab W → TzTab W → Calls Tryd.prog 18 #[.int .i64 k, u, .int .i64 n] W fun e w' => ∃ a bs, e = .returned (.tuple #[a, .int .i64 (wordsE ts k n)]) ∧ SReads w' a bs ∧ (wordsE ts k n = 0 → ∀ t : Tr, t.ok → t.flat = ts → bs.map wl = ansW t k.toNat n.toNat) ∧ (wordsE ts k n ≠ 0 → bs = []) ∧ Below W.heap.size W w') := fun W u hu hP' hT' => by
    by_cases h0 : wordsE ts k n = 0
    · obtain ⟨g1, g2, g3, g4, g5, g6⟩ := wordsE_zero h0
      obtain ⟨t, ht, hf⟩ := tr_of _ ts (Nat.le_refl _) (wrong_zero g1).2
      have := mWords_ok k.toNat n.toNat (by omega) (by omega) (by omega) g6 g1 hu hP' hT' ht hf
      have e1 : ((k.toNat : Nat) : Int) = k := by omega
      have e2 : ((n.toNat : Nat) : Int) = n := by omega
      rw [e1, e2] at this
      refine this.mono ?_
      rintro e w' ⟨a, bs, q1, q2, q3, q4⟩
      rw [h0]
      refine ⟨a, bs, q1, q2, fun _ t' ht' hf' => ?_, fun h => absurd rfl h, q4⟩
      have r1 := run_flat t ht [] []
      have r2 := run_flat t' ht' [] []
      rw [List.append_nil, hf] at r1
      rw [List.append_nil, hf', r1] at r2
      simp only [runR, Option.some.injEq, List.cons.injEq, and_true] at r2
      rw [← r2]
      exact q3
    · refine (mWords_err k n hu (by omega) hP' h0).mono ?_
      rintro e w' ⟨q1, q2⟩
      exact ⟨_, [], q1, ⟨none, 0, rfl, fun i hi => by simp at hi⟩, fun h => absurd h h0, fun _ => rfl, q2⟩
  have HRW : Hid (∀ (W : World), Below w.heap.size w W → Calls Tryd.prog 19 #[.int .i64 k, v, .int .i64 n] W fun e w' => ∃ a bs, e = .returned (.tuple #[a, .int .i64 (wordsE ts k n)]) ∧ SReads w' a bs ∧ (wordsE ts k n = 0 → ∀ t : Tr, t.ok → t.flat = ts → bs.map wl = ansW t k.toNat n.toNat) ∧ (wordsE ts k n ≠ 0 → bs = []) ∧ Below W.heap.size W w') := fun W hb => by
    by_cases h0 : wordsE ts k n = 0
    · obtain ⟨g1, g2, g3, g4, g5, g6⟩ := wordsE_zero h0
      obtain ⟨t, ht, hf⟩ := tr_of _ ts (Nat.le_refl _) (wrong_zero g1).2
      have := rWords_ok k.toNat n.toNat (by omega) (by omega) (by omega) g6 g1 (hv.stay hb) ht hf
      have e1 : ((k.toNat : Nat) : Int) = k := by omega
      have e2 : ((n.toNat : Nat) : Int) = n := by omega
      rw [e1, e2] at this
      refine this.mono ?_
      rintro e w' ⟨a, bs, q1, q2, q3, q4⟩
      rw [h0]
      refine ⟨a, bs, q1, q2, fun _ t' ht' hf' => ?_, fun h => absurd rfl h, q4⟩
      have r1 := run_flat t ht [] []
      have r2 := run_flat t' ht' [] []
      rw [List.append_nil, hf] at r1
      rw [List.append_nil, hf', r1] at r2
      simp only [runR, Option.some.injEq, List.cons.injEq, and_true] at r2
      rw [← r2]
      exact q3
    · refine (rWords_err k n (hv.stay hb) (by omega) h0).mono ?_
      rintro e w' ⟨q1, q2⟩
      exact ⟨_, [], q1, ⟨none, 0, rfl, fun i hi => by simp at hi⟩, fun h => absurd h h0, fun _ => rfl, q2⟩
  have HTR : Hid (wordsE ts k n = 0 → ∃ t : Tr, t.ok ∧ t.flat = ts) := fun h => tr_of _ ts (Nat.le_refl _) (wrong_zero (wordsE_zero h).1).2
  obtain ⟨z, HZ⟩ : ∃ z, Hid (wordsE ts k n = z) := ⟨_, rfl⟩
  rw [HZ.out] at HMW HRW HTR
  clear hP hT hn0 hv hk hn hl
  go_enter Tryd.func4, Tryd.ntmps4
  go_wp2_with fail
  refine (lent_any _ ts _ HV.out HN0.out HL.out).mono ?_
  rintro e w1 ⟨g1, c1, rfl, ho1, hb1⟩
  have B1 : Hid (Below w.heap.size w w1) := hb1
  have R1 : Hid (NReads w1 (.slice (some ⟨g1, 0, none⟩) ts.length c1) ts) := (lent_reads ho1).1
  clear ho1 hb1
  go_wp2_with fail
  refine (HMW.out _ _ R1.out (HP.out.stay B1.out) (HT.out.stay B1.out)).mono ?_
  rintro e w2 ⟨a, bs, rfl, hsa, h1, h2, hb2⟩
  have B2 : Hid (Below w.heap.size w w2) := go_on B1.out hb2
  have HA : Hid (SReads w2 a bs ∧ (z = 0 → ∀ t : Tr, t.ok → t.flat = ts → bs.map wl = ansW t k.toNat n.toNat) ∧ (z ≠ 0 → bs = [])) := ⟨hsa, h1, h2⟩
  clear hsa h1 h2 hb2 B1 R1 HMW
  go_wp2_with fail
  refine (HRW.out _ B2.out).mono ?_
  rintro e w3 ⟨b, bs', rfl, hsb, h1, h2, hb3⟩
  have B3 : Hid (Below w.heap.size w w3) := go_on B2.out hb3
  have HE : Hid (bs = bs') := by
    show bs = bs'
    by_cases h : z = 0
    · obtain ⟨t, ht, hf⟩ := HTR.out h
      have e1 := HA.out.2.1 h t ht hf
      have e2 := h1 h t ht hf
      exact (List.map_inj_right (fun x y e => wl_inj e)).1 (e1.trans e2.symm)
    · rw [HA.out.2.2 h, h2 h]
  have HS : Hid (SReads w3 a bs ∧ SReads w3 b bs ∧ bs.length ≤ 9223372036854775806) := by
    refine ⟨HA.out.1.stay hb3, by rw [HE.out]; exact hsb, ?_⟩
    by_cases h : z = 0
    · obtain ⟨t, ht, hf⟩ := HTR.out h
      have e1 := congrArg List.length (HA.out.2.1 h t ht hf)
      rw [List.length_map] at e1
      have e2 := ans_len (t := t) (k := k.toNat) (n := n.toNat)
      have e3 := (wordsE_zero (HZ.out.trans h)).2.2.2.2.2
      omega
    · rw [HA.out.2.2 h]; simp
  clear hsb h1 h2 hb3 HA HE HRW
  go_wp2_with (first
    | (go_at_call 20; refine (sameWords_any _ _ bs _ HS.out.1 HS.out.2.1 HS.out.2.2).mono ?_; rintro e w4 ⟨rfl, hb4⟩)
    | (go_at_call 16; refine (num6_any _ _).mono ?_; rintro e wn ⟨rfl, rfl⟩)
    | (go_at_call 8; refine (live6_any _ (HP.out.stay (go_on B3.out hb4)) (HT.out.stay (go_on B3.out hb4))).mono ?_; rintro e w9 ⟨rfl, hb9⟩))
  go_ret
  exact ⟨rfl, go_on (go_on B3.out hb4) hb9⟩
/-! ### The row's step -/
theorem own : ownKnob Tryd.prog.godebug = none := by kernel_rfl
def laid1 : List (String × DataW Unit) := [("math/bits.deBruijn64tab", Rows.laid_math_bits_deBruijn64tab), ("eggbox/tree.partsOf", Rows.laid_eggbox_tree_partsOf)]
def tabZ : List Int := [0, 0, 0, 0, 0, 2, 2, 2, 1, 1]
def tabT : List Int := Lib.deBruijn64tab.map fun (z : Nat) => (z : Int)
theorem gTab : Tryd.prog.globalNamed "eggbox/tree.partsOf" = some 1 := by kernel_rfl
theorem tTab : (Tryd.prog.globals[1]?).map (·.type) = some 103 := by kernel_rfl
theorem gTz : Tryd.prog.globalNamed "math/bits.deBruijn64tab" = some 2 := by kernel_rfl
theorem tTz : (Tryd.prog.globals[2]?).map (·.type) = some 112 := by kernel_rfl
theorem of_laid {W : World} (h : laidMetH Tryd.prog laid1 W) : PTab W ∧ TzTab W := by
  rw [MakeChecks.laidMetH_plain _ _ _ (by kernel_rfl)] at h
  have h1 : Lib.TabIs Tryd.prog W "math/bits.deBruijn64tab" .u8 tabT :=
    Lib.tabIs_of_head (rest := [("eggbox/tree.partsOf", Rows.laid_eggbox_tree_partsOf)]) gTz tTz Tryd.underlying112 Tryd.underlying5 (by kernel_rfl) (by kernel_rfl) h
  have h2 : Lib.TabIs Tryd.prog W "eggbox/tree.partsOf" .i64 tabZ :=
    Lib.tabIs_of_head (rest := []) gTab tTab Tryd.underlying103 Tryd.underlying3 (by kernel_rfl) (by kernel_rfl) h.tail
  refine ⟨fun j hj => ?_, fun j hj => ?_⟩
  · have := h2.cell gTab j hj
    rw [this]
    have hc : j = 0 ∨ j = 1 ∨ j = 2 ∨ j = 3 ∨ j = 4 ∨ j = 5 ∨ j = 6 ∨ j = 7 ∨ j = 8 ∨ j = 9 := by omega
    rcases hc with rfl | rfl | rfl | rfl | rfl | rfl | rfl | rfl | rfl | rfl <;> rfl
  · have := h1.cell gTz j hj
    rw [this]
    have e : tabT.getD j 0 = ((Lib.deBruijn64tab.getD j 0 : Nat) : Int) := by
      unfold tabT
      rw [List.getD_eq_getElem?_getD, List.getElem?_map, List.getD_eq_getElem?_getD]
      cases Lib.deBruijn64tab[j]? <;> rfl
    rw [e]
/-- The door's own heap meets the condition. -/
theorem door_met (os : Os) (args : Array Value) : laidMetH Tryd.prog laid1 ((World.doorLaid Tryd.prog 400 os).forCall (fun _ _ => 0) ⟨#[], args, []⟩).memory :=
  laidMetH_of_parts3 (fuel := 8) (laidMet_of_run' 8 (by kernel_rfl) (by kernel_rfl)) (by kernel_rfl) (by kernel_rfl)

set_option maxRecDepth 100000 in
theorem lifted (os : Os) (started : os.Started) (H : Type) (enc : TypeId × Value → H) :
    ReturnsInHanded {} Tryd.checked os 4 .any (fun w args => (Rows.matchWordsSpec.pre enc Tryd.prog Tryd.f4 [] false w args ∧ laidMetH Tryd.prog laid1 w) ∧ sizedMet enc Tryd.prog Tryd.f4 (OpenSpec.ofChange Rows.matchWordsSpec) false w args)
      (Rows.matchWordsSpec.post enc Tryd.prog Tryd.f4 false true false false) := by
  refine returnsInHanded_of_change_and (C := Tryd.checked) (X := fun w _ => laidMetH Tryd.prog laid1 w) (fun _ _ _ hh h => h.of_heap hh) own started (by kernel_rfl) Tryd.func4
    (ChangeSpec.witness_shaped (enc := enc) (C := Tryd.checked) (os := os) (X := fun w _ => laidMetH Tryd.prog laid1 w) false (World.doorLaid Tryd.prog 400 os) #[.int .i64 0, .slice none 0 0, .int .i64 0] 8 rfl (World.shaped_of_RefB (by kernel_rfl) (by kernel_rfl)) (by kernel_rfl) (by kernel_rfl) (by kernel_rfl) (door_met os _)) ?_
  intro W base args ds gs before hval0 hW _ hsz0 hL _
  have hval : ∀ (j : Nat) t v, Tryd.f4.params[j]? = some t → args[j]? = some v → Value.okWide Tryd.prog W .any base t v := hval0
  have hW' := hW
  obtain ⟨p, q, hA0, hV, rfl, hfz, hnd⟩ := hW
  have hA : DataW.TrodAll enc Tryd.prog W 0 (fun _ => true) true Tryd.f4.params.toList args.toList ds p := hA0
  have hsz : (DataW.weightsEach Tryd.prog (Tryd.f4.params.toList ++ Rows.matchWordsSpec.plain.varTypes Tryd.prog) (ds ++ gs)).all (· ≤ reachBytes) = true := hsz0
  rw [Tryd.params4] at hA hval hsz
  obtain ⟨v0, vs0, d0, ds0, p0, q0, hargs, rfl, rfl, h0, r0⟩ := trodAll_cons hA
  obtain ⟨v1, vs1, d1, ds1, p1, q1, rfl, rfl, rfl, h1, r1⟩ := trodAll_cons r0
  obtain ⟨v2, vs2, d2, ds2, p2, q2, rfl, rfl, rfl, h2, r2⟩ := trodAll_cons r1
  obtain ⟨rfl, rfl, rfl⟩ := trodAll_nil r2
  obtain rfl : args = #[v0, v1, v2] := by cases args; simp_all
  obtain ⟨rfl, rfl⟩ := trodVars_none hV
  obtain ⟨a0, rfl, rfl, rfl, w0⟩ := open_int Tryd.underlying3 (hval 0 3 v0 rfl rfl) h0
  obtain ⟨a1, w1, x1, y1⟩ := open_nodes (hval 1 22 v1 rfl rfl) h1
  have s1 : (a1.length + 2) * 16 ≤ 140737488355328 := by
    rcases y1 with ⟨_, rfl⟩ | ⟨e, s, rfl, hy⟩
    · decide
    · have := sized_slice hsz (j := 1) (t := 22) rfl rfl Tryd.underlying22
      rw [Tryd.bytes_node] at this
      simp only [reachBytes] at this
      omega
  have z1 : a1.length ≤ 9223372036854775806 := by omega
  have g1 : ∀ x ∈ p1, x.block < W.heap.size := fun x hx => hW'.lt x (by simp [hx])
  obtain ⟨a2, rfl, rfl, rfl, w2⟩ := open_int Tryd.underlying3 (hval 2 3 v2 rfl rfl) h2
  have hTz := of_laid hL
  clear hA0 hval0
  refine (walk a0 v1 a1 a2 W w0 w1 x1.1 s1 w2 hTz.1 hTz.2).mono fun e W' ⟨he, bel⟩ => ?_
  subst he
  exact ⟨_, rfl, _, _, _, [], _, [], hW', trodAll_mk1 (shut_bool Tryd.underlying4 _), (trodAll_cons_mk (shut_int Tryd.underlying3 w0) (trodAll_cons_mk (Below.trod Tryd.laidOut (by kernel_rfl) (of_decide_eq_true (by kernel_rfl)) h1 bel g1) (trodAll_cons_mk (shut_int Tryd.underlying3 w2) trodAll_mk0))), rfl, bel.frame _, fun h => by cases h⟩

theorem over : Rows.MatchWordsSaid :=
  OpenClaim.holds_of_wide 4 Tryd.f4 rfl rfl rfl rfl rfl rfl rfl ⟨rfl, rfl, rfl, rfl, rfl⟩ rfl rfl rfl rfl rfl (by kernel_rfl) Tryd.func4 (by kernel_rfl)
    (of_decide_eq_true (by kernel_rfl)) (by unfold Func.isWrapper; first | (rw [if_pos (by decide +kernel)]; kernel_rfl) | (rw [if_neg (by decide +kernel)]; exact ⟨rfl, rfl⟩))
    (fun os started H enc _ => lifted os started H enc)

theorem card : Rows.MatchWordsCardSaid :=
  Claim7.holds_tied_plain_at .later [] [.data, .data] true (true, "58895d4f7794a8d4f9f44ccc29c688554d73b9f3c6ecb6e7532dd0a19a11df0f") false
    over (fun _ h => by cases h) (by kernel_rfl) (fun _ h => by cases h) matchWords_row_tie rfl ⟨rfl, rfl⟩ (by kernel_rfl) rfl
    (fun f fn hf hfn => by
      obtain rfl : f = 4 := Option.some.inj ((show Tryd.prog.funcNamed "eggbox/eggboxlaw06.MatchWords" = some 4 by kernel_rfl).symm.trans hf) |>.symm
      obtain rfl : fn = Tryd.f4 := (Option.some.inj (Tryd.func4.symm.trans hfn)).symm
      exact ⟨by kernel_rfl, fun j t ht => by
        rw [Tryd.params4] at ht
        have hm : t ∈ [3, 22, 3] := by simpa using Array.mem_of_getElem? ht
        have hall : ([3, 22, 3].all fun u => !Tryd.prog.wantsStandIn u) = true := by kernel_rfl
        exact (show Tryd.prog.wantsStandIn t = false by simpa using List.all_eq_true.1 hall t hm)⟩)
    (by kernel_rfl)

end Go.Proofs.YtfdkkiecibdblaaDoor.matchWords
namespace Go.Proofs.YtfdkkiecibdblaaDoor
/-- The given statement. -/
theorem matchWords_holds : Rows.MatchWordsCardSaid := matchWords.card
end Go.Proofs.YtfdkkiecibdblaaDoor
