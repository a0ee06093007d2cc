/- Proved: the card of eggboxlaw04.SyntaxRead: it answers true at every k and every text (P4.3, P4.5), with tree.partsOf and syntax.tightness as the program's text lays them: what syntax.Parse read, printed by syntax.Print and read again is the same list of nodes, or its print is too long; and where the text has neither ? nor - the print is no longer than it. -/
import Derived.Test.YtogcnopmgfpojaaDoorVd
import Derived.LaidMore
import Derived.Stop.Joined
import Derived.Lib.LaidTab
import Derived.SevenTiedAt
import Derived.ShutString
import Derived.ChangeMaps5
import Derived.OpenShut
import Derived.ProofKit
import Derived.Test.YtogcnopmgfpojaaDoorTie
import Derived.Test.YtogcnopmgfpojaaDoorCards
namespace Go.Proofs.YtogcnopmgfpojaaDoor.syntaxRead
open Go.ChangeShapes Go.WideShapes Go.ChangeAt Go.RowKit
open Go.ChangeMaps (open_string shut_string)
set_option linter.unusedVariables false

theorem pcode_ok {k : Int} {tx : ByteArray} (h : (pcode k tx).1 = 0) : parseS k tx = .inr (pcode k tx).2 ∧ checkV k (pcode k tx).2 = 0 := by
  unfold pcode at h ⊢
  by_cases h1 : k < 1 ∨ 8 < k
  · rw [if_pos h1] at h; cases h
  by_cases h2 : 1000 < tx.size
  · rw [if_neg h1, if_pos h2] at h; cases h
  rw [if_neg h1, if_neg h2] at h ⊢
  cases hp : parseS k tx with
  | inl p => rw [hp] at h; cases h
  | inr ns =>
    rw [hp] at h
    simp only at h ⊢
    by_cases hc : checkV k ns = 0
    · rw [if_pos hc]; exact ⟨rfl, hc⟩
    · rw [if_neg hc] at h; exact absurd h hc
theorem pcode_err {k : Int} {tx : ByteArray} (h : (pcode k tx).1 ≠ 0) : (pcode k tx).2 = [] := by
  unfold pcode at h ⊢
  split
  · rfl
  split
  · rfl
  next h1 h2 =>
  rw [if_neg h1, if_neg h2] at h
  cases hp : parseS k tx with
  | inl p => rfl
  | inr ns =>
    rw [hp] at h
    simp only at h ⊢
    by_cases hc : checkV k ns = 0
    · rw [if_pos hc] at h; exact absurd rfl h
    · rw [if_neg hc]
theorem print_code {k : Int} {ts : List Nd} (h : checkV k ts = 0) : (printV k ts).2 = 0 ∨ (printV k ts).2 = 40 := by
  unfold printV
  rw [if_neg (by simpa using h)]
  cases runW ts [] with
  | none => right; rfl
  | some ws => left; rfl
theorem short {k : Int} {tx s : ByteArray} {A : List Nd} (h : parseS k tx = .inr A) (hp : printV k A = (s, 0)) (hl : ∀ i (hi : i < tx.size), (tx[i]).toNat ≠ 63 ∧ (tx[i]).toNat ≠ 45) : s.size ≤ tx.size := by
  obtain ⟨e, he, hle⟩ := read_short h (by
    intro c hc
    obtain ⟨i, hi, rfl⟩ := List.mem_iff_getElem.1 hc
    have hi' : i < tx.size := by simpa using hi
    exact hl i hi')
  have := (pcode_print hp).2.1 e he
  rw [this]
  show e.tx.toArray.size ≤ _
  rw [List.size_toArray]
  exact hle
set_option maxHeartbeats 8000000 in
set_option maxRecDepth 100000 in
theorem walk (k : Int) (tx : ByteArray) (w : World) (hk : (Lit.int .i64 k).wf = true) (hx : tx.size ≤ maxLen) (hT : TTab w) (hP : PTab w) :
    Calls Tryd.prog 6 #[.int .i64 k, .string tx] w fun e w' => e = .returned (.bool true) ∧ Below w.heap.size w w' := by
  have hkb := bounds_i64 hk
  have hx2 : tx.size ≤ 9223372036854775807 := by unfold maxLen at hx; omega
  have hx3 : (tx.size : Int) ≤ 9223372036854775807 := by omega
  have HT : Hid (TTab w) := hT
  have HP : Hid (PTab w) := hP
  obtain ⟨c, hc⟩ : ∃ c, (pcode k tx).1 = c := ⟨_, rfl⟩
  obtain ⟨A, hA⟩ : ∃ A, (pcode k tx).2 = A := ⟨_, rfl⟩
  have hl1 := pcode_len k tx
  rw [hA] at hl1
  have HC : Hid ((pcode k tx).1 = c ∧ (pcode k tx).2 = A) := ⟨hc, hA⟩
  clear hT hP hk hx
  go_enter Tryd.func6, Tryd.ntmps6
  go_wp2_with fail
  refine (parse_full k tx hx2 _ HT.out HP.out).mono ?_
  rintro e w1 ⟨a, p, rfl, hoa, hb1⟩
  rw [HC.out.1]
  rw [HC.out.2] at hoa
  obtain ⟨aa, ac, rfl⟩ := own_shape hoa
  have HA1 : Hid (NReads w1 (.slice aa A.length ac) A) := own_nreads hoa
  have HB1 : Hid (Below w.heap.size w w1) := hb1
  clear hoa hb1
  by_cases hc0 : c = 0
  · subst hc0
    obtain ⟨hps, hck⟩ := pcode_ok hc
    rw [hA] at hps hck
    have hpr := print_code hck
    obtain ⟨f, hf⟩ : ∃ f, (printV k A).2 = f := ⟨_, rfl⟩
    obtain ⟨s, hs⟩ : ∃ f, (printV k A).1 = f := ⟨_, rfl⟩
    rw [hf] at hpr
    have HF : Hid ((printV k A).2 = f ∧ (printV k A).1 = s) := ⟨hf, hs⟩
    have HS : Hid (parseS k tx = .inr A) := hps
    clear hc hA hps hck hf hs
    go_wp2_with fail
    refine (num4_any _ _).mono ?_
    rintro e w3 ⟨rfl, rfl⟩
    go_wp2_with fail
    refine (print_any k hkb _ A _ HA1.out (by omega) (HT.out.stay HB1.out) (HP.out.stay HB1.out)).mono ?_
    rintro e w2 ⟨rfl, hb2⟩
    rw [HF.out.1, HF.out.2]
    have HB2 : Hid (Below w.heap.size w w2) := go_on HB1.out hb2
    have HA2 : Hid (NReads w2 (.slice aa A.length ac) A) := HA1.out.stay hb2
    clear hb2
    rcases hpr with rfl | rfl
    · have hp : printV k A = (s, 0) := Prod.ext HF.out.2 HF.out.1
      obtain ⟨hpc, _, hsz, _⟩ := pcode_print hp
      have HPC : Hid (pcode k s = (0, A)) := hpc
      have HPV : Hid (printV k A = (s, 0)) := hp
      clear hp hpc
      go_wp2_with fail
      refine (num4_any _ _).mono ?_
      rintro e w3 ⟨rfl, rfl⟩
      go_wp2_with fail
      refine (parse_full k s (by omega) _ (HT.out.stay HB2.out) (HP.out.stay HB2.out)).mono ?_
      rintro e w3 ⟨u, q, rfl, hou, hb3⟩
      rw [HPC.out] at hou
      rw [HPC.out]
      have hou : w3.ownsRow _ 56 2 u A.length (ndC A) := hou
      obtain ⟨ua, uc, rfl⟩ := own_shape hou
      have HU : Hid (NReads w3 (.slice ua A.length uc) A) := own_nreads hou
      have HA3 : Hid (NReads w3 (.slice aa A.length ac) A) := HA2.out.stay hb3
      have HB3 : Hid (Below w.heap.size w w3) := go_on HB2.out hb3
      clear hou hb3
      go_wp2_with fail
      refine (num4_any _ _).mono ?_
      rintro e w4 ⟨rfl, rfl⟩
      go_wp2_with fail
      refine (same_any _ _ A A _ HA3.out HU.out (by omega)).mono ?_
      rintro e w5 ⟨rfl, hb5⟩
      rw [decide_eq_true (Eq.refl A)]
      have HB5 : Hid (Below w.heap.size w w5) := go_on HB3.out hb5
      clear hb5
      go_wp2_with fail
      go_loop [13] (fun i => ∃ n : Nat, n ≤ tx.size ∧ i = .int .i64 n ∧ (∀ i (hi : i < tx.size), i < n → (tx[i]).toNat ≠ 63 ∧ (tx[i]).toNat ≠ 45)) (fun i => tx.size - (intOf i).toNat)
      case atStart => exact ⟨0, Nat.zero_le _, rfl, fun i _ h => by omega⟩
      case round =>
        obtain ⟨n, hn, rfl, hall⟩ := hrel
        have HA : Hid (∀ i (hi : i < tx.size), i < n → (tx[i]).toNat ≠ 63 ∧ (tx[i]).toNat ≠ 45) := hall
        clear hall
        by_cases hlt : n < tx.size
        · have hltI : (n : Int) < tx.size := by omega
          by_cases h63 : (tx[n]).toNat = 63
          · have hb63 : (((tx[n]).toNat : Int) == 63) = true := by rw [h63]; rfl
            clear h63
            go_wp2_with fail
            refine (live_any _ (HT.out.stay HB5.out) (HP.out.stay HB5.out)).mono ?_
            rintro e w6 ⟨rfl, hb6⟩
            have HB6 : Hid (Below w.heap.size w w6) := go_on HB5.out hb6
            clear hb6
            go_wp2_with fail
            go_ret
            exact ⟨rfl, HB6.out⟩
          have hb63 : (((tx[n]).toNat : Int) == 63) = false := by rw [beq_eq_false_iff_ne]; omega
          by_cases h45 : (tx[n]).toNat = 45
          · have hb45 : (((tx[n]).toNat : Int) == 45) = true := by rw [h45]; rfl
            clear h45 h63
            go_wp2_with fail
            refine (live_any _ (HT.out.stay HB5.out) (HP.out.stay HB5.out)).mono ?_
            rintro e w6 ⟨rfl, hb6⟩
            have HB6 : Hid (Below w.heap.size w w6) := go_on HB5.out hb6
            clear hb6
            go_wp2_with fail
            go_ret
            exact ⟨rfl, HB6.out⟩
          have hb45 : (((tx[n]).toNat : Int) == 45) = false := by rw [beq_eq_false_iff_ne]; omega
          have HN : Hid ((tx[n]).toNat ≠ 63 ∧ (tx[n]).toNat ≠ 45) := ⟨h63, h45⟩
          clear h63 h45
          go_wp2_with fail
          go_round
          case rel =>
            refine ⟨n + 1, by omega, by go_num, fun i hi hlt => ?_⟩
            by_cases he : i = n
            · subst he
              exact HN.out
            · exact HA.out i hi (by omega)
          case measure => simp [intOf]; omega
        · have hltI : ¬ (n : Int) < tx.size := by omega
          have hle : s.size ≤ tx.size := short HS.out HPV.out (fun i hi => HA.out i hi (by omega))
          have hleI : (s.size : Int) ≤ tx.size := by omega
          go_wp2_with fail
          refine (live_any _ (HT.out.stay HB5.out) (HP.out.stay HB5.out)).mono ?_
          rintro e w6 ⟨rfl, hb6⟩
          have HB6 : Hid (Below w.heap.size w w6) := go_on HB5.out hb6
          clear hb6
          go_wp2_with fail
          go_ret
          exact ⟨rfl, HB6.out⟩
    · go_wp2_with fail
      refine (num4_any _ _).mono ?_
      rintro e w3 ⟨rfl, rfl⟩
      go_wp2_with fail
      refine (num4_any _ _).mono ?_
      rintro e w3 ⟨rfl, rfl⟩
      go_wp2_with fail
      refine (live_any _ (HT.out.stay HB2.out) (HP.out.stay HB2.out)).mono ?_
      rintro e w6 ⟨rfl, hb6⟩
      have HB6 : Hid (Below w.heap.size w w6) := go_on HB2.out hb6
      clear hb6
      go_wp2_with fail
      go_ret
      exact ⟨rfl, HB6.out⟩
  · have hAe : A = [] := by rw [← hA]; exact pcode_err (by rw [hc]; exact hc0)
    subst hAe
    have hcb : (c != 0) = true := by simpa using hc0
    clear hc0 hc hA
    go_wp2_with fail
    refine (num4_any _ _).mono ?_
    rintro e w3 ⟨rfl, rfl⟩
    go_wp2_with fail
    refine (live_any _ (HT.out.stay HB1.out) (HP.out.stay HB1.out)).mono ?_
    rintro e w6 ⟨rfl, hb6⟩
    have HB6 : Hid (Below w.heap.size w w6) := go_on HB1.out hb6
    clear hb6
    go_wp2_with fail
    go_ret
    exact ⟨rfl, HB6.out⟩
/-! ### The row's step -/
theorem own : ownKnob Tryd.prog.godebug = none := by kernel_rfl
def laid1 : List (String × DataW Unit) := [("eggbox/tree.partsOf", Rows.laid_eggbox_tree_partsOf), ("eggbox/syntax.tightness", Rows.laid_eggbox_syntax_tightness)]
def tabZ : List Int := [0, 0, 0, 0, 0, 2, 2, 2, 1, 1]
def tabY : List Int := [0, 5, 5, 5, 5, 1, 2, 3, 5, 4]
theorem gTab : Tryd.prog.globalNamed "eggbox/tree.partsOf" = some 1 := by kernel_rfl
theorem tTab : (Tryd.prog.globals[1]?).map (·.type) = some 60 := by kernel_rfl
theorem gTab2 : Tryd.prog.globalNamed "eggbox/syntax.tightness" = some 0 := by kernel_rfl
theorem tTab2 : (Tryd.prog.globals[0]?).map (·.type) = some 60 := by kernel_rfl
theorem tab_second {P : Program} {W : World} {n1 : String} {d1 : DataW Unit} {name : String} {k : IntKind} {zs : List Int} {rest : List (String × DataW Unit)} {g : Nat} {t e : TypeId} {n : Nat}
    (hg : P.globalNamed name = some g) (hty : (P.globals[g]?).map (·.type) = some t) (ht : P.underlying t = some (.array n e)) (he : P.underlying e = some (.int k)) (hce : P.cellsOf e = 1) (hct : P.cellsOf t = n)
    (h : laidMet P ((n1, d1) :: (name, Lib.tabData k zs) :: rest) W) : Lib.TabIs P W name k zs := by
  obtain ⟨ps, ⟨_, _, _, _, p, q, _, _, _, _, hrest, _⟩, _⟩ := h
  obtain ⟨g', t', cs, fuel, p', q', hg', ht', hvar, hd, _, _⟩ := hrest
  obtain rfl := Option.some.inj (hg.symm.trans hg')
  obtain rfl := Option.some.inj (hty.symm.trans ht')
  unfold Lib.TabIs
  rw [hvar, ← Lib.cells_of_tab ht he hce hct hd]
theorem of_laid {W : World} (h : laidMetH Tryd.prog laid1 W) : TTab W ∧ PTab W := by
  rw [MakeChecks.laidMetH_plain _ _ _ (by kernel_rfl)] at h
  have ht : Lib.TabIs Tryd.prog W "eggbox/tree.partsOf" .i64 tabZ :=
    Lib.tabIs_of_head (rest := [("eggbox/syntax.tightness", Rows.laid_eggbox_syntax_tightness)]) gTab tTab Tryd.underlying60 Tryd.underlying3 (by kernel_rfl) (by kernel_rfl) h
  have hs : Lib.TabIs Tryd.prog W "eggbox/syntax.tightness" .i64 tabY :=
    tab_second (rest := []) gTab2 tTab2 Tryd.underlying60 Tryd.underlying3 (by kernel_rfl) (by kernel_rfl) h
  constructor
  · intro j hj
    have := hs.cell gTab2 j hj
    rw [this]
    have hc : j = 0 ∨ j = 1 ∨ j = 2 ∨ j = 3 ∨ j = 4 ∨ j = 5 ∨ j = 6 ∨ j = 7 ∨ j = 8 ∨ j = 9 := by omega
    rcases hc with rfl | rfl | rfl | rfl | rfl | rfl | rfl | rfl | rfl | rfl <;> rfl
  · intro j hj
    have := ht.cell gTab j hj
    rw [this]
    have hc : j = 0 ∨ j = 1 ∨ j = 2 ∨ j = 3 ∨ j = 4 ∨ j = 5 ∨ j = 6 ∨ j = 7 ∨ j = 8 ∨ j = 9 := by omega
    rcases hc with rfl | rfl | rfl | rfl | rfl | rfl | rfl | rfl | rfl | rfl <;> rfl
/-- The door's own heap meets the condition. -/
theorem door_met (os : Os) (args : Array Value) : laidMetH Tryd.prog laid1 ((World.doorLaid Tryd.prog 400 os).forCall (fun _ _ => 0) ⟨#[], args, []⟩).memory :=
  laidMetH_of_parts3 (fuel := 8) (laidMet_of_run' 8 (by kernel_rfl) (by kernel_rfl)) (by kernel_rfl) (by kernel_rfl)

set_option maxRecDepth 100000 in
theorem lifted (os : Os) (started : os.Started) (H : Type) (enc : TypeId × Value → H) :
    ReturnsInHanded {} Tryd.checked os 6 .any (fun w args => (Rows.syntaxReadSpec.pre enc Tryd.prog Tryd.f6 [] false w args ∧ laidMetH Tryd.prog laid1 w) ∧ sizedMet enc Tryd.prog Tryd.f6 (OpenSpec.ofChange Rows.syntaxReadSpec) false w args)
      (Rows.syntaxReadSpec.post enc Tryd.prog Tryd.f6 false true false false) := by
  refine returnsInHanded_of_change_and (C := Tryd.checked) (X := fun w _ => laidMetH Tryd.prog laid1 w) (fun _ _ _ hh h => h.of_heap hh) own started (by kernel_rfl) Tryd.func6
    (ChangeSpec.witness_shaped (enc := enc) (C := Tryd.checked) (os := os) (X := fun w _ => laidMetH Tryd.prog laid1 w) false (World.doorLaid Tryd.prog 400 os) #[.int .i64 0, .string ByteArray.empty] 8 rfl (World.shaped_of_RefB (by kernel_rfl) (by kernel_rfl)) (by kernel_rfl) (by kernel_rfl) (by kernel_rfl) (door_met os _)) ?_
  intro W base args ds gs before hval0 hW _ hsz0 hL _
  have hval : ∀ (j : Nat) t v, Tryd.f6.params[j]? = some t → args[j]? = some v → Value.okWide Tryd.prog W .any base t v := hval0
  have hW' := hW
  obtain ⟨p, q, hA0, hV, rfl, hfz, hnd⟩ := hW
  have hA : DataW.TrodAll enc Tryd.prog W 0 (fun _ => true) true Tryd.f6.params.toList args.toList ds p := hA0
  have hsz : (DataW.weightsEach Tryd.prog (Tryd.f6.params.toList ++ Rows.syntaxReadSpec.plain.varTypes Tryd.prog) (ds ++ gs)).all (· ≤ reachBytes) = true := hsz0
  rw [Tryd.params6] at hA hval hsz
  obtain ⟨v0, vs0, d0, ds0, p0, q0, hargs, rfl, rfl, h0, r0⟩ := trodAll_cons hA
  obtain ⟨v1, vs1, d1, ds1, p1, q1, rfl, rfl, rfl, h1, r1⟩ := trodAll_cons r0
  obtain ⟨rfl, rfl, rfl⟩ := trodAll_nil r1
  obtain rfl : args = #[v0, v1] := by cases args; simp_all
  obtain ⟨rfl, rfl⟩ := trodVars_none hV
  obtain ⟨a0, rfl, rfl, rfl, w0⟩ := open_int Tryd.underlying3 (hval 0 3 v0 rfl rfl) h0
  obtain ⟨a1, rfl, rfl, rfl, w1⟩ := open_string Tryd.underlying9 (hval 1 9 v1 rfl rfl) h1
  have hTz := of_laid hL
  clear hA0 hval0
  refine (walk a0 a1 W w0 w1 hTz.1 hTz.2).mono fun e W' ⟨he, bel⟩ => ?_
  subst he
  exact ⟨_, rfl, _, _, _, [], _, [], hW', trodAll_mk1 (shut_bool Tryd.underlying4 _), (trodAll_cons_mk (shut_int Tryd.underlying3 w0) (trodAll_cons_mk (shut_string Tryd.underlying9 w1) trodAll_mk0)), rfl, bel.frame _, fun h => by cases h⟩

theorem over : Rows.SyntaxReadSaid :=
  OpenClaim.holds_of_wide 6 Tryd.f6 rfl rfl rfl rfl rfl rfl rfl ⟨rfl, rfl, rfl, rfl, rfl⟩ rfl rfl rfl rfl rfl (by kernel_rfl) Tryd.func6 (by kernel_rfl)
    (of_decide_eq_true (by kernel_rfl)) (by unfold Func.isWrapper; first | (rw [if_pos (by decide +kernel)]; kernel_rfl) | (rw [if_neg (by decide +kernel)]; exact ⟨rfl, rfl⟩))
    (fun os started H enc _ => lifted os started H enc)

theorem card : Rows.SyntaxReadCardSaid :=
  Claim7.holds_tied_plain_at .later [] [.data, .data] true (true, "e48e947476c5cceda7b2a36946ccec6e1a0e1013b2625482918b94fcb7057138") false
    over (fun _ h => by cases h) (by kernel_rfl) (fun _ h => by cases h) syntaxRead_row_tie rfl ⟨rfl, rfl⟩ (by kernel_rfl) rfl
    (fun f fn hf hfn => by
      obtain rfl : f = 6 := Option.some.inj ((show Tryd.prog.funcNamed "eggbox/eggboxlaw04.SyntaxRead" = some 6 by kernel_rfl).symm.trans hf) |>.symm
      obtain rfl : fn = Tryd.f6 := (Option.some.inj (Tryd.func6.symm.trans hfn)).symm
      exact ⟨by kernel_rfl, fun j t ht => by
        rw [Tryd.params6] at ht
        have hm : t ∈ [3, 9] := by simpa using Array.mem_of_getElem? ht
        have hall : ([3, 9].all fun u => !Tryd.prog.wantsStandIn u) = true := by kernel_rfl
        exact (show Tryd.prog.wantsStandIn t = false by simpa using List.all_eq_true.1 hall t hm)⟩)
    (by kernel_rfl)

end Go.Proofs.YtogcnopmgfpojaaDoor.syntaxRead
namespace Go.Proofs.YtogcnopmgfpojaaDoor
/-- The given statement. -/
theorem syntaxRead_holds : Rows.SyntaxReadCardSaid := syntaxRead.card
end Go.Proofs.YtogcnopmgfpojaaDoor
