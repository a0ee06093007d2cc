/- Proved: the card of eggboxlaw07.DerivSays: it answers true at every list of nodes, every byte and every text (P705, Brzozowski), with math/bits.deBruijn64tab and tree.partsOf as the program's text lays them: what deriv.Deriv answers by a letter says a word, by the document's definition, just where the tree says the letter and the word; its arguments read behind the call as before. The card ties the variables to the pruned copy of the project that the seat holds. -/
import Derived.Test.YtdgpajdlomihaaaGreatDoorQS
import Derived.Test.YtdgpajdlomihaaaGreatDoorQGe
import Derived.Test.YtdgpajdlomihaaaGreatDoorQTl
import Derived.Test.YtdgpajdlomihaaaGreatDoorQTn
import Derived.Laws.IdiomStrings
import Derived.LaidMore
import Derived.Stop.Joined
import Derived.Stop.LaidErr
import Derived.Lib.LaidTab
import Derived.SevenTiedAt
import Derived.ShutString
import Derived.ChangeMaps5
import Derived.Test.YtdgpajdlomihaaaGreatDoorTie
import Derived.Test.YtdgpajdlomihaaaGreatDoorCards
namespace Go.Proofs.YtdgpajdlomihaaaGreatDoor.derivSays
open Go.ChangeShapes Go.WideShapes Go.ChangeAt Go.RowKit
open Go.ChangeMaps (open_string shut_string)
set_option linter.unusedVariables false

theorem u8_bounds {n : Int} (h : (Lit.int .u8 n).wf = true) : 0 ≤ n ∧ n ≤ 255 := by
  simp only [Lit.wf, Bool.and_eq_true, decide_eq_true_eq] at h
  have h1 : IntKind.u8.min = 0 := by decide
  have h2 : IntKind.u8.max = 255 := by decide
  rw [h1, h2] at h
  exact h
theorem wl_cons (c : Int) (h0 : 97 ≤ c) (h1 : c ≤ 104) (s : ByteArray) : wl ((⟨#[UInt8.ofNat c.toNat]⟩ : ByteArray) ++ s) = c :: wl s := by
  have e : ((UInt8.ofNat c.toNat).toNat : Int) = c := by
    rw [UInt8.toNat_ofNat']
    omega
  have e2 : ((⟨#[UInt8.ofNat c.toNat]⟩ : ByteArray) ++ s).data.toList = UInt8.ofNat c.toNat :: s.data.toList := by simp
  unfold wl
  rw [e2, List.map_cons, e]
theorem run_one_byte (c : Int) (h0 : 97 ≤ c) (h1 : c ≤ 104) (W : World) : (convert 41 9 (.slice (some ⟨W.heap.size, 0, none⟩) 1 1)).run Tryz.prog (W.alloc (.cells #[.int .u8 c] 5)) = .ok (.string ⟨#[UInt8.ofNat c.toNat]⟩) (W.alloc (.cells #[.int .u8 c] 5)) := by
  have e : ((UInt8.ofNat c.toNat).toNat : Int) = c := by
    rw [UInt8.toNat_ofNat']
    omega
  refine run_convert_bytes_back _ _ _ 5 ⟨W.heap.size, 0, none⟩ 1 [UInt8.ofNat c.toNat] Tryz.underlying41 Tryz.underlying5 Tryz.underlying9 ?_
  intro j hj
  have hj0 : j = 0 := by simp at hj; omega
  subst hj0
  show _ = some (Value.int .u8 (((UInt8.ofNat c.toNat).toNat : Nat) : Int))
  rw [e]
  exact cell_one_new W _ _ 0 _ rfl
theorem says {T : Tr} (ho : T.ok) (c : Int) (u : List Int) : Lg (drv c (nrm T)) u ↔ Lg T (c :: u) := by
  have hn := nrm_ok (t := T) ho
  rw [drv_lg c hn.1 hn.2, nrm_lg ho]

set_option maxHeartbeats 8000000 in
set_option maxRecDepth 100000 in
theorem walk (v : Value) (ts : List Nd) (x : Int) (s : ByteArray) (w : World) (hv : NReads w v ts) (hn0 : ∀ c, v = .slice none 0 c → c = 0) (hl : (ts.length + 2) * 16 ≤ 140737488355328) (hx : (Lit.int .u8 x).wf = true) (hs : s.size ≤ 140737488355327) (hP : PTab w) (hT : TzTab w) :
    Calls Tryz.prog 5 #[v, .int .u8 x, .string s] w fun e w' => e = .returned (.bool true) ∧ Below w.heap.size w w' := by
  have HV : Hid (NReads w v ts) := hv
  have HP : Hid (PTab w) := hP
  have HT : Hid (TzTab w) := hT
  have HL : Hid (ts.length ≤ 9223372036854775806) := by show _ ≤ _; omega
  have HS : Hid (s.size ≤ 140737488355327) := hs
  have hx0 := u8_bounds hx
  obtain ⟨hx1, hx2⟩ := hx0
  obtain ⟨va, vc, hva, _⟩ := hv
  subst hva
  obtain ⟨c, hc⟩ : ∃ c, 97 + x % 8 = c := ⟨_, rfl⟩
  have hc1 : 97 ≤ c := by omega
  have hc2 : c ≤ 104 := by omega
  have hxm : x.tmod 8 = x % 8 := Int.tmod_eq_emod_of_nonneg hx1
  have hwc : IntKind.u8.wrap (97 + x % 8) = c := by rw [hc, IntKind.wrap_u8]; omega
  have HC : Hid (97 ≤ c ∧ c ≤ 104) := ⟨hc1, hc2⟩
  have HDV : Hid (Calls Tryz.prog 10 #[.slice va ts.length vc, .int .u8 c] w (DvQ ts c w)) := dDeriv_any _ ts w c (by omega) (by omega) HV.out HL.out HP.out HT.out
  have HIL : Hid (isLet c = true) := by show _ = _; simp [isLet]; omega
  clear hn0 hl hx hs hP hT
  go_enter Tryz.func5, Tryz.ntmps5
  go_wp2_with fail
  refine HDV.out.mono ?_
  rintro e w1 (⟨h1, rfl, hb1⟩ | ⟨_, h1, _⟩ | ⟨hw0, _, T, ho, hT, hq⟩)
  · have hxb : (wrong ts != 0) = true := by simpa using h1
    obtain ⟨y, hy⟩ : ∃ y, wrong ts = y := ⟨_, rfl⟩
    rw [hy] at hxb ⊢
    have HB1 : Hid (Below w.heap.size w w1) := hb1
    clear hb1 h1 hy
    go_wp2_with fail
    refine (num7_any y _).mono ?_
    rintro e w2 ⟨rfl, rfl⟩
    go_wp2_with fail
    refine (knows7_any _ (HP.out.stay HB1.out) (HT.out.stay HB1.out)).mono ?_
    rintro e w2 ⟨rfl, hb2⟩
    have HB2 : Hid (Below w.heap.size w w2) := go_on HB1.out hb2
    clear hb2
    go_wp2_with fail
    go_ret
    exact ⟨rfl, HB2.out⟩
  · exact absurd h1 (by rw [HIL.out]; decide)
  · rcases hq with ⟨hnf, rfl, hb1⟩ | ⟨hf, u, rfl, hno, hb1⟩
    · have HB1 : Hid (Below w.heap.size w w1) := hb1
      clear hb1 hnf hw0
      go_wp2_with fail
      refine (num7_any 6 _).mono ?_
      rintro e w2 ⟨rfl, rfl⟩
      go_wp2_with fail
      refine (knows7_any _ (HP.out.stay HB1.out) (HT.out.stay HB1.out)).mono ?_
      rintro e w2 ⟨rfl, hb2⟩
      have HB2 : Hid (Below w.heap.size w w2) := go_on HB1.out hb2
      clear hb2
      go_wp2_with fail
      go_ret
      exact ⟨rfl, HB2.out⟩
    · have HB1 : Hid (Below w.heap.size w w1) := hb1
      have HNO : Hid (NReads w1 u (drv c (nrm T)).flat) := hno.reads
      have HF : Hid ((drv c (nrm T)).flat.length ≤ 4000) := fit_len c hf
      have hn := nrm_ok (t := T) ho
      have HOK : Hid (T.ok ∧ T.flat = ts ∧ (drv c (nrm T)).ok) := ⟨ho, hT, (drv_ok c hn.1 hn.2).1⟩
      clear hb1 hno hf hw0 ho hT hn
      go_wp2_with fail
      refine (num7_any 0 _).mono ?_
      rintro e w2 ⟨rfl, rfl⟩
      go_wp2_with fail
      refine (knows7_any _ (HP.out.stay HB1.out) (HT.out.stay HB1.out)).mono ?_
      rintro e w2 ⟨rfl, hb2⟩
      have HB2 : Hid (Below w.heap.size w w2) := go_on HB1.out hb2
      have HN2 : Hid (NReads w2 u (drv c (nrm T)).flat) := HNO.out.stay hb2
      clear hb2
      go_wp2_with fail
      refine (rMember6_any s HN2.out (by have := HF.out; omega) (by have := HS.out; omega)).mono ?_
      rintro e w3 ⟨a, rfl, a1, a2, hb3⟩
      have HB3 : Hid (Below w.heap.size w w3) := go_on HB2.out hb3
      have HA : Hid ((endsE (drv c (nrm T)).flat s 0 ≠ 0 → a = false) ∧ (endsE (drv c (nrm T)).flat s 0 = 0 → ∀ t : Tr, t.ok → t.flat = (drv c (nrm T)).flat → (a = true ↔ Lg t (wl s)))) := ⟨a1, a2⟩
      clear hb3 a1 a2
      obtain ⟨f, hf⟩ : ∃ f, endsE (drv c (nrm T)).flat s 0 = f := ⟨_, rfl⟩
      rw [hf] at HA ⊢
      clear hf
      have hcv := run_one_byte c HC.out.1 HC.out.2 w3
      have HSZ : Hid (((⟨#[UInt8.ofNat c.toNat]⟩ : ByteArray) ++ s).size ≤ 9223372036854775806) := by
        show _ ≤ _
        have h5 : ((⟨#[UInt8.ofNat c.toNat]⟩ : ByteArray) ++ s).size = 1 + s.size := by simp [ByteArray.size_append]; rfl
        rw [h5]
        have := HS.out
        omega
      have HWL : Hid (wl ((⟨#[UInt8.ofNat c.toNat]⟩ : ByteArray) ++ s) = c :: wl s) := wl_cons c HC.out.1 HC.out.2 s
      obtain ⟨B, hB⟩ : ∃ B : ByteArray, B = ⟨#[UInt8.ofNat c.toNat]⟩ := ⟨_, rfl⟩
      rw [← hB] at hcv HSZ HWL
      have hB1 : B.size = 1 := by rw [hB]; rfl
      have hs9 : s.size ≤ 140737488355327 := HS.out
      clear hB
      have HAL : Hid (Below w.heap.size w (w3.alloc (.cells #[.int .u8 c] 5))) := HB3.out.alloc HB3.out.size _
      go_wp2_with fail
      refine (rMember6_any (B ++ s) (HV.out.stay HAL.out) HL.out HSZ.out).mono ?_
      rintro e w4 ⟨b, rfl, b1, b2, hb4⟩
      have HB4 : Hid (Below w.heap.size w w4) := go_on HAL.out hb4
      obtain ⟨g, hg⟩ : ∃ g, endsE ts (B ++ s) 0 = g := ⟨_, rfl⟩
      rw [hg] at b1 b2 ⊢
      have hab : f = 0 → g = 0 → a = b := fun hf hg' => by
        rw [Bool.eq_iff_iff, HA.out.2 hf _ HOK.out.2.2 rfl, b2 hg' T HOK.out.1 HOK.out.2.1, HWL.out]
        exact says HOK.out.1 c _
      clear hb4 b1 b2 hg HA hcv
      by_cases cf : f = 0
      · by_cases cg : g = 0
        · have := hab cf cg
          subst this
          subst cf
          subst cg
          go_wp2_with fail
          go_ret
          exact ⟨rfl, HB4.out⟩
        · have hgb : (g != 0) = true := by simpa using cg
          subst cf
          clear hab cg
          go_wp2_with fail
          go_ret
          exact ⟨rfl, HB4.out⟩
      · have hfb : (f != 0) = true := by simpa using cf
        clear hab cf
        go_wp2_with fail
        go_ret
        exact ⟨rfl, HB4.out⟩
/-! ### The row's step -/
theorem own : ownKnob Tryz.prog.godebug = none := by kernel_rfl
def laid1 : List (String × DataW Unit) := [("math/bits.deBruijn64tab", Rows.laid_math_bits_deBruijn64tab), ("eggbox/tree.partsOf", Rows.laid_eggbox_tree_partsOf)]
def tabZ : List Int := [0, 0, 0, 0, 0, 2, 2, 2, 1, 1]
def tabT : List Int := Lib.deBruijn64tab.map fun (z : Nat) => (z : Int)
theorem gTab : Tryz.prog.globalNamed "eggbox/tree.partsOf" = some 0 := by kernel_rfl
theorem tTab : (Tryz.prog.globals[0]?).map (·.type) = some 136 := by kernel_rfl
theorem gTz : Tryz.prog.globalNamed "math/bits.deBruijn64tab" = some 1 := by kernel_rfl
theorem tTz : (Tryz.prog.globals[1]?).map (·.type) = some 183 := by kernel_rfl
theorem of_laid {W : World} (h : laidMetH Tryz.prog laid1 W) : PTab W ∧ TzTab W := by
  rw [MakeChecks.laidMetH_plain _ _ _ (by kernel_rfl)] at h
  have h1 : Lib.TabIs Tryz.prog W "math/bits.deBruijn64tab" .u8 tabT :=
    Lib.tabIs_of_head (rest := [("eggbox/tree.partsOf", Rows.laid_eggbox_tree_partsOf)]) gTz tTz Tryz.underlying183 Tryz.underlying5 (by kernel_rfl) (by kernel_rfl) h
  have h2 : Lib.TabIs Tryz.prog W "eggbox/tree.partsOf" .i64 tabZ :=
    Lib.tabIs_of_head (rest := []) gTab tTab Tryz.underlying136 Tryz.underlying3 (by kernel_rfl) (by kernel_rfl) h.tail
  refine ⟨fun j hj => ?_, fun j hj => ?_⟩
  · have := h2.cell gTab j hj
    rw [this]
    have hc : j = 0 ∨ j = 1 ∨ j = 2 ∨ j = 3 ∨ j = 4 ∨ j = 5 ∨ j = 6 ∨ j = 7 ∨ j = 8 ∨ j = 9 := by omega
    rcases hc with rfl | rfl | rfl | rfl | rfl | rfl | rfl | rfl | rfl | rfl <;> rfl
  · have := h1.cell gTz j hj
    rw [this]
    have e : tabT.getD j 0 = ((Lib.deBruijn64tab.getD j 0 : Nat) : Int) := by
      unfold tabT
      rw [List.getD_eq_getElem?_getD, List.getElem?_map, List.getD_eq_getElem?_getD]
      cases Lib.deBruijn64tab[j]? <;> rfl
    rw [e]
/-- The door's own heap meets the condition. -/
theorem door_met (os : Os) (args : Array Value) : laidMetH Tryz.prog laid1 ((World.doorLaid Tryz.prog 400 os).forCall (fun _ _ => 0) ⟨#[], args, []⟩).memory :=
  laidMetH_of_parts3 (fuel := 8) (laidMet_of_run' 8 (by kernel_rfl) (by kernel_rfl)) (by kernel_rfl) (by kernel_rfl)

set_option maxRecDepth 100000 in
theorem lifted (os : Os) (started : os.Started) (H : Type) (enc : TypeId × Value → H) :
    ReturnsInHanded {} Tryz.checked os 5 .any (fun w args => (Rows.derivSaysSpec.pre enc Tryz.prog Tryz.f5 [] false w args ∧ laidMetH Tryz.prog laid1 w) ∧ sizedMet enc Tryz.prog Tryz.f5 (OpenSpec.ofChange Rows.derivSaysSpec) false w args)
      (Rows.derivSaysSpec.post enc Tryz.prog Tryz.f5 false true false false) := by
  refine returnsInHanded_of_change_and (C := Tryz.checked) (X := fun w _ => laidMetH Tryz.prog laid1 w) (fun _ _ _ hh h => h.of_heap hh) own started (by kernel_rfl) Tryz.func5
    (ChangeSpec.witness_shaped (enc := enc) (C := Tryz.checked) (os := os) (X := fun w _ => laidMetH Tryz.prog laid1 w) false (World.doorLaid Tryz.prog 400 os) #[.slice none 0 0, .int .u8 0, .string ByteArray.empty] 8 rfl (World.shaped_of_RefB (by kernel_rfl) (by kernel_rfl)) (by kernel_rfl) (by kernel_rfl) (by kernel_rfl) (door_met os _)) ?_
  intro W base args ds gs before hval0 hW _ hsz0 hL _
  have hval : ∀ (j : Nat) t v, Tryz.f5.params[j]? = some t → args[j]? = some v → Value.okWide Tryz.prog W .any base t v := hval0
  have hW' := hW
  obtain ⟨p, q, hA0, hV, rfl, hfz, hnd⟩ := hW
  have hA : DataW.TrodAll enc Tryz.prog W 0 (fun _ => true) true Tryz.f5.params.toList args.toList ds p := hA0
  have hsz : (DataW.weightsEach Tryz.prog (Tryz.f5.params.toList ++ Rows.derivSaysSpec.plain.varTypes Tryz.prog) (ds ++ gs)).all (· ≤ reachBytes) = true := hsz0
  rw [Tryz.params5] at hA hval hsz
  obtain ⟨v0, vs0, d0, ds0, p0, q0, hargs, rfl, rfl, h0, r0⟩ := trodAll_cons hA
  obtain ⟨v1, vs1, d1, ds1, p1, q1, rfl, rfl, rfl, h1, r1⟩ := trodAll_cons r0
  obtain ⟨v2, vs2, d2, ds2, p2, q2, rfl, rfl, rfl, h2, r2⟩ := trodAll_cons r1
  obtain ⟨rfl, rfl, rfl⟩ := trodAll_nil r2
  obtain rfl : args = #[v0, v1, v2] := by cases args; simp_all
  obtain ⟨rfl, rfl⟩ := trodVars_none hV
  obtain ⟨a0, w0, x0, y0⟩ := open_nodes (hval 0 22 v0 rfl rfl) h0
  have s0 : (a0.length + 2) * 16 ≤ 140737488355328 := by
    rcases y0 with ⟨_, rfl⟩ | ⟨e, s, rfl, hy⟩
    · decide
    · have := sized_slice hsz (j := 0) (t := 22) rfl rfl Tryz.underlying22
      rw [Tryz.bytes_node] at this
      simp only [reachBytes] at this
      omega
  have z0 : a0.length ≤ 9223372036854775806 := by omega
  have g0 : ∀ x ∈ p0, x.block < W.heap.size := fun x hx => hW'.lt x (by simp [hx])
  obtain ⟨a1, rfl, rfl, rfl, w1⟩ := open_int Tryz.underlying5 (hval 1 5 v1 rfl rfl) h1
  obtain ⟨a2, rfl, rfl, rfl, w2⟩ := open_string Tryz.underlying9 (hval 2 9 v2 rfl rfl) h2
  have u2 : a2.size ≤ 140737488355327 := by
    have := sized_string hsz (j := 2) (t := 9) rfl rfl
    have e : a2.data.toList.length = a2.size := rfl
    simp only [reachBytes] at this
    omega
  have hTz := of_laid hL
  clear hA0 hval0
  refine (walk v0 a0 a1 a2 W w0 x0.1 s0 w1 u2 hTz.1 hTz.2).mono fun e W' ⟨he, bel⟩ => ?_
  subst he
  exact ⟨_, rfl, _, _, _, [], _, [], hW', trodAll_mk1 (shut_bool Tryz.underlying4 _), (trodAll_cons_mk (Below.trod Tryz.laidOut (by kernel_rfl) (of_decide_eq_true (by kernel_rfl)) h0 bel g0) (trodAll_cons_mk (shut_int Tryz.underlying5 w1) (trodAll_cons_mk (shut_string Tryz.underlying9 w2) trodAll_mk0))), rfl, bel.frame _, fun h => by cases h⟩

theorem over : Rows.DerivSaysSaid :=
  OpenClaim.holds_of_wide 5 Tryz.f5 rfl rfl rfl rfl rfl rfl rfl ⟨rfl, rfl, rfl, rfl, rfl⟩ rfl rfl rfl rfl rfl (by kernel_rfl) Tryz.func5 (by kernel_rfl)
    (of_decide_eq_true (by kernel_rfl)) (by unfold Func.isWrapper; first | (rw [if_pos (by decide +kernel)]; kernel_rfl) | (rw [if_neg (by decide +kernel)]; exact ⟨rfl, rfl⟩))
    (fun os started H enc _ => lifted os started H enc)

theorem card : Rows.DerivSaysCardSaid :=
  Claim7.holds_tied_plain_at .later [] [.data, .data] true (true, "f1ddeb86a404e66433fc3edcced06eb03424df9f8f2b565ab381a835c8e8444c") false
    over (fun _ h => by cases h) (by kernel_rfl) (fun _ h => by cases h) derivSays_row_tie rfl ⟨rfl, rfl⟩ (by kernel_rfl) rfl
    (fun f fn hf hfn => by
      obtain rfl : f = 5 := Option.some.inj ((show Tryz.prog.funcNamed "eggbox/eggboxlaw07.DerivSays" = some 5 by kernel_rfl).symm.trans hf) |>.symm
      obtain rfl : fn = Tryz.f5 := (Option.some.inj (Tryz.func5.symm.trans hfn)).symm
      exact ⟨by kernel_rfl, fun j t ht => by
        rw [Tryz.params5] at ht
        have hm : t ∈ [22, 5, 9] := by simpa using Array.mem_of_getElem? ht
        have hall : ([22, 5, 9].all fun u => !Tryz.prog.wantsStandIn u) = true := by kernel_rfl
        exact (show Tryz.prog.wantsStandIn t = false by simpa using List.all_eq_true.1 hall t hm)⟩)
    (by kernel_rfl)

end Go.Proofs.YtdgpajdlomihaaaGreatDoor.derivSays
namespace Go.Proofs.YtdgpajdlomihaaaGreatDoor
/-- The given statement. -/
theorem derivSays_holds : Rows.DerivSaysCardSaid := derivSays.card
end Go.Proofs.YtdgpajdlomihaaaGreatDoor
