/- Proved: the card of eggboxlaw06.MatchBoole: it answers true at every two lists of nodes and every text (P6.6), with math/bits.deBruijn64tab and tree.partsOf as the program's text lays them: what Union, Inter and Not derive, by match.Member; its arguments read behind the call as before. The card ties the variables to the pruned copy of the project that the seat holds. -/
import Derived.Test.YtfdkkiecibdblaaDoorGj
import Derived.Test.YtfdkkiecibdblaaDoorTn
import Derived.LaidMore
import Derived.Stop.Joined
import Derived.Stop.LaidErr
import Derived.Lib.LaidTab
import Derived.SevenTiedAt
import Derived.ShutString
import Derived.ChangeMaps5
import Derived.Test.YtfdkkiecibdblaaDoorTie
import Derived.Test.YtfdkkiecibdblaaDoorCards
namespace Go.Proofs.YtfdkkiecibdblaaDoor.matchBoole
open Go.ChangeShapes Go.WideShapes Go.ChangeAt Go.RowKit
open Go.ChangeMaps (open_string shut_string)
set_option linter.unusedVariables false

set_option maxHeartbeats 16000000 in
set_option maxRecDepth 100000 in
theorem walk (v : Value) (ts : List Nd) (v' : Value) (rs : List Nd) (s : ByteArray) (w : World) (hv : NReads w v ts) (hn0 : ∀ c, v = .slice none 0 c → c = 0) (hl : (ts.length + 2) * 16 ≤ 140737488355328) (hv' : NReads w v' rs) (hn0' : ∀ c, v' = .slice none 0 c → c = 0) (hl' : (rs.length + 2) * 16 ≤ 140737488355328) (hs : s.size ≤ 140737488355327) (hP : PTab w) (hT : TzTab w) :
    Calls Tryd.prog 6 #[v, v', .string s] w fun e w' => e = .returned (.bool true) ∧ Below w.heap.size w w' := by
  have HV : Hid (NReads w v ts) := hv
  have HV' : Hid (NReads w v' rs) := hv'
  have HP : Hid (PTab w) := hP
  have HT : Hid (TzTab w) := hT
  have HG : Hid (Calls Tryd.prog 21 #[v, .string s] w fun e w' => e = .returned (.bool (decide (wrong ts = 0 ∧ ts.length ≤ 1000 ∧ wordE s = 0))) ∧ Below w.heap.size w w') := good6_any s hv (by omega) (by omega)
  have HG' : Hid (∀ W, Below w.heap.size w W → Calls Tryd.prog 21 #[v', .string s] W fun e w' => e = .returned (.bool (decide (wrong rs = 0 ∧ rs.length ≤ 1000 ∧ wordE s = 0))) ∧ Below W.heap.size W w') := fun W hb => good6_any s (hv'.stay hb) (by omega) (by omega)
  clear hP hT hn0 hn0'
  obtain ⟨va, vc, hva, _⟩ := hv
  obtain ⟨va', vc', hva', _⟩ := hv'
  subst hva
  subst hva'
  obtain ⟨n, HN⟩ : ∃ n, Hid (ts.length = n) := ⟨_, rfl⟩
  obtain ⟨n', HN'⟩ : ∃ n, Hid (rs.length = n) := ⟨_, rfl⟩
  rw [HN.out] at HV HG ⊢
  rw [HN'.out] at HV' HG' ⊢
  by_cases hg : wrong ts = 0 ∧ n ≤ 1000 ∧ wordE s = 0
  rotate_left
  · rw [decide_eq_false hg] at HG
    clear hg
    go_enter Tryd.func6, Tryd.ntmps6
    go_wp2_with fail
    refine HG.out.mono ?_
    rintro e w1 ⟨rfl, hb1⟩
    have B1 : Hid (Below w.heap.size w w1) := hb1
    clear hb1
    go_wp2_with fail
    refine (live6_any _ (HP.out.stay B1.out) (HT.out.stay B1.out)).mono ?_
    rintro e w2 ⟨rfl, hb2⟩
    go_wp2_with fail
    go_ret
    exact ⟨rfl, go_on B1.out hb2⟩
  rw [decide_eq_true hg] at HG
  by_cases hg' : wrong rs = 0 ∧ n' ≤ 1000 ∧ wordE s = 0
  rotate_left
  · rw [decide_eq_false hg'] at HG'
    clear hg hg'
    go_enter Tryd.func6, Tryd.ntmps6
    go_wp2_with fail
    refine HG.out.mono ?_
    rintro e w1 ⟨rfl, hb1⟩
    have B1 : Hid (Below w.heap.size w w1) := hb1
    clear hb1
    go_wp2_with fail
    refine (HG'.out _ B1.out).mono ?_
    rintro e w2 ⟨rfl, hb2⟩
    have B2 : Hid (Below w.heap.size w w2) := go_on B1.out hb2
    clear hb2
    go_wp2_with fail
    refine (live6_any _ (HP.out.stay B2.out) (HT.out.stay B2.out)).mono ?_
    rintro e w3 ⟨rfl, hb3⟩
    go_wp2_with fail
    go_ret
    exact ⟨rfl, go_on B2.out hb3⟩
  rw [decide_eq_true hg'] at HG'
  obtain ⟨x, hx, hxf⟩ := tr_of _ ts (Nat.le_refl _) (wrong_zero hg.1).2
  obtain ⟨y, hy, hyf⟩ := tr_of _ rs (Nat.le_refl _) (wrong_zero hg'.1).2
  have HXY : Hid (x.ok ∧ y.ok ∧ x.flat.length ≤ 1000 ∧ y.flat.length ≤ 1000 ∧ wordE s = 0) := ⟨hx, hy, by rw [hxf, HN.out]; exact hg.2.1, by rw [hyf, HN'.out]; exact hg'.2.1, hg.2.2⟩
  have HRX : Hid (∀ W, Below w.heap.size w W → NReads W (.slice va n vc) x.flat) := fun W hb => by rw [hxf]; exact HV.out.stay hb
  have HRY : Hid (∀ W, Below w.heap.size w W → NReads W (.slice va' n' vc') y.flat) := fun W hb => by rw [hyf]; exact HV'.out.stay hb
  have HPT : Hid (∀ W, Below w.heap.size w W → PTab W ∧ TzTab W) := fun W hb => ⟨HP.out.stay hb, HT.out.stay hb⟩
  clear hg hg' hx hy hxf hyf HV HV' hl hl' hs HN HN'
  go_enter Tryd.func6, Tryd.ntmps6
  go_wp2_with fail
  refine HG.out.mono ?_
  rintro e w1 ⟨rfl, hb1⟩
  have B1 : Hid (Below w.heap.size w w1) := hb1
  clear hb1
  go_wp2_with fail
  refine (HG'.out _ B1.out).mono ?_
  rintro e w2 ⟨rfl, hb2⟩
  have B2 : Hid (Below w.heap.size w w2) := go_on B1.out hb2
  clear hb2 B1
  go_wp2_with fail
  refine (inT_any s (HRX.out _ B2.out) HXY.out.1 (by have := HXY.out; omega) HXY.out.2.2.2.2 (HPT.out _ B2.out).1 (HPT.out _ B2.out).2).mono ?_
  rintro e w3 ⟨a, rfl, ha, hb3⟩
  have HA : Hid (a = true ↔ Lg x (wl s)) := ha
  have B3 : Hid (Below w.heap.size w w3) := go_on B2.out hb3
  clear hb3 B2 ha
  go_wp2_with fail
  refine (inT_any s (HRY.out _ B3.out) HXY.out.2.1 (by have := HXY.out; omega) HXY.out.2.2.2.2 (HPT.out _ B3.out).1 (HPT.out _ B3.out).2).mono ?_
  rintro e w4 ⟨b, rfl, hb, hb4⟩
  have HB : Hid (b = true ↔ Lg y (wl s)) := hb
  have B4 : Hid (Below w.heap.size w w4) := go_on B3.out hb4
  clear hb4 B3 hb
  go_wp2_with fail
  refine (made2_any 5 (HRX.out _ B4.out) (HRY.out _ B4.out) (by have := HXY.out; omega)).mono ?_
  rintro e w5 ⟨u1, rfl, hu1, hb5⟩
  have B5 : Hid (Below w.heap.size w w5) := go_on B4.out hb5
  have R5 : Hid (NReads w5 u1 (Tr.two (5, 0) x y).flat) := hu1
  clear hb5 B4 hu1
  go_wp2_with fail
  refine (made2_any 6 (HRX.out _ B5.out) (HRY.out _ B5.out) (by have := HXY.out; omega)).mono ?_
  rintro e w6 ⟨u2, rfl, hu2, hb6⟩
  have B6 : Hid (Below w.heap.size w w6) := go_on B5.out hb6
  have R6 : Hid (NReads w6 u1 (Tr.two (5, 0) x y).flat ∧ NReads w6 u2 (Tr.two (6, 0) x y).flat) := ⟨R5.out.stay hb6, hu2⟩
  clear hb6 B5 hu2 R5
  go_wp2_with fail
  refine (made1_any 9 (HRX.out _ B6.out) (by have := HXY.out; omega)).mono ?_
  rintro e w7 ⟨u3, rfl, hu3, hb7⟩
  have B7 : Hid (Below w.heap.size w w7) := go_on B6.out hb7
  have R7 : Hid (NReads w7 u1 (Tr.two (5, 0) x y).flat ∧ NReads w7 u2 (Tr.two (6, 0) x y).flat ∧ NReads w7 u3 (Tr.one (9, 0) x).flat) := ⟨R6.out.1.stay hb7, R6.out.2.stay hb7, hu3⟩
  obtain ⟨ua, uc, hua, _⟩ := hu3
  subst hua
  obtain ⟨un, HUN⟩ : ∃ n, Hid ((Tr.one (9, 0) x).flat.length = n) := ⟨_, rfl⟩
  rw [HUN.out] at R7 ⊢
  clear hb7 B6 R6
  go_wp2_with fail
  refine (made1_any 9 R7.out.2.2 (by rw [len_one]; have := HXY.out; omega)).mono ?_
  rintro e w8 ⟨u4, rfl, hu4, hb8⟩
  have B8 : Hid (Below w.heap.size w w8) := go_on B7.out hb8
  have R8 : Hid (NReads w8 u1 (Tr.two (5, 0) x y).flat ∧ NReads w8 u2 (Tr.two (6, 0) x y).flat ∧ NReads w8 (.slice ua un uc) (Tr.one (9, 0) x).flat ∧ NReads w8 u4 (Tr.one (9, 0) (Tr.one (9, 0) x)).flat) := ⟨R7.out.1.stay hb8, R7.out.2.1.stay hb8, R7.out.2.2.stay hb8, hu4⟩
  have HOK : Hid ((Tr.two (5, 0) x y).ok ∧ (Tr.two (6, 0) x y).ok ∧ (Tr.one (9, 0) x).ok ∧ (Tr.one (9, 0) (Tr.one (9, 0) x)).ok) := ⟨ok_two HXY.out.1 HXY.out.2.1 (by simp), ok_two HXY.out.1 HXY.out.2.1 (by simp), ok_one HXY.out.1 (by simp), ok_one (ok_one HXY.out.1 (by simp)) (by simp)⟩
  have HLN : Hid ((Tr.two (5, 0) x y).flat.length ≤ 4000 ∧ (Tr.two (6, 0) x y).flat.length ≤ 4000 ∧ (Tr.one (9, 0) x).flat.length ≤ 4000 ∧ (Tr.one (9, 0) (Tr.one (9, 0) x)).flat.length ≤ 4000) := by
    show _ ∧ _ ∧ _ ∧ _
    rw [len_two, len_two, len_one, len_one, len_one]
    have := HXY.out
    omega
  clear hb8 B7 R7 hu4
  go_wp2_with fail
  refine (inT_any s R8.out.1 HOK.out.1 HLN.out.1 HXY.out.2.2.2.2 (HPT.out _ B8.out).1 (HPT.out _ B8.out).2).mono ?_
  rintro e w9 ⟨b1, rfl, h1, hb9⟩
  obtain rfl : b1 = (a || b) := bool_eq (P := Lg x (wl s) ∨ Lg y (wl s)) (by rw [h1]; simp [Lg]) (by rw [Bool.or_eq_true, HA.out, HB.out])
  have B9 : Hid (Below w.heap.size w w9) := go_on B8.out hb9
  have R9 : Hid (NReads w9 u2 (Tr.two (6, 0) x y).flat ∧ NReads w9 (.slice ua un uc) (Tr.one (9, 0) x).flat ∧ NReads w9 u4 (Tr.one (9, 0) (Tr.one (9, 0) x)).flat) := ⟨R8.out.2.1.stay hb9, R8.out.2.2.1.stay hb9, R8.out.2.2.2.stay hb9⟩
  have HF2 : Hid (∀ b2 : Bool, (b2 = true ↔ Lg (Tr.two (6, 0) x y) (wl s)) → b2 = (a && b)) := fun b2 h => bool_eq (P := Lg x (wl s) ∧ Lg y (wl s)) (by rw [h]; simp [Lg]) (by rw [Bool.and_eq_true, HA.out, HB.out])
  have HF3 : Hid (∀ b2 : Bool, (b2 = true ↔ Lg (Tr.one (9, 0) x) (wl s)) → b2 = !a) := fun b2 h => bool_eq (P := ¬ Lg x (wl s)) (by rw [h]; simp [Lg]) (by rw [← HA.out]; cases a <;> simp)
  have HF4 : Hid (∀ b2 : Bool, (b2 = true ↔ Lg (Tr.one (9, 0) (Tr.one (9, 0) x)) (wl s)) → b2 = a) := fun b2 h => bool_eq (P := Lg x (wl s)) (by rw [h]; simp [Lg]) HA.out
  clear hb9 B8 R8 h1 HA HB HRX HRY HG HG'
  cases a <;> cases b
  all_goals (
    go_wp2_with fail
    refine (inT_any s R9.out.1 HOK.out.2.1 HLN.out.2.1 HXY.out.2.2.2.2 (HPT.out _ B9.out).1 (HPT.out _ B9.out).2).mono ?_
    rintro e w10 ⟨b2, rfl, h2, hb10⟩
    obtain rfl := HF2.out b2 h2
    have B10 : Hid (Below w.heap.size w w10) := go_on B9.out hb10
    have R10 : Hid (NReads w10 (.slice ua un uc) (Tr.one (9, 0) x).flat ∧ NReads w10 u4 (Tr.one (9, 0) (Tr.one (9, 0) x)).flat) := ⟨R9.out.2.1.stay hb10, R9.out.2.2.stay hb10⟩
    clear hb10 h2 B9 R9
    go_wp2_with fail
    refine (inT_any s R10.out.1 HOK.out.2.2.1 HLN.out.2.2.1 HXY.out.2.2.2.2 (HPT.out _ B10.out).1 (HPT.out _ B10.out).2).mono ?_
    rintro e w11 ⟨b3, rfl, h3, hb11⟩
    obtain rfl := HF3.out b3 h3
    have B11 : Hid (Below w.heap.size w w11) := go_on B10.out hb11
    have R11 : Hid (NReads w11 u4 (Tr.one (9, 0) (Tr.one (9, 0) x)).flat) := R10.out.2.stay hb11
    clear hb11 h3 B10 R10
    go_wp2_with fail
    refine (inT_any s R11.out HOK.out.2.2.2 HLN.out.2.2.2 HXY.out.2.2.2.2 (HPT.out _ B11.out).1 (HPT.out _ B11.out).2).mono ?_
    rintro e w12 ⟨b4, rfl, h4, hb12⟩
    obtain rfl := HF4.out b4 h4
    have B12 : Hid (Below w.heap.size w w12) := go_on B11.out hb12
    clear hb12 h4 B11 R11
    go_wp2_with fail
    refine (live6_any _ (HPT.out _ B12.out).1 (HPT.out _ B12.out).2).mono ?_
    rintro e w13 ⟨rfl, hb13⟩
    have B13 : Hid (Below w.heap.size w w13) := go_on B12.out hb13
    clear hb13
    go_wp2_with fail
    go_ret
    exact ⟨rfl, B13.out⟩)
/-! ### The row's step -/
theorem own : ownKnob Tryd.prog.godebug = none := by kernel_rfl
def laid1 : List (String × DataW Unit) := [("math/bits.deBruijn64tab", Rows.laid_math_bits_deBruijn64tab), ("eggbox/tree.partsOf", Rows.laid_eggbox_tree_partsOf)]
def tabZ : List Int := [0, 0, 0, 0, 0, 2, 2, 2, 1, 1]
def tabT : List Int := Lib.deBruijn64tab.map fun (z : Nat) => (z : Int)
theorem gTab : Tryd.prog.globalNamed "eggbox/tree.partsOf" = some 1 := by kernel_rfl
theorem tTab : (Tryd.prog.globals[1]?).map (·.type) = some 103 := by kernel_rfl
theorem gTz : Tryd.prog.globalNamed "math/bits.deBruijn64tab" = some 2 := by kernel_rfl
theorem tTz : (Tryd.prog.globals[2]?).map (·.type) = some 112 := by kernel_rfl
theorem of_laid {W : World} (h : laidMetH Tryd.prog laid1 W) : PTab W ∧ TzTab W := by
  rw [MakeChecks.laidMetH_plain _ _ _ (by kernel_rfl)] at h
  have h1 : Lib.TabIs Tryd.prog W "math/bits.deBruijn64tab" .u8 tabT :=
    Lib.tabIs_of_head (rest := [("eggbox/tree.partsOf", Rows.laid_eggbox_tree_partsOf)]) gTz tTz Tryd.underlying112 Tryd.underlying5 (by kernel_rfl) (by kernel_rfl) h
  have h2 : Lib.TabIs Tryd.prog W "eggbox/tree.partsOf" .i64 tabZ :=
    Lib.tabIs_of_head (rest := []) gTab tTab Tryd.underlying103 Tryd.underlying3 (by kernel_rfl) (by kernel_rfl) h.tail
  refine ⟨fun j hj => ?_, fun j hj => ?_⟩
  · have := h2.cell gTab j hj
    rw [this]
    have hc : j = 0 ∨ j = 1 ∨ j = 2 ∨ j = 3 ∨ j = 4 ∨ j = 5 ∨ j = 6 ∨ j = 7 ∨ j = 8 ∨ j = 9 := by omega
    rcases hc with rfl | rfl | rfl | rfl | rfl | rfl | rfl | rfl | rfl | rfl <;> rfl
  · have := h1.cell gTz j hj
    rw [this]
    have e : tabT.getD j 0 = ((Lib.deBruijn64tab.getD j 0 : Nat) : Int) := by
      unfold tabT
      rw [List.getD_eq_getElem?_getD, List.getElem?_map, List.getD_eq_getElem?_getD]
      cases Lib.deBruijn64tab[j]? <;> rfl
    rw [e]
/-- The door's own heap meets the condition. -/
theorem door_met (os : Os) (args : Array Value) : laidMetH Tryd.prog laid1 ((World.doorLaid Tryd.prog 400 os).forCall (fun _ _ => 0) ⟨#[], args, []⟩).memory :=
  laidMetH_of_parts3 (fuel := 8) (laidMet_of_run' 8 (by kernel_rfl) (by kernel_rfl)) (by kernel_rfl) (by kernel_rfl)

set_option maxRecDepth 100000 in
theorem lifted (os : Os) (started : os.Started) (H : Type) (enc : TypeId × Value → H) :
    ReturnsInHanded {} Tryd.checked os 6 .any (fun w args => (Rows.matchBooleSpec.pre enc Tryd.prog Tryd.f6 [] false w args ∧ laidMetH Tryd.prog laid1 w) ∧ sizedMet enc Tryd.prog Tryd.f6 (OpenSpec.ofChange Rows.matchBooleSpec) false w args)
      (Rows.matchBooleSpec.post enc Tryd.prog Tryd.f6 false true false false) := by
  refine returnsInHanded_of_change_and (C := Tryd.checked) (X := fun w _ => laidMetH Tryd.prog laid1 w) (fun _ _ _ hh h => h.of_heap hh) own started (by kernel_rfl) Tryd.func6
    (ChangeSpec.witness_shaped (enc := enc) (C := Tryd.checked) (os := os) (X := fun w _ => laidMetH Tryd.prog laid1 w) false (World.doorLaid Tryd.prog 400 os) #[.slice none 0 0, .slice none 0 0, .string ByteArray.empty] 8 rfl (World.shaped_of_RefB (by kernel_rfl) (by kernel_rfl)) (by kernel_rfl) (by kernel_rfl) (by kernel_rfl) (door_met os _)) ?_
  intro W base args ds gs before hval0 hW _ hsz0 hL _
  have hval : ∀ (j : Nat) t v, Tryd.f6.params[j]? = some t → args[j]? = some v → Value.okWide Tryd.prog W .any base t v := hval0
  have hW' := hW
  obtain ⟨p, q, hA0, hV, rfl, hfz, hnd⟩ := hW
  have hA : DataW.TrodAll enc Tryd.prog W 0 (fun _ => true) true Tryd.f6.params.toList args.toList ds p := hA0
  have hsz : (DataW.weightsEach Tryd.prog (Tryd.f6.params.toList ++ Rows.matchBooleSpec.plain.varTypes Tryd.prog) (ds ++ gs)).all (· ≤ reachBytes) = true := hsz0
  rw [Tryd.params6] at hA hval hsz
  obtain ⟨v0, vs0, d0, ds0, p0, q0, hargs, rfl, rfl, h0, r0⟩ := trodAll_cons hA
  obtain ⟨v1, vs1, d1, ds1, p1, q1, rfl, rfl, rfl, h1, r1⟩ := trodAll_cons r0
  obtain ⟨v2, vs2, d2, ds2, p2, q2, rfl, rfl, rfl, h2, r2⟩ := trodAll_cons r1
  obtain ⟨rfl, rfl, rfl⟩ := trodAll_nil r2
  obtain rfl : args = #[v0, v1, v2] := by cases args; simp_all
  obtain ⟨rfl, rfl⟩ := trodVars_none hV
  obtain ⟨a0, w0, x0, y0⟩ := open_nodes (hval 0 22 v0 rfl rfl) h0
  have s0 : (a0.length + 2) * 16 ≤ 140737488355328 := by
    rcases y0 with ⟨_, rfl⟩ | ⟨e, s, rfl, hy⟩
    · decide
    · have := sized_slice hsz (j := 0) (t := 22) rfl rfl Tryd.underlying22
      rw [Tryd.bytes_node] at this
      simp only [reachBytes] at this
      omega
  have z0 : a0.length ≤ 9223372036854775806 := by omega
  have g0 : ∀ x ∈ p0, x.block < W.heap.size := fun x hx => hW'.lt x (by simp [hx])
  obtain ⟨a1, w1, x1, y1⟩ := open_nodes (hval 1 22 v1 rfl rfl) h1
  have s1 : (a1.length + 2) * 16 ≤ 140737488355328 := by
    rcases y1 with ⟨_, rfl⟩ | ⟨e, s, rfl, hy⟩
    · decide
    · have := sized_slice hsz (j := 1) (t := 22) rfl rfl Tryd.underlying22
      rw [Tryd.bytes_node] at this
      simp only [reachBytes] at this
      omega
  have z1 : a1.length ≤ 9223372036854775806 := by omega
  have g1 : ∀ x ∈ p1, x.block < W.heap.size := fun x hx => hW'.lt x (by simp [hx])
  obtain ⟨a2, rfl, rfl, rfl, w2⟩ := open_string Tryd.underlying9 (hval 2 9 v2 rfl rfl) h2
  have u2 : a2.size ≤ 140737488355327 := by
    have := sized_string hsz (j := 2) (t := 9) rfl rfl
    have e : a2.data.toList.length = a2.size := rfl
    simp only [reachBytes] at this
    omega
  have hTz := of_laid hL
  clear hA0 hval0
  refine (walk v0 a0 v1 a1 a2 W w0 x0.1 s0 w1 x1.1 s1 u2 hTz.1 hTz.2).mono fun e W' ⟨he, bel⟩ => ?_
  subst he
  exact ⟨_, rfl, _, _, _, [], _, [], hW', trodAll_mk1 (shut_bool Tryd.underlying4 _), (trodAll_cons_mk (Below.trod Tryd.laidOut (by kernel_rfl) (of_decide_eq_true (by kernel_rfl)) h0 bel g0) (trodAll_cons_mk (Below.trod Tryd.laidOut (by kernel_rfl) (of_decide_eq_true (by kernel_rfl)) h1 bel g1) (trodAll_cons_mk (shut_string Tryd.underlying9 w2) trodAll_mk0))), rfl, bel.frame _, fun h => by cases h⟩

theorem over : Rows.MatchBooleSaid :=
  OpenClaim.holds_of_wide 6 Tryd.f6 rfl rfl rfl rfl rfl rfl rfl ⟨rfl, rfl, rfl, rfl, rfl⟩ rfl rfl rfl rfl rfl (by kernel_rfl) Tryd.func6 (by kernel_rfl)
    (of_decide_eq_true (by kernel_rfl)) (by unfold Func.isWrapper; first | (rw [if_pos (by decide +kernel)]; kernel_rfl) | (rw [if_neg (by decide +kernel)]; exact ⟨rfl, rfl⟩))
    (fun os started H enc _ => lifted os started H enc)

theorem card : Rows.MatchBooleCardSaid :=
  Claim7.holds_tied_plain_at .later [] [.data, .data] true (true, "58895d4f7794a8d4f9f44ccc29c688554d73b9f3c6ecb6e7532dd0a19a11df0f") false
    over (fun _ h => by cases h) (by kernel_rfl) (fun _ h => by cases h) matchBoole_row_tie rfl ⟨rfl, rfl⟩ (by kernel_rfl) rfl
    (fun f fn hf hfn => by
      obtain rfl : f = 6 := Option.some.inj ((show Tryd.prog.funcNamed "eggbox/eggboxlaw06.MatchBoole" = some 6 by kernel_rfl).symm.trans hf) |>.symm
      obtain rfl : fn = Tryd.f6 := (Option.some.inj (Tryd.func6.symm.trans hfn)).symm
      exact ⟨by kernel_rfl, fun j t ht => by
        rw [Tryd.params6] at ht
        have hm : t ∈ [22, 22, 9] := by simpa using Array.mem_of_getElem? ht
        have hall : ([22, 22, 9].all fun u => !Tryd.prog.wantsStandIn u) = true := by kernel_rfl
        exact (show Tryd.prog.wantsStandIn t = false by simpa using List.all_eq_true.1 hall t hm)⟩)
    (by kernel_rfl)

end Go.Proofs.YtfdkkiecibdblaaDoor.matchBoole
namespace Go.Proofs.YtfdkkiecibdblaaDoor
/-- The given statement. -/
theorem matchBoole_holds : Rows.MatchBooleCardSaid := matchBoole.card
end Go.Proofs.YtfdkkiecibdblaaDoor
