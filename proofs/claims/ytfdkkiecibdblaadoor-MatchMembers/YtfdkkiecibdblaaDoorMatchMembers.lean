/- Proved: the card of eggboxlaw06.MatchMembers: it answers true at every list of nodes, every text and every number (P6.1 to P6.3), with math/bits.deBruijn64tab and tree.partsOf as the program's text lays them: of at most 1000 nodes and 200 letters, match.Nullable, Member and Ends answer what the document's answer, and the list that is handed in stays; its arguments read behind the call as before. The card ties the variables to the pruned copy of the project that the seat holds. -/
import Derived.Test.YtfdkkiecibdblaaDoorGe
import Derived.Test.YtfdkkiecibdblaaDoorTl
import Derived.Test.YtfdkkiecibdblaaDoorTn
import Derived.LaidMore
import Derived.Stop.Joined
import Derived.Stop.LaidErr
import Derived.Lib.LaidTab
import Derived.SevenTiedAt
import Derived.ShutString
import Derived.ChangeMaps5
import Derived.Test.YtfdkkiecibdblaaDoorTie
import Derived.Test.YtfdkkiecibdblaaDoorCards
namespace Go.Proofs.YtfdkkiecibdblaaDoor.matchMembers
open Go.ChangeShapes Go.WideShapes Go.ChangeAt Go.RowKit
open Go.ChangeMaps (open_string shut_string)
set_option linter.unusedVariables false

theorem same_mem {x : Int} {ts : List Nd} {P : Tr → Prop} {a b : Bool} (hw : x = 0 → ∃ t : Tr, t.ok ∧ t.flat = ts) (h1 : x ≠ 0 → a = false) (h2 : x = 0 → ∀ t : Tr, t.ok → t.flat = ts → (a = true ↔ P t)) (h3 : x ≠ 0 → b = false) (h4 : x = 0 → ∀ t : Tr, t.ok → t.flat = ts → (b = true ↔ P t)) : a = b := by
  by_cases h : x = 0
  · obtain ⟨t, ht, hf⟩ := hw h
    rw [Bool.eq_iff_iff, h2 h t ht hf, h4 h t ht hf]
  · rw [h1 h, h3 h]
theorem tree_of {ts : List Nd} (h : wrong ts = 0) : ∃ t : Tr, t.ok ∧ t.flat = ts := tr_of _ ts (Nat.le_refl _) (wrong_zero h).2
theorem tree_ofE {ts : List Nd} {s : ByteArray} {i : Int} (h : endsE ts s i = 0) : ∃ t : Tr, t.ok ∧ t.flat = ts := by
  unfold endsE at h
  by_cases h0 : wrong ts = 0
  · exact tree_of h0
  · rw [if_neg h0] at h; exact absurd h h0

set_option maxHeartbeats 16000000 in
set_option maxRecDepth 100000 in
theorem walk (v : Value) (ts : List Nd) (s : ByteArray) (i : Int) (w : World) (hv : NReads w v ts) (hn0 : ∀ c, v = .slice none 0 c → c = 0) (hl : (ts.length + 2) * 16 ≤ 140737488355328) (hs : s.size ≤ maxLen) (hi : (Lit.int .i64 i).wf = true) (hP : PTab w) (hT : TzTab w) :
    Calls Tryd.prog 3 #[v, .string s, .int .i64 i] w fun e w' => e = .returned (.bool true) ∧ Below w.heap.size w w' := by
  have HV : Hid (NReads w v ts) := hv
  have HN : Hid (∀ c, v = .slice none 0 c → c = 0) := hn0
  have HL : Hid ((ts.length + 2) * 16 ≤ 140737488355328) := hl
  have HP : Hid (PTab w) := hP
  have HT : Hid (TzTab w) := hT
  obtain ⟨va, vcap, hva, _⟩ := hv
  subst hva
  clear hP hT hn0 hi
  by_cases h2 : 200 < s.size
  · have h2I : (200 : Int) < s.size := by omega
    go_enter Tryd.func3, Tryd.ntmps3
    go_wp2_with fail
    refine (live6_any _ HP.out HT.out).mono ?_
    rintro e w1 ⟨rfl, hb1⟩
    go_wp2_with fail
    go_ret
    exact ⟨rfl, hb1⟩
  by_cases h3 : 1000 < ts.length
  · have h2I : ¬ (200 : Int) < s.size := by omega
    have h3I : (1000 : Int) < ts.length := by omega
    go_enter Tryd.func3, Tryd.ntmps3
    go_wp2_with fail
    refine (live6_any _ HP.out HT.out).mono ?_
    rintro e w1 ⟨rfl, hb1⟩
    go_wp2_with fail
    go_ret
    exact ⟨rfl, hb1⟩
  have h2I : ¬ (200 : Int) < s.size := by omega
  have h3I : ¬ (1000 : Int) < ts.length := by omega
  have hL6 : ts.length ≤ 9223372036854775806 := by omega
  have HS : Hid (s.size ≤ 9223372036854775806) := by show _ ≤ _; omega
  have HL6 : Hid (ts.length ≤ 9223372036854775806) := hL6
  obtain ⟨x, HX⟩ : ∃ x, Hid (wrong ts = x) := ⟨_, rfl⟩
  obtain ⟨y, HY⟩ : ∃ y, Hid (endsE ts s 0 = y) := ⟨_, rfl⟩
  obtain ⟨z, HZ⟩ : ∃ z, Hid (endsE ts s i = z) := ⟨_, rfl⟩
  clear hl hs h2 h3 hL6
  go_enter Tryd.func3, Tryd.ntmps3
  go_wp2_with fail
  refine (lent_any _ ts _ HV.out HN.out HL.out).mono ?_
  rintro e w1 ⟨g1, c1, rfl, ho1, hb1⟩
  have B1 : Hid (Below w.heap.size w w1) := hb1
  have O1 : Hid (w1.ownsRow w.heap.size 55 2 (.slice (some ⟨g1, 0, none⟩) (ts.length + 2) c1) (ts.length + 2) (ndC (ts ++ [(-7, 0), (-8, 0)]))) := ho1
  clear ho1 hb1
  go_wp2_with fail
  refine (mNullable_any (lent_reads O1.out).1 HL6.out (HP.out.stay B1.out) (HT.out.stay B1.out)).mono ?_
  rintro e w2 ⟨a, rfl, a1, a2, hb2⟩
  rw [HX.out] at a1 a2 ⊢
  have HA : Hid ((x ≠ 0 → a = false) ∧ (x = 0 → ∀ t : Tr, t.ok → t.flat = ts → (a = true ↔ Lg t []))) := ⟨a1, a2⟩
  have B2 : Hid (Below w.heap.size w w2) := go_on B1.out hb2
  have O2 : Hid (w2.ownsRow w.heap.size 55 2 (.slice (some ⟨g1, 0, none⟩) (ts.length + 2) c1) (ts.length + 2) (ndC (ts ++ [(-7, 0), (-8, 0)]))) := own_below O1.out hb2
  clear hb2 O1 a1 a2
  go_wp2_with fail
  refine (mMember_any s (lent_reads O2.out).1 HL6.out HS.out (HP.out.stay B2.out) (HT.out.stay B2.out)).mono ?_
  rintro e w3 ⟨b, rfl, a1, a2, hb3⟩
  rw [HY.out] at a1 a2 ⊢
  have HBM : Hid ((y ≠ 0 → b = false) ∧ (y = 0 → ∀ t : Tr, t.ok → t.flat = ts → (b = true ↔ Lg t (wl s)))) := ⟨a1, a2⟩
  have B3 : Hid (Below w.heap.size w w3) := go_on B2.out hb3
  have O3 : Hid (w3.ownsRow w.heap.size 55 2 (.slice (some ⟨g1, 0, none⟩) (ts.length + 2) c1) (ts.length + 2) (ndC (ts ++ [(-7, 0), (-8, 0)]))) := own_below O2.out hb3
  clear hb3 O2 a1 a2
  go_wp2_with fail
  refine (mEnds_any s i (lent_reads O3.out).1 HL6.out HS.out (HP.out.stay B3.out) (HT.out.stay B3.out)).mono ?_
  rintro e w4 ⟨M, rfl, _, a1, a2, hb4⟩
  rw [HZ.out] at a1 a2 ⊢
  have HEM : Hid ((z ≠ 0 → M = 0) ∧ (z = 0 → ∀ t : Tr, t.ok → t.flat = ts → EndsOk (Lg t) (wl s) i.toNat M)) := ⟨a1, a2⟩
  have hb4' : Below w3.heap.size w3 (w4.alloc (.cells #[.int .u64 (word M 0 : Nat), .int .u64 (word M 1 : Nat), .int .u64 (word M 2 : Nat), .int .u64 (word M 3 : Nat), .int .u64 (word M 4 : Nat), .int .u64 (word M 5 : Nat), .int .u64 (word M 6 : Nat), .int .u64 (word M 7 : Nat)] 31)) := hb4.alloc hb4.size _
  have B4 : Hid (Below w.heap.size w (w4.alloc (.cells #[.int .u64 (word M 0 : Nat), .int .u64 (word M 1 : Nat), .int .u64 (word M 2 : Nat), .int .u64 (word M 3 : Nat), .int .u64 (word M 4 : Nat), .int .u64 (word M 5 : Nat), .int .u64 (word M 6 : Nat), .int .u64 (word M 7 : Nat)] 31))) := go_on B3.out hb4'
  have O4 : Hid ((w4.alloc (.cells #[.int .u64 (word M 0 : Nat), .int .u64 (word M 1 : Nat), .int .u64 (word M 2 : Nat), .int .u64 (word M 3 : Nat), .int .u64 (word M 4 : Nat), .int .u64 (word M 5 : Nat), .int .u64 (word M 6 : Nat), .int .u64 (word M 7 : Nat)] 31)).ownsRow w.heap.size 55 2 (.slice (some ⟨g1, 0, none⟩) (ts.length + 2) c1) (ts.length + 2) (ndC (ts ++ [(-7, 0), (-8, 0)]))) := own_below O3.out hb4'
  have C4 : Hid (Cells8 (w4.alloc (.cells #[.int .u64 (word M 0 : Nat), .int .u64 (word M 1 : Nat), .int .u64 (word M 2 : Nat), .int .u64 (word M 3 : Nat), .int .u64 (word M 4 : Nat), .int .u64 (word M 5 : Nat), .int .u64 (word M 6 : Nat), .int .u64 (word M 7 : Nat)] 31)) w4.heap.size (word M)) := Cells8.last w4 (word M)
  unfold setV cellsF
  clear hb4 hb4' O3 a1 a2
  go_wp2_with fail
  refine (rNullable6_any (HV.out.stay B4.out) HL6.out).mono ?_
  rintro e w5 ⟨d, rfl, a1, a2, hb5⟩
  rw [HX.out] at a1 a2 ⊢
  obtain rfl : a = d := same_mem (P := fun t => Lg t []) (fun h => tree_of (HX.out.trans h)) HA.out.1 HA.out.2 a1 a2
  have B5 : Hid (Below w.heap.size w w5) := go_on B4.out hb5
  have O5 : Hid (w5.ownsRow w.heap.size 55 2 (.slice (some ⟨g1, 0, none⟩) (ts.length + 2) c1) (ts.length + 2) (ndC (ts ++ [(-7, 0), (-8, 0)]))) := own_below O4.out hb5
  have C5 : Hid (Cells8 w5 w4.heap.size (word M)) := C4.out.stay hb5
  clear hb5 O4 a1 a2 HA C4
  go_wp2_with fail
  refine (rMember6_any s (HV.out.stay B5.out) HL6.out HS.out).mono ?_
  rintro e w6 ⟨u, rfl, a1, a2, hb6⟩
  rw [HY.out] at a1 a2 ⊢
  obtain rfl : b = u := same_mem (P := fun t => Lg t (wl s)) (fun h => tree_ofE (HY.out.trans h)) HBM.out.1 HBM.out.2 a1 a2
  have B6 : Hid (Below w.heap.size w w6) := go_on B5.out hb6
  have O6 : Hid (w6.ownsRow w.heap.size 55 2 (.slice (some ⟨g1, 0, none⟩) (ts.length + 2) c1) (ts.length + 2) (ndC (ts ++ [(-7, 0), (-8, 0)]))) := own_below O5.out hb6
  have C6 : Hid (Cells8 w6 w4.heap.size (word M)) := C5.out.stay hb6
  clear hb6 O5 a1 a2 HBM C5
  go_wp2_with fail
  refine (rEnds6_any s i (HV.out.stay B6.out) HL6.out HS.out).mono ?_
  rintro e w7 ⟨M', rfl, _, a1, a2, hb7⟩
  rw [HZ.out] at a1 a2 ⊢
  obtain rfl : M = M' := by
    by_cases h : z = 0
    · obtain ⟨t, ht, hf⟩ := tree_ofE (HZ.out.trans h)
      exact (HEM.out.2 h t ht hf).uniq (a2 h t ht hf)
    · rw [HEM.out.1 h, a1 h]
  have hb7' : Below w6.heap.size w6 (w7.alloc (.cells #[.int .u64 (word M 0 : Nat), .int .u64 (word M 1 : Nat), .int .u64 (word M 2 : Nat), .int .u64 (word M 3 : Nat), .int .u64 (word M 4 : Nat), .int .u64 (word M 5 : Nat), .int .u64 (word M 6 : Nat), .int .u64 (word M 7 : Nat)] 31)) := hb7.alloc hb7.size _
  have B7 : Hid (Below w.heap.size w (w7.alloc (.cells #[.int .u64 (word M 0 : Nat), .int .u64 (word M 1 : Nat), .int .u64 (word M 2 : Nat), .int .u64 (word M 3 : Nat), .int .u64 (word M 4 : Nat), .int .u64 (word M 5 : Nat), .int .u64 (word M 6 : Nat), .int .u64 (word M 7 : Nat)] 31))) := go_on B6.out hb7'
  have O7 : Hid ((w7.alloc (.cells #[.int .u64 (word M 0 : Nat), .int .u64 (word M 1 : Nat), .int .u64 (word M 2 : Nat), .int .u64 (word M 3 : Nat), .int .u64 (word M 4 : Nat), .int .u64 (word M 5 : Nat), .int .u64 (word M 6 : Nat), .int .u64 (word M 7 : Nat)] 31)).ownsRow w.heap.size 55 2 (.slice (some ⟨g1, 0, none⟩) (ts.length + 2) c1) (ts.length + 2) (ndC (ts ++ [(-7, 0), (-8, 0)]))) := own_below O6.out hb7'
  have C7 : Hid (Cells8 (w7.alloc (.cells #[.int .u64 (word M 0 : Nat), .int .u64 (word M 1 : Nat), .int .u64 (word M 2 : Nat), .int .u64 (word M 3 : Nat), .int .u64 (word M 4 : Nat), .int .u64 (word M 5 : Nat), .int .u64 (word M 6 : Nat), .int .u64 (word M 7 : Nat)] 31)) w4.heap.size (word M)) := C6.out.stay hb7'
  have D7 : Hid (Cells8 (w7.alloc (.cells #[.int .u64 (word M 0 : Nat), .int .u64 (word M 1 : Nat), .int .u64 (word M 2 : Nat), .int .u64 (word M 3 : Nat), .int .u64 (word M 4 : Nat), .int .u64 (word M 5 : Nat), .int .u64 (word M 6 : Nat), .int .u64 (word M 7 : Nat)] 31)) w7.heap.size (word M)) := Cells8.last w7 (word M)
  obtain ⟨k0, k1, k2, k3, k4, k5, k6, k7⟩ := C7.out.gets
  obtain ⟨d0, d1, d2, d3, d4, d5, d6, d7⟩ := D7.out.gets
  have hl4 := C7.out.lt
  have heq := eq_same (word M)
  unfold cellsF at heq
  unfold setV cellsF
  clear hb7 hb7' O6 a1 a2 HEM C6
  go_wp2_with (first
    | (go_at_call 16; refine (num6_any _ _).mono ?_; rintro e wn ⟨rfl, rfl⟩)
    | (go_at_call 17; refine (stay_any _ ts _ (HV.out.stay B7.out) w.heap.size g1 c1 (by have := HL6.out; have := HL.out; omega) O7.out).mono ?_; rintro e w8 ⟨rfl, hb8⟩)
    | (go_at_call 8; refine (live6_any _ (HP.out.stay (go_on B7.out hb8)) (HT.out.stay (go_on B7.out hb8))).mono ?_; rintro e w9 ⟨rfl, hb9⟩))
  go_ret
  exact ⟨rfl, go_on (go_on B7.out hb8) hb9⟩
/-! ### The row's step -/
theorem own : ownKnob Tryd.prog.godebug = none := by kernel_rfl
def laid1 : List (String × DataW Unit) := [("math/bits.deBruijn64tab", Rows.laid_math_bits_deBruijn64tab), ("eggbox/tree.partsOf", Rows.laid_eggbox_tree_partsOf)]
def tabZ : List Int := [0, 0, 0, 0, 0, 2, 2, 2, 1, 1]
def tabT : List Int := Lib.deBruijn64tab.map fun (z : Nat) => (z : Int)
theorem gTab : Tryd.prog.globalNamed "eggbox/tree.partsOf" = some 1 := by kernel_rfl
theorem tTab : (Tryd.prog.globals[1]?).map (·.type) = some 103 := by kernel_rfl
theorem gTz : Tryd.prog.globalNamed "math/bits.deBruijn64tab" = some 2 := by kernel_rfl
theorem tTz : (Tryd.prog.globals[2]?).map (·.type) = some 112 := by kernel_rfl
theorem of_laid {W : World} (h : laidMetH Tryd.prog laid1 W) : PTab W ∧ TzTab W := by
  rw [MakeChecks.laidMetH_plain _ _ _ (by kernel_rfl)] at h
  have h1 : Lib.TabIs Tryd.prog W "math/bits.deBruijn64tab" .u8 tabT :=
    Lib.tabIs_of_head (rest := [("eggbox/tree.partsOf", Rows.laid_eggbox_tree_partsOf)]) gTz tTz Tryd.underlying112 Tryd.underlying5 (by kernel_rfl) (by kernel_rfl) h
  have h2 : Lib.TabIs Tryd.prog W "eggbox/tree.partsOf" .i64 tabZ :=
    Lib.tabIs_of_head (rest := []) gTab tTab Tryd.underlying103 Tryd.underlying3 (by kernel_rfl) (by kernel_rfl) h.tail
  refine ⟨fun j hj => ?_, fun j hj => ?_⟩
  · have := h2.cell gTab j hj
    rw [this]
    have hc : j = 0 ∨ j = 1 ∨ j = 2 ∨ j = 3 ∨ j = 4 ∨ j = 5 ∨ j = 6 ∨ j = 7 ∨ j = 8 ∨ j = 9 := by omega
    rcases hc with rfl | rfl | rfl | rfl | rfl | rfl | rfl | rfl | rfl | rfl <;> rfl
  · have := h1.cell gTz j hj
    rw [this]
    have e : tabT.getD j 0 = ((Lib.deBruijn64tab.getD j 0 : Nat) : Int) := by
      unfold tabT
      rw [List.getD_eq_getElem?_getD, List.getElem?_map, List.getD_eq_getElem?_getD]
      cases Lib.deBruijn64tab[j]? <;> rfl
    rw [e]
/-- The door's own heap meets the condition. -/
theorem door_met (os : Os) (args : Array Value) : laidMetH Tryd.prog laid1 ((World.doorLaid Tryd.prog 400 os).forCall (fun _ _ => 0) ⟨#[], args, []⟩).memory :=
  laidMetH_of_parts3 (fuel := 8) (laidMet_of_run' 8 (by kernel_rfl) (by kernel_rfl)) (by kernel_rfl) (by kernel_rfl)

set_option maxRecDepth 100000 in
theorem lifted (os : Os) (started : os.Started) (H : Type) (enc : TypeId × Value → H) :
    ReturnsInHanded {} Tryd.checked os 3 .any (fun w args => (Rows.matchMembersSpec.pre enc Tryd.prog Tryd.f3 [] false w args ∧ laidMetH Tryd.prog laid1 w) ∧ sizedMet enc Tryd.prog Tryd.f3 (OpenSpec.ofChange Rows.matchMembersSpec) false w args)
      (Rows.matchMembersSpec.post enc Tryd.prog Tryd.f3 false true false false) := by
  refine returnsInHanded_of_change_and (C := Tryd.checked) (X := fun w _ => laidMetH Tryd.prog laid1 w) (fun _ _ _ hh h => h.of_heap hh) own started (by kernel_rfl) Tryd.func3
    (ChangeSpec.witness_shaped (enc := enc) (C := Tryd.checked) (os := os) (X := fun w _ => laidMetH Tryd.prog laid1 w) false (World.doorLaid Tryd.prog 400 os) #[.slice none 0 0, .string ByteArray.empty, .int .i64 0] 8 rfl (World.shaped_of_RefB (by kernel_rfl) (by kernel_rfl)) (by kernel_rfl) (by kernel_rfl) (by kernel_rfl) (door_met os _)) ?_
  intro W base args ds gs before hval0 hW _ hsz0 hL _
  have hval : ∀ (j : Nat) t v, Tryd.f3.params[j]? = some t → args[j]? = some v → Value.okWide Tryd.prog W .any base t v := hval0
  have hW' := hW
  obtain ⟨p, q, hA0, hV, rfl, hfz, hnd⟩ := hW
  have hA : DataW.TrodAll enc Tryd.prog W 0 (fun _ => true) true Tryd.f3.params.toList args.toList ds p := hA0
  have hsz : (DataW.weightsEach Tryd.prog (Tryd.f3.params.toList ++ Rows.matchMembersSpec.plain.varTypes Tryd.prog) (ds ++ gs)).all (· ≤ reachBytes) = true := hsz0
  rw [Tryd.params3] at hA hval hsz
  obtain ⟨v0, vs0, d0, ds0, p0, q0, hargs, rfl, rfl, h0, r0⟩ := trodAll_cons hA
  obtain ⟨v1, vs1, d1, ds1, p1, q1, rfl, rfl, rfl, h1, r1⟩ := trodAll_cons r0
  obtain ⟨v2, vs2, d2, ds2, p2, q2, rfl, rfl, rfl, h2, r2⟩ := trodAll_cons r1
  obtain ⟨rfl, rfl, rfl⟩ := trodAll_nil r2
  obtain rfl : args = #[v0, v1, v2] := by cases args; simp_all
  obtain ⟨rfl, rfl⟩ := trodVars_none hV
  obtain ⟨a0, w0, x0, y0⟩ := open_nodes (hval 0 22 v0 rfl rfl) h0
  have s0 : (a0.length + 2) * 16 ≤ 140737488355328 := by
    rcases y0 with ⟨_, rfl⟩ | ⟨e, s, rfl, hy⟩
    · decide
    · have := sized_slice hsz (j := 0) (t := 22) rfl rfl Tryd.underlying22
      rw [Tryd.bytes_node] at this
      simp only [reachBytes] at this
      omega
  have z0 : a0.length ≤ 9223372036854775806 := by omega
  have g0 : ∀ x ∈ p0, x.block < W.heap.size := fun x hx => hW'.lt x (by simp [hx])
  obtain ⟨a1, rfl, rfl, rfl, w1⟩ := open_string Tryd.underlying9 (hval 1 9 v1 rfl rfl) h1
  obtain ⟨a2, rfl, rfl, rfl, w2⟩ := open_int Tryd.underlying3 (hval 2 3 v2 rfl rfl) h2
  have hTz := of_laid hL
  clear hA0 hval0
  refine (walk v0 a0 a1 a2 W w0 x0.1 s0 w1 w2 hTz.1 hTz.2).mono fun e W' ⟨he, bel⟩ => ?_
  subst he
  exact ⟨_, rfl, _, _, _, [], _, [], hW', trodAll_mk1 (shut_bool Tryd.underlying4 _), (trodAll_cons_mk (Below.trod Tryd.laidOut (by kernel_rfl) (of_decide_eq_true (by kernel_rfl)) h0 bel g0) (trodAll_cons_mk (shut_string Tryd.underlying9 w1) (trodAll_cons_mk (shut_int Tryd.underlying3 w2) trodAll_mk0))), rfl, bel.frame _, fun h => by cases h⟩

theorem over : Rows.MatchMembersSaid :=
  OpenClaim.holds_of_wide 3 Tryd.f3 rfl rfl rfl rfl rfl rfl rfl ⟨rfl, rfl, rfl, rfl, rfl⟩ rfl rfl rfl rfl rfl (by kernel_rfl) Tryd.func3 (by kernel_rfl)
    (of_decide_eq_true (by kernel_rfl)) (by unfold Func.isWrapper; first | (rw [if_pos (by decide +kernel)]; kernel_rfl) | (rw [if_neg (by decide +kernel)]; exact ⟨rfl, rfl⟩))
    (fun os started H enc _ => lifted os started H enc)

theorem card : Rows.MatchMembersCardSaid :=
  Claim7.holds_tied_plain_at .later [] [.data, .data] true (true, "58895d4f7794a8d4f9f44ccc29c688554d73b9f3c6ecb6e7532dd0a19a11df0f") false
    over (fun _ h => by cases h) (by kernel_rfl) (fun _ h => by cases h) matchMembers_row_tie rfl ⟨rfl, rfl⟩ (by kernel_rfl) rfl
    (fun f fn hf hfn => by
      obtain rfl : f = 3 := Option.some.inj ((show Tryd.prog.funcNamed "eggbox/eggboxlaw06.MatchMembers" = some 3 by kernel_rfl).symm.trans hf) |>.symm
      obtain rfl : fn = Tryd.f3 := (Option.some.inj (Tryd.func3.symm.trans hfn)).symm
      exact ⟨by kernel_rfl, fun j t ht => by
        rw [Tryd.params3] at ht
        have hm : t ∈ [22, 9, 3] := by simpa using Array.mem_of_getElem? ht
        have hall : ([22, 9, 3].all fun u => !Tryd.prog.wantsStandIn u) = true := by kernel_rfl
        exact (show Tryd.prog.wantsStandIn t = false by simpa using List.all_eq_true.1 hall t hm)⟩)
    (by kernel_rfl)

end Go.Proofs.YtfdkkiecibdblaaDoor.matchMembers
namespace Go.Proofs.YtfdkkiecibdblaaDoor
/-- The given statement. -/
theorem matchMembers_holds : Rows.MatchMembersCardSaid := matchMembers.card
end Go.Proofs.YtfdkkiecibdblaaDoor
