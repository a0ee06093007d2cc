/- Proved: the card of eggboxlaw06.MatchMoved: it answers true at every list of nodes and every two texts (P6.5), with math/bits.deBruijn64tab and tree.partsOf as the program's text lays them: Ends, Member and Nullable are of one answer, and a piece's ends hang on that piece alone; its arguments read behind the call as before. The card ties the variables to the pruned copy of the project that the seat holds. -/
import Derived.Test.YtfdkkiecibdblaaDoorGi
import Derived.Test.YtfdkkiecibdblaaDoorTn
import Derived.LaidMore
import Derived.Laws.Concat
import Derived.Stop.Joined
import Derived.Stop.LaidErr
import Derived.Lib.LaidTab
import Derived.SevenTiedAt
import Derived.ShutString
import Derived.ChangeMaps5
import Derived.Test.YtfdkkiecibdblaaDoorTie
import Derived.Test.YtfdkkiecibdblaaDoorCards
namespace Go.Proofs.YtfdkkiecibdblaaDoor.matchMoved
open Go.ChangeShapes Go.WideShapes Go.ChangeAt Go.RowKit
open Go.ChangeMaps (open_string shut_string)
set_option linter.unusedVariables false

set_option maxHeartbeats 16000000 in
set_option maxRecDepth 100000 in
theorem walk (v : Value) (ts : List Nd) (u s : ByteArray) (w : World) (hv : NReads w v ts) (hn0 : ∀ c, v = .slice none 0 c → c = 0) (hl : (ts.length + 2) * 16 ≤ 140737488355328) (hu : u.size ≤ 140737488355327) (hs : s.size ≤ 140737488355327) (hP : PTab w) (hT : TzTab w) :
    Calls Tryd.prog 5 #[v, .string u, .string s] w fun e w' => e = .returned (.bool true) ∧ Below w.heap.size w w' := by
  have HV : Hid (NReads w v ts) := hv
  have HP : Hid (PTab w) := hP
  have HT : Hid (TzTab w) := hT
  have hL6 : ts.length ≤ 9223372036854775806 := by omega
  have HG : Hid (Calls Tryd.prog 21 #[v, .string (u ++ s)] w fun e w' => e = .returned (.bool (decide (wrong ts = 0 ∧ ts.length ≤ 1000 ∧ wordE (u ++ s) = 0))) ∧ Below w.heap.size w w') := good6_any (u ++ s) hv hL6 (by rw [ByteArray.size_append]; omega)
  clear hP hT hn0
  by_cases hg : wrong ts = 0 ∧ ts.length ≤ 1000 ∧ wordE (u ++ s) = 0
  rotate_left
  · rw [decide_eq_false hg] at HG
    clear hg
    go_enter Tryd.func5, Tryd.ntmps5
    go_wp2_with fail
    refine HG.out.mono ?_
    rintro e w1 ⟨rfl, hb1⟩
    have B1 : Hid (Below w.heap.size w w1) := hb1
    clear hb1
    go_wp2_with fail
    refine (live6_any _ (HP.out.stay B1.out) (HT.out.stay B1.out)).mono ?_
    rintro e w2 ⟨rfl, hb2⟩
    go_wp2_with fail
    go_ret
    exact ⟨rfl, go_on B1.out hb2⟩
  rw [decide_eq_true hg] at HG
  obtain ⟨hw0, hl1, hwe⟩ := hg
  obtain ⟨hu0, hs0, hus⟩ := wordE_append hwe
  obtain ⟨t, ht, hf⟩ := tr_of _ ts (Nat.le_refl _) (wrong_zero hw0).2
  have HTR : Hid (t.ok ∧ t.flat = ts) := ⟨ht, hf⟩
  have HSU : Hid (u.size + s.size ≤ 511) := hus
  have hsu : (u ++ s).size = u.size + s.size := ByteArray.size_append
  have HE1 : Hid (∀ W, Below w.heap.size w W → Calls Tryd.prog 12 #[v, .string s, .int .i64 0] W fun e w' => ∃ M, e = .returned (.tuple #[setV M, .int .i64 0]) ∧ (Fits M ∧ EndsOk (Lg t) (wl s) 0 M) ∧ Below W.heap.size W w') := fun W hb => by
    refine (mEnds_any s 0 (hv.stay hb) hL6 (by omega) (HP.out.stay hb) (HT.out.stay hb)).mono ?_
    rintro e w' ⟨M, h1, h2, _, h3, h4⟩
    have h0 : endsE ts s 0 = 0 := ends_ok0 (n := 0) hw0 hs0 (Nat.zero_le _)
    rw [h0] at h1
    exact ⟨M, h1, ⟨h2, h3 h0 t ht hf⟩, h4⟩
  have HE2 : Hid (∀ W, Below w.heap.size w W → Calls Tryd.prog 12 #[v, .string (u ++ s), .int .i64 (u.size : Int)] W fun e w' => ∃ M, e = .returned (.tuple #[setV M, .int .i64 0]) ∧ (EndsOk (Lg t) (wl (u ++ s)) u.size M) ∧ Below W.heap.size W w') := fun W hb => by
    refine (mEnds_any (u ++ s) (u.size : Int) (hv.stay hb) hL6 (by omega) (HP.out.stay hb) (HT.out.stay hb)).mono ?_
    rintro e w' ⟨M, h1, _, _, h3, h4⟩
    have h0 : endsE ts (u ++ s) (u.size : Int) = 0 := ends_ok0 hw0 hwe (by omega)
    rw [h0] at h1
    have := h3 h0 t ht hf
    rw [Int.toNat_natCast] at this
    exact ⟨M, h1, this, h4⟩
  have HNU : Hid (∀ W, Below w.heap.size w W → Calls Tryd.prog 10 #[v] W fun e w' => ∃ b : Bool, e = .returned (.tuple #[.bool b, .int .i64 0]) ∧ (b = true ↔ Lg t []) ∧ Below W.heap.size W w') := fun W hb => by
    refine (mNullable_any (hv.stay hb) hL6 (HP.out.stay hb) (HT.out.stay hb)).mono ?_
    rintro e w' ⟨b, h1, _, h3, h4⟩
    rw [hw0] at h1
    exact ⟨b, h1, h3 hw0 t ht hf, h4⟩
  have HIN : Hid (∀ (r : ByteArray), wordE r = 0 → ∀ W, Below w.heap.size w W → Calls Tryd.prog 23 #[v, .string r] W fun e w' => ∃ b : Bool, e = .returned (.bool b) ∧ (b = true ↔ Lg t (wl r)) ∧ Below W.heap.size W w') := fun r hr W hb => by
    refine (in6_any r (hv.stay hb) hL6 (by have := wordE_zero hr; omega) (HP.out.stay hb) (HT.out.stay hb) (ends_ok0 (n := 0) hw0 hr (Nat.zero_le _))).mono ?_
    rintro e w' ⟨b, h1, h3, h4⟩
    exact ⟨b, h1, h3 t ht hf, h4⟩
  have HW0 : Hid (wordE s = 0 ∧ wordE ⟨#[]⟩ = 0) := ⟨hs0, by decide⟩
  clear hw0 hl1 hwe hu0 hs0 hus ht hf hv hL6 hl
  go_enter Tryd.func5, Tryd.ntmps5
  go_wp2_with fail
  refine HG.out.mono ?_
  rintro e w1 ⟨rfl, hb1⟩
  have B1 : Hid (Below w.heap.size w w1) := hb1
  clear hb1
  go_wp2_with fail
  refine (HE1.out _ B1.out).mono ?_
  rintro e w2 ⟨M, rfl, hM, hb2⟩
  have HM : Hid (Fits M ∧ EndsOk (Lg t) (wl s) 0 M) := hM
  have B2 : Hid (Below w.heap.size w (w2.alloc (.cells #[.int .u64 (word M 0 : Nat), .int .u64 (word M 1 : Nat), .int .u64 (word M 2 : Nat), .int .u64 (word M 3 : Nat), .int .u64 (word M 4 : Nat), .int .u64 (word M 5 : Nat), .int .u64 (word M 6 : Nat), .int .u64 (word M 7 : Nat)] 31))) := go_on B1.out (hb2.alloc hb2.size _)
  have C2 : Hid (Cells8 (w2.alloc (.cells #[.int .u64 (word M 0 : Nat), .int .u64 (word M 1 : Nat), .int .u64 (word M 2 : Nat), .int .u64 (word M 3 : Nat), .int .u64 (word M 4 : Nat), .int .u64 (word M 5 : Nat), .int .u64 (word M 6 : Nat), .int .u64 (word M 7 : Nat)] 31)) w2.heap.size (word M)) := Cells8.last w2 (word M)
  clear hM hb2 B1
  unfold setV cellsF
  go_wp2_with fail
  refine (HE2.out _ B2.out).mono ?_
  rintro e w3 ⟨M', rfl, hM', hb3⟩
  obtain ⟨X, hX⟩ : ∃ X, shiftN M u.size = X := ⟨_, rfl⟩
  have HXM : Hid (shiftN M u.size = X) := hX
  obtain rfl : X = M' := by
    rw [← hX]
    have hd : (wl (u ++ s)).drop u.size = wl s := by rw [wl_append, List.drop_left' (wl_len u)]
    have h1 : EndsOk (Lg t) ((wl (u ++ s)).drop u.size) 0 M := by rw [hd]; exact HM.out.2
    refine (ends_moved (by rw [wl_len, hsu]; omega) h1 (fun q => ?_)).uniq hM'
    refine shift_bits M u.size (by have := HSU.out; omega) (fun q hq => ?_) q
    have := ((HM.out.2 q).1 hq).2.1
    rw [wl_len] at this
    have := HSU.out
    omega
  have B3 : Hid (Below w.heap.size w (w3.alloc (.cells #[.int .u64 (word X 0 : Nat), .int .u64 (word X 1 : Nat), .int .u64 (word X 2 : Nat), .int .u64 (word X 3 : Nat), .int .u64 (word X 4 : Nat), .int .u64 (word X 5 : Nat), .int .u64 (word X 6 : Nat), .int .u64 (word X 7 : Nat)] 31))) := go_on B2.out (hb3.alloc hb3.size _)
  have C3 : Hid (Cells8 (w3.alloc (.cells #[.int .u64 (word X 0 : Nat), .int .u64 (word X 1 : Nat), .int .u64 (word X 2 : Nat), .int .u64 (word X 3 : Nat), .int .u64 (word X 4 : Nat), .int .u64 (word X 5 : Nat), .int .u64 (word X 6 : Nat), .int .u64 (word X 7 : Nat)] 31)) w2.heap.size (word M)) := C2.out.stay (hb3.alloc hb3.size _)
  have D3 : Hid (Cells8 (w3.alloc (.cells #[.int .u64 (word X 0 : Nat), .int .u64 (word X 1 : Nat), .int .u64 (word X 2 : Nat), .int .u64 (word X 3 : Nat), .int .u64 (word X 4 : Nat), .int .u64 (word X 5 : Nat), .int .u64 (word X 6 : Nat), .int .u64 (word X 7 : Nat)] 31)) w3.heap.size (word X)) := Cells8.last w3 (word X)
  clear hM' hb3 B2 C2 hX
  unfold setV cellsF
  go_wp2_with fail
  refine (HNU.out _ B3.out).mono ?_
  rintro e w4 ⟨b, rfl, hb, hb4⟩
  have HBN : Hid (b = true ↔ Lg t []) := hb
  have B4 : Hid (Below w.heap.size w w4) := go_on B3.out hb4
  have C4 : Hid (Cells8 w4 w2.heap.size (word M)) := C3.out.stay hb4
  have D4 : Hid (Cells8 w4 w3.heap.size (word X)) := D3.out.stay hb4
  obtain ⟨k0, k1, k2, k3, k4, k5, k6, k7⟩ := C4.out.gets
  have hl4 := C4.out.lt
  clear hb hb4 B3 C3 D3
  have HAS : Hid (∀ (n : Nat) W, Calls Tryd.prog 22 #[.agg #[.int .u64 (word M 0 : Nat), .int .u64 (word M 1 : Nat), .int .u64 (word M 2 : Nat), .int .u64 (word M 3 : Nat), .int .u64 (word M 4 : Nat), .int .u64 (word M 5 : Nat), .int .u64 (word M 6 : Nat), .int .u64 (word M 7 : Nat)], .int .i64 (n : Int)] W fun e w' => e = .returned (.bool (hasN M n)) ∧ Below W.heap.size W w') := fun n W => has_any M n W
  have HSH : Hid (∀ W, Calls Tryd.prog 24 #[.agg #[.int .u64 (word M 0 : Nat), .int .u64 (word M 1 : Nat), .int .u64 (word M 2 : Nat), .int .u64 (word M 3 : Nat), .int .u64 (word M 4 : Nat), .int .u64 (word M 5 : Nat), .int .u64 (word M 6 : Nat), .int .u64 (word M 7 : Nat)], .int .i64 (u.size : Int)] W fun e w' => e = .returned (.agg #[.int .u64 (word X 0 : Nat), .int .u64 (word X 1 : Nat), .int .u64 (word X 2 : Nat), .int .u64 (word X 3 : Nat), .int .u64 (word X 4 : Nat), .int .u64 (word X 5 : Nat), .int .u64 (word X 6 : Nat), .int .u64 (word X 7 : Nat)]) ∧ Below W.heap.size W w') := fun W => by
    have := shift_any M HM.out.1 (u.size : Int) W
    rw [HXM.out] at this
    exact this
  have heq := eq_same (word X)
  unfold cellsF at heq
  go_wp2_with (go_at_call 16; refine (num6_any _ _).mono ?_; rintro e wn ⟨rfl, rfl⟩)
  refine (HAS.out s.size _).mono ?_
  rintro e w5 ⟨rfl, hb5⟩
  obtain ⟨p, HPP⟩ : ∃ p, Hid (hasN M s.size = p) := ⟨_, rfl⟩
  rw [HPP.out]
  have B5 : Hid (Below w.heap.size w w5) := go_on B4.out hb5
  have C5 : Hid (Cells8 w5 w2.heap.size (word M)) := C4.out.stay hb5
  have D5 : Hid (Cells8 w5 w3.heap.size (word X)) := D4.out.stay hb5
  clear hb5 B4 C4 D4 k0 k1 k2 k3 k4 k5 k6 k7
  go_wp2_with fail
  refine (HIN.out s HW0.out.1 _ B5.out).mono ?_
  rintro e w6 ⟨b6, rfl, hb6', hb6⟩
  obtain rfl : p = b6 := by
    refine bool_eq ?_ hb6'
    rw [← HPP.out, hasN_end M _ (by have := HSU.out; omega), HM.out.2 s.size, ← wl_len, sub_all]
    simp
  have B6 : Hid (Below w.heap.size w w6) := go_on B5.out hb6
  have C6 : Hid (Cells8 w6 w2.heap.size (word M)) := C5.out.stay hb6
  have D6 : Hid (Cells8 w6 w3.heap.size (word X)) := D5.out.stay hb6
  obtain ⟨k0, k1, k2, k3, k4, k5, k6, k7⟩ := C6.out.gets
  have hl6 := C6.out.lt
  clear hb6 hb6' B5 C5 D5
  go_wp2_with fail
  refine (HAS.out 0 _).mono ?_
  rintro e w7 ⟨rfl, hb7⟩
  have HQ : Hid (hasN M (0 : Nat) = b) := by
    refine bool_eq ?_ HBN.out
    rw [hasN_end M _ (by omega), HM.out.2 0, sub_self]
    simp
  have hq := HQ.out
  rw [hq]
  have B7 : Hid (Below w.heap.size w w7) := go_on B6.out hb7
  have C7 : Hid (Cells8 w7 w2.heap.size (word M)) := C6.out.stay hb7
  have D7 : Hid (Cells8 w7 w3.heap.size (word X)) := D6.out.stay hb7
  clear hb7 B6 C6 D6 k0 k1 k2 k3 k4 k5 k6 k7 hq
  go_wp2_with fail
  refine (HIN.out ⟨#[]⟩ HW0.out.2 _ B7.out).mono ?_
  rintro e w8 ⟨b8, rfl, hb8', hb8⟩
  obtain rfl : b = b8 := bool_eq HBN.out hb8'
  have B8 : Hid (Below w.heap.size w w8) := go_on B7.out hb8
  have C8 : Hid (Cells8 w8 w2.heap.size (word M)) := C7.out.stay hb8
  have D8 : Hid (Cells8 w8 w3.heap.size (word X)) := D7.out.stay hb8
  obtain ⟨k0, k1, k2, k3, k4, k5, k6, k7⟩ := C8.out.gets
  have hl8 := C8.out.lt
  clear hb8 hb8' B7 C7 D7
  obtain ⟨m0, m1, m2, m3, m4, m5, m6, m7⟩ := D8.out.gets
  have hd8 := D8.out.lt
  go_wp2_with fail
  go_region_with (first
    | (go_at_call 24; refine (HSH.out _).mono ?_; rintro e w9 ⟨rfl, hb9'⟩; have hb9 : Below w8.heap.size w8 w9 := go_on (Below.refl _ _).drew hb9'; have B9 : Hid (Below w.heap.size w w9) := go_on B8.out hb9; obtain ⟨n0, n1, n2, n3, n4, n5, n6, n7⟩ := (D8.out.stay hb9).gets; have hd9 := (D8.out.stay hb9).lt)
    | (go_at_call 8; refine (live6_any _ (HP.out.stay B9.out) (HT.out.stay B9.out)).mono ?_; rintro e w10 ⟨rfl, hb10⟩; have B10 : Hid (Below w.heap.size w w10) := go_on B9.out hb10))
  all_goals (
    go_wp2_with fail
    go_ret
    exact ⟨rfl, B10.out⟩)
/-! ### The row's step -/
theorem own : ownKnob Tryd.prog.godebug = none := by kernel_rfl
def laid1 : List (String × DataW Unit) := [("math/bits.deBruijn64tab", Rows.laid_math_bits_deBruijn64tab), ("eggbox/tree.partsOf", Rows.laid_eggbox_tree_partsOf)]
def tabZ : List Int := [0, 0, 0, 0, 0, 2, 2, 2, 1, 1]
def tabT : List Int := Lib.deBruijn64tab.map fun (z : Nat) => (z : Int)
theorem gTab : Tryd.prog.globalNamed "eggbox/tree.partsOf" = some 1 := by kernel_rfl
theorem tTab : (Tryd.prog.globals[1]?).map (·.type) = some 103 := by kernel_rfl
theorem gTz : Tryd.prog.globalNamed "math/bits.deBruijn64tab" = some 2 := by kernel_rfl
theorem tTz : (Tryd.prog.globals[2]?).map (·.type) = some 112 := by kernel_rfl
theorem of_laid {W : World} (h : laidMetH Tryd.prog laid1 W) : PTab W ∧ TzTab W := by
  rw [MakeChecks.laidMetH_plain _ _ _ (by kernel_rfl)] at h
  have h1 : Lib.TabIs Tryd.prog W "math/bits.deBruijn64tab" .u8 tabT :=
    Lib.tabIs_of_head (rest := [("eggbox/tree.partsOf", Rows.laid_eggbox_tree_partsOf)]) gTz tTz Tryd.underlying112 Tryd.underlying5 (by kernel_rfl) (by kernel_rfl) h
  have h2 : Lib.TabIs Tryd.prog W "eggbox/tree.partsOf" .i64 tabZ :=
    Lib.tabIs_of_head (rest := []) gTab tTab Tryd.underlying103 Tryd.underlying3 (by kernel_rfl) (by kernel_rfl) h.tail
  refine ⟨fun j hj => ?_, fun j hj => ?_⟩
  · have := h2.cell gTab j hj
    rw [this]
    have hc : j = 0 ∨ j = 1 ∨ j = 2 ∨ j = 3 ∨ j = 4 ∨ j = 5 ∨ j = 6 ∨ j = 7 ∨ j = 8 ∨ j = 9 := by omega
    rcases hc with rfl | rfl | rfl | rfl | rfl | rfl | rfl | rfl | rfl | rfl <;> rfl
  · have := h1.cell gTz j hj
    rw [this]
    have e : tabT.getD j 0 = ((Lib.deBruijn64tab.getD j 0 : Nat) : Int) := by
      unfold tabT
      rw [List.getD_eq_getElem?_getD, List.getElem?_map, List.getD_eq_getElem?_getD]
      cases Lib.deBruijn64tab[j]? <;> rfl
    rw [e]
/-- The door's own heap meets the condition. -/
theorem door_met (os : Os) (args : Array Value) : laidMetH Tryd.prog laid1 ((World.doorLaid Tryd.prog 400 os).forCall (fun _ _ => 0) ⟨#[], args, []⟩).memory :=
  laidMetH_of_parts3 (fuel := 8) (laidMet_of_run' 8 (by kernel_rfl) (by kernel_rfl)) (by kernel_rfl) (by kernel_rfl)

set_option maxRecDepth 100000 in
theorem lifted (os : Os) (started : os.Started) (H : Type) (enc : TypeId × Value → H) :
    ReturnsInHanded {} Tryd.checked os 5 .any (fun w args => (Rows.matchMovedSpec.pre enc Tryd.prog Tryd.f5 [] false w args ∧ laidMetH Tryd.prog laid1 w) ∧ sizedMet enc Tryd.prog Tryd.f5 (OpenSpec.ofChange Rows.matchMovedSpec) false w args)
      (Rows.matchMovedSpec.post enc Tryd.prog Tryd.f5 false true false false) := by
  refine returnsInHanded_of_change_and (C := Tryd.checked) (X := fun w _ => laidMetH Tryd.prog laid1 w) (fun _ _ _ hh h => h.of_heap hh) own started (by kernel_rfl) Tryd.func5
    (ChangeSpec.witness_shaped (enc := enc) (C := Tryd.checked) (os := os) (X := fun w _ => laidMetH Tryd.prog laid1 w) false (World.doorLaid Tryd.prog 400 os) #[.slice none 0 0, .string ByteArray.empty, .string ByteArray.empty] 8 rfl (World.shaped_of_RefB (by kernel_rfl) (by kernel_rfl)) (by kernel_rfl) (by kernel_rfl) (by kernel_rfl) (door_met os _)) ?_
  intro W base args ds gs before hval0 hW _ hsz0 hL _
  have hval : ∀ (j : Nat) t v, Tryd.f5.params[j]? = some t → args[j]? = some v → Value.okWide Tryd.prog W .any base t v := hval0
  have hW' := hW
  obtain ⟨p, q, hA0, hV, rfl, hfz, hnd⟩ := hW
  have hA : DataW.TrodAll enc Tryd.prog W 0 (fun _ => true) true Tryd.f5.params.toList args.toList ds p := hA0
  have hsz : (DataW.weightsEach Tryd.prog (Tryd.f5.params.toList ++ Rows.matchMovedSpec.plain.varTypes Tryd.prog) (ds ++ gs)).all (· ≤ reachBytes) = true := hsz0
  rw [Tryd.params5] at hA hval hsz
  obtain ⟨v0, vs0, d0, ds0, p0, q0, hargs, rfl, rfl, h0, r0⟩ := trodAll_cons hA
  obtain ⟨v1, vs1, d1, ds1, p1, q1, rfl, rfl, rfl, h1, r1⟩ := trodAll_cons r0
  obtain ⟨v2, vs2, d2, ds2, p2, q2, rfl, rfl, rfl, h2, r2⟩ := trodAll_cons r1
  obtain ⟨rfl, rfl, rfl⟩ := trodAll_nil r2
  obtain rfl : args = #[v0, v1, v2] := by cases args; simp_all
  obtain ⟨rfl, rfl⟩ := trodVars_none hV
  obtain ⟨a0, w0, x0, y0⟩ := open_nodes (hval 0 22 v0 rfl rfl) h0
  have s0 : (a0.length + 2) * 16 ≤ 140737488355328 := by
    rcases y0 with ⟨_, rfl⟩ | ⟨e, s, rfl, hy⟩
    · decide
    · have := sized_slice hsz (j := 0) (t := 22) rfl rfl Tryd.underlying22
      rw [Tryd.bytes_node] at this
      simp only [reachBytes] at this
      omega
  have z0 : a0.length ≤ 9223372036854775806 := by omega
  have g0 : ∀ x ∈ p0, x.block < W.heap.size := fun x hx => hW'.lt x (by simp [hx])
  obtain ⟨a1, rfl, rfl, rfl, w1⟩ := open_string Tryd.underlying9 (hval 1 9 v1 rfl rfl) h1
  have u1 : a1.size ≤ 140737488355327 := by
    have := sized_string hsz (j := 1) (t := 9) rfl rfl
    have e : a1.data.toList.length = a1.size := rfl
    simp only [reachBytes] at this
    omega
  obtain ⟨a2, rfl, rfl, rfl, w2⟩ := open_string Tryd.underlying9 (hval 2 9 v2 rfl rfl) h2
  have u2 : a2.size ≤ 140737488355327 := by
    have := sized_string hsz (j := 2) (t := 9) rfl rfl
    have e : a2.data.toList.length = a2.size := rfl
    simp only [reachBytes] at this
    omega
  have hTz := of_laid hL
  clear hA0 hval0
  refine (walk v0 a0 a1 a2 W w0 x0.1 s0 u1 u2 hTz.1 hTz.2).mono fun e W' ⟨he, bel⟩ => ?_
  subst he
  exact ⟨_, rfl, _, _, _, [], _, [], hW', trodAll_mk1 (shut_bool Tryd.underlying4 _), (trodAll_cons_mk (Below.trod Tryd.laidOut (by kernel_rfl) (of_decide_eq_true (by kernel_rfl)) h0 bel g0) (trodAll_cons_mk (shut_string Tryd.underlying9 w1) (trodAll_cons_mk (shut_string Tryd.underlying9 w2) trodAll_mk0))), rfl, bel.frame _, fun h => by cases h⟩

theorem over : Rows.MatchMovedSaid :=
  OpenClaim.holds_of_wide 5 Tryd.f5 rfl rfl rfl rfl rfl rfl rfl ⟨rfl, rfl, rfl, rfl, rfl⟩ rfl rfl rfl rfl rfl (by kernel_rfl) Tryd.func5 (by kernel_rfl)
    (of_decide_eq_true (by kernel_rfl)) (by unfold Func.isWrapper; first | (rw [if_pos (by decide +kernel)]; kernel_rfl) | (rw [if_neg (by decide +kernel)]; exact ⟨rfl, rfl⟩))
    (fun os started H enc _ => lifted os started H enc)

theorem card : Rows.MatchMovedCardSaid :=
  Claim7.holds_tied_plain_at .later [] [.data, .data] true (true, "58895d4f7794a8d4f9f44ccc29c688554d73b9f3c6ecb6e7532dd0a19a11df0f") false
    over (fun _ h => by cases h) (by kernel_rfl) (fun _ h => by cases h) matchMoved_row_tie rfl ⟨rfl, rfl⟩ (by kernel_rfl) rfl
    (fun f fn hf hfn => by
      obtain rfl : f = 5 := Option.some.inj ((show Tryd.prog.funcNamed "eggbox/eggboxlaw06.MatchMoved" = some 5 by kernel_rfl).symm.trans hf) |>.symm
      obtain rfl : fn = Tryd.f5 := (Option.some.inj (Tryd.func5.symm.trans hfn)).symm
      exact ⟨by kernel_rfl, fun j t ht => by
        rw [Tryd.params5] at ht
        have hm : t ∈ [22, 9, 9] := by simpa using Array.mem_of_getElem? ht
        have hall : ([22, 9, 9].all fun u => !Tryd.prog.wantsStandIn u) = true := by kernel_rfl
        exact (show Tryd.prog.wantsStandIn t = false by simpa using List.all_eq_true.1 hall t hm)⟩)
    (by kernel_rfl)

end Go.Proofs.YtfdkkiecibdblaaDoor.matchMoved
namespace Go.Proofs.YtfdkkiecibdblaaDoor
/-- The given statement. -/
theorem matchMoved_holds : Rows.MatchMovedCardSaid := matchMoved.card
end Go.Proofs.YtfdkkiecibdblaaDoor
