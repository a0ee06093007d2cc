/- Proved: eggboxlaw02.BitsSets answers true at every two sets and every n (P2.3, P2.4, P2.5): bits.Union, Inter, Minus, Below, Size, Subset and Compare answer what the document's answer; its arguments read behind the call as before. -/
import Derived.Test.YtghchlppdhfoeaaRd
import Derived.Test.YtghchlppdhfoeaaBk
import Derived.Deep.DeepCutAuto
import Derived.Deep.RegionHeld3
import Derived.ProofKit
import Derived.OpenShut
import Derived.ShutString
import Derived.ChangeOld
import Derived.JoinedCond
namespace Go.Proofs.Ytghchlppdhfoeaa.bitsSets
open Go.ChangeShapes Go.WideShapes Go.ChangeAt Go.RowKit
set_option linter.unusedVariables false

/-- Both sets lie where they lay; no old memory is written. -/
abbrev HeldS (w : World) (A B : Nat) (w' : World) : Prop :=
  (∀ o, w'.cell? ⟨w.heap.size, o, none⟩ = (#[.int .u64 (word A 0 : Nat), .int .u64 (word A 1 : Nat), .int .u64 (word A 2 : Nat), .int .u64 (word A 3 : Nat), .int .u64 (word A 4 : Nat), .int .u64 (word A 5 : Nat), .int .u64 (word A 6 : Nat), .int .u64 (word A 7 : Nat)] : Array Value)[o]?) ∧ (∀ o, w'.cell? ⟨w.heap.size + 1, o, none⟩ = (#[.int .u64 (word B 0 : Nat), .int .u64 (word B 1 : Nat), .int .u64 (word B 2 : Nat), .int .u64 (word B 3 : Nat), .int .u64 (word B 4 : Nat), .int .u64 (word B 5 : Nat), .int .u64 (word B 6 : Nat), .int .u64 (word B 7 : Nat)] : Array Value)[o]?) ∧ w.heap.size + 1 < w'.heap.size ∧ Below w.heap.size w w'
theorem held_step {w : World} {A B : Nat} {w1 w2 : World} (h : HeldS w A B w1) (hb : Below w1.heap.size w1 w2) : HeldS w A B w2 := by
  obtain ⟨h1, h2, h3, h4⟩ := h
  refine ⟨fun o => ?_, fun o => ?_, Nat.lt_of_lt_of_le h3 hb.size, go_on h4 hb⟩
  · rw [hb.cell (p := ⟨w.heap.size, o, none⟩) (by show w.heap.size < w1.heap.size; omega), h1]
  · rw [hb.cell (p := ⟨w.heap.size + 1, o, none⟩) h3, h2]
theorem held_alloc {w : World} {A B : Nat} {w1 : World} (h : HeldS w A B w1) (O : Obj) : HeldS w A B (w1.alloc O) := held_step h ((Below.refl _ _).alloc (Nat.le_refl _) _)
theorem held_drew {w : World} {A B : Nat} {w1 : World} (h : HeldS w A B w1) : HeldS w A B w1.drew := ⟨h.1, h.2.1, h.2.2.1, h.2.2.2.drew⟩
theorem held_start (w : World) (A B : Nat) : HeldS w A B ((w.alloc (.cells #[.int .u64 (word A 0 : Nat), .int .u64 (word A 1 : Nat), .int .u64 (word A 2 : Nat), .int .u64 (word A 3 : Nat), .int .u64 (word A 4 : Nat), .int .u64 (word A 5 : Nat), .int .u64 (word A 6 : Nat), .int .u64 (word A 7 : Nat)] 24)).alloc (.cells #[.int .u64 (word B 0 : Nat), .int .u64 (word B 1 : Nat), .int .u64 (word B 2 : Nat), .int .u64 (word B 3 : Nat), .int .u64 (word B 4 : Nat), .int .u64 (word B 5 : Nat), .int .u64 (word B 6 : Nat), .int .u64 (word B 7 : Nat)] 24)) := by
  have r0 := (RowAt.last w #[.int .u64 (word A 0 : Nat), .int .u64 (word A 1 : Nat), .int .u64 (word A 2 : Nat), .int .u64 (word A 3 : Nat), .int .u64 (word A 4 : Nat), .int .u64 (word A 5 : Nat), .int .u64 (word A 6 : Nat), .int .u64 (word A 7 : Nat)] 24).alloc (.cells #[.int .u64 (word B 0 : Nat), .int .u64 (word B 1 : Nat), .int .u64 (word B 2 : Nat), .int .u64 (word B 3 : Nat), .int .u64 (word B 4 : Nat), .int .u64 (word B 5 : Nat), .int .u64 (word B 6 : Nat), .int .u64 (word B 7 : Nat)] 24)
  have s0 : RowAt ((w.alloc (.cells #[.int .u64 (word A 0 : Nat), .int .u64 (word A 1 : Nat), .int .u64 (word A 2 : Nat), .int .u64 (word A 3 : Nat), .int .u64 (word A 4 : Nat), .int .u64 (word A 5 : Nat), .int .u64 (word A 6 : Nat), .int .u64 (word A 7 : Nat)] 24)).alloc (.cells #[.int .u64 (word B 0 : Nat), .int .u64 (word B 1 : Nat), .int .u64 (word B 2 : Nat), .int .u64 (word B 3 : Nat), .int .u64 (word B 4 : Nat), .int .u64 (word B 5 : Nat), .int .u64 (word B 6 : Nat), .int .u64 (word B 7 : Nat)] 24)) (w.heap.size + 1) #[.int .u64 (word B 0 : Nat), .int .u64 (word B 1 : Nat), .int .u64 (word B 2 : Nat), .int .u64 (word B 3 : Nat), .int .u64 (word B 4 : Nat), .int .u64 (word B 5 : Nat), .int .u64 (word B 6 : Nat), .int .u64 (word B 7 : Nat)] := by
    have := RowAt.last (w.alloc (.cells #[.int .u64 (word A 0 : Nat), .int .u64 (word A 1 : Nat), .int .u64 (word A 2 : Nat), .int .u64 (word A 3 : Nat), .int .u64 (word A 4 : Nat), .int .u64 (word A 5 : Nat), .int .u64 (word A 6 : Nat), .int .u64 (word A 7 : Nat)] 24)) #[.int .u64 (word B 0 : Nat), .int .u64 (word B 1 : Nat), .int .u64 (word B 2 : Nat), .int .u64 (word B 3 : Nat), .int .u64 (word B 4 : Nat), .int .u64 (word B 5 : Nat), .int .u64 (word B 6 : Nat), .int .u64 (word B 7 : Nat)] 24
    simpa using this
  exact ⟨r0.cell, s0.cell, s0.lt, ((Below.refl _ _).alloc (Nat.le_refl _) _).alloc (by simp) _⟩

/-- Four blocks hold what they held at W; nothing below W's end is written. -/
abbrev SS (W : World) (p1 p2 p3 p4 : Nat) (l1 l2 l3 l4 : Array Value) (w' : World) : Prop :=
  (∀ o, w'.cell? ⟨p1, o, none⟩ = l1[o]?) ∧ (∀ o, w'.cell? ⟨p2, o, none⟩ = l2[o]?) ∧ (∀ o, w'.cell? ⟨p3, o, none⟩ = l3[o]?) ∧ (∀ o, w'.cell? ⟨p4, o, none⟩ = l4[o]?) ∧ Below W.heap.size W w'
theorem ss_of {W : World} {p1 p2 p3 p4 : Nat} {l1 l2 l3 l4 : Array Value} (r1 : RowAt W p1 l1) (r2 : RowAt W p2 l2) (r3 : RowAt W p3 l3) (r4 : RowAt W p4 l4) {w' : World} (h : Below W.heap.size W w') : SS W p1 p2 p3 p4 l1 l2 l3 l4 w' :=
  ⟨(r1.stay h).cell, (r2.stay h).cell, (r3.stay h).cell, (r4.stay h).cell, h⟩
theorem ss_below {W : World} {p1 p2 p3 p4 : Nat} {l1 l2 l3 l4 : Array Value} {w' : World} (h : SS W p1 p2 p3 p4 l1 l2 l3 l4 w') : Below W.heap.size W w' := h.2.2.2.2
theorem ss_step {W : World} {p1 p2 p3 p4 : Nat} {l1 l2 l3 l4 : Array Value} (r1 : RowAt W p1 l1) (r2 : RowAt W p2 l2) (r3 : RowAt W p3 l3) (r4 : RowAt W p4 l4) {w1 w2 : World} (hb : Below w1.heap.size w1 w2) (h : SS W p1 p2 p3 p4 l1 l2 l3 l4 w1) : SS W p1 p2 p3 p4 l1 l2 l3 l4 w2 :=
  ss_of r1 r2 r3 r4 (go_on h.2.2.2.2 hb)

set_option maxHeartbeats 16000000 in
set_option maxRecDepth 100000 in
theorem walk (A B : Nat) (n : Int) (hA : Fits A) (hB : Fits B) (hn : (Lit.int .i64 n).wf = true) (w : World) :
    Calls Try.prog 3 #[setV A, setV B, .int .i64 n] w fun e w' => e = .returned (.bool true) ∧ Below w.heap.size w w' := by
  clear hn
  obtain ⟨X, XE, HX⟩ : ∃ X XE, Hid (belowN n = X ∧ belowE n = XE) := ⟨_, _, rfl, rfl⟩
  obtain ⟨U, HU⟩ : ∃ U, Hid (orN A B = U) := ⟨_, rfl⟩
  obtain ⟨I, HI⟩ : ∃ I, Hid (andN A B = I) := ⟨_, rfl⟩
  obtain ⟨M, HM⟩ : ∃ M, Hid (butN A B = M) := ⟨_, rfl⟩
  have eX := eq_same (word X)
  have eU := eq_same (word U)
  have eI := eq_same (word I)
  have eM := eq_same (word M)
  have HH : Hid _ := held_start w A B
  unfold setV cellsF
  unfold cellsF at eX eU eI eM
  go_enter Try.func3, Try.ntmps3
  go_wp2_with (first
    | (go_at_call 6; refine (below_any n _).mono ?_; rintro e w1 ⟨rfl, hb1⟩; rw [HX.out.1, HX.out.2]; unfold setV cellsF; have H1 := held_step HH.out hb1)
    | (go_at_call 7; refine (rbelow_any n _).mono ?_; rintro e w2 ⟨rfl, hb2⟩; rw [HX.out.1, HX.out.2]; unfold setV cellsF; have H2 := held_step (held_alloc H1 _) hb2; have rx := RowAt.new hb2; have cx := RowAt.cellA rx))
  generalize hWd : w2.alloc (.cells #[.int .u64 (word X 0 : Nat), .int .u64 (word X 1 : Nat), .int .u64 (word X 2 : Nat), .int .u64 (word X 3 : Nat), .int .u64 (word X 4 : Nat), .int .u64 (word X 5 : Nat), .int .u64 (word X 6 : Nat), .int .u64 (word X 7 : Nat)] 24) = W
  have R1 : RowAt W w.heap.size #[.int .u64 (word A 0 : Nat), .int .u64 (word A 1 : Nat), .int .u64 (word A 2 : Nat), .int .u64 (word A 3 : Nat), .int .u64 (word A 4 : Nat), .int .u64 (word A 5 : Nat), .int .u64 (word A 6 : Nat), .int .u64 (word A 7 : Nat)] := by rw [← hWd]; exact ⟨by have := H2.2.2.1; simp; omega, fun o => (RowAt.alloc ⟨by have := H2.2.2.1; omega, H2.1⟩ _).cell o⟩
  have R2 : RowAt W (w.heap.size + 1) #[.int .u64 (word B 0 : Nat), .int .u64 (word B 1 : Nat), .int .u64 (word B 2 : Nat), .int .u64 (word B 3 : Nat), .int .u64 (word B 4 : Nat), .int .u64 (word B 5 : Nat), .int .u64 (word B 6 : Nat), .int .u64 (word B 7 : Nat)] := by rw [← hWd]; exact RowAt.alloc ⟨H2.2.2.1, H2.2.1⟩ _
  have R3 : RowAt W w1.heap.size #[.int .u64 (word X 0 : Nat), .int .u64 (word X 1 : Nat), .int .u64 (word X 2 : Nat), .int .u64 (word X 3 : Nat), .int .u64 (word X 4 : Nat), .int .u64 (word X 5 : Nat), .int .u64 (word X 6 : Nat), .int .u64 (word X 7 : Nat)] := by rw [← hWd]; exact rx.alloc _
  have R4 : RowAt W w2.heap.size #[.int .u64 (word X 0 : Nat), .int .u64 (word X 1 : Nat), .int .u64 (word X 2 : Nat), .int .u64 (word X 3 : Nat), .int .u64 (word X 4 : Nat), .int .u64 (word X 5 : Nat), .int .u64 (word X 6 : Nat), .int .u64 (word X 7 : Nat)] := by rw [← hWd]; exact RowAt.last _ _ _
  have BW : Hid (Below w.heap.size w W) := by show Below _ _ _; rw [← hWd]; exact H2.2.2.2.alloc H2.2.2.2.size _
  have S0 : SS W w.heap.size (w.heap.size + 1) w1.heap.size w2.heap.size #[.int .u64 (word A 0 : Nat), .int .u64 (word A 1 : Nat), .int .u64 (word A 2 : Nat), .int .u64 (word A 3 : Nat), .int .u64 (word A 4 : Nat), .int .u64 (word A 5 : Nat), .int .u64 (word A 6 : Nat), .int .u64 (word A 7 : Nat)] #[.int .u64 (word B 0 : Nat), .int .u64 (word B 1 : Nat), .int .u64 (word B 2 : Nat), .int .u64 (word B 3 : Nat), .int .u64 (word B 4 : Nat), .int .u64 (word B 5 : Nat), .int .u64 (word B 6 : Nat), .int .u64 (word B 7 : Nat)] #[.int .u64 (word X 0 : Nat), .int .u64 (word X 1 : Nat), .int .u64 (word X 2 : Nat), .int .u64 (word X 3 : Nat), .int .u64 (word X 4 : Nat), .int .u64 (word X 5 : Nat), .int .u64 (word X 6 : Nat), .int .u64 (word X 7 : Nat)] #[.int .u64 (word X 0 : Nat), .int .u64 (word X 1 : Nat), .int .u64 (word X 2 : Nat), .int .u64 (word X 3 : Nat), .int .u64 (word X 4 : Nat), .int .u64 (word X 5 : Nat), .int .u64 (word X 6 : Nat), .int .u64 (word X 7 : Nat)] W.drew := ss_of R1 R2 R3 R4 (Below.refl _ _).drew
  clear hWd H1 H2 rx cx hb1 hb2
  go_cut [56] (fun s56 wx => s56 = .bool false ∧ Below W.heap.size W wx)
  case first =>
    go_region_held3 (fun w' => SS W w.heap.size (w.heap.size + 1) w1.heap.size w2.heap.size #[.int .u64 (word A 0 : Nat), .int .u64 (word A 1 : Nat), .int .u64 (word A 2 : Nat), .int .u64 (word A 3 : Nat), .int .u64 (word A 4 : Nat), .int .u64 (word A 5 : Nat), .int .u64 (word A 6 : Nat), .int .u64 (word A 7 : Nat)] #[.int .u64 (word B 0 : Nat), .int .u64 (word B 1 : Nat), .int .u64 (word B 2 : Nat), .int .u64 (word B 3 : Nat), .int .u64 (word B 4 : Nat), .int .u64 (word B 5 : Nat), .int .u64 (word B 6 : Nat), .int .u64 (word B 7 : Nat)] #[.int .u64 (word X 0 : Nat), .int .u64 (word X 1 : Nat), .int .u64 (word X 2 : Nat), .int .u64 (word X 3 : Nat), .int .u64 (word X 4 : Nat), .int .u64 (word X 5 : Nat), .int .u64 (word X 6 : Nat), .int .u64 (word X 7 : Nat)] #[.int .u64 (word X 0 : Nat), .int .u64 (word X 1 : Nat), .int .u64 (word X 2 : Nat), .int .u64 (word X 3 : Nat), .int .u64 (word X 4 : Nat), .int .u64 (word X 5 : Nat), .int .u64 (word X 6 : Nat), .int .u64 (word X 7 : Nat)] w') (first | exact S0 | exact ss_step R1 R2 R3 R4 (by assumption) (by assumption)) (first
      | (go_at_call 8; refine (num_any _ _).mono ?_; rintro e wn ⟨rfl, rfl⟩)
      | (go_at_call 9; refine (union_any A B _).mono ?_; rintro e w3 ⟨rfl, hb3⟩; rw [HU.out]; unfold setV cellsF)
      | (go_at_call 11; refine (inter_any A B _).mono ?_; rintro e w4 ⟨rfl, hb4⟩; rw [HI.out]; unfold setV cellsF)
      | (go_at_call 12; refine (minus_any A B _).mono ?_; rintro e w8 ⟨rfl, hb8⟩; rw [HM.out]; unfold setV cellsF)
      | (go_at_call_of 10 ([Value.bool true, Value.bool false] : List Value); refine (runion_any A B hA hB _).mono ?_; rintro e w5 ⟨rfl, hb5⟩; rw [HU.out]; unfold setV cellsF)
      | (go_at_call_of 10 ([Value.bool true, Value.bool true, Value.bool true] : List Value); refine (rinter_any A B hA hB _).mono ?_; rintro e w6 ⟨rfl, hb6⟩; rw [HI.out]; unfold setV cellsF)
      | (go_at_call_of 10 ([Value.bool false, Value.bool true] : List Value); refine (rminus_any A B hA hB _).mono ?_; rintro e w7 ⟨rfl, hb7⟩; rw [HM.out]; unfold setV cellsF))
    all_goals (go_wp2_with fail; go_meet; exact ⟨rfl, ss_below (by assumption)⟩)
  case rest =>
    obtain ⟨rfl, hbc⟩ := hcut
    have S1 : SS W w.heap.size (w.heap.size + 1) w1.heap.size w2.heap.size #[.int .u64 (word A 0 : Nat), .int .u64 (word A 1 : Nat), .int .u64 (word A 2 : Nat), .int .u64 (word A 3 : Nat), .int .u64 (word A 4 : Nat), .int .u64 (word A 5 : Nat), .int .u64 (word A 6 : Nat), .int .u64 (word A 7 : Nat)] #[.int .u64 (word B 0 : Nat), .int .u64 (word B 1 : Nat), .int .u64 (word B 2 : Nat), .int .u64 (word B 3 : Nat), .int .u64 (word B 4 : Nat), .int .u64 (word B 5 : Nat), .int .u64 (word B 6 : Nat), .int .u64 (word B 7 : Nat)] #[.int .u64 (word X 0 : Nat), .int .u64 (word X 1 : Nat), .int .u64 (word X 2 : Nat), .int .u64 (word X 3 : Nat), .int .u64 (word X 4 : Nat), .int .u64 (word X 5 : Nat), .int .u64 (word X 6 : Nat), .int .u64 (word X 7 : Nat)] #[.int .u64 (word X 0 : Nat), .int .u64 (word X 1 : Nat), .int .u64 (word X 2 : Nat), .int .u64 (word X 3 : Nat), .int .u64 (word X 4 : Nat), .int .u64 (word X 5 : Nat), .int .u64 (word X 6 : Nat), .int .u64 (word X 7 : Nat)] wc.drew := ss_of R1 R2 R3 R4 hbc.drew
    clear S0
    obtain ⟨c, HC⟩ : ∃ c, Hid (cnt 512 A = c) := ⟨_, rfl⟩
    obtain ⟨y, HY⟩ : ∃ y, Hid (subN A B = y) := ⟨_, rfl⟩
    obtain ⟨z, HZ⟩ : ∃ z, Hid (cmpN A B = z) := ⟨_, rfl⟩
    go_wp2_with fail
    go_region_held3 (fun w' => SS W w.heap.size (w.heap.size + 1) w1.heap.size w2.heap.size #[.int .u64 (word A 0 : Nat), .int .u64 (word A 1 : Nat), .int .u64 (word A 2 : Nat), .int .u64 (word A 3 : Nat), .int .u64 (word A 4 : Nat), .int .u64 (word A 5 : Nat), .int .u64 (word A 6 : Nat), .int .u64 (word A 7 : Nat)] #[.int .u64 (word B 0 : Nat), .int .u64 (word B 1 : Nat), .int .u64 (word B 2 : Nat), .int .u64 (word B 3 : Nat), .int .u64 (word B 4 : Nat), .int .u64 (word B 5 : Nat), .int .u64 (word B 6 : Nat), .int .u64 (word B 7 : Nat)] #[.int .u64 (word X 0 : Nat), .int .u64 (word X 1 : Nat), .int .u64 (word X 2 : Nat), .int .u64 (word X 3 : Nat), .int .u64 (word X 4 : Nat), .int .u64 (word X 5 : Nat), .int .u64 (word X 6 : Nat), .int .u64 (word X 7 : Nat)] #[.int .u64 (word X 0 : Nat), .int .u64 (word X 1 : Nat), .int .u64 (word X 2 : Nat), .int .u64 (word X 3 : Nat), .int .u64 (word X 4 : Nat), .int .u64 (word X 5 : Nat), .int .u64 (word X 6 : Nat), .int .u64 (word X 7 : Nat)] w') (first | exact S1 | exact ss_step R1 R2 R3 R4 (by assumption) (by assumption)) (first
      | (go_at_call 13; refine (size_any A _).mono ?_; rintro e w3 ⟨rfl, hb3⟩; rw [HC.out])
      | (go_at_call 14; refine (rlist_any A _).mono ?_; rintro e w4 ⟨v, rfl, hown, hb4⟩; obtain ⟨la, lc, rfl⟩ := own_shape hown; clear hown; rw [lst_length, HC.out])
      | (go_at_call 15; refine (subset_any A B hA hB _).mono ?_; rintro e w5 ⟨rfl, hb5⟩; rw [HY.out])
      | (go_at_call 16; refine (rsubset_any A B hA _).mono ?_; rintro e w6 ⟨rfl, hb6⟩; rw [HY.out])
      | (go_at_call 17; refine (compare_any A B hA hB _).mono ?_; rintro e w7 ⟨rfl, hb7⟩; rw [HZ.out])
      | (go_at_call 18; refine (rcompare_any A B hA hB _).mono ?_; rintro e w8 ⟨rfl, hb8⟩; rw [HZ.out])
      | (go_at_call 19; refine (live_any _).mono ?_; rintro e wl ⟨rfl, hbl⟩))
    all_goals go_wp2_with fail
    all_goals go_ret
    all_goals exact ⟨rfl, go_on BW.out (ss_below (by assumption))⟩

/-! ### The row's step -/
theorem own : ownKnob Try.prog.godebug = none := by kernel_rfl
set_option maxRecDepth 100000 in
theorem lifted (os : Os) (started : os.Started) (H : Type) (enc : TypeId × Value → H) :
    ReturnsInHanded {} Try.checked os 3 .any (Rows.bitsSetsSpec.pre6 enc Try.prog Try.f3 Rows.bitsSetsRow.domain false) (Rows.bitsSetsSpec.post enc Try.prog Try.f3 false true false false) := by
  refine returnsInHanded_of_change (C := Try.checked) own started (by kernel_rfl) Try.func3
    (ChangeSpec.witness6 (enc := enc) (C := Try.checked) false ⟨#[], #[.agg #[.int .u64 0, .int .u64 0, .int .u64 0, .int .u64 0, .int .u64 0, .int .u64 0, .int .u64 0, .int .u64 0], .agg #[.int .u64 0, .int .u64 0, .int .u64 0, .int .u64 0, .int .u64 0, .int .u64 0, .int .u64 0, .int .u64 0], .int .i64 0], []⟩ 8 (by kernel_rfl) (by kernel_rfl) (by kernel_rfl) (by kernel_rfl)) ?_
  intro W base args ds gs before hval0 hW hcnd _
  have hval : ∀ (j : Nat) t v, Try.f3.params[j]? = some t → args[j]? = some v → Value.okWide Try.prog W .any base t v := hval0
  clear hval0
  have hW' := hW
  obtain ⟨p, q, hA0, hV, rfl, hfz, hnd⟩ := hW
  have hA : DataW.TrodAll enc Try.prog W 0 (fun _ => true) true Try.f3.params.toList args.toList ds p := hA0
  rw [Try.params3] at hA hval
  obtain ⟨v0, vs0, d0, ds0, p0, q0, hargs, rfl, rfl, h0, r0⟩ := trodAll_cons hA
  obtain ⟨v1, vs1, d1, ds1, p1, q1, rfl, rfl, rfl, h1, r1⟩ := trodAll_cons r0
  obtain ⟨v2, vs2, d2, ds2, p2, q2, rfl, rfl, rfl, h2, r2⟩ := trodAll_cons r1
  obtain ⟨rfl, rfl, rfl⟩ := trodAll_nil r2
  obtain rfl : args = #[v0, v1, v2] := by cases args; simp_all
  obtain ⟨rfl, rfl⟩ := trodVars_none hV
  obtain ⟨a0, rfl, rfl, rfl, w0⟩ := open_set (hval 0 24 v0 rfl rfl) h0
  obtain ⟨a1, rfl, rfl, rfl, w1⟩ := open_set (hval 1 24 v1 rfl rfl) h1
  obtain ⟨a2, rfl, rfl, rfl, w2⟩ := open_int Try.underlying3 (hval 2 3 v2 rfl rfl) h2
  have z0 := w0
  have z1 := w1
  have z2 := w2
  clear hA0
  refine (walk a0 a1 a2 z0 z1 z2 W).mono fun e W' ⟨he, bel⟩ => ?_
  subst he
  exact ⟨_, rfl, _, _, _, [], _, [], hW', trodAll_mk1 (shut_bool Try.underlying4 _), (trodAll_cons_mk (shut_set a0) (trodAll_cons_mk (shut_set a1) (trodAll_cons_mk (shut_int Try.underlying3 w2) trodAll_mk0))), rfl, bel.frame _, fun h => by cases h⟩

theorem over : Rows.bitsSetsRow.holds Try.pinned (OpenSpec.ofChange Rows.bitsSetsSpec) :=
  OpenClaim.holds_of_wide 3 Try.f3 rfl rfl rfl rfl rfl rfl rfl ⟨rfl, rfl, rfl, rfl, rfl⟩ rfl rfl rfl rfl rfl (by kernel_rfl) Try.func3 (by kernel_rfl)
    (of_decide_eq_true (by kernel_rfl)) (by unfold Func.isWrapper; first | (rw [if_pos (by decide +kernel)]; kernel_rfl) | (rw [if_neg (by decide +kernel)]; exact ⟨rfl, rfl⟩))
    (fun os started H enc _ => lifted os started H enc)

end Go.Proofs.Ytghchlppdhfoeaa.bitsSets
namespace Go.Proofs.Ytghchlppdhfoeaa
/-- The given statement. -/
theorem bitsSets_holds : Rows.BitsSetsSaid := bitsSets.over
end Go.Proofs.Ytghchlppdhfoeaa
