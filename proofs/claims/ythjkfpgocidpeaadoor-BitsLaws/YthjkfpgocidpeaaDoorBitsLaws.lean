/- Proved: the card of eggboxlaw02.BitsLaws: it answers true at every two sets (P2.8, P2.9), with math/bits.deBruijn64tab as the program's text lays it: a set is its list, Next goes through it, sizes add up, Minus, Subset and Compare follow from the others; its arguments read behind the call as before. The card ties the variable to the pruned copy of the project that the seat holds. -/
import Derived.Test.YthjkfpgocidpeaaDoorDj
import Derived.Test.YthjkfpgocidpeaaDoorDx
import Derived.Test.YthjkfpgocidpeaaDoorBc
import Derived.Test.YthjkfpgocidpeaaDoorBv
import Derived.Test.YthjkfpgocidpeaaDoorBk
import Derived.Deep.RegionHeld3
import Derived.Deep.DeepCutAuto
import Derived.ProofKit
import Derived.OpenShut
import Derived.ShutString
import Derived.ChangeOld
import Derived.JoinedCond
import Derived.LaidMore
import Derived.Stop.Joined
import Derived.Lib.LaidTab
import Derived.SevenTiedAt
import Derived.Test.YthjkfpgocidpeaaDoorTie
import Derived.Test.YthjkfpgocidpeaaDoorCards
namespace Go.Proofs.YthjkfpgocidpeaaDoor.bitsLaws
open Go.ChangeShapes Go.WideShapes Go.ChangeAt Go.RowKit Go.Lib
set_option linter.unusedVariables false

/-! ### Arithmetic -/
theorem cnt_or_and (A B : Nat) : ∀ b, cnt b (orN A B) + cnt b (andN A B) = cnt b A + cnt b B
  | 0 => rfl
  | b + 1 => by
    have ih := cnt_or_and A B b
    rw [cnt_succ, cnt_succ, cnt_succ, cnt_succ]
    have e1 : (orN A B).testBit b = (A.testBit b || B.testBit b) := by unfold orN; rw [Nat.testBit_or]
    have e2 : (andN A B).testBit b = (A.testBit b && B.testBit b) := by unfold andN; rw [Nat.testBit_and]
    rw [e1, e2]
    cases A.testBit b <;> cases B.testBit b <;> simp <;> omega
theorem cnt_but_and (A B : Nat) : ∀ b, cnt b (butN A B) + cnt b (andN A B) = cnt b A
  | 0 => rfl
  | b + 1 => by
    have ih := cnt_but_and A B b
    rw [cnt_succ, cnt_succ, cnt_succ]
    have e2 : (andN A B).testBit b = (A.testBit b && B.testBit b) := by unfold andN; rw [Nat.testBit_and]
    rw [testBit_but, e2]
    cases A.testBit b <;> cases B.testBit b <;> simp <;> omega
theorem or_but_and (A B : Nat) : orN (butN A B) (andN A B) = A := by
  apply Nat.eq_of_testBit_eq
  intro i
  have e2 : (andN A B).testBit i = (A.testBit i && B.testBit i) := by unfold andN; rw [Nat.testBit_and]
  have e1 : ∀ X Y : Nat, (orN X Y).testBit i = (X.testBit i || Y.testBit i) := fun X Y => by unfold orN; rw [Nat.testBit_or]
  rw [e1, testBit_but, e2]
  cases A.testBit i <;> cases B.testBit i <;> rfl
theorem sub_le {A B : Nat} (h : orN A B = B) : A ≤ B := by
  rw [← h]; unfold orN; exact Nat.left_le_or
/-- Where the search in the law's loop stands ahead of its round k. -/
def prevAt (xs : List Int) (k : Nat) : Int := if k = 0 then -1 else xs.getD (k - 1) 0
theorem prevAt_succ (xs : List Int) (k : Nat) : prevAt xs (k + 1) = xs.getD k 0 := by unfold prevAt; simp
theorem lst_nonneg {N : Nat} {d : Nat} (hd : d < (lst N 512).length) : 0 ≤ (lst N 512).getD d 0 ∧ (lst N 512).getD d 0 < 512 ∧ hasN N ((lst N 512).getD d 0) = true := by
  have hm : (lst N 512).getD d 0 ∈ lst N 512 := by simp [hd]
  obtain ⟨m, h5, ht, e⟩ := mem_lst.1 hm
  rw [e]
  refine ⟨by omega, by omega, ?_⟩
  rw [hasN, decide_eq_true (by omega), Bool.true_and, Int.toNat_natCast]
  exact ht
theorem lst_mono {N d e : Nat} (he : e < (lst N 512).length) (hde : d < e) : (lst N 512).getD d 0 < (lst N 512).getD e 0 := by
  have hs : ∀ (i j : Nat) (hi : i < (lst N 512).length) (hj : j < (lst N 512).length), i < j → (lst N 512)[i] < (lst N 512)[j] := List.pairwise_iff_getElem.1 (lst_sorted N 512)
  have := hs d e (by omega) he hde
  rw [List.getD_eq_getElem?_getD, List.getElem?_eq_getElem (by omega), List.getD_eq_getElem?_getD, List.getElem?_eq_getElem he]
  exact this
theorem prev_lt {N k : Nat} (hk : k < (lst N 512).length) : prevAt (lst N 512) k < (lst N 512).getD k 0 := by
  unfold prevAt
  by_cases h : k = 0
  · rw [if_pos h]; have := (lst_nonneg hk).1; omega
  · rw [if_neg h]; exact lst_mono hk (by omega)
theorem prev_range {N k : Nat} (hk : k ≤ (lst N 512).length) : -1 ≤ prevAt (lst N 512) k ∧ prevAt (lst N 512) k < 512 := by
  unfold prevAt
  by_cases h : k = 0
  · rw [if_pos h]; omega
  · rw [if_neg h]
    have := lst_nonneg (N := N) (d := k - 1) (by omega)
    omega
theorem before {N k d : Nat} (hk : k ≤ (lst N 512).length) (hd : d < k) : (lst N 512).getD d 0 < prevAt (lst N 512) k + 1 := by
  unfold prevAt
  rw [if_neg (by omega)]
  by_cases e : d = k - 1
  · rw [e]; omega
  · have := lst_mono (N := N) (d := d) (e := k - 1) (by omega) (by omega); omega
theorem next_here {N k : Nat} (hN : Fits N) (hk : k < (lst N 512).length) : NextIs N (prevAt (lst N 512) k + 1) ((lst N 512).getD k 0) true :=
  next_of_lst hN hk (fun d hd => before (by omega) hd) (by have := prev_lt hk; omega)
theorem next_gone {N : Nat} (hN : Fits N) : NextIs N (prevAt (lst N 512) (lst N 512).length + 1) 0 false :=
  next_none hN (fun d hd => before (Nat.le_refl _) hd)

/-! ### What stays -/
/-- Both sets lie where they lay; no old memory is written. -/
abbrev HeldS (w : World) (A B : Nat) (w' : World) : Prop :=
  (∀ o, w'.cell? ⟨w.heap.size, o, none⟩ = (#[.int .u64 (word A 0 : Nat), .int .u64 (word A 1 : Nat), .int .u64 (word A 2 : Nat), .int .u64 (word A 3 : Nat), .int .u64 (word A 4 : Nat), .int .u64 (word A 5 : Nat), .int .u64 (word A 6 : Nat), .int .u64 (word A 7 : Nat)] : Array Value)[o]?) ∧ (∀ o, w'.cell? ⟨w.heap.size + 1, o, none⟩ = (#[.int .u64 (word B 0 : Nat), .int .u64 (word B 1 : Nat), .int .u64 (word B 2 : Nat), .int .u64 (word B 3 : Nat), .int .u64 (word B 4 : Nat), .int .u64 (word B 5 : Nat), .int .u64 (word B 6 : Nat), .int .u64 (word B 7 : Nat)] : Array Value)[o]?) ∧ w.heap.size + 1 < w'.heap.size ∧ Below w.heap.size w w'
theorem held_step {w : World} {A B : Nat} {w1 w2 : World} (h : HeldS w A B w1) (hb : Below w1.heap.size w1 w2) : HeldS w A B w2 := by
  obtain ⟨h1, h2, h3, h4⟩ := h
  refine ⟨fun o => ?_, fun o => ?_, Nat.lt_of_lt_of_le h3 hb.size, go_on h4 hb⟩
  · rw [hb.cell (p := ⟨w.heap.size, o, none⟩) (by show w.heap.size < w1.heap.size; omega), h1]
  · rw [hb.cell (p := ⟨w.heap.size + 1, o, none⟩) h3, h2]
theorem held_alloc {w : World} {A B : Nat} {w1 : World} (h : HeldS w A B w1) (O : Obj) : HeldS w A B (w1.alloc O) := held_step h ((Below.refl _ _).alloc (Nat.le_refl _) _)
theorem held_start (w : World) (A B : Nat) : HeldS w A B ((w.alloc (.cells #[.int .u64 (word A 0 : Nat), .int .u64 (word A 1 : Nat), .int .u64 (word A 2 : Nat), .int .u64 (word A 3 : Nat), .int .u64 (word A 4 : Nat), .int .u64 (word A 5 : Nat), .int .u64 (word A 6 : Nat), .int .u64 (word A 7 : Nat)] 25)).alloc (.cells #[.int .u64 (word B 0 : Nat), .int .u64 (word B 1 : Nat), .int .u64 (word B 2 : Nat), .int .u64 (word B 3 : Nat), .int .u64 (word B 4 : Nat), .int .u64 (word B 5 : Nat), .int .u64 (word B 6 : Nat), .int .u64 (word B 7 : Nat)] 25)) := by
  have r0 := (RowAt.last w #[.int .u64 (word A 0 : Nat), .int .u64 (word A 1 : Nat), .int .u64 (word A 2 : Nat), .int .u64 (word A 3 : Nat), .int .u64 (word A 4 : Nat), .int .u64 (word A 5 : Nat), .int .u64 (word A 6 : Nat), .int .u64 (word A 7 : Nat)] 25).alloc (.cells #[.int .u64 (word B 0 : Nat), .int .u64 (word B 1 : Nat), .int .u64 (word B 2 : Nat), .int .u64 (word B 3 : Nat), .int .u64 (word B 4 : Nat), .int .u64 (word B 5 : Nat), .int .u64 (word B 6 : Nat), .int .u64 (word B 7 : Nat)] 25)
  have s0 : RowAt ((w.alloc (.cells #[.int .u64 (word A 0 : Nat), .int .u64 (word A 1 : Nat), .int .u64 (word A 2 : Nat), .int .u64 (word A 3 : Nat), .int .u64 (word A 4 : Nat), .int .u64 (word A 5 : Nat), .int .u64 (word A 6 : Nat), .int .u64 (word A 7 : Nat)] 25)).alloc (.cells #[.int .u64 (word B 0 : Nat), .int .u64 (word B 1 : Nat), .int .u64 (word B 2 : Nat), .int .u64 (word B 3 : Nat), .int .u64 (word B 4 : Nat), .int .u64 (word B 5 : Nat), .int .u64 (word B 6 : Nat), .int .u64 (word B 7 : Nat)] 25)) (w.heap.size + 1) #[.int .u64 (word B 0 : Nat), .int .u64 (word B 1 : Nat), .int .u64 (word B 2 : Nat), .int .u64 (word B 3 : Nat), .int .u64 (word B 4 : Nat), .int .u64 (word B 5 : Nat), .int .u64 (word B 6 : Nat), .int .u64 (word B 7 : Nat)] := by
    have := RowAt.last (w.alloc (.cells #[.int .u64 (word A 0 : Nat), .int .u64 (word A 1 : Nat), .int .u64 (word A 2 : Nat), .int .u64 (word A 3 : Nat), .int .u64 (word A 4 : Nat), .int .u64 (word A 5 : Nat), .int .u64 (word A 6 : Nat), .int .u64 (word A 7 : Nat)] 25)) #[.int .u64 (word B 0 : Nat), .int .u64 (word B 1 : Nat), .int .u64 (word B 2 : Nat), .int .u64 (word B 3 : Nat), .int .u64 (word B 4 : Nat), .int .u64 (word B 5 : Nat), .int .u64 (word B 6 : Nat), .int .u64 (word B 7 : Nat)] 25
    simpa using this
  exact ⟨r0.cell, s0.cell, s0.lt, ((Below.refl _ _).alloc (Nat.le_refl _) _).alloc (by simp) _⟩
theorem held_rows {w : World} {A B : Nat} {w1 : World} (h : HeldS w A B w1) : RowAt w1 w.heap.size #[.int .u64 (word A 0 : Nat), .int .u64 (word A 1 : Nat), .int .u64 (word A 2 : Nat), .int .u64 (word A 3 : Nat), .int .u64 (word A 4 : Nat), .int .u64 (word A 5 : Nat), .int .u64 (word A 6 : Nat), .int .u64 (word A 7 : Nat)] ∧ RowAt w1 (w.heap.size + 1) #[.int .u64 (word B 0 : Nat), .int .u64 (word B 1 : Nat), .int .u64 (word B 2 : Nat), .int .u64 (word B 3 : Nat), .int .u64 (word B 4 : Nat), .int .u64 (word B 5 : Nat), .int .u64 (word B 6 : Nat), .int .u64 (word B 7 : Nat)] := ⟨⟨by have := h.2.2.1; omega, h.1⟩, ⟨h.2.2.1, h.2.1⟩⟩

/-- Five blocks hold what they held at W; nothing below W's end is written. -/
abbrev S5 (W : World) (p1 p2 p3 p4 p5 : Nat) (l1 l2 l3 l4 l5 : Array Value) (w' : World) : Prop :=
  (∀ o, w'.cell? ⟨p1, o, none⟩ = l1[o]?) ∧ (∀ o, w'.cell? ⟨p2, o, none⟩ = l2[o]?) ∧ (∀ o, w'.cell? ⟨p3, o, none⟩ = l3[o]?) ∧ (∀ o, w'.cell? ⟨p4, o, none⟩ = l4[o]?) ∧ (∀ o, w'.cell? ⟨p5, o, none⟩ = l5[o]?) ∧ Below W.heap.size W w'
theorem s5_of {W : World} {p1 p2 p3 p4 p5 : Nat} {l1 l2 l3 l4 l5 : Array Value} (r1 : RowAt W p1 l1) (r2 : RowAt W p2 l2) (r3 : RowAt W p3 l3) (r4 : RowAt W p4 l4) (r5 : RowAt W p5 l5) {w' : World} (h : Below W.heap.size W w') : S5 W p1 p2 p3 p4 p5 l1 l2 l3 l4 l5 w' :=
  ⟨(r1.stay h).cell, (r2.stay h).cell, (r3.stay h).cell, (r4.stay h).cell, (r5.stay h).cell, h⟩
theorem s5_below {W : World} {p1 p2 p3 p4 p5 : Nat} {l1 l2 l3 l4 l5 : Array Value} {w' : World} (h : S5 W p1 p2 p3 p4 p5 l1 l2 l3 l4 l5 w') : Below W.heap.size W w' := h.2.2.2.2.2
theorem s5_step {W : World} {p1 p2 p3 p4 p5 : Nat} {l1 l2 l3 l4 l5 : Array Value} (r1 : RowAt W p1 l1) (r2 : RowAt W p2 l2) (r3 : RowAt W p3 l3) (r4 : RowAt W p4 l4) (r5 : RowAt W p5 l5) {w1 w2 : World} (hb : Below w1.heap.size w1 w2) (h : S5 W p1 p2 p3 p4 p5 l1 l2 l3 l4 l5 w1) : S5 W p1 p2 p3 p4 p5 l1 l2 l3 l4 l5 w2 :=
  s5_of r1 r2 r3 r4 r5 (go_on (s5_below h) hb)

/-- Three blocks. -/
abbrev S3 (W : World) (p1 p2 p3 : Nat) (l1 l2 l3 : Array Value) (w' : World) : Prop :=
  (∀ o, w'.cell? ⟨p1, o, none⟩ = l1[o]?) ∧ (∀ o, w'.cell? ⟨p2, o, none⟩ = l2[o]?) ∧ (∀ o, w'.cell? ⟨p3, o, none⟩ = l3[o]?) ∧ Below W.heap.size W w'
theorem s3_of {W : World} {p1 p2 p3 : Nat} {l1 l2 l3 : Array Value} (r1 : RowAt W p1 l1) (r2 : RowAt W p2 l2) (r3 : RowAt W p3 l3) {w' : World} (h : Below W.heap.size W w') : S3 W p1 p2 p3 l1 l2 l3 w' :=
  ⟨(r1.stay h).cell, (r2.stay h).cell, (r3.stay h).cell, h⟩
theorem s3_below {W : World} {p1 p2 p3 : Nat} {l1 l2 l3 : Array Value} {w' : World} (h : S3 W p1 p2 p3 l1 l2 l3 w') : Below W.heap.size W w' := h.2.2.2
theorem s3_step {W : World} {p1 p2 p3 : Nat} {l1 l2 l3 : Array Value} (r1 : RowAt W p1 l1) (r2 : RowAt W p2 l2) (r3 : RowAt W p3 l3) {w1 w2 : World} (hb : Below w1.heap.size w1 w2) (h : S3 W p1 p2 p3 l1 l2 l3 w1) : S3 W p1 p2 p3 l1 l2 l3 w2 :=
  s3_of r1 r2 r3 (go_on (s3_below h) hb)

set_option maxHeartbeats 16000000 in
set_option maxRecDepth 100000 in
theorem walk (A B : Nat) (hA : Fits A) (hB : Fits B) (w : World) (hT : TzTab w) :
    Calls Tryd.prog 4 #[setV A, setV B] w fun e w' => e = .returned (.bool true) ∧ Below w.heap.size w w' := by
  have HT : Hid (TzTab w) := hT
  clear hT
  have HH : Hid _ := held_start w A B
  have HOf : Hid (ofN (lst A 512) = A ∧ ofE (lst A 512) = 0) := of_lst hA
  have HcA : Hid (cnt 512 A = (lst A 512).length) := (lst_length A 512).symm
  have HNx : Hid (∀ k, k < (lst A 512).length → NextIs A (prevAt (lst A 512) k + 1) ((lst A 512).getD k 0) true) := fun k hk => next_here hA hk
  have HNg : Hid (NextIs A (prevAt (lst A 512) (lst A 512).length + 1) 0 false) := next_gone hA
  have HPr : Hid (∀ k, k ≤ (lst A 512).length → -1 ≤ prevAt (lst A 512) k ∧ prevAt (lst A 512) k < 512) := fun k hk => prev_range hk
  have HPl : Hid (∀ k, k < (lst A 512).length → prevAt (lst A 512) k < (lst A 512).getD k 0) := fun k hk => prev_lt hk
  have HHa : Hid (∀ k, k < (lst A 512).length → hasN A ((lst A 512).getD k 0) = true) := fun k hk => (lst_nonneg hk).2.2
  have hlen := lst_le A 512
  have eA := eq_same (word A)
  unfold setV cellsF
  unfold cellsF at eA
  go_enter Tryd.func4, Tryd.ntmps4
  go_wp2_with fail
  refine (list_any A _ (HT.out.below HH.out.2.2.2 HT.out.pos)).mono ?_
  rintro e w1 ⟨v, rfl, hown, hb1⟩
  have H1 := held_step HH.out hb1
  have HRd : Hid (Reads w1 v (lst A 512)) := own_reads hown
  clear hown hb1
  obtain ⟨xs, hxs⟩ : ∃ xs, lst A 512 = xs := ⟨_, rfl⟩
  rw [hxs] at HRd hlen HOf HcA HNx HNg HPr HPl HHa
  clear hxs
  go_wp2_with fail
  refine (of_any _ xs _ HRd.out (by omega)).mono ?_
  rintro e w2 ⟨rfl, hb2⟩
  rw [HOf.out.1, HOf.out.2]
  unfold setV cellsF
  have H2 := held_step H1 hb2
  obtain ⟨aa, ca, hva, hrd⟩ := HRd.out
  subst hva
  have HRD : Hid (∀ i, i < xs.length → ∃ g o, aa = some ⟨g, o, none⟩ ∧ g < w2.heap.size ∧ w2.cell? ⟨g, o + i, none⟩ = some (.int .i64 (xs.getD i 0))) := fun i hi => by
    obtain ⟨g, o, e, hg, hc⟩ := hrd i hi
    exact ⟨g, o, e, Nat.lt_of_lt_of_le hg hb2.size, by rw [below_cell hb2 hg]; exact hc⟩
  clear hrd HRd hb2 H1
  have H3 := held_alloc H2 (.cells #[.int .u64 (word A 0 : Nat), .int .u64 (word A 1 : Nat), .int .u64 (word A 2 : Nat), .int .u64 (word A 3 : Nat), .int .u64 (word A 4 : Nat), .int .u64 (word A 5 : Nat), .int .u64 (word A 6 : Nat), .int .u64 (word A 7 : Nat)] 25)
  go_wp2_with (first
    | (go_at_call 13; refine (num_any _ _).mono ?_; rintro e wn ⟨rfl, rfl⟩)
    | (go_at_call 22; refine (size_any A _).mono ?_; rintro e w3 ⟨rfl, hb3⟩; rw [HcA.out]))
  have H4 := held_step H3 hb3
  have HRE : Hid (∀ i, i < xs.length → ∃ g o, aa = some ⟨g, o, none⟩ ∧ g < w3.heap.size ∧ w3.cell? ⟨g, o + i, none⟩ = some (.int .i64 (xs.getD i 0))) := fun i hi => by
    obtain ⟨g, o, e, hg, hc⟩ := HRD.out i hi
    have hg' : g < (w2.alloc (.cells #[.int .u64 (word A 0 : Nat), .int .u64 (word A 1 : Nat), .int .u64 (word A 2 : Nat), .int .u64 (word A 3 : Nat), .int .u64 (word A 4 : Nat), .int .u64 (word A 5 : Nat), .int .u64 (word A 6 : Nat), .int .u64 (word A 7 : Nat)] 25)).heap.size := by simp; omega
    exact ⟨g, o, e, Nat.lt_of_lt_of_le hg' hb3.size, by rw [below_cell hb3 hg', below_cell ((Below.refl w2.heap.size w2).alloc (Nat.le_refl _) _) hg]; exact hc⟩
  clear HRD H2 H3 hb3
  have HK : Hid (HeldS w A B w3) := H4
  clear H4
  have HPx : Hid (∀ k, k < xs.length → prevAt xs (k + 1) = xs.getD k 0) := fun k _ => prevAt_succ xs k
  have hp0 : prevAt xs 0 = -1 := rfl
  have HP0 : Hid _ := hp0
  clear hp0
  go_loopw [8, 9] (fun va vk wr => ∃ k : Nat, k ≤ xs.length ∧ vk = .int .i64 k ∧ va = .int .i64 (prevAt xs k) ∧ Below w3.heap.size w3 wr) (fun _ vk _ => xs.length - (intOf vk).toNat)
  case atStart => exact ⟨0, Nat.zero_le _, rfl, by rw [HP0.out], Below.refl _ _⟩
  case round =>
    obtain ⟨k, hk, rfl, rfl, hbr⟩ := hrel
    have hpr := HPr.out k hk
    have HKr : HeldS w A B wr := held_step HK.out hbr
    obtain ⟨cA, cB, cS, cW⟩ := HKr
    have HW : Hid (Below w.heap.size w wr) := cW
    have HR : Hid (Below w3.heap.size w3 wr) := hbr
    have HS : Hid (w.heap.size + 1 < wr.heap.size) := cS
    have hT2 : Hid (TzTab wr) := HT.out.below cW HT.out.pos
    by_cases hlt : k < xs.length
    · have hrI : (k : Int) < xs.length := by omega
      obtain ⟨g, o, rfl, hg, hcell⟩ := HRE.out k hlt
      have hnx := HNx.out k hlt
      have hpl := HPl.out k hlt
      have hha := HHa.out k hlt
      have hpx := HPx.out k hlt
      have hcell2 : wr.cell? ⟨g, o + k, none⟩ = some (.int .i64 (xs.getD k 0)) := by rw [below_cell hbr hg]; exact hcell
      have hg2 : g < wr.heap.size := Nat.lt_of_lt_of_le hg hbr.size
      clear hbr cS cW hcell
      obtain ⟨x, hx⟩ : ∃ x, xs.getD k 0 = x := ⟨_, rfl⟩
      rw [hx] at hnx hpl hha hpx hcell2
      obtain ⟨p, hp⟩ : ∃ p, prevAt xs k = p := ⟨_, rfl⟩
      rw [hp] at hnx hpl hpr
      rw [hp]
      have HX : Hid (NextIs A (p + 1) x true) := hnx
      have HA : Hid (hasN A x = true) := hha
      have HPX : Hid (prevAt xs (k + 1) = x) := hpx
      have HC : Hid (wr.cell? ⟨g, o + k, none⟩ = some (.int .i64 x)) := hcell2
      clear hnx hha hpx hx hp
      obtain ⟨hp1, hp2⟩ := hpr
      have hpl2 : ¬ x ≤ p := by omega
      go_wp2_with fail
      refine (next_any A hA (p + 1) _ hT2.out).mono ?_
      rintro e w4 ⟨⟨n, ok, rfl, hx4⟩, hb4⟩
      obtain ⟨e1, e2⟩ := NextIs.one hx4 HX.out
      subst e1 e2
      have hcell3 : w4.cell? ⟨g, o + k, none⟩ = some (.int .i64 n) := by rw [below_cell hb4 hg2]; exact HC.out
      have HK4 : HeldS w A B w4 := held_step ⟨cA, cB, HS.out, HW.out⟩ hb4
      obtain ⟨cA4, cB4, cS4, cW4⟩ := HK4
      have HB4 : Hid (Below w3.heap.size w3 w4) := go_on HR.out hb4
      clear hb4 cA cB hcell2 hx4 cS4 cW4
      go_wp2_with (go_at_call 14; refine (has_any A n _).mono ?_; rintro e w5 ⟨rfl, hb5⟩; rw [HA.out])
      go_roundw
      case rel => exact ⟨k + 1, by omega, by go_num, by rw [HPX.out], go_on HB4.out hb5⟩
      case measure => simp [intOf]; omega
    · have hrI : ¬ (k : Int) < xs.length := by omega
      obtain rfl : k = xs.length := by omega
      have hng := HNg.out
      obtain ⟨p, hp⟩ : ∃ p, prevAt xs xs.length = p := ⟨_, rfl⟩
      rw [hp] at hng hpr
      rw [hp]
      obtain ⟨hp1, hp2⟩ := hpr
      have HNG : Hid (NextIs A (p + 1) 0 false) := hng
      clear hng hp hlt hbr cS cW
      go_wp2_with fail
      refine (next_any A hA (p + 1) _ hT2.out).mono ?_
      rintro e w4 ⟨⟨n, ok, rfl, hx4⟩, hb4⟩
      obtain ⟨e1, e2⟩ := NextIs.one hx4 HNG.out
      subst e1 e2
      have HK4 : HeldS w A B w4 := held_step ⟨cA, cB, HS.out, HW.out⟩ hb4
      clear hb4 cA cB hx4 hT2 HRE HR HNx HPr HPl HHa HPx HP0 HOf
      have HUs : Hid (cnt 512 (orN A B) + cnt 512 (andN A B) = cnt 512 A + cnt 512 B) := cnt_or_and A B 512
      have HMs : Hid (cnt 512 (butN A B) + cnt 512 (andN A B) = cnt 512 A) := cnt_but_and A B 512
      have HMI : Hid (orN (butN A B) (andN A B) = A) := or_but_and A B
      have HSub : Hid (subN A B = decide (orN A B = B)) := rfl
      have HfU : Hid (Fits (orN A B)) := fun i hi => by unfold orN; rw [Nat.testBit_or, hA i hi, hB i hi]; rfl
      have HsL : Hid (orN A B = B → A ≤ B) := sub_le
      obtain ⟨U, HU⟩ : ∃ U, Hid (orN A B = U) := ⟨_, rfl⟩
      obtain ⟨I, HI⟩ : ∃ I, Hid (andN A B = I) := ⟨_, rfl⟩
      obtain ⟨M, HM⟩ : ∃ M, Hid (butN A B = M) := ⟨_, rfl⟩
      rw [HU.out, HI.out, HcA.out] at HUs
      rw [HM.out, HI.out, HcA.out] at HMs
      rw [HM.out, HI.out] at HMI
      rw [HU.out] at HSub HfU HsL
      obtain ⟨cU, HcU⟩ : ∃ c, Hid (cnt 512 U = c) := ⟨_, rfl⟩
      obtain ⟨cI, HcI⟩ : ∃ c, Hid (cnt 512 I = c) := ⟨_, rfl⟩
      obtain ⟨cM, HcM⟩ : ∃ c, Hid (cnt 512 M = c) := ⟨_, rfl⟩
      obtain ⟨cB, HcB⟩ : ∃ c, Hid (cnt 512 B = c) := ⟨_, rfl⟩
      rw [HcU.out, HcI.out, HcB.out] at HUs
      rw [HcM.out, HcI.out] at HMs
      have bU : cU ≤ 512 := by rw [← HcU.out]; exact cnt_le _ _
      have bI : cI ≤ 512 := by rw [← HcI.out]; exact cnt_le _ _
      have bM : cM ≤ 512 := by rw [← HcM.out]; exact cnt_le _ _
      have bB : cB ≤ 512 := by rw [← HcB.out]; exact cnt_le _ _
      obtain ⟨T, hT1⟩ : ∃ T : Int, (xs.length : Int) + (cB : Int) = T := ⟨_, rfl⟩
      have hw1 : IntKind.i64.wrap ((cU : Int) + (cI : Int)) = T := by have := HUs.out; rw [IntKind.wrap_i64]; omega
      have hw2 : IntKind.i64.wrap ((xs.length : Int) + (cB : Int)) = T := by rw [IntKind.wrap_i64]; omega
      have hw3 : IntKind.i64.wrap ((cM : Int) + (cI : Int)) = (xs.length : Int) := by have := HMs.out; rw [IntKind.wrap_i64]; omega
      clear hT1
      have eUB := fun w => eq_set HfU.out hB w
      have eAB := fun w => eq_set hA hB w
      unfold cellsF at eUB eAB
      clear HUs HMs HfU HcA
      obtain ⟨cA4, cB4, cS4, cW4⟩ := HK4
      have HK4 : Hid (HeldS w A B w4) := ⟨cA4, cB4, cS4, cW4⟩
      clear cS4 cW4
      go_wp2_with fail
      refine (union_any A B _).mono ?_
      rintro e w5 ⟨rfl, hb5⟩
      rw [HU.out]
      unfold setV cellsF
      have HK5 : HeldS w A B (w5.alloc (.cells #[.int .u64 (word U 0 : Nat), .int .u64 (word U 1 : Nat), .int .u64 (word U 2 : Nat), .int .u64 (word U 3 : Nat), .int .u64 (word U 4 : Nat), .int .u64 (word U 5 : Nat), .int .u64 (word U 6 : Nat), .int .u64 (word U 7 : Nat)] 25)) := held_alloc (held_step HK4.out hb5) _
      have RU : RowAt (w5.alloc (.cells #[.int .u64 (word U 0 : Nat), .int .u64 (word U 1 : Nat), .int .u64 (word U 2 : Nat), .int .u64 (word U 3 : Nat), .int .u64 (word U 4 : Nat), .int .u64 (word U 5 : Nat), .int .u64 (word U 6 : Nat), .int .u64 (word U 7 : Nat)] 25)) w5.heap.size #[.int .u64 (word U 0 : Nat), .int .u64 (word U 1 : Nat), .int .u64 (word U 2 : Nat), .int .u64 (word U 3 : Nat), .int .u64 (word U 4 : Nat), .int .u64 (word U 5 : Nat), .int .u64 (word U 6 : Nat), .int .u64 (word U 7 : Nat)] := RowAt.last _ _ _
      clear hb5 cA4 cB4 HK4
      obtain ⟨cA4, cB4, cS4, cW4⟩ := HK5
      have HK5 : Hid (HeldS w A B (w5.alloc (.cells #[.int .u64 (word U 0 : Nat), .int .u64 (word U 1 : Nat), .int .u64 (word U 2 : Nat), .int .u64 (word U 3 : Nat), .int .u64 (word U 4 : Nat), .int .u64 (word U 5 : Nat), .int .u64 (word U 6 : Nat), .int .u64 (word U 7 : Nat)] 25))) := ⟨cA4, cB4, cS4, cW4⟩
      clear cS4 cW4
      go_wp2_with fail
      refine (inter_any A B _).mono ?_
      rintro e w6 ⟨rfl, hb6⟩
      rw [HI.out]
      unfold setV cellsF
      have HK6 : HeldS w A B (w6.alloc (.cells #[.int .u64 (word I 0 : Nat), .int .u64 (word I 1 : Nat), .int .u64 (word I 2 : Nat), .int .u64 (word I 3 : Nat), .int .u64 (word I 4 : Nat), .int .u64 (word I 5 : Nat), .int .u64 (word I 6 : Nat), .int .u64 (word I 7 : Nat)] 25)) := held_alloc (held_step HK5.out hb6) _
      have RU : RowAt (w6.alloc (.cells #[.int .u64 (word I 0 : Nat), .int .u64 (word I 1 : Nat), .int .u64 (word I 2 : Nat), .int .u64 (word I 3 : Nat), .int .u64 (word I 4 : Nat), .int .u64 (word I 5 : Nat), .int .u64 (word I 6 : Nat), .int .u64 (word I 7 : Nat)] 25)) w5.heap.size #[.int .u64 (word U 0 : Nat), .int .u64 (word U 1 : Nat), .int .u64 (word U 2 : Nat), .int .u64 (word U 3 : Nat), .int .u64 (word U 4 : Nat), .int .u64 (word U 5 : Nat), .int .u64 (word U 6 : Nat), .int .u64 (word U 7 : Nat)] := (RU.stay hb6).alloc _
      have RI : RowAt (w6.alloc (.cells #[.int .u64 (word I 0 : Nat), .int .u64 (word I 1 : Nat), .int .u64 (word I 2 : Nat), .int .u64 (word I 3 : Nat), .int .u64 (word I 4 : Nat), .int .u64 (word I 5 : Nat), .int .u64 (word I 6 : Nat), .int .u64 (word I 7 : Nat)] 25)) w6.heap.size #[.int .u64 (word I 0 : Nat), .int .u64 (word I 1 : Nat), .int .u64 (word I 2 : Nat), .int .u64 (word I 3 : Nat), .int .u64 (word I 4 : Nat), .int .u64 (word I 5 : Nat), .int .u64 (word I 6 : Nat), .int .u64 (word I 7 : Nat)] := RowAt.last _ _ _
      clear hb6 cA4 cB4 HK5
      obtain ⟨cA4, cB4, cS4, cW4⟩ := HK6
      have HK6 : Hid (HeldS w A B (w6.alloc (.cells #[.int .u64 (word I 0 : Nat), .int .u64 (word I 1 : Nat), .int .u64 (word I 2 : Nat), .int .u64 (word I 3 : Nat), .int .u64 (word I 4 : Nat), .int .u64 (word I 5 : Nat), .int .u64 (word I 6 : Nat), .int .u64 (word I 7 : Nat)] 25))) := ⟨cA4, cB4, cS4, cW4⟩
      clear cS4 cW4
      go_wp2_with fail
      refine (minus_any A B _).mono ?_
      rintro e w7 ⟨rfl, hb7⟩
      rw [HM.out]
      unfold setV cellsF
      have HK7 : HeldS w A B (w7.alloc (.cells #[.int .u64 (word M 0 : Nat), .int .u64 (word M 1 : Nat), .int .u64 (word M 2 : Nat), .int .u64 (word M 3 : Nat), .int .u64 (word M 4 : Nat), .int .u64 (word M 5 : Nat), .int .u64 (word M 6 : Nat), .int .u64 (word M 7 : Nat)] 25)) := held_alloc (held_step HK6.out hb7) _
      have RU : RowAt (w7.alloc (.cells #[.int .u64 (word M 0 : Nat), .int .u64 (word M 1 : Nat), .int .u64 (word M 2 : Nat), .int .u64 (word M 3 : Nat), .int .u64 (word M 4 : Nat), .int .u64 (word M 5 : Nat), .int .u64 (word M 6 : Nat), .int .u64 (word M 7 : Nat)] 25)) w5.heap.size #[.int .u64 (word U 0 : Nat), .int .u64 (word U 1 : Nat), .int .u64 (word U 2 : Nat), .int .u64 (word U 3 : Nat), .int .u64 (word U 4 : Nat), .int .u64 (word U 5 : Nat), .int .u64 (word U 6 : Nat), .int .u64 (word U 7 : Nat)] := (RU.stay hb7).alloc _
      have RI : RowAt (w7.alloc (.cells #[.int .u64 (word M 0 : Nat), .int .u64 (word M 1 : Nat), .int .u64 (word M 2 : Nat), .int .u64 (word M 3 : Nat), .int .u64 (word M 4 : Nat), .int .u64 (word M 5 : Nat), .int .u64 (word M 6 : Nat), .int .u64 (word M 7 : Nat)] 25)) w6.heap.size #[.int .u64 (word I 0 : Nat), .int .u64 (word I 1 : Nat), .int .u64 (word I 2 : Nat), .int .u64 (word I 3 : Nat), .int .u64 (word I 4 : Nat), .int .u64 (word I 5 : Nat), .int .u64 (word I 6 : Nat), .int .u64 (word I 7 : Nat)] := (RI.stay hb7).alloc _
      have RM : RowAt (w7.alloc (.cells #[.int .u64 (word M 0 : Nat), .int .u64 (word M 1 : Nat), .int .u64 (word M 2 : Nat), .int .u64 (word M 3 : Nat), .int .u64 (word M 4 : Nat), .int .u64 (word M 5 : Nat), .int .u64 (word M 6 : Nat), .int .u64 (word M 7 : Nat)] 25)) w7.heap.size #[.int .u64 (word M 0 : Nat), .int .u64 (word M 1 : Nat), .int .u64 (word M 2 : Nat), .int .u64 (word M 3 : Nat), .int .u64 (word M 4 : Nat), .int .u64 (word M 5 : Nat), .int .u64 (word M 6 : Nat), .int .u64 (word M 7 : Nat)] := RowAt.last _ _ _
      obtain ⟨RA, RB⟩ := held_rows HK7
      have BW : Hid (Below w.heap.size w (w7.alloc (.cells #[.int .u64 (word M 0 : Nat), .int .u64 (word M 1 : Nat), .int .u64 (word M 2 : Nat), .int .u64 (word M 3 : Nat), .int .u64 (word M 4 : Nat), .int .u64 (word M 5 : Nat), .int .u64 (word M 6 : Nat), .int .u64 (word M 7 : Nat)] 25))) := HK7.2.2.2
      clear hb7 cA4 cB4 HK6 HK7
      go_wp2_with fail
      generalize hWd : w7.alloc (.cells #[.int .u64 (word M 0 : Nat), .int .u64 (word M 1 : Nat), .int .u64 (word M 2 : Nat), .int .u64 (word M 3 : Nat), .int .u64 (word M 4 : Nat), .int .u64 (word M 5 : Nat), .int .u64 (word M 6 : Nat), .int .u64 (word M 7 : Nat)] 25) = W at RU RI RM RA RB BW ⊢
      clear hWd
      have S0 : S5 W w.heap.size (w.heap.size + 1) w5.heap.size w6.heap.size w7.heap.size #[.int .u64 (word A 0 : Nat), .int .u64 (word A 1 : Nat), .int .u64 (word A 2 : Nat), .int .u64 (word A 3 : Nat), .int .u64 (word A 4 : Nat), .int .u64 (word A 5 : Nat), .int .u64 (word A 6 : Nat), .int .u64 (word A 7 : Nat)] #[.int .u64 (word B 0 : Nat), .int .u64 (word B 1 : Nat), .int .u64 (word B 2 : Nat), .int .u64 (word B 3 : Nat), .int .u64 (word B 4 : Nat), .int .u64 (word B 5 : Nat), .int .u64 (word B 6 : Nat), .int .u64 (word B 7 : Nat)] #[.int .u64 (word U 0 : Nat), .int .u64 (word U 1 : Nat), .int .u64 (word U 2 : Nat), .int .u64 (word U 3 : Nat), .int .u64 (word U 4 : Nat), .int .u64 (word U 5 : Nat), .int .u64 (word U 6 : Nat), .int .u64 (word U 7 : Nat)] #[.int .u64 (word I 0 : Nat), .int .u64 (word I 1 : Nat), .int .u64 (word I 2 : Nat), .int .u64 (word I 3 : Nat), .int .u64 (word I 4 : Nat), .int .u64 (word I 5 : Nat), .int .u64 (word I 6 : Nat), .int .u64 (word I 7 : Nat)] #[.int .u64 (word M 0 : Nat), .int .u64 (word M 1 : Nat), .int .u64 (word M 2 : Nat), .int .u64 (word M 3 : Nat), .int .u64 (word M 4 : Nat), .int .u64 (word M 5 : Nat), .int .u64 (word M 6 : Nat), .int .u64 (word M 7 : Nat)] W.drew := s5_of RA RB RU RI RM (Below.refl _ _).drew
      go_cut [121] (fun s wx => s = .bool false ∧ Below W.heap.size W wx)
      case first =>
        go_region_held3 (fun w' => S5 W w.heap.size (w.heap.size + 1) w5.heap.size w6.heap.size w7.heap.size #[.int .u64 (word A 0 : Nat), .int .u64 (word A 1 : Nat), .int .u64 (word A 2 : Nat), .int .u64 (word A 3 : Nat), .int .u64 (word A 4 : Nat), .int .u64 (word A 5 : Nat), .int .u64 (word A 6 : Nat), .int .u64 (word A 7 : Nat)] #[.int .u64 (word B 0 : Nat), .int .u64 (word B 1 : Nat), .int .u64 (word B 2 : Nat), .int .u64 (word B 3 : Nat), .int .u64 (word B 4 : Nat), .int .u64 (word B 5 : Nat), .int .u64 (word B 6 : Nat), .int .u64 (word B 7 : Nat)] #[.int .u64 (word U 0 : Nat), .int .u64 (word U 1 : Nat), .int .u64 (word U 2 : Nat), .int .u64 (word U 3 : Nat), .int .u64 (word U 4 : Nat), .int .u64 (word U 5 : Nat), .int .u64 (word U 6 : Nat), .int .u64 (word U 7 : Nat)] #[.int .u64 (word I 0 : Nat), .int .u64 (word I 1 : Nat), .int .u64 (word I 2 : Nat), .int .u64 (word I 3 : Nat), .int .u64 (word I 4 : Nat), .int .u64 (word I 5 : Nat), .int .u64 (word I 6 : Nat), .int .u64 (word I 7 : Nat)] #[.int .u64 (word M 0 : Nat), .int .u64 (word M 1 : Nat), .int .u64 (word M 2 : Nat), .int .u64 (word M 3 : Nat), .int .u64 (word M 4 : Nat), .int .u64 (word M 5 : Nat), .int .u64 (word M 6 : Nat), .int .u64 (word M 7 : Nat)] w') (first | exact S0 | exact s5_step RA RB RU RI RM (by assumption) (by assumption)) (first
          | (go_at_call_of 22 (Value.int IntKind.u64 ((word U 0 : Nat) : Int)); refine (size_any U _).mono ?_; rintro e y1 ⟨rfl, hy1⟩; rw [HcU.out])
          | (go_at_call_of 22 (Value.int IntKind.u64 ((word I 0 : Nat) : Int)); refine (size_any I _).mono ?_; rintro e y2 ⟨rfl, hy2⟩; rw [HcI.out])
          | (go_at_call_of 22 (Value.int IntKind.u64 ((word M 0 : Nat) : Int)); refine (size_any M _).mono ?_; rintro e y3 ⟨rfl, hy3⟩; rw [HcM.out])
          | (go_at_call_of 22 (Value.int IntKind.u64 ((word B 0 : Nat) : Int)); refine (size_any B _).mono ?_; rintro e y4 ⟨rfl, hy4⟩; rw [HcB.out])
          | (go_at_call 24; refine (union_any M I _).mono ?_; rintro e y5 ⟨rfl, hy5⟩; rw [HMI.out]; unfold setV cellsF))
        all_goals (go_wp2_with fail; go_meet; exact ⟨rfl, s5_below (by assumption)⟩)
      case rest =>
        obtain ⟨rfl, hbc⟩ := hcut
        have HBC : Hid (Below W.heap.size W wc) := hbc
        have cA9 := (RA.stay hbc).cell
        have cB9 := (RB.stay hbc).cell
        clear hbc S0
        go_wp2_with fail
        refine (compare_any A B hA hB _).mono ?_
        rintro e w8 ⟨rfl, hb8⟩
        have RA8 := (RA.stay HBC.out).stay hb8
        have RB8 := (RB.stay HBC.out).stay hb8
        have RU8 := (RU.stay HBC.out).stay hb8
        have HB8 : Hid (Below wc.heap.size wc w8) := hb8
        have S9 : S3 w8 w.heap.size (w.heap.size + 1) w5.heap.size #[.int .u64 (word A 0 : Nat), .int .u64 (word A 1 : Nat), .int .u64 (word A 2 : Nat), .int .u64 (word A 3 : Nat), .int .u64 (word A 4 : Nat), .int .u64 (word A 5 : Nat), .int .u64 (word A 6 : Nat), .int .u64 (word A 7 : Nat)] #[.int .u64 (word B 0 : Nat), .int .u64 (word B 1 : Nat), .int .u64 (word B 2 : Nat), .int .u64 (word B 3 : Nat), .int .u64 (word B 4 : Nat), .int .u64 (word B 5 : Nat), .int .u64 (word B 6 : Nat), .int .u64 (word B 7 : Nat)] #[.int .u64 (word U 0 : Nat), .int .u64 (word U 1 : Nat), .int .u64 (word U 2 : Nat), .int .u64 (word U 3 : Nat), .int .u64 (word U 4 : Nat), .int .u64 (word U 5 : Nat), .int .u64 (word U 6 : Nat), .int .u64 (word U 7 : Nat)] w8.drew := s3_of RA8 RB8 RU8 (Below.refl _ _).drew
        clear hb8 cA9 cB9 RA RB RU RI RM hw1 hw2 hw3 eA HMI HU HI HM
        obtain ⟨c, c2, HC1, HC2, hce, hw4, hc1, hc2, hc3⟩ : ∃ c c2 : Int, Hid (cmpN A B = c) ∧ Hid (cmpN B A = c2) ∧ decide (A = B) = (c == 0) ∧ IntKind.i64.wrap (-c2) = c ∧ -1 ≤ c ∧ c ≤ 1 ∧ (U = B → c ≤ 0) := by
          rcases Nat.lt_trichotomy A B with hlt | heq | hgt
          · exact ⟨-1, 1, by show _ = _; unfold cmpN; rw [if_neg (by omega), if_pos hlt], by show _ = _; unfold cmpN; rw [if_neg (by omega), if_neg (by omega)], by rw [decide_eq_false (by omega)]; rfl, by rw [IntKind.wrap_i64]; omega, by omega, by omega, fun _ => by omega⟩
          · exact ⟨0, 0, by show _ = _; unfold cmpN; rw [if_pos heq], by show _ = _; unfold cmpN; rw [if_pos heq.symm], by rw [decide_eq_true heq]; rfl, by rw [IntKind.wrap_i64]; omega, by omega, by omega, fun _ => by omega⟩
          · exact ⟨1, -1, by show _ = _; unfold cmpN; rw [if_neg (by omega), if_neg (by omega)], by show _ = _; unfold cmpN; rw [if_neg (by omega), if_pos hgt], by rw [decide_eq_false (by omega)]; rfl, by rw [IntKind.wrap_i64]; omega, by omega, by omega, fun h => by have := HsL.out h; omega⟩
        rw [HC1.out]
        rw [hce] at eAB
        clear hce
        by_cases hsb : U = B
        · have hd : decide (U = B) = true := decide_eq_true hsb
          have HSb : Hid (subN A B = true) := by show _ = _; rw [HSub.out, hd]
          have hc0 : c ≤ 0 := hc3 hsb
          rw [hd] at eUB
          clear hd hsb hc3 hc2
          have hc2 : c ≤ 1 := by omega
          go_wp2_with fail
          go_region_held3 (fun w' => S3 w8 w.heap.size (w.heap.size + 1) w5.heap.size #[.int .u64 (word A 0 : Nat), .int .u64 (word A 1 : Nat), .int .u64 (word A 2 : Nat), .int .u64 (word A 3 : Nat), .int .u64 (word A 4 : Nat), .int .u64 (word A 5 : Nat), .int .u64 (word A 6 : Nat), .int .u64 (word A 7 : Nat)] #[.int .u64 (word B 0 : Nat), .int .u64 (word B 1 : Nat), .int .u64 (word B 2 : Nat), .int .u64 (word B 3 : Nat), .int .u64 (word B 4 : Nat), .int .u64 (word B 5 : Nat), .int .u64 (word B 6 : Nat), .int .u64 (word B 7 : Nat)] #[.int .u64 (word U 0 : Nat), .int .u64 (word U 1 : Nat), .int .u64 (word U 2 : Nat), .int .u64 (word U 3 : Nat), .int .u64 (word U 4 : Nat), .int .u64 (word U 5 : Nat), .int .u64 (word U 6 : Nat), .int .u64 (word U 7 : Nat)] w') (first | exact S9 | exact s3_step RA8 RB8 RU8 (by assumption) (by assumption)) (first
            | (go_at_call 28; refine (subset_any A B hA hB _).mono ?_; rintro e y1 ⟨rfl, hy1⟩; rw [HSb.out])
            | (go_at_call 27; refine (compare_any B A hB hA _).mono ?_; rintro e y2 ⟨rfl, hy2⟩; rw [HC2.out])
            | (go_at_call 21; refine (live_any _).mono ?_; rintro e y3 ⟨rfl, hy3⟩))
          all_goals go_wp2_with fail
          all_goals go_ret
          all_goals exact ⟨rfl, go_on (go_on (go_on BW.out HBC.out) HB8.out) (s3_below (by assumption))⟩
        · have hd : decide (U = B) = false := decide_eq_false hsb
          have HSb : Hid (subN A B = false) := by show _ = _; rw [HSub.out, hd]
          rw [hd] at eUB
          clear hd hsb hc3
          go_wp2_with fail
          refine wp_region_held_drew (S := fun w' => S3 w8 w.heap.size (w.heap.size + 1) w5.heap.size #[.int .u64 (word A 0 : Nat), .int .u64 (word A 1 : Nat), .int .u64 (word A 2 : Nat), .int .u64 (word A 3 : Nat), .int .u64 (word A 4 : Nat), .int .u64 (word A 5 : Nat), .int .u64 (word A 6 : Nat), .int .u64 (word A 7 : Nat)] #[.int .u64 (word B 0 : Nat), .int .u64 (word B 1 : Nat), .int .u64 (word B 2 : Nat), .int .u64 (word B 3 : Nat), .int .u64 (word B 4 : Nat), .int .u64 (word B 5 : Nat), .int .u64 (word B 6 : Nat), .int .u64 (word B 7 : Nat)] #[.int .u64 (word U 0 : Nat), .int .u64 (word U 1 : Nat), .int .u64 (word U 2 : Nat), .int .u64 (word U 3 : Nat), .int .u64 (word U 4 : Nat), .int .u64 (word U 5 : Nat), .int .u64 (word U 6 : Nat), .int .u64 (word U 7 : Nat)] w') (by kernel_rfl) S9 (fun hHeld => ?_)
          refine wpAnyH_take (i := 0) (oi := { dst := some 125, op := Op.load 25 (Operand.tmp 2), type := 25, pos := "law.go:96", after := #[], guard := none }) (v := ?_) rfl (by kernel_rfl) (by kernel_rfl) (by kernel_rfl) (fun _ _ _ h => h) (Or.inl ⟨by rfl, ?_⟩) (by assumption) ?_
          rotate_left
          · intro w hSw; (try dsimp only at hSw); go_simp; (try with_reducible rfl)
          try simp only [Act.put, List.setIfInBounds_toArray, List.set_cons_zero, List.set_cons_succ]
          refine wpAnyH_take (i := 1) (oi := { dst := some 126, op := Op.load 25 (Operand.tmp 3), type := 25, pos := "law.go:96", after := #[], guard := none }) (v := ?_) rfl (by kernel_rfl) (by kernel_rfl) (by kernel_rfl) (fun _ _ _ h => h) (Or.inl ⟨by rfl, ?_⟩) (by assumption) ?_
          rotate_left
          · intro w hSw; (try dsimp only at hSw); go_simp; (try with_reducible rfl)
          try simp only [Act.put, List.setIfInBounds_toArray, List.set_cons_zero, List.set_cons_succ]
          refine wpAnyH_take (i := 3) (oi := { dst := some 128, op := Op.load 25 (Operand.tmp 14), type := 25, pos := "law.go:96", after := #[], guard := none }) (v := ?_) rfl (by kernel_rfl) (by kernel_rfl) (by kernel_rfl) (fun _ _ _ h => h) (Or.inl ⟨by rfl, ?_⟩) (by assumption) ?_
          rotate_left
          · intro w hSw; (try dsimp only at hSw); go_simp; (try with_reducible rfl)
          try simp only [Act.put, List.setIfInBounds_toArray, List.set_cons_zero, List.set_cons_succ]
          refine wpAnyH_take (i := 4) (oi := { dst := some 129, op := Op.load 25 (Operand.tmp 3), type := 25, pos := "law.go:96", after := #[], guard := none }) (v := ?_) rfl (by kernel_rfl) (by kernel_rfl) (by kernel_rfl) (fun _ _ _ h => h) (Or.inl ⟨by rfl, ?_⟩) (by assumption) ?_
          rotate_left
          · intro w hSw; (try dsimp only at hSw); go_simp; (try with_reducible rfl)
          try simp only [Act.put, List.setIfInBounds_toArray, List.set_cons_zero, List.set_cons_succ]
          refine wpAnyH_take (i := 5) (oi := { dst := some 130, op := Op.binOp BinOp.eql 25 (Operand.tmp 128) (Operand.tmp 129) 25, type := 4, pos := "law.go:96", after := #[{ on := 3, ground := Ground.data }, { on := 4, ground := Ground.data }], guard := none }) (v := ?_) rfl (by kernel_rfl) (by kernel_rfl) (by kernel_rfl) (fun _ _ _ h => h) (Or.inl ⟨by rfl, ?_⟩) (by assumption) ?_
          rotate_left
          · intro w hSw; (try dsimp only at hSw); go_simp; (try with_reducible rfl)
          try simp only [Act.put, List.setIfInBounds_toArray, List.set_cons_zero, List.set_cons_succ]
          refine wpAnyH_ready (rs := [2]) (by kernel_rfl) (by simp) ?_
          refine AllReadyH.cons (o := { dst := some 127, op := Op.call { callee := Callee.value (Operand.func 28), args := #[Operand.tmp 125, Operand.tmp 126], argTypes := #[25, 25] }, type := 4, pos := "law.go:96", after := #[{ on := 0, ground := Ground.data }, { on := 1, ground := Ground.data }], guard := none }) rfl (fun K hK => ?_) AllReadyH.nil
          go_simp
          refine (subset_any A B hA hB _).mono ?_
          rintro e y1 ⟨rfl, hy1⟩
          rw [HSb.out]
          go_wp2_with fail
          refine hK.out _ _ ?_ (fun hHeld => ?_)
          · exact s3_step RA8 RB8 RU8 hy1 hHeld
          clear hK K
          try simp only [Act.put, List.setIfInBounds_toArray, List.set_cons_zero, List.set_cons_succ]
          refine wpAnyH_take (i := 6) (oi := { dst := some 131, op := Op.binOp BinOp.eql 4 (Operand.tmp 127) (Operand.tmp 130) 4, type := 4, pos := "law.go:96", after := #[{ on := 2, ground := Ground.data }, { on := 5, ground := Ground.data }], guard := none }) (v := ?_) rfl (by kernel_rfl) (by kernel_rfl) (by kernel_rfl) (fun _ _ _ h => h) (Or.inl ⟨by rfl, ?_⟩) (by assumption) ?_
          rotate_left
          · intro w hSw; (try dsimp only at hSw); go_simp; (try with_reducible rfl)
          try simp only [Act.put, List.setIfInBounds_toArray, List.set_cons_zero, List.set_cons_succ]
          refine wpAnyH_take (i := 7) (oi := { dst := some 132, op := Op.move (Operand.tmp 131), type := 4, pos := "law.go:96", after := #[{ on := 6, ground := Ground.data }, { on := 2, ground := Ground.chain }], guard := none }) (v := ?_) rfl (by kernel_rfl) (by kernel_rfl) (by kernel_rfl) (fun _ _ _ h => h) (Or.inl ⟨by rfl, ?_⟩) (by assumption) ?_
          rotate_left
          · intro w hSw; (try dsimp only at hSw); go_simp; (try with_reducible rfl)
          try simp only [Act.put, List.setIfInBounds_toArray, List.set_cons_zero, List.set_cons_succ]
          refine wpAnyH_take (i := 8) (oi := { dst := some 133, op := Op.move (Operand.tmp 17), type := 3, pos := "law.go:96", after := #[{ on := 7, ground := Ground.guard }], guard := some (7, true) }) (v := ?_) rfl (by kernel_rfl) (by kernel_rfl) (by kernel_rfl) (fun _ _ _ h => h) (Or.inl ⟨by rfl, ?_⟩) (by assumption) ?_
          rotate_left
          · intro w hSw; (try dsimp only at hSw); go_simp; (try with_reducible rfl)
          try simp only [Act.put, List.setIfInBounds_toArray, List.set_cons_zero, List.set_cons_succ]
          refine wpAnyH_take (i := 9) (oi := { dst := some 134, op := Op.binOp BinOp.eql 3 (Operand.tmp 133) (Operand.const (Value.int IntKind.i64 0)) 3, type := 4, pos := "law.go:96", after := #[{ on := 8, ground := Ground.data }, { on := 7, ground := Ground.guard }], guard := some (7, true) }) (v := ?_) rfl (by kernel_rfl) (by kernel_rfl) (by kernel_rfl) (fun _ _ _ h => h) (Or.inl ⟨by rfl, ?_⟩) (by assumption) ?_
          rotate_left
          · intro w hSw; (try dsimp only at hSw); go_simp; (try with_reducible rfl)
          try simp only [Act.put, List.setIfInBounds_toArray, List.set_cons_zero, List.set_cons_succ]
          refine wpAnyH_take (i := 10) (oi := { dst := some 135, op := Op.load 25 (Operand.tmp 2), type := 25, pos := "law.go:96", after := #[{ on := 7, ground := Ground.guard }], guard := some (7, true) }) (v := ?_) rfl (by kernel_rfl) (by kernel_rfl) (by kernel_rfl) (fun _ _ _ h => h) (Or.inl ⟨by rfl, ?_⟩) (by assumption) ?_
          rotate_left
          · intro w hSw; (try dsimp only at hSw); go_simp; (try with_reducible rfl)
          try simp only [Act.put, List.setIfInBounds_toArray, List.set_cons_zero, List.set_cons_succ]
          refine wpAnyH_take (i := 11) (oi := { dst := some 136, op := Op.load 25 (Operand.tmp 3), type := 25, pos := "law.go:96", after := #[{ on := 7, ground := Ground.guard }], guard := some (7, true) }) (v := ?_) rfl (by kernel_rfl) (by kernel_rfl) (by kernel_rfl) (fun _ _ _ h => h) (Or.inl ⟨by rfl, ?_⟩) (by assumption) ?_
          rotate_left
          · intro w hSw; (try dsimp only at hSw); go_simp; (try with_reducible rfl)
          try simp only [Act.put, List.setIfInBounds_toArray, List.set_cons_zero, List.set_cons_succ]
          refine wpAnyH_take (i := 12) (oi := { dst := some 137, op := Op.binOp BinOp.eql 25 (Operand.tmp 135) (Operand.tmp 136) 25, type := 4, pos := "law.go:96", after := #[{ on := 10, ground := Ground.data }, { on := 11, ground := Ground.data }, { on := 7, ground := Ground.guard }], guard := some (7, true) }) (v := ?_) rfl (by kernel_rfl) (by kernel_rfl) (by kernel_rfl) (fun _ _ _ h => h) (Or.inl ⟨by rfl, ?_⟩) (by assumption) ?_
          rotate_left
          · intro w hSw; (try dsimp only at hSw); go_simp; (try with_reducible rfl)
          try simp only [Act.put, List.setIfInBounds_toArray, List.set_cons_zero, List.set_cons_succ]
          refine wpAnyH_take (i := 13) (oi := { dst := some 138, op := Op.binOp BinOp.eql 4 (Operand.tmp 134) (Operand.tmp 137) 4, type := 4, pos := "law.go:96", after := #[{ on := 9, ground := Ground.data }, { on := 12, ground := Ground.data }, { on := 7, ground := Ground.guard }], guard := some (7, true) }) (v := ?_) rfl (by kernel_rfl) (by kernel_rfl) (by kernel_rfl) (fun _ _ _ h => h) (Or.inl ⟨by rfl, ?_⟩) (by assumption) ?_
          rotate_left
          · intro w hSw; (try dsimp only at hSw); go_simp; (try with_reducible rfl)
          try simp only [Act.put, List.setIfInBounds_toArray, List.set_cons_zero, List.set_cons_succ]
          refine wpAnyH_take (i := 14) (oi := { dst := some 139, op := Op.pick (Operand.tmp 132) (Operand.tmp 138) (Operand.const (Value.bool false)), type := 4, pos := "law.go:96", after := #[{ on := 7, ground := Ground.data }, { on := 13, ground := Ground.data }], guard := none }) (v := ?_) rfl (by kernel_rfl) (by kernel_rfl) (by kernel_rfl) (fun _ _ _ h => h) (Or.inl ⟨by rfl, ?_⟩) (by assumption) ?_
          rotate_left
          · intro w hSw; (try dsimp only at hSw); go_simp; (try with_reducible rfl)
          try simp only [Act.put, List.setIfInBounds_toArray, List.set_cons_zero, List.set_cons_succ]
          refine wpAnyH_take (i := 15) (oi := { dst := some 140, op := Op.move (Operand.tmp 139), type := 4, pos := "law.go:96", after := #[{ on := 14, ground := Ground.data }, { on := 7, ground := Ground.chain }], guard := none }) (v := ?_) rfl (by kernel_rfl) (by kernel_rfl) (by kernel_rfl) (fun _ _ _ h => h) (Or.inl ⟨by rfl, ?_⟩) (by assumption) ?_
          rotate_left
          · intro w hSw; (try dsimp only at hSw); go_simp; (try with_reducible rfl)
          try simp only [Act.put, List.setIfInBounds_toArray, List.set_cons_zero, List.set_cons_succ]
          refine wpAnyH_take (i := 16) (oi := { dst := some 141, op := Op.move (Operand.tmp 17), type := 3, pos := "law.go:96", after := #[{ on := 15, ground := Ground.guard }], guard := some (15, true) }) (v := ?_) rfl (by kernel_rfl) (by kernel_rfl) (by kernel_rfl) (fun _ _ _ h => h) (Or.inl ⟨by rfl, ?_⟩) (by assumption) ?_
          rotate_left
          · intro w hSw; (try dsimp only at hSw); go_simp; (try with_reducible rfl)
          try simp only [Act.put, List.setIfInBounds_toArray, List.set_cons_zero, List.set_cons_succ]
          refine wpAnyH_take (i := 17) (oi := { dst := some 142, op := Op.load 25 (Operand.tmp 3), type := 25, pos := "law.go:96", after := #[{ on := 15, ground := Ground.guard }], guard := some (15, true) }) (v := ?_) rfl (by kernel_rfl) (by kernel_rfl) (by kernel_rfl) (fun _ _ _ h => h) (Or.inl ⟨by rfl, ?_⟩) (by assumption) ?_
          rotate_left
          · intro w hSw; (try dsimp only at hSw); go_simp; (try with_reducible rfl)
          try simp only [Act.put, List.setIfInBounds_toArray, List.set_cons_zero, List.set_cons_succ]
          refine wpAnyH_take (i := 18) (oi := { dst := some 143, op := Op.load 25 (Operand.tmp 2), type := 25, pos := "law.go:96", after := #[{ on := 15, ground := Ground.guard }], guard := some (15, true) }) (v := ?_) rfl (by kernel_rfl) (by kernel_rfl) (by kernel_rfl) (fun _ _ _ h => h) (Or.inl ⟨by rfl, ?_⟩) (by assumption) ?_
          rotate_left
          · intro w hSw; (try dsimp only at hSw); go_simp; (try with_reducible rfl)
          try simp only [Act.put, List.setIfInBounds_toArray, List.set_cons_zero, List.set_cons_succ]
          refine wpAnyH_ready (rs := [19]) (by kernel_rfl) (by simp) ?_
          refine AllReadyH.cons (o := { dst := some 144, op := Op.call { callee := Callee.value (Operand.func 27), args := #[Operand.tmp 142, Operand.tmp 143], argTypes := #[25, 25] }, type := 3, pos := "law.go:96", after := #[{ on := 17, ground := Ground.data }, { on := 18, ground := Ground.data }, { on := 15, ground := Ground.chain }, { on := 15, ground := Ground.guard }], guard := some (15, true) }) rfl (fun K hK => ?_) AllReadyH.nil
          go_simp
          refine (compare_any B A hB hA _).mono ?_
          rintro e y2 ⟨rfl, hy2⟩
          rw [HC2.out]
          go_wp2_with fail
          refine hK.out _ _ ?_ (fun hHeld => ?_)
          · exact s3_step RA8 RB8 RU8 hy2 hHeld
          clear hK K
          try simp only [Act.put, List.setIfInBounds_toArray, List.set_cons_zero, List.set_cons_succ]
          refine wpAnyH_take (i := 20) (oi := { dst := some 145, op := Op.unOp UnOp.neg 3 (Operand.tmp 144), type := 3, pos := "law.go:96", after := #[{ on := 19, ground := Ground.data }, { on := 15, ground := Ground.guard }], guard := some (15, true) }) (v := ?_) rfl (by kernel_rfl) (by kernel_rfl) (by kernel_rfl) (fun _ _ _ h => h) (Or.inl ⟨by rfl, ?_⟩) (by assumption) ?_
          rotate_left
          · intro w hSw; (try dsimp only at hSw); go_simp; (try with_reducible rfl)
          try simp only [Act.put, List.setIfInBounds_toArray, List.set_cons_zero, List.set_cons_succ]
          refine wpAnyH_take (i := 21) (oi := { dst := some 146, op := Op.binOp BinOp.eql 3 (Operand.tmp 141) (Operand.tmp 145) 3, type := 4, pos := "law.go:96", after := #[{ on := 16, ground := Ground.data }, { on := 20, ground := Ground.data }, { on := 15, ground := Ground.guard }], guard := some (15, true) }) (v := ?_) rfl (by kernel_rfl) (by kernel_rfl) (by kernel_rfl) (fun _ _ _ h => h) (Or.inl ⟨by rfl, ?_⟩) (by assumption) ?_
          rotate_left
          · intro w hSw; (try dsimp only at hSw); go_simp; (try with_reducible rfl)
          try simp only [Act.put, List.setIfInBounds_toArray, List.set_cons_zero, List.set_cons_succ]
          refine wpAnyH_take (i := 22) (oi := { dst := some 147, op := Op.pick (Operand.tmp 140) (Operand.tmp 146) (Operand.const (Value.bool false)), type := 4, pos := "law.go:96", after := #[{ on := 15, ground := Ground.data }, { on := 21, ground := Ground.data }], guard := none }) (v := ?_) rfl (by kernel_rfl) (by kernel_rfl) (by kernel_rfl) (fun _ _ _ h => h) (Or.inl ⟨by rfl, ?_⟩) (by assumption) ?_
          rotate_left
          · intro w hSw; (try dsimp only at hSw); go_simp; (try with_reducible rfl)
          try simp only [Act.put, List.setIfInBounds_toArray, List.set_cons_zero, List.set_cons_succ]
          refine wpAnyH_take (i := 23) (oi := { dst := some 148, op := Op.move (Operand.tmp 147), type := 4, pos := "law.go:96", after := #[{ on := 22, ground := Ground.data }, { on := 19, ground := Ground.chain }], guard := none }) (v := ?_) rfl (by kernel_rfl) (by kernel_rfl) (by kernel_rfl) (fun _ _ _ h => h) (Or.inl ⟨by rfl, ?_⟩) (by assumption) ?_
          rotate_left
          · intro w hSw; (try dsimp only at hSw); go_simp; (try with_reducible rfl)
          try simp only [Act.put, List.setIfInBounds_toArray, List.set_cons_zero, List.set_cons_succ]
          refine wpAnyH_take (i := 24) (oi := { dst := some 149, op := Op.move (Operand.tmp 17), type := 3, pos := "law.go:96", after := #[{ on := 23, ground := Ground.guard }], guard := some (23, true) }) (v := ?_) rfl (by kernel_rfl) (by kernel_rfl) (by kernel_rfl) (fun _ _ _ h => h) (Or.inl ⟨by rfl, ?_⟩) (by assumption) ?_
          rotate_left
          · intro w hSw; (try dsimp only at hSw); go_simp; (try with_reducible rfl)
          try simp only [Act.put, List.setIfInBounds_toArray, List.set_cons_zero, List.set_cons_succ]
          refine wpAnyH_take (i := 25) (oi := { dst := some 150, op := Op.binOp BinOp.geq 3 (Operand.tmp 149) (Operand.const (Value.int IntKind.i64 (-1))) 3, type := 4, pos := "law.go:96", after := #[{ on := 24, ground := Ground.data }, { on := 23, ground := Ground.guard }], guard := some (23, true) }) (v := ?_) rfl (by kernel_rfl) (by kernel_rfl) (by kernel_rfl) (fun _ _ _ h => h) (Or.inl ⟨by rfl, ?_⟩) (by assumption) ?_
          rotate_left
          · intro w hSw; (try dsimp only at hSw); go_simp; (try with_reducible rfl)
          try simp only [Act.put, List.setIfInBounds_toArray, List.set_cons_zero, List.set_cons_succ]
          refine wpAnyH_take (i := 26) (oi := { dst := some 151, op := Op.pick (Operand.tmp 148) (Operand.tmp 150) (Operand.const (Value.bool false)), type := 4, pos := "law.go:96", after := #[{ on := 23, ground := Ground.data }, { on := 25, ground := Ground.data }], guard := none }) (v := ?_) rfl (by kernel_rfl) (by kernel_rfl) (by kernel_rfl) (fun _ _ _ h => h) (Or.inl ⟨by rfl, ?_⟩) (by assumption) ?_
          rotate_left
          · intro w hSw; (try dsimp only at hSw); go_simp; (try with_reducible rfl)
          try simp only [Act.put, List.setIfInBounds_toArray, List.set_cons_zero, List.set_cons_succ]
          refine wpAnyH_take (i := 27) (oi := { dst := some 152, op := Op.move (Operand.tmp 151), type := 4, pos := "law.go:96", after := #[{ on := 26, ground := Ground.data }, { on := 23, ground := Ground.chain }], guard := none }) (v := ?_) rfl (by kernel_rfl) (by kernel_rfl) (by kernel_rfl) (fun _ _ _ h => h) (Or.inl ⟨by rfl, ?_⟩) (by assumption) ?_
          rotate_left
          · intro w hSw; (try dsimp only at hSw); go_simp; (try with_reducible rfl)
          try simp only [Act.put, List.setIfInBounds_toArray, List.set_cons_zero, List.set_cons_succ]
          refine wpAnyH_take (i := 28) (oi := { dst := some 153, op := Op.move (Operand.tmp 17), type := 3, pos := "law.go:96", after := #[{ on := 27, ground := Ground.guard }], guard := some (27, true) }) (v := ?_) rfl (by kernel_rfl) (by kernel_rfl) (by kernel_rfl) (fun _ _ _ h => h) (Or.inl ⟨by rfl, ?_⟩) (by assumption) ?_
          rotate_left
          · intro w hSw; (try dsimp only at hSw); go_simp; (try with_reducible rfl)
          try simp only [Act.put, List.setIfInBounds_toArray, List.set_cons_zero, List.set_cons_succ]
          refine wpAnyH_take (i := 29) (oi := { dst := some 154, op := Op.binOp BinOp.leq 3 (Operand.tmp 153) (Operand.const (Value.int IntKind.i64 1)) 3, type := 4, pos := "law.go:96", after := #[{ on := 28, ground := Ground.data }, { on := 27, ground := Ground.guard }], guard := some (27, true) }) (v := ?_) rfl (by kernel_rfl) (by kernel_rfl) (by kernel_rfl) (fun _ _ _ h => h) (Or.inl ⟨by rfl, ?_⟩) (by assumption) ?_
          rotate_left
          · intro w hSw; (try dsimp only at hSw); go_simp; (try with_reducible rfl)
          try simp only [Act.put, List.setIfInBounds_toArray, List.set_cons_zero, List.set_cons_succ]
          refine wpAnyH_take (i := 30) (oi := { dst := some 155, op := Op.pick (Operand.tmp 152) (Operand.tmp 154) (Operand.const (Value.bool false)), type := 4, pos := "law.go:96", after := #[{ on := 27, ground := Ground.data }, { on := 29, ground := Ground.data }], guard := none }) (v := ?_) rfl (by kernel_rfl) (by kernel_rfl) (by kernel_rfl) (fun _ _ _ h => h) (Or.inl ⟨by rfl, ?_⟩) (by assumption) ?_
          rotate_left
          · intro w hSw; (try dsimp only at hSw); go_simp; (try with_reducible rfl)
          try simp only [Act.put, List.setIfInBounds_toArray, List.set_cons_zero, List.set_cons_succ]
          refine wpAnyH_take (i := 31) (oi := { dst := some 156, op := Op.move (Operand.tmp 155), type := 4, pos := "law.go:96", after := #[{ on := 30, ground := Ground.data }, { on := 27, ground := Ground.chain }], guard := none }) (v := ?_) rfl (by kernel_rfl) (by kernel_rfl) (by kernel_rfl) (fun _ _ _ h => h) (Or.inl ⟨by rfl, ?_⟩) (by assumption) ?_
          rotate_left
          · intro w hSw; (try dsimp only at hSw); go_simp; (try with_reducible rfl)
          try simp only [Act.put, List.setIfInBounds_toArray, List.set_cons_zero, List.set_cons_succ]
          refine wpAnyH_take (i := 32) (oi := { dst := some 157, op := Op.load 25 (Operand.tmp 2), type := 25, pos := "law.go:96", after := #[{ on := 31, ground := Ground.guard }], guard := some (31, true) }) (v := ?_) rfl (by kernel_rfl) (by kernel_rfl) (by kernel_rfl) (fun _ _ _ h => h) (Or.inl ⟨by rfl, ?_⟩) (by assumption) ?_
          rotate_left
          · intro w hSw; (try dsimp only at hSw); go_simp; (try with_reducible rfl)
          try simp only [Act.put, List.setIfInBounds_toArray, List.set_cons_zero, List.set_cons_succ]
          refine wpAnyH_take (i := 33) (oi := { dst := some 158, op := Op.load 25 (Operand.tmp 3), type := 25, pos := "law.go:96", after := #[{ on := 31, ground := Ground.guard }], guard := some (31, true) }) (v := ?_) rfl (by kernel_rfl) (by kernel_rfl) (by kernel_rfl) (fun _ _ _ h => h) (Or.inl ⟨by rfl, ?_⟩) (by assumption) ?_
          rotate_left
          · intro w hSw; (try dsimp only at hSw); go_simp; (try with_reducible rfl)
          try simp only [Act.put, List.setIfInBounds_toArray, List.set_cons_zero, List.set_cons_succ]
          refine wpAnyH_ready (rs := [34]) (by kernel_rfl) (by simp) ?_
          refine AllReadyH.cons (o := { dst := some 159, op := Op.call { callee := Callee.value (Operand.func 28), args := #[Operand.tmp 157, Operand.tmp 158], argTypes := #[25, 25] }, type := 4, pos := "law.go:96", after := #[{ on := 32, ground := Ground.data }, { on := 33, ground := Ground.data }, { on := 31, ground := Ground.chain }, { on := 31, ground := Ground.guard }], guard := some (31, true) }) rfl (fun K hK => ?_) AllReadyH.nil
          go_simp
          refine (subset_any A B hA hB _).mono ?_
          rintro e y3 ⟨rfl, hy3⟩
          rw [HSb.out]
          go_wp2_with fail
          refine hK.out _ _ ?_ (fun hHeld => ?_)
          · exact s3_step RA8 RB8 RU8 hy3 hHeld
          clear hK K
          try simp only [Act.put, List.setIfInBounds_toArray, List.set_cons_zero, List.set_cons_succ]
          refine wpAnyH_take (i := 35) (oi := { dst := some 160, op := Op.unOp UnOp.not 4 (Operand.tmp 159), type := 4, pos := "law.go:96", after := #[{ on := 34, ground := Ground.data }, { on := 31, ground := Ground.guard }], guard := some (31, true) }) (v := ?_) rfl (by kernel_rfl) (by kernel_rfl) (by kernel_rfl) (fun _ _ _ h => h) (Or.inl ⟨by rfl, ?_⟩) (by assumption) ?_
          rotate_left
          · intro w hSw; (try dsimp only at hSw); go_simp; (try with_reducible rfl)
          try simp only [Act.put, List.setIfInBounds_toArray, List.set_cons_zero, List.set_cons_succ]
          refine wpAnyH_take (i := 36) (oi := { dst := some 161, op := Op.move (Operand.tmp 160), type := 4, pos := "law.go:96", after := #[{ on := 35, ground := Ground.data }, { on := 34, ground := Ground.chain }, { on := 31, ground := Ground.guard }], guard := some (31, true) }) (v := ?_) rfl (by kernel_rfl) (by kernel_rfl) (by kernel_rfl) (fun _ _ _ h => h) (Or.inl ⟨by rfl, ?_⟩) (by assumption) ?_
          rotate_left
          · intro w hSw; (try dsimp only at hSw); go_simp; (try with_reducible rfl)
          try simp only [Act.put, List.setIfInBounds_toArray, List.set_cons_zero, List.set_cons_succ]
          refine wpAnyH_take (i := 37) (oi := { dst := some 162, op := Op.move (Operand.tmp 17), type := 3, pos := "law.go:96", after := #[{ on := 36, ground := Ground.guard }], guard := some (36, false) }) (v := undef) rfl (by kernel_rfl) (by kernel_rfl) (by kernel_rfl) (fun _ _ _ h => h) (Or.inr ⟨by rfl, rfl⟩) (by assumption) ?_
          try simp only [Act.put, List.setIfInBounds_toArray, List.set_cons_zero, List.set_cons_succ]
          refine wpAnyH_take (i := 38) (oi := { dst := some 163, op := Op.binOp BinOp.leq 3 (Operand.tmp 162) (Operand.const (Value.int IntKind.i64 0)) 3, type := 4, pos := "law.go:96", after := #[{ on := 37, ground := Ground.data }, { on := 36, ground := Ground.guard }], guard := some (36, false) }) (v := undef) rfl (by kernel_rfl) (by kernel_rfl) (by kernel_rfl) (fun _ _ _ h => h) (Or.inr ⟨by rfl, rfl⟩) (by assumption) ?_
          try simp only [Act.put, List.setIfInBounds_toArray, List.set_cons_zero, List.set_cons_succ]
          refine wpAnyH_take (i := 39) (oi := { dst := some 164, op := Op.pick (Operand.tmp 161) (Operand.const (Value.bool true)) (Operand.tmp 163), type := 4, pos := "law.go:96", after := #[{ on := 36, ground := Ground.data }, { on := 38, ground := Ground.data }, { on := 31, ground := Ground.guard }], guard := some (31, true) }) (v := ?_) rfl (by kernel_rfl) (by kernel_rfl) (by kernel_rfl) (fun _ _ _ h => h) (Or.inl ⟨by rfl, ?_⟩) (by assumption) ?_
          rotate_left
          · intro w hSw; (try dsimp only at hSw); go_simp; (try with_reducible rfl)
          try simp only [Act.put, List.setIfInBounds_toArray, List.set_cons_zero, List.set_cons_succ]
          refine wpAnyH_take (i := 40) (oi := { dst := some 165, op := Op.pick (Operand.tmp 156) (Operand.tmp 164) (Operand.const (Value.bool false)), type := 4, pos := "law.go:96", after := #[{ on := 31, ground := Ground.data }, { on := 39, ground := Ground.data }], guard := none }) (v := ?_) rfl (by kernel_rfl) (by kernel_rfl) (by kernel_rfl) (fun _ _ _ h => h) (Or.inl ⟨by rfl, ?_⟩) (by assumption) ?_
          rotate_left
          · intro w hSw; (try dsimp only at hSw); go_simp; (try with_reducible rfl)
          try simp only [Act.put, List.setIfInBounds_toArray, List.set_cons_zero, List.set_cons_succ]
          refine wpAnyH_take (i := 41) (oi := { dst := some 166, op := Op.move (Operand.tmp 165), type := 4, pos := "law.go:96", after := #[{ on := 40, ground := Ground.data }, { on := 36, ground := Ground.chain }], guard := none }) (v := ?_) rfl (by kernel_rfl) (by kernel_rfl) (by kernel_rfl) (fun _ _ _ h => h) (Or.inl ⟨by rfl, ?_⟩) (by assumption) ?_
          rotate_left
          · intro w hSw; (try dsimp only at hSw); go_simp; (try with_reducible rfl)
          try simp only [Act.put, List.setIfInBounds_toArray, List.set_cons_zero, List.set_cons_succ]
          refine wpAnyH_ready (rs := [42]) (by kernel_rfl) (by simp) ?_
          refine AllReadyH.cons (o := { dst := some 167, op := Op.call { callee := Callee.value (Operand.func 21), args := #[], argTypes := #[] }, type := 4, pos := "law.go:96", after := #[{ on := 41, ground := Ground.chain }, { on := 41, ground := Ground.guard }], guard := some (41, true) }) rfl (fun K hK => ?_) AllReadyH.nil
          go_simp
          refine (live_any _).mono ?_
          rintro e y4 ⟨rfl, hy4⟩
          go_wp2_with fail
          refine hK.out _ _ ?_ (fun hHeld => ?_)
          · exact s3_step RA8 RB8 RU8 hy4 hHeld
          clear hK K
          try simp only [Act.put, List.setIfInBounds_toArray, List.set_cons_zero, List.set_cons_succ]
          refine wpAnyH_take (i := 43) (oi := { dst := some 168, op := Op.pick (Operand.tmp 166) (Operand.tmp 167) (Operand.const (Value.bool false)), type := 4, pos := "law.go:96", after := #[{ on := 41, ground := Ground.data }, { on := 42, ground := Ground.data }], guard := none }) (v := ?_) rfl (by kernel_rfl) (by kernel_rfl) (by kernel_rfl) (fun _ _ _ h => h) (Or.inl ⟨by rfl, ?_⟩) (by assumption) ?_
          rotate_left
          · intro w hSw; (try dsimp only at hSw); go_simp; (try with_reducible rfl)
          try simp only [Act.put, List.setIfInBounds_toArray, List.set_cons_zero, List.set_cons_succ]
          refine wpAnyH_take (i := 44) (oi := { dst := some 4, op := Op.assign (Operand.tmp 168), type := 4, pos := "law.go:96", after := #[{ on := 43, ground := Ground.data }, { on := 42, ground := Ground.chain }, { on := 0, ground := Ground.phase }, { on := 1, ground := Ground.phase }, { on := 2, ground := Ground.phase }, { on := 3, ground := Ground.phase }, { on := 4, ground := Ground.phase }, { on := 5, ground := Ground.phase }, { on := 6, ground := Ground.phase }, { on := 7, ground := Ground.phase }, { on := 8, ground := Ground.phase }, { on := 9, ground := Ground.phase }, { on := 10, ground := Ground.phase }, { on := 11, ground := Ground.phase }, { on := 12, ground := Ground.phase }, { on := 13, ground := Ground.phase }, { on := 14, ground := Ground.phase }, { on := 15, ground := Ground.phase }, { on := 16, ground := Ground.phase }, { on := 17, ground := Ground.phase }, { on := 18, ground := Ground.phase }, { on := 19, ground := Ground.phase }, { on := 20, ground := Ground.phase }, { on := 21, ground := Ground.phase }, { on := 22, ground := Ground.phase }, { on := 23, ground := Ground.phase }, { on := 24, ground := Ground.phase }, { on := 25, ground := Ground.phase }, { on := 26, ground := Ground.phase }, { on := 27, ground := Ground.phase }, { on := 28, ground := Ground.phase }, { on := 29, ground := Ground.phase }, { on := 30, ground := Ground.phase }, { on := 31, ground := Ground.phase }, { on := 32, ground := Ground.phase }, { on := 33, ground := Ground.phase }, { on := 34, ground := Ground.phase }, { on := 35, ground := Ground.phase }, { on := 36, ground := Ground.phase }, { on := 37, ground := Ground.phase }, { on := 38, ground := Ground.phase }, { on := 39, ground := Ground.phase }, { on := 40, ground := Ground.phase }, { on := 41, ground := Ground.phase }, { on := 42, ground := Ground.phase }, { on := 43, ground := Ground.phase }], guard := none }) (v := ?_) rfl (by kernel_rfl) (by kernel_rfl) (by kernel_rfl) (fun _ _ _ h => h) (Or.inl ⟨by rfl, ?_⟩) (by assumption) ?_
          rotate_left
          · intro w hSw; (try dsimp only at hSw); go_simp; (try with_reducible rfl)
          try simp only [Act.put, List.setIfInBounds_toArray, List.set_cons_zero, List.set_cons_succ]
          refine wpAnyH_done (by kernel_rfl) ?_ _
          go_wp2_with fail
          go_ret
          exact ⟨rfl, go_on (go_on (go_on BW.out HBC.out) HB8.out) (s3_below hHeld)⟩
/-! ### The row's step -/
theorem own : ownKnob Tryd.prog.godebug = none := by kernel_rfl
def laid1 : List (String × DataW Unit) := [("math/bits.deBruijn64tab", Rows.laid_math_bits_deBruijn64tab)]
def tabZ : List Int := Lib.deBruijn64tab.map fun (z : Nat) => (z : Int)
theorem gTab : Tryd.prog.globalNamed "math/bits.deBruijn64tab" = some 0 := by kernel_rfl
theorem tTab : (Tryd.prog.globals[0]?).map (·.type) = some 60 := by kernel_rfl
theorem of_laid {W : World} (h : laidMetH Tryd.prog laid1 W) : TzTab W := by
  rw [MakeChecks.laidMetH_plain _ _ _ (by kernel_rfl)] at h
  have ht : Lib.TabIs Tryd.prog W "math/bits.deBruijn64tab" .u8 tabZ :=
    Lib.tabIs_of_head (rest := []) gTab tTab Tryd.underlying60 Tryd.underlying5 (by kernel_rfl) (by kernel_rfl) h
  intro j hj
  have := ht.cell gTab j hj
  rw [this]
  have e : tabZ.getD j 0 = ((Lib.deBruijn64tab.getD j 0 : Nat) : Int) := by
    unfold tabZ
    rw [List.getD_eq_getElem?_getD, List.getElem?_map, List.getD_eq_getElem?_getD]
    cases Lib.deBruijn64tab[j]? <;> rfl
  rw [e]
/-- The door's own heap meets the condition. -/
theorem door_met (os : Os) (args : Array Value) : laidMetH Tryd.prog laid1 ((World.doorLaid Tryd.prog 400 os).forCall (fun _ _ => 0) ⟨#[], args, []⟩).memory :=
  laidMetH_of_parts3 (fuel := 8) (laidMet_of_run' 8 (by kernel_rfl) (by kernel_rfl)) (by kernel_rfl) (by kernel_rfl)

set_option maxRecDepth 100000 in
theorem lifted (os : Os) (started : os.Started) (H : Type) (enc : TypeId × Value → H) :
    ReturnsInHanded {} Tryd.checked os 4 .any (fun w args => (Rows.bitsLawsSpec.pre enc Tryd.prog Tryd.f4 [] false w args ∧ laidMetH Tryd.prog laid1 w) ∧ sizedMet enc Tryd.prog Tryd.f4 (OpenSpec.ofChange Rows.bitsLawsSpec) false w args)
      (Rows.bitsLawsSpec.post enc Tryd.prog Tryd.f4 false true false false) := by
  refine returnsInHanded_of_change_and (C := Tryd.checked) (X := fun w _ => laidMetH Tryd.prog laid1 w) (fun _ _ _ hh h => h.of_heap hh) own started (by kernel_rfl) Tryd.func4
    (ChangeSpec.witness_shaped (enc := enc) (C := Tryd.checked) (os := os) (X := fun w _ => laidMetH Tryd.prog laid1 w) false (World.doorLaid Tryd.prog 400 os) #[.agg #[.int .u64 0, .int .u64 0, .int .u64 0, .int .u64 0, .int .u64 0, .int .u64 0, .int .u64 0, .int .u64 0], .agg #[.int .u64 0, .int .u64 0, .int .u64 0, .int .u64 0, .int .u64 0, .int .u64 0, .int .u64 0, .int .u64 0]] 8 rfl (World.shaped_of_RefB (by kernel_rfl) (by kernel_rfl)) (by kernel_rfl) (by kernel_rfl) (by kernel_rfl) (door_met os _)) ?_
  intro W base args ds gs before hval0 hW _ hsz0 hL _
  have hval : ∀ (j : Nat) t v, Tryd.f4.params[j]? = some t → args[j]? = some v → Value.okWide Tryd.prog W .any base t v := hval0
  have hW' := hW
  obtain ⟨p, q, hA0, hV, rfl, hfz, hnd⟩ := hW
  have hA : DataW.TrodAll enc Tryd.prog W 0 (fun _ => true) true Tryd.f4.params.toList args.toList ds p := hA0
  have hsz : (DataW.weightsEach Tryd.prog (Tryd.f4.params.toList ++ Rows.bitsLawsSpec.plain.varTypes Tryd.prog) (ds ++ gs)).all (· ≤ reachBytes) = true := hsz0
  rw [Tryd.params4] at hA hval hsz
  obtain ⟨v0, vs0, d0, ds0, p0, q0, hargs, rfl, rfl, h0, r0⟩ := trodAll_cons hA
  obtain ⟨v1, vs1, d1, ds1, p1, q1, rfl, rfl, rfl, h1, r1⟩ := trodAll_cons r0
  obtain ⟨rfl, rfl, rfl⟩ := trodAll_nil r1
  obtain rfl : args = #[v0, v1] := by cases args; simp_all
  obtain ⟨rfl, rfl⟩ := trodVars_none hV
  obtain ⟨a0, rfl, rfl, rfl, w0⟩ := open_set (hval 0 25 v0 rfl rfl) h0
  obtain ⟨a1, rfl, rfl, rfl, w1⟩ := open_set (hval 1 25 v1 rfl rfl) h1
  have hTz := of_laid hL
  clear hA0 hval0
  refine (walk a0 a1 w0 w1 W  hTz).mono fun e W' ⟨he, bel⟩ => ?_
  subst he
  exact ⟨_, rfl, _, _, _, [], _, [], hW', trodAll_mk1 (shut_bool Tryd.underlying4 _), (trodAll_cons_mk (shut_set a0) (trodAll_cons_mk (shut_set a1) trodAll_mk0)), rfl, bel.frame _, fun h => by cases h⟩

theorem over : Rows.BitsLawsSaid :=
  OpenClaim.holds_of_wide 4 Tryd.f4 rfl rfl rfl rfl rfl rfl rfl ⟨rfl, rfl, rfl, rfl, rfl⟩ rfl rfl rfl rfl rfl (by kernel_rfl) Tryd.func4 (by kernel_rfl)
    (of_decide_eq_true (by kernel_rfl)) (by unfold Func.isWrapper; first | (rw [if_pos (by decide +kernel)]; kernel_rfl) | (rw [if_neg (by decide +kernel)]; exact ⟨rfl, rfl⟩))
    (fun os started H enc _ => lifted os started H enc)

theorem card : Rows.BitsLawsCardSaid :=
  Claim7.holds_tied_plain_at .later [] [.data] true (true, "07b0b13ee0e77904397bf8dfe0a9dde0cd5ec42efe4742bf8e06f59086ada953") false
    over (fun _ h => by cases h) (by kernel_rfl) (fun _ h => by cases h) bitsLaws_row_tie rfl ⟨rfl, rfl⟩ (by kernel_rfl) rfl
    (fun f fn hf hfn => by
      obtain rfl : f = 4 := Option.some.inj ((show Tryd.prog.funcNamed "eggbox/eggboxlaw02.BitsLaws" = some 4 by kernel_rfl).symm.trans hf) |>.symm
      obtain rfl : fn = Tryd.f4 := (Option.some.inj (Tryd.func4.symm.trans hfn)).symm
      exact ⟨by kernel_rfl, fun j t ht => by
        rw [Tryd.params4] at ht
        have hm : t ∈ [25, 25] := by simpa using Array.mem_of_getElem? ht
        have hall : ([25, 25].all fun u => !Tryd.prog.wantsStandIn u) = true := by kernel_rfl
        exact (show Tryd.prog.wantsStandIn t = false by simpa using List.all_eq_true.1 hall t hm)⟩)
    (by kernel_rfl)

end Go.Proofs.YthjkfpgocidpeaaDoor.bitsLaws
namespace Go.Proofs.YthjkfpgocidpeaaDoor
/-- The given statement. -/
theorem bitsLaws_holds : Rows.BitsLawsCardSaid := bitsLaws.card
end Go.Proofs.YthjkfpgocidpeaaDoor
