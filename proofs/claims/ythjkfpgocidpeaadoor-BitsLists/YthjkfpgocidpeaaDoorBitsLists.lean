/- Proved: the card of eggboxlaw02.BitsLists: it answers true at every list, set and i (P2.1, P2.2), with math/bits.deBruijn64tab as the program's text lays it: bits.Of, List, Has, With and Without answer what the document's answer; the list that is handed in stays, the lists that are told are the caller's own; its arguments read behind the call as before. The card ties the variable to the pruned copy of the project that the seat holds. -/
import Derived.Test.YthjkfpgocidpeaaDoorDj
import Derived.Test.YthjkfpgocidpeaaDoorDu
import Derived.Test.YthjkfpgocidpeaaDoorDv
import Derived.Test.YthjkfpgocidpeaaDoorAr
import Derived.Test.YthjkfpgocidpeaaDoorBk
import Derived.Test.YthjkfpgocidpeaaDoorLk
import Derived.Deep.RegionHeld3
import Derived.Deep.DeepCutAuto
import Derived.ProofKit
import Derived.OpenShut
import Derived.ShutString
import Derived.ChangeOld
import Derived.JoinedCond
import Derived.LaidMore
import Derived.Stop.Joined
import Derived.Lib.LaidTab
import Derived.SevenTiedAt
import Derived.Test.YthjkfpgocidpeaaDoorTie
import Derived.Test.YthjkfpgocidpeaaDoorCards
namespace Go.Proofs.YthjkfpgocidpeaaDoor.bitsLists
open Go.ChangeShapes Go.WideShapes Go.ChangeAt Go.RowKit Go.Lib
set_option linter.unusedVariables false

theorem lent_reads {w : World} {base g cap : Nat} {xs : List Int} (ho : w.ownsRow base 3 1 (.slice (some ⟨g, 0, none⟩) (xs.length + 2) cap) (xs.length + 2) (zC (xs ++ [-77, -78]))) : Reads w (.slice (some ⟨g, 0, none⟩) xs.length cap) xs := by
  obtain ⟨a2, c2, hsl, hrd⟩ := own_reads (l := xs ++ [-77, -78]) (base := base) (by rw [List.length_append]; exact ho)
  rw [List.length_append] at hsl hrd
  simp only [Value.slice.injEq, List.length_cons, List.length_nil] at hsl hrd
  obtain ⟨rfl, _, rfl⟩ := hsl
  refine ⟨_, _, rfl, fun i hi => ?_⟩
  obtain ⟨g', o', e, hg, hc⟩ := hrd i (by omega)
  refine ⟨g', o', e, hg, ?_⟩
  rw [hc]
  simp [List.getD_eq_getElem?_getD, List.getElem?_append_left hi]
theorem reads_stay {w w' : World} {v : Value} {xs : List Int} (h : Reads w v xs) (hb : Below w.heap.size w w') : Reads w' v xs := by
  obtain ⟨a, c, e, hr⟩ := h
  refine ⟨a, c, e, fun i hi => ?_⟩
  obtain ⟨g, o, e, hg, hc⟩ := hr i hi
  exact ⟨g, o, e, Nat.lt_of_lt_of_le hg hb.size, by rw [below_cell hb hg]; exact hc⟩
theorem reads_below {B : Nat} {w w' : World} {v : Value} {xs : List Int} (h : Reads w v xs) (hB : w.heap.size ≤ B) (hb : Below w.heap.size w w') : Reads w' v xs := reads_stay h hb
/-- A set's numbers, as natural numbers. -/
def natLst (N : Nat) : List Nat := (List.range 512).filter fun j => N.testBit j
theorem zC_lst (N : Nat) : zC (lst N 512) = intCells (natLst N) := by simp [zC, lst, intCells, natLst]
theorem natLst_len (N : Nat) : (natLst N).length = (lst N 512).length := by simp [lst, natLst]

/-- Seven blocks hold what they held at W; nothing below W's end is written. -/
abbrev S7 (W : World) (p1 p2 p3 p4 p5 p6 p7 : Nat) (l1 l2 l3 l4 l5 l6 l7 : Array Value) (w' : World) : Prop :=
  (∀ o, w'.cell? ⟨p1, o, none⟩ = l1[o]?) ∧ (∀ o, w'.cell? ⟨p2, o, none⟩ = l2[o]?) ∧ (∀ o, w'.cell? ⟨p3, o, none⟩ = l3[o]?) ∧ (∀ o, w'.cell? ⟨p4, o, none⟩ = l4[o]?) ∧ (∀ o, w'.cell? ⟨p5, o, none⟩ = l5[o]?) ∧ (∀ o, w'.cell? ⟨p6, o, none⟩ = l6[o]?) ∧ (∀ o, w'.cell? ⟨p7, o, none⟩ = l7[o]?) ∧ Below W.heap.size W w'
theorem s7_of {W : World} {p1 p2 p3 p4 p5 p6 p7 : Nat} {l1 l2 l3 l4 l5 l6 l7 : Array Value} (r1 : RowAt W p1 l1) (r2 : RowAt W p2 l2) (r3 : RowAt W p3 l3) (r4 : RowAt W p4 l4) (r5 : RowAt W p5 l5) (r6 : RowAt W p6 l6) (r7 : RowAt W p7 l7) {w' : World} (h : Below W.heap.size W w') : S7 W p1 p2 p3 p4 p5 p6 p7 l1 l2 l3 l4 l5 l6 l7 w' :=
  ⟨(r1.stay h).cell, (r2.stay h).cell, (r3.stay h).cell, (r4.stay h).cell, (r5.stay h).cell, (r6.stay h).cell, (r7.stay h).cell, h⟩
theorem s7_below {W : World} {p1 p2 p3 p4 p5 p6 p7 : Nat} {l1 l2 l3 l4 l5 l6 l7 : Array Value} {w' : World} (h : S7 W p1 p2 p3 p4 p5 p6 p7 l1 l2 l3 l4 l5 l6 l7 w') : Below W.heap.size W w' := h.2.2.2.2.2.2.2
theorem s7_step {W : World} {p1 p2 p3 p4 p5 p6 p7 : Nat} {l1 l2 l3 l4 l5 l6 l7 : Array Value} (r1 : RowAt W p1 l1) (r2 : RowAt W p2 l2) (r3 : RowAt W p3 l3) (r4 : RowAt W p4 l4) (r5 : RowAt W p5 l5) (r6 : RowAt W p6 l6) (r7 : RowAt W p7 l7) {w1 w2 : World} (hb : Below w1.heap.size w1 w2) (h : S7 W p1 p2 p3 p4 p5 p6 p7 l1 l2 l3 l4 l5 l6 l7 w1) : S7 W p1 p2 p3 p4 p5 p6 p7 l1 l2 l3 l4 l5 l6 l7 w2 :=
  s7_of r1 r2 r3 r4 r5 r6 r7 (go_on (s7_below h) hb)


set_option maxHeartbeats 16000000 in
set_option maxRecDepth 100000 in
theorem walk (v : Value) (xs : List Int) (N : Nat) (i : Int) (hN : Fits N) (w : World) (hv : Reads w v xs) (hn0 : ∀ c, v = .slice none 0 c → c = 0) (hm : (xs.length + 2) * 8 ≤ 140737488355328) (hT : TzTab w) :
    Calls Tryd.prog 3 #[v, setV N, .int .i64 i] w fun e w' => e = .returned (.bool true) ∧ Below w.heap.size w w' := by
  have HT : Hid (TzTab w) := hT
  have HV : Hid (Reads w v xs) := hv
  obtain ⟨X, E, HX⟩ : ∃ X E, Hid (ofN xs = X ∧ ofE xs = E) := ⟨_, _, rfl, rfl⟩
  obtain ⟨Y, HY⟩ : ∃ Y, Hid (withN N i = Y) := ⟨_, rfl⟩
  obtain ⟨Z, HZ⟩ : ∃ Z, Hid (withoutN N i = Z) := ⟨_, rfl⟩
  obtain ⟨F, HF⟩ : ∃ F, Hid (oneE i = F) := ⟨_, rfl⟩
  obtain ⟨h, HHs⟩ : ∃ h, Hid (hasN N i = h) := ⟨_, rfl⟩
  have eX := eq_same (word X)
  have eY := eq_same (word Y)
  have eZ := eq_same (word Z)
  have RS0 := RowAt.last w (cellsF (word N)) 25
  have BB0 := (Below.refl w.heap.size w).alloc (Nat.le_refl _) (.cells (cellsF (word N)) 25)
  have HM : Hid ((xs.length + 2) * 8 ≤ 140737488355328) := hm
  have HN0 : Hid (∀ c, v = .slice none 0 c → c = 0) := hn0
  clear hT hv hm hn0
  unfold setV cellsF
  unfold cellsF at eX eY eZ RS0 BB0
  go_enter Tryd.func3, Tryd.ntmps3
  go_wp2_with fail
  refine (lent_any v xs _ (reads_stay HV.out BB0) HN0.out HM.out).mono ?_
  rintro e w1 ⟨g, cap, rfl, ho1, hb1⟩
  have HO : Hid (w1.ownsRow (w.heap.size + 1) 3 1 (.slice (some ⟨g, 0, none⟩) (xs.length + 2) cap) (xs.length + 2) (zC (xs ++ [-77, -78]))) := (by simpa using ho1 : w1.ownsRow (w.heap.size + 1) 3 1 (.slice (some ⟨g, 0, none⟩) (xs.length + 2) cap) (xs.length + 2) (zC (xs ++ [-77, -78])))
  have RS := RS0.stay hb1
  have BB := go_on BB0 hb1
  clear ho1 hb1 RS0 BB0
  go_wp2_with fail
  refine (of_any _ xs _ (lent_reads HO.out) (by have := HM.out; omega)).mono ?_
  rintro e w2 ⟨rfl, hb2⟩
  rw [HX.out.1, HX.out.2]
  unfold setV cellsF

  have RS := (RS.stay hb2).alloc (.cells #[.int .u64 (word X 0 : Nat), .int .u64 (word X 1 : Nat), .int .u64 (word X 2 : Nat), .int .u64 (word X 3 : Nat), .int .u64 (word X 4 : Nat), .int .u64 (word X 5 : Nat), .int .u64 (word X 6 : Nat), .int .u64 (word X 7 : Nat)] 25)
  have BB := (go_on BB hb2).alloc (by have := (go_on BB hb2).size; omega) (.cells #[.int .u64 (word X 0 : Nat), .int .u64 (word X 1 : Nat), .int .u64 (word X 2 : Nat), .int .u64 (word X 3 : Nat), .int .u64 (word X 4 : Nat), .int .u64 (word X 5 : Nat), .int .u64 (word X 6 : Nat), .int .u64 (word X 7 : Nat)] 25)
  have HO : Hid ((w2.alloc (.cells #[.int .u64 (word X 0 : Nat), .int .u64 (word X 1 : Nat), .int .u64 (word X 2 : Nat), .int .u64 (word X 3 : Nat), .int .u64 (word X 4 : Nat), .int .u64 (word X 5 : Nat), .int .u64 (word X 6 : Nat), .int .u64 (word X 7 : Nat)] 25)).ownsRow (w.heap.size + 1) 3 1 (.slice (some ⟨g, 0, none⟩) (xs.length + 2) cap) (xs.length + 2) (zC (xs ++ [-77, -78]))) := (own_below HO.out hb2).alloc _
  have R8 := RowAt.last w2 #[.int .u64 (word X 0 : Nat), .int .u64 (word X 1 : Nat), .int .u64 (word X 2 : Nat), .int .u64 (word X 3 : Nat), .int .u64 (word X 4 : Nat), .int .u64 (word X 5 : Nat), .int .u64 (word X 6 : Nat), .int .u64 (word X 7 : Nat)] 25
  clear hb2
  have cs := RS.cell
  go_wp2_with fail
  clear cs
  refine (rof_any v xs _ (reads_stay HV.out BB) (by have := HM.out; omega)).mono ?_
  rintro e w3 ⟨rfl, hb3⟩
  rw [HX.out.1, HX.out.2]
  unfold setV cellsF
  have RS := (RS.stay hb3).alloc (.cells #[.int .u64 (word X 0 : Nat), .int .u64 (word X 1 : Nat), .int .u64 (word X 2 : Nat), .int .u64 (word X 3 : Nat), .int .u64 (word X 4 : Nat), .int .u64 (word X 5 : Nat), .int .u64 (word X 6 : Nat), .int .u64 (word X 7 : Nat)] 25)
  have BB := (go_on BB hb3).alloc (by have := (go_on BB hb3).size; omega) (.cells #[.int .u64 (word X 0 : Nat), .int .u64 (word X 1 : Nat), .int .u64 (word X 2 : Nat), .int .u64 (word X 3 : Nat), .int .u64 (word X 4 : Nat), .int .u64 (word X 5 : Nat), .int .u64 (word X 6 : Nat), .int .u64 (word X 7 : Nat)] 25)
  have HO : Hid ((w3.alloc (.cells #[.int .u64 (word X 0 : Nat), .int .u64 (word X 1 : Nat), .int .u64 (word X 2 : Nat), .int .u64 (word X 3 : Nat), .int .u64 (word X 4 : Nat), .int .u64 (word X 5 : Nat), .int .u64 (word X 6 : Nat), .int .u64 (word X 7 : Nat)] 25)).ownsRow (w.heap.size + 1) 3 1 (.slice (some ⟨g, 0, none⟩) (xs.length + 2) cap) (xs.length + 2) (zC (xs ++ [-77, -78]))) := (own_below HO.out hb3).alloc _
  have R8 := (R8.stay hb3).alloc (.cells #[.int .u64 (word X 0 : Nat), .int .u64 (word X 1 : Nat), .int .u64 (word X 2 : Nat), .int .u64 (word X 3 : Nat), .int .u64 (word X 4 : Nat), .int .u64 (word X 5 : Nat), .int .u64 (word X 6 : Nat), .int .u64 (word X 7 : Nat)] 25)
  have R10 := RowAt.last w3 #[.int .u64 (word X 0 : Nat), .int .u64 (word X 1 : Nat), .int .u64 (word X 2 : Nat), .int .u64 (word X 3 : Nat), .int .u64 (word X 4 : Nat), .int .u64 (word X 5 : Nat), .int .u64 (word X 6 : Nat), .int .u64 (word X 7 : Nat)] 25
  clear hb3
  have cs := RS.cell
  go_wp2_with fail
  clear cs
  refine (with_any N i _).mono ?_
  rintro e w4 ⟨rfl, hb4⟩
  rw [HY.out, HF.out]
  unfold setV cellsF
  have RS := (RS.stay hb4).alloc (.cells #[.int .u64 (word Y 0 : Nat), .int .u64 (word Y 1 : Nat), .int .u64 (word Y 2 : Nat), .int .u64 (word Y 3 : Nat), .int .u64 (word Y 4 : Nat), .int .u64 (word Y 5 : Nat), .int .u64 (word Y 6 : Nat), .int .u64 (word Y 7 : Nat)] 25)
  have BB := (go_on BB hb4).alloc (by have := (go_on BB hb4).size; omega) (.cells #[.int .u64 (word Y 0 : Nat), .int .u64 (word Y 1 : Nat), .int .u64 (word Y 2 : Nat), .int .u64 (word Y 3 : Nat), .int .u64 (word Y 4 : Nat), .int .u64 (word Y 5 : Nat), .int .u64 (word Y 6 : Nat), .int .u64 (word Y 7 : Nat)] 25)
  have HO : Hid ((w4.alloc (.cells #[.int .u64 (word Y 0 : Nat), .int .u64 (word Y 1 : Nat), .int .u64 (word Y 2 : Nat), .int .u64 (word Y 3 : Nat), .int .u64 (word Y 4 : Nat), .int .u64 (word Y 5 : Nat), .int .u64 (word Y 6 : Nat), .int .u64 (word Y 7 : Nat)] 25)).ownsRow (w.heap.size + 1) 3 1 (.slice (some ⟨g, 0, none⟩) (xs.length + 2) cap) (xs.length + 2) (zC (xs ++ [-77, -78]))) := (own_below HO.out hb4).alloc _
  have R8 := (R8.stay hb4).alloc (.cells #[.int .u64 (word Y 0 : Nat), .int .u64 (word Y 1 : Nat), .int .u64 (word Y 2 : Nat), .int .u64 (word Y 3 : Nat), .int .u64 (word Y 4 : Nat), .int .u64 (word Y 5 : Nat), .int .u64 (word Y 6 : Nat), .int .u64 (word Y 7 : Nat)] 25)
  have R10 := (R10.stay hb4).alloc (.cells #[.int .u64 (word Y 0 : Nat), .int .u64 (word Y 1 : Nat), .int .u64 (word Y 2 : Nat), .int .u64 (word Y 3 : Nat), .int .u64 (word Y 4 : Nat), .int .u64 (word Y 5 : Nat), .int .u64 (word Y 6 : Nat), .int .u64 (word Y 7 : Nat)] 25)
  have R12 := RowAt.last w4 #[.int .u64 (word Y 0 : Nat), .int .u64 (word Y 1 : Nat), .int .u64 (word Y 2 : Nat), .int .u64 (word Y 3 : Nat), .int .u64 (word Y 4 : Nat), .int .u64 (word Y 5 : Nat), .int .u64 (word Y 6 : Nat), .int .u64 (word Y 7 : Nat)] 25
  clear hb4
  have cs := RS.cell
  go_wp2_with fail
  clear cs
  refine (rwith_any N hN i _).mono ?_
  rintro e w5 ⟨rfl, hb5⟩
  rw [HY.out, HF.out]
  unfold setV cellsF
  have RS := (RS.stay hb5).alloc (.cells #[.int .u64 (word Y 0 : Nat), .int .u64 (word Y 1 : Nat), .int .u64 (word Y 2 : Nat), .int .u64 (word Y 3 : Nat), .int .u64 (word Y 4 : Nat), .int .u64 (word Y 5 : Nat), .int .u64 (word Y 6 : Nat), .int .u64 (word Y 7 : Nat)] 25)
  have BB := (go_on BB hb5).alloc (by have := (go_on BB hb5).size; omega) (.cells #[.int .u64 (word Y 0 : Nat), .int .u64 (word Y 1 : Nat), .int .u64 (word Y 2 : Nat), .int .u64 (word Y 3 : Nat), .int .u64 (word Y 4 : Nat), .int .u64 (word Y 5 : Nat), .int .u64 (word Y 6 : Nat), .int .u64 (word Y 7 : Nat)] 25)
  have HO : Hid ((w5.alloc (.cells #[.int .u64 (word Y 0 : Nat), .int .u64 (word Y 1 : Nat), .int .u64 (word Y 2 : Nat), .int .u64 (word Y 3 : Nat), .int .u64 (word Y 4 : Nat), .int .u64 (word Y 5 : Nat), .int .u64 (word Y 6 : Nat), .int .u64 (word Y 7 : Nat)] 25)).ownsRow (w.heap.size + 1) 3 1 (.slice (some ⟨g, 0, none⟩) (xs.length + 2) cap) (xs.length + 2) (zC (xs ++ [-77, -78]))) := (own_below HO.out hb5).alloc _
  have R8 := (R8.stay hb5).alloc (.cells #[.int .u64 (word Y 0 : Nat), .int .u64 (word Y 1 : Nat), .int .u64 (word Y 2 : Nat), .int .u64 (word Y 3 : Nat), .int .u64 (word Y 4 : Nat), .int .u64 (word Y 5 : Nat), .int .u64 (word Y 6 : Nat), .int .u64 (word Y 7 : Nat)] 25)
  have R10 := (R10.stay hb5).alloc (.cells #[.int .u64 (word Y 0 : Nat), .int .u64 (word Y 1 : Nat), .int .u64 (word Y 2 : Nat), .int .u64 (word Y 3 : Nat), .int .u64 (word Y 4 : Nat), .int .u64 (word Y 5 : Nat), .int .u64 (word Y 6 : Nat), .int .u64 (word Y 7 : Nat)] 25)
  have R12 := (R12.stay hb5).alloc (.cells #[.int .u64 (word Y 0 : Nat), .int .u64 (word Y 1 : Nat), .int .u64 (word Y 2 : Nat), .int .u64 (word Y 3 : Nat), .int .u64 (word Y 4 : Nat), .int .u64 (word Y 5 : Nat), .int .u64 (word Y 6 : Nat), .int .u64 (word Y 7 : Nat)] 25)
  have R14 := RowAt.last w5 #[.int .u64 (word Y 0 : Nat), .int .u64 (word Y 1 : Nat), .int .u64 (word Y 2 : Nat), .int .u64 (word Y 3 : Nat), .int .u64 (word Y 4 : Nat), .int .u64 (word Y 5 : Nat), .int .u64 (word Y 6 : Nat), .int .u64 (word Y 7 : Nat)] 25
  clear hb5
  have cs := RS.cell
  go_wp2_with fail
  clear cs
  refine (without_any N i _).mono ?_
  rintro e w6 ⟨rfl, hb6⟩
  rw [HZ.out, HF.out]
  unfold setV cellsF
  have RS := (RS.stay hb6).alloc (.cells #[.int .u64 (word Z 0 : Nat), .int .u64 (word Z 1 : Nat), .int .u64 (word Z 2 : Nat), .int .u64 (word Z 3 : Nat), .int .u64 (word Z 4 : Nat), .int .u64 (word Z 5 : Nat), .int .u64 (word Z 6 : Nat), .int .u64 (word Z 7 : Nat)] 25)
  have BB := (go_on BB hb6).alloc (by have := (go_on BB hb6).size; omega) (.cells #[.int .u64 (word Z 0 : Nat), .int .u64 (word Z 1 : Nat), .int .u64 (word Z 2 : Nat), .int .u64 (word Z 3 : Nat), .int .u64 (word Z 4 : Nat), .int .u64 (word Z 5 : Nat), .int .u64 (word Z 6 : Nat), .int .u64 (word Z 7 : Nat)] 25)
  have HO : Hid ((w6.alloc (.cells #[.int .u64 (word Z 0 : Nat), .int .u64 (word Z 1 : Nat), .int .u64 (word Z 2 : Nat), .int .u64 (word Z 3 : Nat), .int .u64 (word Z 4 : Nat), .int .u64 (word Z 5 : Nat), .int .u64 (word Z 6 : Nat), .int .u64 (word Z 7 : Nat)] 25)).ownsRow (w.heap.size + 1) 3 1 (.slice (some ⟨g, 0, none⟩) (xs.length + 2) cap) (xs.length + 2) (zC (xs ++ [-77, -78]))) := (own_below HO.out hb6).alloc _
  have R8 := (R8.stay hb6).alloc (.cells #[.int .u64 (word Z 0 : Nat), .int .u64 (word Z 1 : Nat), .int .u64 (word Z 2 : Nat), .int .u64 (word Z 3 : Nat), .int .u64 (word Z 4 : Nat), .int .u64 (word Z 5 : Nat), .int .u64 (word Z 6 : Nat), .int .u64 (word Z 7 : Nat)] 25)
  have R10 := (R10.stay hb6).alloc (.cells #[.int .u64 (word Z 0 : Nat), .int .u64 (word Z 1 : Nat), .int .u64 (word Z 2 : Nat), .int .u64 (word Z 3 : Nat), .int .u64 (word Z 4 : Nat), .int .u64 (word Z 5 : Nat), .int .u64 (word Z 6 : Nat), .int .u64 (word Z 7 : Nat)] 25)
  have R12 := (R12.stay hb6).alloc (.cells #[.int .u64 (word Z 0 : Nat), .int .u64 (word Z 1 : Nat), .int .u64 (word Z 2 : Nat), .int .u64 (word Z 3 : Nat), .int .u64 (word Z 4 : Nat), .int .u64 (word Z 5 : Nat), .int .u64 (word Z 6 : Nat), .int .u64 (word Z 7 : Nat)] 25)
  have R14 := (R14.stay hb6).alloc (.cells #[.int .u64 (word Z 0 : Nat), .int .u64 (word Z 1 : Nat), .int .u64 (word Z 2 : Nat), .int .u64 (word Z 3 : Nat), .int .u64 (word Z 4 : Nat), .int .u64 (word Z 5 : Nat), .int .u64 (word Z 6 : Nat), .int .u64 (word Z 7 : Nat)] 25)
  have R16 := RowAt.last w6 #[.int .u64 (word Z 0 : Nat), .int .u64 (word Z 1 : Nat), .int .u64 (word Z 2 : Nat), .int .u64 (word Z 3 : Nat), .int .u64 (word Z 4 : Nat), .int .u64 (word Z 5 : Nat), .int .u64 (word Z 6 : Nat), .int .u64 (word Z 7 : Nat)] 25
  clear hb6
  have cs := RS.cell
  go_wp2_with fail
  clear cs
  refine (rwithout_any N hN i _).mono ?_
  rintro e w7 ⟨rfl, hb7⟩
  rw [HZ.out, HF.out]
  unfold setV cellsF
  have RS := (RS.stay hb7).alloc (.cells #[.int .u64 (word Z 0 : Nat), .int .u64 (word Z 1 : Nat), .int .u64 (word Z 2 : Nat), .int .u64 (word Z 3 : Nat), .int .u64 (word Z 4 : Nat), .int .u64 (word Z 5 : Nat), .int .u64 (word Z 6 : Nat), .int .u64 (word Z 7 : Nat)] 25)
  have BB := (go_on BB hb7).alloc (by have := (go_on BB hb7).size; omega) (.cells #[.int .u64 (word Z 0 : Nat), .int .u64 (word Z 1 : Nat), .int .u64 (word Z 2 : Nat), .int .u64 (word Z 3 : Nat), .int .u64 (word Z 4 : Nat), .int .u64 (word Z 5 : Nat), .int .u64 (word Z 6 : Nat), .int .u64 (word Z 7 : Nat)] 25)
  have HO : Hid ((w7.alloc (.cells #[.int .u64 (word Z 0 : Nat), .int .u64 (word Z 1 : Nat), .int .u64 (word Z 2 : Nat), .int .u64 (word Z 3 : Nat), .int .u64 (word Z 4 : Nat), .int .u64 (word Z 5 : Nat), .int .u64 (word Z 6 : Nat), .int .u64 (word Z 7 : Nat)] 25)).ownsRow (w.heap.size + 1) 3 1 (.slice (some ⟨g, 0, none⟩) (xs.length + 2) cap) (xs.length + 2) (zC (xs ++ [-77, -78]))) := (own_below HO.out hb7).alloc _
  have R8 := (R8.stay hb7).alloc (.cells #[.int .u64 (word Z 0 : Nat), .int .u64 (word Z 1 : Nat), .int .u64 (word Z 2 : Nat), .int .u64 (word Z 3 : Nat), .int .u64 (word Z 4 : Nat), .int .u64 (word Z 5 : Nat), .int .u64 (word Z 6 : Nat), .int .u64 (word Z 7 : Nat)] 25)
  have R10 := (R10.stay hb7).alloc (.cells #[.int .u64 (word Z 0 : Nat), .int .u64 (word Z 1 : Nat), .int .u64 (word Z 2 : Nat), .int .u64 (word Z 3 : Nat), .int .u64 (word Z 4 : Nat), .int .u64 (word Z 5 : Nat), .int .u64 (word Z 6 : Nat), .int .u64 (word Z 7 : Nat)] 25)
  have R12 := (R12.stay hb7).alloc (.cells #[.int .u64 (word Z 0 : Nat), .int .u64 (word Z 1 : Nat), .int .u64 (word Z 2 : Nat), .int .u64 (word Z 3 : Nat), .int .u64 (word Z 4 : Nat), .int .u64 (word Z 5 : Nat), .int .u64 (word Z 6 : Nat), .int .u64 (word Z 7 : Nat)] 25)
  have R14 := (R14.stay hb7).alloc (.cells #[.int .u64 (word Z 0 : Nat), .int .u64 (word Z 1 : Nat), .int .u64 (word Z 2 : Nat), .int .u64 (word Z 3 : Nat), .int .u64 (word Z 4 : Nat), .int .u64 (word Z 5 : Nat), .int .u64 (word Z 6 : Nat), .int .u64 (word Z 7 : Nat)] 25)
  have R16 := (R16.stay hb7).alloc (.cells #[.int .u64 (word Z 0 : Nat), .int .u64 (word Z 1 : Nat), .int .u64 (word Z 2 : Nat), .int .u64 (word Z 3 : Nat), .int .u64 (word Z 4 : Nat), .int .u64 (word Z 5 : Nat), .int .u64 (word Z 6 : Nat), .int .u64 (word Z 7 : Nat)] 25)
  have R18 := RowAt.last w7 #[.int .u64 (word Z 0 : Nat), .int .u64 (word Z 1 : Nat), .int .u64 (word Z 2 : Nat), .int .u64 (word Z 3 : Nat), .int .u64 (word Z 4 : Nat), .int .u64 (word Z 5 : Nat), .int .u64 (word Z 6 : Nat), .int .u64 (word Z 7 : Nat)] 25
  clear hb7
  have cs := RS.cell
  go_wp2_with fail
  clear cs
  generalize hWd : w7.alloc (.cells #[.int .u64 (word Z 0 : Nat), .int .u64 (word Z 1 : Nat), .int .u64 (word Z 2 : Nat), .int .u64 (word Z 3 : Nat), .int .u64 (word Z 4 : Nat), .int .u64 (word Z 5 : Nat), .int .u64 (word Z 6 : Nat), .int .u64 (word Z 7 : Nat)] 25) = W at RS R8 R10 R12 R14 R16 R18 BB HO ⊢
  clear hWd
  have BW : Hid (Below w.heap.size w W) := BB
  clear BB
  have S0 : S7 W w.heap.size w2.heap.size w3.heap.size w4.heap.size w5.heap.size w6.heap.size w7.heap.size #[.int .u64 (word N 0 : Nat), .int .u64 (word N 1 : Nat), .int .u64 (word N 2 : Nat), .int .u64 (word N 3 : Nat), .int .u64 (word N 4 : Nat), .int .u64 (word N 5 : Nat), .int .u64 (word N 6 : Nat), .int .u64 (word N 7 : Nat)] #[.int .u64 (word X 0 : Nat), .int .u64 (word X 1 : Nat), .int .u64 (word X 2 : Nat), .int .u64 (word X 3 : Nat), .int .u64 (word X 4 : Nat), .int .u64 (word X 5 : Nat), .int .u64 (word X 6 : Nat), .int .u64 (word X 7 : Nat)] #[.int .u64 (word X 0 : Nat), .int .u64 (word X 1 : Nat), .int .u64 (word X 2 : Nat), .int .u64 (word X 3 : Nat), .int .u64 (word X 4 : Nat), .int .u64 (word X 5 : Nat), .int .u64 (word X 6 : Nat), .int .u64 (word X 7 : Nat)] #[.int .u64 (word Y 0 : Nat), .int .u64 (word Y 1 : Nat), .int .u64 (word Y 2 : Nat), .int .u64 (word Y 3 : Nat), .int .u64 (word Y 4 : Nat), .int .u64 (word Y 5 : Nat), .int .u64 (word Y 6 : Nat), .int .u64 (word Y 7 : Nat)] #[.int .u64 (word Y 0 : Nat), .int .u64 (word Y 1 : Nat), .int .u64 (word Y 2 : Nat), .int .u64 (word Y 3 : Nat), .int .u64 (word Y 4 : Nat), .int .u64 (word Y 5 : Nat), .int .u64 (word Y 6 : Nat), .int .u64 (word Y 7 : Nat)] #[.int .u64 (word Z 0 : Nat), .int .u64 (word Z 1 : Nat), .int .u64 (word Z 2 : Nat), .int .u64 (word Z 3 : Nat), .int .u64 (word Z 4 : Nat), .int .u64 (word Z 5 : Nat), .int .u64 (word Z 6 : Nat), .int .u64 (word Z 7 : Nat)] #[.int .u64 (word Z 0 : Nat), .int .u64 (word Z 1 : Nat), .int .u64 (word Z 2 : Nat), .int .u64 (word Z 3 : Nat), .int .u64 (word Z 4 : Nat), .int .u64 (word Z 5 : Nat), .int .u64 (word Z 6 : Nat), .int .u64 (word Z 7 : Nat)] W.drew := s7_of RS R8 R10 R12 R14 R16 R18 (Below.refl _ _).drew
  go_cut [98] (fun s wx => s = .bool false ∧ Below W.heap.size W wx)
  case first =>
    go_region_held3 (fun w' => S7 W w.heap.size w2.heap.size w3.heap.size w4.heap.size w5.heap.size w6.heap.size w7.heap.size #[.int .u64 (word N 0 : Nat), .int .u64 (word N 1 : Nat), .int .u64 (word N 2 : Nat), .int .u64 (word N 3 : Nat), .int .u64 (word N 4 : Nat), .int .u64 (word N 5 : Nat), .int .u64 (word N 6 : Nat), .int .u64 (word N 7 : Nat)] #[.int .u64 (word X 0 : Nat), .int .u64 (word X 1 : Nat), .int .u64 (word X 2 : Nat), .int .u64 (word X 3 : Nat), .int .u64 (word X 4 : Nat), .int .u64 (word X 5 : Nat), .int .u64 (word X 6 : Nat), .int .u64 (word X 7 : Nat)] #[.int .u64 (word X 0 : Nat), .int .u64 (word X 1 : Nat), .int .u64 (word X 2 : Nat), .int .u64 (word X 3 : Nat), .int .u64 (word X 4 : Nat), .int .u64 (word X 5 : Nat), .int .u64 (word X 6 : Nat), .int .u64 (word X 7 : Nat)] #[.int .u64 (word Y 0 : Nat), .int .u64 (word Y 1 : Nat), .int .u64 (word Y 2 : Nat), .int .u64 (word Y 3 : Nat), .int .u64 (word Y 4 : Nat), .int .u64 (word Y 5 : Nat), .int .u64 (word Y 6 : Nat), .int .u64 (word Y 7 : Nat)] #[.int .u64 (word Y 0 : Nat), .int .u64 (word Y 1 : Nat), .int .u64 (word Y 2 : Nat), .int .u64 (word Y 3 : Nat), .int .u64 (word Y 4 : Nat), .int .u64 (word Y 5 : Nat), .int .u64 (word Y 6 : Nat), .int .u64 (word Y 7 : Nat)] #[.int .u64 (word Z 0 : Nat), .int .u64 (word Z 1 : Nat), .int .u64 (word Z 2 : Nat), .int .u64 (word Z 3 : Nat), .int .u64 (word Z 4 : Nat), .int .u64 (word Z 5 : Nat), .int .u64 (word Z 6 : Nat), .int .u64 (word Z 7 : Nat)] #[.int .u64 (word Z 0 : Nat), .int .u64 (word Z 1 : Nat), .int .u64 (word Z 2 : Nat), .int .u64 (word Z 3 : Nat), .int .u64 (word Z 4 : Nat), .int .u64 (word Z 5 : Nat), .int .u64 (word Z 6 : Nat), .int .u64 (word Z 7 : Nat)] w') (first | exact S0 | exact s7_step RS R8 R10 R12 R14 R16 R18 (by assumption) (by assumption)) (first
      | (go_at_call 13; refine (num_any _ _).mono ?_; rintro e wn ⟨rfl, rfl⟩)
      | (go_at_call 14; refine (has_any N i _).mono ?_; rintro e y1 ⟨rfl, hy1⟩; rw [HHs.out])
      | (go_at_call 15; refine (rhas_any N i _).mono ?_; rintro e y2 ⟨rfl, hy2⟩; rw [HHs.out]))
    all_goals (go_wp2_with fail; go_meet; exact ⟨rfl, s7_below (by assumption)⟩)
  case rest =>
    obtain ⟨rfl, hbc⟩ := hcut
    have RS := RS.stay hbc
    have BB : Hid (Below w.heap.size w wc) := go_on BW.out hbc
    have HO : Hid (wc.ownsRow (w.heap.size + 1) 3 1 (.slice (some ⟨g, 0, none⟩) (xs.length + 2) cap) (xs.length + 2) (zC (xs ++ [-77, -78]))) := own_below HO.out hbc
    clear hbc S0 R8 R10 R12 R14 R16 R18 eX eY eZ
    have cs := RS.cell
    have hlen := lst_le N 512
    have HNL : Hid (zC (lst N 512) = intCells (natLst N) ∧ (natLst N).length = (lst N 512).length) := ⟨zC_lst N, natLst_len N⟩
    go_wp2_with fail
    refine (list_any N _ (HT.out.below BB.out HT.out.pos)).mono ?_
    rintro e x1 ⟨v1, rfl, hl1, hb1⟩
    have RS := RS.stay hb1
    have BB1 : Hid (Below w.heap.size w x1) := go_on BB.out hb1
    have HO : Hid (x1.ownsRow (w.heap.size + 1) 3 1 (.slice (some ⟨g, 0, none⟩) (xs.length + 2) cap) (xs.length + 2) (zC (xs ++ [-77, -78]))) := own_below HO.out hb1
    have HL1 : Hid (x1.ownsRow wc.heap.size 3 1 v1 (lst N 512).length (zC (lst N 512))) := hl1
    clear cs hb1 hl1
    have cs := RS.cell
    go_wp2_with fail
    refine (list_any N _ (HT.out.below BB1.out HT.out.pos)).mono ?_
    rintro e x2 ⟨v2, rfl, hl2, hb2⟩
    have RS := RS.stay hb2
    have BB2 : Hid (Below w.heap.size w x2) := go_on BB1.out hb2
    have HO : Hid (x2.ownsRow (w.heap.size + 1) 3 1 (.slice (some ⟨g, 0, none⟩) (xs.length + 2) cap) (xs.length + 2) (zC (xs ++ [-77, -78]))) := own_below HO.out hb2
    have HX1 : Hid (∀ b, v1.ownBlock = some b → b < x1.heap.size) := fun b hb => (HL1.out.lt b hb).2
    have HL1 : Hid (x2.ownsRow wc.heap.size 3 1 v1 (lst N 512).length (zC (lst N 512))) := own_below HL1.out hb2
    have HL2 : Hid (x2.ownsRow x1.heap.size 3 1 v2 (lst N 512).length (zC (lst N 512))) := hl2
    clear cs hb2 hl2
    have cs := RS.cell
    go_wp2_with fail
    refine (rlist_any N _).mono ?_
    rintro e x3 ⟨v3, rfl, hl3, hb3⟩
    have BB3 : Hid (Below w.heap.size w x3) := go_on BB2.out hb3
    have HO : Hid (x3.ownsRow (w.heap.size + 1) 3 1 (.slice (some ⟨g, 0, none⟩) (xs.length + 2) cap) (xs.length + 2) (zC (xs ++ [-77, -78]))) := own_below HO.out hb3
    have HL1 : Hid (x3.ownsRow wc.heap.size 3 1 v1 (lst N 512).length (zC (lst N 512))) := own_below HL1.out hb3
    have HL2 : Hid (x3.ownsRow x1.heap.size 3 1 v2 (lst N 512).length (zC (lst N 512))) := own_below HL2.out hb3
    have HL3 : Hid (x3.ownsRow x2.heap.size 3 1 v3 (lst N 512).length (zC (lst N 512))) := hl3
    clear cs hb3 hl3 RS
    go_wp2_with fail
    refine (same_any v1 v3 (lst N 512) _ (own_reads HL1.out) (own_reads HL3.out) (by omega)).mono ?_
    rintro e x4 ⟨rfl, hb4⟩
    have BB4 : Hid (Below w.heap.size w x4) := go_on BB3.out hb4
    have HO : Hid (x4.ownsRow (w.heap.size + 1) 3 1 (.slice (some ⟨g, 0, none⟩) (xs.length + 2) cap) (xs.length + 2) (zC (xs ++ [-77, -78]))) := own_below HO.out hb4
    have HL1 : Hid (x4.ownsRow wc.heap.size 3 1 v1 (lst N 512).length (zC (lst N 512))) := own_below HL1.out hb4
    have HL2 : Hid (x4.ownsRow x1.heap.size 3 1 v2 (lst N 512).length (zC (lst N 512))) := own_below HL2.out hb4
    have HL3 : Hid (x4.ownsRow x2.heap.size 3 1 v3 (lst N 512).length (zC (lst N 512))) := own_below HL3.out hb4
    clear hb4
    go_wp2_with fail
    refine (same_any v2 v3 (lst N 512) _ (own_reads HL2.out) (own_reads HL3.out) (by omega)).mono ?_
    rintro e x5 ⟨rfl, hb5⟩
    have BB5 : Hid (Below w.heap.size w x5) := go_on BB4.out hb5
    have HO : Hid (x5.ownsRow (w.heap.size + 1) 3 1 (.slice (some ⟨g, 0, none⟩) (xs.length + 2) cap) (xs.length + 2) (zC (xs ++ [-77, -78]))) := own_below HO.out hb5
    have HL1 : Hid (x5.ownsRow wc.heap.size 3 1 v1 (lst N 512).length (zC (lst N 512))) := own_below HL1.out hb5
    have HL2 : Hid (x5.ownsRow x1.heap.size 3 1 v2 (lst N 512).length (zC (lst N 512))) := own_below HL2.out hb5
    clear hb5 HL3
    go_wp2_with fail
    refine (stay_any v xs _ (reads_stay HV.out BB5.out) (w.heap.size + 1) g cap (by have := HM.out; omega) HO.out).mono ?_
    rintro e x6 ⟨rfl, hb6⟩
    have BB6 : Hid (Below w.heap.size w x6) := go_on BB5.out hb6
    have HL1 : Hid (x6.ownsRow wc.heap.size 3 1 v1 (lst N 512).length (zC (lst N 512))) := own_below HL1.out hb6
    have HL2 : Hid (x6.ownsRow x1.heap.size 3 1 v2 (lst N 512).length (zC (lst N 512))) := own_below HL2.out hb6
    have HS1 : Hid (w.heap.size ≤ wc.heap.size ∧ w.heap.size ≤ x1.heap.size) := ⟨BB.out.size, BB1.out.size⟩
    clear hb6 HO
    obtain ⟨la, lc, rfl⟩ := own_shape HL1.out
    obtain ⟨ma, mc, rfl⟩ := own_shape HL2.out
    have HLen : Hid ((lst N 512).length ≤ 512) := hlen
    obtain ⟨n, hn⟩ : ∃ n, (lst N 512).length = n := ⟨_, rfl⟩
    rw [hn, HNL.out.1] at HL1 HL2
    rw [hn] at HX1 HLen HNL
    rw [hn]
    clear hn hlen
    go_wp2_with fail
    refine (apart_any w.heap.size x6.heap.size (fun i => if i = 0 then la else ma) (fun _ => n) (fun i => if i = 0 then lc else mc) (fun _ => natLst N) (x6.alloc (.cells #[.slice la n lc, .slice ma n mc] 22)) (by exact heap_alloc_new x6 _) ?_ (fun _ _ => by have := HLen.out; omega) (fun _ _ => HNL.out.2) ?_ ?_).mono ?_
    · intro j hj
      match j, hj with
      | 0, _ => exact (own_mono HL1.out HS1.out.1).alloc _
      | 1, _ => exact (own_mono HL2.out HS1.out.2).alloc _
    · intro j j' hj hj' hne b hb hb'
      match j, j', hj, hj', hne with
      | 0, 0, _, _, hne => exact hne rfl
      | 1, 1, _, _, hne => exact hne rfl
      | 0, 1, _, _, _ =>
        have h1 := HX1.out b hb
        have h2 := (HL2.out.lt b hb').1
        omega
      | 1, 0, _, _, _ =>
        have h1 := HX1.out b hb'
        have h2 := (HL2.out.lt b hb).1
        omega
    · have := BB6.out.size; simp; omega
    rintro e x7 ⟨rfl, hb7⟩
    have BB7 : Hid (Below w.heap.size w x7) := (BB6.out.alloc BB6.out.size _).trans hb7
    clear hb7
    go_wp2_with (go_at_call 21; refine (live_any _).mono ?_; rintro e wl ⟨rfl, hbl⟩)
    go_ret
    exact ⟨rfl, go_on BB7.out hbl⟩
/-! ### The row's step -/
theorem own : ownKnob Tryd.prog.godebug = none := by kernel_rfl
def laid1 : List (String × DataW Unit) := [("math/bits.deBruijn64tab", Rows.laid_math_bits_deBruijn64tab)]
def tabZ : List Int := Lib.deBruijn64tab.map fun (z : Nat) => (z : Int)
theorem gTab : Tryd.prog.globalNamed "math/bits.deBruijn64tab" = some 0 := by kernel_rfl
theorem tTab : (Tryd.prog.globals[0]?).map (·.type) = some 60 := by kernel_rfl
theorem of_laid {W : World} (h : laidMetH Tryd.prog laid1 W) : TzTab W := by
  rw [MakeChecks.laidMetH_plain _ _ _ (by kernel_rfl)] at h
  have ht : Lib.TabIs Tryd.prog W "math/bits.deBruijn64tab" .u8 tabZ :=
    Lib.tabIs_of_head (rest := []) gTab tTab Tryd.underlying60 Tryd.underlying5 (by kernel_rfl) (by kernel_rfl) h
  intro j hj
  have := ht.cell gTab j hj
  rw [this]
  have e : tabZ.getD j 0 = ((Lib.deBruijn64tab.getD j 0 : Nat) : Int) := by
    unfold tabZ
    rw [List.getD_eq_getElem?_getD, List.getElem?_map, List.getD_eq_getElem?_getD]
    cases Lib.deBruijn64tab[j]? <;> rfl
  rw [e]
/-- The door's own heap meets the condition. -/
theorem door_met (os : Os) (args : Array Value) : laidMetH Tryd.prog laid1 ((World.doorLaid Tryd.prog 400 os).forCall (fun _ _ => 0) ⟨#[], args, []⟩).memory :=
  laidMetH_of_parts3 (fuel := 8) (laidMet_of_run' 8 (by kernel_rfl) (by kernel_rfl)) (by kernel_rfl) (by kernel_rfl)

set_option maxRecDepth 100000 in
theorem lifted (os : Os) (started : os.Started) (H : Type) (enc : TypeId × Value → H) :
    ReturnsInHanded {} Tryd.checked os 3 .any (fun w args => (Rows.bitsListsSpec.pre enc Tryd.prog Tryd.f3 [] false w args ∧ laidMetH Tryd.prog laid1 w) ∧ sizedMet enc Tryd.prog Tryd.f3 (OpenSpec.ofChange Rows.bitsListsSpec) false w args)
      (Rows.bitsListsSpec.post enc Tryd.prog Tryd.f3 false true false false) := by
  refine returnsInHanded_of_change_and (C := Tryd.checked) (X := fun w _ => laidMetH Tryd.prog laid1 w) (fun _ _ _ hh h => h.of_heap hh) own started (by kernel_rfl) Tryd.func3
    (ChangeSpec.witness_shaped (enc := enc) (C := Tryd.checked) (os := os) (X := fun w _ => laidMetH Tryd.prog laid1 w) false (World.doorLaid Tryd.prog 400 os) #[.slice none 0 0, .agg #[.int .u64 0, .int .u64 0, .int .u64 0, .int .u64 0, .int .u64 0, .int .u64 0, .int .u64 0, .int .u64 0], .int .i64 0] 8 rfl (World.shaped_of_RefB (by kernel_rfl) (by kernel_rfl)) (by kernel_rfl) (by kernel_rfl) (by kernel_rfl) (door_met os _)) ?_
  intro W base args ds gs before hval0 hW _ hsz0 hL _
  have hval : ∀ (j : Nat) t v, Tryd.f3.params[j]? = some t → args[j]? = some v → Value.okWide Tryd.prog W .any base t v := hval0
  have hW' := hW
  obtain ⟨p, q, hA0, hV, rfl, hfz, hnd⟩ := hW
  have hA : DataW.TrodAll enc Tryd.prog W 0 (fun _ => true) true Tryd.f3.params.toList args.toList ds p := hA0
  have hsz : (DataW.weightsEach Tryd.prog (Tryd.f3.params.toList ++ Rows.bitsListsSpec.plain.varTypes Tryd.prog) (ds ++ gs)).all (· ≤ reachBytes) = true := hsz0
  rw [Tryd.params3] at hA hval hsz
  obtain ⟨v0, vs0, d0, ds0, p0, q0, hargs, rfl, rfl, h0, r0⟩ := trodAll_cons hA
  obtain ⟨v1, vs1, d1, ds1, p1, q1, rfl, rfl, rfl, h1, r1⟩ := trodAll_cons r0
  obtain ⟨v2, vs2, d2, ds2, p2, q2, rfl, rfl, rfl, h2, r2⟩ := trodAll_cons r1
  obtain ⟨rfl, rfl, rfl⟩ := trodAll_nil r2
  obtain rfl : args = #[v0, v1, v2] := by cases args; simp_all
  obtain ⟨rfl, rfl⟩ := trodVars_none hV
  obtain ⟨a0, w0, x0, y0⟩ := open_list (hval 0 22 v0 rfl rfl) h0
  have z0 : (a0.length + 2) * 8 ≤ 140737488355328 := by
    rcases y0 with ⟨_, rfl⟩ | ⟨e, s, rfl, hy⟩
    · decide
    · have := sized_slice hsz (j := 0) (t := 22) rfl rfl Tryd.underlying22
      rw [Tryd.bytes_int1] at this
      simp only [reachBytes] at this
      omega
  have g0 : ∀ x ∈ p0, x.block < W.heap.size := fun x hx => hW'.lt x (by simp [hx])
  obtain ⟨a1, rfl, rfl, rfl, w1⟩ := open_set (hval 1 25 v1 rfl rfl) h1
  obtain ⟨a2, rfl, rfl, rfl, w2⟩ := open_int Tryd.underlying3 (hval 2 3 v2 rfl rfl) h2
  have hTz := of_laid hL
  clear hA0 hval0
  refine (walk v0 a0 a1 a2 w1 W w0 x0 z0 hTz).mono fun e W' ⟨he, bel⟩ => ?_
  subst he
  exact ⟨_, rfl, _, _, _, [], _, [], hW', trodAll_mk1 (shut_bool Tryd.underlying4 _), (trodAll_cons_mk (Below.trod Tryd.laidOut (by kernel_rfl) (of_decide_eq_true (by kernel_rfl)) h0 bel g0) (trodAll_cons_mk (shut_set a1) (trodAll_cons_mk (shut_int Tryd.underlying3 w2) trodAll_mk0))), rfl, bel.frame _, fun h => by cases h⟩

theorem over : Rows.BitsListsSaid :=
  OpenClaim.holds_of_wide 3 Tryd.f3 rfl rfl rfl rfl rfl rfl rfl ⟨rfl, rfl, rfl, rfl, rfl⟩ rfl rfl rfl rfl rfl (by kernel_rfl) Tryd.func3 (by kernel_rfl)
    (of_decide_eq_true (by kernel_rfl)) (by unfold Func.isWrapper; first | (rw [if_pos (by decide +kernel)]; kernel_rfl) | (rw [if_neg (by decide +kernel)]; exact ⟨rfl, rfl⟩))
    (fun os started H enc _ => lifted os started H enc)

theorem card : Rows.BitsListsCardSaid :=
  Claim7.holds_tied_plain_at .later [] [.data] true (true, "07b0b13ee0e77904397bf8dfe0a9dde0cd5ec42efe4742bf8e06f59086ada953") false
    over (fun _ h => by cases h) (by kernel_rfl) (fun _ h => by cases h) bitsLists_row_tie rfl ⟨rfl, rfl⟩ (by kernel_rfl) rfl
    (fun f fn hf hfn => by
      obtain rfl : f = 3 := Option.some.inj ((show Tryd.prog.funcNamed "eggbox/eggboxlaw02.BitsLists" = some 3 by kernel_rfl).symm.trans hf) |>.symm
      obtain rfl : fn = Tryd.f3 := (Option.some.inj (Tryd.func3.symm.trans hfn)).symm
      exact ⟨by kernel_rfl, fun j t ht => by
        rw [Tryd.params3] at ht
        have hm : t ∈ [22, 25, 3] := by simpa using Array.mem_of_getElem? ht
        have hall : ([22, 25, 3].all fun u => !Tryd.prog.wantsStandIn u) = true := by kernel_rfl
        exact (show Tryd.prog.wantsStandIn t = false by simpa using List.all_eq_true.1 hall t hm)⟩)
    (by kernel_rfl)

end Go.Proofs.YthjkfpgocidpeaaDoor.bitsLists
namespace Go.Proofs.YthjkfpgocidpeaaDoor
/-- The given statement. -/
theorem bitsLists_holds : Rows.BitsListsCardSaid := bitsLists.card
end Go.Proofs.YthjkfpgocidpeaaDoor
