/- terms.variablesOf: the closure, IndexFunc, ContainsFunc. -/
import Derived.Test.YthhlamehbcidgaaY34
namespace Go.Proofs.Ythhlamehbcidgaa
open Go Go.RowKit Go.Lib
set_option linter.unusedVariables false

/-- A row of sides. -/
structure SR (w : World) (G : Nat) (vs : List Value) (Ls : List (List (Int × Nat))) : Prop where
  g : w.heap[G]? = some (.cells vs.toArray 22 (0, 0))
  ln : vs.length = Ls.length
  r : ∀ j, j < Ls.length → SgR w (vs.getD j (.slice none 0 0)) (Ls.getD j []) ∧ (Ls.getD j []).length ≤ 9223372036854775000
theorem SR.below {w w' : World} {G : Nat} {vs : List Value} {Ls : List (List (Int × Nat))} (h : SR w G vs Ls) (hb : Below w.heap.size w w') : SR w' G vs Ls :=
  ⟨(hb.block _ (Array.getElem?_eq_some_iff.1 h.g).1).trans h.g, h.ln, fun j hj => ⟨(h.r j hj).1.below hb, (h.r j hj).2⟩⟩
theorem SR.cell {w : World} {G : Nat} {vs : List Value} {Ls : List (List (Int × Nat))} (h : SR w G vs Ls) {i : Nat} (hi : i < Ls.length) : w.cell? ⟨G, i, none⟩ = some (vs.getD i (.slice none 0 0)) := by
  have h2 : i < vs.length := by rw [h.ln]; exact hi
  refine cell_at h.g ?_
  rw [List.getD_eq_getElem?_getD, List.getElem?_eq_getElem h2]
  simp [h2]
/-- The variable's box. -/
def VB (w : World) (V c : Nat) : Prop := w.heap[V]? = some (.cells #[.int .i64 2, .int .u8 (c : Nat)] 81 (0, 0))
theorem VB.below {w w' : World} {V c : Nat} (h : VB w V c) (hb : Below w.heap.size w w') : VB w' V c := (hb.block _ (Array.getElem?_eq_some_iff.1 h).1).trans h

set_option maxHeartbeats 1000000 in
set_option maxRecDepth 100000 in
theorem vo1_any (v : Value) (L : List (Int × Nat)) (V c : Nat) (w : World) (h : SgR w v L) (hL : L.length ≤ 9223372036854775000) (hv : VB w V c) :
    Calls Try.prog 68 #[v, .pointer (some ⟨V, 0, none⟩)] w fun e w' => e = .returned (.bool (occ L c)) ∧ Below w.heap.size w w' := by
  have x0 : w.cell? ⟨V, 0, none⟩ = some (.int .i64 2) := cell_at hv rfl
  have y0 : w.cell? ⟨V, 1, none⟩ = some (.int .u8 (c : Nat)) := cell_at hv rfl
  have HC : Hid (Calls Try.prog 69 #[v, .agg #[.int .i64 2, .int .u8 (c : Nat)]] w fun e w' => e = .returned (.bool (occ L c)) ∧ Below w.heap.size w w') := containsS_any v L c w h hL
  obtain ⟨a1, c1, e1⟩ := h.len
  subst e1
  clear h hv
  go_enter Try.func68, Try.ntmps68
  go_wp2_with fail
  refine Calls.mono HC.out ?_
  rintro e w2 ⟨rfl, hb2⟩
  have HB2 : Hid (Below w.heap.size w w2) := hb2
  clear hb2 x0 y0
  go_wp2_with fail
  go_ret
  exact ⟨rfl, HB2.out⟩

def IfS (Ls : List (List (Int × Nat))) (c : Nat) (w : World) (e : Ending) (w' : World) : Prop := (∃ r : Int, e = .returned (.int .i64 r) ∧ decide (0 ≤ r) = Ls.any (fun L => occ L c) ∧ -1 ≤ r) ∧ Below w.heap.size w w'
theorem any_no {Ls : List (List (Int × Nat))} {c : Nat} (h : ∀ j, j < Ls.length → occ (Ls.getD j []) c = false) : Ls.any (fun L => occ L c) = false := by
  rw [List.any_eq_false]
  intro L hL hq
  obtain ⟨j, hj, e⟩ := List.getElem_of_mem hL
  have h1 := h j hj
  rw [List.getD_eq_getElem?_getD, List.getElem?_eq_getElem hj, Option.getD_some, e] at h1
  rw [h1] at hq
  cases hq
theorem any_yes {Ls : List (List (Int × Nat))} {c j : Nat} (hj : j < Ls.length) (h : occ (Ls.getD j []) c = true) : Ls.any (fun L => occ L c) = true := by
  rw [List.any_eq_true]
  rw [List.getD_eq_getElem?_getD, List.getElem?_eq_getElem hj, Option.getD_some] at h
  exact ⟨_, List.getElem_mem hj, h⟩

set_option maxHeartbeats 4000000 in
set_option maxRecDepth 100000 in
theorem indexFS_any (G : Nat) (vs : List Value) (Ls : List (List (Int × Nat))) (V c cap : Nat) (w : World) (h : SR w G vs Ls) (hL : Ls.length ≤ 40000) (hv : VB w V c) :
    Calls Try.prog 102 #[.slice (some ⟨G, 0, none⟩) Ls.length cap, .func (Fn.func 68) #[] #[.pointer (some ⟨V, 0, none⟩)]] w (IfS Ls c w) := by
  have HS : Hid (SR w G vs Ls) := h
  have HV : Hid (VB w V c) := hv
  clear h hv
  go_enter Try.func102, Try.ntmps102
  go_wp2_with fail
  go_loopw [8] (fun vi wr => ∃ i : Nat, vi = .int .i64 (i : Nat) ∧ i ≤ Ls.length ∧ (∀ j, j < i → occ (Ls.getD j []) c = false) ∧ Below w.heap.size w wr) (fun vi _ => Ls.length - (Go.RowKit.intOf vi).toNat)
  case atStart => exact ⟨0, rfl, Nat.zero_le _, fun j hj => by omega, Below.refl _ _⟩
  case round =>
    obtain ⟨i, rfl, hi, hj, hb⟩ := hrel
    have HB : Hid (Below w.heap.size w wr) := hb
    have HJ : Hid (∀ j, j < i → occ (Ls.getD j []) c = false) := hj
    have HI : Hid (i ≤ Ls.length) := hi
    clear hj hb
    by_cases hlt : i < Ls.length
    · have hiI : (i : Int) < Ls.length := by omega
      have hc := (HS.out.below HB.out).cell hlt
      have HC : Hid (Calls Try.prog 68 #[vs.getD i (.slice none 0 0), .pointer (some ⟨V, 0, none⟩)] wr fun e w' => e = .returned (.bool (occ (Ls.getD i []) c)) ∧ Below wr.heap.size wr w') := by
        obtain ⟨q1, q2⟩ := (HS.out.below HB.out).r i hlt
        exact vo1_any _ _ V c wr q1 q2 (HV.out.below HB.out)
      have HLT : Hid (i < Ls.length) := hlt
      obtain ⟨a1, c1, e1⟩ := ((HS.out.below HB.out).r i hlt).1.len
      rw [e1] at hc HC
      clear hlt e1
      cases hp : occ (Ls.getD i []) c with
      | true =>
        rw [hp] at HC
        have HPX : Hid (occ (Ls.getD i []) c = true) := hp
        clear hp
        go_wp2_with fail
        refine Calls.mono HC.out ?_
        rintro e w1 ⟨rfl, hb1⟩
        have HB1 : Hid (Below w.heap.size w w1) := go_on HB.out hb1
        clear hb1 hc
        go_wp2_with fail
        go_ret
        refine ⟨⟨i, rfl, ?_, by omega⟩, HB1.out⟩
        rw [any_yes HLT.out HPX.out]
        exact decide_eq_true (by omega)
      | false =>
        rw [hp] at HC
        have HPX : Hid (occ (Ls.getD i []) c = false) := hp
        clear hp
        go_wp2_with fail
        refine Calls.mono HC.out ?_
        rintro e w1 ⟨rfl, hb1⟩
        have HB1 : Hid (Below w.heap.size w w1) := go_on HB.out hb1
        have hw3 : IntKind.i64.wrap ((i : Int) + 1) = ((i + 1 : Nat) : Int) := by rw [IntKind.wrap_i64]; omega
        clear hb1 hc
        go_wp2_with fail
        go_roundw
        case rel => exact ⟨i + 1, rfl, HLT.out, fun j hj => by
          by_cases e : j = i
          · subst e; exact HPX.out
          · exact HJ.out j (by omega), HB1.out⟩
        case measure => simp [Go.RowKit.intOf]; omega
    · have hiI : ¬ (i : Int) < Ls.length := by omega
      go_wp2_with fail
      go_ret
      refine ⟨⟨-1, rfl, ?_, by omega⟩, HB.out⟩
      rw [any_no (fun j hj => HJ.out j (by have := HI.out; omega))]
      rfl

set_option maxHeartbeats 2000000 in
set_option maxRecDepth 100000 in
theorem containsFS_any (G : Nat) (vs : List Value) (Ls : List (List (Int × Nat))) (V c cap : Nat) (w : World) (h : SR w G vs Ls) (hL : Ls.length ≤ 40000) (hv : VB w V c) :
    Calls Try.prog 67 #[.slice (some ⟨G, 0, none⟩) Ls.length cap, .func (Fn.func 68) #[] #[.pointer (some ⟨V, 0, none⟩)]] w fun e w' => e = .returned (.bool (Ls.any fun L => occ L c)) ∧ Below w.heap.size w w' := by
  have HI : Hid _ := indexFS_any G vs Ls V c cap w h hL hv
  clear h hv
  go_enter Try.func67, Try.ntmps67
  go_wp2_with fail
  refine Calls.mono HI.out ?_
  rintro e w2 ⟨⟨r, rfl, hr, hr1⟩, hb2⟩
  have HR : Hid (decide (0 ≤ r) = Ls.any fun L => occ L c) := hr
  have HB2 : Hid (Below w.heap.size w w2) := hb2
  clear hr hb2
  go_wp2_with fail
  go_ret
  exact ⟨by rw [← HR.out]; rfl, HB2.out⟩
end Go.Proofs.Ythhlamehbcidgaa
