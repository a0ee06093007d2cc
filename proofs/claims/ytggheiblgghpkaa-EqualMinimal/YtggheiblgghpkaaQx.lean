/- Contracts of auto.acceptedBefore and auto.Behind. -/
import Derived.Test.YtggheiblgghpkaaQw
import Derived.Test.YtggheiblgghpkaaJn
import Derived.Deep.RegionHeld3
import Derived.Deep.DeepCutAuto
namespace Go.Proofs.Ytggheiblgghpkaa
open Go Go.RowKit Go.Lib Go.Maps
set_option linter.unusedVariables false

/-- The first i are told, the rest not yet. -/
def fil (f : Nat → Bool) (n i : Nat) : List Bool := (List.range n).map fun s => if s < i then f s else false
theorem fil_len (f : Nat → Bool) (n i : Nat) : (fil f n i).length = n := by simp [fil]
theorem fil_zero (f : Nat → Bool) (n : Nat) : fil f n 0 = List.replicate n false := by
  apply List.ext_getElem?
  intro j
  by_cases h : j < n <;> simp [fil, h]
theorem fil_end (f : Nat → Bool) (n : Nat) : fil f n n = (List.range n).map f := by
  unfold fil
  refine List.map_congr_left fun s hs => ?_
  rw [if_pos (List.mem_range.1 hs)]
theorem fil_set (f : Nat → Bool) {n i : Nat} (h : i < n) : (fil f n i).set i (f i) = fil f n (i + 1) := by
  apply List.ext_getElem?
  intro j
  rw [List.getElem?_set]
  by_cases e : i = j
  · subst e
    rw [if_pos rfl, fil_len, if_pos h]
    simp [fil, h]
  · rw [if_neg e]
    by_cases hj : j < n
    · simp only [fil, List.getElem?_map, List.getElem?_range hj, Option.map_some]
      congr 1
      by_cases q : j < i
      · rw [if_pos q, if_pos (by omega)]
      · rw [if_neg q, if_neg (by omega)]
    · rw [List.getElem?_eq_none (by rw [fil_len]; omega), List.getElem?_eq_none (by rw [fil_len]; omega)]

/-- What a cell holds. -/
def cvAt (y : World) (b i : Nat) : Value := (y.cell? ⟨b, i, none⟩).getD (.bool false)
/-- A box, a cell that is read and a cell that is written, while a region goes on. -/
abbrev SW (a : Nat) (arr : Array Value) (g o : Nat) (x : Value) (b i : Nat) (t : TypeId) (y : World) : Prop :=
  (∀ o, y.cell? ⟨a, o, none⟩ = arr[o]?) ∧ y.cell? ⟨g, o, none⟩ = some x ∧ y.frozen? ⟨b, i, none⟩ = false ∧ y.cell? ⟨b, i, none⟩ = some (cvAt y b i) ∧ (∃ cur, y.heap[b]? = some (.cells cur t (0, 0)) ∧ i < cur.size) ∧ a < y.heap.size ∧ g < y.heap.size
theorem sw_mk {a : Nat} {arr : Array Value} {g o : Nat} {x : Value} {b i : Nat} {t : TypeId} {y : World} (h1 : ∀ o, y.cell? ⟨a, o, none⟩ = arr[o]?) (h2 : y.cell? ⟨g, o, none⟩ = some x) (h3 : ∃ cur, y.heap[b]? = some (.cells cur t (0, 0)) ∧ i < cur.size) (h4 : a < y.heap.size) (h5 : g < y.heap.size) : SW a arr g o x b i t y := by
  obtain ⟨cur, hc, hi⟩ := h3
  have e : y.cell? ⟨b, i, none⟩ = some cur[i] := by rw [cell_of hc]; simp [hi]
  exact ⟨h1, h2, froz_of hc, by rw [cvAt, e]; rfl, ⟨cur, hc, hi⟩, h4, h5⟩
theorem sw_step {a : Nat} {arr : Array Value} {g o : Nat} {x : Value} {b i : Nat} {t : TypeId} {y1 y2 : World} (hb : Below y1.heap.size y1 y2) (h : SW a arr g o x b i t y1) : SW a arr g o x b i t y2 := by
  obtain ⟨h1, h2, _, _, ⟨cur, hc, hi⟩, h4, h5⟩ := h
  exact sw_mk (fun o => (below_cell hb h4).trans (h1 o)) ((below_cell hb h5).trans h2) ⟨cur, (hb.block b (Array.getElem?_eq_some_iff.1 hc).1).trans hc, hi⟩ (Nat.lt_of_lt_of_le h4 hb.size) (Nat.lt_of_lt_of_le h5 hb.size)
theorem sw_set {a : Nat} {arr : Array Value} {g o : Nat} {x : Value} {b i : Nat} {t : TypeId} {y : World} (ha : a ≠ b) (hg : g ≠ b) (v : Value) (h : SW a arr g o x b i t y) : SW a arr g o x b i t (y.setCell ⟨b, i, none⟩ v) := by
  obtain ⟨h1, h2, _, _, ⟨cur, hc, hi⟩, h4, h5⟩ := h
  refine sw_mk (fun o => ?_) ?_ ⟨_, heap_set hc, by simpa using hi⟩ (by simpa [World.setCell] using h4) (by simpa [World.setCell] using h5)
  · rw [World.cell?_of_block (heap_set_other ha)]; exact h1 o
  · rw [World.cell?_of_block (heap_set_other hg)]; exact h2

end Go.Proofs.Ytggheiblgghpkaa
