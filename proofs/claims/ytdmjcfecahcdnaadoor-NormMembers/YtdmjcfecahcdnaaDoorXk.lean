/- Rows of spans; slices.Reverse of one. -/
import Derived.Test.YtdmjcfecahcdnaaDoorXj
import Derived.Shelf.SlicesQ.Reverse
import Derived.Ground.SlgnProg
namespace Go.Proofs
open Go.Shelf Go.Lib
open Go.Proofs.YtdmjcfecahcdnaaDoor

shelf_lay_g SlLaysE0.n35 Slgn 35 at Tryd 74 as Tryd.reverseSpan
end Go.Proofs
namespace Go.Proofs.YtdmjcfecahcdnaaDoor
open Go Go.RowKit
set_option linter.unusedVariables false

abbrev Sp := Nat × Nat
def spE (x : Sp) : List Value := [.int .i64 (x.1 : Int), .int .i64 (x.2 : Int)]
def spC : List Sp → List Value
  | [] => []
  | x :: l => .int .i64 (x.1 : Int) :: .int .i64 (x.2 : Int) :: spC l
theorem spC_append (a b : List Sp) : spC (a ++ b) = spC a ++ spC b := by
  induction a with
  | nil => rfl
  | cons n a ih => simp [spC, ih]
theorem spC_length (ts : List Sp) : (spC ts).length = ts.length * 2 := by
  induction ts with
  | nil => rfl
  | cons n ts ih => simp [spC, ih]; omega
theorem spC_at (ts : List Sp) (i : Nat) (h : i < ts.length) : (spC ts)[i * 2]? = some (.int .i64 ((ts.getD i (0, 0)).1 : Int)) ∧ (spC ts)[i * 2 + 1]? = some (.int .i64 ((ts.getD i (0, 0)).2 : Int)) := by
  induction ts generalizing i with
  | nil => simp at h
  | cons n ts ih =>
    cases i with
    | zero => exact ⟨rfl, rfl⟩
    | succ i =>
      have := ih i (by simpa using h)
      rw [show (i + 1) * 2 = i * 2 + 1 + 1 by omega]
      simp only [spC, List.getElem?_cons_succ, List.getD_cons_succ]
      exact this
theorem spC_one (ts : List Sp) : ∀ u ∈ spC ts, u.oneCell' = true := by
  induction ts with
  | nil => intro u hu; simp [spC] at hu
  | cons n ts ih =>
    intro u hu
    simp only [spC, List.mem_cons] at hu
    rcases hu with rfl | rfl | hu
    · rfl
    · rfl
    · exact ih u hu
theorem sp_flat (L : List Sp) (t : Nat) (h : t < L.length * 2) : (spC L)[t]? = some ((Go.Sort.flatK spE 2 L.toArray)[t]!) := by
  rw [Go.Sort.get_flatK _ _ _ t (by simpa using h)]
  have hi : t / 2 < L.length := by omega
  have e : L.toArray[t / 2]! = L.getD (t / 2) (0, 0) := by
    rw [getElem!_pos L.toArray (t / 2) (by simpa using hi), List.getD_eq_getElem?_getD, List.getElem?_eq_getElem hi]
    simp
  obtain ⟨h1, h2⟩ := spC_at L (t / 2) hi
  rw [e]
  have hc : t % 2 = 0 ∨ t % 2 = 1 := by omega
  rcases hc with hc | hc
  · rw [hc]
    rw [show t / 2 * 2 = t by omega] at h1
    rw [h1]
    rfl
  · rw [hc]
    rw [show t / 2 * 2 + 1 = t by omega] at h2
    rw [h2]
    rfl
theorem putRow_heap (w : World) (g : Nat) (F : Array Value) (cur : Array Value) (t : TypeId) (h : w.heap[g]? = some (.cells cur t (0, 0))) : (Go.Sort.putRow id w g 0 F).heap[g]? = some (.cells (Go.Sort.putCells id 0 F cur) t (0, 0)) ∧ (∀ j, j ≠ g → (Go.Sort.putRow id w g 0 F).heap[j]? = w.heap[j]?) ∧ (Go.Sort.putRow id w g 0 F).heap.size = w.heap.size := by
  refine ⟨?_, fun j hj => ?_, ?_⟩
  · simp [Go.Sort.putRow, Go.Sort.mapBlock, Array.getElem?_modify, h, Go.Sort.onCells]
  · simp only [Go.Sort.putRow, Go.Sort.mapBlock, Array.getElem?_modify]
    rw [if_neg (fun e => hj e.symm)]
  · simp [Go.Sort.putRow, Go.Sort.mapBlock]
theorem isAgg_span (w : World) : (isAgg 70).run Tryd.prog w = .ok true w := by
  simp [isAgg, run_underlying Tryd.underlying70]
theorem sizeOf_span (w : World) : (Go.sizeOf 70).run Tryd.prog w = .ok 2 w := by
  have h := Tryd.info_span
  cases hi : Tryd.prog.info? 70 with
  | none => rw [hi] at h; cases h
  | some i =>
    rw [hi] at h
    have h : i.size = 2 := by simpa using h
    simp [Go.sizeOf, typeInfo, hi, h]
theorem reverse_any (base g cap : Nat) (L : List Sp) (w : World) (h : w.ownsRow base 70 2 (.slice (some ⟨g, 0, none⟩) L.length cap) L.length (spC L)) (hL : L.length ≤ 1000000) :
    Calls Tryd.prog 74 #[.slice (some ⟨g, 0, none⟩) L.length cap] w fun e w' => e = .returned (.tuple #[]) ∧ w'.ownsRow base 70 2 (.slice (some ⟨g, 0, none⟩) L.length cap) L.length (spC L.reverse) ∧ w.grownBy w' (some g) := by
  have hH : Go.Sort.HoldsK spE 2 w g 0 L.toArray := fun j hj => by
    have hj' : j < L.length * 2 := by simpa using hj
    rw [Nat.zero_add]
    exact ⟨(h.cellAt j hj').trans (sp_flat L j hj'), h.frozenAt j⟩
  have := AnyQ.slices_Reverse Tryd.reverseSpan 2 isAgg_span sizeOf_span spE (fun _ => rfl) (fun x v hv => by simp [spE] at hv; rcases hv with rfl | rfl <;> rfl) g 0 cap L.toArray w hH (by simp; omega)
  rw [show L.toArray.size = L.length by simp] at this
  refine this.mono ?_
  rintro e w' ⟨rfl, n, rfl⟩
  obtain ⟨hxl, hh⟩ := h
  rcases hh with ⟨hh, _⟩ | ⟨g', cap', cur, e, hb, hg, hnc, hcm, hcs, htk⟩
  · cases hh
  simp only [Value.slice.injEq, Option.some.injEq, Addr.mk.injEq] at e
  obtain ⟨⟨rfl, _⟩, _, rfl⟩ := e
  obtain ⟨p1, p2, p3⟩ := putRow_heap (Go.Sort.ahead w n) g (Go.Sort.flatK spE 2 L.toArray.reverse) cur 70 hg
  refine ⟨rfl, ⟨by rw [spC_length, List.length_reverse], .inr ⟨g, cap, _, rfl, hb, p1, hnc, hcm, ?_, ?_⟩⟩, ⟨rfl, rfl, rfl, by show _ ≤ (Go.Sort.putRow id (Go.Sort.ahead w n) g 0 _).heap.size; rw [p3]; exact Nat.le_refl _, fun k hk hne => p2 k (fun e => hne (by rw [e]))⟩⟩
  · rw [← hcs]; simp [Go.Sort.putCells]
  · apply List.ext_getElem?
    intro t
    have e1 : L.toArray.reverse = L.reverse.toArray := by simp
    rw [List.getElem?_take, e1]
    by_cases ht : t < L.length * 2
    · have htc : t < cur.size := by rw [hcs]; omega
      rw [if_pos ht, sp_flat L.reverse t (by rw [List.length_reverse]; exact ht), Array.getElem?_toList]
      simp only [Go.Sort.putCells, Array.getElem?_mapIdx]
      rw [Array.getElem?_eq_getElem htc]
      simp [ht]
    · rw [if_neg ht, List.getElem?_eq_none (by rw [spC_length, List.length_reverse]; omega)]
end Go.Proofs.YtdmjcfecahcdnaaDoor
