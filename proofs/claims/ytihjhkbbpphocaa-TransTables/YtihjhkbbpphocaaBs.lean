/- Contracts of bits.Size, bits.Of, bits.Field and of the law's live. -/
import Derived.Test.YtihjhkbbpphocaaBl
import Derived.Deep.WholeRow
import Derived.Deep.RegionWith
import Derived.WalkLawsBesides
import Derived.Laws.ResultCell
namespace Go.Proofs.Ytihjhkbbpphocaa
open Go.RowKit

theorem run_index_set (f : Nat → Nat) {k : Nat} (h : k < 8) (w : World) :
    (Instr.index 44 (.agg (cellsF f)) (.int .i64 k)).run Try.prog w = .ok (.int .u64 (f k)) w := by
  rcases eight_cases h with rfl | rfl | rfl | rfl | rfl | rfl | rfl | rfl <;> simp [Instr.index, cellsF, go_sem]

/-- The set's eight words lie in block b. -/
def Cells8 (w : World) (b : Nat) (f : Nat → Nat) : Prop := w.heap[b]? = some (.cells (cellsF f) 44 (0, 0))
theorem Cells8.lt {w : World} {b : Nat} {f : Nat → Nat} (h : Cells8 w b f) : b < w.heap.size := (Array.getElem?_eq_some_iff.1 h).1
theorem Cells8.get {w : World} {b : Nat} {f : Nat → Nat} (h : Cells8 w b f) {k : Nat} (hk : k < 8) : w.cell? ⟨b, k, none⟩ = some (.int .u64 (f k)) := by
  have h' : w.heap[b]? = some (.cells (cellsF f) 44 (0, 0)) := h
  simp only [World.cell?, h']
  exact cellsF_get f hk
theorem Cells8.frozen {w : World} {b : Nat} {f : Nat → Nat} (h : Cells8 w b f) (k : Nat) : w.frozen? ⟨b, k, none⟩ = false := by
  have h' : w.heap[b]? = some (.cells (cellsF f) 44 (0, 0)) := h
  simp [World.frozen?, h']
theorem Cells8.congr {w : World} {b : Nat} {f g : Nat → Nat} (h : Cells8 w b f) (e : ∀ k, k < 8 → f k = g k) : Cells8 w b g := by
  unfold Cells8 at h ⊢
  rw [h, cellsF_congr e]
theorem Cells8.of_heap {w w' : World} {b : Nat} {f : Nat → Nat} (h : Cells8 w b f) (e : w'.heap[b]? = w.heap[b]?) : Cells8 w' b f := by
  unfold Cells8 at h ⊢
  rw [e, h]
theorem Cells8.other {w : World} {b : Nat} {f : Nat → Nat} (h : Cells8 w b f) {b' k : Nat} (hb : b' ≠ b) (u : Value) : Cells8 (w.setCell ⟨b', k, none⟩ u) b f :=
  h.of_heap (Below.heap_setCell _ _ _ _ (fun e => hb e.symm))
theorem Cells8.set {w : World} {b : Nat} {f : Nat → Nat} (h : Cells8 w b f) {k : Nat} (v : Nat) (hk : k < 8) : Cells8 (w.setCell ⟨b, k, none⟩ (.int .u64 v)) b (fun j => if j = k then v else f j) := by
  have h' : w.heap[b]? = some (.cells (cellsF f) 44 (0, 0)) := h
  unfold Cells8
  rw [← cellsF_set f v hk]
  simp only [World.setCell]
  rw [Array.getElem?_modify, if_pos rfl, h']
  rfl
theorem Cells8.alloc {w : World} {b : Nat} {f : Nat → Nat} (h : Cells8 w b f) (o : Obj) : Cells8 (w.alloc o) b f := by
  apply h.of_heap
  simp only [World.alloc]
  rw [Array.getElem?_push_lt h.lt, Array.getElem?_eq_getElem h.lt]
theorem Cells8.last (w : World) (f : Nat → Nat) : Cells8 (w.alloc (.cells (cellsF f) 44)) w.heap.size f := heap_alloc_last w _
theorem Cells8.drewN {w : World} {b : Nat} {f : Nat → Nat} (h : Cells8 w b f) (q : Nat) : Cells8 (w.drewN q) b f := h.of_heap (by simp)
theorem Cells8.drew {w : World} {b : Nat} {f : Nat → Nat} (h : Cells8 w b f) : Cells8 w.drew b f := h.of_heap rfl
theorem Cells8.gets {w : World} {b : Nat} {f : Nat → Nat} (h : Cells8 w b f) : w.cell? ⟨b, 0, none⟩ = some (.int .u64 (f 0)) ∧ w.cell? ⟨b, 1, none⟩ = some (.int .u64 (f 1)) ∧ w.cell? ⟨b, 2, none⟩ = some (.int .u64 (f 2)) ∧ w.cell? ⟨b, 3, none⟩ = some (.int .u64 (f 3)) ∧
    w.cell? ⟨b, 4, none⟩ = some (.int .u64 (f 4)) ∧ w.cell? ⟨b, 5, none⟩ = some (.int .u64 (f 5)) ∧ w.cell? ⟨b, 6, none⟩ = some (.int .u64 (f 6)) ∧ w.cell? ⟨b, 7, none⟩ = some (.int .u64 (f 7)) :=
  ⟨h.get (by decide), h.get (by decide), h.get (by decide), h.get (by decide), h.get (by decide), h.get (by decide), h.get (by decide), h.get (by decide)⟩
theorem below_cell {w w' : World} {B g o : Nat} (h : Below B w w') (hg : g < B) : w'.cell? ⟨g, o, none⟩ = w.cell? ⟨g, o, none⟩ := by
  simp only [World.cell?, h.block g hg]

theorem Try.info_set : (Try.prog.info? 44).map (·.size) = some 8 := by kernel_rfl
theorem load_set {w : World} {b : Nat} {f : Nat → Nat} (h : Cells8 w b f) : (loadVar 44 ⟨b, 0, none⟩).run Try.prog w = .ok (.agg (cellsF f)) w :=
  run_loadVar_row _ _ 44 44 (cellsF f) (0, 0) _ h Try.underlying44 rfl Try.info_set
theorem results_set {fn : Func} {p : Tmp} (h : fn.results = #[.cell p 44]) {tmps : Array Value} {b : Nat} {f : Nat → Nat} {w : World} (hp : tmps.getD p undef = .pointer (some ⟨b, 0, none⟩)) (hc : Cells8 w b f) :
    (results fn tmps).run Try.prog w = .ok (.agg (cellsF f)) w :=
  results_cell_row h tmps w b 44 (cellsF f) (0, 0) _ hp hc Try.underlying44 rfl Try.info_set
theorem results_set_tmp {fn : Func} {p u : Tmp} (h : fn.results = #[.cell p 44, .tmp u]) {tmps : Array Value} {b : Nat} {f : Nat → Nat} {w : World} (hp : tmps.getD p undef = .pointer (some ⟨b, 0, none⟩)) (hc : Cells8 w b f) :
    (results fn tmps).run Try.prog w = .ok (.tuple #[.agg (cellsF f), tmps.getD u undef]) w := by
  rw [results_cell_tmp h]
  simp [hp, asAddr, load_set hc, Result.andThen]
/-- Eight stores into a block of the call's own: it holds what was stored. -/
theorem st8 {B : Nat} {w wr : World} {b : Nat} {f : Nat → Nat} (h : Cells8 wr b f) (hbel : Below B w wr) (hb : B ≤ b) (g : Nat → Nat) {v0 v1 v2 v3 v4 v5 v6 v7 : Value} (e0 : v0 = .int .u64 (g 0)) (e1 : v1 = .int .u64 (g 1)) (e2 : v2 = .int .u64 (g 2)) (e3 : v3 = .int .u64 (g 3))
    (e4 : v4 = .int .u64 (g 4)) (e5 : v5 = .int .u64 (g 5)) (e6 : v6 = .int .u64 (g 6)) (e7 : v7 = .int .u64 (g 7)) :
    Cells8 ((((((((wr.setCell ⟨b, 0, none⟩ v0).setCell ⟨b, 1, none⟩ v1).setCell ⟨b, 2, none⟩ v2).setCell ⟨b, 3, none⟩ v3).setCell ⟨b, 4, none⟩ v4).setCell ⟨b, 5, none⟩ v5).setCell ⟨b, 6, none⟩ v6).setCell ⟨b, 7, none⟩ v7) b g ∧
    Below B w ((((((((wr.setCell ⟨b, 0, none⟩ v0).setCell ⟨b, 1, none⟩ v1).setCell ⟨b, 2, none⟩ v2).setCell ⟨b, 3, none⟩ v3).setCell ⟨b, 4, none⟩ v4).setCell ⟨b, 5, none⟩ v5).setCell ⟨b, 6, none⟩ v6).setCell ⟨b, 7, none⟩ v7) := by
  subst e0 e1 e2 e3 e4 e5 e6 e7
  refine ⟨?_, (((((((hbel.setCell (p := ⟨b, 0, none⟩) hb _).setCell (p := ⟨b, 1, none⟩) hb _).setCell (p := ⟨b, 2, none⟩) hb _).setCell (p := ⟨b, 3, none⟩) hb _).setCell (p := ⟨b, 4, none⟩) hb _).setCell (p := ⟨b, 5, none⟩) hb _).setCell (p := ⟨b, 6, none⟩) hb _).setCell (p := ⟨b, 7, none⟩) hb _⟩
  refine (((((((((h.set (g 0) (by decide : 0 < 8)).set (g 1) (by decide : 1 < 8)).set (g 2) (by decide : 2 < 8)).set (g 3) (by decide : 3 < 8)).set (g 4) (by decide : 4 < 8)).set (g 5) (by decide : 5 < 8)).set (g 6) (by decide : 6 < 8)).set (g 7) (by decide : 7 < 8)).congr ?_)
  intro k hk
  rcases eight_cases hk with rfl | rfl | rfl | rfl | rfl | rfl | rfl | rfl <;> rfl

end Go.Proofs.Ytihjhkbbpphocaa
