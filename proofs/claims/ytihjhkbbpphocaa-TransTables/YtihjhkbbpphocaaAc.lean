/- Unpacked images (65 cells) and transformations (8 cells) as values and in memory. -/
import Derived.Test.YtihjhkbbpphocaaAb
import Derived.Deep.WholeRow
import Derived.Deep.RegionHeld3
import Derived.WalkLawsBesides
import Derived.Laws.ResultCell
import Derived.IntWalk
namespace Go.Proofs.Ytihjhkbbpphocaa
open Go Go.RowKit Go.Lib
set_option linter.unusedVariables false

/-- The cells of n points' images. -/
def mvC (n : Nat) (f : Nat → Nat) : Array Value := (Value.int .i64 (n : Int) :: (List.range 64).map fun i => Value.int .u8 ((f i : Nat) : Int)).toArray
theorem mvC_size (n : Nat) (f : Nat → Nat) : (mvC n f).size = 65 := by simp [mvC]
theorem mvC_n (n : Nat) (f : Nat → Nat) : (mvC n f)[0]? = some (.int .i64 (n : Int)) := by simp [mvC]
theorem mvC_get (n : Nat) (f : Nat → Nat) {i : Nat} (h : i < 64) : (mvC n f)[i + 1]? = some (.int .u8 (f i : Nat)) := by simp [mvC, h]
theorem mvC_congr {n : Nat} {f g : Nat → Nat} (h : ∀ i, i < 64 → f i = g i) : mvC n f = mvC n g := by
  unfold mvC
  congr 2
  exact List.map_congr_left (fun i hi => by rw [h i (List.mem_range.1 hi)])
theorem mvC_inj {n m : Nat} {f g : Nat → Nat} (h : mvC n f = mvC m g) : n = m ∧ ∀ i, i < 64 → f i = g i := by
  constructor
  · have e := mvC_n n f
    rw [h, mvC_n] at e
    simp at e
    omega
  · intro i hi
    have e := mvC_get n f hi
    rw [h, mvC_get _ _ hi] at e
    simp at e
    omega
theorem mvC_set (n : Nat) (f : Nat → Nat) {i : Nat} (v : Nat) (h : i < 64) : (mvC n f).setIfInBounds (i + 1) (.int .u8 (v : Int)) = mvC n (fun j => if j = i then v else f j) := by
  apply Array.ext_getElem?
  intro k
  rw [Array.getElem?_setIfInBounds]
  cases k with
  | zero => rw [if_neg (by omega), mvC_n, mvC_n]
  | succ k =>
    by_cases hk : k < 64
    · rw [mvC_get _ _ hk, mvC_get _ _ hk, mvC_size]
      by_cases e : i = k
      · rw [if_pos (by omega), if_pos (by omega), if_pos e.symm]
      · rw [if_neg (by omega), if_neg (fun q => e q.symm)]
    · rw [if_neg (by omega), Array.getElem?_eq_none (by rw [mvC_size]; omega), Array.getElem?_eq_none (by rw [mvC_size]; omega)]
theorem mvC_setN (n m : Nat) (f : Nat → Nat) : (mvC n f).setIfInBounds 0 (.int .i64 (m : Int)) = mvC m f := by
  apply Array.ext_getElem?
  intro k
  rw [Array.getElem?_setIfInBounds]
  cases k with
  | zero => rw [if_pos rfl, mvC_size, mvC_n]; simp
  | succ k =>
    by_cases hk : k < 64
    · rw [if_neg (by omega), mvC_get _ _ hk, mvC_get _ _ hk]
    · rw [if_neg (by omega), Array.getElem?_eq_none (by rw [mvC_size]; omega), Array.getElem?_eq_none (by rw [mvC_size]; omega)]
def mvV (n : Nat) (f : Nat → Nat) : Value := .agg (mvC n f)
/-- A list's images, unpacked. -/
def mvL (l : List Nat) : Value := mvV l.length (im l)
theorem mvC_one (n : Nat) (f : Nat → Nat) : (mvC n f).all (·.oneCell') = true := by
  rw [Array.all_eq_true]
  intro i hi
  cases i with
  | zero => 
    have e : (mvC n f)[0] = .int .i64 (n : Int) := by have := mvC_n n f; rw [Array.getElem?_eq_getElem hi] at this; simpa using this
    rw [e]; rfl
  | succ k =>
    have hk : k < 64 := by rw [mvC_size] at hi; omega
    have e : (mvC n f)[k + 1] = .int .u8 (f k : Nat) := by have := mvC_get n f hk; rw [Array.getElem?_eq_getElem hi] at this; simpa using this
    rw [e]; rfl

/-- The cells of a transformation. -/
def trC (N : Int) (g : Nat → Nat) : Array Value := #[.int .i64 N, .int .u64 (g 0 : Nat), .int .u64 (g 1 : Nat), .int .u64 (g 2 : Nat), .int .u64 (g 3 : Nat), .int .u64 (g 4 : Nat), .int .u64 (g 5 : Nat), .int .u64 (g 6 : Nat)]
def trV (N : Int) (g : Nat → Nat) : Value := .agg (trC N g)
/-- The packed transformation of a list of images. -/
def trL (l : List Nat) : Value := trV (l.length : Int) (pk (im l) l.length)
theorem seven_cases {k : Nat} (h : k < 7) : k = 0 ∨ k = 1 ∨ k = 2 ∨ k = 3 ∨ k = 4 ∨ k = 5 ∨ k = 6 := by omega
theorem trC_n (N : Int) (g : Nat → Nat) : (trC N g)[0]? = some (.int .i64 N) := rfl
theorem trC_size (N : Int) (g : Nat → Nat) : (trC N g).size = 8 := rfl
theorem trC_get (N : Int) (g : Nat → Nat) {k : Nat} (h : k < 7) : (trC N g)[k + 1]? = some (.int .u64 (g k : Nat)) := by
  rcases seven_cases h with rfl | rfl | rfl | rfl | rfl | rfl | rfl <;> rfl
theorem trC_congr {N : Int} {f g : Nat → Nat} (h : ∀ k, k < 7 → f k = g k) : trC N f = trC N g := by
  unfold trC
  rw [h 0 (by decide), h 1 (by decide), h 2 (by decide), h 3 (by decide), h 4 (by decide), h 5 (by decide), h 6 (by decide)]
theorem trC_set (N : Int) (g : Nat → Nat) {k : Nat} (v : Nat) (h : k < 7) : (trC N g).setIfInBounds (k + 1) (.int .u64 (v : Int)) = trC N (fun j => if j = k then v else g j) := by
  rcases seven_cases h with rfl | rfl | rfl | rfl | rfl | rfl | rfl <;> rfl
theorem trC_inj {N M : Int} {f g : Nat → Nat} (h : trC N f = trC M g) : N = M ∧ ∀ k, k < 7 → f k = g k := by
  constructor
  · have e := trC_n N f
    rw [h, trC_n] at e
    simp at e
    exact e.symm
  · intro k hk
    have e := trC_get N f hk
    rw [h, trC_get _ _ hk] at e
    simp at e
    omega

/-- The images lie in block b. -/
def MvAt (w : World) (b : Nat) (n : Nat) (f : Nat → Nat) : Prop := w.heap[b]? = some (.cells (mvC n f) 79 (0, 0))
/-- The transformation lies in block b. -/
def TrAt (w : World) (b : Nat) (N : Int) (g : Nat → Nat) : Prop := w.heap[b]? = some (.cells (trC N g) 26 (0, 0))
theorem MvAt.lt {w : World} {b n : Nat} {f : Nat → Nat} (h : MvAt w b n f) : b < w.heap.size := (Array.getElem?_eq_some_iff.1 h).1
theorem TrAt.lt {w : World} {b : Nat} {N : Int} {g : Nat → Nat} (h : TrAt w b N g) : b < w.heap.size := (Array.getElem?_eq_some_iff.1 h).1
theorem cell_blk {w : World} {b o : Nat} {a : Array Value} {t : TypeId} {m : Nat × Nat} (h : w.heap[b]? = some (.cells a t m)) : w.cell? ⟨b, o, none⟩ = a[o]? := cell_of_row w b o a t m h
theorem MvAt.cellN {w : World} {b n : Nat} {f : Nat → Nat} (h : MvAt w b n f) : w.cell? ⟨b, 0, none⟩ = some (.int .i64 (n : Int)) := (cell_blk h).trans (mvC_n n f)
theorem MvAt.cell {w : World} {b n : Nat} {f : Nat → Nat} (h : MvAt w b n f) {i : Nat} (hi : i < 64) : w.cell? ⟨b, i + 1, none⟩ = some (.int .u8 (f i : Nat)) := (cell_blk h).trans (mvC_get n f hi)
theorem MvAt.cell' {w : World} {b n : Nat} {f : Nat → Nat} (h : MvAt w b n f) {i : Nat} (hi : i < 64) : w.cell? ⟨b, 1 + i, none⟩ = some (.int .u8 (f i : Nat)) := by rw [Nat.add_comm]; exact h.cell hi
theorem frozen_blk {w : World} {b : Nat} {a : Array Value} {t : TypeId} (h : w.heap[b]? = some (.cells a t (0, 0))) (o : Nat) : w.frozen? ⟨b, o, none⟩ = false := by
  simp [World.frozen?, h]
theorem MvAt.frozen {w : World} {b n : Nat} {f : Nat → Nat} (h : MvAt w b n f) (o : Nat) : w.frozen? ⟨b, o, none⟩ = false := frozen_blk h o
theorem TrAt.frozen {w : World} {b : Nat} {N : Int} {g : Nat → Nat} (h : TrAt w b N g) (o : Nat) : w.frozen? ⟨b, o, none⟩ = false := frozen_blk h o
theorem TrAt.cellN {w : World} {b : Nat} {N : Int} {g : Nat → Nat} (h : TrAt w b N g) : w.cell? ⟨b, 0, none⟩ = some (.int .i64 N) := (cell_blk h).trans (trC_n N g)
theorem TrAt.cell {w : World} {b : Nat} {N : Int} {g : Nat → Nat} (h : TrAt w b N g) {k : Nat} (hk : k < 7) : w.cell? ⟨b, k + 1, none⟩ = some (.int .u64 (g k : Nat)) := (cell_blk h).trans (trC_get N g hk)
theorem TrAt.cell' {w : World} {b : Nat} {N : Int} {g : Nat → Nat} (h : TrAt w b N g) {k : Nat} (hk : k < 7) : w.cell? ⟨b, 1 + k, none⟩ = some (.int .u64 (g k : Nat)) := by rw [Nat.add_comm]; exact h.cell hk
theorem heap_set_same {w : World} {b o : Nat} {a : Array Value} {t : TypeId} {m : Nat × Nat} {v : Value} (h : w.heap[b]? = some (.cells a t m)) : (w.setCell ⟨b, o, none⟩ v).heap[b]? = some (.cells (a.setIfInBounds o v) t m) := by
  simp only [World.setCell]
  rw [Array.getElem?_modify, if_pos rfl, h]
  rfl
theorem MvAt.set {w : World} {b n : Nat} {f : Nat → Nat} (h : MvAt w b n f) {i : Nat} (v : Nat) (hi : i < 64) : MvAt (w.setCell ⟨b, i + 1, none⟩ (.int .u8 (v : Int))) b n (fun j => if j = i then v else f j) := by
  unfold MvAt
  rw [← mvC_set n f v hi]
  exact heap_set_same h
theorem MvAt.set' {w : World} {b n : Nat} {f : Nat → Nat} (h : MvAt w b n f) {i : Nat} (v : Nat) (hi : i < 64) : MvAt (w.setCell ⟨b, 1 + i, none⟩ (.int .u8 (v : Int))) b n (fun j => if j = i then v else f j) := by
  rw [Nat.add_comm]; exact h.set v hi
theorem MvAt.setN {w : World} {b n : Nat} {f : Nat → Nat} (h : MvAt w b n f) (m : Nat) : MvAt (w.setCell ⟨b, 0, none⟩ (.int .i64 (m : Int))) b m f := by
  unfold MvAt
  rw [← mvC_setN n m f]
  exact heap_set_same h
theorem TrAt.set {w : World} {b : Nat} {N : Int} {g : Nat → Nat} (h : TrAt w b N g) {k : Nat} (v : Nat) (hk : k < 7) : TrAt (w.setCell ⟨b, k + 1, none⟩ (.int .u64 (v : Int))) b N (fun j => if j = k then v else g j) := by
  unfold TrAt
  rw [← trC_set N g v hk]
  exact heap_set_same h
theorem TrAt.set' {w : World} {b : Nat} {N : Int} {g : Nat → Nat} (h : TrAt w b N g) {k : Nat} (v : Nat) (hk : k < 7) : TrAt (w.setCell ⟨b, 1 + k, none⟩ (.int .u64 (v : Int))) b N (fun j => if j = k then v else g j) := by
  rw [Nat.add_comm]; exact h.set v hk
theorem MvAt.congr {w : World} {b n : Nat} {f g : Nat → Nat} (h : MvAt w b n f) (e : ∀ i, i < 64 → f i = g i) : MvAt w b n g := by
  unfold MvAt at h ⊢
  rw [h, mvC_congr e]
theorem TrAt.congr {w : World} {b : Nat} {N : Int} {f g : Nat → Nat} (h : TrAt w b N f) (e : ∀ k, k < 7 → f k = g k) : TrAt w b N g := by
  unfold TrAt at h ⊢
  rw [h, trC_congr e]
theorem MvAt.of {w w' : World} {b n : Nat} {f : Nat → Nat} (h : MvAt w b n f) (e : w'.heap[b]? = w.heap[b]?) : MvAt w' b n f := by unfold MvAt at h ⊢; rw [e, h]
theorem TrAt.of {w w' : World} {b : Nat} {N : Int} {g : Nat → Nat} (h : TrAt w b N g) (e : w'.heap[b]? = w.heap[b]?) : TrAt w' b N g := by unfold TrAt at h ⊢; rw [e, h]
theorem heap_set_oth {w : World} {b b' o : Nat} {v : Value} (hn : b ≠ b') : (w.setCell ⟨b', o, none⟩ v).heap[b]? = w.heap[b]? := by
  simp only [World.setCell]
  rw [Array.getElem?_modify, if_neg (by intro q; exact hn q.symm)]
theorem heap_allo {w : World} {b : Nat} (h : b < w.heap.size) (o : Obj) : (w.alloc o).heap[b]? = w.heap[b]? := by
  simp only [World.alloc]
  rw [Array.getElem?_push_lt h, Array.getElem?_eq_getElem h]
theorem heap_last (w : World) (o : Obj) : (w.alloc o).heap[w.heap.size]? = some o := heap_alloc_new w o
theorem zeroC : (mvC 0 fun _ => 0).toList = .int .i64 0 :: List.replicate 64 (.int .u8 0) := by simp [mvC]; rfl
theorem Try.info_mv0 : (Try.prog.info? 79).map (fun i => (i.zero, i.size)) = some (some (.agg (mvC 0 fun _ => 0)), 65) := by kernel_rfl
theorem Try.zero_mv (w : World) : (zeroValue 79).run Try.prog w = .ok (.agg (mvC 0 fun _ => 0)) w := (zero_of_info Try.info_mv0).1 w
theorem Try.info_mv : (Try.prog.info? 79).map (·.size) = some 65 := by kernel_rfl
theorem Try.info_tr : (Try.prog.info? 26).map (·.size) = some 8 := by kernel_rfl
/-- A whole row into its block, out of it, in the form in which the walk meets it. -/
theorem st_row {w : World} {b : Nat} {t : TypeId} {old cs : Array Value} (h : w.heap[b]? = some (.cells old t (0, 0))) (ho : old.size = cs.size) (h1 : cs.all (·.oneCell') = true) :
    (storeCells ⟨b, 0, none⟩ cs.toList 0).run Try.prog w = .ok () (w.setRow b cs) := by
  have := run_storeCells_from (P := Try.prog) b t cs.toList 0 old w h (by simp; omega) (fun v hv => (Array.all_eq_true_iff_forall_mem.1 h1) v (by simpa using hv))
  simpa using this
theorem ld_row {w : World} {b : Nat} {t : TypeId} {cs : Array Value} {fr : Nat × Nat} (h : w.heap[b]? = some (.cells cs t fr)) {n : Nat} (hn : cs.size = n) : (loadCellsFrom ⟨b, 0, none⟩ 0 n #[]).run Try.prog w = .ok cs w := by
  subst hn
  have := run_loadCells_list (P := Try.prog) w ⟨b, 0, none⟩ cs.toList (fun j v hv => by
    have hadd : (⟨b, 0, none⟩ : Addr).add j = ⟨b, j, none⟩ := by unfold Addr.add; split <;> simp_all
    rw [hadd, cell_of_row _ _ j cs t fr h]
    simpa using hv)
  simpa [loadCells] using this
theorem ld_mv {w : World} {b n : Nat} {f : Nat → Nat} (h : MvAt w b n f) : (loadCellsFrom ⟨b, 0, none⟩ 0 65 #[]).run Try.prog w = .ok (mvC n f) w := ld_row h (mvC_size n f)
theorem st_mv {w : World} {b n m : Nat} {f g : Nat → Nat} (h : MvAt w b n f) : (storeCells ⟨b, 0, none⟩ (mvC m g).toList 0).run Try.prog w = .ok () (w.setRow b (mvC m g)) := st_row h (by rw [mvC_size, mvC_size]) (mvC_one m g)
theorem st_mvN {w : World} {b n : Nat} {f : Nat → Nat} (h : MvAt w b 0 f) : (storeCells ⟨b, 0, none⟩ ((mvC 0 f).toList.set 0 (.int .i64 (n : Int))) 0).run Try.prog w = .ok () (w.setRow b (mvC n f)) := by
  have e : (mvC 0 f).toList.set 0 (.int .i64 (n : Int)) = (mvC n f).toList := by rw [← mvC_setN 0 n f, Array.toList_setIfInBounds]
  rw [e]
  exact st_mv h
theorem st_mvNew (w : World) (n : Nat) : (storeCells ⟨w.heap.size, 0, none⟩ ((mvC 0 fun _ => 0).toList.set 0 (.int .i64 (n : Int))) 0).run Try.prog (w.alloc (.cells (mvC 0 fun _ => 0) 79)) = .ok () (w.alloc (.cells (mvC n fun _ => 0) 79)) := by
  rw [st_mvN (f := fun _ => 0) (heap_alloc_new w _), World.setRow_alloc_new]
theorem MvAt.row {w : World} {b n m : Nat} {f g : Nat → Nat} (h : MvAt w b n f) : MvAt (w.setRow b (mvC m g)) b m g := setRow_heap w b _ _ _ _ h
theorem below_row {B b : Nat} {w w' : World} {cs : Array Value} (h : Below B w w') (hb : B ≤ b) : Below B w (w'.setRow b cs) :=
  ⟨h.os, h.tape, h.output, by rw [size_setRow]; exact h.size, fun j hj => (setRow_other w' b j _ (by omega)).trans (h.block j hj)⟩
theorem results_mv {fn : Func} {p : Tmp} (h : fn.results = #[.cell p 79]) {tmps : Array Value} {b n : Nat} {f : Nat → Nat} {w : World} (hp : tmps.getD p undef = .pointer (some ⟨b, 0, none⟩)) (hc : MvAt w b n f) :
    (results fn tmps).run Try.prog w = .ok (mvV n f) w :=
  results_cell_row h tmps w b 79 (mvC n f) (0, 0) _ hp hc Try.underlying79 rfl (by rw [Try.info_mv, mvC_size])
end Go.Proofs.Ytihjhkbbpphocaa
