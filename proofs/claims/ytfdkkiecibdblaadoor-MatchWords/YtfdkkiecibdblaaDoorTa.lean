/- Small general facts; nodes, and lists of nodes as they lie in memory; the table of parts. -/
import Derived.Test.YtfdkkiecibdblaaDoorRows
import Derived.WalkKit
import Derived.IntWalk
import Derived.Lib.UnsafeStr
import Derived.Deep.RegionWith
import Derived.Deep.QuietTactic
import Derived.BigQuiet
import Derived.WalkLawsBesides
import Derived.Laws.ResultCell
import Derived.Maps.AppendAt
namespace Go.Proofs.YtfdkkiecibdblaaDoor
open Go.RowKit

theorem ret_int {k : IntKind} {a b : Int} (h : a = b) : Ending.returned (.int k a) = .returned (.int k b) := by rw [h]
theorem ret_bool {a b : Bool} (h : a = b) : Ending.returned (.bool a) = .returned (.bool b) := by rw [h]
theorem go_on {w a b : World} (h : Below w.heap.size w a) (k : Below a.heap.size a b) : Below w.heap.size w b := h.trans (k.mono h.size)
theorem below_cell {w w' : World} {B g o : Nat} (h : Below B w w') (hg : g < B) : w'.cell? ⟨g, o, none⟩ = w.cell? ⟨g, o, none⟩ := by
  simp only [World.cell?, h.block g hg]
theorem drewN_below (w : World) (q : Nat) : Below w.heap.size w (w.drewN q) := ⟨rfl, rfl, rfl, Nat.le_refl _, fun _ _ => rfl⟩
theorem below_drewN {B : Nat} {w W : World} (h : Below B w W) (q : Nat) : Below B w (W.drewN q) := ⟨h.os, h.tape, h.output, h.size, h.block⟩
/-- Block b holds the cells arr. -/
structure RowAt (w : World) (b : Nat) (arr : Array Value) : Prop where
  lt : b < w.heap.size
  cell : ∀ o, w.cell? ⟨b, o, none⟩ = arr[o]?
theorem RowAt.stay {w w' : World} {b : Nat} {arr : Array Value} (r : RowAt w b arr) (h : Below w.heap.size w w') : RowAt w' b arr :=
  ⟨Nat.lt_of_lt_of_le r.lt h.size, fun o => by rw [h.cell (p := ⟨b, o, none⟩) r.lt, r.cell]⟩
theorem RowAt.alloc {w : World} {b : Nat} {arr : Array Value} (r : RowAt w b arr) (O : Obj) : RowAt (w.alloc O) b arr :=
  r.stay ((Below.refl _ _).alloc (Nat.le_refl _) O)
theorem RowAt.last (w : World) (arr : Array Value) (t : TypeId) : RowAt (w.alloc (.cells arr t)) w.heap.size arr :=
  ⟨by simp, fun o => by simp only [World.cell?, heap_alloc_new]; rfl⟩

/-! ### Nodes -/
/-- A node: its kind and its sign. -/
abbrev Nd := Int × Int
def ndV (n : Nd) : Value := .agg #[.int .i64 n.1, .int .u8 n.2]
/-- What a node can be: its sign is a byte. -/
def Byt (n : Nd) : Prop := 0 ≤ n.2 ∧ n.2 ≤ 255
/-- The list v reads as ts. -/
def NReads (w : World) (v : Value) (ts : List Nd) : Prop :=
  ∃ a cap, v = .slice a ts.length cap ∧ ∀ i, i < ts.length → ∃ g o, a = some ⟨g, o, none⟩ ∧ g < w.heap.size ∧
    w.cell? ⟨g, o + i * 2, none⟩ = some (.int .i64 (ts.getD i (0, 0)).1) ∧ w.cell? ⟨g, o + i * 2 + 1, none⟩ = some (.int .u8 (ts.getD i (0, 0)).2)
theorem NReads.stay {w w' : World} {v : Value} {ts : List Nd} (h : NReads w v ts) (hb : Below w.heap.size w w') : NReads w' v ts := by
  obtain ⟨a, c, e, hr⟩ := h
  refine ⟨a, c, e, fun i hi => ?_⟩
  obtain ⟨g, o, e, hg, h1, h2⟩ := hr i hi
  exact ⟨g, o, e, Nat.lt_of_lt_of_le hg hb.size, by rw [below_cell hb hg]; exact h1, by rw [below_cell hb hg]; exact h2⟩
/-- How many parts a kind has. -/
def arity (k : Int) : Nat := if k = 5 ∨ k = 6 ∨ k = 7 then 2 else if k = 8 ∨ k = 9 then 1 else 0
theorem arity_le (k : Int) : arity k ≤ 2 := by unfold arity; split <;> (try split) <;> omega
def isLet (s : Int) : Bool := decide (97 ≤ s ∧ s ≤ 104)
/-- Is it a node? -/
def good (n : Nd) : Bool := if n.1 = 3 then isLet n.2 else decide (1 ≤ n.1 ∧ n.1 ≤ 9 ∧ n.2 = 0)
theorem good_kind {n : Nd} (h : good n = true) : 1 ≤ n.1 ∧ n.1 ≤ 9 := by
  unfold good at h
  by_cases h3 : n.1 = 3
  · omega
  · rw [if_neg h3] at h; simp at h; omega
/-- The table of parts lies where the program lays it. -/
def PTab (w : World) : Prop := ∀ j : Nat, j < 10 → w.cell? ⟨1, j, none⟩ = some (.int .i64 (arity j : Nat))
theorem PTab.pos {w : World} (h : PTab w) : 1 < w.heap.size := World.block_lt_of_cell? w _ (h 0 (by decide))
theorem PTab.stay {w w' : World} (h : PTab w) (hb : Below w.heap.size w w') : PTab w' := fun j hj => (below_cell hb h.pos).trans (h j hj)
theorem PTab.below {n₀ : Nat} {A B : World} (h : PTab A) (hb : Below n₀ A B) (h0 : 1 < n₀) : PTab B := fun j hj => (below_cell hb h0).trans (h j hj)

/-! ### The error of a list -/
/-- How many trees stand free behind the first nodes; none: it is no beginning of a tree. -/
def frees : List Nd → Option Nat → Option Nat
  | [], c => c
  | n :: ts, c => frees ts (c.bind fun h => if good n ∧ arity n.1 ≤ h then some (h - arity n.1 + 1) else none)
def freeN (ts : List Nd) : Option Nat := frees ts (some 0)
theorem frees_append (a b : List Nd) (c : Option Nat) : frees (a ++ b) c = frees b (frees a c) := by
  induction a generalizing c with
  | nil => rfl
  | cons n a ih => simp only [List.cons_append, frees]; rw [ih]
theorem frees_none (a : List Nd) : frees a none = none := by
  induction a with
  | nil => rfl
  | cons n a ih => simp only [frees, Option.bind_none]; exact ih
theorem free_take {ts : List Nd} {i : Nat} (h : i < ts.length) : freeN (ts.take (i + 1)) = (freeN (ts.take i)).bind fun h => if good (ts.getD i (0, 0)) ∧ arity (ts.getD i (0, 0)).1 ≤ h then some (h - arity (ts.getD i (0, 0)).1 + 1) else none := by
  unfold freeN
  rw [List.take_add_one, frees_append]
  simp only [List.getElem?_eq_getElem h, Option.toList_some, frees, List.getD_eq_getElem?_getD, Option.getD_some]
theorem free_le (ts : List Nd) : ∀ i, i ≤ ts.length → ∀ f, freeN (ts.take i) = some f → f ≤ i
  | 0, _, f, h => by simp [freeN, frees] at h; omega
  | i + 1, hi, f, h => by
    rw [free_take (by omega)] at h
    cases hc : freeN (ts.take i) with
    | none => rw [hc] at h; simp at h
    | some c =>
      have := free_le ts i (by omega) c hc
      rw [hc] at h
      simp only [Option.bind_some] at h
      split at h
      · simp at h; omega
      · cases h
theorem free_stop {ts : List Nd} {i : Nat} (h : freeN (ts.take i) = none) : freeN ts = none := by
  have e : ts = ts.take i ++ ts.drop i := (List.take_append_drop i ts).symm
  unfold freeN at h ⊢
  rw [e, frees_append, h, frees_none]
/-- The tree's error. -/
def wrong (ts : List Nd) : Int := if 4000 < ts.length then 6 else if freeN ts = some 1 then 0 else 30

end Go.Proofs.YtfdkkiecibdblaaDoor
