/- The sizes of trees, as a stack tells them; contract of tree.sizes. -/
import Derived.Test.YtfdkkiecibdblaaDoorTb
import Derived.Test.YtfdkkiecibdblaaDoorTd
import Derived.Laws.OwnMore
namespace Go.Proofs.YtfdkkiecibdblaaDoor
open Go.RowKit

/-- The sizes of the trees that stand free, the last one first. -/
def stk : List Nd → List Nat → List Nat
  | [], s => s
  | n :: ts, s => stk ts (match arity n.1, s with
    | 0, s => 1 :: s
    | 1, a :: s => (1 + a) :: s
    | 2, a :: b :: s => (1 + a + b) :: s
    | _, s => s)
def stkN (ts : List Nd) : List Nat := stk ts []
def push (n : Nd) (s : List Nat) : List Nat := match arity n.1, s with
    | 0, s => 1 :: s
    | 1, a :: s => (1 + a) :: s
    | 2, a :: b :: s => (1 + a + b) :: s
    | _, s => s
theorem stk_append (a b : List Nd) (s : List Nat) : stk (a ++ b) s = stk b (stk a s) := by
  induction a generalizing s with
  | nil => rfl
  | cons n a ih => simp only [List.cons_append, stk]; rw [ih]
theorem stk_take {ts : List Nd} {i : Nat} (h : i < ts.length) : stkN (ts.take (i + 1)) = push (ts.getD i (0, 0)) (stkN (ts.take i)) := by
  unfold stkN
  rw [List.take_add_one, stk_append]
  simp only [List.getElem?_eq_getElem h, Option.toList_some, stk, List.getD_eq_getElem?_getD, Option.getD_some]
  rfl
/-- L tells, at the places where free trees end, their sizes. -/
def Ends (L : List Nat) : Nat → List Nat → Prop
  | p, [] => p = 0
  | p, s :: r => 1 ≤ s ∧ s ≤ p ∧ L[p - 1]? = some s ∧ Ends L (p - s) r
theorem Ends.mono {L M : List Nat} : ∀ {s : List Nat} {p : Nat}, Ends L p s → (∀ j, j < p → M[j]? = L[j]?) → Ends M p s
  | [], _, h, _ => h
  | _ :: _, p, ⟨h1, h2, h3, h4⟩, hm => ⟨h1, h2, by rw [hm (p - 1) (by omega)]; exact h3, Ends.mono h4 (fun j hj => hm j (by omega))⟩
/-- One node more: how many free trees there are, and their sizes. -/
theorem push_ends {n : Nd} {L : List Nat} {p f : Nat} {s : List Nat} (h : Ends L p s) (hs : s.length = f) (hf : arity n.1 ≤ f) :
    (push n s).length = f - arity n.1 + 1 ∧ ∃ v r, push n s = v :: r ∧ 1 ≤ v ∧ v ≤ p + 1 ∧ Ends L (p + 1 - v) r ∧
      ((arity n.1 = 0 ∧ v = 1) ∨ (arity n.1 = 1 ∧ ∃ a, L[p - 1]? = some a ∧ a + 1 ≤ p + 1 ∧ v = 1 + a ∧ 1 ≤ a) ∨ (arity n.1 = 2 ∧ ∃ a b, L[p - 1]? = some a ∧ 1 ≤ a ∧ 1 ≤ b ∧ L[p - 1 - a]? = some b ∧ v = 1 + a + b ∧ a + b ≤ p)) := by
  have hal := arity_le n.1
  have h3 : arity n.1 = 0 ∨ arity n.1 = 1 ∨ arity n.1 = 2 := by omega
  rcases h3 with h0 | h0 | h0
  · have e : push n s = 1 :: s := by unfold push; rw [h0]; rfl
    rw [e, h0]
    exact ⟨by simp [hs], 1, s, rfl, by omega, by omega, by simpa using h, .inl ⟨rfl, rfl⟩⟩
  · match s, hs, h with
    | a :: r, hs, ⟨h1, h2, h3, h4⟩ =>
      have e : push n (a :: r) = (1 + a) :: r := by unfold push; rw [h0]; rfl
      rw [e, h0]
      refine ⟨by simp at hs ⊢; omega, 1 + a, r, rfl, by omega, by omega, ?_, .inr (.inl ⟨rfl, a, h3, by omega, rfl, h1⟩)⟩
      rw [show p + 1 - (1 + a) = p - a by omega]
      exact h4
    | [], hs, _ => simp at hs; omega
  · match s, hs, h with
    | a :: b :: r, hs, ⟨h1, h2, h3, ⟨k1, k2, k3, k4⟩⟩ =>
      have e : push n (a :: b :: r) = (1 + a + b) :: r := by unfold push; rw [h0]; rfl
      rw [e, h0]
      refine ⟨by simp at hs ⊢; omega, 1 + a + b, r, rfl, by omega, by omega, ?_, .inr (.inr ⟨rfl, a, b, h3, h1, k1, ?_, rfl, by omega⟩)⟩
      · rw [show p + 1 - (1 + a + b) = p - a - b by omega]
        exact k4
      · rw [show p - 1 - a = p - a - 1 by omega]
        exact k3
    | [a], hs, _ => simp at hs; omega
    | [], hs, _ => simp at hs; omega

/-! ### A row of numbers in a block of its own -/
def iA (L : List Nat) : Array Value := (L.map fun (n : Nat) => Value.int .i64 (n : Int)).toArray
def IRow (w : World) (g : Nat) (L : List Nat) : Prop := w.heap[g]? = some (.cells (iA L) 3 (0, 0))
theorem IRow.lt {w : World} {g : Nat} {L : List Nat} (h : IRow w g L) : g < w.heap.size := (Array.getElem?_eq_some_iff.1 h).1
theorem IRow.get {w : World} {g i x : Nat} {L : List Nat} (h : IRow w g L) (hi : L[i]? = some x) : w.cell? ⟨g, i, none⟩ = some (.int .i64 (x : Int)) := by
  have h' : w.heap[g]? = some (.cells (iA L) 3 (0, 0)) := h
  simp [World.cell?, h', iA, hi]
theorem IRow.frozen {w : World} {g : Nat} {L : List Nat} (h : IRow w g L) (i : Nat) : w.frozen? ⟨g, i, none⟩ = false := by
  have h' : w.heap[g]? = some (.cells (iA L) 3 (0, 0)) := h
  simp [World.frozen?, h']
theorem IRow.set {w : World} {g i v : Nat} {L : List Nat} (h : IRow w g L) : IRow (w.setCell ⟨g, i, none⟩ (.int .i64 (v : Int))) g (L.set i v) := by
  have h' : w.heap[g]? = some (.cells (iA L) 3 (0, 0)) := h
  unfold IRow
  simp only [World.setCell]
  rw [Array.getElem?_modify, if_pos rfl, h']
  simp [iA, List.map_set]
theorem IRow.keep {w w' : World} {g : Nat} {L : List Nat} (h : IRow w g L) (hb : Below w.heap.size w w') : IRow w' g L := (hb.block g h.lt).trans h
theorem IRow.alloc {w : World} {g : Nat} {L : List Nat} (h : IRow w g L) (o : Obj) : IRow (w.alloc o) g L := h.keep ((Below.refl _ _).alloc (Nat.le_refl _) o)
theorem IRow.drew {w : World} {g : Nat} {L : List Nat} (h : IRow w g L) : IRow w.drew g L := h
theorem made_iA (n : Nat) : madeCells #[.int .i64 0] n = iA (List.replicate n 0) := by
  apply Array.ext_getElem?
  intro i
  unfold madeCells iA
  by_cases h : i < n
  · simp [h, Nat.mod_one]
  · simp [h]
theorem Tryd.info_int : (Tryd.prog.info? 3).map (fun i => (i.zero, i.size, i.bytes)) = some (some (.int .i64 0), 1, 8) := by kernel_rfl

/-- What stands ahead of round i of sizes. -/
structure SzAt (w : World) (g : Nat) (ts : List Nd) (i : Nat) (L : List Nat) (wr : World) : Prop where
  len : L.length = ts.length
  row : IRow wr g L
  ends : ∀ j, j ≤ i → Ends L j (stkN (ts.take j))
  below : Below w.heap.size w wr

theorem free_good {ts : List Nd} {i f : Nat} (h : freeN ts = some f) (hi : i < ts.length) : ∃ c, freeN (ts.take i) = some c ∧ good (ts.getD i (0, 0)) = true ∧ arity (ts.getD i (0, 0)).1 ≤ c ∧ freeN (ts.take (i + 1)) = some (c - arity (ts.getD i (0, 0)).1 + 1) := by
  have h1 : freeN (ts.take (i + 1)) ≠ none := fun h0 => by rw [free_stop h0] at h; cases h
  have h2 := free_take hi
  cases hc : freeN (ts.take i) with
  | none => rw [hc] at h2; exact absurd h2 h1
  | some c =>
    rw [hc, Option.bind_some] at h2
    by_cases hg : good (ts.getD i (0, 0)) = true ∧ arity (ts.getD i (0, 0)).1 ≤ c
    · rw [if_pos hg] at h2
      exact ⟨c, rfl, hg.1, hg.2, h2⟩
    · rw [if_neg hg] at h2
      exact absurd h2 h1

/-- How the size at a node's place comes about, part by part. -/
theorem steps {n : Nd} {L : List Nat} {i v : Nat} (h : (arity n.1 = 0 ∧ v = 1) ∨ (arity n.1 = 1 ∧ ∃ a, L[i - 1]? = some a ∧ a + 1 ≤ i + 1 ∧ v = 1 + a ∧ 1 ≤ a) ∨ (arity n.1 = 2 ∧ ∃ a b, L[i - 1]? = some a ∧ 1 ≤ a ∧ 1 ≤ b ∧ L[i - 1 - a]? = some b ∧ v = 1 + a + b ∧ a + b ≤ i)) :
    ∃ pv : Nat → Nat, pv 0 = 1 ∧ pv (arity n.1) = v ∧ ∀ j, j < arity n.1 → 1 ≤ pv j ∧ pv j ≤ i ∧ ∃ d, L[i - pv j]? = some d ∧ pv (j + 1) = pv j + d ∧ pv j + d ≤ i + 1 := by
  rcases h with ⟨h0, rfl⟩ | ⟨h0, a, ha, hb, rfl, hc⟩ | ⟨h0, a, b, ha, h1, h2, hb, rfl, hc⟩
  · exact ⟨fun _ => 1, rfl, rfl, fun j hj => by omega⟩
  · refine ⟨fun j => if j = 0 then 1 else 1 + a, rfl, by rw [h0]; rfl, fun j hj => ?_⟩
    obtain rfl : j = 0 := by omega
    exact ⟨by simp, by simp; omega, a, by simpa using ha, rfl, by simp; omega⟩
  · refine ⟨fun j => if j = 0 then 1 else if j = 1 then 1 + a else 1 + a + b, rfl, by rw [h0]; rfl, fun j hj => ?_⟩
    have : j = 0 ∨ j = 1 := by omega
    rcases this with rfl | rfl
    · exact ⟨by simp, by simp; omega, a, by simpa using ha, rfl, by simp; omega⟩
    · refine ⟨by simp, by simp; omega, b, ?_, rfl, by simp; omega⟩
      simp only [Nat.one_ne_zero, if_false, if_true]
      rw [show i - (1 + a) = i - 1 - a by omega]
      exact hb

end Go.Proofs.YtfdkkiecibdblaaDoor
