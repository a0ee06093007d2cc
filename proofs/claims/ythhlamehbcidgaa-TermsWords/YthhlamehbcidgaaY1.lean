/- Small facts on memory. -/
import Derived.Test.YthhlamehbcidgaaRows
import Derived.WalkKit
import Derived.Lib.UnsafeStr
import Derived.Deep.RegionWith
import Derived.Maps.AppendAt
import Derived.Deep.AppendLies
import Derived.Deep.RegionHeld3
import Derived.Deep.Cut
import Derived.BigQuiet
namespace Go.Proofs.Ythhlamehbcidgaa
open Go Go.RowKit Go.Lib
set_option linter.unusedVariables false

theorem heap_last (w : World) (o : Obj) : (w.alloc o).heap[w.heap.size]? = some o := heap_alloc_new w o
theorem heap_allo {w : World} {b : Nat} (h : b < w.heap.size) (o : Obj) : (w.alloc o).heap[b]? = w.heap[b]? := by
  simp only [World.alloc]
  rw [Array.getElem?_push_lt h, Array.getElem?_eq_getElem h]
theorem below_cell {w w' : World} {B g o : Nat} (h : Below B w w') (hg : g < B) : w'.cell? ⟨g, o, none⟩ = w.cell? ⟨g, o, none⟩ := by
  have := h.cell (p := ⟨g, o, none⟩) hg
  exact this
theorem go_on {w a b : World} (h : Below w.heap.size w a) (k : Below a.heap.size a b) : Below w.heap.size w b := h.trans (k.mono h.size)
theorem below_new (w : World) (o : Obj) : Below w.heap.size w (w.alloc o) := (Below.refl _ _).alloc (Nat.le_refl _) _
theorem own_shape {w : World} {base : Nat} {e : TypeId} {size n : Nat} {v : Value} {xs : List Value} (h : w.ownsRow base e size v n xs) : ∃ a cap, v = .slice a n cap := by
  obtain ⟨_, h⟩ := h
  rcases h with ⟨rfl, hn⟩ | ⟨g, cap, cur, rfl, _⟩
  · exact ⟨none, 0, by rw [hn]⟩
  · exact ⟨_, _, rfl⟩
theorem own_mono {w : World} {base base' : Nat} {e : TypeId} {size n : Nat} {v : Value} {xs : List Value} (h : w.ownsRow base e size v n xs) (hb : base' ≤ base) : w.ownsRow base' e size v n xs := by
  obtain ⟨a, b⟩ := h
  refine ⟨a, ?_⟩
  rcases b with b | ⟨g, cap, cur, e, r, r2⟩
  · exact .inl b
  · exact .inr ⟨g, cap, cur, e, Nat.le_trans hb r, r2⟩
theorem own_below {w w' : World} {base : Nat} {e : TypeId} {size n : Nat} {v : Value} {xs : List Value} (h : w.ownsRow base e size v n xs) (hb : Below w.heap.size w w') : w'.ownsRow base e size v n xs := by
  obtain ⟨a, b⟩ := h
  refine ⟨a, ?_⟩
  rcases b with b | ⟨g, cap, cur, e1, r, r2, r3⟩
  · exact .inl b
  · exact .inr ⟨g, cap, cur, e1, r, by rw [hb.block g (Array.getElem?_eq_some_iff.1 r2).1]; exact r2, r3⟩
theorem own_blk {w : World} {base : Nat} {e : TypeId} {size n : Nat} {v : Value} {xs : List Value} (h : w.ownsRow base e size v n xs) {b : Nat} (hb : v.ownBlock = some b) : base ≤ b ∧ ∃ cur, w.heap[b]? = some (.cells cur e (0, 0)) := by
  rcases h.2 with ⟨rfl, _⟩ | ⟨g, cap, cur, rfl, hg, hgg, _⟩
  · simp [Value.ownBlock] at hb
  · simp only [Value.ownBlock, Option.some.injEq] at hb
    subst hb
    exact ⟨hg, cur, hgg⟩
theorem own_keep {w w' : World} {base : Nat} {e : TypeId} {size n : Nat} {v : Value} {xs : List Value} (h : w.ownsRow base e size v n xs) (hk : ∀ b cur, v.ownBlock = some b → w.heap[b]? = some (.cells cur e (0, 0)) → w'.heap[b]? = w.heap[b]?) : w'.ownsRow base e size v n xs := by
  obtain ⟨a, b⟩ := h
  refine ⟨a, ?_⟩
  rcases b with b | ⟨g, cap, cur, rfl, r1, r2, r3⟩
  · exact .inl b
  · exact .inr ⟨g, cap, cur, rfl, r1, (hk g cur rfl r2).trans r2, r3⟩
theorem heap_set {w : World} {b j : Nat} {v : Value} {arr : Array Value} {t : TypeId} (h : w.heap[b]? = some (.cells arr t (0, 0))) : (w.setCell ⟨b, j, none⟩ v).heap[b]? = some (.cells (arr.setIfInBounds j v) t (0, 0)) := by
  simp only [World.setCell]
  rw [Array.getElem?_modify, if_pos rfl, h]
  rfl
theorem heap_set_other {w : World} {b c j : Nat} {v : Value} (h : c ≠ b) : (w.setCell ⟨b, j, none⟩ v).heap[c]? = w.heap[c]? := Below.heap_setCell _ _ _ _ h
theorem cell_of {w : World} {b j : Nat} {arr : Array Value} {t : TypeId} (h : w.heap[b]? = some (.cells arr t (0, 0))) : w.cell? ⟨b, j, none⟩ = arr[j]? := by simp [World.cell?, h]
theorem froz_of {w : World} {b j : Nat} {arr : Array Value} {t : TypeId} (h : w.heap[b]? = some (.cells arr t (0, 0))) : w.frozen? ⟨b, j, none⟩ = false := by simp [World.frozen?, h]
theorem frozen_set {y : World} {g o p : Nat} {u : Value} : (y.setCell ⟨g, o, none⟩ u).frozen? ⟨g, p, none⟩ = y.frozen? ⟨g, p, none⟩ := by
  simp only [World.frozen?, World.setCell]
  rw [Array.getElem?_modify, if_pos rfl]
  cases hq : y.heap[g]? with
  | none => rfl
  | some ob => cases ob <;> rfl
structure Only (S : Nat → Prop) (w w' : World) : Prop where
  zero : Below 0 w w'
  block : ∀ j, j < w.heap.size → ¬ S j → w'.heap[j]? = w.heap[j]?
theorem Only.of {S : Nat → Prop} {w w' : World} (h : Below w.heap.size w w') : Only S w w' := ⟨h.mono (Nat.zero_le _), fun j hj _ => h.block j hj⟩
theorem Only.trans {S : Nat → Prop} {a b c : World} (h : Only S a b) (g : Only S b c) : Only S a c :=
  ⟨h.zero.trans g.zero, fun j hj hs => (g.block j (Nat.lt_of_lt_of_le hj h.zero.size) hs).trans (h.block j hj hs)⟩
theorem Only.size {S : Nat → Prop} {w w' : World} (h : Only S w w') : w.heap.size ≤ w'.heap.size := h.zero.size
theorem Only.below {S : Nat → Prop} {B : Nat} {w0 w w' : World} (h : Only S w w') (hb : Below B w0 w) (hB : B ≤ w0.heap.size) (hS : ∀ j, S j → B ≤ j) : Below B w0 w' :=
  ⟨h.zero.os.trans hb.os, h.zero.tape.trans hb.tape, h.zero.output.trans hb.output, Nat.le_trans hb.size h.size, fun j hj => (h.block j (by have := hb.size; omega) (fun q => by have := hS j q; omega)).trans (hb.block j hj)⟩
theorem Only.mono {S T : Nat → Prop} {w w' : World} (h : Only S w w') (hS : ∀ j, j < w.heap.size → S j → T j) : Only T w w' := ⟨h.zero, fun j hj ht => h.block j hj (fun q => ht (hS j hj q))⟩
theorem Only.grown {S : Nat → Prop} {w w' : World} {r : Option Nat} (h : w.grownBy w' r) (hS : ∀ j, r = some j → S j) : Only S w w' :=
  ⟨(Below.refl 0 w).grown h (by omega) (fun b hb => Nat.zero_le _), fun j hj hs => h.block j hj (fun e => hs (hS j e.symm))⟩
theorem Only.set {S : Nat → Prop} {w w' : World} (h : Only S w w') {b o : Nat} {v : Value} (hb : S b) : Only S w (w'.setCell ⟨b, o, none⟩ v) :=
  ⟨h.zero.setCell (p := ⟨b, o, none⟩) (Nat.zero_le _) v, fun j hj hs => (heap_set_other (fun e => hs (by rw [e]; exact hb))).trans (h.block j hj hs)⟩
theorem own_only {S : Nat → Prop} {w w' : World} {base : Nat} {e : TypeId} {size n : Nat} {v : Value} {xs : List Value} (h : w.ownsRow base e size v n xs) (g : Only S w w') (hs : ∀ b, v.ownBlock = some b → ¬ S b) : w'.ownsRow base e size v n xs :=
  own_keep h (fun b cur hb hc => g.block b (Array.getElem?_eq_some_iff.1 hc).1 (hs b hb))
theorem cell_at {w : World} {b j : Nat} {arr : Array Value} {t : TypeId} {f : Nat × Nat} {v : Value} (h : w.heap[b]? = some (.cells arr t f)) (hv : arr[j]? = some v) : w.cell? ⟨b, j, none⟩ = some v := by rw [cell_of_row _ _ _ _ _ _ h]; exact hv
end Go.Proofs.Ythhlamehbcidgaa
