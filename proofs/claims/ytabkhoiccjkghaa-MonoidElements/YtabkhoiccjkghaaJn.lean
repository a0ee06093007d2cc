/- auto.firstWays: for each state the first place of Next where it stands. -/
import Derived.Test.YtabkhoiccjkghaaJm
namespace Go.Proofs.Ytabkhoiccjkghaa
open Go Go.RowKit Go.Shelf Go.Lib
set_option linter.unusedVariables false

attribute [local go_sem] Oper.semAt_some

/-- First places from p on. -/
def fwL (N : Nat) (n : List Nat) (p : Nat) : List Nat := (List.range N).map fun s => if s ∈ n.drop p then p + (n.drop p).idxOf s else 0
theorem fwL_len (N : Nat) (n : List Nat) (p : Nat) : (fwL N n p).length = N := by simp [fwL]
theorem fwL_start (N : Nat) (n : List Nat) : fwL N n n.length = List.replicate N 0 := by
  unfold fwL
  rw [List.drop_length]
  apply List.ext_getElem?
  intro i
  by_cases h : i < N
  · simp [h]
  · simp [h]
theorem fwL_step (N : Nat) (n : List Nat) (p x : Nat) (hp : n[p]? = some x) (hx : x < N) : fwL N n p = (fwL N n (p + 1)).set x p := by
  have hl := (List.getElem?_eq_some_iff.1 hp).1
  have e : n.drop p = x :: n.drop (p + 1) := by
    rw [List.drop_eq_getElem_cons hl]
    rw [List.getElem?_eq_getElem hl, Option.some.injEq] at hp
    rw [hp]
  apply List.ext_getElem?
  intro i
  rw [List.getElem?_set]
  unfold fwL
  by_cases h : i < N
  · simp only [List.getElem?_map, List.getElem?_range h, Option.map_some, List.length_map, List.length_range]
    by_cases c : x = i
    · subst c
      rw [if_pos rfl, if_pos h, e]
      simp
    · rw [if_neg c, e]
      congr 1
      by_cases c2 : i ∈ n.drop (p + 1)
      · rw [if_pos (List.mem_cons_of_mem _ c2), if_pos c2, List.idxOf_cons]
        have : (x == i) = false := by simpa using c
        rw [this]
        simp only [cond_false]
        omega
      · rw [if_neg (fun h2 => ?_), if_neg c2]
        rcases List.mem_cons.1 h2 with h2 | h2
        · exact c h2.symm
        · exact c2 h2
  · rw [List.getElem?_eq_none (by simp; omega)]
    by_cases c : x = i
    · omega
    · rw [if_neg c, List.getElem?_eq_none (by simp; omega)]
theorem fwL_at (N : Nat) (n : List Nat) (s : Nat) (hs : s < N) (hm : s ∈ n) : (fwL N n 0)[s]? = some (n.idxOf s) := by
  unfold fwL
  simp [hs, hm]
/-- Where W' differs from W is at block M alone, and above. -/
structure Ex1 (M : Nat) (W W' : World) : Prop where
  os : W'.os = W.os
  tape : W'.tape = W.tape
  output : W'.output = W.output
  size : W.heap.size ≤ W'.heap.size
  block : ∀ b, b < W.heap.size → b ≠ M → W'.heap[b]? = W.heap[b]?
theorem Ex1.refl (M : Nat) (W : World) : Ex1 M W W := ⟨rfl, rfl, rfl, Nat.le_refl _, fun _ _ _ => rfl⟩
theorem Ex1.grown {M : Nat} {W W1 W2 : World} {row : Option Nat} (h : Ex1 M W W1) (hg : W1.grownBy W2 row) (hr : ∀ k, row = some k → W.heap.size ≤ k) : Ex1 M W W2 :=
  ⟨hg.os.trans h.os, hg.tape.trans h.tape, hg.output.trans h.output, Nat.le_trans h.size hg.size, fun b hb hne => (hg.block b (Nat.lt_of_lt_of_le hb h.size) (fun e => by have := hr b e.symm; omega)).trans (h.block b hb hne)⟩
theorem Ex1.set {M j : Nat} {W W1 : World} (h : Ex1 M W W1) (v : Value) : Ex1 M W (W1.setCell ⟨M, j, none⟩ v) :=
  ⟨h.os, h.tape, h.output, by simpa [World.setCell] using h.size, fun b hb hne => (heap_set_other hne).trans (h.block b hb hne)⟩
theorem Ex1.below {M B : Nat} {w W W1 : World} (h : Ex1 M W W1) (hb : Below B w W) (hM : B ≤ M) (hB : B ≤ W.heap.size) : Below B w W1 :=
  ⟨h.os.trans hb.os, h.tape.trans hb.tape, h.output.trans hb.output, Nat.le_trans hb.size h.size, fun b hlt => (h.block b (by have := hb.size; omega) (by omega)).trans (hb.block b hlt)⟩

end Go.Proofs.Ytabkhoiccjkghaa
