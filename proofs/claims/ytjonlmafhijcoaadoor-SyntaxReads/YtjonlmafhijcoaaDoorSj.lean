/- The printer: contract of syntax.Print. -/
import Derived.Test.YtjonlmafhijcoaaDoorSi
namespace Go.Proofs.YtjonlmafhijcoaaDoor
open Go Go.RowKit
set_option linter.unusedVariables false

def wrC : List Wr → List Value
  | [] => []
  | p :: l => .string p.1 :: .int .i64 (p.2 : Int) :: wrC l
theorem wrC_append (a b : List Wr) : wrC (a ++ b) = wrC a ++ wrC b := by
  induction a with
  | nil => rfl
  | cons p a ih => simp [wrC, ih]
theorem wrC_at (l : List Wr) (i : Nat) (h : i < l.length) : (wrC l)[i * 2]? = some (.string (l.getD i noWr).1) ∧ (wrC l)[i * 2 + 1]? = some (.int .i64 ((l.getD i noWr).2 : Int)) := by
  induction l generalizing i with
  | nil => simp at h
  | cons p l ih =>
    cases i with
    | zero => exact ⟨rfl, rfl⟩
    | succ i =>
      have := ih i (by simpa using h)
      rw [show (i + 1) * 2 = i * 2 + 1 + 1 by omega]
      simp only [wrC, List.getElem?_cons_succ, List.getD_cons_succ]
      exact this
theorem wrC_take (l : List Wr) (p : Nat) : (wrC l).take (p * 2) = wrC (l.take p) := by
  induction l generalizing p with
  | nil => simp [wrC]
  | cons x l ih =>
    cases p with
    | zero => simp [wrC]
    | succ p =>
      rw [show (p + 1) * 2 = p * 2 + 1 + 1 by omega]
      simp only [wrC, List.take_succ_cons, ih]
theorem own_wreads {w : World} {base : Nat} {a : Option Addr} {cap : Nat} {ws : List Wr} (h : w.ownsRow base 62 2 (.slice a ws.length cap) ws.length (wrC ws)) : WReads w (.slice a ws.length cap) ws := by
  by_cases h0 : ws.length = 0
  · have : ws = [] := List.eq_nil_of_length_eq_zero h0
    subst this
    exact ⟨a, cap, rfl, Nat.zero_le _, fun i hi => absurd hi (by simp)⟩
  · obtain ⟨_, h2⟩ := id h
    rcases h2 with ⟨_, h2⟩ | ⟨g, cp, cur, e1, _, hg, hc, _⟩
    · omega
    · simp only [Value.slice.injEq] at e1
      obtain ⟨rfl, _, rfl⟩ := e1
      refine ⟨_, cap, rfl, hc, fun i hi => ⟨g, 0, rfl, (Array.getElem?_eq_some_iff.1 hg).1, ?_, ?_⟩⟩
      · rw [Nat.zero_add, h.cellAt (i * 2) (by omega)]; exact (wrC_at ws i hi).1
      · rw [Nat.zero_add, h.cellAt (i * 2 + 1) (by omega)]; exact (wrC_at ws i hi).2
/-- What is written, node by node; none: it became too long. -/
def pstep (n : Nd) (ws : List Wr) : List Wr := ws.take (ws.length - arity n.1) ++ [(textF n ws, tight n.1)]
def runW : List Nd → List Wr → Option (List Wr)
  | [], ws => some ws
  | n :: ts, ws => if 1000 < (textF n ws).size then none else runW ts (pstep n ws)
theorem pstep_len (n : Nd) (ws : List Wr) : (pstep n ws).length = ws.length - arity n.1 + 1 := by simp [pstep]
def SmallW (ws : List Wr) : Prop := ∀ i, (ws.getD i noWr).1.size ≤ 1000
theorem small_step {n : Nd} {ws : List Wr} (h : SmallW ws) (ht : ¬ 1000 < (textF n ws).size) : SmallW (pstep n ws) := by
  intro i
  unfold pstep
  rw [List.getD_eq_getElem?_getD]
  by_cases hi : i < (ws.take (ws.length - arity n.1)).length
  · rw [List.getElem?_append_left hi, List.getElem?_take, if_pos (by rw [List.length_take] at hi; omega), ← List.getD_eq_getElem?_getD]
    exact h i
  · rw [List.getElem?_append_right (by omega)]
    by_cases h0 : i - (ws.take (ws.length - arity n.1)).length = 0
    · rw [h0]; simp only [List.getElem?_cons_zero, Option.getD_some]; omega
    · rw [List.getElem?_eq_none (by show 1 ≤ _; omega)]; decide
theorem run_w_here {ts : List Nd} {i : Nat} (h : i < ts.length) (ws : List Wr) : runW (ts.drop i) ws = if 1000 < (textF (ts.getD i (0, 0)) ws).size then none else runW (ts.drop (i + 1)) (pstep (ts.getD i (0, 0)) ws) := by
  rw [List.drop_eq_getElem_cons h]
  have e : ts.getD i (0, 0) = ts[i] := by rw [List.getD_eq_getElem?_getD, List.getElem?_eq_getElem h]; rfl
  rw [e]
  rfl
theorem Tryd.info_written : (Tryd.prog.info? 62).map (fun i => (i.zero, i.size, i.bytes)) = some (some (.agg #[.string ByteArray.empty, .int .i64 0]), 2, 24) := by kernel_rfl
abbrev S5 (w : World) (p : Nat) (k : Int) (j : Nat) (tg : Nat) (w' : World) : Prop := w'.cell? ⟨p, 0, none⟩ = some (.int .i64 k) ∧ w'.cell? ⟨0, j, none⟩ = some (.int .i64 (tg : Int)) ∧ p < w'.heap.size ∧ Below w.heap.size w w'
theorem s5_step {w : World} {p : Nat} {k : Int} {j tg : Nat} {w1 w2 : World} (ht : 0 < w.heap.size) (hb : Below w1.heap.size w1 w2) (h : S5 w p k j tg w1) : S5 w p k j tg w2 := by
  have hs := h.2.2.2.size
  have hs2 := hb.size
  have hp := h.2.2.1
  exact ⟨by rw [below_cell hb hp]; exact h.1, by rw [below_cell hb (by omega)]; exact h.2.1, by omega, go_on h.2.2.2 hb⟩
theorem s5_alloc {w : World} {p : Nat} {k : Int} {j tg : Nat} {w1 : World} (ht : 0 < w.heap.size) (o : Obj) (h : S5 w p k j tg w1) : S5 w p k j tg (w1.alloc o) := s5_step ht ((Below.refl _ _).alloc (Nat.le_refl _) o) h
theorem s5_grown {w : World} {p : Nat} {k : Int} {j tg : Nat} {w1 w2 : World} {row : Option Nat} (ht : 0 < w.heap.size) (hg : w1.grownBy w2 row) (h : S5 w p k j tg w1) (hr : ∀ b, row = some b → w.heap.size ≤ b ∧ b < p) : S5 w p k j tg w2 := by
  have hs := h.2.2.2.size
  have hp := h.2.2.1
  refine ⟨?_, ?_, Nat.lt_of_lt_of_le hp hg.size, h.2.2.2.grown hg hs (fun b hb => (hr b hb).1)⟩
  · rw [World.cell?_of_block (hg.block p hp (fun e => by have := (hr p e.symm).2; omega))]; exact h.1
  · rw [World.cell?_of_block (hg.block 0 (by omega) (fun e => by have := (hr _ e.symm).1; omega))]; exact h.2.1
end Go.Proofs.YtjonlmafhijcoaaDoor
