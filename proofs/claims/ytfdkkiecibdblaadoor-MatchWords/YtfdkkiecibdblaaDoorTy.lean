/- Contract of tree.Join, at every input. -/
import Derived.Test.YtfdkkiecibdblaaDoorTx
namespace Go.Proofs.YtfdkkiecibdblaaDoor
open Go Go.RowKit

/-- A list of lists of nodes, read. -/
def PReads (w : World) (v : Value) (ps : List (List Nd)) : Prop :=
  ∃ a cap, v = .slice a ps.length cap ∧ ∀ i, i < ps.length → ∃ g o u, a = some ⟨g, o, none⟩ ∧ g < w.heap.size ∧ w.cell? ⟨g, o + i, none⟩ = some u ∧ NReads w u (ps.getD i [])
theorem PReads.stay {w w' : World} {v : Value} {ps : List (List Nd)} (h : PReads w v ps) (hb : Below w.heap.size w w') : PReads w' v ps := by
  obtain ⟨a, c, e, hr⟩ := h
  refine ⟨a, c, e, fun i hi => ?_⟩
  obtain ⟨g, o, u, e, hg, h1, h2⟩ := hr i hi
  exact ⟨g, o, u, e, Nat.lt_of_lt_of_le hg hb.size, by rw [below_cell hb hg]; exact h1, h2.stay hb⟩
/-- The first error of the parts. -/
def ferr : List (List Nd) → Int
  | [] => 0
  | p :: ps => if wrong p = 0 then ferr ps else wrong p
def tot (ps : List (List Nd)) : Nat := ps.flatten.length
def joinE (n : Nd) (ps : List (List Nd)) : Int :=
  if good n = false then 30 else if ps.length ≠ arity n.1 then 1 else if ferr ps ≠ 0 then ferr ps else if 4000 < tot ps + 1 then 6 else 0
theorem wrong_len {ts : List Nd} (h : wrong ts = 0) : ts.length ≤ 4000 ∧ freeN ts = some 1 := by
  unfold wrong at h
  by_cases h0 : 4000 < ts.length
  · rw [if_pos h0] at h; cases h
  · rw [if_neg h0] at h
    by_cases h1 : freeN ts = some 1
    · exact ⟨by omega, h1⟩
    · rw [if_neg h1] at h; cases h
theorem take_next {ps : List (List Nd)} {i : Nat} (h : i < ps.length) : ps.take (i + 1) = ps.take i ++ [ps.getD i []] := by
  rw [List.take_add_one, List.getElem?_eq_getElem h]
  simp [List.getD_eq_getElem?_getD, List.getElem?_eq_getElem h]
theorem tot_next {ps : List (List Nd)} {i : Nat} (h : i < ps.length) : tot (ps.take (i + 1)) = tot (ps.take i) + (ps.getD i []).length := by
  rw [take_next h]; simp [tot]
theorem flat_next {ps : List (List Nd)} {i : Nat} (h : i < ps.length) : (ps.take (i + 1)).flatten = (ps.take i).flatten ++ ps.getD i [] := by
  rw [take_next h]; simp
theorem ferr_append (a b : List (List Nd)) (h : ferr a = 0) : ferr (a ++ b) = ferr b := by
  induction a with
  | nil => rfl
  | cons p a ih =>
    simp only [List.cons_append, ferr] at h ⊢
    by_cases hp : wrong p = 0
    · rw [if_pos hp] at h ⊢; exact ih h
    · rw [if_neg hp] at h; exact absurd h hp
theorem ferr_next {ps : List (List Nd)} {i : Nat} (h : i < ps.length) (h0 : ferr (ps.take i) = 0) : ferr (ps.take (i + 1)) = wrong (ps.getD i []) := by
  rw [take_next h, ferr_append _ _ h0]
  simp only [ferr]
  split
  · next h => exact h.symm
  · rfl
theorem ferr_stop {ps : List (List Nd)} {i : Nat} (h : i < ps.length) (h0 : ferr (ps.take i) = 0) (hw : wrong (ps.getD i []) ≠ 0) : ferr ps = wrong (ps.getD i []) := by
  have e : ps = ps.take i ++ (ps.getD i [] :: ps.drop (i + 1)) := by
    conv => lhs; rw [← List.take_append_drop i ps, List.drop_eq_getElem_cons h]
    simp [List.getD_eq_getElem?_getD, List.getElem?_eq_getElem h]
  rw [e, ferr_append _ _ h0]
  have e2 : (ps.take i ++ (ps.getD i [] :: ps.drop (i + 1))).getD i [] = ps.getD i [] := by rw [← e]
  rw [e2]
  simp only [ferr, if_neg hw]

end Go.Proofs.YtfdkkiecibdblaaDoor
