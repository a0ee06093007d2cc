/- Contract of tree.Reverse. -/
import Derived.Test.YtchaggigabccaaaDoorPa
import Derived.Test.YtchaggigabccaaaDoorNb
namespace Go.Proofs.YtchaggigabccaaaDoor
open Go Go.RowKit

/-- What is still to be written, the next one first: where each tree ends, and the tree. -/
def front : List (Nat × Tr) → List Nd
  | [] => []
  | p :: S => front S ++ p.2.rev.flat
def endsL (S : List (Nat × Tr)) : List Nat := (S.map (·.1)).reverse
def Placed (ts : List Nd) (p : Nat × Tr) : Prop := p.2.ok ∧ p.1 < ts.length ∧ ∃ X, ts.take (p.1 + 1) = X ++ p.2.flat
theorem endsL_cons (p : Nat × Tr) (S : List (Nat × Tr)) : endsL (p :: S) = endsL S ++ [p.1] := by simp [endsL]
theorem endsL_len (S : List (Nat × Tr)) : (endsL S).length = S.length := by simp [endsL]
theorem front_len_le : ∀ S : List (Nat × Tr), S.length ≤ (front S).length
  | [] => by simp [front]
  | p :: S => by
    have h1 := front_len_le S
    have h2 := Tr.len_pos p.2.rev
    simp only [front, List.length_append, List.length_cons]
    omega
theorem placed_root {ts : List Nd} {e : Nat} {t : Tr} (h : Placed ts (e, t)) : ts.getD e (0, 0) = t.root := by
  obtain ⟨_, he, X, hX⟩ := h
  obtain ⟨Y, hY⟩ := t.flat_root
  have hl := congrArg List.length hX
  rw [hY] at hX hl
  simp only [List.length_take, List.length_append, List.length_singleton] at hl
  have hg : (ts.take (e + 1))[e]? = ts[e]? := by rw [List.getElem?_take, if_pos (by omega)]
  simp only at hX he
  rw [hX, ← List.append_assoc, List.getElem?_append_right (by simp; omega)] at hg
  have : e - (X ++ Y).length = 0 := by simp; omega
  rw [this] at hg
  rw [List.getD_eq_getElem?_getD, ← hg]
  rfl
theorem placed_one {ts : List Nd} {e : Nat} {n : Nd} {a : Tr} (h : Placed ts (e, .one n a)) : 1 ≤ e ∧ Placed ts (e - 1, a) := by
  obtain ⟨ho, he, X, hX⟩ := h
  have hl := congrArg List.length hX
  have ha := a.len_pos
  simp only [Tr.flat, List.length_take, List.length_append, List.length_singleton] at hl
  simp only at he
  refine ⟨by omega, ho.2.2, by show e - 1 < _; omega, X, ?_⟩
  show ts.take (e - 1 + 1) = _
  have : ts.take e = (ts.take (e + 1)).take e := by rw [List.take_take, Nat.min_eq_left (by omega)]
  simp only at hX
  rw [show e - 1 + 1 = e by omega, this, hX, Tr.flat, ← List.append_assoc]
  exact List.take_left' (by simp; omega)
theorem placed_two {ts : List Nd} {e : Nat} {n : Nd} {a b : Tr} (h : Placed ts (e, .two n a b)) : b.flat.length + 1 ≤ e ∧ Placed ts (e - 1, b) ∧ Placed ts (e - 1 - b.flat.length, a) := by
  obtain ⟨ho, he, X, hX⟩ := h
  have hl := congrArg List.length hX
  have ha := a.len_pos
  have hb := b.len_pos
  simp only [Tr.flat, List.length_take, List.length_append, List.length_singleton] at hl
  simp only at he hX
  have h1 : ts.take e = X ++ a.flat ++ b.flat := by
    have : ts.take e = (ts.take (e + 1)).take e := by rw [List.take_take, Nat.min_eq_left (by omega)]
    rw [this, hX, Tr.flat, ← List.append_assoc, ← List.append_assoc]
    exact List.take_left' (by simp; omega)
  refine ⟨by omega, ⟨ho.2.2.2, by show e - 1 < _; omega, X ++ a.flat, ?_⟩, ho.2.2.1, by show e - 1 - b.flat.length < _; omega, X, ?_⟩
  · show ts.take (e - 1 + 1) = _
    rw [show e - 1 + 1 = e by omega]; exact h1
  · show ts.take (e - 1 - b.flat.length + 1) = _
    have : ts.take (e - 1 - b.flat.length + 1) = (ts.take e).take (e - 1 - b.flat.length + 1) := by rw [List.take_take, Nat.min_eq_left (by omega)]
    rw [this, h1]
    exact List.take_left' (by simp; omega)
theorem placed_size {ts : List Nd} {e : Nat} {t : Tr} (h : Placed ts (e, t)) {L : List Nat} (hE : ∀ j, j ≤ ts.length → Ends L j (stkN (ts.take j))) : L[e]? = some t.flat.length := by
  obtain ⟨ho, he, X, hX⟩ := h
  simp only at he hX ho
  have := hE (e + 1) (by omega)
  rw [hX, stkN, stk_append, Tr.stk_flat t ho] at this
  have h3 := this.2.2.1
  rwa [show e + 1 - 1 = e by omega] at h3
theorem rev_last (t : Tr) : t.rev.root = t.root := by
  cases t with
  | zero n => rfl
  | one n a => rfl
  | two n a b => unfold Tr.rev; split <;> rfl
/-- The next stack. -/
def nextS (e : Nat) (t : Tr) (S : List (Nat × Tr)) : List (Nat × Tr) :=
  match t with
  | .zero _ => S
  | .one _ a => (e - 1, a) :: S
  | .two n a b => if n.1 = 7 then (e - 1 - b.flat.length, a) :: (e - 1, b) :: S else (e - 1, b) :: (e - 1 - b.flat.length, a) :: S
theorem front_next (e : Nat) (t : Tr) (S : List (Nat × Tr)) : front ((e, t) :: S) = front (nextS e t S) ++ [t.root] := by
  cases t with
  | zero n => rfl
  | one n a => simp [front, nextS, Tr.rev, Tr.flat, Tr.root]
  | two n a b =>
    by_cases h : n.1 = 7
    · simp [front, nextS, Tr.rev, Tr.flat, Tr.root, h]
    · simp [front, nextS, Tr.rev, Tr.flat, Tr.root, h]
theorem drop_set2 {L : List Value} {i : Nat} {x y : Value} (h : i + 2 ≤ L.length) : ((L.set i x).set (i + 1) y).drop i = x :: y :: L.drop (i + 2) := by
  apply List.ext_getElem?
  intro j
  rw [List.getElem?_drop]
  match j with
  | 0 => rw [List.getElem?_set_ne (by omega), Nat.add_zero, List.getElem?_set_self (by omega)]; rfl
  | 1 => rw [List.getElem?_set_self (by simp; omega)]; rfl
  | j + 2 =>
    rw [List.getElem?_set_ne (by omega), List.getElem?_set_ne (by omega)]
    simp only [List.getElem?_cons_succ, List.getElem?_drop]
    congr 1; omega
end Go.Proofs.YtchaggigabccaaaDoor
