/- minim: wordOf. -/
import Derived.Test.YtggheiblgghpkaaLf
import Derived.Test.YtggheiblgghpkaaJo
namespace Go.Proofs.Ytggheiblgghpkaa
open Go Go.RowKit Go.Lib
set_option linter.unusedVariables false

theorem flat_get {α : Type} {f : α → List Value} {k : Nat} (hf : ∀ a, (f a).length = k) : ∀ (Q : List α) (i : Nat) (n : α) (j : Nat), Q[i]? = some n → j < k → (Q.flatMap f)[i * k + j]? = (f n)[j]?
  | [], _, _, _, h, _ => by simp at h
  | a :: Q, 0, n, j, h, hj => by
    simp at h
    subst h
    rw [List.flatMap_cons, Nat.zero_mul, Nat.zero_add, List.getElem?_append_left (by rw [hf]; exact hj)]
  | a :: Q, i + 1, n, j, h, hj => by
    simp only [List.getElem?_cons_succ] at h
    rw [List.flatMap_cons, List.getElem?_append_right (by rw [hf, Nat.add_mul]; omega), hf, show (i + 1) * k + j - k = i * k + j by rw [Nat.add_mul]; omega]
    exact flat_get hf Q i n j h hj
theorem flat_len {α : Type} {f : α → List Value} {k : Nat} (hf : ∀ a, (f a).length = k) : ∀ (Q : List α), (Q.flatMap f).length = Q.length * k
  | [] => by simp
  | a :: Q => by rw [List.flatMap_cons, List.length_append, hf, flat_len hf Q, List.length_cons, Nat.add_mul]; omega
/-- The letter's byte of a node. -/
def lb (n : Nod (Nat × Nat)) : Int := if n.w = [] then 0 else 97 + (n.c : Int)
/-- A meeting's cells. -/
def mtC (n : Nod (Nat × Nat)) : List Value := [.int .i64 (n.p.1 : Nat), .int .i64 (n.p.2 : Nat), .int .i64 (n.u : Nat), .int .u8 (lb n)]
theorem mtC_len (n : Nod (Nat × Nat)) : (mtC n).length = 4 := rfl
/-- A queue's nodes in a row. -/
theorem que_cell {w : World} {base g cap : Nat} {e : TypeId} {Q : List (Nod (Nat × Nat))} (h : w.ownsRow base e 4 (.slice (some ⟨g, 0, none⟩) Q.length cap) Q.length (Q.flatMap mtC)) {i : Nat} {n : Nod (Nat × Nat)} (hi : Q[i]? = some n) {j : Nat} (hj : j < 4) : w.cell? ⟨g, i * 4 + j, none⟩ = (mtC n)[j]? := by
  have hl := (List.getElem?_eq_some_iff.1 hi).1
  rw [h.cellAt (i * 4 + j) (by omega), flat_get mtC_len Q i n j hi hj]
/-- By which node each one was met. -/
def Ups (k : Nat) (Q : List (Nod (Nat × Nat))) : Prop := (∀ n, Q[0]? = some n → n.w = []) ∧ ∀ (j : Nat) (n : Nod (Nat × Nat)), Q[j]? = some n → 0 < j → ∃ m, Q[n.u]? = some m ∧ n.u < j ∧ n.w = m.w ++ [n.c] ∧ n.c < k
theorem QI.ups {d : Nat × Nat → Nat → Nat × Nat} {k : Nat} {sh : Nat × Nat → Bool} {x : Nat × Nat} {Q : List (Nod (Nat × Nat))} {i c : Nat} (h : QI d k sh x Q i c) : Ups k Q := by
  refine ⟨fun n hn => ?_, fun j n hj h0 => ?_⟩
  · obtain ⟨n0, q1, q2, q3⟩ := h.ne
    rw [hn, Option.some.injEq] at q1
    rw [q1, q3]
  · obtain ⟨m, h1, h2, h3, h4, h5, h6⟩ := h.up j n hj h0
    exact ⟨m, h1, h2, h3, h5⟩

end Go.Proofs.Ytggheiblgghpkaa
