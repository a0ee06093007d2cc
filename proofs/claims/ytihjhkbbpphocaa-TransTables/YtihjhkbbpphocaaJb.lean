/- Pure: the least word of a state of an automaton in order, read off the first place where it stands. -/
import Derived.Test.YtihjhkbbpphocaaJa
namespace Go.Proofs.Ytihjhkbbpphocaa
set_option linter.unusedVariables false

/-- The letters of the word that leads to s, by first places. -/
def lwo (k : Nat) (n : List Nat) : Nat → Nat → List Nat
  | 0, _ => []
  | f + 1, s => if s = 0 then [] else lwo k n f (n.idxOf s / k) ++ [n.idxOf s % k]
def lw (k : Nat) (n : List Nat) (s : Nat) : List Nat := lwo k n s s
/-- First places come from states ahead. -/
def Fst (k M : Nat) (n : List Nat) : Prop := ∀ s, 0 < s → s < M → s ∈ n ∧ n.idxOf s / k < s
theorem lwo_more {k M : Nat} {n : List Nat} (h : Fst k M n) : ∀ (f s : Nat), s < M → s ≤ f → lwo k n f s = lwo k n s s := by
  intro f
  induction f using Nat.strongRecOn with
  | _ f ih =>
    intro s hs hf
    cases s with
    | zero => cases f with
      | zero => rfl
      | succ f => simp [lwo]
    | succ s =>
      cases f with
      | zero => omega
      | succ f =>
        have hq := (h (s + 1) (by omega) hs).2
        simp only [lwo, Nat.succ_ne_zero, if_false]
        rw [ih f (by omega) _ (by omega) (by omega)]
        by_cases e : s = f
        · subst e
          rw [ih s (by omega) _ (by omega) (by omega)]
        · rw [ih s (by omega) _ (by omega) (by omega)]
theorem lw_zero (k : Nat) (n : List Nat) : lw k n 0 = [] := rfl
theorem lw_step {k M : Nat} {n : List Nat} (h : Fst k M n) {s : Nat} (h0 : 0 < s) (hs : s < M) : lw k n s = lw k n (n.idxOf s / k) ++ [n.idxOf s % k] := by
  cases s with
  | zero => omega
  | succ s =>
    have hq := (h (s + 1) (by omega) hs).2
    unfold lw
    simp only [lwo, Nat.succ_ne_zero, if_false]
    rw [lwo_more h s _ (by omega) (by omega)]
theorem lw_len {k M : Nat} {n : List Nat} (h : Fst k M n) : ∀ s, s < M → (lw k n s).length ≤ s := by
  intro s
  induction s using Nat.strongRecOn with
  | _ s ih =>
    intro hs
    by_cases e : s = 0
    · subst e; simp [lw_zero]
    · have hq := (h s (by omega) hs).2
      rw [lw_step h (by omega) hs]
      have := ih _ hq (by omega)
      simp
      omega
theorem idxOf_first {l : List Nat} {j p : Nat} (hp : l[p]? = some j) (hq : ∀ q, q < p → l[q]? ≠ some j) : l.idxOf j = p := by
  induction l generalizing p with
  | nil => simp at hp
  | cons a l ih =>
    cases p with
    | zero =>
      simp at hp
      subst hp
      simp
    | succ p =>
      have h0 := hq 0 (by omega)
      simp at h0 hp
      rw [List.idxOf_cons]
      have : (a == j) = false := by simpa using h0
      rw [this]
      simp only [cond_false]
      rw [ih hp (fun q hq' => by have := hq (q + 1) (by omega); simpa using this)]
theorem BI.fst {S : Type} {d : S → Nat → S} {k : Nat} {x : S} {m : List S} {n : List Nat} (h : BI d k x m n) : Fst k m.length n := by
  intro s h0 hs
  obtain ⟨p, hp, hq, hr⟩ := h.fresh s h0 hs
  have e := idxOf_first hp (fun q hqp e => by have := hr q s hqp e; omega)
  exact ⟨List.mem_iff_getElem?.2 ⟨p, hp⟩, by rw [e]; exact hq⟩
end Go.Proofs.Ytihjhkbbpphocaa
