/- Pure: the states that are met from the first one, in order (chapter 8's search), and what is sure of them. -/
import Derived.Test.YtihjhkbbpphocaaRows
import Derived.WalkKit
namespace Go.Proofs.Ytihjhkbbpphocaa
set_option linter.unusedVariables false

/-- The search: m the states met so far, n where the letters gone through so far lead. -/
def bgo {S : Type} [DecidableEq S] (d : S → Nat → S) (k : Nat) : Nat → List S → List Nat → Option (List S × List Nat)
  | 0, m, n => some (m, n)
  | f + 1, m, n =>
    if n.length = m.length * k then some (m, n) else
    match m[n.length / k]? with
    | none => none
    | some s =>
      if d s (n.length % k) ∈ m then bgo d k f m (n ++ [m.idxOf (d s (n.length % k))])
      else if m.length = 4096 then none
      else bgo d k f (m ++ [d s (n.length % k)]) (n ++ [m.length])
/-- The whole search: fuel for all letters of all states. -/
def bfs {S : Type} [DecidableEq S] (d : S → Nat → S) (k : Nat) (x : S) : Option (List S × List Nat) := bgo d k 32768 [x] []

theorem bgo_end {S : Type} [DecidableEq S] {d : S → Nat → S} {k f : Nat} {m : List S} {n : List Nat} (h : n.length = m.length * k) : bgo d k f m n = some (m, n) := by
  cases f with
  | zero => rfl
  | succ f => unfold bgo; rw [if_pos h]
theorem bgo_old {S : Type} [DecidableEq S] {d : S → Nat → S} {k f : Nat} {m : List S} {n : List Nat} {i c : Nat} {s : S} (hk : c < k) (hn : n.length = i * k + c) (hi : m[i]? = some s) (ht : d s c ∈ m) : bgo d k (f + 1) m n = bgo d k f m (n ++ [m.idxOf (d s c)]) := by
  have hil : i < m.length := (List.getElem?_eq_some_iff.1 hi).1
  have h1 : n.length / k = i := by rw [hn, Nat.mul_comm, Nat.mul_add_div (by omega), Nat.div_eq_of_lt hk]; rfl
  have h2 : n.length % k = c := by rw [hn, Nat.mul_comm, Nat.mul_add_mod, Nat.mod_eq_of_lt hk]
  have h3 : ¬ n.length = m.length * k := by
    have := Nat.mul_le_mul_right k (show i + 1 ≤ m.length from hil)
    rw [Nat.add_mul] at this
    omega
  rw [bgo, if_neg h3, h1, h2, hi]
  simp only
  rw [if_pos ht]
theorem bgo_new {S : Type} [DecidableEq S] {d : S → Nat → S} {k f : Nat} {m : List S} {n : List Nat} {i c : Nat} {s : S} (hk : c < k) (hn : n.length = i * k + c) (hi : m[i]? = some s) (ht : ¬ d s c ∈ m) (hm : m.length ≠ 4096) : bgo d k (f + 1) m n = bgo d k f (m ++ [d s c]) (n ++ [m.length]) := by
  have hil : i < m.length := (List.getElem?_eq_some_iff.1 hi).1
  have h1 : n.length / k = i := by rw [hn, Nat.mul_comm, Nat.mul_add_div (by omega), Nat.div_eq_of_lt hk]; rfl
  have h2 : n.length % k = c := by rw [hn, Nat.mul_comm, Nat.mul_add_mod, Nat.mod_eq_of_lt hk]
  have h3 : ¬ n.length = m.length * k := by
    have := Nat.mul_le_mul_right k (show i + 1 ≤ m.length from hil)
    rw [Nat.add_mul] at this
    omega
  rw [bgo, if_neg h3, h1, h2, hi]
  simp only
  rw [if_neg ht, if_neg hm]
theorem bgo_full {S : Type} [DecidableEq S] {d : S → Nat → S} {k f : Nat} {m : List S} {n : List Nat} {i c : Nat} {s : S} (hk : c < k) (hn : n.length = i * k + c) (hi : m[i]? = some s) (ht : ¬ d s c ∈ m) (hm : m.length = 4096) : bgo d k (f + 1) m n = none := by
  have hil : i < m.length := (List.getElem?_eq_some_iff.1 hi).1
  have h1 : n.length / k = i := by rw [hn, Nat.mul_comm, Nat.mul_add_div (by omega), Nat.div_eq_of_lt hk]; rfl
  have h2 : n.length % k = c := by rw [hn, Nat.mul_comm, Nat.mul_add_mod, Nat.mod_eq_of_lt hk]
  have h3 : ¬ n.length = m.length * k := by
    have := Nat.mul_le_mul_right k (show i + 1 ≤ m.length from hil)
    rw [Nat.add_mul] at this
    omega
  rw [bgo, if_neg h3, h1, h2, hi]
  simp only
  rw [if_neg ht, if_pos hm]

/-- What is sure while the search goes on. -/
structure BI {S : Type} (d : S → Nat → S) (k : Nat) (x : S) (m : List S) (n : List Nat) : Prop where
  nodup : m.Nodup
  first : m[0]? = some x
  len : n.length ≤ m.length * k
  most : m.length ≤ 4096
  step : ∀ p j, n[p]? = some j → ∃ s, m[p / k]? = some s ∧ m[j]? = some (d s (p % k))
  fresh : ∀ j, 0 < j → j < m.length → ∃ p, n[p]? = some j ∧ p / k < j ∧ ∀ q i, q < p → n[q]? = some i → i < j
theorem BI.start {S : Type} (d : S → Nat → S) (k : Nat) (x : S) : BI d k x [x] [] := ⟨by simp, rfl, by simp, by simp, fun p j h => by simp at h, fun j h1 h2 => by simp at h2; omega⟩
theorem getElem?_snoc_lt {α : Type} {l : List α} {a : α} {i : Nat} {b : α} (h : l[i]? = some b) : (l ++ [a])[i]? = some b := by
  rw [List.getElem?_append_left (List.getElem?_eq_some_iff.1 h).1]; exact h
theorem snoc_cases {α : Type} {l : List α} {a : α} {i : Nat} {b : α} (h : (l ++ [a])[i]? = some b) : l[i]? = some b ∨ (i = l.length ∧ b = a) := by
  by_cases c : i < l.length
  · rw [List.getElem?_append_left c] at h; exact .inl h
  · rw [List.getElem?_append_right (by omega)] at h
    have : i - l.length = 0 := by
      by_cases e : i - l.length = 0
      · exact e
      · obtain ⟨q, hq⟩ : ∃ q, i - l.length = q + 1 := ⟨i - l.length - 1, by omega⟩
        rw [hq] at h; simp at h
    rw [this] at h; simp at h
    exact .inr ⟨by omega, h.symm⟩
theorem idxOf_get {S : Type} [DecidableEq S] {l : List S} {a : S} (h : a ∈ l) : l[l.idxOf a]? = some a := by
  have hl := List.idxOf_lt_length_of_mem h
  rw [List.getElem?_eq_getElem hl, List.getElem_idxOf hl]
theorem BI.old {S : Type} [DecidableEq S] {d : S → Nat → S} {k : Nat} {m : List S} {n : List Nat} {x : S} (h : BI d k x m n) {i c : Nat} {s : S} (hk : c < k) (hn : n.length = i * k + c) (hi : m[i]? = some s) (ht : d s c ∈ m) : BI d k x m (n ++ [m.idxOf (d s c)]) := by
  have hil : i < m.length := (List.getElem?_eq_some_iff.1 hi).1
  have h1 : n.length / k = i := by rw [hn, Nat.mul_comm, Nat.mul_add_div (by omega), Nat.div_eq_of_lt hk]; rfl
  have h2 : n.length % k = c := by rw [hn, Nat.mul_comm, Nat.mul_add_mod, Nat.mod_eq_of_lt hk]
  have h3 := Nat.mul_le_mul_right k (show i + 1 ≤ m.length from hil)
  rw [Nat.add_mul] at h3
  refine ⟨h.nodup, h.first, by simp; omega, h.most, ?_, ?_⟩
  · intro p j hp
    rcases snoc_cases hp with hp | ⟨rfl, rfl⟩
    · exact h.step p j hp
    · rw [h1, h2]
      exact ⟨s, hi, idxOf_get ht⟩
  · intro j j0 jl
    obtain ⟨p, hp, hq, hr⟩ := h.fresh j j0 jl
    refine ⟨p, getElem?_snoc_lt hp, hq, fun q i hqp hi => ?_⟩
    rcases snoc_cases hi with hi | ⟨rfl, _⟩
    · exact hr q i hqp hi
    · have := (List.getElem?_eq_some_iff.1 hp).1
      omega
theorem BI.new {S : Type} {d : S → Nat → S} {k : Nat} {m : List S} {n : List Nat} {x : S} (h : BI d k x m n) {i c : Nat} {s : S} (hk : c < k) (hn : n.length = i * k + c) (hi : m[i]? = some s) (ht : ¬ d s c ∈ m) (hm : m.length ≠ 4096) : BI d k x (m ++ [d s c]) (n ++ [m.length]) := by
  have hil : i < m.length := (List.getElem?_eq_some_iff.1 hi).1
  have h1 : n.length / k = i := by rw [hn, Nat.mul_comm, Nat.mul_add_div (by omega), Nat.div_eq_of_lt hk]; rfl
  have h2 : n.length % k = c := by rw [hn, Nat.mul_comm, Nat.mul_add_mod, Nat.mod_eq_of_lt hk]
  have h3 := Nat.mul_le_mul_right k (show i + 1 ≤ m.length from hil)
  rw [Nat.add_mul] at h3
  have hsmall : ∀ (q i : Nat), n[q]? = some i → i < m.length := by
    intro q i hq
    obtain ⟨_, _, hs⟩ := h.step q i hq
    exact (List.getElem?_eq_some_iff.1 hs).1
  refine ⟨?_, getElem?_snoc_lt h.first, by simp [Nat.add_mul]; omega, by have := h.most; simp; omega, ?_, ?_⟩
  · rw [List.nodup_append]
    refine ⟨h.nodup, by simp, ?_⟩
    intro a ha b hb e
    simp at hb
    subst hb
    subst e
    exact ht ha
  · intro p j hp
    rcases snoc_cases hp with hp | ⟨rfl, rfl⟩
    · obtain ⟨s', a1, a2⟩ := h.step p j hp
      exact ⟨s', getElem?_snoc_lt a1, getElem?_snoc_lt a2⟩
    · rw [h1, h2]
      exact ⟨s, getElem?_snoc_lt hi, by simp⟩
  · intro j j0 jl
    by_cases c2 : j < m.length
    · obtain ⟨p, hp, hq, hr⟩ := h.fresh j j0 c2
      refine ⟨p, getElem?_snoc_lt hp, hq, fun q i hqp hi => ?_⟩
      rcases snoc_cases hi with hi | ⟨rfl, _⟩
      · exact hr q i hqp hi
      · have := (List.getElem?_eq_some_iff.1 hp).1
        omega
    · have e : j = m.length := by simp at jl; omega
      subst e
      refine ⟨n.length, by simp, by rw [h1]; exact hil, fun q i hqp hi => ?_⟩
      rcases snoc_cases hi with hi | ⟨rfl, _⟩
      · exact hsmall q i hi
      · omega
/-- What the search answers is in order, and nothing is left. -/
theorem bgo_sure {S : Type} [DecidableEq S] {d : S → Nat → S} {k : Nat} {x : S} (hk : 1 ≤ k ∧ k ≤ 8) : ∀ (f : Nat) (m : List S) (n : List Nat), BI d k x m n → 32768 ≤ f + n.length → ∀ M N, bgo d k f m n = some (M, N) → BI d k x M N ∧ N.length = M.length * k ∧ ∃ r, M = m ++ r := by
  intro f
  induction f with
  | zero =>
    intro m n h hf M N he
    simp only [bgo, Option.some.injEq, Prod.mk.injEq] at he
    obtain ⟨rfl, rfl⟩ := he
    refine ⟨h, ?_, [], by simp⟩
    have h1 := h.len
    have h2 := Nat.mul_le_mul h.most hk.2
    omega
  | succ f ih =>
    intro m n h hf M N he
    by_cases c : n.length = m.length * k
    · rw [bgo_end c] at he
      simp only [Option.some.injEq, Prod.mk.injEq] at he
      obtain ⟨rfl, rfl⟩ := he
      exact ⟨h, c, [], by simp⟩
    · have hlt : n.length / k < m.length := by
        rw [Nat.div_lt_iff_lt_mul (by omega)]
        have := h.len
        omega
      have hi := List.getElem?_eq_getElem hlt
      have hn : n.length = n.length / k * k + n.length % k := by rw [Nat.mul_comm, Nat.div_add_mod]
      have hc : n.length % k < k := Nat.mod_lt _ (by omega)
      by_cases ht : d m[n.length / k] (n.length % k) ∈ m
      · rw [bgo_old hc hn hi ht] at he
        exact ih _ _ (h.old hc hn hi ht) (by simp; omega) M N he
      · by_cases hm : m.length = 4096
        · rw [bgo_full hc hn hi ht hm] at he; cases he
        · rw [bgo_new hc hn hi ht hm] at he
          obtain ⟨a1, a2, r, a3⟩ := ih _ _ (h.new hc hn hi ht hm) (by simp; omega) M N he
          exact ⟨a1, a2, _, by rw [a3, List.append_assoc]⟩
theorem bfs_sure {S : Type} [DecidableEq S] {d : S → Nat → S} {k : Nat} {x : S} (hk : 1 ≤ k ∧ k ≤ 8) {M : List S} {N : List Nat} (h : bfs d k x = some (M, N)) : BI d k x M N ∧ N.length = M.length * k := by
  obtain ⟨a, b, _⟩ := bgo_sure hk _ _ _ (BI.start d k x) (by simp) M N h
  exact ⟨a, b⟩
end Go.Proofs.Ytihjhkbbpphocaa
