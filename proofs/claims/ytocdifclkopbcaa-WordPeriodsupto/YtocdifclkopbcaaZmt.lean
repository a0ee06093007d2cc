/- Plain mathematics of overlaps and periods of a word: how many letters from a place on are those from the beginning on. No program is named. -/
import Derived.WalkKit
namespace Go.Proofs.Ytocdifclkopbcaa

/-- How many letters two lists have in common at their heads. -/
def zl : List UInt8 → List UInt8 → Nat
  | a :: as, b :: bs => if a = b then zl as bs + 1 else 0
  | _, _ => 0
theorem zl_spec : ∀ (a b : List UInt8), zl a b ≤ a.length ∧ zl a b ≤ b.length ∧ (∀ u, u < zl a b → a.getD u 0 = b.getD u 0) ∧ (zl a b < a.length → zl a b < b.length → a.getD (zl a b) 0 ≠ b.getD (zl a b) 0)
  | [], b => by simp [zl]
  | a :: as, [] => by simp [zl]
  | a :: as, b :: bs => by
    obtain ⟨h1, h2, h3, h4⟩ := zl_spec as bs
    by_cases h : a = b
    · simp only [zl, if_pos h]
      refine ⟨by simp; omega, by simp; omega, ?_, ?_⟩
      · intro u hu
        cases u with
        | zero => simpa using h
        | succ u => simpa using h3 u (by omega)
      · intro g1 g2
        simpa using h4 (by simpa using g1) (by simpa using g2)
    · simp only [zl, if_neg h]
      exact ⟨by omega, by omega, by intro u hu; omega, by intro _ _; simpa using h⟩

/-- The letter at a place (0 beyond the end). -/
def at' (s : ByteArray) (t : Nat) : UInt8 := s.data.toList.getD t 0
theorem at_eq (s : ByteArray) (t : Nat) (h : t < s.size) : s[t] = at' s t := by
  have h' : t < s.data.toList.length := by simpa using h
  unfold at'
  rw [List.getD_eq_getElem?_getD, List.getElem?_eq_getElem h']
  rfl
/-- How many letters from the place i on are those from the beginning on. -/
def zAt (s : ByteArray) (i : Nat) : Nat := zl s.data.toList (s.data.toList.drop i)
theorem len_eq (s : ByteArray) : s.data.toList.length = s.size := by simp
theorem zAt_spec (s : ByteArray) (i : Nat) (hi : i ≤ s.size) : i + zAt s i ≤ s.size ∧ (∀ u, u < zAt s i → at' s u = at' s (i + u)) ∧ (i + zAt s i < s.size → at' s (zAt s i) ≠ at' s (i + zAt s i)) := by
  obtain ⟨h1, h2, h3, h4⟩ := zl_spec s.data.toList (s.data.toList.drop i)
  rw [List.length_drop, len_eq] at h2
  have e : ∀ u, (s.data.toList.drop i).getD u 0 = at' s (i + u) := by
    intro u
    simp [at', List.getD_eq_getElem?_getD, List.getElem?_drop]
  refine ⟨by unfold zAt; omega, ?_, ?_⟩
  · intro u hu
    have := h3 u hu
    rw [e] at this
    exact this
  · intro h
    have := h4 (by rw [len_eq]; unfold zAt at h; omega) (by rw [List.length_drop, len_eq]; unfold zAt at h; omega)
    rw [e] at this
    exact this
theorem zAt_eq (s : ByteArray) (i n : Nat) (hi : i + n ≤ s.size) (h : ∀ u, u < n → at' s u = at' s (i + u)) (hne : i + n < s.size → at' s n ≠ at' s (i + n)) : n = zAt s i := by
  obtain ⟨h1, h2, h3⟩ := zAt_spec s i (by omega)
  rcases Nat.lt_trichotomy n (zAt s i) with g | g | g
  · exact absurd (h2 n g) (hne (by omega))
  · exact g
  · exact absurd (h _ g) (h3 (by omega))
theorem zAt_end (s : ByteArray) : zAt s s.size = 0 := by
  have := (zAt_spec s s.size (Nat.le_refl _)).1
  omega
/-- What is known of the stretch that reaches furthest carries over to a place within it. -/
theorem zAt_copy (s : ByteArray) (f t k n : Nat) (hfk : f < k) (hf : t ≤ f + zAt s f) (ht : t ≤ s.size) (hn1 : n ≤ zAt s (k - f)) (hn2 : k + n ≤ t) :
    ∀ u, u < n → at' s u = at' s (k + u) := by
  intro u hu
  have a := (zAt_spec s (k - f) (by omega)).2.1 u (by omega)
  have b := (zAt_spec s f (by omega)).2.1 (k - f + u) (by omega)
  rw [a, b]
  congr 1
  omega

/-- p is a period of s: any two letters that stand p apart are the same. -/
def isPer (s : ByteArray) (p : Nat) : Prop := ∀ i, i + p < s.size → at' s i = at' s (i + p)
theorem per_iff (s : ByteArray) (p : Nat) (hp : p ≤ s.size) : p + zAt s p = s.size ↔ isPer s p := by
  obtain ⟨h1, h2, h3⟩ := zAt_spec s p hp
  constructor
  · intro h i hi
    have := h2 i (by omega)
    rw [Nat.add_comm i p]
    exact this
  · intro h
    by_cases g : p + zAt s p < s.size
    · exact absurd (by have := h (zAt s p) (by omega); rw [Nat.add_comm] at this; exact this) (h3 g)
    · omega

end Go.Proofs.Ytocdifclkopbcaa
