/- terms' reader: what is read (pure), and where it ends. -/
import Derived.Test.YthhlamehbcidgaaY3
namespace Go.Proofs.Ythhlamehbcidgaa
open Go Go.RowKit Go.Lib
set_option linter.unusedVariables false

abbrev Sg := List (Nat × Nat)
def bXYZ : ByteArray := ⟨#[120, 121, 122, 116]⟩
def bBEG : ByteArray := ⟨#[120, 121, 122, 116, 49, 40]⟩
/-- Is that byte at the place? -/
def isB (s : ByteArray) (c i : Nat) : Bool := match s.data.toList[i]? with
  | some x => x.toNat == c
  | none => false
def byteN (s : ByteArray) (i : Nat) : Nat := match s.data.toList[i]? with
  | some x => x.toNat
  | none => 0
theorem isB_at {s : ByteArray} {c i : Nat} (h : isB s c i = true) : ∃ hi : i < s.size, s[i].toNat = c := by
  unfold isB at h
  by_cases q : i < s.data.toList.length
  · rw [List.getElem?_eq_getElem q] at h
    have h2 : (s.data.toList[i].toNat == c) = true := h
    rw [beq_iff_eq] at h2
    exact ⟨by simpa using q, h2⟩
  · rw [List.getElem?_eq_none (by omega)] at h
    cases h
theorem byteN_at {s : ByteArray} {i : Nat} (h : i < s.size) : byteN s i = s[i].toNat := by
  have q : i < s.data.toList.length := by simpa using h
  unfold byteN
  rw [List.getElem?_eq_getElem q]
  rfl

/-- Behind the blanks: "^w", as often as it comes. -/
def omP (s : ByteArray) : Nat → Nat → Sg → Option (Nat × Sg)
  | 0, _, _ => none
  | n + 1, j, L => if seesB s ⟨#[94]⟩ j = true then (if isB s 119 (j + 1) = true then omP s n (skip s (j + 2)) (L ++ [(4, 0)]) else none) else some (j, L)
def atomP (s : ByteArray) (pows : Nat → Sg → Option (Nat × Sg)) (i : Nat) (L : Sg) : Option (Nat × Sg) :=
  if seesB s bXYZ (skip s i) = true then some (skip s i + 1, L ++ [(2, byteN s (skip s i))])
  else if seesB s ⟨#[40]⟩ (skip s i) = true then
    (match pows (skip s i + 1) L with
    | none => none
    | some (k, M) => if isB s 41 k = true then some (k + 1, M) else none)
  else if isB s 49 (skip s i) = true then some (skip s i + 1, L ++ [(1, 0)]) else none
def powP (s : ByteArray) (pows : Nat → Sg → Option (Nat × Sg)) (i : Nat) (L : Sg) : Option (Nat × Sg) :=
  match atomP s pows i L with
  | none => none
  | some (j, M) => omP s (s.size + 1) (skip s j) M
def lpP (s : ByteArray) (pows : Nat → Sg → Option (Nat × Sg)) : Nat → Nat → Sg → Option (Nat × Sg)
  | 0, _, _ => none
  | n + 1, j, L => if seesB s bBEG j = true then (match powP s pows j L with
    | none => none
    | some (k, M) => lpP s pows n k (M ++ [(3, 0)])) else some (j, L)
def pwsP (s : ByteArray) : Nat → Nat → Sg → Option (Nat × Sg)
  | 0, _, _ => none
  | f + 1, i, L => match powP s (pwsP s f) i L with
    | none => none
    | some (j, M) => lpP s (pwsP s f) (s.size + 1) j M

/-- It goes on, and signs are no more than twice the bytes. -/
def PG (s : ByteArray) (i : Nat) (L : Sg) (j : Nat) (M : Sg) : Prop := i < j ∧ j ≤ s.size ∧ M.length + 2 * i + 1 ≤ L.length + 2 * j
theorem omP_pg {s : ByteArray} : ∀ {n i : Nat} {L : Sg} {j : Nat} {M : Sg}, i ≤ s.size → omP s n i L = some (j, M) → i ≤ j ∧ j ≤ s.size ∧ M.length + 2 * i ≤ L.length + 2 * j
  | 0, _, _, _, _, _, h => by simp [omP] at h
  | n + 1, i, L, j, M, hi, h => by
    rw [omP] at h
    split at h
    · split at h
      · rename_i h1 h2
        obtain ⟨h3, _⟩ := isB_at h2
        have hs := skip_le (s := s) _ (i + 2) rfl (by omega)
        have := omP_pg (by omega) h
        rw [List.length_append] at this
        simp at this
        omega
      · cases h
    · simp only [Option.some.injEq, Prod.mk.injEq] at h
      obtain ⟨rfl, rfl⟩ := h
      omega
theorem atomP_pg {s : ByteArray} {pows : Nat → Sg → Option (Nat × Sg)} (hp : ∀ i L j M, i ≤ s.size → pows i L = some (j, M) → PG s i L j M) {i : Nat} {L : Sg} {j : Nat} {M : Sg} (hi : i ≤ s.size) (h : atomP s pows i L = some (j, M)) : PG s i L j M := by
  have hs := skip_le (s := s) _ i rfl hi
  unfold atomP at h
  split at h
  · rename_i h1
    have := seesB_le h1
    simp only [Option.some.injEq, Prod.mk.injEq] at h
    obtain ⟨rfl, rfl⟩ := h
    refine ⟨by omega, by omega, ?_⟩
    rw [List.length_append]
    simp
    omega
  · split at h
    · rename_i h0 h1
      have h1' := seesB_le h1
      split at h
      · cases h
      · rename_i k K hk
        split at h
        · rename_i h2
          obtain ⟨h3, _⟩ := isB_at h2
          simp only [Option.some.injEq, Prod.mk.injEq] at h
          obtain ⟨rfl, rfl⟩ := h
          obtain ⟨q1, q2, q3⟩ := hp _ _ _ _ (by omega) hk
          exact ⟨by omega, by omega, by omega⟩
        · cases h
    · split at h
      · rename_i h0 h1 h2
        obtain ⟨h3, _⟩ := isB_at h2
        simp only [Option.some.injEq, Prod.mk.injEq] at h
        obtain ⟨rfl, rfl⟩ := h
        refine ⟨by omega, by omega, ?_⟩
        rw [List.length_append]
        simp
        omega
      · cases h
theorem powP_pg {s : ByteArray} {pows : Nat → Sg → Option (Nat × Sg)} (hp : ∀ i L j M, i ≤ s.size → pows i L = some (j, M) → PG s i L j M) {i : Nat} {L : Sg} {j : Nat} {M : Sg} (hi : i ≤ s.size) (h : powP s pows i L = some (j, M)) : PG s i L j M := by
  unfold powP at h
  split at h
  · cases h
  · rename_i k K hk
    obtain ⟨q1, q2, q3⟩ := atomP_pg hp hi hk
    have hs := skip_le (s := s) _ k rfl q2
    obtain ⟨r1, r2, r3⟩ := omP_pg (by omega) h
    exact ⟨by omega, by omega, by omega⟩
theorem lpP_pg {s : ByteArray} {pows : Nat → Sg → Option (Nat × Sg)} (hp : ∀ i L j M, i ≤ s.size → pows i L = some (j, M) → PG s i L j M) : ∀ {n i : Nat} {L : Sg} {j : Nat} {M : Sg}, i ≤ s.size → lpP s pows n i L = some (j, M) → i ≤ j ∧ j ≤ s.size ∧ M.length + 2 * i ≤ L.length + 2 * j
  | 0, _, _, _, _, _, h => by simp [lpP] at h
  | n + 1, i, L, j, M, hi, h => by
    rw [lpP] at h
    split at h
    · split at h
      · cases h
      · rename_i k K hk
        obtain ⟨q1, q2, q3⟩ := powP_pg hp hi hk
        have := lpP_pg hp q2 h
        rw [List.length_append] at this
        simp at this
        omega
    · simp only [Option.some.injEq, Prod.mk.injEq] at h
      obtain ⟨rfl, rfl⟩ := h
      omega
theorem pwsP_pg {s : ByteArray} : ∀ (f i : Nat) (L : Sg) (j : Nat) (M : Sg), i ≤ s.size → pwsP s f i L = some (j, M) → PG s i L j M
  | 0, _, _, _, _, _, h => by simp [pwsP] at h
  | f + 1, i, L, j, M, hi, h => by
    rw [pwsP] at h
    split at h
    · cases h
    · rename_i k K hk
      obtain ⟨q1, q2, q3⟩ := powP_pg (pwsP_pg f) hi hk
      obtain ⟨r1, r2, r3⟩ := lpP_pg (pwsP_pg f) q2 h
      exact ⟨by omega, by omega, by omega⟩

/-- The reader as it goes: what it has written since w0, when its signs were v0. -/
def ST (base rb : Nat) (s : ByteArray) (v0 : Value) (w0 : World) (i : Nat) (L : Sg) (w : World) : Prop :=
  ∃ v, RD base w rb s i v L ∧ Only (RS rb v0) w0 w ∧ (v.ownBlock = v0.ownBlock ∨ ∃ x, v.ownBlock = some x ∧ w0.heap.size ≤ x)
theorem ST.start {base rb : Nat} {s : ByteArray} {v : Value} {w : World} {i : Nat} {L : Sg} (h : RD base w rb s i v L) : ST base rb s v w i L w := ⟨v, h, Only.of (Below.refl _ _), .inl rfl⟩
theorem ST.comp {base rb : Nat} {s : ByteArray} {v0 v : Value} {w0 w w' : World} {j : Nat} {M : Sg} (ho : Only (RS rb v0) w0 w) (hv : v.ownBlock = v0.ownBlock ∨ ∃ x, v.ownBlock = some x ∧ w0.heap.size ≤ x) (h : ST base rb s v w j M w') : ST base rb s v0 w0 j M w' := by
  obtain ⟨v2, h1, h2, h3⟩ := h
  have hs := ho.size
  refine ⟨v2, h1, ⟨ho.zero.trans (h2.zero.mono (Nat.zero_le _)), fun j hj hS => ?_⟩, ?_⟩
  · rw [h2.block j (by omega) (fun q => ?_), ho.block j hj hS]
    rcases q with q | q
    · exact hS (.inl q)
    · rcases hv with e | ⟨x, e, hx⟩
      · exact hS (.inr (e ▸ q))
      · rw [e] at q; injection q with q; omega
  · rcases h3 with e | ⟨x, e, hx⟩
    · rcases hv with e2 | ⟨x, e2, hx⟩
      · exact .inl (e.trans e2)
      · exact .inr ⟨x, e.trans e2, hx⟩
    · exact .inr ⟨x, e, by omega⟩
theorem ST.only {base rb : Nat} {s : ByteArray} {v0 v : Value} {w0 w w' : World} {j : Nat} {M : Sg} (ho : Only (RS rb v0) w0 w) (hv : v.ownBlock = v0.ownBlock ∨ ∃ x, v.ownBlock = some x ∧ w0.heap.size ≤ x) (h1 : RD base w' rb s j v M) (h2 : Only (RS rb v) w w') : ST base rb s v0 w0 j M w' := ST.comp ho hv ⟨v, h1, h2, .inl rfl⟩
end Go.Proofs.Ythhlamehbcidgaa
