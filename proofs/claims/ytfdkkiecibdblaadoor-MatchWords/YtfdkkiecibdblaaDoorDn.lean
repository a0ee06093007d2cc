/- Contracts of bits.Next and of the document's Next. -/
import Derived.Test.YtfdkkiecibdblaaDoorDr
import Derived.BigQuiet
namespace Go.Proofs.YtfdkkiecibdblaaDoor
open Go.RowKit Go.Lib

/-- What Next answers. -/
def NextIs (N : Nat) (i n : Int) (ok : Bool) : Prop :=
  (ok = true ∧ ∃ m : Nat, n = m ∧ i ≤ m ∧ N.testBit m = true ∧ ∀ j : Nat, i ≤ j → j < m → N.testBit j = false) ∨ (ok = false ∧ n = 0 ∧ ∀ j : Nat, i ≤ j → N.testBit j = false)
/-- How a call of Next ends. -/
def NextEnd (N : Nat) (i : Int) (e : Ending) : Prop := ∃ n ok, e = .returned (.tuple #[.int .i64 n, .bool ok]) ∧ NextIs N i n ok
theorem NextIs.one {N : Nat} {i n n' : Int} {ok ok' : Bool} (h : NextIs N i n ok) (h' : NextIs N i n' ok') : n = n' ∧ ok = ok' := by
  rcases h with ⟨rfl, m, rfl, h1, h2, h3⟩ | ⟨rfl, rfl, h3⟩
  · rcases h' with ⟨rfl, m', rfl, g1, g2, g3⟩ | ⟨rfl, rfl, g3⟩
    · refine ⟨?_, rfl⟩
      by_cases e : m = m'
      · rw [e]
      · by_cases l : m < m'
        · have := g3 m h1 l; rw [h2] at this; simp at this
        · have := h3 m' g1 (by omega); rw [g2] at this; simp at this
    · have := g3 m h1; rw [h2] at this; simp at this
  · rcases h' with ⟨rfl, m', rfl, g1, g2, g3⟩ | ⟨rfl, rfl, g3⟩
    · have := h3 m' g1; rw [g2] at this; simp at this
    · exact ⟨rfl, rfl⟩
theorem lst_sorted (N b : Nat) : (lst N b).Pairwise (· < ·) := by
  unfold lst
  rw [List.pairwise_map]
  refine List.Pairwise.filter _ ?_
  refine List.Pairwise.imp ?_ (List.pairwise_lt_range (n := b))
  intro a c h
  omega
theorem next_of_lst {N : Nat} (_hN : Fits N) {i : Int} {c : Nat} (hc : c < (lst N 512).length) (hb : ∀ d, d < c → (lst N 512).getD d 0 < i) (hi : i ≤ (lst N 512).getD c 0) : NextIs N i ((lst N 512).getD c 0) true := by
  have hm : (lst N 512).getD c 0 ∈ lst N 512 := by simp [hc]
  obtain ⟨m, h5, ht, e⟩ := mem_lst.1 hm
  refine .inl ⟨rfl, m, e, by omega, ht, ?_⟩
  intro j hij hjm
  cases hbit : N.testBit j with
  | false => rfl
  | true =>
    exfalso
    have hj5 : j < 512 := by omega
    have hmem : (j : Int) ∈ lst N 512 := mem_lst.2 ⟨j, hj5, hbit, rfl⟩
    obtain ⟨d, hd, he⟩ := List.mem_iff_getElem.1 hmem
    have hs : ∀ (i j : Nat) (hi : i < (lst N 512).length) (hj : j < (lst N 512).length), i < j → (lst N 512)[i] < (lst N 512)[j] := List.pairwise_iff_getElem.1 (lst_sorted N 512)
    generalize lst N 512 = L at *
    have hcg : L.getD c 0 = L[c] := by rw [List.getD_eq_getElem?_getD, List.getElem?_eq_getElem hc]; rfl
    by_cases hdc : d < c
    · have := hb d hdc
      have hdg : L.getD d 0 = L[d] := by rw [List.getD_eq_getElem?_getD, List.getElem?_eq_getElem hd]; rfl
      rw [hdg, he] at this
      omega
    · by_cases hde : d = c
      · subst hde
        rw [hcg, he] at e
        omega
      · have := hs c d hc hd (by omega)
        rw [he, ← hcg, e] at this
        omega
theorem next_none {N : Nat} (hN : Fits N) {i : Int} (hb : ∀ d, d < (lst N 512).length → (lst N 512).getD d 0 < i) : NextIs N i 0 false := by
  refine .inr ⟨rfl, rfl, ?_⟩
  intro j hij
  cases hbit : N.testBit j with
  | false => rfl
  | true =>
    exfalso
    have hj5 : j < 512 := by
      by_cases h : j < 512
      · exact h
      · rw [hN j (by omega)] at hbit; simp at hbit
    have hmem : (j : Int) ∈ lst N 512 := mem_lst.2 ⟨j, hj5, hbit, rfl⟩
    obtain ⟨d, hd, he⟩ := List.mem_iff_getElem.1 hmem
    have := hb d hd
    have hdg : (lst N 512).getD d 0 = (lst N 512)[d] := by rw [List.getD_eq_getElem?_getD, List.getElem?_eq_getElem hd]; rfl
    rw [hdg, he] at this
    omega

theorem ctz_bits (r : Nat) (h0 : r ≠ 0) (hr : r < 18446744073709551616) : Lib.ctz 64 r < 64 ∧ r.testBit (Lib.ctz 64 r) = true ∧ ∀ j, j < Lib.ctz 64 r → r.testBit j = false := by
  obtain ⟨m, hm, hk⟩ := Lib.ctzFrom_spec 64 r (by omega) hr
  have e : Lib.ctz 64 r = Lib.ctzFrom 64 r := by simp [Lib.ctz, h0]
  rw [e]
  generalize Lib.ctzFrom 64 r = t at hm hk
  refine ⟨hk, ?_, ?_⟩
  · rw [hm, Nat.mul_comm, Nat.testBit_mul_two_pow]
    simp [Nat.testBit_zero]
  · intro j hj
    rw [hm, Nat.mul_comm, Nat.testBit_mul_two_pow, decide_eq_false (by omega), Bool.false_and]
theorem TzTab.stay {w w' : World} (h : TzTab w) (hb : Below w.heap.size w w') : TzTab w' := by
  have h0 : 2 < w.heap.size := World.block_lt_of_cell? w _ (h 0 (by decide))
  intro j hj
  rw [below_cell hb h0]
  exact h j hj
theorem TzTab.alloc {w : World} (h : TzTab w) (O : Obj) : TzTab (w.alloc O) := h.stay ((Below.refl _ _).alloc (Nat.le_refl _) _)
/-- What stands in the loop of Next: of word k the bits from m on; none of the set from m up to that word. -/
structure NextAt (N m k r : Nat) : Prop where
  le : m < 64 * (k + 1)
  lt : r < 18446744073709551616
  bit : ∀ j, j < 64 → r.testBit j = (decide (m ≤ 64 * k + j) && N.testBit (64 * k + j))
  none : ∀ j, m ≤ j → j < 64 * k → N.testBit j = false
theorem NextAt.found {N m k r : Nat} (h : NextAt N m k r) (h0 : r ≠ 0) {i : Int} (hi : ∀ j : Nat, i ≤ j ↔ m ≤ j) : NextIs N i ((64 * k + Lib.ctz 64 r : Nat) : Int) true := by
  obtain ⟨h1, h2, h3⟩ := ctz_bits r h0 h.lt
  have hb := h.bit _ h1
  rw [h2] at hb
  have hb' := hb.symm
  rw [Bool.and_eq_true, decide_eq_true_iff] at hb'
  refine .inl ⟨rfl, _, rfl, (hi _).2 hb'.1, hb'.2, ?_⟩
  intro j hij hj
  have hmj := (hi j).1 hij
  by_cases hk : j < 64 * k
  · exact h.none j hmj hk
  · have := h.bit (j - 64 * k) (by omega)
    rw [h3 _ (by omega), show 64 * k + (j - 64 * k) = j by omega, decide_eq_true hmj, Bool.true_and] at this
    exact this.symm
theorem NextAt.next {N m k : Nat} (h : NextAt N m k 0) : NextAt N m (k + 1) (word N (k + 1)) := by
  have hn : ∀ j, m ≤ j → j < 64 * (k + 1) → N.testBit j = false := by
    intro j hm hj
    by_cases hk : j < 64 * k
    · exact h.none j hm hk
    · have := h.bit (j - 64 * k) (by omega)
      rw [Nat.zero_testBit, show 64 * k + (j - 64 * k) = j by omega, decide_eq_true hm, Bool.true_and] at this
      exact this.symm
  refine ⟨by have := h.le; omega, word_lt _ _, ?_, hn⟩
  intro j hj
  rw [testBit_word, decide_eq_true hj, Bool.true_and]
  by_cases hm : m ≤ 64 * (k + 1) + j
  · rw [decide_eq_true hm, Bool.true_and]
  · have := h.le
    omega

end Go.Proofs.YtfdkkiecibdblaaDoor
