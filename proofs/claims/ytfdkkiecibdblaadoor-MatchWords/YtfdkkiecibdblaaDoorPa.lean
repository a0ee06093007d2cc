/- Trees as trees: what a list says that is a tree; its reversal. -/
import Derived.Test.YtfdkkiecibdblaaDoorTz
namespace Go.Proofs.YtfdkkiecibdblaaDoor
open Go Go.RowKit

inductive Tr where
  | zero (n : Nd)
  | one (n : Nd) (a : Tr)
  | two (n : Nd) (a b : Tr)
def Tr.flat : Tr → List Nd
  | .zero n => [n]
  | .one n a => a.flat ++ [n]
  | .two n a b => a.flat ++ b.flat ++ [n]
def Tr.ok : Tr → Prop
  | .zero n => good n = true ∧ arity n.1 = 0
  | .one n a => good n = true ∧ arity n.1 = 1 ∧ a.ok
  | .two n a b => good n = true ∧ arity n.1 = 2 ∧ a.ok ∧ b.ok
def Tr.rev : Tr → Tr
  | .zero n => .zero n
  | .one n a => .one n a.rev
  | .two n a b => if n.1 = 7 then .two n b.rev a.rev else .two n a.rev b.rev
def Tr.root : Tr → Nd
  | .zero n => n
  | .one n _ => n
  | .two n _ _ => n
theorem Tr.ok_free : ∀ t : Tr, t.ok → freeN t.flat = some 1
  | .zero n, h => by simp [Tr.flat, freeN, frees, h.1, h.2]
  | .one n a, h => by
    rw [Tr.flat, freeN_snoc, Tr.ok_free a h.2.2]
    simp [h.1, h.2.1]
  | .two n a b, h => by
    rw [Tr.flat, freeN_snoc, freeN, frees_append, show frees a.flat (some 0) = some 1 from Tr.ok_free a h.2.2.1, frees_over _ 1 (Tr.ok_free b h.2.2.2) 1]
    simp [h.1, h.2.1]
theorem Tr.len_pos (t : Tr) : 1 ≤ t.flat.length := by
  cases t <;> simp [Tr.flat] <;> omega
theorem Tr.flat_root (t : Tr) : ∃ X, t.flat = X ++ [t.root] := by
  cases t with
  | zero n => exact ⟨[], rfl⟩
  | one n a => exact ⟨_, rfl⟩
  | two n a b => exact ⟨_, rfl⟩
theorem tr_of : ∀ (m : Nat) (ts : List Nd), ts.length ≤ m → freeN ts = some 1 → ∃ t : Tr, t.ok ∧ t.flat = ts
  | 0, ts, hm, h => by have := free_pos h; omega
  | m + 1, ts, hm, h => by
    obtain ⟨h0, hg, hsl⟩ := tree_end h
    obtain ⟨⟨k, s⟩, hn⟩ : ∃ n, ts.getD (ts.length - 1) (0, 0) = n := ⟨_, rfl⟩
    rw [hn] at hg hsl
    simp only at hsl
    have hal := arity_le k
    obtain ⟨hft, hte⟩ := tree_last h hn
    have hc : arity k = 0 ∨ arity k = 1 ∨ arity k = 2 := by omega
    rcases hc with hr | hr | hr
    · rw [hr] at hsl hft
      have hT := trees_any _ _ hft
      rw [List.eq_nil_of_length_eq_zero hsl] at hT
      have hT : ts.take (ts.length - 1) = [] := hT
      rw [hT] at hte
      exact ⟨.zero (k, s), ⟨hg, hr⟩, hte.symm⟩
    · rw [hr] at hft
      obtain ⟨a, ha, he⟩ := tr_of m (ts.take (ts.length - 1)) (by simp; omega) hft
      exact ⟨.one (k, s) a, ⟨hg, hr, ha⟩, by rw [Tr.flat, he]; exact hte.symm⟩
    · rw [hr] at hsl
      obtain ⟨x, b, hstk⟩ : ∃ a b, stkN (ts.take (ts.length - 1)) = [a, b] := by
        match hh : stkN (ts.take (ts.length - 1)), hsl with
        | [a, b], _ => exact ⟨a, b, rfl⟩
      obtain ⟨p, q, he, hfp, hfq, _, _⟩ := tree_two h hn hstk
      have hlen := congrArg List.length he
      simp only [List.length_append, List.length_singleton] at hlen
      have hp1 := free_pos hfp
      have hq1 := free_pos hfq
      obtain ⟨a, ha, ea⟩ := tr_of m p (by omega) hfp
      obtain ⟨c, hc, ec⟩ := tr_of m q (by omega) hfq
      exact ⟨.two (k, s) a c, ⟨hg, hr, ha, hc⟩, by rw [Tr.flat, ea, ec]; exact he.symm⟩
theorem Tr.rev_ok : ∀ t : Tr, t.ok → t.rev.ok
  | .zero n, h => h
  | .one n a, h => ⟨h.1, h.2.1, Tr.rev_ok a h.2.2⟩
  | .two n a b, h => by
    unfold Tr.rev
    split
    · exact ⟨h.1, h.2.1, Tr.rev_ok b h.2.2.2, Tr.rev_ok a h.2.2.1⟩
    · exact ⟨h.1, h.2.1, Tr.rev_ok a h.2.2.1, Tr.rev_ok b h.2.2.2⟩
theorem Tr.rev_len : ∀ t : Tr, t.rev.flat.length = t.flat.length
  | .zero n => rfl
  | .one n a => by simp [Tr.rev, Tr.flat, Tr.rev_len a]
  | .two n a b => by
    unfold Tr.rev
    split
    · simp only [Tr.flat, List.length_append, Tr.rev_len a, Tr.rev_len b]; omega
    · simp only [Tr.flat, List.length_append, Tr.rev_len a, Tr.rev_len b]
theorem Tr.rev_rev : ∀ t : Tr, t.rev.rev = t
  | .zero n => rfl
  | .one n a => by simp [Tr.rev, Tr.rev_rev a]
  | .two n a b => by
    by_cases h : n.1 = 7
    · simp [Tr.rev, h, Tr.rev_rev a, Tr.rev_rev b]
    · simp [Tr.rev, h, Tr.rev_rev a, Tr.rev_rev b]
/-- The sizes behind a tree. -/
theorem Tr.stk_flat : ∀ t : Tr, t.ok → ∀ s, stk t.flat s = t.flat.length :: s
  | .zero n, h, s => by simp [Tr.flat, stk, h.2]
  | .one n a, h, s => by
    rw [Tr.flat, stk_append, Tr.stk_flat a h.2.2]
    simp [stk, h.2.1]; try omega
  | .two n a b, h, s => by
    rw [Tr.flat, stk_append, stk_append, Tr.stk_flat a h.2.2.1, Tr.stk_flat b h.2.2.2]
    simp [stk, h.2.1]; try omega
/-- The heaviest way of a tree. -/
def Tr.way (wt : Nd → Nat) : Tr → Nat
  | .zero n => wt n
  | .one n a => a.way wt + wt n
  | .two n a b => max (a.way wt) (b.way wt) + wt n
theorem Tr.way_flat (wt : Nd → Nat) : ∀ t : Tr, t.ok → (heavyN wt t.flat).getD 0 0 = t.way wt
  | .zero n, h => by simp [Tr.flat, heavyN, heavy, hpush, h.2, Tr.way]
  | .one n a, h => by
    have ha := Tr.ok_free a h.2.2
    rw [Tr.flat, heavyN_snoc, heavy_one ha, Tr.way_flat wt a h.2.2]
    simp [hpush, h.2.1, Tr.way]
  | .two n a b, h => by
    rw [Tr.flat, way_two (Tr.ok_free a h.2.2.1) (Tr.ok_free b h.2.2.2) h.2.1, Tr.way_flat wt a h.2.2.1, Tr.way_flat wt b h.2.2.2]
    rfl
theorem Tr.way_rev (wt : Nd → Nat) : ∀ t : Tr, t.rev.way wt = t.way wt
  | .zero n => rfl
  | .one n a => by simp [Tr.rev, Tr.way, Tr.way_rev wt a]
  | .two n a b => by
    unfold Tr.rev
    split
    · simp only [Tr.way, Tr.way_rev wt a, Tr.way_rev wt b, Nat.max_comm]
    · simp only [Tr.way, Tr.way_rev wt a, Tr.way_rev wt b]
end Go.Proofs.YtfdkkiecibdblaaDoor
