/- Plain mathematics of a word's number: the digits 1 to k of a number, least first. No program is named. -/
import Derived.WalkKit
namespace Go.Proofs.Ytocdifclkopbcaa

/-- The digits of n, each less one, least first, at most f of them. -/
def digsF (k : Nat) : Nat → Nat → List Nat
  | 0, _ => []
  | _ + 1, 0 => []
  | f + 1, n + 1 => (n % k) :: digsF k f (n / k)
/-- The digits of n, each less one, least first. -/
def digs (k n : Nat) : List Nat := digsF k n n

theorem digsF_zero (k f : Nat) : digsF k f 0 = [] := by cases f <;> rfl
theorem digsF_more (k : Nat) : ∀ (f g n : Nat), n ≤ f → n ≤ g → digsF k f n = digsF k g n
  | 0, g, n, h, _ => by
    have : n = 0 := by omega
    subst this
    rw [digsF_zero, digsF_zero]
  | f + 1, 0, n, _, h => by
    have : n = 0 := by omega
    subst this
    rw [digsF_zero, digsF_zero]
  | f + 1, g + 1, 0, _, _ => rfl
  | f + 1, g + 1, n + 1, h1, h2 => by
    have : n / k ≤ n := Nat.div_le_self n k
    simp only [digsF]
    rw [digsF_more k f g (n / k) (by omega) (by omega)]
theorem digs_zero (k : Nat) : digs k 0 = [] := rfl
theorem digs_succ (k n : Nat) : digs k (n + 1) = (n % k) :: digs k (n / k) := by
  show (n % k) :: digsF k n (n / k) = _
  rw [digsF_more k n (n / k) (n / k) (Nat.div_le_self n k) (Nat.le_refl _)]
  rfl
theorem digs_lt (k : Nat) (hk : 0 < k) : ∀ (f n : Nat), ∀ d ∈ digsF k f n, d < k
  | 0, _, d, h => by simp [digsF] at h
  | f + 1, 0, d, h => by simp [digsF] at h
  | f + 1, n + 1, d, h => by
    simp only [digsF, List.mem_cons] at h
    rcases h with rfl | h
    · exact Nat.mod_lt _ hk
    · exact digs_lt k hk f (n / k) d h
/-- The letters of the word with the number n, from behind. -/
def nthB (k n : Nat) : List UInt8 := (digs k n).map fun d => UInt8.ofNat (97 + d)
/-- The word with the number n. -/
def nthW (k n : Nat) : List UInt8 := (nthB k n).reverse
theorem nthB_zero (k : Nat) : nthB k 0 = [] := rfl
theorem nthB_succ (k n : Nat) : nthB k (n + 1) = UInt8.ofNat (97 + n % k) :: nthB k (n / k) := by simp [nthB, digs_succ]
theorem nthB_len (k n : Nat) : (nthB k n).length = (digs k n).length := by simp [nthB]

end Go.Proofs.Ytocdifclkopbcaa
