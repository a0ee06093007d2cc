/- Plain mathematics: a number's word has that number; words over two letters and more have few of them; the order of words is that of their numbers. -/
import Derived.Test.YtocdifclkopbcaaNxt
namespace Go.Proofs.Ytocdifclkopbcaa
open Go.Lib

theorem isW_nthB (k n : Nat) (h1 : 1 ≤ k) (h8 : k ≤ 8) : isW k (nthB k n) := by
  intro c hc
  simp only [nthB, List.mem_map] at hc
  obtain ⟨d, hd, rfl⟩ := hc
  have := digs_lt k (by omega) n n d hd
  have e : (UInt8.ofNat (97 + d)).toNat = 97 + d := by rw [UInt8.toNat_ofNat']; omega
  omega
theorem isW_nthW (k n : Nat) (h1 : 1 ≤ k) (h8 : k ≤ 8) : isW k (nthW k n) := isW_reverse (isW_nthB k n h1 h8)
theorem rankR_nthF (k : Nat) (h1 : 1 ≤ k) (h8 : k ≤ 8) : ∀ (f n : Nat), n ≤ f → rankR k (nthB k n) = n
  | _, 0, _ => rfl
  | 0, n + 1, h => by omega
  | f + 1, n + 1, h => by
    have hd : n / k ≤ n := Nat.div_le_self n k
    have hm : n % k < k := Nat.mod_lt _ (by omega)
    have ih := rankR_nthF k h1 h8 f (n / k) (by omega)
    have e : (UInt8.ofNat (97 + n % k)).toNat = 97 + n % k := by rw [UInt8.toNat_ofNat']; omega
    rw [nthB_succ, rankR, ih, e]
    have := Nat.div_add_mod n k
    rw [Nat.mul_comm] at this
    omega
theorem rank_nth (k n : Nat) (h1 : 1 ≤ k) (h8 : k ≤ 8) : rankL k (nthW k n) = n := by
  rw [rankL_R, nthW, List.reverse_reverse]
  exact rankR_nthF k h1 h8 n n (Nat.le_refl _)
theorem nth_few (k : Nat) (h2 : 2 ≤ k) : ∀ (f n : Nat), n ≤ f → 2 ^ (nthB k n).length ≤ n + 1
  | _, 0, _ => by simp [nthB_zero]
  | 0, n + 1, h => by omega
  | f + 1, n + 1, h => by
    have hd : n / k ≤ n / 2 := Nat.div_le_div_left h2 (by omega)
    have ih := nth_few k h2 f (n / k) (by omega)
    rw [nthB_succ, List.length_cons, Nat.pow_succ]
    omega
theorem nth_short (k n : Nat) (h2 : 2 ≤ k) (hn : n < 18446744073709551616) : (nthB k n).length ≤ 4096 := by
  have h := nth_few k h2 n n (Nat.le_refl _)
  rcases Nat.lt_or_ge 64 (nthB k n).length with g | g
  · have : 2 ^ 65 ≤ 2 ^ (nthB k n).length := Nat.pow_le_pow_right (by omega) g
    omega
  · omega
/-- The least number of a word of m letters. -/
def leastOf (k : Nat) : Nat → Nat
  | 0 => 0
  | m + 1 => leastOf k m * k + 1
theorem leastOf_up (k : Nat) (h1 : 1 ≤ k) (m : Nat) : leastOf k m < leastOf k (m + 1) := by
  have : leastOf k m ≤ leastOf k m * k := Nat.le_mul_of_pos_right _ h1
  show _ < leastOf k m * k + 1
  omega
theorem leastOf_mono (k : Nat) (h1 : 1 ≤ k) (m : Nat) : ∀ d, leastOf k m ≤ leastOf k (m + d)
  | 0 => Nat.le_refl _
  | d + 1 => Nat.le_trans (leastOf_mono k h1 m d) (Nat.le_of_lt (leastOf_up k h1 (m + d)))
theorem rankR_range (k : Nat) (h1 : 1 ≤ k) : ∀ (r : List UInt8), isW k r → leastOf k r.length ≤ rankR k r ∧ rankR k r < leastOf k (r.length + 1)
  | [], _ => by simp [leastOf, rankR]
  | c :: r, h => by
    have hc := h c (by simp)
    obtain ⟨a, b⟩ := rankR_range k h1 r (fun x hx => h x (by simp [hx]))
    have h2 := Nat.mul_le_mul_right k a
    have h3 : (rankR k r + 1) * k ≤ leastOf k (r.length + 1) * k := Nat.mul_le_mul_right k b
    rw [Nat.add_mul] at h3
    simp only [rankR, List.length_cons]
    refine ⟨?_, ?_⟩
    · show leastOf k r.length * k + 1 ≤ _
      omega
    · show _ < leastOf k (r.length + 1) * k + 1
      omega
theorem rank_shorter (k : Nat) (h1 : 1 ≤ k) (a b : List UInt8) (ha : isW k a) (hb : isW k b) (h : a.length < b.length) : rankL k a < rankL k b := by
  rw [rankL_R, rankL_R]
  have x := (rankR_range k h1 a.reverse (isW_reverse ha)).2
  have y := (rankR_range k h1 b.reverse (isW_reverse hb)).1
  rw [List.length_reverse] at x y
  obtain ⟨d, hd⟩ : ∃ d, b.length = a.length + 1 + d := ⟨b.length - a.length - 1, by omega⟩
  have z := leastOf_mono k h1 (a.length + 1) d
  rw [← hd] at z
  omega
/-- The number that letters lead to from n on. -/
def rankFrom (k n : Nat) (l : List UInt8) : Nat := l.foldl (fun n c => n * k + (c.toNat - 96)) n
theorem rankFrom_lt (k : Nat) : ∀ (a b : List UInt8) (n m : Nat), a.length = b.length → isW k a → isW k b → n < m → rankFrom k n a < rankFrom k m b
  | [], [], n, m, _, _, _, h => h
  | [], _ :: _, _, _, h, _, _, _ => by simp at h
  | _ :: _, [], _, _, h, _, _, _ => by simp at h
  | x :: a, y :: b, n, m, hl, ha, hb, h => by
    have hx := ha x (by simp)
    have hy := hb y (by simp)
    have hnm : (n + 1) * k ≤ m * k := Nat.mul_le_mul_right k h
    rw [Nat.add_mul] at hnm
    exact rankFrom_lt k a b _ _ (by simpa using hl) (fun c hc => ha c (by simp [hc])) (fun c hc => hb c (by simp [hc])) (show n * k + (x.toNat - 96) < m * k + (y.toNat - 96) by omega)
theorem rankFrom_cmp (k : Nat) : ∀ (a b : List UInt8) (n : Nat), a.length = b.length → isW k a → isW k b →
    (compareBytes a b = 0 → a = b) ∧ (compareBytes a b < 0 → rankFrom k n a < rankFrom k n b) ∧ (0 < compareBytes a b → rankFrom k n b < rankFrom k n a)
  | [], [], n, _, _, _ => by simp [compareBytes]
  | [], _ :: _, _, h, _, _ => by simp at h
  | _ :: _, [], _, h, _, _ => by simp at h
  | x :: a, y :: b, n, hl, ha, hb => by
    have hx := ha x (by simp)
    have hy := hb y (by simp)
    have ha' : isW k a := fun c hc => ha c (by simp [hc])
    have hb' : isW k b := fun c hc => hb c (by simp [hc])
    have hl' : a.length = b.length := by simpa using hl
    by_cases h : x < y
    · have hn : x.toNat < y.toNat := UInt8.lt_iff_toNat_lt.1 h
      have e : compareBytes (x :: a) (y :: b) = -1 := by simp [compareBytes, h]
      rw [e]
      exact ⟨by omega, fun _ => rankFrom_lt k a b _ _ hl' ha' hb' (show n * k + (x.toNat - 96) < n * k + (y.toNat - 96) by omega), by omega⟩
    · by_cases g : y < x
      · have hn : y.toNat < x.toNat := UInt8.lt_iff_toNat_lt.1 g
        have e : compareBytes (x :: a) (y :: b) = 1 := by simp [compareBytes, h, g]
        rw [e]
        exact ⟨by omega, by omega, fun _ => rankFrom_lt k b a _ _ hl'.symm hb' ha' (show n * k + (y.toNat - 96) < n * k + (x.toNat - 96) by omega)⟩
      · have e : x = y := by
          apply UInt8.toNat_inj.1
          rw [UInt8.lt_iff_toNat_lt] at h g
          omega
        subst e
        rw [cb_cons]
        obtain ⟨p, q, r⟩ := rankFrom_cmp k a b (n * k + (x.toNat - 96)) hl' ha' hb'
        exact ⟨fun z => by rw [p z], q, r⟩
theorem ord_rank (k : Nat) (h1 : 1 ≤ k) (a b : List UInt8) (ha : isW k a) (hb : isW k b) :
    (ordL a b = 0 ∧ rankL k a = rankL k b) ∨ (ordL a b = -1 ∧ rankL k a < rankL k b) ∨ (ordL a b = 1 ∧ rankL k b < rankL k a) := by
  by_cases h : a.length < b.length
  · refine .inr (.inl ⟨?_, rank_shorter k h1 a b ha hb h⟩)
    unfold ordL
    rw [if_pos h]
  by_cases g : b.length < a.length
  · refine .inr (.inr ⟨?_, rank_shorter k h1 b a hb ha g⟩)
    unfold ordL
    rw [if_neg h, if_pos g]
  have e : ordL a b = compareBytes a b := by
    unfold ordL
    rw [if_neg h, if_neg g]
  obtain ⟨p, q, r⟩ := rankFrom_cmp k a b 0 (by omega) ha hb
  have rg := cb_range a b
  rw [e]
  rcases Int.lt_trichotomy (compareBytes a b) 0 with c | c | c
  · exact .inr (.inl ⟨by omega, q c⟩)
  · exact .inl ⟨c, by rw [p c]⟩
  · exact .inr (.inr ⟨by omega, r c⟩)

end Go.Proofs.Ytocdifclkopbcaa
