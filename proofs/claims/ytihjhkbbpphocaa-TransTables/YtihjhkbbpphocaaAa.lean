/- Arithmetic alone (of no program): images packed six bits each, ten a word; lists of images. -/
import Derived.Test.YtihjhkbbpphocaaRows
import Derived.WalkKit
import Derived.Laws.Bits64b
namespace Go.Proofs.Ytihjhkbbpphocaa
open Go.RowKit
set_option linter.unusedVariables false

/-- Word k of the first i images, packed. -/
def pk (f : Nat → Nat) : Nat → Nat → Nat
  | 0, _ => 0
  | i + 1, k => if k = i / 10 then pk f i k ||| f i <<< (6 * (i % 10)) else pk f i k
/-- Image i of packed words. -/
def dg (g : Nat → Nat) (i : Nat) : Nat := (g (i / 10) >>> (6 * (i % 10))) &&& 63
theorem pk_zero (f : Nat → Nat) (k : Nat) : pk f 0 k = 0 := rfl
theorem pk_succ (f : Nat → Nat) (i k : Nat) : pk f (i + 1) k = if k = i / 10 then pk f i k ||| f i <<< (6 * (i % 10)) else pk f i k := rfl
theorem pk_congr {f g : Nat → Nat} : ∀ {n : Nat}, (∀ i, i < n → f i = g i) → ∀ k, pk f n k = pk g n k
  | 0, _, _ => rfl
  | n + 1, h, k => by rw [pk_succ, pk_succ, pk_congr (fun i hi => h i (by omega)) k, h n (by omega)]
theorem shl_lt {x s : Nat} (hx : x < 256) (hs : s ≤ 54) : x <<< s < 2 ^ 62 := by
  rw [Nat.shiftLeft_eq]
  calc x * 2 ^ s < 256 * 2 ^ s := Nat.mul_lt_mul_of_pos_right hx (Nat.two_pow_pos s)
    _ ≤ 256 * 2 ^ 54 := Nat.mul_le_mul_left _ (Nat.pow_le_pow_right (by decide) hs)
    _ = 2 ^ 62 := by decide
theorem pk_lt {f : Nat → Nat} : ∀ {n : Nat}, (∀ i, i < n → f i < 256) → ∀ k, pk f n k < 2 ^ 62
  | 0, _, _ => by rw [pk_zero]; decide
  | n + 1, h, k => by
    have ih := pk_lt (n := n) (fun i hi => h i (by omega)) k
    rw [pk_succ]
    split
    · exact Nat.or_lt_two_pow ih (shl_lt (h n (by omega)) (by omega))
    · exact ih
theorem bit64 {x j : Nat} (hx : x < 64) (hj : 6 ≤ j) : x.testBit j = false :=
  Nat.testBit_lt_two_pow (Nat.lt_of_lt_of_le hx (show 2 ^ 6 ≤ 2 ^ j from Nat.pow_le_pow_right (by decide) hj))
theorem pk_bit {f : Nat → Nat} : ∀ {n : Nat}, (∀ i, i < n → f i < 64) → ∀ k j, (pk f n k).testBit j = (decide (j < 60 ∧ 10 * k + j / 6 < n) && (f (10 * k + j / 6)).testBit (j % 6))
  | 0, _, k, j => by rw [pk_zero, decide_eq_false (by omega)]; simp
  | n + 1, h, k, j => by
    have ih := pk_bit (n := n) (fun i hi => h i (by omega)) k j
    have hn := h n (by omega)
    rw [pk_succ]
    by_cases hk : k = n / 10
    · rw [if_pos hk, Nat.testBit_or, ih, Nat.testBit_shiftLeft]
      by_cases hj : j / 6 = n % 10
      · have e : 10 * k + j / 6 = n := by omega
        rw [e, decide_eq_false (p := j < 60 ∧ n < n) (by omega), decide_eq_true (p := j < 60 ∧ n < n + 1) (by omega), decide_eq_true (p := j ≥ 6 * (n % 10)) (by omega)]
        simp only [Bool.false_and, Bool.false_or, Bool.true_and]
        congr 1
        omega
      · have e1 : (decide (j ≥ 6 * (n % 10)) && (f n).testBit (j - 6 * (n % 10))) = false := by
          by_cases q : j ≥ 6 * (n % 10)
          · rw [bit64 hn (by omega)]; simp
          · rw [decide_eq_false q]; rfl
        rw [e1, Bool.or_false]
        congr 1
        rw [decide_eq_decide]
        omega
    · rw [if_neg hk, ih]
      congr 1
      rw [decide_eq_decide]
      omega
theorem dg_lt (g : Nat → Nat) (i : Nat) : dg g i < 64 := by
  unfold dg
  exact Nat.lt_of_le_of_lt Nat.and_le_right (by decide)
theorem bit63 (j : Nat) : (63 : Nat).testBit j = decide (j < 6) := by
  have : (63 : Nat) = 2 ^ 6 - 1 := rfl
  rw [this, Nat.testBit_two_pow_sub_one]
theorem dg_bit (g : Nat → Nat) (i j : Nat) : (dg g i).testBit j = ((g (i / 10)).testBit (6 * (i % 10) + j) && decide (j < 6)) := by
  unfold dg
  rw [Nat.testBit_and, Nat.testBit_shiftRight, bit63]
theorem dg_pk {f : Nat → Nat} {n : Nat} (h : ∀ i, i < n → f i < 64) {i : Nat} (hi : i < n) : dg (pk f n) i = f i := by
  apply Nat.eq_of_testBit_eq
  intro j
  rw [dg_bit, pk_bit h]
  by_cases hj : j < 6
  · have e1 : (6 * (i % 10) + j) / 6 = i % 10 := by omega
    have e2 : (6 * (i % 10) + j) % 6 = j := by omega
    have e3 : 10 * (i / 10) + i % 10 = i := by omega
    rw [e1, e2, e3, decide_eq_true hj, decide_eq_true (by omega)]
    simp
  · rw [decide_eq_false hj, bit64 (h i hi) (by omega), Bool.and_false]
theorem pk_high {f : Nat → Nat} {n k : Nat} (h : ∀ i, i < n → f i < 64) (hk : n ≤ 10 * k) : pk f n k = 0 := by
  apply Nat.eq_of_testBit_eq
  intro j
  rw [pk_bit h, decide_eq_false (by omega)]
  simp

/-! ### Lists of images -/
/-- A list's images as a function. -/
def im (l : List Nat) (i : Nat) : Nat := l.getD i 0
theorem im_lt {l : List Nat} {i : Nat} (h : i < l.length) : im l i = l[i] := by simp [im, h]
theorem im_ge {l : List Nat} {i : Nat} (h : l.length ≤ i) : im l i = 0 := by simp [im, h]
/-- A transformation: 1 to 64 points, each goes to one of them. -/
structure Tf (l : List Nat) : Prop where
  pos : 1 ≤ l.length
  le : l.length ≤ 64
  lt : ∀ i, i < l.length → im l i < l.length
theorem Tf.lt64 {l : List Nat} (h : Tf l) : ∀ i, i < l.length → im l i < 64 := fun i hi => Nat.lt_of_lt_of_le (h.lt i hi) h.le
theorem im_ext {l m : List Nat} (hl : l.length = m.length) (h : ∀ i, i < l.length → im l i = im m i) : l = m := by
  apply List.ext_getElem hl
  intro i h1 h2
  have := h i h1
  rwa [im_lt h1, im_lt h2] at this
/-- The list of a function's first n values. -/
def tb (f : Nat → Nat) (n : Nat) : List Nat := (List.range n).map f
theorem tb_len (f : Nat → Nat) (n : Nat) : (tb f n).length = n := by simp [tb]
theorem tb_im (f : Nat → Nat) {n i : Nat} (h : i < n) : im (tb f n) i = f i := by simp [im, tb, h]
theorem tb_of (l : List Nat) : tb (im l) l.length = l := im_ext (tb_len _ _) (fun i hi => tb_im _ (by rwa [tb_len] at hi))
theorem tb_succ (f : Nat → Nat) (n : Nat) : tb f (n + 1) = tb f n ++ [f n] := by simp [tb, List.range_succ]
theorem tb_congr {f g : Nat → Nat} {n : Nat} (h : ∀ i, i < n → f i = g i) : tb f n = tb g n := by
  unfold tb
  exact List.map_congr_left (fun i hi => h i (List.mem_range.1 hi))
/-- Seven words are those of n images, each below n. -/
def okT (N : Int) (g : Nat → Nat) : Prop := 1 ≤ N ∧ N ≤ 64 ∧ (∀ i, i < N.toNat → dg g i < N.toNat) ∧ ∀ k, k < 7 → pk (dg g) N.toNat k = g k
instance (N : Int) (g : Nat → Nat) : Decidable (okT N g) := by unfold okT; infer_instance
theorem Tf.okT {l : List Nat} (h : Tf l) : okT (l.length : Int) (pk (im l) l.length) := by
  have hp := h.pos
  have hl := h.le
  refine ⟨by omega, by omega, ?_, ?_⟩
  · intro i hi
    rw [Int.toNat_natCast] at hi ⊢
    rw [dg_pk h.lt64 hi]
    exact h.lt i hi
  · intro k _
    rw [Int.toNat_natCast]
    exact pk_congr (fun i hi => dg_pk h.lt64 hi) k
theorem okT.tf {N : Int} {g : Nat → Nat} (h : okT N g) : ∃ l : List Nat, Tf l ∧ N = l.length ∧ ∀ k, k < 7 → g k = pk (im l) l.length k := by
  obtain ⟨h1, h2, h3, h4⟩ := h
  refine ⟨tb (dg g) N.toNat, ⟨by rw [tb_len]; omega, by rw [tb_len]; omega, ?_⟩, by rw [tb_len]; omega, ?_⟩
  · intro i hi
    rw [tb_len] at hi ⊢
    rw [tb_im _ hi]
    exact h3 i hi
  · intro k hk
    rw [← h4 k hk, tb_len]
    exact pk_congr (fun i hi => (tb_im _ hi).symm) k
theorem pk_inj {l m : List Nat} (hl : Tf l) (hm : Tf m) (e : l.length = m.length) (h : ∀ k, k < 7 → pk (im l) l.length k = pk (im m) m.length k) : l = m := by
  apply im_ext e
  intro i hi
  have hle := hl.le
  have hk := h (i / 10) (by omega)
  rw [← dg_pk hl.lt64 hi, ← dg_pk hm.lt64 (e ▸ hi)]
  unfold dg
  rw [hk]
/-- First l, then m. -/
def cmp (l m : List Nat) : List Nat := l.map (im m)
theorem cmp_len (l m : List Nat) : (cmp l m).length = l.length := by simp [cmp]
theorem cmp_im (l m : List Nat) {i : Nat} (h : i < l.length) : im (cmp l m) i = im m (im l i) := by simp [cmp, im, h]
theorem cmp_tf {l m : List Nat} (hl : Tf l) (hm : Tf m) (e : l.length = m.length) : Tf (cmp l m) := by
  refine ⟨by rw [cmp_len]; exact hl.pos, by rw [cmp_len]; exact hl.le, ?_⟩
  intro i hi
  rw [cmp_len] at hi ⊢
  rw [cmp_im _ _ hi, e]
  exact hm.lt _ (e ▸ hl.lt i hi)
theorem cmp_assoc {a b c : List Nat} (ha : Tf a) (e : a.length = b.length) : cmp (cmp a b) c = cmp a (cmp b c) := by
  apply im_ext (by rw [cmp_len, cmp_len, cmp_len])
  intro i hi
  rw [cmp_len, cmp_len] at hi
  rw [cmp_im _ _ (by rw [cmp_len]; exact hi), cmp_im _ _ hi, cmp_im _ _ hi, cmp_im _ _ (e ▸ ha.lt i hi)]
/-- Where each of n points stays. -/
def stl (n : Nat) : List Nat := List.range n
theorem stl_len (n : Nat) : (stl n).length = n := by simp [stl]
theorem stl_im {n i : Nat} (h : i < n) : im (stl n) i = i := by simp [im, stl, h]
theorem stl_tf {n : Nat} (h1 : 1 ≤ n) (h2 : n ≤ 64) : Tf (stl n) := ⟨by rw [stl_len]; exact h1, by rw [stl_len]; exact h2, fun i hi => by rw [stl_len] at hi ⊢; rw [stl_im hi]; exact hi⟩
theorem stl_cmp {l : List Nat} : cmp (stl l.length) l = l := by
  apply im_ext (by rw [cmp_len, stl_len])
  intro i hi
  rw [cmp_len] at hi
  rw [cmp_im _ _ hi, stl_im (by rwa [stl_len] at hi)]
theorem cmp_stl {l : List Nat} (h : Tf l) {n : Nat} (e : l.length = n) : cmp l (stl n) = l := by
  apply im_ext (by rw [cmp_len])
  intro i hi
  rw [cmp_len] at hi
  rw [cmp_im _ _ hi, stl_im (e ▸ h.lt i hi)]
/-- n times l. -/
def pwr (l : List Nat) : Nat → List Nat
  | 0 => stl l.length
  | n + 1 => cmp (pwr l n) l
theorem pwr_len (l : List Nat) : ∀ n, (pwr l n).length = l.length
  | 0 => stl_len _
  | n + 1 => by rw [pwr, cmp_len, pwr_len l n]
theorem pwr_tf {l : List Nat} (h : Tf l) : ∀ n, Tf (pwr l n)
  | 0 => stl_tf h.pos h.le
  | n + 1 => cmp_tf (pwr_tf h n) h (pwr_len l n)
theorem pwr_add {l : List Nat} (h : Tf l) (m : Nat) : ∀ n, pwr l (m + n) = cmp (pwr l m) (pwr l n)
  | 0 => by rw [Nat.add_zero, pwr, cmp_stl (pwr_tf h m) (pwr_len l m)]
  | n + 1 => by
    have e : m + (n + 1) = (m + n) + 1 := by omega
    rw [e, pwr, pwr_add h m n, pwr, cmp_assoc (pwr_tf h m) (by rw [pwr_len, pwr_len])]
theorem pwr_one {l : List Nat} : pwr l 1 = l := by rw [pwr, pwr, stl_cmp]
theorem pwr_comm {l : List Nat} (h : Tf l) (m n : Nat) : cmp (pwr l m) (pwr l n) = cmp (pwr l n) (pwr l m) := by
  rw [← pwr_add h, ← pwr_add h, Nat.add_comm]
theorem pwr_mul {l : List Nat} (h : Tf l) (m : Nat) : ∀ n, pwr (pwr l m) n = pwr l (m * n)
  | 0 => by rw [Nat.mul_zero, pwr, pwr, pwr_len]
  | n + 1 => by rw [pwr, pwr_mul h m n, Nat.mul_succ, pwr_add h]
end Go.Proofs.Ytihjhkbbpphocaa
