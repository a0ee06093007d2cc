/- Plain mathematics of words over k letters out of any text, and of their order: over's answer is a word; letters put ahead of both words keep their order; the order turned about. -/
import Derived.Test.YtocdifclkopbcaaOvr
namespace Go.Proofs.Ytocdifclkopbcaa
open Go.RowKit Go.Lib

/-- A text out of a list of letters. -/
def str (l : List UInt8) : ByteArray := ⟨l.toArray⟩
theorem str_size (l : List UInt8) : (str l).size = l.length := by simp [str, ByteArray.size]
theorem str_list (l : List UInt8) : (str l).data.toList = l := by simp [str]
/-- All letters are among the first k. -/
def isW (k : Nat) (l : List UInt8) : Prop := ∀ c ∈ l, 97 ≤ c.toNat ∧ c.toNat < 97 + k
theorem chk_isW (k : Nat) (l : List UInt8) (h1 : 1 ≤ k) (h8 : k ≤ 8) (h : isW k l) : chk (k : Int) (str l) = 0 := by
  have e : (str l).data.toList.all (letterAt (k : Int)) = true := by
    rw [str_list, List.all_eq_true]
    intro c hc
    have := h c hc
    simp [letterAt]
    omega
  unfold chk
  rw [if_neg (by omega), if_pos e]
theorem isW_ovr (k : Nat) (l : List UInt8) (h1 : 1 ≤ k) (h8 : k ≤ 8) : isW k (ovr k l) := by
  intro c hc
  simp only [ovr, List.mem_map] at hc
  obtain ⟨a, _, rfl⟩ := hc
  have : a.toNat % k < k := Nat.mod_lt _ (by omega)
  have e : (UInt8.ofNat (97 + a.toNat % k)).toNat = 97 + a.toNat % k := by
    rw [UInt8.toNat_ofNat']
    omega
  omega
theorem isW_append {k : Nat} {a b : List UInt8} (ha : isW k a) (hb : isW k b) : isW k (a ++ b) := by
  intro c hc
  rcases List.mem_append.1 hc with h | h
  · exact ha c h
  · exact hb c h
theorem isW_reverse {k : Nat} {a : List UInt8} (ha : isW k a) : isW k a.reverse := fun c hc => ha c (List.mem_reverse.1 hc)
theorem isW_a {k : Nat} {a : List UInt8} (h1 : 1 ≤ k) (ha : isW k a) : isW k (97 :: a) := by
  intro c hc
  rcases List.mem_cons.1 hc with h | h
  · rw [h]; exact ⟨by decide, by show 97 < 97 + k; omega⟩
  · exact ha c h
theorem revA_isW (k : Nat) (l : List UInt8) (h1 : 1 ≤ k) (h8 : k ≤ 8) (h : isW k l) : revA (k : Int) (str l) = l.reverse := by
  unfold revA
  rw [if_pos (chk_isW k l h1 h8 h), str_list]
/-- The order of two lists of letters. -/
def ordL (a b : List UInt8) : Int := if a.length < b.length then -1 else if b.length < a.length then 1 else compareBytes a b
theorem ord_str (a b : List UInt8) : ord (str a) (str b) = ordL a b := by simp [ord, ordL, sc, str_size, str_list]
theorem cmpN_isW (k : Nat) (a b : List UInt8) (h1 : 1 ≤ k) (h8 : k ≤ 8) (ha : isW k a) (hb : isW k b) : cmpE (k : Int) (str a) (str b) = 0 ∧ cmpN (k : Int) (str a) (str b) = ordL a b := by
  have := cmp3 (chk_isW k a h1 h8 ha) (chk_isW k b h1 h8 hb)
  rw [ord_str] at this
  exact this
theorem cb_cons (x : UInt8) (a b : List UInt8) : compareBytes (x :: a) (x :: b) = compareBytes a b := by
  have : ¬ x < x := by simp
  simp [compareBytes]
theorem ordL_cons (x : UInt8) (a b : List UInt8) : ordL (x :: a) (x :: b) = ordL a b := by
  unfold ordL
  rw [cb_cons]
  simp only [List.length_cons]
  by_cases h : a.length < b.length
  · rw [if_pos (by omega), if_pos h]
  · by_cases g : b.length < a.length
    · rw [if_neg (by omega), if_pos (by omega), if_neg h, if_pos g]
    · rw [if_neg (by omega), if_neg (by omega), if_neg h, if_neg g]
theorem cb_swap : ∀ (a b : List UInt8), compareBytes a b = - compareBytes b a
  | [], [] => by simp [compareBytes]
  | [], _ :: _ => by simp [compareBytes]
  | _ :: _, [] => by simp [compareBytes]
  | x :: a, y :: b => by
    simp only [compareBytes]
    by_cases h : x < y
    · have g : ¬ y < x := UInt8.lt_asymm h
      simp [h, g]
    · by_cases g : y < x
      · simp [h, g]
      · simp only [h, g, if_false]
        exact cb_swap a b
theorem ordL_swap (a b : List UInt8) : ordL a b = - ordL b a := by
  unfold ordL
  by_cases h : a.length < b.length
  · rw [if_pos h, if_neg (by omega), if_pos h]
  · by_cases g : b.length < a.length
    · rw [if_neg h, if_pos g, if_pos g]; rfl
    · rw [if_neg h, if_neg g, if_neg g, if_neg h]
      exact cb_swap a b
theorem cb_range : ∀ (a b : List UInt8), -1 ≤ compareBytes a b ∧ compareBytes a b ≤ 1
  | [], [] => by simp [compareBytes]
  | [], _ :: _ => by simp [compareBytes]
  | _ :: _, [] => by simp [compareBytes]
  | x :: a, y :: b => by
    simp only [compareBytes]
    by_cases h : x < y
    · simp [h]
    · by_cases g : y < x
      · simp [h, g]
      · simp only [h, g, if_false]
        exact cb_range a b
theorem ordL_range (a b : List UInt8) : -1 ≤ ordL a b ∧ ordL a b ≤ 1 := by
  unfold ordL
  by_cases h : a.length < b.length
  · rw [if_pos h]; omega
  · by_cases g : b.length < a.length
    · rw [if_neg h, if_pos g]; omega
    · rw [if_neg h, if_neg g]; exact cb_range a b

end Go.Proofs.Ytocdifclkopbcaa
