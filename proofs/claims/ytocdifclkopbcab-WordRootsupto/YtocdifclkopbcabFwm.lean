/- Plain mathematics: Fine and Wilf; the list of periods is rising and lies within the word. -/
import Derived.Test.YtocdifclkopbcabPer
namespace Go.Proofs.Ytocdifclkopbcab

/-- p is a period of the first n letters of f. -/
def perF (f : Nat → UInt8) (n p : Nat) : Prop := ∀ i, i + p < n → f i = f (i + p)
theorem perF_many (f : Nat → UInt8) (n p a : Nat) (h : perF f n p) : ∀ t, a + t * p < n → f a = f (a + t * p)
  | 0, _ => by simp
  | t + 1, ht => by
    have e : a + (t + 1) * p = (a + t * p) + p := by rw [Nat.succ_mul]; omega
    rw [e] at ht ⊢
    rw [perF_many f n p a h t (by omega)]
    exact h _ ht
theorem perF_step (f : Nat → UInt8) (n p q g : Nat) (hq : 0 < q) (hqp : q < p) (hg : 0 < g) (hgp : g ∣ p) (hgq : g ∣ q) (h1 : perF f n q) (h2 : p + q ≤ n + g)
    (ih : perF f (n - q) g) : perF f n g := by
  obtain ⟨a, rfl⟩ := hgp
  obtain ⟨b, rfl⟩ := hgq
  have hb : 0 < b := by
    rcases Nat.eq_zero_or_pos b with h | h
    · subst h; omega
    · exact h
  have hab : b < a := Nat.lt_of_mul_lt_mul_left hqp
  have hba : g * b + g ≤ g * a := by
    have : g * (b + 1) ≤ g * a := Nat.mul_le_mul_left g hab
    rw [Nat.mul_succ] at this
    exact this
  have hgb : g ≤ g * b := Nat.le_mul_of_pos_right g hb
  intro i hi
  by_cases h3 : i + g < n - g * b
  · exact ih i h3
  · by_cases h4 : g * b ≤ i
    · have e1 := h1 (i - g * b) (by omega)
      have e2 := h1 (i + g - g * b) (by omega)
      have e3 := ih (i - g * b) (by omega)
      rw [show i - g * b + g * b = i by omega] at e1
      rw [show i + g - g * b + g * b = i + g by omega] at e2
      rw [show i - g * b + g = i + g - g * b by omega] at e3
      rw [← e1, ← e2, e3]
    · have e2 := h1 (i + g - g * b) (by omega)
      rw [show i + g - g * b + g * b = i + g by omega] at e2
      have eb : (b - 1) * g = g * b - g := by
        rw [Nat.sub_mul, Nat.one_mul, Nat.mul_comm]
      have e3 := perF_many f (n - g * b) g (i + g - g * b) ih (b - 1) (by rw [eb]; omega)
      rw [eb, show i + g - g * b + (g * b - g) = i by omega] at e3
      rw [← e2, e3]
/-- Fine and Wilf. -/
theorem fine_wilf (f : Nat → UInt8) : ∀ (fuel n p q : Nat), p + q ≤ fuel → 0 < p → 0 < q → perF f n p → perF f n q → p + q ≤ n + Nat.gcd p q → perF f n (Nat.gcd p q)
  | 0, n, p, q, h0, hp, hq, _, _, _ => by omega
  | fuel + 1, n, p, q, h0, hp, hq, h1, h2, h3 => by
    rcases Nat.lt_trichotomy p q with h | h | h
    · have hg : 0 < Nat.gcd p q := Nat.gcd_pos_of_pos_left q hp
      have e : Nat.gcd p (q - p) = Nat.gcd p q := Nat.gcd_sub_self_right (Nat.le_of_lt h)
      have hn : p ≤ n := by have := Nat.le_of_dvd hp (Nat.gcd_dvd_left p q); have := Nat.le_of_dvd hq (Nat.gcd_dvd_right p q); omega
      have ih := fine_wilf f fuel (n - p) p (q - p) (by omega) hp (by omega) (fun i hi => h1 i (by omega)) (fun i hi => by
        have a := h2 i (by omega)
        have b := h1 (i + (q - p)) (by omega)
        rw [show i + (q - p) + p = i + q by omega] at b
        rw [a, b]) (by rw [e]; omega)
      rw [e] at ih
      exact perF_step f n q p (Nat.gcd p q) hp h hg (Nat.gcd_dvd_right p q) (Nat.gcd_dvd_left p q) h1 (by omega) ih
    · subst h
      rw [Nat.gcd_self]
      exact h1
    · have hg : 0 < Nat.gcd p q := Nat.gcd_pos_of_pos_left q hp
      have e : Nat.gcd (p - q) q = Nat.gcd p q := Nat.gcd_sub_self_left (Nat.le_of_lt h)
      have hn : q ≤ n := by have := Nat.le_of_dvd hp (Nat.gcd_dvd_left p q); have := Nat.le_of_dvd hq (Nat.gcd_dvd_right p q); omega
      have ih := fine_wilf f fuel (n - q) (p - q) q (by omega) (by omega) hq (fun i hi => by
        have a := h1 i (by omega)
        have b := h2 (i + (p - q)) (by omega)
        rw [show i + (p - q) + q = i + p by omega] at b
        rw [a, b]) (fun i hi => h2 i (by omega)) (by rw [e]; omega)
      rw [e] at ih
      exact perF_step f n p q (Nat.gcd p q) hq h hg (Nat.gcd_dvd_left p q) (Nat.gcd_dvd_right p q) h2 (by omega) ih

theorem mem_pers (s : ByteArray) (k p : Nat) : p ∈ pers s k ↔ 1 ≤ p ∧ p ≤ k ∧ perB s p = true := by
  unfold pers
  rw [List.mem_filter, List.mem_map]
  constructor
  · rintro ⟨⟨a, ha, rfl⟩, h⟩
    rw [List.mem_range] at ha
    exact ⟨by omega, by omega, h⟩
  · rintro ⟨h1, h2, h3⟩
    exact ⟨⟨p - 1, List.mem_range.2 (by omega), by omega⟩, h3⟩
theorem pers_rise (s : ByteArray) (k : Nat) : (pers s k).Pairwise (· < ·) := by
  induction k with
  | zero => simp [pers]
  | succ k ih =>
    rw [pers_succ, List.pairwise_append]
    refine ⟨ih, ?_, ?_⟩
    · split <;> simp
    · intro a ha b hb
      have h1 := (mem_pers s k a).1 ha
      split at hb
      · simp at hb; omega
      · simp at hb
theorem pers_fw (s : ByteArray) (p q : Nat) (hp : p ∈ pers s s.size) (hq : q ∈ pers s s.size) (h : p + q ≤ s.size + Nat.gcd p q) : Nat.gcd p q ∈ pers s s.size := by
  obtain ⟨p1, p2, p3⟩ := (mem_pers s s.size p).1 hp
  obtain ⟨q1, q2, q3⟩ := (mem_pers s s.size q).1 hq
  have hg : Nat.gcd p q ≤ p := Nat.gcd_le_left q p1
  have hg0 : 0 < Nat.gcd p q := Nat.gcd_pos_of_pos_left q p1
  refine (mem_pers s s.size _).2 ⟨hg0, by omega, ?_⟩
  rw [perB_iff s _ (by omega)]
  rw [perB_iff s _ p2] at p3
  rw [perB_iff s _ q2] at q3
  exact fine_wilf (at' s) (p + q) s.size p q (Nat.le_refl _) p1 q1 p3 q3 h

end Go.Proofs.Ytocdifclkopbcab
