/- Pure: the tails and rings of a transformation's points; its index and its period. -/
import Derived.Test.YtihjhkbbpphocaaAa
namespace Go.Proofs.Ytihjhkbbpphocaa
set_option linter.unusedVariables false

/-- Where k steps lead. -/
def orb (f : Nat → Nat) (i : Nat) : Nat → Nat
  | 0 => i
  | k + 1 => f (orb f i k)
theorem orb_add (f : Nat → Nat) (i a : Nat) : ∀ b, orb f i (a + b) = orb f (orb f i a) b
  | 0 => rfl
  | b + 1 => by rw [← Nat.add_assoc]; show f _ = f _; rw [orb_add f i a b]
theorem orb_lt {f : Nat → Nat} {n : Nat} (h : ∀ i, i < n → f i < n) {i : Nat} (hi : i < n) : ∀ k, orb f i k < n
  | 0 => hi
  | k + 1 => h _ (orb_lt h hi k)
/-- The first t steps are a tail, the next r a ring. -/
structure TR (f : Nat → Nat) (i t r : Nat) : Prop where
  apart : ∀ a b, a < b → b < t + r → orb f i a ≠ orb f i b
  back : orb f i (t + r) = orb f i t
  pos : 1 ≤ r
theorem TR.shift {f : Nat → Nat} {i t r : Nat} (h : TR f i t r) {a : Nat} (ha : t ≤ a) : orb f i (a + r) = orb f i a := by
  obtain ⟨d, rfl⟩ : ∃ d, a = t + d := ⟨a - t, by omega⟩
  have e : t + d + r = (t + r) + d := by omega
  rw [e, orb_add, h.back, ← orb_add]
theorem TR.shifts {f : Nat → Nat} {i t r : Nat} (h : TR f i t r) {a : Nat} (ha : t ≤ a) : ∀ m, orb f i (a + r * m) = orb f i a
  | 0 => rfl
  | m + 1 => by
    have e : a + r * (m + 1) = (a + r * m) + r := by rw [Nat.mul_succ]; omega
    rw [e, h.shift (by omega), h.shifts ha m]
theorem TR.red {f : Nat → Nat} {i t r : Nat} (h : TR f i t r) {a : Nat} (ha : t ≤ a) : orb f i a = orb f i (t + (a - t) % r) := by
  have e : a = t + (a - t) % r + r * ((a - t) / r) := by
    have := Nat.mod_add_div (a - t) r
    omega
  conv => lhs; rw [e]
  exact h.shifts (by omega) _
theorem TR.iff {f : Nat → Nat} {i t r : Nat} (h : TR f i t r) (a q : Nat) (hq : 1 ≤ q) : orb f i (a + q) = orb f i a ↔ t ≤ a ∧ r ∣ q := by
  have hr := h.pos
  constructor
  · intro e
    by_cases ha : t ≤ a
    · refine ⟨ha, ?_⟩
      rw [h.red ha, h.red (a := a + q) (by omega)] at e
      have m1 := Nat.mod_lt (a - t) hr
      have m2 := Nat.mod_lt (a + q - t) hr
      have e2 : (a + q - t) % r = (a - t) % r := by
        rcases Nat.lt_trichotomy ((a + q - t) % r) ((a - t) % r) with c | c | c
        · exact absurd e (h.apart _ _ (by omega) (by omega))
        · exact c
        · exact absurd e.symm (h.apart _ _ (by omega) (by omega))
      have e3 : a + q - t = (a - t) + q := by omega
      rw [e3] at e2
      have := Nat.sub_mod_eq_zero_of_mod_eq e2
      have e4 : (a - t) + q - (a - t) = q := by omega
      rw [e4] at this
      exact Nat.dvd_of_mod_eq_zero this
    · exfalso
      by_cases hs : a + q < t + r
      · exact h.apart a (a + q) (by omega) hs e.symm
      · rw [h.red (a := a + q) (by omega)] at e
        have m2 := Nat.mod_lt (a + q - t) hr
        exact h.apart a (t + (a + q - t) % r) (by omega) (by omega) e.symm
  · rintro ⟨ha, m, rfl⟩
    exact h.shifts ha m
theorem TR.uniq {f : Nat → Nat} {i t r t' r' : Nat} (h : TR f i t r) (h' : TR f i t' r') : t = t' ∧ r = r' := by
  have a1 := (h'.iff t r h.pos).1 h.back
  have a2 := (h.iff t' r' h'.pos).1 h'.back
  exact ⟨by omega, Nat.dvd_antisymm a2.2 a1.2⟩
theorem nodup_le : ∀ (N : Nat) (l : List Nat), l.Nodup → (∀ x ∈ l, x < N) → l.length ≤ N := by
  intro N
  induction N with
  | zero =>
    intro l _ h
    cases l with
    | nil => simp
    | cons x _ => exact absurd (h x (by simp)) (by omega)
  | succ N ih =>
    intro l hn h
    have h1 := ih (l.filter (fun x => x != N)) (hn.filter _) (fun x hx => by
      simp only [List.mem_filter, bne_iff_ne, ne_eq] at hx
      have := h x hx.1
      omega)
    have h2 : l.length ≤ (l.filter (fun x => x != N)).length + 1 := by
      clear ih h h1
      induction l with
      | nil => simp
      | cons y l ih =>
        rw [List.nodup_cons] at hn
        have := ih hn.2
        by_cases hy : y = N
        · have e : l.filter (fun x => x != N) = l := by
            rw [List.filter_eq_self]
            intro x hx
            rw [bne_iff_ne]
            intro q
            exact hn.1 (by rw [hy, ← q]; exact hx)
          rw [List.filter_cons, if_neg (by simp [hy]), e, List.length_cons]
          exact Nat.le_refl _
        · rw [List.filter_cons, if_pos (by simp [hy]), List.length_cons, List.length_cons]
          omega
    omega
theorem map_nodup {f : Nat → Nat} {n : Nat} (h : ∀ a b, a < b → b < n → f a ≠ f b) : ((List.range n).map f).Nodup := by
  rw [List.Nodup, List.pairwise_map]
  exact (List.pairwise_lt_range (n := n)).imp_of_mem (fun {a b} _ hb hab => h a b hab (List.mem_range.1 hb))
theorem TR.le {f : Nat → Nat} {n i t r : Nat} (h : TR f i t r) (hf : ∀ i, i < n → f i < n) (hi : i < n) : t + r ≤ n := by
  have := nodup_le n ((List.range (t + r)).map (orb f i)) (map_nodup (fun a b hab hb => h.apart a b hab hb)) (fun x hx => by
    obtain ⟨k, _, rfl⟩ := List.mem_map.1 hx
    exact orb_lt hf hi k)
  simpa using this
theorem im_pwr {l : List Nat} {i : Nat} (hi : i < l.length) : ∀ k, im (pwr l k) i = orb (im l) i k
  | 0 => stl_im hi
  | k + 1 => by rw [pwr, cmp_im _ _ (by rw [pwr_len]; exact hi), im_pwr hi k]; rfl
theorem pwr_eq_iff (l : List Nat) (a b : Nat) : pwr l a = pwr l b ↔ ∀ i, i < l.length → orb (im l) i a = orb (im l) i b := by
  constructor
  · intro h i hi
    rw [← im_pwr hi, ← im_pwr hi, h]
  · intro h
    apply im_ext (by rw [pwr_len, pwr_len])
    intro i hi
    rw [pwr_len] at hi
    rw [im_pwr hi, im_pwr hi, h i hi]
theorem cube_le : ∀ r : Fin 65, r.val ^ 3 ≤ 3 ^ r.val := by decide +kernel
/-- What is known of the first i points: the greatest tail, the least common multiple of the rings. -/
structure CY (l : List Nat) (i x p : Nat) : Prop where
  iff : ∀ a q, 1 ≤ q → ((∀ j, j < i → orb (im l) j (a + q) = orb (im l) j a) ↔ x ≤ a ∧ p ∣ q)
  pos : 1 ≤ p
  lt : x < l.length
  few : ∃ M : List Nat, M.Nodup ∧ (∀ y ∈ M, y < l.length ∧ im l y ∈ M ∧ orb (im l) y p = y) ∧ p ^ 3 ≤ 3 ^ M.length
theorem CY.zero {l : List Nat} (h : Tf l) : CY l 0 0 1 := ⟨fun a q hq => ⟨fun _ => ⟨Nat.zero_le _, Nat.one_dvd _⟩, fun _ j hj => absurd hj (by omega)⟩, Nat.le_refl _, h.pos, [], List.nodup_nil, by simp, by simp⟩
theorem orb_mul {f : Nat → Nat} {y p : Nat} (h : orb f y p = y) : ∀ m, orb f y (p * m) = y
  | 0 => rfl
  | m + 1 => by rw [Nat.mul_succ, orb_add, orb_mul h m, h]
theorem orb_in {f : Nat → Nat} {M : List Nat} (h : ∀ y ∈ M, f y ∈ M) {y : Nat} (hy : y ∈ M) : ∀ d, orb f y d ∈ M
  | 0 => hy
  | d + 1 => h _ (orb_in h hy d)
theorem CY.small {l : List Nat} (h : Tf l) {i x p : Nat} (c : CY l i x p) : p ≤ 31381059609 := by
  obtain ⟨M, h1, h2, h3⟩ := c.few
  have h4 := nodup_le l.length M h1 (fun y hy => (h2 y hy).1)
  have h5 : p ^ 3 ≤ 3 ^ 64 := Nat.le_trans h3 (Nat.pow_le_pow_right (by decide) (Nat.le_trans h4 h.le))
  rcases Nat.lt_or_ge 31381059609 p with q | q
  · have : 31381059609 ^ 3 < p ^ 3 := Nat.pow_lt_pow_left q (by decide)
    have e : (3 : Nat) ^ 64 ≤ 31381059609 ^ 3 := by decide
    omega
  · exact q
theorem lcm_eq (p r : Nat) : p / Nat.gcd p r * r = Nat.lcm p r := by
  rw [Nat.lcm, Nat.div_mul_right_comm (Nat.gcd_dvd_left p r)]
theorem lcm_dvd_iff {p r q : Nat} : Nat.lcm p r ∣ q ↔ p ∣ q ∧ r ∣ q :=
  ⟨fun h => ⟨Nat.dvd_trans (Nat.dvd_lcm_left p r) h, Nat.dvd_trans (Nat.dvd_lcm_right p r) h⟩, fun h => Nat.lcm_dvd h.1 h.2⟩
theorem CY.next {l : List Nat} (h : Tf l) {i x p t r : Nat} (c : CY l i x p) (hi : i < l.length) (R : TR (im l) i t r) : CY l (i + 1) (max x t) (p / Nat.gcd p r * r) := by
  have hle := R.le h.lt hi
  have hrp := R.pos
  have hpp := c.pos
  rw [lcm_eq]
  have hlp : 1 ≤ Nat.lcm p r := Nat.lcm_pos hpp hrp
  have hlt := c.lt
  refine ⟨?_, hlp, by omega, ?_⟩
  · intro a q hq
    rw [lcm_dvd_iff]
    have k1 := c.iff a q hq
    have k2 := R.iff a q hq
    constructor
    · intro H
      have a1 := k1.1 (fun j hj => H j (by omega))
      have a2 := k2.1 (H i (by omega))
      exact ⟨by omega, a1.2, a2.2⟩
    · rintro ⟨b1, b2, b3⟩ j hj
      by_cases e : j = i
      · rw [e]; exact k2.2 ⟨by omega, b3⟩
      · exact k1.2 ⟨by omega, b2⟩ j (by omega)
  · obtain ⟨M, h1, h2, h3⟩ := c.few
    have hcl : ∀ y ∈ M, im l y ∈ M := fun y hy => (h2 y hy).2.1
    by_cases hy : orb (im l) i t ∈ M
    · have e := (h2 _ hy).2.2
      rw [← orb_add] at e
      have hd := ((R.iff t p hpp).1 e).2
      have el : Nat.lcm p r = p := Nat.dvd_antisymm (Nat.lcm_dvd (Nat.dvd_refl _) hd) (Nat.dvd_lcm_left _ _)
      rw [el]
      exact ⟨M, h1, h2, h3⟩
    · refine ⟨M ++ (List.range r).map (fun d => orb (im l) i (t + d)), ?_, ?_, ?_⟩
      · rw [List.nodup_append]
        refine ⟨h1, map_nodup (fun a b hab hb => R.apart _ _ (by omega) (by omega)), ?_⟩
        intro a ha b hb e
        obtain ⟨d, hd, rfl⟩ := List.mem_map.1 hb
        rw [List.mem_range] at hd
        apply hy
        have := orb_in hcl (e ▸ ha) (r - d)
        rw [← orb_add] at this
        have e2 : t + d + (r - d) = t + r := by omega
        rw [e2, R.back] at this
        exact this
      · intro y hym
        rcases List.mem_append.1 hym with q | q
        · obtain ⟨q1, q2, q3⟩ := h2 y q
          refine ⟨q1, List.mem_append_left _ q2, ?_⟩
          obtain ⟨m, hm⟩ := Nat.dvd_lcm_left p r
          rw [hm]
          exact orb_mul q3 m
        · obtain ⟨d, hd, rfl⟩ := List.mem_map.1 q
          rw [List.mem_range] at hd
          refine ⟨orb_lt h.lt hi _, List.mem_append_right _ ?_, ?_⟩
          · by_cases e : d + 1 = r
            · refine List.mem_map.2 ⟨0, List.mem_range.2 hrp, ?_⟩
              show orb (im l) i (t + 0) = im l (orb (im l) i (t + d))
              have : im l (orb (im l) i (t + d)) = orb (im l) i (t + (d + 1)) := rfl
              rw [this, e, R.back]
              rfl
            · exact List.mem_map.2 ⟨d + 1, List.mem_range.2 (by omega), rfl⟩
          · rw [← orb_add]
            exact (R.iff _ _ hlp).2 ⟨by omega, Nat.dvd_lcm_right _ _⟩
      · rw [List.length_append, List.length_map, List.length_range, Nat.pow_add]
        have hrl : r ≤ 64 := Nat.le_trans (by omega) (Nat.le_trans hle h.le)
        have c1 : Nat.lcm p r ≤ p * r := Nat.div_le_self _ _
        have c2 : Nat.lcm p r ^ 3 ≤ (p * r) ^ 3 := Nat.pow_le_pow_left c1 3
        rw [Nat.mul_pow] at c2
        exact Nat.le_trans c2 (Nat.mul_le_mul h3 (cube_le ⟨r, by omega⟩))
/-- Index x and period p of l. -/
def Cyc (l : List Nat) (x p : Nat) : Prop := CY l l.length x p
theorem Cyc.pwr {l : List Nat} {x p : Nat} (c : Cyc l x p) (a q : Nat) (hq : 1 ≤ q) : pwr l (a + q) = pwr l a ↔ x ≤ a ∧ p ∣ q := by
  rw [pwr_eq_iff]
  exact c.iff a q hq
theorem Cyc.uniq {l : List Nat} {x p x' p' : Nat} (c : Cyc l x p) (c' : Cyc l x' p') : x = x' ∧ p = p' := by
  have a1 := (c'.pwr x p c.pos).1 ((c.pwr x p c.pos).2 ⟨Nat.le_refl _, Nat.dvd_refl _⟩)
  have a2 := (c.pwr x' p' c'.pos).1 ((c'.pwr x' p' c'.pos).2 ⟨Nat.le_refl _, Nat.dvd_refl _⟩)
  exact ⟨by omega, Nat.dvd_antisymm a2.2 a1.2⟩
end Go.Proofs.Ytihjhkbbpphocaa
