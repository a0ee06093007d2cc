/- E42 E43 E44, in one text. -/
import Derived.Test.YtflclnkaccbfcaaW2
import Derived.Test.YtflclnkaccbfcaaAb
import Derived.Test.YtflclnkaccbfcaaW1
import Derived.Test.YtflclnkaccbfcaaJh
namespace Go.Proofs.Ytflclnkaccbfcaa
set_option linter.unusedVariables false

theorem least_of {p : Nat → Prop} (h : ∃ n, p n) : ∃ n, p n ∧ ∀ m, m < n → ¬ p m := by
  obtain ⟨n, hn⟩ := h
  induction n using Nat.strongRecOn with
  | _ n ih =>
    by_cases c : ∃ m, m < n ∧ p m
    · obtain ⟨m, hm, hp⟩ := c
      exact ih m hm hp
    · exact ⟨n, hn, fun m hm hp => c ⟨m, hm, hp⟩⟩

/-- Each point has its tail and its ring. -/
theorem tr_ex {f : Nat → Nat} {n i : Nat} (h : ∀ i, i < n → f i < n) (hi : i < n) : ∃ t r, TR f i t r := by
  have h1 : ∃ b, ∃ a, a < b ∧ orb f i a = orb f i b := by
    apply Classical.byContradiction
    intro hc
    have := nodup_le n ((List.range (n + 1)).map (orb f i)) (map_nodup (fun a b hab hb e => hc ⟨b, a, hab, e⟩)) (fun x hx => by
      obtain ⟨k, _, rfl⟩ := List.mem_map.1 hx
      exact orb_lt h hi k)
    simp at this
    omega
  obtain ⟨b, ⟨a, hab, e⟩, hm⟩ := least_of h1
  refine ⟨a, b - a, ?_, ?_, by omega⟩
  · intro c d hcd hd q
    exact hm d (by omega) ⟨c, hcd, q⟩
  · rw [show a + (b - a) = b by omega, e]

/-- Multiplying by i from the right. -/
def rm (K : Nat) (N : List Nat) (i : Nat) : Nat → Nat := fun x => pr K N x i

/-- The power n of i. -/
def pwN (K : Nat) (N : List Nat) (i n : Nat) : Nat := orb (rm K N i) 0 n

theorem pwN_zero (K : Nat) (N : List Nat) (i : Nat) : pwN K N i 0 = 0 := rfl

theorem pwN_succ (K : Nat) (N : List Nat) (i n : Nat) : pwN K N i (n + 1) = pr K N (pwN K N i n) i := rfl

theorem Mon.rm_lt {A : Aut} {M : List (List Nat)} {N : List Nat} (h : Mon A M N) {i : Nat} (hi : i < M.length) : ∀ x, x < M.length → rm A.k.toNat N i x < M.length := fun x hx => h.pr_lt hx hi

theorem Mon.pw_lt {A : Aut} {M : List (List Nat)} {N : List Nat} (h : Mon A M N) {i : Nat} (hi : i < M.length) (n : Nat) : pwN A.k.toNat N i n < M.length := orb_lt (h.rm_lt hi) h.pos n

theorem Mon.pw_one {A : Aut} {M : List (List Nat)} {N : List Nat} (h : Mon A M N) {i : Nat} (hi : i < M.length) : pwN A.k.toNat N i 1 = i := h.one_pr hi

theorem Mon.pw_add {A : Aut} {M : List (List Nat)} {N : List Nat} (h : Mon A M N) {i : Nat} (hi : i < M.length) (a : Nat) : ∀ b, pwN A.k.toNat N i (a + b) = Go.Proofs.Ytflclnkaccbfcaa.pr A.k.toNat N (pwN A.k.toNat N i a) (pwN A.k.toNat N i b)
  | 0 => rfl
  | b + 1 => by rw [← Nat.add_assoc, pwN_succ, h.pw_add hi a b, h.assoc (h.pw_lt hi a) (h.pw_lt hi b) hi, pwN_succ]

theorem Mon.pw_mul {A : Aut} {M : List (List Nat)} {N : List Nat} (h : Mon A M N) {i : Nat} (hi : i < M.length) (a : Nat) : ∀ b, pwN A.k.toNat N (pwN A.k.toNat N i a) b = pwN A.k.toNat N i (a * b)
  | 0 => rfl
  | b + 1 => by rw [pwN_succ, h.pw_mul hi a b, Nat.mul_succ, h.pw_add hi]

theorem Mon.pw_idem {A : Aut} {M : List (List Nat)} {N : List Nat} (h : Mon A M N) {x : Nat} (hx : x < M.length) (e : Go.Proofs.Ytflclnkaccbfcaa.pr A.k.toNat N x x = x) : ∀ n, 1 ≤ n → pwN A.k.toNat N x n = x
  | 0, h0 => by omega
  | 1, _ => h.pw_one hx
  | n + 2, _ => by rw [pwN_succ, h.pw_idem hx e (n + 1) (by omega), e]

/-- w is the idempotent among i's powers. -/
def OmQ (K : Nat) (N : List Nat) (i w : Nat) : Prop := ∃ n, 1 ≤ n ∧ pwN K N i n = w ∧ pr K N w w = w

theorem Mon.om_uniq {A : Aut} {M : List (List Nat)} {N : List Nat} (h : Mon A M N) {i : Nat} (hi : i < M.length) {x y : Nat} (hx : OmQ A.k.toNat N i x) (hy : OmQ A.k.toNat N i y) : x = y := by
  obtain ⟨n, n1, rfl, hn⟩ := hx
  obtain ⟨m, m1, rfl, hm⟩ := hy
  rw [← h.pw_idem (h.pw_lt hi n) hn m m1, ← h.pw_idem (h.pw_lt hi m) hm n n1, h.pw_mul hi, h.pw_mul hi, Nat.mul_comm]

theorem Mon.om_lt {A : Aut} {M : List (List Nat)} {N : List Nat} (h : Mon A M N) {i : Nat} (hi : i < M.length) {x : Nat} (hx : OmQ A.k.toNat N i x) : x < M.length := by
  obtain ⟨n, _, rfl, _⟩ := hx
  exact h.pw_lt hi n

/-- A power is idempotent just from the index on, at multiples of the period. -/
theorem Mon.idem_iff {A : Aut} {M : List (List Nat)} {N : List Nat} (h : Mon A M N) {i : Nat} (hi : i < M.length) {t r : Nat} (R : TR (rm A.k.toNat N i) 0 t r) (n : Nat) (hn : 1 ≤ n) : Go.Proofs.Ytflclnkaccbfcaa.pr A.k.toNat N (pwN A.k.toNat N i n) (pwN A.k.toNat N i n) = pwN A.k.toNat N i n ↔ t ≤ n ∧ r ∣ n := by
  rw [← h.pw_add hi]
  exact R.iff n n hn

theorem Mon.om_ex {A : Aut} {M : List (List Nat)} {N : List Nat} (h : Mon A M N) {i : Nat} (hi : i < M.length) : ∃ n, 1 ≤ n ∧ n ≤ M.length ∧ Go.Proofs.Ytflclnkaccbfcaa.pr A.k.toNat N (pwN A.k.toNat N i n) (pwN A.k.toNat N i n) = pwN A.k.toNat N i n := by
  obtain ⟨t, r, R⟩ := tr_ex (h.rm_lt hi) h.pos
  have hle := R.le (h.rm_lt hi) h.pos
  have hr := R.pos
  by_cases ht : t = 0
  · exact ⟨r, hr, by omega, (h.idem_iff hi R r hr).2 ⟨by omega, Nat.dvd_refl _⟩⟩
  · have e := Nat.mod_add_div (t + r - 1) r
    have hm := Nat.mod_lt (t + r - 1) hr
    refine ⟨r * ((t + r - 1) / r), by omega, by omega, (h.idem_iff hi R _ (by omega)).2 ⟨by omega, Nat.dvd_mul_right _ _⟩⟩

/-- Powers of products, turned about. -/
theorem Mon.pw_turn {A : Aut} {M : List (List Nat)} {N : List Nat} (h : Mon A M N) {i j : Nat} (hi : i < M.length) (hj : j < M.length) : ∀ n, pwN A.k.toNat N (Go.Proofs.Ytflclnkaccbfcaa.pr A.k.toNat N i j) (n + 1) = Go.Proofs.Ytflclnkaccbfcaa.pr A.k.toNat N (Go.Proofs.Ytflclnkaccbfcaa.pr A.k.toNat N i (pwN A.k.toNat N (Go.Proofs.Ytflclnkaccbfcaa.pr A.k.toNat N j i) n)) j
  | 0 => by rw [h.pw_one (h.pr_lt hi hj)]; rfl
  | n + 1 => by
    have hji := h.pr_lt hj hi
    have hp := h.pw_lt hji n
    rw [pwN_succ, h.pw_turn hi hj n, pwN_succ, h.assoc (h.pr_lt hi hp) hj (h.pr_lt hi hj), ← h.assoc hj hi hj, ← h.assoc (h.pr_lt hi hp) hji hj, ← h.assoc hi hp hji]

theorem Mon.per_dvd {A : Aut} {M : List (List Nat)} {N : List Nat} (h : Mon A M N) {i j : Nat} (hi : i < M.length) (hj : j < M.length) {t r t' r' : Nat} (R : TR (rm A.k.toNat N (Go.Proofs.Ytflclnkaccbfcaa.pr A.k.toNat N i j)) 0 t r) (R' : TR (rm A.k.toNat N (Go.Proofs.Ytflclnkaccbfcaa.pr A.k.toNat N j i)) 0 t' r') : r ∣ r' := by
  have e : pwN A.k.toNat N (Go.Proofs.Ytflclnkaccbfcaa.pr A.k.toNat N i j) (t' + 1 + r') = pwN A.k.toNat N (Go.Proofs.Ytflclnkaccbfcaa.pr A.k.toNat N i j) (t' + 1) := by
    rw [show t' + 1 + r' = (t' + r') + 1 by omega, h.pw_turn hi hj, h.pw_turn hi hj]
    have : pwN A.k.toNat N (Go.Proofs.Ytflclnkaccbfcaa.pr A.k.toNat N j i) (t' + r') = pwN A.k.toNat N (Go.Proofs.Ytflclnkaccbfcaa.pr A.k.toNat N j i) t' := R'.back
    rw [this]
  exact ((R.iff _ _ R'.pos).1 e).2

theorem Mon.per_same {A : Aut} {M : List (List Nat)} {N : List Nat} (h : Mon A M N) {i j : Nat} (hi : i < M.length) (hj : j < M.length) {t r t' r' : Nat} (R : TR (rm A.k.toNat N (Go.Proofs.Ytflclnkaccbfcaa.pr A.k.toNat N i j)) 0 t r) (R' : TR (rm A.k.toNat N (Go.Proofs.Ytflclnkaccbfcaa.pr A.k.toNat N j i)) 0 t' r') : r = r' :=
  Nat.dvd_antisymm (h.per_dvd hi hj R R') (h.per_dvd hj hi R' R)

end Go.Proofs.Ytflclnkaccbfcaa

namespace Go.Proofs.Ytflclnkaccbfcaa
set_option linter.unusedVariables false

/-- The primes from 23 to 61. -/
def bigP : List Nat := [23, 29, 31, 37, 41, 43, 47, 53, 59, 61]
theorem bigP_dvd : ∀ q ∈ bigP, ∀ r, r ∣ q → r = 1 ∨ r = q := by
  have k : ∀ q ∈ bigP, ∀ r ∈ List.range 62, r ∣ q → r = 1 ∨ r = q := by decide +kernel
  have k2 : ∀ q ∈ bigP, 0 < q ∧ q ≤ 61 := by decide
  intro q hq r hr
  have := Nat.le_of_dvd (k2 q hq).1 hr
  exact k q hq r (List.mem_range.2 (by have := (k2 q hq).2; omega)) hr
theorem bigP_le : ∀ q ∈ bigP, 23 ≤ q ∧ q ≤ 61 := by decide
theorem bigP_two : ∀ p ∈ bigP, ∀ q ∈ bigP, p ≠ q → 512 < p * q := by decide +kernel
theorem bigP_three : ∀ p ∈ bigP, ∀ q ∈ bigP, ∀ r ∈ bigP, p ≠ q → p ≠ r → q ≠ r → 83 ≤ p + q + r := by decide +kernel
theorem ring_big : ∀ r ∈ List.range 65, 1 ≤ r → r ∣ 97772875200 ∨ ∃ q ∈ bigP, q ∣ r ∧ r ∣ 97772875200 * q := by decide +kernel
theorem bigP_cop {p e : Nat} (hp : p ∈ bigP) (h : ¬ p ∣ e) : Nat.gcd e p = 1 := by
  rcases bigP_dvd p hp _ (Nat.gcd_dvd_right e p) with c | c
  · exact c
  · exact absurd (c ▸ Nat.gcd_dvd_left e p) h
/-- Periods of a sequence: their greatest common divisor is one. -/
theorem per_gcd {α : Type} (f : Nat → α) : ∀ (a b : Nat), (∀ k, f (k + a) = f k) → (∀ k, f (k + b) = f k) → ∀ k, f (k + Nat.gcd a b) = f k := by
  intro a b
  induction a, b using Nat.gcd.induction with
  | H0 n => intro _ h k; rw [Nat.gcd_zero_left]; exact h k
  | H1 m n hm ih =>
    intro h1 h2 k
    have hmul : ∀ c k, f (k + m * c) = f k := by
      intro c
      induction c with
      | zero => intro k; rfl
      | succ c ihc => intro k; rw [Nat.mul_succ, ← Nat.add_assoc, h1, ihc]
    rw [Nat.gcd_rec]
    refine ih (fun k => ?_) h1 k
    have e := Nat.mod_add_div n m
    have := hmul (n / m) (k + n % m)
    rw [Nat.add_assoc, e, h2] at this
    exact this.symm
theorem per_one {α : Type} (f : Nat → α) (h : ∀ k, f (k + 1) = f k) : ∀ k, f k = f 0
  | 0 => rfl
  | k + 1 => by rw [h, per_one f h k]
theorem orb_comm (f : Nat → Nat) (i a b : Nat) : orb f (orb f i a) b = orb f (orb f i b) a := by
  rw [← orb_add, ← orb_add, Nat.add_comm]
theorem TR.ring {f : Nat → Nat} {s p : Nat} (h : TR f s 0 p) (k m : Nat) : orb f s (k + p * m) = orb f s k := h.shifts (Nat.zero_le _) m
/-- Two rings of unlike prime lengths that share two points: products of powers are unlike. -/
theorem two_rings {f g : Nat → Nat} {s t p q : Nat} (hp : p ∈ bigP) (hq : q ∈ bigP) (hne : p ≠ q) (F : TR f s 0 p) (G : TR g t 0 q) {a1 a2 b1 b2 : Nat} (e1 : orb f s a1 = orb g t b1) (e2 : orb f s a2 = orb g t b2) (hu : orb f s a1 ≠ orb f s a2)
    {i i' j j' : Nat} (hi : i < p) (hi' : i' < p) (hj : j < q) (hj' : j' < q) (H : ∀ k, orb g (orb f (orb f s k) i) j = orb g (orb f (orb f s k) i') j') : i = i' ∧ j = j' := by
  obtain ⟨e, he⟩ : ∃ e, e = p - i + i' := ⟨_, rfl⟩
  have S : ∀ k, orb g (orb f s k) j = orb g (orb f s (k + e)) j' := fun k => by
    have := H (k + (p - i))
    rw [← orb_add, ← orb_add] at this
    rw [show k + (p - i) + i = k + p * 1 by omega, F.ring, show k + (p - i) + i' = k + e by omega] at this
    exact this
  have I : ∀ m k, orb g (orb f s k) (m * j) = orb g (orb f s (k + m * e)) (m * j') := by
    intro m
    induction m with
    | zero => intro k; simp
    | succ m ih =>
      intro k
      rw [Nat.succ_mul, orb_add, ih k, orb_comm, S, orb_comm, ← orb_add, Nat.succ_mul, Nat.succ_mul, Nat.add_assoc]
  have hcop : Nat.gcd q p = 1 := bigP_cop hp (fun hd => by
    rcases bigP_dvd q hq p hd with c | c
    · have := bigP_le p hp; omega
    · exact hne c)
  have hjj : j = j' := by
    have h1 := I p a1
    rw [F.ring, e1, ← orb_add, ← orb_add] at h1
    have key : ∀ x y, x < q → y < q → x ≤ y → orb g t (b1 + p * x) = orb g t (b1 + p * y) → x = y := fun x y hx hy hxy hh => by
      by_cases c : x = y
      · exact c
      · have h2 : p * x + p * (y - x) = p * y := by rw [← Nat.mul_add]; congr 1; omega
        have hpp := (bigP_le p hp).1
        have h3 : 1 ≤ p * (y - x) := Nat.mul_pos (by omega) (by omega)
        have h4 := (G.iff (b1 + p * x) (p * (y - x)) h3).1 (by rw [Nat.add_assoc, h2, hh])
        have h5 : q ∣ y - x := Nat.Coprime.dvd_of_dvd_mul_left (k := q) (m := p) (n := y - x) hcop h4.2
        have := Nat.le_of_dvd (by omega) h5
        omega
    rcases Nat.le_total j j' with c | c
    · exact key j j' hj hj' c h1
    · exact (key j' j hj' hj c h1.symm).symm
  subst hjj
  refine ⟨?_, rfl⟩
  apply Classical.byContradiction
  intro hii
  have hnd : ¬ p ∣ e := fun hd => by
    have h2 : e < p + p := by omega
    obtain ⟨c, hc⟩ := hd
    have : c = 1 := by
      rcases Nat.lt_or_ge c 2 with k | k
      · have : c ≠ 0 := fun c0 => by rw [c0] at hc; omega
        omega
      · have := Nat.mul_le_mul_left p k
        omega
    rw [this] at hc
    omega
  have hg := bigP_cop hp hnd
  have P1 := per_gcd (fun k => orb g (orb f s k) j) e p (fun k => (S k).symm) (fun k => by
    have := F.ring k 1
    rw [Nat.mul_one] at this
    rw [this])
  rw [hg] at P1
  have hc := (per_one (fun k => orb g (orb f s k) j) P1 a1).trans (per_one (fun k => orb g (orb f s k) j) P1 a2).symm
  replace hc : orb g (orb f s a1) j = orb g (orb f s a2) j := hc
  rw [e1, e2, ← orb_add, ← orb_add] at hc
  have hb : b1 % q ≠ b2 % q := fun hb => by
    apply hu
    rw [e1, e2]
    have k1 := G.ring (b1 % q) (b1 / q)
    have k2 := G.ring (b2 % q) (b2 / q)
    rw [Nat.mod_add_div] at k1 k2
    rw [k1, k2, hb]
  have key : ∀ x y, x ≤ y → orb g t (x + j) = orb g t (y + j) → x % q = y % q := fun x y hxy hh => by
    by_cases c : x = y
    · rw [c]
    · have h4 := (G.iff (x + j) (y - x) (by omega)).1 (by rw [show x + j + (y - x) = y + j by omega, hh])
      obtain ⟨z, hz⟩ := h4.2
      rw [show y = x + q * z by omega, Nat.add_mul_mod_self_left]
  rcases Nat.le_total b1 b2 with c | c
  · exact hb (key _ _ c hc)
  · exact hb (key _ _ c hc.symm).symm
theorem filter_one {l : List Nat} {P : Nat → Bool} (hn : l.Nodup) (h : ∀ u ∈ l, ∀ v ∈ l, P u = true → P v = true → u = v) : l.length ≤ (l.filter (fun x => !P x)).length + 1 := by
  induction l with
  | nil => simp
  | cons y l ih =>
    rw [List.nodup_cons] at hn
    by_cases hy : P y = true
    · have e : l.filter (fun x => !P x) = l := by
        rw [List.filter_eq_self]
        intro x hx
        cases hP : P x with
        | false => rfl
        | true => exact absurd (h y (by simp) x (by simp [hx]) hy hP ▸ hx) hn.1
      rw [List.filter_cons, if_neg (by simp [hy]), e, List.length_cons]
      exact Nat.le_refl _
    · have := ih hn.2 (fun u hu v hv => h u (by simp [hu]) v (by simp [hv]))
      rw [List.filter_cons, if_pos (by simp [hy]), List.length_cons, List.length_cons]
      omega
/-- The points of a ring. -/
def rgL (f : Nat → Nat) (s p : Nat) : List Nat := (List.range p).map (orb f s)
theorem TR.nodup {f : Nat → Nat} {s p : Nat} (h : TR f s 0 p) : (rgL f s p).Nodup := map_nodup (fun a b hab hb => h.apart a b hab (by omega))
theorem mem_rgL {f : Nat → Nat} {s p x : Nat} (h : x ∈ rgL f s p) : ∃ k, k < p ∧ orb f s k = x := by
  obtain ⟨k, hk, rfl⟩ := List.mem_map.1 h
  exact ⟨k, List.mem_range.1 hk, rfl⟩
/-- Three rings that share at most one point each two. -/
theorem three_rings {L1 L2 L3 : List Nat} {n : Nat} (d1 : L1.Nodup) (d2 : L2.Nodup) (d3 : L3.Nodup) (n1 : ∀ x ∈ L1, x < n) (n2 : ∀ x ∈ L2, x < n) (n3 : ∀ x ∈ L3, x < n)
    (h12 : ∀ u ∈ L2, ∀ v ∈ L2, u ∈ L1 → v ∈ L1 → u = v) (h13 : ∀ u ∈ L3, ∀ v ∈ L3, u ∈ L1 → v ∈ L1 → u = v) (h23 : ∀ u ∈ L3, ∀ v ∈ L3, u ∈ L2 → v ∈ L2 → u = v) : L1.length + L2.length + L3.length ≤ n + 3 := by
  have c2 := filter_one (l := L2) (P := fun x => decide (x ∈ L1)) d2 (fun u hu v hv a b => h12 u hu v hv (of_decide_eq_true a) (of_decide_eq_true b))
  have c3 := filter_one (l := L3) (P := fun x => decide (x ∈ L1)) d3 (fun u hu v hv a b => h13 u hu v hv (of_decide_eq_true a) (of_decide_eq_true b))
  have d3' := d3.filter (fun x => !decide (x ∈ L1))
  have c4 := filter_one (l := L3.filter (fun x => !decide (x ∈ L1))) (P := fun x => decide (x ∈ L2)) d3' (fun u hu v hv a b => h23 u (List.mem_filter.1 hu).1 v (List.mem_filter.1 hv).1 (of_decide_eq_true a) (of_decide_eq_true b))
  have := nodup_le n (L1 ++ (L2.filter (fun x => !decide (x ∈ L1)) ++ (L3.filter (fun x => !decide (x ∈ L1))).filter (fun x => !decide (x ∈ L2)))) (by
    rw [List.nodup_append]
    refine ⟨d1, ?_, ?_⟩
    · rw [List.nodup_append]
      refine ⟨d2.filter _, d3'.filter _, ?_⟩
      intro a ha b hb e
      subst e
      simp only [List.mem_filter, Bool.not_eq_true', decide_eq_false_iff_not] at ha hb
      exact hb.2 ha.1
    · intro a ha b hb e
      subst e
      simp only [List.mem_append, List.mem_filter, Bool.not_eq_true', decide_eq_false_iff_not] at hb
      rcases hb with hb | hb
      · exact hb.2 ha
      · exact hb.1.2 ha) (fun x hx => by
    simp only [List.mem_append, List.mem_filter] at hx
    rcases hx with hx | hx | hx
    · exact n1 x hx
    · exact n2 x hx.1
    · exact n3 x hx.1.1)
  simp only [List.length_append] at this
  omega
/-- The transformation of a power. -/
theorem Mon.pw_at {A : Aut} {M : List (List Nat)} {N : List Nat} (h : Mon A M N) {i : Nat} {l : List Nat} (hi : M[i]? = some l) : ∀ n, M[pwN A.k.toNat N i n]? = some (pwr l n)
  | 0 => by rw [pwN_zero, h.bi.first, ← (h.tf hi).2]; rfl
  | n + 1 => by rw [pwN_succ, h.pr (h.pw_at hi n) hi]; rfl
/-- A ring of prime length q is met. -/
def Ring (A : Aut) (M : List (List Nat)) (q : Nat) : Prop := ∃ (i : Nat) (l : List Nat) (s : Nat), M[i]? = some l ∧ s < A.ac.length ∧ TR (im l) s 0 q
theorem Mon.im_lt {A : Aut} {M : List (List Nat)} {N : List Nat} (h : Mon A M N) {i : Nat} {l : List Nat} (hi : M[i]? = some l) : ∀ s, s < A.ac.length → im l s < A.ac.length := fun s hs => by
  have := (h.tf hi).1.lt s (by rw [(h.tf hi).2]; exact hs)
  rwa [(h.tf hi).2] at this
theorem pwr_orb {l : List Nat} (hl : ∀ s, s < l.length → im l s < l.length) (c : Nat) {s : Nat} (hs : s < l.length) : ∀ k, orb (im (pwr l c)) s k = orb (im l) s (c * k)
  | 0 => rfl
  | k + 1 => by
    show im (pwr l c) (orb (im (pwr l c)) s k) = _
    rw [pwr_orb hl c hs k, im_pwr (orb_lt hl hs _), ← orb_add, Nat.mul_succ]
theorem Mon.ring_of {A : Aut} {M : List (List Nat)} {N : List Nat} (h : Mon A M N) {i : Nat} {l : List Nat} (hi : M[i]? = some l) {s t r : Nat} (hs : s < A.ac.length) (R : TR (im l) s t r) {q : Nat} (hq : q ∈ bigP) (hd : q ∣ r) : Ring A M q := by
  obtain ⟨c, rfl⟩ := hd
  have hlen := (h.tf hi).2
  have hlt : ∀ s, s < l.length → im l s < l.length := (h.tf hi).1.lt
  have hs0 : orb (im l) s t < l.length := orb_lt hlt (by rw [hlen]; exact hs) t
  have hq1 := (bigP_le q hq).1
  have hc1 : 1 ≤ c := by
    rcases Nat.eq_zero_or_pos c with e | e
    · have := R.pos; rw [e] at this; omega
    · exact e
  refine ⟨pwN A.k.toNat N i c, pwr l c, orb (im l) s t, h.pw_at hi c, by rw [← hlen]; exact hs0, ?_⟩
  obtain ⟨t', r', R'⟩ := tr_ex (h.im_lt (h.pw_at hi c)) (by rw [← hlen]; exact hs0)
  have e1 : orb (im (pwr l c)) (orb (im l) s t) (0 + q) = orb (im (pwr l c)) (orb (im l) s t) 0 := by
    rw [pwr_orb hlt c hs0, pwr_orb hlt c hs0, ← orb_add, ← orb_add]
    have := R.shifts (Nat.le_refl t) 1
    rw [Nat.mul_one] at this
    rw [show t + c * (0 + q) = t + q * c by rw [Nat.zero_add, Nat.mul_comm], this]
    rfl
  have k1 := (R'.iff 0 q (by omega)).1 e1
  have ht : t' = 0 := by omega
  subst ht
  rcases bigP_dvd q hq r' k1.2 with e | e
  · exfalso
    rw [e] at R'
    have e2 : orb (im (pwr l c)) (orb (im l) s t) (0 + 1) = orb (im (pwr l c)) (orb (im l) s t) 0 := R'.back
    rw [pwr_orb hlt c hs0, pwr_orb hlt c hs0, ← orb_add, ← orb_add] at e2
    have k2 := (R.iff t c hc1).1 (by
      rw [show t + c * (0 + 1) = t + c by omega] at e2
      exact e2)
    have k3 := Nat.le_of_dvd hc1 k2.2
    have k4 := Nat.mul_le_mul_right c hq1
    omega
  · rw [e] at R'
    exact R'
theorem Mon.ring_two {A : Aut} {M : List (List Nat)} {N : List Nat} (h : Mon A M N) {p q i j s t : Nat} {l m : List Nat} (hp : p ∈ bigP) (hq : q ∈ bigP) (hne : p ≠ q) (hi : M[i]? = some l) (hj : M[j]? = some m) (hs : s < A.ac.length) (ht : t < A.ac.length) (F : TR (im l) s 0 p) (G : TR (im m) t 0 q) :
    ∀ u ∈ rgL (im m) t q, ∀ v ∈ rgL (im m) t q, u ∈ rgL (im l) s p → v ∈ rgL (im l) s p → u = v := by
  intro u hu v hv hu' hv'
  obtain ⟨b1, _, e1⟩ := mem_rgL hu
  obtain ⟨b2, _, e2⟩ := mem_rgL hv
  obtain ⟨a1, _, f1⟩ := mem_rgL hu'
  obtain ⟨a2, _, f2⟩ := mem_rgL hv'
  apply Classical.byContradiction
  intro huv
  have hll := (h.tf hi).2
  have hml := (h.tf hj).2
  have hil := (List.getElem?_eq_some_iff.1 hi).1
  have hjl := (List.getElem?_eq_some_iff.1 hj).1
  have hq0 : 0 < q := by have := bigP_le q hq; omega
  have hz : ∀ a b, M[Go.Proofs.Ytflclnkaccbfcaa.pr A.k.toNat N (pwN A.k.toNat N i a) (pwN A.k.toNat N j b)]? = some (cmp (pwr l a) (pwr m b)) := fun a b => h.pr (h.pw_at hi a) (h.pw_at hj b)
  have := nodup_le M.length ((List.range (p * q)).map fun k => Go.Proofs.Ytflclnkaccbfcaa.pr A.k.toNat N (pwN A.k.toNat N i (k / q)) (pwN A.k.toNat N j (k % q))) (map_nodup (fun a b hab hb e => by
      have ha : a / q < p := by rw [Nat.div_lt_iff_lt_mul hq0]; omega
      have hb' : b / q < p := by rw [Nat.div_lt_iff_lt_mul hq0]; omega
      have k1 := hz (a / q) (a % q)
      rw [e, hz, Option.some.injEq] at k1
      have k2 := two_rings hp hq hne F G (f1.trans e1.symm) (f2.trans e2.symm) (by rw [f1, f2]; exact huv) ha hb' (Nat.mod_lt a hq0) (Nat.mod_lt b hq0) (fun k => by
        have hk : orb (im l) s k < A.ac.length := orb_lt (h.im_lt hi) hs k
        have w1 : ∀ x y, im (cmp (pwr l x) (pwr m y)) (orb (im l) s k) = orb (im m) (orb (im l) (orb (im l) s k) x) y := fun x y => by
          rw [cmp_im _ _ (by rw [pwr_len, hll]; exact hk), im_pwr (l := l) (by rw [hll]; exact hk), im_pwr (l := m) (by rw [hml]; exact orb_lt (h.im_lt hi) hk x)]
        rw [← w1, ← w1, k1])
      have m1 := Nat.mod_add_div a q
      have m2 := Nat.mod_add_div b q
      rw [k2.1, k2.2] at m1
      omega)) (fun x hx => by
    obtain ⟨k, _, rfl⟩ := List.mem_map.1 hx
    exact h.pr_lt (h.pw_lt hil _) (h.pw_lt hjl _))
  rw [List.length_map, List.length_range] at this
  have := bigP_two p hp q hq hne
  have := h.most
  omega
theorem Mon.ring_three {A : Aut} {M : List (List Nat)} {N : List Nat} (h : Mon A M N) {p q r : Nat} (hp : p ∈ bigP) (hq : q ∈ bigP) (hr : r ∈ bigP) (Rp : Ring A M p) (Rq : Ring A M q) (Rr : Ring A M r) : p = q ∨ p = r ∨ q = r := by
  apply Classical.byContradiction
  intro hc
  have n1 : p ≠ q := fun e => hc (.inl e)
  have n2 : p ≠ r := fun e => hc (.inr (.inl e))
  have n3 : q ≠ r := fun e => hc (.inr (.inr e))
  obtain ⟨i, l, s, hi, hs, F⟩ := Rp
  obtain ⟨j, m, t, hj, ht, G⟩ := Rq
  obtain ⟨k, n, u, hk, hu, H⟩ := Rr
  have lt : ∀ {i l s p}, M[i]? = some l → s < A.ac.length → ∀ x ∈ rgL (im l) s p, x < A.ac.length := fun {i l s p} hi hs x hx => by
    obtain ⟨k, _, rfl⟩ := mem_rgL hx
    exact orb_lt (h.im_lt hi) hs k
  have := three_rings F.nodup G.nodup H.nodup (lt hi hs) (lt hj ht) (lt hk hu) (h.ring_two hp hq n1 hi hj hs ht F G) (h.ring_two hp hr n2 hi hk hs hu F H) (h.ring_two hq hr n3 hj hk ht hu G H)
  simp only [rgL, List.length_map, List.length_range] at this
  have := bigP_three p hp q hq r hr n1 n2 n3
  have := h.n64
  omega
/-- All periods divide one number that is not great. -/
theorem Mon.per_all {A : Aut} {M : List (List Nat)} {N : List Nat} (h : Mon A M N) : ∃ D, 1 ≤ D ∧ D ≤ 363812868619200 ∧ ∀ i t r, i < M.length → TR (rm A.k.toNat N i) 0 t r → r ∣ D := by
  obtain ⟨a, b, ha, hb, hab⟩ : ∃ a b, a ∈ bigP ∧ b ∈ bigP ∧ ∀ q ∈ bigP, Ring A M q → q = a ∨ q = b := by
    by_cases c : ∃ a, a ∈ bigP ∧ Ring A M a
    · obtain ⟨a, ha, Ra⟩ := c
      by_cases c2 : ∃ b, b ∈ bigP ∧ Ring A M b ∧ a ≠ b
      · obtain ⟨b, hb, Rb, hne⟩ := c2
        refine ⟨a, b, ha, hb, fun q hq Rq => ?_⟩
        rcases h.ring_three ha hb hq Ra Rb Rq with e | e | e
        · exact absurd e hne
        · exact .inl e.symm
        · exact .inr e.symm
      · refine ⟨a, a, ha, ha, fun q hq Rq => .inl ?_⟩
        apply Classical.byContradiction
        intro hne
        exact c2 ⟨q, hq, Rq, fun e => hne e.symm⟩
    · exact ⟨23, 23, by decide, by decide, fun q hq Rq => absurd ⟨q, hq, Rq⟩ c⟩
  have la := bigP_le a ha
  have lb := bigP_le b hb
  have hab2 : 1 * 1 ≤ a * b := Nat.mul_le_mul (by omega) (by omega)
  have hab3 : a * b ≤ 61 * 61 := Nat.mul_le_mul (by omega) (by omega)
  obtain ⟨D, hD⟩ : ∃ D, D = 97772875200 * (a * b) := ⟨_, rfl⟩
  have hDq : ∀ r' ∈ List.range 65, 1 ≤ r' → r' ∣ D ∨ ∃ q ∈ bigP, q ∣ r' ∧ (q = a ∨ q = b → r' ∣ D) := fun r' hr' h1 => by
    rcases ring_big r' hr' h1 with c | ⟨q, hq, hd, c⟩
    · exact .inl (by rw [hD]; exact Nat.dvd_trans c (Nat.dvd_mul_right _ _))
    · refine .inr ⟨q, hq, hd, fun e => ?_⟩
      rw [hD]
      refine Nat.dvd_trans c (Nat.mul_dvd_mul_left _ ?_)
      rcases e with e | e
      · rw [e]; exact Nat.dvd_mul_right _ _
      · rw [e]; exact Nat.dvd_mul_left _ _
  have hD1 : 1 ≤ D := by omega
  refine ⟨D, hD1, by omega, ?_⟩
  clear hD hab2 hab3
  intro i t r hi R
  have hl := List.getElem?_eq_getElem hi
  obtain ⟨l, hle⟩ : ∃ l, M[i] = l := ⟨_, rfl⟩
  rw [hle] at hl
  have hlen := (h.tf hl).2
  obtain ⟨X, hX⟩ : ∃ X, X = 64 := ⟨_, rfl⟩
  have kp : pwr l (X + D) = pwr l X := by
    rw [pwr_eq_iff]
    intro s hs
    obtain ⟨t', r', R'⟩ := tr_ex (f := im l) (n := A.ac.length) (h.im_lt hl) (i := s) (by rw [← hlen]; exact hs)
    have hle := R'.le (h.im_lt hl) (by rw [← hlen]; exact hs)
    have h64 := h.n64
    have hr1 := R'.pos
    refine (R'.iff X D hD1).2 ⟨by omega, ?_⟩
    rcases hDq r' (List.mem_range.2 (by omega)) hr1 with c | ⟨q, hq, hd, c⟩
    · exact c
    · exact c (hab q hq (h.ring_of hl (by rw [← hlen]; exact hs) R' hq hd))
  have key : pwN A.k.toNat N i (X + D) = pwN A.k.toNat N i X := by
    refine h.inj (h.pw_at hl _) ?_
    rw [h.pw_at hl, kp]
  exact ((R.iff X D hD1).1 key).2
end Go.Proofs.Ytflclnkaccbfcaa

namespace Go.Proofs.Ytflclnkaccbfcaa
open Go Go.RowKit Go.Lib Go.Maps
set_option linter.unusedVariables false
attribute [-instance] List.instBEq instBEqProd

theorem SR.nat {w : World} {a : Option Addr} {xs : List Nat} (h : SR w a (nC xs)) {i : Nat} (hi : i < xs.length) : ∃ g o, a = some ⟨g, o, none⟩ ∧ g < w.heap.size ∧ w.cell? ⟨g, o + i, none⟩ = some (.int .i64 ((xs.getD i 0 : Nat) : Int)) :=
  h i _ (by simp [nC, hi, List.getD_eq_getElem?_getD])

/-- The product of elements one behind the other. -/
def prL (K : Nat) (N : List Nat) (L : List Nat) : Nat := L.foldl (pr K N) 0

theorem Mon.prL_lt {A : Aut} {M : List (List Nat)} {N : List Nat} (h : Mon A M N) {L : List Nat} (hL : ∀ x ∈ L, x < M.length) : prL A.k.toNat N L < M.length := by
  unfold prL
  have : ∀ (L : List Nat) (o : Nat), o < M.length → (∀ x ∈ L, x < M.length) → L.foldl (Go.Proofs.Ytflclnkaccbfcaa.pr A.k.toNat N) o < M.length := by
    intro L
    induction L with
    | nil => intro o ho _; exact ho
    | cons y L ih => intro o ho hL; exact ih _ (h.pr_lt ho (hL y (by simp))) (fun x hx => hL x (by simp [hx]))
  exact this L 0 h.pos hL

set_option maxHeartbeats 1000000 in
set_option maxRecDepth 100000 in
theorem iprod_any {w : World} {ob : Nat} {A : Aut} {M : List (List Nat)} {N : List Nat} (h : MO w ob A M N) (a : Option Addr) (cap : Nat) (L : List Nat) (hL : ∀ x ∈ L, x < M.length) (hS : SR w a (nC L)) (hm : L.length ≤ 9223372036854775806) :
    Calls Try.prog 55 #[.pointer (some ⟨ob, 0, none⟩), .slice a L.length cap] w fun e w' => e = .returned (.int .i64 (prL A.k.toNat N L : Nat)) ∧ Below w.heap.size w w' := by
  have HM : Hid (MO w ob A M N) := h
  have HMon : Hid (Mon A M N) := by
    obtain ⟨_, _, _, _, _, _, _, _, _, _, _, _, _, _, _, _, _, q⟩ := h
    exact q.mon
  have HL : Hid (∀ x ∈ L, x < M.length) := hL
  have HS : Hid (SR w a (nC L)) := hS
  clear h hL hS
  go_enter Try.func55, Try.ntmps55
  go_wp2_with fail
  go_loopw [5, 10] (fun vo vi wr => ∃ i : Nat, i ≤ L.length ∧ vi = .int .i64 i ∧ vo = .int .i64 (prL A.k.toNat N (L.take i) : Nat) ∧ Below w.heap.size w wr) (fun _ vi _ => L.length - (Go.Lib.intOf vi).toNat)
  case atStart => exact ⟨0, Nat.zero_le _, rfl, rfl, Below.refl _ _⟩
  case round =>
    obtain ⟨i, hi, rfl, rfl, hb⟩ := hrel
    have HB : Hid (Below w.heap.size w wr) := hb
    by_cases hlt : i < L.length
    · have hiI : (i : Int) < L.length := by omega
      obtain ⟨g, o, rfl, _, hc⟩ := (HS.out.stay hb).nat hlt
      obtain ⟨x, hx⟩ : ∃ x, L.getD i 0 = x := ⟨_, rfl⟩
      rw [hx] at hc
      have hxL : L[i]? = some x := by rw [List.getElem?_eq_getElem hlt, ← hx]; simp [hlt]
      have hxl : x < M.length := HL.out x (List.mem_of_getElem? hxL)
      have HT : Hid (pr A.k.toNat N (prL A.k.toNat N (L.take i)) x = prL A.k.toNat N (L.take (i + 1))) := by
        show _ = _
        rw [List.take_add_one, hxL]
        simp [prL]
      obtain ⟨y, hy⟩ : ∃ y, prL A.k.toNat N (L.take i) = y := ⟨_, rfl⟩
      have hyl : y < M.length := by rw [← hy]; exact HMon.out.prL_lt (fun z hz => HL.out z (List.mem_of_mem_take hz))
      rw [hy] at HT ⊢
      have HLT : Hid (i < L.length) := hlt
      clear hb hx hxL hy hlt
      go_wp2_with fail
      refine (mproduct_ok (HM.out.below HB.out) y x hyl hxl).mono ?_
      rintro e w1 ⟨rfl, hb1⟩
      rw [HT.out]
      have HB1 : Hid (Below w.heap.size w w1) := go_on HB.out hb1
      clear hb1 hc
      go_wp2_with fail
      go_roundw
      case rel => exact ⟨i + 1, HLT.out, by go_num, rfl, HB1.out⟩
      case measure => have := HLT.out; simp [Go.Lib.intOf]; omega
    · have hiI : ¬ (i : Int) < L.length := by omega
      have e : L.take i = L := List.take_of_length_le (by omega)
      rw [e]
      clear hb
      go_wp2_with fail
      go_ret
      exact ⟨rfl, HB.out⟩

theorem sr_new (w : World) (cs : List Nat) (t : Nat) : SR (w.alloc (.cells (nC cs).toArray t)) (some ⟨w.heap.size, 0, none⟩) (nC cs) := by
  intro i u hu
  refine ⟨_, _, rfl, by simp, ?_⟩
  rw [Nat.zero_add, cell_of_row _ _ _ _ _ _ (heap_last w _)]
  simpa using hu

theorem iprod_new {w : World} {ob : Nat} {A : Aut} {M : List (List Nat)} {N : List Nat} (h : MO w ob A M N) (L : List Nat) (hL : ∀ x ∈ L, x < M.length) (hm : L.length ≤ 100) (t : Nat) :
    Calls Try.prog 55 #[.pointer (some ⟨ob, 0, none⟩), .slice (some ⟨w.heap.size, 0, none⟩) L.length L.length] (w.alloc (.cells (nC L).toArray t)) fun e w' => e = .returned (.int .i64 (prL A.k.toNat N L : Nat)) ∧ Below w.heap.size w w' := by
  refine (iprod_any (h.below (below_new _ _)) _ _ L hL (sr_new w L t) (by omega)).mono ?_
  rintro e w1 ⟨rfl, hb⟩
  exact ⟨rfl, go_on (below_new _ _) hb⟩

theorem MO.mon {w : World} {ob : Nat} {A : Aut} {M : List (List Nat)} {N : List Nat} (h : MO w ob A M N) : Mon A M N := by
  obtain ⟨_, _, _, _, _, _, _, _, _, _, _, _, _, _, _, _, _, q⟩ := h
  exact q.mon

/-- Two and three factors. -/
theorem iprod_two {w : World} {ob : Nat} {A : Aut} {M : List (List Nat)} {N : List Nat} (h : MO w ob A M N) (x y : Nat) (hx : x < M.length) (hy : y < M.length) :
    Calls Try.prog 55 #[.pointer (some ⟨ob, 0, none⟩), .slice (some ⟨w.heap.size, 0, none⟩) 2 2] (w.alloc (.cells #[.int .i64 (x : Nat), .int .i64 (y : Nat)] 3)) fun e w' => e = .returned (.int .i64 (pr A.k.toNat N x y : Nat)) ∧ Below w.heap.size w w' := by
  have q := iprod_new h [x, y] (by simp; exact ⟨hx, hy⟩) (by simp) 3
  have e : prL A.k.toNat N [x, y] = pr A.k.toNat N x y := by show pr _ _ (pr _ _ 0 x) y = _; rw [h.mon.one_pr hx]
  rw [e] at q
  exact q

theorem iprod_three {w : World} {ob : Nat} {A : Aut} {M : List (List Nat)} {N : List Nat} (h : MO w ob A M N) (x y z : Nat) (hx : x < M.length) (hy : y < M.length) (hz : z < M.length) :
    Calls Try.prog 55 #[.pointer (some ⟨ob, 0, none⟩), .slice (some ⟨w.heap.size, 0, none⟩) 3 3] (w.alloc (.cells #[.int .i64 (x : Nat), .int .i64 (y : Nat), .int .i64 (z : Nat)] 3)) fun e w' => e = .returned (.int .i64 (pr A.k.toNat N (pr A.k.toNat N x y) z : Nat)) ∧ Below w.heap.size w w' := by
  have q := iprod_new h [x, y, z] (by simp; exact ⟨hx, hy, hz⟩) (by simp) 3
  have e : prL A.k.toNat N [x, y, z] = pr A.k.toNat N (pr A.k.toNat N x y) z := by show pr _ _ (pr _ _ (pr _ _ 0 x) y) z = _; rw [h.mon.one_pr hx]
  rw [e] at q
  exact q

/-- Is it idempotent? -/
def idE (K : Nat) (N : List Nat) (i : Nat) : Bool := decide (pr K N i i = i)

set_option maxHeartbeats 1000000 in
set_option maxRecDepth 100000 in
theorem isIdem_any {w : World} {ob : Nat} {A : Aut} {M : List (List Nat)} {N : List Nat} (h : MO w ob A M N) (i : Nat) (hi : i < M.length) :
    Calls Try.prog 44 #[.pointer (some ⟨ob, 0, none⟩), .int .i64 i] w fun e w' => e = .returned (.bool (idE A.k.toNat N i)) ∧ Below w.heap.size w w' := by
  have HP : Hid _ := iprod_two h i i hi hi
  obtain ⟨p, hp⟩ : ∃ p, pr A.k.toNat N i i = p := ⟨_, rfl⟩
  have HE : Hid (idE A.k.toNat N i = decide ((p : Int) = (i : Int))) := by
    show _ = _
    unfold idE
    rw [hp]
    congr 1
    apply propext
    omega
  rw [hp] at HP
  clear h hp
  go_enter Try.func44, Try.ntmps44
  go_wp2_with fail
  refine Calls.mono HP.out ?_
  rintro e w1 ⟨rfl, hb⟩
  have HB : Hid (Below w.heap.size w w1) := hb
  clear hb
  by_cases c : p = i
  · have c1 : ((p : Int) == (i : Int)) = true := by rw [beq_iff_eq]; omega
    have HE2 : Hid (idE A.k.toNat N i = true) := by show _ = _; rw [HE.out]; exact decide_eq_true (by omega)
    go_wp2_with fail
    go_ret
    exact ⟨by rw [HE2.out]; first | rfl | simp [c], HB.out⟩
  · have c1 : ((p : Int) == (i : Int)) = false := by rw [beq_eq_false_iff_ne]; omega
    have HE2 : Hid (idE A.k.toNat N i = false) := by show _ = _; rw [HE.out]; exact decide_eq_false (by omega)
    go_wp2_with fail
    go_ret
    exact ⟨by rw [HE2.out]; first | rfl | simp [c], HB.out⟩

/-- What check answers of some numbers. -/
def ick (n : Nat) (L : List Int) : Int := if L.all (hasE n) then 0 else 11

set_option maxHeartbeats 1000000 in
set_option maxRecDepth 100000 in
theorem icheck_any {w : World} {ob : Nat} {A : Aut} {M : List (List Nat)} {N : List Nat} (h : MO w ob A M N) (a : Option Addr) (cap : Nat) (L : List Int) (hS : SR w a (zC L)) (hm : L.length ≤ 9223372036854775806) :
    Calls Try.prog 43 #[.pointer (some ⟨ob, 0, none⟩), .slice a L.length cap] w fun e w' => e = .returned (.int .i64 (ick M.length L)) ∧ w = w' := by
  have HM : Hid (MO w ob A M N) := h
  have HS : Hid (SR w a (zC L)) := hS
  have hn0 : ((M.length : Int) == 0) = false := by rw [beq_eq_false_iff_ne]; have := h.mon.pos; omega
  have hn1 : ¬ (M.length : Int) = 0 := by have := h.mon.pos; omega
  have hn2 : ¬ M.length = 0 := by omega
  obtain ⟨n, hn⟩ : ∃ n, M.length = n := ⟨_, rfl⟩
  have HLN : Hid (Calls Try.prog 34 #[.pointer (some ⟨ob, 0, none⟩)] w fun e w' => e = .returned (.int .i64 (n : Nat)) ∧ w = w') := by
    have := mlen_any HM.out
    rw [hn] at this
    exact this
  rw [hn] at hn0 hn1 hn2 ⊢
  clear h hS hn
  go_enter Try.func43, Try.ntmps43
  go_wp2_with fail
  refine HLN.out.mono ?_
  rintro e w1 ⟨rfl, rfl⟩
  go_wp2_with fail
  go_loopw [14] (fun vi wr => ∃ i : Nat, i ≤ L.length ∧ vi = .int .i64 i ∧ (∀ j, j < i → hasE n (L.getD j 0) = true) ∧ wr = w) (fun vi _ => L.length - (Go.Lib.intOf vi).toNat)
  case atStart => exact ⟨0, Nat.zero_le _, rfl, fun j hj => by omega, rfl⟩
  case round =>
    obtain ⟨i, hi, rfl, hall, rfl⟩ := hrel
    have HA : Hid (∀ j, j < i → hasE n (L.getD j 0) = true) := hall
    clear hall
    by_cases hlt : i < L.length
    · have hiI : (i : Int) < L.length := by omega
      obtain ⟨g, o, rfl, _, hc⟩ := HS.out.int hlt
      have HLT : Hid (i < L.length) := hlt
      obtain ⟨x, hx⟩ : ∃ x, L.getD i 0 = x := ⟨_, rfl⟩
      have HX : Hid (L.getD i 0 = x) := hx
      have hxm : x ∈ L := by
        rw [← hx, List.getD_eq_getElem?_getD, List.getElem?_eq_getElem hlt]
        exact List.getElem_mem hlt
      have HXM : Hid (x ∈ L) := hxm
      rw [hx] at hc
      clear hx hxm hlt
      by_cases h0 : 0 ≤ x
      · have h0d : decide (x < 0) = false := by simpa using h0
        by_cases h1 : x < n
        · have h1d : decide ((n : Int) ≤ x) = false := by simpa using h1
          have h1' : ¬ (n : Int) ≤ x := by omega
          have HH : Hid (hasE n x = true) := decide_eq_true ⟨h0, h1⟩
          go_wp2_with fail
          go_roundw
          case rel =>
            refine ⟨i + 1, HLT.out, by go_num, fun j hj => ?_, trivial⟩
            by_cases e : j = i
            · rw [e, HX.out]; exact HH.out
            · exact HA.out j (by omega)
          case measure => have := HLT.out; simp [Go.Lib.intOf]; omega
        · have h1d : decide ((n : Int) ≤ x) = true := by simpa using h1
          have h1' : (n : Int) ≤ x := by omega
          have HE : Hid (ick n L = 11) := by
            show _ = _
            unfold ick
            rw [if_neg (fun q => ?_)]
            have := of_decide_eq_true (List.all_eq_true.1 q x HXM.out)
            omega
          go_wp2_with fail
          go_ret
          exact ⟨by rw [HE.out]; rfl, rfl⟩
      · have h0d : decide (x < 0) = true := by simpa using h0
        have h0' : x < 0 := by omega
        have HE : Hid (ick n L = 11) := by
          show _ = _
          unfold ick
          rw [if_neg (fun q => ?_)]
          have := of_decide_eq_true (List.all_eq_true.1 q x HXM.out)
          omega
        go_wp2_with fail
        go_ret
        exact ⟨by rw [HE.out]; rfl, rfl⟩
    · have hiI : ¬ (i : Int) < L.length := by omega
      have HE : Hid (ick n L = 0) := by
        show _ = _
        unfold ick
        rw [if_pos]
        rw [List.all_eq_true]
        intro x hx
        obtain ⟨j, hj, rfl⟩ := List.mem_iff_getElem.1 hx
        have := HA.out j (by omega)
        rw [List.getD_eq_getElem?_getD, List.getElem?_eq_getElem hj] at this
        exact this
      go_wp2_with fail
      go_ret
      exact ⟨by rw [HE.out]; rfl, rfl⟩

theorem sr_newZ (w : World) (cs : List Int) (t : Nat) : SR (w.alloc (.cells (zC cs).toArray t)) (some ⟨w.heap.size, 0, none⟩) (zC cs) := by
  intro i u hu
  refine ⟨_, _, rfl, by simp, ?_⟩
  rw [Nat.zero_add, cell_of_row _ _ _ _ _ _ (heap_last w _)]
  simpa using hu

theorem icheck_one {w : World} {ob : Nat} {A : Aut} {M : List (List Nat)} {N : List Nat} (h : MO w ob A M N) (i : Int) :
    Calls Try.prog 43 #[.pointer (some ⟨ob, 0, none⟩), .slice (some ⟨w.heap.size, 0, none⟩) 1 1] (w.alloc (.cells #[.int .i64 i] 3)) fun e w' => e = .returned (.int .i64 (if hasE M.length i = true then 0 else 11)) ∧ w' = w.alloc (.cells #[.int .i64 i] 3) := by
  have q := icheck_any (h.below (below_new _ _)) _ 1 [i] (sr_newZ w [i] 3) (by simp)
  refine q.mono ?_
  rintro e w1 ⟨rfl, rfl⟩
  refine ⟨?_, rfl⟩
  congr 2
  simp [ick]

theorem icheck_none {w : World} {ob : Nat} {A : Aut} {M : List (List Nat)} {N : List Nat} (h : MO w ob A M N) :
    Calls Try.prog 43 #[.pointer (some ⟨ob, 0, none⟩), .slice none 0 0] w fun e w' => e = .returned (.int .i64 0) ∧ w = w' := by
  have q := icheck_any h none 0 [] (SR.nil _ _) (by simp)
  exact q
end Go.Proofs.Ytflclnkaccbfcaa
