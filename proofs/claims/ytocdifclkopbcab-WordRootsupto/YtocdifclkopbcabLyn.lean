/- Plain mathematics: Lyndon and Schuetzenberger: two words commute just where their roots are the same; a root's root is itself; a power's root is its word's. -/
import Derived.Test.YtocdifclkopbcabRot
import Derived.Test.YtocdifclkopbcabFwm
namespace Go.Proofs.Ytocdifclkopbcab

theorem perF_mod (f : Nat → UInt8) (n g : Nat) (h : perF f n g) (i : Nat) (hi : i < n) : f i = f (i % g) := by
  have e : i % g + i / g * g = i := by rw [Nat.mul_comm]; exact Nat.mod_add_div i g
  have := perF_many f n g (i % g) h (i / g) (by rw [e]; exact hi)
  rw [e] at this
  exact this.symm
theorem perF_le {f : Nat → UInt8} {n m p : Nat} (h : perF f n p) (hm : m ≤ n) : perF f m p := fun i hi => h i (by omega)
/-- A period of a period's stretch that divides it is a period of all. -/
theorem perF_ext (f : Nat → UInt8) (n g p : Nat) (hg : 0 < g) (hgn : g ≤ n) (hpg : p ∣ g) (h1 : perF f g p) (h2 : perF f n g) : perF f n p := by
  obtain ⟨c, rfl⟩ := hpg
  have hp : 0 < p := Nat.pos_of_mul_pos_right hg |> fun _ => by
    rcases Nat.eq_zero_or_pos p with h | h
    · subst h; simp at hg
    · exact h
  intro i hi
  rw [perF_mod f n (p * c) h2 i (by omega), perF_mod f n (p * c) h2 (i + p) hi]
  have a := perF_mod f (p * c) p h1 (i % (p * c)) (Nat.mod_lt _ hg)
  have b := perF_mod f (p * c) p h1 ((i + p) % (p * c)) (Nat.mod_lt _ hg)
  rw [a, b, Nat.mod_mul_right_mod, Nat.mod_mul_right_mod, Nat.add_mod_right]

/-- The letter of a list at a place (0 beyond the end). -/
def lt' (l : List UInt8) (i : Nat) : UInt8 := l.getD i 0
theorem at_str (l : List UInt8) (i : Nat) : at' (str l) i = lt' l i := by simp [at', lt', str_list]
theorem isPer_str (l : List UInt8) (p : Nat) : isPer (str l) p ↔ perF (lt' l) l.length p := by
  unfold isPer perF
  simp only [at_str, str_size]
theorem lt_append_left (a b : List UInt8) (i : Nat) (h : i < a.length) : lt' (a ++ b) i = lt' a i := by
  simp [lt', List.getElem?_append_left h]
theorem lt_append_right (a b : List UInt8) (i : Nat) : lt' (a ++ b) (a.length + i) = lt' b i := by
  simp [lt', List.getElem?_append_right]
theorem lt_take (a : List UInt8) (n i : Nat) (h : i < n) : lt' (a.take n) i = lt' a i := by
  simp [lt', h]
theorem list_ext (a b : List UInt8) (hl : a.length = b.length) (h : ∀ i, i < a.length → lt' a i = lt' b i) : a = b := by
  apply List.ext_getElem?
  intro i
  by_cases hi : i < a.length
  · have := h i hi
    simpa [lt', hi, show i < b.length by omega] using this
  · rw [List.getElem?_eq_none (by omega), List.getElem?_eq_none (by omega)]

/-- What IsRoot says of a list. -/
theorem root_str (l : List UInt8) (p : Nat) (h : IsRoot (str l) p) : 1 ≤ p ∧ p ≤ l.length ∧ p ∣ l.length ∧ perF (lt' l) l.length p ∧ ∀ q, 1 ≤ q → q ∣ l.length → perF (lt' l) l.length q → p ≤ q := by
  obtain ⟨h1, h2, h3, h4⟩ := h
  rw [str_size] at h2
  simp only [divP, Bool.and_eq_true, decide_eq_true_eq, str_size] at h3
  have h5 := (perB_iff (str l) p (by rw [str_size]; exact h2)).1 h3.2
  rw [isPer_str] at h5
  refine ⟨h1, h2, Nat.dvd_of_mod_eq_zero h3.1, h5, ?_⟩
  intro q hq hd hper
  rcases Nat.lt_or_ge q p with e | e
  · have hql : q ≤ l.length := by omega
    have := h4 q hq e
    have h6 : perB (str l) q = true := (perB_iff (str l) q (by rw [str_size]; exact hql)).2 ((isPer_str l q).2 hper)
    simp [divP, str_size, Nat.mod_eq_zero_of_dvd hd, h6] at this
  · exact e
theorem root_mk (l : List UInt8) (p : Nat) (h1 : 1 ≤ p) (h2 : p ≤ l.length) (h3 : p ∣ l.length) (h4 : perF (lt' l) l.length p) (h5 : ∀ q, 1 ≤ q → q ∣ l.length → perF (lt' l) l.length q → p ≤ q) : IsRoot (str l) p := by
  refine ⟨h1, by rw [str_size]; exact h2, ?_, ?_⟩
  · have := (perB_iff (str l) p (by rw [str_size]; exact h2)).2 ((isPer_str l p).2 h4)
    simp [divP, str_size, Nat.mod_eq_zero_of_dvd h3, this]
  · intro q hq hqp
    have hql : q ≤ l.length := by omega
    cases hd : divP (str l) q with
    | false => rfl
    | true =>
      simp only [divP, Bool.and_eq_true, decide_eq_true_eq, str_size] at hd
      have h6 := (perB_iff (str l) q (by rw [str_size]; exact hql)).1 hd.2
      rw [isPer_str] at h6
      have := h5 q hq (Nat.dvd_of_mod_eq_zero hd.1) h6
      omega

/-- A least period that divides the length divides each period that does. -/
theorem root_dvd (f : Nat → UInt8) (n p g : Nat) (hp1 : 1 ≤ p) (hpd : p ∣ n) (hpp : perF f n p) (hleast : ∀ q, 1 ≤ q → q ∣ n → perF f n q → p ≤ q) (hg : 1 ≤ g) (hgn : g ≤ n) (hgd : g ∣ n) (hgp : perF f n g) : p ∣ g := by
  have hpg : p ≤ g := hleast g hg hgd hgp
  by_cases e : g = n
  · rw [e]; exact hpd
  · obtain ⟨c, hc⟩ := hgd
    have hc2 : 2 ≤ c := by
      rcases Nat.lt_or_ge c 2 with h | h
      · have : c = 0 ∨ c = 1 := by omega
        rcases this with h | h
        · subst h; omega
        · subst h; omega
      · exact h
    have h2g : g * 2 ≤ n := by rw [hc]; exact Nat.mul_le_mul_left g hc2
    have fw := fine_wilf f (p + g) n p g (Nat.le_refl _) hp1 hg hpp hgp (by omega)
    have hd : Nat.gcd p g ∣ n := Nat.dvd_trans (Nat.gcd_dvd_left p g) hpd
    have hle := hleast (Nat.gcd p g) (Nat.gcd_pos_of_pos_left g hp1) hd fw
    have hge := Nat.gcd_le_left g hp1
    have : Nat.gcd p g = p := by omega
    rw [← this]
    exact Nat.gcd_dvd_right p g

theorem comm_root (U V : List UInt8) (p q : Nat) (hp : IsRoot (str U) p) (hq : IsRoot (str V) q) (h : U ++ V = V ++ U) : p = q ∧ U.take p = V.take q := by
  obtain ⟨p1, p2, p3, p4, p5⟩ := root_str U p hp
  obtain ⟨q1, q2, q3, q4, q5⟩ := root_str V q hq
  have lU : 0 < U.length := by omega
  have lV : 0 < V.length := by omega
  have fU : ∀ i, i < U.length → lt' (U ++ V) i = lt' U i := fun i hi => lt_append_left U V i hi
  have fV : ∀ i, i < V.length → lt' (U ++ V) i = lt' V i := fun i hi => by rw [h]; exact lt_append_left V U i hi
  have perU : perF (lt' (U ++ V)) (U.length + V.length) U.length := by
    intro i hi
    rw [Nat.add_comm i U.length, lt_append_right, fV i (by omega)]
  have perV : perF (lt' (U ++ V)) (U.length + V.length) V.length := by
    intro i hi
    rw [fU i (by omega), h, Nat.add_comm i V.length, lt_append_right]
  have hg0 : 0 < Nat.gcd U.length V.length := Nat.gcd_pos_of_pos_left _ lU
  have hgU : Nat.gcd U.length V.length ≤ U.length := Nat.gcd_le_left _ lU
  have hgV : Nat.gcd U.length V.length ≤ V.length := Nat.gcd_le_right _ lV
  have fw := fine_wilf (lt' (U ++ V)) (U.length + V.length) (U.length + V.length) U.length V.length (Nat.le_refl _) lU lV perU perV (by omega)
  generalize hgg : Nat.gcd U.length V.length = g at *
  have hgdU : g ∣ U.length := by rw [← hgg]; exact Nat.gcd_dvd_left _ _
  have hgdV : g ∣ V.length := by rw [← hgg]; exact Nat.gcd_dvd_right _ _
  -- periods of U and V are those of the product's beginnings
  have toW : ∀ (A : List UInt8) r, (∀ i, i < A.length → lt' (U ++ V) i = lt' A i) → (perF (lt' A) A.length r ↔ perF (lt' (U ++ V)) A.length r) := by
    intro A r hA
    constructor
    · intro hr i hi
      rw [hA i (by omega), hA (i + r) hi]
      exact hr i hi
    · intro hr i hi
      rw [← hA i (by omega), ← hA (i + r) hi]
      exact hr i hi
  have gU : perF (lt' U) U.length g := (toW U g fU).2 (perF_le fw (by omega))
  have gV : perF (lt' V) V.length g := (toW V g fV).2 (perF_le fw (by omega))
  have dp := root_dvd (lt' U) U.length p g p1 p3 p4 p5 hg0 hgU hgdU gU
  have dq := root_dvd (lt' V) V.length q g q1 q3 q4 q5 hg0 hgV hgdV gV
  have wp : perF (lt' (U ++ V)) (U.length + V.length) p := perF_ext _ _ g p hg0 (by omega) dp (perF_le ((toW U p fU).1 p4) hgU) fw
  have wq : perF (lt' (U ++ V)) (U.length + V.length) q := perF_ext _ _ g q hg0 (by omega) dq (perF_le ((toW V q fV).1 q4) hgV) fw
  have a := p5 q q1 (Nat.dvd_trans dq hgdU) ((toW U q fU).2 (perF_le wq (by omega)))
  have b := q5 p p1 (Nat.dvd_trans dp hgdV) ((toW V p fV).2 (perF_le wp (by omega)))
  have e : p = q := by omega
  refine ⟨e, ?_⟩
  subst e
  apply list_ext
  · rw [List.length_take, List.length_take]; omega
  · intro i hi
    rw [List.length_take] at hi
    rw [lt_take U p i (by omega), lt_take V p i (by omega), ← fU i (by omega), ← fV i (by omega)]

theorem root_comm (U V : List UInt8) (p q : Nat) (hp : IsRoot (str U) p) (hq : IsRoot (str V) q) (h : U.take p = V.take q) : U ++ V = V ++ U := by
  obtain ⟨p1, p2, p3, p4, p5⟩ := root_str U p hp
  obtain ⟨q1, q2, q3, q4, q5⟩ := root_str V q hq
  have e : p = q := by
    have := congrArg List.length h
    rw [List.length_take, List.length_take] at this
    omega
  subst e
  have z : ∀ i, i < p → lt' U i = lt' V i := by
    intro i hi
    rw [← lt_take U p i hi, ← lt_take V p i hi, h]
  have mU : ∀ i, i < U.length → lt' U i = lt' U (i % p) := perF_mod _ _ p p4
  have mV : ∀ i, i < V.length → lt' V i = lt' U (i % p) := fun i hi => by
    rw [perF_mod _ _ p q4 i hi, z _ (Nat.mod_lt _ (by omega))]
  have both : ∀ (A B : List UInt8), p ∣ A.length → (∀ i, i < A.length → lt' A i = lt' U (i % p)) → (∀ i, i < B.length → lt' B i = lt' U (i % p)) → ∀ i, i < A.length + B.length → lt' (A ++ B) i = lt' U (i % p) := by
    intro A B hd hA hB i hi
    rcases Nat.lt_or_ge i A.length with g | g
    · rw [lt_append_left A B i g]; exact hA i g
    · obtain ⟨j, rfl⟩ : ∃ j, i = A.length + j := ⟨i - A.length, by omega⟩
      rw [lt_append_right, hB j (by omega)]
      obtain ⟨c, hc⟩ := hd
      rw [hc, Nat.mul_add_mod]
  apply list_ext
  · simp; omega
  · intro i hi
    rw [List.length_append] at hi
    rw [both U V p3 mU mV i hi, both V U q3 mV mU i (by omega)]

end Go.Proofs.Ytocdifclkopbcab
