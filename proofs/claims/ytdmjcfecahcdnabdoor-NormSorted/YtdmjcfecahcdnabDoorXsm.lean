/- Members joined again, in whatever order. -/
import Derived.Test.YtdmjcfecahcdnabDoorXa
namespace Go.Proofs.YtdmjcfecahcdnabDoor
open Go Go.RowKit
set_option linter.unusedVariables false

theorem ris_sub : ∀ {a b : List Tr}, Ris a → Ris b → (∀ m ∈ a, m ∈ b) → List.Sublist a b
  | [], b, _, _, _ => List.nil_sublist b
  | x :: a, [], _, _, h => absurd (h x (by simp)) (by simp)
  | x :: a, y :: b, ha, hb, h => by
    obtain ⟨a1, a2⟩ := List.pairwise_cons.1 ha
    obtain ⟨b1, b2⟩ := List.pairwise_cons.1 hb
    by_cases e : x = y
    · subst e
      refine List.Sublist.cons_cons _ (ris_sub a2 b2 fun m hm => ?_)
      rcases List.mem_cons.1 (h m (by simp [hm])) with e | e
      · subst e; exact absurd (a1 m hm) (Lt.irrefl m)
      · exact e
    · have hx : x ∈ b := by
        rcases List.mem_cons.1 (h x (by simp)) with e' | e'
        · exact absurd e' e
        · exact e'
      refine List.Sublist.cons _ (ris_sub ha b2 fun m hm => ?_)
      rcases List.mem_cons.1 (h m hm) with e' | e'
      · subst e'
        rcases List.mem_cons.1 hm with e2 | e2
        · exact absurd e2.symm e
        · exact absurd (a1 m e2) (b1 x hx).asymm
      · exact e'
theorem lens_sub {a b : List Tr} (h : List.Sublist a b) : lens a ≤ lens b := by
  induction h with
  | slnil => exact Nat.le_refl _
  | cons x _ ih => simp [lens] at *; omega
  | cons_cons x _ ih => simp [lens] at *; omega
/-- What is joined so far, from the member s on. -/
def accM (ms : List Tr) (s : Nat) : Nat → Tr
  | 0 => tNone
  | i + 1 => R2 5 (ms.getD ((i + s) % ms.length) tNone) (accM ms s i)
theorem len_of_mb {x : Tr} (ho : x.ok) (h : x ≠ unitK 5) : x.flat.length + 1 = lens (Mb 5 x) := by
  unfold Mb
  rw [if_neg h, ← len_build (k := 5) (spine_ne 5 x), build_spine ho]
theorem mb_self {m : Tr} (h1 : m ≠ unitK 5) (h2 : m.root.1 ≠ 5) : Mb 5 m = [m] := by
  unfold Mb
  rw [if_neg h1, spine_other h2]
/-- Where no member is All. -/
theorem acc_in {R : Tr} (ho : R.ok) (hn : NF R) (hz : R ≠ zeroK 5) (s : Nat) : ∀ i, (accM (Mb 5 R) s i).ok ∧ NF (accM (Mb 5 R) s i) ∧ accM (Mb 5 R) s i ≠ zeroK 5 ∧ ∀ m, m ∈ Mb 5 (accM (Mb 5 R) s i) ↔ ∃ j, j < i ∧ (Mb 5 R) ≠ [] ∧ m = (Mb 5 R).getD ((j + s) % (Mb 5 R).length) tNone
  | 0 => ⟨tNone_ok, trivial, by simp [accM, zeroK, tNone, tAll], fun m => by
      simp [accM, Mb, unitK]⟩
  | i + 1 => by
    obtain ⟨i1, i2, i3, i4⟩ := acc_in ho hn hz s i
    by_cases h0 : Mb 5 R = []
    · have hm : ((Mb 5 R).getD ((i + s) % (Mb 5 R).length) tNone) = tNone := by rw [h0]; rfl
      have e : accM (Mb 5 R) s (i + 1) = accM (Mb 5 R) s i := by
        rw [accM, hm, R2_comm (.inl rfl) tNone_ok trivial i1 i2]
        unfold R2
        rw [if_pos (.inr rfl)]
      rw [e]
      refine ⟨i1, i2, i3, fun m => ?_⟩
      rw [i4 m]
      constructor
      · rintro ⟨j, _, h, _⟩; exact absurd h0 h
      · rintro ⟨j, _, h, _⟩; exact absurd h0 h
    · have hpos : 0 < (Mb 5 R).length := List.length_pos_iff.2 h0
      have hlt : (i + s) % (Mb 5 R).length < (Mb 5 R).length := Nat.mod_lt _ hpos
      have hmem : (Mb 5 R).getD ((i + s) % (Mb 5 R).length) tNone ∈ Mb 5 R := by
        rw [List.getD_eq_getElem?_getD, List.getElem?_eq_getElem hlt]; exact List.getElem_mem hlt
      have hM := (mb_mem (.inl rfl) ho hn).2 _ hmem
      have hmz : (Mb 5 R).getD ((i + s) % (Mb 5 R).length) tNone ≠ zeroK 5 := fun e => hz (hM.2.2.1 e)
      have hs := R2_spec (.inl rfl) hM.2.2.2.2 hM.2.2.2.1 i1 i2 hmz i3
      have hself : Mb 5 ((Mb 5 R).getD ((i + s) % (Mb 5 R).length) tNone) = [(Mb 5 R).getD ((i + s) % (Mb 5 R).length) tNone] := by
        exact mb_self hM.2.1 hM.1
      refine ⟨hs.1, hs.2.1, hs.2.2.1, fun m => ?_⟩
      show m ∈ Mb 5 (R2 5 _ _) ↔ _
      rw [hs.2.2.2 m, hself, i4 m, List.mem_singleton]
      constructor
      · rintro (e | ⟨j, hj, hne, e⟩)
        · exact ⟨i, by omega, h0, e⟩
        · exact ⟨j, by omega, hne, e⟩
      · rintro ⟨j, hj, hne, e⟩
        by_cases hji : j = i
        · subst hji; exact .inl e
        · exact .inr ⟨j, by omega, hne, e⟩
theorem acc_len {R : Tr} (ho : R.ok) (hn : NF R) (hz : R ≠ zeroK 5) (s i : Nat) : (accM (Mb 5 R) s i).flat.length ≤ R.flat.length := by
  obtain ⟨i1, i2, i3, i4⟩ := acc_in ho hn hz s i
  have hp := R.len_pos
  by_cases hu : accM (Mb 5 R) s i = unitK 5
  · rw [hu]; simp [unitK, tNone, Tr.flat]; omega
  · have hsub : ∀ m ∈ Mb 5 (accM (Mb 5 R) s i), m ∈ Mb 5 R := fun m hm => by
      obtain ⟨j, hj, hne, e⟩ := (i4 m).1 hm
      rw [e]
      have hlt : (j + s) % (Mb 5 R).length < (Mb 5 R).length := Nat.mod_lt _ (List.length_pos_iff.2 hne)
      rw [List.getD_eq_getElem?_getD, List.getElem?_eq_getElem hlt]
      exact List.getElem_mem hlt
    have h1 := lens_sub (ris_sub (mb_mem (.inl rfl) i1 i2).1 (mb_mem (.inl rfl) ho hn).1 hsub)
    have h2 := len_of_mb i1 hu
    have hRu : R ≠ unitK 5 := fun e => by
      have : Mb 5 R = [] := by unfold Mb; rw [if_pos e]
      rw [this] at h1
      simp [lens] at h1
      have h3 := len_of_mb i1 hu
      have h4 : lens (Mb 5 (accM (Mb 5 R) s i)) = 0 := by rw [this]; unfold lens; simpa using h1
      omega
    have h3 := len_of_mb ho hRu
    omega
theorem acc_end {R : Tr} (ho : R.ok) (hn : NF R) (hz : R ≠ zeroK 5) (s : Nat) : accM (Mb 5 R) s (Mb 5 R).length = R := by
  obtain ⟨i1, i2, i3, i4⟩ := acc_in ho hn hz s (Mb 5 R).length
  refine mb_ext (.inl rfl) i1 i2 ho hn fun m => ?_
  rw [i4 m]
  constructor
  · rintro ⟨j, hj, hne, e⟩
    rw [e]
    have hlt : (j + s) % (Mb 5 R).length < (Mb 5 R).length := Nat.mod_lt _ (List.length_pos_iff.2 hne)
    rw [List.getD_eq_getElem?_getD, List.getElem?_eq_getElem hlt]
    exact List.getElem_mem hlt
  · intro hm
    obtain ⟨t, ht, e⟩ := List.mem_iff_getElem.1 hm
    have hne : Mb 5 R ≠ [] := fun e => by rw [e] at hm; simp at hm
    obtain ⟨n, hN⟩ : ∃ n, (Mb 5 R).length = n := ⟨_, rfl⟩
    refine ⟨(t + (n - s % n)) % n, ?_, hne, ?_⟩
    · rw [hN]; exact Nat.mod_lt _ (by omega)
    · rw [hN]
      have hs : s % n < n := Nat.mod_lt _ (by omega)
      have e2 : ((t + (n - s % n)) % n + s) % n = t := by
        rw [Nat.mod_add_mod]
        have : t + (n - s % n) + s = t + n * (1 + s / n) := by
          have := Nat.div_add_mod s n
          rw [Nat.mul_add, Nat.mul_one]
          omega
        rw [this, Nat.add_mul_mod_self_left, Nat.mod_eq_of_lt (by omega)]
      rw [e2, List.getD_eq_getElem?_getD, List.getElem?_eq_getElem ht, ← e]
      rfl
/-- Where the form is All: it is its only member. -/
theorem mb_zero : Mb 5 (zeroK 5) = [zeroK 5] := by
  unfold Mb
  rw [if_neg (fun e => unit_zero 5 e.symm), spine_other (zero_root (.inl rfl))]
theorem acc_zero (s i : Nat) : accM [zeroK 5] s (i + 1) = zeroK 5 := by
  rw [accM]
  have : (([zeroK 5] : List Tr).getD ((i + s) % ([zeroK 5] : List Tr).length) tNone) = zeroK 5 := by
    rw [show ([zeroK 5] : List Tr).length = 1 from rfl, Nat.mod_one]; rfl
  rw [this, R2_zero (.inl rfl)]
/-- All that the walk asks. -/
theorem acc_all {R : Tr} (ho : R.ok) (hn : NF R) (s : Nat) : (∀ i, (accM (Mb 5 R) s i).ok ∧ NF (accM (Mb 5 R) s i) ∧ (accM (Mb 5 R) s i).flat.length ≤ R.flat.length) ∧ accM (Mb 5 R) s (Mb 5 R).length = R := by
  by_cases hz : R = zeroK 5
  · subst hz
    rw [mb_zero]
    refine ⟨fun i => ?_, acc_zero s 0⟩
    cases i with
    | zero => exact ⟨tNone_ok, trivial, by simp [accM, tNone, zeroK, tAll, Tr.flat]⟩
    | succ i => rw [acc_zero]; exact ⟨zero_ok 5, zero_nf 5, Nat.le_refl _⟩
  · exact ⟨fun i => ⟨(acc_in ho hn hz s i).1, (acc_in ho hn hz s i).2.1, acc_len ho hn hz s i⟩, acc_end ho hn hz s⟩
end Go.Proofs.YtdmjcfecahcdnabDoor
