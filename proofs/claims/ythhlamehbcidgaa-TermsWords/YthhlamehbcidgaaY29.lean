/- What Print writes is read back (pure). -/
import Derived.Test.YthhlamehbcidgaaY28
namespace Go.Proofs.Ythhlamehbcidgaa
open Go Go.RowKit Go.Lib
set_option linter.unusedVariables false

theorem side_back {L : Sg} (h : sideB (intS L) = true) : ∃ p, nxP L L.length L.length = some (p, 0) ∧ p.1 = wrB L := by
  unfold sideB at h
  cases hr : runS 0 (intS L) with
  | none => rw [hr] at h; cases h
  | some d =>
    rw [hr] at h
    have hd : d = 1 := by simpa using h
    have hl : (intS L).length = L.length := by simp [intS]
    have ht : (intS L).take L.length = intS L := List.take_of_length_le (by omega)
    obtain ⟨p, m, hp, hm, hr2⟩ := nx_some L L.length L.length (Nat.le_refl _) (Nat.le_refl _) d (by rw [ht]; exact hr) (by omega)
    have h0 : m = 0 := by
      by_cases h0 : m = 0
      · exact h0
      · rw [take_last h0 (by omega)] at hr2
        obtain ⟨d', _, _, ha, he⟩ := runS_snoc hr2
        omega
    subst h0
    exact ⟨p, hp, by unfold wrB; rw [hp]⟩
theorem gd_side {L : Sg} (h : sideB (intS L) = true) : ∀ p ∈ L, gdS (p.1 : Int) p.2 = true := by
  unfold sideB at h
  cases hr : runS 0 (intS L) with
  | none => rw [hr] at h; cases h
  | some d =>
    intro p hp
    exact gd_all hr ((p.1 : Int), p.2) (by unfold intS; exact List.mem_map.2 ⟨p, hp, rfl⟩)
theorem seg_all (L : Sg) : seg L 0 L.length = L := by unfold seg; simp
/-- A side at a place. -/
theorem side_at {L : Sg} (h : sideB (intS L) = true) (hb : Byt L) {s : ByteArray} {i : Nat} (hl : Lies s i (wrB L)) : seesB s bBEG i = true ∧ i + (wrB L).size ≤ s.size ∧ (seesB s ⟨#[94]⟩ (skip s (i + (wrB L).size)) = false → rS s i [] = rL s (skip s (i + (wrB L).size)) L) := by
  obtain ⟨p, hp, e⟩ := side_back h
  have hr := rd_ok L (gd_side h) hb _ _ p 0 (Nat.le_refl _) hp s i [] (by rw [e]; exact hl)
  rw [e, seg_all, List.nil_append] at hr
  exact ⟨hr.1, hr.2.1, hr.2.2.2⟩
theorem Lies.refl (s : ByteArray) : Lies s 0 s := fun j hj => by rw [Nat.zero_add]
theorem skip_sp {s : ByteArray} {i : Nat} (h : s.data.toList[i]? = some 32) : skip s i = skip s (i + 1) := skip_on (by rw [sees_c h]; decide)

theorem id_back {A B : Sg} {x : Bool} (hA : sideB (intS A) = true) (hB : sideB (intS B) = true) (bA : Byt A) (bB : Byt B) : idP ((wrB A ++ btw x) ++ wrB B) = some (A, B, x) := by
  obtain ⟨s, hs⟩ : ∃ s, (wrB A ++ btw x) ++ wrB B = s := ⟨_, rfl⟩
  have hl : Lies s 0 ((wrB A ++ btw x) ++ wrB B) := by rw [hs]; exact Lies.refl s
  have hz : s.size = (wrB A).size + (btw x).size + (wrB B).size := by rw [← hs, ByteArray.size_append, ByteArray.size_append]
  have lA := hl.left.left
  have lX := hl.left.right
  have lB := hl.right
  rw [ByteArray.size_append] at lB
  rw [Nat.zero_add] at lX lB
  rw [hs]
  obtain ⟨a, ha⟩ : ∃ a, (wrB A).size = a := ⟨_, rfl⟩
  obtain ⟨b, hb⟩ : ∃ b, (wrB B).size = b := ⟨_, rfl⟩
  obtain ⟨-, -, rA⟩ := side_at hA bA lA
  obtain ⟨gB, -, rB⟩ := side_at hB bB lB
  rw [ha] at lX lB rA gB rB hz
  rw [hb] at rB hz
  rw [Nat.zero_add] at rA
  obtain ⟨kB, -⟩ := beg_not gB
  have fin : ∀ e, e = s.size → skip s e = e ∧ seesB s ⟨#[94]⟩ e = false ∧ seesB s bBEG e = false := fun e he => ⟨skip_end (by rw [seesB_end (by omega)]; decide), seesB_end (by omega), seesB_end (by omega)⟩
  cases x with
  | false =>
    have hbs : (btw false).size = 3 := rfl
    rw [hbs] at lB rB gB kB hz
    have c0 : s.data.toList[a]? = some 32 := lX 0 (by rw [hbs]; omega)
    have c1 : s.data.toList[a + 1]? = some 61 := lX 1 (by rw [hbs]; omega)
    have c2 : s.data.toList[a + 2]? = some 32 := lX 2 (by rw [hbs]; omega)
    have k1 : skip s a = a + 1 := by rw [skip_sp c0, skip_c c1 (by decide)]
    have q1 : rS s 0 [] = some (a + 1, A) := by
      rw [rA (by rw [k1, sees_c c1]; decide), k1, rL_at (by omega), if_neg (by rw [sees_c c1]; decide)]
    obtain ⟨f1, f2, f3⟩ := fin (a + 3 + b) (by omega)
    have q2 : rS s (a + 2) [] = some (s.size, B) := by
      rw [← rS_skip (by omega), skip_sp c2, show a + 2 + 1 = a + 3 by omega, kB, rB (by rw [f1]; exact f2), f1, rL_at (by omega), if_neg (by rw [f3]; decide)]
      congr 2
      omega
    unfold idP
    have q1' : pwsP s (s.size + 1) 0 [] = some (a + 1, A) := q1
    have q2' : pwsP s (s.size + 1) (a + 1 + 1) [] = some (s.size, B) := q2
    have lt0 : seesB s ⟨#[60]⟩ (a + 1) = false := by rw [sees_c c1]; decide
    have is1 : isB s 61 (a + 1) = true := by rw [is_c c1]; decide
    rw [q1']
    simp only [lt0, is1, q2', if_true, if_false, Bool.false_eq_true]
  | true =>
    have hbs : (btw true).size = 4 := rfl
    rw [hbs] at lB rB gB kB hz
    have c0 : s.data.toList[a]? = some 32 := lX 0 (by rw [hbs]; omega)
    have c1 : s.data.toList[a + 1]? = some 60 := lX 1 (by rw [hbs]; omega)
    have c2 : s.data.toList[a + 2]? = some 61 := lX 2 (by rw [hbs]; omega)
    have c3 : s.data.toList[a + 3]? = some 32 := lX 3 (by rw [hbs]; omega)
    have k1 : skip s a = a + 1 := by rw [skip_sp c0, skip_c c1 (by decide)]
    have q1 : rS s 0 [] = some (a + 1, A) := by
      rw [rA (by rw [k1, sees_c c1]; decide), k1, rL_at (by omega), if_neg (by rw [sees_c c1]; decide)]
    obtain ⟨f1, f2, f3⟩ := fin (a + 4 + b) (by omega)
    have q2 : rS s (a + 3) [] = some (s.size, B) := by
      rw [← rS_skip (by omega), skip_sp c3, show a + 3 + 1 = a + 4 by omega, kB, rB (by rw [f1]; exact f2), f1, rL_at (by omega), if_neg (by rw [f3]; decide)]
      congr 2
      omega
    unfold idP
    have q1' : pwsP s (s.size + 1) 0 [] = some (a + 1, A) := q1
    have q2' : pwsP s (s.size + 1) (a + 1 + 1 + 1) [] = some (s.size, B) := q2
    have lt0 : seesB s ⟨#[60]⟩ (a + 1) = true := by rw [sees_c c1]; decide
    have is1 : isB s 61 (a + 1 + 1) = true := by
      have := is_c (d := 61) c2
      rw [this]
      decide
    rw [q1']
    simp only [lt0, is1, q2', if_true]
end Go.Proofs.Ythhlamehbcidgaa
