/- What is written is read back (pure): pieces. -/
import Derived.Test.YthhlamehbcidgaaY27
namespace Go.Proofs.Ythhlamehbcidgaa
open Go Go.RowKit Go.Lib
set_option linter.unusedVariables false

def seg (L : Sg) (m n : Nat) : Sg := (L.take n).drop m
theorem seg_cat {L : Sg} {m k n : Nat} (h1 : m ≤ k) (h2 : k ≤ n) (h3 : n ≤ L.length) : seg L m n = seg L m k ++ seg L k n := by
  have e : L.take n = L.take k ++ (L.take n).drop k := by
    conv => lhs; rw [← List.take_append_drop k (L.take n)]
    rw [List.take_take, Nat.min_eq_left h2]
  unfold seg
  conv => lhs; rw [e]
  rw [List.drop_append_of_le_length (by rw [List.length_take]; omega)]
theorem seg_one {L : Sg} {n : Nat} (h0 : n ≠ 0) (h : n ≤ L.length) : seg L (n - 1) n = [L.getD (n - 1) (0, 0)] := by
  have h1 : n - 1 < L.length := by omega
  have e : n = (n - 1) + 1 := by omega
  unfold seg
  conv => lhs; rw [show L.take n = L.take ((n - 1) + 1) by rw [← e]]
  rw [List.take_add_one, List.getElem?_eq_getElem h1, List.drop_append_of_le_length (by rw [List.length_take]; omega), List.drop_of_length_le (by rw [List.length_take]; omega)]
  rw [List.getD_eq_getElem?_getD, List.getElem?_eq_getElem h1]
  rfl
theorem seg_snoc {L : Sg} {m n : Nat} (h0 : n ≠ 0) (hm : m ≤ n - 1) (h : n ≤ L.length) : seg L m n = seg L m (n - 1) ++ [L.getD (n - 1) (0, 0)] := by
  rw [seg_cat hm (Nat.sub_le _ _) h, seg_one h0 h]
theorem getD_in {L : Sg} {n : Nat} (h : n < L.length) : L.getD n (0, 0) ∈ L := by
  rw [List.getD_eq_getElem?_getD, List.getElem?_eq_getElem h]
  exact List.getElem_mem h

def Rd (L : Sg) (p : Pc) (m n : Nat) : Prop := ∀ (s : ByteArray) (i : Nat) (K : Sg), Lies s i p.1 →
  seesB s bBEG i = true ∧ i + p.1.size ≤ s.size ∧ (p.2 ≠ 3 → rP s i K = rO s (skip s (i + p.1.size)) (K ++ seg L m n)) ∧
  (seesB s ⟨#[94]⟩ (skip s (i + p.1.size)) = false → rS s i K = rL s (skip s (i + p.1.size)) (K ++ seg L m n))

theorem rd_pow {s : ByteArray} {i e : Nat} {K M : Sg} (hi : i ≤ s.size) (he : e ≤ s.size) (h : rP s i K = rO s (skip s e) M) (hn : seesB s ⟨#[94]⟩ (skip s e) = false) : rP s i K = some (skip s e, M) := by
  have hs := skip_le (s := s) _ e rfl he
  rw [h, rO_at hs.2, if_neg (by rw [hn]; decide)]
theorem beg_no : ∀ n, n < 256 → 0 ≤ Lib.indexByte bBEG.data.toList (UInt8.ofNat n) → decide (0 ≤ Lib.indexByte (⟨#[32]⟩ : ByteArray).data.toList (UInt8.ofNat n)) = false ∧ decide (0 ≤ Lib.indexByte (⟨#[94]⟩ : ByteArray).data.toList (UInt8.ofNat n)) = false := by decide +kernel
theorem beg_not {s : ByteArray} {i : Nat} (h : seesB s bBEG i = true) : skip s i = i ∧ seesB s ⟨#[94]⟩ i = false := by
  have hl := seesB_le h
  obtain ⟨c, hc⟩ : ∃ c, s.data.toList[i]? = some c := ⟨_, List.getElem?_eq_getElem (by rw [len_list]; exact hl)⟩
  rw [sees_c hc] at h
  have hcc : UInt8.ofNat c.toNat = c := by simp
  have := beg_no c.toNat c.toNat_lt (by rw [hcc]; exact of_decide_eq_true h)
  rw [hcc] at this
  exact ⟨skip_c hc this.1, by rw [sees_c hc, this.2]⟩
theorem rd_br {L : Sg} {q : Pc} {m n : Nat} (h : Rd L q m n) {s : ByteArray} {i : Nat} (K : Sg) (hl : Lies s i (brP q)) : seesB s bBEG i = true ∧ i + (brP q).size ≤ s.size ∧ rP s i K = rO s (skip s (i + (brP q).size)) (K ++ seg L m n) := by
  unfold brP at hl ⊢
  by_cases h3 : q.2 = 3
  · rw [if_pos h3] at hl ⊢
    have b1 : bOp.size = 1 := rfl
    have b2 : bCl.size = 1 := rfl
    have c0 : s.data.toList[i]? = some 40 := Lies.one hl.left.left
    have hq := hl.left.right
    rw [b1] at hq
    have c1 : s.data.toList[i + 1 + q.1.size]? = some 41 := by
      have := Lies.one hl.right
      rw [ByteArray.size_append, b1] at this
      rw [Nat.add_assoc]
      exact this
    have hlt := at_lt c1
    obtain ⟨g1, g2, g3, g4⟩ := h s (i + 1) K hq
    have hr := g4 (by rw [skip_c c1 (by decide), sees_c c1]; decide)
    have hs : ((bOp ++ q.1) ++ bCl).size = q.1.size + 2 := by rw [ByteArray.size_append, ByteArray.size_append]; omega
    rw [hs]
    exact ⟨by rw [sees_c c0]; decide, by omega, atom_br K _ c0 hr c1⟩
  · rw [if_neg h3] at hl ⊢
    obtain ⟨g1, g2, g3, g4⟩ := h s i K hl
    exact ⟨g1, g2, g3 h3⟩

theorem rd_ok (L : Sg) (hg : ∀ p ∈ L, gdS (p.1 : Int) p.2 = true) (hb : Byt L) : ∀ (f n : Nat) (p : Pc) (m : Nat), n ≤ L.length → nxP L f n = some (p, m) → Rd L p m n
  | 0, n, p, m, hn, h => by simp [nxP] at h
  | f + 1, n, p, m, hn, h => by
    have hmn := nxP_size L (f + 1) n p m h
    rw [nxP] at h
    split at h
    · cases h
    rename_i h0
    have hin := getD_in (L := L) (n := n - 1) (by omega)
    have hgd := hg _ hin
    have hbt := hb _ hin
    obtain ⟨k, hk⟩ : ∃ k, (L.getD (n - 1) (0, 0)).1 = k := ⟨_, rfl⟩
    obtain ⟨c, hc⟩ : ∃ c, (L.getD (n - 1) (0, 0)).2 = c := ⟨_, rfl⟩
    have hx : L.getD (n - 1) (0, 0) = (k, c) := by rw [← hk, ← hc]
    rw [hk, hc] at hgd
    rw [hc] at hbt
    rw [hk, hc] at h
    split at h
    · rename_i k1
      subst k1
      simp only [Option.some.injEq, Prod.mk.injEq] at h
      obtain ⟨rfl, rfl⟩ := h
      have hc0 : c = 0 := by
        unfold gdS at hgd
        simp at hgd
        exact hgd
      subst hc0
      intro s i K hl
      have a := Lies.one hl
      have hlt := at_lt a
      have hz : (⟨#[49]⟩ : ByteArray).size = 1 := rfl
      have hr : rP s i K = rO s (skip s (i + 1)) (K ++ seg L (n - 1) n) := by rw [seg_one h0 hn, hx]; exact atom_one K a
      refine ⟨by rw [sees_c a]; decide, by show i + (⟨#[49]⟩ : ByteArray).size ≤ _; omega, fun _ => hr, fun hno => ?_⟩
      have := rd_pow (e := i + 1) (by omega) (by omega) hr hno
      rw [rS_at (by omega), this]
      rfl
    split at h
    · rename_i k1 k2
      subst k2
      simp only [Option.some.injEq, Prod.mk.injEq] at h
      obtain ⟨rfl, rfl⟩ := h
      have hpl : 0 ≤ plI c := by
        unfold gdS at hgd
        simpa using hgd
      intro s i K hl
      have a := Lies.one hl
      have hlt := at_lt a
      have hz : (⟨#[UInt8.ofNat c]⟩ : ByteArray).size = 1 := rfl
      have hr : rP s i K = rO s (skip s (i + 1)) (K ++ seg L (n - 1) n) := by rw [seg_one h0 hn, hx]; exact atom_var K hbt hpl a
      refine ⟨?_, by show i + (⟨#[UInt8.ofNat c]⟩ : ByteArray).size ≤ _; omega, fun _ => hr, fun hno => ?_⟩
      · rw [sees_c a]
        rcases letters c hbt hpl with e | e | e | e <;> subst e <;> decide
      have := rd_pow (e := i + 1) (by omega) (by omega) hr hno
      rw [rS_at (by omega), this]
      rfl
    split at h
    · rename_i k1 k2 k4
      subst k4
      split at h
      · cases h
      rename_i q m2 hq
      simp only [Option.some.injEq, Prod.mk.injEq] at h
      obtain ⟨rfl, rfl⟩ := h
      have hc0 : c = 0 := by
        unfold gdS at hgd
        simp at hgd
        exact hgd
      subst hc0
      have IH := rd_ok L hg hb f (n - 1) q m2 (by omega) hq
      have hm2 := nxP_size L f _ _ _ hq
      intro s i K hl
      obtain ⟨g1, g2, g3⟩ := rd_br IH K hl.left
      have hom : bOm.size = 2 := rfl
      have a0 : s.data.toList[i + (brP q).size]? = some 94 := hl.right 0 (by rw [hom]; omega)
      have a1 : s.data.toList[i + (brP q).size + 1]? = some 119 := hl.right 1 (by rw [hom]; omega)
      have hlt := at_lt a1
      have hz : (brP q ++ bOm).size = (brP q).size + 2 := by rw [ByteArray.size_append]; omega
      have hr : rP s i K = rO s (skip s (i + (brP q ++ bOm).size)) (K ++ seg L m2 n) := by
        rw [g3, om_c _ a0 a1, seg_snoc h0 (by omega) hn, hx, hz, List.append_assoc, Nat.add_assoc]
      refine ⟨g1, by show i + (brP q ++ bOm).size ≤ _; omega, fun _ => hr, fun hno => ?_⟩
      have := rd_pow (e := i + (brP q ++ bOm).size) (by omega) (by omega) hr hno
      rw [rS_at (by omega), this]
    · rename_i k1 k2 k4
      have k3 : k = 3 := by rcases gdS_kind hgd with e | e | e | e <;> omega
      subst k3
      split at h
      · cases h
      rename_i q m2 hq
      split at h
      · cases h
      rename_i p1 m1 hp
      simp only [Option.some.injEq, Prod.mk.injEq] at h
      obtain ⟨rfl, rfl⟩ := h
      have hc0 : c = 0 := by
        unfold gdS at hgd
        simp at hgd
        exact hgd
      subst hc0
      have hm2 := nxP_size L f _ _ _ hq
      have hm1 := nxP_size L f _ _ _ hp
      have IHq := rd_ok L hg hb f (n - 1) q m2 (by omega) hq
      have IHp := rd_ok L hg hb f m2 p1 m1 (by omega) hp
      intro s i K hl
      obtain ⟨g1, g2, -, g4⟩ := IHp s i K hl.left
      obtain ⟨b1, b2, b3⟩ := rd_br IHq (K ++ seg L m1 m2) hl.right
      obtain ⟨s1, s2⟩ := beg_not b1
      have hz : (p1.1 ++ brP q).size = p1.1.size + (brP q).size := ByteArray.size_append
      have hze : i + (p1.1 ++ brP q).size = i + p1.1.size + (brP q).size := by omega
      refine ⟨g1, by show i + (p1.1 ++ brP q).size ≤ _; omega, fun h => absurd rfl h, fun hno => ?_⟩
      have hno' : seesB s ⟨#[94]⟩ (skip s (i + p1.1.size + (brP q).size)) = false := by rw [← hze]; exact hno
      have hr := g4 (by rw [s1]; exact s2)
      rw [s1] at hr
      have h2 := rd_pow (by omega) b2 b3 hno'
      rw [hr, rL_at (by omega), if_pos b1, h2, seg_snoc h0 (by omega) hn, hx, seg_cat (L := L) (m := m1) (k := m2) (n := n - 1) (by omega) (by omega) (by omega)]
      show rL s (skip s (i + p1.1.size + (brP q).size)) _ = rL s (skip s (i + (p1.1 ++ brP q).size)) _
      rw [hze, List.append_assoc, List.append_assoc, List.append_assoc]
end Go.Proofs.Ythhlamehbcidgaa
