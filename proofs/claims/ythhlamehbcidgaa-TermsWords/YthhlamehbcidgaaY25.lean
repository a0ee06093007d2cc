/- terms.Print at every identity. -/
import Derived.Test.YthhlamehbcidgaaY24
import Derived.Test.YthhlamehbcidgaaY17
namespace Go.Proofs.Ythhlamehbcidgaa
open Go Go.RowKit Go.Lib
set_option linter.unusedVariables false

set_option maxHeartbeats 2000000 in
set_option maxRecDepth 100000 in
theorem print_bad (vl vr : Value) (x : Bool) (L R : List (Int × Nat)) (w : World) (hl : SgR w vl L) (hr : SgR w vr R) (hL : L.length ≤ 9223372036854775807) (hR : R.length ≤ 9223372036854775807) (hck : ck2 L R ≠ 0) :
    Calls Try.prog 15 #[.agg #[vl, vr, .bool x]] w fun e w' => e = .returned (.tuple #[.string ⟨#[]⟩, .int .i64 (ck2 L R)]) ∧ Below w.heap.size w w' := by
  obtain ⟨al, cl, el⟩ := hl.len
  obtain ⟨ar, cr, er⟩ := hr.len
  obtain ⟨w1, hw1⟩ : ∃ w1, w1 = w.alloc (.cells #[vl, vr, .bool x] 24) := ⟨_, rfl⟩
  have hb1 : Below w.heap.size w w1 := by rw [hw1]; exact below_new _ _
  have HB1 : Hid (Below w.heap.size w w1) := hb1
  have HW1 : Hid (w1 = w.alloc (.cells #[vl, vr, .bool x] 24)) := hw1
  obtain ⟨ek, hek⟩ : ∃ ek, ck2 L R = ek := ⟨_, rfl⟩
  have HCK : Hid (Calls Try.prog 21 #[.agg #[vl, vr, .bool x]] w1 fun e w' => e = .returned (.int .i64 ek) ∧ Below w1.heap.size w1 w') := by
    have h0 := tCheck_any vl vr x L R w1 (hl.below hb1) (hr.below hb1) hL hR
    rw [hek] at h0
    exact h0
  rw [hek] at hck ⊢
  have hneb : (ek != 0) = true := by rw [bne_iff_ne]; exact hck
  have hned : decide (ek ≠ 0) = true := decide_eq_true hck
  subst el er
  clear hl hr hw1 hb1 hek
  go_enter Try.func15, Try.ntmps15
  go_wp2_with fail
  rw [← HW1.out]
  refine Calls.mono HCK.out ?_
  rintro e w2 ⟨rfl, hb⟩
  have HB2 : Hid (Below w.heap.size w w2) := go_on HB1.out hb
  clear hb
  go_wp2_with fail
  go_ret2
  exact ⟨rfl, HB2.out⟩

theorem gd_all {L : List (Int × Nat)} : ∀ {q d : Int}, runS q L = some d → ∀ p ∈ L, gdS p.1 p.2 = true := by
  induction L with
  | nil => intro q d _ p hp; cases hp
  | cons a L ih =>
    obtain ⟨k, n⟩ := a
    intro q d h p hp
    by_cases g : gdS k n = true ∧ arN k ≤ q
    · rw [runS_some g] at h
      rcases List.mem_cons.1 hp with e | e
      · rw [e]; exact g.1
      · exact ih h p e
    · rw [runS_none g] at h
      cases h
theorem gdS_pos {k : Int} {c : Nat} (h : gdS k c = true) : 0 ≤ k := by
  unfold gdS at h
  by_cases h2 : k = 2
  · omega
  · rw [if_neg h2] at h
    simp only [Bool.and_eq_true, decide_eq_true_eq] at h
    omega
/-- A side's kinds are numbers from 1 on. -/
theorem side_nat {L : List (Int × Nat)} (h : sideB L = true) : ∃ K : Sg, L = intS K := by
  unfold sideB at h
  cases hr : runS 0 L with
  | none => rw [hr] at h; cases h
  | some d =>
    refine ⟨L.map fun p => (p.1.toNat, p.2), ?_⟩
    have := gd_all hr
    clear hr h
    induction L with
    | nil => rfl
    | cons a L ih =>
      have h1 := gdS_pos (this a (by simp))
      have h2 := ih (fun p hp => this p (by simp [hp]))
      rw [List.map_cons]
      unfold intS at h2 ⊢
      rw [List.map_cons, ← h2]
      obtain ⟨k, n⟩ := a
      simp only at h1 ⊢
      congr 2
      omega
theorem ck2_sides {L R : List (Int × Nat)} (h : ck2 L R = 0) : sideB L = true ∧ sideB R = true ∧ L.length ≤ 400 ∧ R.length ≤ 400 := by
  unfold ck2 at h
  by_cases c : 400 < L.length ∨ 400 < R.length
  · rw [if_pos c] at h; cases h
  · rw [if_neg c] at h
    by_cases d : sideB L = true ∧ sideB R = true
    · exact ⟨d.1, d.2, by omega, by omega⟩
    · rw [if_neg d] at h; cases h

/-- What Print answers. -/
def PnQ (L R : List (Int × Nat)) (x : Bool) (w : World) (e : Ending) (w' : World) : Prop :=
  ((∃ A B : Sg, L = intS A ∧ R = intS B ∧ ck2 L R = 0 ∧ e = .returned (prV ((wrB A ++ btw x) ++ wrB B))) ∨ (ck2 L R ≠ 0 ∧ e = .returned (.tuple #[.string ⟨#[]⟩, .int .i64 (ck2 L R)]))) ∧ Below w.heap.size w w'
theorem print_any (vl vr : Value) (x : Bool) (L R : List (Int × Nat)) (w : World) (hl : SgR w vl L) (hr : SgR w vr R) (hL : L.length ≤ 9223372036854775807) (hR : R.length ≤ 9223372036854775807) :
    Calls Try.prog 15 #[.agg #[vl, vr, .bool x]] w (PnQ L R x w) := by
  by_cases h : ck2 L R = 0
  · obtain ⟨s1, s2, -, -⟩ := ck2_sides h
    obtain ⟨A, rfl⟩ := side_nat s1
    obtain ⟨B, rfl⟩ := side_nat s2
    obtain ⟨p, m, hp, ep⟩ := side_written s1
    obtain ⟨q, k, hq, eq⟩ := side_written s2
    have h0 := print_ok A B x h _ _ p q m k hp hq vl vr w hl hr
    rw [ep, eq] at h0
    exact h0.mono fun e w' g => ⟨.inl ⟨A, B, rfl, rfl, h, g.1⟩, g.2⟩
  · exact (print_bad vl vr x L R w hl hr hL hR h).mono fun e w' g => ⟨.inr ⟨h, g.1⟩, g.2⟩
end Go.Proofs.Ythhlamehbcidgaa
