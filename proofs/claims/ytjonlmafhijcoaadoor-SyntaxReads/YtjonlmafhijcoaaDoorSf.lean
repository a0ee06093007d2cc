/- What Parse does with a text, sign by sign (pure), and what its walk over the text keeps. -/
import Derived.Test.YtjonlmafhijcoaaDoorSe
import Derived.Lib.OthersKept
import Derived.Laws.RangeAny
namespace Go.Proofs.YtjonlmafhijcoaaDoor
open Go Go.RowKit
set_option linter.unusedVariables false
variable {tx : ByteArray} {ps : Nat}

def stepS (k sg : Int) (s : St) : Option St := if s.1 then beginS k sg s.2.1 s.2.2 else followS k sg s.2.1 s.2.2
def sizeS (s : St) : Nat := s.2.1.length + 2 * s.2.2.length
theorem begin_size {k sg : Int} {ns : List Nd} {T : List Wt} {s : St} (h : beginS k sg ns T = some s) (hk : KW T) : sizeS s ≤ ns.length + 2 * T.length + 2 ∧ KW s.2.2 := by
  have hkc : ∀ j : Int, 0 ≤ j → j ≤ 9 → KW ((j, false) :: T) := fun j h0 h9 q hq => by
    rw [List.mem_cons] at hq
    rcases hq with rfl | hq
    · exact ⟨h0, h9⟩
    · exact hk q hq
  unfold beginS at h
  repeat' split at h
  all_goals first
    | (cases h; done)
    | (simp only [Option.some.injEq] at h; subst h; refine ⟨?_, ?_⟩
       · simp [sizeS]; omega
       · first | exact hk | exact hkc _ (by decide) (by decide))
theorem join_size (j : Nat) (hj : j ≤ 9) (m : Bool) {ns : List Nd} {T : List Wt} (hk : KW T) : sizeS (joinS j m ns T) ≤ ns.length + 2 * T.length + 2 ∧ KW (joinS j m ns T).2.2 := by
  have h := settle_size (tight j) T ns
  have h2 := settle_kw (tight j) T ns hk
  refine ⟨?_, fun q hq => ?_⟩
  · simp only [sizeS, joinS, List.length_cons]; omega
  · simp only [joinS, List.mem_cons] at hq
    rcases hq with rfl | hq
    · constructor <;> simp only <;> omega
    · exact h2 q hq
theorem follow_size {k sg : Int} {ns : List Nd} {T : List Wt} {s : St} (h : followS k sg ns T = some s) (hk : KW T) : sizeS s ≤ ns.length + 2 * T.length + 4 ∧ KW s.2.2 := by
  unfold followS at h
  split at h
  · simp only [Option.some.injEq] at h; subst h
    exact ⟨by simp [sizeS]; omega, hk⟩
  split at h
  · simp only [Option.some.injEq] at h; subst h
    exact ⟨by simp [sizeS]; omega, hk⟩
  split at h
  · simp only [Option.some.injEq] at h; subst h
    have := join_size 6 (by decide) true (ns := ns) hk
    exact ⟨by omega, this.2⟩
  split at h
  · simp only [Option.some.injEq] at h; subst h
    have := join_size 6 (by decide) false (ns := ns) hk
    exact ⟨by omega, this.2⟩
  split at h
  · simp only [Option.some.injEq] at h; subst h
    have := join_size 5 (by decide) false (ns := ns) hk
    exact ⟨by omega, this.2⟩
  split at h
  · split at h
    · cases h
    · simp only [Option.some.injEq] at h; subst h
      have h1 := settle_size 1 T ns
      have h2 := settle_kw 1 T ns hk
      refine ⟨?_, fun q hq => h2 q (List.mem_of_mem_tail hq)⟩
      simp only [sizeS, List.length_tail]; omega
  · have h1 := join_size 7 (by decide) false (ns := ns) hk
    have h2 := begin_size h h1.2
    refine ⟨?_, h2.2⟩
    have h3 := h1.1
    have h4 := h2.1
    simp only [sizeS] at h3 h4 ⊢
    omega
theorem step_size {k sg : Int} {s s' : St} (h : stepS k sg s = some s') (hk : KW s.2.2) : sizeS s' ≤ sizeS s + 4 ∧ KW s'.2.2 := by
  unfold stepS at h
  split at h
  · have := begin_size h hk
    exact ⟨by have h3 := this.1; simp only [sizeS] at h3 ⊢; omega, this.2⟩
  · exact follow_size h hk
theorem begin_high {k sg : Int} (hk : k ≤ 8) (hs : 128 ≤ sg) (ns : List Nd) (T : List Wt) : beginS k sg ns T = none := by
  unfold beginS
  rw [if_neg (by omega), if_neg (by omega), if_neg (by omega), if_neg (by omega), if_neg (by omega), if_neg (by omega)]
theorem step_high {k sg : Int} (hk : k ≤ 8) (hs : 128 ≤ sg) (s : St) : stepS k sg s = none := by
  unfold stepS
  split
  · exact begin_high hk hs _ _
  · unfold followS
    rw [if_neg (by omega), if_neg (by omega), if_neg (by omega), if_neg (by omega), if_neg (by omega), if_neg (by omega)]
    exact begin_high hk hs _ _
/-- The text read on from a place: the place of the error, or the state at its end. -/
def runP (k : Int) : List UInt8 → Nat → St → Nat ⊕ St
  | [], _, s => .inr s
  | b :: l, pos, s => if b.toNat = 32 then runP k l (pos + 1) s else match stepS k b.toNat s with
    | none => .inl pos
    | some s' => runP k l (pos + 1) s'
end Go.Proofs.YtjonlmafhijcoaaDoor
