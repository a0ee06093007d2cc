/- The document's Go; checkWord; Run and Accepts, program and document. -/
import Derived.Test.YtihjhkbbpphocaaJe
namespace Go.Proofs.Ytihjhkbbpphocaa
open Go Go.RowKit Go.Lib
set_option linter.unusedVariables false

/-- What checkWord answers. -/
noncomputable def cwE (A : Aut) (b : ByteArray) : Int := if chkA A = 0 then chk A.k b else 80
/-- What Run answers. -/
noncomputable def runE (A : Aut) (s : Int) (b : ByteArray) : Int := if chkA A = 0 then if s < 0 ∨ A.ac.length ≤ s then 11 else chk A.k b else 80
noncomputable def runV (A : Aut) (s : Int) (b : ByteArray) : Int := if runE A s b = 0 then (goN A s.toNat (lets b) : Int) else 0
noncomputable def accV (A : Aut) (b : ByteArray) : Bool := if cwE A b = 0 then aN A (goN A 0 (lets b)) else false
open Classical in
theorem chkA_cases (A : Aut) : (Good A ∧ chkA A = 0) ∨ (¬ Good A ∧ chkA A = 80) := by
  by_cases h : Good A
  · exact .inl ⟨h, chkA_ok h⟩
  · exact .inr ⟨h, chkA_no h⟩
theorem chkA_good {A : Aut} (h : chkA A = 0) : Good A := by
  rcases chkA_cases A with h2 | h2
  · exact h2.1
  · rw [h2.2] at h; cases h
theorem ret_two {a b c d : Value} (h1 : a = c) (h2 : b = d) : Ending.returned (.tuple #[a, b]) = .returned (.tuple #[c, d]) := by rw [h1, h2]

end Go.Proofs.Ytihjhkbbpphocaa
