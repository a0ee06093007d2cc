/- The law's made: a transformation of n points out of any numbers. -/
import Derived.Test.YtihjhkbbpphocaaAn
import Derived.Test.YtihjhkbbpphocaaRl
namespace Go.Proofs.Ytihjhkbbpphocaa
open Go Go.RowKit Go.Lib
set_option linter.unusedVariables false

/-- The numbers that made answers. -/
def mdf (n : Nat) (xs : List Int) (i : Nat) : Int := if i < xs.length then xs.getD i 0 % n else i
def mdL (n : Nat) (xs : List Int) : List Int := (List.range n).map (mdf n xs)
def mdP (n : Nat) (xs : List Int) (i : Nat) : List Int := (List.range i).map (mdf n xs)
theorem mdP_succ (n : Nat) (xs : List Int) (i : Nat) : mdP n xs (i + 1) = mdP n xs i ++ [mdf n xs i] := by simp [mdP, List.range_succ]
theorem mdP_len (n : Nat) (xs : List Int) (i : Nat) : (mdP n xs i).length = i := by simp [mdP]
theorem mdf_lt {n : Nat} (hn : 1 ≤ n) (xs : List Int) {i : Nat} (hi : i < n) : 0 ≤ mdf n xs i ∧ mdf n xs i < n := by
  unfold mdf
  split
  · exact ⟨Int.emod_nonneg _ (by omega), Int.emod_lt_of_pos _ (by omega)⟩
  · omega
theorem mdL_ok {n : Nat} (h1 : 1 ≤ n) (h2 : n ≤ 64) (xs : List Int) : okL (mdL n xs) := by
  have hl : (mdL n xs).length = n := mdP_len n xs n
  refine ⟨by omega, by omega, fun i hi => ?_⟩
  rw [hl] at hi ⊢
  have e : (mdL n xs).getD i 0 = mdf n xs i := by simp [mdL, hi]
  rw [e]
  exact mdf_lt h1 xs hi
theorem tmod_twice (x : Int) {n : Nat} (hn : 1 ≤ n) : (x.tmod n + n).tmod n = x % n := by
  have h1 := Int.tmod_lt_of_pos x (b := (n : Int)) (by omega)
  have h2 : -(n : Int) < x.tmod n := by
    have := Int.lt_tmod_of_pos x (b := (n : Int)) (by omega)
    exact this
  rw [Int.tmod_eq_emod_of_nonneg (by omega), Int.add_emod_right]
  rw [Int.tmod_eq_emod]
  split <;> simp
theorem mdP_all {n : Nat} (hn : 1 ≤ n) (h2 : n ≤ 64) (xs : List Int) : mkV (mdL n xs) = .tuple #[.agg (tC (toL (mdL n xs))), .int .i64 0] := by
  have h := mdL_ok hn h2 xs
  unfold mkV
  rw [if_pos ⟨h.1, h.2.1⟩, if_pos h]
  rfl

end Go.Proofs.Ytihjhkbbpphocaa
