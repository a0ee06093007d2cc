/- Numbers of the laws of layer 13. -/
import Derived.Test.YthglficjhgpegaaAv
import Derived.Test.YthglficjhgpegaaAo
namespace Go.Proofs.Ythglficjhgpegaa
open Go Go.RowKit Go.Lib
set_option linter.unusedVariables false

/-- 1 + (a % 64 + 64) % 64, step by step. -/
theorem mod64 (a : Int) (h : I64 a) : ∃ n : Nat, 1 ≤ n ∧ n ≤ 64 ∧ ∃ y z : Int, a.tmod 64 = y ∧ IntKind.i64.wrap y = y ∧ IntKind.i64.wrap (y + 64) = y + 64 ∧ (y + 64).tmod 64 = z ∧ IntKind.i64.wrap z = z ∧ IntKind.i64.wrap (1 + z) = (n : Int) := by
  have b1 := Int.tmod_lt_of_pos a (b := (64 : Int)) (by decide)
  have b2 : -(64 : Int) < a.tmod 64 := Int.lt_tmod_of_pos a (b := (64 : Int)) (by decide)
  have b3 : (a.tmod 64 + 64).tmod 64 < 64 := Int.tmod_lt_of_pos _ (by decide)
  have b4 : 0 ≤ (a.tmod 64 + 64).tmod 64 := Int.tmod_nonneg _ (by omega)
  refine ⟨((a.tmod 64 + 64).tmod 64 + 1).toNat, by omega, by omega, _, _, rfl, IntWalk.i64_in _ (by omega), IntWalk.i64_in _ (by omega), rfl, IntWalk.i64_in _ (by omega), ?_⟩
  rw [IntWalk.i64_in _ (by omega)]
  omega
/-- 1 + (a % p + p) % p, step by step. -/
theorem modp (a : Int) (h : I64 a) (p : Nat) (hp : 1 ≤ p) (hb : p ≤ 31381059609) : ∃ q : Nat, 1 ≤ q ∧ q ≤ p ∧ ∃ y z : Int, a.tmod p = y ∧ IntKind.i64.wrap y = y ∧ IntKind.i64.wrap (y + p) = y + p ∧ (y + p).tmod p = z ∧ IntKind.i64.wrap z = z ∧ IntKind.i64.wrap (1 + z) = (q : Int) := by
  have b1 := Int.tmod_lt_of_pos a (b := (p : Int)) (by omega)
  have b2 : -(p : Int) < a.tmod p := Int.lt_tmod_of_pos a (b := (p : Int)) (by omega)
  have b3 : (a.tmod p + p).tmod p < p := Int.tmod_lt_of_pos _ (by omega)
  have b4 : 0 ≤ (a.tmod p + p).tmod p := Int.tmod_nonneg _ (by omega)
  refine ⟨((a.tmod p + p).tmod p + 1).toNat, by omega, by omega, _, _, rfl, IntWalk.i64_in _ (by omega), IntWalk.i64_in _ (by omega), rfl, IntWalk.i64_in _ (by omega), ?_⟩
  rw [IntWalk.i64_in _ (by omega)]
  omega
theorem u64w {a : Nat} (h : a < 18446744073709551616) : IntKind.u64.wrap (a : Int) = (a : Int) := by rw [IntKind.wrap_u64]; omega
theorem u64add {a b c : Nat} (e : a + b = c) (h : c < 18446744073709551616) : IntKind.u64.wrap ((a : Int) + (b : Int)) = (c : Int) := by rw [IntKind.wrap_u64]; omega
theorem make_md (n : Nat) (h1 : 1 ≤ n) (h2 : n ≤ 64) (xs : List Int) (v : Value) (w : World) {base : Nat} (ho : w.ownsRow base 3 1 v (mdL n xs).length (zC (mdL n xs))) :
    Calls Try.prog 10 #[v] w fun e w' => e = .returned (.tuple #[.agg (tC (toL (mdL n xs))), .int .i64 0]) ∧ Below w.heap.size w w' := by
  have hl : (mdL n xs).length = n := mdP_len n xs n
  have := make_any v (mdL n xs) w (own_reads ho) (by omega)
  rw [mdP_all h1 h2] at this
  exact this
theorem md_tf {n : Nat} (h1 : 1 ≤ n) (h2 : n ≤ 64) (xs : List Int) : Tf (toL (mdL n xs)) := okL_tf (mdL_ok h1 h2 xs)
theorem md_len (n : Nat) (xs : List Int) : (toL (mdL n xs)).length = n := by rw [toL_len]; exact mdP_len n xs n
theorem power_tC (l : List Nat) (hl : Tf l) (q : Nat) (hq : q < 18446744073709551616) (w : World) :
    Calls Try.prog 30 #[.agg (tC l), .int .u64 (q : Int)] w fun e w' => e = .returned (.tuple #[.agg (tC (pwr l q)), .int .i64 0]) ∧ Below w.heap.size w w' := power_ok l hl q hq w
theorem compose_tC (l m : List Nat) (hl : Tf l) (hm : Tf m) (h : l.length = m.length) (w : World) :
    Calls Try.prog 29 #[.agg (tC l), .agg (tC m)] w fun e w' => e = .returned (.tuple #[.agg (tC (cmp l m)), .int .i64 0]) ∧ Below w.heap.size w w' := compose_d l m hl hm h w
theorem cycle_tC (l : List Nat) (hl : Tf l) (w : World) : Calls Try.prog 48 #[.agg (tC l)] w (CyQ l w) := cycle_ok l hl w
theorem identity_tC (n : Nat) (h1 : 1 ≤ n) (h2 : n ≤ 64) (w : World) :
    Calls Try.prog 28 #[.int .i64 (n : Int)] w fun e w' => e = .returned (.tuple #[.agg (tC (stl n)), .int .i64 0]) ∧ Below w.heap.size w w' := by
  have := identity_any n w
  unfold idV at this
  rw [if_pos (by omega), Int.toNat_natCast] at this
  exact this
theorem pwr_same {l : List Nat} (hl : Tf l) {a b : Nat} (h : pwr l a = pwr l b) : sameL (pwr l a) (pwr l b) = true := (sameL_iff (pwr_tf hl a) (pwr_tf hl b)).2 h
theorem pwr_differ {l : List Nat} (hl : Tf l) {a b : Nat} (h : pwr l a ≠ pwr l b) : sameL (pwr l a) (pwr l b) = false := by
  rw [sameL_dec (pwr_tf hl a) (pwr_tf hl b), decide_eq_false h]
end Go.Proofs.Ythglficjhgpegaa
