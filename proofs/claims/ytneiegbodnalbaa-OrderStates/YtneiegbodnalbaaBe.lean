/- What '==' gives of two sets. -/
import Derived.Test.YtneiegbodnalbaaBr
namespace Go.Proofs.Ytneiegbodnalbaa
open Go.RowKit

set_option maxHeartbeats 4000000 in
set_option maxRecDepth 100000 in
theorem eq8 (a0 a1 a2 a3 a4 a5 a6 a7 b0 b1 b2 b3 b4 b5 b6 b7 : Int) (w : World) :
    (Op.equalIn 10000 55 (.agg #[.int .u64 a0, .int .u64 a1, .int .u64 a2, .int .u64 a3, .int .u64 a4, .int .u64 a5, .int .u64 a6, .int .u64 a7]) (.agg #[.int .u64 b0, .int .u64 b1, .int .u64 b2, .int .u64 b3, .int .u64 b4, .int .u64 b5, .int .u64 b6, .int .u64 b7])).run Try.prog w =
      .ok (a0 == b0 && (a1 == b1 && (a2 == b2 && (a3 == b3 && (a4 == b4 && (a5 == b5 && (a6 == b6 && a7 == b7))))))) w := by
  have u3 := Try.underlying53
  have a3' := Try.isAgg53
  have z3 := Try.sizeOf53
  rw [show (10000 : Nat) = 9999 + 1 from rfl, Op.equalIn]
  simp only [Sem.run_bind, run_underlying Try.underlying55, Result.andThen_ok]
  simp only [Std.Legacy.Range.forIn_eq_forIn_range', Std.Legacy.Range.size, Nat.sub_zero, Nat.add_sub_cancel, Nat.div_one, List.range'_succ, List.range'_zero, List.forIn_cons, List.forIn_nil]
  go_simp
  by_cases h0 : a0 = b0
  · by_cases h1 : a1 = b1
    · by_cases h2 : a2 = b2
      · by_cases h3 : a3 = b3
        · by_cases h4 : a4 = b4
          · by_cases h5 : a5 = b5
            · by_cases h6 : a6 = b6
              · by_cases h7 : a7 = b7
                · simp [h0, h1, h2, h3, h4, h5, h6, h7]
                · simp [h0, h1, h2, h3, h4, h5, h6, h7]
              · simp [h0, h1, h2, h3, h4, h5, h6]
            · simp [h0, h1, h2, h3, h4, h5]
          · simp [h0, h1, h2, h3, h4]
        · simp [h0, h1, h2, h3]
      · simp [h0, h1, h2]
    · simp [h0, h1]
  · simp [h0]

theorem eq_same (f : Nat → Nat) (w : World) : (Op.equalIn 10000 55 (.agg (cellsF f)) (.agg (cellsF f))).run Try.prog w = .ok true w := by
  unfold cellsF
  rw [eq8]
  simp
theorem word_zero (k : Nat) : word 0 k = 0 := by unfold word; rw [Nat.zero_div, Nat.zero_mod]
theorem cells_zero : cellsF (word 0) = cellsF (fun _ => 0) := cellsF_congr fun k _ => word_zero k
theorem eq_zero (w : World) : (Op.equalIn 10000 55 (.agg #[.int .u64 (word 0 0 : Nat), .int .u64 (word 0 1 : Nat), .int .u64 (word 0 2 : Nat), .int .u64 (word 0 3 : Nat), .int .u64 (word 0 4 : Nat), .int .u64 (word 0 5 : Nat), .int .u64 (word 0 6 : Nat), .int .u64 (word 0 7 : Nat)])
    (.agg #[.int .u64 0, .int .u64 0, .int .u64 0, .int .u64 0, .int .u64 0, .int .u64 0, .int .u64 0, .int .u64 0])).run Try.prog w = .ok true w := by
  rw [eq8]
  simp only [word_zero]
  rfl
theorem eq_set {N M : Nat} (hN : Fits N) (hM : Fits M) (w : World) : (Op.equalIn 10000 55 (.agg (cellsF (word N))) (.agg (cellsF (word M)))).run Try.prog w = .ok (decide (N = M)) w := by
  by_cases h : N = M
  · rw [h, eq_same]
    simp
  · unfold cellsF
    rw [eq8]
    have e : ∀ x : Bool, x = false → Result.ok (α := Bool) x w = .ok (decide (N = M)) w := fun x hx => by rw [hx, decide_eq_false h]
    apply e
    rw [Bool.eq_false_iff]
    intro hx
    simp only [Bool.and_eq_true, beq_iff_eq, Int.natCast_inj] at hx
    apply h
    apply words_ext hN hM
    intro k hk
    rcases eight_cases hk with rfl | rfl | rfl | rfl | rfl | rfl | rfl | rfl
    · exact hx.1
    · exact hx.2.1
    · exact hx.2.2.1
    · exact hx.2.2.2.1
    · exact hx.2.2.2.2.1
    · exact hx.2.2.2.2.2.1
    · exact hx.2.2.2.2.2.2.1
    · exact hx.2.2.2.2.2.2.2

end Go.Proofs.Ytneiegbodnalbaa
