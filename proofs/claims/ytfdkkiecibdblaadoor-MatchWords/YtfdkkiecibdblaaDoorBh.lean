/- Contract of bits.Has; no old memory is written. -/
import Derived.Test.YtfdkkiecibdblaaDoorBf
import Derived.BigQuiet
namespace Go.Proofs.YtfdkkiecibdblaaDoor
open Go.RowKit

/-- What Has answers. -/
def hasN (N : Nat) (i : Int) : Bool := decide (0 ≤ i ∧ i < 512) && N.testBit i.toNat
theorem has_bit (N m k l : Nat) (hk : m / 64 = k) (hl : m % 64 = l) : ((bits .and .u64 (word N k : Nat) ((2 ^ l : Nat) : Int)) != 0) = N.testBit m := by
  have h64 : l < 64 := by omega
  have e : 64 * k + l = m := by omega
  have hb : (word N k).testBit l = N.testBit m := by rw [testBit_word, e, decide_eq_true h64, Bool.true_and]
  rw [and_u64 _ _ rfl rfl (word_lt N k) (two_pow_lt _ h64), ← hb]
  cases hx : (word N k).testBit l with
  | true =>
    have : word N k &&& 2 ^ l ≠ 0 := by
      intro h0
      have h1 : (word N k &&& 2 ^ l).testBit l = true := by rw [Nat.testBit_and, hx, Nat.testBit_two_pow_self]; rfl
      rw [h0] at h1
      simp at h1
    simpa using this
  | false =>
    have : word N k &&& 2 ^ l = 0 := by
      apply Nat.eq_of_testBit_eq
      intro i
      rw [Nat.testBit_and, Nat.testBit_two_pow, Nat.zero_testBit]
      by_cases hi : l = i
      · rw [← hi, hx]; rfl
      · simp [hi]
    simp [this]
theorem isNumber_yes {i : Int} (h : decide (0 ≤ i ∧ i < 512) = true) (w : World) : Calls Tryd.prog 40 #[.int .i64 i] w fun e w' => e = .returned (.bool true) ∧ w' = w := h ▸ isNumber_any i w
theorem isNumber_no {i : Int} (h : decide (0 ≤ i ∧ i < 512) = false) (w : World) : Calls Tryd.prog 40 #[.int .i64 i] w fun e w' => e = .returned (.bool false) ∧ w' = w := h ▸ isNumber_any i w


set_option maxHeartbeats 2000000 in
set_option maxRecDepth 100000 in
theorem has_any (N : Nat) (i : Int) (w : World) :
    Calls Tryd.prog 22 #[setV N, .int .i64 i] w fun e w' => e = .returned (.bool (hasN N i)) ∧ Below w.heap.size w w' := by
  unfold setV
  by_cases hin : 0 ≤ i ∧ i < 512
  · obtain ⟨m, rfl⟩ : ∃ m : Nat, i = m := ⟨i.toNat, by omega⟩
    have hd : decide (0 ≤ (m : Int) ∧ (m : Int) < 512) = true := by simpa using hin
    have hm5 : m < 512 := by omega
    obtain ⟨k, hkd⟩ : ∃ k, m / 64 = k := ⟨_, rfl⟩
    have hk : k < 8 := by omega
    have hkI : (k : Int) < 8 := by omega
    have hq : (m : Int).tdiv 64 = k := by rw [Int.tdiv_eq_ediv_of_nonneg (by omega)]; omega
    have hw : IntKind.i64.wrap (k : Int) = k := IntWalk.i64_in _ (by omega)
    have H0 : Hid (Cells8 (w.alloc (.cells (cellsF (word N)) 31)) w.heap.size (word N)) := Cells8.last w _
    have HB : Hid (((bits .and .u64 (word N k : Nat) ((2 ^ (m % 64) : Nat) : Int)) != 0) = hasN N m) := by
      show _ = hasN N m
      rw [has_bit N m k _ hkd rfl, hasN, hd, Bool.true_and, Int.toNat_natCast]
    clear hkd hin
    go_enter Tryd.func22, Tryd.ntmps22
    go_wp2_with fail
    generalize hW : w.alloc (.cells (cellsF (word N)) 31) = W at H0 ⊢
    have hc := H0.out.get hk
    have hbel : Below w.heap.size w W := by rw [← hW]; exact (Below.refl _ _).alloc (Nat.le_refl _) _
    have HBel : Hid _ := hbel
    clear hW hbel
    go_quiet (first
      | (go_at_call 40; exact Calls.quiet_of_same (isNumber_yes hd _))
      | (go_at_call 41; exact Calls.quiet_of_same (bitOf_any m hm5 _)))
    go_wp2_with fail
    go_ret
    exact ⟨ret_bool (by rw [← HB.out]; simp), below_drewN HBel.out nq⟩
  · have hd : decide (0 ≤ i ∧ i < 512) = false := by simpa using hin
    have HE : Hid (hasN N i = false) := by show hasN N i = false; rw [hasN, hd, Bool.false_and]
    go_enter Tryd.func22, Tryd.ntmps22
    go_wp2_with fail
    generalize hW : w.alloc (.cells (cellsF (word N)) 31) = W
    have hbel : Below w.heap.size w W := by rw [← hW]; exact (Below.refl _ _).alloc (Nat.le_refl _) _
    have HBel : Hid _ := hbel
    clear hW hbel
    go_quiet ((go_at_call 40; exact Calls.quiet_of_same (isNumber_no hd _)))
    go_wp2_with fail
    go_ret
    exact ⟨ret_bool HE.out.symm, below_drewN HBel.out nq⟩

end Go.Proofs.YtfdkkiecibdblaaDoor
