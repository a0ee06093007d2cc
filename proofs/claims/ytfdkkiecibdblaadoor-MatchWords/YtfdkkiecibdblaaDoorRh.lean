/- Contracts of the document's Has and Of. -/
import Derived.Test.YtfdkkiecibdblaaDoorBh
import Derived.BigRegion
namespace Go.Proofs.YtfdkkiecibdblaaDoor
open Go.RowKit

theorem rhas_bit (N m k l : Nat) (hk : m / 64 = k) (hl : m % 64 = l) : ((bits .and .u64 ((word N k : Nat) / 2 ^ l : Int) 1) == 1) = N.testBit m := by
  have h64 : l < 64 := by omega
  have e : 64 * k + l = m := by omega
  have hb : (word N k).testBit l = N.testBit m := by rw [testBit_word, e, decide_eq_true h64, Bool.true_and]
  have h1 : bits .and .u64 ((word N k : Nat) / 2 ^ l : Int) 1 = ((word N k / 2 ^ l &&& 1 : Nat) : Int) := and_u64 _ 1 (shr_cast _ _) rfl (shr_lt (word_lt N k)) (by decide)
  rw [h1, ← hb, Nat.testBit_eq_decide_div_mod_eq, Nat.and_one_is_mod, Bool.eq_iff_iff]
  simp only [beq_iff_eq, decide_eq_true_eq]
  omega

set_option maxHeartbeats 2000000 in
set_option maxRecDepth 100000 in
theorem rhas_any (N : Nat) (i : Int) (w : World) :
    Calls Tryd.prog 29 #[setV N, .int .i64 i] w fun e w' => e = .returned (.bool (hasN N i)) ∧ Below w.heap.size w w' := by
  unfold setV
  by_cases h0 : 0 ≤ i
  · by_cases h5 : i < 512
    · obtain ⟨m, rfl⟩ : ∃ m : Nat, i = m := ⟨i.toNat, by omega⟩
      have hm5 : m < 512 := by omega
      have hk : m / 64 < 8 := by omega
      have hc := (Cells8.last w (word N)).get hk
      have HB : Hid (((bits .and .u64 ((word N (m / 64) : Nat) / 2 ^ (m % 64) : Int) 1) == 1) = hasN N m) := by
        show _ = hasN N m
        rw [rhas_bit N m _ _ rfl rfl, hasN, decide_eq_true (by omega), Bool.true_and, Int.toNat_natCast]
      go_enter Tryd.func29, Tryd.ntmps29
      go_wp2_with fail
      go_ret
      exact ⟨ret_bool HB.out, (Below.refl _ _).alloc (Nat.le_refl _) _⟩
    · have HE : Hid (hasN N i = false) := by show hasN N i = false; rw [hasN, decide_eq_false (by omega), Bool.false_and]
      go_enter Tryd.func29, Tryd.ntmps29
      go_wp2_with fail
      go_ret
      exact ⟨ret_bool HE.out.symm, (Below.refl _ _).alloc (Nat.le_refl _) _⟩
  · have HE : Hid (hasN N i = false) := by show hasN N i = false; rw [hasN, decide_eq_false (by omega), Bool.false_and]
    go_enter Tryd.func29, Tryd.ntmps29
    go_wp2_with fail
    go_ret
    exact ⟨ret_bool HE.out.symm, (Below.refl _ _).alloc (Nat.le_refl _) _⟩

end Go.Proofs.YtfdkkiecibdblaaDoor
