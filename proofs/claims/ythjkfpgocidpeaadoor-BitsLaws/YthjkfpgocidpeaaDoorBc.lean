/- Contract of bits.Compare. -/
import Derived.Test.YthjkfpgocidpeaaDoorBw
namespace Go.Proofs.YthjkfpgocidpeaaDoor
open Go.RowKit

/-- What Compare answers. -/
def cmpN (A B : Nat) : Int := if A = B then 0 else if A < B then -1 else 1
theorem top_same {A B k : Nat} (h : A / 2 ^ (64 * (k + 1)) = B / 2 ^ (64 * (k + 1))) (hw : word A k = word B k) : A / 2 ^ (64 * k) = B / 2 ^ (64 * k) := by
  have e : ∀ X : Nat, X / 2 ^ (64 * k) = X / 2 ^ (64 * (k + 1)) * 18446744073709551616 + word X k := by
    intro X
    unfold word
    rw [show 64 * (k + 1) = 64 * k + 64 by omega, Nat.pow_add, ← Nat.div_div_eq_div_mul]
    have := Nat.div_add_mod (X / 2 ^ (64 * k)) (2 ^ 64)
    omega
  rw [e A, e B, h, hw]
theorem top_less {A B k : Nat} (h : A / 2 ^ (64 * (k + 1)) = B / 2 ^ (64 * (k + 1))) (hw : word A k < word B k) : A < B := by
  have e : ∀ X : Nat, X / 2 ^ (64 * k) = X / 2 ^ (64 * (k + 1)) * 18446744073709551616 + word X k := by
    intro X
    unfold word
    rw [show 64 * (k + 1) = 64 * k + 64 by omega, Nat.pow_add, ← Nat.div_div_eq_div_mul]
    have := Nat.div_add_mod (X / 2 ^ (64 * k)) (2 ^ 64)
    omega
  apply Nat.lt_of_not_le
  intro hle
  have := Nat.div_le_div_right (c := 2 ^ (64 * k)) hle
  rw [e A, e B, h] at this
  omega
theorem top_start {A : Nat} (hA : Fits A) (k : Nat) (hk : 8 ≤ k) : A / 2 ^ (64 * k) = 0 := by
  apply Nat.eq_of_testBit_eq
  intro i
  rw [Nat.testBit_div_two_pow, hA _ (by omega), Nat.zero_testBit]

/-- All words above k are the same. -/
def Top (A B k : Nat) : Prop := A / 2 ^ (64 * (k + 1)) = B / 2 ^ (64 * (k + 1))
theorem Top.start {A B : Nat} (hA : Fits A) (hB : Fits B) (k : Nat) (hk : 7 ≤ k) : Top A B k := (top_start hA _ (by omega)).trans (top_start hB _ (by omega)).symm
theorem below_drewN2 {B : Nat} {w W : World} (h : Below B w W) (q : Nat) : Below B w (W.drewN q) := ⟨h.os, h.tape, h.output, h.size, h.block⟩

set_option maxHeartbeats 4000000 in
set_option maxRecDepth 100000 in
theorem compare_any (A B : Nat) (hA : Fits A) (hB : Fits B) (w : World) :
    Calls Tryd.prog 27 #[setV A, setV B] w fun e w' => e = .returned (.int .i64 (cmpN A B)) ∧ Below w.heap.size w w' := by
  have hE := eq_set hA hB
  have H1 : Hid (Cells8 ((w.alloc (.cells (cellsF (word A)) 25)).alloc (.cells (cellsF (word B)) 25)) w.heap.size (word A)) := (Cells8.last w _).alloc _
  have H2 : Hid (Cells8 ((w.alloc (.cells (cellsF (word A)) 25)).alloc (.cells (cellsF (word B)) 25)) (w.heap.size + 1) (word B)) := by
    have := Cells8.last (w.alloc (.cells (cellsF (word A)) 25)) (word B)
    show Cells8 _ _ _
    simpa using this
  have HW : Hid (Below w.heap.size w ((w.alloc (.cells (cellsF (word A)) 25)).alloc (.cells (cellsF (word B)) 25))) := ((Below.refl _ _).alloc (Nat.le_refl _) _).alloc (by simp) _
  unfold setV cellsF
  unfold cellsF at hE H1 H2 HW
  by_cases hAB : A = B
  · have HC : Hid (cmpN A B = 0) := by show _ = _; rw [cmpN, if_pos hAB]
    rw [decide_eq_true hAB] at hE
    clear hAB
    go_enter Tryd.func27, Tryd.ntmps27
    go_wp2_with fail
    go_ret
    exact ⟨ret_int HC.out.symm, HW.out⟩
  · rw [decide_eq_false hAB] at hE
    have HAB : Hid _ := hAB
    clear hAB
    go_enter Tryd.func27, Tryd.ntmps27
    go_wp2_with fail
    generalize hWd : (w.alloc (.cells #[.int .u64 (word A 0 : Nat), .int .u64 (word A 1 : Nat), .int .u64 (word A 2 : Nat), .int .u64 (word A 3 : Nat), .int .u64 (word A 4 : Nat), .int .u64 (word A 5 : Nat), .int .u64 (word A 6 : Nat), .int .u64 (word A 7 : Nat)] 25)).alloc (.cells #[.int .u64 (word B 0 : Nat), .int .u64 (word B 1 : Nat), .int .u64 (word B 2 : Nat), .int .u64 (word B 3 : Nat), .int .u64 (word B 4 : Nat), .int .u64 (word B 5 : Nat), .int .u64 (word B 6 : Nat), .int .u64 (word B 7 : Nat)] 25) = W at H1 H2 HW ⊢
    clear hWd hE
    go_loopw [5] (fun vk wr => ∃ k q : Nat, vk = .int .i64 k ∧ k < 8 ∧ Top A B k ∧ wr = W.drewN q) (fun vk _ => (intOf vk).toNat)
    case atStart => exact ⟨7, 0, rfl, by omega, Top.start hA hB 7 (Nat.le_refl _), rfl⟩
    case round =>
      obtain ⟨k, q, rfl, hk, htop, rfl⟩ := hrel
      have HT : Hid _ := htop
      clear htop
      have hkI : (k : Int) < 8 := by omega
      have ca := H1.out.get hk
      have cb := H2.out.get hk
      by_cases hw : word A k = word B k
      · have hwb : ((word A k : Int) == (word B k : Int)) = true := by rw [hw]; simp
        have HN := top_same HT.out hw
        have hk0 : k ≠ 0 := by
          intro h0
          subst h0
          rw [Nat.mul_zero, Nat.pow_zero, Nat.div_one, Nat.div_one] at HN
          exact HAB.out HN
        have HNH : Hid _ := HN
        clear HN hw
        go_wp2_with fail
        go_quiet (fail)
        go_wp2_with fail
        go_roundw
        case rel => exact ⟨k - 1, _, by go_num, by omega, by unfold Top; rw [show k - 1 + 1 = k by omega]; exact HNH.out, rfl⟩
        case measure => simp [intOf]; omega
      · have hwb : ((word A k : Int) == (word B k : Int)) = false := by rw [beq_eq_false_iff_ne]; omega
        by_cases hl : word A k < word B k
        · have hlI : (word A k : Int) < (word B k : Int) := by omega
          have HC : Hid (cmpN A B = -1) := by show _ = _; rw [cmpN, if_neg HAB.out, if_pos (top_less HT.out hl)]
          clear hw hl
          go_wp2_with fail
          go_quiet (fail)
          go_wp2_with fail
          go_quiet (fail)
          go_wp2_with fail
          go_ret
          exact ⟨ret_int HC.out.symm, below_drewN2 (below_drewN2 (below_drewN2 HW.out _) _) _⟩
        · have hlI : ¬ (word A k : Int) < (word B k : Int) := by omega
          have hl2 : word B k < word A k := by omega
          have HC : Hid (cmpN A B = 1) := by
            show _ = _
            have := top_less HT.out.symm hl2
            rw [cmpN, if_neg HAB.out, if_neg (by omega)]
          clear hw hl hl2
          go_wp2_with fail
          go_quiet (fail)
          go_wp2_with fail
          go_quiet (fail)
          go_wp2_with fail
          go_ret
          exact ⟨ret_int HC.out.symm, below_drewN2 (below_drewN2 (below_drewN2 HW.out _) _) _⟩

end Go.Proofs.YthjkfpgocidpeaaDoor
