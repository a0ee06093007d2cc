/- Contracts of bits.Rank and of the document's Rank. -/
import Derived.Test.YthjkfpgocidpeaaDoorRl
import Derived.Test.YthjkfpgocidpeaaDoorBw
namespace Go.Proofs.YthjkfpgocidpeaaDoor
open Go.RowKit Go.Lib

/-- A place, brought into 0 to 512. -/
def clampN (i : Int) : Nat := (max 0 (min i 512)).toNat
theorem clamp_le (i : Int) : clampN i ≤ 512 := by unfold clampN; omega
/-- What Rank answers. -/
def rankN (N : Nat) (i : Int) : Nat := cnt (clampN i) N
theorem cnt_and_all (N c : Nat) (h : c ≤ 512) : cnt 512 (andN N (allN c)) = cnt c N := by
  have e : 512 = c + (512 - c) := by omega
  conv => lhs; rw [e, cnt_add]
  have h1 : cnt (512 - c) (andN N (allN c) / 2 ^ c) = 0 := by
    have : ∀ b, cnt b (andN N (allN c) / 2 ^ c) = 0 := by
      intro b
      induction b with
      | zero => rfl
      | succ b ih =>
        rw [cnt_succ, ih, Nat.testBit_div_two_pow]
        unfold andN
        rw [Nat.testBit_and, testBit_all, decide_eq_false (by omega), Bool.and_false]
        rfl
    exact this _
  rw [h1, Nat.add_zero]
  apply cnt_congr
  intro i hi
  unfold andN
  rw [Nat.testBit_and, testBit_all, decide_eq_true hi, Bool.and_true]
theorem rank_word (N c k : Nat) : bits .and .u64 (word N k : Nat) ((2 ^ (min ((c : Int) - (k : Int) * 64).toNat 64) - 1 : Nat) : Int) = (word (andN N (allN c)) k : Nat) := by
  rw [and_u64 _ _ rfl rfl (word_lt N k) (ones_lt (by omega)), word_inter, word_all]

theorem low_word (c j : Nat) (z : Int) (h : z = (c : Int) - (j : Int) * 64) : 2 ^ (min z.toNat 64) - 1 = word (allN c) j := by rw [h, word_all]

set_option maxHeartbeats 2000000 in
set_option maxRecDepth 100000 in
theorem rank_any (N : Nat) (i : Int) (w : World) :
    Calls Tryd.prog 30 #[setV N, .int .i64 i] w fun e w' => e = .returned (.int .i64 (rankN N i : Nat)) ∧ Below w.heap.size w w' := by
  obtain ⟨c, HC⟩ : ∃ c, Hid (clampN i = c) := ⟨_, rfl⟩
  have hc5 : c ≤ 512 := by rw [← HC.out]; exact clamp_le i
  obtain ⟨Y, HY⟩ : ∃ Y, Hid (andN N (allN c) = Y) := ⟨_, rfl⟩
  have HR : Hid (rankN N i = cnt 512 Y) := by show _ = _; rw [← HY.out, cnt_and_all N c hc5, rankN, HC.out]
  have HCd := HC.out
  unfold clampN at HCd
  have HW : Hid (∀ k : Nat, bits .and .u64 (word N k : Nat) (word (allN c) k : Nat) = (word Y k : Nat)) := fun k => by rw [and_u64 _ _ rfl rfl (word_lt N k) (word_lt _ k), ← word_inter, HY.out]
  unfold setV cellsF
  by_cases i0 : i ≤ 0
  · have i5 : ¬ 512 < i := by omega
    have HCZ : Hid ((c : Int) = 0) := by show _ = _; omega
    clear HCd
    go_enter Tryd.func30, Tryd.ntmps30
    go_wp2_with fail
    go_loop [5, 6, 7, 12] (fun n _ _ k => ∃ j : Nat, j ≤ 8 ∧ k = .int .i64 j ∧ n = .int .i64 (sumW Y j : Nat)) (fun _ _ _ k => 8 - (intOf k).toNat)
    case atStart => exact ⟨0, by omega, rfl, rfl⟩
    case round =>
      obtain ⟨j, hj, rfl, rfl⟩ := hrel
      by_cases h8 : j < 8
      · have hb := cnt_le 64 (word Y j)
        have hs : sumW Y j ≤ 512 := by rw [sumW_eq]; have := cnt_le (64 * j) Y; omega
        have hjI : (j : Int) < 8 := by omega
        have hx := run_index_set (word N) h8
        unfold cellsF at hx
        have HS : Hid (sumW Y (j + 1) = sumW Y j + cnt 64 (word Y j)) := rfl
        have HJ : Hid _ := HW.out j
        have HLow : Hid (2 ^ (min (-((j : Int) * 64)).toNat 64) - 1 = word (allN c) j) := low_word c j _ (by have := HCZ.out; omega)
        go_wp2_with (first
          | (go_at_call 37; refine (lowOnes_any (-((j : Int) * 64)) (by omega) _).mono ?_; rintro e w1 ⟨rfl, rfl⟩; rw [HLow.out])
          | (go_at_call 35; rw [HJ.out]; refine (onesCount_any _ (word_lt Y j) _).mono ?_; rintro e w1 ⟨rfl, rfl⟩))
        go_round
        case rel => exact ⟨j + 1, by omega, by go_num, by rw [HS.out]; go_num⟩
        case measure => simp [intOf]; omega
      · have hjI : ¬ (j : Int) < 8 := by omega
        have HI : Hid (j = 8) := by show j = 8; omega
        go_wp2_with fail
        go_ret
        exact ⟨ret_int (by rw [HR.out, HI.out, sumW_eq]), (Below.refl _ _).alloc (Nat.le_refl _) _⟩
  · by_cases i5 : 512 < i
    · have HCZ : Hid ((c : Int) = 512) := by show _ = _; omega
      clear HCd
      go_enter Tryd.func30, Tryd.ntmps30
      go_wp2_with fail
      go_loop [5, 6, 7, 12] (fun n _ _ k => ∃ j : Nat, j ≤ 8 ∧ k = .int .i64 j ∧ n = .int .i64 (sumW Y j : Nat)) (fun _ _ _ k => 8 - (intOf k).toNat)
      case atStart => exact ⟨0, by omega, rfl, rfl⟩
      case round =>
        obtain ⟨j, hj, rfl, rfl⟩ := hrel
        by_cases h8 : j < 8
        · have hb := cnt_le 64 (word Y j)
          have hs : sumW Y j ≤ 512 := by rw [sumW_eq]; have := cnt_le (64 * j) Y; omega
          have hjI : (j : Int) < 8 := by omega
          have hx := run_index_set (word N) h8
          unfold cellsF at hx
          have HS : Hid (sumW Y (j + 1) = sumW Y j + cnt 64 (word Y j)) := rfl
          have HJ : Hid _ := HW.out j
          have HLow : Hid (2 ^ (min (512 - (j : Int) * 64).toNat 64) - 1 = word (allN c) j) := low_word c j _ (by have := HCZ.out; omega)
          go_wp2_with (first
            | (go_at_call 37; refine (lowOnes_any (512 - (j : Int) * 64) (by omega) _).mono ?_; rintro e w1 ⟨rfl, rfl⟩; rw [HLow.out])
            | (go_at_call 35; rw [HJ.out]; refine (onesCount_any _ (word_lt Y j) _).mono ?_; rintro e w1 ⟨rfl, rfl⟩))
          go_round
          case rel => exact ⟨j + 1, by omega, by go_num, by rw [HS.out]; go_num⟩
          case measure => simp [intOf]; omega
        · have hjI : ¬ (j : Int) < 8 := by omega
          have HI : Hid (j = 8) := by show j = 8; omega
          go_wp2_with fail
          go_ret
          exact ⟨ret_int (by rw [HR.out, HI.out, sumW_eq]), (Below.refl _ _).alloc (Nat.le_refl _) _⟩
    · have hi : i = (c : Int) := by omega
      clear HCd
      subst hi
      go_enter Tryd.func30, Tryd.ntmps30
      go_wp2_with fail
      go_loop [5, 6, 7, 12] (fun n _ _ k => ∃ j : Nat, j ≤ 8 ∧ k = .int .i64 j ∧ n = .int .i64 (sumW Y j : Nat)) (fun _ _ _ k => 8 - (intOf k).toNat)
      case atStart => exact ⟨0, by omega, rfl, rfl⟩
      case round =>
        obtain ⟨j, hj, rfl, rfl⟩ := hrel
        by_cases h8 : j < 8
        · have hb := cnt_le 64 (word Y j)
          have hs : sumW Y j ≤ 512 := by rw [sumW_eq]; have := cnt_le (64 * j) Y; omega
          have hjI : (j : Int) < 8 := by omega
          have hx := run_index_set (word N) h8
          unfold cellsF at hx
          have HS : Hid (sumW Y (j + 1) = sumW Y j + cnt 64 (word Y j)) := rfl
          have HJ : Hid _ := HW.out j
          have HLow : Hid (2 ^ (min ((c : Int) - (j : Int) * 64).toNat 64) - 1 = word (allN c) j) := low_word c j _ (rfl)
          go_wp2_with (first
            | (go_at_call 37; refine (lowOnes_any ((c : Int) - (j : Int) * 64) (by omega) _).mono ?_; rintro e w1 ⟨rfl, rfl⟩; rw [HLow.out])
            | (go_at_call 35; rw [HJ.out]; refine (onesCount_any _ (word_lt Y j) _).mono ?_; rintro e w1 ⟨rfl, rfl⟩))
          go_round
          case rel => exact ⟨j + 1, by omega, by go_num, by rw [HS.out]; go_num⟩
          case measure => simp [intOf]; omega
        · have hjI : ¬ (j : Int) < 8 := by omega
          have HI : Hid (j = 8) := by show j = 8; omega
          go_wp2_with fail
          go_ret
          exact ⟨ret_int (by rw [HR.out, HI.out, sumW_eq]), (Below.refl _ _).alloc (Nat.le_refl _) _⟩

end Go.Proofs.YthjkfpgocidpeaaDoor
