/- Contract of word.Rank at a word over k letters: its number, or ErrRange where that is above 2^64 - 1. -/
import Derived.Test.YtocdifclkopbcaaWrd
namespace Go.Proofs.Ytocdifclkopbcaa
open Go.RowKit

/-- The number of a word, by letters from its beginning on. -/
def rankL (k : Nat) (l : List UInt8) : Nat := l.foldl (fun n c => n * k + (c.toNat - 96)) 0
theorem rankL_snoc (k : Nat) (l : List UInt8) (c : UInt8) : rankL k (l ++ [c]) = rankL k l * k + (c.toNat - 96) := by simp [rankL]
theorem rankL_mono (k : Nat) (hk : 1 ≤ k) (a b : List UInt8) : rankL k a ≤ rankL k (a ++ b) := by
  induction b generalizing a with
  | nil => simp
  | cons c b ih =>
    have h1 := ih (a ++ [c])
    rw [List.append_assoc, List.singleton_append] at h1
    have h2 := rankL_snoc k a c
    have h3 : rankL k a ≤ rankL k a * k := Nat.le_mul_of_pos_right _ hk
    omega
theorem rank_take (k : Nat) (U : List UInt8) (i : Nat) (hi : i < U.length) : rankL k (U.take (i + 1)) = rankL k (U.take i) * k + (U[i].toNat - 96) := by
  rw [List.take_succ_eq_append_getElem hi, rankL_snoc]
theorem over_iff (n k d : Nat) (hk : 1 ≤ k) (hd : d ≤ 18446744073709551615) : (18446744073709551615 - (d : Int)) / (k : Int) < (n : Int) ↔ 18446744073709551615 < n * k + d := by
  have e : (18446744073709551615 - (d : Int)) / (k : Int) = (((18446744073709551615 - d) / k : Nat) : Int) := by
    rw [Int.natCast_ediv]
    congr 1
    omega
  rw [e]
  have := Nat.div_lt_iff_lt_mul (x := 18446744073709551615 - d) (y := n) (k := k) (by omega)
  constructor
  · intro h
    have := this.1 (by omega)
    omega
  · intro h
    have := this.2 (by omega)
    omega

set_option maxHeartbeats 1000000 in
set_option maxRecDepth 100000 in
theorem rank_w (k : Nat) (U : List UInt8) (w : World) (h1 : 1 ≤ k) (h8 : k ≤ 8) (hU : isW k U) :
    Calls Try.prog 17 #[.int .i64 k, .string (str U)] w fun e w' =>
      ((rankL k U ≤ 18446744073709551615 ∧ e = .returned (.tuple #[.int .u64 (rankL k U : Nat), .int .i64 0])) ∨ (18446744073709551615 < rankL k U ∧ e = .returned (.tuple #[.int .u64 0, .int .i64 11]))) ∧ Below w.heap.size w w' := by
  have HC : Hid (chk (k : Int) (str U) = 0) := chk_isW k U h1 h8 hU
  have HU : Hid (isW k U) := hU
  have hsz := str_size U
  have HSZ : Hid _ := hsz
  clear hU hsz
  go_enter Try.func17, Try.ntmps17
  go_wp2_with fail
  refine (check_any _ _ _).mono ?_
  rintro e w1 ⟨rfl, b1⟩
  rw [HC.out]
  go_wp2_with fail
  go_loopw [7] (fun vn wr => ∃ (i : Nat), wr = w1.iter (str U) i ∧ i ≤ U.length ∧ vn = .int .u64 (rankL k (U.take i) : Nat) ∧ rankL k (U.take i) ≤ 18446744073709551615) (fun _ wr => (str U).size - wr.iterPos w1.heap.size)
  case atStart => exact ⟨0, rfl, Nat.zero_le _, rfl, by simp [rankL]⟩
  case round =>
    obtain ⟨i, rfl, hi, rfl, hle⟩ := hrel
    have hbel : ∀ p, Below w.heap.size w (w1.iter (str U) p) := fun p => go_on b1 ((Below.refl _ _).alloc (Nat.le_refl _) _)
    by_cases hp : i < U.length
    · have hp' : i < (str U).size := by rw [HSZ.out]; exact hp
      have hc := HU.out U[i] (List.getElem_mem hp)
      have hrt := rank_take k U i hp
      have hcc : (str U)[i] = U[i] := by
        rw [at_eq (str U) i hp', at', str_list, List.getD_eq_getElem?_getD, List.getElem?_eq_getElem hp]
        rfl
      have hnx : ∀ ty, (Instr.next (.pointer (some ⟨w1.heap.size, 0, none⟩)) true ty).run Try.prog (w1.iter (str U) i) = _ := fun ty => run_next_ascii w1 (str U) i ty hp' (by rw [hcc]; omega)
      rw [hcc] at hnx
      have HRT : Hid _ := hrt
      have HMO : Hid (rankL k (U.take (i + 1)) ≤ rankL k U) := by
        have := rankL_mono k h1 (U.take (i + 1)) (U.drop (i + 1))
        rw [List.take_append_drop] at this
        exact this
      clear hrt hcc
      generalize U[i].toNat = c at *
      generalize rankL k (U.take i) = n at *
      have hov := over_iff n k (c - 96) h1 (by omega)
      have ed : ((c - 96 : Nat) : Int) = (c : Int) - 97 + 1 := by omega
      rw [ed] at hov
      by_cases hbig : 18446744073709551615 < n * k + (c - 96)
      · have hI := hov.2 hbig
        clear hov ed
        go_wp2
        go_ret2
        have := HRT.out
        have := HMO.out
        exact ⟨.inr ⟨by omega, rfl⟩, hbel _⟩
      · have hI : ¬ (18446744073709551615 - ((c : Int) - 97 + 1)) / (k : Int) < (n : Int) := fun h => hbig (hov.1 h)
        clear hov ed
        have hm0 : 0 ≤ (n : Int) * (k : Int) := Int.mul_nonneg (by omega) (by omega)
        have hm1 : (n : Int) * (k : Int) + ((c : Int) - 97 + 1) ≤ 18446744073709551615 := by
          have e : ((n * k : Nat) : Int) = (n : Int) * (k : Int) := by simp
          omega
        have HN : Hid (rankL k (U.take (i + 1)) = n * k + (c - 96)) := HRT.out
        clear hbig
        go_wp2
        go_roundw
        case rel => exact ⟨i + 1, rfl, by omega, by
          rw [HN.out]
          refine congrArg (Value.int .u64) ?_
          have e : ((n * k : Nat) : Int) = (n : Int) * (k : Int) := by simp
          omega, by
          rw [HN.out]
          have e : ((n * k : Nat) : Int) = (n : Int) * (k : Int) := by simp
          omega⟩
        case measure => simp; omega
    · have hp' : ¬ i < (str U).size := by rw [HSZ.out]; exact hp
      have hnx : ∀ ty, (Instr.next (.pointer (some ⟨w1.heap.size, 0, none⟩)) true ty).run Try.prog (w1.iter (str U) i) = _ := fun ty => run_next_end w1 (str U) i ty hp'
      have HT : Hid (U.take i = U) := List.take_of_length_le (by omega)
      go_wp2
      go_ret2
      rw [HT.out] at hle
      exact ⟨.inl ⟨hle, ret_two (by rw [HT.out]) rfl⟩, hbel _⟩

end Go.Proofs.Ytocdifclkopbcaa
