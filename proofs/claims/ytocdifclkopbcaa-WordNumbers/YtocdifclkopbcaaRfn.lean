/- Contracts of the document's Rank, After, Next and Nth at words and numbers; and of word.Next, Rank and Nth where Check refuses. -/
import Derived.Test.YtocdifclkopbcaaRkm
import Derived.Test.YtocdifclkopbcaaRep
namespace Go.Proofs.Ytocdifclkopbcaa
open Go.RowKit

set_option maxHeartbeats 1000000 in
set_option maxRecDepth 100000 in
theorem rrank_w (k : Nat) (U : List UInt8) (w : World) (h1 : 1 ≤ k) (h8 : k ≤ 8) (hU : isW k U) (hs : U.length ≤ 140737488355328) :
    Calls Try.prog 20 #[.int .i64 k, .string (str U)] w fun e w' =>
      ((rankL k U ≤ 18446744073709551615 ∧ e = .returned (.tuple #[.int .u64 (rankL k U : Nat), .int .i64 0])) ∨ (18446744073709551615 < rankL k U ∧ e = .returned (.tuple #[.int .u64 0, .int .i64 11]))) ∧ Below w.heap.size w w' := by
  have HC : Hid (chk (k : Int) (str U) = 0) := chk_isW k U h1 h8 hU
  have HU : Hid (isW k U) := hU
  have hsz := str_size U
  have HML : Hid ((str U).size ≤ maxLen) := by show (str U).size ≤ maxLen; rw [str_size]; unfold maxLen; omega
  clear hU
  go_enter Try.func20, Try.ntmps20
  go_wp2_with fail
  refine (rcheck_any _ _ _ HML.out).mono ?_
  rintro e w1 ⟨rfl, b1⟩
  rw [HC.out]
  go_wp2_with fail
  go_loop [8, 9] (fun vn vi => ∃ (i : Nat), vi = .int .i64 i ∧ i ≤ U.length ∧ vn = .int .u64 (rankL k (U.take i) : Nat) ∧ rankL k (U.take i) ≤ 18446744073709551615) (fun _ vi => U.length - (intOf vi).toNat)
  case atStart => exact ⟨0, rfl, Nat.zero_le _, rfl, by simp [rankL]⟩
  case round =>
    obtain ⟨i, rfl, hi, rfl, hle⟩ := hrel
    by_cases hp : i < U.length
    · have hp' : i < (str U).size := by rw [hsz]; exact hp
      have hc := HU.out U[i] (List.getElem_mem hp)
      have hcc : (str U)[i] = U[i] := by
        rw [at_eq (str U) i hp', at', str_list, List.getD_eq_getElem?_getD, List.getElem?_eq_getElem hp]
        rfl
      have HRT : Hid (rankL k (U.take (i + 1)) = rankL k (U.take i) * k + (U[i].toNat - 96)) := rank_take k U i hp
      have HMO : Hid (rankL k (U.take (i + 1)) ≤ rankL k U) := by
        have := rankL_mono k h1 (U.take (i + 1)) (U.drop (i + 1))
        rw [List.take_append_drop] at this
        exact this
      generalize U[i] = c at *
      have hcI : (97 : Int) ≤ (c.toNat : Int) := by omega
      have hcm : ((c.toNat : Int) - 97) % 256 = (c.toNat : Int) - 97 := by omega
      generalize hnn : rankL k (U.take i) = n at *
      clear hnn
      have hov := over_iff n k (c.toNat - 96) h1 (by omega)
      have ed : ((c.toNat - 96 : Nat) : Int) = (c.toNat : Int) - 97 + 1 := by omega
      rw [ed] at hov
      by_cases hbig : 18446744073709551615 < n * k + (c.toNat - 96)
      · have hI := hov.2 hbig
        clear hov ed
        go_wp2
        go_ret2
        have := HRT.out
        have := HMO.out
        exact ⟨.inr ⟨by omega, rfl⟩, b1⟩
      · have hI : ¬ (18446744073709551615 - ((c.toNat : Int) - 97 + 1)) / (k : Int) < (n : Int) := fun h => hbig (hov.1 h)
        clear hov ed
        have hm0 : 0 ≤ (n : Int) * (k : Int) := Int.mul_nonneg (by omega) (by omega)
        have hm1 : (n : Int) * (k : Int) + ((c.toNat : Int) - 97 + 1) ≤ 18446744073709551615 := by
          have e : ((n * k : Nat) : Int) = (n : Int) * (k : Int) := by simp
          omega
        clear hbig
        go_wp2
        go_round
        case rel => exact ⟨i + 1, by go_num, by omega, by
          rw [HRT.out]
          refine congrArg (Value.int .u64) ?_
          have e : ((n * k : Nat) : Int) = (n : Int) * (k : Int) := by simp
          omega, by
          rw [HRT.out]
          have e : ((n * k : Nat) : Int) = (n : Int) * (k : Int) := by simp
          omega⟩
        case measure => simp [intOf]; omega
    · have HT : Hid (U.take i = U) := List.take_of_length_le (by omega)
      go_wp2
      go_ret2
      rw [HT.out] at hle
      exact ⟨.inl ⟨hle, ret_two (by rw [HT.out]) rfl⟩, b1⟩

set_option maxHeartbeats 2000000 in
set_option maxRecDepth 100000 in
theorem after_w (k : Nat) (U : List UInt8) (w : World) (h1 : 1 ≤ k) (h8 : k ≤ 8) (hU : isW k U) (hs : U.length ≤ 140737488355327) :
    Calls Try.prog 39 #[.int .i64 k, .string (str U)] w fun e w' => e = .returned (.string (str (nextL k U))) ∧ Below w.heap.size w w' := by
  have HU : Hid (isW k U) := hU
  clear hU
  obtain ⟨cap, w2, hrun, hrow, b2⟩ := conv_row U w
  have HROW : Hid (BRow w2 w.heap.size cap U) := hrow
  clear hrow
  go_enter Try.func39, Try.ntmps39
  go_wp2_with fail
  clear hrun
  go_loopw [6] (fun vi wr => ∃ (m : Nat), vi = .int .i64 ((m : Int) - 1) ∧ m ≤ U.length ∧ allLast k U m ∧ BRow wr w.heap.size cap (turnTo U m) ∧ Below w.heap.size w wr) (fun vi _ => (intOf vi + 1).toNat)
  case atStart => exact ⟨U.length, by go_num, Nat.le_refl _, fun j h h' => by omega, by rw [turnTo_all]; exact HROW.out, b2⟩
  case round =>
    obtain ⟨m, rfl, hm, hall, hrow, hb⟩ := hrel
    have HA : Hid (allLast k U m) := hall
    have HR : Hid (BRow wr w.heap.size cap (turnTo U m)) := hrow
    clear hall hrow
    by_cases hlt : 0 < m
    · obtain ⟨q, rfl⟩ : ∃ q, m = q + 1 := ⟨m - 1, by omega⟩
      have eq : (((q + 1 : Nat) : Int) - 1) = (q : Int) := by omega
      rw [eq]
      clear eq
      have hql : q < U.length := by omega
      have hc := HR.out.cell q U[q] (turnTo_get U q hql)
      have hle2 := HR.out.le
      rw [turnTo_len U (q + 1) (by omega)] at hle2
      have hf := HR.out.free q (by omega)
      have hcW := HU.out U[q] (List.getElem_mem hql)
      have hcm : ((U[q].toNat : Int) - 97) % 256 = (U[q].toNat : Int) - 97 := by omega
      by_cases hl : U[q].toNat = 96 + k
      · have hb0 : ((U[q].toNat : Int) - 97 == (k : Int) - 1) = true := by rw [beq_iff_eq]; omega
        have HL : Hid _ := hl
        clear hl
        go_wp2_with fail
        go_roundw
        case rel => exact ⟨q, by go_num, by omega, fun j h h' => by
          by_cases e : j = q
          · rw [e]; simpa [hql] using HL.out
          · exact HA.out j (by omega) h', by
          have := HR.out.set q (by rw [turnTo_len U (q + 1) (by omega)]; exact hql) 97
          rw [turnTo_set U q hql] at this
          exact this, hb.setCell (p := ⟨w.heap.size, q, none⟩) (Nat.le_refl _) _⟩
        case measure => simp [intOf]
      · have hb0 : ((U[q].toNat : Int) - 97 == (k : Int) - 1) = false := by rw [beq_eq_false_iff_ne]; omega
        have HL : Hid _ := hl
        clear hl
        have hset := HR.out.set q (by rw [turnTo_len U (q + 1) (by omega)]; exact hql) (UInt8.ofNat (U[q].toNat + 1))
        rw [turnTo_put U q hql, ← nextL_at k U q hql HA.out HL.out, byte_up _ (by omega)] at hset
        have HN : Hid ((nextL k U).length = U.length) := by
          show (nextL k U).length = U.length
          rw [nextL_at k U q hql HA.out HL.out]
          simp
          omega
        have hst := hset.string U.length HN.out.symm
        clear hset
        go_wp2_with fail
        go_ret
        exact ⟨rfl, hb.setCell (p := ⟨w.heap.size, q, none⟩) (Nat.le_refl _) _⟩
    · have : m = 0 := by omega
      subst this
      have HN : Hid (nextL k U = List.replicate (U.length + 1) 97) := nextL_all k U HA.out
      have ht : turnTo U 0 = List.replicate U.length 97 := by simp [turnTo]
      have hrw : BRow wr w.heap.size cap (List.replicate U.length 97) := by rw [← ht]; exact HR.out
      have hst := hrw.string U.length (by simp)
      have HA97 : Hid ((⟨#[97]⟩ : ByteArray) ++ str (List.replicate U.length 97) = str (nextL k U)) := by
        show (⟨#[97]⟩ : ByteArray) ++ str (List.replicate U.length 97) = str (nextL k U)
        rw [a_str, HN.out, List.replicate_succ]
      have hz1 : ¬ 9223372036854775807 < 1 + (str (List.replicate U.length 97)).size := by rw [str_size, List.length_replicate]; omega
      clear ht hrw
      generalize str (List.replicate U.length 97) = T at *
      go_wp2_with fail
      go_ret
      exact ⟨by rw [← HA97.out]; rfl, hb⟩

set_option maxHeartbeats 1000000 in
theorem rnext_w (k : Nat) (U : List UInt8) (w : World) (h1 : 1 ≤ k) (h8 : k ≤ 8) (hU : isW k U) (hs : U.length ≤ 140737488355327) :
    Calls Try.prog 18 #[.int .i64 k, .string (str U)] w fun e w' =>
      (((nextL k U).length ≤ 4096 ∧ e = .returned (.tuple #[.string (str (nextL k U)), .int .i64 0])) ∨ (4096 < (nextL k U).length ∧ e = .returned (.tuple #[.string ⟨#[]⟩, .int .i64 6]))) ∧ Below w.heap.size w w' := by
  have HC : Hid (chk (k : Int) (str U) = 0) := chk_isW k U h1 h8 hU
  have HML : Hid ((str U).size ≤ maxLen) := by show (str U).size ≤ maxLen; rw [str_size]; unfold maxLen; omega
  have HU : Hid (isW k U) := hU
  have hsz := str_size (nextL k U)
  clear hU
  by_cases h : 4096 < (nextL k U).length
  · have hI : (4096 : Int) < ((nextL k U).length : Int) := by omega
    go_enter Try.func18, Try.ntmps18
    go_wp2_with fail
    refine (rcheck_any _ _ _ HML.out).mono ?_
    rintro e w1 ⟨rfl, b1⟩
    rw [HC.out]
    go_wp2_with fail
    refine (after_w k U _ h1 h8 HU.out hs).mono ?_
    rintro e w2 ⟨rfl, b2⟩
    go_wp2_with fail
    go_ret2
    exact ⟨.inr ⟨h, rfl⟩, go_on b1 b2⟩
  · have hI : ¬ (4096 : Int) < ((nextL k U).length : Int) := by omega
    go_enter Try.func18, Try.ntmps18
    go_wp2_with fail
    refine (rcheck_any _ _ _ HML.out).mono ?_
    rintro e w1 ⟨rfl, b1⟩
    rw [HC.out]
    go_wp2_with fail
    refine (after_w k U _ h1 h8 HU.out hs).mono ?_
    rintro e w2 ⟨rfl, b2⟩
    go_wp2_with fail
    go_ret2
    exact ⟨.inl ⟨by omega, rfl⟩, go_on b1 b2⟩

/-- What the three calls answer where Check refuses. -/
theorem next_err (k : Int) (s : ByteArray) (w : World) (hc : chk k s ≠ 0) :
    Calls Try.prog 15 #[.int .i64 k, .string s] w fun e w' => e = .returned (.tuple #[.string ⟨#[]⟩, .int .i64 (chk k s)]) ∧ Below w.heap.size w w' := by
  have hg : (chk k s != 0) = true := by simpa using hc
  clear hc
  go_enter Try.func15, Try.ntmps15
  go_wp2_with fail
  refine (check_any _ _ _).mono ?_
  rintro e w1 ⟨rfl, b1⟩
  go_wp2_with fail
  go_ret2
  exact ⟨rfl, b1⟩
theorem rnext_err (k : Int) (s : ByteArray) (w : World) (hs : s.size ≤ maxLen) (hc : chk k s ≠ 0) :
    Calls Try.prog 18 #[.int .i64 k, .string s] w fun e w' => e = .returned (.tuple #[.string ⟨#[]⟩, .int .i64 (chk k s)]) ∧ Below w.heap.size w w' := by
  have hg : (chk k s != 0) = true := by simpa using hc
  have HS : Hid _ := hs
  clear hc hs
  go_enter Try.func18, Try.ntmps18
  go_wp2_with fail
  refine (rcheck_any _ _ _ HS.out).mono ?_
  rintro e w1 ⟨rfl, b1⟩
  go_wp2_with fail
  go_ret2
  exact ⟨rfl, b1⟩
theorem rank_err (k : Int) (s : ByteArray) (w : World) (hc : chk k s ≠ 0) :
    Calls Try.prog 17 #[.int .i64 k, .string s] w fun e w' => e = .returned (.tuple #[.int .u64 0, .int .i64 (chk k s)]) ∧ Below w.heap.size w w' := by
  have hg : (chk k s != 0) = true := by simpa using hc
  clear hc
  go_enter Try.func17, Try.ntmps17
  go_wp2_with fail
  refine (check_any _ _ _).mono ?_
  rintro e w1 ⟨rfl, b1⟩
  go_wp2_with fail
  go_ret2
  exact ⟨rfl, b1⟩
theorem rrank_err (k : Int) (s : ByteArray) (w : World) (hs : s.size ≤ maxLen) (hc : chk k s ≠ 0) :
    Calls Try.prog 20 #[.int .i64 k, .string s] w fun e w' => e = .returned (.tuple #[.int .u64 0, .int .i64 (chk k s)]) ∧ Below w.heap.size w w' := by
  have hg : (chk k s != 0) = true := by simpa using hc
  have HS : Hid _ := hs
  clear hc hs
  go_enter Try.func20, Try.ntmps20
  go_wp2_with fail
  refine (rcheck_any _ _ _ HS.out).mono ?_
  rintro e w1 ⟨rfl, b1⟩
  go_wp2_with fail
  go_ret2
  exact ⟨rfl, b1⟩
theorem nth_err (k n : Int) (w : World) (hk : k < 1 ∨ 8 < k) :
    Calls Try.prog 16 #[.int .i64 k, .int .u64 n] w fun e w' => e = .returned (.tuple #[.string ⟨#[]⟩, .int .i64 20]) ∧ Below w.heap.size w w' := by
  have HC : Hid (chk k ⟨#[]⟩ = 20) := chk_bad k _ hk
  clear hk
  go_enter Try.func16, Try.ntmps16
  go_wp2_with fail
  refine (check_any _ _ _).mono ?_
  rintro e w1 ⟨rfl, b1⟩
  rw [HC.out]
  go_wp2_with fail
  go_ret2
  exact ⟨rfl, b1⟩
theorem rnth_err (k n : Int) (w : World) (hk : k < 1 ∨ 8 < k) :
    Calls Try.prog 19 #[.int .i64 k, .int .u64 n] w fun e w' => e = .returned (.tuple #[.string ⟨#[]⟩, .int .i64 20]) ∧ Below w.heap.size w w' := by
  have HC : Hid (lett k = 20) := lett_no k hk
  clear hk
  go_enter Try.func19, Try.ntmps19
  go_wp2_with fail
  refine (letters_any _ _).mono ?_
  rintro e w1 ⟨rfl, rfl⟩
  rw [HC.out]
  go_wp2_with fail
  go_ret2
  exact ⟨rfl, Below.refl _ _⟩

end Go.Proofs.Ytocdifclkopbcaa
