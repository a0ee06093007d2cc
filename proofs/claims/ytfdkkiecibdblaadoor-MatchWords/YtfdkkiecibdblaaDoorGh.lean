/- How many words there are: tooMany and the document's many; Letters. bytes.Repeat of one letter. Words and their numbers: chapter 6's lists. The next word: match.advance. slices.Concat of lists of words; SameWords. -/
import Derived.Test.YtfdkkiecibdblaaDoorTl
import Derived.Test.YtfdkkiecibdblaaDoorBl
import Derived.Lib.MakeNoZero
import Derived.Laws.CopyOwn
import Derived.Test.YtfdkkiecibdblaaDoorNa
import Derived.Deep.AppendLies
import Derived.Laws.AppendOwnNone
namespace Go.Proofs.YtfdkkiecibdblaaDoor
open Go Go.RowKit
set_option linter.unusedVariables false

/-- How many words of fewer than i letters. -/
def sumP (k : Nat) : Nat → Nat
  | 0 => 0
  | i + 1 => sumP k i + k ^ i
theorem sumP_le {k : Nat} {i j : Nat} (h : i ≤ j) : sumP k i ≤ sumP k j := by
  induction j with
  | zero => have : i = 0 := by omega
            rw [this]; exact Nat.le_refl _
  | succ j ih =>
    by_cases e : i = j + 1
    · rw [e]; exact Nat.le_refl _
    · have := ih (by omega)
      simp only [sumP]
      omega
theorem pow_sum {k : Nat} (hk : 1 ≤ k) (hk8 : k ≤ 8) (i : Nat) : k ^ i ≤ 1 + 7 * sumP k i := by
  induction i with
  | zero => simp [sumP]
  | succ i ih =>
    simp only [sumP, Nat.pow_succ]
    have : k ^ i * k ≤ k ^ i * 8 := Nat.mul_le_mul_left _ hk8
    omega

set_option maxHeartbeats 2000000 in
set_option maxRecDepth 100000 in
theorem mtooMany_any (k n : Nat) (hk : 1 ≤ k) (hk8 : k ≤ 8) (hn : n ≤ 511) (w : World) : Calls Tryd.prog 34 #[.int .i64 (k : Int), .int .i64 (n : Int)] w fun e w' => e = .returned (.bool (decide (1000 < sumP k (n + 1)))) ∧ w = w' := by
  obtain ⟨T, HT⟩ : ∃ T, Hid (n + 1 = T) := ⟨_, rfl⟩
  have hT5 : T ≤ 512 := by have := HT.out; omega
  rw [HT.out]
  have hwT : IntKind.i64.wrap ((n : Int) + 1) = (T : Int) := by rw [IntKind.wrap_i64]; have := HT.out; omega
  go_enter Tryd.func34, Tryd.ntmps34
  go_wp2_with fail
  go_loop [9, 5, 6] (fun vi vs vc => ∃ (j a b : Nat), j ≤ T ∧ vi = .int .i64 (j : Int) ∧ vs = .int .i64 (a : Int) ∧ vc = .int .i64 (b : Int) ∧ sumP k j = a ∧ k ^ j = b ∧ a ≤ 1000) (fun vi _ _ => T - (intOf vi).toNat)
  case atStart => exact ⟨0, 0, 1, Nat.zero_le _, rfl, rfl, rfl, rfl, rfl, by omega⟩
  case round =>
    obtain ⟨j, a, b, hj, rfl, rfl, rfl, ha, hb, hal⟩ := hrel
    have hbl : b ≤ 7001 := by have := pow_sum hk hk8 j; rw [ha, hb] at this; omega
    have HAB : Hid (sumP k j = a ∧ k ^ j = b) := ⟨ha, hb⟩
    clear ha hb
    have HTn := HT.out
    by_cases hlt : j < T
    · have hjI : (j : Int) < T := by omega
      have HLT : Hid (j < T) := hlt
      obtain ⟨c, hc⟩ : ∃ c, a + b = c := ⟨_, rfl⟩
      obtain ⟨d, hd⟩ : ∃ d, b * k = d := ⟨_, rfl⟩
      have hd8 : d ≤ 56008 := by
        rw [← hd]
        have := Nat.mul_le_mul hbl hk8
        omega
      have hw1 : IntKind.i64.wrap ((a : Int) + b) = (c : Int) := by rw [IntKind.wrap_i64]; omega
      have hw2 : IntKind.i64.wrap ((b : Int) * k) = (d : Int) := by
        have e : (b : Int) * k = (d : Int) := by rw [← hd]; simp
        rw [e, IntKind.wrap_i64]; omega
      have HC : Hid (sumP k (j + 1) = c ∧ k ^ (j + 1) = d) := by
        refine ⟨?_, ?_⟩
        · simp only [sumP]; rw [HAB.out.1, HAB.out.2]; exact hc
        · rw [Nat.pow_succ, HAB.out.2]; exact hd
      clear hc hd HTn
      by_cases hbig : 1000 < c
      · have hbI : (1000 : Int) < c := by omega
        have HE : Hid (decide (1000 < sumP k T) = true) := by
          have := sumP_le (k := k) (i := j + 1) (j := T) (by have := HLT.out; omega)
          rw [HC.out.1] at this
          show decide _ = true
          simp; omega
        clear hbig
        go_wp2_with fail
        go_ret
        exact ⟨ret_bool HE.out.symm, rfl⟩
      · have hbI : ¬ (1000 : Int) < c := by omega
        have HBG : Hid (¬ 1000 < c) := hbig
        clear hbig
        go_wp2_with fail
        go_round
        case rel => exact ⟨j + 1, c, d, by have := HLT.out; omega, by go_num, rfl, rfl, HC.out.1, HC.out.2, by have := HBG.out; omega⟩
        case measure => have := HLT.out; simp [intOf]; omega
    · obtain rfl : j = T := by omega
      have hjI : ¬ (j : Int) < j := by omega
      have HE : Hid (decide (1000 < sumP k j) = false) := by
        rw [HAB.out.1]
        show decide _ = false
        simp; omega
      clear HTn
      go_wp2_with fail
      go_ret
      exact ⟨ret_bool HE.out.symm, rfl⟩
set_option maxHeartbeats 2000000 in
set_option maxRecDepth 100000 in
theorem rmany_any (k n : Nat) (hk : 1 ≤ k) (hk8 : k ≤ 8) (hn : n ≤ 511) (w : World) : Calls Tryd.prog 39 #[.int .i64 (k : Int), .int .i64 (n : Int)] w fun e w' => e = .returned (.bool (decide (1000 < sumP k (n + 1)))) ∧ w = w' := by
  obtain ⟨T, HT⟩ : ∃ T, Hid (n + 1 = T) := ⟨_, rfl⟩
  have hT5 : T ≤ 512 := by have := HT.out; omega
  rw [HT.out]
  go_enter Tryd.func39, Tryd.ntmps39
  go_wp2_with fail
  go_loop [7, 5, 6] (fun vi vs vc => ∃ (j a b : Nat), j ≤ T ∧ vi = .int .i64 (j : Int) ∧ vs = .int .i64 (a : Int) ∧ vc = .int .i64 (b : Int) ∧ sumP k j = a ∧ k ^ j = b ∧ a ≤ 1000) (fun vi _ _ => T - (intOf vi).toNat)
  case atStart => exact ⟨0, 0, 1, Nat.zero_le _, rfl, rfl, rfl, rfl, rfl, by omega⟩
  case round =>
    obtain ⟨j, a, b, hj, rfl, rfl, rfl, ha, hb, hal⟩ := hrel
    have hbl : b ≤ 7001 := by have := pow_sum hk hk8 j; rw [ha, hb] at this; omega
    have HAB : Hid (sumP k j = a ∧ k ^ j = b) := ⟨ha, hb⟩
    clear ha hb
    have HTn := HT.out
    by_cases hlt : j < T
    · have hjI : (j : Int) ≤ n := by omega
      have HLT : Hid (j < T) := hlt
      obtain ⟨c, hc⟩ : ∃ c, a + b = c := ⟨_, rfl⟩
      obtain ⟨d, hd⟩ : ∃ d, b * k = d := ⟨_, rfl⟩
      have hd8 : d ≤ 56008 := by
        rw [← hd]
        have := Nat.mul_le_mul hbl hk8
        omega
      have hw1 : IntKind.i64.wrap ((a : Int) + b) = (c : Int) := by rw [IntKind.wrap_i64]; omega
      have hw2 : IntKind.i64.wrap ((b : Int) * k) = (d : Int) := by
        have e : (b : Int) * k = (d : Int) := by rw [← hd]; simp
        rw [e, IntKind.wrap_i64]; omega
      have HC : Hid (sumP k (j + 1) = c ∧ k ^ (j + 1) = d) := by
        refine ⟨?_, ?_⟩
        · simp only [sumP]; rw [HAB.out.1, HAB.out.2]; exact hc
        · rw [Nat.pow_succ, HAB.out.2]; exact hd
      clear hc hd HTn
      by_cases hbig : 1000 < c
      · have hbI : (1000 : Int) < c := by omega
        have HE : Hid (decide (1000 < sumP k T) = true) := by
          have := sumP_le (k := k) (i := j + 1) (j := T) (by have := HLT.out; omega)
          rw [HC.out.1] at this
          show decide _ = true
          simp; omega
        clear hbig
        go_wp2_with fail
        go_ret
        exact ⟨ret_bool HE.out.symm, rfl⟩
      · have hbI : ¬ (1000 : Int) < c := by omega
        have HBG : Hid (¬ 1000 < c) := hbig
        clear hbig
        go_wp2_with fail
        go_round
        case rel => exact ⟨j + 1, c, d, by have := HLT.out; omega, by go_num, rfl, rfl, HC.out.1, HC.out.2, by have := HBG.out; omega⟩
        case measure => have := HLT.out; simp [intOf]; omega
    · obtain rfl : j = T := by omega
      have hjI : ¬ (j : Int) ≤ n := by omega
      have HE : Hid (decide (1000 < sumP k j) = false) := by
        rw [HAB.out.1]
        show decide _ = false
        simp; omega
      clear HTn
      go_wp2_with fail
      go_ret
      exact ⟨ret_bool HE.out.symm, rfl⟩
set_option maxHeartbeats 2000000 in
theorem rLetters_any (k : Int) (w : World) : Calls Tryd.prog 38 #[.int .i64 k] w fun e w' => e = .returned (.int .i64 (if 1 ≤ k ∧ k ≤ 8 then 0 else 20)) ∧ w = w' := by
  by_cases h : 1 ≤ k ∧ k ≤ 8
  · rw [if_pos h]
    obtain ⟨h1, h2⟩ := h
    have h3 : ¬ k < 1 := by omega
    have h4 : ¬ 8 < k := by omega
    go_enter Tryd.func38, Tryd.ntmps38
    go_wp2
    go_ret
    exact ⟨rfl, rfl⟩
  · rw [if_neg h]
    by_cases h1 : k < 1
    · go_enter Tryd.func38, Tryd.ntmps38
      go_wp2
      go_ret
      exact ⟨rfl, rfl⟩
    · have h2 : 8 < k := by omega
      go_enter Tryd.func38, Tryd.ntmps38
      go_wp2
      go_ret
      exact ⟨rfl, rfl⟩
end Go.Proofs.YtfdkkiecibdblaaDoor

namespace Go.Proofs.YtfdkkiecibdblaaDoor
open Go Go.RowKit
set_option linter.unusedVariables false

theorem and_mask (n : Nat) (hn : n ≤ 511) : bits .and .u64 (n : Int) 4294967295 = (n : Int) := by
  have := and_u64 (A := (n : Int)) (B := 4294967295) n 4294967295 rfl rfl (by omega) (by decide)
  rw [this, show (4294967295 : Nat) = 2 ^ 32 - 1 from rfl, Nat.and_two_pow_sub_one_eq_mod, Nat.mod_eq_of_lt (by omega)]

set_option maxHeartbeats 2000000 in
set_option maxRecDepth 100000 in
theorem mul64_one (n : Nat) (hn : n ≤ 511) (w : World) : Calls Tryd.prog 72 #[.int .u64 1, .int .u64 (n : Int)] w fun e w' => e = .returned (.tuple #[.int .u64 0, .int .u64 (n : Int)]) ∧ w = w' := by
  have h1 : bits .and .u64 1 4294967295 = 1 := and_mask 1 (by omega)
  have h0 : bits .and .u64 0 4294967295 = 0 := and_mask 0 (by omega)
  have h2 := and_mask n hn
  have hd : (n : Int) / 4294967296 = 0 := by omega
  have hw : IntKind.u64.wrap (n : Int) = n := wrap_nat n (by omega)
  go_enter Tryd.func72, Tryd.ntmps72
  go_wp2
  go_ret2
  exact ⟨rfl, rfl⟩
set_option maxHeartbeats 2000000 in
theorem mul_one (n : Nat) (hn : n ≤ 511) (w : World) : Calls Tryd.prog 53 #[.int .u64 1, .int .u64 (n : Int)] w fun e w' => e = .returned (.tuple #[.int .u64 0, .int .u64 (n : Int)]) ∧ w = w' := by
  go_enter Tryd.func53, Tryd.ntmps53
  go_wp2_with fail
  refine (mul64_one n hn _).mono ?_
  rintro e w1 ⟨rfl, rfl⟩
  go_wp2_with fail
  go_ret2
  exact ⟨rfl, rfl⟩

theorem Tryd.size_u8c : (Tryd.prog.info? 5).map (·.size) = some 1 := by kernel_rfl
theorem noZero_find : Extern.find Tryd.f54 = some (Extern.BytealgMakeNoZero.makeNoZero #[3] #[69]) := by kernel_rfl
theorem noZero_next : Extern.findNext Tryd.f54 = none := by kernel_rfl
theorem noZero_call (n : Nat) (hn : n ≤ 511) (w : World) : ∃ cs : Array Value, (callFunc 54 #[.int .i64 (n : Int)]).run Tryd.prog w = .ok (.value (.slice (some ⟨w.heap.size, 0, none⟩) n cs.size)) (w.drew.drew.alloc (.cells cs 5)) ∧ n ≤ cs.size := by
  obtain ⟨cs, hrun, hcs, hcm⟩ := Lib.run_makeNoZero (P := Tryd.prog) w #[3] 69 5 Tryd.underlying69 n (by omega)
  refine ⟨cs, ?_, hcs⟩
  rw [run_callFunc_extern Tryd.func54 (by kernel_rfl) (by kernel_rfl) noZero_next noZero_find, hrun]
  rfl
/-- A word's bytes in block G. -/
structure WBy (w : World) (G : Nat) (cs : List Int) : Prop where
  ex : ∃ L : List Value, w.heap[G]? = some (.cells L.toArray 5 (0, 0)) ∧ L.take cs.length = cs.map (fun x => Value.int .u8 x)
/-- The buffer: b letters are laid. -/
structure Rep (w : World) (n C b : Nat) (L : List Value) (wr : World) : Prop where
  blk : wr.heap[w.heap.size]? = some (.cells L.toArray 5 (0, 0))
  len : L.length = C
  take : L.take b = List.replicate b (.int .u8 97)
  below : Below w.heap.size w wr

theorem rep_copy {w wr : World} {n C b : Nat} {L : List Value} (h : Rep w n C b L wr) (dLen dCap : Nat) (a : Addr) (sLen sCap m : Nat) (hm : m = Nat.min sLen dLen) (hbm : b + m ≤ C) (hsrc : ∀ j, j < m → wr.cell? (a.add j) = some (.int .u8 97)) :
    ∃ wr' L', (Builtin.copy_ #[69, 69] 3 #[.slice (some ⟨w.heap.size, b, none⟩) dLen dCap, .slice (some a) sLen sCap]).run Tryd.prog wr = .ok (.int .i64 (m : Int)) wr' ∧ Rep w n C (b + m) L' wr' := by
  have hbL : b ≤ L.length := by have := h.len; omega
  have hr := run_copy_row (P := Tryd.prog) wr 69 69 3 5 w.heap.size b dLen dCap a sLen sCap L.toArray 5 (List.replicate m (.int .u8 97)) Tryd.underlying69 Tryd.size_u8c h.blk (by simp [hm])
    (fun j v hj => by
      rw [List.getElem?_replicate] at hj
      split at hj
      · rename_i hjm
        cases hj
        exact hsrc j hjm
      · cases hj) (by simp; have := h.len; omega) (fun v hv => by rw [List.mem_replicate] at hv; rw [hv.2]; rfl)
  refine ⟨wr.setRow w.heap.size (L.take b ++ List.replicate m (Value.int .u8 97) ++ L.drop (b + m)).toArray, L.take b ++ List.replicate m (Value.int .u8 97) ++ L.drop (b + m), ?_, ?_, ?_, ?_, ?_⟩
  · rw [hr]
    simp [goInt]
  · have := setRow_heap wr w.heap.size _ (L.take b ++ List.replicate m (Value.int .u8 97) ++ L.drop (b + m)).toArray 5 _ h.blk
    simpa using this
  · have := h.len
    simp
    omega
  · rw [List.take_append_of_le_length (by simp; omega), List.take_of_length_le (by simp; omega), h.take, List.replicate_append_replicate]
  · exact below_setRow h.below (Nat.le_refl _) _

set_option maxHeartbeats 2000000 in
set_option maxRecDepth 100000 in
theorem repeat_any (n : Nat) (hn : n ≤ 511) (w : World) (g : Nat) (hc : w.cell? ⟨g, 0, none⟩ = some (.int .u8 97)) : Calls Tryd.prog 35 #[.slice (some ⟨g, 0, none⟩) 1 1, .int .i64 (n : Int)] w fun e w' => ∃ c, e = .returned (.slice (some ⟨w.heap.size, 0, none⟩) n c) ∧ n ≤ c ∧ WBy w' w.heap.size (List.replicate n 97) ∧ Below w.heap.size w w' := by
  have HCELL : Hid (w.cell? ⟨g, 0, none⟩ = some (.int .u8 97)) := hc
  go_enter Tryd.func35, Tryd.ntmps35
  by_cases h0 : n = 0
  · subst h0
    go_wp2_with fail
    go_ret
    exact ⟨0, rfl, Nat.le_refl _, ⟨[], heap_alloc_new w _, rfl⟩, (Below.refl _ _).alloc (Nat.le_refl _) _⟩
  have h0I : ¬ (n : Int) = 0 := by omega
  have h0J : ¬ (n : Int) < 0 := by omega
  have hn8 : ¬ (8192 : Int) < n := by omega
  go_wp2_with fail
  refine (mul_one n hn _).mono ?_
  rintro e w1 ⟨rfl, rfl⟩
  obtain ⟨cs, hcall, hcs⟩ := noZero_call n hn w
  obtain ⟨W, hW⟩ : ∃ W, w.drew.drew.alloc (.cells cs 5) = W := ⟨_, rfl⟩
  have hb0 : Below w.heap.size w W := by rw [← hW]; exact ((Below.refl _ _).drew.drew).alloc (Nat.le_refl _) _
  have hR0 : Rep w n cs.size 0 cs.toList W := ⟨by rw [← hW]; exact heap_alloc_new w.drew.drew _, by simp, rfl, hb0⟩
  obtain ⟨W1, L1, hcp, hR1⟩ := rep_copy hR0 n n ⟨g, 0, none⟩ 1 1 1 (by show 1 = min 1 n; omega) (by omega) (fun j hj => by
    obtain rfl : j = 0 := by omega
    have e : (⟨g, 0, none⟩ : Addr).add 0 = ⟨g, 0, none⟩ := rfl
    rw [e, below_cell hb0 (World.block_lt_of_cell? w _ HCELL.out)]
    exact HCELL.out)
  rw [hW] at hcall
  have hcsn : (n : Int) ≤ cs.size := by omega
  have HR1 : Hid (Rep w n cs.size 1 L1 W1) := hR1
  have HN : Hid (n ≤ cs.size ∧ 1 ≤ n) := ⟨hcs, by omega⟩
  clear hW hR0 hR1 hb0
  go_wp2_with fail
  go_loopw [10] (fun vb wr => ∃ (b : Nat) (L : List Value), 1 ≤ b ∧ b ≤ n ∧ vb = .int .i64 (b : Int) ∧ Rep w n cs.size b L wr) (fun vb _ => n - (intOf vb).toNat)
  case atStart => exact ⟨1, L1, Nat.le_refl _, HN.out.2, rfl, HR1.out⟩
  case round =>
    clear HR1 hcp hcall
    obtain ⟨b, L, hb1, hbn, rfl, hrep⟩ := hrel
    have HR : Hid (Rep w n cs.size b L wr) := hrep
    by_cases hlt : b < n
    · have hbI : (b : Int) < n := by omega
      obtain ⟨m, hm⟩ : ∃ m, min b (n - b) = m := ⟨_, rfl⟩
      have hrepD : Rep w n cs.size b L wr.drew := ⟨hrep.blk, hrep.len, hrep.take, hrep.below.drew⟩
      obtain ⟨W2, L2, hcp2, hR2⟩ := rep_copy hrepD (n - b) (n - b) ⟨w.heap.size, 0, none⟩ b n m (by first | exact hm.symm | (rw [← hm])) (by have := HN.out; omega) (fun j hj => by
        have hjb : j < b := by omega
        have e : (⟨w.heap.size, 0, none⟩ : Addr).add j = ⟨w.heap.size, j, none⟩ := by rw [Addr.add_lit, Nat.zero_add]
        rw [e]
        simp only [World.cell?, hrepD.blk]
        have h1 : (L.take b)[j]? = some (.int .u8 97) := by rw [hrep.take, List.getElem?_replicate, if_pos hjb]
        rw [List.getElem?_take, if_pos hjb] at h1
        simpa using h1)
      have HR2 : Hid (Rep w n cs.size (b + m) L2 W2) := hR2
      have HM : Hid (min b (n - b) = m ∧ b < n ∧ 1 ≤ b) := ⟨hm, hlt, hb1⟩
      have hbc : (b : Int) ≤ n := by omega
      obtain ⟨q, hq⟩ : ∃ q, b + m = q := ⟨_, rfl⟩
      have hwq : IntKind.i64.wrap ((b : Int) + m) = (q : Int) := by rw [IntKind.wrap_i64]; omega
      have HQ : Hid (b + m = q) := hq
      have HME : Hid (n - q < n - b) := by have := HM.out; show n - q < n - b; omega
      have HQL : Hid (1 ≤ q ∧ q ≤ n) := by have := HM.out; show _ ∧ _; omega
      clear hq
      clear hrep hR2 hm hrepD
      go_wp2_with fail
      go_region
      all_goals (
        go_wp2_with fail
        go_roundw
        case rel => exact ⟨q, L2, HQL.out.1, HQL.out.2, rfl, by have := HR2.out; rw [HQ.out] at this; exact this⟩
        case measure => exact HME.out)
    · obtain rfl : b = n := by omega
      have hbI : ¬ (b : Int) < b := by omega
      clear hrep
      go_wp2_with fail
      go_ret
      exact ⟨b, rfl, Nat.le_refl _, ⟨L, HR.out.blk, by rw [List.length_replicate, HR.out.take, List.map_replicate]⟩, HR.out.below⟩
end Go.Proofs.YtfdkkiecibdblaaDoor

namespace Go.Proofs.YtfdkkiecibdblaaDoor
open Go Go.RowKit
set_option linter.unusedVariables false

/-- The word of n letters with the number m. -/
def wd (k n m : Nat) : List Int := (List.range n).map fun i => 97 + (((m / k ^ (n - 1 - i)) % k : Nat) : Int)
theorem wd_len (k n m : Nat) : (wd k n m).length = n := by simp [wd]
theorem wd_get (k n m i : Nat) (h : i < n) : (wd k n m)[i]? = some (97 + (((m / k ^ (n - 1 - i)) % k : Nat) : Int)) := by
  unfold wd
  rw [List.getElem?_map, List.getElem?_range h]
  rfl
theorem wd_ext {L : List Int} {k n m : Nat} (hl : L.length = n) (h : ∀ i, i < n → L[i]? = some (97 + (((m / k ^ (n - 1 - i)) % k : Nat) : Int))) : L = wd k n m := by
  apply List.ext_getElem?
  intro i
  by_cases hi : i < n
  · rw [h i hi, wd_get k n m i hi]
  · rw [List.getElem?_eq_none (by omega), List.getElem?_eq_none (by rw [wd_len]; omega)]
theorem wd_child {k i j l : Nat} (hk : 1 ≤ k) (hl : l < k) : wd k i j ++ [97 + (l : Int)] = wd k (i + 1) (j * k + l) := by
  apply wd_ext (by simp [wd_len])
  intro x hx
  by_cases e : x = i
  · subst e
    rw [List.getElem?_append_right (by rw [wd_len]; omega), wd_len, Nat.sub_self]
    have : x + 1 - 1 - x = 0 := by omega
    rw [this, Nat.pow_zero, Nat.div_one]
    have h2 : (j * k + l) % k = l := by rw [Nat.mul_comm, Nat.mul_add_mod, Nat.mod_eq_of_lt hl]
    rw [h2]
    rfl
  · rw [List.getElem?_append_left (by rw [wd_len]; omega), wd_get k i j x (by omega)]
    have e1 : i + 1 - 1 - x = (i - 1 - x) + 1 := by omega
    have e2 : (j * k + l) / k ^ (i + 1 - 1 - x) = j / k ^ (i - 1 - x) := by
      rw [e1, Nat.pow_succ', ← Nat.div_div_eq_div_mul]
      congr 1
      rw [Nat.mul_comm j k, Nat.mul_add_div (by omega), Nat.div_eq_of_lt hl, Nat.add_zero]
    rw [e2]
theorem wd_take {k n m l : Nat} (hl : l ≤ n) : (wd k n m).take l = wd k l (m / k ^ (n - l)) := by
  apply wd_ext (by rw [List.length_take, wd_len]; omega)
  intro i hi
  rw [List.getElem?_take, if_pos hi, wd_get k n m i (by omega), Nat.div_div_eq_div_mul, ← Nat.pow_add]
  congr 6
  omega
/-- What the next word is. -/
theorem wd_next {k n m p : Nat} (hk : 1 ≤ k) (hp1 : 1 ≤ p) (hp : p ≤ n) (h0 : (m + 1) % k ^ (n - p) = 0) (hd : (m / k ^ (n - p)) % k + 1 < k) :
    (wd k n m).take (p - 1) ++ [97 + (((m / k ^ (n - p)) % k + 1 : Nat) : Int)] ++ List.replicate (n - p) 97 = wd k n (m + 1) := by
  have hK : 0 < k ^ (n - p) := Nat.pow_pos (by omega)
  obtain ⟨q, hq⟩ : ∃ q, m + 1 = q * k ^ (n - p) := ⟨(m + 1) / k ^ (n - p), by have := Nat.div_add_mod (m + 1) (k ^ (n - p)); rw [h0, Nat.add_zero] at this; rw [Nat.mul_comm]; exact this.symm⟩
  have hq1 : 1 ≤ q := by
    cases q with
    | zero => simp at hq
    | succ q => omega
  have e1 : (m + 1) / k ^ (n - p) = q := by rw [hq, Nat.mul_div_cancel _ hK]
  have e2 : m / k ^ (n - p) = q - 1 := by
    have : m = (q - 1) * k ^ (n - p) + (k ^ (n - p) - 1) := by
      have : q * k ^ (n - p) = (q - 1) * k ^ (n - p) + k ^ (n - p) := by rw [← Nat.succ_mul]; congr 1; omega
      omega
    rw [this, Nat.mul_comm, Nat.mul_add_div hK, Nat.div_eq_of_lt (by omega), Nat.add_zero]
  rw [e2] at hd ⊢
  apply wd_ext (by simp [wd_len]; omega)
  intro i hi
  by_cases c1 : i < p - 1
  · rw [List.append_assoc, List.getElem?_append_left (by rw [List.length_take, wd_len]; omega), List.getElem?_take, if_pos c1, wd_get k n m i hi]
    have e3 : k ^ (n - 1 - i) = k ^ (n - p) * k * k ^ (n - 1 - i - (n - p) - 1) := by
      rw [← Nat.pow_succ, ← Nat.pow_add]; congr 1; omega
    have e4 : m / k ^ (n - 1 - i) = (m + 1) / k ^ (n - 1 - i) := by
      rw [e3, ← Nat.div_div_eq_div_mul, ← Nat.div_div_eq_div_mul, ← Nat.div_div_eq_div_mul, ← Nat.div_div_eq_div_mul, e1, e2]
      congr 1
      have h5 : q = (q - 1) + 1 := by omega
      have h6 := Nat.div_add_mod (q - 1) k
      have : q / k = (q - 1) / k := by
        conv => lhs; rw [h5, ← h6, Nat.add_assoc, Nat.mul_add_div (by omega), Nat.div_eq_of_lt hd, Nat.add_zero]
      exact this.symm
    rw [e4]
  · by_cases c2 : i = p - 1
    · rw [List.append_assoc, List.getElem?_append_right (by rw [List.length_take, wd_len]; omega)]
      have e3 : i - ((wd k n m).take (p - 1)).length = 0 := by rw [List.length_take, wd_len]; omega
      have e4 : n - 1 - i = n - p := by omega
      rw [e3, e4, e1]
      have e5 : q % k = (q - 1) % k + 1 := by
        have h5 : q = (q - 1) + 1 := by omega
        have h6 := Nat.div_add_mod (q - 1) k
        conv => lhs; rw [h5, ← h6, Nat.add_assoc, Nat.mul_add_mod, Nat.mod_eq_of_lt hd]
      rw [e5]
      rfl
    · rw [List.getElem?_append_right (by simp [wd_len]; omega), List.getElem?_replicate, if_pos (by simp [wd_len]; omega)]
      have e3 : k ^ (n - p) = k ^ (n - 1 - i) * k * k ^ (n - p - (n - 1 - i) - 1) := by
        rw [← Nat.pow_succ, ← Nat.pow_add]; congr 1; omega
      have e4 : ((m + 1) / k ^ (n - 1 - i)) % k = 0 := by
        rw [hq, e3]
        have : q * (k ^ (n - 1 - i) * k * k ^ (n - p - (n - 1 - i) - 1)) = k ^ (n - 1 - i) * (k * (q * k ^ (n - p - (n - 1 - i) - 1))) := by
          rw [Nat.mul_assoc, Nat.mul_left_comm, Nat.mul_left_comm q k]
        rw [this, Nat.mul_div_cancel_left _ (Nat.pow_pos (by omega)), Nat.mul_mod_right]
      rw [e4]
      rfl
/-- All words of l letters, in order. -/
def allW (k l : Nat) : List (List Int) := (List.range (k ^ l)).map (wd k l)
theorem range_mul {α : Type} (f : Nat → α) (b : Nat) : ∀ a, (List.range (a * b)).map f = (List.range a).flatMap fun i => (List.range b).map fun j => f (i * b + j)
  | 0 => by simp
  | a + 1 => by
    rw [Nat.succ_mul, List.range_add, List.map_append, range_mul f b a, List.range_succ, List.flatMap_append]
    simp
theorem allW_succ {k : Nat} (hk : 1 ≤ k) (l : Nat) : allW k (l + 1) = (allW k l).flatMap fun u => (List.range k).map fun (x : Nat) => u ++ [97 + (x : Int)] := by
  unfold allW
  rw [Nat.pow_succ, range_mul, List.flatMap_map]
  congr 1
  funext i
  apply List.map_congr_left
  intro j hj
  rw [wd_child hk (List.mem_range.1 hj)]
end Go.Proofs.YtfdkkiecibdblaaDoor

namespace Go.Proofs.YtfdkkiecibdblaaDoor
open Go Go.RowKit
set_option linter.unusedVariables false

theorem WBy.lt {w : World} {G : Nat} {cs : List Int} (h : WBy w G cs) : G < w.heap.size := by
  obtain ⟨L, h1, _⟩ := h.ex
  exact (Array.getElem?_eq_some_iff.1 h1).1
theorem WBy.cell {w : World} {G : Nat} {cs : List Int} (h : WBy w G cs) (i : Nat) (hi : i < cs.length) : w.cell? ⟨G, i, none⟩ = some (.int .u8 (cs.getD i 0)) ∧ w.frozen? ⟨G, i, none⟩ = false := by
  obtain ⟨L, h1, h2⟩ := h.ex
  refine ⟨?_, by simp [World.frozen?, h1]⟩
  have h3 : (L.take cs.length)[i]? = some (.int .u8 (cs.getD i 0)) := by
    rw [h2, List.getElem?_map, List.getD_eq_getElem?_getD, List.getElem?_eq_getElem hi]
    rfl
  rw [List.getElem?_take, if_pos hi] at h3
  simp only [World.cell?, h1]
  simpa using h3
theorem WBy.set {w : World} {G : Nat} {cs : List Int} (h : WBy w G cs) (i : Nat) (x : Int) : WBy (w.setCell ⟨G, i, none⟩ (.int .u8 x)) G (cs.set i x) := by
  obtain ⟨L, h1, h2⟩ := h.ex
  refine ⟨L.set i (.int .u8 x), ?_, ?_⟩
  · rw [heap_setCell_eq w G i _ _ _ h1]
    simp
  · rw [List.length_set, List.take_set, h2, List.map_set]
theorem WBy.of_heap {w w' : World} {G : Nat} {cs : List Int} (h : WBy w G cs) (e : w'.heap[G]? = w.heap[G]?) : WBy w' G cs := by
  obtain ⟨L, h1, h2⟩ := h.ex
  exact ⟨L, e.trans h1, h2⟩
/-- One block alone may be another. -/
structure OnlyAt (G : Nat) (w w' : World) : Prop where
  below : Below G w w'
  other : ∀ b, b ≠ G → w'.heap[b]? = w.heap[b]?
  size : w'.heap.size = w.heap.size
theorem OnlyAt.refl (G : Nat) (w : World) : OnlyAt G w w := ⟨Below.refl _ _, fun _ _ => rfl, rfl⟩
theorem OnlyAt.set {G : Nat} {w w' : World} (h : OnlyAt G w w') (i : Nat) (v : Value) : OnlyAt G w (w'.setCell ⟨G, i, none⟩ v) :=
  ⟨h.below.setCell (p := ⟨G, i, none⟩) (Nat.le_refl _) _, fun b hb => (Below.heap_setCell _ _ _ _ hb).trans (h.other b hb), by simp [h.size]⟩
/-- The word on the way. -/
def upTo1 (k n m p : Nat) : List Int := (wd k n m).take p ++ List.replicate (n - p) 97
theorem upTo1_len {k n m p : Nat} (hp : p ≤ n) : (upTo1 k n m p).length = n := by simp [upTo1, wd_len]; omega
theorem upTo1_get {k n m p : Nat} (hp1 : 1 ≤ p) (hp : p ≤ n) : (upTo1 k n m p).getD (p - 1) 0 = 97 + (((m / k ^ (n - p)) % k : Nat) : Int) := by
  rw [List.getD_eq_getElem?_getD, upTo1, List.getElem?_append_left (by rw [List.length_take, wd_len]; omega), List.getElem?_take, if_pos (by omega), wd_get k n m (p - 1) (by omega)]
  have : n - 1 - (p - 1) = n - p := by omega
  rw [this]
  rfl
theorem upTo1_set {k n m p : Nat} (hp1 : 1 ≤ p) (hp : p ≤ n) (x : Int) : (upTo1 k n m p).set (p - 1) x = (wd k n m).take (p - 1) ++ [x] ++ List.replicate (n - p) 97 := by
  have hl : ((wd k n m).take (p - 1)).length = p - 1 := by rw [List.length_take, wd_len]; omega
  have e : (wd k n m).take p = (wd k n m).take (p - 1) ++ [(wd k n m).getD (p - 1) 0] := by
    have e1 : p = (p - 1) + 1 := by omega
    conv => lhs; rw [e1]
    rw [List.take_add_one, List.getD_eq_getElem?_getD, List.getElem?_eq_getElem (by rw [wd_len]; omega)]
    rfl
  rw [upTo1, e, List.append_assoc, List.set_append_right _ _ (by omega), hl, Nat.sub_self, List.append_assoc]
  rfl

set_option maxHeartbeats 2000000 in
set_option maxRecDepth 100000 in
theorem advance_any (k : Nat) (hk : 1 ≤ k) (hk8 : k ≤ 8) {w : World} {G c n m : Nat} (h : WBy w G (wd k n m)) (hn : n ≤ 511) (hm : m < k ^ n) : Calls Tryd.prog 36 #[.int .i64 (k : Int), .slice (some ⟨G, 0, none⟩) n c] w fun e w' => ∃ f : Nat, e = .returned (.int .i64 (f : Int)) ∧ ((m + 1 < k ^ n ∧ WBy w' G (wd k n (m + 1)) ∧ 1 ≤ f ∧ f ≤ n ∧ (m + 1) % k ^ (n - f) = 0 ∧ (m / k ^ (n - f)) % k + 1 < k) ∨ (m + 1 = k ^ n ∧ f = n + 1)) ∧ OnlyAt G w w' := by
  have H0 : Hid (WBy w G (upTo1 k n m n)) := by
    have e : upTo1 k n m n = wd k n m := by unfold upTo1; rw [List.take_of_length_le (by rw [wd_len]; exact Nat.le_refl _), Nat.sub_self]; simp
    show WBy w G _
    rw [e]; exact h
  have HM : Hid (m < k ^ n) := hm
  clear h hm
  go_enter Tryd.func36, Tryd.ntmps36
  go_wp2_with fail
  go_loopw [5] (fun vi wr => ∃ (p : Nat), p ≤ n ∧ vi = .int .i64 ((p : Int) - 1) ∧ WBy wr G (upTo1 k n m p) ∧ (m + 1) % k ^ (n - p) = 0 ∧ OnlyAt G w wr) (fun vi _ => (intOf vi + 1).toNat)
  case atStart => exact ⟨n, Nat.le_refl _, rfl, H0.out, by rw [Nat.sub_self, Nat.pow_zero, Nat.mod_one], OnlyAt.refl _ _⟩
  case round =>
    clear H0
    obtain ⟨p, hp, hvi, hwb, hmod, ho⟩ := hrel
    have HWB : Hid (WBy wr G (upTo1 k n m p)) := hwb
    have HMOD : Hid ((m + 1) % k ^ (n - p) = 0) := hmod
    have HO : Hid (OnlyAt G w wr) := ho
    clear hwb hmod ho
    cases p with
    | zero =>
      have e0 : ((0 : Nat) : Int) - 1 = -1 := by omega
      rw [e0] at hvi
      subst hvi
      have HE : Hid (m + 1 = k ^ n) := by
        have h1 := HMOD.out
        rw [Nat.sub_zero] at h1
        have h2 := HM.out
        show m + 1 = k ^ n
        by_cases e : m + 1 < k ^ n
        · rw [Nat.mod_eq_of_lt e] at h1; omega
        · omega
      obtain ⟨f, hf⟩ : ∃ f, n + 1 = f := ⟨_, rfl⟩
      have hwf : IntKind.i64.wrap ((n : Int) + 1) = (f : Int) := by rw [IntKind.wrap_i64]; omega
      have HF : Hid (n + 1 = f) := hf
      clear hf
      go_wp2_with fail
      go_ret
      exact ⟨f, rfl, .inr ⟨HE.out, HF.out.symm⟩, HO.out⟩
    | succ i =>
      have e0 : ((i + 1 : Nat) : Int) - 1 = (i : Int) := by omega
      rw [e0] at hvi
      subst hvi
      have hin : i < n := by omega
      have hiI : (i : Int) < n := by omega
      obtain ⟨hc, hz⟩ := HWB.out.cell i (by rw [upTo1_len hp]; exact hin)
      have hget := upTo1_get (k := k) (n := n) (m := m) (p := i + 1) (by omega) hp
      have hi1 : i + 1 - 1 = i := by omega
      rw [hi1] at hget
      rw [hget] at hc
      have hgl := HWB.out.lt
      obtain ⟨d, hd⟩ : ∃ d, (m / k ^ (n - (i + 1))) % k = d := ⟨_, rfl⟩
      have hdk : d < k := by rw [← hd]; exact Nat.mod_lt _ (by omega)
      rw [hd] at hc
      have HD : Hid ((m / k ^ (n - (i + 1))) % k = d) := hd
      obtain ⟨x, hx⟩ : ∃ x : Int, 97 + (d : Int) = x := ⟨_, rfl⟩
      rw [hx] at hc
      have hxw : wrap64 x = x := by unfold wrap64; omega
      have hxw2 : IntKind.i64.wrap x = x := by rw [IntKind.wrap_i64]; omega
      obtain ⟨K, hK⟩ : ∃ K : Int, 97 + (k : Int) = K := ⟨_, rfl⟩
      obtain ⟨K1, hK1⟩ : ∃ K1 : Int, K - 1 = K1 := ⟨_, rfl⟩
      have hwK : IntKind.i64.wrap (97 + (k : Int)) = K := by rw [IntKind.wrap_i64]; omega
      have hwK1 : IntKind.i64.wrap (K - 1) = K1 := by rw [IntKind.wrap_i64]; omega
      have HLT : Hid (i < n) := hin
      have HN : Hid (n ≤ 511) := hn
      clear hget hd e0
      by_cases hlt : x < K1
      · obtain ⟨f, hf⟩ : ∃ f, i + 1 = f := ⟨_, rfl⟩
        have hwf : IntKind.i64.wrap ((i : Int) + 1) = (f : Int) := by rw [IntKind.wrap_i64]; omega
        obtain ⟨y, hy⟩ : ∃ y : Int, x + 1 = y := ⟨_, rfl⟩
        have hwy : IntKind.u8.wrap (x + 1) = y := by rw [IntKind.wrap_u8]; omega
        have HF : Hid (WBy (wr.setCell ⟨G, i, none⟩ (.int .u8 y)) G (wd k n (m + 1)) ∧ OnlyAt G w (wr.setCell ⟨G, i, none⟩ (.int .u8 y)) ∧ (1 ≤ f ∧ f ≤ n ∧ (m + 1) % k ^ (n - f) = 0 ∧ (m / k ^ (n - f)) % k + 1 < k) ∧ m + 1 < k ^ n) := by
          have hdl : d + 1 < k := by omega
          have hs := HWB.out.set i y
          have e := upTo1_set (k := k) (n := n) (m := m) (p := i + 1) (by omega) hp y
          rw [hi1] at e
          have hy2 : y = 97 + (((m / k ^ (n - (i + 1))) % k + 1 : Nat) : Int) := by rw [HD.out]; omega
          have hnx := wd_next (k := k) (n := n) (m := m) (p := i + 1) hk (by omega) hp HMOD.out (by rw [HD.out]; exact hdl)
          rw [hi1, ← hy2] at hnx
          rw [e, hnx] at hs
          refine ⟨hs, HO.out.set i _, ⟨by omega, by omega, by rw [← hf]; exact HMOD.out, by rw [← hf, HD.out]; exact hdl⟩, ?_⟩
          have h2 := HM.out
          by_cases e3 : m + 1 = k ^ n
          · exfalso
            have e4 : k ^ n = k ^ (n - (i + 1)) * k * k ^ i := by rw [← Nat.pow_succ, ← Nat.pow_add]; congr 1; omega
            have e5 : (m + 1) / k ^ (n - (i + 1)) = k * k ^ i := by rw [e3, e4, Nat.mul_assoc, Nat.mul_div_cancel_left _ (Nat.pow_pos (by omega))]
            obtain ⟨q, hq⟩ : ∃ q, m + 1 = q * k ^ (n - (i + 1)) := ⟨(m + 1) / k ^ (n - (i + 1)), by have := Nat.div_add_mod (m + 1) (k ^ (n - (i + 1))); rw [HMOD.out, Nat.add_zero] at this; rw [Nat.mul_comm]; exact this.symm⟩
            have hKp : 0 < k ^ (n - (i + 1)) := Nat.pow_pos (by omega)
            have eq1 : q = k * k ^ i := by rw [← e5, hq, Nat.mul_div_cancel _ hKp]
            have hq1 : 1 ≤ q := by
              cases q with
              | zero => simp at hq
              | succ q => omega
            have e6 : m / k ^ (n - (i + 1)) = q - 1 := by
              have : m = (q - 1) * k ^ (n - (i + 1)) + (k ^ (n - (i + 1)) - 1) := by
                have : q * k ^ (n - (i + 1)) = (q - 1) * k ^ (n - (i + 1)) + k ^ (n - (i + 1)) := by rw [← Nat.succ_mul]; congr 1; omega
                omega
              rw [this, Nat.mul_comm, Nat.mul_add_div hKp, Nat.div_eq_of_lt (by omega), Nat.add_zero]
            have h7 := HD.out
            rw [e6] at h7
            have h8 : (q - 1) % k = k - 1 := by
              have hki : 0 < k ^ i := Nat.pow_pos (by omega)
              have : q - 1 = k * (k ^ i - 1) + (k - 1) := by
                rw [eq1, Nat.mul_sub, Nat.mul_one]
                have : k ≤ k * k ^ i := Nat.le_mul_of_pos_right k hki
                omega
              rw [this, Nat.mul_add_mod, Nat.mod_eq_of_lt (by omega)]
            omega
          · omega
        clear hx hK hK1 hf hy HWB HMOD HD hdk
        go_wp2_with fail
        go_ret
        exact ⟨f, rfl, .inl ⟨HF.out.2.2.2, HF.out.1, HF.out.2.2.1⟩, HF.out.2.1⟩
      · have HF : Hid (WBy (wr.setCell ⟨G, i, none⟩ (.int .u8 97)) G (upTo1 k n m i) ∧ OnlyAt G w (wr.setCell ⟨G, i, none⟩ (.int .u8 97)) ∧ (m + 1) % k ^ (n - i) = 0) := by
          have hdl : d + 1 = k := by omega
          have hs := HWB.out.set i 97
          have e := upTo1_set (k := k) (n := n) (m := m) (p := i + 1) (by omega) hp 97
          rw [hi1] at e
          have e2 : (wd k n m).take i ++ [97] ++ List.replicate (n - (i + 1)) 97 = upTo1 k n m i := by
            unfold upTo1
            rw [List.append_assoc]
            congr 1
            have : n - i = (n - (i + 1)) + 1 := by omega
            rw [this, List.replicate_succ]
            rfl
          rw [e, e2] at hs
          refine ⟨hs, HO.out.set i _, ?_⟩
          have hni : n - i = (n - (i + 1)) + 1 := by omega
          obtain ⟨q, hq⟩ : ∃ q, m + 1 = q * k ^ (n - (i + 1)) := ⟨(m + 1) / k ^ (n - (i + 1)), by have := Nat.div_add_mod (m + 1) (k ^ (n - (i + 1))); rw [HMOD.out, Nat.add_zero] at this; rw [Nat.mul_comm]; exact this.symm⟩
          have hKp : 0 < k ^ (n - (i + 1)) := Nat.pow_pos (by omega)
          have hq1 : 1 ≤ q := by
            cases q with
            | zero => simp at hq
            | succ q => omega
          have e6 : m / k ^ (n - (i + 1)) = q - 1 := by
            have : m = (q - 1) * k ^ (n - (i + 1)) + (k ^ (n - (i + 1)) - 1) := by
              have : q * k ^ (n - (i + 1)) = (q - 1) * k ^ (n - (i + 1)) + k ^ (n - (i + 1)) := by rw [← Nat.succ_mul]; congr 1; omega
              omega
            rw [this, Nat.mul_comm, Nat.mul_add_div hKp, Nat.div_eq_of_lt (by omega), Nat.add_zero]
          have h7 := HD.out
          rw [e6] at h7
          have h6 := Nat.div_add_mod (q - 1) k
          rw [h7] at h6
          have h8 : q = k * ((q - 1) / k + 1) := by rw [Nat.mul_add, Nat.mul_one]; omega
          have h9 : m + 1 = (k ^ (n - (i + 1)) * k) * ((q - 1) / k + 1) := by
            rw [hq]
            conv => lhs; rw [h8]
            generalize (q - 1) / k + 1 = X
            generalize k ^ (n - (i + 1)) = Y
            ac_rfl
          rw [hni, Nat.pow_succ, h9, Nat.mul_mod_right]
        clear hx hK hK1 HWB HMOD HD hdk
        go_wp2_with fail
        go_roundw
        case rel => exact ⟨i, by have := HLT.out; omega, rfl, HF.out.1, HF.out.2.2, HF.out.2.1⟩
        case measure => simp [intOf]
end Go.Proofs.YtfdkkiecibdblaaDoor

namespace Go.Proofs.YtfdkkiecibdblaaDoor
open Go Go.RowKit
set_option linter.unusedVariables false

/-- A list of words, as it is read. -/
def SReads (w : World) (v : Value) (bs : List ByteArray) : Prop :=
  ∃ a cap, v = .slice a bs.length cap ∧ ∀ i, i < bs.length → ∃ g o, a = some ⟨g, o, none⟩ ∧ g < w.heap.size ∧ w.cell? ⟨g, o + i, none⟩ = some (.string (bs.getD i ⟨#[]⟩))
theorem SReads.stay {w w' : World} {v : Value} {bs : List ByteArray} (h : SReads w v bs) (hb : Below w.heap.size w w') : SReads w' v bs := by
  obtain ⟨a, c, e, hr⟩ := h
  refine ⟨a, c, e, fun i hi => ?_⟩
  obtain ⟨g, o, h1, h2, h3⟩ := hr i hi
  exact ⟨g, o, h1, Nat.lt_of_lt_of_le h2 hb.size, by rw [below_cell hb h2]; exact h3⟩

set_option maxHeartbeats 2000000 in
set_option maxRecDepth 100000 in
theorem sameWords_any (u v : Value) (bs : List ByteArray) (w : World) (hu : SReads w u bs) (hv : SReads w v bs) (hl : bs.length ≤ 9223372036854775806) : Calls Tryd.prog 20 #[u, v] w fun e w' => e = .returned (.bool true) ∧ Below w.heap.size w w' := by
  obtain ⟨a, ca, rfl, ha⟩ := hu
  obtain ⟨b, cb, rfl, hb⟩ := hv
  have HA : Hid (∀ i, i < bs.length → ∃ g o, a = some ⟨g, o, none⟩ ∧ g < w.heap.size ∧ w.cell? ⟨g, o + i, none⟩ = some (.string (bs.getD i ⟨#[]⟩))) := ha
  have HB : Hid (∀ i, i < bs.length → ∃ g o, b = some ⟨g, o, none⟩ ∧ g < w.heap.size ∧ w.cell? ⟨g, o + i, none⟩ = some (.string (bs.getD i ⟨#[]⟩))) := hb
  clear ha hb
  go_enter Tryd.func20, Tryd.ntmps20
  go_wp2_with fail
  go_loopw [5] (fun vi wr => ∃ i : Nat, i ≤ bs.length ∧ vi = .int .i64 (i : Int) ∧ Below w.heap.size w wr) (fun vi _ => bs.length - (intOf vi).toNat)
  case atStart => exact ⟨0, Nat.zero_le _, rfl, Below.refl _ _⟩
  case round =>
    obtain ⟨i, hi, rfl, hb⟩ := hrel
    have HBL : Hid (Below w.heap.size w wr) := hb
    by_cases hlt : i < bs.length
    · have hiI : (i : Int) < bs.length := by omega
      obtain ⟨g, o, rfl, hg, hc⟩ := HA.out i hlt
      obtain ⟨g', o', rfl, hg', hc'⟩ := HB.out i hlt
      rw [← below_cell hb hg] at hc
      rw [← below_cell hb hg'] at hc'
      have hgl : g < wr.heap.size := Nat.lt_of_lt_of_le hg hb.size
      have hgl' : g' < wr.heap.size := Nat.lt_of_lt_of_le hg' hb.size
      obtain ⟨x, hx⟩ : ∃ x, bs.getD i ⟨#[]⟩ = x := ⟨_, rfl⟩
      rw [hx] at hc hc'
      clear hb hx
      go_wp2_with fail
      first
        | (go_roundw
           case rel => exact ⟨i + 1, by omega, by go_num, HBL.out⟩
           case measure => simp [intOf]; omega)
        | (go_region
           all_goals (
             go_wp2_with fail
             go_roundw
             case rel => exact ⟨i + 1, by omega, by go_num, HBL.out.drew⟩
             case measure => simp [intOf]; omega))
    · have hiI : ¬ (i : Int) < bs.length := by omega
      go_wp2_with fail
      go_ret
      exact ⟨rfl, HBL.out⟩
set_option maxHeartbeats 2000000 in
set_option maxRecDepth 100000 in
theorem grow_any (n : Nat) (hn : n ≤ 8000) (w : World) : Calls Tryd.prog 55 #[.slice none 0 0, .int .i64 (n : Int)] w fun e w' => ∃ v, e = .returned v ∧ w'.ownsRow w.heap.size 9 1 v 0 [] ∧ Below w.heap.size w w' := by
  by_cases h0 : n = 0
  · subst h0
    go_enter Tryd.func55, Tryd.ntmps55
    go_wp2_with fail
    go_ret
    exact ⟨_, rfl, ⟨rfl, .inl ⟨rfl, rfl⟩⟩, Below.refl _ _⟩
  have h0I : ¬ (n : Int) = 0 := by omega
  have h1I : ¬ (n : Int) < 0 := by omega
  have h2I : (0 : Int) < n := by omega
  have h3I : ¬ (9223372036854775807 : Int) < n := by omega
  have h4 : 0 < n := by omega
  have hby : Tryd.t9.bytes = 16 := by rfl
  have hb1 : ¬ (281474976710656 : Int) < (n : Int) * (Tryd.t9.bytes : Int) := by rw [hby]; omega
  have hb2 : ¬ 281474976710656 < Builtin.nextslicecap n 0 * Tryd.t9.bytes := by
    rw [hby]
    unfold Builtin.nextslicecap
    rw [if_pos (by omega)]
    omega
  obtain ⟨C, hC⟩ : ∃ C, (Question.appendCap n 0 9).cut (w.tape w.drawn (Question.appendCap n 0 9)) = C := ⟨_, rfl⟩
  have HC : Hid (n ≤ C ∧ C ≤ maxLen) := by
    have h1 := grownCap_ge w n 0 9
    have h2 := grownCap_le_maxLen w n 0 9 (by unfold maxLen; omega)
    unfold grownCap at h1 h2
    rw [hC] at h1 h2
    exact ⟨h1, h2⟩
  clear hby
  go_enter Tryd.func55, Tryd.ntmps55
  go_wp2_with fail
  go_ret
  refine ⟨_, rfl, ⟨rfl, .inr ⟨w.heap.size, C, _, rfl, Nat.le_refl _, heap_alloc_new w _, Nat.zero_le _, HC.out.2, ?_, rfl⟩⟩, ((Below.refl _ _).alloc (Nat.le_refl _) _).drew⟩
  have := HC.out.1
  simp [Builtin.zeroCells]
  omega

theorem Tryd.info_str9 : (Tryd.prog.info? 9).map (fun i => (i.zero, i.size, i.bytes)) = some (some (.string ⟨#[]⟩), 1, 16) := by kernel_rfl
theorem flat_take {bss : List (List ByteArray)} {i : Nat} (h : i < bss.length) : (bss.take (i + 1)).flatten = (bss.take i).flatten ++ bss.getD i [] := by
  rw [List.take_add_one, List.flatten_append, List.getD_eq_getElem?_getD, List.getElem?_eq_getElem h]
  simp
theorem flat_le {bss : List (List ByteArray)} (i : Nat) : (bss.take i).flatten.length ≤ bss.flatten.length := by
  conv => rhs; rw [← List.take_append_drop i bss, List.flatten_append]
  simp
theorem own_sreadsB {w : World} {base : Nat} {v : Value} {bs : List ByteArray} (h : w.ownsRow base 9 1 v bs.length (bs.map Value.string)) : SReads w v bs := by
  obtain ⟨a, c, rfl⟩ := own_shape h
  refine ⟨a, c, rfl, fun i hi => ?_⟩
  obtain ⟨_, hh⟩ := id h
  rcases hh with ⟨_, h0⟩ | ⟨g, c', cur, e, _⟩
  · omega
  · cases e
    have hc := h.cells (g := g) rfl i (.string (bs.getD i ⟨#[]⟩)) (by rw [List.getElem?_map, List.getD_eq_getElem?_getD, List.getElem?_eq_getElem hi]; rfl)
    rw [Addr.add_lit] at hc
    exact ⟨g, 0, rfl, (h.lt g rfl).2, hc⟩
/-- A list of lists of words, as it is read. -/
def LReads (w : World) (F : Nat) (bss : List (List ByteArray)) : Prop := F < w.heap.size ∧ ∀ i, i < bss.length → ∃ v, w.cell? ⟨F, i, none⟩ = some v ∧ SReads w v (bss.getD i []) ∧ (bss.getD i [] = [] → v = .slice none 0 0)
theorem LReads.stay {w w' : World} {F : Nat} {bss : List (List ByteArray)} (h : LReads w F bss) (hb : Below w.heap.size w w') : LReads w' F bss :=
  ⟨Nat.lt_of_lt_of_le h.1 hb.size, fun i hi => by
    obtain ⟨v, h1, h2, h3⟩ := h.2 i hi
    exact ⟨v, by rw [below_cell hb h.1]; exact h1, h2.stay hb, h3⟩⟩

set_option maxHeartbeats 4000000 in
set_option maxRecDepth 100000 in
theorem concat_any {w : World} {F c : Nat} {bss : List (List ByteArray)} (h : LReads w F bss) (hl : bss.length ≤ 512) (ht : bss.flatten.length ≤ 8000) : Calls Tryd.prog 37 #[.slice (some ⟨F, 0, none⟩) bss.length c] w fun e w' => ∃ u, e = .returned u ∧ SReads w' u bss.flatten ∧ Below w.heap.size w w' := by
  have HL : Hid (LReads w F bss) := h
  have HT : Hid (bss.flatten.length ≤ 8000) := ht
  obtain ⟨i0, hi0, hz0, hz1, hz2⟩ := info_parts Tryd.info_str9
  clear h ht
  go_enter Tryd.func37, Tryd.ntmps37
  go_wp2_with fail
  go_loopw [11, 3] (fun vi vs wr => ∃ (i m : Nat), i ≤ bss.length ∧ vi = .int .i64 (i : Int) ∧ vs = .int .i64 (m : Int) ∧ (bss.take i).flatten.length = m ∧ Below w.heap.size w wr) (fun vi _ _ => bss.length - (intOf vi).toNat)
  case atStart => exact ⟨0, 0, Nat.zero_le _, rfl, rfl, rfl, Below.refl _ _⟩
  case round =>
    obtain ⟨i, m, hi, rfl, rfl, hm, hb⟩ := hrel
    have HB : Hid (Below w.heap.size w wr) := hb
    have HM : Hid ((bss.take i).flatten.length = m) := hm
    clear hb hm
    by_cases hlt : i < bss.length
    · have hiI : (i : Int) < bss.length := by omega
      obtain ⟨v, hv, hsr, _⟩ := HL.out.2 i hlt
      rw [← below_cell HB.out HL.out.1] at hv
      have hfl := Nat.lt_of_lt_of_le HL.out.1 HB.out.size
      obtain ⟨a, ca, hva, _⟩ := hsr
      subst hva
      obtain ⟨x, hx⟩ : ∃ x, (bss.getD i []).length = x := ⟨_, rfl⟩
      rw [hx] at hv
      obtain ⟨y, hy⟩ : ∃ y, m + x = y := ⟨_, rfl⟩
      have HY : Hid ((bss.take (i + 1)).flatten.length = y) := by
        show _ = y
        rw [flat_take hlt, List.length_append, HM.out, hx, hy]
      have hy8 : y ≤ 8000 := by
        have h1 := flat_le (bss := bss) (i + 1)
        rw [HY.out] at h1
        have := HT.out
        omega
      have hwy : IntKind.i64.wrap ((m : Int) + x) = (y : Int) := by rw [IntKind.wrap_i64]; omega
      have hyn : ¬ (y : Int) < 0 := by omega
      clear hx hy
      go_wp2_with fail
      go_roundw
      case rel => exact ⟨i + 1, y, by omega, by go_num, rfl, HY.out, HB.out⟩
      case measure => simp [intOf]; omega
    · obtain rfl : i = bss.length := by omega
      have hiI : ¬ (bss.length : Int) < bss.length := by omega
      have hm8 : m ≤ 8000 := by
        have h1 := HM.out
        rw [List.take_length] at h1
        have := HT.out
        omega
      go_wp2_with fail
      refine (grow_any m hm8 _).mono ?_
      rintro e w2 ⟨nv, rfl, ho, hb2⟩
      have HB2 : Hid (Below w.heap.size w w2) := go_on HB.out hb2
      have HO2 : Hid (w2.ownsRow w.heap.size 9 1 nv 0 []) := own_mono ho HB.out.size
      clear ho hb2 HB HM
      go_wp2_with fail
      go_loopw [27, 6] (fun vi vn wr => ∃ (i : Nat), i ≤ bss.length ∧ vi = .int .i64 (i : Int) ∧ wr.ownsRow w.heap.size 9 1 vn (bss.take i).flatten.length ((bss.take i).flatten.map Value.string) ∧ Below w.heap.size w wr) (fun vi _ _ => bss.length - (intOf vi).toNat)
      case atStart => exact ⟨0, Nat.zero_le _, rfl, HO2.out, HB2.out⟩
      case round =>
        clear HO2 HB2
        obtain ⟨i, hi, rfl, ho, hb⟩ := hrel
        obtain ⟨na, nc, rfl⟩ := own_shape ho
        have HO : Hid (wr.ownsRow w.heap.size 9 1 (.slice na (bss.take i).flatten.length nc) (bss.take i).flatten.length ((bss.take i).flatten.map Value.string)) := ho
        have HB : Hid (Below w.heap.size w wr) := hb
        clear hb ho
        by_cases hlt : i < bss.length
        · have hiI : (i : Int) < bss.length := by omega
          obtain ⟨v, hv, hsr, hnil⟩ := HL.out.2 i hlt
          have hsr2 := hsr.stay HB.out
          rw [← below_cell HB.out HL.out.1] at hv
          have hfl := Nat.lt_of_lt_of_le HL.out.1 HB.out.size
          have HFT : Hid ((bss.take (i + 1)).flatten = (bss.take i).flatten ++ bss.getD i []) := flat_take hlt
          have hy8 : (bss.take (i + 1)).flatten.length ≤ 8000 := by
            have h1 := flat_le (bss := bss) (i + 1)
            have := HT.out
            omega
          obtain ⟨M, hM⟩ : ∃ M, (bss.take i).flatten.length = M := ⟨_, rfl⟩
          rw [hM] at HO ⊢
          by_cases hz : bss.getD i [] = []
          · obtain rfl := hnil hz
            have HR : Hid (wr.ownsRow w.heap.size 9 1 (.slice na M nc) (bss.take (i + 1)).flatten.length ((bss.take (i + 1)).flatten.map Value.string)) := by
              show World.ownsRow _ _ _ _ _ _ _
              rw [HFT.out, hz, List.append_nil, hM]
              exact HO.out
            clear hsr hsr2 hM hz hnil
            go_wp2_with (at_builtin; refine wpList_append_own_none rfl _ _ 42 rfl w.heap.size 9 i0 1 Tryd.underlying42 hi0 _ _ _ rfl HO.out rfl ?_)
            go_wp2_with fail
            go_roundw
            case rel => exact ⟨i + 1, by omega, by go_num, HR.out, HB.out⟩
            case measure => simp [intOf]; omega
          · obtain ⟨a, ca, hva, hcells⟩ := hsr2
            subst hva
            obtain ⟨x, hx⟩ : ∃ x, (bss.getD i []).length = x := ⟨_, rfl⟩
            have hx1 : 0 < x := by
              rw [← hx]
              cases hh : bss.getD i [] with
              | nil => exact absurd hh hz
              | cons _ _ => simp
            obtain ⟨g, o, hag, _⟩ := hcells 0 (by omega)
            subst hag
            have HCE : Hid (∀ j u, ((bss.getD i []).map Value.string)[j]? = some u → wr.cell? ((⟨g, o, none⟩ : Addr).add j) = some u) := by
              intro j u hj
              have hjl : j < (bss.getD i []).length := by
                have := (List.getElem?_eq_some_iff.1 hj).1
                simpa using this
              obtain ⟨g', o', e1, _, e2⟩ := hcells j hjl
              cases e1
              rw [Addr.add_lit, e2]
              rw [List.getElem?_map, List.getElem?_eq_getElem hjl] at hj
              rw [List.getD_eq_getElem?_getD, List.getElem?_eq_getElem hjl]
              exact hj
            have HMX : Hid (M + x ≤ 8000 ∧ (bss.take (i + 1)).flatten.length = M + x) := by
              have h1 := HFT.out
              rw [h1, List.length_append, hM, hx] at hy8
              refine ⟨hy8, ?_⟩
              rw [h1, List.length_append, hM, hx]
            have HXL : Hid (((bss.getD i []).map Value.string).length = x * 1) := by show List.length _ = _; rw [List.length_map, hx, Nat.mul_one]
            obtain ⟨NS, hNS⟩ : ∃ NS, (bss.getD i []).map Value.string = NS := ⟨_, rfl⟩
            obtain ⟨XS, hXS⟩ : ∃ XS, (bss.take i).flatten.map Value.string = XS := ⟨_, rfl⟩
            have HS2 : Hid (∀ u ∈ NS, u.oneCell' = true) := by rw [← hNS]; intro u hu; rw [List.mem_map] at hu; obtain ⟨b, _, rfl⟩ := hu; rfl
            have HNX : Hid (((bss.take (i + 1)).flatten).map Value.string = XS ++ NS) := by show List.map _ _ = _; rw [HFT.out, List.map_append, hNS, hXS]
            rw [hNS] at HCE HXL
            rw [hXS] at HO
            rw [hx] at hv
            have hbs := HB.out.size
            clear hsr hcells hM hx hz hnil hy8 hNS hXS
            go_wp2_with (at_builtin; refine wpList_append_lies _ rfl _ _ 42 rfl w.heap.size 9 i0 (.string ⟨#[]⟩) 1 16 Tryd.underlying42 hi0 hz0 hz1 hz2 rfl (by decide) _ _ _ rfl HO.out ⟨g, o, none⟩ x ca NS rfl HXL.out HCE.out HS2.out hx1 ?s3 ?s4 hbs _ rfl ?_)
            case s3 => unfold maxLen; have := HMX.out; omega
            case s4 => have := HMX.out; omega
            intro g' c' w4 ho4 hg4 hp4 hl4
            have HR : Hid (w4.ownsRow w.heap.size 9 1 (.slice (some ⟨g', 0, none⟩) (M + x) c') (bss.take (i + 1)).flatten.length ((bss.take (i + 1)).flatten.map Value.string) ∧ Below w.heap.size w w4) := by
              refine ⟨?_, HB.out.grown hg4 hbs (fun k hk => (HO.out.lt k hk).1)⟩
              rw [HMX.out.2, HNX.out]
              exact ho4
            clear ho4 hg4 hp4 hl4
            go_wp2_with fail
            go_roundw
            case rel => exact ⟨i + 1, by omega, by go_num, HR.out.1, HR.out.2⟩
            case measure => simp [intOf]; omega
        · obtain rfl : i = bss.length := by omega
          have hiI2 : ¬ (bss.length : Int) < bss.length := by omega
          rw [List.take_length] at HO ⊢
          have HSR : Hid (SReads wr (.slice na bss.flatten.length nc) bss.flatten) := own_sreadsB HO.out
          obtain ⟨T, hT⟩ : ∃ T, bss.flatten.length = T := ⟨_, rfl⟩
          rw [hT] at HSR ⊢
          clear hT HO
          go_wp2_with fail
          go_ret
          exact ⟨_, rfl, HSR.out, HB.out⟩
end Go.Proofs.YtfdkkiecibdblaaDoor
