/- slices.Repeat of one number. -/
import Derived.Test.YtggheiblgghpkaaMi
import Derived.Laws.CopyOwn
import Derived.Deep.RegionWith
namespace Go.Proofs.Ytggheiblgghpkaa
open Go Go.RowKit Go.Lib
set_option linter.unusedVariables false

theorem and_u64 {A B : Int} (a b : Nat) (hA : A = a) (hB : B = b) (ha : a < 18446744073709551616) (hb : b < 18446744073709551616) : bits .and .u64 A B = ((a &&& b : Nat) : Int) := by
  rw [hA, hB, bits_and_u64_nat a b ha hb]

theorem and_mask10 (n : Nat) (hn : n ≤ 4096) : bits .and .u64 (n : Int) 4294967295 = (n : Int) := by
  have := and_u64 (A := (n : Int)) (B := 4294967295) n 4294967295 rfl rfl (by omega) (by decide)
  rw [this, show (4294967295 : Nat) = 2 ^ 32 - 1 from rfl, Nat.and_two_pow_sub_one_eq_mod, Nat.mod_eq_of_lt (by omega)]

set_option maxHeartbeats 2000000 in
set_option maxRecDepth 100000 in
theorem mul64_ten (n : Nat) (hn : n ≤ 4096) (w : World) : Calls Try.prog 76 #[.int .u64 1, .int .u64 (n : Int)] w fun e w' => e = .returned (.tuple #[.int .u64 0, .int .u64 (n : Int)]) ∧ w = w' := by
  have h1 : bits .and .u64 1 4294967295 = 1 := and_mask10 1 (by omega)
  have h0 : bits .and .u64 0 4294967295 = 0 := and_mask10 0 (by omega)
  have h2 := and_mask10 n hn
  have hd : (n : Int) / 4294967296 = 0 := by omega
  have hw : IntKind.u64.wrap (n : Int) = n := by rw [IntKind.wrap_u64]; omega
  go_enter Try.func76, Try.ntmps76
  go_wp2
  go_ret2
  exact ⟨rfl, rfl⟩
set_option maxHeartbeats 2000000 in
theorem mul_ten (n : Nat) (hn : n ≤ 4096) (w : World) : Calls Try.prog 72 #[.int .u64 1, .int .u64 (n : Int)] w fun e w' => e = .returned (.tuple #[.int .u64 0, .int .u64 (n : Int)]) ∧ w = w' := by
  go_enter Try.func72, Try.ntmps72
  go_wp2_with fail
  refine (mul64_ten n hn _).mono ?_
  rintro e w1 ⟨rfl, rfl⟩
  go_wp2_with fail
  go_ret2
  exact ⟨rfl, rfl⟩

theorem Try.size_intc : (Try.prog.info? 3).map (·.size) = some 1 := by kernel_rfl
/-- The row: b of its numbers are laid. -/
structure RepI (w : World) (n C b : Nat) (L : List Value) (wr : World) : Prop where
  blk : wr.heap[w.heap.size]? = some (.cells L.toArray 3 (0, 0))
  len : L.length = C
  take : L.take b = List.replicate b (.int .i64 (-1))
  below : Below w.heap.size w wr

theorem repI_copy {w wr : World} {n C b : Nat} {L : List Value} (h : RepI w n C b L wr) (dLen dCap : Nat) (a : Addr) (sLen sCap m : Nat) (hm : m = Nat.min sLen dLen) (hbm : b + m ≤ C) (hsrc : ∀ j, j < m → wr.cell? (a.add j) = some (.int .i64 (-1))) :
    ∃ wr' L', (Builtin.copy_ #[22, 22] 3 #[.slice (some ⟨w.heap.size, b, none⟩) dLen dCap, .slice (some a) sLen sCap]).run Try.prog wr = .ok (.int .i64 (m : Int)) wr' ∧ RepI w n C (b + m) L' wr' := by
  have hbL : b ≤ L.length := by have := h.len; omega
  have hr := run_copy_row (P := Try.prog) wr 22 22 3 3 w.heap.size b dLen dCap a sLen sCap L.toArray 3 (List.replicate m (.int .i64 (-1))) Try.underlying22 Try.size_intc h.blk (by simp [hm])
    (fun j v hj => by
      rw [List.getElem?_replicate] at hj
      split at hj
      · rename_i hjm
        cases hj
        exact hsrc j hjm
      · cases hj) (by simp; have := h.len; omega) (fun v hv => by rw [List.mem_replicate] at hv; rw [hv.2]; rfl)
  refine ⟨wr.setRow w.heap.size (L.take b ++ List.replicate m (Value.int .i64 (-1)) ++ L.drop (b + m)).toArray, L.take b ++ List.replicate m (Value.int .i64 (-1)) ++ L.drop (b + m), ?_, ?_, ?_, ?_, ?_⟩
  · rw [hr]
    simp [goInt]
  · have := setRow_heap wr w.heap.size _ (L.take b ++ List.replicate m (Value.int .i64 (-1)) ++ L.drop (b + m)).toArray 3 _ h.blk
    simpa using this
  · have := h.len
    simp
    omega
  · rw [List.take_append_of_le_length (by simp; omega), List.take_of_length_le (by simp; omega), h.take, List.replicate_append_replicate]
  · exact below_setRow h.below (Nat.le_refl _) _

set_option maxHeartbeats 2000000 in
set_option maxRecDepth 100000 in
theorem repeatI_any (n : Nat) (hn : n ≤ 4096) (hn1 : 1 ≤ n) (w : World) (g : Nat) (hc : w.cell? ⟨g, 0, none⟩ = some (.int .i64 (-1))) : Calls Try.prog 65 #[.slice (some ⟨g, 0, none⟩) 1 1, .int .i64 (n : Int)] w fun e w' => e = .returned (.slice (some ⟨w.heap.size, 0, none⟩) n n) ∧ w'.ownsRow w.heap.size 3 1 (.slice (some ⟨w.heap.size, 0, none⟩) n n) n (List.replicate n (.int .i64 (-1))) ∧ Below w.heap.size w w' := by
  have HCELL : Hid (w.cell? ⟨g, 0, none⟩ = some (.int .i64 (-1))) := hc
  obtain ⟨i0, hi, hz0, hz1, hz2⟩ := info_parts Try.info_int
  have hmk := fun w0 => run_make (P := Try.prog) w0 22 3 i0 (.int .i64 0) Try.underlying22 hi hz0 .i64 .i64 (n : Int) (n : Int) (by omega) (by omega) (by rw [hz2]; omega) (by omega)
  rw [hz1] at hmk
  simp only [Nat.mul_one] at hmk
  have h0J : ¬ (n : Int) < 0 := by omega
  have hwn : IntKind.u64.wrap (n : Int) = n := by rw [IntKind.wrap_u64]; omega
  have hwi : IntKind.i64.wrap (n : Int) = n := by rw [IntKind.wrap_i64]; omega
  go_enter Try.func65, Try.ntmps65
  go_wp2_with fail
  refine (mul_ten n hn _).mono ?_
  rintro e w1 ⟨rfl, rfl⟩
  obtain ⟨W, hW⟩ : ∃ W, w.alloc (.cells (madeCells #[.int .i64 0] n) 3) = W := ⟨_, rfl⟩
  have hb0 : Below w.heap.size w W := by rw [← hW]; exact below_new _ _
  have hms : (madeCells #[.int .i64 0] n).size = n := by simp [madeCells]
  have hR0 : RepI w n n 0 (madeCells #[.int .i64 0] n).toList W := ⟨by rw [← hW]; exact heap_alloc_last _ _, by simpa using hms, rfl, hb0⟩
  obtain ⟨W1, L1, hcp, hR1⟩ := repI_copy hR0 n n ⟨g, 0, none⟩ 1 1 1 (by show 1 = min 1 n; omega) (by omega) (fun j hj => by
    obtain rfl : j = 0 := by omega
    have e : (⟨g, 0, none⟩ : Addr).add 0 = ⟨g, 0, none⟩ := rfl
    rw [e, below_cell hb0 (World.block_lt_of_cell? w _ HCELL.out)]
    exact HCELL.out)
  rw [← hW] at hcp
  have HR1 : Hid (RepI w n n 1 L1 W1) := hR1
  have HN : Hid (1 ≤ n) := hn1
  clear hW hR0 hR1 hb0 hms hc
  go_wp2_with fail
  go_loopw [8] (fun vb wr => ∃ (b : Nat) (L : List Value), 1 ≤ b ∧ b ≤ n ∧ vb = .int .i64 (b : Int) ∧ RepI w n n b L wr) (fun vb _ => n - (intOf vb).toNat)
  case atStart => exact ⟨1, L1, Nat.le_refl _, HN.out, rfl, HR1.out⟩
  case round =>
    clear HR1 hcp hmk
    obtain ⟨b, L, hb1, hbn, rfl, hrep⟩ := hrel
    have HR : Hid (RepI w n n b L wr) := hrep
    by_cases hlt : b < n
    · have hbI : (b : Int) < n := by omega
      obtain ⟨m, hm⟩ : ∃ m, min b (n - b) = m := ⟨_, rfl⟩
      have hrepD : RepI w n n b L wr.drew := ⟨hrep.blk, hrep.len, hrep.take, hrep.below.drew⟩
      obtain ⟨W2, L2, hcp2, hR2⟩ := repI_copy hrepD (n - b) (n - b) ⟨w.heap.size, 0, none⟩ b n m (by first | exact hm.symm | (rw [← hm])) (by omega) (fun j hj => by
        have hjb : j < b := by omega
        have e : (⟨w.heap.size, 0, none⟩ : Addr).add j = ⟨w.heap.size, j, none⟩ := by rw [Addr.add_lit, Nat.zero_add]
        rw [e]
        simp only [World.cell?, hrepD.blk]
        have h1 : (L.take b)[j]? = some (.int .i64 (-1)) := by rw [hrep.take, List.getElem?_replicate, if_pos hjb]
        rw [List.getElem?_take, if_pos hjb] at h1
        simpa using h1)
      have HR2 : Hid (RepI w n n (b + m) L2 W2) := hR2
      have HM : Hid (min b (n - b) = m ∧ b < n ∧ 1 ≤ b) := ⟨hm, hlt, hb1⟩
      have hbc : (b : Int) ≤ n := by omega
      obtain ⟨q, hq⟩ : ∃ q, b + m = q := ⟨_, rfl⟩
      have hwq : IntKind.i64.wrap ((b : Int) + m) = (q : Int) := by rw [IntKind.wrap_i64]; omega
      have HQ : Hid (b + m = q) := hq
      have HME : Hid (n - q < n - b) := by have := HM.out; show n - q < n - b; omega
      have HQL : Hid (1 ≤ q ∧ q ≤ n) := by have := HM.out; show _ ∧ _; omega
      clear hq
      clear hrep hR2 hm hrepD
      go_wp2_with fail
      go_region
      all_goals (
        go_wp2_with fail
        go_roundw
        case rel => exact ⟨q, L2, HQL.out.1, HQL.out.2, rfl, by have := HR2.out; rw [HQ.out] at this; exact this⟩
        case measure => exact HME.out)
    · obtain rfl : b = n := by omega
      have hbI : ¬ (b : Int) < b := by omega
      clear hrep
      go_wp2_with fail
      go_ret
      refine ⟨rfl, ⟨by simp, .inr ⟨w.heap.size, b, L.toArray, rfl, Nat.le_refl _, HR.out.blk, Nat.le_refl _, by unfold maxLen; omega, by simpa using HR.out.len, ?_⟩⟩, HR.out.below⟩
      have h1 := HR.out.take
      rw [List.take_of_length_le (by rw [HR.out.len]; omega)] at h1
      rw [← h1]
      simp
      exact List.take_of_length_le (by rw [HR.out.len]; omega)
end Go.Proofs.Ytggheiblgghpkaa
