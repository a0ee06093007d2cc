/- Contract of bits.Next (where the table of math/bits lies as its initialiser lays it). -/
import Derived.Test.YtfdkkiecibdblaaDoorDn
namespace Go.Proofs.YtfdkkiecibdblaaDoor
open Go.RowKit Go.Lib

theorem but_ones (N m k l : Nat) (hk : m / 64 = k) (hl : m % 64 = l) : NextAt N m k (butN (word N k) (2 ^ l - 1)) := by
  refine ⟨by omega, but_lt (word_lt N k), ?_, fun j h1 h2 => by omega⟩
  intro j hj
  rw [testBit_but, testBit_word, decide_eq_true hj, Bool.true_and, Nat.testBit_two_pow_sub_one]
  by_cases h : j < l
  · rw [decide_eq_true h, decide_eq_false (by omega)]
    simp
  · rw [decide_eq_false h, decide_eq_true (by omega)]
    simp
theorem rest_eq (x l : Nat) (hx : x < 18446744073709551616) (hl : l < 64) : bits .andNot .u64 (x : Int) (IntKind.u64.wrap (((2 ^ l : Nat) : Int) - 1)) = ((butN x (2 ^ l - 1) : Nat) : Int) := by
  have h1 := two_pow_lt l hl
  have h2 := Nat.two_pow_pos l
  have e : IntKind.u64.wrap (((2 ^ l : Nat) : Int) - 1) = ((2 ^ l - 1 : Nat) : Int) := by rw [IntKind.wrap_u64]; omega
  rw [e, bits_andNot_u64_nat x _ hx (by omega)]
theorem NextAt.done {N m k : Nat} (h : NextAt N m k 0) (hN : Fits N) (hk : k = 7) {i : Int} (hi : ∀ j : Nat, i ≤ j ↔ m ≤ j) : NextIs N i 0 false := by
  refine .inr ⟨rfl, rfl, ?_⟩
  intro j hij
  by_cases h5 : j < 512
  · exact h.next.none j ((hi j).1 hij) (by omega)
  · exact hN j (by omega)
theorem ret_next {a b : Int} {x y : Bool} (h : a = b) (g : x = y) : Ending.returned (.tuple #[.int .i64 a, .bool x]) = .returned (.tuple #[.int .i64 b, .bool y]) := by rw [h, g]
theorem TzTab.drewN {w : World} (h : TzTab w) (q : Nat) : TzTab (w.drewN q) := h

set_option maxHeartbeats 4000000 in
set_option maxRecDepth 100000 in
theorem next_any (N : Nat) (hN : Fits N) (i : Int) (w : World) (hT : TzTab w) :
    Calls Tryd.prog 79 #[setV N, .int .i64 i] w fun e w' => NextEnd N i e ∧ Below w.heap.size w w' := by
  unfold setV
  by_cases h5 : 512 ≤ i
  · have HN : Hid (NextIs N i 0 false) := .inr ⟨rfl, rfl, fun j hj => hN j (by omega)⟩
    go_enter Tryd.func79, Tryd.ntmps79
    go_wp2_with fail
    go_ret2
    exact ⟨⟨0, false, rfl, HN.out⟩, (Below.refl _ _).alloc (Nat.le_refl _) _⟩
  · obtain ⟨m, HMd⟩ : ∃ m : Nat, Hid ((m : Int) = max i 0) := ⟨(max i 0).toNat, by show _ = _; omega⟩
    have HI : Hid (∀ j : Nat, i ≤ j ↔ m ≤ j) := fun j => by have := HMd.out; omega
    have hm5 : m < 512 := by have := HMd.out; omega
    obtain ⟨k, hkd⟩ : ∃ k, m / 64 = k := ⟨_, rfl⟩
    obtain ⟨l, hld⟩ : ∃ l, m % 64 = l := ⟨_, rfl⟩
    have hk : k < 8 := by omega
    have hkI : (k : Int) < 8 := by omega
    have hl : l < 64 := by omega
    have H0 : Hid _ := but_ones N m k l hkd hld
    have HT : Hid (TzTab (w.alloc (.cells (cellsF (word N)) 31))) := hT.alloc _
    have HC : Hid (Cells8 (w.alloc (.cells (cellsF (word N)) 31)) w.heap.size (word N)) := Cells8.last w _
    have HB : Hid (Below w.heap.size w (w.alloc (.cells (cellsF (word N)) 31))) := (Below.refl _ _).alloc (Nat.le_refl _) _
    have HK : Hid (m / 64 = k ∧ m % 64 = l) := ⟨hkd, hld⟩
    clear hT
    by_cases i0 : i < 0
    · have hm0 : m = 0 := by have := HMd.out; omega
      subst hm0
      have hk0 : k = 0 := by omega
      have hl0 : l = 0 := by omega
      subst hk0 hl0
      clear hkd hld
      go_enter Tryd.func79, Tryd.ntmps79
      go_wp2_with fail
      generalize hWd : w.alloc (.cells (cellsF (word N)) 31) = W at HT HC HB ⊢
      clear hWd
      have hc := HC.out.get hk
      have HRe : Hid (bits .andNot .u64 (word N 0 : Nat) 0 = ((butN (word N 0) (2 ^ 0 - 1) : Nat) : Int)) := bits_andNot_u64_nat (word N 0) 0 (word_lt N 0) (by decide)
      go_quiet ((go_at_call 41; exact Calls.quiet_of_same (bitOf_any 0 (by omega) _)))
      rw [HRe.out]
      have HT2 : Hid (TzTab (W.drewN nq)) := HT.out
      have HC2 : Hid (Cells8 (W.drewN nq) w.heap.size (word N)) := HC.out.drewN nq
      have HB2 : Hid (Below w.heap.size w (W.drewN nq)) := ⟨HB.out.os, HB.out.tape, HB.out.output, HB.out.size, HB.out.block⟩
      generalize W.drewN nq = V at HT2 HC2 HB2 ⊢
      clear HT HC HB hc
      go_wp2_with fail
      go_loop [6, 7] (fun vk vr => ∃ k r : Nat, vk = .int .i64 k ∧ k < 8 ∧ vr = .int .u64 r ∧ NextAt N 0 k r) (fun vk _ => 8 - (intOf vk).toNat)
      case atStart => exact ⟨0, _, rfl, hk, rfl, H0.out⟩
      case round =>
        obtain ⟨j, r, rfl, hj, rfl, hat⟩ := hrel
        have HA : Hid (NextAt N 0 j r) := hat
        have hrl := hat.lt
        clear hat
        by_cases hr0 : r = 0
        · subst hr0
          by_cases hj7 : j + 1 = 8
          · have hjI : (j : Int) + 1 = 8 := by omega
            have HNo : Hid (NextIs N i 0 false) := HA.out.done hN (by omega) HI.out
            have hjb : ((j : Int) + 1 == 8) = true := by rw [hjI]; rfl
            go_wp2_with fail
            go_ret2
            exact ⟨⟨0, false, rfl, HNo.out⟩, HB2.out⟩
          · have hj8 : j + 1 < 8 := by omega
            have hjb : ((j : Int) + 1 == 8) = false := by rw [beq_eq_false_iff_ne]; omega
            have hc := HC2.out.get hj8
            have HN2 : Hid (NextAt N 0 (j + 1) (word N (j + 1))) := HA.out.next
            go_wp2_with fail
            go_round
            case rel => exact ⟨j + 1, word N (j + 1), by go_num, by omega, rfl, HN2.out⟩
            case measure => simp [intOf]; omega
        · have hrb : ((r : Int) == 0) = false := by rw [beq_eq_false_iff_ne]; omega
          have HF : Hid (NextIs N i ((64 * j + Lib.ctz 64 r : Nat) : Int) true) := HA.out.found hr0 HI.out
          have hct := (ctz_bits r hr0 hrl).1
          obtain ⟨t, Ht⟩ : ∃ t, Hid (Lib.ctz 64 r = t) := ⟨_, rfl⟩
          rw [Ht.out] at hct HF
          go_wp2_with (go_at_call 85; refine (tz_any r hrl hr0 _ HT2.out).mono ?_; rintro e w1 ⟨rfl, rfl⟩; rw [Ht.out])
          go_ret2
          exact ⟨⟨((64 * j + t : Nat) : Int), true, ret_next (by omega) rfl, HF.out⟩, HB2.out⟩
    · have him : i = (m : Int) := by have := HMd.out; omega
      subst him
      have hq : (m : Int) / 64 = k := by omega
      clear hkd hld
      go_enter Tryd.func79, Tryd.ntmps79
      go_wp2_with fail
      generalize hWd : w.alloc (.cells (cellsF (word N)) 31) = W at HT HC HB ⊢
      clear hWd
      have hc := HC.out.get hk
      have HRe : Hid (bits .andNot .u64 (word N k : Nat) (IntKind.u64.wrap ((2 : Int) ^ (m % 64) - 1)) = ((butN (word N k) (2 ^ l - 1) : Nat) : Int)) := by
        show _ = _
        rw [HK.out.2]
        have := rest_eq (word N k) l (word_lt N k) hl
        simpa using this
      go_quiet ((go_at_call 41; exact Calls.quiet_of_same (bitOf_any m hm5 _)))
      rw [HRe.out]
      have HT2 : Hid (TzTab (W.drewN nq)) := HT.out
      have HC2 : Hid (Cells8 (W.drewN nq) w.heap.size (word N)) := HC.out.drewN nq
      have HB2 : Hid (Below w.heap.size w (W.drewN nq)) := ⟨HB.out.os, HB.out.tape, HB.out.output, HB.out.size, HB.out.block⟩
      generalize W.drewN nq = V at HT2 HC2 HB2 ⊢
      clear HT HC HB hc
      go_wp2_with fail
      go_loop [6, 7] (fun vk vr => ∃ k r : Nat, vk = .int .i64 k ∧ k < 8 ∧ vr = .int .u64 r ∧ NextAt N m k r) (fun vk _ => 8 - (intOf vk).toNat)
      case atStart => exact ⟨k, _, rfl, hk, rfl, H0.out⟩
      case round =>
        obtain ⟨j, r, rfl, hj, rfl, hat⟩ := hrel
        have HA : Hid (NextAt N m j r) := hat
        have hrl := hat.lt
        clear hat
        by_cases hr0 : r = 0
        · subst hr0
          by_cases hj7 : j + 1 = 8
          · have hjI : (j : Int) + 1 = 8 := by omega
            have HNo : Hid (NextIs N m 0 false) := HA.out.done hN (by omega) (fun j => by omega)
            have hjb : ((j : Int) + 1 == 8) = true := by rw [hjI]; rfl
            go_wp2_with fail
            go_ret2
            exact ⟨⟨0, false, rfl, HNo.out⟩, HB2.out⟩
          · have hj8 : j + 1 < 8 := by omega
            have hjb : ((j : Int) + 1 == 8) = false := by rw [beq_eq_false_iff_ne]; omega
            have hc := HC2.out.get hj8
            have HN2 : Hid (NextAt N m (j + 1) (word N (j + 1))) := HA.out.next
            go_wp2_with fail
            go_round
            case rel => exact ⟨j + 1, word N (j + 1), by go_num, by omega, rfl, HN2.out⟩
            case measure => simp [intOf]; omega
        · have hrb : ((r : Int) == 0) = false := by rw [beq_eq_false_iff_ne]; omega
          have HF : Hid (NextIs N m ((64 * j + Lib.ctz 64 r : Nat) : Int) true) := HA.out.found hr0 (fun j => by omega)
          have hct := (ctz_bits r hr0 hrl).1
          obtain ⟨t, Ht⟩ : ∃ t, Hid (Lib.ctz 64 r = t) := ⟨_, rfl⟩
          rw [Ht.out] at hct HF
          go_wp2_with (go_at_call 85; refine (tz_any r hrl hr0 _ HT2.out).mono ?_; rintro e w1 ⟨rfl, rfl⟩; rw [Ht.out])
          go_ret2
          exact ⟨⟨((64 * j + t : Nat) : Int), true, ret_next (by omega) rfl, HF.out⟩, HB2.out⟩

end Go.Proofs.YtfdkkiecibdblaaDoor
