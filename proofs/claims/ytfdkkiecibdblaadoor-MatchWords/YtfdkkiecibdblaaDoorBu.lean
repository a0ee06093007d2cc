/- Contracts of bits.shiftUp, bits.shiftDown and bits.Shift. -/
import Derived.Test.YtfdkkiecibdblaaDoorBp
import Derived.Test.YtfdkkiecibdblaaDoorBr
import Derived.BigRegion
namespace Go.Proofs.YtfdkkiecibdblaaDoor
open Go.RowKit

/-- The set with all numbers moved up, or down; what leaves the range falls out. -/
def upN (N n : Nat) : Nat := ofW (fun k => word (N * 2 ^ n) k) 8
theorem testBit_up (N n i : Nat) : (upN N n).testBit i = (decide (i < 512) && (decide (n ≤ i) && N.testBit (i - n))) := by
  unfold upN
  rw [ofW_testBit _ (fun k => word_lt _ k), ← word_testBit, Nat.testBit_mul_two_pow]
theorem fits_up (N n : Nat) : Fits (upN N n) := fun i hi => by
  rw [testBit_up, decide_eq_false (by omega), Bool.false_and]
def downN (N n : Nat) : Nat := N / 2 ^ n
theorem testBit_down (N n i : Nat) : (downN N n).testBit i = N.testBit (i + n) := by unfold downN; rw [Nat.testBit_div_two_pow]
theorem fits_down {N : Nat} (h : Fits N) (n : Nat) : Fits (downN N n) := fun i hi => by rw [testBit_down, h (i + n) (by omega)]

/-- Word k of the set moved up by ws words and r bits, when the first 'from_' words have been taken. -/
def upTo (N ws r from_ k : Nat) : Nat := (if ws ≤ k ∧ k < ws + from_ then word N (k - ws) * 2 ^ r % 18446744073709551616 else 0) ||| (if ws + 1 ≤ k ∧ k < ws + 1 + from_ then word N (k - ws - 1) / 2 ^ (64 - r) else 0)
theorem upTo_lt (N ws r c k : Nat) : upTo N ws r c k < 18446744073709551616 := by
  unfold upTo
  apply Nat.or_lt_two_pow (n := 64)
  · split
    · exact Nat.mod_lt _ (by decide)
    · decide
  · split
    · exact shr_lt (word_lt _ _)
    · decide
theorem upTo_low (N ws r c : Nat) : upTo N ws r c (ws + c) ||| word N c * 2 ^ r % 18446744073709551616 = upTo N ws r (c + 1) (ws + c) := by
  unfold upTo
  rw [if_neg (by omega), if_pos (show ws ≤ ws + c ∧ ws + c < ws + (c + 1) by omega), Nat.add_sub_cancel_left, Nat.zero_or, Nat.or_comm]
  congr 1
  by_cases h : 1 ≤ c
  · rw [if_pos (by omega), if_pos (by omega)]
  · rw [if_neg (by omega), if_neg (by omega)]
theorem upTo_high (N ws r c : Nat) : upTo N ws r c (ws + c + 1) ||| word N c / 2 ^ (64 - r) = upTo N ws r (c + 1) (ws + c + 1) := by
  unfold upTo
  rw [if_neg (by omega), if_neg (by omega), if_neg (by omega), if_pos (by omega)]
  simp only [Nat.zero_or]
  congr 2
  omega
theorem upTo_else (N ws r c k : Nat) (h1 : k ≠ ws + c) (h2 : k ≠ ws + c + 1) : upTo N ws r (c + 1) k = upTo N ws r c k := by
  unfold upTo
  have e1 : (ws ≤ k ∧ k < ws + (c + 1)) = (ws ≤ k ∧ k < ws + c) := by apply propext; omega
  have e2 : (ws + 1 ≤ k ∧ k < ws + 1 + (c + 1)) = (ws + 1 ≤ k ∧ k < ws + 1 + c) := by apply propext; omega
  simp only [e1, e2]
theorem upTo_zero (N ws r k : Nat) : upTo N ws r 0 k = 0 := by
  unfold upTo
  rw [if_neg (by omega), if_neg (by omega)]
  rfl
theorem upTo_end (N ws r : Nat) (hr : r < 64) (k : Nat) (hk : k < 8) : upTo N ws r (8 - ws) k = word (upN N (64 * ws + r)) k := by
  symm
  apply word_of_bits (upTo_lt _ _ _ _ _)
  intro j hj
  unfold upTo
  rw [testBit_up, decide_eq_true (by omega), Bool.true_and, Nat.testBit_or]
  have z : ∀ i, (0 : Nat).testBit i = false := fun i => Nat.zero_testBit i
  by_cases h1 : ws ≤ k
  · rw [if_pos (by omega), testBit_shl _ _ _ hj, testBit_word]
    by_cases h2 : r ≤ j
    · have e : 64 * k + j - (64 * ws + r) = 64 * (k - ws) + (j - r) := by omega
      rw [decide_eq_true (by omega), decide_eq_true h2, decide_eq_true (by omega), e]
      by_cases h3 : ws + 1 ≤ k
      · rw [if_pos (by omega), Nat.testBit_div_two_pow, testBit_word, decide_eq_false (by omega)]
        simp
      · rw [if_neg (by omega), z]
        simp
    · rw [decide_eq_false h2]
      by_cases h3 : ws + 1 ≤ k
      · have e : 64 * k + j - (64 * ws + r) = 64 * (k - ws - 1) + (j + (64 - r)) := by omega
        rw [if_pos (by omega), Nat.testBit_div_two_pow, testBit_word, decide_eq_true (show 64 * ws + r ≤ 64 * k + j by omega), decide_eq_true (show j + (64 - r) < 64 by omega), e]
        simp
      · rw [if_neg (by omega), z, decide_eq_false (by omega)]
        simp
  · rw [if_neg (by omega), if_neg (by omega), z, decide_eq_false (by omega)]
    simp

/-- What stands in the shifts' loops. -/
structure ShAt (w : World) (N : Nat) (f : Nat → Nat) (wr : World) : Prop where
  set : Cells8 wr w.heap.size (word N)
  res : Cells8 wr (w.heap.size + 1) (fun _ => 0)
  out : Cells8 wr (w.heap.size + 1 + 1) f
  below : Below w.heap.size w wr
theorem ShAt.start (w : World) (N : Nat) : ShAt w N (fun _ => 0) (((w.alloc (.cells (cellsF (word N)) 31)).alloc (.cells #[.int .u64 0, .int .u64 0, .int .u64 0, .int .u64 0, .int .u64 0, .int .u64 0, .int .u64 0, .int .u64 0] 31)).alloc (.cells #[.int .u64 0, .int .u64 0, .int .u64 0, .int .u64 0, .int .u64 0, .int .u64 0, .int .u64 0, .int .u64 0] 31)) := by
  have h := PutAt.start w N
  refine ⟨h.set.alloc _, h.res.alloc _, ?_, h.below.alloc h.below.size _⟩
  have := Cells8.last ((w.alloc (.cells (cellsF (word N)) 31)).alloc (.cells #[.int .u64 0, .int .u64 0, .int .u64 0, .int .u64 0, .int .u64 0, .int .u64 0, .int .u64 0, .int .u64 0] 31)) (fun _ => 0)
  simpa [cellsF] using this
theorem ShAt.put {w wr : World} {N k x : Nat} {f : Nat → Nat} (h : ShAt w N f wr) (hk : k < 8) : ShAt w N (fun j => if j = k then x else f j) (wr.setCell ⟨w.heap.size + 1 + 1, k, none⟩ (.int .u64 (x : Nat))).drew :=
  ⟨(h.set.other (by omega) _).drew, (h.res.other (by omega) _).drew, (h.out.set x hk).drew, (h.below.setCell (p := ⟨w.heap.size + 1 + 1, k, none⟩) (by simp; omega) _).drew⟩
theorem ShAt.congr {w wr : World} {N : Nat} {f g : Nat → Nat} (h : ShAt w N f wr) (e : ∀ k, k < 8 → f k = g k) : ShAt w N g wr := ⟨h.set, h.res, h.out.congr e, h.below⟩
theorem or_shl (x y r : Nat) (hx : x < 18446744073709551616) : bits .or .u64 (x : Int) (IntKind.u64.wrap ((y : Int) * 2 ^ r)) = ((x ||| y * 2 ^ r % 18446744073709551616 : Nat) : Int) := or_u64 _ _ rfl (shl_cast y r) hx (Nat.mod_lt _ (by decide))
theorem or_shr (x y r : Nat) (hx : x < 18446744073709551616) (hy : y < 18446744073709551616) : bits .or .u64 (x : Int) ((y : Int) / 2 ^ r) = ((x ||| y / 2 ^ r : Nat) : Int) := or_u64 _ _ rfl (shr_cast y r) hx (shr_lt hy)
theorem ret_one {f g : Nat → Nat} (h : ∀ k, k < 8 → f k = g k) : Ending.returned (.agg (cellsF f)) = .returned (.agg (cellsF g)) := by rw [cellsF_congr h]

set_option maxHeartbeats 4000000 in
set_option maxRecDepth 100000 in
theorem shiftUp_any (N n : Nat) (hn : n < 512) (w : World) :
    Calls Tryd.prog 43 #[setV N, .int .i64 n] w fun e w' => e = .returned (setV (upN N n)) ∧ Below w.heap.size w w' := by
  obtain ⟨ws, hwsd⟩ : ∃ ws, n / 64 = ws := ⟨_, rfl⟩
  obtain ⟨r, hrd⟩ : ∃ r, n % 64 = r := ⟨_, rfl⟩
  have hws : ws < 8 := by omega
  have hr64 : r < 64 := by omega
  have hq : (n : Int) / 64 = ws := by omega
  have hr : (n : Int) % 64 = r := by omega
  have HN : Hid (n = 64 * ws + r) := by show n = 64 * ws + r; omega
  obtain ⟨m, hmd⟩ : ∃ m, 64 - r = m := ⟨_, rfl⟩
  have hmI : (64 : Int) - (r : Int) = (m : Int) := by omega
  have hm64 : m ≤ 64 := by omega
  have HM : Hid (64 - r = m) := hmd
  clear hwsd hrd hmd
  have H0 : Hid (ShAt w N (fun _ => 0) _) := ShAt.start w N
  unfold setV
  go_enter Tryd.func43, Tryd.ntmps43
  go_wp2_with fail
  simp only [hr]
  generalize hW : ((w.alloc (.cells (cellsF (word N)) 31)).alloc (.cells #[.int .u64 0, .int .u64 0, .int .u64 0, .int .u64 0, .int .u64 0, .int .u64 0, .int .u64 0, .int .u64 0] 31)).alloc (.cells #[.int .u64 0, .int .u64 0, .int .u64 0, .int .u64 0, .int .u64 0, .int .u64 0, .int .u64 0, .int .u64 0] 31) = W at H0 ⊢
  clear hW
  go_loopw [16, 8, 9] (fun vc _ _ wr => ∃ c : Nat, vc = .int .i64 c ∧ c + ws ≤ 8 ∧ ShAt w N (upTo N ws r c) wr) (fun vc _ _ _ => 8 - (intOf vc).toNat)
  case atStart => exact ⟨0, rfl, by omega, H0.out.congr (fun k _ => (upTo_zero N ws r k).symm)⟩
  case round =>
    clear H0
    obtain ⟨c, rfl, hc, hat⟩ := hrel
    have HA : Hid _ := hat
    clear hat
    by_cases hlt : c + ws < 8
    · have hcI : (c : Int) < 8 - ws := by omega
      obtain ⟨t, htd⟩ : ∃ t, ws + c = t := ⟨_, rfl⟩
      have htI : (c : Int) + ws = (t : Int) := by omega
      have ht8 : t < 8 := by omega
      have ht8I : (t : Int) < 8 := by omega
      have hc8 : c < 8 := by omega
      have hc8I : (c : Int) < 8 := by omega
      have htw : IntKind.i64.wrap (t : Int) = t := IntWalk.i64_in _ (by omega)
      have cs := HA.out.set.get hc8
      have co := HA.out.out.get ht8
      have fo := HA.out.out.frozen t
      have HT : Hid (ws + c = t) := htd
      obtain ⟨x, hx⟩ : ∃ x, upTo N ws r c t = x := ⟨_, rfl⟩
      have hxl := upTo_lt N ws r c t
      rw [hx] at co hxl
      have HX : Hid _ := hx
      clear htd hx
      go_wp2_with fail
      go_region
      rw [or_shl _ _ _ hxl]
      generalize hW1 : (wr.setCell ⟨w.heap.size + 1 + 1, t, none⟩ (.int .u64 (x ||| word N c * 2 ^ r % 18446744073709551616 : Nat))).drew = W1
      have H1 : Hid (ShAt w N (fun j => if j = t then upTo N ws r (c + 1) t else upTo N ws r c j) W1) := by
        show ShAt _ _ _ _
        rw [← hW1, ← HX.out]
        have := HA.out.put (x := upTo N ws r c t ||| word N c * 2 ^ r % 18446744073709551616) ht8
        rw [← HT.out, upTo_low, HT.out] at this ⊢
        exact this
      clear hW1 cs co fo HA hxl
      by_cases h7 : t + 1 < 8
      · obtain ⟨u, hud⟩ : ∃ u, t + 1 = u := ⟨_, rfl⟩
        have huI : (t : Int) + 1 = (u : Int) := by omega
        have hu8 : u < 8 := by omega
        have hu8I : (u : Int) < 8 := by omega
        have huw : IntKind.i64.wrap (u : Int) = u := IntWalk.i64_in _ (by omega)
        have HU : Hid (t + 1 = u) := hud
        have cs := H1.out.set.get hc8
        have co := H1.out.out.get hu8
        have fo := H1.out.out.frozen u
        rw [if_neg (show ¬ u = t by omega)] at co
        obtain ⟨y, hy⟩ : ∃ y, upTo N ws r c u = y := ⟨_, rfl⟩
        have hyl := upTo_lt N ws r c u
        rw [hy] at co hyl
        have HY : Hid _ := hy
        clear hud hy h7
        go_wp2_with fail
        go_region
        rw [or_shr _ _ _ hyl (word_lt N c)]
        generalize hW2 : (W1.setCell ⟨w.heap.size + 1 + 1, u, none⟩ (.int .u64 (y ||| word N c / 2 ^ m : Nat))).drew = W2
        have H2 : Hid (ShAt w N (upTo N ws r (c + 1)) W2) := by
          show ShAt _ _ _ _
          rw [← hW2, ← HY.out, ← HM.out]
          refine (H1.out.put (x := upTo N ws r c u ||| word N c / 2 ^ (64 - r)) hu8).congr ?_
          intro k hk
          have e1 := HT.out
          have e2 := HU.out
          by_cases k1 : k = u
          · rw [if_pos k1, k1, ← e2, ← e1, upTo_high]
          · rw [if_neg k1]
            by_cases k2 : k = t
            · rw [if_pos k2, k2]
            · rw [if_neg k2, upTo_else _ _ _ _ _ (by omega) (by omega)]
        clear hW2 cs co fo H1 hyl
        go_wp2_with fail
        go_roundw
        case rel => exact ⟨c + 1, by go_num, by omega, H2.out⟩
        case measure => simp [intOf]; omega
      · have h7I : ¬ (t : Int) + 1 < 8 := by omega
        have H2 : Hid (ShAt w N (upTo N ws r (c + 1)) W1) := by
          refine H1.out.congr ?_
          intro k hk
          have e1 := HT.out
          by_cases k2 : k = t
          · rw [if_pos k2, k2]
          · rw [if_neg k2, upTo_else _ _ _ _ _ (by omega) (by omega)]
        clear H1
        go_wp2_with fail
        go_roundw
        case rel => exact ⟨c + 1, by go_num, by omega, H2.out⟩
        case measure => simp [intOf]; omega
    · have hcI : ¬ (c : Int) < 8 - ws := by omega
      obtain ⟨d0, d1, d2, d3, d4, d5, d6, d7⟩ := (HA.out.res).gets
      have f0 := (HA.out.res).frozen 0
      have f1 := (HA.out.res).frozen 1
      have f2 := (HA.out.res).frozen 2
      have f3 := (HA.out.res).frozen 3
      have f4 := (HA.out.res).frozen 4
      have f5 := (HA.out.res).frozen 5
      have f6 := (HA.out.res).frozen 6
      have f7 := (HA.out.res).frozen 7
      obtain ⟨c0, c1, c2, c3, c4, c5, c6, c7⟩ := HA.out.out.gets
      go_wp2_with fail
      obtain ⟨h8, hB⟩ := st8 HA.out.res HA.out.below (by omega) (upTo N ws r c) rfl rfl rfl rfl rfl rfl rfl rfl
      refine bodyPost_ret (results_set rfl rfl h8) rfl ⟨?_, hB⟩
      refine ret_one fun k hk => ?_
      rw [show c = 8 - ws by omega, HN.out]
      exact upTo_end N ws r hr64 k hk

end Go.Proofs.YtfdkkiecibdblaaDoor
