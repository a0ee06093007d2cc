/- Contracts of bits.shiftDown and bits.Shift. -/
import Derived.Test.YtfdkkiecibdblaaDoorBu
namespace Go.Proofs.YtfdkkiecibdblaaDoor
open Go.RowKit

/-- Word k of the set moved down by ws words and r bits, when the first c words have been told. -/
def dnTo (N ws r c k : Nat) : Nat := (if k < c then word N (k + ws) / 2 ^ r else 0) ||| (if k + 1 < c then word N (k + 1 + ws) * 2 ^ (64 - r) % 18446744073709551616 else 0)
theorem dnTo_lt (N ws r c k : Nat) : dnTo N ws r c k < 18446744073709551616 := by
  unfold dnTo
  apply Nat.or_lt_two_pow (n := 64)
  · split
    · exact shr_lt (word_lt _ _)
    · decide
  · split
    · exact Nat.mod_lt _ (by decide)
    · decide
theorem dnTo_low (N ws r c : Nat) : dnTo N ws r c c ||| word N (c + ws) / 2 ^ r = dnTo N ws r (c + 1) c := by
  unfold dnTo
  rw [if_neg (by omega), if_neg (by omega), if_pos (by omega), if_neg (by omega)]
  simp
theorem dnTo_high (N ws r c : Nat) : dnTo N ws r (c + 1) c ||| word N (c + 1 + ws) * 2 ^ (64 - r) % 18446744073709551616 = dnTo N ws r (c + 1 + 1) c := by
  unfold dnTo
  rw [if_pos (by omega), if_neg (by omega), if_pos (by omega), if_pos (by omega)]
  simp
theorem dnTo_else (N ws r c k : Nat) (h1 : k ≠ c) (h2 : k + 1 ≠ c) : dnTo N ws r (c + 1) k = dnTo N ws r c k := by
  unfold dnTo
  have e1 : (k < c + 1) = (k < c) := by apply propext; omega
  have e2 : (k + 1 < c + 1) = (k + 1 < c) := by apply propext; omega
  simp only [e1, e2]
theorem dnTo_zero (N ws r k : Nat) : dnTo N ws r 0 k = 0 := by
  unfold dnTo
  rw [if_neg (by omega), if_neg (by omega)]
  rfl
theorem dnTo_end (N ws r : Nat) (hN : Fits N) (hr : r < 64) (hws : ws < 8) (k : Nat) : dnTo N ws r (8 - ws) k = word (downN N (64 * ws + r)) k := by
  symm
  apply word_of_bits (dnTo_lt _ _ _ _ _)
  intro j hj
  unfold dnTo
  rw [testBit_down, Nat.testBit_or]
  have z : ∀ i, (0 : Nat).testBit i = false := fun i => Nat.zero_testBit i
  by_cases h1 : k < 8 - ws
  · rw [if_pos h1, Nat.testBit_div_two_pow, testBit_word]
    by_cases h2 : j + r < 64
    · have e : 64 * k + j + (64 * ws + r) = 64 * (k + ws) + (j + r) := by omega
      rw [decide_eq_true h2, e]
      by_cases h3 : k + 1 < 8 - ws
      · rw [if_pos h3, testBit_shl _ _ _ hj, decide_eq_false (by omega)]
        simp
      · rw [if_neg h3, z]
        simp
    · rw [decide_eq_false h2]
      by_cases h3 : k + 1 < 8 - ws
      · have e : 64 * k + j + (64 * ws + r) = 64 * (k + 1 + ws) + (j - (64 - r)) := by omega
        rw [if_pos h3, testBit_shl _ _ _ hj, testBit_word, decide_eq_true (show 64 - r ≤ j by omega), decide_eq_true (show j - (64 - r) < 64 by omega), e]
        simp
      · rw [if_neg h3, z, hN _ (by omega)]
        simp
  · rw [if_neg h1, if_neg (by omega), z, hN _ (by omega)]
    simp

set_option maxHeartbeats 4000000 in
set_option maxRecDepth 100000 in
theorem shiftDown_any (N n : Nat) (hN : Fits N) (hn : n < 512) (w : World) :
    Calls Tryd.prog 42 #[setV N, .int .i64 n] w fun e w' => e = .returned (setV (downN N n)) ∧ Below w.heap.size w w' := by
  obtain ⟨ws, hwsd⟩ : ∃ ws, n / 64 = ws := ⟨_, rfl⟩
  obtain ⟨r, hrd⟩ : ∃ r, n % 64 = r := ⟨_, rfl⟩
  have hws : ws < 8 := by omega
  have hr64 : r < 64 := by omega
  have hq : (n : Int) / 64 = ws := by omega
  have hr : (n : Int) % 64 = r := by omega
  have HN : Hid (n = 64 * ws + r) := by show n = 64 * ws + r; omega
  obtain ⟨m, hmd⟩ : ∃ m, 64 - r = m := ⟨_, rfl⟩
  have hmI : (64 : Int) - (r : Int) = (m : Int) := by omega
  have hm64 : m ≤ 64 := by omega
  have HM : Hid (64 - r = m) := hmd
  clear hwsd hrd hmd
  have H0 : Hid (ShAt w N (fun _ => 0) _) := ShAt.start w N
  unfold setV
  go_enter Tryd.func42, Tryd.ntmps42
  go_wp2_with fail
  simp only [hr]
  generalize hW : ((w.alloc (.cells (cellsF (word N)) 31)).alloc (.cells #[.int .u64 0, .int .u64 0, .int .u64 0, .int .u64 0, .int .u64 0, .int .u64 0, .int .u64 0, .int .u64 0] 31)).alloc (.cells #[.int .u64 0, .int .u64 0, .int .u64 0, .int .u64 0, .int .u64 0, .int .u64 0, .int .u64 0, .int .u64 0] 31) = W at H0 ⊢
  clear hW
  go_loopw [16, 8, 9] (fun vc _ _ wr => ∃ c : Nat, vc = .int .i64 c ∧ c + ws ≤ 8 ∧ ShAt w N (dnTo N ws r c) wr) (fun vc _ _ _ => 8 - (intOf vc).toNat)
  case atStart => exact ⟨0, rfl, by omega, H0.out.congr (fun k _ => (dnTo_zero N ws r k).symm)⟩
  case round =>
    clear H0
    obtain ⟨c, rfl, hc, hat⟩ := hrel
    have HA : Hid _ := hat
    clear hat
    by_cases hlt : c + ws < 8
    · have hcI : (c : Int) < 8 - ws := by omega
      obtain ⟨t, htd⟩ : ∃ t, c + ws = t := ⟨_, rfl⟩
      have htI : (c : Int) + ws = (t : Int) := by omega
      have ht8 : t < 8 := by omega
      have ht8I : (t : Int) < 8 := by omega
      have hc8 : c < 8 := by omega
      have hc8I : (c : Int) < 8 := by omega
      have htw : IntKind.i64.wrap (t : Int) = t := IntWalk.i64_in _ (by omega)
      have cs := HA.out.set.get ht8
      have co := HA.out.out.get hc8
      have fo := HA.out.out.frozen c
      have HT : Hid (c + ws = t) := htd
      obtain ⟨x, hx⟩ : ∃ x, dnTo N ws r c c = x := ⟨_, rfl⟩
      have hxl := dnTo_lt N ws r c c
      rw [hx] at co hxl
      have HX : Hid _ := hx
      clear htd hx
      go_wp2_with fail
      go_region
      rw [or_shr _ _ _ hxl (word_lt N t)]
      generalize hW1 : (wr.setCell ⟨w.heap.size + 1 + 1, c, none⟩ (.int .u64 (x ||| word N t / 2 ^ r : Nat))).drew = W1
      have H1 : Hid (ShAt w N (fun j => if j = c then dnTo N ws r (c + 1) c else dnTo N ws r c j) W1) := by
        show ShAt _ _ _ _
        rw [← hW1, ← HX.out, ← HT.out]
        have := HA.out.put (x := dnTo N ws r c c ||| word N (c + ws) / 2 ^ r) hc8
        rw [dnTo_low] at this ⊢
        exact this
      clear hW1 cs co fo HA hxl
      by_cases h7 : 0 < c
      · obtain ⟨u, rfl⟩ : ∃ u, c = u + 1 := ⟨c - 1, by omega⟩
        have huI : ((u + 1 : Nat) : Int) - 1 = (u : Int) := by omega
        have h7I : (0 : Int) < ((u + 1 : Nat) : Int) := by omega
        have hu8 : u < 8 := by omega
        have hu8I : (u : Int) < 8 := by omega
        have huw : IntKind.i64.wrap (u : Int) = u := IntWalk.i64_in _ (by omega)
        have cs := H1.out.set.get ht8
        have co := H1.out.out.get hu8
        have fo := H1.out.out.frozen u
        rw [if_neg (show ¬ u = u + 1 by omega)] at co
        obtain ⟨y, hy⟩ : ∃ y, dnTo N ws r (u + 1) u = y := ⟨_, rfl⟩
        have hyl := dnTo_lt N ws r (u + 1) u
        rw [hy] at co hyl
        have HY : Hid _ := hy
        clear hy h7
        go_wp2_with fail
        go_region
        rw [or_shl _ _ _ hyl]
        generalize hW2 : (W1.setCell ⟨w.heap.size + 1 + 1, u, none⟩ (.int .u64 (y ||| word N t * 2 ^ m % 18446744073709551616 : Nat))).drew = W2
        have H2 : Hid (ShAt w N (dnTo N ws r (u + 1 + 1)) W2) := by
          show ShAt _ _ _ _
          rw [← hW2, ← HY.out, ← HM.out, ← HT.out]
          refine (H1.out.put (x := dnTo N ws r (u + 1) u ||| word N (u + 1 + ws) * 2 ^ (64 - r) % 18446744073709551616) hu8).congr ?_
          intro k hk
          by_cases k1 : k = u
          · rw [if_pos k1, k1, dnTo_high]
          · rw [if_neg k1]
            by_cases k2 : k = u + 1
            · rw [if_pos k2, k2]
            · rw [if_neg k2]
              exact (dnTo_else N ws r (u + 1) k (by omega) (by omega)).symm
        clear hW2 cs co fo H1 hyl
        go_wp2_with fail
        go_roundw
        case rel => exact ⟨u + 1 + 1, by go_num, by omega, H2.out⟩
        case measure => simp [intOf]; omega
      · have hc0 : c = 0 := by omega
        have h7I : ¬ (0 : Int) < (c : Int) := by omega
        have H2 : Hid (ShAt w N (dnTo N ws r (c + 1)) W1) := by
          refine H1.out.congr ?_
          intro k hk
          by_cases k2 : k = c
          · rw [if_pos k2, k2]
          · rw [if_neg k2, dnTo_else _ _ _ _ _ (by omega) (by omega)]
        clear H1 hc0
        go_wp2_with fail
        go_roundw
        case rel => exact ⟨c + 1, by go_num, by omega, H2.out⟩
        case measure => simp [intOf]; omega
    · have hcI : ¬ (c : Int) < 8 - ws := by omega
      obtain ⟨d0, d1, d2, d3, d4, d5, d6, d7⟩ := (HA.out.res).gets
      have f0 := (HA.out.res).frozen 0
      have f1 := (HA.out.res).frozen 1
      have f2 := (HA.out.res).frozen 2
      have f3 := (HA.out.res).frozen 3
      have f4 := (HA.out.res).frozen 4
      have f5 := (HA.out.res).frozen 5
      have f6 := (HA.out.res).frozen 6
      have f7 := (HA.out.res).frozen 7
      obtain ⟨c0, c1, c2, c3, c4, c5, c6, c7⟩ := HA.out.out.gets
      go_wp2_with fail
      obtain ⟨h8, hB⟩ := st8 HA.out.res HA.out.below (by omega) (dnTo N ws r c) rfl rfl rfl rfl rfl rfl rfl rfl
      refine bodyPost_ret (results_set rfl rfl h8) rfl ⟨?_, hB⟩
      refine ret_one fun k _ => ?_
      rw [show c = 8 - ws by omega, HN.out]
      exact dnTo_end N ws r hN hr64 hws k

/-- What Shift answers. -/
def shiftN (N : Nat) (n : Int) : Nat := if 512 ≤ n ∨ n ≤ -512 then 0 else if n < 0 then downN N (-n).toNat else upN N n.toNat
theorem fits_zero : Fits 0 := fun i _ => Nat.zero_testBit i
theorem fits_shift {N : Nat} (hN : Fits N) (n : Int) : Fits (shiftN N n) := by
  unfold shiftN
  split
  · exact fits_zero
  · split
    · exact fits_down hN _
    · exact fits_up N _

set_option maxHeartbeats 4000000 in
set_option maxRecDepth 100000 in
theorem shift_any (N : Nat) (hN : Fits N) (n : Int) (w : World) :
    Calls Tryd.prog 24 #[setV N, .int .i64 n] w fun e w' => e = .returned (setV (shiftN N n)) ∧ Below w.heap.size w w' := by
  have H0 : Hid (PutAt w (word N) ((w.alloc (.cells (cellsF (word N)) 31)).alloc (.cells #[.int .u64 0, .int .u64 0, .int .u64 0, .int .u64 0, .int .u64 0, .int .u64 0, .int .u64 0, .int .u64 0] 31))) := PutAt.start w N
  unfold setV cellsF
  unfold cellsF at H0
  by_cases hbig : 512 ≤ n ∨ n ≤ -512
  · have HS : Hid (shiftN N n = 0) := by show shiftN N n = 0; rw [shiftN, if_pos hbig]
    by_cases h5 : 512 ≤ n
    all_goals
      first
        | (have h6 : n ≤ -512 := by omega)
        | skip
      clear hbig
      go_enter Tryd.func24, Tryd.ntmps24
      go_wp2_with fail
      refine bodyPost_ret (results_set rfl rfl H0.out.res) rfl ⟨?_, H0.out.below⟩
      rw [HS.out]
      exact ret_one (fun k _ => by simp [word])
  · have h5 : ¬ 512 ≤ n := by omega
    have h6 : ¬ n ≤ -512 := by omega
    clear hbig
    by_cases hneg : n < 0
    · obtain ⟨m, hm⟩ : ∃ m : Nat, -n = m := ⟨(-n).toNat, by omega⟩
      have hm5 : m < 512 := by omega
      have HS : Hid (shiftN N n = downN N m) := by show shiftN N n = downN N m; rw [shiftN, if_neg (by omega), if_pos hneg, hm, Int.toNat_natCast]
      go_enter Tryd.func24, Tryd.ntmps24
      go_wp2_with fail
      try rw [hm]
      refine (shiftDown_any N m hN hm5 _).mono ?_
      rintro e W ⟨rfl, hb⟩
      have H1 : Hid (PutAt w (word N) W) := H0.out.stay hb
      clear hb H0
      unfold setV cellsF
      obtain ⟨d0, d1, d2, d3, d4, d5, d6, d7⟩ := (H1.out.res).gets
      have f0 := (H1.out.res).frozen 0
      have f1 := (H1.out.res).frozen 1
      have f2 := (H1.out.res).frozen 2
      have f3 := (H1.out.res).frozen 3
      have f4 := (H1.out.res).frozen 4
      have f5 := (H1.out.res).frozen 5
      have f6 := (H1.out.res).frozen 6
      have f7 := (H1.out.res).frozen 7
      go_wp2_with fail
      obtain ⟨h8, hB⟩ := st8 H1.out.res H1.out.below (by omega) (word (downN N m)) rfl rfl rfl rfl rfl rfl rfl rfl
      refine bodyPost_ret (results_set rfl rfl h8) rfl ⟨?_, hB⟩
      rw [HS.out]
      rfl
    · obtain ⟨m, rfl⟩ : ∃ m : Nat, n = m := ⟨n.toNat, by omega⟩
      have hm5 : m < 512 := by omega
      have HS : Hid (shiftN N m = upN N m) := by show shiftN N m = upN N m; rw [shiftN, if_neg (by omega), if_neg hneg, Int.toNat_natCast]
      go_enter Tryd.func24, Tryd.ntmps24
      go_wp2_with fail
      refine (shiftUp_any N m hm5 _).mono ?_
      rintro e W ⟨rfl, hb⟩
      have H1 : Hid (PutAt w (word N) W) := H0.out.stay hb
      clear hb H0
      unfold setV cellsF
      obtain ⟨d0, d1, d2, d3, d4, d5, d6, d7⟩ := (H1.out.res).gets
      have f0 := (H1.out.res).frozen 0
      have f1 := (H1.out.res).frozen 1
      have f2 := (H1.out.res).frozen 2
      have f3 := (H1.out.res).frozen 3
      have f4 := (H1.out.res).frozen 4
      have f5 := (H1.out.res).frozen 5
      have f6 := (H1.out.res).frozen 6
      have f7 := (H1.out.res).frozen 7
      go_wp2_with fail
      obtain ⟨h8, hB⟩ := st8 H1.out.res H1.out.below (by omega) (word (upN N m)) rfl rfl rfl rfl rfl rfl rfl rfl
      refine bodyPost_ret (results_set rfl rfl h8) rfl ⟨?_, hB⟩
      rw [HS.out]
      rfl

end Go.Proofs.YtfdkkiecibdblaaDoor
