/- Contracts of bits.Below and bits.Compare. -/
import Derived.Test.YtneiegbodnalbaaBt
import Derived.BigQuiet
namespace Go.Proofs.Ytneiegbodnalbaa
open Go.RowKit

/-- All numbers below n. -/
def allN (n : Nat) : Nat := 2 ^ n - 1
theorem testBit_all (n i : Nat) : (allN n).testBit i = decide (i < n) := Nat.testBit_two_pow_sub_one n i
def belowN (n : Int) : Nat := if n < 0 ∨ 512 < n then 0 else allN n.toNat
def belowE (n : Int) : Int := if n < 0 ∨ 512 < n then 11 else 0
theorem word_all (n k : Nat) : word (allN n) k = 2 ^ (min ((n : Int) - (k : Int) * 64).toNat 64) - 1 := by
  apply word_of_bits (ones_lt (by omega))
  intro j hj
  rw [testBit_all, Nat.testBit_two_pow_sub_one, decide_eq_decide]
  omega
theorem fits_all {n : Nat} (h : n ≤ 512) : Fits (allN n) := fun i hi => by rw [testBit_all, decide_eq_false (by omega)]
/-- What stands in the loop of Below. -/
structure BeAt (w : World) (f : Nat → Nat) (wr : World) : Prop where
  res : Cells8 wr w.heap.size (fun _ => 0)
  out : Cells8 wr (w.heap.size + 1) f
  below : Below w.heap.size w wr
theorem BeAt.start (w : World) : BeAt w (fun _ => 0) ((w.alloc (.cells #[.int .u64 0, .int .u64 0, .int .u64 0, .int .u64 0, .int .u64 0, .int .u64 0, .int .u64 0, .int .u64 0] 55)).alloc (.cells #[.int .u64 0, .int .u64 0, .int .u64 0, .int .u64 0, .int .u64 0, .int .u64 0, .int .u64 0, .int .u64 0] 55)) := by
  have e : (cellsF fun _ => 0) = #[.int .u64 0, .int .u64 0, .int .u64 0, .int .u64 0, .int .u64 0, .int .u64 0, .int .u64 0, .int .u64 0] := rfl
  rw [← e]
  refine ⟨(Cells8.last w _).alloc _, ?_, ((Below.refl _ _).alloc (Nat.le_refl _) _).alloc (by simp) _⟩
  have := Cells8.last (w.alloc (.cells (cellsF fun _ => 0) 55)) (fun _ => 0)
  simpa using this
theorem BeAt.put {w wr : World} {k x : Nat} {f : Nat → Nat} (h : BeAt w f wr) (hk : k < 8) : BeAt w (fun j => if j = k then x else f j) (wr.setCell ⟨w.heap.size + 1, k, none⟩ (.int .u64 (x : Nat))) :=
  ⟨h.res.other (by omega) _, h.out.set x hk, h.below.setCell (p := ⟨w.heap.size + 1, k, none⟩) (by simp) _⟩
theorem BeAt.congr {w wr : World} {f g : Nat → Nat} (h : BeAt w f wr) (e : ∀ k, k < 8 → f k = g k) : BeAt w g wr := ⟨h.res, h.out.congr e, h.below⟩
theorem zero_cells : (cellsF fun _ => 0) = #[.int .u64 0, .int .u64 0, .int .u64 0, .int .u64 0, .int .u64 0, .int .u64 0, .int .u64 0, .int .u64 0] := rfl

set_option maxHeartbeats 4000000 in
set_option maxRecDepth 100000 in
theorem below_any (n : Int) (w : World) :
    Calls Try.prog 81 #[.int .i64 n] w fun e w' => e = .returned (.tuple #[setV (belowN n), .int .i64 (belowE n)]) ∧ Below w.heap.size w w' := by
  by_cases hbad : n < 0 ∨ 512 < n
  · have HE : Hid (belowN n = 0 ∧ belowE n = 11) := ⟨by rw [belowN, if_pos hbad], by rw [belowE, if_pos hbad]⟩
    have H8 : Hid (Cells8 (w.alloc (.cells #[.int .u64 0, .int .u64 0, .int .u64 0, .int .u64 0, .int .u64 0, .int .u64 0, .int .u64 0, .int .u64 0] 55)) w.heap.size (fun _ => 0)) := Cells8.last w (fun _ => 0)
    by_cases h0 : n < 0
    all_goals
      first
        | (have h5 : 512 < n := by omega)
        | skip
      clear hbad
      go_enter Try.func81, Try.ntmps81
      go_wp2_with fail
      refine bodyPost_ret (results_set_tmp rfl rfl H8.out) rfl ⟨?_, (Below.refl _ _).alloc (Nat.le_refl _) _⟩
      rw [HE.out.1, HE.out.2]
      exact ret_set (fun k _ => by simp [word])
  · obtain ⟨m, rfl⟩ : ∃ m : Nat, n = m := ⟨n.toNat, by omega⟩
    have h0 : ¬ (m : Int) < 0 := by omega
    have h5 : ¬ (512 : Int) < m := by omega
    have h5N : m ≤ 512 := by omega
    have HE : Hid (belowN m = allN m ∧ belowE m = 0) := ⟨by rw [belowN, if_neg hbad, Int.toNat_natCast], by rw [belowE, if_neg hbad]⟩
    have H0 : Hid _ := BeAt.start w
    clear hbad
    go_enter Try.func81, Try.ntmps81
    go_wp2_with fail
    generalize hW : (w.alloc (.cells #[.int .u64 0, .int .u64 0, .int .u64 0, .int .u64 0, .int .u64 0, .int .u64 0, .int .u64 0, .int .u64 0] 55)).alloc (.cells #[.int .u64 0, .int .u64 0, .int .u64 0, .int .u64 0, .int .u64 0, .int .u64 0, .int .u64 0, .int .u64 0] 55) = W at H0 ⊢
    clear hW
    go_loopw [13, 5] (fun vc _ wr => ∃ c : Nat, vc = .int .i64 c ∧ c ≤ 8 ∧ BeAt w (fun k => if k < c then word (allN m) k else 0) wr) (fun vc _ _ => 8 - (intOf vc).toNat)
    case atStart => exact ⟨0, rfl, by omega, H0.out.congr (fun k _ => by rw [if_neg (by omega)])⟩
    case round =>
      clear H0
      obtain ⟨c, rfl, hc, hat⟩ := hrel
      have HA : Hid _ := hat
      clear hat
      by_cases hlt : c < 8
      · have hcI : (c : Int) < 8 := by omega
        have co := HA.out.out.get hlt
        have fo := HA.out.out.frozen c
        have HX : Hid (((2 ^ (min ((m : Int) - (c : Int) * 64).toNat 64) - 1 : Nat) : Int) = (word (allN m) c : Nat)) := by
          show _ = _
          rw [word_all]
        go_wp2_with (go_at_call 96; refine (lowOnes_any _ (by omega) _).mono ?_; rintro e w1 ⟨rfl, rfl⟩; rw [HX.out])
        go_roundw
        case rel => exact ⟨c + 1, by go_num, by omega, (HA.out.put hlt).congr (fun k hk => by
          by_cases k1 : k = c
          · rw [if_pos k1, if_pos (by omega), k1]
          · rw [if_neg k1]
            by_cases k2 : k < c
            · rw [if_pos k2, if_pos (by omega)]
            · rw [if_neg k2, if_neg (by omega)])⟩
        case measure => simp [intOf]; omega
      · have hcI : ¬ (c : Int) < 8 := by omega
        obtain ⟨d0, d1, d2, d3, d4, d5, d6, d7⟩ := (HA.out.res).gets
        have f0 := (HA.out.res).frozen 0
        have f1 := (HA.out.res).frozen 1
        have f2 := (HA.out.res).frozen 2
        have f3 := (HA.out.res).frozen 3
        have f4 := (HA.out.res).frozen 4
        have f5 := (HA.out.res).frozen 5
        have f6 := (HA.out.res).frozen 6
        have f7 := (HA.out.res).frozen 7
        obtain ⟨c0, c1, c2, c3, c4, c5, c6, c7⟩ := (HA.out.out.congr (g := word (allN m)) (fun k hk => by rw [if_pos (by omega)])).gets
        go_wp2_with fail
        obtain ⟨h8, hB⟩ := st8 HA.out.res HA.out.below (Nat.le_refl _) (word (allN m)) rfl rfl rfl rfl rfl rfl rfl rfl
        refine bodyPost_ret (results_set_tmp rfl rfl h8) rfl ⟨?_, hB⟩
        rw [HE.out.1, HE.out.2]
        rfl

end Go.Proofs.Ytneiegbodnalbaa
