/- Contracts of the document's Has and Of. -/
import Derived.Test.YthjkfpgocidpeaaDoorBh
import Derived.BigRegion
namespace Go.Proofs.YthjkfpgocidpeaaDoor
open Go.RowKit

theorem rhas_bit (N m k l : Nat) (hk : m / 64 = k) (hl : m % 64 = l) : ((bits .and .u64 ((word N k : Nat) / 2 ^ l : Int) 1) == 1) = N.testBit m := by
  have h64 : l < 64 := by omega
  have e : 64 * k + l = m := by omega
  have hb : (word N k).testBit l = N.testBit m := by rw [testBit_word, e, decide_eq_true h64, Bool.true_and]
  have h1 : bits .and .u64 ((word N k : Nat) / 2 ^ l : Int) 1 = ((word N k / 2 ^ l &&& 1 : Nat) : Int) := and_u64 _ 1 (shr_cast _ _) rfl (shr_lt (word_lt N k)) (by decide)
  rw [h1, ← hb, Nat.testBit_eq_decide_div_mod_eq, Nat.and_one_is_mod, Bool.eq_iff_iff]
  simp only [beq_iff_eq, decide_eq_true_eq]
  omega

set_option maxHeartbeats 2000000 in
set_option maxRecDepth 100000 in
theorem rhas_any (N : Nat) (i : Int) (w : World) :
    Calls Tryd.prog 15 #[setV N, .int .i64 i] w fun e w' => e = .returned (.bool (hasN N i)) ∧ Below w.heap.size w w' := by
  unfold setV
  by_cases h0 : 0 ≤ i
  · by_cases h5 : i < 512
    · obtain ⟨m, rfl⟩ : ∃ m : Nat, i = m := ⟨i.toNat, by omega⟩
      have hm5 : m < 512 := by omega
      have hk : m / 64 < 8 := by omega
      have hc := (Cells8.last w (word N)).get hk
      have HB : Hid (((bits .and .u64 ((word N (m / 64) : Nat) / 2 ^ (m % 64) : Int) 1) == 1) = hasN N m) := by
        show _ = hasN N m
        rw [rhas_bit N m _ _ rfl rfl, hasN, decide_eq_true (by omega), Bool.true_and, Int.toNat_natCast]
      go_enter Tryd.func15, Tryd.ntmps15
      go_wp2_with fail
      go_ret
      exact ⟨ret_bool HB.out, (Below.refl _ _).alloc (Nat.le_refl _) _⟩
    · have HE : Hid (hasN N i = false) := by show hasN N i = false; rw [hasN, decide_eq_false (by omega), Bool.false_and]
      go_enter Tryd.func15, Tryd.ntmps15
      go_wp2_with fail
      go_ret
      exact ⟨ret_bool HE.out.symm, (Below.refl _ _).alloc (Nat.le_refl _) _⟩
  · have HE : Hid (hasN N i = false) := by show hasN N i = false; rw [hasN, decide_eq_false (by omega), Bool.false_and]
    go_enter Tryd.func15, Tryd.ntmps15
    go_wp2_with fail
    go_ret
    exact ⟨ret_bool HE.out.symm, (Below.refl _ _).alloc (Nat.le_refl _) _⟩

set_option maxHeartbeats 2000000 in
set_option maxRecDepth 100000 in
theorem rof_any (v : Value) (xs : List Int) (w : World) (hv : Reads w v xs) (hm : xs.length ≤ 9223372036854775806) :
    Calls Tryd.prog 8 #[v] w fun e w' => e = .returned (.tuple #[setV (ofN xs), .int .i64 (ofE xs)]) ∧ Below w.heap.size w w' := by
  obtain ⟨a, cap, rfl, hr⟩ := hv
  have HR : Hid _ := hr
  clear hr
  have H0 : Hid (OfAt w xs 0 ((w.alloc (.cells (cellsF (fun _ => 0)) 25)).alloc (.cells (cellsF (fun _ => 0)) 25))) :=
    ⟨fun j hj => by omega, (Cells8.last w _).alloc _, by
      have := (Cells8.last (w.alloc (.cells (cellsF (fun _ => 0)) 25)) (fun _ => 0)).congr (g := word (ofL (xs.take 0))) (fun k _ => by simp [ofL, word])
      simpa using this, ((Below.refl _ _).alloc (Nat.le_refl _) _).alloc (by simp) _⟩
  unfold cellsF at H0
  go_enter Tryd.func8, Tryd.ntmps8
  go_wp2_with fail
  go_loopw [5] (fun vi wr => ∃ i : Nat, vi = .int .i64 i ∧ i ≤ xs.length ∧ OfAt w xs i wr) (fun vi _ => xs.length - (intOf vi).toNat)
  case atStart => exact ⟨0, rfl, Nat.zero_le _, H0.out⟩
  case round =>
    obtain ⟨i, rfl, hi, hat⟩ := hrel
    clear H0
    have HA : Hid (OfAt w xs i wr) := hat
    clear hat
    by_cases hlt : i < xs.length
    · obtain ⟨g, o, rfl, hg, hcell⟩ := HR.out i hlt
      obtain ⟨x, hx⟩ : ∃ x, xs.getD i 0 = x := ⟨_, rfl⟩
      rw [hx, ← below_cell HA.out.below hg] at hcell
      have HX : Hid (xs.getD i 0 = x) := hx
      clear hx
      have hiI : (i : Int) < xs.length := by omega
      by_cases hin : 0 ≤ x ∧ x < 512
      · obtain ⟨m, rfl⟩ : ∃ m : Nat, x = m := ⟨x.toNat, by omega⟩
        obtain ⟨hin1, hin2⟩ := hin
        have hm5 : m < 512 := by omega
        have hl0 : ¬ (m : Int) < 0 := by omega
        go_wp2_with fail
        obtain ⟨k, hkd⟩ : ∃ k, m / 64 = k := ⟨_, rfl⟩
        obtain ⟨l, hld⟩ : ∃ l, m % 64 = l := ⟨_, rfl⟩
        have hk : k < 8 := by omega
        have hkI : (k : Int) < 8 := by omega
        have hl : l < 64 := by omega
        have hq : (m : Int).tdiv 64 = k := by rw [Int.tdiv_eq_ediv_of_nonneg (by omega)]; omega
        have hr : (m : Int).tmod 64 = l := by rw [Int.tmod_eq_emod_of_nonneg (by omega)]; omega
        have hw : IntKind.i64.wrap (k : Int) = k := IntWalk.i64_in _ (by omega)
        have hwl : IntKind.i64.wrap (l : Int) = l := IntWalk.i64_in _ (by omega)
        have hwu : IntKind.u64.wrap (l : Int) = l := wrap_nat l (by omega)
        have hc := HA.out.out.get hk
        have hf := HA.out.out.frozen k
        have HN := HA.out.next hlt HX.out hm5 hkd
        rw [hld] at HN
        have HNH : Hid _ := HN
        clear HN hkd hld
        go_region
        have hw2 : IntKind.u64.wrap ((2 : Int) ^ l) = 2 ^ l := by
          have := wrap_nat (2 ^ l) (two_pow_lt _ hl)
          simpa using this
        rw [hw2]
        go_wp2_with fail
        go_roundw
        case rel => exact ⟨i + 1, by go_num, by omega, HNH.out⟩
        case measure => simp [intOf]; omega
      · obtain ⟨c0, c1, c2, c3, c4, c5, c6, c7⟩ := HA.out.res.gets
        have f0 := HA.out.res.frozen 0
        have f1 := HA.out.res.frozen 1
        have f2 := HA.out.res.frozen 2
        have f3 := HA.out.res.frozen 3
        have f4 := HA.out.res.frozen 4
        have f5 := HA.out.res.frozen 5
        have f6 := HA.out.res.frozen 6
        have f7 := HA.out.res.frozen 7
        have e1 : ofN xs = 0 ∧ ofE xs = 11 := of_bad hlt HX.out hin
        have HE : Hid _ := e1
        clear e1
        by_cases hn : x < 0
        · clear hin
          go_wp2_with fail
          obtain ⟨h8, hB⟩ := st8 HA.out.res HA.out.below (Nat.le_refl _) (fun _ => 0) rfl rfl rfl rfl rfl rfl rfl rfl
          refine bodyPost_ret (results_set_tmp rfl rfl h8) rfl ⟨?_, hB⟩
          rw [HE.out.1, HE.out.2]
          exact ret_set (fun k _ => by simp [word])
        · have hge : 512 ≤ x := by omega
          clear hin
          go_wp2_with fail
          obtain ⟨h8, hB⟩ := st8 HA.out.res HA.out.below (Nat.le_refl _) (fun _ => 0) rfl rfl rfl rfl rfl rfl rfl rfl
          refine bodyPost_ret (results_set_tmp rfl rfl h8) rfl ⟨?_, hB⟩
          rw [HE.out.1, HE.out.2]
          exact ret_set (fun k _ => by simp [word])
    · have hiI : ¬ (i : Int) < xs.length := by omega
      obtain ⟨c0, c1, c2, c3, c4, c5, c6, c7⟩ := HA.out.res.gets
      have f0 := HA.out.res.frozen 0
      have f1 := HA.out.res.frozen 1
      have f2 := HA.out.res.frozen 2
      have f3 := HA.out.res.frozen 3
      have f4 := HA.out.res.frozen 4
      have f5 := HA.out.res.frozen 5
      have f6 := HA.out.res.frozen 6
      have f7 := HA.out.res.frozen 7
      obtain ⟨d0, d1, d2, d3, d4, d5, d6, d7⟩ := HA.out.out.gets
      go_wp2_with fail
      have hil : i = xs.length := by omega
      have e1 : ofN xs = ofL (xs.take i) ∧ ofE xs = 0 := of_good hil HA.out.all
      obtain ⟨h8, hB⟩ := st8 HA.out.res HA.out.below (Nat.le_refl _) (word (ofL (xs.take i))) rfl rfl rfl rfl rfl rfl rfl rfl
      refine bodyPost_ret (results_set_tmp rfl rfl h8) rfl ⟨?_, hB⟩
      rw [e1.1, e1.2]
      rfl

end Go.Proofs.YthjkfpgocidpeaaDoor
