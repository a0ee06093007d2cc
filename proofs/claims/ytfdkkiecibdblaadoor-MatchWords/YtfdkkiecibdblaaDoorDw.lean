/- Contracts of bits.With and bits.Without, and of the document's. -/
import Derived.Test.YtfdkkiecibdblaaDoorRl
import Derived.Test.YtfdkkiecibdblaaDoorBh
import Derived.Deep.DeepCutAuto
namespace Go.Proofs.YtfdkkiecibdblaaDoor
open Go.RowKit Go.Lib

/-- What With answers. -/
def withN (N : Nat) (i : Int) : Nat := if 0 ≤ i ∧ i < 512 then N ||| 2 ^ i.toNat else 0
def withoutN (N : Nat) (i : Int) : Nat := if 0 ≤ i ∧ i < 512 then butN N (2 ^ i.toNat) else 0
def oneE (i : Int) : Int := if 0 ≤ i ∧ i < 512 then 0 else 11
theorem word_but_bit (N i k : Nat) : word (butN N (2 ^ i)) k = if k = i / 64 then butN (word N k) (2 ^ (i % 64)) else word N k := by
  by_cases h : k = i / 64
  · rw [if_pos h]
    apply word_of_bits
    · apply Nat.lt_pow_two_of_testBit (n := 64)
      intro j hj
      rw [testBit_but, small_testBit (word_lt N k) hj]
      rfl
    · intro j hj
      rw [testBit_but, testBit_but, Nat.testBit_two_pow, Nat.testBit_two_pow, testBit_word]
      simp only [hj, decide_true, Bool.true_and]
      congr 2
      rw [decide_eq_decide]
      omega
  · rw [if_neg h]
    apply word_of_bits (word_lt N k)
    intro j hj
    rw [testBit_but, Nat.testBit_two_pow, testBit_word]
    have : ¬ i = 64 * k + j := by omega
    simp [this, hj]
/-- What stands behind the change of s. -/
structure ChAt (w : World) (X : Nat) (wx : World) : Prop where
  set : Cells8 wx w.heap.size (word X)
  res : Cells8 wx (w.heap.size + 1) (fun _ => 0)
  below : Below w.heap.size w wx
theorem ChAt.start (w : World) (N : Nat) : ChAt w N ((w.alloc (.cells (cellsF (word N)) 31)).alloc (.cells (cellsF (fun _ => 0)) 31)) := by
  refine ⟨(Cells8.last w _).alloc _, ?_, ((Below.refl _ _).alloc (Nat.le_refl _) _).alloc (by simp) _⟩
  have := Cells8.last (w.alloc (.cells (cellsF (word N)) 31)) (fun _ => 0)
  simpa using this
theorem ChAt.keep {w wx wy : World} {X : Nat} (h : ChAt w X wx) (hb : Below wx.heap.size wx wy) : ChAt w X wy :=
  ⟨h.set.of_heap (hb.block _ h.set.lt), h.res.of_heap (hb.block _ h.res.lt), go_on h.below hb⟩
theorem ChAt.put {w wx : World} {N X k : Nat} {v : Int} (h : ChAt w N wx) (hk : k < 8) (hv : v = (word X k : Nat)) (ho : ∀ j, j ≠ k → word X j = word N j) : ChAt w X (wx.setCell ⟨w.heap.size, k, none⟩ (.int .u64 v)).drew := by
  subst hv
  refine ⟨((h.set.set _ hk).congr ?_).drew, (h.res.other (by omega) _).drew, (h.below.setCell (p := ⟨w.heap.size, k, none⟩) (Nat.le_refl _) _).drew⟩
  intro j _
  by_cases e : j = k
  · rw [if_pos e, e]
  · rw [if_neg e, ho j e]

set_option maxHeartbeats 2000000 in
set_option maxRecDepth 100000 in
theorem with_any (N : Nat) (i : Int) (w : World) :
    Calls Tryd.prog 84 #[setV N, .int .i64 i] w fun e w' => e = .returned (.tuple #[setV (withN N i), .int .i64 (oneE i)]) ∧ Below w.heap.size w w' := by
  have HA : Hid (ChAt w N ((w.alloc (.cells (cellsF (word N)) 31)).alloc (.cells (cellsF (fun _ => 0)) 31))) := ChAt.start w N
  by_cases hin : 0 ≤ i ∧ i < 512
  · obtain ⟨m, rfl⟩ : ∃ m : Nat, i = m := ⟨i.toNat, by omega⟩
    have hd : decide (0 ≤ (m : Int) ∧ (m : Int) < 512) = true := by simpa using hin
    have hm5 : m < 512 := by omega
    have HX : Hid (withN N (m : Int) = N ||| 2 ^ m ∧ oneE (m : Int) = 0) := by
      show _ ∧ _
      unfold withN oneE
      rw [if_pos hin, if_pos hin, Int.toNat_natCast]
      exact ⟨rfl, rfl⟩
    clear hin
    unfold setV cellsF
    unfold cellsF at HA
    go_enter Tryd.func84, Tryd.ntmps84
    go_wp2_with (go_at_call 40; refine (isNumber_any _ _).mono ?_; rintro e w1 ⟨rfl, rfl⟩; rw [hd])
    generalize hW : (w.alloc (.cells #[.int .u64 (word N 0 : Nat), .int .u64 (word N 1 : Nat), .int .u64 (word N 2 : Nat), .int .u64 (word N 3 : Nat), .int .u64 (word N 4 : Nat), .int .u64 (word N 5 : Nat), .int .u64 (word N 6 : Nat), .int .u64 (word N 7 : Nat)] 31)).alloc (.cells #[.int .u64 0, .int .u64 0, .int .u64 0, .int .u64 0, .int .u64 0, .int .u64 0, .int .u64 0, .int .u64 0] 31) = W
    have HB : Hid (ChAt w N W) := by
      show ChAt w N W
      rw [← hW]
      exact HA.out
    clear hW HA
    obtain ⟨k, hkd⟩ : ∃ k, m / 64 = k := ⟨_, rfl⟩
    have hk : k < 8 := by omega
    have hkI : (k : Int) < 8 := by omega
    have hq : (m : Int).tdiv 64 = k := by rw [Int.tdiv_eq_ediv_of_nonneg (by omega)]; omega
    have hw : IntKind.i64.wrap (k : Int) = k := IntWalk.i64_in _ (by omega)
    have hc := HB.out.set.get hk
    have hf := HB.out.set.frozen k
    have HN : Hid _ := HB.out.put (X := N ||| 2 ^ m) hk (v := bits .or .u64 (word N k : Nat) (2 ^ (m % 64)))
      (by rw [or_u64 (word N k) (2 ^ (m % 64)) rfl (by simp) (word_lt _ _) (two_pow_lt _ (by omega)), word_or_bit, if_pos hkd.symm]) (fun j hj => by rw [word_or_bit, if_neg (by omega)])
    have HK : Hid (m / 64 = k) := hkd
    clear hkd hd
    go_cut [17] (fun _ wx => ChAt w (N ||| 2 ^ m) wx)
    case first =>
      go_region_with (go_at_call 41; refine (bitOf_any m hm5 _).mono ?_; rintro e w1 ⟨rfl, rfl⟩)
      all_goals (go_wp2_with fail; go_meet; exact HN.out)
    case rest =>
      have HC : Hid (ChAt w (N ||| 2 ^ m) wc) := hcut
      clear hcut hc hf
      obtain ⟨c0, c1, c2, c3, c4, c5, c6, c7⟩ := HC.out.set.gets
      obtain ⟨d0, d1, d2, d3, d4, d5, d6, d7⟩ := HC.out.res.gets
      have f0 := HC.out.res.frozen 0
      have f1 := HC.out.res.frozen 1
      have f2 := HC.out.res.frozen 2
      have f3 := HC.out.res.frozen 3
      have f4 := HC.out.res.frozen 4
      have f5 := HC.out.res.frozen 5
      have f6 := HC.out.res.frozen 6
      have f7 := HC.out.res.frozen 7
      obtain ⟨X, hXd⟩ : ∃ X, N ||| 2 ^ m = X := ⟨_, rfl⟩
      rw [hXd] at HX HC c0 c1 c2 c3 c4 c5 c6 c7
      clear hXd HN
      go_wp2_with fail
      obtain ⟨h8, hB⟩ := st8 HC.out.res HC.out.below (show w.heap.size ≤ w.heap.size + 1 by omega) (word X) rfl rfl rfl rfl rfl rfl rfl rfl
      refine bodyPost_ret (results_set_tmp rfl rfl h8) rfl ⟨?_, hB⟩
      rw [HX.out.1, HX.out.2]
      rfl
  · have hd : decide (0 ≤ i ∧ i < 512) = false := by simpa using hin
    have HX : Hid (withN N i = 0 ∧ oneE i = 11) := by
      show _ ∧ _
      unfold withN oneE
      rw [if_neg hin, if_neg hin]
      exact ⟨rfl, rfl⟩
    clear hin
    unfold setV cellsF
    unfold cellsF at HA
    go_enter Tryd.func84, Tryd.ntmps84
    go_wp2_with (go_at_call 40; refine (isNumber_any _ _).mono ?_; rintro e w1 ⟨rfl, rfl⟩; rw [hd])
    refine bodyPost_ret (results_set_tmp rfl rfl (f := fun _ => 0) HA.out.res) rfl ⟨?_, HA.out.below⟩
    rw [HX.out.1, HX.out.2]
    exact ret_set (fun k _ => by simp [word])

set_option maxHeartbeats 2000000 in
set_option maxRecDepth 100000 in
theorem without_any (N : Nat) (i : Int) (w : World) :
    Calls Tryd.prog 82 #[setV N, .int .i64 i] w fun e w' => e = .returned (.tuple #[setV (withoutN N i), .int .i64 (oneE i)]) ∧ Below w.heap.size w w' := by
  have HA : Hid (ChAt w N ((w.alloc (.cells (cellsF (word N)) 31)).alloc (.cells (cellsF (fun _ => 0)) 31))) := ChAt.start w N
  by_cases hin : 0 ≤ i ∧ i < 512
  · obtain ⟨m, rfl⟩ : ∃ m : Nat, i = m := ⟨i.toNat, by omega⟩
    have hd : decide (0 ≤ (m : Int) ∧ (m : Int) < 512) = true := by simpa using hin
    have hm5 : m < 512 := by omega
    have HX : Hid (withoutN N (m : Int) = butN N (2 ^ m) ∧ oneE (m : Int) = 0) := by
      show _ ∧ _
      unfold withoutN oneE
      rw [if_pos hin, if_pos hin, Int.toNat_natCast]
      exact ⟨rfl, rfl⟩
    clear hin
    unfold setV cellsF
    unfold cellsF at HA
    go_enter Tryd.func82, Tryd.ntmps82
    go_wp2_with (go_at_call 40; refine (isNumber_any _ _).mono ?_; rintro e w1 ⟨rfl, rfl⟩; rw [hd])
    generalize hW : (w.alloc (.cells #[.int .u64 (word N 0 : Nat), .int .u64 (word N 1 : Nat), .int .u64 (word N 2 : Nat), .int .u64 (word N 3 : Nat), .int .u64 (word N 4 : Nat), .int .u64 (word N 5 : Nat), .int .u64 (word N 6 : Nat), .int .u64 (word N 7 : Nat)] 31)).alloc (.cells #[.int .u64 0, .int .u64 0, .int .u64 0, .int .u64 0, .int .u64 0, .int .u64 0, .int .u64 0, .int .u64 0] 31) = W
    have HB : Hid (ChAt w N W) := by
      show ChAt w N W
      rw [← hW]
      exact HA.out
    clear hW HA
    obtain ⟨k, hkd⟩ : ∃ k, m / 64 = k := ⟨_, rfl⟩
    have hk : k < 8 := by omega
    have hkI : (k : Int) < 8 := by omega
    have hq : (m : Int).tdiv 64 = k := by rw [Int.tdiv_eq_ediv_of_nonneg (by omega)]; omega
    have hw : IntKind.i64.wrap (k : Int) = k := IntWalk.i64_in _ (by omega)
    have hc := HB.out.set.get hk
    have hf := HB.out.set.frozen k
    have HN : Hid _ := HB.out.put (X := butN N (2 ^ m)) hk (v := bits .andNot .u64 (word N k : Nat) (2 ^ (m % 64)))
      (by rw [show (2 : Int) ^ (m % 64) = ((2 ^ (m % 64) : Nat) : Int) by simp, bits_andNot_u64_nat _ _ (word_lt _ _) (two_pow_lt _ (by omega)), word_but_bit, if_pos hkd.symm]) (fun j hj => by rw [word_but_bit, if_neg (by omega)])
    have HK : Hid (m / 64 = k) := hkd
    clear hkd hd
    go_cut [17] (fun _ wx => ChAt w (butN N (2 ^ m)) wx)
    case first =>
      go_region_with (go_at_call 41; refine (bitOf_any m hm5 _).mono ?_; rintro e w1 ⟨rfl, rfl⟩)
      all_goals (go_wp2_with fail; go_meet; exact HN.out)
    case rest =>
      have HC : Hid (ChAt w (butN N (2 ^ m)) wc) := hcut
      clear hcut hc hf
      obtain ⟨c0, c1, c2, c3, c4, c5, c6, c7⟩ := HC.out.set.gets
      obtain ⟨d0, d1, d2, d3, d4, d5, d6, d7⟩ := HC.out.res.gets
      have f0 := HC.out.res.frozen 0
      have f1 := HC.out.res.frozen 1
      have f2 := HC.out.res.frozen 2
      have f3 := HC.out.res.frozen 3
      have f4 := HC.out.res.frozen 4
      have f5 := HC.out.res.frozen 5
      have f6 := HC.out.res.frozen 6
      have f7 := HC.out.res.frozen 7
      obtain ⟨X, hXd⟩ : ∃ X, butN N (2 ^ m) = X := ⟨_, rfl⟩
      rw [hXd] at HX HC c0 c1 c2 c3 c4 c5 c6 c7
      clear hXd HN
      go_wp2_with fail
      obtain ⟨h8, hB⟩ := st8 HC.out.res HC.out.below (show w.heap.size ≤ w.heap.size + 1 by omega) (word X) rfl rfl rfl rfl rfl rfl rfl rfl
      refine bodyPost_ret (results_set_tmp rfl rfl h8) rfl ⟨?_, hB⟩
      rw [HX.out.1, HX.out.2]
      rfl
  · have hd : decide (0 ≤ i ∧ i < 512) = false := by simpa using hin
    have HX : Hid (withoutN N i = 0 ∧ oneE i = 11) := by
      show _ ∧ _
      unfold withoutN oneE
      rw [if_neg hin, if_neg hin]
      exact ⟨rfl, rfl⟩
    clear hin
    unfold setV cellsF
    unfold cellsF at HA
    go_enter Tryd.func82, Tryd.ntmps82
    go_wp2_with (go_at_call 40; refine (isNumber_any _ _).mono ?_; rintro e w1 ⟨rfl, rfl⟩; rw [hd])
    refine bodyPost_ret (results_set_tmp rfl rfl (f := fun _ => 0) HA.out.res) rfl ⟨?_, HA.out.below⟩
    rw [HX.out.1, HX.out.2]
    exact ret_set (fun k _ => by simp [word])

theorem with_lst {N : Nat} (hN : Fits N) (i : Int) : ofN (lst N 512 ++ [i]) = withN N i ∧ ofE (lst N 512 ++ [i]) = oneE i := by
  have e0 : (lst N 512).all inSet = true := by
    rw [List.all_eq_true]
    intro x hx
    obtain ⟨j, hj, _, rfl⟩ := mem_lst.1 hx
    simp [inSet]
    omega
  have hL := (of_lst hN).1
  rw [ofN, if_pos e0] at hL
  unfold ofN ofE withN oneE
  by_cases h : 0 ≤ i ∧ i < 512
  · have e1 : (lst N 512 ++ [i]).all inSet = true := by
      rw [List.all_append, e0]
      simpa [inSet] using h
    rw [if_pos e1, if_pos e1, if_pos h, if_pos h]
    refine ⟨?_, rfl⟩
    unfold ofL at hL ⊢
    rw [List.foldl_append, hL]
    rfl
  · have e1 : ¬ (lst N 512 ++ [i]).all inSet = true := by
      rw [List.all_append, e0]
      simp [inSet]
      omega
    rw [if_neg e1, if_neg e1, if_neg h, if_neg h]
    exact ⟨rfl, rfl⟩
theorem without_lst {N : Nat} (hN : Fits N) (m : Nat) : ofN ((lst N 512).filter fun x => decide (x ≠ (m : Int))) = butN N (2 ^ m) ∧ ofE ((lst N 512).filter fun x => decide (x ≠ (m : Int))) = 0 := by
  have e1 : ((lst N 512).filter fun x => decide (x ≠ (m : Int))).all inSet = true := by
    rw [List.all_eq_true]
    intro x hx
    obtain ⟨j, hj, _, rfl⟩ := mem_lst.1 (List.mem_filter.1 hx).1
    simp [inSet]
    omega
  unfold ofN ofE
  rw [if_pos e1, if_pos e1]
  refine ⟨?_, rfl⟩
  apply Nat.eq_of_testBit_eq
  intro i
  rw [testBit_ofL, testBit_but, Nat.testBit_two_pow, Bool.eq_iff_iff, decide_eq_true_iff]
  constructor
  · rintro ⟨x, hx, rfl⟩
    obtain ⟨h1, h2⟩ := List.mem_filter.1 hx
    obtain ⟨j, _, h3, rfl⟩ := mem_lst.1 h1
    rw [Int.toNat_natCast, h3]
    simp at h2 ⊢
    omega
  · intro h
    rw [Bool.and_eq_true] at h
    have hi : i < 512 := by
      by_cases hi : i < 512
      · exact hi
      · rw [hN i (by omega)] at h; simp at h
    refine ⟨(i : Int), List.mem_filter.2 ⟨mem_lst.2 ⟨i, hi, h.1, rfl⟩, ?_⟩, Int.toNat_natCast i⟩
    have h2 := h.2
    simp at h2 ⊢
    omega

end Go.Proofs.YtfdkkiecibdblaaDoor
