/- Rh Rl Dw O1 O2 O3 O4 O5 O6, in one text. -/
import Derived.Test.YtneiegbodnalbaaW1
import Derived.BigRegion
import Derived.Lib.UnsafeStr
import Derived.Deep.RegionWith
import Derived.Laws.IdiomStrings
import Derived.Maps.AppendAt
import Derived.Test.YtneiegbodnalbaaBr
import Derived.Deep.DeepCutAuto
import Derived.Test.YtneiegbodnalbaaBm
import Derived.Test.YtneiegbodnalbaaBe
import Derived.Test.YtneiegbodnalbaaE8
import Derived.Deep.RegionHeld
import Derived.Test.YtneiegbodnalbaaE3
import Derived.Test.YtneiegbodnalbaaBw
namespace Go.Proofs.Ytneiegbodnalbaa
open Go.RowKit

theorem rhas_bit (N m k l : Nat) (hk : m / 64 = k) (hl : m % 64 = l) : ((bits .and .u64 ((word N k : Nat) / 2 ^ l : Int) 1) == 1) = N.testBit m := by
  have h64 : l < 64 := by omega
  have e : 64 * k + l = m := by omega
  have hb : (word N k).testBit l = N.testBit m := by rw [testBit_word, e, decide_eq_true h64, Bool.true_and]
  have h1 : bits .and .u64 ((word N k : Nat) / 2 ^ l : Int) 1 = ((word N k / 2 ^ l &&& 1 : Nat) : Int) := and_u64 _ 1 (shr_cast _ _) rfl (shr_lt (word_lt N k)) (by decide)
  rw [h1, ← hb, Nat.testBit_eq_decide_div_mod_eq, Nat.and_one_is_mod, Bool.eq_iff_iff]
  simp only [beq_iff_eq, decide_eq_true_eq]
  omega

end Go.Proofs.Ytneiegbodnalbaa

namespace Go.Proofs.Ytneiegbodnalbaa
open Go.RowKit Go.Lib

theorem Try.info_intB : (Try.prog.info? 3).map (fun i => (i.zero, i.size, i.bytes)) = some (some (.int .i64 0), 1, 8) := by kernel_rfl
theorem own_shapeB {w : World} {base : Nat} {e : TypeId} {size n : Nat} {v : Value} {xs : List Value} (h : w.ownsRow base e size v n xs) : ∃ a cap, v = .slice a n cap := by
  obtain ⟨_, h⟩ := h
  rcases h with ⟨rfl, hn⟩ | ⟨g, cap, cur, rfl, _⟩
  · exact ⟨none, 0, by rw [hn]⟩
  · exact ⟨_, _, rfl⟩
theorem own_monoB {w : World} {base base' : Nat} {e : TypeId} {size n : Nat} {v : Value} {xs : List Value} (h : w.ownsRow base e size v n xs) (hb : base' ≤ base) : w.ownsRow base' e size v n xs := by
  obtain ⟨a, b⟩ := h
  refine ⟨a, ?_⟩
  rcases b with b | ⟨g, cap, cur, e, r, r2⟩
  · exact .inl b
  · exact .inr ⟨g, cap, cur, e, Nat.le_trans hb r, r2⟩
/-- A row that a call made stands behind a later call. -/
theorem own_belowB {w w' : World} {base : Nat} {e : TypeId} {size n : Nat} {v : Value} {xs : List Value} (h : w.ownsRow base e size v n xs) (hb : Below w.heap.size w w') : w'.ownsRow base e size v n xs := by
  obtain ⟨a, b⟩ := h
  refine ⟨a, ?_⟩
  rcases b with b | ⟨g, cap, cur, e1, r, r2, r3⟩
  · exact .inl b
  · exact .inr ⟨g, cap, cur, e1, r, by rw [hb.block g (Array.getElem?_eq_some_iff.1 r2).1]; exact r2, r3⟩
/-- Numbers as an int row's cells. -/
def zCB (l : List Int) : List Value := l.map fun n => Value.int .i64 n
theorem zC_appendB (a b : List Int) : zCB (a ++ b) = zCB a ++ zCB b := by simp [zCB]
theorem own_reads {w : World} {base : Nat} {v : Value} {l : List Int} (h : w.ownsRow base 3 1 v l.length (zCB l)) : Reads w v l := by
  obtain ⟨h0, h1⟩ := h
  rcases h1 with ⟨rfl, hn⟩ | ⟨g, cap, cur, rfl, r⟩
  · exact ⟨none, 0, by rw [hn], fun i hi => by omega⟩
  · have hown : w.ownsRow base 3 1 (.slice (some ⟨g, 0, none⟩) l.length cap) l.length (zCB l) := ⟨h0, .inr ⟨g, cap, cur, rfl, r⟩⟩
    refine ⟨some ⟨g, 0, none⟩, cap, rfl, fun i hi => ⟨g, 0, rfl, (Array.getElem?_eq_some_iff.1 r.2.1).1, ?_⟩⟩
    rw [Nat.zero_add, hown.cellAt i (by omega)]
    simp [zCB, hi]
/-- The numbers of N below b, rising. -/
def lstB (N b : Nat) : List Int := ((List.range b).filter fun j => N.testBit j).map fun (j : Nat) => (j : Int)
theorem lst_succ (N b : Nat) : lstB N (b + 1) = lstB N b ++ if N.testBit b then [(b : Int)] else [] := by
  unfold lstB
  rw [List.range_succ, List.filter_append, List.map_append]
  by_cases h : N.testBit b <;> simp [h]
theorem lst_length (N b : Nat) : (lstB N b).length = cnt b N := by simp [lstB, cnt]
theorem lst_le (N b : Nat) : (lstB N b).length ≤ b := by rw [lst_length]; exact cnt_le b N
theorem lst_zero (N : Nat) : lstB N 0 = [] := rfl
theorem mem_lst {N b : Nat} {x : Int} : x ∈ lstB N b ↔ ∃ j : Nat, j < b ∧ N.testBit j = true ∧ x = j := by
  unfold lstB
  simp only [List.mem_map, List.mem_filter, List.mem_range]
  constructor
  · rintro ⟨j, ⟨h1, h2⟩, rfl⟩; exact ⟨j, h1, h2, rfl⟩
  · rintro ⟨j, h1, h2, rfl⟩; exact ⟨j, ⟨h1, h2⟩, rfl⟩
/-- The set of its list is the set. -/
theorem of_lst {P : Nat} (hP : Fits P) : ofN (lstB P 512) = P ∧ ofE (lstB P 512) = 0 := by
  have e : (lstB P 512).all inSet = true := by
    rw [List.all_eq_true]
    intro x hx
    obtain ⟨j, hj, _, rfl⟩ := mem_lst.1 hx
    simp [inSet]
    omega
  refine ⟨?_, by rw [ofE, if_pos e]⟩
  rw [ofN, if_pos e]
  apply Nat.eq_of_testBit_eq
  intro i
  rw [testBit_ofL, Bool.eq_iff_iff, decide_eq_true_iff]
  constructor
  · rintro ⟨x, hx, rfl⟩
    obtain ⟨j, _, h2, rfl⟩ := mem_lst.1 hx
    rw [Int.toNat_natCast]; exact h2
  · intro h
    refine ⟨(i : Int), mem_lst.2 ⟨i, ?_, h, rfl⟩, Int.toNat_natCast i⟩
    by_cases hi : i < 512
    · exact hi
    · rw [hP i (by omega)] at h; simp at h

end Go.Proofs.Ytneiegbodnalbaa

namespace Go.Proofs.Ytneiegbodnalbaa
open Go.RowKit Go.Lib

/-- What With answers. -/
def withN (N : Nat) (i : Int) : Nat := if 0 ≤ i ∧ i < 512 then N ||| 2 ^ i.toNat else 0
def withoutN (N : Nat) (i : Int) : Nat := if 0 ≤ i ∧ i < 512 then butN N (2 ^ i.toNat) else 0
def oneE (i : Int) : Int := if 0 ≤ i ∧ i < 512 then 0 else 11
theorem word_but_bit (N i k : Nat) : word (butN N (2 ^ i)) k = if k = i / 64 then butN (word N k) (2 ^ (i % 64)) else word N k := by
  by_cases h : k = i / 64
  · rw [if_pos h]
    apply word_of_bits
    · apply Nat.lt_pow_two_of_testBit (n := 64)
      intro j hj
      rw [testBit_but, small_testBit (word_lt N k) hj]
      rfl
    · intro j hj
      rw [testBit_but, testBit_but, Nat.testBit_two_pow, Nat.testBit_two_pow, testBit_word]
      simp only [hj, decide_true, Bool.true_and]
      congr 2
      rw [decide_eq_decide]
      omega
  · rw [if_neg h]
    apply word_of_bits (word_lt N k)
    intro j hj
    rw [testBit_but, Nat.testBit_two_pow, testBit_word]
    have : ¬ i = 64 * k + j := by omega
    simp [this, hj]
/-- What stands behind the change of s. -/
structure ChAt (w : World) (X : Nat) (wx : World) : Prop where
  set : Cells8 wx w.heap.size (word X)
  res : Cells8 wx (w.heap.size + 1) (fun _ => 0)
  below : Below w.heap.size w wx
theorem ChAt.start (w : World) (N : Nat) : ChAt w N ((w.alloc (.cells (cellsF (word N)) 55)).alloc (.cells (cellsF (fun _ => 0)) 55)) := by
  refine ⟨(Cells8.last w _).alloc _, ?_, ((Below.refl _ _).alloc (Nat.le_refl _) _).alloc (by simp) _⟩
  have := Cells8.last (w.alloc (.cells (cellsF (word N)) 55)) (fun _ => 0)
  simpa using this
theorem ChAt.keep {w wx wy : World} {X : Nat} (h : ChAt w X wx) (hb : Below wx.heap.size wx wy) : ChAt w X wy :=
  ⟨h.set.of_heap (hb.block _ h.set.lt), h.res.of_heap (hb.block _ h.res.lt), go_onB h.below hb⟩
theorem ChAt.put {w wx : World} {N X k : Nat} {v : Int} (h : ChAt w N wx) (hk : k < 8) (hv : v = (word X k : Nat)) (ho : ∀ j, j ≠ k → word X j = word N j) : ChAt w X (wx.setCell ⟨w.heap.size, k, none⟩ (.int .u64 v)).drew := by
  subst hv
  refine ⟨((h.set.set _ hk).congr ?_).drew, (h.res.other (by omega) _).drew, (h.below.setCell (p := ⟨w.heap.size, k, none⟩) (Nat.le_refl _) _).drew⟩
  intro j _
  by_cases e : j = k
  · rw [if_pos e, e]
  · rw [if_neg e, ho j e]

set_option maxHeartbeats 2000000 in
set_option maxRecDepth 100000 in
theorem with_any (N : Nat) (i : Int) (w : World) :
    Calls Try.prog 50 #[setV N, .int .i64 i] w fun e w' => e = .returned (.tuple #[setV (withN N i), .int .i64 (oneE i)]) ∧ Below w.heap.size w w' := by
  have HA : Hid (ChAt w N ((w.alloc (.cells (cellsF (word N)) 55)).alloc (.cells (cellsF (fun _ => 0)) 55))) := ChAt.start w N
  by_cases hin : 0 ≤ i ∧ i < 512
  · obtain ⟨m, rfl⟩ : ∃ m : Nat, i = m := ⟨i.toNat, by omega⟩
    have hd : decide (0 ≤ (m : Int) ∧ (m : Int) < 512) = true := by simpa using hin
    have hm5 : m < 512 := by omega
    have HX : Hid (withN N (m : Int) = N ||| 2 ^ m ∧ oneE (m : Int) = 0) := by
      show _ ∧ _
      unfold withN oneE
      rw [if_pos hin, if_pos hin, Int.toNat_natCast]
      exact ⟨rfl, rfl⟩
    clear hin
    unfold setV cellsF
    unfold cellsF at HA
    go_enter Try.func50, Try.ntmps50
    go_wp2_with (go_at_call 36; refine (isNumber_any _ _).mono ?_; rintro e w1 ⟨rfl, rfl⟩; rw [hd])
    generalize hW : (w.alloc (.cells #[.int .u64 (word N 0 : Nat), .int .u64 (word N 1 : Nat), .int .u64 (word N 2 : Nat), .int .u64 (word N 3 : Nat), .int .u64 (word N 4 : Nat), .int .u64 (word N 5 : Nat), .int .u64 (word N 6 : Nat), .int .u64 (word N 7 : Nat)] 55)).alloc (.cells #[.int .u64 0, .int .u64 0, .int .u64 0, .int .u64 0, .int .u64 0, .int .u64 0, .int .u64 0, .int .u64 0] 55) = W
    have HB : Hid (ChAt w N W) := by
      show ChAt w N W
      rw [← hW]
      exact HA.out
    clear hW HA
    obtain ⟨k, hkd⟩ : ∃ k, m / 64 = k := ⟨_, rfl⟩
    have hk : k < 8 := by omega
    have hkI : (k : Int) < 8 := by omega
    have hq : (m : Int).tdiv 64 = k := by rw [Int.tdiv_eq_ediv_of_nonneg (by omega)]; omega
    have hw : IntKind.i64.wrap (k : Int) = k := IntWalk.i64_in _ (by omega)
    have hc := HB.out.set.get hk
    have hf := HB.out.set.frozen k
    have HN : Hid _ := HB.out.put (X := N ||| 2 ^ m) hk (v := bits .or .u64 (word N k : Nat) (2 ^ (m % 64)))
      (by rw [or_u64 (word N k) (2 ^ (m % 64)) rfl (by simp) (word_lt _ _) (two_pow_lt _ (by omega)), word_or_bit, if_pos hkd.symm]) (fun j hj => by rw [word_or_bit, if_neg (by omega)])
    have HK : Hid (m / 64 = k) := hkd
    clear hkd hd
    go_cut [17] (fun _ wx => ChAt w (N ||| 2 ^ m) wx)
    case first =>
      go_region_with (go_at_call 37; refine (bitOf_any m hm5 _).mono ?_; rintro e w1 ⟨rfl, rfl⟩)
      all_goals (go_wp2_with fail; go_meet; exact HN.out)
    case rest =>
      have HC : Hid (ChAt w (N ||| 2 ^ m) wc) := hcut
      clear hcut hc hf
      obtain ⟨c0, c1, c2, c3, c4, c5, c6, c7⟩ := HC.out.set.gets
      obtain ⟨d0, d1, d2, d3, d4, d5, d6, d7⟩ := HC.out.res.gets
      have f0 := HC.out.res.frozen 0
      have f1 := HC.out.res.frozen 1
      have f2 := HC.out.res.frozen 2
      have f3 := HC.out.res.frozen 3
      have f4 := HC.out.res.frozen 4
      have f5 := HC.out.res.frozen 5
      have f6 := HC.out.res.frozen 6
      have f7 := HC.out.res.frozen 7
      obtain ⟨X, hXd⟩ : ∃ X, N ||| 2 ^ m = X := ⟨_, rfl⟩
      rw [hXd] at HX HC c0 c1 c2 c3 c4 c5 c6 c7
      clear hXd HN
      go_wp2_with fail
      obtain ⟨h8, hB⟩ := st8 HC.out.res HC.out.below (show w.heap.size ≤ w.heap.size + 1 by omega) (word X) rfl rfl rfl rfl rfl rfl rfl rfl
      refine bodyPost_ret (results_set_tmp rfl rfl h8) rfl ⟨?_, hB⟩
      rw [HX.out.1, HX.out.2]
      rfl
  · have hd : decide (0 ≤ i ∧ i < 512) = false := by simpa using hin
    have HX : Hid (withN N i = 0 ∧ oneE i = 11) := by
      show _ ∧ _
      unfold withN oneE
      rw [if_neg hin, if_neg hin]
      exact ⟨rfl, rfl⟩
    clear hin
    unfold setV cellsF
    unfold cellsF at HA
    go_enter Try.func50, Try.ntmps50
    go_wp2_with (go_at_call 36; refine (isNumber_any _ _).mono ?_; rintro e w1 ⟨rfl, rfl⟩; rw [hd])
    refine bodyPost_ret (results_set_tmp rfl rfl (f := fun _ => 0) HA.out.res) rfl ⟨?_, HA.out.below⟩
    rw [HX.out.1, HX.out.2]
    exact ret_set (fun k _ => by simp [word])

set_option maxHeartbeats 2000000 in
set_option maxRecDepth 100000 in
theorem without_any (N : Nat) (i : Int) (w : World) :
    Calls Try.prog 83 #[setV N, .int .i64 i] w fun e w' => e = .returned (.tuple #[setV (withoutN N i), .int .i64 (oneE i)]) ∧ Below w.heap.size w w' := by
  have HA : Hid (ChAt w N ((w.alloc (.cells (cellsF (word N)) 55)).alloc (.cells (cellsF (fun _ => 0)) 55))) := ChAt.start w N
  by_cases hin : 0 ≤ i ∧ i < 512
  · obtain ⟨m, rfl⟩ : ∃ m : Nat, i = m := ⟨i.toNat, by omega⟩
    have hd : decide (0 ≤ (m : Int) ∧ (m : Int) < 512) = true := by simpa using hin
    have hm5 : m < 512 := by omega
    have HX : Hid (withoutN N (m : Int) = butN N (2 ^ m) ∧ oneE (m : Int) = 0) := by
      show _ ∧ _
      unfold withoutN oneE
      rw [if_pos hin, if_pos hin, Int.toNat_natCast]
      exact ⟨rfl, rfl⟩
    clear hin
    unfold setV cellsF
    unfold cellsF at HA
    go_enter Try.func83, Try.ntmps83
    go_wp2_with (go_at_call 36; refine (isNumber_any _ _).mono ?_; rintro e w1 ⟨rfl, rfl⟩; rw [hd])
    generalize hW : (w.alloc (.cells #[.int .u64 (word N 0 : Nat), .int .u64 (word N 1 : Nat), .int .u64 (word N 2 : Nat), .int .u64 (word N 3 : Nat), .int .u64 (word N 4 : Nat), .int .u64 (word N 5 : Nat), .int .u64 (word N 6 : Nat), .int .u64 (word N 7 : Nat)] 55)).alloc (.cells #[.int .u64 0, .int .u64 0, .int .u64 0, .int .u64 0, .int .u64 0, .int .u64 0, .int .u64 0, .int .u64 0] 55) = W
    have HB : Hid (ChAt w N W) := by
      show ChAt w N W
      rw [← hW]
      exact HA.out
    clear hW HA
    obtain ⟨k, hkd⟩ : ∃ k, m / 64 = k := ⟨_, rfl⟩
    have hk : k < 8 := by omega
    have hkI : (k : Int) < 8 := by omega
    have hq : (m : Int).tdiv 64 = k := by rw [Int.tdiv_eq_ediv_of_nonneg (by omega)]; omega
    have hw : IntKind.i64.wrap (k : Int) = k := IntWalk.i64_in _ (by omega)
    have hc := HB.out.set.get hk
    have hf := HB.out.set.frozen k
    have HN : Hid _ := HB.out.put (X := butN N (2 ^ m)) hk (v := bits .andNot .u64 (word N k : Nat) (2 ^ (m % 64)))
      (by rw [show (2 : Int) ^ (m % 64) = ((2 ^ (m % 64) : Nat) : Int) by simp, bits_andNot_u64_nat _ _ (word_lt _ _) (two_pow_lt _ (by omega)), word_but_bit, if_pos hkd.symm]) (fun j hj => by rw [word_but_bit, if_neg (by omega)])
    have HK : Hid (m / 64 = k) := hkd
    clear hkd hd
    go_cut [17] (fun _ wx => ChAt w (butN N (2 ^ m)) wx)
    case first =>
      go_region_with (go_at_call 37; refine (bitOf_any m hm5 _).mono ?_; rintro e w1 ⟨rfl, rfl⟩)
      all_goals (go_wp2_with fail; go_meet; exact HN.out)
    case rest =>
      have HC : Hid (ChAt w (butN N (2 ^ m)) wc) := hcut
      clear hcut hc hf
      obtain ⟨c0, c1, c2, c3, c4, c5, c6, c7⟩ := HC.out.set.gets
      obtain ⟨d0, d1, d2, d3, d4, d5, d6, d7⟩ := HC.out.res.gets
      have f0 := HC.out.res.frozen 0
      have f1 := HC.out.res.frozen 1
      have f2 := HC.out.res.frozen 2
      have f3 := HC.out.res.frozen 3
      have f4 := HC.out.res.frozen 4
      have f5 := HC.out.res.frozen 5
      have f6 := HC.out.res.frozen 6
      have f7 := HC.out.res.frozen 7
      obtain ⟨X, hXd⟩ : ∃ X, butN N (2 ^ m) = X := ⟨_, rfl⟩
      rw [hXd] at HX HC c0 c1 c2 c3 c4 c5 c6 c7
      clear hXd HN
      go_wp2_with fail
      obtain ⟨h8, hB⟩ := st8 HC.out.res HC.out.below (show w.heap.size ≤ w.heap.size + 1 by omega) (word X) rfl rfl rfl rfl rfl rfl rfl rfl
      refine bodyPost_ret (results_set_tmp rfl rfl h8) rfl ⟨?_, hB⟩
      rw [HX.out.1, HX.out.2]
      rfl
  · have hd : decide (0 ≤ i ∧ i < 512) = false := by simpa using hin
    have HX : Hid (withoutN N i = 0 ∧ oneE i = 11) := by
      show _ ∧ _
      unfold withoutN oneE
      rw [if_neg hin, if_neg hin]
      exact ⟨rfl, rfl⟩
    clear hin
    unfold setV cellsF
    unfold cellsF at HA
    go_enter Try.func83, Try.ntmps83
    go_wp2_with (go_at_call 36; refine (isNumber_any _ _).mono ?_; rintro e w1 ⟨rfl, rfl⟩; rw [hd])
    refine bodyPost_ret (results_set_tmp rfl rfl (f := fun _ => 0) HA.out.res) rfl ⟨?_, HA.out.below⟩
    rw [HX.out.1, HX.out.2]
    exact ret_set (fun k _ => by simp [word])

theorem with_lst {N : Nat} (hN : Fits N) (i : Int) : ofN (lstB N 512 ++ [i]) = withN N i ∧ ofE (lstB N 512 ++ [i]) = oneE i := by
  have e0 : (lstB N 512).all inSet = true := by
    rw [List.all_eq_true]
    intro x hx
    obtain ⟨j, hj, _, rfl⟩ := mem_lst.1 hx
    simp [inSet]
    omega
  have hL := (of_lst hN).1
  rw [ofN, if_pos e0] at hL
  unfold ofN ofE withN oneE
  by_cases h : 0 ≤ i ∧ i < 512
  · have e1 : (lstB N 512 ++ [i]).all inSet = true := by
      rw [List.all_append, e0]
      simpa [inSet] using h
    rw [if_pos e1, if_pos e1, if_pos h, if_pos h]
    refine ⟨?_, rfl⟩
    unfold ofL at hL ⊢
    rw [List.foldl_append, hL]
    rfl
  · have e1 : ¬ (lstB N 512 ++ [i]).all inSet = true := by
      rw [List.all_append, e0]
      simp [inSet]
      omega
    rw [if_neg e1, if_neg e1, if_neg h, if_neg h]
    exact ⟨rfl, rfl⟩
theorem without_lst {N : Nat} (hN : Fits N) (m : Nat) : ofN ((lstB N 512).filter fun x => decide (x ≠ (m : Int))) = butN N (2 ^ m) ∧ ofE ((lstB N 512).filter fun x => decide (x ≠ (m : Int))) = 0 := by
  have e1 : ((lstB N 512).filter fun x => decide (x ≠ (m : Int))).all inSet = true := by
    rw [List.all_eq_true]
    intro x hx
    obtain ⟨j, hj, _, rfl⟩ := mem_lst.1 (List.mem_filter.1 hx).1
    simp [inSet]
    omega
  unfold ofN ofE
  rw [if_pos e1, if_pos e1]
  refine ⟨?_, rfl⟩
  apply Nat.eq_of_testBit_eq
  intro i
  rw [testBit_ofL, testBit_but, Nat.testBit_two_pow, Bool.eq_iff_iff, decide_eq_true_iff]
  constructor
  · rintro ⟨x, hx, rfl⟩
    obtain ⟨h1, h2⟩ := List.mem_filter.1 hx
    obtain ⟨j, _, h3, rfl⟩ := mem_lst.1 h1
    rw [Int.toNat_natCast, h3]
    simp at h2 ⊢
    omega
  · intro h
    rw [Bool.and_eq_true] at h
    have hi : i < 512 := by
      by_cases hi : i < 512
      · exact hi
      · rw [hN i (by omega)] at h; simp at h
    refine ⟨(i : Int), List.mem_filter.2 ⟨mem_lst.2 ⟨i, hi, h.1, rfl⟩, ?_⟩, Int.toNat_natCast i⟩
    have h2 := h.2
    simp at h2 ⊢
    omega

end Go.Proofs.Ytneiegbodnalbaa

namespace Go.Proofs.Ytneiegbodnalbaa
open Go Go.RowKit Go.Lib
set_option linter.unusedVariables false
attribute [-instance] List.instBEq instBEqProd

/-- All that s accepts, t accepts. -/
def Inc (A : Aut) (s t : Nat) : Prop := ∀ u, Lt A.k.toNat u → aN A (goN A s u) = true → aN A (goN A t u) = true

theorem Inc.refl (A : Aut) (s : Nat) : Inc A s s := fun _ _ h => h
theorem Inc.trans {A : Aut} {s t r : Nat} (h : Inc A s t) (k : Inc A t r) : Inc A s r := fun u hu q => k u hu (h u hu q)
theorem Inc.step {A : Aut} {s t c : Nat} (h : Inc A s t) (hc : c < A.k.toNat) : Inc A (dN A s c) (dN A t c) := fun u hu q => by
  have := h ([c] ++ u) ((Lt.one hc).app hu)
  rw [goN_app, goN_app] at this
  exact this q
theorem Inc.run {A : Aut} {s t : Nat} (h : Inc A s t) {u : List Nat} (hu : Lt A.k.toNat u) : Inc A (goN A s u) (goN A t u) := fun v hv q => by
  have := h (u ++ v) (hu.app hv)
  rw [goN_app, goN_app] at this
  exact this q
theorem Inc.eps {A : Aut} {s t : Nat} (h : Inc A s t) : aN A s = true → aN A t = true := h [] (Lt.nil _)

theorem dN_lt6 {A : Aut} (G : Good A) {s c : Nat} (hs : s < A.ac.length) (hc : c < A.k.toNat) : dN A s c < A.ac.length :=
  goN_lt G hs [c] (fun d hd => by simp at hd; subst hd; have := G.ks; omega)

/-- Does a letter lead from t out of the set of the state to which it leads from s? -/
def tkO (A : Aut) (L : List Nat) (s t : Nat) : Bool := (List.range A.k.toNat).any fun c => ! (L.getD (dN A s c) 0).testBit (dN A t c)

theorem tkO_no {A : Aut} {L : List Nat} {s t : Nat} : tkO A L s t = false ↔ ∀ c, c < A.k.toNat → (L.getD (dN A s c) 0).testBit (dN A t c) = true := by
  unfold tkO
  rw [List.any_eq_false]
  simp

/-- Sets that have all that they must have. -/
structure IA (A : Aut) (L : List Nat) : Prop where
  len : L.length = A.ac.length
  sup : ∀ s t, s < A.ac.length → t < A.ac.length → Inc A s t → (L.getD s 0).testBit t = true
  eps : ∀ s t, s < A.ac.length → (L.getD s 0).testBit t = true → aN A s = true → aN A t = true
  low : ∀ s t, (L.getD s 0).testBit t = true → t < A.ac.length

theorem IA.fits {A : Aut} {L : List Nat} (h : IA A L) (h64 : A.ac.length ≤ 64) (s : Nat) : Fits (L.getD s 0) := fun i hi => by
  cases q : (L.getD s 0).testBit i with
  | false => rfl
  | true => have := h.low s i q; omega

theorem getD_set (L : List Nat) (s N j : Nat) : (L.set s N).getD j 0 = if j = s ∧ s < L.length then N else L.getD j 0 := by
  rw [List.getD_eq_getElem?_getD, List.getD_eq_getElem?_getD, List.getElem?_set]
  by_cases h : s = j
  · subst h
    rw [if_pos rfl]
    by_cases k : s < L.length
    · rw [if_pos k, if_pos ⟨rfl, k⟩]; rfl
    · rw [if_neg k, if_neg (fun q => k q.2), List.getElem?_eq_none (by omega)]
  · rw [if_neg h, if_neg (fun q => h q.1.symm)]

/-- A state's set loses what a letter takes out: of the states below m. -/
def kpN (A : Aut) (L : List Nat) (s m N : Nat) : Prop := ∀ t, N.testBit t = ((L.getD s 0).testBit t && ! (decide (t < m) && tkO A L s t))

theorem IA.kept {A : Aut} {L : List Nat} (G : Good A) (h : IA A L) {s N : Nat} (hs : s < A.ac.length) (hN : kpN A L s A.ac.length N) : IA A (L.set s N) := by
  refine ⟨by rw [List.length_set]; exact h.len, ?_, ?_, ?_⟩
  · intro r t hr ht hi
    rw [getD_set]
    by_cases q : r = s ∧ s < L.length
    · rw [if_pos q, hN t]
      obtain ⟨rfl, _⟩ := q
      rw [h.sup r t hr ht hi, (tkO_no.2 fun c hc => h.sup _ _ (dN_lt6 G hr hc) (dN_lt6 G ht hc) (hi.step hc))]
      simp
    · rw [if_neg q]; exact h.sup r t hr ht hi
  · intro r t hr hb ha
    rw [getD_set] at hb
    by_cases q : r = s ∧ s < L.length
    · rw [if_pos q, hN t, Bool.and_eq_true] at hb
      obtain ⟨rfl, _⟩ := q
      exact h.eps r t hr hb.1 ha
    · rw [if_neg q] at hb; exact h.eps r t hr hb ha
  · intro r t hb
    rw [getD_set] at hb
    by_cases q : r = s ∧ s < L.length
    · rw [if_pos q, hN t, Bool.and_eq_true] at hb
      exact h.low s t hb.1
    · rw [if_neg q] at hb; exact h.low r t hb

/-- Nothing falls away: the sets are those of the document. -/
theorem IA.done {A : Aut} {L : List Nat} (G : Good A) (h : IA A L) (hk : ∀ s, s < A.ac.length → kpN A L s A.ac.length (L.getD s 0)) {s t : Nat} (hs : s < A.ac.length) (ht : t < A.ac.length) : (L.getD s 0).testBit t = true ↔ Inc A s t := by
  refine ⟨fun q u hu => ?_, h.sup s t hs ht⟩
  induction u generalizing s t with
  | nil => exact h.eps s t hs q
  | cons c u ih =>
    obtain ⟨hc, hu'⟩ := hu.cons
    have k := hk s hs t
    rw [q, Bool.true_and, decide_eq_true ht, Bool.true_and] at k
    have k2 : tkO A L s t = false := by
      cases z : tkO A L s t with
      | false => rfl
      | true => rw [z] at k; cases k
    exact ih (dN_lt6 G hs hc) (dN_lt6 G ht hc) (tkO_no.1 k2 c hc) hu'
end Go.Proofs.Ytneiegbodnalbaa

namespace Go.Proofs.Ytneiegbodnalbaa
open Go Go.RowKit Go.Lib Go.Maps
set_option linter.unusedVariables false
attribute [-instance] List.instBEq instBEqProd

theorem cellsF_one' (f : Nat → Nat) : (cellsF f).all (·.oneCell') = true := by simp [cellsF, Value.oneCell']
theorem lvs_row {w : World} {g o : Nat} {f : Nat → Nat} (h : ∀ j, j < 8 → w.cell? ⟨g, o + j, none⟩ = (cellsF f)[j]?) : (loadVar 55 ⟨g, o, none⟩).run Try.prog w = .ok (.agg (cellsF f)) w := by
  have hl := run_loadCells_list (P := Try.prog) w ⟨g, o, none⟩ (cellsF f).toList (fun j v hv => by
    have hadd : (⟨g, o, none⟩ : Addr).add j = ⟨g, o + j, none⟩ := by unfold Addr.add; split <;> simp_all
    have hj : j < 8 := (List.getElem?_eq_some_iff.1 hv).1
    rw [hadd, h j hj]
    simpa using hv)
  have hagg := agg_of (b := true) Try.underlying55 rfl w
  have h8 : (cellsF f).toList.length = 8 := rfl
  rw [h8] at hl
  simp [loadVar, Sem.run_bind, hagg, hl]

/-- Sets that lie in block g, one behind the other. -/
def LS (w : World) (g : Nat) (L : List Nat) : Prop := ∃ cur : Array Value, w.heap[g]? = some (.cells cur 55 (0, 0)) ∧ L.length * 8 ≤ cur.size ∧ ∀ i, i < L.length → ∀ j, j < 8 → cur[i * 8 + j]? = (cellsF (word (L.getD i 0)))[j]?
theorem LS.keep {w w' : World} {g : Nat} {L : List Nat} (h : LS w g L) (e : w'.heap[g]? = w.heap[g]?) : LS w' g L := by
  obtain ⟨cur, h1, h2, h3⟩ := h
  exact ⟨cur, e.trans h1, h2, h3⟩
theorem LS.lt {w : World} {g : Nat} {L : List Nat} (h : LS w g L) : g < w.heap.size := by
  obtain ⟨cur, h1, h2, h3⟩ := h
  exact (Array.getElem?_eq_some_iff.1 h1).1
theorem LS.below {w w' : World} {g : Nat} {L : List Nat} (h : LS w g L) (hb : Below w.heap.size w w') : LS w' g L := h.keep (hb.block g h.lt)
theorem LS.load {w : World} {g : Nat} {L : List Nat} (h : LS w g L) {i e : Nat} (hi : i < L.length) (he : i * 8 = e) : (loadVar 55 ⟨g, e, none⟩).run Try.prog w = .ok (.agg (cellsF (word (L.getD i 0)))) w := by
  obtain ⟨cur, h1, h2, h3⟩ := h
  refine lvs_row fun j hj => ?_
  rw [cell_of_row _ _ _ _ _ _ h1, ← he]
  exact h3 i hi j hj
theorem LS.set {y : World} {g : Nat} {L : List Nat} (h : LS y g L) {i N : Nat} (hi : i < L.length) : LS (pw y g (i * 8) (cellsF (word N))) g (L.set i N) := by
  obtain ⟨cur, h1, h2, h3⟩ := h
  have h8 : (cellsF (word N)).size = 8 := rfl
  refine ⟨_, pw_heap h1, by rw [splice_size (by omega), List.length_set]; exact h2, fun c hc j hj => ?_⟩
  rw [List.length_set] at hc
  rw [splice_get (by omega), getD_set]
  by_cases q : c = i
  · subst q
    rw [if_neg (by omega), if_pos (by omega), if_pos ⟨rfl, hi⟩]
    congr 1
    omega
  · rw [if_neg (show ¬ (c = i ∧ i < L.length) from fun z => q z.1)]
    by_cases k : c * 8 + j < i * 8
    · rw [if_pos k]; exact h3 c hc j hj
    · rw [if_neg k, if_neg (by omega)]; exact h3 c hc j hj
theorem LS.store {y : World} {g : Nat} {L : List Nat} (h : LS y g L) {i e : Nat} (hi : i < L.length) (he : i * 8 = e) (f : Nat → Nat) : (storeCells ⟨g, e, none⟩ (cellsF f).toList 0).run Try.prog y = .ok () (pw y g e (cellsF f)) := by
  obtain ⟨cur, h1, h2, h3⟩ := h
  have h8 : (cellsF f).size = 8 := rfl
  exact st_pw h1 (by omega) (cellsF_one' f)

theorem hasN_small {X i : Nat} (h : i < 512) : hasN X (i : Nat) = X.testBit i := by
  unfold hasN
  rw [decide_eq_true (by omega), Bool.true_and, Int.toNat_natCast]

set_option maxHeartbeats 4000000 in
set_option maxRecDepth 100000 in
theorem takes_any {w : World} {v : Value} {A : Aut} {g cap : Nat} {L : List Nat} (h : AR w v A) (G : Good A) (h64 : A.ac.length ≤ 64) (hL : LS w g L) (hl : L.length = A.ac.length) (s t : Nat) (hs : s < A.ac.length) (ht : t < A.ac.length) :
    Calls Try.prog 82 #[v, .slice (some ⟨g, 0, none⟩) L.length cap, .int .i64 (s : Nat), .int .i64 (t : Nat)] w fun e w' => e = .returned (.bool (tkO A L s t)) ∧ Below w.heap.size w w' := by
  obtain ⟨an, cn, aa, ca, e, h1, h2⟩ := h.is
  have hks := G.ks
  have hxl : A.nx.length ≤ 512 := by
    have h1 : (A.ac.length : Int) * A.k ≤ 64 * 8 := Int.mul_le_mul (by omega) G.k8 (by have := G.k1; omega) (by omega)
    have := G.len
    omega
  have HXL : Hid (A.nx.length ≤ 512) := hxl
  obtain ⟨gn, on, rfl, _, _⟩ := h1.int (i := 0) (by have := (G.at (s := 0) (c := 0) (by omega) (by omega)).1; omega)
  subst e
  have HNX : Hid (SR w (some ⟨gn, on, none⟩) (zC A.nx)) := h1
  have HLS : Hid (LS w g L) := hL
  have HLL : Hid (L.length = A.ac.length) := hl
  obtain ⟨w0, hw0⟩ : ∃ w0, w0 = w.alloc (.cells #[.int .i64 A.k, .slice (some ⟨gn, on, none⟩) A.nx.length cn, .slice aa A.ac.length ca] 26) := ⟨_, rfl⟩
  have HB0 : Hid (Below w.heap.size w w0) := by show Below _ _ _; rw [hw0]; exact below_new _ _
  have HW0 : Hid (w0 = w.alloc (.cells #[.int .i64 A.k, .slice (some ⟨gn, on, none⟩) A.nx.length cn, .slice aa A.ac.length ca] 26)) := hw0
  have HR0 : Hid (RowAt w0 w.heap.size #[.int .i64 A.k, .slice (some ⟨gn, on, none⟩) A.nx.length cn, .slice aa A.ac.length ca]) := by show RowAt _ _ _; rw [hw0]; exact RowAt.last _ _ _
  have c0 : w0.cell? ⟨w.heap.size, 0, none⟩ = some (.int .i64 A.k) := HR0.out.cell 0
  have HG : Hid (Good A) := G
  have HK : Hid (1 ≤ A.k.toNat ∧ A.k.toNat ≤ 8 ∧ ((A.k.toNat : Nat) : Int) = A.k) := hks
  have HST : Hid (s < A.ac.length ∧ t < A.ac.length ∧ A.ac.length ≤ 64) := ⟨hs, ht, h64⟩
  clear h h1 h2 hw0 hL hl hxl
  go_enter Try.func82, Try.ntmps82
  go_wp2_with fail
  rw [← HW0.out]
  clear c0
  go_wp2_with fail
  go_loopw [12] (fun vc wr => ∃ c : Nat, vc = .int .i64 (c : Nat) ∧ c ≤ A.k.toNat ∧ (∀ d, d < c → (L.getD (dN A s d) 0).testBit (dN A t d) = true) ∧ Below w0.heap.size w0 wr) (fun vc _ => A.k.toNat - (Go.RowKit.intOf vc).toNat)
  case atStart => exact ⟨0, rfl, Nat.zero_le _, fun d hd => absurd hd (by omega), Below.refl _ _⟩
  case round =>
    obtain ⟨c, rfl, hc, hall, hb⟩ := hrel
    have HC : Hid (Below w.heap.size w wr) := go_on HB0.out hb
    have HC0 : Hid (Below w0.heap.size w0 wr) := hb
    have HALL : Hid (∀ d, d < c → (L.getD (dN A s d) 0).testBit (dN A t d) = true) := hall
    clear hb hall
    have hk := HK.out.2.2
    by_cases hlt : c < A.k.toNat
    · have hcI : (c : Int) < A.k := by omega
      have hcd : decide ((c : Int) < A.k) = true := decide_eq_true hcI
      have a1 := HG.out.at HST.out.1 hcI
      have a2 := HG.out.at HST.out.2.1 hcI
      obtain ⟨p1, hp1⟩ : ∃ p, s * A.k.toNat + c = p := ⟨_, rfl⟩
      obtain ⟨p2, hp2⟩ : ∃ p, t * A.k.toNat + c = p := ⟨_, rfl⟩
      obtain ⟨m1, hm1⟩ : ∃ p, s * A.k.toNat = p := ⟨_, rfl⟩
      obtain ⟨m2, hm2⟩ : ∃ p, t * A.k.toNat = p := ⟨_, rfl⟩
      obtain ⟨d1, hd1⟩ : ∃ p, dN A s c = p := ⟨_, rfl⟩
      obtain ⟨d2, hd2⟩ : ∃ p, dN A t c = p := ⟨_, rfl⟩
      obtain ⟨e1, he1⟩ : ∃ p, d1 * 8 = p := ⟨_, rfl⟩
      obtain ⟨X, hX⟩ : ∃ X, L.getD d1 0 = X := ⟨_, rfl⟩
      rw [hp1, hd1] at a1
      rw [hp2, hd2] at a2
      have hxl := HXL.out
      have q1 : ((s : Nat) : Int) * A.k = (m1 : Nat) := by rw [← hk, ← hm1]; push_cast; rfl
      have q2 : ((t : Nat) : Int) * A.k = (m2 : Nat) := by rw [← hk, ← hm2]; push_cast; rfl
      have w1 : IntKind.i64.wrap ((s : Int) * A.k) = (m1 : Nat) := by rw [q1, IntKind.wrap_i64]; omega
      have w2 : IntKind.i64.wrap ((t : Int) * A.k) = (m2 : Nat) := by rw [q2, IntKind.wrap_i64]; omega
      have w3 : IntKind.i64.wrap ((m1 : Int) + (c : Int)) = (p1 : Nat) := by rw [IntKind.wrap_i64]; omega
      have w4 : IntKind.i64.wrap ((m2 : Int) + (c : Int)) = (p2 : Nat) := by rw [IntKind.wrap_i64]; omega
      have hi1 : (p1 : Int) < A.nx.length := by omega
      have hi2 : (p2 : Int) < A.nx.length := by omega
      have hi3 : (d1 : Int) < L.length := by have := HLL.out; omega
      have HBX0 : Hid (∀ y, Below w.heap.size w y → True) := fun _ _ => trivial
      clear HBX0
      have HRW : Hid (RowAt wr w.heap.size #[.int .i64 A.k, .slice (some ⟨gn, on, none⟩) A.nx.length cn, .slice aa A.ac.length ca]) := HR0.out.stay HC0.out
      have HN1 : Hid (∀ y, Below w.heap.size w y → y.cell? ⟨gn, on + p1, none⟩ = some (.int .i64 (d1 : Nat))) := fun y hy => by
        obtain ⟨_, _, e, _, q⟩ := (HNX.out.stay hy).int (i := p1) a1.1
        simp only [Option.some.injEq, Addr.mk.injEq, and_true] at e
        obtain ⟨rfl, rfl⟩ := e
        rw [a1.2.1] at q
        exact q
      have HN2 : Hid (∀ y, Below w.heap.size w y → y.cell? ⟨gn, on + p2, none⟩ = some (.int .i64 (d2 : Nat))) := fun y hy => by
        obtain ⟨_, _, e, _, q⟩ := (HNX.out.stay hy).int (i := p2) a2.1
        simp only [Option.some.injEq, Addr.mk.injEq, and_true] at e
        obtain ⟨rfl, rfl⟩ := e
        rw [a2.2.1] at q
        exact q
      have HLD : Hid (∀ y, Below w.heap.size w y → (loadVar 55 ⟨g, e1, none⟩).run Try.prog y = .ok (.agg (cellsF (word X))) y) := fun y hy => by rw [← hX]; exact (HLS.out.below hy).load (by have := HLL.out; omega) he1
      have HHS : Hid (∀ y, Calls Try.prog 17 #[.agg (cellsF (word X)), .int .i64 (d2 : Nat)] y fun e w' => e = .returned (.bool (X.testBit d2)) ∧ Below y.heap.size y w') := fun y => by
        have q := has_any X (d2 : Nat) y
        rwa [hasN_small (by have := HST.out.2.2; omega)] at q
      have HBIT : Hid ((L.getD (dN A s c) 0).testBit (dN A t c) = X.testBit d2) := by show _ = _; rw [hd1, hd2, hX]
      have HLT : Hid (c < A.k.toNat) := hlt
      have hc0 : wr.cell? ⟨w.heap.size, 0, none⟩ = some (.int .i64 A.k) := HRW.out.cell 0
      clear hp1 hp2 hm1 hm2 hd1 hd2 hX hk a1 a2 q1 q2 hlt hxl
      go_wp2_with fail
      obtain ⟨b, hb⟩ : ∃ b, X.testBit d2 = b := ⟨_, rfl⟩
      rw [hb] at HHS HBIT
      have HC1 : Hid (Below w0.heap.size w0 wr) := HC0.out
      have HBX0 : Hid (∀ y, Below wr.heap.size wr y → y.cell? ⟨w.heap.size, 0, none⟩ = some (.int .i64 A.k)) := fun y hy => (HRW.out.stay hy).cell 0
      have HBX1 : Hid (∀ y, Below wr.heap.size wr y → y.cell? ⟨w.heap.size, 1, none⟩ = some (.slice (some ⟨gn, on, none⟩) A.nx.length cn)) := fun y hy => (HRW.out.stay hy).cell 1
      have HN1 : Hid (∀ y, Below wr.heap.size wr y → y.cell? ⟨gn, on + p1, none⟩ = some (.int .i64 (d1 : Nat))) := fun y hy => HN1.out y (go_on HC.out hy)
      have HN2 : Hid (∀ y, Below wr.heap.size wr y → y.cell? ⟨gn, on + p2, none⟩ = some (.int .i64 (d2 : Nat))) := fun y hy => HN2.out y (go_on HC.out hy)
      have HLD : Hid (∀ y, Below wr.heap.size wr y → (loadVar 55 ⟨g, e1, none⟩).run Try.prog y = .ok (.agg (cellsF (word X))) y) := fun y hy => HLD.out y (go_on HC.out hy)
      clear hc0 hb
      cases b with
      | true =>
        refine wp_region_held_drew (S := fun w' => Below wr.heap.size wr w') (by kernel_rfl) (Below.refl _ _).drew (fun hH0 => ?_)
        generalize wr.drew = y0 at hH0 ⊢
        refine wpAnyH_take (i := 0) (oi := { dst := some 15, op := Go.Op.move (Go.Operand.tmp 1), type := 41, pos := "states.go:62", after := #[], guard := none }) (v := ?_) rfl (by kernel_rfl) (by kernel_rfl) (by kernel_rfl) (fun _ _ _ h => h) (Or.inl ⟨by rfl, ?_⟩) (by assumption) ?_
        rotate_left
        · intro w' hS; go_simp; (try with_reducible rfl)
        simp only [Act.put, List.setIfInBounds_toArray, List.set_cons_zero, List.set_cons_succ]
        refine wpAnyH_take (i := 1) (oi := { dst := some 16, op := Go.Op.fieldAddr 26 (Go.Operand.tmp 4) 1, type := 0, pos := "states.go:62", after := #[], guard := none }) (v := ?_) rfl (by kernel_rfl) (by kernel_rfl) (by kernel_rfl) (fun _ _ _ h => h) (Or.inl ⟨by rfl, ?_⟩) (by assumption) ?_
        rotate_left
        · intro w' hS; go_simp; (try with_reducible rfl)
        simp only [Act.put, List.setIfInBounds_toArray, List.set_cons_zero, List.set_cons_succ]
        refine wpAnyH_take (i := 2) (oi := { dst := some 17, op := Go.Op.load 23 (Go.Operand.tmp 16), type := 23, pos := "states.go:62", after := #[{ on := 1, ground := Go.Ground.data }], guard := none }) (v := .slice (some ⟨gn, on, none⟩) A.nx.length cn) rfl (by kernel_rfl) (by kernel_rfl) (by kernel_rfl) (fun _ _ _ h => h) (Or.inl ⟨by rfl, ?_⟩) (by assumption) ?_
        · intro w' hS; have hz := HBX1.out w' hS; go_simp
        simp only [Act.put, List.setIfInBounds_toArray, List.set_cons_zero, List.set_cons_succ]
        refine wpAnyH_take (i := 3) (oi := { dst := some 18, op := Go.Op.move (Go.Operand.tmp 2), type := 3, pos := "states.go:62", after := #[], guard := none }) (v := ?_) rfl (by kernel_rfl) (by kernel_rfl) (by kernel_rfl) (fun _ _ _ h => h) (Or.inl ⟨by rfl, ?_⟩) (by assumption) ?_
        rotate_left
        · intro w' hS; go_simp; (try with_reducible rfl)
        simp only [Act.put, List.setIfInBounds_toArray, List.set_cons_zero, List.set_cons_succ]
        refine wpAnyH_take (i := 4) (oi := { dst := some 19, op := Go.Op.fieldAddr 26 (Go.Operand.tmp 4) 0, type := 0, pos := "states.go:62", after := #[], guard := none }) (v := ?_) rfl (by kernel_rfl) (by kernel_rfl) (by kernel_rfl) (fun _ _ _ h => h) (Or.inl ⟨by rfl, ?_⟩) (by assumption) ?_
        rotate_left
        · intro w' hS; go_simp; (try with_reducible rfl)
        simp only [Act.put, List.setIfInBounds_toArray, List.set_cons_zero, List.set_cons_succ]
        refine wpAnyH_take (i := 5) (oi := { dst := some 20, op := Go.Op.load 3 (Go.Operand.tmp 19), type := 3, pos := "states.go:62", after := #[{ on := 4, ground := Go.Ground.data }], guard := none }) (v := .int .i64 A.k) rfl (by kernel_rfl) (by kernel_rfl) (by kernel_rfl) (fun _ _ _ h => h) (Or.inl ⟨by rfl, ?_⟩) (by assumption) ?_
        · intro w' hS; have hz := HBX0.out w' hS; go_simp
        simp only [Act.put, List.setIfInBounds_toArray, List.set_cons_zero, List.set_cons_succ]
        refine wpAnyH_take (i := 6) (oi := { dst := some 21, op := Go.Op.binOp Go.BinOp.mul 3 (Go.Operand.tmp 18) (Go.Operand.tmp 20) 3, type := 3, pos := "states.go:62", after := #[{ on := 3, ground := Go.Ground.data }, { on := 5, ground := Go.Ground.data }], guard := none }) (v := ?_) rfl (by kernel_rfl) (by kernel_rfl) (by kernel_rfl) (fun _ _ _ h => h) (Or.inl ⟨by rfl, ?_⟩) (by assumption) ?_
        rotate_left
        · intro w' hS; go_simp; (try with_reducible rfl)
        simp only [Act.put, List.setIfInBounds_toArray, List.set_cons_zero, List.set_cons_succ]
        refine wpAnyH_take (i := 7) (oi := { dst := some 22, op := Go.Op.move (Go.Operand.tmp 9), type := 3, pos := "states.go:62", after := #[], guard := none }) (v := ?_) rfl (by kernel_rfl) (by kernel_rfl) (by kernel_rfl) (fun _ _ _ h => h) (Or.inl ⟨by rfl, ?_⟩) (by assumption) ?_
        rotate_left
        · intro w' hS; go_simp; (try with_reducible rfl)
        simp only [Act.put, List.setIfInBounds_toArray, List.set_cons_zero, List.set_cons_succ]
        refine wpAnyH_take (i := 8) (oi := { dst := some 23, op := Go.Op.binOp Go.BinOp.add 3 (Go.Operand.tmp 21) (Go.Operand.tmp 22) 3, type := 3, pos := "states.go:62", after := #[{ on := 6, ground := Go.Ground.data }, { on := 7, ground := Go.Ground.data }], guard := none }) (v := ?_) rfl (by kernel_rfl) (by kernel_rfl) (by kernel_rfl) (fun _ _ _ h => h) (Or.inl ⟨by rfl, ?_⟩) (by assumption) ?_
        rotate_left
        · intro w' hS; go_simp; (try with_reducible rfl)
        simp only [Act.put, List.setIfInBounds_toArray, List.set_cons_zero, List.set_cons_succ]
        refine wpAnyH_take (i := 9) (oi := { dst := some 24, op := Go.Op.indexAddr 23 (Go.Operand.tmp 17) (Go.Operand.tmp 23), type := 0, pos := "states.go:62", after := #[{ on := 2, ground := Go.Ground.data }, { on := 8, ground := Go.Ground.data }], guard := none }) (v := ?_) rfl (by kernel_rfl) (by kernel_rfl) (by kernel_rfl) (fun _ _ _ h => h) (Or.inl ⟨by rfl, ?_⟩) (by assumption) ?_
        rotate_left
        · intro w' hS; go_simp; (try with_reducible rfl)
        simp only [Act.put, List.setIfInBounds_toArray, List.set_cons_zero, List.set_cons_succ]
        refine wpAnyH_take (i := 10) (oi := { dst := some 25, op := Go.Op.load 3 (Go.Operand.tmp 24), type := 3, pos := "states.go:62", after := #[{ on := 9, ground := Go.Ground.data }], guard := none }) (v := .int .i64 (d1 : Nat)) rfl (by kernel_rfl) (by kernel_rfl) (by kernel_rfl) (fun _ _ _ h => h) (Or.inl ⟨by rfl, ?_⟩) (by assumption) ?_
        · intro w' hS; have hz := HN1.out w' hS; go_simp
        simp only [Act.put, List.setIfInBounds_toArray, List.set_cons_zero, List.set_cons_succ]
        refine wpAnyH_take (i := 11) (oi := { dst := some 26, op := Go.Op.indexAddr 41 (Go.Operand.tmp 15) (Go.Operand.tmp 25), type := 0, pos := "states.go:62", after := #[{ on := 0, ground := Go.Ground.data }, { on := 10, ground := Go.Ground.data }], guard := none }) (v := ?_) rfl (by kernel_rfl) (by kernel_rfl) (by kernel_rfl) (fun _ _ _ h => h) (Or.inl ⟨by rfl, ?_⟩) (by assumption) ?_
        rotate_left
        · intro w' hS; go_simp; (try with_reducible rfl)
        simp only [Act.put, List.setIfInBounds_toArray, List.set_cons_zero, List.set_cons_succ]
        refine wpAnyH_take (i := 12) (oi := { dst := some 27, op := Go.Op.load 55 (Go.Operand.tmp 26), type := 55, pos := "states.go:62", after := #[{ on := 11, ground := Go.Ground.data }], guard := none }) (v := .agg (cellsF (word X))) rfl (by kernel_rfl) (by kernel_rfl) (by kernel_rfl) (fun _ _ _ h => h) (Or.inl ⟨by rfl, ?_⟩) (by assumption) ?_
        · intro w' hS; exact ex_load_at (ad := ⟨g, e1, none⟩) rfl (by first | rfl | (simp; rfl) | simp) (HLD.out w' hS)
        simp only [Act.put, List.setIfInBounds_toArray, List.set_cons_zero, List.set_cons_succ]
        refine wpAnyH_take (i := 13) (oi := { dst := some 28, op := Go.Op.fieldAddr 26 (Go.Operand.tmp 4) 1, type := 0, pos := "states.go:62", after := #[], guard := none }) (v := ?_) rfl (by kernel_rfl) (by kernel_rfl) (by kernel_rfl) (fun _ _ _ h => h) (Or.inl ⟨by rfl, ?_⟩) (by assumption) ?_
        rotate_left
        · intro w' hS; go_simp; (try with_reducible rfl)
        simp only [Act.put, List.setIfInBounds_toArray, List.set_cons_zero, List.set_cons_succ]
        refine wpAnyH_take (i := 14) (oi := { dst := some 29, op := Go.Op.load 23 (Go.Operand.tmp 28), type := 23, pos := "states.go:62", after := #[{ on := 13, ground := Go.Ground.data }], guard := none }) (v := .slice (some ⟨gn, on, none⟩) A.nx.length cn) rfl (by kernel_rfl) (by kernel_rfl) (by kernel_rfl) (fun _ _ _ h => h) (Or.inl ⟨by rfl, ?_⟩) (by assumption) ?_
        · intro w' hS; have hz := HBX1.out w' hS; go_simp
        simp only [Act.put, List.setIfInBounds_toArray, List.set_cons_zero, List.set_cons_succ]
        refine wpAnyH_take (i := 15) (oi := { dst := some 30, op := Go.Op.move (Go.Operand.tmp 3), type := 3, pos := "states.go:62", after := #[], guard := none }) (v := ?_) rfl (by kernel_rfl) (by kernel_rfl) (by kernel_rfl) (fun _ _ _ h => h) (Or.inl ⟨by rfl, ?_⟩) (by assumption) ?_
        rotate_left
        · intro w' hS; go_simp; (try with_reducible rfl)
        simp only [Act.put, List.setIfInBounds_toArray, List.set_cons_zero, List.set_cons_succ]
        refine wpAnyH_take (i := 16) (oi := { dst := some 31, op := Go.Op.fieldAddr 26 (Go.Operand.tmp 4) 0, type := 0, pos := "states.go:62", after := #[], guard := none }) (v := ?_) rfl (by kernel_rfl) (by kernel_rfl) (by kernel_rfl) (fun _ _ _ h => h) (Or.inl ⟨by rfl, ?_⟩) (by assumption) ?_
        rotate_left
        · intro w' hS; go_simp; (try with_reducible rfl)
        simp only [Act.put, List.setIfInBounds_toArray, List.set_cons_zero, List.set_cons_succ]
        refine wpAnyH_take (i := 17) (oi := { dst := some 32, op := Go.Op.load 3 (Go.Operand.tmp 31), type := 3, pos := "states.go:62", after := #[{ on := 16, ground := Go.Ground.data }], guard := none }) (v := .int .i64 A.k) rfl (by kernel_rfl) (by kernel_rfl) (by kernel_rfl) (fun _ _ _ h => h) (Or.inl ⟨by rfl, ?_⟩) (by assumption) ?_
        · intro w' hS; have hz := HBX0.out w' hS; go_simp
        simp only [Act.put, List.setIfInBounds_toArray, List.set_cons_zero, List.set_cons_succ]
        refine wpAnyH_take (i := 18) (oi := { dst := some 33, op := Go.Op.binOp Go.BinOp.mul 3 (Go.Operand.tmp 30) (Go.Operand.tmp 32) 3, type := 3, pos := "states.go:62", after := #[{ on := 15, ground := Go.Ground.data }, { on := 17, ground := Go.Ground.data }], guard := none }) (v := ?_) rfl (by kernel_rfl) (by kernel_rfl) (by kernel_rfl) (fun _ _ _ h => h) (Or.inl ⟨by rfl, ?_⟩) (by assumption) ?_
        rotate_left
        · intro w' hS; go_simp; (try with_reducible rfl)
        simp only [Act.put, List.setIfInBounds_toArray, List.set_cons_zero, List.set_cons_succ]
        refine wpAnyH_take (i := 19) (oi := { dst := some 34, op := Go.Op.move (Go.Operand.tmp 9), type := 3, pos := "states.go:62", after := #[], guard := none }) (v := ?_) rfl (by kernel_rfl) (by kernel_rfl) (by kernel_rfl) (fun _ _ _ h => h) (Or.inl ⟨by rfl, ?_⟩) (by assumption) ?_
        rotate_left
        · intro w' hS; go_simp; (try with_reducible rfl)
        simp only [Act.put, List.setIfInBounds_toArray, List.set_cons_zero, List.set_cons_succ]
        refine wpAnyH_take (i := 20) (oi := { dst := some 35, op := Go.Op.binOp Go.BinOp.add 3 (Go.Operand.tmp 33) (Go.Operand.tmp 34) 3, type := 3, pos := "states.go:62", after := #[{ on := 18, ground := Go.Ground.data }, { on := 19, ground := Go.Ground.data }], guard := none }) (v := ?_) rfl (by kernel_rfl) (by kernel_rfl) (by kernel_rfl) (fun _ _ _ h => h) (Or.inl ⟨by rfl, ?_⟩) (by assumption) ?_
        rotate_left
        · intro w' hS; go_simp; (try with_reducible rfl)
        simp only [Act.put, List.setIfInBounds_toArray, List.set_cons_zero, List.set_cons_succ]
        refine wpAnyH_take (i := 21) (oi := { dst := some 36, op := Go.Op.indexAddr 23 (Go.Operand.tmp 29) (Go.Operand.tmp 35), type := 0, pos := "states.go:62", after := #[{ on := 14, ground := Go.Ground.data }, { on := 20, ground := Go.Ground.data }], guard := none }) (v := ?_) rfl (by kernel_rfl) (by kernel_rfl) (by kernel_rfl) (fun _ _ _ h => h) (Or.inl ⟨by rfl, ?_⟩) (by assumption) ?_
        rotate_left
        · intro w' hS; go_simp; (try with_reducible rfl)
        simp only [Act.put, List.setIfInBounds_toArray, List.set_cons_zero, List.set_cons_succ]
        refine wpAnyH_take (i := 22) (oi := { dst := some 37, op := Go.Op.load 3 (Go.Operand.tmp 36), type := 3, pos := "states.go:62", after := #[{ on := 21, ground := Go.Ground.data }], guard := none }) (v := .int .i64 (d2 : Nat)) rfl (by kernel_rfl) (by kernel_rfl) (by kernel_rfl) (fun _ _ _ h => h) (Or.inl ⟨by rfl, ?_⟩) (by assumption) ?_
        · intro w' hS; have hz := HN2.out w' hS; go_simp
        simp only [Act.put, List.setIfInBounds_toArray, List.set_cons_zero, List.set_cons_succ]
        refine wpAnyH_ready (rs := [23]) (by kernel_rfl) (by simp) ?_
        refine AllReadyH.cons rfl (fun K hK => ?_) AllReadyH.nil
        go_simp
        go_at_call 17
        refine (HHS.out _).mono ?_
        rintro e y1 ⟨rfl, hB⟩
        have hN : Below wr.heap.size wr y1 := go_on hH0 hB
        clear hB
        go_wp2_with fail
        refine hK.out _ _ hN (fun hH1 => ?_)
        clear hN
        clear hK K
        refine wpAnyH_take (i := 24) (oi := { dst := some 39, op := Go.Op.unOp Go.UnOp.not 4 (Go.Operand.tmp 38), type := 4, pos := "states.go:62", after := #[{ on := 23, ground := Go.Ground.data }], guard := none }) (v := ?_) rfl (by kernel_rfl) (by kernel_rfl) (by kernel_rfl) (fun _ _ _ h => h) (Or.inl ⟨by rfl, ?_⟩) (by assumption) ?_
        rotate_left
        · intro w' hS; go_simp; (try with_reducible rfl)
        simp only [Act.put, List.setIfInBounds_toArray, List.set_cons_zero, List.set_cons_succ]
        refine wpAnyH_done (by kernel_rfl) ?_ _
        go_wp2_with fail
        go_roundw
        case rel =>
          refine ⟨c + 1, by go_num, by have := HLT.out; omega, fun d hd => ?_, go_on HC0.out hH1⟩
          by_cases q : d = c
          · rw [q, HBIT.out]
          · exact HALL.out d (by omega)
        case measure => have := HLT.out; simp [Go.RowKit.intOf]; omega
      | false =>
        have HV : Hid (tkO A L s t = true) := by
          show _ = _
          cases z : tkO A L s t with
          | true => rfl
          | false =>
            have := tkO_no.1 z c HLT.out
            rw [HBIT.out] at this
            cases this
        refine wp_region_held_drew (S := fun w' => Below wr.heap.size wr w') (by kernel_rfl) (Below.refl _ _).drew (fun hH0 => ?_)
        generalize wr.drew = y0 at hH0 ⊢
        refine wpAnyH_take (i := 0) (oi := { dst := some 15, op := Go.Op.move (Go.Operand.tmp 1), type := 41, pos := "states.go:62", after := #[], guard := none }) (v := ?_) rfl (by kernel_rfl) (by kernel_rfl) (by kernel_rfl) (fun _ _ _ h => h) (Or.inl ⟨by rfl, ?_⟩) (by assumption) ?_
        rotate_left
        · intro w' hS; go_simp; (try with_reducible rfl)
        simp only [Act.put, List.setIfInBounds_toArray, List.set_cons_zero, List.set_cons_succ]
        refine wpAnyH_take (i := 1) (oi := { dst := some 16, op := Go.Op.fieldAddr 26 (Go.Operand.tmp 4) 1, type := 0, pos := "states.go:62", after := #[], guard := none }) (v := ?_) rfl (by kernel_rfl) (by kernel_rfl) (by kernel_rfl) (fun _ _ _ h => h) (Or.inl ⟨by rfl, ?_⟩) (by assumption) ?_
        rotate_left
        · intro w' hS; go_simp; (try with_reducible rfl)
        simp only [Act.put, List.setIfInBounds_toArray, List.set_cons_zero, List.set_cons_succ]
        refine wpAnyH_take (i := 2) (oi := { dst := some 17, op := Go.Op.load 23 (Go.Operand.tmp 16), type := 23, pos := "states.go:62", after := #[{ on := 1, ground := Go.Ground.data }], guard := none }) (v := .slice (some ⟨gn, on, none⟩) A.nx.length cn) rfl (by kernel_rfl) (by kernel_rfl) (by kernel_rfl) (fun _ _ _ h => h) (Or.inl ⟨by rfl, ?_⟩) (by assumption) ?_
        · intro w' hS; have hz := HBX1.out w' hS; go_simp
        simp only [Act.put, List.setIfInBounds_toArray, List.set_cons_zero, List.set_cons_succ]
        refine wpAnyH_take (i := 3) (oi := { dst := some 18, op := Go.Op.move (Go.Operand.tmp 2), type := 3, pos := "states.go:62", after := #[], guard := none }) (v := ?_) rfl (by kernel_rfl) (by kernel_rfl) (by kernel_rfl) (fun _ _ _ h => h) (Or.inl ⟨by rfl, ?_⟩) (by assumption) ?_
        rotate_left
        · intro w' hS; go_simp; (try with_reducible rfl)
        simp only [Act.put, List.setIfInBounds_toArray, List.set_cons_zero, List.set_cons_succ]
        refine wpAnyH_take (i := 4) (oi := { dst := some 19, op := Go.Op.fieldAddr 26 (Go.Operand.tmp 4) 0, type := 0, pos := "states.go:62", after := #[], guard := none }) (v := ?_) rfl (by kernel_rfl) (by kernel_rfl) (by kernel_rfl) (fun _ _ _ h => h) (Or.inl ⟨by rfl, ?_⟩) (by assumption) ?_
        rotate_left
        · intro w' hS; go_simp; (try with_reducible rfl)
        simp only [Act.put, List.setIfInBounds_toArray, List.set_cons_zero, List.set_cons_succ]
        refine wpAnyH_take (i := 5) (oi := { dst := some 20, op := Go.Op.load 3 (Go.Operand.tmp 19), type := 3, pos := "states.go:62", after := #[{ on := 4, ground := Go.Ground.data }], guard := none }) (v := .int .i64 A.k) rfl (by kernel_rfl) (by kernel_rfl) (by kernel_rfl) (fun _ _ _ h => h) (Or.inl ⟨by rfl, ?_⟩) (by assumption) ?_
        · intro w' hS; have hz := HBX0.out w' hS; go_simp
        simp only [Act.put, List.setIfInBounds_toArray, List.set_cons_zero, List.set_cons_succ]
        refine wpAnyH_take (i := 6) (oi := { dst := some 21, op := Go.Op.binOp Go.BinOp.mul 3 (Go.Operand.tmp 18) (Go.Operand.tmp 20) 3, type := 3, pos := "states.go:62", after := #[{ on := 3, ground := Go.Ground.data }, { on := 5, ground := Go.Ground.data }], guard := none }) (v := ?_) rfl (by kernel_rfl) (by kernel_rfl) (by kernel_rfl) (fun _ _ _ h => h) (Or.inl ⟨by rfl, ?_⟩) (by assumption) ?_
        rotate_left
        · intro w' hS; go_simp; (try with_reducible rfl)
        simp only [Act.put, List.setIfInBounds_toArray, List.set_cons_zero, List.set_cons_succ]
        refine wpAnyH_take (i := 7) (oi := { dst := some 22, op := Go.Op.move (Go.Operand.tmp 9), type := 3, pos := "states.go:62", after := #[], guard := none }) (v := ?_) rfl (by kernel_rfl) (by kernel_rfl) (by kernel_rfl) (fun _ _ _ h => h) (Or.inl ⟨by rfl, ?_⟩) (by assumption) ?_
        rotate_left
        · intro w' hS; go_simp; (try with_reducible rfl)
        simp only [Act.put, List.setIfInBounds_toArray, List.set_cons_zero, List.set_cons_succ]
        refine wpAnyH_take (i := 8) (oi := { dst := some 23, op := Go.Op.binOp Go.BinOp.add 3 (Go.Operand.tmp 21) (Go.Operand.tmp 22) 3, type := 3, pos := "states.go:62", after := #[{ on := 6, ground := Go.Ground.data }, { on := 7, ground := Go.Ground.data }], guard := none }) (v := ?_) rfl (by kernel_rfl) (by kernel_rfl) (by kernel_rfl) (fun _ _ _ h => h) (Or.inl ⟨by rfl, ?_⟩) (by assumption) ?_
        rotate_left
        · intro w' hS; go_simp; (try with_reducible rfl)
        simp only [Act.put, List.setIfInBounds_toArray, List.set_cons_zero, List.set_cons_succ]
        refine wpAnyH_take (i := 9) (oi := { dst := some 24, op := Go.Op.indexAddr 23 (Go.Operand.tmp 17) (Go.Operand.tmp 23), type := 0, pos := "states.go:62", after := #[{ on := 2, ground := Go.Ground.data }, { on := 8, ground := Go.Ground.data }], guard := none }) (v := ?_) rfl (by kernel_rfl) (by kernel_rfl) (by kernel_rfl) (fun _ _ _ h => h) (Or.inl ⟨by rfl, ?_⟩) (by assumption) ?_
        rotate_left
        · intro w' hS; go_simp; (try with_reducible rfl)
        simp only [Act.put, List.setIfInBounds_toArray, List.set_cons_zero, List.set_cons_succ]
        refine wpAnyH_take (i := 10) (oi := { dst := some 25, op := Go.Op.load 3 (Go.Operand.tmp 24), type := 3, pos := "states.go:62", after := #[{ on := 9, ground := Go.Ground.data }], guard := none }) (v := .int .i64 (d1 : Nat)) rfl (by kernel_rfl) (by kernel_rfl) (by kernel_rfl) (fun _ _ _ h => h) (Or.inl ⟨by rfl, ?_⟩) (by assumption) ?_
        · intro w' hS; have hz := HN1.out w' hS; go_simp
        simp only [Act.put, List.setIfInBounds_toArray, List.set_cons_zero, List.set_cons_succ]
        refine wpAnyH_take (i := 11) (oi := { dst := some 26, op := Go.Op.indexAddr 41 (Go.Operand.tmp 15) (Go.Operand.tmp 25), type := 0, pos := "states.go:62", after := #[{ on := 0, ground := Go.Ground.data }, { on := 10, ground := Go.Ground.data }], guard := none }) (v := ?_) rfl (by kernel_rfl) (by kernel_rfl) (by kernel_rfl) (fun _ _ _ h => h) (Or.inl ⟨by rfl, ?_⟩) (by assumption) ?_
        rotate_left
        · intro w' hS; go_simp; (try with_reducible rfl)
        simp only [Act.put, List.setIfInBounds_toArray, List.set_cons_zero, List.set_cons_succ]
        refine wpAnyH_take (i := 12) (oi := { dst := some 27, op := Go.Op.load 55 (Go.Operand.tmp 26), type := 55, pos := "states.go:62", after := #[{ on := 11, ground := Go.Ground.data }], guard := none }) (v := .agg (cellsF (word X))) rfl (by kernel_rfl) (by kernel_rfl) (by kernel_rfl) (fun _ _ _ h => h) (Or.inl ⟨by rfl, ?_⟩) (by assumption) ?_
        · intro w' hS; exact ex_load_at (ad := ⟨g, e1, none⟩) rfl (by first | rfl | (simp; rfl) | simp) (HLD.out w' hS)
        simp only [Act.put, List.setIfInBounds_toArray, List.set_cons_zero, List.set_cons_succ]
        refine wpAnyH_take (i := 13) (oi := { dst := some 28, op := Go.Op.fieldAddr 26 (Go.Operand.tmp 4) 1, type := 0, pos := "states.go:62", after := #[], guard := none }) (v := ?_) rfl (by kernel_rfl) (by kernel_rfl) (by kernel_rfl) (fun _ _ _ h => h) (Or.inl ⟨by rfl, ?_⟩) (by assumption) ?_
        rotate_left
        · intro w' hS; go_simp; (try with_reducible rfl)
        simp only [Act.put, List.setIfInBounds_toArray, List.set_cons_zero, List.set_cons_succ]
        refine wpAnyH_take (i := 14) (oi := { dst := some 29, op := Go.Op.load 23 (Go.Operand.tmp 28), type := 23, pos := "states.go:62", after := #[{ on := 13, ground := Go.Ground.data }], guard := none }) (v := .slice (some ⟨gn, on, none⟩) A.nx.length cn) rfl (by kernel_rfl) (by kernel_rfl) (by kernel_rfl) (fun _ _ _ h => h) (Or.inl ⟨by rfl, ?_⟩) (by assumption) ?_
        · intro w' hS; have hz := HBX1.out w' hS; go_simp
        simp only [Act.put, List.setIfInBounds_toArray, List.set_cons_zero, List.set_cons_succ]
        refine wpAnyH_take (i := 15) (oi := { dst := some 30, op := Go.Op.move (Go.Operand.tmp 3), type := 3, pos := "states.go:62", after := #[], guard := none }) (v := ?_) rfl (by kernel_rfl) (by kernel_rfl) (by kernel_rfl) (fun _ _ _ h => h) (Or.inl ⟨by rfl, ?_⟩) (by assumption) ?_
        rotate_left
        · intro w' hS; go_simp; (try with_reducible rfl)
        simp only [Act.put, List.setIfInBounds_toArray, List.set_cons_zero, List.set_cons_succ]
        refine wpAnyH_take (i := 16) (oi := { dst := some 31, op := Go.Op.fieldAddr 26 (Go.Operand.tmp 4) 0, type := 0, pos := "states.go:62", after := #[], guard := none }) (v := ?_) rfl (by kernel_rfl) (by kernel_rfl) (by kernel_rfl) (fun _ _ _ h => h) (Or.inl ⟨by rfl, ?_⟩) (by assumption) ?_
        rotate_left
        · intro w' hS; go_simp; (try with_reducible rfl)
        simp only [Act.put, List.setIfInBounds_toArray, List.set_cons_zero, List.set_cons_succ]
        refine wpAnyH_take (i := 17) (oi := { dst := some 32, op := Go.Op.load 3 (Go.Operand.tmp 31), type := 3, pos := "states.go:62", after := #[{ on := 16, ground := Go.Ground.data }], guard := none }) (v := .int .i64 A.k) rfl (by kernel_rfl) (by kernel_rfl) (by kernel_rfl) (fun _ _ _ h => h) (Or.inl ⟨by rfl, ?_⟩) (by assumption) ?_
        · intro w' hS; have hz := HBX0.out w' hS; go_simp
        simp only [Act.put, List.setIfInBounds_toArray, List.set_cons_zero, List.set_cons_succ]
        refine wpAnyH_take (i := 18) (oi := { dst := some 33, op := Go.Op.binOp Go.BinOp.mul 3 (Go.Operand.tmp 30) (Go.Operand.tmp 32) 3, type := 3, pos := "states.go:62", after := #[{ on := 15, ground := Go.Ground.data }, { on := 17, ground := Go.Ground.data }], guard := none }) (v := ?_) rfl (by kernel_rfl) (by kernel_rfl) (by kernel_rfl) (fun _ _ _ h => h) (Or.inl ⟨by rfl, ?_⟩) (by assumption) ?_
        rotate_left
        · intro w' hS; go_simp; (try with_reducible rfl)
        simp only [Act.put, List.setIfInBounds_toArray, List.set_cons_zero, List.set_cons_succ]
        refine wpAnyH_take (i := 19) (oi := { dst := some 34, op := Go.Op.move (Go.Operand.tmp 9), type := 3, pos := "states.go:62", after := #[], guard := none }) (v := ?_) rfl (by kernel_rfl) (by kernel_rfl) (by kernel_rfl) (fun _ _ _ h => h) (Or.inl ⟨by rfl, ?_⟩) (by assumption) ?_
        rotate_left
        · intro w' hS; go_simp; (try with_reducible rfl)
        simp only [Act.put, List.setIfInBounds_toArray, List.set_cons_zero, List.set_cons_succ]
        refine wpAnyH_take (i := 20) (oi := { dst := some 35, op := Go.Op.binOp Go.BinOp.add 3 (Go.Operand.tmp 33) (Go.Operand.tmp 34) 3, type := 3, pos := "states.go:62", after := #[{ on := 18, ground := Go.Ground.data }, { on := 19, ground := Go.Ground.data }], guard := none }) (v := ?_) rfl (by kernel_rfl) (by kernel_rfl) (by kernel_rfl) (fun _ _ _ h => h) (Or.inl ⟨by rfl, ?_⟩) (by assumption) ?_
        rotate_left
        · intro w' hS; go_simp; (try with_reducible rfl)
        simp only [Act.put, List.setIfInBounds_toArray, List.set_cons_zero, List.set_cons_succ]
        refine wpAnyH_take (i := 21) (oi := { dst := some 36, op := Go.Op.indexAddr 23 (Go.Operand.tmp 29) (Go.Operand.tmp 35), type := 0, pos := "states.go:62", after := #[{ on := 14, ground := Go.Ground.data }, { on := 20, ground := Go.Ground.data }], guard := none }) (v := ?_) rfl (by kernel_rfl) (by kernel_rfl) (by kernel_rfl) (fun _ _ _ h => h) (Or.inl ⟨by rfl, ?_⟩) (by assumption) ?_
        rotate_left
        · intro w' hS; go_simp; (try with_reducible rfl)
        simp only [Act.put, List.setIfInBounds_toArray, List.set_cons_zero, List.set_cons_succ]
        refine wpAnyH_take (i := 22) (oi := { dst := some 37, op := Go.Op.load 3 (Go.Operand.tmp 36), type := 3, pos := "states.go:62", after := #[{ on := 21, ground := Go.Ground.data }], guard := none }) (v := .int .i64 (d2 : Nat)) rfl (by kernel_rfl) (by kernel_rfl) (by kernel_rfl) (fun _ _ _ h => h) (Or.inl ⟨by rfl, ?_⟩) (by assumption) ?_
        · intro w' hS; have hz := HN2.out w' hS; go_simp
        simp only [Act.put, List.setIfInBounds_toArray, List.set_cons_zero, List.set_cons_succ]
        refine wpAnyH_ready (rs := [23]) (by kernel_rfl) (by simp) ?_
        refine AllReadyH.cons rfl (fun K hK => ?_) AllReadyH.nil
        go_simp
        go_at_call 17
        refine (HHS.out _).mono ?_
        rintro e y1 ⟨rfl, hB⟩
        have hN : Below wr.heap.size wr y1 := go_on hH0 hB
        clear hB
        go_wp2_with fail
        refine hK.out _ _ hN (fun hH1 => ?_)
        clear hN
        clear hK K
        refine wpAnyH_take (i := 24) (oi := { dst := some 39, op := Go.Op.unOp Go.UnOp.not 4 (Go.Operand.tmp 38), type := 4, pos := "states.go:62", after := #[{ on := 23, ground := Go.Ground.data }], guard := none }) (v := ?_) rfl (by kernel_rfl) (by kernel_rfl) (by kernel_rfl) (fun _ _ _ h => h) (Or.inl ⟨by rfl, ?_⟩) (by assumption) ?_
        rotate_left
        · intro w' hS; go_simp; (try with_reducible rfl)
        simp only [Act.put, List.setIfInBounds_toArray, List.set_cons_zero, List.set_cons_succ]
        refine wpAnyH_done (by kernel_rfl) ?_ _
        go_wp2_with fail
        go_ret
        exact ⟨by rw [HV.out]; rfl, go_on HC.out hH1⟩
    · have hcI : ¬ (c : Int) < A.k := by omega
      have hcd : decide ((c : Int) < A.k) = false := decide_eq_false hcI
      have HV : Hid (tkO A L s t = false) := tkO_no.2 fun d hd => HALL.out d (by omega)
      clear hk
      go_wp2_with fail
      go_ret
      exact ⟨by rw [HV.out]; rfl, HC.out⟩
end Go.Proofs.Ytneiegbodnalbaa

namespace Go.Proofs.Ytneiegbodnalbaa
open Go Go.RowKit Go.Lib Go.Maps
set_option linter.unusedVariables false
attribute [-instance] List.instBEq instBEqProd

theorem Cells8.below {w w' : World} {b : Nat} {f : Nat → Nat} (h : Cells8 w b f) (hb : Below w.heap.size w w') : Cells8 w' b f := h.of_heap (hb.block b h.lt)
theorem st_setRowO {w : World} {b : Nat} {f g : Nat → Nat} (h : Cells8 w b f) : (storeCells ⟨b, 0, none⟩ (cellsF g).toList 0).run Try.prog w = .ok () (w.setRow b (cellsF g)) := st_row h rfl (cellsF_one' g)
theorem Cells8.rowO {w : World} {b : Nat} {f g : Nat → Nat} (h : Cells8 w b f) : Cells8 (w.setRow b (cellsF g)) b g := setRow_heap w b _ _ _ _ h
theorem lv_setO {w : World} {b : Nat} {f : Nat → Nat} (h : Cells8 w b f) : (loadVar 55 ⟨b, 0, none⟩).run Try.prog w = .ok (.agg (cellsF f)) w := run_loadVar_row w b 55 55 _ (0, 0) _ h Try.underlying55 rfl Try.info_set
theorem st_setNewO (w : World) (f : Nat → Nat) : (storeCells ⟨w.heap.size, 0, none⟩ (cellsF f).toList 0).run Try.prog (w.alloc (.cells #[.int .u64 0, .int .u64 0, .int .u64 0, .int .u64 0, .int .u64 0, .int .u64 0, .int .u64 0, .int .u64 0] 55)) = .ok () (w.alloc (.cells (cellsF f) 55)) := by
  have h := st_row (cs := cellsF f) (heap_alloc_new w (.cells #[.int .u64 0, .int .u64 0, .int .u64 0, .int .u64 0, .int .u64 0, .int .u64 0, .int .u64 0, .int .u64 0] 55)) rfl (cellsF_one' f)
  rw [World.setRow_alloc_new] at h
  exact h
section
variable {ops : Array Oper} {rest : List Oper} {o : Oper} {a : Act} {w : World} {Q : Exit → Act → World → Prop}
theorem os_load {x : Operand} {b : Nat} {f : Nat → Nat} (ho : o.op = .load 55 x) (hx : a.eval x = .pointer (some ⟨b, 0, none⟩)) (hg : Cells8 w b f) (hw : Region.wanted o (yielded ops a.tmps) = true) (h : wpList Try.prog ops Q rest (a.put o.dst (.agg (cellsF f))) w) : wpList Try.prog ops Q (o :: rest) a w :=
  wl_yield (ex_load_row ho hx (lv_setO hg)) hw h
theorem oa_load {x : Operand} {ad : Addr} {f : Nat → Nat} (ho : o.op = .load 55 x) (hx : a.eval x = .pointer (some ad)) (hg : (loadVar 55 ad).run Try.prog w = .ok (.agg (cellsF f)) w) (hw : Region.wanted o (yielded ops a.tmps) = true) (h : wpList Try.prog ops Q rest (a.put o.dst (.agg (cellsF f))) w) : wpList Try.prog ops Q (o :: rest) a w :=
  wl_yield (ex_load_at ho hx hg) hw h
end

theorem withoutN_small {X i : Nat} (h : i < 512) : withoutN X (i : Nat) = butN X (2 ^ i) ∧ oneE (i : Nat) = 0 := by
  unfold withoutN oneE
  rw [if_pos (by omega), if_pos (by omega), Int.toNat_natCast]
  exact ⟨rfl, rfl⟩
theorem withN_small {X i : Nat} (h : i < 512) : withN X (i : Nat) = X ||| 2 ^ i ∧ oneE (i : Nat) = 0 := by
  unfold withN oneE
  rw [if_pos (by omega), if_pos (by omega), Int.toNat_natCast]
  exact ⟨rfl, rfl⟩

/-- A set that has lost what a letter takes out. -/
structure KX (w : World) (A : Aut) (L : List Nat) (s t N ob : Nat) (arr : Array Value) (wr : World) : Prop where
  num : kpN A L s t N
  set : Cells8 wr ob (word N)
  row : RowAt wr w.heap.size arr
  out : Cells8 wr (w.heap.size + 1) (fun _ => 0)
  below : Below w.heap.size w wr
  ob : ob = w.heap.size + 2
theorem KX.call {w : World} {A : Aut} {L : List Nat} {s t N ob : Nat} {arr : Array Value} {wr wx : World} (h : KX w A L s t N ob arr wr) (hb : Below wr.heap.size wr wx) : KX w A L s t N ob arr wx :=
  ⟨h.num, h.set.below hb, h.row.stay hb, h.out.below hb, go_on h.below hb, h.ob⟩
theorem KX.put {w : World} {A : Aut} {L : List Nat} {s t N N' ob : Nat} {arr : Array Value} {wr : World} (h : KX w A L s t N ob arr wr) (hn : kpN A L s (t + 1) N') : KX w A L s (t + 1) N' ob arr (wr.setRow ob (cellsF (word N'))) := by
  have ho := h.ob
  exact ⟨hn, h.set.rowO, rowAt_keep h.row (by rw [size_setRow]; exact Nat.le_refl _) (setRow_other _ _ _ _ (by omega)), h.out.of_heap (setRow_other _ _ _ _ (by omega)), below_row h.below (by omega), ho⟩
theorem kpN.stay {A : Aut} {L : List Nat} {s t N : Nat} (h : kpN A L s t N) (hb : N.testBit t = true → tkO A L s t = false) : kpN A L s (t + 1) N := by
  intro u
  by_cases q : u = t
  · subst q
    have := h u
    rw [decide_eq_false (by omega), Bool.false_and, Bool.not_false, Bool.and_true] at this
    rw [decide_eq_true (by omega), Bool.true_and]
    cases z : N.testBit u with
    | true => rw [z] at this; rw [← this, hb z]; rfl
    | false => rw [z] at this; rw [← this]; rfl
  · rw [h u]
    by_cases k : u < t
    · rw [decide_eq_true k, decide_eq_true (by omega)]
    · rw [decide_eq_false k, decide_eq_false (by omega)]
theorem kpN.drop {A : Aut} {L : List Nat} {s t N : Nat} (h : kpN A L s t N) (hb : tkO A L s t = true) : kpN A L s (t + 1) (butN N (2 ^ t)) := by
  intro u
  rw [testBit_but, Nat.testBit_two_pow]
  by_cases q : u = t
  · subst q
    rw [decide_eq_true rfl, decide_eq_true (by omega), hb]
    simp
  · rw [decide_eq_false (fun e => q e.symm), Bool.not_false, Bool.and_true, h u]
    by_cases k : u < t
    · rw [decide_eq_true k, decide_eq_true (by omega)]
    · rw [decide_eq_false k, decide_eq_false (by omega)]
theorem kpN.zero (A : Aut) (L : List Nat) (s : Nat) : kpN A L s 0 (L.getD s 0) := fun u => by rw [decide_eq_false (by omega)]; simp

set_option maxHeartbeats 4000000 in
set_option maxRecDepth 100000 in
theorem kept_any {w : World} {v : Value} {A : Aut} {g cap : Nat} {L : List Nat} (h : AR w v A) (G : Good A) (h64 : A.ac.length ≤ 64) (hL : LS w g L) (hl : L.length = A.ac.length) (s : Nat) (hs : s < A.ac.length) :
    Calls Try.prog 57 #[v, .slice (some ⟨g, 0, none⟩) L.length cap, .int .i64 (s : Nat)] w fun e w' => ∃ N, e = .returned (.agg (cellsF (word N))) ∧ kpN A L s A.ac.length N ∧ Below w.heap.size w w' := by
  have HTK : Hid (∀ y t, Below w.heap.size w y → t < A.ac.length → Calls Try.prog 82 #[v, .slice (some ⟨g, 0, none⟩) L.length cap, .int .i64 (s : Nat), .int .i64 (t : Nat)] y fun e w' => e = .returned (.bool (tkO A L s t)) ∧ Below y.heap.size y w') := fun y t hy ht => takes_any (h.stay hy) G h64 (hL.below hy) hl s t hs ht
  obtain ⟨an, cn, aa, ca, e, h1, h2⟩ := h.is
  subst e
  obtain ⟨arr, harr⟩ : ∃ arr : Array Value, arr = #[.int .i64 A.k, .slice an A.nx.length cn, .slice aa A.ac.length ca] := ⟨_, rfl⟩
  obtain ⟨X, hX⟩ : ∃ X, L.getD s 0 = X := ⟨_, rfl⟩
  obtain ⟨W, hW⟩ : ∃ W, W = (w.alloc (.cells #[.int .i64 A.k, .slice an A.nx.length cn, .slice aa A.ac.length ca] 26)).alloc (.cells #[.int .u64 0, .int .u64 0, .int .u64 0, .int .u64 0, .int .u64 0, .int .u64 0, .int .u64 0, .int .u64 0] 55) := ⟨_, rfl⟩
  have HW : Hid (W = (w.alloc (.cells #[.int .i64 A.k, .slice an A.nx.length cn, .slice aa A.ac.length ca] 26)).alloc (.cells #[.int .u64 0, .int .u64 0, .int .u64 0, .int .u64 0, .int .u64 0, .int .u64 0, .int .u64 0, .int .u64 0] 55)) := hW
  have hBW : Below w.heap.size w W := by rw [hW]; exact go_on (below_new _ _) (below_new _ _)
  have hsz : W.heap.size = w.heap.size + 2 := by rw [hW]; simp
  have HLD : Hid ((loadVar 55 ⟨g, s * 8, none⟩).run Try.prog W = .ok (.agg (cellsF (word X))) W) := by show _ = _; rw [← hX]; exact (hL.below hBW).load (by omega) rfl
  have HKX : Hid (KX w A L s 0 X W.heap.size arr (W.alloc (.cells (cellsF (word X)) 55))) := by
    have hr : RowAt W w.heap.size arr := by rw [hW, harr]; exact (RowAt.last _ _ _).stay (below_new _ _)
    have ho : Cells8 W (w.heap.size + 1) (fun _ => 0) := by
      rw [hW]
      have := Cells8.last (w.alloc (.cells #[.int .i64 A.k, .slice an A.nx.length cn, .slice aa A.ac.length ca] 26)) (fun _ => 0)
      rw [World.size_alloc] at this
      exact this
    refine ⟨by rw [← hX]; exact kpN.zero A L s, Cells8.last _ _, hr.alloc _, ho.alloc _, go_on hBW (below_new _ _), hsz⟩
  have hst := st_setNewO W (word X)
  have HA : Hid (arr = #[.int .i64 A.k, .slice an A.nx.length cn, .slice aa A.ac.length ca]) := harr
  have hsI : (s : Int) < L.length := by omega
  have HLL : Hid (L.length = A.ac.length ∧ A.ac.length ≤ 64) := ⟨hl, h64⟩
  clear h h1 h2 hW hL hX hBW harr hsz hl
  go_enter Try.func57, Try.ntmps57
  go_upto_region 1 with fail
  rw [← HW.out]
  go_wp2_with (refine oa_load (ad := ⟨g, s * 8, none⟩) rfl rfl HLD.out rfl ?_)
  clear hst
  go_loopw [15] (fun vt wr => ∃ t N : Nat, vt = .int .i64 (t : Nat) ∧ t ≤ A.ac.length ∧ KX w A L s t N W.heap.size arr wr) (fun vt _ => A.ac.length - (Go.RowKit.intOf vt).toNat)
  case atStart => exact ⟨0, X, rfl, Nat.zero_le _, HKX.out⟩
  case round =>
    obtain ⟨t, N, rfl, ht, hkx⟩ := hrel
    have HK : Hid (KX w A L s t N W.heap.size arr wr) := hkx
    obtain ⟨ob, hob⟩ : ∃ ob, W.heap.size = ob := ⟨_, rfl⟩
    have HOB : Hid (W.heap.size = ob) := hob
    rw [hob] at HK ⊢
    clear hkx hob
    have hll := HLL.out
    by_cases hlt : t < A.ac.length
    · have hiI : (t : Int) < L.length := by omega
      have hid : decide ((t : Int) < L.length) = true := decide_eq_true hiI
      have HT : Hid (t < A.ac.length) := hlt
      have ht5 : t < 512 := by omega
      have HHS : Hid (∀ y, Calls Try.prog 17 #[.agg (cellsF (word N)), .int .i64 (t : Nat)] y fun e w' => e = .returned (.bool (N.testBit t)) ∧ Below y.heap.size y w') := fun y => by
        have q := has_any N (t : Nat) y
        rwa [hasN_small (by omega)] at q
      have HWO : Hid (∀ y, Calls Try.prog 83 #[.agg (cellsF (word N)), .int .i64 (t : Nat)] y fun e w' => e = .returned (.tuple #[.agg (cellsF (word (butN N (2 ^ t)))), .int .i64 0]) ∧ Below y.heap.size y w') := fun y => by
        have q := without_any N (t : Nat) y
        rw [(withoutN_small (X := N) (i := t) (by omega)).1, (withoutN_small (X := N) (i := t) (by omega)).2] at q
        exact q
      obtain ⟨N', hN'⟩ : ∃ N', butN N (2 ^ t) = N' := ⟨_, rfl⟩
      rw [hN'] at HWO
      have HNE : Hid (butN N (2 ^ t) = N') := hN'
      obtain ⟨b1, hb1⟩ : ∃ b, N.testBit t = b := ⟨_, rfl⟩
      obtain ⟨b2, hb2⟩ : ∃ b, tkO A L s t = b := ⟨_, rfl⟩
      rw [hb1] at HHS
      have HTT : Hid (∀ y, Below w.heap.size w y → Calls Try.prog 82 #[.agg #[.int .i64 A.k, .slice an A.nx.length cn, .slice aa A.ac.length ca], .slice (some ⟨g, 0, none⟩) L.length cap, .int .i64 (s : Nat), .int .i64 (t : Nat)] y fun e w' => e = .returned (.bool b2) ∧ Below y.heap.size y w') := fun y hy => by
        have q := HTK.out y t hy hlt
        rwa [hb2] at q
      have HB12 : Hid (N.testBit t = b1 ∧ tkO A L s t = b2) := ⟨hb1, hb2⟩
      clear hb1 hb2 hN' hlt hll ht
      cases b1 with
      | false =>
        go_wp2_with (first | (refine os_load rfl rfl HK.out.set rfl ?_) | (go_at_call 17; refine (HHS.out _).mono ?_; rintro e y1 ⟨rfl, hb⟩; have HK1 : Hid (KX w A L s t N ob arr y1) := HK.out.call hb; clear hb))
        go_roundw
        case rel => exact ⟨t + 1, N, by go_num, HT.out, by exact ⟨HK1.out.num.stay (fun q => by rw [HB12.out.1] at q; cases q), HK1.out.set, HK1.out.row, HK1.out.out, HK1.out.below, HK1.out.ob⟩⟩
        case measure => have := HT.out; simp [Go.RowKit.intOf]; omega
      | true =>
        cases b2 with
        | false =>
          go_wp2_with (first | (refine os_load rfl rfl HK.out.set rfl ?_) | (go_at_call 17; refine (HHS.out _).mono ?_; rintro e y1 ⟨rfl, hb⟩; have HK1 : Hid (KX w A L s t N ob arr y1) := HK.out.call hb; have cs1 := HK1.out.row.cell; rw [HA.out] at cs1; clear hb) | (go_at_call 82; refine (HTT.out _ HK1.out.below).mono ?_; rintro e y2 ⟨rfl, hb⟩; have HK2 : Hid (KX w A L s t N ob arr y2) := HK1.out.call hb; clear hb cs1))
          go_roundw
          case rel => exact ⟨t + 1, N, by go_num, HT.out, by exact ⟨HK2.out.num.stay (fun _ => HB12.out.2), HK2.out.set, HK2.out.row, HK2.out.out, HK2.out.below, HK2.out.ob⟩⟩
          case measure => have := HT.out; simp [Go.RowKit.intOf]; omega
        | true =>
          go_wp2_with (first | (refine os_load rfl rfl HK.out.set rfl ?_) | (refine os_load rfl rfl HK2.out.set rfl ?_) | (go_at_call 17; refine (HHS.out _).mono ?_; rintro e y1 ⟨rfl, hb⟩; have HK1 : Hid (KX w A L s t N ob arr y1) := HK.out.call hb; have cs1 := HK1.out.row.cell; rw [HA.out] at cs1; clear hb) | (go_at_call 82; refine (HTT.out _ HK1.out.below).mono ?_; rintro e y2 ⟨rfl, hb⟩; have HK2 : Hid (KX w A L s t N ob arr y2) := HK1.out.call hb; clear hb cs1) | (go_at_call 83; refine (HWO.out _).mono ?_; rintro e y3 ⟨rfl, hb⟩; have HK3 : Hid (KX w A L s t N ob arr y3) := HK2.out.call hb; have hst := st_setRowO (g := word N') HK3.out.set; clear hb))
          go_roundw
          case rel => exact ⟨t + 1, N', by go_num, HT.out, by exact HK3.out.put (by rw [← HNE.out]; exact HK3.out.num.drop HB12.out.2)⟩
          case measure => have := HT.out; simp [Go.RowKit.intOf]; omega
    · have hiI : ¬ (t : Int) < L.length := by omega
      have hid : decide ((t : Int) < L.length) = false := decide_eq_false hiI
      have e : t = A.ac.length := by omega
      have HN : Hid (kpN A L s A.ac.length N) := by rw [← e]; exact HK.out.num
      have hst := st_setRowO (g := word N) HK.out.out
      clear e hll
      go_wp2_with (refine os_load rfl rfl HK.out.set rfl ?_)
      exact bodyPost_ret (results_set rfl rfl HK.out.out.rowO) rfl ⟨N, rfl, HN.out, below_row HK.out.below (by omega)⟩
end Go.Proofs.Ytneiegbodnalbaa

namespace Go.Proofs.Ytneiegbodnalbaa
open Go Go.RowKit Go.Lib Go.Maps
set_option linter.unusedVariables false
attribute [-instance] List.instBEq instBEqProd

theorem Try.info_setL : (Try.prog.info? 55).map (fun i => (i.zero, i.size, i.bytes)) = some (some (.agg (cellsF fun _ => 0)), 8, 64) := by kernel_rfl

/-- A row for n sets, of which the first ones are laid. -/
def LP (w : World) (g n : Nat) (L : List Nat) : Prop := ∃ cur : Array Value, w.heap[g]? = some (.cells cur 55 (0, 0)) ∧ n * 8 ≤ cur.size ∧ ∀ i, i < L.length → ∀ j, j < 8 → cur[i * 8 + j]? = (cellsF (word (L.getD i 0)))[j]?
theorem LP.keep {w w' : World} {g n : Nat} {L : List Nat} (h : LP w g n L) (e : w'.heap[g]? = w.heap[g]?) : LP w' g n L := by
  obtain ⟨cur, h1, h2, h3⟩ := h
  exact ⟨cur, e.trans h1, h2, h3⟩
theorem LP.lt {w : World} {g n : Nat} {L : List Nat} (h : LP w g n L) : g < w.heap.size := by
  obtain ⟨cur, h1, h2, h3⟩ := h
  exact (Array.getElem?_eq_some_iff.1 h1).1
theorem LP.below {w w' : World} {g n : Nat} {L : List Nat} (h : LP w g n L) (hb : Below w.heap.size w w') : LP w' g n L := h.keep (hb.block g h.lt)
theorem LP.ls {w : World} {g n : Nat} {L : List Nat} (h : LP w g n L) (hl : L.length ≤ n) : LS w g L := by
  obtain ⟨cur, h1, h2, h3⟩ := h
  exact ⟨cur, h1, by omega, h3⟩
theorem LP.store {y : World} {g n : Nat} {L : List Nat} (h : LP y g n L) {i : Nat} (hi : i < n) (f : Nat → Nat) : (storeCells ⟨g, i * 8, none⟩ (cellsF f).toList 0).run Try.prog y = .ok () (pw y g (i * 8) (cellsF f)) := by
  obtain ⟨cur, h1, h2, h3⟩ := h
  have h8 : (cellsF f).size = 8 := rfl
  exact st_pw h1 (by omega) (cellsF_one' f)
theorem LP.put {y : World} {g n : Nat} {L K : List Nat} (h : LP y g n K) (hk : L.length ≤ K.length) (he : ∀ i, i < L.length → K.getD i 0 = L.getD i 0) {X : Nat} (hi : L.length < n) : LP (pw y g (L.length * 8) (cellsF (word X))) g n (L ++ [X]) := by
  obtain ⟨cur, h1, h2, h3⟩ := h
  have h8 : (cellsF (word X)).size = 8 := rfl
  refine ⟨_, pw_heap h1, by rw [splice_size (by omega)]; exact h2, fun c hc j hj => ?_⟩
  rw [List.length_append, List.length_singleton] at hc
  rw [splice_get (by omega)]
  by_cases q : c = L.length
  · subst q
    rw [if_neg (by omega), if_pos (by omega)]
    have e : (L ++ [X]).getD L.length 0 = X := by simp [List.getD_eq_getElem?_getD]
    rw [e]
    congr 1
    omega
  · rw [if_pos (by omega), h3 c (by omega) j hj]
    have e : (L ++ [X]).getD c 0 = L.getD c 0 := by rw [List.getD_eq_getElem?_getD, List.getElem?_append_left (by omega), ← List.getD_eq_getElem?_getD]
    rw [e, he c (by omega)]

/-- The set of a state that has lost what the empty word takes out. -/
def ewS (A : Aut) (s X : Nat) : Prop := ∀ t, X.testBit t = (decide (t < A.ac.length) && (! aN A s || aN A t))
theorem ewS.mk0 {A : Aut} {s : Nat} (h : aN A s = false) : ewS A s (allN A.ac.length) := fun t => by rw [testBit_all, h]; simp
theorem ewS.mk1 {A : Aut} {s X : Nat} (h : aN A s = true) (hX : ∀ t, X.testBit t = (decide (t < A.ac.length) && aN A t)) : ewS A s X := fun t => by rw [hX, h]; simp
theorem IA.start {A : Aut} {L : List Nat} (hl : L.length = A.ac.length) (h : ∀ s, s < A.ac.length → ewS A s (L.getD s 0)) : IA A L := by
  refine ⟨hl, fun s t hs ht hi => ?_, fun s t hs hb ha => ?_, fun s t hb => ?_⟩
  · rw [h s hs t, decide_eq_true ht, Bool.true_and]
    cases q : aN A s with
    | false => rfl
    | true => rw [hi.eps q]; rfl
  · rw [h s hs t, Bool.and_eq_true, ha] at hb
    simpa using hb.2
  · by_cases q : s < A.ac.length
    · rw [h s q t, Bool.and_eq_true] at hb
      exact of_decide_eq_true hb.1
    · rw [List.getD_eq_getElem?_getD, List.getElem?_eq_none (by omega)] at hb
      simp at hb

/-- What byEmptyWord answers. -/
def EwQ (A : Aut) (w : World) (en : Ending) (w' : World) : Prop :=
  ∃ g L, en = .returned (.slice (some ⟨g, 0, none⟩) A.ac.length A.ac.length) ∧ w.heap.size ≤ g ∧ LS w' g L ∧ IA A L ∧ Below w.heap.size w w'

set_option maxHeartbeats 4000000 in
set_option maxRecDepth 100000 in
theorem byEmptyWord_any {w : World} {A : Aut} {aa : Option Addr} {ca : Nat} (hr : SR w aa (bC A.ac)) (h64 : A.ac.length ≤ 64) :
    Calls Try.prog 55 #[.slice aa A.ac.length ca] w (EwQ A w) := by
  have HR : Hid (SR w aa (bC A.ac)) := hr
  obtain ⟨n, hn⟩ : ∃ n, A.ac.length = n := ⟨_, rfl⟩
  have HN : Hid (A.ac.length = n) := hn
  have hn64 : n ≤ 64 := by omega
  have HN64 : Hid (n ≤ 64) := hn64
  have HBL : Hid (Calls Try.prog 81 #[.int .i64 (n : Nat)] w fun e w' => e = .returned (.tuple #[.agg (cellsF (word (allN n))), .int .i64 0]) ∧ Below w.heap.size w w') := by
    have q := below_any (n : Nat) w
    have e1 : belowN (n : Nat) = allN n := by unfold belowN; rw [if_neg (by omega), Int.toNat_natCast]
    have e2 : belowE (n : Nat) = 0 := by unfold belowE; rw [if_neg (by omega)]
    rw [e1, e2] at q
    exact q
  obtain ⟨Al, hAl⟩ : ∃ X, allN n = X := ⟨_, rfl⟩
  rw [hAl] at HBL
  have HAL : Hid (allN A.ac.length = Al) := by show _ = _; rw [hn, hAl]
  obtain ⟨Q, hQ⟩ : ∃ Q, EwQ A w = Q := ⟨_, rfl⟩
  have HQE : Hid (EwQ A w = Q) := hQ
  rw [hQ]
  obtain ⟨i0, hi0, hz0, hz1, hz2⟩ := info_parts Try.info_setL
  rw [hn]
  clear hr hAl hn h64 hQ
  go_enter Try.func55, Try.ntmps55
  go_wp2_with (go_at_call 81; refine HBL.out.mono ?_; rintro e y1 ⟨rfl, hb⟩; have HY : Hid (Below w.heap.size w y1) := hb; have hst := st_setNewO y1 (word Al); clear hb)
  clear hst
  have hcz : (#[.int .u64 0, .int .u64 0, .int .u64 0, .int .u64 0, .int .u64 0, .int .u64 0, .int .u64 0, .int .u64 0] : Array Value) = cellsF (fun _ => 0) := rfl
  obtain ⟨W, hW⟩ : ∃ W, W = (y1.alloc (.cells (cellsF (word Al)) 55)).alloc (.cells #[.int .u64 0, .int .u64 0, .int .u64 0, .int .u64 0, .int .u64 0, .int .u64 0, .int .u64 0, .int .u64 0] 55) := ⟨_, rfl⟩
  rw [← hW]
  obtain ⟨B, hB⟩ : ∃ B, y1.heap.size = B := ⟨_, rfl⟩
  rw [hB]
  have HB : Hid (w.heap.size ≤ B) := by have := HY.out.size; show _ ≤ _; omega
  have HBW : Hid (Below w.heap.size w W) := by show Below _ _ _; rw [hW]; exact go_on (go_on HY.out (below_new _ _)) (below_new _ _)
  have HC1 : Hid (Cells8 W B (word Al)) := by
    show Cells8 _ _ _
    rw [hW, ← hB]
    exact (Cells8.last y1 (word Al)).alloc _
  have HC2 : Hid (Cells8 W (B + 1) (word 0)) := by
    show Cells8 _ _ _
    have q := Cells8.last (y1.alloc (.cells (cellsF (word Al)) 55)) (fun _ => 0)
    rw [World.size_alloc, hB] at q
    rw [hW]
    exact q.congr (fun k _ => (word_zero k).symm)
  clear hW hB hcz
  go_loopw [19] (fun vt wr => ∃ k X : Nat, vt = .int .i64 (k : Nat) ∧ k ≤ n ∧ (∀ t, X.testBit t = (decide (t < k) && aN A t)) ∧ Cells8 wr (B + 1) (word X) ∧ Cells8 wr B (word Al) ∧ Below w.heap.size w wr) (fun vt _ => n - (Go.RowKit.intOf vt).toNat)
  case atStart => exact ⟨0, 0, rfl, Nat.zero_le _, fun t => by rw [decide_eq_false (by omega)]; simp, HC2.out, HC1.out, HBW.out⟩
  case round =>
    clear HC1 HC2 HBW
    obtain ⟨k, X, rfl, hk, hx, h5, h3, hb⟩ := hrel
    have HX : Hid (∀ t, X.testBit t = (decide (t < k) && aN A t)) := hx
    have H5 : Hid (Cells8 wr (B + 1) (word X)) := h5
    have H3 : Hid (Cells8 wr B (word Al)) := h3
    have HC : Hid (Below w.heap.size w wr) := hb
    clear hx h5 h3 hb
    by_cases hlt : k < n
    · have hkI : (k : Int) < n := by omega
      have hkd : decide ((k : Int) < n) = true := decide_eq_true hkI
      have hk5 : k < 512 := by omega
      have HK : Hid (k < n) := hlt
      obtain ⟨ga, oa, rfl, _, hc⟩ := (HR.out.stay HC.out).bool (i := k) (by have := HN.out; omega)
      obtain ⟨b, hbv⟩ : ∃ b, A.ac.getD k false = b := ⟨_, rfl⟩
      have HBV : Hid (aN A k = b) := hbv
      rw [hbv] at hc
      have HWI : Hid (∀ y, Calls Try.prog 50 #[.agg (cellsF (word X)), .int .i64 (k : Nat)] y fun e w' => e = .returned (.tuple #[.agg (cellsF (word (X ||| 2 ^ k))), .int .i64 0]) ∧ Below y.heap.size y w') := fun y => by
        have q := with_any X (k : Nat) y
        rw [(withN_small (X := X) (i := k) hk5).1, (withN_small (X := X) (i := k) hk5).2] at q
        exact q
      obtain ⟨X', hX'⟩ : ∃ X', X ||| 2 ^ k = X' := ⟨_, rfl⟩
      rw [hX'] at HWI
      have HXX : Hid (X ||| 2 ^ k = X') := hX'
      clear hbv hX' hlt hk
      cases b with
      | false =>
        go_wp2_with fail
        go_roundw
        case rel =>
          refine ⟨k + 1, X, by go_num, HK.out, fun t => ?_, H5.out, H3.out, HC.out⟩
          rw [HX.out t]
          by_cases q : t = k
          · subst q; rw [HBV.out]; simp
          · by_cases q2 : t < k
            · rw [decide_eq_true q2, decide_eq_true (by omega)]
            · rw [decide_eq_false q2, decide_eq_false (by omega)]
        case measure => have := HK.out; simp [Go.RowKit.intOf]; omega
      | true =>
        go_wp2_with (first | (refine os_load rfl rfl H5.out rfl ?_) | (go_at_call 50; refine (HWI.out _).mono ?_; rintro e y2 ⟨rfl, hb⟩; have H5Y : Hid (Cells8 y2 (B + 1) (word X)) := H5.out.below hb; have H3Y : Hid (Cells8 y2 B (word Al)) := H3.out.below hb; have HCY : Hid (Below w.heap.size w y2) := go_on HC.out hb; have hst := st_setRowO (g := word X') H5Y.out; clear hb))
        go_roundw
        case rel =>
          refine ⟨k + 1, X', by go_num, HK.out, fun t => ?_, H5Y.out.rowO, H3Y.out.of_heap (setRow_other _ _ _ _ (by omega)), below_row HCY.out (by have := HB.out; omega)⟩
          rw [← HXX.out, Nat.testBit_or, Nat.testBit_two_pow, HX.out t]
          by_cases q : t = k
          · subst q; rw [HBV.out]; simp
          · rw [decide_eq_false (fun (e : k = t) => q e.symm), Bool.or_false]
            by_cases q2 : t < k
            · rw [decide_eq_true q2, decide_eq_true (by omega)]
            · rw [decide_eq_false q2, decide_eq_false (by omega)]
        case measure => have := HK.out; simp [Go.RowKit.intOf]; omega
    · have hkI : ¬ (k : Int) < n := by omega
      have hkd : decide ((k : Int) < n) = false := decide_eq_false hkI
      have HXX : Hid (∀ t, X.testBit t = (decide (t < A.ac.length) && aN A t)) := fun t => by rw [HX.out t]; have := HN.out; rw [show k = A.ac.length by omega]
      clear hlt hk HX
      go_wp2_with (at_make; refine wpList_make_full _ rfl _ _ 41 rfl w.heap.size 55 i0 (.agg (cellsF fun _ => 0)) 8 Try.underlying41 hi0 hz0 hz1 .i64 .i64 (n : Int) (n : Int) n rfl rfl rfl rfl (by rw [hz2]; omega) (by unfold maxLen; omega) (by have := HC.out.size; omega) ?_; intro w1 hown hgr)
      have H5' : Hid (Cells8 w1 (B + 1) (word X)) := H5.out.of_heap (hgr.block _ H5.out.lt (by simp))
      have H3' : Hid (Cells8 w1 B (word Al)) := H3.out.of_heap (hgr.block _ H3.out.lt (by simp))
      have HC' : Hid (Below w.heap.size w w1) := HC.out.grown hgr HC.out.size (fun b hb => by cases hb)
      have HP' : Hid (LP w1 wr.heap.size n []) := by
        rcases hown.2 with ⟨h1, _⟩ | ⟨g, cap, cur, h1, r1, r2, r3, r4⟩
        · cases h1
        · simp only [Value.slice.injEq, Option.some.injEq, Addr.mk.injEq] at h1
          obtain ⟨⟨rfl, _⟩, _, rfl⟩ := h1
          exact ⟨cur, r2, by omega, fun c hc => absurd hc (by simp)⟩
      have HGB : Hid (B + 1 < wr.heap.size) := H5.out.lt
      have HGW : Hid (w.heap.size ≤ wr.heap.size) := HC.out.size
      obtain ⟨g, hg⟩ : ∃ g, wr.heap.size = g := ⟨_, rfl⟩
      rw [hg] at HP' HGB HGW ⊢
      clear hown hgr hg H5 H3 HC
      go_loopw [37] (fun vt wr => ∃ (k : Nat) (L : List Nat), vt = .int .i64 (k : Nat) ∧ k ≤ n ∧ L.length = k ∧ (∀ s, s < k → ewS A s (L.getD s 0)) ∧ LP wr g n L ∧ Cells8 wr (B + 1) (word X) ∧ Cells8 wr B (word Al) ∧ Below w.heap.size w wr) (fun vt _ => n - (Go.RowKit.intOf vt).toNat)
      case atStart => exact ⟨0, [], rfl, Nat.zero_le _, rfl, fun s hs => absurd hs (by omega), HP'.out, H5'.out, H3'.out, HC'.out⟩
      case round =>
        clear H5' H3' HC' HP'
        obtain ⟨k, L, rfl, hk, hl, hs, hp, h5, h3, hb⟩ := hrel
        have HS : Hid (∀ s, s < k → ewS A s (L.getD s 0)) := hs
        have HL : Hid (L.length = k) := hl
        have HP : Hid (LP wr g n L) := hp
        have H5 : Hid (Cells8 wr (B + 1) (word X)) := h5
        have H3 : Hid (Cells8 wr B (word Al)) := h3
        have HC : Hid (Below w.heap.size w wr) := hb
        clear hs hl hp h5 h3 hb
        by_cases hlt : k < n
        · have hkI : (k : Int) < n := by omega
          have hkd : decide ((k : Int) < n) = true := decide_eq_true hkI
          have hk5 : k < 512 := by omega
          have HK : Hid (k < n) := hlt
          obtain ⟨ga, oa, rfl, _, hc⟩ := (HR.out.stay HC.out).bool (i := k) (by have := HN.out; omega)
          obtain ⟨b, hbv⟩ : ∃ b, A.ac.getD k false = b := ⟨_, rfl⟩
          have HBV : Hid (aN A k = b) := hbv
          rw [hbv] at hc
          have hst := HP.out.store (i := k) hlt (word Al)
          have HP1 : Hid (LP (pw wr g (k * 8) (cellsF (word Al))) g n (L ++ [Al])) := by
            have q := HP.out.put (L := L) (X := Al) (Nat.le_refl _) (fun _ _ => rfl) (by have := HL.out; omega)
            rwa [HL.out] at q
          have H51 : Hid (Cells8 (pw wr g (k * 8) (cellsF (word Al))) (B + 1) (word X)) := H5.out.of_heap (pw_other (by have := HGB.out; omega))
          have H31 : Hid (Cells8 (pw wr g (k * 8) (cellsF (word Al))) B (word Al)) := H3.out.of_heap (pw_other (by have := HGB.out; omega))
          have HC1 : Hid (Below w.heap.size w (pw wr g (k * 8) (cellsF (word Al)))) := pw_below HC.out HGW.out
          clear hbv hlt hk
          cases b with
          | false =>
            go_wp2_with (refine os_load rfl rfl H3.out rfl ?_)
            go_roundw
            case rel =>
              refine ⟨k + 1, L ++ [Al], by go_num, HK.out, by rw [List.length_append, HL.out]; rfl, fun s hs => ?_, HP1.out, H51.out, H31.out, HC1.out⟩
              by_cases q : s = k
              · subst q
                have e : (L ++ [Al]).getD s 0 = Al := by rw [← HL.out]; simp [List.getD_eq_getElem?_getD]
                rw [e, ← HAL.out]
                exact ewS.mk0 HBV.out
              · have e : (L ++ [Al]).getD s 0 = L.getD s 0 := by rw [List.getD_eq_getElem?_getD, List.getElem?_append_left (by have := HL.out; omega), ← List.getD_eq_getElem?_getD]
                rw [e]
                exact HS.out s (by omega)
            case measure => have := HK.out; simp [Go.RowKit.intOf]; omega
          | true =>
            have hst2 := HP1.out.store (i := k) HK.out (word X)
            go_wp2_with (first | (refine os_load rfl rfl H3.out rfl ?_) | (refine os_load rfl rfl H51.out rfl ?_))
            go_roundw
            case rel =>
              refine ⟨k + 1, L ++ [X], by go_num, HK.out, by rw [List.length_append, HL.out]; rfl, fun s hs => ?_, ?_, H51.out.of_heap (pw_other (by have := HGB.out; omega)), H31.out.of_heap (pw_other (by have := HGB.out; omega)), pw_below HC1.out HGW.out⟩
              · by_cases q : s = k
                · subst q
                  have e : (L ++ [X]).getD s 0 = X := by rw [← HL.out]; simp [List.getD_eq_getElem?_getD]
                  rw [e]
                  exact ewS.mk1 HBV.out HXX.out
                · have e : (L ++ [X]).getD s 0 = L.getD s 0 := by rw [List.getD_eq_getElem?_getD, List.getElem?_append_left (by have := HL.out; omega), ← List.getD_eq_getElem?_getD]
                  rw [e]
                  exact HS.out s (by omega)
              · have q := HP1.out.put (L := L) (X := X) (by rw [List.length_append]; omega) (fun i hi => by rw [List.getD_eq_getElem?_getD, List.getElem?_append_left hi, ← List.getD_eq_getElem?_getD]) (by have := HL.out; have := HK.out; omega)
                rwa [HL.out] at q
            case measure => have := HK.out; simp [Go.RowKit.intOf]; omega
        · have hkI : ¬ (k : Int) < n := by omega
          have hkd : decide ((k : Int) < n) = false := decide_eq_false hkI
          have HE : Hid (L.length = A.ac.length) := by show _ = _; rw [HL.out, HN.out]; omega
          have HE2 : Hid (L.length ≤ n) := by show _ ≤ _; rw [HL.out]; exact hk
          have HS' : Hid (∀ s, s < A.ac.length → ewS A s (L.getD s 0)) := fun s hs => HS.out s (by have := HE.out; have := HL.out; omega)
          clear hlt hk
          go_wp2_with fail
          rw [← HQE.out]
          unfold EwQ
          rw [HN.out]
          exact ⟨g, L, rfl, HGW.out, HP.out.ls HE2.out, IA.start HE.out HS'.out, HC.out⟩
end Go.Proofs.Ytneiegbodnalbaa

namespace Go.Proofs.Ytneiegbodnalbaa
open Go Go.RowKit Go.Lib Go.Maps
set_option linter.unusedVariables false
attribute [-instance] List.instBEq instBEqProd

/-- Sets, cell by cell. -/
def sC (L : List Nat) : List Value := L.flatMap fun N => (cellsF (word N)).toList
theorem sC_len : ∀ L : List Nat, (sC L).length = L.length * 8
  | [] => rfl
  | a :: M => by
    have := sC_len M
    have h8 : (cellsF (word a)).toList.length = 8 := rfl
    unfold sC at this ⊢
    rw [List.flatMap_cons, List.length_append, this, h8, List.length_cons]
    omega
theorem sC_at : ∀ (L : List Nat) (i : Nat), i < L.length → ∀ j, j < 8 → (sC L)[i * 8 + j]? = (cellsF (word (L.getD i 0))).toList[j]?
  | [], i, h, j, hj => by simp at h
  | a :: M, 0, h, j, hj => by
    have h8 : (cellsF (word a)).toList.length = 8 := rfl
    unfold sC
    rw [List.flatMap_cons, List.getElem?_append_left (by rw [h8]; omega)]
    show _ = (cellsF (word a)).toList[j]?
    congr 1
    omega
  | a :: M, i + 1, h, j, hj => by
    have h8 : (cellsF (word a)).toList.length = 8 := rfl
    have := sC_at M i (by simpa using h) j hj
    unfold sC at this ⊢
    rw [List.flatMap_cons, List.getElem?_append_right (by rw [h8]; omega), h8]
    show _ = (cellsF (word (M.getD i 0))).toList[j]?
    rw [← this]
    congr 1
    omega
theorem LS.flat {w : World} {g : Nat} {L : List Nat} (h : LS w g L) {j : Nat} {u : Value} (hj : (sC L)[j]? = some u) : w.cell? ⟨g, j, none⟩ = some u := by
  obtain ⟨cur, h1, h2, h3⟩ := h
  have hl := (List.getElem?_eq_some_iff.1 hj).1
  rw [sC_len] at hl
  obtain ⟨i, k, hk, rfl⟩ : ∃ i k, k < 8 ∧ j = i * 8 + k := ⟨j / 8, j % 8, by omega, by omega⟩
  rw [cell_of_row _ _ _ _ _ _ h1, h3 i (by omega) k hk, ← hj, sC_at L i (by omega) k hk]
  simp
theorem LS.own {w : World} {base : Nat} {a : Option Addr} {n c : Nat} {L : List Nat} (h : w.ownsRow base 55 8 (.slice a n c) n (sC L)) (hn : n = L.length) (h0 : 1 ≤ L.length) : ∃ g, a = some ⟨g, 0, none⟩ ∧ base ≤ g ∧ LS w g L := by
  have hr := h
  rcases h.2 with ⟨h1, h2⟩ | ⟨g, cap, cur, h1, r0, r1, r2, r3, r4⟩
  · omega
  · simp only [Value.slice.injEq] at h1
    obtain ⟨rfl, _, rfl⟩ := h1
    refine ⟨g, rfl, r0, cur, r1, by omega, fun i hi j hj => ?_⟩
    rw [← cell_of_row _ _ _ _ _ _ r1, hr.cellAt (i * 8 + j) (by omega), sC_at L i hi j hj]
    simp

set_option maxHeartbeats 2000000 in
set_option maxRecDepth 100000 in
theorem cloneS_any {w : World} {g0 : Nat} {L : List Nat} (h : LS w g0 L) (cp : Nat) (h0 : 1 ≤ L.length) (hb : L.length ≤ 64) :
    Calls Try.prog 56 #[.slice (some ⟨g0, 0, none⟩) L.length cp] w fun e w' => ∃ g c, e = .returned (.slice (some ⟨g, 0, none⟩) L.length c) ∧ w.heap.size ≤ g ∧ LS w' g L ∧ Below w.heap.size w w' := by
  obtain ⟨i0, hi, hz0, hz1, hz2⟩ := info_parts Try.info_setL
  have HO : Hid ((w.alloc (.cells #[] 55)).ownsRow w.heap.size 55 8 (.slice (some ⟨w.heap.size, 0, none⟩) 0 0) 0 []) := ⟨rfl, .inr ⟨w.heap.size, 0, #[], rfl, Nat.le_refl _, heap_last _ _, Nat.le_refl _, Nat.zero_le _, rfl, rfl⟩⟩
  have KN : Hid (∀ (j : Nat) (u : Value), (sC L)[j]? = some u → (w.alloc (.cells #[] 55)).cell? ((⟨g0, 0, none⟩ : Addr).add j) = some u) := fun j u hu => by
    have hadd : (⟨g0, 0, none⟩ : Addr).add j = ⟨g0, j, none⟩ := by unfold Addr.add; split <;> simp_all
    rw [hadd, World.cell?_of_block (heap_allo h.lt _)]
    exact h.flat hu
  have HLN : Hid ((sC L).length = L.length * 8) := sC_len L
  have HOC : Hid (∀ u ∈ sC L, u.oneCell' = true) := fun u hu => by
    unfold sC at hu
    obtain ⟨n, _, hm⟩ := List.mem_flatMap.1 hu
    exact Array.all_eq_true_iff_forall_mem.1 (cellsF_one' (word n)) u (by simpa using hm)
  have heq := eq_slice_nil (t := 41) (e := 55) (n := L.length) (c := cp) Try.underlying41 ⟨g0, 0, none⟩ w
  obtain ⟨K, hK⟩ : ∃ K, L.length = K := ⟨_, rfl⟩
  have HK : Hid (L.length = K) := hK
  rw [hK] at h0 hb HLN heq ⊢
  clear h hK
  go_enter Try.func56, Try.ntmps56
  go_wp2_with (at_builtin; refine wpList_append_own_at _ rfl _ _ 41 rfl w.heap.size 55 i0 (.agg (cellsF fun _ => 0)) 8 64 Try.underlying41 hi hz0 hz1 hz2 rfl (by decide) _ _ _ rfl HO.out ⟨g0, 0, none⟩ K cp (sC L) rfl (by rw [HLN.out]) KN.out HOC.out (by unfold maxLen; omega) (by omega) (by simp) ?_; intro v7 w7 ho7 hg7 hn7 hl7)
  have hB : Below w.heap.size w w7 := (below_new w _).grown hg7 (by simp) (fun b hb => by have q : some w.heap.size = some b := hb; simp only [Option.some.injEq] at q; omega)
  obtain ⟨va, vc, rfl⟩ := own_shape ho7
  rw [Nat.zero_add] at ho7
  obtain ⟨g, rfl, hg, hls⟩ := LS.own ho7 HK.out.symm (by rw [HK.out]; omega)
  have HLS : Hid (LS w7 g L) := hls
  have HGW : Hid (w.heap.size ≤ g) := hg
  have HB7 : Hid (Below w.heap.size w w7) := hB
  clear ho7 hg7 hn7 hl7 hB hls hg
  rw [Nat.zero_add]
  go_ret
  exact ⟨g, vc, rfl, HGW.out, HLS.out, HB7.out⟩
end Go.Proofs.Ytneiegbodnalbaa

namespace Go.Proofs.Ytneiegbodnalbaa
open Go Go.RowKit Go.Lib
set_option linter.unusedVariables false
attribute [-instance] List.instBEq instBEqProd

theorem cnt_sub {N M : Nat} (h : ∀ i, N.testBit i = true → M.testBit i = true) : ∀ b, cnt b N ≤ cnt b M
  | 0 => Nat.le_refl _
  | b + 1 => by
    rw [cnt_succ, cnt_succ]
    have := cnt_sub h b
    cases q : N.testBit b with
    | false => rw [if_neg (by simp)]; omega
    | true => rw [h b q]; omega
theorem cnt_less {N M : Nat} (h : ∀ i, N.testBit i = true → M.testBit i = true) {i : Nat} (hM : M.testBit i = true) (hN : N.testBit i = false) : ∀ b, i < b → cnt b N < cnt b M
  | 0, hb => absurd hb (by omega)
  | b + 1, hb => by
    rw [cnt_succ, cnt_succ]
    by_cases e : i = b
    · subst e
      have := cnt_sub h i
      rw [hN, hM, if_neg (by simp), if_pos rfl]
      omega
    · have := cnt_less h hM hN b (by omega)
      cases q : N.testBit b with
      | false => rw [if_neg (by simp)]; omega
      | true => rw [h b q]; omega

/-- How much the sets hold. -/
def wtO (L : List Nat) : Nat → Nat
  | 0 => 0
  | n + 1 => wtO L n + cnt 64 (L.getD n 0)
theorem wtO_sub {L K : List Nat} (h : ∀ s t, (L.getD s 0).testBit t = true → (K.getD s 0).testBit t = true) : ∀ n, wtO L n ≤ wtO K n
  | 0 => Nat.le_refl _
  | n + 1 => by
    have h1 := wtO_sub h n
    have h2 := cnt_sub (h n) 64
    show wtO L n + _ ≤ wtO K n + _
    omega
theorem wtO_less {L K : List Nat} (h : ∀ s t, (L.getD s 0).testBit t = true → (K.getD s 0).testBit t = true) {s t : Nat} (hK : (K.getD s 0).testBit t = true) (hL : (L.getD s 0).testBit t = false) (ht : t < 64) : ∀ n, s < n → wtO L n < wtO K n
  | 0, hn => absurd hn (by omega)
  | n + 1, hn => by
    show wtO L n + _ < wtO K n + _
    by_cases e : s = n
    · subst e
      have h1 := wtO_sub h s
      have h2 := cnt_less (h s) hK hL 64 ht
      omega
    · have h1 := wtO_less h hK hL ht n (by omega)
      have h2 := cnt_sub (h n) 64
      omega

/-- A round: the states from j on are done. -/
structure SwO (A : Aut) (K : List Nat) (j : Nat) (L : List Nat) : Prop where
  ia : IA A L
  sub : ∀ s t, (L.getD s 0).testBit t = true → (K.getD s 0).testBit t = true
  rest : ∀ s, s < j → L.getD s 0 = K.getD s 0
  either : (∃ s, j ≤ s ∧ s < A.ac.length ∧ L.getD s 0 ≠ K.getD s 0) ∨ (L = K ∧ ∀ s, j ≤ s → s < A.ac.length → kpN A K s A.ac.length (K.getD s 0))
theorem SwO.start {A : Aut} {K : List Nat} (h : IA A K) : SwO A K A.ac.length K :=
  ⟨h, fun _ _ q => q, fun _ _ => rfl, .inr ⟨rfl, fun s h1 h2 => by omega⟩⟩
theorem SwO.next {A : Aut} (G : Good A) {K L : List Nat} {j N : Nat} (h : SwO A K (j + 1) L) (hj : j < A.ac.length) (hN : kpN A L j A.ac.length N) : SwO A K j (L.set j N) := by
  have hl := h.ia.len
  have hNL : ∀ t, N.testBit t = true → (L.getD j 0).testBit t = true := fun t q => by rw [hN t, Bool.and_eq_true] at q; exact q.1
  refine ⟨h.ia.kept G hj hN, fun s t q => ?_, fun s hs => ?_, ?_⟩
  · rw [getD_set] at q
    by_cases e : s = j ∧ j < L.length
    · rw [if_pos e] at q
      rw [e.1]
      exact h.sub j t (hNL t q)
    · rw [if_neg e] at q
      exact h.sub s t q
  · rw [getD_set, if_neg (fun e => by omega)]
    exact h.rest s (by omega)
  · rcases h.either with ⟨s, h1, h2, h3⟩ | ⟨h1, h2⟩
    · exact .inl ⟨s, by omega, h2, by rw [getD_set, if_neg (fun e => by omega)]; exact h3⟩
    · by_cases e : N = K.getD j 0
      · right
        rw [h1] at hN hl ⊢
        refine ⟨?_, fun s q1 q2 => ?_⟩
        · rw [e]
          apply List.ext_getElem?
          intro i
          rw [List.getElem?_set]
          by_cases q : j = i
          · subst q
            rw [if_pos rfl, if_pos (by omega), List.getD_eq_getElem?_getD, List.getElem?_eq_getElem (by omega)]
            rfl
          · rw [if_neg q]
        · by_cases q : s = j
          · rw [q, ← e]
            rw [← e] at *
            exact hN
          · exact h2 s (by omega) q2
      · left
        exact ⟨j, Nat.le_refl _, hj, by rw [getD_set, if_pos ⟨rfl, by omega⟩]; exact e⟩

/-- The sets of the document. -/
structure AbV (A : Aut) (L : List Nat) : Prop where
  len : L.length = A.ac.length
  iff : ∀ s t, s < A.ac.length → t < A.ac.length → ((L.getD s 0).testBit t = true ↔ Inc A s t)
  low : ∀ s t, (L.getD s 0).testBit t = true → t < A.ac.length
theorem SwO.same {A : Aut} (G : Good A) {K L : List Nat} (h : SwO A K 0 L) (hs : ∀ s, s < A.ac.length → L.getD s 0 = K.getD s 0) : AbV A L := by
  rcases h.either with ⟨s, _, h2, h3⟩ | ⟨h1, h2⟩
  · exact absurd (hs s h2) h3
  · rw [h1]
    have ia := h.ia
    rw [h1] at ia
    exact ⟨ia.len, fun s t hs ht => ia.done G (fun s hs => h2 s (Nat.zero_le _) hs) hs ht, ia.low⟩
theorem SwO.less {A : Aut} {K L : List Nat} (h : SwO A K 0 L) (h64 : A.ac.length ≤ 64) (hK : IA A K) {s : Nat} (hs : s < A.ac.length) (hne : L.getD s 0 ≠ K.getD s 0) : wtO L A.ac.length < wtO K A.ac.length := by
  have : ∃ t, (K.getD s 0).testBit t = true ∧ (L.getD s 0).testBit t = false := by
    apply Classical.byContradiction
    intro q
    apply hne
    apply Nat.eq_of_testBit_eq
    intro t
    cases z : (L.getD s 0).testBit t with
    | true => rw [h.sub s t z]
    | false =>
      cases y : (K.getD s 0).testBit t with
      | false => rfl
      | true => exact absurd ⟨t, y, z⟩ q
  obtain ⟨t, h1, h2⟩ := this
  exact wtO_less h.sub h1 h2 (by have := hK.low s t h1; omega) _ hs
theorem AbV.fits {A : Aut} {L : List Nat} (h : AbV A L) (h64 : A.ac.length ≤ 64) (s : Nat) : Fits (L.getD s 0) := fun i hi => by
  cases q : (L.getD s 0).testBit i with
  | false => rfl
  | true => have := h.low s i q; omega
end Go.Proofs.Ytneiegbodnalbaa
