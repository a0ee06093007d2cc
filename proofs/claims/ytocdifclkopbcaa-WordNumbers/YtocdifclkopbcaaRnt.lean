/- Contract of the document's Nth at 1 to 8 letters. -/
import Derived.Test.YtocdifclkopbcaaRfn
namespace Go.Proofs.Ytocdifclkopbcaa
open Go.RowKit

theorem nthB_one : ∀ n, nthB 1 n = List.replicate n 97
  | 0 => rfl
  | n + 1 => by
    rw [nthB_succ, Nat.mod_one, Nat.div_one, nthB_one n, List.replicate_succ]
    rfl
theorem nthW_one (n : Nat) : nthW 1 n = List.replicate n 97 := by rw [nthW, nthB_one, List.reverse_replicate]
theorem pow_a (n : Nat) : powL [97] n = List.replicate n 97 := by
  induction n with
  | zero => rfl
  | succ n ih => rw [powL, ih, ← List.replicate_succ']
theorem own_ptr {w : World} {base : Nat} {v : Value} {l : List UInt8} (h : w.ownsRow base 5 1 v l.length (Lib.byteCells l)) (hl : 0 < l.length) : ∃ g cap, v = .slice (some ⟨g, 0, none⟩) l.length cap ∧ base ≤ g := by
  obtain ⟨_, h⟩ := h
  rcases h with ⟨_, hn⟩ | ⟨g, cap, cur, rfl, hb, _⟩
  · omega
  · exact ⟨g, cap, rfl, hb⟩

set_option maxHeartbeats 1000000 in
theorem rnth_one (n : Nat) (w : World) (hn : n < 18446744073709551616) :
    Calls Try.prog 19 #[.int .i64 1, .int .u64 n] w fun e w' =>
      (((nthB 1 n).length ≤ 4096 ∧ e = .returned (.tuple #[.string ⟨(nthW 1 n).toArray⟩, .int .i64 0])) ∨ (4096 < (nthB 1 n).length ∧ e = .returned (.tuple #[.string ⟨#[]⟩, .int .i64 6]))) ∧ Below w.heap.size w w' := by
  have HC : Hid (lett 1 = 0) := lett_ok 1 (by omega) (by omega)
  have HL : Hid ((nthB 1 n).length = n) := by show (nthB 1 n).length = n; rw [nthB_one, List.length_replicate]
  by_cases h : 4096 < n
  · have hI : (4096 : Int) < (n : Int) := by omega
    go_enter Try.func19, Try.ntmps19
    go_wp2_with fail
    refine (letters_any _ _).mono ?_
    rintro e w1 ⟨rfl, rfl⟩
    rw [HC.out]
    go_wp2_with fail
    go_ret2
    exact ⟨.inr ⟨by rw [HL.out]; exact h, rfl⟩, Below.refl _ _⟩
  · have hI : ¬ (4096 : Int) < (n : Int) := by omega
    go_enter Try.func19, Try.ntmps19
    go_wp2_with fail
    refine (letters_any _ _).mono ?_
    rintro e w1 ⟨rfl, rfl⟩
    rw [HC.out]
    go_wp2_with fail
    refine (repeat_any ⟨#[97]⟩ n _ (by omega) (by show 1 * n ≤ _; omega)).mono ?_
    rintro e w2 ⟨rfl, b2⟩
    have e97 : (⟨#[97]⟩ : ByteArray).data.toList = [97] := rfl
    rw [e97, repeat_pow, pow_a, ← nthW_one]
    clear e97
    go_wp2_with fail
    go_ret2
    exact ⟨.inl ⟨by rw [HL.out]; omega, rfl⟩, b2⟩

set_option maxHeartbeats 2000000 in
set_option maxRecDepth 100000 in
theorem rnth_many (k n : Nat) (w : World) (h2 : 2 ≤ k) (h8 : k ≤ 8) (hn : n < 18446744073709551616) :
    Calls Try.prog 19 #[.int .i64 k, .int .u64 n] w fun e w' => e = .returned (.tuple #[.string ⟨(nthW k n).toArray⟩, .int .i64 0]) ∧ Below w.heap.size w w' := by
  have HC : Hid (lett (k : Int) = 0) := lett_ok _ (by omega) (by omega)
  have HSH : Hid ((nthB k n).length ≤ 4096) := nth_short k n h2 hn
  have hk1 : ((k : Int) == 1) = false := by rw [beq_eq_false_iff_ne]; omega
  obtain ⟨i0, hi, hz0, hz1, hz2⟩ := info_parts Try.info_u8
  go_enter Try.func19, Try.ntmps19
  go_wp2_with fail
  refine (letters_any _ _).mono ?_
  rintro e w1 ⟨rfl, hw1⟩
  subst w1
  rw [HC.out]
  go_wp2_with fail
  go_loopw [1, 7] (fun s v wr => ∃ (m : Nat) (l : List UInt8), s = .int .u64 m ∧ m ≤ n ∧ nthB k n = l ++ nthB k m ∧ wr.ownsRow w.heap.size 5 1 v l.length (Lib.byteCells l) ∧ Below w.heap.size w wr)
    (fun s _ _ => (intOf s).toNat)
  case atStart => exact ⟨n, [], rfl, Nat.le_refl _, by simp, World.ownsRow_nil _ _ _ _, Below.refl _ _⟩
  case round =>
    obtain ⟨m, l, rfl, hm, heq, hown, hb⟩ := hrel
    obtain ⟨a, cap, rfl⟩ := own_shape hown
    have hl : l.length ≤ 4096 := by
      have := HSH.out
      rw [heq, List.length_append] at this
      omega
    by_cases hm0 : 0 < m
    · obtain ⟨q, rfl⟩ : ∃ q, m = q + 1 := ⟨m - 1, by omega⟩
      rw [nthB_succ] at heq
      have HE : Hid _ := heq
      clear heq
      have hq : q ≤ 18446744073709551614 := by omega
      have hmod : q % k < k := Nat.mod_lt _ (by omega)
      have HD : Hid _ := digit_val k q (by omega) (by omega)
      go_wp2_with (at_builtin; refine wpList_append_own _ rfl _ _ 65 rfl w.heap.size 5 i0 (.int .u8 0) 1 1 Try.underlying65 hi hz0 hz1 hz2 rfl (by decide) _ _ _ rfl (hown.alloc _) ⟨wr.heap.size, 0, none⟩ 1 1 [.int .u8 (97 + (q : Int) % k)] rfl rfl ?c1 ?c2 ?c3 ?c4 ?c5 ?_)
      case c1 => exact cell_one_new _ _ _
      case c2 => intro u hu; simp at hu; subst hu; rfl
      case c3 => unfold maxLen; omega
      case c4 => omega
      case c5 => have := hb.size; simp; omega
      intro v' w2 hown' hgrow _
      rw [HD.out] at hown'
      have R := own_snoc hown'
      have hb2 : Below w.heap.size w w2 := (hb.alloc hb.size _).grown hgrow (by have := hb.size; simp; omega) (fun g hg => (hown.lt g hg).1)
      clear hown' hgrow hown
      have hdiv : q / k ≤ q := Nat.div_le_self q k
      have hd0 : 0 ≤ (q : Int) / (k : Int) := Int.ediv_nonneg (by omega) (by omega)
      have hd1 : (q : Int) / (k : Int) ≤ 18446744073709551615 := Int.le_trans (Int.ediv_le_self _ (by omega)) (by omega)
      go_wp2
      go_roundw
      case rel => exact ⟨q / k, l ++ [UInt8.ofNat (97 + q % k)], by go_num, by omega, by rw [HE.out]; simp, by simpa using R, hb2⟩
      case measure => simp [intOf]; omega
    · have hz : m = 0 := by omega
      subst hz
      rw [nthB_zero, List.append_nil] at heq
      have HE : Hid (nthB k n = l) := heq
      clear heq
      go_wp2_with fail
      go_loopw [9] (fun vi w2 => ∃ i : Nat, vi = .int .i64 i ∧ 2 * i ≤ l.length ∧ w2.ownsRow w.heap.size 5 1 (.slice a l.length cap) l.length (Lib.byteCells (revTo l i)) ∧ Below w.heap.size w w2) (fun vi _ => l.length - (intOf vi).toNat)
      case atStart => exact ⟨0, rfl, by omega, by rw [revTo_zero]; exact hown, hb⟩
      case round =>
        obtain ⟨i, rfl, hi2, hown2, hb2⟩ := hrel
        by_cases hlt : 2 * i + 1 < l.length
        · have hrl := revTo_length l i
          obtain ⟨g, c2, hv, hg⟩ := own_ptr (l := revTo l i) (by rw [hrl]; exact hown2) (by omega)
          rw [hrl] at hv
          obtain ⟨rfl, rfl⟩ : a = some ⟨g, 0, none⟩ ∧ cap = c2 := by simpa using hv
          clear hv
          have ci := hown2.cellAt i (by omega)
          have cj := hown2.cellAt (l.length - 1 - i) (by omega)
          have fi := hown2.frozenAt i
          have fj := hown2.frozenAt (l.length - 1 - i)
          have R := swap_row hown2 hlt
          rw [byteCells_get _ _ _ (revTo_get l i i (by omega)), if_neg (by omega)] at ci
          rw [byteCells_get _ _ _ (revTo_get l i (l.length - 1 - i) (by omega)), if_neg (by omega)] at cj
          obtain ⟨j, hj⟩ : ∃ j, l.length - 1 - i = j := ⟨_, rfl⟩
          rw [hj] at cj fj R
          have ej : ((l.length : Int) - 1 - i) = (j : Int) := by omega
          have hjl : j < l.length := by omega
          have hil : i < l.length := by omega
          have hne : i ≠ j := by omega
          have HR : Hid _ := R
          clear R hj
          generalize l.getD i 0 = x at *
          generalize l.getD j 0 = y at *
          have hhalf : (i : Int) < (l.length : Int) / 2 := by omega
          go_wp2_with fail
          go_roundw
          case rel => exact ⟨i + 1, by go_num, by omega, HR.out, (hb2.setCell (p := ⟨g, i, none⟩) hg _).setCell (p := ⟨g, j, none⟩) hg _⟩
          case measure => simp [intOf]; omega
        · have hhalf : ¬ (i : Int) < (l.length : Int) / 2 := by omega
          have he := revTo_end l i (by omega)
          rw [he] at hown2
          have hst := run_string_own w.heap.size _ l.reverse _ (by rw [List.length_reverse]; exact hown2)
          have HW : Hid (nthW k n = l.reverse) := by show nthW k n = l.reverse; rw [nthW, HE.out]
          have HRE : Hid _ := he
          clear he hown2
          go_wp2_with fail
          go_ret2
          exact ⟨ret_st2 HW.out.symm rfl, hb2⟩

theorem rnth_any (k n : Nat) (w : World) (h1 : 1 ≤ k) (h8 : k ≤ 8) (hn : n < 18446744073709551616) :
    Calls Try.prog 19 #[.int .i64 k, .int .u64 n] w fun e w' =>
      (((nthB k n).length ≤ 4096 ∧ e = .returned (.tuple #[.string ⟨(nthW k n).toArray⟩, .int .i64 0])) ∨ (4096 < (nthB k n).length ∧ e = .returned (.tuple #[.string ⟨#[]⟩, .int .i64 6]))) ∧ Below w.heap.size w w' := by
  rcases Nat.lt_or_ge k 2 with h | h
  · have e : k = 1 := by omega
    subst e
    exact rnth_one n w hn
  · refine (rnth_many k n w h h8 hn).mono ?_
    rintro e w' ⟨rfl, b⟩
    exact ⟨.inl ⟨nth_short k n h hn, rfl⟩, b⟩

end Go.Proofs.Ytocdifclkopbcaa
