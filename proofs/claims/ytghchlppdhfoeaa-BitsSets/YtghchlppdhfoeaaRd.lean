/- Contracts of the document's Below and Both. -/
import Derived.Test.YtghchlppdhfoeaaRc
namespace Go.Proofs.Ytghchlppdhfoeaa
open Go.RowKit Go.Lib

theorem lst_stop {P m : Nat} (h : ∀ i, m ≤ i → P.testBit i = false) (d : Nat) : lst P (m + d) = lst P m := by
  induction d with
  | zero => rfl
  | succ d ih => rw [← Nat.add_assoc, lst_succ, ih, h (m + d) (by omega)]; simp
theorem of_all {m : Nat} (h : m ≤ 512) : ofN (lst (allN m) m) = allN m ∧ ofE (lst (allN m) m) = 0 := by
  have e : lst (allN m) 512 = lst (allN m) m := by
    have := lst_stop (P := allN m) (m := m) (fun i hi => by rw [testBit_all, decide_eq_false (by omega)]) (512 - m)
    rw [show m + (512 - m) = 512 by omega] at this
    exact this
  rw [← e]
  exact of_lst (fits_all h)

set_option maxHeartbeats 4000000 in
set_option maxRecDepth 100000 in
theorem rbelow_any (n : Int) (w : World) :
    Calls Try.prog 7 #[.int .i64 n] w fun e w' => e = .returned (.tuple #[setV (belowN n), .int .i64 (belowE n)]) ∧ Below w.heap.size w w' := by
  have H8 : Hid (Cells8 (w.alloc (.cells #[.int .u64 0, .int .u64 0, .int .u64 0, .int .u64 0, .int .u64 0, .int .u64 0, .int .u64 0, .int .u64 0] 24)) w.heap.size (fun _ => 0)) := Cells8.last w (fun _ => 0)
  have HW : Hid (Below w.heap.size w (w.alloc (.cells #[.int .u64 0, .int .u64 0, .int .u64 0, .int .u64 0, .int .u64 0, .int .u64 0, .int .u64 0, .int .u64 0] 24))) := (Below.refl _ _).alloc (Nat.le_refl _) _
  by_cases hbad : n < 0 ∨ 512 < n
  · have HE : Hid (belowN n = 0 ∧ belowE n = 11) := ⟨by rw [belowN, if_pos hbad], by rw [belowE, if_pos hbad]⟩
    by_cases h0 : n < 0
    all_goals
      first
        | (have h5 : 512 < n := by omega)
        | skip
      clear hbad
      go_enter Try.func7, Try.ntmps7
      go_wp2_with fail
      refine bodyPost_ret (results_set_tmp rfl rfl H8.out) rfl ⟨?_, HW.out⟩
      rw [HE.out.1, HE.out.2]
      exact ret_set (fun k _ => by simp [word])
  · obtain ⟨m, rfl⟩ : ∃ m : Nat, n = m := ⟨n.toNat, by omega⟩
    have h0 : ¬ (m : Int) < 0 := by omega
    have h5 : ¬ (512 : Int) < m := by omega
    have h5N : m ≤ 512 := by omega
    have HE : Hid (belowN m = allN m ∧ belowE m = 0) := ⟨by rw [belowN, if_neg hbad, Int.toNat_natCast], by rw [belowE, if_neg hbad]⟩
    clear hbad
    obtain ⟨i0, hi, hz0, hz1, hz2⟩ := info_parts Try.info_int
    go_enter Try.func7, Try.ntmps7
    go_wp2_with fail
    generalize hWd : w.alloc (.cells #[.int .u64 0, .int .u64 0, .int .u64 0, .int .u64 0, .int .u64 0, .int .u64 0, .int .u64 0, .int .u64 0] 24) = W at H8 HW ⊢
    clear hWd
    go_loopw [4, 5] (fun l vk wr => ∃ (i : Nat), vk = .int .i64 i ∧ i ≤ m ∧ wr.ownsRow W.heap.size 3 1 l (lst (allN m) i).length (zC (lst (allN m) i)) ∧ Below W.heap.size W wr) (fun _ vk _ => m - (intOf vk).toNat)
    case atStart => exact ⟨0, rfl, Nat.zero_le _, by show World.ownsRow _ _ _ _ _ 0 []; exact World.ownsRow_nil _ _ _ _, Below.refl _ _⟩
    case round =>
      obtain ⟨i, rfl, hi5, hown2, hb3⟩ := hrel
      obtain ⟨a, cap, rfl⟩ := own_shape hown2
      by_cases hlt : i < m
      · have hiI : (i : Int) < m := by omega
        have HS2 : Hid (lst (allN m) (i + 1) = lst (allN m) i ++ [(i : Int)]) := by
          show _ = _
          rw [lst_succ, testBit_all, decide_eq_true hlt]
          rfl
        have hpl := lst_le (allN m) i
        go_wp2_with (at_builtin; refine wpList_append_own _ rfl _ _ 34 rfl W.heap.size 3 i0 (.int .i64 0) 1 8 Try.underlying34 hi hz0 hz1 hz2 rfl (by decide) _ _ _ rfl (hown2.alloc _) ⟨wr.heap.size, 0, none⟩ 1 1 [.int .i64 (i : Int)] rfl rfl ?c1 ?c2 ?c3 ?c4 ?c5 ?_)
        case c1 => exact cell_one_new _ _ _
        case c2 => intro u hu; simp at hu; subst hu; rfl
        case c3 => unfold maxLen; omega
        case c4 => omega
        case c5 => have := hb3.size; simp; omega
        intro v' w4 hown' hgrow _
        have R : w4.ownsRow W.heap.size 3 1 v' (lst (allN m) (i + 1)).length (zC (lst (allN m) (i + 1))) := by
          rw [HS2.out, zC_append, List.length_append]
          exact hown'
        have hb4 : Below W.heap.size W w4 := (hb3.alloc hb3.size _).grown hgrow (by have := hb3.size; simp; omega) (fun g hg => (hown2.lt g hg).1)
        clear hown' hgrow hown2
        go_wp2
        go_roundw
        case rel => exact ⟨i + 1, by go_num, by omega, R, hb4⟩
        case measure => simp [intOf]; omega
      · have : i = m := by omega
        subst this
        have H9 : Hid (Cells8 wr w.heap.size (fun _ => 0)) := H8.out.stay hb3
        have HB : Hid (Below w.heap.size w wr) := HW.out.trans (hb3.mono HW.out.size)
        have HRr : Hid _ := own_reads hown2
        have hpl := lst_le (allN i) i
        clear hown2 hb3
        go_wp2_with fail
        refine (rof_any _ _ _ HRr.out (by omega)).mono ?_
        rintro e w5 ⟨rfl, hb5⟩
        rw [(of_all h5N).1, (of_all h5N).2]
        unfold setV cellsF
        have H6 : Hid (Cells8 w5 w.heap.size (fun _ => 0)) := H9.out.stay hb5
        have HB5 : Hid (Below w.heap.size w w5) := go_on HB.out hb5
        clear hb5
        obtain ⟨d0, d1, d2, d3, d4, d5, d6, d7⟩ := (H6.out).gets
        have f0 := (H6.out).frozen 0
        have f1 := (H6.out).frozen 1
        have f2 := (H6.out).frozen 2
        have f3 := (H6.out).frozen 3
        have f4 := (H6.out).frozen 4
        have f5 := (H6.out).frozen 5
        have f6 := (H6.out).frozen 6
        have f7 := (H6.out).frozen 7
        go_wp2_with fail
        obtain ⟨h8, hB⟩ := st8 H6.out HB5.out (Nat.le_refl _) (word (allN i)) rfl rfl rfl rfl rfl rfl rfl rfl
        refine bodyPost_ret (results_set_tmp rfl rfl h8) rfl ⟨?_, hB⟩
        rw [HE.out.1, HE.out.2]
        rfl

set_option maxHeartbeats 4000000 in
set_option maxRecDepth 100000 in
theorem runion_any (A B : Nat) (hA : Fits A) (hB : Fits B) (w : World) :
    Calls Try.prog 10 #[setV A, setV B, .bool true, .bool true, .bool false] w fun e w' => e = .returned (setV (orN A B)) ∧ Below w.heap.size w w' := by
  have H0 : Hid (TwoAt w (word A) B _) := TwoAt.start w A B
  have HR : Hid (RowAt (((w.alloc (.cells (cellsF (word A)) 24)).alloc (.cells (cellsF (word B)) 24)).alloc (.cells #[.int .u64 0, .int .u64 0, .int .u64 0, .int .u64 0, .int .u64 0, .int .u64 0, .int .u64 0, .int .u64 0] 24)) w.heap.size (cellsF (word A))) := ((RowAt.last w _ _).alloc _).alloc _
  have HS : Hid (RowAt (((w.alloc (.cells (cellsF (word A)) 24)).alloc (.cells (cellsF (word B)) 24)).alloc (.cells #[.int .u64 0, .int .u64 0, .int .u64 0, .int .u64 0, .int .u64 0, .int .u64 0, .int .u64 0, .int .u64 0] 24)) (w.heap.size + 1) (cellsF (word B))) := by
    have := (RowAt.last (w.alloc (.cells (cellsF (word A)) 24)) (cellsF (word B)) 24).alloc (.cells #[.int .u64 0, .int .u64 0, .int .u64 0, .int .u64 0, .int .u64 0, .int .u64 0, .int .u64 0, .int .u64 0] 24)
    show RowAt _ _ _
    simpa using this
  obtain ⟨P, HP⟩ : ∃ P, Hid (orN A B = P) := ⟨_, rfl⟩
  have HPF : Hid (Fits P) := by
    show Fits P
    rw [← HP.out]
    exact fits_or hA hB
  have HPB : Hid (∀ i, P.testBit i = ((A.testBit i) || (B.testBit i))) := by
    show ∀ i, _
    intro i
    rw [← HP.out]
    unfold orN; rw [Nat.testBit_or]
  rw [HP.out]
  unfold setV cellsF
  unfold cellsF at HR HS H0
  obtain ⟨i0, hi, hz0, hz1, hz2⟩ := info_parts Try.info_int
  go_enter Try.func10, Try.ntmps10
  go_wp2_with fail
  generalize hWd : ((w.alloc (.cells #[.int .u64 (word A 0 : Nat), .int .u64 (word A 1 : Nat), .int .u64 (word A 2 : Nat), .int .u64 (word A 3 : Nat), .int .u64 (word A 4 : Nat), .int .u64 (word A 5 : Nat), .int .u64 (word A 6 : Nat), .int .u64 (word A 7 : Nat)] 24)).alloc (.cells #[.int .u64 (word B 0 : Nat), .int .u64 (word B 1 : Nat), .int .u64 (word B 2 : Nat), .int .u64 (word B 3 : Nat), .int .u64 (word B 4 : Nat), .int .u64 (word B 5 : Nat), .int .u64 (word B 6 : Nat), .int .u64 (word B 7 : Nat)] 24)).alloc (.cells #[.int .u64 0, .int .u64 0, .int .u64 0, .int .u64 0, .int .u64 0, .int .u64 0, .int .u64 0, .int .u64 0] 24) = W at HR HS H0 ⊢
  clear hWd
  go_loopw [11, 12, 13, 14] (fun l vk _ _ wr => ∃ (i : Nat), vk = .int .i64 i ∧ i ≤ 512 ∧ wr.ownsRow W.heap.size 3 1 l (lst P i).length (zC (lst P i)) ∧ Below W.heap.size W wr) (fun _ vk _ _ _ => 512 - (intOf vk).toNat)
  case atStart => exact ⟨0, rfl, Nat.zero_le _, by show World.ownsRow _ _ _ _ _ 0 []; exact World.ownsRow_nil _ _ _ _, Below.refl _ _⟩
  case round =>
    obtain ⟨i, rfl, hi5, hown, hb⟩ := hrel
    obtain ⟨a, cap, rfl⟩ := own_shape hown
    have rs := HR.out.stay hb
    have ss := HS.out.stay hb
    have cs := RowAt.cell rs; have ds := RowAt.cell ss
    by_cases hlt : i < 512
    · have hiI : (i : Int) < 512 := by omega
      have HHa : Hid _ := has_at A i hlt
      have HHb : Hid _ := has_at B i hlt
      have HPi : Hid _ := HPB.out i
      have HL : Hid _ := lst_succ P i
      have hpl := lst_le P i
      obtain ⟨x, HX⟩ : ∃ x, Hid (A.testBit i = x) := ⟨_, rfl⟩
      obtain ⟨y, HY⟩ : ∃ y, Hid (B.testBit i = y) := ⟨_, rfl⟩
      rw [HX.out] at HHa
      rw [HY.out] at HHb
      rw [HX.out, HY.out] at HPi
      rw [HPi.out] at HL
      cases x
      · cases y
        · go_wp2_with fail
          refine (rhas_any A _ _).mono ?_
          rintro e w1 ⟨rfl, hb1⟩
          rw [HHa.out]
          have ss := RowAt.stay ss hb1
          have ds := RowAt.cell ss
          go_wp2_with fail
          refine (rhas_any B _ _).mono ?_
          rintro e w2 ⟨rfl, hb2⟩
          rw [HHb.out]
          have hown2 := own_below (own_below hown hb1) hb2
          have hb3 : Below W.heap.size W w2 := go_on (hb.trans (hb1.mono hb.size)) hb2
          clear hown hb hb1 hb2 cs ds rs ss
          go_wp2_with fail
          go_roundw
          case rel => exact ⟨i + 1, by go_num, by omega, by rw [HL.out]; simpa using hown2, hb3⟩
          case measure => simp [intOf]; omega
        · go_wp2_with fail
          refine (rhas_any A _ _).mono ?_
          rintro e w1 ⟨rfl, hb1⟩
          rw [HHa.out]
          have ss := RowAt.stay ss hb1
          have ds := RowAt.cell ss
          go_wp2_with fail
          refine (rhas_any B _ _).mono ?_
          rintro e w2 ⟨rfl, hb2⟩
          rw [HHb.out]
          have hown2 := own_below (own_below hown hb1) hb2
          have hb3 : Below W.heap.size W w2 := go_on (hb.trans (hb1.mono hb.size)) hb2
          clear hown hb hb1 hb2 cs ds rs ss
          have HS2 : Hid (lst P (i + 1) = lst P i ++ [(i : Int)]) := by show _ = _; rw [HL.out]; rfl
          go_wp2_with (at_builtin; refine wpList_append_own _ rfl _ _ 34 rfl W.heap.size 3 i0 (.int .i64 0) 1 8 Try.underlying34 hi hz0 hz1 hz2 rfl (by decide) _ _ _ rfl (hown2.alloc _) ⟨w2.heap.size, 0, none⟩ 1 1 [.int .i64 (i : Int)] rfl rfl ?c1 ?c2 ?c3 ?c4 ?c5 ?_)
          case c1 => exact cell_one_new _ _ _
          case c2 => intro u hu; simp at hu; subst hu; rfl
          case c3 => unfold maxLen; omega
          case c4 => omega
          case c5 => have := hb3.size; simp; omega
          intro v' w4 hown' hgrow _
          have R : w4.ownsRow W.heap.size 3 1 v' (lst P (i + 1)).length (zC (lst P (i + 1))) := by
            rw [HS2.out, zC_append, List.length_append]
            exact hown'
          have hb4 : Below W.heap.size W w4 := (hb3.alloc hb3.size _).grown hgrow (by have := hb3.size; simp; omega) (fun g hg => (hown2.lt g hg).1)
          clear hown' hgrow hown2
          go_wp2
          go_roundw
          case rel => exact ⟨i + 1, by go_num, by omega, R, hb4⟩
          case measure => simp [intOf]; omega
      · cases y
        · go_wp2_with fail
          refine (rhas_any A _ _).mono ?_
          rintro e w1 ⟨rfl, hb1⟩
          rw [HHa.out]
          have ss := RowAt.stay ss hb1
          have ds := RowAt.cell ss
          go_wp2_with fail
          refine (rhas_any B _ _).mono ?_
          rintro e w2 ⟨rfl, hb2⟩
          rw [HHb.out]
          have hown2 := own_below (own_below hown hb1) hb2
          have hb3 : Below W.heap.size W w2 := go_on (hb.trans (hb1.mono hb.size)) hb2
          clear hown hb hb1 hb2 cs ds rs ss
          have HS2 : Hid (lst P (i + 1) = lst P i ++ [(i : Int)]) := by show _ = _; rw [HL.out]; rfl
          go_wp2_with (at_builtin; refine wpList_append_own _ rfl _ _ 34 rfl W.heap.size 3 i0 (.int .i64 0) 1 8 Try.underlying34 hi hz0 hz1 hz2 rfl (by decide) _ _ _ rfl (hown2.alloc _) ⟨w2.heap.size, 0, none⟩ 1 1 [.int .i64 (i : Int)] rfl rfl ?c1 ?c2 ?c3 ?c4 ?c5 ?_)
          case c1 => exact cell_one_new _ _ _
          case c2 => intro u hu; simp at hu; subst hu; rfl
          case c3 => unfold maxLen; omega
          case c4 => omega
          case c5 => have := hb3.size; simp; omega
          intro v' w4 hown' hgrow _
          have R : w4.ownsRow W.heap.size 3 1 v' (lst P (i + 1)).length (zC (lst P (i + 1))) := by
            rw [HS2.out, zC_append, List.length_append]
            exact hown'
          have hb4 : Below W.heap.size W w4 := (hb3.alloc hb3.size _).grown hgrow (by have := hb3.size; simp; omega) (fun g hg => (hown2.lt g hg).1)
          clear hown' hgrow hown2
          go_wp2
          go_roundw
          case rel => exact ⟨i + 1, by go_num, by omega, R, hb4⟩
          case measure => simp [intOf]; omega
        · go_wp2_with fail
          refine (rhas_any A _ _).mono ?_
          rintro e w1 ⟨rfl, hb1⟩
          rw [HHa.out]
          have ss := RowAt.stay ss hb1
          have ds := RowAt.cell ss
          go_wp2_with fail
          refine (rhas_any B _ _).mono ?_
          rintro e w2 ⟨rfl, hb2⟩
          rw [HHb.out]
          have hown2 := own_below (own_below hown hb1) hb2
          have hb3 : Below W.heap.size W w2 := go_on (hb.trans (hb1.mono hb.size)) hb2
          clear hown hb hb1 hb2 cs ds rs ss
          have HS2 : Hid (lst P (i + 1) = lst P i ++ [(i : Int)]) := by show _ = _; rw [HL.out]; rfl
          go_wp2_with (at_builtin; refine wpList_append_own _ rfl _ _ 34 rfl W.heap.size 3 i0 (.int .i64 0) 1 8 Try.underlying34 hi hz0 hz1 hz2 rfl (by decide) _ _ _ rfl (hown2.alloc _) ⟨w2.heap.size, 0, none⟩ 1 1 [.int .i64 (i : Int)] rfl rfl ?c1 ?c2 ?c3 ?c4 ?c5 ?_)
          case c1 => exact cell_one_new _ _ _
          case c2 => intro u hu; simp at hu; subst hu; rfl
          case c3 => unfold maxLen; omega
          case c4 => omega
          case c5 => have := hb3.size; simp; omega
          intro v' w4 hown' hgrow _
          have R : w4.ownsRow W.heap.size 3 1 v' (lst P (i + 1)).length (zC (lst P (i + 1))) := by
            rw [HS2.out, zC_append, List.length_append]
            exact hown'
          have hb4 : Below W.heap.size W w4 := (hb3.alloc hb3.size _).grown hgrow (by have := hb3.size; simp; omega) (fun g hg => (hown2.lt g hg).1)
          clear hown' hgrow hown2
          go_wp2
          go_roundw
          case rel => exact ⟨i + 1, by go_num, by omega, R, hb4⟩
          case measure => simp [intOf]; omega
    · have : i = 512 := by omega
      subst this
      have H9 : Hid (Cells8 wr (w.heap.size + 1 + 1) (fun _ => 0)) := H0.out.res.stay hb
      have HB : Hid (Below w.heap.size w wr) := H0.out.below.trans (hb.mono H0.out.below.size)
      have HRr : Hid _ := own_reads hown
      have hpl := lst_le P 512
      clear hown hb cs ds rs ss
      go_wp2_with fail
      refine (rof_any _ _ _ HRr.out (by omega)).mono ?_
      rintro e w5 ⟨rfl, hb5⟩
      rw [(of_lst HPF.out).1, (of_lst HPF.out).2]
      unfold setV cellsF
      have H6 : Hid (Cells8 w5 (w.heap.size + 1 + 1) (fun _ => 0)) := H9.out.stay hb5
      have HB5 : Hid (Below w.heap.size w w5) := go_on HB.out hb5
      clear hb5
      have d0 := fun O => (Cells8.alloc (H6.out) O).get (show 0 < 8 by decide)
      have d1 := fun O => (Cells8.alloc (H6.out) O).get (show 1 < 8 by decide)
      have d2 := fun O => (Cells8.alloc (H6.out) O).get (show 2 < 8 by decide)
      have d3 := fun O => (Cells8.alloc (H6.out) O).get (show 3 < 8 by decide)
      have d4 := fun O => (Cells8.alloc (H6.out) O).get (show 4 < 8 by decide)
      have d5 := fun O => (Cells8.alloc (H6.out) O).get (show 5 < 8 by decide)
      have d6 := fun O => (Cells8.alloc (H6.out) O).get (show 6 < 8 by decide)
      have d7 := fun O => (Cells8.alloc (H6.out) O).get (show 7 < 8 by decide)
      have f0 := fun O => (Cells8.alloc (H6.out) O).frozen 0
      have f1 := fun O => (Cells8.alloc (H6.out) O).frozen 1
      have f2 := fun O => (Cells8.alloc (H6.out) O).frozen 2
      have f3 := fun O => (Cells8.alloc (H6.out) O).frozen 3
      have f4 := fun O => (Cells8.alloc (H6.out) O).frozen 4
      have f5 := fun O => (Cells8.alloc (H6.out) O).frozen 5
      have f6 := fun O => (Cells8.alloc (H6.out) O).frozen 6
      have f7 := fun O => (Cells8.alloc (H6.out) O).frozen 7
      go_wp2_with fail
      obtain ⟨h8, hB⟩ := st8 (H6.out.alloc _) (HB5.out.alloc HB5.out.size _) (by omega) (word P) rfl rfl rfl rfl rfl rfl rfl rfl
      exact bodyPost_ret (results_set rfl rfl h8) rfl ⟨rfl, hB⟩

set_option maxHeartbeats 4000000 in
set_option maxRecDepth 100000 in
theorem rinter_any (A B : Nat) (hA : Fits A) (_hB : Fits B) (w : World) :
    Calls Try.prog 10 #[setV A, setV B, .bool true, .bool true, .bool true] w fun e w' => e = .returned (setV (andN A B)) ∧ Below w.heap.size w w' := by
  have H0 : Hid (TwoAt w (word A) B _) := TwoAt.start w A B
  have HR : Hid (RowAt (((w.alloc (.cells (cellsF (word A)) 24)).alloc (.cells (cellsF (word B)) 24)).alloc (.cells #[.int .u64 0, .int .u64 0, .int .u64 0, .int .u64 0, .int .u64 0, .int .u64 0, .int .u64 0, .int .u64 0] 24)) w.heap.size (cellsF (word A))) := ((RowAt.last w _ _).alloc _).alloc _
  have HS : Hid (RowAt (((w.alloc (.cells (cellsF (word A)) 24)).alloc (.cells (cellsF (word B)) 24)).alloc (.cells #[.int .u64 0, .int .u64 0, .int .u64 0, .int .u64 0, .int .u64 0, .int .u64 0, .int .u64 0, .int .u64 0] 24)) (w.heap.size + 1) (cellsF (word B))) := by
    have := (RowAt.last (w.alloc (.cells (cellsF (word A)) 24)) (cellsF (word B)) 24).alloc (.cells #[.int .u64 0, .int .u64 0, .int .u64 0, .int .u64 0, .int .u64 0, .int .u64 0, .int .u64 0, .int .u64 0] 24)
    show RowAt _ _ _
    simpa using this
  obtain ⟨P, HP⟩ : ∃ P, Hid (andN A B = P) := ⟨_, rfl⟩
  have HPF : Hid (Fits P) := by
    show Fits P
    rw [← HP.out]
    intro i hi; unfold andN; rw [Nat.testBit_and, hA i hi]; rfl
  have HPB : Hid (∀ i, P.testBit i = ((A.testBit i) && (B.testBit i))) := by
    show ∀ i, _
    intro i
    rw [← HP.out]
    unfold andN; rw [Nat.testBit_and]
  rw [HP.out]
  unfold setV cellsF
  unfold cellsF at HR HS H0
  obtain ⟨i0, hi, hz0, hz1, hz2⟩ := info_parts Try.info_int
  go_enter Try.func10, Try.ntmps10
  go_wp2_with fail
  generalize hWd : ((w.alloc (.cells #[.int .u64 (word A 0 : Nat), .int .u64 (word A 1 : Nat), .int .u64 (word A 2 : Nat), .int .u64 (word A 3 : Nat), .int .u64 (word A 4 : Nat), .int .u64 (word A 5 : Nat), .int .u64 (word A 6 : Nat), .int .u64 (word A 7 : Nat)] 24)).alloc (.cells #[.int .u64 (word B 0 : Nat), .int .u64 (word B 1 : Nat), .int .u64 (word B 2 : Nat), .int .u64 (word B 3 : Nat), .int .u64 (word B 4 : Nat), .int .u64 (word B 5 : Nat), .int .u64 (word B 6 : Nat), .int .u64 (word B 7 : Nat)] 24)).alloc (.cells #[.int .u64 0, .int .u64 0, .int .u64 0, .int .u64 0, .int .u64 0, .int .u64 0, .int .u64 0, .int .u64 0] 24) = W at HR HS H0 ⊢
  clear hWd
  go_loopw [11, 12, 13, 14] (fun l vk _ _ wr => ∃ (i : Nat), vk = .int .i64 i ∧ i ≤ 512 ∧ wr.ownsRow W.heap.size 3 1 l (lst P i).length (zC (lst P i)) ∧ Below W.heap.size W wr) (fun _ vk _ _ _ => 512 - (intOf vk).toNat)
  case atStart => exact ⟨0, rfl, Nat.zero_le _, by show World.ownsRow _ _ _ _ _ 0 []; exact World.ownsRow_nil _ _ _ _, Below.refl _ _⟩
  case round =>
    obtain ⟨i, rfl, hi5, hown, hb⟩ := hrel
    obtain ⟨a, cap, rfl⟩ := own_shape hown
    have rs := HR.out.stay hb
    have ss := HS.out.stay hb
    have cs := RowAt.cell rs; have ds := RowAt.cell ss
    by_cases hlt : i < 512
    · have hiI : (i : Int) < 512 := by omega
      have HHa : Hid _ := has_at A i hlt
      have HHb : Hid _ := has_at B i hlt
      have HPi : Hid _ := HPB.out i
      have HL : Hid _ := lst_succ P i
      have hpl := lst_le P i
      obtain ⟨x, HX⟩ : ∃ x, Hid (A.testBit i = x) := ⟨_, rfl⟩
      obtain ⟨y, HY⟩ : ∃ y, Hid (B.testBit i = y) := ⟨_, rfl⟩
      rw [HX.out] at HHa
      rw [HY.out] at HHb
      rw [HX.out, HY.out] at HPi
      rw [HPi.out] at HL
      cases x
      · cases y
        · go_wp2_with fail
          refine (rhas_any A _ _).mono ?_
          rintro e w1 ⟨rfl, hb1⟩
          rw [HHa.out]
          have ss := RowAt.stay ss hb1
          have ds := RowAt.cell ss
          go_wp2_with fail
          refine (rhas_any B _ _).mono ?_
          rintro e w2 ⟨rfl, hb2⟩
          rw [HHb.out]
          have hown2 := own_below (own_below hown hb1) hb2
          have hb3 : Below W.heap.size W w2 := go_on (hb.trans (hb1.mono hb.size)) hb2
          clear hown hb hb1 hb2 cs ds rs ss
          go_wp2_with fail
          go_roundw
          case rel => exact ⟨i + 1, by go_num, by omega, by rw [HL.out]; simpa using hown2, hb3⟩
          case measure => simp [intOf]; omega
        · go_wp2_with fail
          refine (rhas_any A _ _).mono ?_
          rintro e w1 ⟨rfl, hb1⟩
          rw [HHa.out]
          have ss := RowAt.stay ss hb1
          have ds := RowAt.cell ss
          go_wp2_with fail
          refine (rhas_any B _ _).mono ?_
          rintro e w2 ⟨rfl, hb2⟩
          rw [HHb.out]
          have hown2 := own_below (own_below hown hb1) hb2
          have hb3 : Below W.heap.size W w2 := go_on (hb.trans (hb1.mono hb.size)) hb2
          clear hown hb hb1 hb2 cs ds rs ss
          go_wp2_with fail
          go_roundw
          case rel => exact ⟨i + 1, by go_num, by omega, by rw [HL.out]; simpa using hown2, hb3⟩
          case measure => simp [intOf]; omega
      · cases y
        · go_wp2_with fail
          refine (rhas_any A _ _).mono ?_
          rintro e w1 ⟨rfl, hb1⟩
          rw [HHa.out]
          have ss := RowAt.stay ss hb1
          have ds := RowAt.cell ss
          go_wp2_with fail
          refine (rhas_any B _ _).mono ?_
          rintro e w2 ⟨rfl, hb2⟩
          rw [HHb.out]
          have hown2 := own_below (own_below hown hb1) hb2
          have hb3 : Below W.heap.size W w2 := go_on (hb.trans (hb1.mono hb.size)) hb2
          clear hown hb hb1 hb2 cs ds rs ss
          go_wp2_with fail
          go_roundw
          case rel => exact ⟨i + 1, by go_num, by omega, by rw [HL.out]; simpa using hown2, hb3⟩
          case measure => simp [intOf]; omega
        · go_wp2_with fail
          refine (rhas_any A _ _).mono ?_
          rintro e w1 ⟨rfl, hb1⟩
          rw [HHa.out]
          have ss := RowAt.stay ss hb1
          have ds := RowAt.cell ss
          go_wp2_with fail
          refine (rhas_any B _ _).mono ?_
          rintro e w2 ⟨rfl, hb2⟩
          rw [HHb.out]
          have hown2 := own_below (own_below hown hb1) hb2
          have hb3 : Below W.heap.size W w2 := go_on (hb.trans (hb1.mono hb.size)) hb2
          clear hown hb hb1 hb2 cs ds rs ss
          have HS2 : Hid (lst P (i + 1) = lst P i ++ [(i : Int)]) := by show _ = _; rw [HL.out]; rfl
          go_wp2_with (at_builtin; refine wpList_append_own _ rfl _ _ 34 rfl W.heap.size 3 i0 (.int .i64 0) 1 8 Try.underlying34 hi hz0 hz1 hz2 rfl (by decide) _ _ _ rfl (hown2.alloc _) ⟨w2.heap.size, 0, none⟩ 1 1 [.int .i64 (i : Int)] rfl rfl ?c1 ?c2 ?c3 ?c4 ?c5 ?_)
          case c1 => exact cell_one_new _ _ _
          case c2 => intro u hu; simp at hu; subst hu; rfl
          case c3 => unfold maxLen; omega
          case c4 => omega
          case c5 => have := hb3.size; simp; omega
          intro v' w4 hown' hgrow _
          have R : w4.ownsRow W.heap.size 3 1 v' (lst P (i + 1)).length (zC (lst P (i + 1))) := by
            rw [HS2.out, zC_append, List.length_append]
            exact hown'
          have hb4 : Below W.heap.size W w4 := (hb3.alloc hb3.size _).grown hgrow (by have := hb3.size; simp; omega) (fun g hg => (hown2.lt g hg).1)
          clear hown' hgrow hown2
          go_wp2
          go_roundw
          case rel => exact ⟨i + 1, by go_num, by omega, R, hb4⟩
          case measure => simp [intOf]; omega
    · have : i = 512 := by omega
      subst this
      have H9 : Hid (Cells8 wr (w.heap.size + 1 + 1) (fun _ => 0)) := H0.out.res.stay hb
      have HB : Hid (Below w.heap.size w wr) := H0.out.below.trans (hb.mono H0.out.below.size)
      have HRr : Hid _ := own_reads hown
      have hpl := lst_le P 512
      clear hown hb cs ds rs ss
      go_wp2_with fail
      refine (rof_any _ _ _ HRr.out (by omega)).mono ?_
      rintro e w5 ⟨rfl, hb5⟩
      rw [(of_lst HPF.out).1, (of_lst HPF.out).2]
      unfold setV cellsF
      have H6 : Hid (Cells8 w5 (w.heap.size + 1 + 1) (fun _ => 0)) := H9.out.stay hb5
      have HB5 : Hid (Below w.heap.size w w5) := go_on HB.out hb5
      clear hb5
      have d0 := fun O => (Cells8.alloc (H6.out) O).get (show 0 < 8 by decide)
      have d1 := fun O => (Cells8.alloc (H6.out) O).get (show 1 < 8 by decide)
      have d2 := fun O => (Cells8.alloc (H6.out) O).get (show 2 < 8 by decide)
      have d3 := fun O => (Cells8.alloc (H6.out) O).get (show 3 < 8 by decide)
      have d4 := fun O => (Cells8.alloc (H6.out) O).get (show 4 < 8 by decide)
      have d5 := fun O => (Cells8.alloc (H6.out) O).get (show 5 < 8 by decide)
      have d6 := fun O => (Cells8.alloc (H6.out) O).get (show 6 < 8 by decide)
      have d7 := fun O => (Cells8.alloc (H6.out) O).get (show 7 < 8 by decide)
      have f0 := fun O => (Cells8.alloc (H6.out) O).frozen 0
      have f1 := fun O => (Cells8.alloc (H6.out) O).frozen 1
      have f2 := fun O => (Cells8.alloc (H6.out) O).frozen 2
      have f3 := fun O => (Cells8.alloc (H6.out) O).frozen 3
      have f4 := fun O => (Cells8.alloc (H6.out) O).frozen 4
      have f5 := fun O => (Cells8.alloc (H6.out) O).frozen 5
      have f6 := fun O => (Cells8.alloc (H6.out) O).frozen 6
      have f7 := fun O => (Cells8.alloc (H6.out) O).frozen 7
      go_wp2_with fail
      obtain ⟨h8, hB⟩ := st8 (H6.out.alloc _) (HB5.out.alloc HB5.out.size _) (by omega) (word P) rfl rfl rfl rfl rfl rfl rfl rfl
      exact bodyPost_ret (results_set rfl rfl h8) rfl ⟨rfl, hB⟩

set_option maxHeartbeats 4000000 in
set_option maxRecDepth 100000 in
theorem rminus_any (A B : Nat) (hA : Fits A) (_hB : Fits B) (w : World) :
    Calls Try.prog 10 #[setV A, setV B, .bool true, .bool false, .bool true] w fun e w' => e = .returned (setV (butN A B)) ∧ Below w.heap.size w w' := by
  have H0 : Hid (TwoAt w (word A) B _) := TwoAt.start w A B
  have HR : Hid (RowAt (((w.alloc (.cells (cellsF (word A)) 24)).alloc (.cells (cellsF (word B)) 24)).alloc (.cells #[.int .u64 0, .int .u64 0, .int .u64 0, .int .u64 0, .int .u64 0, .int .u64 0, .int .u64 0, .int .u64 0] 24)) w.heap.size (cellsF (word A))) := ((RowAt.last w _ _).alloc _).alloc _
  have HS : Hid (RowAt (((w.alloc (.cells (cellsF (word A)) 24)).alloc (.cells (cellsF (word B)) 24)).alloc (.cells #[.int .u64 0, .int .u64 0, .int .u64 0, .int .u64 0, .int .u64 0, .int .u64 0, .int .u64 0, .int .u64 0] 24)) (w.heap.size + 1) (cellsF (word B))) := by
    have := (RowAt.last (w.alloc (.cells (cellsF (word A)) 24)) (cellsF (word B)) 24).alloc (.cells #[.int .u64 0, .int .u64 0, .int .u64 0, .int .u64 0, .int .u64 0, .int .u64 0, .int .u64 0, .int .u64 0] 24)
    show RowAt _ _ _
    simpa using this
  obtain ⟨P, HP⟩ : ∃ P, Hid (butN A B = P) := ⟨_, rfl⟩
  have HPF : Hid (Fits P) := by
    show Fits P
    rw [← HP.out]
    intro i hi; rw [testBit_but, hA i hi]; rfl
  have HPB : Hid (∀ i, P.testBit i = ((A.testBit i) && !(B.testBit i))) := by
    show ∀ i, _
    intro i
    rw [← HP.out]
    rw [testBit_but]
  rw [HP.out]
  unfold setV cellsF
  unfold cellsF at HR HS H0
  obtain ⟨i0, hi, hz0, hz1, hz2⟩ := info_parts Try.info_int
  go_enter Try.func10, Try.ntmps10
  go_wp2_with fail
  generalize hWd : ((w.alloc (.cells #[.int .u64 (word A 0 : Nat), .int .u64 (word A 1 : Nat), .int .u64 (word A 2 : Nat), .int .u64 (word A 3 : Nat), .int .u64 (word A 4 : Nat), .int .u64 (word A 5 : Nat), .int .u64 (word A 6 : Nat), .int .u64 (word A 7 : Nat)] 24)).alloc (.cells #[.int .u64 (word B 0 : Nat), .int .u64 (word B 1 : Nat), .int .u64 (word B 2 : Nat), .int .u64 (word B 3 : Nat), .int .u64 (word B 4 : Nat), .int .u64 (word B 5 : Nat), .int .u64 (word B 6 : Nat), .int .u64 (word B 7 : Nat)] 24)).alloc (.cells #[.int .u64 0, .int .u64 0, .int .u64 0, .int .u64 0, .int .u64 0, .int .u64 0, .int .u64 0, .int .u64 0] 24) = W at HR HS H0 ⊢
  clear hWd
  go_loopw [11, 12, 13, 14] (fun l vk _ _ wr => ∃ (i : Nat), vk = .int .i64 i ∧ i ≤ 512 ∧ wr.ownsRow W.heap.size 3 1 l (lst P i).length (zC (lst P i)) ∧ Below W.heap.size W wr) (fun _ vk _ _ _ => 512 - (intOf vk).toNat)
  case atStart => exact ⟨0, rfl, Nat.zero_le _, by show World.ownsRow _ _ _ _ _ 0 []; exact World.ownsRow_nil _ _ _ _, Below.refl _ _⟩
  case round =>
    obtain ⟨i, rfl, hi5, hown, hb⟩ := hrel
    obtain ⟨a, cap, rfl⟩ := own_shape hown
    have rs := HR.out.stay hb
    have ss := HS.out.stay hb
    have cs := RowAt.cell rs; have ds := RowAt.cell ss
    by_cases hlt : i < 512
    · have hiI : (i : Int) < 512 := by omega
      have HHa : Hid _ := has_at A i hlt
      have HHb : Hid _ := has_at B i hlt
      have HPi : Hid _ := HPB.out i
      have HL : Hid _ := lst_succ P i
      have hpl := lst_le P i
      obtain ⟨x, HX⟩ : ∃ x, Hid (A.testBit i = x) := ⟨_, rfl⟩
      obtain ⟨y, HY⟩ : ∃ y, Hid (B.testBit i = y) := ⟨_, rfl⟩
      rw [HX.out] at HHa
      rw [HY.out] at HHb
      rw [HX.out, HY.out] at HPi
      rw [HPi.out] at HL
      cases x
      · cases y
        · go_wp2_with fail
          refine (rhas_any A _ _).mono ?_
          rintro e w1 ⟨rfl, hb1⟩
          rw [HHa.out]
          have ss := RowAt.stay ss hb1
          have ds := RowAt.cell ss
          go_wp2_with fail
          refine (rhas_any B _ _).mono ?_
          rintro e w2 ⟨rfl, hb2⟩
          rw [HHb.out]
          have hown2 := own_below (own_below hown hb1) hb2
          have hb3 : Below W.heap.size W w2 := go_on (hb.trans (hb1.mono hb.size)) hb2
          clear hown hb hb1 hb2 cs ds rs ss
          go_wp2_with fail
          go_roundw
          case rel => exact ⟨i + 1, by go_num, by omega, by rw [HL.out]; simpa using hown2, hb3⟩
          case measure => simp [intOf]; omega
        · go_wp2_with fail
          refine (rhas_any A _ _).mono ?_
          rintro e w1 ⟨rfl, hb1⟩
          rw [HHa.out]
          have ss := RowAt.stay ss hb1
          have ds := RowAt.cell ss
          go_wp2_with fail
          refine (rhas_any B _ _).mono ?_
          rintro e w2 ⟨rfl, hb2⟩
          rw [HHb.out]
          have hown2 := own_below (own_below hown hb1) hb2
          have hb3 : Below W.heap.size W w2 := go_on (hb.trans (hb1.mono hb.size)) hb2
          clear hown hb hb1 hb2 cs ds rs ss
          go_wp2_with fail
          go_roundw
          case rel => exact ⟨i + 1, by go_num, by omega, by rw [HL.out]; simpa using hown2, hb3⟩
          case measure => simp [intOf]; omega
      · cases y
        · go_wp2_with fail
          refine (rhas_any A _ _).mono ?_
          rintro e w1 ⟨rfl, hb1⟩
          rw [HHa.out]
          have ss := RowAt.stay ss hb1
          have ds := RowAt.cell ss
          go_wp2_with fail
          refine (rhas_any B _ _).mono ?_
          rintro e w2 ⟨rfl, hb2⟩
          rw [HHb.out]
          have hown2 := own_below (own_below hown hb1) hb2
          have hb3 : Below W.heap.size W w2 := go_on (hb.trans (hb1.mono hb.size)) hb2
          clear hown hb hb1 hb2 cs ds rs ss
          have HS2 : Hid (lst P (i + 1) = lst P i ++ [(i : Int)]) := by show _ = _; rw [HL.out]; rfl
          go_wp2_with (at_builtin; refine wpList_append_own _ rfl _ _ 34 rfl W.heap.size 3 i0 (.int .i64 0) 1 8 Try.underlying34 hi hz0 hz1 hz2 rfl (by decide) _ _ _ rfl (hown2.alloc _) ⟨w2.heap.size, 0, none⟩ 1 1 [.int .i64 (i : Int)] rfl rfl ?c1 ?c2 ?c3 ?c4 ?c5 ?_)
          case c1 => exact cell_one_new _ _ _
          case c2 => intro u hu; simp at hu; subst hu; rfl
          case c3 => unfold maxLen; omega
          case c4 => omega
          case c5 => have := hb3.size; simp; omega
          intro v' w4 hown' hgrow _
          have R : w4.ownsRow W.heap.size 3 1 v' (lst P (i + 1)).length (zC (lst P (i + 1))) := by
            rw [HS2.out, zC_append, List.length_append]
            exact hown'
          have hb4 : Below W.heap.size W w4 := (hb3.alloc hb3.size _).grown hgrow (by have := hb3.size; simp; omega) (fun g hg => (hown2.lt g hg).1)
          clear hown' hgrow hown2
          go_wp2
          go_roundw
          case rel => exact ⟨i + 1, by go_num, by omega, R, hb4⟩
          case measure => simp [intOf]; omega
        · go_wp2_with fail
          refine (rhas_any A _ _).mono ?_
          rintro e w1 ⟨rfl, hb1⟩
          rw [HHa.out]
          have ss := RowAt.stay ss hb1
          have ds := RowAt.cell ss
          go_wp2_with fail
          refine (rhas_any B _ _).mono ?_
          rintro e w2 ⟨rfl, hb2⟩
          rw [HHb.out]
          have hown2 := own_below (own_below hown hb1) hb2
          have hb3 : Below W.heap.size W w2 := go_on (hb.trans (hb1.mono hb.size)) hb2
          clear hown hb hb1 hb2 cs ds rs ss
          go_wp2_with fail
          go_roundw
          case rel => exact ⟨i + 1, by go_num, by omega, by rw [HL.out]; simpa using hown2, hb3⟩
          case measure => simp [intOf]; omega
    · have : i = 512 := by omega
      subst this
      have H9 : Hid (Cells8 wr (w.heap.size + 1 + 1) (fun _ => 0)) := H0.out.res.stay hb
      have HB : Hid (Below w.heap.size w wr) := H0.out.below.trans (hb.mono H0.out.below.size)
      have HRr : Hid _ := own_reads hown
      have hpl := lst_le P 512
      clear hown hb cs ds rs ss
      go_wp2_with fail
      refine (rof_any _ _ _ HRr.out (by omega)).mono ?_
      rintro e w5 ⟨rfl, hb5⟩
      rw [(of_lst HPF.out).1, (of_lst HPF.out).2]
      unfold setV cellsF
      have H6 : Hid (Cells8 w5 (w.heap.size + 1 + 1) (fun _ => 0)) := H9.out.stay hb5
      have HB5 : Hid (Below w.heap.size w w5) := go_on HB.out hb5
      clear hb5
      have d0 := fun O => (Cells8.alloc (H6.out) O).get (show 0 < 8 by decide)
      have d1 := fun O => (Cells8.alloc (H6.out) O).get (show 1 < 8 by decide)
      have d2 := fun O => (Cells8.alloc (H6.out) O).get (show 2 < 8 by decide)
      have d3 := fun O => (Cells8.alloc (H6.out) O).get (show 3 < 8 by decide)
      have d4 := fun O => (Cells8.alloc (H6.out) O).get (show 4 < 8 by decide)
      have d5 := fun O => (Cells8.alloc (H6.out) O).get (show 5 < 8 by decide)
      have d6 := fun O => (Cells8.alloc (H6.out) O).get (show 6 < 8 by decide)
      have d7 := fun O => (Cells8.alloc (H6.out) O).get (show 7 < 8 by decide)
      have f0 := fun O => (Cells8.alloc (H6.out) O).frozen 0
      have f1 := fun O => (Cells8.alloc (H6.out) O).frozen 1
      have f2 := fun O => (Cells8.alloc (H6.out) O).frozen 2
      have f3 := fun O => (Cells8.alloc (H6.out) O).frozen 3
      have f4 := fun O => (Cells8.alloc (H6.out) O).frozen 4
      have f5 := fun O => (Cells8.alloc (H6.out) O).frozen 5
      have f6 := fun O => (Cells8.alloc (H6.out) O).frozen 6
      have f7 := fun O => (Cells8.alloc (H6.out) O).frozen 7
      go_wp2_with fail
      obtain ⟨h8, hB⟩ := st8 (H6.out.alloc _) (HB5.out.alloc HB5.out.size _) (by omega) (word P) rfl rfl rfl rfl rfl rfl rfl rfl
      exact bodyPost_ret (results_set rfl rfl h8) rfl ⟨rfl, hB⟩

end Go.Proofs.Ytghchlppdhfoeaa
