/- monoid: the law's none on what is no monoid; MonoidNil. -/
import Derived.Test.YtndbiihlhknelaaE23
namespace Go.Proofs.Ytndbiihlhknelaa
open Go Go.RowKit Go.Lib Go.Maps
set_option linter.unusedVariables false
attribute [-instance] List.instBEq instBEqProd

set_option maxHeartbeats 4000000 in
set_option maxRecDepth 100000 in
theorem none_no (x : Value) (w : World) (h : NoM w x) : Calls Try.prog 9 #[x] w fun e w' => e = .returned (.bool true) ∧ Below w.heap.size w w' := by
  have HX : Hid (NoM w x) := h
  clear h
  go_enter Try.func9, Try.ntmps9
  go_wp2_with fail
  refine (mword_no x 0 w HX.out).mono ?_
  rintro e wq ⟨rfl, rfl⟩
  go_wp2_with fail
  refine (mElement_no x _ w HX.out).mono ?_
  rintro e wq ⟨rfl, rfl⟩
  go_wp2_with fail
  refine (mAccept_no x 0 w HX.out).mono ?_
  rintro e wq ⟨rfl, rfl⟩
  go_wp2_with fail
  refine (mTrans_no x 0 w HX.out).mono ?_
  rintro e w1 ⟨rfl, hB1⟩
  obtain ⟨w2, hw2⟩ : ∃ w2, w2 = w1.alloc (.cells #[.int .i64 0, .int .u64 0, .int .u64 0, .int .u64 0, .int .u64 0, .int .u64 0, .int .u64 0, .int .u64 0] 52) := ⟨_, rfl⟩
  have HW2 : Hid (w2 = w1.alloc (.cells #[.int .i64 0, .int .u64 0, .int .u64 0, .int .u64 0, .int .u64 0, .int .u64 0, .int .u64 0, .int .u64 0] 52)) := hw2
  have HB2 : Hid (Below w.heap.size w w2) := by show Below _ _ _; rw [hw2]; exact hB1.alloc hB1.size _
  have HX2 : Hid (NoM w2 x) := HX.out.below HB2.out
  clear hB1 hw2
  rw [show (trC 0 fun _ => 0) = #[.int .i64 0, .int .u64 0, .int .u64 0, .int .u64 0, .int .u64 0, .int .u64 0, .int .u64 0, .int .u64 0] from rfl]
  go_wp2_with fail
  rw [← HW2.out]
  refine (mProduct_no x 0 0 w2 HX2.out).mono ?_
  rintro e wq ⟨rfl, rfl⟩
  go_wp2_with fail
  refine (mRight_no x 0 97 w2 HX2.out).mono ?_
  rintro e wq ⟨rfl, rfl⟩
  go_wp2_with fail
  refine (mLeft_no x 0 97 w2 HX2.out).mono ?_
  rintro e wq ⟨rfl, rfl⟩
  go_wp2_with fail
  refine (mPower_no x 0 1 w2 HX2.out).mono ?_
  rintro e wq ⟨rfl, rfl⟩
  go_wp2_with fail
  refine (mZero_no x w2 HX2.out).mono ?_
  rintro e wq ⟨rfl, rfl⟩
  go_wp2_with fail
  refine (mRules_no x w2 HX2.out).mono ?_
  rintro e wq ⟨rfl, rfl⟩
  go_wp2_with fail
  refine (mAuto_no x w2 HX2.out).mono ?_
  rintro e w3 ⟨rfl, hB3⟩
  obtain ⟨ab, hab⟩ : ∃ ab, w3.heap.size = ab := ⟨_, rfl⟩
  have HAB : Hid (w3.heap.size = ab) := hab
  obtain ⟨w4, hw4⟩ : ∃ w4, w4 = w3.alloc (.cells #[.int .i64 0, .slice none 0 0, .slice none 0 0] 26) := ⟨_, rfl⟩
  have hB4 : Below w.heap.size w w4 := by rw [hw4]; exact (go_on HB2.out hB3).alloc (go_on HB2.out hB3).size _
  have hR4 : w4.heap[ab]? = some (.cells #[.int .i64 0, .slice none 0 0, .slice none 0 0] 26 (0, 0)) := by rw [hw4, ← hab]; exact heap_last _ _
  obtain ⟨w5, hw5⟩ : ∃ w5, w5 = w4.alloc (.cells #[.int .i64 1, .int .i64 1, .int .i64 1, .int .i64 1, .int .i64 1, .int .i64 1, .int .i64 1, .int .i64 1] 42) := ⟨_, rfl⟩
  have HW5 : Hid (w5 = (w3.alloc (.cells #[.int .i64 0, .slice none 0 0, .slice none 0 0] 26)).alloc (.cells #[.int .i64 1, .int .i64 1, .int .i64 1, .int .i64 1, .int .i64 1, .int .i64 1, .int .i64 1, .int .i64 1] 42)) := by show _ = _; rw [hw5, hw4]
  have HS4 : Hid ((w3.alloc (.cells #[.int .i64 0, .slice none 0 0, .slice none 0 0] 26)).heap.size = ab + 1) := by show _ = _; rw [World.size_alloc, hab]
  have HB5 : Hid (Below w.heap.size w w5) := by show Below _ _ _; rw [hw5]; exact hB4.alloc hB4.size _
  have HX5 : Hid (NoM w5 x) := HX.out.below HB5.out
  have HR5 : Hid (w5.heap[ab]? = some (.cells #[.int .i64 0, .slice none 0 0, .slice none 0 0] 26 (0, 0))) := by show _ = _; rw [hw5, heap_allo (Array.getElem?_eq_some_iff.1 hR4).1]; exact hR4
  have hs4 : w4.heap.size = ab + 1 := by rw [hw4, World.size_alloc, hab]
  have HL5 : Hid (w5.heap[ab + 1]? = some (.cells #[.int .i64 1, .int .i64 1, .int .i64 1, .int .i64 1, .int .i64 1, .int .i64 1, .int .i64 1, .int .i64 1] 42 (0, 0))) := by show _ = _; rw [hw5, ← hs4]; exact heap_last _ _
  clear hB3 hw4 hB4 hR4 hw5 hs4 hab
  go_wp2_with fail
  rw [← HW5.out]
  simp only [HAB.out]
  go_loopw [25] (fun vi wr => ∃ i : Nat, vi = .int .i64 i ∧ i ≤ 8 ∧ wr = w5) (fun vi _ => 8 - (Go.Lib.intOf vi).toNat)
  case atStart => exact ⟨0, rfl, by omega, rfl⟩
  case round =>
    obtain ⟨i, rfl, hi8, rfl⟩ := hrel
    by_cases hi : i < 8
    · have hiI : (i : Int) < 8 := by omega
      have hc : wr.cell? ⟨ab + 1, i, none⟩ = some (.int .i64 1) := by
        rw [cell_of_row _ _ _ _ _ _ HL5.out]
        have : i = 0 ∨ i = 1 ∨ i = 2 ∨ i = 3 ∨ i = 4 ∨ i = 5 ∨ i = 6 ∨ i = 7 := by omega
        rcases this with rfl | rfl | rfl | rfl | rfl | rfl | rfl | rfl <;> rfl
      go_wp2_with fail
      refine (num14_any 1 wr).mono ?_
      rintro e wq ⟨rfl, rfl⟩
      go_wp2_with fail
      go_roundw
      case rel => exact ⟨i + 1, by go_num, by omega, by trivial⟩
      case measure => simp [Go.Lib.intOf]; omega
    · have hiI : ¬ (i : Int) < 8 := by omega
      have c0 : wr.cell? ⟨ab, 0, none⟩ = some (.int .i64 0) := cell_at HR5.out rfl
      have c1 : wr.cell? ⟨ab, 1, none⟩ = some (.slice none 0 0) := cell_at HR5.out rfl
      have c2 : wr.cell? ⟨ab, 2, none⟩ = some (.slice none 0 0) := cell_at HR5.out rfl
      go_wp2_with fail
      refine (mlen_no x wr HX5.out).mono ?_
      rintro e wq ⟨rfl, rfl⟩
      go_wp2_with fail
      refine (mletters_no x wr HX5.out).mono ?_
      rintro e wq ⟨rfl, rfl⟩
      go_wp2_with fail
      go_ret
      exact ⟨rfl, HB5.out⟩
end Go.Proofs.Ytndbiihlhknelaa
