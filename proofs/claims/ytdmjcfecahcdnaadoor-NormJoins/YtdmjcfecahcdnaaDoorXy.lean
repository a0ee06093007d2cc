/- norm's Star and Not of wrong trees, and its Is; the small rules of the document's side. -/
import Derived.Test.YtdmjcfecahcdnaaDoorXv
namespace Go.Proofs.YtdmjcfecahcdnaaDoor
open Go Go.RowKit
set_option linter.unusedVariables false

set_option maxHeartbeats 2000000 in
set_option maxRecDepth 100000 in
theorem starN_bad (a : List Nd) (va : Value) (w : World) (hva : NReads w va a) (ma : a.length ≤ 9223372036854775806) (hP : PTab w) (hw : wrong a ≠ 0) :
    Calls Tryd.prog 24 #[va] w fun e w' => BQ (wrong a) w e w' := by
  obtain ⟨a1, c1, hv1, _⟩ := id hva
  subst hv1
  obtain ⟨n1, hn1⟩ : ∃ n, a.length = n := ⟨_, rfl⟩
  rw [hn1] at hva ⊢
  have HB : Hid (Below w.heap.size w (w.alloc (.cells #[.slice a1 n1 c1] 22))) := (Below.refl _ _).alloc (Nat.le_refl _) _
  have HC : Hid (Calls Tryd.prog 37 #[.int .i64 8, .slice (some ⟨w.heap.size, 0, none⟩) 1 1] (w.alloc (.cells #[.slice a1 n1 c1] 22)) fun e w' => BQ (wrong a) (w.alloc (.cells #[.slice a1 n1 c1] 22)) e w') := by
    have hh := heap_alloc_new w (.cells #[.slice a1 n1 c1] 22)
    refine joined_bad 8 [a] 0 (by show 0 < 1; omega) (by show 1 ≤ 2; omega) (fun i hi => absurd hi (by omega)) hw (fun i hi => ?_) w.heap.size 1 _ (hP.stay HB.out) (by simp) (fun i hi => ?_)
    · have hi : i < 1 := hi
      obtain rfl : i = 0 := by omega
      exact ma
    · have hi : i < 1 := hi
      obtain rfl : i = 0 := by omega
      exact ⟨.slice a1 n1 c1, (cell_of_row _ _ 0 _ _ _ hh).trans rfl, hva.stay HB.out⟩
  clear hva hP hw hn1 ma
  go_enter Tryd.func24, Tryd.ntmps24
  go_wp2_with fail
  refine HC.out.mono ?_
  rintro e w1 h1
  obtain ⟨rfl, hb1⟩ := h1.from_ HB.out
  have H1 : Hid (Below w.heap.size w w1) := hb1
  clear h1 hb1
  go_wp2_with fail
  go_ret2
  exact ⟨rfl, H1.out⟩

set_option maxHeartbeats 2000000 in
set_option maxRecDepth 100000 in
theorem notN_bad (a : List Nd) (va : Value) (w : World) (hva : NReads w va a) (ma : a.length ≤ 9223372036854775806) (hP : PTab w) (hw : wrong a ≠ 0) :
    Calls Tryd.prog 25 #[va] w fun e w' => BQ (wrong a) w e w' := by
  obtain ⟨a1, c1, hv1, _⟩ := id hva
  subst hv1
  obtain ⟨n1, hn1⟩ : ∃ n, a.length = n := ⟨_, rfl⟩
  rw [hn1] at hva ⊢
  have HB : Hid (Below w.heap.size w (w.alloc (.cells #[.slice a1 n1 c1] 22))) := (Below.refl _ _).alloc (Nat.le_refl _) _
  have HC : Hid (Calls Tryd.prog 37 #[.int .i64 9, .slice (some ⟨w.heap.size, 0, none⟩) 1 1] (w.alloc (.cells #[.slice a1 n1 c1] 22)) fun e w' => BQ (wrong a) (w.alloc (.cells #[.slice a1 n1 c1] 22)) e w') := by
    have hh := heap_alloc_new w (.cells #[.slice a1 n1 c1] 22)
    refine joined_bad 9 [a] 0 (by show 0 < 1; omega) (by show 1 ≤ 2; omega) (fun i hi => absurd hi (by omega)) hw (fun i hi => ?_) w.heap.size 1 _ (hP.stay HB.out) (by simp) (fun i hi => ?_)
    · have hi : i < 1 := hi
      obtain rfl : i = 0 := by omega
      exact ma
    · have hi : i < 1 := hi
      obtain rfl : i = 0 := by omega
      exact ⟨.slice a1 n1 c1, (cell_of_row _ _ 0 _ _ _ hh).trans rfl, hva.stay HB.out⟩
  clear hva hP hw hn1 ma
  go_enter Tryd.func25, Tryd.ntmps25
  go_wp2_with fail
  refine HC.out.mono ?_
  rintro e w1 h1
  obtain ⟨rfl, hb1⟩ := h1.from_ HB.out
  have H1 : Hid (Below w.heap.size w w1) := hb1
  clear h1 hb1
  go_wp2_with fail
  go_ret2
  exact ⟨rfl, H1.out⟩

set_option maxHeartbeats 2000000 in
set_option maxRecDepth 100000 in
theorem is_bad (v : Value) (ts : List Nd) (w : World) (hv : NReads w v ts) (hm : ts.length ≤ 9223372036854775806) (hP : PTab w) (h0 : wrong ts ≠ 0) :
    Calls Tryd.prog 11 #[v] w fun e w' => e = .returned (.tuple #[.bool false, .int .i64 (wrong ts)]) ∧ Below w.heap.size w w' := by
  have HD := normal_bad v ts w hv hm hP h0
  obtain ⟨x, hx⟩ : ∃ x, wrong ts = x := ⟨_, rfl⟩
  rw [hx] at HD h0 ⊢
  have hb : (x == 0) = false := by simpa using h0
  clear hx hv hP h0
  go_enter Tryd.func11, Tryd.ntmps11
  go_wp2_with fail
  refine HD.mono ?_
  rintro e w1 ⟨rfl, hb1⟩
  go_wp2_with fail
  go_ret2
  exact ⟨rfl, hb1⟩
end Go.Proofs.YtdmjcfecahcdnaaDoor
