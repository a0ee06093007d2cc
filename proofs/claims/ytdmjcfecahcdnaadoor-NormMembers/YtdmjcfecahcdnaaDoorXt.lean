/- norm's Union, Inter, Concat, Star and Not of good trees; the law's knows. -/
import Derived.Test.YtdmjcfecahcdnaaDoorXs
namespace Go.Proofs.YtdmjcfecahcdnaaDoor
open Go Go.RowKit
set_option linter.unusedVariables false

theorem JQ.from_ {T : Tr} {w w1 w' : World} {e : Ending} (h : JQ T w1 e w') (hb : Below w.heap.size w w1) : JQ T w e w' := by
  rcases h with ⟨h1, h2, h3⟩ | ⟨h1, u, h2, h3, h4⟩
  · exact .inl ⟨h1, h2, go_on hb h3⟩
  · exact .inr ⟨h1, u, h2, own_mono h3 hb.size, go_on hb h4⟩

set_option maxHeartbeats 2000000 in
set_option maxRecDepth 100000 in
theorem union_good (A C : Tr) (hA : A.ok) (hC : C.ok) (va vc : Value) (w : World) (hva : NReads w va A.flat) (hvc : NReads w vc C.flat) (hP : PTab w) (wA : wrong A.flat = 0) (wC : wrong C.flat = 0) :
    Calls Tryd.prog 19 #[va, vc] w fun e w' => JQ (.two (5, 0) A C) w e w' := by
  obtain ⟨a1, c1, hv1, _⟩ := id hva
  obtain ⟨a2, c2, hv2, _⟩ := id hvc
  subst hv1
  subst hv2
  obtain ⟨n1, hn1⟩ : ∃ n, A.flat.length = n := ⟨_, rfl⟩
  obtain ⟨n2, hn2⟩ : ∃ n, C.flat.length = n := ⟨_, rfl⟩
  rw [hn1] at hva ⊢
  rw [hn2] at hvc ⊢
  have HB : Hid (Below w.heap.size w (w.alloc (.cells #[.slice a1 n1 c1, .slice a2 n2 c2] 22))) := (Below.refl _ _).alloc (Nat.le_refl _) _
  have HC : Hid (Calls Tryd.prog 37 #[.int .i64 5, .slice (some ⟨w.heap.size, 0, none⟩) 2 2] (w.alloc (.cells #[.slice a1 n1 c1, .slice a2 n2 c2] 22)) fun e w' => JQ (.two (5, 0) A C) (w.alloc (.cells #[.slice a1 n1 c1, .slice a2 n2 c2] 22)) e w') := by
    have hh := heap_alloc_new w (.cells #[.slice a1 n1 c1, .slice a2 n2 c2] 22)
    refine joined_good 5 [A.flat, C.flat] (.two (5, 0) A C) ⟨rfl, rfl, hA, hC⟩ (by simp [Tr.flat]) (Nat.le_refl _) (fun i hi => ?_) w.heap.size 2 _ (hP.stay HB.out) (by simp) (fun i hi => ?_)
    · have hi : i < 2 := hi
      have hc : i = 0 ∨ i = 1 := by omega
      rcases hc with rfl | rfl
      · exact wA
      · exact wC
    · have hi : i < 2 := hi
      have hc : i = 0 ∨ i = 1 := by omega
      rcases hc with rfl | rfl
      · exact ⟨.slice a1 n1 c1, (cell_of_row _ _ 0 _ _ _ hh).trans rfl, hva.stay HB.out⟩
      · exact ⟨.slice a2 n2 c2, (cell_of_row _ _ 1 _ _ _ hh).trans rfl, hvc.stay HB.out⟩
  clear hva hvc hP wA wC hn1 hn2
  go_enter Tryd.func19, Tryd.ntmps19
  go_wp2_with fail
  refine HC.out.mono ?_
  rintro e w1 h1
  have H1 : Hid (JQ (.two (5, 0) A C) w e w1) := h1.from_ HB.out
  clear h1
  rcases H1.out with ⟨_, rfl, _⟩ | ⟨_, u, rfl, _⟩
  all_goals
    go_wp2_with fail
    go_ret2
    exact H1.out

set_option maxHeartbeats 2000000 in
set_option maxRecDepth 100000 in
theorem inter_good (A C : Tr) (hA : A.ok) (hC : C.ok) (va vc : Value) (w : World) (hva : NReads w va A.flat) (hvc : NReads w vc C.flat) (hP : PTab w) (wA : wrong A.flat = 0) (wC : wrong C.flat = 0) :
    Calls Tryd.prog 20 #[va, vc] w fun e w' => JQ (.two (6, 0) A C) w e w' := by
  obtain ⟨a1, c1, hv1, _⟩ := id hva
  obtain ⟨a2, c2, hv2, _⟩ := id hvc
  subst hv1
  subst hv2
  obtain ⟨n1, hn1⟩ : ∃ n, A.flat.length = n := ⟨_, rfl⟩
  obtain ⟨n2, hn2⟩ : ∃ n, C.flat.length = n := ⟨_, rfl⟩
  rw [hn1] at hva ⊢
  rw [hn2] at hvc ⊢
  have HB : Hid (Below w.heap.size w (w.alloc (.cells #[.slice a1 n1 c1, .slice a2 n2 c2] 22))) := (Below.refl _ _).alloc (Nat.le_refl _) _
  have HC : Hid (Calls Tryd.prog 37 #[.int .i64 6, .slice (some ⟨w.heap.size, 0, none⟩) 2 2] (w.alloc (.cells #[.slice a1 n1 c1, .slice a2 n2 c2] 22)) fun e w' => JQ (.two (6, 0) A C) (w.alloc (.cells #[.slice a1 n1 c1, .slice a2 n2 c2] 22)) e w') := by
    have hh := heap_alloc_new w (.cells #[.slice a1 n1 c1, .slice a2 n2 c2] 22)
    refine joined_good 6 [A.flat, C.flat] (.two (6, 0) A C) ⟨rfl, rfl, hA, hC⟩ (by simp [Tr.flat]) (Nat.le_refl _) (fun i hi => ?_) w.heap.size 2 _ (hP.stay HB.out) (by simp) (fun i hi => ?_)
    · have hi : i < 2 := hi
      have hc : i = 0 ∨ i = 1 := by omega
      rcases hc with rfl | rfl
      · exact wA
      · exact wC
    · have hi : i < 2 := hi
      have hc : i = 0 ∨ i = 1 := by omega
      rcases hc with rfl | rfl
      · exact ⟨.slice a1 n1 c1, (cell_of_row _ _ 0 _ _ _ hh).trans rfl, hva.stay HB.out⟩
      · exact ⟨.slice a2 n2 c2, (cell_of_row _ _ 1 _ _ _ hh).trans rfl, hvc.stay HB.out⟩
  clear hva hvc hP wA wC hn1 hn2
  go_enter Tryd.func20, Tryd.ntmps20
  go_wp2_with fail
  refine HC.out.mono ?_
  rintro e w1 h1
  have H1 : Hid (JQ (.two (6, 0) A C) w e w1) := h1.from_ HB.out
  clear h1
  rcases H1.out with ⟨_, rfl, _⟩ | ⟨_, u, rfl, _⟩
  all_goals
    go_wp2_with fail
    go_ret2
    exact H1.out

set_option maxHeartbeats 2000000 in
set_option maxRecDepth 100000 in
theorem concatN_good (A C : Tr) (hA : A.ok) (hC : C.ok) (va vc : Value) (w : World) (hva : NReads w va A.flat) (hvc : NReads w vc C.flat) (hP : PTab w) (wA : wrong A.flat = 0) (wC : wrong C.flat = 0) :
    Calls Tryd.prog 21 #[va, vc] w fun e w' => JQ (.two (7, 0) A C) w e w' := by
  obtain ⟨a1, c1, hv1, _⟩ := id hva
  obtain ⟨a2, c2, hv2, _⟩ := id hvc
  subst hv1
  subst hv2
  obtain ⟨n1, hn1⟩ : ∃ n, A.flat.length = n := ⟨_, rfl⟩
  obtain ⟨n2, hn2⟩ : ∃ n, C.flat.length = n := ⟨_, rfl⟩
  rw [hn1] at hva ⊢
  rw [hn2] at hvc ⊢
  have HB : Hid (Below w.heap.size w (w.alloc (.cells #[.slice a1 n1 c1, .slice a2 n2 c2] 22))) := (Below.refl _ _).alloc (Nat.le_refl _) _
  have HC : Hid (Calls Tryd.prog 37 #[.int .i64 7, .slice (some ⟨w.heap.size, 0, none⟩) 2 2] (w.alloc (.cells #[.slice a1 n1 c1, .slice a2 n2 c2] 22)) fun e w' => JQ (.two (7, 0) A C) (w.alloc (.cells #[.slice a1 n1 c1, .slice a2 n2 c2] 22)) e w') := by
    have hh := heap_alloc_new w (.cells #[.slice a1 n1 c1, .slice a2 n2 c2] 22)
    refine joined_good 7 [A.flat, C.flat] (.two (7, 0) A C) ⟨rfl, rfl, hA, hC⟩ (by simp [Tr.flat]) (Nat.le_refl _) (fun i hi => ?_) w.heap.size 2 _ (hP.stay HB.out) (by simp) (fun i hi => ?_)
    · have hi : i < 2 := hi
      have hc : i = 0 ∨ i = 1 := by omega
      rcases hc with rfl | rfl
      · exact wA
      · exact wC
    · have hi : i < 2 := hi
      have hc : i = 0 ∨ i = 1 := by omega
      rcases hc with rfl | rfl
      · exact ⟨.slice a1 n1 c1, (cell_of_row _ _ 0 _ _ _ hh).trans rfl, hva.stay HB.out⟩
      · exact ⟨.slice a2 n2 c2, (cell_of_row _ _ 1 _ _ _ hh).trans rfl, hvc.stay HB.out⟩
  clear hva hvc hP wA wC hn1 hn2
  go_enter Tryd.func21, Tryd.ntmps21
  go_wp2_with fail
  refine HC.out.mono ?_
  rintro e w1 h1
  have H1 : Hid (JQ (.two (7, 0) A C) w e w1) := h1.from_ HB.out
  clear h1
  rcases H1.out with ⟨_, rfl, _⟩ | ⟨_, u, rfl, _⟩
  all_goals
    go_wp2_with fail
    go_ret2
    exact H1.out

set_option maxHeartbeats 2000000 in
set_option maxRecDepth 100000 in
theorem starN_good (A : Tr) (hA : A.ok) (va : Value) (w : World) (hva : NReads w va A.flat) (hP : PTab w) (wA : wrong A.flat = 0) :
    Calls Tryd.prog 24 #[va] w fun e w' => JQ (.one (8, 0) A) w e w' := by
  obtain ⟨a1, c1, hv1, _⟩ := id hva
  subst hv1
  obtain ⟨n1, hn1⟩ : ∃ n, A.flat.length = n := ⟨_, rfl⟩
  rw [hn1] at hva ⊢
  have HB : Hid (Below w.heap.size w (w.alloc (.cells #[.slice a1 n1 c1] 22))) := (Below.refl _ _).alloc (Nat.le_refl _) _
  have HC : Hid (Calls Tryd.prog 37 #[.int .i64 8, .slice (some ⟨w.heap.size, 0, none⟩) 1 1] (w.alloc (.cells #[.slice a1 n1 c1] 22)) fun e w' => JQ (.one (8, 0) A) (w.alloc (.cells #[.slice a1 n1 c1] 22)) e w') := by
    have hh := heap_alloc_new w (.cells #[.slice a1 n1 c1] 22)
    refine joined_good 8 [A.flat] (.one (8, 0) A) ⟨rfl, rfl, hA⟩ (by simp [Tr.flat]) (by simp) (fun i hi => ?_) w.heap.size 1 _ (hP.stay HB.out) (by simp) (fun i hi => ?_)
    · have hi : i < 1 := hi
      obtain rfl : i = 0 := by omega
      exact wA
    · have hi : i < 1 := hi
      obtain rfl : i = 0 := by omega
      exact ⟨.slice a1 n1 c1, (cell_of_row _ _ 0 _ _ _ hh).trans rfl, hva.stay HB.out⟩
  clear hva hP wA hn1
  go_enter Tryd.func24, Tryd.ntmps24
  go_wp2_with fail
  refine HC.out.mono ?_
  rintro e w1 h1
  have H1 : Hid (JQ (.one (8, 0) A) w e w1) := h1.from_ HB.out
  clear h1
  rcases H1.out with ⟨_, rfl, _⟩ | ⟨_, u, rfl, _⟩
  all_goals
    go_wp2_with fail
    go_ret2
    exact H1.out

set_option maxHeartbeats 2000000 in
set_option maxRecDepth 100000 in
theorem notN_good (A : Tr) (hA : A.ok) (va : Value) (w : World) (hva : NReads w va A.flat) (hP : PTab w) (wA : wrong A.flat = 0) :
    Calls Tryd.prog 25 #[va] w fun e w' => JQ (.one (9, 0) A) w e w' := by
  obtain ⟨a1, c1, hv1, _⟩ := id hva
  subst hv1
  obtain ⟨n1, hn1⟩ : ∃ n, A.flat.length = n := ⟨_, rfl⟩
  rw [hn1] at hva ⊢
  have HB : Hid (Below w.heap.size w (w.alloc (.cells #[.slice a1 n1 c1] 22))) := (Below.refl _ _).alloc (Nat.le_refl _) _
  have HC : Hid (Calls Tryd.prog 37 #[.int .i64 9, .slice (some ⟨w.heap.size, 0, none⟩) 1 1] (w.alloc (.cells #[.slice a1 n1 c1] 22)) fun e w' => JQ (.one (9, 0) A) (w.alloc (.cells #[.slice a1 n1 c1] 22)) e w') := by
    have hh := heap_alloc_new w (.cells #[.slice a1 n1 c1] 22)
    refine joined_good 9 [A.flat] (.one (9, 0) A) ⟨rfl, rfl, hA⟩ (by simp [Tr.flat]) (by simp) (fun i hi => ?_) w.heap.size 1 _ (hP.stay HB.out) (by simp) (fun i hi => ?_)
    · have hi : i < 1 := hi
      obtain rfl : i = 0 := by omega
      exact wA
    · have hi : i < 1 := hi
      obtain rfl : i = 0 := by omega
      exact ⟨.slice a1 n1 c1, (cell_of_row _ _ 0 _ _ _ hh).trans rfl, hva.stay HB.out⟩
  clear hva hP wA hn1
  go_enter Tryd.func25, Tryd.ntmps25
  go_wp2_with fail
  refine HC.out.mono ?_
  rintro e w1 h1
  have H1 : Hid (JQ (.one (9, 0) A) w e w1) := h1.from_ HB.out
  clear h1
  rcases H1.out with ⟨_, rfl, _⟩ | ⟨_, u, rfl, _⟩
  all_goals
    go_wp2_with fail
    go_ret2
    exact H1.out

theorem num5_any (e0 : Int) (w : World) : Calls Tryd.prog 14 #[.int .i64 e0] w fun e w' => e = .returned (.int .i64 e0) ∧ w' = w := by
  go_enter Tryd.func14, Tryd.ntmps14
  go_wp2_with fail
  go_ret
  exact ⟨rfl, rfl⟩
def tKnow : Tr := .two (5, 0) (.zero (3, 98)) (.zero (3, 97))
theorem tKnow_nrm : nrm tKnow = .two (5, 0) (.zero (3, 97)) (.zero (3, 98)) := by
  simp [tKnow, nrm, R2, zeroK, unitK, tAll, tNone, Tr.root, Lt, grt, spine, mrg, build, ct, ci, cl, cn, Tr.flat]
theorem tKnow_ok : tKnow.ok := ⟨rfl, rfl, ⟨rfl, rfl⟩, rfl, rfl⟩
theorem tKnow_wrong : wrong tKnow.flat = 0 := by rfl
end Go.Proofs.YtdmjcfecahcdnaaDoor
