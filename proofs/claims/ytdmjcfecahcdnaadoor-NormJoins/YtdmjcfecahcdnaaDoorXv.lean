/- The joins of wrong trees: the first wrong part's error. -/
import Derived.Test.YtdmjcfecahcdnaaDoorXt
namespace Go.Proofs.YtdmjcfecahcdnaaDoor
open Go Go.RowKit
set_option linter.unusedVariables false

/-- What a join of wrong trees tells. -/
def BQ (x : Int) (w : World) (e : Ending) (w' : World) : Prop := e = .returned (.tuple #[.slice none 0 0, .int .i64 x]) ∧ Below w.heap.size w w'

set_option maxHeartbeats 8000000 in
set_option maxRecDepth 100000 in
theorem joined_bad (k : Int) (ps : List (List Nd)) (z : Nat) (hz : z < ps.length) (hps : ps.length ≤ 2) (hw : ∀ i, i < z → wrong (ps.getD i []) = 0) (hwz : wrong (ps.getD z []) ≠ 0) (hm : ∀ i, i < ps.length → (ps.getD i []).length ≤ 9223372036854775806) (G0 pc : Nat) (w : World) (hP : PTab w) (hG0 : G0 < w.heap.size) (hr : ∀ i, i < ps.length → ∃ u, w.cell? ⟨G0, i, none⟩ = some u ∧ NReads w u (ps.getD i [])) :
    Calls Tryd.prog 37 #[.int .i64 k, .slice (some ⟨G0, 0, none⟩) ps.length pc] w fun e w' => BQ (wrong (ps.getD z [])) w e w' := by
  have HR : Hid (∀ i, i < ps.length → ∃ u, w.cell? ⟨G0, i, none⟩ = some u ∧ NReads w u (ps.getD i [])) := hr
  have HW : Hid (∀ i, i < z → wrong (ps.getD i []) = 0) := hw
  have HM : Hid (∀ i, i < ps.length → (ps.getD i []).length ≤ 9223372036854775806) := hm
  have HP : Hid (PTab w) := hP
  obtain ⟨x, hx⟩ : ∃ x, wrong (ps.getD z []) = x := ⟨_, rfl⟩
  rw [hx] at hwz ⊢
  have HX : Hid (wrong (ps.getD z []) = x) := hx
  have hxb : (x != 0) = true := by simpa using hwz
  have HLE : Hid (∀ i, i < z → 1 ≤ (ps.getD i []).length ∧ (ps.getD i []).length ≤ 4000) := fun i hi => by
    obtain ⟨h1, h2⟩ := wrong_len (hw i hi)
    exact ⟨free_pos h2, h1⟩
  have HTB : Hid (∀ i, i ≤ z → tot (ps.take i) ≤ i * 4000) := fun i => by
    induction i with
    | zero => intro _; simp [tot]
    | succ i ih =>
      intro hi
      have h1 := ih (by omega)
      have h2 := tot_next (ps := ps) (i := i) (by omega)
      have h3 := (HLE.out i (by omega)).2
      rw [h2]
      omega
  clear hr hw hP hm hx hwz
  go_enter Tryd.func37, Tryd.ntmps37
  go_wp2_with fail
  go_loopw [6, 17] (fun v6 v17 wr => ∃ i : Nat, i ≤ z ∧ v6 = .int .i64 ((tot (ps.take i) + 1 : Nat) : Int) ∧ v17 = .int .i64 (i : Int) ∧ Below w.heap.size w wr) (fun _ v17 _ => ps.length - (intOf v17).toNat)
  case atStart => exact ⟨0, Nat.zero_le _, by simp [tot], rfl, Below.refl _ _⟩
  case round =>
    obtain ⟨i, hi, rfl, rfl, hbl⟩ := hrel
    have HB : Hid (Below w.heap.size w wr) := hbl
    clear hbl
    have hlt : i < ps.length := by omega
    have hiI : (i : Int) < ps.length := by omega
    obtain ⟨u, hu, hun⟩ := HR.out i hlt
    have cu : wr.cell? ⟨G0, i, none⟩ = some u := (World.cell?_of_block (a := ⟨G0, i, none⟩) (HB.out.block G0 hG0)).trans hu
    have hgl : G0 < wr.heap.size := Nat.lt_of_lt_of_le hG0 HB.out.size
    have HU : Hid (NReads w u (ps.getD i [])) := hun
    obtain ⟨au, cc, hue, _⟩ := id hun
    obtain ⟨pl, hpl⟩ : ∃ pl, (ps.getD i []).length = pl := ⟨_, rfl⟩
    have hMi := HM.out i hlt
    by_cases hiz : i < z
    · have h3 := (HLE.out i hiz).2
      have h4 := HTB.out i hi
      have h5 := tot_next (ps := ps) (i := i) hlt
      rw [hpl] at hue h3 h5
      have hwr : IntKind.i64.wrap (((tot (ps.take i) + 1 : Nat) : Int) + (pl : Int)) = ((tot (ps.take (i + 1)) + 1 : Nat) : Int) := by rw [IntKind.wrap_i64, h5]; omega
      obtain ⟨t1, ht1⟩ : ∃ t1, tot (ps.take i) + 1 = t1 := ⟨_, rfl⟩
      obtain ⟨t2, ht2⟩ : ∃ t2, tot (ps.take (i + 1)) + 1 = t2 := ⟨_, rfl⟩
      rw [ht1, ht2] at hwr
      rw [ht1]
      have HT2 : Hid (tot (ps.take (i + 1)) + 1 = t2) := ht2
      subst hue
      clear hu hun h4 h5 ht1 ht2 hxb
      go_wp2_with fail
      refine (nerr_any _ _ _ (HU.out.stay HB.out) hMi (HP.out.stay HB.out)).mono ?_
      rintro e w1 ⟨rfl, hb1⟩
      rw [HW.out i hiz]
      have HB1 : Hid (Below w.heap.size w w1) := go_on HB.out hb1
      clear hb1 hpl hMi
      go_wp2_with fail
      go_roundw
      case rel => exact ⟨i + 1, by omega, by rw [HT2.out], by go_num, HB1.out⟩
      case measure => simp [intOf]; omega
    · obtain rfl : i = z := by omega
      rw [hpl] at hue
      obtain ⟨t1, ht1⟩ : ∃ t1, tot (ps.take i) + 1 = t1 := ⟨_, rfl⟩
      rw [ht1]
      subst hue
      clear hu hun ht1
      go_wp2_with fail
      refine (nerr_any _ _ _ (HU.out.stay HB.out) hMi (HP.out.stay HB.out)).mono ?_
      rintro e w1 ⟨rfl, hb1⟩
      rw [HX.out]
      have HB1 : Hid (Below w.heap.size w w1) := go_on HB.out hb1
      clear hb1 hpl hMi
      go_wp2_with fail
      go_ret2
      exact ⟨rfl, HB1.out⟩

theorem BQ.from_ {x : Int} {w w1 w' : World} {e : Ending} (h : BQ x w1 e w') (hb : Below w.heap.size w w1) : BQ x w e w' := ⟨h.1, go_on hb h.2⟩
/-- The error of two parts: the first wrong one's. -/
def wrong2 (a c : List Nd) : Int := if wrong a = 0 then wrong c else wrong a

set_option maxHeartbeats 2000000 in
set_option maxRecDepth 100000 in
theorem union_bad (a c : List Nd) (va vc : Value) (w : World) (hva : NReads w va a) (hvc : NReads w vc c) (ma : a.length ≤ 9223372036854775806) (mc : c.length ≤ 9223372036854775806) (hP : PTab w) (hw : wrong2 a c ≠ 0) :
    Calls Tryd.prog 19 #[va, vc] w fun e w' => BQ (wrong2 a c) w e w' := by
  obtain ⟨a1, c1, hv1, _⟩ := id hva
  obtain ⟨a2, c2, hv2, _⟩ := id hvc
  subst hv1
  subst hv2
  obtain ⟨n1, hn1⟩ : ∃ n, a.length = n := ⟨_, rfl⟩
  obtain ⟨n2, hn2⟩ : ∃ n, c.length = n := ⟨_, rfl⟩
  rw [hn1] at hva ⊢
  rw [hn2] at hvc ⊢
  have HB : Hid (Below w.heap.size w (w.alloc (.cells #[.slice a1 n1 c1, .slice a2 n2 c2] 22))) := (Below.refl _ _).alloc (Nat.le_refl _) _
  have HC : Hid (Calls Tryd.prog 37 #[.int .i64 5, .slice (some ⟨w.heap.size, 0, none⟩) 2 2] (w.alloc (.cells #[.slice a1 n1 c1, .slice a2 n2 c2] 22)) fun e w' => BQ (wrong2 a c) (w.alloc (.cells #[.slice a1 n1 c1, .slice a2 n2 c2] 22)) e w') := by
    have hh := heap_alloc_new w (.cells #[.slice a1 n1 c1, .slice a2 n2 c2] 22)
    have hr : ∀ i, i < [a, c].length → ∃ u, (w.alloc (.cells #[.slice a1 n1 c1, .slice a2 n2 c2] 22)).cell? ⟨w.heap.size, i, none⟩ = some u ∧ NReads (w.alloc (.cells #[.slice a1 n1 c1, .slice a2 n2 c2] 22)) u ([a, c].getD i []) := fun i hi => by
      have hi : i < 2 := hi
      have hc : i = 0 ∨ i = 1 := by omega
      rcases hc with rfl | rfl
      · exact ⟨.slice a1 n1 c1, (cell_of_row _ _ 0 _ _ _ hh).trans rfl, hva.stay HB.out⟩
      · exact ⟨.slice a2 n2 c2, (cell_of_row _ _ 1 _ _ _ hh).trans rfl, hvc.stay HB.out⟩
    have hm : ∀ i, i < [a, c].length → ([a, c].getD i []).length ≤ 9223372036854775806 := fun i hi => by
      have hi : i < 2 := hi
      have hc : i = 0 ∨ i = 1 := by omega
      rcases hc with rfl | rfl
      · exact ma
      · exact mc
    by_cases h0 : wrong a = 0
    · have he : wrong2 a c = wrong c := by unfold wrong2; rw [if_pos h0]
      rw [he] at hw ⊢
      refine joined_bad 5 [a, c] 1 (by show 1 < 2; omega) (Nat.le_refl _) (fun i hi => ?_) hw hm w.heap.size 2 _ (hP.stay HB.out) (by simp) hr
      obtain rfl : i = 0 := by omega
      exact h0
    · have he : wrong2 a c = wrong a := by unfold wrong2; rw [if_neg h0]
      rw [he]
      exact joined_bad 5 [a, c] 0 (by show 0 < 2; omega) (Nat.le_refl _) (fun i hi => absurd hi (by omega)) h0 hm w.heap.size 2 _ (hP.stay HB.out) (by simp) hr
  clear hva hvc hP hw hn1 hn2 ma mc
  go_enter Tryd.func19, Tryd.ntmps19
  go_wp2_with fail
  refine HC.out.mono ?_
  rintro e w1 h1
  obtain ⟨rfl, hb1⟩ := h1.from_ HB.out
  have H1 : Hid (Below w.heap.size w w1) := hb1
  clear h1 hb1
  go_wp2_with fail
  go_ret2
  exact ⟨rfl, H1.out⟩

set_option maxHeartbeats 2000000 in
set_option maxRecDepth 100000 in
theorem inter_bad (a c : List Nd) (va vc : Value) (w : World) (hva : NReads w va a) (hvc : NReads w vc c) (ma : a.length ≤ 9223372036854775806) (mc : c.length ≤ 9223372036854775806) (hP : PTab w) (hw : wrong2 a c ≠ 0) :
    Calls Tryd.prog 20 #[va, vc] w fun e w' => BQ (wrong2 a c) w e w' := by
  obtain ⟨a1, c1, hv1, _⟩ := id hva
  obtain ⟨a2, c2, hv2, _⟩ := id hvc
  subst hv1
  subst hv2
  obtain ⟨n1, hn1⟩ : ∃ n, a.length = n := ⟨_, rfl⟩
  obtain ⟨n2, hn2⟩ : ∃ n, c.length = n := ⟨_, rfl⟩
  rw [hn1] at hva ⊢
  rw [hn2] at hvc ⊢
  have HB : Hid (Below w.heap.size w (w.alloc (.cells #[.slice a1 n1 c1, .slice a2 n2 c2] 22))) := (Below.refl _ _).alloc (Nat.le_refl _) _
  have HC : Hid (Calls Tryd.prog 37 #[.int .i64 6, .slice (some ⟨w.heap.size, 0, none⟩) 2 2] (w.alloc (.cells #[.slice a1 n1 c1, .slice a2 n2 c2] 22)) fun e w' => BQ (wrong2 a c) (w.alloc (.cells #[.slice a1 n1 c1, .slice a2 n2 c2] 22)) e w') := by
    have hh := heap_alloc_new w (.cells #[.slice a1 n1 c1, .slice a2 n2 c2] 22)
    have hr : ∀ i, i < [a, c].length → ∃ u, (w.alloc (.cells #[.slice a1 n1 c1, .slice a2 n2 c2] 22)).cell? ⟨w.heap.size, i, none⟩ = some u ∧ NReads (w.alloc (.cells #[.slice a1 n1 c1, .slice a2 n2 c2] 22)) u ([a, c].getD i []) := fun i hi => by
      have hi : i < 2 := hi
      have hc : i = 0 ∨ i = 1 := by omega
      rcases hc with rfl | rfl
      · exact ⟨.slice a1 n1 c1, (cell_of_row _ _ 0 _ _ _ hh).trans rfl, hva.stay HB.out⟩
      · exact ⟨.slice a2 n2 c2, (cell_of_row _ _ 1 _ _ _ hh).trans rfl, hvc.stay HB.out⟩
    have hm : ∀ i, i < [a, c].length → ([a, c].getD i []).length ≤ 9223372036854775806 := fun i hi => by
      have hi : i < 2 := hi
      have hc : i = 0 ∨ i = 1 := by omega
      rcases hc with rfl | rfl
      · exact ma
      · exact mc
    by_cases h0 : wrong a = 0
    · have he : wrong2 a c = wrong c := by unfold wrong2; rw [if_pos h0]
      rw [he] at hw ⊢
      refine joined_bad 6 [a, c] 1 (by show 1 < 2; omega) (Nat.le_refl _) (fun i hi => ?_) hw hm w.heap.size 2 _ (hP.stay HB.out) (by simp) hr
      obtain rfl : i = 0 := by omega
      exact h0
    · have he : wrong2 a c = wrong a := by unfold wrong2; rw [if_neg h0]
      rw [he]
      exact joined_bad 6 [a, c] 0 (by show 0 < 2; omega) (Nat.le_refl _) (fun i hi => absurd hi (by omega)) h0 hm w.heap.size 2 _ (hP.stay HB.out) (by simp) hr
  clear hva hvc hP hw hn1 hn2 ma mc
  go_enter Tryd.func20, Tryd.ntmps20
  go_wp2_with fail
  refine HC.out.mono ?_
  rintro e w1 h1
  obtain ⟨rfl, hb1⟩ := h1.from_ HB.out
  have H1 : Hid (Below w.heap.size w w1) := hb1
  clear h1 hb1
  go_wp2_with fail
  go_ret2
  exact ⟨rfl, H1.out⟩

set_option maxHeartbeats 2000000 in
set_option maxRecDepth 100000 in
theorem concatN_bad (a c : List Nd) (va vc : Value) (w : World) (hva : NReads w va a) (hvc : NReads w vc c) (ma : a.length ≤ 9223372036854775806) (mc : c.length ≤ 9223372036854775806) (hP : PTab w) (hw : wrong2 a c ≠ 0) :
    Calls Tryd.prog 21 #[va, vc] w fun e w' => BQ (wrong2 a c) w e w' := by
  obtain ⟨a1, c1, hv1, _⟩ := id hva
  obtain ⟨a2, c2, hv2, _⟩ := id hvc
  subst hv1
  subst hv2
  obtain ⟨n1, hn1⟩ : ∃ n, a.length = n := ⟨_, rfl⟩
  obtain ⟨n2, hn2⟩ : ∃ n, c.length = n := ⟨_, rfl⟩
  rw [hn1] at hva ⊢
  rw [hn2] at hvc ⊢
  have HB : Hid (Below w.heap.size w (w.alloc (.cells #[.slice a1 n1 c1, .slice a2 n2 c2] 22))) := (Below.refl _ _).alloc (Nat.le_refl _) _
  have HC : Hid (Calls Tryd.prog 37 #[.int .i64 7, .slice (some ⟨w.heap.size, 0, none⟩) 2 2] (w.alloc (.cells #[.slice a1 n1 c1, .slice a2 n2 c2] 22)) fun e w' => BQ (wrong2 a c) (w.alloc (.cells #[.slice a1 n1 c1, .slice a2 n2 c2] 22)) e w') := by
    have hh := heap_alloc_new w (.cells #[.slice a1 n1 c1, .slice a2 n2 c2] 22)
    have hr : ∀ i, i < [a, c].length → ∃ u, (w.alloc (.cells #[.slice a1 n1 c1, .slice a2 n2 c2] 22)).cell? ⟨w.heap.size, i, none⟩ = some u ∧ NReads (w.alloc (.cells #[.slice a1 n1 c1, .slice a2 n2 c2] 22)) u ([a, c].getD i []) := fun i hi => by
      have hi : i < 2 := hi
      have hc : i = 0 ∨ i = 1 := by omega
      rcases hc with rfl | rfl
      · exact ⟨.slice a1 n1 c1, (cell_of_row _ _ 0 _ _ _ hh).trans rfl, hva.stay HB.out⟩
      · exact ⟨.slice a2 n2 c2, (cell_of_row _ _ 1 _ _ _ hh).trans rfl, hvc.stay HB.out⟩
    have hm : ∀ i, i < [a, c].length → ([a, c].getD i []).length ≤ 9223372036854775806 := fun i hi => by
      have hi : i < 2 := hi
      have hc : i = 0 ∨ i = 1 := by omega
      rcases hc with rfl | rfl
      · exact ma
      · exact mc
    by_cases h0 : wrong a = 0
    · have he : wrong2 a c = wrong c := by unfold wrong2; rw [if_pos h0]
      rw [he] at hw ⊢
      refine joined_bad 7 [a, c] 1 (by show 1 < 2; omega) (Nat.le_refl _) (fun i hi => ?_) hw hm w.heap.size 2 _ (hP.stay HB.out) (by simp) hr
      obtain rfl : i = 0 := by omega
      exact h0
    · have he : wrong2 a c = wrong a := by unfold wrong2; rw [if_neg h0]
      rw [he]
      exact joined_bad 7 [a, c] 0 (by show 0 < 2; omega) (Nat.le_refl _) (fun i hi => absurd hi (by omega)) h0 hm w.heap.size 2 _ (hP.stay HB.out) (by simp) hr
  clear hva hvc hP hw hn1 hn2 ma mc
  go_enter Tryd.func21, Tryd.ntmps21
  go_wp2_with fail
  refine HC.out.mono ?_
  rintro e w1 h1
  obtain ⟨rfl, hb1⟩ := h1.from_ HB.out
  have H1 : Hid (Below w.heap.size w w1) := hb1
  clear h1 hb1
  go_wp2_with fail
  go_ret2
  exact ⟨rfl, H1.out⟩
end Go.Proofs.YtdmjcfecahcdnaaDoor
