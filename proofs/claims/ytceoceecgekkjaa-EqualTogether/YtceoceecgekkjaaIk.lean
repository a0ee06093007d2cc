/- equal: Equal, Inside; the law's num, live; the document's Two. -/
import Derived.Test.YtceoceecgekkjaaIj
import Derived.Test.YtceoceecgekkjaaJq
namespace Go.Proofs.Ytceoceecgekkjaa
open Go Go.RowKit Go.Lib Go.Maps
set_option linter.unusedVariables false

/-- There is none. -/
noncomputable def eqB (A B : Aut) (sh : Nat × Nat → Bool) : Bool := decide (ckE A B = 0) && !apF (eqO A B sh)

set_option maxHeartbeats 4000000 in
set_option maxRecDepth 100000 in
theorem eeq_any (va vb : Value) (A B : Aut) (w : World) (ha : AR w va A) (hb : AR w vb B) (hm : A.nx.length ≤ 9223372036854775806) (hm2 : A.ac.length ≤ 9223372036854775806) (hm3 : B.nx.length ≤ 9223372036854775806) (hm4 : B.ac.length ≤ 9223372036854775806) :
    Calls Try.prog 10 #[va, vb] w fun e w' => e = .returned (.tuple #[.bool (eqB A B (sx A B)), .int .i64 (ckE A B)]) ∧ Below w.heap.size w w' := by
  obtain ⟨c, hc⟩ : ∃ c, ckE A B = c := ⟨_, rfl⟩
  obtain ⟨f, hf⟩ : ∃ f, apF (eqO A B (sx A B)) = f := ⟨_, rfl⟩
  have hE : eqB A B (sx A B) = (decide (c = 0) && !f) := by unfold eqB; rw [hc, hf]
  obtain ⟨s, hs⟩ : ∃ s, apS (eqO A B (sx A B)) = s := ⟨_, rfl⟩
  have HC : Hid (∀ y, Below w.heap.size w y → Calls Try.prog 17 #[va, vb] y fun e w' => e = .returned (.tuple #[.string s, .bool f, .int .i64 c]) ∧ Below y.heap.size y w') := fun y hy => by
    refine Calls.mono (edf_any va vb A B y (ha.stay hy) (hb.stay hy) hm hm2 hm3 hm4) ?_
    rintro e w' ⟨rfl, _, h3⟩
    exact ⟨by rw [hs, hf, hc], h3⟩
  rw [hE, hc]
  clear hE hc hf hs
  obtain ⟨an, cn, aa, ca, e1, _, _⟩ := ha.is
  obtain ⟨bn, dn, ba, da, e2, _, _⟩ := hb.is
  subst e1
  subst e2
  clear ha hb
  go_enter Try.func10, Try.ntmps10
  go_wp2_with fail
  refine (HC.out _ (go_on (below_new _ _) (below_new _ _))).mono ?_
  rintro e w1 ⟨rfl, hb1⟩
  have HB1 : Hid (Below w.heap.size w w1) := go_on (go_on (below_new _ _) (below_new _ _)) hb1
  clear hb1 HC
  by_cases h0 : c = 0
  · subst h0
    cases f <;> (go_wp2_with fail; go_ret2; exact ⟨rfl, HB1.out⟩)
  · have hd : decide (c = 0) = false := decide_eq_false h0
    have hbe : (c == 0) = false := by simpa using h0
    go_wp2_with fail
    go_ret2
    exact ⟨by rw [decide_eq_false h0]; rfl, HB1.out⟩

set_option maxHeartbeats 4000000 in
set_option maxRecDepth 100000 in
theorem ein_any (va vb : Value) (A B : Aut) (w : World) (ha : AR w va A) (hb : AR w vb B) (hm : A.nx.length ≤ 9223372036854775806) (hm2 : A.ac.length ≤ 9223372036854775806) (hm3 : B.nx.length ≤ 9223372036854775806) (hm4 : B.ac.length ≤ 9223372036854775806) :
    Calls Try.prog 12 #[va, vb] w fun e w' => e = .returned (.tuple #[.bool (eqB A B (se A B)), .int .i64 (ckE A B)]) ∧ Below w.heap.size w w' := by
  obtain ⟨c, hc⟩ : ∃ c, ckE A B = c := ⟨_, rfl⟩
  obtain ⟨f, hf⟩ : ∃ f, apF (eqO A B (se A B)) = f := ⟨_, rfl⟩
  have hE : eqB A B (se A B) = (decide (c = 0) && !f) := by unfold eqB; rw [hc, hf]
  obtain ⟨s, hs⟩ : ∃ s, apS (eqO A B (se A B)) = s := ⟨_, rfl⟩
  have HC : Hid (∀ y, Below w.heap.size w y → Calls Try.prog 19 #[va, vb] y fun e w' => e = .returned (.tuple #[.string s, .bool f, .int .i64 c]) ∧ Below y.heap.size y w') := fun y hy => by
    refine Calls.mono (ees_any va vb A B y (ha.stay hy) (hb.stay hy) hm hm2 hm3 hm4) ?_
    rintro e w' ⟨rfl, _, h3⟩
    exact ⟨by rw [hs, hf, hc], h3⟩
  rw [hE, hc]
  clear hE hc hf hs
  obtain ⟨an, cn, aa, ca, e1, _, _⟩ := ha.is
  obtain ⟨bn, dn, ba, da, e2, _, _⟩ := hb.is
  subst e1
  subst e2
  clear ha hb
  go_enter Try.func12, Try.ntmps12
  go_wp2_with fail
  refine (HC.out _ (go_on (below_new _ _) (below_new _ _))).mono ?_
  rintro e w1 ⟨rfl, hb1⟩
  have HB1 : Hid (Below w.heap.size w w1) := go_on (go_on (below_new _ _) (below_new _ _)) hb1
  clear hb1 HC
  by_cases h0 : c = 0
  · subst h0
    cases f <;> (go_wp2_with fail; go_ret2; exact ⟨rfl, HB1.out⟩)
  · have hd : decide (c = 0) = false := decide_eq_false h0
    have hbe : (c == 0) = false := by simpa using h0
    go_wp2_with fail
    go_ret2
    exact ⟨by rw [decide_eq_false h0]; rfl, HB1.out⟩

theorem num12_any (e0 : Int) (w : World) :
    Calls Try.prog 14 #[.int .i64 e0] w fun e w' => e = .returned (.int .i64 e0) ∧ w' = w := by
  go_enter Try.func14, Try.ntmps14
  go_wp2_with fail
  go_ret
  exact ⟨rfl, rfl⟩
set_option maxHeartbeats 4000000 in
set_option maxRecDepth 100000 in
theorem rtwo_any (va vb : Value) (A B : Aut) (w : World) (ha : AR w va A) (hb : AR w vb B) (hm : A.nx.length ≤ 9223372036854775806) (hm2 : A.ac.length ≤ 9223372036854775806) (hm3 : B.nx.length ≤ 9223372036854775806) (hm4 : B.ac.length ≤ 9223372036854775806) :
    Calls Try.prog 42 #[va, vb] w fun e w' => e = .returned (.int .i64 (ckE A B)) ∧ Below w.heap.size w w' := by
  obtain ⟨an, cn, aa, ca, e1, _, _⟩ := ha.is
  obtain ⟨bn, dn, ba, da, e2, _, _⟩ := hb.is
  have HA : Hid (∀ y, Below w.heap.size w y → Calls Try.prog 59 #[va] y fun e w' => e = .returned (.int .i64 (chkA A)) ∧ Below y.heap.size y w') := fun y hy => racheck_any va A y (ha.stay hy) hm hm2
  have HB : Hid (∀ y, Below w.heap.size w y → Calls Try.prog 59 #[vb] y fun e w' => e = .returned (.int .i64 (chkA B)) ∧ Below y.heap.size y w') := fun y hy => racheck_any vb B y (hb.stay hy) hm3 hm4
  subst e1
  subst e2
  obtain ⟨V, hV⟩ : ∃ V, V = (w.alloc (.cells #[.int .i64 A.k, .slice an A.nx.length cn, .slice aa A.ac.length ca] 25)).alloc (.cells #[.int .i64 B.k, .slice bn B.nx.length dn, .slice ba B.ac.length da] 25) := ⟨_, rfl⟩
  have HVE : Hid (V = (w.alloc (.cells #[.int .i64 A.k, .slice an A.nx.length cn, .slice aa A.ac.length ca] 25)).alloc (.cells #[.int .i64 B.k, .slice bn B.nx.length dn, .slice ba B.ac.length da] 25)) := hV
  have HBV : Hid (Below w.heap.size w V) := by show Below _ _ _; rw [hV]; exact go_on (below_new _ _) (below_new _ _)
  have HR1 : Hid (RowAt V w.heap.size #[.int .i64 A.k, .slice an A.nx.length cn, .slice aa A.ac.length ca]) := by show RowAt _ _ _; rw [hV]; exact (RowAt.last _ _ _).alloc _
  have HR2 : Hid (RowAt V (w.heap.size + 1) #[.int .i64 B.k, .slice bn B.nx.length dn, .slice ba B.ac.length da]) := by
    have := RowAt.last (w.alloc (.cells #[.int .i64 A.k, .slice an A.nx.length cn, .slice aa A.ac.length ca] 25)) #[.int .i64 B.k, .slice bn B.nx.length dn, .slice ba B.ac.length da] 25
    rw [World.size_alloc] at this
    show RowAt _ _ _; rw [hV]; exact this
  clear ha hb hV
  go_enter Try.func42, Try.ntmps42
  go_wp2_with fail
  rw [← HVE.out]
  refine (HA.out V HBV.out).mono ?_
  rintro e w1 ⟨rfl, hb1⟩
  have HB1 : Hid (Below w.heap.size w w1) := go_on HBV.out hb1
  have HR3 : Hid (RowAt w1 w.heap.size #[.int .i64 A.k, .slice an A.nx.length cn, .slice aa A.ac.length ca]) := HR1.out.stay hb1
  have HR4 : Hid (RowAt w1 (w.heap.size + 1) #[.int .i64 B.k, .slice bn B.nx.length dn, .slice ba B.ac.length da]) := HR2.out.stay hb1
  have cs := HR4.out.cell
  clear hb1
  rcases ckE_cases A B with ⟨_, _, hk, h1, h2, h3⟩ | ⟨h1, h2, hk, h3⟩ | ⟨h1, h3⟩ | ⟨h1, h2, h3⟩
  · have HE : Hid (ckE A B = _) := h3
    rw [h1]
    rw [h2] at HB
    clear h1 h2 h3
    go_wp2_with fail
    refine (HB.out w1 HB1.out).mono ?_
    rintro e w2 ⟨rfl, hb2⟩
    have HB2 : Hid (Below w.heap.size w w2) := go_on HB1.out hb2
    have c1 := (HR3.out.stay hb2).cell
    have c2 := (HR4.out.stay hb2).cell
    clear hb2 cs
    go_wp2_with fail
    go_ret
    exact ⟨by rw [HE.out]; rfl, HB2.out⟩
  · have HE : Hid (ckE A B = _) := h3
    rw [h1]
    rw [h2] at HB
    clear h1 h2 h3
    go_wp2_with fail
    refine (HB.out w1 HB1.out).mono ?_
    rintro e w2 ⟨rfl, hb2⟩
    have HB2 : Hid (Below w.heap.size w w2) := go_on HB1.out hb2
    have c1 := (HR3.out.stay hb2).cell
    have c2 := (HR4.out.stay hb2).cell
    have hd : decide (A.k = B.k) = false := decide_eq_false hk
    have hbn : (A.k != B.k) = true := by simpa using hk
    clear hb2 cs
    go_wp2_with fail
    go_ret
    exact ⟨by rw [HE.out]; rfl, HB2.out⟩
  · have HE : Hid (ckE A B = _) := h3
    rw [h1]
    clear h1 h3
    have c1 := HR3.out.cell
    go_wp2_with fail
    go_ret
    exact ⟨by rw [HE.out]; rfl, HB1.out⟩
  · have HE : Hid (ckE A B = _) := h3
    rw [h1]
    rw [h2] at HB
    clear h1 h2 h3
    go_wp2_with fail
    refine (HB.out w1 HB1.out).mono ?_
    rintro e w2 ⟨rfl, hb2⟩
    have HB2 : Hid (Below w.heap.size w w2) := go_on HB1.out hb2
    have c1 := (HR3.out.stay hb2).cell
    have c2 := (HR4.out.stay hb2).cell
    clear hb2 cs
    go_wp2_with fail
    go_ret
    exact ⟨by rw [HE.out]; rfl, HB2.out⟩
/-- May two be asked? -/
theorem good_any (va vb : Value) (A B : Aut) (w : World) (ha : AR w va A) (hb : AR w vb B) (hm : A.nx.length ≤ 9223372036854775806) (hm2 : A.ac.length ≤ 9223372036854775806) (hm3 : B.nx.length ≤ 9223372036854775806) (hm4 : B.ac.length ≤ 9223372036854775806) (b : Bool) (hbb : decide (ckE A B = 0) = b) :
    Calls Try.prog 23 #[va, vb] w fun e w' => e = .returned (.bool b) ∧ Below w.heap.size w w' := by
  have HC : Hid (∀ y, Below w.heap.size w y → Calls Try.prog 42 #[va, vb] y fun e w' => e = .returned (.int .i64 (ckE A B)) ∧ Below y.heap.size y w') := fun y hy => rtwo_any va vb A B y (ha.stay hy) (hb.stay hy) hm hm2 hm3 hm4
  obtain ⟨an, cn, aa, ca, e1, _, _⟩ := ha.is
  obtain ⟨bn, dn, ba, da, e2, _, _⟩ := hb.is
  subst e1
  subst e2
  obtain ⟨c, hc⟩ : ∃ c, ckE A B = c := ⟨_, rfl⟩
  rw [hc] at HC hbb
  have HE : Hid (decide (c = 0) = b) := hbb
  clear ha hb hc hbb
  go_enter Try.func23, Try.ntmps23
  go_wp2_with fail
  refine (HC.out _ (go_on (below_new _ _) (below_new _ _))).mono ?_
  rintro e w1 ⟨rfl, hb1⟩
  have HB1 : Hid (Below w.heap.size w w1) := go_on (go_on (below_new _ _) (below_new _ _)) hb1
  clear hb1 HC
  by_cases h0 : c = 0
  · subst h0
    go_wp2_with fail
    go_ret
    exact ⟨by rw [← HE.out]; rfl, HB1.out⟩
  · have hd : decide (c = 0) = false := decide_eq_false h0
    have hbe : (c == 0) = false := by simpa using h0
    go_wp2_with fail
    go_ret
    exact ⟨by rw [← HE.out, decide_eq_false h0]; rfl, HB1.out⟩
end Go.Proofs.Ytceoceecgekkjaa
