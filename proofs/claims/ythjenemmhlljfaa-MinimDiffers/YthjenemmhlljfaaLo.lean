/- The document's Differ. -/
import Derived.Test.YthjenemmhlljfaaLn
import Derived.Test.YthjenemmhlljfaaLl
namespace Go.Proofs.Ythjenemmhlljfaa
open Go Go.RowKit Go.Lib
set_option linter.unusedVariables false

set_option maxHeartbeats 4000000 in
set_option maxRecDepth 100000 in
theorem rdiffer_any (v : Value) (A : Aut) (w : World) (h : AR w v A) (hm : A.nx.length ≤ 9223372036854775806) (hm2 : A.ac.length ≤ 9223372036854775806) (s t : Int) :
    Calls Try.prog 25 #[v, .int .i64 s, .int .i64 t] w fun e w' => e = .returned (.tuple #[.string (apS (dfO A s t)), .bool (apF (dfO A s t)), .int .i64 (dfE A s t)]) ∧ Below w.heap.size w w' := by
  obtain ⟨an, cn, aa, ca, e, k1, k2⟩ := h.is
  have HAR : Hid (∀ y, Below w.heap.size w y → AR y v A) := fun y hy => h.stay hy
  subst e
  clear h k1 k2
  have HRV : Hid (RowAt (w.alloc (.cells #[.int .i64 A.k, .slice an A.nx.length cn, .slice aa A.ac.length ca] 25)) w.heap.size #[.int .i64 A.k, .slice an A.nx.length cn, .slice aa A.ac.length ca]) := RowAt.last _ _ _
  go_enter Try.func25, Try.ntmps25
  go_wp2_with fail
  refine (racheck_any _ A _ (HAR.out _ (below_new _ _)) hm hm2).mono ?_
  rintro e w1 ⟨rfl, hb1⟩
  have HB1 : Hid (Below w.heap.size w w1) := go_on (below_new _ _) hb1
  have HR1 : Hid (RowAt w1 w.heap.size #[.int .i64 A.k, .slice an A.nx.length cn, .slice aa A.ac.length ca]) := HRV.out.stay hb1
  have cs := HR1.out.cell
  clear hb1
  rcases chkA_cases A with ⟨G, hc⟩ | ⟨G, hc⟩
  · rw [hc]
    have HC : Hid (chkA A = 0) := hc
    have HG : Hid (Good A) := G
    clear hc G
    have cases5 : s < 0 ∨ (0 ≤ s ∧ t < 0) ∨ (0 ≤ s ∧ 0 ≤ t ∧ (A.ac.length : Int) ≤ s) ∨ (0 ≤ s ∧ 0 ≤ t ∧ s < (A.ac.length : Int) ∧ (A.ac.length : Int) ≤ t) ∨ (0 ≤ s ∧ 0 ≤ t ∧ s < (A.ac.length : Int) ∧ t < (A.ac.length : Int)) := by omega
    rcases cases5 with c1 | ⟨c1, c2⟩ | ⟨c1, c2, c3⟩ | ⟨c1, c2, c3, c4⟩ | ⟨c1, c2, c3, c4⟩
    · have HE : Hid (dfE A s t = 11 ∧ dfO A s t = none) := dfE_range HC.out (fun z => by obtain ⟨⟨z1, z2⟩, z3, z4⟩ := z; omega)
      have d1 : decide (s < 0) = true := decide_eq_true (by omega)
      go_wp2_with fail
      go_ret3
      exact ⟨by rw [HE.out.1, HE.out.2]; rfl, HB1.out⟩
    · have HE : Hid (dfE A s t = 11 ∧ dfO A s t = none) := dfE_range HC.out (fun z => by obtain ⟨⟨z1, z2⟩, z3, z4⟩ := z; omega)
      have d1 : decide (s < 0) = false := decide_eq_false (by omega)
      have d2 : decide (t < 0) = true := decide_eq_true (by omega)
      go_wp2_with fail
      go_ret3
      exact ⟨by rw [HE.out.1, HE.out.2]; rfl, HB1.out⟩
    · have HE : Hid (dfE A s t = 11 ∧ dfO A s t = none) := dfE_range HC.out (fun z => by obtain ⟨⟨z1, z2⟩, z3, z4⟩ := z; omega)
      have d1 : decide (s < 0) = false := decide_eq_false (by omega)
      have d2 : decide (t < 0) = false := decide_eq_false (by omega)
      have d3 : decide ((A.ac.length : Int) ≤ s) = true := decide_eq_true (by omega)
      go_wp2_with fail
      go_ret3
      exact ⟨by rw [HE.out.1, HE.out.2]; rfl, HB1.out⟩
    · have HE : Hid (dfE A s t = 11 ∧ dfO A s t = none) := dfE_range HC.out (fun z => by obtain ⟨⟨z1, z2⟩, z3, z4⟩ := z; omega)
      have d1 : decide (s < 0) = false := decide_eq_false (by omega)
      have d2 : decide (t < 0) = false := decide_eq_false (by omega)
      have d3 : decide ((A.ac.length : Int) ≤ s) = false := decide_eq_false (by omega)
      have d4 : decide ((A.ac.length : Int) ≤ t) = true := decide_eq_true (by omega)
      go_wp2_with fail
      go_ret3
      exact ⟨by rw [HE.out.1, HE.out.2]; rfl, HB1.out⟩
    · obtain ⟨e1, e2⟩ := dfE_ok HC.out (s := s) (t := t) ⟨c1, c3⟩ ⟨c2, c4⟩
      have HE : Hid (dfE A s t = 0 ∧ dfO A s t = apO A s.toNat t.toNat) := ⟨e1, e2⟩
      have d1 : decide (s < 0) = false := decide_eq_false (by omega)
      have d2 : decide (t < 0) = false := decide_eq_false (by omega)
      have d3 : decide ((A.ac.length : Int) ≤ s) = false := decide_eq_false (by omega)
      have d4 : decide ((A.ac.length : Int) ≤ t) = false := decide_eq_false (by omega)
      clear e1 e2
      obtain ⟨x, rfl⟩ : ∃ x : Nat, s = x := ⟨s.toNat, by omega⟩
      obtain ⟨y, rfl⟩ : ∃ y : Nat, t = y := ⟨t.toNat, by omega⟩
      have hxl : x < A.ac.length := by omega
      have hyl : y < A.ac.length := by omega
      go_wp2_with fail
      refine (rapart_any _ _ A A w1 (HAR.out w1 HB1.out) (HAR.out w1 HB1.out) HG.out HG.out rfl x y hxl hyl).mono ?_
      rintro e w4 ⟨rfl, hb4⟩
      have HB4 : Hid (Below w.heap.size w w4) := go_on HB1.out hb4
      clear hb4
      go_wp2_with fail
      go_ret3
      exact ⟨by rw [HE.out.1, HE.out.2]; rfl, HB4.out⟩
  · rw [hc]
    have HE : Hid (dfE A s t = 80 ∧ dfO A s t = none) := dfE_bad s t hc
    clear hc G
    go_wp2_with fail
    go_ret3
    exact ⟨by rw [HE.out.1, HE.out.2]; rfl, HB1.out⟩
end Go.Proofs.Ythjenemmhlljfaa
