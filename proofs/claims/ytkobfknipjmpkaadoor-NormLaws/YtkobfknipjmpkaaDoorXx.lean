/- The law's laws, of one rule. -/
import Derived.Test.YtkobfknipjmpkaaDoorXw
namespace Go.Proofs.YtkobfknipjmpkaaDoor
open Go Go.RowKit
set_option linter.unusedVariables false
theorem same5 (v1 v2 : Value) (a : List Nd) (w : World) (h1 : NReads w v1 a) (h2 : NReads w v2 a) (hm : a.length ≤ 9223372036854775806) :
    Calls Tryd.prog 18 #[v1, v2] w fun e w' => e = .returned (.bool true) ∧ Below w.heap.size w w' := by
  have := same_any v1 v2 _ _ w h1 h2 hm
  rw [decide_eq_true rfl] at this
  exact this
theorem Jn.le {k : Int} {a c N : List Nd} (h : Jn k a c N) : N.length ≤ 9223372036854775806 := Nat.le_trans h.1 (by omega)

set_option maxHeartbeats 8000000 in
set_option maxRecDepth 100000 in
theorem laws5_any (a b c : List Nd) (va vb vc : Value) (w : World) (hva : NReads w va a) (hvb : NReads w vb b) (hvc : NReads w vc c) (ma : a.length ≤ 9223372036854775806) (mb : b.length ≤ 9223372036854775806) (mc : c.length ≤ 9223372036854775806) (hP : PTab w) :
    Calls Tryd.prog 30 #[.int .i64 5, va, vb, vc] w fun e w' => e = .returned (.bool true) ∧ Below w.heap.size w w' := by
  have HA : Hid (NReads w va a) := hva
  have HBB : Hid (NReads w vb b) := hvb
  have HCC : Hid (NReads w vc c) := hvc
  have HP : Hid (PTab w) := hP
  have MA : Hid (a.length ≤ 9223372036854775806) := ma
  have MB : Hid (b.length ≤ 9223372036854775806) := mb
  have MC : Hid (c.length ≤ 9223372036854775806) := mc
  clear hva hvb hvc ma mb mc hP
  go_enter Tryd.func30, Tryd.ntmps30
  go_wp2_with fail
  refine (join5_any a b va vb w HA.out HBB.out MA.out MB.out HP.out).mono ?_
  rintro e w1 ⟨u1, n1, m1, x1, rfl, hb1, h1⟩
  have HB1 : Hid (Below w.heap.size w w1) := hb1
  have H1 : Hid ((x1 ≠ 0 ∧ ∀ N, ¬ Jn 5 a b N) ∨ (x1 = 0 ∧ ∃ N, Jn 5 a b N ∧ NReads w1 (.slice u1 n1 m1) N)) := h1
  clear hb1 h1
  go_wp2_with fail
  refine (join5_any b c vb vc w1 (HBB.out.stay HB1.out) (HCC.out.stay HB1.out) MB.out MC.out (HP.out.stay HB1.out)).mono ?_
  rintro e w2 ⟨u2, n2, m2, x2, rfl, hb2, h2⟩
  have HB2 : Hid (Below w.heap.size w w2) := go_on HB1.out hb2
  have HS2 : Hid (Below w1.heap.size w1 w2) := hb2
  have H2 : Hid ((x2 ≠ 0 ∧ ∀ N, ¬ Jn 5 b c N) ∨ (x2 = 0 ∧ ∃ N, Jn 5 b c N ∧ NReads w2 (.slice u2 n2 m2) N)) := h2
  clear hb2 h2
  go_wp2_with fail
  refine (join5_any b a vb va w2 (HBB.out.stay HB2.out) (HA.out.stay HB2.out) MB.out MA.out (HP.out.stay HB2.out)).mono ?_
  rintro e w3 ⟨u3, n3, m3, x3, rfl, hb3, h3⟩
  have HB3 : Hid (Below w.heap.size w w3) := go_on HB2.out hb3
  have HS3 : Hid (Below w2.heap.size w2 w3) := hb3
  have H3 : Hid ((x3 ≠ 0 ∧ ∀ N, ¬ Jn 5 b a N) ∨ (x3 = 0 ∧ ∃ N, Jn 5 b a N ∧ NReads w3 (.slice u3 n3 m3) N)) := h3
  clear hb3 h3
  rcases H1.out with ⟨hx1, hno⟩ | ⟨rfl, N1, hj1, hr1⟩
  · have hxb : (x1 != 0) = true := by simpa using hx1
    have hxe : (x1 == 0) = false := by simpa using hx1
    clear hno H1 H2 H3 hx1
    go_wp2_with (first
        | (go_at_call 14; refine (num5_any _ _).mono ?_; rintro e wn ⟨rfl, rfl⟩)
        | fail)
    go_ret
    exact ⟨rfl, HB3.out⟩
  · have J1 : Hid (Jn 5 a b N1) := hj1
    have R3 : Hid (NReads w3 (.slice u1 n1 m1) N1) := (hr1.stay HS2.out).stay HS3.out
    clear hj1 hr1 H1
    rcases H3.out with ⟨_, hno⟩ | ⟨rfl, N3, hj3, hr3⟩
    · exact absurd (J1.out.comm (.inl rfl)) (hno N1)
    obtain rfl := hj3.one (J1.out.comm (.inl rfl))
    have Q3 : Hid (NReads w3 (.slice u3 n3 m3) N3) := hr3
    clear hj3 hr3 H3
    go_wp2_with (first
        | (go_at_call 14; refine (num5_any _ _).mono ?_; rintro e wn ⟨rfl, rfl⟩)
        | fail)
    refine (same5 _ _ N3 _ R3.out Q3.out J1.out.le).mono ?_
    rintro e w4 ⟨rfl, hb4⟩
    have HB4 : Hid (Below w.heap.size w w4) := go_on HB3.out hb4
    have R4 : Hid (NReads w4 (.slice u1 n1 m1) N3) := R3.out.stay hb4
    have HS4 : Hid (Below _ _ w4) := hb4
    clear hb4
    rcases H2.out with ⟨hx2, hno⟩ | ⟨rfl, N2, hj2, hr2⟩
    · have hxb : (x2 != 0) = true := by simpa using hx2
      clear hno H2 hx2
      go_wp2_with (first
        | (go_at_call 14; refine (num5_any _ _).mono ?_; rintro e wn ⟨rfl, rfl⟩)
        | fail)
      go_ret
      exact ⟨rfl, HB4.out⟩
    have J2 : Hid (Jn 5 b c N2) := hj2
    have S4 : Hid (NReads w4 (.slice u2 n2 m2) N2) := (hr2.stay HS3.out).stay HS4.out
    clear hj2 hr2 H2
    go_wp2_with (first
        | (go_at_call 14; refine (num5_any _ _).mono ?_; rintro e wn ⟨rfl, rfl⟩)
        | fail)
    refine (join5_any _ c _ vc _ R4.out (HCC.out.stay HB4.out) J1.out.le MC.out (HP.out.stay HB4.out)).mono ?_
    rintro e w5 ⟨u5, n5, m5, x5, rfl, hb5, h5⟩
    have HB5 : Hid (Below w.heap.size w w5) := go_on HB4.out hb5
    have S5 : Hid (NReads w5 (.slice u2 n2 m2) N2) := S4.out.stay hb5
    have H5 : Hid _ := h5
    clear hb5 h5
    go_wp2_with fail
    refine (join5_any a N2 va _ _ (HA.out.stay HB5.out) S5.out MA.out J2.out.le (HP.out.stay HB5.out)).mono ?_
    rintro e w6 ⟨u6, n6, m6, x6, rfl, hb6, h6⟩
    have HB6 : Hid (Below w.heap.size w w6) := go_on HB5.out hb6
    have HS6 : Hid (Below w5.heap.size w5 w6) := hb6
    have H6 : Hid _ := h6
    clear hb6 h6
    rcases H5.out with ⟨hx5, hno⟩ | ⟨rfl, N5, hj5, hr5⟩
    · have hxb : (x5 != 0) = true := by simpa using hx5
      clear hno H5 H6 hx5
      go_wp2_with (first
        | (go_at_call 14; refine (num5_any _ _).mono ?_; rintro e wn ⟨rfl, rfl⟩)
        | fail)
      go_ret
      exact ⟨rfl, HB6.out⟩
    rcases H6.out with ⟨hx6, hno⟩ | ⟨rfl, N6, hj6, hr6⟩
    · have hxb : (x6 != 0) = true := by simpa using hx6
      clear hno H5 H6 hx6 hj5 hr5
      go_wp2_with (first
        | (go_at_call 14; refine (num5_any _ _).mono ?_; rintro e wn ⟨rfl, rfl⟩)
        | fail)
      go_ret
      exact ⟨rfl, HB6.out⟩
    obtain rfl := Jn.assoc (.inl rfl) J1.out J2.out hj5 hj6
    have HC7 : Hid (Calls Tryd.prog 18 #[.slice u5 n5 m5, .slice u6 n6 m6] w6 fun e w' => e = .returned (.bool true) ∧ Below w6.heap.size w6 w') := same5 _ _ N5 w6 (hr5.stay HS6.out) hr6 hj5.le
    clear hj5 hr5 hj6 hr6 H5 H6
    go_wp2_with (first
        | (go_at_call 14; refine (num5_any _ _).mono ?_; rintro e wn ⟨rfl, rfl⟩)
        | fail)
    refine HC7.out.mono ?_
    rintro e w7 ⟨rfl, hb7⟩
    have HB7 : Hid (Below w.heap.size w w7) := go_on HB6.out hb7
    clear hb7
    go_wp2_with fail
    go_ret
    exact ⟨rfl, HB7.out⟩

set_option maxHeartbeats 8000000 in
set_option maxRecDepth 100000 in
theorem laws6_any (a b c : List Nd) (va vb vc : Value) (w : World) (hva : NReads w va a) (hvb : NReads w vb b) (hvc : NReads w vc c) (ma : a.length ≤ 9223372036854775806) (mb : b.length ≤ 9223372036854775806) (mc : c.length ≤ 9223372036854775806) (hP : PTab w) :
    Calls Tryd.prog 30 #[.int .i64 6, va, vb, vc] w fun e w' => e = .returned (.bool true) ∧ Below w.heap.size w w' := by
  have HA : Hid (NReads w va a) := hva
  have HBB : Hid (NReads w vb b) := hvb
  have HCC : Hid (NReads w vc c) := hvc
  have HP : Hid (PTab w) := hP
  have MA : Hid (a.length ≤ 9223372036854775806) := ma
  have MB : Hid (b.length ≤ 9223372036854775806) := mb
  have MC : Hid (c.length ≤ 9223372036854775806) := mc
  clear hva hvb hvc ma mb mc hP
  go_enter Tryd.func30, Tryd.ntmps30
  go_wp2_with fail
  refine (join6_any a b va vb w HA.out HBB.out MA.out MB.out HP.out).mono ?_
  rintro e w1 ⟨u1, n1, m1, x1, rfl, hb1, h1⟩
  have HB1 : Hid (Below w.heap.size w w1) := hb1
  have H1 : Hid ((x1 ≠ 0 ∧ ∀ N, ¬ Jn 6 a b N) ∨ (x1 = 0 ∧ ∃ N, Jn 6 a b N ∧ NReads w1 (.slice u1 n1 m1) N)) := h1
  clear hb1 h1
  go_wp2_with fail
  refine (join6_any b c vb vc w1 (HBB.out.stay HB1.out) (HCC.out.stay HB1.out) MB.out MC.out (HP.out.stay HB1.out)).mono ?_
  rintro e w2 ⟨u2, n2, m2, x2, rfl, hb2, h2⟩
  have HB2 : Hid (Below w.heap.size w w2) := go_on HB1.out hb2
  have HS2 : Hid (Below w1.heap.size w1 w2) := hb2
  have H2 : Hid ((x2 ≠ 0 ∧ ∀ N, ¬ Jn 6 b c N) ∨ (x2 = 0 ∧ ∃ N, Jn 6 b c N ∧ NReads w2 (.slice u2 n2 m2) N)) := h2
  clear hb2 h2
  go_wp2_with fail
  refine (join6_any b a vb va w2 (HBB.out.stay HB2.out) (HA.out.stay HB2.out) MB.out MA.out (HP.out.stay HB2.out)).mono ?_
  rintro e w3 ⟨u3, n3, m3, x3, rfl, hb3, h3⟩
  have HB3 : Hid (Below w.heap.size w w3) := go_on HB2.out hb3
  have HS3 : Hid (Below w2.heap.size w2 w3) := hb3
  have H3 : Hid ((x3 ≠ 0 ∧ ∀ N, ¬ Jn 6 b a N) ∨ (x3 = 0 ∧ ∃ N, Jn 6 b a N ∧ NReads w3 (.slice u3 n3 m3) N)) := h3
  clear hb3 h3
  rcases H1.out with ⟨hx1, hno⟩ | ⟨rfl, N1, hj1, hr1⟩
  · have hxb : (x1 != 0) = true := by simpa using hx1
    have hxe : (x1 == 0) = false := by simpa using hx1
    clear hno H1 H2 H3 hx1
    go_wp2_with (first
        | (go_at_call 14; refine (num5_any _ _).mono ?_; rintro e wn ⟨rfl, rfl⟩)
        | fail)
    go_ret
    exact ⟨rfl, HB3.out⟩
  · have J1 : Hid (Jn 6 a b N1) := hj1
    have R3 : Hid (NReads w3 (.slice u1 n1 m1) N1) := (hr1.stay HS2.out).stay HS3.out
    clear hj1 hr1 H1
    rcases H3.out with ⟨_, hno⟩ | ⟨rfl, N3, hj3, hr3⟩
    · exact absurd (J1.out.comm (.inr rfl)) (hno N1)
    obtain rfl := hj3.one (J1.out.comm (.inr rfl))
    have Q3 : Hid (NReads w3 (.slice u3 n3 m3) N3) := hr3
    clear hj3 hr3 H3
    go_wp2_with (first
        | (go_at_call 14; refine (num5_any _ _).mono ?_; rintro e wn ⟨rfl, rfl⟩)
        | fail)
    refine (same5 _ _ N3 _ R3.out Q3.out J1.out.le).mono ?_
    rintro e w4 ⟨rfl, hb4⟩
    have HB4 : Hid (Below w.heap.size w w4) := go_on HB3.out hb4
    have R4 : Hid (NReads w4 (.slice u1 n1 m1) N3) := R3.out.stay hb4
    have HS4 : Hid (Below _ _ w4) := hb4
    clear hb4
    rcases H2.out with ⟨hx2, hno⟩ | ⟨rfl, N2, hj2, hr2⟩
    · have hxb : (x2 != 0) = true := by simpa using hx2
      clear hno H2 hx2
      go_wp2_with (first
        | (go_at_call 14; refine (num5_any _ _).mono ?_; rintro e wn ⟨rfl, rfl⟩)
        | fail)
      go_ret
      exact ⟨rfl, HB4.out⟩
    have J2 : Hid (Jn 6 b c N2) := hj2
    have S4 : Hid (NReads w4 (.slice u2 n2 m2) N2) := (hr2.stay HS3.out).stay HS4.out
    clear hj2 hr2 H2
    go_wp2_with (first
        | (go_at_call 14; refine (num5_any _ _).mono ?_; rintro e wn ⟨rfl, rfl⟩)
        | fail)
    refine (join6_any _ c _ vc _ R4.out (HCC.out.stay HB4.out) J1.out.le MC.out (HP.out.stay HB4.out)).mono ?_
    rintro e w5 ⟨u5, n5, m5, x5, rfl, hb5, h5⟩
    have HB5 : Hid (Below w.heap.size w w5) := go_on HB4.out hb5
    have S5 : Hid (NReads w5 (.slice u2 n2 m2) N2) := S4.out.stay hb5
    have H5 : Hid _ := h5
    clear hb5 h5
    go_wp2_with fail
    refine (join6_any a N2 va _ _ (HA.out.stay HB5.out) S5.out MA.out J2.out.le (HP.out.stay HB5.out)).mono ?_
    rintro e w6 ⟨u6, n6, m6, x6, rfl, hb6, h6⟩
    have HB6 : Hid (Below w.heap.size w w6) := go_on HB5.out hb6
    have HS6 : Hid (Below w5.heap.size w5 w6) := hb6
    have H6 : Hid _ := h6
    clear hb6 h6
    rcases H5.out with ⟨hx5, hno⟩ | ⟨rfl, N5, hj5, hr5⟩
    · have hxb : (x5 != 0) = true := by simpa using hx5
      clear hno H5 H6 hx5
      go_wp2_with (first
        | (go_at_call 14; refine (num5_any _ _).mono ?_; rintro e wn ⟨rfl, rfl⟩)
        | fail)
      go_ret
      exact ⟨rfl, HB6.out⟩
    rcases H6.out with ⟨hx6, hno⟩ | ⟨rfl, N6, hj6, hr6⟩
    · have hxb : (x6 != 0) = true := by simpa using hx6
      clear hno H5 H6 hx6 hj5 hr5
      go_wp2_with (first
        | (go_at_call 14; refine (num5_any _ _).mono ?_; rintro e wn ⟨rfl, rfl⟩)
        | fail)
      go_ret
      exact ⟨rfl, HB6.out⟩
    obtain rfl := Jn.assoc (.inr (.inl rfl)) J1.out J2.out hj5 hj6
    have HC7 : Hid (Calls Tryd.prog 18 #[.slice u5 n5 m5, .slice u6 n6 m6] w6 fun e w' => e = .returned (.bool true) ∧ Below w6.heap.size w6 w') := same5 _ _ N5 w6 (hr5.stay HS6.out) hr6 hj5.le
    clear hj5 hr5 hj6 hr6 H5 H6
    go_wp2_with (first
        | (go_at_call 14; refine (num5_any _ _).mono ?_; rintro e wn ⟨rfl, rfl⟩)
        | fail)
    refine HC7.out.mono ?_
    rintro e w7 ⟨rfl, hb7⟩
    have HB7 : Hid (Below w.heap.size w w7) := go_on HB6.out hb7
    clear hb7
    go_wp2_with fail
    go_ret
    exact ⟨rfl, HB7.out⟩

set_option maxHeartbeats 8000000 in
set_option maxRecDepth 100000 in
theorem laws7_any (a b c : List Nd) (va vb vc : Value) (w : World) (hva : NReads w va a) (hvb : NReads w vb b) (hvc : NReads w vc c) (ma : a.length ≤ 9223372036854775806) (mb : b.length ≤ 9223372036854775806) (mc : c.length ≤ 9223372036854775806) (hP : PTab w) :
    Calls Tryd.prog 30 #[.int .i64 7, va, vb, vc] w fun e w' => e = .returned (.bool true) ∧ Below w.heap.size w w' := by
  have HA : Hid (NReads w va a) := hva
  have HBB : Hid (NReads w vb b) := hvb
  have HCC : Hid (NReads w vc c) := hvc
  have HP : Hid (PTab w) := hP
  have MA : Hid (a.length ≤ 9223372036854775806) := ma
  have MB : Hid (b.length ≤ 9223372036854775806) := mb
  have MC : Hid (c.length ≤ 9223372036854775806) := mc
  clear hva hvb hvc ma mb mc hP
  go_enter Tryd.func30, Tryd.ntmps30
  go_wp2_with fail
  refine (join7_any a b va vb w HA.out HBB.out MA.out MB.out HP.out).mono ?_
  rintro e w1 ⟨u1, n1, m1, x1, rfl, hb1, h1⟩
  have HB1 : Hid (Below w.heap.size w w1) := hb1
  have H1 : Hid ((x1 ≠ 0 ∧ ∀ N, ¬ Jn 7 a b N) ∨ (x1 = 0 ∧ ∃ N, Jn 7 a b N ∧ NReads w1 (.slice u1 n1 m1) N)) := h1
  clear hb1 h1
  go_wp2_with fail
  refine (join7_any b c vb vc w1 (HBB.out.stay HB1.out) (HCC.out.stay HB1.out) MB.out MC.out (HP.out.stay HB1.out)).mono ?_
  rintro e w2 ⟨u2, n2, m2, x2, rfl, hb2, h2⟩
  have HB2 : Hid (Below w.heap.size w w2) := go_on HB1.out hb2
  have HS2 : Hid (Below w1.heap.size w1 w2) := hb2
  have H2 : Hid ((x2 ≠ 0 ∧ ∀ N, ¬ Jn 7 b c N) ∨ (x2 = 0 ∧ ∃ N, Jn 7 b c N ∧ NReads w2 (.slice u2 n2 m2) N)) := h2
  clear hb2 h2
  go_wp2_with fail
  refine (join7_any b a vb va w2 (HBB.out.stay HB2.out) (HA.out.stay HB2.out) MB.out MA.out (HP.out.stay HB2.out)).mono ?_
  rintro e w3 ⟨u3, n3, m3, x3, rfl, hb3, h3⟩
  have HB3 : Hid (Below w.heap.size w w3) := go_on HB2.out hb3
  have HS3 : Hid (Below w2.heap.size w2 w3) := hb3
  have H3 : Hid ((x3 ≠ 0 ∧ ∀ N, ¬ Jn 7 b a N) ∨ (x3 = 0 ∧ ∃ N, Jn 7 b a N ∧ NReads w3 (.slice u3 n3 m3) N)) := h3
  clear hb3 h3
  rcases H1.out with ⟨hx1, hno⟩ | ⟨rfl, N1, hj1, hr1⟩
  · have hxb : (x1 != 0) = true := by simpa using hx1
    have hxe : (x1 == 0) = false := by simpa using hx1
    clear hno H1 H2 H3 hx1
    go_wp2_with (first
        | (go_at_call 14; refine (num5_any _ _).mono ?_; rintro e wn ⟨rfl, rfl⟩)
        | fail)
    go_ret
    exact ⟨rfl, HB3.out⟩
  · have J1 : Hid (Jn 7 a b N1) := hj1
    have R3 : Hid (NReads w3 (.slice u1 n1 m1) N1) := (hr1.stay HS2.out).stay HS3.out
    clear hj1 hr1 H1
    obtain ⟨N3, hN3⟩ : ∃ N, N1 = N := ⟨_, rfl⟩
    subst hN3
    have HB4 := HB3
    have R4 := R3
    rcases H2.out with ⟨hx2, hno⟩ | ⟨rfl, N2, hj2, hr2⟩
    · have hxb : (x2 != 0) = true := by simpa using hx2
      clear hno H2 hx2
      go_wp2_with (first
        | (go_at_call 14; refine (num5_any _ _).mono ?_; rintro e wn ⟨rfl, rfl⟩)
        | fail)
      go_ret
      exact ⟨rfl, HB4.out⟩
    have J2 : Hid (Jn 7 b c N2) := hj2
    have S4 : Hid (NReads _ (.slice u2 n2 m2) N2) := hr2.stay HS3.out
    clear hj2 hr2 H2
    go_wp2_with (first
        | (go_at_call 14; refine (num5_any _ _).mono ?_; rintro e wn ⟨rfl, rfl⟩)
        | fail)
    refine (join7_any _ c _ vc _ R4.out (HCC.out.stay HB4.out) J1.out.le MC.out (HP.out.stay HB4.out)).mono ?_
    rintro e w5 ⟨u5, n5, m5, x5, rfl, hb5, h5⟩
    have HB5 : Hid (Below w.heap.size w w5) := go_on HB4.out hb5
    have S5 : Hid (NReads w5 (.slice u2 n2 m2) N2) := S4.out.stay hb5
    have H5 : Hid _ := h5
    clear hb5 h5
    go_wp2_with fail
    refine (join7_any a N2 va _ _ (HA.out.stay HB5.out) S5.out MA.out J2.out.le (HP.out.stay HB5.out)).mono ?_
    rintro e w6 ⟨u6, n6, m6, x6, rfl, hb6, h6⟩
    have HB6 : Hid (Below w.heap.size w w6) := go_on HB5.out hb6
    have HS6 : Hid (Below w5.heap.size w5 w6) := hb6
    have H6 : Hid _ := h6
    clear hb6 h6
    rcases H5.out with ⟨hx5, hno⟩ | ⟨rfl, N5, hj5, hr5⟩
    · have hxb : (x5 != 0) = true := by simpa using hx5
      clear hno H5 H6 hx5
      go_wp2_with (first
        | (go_at_call 14; refine (num5_any _ _).mono ?_; rintro e wn ⟨rfl, rfl⟩)
        | fail)
      go_ret
      exact ⟨rfl, HB6.out⟩
    rcases H6.out with ⟨hx6, hno⟩ | ⟨rfl, N6, hj6, hr6⟩
    · have hxb : (x6 != 0) = true := by simpa using hx6
      clear hno H5 H6 hx6 hj5 hr5
      go_wp2_with (first
        | (go_at_call 14; refine (num5_any _ _).mono ?_; rintro e wn ⟨rfl, rfl⟩)
        | fail)
      go_ret
      exact ⟨rfl, HB6.out⟩
    obtain rfl := Jn.assoc (.inr (.inr rfl)) J1.out J2.out hj5 hj6
    have HC7 : Hid (Calls Tryd.prog 18 #[.slice u5 n5 m5, .slice u6 n6 m6] w6 fun e w' => e = .returned (.bool true) ∧ Below w6.heap.size w6 w') := same5 _ _ N5 w6 (hr5.stay HS6.out) hr6 hj5.le
    clear hj5 hr5 hj6 hr6 H5 H6
    go_wp2_with (first
        | (go_at_call 14; refine (num5_any _ _).mono ?_; rintro e wn ⟨rfl, rfl⟩)
        | fail)
    refine HC7.out.mono ?_
    rintro e w7 ⟨rfl, hb7⟩
    have HB7 : Hid (Below w.heap.size w w7) := go_on HB6.out hb7
    clear hb7
    go_wp2_with fail
    go_ret
    exact ⟨rfl, HB7.out⟩
end Go.Proofs.YtkobfknipjmpkaaDoor
