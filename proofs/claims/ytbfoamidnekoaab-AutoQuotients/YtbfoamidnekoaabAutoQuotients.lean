/- Proved: eggboxlaw08.AutoQuotients answers true at all automata's data a and words u, v (P8.11, P8.13): auto.Ahead and Behind answer what the document's do; what is left behind two words is what is left behind one and then the other; its arguments read behind the call as before. -/
import Derived.Test.YtbfoamidnekoaabJu
import Derived.Test.YtbfoamidnekoaabQy
import Derived.Test.YtbfoamidnekoaabRa
import Derived.Test.YtbfoamidnekoaabRb
import Derived.Deep.RegionHeld3
import Derived.SizedLaws
namespace Go.Proofs.Ytbfoamidnekoaab.autoQuotients
open Go Go.ChangeShapes Go.WideShapes Go.ChangeAt Go.RowKit Go.Lib
open Go.ChangeMaps (open_string shut_string)
set_option linter.unusedVariables false

theorem good_len {A : Aut} (G : Good A) : A.nx.length ≤ 9223372036854775806 ∧ A.ac.length ≤ 9223372036854775806 := by
  have h1 := G.len
  have h2 := G.n2
  have h3 : (A.ac.length : Int) * A.k ≤ 4096 * 8 := Int.mul_le_mul (by omega) G.k8 (by have := G.k1; omega) (by omega)
  omega
theorem small_rch {A : Aut} (G : Good A) {s : Nat} (hs : s < A.ac.length) (f : Nat → Bool) : (rch A s f).nx.length ≤ 9223372036854775806 ∧ (rch A s f).ac.length ≤ 9223372036854775806 := by
  obtain ⟨M, N, h, _, e⟩ := rch_oA G hs f
  rw [e]
  exact good_len (ord_good ⟨G.kn.1, G.kn.2.1⟩ h (by simp))
theorem small (A : Aut) (u : ByteArray) : ((ahA A u).nx.length ≤ 9223372036854775806 ∧ (ahA A u).ac.length ≤ 9223372036854775806) ∧ (bhA A u).nx.length ≤ 9223372036854775806 ∧ (bhA A u).ac.length ≤ 9223372036854775806 := by
  unfold ahA bhA
  by_cases h : cwE A u = 0
  · rw [if_pos h, if_pos h]
    obtain ⟨G, L⟩ := cwE_good h
    exact ⟨small_rch G (goN_lt G (by have := G.n1; omega) _ L.lt_all) _, small_rch G (by have := G.n1; omega) _⟩
  · rw [if_neg h, if_neg h]
    simp [zAut]
/-- What the walk wants of the automata: P what is ahead of u, R what is behind v, X and Y of both. -/
theorem facts {A : Aut} (hm : A.nx.length ≤ 9223372036854775806) (hm2 : A.ac.length ≤ 9223372036854775806) {u v : ByteArray} (hu : u.size ≤ 140737488355327) (hv : v.size ≤ 140737488355327) : ∃ P R X Y : Aut, ∃ E F : Int, (P.nx.length ≤ 9223372036854775806 ∧ P.ac.length ≤ 9223372036854775806) ∧ (R.nx.length ≤ 9223372036854775806 ∧ R.ac.length ≤ 9223372036854775806) ∧ (X.nx.length ≤ 9223372036854775806 ∧ X.ac.length ≤ 9223372036854775806) ∧ (Y.nx.length ≤ 9223372036854775806 ∧ Y.ac.length ≤ 9223372036854775806) ∧
    (∀ y x, AR y x A → Calls Try.prog 5 #[x, .string u] y (FQ P E y)) ∧
    (∀ y x, AR y x A → Calls Try.prog 7 #[x, .string u] y (FQ P E y)) ∧
    (∀ y x, AR y x A → Calls Try.prog 8 #[x, .string v] y (FQ R F y)) ∧
    (∀ y x, AR y x A → Calls Try.prog 9 #[x, .string v] y (FQ R F y)) ∧
    (E = 0 → F = 0 → ∀ y x, AR y x A → Calls Try.prog 5 #[x, .string (u ++ v)] y (FQ X 0 y)) ∧
    (E = 0 → F = 0 → ∀ y x, AR y x P → Calls Try.prog 5 #[x, .string v] y (FQ X 0 y)) ∧
    (E = 0 → F = 0 → ∀ y x, AR y x A → Calls Try.prog 8 #[x, .string (u ++ v)] y (FQ Y 0 y)) ∧
    (E = 0 → F = 0 → ∀ y x, AR y x R → Calls Try.prog 8 #[x, .string u] y (FQ Y 0 y)) := by
  have hML : (140737488355327 : Nat) ≤ maxLen := by decide
  have huv : (u ++ v).size ≤ 9223372036854775807 := by rw [ByteArray.size_append]; omega
  refine ⟨ahA A u, bhA A v, ahA A (u ++ v), bhA A (u ++ v), cwE A u, cwE A v, (small A u).1, (small A v).2, (small A _).1, (small A _).2, fun y x h => ?_, fun y x h => ?_, fun y x h => ?_, fun y x h => ?_, fun e f y x h => ?_, fun e f y x h => ?_, fun e f y x h => ?_, fun e f y x h => ?_⟩
  · exact ahead_any x A y h hm hm2 u (by omega)
  · exact rahead_any x A y h hm hm2 u (by omega)
  · exact behind_any x A y h hm hm2 v (by omega)
  · exact rbehind_any x A y h hm hm2 v (by omega)
  · obtain ⟨q1, q2, q3, q4, q5, q6, q7⟩ := quot (cwE_good e).1 e f
    have := ahead_any x A y h hm hm2 (u ++ v) huv
    rwa [q3] at this
  · obtain ⟨q1, q2, q3, q4, q5, q6, q7⟩ := quot (cwE_good e).1 e f
    have := ahead_any x _ y h (good_len q1).1 (good_len q1).2 v (by omega)
    rwa [q4, q6] at this
  · obtain ⟨q1, q2, q3, q4, q5, q6, q7⟩ := quot (cwE_good e).1 e f
    have := behind_any x A y h hm hm2 (u ++ v) huv
    rwa [q3] at this
  · obtain ⟨q1, q2, q3, q4, q5, q6, q7⟩ := quot (cwE_good e).1 e f
    have := behind_any x _ y h (good_len q2).1 (good_len q2).2 u (by omega)
    rwa [q5, q7] at this

set_option maxHeartbeats 16000000 in
set_option maxRecDepth 100000 in
theorem walk (va : Value) (A : Aut) (u v : ByteArray) (w : World) (ha : AR w va A) (hna : NilOk va) (hma : (A.nx.length + 2) * 8 ≤ 140737488355328) (hma2 : A.ac.length ≤ 140737488355328) (hu : u.size ≤ 140737488355327) (hv : v.size ≤ 140737488355327) :
    Calls Try.prog 3 #[va, .string u, .string v] w fun e w' => e = .returned (.bool true) ∧ Below w.heap.size w w' := by
  obtain ⟨an, cn, aa, ca, ea, _, _⟩ := ha.is
  have HLA : Hid (∀ y, Below w.heap.size w y → Calls Try.prog 6 #[va] y fun e w' => ∃ x, e = .returned x ∧ AR w' x A ∧ Below y.heap.size y w') := fun y hy => (lentAuto_any va A y (ha.stay hy) hna hma hma2).mono fun e w' h => by
    obtain ⟨g, gc, xa, xc, rfl, h1, h2, h3⟩ := h
    exact ⟨_, rfl, ⟨_, _, _, _, rfl, lent_sr h1, own_sr h2⟩, h3⟩
  obtain ⟨P, R, X, Y, E, F, lP, lR, lX, lY, q1, q2, q3, q4, q5, q6, q7, q8⟩ := facts (A := A) (u := u) (v := v) (by omega) (by omega) hu hv
  have HLP : Hid (P.nx.length ≤ 9223372036854775806 ∧ P.ac.length ≤ 9223372036854775806) := lP
  have HLR : Hid (R.nx.length ≤ 9223372036854775806 ∧ R.ac.length ≤ 9223372036854775806) := lR
  have HLX : Hid (X.nx.length ≤ 9223372036854775806 ∧ X.ac.length ≤ 9223372036854775806) := lX
  have HLY : Hid (Y.nx.length ≤ 9223372036854775806 ∧ Y.ac.length ≤ 9223372036854775806) := lY
  have C1 : Hid (∀ y x, AR y x A → Calls Try.prog 5 #[x, .string u] y (FQ P E y)) := q1
  have C2 : Hid (∀ y x, AR y x A → Calls Try.prog 7 #[x, .string u] y (FQ P E y)) := q2
  have C3 : Hid (∀ y x, AR y x A → Calls Try.prog 8 #[x, .string v] y (FQ R F y)) := q3
  have C4 : Hid (∀ y x, AR y x A → Calls Try.prog 9 #[x, .string v] y (FQ R F y)) := q4
  have C5 : Hid (E = 0 → F = 0 → ∀ y x, AR y x A → Calls Try.prog 5 #[x, .string (u ++ v)] y (FQ X 0 y)) := q5
  have C6 : Hid (E = 0 → F = 0 → ∀ y x, AR y x P → Calls Try.prog 5 #[x, .string v] y (FQ X 0 y)) := q6
  have C7 : Hid (E = 0 → F = 0 → ∀ y x, AR y x A → Calls Try.prog 8 #[x, .string (u ++ v)] y (FQ Y 0 y)) := q7
  have C8 : Hid (E = 0 → F = 0 → ∀ y x, AR y x R → Calls Try.prog 8 #[x, .string u] y (FQ Y 0 y)) := q8
  clear hna hma hma2 lP lR lX lY q1 q2 q3 q4 q5 q6 q7 q8
  subst ea
  obtain ⟨V, hV⟩ : ∃ V, V = w.alloc (.cells #[.int .i64 A.k, .slice an A.nx.length cn, .slice aa A.ac.length ca] 25) := ⟨_, rfl⟩
  have HVE : Hid (V = w.alloc (.cells #[.int .i64 A.k, .slice an A.nx.length cn, .slice aa A.ac.length ca] 25)) := hV
  have HB : Hid (Below w.heap.size w V) := by show Below _ _ _; rw [hV]; exact below_new _ _
  have HR_a : Hid (RowAt V w.heap.size #[.int .i64 A.k, .slice an A.nx.length cn, .slice aa A.ac.length ca]) := by show RowAt _ _ _; rw [hV]; exact RowAt.last _ _ _
  have HA_a : Hid (AR V (.agg #[.int .i64 A.k, .slice an A.nx.length cn, .slice aa A.ac.length ca]) A) := ha.stay HB.out
  clear hV ha
  go_enter Try.func3, Try.ntmps3
  go_wp2_with fail
  rw [← HVE.out]
  refine (HLA.out _ HB.out).mono ?_
  rintro e t100 ⟨x100, rfl, hax100, hbt100⟩
  have hs100 : Below V.heap.size V t100 := hbt100
  have HBn : Hid (Below w.heap.size w t100) := go_on HB.out hs100; clear HB; have HB : Hid (Below w.heap.size w t100) := HBn.out; clear HBn
  have HRn : Hid (RowAt t100 w.heap.size #[.int .i64 A.k, .slice an A.nx.length cn, .slice aa A.ac.length ca]) := HR_a.out.stay hs100; clear HR_a; have HR_a : Hid (RowAt t100 w.heap.size #[.int .i64 A.k, .slice an A.nx.length cn, .slice aa A.ac.length ca]) := HRn.out; clear HRn
  have HAn : Hid (AR t100 (.agg #[.int .i64 A.k, .slice an A.nx.length cn, .slice aa A.ac.length ca]) A) := HA_a.out.stay hs100; clear HA_a; have HA_a : Hid (AR t100 (.agg #[.int .i64 A.k, .slice an A.nx.length cn, .slice aa A.ac.length ca]) A) := HAn.out; clear HAn
  have HX100 : Hid (AR t100 x100 A) := hax100
  clear hs100 hbt100 hax100
  go_wp2_with fail
  refine (C1.out _ _ HX100.out).mono ?_
  rintro e u1 ⟨v1, rfl, ha1, hb1⟩
  have hs1 : Below t100.heap.size t100 u1 := hb1
  have HBn : Hid (Below w.heap.size w u1) := go_on HB.out hs1
  clear HB; have HB : Hid (Below w.heap.size w u1) := HBn.out; clear HBn
  have HRn : Hid (RowAt u1 w.heap.size #[.int .i64 A.k, .slice an A.nx.length cn, .slice aa A.ac.length ca]) := HR_a.out.stay hs1; clear HR_a; have HR_a : Hid (RowAt u1 w.heap.size #[.int .i64 A.k, .slice an A.nx.length cn, .slice aa A.ac.length ca]) := HRn.out; clear HRn
  have HAn : Hid (AR u1 (.agg #[.int .i64 A.k, .slice an A.nx.length cn, .slice aa A.ac.length ca]) A) := HA_a.out.stay hs1; clear HA_a; have HA_a : Hid (AR u1 (.agg #[.int .i64 A.k, .slice an A.nx.length cn, .slice aa A.ac.length ca]) A) := HAn.out; clear HAn
  have hr1 := ha1.ar
  obtain ⟨n1, c1, a1, d1, rfl, _, _⟩ := ha1
  have HA_p : Hid (AR u1 (.agg #[.int .i64 P.k, .slice n1 P.nx.length c1, .slice a1 P.ac.length d1]) P) := hr1
  clear hb1 hs1 hr1
  have cc0 : ∀ O o, (u1.alloc O).cell? ⟨w.heap.size, o, none⟩ = (#[.int .i64 A.k, .slice an A.nx.length cn, .slice aa A.ac.length ca] : Array Value)[o]? := fun O => (HR_a.out.alloc O).cell
  go_wp2_with fail
  refine (C2.out _ _ (HA_a.out.stay (below_new _ _))).mono ?_
  rintro e u2 ⟨v2, rfl, ha2, hb2⟩
  have hs2 : Below u1.heap.size u1 u2 := go_on (below_new _ _) hb2
  have HBn : Hid (Below w.heap.size w u2) := go_on HB.out hs2
  clear HB; have HB : Hid (Below w.heap.size w u2) := HBn.out; clear HBn
  have HRn : Hid (RowAt u2 w.heap.size #[.int .i64 A.k, .slice an A.nx.length cn, .slice aa A.ac.length ca]) := HR_a.out.stay hs2; clear HR_a; have HR_a : Hid (RowAt u2 w.heap.size #[.int .i64 A.k, .slice an A.nx.length cn, .slice aa A.ac.length ca]) := HRn.out; clear HRn
  have HR_p : Hid (RowAt u2 u1.heap.size #[.int .i64 P.k, .slice n1 P.nx.length c1, .slice a1 P.ac.length d1]) := (RowAt.last _ _ _).stay hb2
  have HAn : Hid (AR u2 (.agg #[.int .i64 A.k, .slice an A.nx.length cn, .slice aa A.ac.length ca]) A) := HA_a.out.stay hs2; clear HA_a; have HA_a : Hid (AR u2 (.agg #[.int .i64 A.k, .slice an A.nx.length cn, .slice aa A.ac.length ca]) A) := HAn.out; clear HAn
  have HAn : Hid (AR u2 (.agg #[.int .i64 P.k, .slice n1 P.nx.length c1, .slice a1 P.ac.length d1]) P) := HA_p.out.stay hs2; clear HA_p; have HA_p : Hid (AR u2 (.agg #[.int .i64 P.k, .slice n1 P.nx.length c1, .slice a1 P.ac.length d1]) P) := HAn.out; clear HAn
  have hr2 := ha2.ar
  obtain ⟨n2, c2, a2, d2, rfl, _, _⟩ := ha2
  have HA_q : Hid (AR u2 (.agg #[.int .i64 P.k, .slice n2 P.nx.length c2, .slice a2 P.ac.length d2]) P) := hr2
  clear hb2 hs2 hr2
  clear cc0
  have cc0 : ∀ O o, (u2.alloc O).cell? ⟨w.heap.size, o, none⟩ = (#[.int .i64 A.k, .slice an A.nx.length cn, .slice aa A.ac.length ca] : Array Value)[o]? := fun O => (HR_a.out.alloc O).cell
  go_wp2_with fail
  refine (HLA.out _ (go_on HB.out (below_new _ _))).mono ?_
  rintro e t102 ⟨x102, rfl, hax102, hbt102⟩
  have hs102 : Below u2.heap.size u2 t102 := go_on (below_new _ _) hbt102
  have HBn : Hid (Below w.heap.size w t102) := go_on HB.out hs102; clear HB; have HB : Hid (Below w.heap.size w t102) := HBn.out; clear HBn
  have HRn : Hid (RowAt t102 w.heap.size #[.int .i64 A.k, .slice an A.nx.length cn, .slice aa A.ac.length ca]) := HR_a.out.stay hs102; clear HR_a; have HR_a : Hid (RowAt t102 w.heap.size #[.int .i64 A.k, .slice an A.nx.length cn, .slice aa A.ac.length ca]) := HRn.out; clear HRn
  have HRn : Hid (RowAt t102 u1.heap.size #[.int .i64 P.k, .slice n1 P.nx.length c1, .slice a1 P.ac.length d1]) := HR_p.out.stay hs102; clear HR_p; have HR_p : Hid (RowAt t102 u1.heap.size #[.int .i64 P.k, .slice n1 P.nx.length c1, .slice a1 P.ac.length d1]) := HRn.out; clear HRn
  have HR_q : Hid (RowAt t102 u2.heap.size #[.int .i64 P.k, .slice n2 P.nx.length c2, .slice a2 P.ac.length d2]) := (RowAt.last _ _ _).stay hbt102
  have HAn : Hid (AR t102 (.agg #[.int .i64 A.k, .slice an A.nx.length cn, .slice aa A.ac.length ca]) A) := HA_a.out.stay hs102; clear HA_a; have HA_a : Hid (AR t102 (.agg #[.int .i64 A.k, .slice an A.nx.length cn, .slice aa A.ac.length ca]) A) := HAn.out; clear HAn
  have HAn : Hid (AR t102 (.agg #[.int .i64 P.k, .slice n1 P.nx.length c1, .slice a1 P.ac.length d1]) P) := HA_p.out.stay hs102; clear HA_p; have HA_p : Hid (AR t102 (.agg #[.int .i64 P.k, .slice n1 P.nx.length c1, .slice a1 P.ac.length d1]) P) := HAn.out; clear HAn
  have HAn : Hid (AR t102 (.agg #[.int .i64 P.k, .slice n2 P.nx.length c2, .slice a2 P.ac.length d2]) P) := HA_q.out.stay hs102; clear HA_q; have HA_q : Hid (AR t102 (.agg #[.int .i64 P.k, .slice n2 P.nx.length c2, .slice a2 P.ac.length d2]) P) := HAn.out; clear HAn
  have HX102 : Hid (AR t102 x102 A) := hax102
  clear hs102 hbt102 hax102
  clear cc0
  go_wp2_with fail
  refine (C3.out _ _ HX102.out).mono ?_
  rintro e u3 ⟨v3, rfl, ha3, hb3⟩
  have hs3 : Below t102.heap.size t102 u3 := hb3
  have HBn : Hid (Below w.heap.size w u3) := go_on HB.out hs3
  clear HB; have HB : Hid (Below w.heap.size w u3) := HBn.out; clear HBn
  have HRn : Hid (RowAt u3 w.heap.size #[.int .i64 A.k, .slice an A.nx.length cn, .slice aa A.ac.length ca]) := HR_a.out.stay hs3; clear HR_a; have HR_a : Hid (RowAt u3 w.heap.size #[.int .i64 A.k, .slice an A.nx.length cn, .slice aa A.ac.length ca]) := HRn.out; clear HRn
  have HRn : Hid (RowAt u3 u1.heap.size #[.int .i64 P.k, .slice n1 P.nx.length c1, .slice a1 P.ac.length d1]) := HR_p.out.stay hs3; clear HR_p; have HR_p : Hid (RowAt u3 u1.heap.size #[.int .i64 P.k, .slice n1 P.nx.length c1, .slice a1 P.ac.length d1]) := HRn.out; clear HRn
  have HRn : Hid (RowAt u3 u2.heap.size #[.int .i64 P.k, .slice n2 P.nx.length c2, .slice a2 P.ac.length d2]) := HR_q.out.stay hs3; clear HR_q; have HR_q : Hid (RowAt u3 u2.heap.size #[.int .i64 P.k, .slice n2 P.nx.length c2, .slice a2 P.ac.length d2]) := HRn.out; clear HRn
  have HAn : Hid (AR u3 (.agg #[.int .i64 A.k, .slice an A.nx.length cn, .slice aa A.ac.length ca]) A) := HA_a.out.stay hs3; clear HA_a; have HA_a : Hid (AR u3 (.agg #[.int .i64 A.k, .slice an A.nx.length cn, .slice aa A.ac.length ca]) A) := HAn.out; clear HAn
  have HAn : Hid (AR u3 (.agg #[.int .i64 P.k, .slice n1 P.nx.length c1, .slice a1 P.ac.length d1]) P) := HA_p.out.stay hs3; clear HA_p; have HA_p : Hid (AR u3 (.agg #[.int .i64 P.k, .slice n1 P.nx.length c1, .slice a1 P.ac.length d1]) P) := HAn.out; clear HAn
  have HAn : Hid (AR u3 (.agg #[.int .i64 P.k, .slice n2 P.nx.length c2, .slice a2 P.ac.length d2]) P) := HA_q.out.stay hs3; clear HA_q; have HA_q : Hid (AR u3 (.agg #[.int .i64 P.k, .slice n2 P.nx.length c2, .slice a2 P.ac.length d2]) P) := HAn.out; clear HAn
  have hr3 := ha3.ar
  obtain ⟨n3, c3, a3, d3, rfl, _, _⟩ := ha3
  have HA_r : Hid (AR u3 (.agg #[.int .i64 R.k, .slice n3 R.nx.length c3, .slice a3 R.ac.length d3]) R) := hr3
  clear hb3 hs3 hr3
  have cc0 : ∀ O o, (u3.alloc O).cell? ⟨w.heap.size, o, none⟩ = (#[.int .i64 A.k, .slice an A.nx.length cn, .slice aa A.ac.length ca] : Array Value)[o]? := fun O => (HR_a.out.alloc O).cell
  go_wp2_with fail
  refine (C4.out _ _ (HA_a.out.stay (below_new _ _))).mono ?_
  rintro e u4 ⟨v4, rfl, ha4, hb4⟩
  have hs4 : Below u3.heap.size u3 u4 := go_on (below_new _ _) hb4
  have HBn : Hid (Below w.heap.size w u4) := go_on HB.out hs4
  clear HB; have HB : Hid (Below w.heap.size w u4) := HBn.out; clear HBn
  have HRn : Hid (RowAt u4 w.heap.size #[.int .i64 A.k, .slice an A.nx.length cn, .slice aa A.ac.length ca]) := HR_a.out.stay hs4; clear HR_a; have HR_a : Hid (RowAt u4 w.heap.size #[.int .i64 A.k, .slice an A.nx.length cn, .slice aa A.ac.length ca]) := HRn.out; clear HRn
  have HRn : Hid (RowAt u4 u1.heap.size #[.int .i64 P.k, .slice n1 P.nx.length c1, .slice a1 P.ac.length d1]) := HR_p.out.stay hs4; clear HR_p; have HR_p : Hid (RowAt u4 u1.heap.size #[.int .i64 P.k, .slice n1 P.nx.length c1, .slice a1 P.ac.length d1]) := HRn.out; clear HRn
  have HRn : Hid (RowAt u4 u2.heap.size #[.int .i64 P.k, .slice n2 P.nx.length c2, .slice a2 P.ac.length d2]) := HR_q.out.stay hs4; clear HR_q; have HR_q : Hid (RowAt u4 u2.heap.size #[.int .i64 P.k, .slice n2 P.nx.length c2, .slice a2 P.ac.length d2]) := HRn.out; clear HRn
  have HR_r : Hid (RowAt u4 u3.heap.size #[.int .i64 R.k, .slice n3 R.nx.length c3, .slice a3 R.ac.length d3]) := (RowAt.last _ _ _).stay hb4
  have HAn : Hid (AR u4 (.agg #[.int .i64 A.k, .slice an A.nx.length cn, .slice aa A.ac.length ca]) A) := HA_a.out.stay hs4; clear HA_a; have HA_a : Hid (AR u4 (.agg #[.int .i64 A.k, .slice an A.nx.length cn, .slice aa A.ac.length ca]) A) := HAn.out; clear HAn
  have HAn : Hid (AR u4 (.agg #[.int .i64 P.k, .slice n1 P.nx.length c1, .slice a1 P.ac.length d1]) P) := HA_p.out.stay hs4; clear HA_p; have HA_p : Hid (AR u4 (.agg #[.int .i64 P.k, .slice n1 P.nx.length c1, .slice a1 P.ac.length d1]) P) := HAn.out; clear HAn
  have HAn : Hid (AR u4 (.agg #[.int .i64 P.k, .slice n2 P.nx.length c2, .slice a2 P.ac.length d2]) P) := HA_q.out.stay hs4; clear HA_q; have HA_q : Hid (AR u4 (.agg #[.int .i64 P.k, .slice n2 P.nx.length c2, .slice a2 P.ac.length d2]) P) := HAn.out; clear HAn
  have HAn : Hid (AR u4 (.agg #[.int .i64 R.k, .slice n3 R.nx.length c3, .slice a3 R.ac.length d3]) R) := HA_r.out.stay hs4; clear HA_r; have HA_r : Hid (AR u4 (.agg #[.int .i64 R.k, .slice n3 R.nx.length c3, .slice a3 R.ac.length d3]) R) := HAn.out; clear HAn
  have hr4 := ha4.ar
  obtain ⟨n4, c4, a4, d4, rfl, _, _⟩ := ha4
  have HA_s : Hid (AR u4 (.agg #[.int .i64 R.k, .slice n4 R.nx.length c4, .slice a4 R.ac.length d4]) R) := hr4
  clear hb4 hs4 hr4
  clear cc0
  obtain ⟨Z1, hZ1⟩ : ∃ Z1, Z1 = u4.alloc (.cells #[.int .i64 R.k, .slice n4 R.nx.length c4, .slice a4 R.ac.length d4] 25) := ⟨_, rfl⟩
  have HEZ1 : Hid (Z1 = u4.alloc (.cells #[.int .i64 R.k, .slice n4 R.nx.length c4, .slice a4 R.ac.length d4] 25)) := hZ1
  have hs : Below u4.heap.size u4 Z1 := by rw [hZ1]; exact below_new _ _
  have HBn : Hid (Below w.heap.size w Z1) := go_on HB.out hs; clear HB; have HB : Hid (Below w.heap.size w Z1) := HBn.out; clear HBn
  have HRn : Hid (RowAt Z1 w.heap.size #[.int .i64 A.k, .slice an A.nx.length cn, .slice aa A.ac.length ca]) := HR_a.out.stay hs; clear HR_a; have HR_a : Hid (RowAt Z1 w.heap.size #[.int .i64 A.k, .slice an A.nx.length cn, .slice aa A.ac.length ca]) := HRn.out; clear HRn
  have HRn : Hid (RowAt Z1 u1.heap.size #[.int .i64 P.k, .slice n1 P.nx.length c1, .slice a1 P.ac.length d1]) := HR_p.out.stay hs; clear HR_p; have HR_p : Hid (RowAt Z1 u1.heap.size #[.int .i64 P.k, .slice n1 P.nx.length c1, .slice a1 P.ac.length d1]) := HRn.out; clear HRn
  have HRn : Hid (RowAt Z1 u2.heap.size #[.int .i64 P.k, .slice n2 P.nx.length c2, .slice a2 P.ac.length d2]) := HR_q.out.stay hs; clear HR_q; have HR_q : Hid (RowAt Z1 u2.heap.size #[.int .i64 P.k, .slice n2 P.nx.length c2, .slice a2 P.ac.length d2]) := HRn.out; clear HRn
  have HRn : Hid (RowAt Z1 u3.heap.size #[.int .i64 R.k, .slice n3 R.nx.length c3, .slice a3 R.ac.length d3]) := HR_r.out.stay hs; clear HR_r; have HR_r : Hid (RowAt Z1 u3.heap.size #[.int .i64 R.k, .slice n3 R.nx.length c3, .slice a3 R.ac.length d3]) := HRn.out; clear HRn
  have HR_s : Hid (RowAt Z1 u4.heap.size #[.int .i64 R.k, .slice n4 R.nx.length c4, .slice a4 R.ac.length d4]) := by show RowAt _ _ _; rw [hZ1]; exact RowAt.last _ _ _
  have HAn : Hid (AR Z1 (.agg #[.int .i64 A.k, .slice an A.nx.length cn, .slice aa A.ac.length ca]) A) := HA_a.out.stay hs; clear HA_a; have HA_a : Hid (AR Z1 (.agg #[.int .i64 A.k, .slice an A.nx.length cn, .slice aa A.ac.length ca]) A) := HAn.out; clear HAn
  have HAn : Hid (AR Z1 (.agg #[.int .i64 P.k, .slice n1 P.nx.length c1, .slice a1 P.ac.length d1]) P) := HA_p.out.stay hs; clear HA_p; have HA_p : Hid (AR Z1 (.agg #[.int .i64 P.k, .slice n1 P.nx.length c1, .slice a1 P.ac.length d1]) P) := HAn.out; clear HAn
  have HAn : Hid (AR Z1 (.agg #[.int .i64 P.k, .slice n2 P.nx.length c2, .slice a2 P.ac.length d2]) P) := HA_q.out.stay hs; clear HA_q; have HA_q : Hid (AR Z1 (.agg #[.int .i64 P.k, .slice n2 P.nx.length c2, .slice a2 P.ac.length d2]) P) := HAn.out; clear HAn
  have HAn : Hid (AR Z1 (.agg #[.int .i64 R.k, .slice n3 R.nx.length c3, .slice a3 R.ac.length d3]) R) := HA_r.out.stay hs; clear HA_r; have HA_r : Hid (AR Z1 (.agg #[.int .i64 R.k, .slice n3 R.nx.length c3, .slice a3 R.ac.length d3]) R) := HAn.out; clear HAn
  have HAn : Hid (AR Z1 (.agg #[.int .i64 R.k, .slice n4 R.nx.length c4, .slice a4 R.ac.length d4]) R) := HA_s.out.stay hs; clear HA_s; have HA_s : Hid (AR Z1 (.agg #[.int .i64 R.k, .slice n4 R.nx.length c4, .slice a4 R.ac.length d4]) R) := HAn.out; clear HAn
  clear hs hZ1
  have HS1 : Hid (∀ y, Below Z1.heap.size Z1 y → Calls Try.prog 10 #[.agg #[.int .i64 P.k, .slice n1 P.nx.length c1, .slice a1 P.ac.length d1], .agg #[.int .i64 P.k, .slice n2 P.nx.length c2, .slice a2 P.ac.length d2]] y fun e w' => e = .returned (.bool true) ∧ Below y.heap.size y w') := fun y hy => sameAuto_any _ _ P y (HA_p.out.stay hy) (HA_q.out.stay hy) HLP.out.1 HLP.out.2
  have HS2 : Hid (∀ y, Below Z1.heap.size Z1 y → Calls Try.prog 10 #[.agg #[.int .i64 R.k, .slice n3 R.nx.length c3, .slice a3 R.ac.length d3], .agg #[.int .i64 R.k, .slice n4 R.nx.length c4, .slice a4 R.ac.length d4]] y fun e w' => e = .returned (.bool true) ∧ Below y.heap.size y w') := fun y hy => sameAuto_any _ _ R y (HA_r.out.stay hy) (HA_s.out.stay hy) HLR.out.1 HLR.out.2
  have rw1 : ∀ o, (u4.alloc (.cells #[.int .i64 R.k, .slice n4 R.nx.length c4, .slice a4 R.ac.length d4] 25)).cell? ⟨u1.heap.size, o, none⟩ = (#[.int .i64 P.k, .slice n1 P.nx.length c1, .slice a1 P.ac.length d1] : Array Value)[o]? := by have := HR_p.out.cell; rw [HEZ1.out] at this; exact this
  have rw2 : ∀ o, (u4.alloc (.cells #[.int .i64 R.k, .slice n4 R.nx.length c4, .slice a4 R.ac.length d4] 25)).cell? ⟨u2.heap.size, o, none⟩ = (#[.int .i64 P.k, .slice n2 P.nx.length c2, .slice a2 P.ac.length d2] : Array Value)[o]? := by have := HR_q.out.cell; rw [HEZ1.out] at this; exact this
  go_wp2_with fail
  rw [← HEZ1.out]
  clear rw1 rw2
  refine (HS1.out _ (Below.refl _ _)).mono ?_
  rintro e y1 ⟨rfl, hy1⟩
  have HY1 : Hid (Below Z1.heap.size Z1 y1) := hy1
  have r1 := (HR_r.out.stay hy1).cell
  have r2 := (HR_s.out.stay hy1).cell
  clear hy1 HS1
  go_wp2_with (first
    | (go_at_call 11; refine (num8_any _ _).mono ?_; rintro e yn ⟨rfl, hyn⟩; subst yn)
    | fail)
  refine (HS2.out _ HY1.out).mono ?_
  rintro e y2 ⟨rfl, hy2⟩
  have HY2 : Hid (Below Z1.heap.size Z1 y2) := go_on HY1.out hy2
  clear hy2 HS2 HY1 r1 r2
  have HRn : Hid (RowAt y2 w.heap.size #[.int .i64 A.k, .slice an A.nx.length cn, .slice aa A.ac.length ca]) := HR_a.out.stay HY2.out; clear HR_a; have HR_a : Hid (RowAt y2 w.heap.size #[.int .i64 A.k, .slice an A.nx.length cn, .slice aa A.ac.length ca]) := HRn.out; clear HRn
  have HRn : Hid (RowAt y2 u1.heap.size #[.int .i64 P.k, .slice n1 P.nx.length c1, .slice a1 P.ac.length d1]) := HR_p.out.stay HY2.out; clear HR_p; have HR_p : Hid (RowAt y2 u1.heap.size #[.int .i64 P.k, .slice n1 P.nx.length c1, .slice a1 P.ac.length d1]) := HRn.out; clear HRn
  have HRn : Hid (RowAt y2 u2.heap.size #[.int .i64 P.k, .slice n2 P.nx.length c2, .slice a2 P.ac.length d2]) := HR_q.out.stay HY2.out; clear HR_q; have HR_q : Hid (RowAt y2 u2.heap.size #[.int .i64 P.k, .slice n2 P.nx.length c2, .slice a2 P.ac.length d2]) := HRn.out; clear HRn
  have HRn : Hid (RowAt y2 u3.heap.size #[.int .i64 R.k, .slice n3 R.nx.length c3, .slice a3 R.ac.length d3]) := HR_r.out.stay HY2.out; clear HR_r; have HR_r : Hid (RowAt y2 u3.heap.size #[.int .i64 R.k, .slice n3 R.nx.length c3, .slice a3 R.ac.length d3]) := HRn.out; clear HRn
  have HRn : Hid (RowAt y2 u4.heap.size #[.int .i64 R.k, .slice n4 R.nx.length c4, .slice a4 R.ac.length d4]) := HR_s.out.stay HY2.out; clear HR_s; have HR_s : Hid (RowAt y2 u4.heap.size #[.int .i64 R.k, .slice n4 R.nx.length c4, .slice a4 R.ac.length d4]) := HRn.out; clear HRn
  have HAn : Hid (AR y2 (.agg #[.int .i64 A.k, .slice an A.nx.length cn, .slice aa A.ac.length ca]) A) := HA_a.out.stay HY2.out; clear HA_a; have HA_a : Hid (AR y2 (.agg #[.int .i64 A.k, .slice an A.nx.length cn, .slice aa A.ac.length ca]) A) := HAn.out; clear HAn
  have HAn : Hid (AR y2 (.agg #[.int .i64 P.k, .slice n1 P.nx.length c1, .slice a1 P.ac.length d1]) P) := HA_p.out.stay HY2.out; clear HA_p; have HA_p : Hid (AR y2 (.agg #[.int .i64 P.k, .slice n1 P.nx.length c1, .slice a1 P.ac.length d1]) P) := HAn.out; clear HAn
  have HAn : Hid (AR y2 (.agg #[.int .i64 P.k, .slice n2 P.nx.length c2, .slice a2 P.ac.length d2]) P) := HA_q.out.stay HY2.out; clear HA_q; have HA_q : Hid (AR y2 (.agg #[.int .i64 P.k, .slice n2 P.nx.length c2, .slice a2 P.ac.length d2]) P) := HAn.out; clear HAn
  have HAn : Hid (AR y2 (.agg #[.int .i64 R.k, .slice n3 R.nx.length c3, .slice a3 R.ac.length d3]) R) := HA_r.out.stay HY2.out; clear HA_r; have HA_r : Hid (AR y2 (.agg #[.int .i64 R.k, .slice n3 R.nx.length c3, .slice a3 R.ac.length d3]) R) := HAn.out; clear HAn
  have HAn : Hid (AR y2 (.agg #[.int .i64 R.k, .slice n4 R.nx.length c4, .slice a4 R.ac.length d4]) R) := HA_s.out.stay HY2.out; clear HA_s; have HA_s : Hid (AR y2 (.agg #[.int .i64 R.k, .slice n4 R.nx.length c4, .slice a4 R.ac.length d4]) R) := HAn.out; clear HAn
  have HBn : Hid (Below w.heap.size w y2) := go_on HB.out HY2.out; clear HB; have HB : Hid (Below w.heap.size w y2) := HBn.out; clear HBn HY2
  by_cases eE : ¬ E = 0
  · have hdE : decide (E = 0) = false := decide_eq_false eE
    go_wp2_with (first
      | (go_at_call 11; refine (num8_any _ _).mono ?_; rintro e yn ⟨rfl, hyn⟩; subst yn)
      | fail)
    refine (live8_any _).mono ?_
    rintro e y6 ⟨rfl, hy6⟩
    have HY6 : Hid (Below w.heap.size w y6) := go_on HB.out hy6
    clear hy6
    go_wp2_with fail
    go_ret
    exact ⟨rfl, HY6.out⟩
  have fE : E = 0 := Classical.byContradiction eE
  clear eE
  subst fE
  by_cases eF : ¬ F = 0
  · have hdF : decide (F = 0) = false := decide_eq_false eF
    go_wp2_with (first
      | (go_at_call 11; refine (num8_any _ _).mono ?_; rintro e yn ⟨rfl, hyn⟩; subst yn)
      | fail)
    refine (live8_any _).mono ?_
    rintro e y6 ⟨rfl, hy6⟩
    have HY6 : Hid (Below w.heap.size w y6) := go_on HB.out hy6
    clear hy6
    go_wp2_with fail
    go_ret
    exact ⟨rfl, HY6.out⟩
  have fF : F = 0 := Classical.byContradiction eF
  clear eF
  subst fF
  have D5 : Hid (∀ y x, AR y x A → Calls Try.prog 5 #[x, .string (u ++ v)] y (FQ X 0 y)) := C5.out rfl rfl
  have D6 : Hid (∀ y x, AR y x P → Calls Try.prog 5 #[x, .string v] y (FQ X 0 y)) := C6.out rfl rfl
  have D7 : Hid (∀ y x, AR y x A → Calls Try.prog 8 #[x, .string (u ++ v)] y (FQ Y 0 y)) := C7.out rfl rfl
  have D8 : Hid (∀ y x, AR y x R → Calls Try.prog 8 #[x, .string u] y (FQ Y 0 y)) := C8.out rfl rfl
  clear C1 C2 C3 C4 C5 C6 C7 C8
  have cc0 : ∀ o, y2.cell? ⟨w.heap.size, o, none⟩ = (#[.int .i64 A.k, .slice an A.nx.length cn, .slice aa A.ac.length ca] : Array Value)[o]? := HR_a.out.cell
  go_wp2_with (first | (go_at_call 11; refine (num8_any _ _).mono ?_; rintro e yn ⟨rfl, hyn⟩; subst yn) | fail)
  refine (D5.out _ _ HA_a.out).mono ?_
  rintro e u5 ⟨v5, rfl, ha5, hb5⟩
  have hs5 : Below y2.heap.size y2 u5 := hb5
  have HBn : Hid (Below w.heap.size w u5) := go_on HB.out hs5
  clear HB; have HB : Hid (Below w.heap.size w u5) := HBn.out; clear HBn
  have HRn : Hid (RowAt u5 w.heap.size #[.int .i64 A.k, .slice an A.nx.length cn, .slice aa A.ac.length ca]) := HR_a.out.stay hs5; clear HR_a; have HR_a : Hid (RowAt u5 w.heap.size #[.int .i64 A.k, .slice an A.nx.length cn, .slice aa A.ac.length ca]) := HRn.out; clear HRn
  have HRn : Hid (RowAt u5 u1.heap.size #[.int .i64 P.k, .slice n1 P.nx.length c1, .slice a1 P.ac.length d1]) := HR_p.out.stay hs5; clear HR_p; have HR_p : Hid (RowAt u5 u1.heap.size #[.int .i64 P.k, .slice n1 P.nx.length c1, .slice a1 P.ac.length d1]) := HRn.out; clear HRn
  have HRn : Hid (RowAt u5 u2.heap.size #[.int .i64 P.k, .slice n2 P.nx.length c2, .slice a2 P.ac.length d2]) := HR_q.out.stay hs5; clear HR_q; have HR_q : Hid (RowAt u5 u2.heap.size #[.int .i64 P.k, .slice n2 P.nx.length c2, .slice a2 P.ac.length d2]) := HRn.out; clear HRn
  have HRn : Hid (RowAt u5 u3.heap.size #[.int .i64 R.k, .slice n3 R.nx.length c3, .slice a3 R.ac.length d3]) := HR_r.out.stay hs5; clear HR_r; have HR_r : Hid (RowAt u5 u3.heap.size #[.int .i64 R.k, .slice n3 R.nx.length c3, .slice a3 R.ac.length d3]) := HRn.out; clear HRn
  have HRn : Hid (RowAt u5 u4.heap.size #[.int .i64 R.k, .slice n4 R.nx.length c4, .slice a4 R.ac.length d4]) := HR_s.out.stay hs5; clear HR_s; have HR_s : Hid (RowAt u5 u4.heap.size #[.int .i64 R.k, .slice n4 R.nx.length c4, .slice a4 R.ac.length d4]) := HRn.out; clear HRn
  have HAn : Hid (AR u5 (.agg #[.int .i64 A.k, .slice an A.nx.length cn, .slice aa A.ac.length ca]) A) := HA_a.out.stay hs5; clear HA_a; have HA_a : Hid (AR u5 (.agg #[.int .i64 A.k, .slice an A.nx.length cn, .slice aa A.ac.length ca]) A) := HAn.out; clear HAn
  have HAn : Hid (AR u5 (.agg #[.int .i64 P.k, .slice n1 P.nx.length c1, .slice a1 P.ac.length d1]) P) := HA_p.out.stay hs5; clear HA_p; have HA_p : Hid (AR u5 (.agg #[.int .i64 P.k, .slice n1 P.nx.length c1, .slice a1 P.ac.length d1]) P) := HAn.out; clear HAn
  have HAn : Hid (AR u5 (.agg #[.int .i64 P.k, .slice n2 P.nx.length c2, .slice a2 P.ac.length d2]) P) := HA_q.out.stay hs5; clear HA_q; have HA_q : Hid (AR u5 (.agg #[.int .i64 P.k, .slice n2 P.nx.length c2, .slice a2 P.ac.length d2]) P) := HAn.out; clear HAn
  have HAn : Hid (AR u5 (.agg #[.int .i64 R.k, .slice n3 R.nx.length c3, .slice a3 R.ac.length d3]) R) := HA_r.out.stay hs5; clear HA_r; have HA_r : Hid (AR u5 (.agg #[.int .i64 R.k, .slice n3 R.nx.length c3, .slice a3 R.ac.length d3]) R) := HAn.out; clear HAn
  have HAn : Hid (AR u5 (.agg #[.int .i64 R.k, .slice n4 R.nx.length c4, .slice a4 R.ac.length d4]) R) := HA_s.out.stay hs5; clear HA_s; have HA_s : Hid (AR u5 (.agg #[.int .i64 R.k, .slice n4 R.nx.length c4, .slice a4 R.ac.length d4]) R) := HAn.out; clear HAn
  have hr5 := ha5.ar
  obtain ⟨n5, c5, a5, d5, rfl, _, _⟩ := ha5
  have HA_both : Hid (AR u5 (.agg #[.int .i64 X.k, .slice n5 X.nx.length c5, .slice a5 X.ac.length d5]) X) := hr5
  clear hb5 hs5 hr5
  clear cc0
  have cc0 : ∀ O o, (u5.alloc O).cell? ⟨u1.heap.size, o, none⟩ = (#[.int .i64 P.k, .slice n1 P.nx.length c1, .slice a1 P.ac.length d1] : Array Value)[o]? := fun O => (HR_p.out.alloc O).cell
  go_wp2_with fail
  refine (D6.out _ _ (HA_p.out.stay (below_new _ _))).mono ?_
  rintro e u6 ⟨v6, rfl, ha6, hb6⟩
  have hs6 : Below u5.heap.size u5 u6 := go_on (below_new _ _) hb6
  have HBn : Hid (Below w.heap.size w u6) := go_on HB.out hs6
  clear HB; have HB : Hid (Below w.heap.size w u6) := HBn.out; clear HBn
  have HRn : Hid (RowAt u6 w.heap.size #[.int .i64 A.k, .slice an A.nx.length cn, .slice aa A.ac.length ca]) := HR_a.out.stay hs6; clear HR_a; have HR_a : Hid (RowAt u6 w.heap.size #[.int .i64 A.k, .slice an A.nx.length cn, .slice aa A.ac.length ca]) := HRn.out; clear HRn
  have HRn : Hid (RowAt u6 u1.heap.size #[.int .i64 P.k, .slice n1 P.nx.length c1, .slice a1 P.ac.length d1]) := HR_p.out.stay hs6; clear HR_p; have HR_p : Hid (RowAt u6 u1.heap.size #[.int .i64 P.k, .slice n1 P.nx.length c1, .slice a1 P.ac.length d1]) := HRn.out; clear HRn
  have HRn : Hid (RowAt u6 u2.heap.size #[.int .i64 P.k, .slice n2 P.nx.length c2, .slice a2 P.ac.length d2]) := HR_q.out.stay hs6; clear HR_q; have HR_q : Hid (RowAt u6 u2.heap.size #[.int .i64 P.k, .slice n2 P.nx.length c2, .slice a2 P.ac.length d2]) := HRn.out; clear HRn
  have HRn : Hid (RowAt u6 u3.heap.size #[.int .i64 R.k, .slice n3 R.nx.length c3, .slice a3 R.ac.length d3]) := HR_r.out.stay hs6; clear HR_r; have HR_r : Hid (RowAt u6 u3.heap.size #[.int .i64 R.k, .slice n3 R.nx.length c3, .slice a3 R.ac.length d3]) := HRn.out; clear HRn
  have HRn : Hid (RowAt u6 u4.heap.size #[.int .i64 R.k, .slice n4 R.nx.length c4, .slice a4 R.ac.length d4]) := HR_s.out.stay hs6; clear HR_s; have HR_s : Hid (RowAt u6 u4.heap.size #[.int .i64 R.k, .slice n4 R.nx.length c4, .slice a4 R.ac.length d4]) := HRn.out; clear HRn
  have HR_both : Hid (RowAt u6 u5.heap.size #[.int .i64 X.k, .slice n5 X.nx.length c5, .slice a5 X.ac.length d5]) := (RowAt.last _ _ _).stay hb6
  have HAn : Hid (AR u6 (.agg #[.int .i64 A.k, .slice an A.nx.length cn, .slice aa A.ac.length ca]) A) := HA_a.out.stay hs6; clear HA_a; have HA_a : Hid (AR u6 (.agg #[.int .i64 A.k, .slice an A.nx.length cn, .slice aa A.ac.length ca]) A) := HAn.out; clear HAn
  have HAn : Hid (AR u6 (.agg #[.int .i64 P.k, .slice n1 P.nx.length c1, .slice a1 P.ac.length d1]) P) := HA_p.out.stay hs6; clear HA_p; have HA_p : Hid (AR u6 (.agg #[.int .i64 P.k, .slice n1 P.nx.length c1, .slice a1 P.ac.length d1]) P) := HAn.out; clear HAn
  have HAn : Hid (AR u6 (.agg #[.int .i64 P.k, .slice n2 P.nx.length c2, .slice a2 P.ac.length d2]) P) := HA_q.out.stay hs6; clear HA_q; have HA_q : Hid (AR u6 (.agg #[.int .i64 P.k, .slice n2 P.nx.length c2, .slice a2 P.ac.length d2]) P) := HAn.out; clear HAn
  have HAn : Hid (AR u6 (.agg #[.int .i64 R.k, .slice n3 R.nx.length c3, .slice a3 R.ac.length d3]) R) := HA_r.out.stay hs6; clear HA_r; have HA_r : Hid (AR u6 (.agg #[.int .i64 R.k, .slice n3 R.nx.length c3, .slice a3 R.ac.length d3]) R) := HAn.out; clear HAn
  have HAn : Hid (AR u6 (.agg #[.int .i64 R.k, .slice n4 R.nx.length c4, .slice a4 R.ac.length d4]) R) := HA_s.out.stay hs6; clear HA_s; have HA_s : Hid (AR u6 (.agg #[.int .i64 R.k, .slice n4 R.nx.length c4, .slice a4 R.ac.length d4]) R) := HAn.out; clear HAn
  have HAn : Hid (AR u6 (.agg #[.int .i64 X.k, .slice n5 X.nx.length c5, .slice a5 X.ac.length d5]) X) := HA_both.out.stay hs6; clear HA_both; have HA_both : Hid (AR u6 (.agg #[.int .i64 X.k, .slice n5 X.nx.length c5, .slice a5 X.ac.length d5]) X) := HAn.out; clear HAn
  have hr6 := ha6.ar
  obtain ⟨n6, c6, a6, d6, rfl, _, _⟩ := ha6
  have HA_one : Hid (AR u6 (.agg #[.int .i64 X.k, .slice n6 X.nx.length c6, .slice a6 X.ac.length d6]) X) := hr6
  clear hb6 hs6 hr6
  clear cc0
  have cc0 : ∀ O o, (u6.alloc O).cell? ⟨w.heap.size, o, none⟩ = (#[.int .i64 A.k, .slice an A.nx.length cn, .slice aa A.ac.length ca] : Array Value)[o]? := fun O => (HR_a.out.alloc O).cell
  go_wp2_with fail
  refine (D7.out _ _ (HA_a.out.stay (below_new _ _))).mono ?_
  rintro e u7 ⟨v7, rfl, ha7, hb7⟩
  have hs7 : Below u6.heap.size u6 u7 := go_on (below_new _ _) hb7
  have HBn : Hid (Below w.heap.size w u7) := go_on HB.out hs7
  clear HB; have HB : Hid (Below w.heap.size w u7) := HBn.out; clear HBn
  have HRn : Hid (RowAt u7 w.heap.size #[.int .i64 A.k, .slice an A.nx.length cn, .slice aa A.ac.length ca]) := HR_a.out.stay hs7; clear HR_a; have HR_a : Hid (RowAt u7 w.heap.size #[.int .i64 A.k, .slice an A.nx.length cn, .slice aa A.ac.length ca]) := HRn.out; clear HRn
  have HRn : Hid (RowAt u7 u1.heap.size #[.int .i64 P.k, .slice n1 P.nx.length c1, .slice a1 P.ac.length d1]) := HR_p.out.stay hs7; clear HR_p; have HR_p : Hid (RowAt u7 u1.heap.size #[.int .i64 P.k, .slice n1 P.nx.length c1, .slice a1 P.ac.length d1]) := HRn.out; clear HRn
  have HRn : Hid (RowAt u7 u2.heap.size #[.int .i64 P.k, .slice n2 P.nx.length c2, .slice a2 P.ac.length d2]) := HR_q.out.stay hs7; clear HR_q; have HR_q : Hid (RowAt u7 u2.heap.size #[.int .i64 P.k, .slice n2 P.nx.length c2, .slice a2 P.ac.length d2]) := HRn.out; clear HRn
  have HRn : Hid (RowAt u7 u3.heap.size #[.int .i64 R.k, .slice n3 R.nx.length c3, .slice a3 R.ac.length d3]) := HR_r.out.stay hs7; clear HR_r; have HR_r : Hid (RowAt u7 u3.heap.size #[.int .i64 R.k, .slice n3 R.nx.length c3, .slice a3 R.ac.length d3]) := HRn.out; clear HRn
  have HRn : Hid (RowAt u7 u4.heap.size #[.int .i64 R.k, .slice n4 R.nx.length c4, .slice a4 R.ac.length d4]) := HR_s.out.stay hs7; clear HR_s; have HR_s : Hid (RowAt u7 u4.heap.size #[.int .i64 R.k, .slice n4 R.nx.length c4, .slice a4 R.ac.length d4]) := HRn.out; clear HRn
  have HRn : Hid (RowAt u7 u5.heap.size #[.int .i64 X.k, .slice n5 X.nx.length c5, .slice a5 X.ac.length d5]) := HR_both.out.stay hs7; clear HR_both; have HR_both : Hid (RowAt u7 u5.heap.size #[.int .i64 X.k, .slice n5 X.nx.length c5, .slice a5 X.ac.length d5]) := HRn.out; clear HRn
  have HR_one : Hid (RowAt u7 u6.heap.size #[.int .i64 X.k, .slice n6 X.nx.length c6, .slice a6 X.ac.length d6]) := (RowAt.last _ _ _).stay hb7
  have HAn : Hid (AR u7 (.agg #[.int .i64 A.k, .slice an A.nx.length cn, .slice aa A.ac.length ca]) A) := HA_a.out.stay hs7; clear HA_a; have HA_a : Hid (AR u7 (.agg #[.int .i64 A.k, .slice an A.nx.length cn, .slice aa A.ac.length ca]) A) := HAn.out; clear HAn
  have HAn : Hid (AR u7 (.agg #[.int .i64 P.k, .slice n1 P.nx.length c1, .slice a1 P.ac.length d1]) P) := HA_p.out.stay hs7; clear HA_p; have HA_p : Hid (AR u7 (.agg #[.int .i64 P.k, .slice n1 P.nx.length c1, .slice a1 P.ac.length d1]) P) := HAn.out; clear HAn
  have HAn : Hid (AR u7 (.agg #[.int .i64 P.k, .slice n2 P.nx.length c2, .slice a2 P.ac.length d2]) P) := HA_q.out.stay hs7; clear HA_q; have HA_q : Hid (AR u7 (.agg #[.int .i64 P.k, .slice n2 P.nx.length c2, .slice a2 P.ac.length d2]) P) := HAn.out; clear HAn
  have HAn : Hid (AR u7 (.agg #[.int .i64 R.k, .slice n3 R.nx.length c3, .slice a3 R.ac.length d3]) R) := HA_r.out.stay hs7; clear HA_r; have HA_r : Hid (AR u7 (.agg #[.int .i64 R.k, .slice n3 R.nx.length c3, .slice a3 R.ac.length d3]) R) := HAn.out; clear HAn
  have HAn : Hid (AR u7 (.agg #[.int .i64 R.k, .slice n4 R.nx.length c4, .slice a4 R.ac.length d4]) R) := HA_s.out.stay hs7; clear HA_s; have HA_s : Hid (AR u7 (.agg #[.int .i64 R.k, .slice n4 R.nx.length c4, .slice a4 R.ac.length d4]) R) := HAn.out; clear HAn
  have HAn : Hid (AR u7 (.agg #[.int .i64 X.k, .slice n5 X.nx.length c5, .slice a5 X.ac.length d5]) X) := HA_both.out.stay hs7; clear HA_both; have HA_both : Hid (AR u7 (.agg #[.int .i64 X.k, .slice n5 X.nx.length c5, .slice a5 X.ac.length d5]) X) := HAn.out; clear HAn
  have HAn : Hid (AR u7 (.agg #[.int .i64 X.k, .slice n6 X.nx.length c6, .slice a6 X.ac.length d6]) X) := HA_one.out.stay hs7; clear HA_one; have HA_one : Hid (AR u7 (.agg #[.int .i64 X.k, .slice n6 X.nx.length c6, .slice a6 X.ac.length d6]) X) := HAn.out; clear HAn
  have hr7 := ha7.ar
  obtain ⟨n7, c7, a7, d7, rfl, _, _⟩ := ha7
  have HA_back : Hid (AR u7 (.agg #[.int .i64 Y.k, .slice n7 Y.nx.length c7, .slice a7 Y.ac.length d7]) Y) := hr7
  clear hb7 hs7 hr7
  clear cc0
  have cc0 : ∀ O o, (u7.alloc O).cell? ⟨u3.heap.size, o, none⟩ = (#[.int .i64 R.k, .slice n3 R.nx.length c3, .slice a3 R.ac.length d3] : Array Value)[o]? := fun O => (HR_r.out.alloc O).cell
  go_wp2_with fail
  refine (D8.out _ _ (HA_r.out.stay (below_new _ _))).mono ?_
  rintro e u8 ⟨v8, rfl, ha8, hb8⟩
  have hs8 : Below u7.heap.size u7 u8 := go_on (below_new _ _) hb8
  have HBn : Hid (Below w.heap.size w u8) := go_on HB.out hs8
  clear HB; have HB : Hid (Below w.heap.size w u8) := HBn.out; clear HBn
  have HRn : Hid (RowAt u8 w.heap.size #[.int .i64 A.k, .slice an A.nx.length cn, .slice aa A.ac.length ca]) := HR_a.out.stay hs8; clear HR_a; have HR_a : Hid (RowAt u8 w.heap.size #[.int .i64 A.k, .slice an A.nx.length cn, .slice aa A.ac.length ca]) := HRn.out; clear HRn
  have HRn : Hid (RowAt u8 u1.heap.size #[.int .i64 P.k, .slice n1 P.nx.length c1, .slice a1 P.ac.length d1]) := HR_p.out.stay hs8; clear HR_p; have HR_p : Hid (RowAt u8 u1.heap.size #[.int .i64 P.k, .slice n1 P.nx.length c1, .slice a1 P.ac.length d1]) := HRn.out; clear HRn
  have HRn : Hid (RowAt u8 u2.heap.size #[.int .i64 P.k, .slice n2 P.nx.length c2, .slice a2 P.ac.length d2]) := HR_q.out.stay hs8; clear HR_q; have HR_q : Hid (RowAt u8 u2.heap.size #[.int .i64 P.k, .slice n2 P.nx.length c2, .slice a2 P.ac.length d2]) := HRn.out; clear HRn
  have HRn : Hid (RowAt u8 u3.heap.size #[.int .i64 R.k, .slice n3 R.nx.length c3, .slice a3 R.ac.length d3]) := HR_r.out.stay hs8; clear HR_r; have HR_r : Hid (RowAt u8 u3.heap.size #[.int .i64 R.k, .slice n3 R.nx.length c3, .slice a3 R.ac.length d3]) := HRn.out; clear HRn
  have HRn : Hid (RowAt u8 u4.heap.size #[.int .i64 R.k, .slice n4 R.nx.length c4, .slice a4 R.ac.length d4]) := HR_s.out.stay hs8; clear HR_s; have HR_s : Hid (RowAt u8 u4.heap.size #[.int .i64 R.k, .slice n4 R.nx.length c4, .slice a4 R.ac.length d4]) := HRn.out; clear HRn
  have HRn : Hid (RowAt u8 u5.heap.size #[.int .i64 X.k, .slice n5 X.nx.length c5, .slice a5 X.ac.length d5]) := HR_both.out.stay hs8; clear HR_both; have HR_both : Hid (RowAt u8 u5.heap.size #[.int .i64 X.k, .slice n5 X.nx.length c5, .slice a5 X.ac.length d5]) := HRn.out; clear HRn
  have HRn : Hid (RowAt u8 u6.heap.size #[.int .i64 X.k, .slice n6 X.nx.length c6, .slice a6 X.ac.length d6]) := HR_one.out.stay hs8; clear HR_one; have HR_one : Hid (RowAt u8 u6.heap.size #[.int .i64 X.k, .slice n6 X.nx.length c6, .slice a6 X.ac.length d6]) := HRn.out; clear HRn
  have HR_back : Hid (RowAt u8 u7.heap.size #[.int .i64 Y.k, .slice n7 Y.nx.length c7, .slice a7 Y.ac.length d7]) := (RowAt.last _ _ _).stay hb8
  have HAn : Hid (AR u8 (.agg #[.int .i64 A.k, .slice an A.nx.length cn, .slice aa A.ac.length ca]) A) := HA_a.out.stay hs8; clear HA_a; have HA_a : Hid (AR u8 (.agg #[.int .i64 A.k, .slice an A.nx.length cn, .slice aa A.ac.length ca]) A) := HAn.out; clear HAn
  have HAn : Hid (AR u8 (.agg #[.int .i64 P.k, .slice n1 P.nx.length c1, .slice a1 P.ac.length d1]) P) := HA_p.out.stay hs8; clear HA_p; have HA_p : Hid (AR u8 (.agg #[.int .i64 P.k, .slice n1 P.nx.length c1, .slice a1 P.ac.length d1]) P) := HAn.out; clear HAn
  have HAn : Hid (AR u8 (.agg #[.int .i64 P.k, .slice n2 P.nx.length c2, .slice a2 P.ac.length d2]) P) := HA_q.out.stay hs8; clear HA_q; have HA_q : Hid (AR u8 (.agg #[.int .i64 P.k, .slice n2 P.nx.length c2, .slice a2 P.ac.length d2]) P) := HAn.out; clear HAn
  have HAn : Hid (AR u8 (.agg #[.int .i64 R.k, .slice n3 R.nx.length c3, .slice a3 R.ac.length d3]) R) := HA_r.out.stay hs8; clear HA_r; have HA_r : Hid (AR u8 (.agg #[.int .i64 R.k, .slice n3 R.nx.length c3, .slice a3 R.ac.length d3]) R) := HAn.out; clear HAn
  have HAn : Hid (AR u8 (.agg #[.int .i64 R.k, .slice n4 R.nx.length c4, .slice a4 R.ac.length d4]) R) := HA_s.out.stay hs8; clear HA_s; have HA_s : Hid (AR u8 (.agg #[.int .i64 R.k, .slice n4 R.nx.length c4, .slice a4 R.ac.length d4]) R) := HAn.out; clear HAn
  have HAn : Hid (AR u8 (.agg #[.int .i64 X.k, .slice n5 X.nx.length c5, .slice a5 X.ac.length d5]) X) := HA_both.out.stay hs8; clear HA_both; have HA_both : Hid (AR u8 (.agg #[.int .i64 X.k, .slice n5 X.nx.length c5, .slice a5 X.ac.length d5]) X) := HAn.out; clear HAn
  have HAn : Hid (AR u8 (.agg #[.int .i64 X.k, .slice n6 X.nx.length c6, .slice a6 X.ac.length d6]) X) := HA_one.out.stay hs8; clear HA_one; have HA_one : Hid (AR u8 (.agg #[.int .i64 X.k, .slice n6 X.nx.length c6, .slice a6 X.ac.length d6]) X) := HAn.out; clear HAn
  have HAn : Hid (AR u8 (.agg #[.int .i64 Y.k, .slice n7 Y.nx.length c7, .slice a7 Y.ac.length d7]) Y) := HA_back.out.stay hs8; clear HA_back; have HA_back : Hid (AR u8 (.agg #[.int .i64 Y.k, .slice n7 Y.nx.length c7, .slice a7 Y.ac.length d7]) Y) := HAn.out; clear HAn
  have hr8 := ha8.ar
  obtain ⟨n8, c8, a8, d8, rfl, _, _⟩ := ha8
  have HA_two : Hid (AR u8 (.agg #[.int .i64 Y.k, .slice n8 Y.nx.length c8, .slice a8 Y.ac.length d8]) Y) := hr8
  clear hb8 hs8 hr8
  clear cc0
  obtain ⟨Z3, hZ3⟩ : ∃ Z3, Z3 = u8.alloc (.cells #[.int .i64 Y.k, .slice n8 Y.nx.length c8, .slice a8 Y.ac.length d8] 25) := ⟨_, rfl⟩
  have HEZ3 : Hid (Z3 = u8.alloc (.cells #[.int .i64 Y.k, .slice n8 Y.nx.length c8, .slice a8 Y.ac.length d8] 25)) := hZ3
  have hs : Below u8.heap.size u8 Z3 := by rw [hZ3]; exact below_new _ _
  have HBn : Hid (Below w.heap.size w Z3) := go_on HB.out hs; clear HB; have HB : Hid (Below w.heap.size w Z3) := HBn.out; clear HBn
  have HRn : Hid (RowAt Z3 w.heap.size #[.int .i64 A.k, .slice an A.nx.length cn, .slice aa A.ac.length ca]) := HR_a.out.stay hs; clear HR_a; have HR_a : Hid (RowAt Z3 w.heap.size #[.int .i64 A.k, .slice an A.nx.length cn, .slice aa A.ac.length ca]) := HRn.out; clear HRn
  have HRn : Hid (RowAt Z3 u1.heap.size #[.int .i64 P.k, .slice n1 P.nx.length c1, .slice a1 P.ac.length d1]) := HR_p.out.stay hs; clear HR_p; have HR_p : Hid (RowAt Z3 u1.heap.size #[.int .i64 P.k, .slice n1 P.nx.length c1, .slice a1 P.ac.length d1]) := HRn.out; clear HRn
  have HRn : Hid (RowAt Z3 u2.heap.size #[.int .i64 P.k, .slice n2 P.nx.length c2, .slice a2 P.ac.length d2]) := HR_q.out.stay hs; clear HR_q; have HR_q : Hid (RowAt Z3 u2.heap.size #[.int .i64 P.k, .slice n2 P.nx.length c2, .slice a2 P.ac.length d2]) := HRn.out; clear HRn
  have HRn : Hid (RowAt Z3 u3.heap.size #[.int .i64 R.k, .slice n3 R.nx.length c3, .slice a3 R.ac.length d3]) := HR_r.out.stay hs; clear HR_r; have HR_r : Hid (RowAt Z3 u3.heap.size #[.int .i64 R.k, .slice n3 R.nx.length c3, .slice a3 R.ac.length d3]) := HRn.out; clear HRn
  have HRn : Hid (RowAt Z3 u4.heap.size #[.int .i64 R.k, .slice n4 R.nx.length c4, .slice a4 R.ac.length d4]) := HR_s.out.stay hs; clear HR_s; have HR_s : Hid (RowAt Z3 u4.heap.size #[.int .i64 R.k, .slice n4 R.nx.length c4, .slice a4 R.ac.length d4]) := HRn.out; clear HRn
  have HRn : Hid (RowAt Z3 u5.heap.size #[.int .i64 X.k, .slice n5 X.nx.length c5, .slice a5 X.ac.length d5]) := HR_both.out.stay hs; clear HR_both; have HR_both : Hid (RowAt Z3 u5.heap.size #[.int .i64 X.k, .slice n5 X.nx.length c5, .slice a5 X.ac.length d5]) := HRn.out; clear HRn
  have HRn : Hid (RowAt Z3 u6.heap.size #[.int .i64 X.k, .slice n6 X.nx.length c6, .slice a6 X.ac.length d6]) := HR_one.out.stay hs; clear HR_one; have HR_one : Hid (RowAt Z3 u6.heap.size #[.int .i64 X.k, .slice n6 X.nx.length c6, .slice a6 X.ac.length d6]) := HRn.out; clear HRn
  have HRn : Hid (RowAt Z3 u7.heap.size #[.int .i64 Y.k, .slice n7 Y.nx.length c7, .slice a7 Y.ac.length d7]) := HR_back.out.stay hs; clear HR_back; have HR_back : Hid (RowAt Z3 u7.heap.size #[.int .i64 Y.k, .slice n7 Y.nx.length c7, .slice a7 Y.ac.length d7]) := HRn.out; clear HRn
  have HR_two : Hid (RowAt Z3 u8.heap.size #[.int .i64 Y.k, .slice n8 Y.nx.length c8, .slice a8 Y.ac.length d8]) := by show RowAt _ _ _; rw [hZ3]; exact RowAt.last _ _ _
  have HAn : Hid (AR Z3 (.agg #[.int .i64 A.k, .slice an A.nx.length cn, .slice aa A.ac.length ca]) A) := HA_a.out.stay hs; clear HA_a; have HA_a : Hid (AR Z3 (.agg #[.int .i64 A.k, .slice an A.nx.length cn, .slice aa A.ac.length ca]) A) := HAn.out; clear HAn
  have HAn : Hid (AR Z3 (.agg #[.int .i64 P.k, .slice n1 P.nx.length c1, .slice a1 P.ac.length d1]) P) := HA_p.out.stay hs; clear HA_p; have HA_p : Hid (AR Z3 (.agg #[.int .i64 P.k, .slice n1 P.nx.length c1, .slice a1 P.ac.length d1]) P) := HAn.out; clear HAn
  have HAn : Hid (AR Z3 (.agg #[.int .i64 P.k, .slice n2 P.nx.length c2, .slice a2 P.ac.length d2]) P) := HA_q.out.stay hs; clear HA_q; have HA_q : Hid (AR Z3 (.agg #[.int .i64 P.k, .slice n2 P.nx.length c2, .slice a2 P.ac.length d2]) P) := HAn.out; clear HAn
  have HAn : Hid (AR Z3 (.agg #[.int .i64 R.k, .slice n3 R.nx.length c3, .slice a3 R.ac.length d3]) R) := HA_r.out.stay hs; clear HA_r; have HA_r : Hid (AR Z3 (.agg #[.int .i64 R.k, .slice n3 R.nx.length c3, .slice a3 R.ac.length d3]) R) := HAn.out; clear HAn
  have HAn : Hid (AR Z3 (.agg #[.int .i64 R.k, .slice n4 R.nx.length c4, .slice a4 R.ac.length d4]) R) := HA_s.out.stay hs; clear HA_s; have HA_s : Hid (AR Z3 (.agg #[.int .i64 R.k, .slice n4 R.nx.length c4, .slice a4 R.ac.length d4]) R) := HAn.out; clear HAn
  have HAn : Hid (AR Z3 (.agg #[.int .i64 X.k, .slice n5 X.nx.length c5, .slice a5 X.ac.length d5]) X) := HA_both.out.stay hs; clear HA_both; have HA_both : Hid (AR Z3 (.agg #[.int .i64 X.k, .slice n5 X.nx.length c5, .slice a5 X.ac.length d5]) X) := HAn.out; clear HAn
  have HAn : Hid (AR Z3 (.agg #[.int .i64 X.k, .slice n6 X.nx.length c6, .slice a6 X.ac.length d6]) X) := HA_one.out.stay hs; clear HA_one; have HA_one : Hid (AR Z3 (.agg #[.int .i64 X.k, .slice n6 X.nx.length c6, .slice a6 X.ac.length d6]) X) := HAn.out; clear HAn
  have HAn : Hid (AR Z3 (.agg #[.int .i64 Y.k, .slice n7 Y.nx.length c7, .slice a7 Y.ac.length d7]) Y) := HA_back.out.stay hs; clear HA_back; have HA_back : Hid (AR Z3 (.agg #[.int .i64 Y.k, .slice n7 Y.nx.length c7, .slice a7 Y.ac.length d7]) Y) := HAn.out; clear HAn
  have HAn : Hid (AR Z3 (.agg #[.int .i64 Y.k, .slice n8 Y.nx.length c8, .slice a8 Y.ac.length d8]) Y) := HA_two.out.stay hs; clear HA_two; have HA_two : Hid (AR Z3 (.agg #[.int .i64 Y.k, .slice n8 Y.nx.length c8, .slice a8 Y.ac.length d8]) Y) := HAn.out; clear HAn
  clear hs hZ3
  have HS3 : Hid (∀ y, Below Z3.heap.size Z3 y → Calls Try.prog 10 #[.agg #[.int .i64 X.k, .slice n5 X.nx.length c5, .slice a5 X.ac.length d5], .agg #[.int .i64 X.k, .slice n6 X.nx.length c6, .slice a6 X.ac.length d6]] y fun e w' => e = .returned (.bool true) ∧ Below y.heap.size y w') := fun y hy => sameAuto_any _ _ X y (HA_both.out.stay hy) (HA_one.out.stay hy) HLX.out.1 HLX.out.2
  have HS4 : Hid (∀ y, Below Z3.heap.size Z3 y → Calls Try.prog 10 #[.agg #[.int .i64 Y.k, .slice n7 Y.nx.length c7, .slice a7 Y.ac.length d7], .agg #[.int .i64 Y.k, .slice n8 Y.nx.length c8, .slice a8 Y.ac.length d8]] y fun e w' => e = .returned (.bool true) ∧ Below y.heap.size y w') := fun y hy => sameAuto_any _ _ Y y (HA_back.out.stay hy) (HA_two.out.stay hy) HLY.out.1 HLY.out.2
  go_wp2_with fail
  rw [← HEZ3.out]
  have rz1 := HR_both.out.cell; have rz2 := HR_one.out.cell
  go_wp2_with (first
    | (go_at_call 11; refine (num8_any _ _).mono ?_; rintro e yn ⟨rfl, hyn⟩; subst yn)
    | (go_at_call 10; refine (HS3.out _ (Below.refl _ _)).mono ?_; rintro e z1 ⟨rfl, hz1⟩; have HZ1 : Hid (Below Z3.heap.size Z3 z1) := hz1; have r1 := (HR_back.out.stay hz1).cell; have r2 := (HR_two.out.stay hz1).cell; clear hz1 HS3 rz1 rz2)
    | (go_at_call 10; refine (HS4.out _ HZ1.out).mono ?_; rintro e z2 ⟨rfl, hz2⟩; have HZ2 : Hid (Below Z3.heap.size Z3 z2) := go_on HZ1.out hz2; clear hz2 HS4 HZ1 r1 r2)
    | (go_at_call 12; refine (live8_any _).mono ?_; rintro e y6 ⟨rfl, hy6⟩; have HY6 : Hid (Below w.heap.size w y6) := go_on (go_on HB.out HZ2.out) hy6; clear hy6))
  go_ret
  exact ⟨rfl, HY6.out⟩

/-! ### The row's step -/
theorem own : ownKnob Try.prog.godebug = none := by kernel_rfl
set_option maxRecDepth 100000 in
theorem lifted (os : Os) (started : os.Started) (H : Type) (enc : TypeId × Value → H) :
    ReturnsInHanded {} Try.checked os 3 .any (Rows.autoQuotientsSpec.pre6 enc Try.prog Try.f3 Rows.autoQuotientsRow.domain false) (Rows.autoQuotientsSpec.post enc Try.prog Try.f3 false true false false) := by
  refine returnsInHanded_of_change_sized (C := Try.checked) own started (by kernel_rfl) Try.func3
    (ChangeSpec.witness6 (enc := enc) (C := Try.checked) false ⟨#[], #[.agg #[.int .i64 0, .slice none 0 0, .slice none 0 0], .string ByteArray.empty, .string ByteArray.empty], []⟩ 8 (by kernel_rfl) (by kernel_rfl) (by kernel_rfl) (by kernel_rfl)) ?_
  intro W base args ds gs before hval0 hW hcnd hsz0 _
  have hval : ∀ (j : Nat) t v, Try.f3.params[j]? = some t → args[j]? = some v → Value.okWide Try.prog W .any base t v := hval0
  clear hval0
  have hsz : (DataW.weightsEach Try.prog (Try.f3.params.toList ++ Rows.autoQuotientsSpec.plain.varTypes Try.prog) (ds ++ gs)).all (· ≤ reachBytes) = true := hsz0
  clear hsz0
  have hW' := hW
  obtain ⟨p, q, hA0, hV, rfl, hfz, hnd⟩ := hW
  have hA : DataW.TrodAll enc Try.prog W 0 (fun _ => true) true Try.f3.params.toList args.toList ds p := hA0
  rw [Try.params3] at hA hval hsz
  obtain ⟨v0, vs0, d0, ds0, p0, q0, hargs, rfl, rfl, h0, r0⟩ := trodAll_cons hA
  obtain ⟨v1, vs1, d1, ds1, p1, q1, rfl, rfl, rfl, h1, r1⟩ := trodAll_cons r0
  obtain ⟨v2, vs2, d2, ds2, p2, q2, rfl, rfl, rfl, h2, r2⟩ := trodAll_cons r1
  obtain ⟨rfl, rfl, rfl⟩ := trodAll_nil r2
  obtain rfl : args = #[v0, v1, v2] := by cases args; simp_all
  obtain ⟨rfl, rfl⟩ := trodVars_none hV
  obtain ⟨a0, x0, n0, w0, dk0, dn0, da0, e0, y0, z0⟩ := open_auto (hval 0 25 v0 rfl rfl) h0
  have b0 := auto_bounds hsz (j := 0) rfl (by rw [e0]; rfl) y0 z0
  have g0 : ∀ x ∈ p0, x.block < W.heap.size := fun x hx => hW'.lt x (by simp [hx])
  obtain ⟨a1, rfl, rfl, rfl, w1⟩ := open_string Try.underlying9 (hval 1 9 v1 rfl rfl) h1
  have u1 : a1.size ≤ 140737488355327 := by
    have := sized_string hsz (j := 1) (t := 9) rfl rfl
    have e : a1.data.toList.length = a1.size := rfl
    simp only [reachBytes] at this
    omega
  obtain ⟨a2, rfl, rfl, rfl, w2⟩ := open_string Try.underlying9 (hval 2 9 v2 rfl rfl) h2
  have u2 : a2.size ≤ 140737488355327 := by
    have := sized_string hsz (j := 2) (t := 9) rfl rfl
    have e : a2.data.toList.length = a2.size := rfl
    simp only [reachBytes] at this
    omega
  clear hA0
  refine (walk v0 a0 a1 a2 W x0 n0 b0.1 b0.2 u1 u2).mono fun e W' ⟨he, bel⟩ => ?_
  subst he
  exact ⟨_, rfl, _, _, _, [], _, [], hW', trodAll_mk1 (shut_bool Try.underlying4 _), (trodAll_cons_mk (Below.trod Try.laidOut (by kernel_rfl) (of_decide_eq_true (by kernel_rfl)) h0 bel g0) (trodAll_cons_mk (shut_string Try.underlying9 w1) (trodAll_cons_mk (shut_string Try.underlying9 w2) trodAll_mk0))), rfl, bel.frame _, fun h => by cases h⟩

theorem over : Rows.autoQuotientsRow.holds Try.pinned (OpenSpec.ofChange Rows.autoQuotientsSpec) :=
  OpenClaim.holds_of_wide 3 Try.f3 rfl rfl rfl rfl rfl rfl rfl ⟨rfl, rfl, rfl, rfl, rfl⟩ rfl rfl rfl rfl rfl (by kernel_rfl) Try.func3 (by kernel_rfl)
    (of_decide_eq_true (by kernel_rfl)) (by unfold Func.isWrapper; first | (rw [if_pos (by decide +kernel)]; kernel_rfl) | (rw [if_neg (by decide +kernel)]; exact ⟨rfl, rfl⟩))
    (fun os started H enc _ => lifted os started H enc)

end Go.Proofs.Ytbfoamidnekoaab.autoQuotients
namespace Go.Proofs.Ytbfoamidnekoaab
/-- The given statement. -/
theorem autoQuotients_holds : Rows.AutoQuotientsSaid := autoQuotients.over
end Go.Proofs.Ytbfoamidnekoaab
