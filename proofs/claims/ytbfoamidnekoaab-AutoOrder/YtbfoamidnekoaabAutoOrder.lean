/- Proved: eggboxlaw08.AutoOrder answers true at all automata's data a and b (P8.14, P8.15): what Reach makes is as Reach makes it again; Not of Not is Reach; Not of Both is Either of both Nots, with the same error; what Both makes is in order; its arguments read behind the call as before. -/
import Derived.Test.YtbfoamidnekoaabJu
import Derived.Test.YtbfoamidnekoaabQv
import Derived.Test.YtbfoamidnekoaabQt
import Derived.Deep.RegionHeld3
namespace Go.Proofs.Ytbfoamidnekoaab.autoOrder
open Go Go.ChangeShapes Go.WideShapes Go.ChangeAt Go.RowKit Go.Lib
open Go.ChangeMaps (open_string shut_string)
set_option linter.unusedVariables false
attribute [-instance] instBEqProd

theorem good_len {A : Aut} (G : Good A) : A.nx.length ≤ 9223372036854775806 ∧ A.ac.length ≤ 9223372036854775806 := by
  have h1 := G.len
  have h2 := G.n2
  have h3 : (A.ac.length : Int) * A.k ≤ 4096 * 8 := Int.mul_le_mul (by omega) G.k8 (by have := G.k1; omega) (by omega)
  omega
theorem facts {A B : Aut} (G1 : Good A) (G2 : Good B) (hk : A.k = B.k) : ∃ R N M X Y : Aut, ∃ E : Int, (E = 0 ∨ E = 81) ∧ (R.nx.length ≤ 9223372036854775806 ∧ R.ac.length ≤ 9223372036854775806) ∧ (E = 0 → (X.nx.length ≤ 9223372036854775806 ∧ X.ac.length ≤ 9223372036854775806) ∧ Y.nx.length ≤ 9223372036854775806 ∧ Y.ac.length ≤ 9223372036854775806) ∧
    (∀ y v, AR y v A → Calls Try.prog 14 #[v] y (FQ R 0 y)) ∧
    (∀ y v, AR y v R → Calls Try.prog 14 #[v] y (FQ R 0 y)) ∧
    (∀ y v, AR y v A → Calls Try.prog 15 #[v] y (FQ N 0 y)) ∧
    (∀ y v, AR y v N → Calls Try.prog 15 #[v] y (FQ R 0 y)) ∧
    (∀ y v, AR y v B → Calls Try.prog 15 #[v] y (FQ M 0 y)) ∧
    (∀ y v v', AR y v A → AR y v' B → Calls Try.prog 16 #[v, v'] y (FQ X E y)) ∧
    (∀ y v v', AR y v N → AR y v' M → Calls Try.prog 17 #[v, v'] y (FQ Y E y)) ∧
    (E = 0 → ∀ y v, AR y v X → Calls Try.prog 15 #[v] y (FQ Y 0 y)) ∧
    (E = 0 → ∀ y v, AR y v X → Calls Try.prog 14 #[v] y (FQ X 0 y)) := by
  obtain ⟨r1, r2, r3, r4⟩ := good_re G1
  obtain ⟨s1, s2, s3, s4⟩ := good_re G2
  obtain ⟨m1, m2, m3⟩ := demorgan G1 G2 hk
  have lA := good_len G1
  have lB := good_len G2
  have lR := good_len r3
  have lN := good_len r4
  have lM := good_len s4
  refine ⟨reA A, notA A, notA B, prA (fun x z => x && z) A B, prA (fun x z => x || z) (notA A) (notA B), prE A B, m1, lR, fun h0 => ?_, fun y v h => ?_, fun y v h => ?_, fun y v h => ?_, fun y v h => ?_, fun y v h => ?_, fun y v v' h h' => ?_, fun y v v' h h' => ?_, fun h0 y v h => ?_, fun h0 y v h => ?_⟩
  · obtain ⟨q1, q2, q3⟩ := m3 h0
    have gX := good_len q3
    have gY := good_len (good_re q3).2.2.2
    rw [q1] at gY
    exact ⟨gX, gY⟩
  · have := reach_any v A y h lA.1 lA.2
    rwa [chkA_ok G1] at this
  · have := reach_any v (reA A) y h lR.1 lR.2
    rwa [chkA_ok r3, r1] at this
  · have := not_any v A y h lA.1 lA.2
    rwa [chkA_ok G1] at this
  · have := not_any v (notA A) y h lN.1 lN.2
    rwa [chkA_ok r4, r2] at this
  · have := not_any v B y h lB.1 lB.2
    rwa [chkA_ok G2] at this
  · exact both_any v v' A B y h h' lA.1 lA.2 lB.1 lB.2
  · have := either_any v v' (notA A) (notA B) y h h' lN.1 lN.2 lM.1 lM.2
    rwa [m2] at this
  · obtain ⟨q1, q2, q3⟩ := m3 h0
    have l := good_len q3
    have := not_any v _ y h l.1 l.2
    rwa [chkA_ok q3, q1] at this
  · obtain ⟨q1, q2, q3⟩ := m3 h0
    have l := good_len q3
    have := reach_any v _ y h l.1 l.2
    rwa [chkA_ok q3, q2] at this

set_option maxHeartbeats 16000000 in
set_option maxRecDepth 100000 in
theorem walk (va : Value) (A : Aut) (vb : Value) (B : Aut) (w : World) (ha : AR w va A) (hna : NilOk va) (hma : (A.nx.length + 2) * 8 ≤ 140737488355328) (hma2 : A.ac.length ≤ 140737488355328) (hb : AR w vb B) (hnb : NilOk vb) (hmb : (B.nx.length + 2) * 8 ≤ 140737488355328) (hmb2 : B.ac.length ≤ 140737488355328) :
    Calls Try.prog 4 #[va, vb] w fun e w' => e = .returned (.bool true) ∧ Below w.heap.size w w' := by
  obtain ⟨an, cn, aa, ca, ea, _, _⟩ := ha.is
  obtain ⟨bn, dn, ba, da, eb, _, _⟩ := hb.is
  have hA1 : A.nx.length ≤ 9223372036854775806 := by omega
  have hA2 : A.ac.length ≤ 9223372036854775806 := by omega
  have hB1 : B.nx.length ≤ 9223372036854775806 := by omega
  have hB2 : B.ac.length ≤ 9223372036854775806 := by omega
  have HT : Hid (∀ y, Below w.heap.size w y → Calls Try.prog 13 #[va, vb] y fun e w' => e = .returned (.int .i64 (twE A B)) ∧ Below y.heap.size y w') := fun y hy => two_any va vb A B y (ha.stay hy) (hb.stay hy) hA1 hA2 hB1 hB2
  clear hna hnb hma hma2 hmb hmb2 hA1 hA2 hB1 hB2
  subst ea eb
  obtain ⟨V, hV⟩ : ∃ V, V = ((w.alloc (.cells #[.int .i64 A.k, .slice an A.nx.length cn, .slice aa A.ac.length ca] 25)).alloc (.cells #[.int .i64 B.k, .slice bn B.nx.length dn, .slice ba B.ac.length da] 25)) := ⟨_, rfl⟩
  have HVE : Hid (V = ((w.alloc (.cells #[.int .i64 A.k, .slice an A.nx.length cn, .slice aa A.ac.length ca] 25)).alloc (.cells #[.int .i64 B.k, .slice bn B.nx.length dn, .slice ba B.ac.length da] 25))) := hV
  have HBV : Hid (Below w.heap.size w V) := by show Below _ _ _; rw [hV]; exact go_on (below_new _ _) (below_new _ _)
  have HRA : Hid (RowAt V w.heap.size #[.int .i64 A.k, .slice an A.nx.length cn, .slice aa A.ac.length ca]) := by show RowAt _ _ _; rw [hV]; exact (RowAt.last _ _ _).alloc _
  have HRB : Hid (RowAt V (w.heap.size + 1) #[.int .i64 B.k, .slice bn B.nx.length dn, .slice ba B.ac.length da]) := by
    show RowAt _ _ _
    rw [hV]
    have := RowAt.last (w.alloc (.cells #[.int .i64 A.k, .slice an A.nx.length cn, .slice aa A.ac.length ca] 25)) #[.int .i64 B.k, .slice bn B.nx.length dn, .slice ba B.ac.length da] 25
    simpa using this
  clear hV
  have HAA : Hid (AR V (.agg #[.int .i64 A.k, .slice an A.nx.length cn, .slice aa A.ac.length ca]) A) := ha.stay HBV.out
  have HAB : Hid (AR V (.agg #[.int .i64 B.k, .slice bn B.nx.length dn, .slice ba B.ac.length da]) B) := hb.stay HBV.out
  clear ha hb
  go_enter Try.func4, Try.ntmps4
  go_wp2_with fail
  rw [← HVE.out]
  refine (HT.out _ HBV.out).mono ?_
  rintro e u0 ⟨rfl, hb0⟩
  have HB : Hid (Below w.heap.size w u0) := go_on HBV.out hb0
  have HR_a : Hid (RowAt u0 w.heap.size #[.int .i64 A.k, .slice an A.nx.length cn, .slice aa A.ac.length ca]) := HRA.out.stay hb0
  have HR_b : Hid (RowAt u0 (w.heap.size + 1) #[.int .i64 B.k, .slice bn B.nx.length dn, .slice ba B.ac.length da]) := HRB.out.stay hb0
  have HA_a : Hid (AR u0 (.agg #[.int .i64 A.k, .slice an A.nx.length cn, .slice aa A.ac.length ca]) A) := HAA.out.stay hb0
  have HA_b : Hid (AR u0 (.agg #[.int .i64 B.k, .slice bn B.nx.length dn, .slice ba B.ac.length da]) B) := HAB.out.stay hb0
  clear hb0 HT HRA HRB HAA HAB HBV HVE
  by_cases h0 : ¬ twE A B = 0
  · clear HR_a HR_b HA_a HA_b
    go_wp2_with fail
    refine (live8_any _).mono ?_
    rintro e y6 ⟨rfl, hy6⟩
    have HY6 : Hid (Below w.heap.size w y6) := go_on HB.out hy6
    clear hy6
    go_wp2_with fail
    go_ret
    exact ⟨rfl, HY6.out⟩
  have h0' : twE A B = 0 := Classical.byContradiction h0
  clear h0
  obtain ⟨G1, G2, hk⟩ := twE_zero h0'
  obtain ⟨R, N, M, X, Y, E, hE, lR, lXY, q1, q2, q3, q4, q5, q6, q7, q8, q9⟩ := facts G1 G2 hk
  have HE : Hid (E = 0 ∨ E = 81) := hE
  have HLR : Hid (R.nx.length ≤ 9223372036854775806 ∧ R.ac.length ≤ 9223372036854775806) := lR
  have HLX : Hid (E = 0 → (X.nx.length ≤ 9223372036854775806 ∧ X.ac.length ≤ 9223372036854775806) ∧ Y.nx.length ≤ 9223372036854775806 ∧ Y.ac.length ≤ 9223372036854775806) := lXY
  have C1 : Hid (∀ y v, AR y v A → Calls Try.prog 14 #[v] y (FQ R 0 y)) := q1
  have C2 : Hid (∀ y v, AR y v R → Calls Try.prog 14 #[v] y (FQ R 0 y)) := q2
  have C3 : Hid (∀ y v, AR y v A → Calls Try.prog 15 #[v] y (FQ N 0 y)) := q3
  have C4 : Hid (∀ y v, AR y v N → Calls Try.prog 15 #[v] y (FQ R 0 y)) := q4
  have C5 : Hid (∀ y v, AR y v B → Calls Try.prog 15 #[v] y (FQ M 0 y)) := q5
  have C6 : Hid (∀ y v v', AR y v A → AR y v' B → Calls Try.prog 16 #[v, v'] y (FQ X E y)) := q6
  have C7 : Hid (∀ y v v', AR y v N → AR y v' M → Calls Try.prog 17 #[v, v'] y (FQ Y E y)) := q7
  have C8 : Hid (E = 0 → ∀ y v, AR y v X → Calls Try.prog 15 #[v] y (FQ Y 0 y)) := q8
  have C9 : Hid (E = 0 → ∀ y v, AR y v X → Calls Try.prog 14 #[v] y (FQ X 0 y)) := q9
  rw [h0']
  clear hE lR lXY q1 q2 q3 q4 q5 q6 q7 q8 q9 h0' G1 G2 hk
  have cc0 : ∀ o, u0.cell? ⟨w.heap.size, o, none⟩ = (#[.int .i64 A.k, .slice an A.nx.length cn, .slice aa A.ac.length ca] : Array Value)[o]? := HR_a.out.cell
  go_wp2_with fail
  refine (C1.out _ _ HA_a.out).mono ?_
  rintro e u1 ⟨v1, rfl, ha1, hb1⟩
  have hs1 : Below u0.heap.size u0 u1 := hb1
  have HBn : Hid (Below w.heap.size w u1) := go_on HB.out hs1
  clear HB; have HB : Hid (Below w.heap.size w u1) := HBn.out; clear HBn
  have HRn : Hid (RowAt u1 w.heap.size #[.int .i64 A.k, .slice an A.nx.length cn, .slice aa A.ac.length ca]) := HR_a.out.stay hs1; clear HR_a; have HR_a : Hid (RowAt u1 w.heap.size #[.int .i64 A.k, .slice an A.nx.length cn, .slice aa A.ac.length ca]) := HRn.out; clear HRn
  have HRn : Hid (RowAt u1 (w.heap.size + 1) #[.int .i64 B.k, .slice bn B.nx.length dn, .slice ba B.ac.length da]) := HR_b.out.stay hs1; clear HR_b; have HR_b : Hid (RowAt u1 (w.heap.size + 1) #[.int .i64 B.k, .slice bn B.nx.length dn, .slice ba B.ac.length da]) := HRn.out; clear HRn
  have HAn : Hid (AR u1 (.agg #[.int .i64 A.k, .slice an A.nx.length cn, .slice aa A.ac.length ca]) A) := HA_a.out.stay hs1; clear HA_a; have HA_a : Hid (AR u1 (.agg #[.int .i64 A.k, .slice an A.nx.length cn, .slice aa A.ac.length ca]) A) := HAn.out; clear HAn
  have HAn : Hid (AR u1 (.agg #[.int .i64 B.k, .slice bn B.nx.length dn, .slice ba B.ac.length da]) B) := HA_b.out.stay hs1; clear HA_b; have HA_b : Hid (AR u1 (.agg #[.int .i64 B.k, .slice bn B.nx.length dn, .slice ba B.ac.length da]) B) := HAn.out; clear HAn
  have hr1 := ha1.ar
  obtain ⟨n1, c1, a1, d1, rfl, _, _⟩ := ha1
  have HA_r : Hid (AR u1 (.agg #[.int .i64 R.k, .slice n1 R.nx.length c1, .slice a1 R.ac.length d1]) R) := hr1
  clear hb1 hs1 hr1
  clear cc0
  go_wp2_with fail
  refine (C2.out _ _ (HA_r.out.stay (below_new _ _))).mono ?_
  rintro e u2 ⟨v2, rfl, ha2, hb2⟩
  have hs2 : Below u1.heap.size u1 u2 := go_on (below_new _ _) hb2
  have HBn : Hid (Below w.heap.size w u2) := go_on HB.out hs2
  clear HB; have HB : Hid (Below w.heap.size w u2) := HBn.out; clear HBn
  have HRn : Hid (RowAt u2 w.heap.size #[.int .i64 A.k, .slice an A.nx.length cn, .slice aa A.ac.length ca]) := HR_a.out.stay hs2; clear HR_a; have HR_a : Hid (RowAt u2 w.heap.size #[.int .i64 A.k, .slice an A.nx.length cn, .slice aa A.ac.length ca]) := HRn.out; clear HRn
  have HRn : Hid (RowAt u2 (w.heap.size + 1) #[.int .i64 B.k, .slice bn B.nx.length dn, .slice ba B.ac.length da]) := HR_b.out.stay hs2; clear HR_b; have HR_b : Hid (RowAt u2 (w.heap.size + 1) #[.int .i64 B.k, .slice bn B.nx.length dn, .slice ba B.ac.length da]) := HRn.out; clear HRn
  have HR_r : Hid (RowAt u2 u1.heap.size #[.int .i64 R.k, .slice n1 R.nx.length c1, .slice a1 R.ac.length d1]) := (RowAt.last _ _ _).stay hb2
  have HAn : Hid (AR u2 (.agg #[.int .i64 A.k, .slice an A.nx.length cn, .slice aa A.ac.length ca]) A) := HA_a.out.stay hs2; clear HA_a; have HA_a : Hid (AR u2 (.agg #[.int .i64 A.k, .slice an A.nx.length cn, .slice aa A.ac.length ca]) A) := HAn.out; clear HAn
  have HAn : Hid (AR u2 (.agg #[.int .i64 B.k, .slice bn B.nx.length dn, .slice ba B.ac.length da]) B) := HA_b.out.stay hs2; clear HA_b; have HA_b : Hid (AR u2 (.agg #[.int .i64 B.k, .slice bn B.nx.length dn, .slice ba B.ac.length da]) B) := HAn.out; clear HAn
  have HAn : Hid (AR u2 (.agg #[.int .i64 R.k, .slice n1 R.nx.length c1, .slice a1 R.ac.length d1]) R) := HA_r.out.stay hs2; clear HA_r; have HA_r : Hid (AR u2 (.agg #[.int .i64 R.k, .slice n1 R.nx.length c1, .slice a1 R.ac.length d1]) R) := HAn.out; clear HAn
  have hr2 := ha2.ar
  obtain ⟨n2, c2, a2, d2, rfl, _, _⟩ := ha2
  have HA_g : Hid (AR u2 (.agg #[.int .i64 R.k, .slice n2 R.nx.length c2, .slice a2 R.ac.length d2]) R) := hr2
  clear hb2 hs2 hr2
  have cc0 : ∀ O o, (u2.alloc O).cell? ⟨w.heap.size, o, none⟩ = (#[.int .i64 A.k, .slice an A.nx.length cn, .slice aa A.ac.length ca] : Array Value)[o]? := fun O => (HR_a.out.alloc O).cell
  go_wp2_with fail
  refine (C3.out _ _ (HA_a.out.stay (below_new _ _))).mono ?_
  rintro e u3 ⟨v3, rfl, ha3, hb3⟩
  have hs3 : Below u2.heap.size u2 u3 := go_on (below_new _ _) hb3
  have HBn : Hid (Below w.heap.size w u3) := go_on HB.out hs3
  clear HB; have HB : Hid (Below w.heap.size w u3) := HBn.out; clear HBn
  have HRn : Hid (RowAt u3 w.heap.size #[.int .i64 A.k, .slice an A.nx.length cn, .slice aa A.ac.length ca]) := HR_a.out.stay hs3; clear HR_a; have HR_a : Hid (RowAt u3 w.heap.size #[.int .i64 A.k, .slice an A.nx.length cn, .slice aa A.ac.length ca]) := HRn.out; clear HRn
  have HRn : Hid (RowAt u3 (w.heap.size + 1) #[.int .i64 B.k, .slice bn B.nx.length dn, .slice ba B.ac.length da]) := HR_b.out.stay hs3; clear HR_b; have HR_b : Hid (RowAt u3 (w.heap.size + 1) #[.int .i64 B.k, .slice bn B.nx.length dn, .slice ba B.ac.length da]) := HRn.out; clear HRn
  have HRn : Hid (RowAt u3 u1.heap.size #[.int .i64 R.k, .slice n1 R.nx.length c1, .slice a1 R.ac.length d1]) := HR_r.out.stay hs3; clear HR_r; have HR_r : Hid (RowAt u3 u1.heap.size #[.int .i64 R.k, .slice n1 R.nx.length c1, .slice a1 R.ac.length d1]) := HRn.out; clear HRn
  have HR_g : Hid (RowAt u3 u2.heap.size #[.int .i64 R.k, .slice n2 R.nx.length c2, .slice a2 R.ac.length d2]) := (RowAt.last _ _ _).stay hb3
  have HAn : Hid (AR u3 (.agg #[.int .i64 A.k, .slice an A.nx.length cn, .slice aa A.ac.length ca]) A) := HA_a.out.stay hs3; clear HA_a; have HA_a : Hid (AR u3 (.agg #[.int .i64 A.k, .slice an A.nx.length cn, .slice aa A.ac.length ca]) A) := HAn.out; clear HAn
  have HAn : Hid (AR u3 (.agg #[.int .i64 B.k, .slice bn B.nx.length dn, .slice ba B.ac.length da]) B) := HA_b.out.stay hs3; clear HA_b; have HA_b : Hid (AR u3 (.agg #[.int .i64 B.k, .slice bn B.nx.length dn, .slice ba B.ac.length da]) B) := HAn.out; clear HAn
  have HAn : Hid (AR u3 (.agg #[.int .i64 R.k, .slice n1 R.nx.length c1, .slice a1 R.ac.length d1]) R) := HA_r.out.stay hs3; clear HA_r; have HA_r : Hid (AR u3 (.agg #[.int .i64 R.k, .slice n1 R.nx.length c1, .slice a1 R.ac.length d1]) R) := HAn.out; clear HAn
  have HAn : Hid (AR u3 (.agg #[.int .i64 R.k, .slice n2 R.nx.length c2, .slice a2 R.ac.length d2]) R) := HA_g.out.stay hs3; clear HA_g; have HA_g : Hid (AR u3 (.agg #[.int .i64 R.k, .slice n2 R.nx.length c2, .slice a2 R.ac.length d2]) R) := HAn.out; clear HAn
  have hr3 := ha3.ar
  obtain ⟨n3, c3, a3, d3, rfl, _, _⟩ := ha3
  have HA_n : Hid (AR u3 (.agg #[.int .i64 N.k, .slice n3 N.nx.length c3, .slice a3 N.ac.length d3]) N) := hr3
  clear hb3 hs3 hr3
  clear cc0
  go_wp2_with fail
  refine (C4.out _ _ (HA_n.out.stay (below_new _ _))).mono ?_
  rintro e u4 ⟨v4, rfl, ha4, hb4⟩
  have hs4 : Below u3.heap.size u3 u4 := go_on (below_new _ _) hb4
  have HBn : Hid (Below w.heap.size w u4) := go_on HB.out hs4
  clear HB; have HB : Hid (Below w.heap.size w u4) := HBn.out; clear HBn
  have HRn : Hid (RowAt u4 w.heap.size #[.int .i64 A.k, .slice an A.nx.length cn, .slice aa A.ac.length ca]) := HR_a.out.stay hs4; clear HR_a; have HR_a : Hid (RowAt u4 w.heap.size #[.int .i64 A.k, .slice an A.nx.length cn, .slice aa A.ac.length ca]) := HRn.out; clear HRn
  have HRn : Hid (RowAt u4 (w.heap.size + 1) #[.int .i64 B.k, .slice bn B.nx.length dn, .slice ba B.ac.length da]) := HR_b.out.stay hs4; clear HR_b; have HR_b : Hid (RowAt u4 (w.heap.size + 1) #[.int .i64 B.k, .slice bn B.nx.length dn, .slice ba B.ac.length da]) := HRn.out; clear HRn
  have HRn : Hid (RowAt u4 u1.heap.size #[.int .i64 R.k, .slice n1 R.nx.length c1, .slice a1 R.ac.length d1]) := HR_r.out.stay hs4; clear HR_r; have HR_r : Hid (RowAt u4 u1.heap.size #[.int .i64 R.k, .slice n1 R.nx.length c1, .slice a1 R.ac.length d1]) := HRn.out; clear HRn
  have HRn : Hid (RowAt u4 u2.heap.size #[.int .i64 R.k, .slice n2 R.nx.length c2, .slice a2 R.ac.length d2]) := HR_g.out.stay hs4; clear HR_g; have HR_g : Hid (RowAt u4 u2.heap.size #[.int .i64 R.k, .slice n2 R.nx.length c2, .slice a2 R.ac.length d2]) := HRn.out; clear HRn
  have HR_n : Hid (RowAt u4 u3.heap.size #[.int .i64 N.k, .slice n3 N.nx.length c3, .slice a3 N.ac.length d3]) := (RowAt.last _ _ _).stay hb4
  have HAn : Hid (AR u4 (.agg #[.int .i64 A.k, .slice an A.nx.length cn, .slice aa A.ac.length ca]) A) := HA_a.out.stay hs4; clear HA_a; have HA_a : Hid (AR u4 (.agg #[.int .i64 A.k, .slice an A.nx.length cn, .slice aa A.ac.length ca]) A) := HAn.out; clear HAn
  have HAn : Hid (AR u4 (.agg #[.int .i64 B.k, .slice bn B.nx.length dn, .slice ba B.ac.length da]) B) := HA_b.out.stay hs4; clear HA_b; have HA_b : Hid (AR u4 (.agg #[.int .i64 B.k, .slice bn B.nx.length dn, .slice ba B.ac.length da]) B) := HAn.out; clear HAn
  have HAn : Hid (AR u4 (.agg #[.int .i64 R.k, .slice n1 R.nx.length c1, .slice a1 R.ac.length d1]) R) := HA_r.out.stay hs4; clear HA_r; have HA_r : Hid (AR u4 (.agg #[.int .i64 R.k, .slice n1 R.nx.length c1, .slice a1 R.ac.length d1]) R) := HAn.out; clear HAn
  have HAn : Hid (AR u4 (.agg #[.int .i64 R.k, .slice n2 R.nx.length c2, .slice a2 R.ac.length d2]) R) := HA_g.out.stay hs4; clear HA_g; have HA_g : Hid (AR u4 (.agg #[.int .i64 R.k, .slice n2 R.nx.length c2, .slice a2 R.ac.length d2]) R) := HAn.out; clear HAn
  have HAn : Hid (AR u4 (.agg #[.int .i64 N.k, .slice n3 N.nx.length c3, .slice a3 N.ac.length d3]) N) := HA_n.out.stay hs4; clear HA_n; have HA_n : Hid (AR u4 (.agg #[.int .i64 N.k, .slice n3 N.nx.length c3, .slice a3 N.ac.length d3]) N) := HAn.out; clear HAn
  have hr4 := ha4.ar
  obtain ⟨n4, c4, a4, d4, rfl, _, _⟩ := ha4
  have HA_m : Hid (AR u4 (.agg #[.int .i64 R.k, .slice n4 R.nx.length c4, .slice a4 R.ac.length d4]) R) := hr4
  clear hb4 hs4 hr4
  obtain ⟨Z1, hZ1⟩ : ∃ Z1, Z1 = u4.alloc (.cells #[.int .i64 R.k, .slice n4 R.nx.length c4, .slice a4 R.ac.length d4] 25) := ⟨_, rfl⟩
  have HEZ1 : Hid (Z1 = u4.alloc (.cells #[.int .i64 R.k, .slice n4 R.nx.length c4, .slice a4 R.ac.length d4] 25)) := hZ1
  have hs : Below u4.heap.size u4 Z1 := by rw [hZ1]; exact below_new _ _
  have HBn : Hid (Below w.heap.size w Z1) := go_on HB.out hs; clear HB; have HB : Hid (Below w.heap.size w Z1) := HBn.out; clear HBn
  have HRn : Hid (RowAt Z1 w.heap.size #[.int .i64 A.k, .slice an A.nx.length cn, .slice aa A.ac.length ca]) := HR_a.out.stay hs; clear HR_a; have HR_a : Hid (RowAt Z1 w.heap.size #[.int .i64 A.k, .slice an A.nx.length cn, .slice aa A.ac.length ca]) := HRn.out; clear HRn
  have HRn : Hid (RowAt Z1 (w.heap.size + 1) #[.int .i64 B.k, .slice bn B.nx.length dn, .slice ba B.ac.length da]) := HR_b.out.stay hs; clear HR_b; have HR_b : Hid (RowAt Z1 (w.heap.size + 1) #[.int .i64 B.k, .slice bn B.nx.length dn, .slice ba B.ac.length da]) := HRn.out; clear HRn
  have HRn : Hid (RowAt Z1 u1.heap.size #[.int .i64 R.k, .slice n1 R.nx.length c1, .slice a1 R.ac.length d1]) := HR_r.out.stay hs; clear HR_r; have HR_r : Hid (RowAt Z1 u1.heap.size #[.int .i64 R.k, .slice n1 R.nx.length c1, .slice a1 R.ac.length d1]) := HRn.out; clear HRn
  have HRn : Hid (RowAt Z1 u2.heap.size #[.int .i64 R.k, .slice n2 R.nx.length c2, .slice a2 R.ac.length d2]) := HR_g.out.stay hs; clear HR_g; have HR_g : Hid (RowAt Z1 u2.heap.size #[.int .i64 R.k, .slice n2 R.nx.length c2, .slice a2 R.ac.length d2]) := HRn.out; clear HRn
  have HRn : Hid (RowAt Z1 u3.heap.size #[.int .i64 N.k, .slice n3 N.nx.length c3, .slice a3 N.ac.length d3]) := HR_n.out.stay hs; clear HR_n; have HR_n : Hid (RowAt Z1 u3.heap.size #[.int .i64 N.k, .slice n3 N.nx.length c3, .slice a3 N.ac.length d3]) := HRn.out; clear HRn
  have HR_m : Hid (RowAt Z1 u4.heap.size #[.int .i64 R.k, .slice n4 R.nx.length c4, .slice a4 R.ac.length d4]) := by show RowAt _ _ _; rw [hZ1]; exact RowAt.last _ _ _
  have HAn : Hid (AR Z1 (.agg #[.int .i64 A.k, .slice an A.nx.length cn, .slice aa A.ac.length ca]) A) := HA_a.out.stay hs; clear HA_a; have HA_a : Hid (AR Z1 (.agg #[.int .i64 A.k, .slice an A.nx.length cn, .slice aa A.ac.length ca]) A) := HAn.out; clear HAn
  have HAn : Hid (AR Z1 (.agg #[.int .i64 B.k, .slice bn B.nx.length dn, .slice ba B.ac.length da]) B) := HA_b.out.stay hs; clear HA_b; have HA_b : Hid (AR Z1 (.agg #[.int .i64 B.k, .slice bn B.nx.length dn, .slice ba B.ac.length da]) B) := HAn.out; clear HAn
  have HAn : Hid (AR Z1 (.agg #[.int .i64 R.k, .slice n1 R.nx.length c1, .slice a1 R.ac.length d1]) R) := HA_r.out.stay hs; clear HA_r; have HA_r : Hid (AR Z1 (.agg #[.int .i64 R.k, .slice n1 R.nx.length c1, .slice a1 R.ac.length d1]) R) := HAn.out; clear HAn
  have HAn : Hid (AR Z1 (.agg #[.int .i64 R.k, .slice n2 R.nx.length c2, .slice a2 R.ac.length d2]) R) := HA_g.out.stay hs; clear HA_g; have HA_g : Hid (AR Z1 (.agg #[.int .i64 R.k, .slice n2 R.nx.length c2, .slice a2 R.ac.length d2]) R) := HAn.out; clear HAn
  have HAn : Hid (AR Z1 (.agg #[.int .i64 N.k, .slice n3 N.nx.length c3, .slice a3 N.ac.length d3]) N) := HA_n.out.stay hs; clear HA_n; have HA_n : Hid (AR Z1 (.agg #[.int .i64 N.k, .slice n3 N.nx.length c3, .slice a3 N.ac.length d3]) N) := HAn.out; clear HAn
  have HAn : Hid (AR Z1 (.agg #[.int .i64 R.k, .slice n4 R.nx.length c4, .slice a4 R.ac.length d4]) R) := HA_m.out.stay hs; clear HA_m; have HA_m : Hid (AR Z1 (.agg #[.int .i64 R.k, .slice n4 R.nx.length c4, .slice a4 R.ac.length d4]) R) := HAn.out; clear HAn
  clear hs hZ1
  have HS1 : Hid (∀ y, Below Z1.heap.size Z1 y → Calls Try.prog 10 #[.agg #[.int .i64 R.k, .slice n1 R.nx.length c1, .slice a1 R.ac.length d1], .agg #[.int .i64 R.k, .slice n2 R.nx.length c2, .slice a2 R.ac.length d2]] y fun e w' => e = .returned (.bool true) ∧ Below y.heap.size y w') := fun y hy => sameAuto_any _ _ R y (HA_r.out.stay hy) (HA_g.out.stay hy) HLR.out.1 HLR.out.2
  have HS2 : Hid (∀ y, Below Z1.heap.size Z1 y → Calls Try.prog 10 #[.agg #[.int .i64 R.k, .slice n4 R.nx.length c4, .slice a4 R.ac.length d4], .agg #[.int .i64 R.k, .slice n1 R.nx.length c1, .slice a1 R.ac.length d1]] y fun e w' => e = .returned (.bool true) ∧ Below y.heap.size y w') := fun y hy => sameAuto_any _ _ R y (HA_m.out.stay hy) (HA_r.out.stay hy) HLR.out.1 HLR.out.2
  go_wp2_with fail
  rw [← HEZ1.out]
  have rz1 := HR_r.out.cell; have rz2 := HR_g.out.cell
  go_wp2_with (first
    | (go_at_call 11; refine (num8_any _ _).mono ?_; rintro e yn ⟨rfl, hyn⟩; subst yn)
    | (go_at_call 10; refine (HS1.out _ (Below.refl _ _)).mono ?_; rintro e y1 ⟨rfl, hy1⟩; have HY1 : Hid (Below Z1.heap.size Z1 y1) := hy1; have r1 := (HR_m.out.stay hy1).cell; have r2 := (HR_r.out.stay hy1).cell; clear hy1 HS1 rz1 rz2)
    | (go_at_call 10; refine (HS2.out _ HY1.out).mono ?_; rintro e y2 ⟨rfl, hy2⟩; have HY2 : Hid (Below Z1.heap.size Z1 y2) := go_on HY1.out hy2; have r3 := (HR_b.out.stay HY2.out).cell; clear hy2 HS2 HY1 r1 r2)
    | fail)
  have HRn : Hid (RowAt y2 w.heap.size #[.int .i64 A.k, .slice an A.nx.length cn, .slice aa A.ac.length ca]) := HR_a.out.stay HY2.out; clear HR_a; have HR_a : Hid (RowAt y2 w.heap.size #[.int .i64 A.k, .slice an A.nx.length cn, .slice aa A.ac.length ca]) := HRn.out; clear HRn
  have HRn : Hid (RowAt y2 (w.heap.size + 1) #[.int .i64 B.k, .slice bn B.nx.length dn, .slice ba B.ac.length da]) := HR_b.out.stay HY2.out; clear HR_b; have HR_b : Hid (RowAt y2 (w.heap.size + 1) #[.int .i64 B.k, .slice bn B.nx.length dn, .slice ba B.ac.length da]) := HRn.out; clear HRn
  have HRn : Hid (RowAt y2 u1.heap.size #[.int .i64 R.k, .slice n1 R.nx.length c1, .slice a1 R.ac.length d1]) := HR_r.out.stay HY2.out; clear HR_r; have HR_r : Hid (RowAt y2 u1.heap.size #[.int .i64 R.k, .slice n1 R.nx.length c1, .slice a1 R.ac.length d1]) := HRn.out; clear HRn
  have HRn : Hid (RowAt y2 u2.heap.size #[.int .i64 R.k, .slice n2 R.nx.length c2, .slice a2 R.ac.length d2]) := HR_g.out.stay HY2.out; clear HR_g; have HR_g : Hid (RowAt y2 u2.heap.size #[.int .i64 R.k, .slice n2 R.nx.length c2, .slice a2 R.ac.length d2]) := HRn.out; clear HRn
  have HRn : Hid (RowAt y2 u3.heap.size #[.int .i64 N.k, .slice n3 N.nx.length c3, .slice a3 N.ac.length d3]) := HR_n.out.stay HY2.out; clear HR_n; have HR_n : Hid (RowAt y2 u3.heap.size #[.int .i64 N.k, .slice n3 N.nx.length c3, .slice a3 N.ac.length d3]) := HRn.out; clear HRn
  have HRn : Hid (RowAt y2 u4.heap.size #[.int .i64 R.k, .slice n4 R.nx.length c4, .slice a4 R.ac.length d4]) := HR_m.out.stay HY2.out; clear HR_m; have HR_m : Hid (RowAt y2 u4.heap.size #[.int .i64 R.k, .slice n4 R.nx.length c4, .slice a4 R.ac.length d4]) := HRn.out; clear HRn
  have HAn : Hid (AR y2 (.agg #[.int .i64 A.k, .slice an A.nx.length cn, .slice aa A.ac.length ca]) A) := HA_a.out.stay HY2.out; clear HA_a; have HA_a : Hid (AR y2 (.agg #[.int .i64 A.k, .slice an A.nx.length cn, .slice aa A.ac.length ca]) A) := HAn.out; clear HAn
  have HAn : Hid (AR y2 (.agg #[.int .i64 B.k, .slice bn B.nx.length dn, .slice ba B.ac.length da]) B) := HA_b.out.stay HY2.out; clear HA_b; have HA_b : Hid (AR y2 (.agg #[.int .i64 B.k, .slice bn B.nx.length dn, .slice ba B.ac.length da]) B) := HAn.out; clear HAn
  have HAn : Hid (AR y2 (.agg #[.int .i64 R.k, .slice n1 R.nx.length c1, .slice a1 R.ac.length d1]) R) := HA_r.out.stay HY2.out; clear HA_r; have HA_r : Hid (AR y2 (.agg #[.int .i64 R.k, .slice n1 R.nx.length c1, .slice a1 R.ac.length d1]) R) := HAn.out; clear HAn
  have HAn : Hid (AR y2 (.agg #[.int .i64 R.k, .slice n2 R.nx.length c2, .slice a2 R.ac.length d2]) R) := HA_g.out.stay HY2.out; clear HA_g; have HA_g : Hid (AR y2 (.agg #[.int .i64 R.k, .slice n2 R.nx.length c2, .slice a2 R.ac.length d2]) R) := HAn.out; clear HAn
  have HAn : Hid (AR y2 (.agg #[.int .i64 N.k, .slice n3 N.nx.length c3, .slice a3 N.ac.length d3]) N) := HA_n.out.stay HY2.out; clear HA_n; have HA_n : Hid (AR y2 (.agg #[.int .i64 N.k, .slice n3 N.nx.length c3, .slice a3 N.ac.length d3]) N) := HAn.out; clear HAn
  have HAn : Hid (AR y2 (.agg #[.int .i64 R.k, .slice n4 R.nx.length c4, .slice a4 R.ac.length d4]) R) := HA_m.out.stay HY2.out; clear HA_m; have HA_m : Hid (AR y2 (.agg #[.int .i64 R.k, .slice n4 R.nx.length c4, .slice a4 R.ac.length d4]) R) := HAn.out; clear HAn
  have HBn : Hid (Below w.heap.size w y2) := go_on HB.out HY2.out; clear HB; have HB : Hid (Below w.heap.size w y2) := HBn.out; clear HBn HY2
  skip
  refine (C5.out _ _ HA_b.out).mono ?_
  rintro e u5 ⟨v5, rfl, ha5, hb5⟩
  have hs5 : Below y2.heap.size y2 u5 := hb5
  have HBn : Hid (Below w.heap.size w u5) := go_on HB.out hs5
  clear HB; have HB : Hid (Below w.heap.size w u5) := HBn.out; clear HBn
  have HRn : Hid (RowAt u5 w.heap.size #[.int .i64 A.k, .slice an A.nx.length cn, .slice aa A.ac.length ca]) := HR_a.out.stay hs5; clear HR_a; have HR_a : Hid (RowAt u5 w.heap.size #[.int .i64 A.k, .slice an A.nx.length cn, .slice aa A.ac.length ca]) := HRn.out; clear HRn
  have HRn : Hid (RowAt u5 (w.heap.size + 1) #[.int .i64 B.k, .slice bn B.nx.length dn, .slice ba B.ac.length da]) := HR_b.out.stay hs5; clear HR_b; have HR_b : Hid (RowAt u5 (w.heap.size + 1) #[.int .i64 B.k, .slice bn B.nx.length dn, .slice ba B.ac.length da]) := HRn.out; clear HRn
  have HRn : Hid (RowAt u5 u1.heap.size #[.int .i64 R.k, .slice n1 R.nx.length c1, .slice a1 R.ac.length d1]) := HR_r.out.stay hs5; clear HR_r; have HR_r : Hid (RowAt u5 u1.heap.size #[.int .i64 R.k, .slice n1 R.nx.length c1, .slice a1 R.ac.length d1]) := HRn.out; clear HRn
  have HRn : Hid (RowAt u5 u2.heap.size #[.int .i64 R.k, .slice n2 R.nx.length c2, .slice a2 R.ac.length d2]) := HR_g.out.stay hs5; clear HR_g; have HR_g : Hid (RowAt u5 u2.heap.size #[.int .i64 R.k, .slice n2 R.nx.length c2, .slice a2 R.ac.length d2]) := HRn.out; clear HRn
  have HRn : Hid (RowAt u5 u3.heap.size #[.int .i64 N.k, .slice n3 N.nx.length c3, .slice a3 N.ac.length d3]) := HR_n.out.stay hs5; clear HR_n; have HR_n : Hid (RowAt u5 u3.heap.size #[.int .i64 N.k, .slice n3 N.nx.length c3, .slice a3 N.ac.length d3]) := HRn.out; clear HRn
  have HRn : Hid (RowAt u5 u4.heap.size #[.int .i64 R.k, .slice n4 R.nx.length c4, .slice a4 R.ac.length d4]) := HR_m.out.stay hs5; clear HR_m; have HR_m : Hid (RowAt u5 u4.heap.size #[.int .i64 R.k, .slice n4 R.nx.length c4, .slice a4 R.ac.length d4]) := HRn.out; clear HRn
  have HAn : Hid (AR u5 (.agg #[.int .i64 A.k, .slice an A.nx.length cn, .slice aa A.ac.length ca]) A) := HA_a.out.stay hs5; clear HA_a; have HA_a : Hid (AR u5 (.agg #[.int .i64 A.k, .slice an A.nx.length cn, .slice aa A.ac.length ca]) A) := HAn.out; clear HAn
  have HAn : Hid (AR u5 (.agg #[.int .i64 B.k, .slice bn B.nx.length dn, .slice ba B.ac.length da]) B) := HA_b.out.stay hs5; clear HA_b; have HA_b : Hid (AR u5 (.agg #[.int .i64 B.k, .slice bn B.nx.length dn, .slice ba B.ac.length da]) B) := HAn.out; clear HAn
  have HAn : Hid (AR u5 (.agg #[.int .i64 R.k, .slice n1 R.nx.length c1, .slice a1 R.ac.length d1]) R) := HA_r.out.stay hs5; clear HA_r; have HA_r : Hid (AR u5 (.agg #[.int .i64 R.k, .slice n1 R.nx.length c1, .slice a1 R.ac.length d1]) R) := HAn.out; clear HAn
  have HAn : Hid (AR u5 (.agg #[.int .i64 R.k, .slice n2 R.nx.length c2, .slice a2 R.ac.length d2]) R) := HA_g.out.stay hs5; clear HA_g; have HA_g : Hid (AR u5 (.agg #[.int .i64 R.k, .slice n2 R.nx.length c2, .slice a2 R.ac.length d2]) R) := HAn.out; clear HAn
  have HAn : Hid (AR u5 (.agg #[.int .i64 N.k, .slice n3 N.nx.length c3, .slice a3 N.ac.length d3]) N) := HA_n.out.stay hs5; clear HA_n; have HA_n : Hid (AR u5 (.agg #[.int .i64 N.k, .slice n3 N.nx.length c3, .slice a3 N.ac.length d3]) N) := HAn.out; clear HAn
  have HAn : Hid (AR u5 (.agg #[.int .i64 R.k, .slice n4 R.nx.length c4, .slice a4 R.ac.length d4]) R) := HA_m.out.stay hs5; clear HA_m; have HA_m : Hid (AR u5 (.agg #[.int .i64 R.k, .slice n4 R.nx.length c4, .slice a4 R.ac.length d4]) R) := HAn.out; clear HAn
  have hr5 := ha5.ar
  obtain ⟨n5, c5, a5, d5, rfl, _, _⟩ := ha5
  have HA_nb : Hid (AR u5 (.agg #[.int .i64 M.k, .slice n5 M.nx.length c5, .slice a5 M.ac.length d5]) M) := hr5
  clear hb5 hs5 hr5
  clear r3
  have cc0 : ∀ O o, (u5.alloc O).cell? ⟨w.heap.size, o, none⟩ = (#[.int .i64 A.k, .slice an A.nx.length cn, .slice aa A.ac.length ca] : Array Value)[o]? := fun O => (HR_a.out.alloc O).cell
  have cc1 : ∀ O o, (u5.alloc O).cell? ⟨(w.heap.size + 1), o, none⟩ = (#[.int .i64 B.k, .slice bn B.nx.length dn, .slice ba B.ac.length da] : Array Value)[o]? := fun O => (HR_b.out.alloc O).cell
  go_wp2_with fail
  refine (C6.out _ _ _ (HA_a.out.stay (below_new _ _)) (HA_b.out.stay (below_new _ _))).mono ?_
  rintro e u6 ⟨v6, rfl, ha6, hb6⟩
  have hs6 : Below u5.heap.size u5 u6 := go_on (below_new _ _) hb6
  have HBn : Hid (Below w.heap.size w u6) := go_on HB.out hs6
  clear HB; have HB : Hid (Below w.heap.size w u6) := HBn.out; clear HBn
  have HRn : Hid (RowAt u6 w.heap.size #[.int .i64 A.k, .slice an A.nx.length cn, .slice aa A.ac.length ca]) := HR_a.out.stay hs6; clear HR_a; have HR_a : Hid (RowAt u6 w.heap.size #[.int .i64 A.k, .slice an A.nx.length cn, .slice aa A.ac.length ca]) := HRn.out; clear HRn
  have HRn : Hid (RowAt u6 (w.heap.size + 1) #[.int .i64 B.k, .slice bn B.nx.length dn, .slice ba B.ac.length da]) := HR_b.out.stay hs6; clear HR_b; have HR_b : Hid (RowAt u6 (w.heap.size + 1) #[.int .i64 B.k, .slice bn B.nx.length dn, .slice ba B.ac.length da]) := HRn.out; clear HRn
  have HRn : Hid (RowAt u6 u1.heap.size #[.int .i64 R.k, .slice n1 R.nx.length c1, .slice a1 R.ac.length d1]) := HR_r.out.stay hs6; clear HR_r; have HR_r : Hid (RowAt u6 u1.heap.size #[.int .i64 R.k, .slice n1 R.nx.length c1, .slice a1 R.ac.length d1]) := HRn.out; clear HRn
  have HRn : Hid (RowAt u6 u2.heap.size #[.int .i64 R.k, .slice n2 R.nx.length c2, .slice a2 R.ac.length d2]) := HR_g.out.stay hs6; clear HR_g; have HR_g : Hid (RowAt u6 u2.heap.size #[.int .i64 R.k, .slice n2 R.nx.length c2, .slice a2 R.ac.length d2]) := HRn.out; clear HRn
  have HRn : Hid (RowAt u6 u3.heap.size #[.int .i64 N.k, .slice n3 N.nx.length c3, .slice a3 N.ac.length d3]) := HR_n.out.stay hs6; clear HR_n; have HR_n : Hid (RowAt u6 u3.heap.size #[.int .i64 N.k, .slice n3 N.nx.length c3, .slice a3 N.ac.length d3]) := HRn.out; clear HRn
  have HRn : Hid (RowAt u6 u4.heap.size #[.int .i64 R.k, .slice n4 R.nx.length c4, .slice a4 R.ac.length d4]) := HR_m.out.stay hs6; clear HR_m; have HR_m : Hid (RowAt u6 u4.heap.size #[.int .i64 R.k, .slice n4 R.nx.length c4, .slice a4 R.ac.length d4]) := HRn.out; clear HRn
  have HR_nb : Hid (RowAt u6 u5.heap.size #[.int .i64 M.k, .slice n5 M.nx.length c5, .slice a5 M.ac.length d5]) := (RowAt.last _ _ _).stay hb6
  have HAn : Hid (AR u6 (.agg #[.int .i64 A.k, .slice an A.nx.length cn, .slice aa A.ac.length ca]) A) := HA_a.out.stay hs6; clear HA_a; have HA_a : Hid (AR u6 (.agg #[.int .i64 A.k, .slice an A.nx.length cn, .slice aa A.ac.length ca]) A) := HAn.out; clear HAn
  have HAn : Hid (AR u6 (.agg #[.int .i64 B.k, .slice bn B.nx.length dn, .slice ba B.ac.length da]) B) := HA_b.out.stay hs6; clear HA_b; have HA_b : Hid (AR u6 (.agg #[.int .i64 B.k, .slice bn B.nx.length dn, .slice ba B.ac.length da]) B) := HAn.out; clear HAn
  have HAn : Hid (AR u6 (.agg #[.int .i64 R.k, .slice n1 R.nx.length c1, .slice a1 R.ac.length d1]) R) := HA_r.out.stay hs6; clear HA_r; have HA_r : Hid (AR u6 (.agg #[.int .i64 R.k, .slice n1 R.nx.length c1, .slice a1 R.ac.length d1]) R) := HAn.out; clear HAn
  have HAn : Hid (AR u6 (.agg #[.int .i64 R.k, .slice n2 R.nx.length c2, .slice a2 R.ac.length d2]) R) := HA_g.out.stay hs6; clear HA_g; have HA_g : Hid (AR u6 (.agg #[.int .i64 R.k, .slice n2 R.nx.length c2, .slice a2 R.ac.length d2]) R) := HAn.out; clear HAn
  have HAn : Hid (AR u6 (.agg #[.int .i64 N.k, .slice n3 N.nx.length c3, .slice a3 N.ac.length d3]) N) := HA_n.out.stay hs6; clear HA_n; have HA_n : Hid (AR u6 (.agg #[.int .i64 N.k, .slice n3 N.nx.length c3, .slice a3 N.ac.length d3]) N) := HAn.out; clear HAn
  have HAn : Hid (AR u6 (.agg #[.int .i64 R.k, .slice n4 R.nx.length c4, .slice a4 R.ac.length d4]) R) := HA_m.out.stay hs6; clear HA_m; have HA_m : Hid (AR u6 (.agg #[.int .i64 R.k, .slice n4 R.nx.length c4, .slice a4 R.ac.length d4]) R) := HAn.out; clear HAn
  have HAn : Hid (AR u6 (.agg #[.int .i64 M.k, .slice n5 M.nx.length c5, .slice a5 M.ac.length d5]) M) := HA_nb.out.stay hs6; clear HA_nb; have HA_nb : Hid (AR u6 (.agg #[.int .i64 M.k, .slice n5 M.nx.length c5, .slice a5 M.ac.length d5]) M) := HAn.out; clear HAn
  have hr6 := ha6.ar
  obtain ⟨n6, c6, a6, d6, rfl, _, _⟩ := ha6
  have HA_x : Hid (AR u6 (.agg #[.int .i64 X.k, .slice n6 X.nx.length c6, .slice a6 X.ac.length d6]) X) := hr6
  clear hb6 hs6 hr6
  clear cc0 cc1
  have cc0 : ∀ O o, (u6.alloc O).cell? ⟨u3.heap.size, o, none⟩ = (#[.int .i64 N.k, .slice n3 N.nx.length c3, .slice a3 N.ac.length d3] : Array Value)[o]? := fun O => (HR_n.out.alloc O).cell
  have cc1 : ∀ O o, (u6.alloc O).cell? ⟨u5.heap.size, o, none⟩ = (#[.int .i64 M.k, .slice n5 M.nx.length c5, .slice a5 M.ac.length d5] : Array Value)[o]? := fun O => (HR_nb.out.alloc O).cell
  go_wp2_with fail
  refine (C7.out _ _ _ (HA_n.out.stay (below_new _ _)) (HA_nb.out.stay (below_new _ _))).mono ?_
  rintro e u7 ⟨v7, rfl, ha7, hb7⟩
  have hs7 : Below u6.heap.size u6 u7 := go_on (below_new _ _) hb7
  have HBn : Hid (Below w.heap.size w u7) := go_on HB.out hs7
  clear HB; have HB : Hid (Below w.heap.size w u7) := HBn.out; clear HBn
  have HRn : Hid (RowAt u7 w.heap.size #[.int .i64 A.k, .slice an A.nx.length cn, .slice aa A.ac.length ca]) := HR_a.out.stay hs7; clear HR_a; have HR_a : Hid (RowAt u7 w.heap.size #[.int .i64 A.k, .slice an A.nx.length cn, .slice aa A.ac.length ca]) := HRn.out; clear HRn
  have HRn : Hid (RowAt u7 (w.heap.size + 1) #[.int .i64 B.k, .slice bn B.nx.length dn, .slice ba B.ac.length da]) := HR_b.out.stay hs7; clear HR_b; have HR_b : Hid (RowAt u7 (w.heap.size + 1) #[.int .i64 B.k, .slice bn B.nx.length dn, .slice ba B.ac.length da]) := HRn.out; clear HRn
  have HRn : Hid (RowAt u7 u1.heap.size #[.int .i64 R.k, .slice n1 R.nx.length c1, .slice a1 R.ac.length d1]) := HR_r.out.stay hs7; clear HR_r; have HR_r : Hid (RowAt u7 u1.heap.size #[.int .i64 R.k, .slice n1 R.nx.length c1, .slice a1 R.ac.length d1]) := HRn.out; clear HRn
  have HRn : Hid (RowAt u7 u2.heap.size #[.int .i64 R.k, .slice n2 R.nx.length c2, .slice a2 R.ac.length d2]) := HR_g.out.stay hs7; clear HR_g; have HR_g : Hid (RowAt u7 u2.heap.size #[.int .i64 R.k, .slice n2 R.nx.length c2, .slice a2 R.ac.length d2]) := HRn.out; clear HRn
  have HRn : Hid (RowAt u7 u3.heap.size #[.int .i64 N.k, .slice n3 N.nx.length c3, .slice a3 N.ac.length d3]) := HR_n.out.stay hs7; clear HR_n; have HR_n : Hid (RowAt u7 u3.heap.size #[.int .i64 N.k, .slice n3 N.nx.length c3, .slice a3 N.ac.length d3]) := HRn.out; clear HRn
  have HRn : Hid (RowAt u7 u4.heap.size #[.int .i64 R.k, .slice n4 R.nx.length c4, .slice a4 R.ac.length d4]) := HR_m.out.stay hs7; clear HR_m; have HR_m : Hid (RowAt u7 u4.heap.size #[.int .i64 R.k, .slice n4 R.nx.length c4, .slice a4 R.ac.length d4]) := HRn.out; clear HRn
  have HRn : Hid (RowAt u7 u5.heap.size #[.int .i64 M.k, .slice n5 M.nx.length c5, .slice a5 M.ac.length d5]) := HR_nb.out.stay hs7; clear HR_nb; have HR_nb : Hid (RowAt u7 u5.heap.size #[.int .i64 M.k, .slice n5 M.nx.length c5, .slice a5 M.ac.length d5]) := HRn.out; clear HRn
  have HR_x : Hid (RowAt u7 u6.heap.size #[.int .i64 X.k, .slice n6 X.nx.length c6, .slice a6 X.ac.length d6]) := (RowAt.last _ _ _).stay hb7
  have HAn : Hid (AR u7 (.agg #[.int .i64 A.k, .slice an A.nx.length cn, .slice aa A.ac.length ca]) A) := HA_a.out.stay hs7; clear HA_a; have HA_a : Hid (AR u7 (.agg #[.int .i64 A.k, .slice an A.nx.length cn, .slice aa A.ac.length ca]) A) := HAn.out; clear HAn
  have HAn : Hid (AR u7 (.agg #[.int .i64 B.k, .slice bn B.nx.length dn, .slice ba B.ac.length da]) B) := HA_b.out.stay hs7; clear HA_b; have HA_b : Hid (AR u7 (.agg #[.int .i64 B.k, .slice bn B.nx.length dn, .slice ba B.ac.length da]) B) := HAn.out; clear HAn
  have HAn : Hid (AR u7 (.agg #[.int .i64 R.k, .slice n1 R.nx.length c1, .slice a1 R.ac.length d1]) R) := HA_r.out.stay hs7; clear HA_r; have HA_r : Hid (AR u7 (.agg #[.int .i64 R.k, .slice n1 R.nx.length c1, .slice a1 R.ac.length d1]) R) := HAn.out; clear HAn
  have HAn : Hid (AR u7 (.agg #[.int .i64 R.k, .slice n2 R.nx.length c2, .slice a2 R.ac.length d2]) R) := HA_g.out.stay hs7; clear HA_g; have HA_g : Hid (AR u7 (.agg #[.int .i64 R.k, .slice n2 R.nx.length c2, .slice a2 R.ac.length d2]) R) := HAn.out; clear HAn
  have HAn : Hid (AR u7 (.agg #[.int .i64 N.k, .slice n3 N.nx.length c3, .slice a3 N.ac.length d3]) N) := HA_n.out.stay hs7; clear HA_n; have HA_n : Hid (AR u7 (.agg #[.int .i64 N.k, .slice n3 N.nx.length c3, .slice a3 N.ac.length d3]) N) := HAn.out; clear HAn
  have HAn : Hid (AR u7 (.agg #[.int .i64 R.k, .slice n4 R.nx.length c4, .slice a4 R.ac.length d4]) R) := HA_m.out.stay hs7; clear HA_m; have HA_m : Hid (AR u7 (.agg #[.int .i64 R.k, .slice n4 R.nx.length c4, .slice a4 R.ac.length d4]) R) := HAn.out; clear HAn
  have HAn : Hid (AR u7 (.agg #[.int .i64 M.k, .slice n5 M.nx.length c5, .slice a5 M.ac.length d5]) M) := HA_nb.out.stay hs7; clear HA_nb; have HA_nb : Hid (AR u7 (.agg #[.int .i64 M.k, .slice n5 M.nx.length c5, .slice a5 M.ac.length d5]) M) := HAn.out; clear HAn
  have HAn : Hid (AR u7 (.agg #[.int .i64 X.k, .slice n6 X.nx.length c6, .slice a6 X.ac.length d6]) X) := HA_x.out.stay hs7; clear HA_x; have HA_x : Hid (AR u7 (.agg #[.int .i64 X.k, .slice n6 X.nx.length c6, .slice a6 X.ac.length d6]) X) := HAn.out; clear HAn
  have hr7 := ha7.ar
  obtain ⟨n7, c7, a7, d7, rfl, _, _⟩ := ha7
  have HA_y : Hid (AR u7 (.agg #[.int .i64 Y.k, .slice n7 Y.nx.length c7, .slice a7 Y.ac.length d7]) Y) := hr7
  clear hb7 hs7 hr7
  clear cc0 cc1
  rcases HE.out with h00 | h81
  case inr =>
    obtain ⟨Z2, hZ2⟩ : ∃ Z2, Z2 = u7.alloc (.cells #[.int .i64 Y.k, .slice n7 Y.nx.length c7, .slice a7 Y.ac.length d7] 25) := ⟨_, rfl⟩
    have HEZ2 : Hid (Z2 = u7.alloc (.cells #[.int .i64 Y.k, .slice n7 Y.nx.length c7, .slice a7 Y.ac.length d7] 25)) := hZ2
    have hs : Below u7.heap.size u7 Z2 := by rw [hZ2]; exact below_new _ _
    have HBn : Hid (Below w.heap.size w Z2) := go_on HB.out hs; clear HB; have HB : Hid (Below w.heap.size w Z2) := HBn.out; clear HBn
    have HRn : Hid (RowAt Z2 w.heap.size #[.int .i64 A.k, .slice an A.nx.length cn, .slice aa A.ac.length ca]) := HR_a.out.stay hs; clear HR_a; have HR_a : Hid (RowAt Z2 w.heap.size #[.int .i64 A.k, .slice an A.nx.length cn, .slice aa A.ac.length ca]) := HRn.out; clear HRn
    have HRn : Hid (RowAt Z2 (w.heap.size + 1) #[.int .i64 B.k, .slice bn B.nx.length dn, .slice ba B.ac.length da]) := HR_b.out.stay hs; clear HR_b; have HR_b : Hid (RowAt Z2 (w.heap.size + 1) #[.int .i64 B.k, .slice bn B.nx.length dn, .slice ba B.ac.length da]) := HRn.out; clear HRn
    have HRn : Hid (RowAt Z2 u1.heap.size #[.int .i64 R.k, .slice n1 R.nx.length c1, .slice a1 R.ac.length d1]) := HR_r.out.stay hs; clear HR_r; have HR_r : Hid (RowAt Z2 u1.heap.size #[.int .i64 R.k, .slice n1 R.nx.length c1, .slice a1 R.ac.length d1]) := HRn.out; clear HRn
    have HRn : Hid (RowAt Z2 u2.heap.size #[.int .i64 R.k, .slice n2 R.nx.length c2, .slice a2 R.ac.length d2]) := HR_g.out.stay hs; clear HR_g; have HR_g : Hid (RowAt Z2 u2.heap.size #[.int .i64 R.k, .slice n2 R.nx.length c2, .slice a2 R.ac.length d2]) := HRn.out; clear HRn
    have HRn : Hid (RowAt Z2 u3.heap.size #[.int .i64 N.k, .slice n3 N.nx.length c3, .slice a3 N.ac.length d3]) := HR_n.out.stay hs; clear HR_n; have HR_n : Hid (RowAt Z2 u3.heap.size #[.int .i64 N.k, .slice n3 N.nx.length c3, .slice a3 N.ac.length d3]) := HRn.out; clear HRn
    have HRn : Hid (RowAt Z2 u4.heap.size #[.int .i64 R.k, .slice n4 R.nx.length c4, .slice a4 R.ac.length d4]) := HR_m.out.stay hs; clear HR_m; have HR_m : Hid (RowAt Z2 u4.heap.size #[.int .i64 R.k, .slice n4 R.nx.length c4, .slice a4 R.ac.length d4]) := HRn.out; clear HRn
    have HRn : Hid (RowAt Z2 u5.heap.size #[.int .i64 M.k, .slice n5 M.nx.length c5, .slice a5 M.ac.length d5]) := HR_nb.out.stay hs; clear HR_nb; have HR_nb : Hid (RowAt Z2 u5.heap.size #[.int .i64 M.k, .slice n5 M.nx.length c5, .slice a5 M.ac.length d5]) := HRn.out; clear HRn
    have HRn : Hid (RowAt Z2 u6.heap.size #[.int .i64 X.k, .slice n6 X.nx.length c6, .slice a6 X.ac.length d6]) := HR_x.out.stay hs; clear HR_x; have HR_x : Hid (RowAt Z2 u6.heap.size #[.int .i64 X.k, .slice n6 X.nx.length c6, .slice a6 X.ac.length d6]) := HRn.out; clear HRn
    have HR_y : Hid (RowAt Z2 u7.heap.size #[.int .i64 Y.k, .slice n7 Y.nx.length c7, .slice a7 Y.ac.length d7]) := by show RowAt _ _ _; rw [hZ2]; exact RowAt.last _ _ _
    have HAn : Hid (AR Z2 (.agg #[.int .i64 A.k, .slice an A.nx.length cn, .slice aa A.ac.length ca]) A) := HA_a.out.stay hs; clear HA_a; have HA_a : Hid (AR Z2 (.agg #[.int .i64 A.k, .slice an A.nx.length cn, .slice aa A.ac.length ca]) A) := HAn.out; clear HAn
    have HAn : Hid (AR Z2 (.agg #[.int .i64 B.k, .slice bn B.nx.length dn, .slice ba B.ac.length da]) B) := HA_b.out.stay hs; clear HA_b; have HA_b : Hid (AR Z2 (.agg #[.int .i64 B.k, .slice bn B.nx.length dn, .slice ba B.ac.length da]) B) := HAn.out; clear HAn
    have HAn : Hid (AR Z2 (.agg #[.int .i64 R.k, .slice n1 R.nx.length c1, .slice a1 R.ac.length d1]) R) := HA_r.out.stay hs; clear HA_r; have HA_r : Hid (AR Z2 (.agg #[.int .i64 R.k, .slice n1 R.nx.length c1, .slice a1 R.ac.length d1]) R) := HAn.out; clear HAn
    have HAn : Hid (AR Z2 (.agg #[.int .i64 R.k, .slice n2 R.nx.length c2, .slice a2 R.ac.length d2]) R) := HA_g.out.stay hs; clear HA_g; have HA_g : Hid (AR Z2 (.agg #[.int .i64 R.k, .slice n2 R.nx.length c2, .slice a2 R.ac.length d2]) R) := HAn.out; clear HAn
    have HAn : Hid (AR Z2 (.agg #[.int .i64 N.k, .slice n3 N.nx.length c3, .slice a3 N.ac.length d3]) N) := HA_n.out.stay hs; clear HA_n; have HA_n : Hid (AR Z2 (.agg #[.int .i64 N.k, .slice n3 N.nx.length c3, .slice a3 N.ac.length d3]) N) := HAn.out; clear HAn
    have HAn : Hid (AR Z2 (.agg #[.int .i64 R.k, .slice n4 R.nx.length c4, .slice a4 R.ac.length d4]) R) := HA_m.out.stay hs; clear HA_m; have HA_m : Hid (AR Z2 (.agg #[.int .i64 R.k, .slice n4 R.nx.length c4, .slice a4 R.ac.length d4]) R) := HAn.out; clear HAn
    have HAn : Hid (AR Z2 (.agg #[.int .i64 M.k, .slice n5 M.nx.length c5, .slice a5 M.ac.length d5]) M) := HA_nb.out.stay hs; clear HA_nb; have HA_nb : Hid (AR Z2 (.agg #[.int .i64 M.k, .slice n5 M.nx.length c5, .slice a5 M.ac.length d5]) M) := HAn.out; clear HAn
    have HAn : Hid (AR Z2 (.agg #[.int .i64 X.k, .slice n6 X.nx.length c6, .slice a6 X.ac.length d6]) X) := HA_x.out.stay hs; clear HA_x; have HA_x : Hid (AR Z2 (.agg #[.int .i64 X.k, .slice n6 X.nx.length c6, .slice a6 X.ac.length d6]) X) := HAn.out; clear HAn
    have HAn : Hid (AR Z2 (.agg #[.int .i64 Y.k, .slice n7 Y.nx.length c7, .slice a7 Y.ac.length d7]) Y) := HA_y.out.stay hs; clear HA_y; have HA_y : Hid (AR Z2 (.agg #[.int .i64 Y.k, .slice n7 Y.nx.length c7, .slice a7 Y.ac.length d7]) Y) := HAn.out; clear HAn
    clear hs hZ2
    subst h81
    go_wp2_with (first
      | (go_at_call 11; refine (num8_any _ _).mono ?_; rintro e yn ⟨rfl, hyn⟩; subst yn)
      | fail)
    rw [← HEZ2.out]
    refine (live8_any _).mono ?_
    rintro e y6 ⟨rfl, hy6⟩
    have HY6 : Hid (Below w.heap.size w y6) := go_on HB.out hy6
    clear hy6
    go_wp2_with fail
    go_ret
    exact ⟨rfl, HY6.out⟩
  case inl =>
    subst h00
    have hlxy := HLX.out rfl
    have HL1 : Hid (X.nx.length ≤ 9223372036854775806 ∧ X.ac.length ≤ 9223372036854775806) := hlxy.1
    have HL2 : Hid (Y.nx.length ≤ 9223372036854775806 ∧ Y.ac.length ≤ 9223372036854775806) := hlxy.2
    clear hlxy
    have D8 : Hid (∀ y v, AR y v X → Calls Try.prog 15 #[v] y (FQ Y 0 y)) := C8.out rfl
    have D9 : Hid (∀ y v, AR y v X → Calls Try.prog 14 #[v] y (FQ X 0 y)) := C9.out rfl
    clear C8 C9
    have cc0 : ∀ O o, (u7.alloc O).cell? ⟨u6.heap.size, o, none⟩ = (#[.int .i64 X.k, .slice n6 X.nx.length c6, .slice a6 X.ac.length d6] : Array Value)[o]? := fun O => (HR_x.out.alloc O).cell
    go_wp2_with (first | (go_at_call 11; refine (num8_any _ _).mono ?_; rintro e yn ⟨rfl, hyn⟩; subst yn) | fail)
    refine (D8.out _ _ (HA_x.out.stay (below_new _ _))).mono ?_
    rintro e u8 ⟨v8, rfl, ha8, hb8⟩
    have hs8 : Below u7.heap.size u7 u8 := go_on (below_new _ _) hb8
    have HBn : Hid (Below w.heap.size w u8) := go_on HB.out hs8
    clear HB; have HB : Hid (Below w.heap.size w u8) := HBn.out; clear HBn
    have HRn : Hid (RowAt u8 w.heap.size #[.int .i64 A.k, .slice an A.nx.length cn, .slice aa A.ac.length ca]) := HR_a.out.stay hs8; clear HR_a; have HR_a : Hid (RowAt u8 w.heap.size #[.int .i64 A.k, .slice an A.nx.length cn, .slice aa A.ac.length ca]) := HRn.out; clear HRn
    have HRn : Hid (RowAt u8 (w.heap.size + 1) #[.int .i64 B.k, .slice bn B.nx.length dn, .slice ba B.ac.length da]) := HR_b.out.stay hs8; clear HR_b; have HR_b : Hid (RowAt u8 (w.heap.size + 1) #[.int .i64 B.k, .slice bn B.nx.length dn, .slice ba B.ac.length da]) := HRn.out; clear HRn
    have HRn : Hid (RowAt u8 u1.heap.size #[.int .i64 R.k, .slice n1 R.nx.length c1, .slice a1 R.ac.length d1]) := HR_r.out.stay hs8; clear HR_r; have HR_r : Hid (RowAt u8 u1.heap.size #[.int .i64 R.k, .slice n1 R.nx.length c1, .slice a1 R.ac.length d1]) := HRn.out; clear HRn
    have HRn : Hid (RowAt u8 u2.heap.size #[.int .i64 R.k, .slice n2 R.nx.length c2, .slice a2 R.ac.length d2]) := HR_g.out.stay hs8; clear HR_g; have HR_g : Hid (RowAt u8 u2.heap.size #[.int .i64 R.k, .slice n2 R.nx.length c2, .slice a2 R.ac.length d2]) := HRn.out; clear HRn
    have HRn : Hid (RowAt u8 u3.heap.size #[.int .i64 N.k, .slice n3 N.nx.length c3, .slice a3 N.ac.length d3]) := HR_n.out.stay hs8; clear HR_n; have HR_n : Hid (RowAt u8 u3.heap.size #[.int .i64 N.k, .slice n3 N.nx.length c3, .slice a3 N.ac.length d3]) := HRn.out; clear HRn
    have HRn : Hid (RowAt u8 u4.heap.size #[.int .i64 R.k, .slice n4 R.nx.length c4, .slice a4 R.ac.length d4]) := HR_m.out.stay hs8; clear HR_m; have HR_m : Hid (RowAt u8 u4.heap.size #[.int .i64 R.k, .slice n4 R.nx.length c4, .slice a4 R.ac.length d4]) := HRn.out; clear HRn
    have HRn : Hid (RowAt u8 u5.heap.size #[.int .i64 M.k, .slice n5 M.nx.length c5, .slice a5 M.ac.length d5]) := HR_nb.out.stay hs8; clear HR_nb; have HR_nb : Hid (RowAt u8 u5.heap.size #[.int .i64 M.k, .slice n5 M.nx.length c5, .slice a5 M.ac.length d5]) := HRn.out; clear HRn
    have HRn : Hid (RowAt u8 u6.heap.size #[.int .i64 X.k, .slice n6 X.nx.length c6, .slice a6 X.ac.length d6]) := HR_x.out.stay hs8; clear HR_x; have HR_x : Hid (RowAt u8 u6.heap.size #[.int .i64 X.k, .slice n6 X.nx.length c6, .slice a6 X.ac.length d6]) := HRn.out; clear HRn
    have HR_y : Hid (RowAt u8 u7.heap.size #[.int .i64 Y.k, .slice n7 Y.nx.length c7, .slice a7 Y.ac.length d7]) := (RowAt.last _ _ _).stay hb8
    have HAn : Hid (AR u8 (.agg #[.int .i64 A.k, .slice an A.nx.length cn, .slice aa A.ac.length ca]) A) := HA_a.out.stay hs8; clear HA_a; have HA_a : Hid (AR u8 (.agg #[.int .i64 A.k, .slice an A.nx.length cn, .slice aa A.ac.length ca]) A) := HAn.out; clear HAn
    have HAn : Hid (AR u8 (.agg #[.int .i64 B.k, .slice bn B.nx.length dn, .slice ba B.ac.length da]) B) := HA_b.out.stay hs8; clear HA_b; have HA_b : Hid (AR u8 (.agg #[.int .i64 B.k, .slice bn B.nx.length dn, .slice ba B.ac.length da]) B) := HAn.out; clear HAn
    have HAn : Hid (AR u8 (.agg #[.int .i64 R.k, .slice n1 R.nx.length c1, .slice a1 R.ac.length d1]) R) := HA_r.out.stay hs8; clear HA_r; have HA_r : Hid (AR u8 (.agg #[.int .i64 R.k, .slice n1 R.nx.length c1, .slice a1 R.ac.length d1]) R) := HAn.out; clear HAn
    have HAn : Hid (AR u8 (.agg #[.int .i64 R.k, .slice n2 R.nx.length c2, .slice a2 R.ac.length d2]) R) := HA_g.out.stay hs8; clear HA_g; have HA_g : Hid (AR u8 (.agg #[.int .i64 R.k, .slice n2 R.nx.length c2, .slice a2 R.ac.length d2]) R) := HAn.out; clear HAn
    have HAn : Hid (AR u8 (.agg #[.int .i64 N.k, .slice n3 N.nx.length c3, .slice a3 N.ac.length d3]) N) := HA_n.out.stay hs8; clear HA_n; have HA_n : Hid (AR u8 (.agg #[.int .i64 N.k, .slice n3 N.nx.length c3, .slice a3 N.ac.length d3]) N) := HAn.out; clear HAn
    have HAn : Hid (AR u8 (.agg #[.int .i64 R.k, .slice n4 R.nx.length c4, .slice a4 R.ac.length d4]) R) := HA_m.out.stay hs8; clear HA_m; have HA_m : Hid (AR u8 (.agg #[.int .i64 R.k, .slice n4 R.nx.length c4, .slice a4 R.ac.length d4]) R) := HAn.out; clear HAn
    have HAn : Hid (AR u8 (.agg #[.int .i64 M.k, .slice n5 M.nx.length c5, .slice a5 M.ac.length d5]) M) := HA_nb.out.stay hs8; clear HA_nb; have HA_nb : Hid (AR u8 (.agg #[.int .i64 M.k, .slice n5 M.nx.length c5, .slice a5 M.ac.length d5]) M) := HAn.out; clear HAn
    have HAn : Hid (AR u8 (.agg #[.int .i64 X.k, .slice n6 X.nx.length c6, .slice a6 X.ac.length d6]) X) := HA_x.out.stay hs8; clear HA_x; have HA_x : Hid (AR u8 (.agg #[.int .i64 X.k, .slice n6 X.nx.length c6, .slice a6 X.ac.length d6]) X) := HAn.out; clear HAn
    have HAn : Hid (AR u8 (.agg #[.int .i64 Y.k, .slice n7 Y.nx.length c7, .slice a7 Y.ac.length d7]) Y) := HA_y.out.stay hs8; clear HA_y; have HA_y : Hid (AR u8 (.agg #[.int .i64 Y.k, .slice n7 Y.nx.length c7, .slice a7 Y.ac.length d7]) Y) := HAn.out; clear HAn
    have hr8 := ha8.ar
    obtain ⟨n8, c8, a8, d8, rfl, _, _⟩ := ha8
    have HA_z : Hid (AR u8 (.agg #[.int .i64 Y.k, .slice n8 Y.nx.length c8, .slice a8 Y.ac.length d8]) Y) := hr8
    clear hb8 hs8 hr8
    clear cc0
    have cc0 : ∀ O o, (u8.alloc O).cell? ⟨u6.heap.size, o, none⟩ = (#[.int .i64 X.k, .slice n6 X.nx.length c6, .slice a6 X.ac.length d6] : Array Value)[o]? := fun O => (HR_x.out.alloc O).cell
    go_wp2_with fail
    refine (D9.out _ _ (HA_x.out.stay (below_new _ _))).mono ?_
    rintro e u9 ⟨v9, rfl, ha9, hb9⟩
    have hs9 : Below u8.heap.size u8 u9 := go_on (below_new _ _) hb9
    have HBn : Hid (Below w.heap.size w u9) := go_on HB.out hs9
    clear HB; have HB : Hid (Below w.heap.size w u9) := HBn.out; clear HBn
    have HRn : Hid (RowAt u9 w.heap.size #[.int .i64 A.k, .slice an A.nx.length cn, .slice aa A.ac.length ca]) := HR_a.out.stay hs9; clear HR_a; have HR_a : Hid (RowAt u9 w.heap.size #[.int .i64 A.k, .slice an A.nx.length cn, .slice aa A.ac.length ca]) := HRn.out; clear HRn
    have HRn : Hid (RowAt u9 (w.heap.size + 1) #[.int .i64 B.k, .slice bn B.nx.length dn, .slice ba B.ac.length da]) := HR_b.out.stay hs9; clear HR_b; have HR_b : Hid (RowAt u9 (w.heap.size + 1) #[.int .i64 B.k, .slice bn B.nx.length dn, .slice ba B.ac.length da]) := HRn.out; clear HRn
    have HRn : Hid (RowAt u9 u1.heap.size #[.int .i64 R.k, .slice n1 R.nx.length c1, .slice a1 R.ac.length d1]) := HR_r.out.stay hs9; clear HR_r; have HR_r : Hid (RowAt u9 u1.heap.size #[.int .i64 R.k, .slice n1 R.nx.length c1, .slice a1 R.ac.length d1]) := HRn.out; clear HRn
    have HRn : Hid (RowAt u9 u2.heap.size #[.int .i64 R.k, .slice n2 R.nx.length c2, .slice a2 R.ac.length d2]) := HR_g.out.stay hs9; clear HR_g; have HR_g : Hid (RowAt u9 u2.heap.size #[.int .i64 R.k, .slice n2 R.nx.length c2, .slice a2 R.ac.length d2]) := HRn.out; clear HRn
    have HRn : Hid (RowAt u9 u3.heap.size #[.int .i64 N.k, .slice n3 N.nx.length c3, .slice a3 N.ac.length d3]) := HR_n.out.stay hs9; clear HR_n; have HR_n : Hid (RowAt u9 u3.heap.size #[.int .i64 N.k, .slice n3 N.nx.length c3, .slice a3 N.ac.length d3]) := HRn.out; clear HRn
    have HRn : Hid (RowAt u9 u4.heap.size #[.int .i64 R.k, .slice n4 R.nx.length c4, .slice a4 R.ac.length d4]) := HR_m.out.stay hs9; clear HR_m; have HR_m : Hid (RowAt u9 u4.heap.size #[.int .i64 R.k, .slice n4 R.nx.length c4, .slice a4 R.ac.length d4]) := HRn.out; clear HRn
    have HRn : Hid (RowAt u9 u5.heap.size #[.int .i64 M.k, .slice n5 M.nx.length c5, .slice a5 M.ac.length d5]) := HR_nb.out.stay hs9; clear HR_nb; have HR_nb : Hid (RowAt u9 u5.heap.size #[.int .i64 M.k, .slice n5 M.nx.length c5, .slice a5 M.ac.length d5]) := HRn.out; clear HRn
    have HRn : Hid (RowAt u9 u6.heap.size #[.int .i64 X.k, .slice n6 X.nx.length c6, .slice a6 X.ac.length d6]) := HR_x.out.stay hs9; clear HR_x; have HR_x : Hid (RowAt u9 u6.heap.size #[.int .i64 X.k, .slice n6 X.nx.length c6, .slice a6 X.ac.length d6]) := HRn.out; clear HRn
    have HRn : Hid (RowAt u9 u7.heap.size #[.int .i64 Y.k, .slice n7 Y.nx.length c7, .slice a7 Y.ac.length d7]) := HR_y.out.stay hs9; clear HR_y; have HR_y : Hid (RowAt u9 u7.heap.size #[.int .i64 Y.k, .slice n7 Y.nx.length c7, .slice a7 Y.ac.length d7]) := HRn.out; clear HRn
    have HR_z : Hid (RowAt u9 u8.heap.size #[.int .i64 Y.k, .slice n8 Y.nx.length c8, .slice a8 Y.ac.length d8]) := (RowAt.last _ _ _).stay hb9
    have HAn : Hid (AR u9 (.agg #[.int .i64 A.k, .slice an A.nx.length cn, .slice aa A.ac.length ca]) A) := HA_a.out.stay hs9; clear HA_a; have HA_a : Hid (AR u9 (.agg #[.int .i64 A.k, .slice an A.nx.length cn, .slice aa A.ac.length ca]) A) := HAn.out; clear HAn
    have HAn : Hid (AR u9 (.agg #[.int .i64 B.k, .slice bn B.nx.length dn, .slice ba B.ac.length da]) B) := HA_b.out.stay hs9; clear HA_b; have HA_b : Hid (AR u9 (.agg #[.int .i64 B.k, .slice bn B.nx.length dn, .slice ba B.ac.length da]) B) := HAn.out; clear HAn
    have HAn : Hid (AR u9 (.agg #[.int .i64 R.k, .slice n1 R.nx.length c1, .slice a1 R.ac.length d1]) R) := HA_r.out.stay hs9; clear HA_r; have HA_r : Hid (AR u9 (.agg #[.int .i64 R.k, .slice n1 R.nx.length c1, .slice a1 R.ac.length d1]) R) := HAn.out; clear HAn
    have HAn : Hid (AR u9 (.agg #[.int .i64 R.k, .slice n2 R.nx.length c2, .slice a2 R.ac.length d2]) R) := HA_g.out.stay hs9; clear HA_g; have HA_g : Hid (AR u9 (.agg #[.int .i64 R.k, .slice n2 R.nx.length c2, .slice a2 R.ac.length d2]) R) := HAn.out; clear HAn
    have HAn : Hid (AR u9 (.agg #[.int .i64 N.k, .slice n3 N.nx.length c3, .slice a3 N.ac.length d3]) N) := HA_n.out.stay hs9; clear HA_n; have HA_n : Hid (AR u9 (.agg #[.int .i64 N.k, .slice n3 N.nx.length c3, .slice a3 N.ac.length d3]) N) := HAn.out; clear HAn
    have HAn : Hid (AR u9 (.agg #[.int .i64 R.k, .slice n4 R.nx.length c4, .slice a4 R.ac.length d4]) R) := HA_m.out.stay hs9; clear HA_m; have HA_m : Hid (AR u9 (.agg #[.int .i64 R.k, .slice n4 R.nx.length c4, .slice a4 R.ac.length d4]) R) := HAn.out; clear HAn
    have HAn : Hid (AR u9 (.agg #[.int .i64 M.k, .slice n5 M.nx.length c5, .slice a5 M.ac.length d5]) M) := HA_nb.out.stay hs9; clear HA_nb; have HA_nb : Hid (AR u9 (.agg #[.int .i64 M.k, .slice n5 M.nx.length c5, .slice a5 M.ac.length d5]) M) := HAn.out; clear HAn
    have HAn : Hid (AR u9 (.agg #[.int .i64 X.k, .slice n6 X.nx.length c6, .slice a6 X.ac.length d6]) X) := HA_x.out.stay hs9; clear HA_x; have HA_x : Hid (AR u9 (.agg #[.int .i64 X.k, .slice n6 X.nx.length c6, .slice a6 X.ac.length d6]) X) := HAn.out; clear HAn
    have HAn : Hid (AR u9 (.agg #[.int .i64 Y.k, .slice n7 Y.nx.length c7, .slice a7 Y.ac.length d7]) Y) := HA_y.out.stay hs9; clear HA_y; have HA_y : Hid (AR u9 (.agg #[.int .i64 Y.k, .slice n7 Y.nx.length c7, .slice a7 Y.ac.length d7]) Y) := HAn.out; clear HAn
    have HAn : Hid (AR u9 (.agg #[.int .i64 Y.k, .slice n8 Y.nx.length c8, .slice a8 Y.ac.length d8]) Y) := HA_z.out.stay hs9; clear HA_z; have HA_z : Hid (AR u9 (.agg #[.int .i64 Y.k, .slice n8 Y.nx.length c8, .slice a8 Y.ac.length d8]) Y) := HAn.out; clear HAn
    have hr9 := ha9.ar
    obtain ⟨n9, c9, a9, d9, rfl, _, _⟩ := ha9
    have HA_o : Hid (AR u9 (.agg #[.int .i64 X.k, .slice n9 X.nx.length c9, .slice a9 X.ac.length d9]) X) := hr9
    clear hb9 hs9 hr9
    clear cc0
    obtain ⟨Z3, hZ3⟩ : ∃ Z3, Z3 = u9.alloc (.cells #[.int .i64 X.k, .slice n9 X.nx.length c9, .slice a9 X.ac.length d9] 25) := ⟨_, rfl⟩
    have HEZ3 : Hid (Z3 = u9.alloc (.cells #[.int .i64 X.k, .slice n9 X.nx.length c9, .slice a9 X.ac.length d9] 25)) := hZ3
    have hs : Below u9.heap.size u9 Z3 := by rw [hZ3]; exact below_new _ _
    have HBn : Hid (Below w.heap.size w Z3) := go_on HB.out hs; clear HB; have HB : Hid (Below w.heap.size w Z3) := HBn.out; clear HBn
    have HRn : Hid (RowAt Z3 w.heap.size #[.int .i64 A.k, .slice an A.nx.length cn, .slice aa A.ac.length ca]) := HR_a.out.stay hs; clear HR_a; have HR_a : Hid (RowAt Z3 w.heap.size #[.int .i64 A.k, .slice an A.nx.length cn, .slice aa A.ac.length ca]) := HRn.out; clear HRn
    have HRn : Hid (RowAt Z3 (w.heap.size + 1) #[.int .i64 B.k, .slice bn B.nx.length dn, .slice ba B.ac.length da]) := HR_b.out.stay hs; clear HR_b; have HR_b : Hid (RowAt Z3 (w.heap.size + 1) #[.int .i64 B.k, .slice bn B.nx.length dn, .slice ba B.ac.length da]) := HRn.out; clear HRn
    have HRn : Hid (RowAt Z3 u1.heap.size #[.int .i64 R.k, .slice n1 R.nx.length c1, .slice a1 R.ac.length d1]) := HR_r.out.stay hs; clear HR_r; have HR_r : Hid (RowAt Z3 u1.heap.size #[.int .i64 R.k, .slice n1 R.nx.length c1, .slice a1 R.ac.length d1]) := HRn.out; clear HRn
    have HRn : Hid (RowAt Z3 u2.heap.size #[.int .i64 R.k, .slice n2 R.nx.length c2, .slice a2 R.ac.length d2]) := HR_g.out.stay hs; clear HR_g; have HR_g : Hid (RowAt Z3 u2.heap.size #[.int .i64 R.k, .slice n2 R.nx.length c2, .slice a2 R.ac.length d2]) := HRn.out; clear HRn
    have HRn : Hid (RowAt Z3 u3.heap.size #[.int .i64 N.k, .slice n3 N.nx.length c3, .slice a3 N.ac.length d3]) := HR_n.out.stay hs; clear HR_n; have HR_n : Hid (RowAt Z3 u3.heap.size #[.int .i64 N.k, .slice n3 N.nx.length c3, .slice a3 N.ac.length d3]) := HRn.out; clear HRn
    have HRn : Hid (RowAt Z3 u4.heap.size #[.int .i64 R.k, .slice n4 R.nx.length c4, .slice a4 R.ac.length d4]) := HR_m.out.stay hs; clear HR_m; have HR_m : Hid (RowAt Z3 u4.heap.size #[.int .i64 R.k, .slice n4 R.nx.length c4, .slice a4 R.ac.length d4]) := HRn.out; clear HRn
    have HRn : Hid (RowAt Z3 u5.heap.size #[.int .i64 M.k, .slice n5 M.nx.length c5, .slice a5 M.ac.length d5]) := HR_nb.out.stay hs; clear HR_nb; have HR_nb : Hid (RowAt Z3 u5.heap.size #[.int .i64 M.k, .slice n5 M.nx.length c5, .slice a5 M.ac.length d5]) := HRn.out; clear HRn
    have HRn : Hid (RowAt Z3 u6.heap.size #[.int .i64 X.k, .slice n6 X.nx.length c6, .slice a6 X.ac.length d6]) := HR_x.out.stay hs; clear HR_x; have HR_x : Hid (RowAt Z3 u6.heap.size #[.int .i64 X.k, .slice n6 X.nx.length c6, .slice a6 X.ac.length d6]) := HRn.out; clear HRn
    have HRn : Hid (RowAt Z3 u7.heap.size #[.int .i64 Y.k, .slice n7 Y.nx.length c7, .slice a7 Y.ac.length d7]) := HR_y.out.stay hs; clear HR_y; have HR_y : Hid (RowAt Z3 u7.heap.size #[.int .i64 Y.k, .slice n7 Y.nx.length c7, .slice a7 Y.ac.length d7]) := HRn.out; clear HRn
    have HRn : Hid (RowAt Z3 u8.heap.size #[.int .i64 Y.k, .slice n8 Y.nx.length c8, .slice a8 Y.ac.length d8]) := HR_z.out.stay hs; clear HR_z; have HR_z : Hid (RowAt Z3 u8.heap.size #[.int .i64 Y.k, .slice n8 Y.nx.length c8, .slice a8 Y.ac.length d8]) := HRn.out; clear HRn
    have HR_o : Hid (RowAt Z3 u9.heap.size #[.int .i64 X.k, .slice n9 X.nx.length c9, .slice a9 X.ac.length d9]) := by show RowAt _ _ _; rw [hZ3]; exact RowAt.last _ _ _
    have HAn : Hid (AR Z3 (.agg #[.int .i64 A.k, .slice an A.nx.length cn, .slice aa A.ac.length ca]) A) := HA_a.out.stay hs; clear HA_a; have HA_a : Hid (AR Z3 (.agg #[.int .i64 A.k, .slice an A.nx.length cn, .slice aa A.ac.length ca]) A) := HAn.out; clear HAn
    have HAn : Hid (AR Z3 (.agg #[.int .i64 B.k, .slice bn B.nx.length dn, .slice ba B.ac.length da]) B) := HA_b.out.stay hs; clear HA_b; have HA_b : Hid (AR Z3 (.agg #[.int .i64 B.k, .slice bn B.nx.length dn, .slice ba B.ac.length da]) B) := HAn.out; clear HAn
    have HAn : Hid (AR Z3 (.agg #[.int .i64 R.k, .slice n1 R.nx.length c1, .slice a1 R.ac.length d1]) R) := HA_r.out.stay hs; clear HA_r; have HA_r : Hid (AR Z3 (.agg #[.int .i64 R.k, .slice n1 R.nx.length c1, .slice a1 R.ac.length d1]) R) := HAn.out; clear HAn
    have HAn : Hid (AR Z3 (.agg #[.int .i64 R.k, .slice n2 R.nx.length c2, .slice a2 R.ac.length d2]) R) := HA_g.out.stay hs; clear HA_g; have HA_g : Hid (AR Z3 (.agg #[.int .i64 R.k, .slice n2 R.nx.length c2, .slice a2 R.ac.length d2]) R) := HAn.out; clear HAn
    have HAn : Hid (AR Z3 (.agg #[.int .i64 N.k, .slice n3 N.nx.length c3, .slice a3 N.ac.length d3]) N) := HA_n.out.stay hs; clear HA_n; have HA_n : Hid (AR Z3 (.agg #[.int .i64 N.k, .slice n3 N.nx.length c3, .slice a3 N.ac.length d3]) N) := HAn.out; clear HAn
    have HAn : Hid (AR Z3 (.agg #[.int .i64 R.k, .slice n4 R.nx.length c4, .slice a4 R.ac.length d4]) R) := HA_m.out.stay hs; clear HA_m; have HA_m : Hid (AR Z3 (.agg #[.int .i64 R.k, .slice n4 R.nx.length c4, .slice a4 R.ac.length d4]) R) := HAn.out; clear HAn
    have HAn : Hid (AR Z3 (.agg #[.int .i64 M.k, .slice n5 M.nx.length c5, .slice a5 M.ac.length d5]) M) := HA_nb.out.stay hs; clear HA_nb; have HA_nb : Hid (AR Z3 (.agg #[.int .i64 M.k, .slice n5 M.nx.length c5, .slice a5 M.ac.length d5]) M) := HAn.out; clear HAn
    have HAn : Hid (AR Z3 (.agg #[.int .i64 X.k, .slice n6 X.nx.length c6, .slice a6 X.ac.length d6]) X) := HA_x.out.stay hs; clear HA_x; have HA_x : Hid (AR Z3 (.agg #[.int .i64 X.k, .slice n6 X.nx.length c6, .slice a6 X.ac.length d6]) X) := HAn.out; clear HAn
    have HAn : Hid (AR Z3 (.agg #[.int .i64 Y.k, .slice n7 Y.nx.length c7, .slice a7 Y.ac.length d7]) Y) := HA_y.out.stay hs; clear HA_y; have HA_y : Hid (AR Z3 (.agg #[.int .i64 Y.k, .slice n7 Y.nx.length c7, .slice a7 Y.ac.length d7]) Y) := HAn.out; clear HAn
    have HAn : Hid (AR Z3 (.agg #[.int .i64 Y.k, .slice n8 Y.nx.length c8, .slice a8 Y.ac.length d8]) Y) := HA_z.out.stay hs; clear HA_z; have HA_z : Hid (AR Z3 (.agg #[.int .i64 Y.k, .slice n8 Y.nx.length c8, .slice a8 Y.ac.length d8]) Y) := HAn.out; clear HAn
    have HAn : Hid (AR Z3 (.agg #[.int .i64 X.k, .slice n9 X.nx.length c9, .slice a9 X.ac.length d9]) X) := HA_o.out.stay hs; clear HA_o; have HA_o : Hid (AR Z3 (.agg #[.int .i64 X.k, .slice n9 X.nx.length c9, .slice a9 X.ac.length d9]) X) := HAn.out; clear HAn
    clear hs hZ3
    have HS3 : Hid (∀ y, Below Z3.heap.size Z3 y → Calls Try.prog 10 #[.agg #[.int .i64 Y.k, .slice n8 Y.nx.length c8, .slice a8 Y.ac.length d8], .agg #[.int .i64 Y.k, .slice n7 Y.nx.length c7, .slice a7 Y.ac.length d7]] y fun e w' => e = .returned (.bool true) ∧ Below y.heap.size y w') := fun y hy => sameAuto_any _ _ Y y (HA_z.out.stay hy) (HA_y.out.stay hy) HL2.out.1 HL2.out.2
    have HS4 : Hid (∀ y, Below Z3.heap.size Z3 y → Calls Try.prog 10 #[.agg #[.int .i64 X.k, .slice n9 X.nx.length c9, .slice a9 X.ac.length d9], .agg #[.int .i64 X.k, .slice n6 X.nx.length c6, .slice a6 X.ac.length d6]] y fun e w' => e = .returned (.bool true) ∧ Below y.heap.size y w') := fun y hy => sameAuto_any _ _ X y (HA_o.out.stay hy) (HA_x.out.stay hy) HL1.out.1 HL1.out.2
    go_wp2_with fail
    rw [← HEZ3.out]
    have rz1 := HR_z.out.cell; have rz2 := HR_y.out.cell
    go_wp2_with (first
      | (go_at_call 11; refine (num8_any _ _).mono ?_; rintro e yn ⟨rfl, hyn⟩; subst yn)
      | (go_at_call 10; refine (HS3.out _ (Below.refl _ _)).mono ?_; rintro e z1 ⟨rfl, hz1⟩; have HZ1 : Hid (Below Z3.heap.size Z3 z1) := hz1; have r1 := (HR_o.out.stay hz1).cell; have r2 := (HR_x.out.stay hz1).cell; clear hz1 HS3 rz1 rz2)
      | (go_at_call 10; refine (HS4.out _ HZ1.out).mono ?_; rintro e z2 ⟨rfl, hz2⟩; have HZ2 : Hid (Below Z3.heap.size Z3 z2) := go_on HZ1.out hz2; clear hz2 HS4 HZ1 r1 r2)
      | (go_at_call 12; refine (live8_any _).mono ?_; rintro e y6 ⟨rfl, hy6⟩; have HY6 : Hid (Below w.heap.size w y6) := go_on (go_on HB.out HZ2.out) hy6; clear hy6))
    go_ret
    exact ⟨rfl, HY6.out⟩

/-! ### The row's step -/
theorem own : ownKnob Try.prog.godebug = none := by kernel_rfl
set_option maxRecDepth 100000 in
theorem lifted (os : Os) (started : os.Started) (H : Type) (enc : TypeId × Value → H) :
    ReturnsInHanded {} Try.checked os 4 .any (Rows.autoOrderSpec.pre6 enc Try.prog Try.f4 Rows.autoOrderRow.domain false) (Rows.autoOrderSpec.post enc Try.prog Try.f4 false true false false) := by
  refine returnsInHanded_of_change_sized (C := Try.checked) own started (by kernel_rfl) Try.func4
    (ChangeSpec.witness6 (enc := enc) (C := Try.checked) false ⟨#[], #[.agg #[.int .i64 0, .slice none 0 0, .slice none 0 0], .agg #[.int .i64 0, .slice none 0 0, .slice none 0 0]], []⟩ 8 (by kernel_rfl) (by kernel_rfl) (by kernel_rfl) (by kernel_rfl)) ?_
  intro W base args ds gs before hval0 hW hcnd hsz0 _
  have hval : ∀ (j : Nat) t v, Try.f4.params[j]? = some t → args[j]? = some v → Value.okWide Try.prog W .any base t v := hval0
  clear hval0
  have hsz : (DataW.weightsEach Try.prog (Try.f4.params.toList ++ Rows.autoOrderSpec.plain.varTypes Try.prog) (ds ++ gs)).all (· ≤ reachBytes) = true := hsz0
  clear hsz0
  have hW' := hW
  obtain ⟨p, q, hA0, hV, rfl, hfz, hnd⟩ := hW
  have hA : DataW.TrodAll enc Try.prog W 0 (fun _ => true) true Try.f4.params.toList args.toList ds p := hA0
  rw [Try.params4] at hA hval hsz
  obtain ⟨v0, vs0, d0, ds0, p0, q0, hargs, rfl, rfl, h0, r0⟩ := trodAll_cons hA
  obtain ⟨v1, vs1, d1, ds1, p1, q1, rfl, rfl, rfl, h1, r1⟩ := trodAll_cons r0
  obtain ⟨rfl, rfl, rfl⟩ := trodAll_nil r1
  obtain rfl : args = #[v0, v1] := by cases args; simp_all
  obtain ⟨rfl, rfl⟩ := trodVars_none hV
  obtain ⟨a0, x0, n0, w0, dk0, dn0, da0, e0, y0, z0⟩ := open_auto (hval 0 25 v0 rfl rfl) h0
  have b0 := auto_bounds hsz (j := 0) rfl (by rw [e0]; rfl) y0 z0
  have g0 : ∀ x ∈ p0, x.block < W.heap.size := fun x hx => hW'.lt x (by simp [hx])
  obtain ⟨a1, x1, n1, w1, dk1, dn1, da1, e1, y1, z1⟩ := open_auto (hval 1 25 v1 rfl rfl) h1
  have b1 := auto_bounds hsz (j := 1) rfl (by rw [e1]; rfl) y1 z1
  have g1 : ∀ x ∈ p1, x.block < W.heap.size := fun x hx => hW'.lt x (by simp [hx])
  clear hA0
  refine (walk v0 a0 v1 a1 W x0 n0 b0.1 b0.2 x1 n1 b1.1 b1.2).mono fun e W' ⟨he, bel⟩ => ?_
  subst he
  exact ⟨_, rfl, _, _, _, [], _, [], hW', trodAll_mk1 (shut_bool Try.underlying4 _), (trodAll_cons_mk (Below.trod Try.laidOut (by kernel_rfl) (of_decide_eq_true (by kernel_rfl)) h0 bel g0) (trodAll_cons_mk (Below.trod Try.laidOut (by kernel_rfl) (of_decide_eq_true (by kernel_rfl)) h1 bel g1) trodAll_mk0)), rfl, bel.frame _, fun h => by cases h⟩

theorem over : Rows.autoOrderRow.holds Try.pinned (OpenSpec.ofChange Rows.autoOrderSpec) :=
  OpenClaim.holds_of_wide 4 Try.f4 rfl rfl rfl rfl rfl rfl rfl ⟨rfl, rfl, rfl, rfl, rfl⟩ rfl rfl rfl rfl rfl (by kernel_rfl) Try.func4 (by kernel_rfl)
    (of_decide_eq_true (by kernel_rfl)) (by unfold Func.isWrapper; first | (rw [if_pos (by decide +kernel)]; kernel_rfl) | (rw [if_neg (by decide +kernel)]; exact ⟨rfl, rfl⟩))
    (fun os started H enc _ => lifted os started H enc)

end Go.Proofs.Ytbfoamidnekoaab.autoOrder
namespace Go.Proofs.Ytbfoamidnekoaab
/-- The given statement. -/
theorem autoOrder_holds : Rows.AutoOrderSaid := autoOrder.over
end Go.Proofs.Ytbfoamidnekoaab
