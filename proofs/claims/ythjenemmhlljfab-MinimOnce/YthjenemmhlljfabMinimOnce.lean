/- Proved: eggboxlaw10.MinimOnce answers true at every automaton's data a (P10.8): the minimal automaton's minimal automaton is itself, state by state, and Is says so; the minimal automaton of what is not accepted has the same states and ways, and accepts just the others; its arguments read behind the call as before. -/
import Derived.Test.YthjenemmhlljfabJu
import Derived.Test.YthjenemmhlljfabMp
import Derived.Test.YthjenemmhlljfabLq
import Derived.Deep.RegionHeld3
namespace Go.Proofs.Ythjenemmhlljfab.minimOnce
open Go Go.ChangeShapes Go.WideShapes Go.ChangeAt Go.RowKit Go.Lib
open Go.ChangeMaps (open_string shut_string)
set_option linter.unusedVariables false

theorem good_len {A : Aut} (G : Good A) : A.nx.length ≤ 9223372036854775806 ∧ A.ac.length ≤ 9223372036854775806 := by
  have h1 := G.len
  have h2 := G.n2
  have h3 : (A.ac.length : Int) * A.k ≤ 4096 * 8 := Int.mul_le_mul (by omega) G.k8 (by have := G.k1; omega) (by omega)
  omega
theorem facts {A : Aut} (G : Good A) : ∃ (B N O : Aut) (T T2 T5 : List Int), B.nx.length ≤ 32768 ∧ B.ac.length ≤ 4096 ∧ O.nx = B.nx ∧ O.ac.length = B.ac.length ∧ T2.length = B.ac.length ∧ (∀ s, s < B.ac.length → T2.getD s 0 = (s : Int) ∧ O.ac.getD s false = !B.ac.getD s false) ∧
    (∀ y x, AR y x A → Calls Try.prog 5 #[x] y (MQ B T 0 y)) ∧
    (∀ y x, AR y x B → Calls Try.prog 5 #[x] y (MQ B T2 0 y)) ∧
    (∀ y x, AR y x B → Calls Try.prog 8 #[x] y fun e w' => e = .returned (.tuple #[.bool true, .int .i64 0]) ∧ Below y.heap.size y w') ∧
    (∀ y x, AR y x A → Calls Try.prog 9 #[x] y (FQ N 0 y)) ∧
    (∀ y x, AR y x N → Calls Try.prog 5 #[x] y (MQ O T5 0 y)) := by
  obtain ⟨g1, g2, g3⟩ := good_mn G
  have gn := (good_re G).2.2.2
  have lA := good_len G
  have lB := good_len g1
  have lN := good_len gn
  refine ⟨mnA A, notA A, mnA (notA A), mnT A, mnT (mnA A), mnT (notA A), (mnA_len A).1, (mnA_len A).2, by rw [mn_not G]; rfl, by rw [mn_not G]; exact cmpA_len _, mnT_get g1, fun s hs => ⟨mnT_id G hs, ?_⟩, fun y x h => ?_, fun y x h => ?_, fun y x h => ?_, fun y x h => ?_, fun y x h => ?_⟩
  · rw [mn_not G]; exact cmp_a hs
  · have := minimal_any x A y h lA.1 lA.2
    rwa [chkA_ok G] at this
  · have := minimal_any x (mnA A) y h lB.1 lB.2
    rwa [chkA_ok g1, mn_mn G] at this
  · have := mis_any x (mnA A) y h lB.1 lB.2
    rwa [chkA_ok g1, mn_is G] at this
  · have := not_any x A y h lA.1 lA.2
    rwa [chkA_ok G] at this
  · have := minimal_any x (notA A) y h lN.1 lN.2
    rwa [chkA_ok gn] at this

set_option maxHeartbeats 16000000 in
set_option maxRecDepth 100000 in
theorem walk (va : Value) (A : Aut) (w : World) (ha : AR w va A) (hna : NilOk va) (hma : (A.nx.length + 2) * 8 ≤ 140737488355328) (hma2 : A.ac.length ≤ 140737488355328) :
    Calls Try.prog 3 #[va] w fun e w' => e = .returned (.bool true) ∧ Below w.heap.size w w' := by
  obtain ⟨an, cn, aa, ca, ea, _, _⟩ := ha.is
  have HAA : Hid (∀ y, Below w.heap.size w y → AR y va A) := fun y hy => ha.stay hy
  subst ea
  obtain ⟨V, hV⟩ : ∃ V, V = w.alloc (.cells #[.int .i64 A.k, .slice an A.nx.length cn, .slice aa A.ac.length ca] 25) := ⟨_, rfl⟩
  have HVE : Hid (V = w.alloc (.cells #[.int .i64 A.k, .slice an A.nx.length cn, .slice aa A.ac.length ca] 25)) := hV
  have HBV : Hid (Below w.heap.size w V) := by show Below _ _ _; rw [hV]; exact below_new _ _
  have HRV : Hid (RowAt V w.heap.size #[.int .i64 A.k, .slice an A.nx.length cn, .slice aa A.ac.length ca]) := by show RowAt _ _ _; rw [hV]; exact RowAt.last _ _ _
  clear hV ha hna
  rcases chkA_cases A with ⟨G, hc⟩ | ⟨G, hc⟩
  case inr =>
    have C1 : Hid (∀ y, Below w.heap.size w y → Calls Try.prog 5 #[.agg #[.int .i64 A.k, .slice an A.nx.length cn, .slice aa A.ac.length ca]] y (MQ zAut [] 80 y)) := fun y hy => by
      have := minimal_any _ A y (HAA.out y hy) (by omega) (by omega)
      rw [hc] at this
      rw [show zAut = mnA A by unfold mnA; rw [if_neg (by rw [hc]; decide)], show ([] : List Int) = mnT A by unfold mnT; rw [if_neg (by rw [hc]; decide)]]
      exact this
    clear hc hma hma2 G
    go_enter Try.func3, Try.ntmps3
    go_wp2_with fail
    rw [← HVE.out]
    refine (C1.out _ HBV.out).mono ?_
    rintro e w1 ⟨v1, x1, rfl, ha1, ht1, hb1⟩
    obtain ⟨n1, c1, a1, d1, rfl, o1, p1⟩ := ha1
    have HB1 : Hid (Below w.heap.size w w1) := go_on HBV.out hb1
    have cs : ∀ O o, (w1.alloc (.cells O 25)).cell? ⟨w1.heap.size, o, none⟩ = O[o]? := fun O => (RowAt.last w1 O 25).cell
    rw [show zAut.k = 0 from rfl, show zAut.nx.length = 0 from rfl, show zAut.ac.length = 0 from rfl]
    clear o1 p1 ht1 hb1 C1
    go_wp2_with (first
      | (go_at_call 6; refine (num10_any _ _).mono ?_; rintro e yn ⟨rfl, hyn⟩; subst yn)
      | (go_at_call 7; refine (live10_any _).mono ?_; rintro e y6 ⟨rfl, hy6⟩; have HY6 : Hid (Below w.heap.size w y6) := go_on (go_on HB1.out (below_new _ _)) hy6; clear hy6))
    go_ret
    exact ⟨rfl, HY6.out⟩
  case inl =>
  obtain ⟨B, N, O, T, T2, T5, hB1, hB2, hO1, hO2, hT2, hst, q1, q2, q3, q4, q5⟩ := facts G
  have C1 : Hid (∀ y x, AR y x A → Calls Try.prog 5 #[x] y (MQ B T 0 y)) := q1
  have C2 : Hid (∀ y x, AR y x B → Calls Try.prog 5 #[x] y (MQ B T2 0 y)) := q2
  have C3 : Hid (∀ y x, AR y x B → Calls Try.prog 8 #[x] y fun e w' => e = .returned (.tuple #[.bool true, .int .i64 0]) ∧ Below y.heap.size y w') := q3
  have C4 : Hid (∀ y x, AR y x A → Calls Try.prog 9 #[x] y (FQ N 0 y)) := q4
  have C5 : Hid (∀ y x, AR y x N → Calls Try.prog 5 #[x] y (MQ O T5 0 y)) := q5
  have HPR : Hid (B.nx.length ≤ 32768 ∧ B.ac.length ≤ 4096 ∧ O.nx = B.nx ∧ O.ac.length = B.ac.length ∧ T2.length = B.ac.length) := ⟨hB1, hB2, hO1, hO2, hT2⟩
  have HST : Hid (∀ s, s < B.ac.length → T2.getD s 0 = (s : Int) ∧ O.ac.getD s false = !B.ac.getD s false) := hst
  clear q1 q2 q3 q4 q5 hma hma2 hB1 hB2 hO1 hO2 hT2 hst hc G
  go_enter Try.func3, Try.ntmps3
  go_wp2_with fail
  rw [← HVE.out]
  refine (C1.out _ _ (HAA.out _ HBV.out)).mono ?_
  rintro e w1 ⟨v1, x1, rfl, ha1, ht1, hb1⟩
  obtain ⟨n1, c1, a1, d1, rfl, o1, p1⟩ := ha1
  obtain ⟨t1, e1, rfl⟩ := own_shape ht1
  skip
  have HT1 : Hid (w1.ownsRow V.heap.size 3 1 (.slice t1 T.length e1) T.length (zC T)) := ht1
  have HG1 : Hid (Below V.heap.size V w1) := hb1
  have HO1 : Hid (w1.ownsRow V.heap.size 3 1 (.slice n1 B.nx.length c1) B.nx.length (zC B.nx)) := o1
  have HP1 : Hid (w1.ownsRow V.heap.size 4 1 (.slice a1 B.ac.length d1) B.ac.length (bC B.ac)) := p1
  obtain ⟨U1, hU1⟩ : ∃ U1, U1 = w1.alloc (.cells #[.int .i64 B.k, .slice n1 B.nx.length c1, .slice a1 B.ac.length d1] 25) := ⟨_, rfl⟩
  have HUE1 : Hid (U1 = w1.alloc (.cells #[.int .i64 B.k, .slice n1 B.nx.length c1, .slice a1 B.ac.length d1] 25)) := hU1
  have HN1 : Hid (Below w1.heap.size w1 U1) := by show Below _ _ _; rw [hU1]; exact below_new _ _
  have HBU1 : Hid (Below V.heap.size V U1) := go_on (hb1) HN1.out
  have HR1 : Hid (RowAt U1 w1.heap.size #[.int .i64 B.k, .slice n1 B.nx.length c1, .slice a1 B.ac.length d1]) := by show RowAt _ _ _; rw [hU1]; exact RowAt.last _ _ _
  have HX1 : Hid (∀ y, Below U1.heap.size U1 y → AR y (.agg #[.int .i64 B.k, .slice n1 B.nx.length c1, .slice a1 B.ac.length d1]) B) := fun y hy => ⟨_, _, _, _, rfl, ((own_sr HO1.out).stay HN1.out).stay hy, ((own_sr HP1.out).stay HN1.out).stay hy⟩
  have cx : ∀ o, (w1.alloc (.cells #[.int .i64 B.k, .slice n1 B.nx.length c1, .slice a1 B.ac.length d1] 25)).cell? ⟨w1.heap.size, o, none⟩ = (#[.int .i64 B.k, .slice n1 B.nx.length c1, .slice a1 B.ac.length d1] : Array Value)[o]? := by have := HR1.out.cell; rw [hU1] at this; exact this
  clear hb1 o1 p1 hU1 ht1
  go_wp2_with (first
    | (go_at_call 6; refine (num10_any _ _).mono ?_; rintro e yn ⟨rfl, hyn⟩; subst yn))
  rw [← HUE1.out]
  clear cx
  refine (C2.out _ _ (HX1.out _ (Below.refl _ _))).mono ?_
  rintro e w2 ⟨v2, x2, rfl, ha2, ht2, hb2⟩
  obtain ⟨n2, c2, a2, d2, rfl, o2, p2⟩ := ha2
  obtain ⟨t2, e2, rfl⟩ := own_shape ht2
  rw [HPR.out.2.2.2.2] at ht2 ⊢
  have HT2 : Hid (w2.ownsRow U1.heap.size 3 1 (.slice t2 B.ac.length e2) B.ac.length (zC T2)) := ht2
  have HG2 : Hid (Below U1.heap.size U1 w2) := hb2
  have HO2 : Hid (w2.ownsRow U1.heap.size 3 1 (.slice n2 B.nx.length c2) B.nx.length (zC B.nx)) := o2
  have HP2 : Hid (w2.ownsRow U1.heap.size 4 1 (.slice a2 B.ac.length d2) B.ac.length (bC B.ac)) := p2
  obtain ⟨U2, hU2⟩ : ∃ U2, U2 = w2.alloc (.cells #[.int .i64 B.k, .slice n2 B.nx.length c2, .slice a2 B.ac.length d2] 25) := ⟨_, rfl⟩
  have HUE2 : Hid (U2 = w2.alloc (.cells #[.int .i64 B.k, .slice n2 B.nx.length c2, .slice a2 B.ac.length d2] 25)) := hU2
  have HN2 : Hid (Below w2.heap.size w2 U2) := by show Below _ _ _; rw [hU2]; exact below_new _ _
  have HBU2 : Hid (Below V.heap.size V U2) := go_on (go_on HBU1.out hb2) HN2.out
  have HR2 : Hid (RowAt U2 w2.heap.size #[.int .i64 B.k, .slice n2 B.nx.length c2, .slice a2 B.ac.length d2]) := by show RowAt _ _ _; rw [hU2]; exact RowAt.last _ _ _
  have HX2 : Hid (∀ y, Below U2.heap.size U2 y → AR y (.agg #[.int .i64 B.k, .slice n2 B.nx.length c2, .slice a2 B.ac.length d2]) B) := fun y hy => ⟨_, _, _, _, rfl, ((own_sr HO2.out).stay HN2.out).stay hy, ((own_sr HP2.out).stay HN2.out).stay hy⟩
  have cx : ∀ o, (w2.alloc (.cells #[.int .i64 B.k, .slice n2 B.nx.length c2, .slice a2 B.ac.length d2] 25)).cell? ⟨w1.heap.size, o, none⟩ = (#[.int .i64 B.k, .slice n1 B.nx.length c1, .slice a1 B.ac.length d1] : Array Value)[o]? := by have := (HR1.out.stay (go_on HG2.out HN2.out)).cell; rw [hU2] at this; exact this
  clear hb2 o2 p2 hU2 ht2
  go_wp2_with (first
    | (go_at_call 6; refine (num10_any _ _).mono ?_; rintro e yn ⟨rfl, hyn⟩; subst yn))
  rw [← HUE2.out]
  clear cx
  have HU12 : Hid (Below U1.heap.size U1 U2) := go_on HG2.out HN2.out
  refine (C3.out _ _ (HX1.out _ HU12.out)).mono ?_
  rintro e w3 ⟨rfl, hb3⟩
  have HG3 : Hid (Below U2.heap.size U2 w3) := hb3
  have HB3 : Hid (Below V.heap.size V w3) := go_on HBU2.out hb3
  have cx := (HRV.out.stay HB3.out).cell
  clear hb3
  go_wp2_with fail
  clear cx
  refine (C4.out _ _ (HAA.out _ (go_on HBV.out HB3.out))).mono ?_
  rintro e w4 ⟨v4, rfl, ha4, hb4⟩
  obtain ⟨n4, c4, a4, d4, rfl, o4, p4⟩ := ha4
  have HG4 : Hid (Below w3.heap.size w3 w4) := hb4
  have HO4 : Hid (w4.ownsRow w3.heap.size 3 1 (.slice n4 N.nx.length c4) N.nx.length (zC N.nx)) := o4
  have HP4 : Hid (w4.ownsRow w3.heap.size 4 1 (.slice a4 N.ac.length d4) N.ac.length (bC N.ac)) := p4
  obtain ⟨U4, hU4⟩ : ∃ U4, U4 = w4.alloc (.cells #[.int .i64 N.k, .slice n4 N.nx.length c4, .slice a4 N.ac.length d4] 25) := ⟨_, rfl⟩
  have HUE4 : Hid (U4 = w4.alloc (.cells #[.int .i64 N.k, .slice n4 N.nx.length c4, .slice a4 N.ac.length d4] 25)) := hU4
  have HN4 : Hid (Below w4.heap.size w4 U4) := by show Below _ _ _; rw [hU4]; exact below_new _ _
  have HBU4 : Hid (Below V.heap.size V U4) := go_on (go_on HB3.out hb4) HN4.out
  have HR4 : Hid (RowAt U4 w4.heap.size #[.int .i64 N.k, .slice n4 N.nx.length c4, .slice a4 N.ac.length d4]) := by show RowAt _ _ _; rw [hU4]; exact RowAt.last _ _ _
  have HX4 : Hid (∀ y, Below U4.heap.size U4 y → AR y (.agg #[.int .i64 N.k, .slice n4 N.nx.length c4, .slice a4 N.ac.length d4]) N) := fun y hy => ⟨_, _, _, _, rfl, ((own_sr HO4.out).stay HN4.out).stay hy, ((own_sr HP4.out).stay HN4.out).stay hy⟩
  have cx : ∀ o, (w4.alloc (.cells #[.int .i64 N.k, .slice n4 N.nx.length c4, .slice a4 N.ac.length d4] 25)).cell? ⟨w4.heap.size, o, none⟩ = (#[.int .i64 N.k, .slice n4 N.nx.length c4, .slice a4 N.ac.length d4] : Array Value)[o]? := by have := HR4.out.cell; rw [hU4] at this; exact this
  clear hb4 o4 p4 hU4
  go_wp2_with (first
    | (go_at_call 6; refine (num10_any _ _).mono ?_; rintro e yn ⟨rfl, hyn⟩; subst yn))
  rw [← HUE4.out]
  clear cx
  refine (C5.out _ _ (HX4.out _ (Below.refl _ _))).mono ?_
  rintro e w5 ⟨v5, x5, rfl, ha5, ht5, hb5⟩
  obtain ⟨n5, c5, a5, d5, rfl, o5, p5⟩ := ha5
  obtain ⟨t5, e5, rfl⟩ := own_shape ht5
  rw [HPR.out.2.2.2.1] at p5 ⊢
  have HO5 : Hid (w5.ownsRow U4.heap.size 3 1 (.slice n5 O.nx.length c5) O.nx.length (zC O.nx)) := o5
  have HP5 : Hid (w5.ownsRow U4.heap.size 4 1 (.slice a5 B.ac.length d5) B.ac.length (bC O.ac)) := p5
  obtain ⟨Z, hZ⟩ : ∃ Z, Z = w5.alloc (.cells #[.int .i64 O.k, .slice n5 O.nx.length c5, .slice a5 B.ac.length d5] 25) := ⟨_, rfl⟩
  have HZE : Hid (Z = w5.alloc (.cells #[.int .i64 O.k, .slice n5 O.nx.length c5, .slice a5 B.ac.length d5] 25)) := hZ
  have HN5 : Hid (Below w5.heap.size w5 Z) := by show Below _ _ _; rw [hZ]; exact below_new _ _
  have HZ4 : Hid (Below U4.heap.size U4 Z) := go_on hb5 HN5.out
  have HZV : Hid (Below V.heap.size V Z) := go_on HBU4.out HZ4.out
  have HZ3 : Hid (Below w3.heap.size w3 Z) := go_on (go_on HG4.out HN4.out) HZ4.out
  have HZ2 : Hid (Below U2.heap.size U2 Z) := go_on HG3.out HZ3.out
  have HZ1 : Hid (Below U1.heap.size U1 Z) := go_on HU12.out HZ2.out
  have HR1Z : Hid (RowAt Z w1.heap.size #[.int .i64 B.k, .slice n1 B.nx.length c1, .slice a1 B.ac.length d1]) := HR1.out.stay HZ1.out
  have HR2Z : Hid (RowAt Z w2.heap.size #[.int .i64 B.k, .slice n2 B.nx.length c2, .slice a2 B.ac.length d2]) := HR2.out.stay HZ2.out
  have HR5Z : Hid (RowAt Z w5.heap.size #[.int .i64 O.k, .slice n5 O.nx.length c5, .slice a5 B.ac.length d5]) := by show RowAt _ _ _; rw [hZ]; exact RowAt.last _ _ _
  have HS1 : Hid (∀ y, Below Z.heap.size Z y → Calls Try.prog 10 #[(.agg #[.int .i64 B.k, .slice n2 B.nx.length c2, .slice a2 B.ac.length d2]), (.agg #[.int .i64 B.k, .slice n1 B.nx.length c1, .slice a1 B.ac.length d1])] y fun e w' => e = .returned (.bool true) ∧ Below y.heap.size y w') := fun y hy => sameAuto_any _ _ B y (HX2.out y (go_on HZ2.out hy)) (HX1.out y (go_on HZ1.out hy)) (by have := HPR.out; omega) (by have := HPR.out; omega)
  have HS2 : Hid (∀ y, Below Z.heap.size Z y → Calls Try.prog 11 #[.slice n5 O.nx.length c5, .slice n1 B.nx.length c1] y fun e w' => e = .returned (.bool true) ∧ Below y.heap.size y w') := fun y hy => by
    rw [HPR.out.2.2.1]
    exact same_any n5 n1 c5 c1 B.nx y (by rw [← HPR.out.2.2.1]; exact ((own_sr HO5.out).stay HN5.out).stay hy) (((own_sr HO1.out).stay (go_on HN1.out HZ1.out)).stay hy) (by have := HPR.out; omega)
  have HTZ : Hid (∀ y, Below Z.heap.size Z y → SR y t2 (zC T2)) := fun y hy => ((own_sr HT2.out).stay (go_on HN2.out HZ2.out)).stay hy
  have HAB : Hid (∀ y, Below Z.heap.size Z y → SR y a1 (bC B.ac)) := fun y hy => ((own_sr HP1.out).stay (go_on HN1.out HZ1.out)).stay hy
  have HAO : Hid (∀ y, Below Z.heap.size Z y → SR y a5 (bC O.ac)) := fun y hy => ((own_sr HP5.out).stay HN5.out).stay hy
  have hB2 : B.ac.length ≤ 4096 := HPR.out.2.1
  have r1 := HR1Z.out.cell
  have r2 := HR2Z.out.cell
  have q1 : ∀ o, (w5.alloc (.cells #[.int .i64 O.k, .slice n5 O.nx.length c5, .slice a5 B.ac.length d5] 25)).cell? ⟨w1.heap.size, o, none⟩ = (#[.int .i64 B.k, .slice n1 B.nx.length c1, .slice a1 B.ac.length d1] : Array Value)[o]? := by have := HR1Z.out.cell; rw [hZ] at this; exact this
  have q2 : ∀ o, (w5.alloc (.cells #[.int .i64 O.k, .slice n5 O.nx.length c5, .slice a5 B.ac.length d5] 25)).cell? ⟨w2.heap.size, o, none⟩ = (#[.int .i64 B.k, .slice n2 B.nx.length c2, .slice a2 B.ac.length d2] : Array Value)[o]? := by have := HR2Z.out.cell; rw [hZ] at this; exact this
  clear hb5 o5 p5 ht5 hZ C1 C2 C3 C4 C5

  go_wp2_with (first
    | (go_at_call 6; refine (num10_any _ _).mono ?_; rintro e yn ⟨rfl, hyn⟩; subst yn)
    | (go_at_call 10; rw [← HZE.out]; refine (HS1.out _ (Below.refl _ _)).mono ?_; rintro e y1 ⟨rfl, hy1⟩; have HY1 : Hid (Below Z.heap.size Z y1) := hy1; have qa1 := (HR1Z.out.stay hy1).cell; have qa5 := (HR5Z.out.stay hy1).cell; clear hy1 HS1 r1 r2 q1 q2)
    | (go_at_call 11; refine (HS2.out _ HY1.out).mono ?_; rintro e y2 ⟨rfl, hy2⟩; have HY2 : Hid (Below Z.heap.size Z y2) := go_on HY1.out hy2; have qb1 := (HR1Z.out.stay HY2.out).cell; have qb5 := (HR5Z.out.stay HY2.out).cell; clear hy2 HS2 qa1 qa5))
  have cells : ∀ (y : World) (i : Nat), Below Z.heap.size Z y → i < B.ac.length → ∃ g1 o1 g2 o2 g3 o3, t2 = some ⟨g1, o1, none⟩ ∧ a5 = some ⟨g2, o2, none⟩ ∧ a1 = some ⟨g3, o3, none⟩ := fun y i hy hi => by
    obtain ⟨g1, o1, e1, _, _⟩ := (HTZ.out y hy).int (i := i) (by rw [HPR.out.2.2.2.2]; exact hi)
    obtain ⟨g2, o2, e2, _, _⟩ := (HAO.out y hy).bool (i := i) (by rw [HPR.out.2.2.2.1]; exact hi)
    obtain ⟨g3, o3, e3, _, _⟩ := (HAB.out y hy).bool (i := i) hi
    exact ⟨g1, o1, g2, o2, g3, o3, e1, e2, e3⟩
  have HCE : Hid (∀ (y : World) (i : Nat), Below Z.heap.size Z y → i < B.ac.length → ∃ g1 o1 g2 o2 g3 o3, t2 = some ⟨g1, o1, none⟩ ∧ a5 = some ⟨g2, o2, none⟩ ∧ a1 = some ⟨g3, o3, none⟩) := cells
  clear cells qb1 qb5
  go_loopw [16] (fun vi wr => ∃ i : Nat, vi = .int .i64 i ∧ i ≤ B.ac.length ∧ Below Z.heap.size Z wr) (fun vi _ => B.ac.length - (intOf vi).toNat)
  case atStart => exact ⟨0, rfl, Nat.zero_le _, HY2.out⟩
  case round =>
    obtain ⟨i, rfl, hi, hb⟩ := hrel
    have HB : Hid (Below Z.heap.size Z wr) := hb
    by_cases hlt : i < B.ac.length
    · have hiI : (i : Int) < B.ac.length := by omega
      obtain ⟨g1, o1, g2, o2, g3, o3, rfl, rfl, rfl⟩ := HCE.out wr i hb hlt
      have k1 : wr.cell? ⟨g1, o1 + i, none⟩ = some (.int .i64 (i : Int)) := by
        obtain ⟨g', o', e', _, hc'⟩ := (HTZ.out wr hb).int (i := i) (by rw [HPR.out.2.2.2.2]; exact hlt)
        simp only [Option.some.injEq, Addr.mk.injEq] at e'
        obtain ⟨rfl, rfl, _⟩ := e'
        rw [(HST.out i hlt).1] at hc'
        exact hc'
      have k2 : wr.cell? ⟨g2, o2 + i, none⟩ = some (.bool (!B.ac.getD i false)) := by
        obtain ⟨g', o', e', _, hc'⟩ := (HAO.out wr hb).bool (i := i) (by rw [HPR.out.2.2.2.1]; exact hlt)
        simp only [Option.some.injEq, Addr.mk.injEq] at e'
        obtain ⟨rfl, rfl, _⟩ := e'
        rw [(HST.out i hlt).2] at hc'
        exact hc'
      have k3 : wr.cell? ⟨g3, o3 + i, none⟩ = some (.bool (B.ac.getD i false)) := by
        obtain ⟨g', o', e', _, hc'⟩ := (HAB.out wr hb).bool (i := i) hlt
        simp only [Option.some.injEq, Addr.mk.injEq] at e'
        obtain ⟨rfl, rfl, _⟩ := e'
        exact hc'
      obtain ⟨b, hbe⟩ : ∃ b, B.ac.getD i false = b := ⟨_, rfl⟩
      rw [hbe] at k2 k3
      clear hbe hb
      cases b
      · have S0 : (∀ o, wr.drew.cell? ⟨w1.heap.size, o, none⟩ = (#[.int .i64 B.k, .slice n1 B.nx.length c1, .slice (some ⟨g3, o3, none⟩) B.ac.length d1] : Array Value)[o]?) ∧ (∀ o, wr.drew.cell? ⟨w5.heap.size, o, none⟩ = (#[.int .i64 O.k, .slice n5 O.nx.length c5, .slice (some ⟨g2, o2, none⟩) B.ac.length d5] : Array Value)[o]?) ∧ wr.drew.cell? ⟨g1, o1 + i, none⟩ = some (.int .i64 (i : Int)) ∧ wr.drew.cell? ⟨g2, o2 + i, none⟩ = some (.bool true) ∧ wr.drew.cell? ⟨g3, o3 + i, none⟩ = some (.bool false) := ⟨(HR1Z.out.stay HB.out).cell, (HR5Z.out.stay HB.out).cell, k1, k2, k3⟩
        clear k1 k2 k3
        go_wp2_with fail
        go_region_held3 (fun y => (∀ o, y.cell? ⟨w1.heap.size, o, none⟩ = (#[.int .i64 B.k, .slice n1 B.nx.length c1, .slice (some ⟨g3, o3, none⟩) B.ac.length d1] : Array Value)[o]?) ∧ (∀ o, y.cell? ⟨w5.heap.size, o, none⟩ = (#[.int .i64 O.k, .slice n5 O.nx.length c5, .slice (some ⟨g2, o2, none⟩) B.ac.length d5] : Array Value)[o]?) ∧ y.cell? ⟨g1, o1 + i, none⟩ = some (.int .i64 (i : Int)) ∧ y.cell? ⟨g2, o2 + i, none⟩ = some (.bool true) ∧ y.cell? ⟨g3, o3 + i, none⟩ = some (.bool false)) (first | exact S0 | assumption) (fail)
        clear S0
        go_wp2_with fail
        go_roundw
        case rel => exact ⟨i + 1, by go_num, by omega, HB.out.drew⟩
        case measure => simp [intOf]; omega
      · have S0 : (∀ o, wr.drew.cell? ⟨w1.heap.size, o, none⟩ = (#[.int .i64 B.k, .slice n1 B.nx.length c1, .slice (some ⟨g3, o3, none⟩) B.ac.length d1] : Array Value)[o]?) ∧ (∀ o, wr.drew.cell? ⟨w5.heap.size, o, none⟩ = (#[.int .i64 O.k, .slice n5 O.nx.length c5, .slice (some ⟨g2, o2, none⟩) B.ac.length d5] : Array Value)[o]?) ∧ wr.drew.cell? ⟨g1, o1 + i, none⟩ = some (.int .i64 (i : Int)) ∧ wr.drew.cell? ⟨g2, o2 + i, none⟩ = some (.bool false) ∧ wr.drew.cell? ⟨g3, o3 + i, none⟩ = some (.bool true) := ⟨(HR1Z.out.stay HB.out).cell, (HR5Z.out.stay HB.out).cell, k1, k2, k3⟩
        clear k1 k2 k3
        go_wp2_with fail
        go_region_held3 (fun y => (∀ o, y.cell? ⟨w1.heap.size, o, none⟩ = (#[.int .i64 B.k, .slice n1 B.nx.length c1, .slice (some ⟨g3, o3, none⟩) B.ac.length d1] : Array Value)[o]?) ∧ (∀ o, y.cell? ⟨w5.heap.size, o, none⟩ = (#[.int .i64 O.k, .slice n5 O.nx.length c5, .slice (some ⟨g2, o2, none⟩) B.ac.length d5] : Array Value)[o]?) ∧ y.cell? ⟨g1, o1 + i, none⟩ = some (.int .i64 (i : Int)) ∧ y.cell? ⟨g2, o2 + i, none⟩ = some (.bool false) ∧ y.cell? ⟨g3, o3 + i, none⟩ = some (.bool true)) (first | exact S0 | assumption) (fail)
        clear S0
        go_wp2_with fail
        go_roundw
        case rel => exact ⟨i + 1, by go_num, by omega, HB.out.drew⟩
        case measure => simp [intOf]; omega
    · have hiI : ¬ (i : Int) < B.ac.length := by omega
      clear hb
      go_wp2_with (first
        | (go_at_call 7; refine (live10_any _).mono ?_; rintro e y6 ⟨rfl, hy6⟩; have HY6 : Hid (Below w.heap.size w y6) := go_on (go_on (go_on HBV.out HZV.out) HB.out) hy6; clear hy6))
      go_ret
      exact ⟨rfl, HY6.out⟩

/-! ### The row's step -/
theorem own : ownKnob Try.prog.godebug = none := by kernel_rfl
set_option maxRecDepth 100000 in
theorem lifted (os : Os) (started : os.Started) (H : Type) (enc : TypeId × Value → H) :
    ReturnsInHanded {} Try.checked os 3 .any (Rows.minimOnceSpec.pre6 enc Try.prog Try.f3 Rows.minimOnceRow.domain false) (Rows.minimOnceSpec.post enc Try.prog Try.f3 false true false false) := by
  refine returnsInHanded_of_change_sized (C := Try.checked) own started (by kernel_rfl) Try.func3
    (ChangeSpec.witness6 (enc := enc) (C := Try.checked) false ⟨#[], #[.agg #[.int .i64 0, .slice none 0 0, .slice none 0 0]], []⟩ 8 (by kernel_rfl) (by kernel_rfl) (by kernel_rfl) (by kernel_rfl)) ?_
  intro W base args ds gs before hval0 hW hcnd hsz0 _
  have hval : ∀ (j : Nat) t v, Try.f3.params[j]? = some t → args[j]? = some v → Value.okWide Try.prog W .any base t v := hval0
  clear hval0
  have hsz : (DataW.weightsEach Try.prog (Try.f3.params.toList ++ Rows.minimOnceSpec.plain.varTypes Try.prog) (ds ++ gs)).all (· ≤ reachBytes) = true := hsz0
  clear hsz0
  have hW' := hW
  obtain ⟨p, q, hA0, hV, rfl, hfz, hnd⟩ := hW
  have hA : DataW.TrodAll enc Try.prog W 0 (fun _ => true) true Try.f3.params.toList args.toList ds p := hA0
  rw [Try.params3] at hA hval hsz
  obtain ⟨v0, vs0, d0, ds0, p0, q0, hargs, rfl, rfl, h0, r0⟩ := trodAll_cons hA
  obtain ⟨rfl, rfl, rfl⟩ := trodAll_nil r0
  obtain rfl : args = #[v0] := by cases args; simp_all
  obtain ⟨rfl, rfl⟩ := trodVars_none hV
  obtain ⟨a0, x0, n0, w0, dk0, dn0, da0, e0, y0, z0⟩ := open_auto (hval 0 25 v0 rfl rfl) h0
  have b0 := auto_bounds hsz (j := 0) rfl (by rw [e0]; rfl) y0 z0
  have g0 : ∀ x ∈ p0, x.block < W.heap.size := fun x hx => hW'.lt x (by simp [hx])
  clear hA0
  refine (walk v0 a0 W x0 n0 b0.1 b0.2).mono fun e W' ⟨he, bel⟩ => ?_
  subst he
  exact ⟨_, rfl, _, _, _, [], _, [], hW', trodAll_mk1 (shut_bool Try.underlying4 _), (trodAll_cons_mk (Below.trod Try.laidOut (by kernel_rfl) (of_decide_eq_true (by kernel_rfl)) h0 bel g0) trodAll_mk0), rfl, bel.frame _, fun h => by cases h⟩

theorem over : Rows.minimOnceRow.holds Try.pinned (OpenSpec.ofChange Rows.minimOnceSpec) :=
  OpenClaim.holds_of_wide 3 Try.f3 rfl rfl rfl rfl rfl rfl rfl ⟨rfl, rfl, rfl, rfl, rfl⟩ rfl rfl rfl rfl rfl (by kernel_rfl) Try.func3 (by kernel_rfl)
    (of_decide_eq_true (by kernel_rfl)) (by unfold Func.isWrapper; first | (rw [if_pos (by decide +kernel)]; kernel_rfl) | (rw [if_neg (by decide +kernel)]; exact ⟨rfl, rfl⟩))
    (fun os started H enc _ => lifted os started H enc)

end Go.Proofs.Ythjenemmhlljfab.minimOnce
namespace Go.Proofs.Ythjenemmhlljfab
/-- The given statement. -/
theorem minimOnce_holds : Rows.MinimOnceSaid := minimOnce.over
end Go.Proofs.Ythjenemmhlljfab
