/- Proved: eggboxlaw10.MinimNerode answers true at every automaton's data a and all words u, v, w (P10.5, Myhill and Nerode): two words lead to one state of the minimal automaton just if nothing behind them tells them apart; it accepts what a accepts, and has no more states; its arguments read behind the call as before. -/
import Derived.Test.YthjenemmhlljfaaJu
import Derived.Test.YthjenemmhlljfaaMp
import Derived.Test.YthjenemmhlljfaaLl
import Derived.Test.YthjenemmhlljfaaLr
import Derived.Test.YthjenemmhlljfaaQw
import Derived.Deep.RegionHeld3
namespace Go.Proofs.Ythjenemmhlljfaa.minimNerode
open Go Go.ChangeShapes Go.WideShapes Go.ChangeAt Go.RowKit Go.Lib
open Go.ChangeMaps (open_string shut_string)
set_option linter.unusedVariables false

set_option maxHeartbeats 2000000 in
set_option maxRecDepth 100000 in
theorem good_any (v : Value) (A : Aut) (w : World) (h : AR w v A) (hm : A.nx.length ≤ 9223372036854775806) (hm2 : A.ac.length ≤ 9223372036854775806) :
    Calls Try.prog 26 #[v] w fun e w' => e = .returned (.bool (decide (chkA A = 0))) ∧ Below w.heap.size w w' := by
  obtain ⟨an, cn, aa, ca, e, k1, k2⟩ := h.is
  have HC : Hid (∀ y, Below w.heap.size w y → Calls Try.prog 33 #[v] y fun e w' => e = .returned (.int .i64 (chkA A)) ∧ Below y.heap.size y w') := fun y hy => racheck_any v A y (h.stay hy) hm hm2
  subst e
  clear h k1 k2
  go_enter Try.func26, Try.ntmps26
  go_wp2_with fail
  refine (HC.out _ (below_new _ _)).mono ?_
  rintro e w1 ⟨rfl, hb1⟩
  have HB : Hid (Below w.heap.size w w1) := go_on (below_new _ _) hb1
  clear hb1
  rcases chkA_cases A with ⟨G, hc⟩ | ⟨G, hc⟩
  · have HC0 : Hid (chkA A = 0) := hc
    rw [hc]
    go_wp2_with fail
    go_ret
    exact ⟨by rw [decide_eq_true HC0.out]; rfl, HB.out⟩
  · have HC0 : Hid (¬ chkA A = 0) := by show ¬ _; rw [hc]; decide
    rw [hc]
    go_wp2_with fail
    go_ret
    exact ⟨by rw [decide_eq_false HC0.out]; rfl, HB.out⟩

theorem chk_split {k : Int} {u v : ByteArray} (h : chk k (u ++ v) = 0) : chk k u = 0 ∧ chk k v = 0 := by
  unfold chk at h ⊢
  split at h
  · cases h
  · rename_i hk
    split at h
    · rename_i ha
      simp only [ByteArray.data_append, Array.toList_append, List.all_append, Bool.and_eq_true] at ha
      rw [if_neg hk, if_neg hk, if_pos ha.1, if_pos ha.2]
      exact ⟨rfl, rfl⟩
    · cases h
theorem good_len {A : Aut} (G : Good A) : A.nx.length ≤ 9223372036854775806 ∧ A.ac.length ≤ 9223372036854775806 := by
  have h1 := G.len
  have h2 := G.n2
  have h3 : (A.ac.length : Int) * A.k ≤ 4096 * 8 := Int.mul_le_mul (by omega) G.k8 (by have := G.k1; omega) (by omega)
  omega
theorem facts {A : Aut} (G : Good A) {u v z : ByteArray} (hu : Lts A.k u) (hv : Lts A.k v) (hz : Lts A.k z) : ∃ (B : Aut) (T : List Int) (S R X Y : Nat), Good B ∧ B.k = A.k ∧ B.ac.length ≤ A.ac.length ∧ T.length = A.ac.length ∧ S < A.ac.length ∧ R < A.ac.length ∧ X < B.ac.length ∧ Y < B.ac.length ∧ goN A 0 (lets u) = S ∧ goN A 0 (lets v) = R ∧ goN B 0 (lets u) = X ∧ goN B 0 (lets v) = Y ∧ T.getD S 0 = (X : Int) ∧ T.getD R 0 = (Y : Int) ∧ B.ac.getD X false = A.ac.getD S false ∧
    (∀ y x, AR y x A → Calls Try.prog 19 #[x] y (MQ B T 0 y)) ∧
    ((apO A S R = none ∧ X = Y ∧ acW A S (lets z) = acW A R (lets z)) ∨ ∃ q, apO A S R = some q ∧ X ≠ Y ∧ Lk A.k.toNat q ∧ acW A S q ≠ acW A R q) := by
  have h0 := G.n1
  obtain ⟨g1, g2, g3⟩ := good_mn G
  have lA := good_len G
  have lS := wrun_lt G (s := 0) (by omega) hu.lk
  have lR := wrun_lt G (s := 0) (by omega) hv.lk
  have t1 := mn_to G hu.lk
  have t2 := mn_to G hv.lk
  refine ⟨mnA A, mnT A, goN A 0 (lets u), goN A 0 (lets v), goN (mnA A) 0 (lets u), goN (mnA A) 0 (lets v), g1, g2, g3, ?_, lS, lR, wrun_lt g1 (by have := g1.n1; omega) (by rw [g2]; exact hu.lk), wrun_lt g1 (by have := g1.n1; omega) (by rw [g2]; exact hv.lk), rfl, rfl, rfl, rfl, t1.1, t2.1, t1.2, fun y x h => ?_, ?_⟩
  · unfold mnT; rw [if_pos (chkA_ok G)]; simp
  · have := minimal_any x A y h lA.1 lA.2
    rwa [chkA_ok G] at this
  · have hs := mn_same G hu.lk hv.lk
    have hc := apO_cl G lS lR
    cases hq : apO A (goN A 0 (lets u)) (goN A 0 (lets v)) with
    | none =>
      have e := hc.1 hq
      exact .inl ⟨rfl, hs.2 e, (cl_word G lS lR).1 e _ hz.lk⟩
    | some q =>
      have hL := lsh_is hq
      refine .inr ⟨q, rfl, fun e => ?_, hL.1, (sx_ac A A (_, _) q).1 hL.2.1⟩
      have := hc.2 (hs.1 e)
      have : (some q : Option (List Nat)) = none := hq.symm.trans this
      cases this

set_option maxHeartbeats 16000000 in
set_option maxRecDepth 100000 in
theorem walk (va : Value) (A : Aut) (u v z : ByteArray) (w : World) (ha : AR w va A) (hna : NilOk va) (hma : (A.nx.length + 2) * 8 ≤ 140737488355328) (hma2 : A.ac.length ≤ 140737488355328) (hu : u.size ≤ 140737488355327) (hv : v.size ≤ 140737488355327) (hz : z.size ≤ 140737488355327) :
    Calls Try.prog 6 #[va, .string u, .string v, .string z] w fun e w' => e = .returned (.bool true) ∧ Below w.heap.size w w' := by
  obtain ⟨an, cn, aa, ca, ea, _, k2⟩ := ha.is
  have HAA : Hid (∀ y, Below w.heap.size w y → AR y va A) := fun y hy => ha.stay hy
  have HGA : Hid (∀ y, Below w.heap.size w y → Calls Try.prog 26 #[va] y fun e w' => e = .returned (.bool (decide (chkA A = 0))) ∧ Below y.heap.size y w') := fun y hy => good_any va A y (ha.stay hy) (by omega) (by omega)
  have K2 : Hid (∀ y, Below w.heap.size w y → SR y aa (bC A.ac)) := fun y hy => k2.stay hy
  have HDF : Hid (∀ y (s t : Int), Below w.heap.size w y → Calls Try.prog 24 #[va, .int .i64 s, .int .i64 t] y (DfQ A s t y)) := fun y s t hy => mdiffer_any va A y (ha.stay hy) (by omega) (by omega) s t
  have huv : (u ++ v).size ≤ 9223372036854775807 := by rw [ByteArray.size_append]; omega
  have huz : (u ++ v ++ z).size ≤ 9223372036854775807 := by rw [ByteArray.size_append, ByteArray.size_append]; omega
  have HCK : Hid (∀ y, Calls Try.prog 27 #[.int .i64 A.k, .string (u ++ v ++ z)] y fun e w' => e = .returned (.int .i64 (chk A.k (u ++ v ++ z))) ∧ Below y.heap.size y w') := fun y => rcheck_any A.k _ y (by unfold maxLen; omega)
  clear ha hna hma hma2 k2
  rcases chkA_cases A with ⟨G, hc⟩ | ⟨G, hc⟩
  case inr =>
    rw [hc] at HGA
    subst ea
    clear hc G
    go_enter Try.func6, Try.ntmps6
    go_wp2_with fail
    refine (HGA.out _ (below_new _ _)).mono ?_
    rintro e w1 ⟨rfl, hb1⟩
    have HB1 : Hid (Below w.heap.size w w1) := go_on (below_new _ _) hb1
    clear hb1
    go_wp2_with (first
      | (go_at_call 18; refine (live10_any _).mono ?_; rintro e y6 ⟨rfl, hy6⟩; have HY6 : Hid (Below w.heap.size w y6) := go_on HB1.out hy6; clear hy6))
    go_ret
    exact ⟨rfl, HY6.out⟩
  case inl =>
  rw [hc] at HGA
  have hn1 := G.n1
  have hn2 := G.n2
  have HG : Hid (Good A) := G
  obtain ⟨ga, oa, rfl, _, _⟩ := (K2.out w (Below.refl _ _)).bool (i := 0) (by omega)
  subst ea
  have CA : Hid (∀ y i, Below w.heap.size w y → i < A.ac.length → y.cell? ⟨ga, oa + i, none⟩ = some (.bool (A.ac.getD i false))) := fun y i hy hi => by
    obtain ⟨g', o', e', _, hc'⟩ := (K2.out y hy).bool hi
    simp only [Option.some.injEq, Addr.mk.injEq] at e'
    obtain ⟨rfl, rfl, _⟩ := e'
    exact hc'
  have HRV : Hid (RowAt (w.alloc (.cells #[.int .i64 A.k, .slice an A.nx.length cn, .slice (some ⟨ga, oa, none⟩) A.ac.length ca] 25)) w.heap.size #[.int .i64 A.k, .slice an A.nx.length cn, .slice (some ⟨ga, oa, none⟩) A.ac.length ca]) := RowAt.last _ _ _
  go_enter Try.func6, Try.ntmps6
  go_wp2_with fail
  refine (HGA.out _ (below_new _ _)).mono ?_
  rintro e wa ⟨rfl, hba⟩
  have HBa : Hid (Below w.heap.size w wa) := go_on (below_new _ _) hba
  have HRa : Hid (RowAt wa w.heap.size #[.int .i64 A.k, .slice an A.nx.length cn, .slice (some ⟨ga, oa, none⟩) A.ac.length ca]) := HRV.out.stay hba
  have cs := HRa.out.cell
  clear hba
  go_wp2_with fail
  refine (HCK.out _).mono ?_
  rintro e wb ⟨rfl, hbb⟩
  have HBb : Hid (Below w.heap.size w wb) := go_on HBa.out hbb
  have HRb : Hid (RowAt wb w.heap.size #[.int .i64 A.k, .slice an A.nx.length cn, .slice (some ⟨ga, oa, none⟩) A.ac.length ca]) := HRa.out.stay hbb
  clear hbb cs HCK HGA
  by_cases hck : chk A.k (u ++ v ++ z) = 0
  case neg =>
    obtain ⟨E, hE⟩ : ∃ E, chk A.k (u ++ v ++ z) = E := ⟨_, rfl⟩
    rw [hE] at hck ⊢
    have qd : decide (E = 0) = false := decide_eq_false hck
    have qb : (E != 0) = true := by simpa using hck
    clear hE
    go_wp2_with (first
      | (go_at_call 18; refine (live10_any _).mono ?_; rintro e y6 ⟨rfl, hy6⟩; have HY6 : Hid (Below w.heap.size w y6) := go_on HBb.out hy6; clear hy6))
    go_ret
    exact ⟨rfl, HY6.out⟩
  case pos =>
  obtain ⟨h12, h3⟩ := chk_split hck
  obtain ⟨h1, h2⟩ := chk_split h12
  rw [hck]
  have Lu := chk_all h1
  have Lv := chk_all h2
  have Lz := chk_all h3
  obtain ⟨B, T, S, R, X, Y, gB, eK, lB, lT, hS, hR, hX, hY, e1, e2, e3, e4, tS, tR, eA, q1, hq⟩ := facts G Lu Lv Lz
  have HLU : Hid (Lts A.k u ∧ Lts A.k v ∧ Lts A.k z) := ⟨Lu, Lv, Lz⟩
  have C1 : Hid (∀ y x, AR y x A → Calls Try.prog 19 #[x] y (MQ B T 0 y)) := q1
  have HGB : Hid (∀ y x, AR y x B → Calls Try.prog 26 #[x] y fun e w' => e = .returned (.bool true) ∧ Below y.heap.size y w') := fun y x h => by
    have := good_any x B y h (good_len gB).1 (good_len gB).2
    rw [chkA_ok gB] at this
    exact this
  have HO1 : Hid (∀ y x, AR y x A → Calls Try.prog 28 #[x, .int .i64 0, .string u] y fun e w' => e = .returned (.int .i64 (S : Int)) ∧ Below y.heap.size y w') := fun y x h => by rw [← e1]; exact rgo_any x A y h G 0 (by omega) u Lu (by omega)
  have HO2 : Hid (∀ y x, AR y x A → Calls Try.prog 28 #[x, .int .i64 0, .string v] y fun e w' => e = .returned (.int .i64 (R : Int)) ∧ Below y.heap.size y w') := fun y x h => by rw [← e2]; exact rgo_any x A y h G 0 (by omega) v Lv (by omega)
  have HO3 : Hid (∀ y x, AR y x B → Calls Try.prog 28 #[x, .int .i64 0, .string u] y fun e w' => e = .returned (.int .i64 (X : Int)) ∧ Below y.heap.size y w') := fun y x h => by rw [← e3]; exact rgo_any x B y h gB 0 (by have := gB.n1; omega) u (by rw [eK]; exact Lu) (by omega)
  have HO4 : Hid (∀ y x, AR y x B → Calls Try.prog 28 #[x, .int .i64 0, .string v] y fun e w' => e = .returned (.int .i64 (Y : Int)) ∧ Below y.heap.size y w') := fun y x h => by rw [← e4]; exact rgo_any x B y h gB 0 (by have := gB.n1; omega) v (by rw [eK]; exact Lv) (by omega)
  have HTT : Hid (T.getD S 0 = (X : Int) ∧ T.getD R 0 = (Y : Int) ∧ B.ac.getD X false = A.ac.getD S false ∧ T.length = A.ac.length) := ⟨tS, tR, eA, lT⟩
  have HQ : Hid ((apO A S R = none ∧ X = Y ∧ acW A S (lets z) = acW A R (lets z)) ∨ ∃ q, apO A S R = some q ∧ X ≠ Y ∧ Lk A.k.toNat q ∧ acW A S q ≠ acW A R q) := hq
  have csb := HRb.out.cell
  clear hq h12 h3 h1 h2 hck Lu Lv Lz e1 e2 e3 e4 tS tR eA q1 gB eK huv huz hc G
  go_wp2_with fail
  refine (C1.out _ _ (HAA.out _ HBb.out)).mono ?_
  rintro e w1 ⟨v1, x1, rfl, ha1, ht1, hb1⟩
  obtain ⟨n1, c1, a1, d1, rfl, o1, p1⟩ := ha1
  have hBp : 0 < B.ac.length := by omega
  obtain ⟨gb, ob, ra1, _, _⟩ := (own_sr p1).bool (i := 0) hBp
  subst ra1
  obtain ⟨t1, f1, rfl⟩ := own_shape ht1
  have hsr := own_sr ht1
  have ht0 : 0 < T.length := by omega
  obtain ⟨gt, rfl⟩ : ∃ gt, t1 = some ⟨gt, 0, none⟩ := by
    rcases ht1.2 with ⟨_, h0⟩ | ⟨g', cap', cur, hv', _⟩
    · omega
    · simp only [Value.slice.injEq] at hv'
      exact ⟨g', hv'.1⟩
  have HSB : Hid (∀ y, Below w1.heap.size w1 y → SR y n1 (zC B.nx) ∧ SR y (some ⟨gb, ob, none⟩) (bC B.ac) ∧ SR y (some ⟨gt, 0, none⟩) (zC T)) := fun y hy => ⟨(own_sr o1).stay hy, (own_sr p1).stay hy, hsr.stay hy⟩
  have HB1 : Hid (Below w.heap.size w w1) := go_on HBb.out hb1
  have HRA1 : Hid (RowAt w1 w.heap.size #[.int .i64 A.k, .slice an A.nx.length cn, .slice (some ⟨ga, oa, none⟩) A.ac.length ca]) := HRb.out.stay hb1
  obtain ⟨U, hU⟩ : ∃ U, U = w1.alloc (.cells #[.int .i64 B.k, .slice n1 B.nx.length c1, .slice (some ⟨gb, ob, none⟩) B.ac.length d1] 25) := ⟨_, rfl⟩
  have HUE : Hid (U = w1.alloc (.cells #[.int .i64 B.k, .slice n1 B.nx.length c1, .slice (some ⟨gb, ob, none⟩) B.ac.length d1] 25)) := hU
  have HN1 : Hid (Below w1.heap.size w1 U) := by show Below _ _ _; rw [hU]; exact below_new _ _
  have HBU : Hid (Below w.heap.size w U) := go_on HB1.out HN1.out
  have HRM : Hid (RowAt U w1.heap.size #[.int .i64 B.k, .slice n1 B.nx.length c1, .slice (some ⟨gb, ob, none⟩) B.ac.length d1]) := by show RowAt _ _ _; rw [hU]; exact RowAt.last _ _ _
  have HRA : Hid (RowAt U w.heap.size #[.int .i64 A.k, .slice an A.nx.length cn, .slice (some ⟨ga, oa, none⟩) A.ac.length ca]) := HRA1.out.stay HN1.out
  have HXB : Hid (∀ y, Below U.heap.size U y → AR y (.agg #[.int .i64 B.k, .slice n1 B.nx.length c1, .slice (some ⟨gb, ob, none⟩) B.ac.length d1]) B) := fun y hy => ⟨_, _, _, _, rfl, (HSB.out y (go_on HN1.out hy)).1, (HSB.out y (go_on HN1.out hy)).2.1⟩
  have ca : ∀ o, (w1.alloc (.cells #[.int .i64 B.k, .slice n1 B.nx.length c1, .slice (some ⟨gb, ob, none⟩) B.ac.length d1] 25)).cell? ⟨w.heap.size, o, none⟩ = (#[.int .i64 A.k, .slice an A.nx.length cn, .slice (some ⟨ga, oa, none⟩) A.ac.length ca] : Array Value)[o]? := by have := HRA.out.cell; rw [hU] at this; exact this
  have cm : ∀ o, (w1.alloc (.cells #[.int .i64 B.k, .slice n1 B.nx.length c1, .slice (some ⟨gb, ob, none⟩) B.ac.length d1] 25)).cell? ⟨w1.heap.size, o, none⟩ = (#[.int .i64 B.k, .slice n1 B.nx.length c1, .slice (some ⟨gb, ob, none⟩) B.ac.length d1] : Array Value)[o]? := by have := HRM.out.cell; rw [hU] at this; exact this
  have lTI : (T.length : Int) = A.ac.length := by omega
  have hdT : decide ((T.length : Int) = (A.ac.length : Int)) = true := decide_eq_true lTI
  have hbT : ((T.length : Int) != (A.ac.length : Int)) = false := by simp; omega
  have hlB : ¬ (A.ac.length : Int) < B.ac.length := by omega
  have hlBd : decide ((A.ac.length : Int) < (B.ac.length : Int)) = false := decide_eq_false hlB
  clear o1 p1 ht1 hb1 hU hsr csb C1
  rw [lT]
  clear lTI hdT hbT
  go_wp2_with (first
    | (go_at_call 15; refine (num10_any _ _).mono ?_; rintro e yn ⟨rfl, hyn⟩; subst yn)
    | (go_at_call 26; rw [← HUE.out]; refine (HGB.out _ _ (HXB.out _ (Below.refl _ _))).mono ?_; rintro e U1 ⟨rfl, hb2⟩; have HU1 : Hid (Below U.heap.size U U1) := hb2; have ca1 := (HRA.out.stay hb2).cell; have cm1 := (HRM.out.stay hb2).cell; clear hb2 ca cm))
  refine (HO1.out _ _ (HAA.out _ (go_on HBU.out HU1.out))).mono ?_
  rintro e U2 ⟨rfl, hb3⟩
  have HU2 : Hid (Below U.heap.size U U2) := go_on HU1.out hb3
  have ca2 := (HRA.out.stay HU2.out).cell
  clear hb3 ca1 cm1
  go_wp2_with fail
  refine (HO2.out _ _ (HAA.out _ (go_on HBU.out HU2.out))).mono ?_
  rintro e U3 ⟨rfl, hb4⟩
  have HU3 : Hid (Below U.heap.size U U3) := go_on HU2.out hb4
  have cm3 := (HRM.out.stay HU3.out).cell
  clear hb4 ca2
  go_wp2_with fail
  refine (HO3.out _ _ (HXB.out _ HU3.out)).mono ?_
  rintro e U4 ⟨rfl, hb5⟩
  have HU4 : Hid (Below U.heap.size U U4) := go_on HU3.out hb5
  have cm4 := (HRM.out.stay HU4.out).cell
  clear hb5 cm3
  go_wp2_with fail
  refine (HO4.out _ _ (HXB.out _ HU4.out)).mono ?_
  rintro e U5 ⟨rfl, hb6⟩
  have HU5 : Hid (Below U.heap.size U U5) := go_on HU4.out hb6
  clear hb6 cm4
  have hb15 := go_on HN1.out HU5.out
  have k1 : U5.cell? ⟨gt, S, none⟩ = some (.int .i64 (X : Int)) := by
    obtain ⟨g', o', e', _, hc'⟩ := (HSB.out U5 hb15).2.2.int (i := S) (by omega)
    simp only [Option.some.injEq, Addr.mk.injEq] at e'
    obtain ⟨rfl, rfl, _⟩ := e'
    rw [Nat.zero_add, HTT.out.1] at hc'
    exact hc'
  have k2 : U5.cell? ⟨gt, R, none⟩ = some (.int .i64 (Y : Int)) := by
    obtain ⟨g', o', e', _, hc'⟩ := (HSB.out U5 hb15).2.2.int (i := R) (by omega)
    simp only [Option.some.injEq, Addr.mk.injEq] at e'
    obtain ⟨rfl, rfl, _⟩ := e'
    rw [Nat.zero_add, HTT.out.2.1] at hc'
    exact hc'
  have k3 : U5.cell? ⟨gb, ob + X, none⟩ = some (.bool (A.ac.getD S false)) := by
    obtain ⟨g', o', e', _, hc'⟩ := (HSB.out U5 hb15).2.1.bool hX
    simp only [Option.some.injEq, Addr.mk.injEq] at e'
    obtain ⟨rfl, rfl, _⟩ := e'
    rw [HTT.out.2.2.1] at hc'
    exact hc'
  have k4 := CA.out U5 S (go_on HBU.out HU5.out) hS
  obtain ⟨p, hp⟩ : ∃ p, A.ac.getD S false = p := ⟨_, rfl⟩
  rw [hp] at k3 k4
  have hSI : (S : Int) < A.ac.length := by omega
  have hRI : (R : Int) < A.ac.length := by omega
  have hXI : (X : Int) < B.ac.length := by omega
  have S0 : (∀ o, U5.drew.cell? ⟨w.heap.size, o, none⟩ = (#[.int .i64 A.k, .slice an A.nx.length cn, .slice (some ⟨ga, oa, none⟩) A.ac.length ca] : Array Value)[o]?) ∧ (∀ o, U5.drew.cell? ⟨w1.heap.size, o, none⟩ = (#[.int .i64 B.k, .slice n1 B.nx.length c1, .slice (some ⟨gb, ob, none⟩) B.ac.length d1] : Array Value)[o]?) ∧ U5.drew.cell? ⟨gt, S, none⟩ = some (.int .i64 (X : Int)) ∧ U5.drew.cell? ⟨gt, R, none⟩ = some (.int .i64 (Y : Int)) ∧ U5.drew.cell? ⟨gb, ob + X, none⟩ = some (.bool p) ∧ U5.drew.cell? ⟨ga, oa + S, none⟩ = some (.bool p) := ⟨(HRA.out.stay HU5.out).cell, (HRM.out.stay HU5.out).cell, k1, k2, k3, k4⟩
  clear k1 k2 k3 k4 hp hb15
  go_wp2_with fail
  go_region_held3 (fun y => (∀ o, y.cell? ⟨w.heap.size, o, none⟩ = (#[.int .i64 A.k, .slice an A.nx.length cn, .slice (some ⟨ga, oa, none⟩) A.ac.length ca] : Array Value)[o]?) ∧ (∀ o, y.cell? ⟨w1.heap.size, o, none⟩ = (#[.int .i64 B.k, .slice n1 B.nx.length c1, .slice (some ⟨gb, ob, none⟩) B.ac.length d1] : Array Value)[o]?) ∧ y.cell? ⟨gt, S, none⟩ = some (.int .i64 (X : Int)) ∧ y.cell? ⟨gt, R, none⟩ = some (.int .i64 (Y : Int)) ∧ y.cell? ⟨gb, ob + X, none⟩ = some (.bool p) ∧ y.cell? ⟨ga, oa + S, none⟩ = some (.bool p)) (first | exact S0 | assumption) (fail)
  clear S0
  obtain ⟨wp, hwp⟩ : ∃ wp, U5.drew = wp := ⟨_, rfl⟩
  have HUp : Hid (Below U.heap.size U wp) := by rw [← hwp]; exact HU5.out.drew
  rw [hwp]
  clear hwp
  have cap := (HRA.out.stay HUp.out).cell
  go_wp2_with fail
  refine (HDF.out _ _ _ (go_on HBU.out HUp.out)).mono ?_
  rintro e wq ⟨rfl, hlq, hbq⟩
  have HBq : Hid (Below w.heap.size w wq) := go_on (go_on HBU.out HUp.out) hbq
  have HRq : Hid (RowAt wq w.heap.size #[.int .i64 A.k, .slice an A.nx.length cn, .slice (some ⟨ga, oa, none⟩) A.ac.length ca]) := (HRA.out.stay HUp.out).stay hbq
  obtain ⟨dE, dO⟩ := dfE_ok (chkA_ok HG.out) (s := (S : Int)) (t := (R : Int)) ⟨by omega, by omega⟩ ⟨by omega, by omega⟩
  rw [Int.toNat_natCast, Int.toNat_natCast] at dO
  rw [dE, dO]
  rw [dO] at hlq
  have HLQ : Hid (∀ q, apO A S R = some q → q.length < A.ac.length) := hlq
  clear hlq hbq cap dE dO HDF
  rcases HQ.out with ⟨hO, hXY, hw⟩ | ⟨q, hO, hXY, hqk, hw⟩
  · rw [hO, show apS none = ByteArray.empty from rfl, show apF none = false from rfl]
    have HW : Hid (acW A S (lets z) = acW A R (lets z)) := hw
    clear HQ hO hw
    subst hXY
    have G1 : Hid (∀ y, Below w.heap.size w y → Calls Try.prog 28 #[.agg #[.int .i64 A.k, .slice an A.nx.length cn, .slice (some ⟨ga, oa, none⟩) A.ac.length ca], .int .i64 (S : Int), .string z] y fun e w' => e = .returned (.int .i64 (goN A S (lets z))) ∧ Below y.heap.size y w') := fun y hy => rgo_any _ A y (HAA.out y hy) HG.out S hS z HLU.out.2.2 (by omega)
    have G2 : Hid (∀ y, Below w.heap.size w y → Calls Try.prog 28 #[.agg #[.int .i64 A.k, .slice an A.nx.length cn, .slice (some ⟨ga, oa, none⟩) A.ac.length ca], .int .i64 (R : Int), .string z] y fun e w' => e = .returned (.int .i64 (goN A R (lets z))) ∧ Below y.heap.size y w') := fun y hy => rgo_any _ A y (HAA.out y hy) HG.out R hR z HLU.out.2.2 (by omega)
    have hg1 : goN A S (lets z) < A.ac.length := wrun_lt HG.out hS (HLU.out.2.2).lk
    have hg2 : goN A R (lets z) < A.ac.length := wrun_lt HG.out hR (HLU.out.2.2).lk
    have k1 := fun y hy => CA.out y _ hy hg1
    have k2 := fun y hy => CA.out y _ hy hg2
    have e1 : A.ac.getD (goN A S (lets z)) false = A.ac.getD (goN A R (lets z)) false := HW.out
    obtain ⟨D1, hD1⟩ : ∃ D, goN A S (lets z) = D := ⟨_, rfl⟩
    obtain ⟨D2, hD2⟩ : ∃ D, goN A R (lets z) = D := ⟨_, rfl⟩
    rw [hD1] at k1 e1 hg1 G1
    rw [hD2] at k2 e1 hg2 G2
    obtain ⟨p1, hp1⟩ : ∃ p, A.ac.getD D1 false = p := ⟨_, rfl⟩
    obtain ⟨p2, hp2⟩ : ∃ p, A.ac.getD D2 false = p := ⟨_, rfl⟩
    rw [hp1] at k1 e1
    rw [hp2] at k2 e1
    have hI1 : (D1 : Int) < A.ac.length := by omega
    have hI2 : (D2 : Int) < A.ac.length := by omega
    subst e1
    go_wp2_with (first
      | (go_at_call 15; refine (num10_any _ _).mono ?_; rintro e yn ⟨rfl, hyn⟩; subst yn))
    have KS : Hid (∀ y, Below wq.heap.size wq y → (∀ o, y.cell? ⟨w.heap.size, o, none⟩ = (#[.int .i64 A.k, .slice an A.nx.length cn, .slice (some ⟨ga, oa, none⟩) A.ac.length ca] : Array Value)[o]?) ∧ y.cell? ⟨ga, oa + D1, none⟩ = some (.bool p1) ∧ y.cell? ⟨ga, oa + D2, none⟩ = some (.bool p1) ∧ Below wq.heap.size wq y) := fun y hy => ⟨(HRq.out.stay hy).cell, k1 y (go_on HBq.out hy), k2 y (go_on HBq.out hy), hy⟩
    clear k1 k2 hp1 hp2 hD1 hD2
    go_wp2_with fail
    have S0 := KS.out wq.drew (Below.refl _ _).drew
    go_region_held3 (fun y => (∀ o, y.cell? ⟨w.heap.size, o, none⟩ = (#[.int .i64 A.k, .slice an A.nx.length cn, .slice (some ⟨ga, oa, none⟩) A.ac.length ca] : Array Value)[o]?) ∧ y.cell? ⟨ga, oa + D1, none⟩ = some (.bool p1) ∧ y.cell? ⟨ga, oa + D2, none⟩ = some (.bool p1) ∧ Below wq.heap.size wq y) (first | exact S0 | assumption | exact KS.out _ (go_on (And.right (And.right (And.right (by assumption)))) (by assumption))) (first
      | (go_at_call_of 28 (Value.int IntKind.i64 (S : Int)); refine (G1.out _ (go_on HBq.out (And.right (And.right (And.right (by assumption)))))).mono ?_; rintro e y1 ⟨rfl, hy1⟩)
      | (go_at_call_of 28 (Value.int IntKind.i64 (R : Int)); refine (G2.out _ (go_on HBq.out (And.right (And.right (And.right (by assumption)))))).mono ?_; rintro e y2 ⟨rfl, hy2⟩)
      | (go_at_call 18; refine (live10_any _).mono ?_; rintro e y6 ⟨rfl, hy6⟩))
    all_goals (
      go_wp2_with fail
      go_ret
      exact ⟨rfl, go_on HBq.out (And.right (And.right (And.right (by assumption))))⟩)
  · rw [hO, show apS (some q) = wB q from rfl, show apF (some q) = true from rfl]
    have hk1 := HG.out.k1
    have hk8 := HG.out.k8
    have HW : Hid (¬ A.ac.getD (goN A S (lets (wB q))) false = A.ac.getD (goN A R (lets (wB q))) false) := by
      show ¬ _
      rw [lets_wB (k := A.k.toNat) (by omega) hqk]
      exact hw
    have HWL : Hid (Lts A.k (wB q)) := (wB_lts hk1 hk8 hqk).1
    have hqz : (wB q).size ≤ 9223372036854775807 := by have := HLQ.out q hO; rw [wB_size]; omega
    obtain ⟨Wq, hWq⟩ : ∃ Wq, wB q = Wq := ⟨_, rfl⟩
    rw [hWq] at HW HWL hqz ⊢
    have hXI2 : ¬ (X : Int) = Y := by omega
    have hXd : decide ((X : Int) = (Y : Int)) = false := decide_eq_false hXI2
    have hXb : ((X : Int) != (Y : Int)) = true := by simpa using hXI2
    clear HQ hO hw hWq hqk hk1 hk8
    have G1 : Hid (∀ y, Below w.heap.size w y → Calls Try.prog 28 #[.agg #[.int .i64 A.k, .slice an A.nx.length cn, .slice (some ⟨ga, oa, none⟩) A.ac.length ca], .int .i64 (S : Int), .string Wq] y fun e w' => e = .returned (.int .i64 (goN A S (lets Wq))) ∧ Below y.heap.size y w') := fun y hy => rgo_any _ A y (HAA.out y hy) HG.out S hS Wq HWL.out (by omega)
    have G2 : Hid (∀ y, Below w.heap.size w y → Calls Try.prog 28 #[.agg #[.int .i64 A.k, .slice an A.nx.length cn, .slice (some ⟨ga, oa, none⟩) A.ac.length ca], .int .i64 (R : Int), .string Wq] y fun e w' => e = .returned (.int .i64 (goN A R (lets Wq))) ∧ Below y.heap.size y w') := fun y hy => rgo_any _ A y (HAA.out y hy) HG.out R hR Wq HWL.out (by omega)
    have hg1 : goN A S (lets Wq) < A.ac.length := wrun_lt HG.out hS (HWL.out).lk
    have hg2 : goN A R (lets Wq) < A.ac.length := wrun_lt HG.out hR (HWL.out).lk
    have k1 := fun y hy => CA.out y _ hy hg1
    have k2 := fun y hy => CA.out y _ hy hg2
    have e1 : ¬ A.ac.getD (goN A S (lets Wq)) false = A.ac.getD (goN A R (lets Wq)) false := HW.out
    obtain ⟨D1, hD1⟩ : ∃ D, goN A S (lets Wq) = D := ⟨_, rfl⟩
    obtain ⟨D2, hD2⟩ : ∃ D, goN A R (lets Wq) = D := ⟨_, rfl⟩
    rw [hD1] at k1 e1 hg1 G1
    rw [hD2] at k2 e1 hg2 G2
    obtain ⟨p1, hp1⟩ : ∃ p, A.ac.getD D1 false = p := ⟨_, rfl⟩
    obtain ⟨p2, hp2⟩ : ∃ p, A.ac.getD D2 false = p := ⟨_, rfl⟩
    rw [hp1] at k1 e1
    rw [hp2] at k2 e1
    have hI1 : (D1 : Int) < A.ac.length := by omega
    have hI2 : (D2 : Int) < A.ac.length := by omega
    go_wp2_with (first
      | (go_at_call 15; refine (num10_any _ _).mono ?_; rintro e yn ⟨rfl, hyn⟩; subst yn))
    cases p1 <;> cases p2 <;> first | exact absurd rfl e1 | skip
    · have KS : Hid (∀ y, Below wq.heap.size wq y → (∀ o, y.cell? ⟨w.heap.size, o, none⟩ = (#[.int .i64 A.k, .slice an A.nx.length cn, .slice (some ⟨ga, oa, none⟩) A.ac.length ca] : Array Value)[o]?) ∧ y.cell? ⟨ga, oa + D1, none⟩ = some (.bool false) ∧ y.cell? ⟨ga, oa + D2, none⟩ = some (.bool true) ∧ Below wq.heap.size wq y) := fun y hy => ⟨(HRq.out.stay hy).cell, k1 y (go_on HBq.out hy), k2 y (go_on HBq.out hy), hy⟩
      clear k1 k2 hp1 hp2 hD1 hD2
      go_wp2_with fail
      have S0 := KS.out wq.drew (Below.refl _ _).drew
      go_region_held3 (fun y => (∀ o, y.cell? ⟨w.heap.size, o, none⟩ = (#[.int .i64 A.k, .slice an A.nx.length cn, .slice (some ⟨ga, oa, none⟩) A.ac.length ca] : Array Value)[o]?) ∧ y.cell? ⟨ga, oa + D1, none⟩ = some (.bool false) ∧ y.cell? ⟨ga, oa + D2, none⟩ = some (.bool true) ∧ Below wq.heap.size wq y) (first | exact S0 | assumption | exact KS.out _ (go_on (And.right (And.right (And.right (by assumption)))) (by assumption))) (first
        | (go_at_call_of 28 (Value.int IntKind.i64 (S : Int)); refine (G1.out _ (go_on HBq.out (And.right (And.right (And.right (by assumption)))))).mono ?_; rintro e y1 ⟨rfl, hy1⟩)
        | (go_at_call_of 28 (Value.int IntKind.i64 (R : Int)); refine (G2.out _ (go_on HBq.out (And.right (And.right (And.right (by assumption)))))).mono ?_; rintro e y2 ⟨rfl, hy2⟩)
        | (go_at_call 18; refine (live10_any _).mono ?_; rintro e y6 ⟨rfl, hy6⟩))
      all_goals (
        go_wp2_with fail
        go_ret
        exact ⟨rfl, go_on HBq.out (And.right (And.right (And.right (by assumption))))⟩)
    · have KS : Hid (∀ y, Below wq.heap.size wq y → (∀ o, y.cell? ⟨w.heap.size, o, none⟩ = (#[.int .i64 A.k, .slice an A.nx.length cn, .slice (some ⟨ga, oa, none⟩) A.ac.length ca] : Array Value)[o]?) ∧ y.cell? ⟨ga, oa + D1, none⟩ = some (.bool true) ∧ y.cell? ⟨ga, oa + D2, none⟩ = some (.bool false) ∧ Below wq.heap.size wq y) := fun y hy => ⟨(HRq.out.stay hy).cell, k1 y (go_on HBq.out hy), k2 y (go_on HBq.out hy), hy⟩
      clear k1 k2 hp1 hp2 hD1 hD2
      go_wp2_with fail
      have S0 := KS.out wq.drew (Below.refl _ _).drew
      go_region_held3 (fun y => (∀ o, y.cell? ⟨w.heap.size, o, none⟩ = (#[.int .i64 A.k, .slice an A.nx.length cn, .slice (some ⟨ga, oa, none⟩) A.ac.length ca] : Array Value)[o]?) ∧ y.cell? ⟨ga, oa + D1, none⟩ = some (.bool true) ∧ y.cell? ⟨ga, oa + D2, none⟩ = some (.bool false) ∧ Below wq.heap.size wq y) (first | exact S0 | assumption | exact KS.out _ (go_on (And.right (And.right (And.right (by assumption)))) (by assumption))) (first
        | (go_at_call_of 28 (Value.int IntKind.i64 (S : Int)); refine (G1.out _ (go_on HBq.out (And.right (And.right (And.right (by assumption)))))).mono ?_; rintro e y1 ⟨rfl, hy1⟩)
        | (go_at_call_of 28 (Value.int IntKind.i64 (R : Int)); refine (G2.out _ (go_on HBq.out (And.right (And.right (And.right (by assumption)))))).mono ?_; rintro e y2 ⟨rfl, hy2⟩)
        | (go_at_call 18; refine (live10_any _).mono ?_; rintro e y6 ⟨rfl, hy6⟩))
      all_goals (
        go_wp2_with fail
        go_ret
        exact ⟨rfl, go_on HBq.out (And.right (And.right (And.right (by assumption))))⟩)

/-! ### The row's step -/
theorem own : ownKnob Try.prog.godebug = none := by kernel_rfl
set_option maxRecDepth 100000 in
theorem lifted (os : Os) (started : os.Started) (H : Type) (enc : TypeId × Value → H) :
    ReturnsInHanded {} Try.checked os 6 .any (Rows.minimNerodeSpec.pre6 enc Try.prog Try.f6 Rows.minimNerodeRow.domain false) (Rows.minimNerodeSpec.post enc Try.prog Try.f6 false true false false) := by
  refine returnsInHanded_of_change_sized (C := Try.checked) own started (by kernel_rfl) Try.func6
    (ChangeSpec.witness6 (enc := enc) (C := Try.checked) false ⟨#[], #[.agg #[.int .i64 0, .slice none 0 0, .slice none 0 0], .string ByteArray.empty, .string ByteArray.empty, .string ByteArray.empty], []⟩ 8 (by kernel_rfl) (by kernel_rfl) (by kernel_rfl) (by kernel_rfl)) ?_
  intro W base args ds gs before hval0 hW hcnd hsz0 _
  have hval : ∀ (j : Nat) t v, Try.f6.params[j]? = some t → args[j]? = some v → Value.okWide Try.prog W .any base t v := hval0
  clear hval0
  have hsz : (DataW.weightsEach Try.prog (Try.f6.params.toList ++ Rows.minimNerodeSpec.plain.varTypes Try.prog) (ds ++ gs)).all (· ≤ reachBytes) = true := hsz0
  clear hsz0
  have hW' := hW
  obtain ⟨p, q, hA0, hV, rfl, hfz, hnd⟩ := hW
  have hA : DataW.TrodAll enc Try.prog W 0 (fun _ => true) true Try.f6.params.toList args.toList ds p := hA0
  rw [Try.params6] at hA hval hsz
  obtain ⟨v0, vs0, d0, ds0, p0, q0, hargs, rfl, rfl, h0, r0⟩ := trodAll_cons hA
  obtain ⟨v1, vs1, d1, ds1, p1, q1, rfl, rfl, rfl, h1, r1⟩ := trodAll_cons r0
  obtain ⟨v2, vs2, d2, ds2, p2, q2, rfl, rfl, rfl, h2, r2⟩ := trodAll_cons r1
  obtain ⟨v3, vs3, d3, ds3, p3, q3, rfl, rfl, rfl, h3, r3⟩ := trodAll_cons r2
  obtain ⟨rfl, rfl, rfl⟩ := trodAll_nil r3
  obtain rfl : args = #[v0, v1, v2, v3] := by cases args; simp_all
  obtain ⟨rfl, rfl⟩ := trodVars_none hV
  obtain ⟨a0, x0, n0, w0, dk0, dn0, da0, e0, y0, z0⟩ := open_auto (hval 0 25 v0 rfl rfl) h0
  have b0 := auto_bounds hsz (j := 0) rfl (by rw [e0]; rfl) y0 z0
  have g0 : ∀ x ∈ p0, x.block < W.heap.size := fun x hx => hW'.lt x (by simp [hx])
  obtain ⟨a1, rfl, rfl, rfl, w1⟩ := open_string Try.underlying9 (hval 1 9 v1 rfl rfl) h1
  have u1 : a1.size ≤ 140737488355327 := by
    have := sized_string hsz (j := 1) (t := 9) rfl rfl
    have e : a1.data.toList.length = a1.size := rfl
    simp only [reachBytes] at this
    omega
  obtain ⟨a2, rfl, rfl, rfl, w2⟩ := open_string Try.underlying9 (hval 2 9 v2 rfl rfl) h2
  have u2 : a2.size ≤ 140737488355327 := by
    have := sized_string hsz (j := 2) (t := 9) rfl rfl
    have e : a2.data.toList.length = a2.size := rfl
    simp only [reachBytes] at this
    omega
  obtain ⟨a3, rfl, rfl, rfl, w3⟩ := open_string Try.underlying9 (hval 3 9 v3 rfl rfl) h3
  have u3 : a3.size ≤ 140737488355327 := by
    have := sized_string hsz (j := 3) (t := 9) rfl rfl
    have e : a3.data.toList.length = a3.size := rfl
    simp only [reachBytes] at this
    omega
  clear hA0
  refine (walk v0 a0 a1 a2 a3 W x0 n0 b0.1 b0.2 u1 u2 u3).mono fun e W' ⟨he, bel⟩ => ?_
  subst he
  exact ⟨_, rfl, _, _, _, [], _, [], hW', trodAll_mk1 (shut_bool Try.underlying4 _), (trodAll_cons_mk (Below.trod Try.laidOut (by kernel_rfl) (of_decide_eq_true (by kernel_rfl)) h0 bel g0) (trodAll_cons_mk (shut_string Try.underlying9 w1) (trodAll_cons_mk (shut_string Try.underlying9 w2) (trodAll_cons_mk (shut_string Try.underlying9 w3) trodAll_mk0)))), rfl, bel.frame _, fun h => by cases h⟩

theorem over : Rows.minimNerodeRow.holds Try.pinned (OpenSpec.ofChange Rows.minimNerodeSpec) :=
  OpenClaim.holds_of_wide 6 Try.f6 rfl rfl rfl rfl rfl rfl rfl ⟨rfl, rfl, rfl, rfl, rfl⟩ rfl rfl rfl rfl rfl (by kernel_rfl) Try.func6 (by kernel_rfl)
    (of_decide_eq_true (by kernel_rfl)) (by unfold Func.isWrapper; first | (rw [if_pos (by decide +kernel)]; kernel_rfl) | (rw [if_neg (by decide +kernel)]; exact ⟨rfl, rfl⟩))
    (fun os started H enc _ => lifted os started H enc)

end Go.Proofs.Ythjenemmhlljfaa.minimNerode
namespace Go.Proofs.Ythjenemmhlljfaa
/-- The given statement. -/
theorem minimNerode_holds : Rows.MinimNerodeSaid := minimNerode.over
end Go.Proofs.Ythjenemmhlljfaa
