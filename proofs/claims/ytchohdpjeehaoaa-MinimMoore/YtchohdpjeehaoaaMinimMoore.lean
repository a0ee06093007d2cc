/- Proved: eggboxlaw10.MinimMoore answers true at all automata's data a and all n (P10.6): each of minim.Level's levels parts what the one ahead of it parts; where two are the same they are Classes, and so is the last one; its arguments read behind the call as before. -/
import Derived.Test.YtchohdpjeehaoaaJu
import Derived.Test.YtchohdpjeehaoaaMp
import Derived.Deep.RegionHeld3
import Derived.Deep.DeepCutAuto
namespace Go.Proofs.Ytchohdpjeehaoaa.minimMoore
open Go Go.ChangeShapes Go.WideShapes Go.ChangeAt Go.RowKit Go.Lib
open Go.ChangeMaps (open_string shut_string)
set_option linter.unusedVariables false

set_option maxHeartbeats 2000000 in
set_option maxRecDepth 100000 in
theorem good_any (v : Value) (A : Aut) (w : World) (h : AR w v A) (hm : A.nx.length ≤ 9223372036854775806) (hm2 : A.ac.length ≤ 9223372036854775806) :
    Calls Try.prog 26 #[v] w fun e w' => e = .returned (.bool (decide (chkA A = 0))) ∧ Below w.heap.size w w' := by
  obtain ⟨an, cn, aa, ca, e, k1, k2⟩ := h.is
  have HC : Hid (∀ y, Below w.heap.size w y → Calls Try.prog 33 #[v] y fun e w' => e = .returned (.int .i64 (chkA A)) ∧ Below y.heap.size y w') := fun y hy => racheck_any v A y (h.stay hy) hm hm2
  subst e
  clear h k1 k2
  go_enter Try.func26, Try.ntmps26
  go_wp2_with fail
  refine (HC.out _ (below_new _ _)).mono ?_
  rintro e w1 ⟨rfl, hb1⟩
  have HB : Hid (Below w.heap.size w w1) := go_on (below_new _ _) hb1
  clear hb1
  rcases chkA_cases A with ⟨G, hc⟩ | ⟨G, hc⟩
  · have HC0 : Hid (chkA A = 0) := hc
    rw [hc]
    go_wp2_with fail
    go_ret
    exact ⟨by rw [decide_eq_true HC0.out]; rfl, HB.out⟩
  · have HC0 : Hid (¬ chkA A = 0) := by show ¬ _; rw [hc]; decide
    rw [hc]
    go_wp2_with fail
    go_ret
    exact ⟨by rw [decide_eq_false HC0.out]; rfl, HB.out⟩

set_option maxHeartbeats 16000000 in
set_option maxRecDepth 100000 in
theorem walk (va : Value) (A : Aut) (n : Int) (w : World) (ha : AR w va A) (hna : NilOk va) (hma : (A.nx.length + 2) * 8 ≤ 140737488355328) (hma2 : A.ac.length ≤ 140737488355328) (hnw : (Lit.int .i64 n).wf = true) :
    Calls Try.prog 7 #[va, .int .i64 n] w fun e w' => e = .returned (.bool true) ∧ Below w.heap.size w w' := by
  obtain ⟨an, cn, aa, ca, ea, _, _⟩ := ha.is
  have hA1 : A.nx.length ≤ 9223372036854775806 := by omega
  have hA2 : A.ac.length ≤ 9223372036854775806 := by omega
  have hnb : n ≤ 9223372036854775807 := by have := hnw; simp [Lit.wf] at this; omega
  have HG : Hid (∀ y, Below w.heap.size w y → Calls Try.prog 26 #[va] y fun e w' => e = .returned (.bool (decide (chkA A = 0))) ∧ Below y.heap.size y w') := fun y hy => good_any va A y (ha.stay hy) hA1 hA2
  have HLV : Hid (∀ y (m : Nat), Below w.heap.size w y → Good A → m ≤ 9223372036854775807 → Calls Try.prog 12 #[va, .int .i64 (m : Nat)] y (NQ (lvl A m) 0 y)) := fun y m hy G hm => by
    have := level_any va A y (ha.stay hy) hA1 hA2 (m : Int) (by omega)
    obtain ⟨e1, e2⟩ := lvE_ok G (n := (m : Int)) (by omega)
    rwa [e1, e2, Int.toNat_natCast] at this
  have HCL : Hid (∀ y, Below w.heap.size w y → Good A → Calls Try.prog 10 #[va] y (NQ (lvl A A.ac.length) 0 y)) := fun y hy G => by
    have := classes_any va A y (ha.stay hy) hA1 hA2
    have e : clL A = lvl A A.ac.length := by unfold clL; rw [if_pos (chkA_ok G)]
    rwa [e, chkA_ok G] at this
  clear hna hma hma2 ha hnw
  subst ea
  obtain ⟨V, hV⟩ : ∃ V, V = w.alloc (.cells #[.int .i64 A.k, .slice an A.nx.length cn, .slice aa A.ac.length ca] 25) := ⟨_, rfl⟩
  have HVE : Hid (V = w.alloc (.cells #[.int .i64 A.k, .slice an A.nx.length cn, .slice aa A.ac.length ca] 25)) := hV
  have HBV : Hid (Below w.heap.size w V) := by show Below _ _ _; rw [hV]; exact below_new _ _
  have HRV : Hid (RowAt V w.heap.size #[.int .i64 A.k, .slice an A.nx.length cn, .slice aa A.ac.length ca]) := by show RowAt _ _ _; rw [hV]; exact RowAt.last _ _ _
  clear hV
  go_enter Try.func7, Try.ntmps7
  go_wp2_with fail
  rw [← HVE.out]
  refine (HG.out _ HBV.out).mono ?_
  rintro e w1 ⟨rfl, hb1⟩
  have HB1 : Hid (Below w.heap.size w w1) := go_on HBV.out hb1
  have HR1 : Hid (RowAt w1 w.heap.size #[.int .i64 A.k, .slice an A.nx.length cn, .slice aa A.ac.length ca]) := HRV.out.stay hb1
  have cs := HR1.out.cell
  clear hb1
  by_cases hgood : ¬ chkA A = 0
  · rw [decide_eq_false hgood]
    go_wp2_with fail
    refine (live10_any _).mono ?_
    rintro e y6 ⟨rfl, hy6⟩
    have HY6 : Hid (Below w.heap.size w y6) := go_on HB1.out hy6
    clear hy6
    go_wp2_with fail
    go_ret
    exact ⟨rfl, HY6.out⟩
  have hc0 : chkA A = 0 := Classical.byContradiction hgood
  rw [decide_eq_true hc0]
  have HGA : Hid (Good A) := chkA_good hc0
  clear hgood hc0
  by_cases hneg : n < 0
  · go_wp2_with fail
    refine (live10_any _).mono ?_
    rintro e y6 ⟨rfl, hy6⟩
    have HY6 : Hid (Below w.heap.size w y6) := go_on HB1.out hy6
    clear hy6
    go_wp2_with fail
    go_ret
    exact ⟨rfl, HY6.out⟩
  obtain ⟨k, rfl⟩ : ∃ k : Nat, n = k := ⟨n.toNat, by omega⟩
  have hN1 := HGA.out.n1
  have hN2 := HGA.out.n2
  obtain ⟨L, hL⟩ : ∃ L : Nat, A.ac.length - 2 = L := ⟨_, rfl⟩
  have hL4 : L ≤ 4094 := by omega
  have HL : Hid (A.ac.length ≤ L + 2) := by show _ ≤ _; omega
  have hLN : L ≤ A.ac.length := by omega
  obtain ⟨r, hr⟩ : ∃ r : Nat, k % (L + 1) = r := ⟨_, rfl⟩
  have hrL : r < L + 1 := by rw [← hr]; exact Nat.mod_lt _ (by omega)
  have hr4 : r ≤ 4094 := by omega
  have hmod : (k : Int) % ((L : Int) + 1) = (r : Int) := by rw [← hr]; rfl
  have HBB : Hid (Below w1.heap.size w1 w1) := Below.refl _ _
  go_upto_region 3 with fail
  go_cut [5] (fun v5 wz => v5 = .int .i64 (L : Int) ∧ ∃ wx, wx = wz ∧ w1 = wx)
  case first =>
    by_cases h2 : 2 ≤ A.ac.length
    · have hw2 : IntKind.i64.wrap ((A.ac.length : Int) - 2) = (L : Int) := by rw [IntKind.wrap_i64]; omega
      have hL0 : (0 : Int) ≤ (L : Int) := by omega
      clear hL hr hmod
      go_wp2_with fail
      all_goals go_meet
      all_goals exact ⟨by first | rfl | (congr 1; omega), _, rfl, rfl⟩
    · have hw2 : IntKind.i64.wrap ((A.ac.length : Int) - 2) = -1 := by rw [IntKind.wrap_i64]; omega
      obtain rfl : L = 0 := by omega
      clear hL hr hmod
      go_wp2_with fail
      all_goals go_meet
      all_goals exact ⟨by first | rfl | (congr 1; omega), _, rfl, rfl⟩
  case rest =>
  obtain ⟨rfl, wx, hwx, hw1⟩ := hcut
  subst hwx
  subst hw1
  clear hL hr
  go_wp2_with fail
  rw [hmod]
  refine (HLV.out _ r (go_on HB1.out HBB.out) HGA.out (by omega)).mono ?_
  rintro e u1 ⟨v1, rfl, ho1, hb1⟩
  rw [lvl_len] at ho1
  obtain ⟨g1, c1, rfl⟩ : ∃ g c, v1 = .slice (some ⟨g, 0, none⟩) A.ac.length c := by
    rcases ho1.2 with ⟨_, h0⟩ | ⟨g, cap, cur, hv, _⟩
    · omega
    · exact ⟨g, cap, hv⟩
  have HBn : Hid (Below w1.heap.size w1 u1) := go_on HBB.out hb1; clear HBB; have HBB : Hid (Below w1.heap.size w1 u1) := HBn.out; clear HBn
  have HS1 : Hid (SR u1 (some ⟨g1, 0, none⟩) (nC (lvl A r))) := own_sr ho1
  clear cs
  have cs := (HR1.out.stay HBB.out).cell
  clear ho1 hb1
  go_wp2_with fail
  refine (HLV.out _ (r + 1) (go_on HB1.out HBB.out) HGA.out (by omega)).mono ?_
  rintro e u2 ⟨v2, rfl, ho2, hb2⟩
  rw [lvl_len] at ho2
  obtain ⟨g2, c2, rfl⟩ : ∃ g c, v2 = .slice (some ⟨g, 0, none⟩) A.ac.length c := by
    rcases ho2.2 with ⟨_, h0⟩ | ⟨g, cap, cur, hv, _⟩
    · omega
    · exact ⟨g, cap, hv⟩
  have HBn : Hid (Below w1.heap.size w1 u2) := go_on HBB.out hb2; clear HBB; have HBB : Hid (Below w1.heap.size w1 u2) := HBn.out; clear HBn
  have HS2 : Hid (SR u2 (some ⟨g2, 0, none⟩) (nC (lvl A (r + 1)))) := own_sr ho2
  have HSn : Hid (SR u2 (some ⟨g1, 0, none⟩) (nC (lvl A r))) := HS1.out.stay hb2; clear HS1; have HS1 : Hid (SR u2 (some ⟨g1, 0, none⟩) (nC (lvl A r))) := HSn.out; clear HSn
  clear cs
  have cs := (HR1.out.stay HBB.out).cell
  clear ho2 hb2
  go_wp2_with fail
  refine (HCL.out _ (go_on HB1.out HBB.out) HGA.out).mono ?_
  rintro e u3 ⟨v3, rfl, ho3, hb3⟩
  rw [lvl_len] at ho3
  obtain ⟨g3, c3, rfl⟩ : ∃ g c, v3 = .slice (some ⟨g, 0, none⟩) A.ac.length c := by
    rcases ho3.2 with ⟨_, h0⟩ | ⟨g, cap, cur, hv, _⟩
    · omega
    · exact ⟨g, cap, hv⟩
  have HBn : Hid (Below w1.heap.size w1 u3) := go_on HBB.out hb3; clear HBB; have HBB : Hid (Below w1.heap.size w1 u3) := HBn.out; clear HBn
  have HS3 : Hid (SR u3 (some ⟨g3, 0, none⟩) (nC (lvl A A.ac.length))) := own_sr ho3
  have HSn : Hid (SR u3 (some ⟨g1, 0, none⟩) (nC (lvl A r))) := HS1.out.stay hb3; clear HS1; have HS1 : Hid (SR u3 (some ⟨g1, 0, none⟩) (nC (lvl A r))) := HSn.out; clear HSn
  have HSn : Hid (SR u3 (some ⟨g2, 0, none⟩) (nC (lvl A (r + 1)))) := HS2.out.stay hb3; clear HS2; have HS2 : Hid (SR u3 (some ⟨g2, 0, none⟩) (nC (lvl A (r + 1)))) := HSn.out; clear HSn
  clear cs
  have cs := (HR1.out.stay HBB.out).cell
  clear ho3 hb3
  go_wp2_with fail
  refine (HLV.out _ L (go_on HB1.out HBB.out) HGA.out (by omega)).mono ?_
  rintro e u4 ⟨v4, rfl, ho4, hb4⟩
  rw [lvl_len] at ho4
  obtain ⟨g4, c4, rfl⟩ : ∃ g c, v4 = .slice (some ⟨g, 0, none⟩) A.ac.length c := by
    rcases ho4.2 with ⟨_, h0⟩ | ⟨g, cap, cur, hv, _⟩
    · omega
    · exact ⟨g, cap, hv⟩
  have HBn : Hid (Below w1.heap.size w1 u4) := go_on HBB.out hb4; clear HBB; have HBB : Hid (Below w1.heap.size w1 u4) := HBn.out; clear HBn
  have HS4 : Hid (SR u4 (some ⟨g4, 0, none⟩) (nC (lvl A L))) := own_sr ho4
  have HSn : Hid (SR u4 (some ⟨g1, 0, none⟩) (nC (lvl A r))) := HS1.out.stay hb4; clear HS1; have HS1 : Hid (SR u4 (some ⟨g1, 0, none⟩) (nC (lvl A r))) := HSn.out; clear HSn
  have HSn : Hid (SR u4 (some ⟨g2, 0, none⟩) (nC (lvl A (r + 1)))) := HS2.out.stay hb4; clear HS2; have HS2 : Hid (SR u4 (some ⟨g2, 0, none⟩) (nC (lvl A (r + 1)))) := HSn.out; clear HSn
  have HSn : Hid (SR u4 (some ⟨g3, 0, none⟩) (nC (lvl A A.ac.length))) := HS3.out.stay hb4; clear HS3; have HS3 : Hid (SR u4 (some ⟨g3, 0, none⟩) (nC (lvl A A.ac.length))) := HSn.out; clear HSn
  clear cs
  have cs := (HR1.out.stay HBB.out).cell
  clear ho4 hb4
  have HLN : Hid (lvl A A.ac.length = lvl A L) := lvl_last A HL.out (by omega)
  have ZN : ∀ l : List Nat, nC l = zC (l.map (fun (x : Nat) => (x : Int))) := nC_zC
  have HSA : Hid (∀ y, Below u4.heap.size u4 y → Calls Try.prog 14 #[.slice (some ⟨g3, 0, none⟩) A.ac.length c3, .slice (some ⟨g4, 0, none⟩) A.ac.length c4] y fun e w' => e = .returned (.bool true) ∧ Below y.heap.size y w') := fun y hy => by
    have q := sameB_any (some ⟨g3, 0, none⟩) (some ⟨g4, 0, none⟩) c3 c4 A.ac.length ((lvl A A.ac.length).map (fun (x : Nat) => (x : Int))) ((lvl A L).map (fun (x : Nat) => (x : Int))) y (by rw [← ZN]; exact HS3.out.stay hy) (by rw [← ZN]; exact HS4.out.stay hy) (by rw [List.length_map, lvl_len]) (by rw [List.length_map, lvl_len]) (by omega)
    rw [decide_eq_true (by rw [HLN.out])] at q
    exact q
  have HSP : Hid (∀ y, Below u4.heap.size u4 y → Calls Try.prog 14 #[.slice (some ⟨g1, 0, none⟩) A.ac.length c1, .slice (some ⟨g2, 0, none⟩) A.ac.length c2] y fun e w' => e = .returned (.bool (decide ((lvl A r).map (fun (x : Nat) => (x : Int)) = (lvl A (r + 1)).map (fun (x : Nat) => (x : Int))))) ∧ Below y.heap.size y w') := fun y hy => sameB_any (some ⟨g1, 0, none⟩) (some ⟨g2, 0, none⟩) c1 c2 A.ac.length ((lvl A r).map (fun (x : Nat) => (x : Int))) ((lvl A (r + 1)).map (fun (x : Nat) => (x : Int))) y (by rw [← ZN]; exact HS1.out.stay hy) (by rw [← ZN]; exact HS2.out.stay hy) (by rw [List.length_map, lvl_len]) (by rw [List.length_map, lvl_len]) (by omega)
  have HSQ : Hid (lvl A (r + 1) = lvl A r → ∀ y, Below u4.heap.size u4 y → Calls Try.prog 14 #[.slice (some ⟨g1, 0, none⟩) A.ac.length c1, .slice (some ⟨g3, 0, none⟩) A.ac.length c3] y fun e w' => e = .returned (.bool true) ∧ Below y.heap.size y w') := fun he y hy => by
    have q := sameB_any (some ⟨g1, 0, none⟩) (some ⟨g3, 0, none⟩) c1 c3 A.ac.length ((lvl A r).map (fun (x : Nat) => (x : Int))) ((lvl A A.ac.length).map (fun (x : Nat) => (x : Int))) y (by rw [← ZN]; exact HS1.out.stay hy) (by rw [← ZN]; exact HS3.out.stay hy) (by rw [List.length_map, lvl_len]) (by rw [List.length_map, lvl_len]) (by omega)
    rw [decide_eq_true (by rw [HLN.out, lvl_stable' A he (show r ≤ L by omega)])] at q
    exact q
  clear ZN
  go_wp2_with (first
    | (go_at_call 15; refine (num10_any _ _).mono ?_; rintro e yn ⟨rfl, hyn⟩; subst yn)
    | (go_at_call 14; refine (HSA.out _ (Below.refl _ _)).mono ?_; rintro e y1 ⟨rfl, hy1⟩; have HY1 : Hid (Below u4.heap.size u4 y1) := hy1; have csy := (HR1.out.stay (go_on HBB.out hy1)).cell; clear hy1 HSA))
  go_loopw [14] (fun vs wr => ∃ (s q : Nat), vs = .int .i64 s ∧ s ≤ A.ac.length ∧ wr = y1.drewN q) (fun vs _ => A.ac.length - (intOf vs).toNat)
  case atStart => exact ⟨0, 0, rfl, Nat.zero_le _, rfl⟩
  case round =>
    obtain ⟨s, q, rfl, hsn, rfl⟩ := hrel
    by_cases hs : s < A.ac.length
    · have hsI : (s : Int) < A.ac.length := by omega
      obtain ⟨p1, p2, p3, p4⟩ := lvl_step A r hs
      have at1 : ∀ i, i < A.ac.length → y1.cell? ⟨g1, i, none⟩ = some (.int .i64 ((lvl A r).getD i 0 : Nat)) := fun i hi => by
        obtain ⟨g', o', e', _, hc'⟩ := (HS1.out.stay HY1.out).nat (i := i) (by rw [lvl_len]; exact hi)
        simp only [Option.some.injEq, Addr.mk.injEq] at e'
        obtain ⟨rfl, rfl, _⟩ := e'
        rw [Nat.zero_add] at hc'
        exact hc'
      have at2 : y1.cell? ⟨g2, s, none⟩ = some (.int .i64 ((lvl A (r + 1)).getD s 0 : Nat)) := by
        obtain ⟨g', o', e', _, hc'⟩ := (HS2.out.stay HY1.out).nat (i := s) (by rw [lvl_len]; exact hs)
        simp only [Option.some.injEq, Addr.mk.injEq] at e'
        obtain ⟨rfl, rfl, _⟩ := e'
        rw [Nat.zero_add] at hc'
        exact hc'
      have c1 := at1 s hs
      have c3 := at1 ((lvl A (r + 1)).getD s 0) (by omega)
      rw [p4] at c3
      obtain ⟨x, hx⟩ : ∃ x, (lvl A r).getD s 0 = x := ⟨_, rfl⟩
      obtain ⟨y, hy⟩ : ∃ y, (lvl A (r + 1)).getD s 0 = y := ⟨_, rfl⟩
      rw [hx] at c1 c3 p1 p3
      rw [hy] at at2 c3 p2 p3
      have S0 : (y1.drewN q).drew.cell? ⟨g1, s, none⟩ = some (.int .i64 (x : Int)) ∧ (y1.drewN q).drew.cell? ⟨g2, s, none⟩ = some (.int .i64 (y : Int)) ∧ (y1.drewN q).drew.cell? ⟨g1, y, none⟩ = some (.int .i64 (x : Int)) := ⟨c1, at2, c3⟩
      have hyI : (y : Int) < A.ac.length := by omega
      have HD : Hid (x ≤ s ∧ y ≤ s ∧ x ≤ y) := ⟨p1, p2, p3⟩
      clear at1 at2 c1 c3 hx hy p1 p2 p3 p4
      go_wp2_with fail
      have d1 : decide ((x : Int) < 0) = false := decide_eq_false (by have := HD.out; omega)
      have d2 : decide ((s : Int) < (x : Int)) = false := decide_eq_false (by have := HD.out; omega)
      have n2 : decide (s < x) = false := decide_eq_false (by have := HD.out; omega)
      have n4 : decide (s < y) = false := decide_eq_false (by have := HD.out; omega)
      have n5 : decide (y < x) = false := decide_eq_false (by have := HD.out; omega)
      have d3 : decide ((y : Int) < 0) = false := decide_eq_false (by have := HD.out; omega)
      have d4 : decide ((s : Int) < (y : Int)) = false := decide_eq_false (by have := HD.out; omega)
      have d5 : decide ((y : Int) < (x : Int)) = false := decide_eq_false (by have := HD.out; omega)
      go_region_held3 (fun z => z.cell? ⟨g1, s, none⟩ = some (.int .i64 (x : Int)) ∧ z.cell? ⟨g2, s, none⟩ = some (.int .i64 (y : Int)) ∧ z.cell? ⟨g1, y, none⟩ = some (.int .i64 (x : Int))) (first | exact S0 | assumption) (fail)
      go_wp2_with fail
      go_roundw
      case rel => exact ⟨s + 1, q + 1, by go_num, by omega, rfl⟩
      case measure => simp [intOf]; omega
    · have hsI : ¬ (s : Int) < A.ac.length := by omega
      have HYq : Hid (Below _ _ (y1.drewN q)) := below_drewN HY1.out q
      by_cases he : lvl A (r + 1) = lvl A r
      · have hde : decide ((lvl A r).map (fun (x : Nat) => (x : Int)) = (lvl A (r + 1)).map (fun (x : Nat) => (x : Int))) = true := decide_eq_true (by rw [he])
        rw [hde] at HSP
        have HSR : Hid _ := HSQ.out he
        clear HSQ he hde
        go_wp2_with (first
          | (go_at_call 14; refine (HSP.out _ HYq.out).mono ?_; rintro e z1 ⟨rfl, hz1⟩; have HZ1 : Hid (Below _ _ z1) := go_on HYq.out hz1; clear hz1 HSP)
          | (go_at_call 14; refine (HSR.out _ HZ1.out).mono ?_; rintro e z2 ⟨rfl, hz2⟩; have HZ2 : Hid (Below _ _ z2) := go_on HZ1.out hz2; clear hz2 HSR)
          | (go_at_call 18; refine (live10_any _).mono ?_; rintro e z3 ⟨rfl, hz3⟩; have HZ3 : Hid (Below w.heap.size w z3) := go_on (go_on (go_on HB1.out HBB.out) HZ2.out) hz3; clear hz3))
        go_ret
        exact ⟨rfl, HZ3.out⟩
      · have hde : decide ((lvl A r).map (fun (x : Nat) => (x : Int)) = (lvl A (r + 1)).map (fun (x : Nat) => (x : Int))) = false := decide_eq_false (fun q => he (by
          have hinj : ∀ (l m : List Nat), l.map (fun (x : Nat) => (x : Int)) = m.map (fun (x : Nat) => (x : Int)) → l = m := by
            intro l
            induction l with
            | nil => intro m h; cases m with
              | nil => rfl
              | cons b m => cases h
            | cons a l ih => intro m h; cases m with
              | nil => cases h
              | cons b m =>
                simp only [List.map_cons, List.cons.injEq] at h
                rw [ih m h.2, show a = b by omega]
          exact (hinj _ _ q).symm))
        rw [hde] at HSP
        clear HSQ he hde
        go_wp2_with (first
          | (go_at_call 14; refine (HSP.out _ HYq.out).mono ?_; rintro e z1 ⟨rfl, hz1⟩; have HZ1 : Hid (Below _ _ z1) := go_on HYq.out hz1; clear hz1 HSP)
          | (go_at_call 18; refine (live10_any _).mono ?_; rintro e z3 ⟨rfl, hz3⟩; have HZ3 : Hid (Below w.heap.size w z3) := go_on (go_on (go_on HB1.out HBB.out) HZ1.out) hz3; clear hz3))
        go_ret
        exact ⟨rfl, HZ3.out⟩

/-! ### The row's step -/
theorem own : ownKnob Try.prog.godebug = none := by kernel_rfl
set_option maxRecDepth 100000 in
theorem lifted (os : Os) (started : os.Started) (H : Type) (enc : TypeId × Value → H) :
    ReturnsInHanded {} Try.checked os 7 .any (Rows.minimMooreSpec.pre6 enc Try.prog Try.f7 Rows.minimMooreRow.domain false) (Rows.minimMooreSpec.post enc Try.prog Try.f7 false true false false) := by
  refine returnsInHanded_of_change_sized (C := Try.checked) own started (by kernel_rfl) Try.func7
    (ChangeSpec.witness6 (enc := enc) (C := Try.checked) false ⟨#[], #[.agg #[.int .i64 0, .slice none 0 0, .slice none 0 0], .int .i64 0], []⟩ 8 (by kernel_rfl) (by kernel_rfl) (by kernel_rfl) (by kernel_rfl)) ?_
  intro W base args ds gs before hval0 hW hcnd hsz0 _
  have hval : ∀ (j : Nat) t v, Try.f7.params[j]? = some t → args[j]? = some v → Value.okWide Try.prog W .any base t v := hval0
  clear hval0
  have hsz : (DataW.weightsEach Try.prog (Try.f7.params.toList ++ Rows.minimMooreSpec.plain.varTypes Try.prog) (ds ++ gs)).all (· ≤ reachBytes) = true := hsz0
  clear hsz0
  have hW' := hW
  obtain ⟨p, q, hA0, hV, rfl, hfz, hnd⟩ := hW
  have hA : DataW.TrodAll enc Try.prog W 0 (fun _ => true) true Try.f7.params.toList args.toList ds p := hA0
  rw [Try.params7] at hA hval hsz
  obtain ⟨v0, vs0, d0, ds0, p0, q0, hargs, rfl, rfl, h0, r0⟩ := trodAll_cons hA
  obtain ⟨v1, vs1, d1, ds1, p1, q1, rfl, rfl, rfl, h1, r1⟩ := trodAll_cons r0
  obtain ⟨rfl, rfl, rfl⟩ := trodAll_nil r1
  obtain rfl : args = #[v0, v1] := by cases args; simp_all
  obtain ⟨rfl, rfl⟩ := trodVars_none hV
  obtain ⟨a0, x0, n0, w0, dk0, dn0, da0, e0, y0, z0⟩ := open_auto (hval 0 25 v0 rfl rfl) h0
  have b0 := auto_bounds hsz (j := 0) rfl (by rw [e0]; rfl) y0 z0
  have g0 : ∀ x ∈ p0, x.block < W.heap.size := fun x hx => hW'.lt x (by simp [hx])
  obtain ⟨a1, rfl, rfl, rfl, w1⟩ := open_int Try.underlying3 (hval 1 3 v1 rfl rfl) h1
  clear hA0
  refine (walk v0 a0 a1 W x0 n0 b0.1 b0.2 w1).mono fun e W' ⟨he, bel⟩ => ?_
  subst he
  exact ⟨_, rfl, _, _, _, [], _, [], hW', trodAll_mk1 (shut_bool Try.underlying4 _), (trodAll_cons_mk (Below.trod Try.laidOut (by kernel_rfl) (of_decide_eq_true (by kernel_rfl)) h0 bel g0) (trodAll_cons_mk (shut_int Try.underlying3 w1) trodAll_mk0)), rfl, bel.frame _, fun h => by cases h⟩

theorem over : Rows.minimMooreRow.holds Try.pinned (OpenSpec.ofChange Rows.minimMooreSpec) :=
  OpenClaim.holds_of_wide 7 Try.f7 rfl rfl rfl rfl rfl rfl rfl ⟨rfl, rfl, rfl, rfl, rfl⟩ rfl rfl rfl rfl rfl (by kernel_rfl) Try.func7 (by kernel_rfl)
    (of_decide_eq_true (by kernel_rfl)) (by unfold Func.isWrapper; first | (rw [if_pos (by decide +kernel)]; kernel_rfl) | (rw [if_neg (by decide +kernel)]; exact ⟨rfl, rfl⟩))
    (fun os started H enc _ => lifted os started H enc)

end Go.Proofs.Ytchohdpjeehaoaa.minimMoore
namespace Go.Proofs.Ytchohdpjeehaoaa
/-- The given statement. -/
theorem minimMoore_holds : Rows.MinimMooreSaid := minimMoore.over
end Go.Proofs.Ytchohdpjeehaoaa
