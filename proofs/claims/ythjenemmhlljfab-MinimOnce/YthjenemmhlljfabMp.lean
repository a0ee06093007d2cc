/- The laws' SameInts of any two lists; num, live. -/
import Derived.Test.YthjenemmhlljfabMo
import Derived.Test.YthjenemmhlljfabMm
import Derived.Test.YthjenemmhlljfabJr
namespace Go.Proofs.Ythjenemmhlljfab
open Go Go.RowKit Go.Lib
set_option linter.unusedVariables false
attribute [-instance] instBEqProd

set_option maxHeartbeats 2000000 in
set_option maxRecDepth 100000 in
theorem sameB_any (a1 a2 : Option Addr) (c1 c2 n : Nat) (xs ys : List Int) (w : World) (g1 : SR w a1 (zC xs)) (g2 : SR w a2 (zC ys)) (hx : xs.length = n) (hy : ys.length = n) (hm1 : n ≤ 9223372036854775806) :
    Calls Try.prog 11 #[.slice a1 n c1, .slice a2 n c2] w fun e w' => e = .returned (.bool (decide (xs = ys))) ∧ Below w.heap.size w w' := by
  by_cases he : xs = ys
  · subst he
    rw [decide_eq_true rfl]
    have := same_any a1 a2 c1 c2 xs w g1 g2 (by omega)
    rw [hx] at this
    exact this
  rw [decide_eq_false he]
  have H1 : Hid (SR w a1 (zC xs)) := g1
  have H2 : Hid (SR w a2 (zC ys)) := g2
  have HX : Hid (xs.length = n ∧ ys.length = n) := ⟨hx, hy⟩
  have HE : Hid (xs ≠ ys) := he
  clear g1 g2 hx hy he
  go_enter Try.func11, Try.ntmps11
  go_wp2_with fail
  go_loopw [5] (fun vi wr => ∃ i q : Nat, vi = .int .i64 i ∧ i ≤ n ∧ (∀ t, t < i → xs.getD t 0 = ys.getD t 0) ∧ wr = w.drewN q) (fun vi _ => n - (intOf vi).toNat)
  case atStart => exact ⟨0, 0, rfl, Nat.zero_le _, fun t ht => by omega, rfl⟩
  case round =>
    obtain ⟨i, q, rfl, hi, hall, rfl⟩ := hrel
    have HALL : Hid (∀ t, t < i → xs.getD t 0 = ys.getD t 0) := hall
    clear hall
    by_cases hlt : i < n
    · have hiI : (i : Int) < n := by omega
      obtain ⟨ga, oa, rfl, _, ca⟩ := H1.out.int (i := i) (by rw [HX.out.1]; exact hlt)
      obtain ⟨gb, ob, rfl, _, cb⟩ := H2.out.int (i := i) (by rw [HX.out.2]; exact hlt)
      obtain ⟨x, hx⟩ : ∃ x, xs.getD i 0 = x := ⟨_, rfl⟩
      obtain ⟨y, hy⟩ : ∃ y, ys.getD i 0 = y := ⟨_, rfl⟩
      rw [hx] at ca
      rw [hy] at cb
      have HXY : Hid (xs.getD i 0 = x ∧ ys.getD i 0 = y) := ⟨hx, hy⟩
      clear hx hy
      by_cases e : x = y
      · subst e
        go_wp2_with fail
        go_quiet (fail)
        go_wp2
        go_roundw
        case rel =>
          refine ⟨i + 1, _, by go_num, by omega, fun t ht => ?_, rfl⟩
          by_cases et : t = i
          · rw [et, HXY.out.1, HXY.out.2]
          · exact HALL.out t (by omega)
        case measure => simp [intOf]; omega
      · have hd : (x == y) = false := by simpa using e
        have hd2 : decide (x = y) = false := decide_eq_false e
        go_wp2_with fail
        go_quiet (fail)
        go_wp2
        go_ret
        exact ⟨rfl, ⟨rfl, rfl, rfl, Nat.le_refl _, fun _ _ => rfl⟩⟩
    · exfalso
      apply HE.out
      apply List.ext_getElem?
      intro j
      by_cases hj : j < n
      · have := HALL.out j (by omega)
        rw [List.getD_eq_getElem?_getD, List.getD_eq_getElem?_getD, List.getElem?_eq_getElem (by rw [HX.out.1]; exact hj), List.getElem?_eq_getElem (by rw [HX.out.2]; exact hj)] at this
        rw [List.getElem?_eq_getElem (by rw [HX.out.1]; exact hj), List.getElem?_eq_getElem (by rw [HX.out.2]; exact hj)]
        exact congrArg some this
      · rw [List.getElem?_eq_none (by rw [HX.out.1]; omega), List.getElem?_eq_none (by rw [HX.out.2]; omega)]

set_option maxHeartbeats 1000000 in
set_option maxRecDepth 100000 in
theorem num10_any (e0 : Int) (w : World) :
    Calls Try.prog 6 #[.int .i64 e0] w fun e w' => e = .returned (.int .i64 e0) ∧ w' = w := by
  go_enter Try.func6, Try.ntmps6
  go_wp2_with fail
  go_ret
  exact ⟨rfl, rfl⟩
theorem odA_good : Good odA := ⟨by decide, by decide, by decide, by decide, by decide, by decide, by decide⟩
theorem od_mn : mnA odA = ⟨1, [1, 0], [false, true]⟩ ∧ mnT odA = [0, 1, 0, 1] := by
  have hc := chkA_ok odA_good
  have hb : bfs (dC odA (lvl odA odA.ac.length)) odA.k.toNat 0 = some ([0, 1], [1, 0]) := by
    show bfs (fun s c => (lvl odA 4).getD (dN odA s c) 0) 1 0 = _
    rw [od_lvl]
    exact od_bfs
  refine ⟨?_, ?_⟩
  · unfold mnA
    rw [if_pos hc]
    unfold ioA
    rw [hb]
    rfl
  · unfold mnT
    rw [if_pos hc]
    unfold ioM
    rw [hb]
    show (List.range 4).map (fun s => nmI [0, 1] ((lvl odA 4).getD s 0)) = _
    rw [od_lvl]
    decide

theorem lit_sr {w : World} {g : Nat} {arr : Array Value} {t : TypeId} {us : List Value} (h : w.heap[g]? = some (.cells arr t (0, 0))) (e : us = arr.toList) : SR w (some ⟨g, 0, none⟩) us := by
  intro i u hi
  refine ⟨g, 0, rfl, (Array.getElem?_eq_some_iff.1 h).1, ?_⟩
  rw [Nat.zero_add, cell_of h]
  rw [e] at hi
  simpa using hi

set_option maxHeartbeats 4000000 in
set_option maxRecDepth 100000 in
theorem live10_any (w : World) : Calls Try.prog 7 #[] w fun e w' => e = .returned (.bool true) ∧ Below w.heap.size w w' := by
  go_enter Try.func7, Try.ntmps7
  go_wp2_with fail
  obtain ⟨U, hU⟩ : ∃ U, U = (((w.alloc (.cells #[.int .i64 1, .int .i64 2, .int .i64 3, .int .i64 2] 3)).alloc (.cells #[.bool false, .bool true, .bool false, .bool true] 4)).alloc (.cells #[.int .i64 1, .slice (some ⟨w.heap.size, 0, none⟩) 4 4, .slice (some ⟨w.heap.size + 1, 0, none⟩) 4 4] 25)) := ⟨_, rfl⟩
  have e1 : U.heap[w.heap.size]? = some (.cells #[.int .i64 1, .int .i64 2, .int .i64 3, .int .i64 2] 3 (0, 0)) := by
    rw [hU, (below_new _ _).block _ (by simp; omega), (below_new _ _).block _ (by simp)]
    exact heap_alloc_last _ _
  have e2 : U.heap[w.heap.size + 1]? = some (.cells #[.bool false, .bool true, .bool false, .bool true] 4 (0, 0)) := by
    rw [hU, (below_new _ _).block _ (by simp)]
    have := heap_alloc_last (w.alloc (.cells #[.int .i64 1, .int .i64 2, .int .i64 3, .int .i64 2] 3)) (.cells #[.bool false, .bool true, .bool false, .bool true] 4)
    rw [World.size_alloc] at this
    exact this
  have hBU : Below w.heap.size w U := by rw [hU]; exact go_on (go_on (below_new _ _) (below_new _ _)) (below_new _ _)
  have hAR : AR U (.agg #[.int .i64 1, .slice (some ⟨w.heap.size, 0, none⟩) 4 4, .slice (some ⟨w.heap.size + 1, 0, none⟩) 4 4]) odA := by
    refine (show AO w.heap.size U _ odA from ⟨_, _, _, _, rfl, ⟨rfl, .inr ⟨w.heap.size, 4, _, rfl, Nat.le_refl _, e1, Nat.le_refl _, by unfold maxLen; omega, rfl, rfl⟩⟩, ⟨rfl, .inr ⟨w.heap.size + 1, 4, _, rfl, by omega, e2, Nat.le_refl _, by unfold maxLen; omega, rfl, rfl⟩⟩⟩).ar
  have HMN : Hid (Calls Try.prog 5 #[.agg #[.int .i64 1, .slice (some ⟨w.heap.size, 0, none⟩) 4 4, .slice (some ⟨w.heap.size + 1, 0, none⟩) 4 4]] U (MQ ⟨1, [1, 0], [false, true]⟩ [0, 1, 0, 1] 0 U)) := by
    have := minimal_any _ odA U hAR (by decide) (by decide)
    rwa [od_mn.1, od_mn.2, chkA_ok odA_good] at this
  have HBU : Hid (Below w.heap.size w U) := hBU
  rw [← hU]
  clear hU e1 e2 hBU hAR
  refine HMN.out.mono ?_
  rintro e w1 ⟨v', vt, rfl, hao, hT, hb1⟩
  obtain ⟨rn, rcn, ra, rca, rfl, o1, o2⟩ := hao
  obtain ⟨ta, tc, rfl⟩ := own_shape hT
  simp only [List.length_cons, List.length_nil, Nat.zero_add, Nat.reduceAdd] at o1 o2 hT ⊢
  have HB1 : Hid (Below w.heap.size w w1) := go_on HBU.out hb1
  have HS1 : Hid (SR w1 rn (zC [1, 0])) := own_sr o1
  have HS2 : Hid (SR w1 ra (bC [false, true])) := own_sr o2
  have HS3 : Hid (SR w1 ta (zC [0, 1, 0, 1])) := own_sr hT
  clear o1 o2 hT hb1 HMN HBU
  go_wp2_with fail
  refine (num10_any _ _).mono ?_
  rintro e yn ⟨rfl, hyn⟩
  subst yn
  have HC1 : Hid (Calls Try.prog 11 #[.slice rn 2 rcn, .slice (some ⟨w1.heap.size + 1, 0, none⟩) 2 2] ((w1.alloc (.cells #[.int .i64 1, .slice rn 2 rcn, .slice ra 2 rca] 25)).alloc (.cells #[.int .i64 1, .int .i64 0] 3)) fun e w' => e = .returned (.bool true) ∧ Below ((w1.alloc (.cells #[.int .i64 1, .slice rn 2 rcn, .slice ra 2 rca] 25)).alloc (.cells #[.int .i64 1, .int .i64 0] 3)).heap.size ((w1.alloc (.cells #[.int .i64 1, .slice rn 2 rcn, .slice ra 2 rca] 25)).alloc (.cells #[.int .i64 1, .int .i64 0] 3)) w') := by
    have q := heap_alloc_last (w1.alloc (.cells #[.int .i64 1, .slice rn 2 rcn, .slice ra 2 rca] 25)) (.cells #[.int .i64 1, .int .i64 0] 3)
    rw [World.size_alloc] at q
    exact same_any rn _ rcn 2 [1, 0] _ (HS1.out.stay (go_on (below_new _ _) (below_new _ _))) (lit_sr q rfl) (by decide)
  go_wp2_with fail
  refine HC1.out.mono ?_
  rintro e w3 ⟨rfl, hb3⟩
  have b13 := go_on (go_on (below_new w1 (.cells #[.int .i64 1, .slice rn 2 rcn, .slice ra 2 rca] 25)) (below_new _ (.cells #[.int .i64 1, .int .i64 0] 3))) hb3
  have HB3 : Hid (Below w1.heap.size w1 w3) := b13
  have cs3 := ((RowAt.last w1 #[.int .i64 1, .slice rn 2 rcn, .slice ra 2 rca] 25).stay (go_on (below_new _ (.cells #[.int .i64 1, .int .i64 0] 3)) hb3)).cell
  obtain ⟨ga, oa, rfl, hga, hca⟩ := (HS2.out.stay b13).bool (xs := [false, true]) (i := 1) (by decide)
  have hca2 : w3.cell? ⟨ga, oa + 1, none⟩ = some (.bool true) := hca
  have HC2 : Hid (∀ y, Below w3.heap.size w3 y → Calls Try.prog 11 #[.slice ta 4 tc, .slice (some ⟨y.heap.size, 0, none⟩) 4 4] (y.alloc (.cells #[.int .i64 0, .int .i64 1, .int .i64 0, .int .i64 1] 3)) fun e w' => e = .returned (.bool true) ∧ Below (y.alloc (.cells #[.int .i64 0, .int .i64 1, .int .i64 0, .int .i64 1] 3)).heap.size (y.alloc (.cells #[.int .i64 0, .int .i64 1, .int .i64 0, .int .i64 1] 3)) w') := fun y hy => by
    have q := heap_alloc_last y (.cells #[.int .i64 0, .int .i64 1, .int .i64 0, .int .i64 1] 3)
    exact same_any ta _ tc 4 [0, 1, 0, 1] _ (HS3.out.stay (go_on (go_on HB3.out hy) (below_new _ _))) (lit_sr q rfl) (by decide)
  clear hb3 b13 HC1 hca hga
  go_wp2_with fail
  refine (HC2.out _ (Below.refl _ _)).mono ?_
  rintro e w4 ⟨rfl, hb4⟩
  have HB4 : Hid (Below w.heap.size w w4) := go_on (go_on (go_on HB1.out HB3.out) (below_new _ _)) hb4
  clear hb4
  go_wp2_with fail
  go_ret
  exact ⟨rfl, HB4.out⟩
end Go.Proofs.Ythjenemmhlljfab
