/- The laws' SameInts of any two lists; num, live. -/
import Derived.Test.YtggheiblgghpkaaMo
import Derived.Test.YtggheiblgghpkaaMm
import Derived.Test.YtggheiblgghpkaaJr
namespace Go.Proofs.Ytggheiblgghpkaa
open Go Go.RowKit Go.Lib
set_option linter.unusedVariables false
attribute [-instance] instBEqProd

set_option maxHeartbeats 2000000 in
set_option maxRecDepth 100000 in
theorem sameB_any (a1 a2 : Option Addr) (c1 c2 n : Nat) (xs ys : List Int) (w : World) (g1 : SR w a1 (zC xs)) (g2 : SR w a2 (zC ys)) (hx : xs.length = n) (hy : ys.length = n) (hm1 : n ≤ 9223372036854775806) :
    Calls Try.prog 51 #[.slice a1 n c1, .slice a2 n c2] w fun e w' => e = .returned (.bool (decide (xs = ys))) ∧ Below w.heap.size w w' := by
  by_cases he : xs = ys
  · subst he
    rw [decide_eq_true rfl]
    have := same_any a1 a2 c1 c2 xs w g1 g2 (by omega)
    rw [hx] at this
    exact this
  rw [decide_eq_false he]
  have H1 : Hid (SR w a1 (zC xs)) := g1
  have H2 : Hid (SR w a2 (zC ys)) := g2
  have HX : Hid (xs.length = n ∧ ys.length = n) := ⟨hx, hy⟩
  have HE : Hid (xs ≠ ys) := he
  clear g1 g2 hx hy he
  go_enter Try.func51, Try.ntmps51
  go_wp2_with fail
  go_loopw [5] (fun vi wr => ∃ i q : Nat, vi = .int .i64 i ∧ i ≤ n ∧ (∀ t, t < i → xs.getD t 0 = ys.getD t 0) ∧ wr = w.drewN q) (fun vi _ => n - (intOf vi).toNat)
  case atStart => exact ⟨0, 0, rfl, Nat.zero_le _, fun t ht => by omega, rfl⟩
  case round =>
    obtain ⟨i, q, rfl, hi, hall, rfl⟩ := hrel
    have HALL : Hid (∀ t, t < i → xs.getD t 0 = ys.getD t 0) := hall
    clear hall
    by_cases hlt : i < n
    · have hiI : (i : Int) < n := by omega
      obtain ⟨ga, oa, rfl, _, ca⟩ := H1.out.int (i := i) (by rw [HX.out.1]; exact hlt)
      obtain ⟨gb, ob, rfl, _, cb⟩ := H2.out.int (i := i) (by rw [HX.out.2]; exact hlt)
      obtain ⟨x, hx⟩ : ∃ x, xs.getD i 0 = x := ⟨_, rfl⟩
      obtain ⟨y, hy⟩ : ∃ y, ys.getD i 0 = y := ⟨_, rfl⟩
      rw [hx] at ca
      rw [hy] at cb
      have HXY : Hid (xs.getD i 0 = x ∧ ys.getD i 0 = y) := ⟨hx, hy⟩
      clear hx hy
      by_cases e : x = y
      · subst e
        go_wp2_with fail
        go_quiet (fail)
        go_wp2
        go_roundw
        case rel =>
          refine ⟨i + 1, _, by go_num, by omega, fun t ht => ?_, rfl⟩
          by_cases et : t = i
          · rw [et, HXY.out.1, HXY.out.2]
          · exact HALL.out t (by omega)
        case measure => simp [intOf]; omega
      · have hd : (x == y) = false := by simpa using e
        have hd2 : decide (x = y) = false := decide_eq_false e
        go_wp2_with fail
        go_quiet (fail)
        go_wp2
        go_ret
        exact ⟨rfl, ⟨rfl, rfl, rfl, Nat.le_refl _, fun _ _ => rfl⟩⟩
    · exfalso
      apply HE.out
      apply List.ext_getElem?
      intro j
      by_cases hj : j < n
      · have := HALL.out j (by omega)
        rw [List.getD_eq_getElem?_getD, List.getD_eq_getElem?_getD, List.getElem?_eq_getElem (by rw [HX.out.1]; exact hj), List.getElem?_eq_getElem (by rw [HX.out.2]; exact hj)] at this
        rw [List.getElem?_eq_getElem (by rw [HX.out.1]; exact hj), List.getElem?_eq_getElem (by rw [HX.out.2]; exact hj)]
        exact congrArg some this
      · rw [List.getElem?_eq_none (by rw [HX.out.1]; omega), List.getElem?_eq_none (by rw [HX.out.2]; omega)]

theorem lit_sr {w : World} {g : Nat} {arr : Array Value} {t : TypeId} {us : List Value} (h : w.heap[g]? = some (.cells arr t (0, 0))) (e : us = arr.toList) : SR w (some ⟨g, 0, none⟩) us := by
  intro i u hi
  refine ⟨g, 0, rfl, (Array.getElem?_eq_some_iff.1 h).1, ?_⟩
  rw [Nat.zero_add, cell_of h]
  rw [e] at hi
  simpa using hi

end Go.Proofs.Ytggheiblgghpkaa
