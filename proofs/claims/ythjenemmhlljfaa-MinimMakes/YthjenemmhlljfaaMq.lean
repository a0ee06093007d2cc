/- The document's same and first. -/
import Derived.Test.YthjenemmhlljfaaMn
namespace Go.Proofs.Ythjenemmhlljfaa
open Go Go.RowKit Go.Lib
set_option linter.unusedVariables false
attribute [-instance] instBEqProd

set_option maxHeartbeats 2000000 in
set_option maxRecDepth 100000 in
theorem rsame_any (a1 a2 : Option Addr) (c1 c2 n : Nat) (l m : List Nat) (w : World) (g1 : SR w a1 (nC l)) (g2 : SR w a2 (nC m)) (hl : l.length = n) (hm : m.length = n) (hn : n ≤ 4096) :
    Calls Try.prog 36 #[.slice a1 n c1, .slice a2 n c2] w fun e w' => e = .returned (.bool (decide (l = m))) ∧ Below w.heap.size w w' := by
  have H1 : Hid (SR w a1 (nC l)) := g1
  have H2 : Hid (SR w a2 (nC m)) := g2
  have HX : Hid (l.length = n ∧ m.length = n) := ⟨hl, hm⟩
  clear g1 g2 hl hm
  go_enter Try.func36, Try.ntmps36
  go_wp2_with fail
  go_loopw [5] (fun vi wr => ∃ i q : Nat, vi = .int .i64 i ∧ i ≤ n ∧ (∀ t, t < i → l.getD t 0 = m.getD t 0) ∧ wr = w.drewN q) (fun vi _ => n - (intOf vi).toNat)
  case atStart => exact ⟨0, 0, rfl, Nat.zero_le _, fun t ht => by omega, rfl⟩
  case round =>
    obtain ⟨i, q, rfl, hi, hall, rfl⟩ := hrel
    have HALL : Hid (∀ t, t < i → l.getD t 0 = m.getD t 0) := hall
    clear hall
    by_cases hlt : i < n
    · have hiI : (i : Int) < n := by omega
      obtain ⟨ga, oa, rfl, _, ca⟩ := H1.out.nat (i := i) (by rw [HX.out.1]; exact hlt)
      obtain ⟨gb, ob, rfl, _, cb⟩ := H2.out.nat (i := i) (by rw [HX.out.2]; exact hlt)
      obtain ⟨x, hx⟩ : ∃ x, l.getD i 0 = x := ⟨_, rfl⟩
      obtain ⟨y, hy⟩ : ∃ y, m.getD i 0 = y := ⟨_, rfl⟩
      rw [hx] at ca
      rw [hy] at cb
      have S0 : (w.drewN q).drew.cell? ⟨ga, oa + i, none⟩ = some (.int .i64 (x : Int)) ∧ (w.drewN q).drew.cell? ⟨gb, ob + i, none⟩ = some (.int .i64 (y : Int)) := ⟨ca, cb⟩
      have HXY : Hid (l.getD i 0 = x ∧ m.getD i 0 = y) := ⟨hx, hy⟩
      clear hx hy ca cb
      by_cases e : x = y
      · subst e
        go_wp2_with fail
        go_region_held3 (fun z => z.cell? ⟨ga, oa + i, none⟩ = some (.int .i64 (x : Int)) ∧ z.cell? ⟨gb, ob + i, none⟩ = some (.int .i64 (x : Int))) (first | exact S0 | assumption) (fail)
        go_wp2_with fail
        go_roundw
        case rel =>
          refine ⟨i + 1, q + 1, by go_num, by omega, fun t ht => ?_, rfl⟩
          by_cases et : t = i
          · rw [et, HXY.out.1, HXY.out.2]
          · exact HALL.out t (by omega)
        case measure => simp [intOf]; omega
      · have eI : ¬ (x : Int) = y := by omega
        have hd : decide ((x : Int) = y) = false := decide_eq_false eI
        have HF : Hid (decide (l = m) = false) := decide_eq_false fun q => e (by rw [← HXY.out.1, ← HXY.out.2, q])
        go_wp2_with fail
        go_region_held3 (fun z => z.cell? ⟨ga, oa + i, none⟩ = some (.int .i64 (x : Int)) ∧ z.cell? ⟨gb, ob + i, none⟩ = some (.int .i64 (y : Int))) (first | exact S0 | assumption) (fail)
        go_wp2_with fail
        go_ret
        exact ⟨by rw [HF.out]; rfl, ⟨rfl, rfl, rfl, Nat.le_refl _, fun _ _ => rfl⟩⟩
    · have hiI : ¬ (i : Int) < n := by omega
      have HT : Hid (decide (l = m) = true) := decide_eq_true (list_eq_of (by rw [HX.out.1, HX.out.2]) fun t ht => HALL.out t (by have := HX.out.1; omega))
      go_wp2_with fail
      go_ret
      exact ⟨by rw [HT.out]; rfl, ⟨rfl, rfl, rfl, Nat.le_refl _, fun _ _ => rfl⟩⟩
end Go.Proofs.Ythjenemmhlljfaa
