/- equal: the law's live. -/
import Derived.Test.YtceoceecgekkjaaIk
import Derived.Deep.RegionHeld3
namespace Go.Proofs.Ytceoceecgekkjaa
open Go Go.RowKit Go.Lib Go.Maps
set_option linter.unusedVariables false

def alA : Aut := ⟨2, [0, 0], [true]⟩
theorem alA_good : Good alA := ⟨by decide, by decide, by decide, by decide, by decide, by decide, by decide⟩
theorem pal_ck : ckE plA alA = 0 := by
  unfold ckE
  rw [if_pos ⟨chkA_ok plA_good, chkA_ok alA_good⟩, if_pos (show plA.k = alA.k from rfl)]
theorem al_run (v : List Nat) (h : ∀ a ∈ v, a < 2) : wrun (dN alA) 0 v = 0 := by
  induction v with
  | nil => rfl
  | cons a v ih =>
    rw [wrun_cons]
    have ha := h a (by simp)
    have : dN alA 0 a = 0 := by
      rcases (show a = 0 ∨ a = 1 by omega) with rfl | rfl <;> decide
    rw [this]
    exact ih (fun b hb => h b (by simp [hb]))
theorem pal_differ : eqO plA alA (sx plA alA) = some [0] := by
  unfold eqO
  rw [if_pos pal_ck]
  refine lsh_some ⟨by decide, by decide +kernel, fun v hv hs => ?_⟩
  cases v with
  | nil => exact absurd hs (by decide +kernel)
  | cons a v =>
    cases v with
    | nil =>
      refine .inr ⟨rfl, ?_⟩
      show 0 < a ∨ (0 = a ∧ True)
      rcases Nat.eq_zero_or_pos a with q | q
      · exact .inr ⟨q.symm, trivial⟩
      · exact .inl q
    | cons b v => exact .inl (by simp)
theorem pal_inside : eqB plA alA (se plA alA) = true := by
  have : eqO plA alA (se plA alA) = none := by
    unfold eqO
    rw [if_pos pal_ck]
    refine lsh_none (fun v hv => ?_)
    rw [wrun_dd]
    unfold se
    show (_ && !aN alA (wrun (dN alA) 0 v)) = false
    rw [al_run v hv]
    simp [aN, alA]
  unfold eqB
  rw [this, pal_ck]
  rfl

set_option maxHeartbeats 4000000 in
set_option maxRecDepth 100000 in
theorem live12_any (w : World) : Calls Try.prog 16 #[] w fun e w' => e = .returned (.bool true) ∧ Below w.heap.size w w' := by
  go_enter Try.func16, Try.ntmps16
  go_wp2_with fail
  obtain ⟨U, hU⟩ : ∃ U, U = (((w.alloc (.cells #[.int .i64 0, .int .i64 0] 3)).alloc (.cells #[.bool true] 4)).alloc (.cells #[.int .i64 2, .slice (some ⟨w.heap.size, 0, none⟩) 2 2, .slice (some ⟨w.heap.size + 1, 0, none⟩) 1 1] 25)) := ⟨_, rfl⟩
  have e1 : U.heap[w.heap.size]? = some (.cells #[.int .i64 0, .int .i64 0] 3 (0, 0)) := by
    rw [hU, (below_new _ _).block _ (by simp; omega), (below_new _ _).block _ (by simp)]
    exact heap_alloc_last _ _
  have e2 : U.heap[w.heap.size + 1]? = some (.cells #[.bool true] 4 (0, 0)) := by
    rw [hU, (below_new _ _).block _ (by simp)]
    have := heap_alloc_last (w.alloc (.cells #[.int .i64 0, .int .i64 0] 3)) (.cells #[.bool true] 4)
    rw [World.size_alloc] at this
    exact this
  have hBU : Below w.heap.size w U := by rw [hU]; exact go_on (go_on (below_new _ _) (below_new _ _)) (below_new _ _)
  have hAR : AR U (.agg #[.int .i64 2, .slice (some ⟨w.heap.size, 0, none⟩) 2 2, .slice (some ⟨w.heap.size + 1, 0, none⟩) 1 1]) alA := by
    refine (show AO w.heap.size U _ alA from ⟨_, _, _, _, rfl, ⟨rfl, .inr ⟨w.heap.size, 2, _, rfl, Nat.le_refl _, e1, Nat.le_refl _, by unfold maxLen; omega, rfl, rfl⟩⟩, ⟨rfl, .inr ⟨w.heap.size + 1, 1, _, rfl, by omega, e2, Nat.le_refl _, by unfold maxLen; omega, rfl, rfl⟩⟩⟩).ar
  have HDF : Hid (∀ y v, AR y v plA → Below U.heap.size U y → Calls Try.prog 17 #[v, .agg #[.int .i64 2, .slice (some ⟨w.heap.size, 0, none⟩) 2 2, .slice (some ⟨w.heap.size + 1, 0, none⟩) 1 1]] y fun e w' => e = .returned (.tuple #[.string ⟨#[97]⟩, .bool true, .int .i64 0]) ∧ Below y.heap.size y w') := fun y v hv hy => by
    refine Calls.mono (edf_any v _ plA alA y hv (hAR.stay hy) (by decide) (by decide) (by decide) (by decide)) ?_
    rintro e w' ⟨rfl, _, h3⟩
    exact ⟨by rw [pal_differ, pal_ck]; rfl, h3⟩
  have HIN : Hid (∀ y v, AR y v plA → Below U.heap.size U y → Calls Try.prog 12 #[v, .agg #[.int .i64 2, .slice (some ⟨w.heap.size, 0, none⟩) 2 2, .slice (some ⟨w.heap.size + 1, 0, none⟩) 1 1]] y fun e w' => e = .returned (.tuple #[.bool true, .int .i64 0]) ∧ Below y.heap.size y w') := fun y v hv hy => by
    refine Calls.mono (ein_any v _ plA alA y hv (hAR.stay hy) (by decide) (by decide) (by decide) (by decide)) ?_
    rintro e w' ⟨rfl, h3⟩
    exact ⟨by rw [pal_inside, pal_ck], h3⟩
  have hUs : U.heap.size = w.heap.size + 3 := by rw [hU]; simp
  have S9 : (∀ o, U.cell? ⟨w.heap.size + 1 + 1, o, none⟩ = (#[.int .i64 2, .slice (some ⟨w.heap.size, 0, none⟩) 2 2, .slice (some ⟨w.heap.size + 1, 0, none⟩) 1 1] : Array Value)[o]?) ∧ Below U.heap.size U U := by
    refine ⟨fun o => ?_, Below.refl _ _⟩
    have := heap_alloc_last ((w.alloc (.cells #[.int .i64 0, .int .i64 0] 3)).alloc (.cells #[.bool true] 4)) (.cells #[.int .i64 2, .slice (some ⟨w.heap.size, 0, none⟩) 2 2, .slice (some ⟨w.heap.size + 1, 0, none⟩) 1 1] 25)
    simp only [World.size_alloc] at this
    rw [← hU] at this
    exact cell_of this
  have KK : Hid (∀ y1 y2, Below y1.heap.size y1 y2 → ((∀ o, y1.cell? ⟨w.heap.size + 1 + 1, o, none⟩ = (#[.int .i64 2, .slice (some ⟨w.heap.size, 0, none⟩) 2 2, .slice (some ⟨w.heap.size + 1, 0, none⟩) 1 1] : Array Value)[o]?) ∧ Below U.heap.size U y1) → ((∀ o, y2.cell? ⟨w.heap.size + 1 + 1, o, none⟩ = (#[.int .i64 2, .slice (some ⟨w.heap.size, 0, none⟩) 2 2, .slice (some ⟨w.heap.size + 1, 0, none⟩) 1 1] : Array Value)[o]?) ∧ Below U.heap.size U y2)) := fun y1 y2 hy h => ⟨fun o => (below_cell hy (by have := h.2.size; omega)).trans (h.1 o), go_on h.2 hy⟩
  have HBU : Hid (Below w.heap.size w U) := hBU
  rw [← hU]
  clear hU e1 e2 hBU hAR hUs
  have S1 : (∀ o, U.drew.cell? ⟨w.heap.size + 1 + 1, o, none⟩ = (#[.int .i64 2, .slice (some ⟨w.heap.size, 0, none⟩) 2 2, .slice (some ⟨w.heap.size + 1, 0, none⟩) 1 1] : Array Value)[o]?) ∧ Below U.heap.size U U.drew := KK.out U U.drew (Below.refl _ _).drew S9
  go_region_held3 (fun y => (∀ o, y.cell? ⟨w.heap.size + 1 + 1, o, none⟩ = (#[.int .i64 2, .slice (some ⟨w.heap.size, 0, none⟩) 2 2, .slice (some ⟨w.heap.size + 1, 0, none⟩) 1 1] : Array Value)[o]?) ∧ Below U.heap.size U y) (first | exact S1 | assumption | exact KK.out _ _ (by assumption) (by assumption)) (first
    | (go_at_call 17; refine (HDF.out _ _ (HP1.out _ (Below.refl _ _)) (And.right (by assumption))).mono ?_; rintro e z1 ⟨rfl, hz1⟩)
    | (go_at_call 34; refine (plain_any _).mono ?_; rintro e p1 ⟨v1, rfl, hao1, hp1⟩; have hav1 := hao1.ar; obtain ⟨rn1, rc1, ra1, rd1, rfl, _, _⟩ := hao1; have HP1 : Hid (∀ z, Below p1.heap.size p1 z → AR z (.agg #[.int .i64 plA.k, .slice rn1 plA.nx.length rc1, .slice ra1 plA.ac.length rd1]) plA) := (fun z hz => hav1.stay hz); clear hav1))
  all_goals (
    have S8 : (∀ o, z1.cell? ⟨w.heap.size + 1 + 1, o, none⟩ = (#[.int .i64 2, .slice (some ⟨w.heap.size, 0, none⟩) 2 2, .slice (some ⟨w.heap.size + 1, 0, none⟩) 1 1] : Array Value)[o]?) ∧ Below U.heap.size U z1 := by first | assumption | exact KK.out _ _ (by assumption) (by assumption)
    clear S9 S1
    go_wp2_with fail
    have S2 : (∀ o, z1.drew.cell? ⟨w.heap.size + 1 + 1, o, none⟩ = (#[.int .i64 2, .slice (some ⟨w.heap.size, 0, none⟩) 2 2, .slice (some ⟨w.heap.size + 1, 0, none⟩) 1 1] : Array Value)[o]?) ∧ Below U.heap.size U z1.drew := KK.out z1 z1.drew (Below.refl _ _).drew S8
    go_region_held3 (fun y => (∀ o, y.cell? ⟨w.heap.size + 1 + 1, o, none⟩ = (#[.int .i64 2, .slice (some ⟨w.heap.size, 0, none⟩) 2 2, .slice (some ⟨w.heap.size + 1, 0, none⟩) 1 1] : Array Value)[o]?) ∧ Below U.heap.size U y) (first | exact S2 | assumption | exact KK.out _ _ (by assumption) (by assumption)) (first
      | (go_at_call 12; refine (HIN.out _ _ (HP2.out _ (Below.refl _ _)) (And.right (by assumption))).mono ?_; rintro e z2 ⟨rfl, hz2⟩)
      | (go_at_call 34; refine (plain_any _).mono ?_; rintro e p2 ⟨v2, rfl, hao2, hp2⟩; have hav2 := hao2.ar; obtain ⟨rn2, rc2, ra2, rd2, rfl, _, _⟩ := hao2; have HP2 : Hid (∀ z, Below p2.heap.size p2 z → AR z (.agg #[.int .i64 plA.k, .slice rn2 plA.nx.length rc2, .slice ra2 plA.ac.length rd2]) plA) := (fun z hz => hav2.stay hz); clear hav2))
    all_goals (
      have S7 : (∀ o, z2.cell? ⟨w.heap.size + 1 + 1, o, none⟩ = (#[.int .i64 2, .slice (some ⟨w.heap.size, 0, none⟩) 2 2, .slice (some ⟨w.heap.size + 1, 0, none⟩) 1 1] : Array Value)[o]?) ∧ Below U.heap.size U z2 := by first | assumption | exact KK.out _ _ (by assumption) (by assumption)
      have HBZ : Hid (Below w.heap.size w z2) := go_on HBU.out S7.2
      clear S8 S2 S7
      go_wp2_with fail
      refine (num12_any _ _).mono ?_
      rintro e yn ⟨rfl, hyn⟩
      subst yn
      go_wp2_with fail
      refine (num12_any _ _).mono ?_
      rintro e yn ⟨rfl, hyn⟩
      subst yn
      go_wp2_with fail
      go_ret
      exact ⟨rfl, HBZ.out⟩))
end Go.Proofs.Ytceoceecgekkjaa
