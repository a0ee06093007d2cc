/- The law's num, Plain and live: it answers true. -/
import Derived.Test.YtbfoamidnekoaabJp
namespace Go.Proofs.Ytbfoamidnekoaab
open Go Go.RowKit Go.Lib
set_option linter.unusedVariables false

set_option maxHeartbeats 400000 in
theorem num8_any (e0 : Int) (w : World) :
    Calls Try.prog 11 #[.int .i64 e0] w fun e w' => e = .returned (.int .i64 e0) ∧ w' = w := by
  go_enter Try.func11, Try.ntmps11
  go_wp2
  go_ret
  exact ⟨rfl, rfl⟩

theorem results_auto1 {fn : Func} {p : Tmp} (h : fn.results = #[.cell p 25]) {tmps : Array Value} {b : Nat} {arr : Array Value} {w : World} (hp : tmps.getD p undef = .pointer (some ⟨b, 0, none⟩)) (hc : w.heap[b]? = some (.cells arr 25 (0, 0))) (hs : arr.size = 3) :
    (results fn tmps).run Try.prog w = .ok (.agg arr) w :=
  results_cell_row h tmps w b 25 arr (0, 0) _ hp hc Try.underlying25 rfl (by rw [Try.info_auto, hs])
/-- The examples' automaton. -/
def plA : Aut := ⟨2, [1, 0, 1, 1], [true, false]⟩
theorem plA_good : Good plA := ⟨by decide, by decide, by decide, by decide, by decide, by decide, by decide⟩

set_option maxHeartbeats 1000000 in
set_option maxRecDepth 100000 in
theorem plain_any (w : World) : Calls Try.prog 30 #[] w fun e w' => ∃ v', e = .returned v' ∧ AO w.heap.size w' v' plA ∧ Below w.heap.size w w' := by
  go_enter Try.func30, Try.ntmps30
  go_wp2_with fail
  have e0 : (((w.alloc (.cells #[.int .i64 2, .slice (some ⟨w.heap.size + 1, 0, none⟩) 4 4, .slice (some ⟨w.heap.size + 1 + 1, 0, none⟩) 2 2] 25)).alloc (.cells #[.int .i64 1, .int .i64 0, .int .i64 1, .int .i64 1] 3)).alloc (.cells #[.bool true, .bool false] 4)).heap[w.heap.size]? = some (.cells #[.int .i64 2, .slice (some ⟨w.heap.size + 1, 0, none⟩) 4 4, .slice (some ⟨w.heap.size + 1 + 1, 0, none⟩) 2 2] 25 (0, 0)) := by
    rw [(below_new _ _).block _ (by simp; omega), (below_new _ _).block _ (by simp)]
    exact heap_alloc_last _ _
  have e1 : (((w.alloc (.cells #[.int .i64 2, .slice (some ⟨w.heap.size + 1, 0, none⟩) 4 4, .slice (some ⟨w.heap.size + 1 + 1, 0, none⟩) 2 2] 25)).alloc (.cells #[.int .i64 1, .int .i64 0, .int .i64 1, .int .i64 1] 3)).alloc (.cells #[.bool true, .bool false] 4)).heap[w.heap.size + 1]? = some (.cells #[.int .i64 1, .int .i64 0, .int .i64 1, .int .i64 1] 3 (0, 0)) := by
    rw [(below_new _ _).block _ (by simp)]
    have := heap_alloc_last (w.alloc (.cells #[.int .i64 2, .slice (some ⟨w.heap.size + 1, 0, none⟩) 4 4, .slice (some ⟨w.heap.size + 1 + 1, 0, none⟩) 2 2] 25)) (.cells #[.int .i64 1, .int .i64 0, .int .i64 1, .int .i64 1] 3)
    simpa using this
  have e2 : (((w.alloc (.cells #[.int .i64 2, .slice (some ⟨w.heap.size + 1, 0, none⟩) 4 4, .slice (some ⟨w.heap.size + 1 + 1, 0, none⟩) 2 2] 25)).alloc (.cells #[.int .i64 1, .int .i64 0, .int .i64 1, .int .i64 1] 3)).alloc (.cells #[.bool true, .bool false] 4)).heap[w.heap.size + 1 + 1]? = some (.cells #[.bool true, .bool false] 4 (0, 0)) := by
    have := heap_alloc_last ((w.alloc (.cells #[.int .i64 2, .slice (some ⟨w.heap.size + 1, 0, none⟩) 4 4, .slice (some ⟨w.heap.size + 1 + 1, 0, none⟩) 2 2] 25)).alloc (.cells #[.int .i64 1, .int .i64 0, .int .i64 1, .int .i64 1] 3)) (.cells #[.bool true, .bool false] 4)
    simpa using this
  refine bodyPost_ret (results_auto1 rfl rfl e0 rfl) rfl ⟨_, rfl, ⟨_, _, _, _, rfl, ⟨rfl, .inr ⟨w.heap.size + 1, 4, _, rfl, by omega, e1, Nat.le_refl _, by unfold maxLen; omega, rfl, rfl⟩⟩, ⟨rfl, .inr ⟨w.heap.size + 1 + 1, 2, _, rfl, by omega, e2, Nat.le_refl _, by unfold maxLen; omega, rfl, rfl⟩⟩⟩, ?_⟩
  exact ((below_new _ _).alloc (by simp) _).alloc (by simp; omega) _

theorem pl_run : runV plA 0 ⟨#[98, 98, 97]⟩ = 1 ∧ runE plA 0 ⟨#[98, 98, 97]⟩ = 0 := by
  have hc : chk 2 ⟨#[98, 98, 97]⟩ = 0 := by decide +kernel
  have e : runE plA 0 ⟨#[98, 98, 97]⟩ = 0 := by
    rw [runE_in (chkA_ok plA_good) (by decide)]
    exact hc
  refine ⟨?_, e⟩
  unfold runV
  rw [if_pos e]
  decide +kernel
theorem pl_bfs : bfs (dN plA) 2 0 = some ([0, 1], [1, 0, 1, 1]) := by decide +kernel
theorem pl_not : notA plA = ⟨2, [1, 0, 1, 1], [false, true]⟩ := by
  unfold notA
  rw [if_pos (chkA_ok plA_good)]
  unfold rch
  have : bfs (dN plA) plA.k.toNat 0 = some ([0, 1], [1, 0, 1, 1]) := pl_bfs
  rw [this]
  rfl
def nlA : Aut := ⟨2, [1, 0, 1, 1], [false, true]⟩
theorem nlA_good : Good nlA := ⟨by decide, by decide, by decide, by decide, by decide, by decide, by decide⟩
theorem nl_re : reA nlA = ⟨2, [1, 0, 1, 1], [false, true]⟩ := by
  unfold reA
  rw [if_pos (chkA_ok nlA_good)]
  unfold rch
  have : bfs (dN nlA) nlA.k.toNat 0 = some ([0, 1], [1, 0, 1, 1]) := by decide +kernel
  rw [this]
  rfl
theorem nl_ls : lsW nlA = ⟨#[97]⟩ ∧ lsF nlA = true := by
  unfold lsW lsF lsN
  rw [nl_re]
  refine ⟨?_, rfl⟩
  rw [if_pos (by decide)]
  decide +kernel

set_option maxHeartbeats 2000000 in
set_option maxRecDepth 100000 in
theorem live8_any (w : World) : Calls Try.prog 12 #[] w fun e w' => e = .returned (.bool true) ∧ Below w.heap.size w w' := by
  go_enter Try.func12, Try.ntmps12
  go_wp2_with fail
  refine (plain_any _).mono ?_
  rintro e w1 ⟨v1, rfl, ha1, hb1⟩
  have HRUN : Hid (∀ w', Below w1.heap.size w1 w' → Calls Try.prog 29 #[v1, .int .i64 0, .string ⟨#[98, 98, 97]⟩] w' fun e w2 => e = .returned (.tuple #[.int .i64 1, .int .i64 0]) ∧ Below w'.heap.size w' w2) := fun w' hb => by
    have := run_any v1 plA w' (ha1.ar.stay hb) (by decide) (by decide) 0 ⟨#[98, 98, 97]⟩ (by decide)
    rw [pl_run.1, pl_run.2] at this
    exact this
  obtain ⟨a1, c1, a2, c2, rfl, _, _⟩ := ha1
  have HB1 : Hid (Below w.heap.size w w1) := hb1
  clear hb1
  go_wp2_with fail
  refine (HRUN.out _ (Below.refl _ _)).mono ?_
  rintro e w2 ⟨rfl, hb2⟩
  have HB2 : Hid (Below w.heap.size w w2) := go_on HB1.out hb2
  clear hb2 HRUN
  go_wp2_with fail
  refine (plain_any _).mono ?_
  rintro e w3 ⟨v3, rfl, ha3, hb3⟩
  have HNOT : Hid (Calls Try.prog 15 #[v3] w3 (FQ nlA 0 w3)) := by
    have := not_any v3 plA w3 ha3.ar (by decide) (by decide)
    rw [pl_not, chkA_ok plA_good] at this
    exact this
  obtain ⟨b1, d1, b2, d2, rfl, _, _⟩ := ha3
  have HB3 : Hid (Below w.heap.size w w3) := go_on HB2.out hb3
  clear hb3
  go_wp2_with fail
  refine HNOT.out.mono ?_
  rintro e w4 ⟨v4, rfl, ha4, hb4⟩
  have HLE : Hid (∀ w', Below w4.heap.size w4 w' → Calls Try.prog 31 #[v4] w' fun e w2 => e = .returned (.tuple #[.string ⟨#[97]⟩, .bool true, .int .i64 0]) ∧ Below w'.heap.size w' w2) := fun w' hb => by
    have := least_any v4 nlA w' (ha4.ar.stay hb) (by decide) (by decide)
    rw [nl_ls.1, nl_ls.2, chkA_ok nlA_good] at this
    exact this
  obtain ⟨p1, q1, p2, q2, rfl, _, _⟩ := ha4
  have HB4 : Hid (Below w.heap.size w w4) := go_on HB3.out hb4
  clear hb4 HNOT
  go_wp2_with fail
  refine (HLE.out _ (below_new _ _)).mono ?_
  rintro e w5 ⟨rfl, hb5⟩
  have HB5 : Hid (Below w.heap.size w w5) := go_on (go_on HB4.out (below_new _ _)) hb5
  clear hb5 HLE
  go_wp2_with (go_at_call 11; refine (num8_any _ _).mono ?_; rintro e w6 ⟨rfl, rfl⟩)
  go_ret
  exact ⟨rfl, HB5.out⟩
end Go.Proofs.Ytbfoamidnekoaab
