/- The law's num, Plain and live: it answers true. -/
import Derived.Test.YtggheiblgghpkaaJp
namespace Go.Proofs.Ytggheiblgghpkaa
open Go Go.RowKit Go.Lib
set_option linter.unusedVariables false

theorem results_auto1 {fn : Func} {p : Tmp} (h : fn.results = #[.cell p 25]) {tmps : Array Value} {b : Nat} {arr : Array Value} {w : World} (hp : tmps.getD p undef = .pointer (some ⟨b, 0, none⟩)) (hc : w.heap[b]? = some (.cells arr 25 (0, 0))) (hs : arr.size = 3) :
    (results fn tmps).run Try.prog w = .ok (.agg arr) w :=
  results_cell_row h tmps w b 25 arr (0, 0) _ hp hc Try.underlying25 rfl (by rw [Try.info_auto, hs])
/-- The examples' automaton. -/
def plA : Aut := ⟨2, [1, 0, 1, 1], [true, false]⟩
theorem plA_good : Good plA := ⟨by decide, by decide, by decide, by decide, by decide, by decide, by decide⟩

set_option maxHeartbeats 1000000 in
set_option maxRecDepth 100000 in
theorem plain_any (w : World) : Calls Try.prog 34 #[] w fun e w' => ∃ v', e = .returned v' ∧ AO w.heap.size w' v' plA ∧ Below w.heap.size w w' := by
  go_enter Try.func34, Try.ntmps34
  go_wp2_with fail
  have e0 : (((w.alloc (.cells #[.int .i64 2, .slice (some ⟨w.heap.size + 1, 0, none⟩) 4 4, .slice (some ⟨w.heap.size + 1 + 1, 0, none⟩) 2 2] 25)).alloc (.cells #[.int .i64 1, .int .i64 0, .int .i64 1, .int .i64 1] 3)).alloc (.cells #[.bool true, .bool false] 4)).heap[w.heap.size]? = some (.cells #[.int .i64 2, .slice (some ⟨w.heap.size + 1, 0, none⟩) 4 4, .slice (some ⟨w.heap.size + 1 + 1, 0, none⟩) 2 2] 25 (0, 0)) := by
    rw [(below_new _ _).block _ (by simp; omega), (below_new _ _).block _ (by simp)]
    exact heap_alloc_last _ _
  have e1 : (((w.alloc (.cells #[.int .i64 2, .slice (some ⟨w.heap.size + 1, 0, none⟩) 4 4, .slice (some ⟨w.heap.size + 1 + 1, 0, none⟩) 2 2] 25)).alloc (.cells #[.int .i64 1, .int .i64 0, .int .i64 1, .int .i64 1] 3)).alloc (.cells #[.bool true, .bool false] 4)).heap[w.heap.size + 1]? = some (.cells #[.int .i64 1, .int .i64 0, .int .i64 1, .int .i64 1] 3 (0, 0)) := by
    rw [(below_new _ _).block _ (by simp)]
    have := heap_alloc_last (w.alloc (.cells #[.int .i64 2, .slice (some ⟨w.heap.size + 1, 0, none⟩) 4 4, .slice (some ⟨w.heap.size + 1 + 1, 0, none⟩) 2 2] 25)) (.cells #[.int .i64 1, .int .i64 0, .int .i64 1, .int .i64 1] 3)
    simpa using this
  have e2 : (((w.alloc (.cells #[.int .i64 2, .slice (some ⟨w.heap.size + 1, 0, none⟩) 4 4, .slice (some ⟨w.heap.size + 1 + 1, 0, none⟩) 2 2] 25)).alloc (.cells #[.int .i64 1, .int .i64 0, .int .i64 1, .int .i64 1] 3)).alloc (.cells #[.bool true, .bool false] 4)).heap[w.heap.size + 1 + 1]? = some (.cells #[.bool true, .bool false] 4 (0, 0)) := by
    have := heap_alloc_last ((w.alloc (.cells #[.int .i64 2, .slice (some ⟨w.heap.size + 1, 0, none⟩) 4 4, .slice (some ⟨w.heap.size + 1 + 1, 0, none⟩) 2 2] 25)).alloc (.cells #[.int .i64 1, .int .i64 0, .int .i64 1, .int .i64 1] 3)) (.cells #[.bool true, .bool false] 4)
    simpa using this
  refine bodyPost_ret (results_auto1 rfl rfl e0 rfl) rfl ⟨_, rfl, ⟨_, _, _, _, rfl, ⟨rfl, .inr ⟨w.heap.size + 1, 4, _, rfl, by omega, e1, Nat.le_refl _, by unfold maxLen; omega, rfl, rfl⟩⟩, ⟨rfl, .inr ⟨w.heap.size + 1 + 1, 2, _, rfl, by omega, e2, Nat.le_refl _, by unfold maxLen; omega, rfl, rfl⟩⟩⟩, ?_⟩
  exact ((below_new _ _).alloc (by simp) _).alloc (by simp; omega) _

theorem pl_run : runV plA 0 ⟨#[98, 98, 97]⟩ = 1 ∧ runE plA 0 ⟨#[98, 98, 97]⟩ = 0 := by
  have hc : chk 2 ⟨#[98, 98, 97]⟩ = 0 := by decide +kernel
  have e : runE plA 0 ⟨#[98, 98, 97]⟩ = 0 := by
    rw [runE_in (chkA_ok plA_good) (by decide)]
    exact hc
  refine ⟨?_, e⟩
  unfold runV
  rw [if_pos e]
  decide +kernel
theorem pl_bfs : bfs (dN plA) 2 0 = some ([0, 1], [1, 0, 1, 1]) := by decide +kernel
theorem pl_not : notA plA = ⟨2, [1, 0, 1, 1], [false, true]⟩ := by
  unfold notA
  rw [if_pos (chkA_ok plA_good)]
  unfold rch
  have : bfs (dN plA) plA.k.toNat 0 = some ([0, 1], [1, 0, 1, 1]) := pl_bfs
  rw [this]
  rfl
def nlA : Aut := ⟨2, [1, 0, 1, 1], [false, true]⟩
theorem nlA_good : Good nlA := ⟨by decide, by decide, by decide, by decide, by decide, by decide, by decide⟩
theorem nl_re : reA nlA = ⟨2, [1, 0, 1, 1], [false, true]⟩ := by
  unfold reA
  rw [if_pos (chkA_ok nlA_good)]
  unfold rch
  have : bfs (dN nlA) nlA.k.toNat 0 = some ([0, 1], [1, 0, 1, 1]) := by decide +kernel
  rw [this]
  rfl
theorem nl_ls : lsW nlA = ⟨#[97]⟩ ∧ lsF nlA = true := by
  unfold lsW lsF lsN
  rw [nl_re]
  refine ⟨?_, rfl⟩
  rw [if_pos (by decide)]
  decide +kernel

end Go.Proofs.Ytggheiblgghpkaa
