/- The law's num, Plain and live: it answers true. -/
import Derived.Test.YtabkhoiccjkghaaJp
namespace Go.Proofs.Ytabkhoiccjkghaa
open Go Go.RowKit Go.Lib
set_option linter.unusedVariables false

theorem results_auto1 {fn : Func} {p : Tmp} (h : fn.results = #[.cell p 25]) {tmps : Array Value} {b : Nat} {arr : Array Value} {w : World} (hp : tmps.getD p undef = .pointer (some ⟨b, 0, none⟩)) (hc : w.heap[b]? = some (.cells arr 25 (0, 0))) (hs : arr.size = 3) :
    (results fn tmps).run Try.prog w = .ok (.agg arr) w :=
  results_cell_row h tmps w b 25 arr (0, 0) _ hp hc Try.underlying25 rfl (by rw [Try.info_auto, hs])
/-- The examples' automaton. -/
def plA : Aut := ⟨2, [1, 0, 1, 1], [true, false]⟩
theorem plA_good : Good plA := ⟨by decide, by decide, by decide, by decide, by decide, by decide, by decide⟩

theorem pl_run : runV plA 0 ⟨#[98, 98, 97]⟩ = 1 ∧ runE plA 0 ⟨#[98, 98, 97]⟩ = 0 := by
  have hc : chk 2 ⟨#[98, 98, 97]⟩ = 0 := by decide +kernel
  have e : runE plA 0 ⟨#[98, 98, 97]⟩ = 0 := by
    rw [runE_in (chkA_ok plA_good) (by decide)]
    exact hc
  refine ⟨?_, e⟩
  unfold runV
  rw [if_pos e]
  decide +kernel
theorem pl_bfs : bfs (dN plA) 2 0 = some ([0, 1], [1, 0, 1, 1]) := by decide +kernel
theorem pl_not : notA plA = ⟨2, [1, 0, 1, 1], [false, true]⟩ := by
  unfold notA
  rw [if_pos (chkA_ok plA_good)]
  unfold rch
  have : bfs (dN plA) plA.k.toNat 0 = some ([0, 1], [1, 0, 1, 1]) := pl_bfs
  rw [this]
  rfl
def nlA : Aut := ⟨2, [1, 0, 1, 1], [false, true]⟩
theorem nlA_good : Good nlA := ⟨by decide, by decide, by decide, by decide, by decide, by decide, by decide⟩
theorem nl_re : reA nlA = ⟨2, [1, 0, 1, 1], [false, true]⟩ := by
  unfold reA
  rw [if_pos (chkA_ok nlA_good)]
  unfold rch
  have : bfs (dN nlA) nlA.k.toNat 0 = some ([0, 1], [1, 0, 1, 1]) := by decide +kernel
  rw [this]
  rfl
theorem nl_ls : lsW nlA = ⟨#[97]⟩ ∧ lsF nlA = true := by
  unfold lsW lsF lsN
  rw [nl_re]
  refine ⟨?_, rfl⟩
  rw [if_pos (by decide)]
  decide +kernel

end Go.Proofs.Ytabkhoiccjkghaa
