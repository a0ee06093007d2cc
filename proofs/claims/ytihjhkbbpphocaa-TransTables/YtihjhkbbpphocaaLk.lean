/- A list of numbers among a law's arguments: opened. -/
import Derived.Test.YtihjhkbbpphocaaBo
import Derived.OpenShut
import Derived.ProofKit
import Derived.ShutString
import Derived.ChangeOld
import Derived.JoinedCond
import Derived.SizedLaws
import Derived.Carry
namespace Go.Proofs.Ytihjhkbbpphocaa
open Go.ChangeShapes Go.WideShapes Go.ChangeAt Go.RowKit

theorem Try.cells_int1B : Try.prog.cellsOf 3 = 1 := by kernel_rfl
theorem Try.bytes_int1B : Try.prog.bytesOf 3 = 8 := by kernel_rfl
theorem Try.laidOutQ : laidOutB Try.prog = true := by kernel_rfl
set_option maxRecDepth 100000 in
theorem open_list {H : Type} {enc : TypeId × Value → H} {w : World} {base : Nat} {spare : Nat → Bool} {held : Bool} {r : Reach} {b0 : Nat} {v : Value} {d : DataW H} {ps : List MemPlace} (hval : Value.okWide Try.prog w r b0 22 v) (hd : DataW.Trod enc Try.prog w base spare held 22 v d ps) :
    ∃ xs : List Int, Reads w v xs ∧ (∀ c, v = .slice none 0 c → c = 0) ∧ ((d = .nil ∧ xs = []) ∨ ∃ e s, d = .slice e s ∧ xs.length ≤ e.length + s.length) := by
  obtain ⟨a, len, cap, rfl⟩ := okWide_slice Try.underlying22 hval
  obtain ⟨fuel, hf⟩ := hd
  rcases open_ints Try.underlying22 Try.underlying3 Try.cells_int1B hf with ⟨hcs, hx⟩ | ⟨a', len', cap', zs, hcs, _, hl, _, hzl, hx, hcells, _⟩
  · simp [Value.cells] at hcs
    obtain ⟨rfl, rfl, rfl⟩ := hcs
    simp only [Prod.mk.injEq] at hx
    exact ⟨[], ⟨none, 0, rfl, fun i hi => by simp at hi⟩, fun c h => by simpa using h.symm, .inl ⟨hx.1, rfl⟩⟩
  · simp [Value.cells] at hcs
    obtain ⟨rfl, rfl, rfl⟩ := hcs
    simp only [Prod.mk.injEq] at hx
    have hle : len ≤ zs.length := by
      rw [hzl]
      split <;> omega
    refine ⟨zs.take len, ⟨some a', cap, by rw [List.length_take, Nat.min_eq_left hle], fun i hi => ?_⟩, fun c h => by simp at h, .inr ⟨_, _, hx.1, ?_⟩⟩
    · have hi' : i < len := by rw [List.length_take, Nat.min_eq_left hle] at hi; exact hi
      obtain ⟨b, off, rfl, hc⟩ := ints_at hcells (by omega)
      have h1 := hc i (by omega)
      refine ⟨b, off, rfl, World.block_lt_of_cell? w _ h1, ?_⟩
      rw [h1]
      simp [List.getD_eq_getElem?_getD, hi']
    · simp [lits]

end Go.Proofs.Ytihjhkbbpphocaa
