/- Arguments of the laws of layer 13, opened and shut: lists of numbers with their bounds, transformations, uint64s. -/
import Derived.Test.YtihjhkbbpphocaaLk
import Derived.Test.YtihjhkbbpphocaaAh
namespace Go.Proofs.Ytihjhkbbpphocaa
open Go Go.ChangeShapes Go.WideShapes Go.ChangeAt Go.RowKit
set_option linter.unusedVariables false

def I64 (x : Int) : Prop := -9223372036854775808 ≤ x ∧ x ≤ 9223372036854775807
theorem i64_of {n : Int} (h : (Lit.int .i64 n).wf = true) : I64 n := by
  simp [Lit.wf, IntKind.min, IntKind.max, IntKind.signed, IntKind.bits] at h
  exact ⟨by omega, by omega⟩
theorem u64_of {n : Int} (h : (Lit.int .u64 n).wf = true) : ∃ m : Nat, n = m ∧ m < 18446744073709551616 := by
  simp [Lit.wf, IntKind.min, IntKind.max, IntKind.signed, IntKind.bits] at h
  exact ⟨n.toNat, by omega, by omega⟩
theorem of_u64 {m : Nat} (h : m < 18446744073709551616) : (Lit.int .u64 (m : Int)).wf = true := by
  simp [Lit.wf, IntKind.min, IntKind.max, IntKind.signed, IntKind.bits]
  omega
set_option maxRecDepth 100000 in
theorem open_listW {H : Type} {enc : TypeId × Value → H} {w : World} {base : Nat} {spare : Nat → Bool} {held : Bool} {r : Reach} {b0 : Nat} {v : Value} {d : DataW H} {ps : List MemPlace} (hval : Value.okWide Try.prog w r b0 22 v) (hd : DataW.Trod enc Try.prog w base spare held 22 v d ps) :
    ∃ xs : List Int, Reads w v xs ∧ (∀ x ∈ xs, I64 x) ∧ (∀ c, v = .slice none 0 c → c = 0) ∧ ((d = .nil ∧ xs = []) ∨ ∃ e s, d = .slice e s ∧ xs.length ≤ e.length + s.length) := by
  obtain ⟨a, len, cap, rfl⟩ := okWide_slice Try.underlying22 hval
  obtain ⟨fuel, hf⟩ := hd
  rcases open_ints Try.underlying22 Try.underlying3 Try.cells_int1B hf with ⟨hcs, hx⟩ | ⟨a', len', cap', zs, hcs, _, hl, _, hzl, hx, hcells, hwz⟩
  · simp [Value.cells] at hcs
    obtain ⟨rfl, rfl, rfl⟩ := hcs
    simp only [Prod.mk.injEq] at hx
    exact ⟨[], ⟨none, 0, rfl, fun i hi => by simp at hi⟩, fun x hx => by simp at hx, fun c h => by simpa using h.symm, .inl ⟨hx.1, rfl⟩⟩
  · simp [Value.cells] at hcs
    obtain ⟨rfl, rfl, rfl⟩ := hcs
    simp only [Prod.mk.injEq] at hx
    have hle : len ≤ zs.length := by
      rw [hzl]
      split <;> omega
    refine ⟨zs.take len, ⟨some a', cap, by rw [List.length_take, Nat.min_eq_left hle], fun i hi => ?_⟩, fun x hx => i64_of (hwz x (List.mem_of_mem_take hx)), fun c h => by simp at h, .inr ⟨_, _, hx.1, ?_⟩⟩
    · have hi' : i < len := by rw [List.length_take, Nat.min_eq_left hle] at hi; exact hi
      obtain ⟨b, off, rfl, hc⟩ := ints_at hcells (by omega)
      have h1 := hc i (by omega)
      refine ⟨b, off, rfl, World.block_lt_of_cell? w _ h1, ?_⟩
      rw [h1]
      simp [List.getD_eq_getElem?_getD, hi']
    · simp [lits]
end Go.Proofs.Ytihjhkbbpphocaa
