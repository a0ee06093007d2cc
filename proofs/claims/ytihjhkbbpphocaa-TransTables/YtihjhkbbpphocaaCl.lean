/- A list of calls' data among a law's arguments: opened. -/
import Derived.Test.YtihjhkbbpphocaaCk
import Derived.Deep.Slices
namespace Go.Proofs.Ytihjhkbbpphocaa
open Go Go.ChangeShapes Go.WideShapes Go.ChangeAt Go.RowKit Go.Lib
set_option linter.unusedVariables false

/-- n calls' data, ten cells each, as they lie in memory. -/
def OReads (w : World) (v : Value) (n : Nat) : Prop :=
  ∃ a cap, v = .slice a n cap ∧ ∀ i, i < n → ∃ g o k, ∃ c : Nat → Value, a = some ⟨g, o, none⟩ ∧ g < w.heap.size ∧ w.cell? ⟨g, o + i * 10, none⟩ = some (.int .i64 k) ∧ ∀ j, 1 ≤ j → j < 10 → w.cell? ⟨g, o + i * 10 + j, none⟩ = some (c j)
theorem OReads.below {W w : World} {v : Value} {n : Nat} (h : OReads W v n) (hb : Below W.heap.size W w) : OReads w v n := by
  obtain ⟨a, cap, rfl, hr⟩ := h
  refine ⟨a, cap, rfl, fun i hi => ?_⟩
  obtain ⟨g, o, k, c, e, hg, h0, hc⟩ := hr i hi
  exact ⟨g, o, k, c, e, Nat.lt_of_lt_of_le hg hb.size, by rw [below_cell hb hg]; exact h0, fun j h1 h2 => by rw [below_cell hb hg]; exact hc j h1 h2⟩
theorem Try.cells_op : Try.prog.cellsOf 73 = 10 := by kernel_rfl
theorem Try.op_first : ∃ fs : Array Field, ∃ f : Field, Try.prog.underlying 73 = some (.struct fs) ∧ fs[0]? = some f ∧ f.type = 3 ∧ f.offset = 0 := ⟨_, _, Try.underlying73, rfl, rfl, rfl⟩
set_option maxRecDepth 100000 in
theorem open_ops {H : Type} {enc : TypeId × Value → H} {w : World} {base : Nat} {spare : Nat → Bool} {held : Bool} {r : Reach} {b0 : Nat} {v : Value} {d : DataW H} {ps : List MemPlace} (hval : Value.okWide Try.prog w r b0 64 v) (hd : DataW.Trod enc Try.prog w base spare held 64 v d ps) :
    ∃ n, OReads w v n ∧ n ≤ maxLen := by
  obtain ⟨a, len, cap, rfl⟩ := okWide_slice Try.underlying64 hval
  obtain ⟨fuel, hf⟩ := hd
  rcases Go.Deep.open_slice Try.underlying64 hf with ⟨hcs, hx⟩ | ⟨a', len', cap', m, n, D, Pl, hcs, hb, hl, hm, hmm, hx, hel⟩
  · simp [Value.cells] at hcs
    obtain ⟨rfl, rfl, rfl⟩ := hcs
    exact ⟨0, ⟨none, 0, rfl, fun i hi => by omega⟩, Nat.zero_le _⟩
  · simp [Value.cells] at hcs
    obtain ⟨rfl, rfl, rfl⟩ := hcs
    have hle : len ≤ m := by
      rw [hmm]
      split <;> omega
    refine ⟨len, ⟨some a', cap, rfl, fun i hi => ?_⟩, by omega⟩
    obtain ⟨cs', hc, ht⟩ := hel i (by omega)
    rw [Try.cells_op] at hc
    obtain ⟨hbb, hlen, hcell⟩ := World.cells?_some hc
    obtain ⟨fs, f, hu, hf0, hft, hfo⟩ := Try.op_first
    obtain ⟨xs, q, _, _, _, hxl, hfs⟩ := DataW.trod_struct hu ht
    have h0 := hfs 0 f hf0
    rw [hft, hfo, Try.cells_int1B] at h0
    have hx0 : xs[0]? = some (xs[0]'(by rw [hxl]; exact (Array.getElem?_eq_some_iff.1 hf0).1)) := List.getElem?_eq_getElem _
    rw [hx0] at h0
    obtain ⟨k, e0, _, _⟩ := DataW.trod_int Try.underlying3 h0
    have e0' : (cs'.drop 0).take 1 = [.int .i64 k] := e0
    have g0 : cs'[0]? = some (.int .i64 k) := by
      rw [List.drop_eq_getElem_cons (by omega)] at e0'
      simp at e0'
      rw [List.getElem?_eq_getElem (by omega), e0']
    obtain ⟨b, off, spot⟩ := a'
    have hc0 := hcell 0 (by decide)
    rw [g0] at hc0
    have hspot : spot = none := by
      obtain ⟨cs0, hc1, _⟩ := hel 0 (by omega)
      rw [Try.cells_op] at hc1
      obtain ⟨_, hl0, hcell0⟩ := World.cells?_some hc1
      have h00 := hcell0 0 (by decide)
      rw [List.getElem?_eq_getElem (by omega)] at h00
      have := World.cell?_spot h00
      simpa [Addr.add] using this
    subst hspot
    simp only [Addr.add_lit] at hc0 hcell
    refine ⟨b, off, k, fun j => cs'.getD j (.int .i64 0), rfl, World.block_lt_of_cell? w _ hc0, by simpa using hc0, fun j h1 h2 => ?_⟩
    have := hcell j h2
    rw [this, List.getElem?_eq_getElem (by omega)]
    simp [List.getD_eq_getElem?_getD, show j < cs'.length by omega]
end Go.Proofs.Ytihjhkbbpphocaa
