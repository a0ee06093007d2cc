/- An automaton among a law's arguments: opened; the bounds that the form's own reach gives. -/
import Derived.Test.YtneiegbodnalbaaJd
import Derived.OpenShut
import Derived.ProofKit
import Derived.ShutString
import Derived.ChangeOld
import Derived.JoinedCond
import Derived.SizedLaws
import Derived.Carry
import Derived.Deep.Strs
import Derived.Deep.Grids
namespace Go.Proofs.Ytneiegbodnalbaa
open Go Go.ChangeShapes Go.WideShapes Go.ChangeAt Go.RowKit Go.Deep
set_option linter.unusedVariables false

def NilOk (v : Value) : Prop := ∀ k an n cn aa m ca, v = .agg #[k, .slice an n cn, .slice aa m ca] → (an = none → cn = 0) ∧ (aa = none → ca = 0)

theorem Try.cells_int1 : Try.prog.cellsOf 3 = 1 := by kernel_rfl
theorem Try.cells_bool1 : Try.prog.cellsOf 4 = 1 := by kernel_rfl
theorem Try.cells_ints1 : Try.prog.cellsOf 23 = 1 := by kernel_rfl
theorem Try.cells_bools1 : Try.prog.cellsOf 24 = 1 := by kernel_rfl
theorem Try.cells_auto : Try.prog.cellsOf 26 = 3 := by kernel_rfl
theorem Try.bytes_int1 : Try.prog.bytesOf 3 = 8 := by kernel_rfl
theorem Try.bytes_bool1 : Try.prog.bytesOf 4 = 1 := by kernel_rfl
theorem Try.laidOut : laidOutB Try.prog = true := by kernel_rfl
theorem vals_at {w : World} {a : Addr} {n : Nat} {f : Nat → Value} (h : ∀ i, i < n → w.cell? (a.add i) = some (f i)) (hp : 0 < n) : ∃ b off, a = ⟨b, off, none⟩ ∧ ∀ j, j < n → w.cell? ⟨b, off + j, none⟩ = some (f j) := by
  obtain ⟨b, off, spot⟩ := a
  have hspot : spot = none := by simpa [Addr.add] using World.cell?_spot (h 0 hp)
  subst hspot
  exact ⟨b, off, rfl, fun j hj => by rw [← Go.WideShapes.add_plain]; exact h j hj⟩

set_option maxRecDepth 100000 in
theorem open_auto {H : Type} {enc : TypeId × Value → H} {w : World} {held : Bool} {r : Reach} {b0 : Nat} {v : Value} {d : DataW H} {ps : List MemPlace} (hval : Value.okWide Try.prog w r b0 26 v) (hd : DataW.Trod enc Try.prog w 0 (fun _ => true) held 26 v d ps) :
    ∃ A : Aut, AR w v A ∧ NilOk v ∧ (Lit.int .i64 A.k).wf = true ∧ ∃ dk dn da, d = .agg [dk, dn, da] ∧ ((dn = .nil ∧ A.nx = []) ∨ ∃ e s, dn = .slice e s ∧ A.nx.length ≤ e.length + s.length) ∧ ((da = .nil ∧ A.ac = []) ∨ ∃ e s, da = .slice e s ∧ A.ac.length ≤ e.length + s.length) := by
  simp only [Value.okWide, Try.underlying26] at hval
  obtain ⟨cs, rfl, hsz, _⟩ := hval
  rw [Try.cells_auto] at hsz
  obtain ⟨fuel, hf⟩ := hd
  obtain ⟨y0, y1, y2, m, hx, _, h0, h1, h2⟩ := trod_struct3 Try.underlying26 hf
  obtain ⟨c0, c1, c2, hcs⟩ : ∃ c0 c1 c2, cs = #[c0, c1, c2] := ⟨cs[0], cs[1], cs[2], by
    apply Array.ext_getElem?
    intro i
    have : i = 0 ∨ i = 1 ∨ i = 2 ∨ 3 ≤ i := by omega
    rcases this with rfl | rfl | rfl | hi
    · simp [hsz]
    · simp [hsz]
    · simp [hsz]
    · rw [Array.getElem?_eq_none (by omega), Array.getElem?_eq_none (by simp; omega)]⟩
  subst hcs
  simp only [Try.cells_int1, Try.cells_ints1, Try.cells_bools1, Value.cells] at h0 h1 h2
  obtain ⟨k, ek, xk, wk⟩ := DataW.trod_int Try.underlying3 h0
  simp at ek
  subst ek
  simp only [Prod.mk.injEq] at hx
  obtain ⟨nx, an, cn, e1, s1, n1, d1⟩ : ∃ (nx : List Int) (an : Option Addr) (cn : Nat), c1 = .slice an nx.length cn ∧ SR w an (zC nx) ∧ (an = none → cn = 0) ∧ ((y1.1 = .nil ∧ nx = []) ∨ ∃ e s, y1.1 = .slice e s ∧ nx.length ≤ e.length + s.length) := by
    rcases open_ints Try.underlying23 Try.underlying3 Try.cells_int1 h1 with ⟨hc, hx1⟩ | ⟨a', len', cap', zs, hc, _, hl, _, hzl, hx1, hcells, _⟩
    · simp at hc
      subst hc
      exact ⟨[], none, 0, rfl, SR.nil _ _, fun _ => rfl, .inl ⟨by rw [hx1], rfl⟩⟩
    · simp at hc
      subst hc
      have hle : len' ≤ zs.length := by
        rw [hzl]
        split <;> omega
      refine ⟨zs.take len', some a', cap', by rw [List.length_take, Nat.min_eq_left hle], ?_, (fun h => by cases h), .inr ⟨_, _, by rw [hx1], ?_⟩⟩
      · intro i u hi
        have hi' : i < len' := by
          have := (List.getElem?_eq_some_iff.1 hi).1
          simp [zC] at this
          omega
        obtain ⟨b, off, rfl, hc⟩ := ints_at hcells (by omega)
        have hh := hc i (by omega)
        refine ⟨b, off, rfl, World.block_lt_of_cell? w _ hh, ?_⟩
        rw [hh, ← hi]
        simp [zC, List.getD_eq_getElem?_getD, hi', List.getElem?_eq_getElem (show i < zs.length by omega)]
      · simp [lits]
  obtain ⟨ac, aa, ca, e2, s2, n2, d2⟩ : ∃ (ac : List Bool) (aa : Option Addr) (ca : Nat), c2 = .slice aa ac.length ca ∧ SR w aa (bC ac) ∧ (aa = none → ca = 0) ∧ ((y2.1 = .nil ∧ ac = []) ∨ ∃ e s, y2.1 = .slice e s ∧ ac.length ≤ e.length + s.length) := by
    rcases open_bools Try.underlying24 Try.underlying4 Try.cells_bool1 h2 with ⟨hc, hx1⟩ | ⟨a', len', cap', B, hc, _, hl, _, hx1, hcells⟩
    · simp at hc
      subst hc
      exact ⟨[], none, 0, rfl, SR.nil _ _, fun _ => rfl, .inl ⟨by rw [hx1], rfl⟩⟩
    · simp at hc
      subst hc
      refine ⟨(List.range len').map B, some a', cap', by simp, ?_, (fun h => by cases h), .inr ⟨_, _, by rw [hx1]; rfl, by simp⟩⟩
      intro i u hi
      have hi' : i < len' := by
        have := (List.getElem?_eq_some_iff.1 hi).1
        simp [bC] at this
        omega
      obtain ⟨b, off, rfl, hc⟩ := vals_at (n := cap') (f := fun i => .bool (B i)) hcells (by omega)
      have hh := hc i (by omega)
      refine ⟨b, off, rfl, World.block_lt_of_cell? w _ hh, ?_⟩
      rw [hh, ← hi]
      simp [bC, hi']
  subst e1 e2
  exact ⟨⟨k, nx, ac⟩, ⟨an, cn, aa, ca, rfl, s1, s2⟩, fun k' an' n' cn' aa' m' ca' e => by simp at e; obtain ⟨_, ⟨rfl, _, rfl⟩, rfl, _, rfl⟩ := e; exact ⟨n1, n2⟩, wk, _, _, _, hx.1, d1, d2⟩
theorem sized_auto {H : Type} {ts : List TypeId} {ds : List (DataW H)} (h : (DataW.weightsEach Try.prog ts ds).all (· ≤ reachBytes) = true) {j : Nat} {dk dn da : DataW H} (ht : ts[j]? = some 26) (hd : ds[j]? = some (.agg [dk, dn, da])) :
    (∀ e s, dn = .slice e s → (e.length + s.length) * 8 ≤ reachBytes) ∧ (∀ e s, da = .slice e s → e.length + s.length ≤ reachBytes) := by
  constructor
  · intro e s he
    subst he
    have := List.all_eq_true.1 h _ (DataW.weights_mem_each ht hd ((e.length + s.length) * 8) (by simp [DataW.weights, DataW.weightsEach, Try.underlying26, Try.underlying23, Try.bytes_int1]))
    simpa using this
  · intro e s he
    subst he
    have := List.all_eq_true.1 h _ (DataW.weights_mem_each ht hd ((e.length + s.length) * 1) (by simp [DataW.weights, DataW.weightsEach, Try.underlying26, Try.underlying24, Try.bytes_bool1]))
    simpa using this
/-- The lists' lengths, by the form's own reach. -/
theorem auto_bounds {H : Type} {ts : List TypeId} {ds : List (DataW H)} (h : (DataW.weightsEach Try.prog ts ds).all (· ≤ reachBytes) = true) {j : Nat} {dk dn da : DataW H} (ht : ts[j]? = some 26) (hd : ds[j]? = some (.agg [dk, dn, da])) {A : Aut}
    (h1 : (dn = .nil ∧ A.nx = []) ∨ ∃ e s, dn = .slice e s ∧ A.nx.length ≤ e.length + s.length) (h2 : (da = .nil ∧ A.ac = []) ∨ ∃ e s, da = .slice e s ∧ A.ac.length ≤ e.length + s.length) :
    (A.nx.length + 2) * 8 ≤ 140737488355328 ∧ A.ac.length ≤ 140737488355328 := by
  obtain ⟨b1, b2⟩ := sized_auto h ht hd
  constructor
  · rcases h1 with ⟨_, e⟩ | ⟨e, s, he, hl⟩
    · rw [e]; decide
    · have := b1 e s he
      simp only [reachBytes] at this
      omega
  · rcases h2 with ⟨_, e⟩ | ⟨e, s, he, hl⟩
    · rw [e]; decide
    · have := b2 e s he
      simp only [reachBytes] at this
      omega
end Go.Proofs.Ytneiegbodnalbaa
