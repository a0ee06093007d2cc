/- Contract of auto.search[int], whatever the two functions are that tell where letters lead and what is accepted. -/
import Derived.Test.YtabkhoiccjkghaaJi
import Derived.Deep.DeepCutAuto
import Derived.Deep.RegionLaw
namespace Go.Proofs.Ytabkhoiccjkghaa
open Go Go.RowKit Go.Lib Go.Maps
set_option linter.unusedVariables false

theorem Try.info_auto : (Try.prog.info? 25).map (·.size) = some 3 := by kernel_rfl
theorem results_auto {fn : Func} {p u : Tmp} (h : fn.results = #[.cell p 25, .tmp u]) {tmps : Array Value} {b : Nat} {arr : Array Value} {w : World} (hp : tmps.getD p undef = .pointer (some ⟨b, 0, none⟩)) (hc : w.heap[b]? = some (.cells arr 25 (0, 0))) (hs : arr.size = 3) :
    (results fn tmps).run Try.prog w = .ok (.tuple #[.agg arr, tmps.getD u undef]) w := by
  rw [results_cell_tmp h]
  have := run_loadVar_row w b 25 25 arr (0, 0) _ hc Try.underlying25 rfl (by rw [Try.info_auto, hs])
  simp [hp, asAddr, this, Result.andThen]
abbrev ceI (s : Nat) : List Value := [.int .i64 (s : Int)]
abbrev klI (s : Nat) : Lit := .int .i64 (s : Int)
abbrev OI (w : World) (ok : Nat → Prop) (d : Nat → Nat → Nat) (K x : Nat) (acc : Nat → Bool) (i c : Nat) (m n : List Nat) (vm vn va : Value) (D : DataW Unit) (f : Nat) (wr : World) : Prop := OS w 3 1 ceI klI ok d K x acc i c m n vm vn va D f wr
theorem wfN {s : Nat} (h : s ≤ 9223372036854775807) : (Lit.int .i64 (s : Int)).wf = true := WalkArith.wf_i64 (by omega)

theorem flat_ceI (m : List Nat) : m.flatMap ceI = nC m := by
  induction m with
  | nil => rfl
  | cons a m ih => rw [List.flatMap_cons, ih]; rfl
theorem met_cell {w : World} {base : Nat} {a : Option Addr} {c : Nat} {m : List Nat} {i s : Nat} (h : w.ownsRow base 3 1 (.slice a m.length c) m.length (m.flatMap ceI)) (hi : m[i]? = some s) : ∃ g, a = some ⟨g, 0, none⟩ ∧ w.cell? ⟨g, i, none⟩ = some (.int .i64 (s : Int)) := by
  rw [flat_ceI] at h
  have hil := (List.getElem?_eq_some_iff.1 hi).1
  have h2 := h
  rcases h.2 with ⟨h1, h0⟩ | ⟨g, cap, cur, h1, _⟩
  · omega
  · simp only [Value.slice.injEq] at h1
    obtain ⟨rfl, _, rfl⟩ := h1
    refine ⟨g, rfl, ?_⟩
    rw [h2.cellAt i (by omega)]
    simp [nC, hi]
/-- The block out, behind an append to a row. -/
theorem SH.outN {S : Type} {w : World} {tS z : Nat} {ce : S → List Value} {K : Nat} {acc : S → Bool} {m : List S} {n : List Nat} {i : Nat} {vm vn va : Value} {wr w2 : World} {o : Obj} (h : SH w tS z ce K acc m n i vm vn va wr) {v : Value} {e : TypeId} {size k : Nat} {xs : List Value} (hv : wr.ownsRow w.heap.size e size v k xs) (he : e ≠ 25) (hg : (wr.alloc o).grownBy w2 v.ownBlock) :
    w2.heap[w.heap.size + 1]? = some (.cells #[.int .i64 K, vn, va] 25 (0, 0)) := by
  have hbig := h.big
  rw [hg.block _ (by simp; omega) (fun e1 => by
    obtain ⟨_, cur, hc⟩ := own_blk hv e1.symm
    have := h.out
    rw [hc] at this
    injection this with this
    injection this with _ this _
    exact he this), (below_new wr o).block _ (by omega)]
  exact h.out
theorem cell_of {w : World} {b j : Nat} {arr : Array Value} {t : TypeId} (h : w.heap[b]? = some (.cells arr t (0, 0))) : w.cell? ⟨b, j, none⟩ = arr[j]? := by simp [World.cell?, h]
theorem froz_of {w : World} {b j : Nat} {arr : Array Value} {t : TypeId} (h : w.heap[b]? = some (.cells arr t (0, 0))) : w.frozen? ⟨b, j, none⟩ = false := by simp [World.frozen?, h]
theorem oi_start {w w1 : World} {ok : Nat → Prop} {d : Nat → Nat → Nat} {K x : Nat} {acc : Nat → Bool} (hok : ok x)
    (hmo : w1.ownsMap Try.prog 3 (plainElem Try.prog 3) (w.heap.size + 3) 1 ((DataW.map [] : DataW Unit).put (klI x) (.lit (.int .i64 0))))
    (hmg : ((((w.alloc (.cells #[.int .i64 0, .slice none 0 0, .slice none 0 0] 25)).alloc (.cells #[.int .i64 K, .slice none 0 0, .slice none 0 0] 25)).alloc (.cells #[.int .i64 x] 3)).alloc (.map #[] 0)).grownBy w1 (some (w.heap.size + 3)))
    (hinj : ∀ a b, ok a → ok b → klI a = klI b → a = b) :
    OI w ok d K x acc 0 0 [x] [] (.slice (some ⟨w.heap.size + 2, 0, none⟩) 1 1) (.slice none 0 0) (.slice none 0 0) ((DataW.map [] : DataW Unit).put (klI x) (.lit (.int .i64 0))) 32768 w1 := by
  have k : ∀ b, b < w.heap.size + 3 → w1.heap[b]? = ((((w.alloc (.cells #[.int .i64 0, .slice none 0 0, .slice none 0 0] 25)).alloc (.cells #[.int .i64 K, .slice none 0 0, .slice none 0 0] 25)).alloc (.cells #[.int .i64 x] 3)).alloc (.map #[] 0)).heap[b]? := fun b hb => hmg.block b (by simp; omega) (by simp; omega)
  have kb : Below w.heap.size w ((((w.alloc (.cells #[.int .i64 0, .slice none 0 0, .slice none 0 0] 25)).alloc (.cells #[.int .i64 K, .slice none 0 0, .slice none 0 0] 25)).alloc (.cells #[.int .i64 x] 3)).alloc (.map #[] 0)) := ((((Below.refl _ w).alloc (Nat.le_refl _) _).alloc (by simp) _).alloc (by simp; omega) _).alloc (by simp; omega) _
  have e0 : w1.heap[w.heap.size]? = some (.cells #[.int .i64 0, .slice none 0 0, .slice none 0 0] 25 (0, 0)) := by
    rw [k _ (by omega), (below_new _ _).block _ (by simp; omega), (below_new _ _).block _ (by simp; omega), (below_new _ _).block _ (by simp)]
    exact heap_alloc_last _ _
  have e1 : w1.heap[w.heap.size + 1]? = some (.cells #[.int .i64 K, .slice none 0 0, .slice none 0 0] 25 (0, 0)) := by
    rw [k _ (by omega), (below_new _ _).block _ (by simp), (below_new _ _).block _ (by simp)]
    have := heap_alloc_last (w.alloc (.cells #[.int .i64 0, .slice none 0 0, .slice none 0 0] 25)) (.cells #[.int .i64 K, .slice none 0 0, .slice none 0 0] 25)
    simpa using this
  have e2 : w1.heap[w.heap.size + 2]? = some (.cells #[.int .i64 x] 3 (0, 0)) := by
    rw [k _ (by omega), (below_new _ _).block _ (by simp)]
    have := heap_alloc_last ((w.alloc (.cells #[.int .i64 0, .slice none 0 0, .slice none 0 0] 25)).alloc (.cells #[.int .i64 K, .slice none 0 0, .slice none 0 0] 25)) (.cells #[.int .i64 x] 3)
    simpa using this
  refine ⟨⟨e0, e1, map_blk hmo, ?_, World.ownsRow_nil _ _ _ _, World.ownsRow_nil _ _ _ _, ?_, by simp, kb.grown hmg (by simp; omega) (fun b hb => by simp at hb; omega)⟩, hmo, ?_, BI.start d K x, rfl, rfl, by simp, by simpa using hok⟩
  · exact ⟨rfl, .inr ⟨w.heap.size + 2, 1, #[.int .i64 x], rfl, by omega, e2, Nat.le_refl _, by unfold maxLen; omega, rfl, rfl⟩⟩
  · intro b _ h2; simp [Value.ownBlock] at h2
  · have := (MI.empty klI ok).put hinj isMap_empty (t := x) trivial hok (by simp)
    simpa using this

end Go.Proofs.Ytabkhoiccjkghaa
