/- The parts of a tree; contract of tree.Parts. -/
import Derived.Test.YtfdkkiecibdblaaDoorTe
import Derived.Laws.ResultCell
namespace Go.Proofs.YtfdkkiecibdblaaDoor
open Go.RowKit

theorem results_cell_tmp_tmp {fn : Func} {p u u' : Tmp} {ty : TypeId} (h : fn.results = #[.cell p ty, .tmp u, .tmp u']) (tmps : Array Value) (P : Program) (w : World) :
    (results fn tmps).run P w =
      ((asAddr (tmps.getD p undef)).run P w).andThen fun a w₁ => ((loadVar ty a).run P w₁).andThen fun v w₂ => .ok (.tuple #[v, tmps.getD u undef, tmps.getD u' undef]) w₂ := by
  simp only [results, h]
  simp [Sem.run_bind, Result.andThen]
theorem load_node {w : World} {b : Nat} {x y : Value} (h0 : w.cell? ⟨b, 0, none⟩ = some x) (h1 : w.cell? ⟨b, 1, none⟩ = some y) : (loadVar 55 ⟨b, 0, none⟩).run Tryd.prog w = .ok (.agg #[x, y]) w := by
  have u3 := Tryd.underlying3
  have u4 := Tryd.underlying5
  have u5 := Tryd.underlying55
  go_simp
theorem results_node {fn : Func} {p u u' : Tmp} (h : fn.results = #[.cell p 55, .tmp u, .tmp u']) {tmps : Array Value} {b : Nat} {x y : Value} {w : World} (hp : tmps.getD p undef = .pointer (some ⟨b, 0, none⟩)) (h0 : w.cell? ⟨b, 0, none⟩ = some x) (h1 : w.cell? ⟨b, 1, none⟩ = some y) :
    (results fn tmps).run Tryd.prog w = .ok (.tuple #[.agg #[x, y], tmps.getD u undef, tmps.getD u' undef]) w := by
  rw [results_cell_tmp_tmp h]
  simp [hp, asAddr, load_node h0 h1, Result.andThen]

theorem push_len {n : Nd} {s : List Nat} {f : Nat} (hs : s.length = f) (hf : arity n.1 ≤ f) : (push n s).length = f - arity n.1 + 1 := by
  have hal := arity_le n.1
  have h3 : arity n.1 = 0 ∨ arity n.1 = 1 ∨ arity n.1 = 2 := by omega
  rcases h3 with h0 | h0 | h0
  · have e : push n s = 1 :: s := by unfold push; rw [h0]; rfl
    rw [e, h0]; simp [hs]
  · match s, hs with
    | a :: r, hs =>
      have e : push n (a :: r) = (1 + a) :: r := by unfold push; rw [h0]; rfl
      rw [e, h0]; simp at hs ⊢; omega
    | [], hs => simp at hs; omega
  · match s, hs with
    | a :: b :: r, hs =>
      have e : push n (a :: b :: r) = (1 + a + b) :: r := by unfold push; rw [h0]; rfl
      rw [e, h0]; simp at hs ⊢; omega
    | [a], hs => simp at hs; omega
    | [], hs => simp at hs; omega
theorem stk_len {ts : List Nd} : ∀ i, i ≤ ts.length → ∀ c, freeN (ts.take i) = some c → (stkN (ts.take i)).length = c
  | 0, _, c, h => by simp [freeN, frees] at h; simp [stkN, stk, ← h]
  | i + 1, hi, c, h => by
    rw [free_take (by omega)] at h
    cases hc : freeN (ts.take i) with
    | none => rw [hc] at h; simp at h
    | some f =>
      have ih := stk_len i (by omega) f hc
      rw [hc, Option.bind_some] at h
      by_cases hg : good (ts.getD i (0, 0)) = true ∧ arity (ts.getD i (0, 0)).1 ≤ f
      · rw [if_pos hg] at h
        rw [stk_take (by omega), push_len ih hg.2]
        simpa using h
      · rw [if_neg hg] at h; cases h
/-- The parts of a tree's root. -/
def cutL (ts : List Nd) : List (List Nd) :=
  match arity (ts.getD (ts.length - 1) (0, 0)).1, stkN (ts.take (ts.length - 1)) with
  | 1, _ => [ts.take (ts.length - 1)]
  | 2, _ :: b :: _ => [ts.take b, (ts.take (ts.length - 1)).drop b]
  | _, _ => []
/-- What is known of a tree's end. -/
theorem tree_end {ts : List Nd} (h : freeN ts = some 1) : 0 < ts.length ∧ good (ts.getD (ts.length - 1) (0, 0)) = true ∧ (stkN (ts.take (ts.length - 1))).length = arity (ts.getD (ts.length - 1) (0, 0)).1 := by
  have h0 : 0 < ts.length := by
    cases ts with
    | nil => simp [freeN, frees] at h
    | cons n t => simp
  obtain ⟨c, hc, hg, ha, hn⟩ := free_good h (i := ts.length - 1) (by omega)
  rw [show ts.length - 1 + 1 = ts.length by omega, List.take_length, h] at hn
  simp only [Option.some.injEq] at hn
  exact ⟨h0, hg, by rw [stk_len _ (by omega) c hc]; omega⟩

/-- A node in a block of its own. -/
def NB (w : World) (b : Nat) (k s : Int) : Prop := w.heap[b]? = some (.cells #[.int .i64 k, .int .u8 s] 55 (0, 0))
theorem NB.lt {w : World} {b : Nat} {k s : Int} (h : NB w b k s) : b < w.heap.size := (Array.getElem?_eq_some_iff.1 h).1
theorem NB.fst {w : World} {b : Nat} {k s : Int} (h : NB w b k s) : w.cell? ⟨b, 0, none⟩ = some (.int .i64 k) := by
  have h' : w.heap[b]? = some (.cells #[.int .i64 k, .int .u8 s] 55 (0, 0)) := h
  simp [World.cell?, h']
theorem NB.snd {w : World} {b : Nat} {k s : Int} (h : NB w b k s) : w.cell? ⟨b, 1, none⟩ = some (.int .u8 s) := by
  have h' : w.heap[b]? = some (.cells #[.int .i64 k, .int .u8 s] 55 (0, 0)) := h
  simp [World.cell?, h']
theorem NB.frozen {w : World} {b : Nat} {k s : Int} (h : NB w b k s) (i : Nat) : w.frozen? ⟨b, i, none⟩ = false := by
  have h' : w.heap[b]? = some (.cells #[.int .i64 k, .int .u8 s] 55 (0, 0)) := h
  simp [World.frozen?, h']
theorem NB.keep {w w' : World} {b : Nat} {k s : Int} (h : NB w b k s) (hb : Below w.heap.size w w') : NB w' b k s := (hb.block b h.lt).trans h
theorem NB.alloc {w : World} {b : Nat} {k s : Int} (h : NB w b k s) (o : Obj) : NB (w.alloc o) b k s := h.keep ((Below.refl _ _).alloc (Nat.le_refl _) o)
theorem NB.new (w : World) (k s : Int) : NB (w.alloc (.cells #[.int .i64 k, .int .u8 s] 55)) w.heap.size k s := heap_alloc_new w _
theorem NB.set {w : World} {b : Nat} {k s : Int} (h : NB w b k s) (k' s' : Int) : NB ((w.setCell ⟨b, 0, none⟩ (.int .i64 k')).setCell ⟨b, 1, none⟩ (.int .u8 s')) b k' s' := by
  have h' : w.heap[b]? = some (.cells #[.int .i64 k, .int .u8 s] 55 (0, 0)) := h
  unfold NB
  simp only [World.setCell]
  rw [Array.getElem?_modify, if_pos rfl, Array.getElem?_modify, if_pos rfl, h']
  rfl
theorem below_set2 {B : Nat} {w w1 : World} {b : Nat} (h : Below B w w1) (hb : B ≤ b) (x y : Value) : Below B w ((w1.setCell ⟨b, 0, none⟩ x).setCell ⟨b, 1, none⟩ y) :=
  (h.setCell (p := ⟨b, 0, none⟩) hb _).setCell (p := ⟨b, 1, none⟩) hb _
theorem nreads_part {w : World} {a : Option Addr} {cap lo hi : Nat} {ts : List Nd} (h : NReads w (.slice a ts.length cap) ts) (h0 : lo < hi) (h1 : hi ≤ ts.length) :
    ∃ g o, a = some ⟨g, o, none⟩ ∧ ∀ c, NReads w (.slice (some ⟨g, o + lo * 2, none⟩) (hi - lo) c) ((ts.take hi).drop lo) := by
  obtain ⟨a', c', e, hr⟩ := h
  simp only [Value.slice.injEq] at e
  obtain ⟨rfl, _, rfl⟩ := e
  obtain ⟨g, o, rfl, _⟩ := hr 0 (by omega)
  have hl : ((ts.take hi).drop lo).length = hi - lo := by simp; omega
  refine ⟨g, o, rfl, fun c => ⟨_, c, by rw [hl], fun i hi' => ?_⟩⟩
  rw [hl] at hi'
  obtain ⟨g', o', e, hg, c1, c2⟩ := hr (lo + i) (by omega)
  cases e
  have eg : ((ts.take hi).drop lo).getD i (0, 0) = ts.getD (lo + i) (0, 0) := by
    rw [List.getD_eq_getElem?_getD, List.getElem?_drop, List.getElem?_take, if_pos (by omega), ← List.getD_eq_getElem?_getD]
  rw [eg]
  exact ⟨g, o + lo * 2, rfl, hg, by rw [show o + lo * 2 + i * 2 = o + (lo + i) * 2 by omega]; exact c1, by rw [show o + lo * 2 + i * 2 + 1 = o + (lo + i) * 2 + 1 by omega]; exact c2⟩

/-- A list of lists in a block of its own. -/
def PB (w : World) (b : Nat) (arr : Array Value) : Prop := w.heap[b]? = some (.cells arr 22 (0, 0))
theorem PB.lt {w : World} {b : Nat} {arr : Array Value} (h : PB w b arr) : b < w.heap.size := (Array.getElem?_eq_some_iff.1 h).1
theorem PB.get {w : World} {b : Nat} {arr : Array Value} (h : PB w b arr) (i : Nat) : w.cell? ⟨b, i, none⟩ = arr[i]? := by
  have h' : w.heap[b]? = some (.cells arr 22 (0, 0)) := h
  simp [World.cell?, h']
theorem PB.frozen {w : World} {b : Nat} {arr : Array Value} (h : PB w b arr) (i : Nat) : w.frozen? ⟨b, i, none⟩ = false := by
  have h' : w.heap[b]? = some (.cells arr 22 (0, 0)) := h
  simp [World.frozen?, h']
theorem PB.keep {w w' : World} {b : Nat} {arr : Array Value} (h : PB w b arr) (hb : Below w.heap.size w w') : PB w' b arr := (hb.block b h.lt).trans h
theorem PB.set {w : World} {b : Nat} {arr : Array Value} (h : PB w b arr) (i : Nat) (v : Value) : PB (w.setCell ⟨b, i, none⟩ v) b (arr.setIfInBounds i v) := by
  have h' : w.heap[b]? = some (.cells arr 22 (0, 0)) := h
  unfold PB
  simp only [World.setCell]
  rw [Array.getElem?_modify, if_pos rfl, h']
  rfl
theorem PB.new (w : World) (arr : Array Value) : PB (w.alloc (.cells arr 22)) w.heap.size arr := heap_alloc_new w _
theorem own_other {w : World} {base : Nat} {e : TypeId} {size n : Nat} {v : Value} {xs : List Value} (h : w.ownsRow base e size v n xs) {b i : Nat} (u : Value) (hb : ∀ k, v.ownBlock = some k → k ≠ b) : (w.setCell ⟨b, i, none⟩ u).ownsRow base e size v n xs := by
  obtain ⟨a, h⟩ := h
  refine ⟨a, ?_⟩
  rcases h with h | ⟨g, cap, cur, rfl, r, r2, r3⟩
  · exact .inl h
  · refine .inr ⟨g, cap, cur, rfl, r, ?_, r3⟩
    rw [Below.heap_setCell _ _ _ _ (fun e => hb g rfl e)]
    exact r2
theorem NB.other {w : World} {b : Nat} {k s : Int} (h : NB w b k s) {b' i : Nat} (u : Value) (hb : b ≠ b') : NB (w.setCell ⟨b', i, none⟩ u) b k s := (Below.heap_setCell _ _ _ _ hb).trans h
theorem Tryd.info_nodes : (Tryd.prog.info? 22).map (fun i => (i.zero, i.size, i.bytes)) = some (some (.slice none 0 0), 1, 24) := by kernel_rfl

end Go.Proofs.YtfdkkiecibdblaaDoor
