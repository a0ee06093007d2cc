/- How arguments that are nodes or lists of lists of nodes are opened, and shut again. -/
import Derived.Test.YtchaggigabccaaaDoorTn
import Derived.Test.YtchaggigabccaaaDoorOe
import Derived.Lib.SmallJoins
namespace Go.Proofs.YtchaggigabccaaaDoor
open Go Go.RowKit Go.ChangeShapes Go.WideShapes Go.ChangeAt

theorem Tryd.cells_nodes : Tryd.prog.cellsOf 22 = 1 := by kernel_rfl
theorem Tryd.bytes_nodes : Tryd.prog.bytesOf 22 = 24 := by kernel_rfl
def nodeD (H : Type) (a b : Int) : DataW H := .agg [.lit (.int .i64 a), .lit (.int .u8 b)]
theorem shut_node {H : Type} {enc : TypeId × Value → H} {w : World} {base : Nat} {spare : Nat → Bool} {held : Bool} {a b : Int} (ha : (Lit.int .i64 a).wf = true) (hb : (Lit.int .u8 b).wf = true) : DataW.Trod enc Tryd.prog w base spare held 36 (ndV (a, b)) (nodeD H a b) [] := by
  refine ⟨2, ?_⟩
  unfold ndV nodeD
  simp [DataW.trod, Value.cells, Tryd.underlying36, Tryd.underlying3, Tryd.underlying5, Tryd.cells_node, Tryd.cells_int1, Tryd.cells_u81, ha, hb]
theorem open_node {H : Type} {enc : TypeId × Value → H} {w : World} {base : Nat} {spare : Nat → Bool} {held : Bool} {r : Reach} {b0 : Nat} {v : Value} {d : DataW H} {ps : List MemPlace} (hval : Value.okWide Tryd.prog w r b0 36 v) (hd : DataW.Trod enc Tryd.prog w base spare held 36 v d ps) :
    ∃ a b, v = ndV (a, b) ∧ d = nodeD H a b ∧ ps = [] ∧ (Lit.int .i64 a).wf = true ∧ (Lit.int .u8 b).wf = true := by
  simp only [Value.okWide, Tryd.underlying36] at hval
  obtain ⟨cs, rfl, hsz, _⟩ := hval
  rw [Tryd.cells_node] at hsz
  obtain ⟨fuel, hf⟩ := hd
  obtain ⟨y0, y1, m, hx, _, h0, h1⟩ := trod_struct2 Tryd.underlying36 hf
  obtain ⟨c0, c1, hcs⟩ : ∃ c0 c1, cs = #[c0, c1] := ⟨cs[0], cs[1], by
    apply Array.ext_getElem?
    intro i
    have : i = 0 ∨ i = 1 ∨ 2 ≤ i := by omega
    rcases this with rfl | rfl | hi
    · simp [hsz]
    · simp [hsz]
    · rw [Array.getElem?_eq_none (by omega), Array.getElem?_eq_none (by simp; omega)]⟩
  subst hcs
  simp only [Tryd.cells_int1, Tryd.cells_u81, Value.cells] at h0 h1
  obtain ⟨a, ea, xa, wa⟩ := DataW.trod_int Tryd.underlying3 h0
  obtain ⟨b, eb, xb, wb⟩ := DataW.trod_int Tryd.underlying5 h1
  simp at ea eb
  simp only [xa, xb, Prod.mk.injEq] at hx
  exact ⟨a, b, by rw [ea, eb]; rfl, hx.1, hx.2, wa, wb⟩
theorem open_nodes1 {H : Type} {enc : TypeId × Value → H} {w : World} {base : Nat} {spare : Nat → Bool} {held : Bool} {fuel : Nat} {v : Value} {d : DataW H} {ps : List MemPlace} (hf : DataW.trod enc Tryd.prog w base spare held fuel 22 [v] = some (d, ps)) :
    ∃ ts : List Nd, NReads w v ts ∧ ((∀ c, v = .slice none 0 c → c = 0) ∧ ∀ a n c, v = .slice a n c → n ≤ c) ∧ ((d = .nil ∧ ts = []) ∨ ∃ e s, d = .slice e s ∧ ts.length ≤ e.length + s.length) := by
  rcases Go.Deep.open_slice_pairs Tryd.underlying22 Tryd.underlying36 Tryd.cells_node rfl rfl Tryd.cells_int1 Tryd.cells_u81 hf with ⟨hcs, hx⟩ | ⟨a', len, cap, m, n, V0, V1, D0, D1, P0, P1, hcs, _, hl, _, hmm, hx, hcells⟩
  · simp at hcs
    subst hcs
    simp only [Prod.mk.injEq] at hx
    exact ⟨[], ⟨none, 0, rfl, fun i hi => by simp at hi⟩, ⟨fun c h => by simpa using h.symm, fun a n c h => by cases h; exact Nat.le_refl _⟩, .inl ⟨hx.1, rfl⟩⟩
  · simp at hcs
    subst hcs
    simp only [Prod.mk.injEq] at hx
    have hle : len ≤ m := by
      rw [hmm]
      split <;> omega
    have hll : ((List.range len).map fun i => ((intOf (V0 i), intOf (V1 i)) : Nd)).length = len := by simp
    refine ⟨(List.range len).map fun i => (intOf (V0 i), intOf (V1 i)), ⟨some a', cap, by rw [hll], fun i hi => ?_⟩, ⟨fun c h => by simp at h, fun a n c h => by cases h; exact hl⟩, .inr ⟨_, _, hx.1, by simp⟩⟩
    rw [hll] at hi
    obtain ⟨h1, h2, h3, h4⟩ := hcells i (by omega)
    obtain ⟨k, ek, _, _⟩ := DataW.trod_int Tryd.underlying3 h3
    obtain ⟨s, es, _, _⟩ := DataW.trod_int Tryd.underlying5 h4
    simp at ek es
    obtain ⟨b, off, spot⟩ := a'
    have h0 := (hcells 0 (by omega)).1
    have hspot : spot = none := by simpa [Addr.add] using World.cell?_spot h0
    subst hspot
    rw [Addr.add_lit] at h1 h2
    have eg : (((List.range len).map fun i => ((intOf (V0 i), intOf (V1 i)) : Nd)).getD i (0, 0)) = (intOf (V0 i), intOf (V1 i)) := by simp [hi]
    rw [eg]
    refine ⟨b, off, rfl, World.block_lt_of_cell? w _ h1, ?_, ?_⟩
    · rw [h1, ek]; rfl
    · rw [Nat.add_assoc, h2, es]; rfl
theorem choose_lists {p : Nat → List Nd → Prop} (n : Nat) (h : ∀ i, i < n → ∃ x, p i x) : ∃ f : Nat → List Nd, ∀ i, i < n → p i (f i) := by
  classical
  exact ⟨fun i => if hi : i < n then Classical.choose (h i hi) else [], fun i hi => by simp only [hi, dif_pos]; exact Classical.choose_spec (h i hi)⟩
theorem open_trees {H : Type} {enc : TypeId × Value → H} {w : World} {base : Nat} {spare : Nat → Bool} {held : Bool} {r : Reach} {b0 : Nat} {v : Value} {d : DataW H} {ps : List MemPlace} (hval : Value.okWide Tryd.prog w r b0 37 v) (hd : DataW.Trod enc Tryd.prog w base spare held 37 v d ps) :
    ∃ qs : List (List Nd), PIn w v qs ∧ ((d = .nil ∧ qs = []) ∨ ∃ e s, d = .slice e s ∧ qs.length ≤ e.length + s.length ∧ ∀ i, i < qs.length → qs.getD i [] = [] ∨ ∃ e' s', e[i]? = some (.slice e' s') ∧ (qs.getD i []).length ≤ e'.length + s'.length) := by
  obtain ⟨a, len, cap, rfl⟩ := okWide_slice Tryd.underlying37 hval
  obtain ⟨fuel, hf⟩ := hd
  rcases Go.Deep.open_slice1 Tryd.underlying37 Tryd.cells_nodes hf with ⟨hcs, hx⟩ | ⟨a', len', cap', m, n, V, D, Pl, hcs, _, hl, _, hmm, hx, hcells⟩
  · simp [Value.cells] at hcs
    obtain ⟨rfl, rfl, rfl⟩ := hcs
    simp only [Prod.mk.injEq] at hx
    exact ⟨[], ⟨none, 0, rfl, fun i hi => by simp at hi⟩, .inl ⟨hx.1, rfl⟩⟩
  · simp [Value.cells] at hcs
    obtain ⟨rfl, rfl, rfl⟩ := hcs
    simp only [Prod.mk.injEq] at hx
    have hle : len ≤ m := by
      rw [hmm]
      split <;> omega
    obtain ⟨f, hfz⟩ := choose_lists (p := fun i ts => NReads w (V i) ts ∧ ((∀ c, V i = .slice none 0 c → c = 0) ∧ ∀ a n c, V i = .slice a n c → n ≤ c) ∧ ((D i = .nil ∧ ts = []) ∨ ∃ e s, D i = .slice e s ∧ ts.length ≤ e.length + s.length)) len (fun i hi => open_nodes1 (hcells i (by omega)).2)
    have hll : ((List.range len).map f).length = len := by simp
    have eg : ∀ i, i < len → ((List.range len).map f).getD i [] = f i := fun i hi => by simp [hi]
    refine ⟨(List.range len).map f, ⟨some a', cap, by rw [hll], fun i hi => ?_⟩, .inr ⟨_, _, hx.1, by simp, fun i hi => ?_⟩⟩
    · rw [hll] at hi
      rw [eg i hi]
      obtain ⟨b, off, spot⟩ := a'
      have h0 := (hcells 0 (by omega)).1
      have hspot : spot = none := by simpa [Addr.add] using World.cell?_spot h0
      subst hspot
      have h1 := (hcells i (by omega)).1
      rw [Addr.add_lit] at h1
      exact ⟨b, off, V i, rfl, World.block_lt_of_cell? w _ h1, h1, (hfz i hi).1, (hfz i hi).2.1.1⟩
    · rw [hll] at hi
      rw [eg i hi]
      rcases (hfz i hi).2.2 with ⟨_, h⟩ | ⟨e, s, h, hs⟩
      · exact .inl h
      · exact .inr ⟨e, s, by simp [hi, h], hs⟩
theorem weights_all {H : Type} {P : Program} {e : TypeId} {x : Nat} : ∀ (l : List (DataW H)) (i : Nat) (d : DataW H), l[i]? = some d → x ∈ d.weights P e → x ∈ DataW.weightsAll P e l
  | [], i, d, h, _ => by simp at h
  | y :: l, 0, d, h, hx => by
    simp at h
    subst h
    simp [DataW.weightsAll, hx]
  | y :: l, i + 1, d, h, hx => by
    simp at h
    simp only [DataW.weightsAll, List.mem_append]
    exact .inr (weights_all l i d h hx)
theorem sized_inner {H : Type} {P : Program} {ts : List TypeId} {ds : List (DataW H)} (h : (DataW.weightsEach P ts ds).all (· ≤ reachBytes) = true) {j i : Nat} {t e e2 : TypeId} {elems spare e' s' : List (DataW H)} (ht : ts[j]? = some t) (hd : ds[j]? = some (.slice elems spare)) (hu : P.underlying t = some (.slice e)) (hu2 : P.underlying e = some (.slice e2)) (hi : elems[i]? = some (.slice e' s')) :
    (e'.length + s'.length) * P.bytesOf e2 ≤ reachBytes := by
  have hmem : (e'.length + s'.length) * P.bytesOf e2 ∈ (DataW.slice e' s').weights P e := by simp [DataW.weights, hu2]
  have := List.all_eq_true.1 h _ (DataW.weights_mem_each ht hd _ (by
    simp only [DataW.weights, hu]
    exact List.mem_cons_of_mem _ (List.mem_append_left _ (weights_all elems i _ hi hmem))))
  simpa using this
end Go.Proofs.YtchaggigabccaaaDoor
