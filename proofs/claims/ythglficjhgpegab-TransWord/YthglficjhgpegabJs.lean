/- An automaton that is lent and must stay: the laws' LentAuto and Stay. -/
import Derived.Test.YthglficjhgpegabJr
namespace Go.Proofs.Ythglficjhgpegab
open Go Go.RowKit Go.Lib
set_option linter.unusedVariables false

/-- append(v, xs...) where v is an empty row of the call's own, xs nil or not. -/
theorem wp_append_sr {P : Program} {w : World} {o : Oper} {a : Act} {K : Act → World → Prop} {Q : Exit → Act → World → Prop} (s x : Operand) (t : TypeId)
    (ho : o.op = .call { callee := .builtin .append, args := #[s, x], argTypes := #[t, t] })
    (base : Nat) (e : TypeId) (i : TypeInfo) (z : Value) (bytes : Nat) (ht : P.underlying t = some (.slice e)) (hi : P.info? e = some i) (hz : i.zero = some z)
    (hsize : i.size = 1) (hby : i.bytes = bytes) (hzs : z.cells.size = 1)
    (v : Value) (hs : a.eval s = v) (hown : w.ownsRow base e 1 v 0 []) (src : Option Addr) (c : Nat) (us : List Value) (hx : a.eval x = .slice src us.length c) (hsr : SR w src us) (hn : src = none → c = 0)
    (h1 : ∀ u ∈ us, u.oneCell' = true) (h63 : us.length ≤ maxLen) (hbytes : us.length * bytes ≤ 140737488355328) (hbase : base ≤ w.heap.size)
    (h : ∀ v' w', w'.ownsRow base e 1 v' us.length us → w.grownBy w' v.ownBlock → K (a.put o.dst v') w') : o.wp P a w K Q := by
  cases src with
  | none =>
    have hu : us = [] := by
      cases us with
      | nil => rfl
      | cons u us =>
        obtain ⟨g, o, e, _⟩ := hsr 0 u rfl
        cases e
    subst hu
    rw [hn rfl] at hx
    have hrun := run_append_owned_none (P := P) (w := w) base t o.type e i 1 ht hi v 0 [] hown
    unfold Oper.wp
    simp only [List.length_nil] at hx
    simp [execOp, ho, resolve, invoke, builtin, hs, hx, hrun, Result.andThen]
    exact h v w hown ⟨rfl, rfl, rfl, Nat.le_refl _, fun _ _ _ => rfl⟩
  | some ad =>
    refine wp_append_own w s x t ho base e i z 1 bytes ht hi hz hsize hby hzs (by decide) v 0 [] hs hown ad us.length c us hx (by simp) ?_ h1 (by simpa using h63) (by simpa using hbytes) hbase ?_
    · intro j u hj
      obtain ⟨g, o, e, hg, hc⟩ := hsr j u hj
      cases e
      rw [Addr.add_lit]
      exact hc
    · intro v' w' ho' hg' _
      exact h v' w' (by simpa using ho') hg'

/-- A block's cells stay; nothing of the caller's is written; there are no fewer blocks. -/
abbrev ST (w W : World) (arr : Array Value) (y : World) : Prop := (∀ o, y.cell? ⟨w.heap.size, o, none⟩ = arr[o]?) ∧ Below w.heap.size w y ∧ W.heap.size ≤ y.heap.size
theorem st_step {w W y1 y2 : World} {arr : Array Value} (hW : w.heap.size < W.heap.size) (hb : Below y1.heap.size y1 y2) (h : ST w W arr y1) : ST w W arr y2 :=
  ⟨fun o => by rw [below_cellJ hb (by have := h.2.2; omega)]; exact h.1 o, go_on h.2.1 hb, Nat.le_trans h.2.2 hb.size⟩
theorem st_alloc {w W y1 : World} {arr : Array Value} (hW : w.heap.size < W.heap.size) (o : Obj) (h : ST w W arr y1) : ST w W arr (y1.alloc o) := st_step hW (below_new _ _) h
theorem st_grown {w W y1 y2 : World} {arr : Array Value} {b : Nat} (hW : w.heap.size < W.heap.size) (hb : W.heap.size ≤ b) (hg : y1.grownBy y2 (some b)) (h : ST w W arr y1) : ST w W arr y2 :=
  ⟨fun o => by rw [World.cell?_of_block (hg.block _ (by show w.heap.size < _; have := h.2.2; omega) (by simp; omega))]; exact h.1 o, h.2.1.grown hg (by have := h.2.2; omega) (fun k hk => by simp at hk; omega), Nat.le_trans h.2.2 hg.size⟩
theorem st_set {w W y1 : World} {arr : Array Value} {j : Nat} {v : Value} (h : ST w W arr y1) : ST w W arr (y1.setCell ⟨w.heap.size + 1, j, none⟩ v) :=
  ⟨fun o => by rw [World.cell?_of_block (heap_set_other (by show w.heap.size ≠ _; omega))]; exact h.1 o, h.2.1.setCell (p := ⟨w.heap.size + 1, j, none⟩) (by simp) v, by have := h.2.2; simpa [World.setCell] using this⟩
theorem res_call {W y1 y2 : World} {r : Nat} {z : Option Obj} (hr : r < W.heap.size) (hb : Below y1.heap.size y1 y2) (hs : W.heap.size ≤ y1.heap.size) (h : y1.heap[r]? = z) : y2.heap[r]? = z := (hb.block r (Nat.lt_of_lt_of_le hr hs)).trans h
theorem res_grown {W y1 y2 : World} {r b : Nat} {z : Option Obj} (hr : r < W.heap.size) (hg : y1.grownBy y2 (Value.slice (some ⟨b, 0, none⟩) 0 0).ownBlock) (hb : W.heap.size ≤ b) (hs : W.heap.size ≤ y1.heap.size) (h : y1.heap[r]? = z) : y2.heap[r]? = z :=
  (hg.block r (Nat.lt_of_lt_of_le hr hs) (fun e => by simp only [Value.ownBlock, Option.some.injEq] at e; omega)).trans h
/-- What LentAuto answers: an automaton in memory of its own, marked room behind its Next. -/
def LQ (A : Aut) (w : World) (e : Ending) (w' : World) : Prop := ∃ g gc ba bc, e = .returned (.agg #[.int .i64 A.k, .slice (some ⟨g, 0, none⟩) A.nx.length gc, .slice ba A.ac.length bc]) ∧
  w'.ownsRow w.heap.size 3 1 (.slice (some ⟨g, 0, none⟩) (A.nx.length + 2) gc) (A.nx.length + 2) (zC (A.nx ++ [-77, -78])) ∧ w'.ownsRow w.heap.size 4 1 (.slice ba A.ac.length bc) A.ac.length (bC A.ac) ∧ Below w.heap.size w w'
theorem lq_done {A : Aut} {w Y : World} {g gc vc n : Nat} {va : Option Addr} (hn : A.nx.length + 2 = n)
    (h : Y.ownsRow w.heap.size 3 1 (.slice (some ⟨g, 0, none⟩) n gc) n (zC (A.nx ++ [-77, -78])) ∧ Y.ownsRow w.heap.size 4 1 (.slice va (bC A.ac).length vc) (bC A.ac).length (bC A.ac) ∧ Y.heap[w.heap.size + 1]? = some (.cells #[.int .i64 0, .slice none 0 0, .slice none 0 0] 39 (0, 0)) ∧ Below w.heap.size w Y) :
    (((Y.setCell ⟨w.heap.size + 1, 0, none⟩ (.int .i64 A.k)).setCell ⟨w.heap.size + 1, 1, none⟩ (.slice (some ⟨g, 0, none⟩) A.nx.length gc)).setCell ⟨w.heap.size + 1, 2, none⟩ (.slice va (bC A.ac).length vc)).heap[w.heap.size + 1]? = some (.cells #[.int .i64 A.k, .slice (some ⟨g, 0, none⟩) A.nx.length gc, .slice va (bC A.ac).length vc] 39 (0, 0)) ∧
    LQ A w (.returned (.agg #[.int .i64 A.k, .slice (some ⟨g, 0, none⟩) A.nx.length gc, .slice va (bC A.ac).length vc])) (((Y.setCell ⟨w.heap.size + 1, 0, none⟩ (.int .i64 A.k)).setCell ⟨w.heap.size + 1, 1, none⟩ (.slice (some ⟨g, 0, none⟩) A.nx.length gc)).setCell ⟨w.heap.size + 1, 2, none⟩ (.slice va (bC A.ac).length vc)) := by
  obtain ⟨h1, h2, h3, h4⟩ := h
  subst hn
  have k : ∀ (b : Nat) (cur : Array Value) (e : TypeId), e ≠ 39 → Y.heap[b]? = some (.cells cur e (0, 0)) → (((Y.setCell ⟨w.heap.size + 1, 0, none⟩ (.int .i64 A.k)).setCell ⟨w.heap.size + 1, 1, none⟩ (.slice (some ⟨g, 0, none⟩) A.nx.length gc)).setCell ⟨w.heap.size + 1, 2, none⟩ (.slice va (bC A.ac).length vc)).heap[b]? = Y.heap[b]? := fun b cur e hne hc => by
    have hne2 : b ≠ w.heap.size + 1 := fun e2 => by
      rw [e2, h3] at hc
      injection hc with hc
      injection hc with _ hc _
      exact hne hc.symm
    rw [heap_set_other hne2, heap_set_other hne2, heap_set_other hne2]
  refine ⟨heap_set (heap_set (heap_set h3)), g, gc, va, vc, ?_, own_keep h1 (fun b cur _ hc => k b cur _ (by decide) hc), ?_, ((h4.setCell (p := ⟨w.heap.size + 1, 0, none⟩) (by simp) _).setCell (p := ⟨w.heap.size + 1, 1, none⟩) (by simp) _).setCell (p := ⟨w.heap.size + 1, 2, none⟩) (by simp) _⟩
  · rw [bC_len]
  · have := own_keep h2 (fun b cur _ hc => k b cur _ (by decide) hc)
    rw [bC_len] at this ⊢
    exact this
/-- A nil list has no room. -/
def NilOk (v : Value) : Prop := ∀ k an n cn aa m ca, v = .agg #[k, .slice an n cn, .slice aa m ca] → (an = none → cn = 0) ∧ (aa = none → ca = 0)

end Go.Proofs.Ythglficjhgpegab
