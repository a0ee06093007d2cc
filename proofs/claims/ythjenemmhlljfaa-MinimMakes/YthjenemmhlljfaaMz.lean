/- The document's Minimal: what it keeps in memory. -/
import Derived.Test.YthjenemmhlljfaaMy
import Derived.Test.YthjenemmhlljfaaMt
namespace Go.Proofs.Ythjenemmhlljfaa
open Go Go.RowKit Go.Lib
set_option linter.unusedVariables false

structure IN (V : World) (ob gn N : Nat) (k : Int) (vm vn va : Value) (r mL nL aL : List Value) (wr : World) : Prop where
  out : wr.heap[ob]? = some (.cells #[.int .i64 k, vn, va] 25 (0, 0))
  nums : wr.ownsRow V.heap.size 3 1 (.slice (some ⟨gn, 0, none⟩) N N) N r
  met : wr.ownsRow V.heap.size 3 1 vm mL.length mL
  nxt : wr.ownsRow V.heap.size 3 1 vn nL.length nL
  acp : wr.ownsRow V.heap.size 4 1 va aL.length aL
  a1 : vm.ownBlock ≠ some gn
  a2 : vn.ownBlock ≠ some gn
  a3 : ∀ b, vm.ownBlock = some b → vn.ownBlock ≠ some b
  below : Below V.heap.size V wr
  ol : V.heap.size ≤ ob
theorem IN.call {V : World} {ob gn N : Nat} {k : Int} {vm vn va : Value} {r mL nL aL : List Value} {wr w2 : World} (h : IN V ob gn N k vm vn va r mL nL aL wr) (hb : Below wr.heap.size wr w2) : IN V ob gn N k vm vn va r mL nL aL w2 :=
  ⟨(hb.block _ (Array.getElem?_eq_some_iff.1 h.out).1).trans h.out, own_below h.nums hb, own_below h.met hb, own_below h.nxt hb, own_below h.acp hb, h.a1, h.a2, h.a3, go_on h.below hb, h.ol⟩
theorem IN.numBlk {V : World} {ob gn N : Nat} {k : Int} {vm vn va : Value} {r mL nL aL : List Value} {wr : World} (h : IN V ob gn N k vm vn va r mL nL aL wr) : V.heap.size ≤ gn ∧ ∃ cur, wr.heap[gn]? = some (.cells cur 3 (0, 0)) := own_blk h.nums rfl
theorem IN.num {V : World} {ob gn N : Nat} {k : Int} {vm vn va : Value} {r mL nL aL : List Value} {wr : World} (h : IN V ob gn N k vm vn va r mL nL aL wr) (j : Nat) (x : Value) : IN V ob gn N k vm vn va (r.set j x) mL nL aL (wr.setCell ⟨gn, j, none⟩ x) := by
  obtain ⟨hlo, cur, hg⟩ := h.numBlk
  have so : ∀ (b : Nat) (O : Obj), wr.heap[b]? = some O → (∀ cur : Array Value, O ≠ Obj.cells cur 3 (0, 0)) → (wr.setCell ⟨gn, j, none⟩ x).heap[b]? = wr.heap[b]? := fun b O hb hne => heap_set_other (fun e => by
    rw [e, hg, Option.some.injEq] at hb
    exact hne _ hb.symm)
  refine ⟨(so _ _ h.out (fun cur e => by injection e with _ e _; cases e)).trans h.out, (h.nums.stored j x).1, own_keep h.met (fun b cur hb _ => heap_set_other (fun e => h.a1 (e ▸ hb))), own_keep h.nxt (fun b cur hb _ => heap_set_other (fun e => h.a2 (e ▸ hb))), own_keep h.acp (fun b cur hb hc => so b _ hc (fun cur' e => by injection e with _ e _; cases e)), h.a1, h.a2, h.a3, h.below.setCell (p := ⟨gn, j, none⟩) hlo _, h.ol⟩
theorem IN.metd {V : World} {ob gn N : Nat} {k : Int} {vm vn va vm' : Value} {r mL nL aL : List Value} {wr w2 : World} {o : Obj} {x : Value} (h : IN V ob gn N k vm vn va r mL nL aL wr) (hg : (wr.alloc o).grownBy w2 vm.ownBlock) (ho : w2.ownsRow V.heap.size 3 1 vm' (mL.length + 1) (mL ++ [x])) (hl : vm'.ownBlock = vm.ownBlock ∨ vm'.ownBlock = some (wr.alloc o).heap.size) :
    IN V ob gn N k vm' vn va r (mL ++ [x]) nL aL w2 := by
  obtain ⟨hlo, cur, hgn⟩ := h.numBlk
  have hgl := (Array.getElem?_eq_some_iff.1 hgn).1
  have k' : ∀ b, b < wr.heap.size → vm.ownBlock ≠ some b → w2.heap[b]? = wr.heap[b]? := fun b hlt hne => by
    rw [hg.block b (by simp; omega) (fun e => hne e.symm)]
    exact (below_new wr o).block b hlt
  have kt : ∀ (b : Nat) (O : Obj), wr.heap[b]? = some O → (∀ cur : Array Value, O ≠ Obj.cells cur 3 (0, 0)) → w2.heap[b]? = wr.heap[b]? := fun b O hb hne => k' b (Array.getElem?_eq_some_iff.1 hb).1 (fun e => by
    obtain ⟨_, cur, hc⟩ := own_blk h.met e
    rw [hc, Option.some.injEq] at hb
    exact hne cur hb.symm)
  refine ⟨(kt _ _ h.out (fun cur e => by injection e with _ e _; cases e)).trans h.out, own_keep h.nums (fun b cur hb hc => k' b (Array.getElem?_eq_some_iff.1 hc).1 (fun e => h.a1 (by simp only [Value.ownBlock, Option.some.injEq] at hb; rw [hb]; exact e))), by simpa using ho, own_keep h.nxt (fun b cur hb hc => k' b (Array.getElem?_eq_some_iff.1 hc).1 (fun e => h.a3 b e hb)), own_keep h.acp (fun b cur hb hc => kt b _ hc (fun cur' e => by injection e with _ e _; cases e)), ?_, h.a2, ?_, ?_, h.ol⟩
  · rcases hl with hl | hl
    · rw [hl]; exact h.a1
    · rw [hl]; simp; omega
  · intro b hb hn
    rcases hl with hl | hl
    · exact h.a3 b (hl ▸ hb) hn
    · rw [hl] at hb
      have := (h.nxt.lt b hn).2
      simp at hb
      omega
  · exact (h.below.alloc (by have := h.below.size; omega) o).grown hg (by have := h.below.size; simp; omega) (fun b hb => (h.met.lt b hb).1)
theorem IN.nxtd {V : World} {ob gn N : Nat} {k : Int} {vm vn va vn' : Value} {r mL nL aL : List Value} {wr w2 : World} {o : Obj} {x : Value} (h : IN V ob gn N k vm vn va r mL nL aL wr) (hg : (wr.alloc o).grownBy w2 vn.ownBlock) (ho : w2.ownsRow V.heap.size 3 1 vn' (nL.length + 1) (nL ++ [x])) (hl : vn'.ownBlock = vn.ownBlock ∨ vn'.ownBlock = some (wr.alloc o).heap.size) :
    w2.heap[ob]? = some (.cells #[.int .i64 k, vn, va] 25 (0, 0)) ∧ IN V ob gn N k vm vn' va r mL (nL ++ [x]) aL (w2.setCell ⟨ob, 1, none⟩ vn') := by
  obtain ⟨hlo, cur, hgn⟩ := h.numBlk
  have hgl := (Array.getElem?_eq_some_iff.1 hgn).1
  have k' : ∀ b, b < wr.heap.size → vn.ownBlock ≠ some b → w2.heap[b]? = wr.heap[b]? := fun b hlt hne => by
    rw [hg.block b (by simp; omega) (fun e => hne e.symm)]
    exact (below_new wr o).block b hlt
  have kt : ∀ (b : Nat) (O : Obj), wr.heap[b]? = some O → (∀ cur : Array Value, O ≠ Obj.cells cur 3 (0, 0)) → w2.heap[b]? = wr.heap[b]? := fun b O hb hne => k' b (Array.getElem?_eq_some_iff.1 hb).1 (fun e => by
    obtain ⟨_, cur, hc⟩ := own_blk h.nxt e
    rw [hc, Option.some.injEq] at hb
    exact hne cur hb.symm)
  have hob := (kt _ _ h.out (fun cur e => by injection e with _ e _; cases e)).trans h.out
  have so : ∀ (b : Nat) (cur : Array Value) (e : TypeId), w2.heap[b]? = some (.cells cur e (0, 0)) → e ≠ 25 → (w2.setCell ⟨ob, 1, none⟩ vn').heap[b]? = w2.heap[b]? := fun b cur e hb hne => heap_set_other (fun q => by rw [q, hob] at hb; simp at hb; exact hne hb.2.symm)
  have n1 : w2.ownsRow V.heap.size 3 1 (.slice (some ⟨gn, 0, none⟩) N N) N r := own_keep h.nums (fun b cur hb hc => k' b (Array.getElem?_eq_some_iff.1 hc).1 (fun e => h.a2 (by simp only [Value.ownBlock, Option.some.injEq] at hb; rw [hb]; exact e)))
  have n2 : w2.ownsRow V.heap.size 3 1 vm mL.length mL := own_keep h.met (fun b cur hb hc => k' b (Array.getElem?_eq_some_iff.1 hc).1 (fun e => h.a3 b hb e))
  have n3 : w2.ownsRow V.heap.size 4 1 va aL.length aL := own_keep h.acp (fun b cur hb hc => kt b _ hc (fun cur' e => by injection e with _ e _; cases e))
  refine ⟨hob, heap_set hob, own_keep n1 (fun b cur _ hc => so b cur _ hc (by decide)), own_keep n2 (fun b cur _ hc => so b cur _ hc (by decide)), ?_, own_keep n3 (fun b cur _ hc => so b cur _ hc (by decide)), h.a1, ?_, ?_, ?_, h.ol⟩
  · have := own_keep (w' := w2.setCell ⟨ob, 1, none⟩ vn') ho (fun b cur _ hc => so b cur _ hc (by decide))
    simpa using this
  · rcases hl with hl | hl
    · rw [hl]; exact h.a2
    · rw [hl]; simp; omega
  · intro b hb hn
    rcases hl with hl | hl
    · exact h.a3 b hb (hl ▸ hn)
    · rw [hl] at hn
      have := (h.met.lt b hb).2
      simp at hn
      omega
  · exact ((h.below.alloc (by have := h.below.size; omega) o).grown hg (by have := h.below.size; simp; omega) (fun b hb => (h.nxt.lt b hb).1)).setCell (p := ⟨ob, 1, none⟩) h.ol _
theorem IN.acpd {V : World} {ob gn N : Nat} {k : Int} {vm vn va va' : Value} {r mL nL aL : List Value} {wr w2 : World} {o : Obj} {x : Value} (h : IN V ob gn N k vm vn va r mL nL aL wr) (hg : (wr.alloc o).grownBy w2 va.ownBlock) (ho : w2.ownsRow V.heap.size 4 1 va' (aL.length + 1) (aL ++ [x])) :
    w2.heap[ob]? = some (.cells #[.int .i64 k, vn, va] 25 (0, 0)) ∧ IN V ob gn N k vm vn va' r mL nL (aL ++ [x]) (w2.setCell ⟨ob, 2, none⟩ va') := by
  have k' : ∀ b, b < wr.heap.size → va.ownBlock ≠ some b → w2.heap[b]? = wr.heap[b]? := fun b hlt hne => by
    rw [hg.block b (by simp; omega) (fun e => hne e.symm)]
    exact (below_new wr o).block b hlt
  have kt : ∀ (b : Nat) (O : Obj), wr.heap[b]? = some O → (∀ cur : Array Value, O ≠ Obj.cells cur 4 (0, 0)) → w2.heap[b]? = wr.heap[b]? := fun b O hb hne => k' b (Array.getElem?_eq_some_iff.1 hb).1 (fun e => by
    obtain ⟨_, cur, hc⟩ := own_blk h.acp e
    rw [hc, Option.some.injEq] at hb
    exact hne cur hb.symm)
  have hob := (kt _ _ h.out (fun cur e => by injection e with _ e _; cases e)).trans h.out
  have so : ∀ (b : Nat) (cur : Array Value) (e : TypeId), w2.heap[b]? = some (.cells cur e (0, 0)) → e ≠ 25 → (w2.setCell ⟨ob, 2, none⟩ va').heap[b]? = w2.heap[b]? := fun b cur e hb hne => heap_set_other (fun q => by rw [q, hob] at hb; simp at hb; exact hne hb.2.symm)
  have ki : ∀ (v : Value) (n : Nat) (L : List Value), wr.ownsRow V.heap.size 3 1 v n L → (w2.setCell ⟨ob, 2, none⟩ va').ownsRow V.heap.size 3 1 v n L := fun v n L hv => own_keep (own_keep (w' := w2) hv (fun b cur hb hc => kt b _ hc (fun cur' e => by injection e with _ e _; cases e))) (fun b cur _ hc => so b cur _ hc (by decide))
  refine ⟨hob, heap_set hob, ki _ _ _ h.nums, ki _ _ _ h.met, ki _ _ _ h.nxt, ?_, h.a1, h.a2, h.a3, ?_, h.ol⟩
  · have := own_keep (w' := w2.setCell ⟨ob, 2, none⟩ va') ho (fun b cur _ hc => so b cur _ hc (by decide))
    simpa using this
  · exact ((h.below.alloc (by have := h.below.size; omega) o).grown hg (by have := h.below.size; simp; omega) (fun b hb => (h.acp.lt b hb).1)).setCell (p := ⟨ob, 2, none⟩) h.ol _
end Go.Proofs.Ythjenemmhlljfaa
