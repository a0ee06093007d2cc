/- What the search keeps in memory, and how each of its steps keeps it. -/
import Derived.Test.YtihjhkbbpphocaaJg
import Derived.Maps.OwnSet
import Derived.Maps.AppendAt
namespace Go.Proofs.Ytihjhkbbpphocaa
open Go Go.RowKit Go.Lib Go.Maps
set_option linter.unusedVariables false

def nC (l : List Nat) : List Value := l.map fun (n : Nat) => Value.int .i64 (n : Int)
theorem nC_append (a b : List Nat) : nC (a ++ b) = nC a ++ nC b := by simp [nC]
theorem nC_len (a : List Nat) : (nC a).length = a.length := by simp [nC]
theorem nC_zC (a : List Nat) : nC a = zC (a.map fun (n : Nat) => (n : Int)) := by simp [nC, zC]
theorem own_blk {w : World} {base : Nat} {e : TypeId} {size n : Nat} {v : Value} {xs : List Value} (h : w.ownsRow base e size v n xs) {b : Nat} (hb : v.ownBlock = some b) : base ≤ b ∧ ∃ cur, w.heap[b]? = some (.cells cur e (0, 0)) := by
  rcases h.2 with ⟨rfl, _⟩ | ⟨g, cap, cur, rfl, hg, hgg, _⟩
  · simp [Value.ownBlock] at hb
  · simp only [Value.ownBlock, Option.some.injEq] at hb
    subst hb
    exact ⟨hg, cur, hgg⟩
theorem own_keep {w w' : World} {base : Nat} {e : TypeId} {size n : Nat} {v : Value} {xs : List Value} (h : w.ownsRow base e size v n xs) (hk : ∀ b cur, v.ownBlock = some b → w.heap[b]? = some (.cells cur e (0, 0)) → w'.heap[b]? = w.heap[b]?) : w'.ownsRow base e size v n xs := by
  obtain ⟨a, b⟩ := h
  refine ⟨a, ?_⟩
  rcases b with b | ⟨g, cap, cur, rfl, r1, r2, r3⟩
  · exact .inl b
  · exact .inr ⟨g, cap, cur, rfl, r1, (hk g cur rfl r2).trans r2, r3⟩
theorem map_keep {H : Type} {w w' : World} {P : Program} {k : TypeId} {R : Value → Option (DataW H × List MemPlace)} {b n : Nat} {D : DataW H} (h : w.ownsMap P k R b n D) (hk : w'.heap[b]? = w.heap[b]?) : w'.ownsMap P k R b n D := by
  obtain ⟨es, clock, hb, r⟩ := h
  exact ⟨es, clock, hk.trans hb, r⟩
theorem map_blk {H : Type} {w : World} {P : Program} {k : TypeId} {R : Value → Option (DataW H × List MemPlace)} {b n : Nat} {D : DataW H} (h : w.ownsMap P k R b n D) : ∃ es clock, w.heap[b]? = some (.map es clock) := by
  obtain ⟨es, clock, hb, r⟩ := h
  exact ⟨es, clock, hb⟩

/-- What lies in memory: the answer's block, out, the states met, where letters lead, what is accepted; the map's block is a map. -/
structure SH {S : Type} (w : World) (tS z : Nat) (ce : S → List Value) (K : Nat) (acc : S → Bool) (m : List S) (n : List Nat) (i : Nat) (vm vn va : Value) (wr : World) : Prop where
  res : wr.heap[w.heap.size]? = some (.cells #[.int .i64 0, .slice none 0 0, .slice none 0 0] 58 (0, 0))
  out : wr.heap[w.heap.size + 1]? = some (.cells #[.int .i64 K, vn, va] 58 (0, 0))
  mb : ∃ es clock, wr.heap[w.heap.size + 3]? = some (.map es clock)
  met : wr.ownsRow w.heap.size tS z vm m.length (m.flatMap ce)
  nxt : wr.ownsRow w.heap.size 3 1 vn n.length (nC n)
  acp : wr.ownsRow w.heap.size 4 1 va i (bC ((m.take i).map acc))
  apart : ∀ b, vm.ownBlock = some b → vn.ownBlock ≠ some b
  il : i ≤ m.length
  below : Below w.heap.size w wr
theorem SH.big {S : Type} {w : World} {tS z : Nat} {ce : S → List Value} {K : Nat} {acc : S → Bool} {m : List S} {n : List Nat} {i : Nat} {vm vn va : Value} {wr : World} (h : SH w tS z ce K acc m n i vm vn va wr) : w.heap.size + 3 < wr.heap.size := by
  obtain ⟨es, clock, hb⟩ := h.mb
  exact (Array.getElem?_eq_some_iff.1 hb).1
theorem SH.call {S : Type} {w : World} {tS z : Nat} {ce : S → List Value} {K : Nat} {acc : S → Bool} {m : List S} {n : List Nat} {i : Nat} {vm vn va : Value} {wr w2 : World} (h : SH w tS z ce K acc m n i vm vn va wr) (hb : Below wr.heap.size wr w2) : SH w tS z ce K acc m n i vm vn va w2 := by
  have hbig := h.big
  have k : ∀ b, b < wr.heap.size → w2.heap[b]? = wr.heap[b]? := fun b hlt => hb.block b hlt
  exact ⟨(k _ (by omega)).trans h.res, (k _ (by omega)).trans h.out, by rw [k _ hbig]; exact h.mb, own_below h.met hb, own_below h.nxt hb, own_below h.acp hb, h.apart, h.il, go_on h.below hb⟩
theorem SH.mapped {S : Type} {w : World} {tS z : Nat} {ce : S → List Value} {K : Nat} {acc : S → Bool} {m : List S} {n : List Nat} {i : Nat} {vm vn va : Value} {wr w2 : World} (h : SH w tS z ce K acc m n i vm vn va wr) (hg : wr.grownBy w2 (some (w.heap.size + 3))) (hm : ∃ es clock, w2.heap[w.heap.size + 3]? = some (.map es clock)) : SH w tS z ce K acc m n i vm vn va w2 := by
  have hbig := h.big
  obtain ⟨es, clock, hmb⟩ := h.mb
  have k : ∀ b, b < wr.heap.size → b ≠ w.heap.size + 3 → w2.heap[b]? = wr.heap[b]? := fun b hlt hne => hg.block b hlt (by simpa using hne)
  have kc : ∀ (b : Nat) (cur : Array Value) (e : TypeId), wr.heap[b]? = some (Obj.cells cur e (0, 0)) → w2.heap[b]? = wr.heap[b]? := fun b cur e hb => k b (Array.getElem?_eq_some_iff.1 hb).1 (fun e1 => by rw [e1, hmb] at hb; cases hb)
  exact ⟨(kc _ _ _ h.res).trans h.res, (kc _ _ _ h.out).trans h.out, hm, own_keep h.met (fun b cur _ hb => kc b cur _ hb), own_keep h.nxt (fun b cur _ hb => kc b cur _ hb), own_keep h.acp (fun b cur _ hb => kc b cur _ hb), h.apart, h.il, h.below.grown hg (by omega) (fun b hb => by simp at hb; omega)⟩
theorem SH.metd {S : Type} {w : World} {tS z : Nat} {ce : S → List Value} {K : Nat} {acc : S → Bool} {m : List S} {n : List Nat} {i : Nat} {vm vn va vm' : Value} {wr w2 : World} {o : Obj} {t : S} (h : SH w tS z ce K acc m n i vm vn va wr) (hA : tS ≠ 58) (hB : tS ≠ 4)
    (hg : (wr.alloc o).grownBy w2 vm.ownBlock) (ho : w2.ownsRow w.heap.size tS z vm' (m.length + 1) (m.flatMap ce ++ ce t)) (hl : vm'.ownBlock = vm.ownBlock ∨ vm'.ownBlock = some (wr.alloc o).heap.size) : SH w tS z ce K acc (m ++ [t]) n i vm' vn va w2 := by
  have hbig := h.big
  obtain ⟨es, clock, hmb⟩ := h.mb
  have k : ∀ b, b < wr.heap.size → vm.ownBlock ≠ some b → w2.heap[b]? = wr.heap[b]? := fun b hlt hne => by
    rw [hg.block b (by simp; omega) (fun e => hne e.symm)]
    exact (below_new wr o).block b hlt
  have kt : ∀ (b : Nat) (O : Obj), wr.heap[b]? = some O → (∀ cur : Array Value, O ≠ Obj.cells cur tS (0, 0)) → w2.heap[b]? = wr.heap[b]? := fun b O hb hne => k b (Array.getElem?_eq_some_iff.1 hb).1 (fun e => by
    obtain ⟨_, cur, hc⟩ := own_blk h.met e
    rw [hc, Option.some.injEq] at hb
    exact hne cur hb.symm)
  refine ⟨(kt _ _ h.res (fun cur e => by injection e with _ e _; exact hA e.symm)).trans h.res, (kt _ _ h.out (fun cur e => by injection e with _ e _; exact hA e.symm)).trans h.out, ⟨es, clock, (kt _ _ hmb (fun cur e => by cases e)).trans hmb⟩, ?_, ?_, ?_, ?_, ?_, ?_⟩
  · rw [List.length_append, List.flatMap_append]
    simpa using ho
  · refine own_keep h.nxt (fun b cur hb hc => k b (Array.getElem?_eq_some_iff.1 hc).1 (fun e => h.apart b e hb))
  · rw [List.take_append_of_le_length h.il]
    exact own_keep h.acp (fun b cur hb hc => kt b _ hc (fun cur' e => by injection e with _ e _; exact hB e.symm))
  · intro b hb hn
    rcases hl with hl | hl
    · exact h.apart b (hl ▸ hb) hn
    · rw [hl] at hb
      have := (h.nxt.lt b hn).2
      simp at hb
      omega
  · have := h.il
    simp
    omega
  · exact (h.below.alloc (by have := h.below.size; omega) o).grown hg (by simp; omega) (fun b hb => (h.met.lt b hb).1)
theorem heap_set {w : World} {b j : Nat} {v : Value} {arr : Array Value} {t : TypeId} (h : w.heap[b]? = some (.cells arr t (0, 0))) : (w.setCell ⟨b, j, none⟩ v).heap[b]? = some (.cells (arr.setIfInBounds j v) t (0, 0)) := by
  simp only [World.setCell]
  rw [Array.getElem?_modify, if_pos rfl, h]
  rfl
theorem heap_set_other {w : World} {b c j : Nat} {v : Value} (h : c ≠ b) : (w.setCell ⟨b, j, none⟩ v).heap[c]? = w.heap[c]? := Below.heap_setCell _ _ _ _ h
theorem SH.nxtd {S : Type} {w : World} {tS z : Nat} {ce : S → List Value} {K : Nat} {acc : S → Bool} {m : List S} {n : List Nat} {i : Nat} {vm vn va vn' : Value} {wr w2 : World} {o : Obj} {p : Nat} (h : SH w tS z ce K acc m n i vm vn va wr) (hA : tS ≠ 58)
    (hg : (wr.alloc o).grownBy w2 vn.ownBlock) (ho : w2.ownsRow w.heap.size 3 1 vn' (n.length + 1) (nC n ++ [.int .i64 (p : Int)])) (hl : vn'.ownBlock = vn.ownBlock ∨ vn'.ownBlock = some (wr.alloc o).heap.size) : SH w tS z ce K acc m (n ++ [p]) i vm vn' va (w2.setCell ⟨w.heap.size + 1, 1, none⟩ vn') := by
  have hbig := h.big
  obtain ⟨es, clock, hmb⟩ := h.mb
  have k : ∀ b, b < wr.heap.size → vn.ownBlock ≠ some b → w2.heap[b]? = wr.heap[b]? := fun b hlt hne => by
    rw [hg.block b (by simp; omega) (fun e => hne e.symm)]
    exact (below_new wr o).block b hlt
  have kt : ∀ (b : Nat) (O : Obj), wr.heap[b]? = some O → (∀ cur : Array Value, O ≠ Obj.cells cur 3 (0, 0)) → w2.heap[b]? = wr.heap[b]? := fun b O hb hne => k b (Array.getElem?_eq_some_iff.1 hb).1 (fun e => by
    obtain ⟨_, cur, hc⟩ := own_blk h.nxt e
    rw [hc, Option.some.injEq] at hb
    exact hne cur hb.symm)
  have hout := (kt _ _ h.out (fun cur e => by injection e with _ e _; cases e)).trans h.out
  have so : ∀ (b : Nat) (O : Obj), w2.heap[b]? = some O → (∀ cur : Array Value, O ≠ Obj.cells cur 58 (0, 0)) → (w2.setCell ⟨w.heap.size + 1, 1, none⟩ vn').heap[b]? = w2.heap[b]? := fun b O hb hne => heap_set_other (fun e => by
    rw [e, hout, Option.some.injEq] at hb
    exact hne _ hb.symm)
  have hres := (kt _ _ h.res (fun cur e => by injection e with _ e _; cases e)).trans h.res
  refine ⟨(heap_set_other (by omega)).trans hres, heap_set hout, ⟨es, clock, ?_⟩, ?_, ?_, ?_, ?_, h.il, ?_⟩
  · have := (kt _ _ hmb (fun cur e => by cases e)).trans hmb
    exact (so _ _ this (fun cur e => by cases e)).trans this
  · refine own_keep (own_keep h.met (fun b cur hb hc => k b (Array.getElem?_eq_some_iff.1 hc).1 (fun e => h.apart b hb e))) (fun b cur hb hc => so b _ hc (fun cur' e => by injection e with _ e _; exact hA e))
  · refine own_keep ?_ (fun b cur hb hc => so b _ hc (fun cur' e => by injection e with _ e _; cases e))
    rw [List.length_append, nC_append]
    exact ho
  · refine own_keep (own_keep h.acp (fun b cur hb hc => kt b _ hc (fun cur' e => by injection e with _ e _; cases e))) (fun b cur hb hc => so b _ hc (fun cur' e => by injection e with _ e _; cases e))
  · intro b hb hn
    rcases hl with hl | hl
    · exact h.apart b hb (hl ▸ hn)
    · rw [hl] at hn
      have := (h.met.lt b hb).2
      simp at hn
      omega
  · exact ((h.below.alloc (by have := h.below.size; omega) o).grown hg (by simp; omega) (fun b hb => (h.nxt.lt b hb).1)).setCell (p := ⟨w.heap.size + 1, 1, none⟩) (by simp) _
theorem SH.acpd {S : Type} {w : World} {tS z : Nat} {ce : S → List Value} {K : Nat} {acc : S → Bool} {m : List S} {n : List Nat} {i : Nat} {vm vn va va' : Value} {wr w2 : World} {o : Obj} {t : S} (h : SH w tS z ce K acc m n i vm vn va wr) (hA : tS ≠ 58) (hB : tS ≠ 4) (hi : m[i]? = some t)
    (hg : (wr.alloc o).grownBy w2 va.ownBlock) (ho : w2.ownsRow w.heap.size 4 1 va' (i + 1) (bC ((m.take i).map acc) ++ [.bool (acc t)])) : SH w tS z ce K acc m n (i + 1) vm vn va' (w2.setCell ⟨w.heap.size + 1, 2, none⟩ va') := by
  have hbig := h.big
  obtain ⟨es, clock, hmb⟩ := h.mb
  have k : ∀ b, b < wr.heap.size → va.ownBlock ≠ some b → w2.heap[b]? = wr.heap[b]? := fun b hlt hne => by
    rw [hg.block b (by simp; omega) (fun e => hne e.symm)]
    exact (below_new wr o).block b hlt
  have kt : ∀ (b : Nat) (O : Obj), wr.heap[b]? = some O → (∀ cur : Array Value, O ≠ Obj.cells cur 4 (0, 0)) → w2.heap[b]? = wr.heap[b]? := fun b O hb hne => k b (Array.getElem?_eq_some_iff.1 hb).1 (fun e => by
    obtain ⟨_, cur, hc⟩ := own_blk h.acp e
    rw [hc, Option.some.injEq] at hb
    exact hne cur hb.symm)
  have hout := (kt _ _ h.out (fun cur e => by injection e with _ e _; cases e)).trans h.out
  have so : ∀ (b : Nat) (O : Obj), w2.heap[b]? = some O → (∀ cur : Array Value, O ≠ Obj.cells cur 58 (0, 0)) → (w2.setCell ⟨w.heap.size + 1, 2, none⟩ va').heap[b]? = w2.heap[b]? := fun b O hb hne => heap_set_other (fun e => by
    rw [e, hout, Option.some.injEq] at hb
    exact hne _ hb.symm)
  have hres := (kt _ _ h.res (fun cur e => by injection e with _ e _; cases e)).trans h.res
  refine ⟨(heap_set_other (by omega)).trans hres, heap_set hout, ⟨es, clock, ?_⟩, ?_, ?_, ?_, h.apart, (List.getElem?_eq_some_iff.1 hi).1, ?_⟩
  · have := (kt _ _ hmb (fun cur e => by cases e)).trans hmb
    exact (so _ _ this (fun cur e => by cases e)).trans this
  · refine own_keep (own_keep h.met (fun b cur hb hc => kt b _ hc (fun cur' e => by injection e with _ e _; exact hB e))) (fun b cur hb hc => so b _ hc (fun cur' e => by injection e with _ e _; exact hA e))
  · refine own_keep (own_keep h.nxt (fun b cur hb hc => kt b _ hc (fun cur' e => by injection e with _ e _; cases e))) (fun b cur hb hc => so b _ hc (fun cur' e => by injection e with _ e _; cases e))
  · refine own_keep ?_ (fun b cur hb hc => so b _ hc (fun cur' e => by injection e with _ e _; cases e))
    rw [List.take_add_one, hi, Option.toList_some, List.map_append, bC_append]
    exact ho
  · exact ((h.below.alloc (by have := h.below.size; omega) o).grown hg (by simp; omega) (fun b hb => (h.acp.lt b hb).1)).setCell (p := ⟨w.heap.size + 1, 2, none⟩) (by simp) _
end Go.Proofs.Ytihjhkbbpphocaa
