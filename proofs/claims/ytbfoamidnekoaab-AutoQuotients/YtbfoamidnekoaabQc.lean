/- What the document's search keeps in memory, and how each of its steps keeps it. -/
import Derived.Test.YtbfoamidnekoaabJi
namespace Go.Proofs.Ytbfoamidnekoaab
open Go Go.RowKit Go.Lib Go.Maps
set_option linter.unusedVariables false

/-- Texts as a row's cells. -/
def tC {S : Type} (en : S → ByteArray) (m : List S) : List Value := m.map fun s => Value.string (en s)
theorem tC_append {S : Type} (en : S → ByteArray) (a b : List S) : tC en (a ++ b) = tC en a ++ tC en b := by simp [tC]
theorem tC_len {S : Type} (en : S → ByteArray) (a : List S) : (tC en a).length = a.length := by simp [tC]
/-- What lies in memory: the answer's block, out, the texts met, where letters lead, what is accepted. -/
structure SD {S : Type} (w : World) (X : Array Value) (rb ob : Nat) (en : S → ByteArray) (K : Nat) (acc : S → Bool) (m : List S) (n : List Nat) (i : Nat) (vm vn va : Value) (wr : World) : Prop where
  bx : wr.heap[w.heap.size]? = some (.cells X 64 (0, 0))
  res : wr.heap[rb]? = some (.cells #[.int .i64 0, .slice none 0 0, .slice none 0 0] 25 (0, 0))
  out : wr.heap[ob]? = some (.cells #[.int .i64 K, vn, va] 25 (0, 0))
  met : wr.ownsRow w.heap.size 9 1 vm m.length (tC en m)
  nxt : wr.ownsRow w.heap.size 3 1 vn n.length (nC n)
  acp : wr.ownsRow w.heap.size 4 1 va i (bC ((m.take i).map acc))
  il : i ≤ m.length
  below : Below w.heap.size w wr
  rlo : w.heap.size < rb
  olo : w.heap.size < ob
  ne : rb ≠ ob
theorem SD.rlt {S : Type} {w : World} {X : Array Value} {rb ob : Nat} {en : S → ByteArray} {K : Nat} {acc : S → Bool} {m : List S} {n : List Nat} {i : Nat} {vm vn va : Value} {wr : World} (h : SD w X rb ob en K acc m n i vm vn va wr) : rb < wr.heap.size ∧ ob < wr.heap.size := ⟨(Array.getElem?_eq_some_iff.1 h.res).1, (Array.getElem?_eq_some_iff.1 h.out).1⟩
theorem SD.call {S : Type} {w : World} {X : Array Value} {rb ob : Nat} {en : S → ByteArray} {K : Nat} {acc : S → Bool} {m : List S} {n : List Nat} {i : Nat} {vm vn va : Value} {wr w2 : World} (h : SD w X rb ob en K acc m n i vm vn va wr) (hb : Below wr.heap.size wr w2) : SD w X rb ob en K acc m n i vm vn va w2 := by
  obtain ⟨h1, h2⟩ := h.rlt
  have k : ∀ b, b < wr.heap.size → w2.heap[b]? = wr.heap[b]? := fun b hlt => hb.block b hlt
  exact ⟨(k _ (Array.getElem?_eq_some_iff.1 h.bx).1).trans h.bx, (k _ h1).trans h.res, (k _ h2).trans h.out, own_below h.met hb, own_below h.nxt hb, own_below h.acp hb, h.il, go_on h.below hb, h.rlo, h.olo, h.ne⟩
/-- Blocks stay where an append writes a row of another type. -/
theorem grown_other {base : Nat} {wr w2 : World} {o : Obj} {e : TypeId} {size k : Nat} {v : Value} {xs : List Value} (hv : wr.ownsRow base e size v k xs) (hg : (wr.alloc o).grownBy w2 v.ownBlock) (b : Nat) (O : Obj) (hb : wr.heap[b]? = some O) (hne : ∀ cur : Array Value, O ≠ Obj.cells cur e (0, 0)) : w2.heap[b]? = wr.heap[b]? := by
  have hlt := (Array.getElem?_eq_some_iff.1 hb).1
  rw [hg.block b (by simp; omega) (fun e1 => by
    obtain ⟨_, cur, hc⟩ := own_blk hv e1.symm
    rw [hc, Option.some.injEq] at hb
    exact hne cur hb.symm)]
  exact (below_new wr o).block b hlt
theorem SD.metd {S : Type} {w : World} {X : Array Value} {rb ob : Nat} {en : S → ByteArray} {K : Nat} {acc : S → Bool} {m : List S} {n : List Nat} {i : Nat} {vm vn va : Value} {vm' : Value} {wr w2 : World} {o : Obj} {t : S} (h : SD w X rb ob en K acc m n i vm vn va wr)
    (hg : (wr.alloc o).grownBy w2 vm.ownBlock) (ho : w2.ownsRow w.heap.size 9 1 vm' (m.length + 1) (tC en m ++ [.string (en t)])) : SD w X rb ob en K acc (m ++ [t]) n i vm' vn va w2 := by
  have kt := fun b O hb hne => grown_other h.met hg b O hb hne
  obtain ⟨h1, h2⟩ := h.rlt
  refine ⟨(kt _ _ h.bx (fun cur e => by injection e with _ e _; cases e)).trans h.bx, (kt _ _ h.res (fun cur e => by injection e with _ e _; cases e)).trans h.res, (kt _ _ h.out (fun cur e => by injection e with _ e _; cases e)).trans h.out, ?_, own_keep h.nxt (fun b cur hb hc => kt b _ hc (fun cur' e => by injection e with _ e _; cases e)), ?_, ?_, ?_, h.rlo, h.olo, h.ne⟩
  · rw [List.length_append, tC_append]
    exact ho
  · rw [List.take_append_of_le_length h.il]
    exact own_keep h.acp (fun b cur hb hc => kt b _ hc (fun cur' e => by injection e with _ e _; cases e))
  · have := h.il
    simp
    omega
  · exact (h.below.alloc (by have := h.below.size; omega) o).grown hg (by have := h.below.size; simp; omega) (fun b hb => (h.met.lt b hb).1)
theorem SD.nxtd {S : Type} {w : World} {X : Array Value} {rb ob : Nat} {en : S → ByteArray} {K : Nat} {acc : S → Bool} {m : List S} {n : List Nat} {i : Nat} {vm vn va : Value} {vn' : Value} {wr w2 : World} {o : Obj} {p : Nat} (h : SD w X rb ob en K acc m n i vm vn va wr)
    (hg : (wr.alloc o).grownBy w2 vn.ownBlock) (ho : w2.ownsRow w.heap.size 3 1 vn' (n.length + 1) (nC n ++ [.int .i64 (p : Int)])) : SD w X rb ob en K acc m (n ++ [p]) i vm vn' va (w2.setCell ⟨ob, 1, none⟩ vn') := by
  have kt := fun b O hb hne => grown_other h.nxt hg b O hb hne
  have hout := (kt _ _ h.out (fun cur e => by injection e with _ e _; cases e)).trans h.out
  have hres := (kt _ _ h.res (fun cur e => by injection e with _ e _; cases e)).trans h.res
  have so : ∀ (b : Nat) (O : Obj), w2.heap[b]? = some O → (∀ cur : Array Value, O ≠ Obj.cells cur 25 (0, 0)) → (w2.setCell ⟨ob, 1, none⟩ vn').heap[b]? = w2.heap[b]? := fun b O hb hne => heap_set_other (fun e => by
    rw [e, hout, Option.some.injEq] at hb
    exact hne _ hb.symm)
  have hbx := (kt _ _ h.bx (fun cur e => by injection e with _ e _; cases e)).trans h.bx
  refine ⟨(heap_set_other (by have := h.olo; omega)).trans hbx, (heap_set_other h.ne).trans hres, heap_set hout, ?_, ?_, ?_, h.il, ?_, h.rlo, h.olo, h.ne⟩
  · exact own_keep (own_keep h.met (fun b cur hb hc => kt b _ hc (fun cur' e => by injection e with _ e _; cases e))) (fun b cur hb hc => so b _ hc (fun cur' e => by injection e with _ e _; cases e))
  · refine own_keep ?_ (fun b cur hb hc => so b _ hc (fun cur' e => by injection e with _ e _; cases e))
    rw [List.length_append, nC_append]
    exact ho
  · exact own_keep (own_keep h.acp (fun b cur hb hc => kt b _ hc (fun cur' e => by injection e with _ e _; cases e))) (fun b cur hb hc => so b _ hc (fun cur' e => by injection e with _ e _; cases e))
  · exact ((h.below.alloc (by have := h.below.size; omega) o).grown hg (by have := h.below.size; simp; omega) (fun b hb => (h.nxt.lt b hb).1)).setCell (p := ⟨ob, 1, none⟩) (Nat.le_of_lt h.olo) _
theorem SD.acpd {S : Type} {w : World} {X : Array Value} {rb ob : Nat} {en : S → ByteArray} {K : Nat} {acc : S → Bool} {m : List S} {n : List Nat} {i : Nat} {vm vn va : Value} {va' : Value} {wr w2 : World} {o : Obj} {t : S} (h : SD w X rb ob en K acc m n i vm vn va wr) (hi : m[i]? = some t)
    (hg : (wr.alloc o).grownBy w2 va.ownBlock) (ho : w2.ownsRow w.heap.size 4 1 va' (i + 1) (bC ((m.take i).map acc) ++ [.bool (acc t)])) : SD w X rb ob en K acc m n (i + 1) vm vn va' (w2.setCell ⟨ob, 2, none⟩ va') := by
  have kt := fun b O hb hne => grown_other h.acp hg b O hb hne
  have hout := (kt _ _ h.out (fun cur e => by injection e with _ e _; cases e)).trans h.out
  have hres := (kt _ _ h.res (fun cur e => by injection e with _ e _; cases e)).trans h.res
  have so : ∀ (b : Nat) (O : Obj), w2.heap[b]? = some O → (∀ cur : Array Value, O ≠ Obj.cells cur 25 (0, 0)) → (w2.setCell ⟨ob, 2, none⟩ va').heap[b]? = w2.heap[b]? := fun b O hb hne => heap_set_other (fun e => by
    rw [e, hout, Option.some.injEq] at hb
    exact hne _ hb.symm)
  have hbx := (kt _ _ h.bx (fun cur e => by injection e with _ e _; cases e)).trans h.bx
  refine ⟨(heap_set_other (by have := h.olo; omega)).trans hbx, (heap_set_other h.ne).trans hres, heap_set hout, ?_, ?_, ?_, (List.getElem?_eq_some_iff.1 hi).1, ?_, h.rlo, h.olo, h.ne⟩
  · exact own_keep (own_keep h.met (fun b cur hb hc => kt b _ hc (fun cur' e => by injection e with _ e _; cases e))) (fun b cur hb hc => so b _ hc (fun cur' e => by injection e with _ e _; cases e))
  · exact own_keep (own_keep h.nxt (fun b cur hb hc => kt b _ hc (fun cur' e => by injection e with _ e _; cases e))) (fun b cur hb hc => so b _ hc (fun cur' e => by injection e with _ e _; cases e))
  · refine own_keep ?_ (fun b cur hb hc => so b _ hc (fun cur' e => by injection e with _ e _; cases e))
    rw [List.take_add_one, hi, Option.toList_some, List.map_append, bC_append]
    exact ho
  · exact ((h.below.alloc (by have := h.below.size; omega) o).grown hg (by have := h.below.size; simp; omega) (fun b hb => (h.acp.lt b hb).1)).setCell (p := ⟨ob, 2, none⟩) (Nat.le_of_lt h.olo) _
theorem SD.outN {S : Type} {w : World} {X : Array Value} {rb ob : Nat} {en : S → ByteArray} {K : Nat} {acc : S → Bool} {m : List S} {n : List Nat} {i : Nat} {vm vn va : Value} {wr w2 : World} {o : Obj} (h : SD w X rb ob en K acc m n i vm vn va wr) {v : Value} {e : TypeId} {size k : Nat} {xs : List Value} (hv : wr.ownsRow w.heap.size e size v k xs) (he : e ≠ 25) (hg : (wr.alloc o).grownBy w2 v.ownBlock) :
    w2.heap[ob]? = some (.cells #[.int .i64 K, vn, va] 25 (0, 0)) := (grown_other hv hg _ _ h.out (fun cur e1 => by injection e1 with _ e1 _; exact he e1.symm)).trans h.out
/-- All that stands ahead of the letter c of the text i. -/
structure OD {S : Type} [DecidableEq S] (w : World) (X : Array Value) (rb ob : Nat) (en : S → ByteArray) (ok : S → Prop) (d : S → Nat → S) (K : Nat) (x : S) (acc : S → Bool) (i c : Nat) (m : List S) (n : List Nat) (vm vn va : Value) (f : Nat) (wr : World) : Prop where
  sd : SD w X rb ob en K acc m n i vm vn va wr
  bi : BI d K x m n
  go : bgo d K f m n = bfs d K x
  fu : f + n.length = 32768
  nl : n.length = i * K + c
  oks : ∀ t ∈ m, ok t
theorem OD.call {S : Type} [DecidableEq S] {w : World} {X : Array Value} {rb ob : Nat} {en : S → ByteArray} {ok : S → Prop} {d : S → Nat → S} {K : Nat} {x : S} {acc : S → Bool} {i c : Nat} {m : List S} {n : List Nat} {vm vn va : Value} {f : Nat} {wr w2 : World} (h : OD w X rb ob en ok d K x acc i c m n vm vn va f wr) (hb : Below wr.heap.size wr w2) : OD w X rb ob en ok d K x acc i c m n vm vn va f w2 :=
  ⟨h.sd.call hb, h.bi, h.go, h.fu, h.nl, h.oks⟩
theorem OD.fuel {S : Type} [DecidableEq S] {w : World} {X : Array Value} {rb ob : Nat} {en : S → ByteArray} {ok : S → Prop} {d : S → Nat → S} {K : Nat} {x : S} {acc : S → Bool} {i c : Nat} {m : List S} {n : List Nat} {vm vn va : Value} {f : Nat} {wr : World} (h : OD w X rb ob en ok d K x acc i c m n vm vn va f wr) (hK : c < K) (hk8 : K ≤ 8) (hi : i < m.length) : ∃ f', f = f' + 1 := by
  cases f with
  | succ f => exact ⟨f, rfl⟩
  | zero =>
    have h1 := h.fu
    have h2 := h.nl
    have h3 := h.bi.most
    have h4 := Nat.mul_le_mul_right K (show i + 1 ≤ 4096 by omega)
    have h5 := Nat.mul_le_mul_left 4096 hk8
    rw [Nat.add_mul] at h4
    omega
theorem OD.old {S : Type} [DecidableEq S] {w : World} {X : Array Value} {rb ob : Nat} {en : S → ByteArray} {ok : S → Prop} {d : S → Nat → S} {K : Nat} {x : S} {acc : S → Bool} {i c : Nat} {m : List S} {n : List Nat} {vm vn va vn' : Value} {f : Nat} {wr w2 : World} {o : Obj} {s : S} (h : OD w X rb ob en ok d K x acc i c m n vm vn va f wr) (hK : c < K) (hk8 : K ≤ 8)
    (hs : m[i]? = some s) (ht : d s c ∈ m) (hg : (wr.alloc o).grownBy w2 vn.ownBlock) (ho : w2.ownsRow w.heap.size 3 1 vn' (n.length + 1) (nC n ++ [.int .i64 (m.idxOf (d s c) : Nat)])) :
    ∃ f', OD w X rb ob en ok d K x acc i (c + 1) m (n ++ [m.idxOf (d s c)]) vm vn' va f' (w2.setCell ⟨ob, 1, none⟩ vn') := by
  obtain ⟨f', rfl⟩ := h.fuel hK hk8 (List.getElem?_eq_some_iff.1 hs).1
  refine ⟨f', h.sd.nxtd hg ho, h.bi.old hK h.nl hs ht, ?_, by have := h.fu; simp; omega, by have := h.nl; simp; omega, h.oks⟩
  rw [← h.go, bgo_old hK h.nl hs ht]
theorem OD.new {S : Type} [DecidableEq S] {w : World} {X : Array Value} {rb ob : Nat} {en : S → ByteArray} {ok : S → Prop} {d : S → Nat → S} {K : Nat} {x : S} {acc : S → Bool} {i c : Nat} {m : List S} {n : List Nat} {vm vn va vm' vn' : Value} {f : Nat} {wr w2 w3 : World} {o o2 : Obj} {s : S} (h : OD w X rb ob en ok d K x acc i c m n vm vn va f wr) (hK : c < K) (hk8 : K ≤ 8) (hok : ok (d s c))
    (hs : m[i]? = some s) (ht : ¬ d s c ∈ m) (hm : m.length ≠ 4096)
    (hg : (wr.alloc o).grownBy w2 vm.ownBlock) (ho : w2.ownsRow w.heap.size 9 1 vm' (m.length + 1) (tC en m ++ [.string (en (d s c))]))
    (hg2 : (w2.alloc o2).grownBy w3 vn.ownBlock) (ho2 : w3.ownsRow w.heap.size 3 1 vn' (n.length + 1) (nC n ++ [.int .i64 (m.length : Nat)])) :
    ∃ f', OD w X rb ob en ok d K x acc i (c + 1) (m ++ [d s c]) (n ++ [m.length]) vm' vn' va f' (w3.setCell ⟨ob, 1, none⟩ vn') := by
  obtain ⟨f', rfl⟩ := h.fuel hK hk8 (List.getElem?_eq_some_iff.1 hs).1
  refine ⟨f', (h.sd.metd hg ho).nxtd hg2 ho2, h.bi.new hK h.nl hs ht hm, ?_, by have := h.fu; simp; omega, by have := h.nl; simp; omega, ?_⟩
  · rw [← h.go, bgo_new hK h.nl hs ht hm]
  · intro t ht2
    rcases List.mem_append.1 ht2 with ht2 | ht2
    · exact h.oks t ht2
    · simp at ht2; subst ht2; exact hok
theorem OD.next {S : Type} [DecidableEq S] {w : World} {X : Array Value} {rb ob : Nat} {en : S → ByteArray} {ok : S → Prop} {d : S → Nat → S} {K : Nat} {x : S} {acc : S → Bool} {i : Nat} {m : List S} {n : List Nat} {vm vn va va' : Value} {f : Nat} {wr w2 : World} {o : Obj} {s : S} (h : OD w X rb ob en ok d K x acc i K m n vm vn va f wr)
    (hs : m[i]? = some s) (hg : (wr.alloc o).grownBy w2 va.ownBlock) (ho : w2.ownsRow w.heap.size 4 1 va' (i + 1) (bC ((m.take i).map acc) ++ [.bool (acc s)])) :
    OD w X rb ob en ok d K x acc (i + 1) 0 m n vm vn va' f (w2.setCell ⟨ob, 2, none⟩ va') :=
  ⟨h.sd.acpd hs hg ho, h.bi, h.go, h.fu, by rw [h.nl, Nat.add_mul]; omega, h.oks⟩
end Go.Proofs.Ytbfoamidnekoaab
