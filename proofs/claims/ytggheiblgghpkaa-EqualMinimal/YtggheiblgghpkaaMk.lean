/- minim: what inOrder keeps in memory, and the search that it goes through. -/
import Derived.Test.YtggheiblgghpkaaMj
namespace Go.Proofs.Ytggheiblgghpkaa
open Go Go.RowKit Go.Lib
set_option linter.unusedVariables false

structure IM (V : World) (rb ob gn N : Nat) (k : Int) (vm vn va : Value) (r mL nL aL : List Value) (wr : World) : Prop where
  res : wr.heap[rb]? = some (.cells #[.int .i64 0, .slice none 0 0, .slice none 0 0] 25 (0, 0))
  out : wr.heap[ob]? = some (.cells #[.int .i64 k, vn, va] 25 (0, 0))
  nums : wr.ownsRow V.heap.size 3 1 (.slice (some ⟨gn, 0, none⟩) N N) N r
  met : wr.ownsRow V.heap.size 3 1 vm mL.length mL
  nxt : wr.ownsRow V.heap.size 3 1 vn nL.length nL
  acp : wr.ownsRow V.heap.size 4 1 va aL.length aL
  a1 : vm.ownBlock ≠ some gn
  a2 : vn.ownBlock ≠ some gn
  a3 : ∀ b, vm.ownBlock = some b → vn.ownBlock ≠ some b
  below : Below V.heap.size V wr
  ol : V.heap.size ≤ ob
  rl : V.heap.size ≤ rb
  ne : rb ≠ ob
theorem IM.call {V : World} {rb ob gn N : Nat} {k : Int} {vm vn va : Value} {r mL nL aL : List Value} {wr w2 : World} (h : IM V rb ob gn N k vm vn va r mL nL aL wr) (hb : Below wr.heap.size wr w2) : IM V rb ob gn N k vm vn va r mL nL aL w2 :=
  ⟨(hb.block _ (Array.getElem?_eq_some_iff.1 h.res).1).trans h.res, (hb.block _ (Array.getElem?_eq_some_iff.1 h.out).1).trans h.out, own_below h.nums hb, own_below h.met hb, own_below h.nxt hb, own_below h.acp hb, h.a1, h.a2, h.a3, go_on h.below hb, h.ol, h.rl, h.ne⟩
theorem IM.numBlk {V : World} {rb ob gn N : Nat} {k : Int} {vm vn va : Value} {r mL nL aL : List Value} {wr : World} (h : IM V rb ob gn N k vm vn va r mL nL aL wr) : V.heap.size ≤ gn ∧ ∃ cur, wr.heap[gn]? = some (.cells cur 3 (0, 0)) := own_blk h.nums rfl
theorem IM.num {V : World} {rb ob gn N : Nat} {k : Int} {vm vn va : Value} {r mL nL aL : List Value} {wr : World} (h : IM V rb ob gn N k vm vn va r mL nL aL wr) (j : Nat) (x : Value) : IM V rb ob gn N k vm vn va (r.set j x) mL nL aL (wr.setCell ⟨gn, j, none⟩ x) := by
  obtain ⟨hlo, cur, hg⟩ := h.numBlk
  have so : ∀ (b : Nat) (O : Obj), wr.heap[b]? = some O → (∀ cur : Array Value, O ≠ Obj.cells cur 3 (0, 0)) → (wr.setCell ⟨gn, j, none⟩ x).heap[b]? = wr.heap[b]? := fun b O hb hne => heap_set_other (fun e => by
    rw [e, hg, Option.some.injEq] at hb
    exact hne _ hb.symm)
  refine ⟨(so _ _ h.res (fun cur e => by injection e with _ e _; cases e)).trans h.res, (so _ _ h.out (fun cur e => by injection e with _ e _; cases e)).trans h.out, (h.nums.stored j x).1, own_keep h.met (fun b cur hb _ => heap_set_other (fun e => h.a1 (e ▸ hb))), own_keep h.nxt (fun b cur hb _ => heap_set_other (fun e => h.a2 (e ▸ hb))), own_keep h.acp (fun b cur hb hc => so b _ hc (fun cur' e => by injection e with _ e _; cases e)), h.a1, h.a2, h.a3, h.below.setCell (p := ⟨gn, j, none⟩) hlo _, h.ol, h.rl, h.ne⟩
theorem IM.metd {V : World} {rb ob gn N : Nat} {k : Int} {vm vn va vm' : Value} {r mL nL aL : List Value} {wr w2 : World} {o : Obj} {x : Value} (h : IM V rb ob gn N k vm vn va r mL nL aL wr) (hg : (wr.alloc o).grownBy w2 vm.ownBlock) (ho : w2.ownsRow V.heap.size 3 1 vm' (mL.length + 1) (mL ++ [x])) (hl : vm'.ownBlock = vm.ownBlock ∨ vm'.ownBlock = some (wr.alloc o).heap.size) :
    IM V rb ob gn N k vm' vn va r (mL ++ [x]) nL aL w2 := by
  obtain ⟨hlo, cur, hgn⟩ := h.numBlk
  have hgl := (Array.getElem?_eq_some_iff.1 hgn).1
  have k' : ∀ b, b < wr.heap.size → vm.ownBlock ≠ some b → w2.heap[b]? = wr.heap[b]? := fun b hlt hne => by
    rw [hg.block b (by simp; omega) (fun e => hne e.symm)]
    exact (below_new wr o).block b hlt
  have kt : ∀ (b : Nat) (O : Obj), wr.heap[b]? = some O → (∀ cur : Array Value, O ≠ Obj.cells cur 3 (0, 0)) → w2.heap[b]? = wr.heap[b]? := fun b O hb hne => k' b (Array.getElem?_eq_some_iff.1 hb).1 (fun e => by
    obtain ⟨_, cur, hc⟩ := own_blk h.met e
    rw [hc, Option.some.injEq] at hb
    exact hne cur hb.symm)
  refine ⟨(kt _ _ h.res (fun cur e => by injection e with _ e _; cases e)).trans h.res, (kt _ _ h.out (fun cur e => by injection e with _ e _; cases e)).trans h.out, own_keep h.nums (fun b cur hb hc => k' b (Array.getElem?_eq_some_iff.1 hc).1 (fun e => h.a1 (by simp only [Value.ownBlock, Option.some.injEq] at hb; rw [hb]; exact e))), by simpa using ho, own_keep h.nxt (fun b cur hb hc => k' b (Array.getElem?_eq_some_iff.1 hc).1 (fun e => h.a3 b e hb)), own_keep h.acp (fun b cur hb hc => kt b _ hc (fun cur' e => by injection e with _ e _; cases e)), ?_, h.a2, ?_, ?_, h.ol, h.rl, h.ne⟩
  · rcases hl with hl | hl
    · rw [hl]; exact h.a1
    · rw [hl]; simp; omega
  · intro b hb hn
    rcases hl with hl | hl
    · exact h.a3 b (hl ▸ hb) hn
    · rw [hl] at hb
      have := (h.nxt.lt b hn).2
      simp at hb
      omega
  · exact (h.below.alloc (by have := h.below.size; omega) o).grown hg (by have := h.below.size; simp; omega) (fun b hb => (h.met.lt b hb).1)
theorem IM.nxtd {V : World} {rb ob gn N : Nat} {k : Int} {vm vn va vn' : Value} {r mL nL aL : List Value} {wr w2 : World} {o : Obj} {x : Value} (h : IM V rb ob gn N k vm vn va r mL nL aL wr) (hg : (wr.alloc o).grownBy w2 vn.ownBlock) (ho : w2.ownsRow V.heap.size 3 1 vn' (nL.length + 1) (nL ++ [x])) (hl : vn'.ownBlock = vn.ownBlock ∨ vn'.ownBlock = some (wr.alloc o).heap.size) :
    w2.heap[ob]? = some (.cells #[.int .i64 k, vn, va] 25 (0, 0)) ∧ IM V rb ob gn N k vm vn' va r mL (nL ++ [x]) aL (w2.setCell ⟨ob, 1, none⟩ vn') := by
  obtain ⟨hlo, cur, hgn⟩ := h.numBlk
  have hgl := (Array.getElem?_eq_some_iff.1 hgn).1
  have k' : ∀ b, b < wr.heap.size → vn.ownBlock ≠ some b → w2.heap[b]? = wr.heap[b]? := fun b hlt hne => by
    rw [hg.block b (by simp; omega) (fun e => hne e.symm)]
    exact (below_new wr o).block b hlt
  have kt : ∀ (b : Nat) (O : Obj), wr.heap[b]? = some O → (∀ cur : Array Value, O ≠ Obj.cells cur 3 (0, 0)) → w2.heap[b]? = wr.heap[b]? := fun b O hb hne => k' b (Array.getElem?_eq_some_iff.1 hb).1 (fun e => by
    obtain ⟨_, cur, hc⟩ := own_blk h.nxt e
    rw [hc, Option.some.injEq] at hb
    exact hne cur hb.symm)
  have hob := (kt _ _ h.out (fun cur e => by injection e with _ e _; cases e)).trans h.out
  have so : ∀ (b : Nat) (cur : Array Value) (e : TypeId), w2.heap[b]? = some (.cells cur e (0, 0)) → e ≠ 25 → (w2.setCell ⟨ob, 1, none⟩ vn').heap[b]? = w2.heap[b]? := fun b cur e hb hne => heap_set_other (fun q => by rw [q, hob] at hb; simp at hb; exact hne hb.2.symm)
  have n1 : w2.ownsRow V.heap.size 3 1 (.slice (some ⟨gn, 0, none⟩) N N) N r := own_keep h.nums (fun b cur hb hc => k' b (Array.getElem?_eq_some_iff.1 hc).1 (fun e => h.a2 (by simp only [Value.ownBlock, Option.some.injEq] at hb; rw [hb]; exact e)))
  have n2 : w2.ownsRow V.heap.size 3 1 vm mL.length mL := own_keep h.met (fun b cur hb hc => k' b (Array.getElem?_eq_some_iff.1 hc).1 (fun e => h.a3 b hb e))
  have n3 : w2.ownsRow V.heap.size 4 1 va aL.length aL := own_keep h.acp (fun b cur hb hc => kt b _ hc (fun cur' e => by injection e with _ e _; cases e))
  refine ⟨hob, ?_, heap_set hob, own_keep n1 (fun b cur _ hc => so b cur _ hc (by decide)), own_keep n2 (fun b cur _ hc => so b cur _ hc (by decide)), ?_, own_keep n3 (fun b cur _ hc => so b cur _ hc (by decide)), h.a1, ?_, ?_, ?_, h.ol, h.rl, h.ne⟩
  · rw [heap_set_other h.ne]
    exact (kt _ _ h.res (fun cur e => by injection e with _ e _; cases e)).trans h.res
  · have := own_keep (w' := w2.setCell ⟨ob, 1, none⟩ vn') ho (fun b cur _ hc => so b cur _ hc (by decide))
    simpa using this
  · rcases hl with hl | hl
    · rw [hl]; exact h.a2
    · rw [hl]; simp; omega
  · intro b hb hn
    rcases hl with hl | hl
    · exact h.a3 b hb (hl ▸ hn)
    · rw [hl] at hn
      have := (h.met.lt b hb).2
      simp at hn
      omega
  · exact ((h.below.alloc (by have := h.below.size; omega) o).grown hg (by have := h.below.size; simp; omega) (fun b hb => (h.nxt.lt b hb).1)).setCell (p := ⟨ob, 1, none⟩) h.ol _
theorem IM.acpd {V : World} {rb ob gn N : Nat} {k : Int} {vm vn va va' : Value} {r mL nL aL : List Value} {wr w2 : World} {o : Obj} {x : Value} (h : IM V rb ob gn N k vm vn va r mL nL aL wr) (hg : (wr.alloc o).grownBy w2 va.ownBlock) (ho : w2.ownsRow V.heap.size 4 1 va' (aL.length + 1) (aL ++ [x])) :
    w2.heap[ob]? = some (.cells #[.int .i64 k, vn, va] 25 (0, 0)) ∧ IM V rb ob gn N k vm vn va' r mL nL (aL ++ [x]) (w2.setCell ⟨ob, 2, none⟩ va') := by
  have k' : ∀ b, b < wr.heap.size → va.ownBlock ≠ some b → w2.heap[b]? = wr.heap[b]? := fun b hlt hne => by
    rw [hg.block b (by simp; omega) (fun e => hne e.symm)]
    exact (below_new wr o).block b hlt
  have kt : ∀ (b : Nat) (O : Obj), wr.heap[b]? = some O → (∀ cur : Array Value, O ≠ Obj.cells cur 4 (0, 0)) → w2.heap[b]? = wr.heap[b]? := fun b O hb hne => k' b (Array.getElem?_eq_some_iff.1 hb).1 (fun e => by
    obtain ⟨_, cur, hc⟩ := own_blk h.acp e
    rw [hc, Option.some.injEq] at hb
    exact hne cur hb.symm)
  have hob := (kt _ _ h.out (fun cur e => by injection e with _ e _; cases e)).trans h.out
  have so : ∀ (b : Nat) (cur : Array Value) (e : TypeId), w2.heap[b]? = some (.cells cur e (0, 0)) → e ≠ 25 → (w2.setCell ⟨ob, 2, none⟩ va').heap[b]? = w2.heap[b]? := fun b cur e hb hne => heap_set_other (fun q => by rw [q, hob] at hb; simp at hb; exact hne hb.2.symm)
  have ki : ∀ (v : Value) (n : Nat) (L : List Value), wr.ownsRow V.heap.size 3 1 v n L → (w2.setCell ⟨ob, 2, none⟩ va').ownsRow V.heap.size 3 1 v n L := fun v n L hv => own_keep (own_keep (w' := w2) hv (fun b cur hb hc => kt b _ hc (fun cur' e => by injection e with _ e _; cases e))) (fun b cur _ hc => so b cur _ hc (by decide))
  refine ⟨hob, ?_, heap_set hob, ki _ _ _ h.nums, ki _ _ _ h.met, ki _ _ _ h.nxt, ?_, h.a1, h.a2, h.a3, ?_, h.ol, h.rl, h.ne⟩
  · rw [heap_set_other h.ne]
    exact (kt _ _ h.res (fun cur e => by injection e with _ e _; cases e)).trans h.res
  · have := own_keep (w' := w2.setCell ⟨ob, 2, none⟩ va') ho (fun b cur _ hc => so b cur _ hc (by decide))
    simpa using this
  · exact ((h.below.alloc (by have := h.below.size; omega) o).grown hg (by have := h.below.size; simp; omega) (fun b hb => (h.acp.lt b hb).1)).setCell (p := ⟨ob, 2, none⟩) h.ol _
/-- The numbers of the classes that were met. -/
def nmI (m : List Nat) (t : Nat) : Int := if t ∈ m then (m.idxOf t : Int) else -1
def nmC (m : List Nat) (N : Nat) : List Value := (List.range N).map fun t => .int .i64 (nmI m t)
theorem nmC_at {m : List Nat} {N t : Nat} (h : t < N) : (nmC m N)[t]? = some (.int .i64 (nmI m t)) := by simp [nmC, h]
theorem nmC_set {m : List Nat} {N t : Nat} (h : t < N) (hm : t ∉ m) : (nmC m N).set t (.int .i64 (m.length : Nat)) = nmC (m ++ [t]) N := by
  apply List.ext_getElem?
  intro j
  rw [List.getElem?_set]
  by_cases e : t = j
  · subst e
    rw [if_pos rfl, if_pos (by simpa [nmC] using h), nmC_at h]
    unfold nmI
    rw [if_pos (by simp), List.idxOf_append, if_neg hm]
    simp
  · rw [if_neg e]
    by_cases hj : j < N
    · rw [nmC_at hj, nmC_at hj]
      unfold nmI
      by_cases q : j ∈ m
      · rw [if_pos q, if_pos (by simp [q]), List.idxOf_append, if_pos q]
      · rw [if_neg q, if_neg (by simp [q]; exact fun x => e x.symm)]
    · rw [List.getElem?_eq_none (by simp [nmC]; omega), List.getElem?_eq_none (by simp [nmC]; omega)]
theorem nmC_first {N : Nat} (h : 0 < N) : (List.replicate N (Value.int .i64 (-1))).set 0 (.int .i64 0) = nmC [0] N := by
  apply List.ext_getElem?
  intro j
  rw [List.getElem?_set]
  by_cases e : 0 = j
  · subst e
    rw [if_pos rfl, if_pos (by simpa using h), nmC_at h]
    rfl
  · rw [if_neg e]
    by_cases hj : j < N
    · rw [nmC_at hj, List.getElem?_replicate, if_pos hj]
      unfold nmI
      rw [if_neg (by simp; omega)]
    · rw [List.getElem?_eq_none (by simp; omega), List.getElem?_eq_none (by simp [nmC]; omega)]
/-- Where a letter leads among the classes. -/
def dC (A : Aut) (l : List Nat) (s c : Nat) : Nat := l.getD (dN A s c) 0
/-- How far the search has come. -/
structure IP (A : Aut) (l : List Nat) (K i c : Nat) (m n : List Nat) (f : Nat) : Prop where
  bi : BI (dC A l) K 0 m n
  go : bgo (dC A l) K f m n = bfs (dC A l) K 0
  fu : f + n.length = 32768
  nl : n.length = i * K + c
  oks : ∀ s ∈ m, s < A.ac.length
theorem IP.start (A : Aut) (l : List Nat) (K : Nat) (h : 0 < A.ac.length) : IP A l K 0 0 [0] [] 32768 := ⟨BI.start _ _ _, rfl, rfl, by simp, fun s hs => by simp at hs; omega⟩
theorem IP.fuel {A : Aut} {l : List Nat} {K i c : Nat} {m n : List Nat} {f : Nat} (h : IP A l K i c m n f) (hK : c < K) (hk8 : K ≤ 8) (hi : i < m.length) : ∃ f', f = f' + 1 := by
  cases f with
  | succ f => exact ⟨f, rfl⟩
  | zero =>
    have h1 := h.fu
    have h2 := h.nl
    have h3 := h.bi.most
    have h4 := Nat.mul_le_mul_right K (show i + 1 ≤ 4096 by omega)
    have h5 := Nat.mul_le_mul_left 4096 hk8
    rw [Nat.add_mul] at h4
    omega
theorem IP.old {A : Aut} {l : List Nat} {K i c : Nat} {m n : List Nat} {f s : Nat} (h : IP A l K i c m n f) (hK : c < K) (hk8 : K ≤ 8) (hs : m[i]? = some s) (ht : dC A l s c ∈ m) : ∃ f', IP A l K i (c + 1) m (n ++ [m.idxOf (dC A l s c)]) f' := by
  obtain ⟨f', rfl⟩ := h.fuel hK hk8 (List.getElem?_eq_some_iff.1 hs).1
  exact ⟨f', h.bi.old hK h.nl hs ht, by rw [← h.go, bgo_old hK h.nl hs ht], by have := h.fu; simp; omega, by have := h.nl; simp; omega, h.oks⟩
theorem nodup_lt (N : Nat) : ∀ (m : List Nat), m.Nodup → (∀ s ∈ m, s < N) → m.length ≤ N := fun m h1 h2 => nodup_small N m h1 h2
theorem IP.new {A : Aut} {l : List Nat} {K i c : Nat} {m n : List Nat} {f s : Nat} (h : IP A l K i c m n f) (hK : c < K) (hk8 : K ≤ 8) (hN : A.ac.length ≤ 4096) (hs : m[i]? = some s) (ht : ¬ dC A l s c ∈ m) (hl : dC A l s c < A.ac.length) : ∃ f', IP A l K i (c + 1) (m ++ [dC A l s c]) (n ++ [m.length]) f' := by
  obtain ⟨f', rfl⟩ := h.fuel hK hk8 (List.getElem?_eq_some_iff.1 hs).1
  have hm : m.length ≠ 4096 := by
    have h1 : (m ++ [dC A l s c]).length ≤ A.ac.length := nodup_lt _ _ (by
      rw [List.nodup_append]
      refine ⟨h.bi.nodup, by simp, fun a ha b hb e => ?_⟩
      simp at hb
      subst hb
      subst e
      exact ht ha) (fun x hx => by
        rcases List.mem_append.1 hx with q | q
        · exact h.oks x q
        · simp at q; rw [q]; exact hl)
    simp at h1
    omega
  refine ⟨f', h.bi.new hK h.nl hs ht hm, by rw [← h.go, bgo_new hK h.nl hs ht hm], by have := h.fu; simp; omega, by have := h.nl; simp; omega, fun x hx => ?_⟩
  rcases List.mem_append.1 hx with q | q
  · exact h.oks x q
  · simp at q; rw [q]; exact hl
theorem IP.next {A : Aut} {l : List Nat} {K i : Nat} {m n : List Nat} {f : Nat} (h : IP A l K i K m n f) : IP A l K (i + 1) 0 m n f := ⟨h.bi, h.go, h.fu, by rw [h.nl, Nat.add_mul]; omega, h.oks⟩
end Go.Proofs.Ytggheiblgghpkaa
