/- The document's Minimal: what it keeps in memory. The document's Minimal. The document's Is. -/
import Derived.Test.YthjenemmhlljfaaMy
import Derived.Test.YthjenemmhlljfaaMt
import Derived.Deep.RegionHeld3
import Derived.Deep.AppendLies
import Derived.Deep.DeepCutAuto
namespace Go.Proofs.Ythjenemmhlljfaa
open Go Go.RowKit Go.Lib
set_option linter.unusedVariables false

structure IN (V : World) (ob gn N : Nat) (k : Int) (vm vn va : Value) (r mL nL aL : List Value) (wr : World) : Prop where
  out : wr.heap[ob]? = some (.cells #[.int .i64 k, vn, va] 25 (0, 0))
  nums : wr.ownsRow V.heap.size 3 1 (.slice (some ⟨gn, 0, none⟩) N N) N r
  met : wr.ownsRow V.heap.size 3 1 vm mL.length mL
  nxt : wr.ownsRow V.heap.size 3 1 vn nL.length nL
  acp : wr.ownsRow V.heap.size 4 1 va aL.length aL
  a1 : vm.ownBlock ≠ some gn
  a2 : vn.ownBlock ≠ some gn
  a3 : ∀ b, vm.ownBlock = some b → vn.ownBlock ≠ some b
  below : Below V.heap.size V wr
  ol : V.heap.size ≤ ob
theorem IN.call {V : World} {ob gn N : Nat} {k : Int} {vm vn va : Value} {r mL nL aL : List Value} {wr w2 : World} (h : IN V ob gn N k vm vn va r mL nL aL wr) (hb : Below wr.heap.size wr w2) : IN V ob gn N k vm vn va r mL nL aL w2 :=
  ⟨(hb.block _ (Array.getElem?_eq_some_iff.1 h.out).1).trans h.out, own_below h.nums hb, own_below h.met hb, own_below h.nxt hb, own_below h.acp hb, h.a1, h.a2, h.a3, go_on h.below hb, h.ol⟩
theorem IN.numBlk {V : World} {ob gn N : Nat} {k : Int} {vm vn va : Value} {r mL nL aL : List Value} {wr : World} (h : IN V ob gn N k vm vn va r mL nL aL wr) : V.heap.size ≤ gn ∧ ∃ cur, wr.heap[gn]? = some (.cells cur 3 (0, 0)) := own_blk h.nums rfl
theorem IN.num {V : World} {ob gn N : Nat} {k : Int} {vm vn va : Value} {r mL nL aL : List Value} {wr : World} (h : IN V ob gn N k vm vn va r mL nL aL wr) (j : Nat) (x : Value) : IN V ob gn N k vm vn va (r.set j x) mL nL aL (wr.setCell ⟨gn, j, none⟩ x) := by
  obtain ⟨hlo, cur, hg⟩ := h.numBlk
  have so : ∀ (b : Nat) (O : Obj), wr.heap[b]? = some O → (∀ cur : Array Value, O ≠ Obj.cells cur 3 (0, 0)) → (wr.setCell ⟨gn, j, none⟩ x).heap[b]? = wr.heap[b]? := fun b O hb hne => heap_set_other (fun e => by
    rw [e, hg, Option.some.injEq] at hb
    exact hne _ hb.symm)
  refine ⟨(so _ _ h.out (fun cur e => by injection e with _ e _; cases e)).trans h.out, (h.nums.stored j x).1, own_keep h.met (fun b cur hb _ => heap_set_other (fun e => h.a1 (e ▸ hb))), own_keep h.nxt (fun b cur hb _ => heap_set_other (fun e => h.a2 (e ▸ hb))), own_keep h.acp (fun b cur hb hc => so b _ hc (fun cur' e => by injection e with _ e _; cases e)), h.a1, h.a2, h.a3, h.below.setCell (p := ⟨gn, j, none⟩) hlo _, h.ol⟩
theorem IN.metd {V : World} {ob gn N : Nat} {k : Int} {vm vn va vm' : Value} {r mL nL aL : List Value} {wr w2 : World} {o : Obj} {x : Value} (h : IN V ob gn N k vm vn va r mL nL aL wr) (hg : (wr.alloc o).grownBy w2 vm.ownBlock) (ho : w2.ownsRow V.heap.size 3 1 vm' (mL.length + 1) (mL ++ [x])) (hl : vm'.ownBlock = vm.ownBlock ∨ vm'.ownBlock = some (wr.alloc o).heap.size) :
    IN V ob gn N k vm' vn va r (mL ++ [x]) nL aL w2 := by
  obtain ⟨hlo, cur, hgn⟩ := h.numBlk
  have hgl := (Array.getElem?_eq_some_iff.1 hgn).1
  have k' : ∀ b, b < wr.heap.size → vm.ownBlock ≠ some b → w2.heap[b]? = wr.heap[b]? := fun b hlt hne => by
    rw [hg.block b (by simp; omega) (fun e => hne e.symm)]
    exact (below_new wr o).block b hlt
  have kt : ∀ (b : Nat) (O : Obj), wr.heap[b]? = some O → (∀ cur : Array Value, O ≠ Obj.cells cur 3 (0, 0)) → w2.heap[b]? = wr.heap[b]? := fun b O hb hne => k' b (Array.getElem?_eq_some_iff.1 hb).1 (fun e => by
    obtain ⟨_, cur, hc⟩ := own_blk h.met e
    rw [hc, Option.some.injEq] at hb
    exact hne cur hb.symm)
  refine ⟨(kt _ _ h.out (fun cur e => by injection e with _ e _; cases e)).trans h.out, own_keep h.nums (fun b cur hb hc => k' b (Array.getElem?_eq_some_iff.1 hc).1 (fun e => h.a1 (by simp only [Value.ownBlock, Option.some.injEq] at hb; rw [hb]; exact e))), by simpa using ho, own_keep h.nxt (fun b cur hb hc => k' b (Array.getElem?_eq_some_iff.1 hc).1 (fun e => h.a3 b e hb)), own_keep h.acp (fun b cur hb hc => kt b _ hc (fun cur' e => by injection e with _ e _; cases e)), ?_, h.a2, ?_, ?_, h.ol⟩
  · rcases hl with hl | hl
    · rw [hl]; exact h.a1
    · rw [hl]; simp; omega
  · intro b hb hn
    rcases hl with hl | hl
    · exact h.a3 b (hl ▸ hb) hn
    · rw [hl] at hb
      have := (h.nxt.lt b hn).2
      simp at hb
      omega
  · exact (h.below.alloc (by have := h.below.size; omega) o).grown hg (by have := h.below.size; simp; omega) (fun b hb => (h.met.lt b hb).1)
theorem IN.nxtd {V : World} {ob gn N : Nat} {k : Int} {vm vn va vn' : Value} {r mL nL aL : List Value} {wr w2 : World} {o : Obj} {x : Value} (h : IN V ob gn N k vm vn va r mL nL aL wr) (hg : (wr.alloc o).grownBy w2 vn.ownBlock) (ho : w2.ownsRow V.heap.size 3 1 vn' (nL.length + 1) (nL ++ [x])) (hl : vn'.ownBlock = vn.ownBlock ∨ vn'.ownBlock = some (wr.alloc o).heap.size) :
    w2.heap[ob]? = some (.cells #[.int .i64 k, vn, va] 25 (0, 0)) ∧ IN V ob gn N k vm vn' va r mL (nL ++ [x]) aL (w2.setCell ⟨ob, 1, none⟩ vn') := by
  obtain ⟨hlo, cur, hgn⟩ := h.numBlk
  have hgl := (Array.getElem?_eq_some_iff.1 hgn).1
  have k' : ∀ b, b < wr.heap.size → vn.ownBlock ≠ some b → w2.heap[b]? = wr.heap[b]? := fun b hlt hne => by
    rw [hg.block b (by simp; omega) (fun e => hne e.symm)]
    exact (below_new wr o).block b hlt
  have kt : ∀ (b : Nat) (O : Obj), wr.heap[b]? = some O → (∀ cur : Array Value, O ≠ Obj.cells cur 3 (0, 0)) → w2.heap[b]? = wr.heap[b]? := fun b O hb hne => k' b (Array.getElem?_eq_some_iff.1 hb).1 (fun e => by
    obtain ⟨_, cur, hc⟩ := own_blk h.nxt e
    rw [hc, Option.some.injEq] at hb
    exact hne cur hb.symm)
  have hob := (kt _ _ h.out (fun cur e => by injection e with _ e _; cases e)).trans h.out
  have so : ∀ (b : Nat) (cur : Array Value) (e : TypeId), w2.heap[b]? = some (.cells cur e (0, 0)) → e ≠ 25 → (w2.setCell ⟨ob, 1, none⟩ vn').heap[b]? = w2.heap[b]? := fun b cur e hb hne => heap_set_other (fun q => by rw [q, hob] at hb; simp at hb; exact hne hb.2.symm)
  have n1 : w2.ownsRow V.heap.size 3 1 (.slice (some ⟨gn, 0, none⟩) N N) N r := own_keep h.nums (fun b cur hb hc => k' b (Array.getElem?_eq_some_iff.1 hc).1 (fun e => h.a2 (by simp only [Value.ownBlock, Option.some.injEq] at hb; rw [hb]; exact e)))
  have n2 : w2.ownsRow V.heap.size 3 1 vm mL.length mL := own_keep h.met (fun b cur hb hc => k' b (Array.getElem?_eq_some_iff.1 hc).1 (fun e => h.a3 b hb e))
  have n3 : w2.ownsRow V.heap.size 4 1 va aL.length aL := own_keep h.acp (fun b cur hb hc => kt b _ hc (fun cur' e => by injection e with _ e _; cases e))
  refine ⟨hob, heap_set hob, own_keep n1 (fun b cur _ hc => so b cur _ hc (by decide)), own_keep n2 (fun b cur _ hc => so b cur _ hc (by decide)), ?_, own_keep n3 (fun b cur _ hc => so b cur _ hc (by decide)), h.a1, ?_, ?_, ?_, h.ol⟩
  · have := own_keep (w' := w2.setCell ⟨ob, 1, none⟩ vn') ho (fun b cur _ hc => so b cur _ hc (by decide))
    simpa using this
  · rcases hl with hl | hl
    · rw [hl]; exact h.a2
    · rw [hl]; simp; omega
  · intro b hb hn
    rcases hl with hl | hl
    · exact h.a3 b hb (hl ▸ hn)
    · rw [hl] at hn
      have := (h.met.lt b hb).2
      simp at hn
      omega
  · exact ((h.below.alloc (by have := h.below.size; omega) o).grown hg (by have := h.below.size; simp; omega) (fun b hb => (h.nxt.lt b hb).1)).setCell (p := ⟨ob, 1, none⟩) h.ol _
theorem IN.acpd {V : World} {ob gn N : Nat} {k : Int} {vm vn va va' : Value} {r mL nL aL : List Value} {wr w2 : World} {o : Obj} {x : Value} (h : IN V ob gn N k vm vn va r mL nL aL wr) (hg : (wr.alloc o).grownBy w2 va.ownBlock) (ho : w2.ownsRow V.heap.size 4 1 va' (aL.length + 1) (aL ++ [x])) :
    w2.heap[ob]? = some (.cells #[.int .i64 k, vn, va] 25 (0, 0)) ∧ IN V ob gn N k vm vn va' r mL nL (aL ++ [x]) (w2.setCell ⟨ob, 2, none⟩ va') := by
  have k' : ∀ b, b < wr.heap.size → va.ownBlock ≠ some b → w2.heap[b]? = wr.heap[b]? := fun b hlt hne => by
    rw [hg.block b (by simp; omega) (fun e => hne e.symm)]
    exact (below_new wr o).block b hlt
  have kt : ∀ (b : Nat) (O : Obj), wr.heap[b]? = some O → (∀ cur : Array Value, O ≠ Obj.cells cur 4 (0, 0)) → w2.heap[b]? = wr.heap[b]? := fun b O hb hne => k' b (Array.getElem?_eq_some_iff.1 hb).1 (fun e => by
    obtain ⟨_, cur, hc⟩ := own_blk h.acp e
    rw [hc, Option.some.injEq] at hb
    exact hne cur hb.symm)
  have hob := (kt _ _ h.out (fun cur e => by injection e with _ e _; cases e)).trans h.out
  have so : ∀ (b : Nat) (cur : Array Value) (e : TypeId), w2.heap[b]? = some (.cells cur e (0, 0)) → e ≠ 25 → (w2.setCell ⟨ob, 2, none⟩ va').heap[b]? = w2.heap[b]? := fun b cur e hb hne => heap_set_other (fun q => by rw [q, hob] at hb; simp at hb; exact hne hb.2.symm)
  have ki : ∀ (v : Value) (n : Nat) (L : List Value), wr.ownsRow V.heap.size 3 1 v n L → (w2.setCell ⟨ob, 2, none⟩ va').ownsRow V.heap.size 3 1 v n L := fun v n L hv => own_keep (own_keep (w' := w2) hv (fun b cur hb hc => kt b _ hc (fun cur' e => by injection e with _ e _; cases e))) (fun b cur _ hc => so b cur _ hc (by decide))
  refine ⟨hob, heap_set hob, ki _ _ _ h.nums, ki _ _ _ h.met, ki _ _ _ h.nxt, ?_, h.a1, h.a2, h.a3, ?_, h.ol⟩
  · have := own_keep (w' := w2.setCell ⟨ob, 2, none⟩ va') ho (fun b cur _ hc => so b cur _ hc (by decide))
    simpa using this
  · exact ((h.below.alloc (by have := h.below.size; omega) o).grown hg (by have := h.below.size; simp; omega) (fun b hb => (h.acp.lt b hb).1)).setCell (p := ⟨ob, 2, none⟩) h.ol _
end Go.Proofs.Ythjenemmhlljfaa

namespace Go.Proofs.Ythjenemmhlljfaa
open Go Go.RowKit Go.Lib
set_option linter.unusedVariables false

theorem made_cell0 (w : World) (n : Nat) (t : TypeId) (h : 0 < n) (O : Obj) : ((w.alloc (.cells (madeCells #[.int .i64 0] n) 3)).alloc O).cell? ⟨w.heap.size, 0, none⟩ = some (.int .i64 0) ∧ ((w.alloc (.cells (madeCells #[.int .i64 0] n) 3)).alloc O).frozen? ⟨w.heap.size, 0, none⟩ = false ∧ True := by
  have hb := heap_alloc_last w (.cells (madeCells #[.int .i64 0] n) 3)
  have hb2 := ((below_new (w.alloc (.cells (madeCells #[.int .i64 0] n) 3)) O).block _ (by simp)).trans hb
  refine ⟨?_, froz_of hb2, trivial⟩
  rw [cell_of hb2]
  cases n with
  | zero => omega
  | succ n => simp [madeCells]

theorem set_new2 (w : World) (cur : Array Value) (t : TypeId) (O : Obj) (x : Value) : ((w.alloc (.cells cur t)).alloc O).setCell ⟨w.heap.size, 0, none⟩ x = (w.alloc (.cells (cur.setIfInBounds 0 x) t)).alloc O := by
  unfold World.setCell World.alloc
  congr 1
  apply Array.ext
  · simp
  · intro i h1 h2
    simp only [Array.getElem_modify, Array.getElem_push]
    by_cases e : w.heap.size = i
    · subst e; simp
    · rw [if_neg e]
      simp only [Array.size_push, Array.size_modify] at h1 ⊢
      split <;> first | rfl | (split <;> first | rfl | (exfalso; omega))

set_option maxHeartbeats 8000000 in
set_option maxRecDepth 100000 in
theorem rminimal_any (v : Value) (A : Aut) (w : World) (h : AR w v A) (hm : A.nx.length ≤ 9223372036854775806) (hm2 : A.ac.length ≤ 9223372036854775806) :
    Calls Try.prog 20 #[v] w (MQ (mnA A) (mnT A) (chkA A) w) := by
  obtain ⟨an, cn, aa, ca, e, k1, k2⟩ := h.is
  have HAR : Hid (∀ y, Below w.heap.size w y → AR y v A) := fun y hy => h.stay hy
  have K1 : Hid (∀ y, Below w.heap.size w y → SR y an (zC A.nx)) := fun y hy => k1.stay hy
  have K2 : Hid (∀ y, Below w.heap.size w y → SR y aa (bC A.ac)) := fun y hy => k2.stay hy
  obtain ⟨i0, hi, hz0, hz1, hz2⟩ := info_parts Try.info_int
  obtain ⟨i1, hj, hq0, hq1, hq2⟩ := info_parts Try.info_bool
  subst e
  clear h k1 k2
  obtain ⟨W, hW⟩ : ∃ W, W = (w.alloc (.cells #[.int .i64 A.k, .slice an A.nx.length cn, .slice aa A.ac.length ca] 25)).alloc (.cells #[.int .i64 0, .slice none 0 0, .slice none 0 0] 25) := ⟨_, rfl⟩
  have HRW : Hid (RowAt W w.heap.size #[.int .i64 A.k, .slice an A.nx.length cn, .slice aa A.ac.length ca]) := by show RowAt _ _ _; rw [hW]; exact (RowAt.last _ _ _).alloc _
  have HBW : Hid (Below w.heap.size w W) := by show Below _ _ _; rw [hW]; exact go_on (below_new _ _) (below_new _ _)
  have HRES : Hid (W.heap[w.heap.size + 1]? = some (.cells #[.int .i64 0, .slice none 0 0, .slice none 0 0] 25 (0, 0))) := by
    show W.heap[w.heap.size + 1]? = _
    rw [hW]
    have := heap_alloc_last (w.alloc (.cells #[.int .i64 A.k, .slice an A.nx.length cn, .slice aa A.ac.length ca] 25)) (.cells #[.int .i64 0, .slice none 0 0, .slice none 0 0] 25)
    rw [World.size_alloc] at this
    exact this
  have HWE : Hid (W = (w.alloc (.cells #[.int .i64 A.k, .slice an A.nx.length cn, .slice aa A.ac.length ca] 25)).alloc (.cells #[.int .i64 0, .slice none 0 0, .slice none 0 0] 25)) := hW
  clear hW
  go_enter Try.func20, Try.ntmps20
  go_wp2_with fail
  rw [← HWE.out]
  refine (rclasses_any _ A _ (HAR.out _ HBW.out) hm hm2).mono ?_
  rintro e w1 ⟨vs, rfl, ho1, hb1⟩
  have HB1 : Hid (Below w.heap.size w w1) := go_on HBW.out hb1
  have hres1 := (hb1.block _ (Array.getElem?_eq_some_iff.1 HRES.out).1).trans HRES.out
  have HR1 : Hid (w1.heap[w.heap.size + 1]? = some (.cells #[.int .i64 0, .slice none 0 0, .slice none 0 0] 25 (0, 0))) := hres1
  have HRA' : Hid (RowAt w1 w.heap.size #[.int .i64 A.k, .slice an A.nx.length cn, .slice aa A.ac.length ca]) := HRW.out.stay hb1
  have cs := HRA'.out.cell
  rcases chkA_cases A with ⟨G, hc⟩ | ⟨G, hc⟩
  · have HG : Hid (Good A) := G
    have hn1 := G.n1
    have hn2 := G.n2
    have hcl : clL A = lvl A A.ac.length := by unfold clL; rw [if_pos hc]
    rw [hcl, lvl_len] at ho1
    obtain ⟨g1, c1, rfl⟩ : ∃ g1 c1, vs = .slice (some ⟨g1, 0, none⟩) A.ac.length c1 := by
      rcases ho1.2 with ⟨_, h0⟩ | ⟨g, cap, cur, hv, _⟩
      · omega
      · exact ⟨g, cap, hv⟩
    obtain ⟨l, hle⟩ : ∃ l, lvl A A.ac.length = l := ⟨_, rfl⟩
    have HLE : Hid (lvl A A.ac.length = l) := hle
    have hll : l.length = A.ac.length := by rw [← hle]; exact lvl_len A _
    have HLT : Hid (∀ s, s < A.ac.length → l.getD s 0 < A.ac.length) := fun s hs => by
      have := lvl_lt (A := A) A.ac.length (s := s) (by rw [lvl_len]; exact hs)
      rw [lvl_len, hle] at this
      exact this
    rw [hle] at ho1
    have hsr : SR w1 (some ⟨g1, 0, none⟩) (nC l) := own_sr ho1
    have CL : Hid (∀ y i, Below w1.heap.size w1 y → i < A.ac.length → y.cell? ⟨g1, i, none⟩ = some (.int .i64 (l.getD i 0 : Nat))) := fun y i hy hi => by
      obtain ⟨g', o', e', _, hc'⟩ := (hsr.stay hy).nat (i := i) (by omega)
      simp only [Option.some.injEq, Addr.mk.injEq] at e'
      obtain ⟨rfl, rfl, _⟩ := e'
      rw [Nat.zero_add] at hc'
      exact hc'
    obtain ⟨ga, oa, rfl, _, _⟩ := (K2.out w (Below.refl _ _)).bool (i := 0) (by omega)
    obtain ⟨gx, ox, rfl, _, _⟩ := (K1.out w (Below.refl _ _)).int (i := 0) (by have := (G.at (s := 0) (c := 0) (by omega) (by have := G.k1; omega)).1; omega)
    have CA : Hid (∀ y i, Below w1.heap.size w1 y → i < A.ac.length → y.cell? ⟨ga, oa + i, none⟩ = some (.bool (A.ac.getD i false))) := fun y i hy hi => by
      obtain ⟨g', o', e', _, hc'⟩ := (K2.out y (go_on HB1.out hy)).bool hi
      simp only [Option.some.injEq, Addr.mk.injEq] at e'
      obtain ⟨rfl, rfl, _⟩ := e'
      exact hc'
    have CN : Hid (∀ y i, Below w1.heap.size w1 y → i < A.nx.length → y.cell? ⟨gx, ox + i, none⟩ = some (.int .i64 (A.nx.getD i 0))) := fun y i hy hi => by
      obtain ⟨g', o', e', _, hc'⟩ := (K1.out y (go_on HB1.out hy)).int hi
      simp only [Option.some.injEq, Addr.mk.injEq] at e'
      obtain ⟨rfl, rfl, _⟩ := e'
      exact hc'
    have HC : Hid (chkA A = 0) := hc
    obtain ⟨K, hK⟩ : ∃ K : Nat, A.k.toNat = K := ⟨_, rfl⟩
    have HKK : Hid (A.k = (K : Int) ∧ 1 ≤ K ∧ K ≤ 8 ∧ A.k.toNat = K) := ⟨by have := G.kn; omega, by have := G.kn; omega, by have := G.kn; omega, hK⟩
    have HRA : Hid (RowAt w1 w.heap.size #[.int .i64 A.k, .slice (some ⟨gx, ox, none⟩) A.nx.length cn, .slice (some ⟨ga, oa, none⟩) A.ac.length ca]) := HRA'.out
    have HLL : Hid (∀ s c : Nat, s < A.ac.length → (c : Int) < A.k → dN A s c < A.ac.length ∧ dC A l s c < A.ac.length) := fun s c hs hc => by
      have h1 := (HG.out.at hs hc).2.2
      exact ⟨h1, by unfold dC; exact HLT.out _ h1⟩
    rw [hc]
    obtain ⟨z1, z2, _⟩ := made_cell0 w1 A.ac.length 3 (by omega) (.cells #[.int .i64 0] 3)
    have hX3 : ((w1.alloc (.cells (madeCells #[.int .i64 0] A.ac.length) 3)).alloc (.cells #[.int .i64 0] 3)).setCell ⟨w1.heap.size, 0, none⟩ (.int .i64 1) = ((w1.alloc (.cells ((madeCells #[.int .i64 0] A.ac.length).setIfInBounds 0 (.int .i64 1)) 3)).alloc (.cells #[.int .i64 0] 3)) := set_new2 _ _ _ _ _
    have HM0 : Hid (IN w1 (w1.heap.size + 1 + 1) w1.heap.size A.ac.length A.k (.slice (some ⟨w1.heap.size + 1, 0, none⟩) 1 1) (.slice none 0 0) (.slice none 0 0) (nuC [0] A.ac.length) (nC [0]) [] [] (((w1.alloc (.cells ((madeCells #[.int .i64 0] A.ac.length).setIfInBounds 0 (.int .i64 1)) 3)).alloc (.cells #[.int .i64 0] 3)).alloc (.cells #[.int .i64 A.k, .slice none 0 0, .slice none 0 0] 25))) := by
      show IN _ _ _ _ _ _ _ _ _ _ _ _ _
      rw [← hX3]
      have r0 := made_row w1 id (n := A.ac.length) (base := w1.heap.size) (by omega) (Nat.le_refl _)
      have e0 : nC (filN id A.ac.length 0) = List.replicate A.ac.length (Value.int .i64 0) := by rw [filN_zero]; simp [nC]
      rw [e0] at r0
      have r1 := ((r0.alloc (.cells #[.int .i64 0] 3)).stored 0 (.int .i64 1)).1
      rw [nuC_first (by omega)] at r1
      have s2 : (((w1.alloc (.cells (madeCells #[.int .i64 0] A.ac.length) 3)).alloc (.cells #[.int .i64 0] 3)).setCell ⟨w1.heap.size, 0, none⟩ (.int .i64 1)).heap.size = w1.heap.size + 1 + 1 := by simp [World.setCell]
      refine ⟨?_, r1.alloc _, ?_, World.ownsRow_nil _ _ _ _, World.ownsRow_nil _ _ _ _, ?_, ?_, ?_, ?_, by omega⟩
      · have := heap_alloc_last (((w1.alloc (.cells (madeCells #[.int .i64 0] A.ac.length) 3)).alloc (.cells #[.int .i64 0] 3)).setCell ⟨w1.heap.size, 0, none⟩ (.int .i64 1)) (.cells #[.int .i64 A.k, .slice none 0 0, .slice none 0 0] 25)
        rw [s2] at this
        exact this
      · refine ⟨rfl, .inr ⟨w1.heap.size + 1, 1, #[.int .i64 0], rfl, by omega, ?_, Nat.le_refl _, by unfold maxLen; omega, rfl, rfl⟩⟩
        have := heap_alloc_last (w1.alloc (.cells (madeCells #[.int .i64 0] A.ac.length) 3)) (.cells #[.int .i64 0] 3)
        rw [World.size_alloc] at this
        rw [(below_new _ _).block _ (by rw [s2]; omega), heap_set_other (by omega)]
        exact this
      · simp [Value.ownBlock]
      · simp [Value.ownBlock]
      · intro b _ hb; simp [Value.ownBlock] at hb
      · exact go_on ((go_on (below_new _ _) (below_new _ _)).setCell (p := ⟨w1.heap.size, 0, none⟩) (Nat.le_refl _) _) (below_new _ _)
    have HP0 : Hid (IP A l K 0 0 [0] [] 32768) := IP.start A l K (by omega)
    have cs2 : ∀ o, ((w1.alloc (.cells ((madeCells #[.int .i64 0] A.ac.length).setIfInBounds 0 (.int .i64 1)) 3)).alloc (.cells #[.int .i64 0] 3)).cell? ⟨w.heap.size, o, none⟩ = (#[.int .i64 A.k, .slice (some ⟨gx, ox, none⟩) A.nx.length cn, .slice (some ⟨ga, oa, none⟩) A.ac.length ca] : Array Value)[o]? := fun o => by
      rw [← hX3]
      have hq : Below w1.heap.size w1 (((w1.alloc (.cells (madeCells #[.int .i64 0] A.ac.length) 3)).alloc (.cells #[.int .i64 0] 3)).setCell ⟨w1.heap.size, 0, none⟩ (.int .i64 1)) := (go_on (below_new _ _) (below_new _ _)).setCell (p := ⟨w1.heap.size, 0, none⟩) (Nat.le_refl _) _
      exact (HRA.out.stay hq).cell o
    have hmk := fun w0 => run_make (P := Try.prog) w0 22 3 i0 (.int .i64 0) Try.underlying22 hi hz0 .i64 .i64 (A.ac.length : Int) (A.ac.length : Int) (by omega) (by omega) (by rw [hz2]; omega) (by omega)
    rw [hz1] at hmk
    simp only [Nat.mul_one] at hmk
    have HMK : Hid (∀ w0, _) := hmk
    clear ho1 hb1 hc hcl G hres1 hK hle hll hsr cs hX3
    go_wp2_with fail
    clear cs2 z1 z2 hmk
    go_loopw [10, 8] (fun vi vm wr => ∃ (i : Nat) (m n : List Nat) (vn va : Value) (f : Nat), vi = .int .i64 i ∧ i ≤ m.length ∧ IN w1 (w1.heap.size + 1 + 1) w1.heap.size A.ac.length A.k vm vn va (nuC m A.ac.length) (nC m) (nC n) (bC ((m.take i).map (aN A))) wr ∧ IP A l K i 0 m n f) (fun vi _ _ => 4096 - (intOf vi).toNat)
    case atStart => exact ⟨0, [0], [], _, _, 32768, rfl, Nat.zero_le _, HM0.out, HP0.out⟩
    case round =>
      clear HM0 HP0
      obtain ⟨i, m, n, vn, va, f, rfl, him, hM, hP⟩ := hrel
      have hm4 := hP.bi.most
      obtain ⟨am, mc, hvm⟩ := own_shape hM.met
      rw [nC_len] at hvm
      subst hvm
      by_cases hlt : i < m.length
      · have hiI : (i : Int) < m.length := by omega
        have HM : Hid (IN w1 (w1.heap.size + 1 + 1) w1.heap.size A.ac.length A.k (.slice am m.length mc) vn va (nuC m A.ac.length) (nC m) (nC n) (bC ((m.take i).map (aN A))) wr) := hM
        have HP : Hid (IP A l K i 0 m n f) := hP
        clear hM hP
        go_wp2_with fail
        go_loopw [11, 8] (fun vc vm wr => ∃ (c : Nat) (m n : List Nat) (vn va : Value) (f : Nat), vc = .int .i64 c ∧ c ≤ K ∧ i < m.length ∧ IN w1 (w1.heap.size + 1 + 1) w1.heap.size A.ac.length A.k vm vn va (nuC m A.ac.length) (nC m) (nC n) (bC ((m.take i).map (aN A))) wr ∧ IP A l K i c m n f) (fun vc _ _ => K - (intOf vc).toNat)
        case atStart => exact ⟨0, m, n, vn, va, f, rfl, Nat.zero_le _, hlt, HM.out, HP.out⟩
        case round =>
          clear HM HP hlt hiI him hm4
          obtain ⟨c, m, n, vn, va, f, rfl, hcK, hlt, hM, hP⟩ := hrel
          have hm4 := hP.bi.most
          have hiI : (i : Int) < m.length := by omega
          obtain ⟨s, hs⟩ : ∃ s, m[i]? = some s := ⟨m[i], List.getElem?_eq_getElem hlt⟩
          have hsN := hP.oks s (List.mem_of_getElem? hs)
          obtain ⟨am, mc, hvm⟩ := own_shape hM.met
          rw [nC_len] at hvm
          subst hvm
          have hmet := hM.met
          rw [nC_len] at hmet
          obtain ⟨gm, rfl⟩ : ∃ gm, am = some ⟨gm, 0, none⟩ := by
            rcases hmet.2 with ⟨_, h0⟩ | ⟨g', cap', cur, hv, _⟩
            · omega
            · simp only [Value.slice.injEq] at hv
              exact ⟨g', hv.1⟩
          have hcm : wr.cell? ⟨gm, i, none⟩ = some (.int .i64 (s : Int)) := (hmet.cellAt i (by omega)).trans (by simp [nC, hs])
          have HM : Hid (IN w1 (w1.heap.size + 1 + 1) w1.heap.size A.ac.length A.k (.slice (some ⟨gm, 0, none⟩) m.length mc) vn va (nuC m A.ac.length) (nC m) (nC n) (bC ((m.take i).map (aN A))) wr) := hM
          have HP : Hid (IP A l K i c m n f) := hP
          have HS : Hid (m[i]? = some s) := hs
          have hBw : Below w1.heap.size w1 wr := hM.below
          have cs := (HRA.out.stay hM.below).cell
          by_cases hc : c < K
          · have hcI : (c : Int) < A.k := by have := HKK.out.1; omega
            have hc8 : c < 8 := by have := HKK.out.2.2.1; omega
            obtain ⟨d1, d2⟩ := HLL.out s c hsN hcI
            obtain ⟨b1, b2, b3⟩ := HG.out.at hsN hcI
            obtain ⟨D, hD⟩ : ∃ D, dN A s c = D := ⟨_, rfl⟩
            obtain ⟨t, ht⟩ : ∃ t, dC A l s c = t := ⟨_, rfl⟩
            have hDt : l.getD D 0 = t := by rw [← ht, ← hD]; rfl
            rw [hD] at d1 b2
            rw [ht] at d2
            have HT : Hid (dC A l s c = t) := ht
            have hDI : (D : Int) < A.ac.length := by omega
            have htI : (t : Int) < A.ac.length := by omega
            have hsI : (s : Int) ≤ 4095 := by omega
            have hcl := CL.out wr D hBw d1
            rw [hDt] at hcl
            have hcx := CN.out wr _ hBw b1
            rw [b2] at hcx
            have hp : (s : Int) * A.k = ((s * A.k.toNat : Nat) : Int) := by rw [Int.natCast_mul]; congr 1; have := HKK.out; omega
            have hq : s * A.k.toNat ≤ 4095 * 8 := Nat.mul_le_mul (by omega) (by have := HKK.out; omega)
            obtain ⟨p0, hpp⟩ : ∃ p, s * A.k.toNat = p := ⟨_, rfl⟩
            rw [hpp] at hp hq hcx b1
            have hw1 : IntKind.i64.wrap ((s : Int) * A.k) = (p0 : Int) := by rw [hp, IntKind.wrap_i64]; omega
            obtain ⟨q, hqq⟩ : ∃ q, p0 + c = q := ⟨_, rfl⟩
            have hw2 : IntKind.i64.wrap ((p0 : Int) + c) = (q : Int) := by rw [IntKind.wrap_i64]; omega
            rw [hqq] at hcx b1
            have hgl : (q : Int) < A.nx.length := by omega
            have S0 : (∀ o, wr.drew.cell? ⟨w.heap.size, o, none⟩ = (#[.int .i64 A.k, .slice (some ⟨gx, ox, none⟩) A.nx.length cn, .slice (some ⟨ga, oa, none⟩) A.ac.length ca] : Array Value)[o]?) ∧ wr.drew.cell? ⟨gm, i, none⟩ = some (.int .i64 (s : Int)) ∧ wr.drew.cell? ⟨gx, ox + q, none⟩ = some (.int .i64 (D : Int)) ∧ wr.drew.cell? ⟨g1, D, none⟩ = some (.int .i64 (t : Int)) := ⟨cs, hcm, hcx, hcl⟩
            clear hM hP hs hmet hD ht hDt hcl hcm hcx hp hq hpp hqq b1 b2 b3
            go_wp2_with fail
            go_region_held3 (fun y => (∀ o, y.cell? ⟨w.heap.size, o, none⟩ = (#[.int .i64 A.k, .slice (some ⟨gx, ox, none⟩) A.nx.length cn, .slice (some ⟨ga, oa, none⟩) A.ac.length ca] : Array Value)[o]?) ∧ y.cell? ⟨gm, i, none⟩ = some (.int .i64 (s : Int)) ∧ y.cell? ⟨gx, ox + q, none⟩ = some (.int .i64 (D : Int)) ∧ y.cell? ⟨g1, D, none⟩ = some (.int .i64 (t : Int))) (first | exact S0 | assumption) (fail)
            clear S0 cs
            obtain ⟨wx, hwx⟩ : ∃ wx, wr.drew = wx := ⟨_, rfl⟩
            rw [hwx]
            have HMX : Hid (IN w1 (w1.heap.size + 1 + 1) w1.heap.size A.ac.length A.k (.slice (some ⟨gm, 0, none⟩) m.length mc) vn va (nuC m A.ac.length) (nC m) (nC n) (bC ((m.take i).map (aN A))) wx) := by rw [← hwx]; exact HM.out.call (Below.refl _ _).drew
            clear hwx
            have hnc : wx.cell? ⟨w1.heap.size, t, none⟩ = some (.int .i64 (nmI m t + 1)) := (HMX.out.nums.cellAt t (by omega)).trans (nuC_at d2)
            by_cases htm : t ∈ m
            · have hix := List.idxOf_lt_length_of_mem htm
              have hnm : nmI m t = (m.idxOf t : Int) := by unfold nmI; rw [if_pos htm]
              obtain ⟨p, hp⟩ : ∃ p, m.idxOf t = p := ⟨_, rfl⟩
              rw [hnm, hp] at hnc
              rw [hp] at hix
              obtain ⟨x, hx⟩ : ∃ x : Nat, p + 1 = x := ⟨_, rfl⟩
              have hxI : (p : Int) + 1 = (x : Int) := by omega
              rw [hxI] at hnc
              have hxn : ¬ (x : Int) = 0 := by omega
              have hxd : decide ((x : Int) = 0) = false := decide_eq_false hxn
              have hwx : IntKind.i64.wrap ((x : Int) - 1) = (p : Int) := by rw [IntKind.wrap_i64]; omega
              have hncd : wx.drew.cell? ⟨w1.heap.size, t, none⟩ = some (.int .i64 (x : Int)) := hnc
              have hnca : ∀ O, (wx.alloc O).drew.cell? ⟨w1.heap.size, t, none⟩ = some (.int .i64 (x : Int)) := fun O => by have := below_cell (o := t) (below_new wx O) (Array.getElem?_eq_some_iff.1 HMX.out.numBlk.2.choose_spec).1; exact this.trans hnc
              obtain ⟨f', hP'⟩ := HP.out.old hc HKK.out.2.2.1 HS.out (by rw [HT.out]; exact htm)
              rw [HT.out, hp] at hP'
              have HP' : Hid (IP A l K i (c + 1) m (n ++ [p]) f') := hP'
              clear hP' hp hnm hx hxI
              obtain ⟨nb, ncp, hvn⟩ := own_shape HMX.out.nxt
              rw [nC_len] at hvn
              subst hvn
              have ho1 : wx.drew.cell? ⟨w1.heap.size + 1 + 1, 1, none⟩ = some (.slice nb n.length ncp) := cell_of HMX.out.out
              have ho1a : ∀ O, (wx.alloc O).drew.cell? ⟨w1.heap.size + 1 + 1, 1, none⟩ = some (.slice nb n.length ncp) := fun O => by have := below_cell (o := 1) (below_new wx O) (Array.getElem?_eq_some_iff.1 HMX.out.out).1; exact this.trans ho1
              have hnb : n.length ≤ 32768 := by have := HP.out.fu; omega
              have HOD : Hid (IN w1 (w1.heap.size + 1 + 1) w1.heap.size A.ac.length A.k (.slice (some ⟨gm, 0, none⟩) m.length mc) (.slice nb n.length ncp) va (nuC m A.ac.length) (nC m) (nC n) (bC ((m.take i).map (aN A))) wx.drew) := HMX.out.call (Below.refl _ _).drew
              have KS : Hid (∀ O, (wx.alloc O).drew.ownsRow w1.heap.size 3 1 (.slice nb n.length ncp) n.length (nC n)) := fun O => by have := HMX.out.nxt.alloc O; rw [nC_len] at this; exact this
              have KN : Hid (∀ (j : Nat) (u : Value), [Value.int .i64 (p : Int)][j]? = some u → (wx.alloc (.cells #[.int .i64 (p : Int)] 3)).drew.cell? ((⟨wx.heap.size, 0, none⟩ : Addr).add j) = some u) := cell_one_new wx (.int .i64 (p : Int)) 3
              have hVx : w1.heap.size ≤ wx.heap.size := HMX.out.below.size
              go_wp2_with fail
              go_region_law (rw [if_pos (by rfl)]; refine wp_append_lies _ _ _ 22 rfl w1.heap.size 3 i0 (.int .i64 0) 1 8 Try.underlying22 hi hz0 hz1 hz2 rfl (by decide) _ _ _ rfl (KS.out _) ⟨wx.heap.size, 0, none⟩ 1 1 [.int .i64 (p : Int)] rfl rfl KN.out (by intro u hu; simp at hu; subst hu; rfl) (by decide) (by unfold maxLen; omega) (by omega) (by simp; omega) (wx.drew.alloc (.cells #[.int .i64 (p : Int)] 3)).heap.size rfl ?_; intro g7 c7 w7 ho7 hg7 hl7 _; have hgr : (wx.drew.alloc (.cells #[.int .i64 (p : Int)] 3)).grownBy w7 _ := hg7; have hM7 := HOD.out.nxtd (x := .int .i64 (p : Int)) hgr (by rw [nC_len]; exact ho7) (by rcases hl7 with q | q; exact .inl q.symm; exact .inr (congrArg some q)); have hcs : w7.cell? ⟨w1.heap.size + 1 + 1, 1, none⟩ = some (.slice nb n.length ncp) := cell_of hM7.1; have hfz : w7.frozen? ⟨w1.heap.size + 1 + 1, 1, none⟩ = false := froz_of hM7.1; have HM7 : Hid _ := hM7.2; clear hM7 ho7 hg7 hl7 hgr)
              all_goals (
                go_wp2_with fail
                go_roundw
                case rel => exact ⟨c + 1, m, n ++ [p], _, va, f', by go_num, by omega, hlt, by have := HM7.out; rw [show nC n ++ [.int .i64 (p : Int)] = nC (n ++ [p]) by rw [nC_append]; rfl] at this; exact this, HP'.out⟩
                case measure => simp [intOf]; omega)
            · have hnm : nmI m t + 1 = 0 := nmI_zero.2 htm
              rw [hnm] at hnc
              obtain ⟨f', hP'⟩ := HP.out.new hc HKK.out.2.2.1 hn2 HS.out (by rw [HT.out]; exact htm) (by rw [HT.out]; exact d2)
              rw [HT.out] at hP'
              have HP' : Hid (IP A l K i (c + 1) (m ++ [t]) (n ++ [m.length]) f') := hP'
              have hV5 : w1.heap.size ≤ wx.heap.size := HMX.out.below.size
              obtain ⟨M1, hM1⟩ : ∃ M1, m.length + 1 = M1 := ⟨_, rfl⟩
              have HM1 : Hid (m.length + 1 = M1) := hM1
              have KM : Hid (∀ O, (wx.alloc O).ownsRow w1.heap.size 3 1 (.slice (some ⟨gm, 0, none⟩) m.length mc) m.length (nC m)) := fun O => by have := HMX.out.met.alloc O; rw [nC_len] at this; exact this
              have HTM : Hid (t ∉ m) := htm
              have hM1b : M1 ≤ 4096 := by have := HP'.out.bi.most; simp at this; omega
              clear hP' hnm hM1 htm
              go_wp2_with (at_builtin; refine wpList_append_own_at _ rfl _ _ 22 rfl w1.heap.size 3 i0 (.int .i64 0) 1 8 Try.underlying22 hi hz0 hz1 hz2 rfl (by decide) _ _ _ rfl (KM.out _) ⟨wx.heap.size, 0, none⟩ 1 1 [.int .i64 (t : Int)] rfl rfl (cell_one_new wx (.int .i64 (t : Int)) 3) (by intro u hu; simp at hu; subst hu; rfl) (by unfold maxLen; omega) (by omega) (by simp; omega) ?_; intro v6 w6 ho6 hg6 _ hl6; have ho6' : w6.ownsRow w1.heap.size 3 1 v6 M1 (nC m ++ [.int .i64 (t : Int)]) := (by rw [← HM1.out]; exact ho6); obtain ⟨a6, c6, rfl⟩ := own_shape ho6'; have hM6 := HMX.out.metd (x := .int .i64 (t : Int)) hg6 (by rw [nC_len]; exact ho6) hl6; have HM6' : Hid _ := hM6; have hc6 : w6.cell? ⟨w1.heap.size, t, none⟩ = some (.int .i64 0) := ((hM6.nums.cellAt t (by omega)).trans (nuC_at d2)).trans (by rw [nmI_zero.2 HTM.out]); have hf6 : w6.frozen? ⟨w1.heap.size, t, none⟩ = false := hM6.nums.frozenAt t; clear hM6 ho6 ho6' hg6 hl6)
              have HMY : Hid (IN w1 (w1.heap.size + 1 + 1) w1.heap.size A.ac.length A.k (.slice a6 M1 c6) vn va (nuC (m ++ [t]) A.ac.length) (nC (m ++ [t])) (nC n) (bC (((m ++ [t]).take i).map (aN A))) (w6.setCell ⟨w1.heap.size, t, none⟩ (.int .i64 (M1 : Int)))) := by
                have := HM6'.out.num t (.int .i64 (M1 : Int))
                rw [show (M1 : Int) = (m.length : Int) + 1 by have := HM1.out; omega, nuC_set d2 HTM.out, show nC m ++ [.int .i64 (t : Int)] = nC (m ++ [t]) by rw [nC_append]; rfl, show m.take i = (m ++ [t]).take i from (List.take_append_of_le_length (by omega)).symm] at this
                rw [show (M1 : Int) = (m.length : Int) + 1 by have := HM1.out; omega]
                exact this
              obtain ⟨w8, hw8⟩ : ∃ w8, w6.setCell ⟨w1.heap.size, t, none⟩ (.int .i64 (M1 : Int)) = w8 := ⟨_, rfl⟩
              rw [hw8]
              rw [hw8] at HMY
              clear HMX
              have HMX : Hid (IN w1 (w1.heap.size + 1 + 1) w1.heap.size A.ac.length A.k (.slice a6 M1 c6) vn va (nuC (m ++ [t]) A.ac.length) (nC (m ++ [t])) (nC n) (bC (((m ++ [t]).take i).map (aN A))) w8) := HMY.out
              have hnv : nmI (m ++ [t]) t + 1 = (M1 : Int) := by unfold nmI; rw [if_pos (by simp), List.idxOf_append, if_neg HTM.out]; have := HM1.out; simp; omega
              have hnc8 : w8.cell? ⟨w1.heap.size, t, none⟩ = some (.int .i64 (M1 : Int)) := (HMX.out.nums.cellAt t (by omega)).trans (by rw [nuC_at d2, hnv])
              have hncd : w8.drew.cell? ⟨w1.heap.size, t, none⟩ = some (.int .i64 (M1 : Int)) := hnc8
              have hnca : ∀ O, (w8.alloc O).drew.cell? ⟨w1.heap.size, t, none⟩ = some (.int .i64 (M1 : Int)) := fun O => by have := below_cell (o := t) (below_new w8 O) (Array.getElem?_eq_some_iff.1 HMX.out.numBlk.2.choose_spec).1; exact this.trans hnc8
              have hwx : IntKind.i64.wrap ((M1 : Int) - 1) = (m.length : Int) := by have := HM1.out; rw [IntKind.wrap_i64]; omega
              clear hnc hf6 hc6 hnv hw8
              obtain ⟨nb, ncp, hvn⟩ := own_shape HMX.out.nxt
              rw [nC_len] at hvn
              subst hvn
              have ho1 : w8.drew.cell? ⟨w1.heap.size + 1 + 1, 1, none⟩ = some (.slice nb n.length ncp) := cell_of HMX.out.out
              have ho1a : ∀ O, (w8.alloc O).drew.cell? ⟨w1.heap.size + 1 + 1, 1, none⟩ = some (.slice nb n.length ncp) := fun O => by have := below_cell (o := 1) (below_new w8 O) (Array.getElem?_eq_some_iff.1 HMX.out.out).1; exact this.trans ho1
              have hnb : n.length ≤ 32768 := by have := HP.out.fu; omega
              have HOD : Hid (IN w1 (w1.heap.size + 1 + 1) w1.heap.size A.ac.length A.k (.slice a6 M1 c6) (.slice nb n.length ncp) va (nuC (m ++ [t]) A.ac.length) (nC (m ++ [t])) (nC n) (bC (((m ++ [t]).take i).map (aN A))) w8.drew) := HMX.out.call (Below.refl _ _).drew
              have KS : Hid (∀ O, (w8.alloc O).drew.ownsRow w1.heap.size 3 1 (.slice nb n.length ncp) n.length (nC n)) := fun O => by have := HMX.out.nxt.alloc O; rw [nC_len] at this; exact this
              have KN : Hid (∀ (j : Nat) (u : Value), [Value.int .i64 (m.length : Int)][j]? = some u → (w8.alloc (.cells #[.int .i64 (m.length : Int)] 3)).drew.cell? ((⟨w8.heap.size, 0, none⟩ : Addr).add j) = some u) := cell_one_new w8 (.int .i64 (m.length : Int)) 3
              have hVx : w1.heap.size ≤ w8.heap.size := HMX.out.below.size
              skip
              go_region_law (rw [if_pos (by rfl)]; refine wp_append_lies _ _ _ 22 rfl w1.heap.size 3 i0 (.int .i64 0) 1 8 Try.underlying22 hi hz0 hz1 hz2 rfl (by decide) _ _ _ rfl (KS.out _) ⟨w8.heap.size, 0, none⟩ 1 1 [.int .i64 (m.length : Int)] rfl rfl KN.out (by intro u hu; simp at hu; subst hu; rfl) (by decide) (by unfold maxLen; omega) (by omega) (by simp; omega) (w8.drew.alloc (.cells #[.int .i64 (m.length : Int)] 3)).heap.size rfl ?_; intro g7 c7 w7 ho7 hg7 hl7 _; have hgr : (w8.drew.alloc (.cells #[.int .i64 (m.length : Int)] 3)).grownBy w7 _ := hg7; have hM7 := HOD.out.nxtd (x := .int .i64 (m.length : Int)) hgr (by rw [nC_len]; exact ho7) (by rcases hl7 with q | q; exact .inl q.symm; exact .inr (congrArg some q)); have hcs : w7.cell? ⟨w1.heap.size + 1 + 1, 1, none⟩ = some (.slice nb n.length ncp) := cell_of hM7.1; have hfz : w7.frozen? ⟨w1.heap.size + 1 + 1, 1, none⟩ = false := froz_of hM7.1; have HM7 : Hid _ := hM7.2; clear hM7 ho7 hg7 hl7 hgr)
              all_goals (
                go_wp2_with fail
                go_roundw
                case rel => exact ⟨c + 1, m ++ [t], n ++ [m.length], _, va, f', by go_num, by omega, by simp; omega, by have := HM7.out; rw [show nC n ++ [.int .i64 (m.length : Int)] = nC (n ++ [m.length]) by rw [nC_append]; rfl] at this; exact this, HP'.out⟩
                case measure => simp [intOf]; omega)
          · have hcI : ¬ (c : Int) < A.k := by have := HKK.out.1; omega
            have hcE : c = K := by omega
            obtain ⟨za, zc, hva⟩ := own_shape hM.acp
            have hal : (bC ((m.take i).map (aN A))).length = i := by simp [bC]; omega
            rw [hal] at hva
            subst hva
            have HMA : Hid (IN w1 (w1.heap.size + 1 + 1) w1.heap.size A.ac.length A.k (.slice (some ⟨gm, 0, none⟩) m.length mc) vn (.slice za i zc) (nuC m A.ac.length) (nC m) (nC n) (bC ((m.take i).map (aN A))) wr) := hM
            have ho2 : wr.drew.cell? ⟨w1.heap.size + 1 + 1, 2, none⟩ = some (.slice za i zc) := cell_of hM.out
            have ho2a : ∀ O, (wr.alloc O).drew.cell? ⟨w1.heap.size + 1 + 1, 2, none⟩ = some (.slice za i zc) := fun O => by have := below_cell (o := 2) (below_new wr O) (Array.getElem?_eq_some_iff.1 hM.out).1; exact this.trans ho2
            have csd : ∀ o, wr.drew.cell? ⟨w.heap.size, o, none⟩ = (#[.int .i64 A.k, .slice (some ⟨gx, ox, none⟩) A.nx.length cn, .slice (some ⟨ga, oa, none⟩) A.ac.length ca] : Array Value)[o]? := cs
            have csa : ∀ O o, (wr.alloc O).drew.cell? ⟨w.heap.size, o, none⟩ = (#[.int .i64 A.k, .slice (some ⟨gx, ox, none⟩) A.nx.length cn, .slice (some ⟨ga, oa, none⟩) A.ac.length ca] : Array Value)[o]? := fun O o => ((HRA.out.stay hM.below).alloc O).cell o
            have hcmd : wr.drew.cell? ⟨gm, i, none⟩ = some (.int .i64 (s : Int)) := hcm
            have hac := CA.out wr s hBw hsN
            obtain ⟨x, hx⟩ : ∃ x, A.ac.getD s false = x := ⟨_, rfl⟩
            rw [hx] at hac
            have hacd : wr.drew.cell? ⟨ga, oa + s, none⟩ = some (.bool x) := hac
            have hsI : (s : Int) < A.ac.length := by omega
            have hAC : bC ((m.take i).map (aN A)) ++ [.bool x] = bC ((m.take (i + 1)).map (aN A)) := by
              rw [List.take_add_one, hs, List.map_append, bC_append]
              rw [← hx]
              rfl
            have HAC : Hid (bC ((m.take i).map (aN A)) ++ [.bool x] = bC ((m.take (i + 1)).map (aN A))) := hAC
            have HPN : Hid (IP A l K (i + 1) 0 m n f) := by have := HP.out; rw [hcE] at this; exact this.next
            have HAL : Hid ((bC ((m.take i).map (aN A))).length = i) := hal
            have HOD : Hid (IN w1 (w1.heap.size + 1 + 1) w1.heap.size A.ac.length A.k (.slice (some ⟨gm, 0, none⟩) m.length mc) vn (.slice za i zc) (nuC m A.ac.length) (nC m) (nC n) (bC ((m.take i).map (aN A))) wr.drew) := hM.call (Below.refl _ _).drew
            have KS : Hid (∀ O, (wr.alloc O).drew.ownsRow w1.heap.size 4 1 (.slice za i zc) i (bC ((m.take i).map (aN A)))) := fun O => by have := hM.acp.alloc O; rw [hal] at this; exact this
            have KN : Hid (∀ (j : Nat) (u : Value), [Value.bool x][j]? = some u → (wr.alloc (.cells #[.bool x] 4)).drew.cell? ((⟨wr.heap.size, 0, none⟩ : Addr).add j) = some u) := cell_one_new wr (.bool x) 4
            have hVx : w1.heap.size ≤ wr.heap.size := hM.below.size
            clear hM hP hs hmet hcE hal hx hac hAC
            go_wp2_with fail
            go_region_law (rw [if_pos (by rfl)]; refine wp_append_own _ _ _ 23 rfl w1.heap.size 4 i1 (.bool false) 1 1 Try.underlying23 hj hq0 hq1 hq2 rfl (by decide) _ _ _ rfl (KS.out _) ⟨wr.heap.size, 0, none⟩ 1 1 [.bool x] rfl rfl KN.out (by intro u hu; simp at hu; subst hu; rfl) (by unfold maxLen; omega) (by omega) (by simp; omega) ?_; intro v7 w7 ho7 hg7 _; obtain ⟨va7, vc7, rfl⟩ := own_shape ho7; have hgr : (wr.drew.alloc (.cells #[.bool x] 4)).grownBy w7 _ := hg7; have hM7 := HOD.out.acpd (x := .bool x) hgr (by rw [HAL.out]; exact ho7); rw [HAC.out] at hM7; have hcs : w7.cell? ⟨w1.heap.size + 1 + 1, 2, none⟩ = some (.slice za i zc) := cell_of hM7.1; have hfz : w7.frozen? ⟨w1.heap.size + 1 + 1, 2, none⟩ = false := froz_of hM7.1; have HM7 : Hid _ := hM7.2; clear hM7 ho7 hg7 hgr)
            all_goals (
              go_wp2_with fail
              go_roundw
              case rel => exact ⟨i + 1, m, n, vn, _, f, by go_num, by omega, HM7.out, HPN.out⟩
              case measure => simp [intOf]; omega)
      · have hiI : ¬ (i : Int) < m.length := by omega
        have hiE : i = m.length := by omega
        obtain ⟨nb, ncp, hvn⟩ := own_shape hM.nxt
        rw [nC_len] at hvn
        subst hvn
        obtain ⟨za, zc, hva⟩ := own_shape hM.acp
        have hal : (bC ((m.take i).map (aN A))).length = m.length := by simp [bC]; omega
        rw [hal] at hva
        subst hva
        have hend := hP.go
        have hnl : n.length = m.length * K := by have := hP.nl; rw [hiE] at this; omega
        rw [bgo_end hnl] at hend
        have HI : Hid (mnA A = ⟨A.k, n.map fun (x : Nat) => (x : Int), m.map (aN A)⟩ ∧ mnT A = (List.range A.ac.length).map fun s => nmI m (l.getD s 0)) := by
          show _ ∧ _
          have e1 : ioM A l = m := by unfold ioM; rw [HKK.out.2.2.2, ← hend]
          unfold mnA mnT
          rw [if_pos HC.out, if_pos HC.out, HLE.out, e1]
          refine ⟨?_, rfl⟩
          unfold ioA
          rw [HKK.out.2.2.2, ← hend]
        obtain ⟨B, hB⟩ : ∃ B, mnA A = B := ⟨_, rfl⟩
        have HBE : Hid (mnA A = B) := hB
        have hao : AO w1.heap.size wr (.agg #[.int .i64 A.k, .slice nb n.length ncp, .slice za m.length zc]) B := by
          rw [← hB, HI.out.1]
          have q1 := hM.nxt
          have q2 := hM.acp
          rw [nC_len, nC_zC] at q1
          rw [hal, hiE, List.take_length] at q2
          exact ⟨nb, ncp, za, zc, by simp, by simpa using q1, by simpa using q2⟩
        obtain ⟨Y, hYe⟩ : ∃ Y, Y = wr := ⟨_, rfl⟩
        subst hYe
        have HAO : Hid (AO w.heap.size Y (.agg #[.int .i64 A.k, .slice nb n.length ncp, .slice za m.length zc]) B) := hao.mono HB1.out.size
        have HOUT : Hid (Y.heap[w1.heap.size + 1 + 1]? = some (.cells #[.int .i64 A.k, .slice nb n.length ncp, .slice za m.length zc] 25 (0, 0))) := hM.out
        have HNY : Hid (Y.ownsRow w1.heap.size 3 1 (.slice (some ⟨w1.heap.size, 0, none⟩) A.ac.length A.ac.length) A.ac.length (nuC m A.ac.length)) := hM.nums
        have HYB : Hid (Below w1.heap.size w1 Y) := hM.below
        have HRS : Hid (Y.heap[w.heap.size + 1]? = some (.cells #[.int .i64 0, .slice none 0 0, .slice none 0 0] 25 (0, 0))) := (hM.below.block _ (Array.getElem?_eq_some_iff.1 HR1.out).1).trans HR1.out
        obtain ⟨F, hF⟩ : ∃ F : Nat → Int, ∀ s, F s = nmI m (l.getD s 0) := ⟨_, fun _ => rfl⟩
        have HF : Hid (∀ s, F s = nmI m (l.getD s 0)) := hF
        have HO0 : Hid ((Y.alloc (.cells (madeCells #[.int .i64 0] A.ac.length) 3)).ownsRow w.heap.size 3 1 (.slice (some ⟨Y.heap.size, 0, none⟩) A.ac.length A.ac.length) A.ac.length (zC (filZ F A.ac.length 0)) ∧ Below Y.heap.size Y (Y.alloc (.cells (madeCells #[.int .i64 0] A.ac.length) 3))) := by
          refine ⟨?_, below_new _ _⟩
          rw [filZ_zero]
          exact made_row Y id (by omega) (Nat.le_trans HB1.out.size hM.below.size)
        have hmk := HMK.out
        clear hao hM hP hend hnl hal hiE hB hF him
        go_wp2_with fail
        clear hmk
        go_loopw [14] (fun vi wr => ∃ i : Nat, vi = .int .i64 i ∧ i ≤ A.ac.length ∧ wr.ownsRow w.heap.size 3 1 (.slice (some ⟨Y.heap.size, 0, none⟩) A.ac.length A.ac.length) A.ac.length (zC (filZ F A.ac.length i)) ∧ Below Y.heap.size Y wr) (fun vi _ => A.ac.length - (intOf vi).toNat)
        case atStart => exact ⟨0, rfl, Nat.zero_le _, HO0.out⟩
        case round =>
          clear HO0 hiI
          obtain ⟨j, rfl, hin, hO, hBB⟩ := hrel
          by_cases hlt : j < A.ac.length
          · have hiI : (j : Int) < A.ac.length := by omega
            have hbw := go_on HYB.out hBB
            have hc1 := CL.out wr j hbw hlt
            have hx := HLT.out j hlt
            have hFi := HF.out j
            obtain ⟨x, hxe⟩ : ∃ x, l.getD j 0 = x := ⟨_, rfl⟩
            rw [hxe] at hc1 hx hFi
            have hxI : (x : Int) < A.ac.length := by omega
            obtain ⟨z, hz⟩ : ∃ z, nmI m x + 1 = z := ⟨_, rfl⟩
            have hc2 : wr.cell? ⟨w1.heap.size, x, none⟩ = some (.int .i64 z) := by
              rw [← hz]
              exact ((own_below HNY.out hBB).cellAt x (by omega)).trans (nuC_at hx)
            have hle := nmI_le (m := m) (t := x)
            obtain ⟨y, hy⟩ : ∃ y, F j = y := ⟨_, rfl⟩
            have hwz : IntKind.i64.wrap (z - 1) = y := by rw [← hy, hFi, IntKind.wrap_i64]; omega
            have hfz : wr.frozen? ⟨Y.heap.size, j, none⟩ = false := hO.frozenAt j
            have hcl : wr.cell? ⟨Y.heap.size, j, none⟩ = some (.int .i64 0) := (hO.cellAt j (by omega)).trans (filZ_cell F hlt)
            have hst := (hO.stored j (.int .i64 (F j))).1
            rw [filZ_set F hlt, hy] at hst
            have HN : Hid ((wr.setCell ⟨Y.heap.size, j, none⟩ (.int .i64 y)).ownsRow w.heap.size 3 1 (.slice (some ⟨Y.heap.size, 0, none⟩) A.ac.length A.ac.length) A.ac.length (zC (filZ F A.ac.length (j + 1)))) := hst
            have HN2 : Hid (Below Y.heap.size Y (wr.setCell ⟨Y.heap.size, j, none⟩ (.int .i64 y))) := hBB.setCell (p := ⟨Y.heap.size, j, none⟩) (Nat.le_refl _) _
            clear hst hO hBB hFi hxe hy hz hle hbw
            go_wp2_with fail
            go_roundw
            case rel => exact ⟨j + 1, by go_num, by omega, HN.out, HN2.out⟩
            case measure => simp [intOf]; omega
          · have hiI : ¬ (j : Int) < A.ac.length := by omega
            have e : j = A.ac.length := by omega
            rw [e, filZ_end] at hO
            have hT : (List.range A.ac.length).map F = mnT A := by rw [HI.out.2]; exact List.map_congr_left fun s _ => HF.out s
            rw [hT] at hO
            have hTl : (mnT A).length = A.ac.length := by rw [HI.out.2]; simp
            have hres3 := (hBB.block _ (Array.getElem?_eq_some_iff.1 HRS.out).1).trans HRS.out
            have hout3 := (hBB.block _ (Array.getElem?_eq_some_iff.1 HOUT.out).1).trans HOUT.out
            obtain ⟨f1, f2, f3⟩ := res_done (B := B) (base := w.heap.size) (w0 := w) (x0 := .int .i64 A.k) (x1 := .slice nb n.length ncp) (x2 := .slice za m.length zc) hres3 (HAO.out.below hBB) (go_on (go_on HB1.out HYB.out) hBB) (by omega)
            have co : ∀ o, wr.cell? ⟨w1.heap.size + 1 + 1, o, none⟩ = (#[.int .i64 A.k, .slice nb n.length ncp, .slice za m.length zc] : Array Value)[o]? := fun o => cell_of hout3
            have hr0 : wr.cell? ⟨w.heap.size + 1, 0, none⟩ = some (.int .i64 0) := cell_of hres3
            have hr1 : wr.cell? ⟨w.heap.size + 1, 1, none⟩ = some (.slice none 0 0) := cell_of hres3
            have hr2 : wr.cell? ⟨w.heap.size + 1, 2, none⟩ = some (.slice none 0 0) := cell_of hres3
            have hf : ∀ j, wr.frozen? ⟨w.heap.size + 1, j, none⟩ = false := fun j => froz_of hres3
            have hlw : w.heap.size + 1 < Y.heap.size := (Array.getElem?_eq_some_iff.1 HRS.out).1
            have FT : Hid ((((wr.setCell ⟨w.heap.size + 1, 0, none⟩ (.int .i64 A.k)).setCell ⟨w.heap.size + 1, 1, none⟩ (.slice nb n.length ncp)).setCell ⟨w.heap.size + 1, 2, none⟩ (.slice za m.length zc)).ownsRow w.heap.size 3 1 (.slice (some ⟨Y.heap.size, 0, none⟩) A.ac.length A.ac.length) (mnT A).length (zC (mnT A))) := by
              rw [hTl]
              have hne : Y.heap.size ≠ w.heap.size + 1 := by omega
              refine own_keep hO (fun b cur hb _ => ?_)
              simp only [Value.ownBlock, Option.some.injEq] at hb
              rw [← hb, heap_set_other hne, heap_set_other hne, heap_set_other hne]
            have F1 : Hid _ := f1
            have F2 : Hid _ := f2
            have F3 : Hid _ := f3
            clear f1 f2 f3 hres3 hout3 hO hBB hT hTl e hlw
            go_wp2_with fail
            refine bodyPost_ret (results_auto3 rfl rfl F1.out rfl) rfl ⟨.agg #[.int .i64 A.k, .slice nb n.length ncp, .slice za m.length zc], _, ?_, ?_, FT.out, F3.out⟩
            · rw [HC.out]; rfl
            · rw [HBE.out]; exact F2.out
  · have HE : Hid (mnA A = zAut ∧ mnT A = []) := by show _ ∧ _; unfold mnA mnT; rw [if_neg (by rw [hc]; decide), if_neg (by rw [hc]; decide)]; exact ⟨rfl, rfl⟩
    have hcl : clL A = [] := by unfold clL; rw [if_neg (by rw [hc]; decide)]
    rw [hc]
    have HC : Hid (chkA A = 80) := hc
    obtain ⟨av, cv, rfl⟩ := own_shape ho1
    rw [hcl]
    have hr0 : w1.cell? ⟨w.heap.size + 1, 0, none⟩ = some (.int .i64 0) := cell_of hres1
    have hr1 : w1.cell? ⟨w.heap.size + 1, 1, none⟩ = some (.slice none 0 0) := cell_of hres1
    have hr2 : w1.cell? ⟨w.heap.size + 1, 2, none⟩ = some (.slice none 0 0) := cell_of hres1
    have hf : ∀ j, w1.frozen? ⟨w.heap.size + 1, j, none⟩ = false := fun j => froz_of hres1
    obtain ⟨f1, f2, f3⟩ := res_done (B := zAut) (base := w.heap.size) (w0 := w) hres1 (AO.zero _ _) HB1.out (by omega)
    have F1 : Hid _ := f1
    have F2 : Hid _ := f2
    have F3 : Hid _ := f3
    clear hres1 f1 f2 f3 ho1 hb1 hc hcl
    go_wp2_with fail
    refine bodyPost_ret (results_auto3 rfl rfl F1.out rfl) rfl ⟨_, .slice none 0 0, by rw [HC.out]; rfl, ?_, ?_, F3.out⟩
    · rw [HE.out.1]; exact F2.out
    · rw [HE.out.2]; exact World.ownsRow_nil _ _ _ _
end Go.Proofs.Ythjenemmhlljfaa

namespace Go.Proofs.Ythjenemmhlljfaa
open Go Go.RowKit Go.Lib
set_option linter.unusedVariables false

theorem mnA_k {A : Aut} (h : chkA A = 0) : (mnA A).k = A.k := by
  unfold mnA
  rw [if_pos h]
  have G := chkA_good h
  unfold ioA
  obtain ⟨M, N, hb, _⟩ := bgo_total (d := dC A (lvl A A.ac.length)) (K := A.k.toNat) (N := A.ac.length) (x := 0) ⟨G.kn.1, G.kn.2.1⟩ G.n2 (fun s c hs hc => by
    have h1 := (G.at (s := s) (c := c) hs (by have := G.kn.2.2; omega)).2.2
    have := lvl_lt (A := A) A.ac.length (s := dN A s c) (by rw [lvl_len]; exact h1)
    rw [lvl_len] at this
    exact this) 32768 [0] [] (BI.start _ _ _) (fun s hs => by simp at hs; have := G.n1; omega)
  have hb' : bfs (dC A (lvl A A.ac.length)) A.k.toNat 0 = some (M, N) := hb
  rw [hb']

set_option maxHeartbeats 4000000 in
set_option maxRecDepth 100000 in
theorem rIs_any (v : Value) (A : Aut) (w : World) (h : AR w v A) (hm : A.nx.length ≤ 9223372036854775806) (hm2 : A.ac.length ≤ 9223372036854775806) :
    Calls Try.prog 22 #[v] w fun e w' => e = .returned (.tuple #[.bool (isV A), .int .i64 (chkA A)]) ∧ Below w.heap.size w w' := by
  obtain ⟨an, cn, aa, ca, e, k1, k2⟩ := h.is
  have HAR : Hid (∀ y, Below w.heap.size w y → AR y v A) := fun y hy => h.stay hy
  subst e
  clear h k1 k2
  go_enter Try.func22, Try.ntmps22
  go_wp2_with fail
  refine (rminimal_any _ A _ (HAR.out _ (below_new _ _)) hm hm2).mono ?_
  rintro e w1 ⟨v1, vt, rfl, hao, hT, hb1⟩
  have hml := mnA_len A
  have HMK : Hid (chkA A = 0 → isV A = smV (mnA A) A) := fun h => isV_smV A h (mnA_k h)
  have HNO : Hid (chkA A = 80 → isV A = false) := fun h => by show _ = _; unfold isV; rw [decide_eq_false (by rw [h]; decide)]; rfl
  obtain ⟨B, hB⟩ : ∃ B, mnA A = B := ⟨_, rfl⟩
  rw [hB] at hao hml HMK
  obtain ⟨bn, dn, ba, da, rfl, o1, o2⟩ := hao
  obtain ⟨ta, tc, rfl⟩ := own_shape hT
  have HB1 : Hid (Below w.heap.size w w1) := go_on (below_new _ _) hb1
  have HR1 : Hid (RowAt w1 w.heap.size #[.int .i64 A.k, .slice an A.nx.length cn, .slice aa A.ac.length ca]) := RowAt.new hb1
  have HBR : Hid (∀ y, Below w1.heap.size w1 y → AR y (.agg #[.int .i64 B.k, .slice bn B.nx.length dn, .slice ba B.ac.length da]) B) := fun y hy => ⟨_, _, _, _, rfl, (own_sr o1).stay hy, (own_sr o2).stay hy⟩
  have csa : ∀ O o, (w1.alloc O).cell? ⟨w.heap.size, o, none⟩ = (#[.int .i64 A.k, .slice an A.nx.length cn, .slice aa A.ac.length ca] : Array Value)[o]? := fun O => (HR1.out.alloc O).cell
  rcases chkA_cases A with ⟨G, hc⟩ | ⟨G, hc⟩
  · have HC : Hid (chkA A = 0) := hc
    rw [hc]
    have E1 : Hid (∀ y, Below w1.heap.size w1 y → Calls Try.prog 40 #[.agg #[.int .i64 B.k, .slice bn B.nx.length dn, .slice ba B.ac.length da], .agg #[.int .i64 A.k, .slice an A.nx.length cn, .slice aa A.ac.length ca]] y fun e w' => e = .returned (.bool (smV B A)) ∧ Below y.heap.size y w') := fun y hy => rSame_any _ _ B A y (HBR.out y hy) (HAR.out y (go_on HB1.out hy)) (by omega) (by omega) hm hm2
    obtain ⟨p, hp⟩ : ∃ p, smV B A = p := ⟨_, rfl⟩
    rw [hp] at E1
    have HV : Hid (isV A = p) := by show _ = _; rw [HMK.out HC.out, hp]
    clear hp hc G o1 o2 hT hb1 hB HMK HNO
    go_wp2_with (first
        | (go_at_call 40; refine (E1.out _ (below_new _ _)).mono ?_; rintro e y1 ⟨rfl, hy1⟩; have HY1 : Hid (Below w.heap.size w y1) := go_on (go_on HB1.out (below_new _ _)) hy1; clear hy1))
    go_ret2
    exact ⟨by rw [HV.out, HC.out]; rfl, HY1.out⟩
  · have HC : Hid (chkA A = 80) := hc
    have HV : Hid (isV A = false) := HNO.out hc
    rw [hc]
    clear hc o1 o2 hT hb1 hB HMK HNO
    go_wp2_with fail
    go_ret2
    exact ⟨by rw [HV.out, HC.out]; rfl, go_on HB1.out (below_new _ _)⟩
end Go.Proofs.Ythjenemmhlljfaa
