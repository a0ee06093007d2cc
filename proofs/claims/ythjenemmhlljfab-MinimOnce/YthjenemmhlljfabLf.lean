/- minim.apart: what it keeps in memory; its closure meet. -/
import Derived.Test.YthjenemmhlljfabLe
import Derived.Test.YthjenemmhlljfabMk
import Derived.Deep.AppendLies
namespace Go.Proofs.Ythjenemmhlljfab
open Go Go.RowKit Go.Lib
set_option linter.unusedVariables false

theorem cell_news (w : World) (arr : Array Value) (t : TypeId) : ∀ (j : Nat) (u : Value), arr.toList[j]? = some u → (w.alloc (.cells arr t)).cell? ((⟨w.heap.size, 0, none⟩ : Addr).add j) = some u := by
  intro j u h
  have e : ((⟨w.heap.size, 0, none⟩ : Addr).add j) = ⟨w.heap.size, j, none⟩ := by unfold Addr.add; cases j <;> simp
  rw [e, cell_of (heap_alloc_last w (.cells arr t))]
  simpa using h
theorem Try.info_meeting : (Try.prog.info? 64).map (fun i => (i.zero, i.size, i.bytes)) = some (some (.agg #[.int .i64 0, .int .i64 0, .int .i64 0, .int .u8 0]), 4, 32) := by kernel_rfl
/-- The forest in row g, by a variable at ab; the queue, by a variable at qb. -/
structure AM (V : World) (qb ab g N : Nat) (f : List Value) (n : Nat) (qc : List Value) (vq : Value) (wr : World) : Prop where
  q : wr.heap[qb]? = some (.cells #[vq] 61 (0, 0))
  a : wr.heap[ab]? = some (.cells #[.slice (some ⟨g, 0, none⟩) N N] 22 (0, 0))
  row : wr.ownsRow V.heap.size 3 1 (.slice (some ⟨g, 0, none⟩) N N) N f
  que : wr.ownsRow V.heap.size 64 4 vq n qc
  below : Below V.heap.size V wr
  ql : V.heap.size ≤ qb
theorem AM.call {V : World} {qb ab g N : Nat} {f : List Value} {n : Nat} {qc : List Value} {vq : Value} {wr w2 : World} (h : AM V qb ab g N f n qc vq wr) (hb : Below wr.heap.size wr w2) : AM V qb ab g N f n qc vq w2 :=
  ⟨(hb.block _ (Array.getElem?_eq_some_iff.1 h.q).1).trans h.q, (hb.block _ (Array.getElem?_eq_some_iff.1 h.a).1).trans h.a, own_below h.row hb, own_below h.que hb, go_on h.below hb, h.ql⟩
theorem AM.blk {V : World} {qb ab g N : Nat} {f : List Value} {n : Nat} {qc : List Value} {vq : Value} {wr : World} (h : AM V qb ab g N f n qc vq wr) : V.heap.size ≤ g ∧ ∃ cur, wr.heap[g]? = some (.cells cur 3 (0, 0)) := own_blk h.row rfl
theorem AM.joined {V : World} {qb ab g N : Nat} {f f' : List Value} {n : Nat} {qc : List Value} {vq : Value} {wr w2 : World} (h : AM V qb ab g N f n qc vq wr) (ht : OT g wr w2) (hr : w2.ownsRow V.heap.size 3 1 (.slice (some ⟨g, 0, none⟩) N N) N f') : AM V qb ab g N f' n qc vq w2 := by
  obtain ⟨hlo, cur, hg⟩ := h.blk
  have so : ∀ (b : Nat) (O : Obj), wr.heap[b]? = some O → (∀ cur : Array Value, O ≠ Obj.cells cur 3 (0, 0)) → w2.heap[b]? = wr.heap[b]? := fun b O hb hne => ht.block b (Array.getElem?_eq_some_iff.1 hb).1 (fun e => by
    rw [e, hg, Option.some.injEq] at hb
    exact hne _ hb.symm)
  refine ⟨(so _ _ h.q (fun cur e => by injection e with _ e _; cases e)).trans h.q, (so _ _ h.a (fun cur e => by injection e with _ e _; cases e)).trans h.a, hr, own_keep h.que (fun b cur _ hc => so b _ hc (fun cur' e => by injection e with _ e _; cases e)), ?_, h.ql⟩
  exact h.below.trans (ht.below hlo h.below.size)
theorem AM.met {V : World} {qb ab g N : Nat} {f : List Value} {n : Nat} {qc new : List Value} {vq vq' : Value} {wr w2 : World} {o : Obj} (h : AM V qb ab g N f n qc vq wr) (hg : (wr.alloc o).grownBy w2 vq.ownBlock) (ho : w2.ownsRow V.heap.size 64 4 vq' (n + 1) (qc ++ new)) :
    w2.heap[qb]? = some (.cells #[vq] 61 (0, 0)) ∧ AM V qb ab g N f (n + 1) (qc ++ new) vq' (w2.setCell ⟨qb, 0, none⟩ vq') := by
  have k' : ∀ b, b < wr.heap.size → vq.ownBlock ≠ some b → w2.heap[b]? = wr.heap[b]? := fun b hlt hne => by
    rw [hg.block b (by simp; omega) (fun e => hne e.symm)]
    exact (below_new wr o).block b hlt
  have kt : ∀ (b : Nat) (O : Obj), wr.heap[b]? = some O → (∀ cur : Array Value, O ≠ Obj.cells cur 64 (0, 0)) → w2.heap[b]? = wr.heap[b]? := fun b O hb hne => k' b (Array.getElem?_eq_some_iff.1 hb).1 (fun e => by
    obtain ⟨_, cur, hc⟩ := own_blk h.que e
    rw [hc, Option.some.injEq] at hb
    exact hne cur hb.symm)
  have hq := (kt _ _ h.q (fun cur e => by injection e with _ e _; cases e)).trans h.q
  have ha := (kt _ _ h.a (fun cur e => by injection e with _ e _; cases e)).trans h.a
  have so : ∀ (b : Nat) (cur : Array Value) (e : TypeId), w2.heap[b]? = some (.cells cur e (0, 0)) → e ≠ 61 → (w2.setCell ⟨qb, 0, none⟩ vq').heap[b]? = w2.heap[b]? := fun b cur e hb hne => heap_set_other (fun q => by rw [q, hq] at hb; simp at hb; exact hne hb.2.symm)
  have hr : w2.ownsRow V.heap.size 3 1 (.slice (some ⟨g, 0, none⟩) N N) N f := own_keep h.row (fun b cur _ hc => kt b _ hc (fun cur' e => by injection e with _ e _; cases e))
  refine ⟨hq, heap_set hq, (so _ _ _ ha (by decide)).trans ha, own_keep hr (fun b cur _ hc => so b cur _ hc (by decide)), own_keep ho (fun b cur _ hc => so b cur _ hc (by decide)), ?_, h.ql⟩
  exact ((h.below.alloc (by have := h.below.size; omega) o).grown hg (by have := h.below.size; simp; omega) (fun b hb => (h.que.lt b hb).1)).setCell (p := ⟨qb, 0, none⟩) h.ql _
/-- Blocks but those of the queue and of the forest stay. -/
structure KP (qb g : Nat) (vq vq' : Value) (w w' : World) : Prop where
  keep : ∀ b, b < w.heap.size → b ≠ qb → b ≠ g → vq.ownBlock ≠ some b → w'.heap[b]? = w.heap[b]?
  at' : ∀ b, vq'.ownBlock = some b → vq.ownBlock = some b ∨ w.heap.size ≤ b
  size : w.heap.size ≤ w'.heap.size
/-- What meet leaves. -/
def MtR (V : World) (qb ab g N : Nat) (r : Nat → Nat) (n : Nat) (qc : List Value) (x y : Nat) (mt : List Value) (vq : Value) (w w' : World) : Prop :=
  (r x = r y ∧ ∃ f' e' vq', UF N f' r e' ∧ AM V qb ab g N (nC f') n qc vq' w' ∧ KP qb g vq vq' w w') ∨ (r x ≠ r y ∧ ∃ f' e' vq', UF N f' (jn r x y) e' ∧ AM V qb ab g N (nC f') (n + 1) (qc ++ mt) vq' w' ∧ KP qb g vq vq' w w')
def MtQ (V : World) (qb ab g N : Nat) (r : Nat → Nat) (n : Nat) (qc : List Value) (x y : Nat) (mt : List Value) (vq : Value) (w : World) (e : Ending) (w' : World) : Prop := e = .returned (.tuple #[]) ∧ MtR V qb ab g N r n qc x y mt vq w w'

set_option maxHeartbeats 4000000 in
set_option maxRecDepth 100000 in
theorem meet_any (V : World) (qb ab g N : Nat) (hN : N ≤ 4096) (f : List Nat) (r e : Nat → Nat) (U : UF N f r e) (n : Nat) (hn : n ≤ 4096) (qc : List Value) (vq : Value) (w : World) (h : AM V qb ab g N (nC f) n qc vq w) (x y : Nat) (hx : x < N) (hy : y < N) (u l : Int) :
    Calls Try.prog 34 #[.agg #[.int .i64 x, .int .i64 y, .int .i64 u, .int .u8 l], .pointer (some ⟨ab, 0, none⟩), .pointer (some ⟨qb, 0, none⟩)] w (MtQ V qb ab g N r n qc x y [.int .i64 x, .int .i64 y, .int .i64 u, .int .u8 l] vq w) := by
  obtain ⟨i0, hi, hz0, hz1, hz2⟩ := info_parts Try.info_meeting
  have hA0 := h.call (below_new w (.cells #[.int .i64 x, .int .i64 y, .int .i64 u, .int .u8 l] 64))
  have HR0 : Hid (RowAt (w.alloc (.cells #[.int .i64 x, .int .i64 y, .int .i64 u, .int .u8 l] 64)) w.heap.size #[.int .i64 x, .int .i64 y, .int .i64 u, .int .u8 l]) := RowAt.last _ _ _
  have HA0 : Hid (AM V qb ab g N (nC f) n qc vq (w.alloc (.cells #[.int .i64 x, .int .i64 y, .int .i64 u, .int .u8 l] 64))) := hA0
  have HU : Hid (UF N f r e) := U
  have HNG : Hid (w.heap.size ≠ g) := by
    obtain ⟨_, cur, hg⟩ := h.blk
    have := (Array.getElem?_eq_some_iff.1 hg).1
    show _ ≠ _
    omega
  have ca : (w.alloc (.cells #[.int .i64 x, .int .i64 y, .int .i64 u, .int .u8 l] 64)).cell? ⟨ab, 0, none⟩ = some (.slice (some ⟨g, 0, none⟩) N N) := cell_of hA0.a
  clear h U hA0
  go_enter Try.func34, Try.ntmps34
  go_wp2_with fail
  refine (join_any V.heap.size g N hN f r e HU.out x y hx hy _ HA0.out.row).mono ?_
  rintro z w1 ⟨rfl, f1, e1, u1, o1, t1⟩
  have hA1 := HA0.out.joined t1 o1
  have HA1 : Hid (AM V qb ab g N (nC f1) n qc vq w1) := hA1
  have HU1 : Hid (UF N f1 (if r x = r y then r else jn r x y) e1) := u1
  have HK1 : Hid (∀ b, b < w.heap.size → b ≠ g → w1.heap[b]? = w.heap[b]?) := fun b hb hn => (t1.block b (by simp; omega) hn).trans ((below_new _ _).block b hb)
  have HS1 : Hid (w.heap.size ≤ w1.heap.size) := by have := t1.size; simp at this; show _ ≤ _; omega
  by_cases hr : r x = r y
  · have HRR : Hid (r x = r y) := hr
    rw [show decide (r x ≠ r y) = false by simpa using hr]
    clear u1 o1 t1 hA1 hr ca
    go_wp2_with fail
    go_end0
    refine ⟨rfl, .inl ⟨HRR.out, f1, e1, vq, ?_, HA1.out, ⟨fun b hb _ hn _ => HK1.out b hb hn, fun b hb => .inl hb, HS1.out⟩⟩⟩
    have := HU1.out
    rw [if_pos HRR.out] at this
    exact this
  · have HRR : Hid (r x ≠ r y) := hr
    rw [show decide (r x ≠ r y) = true by simpa using hr]
    have cs : ∀ o, w1.cell? ⟨w.heap.size, o, none⟩ = (#[.int .i64 x, .int .i64 y, .int .i64 u, .int .u8 l] : Array Value)[o]? := fun o => (t1.cell (by simp) HNG.out).trans (HR0.out.cell o)
    have cq : w1.cell? ⟨qb, 0, none⟩ = some vq := cell_of hA1.q
    obtain ⟨va, vc, hvq⟩ := own_shape hA1.que
    subst hvq
    have hVs : V.heap.size ≤ w1.heap.size := hA1.below.size
    clear u1 o1 t1 hA1 hr ca
    go_wp2_with (at_builtin; refine wpList_append_own_at _ rfl _ _ 61 rfl V.heap.size 64 i0 (.agg #[.int .i64 0, .int .i64 0, .int .i64 0, .int .u8 0]) 4 32 Try.underlying61 hi hz0 hz1 hz2 rfl (by decide) _ _ _ rfl (HA1.out.que.alloc _) ⟨w1.heap.size, 0, none⟩ 1 1 [.int .i64 (x : Int), .int .i64 (y : Int), .int .i64 u, .int .u8 l] rfl rfl (cell_news w1 #[.int .i64 (x : Int), .int .i64 (y : Int), .int .i64 u, .int .u8 l] 64) (by intro z hz; simp at hz; rcases hz with rfl | rfl | rfl | rfl <;> rfl) (by unfold maxLen; omega) (by omega) (by simp; omega) ?_; intro v6 w6 ho6 hg6 _ hl6; have hM6 := HA1.out.met hg6 ho6; have c6 : w6.cell? ⟨qb, 0, none⟩ = some (.slice va n vc) := cell_of hM6.1; have f6 : w6.frozen? ⟨qb, 0, none⟩ = false := froz_of hM6.1; obtain ⟨a6, d6, rfl⟩ := own_shape ho6; have HM6 : Hid _ := hM6.2; have HG6 : Hid (∀ b, b < w1.heap.size → b ≠ qb → (Value.slice va n vc).ownBlock ≠ some b → (w6.setCell ⟨qb, 0, none⟩ (.slice a6 (n + 1) d6)).heap[b]? = w1.heap[b]?) := (fun b hb hq hv => by rw [heap_set_other hq, hg6.block b (by simp; omega) (fun e => hv e.symm)]; exact (below_new _ _).block b hb); have HL6 : Hid (∀ b, (Value.slice a6 (n + 1) d6).ownBlock = some b → (Value.slice va n vc).ownBlock = some b ∨ w1.heap.size + 1 = b) := (fun b hb => by rcases hl6 with q | q; exact .inl (q ▸ hb); rw [q] at hb; simp at hb; exact .inr hb); have HS6 : Hid (w1.heap.size ≤ w6.heap.size) := (by have := hg6.size; simp at this; show _ ≤ _; omega); clear hM6 ho6 hg6 hl6)
    go_end0
    refine ⟨rfl, .inr ⟨HRR.out, f1, e1, _, ?_, HM6.out, ⟨fun b hb hq hn hv => ?_, fun b hb => ?_, ?_⟩⟩⟩
    rotate_left
    · exact (HG6.out b (by have := HS1.out; omega) hq hv).trans (HK1.out b hb hn)
    · rcases HL6.out b hb with q | q
      · exact .inl q
      · exact .inr (by have := HS1.out; omega)
    · have h1 := HS1.out
      have h2 := HS6.out
      simp [World.setCell]
      omega
    have := HU1.out
    rw [if_neg HRR.out] at this
    exact this
end Go.Proofs.Ythjenemmhlljfab
