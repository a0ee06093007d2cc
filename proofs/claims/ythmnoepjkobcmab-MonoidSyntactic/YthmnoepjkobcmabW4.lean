/- Lf Rq Jo Lg Lh Ml, in one text. -/
import Derived.Test.YthmnoepjkobcmabW2
import Derived.Test.YthmnoepjkobcmabW3
import Derived.Deep.AppendLies
import Derived.Test.YthmnoepjkobcmabRows
import Derived.WalkKit
import Derived.WalkSpells
import Derived.WalkLawsBesides
import Derived.Lib.UnsafeStr
import Derived.Deep.RegionWith
import Derived.Laws.IdiomStrings
import Derived.Deep.RegionHeld3
import Derived.Deep.DeepCutAuto
namespace Go.Proofs.Ythmnoepjkobcmab
open Go Go.RowKit Go.Lib
set_option linter.unusedVariables false

theorem cell_news (w : World) (arr : Array Value) (t : TypeId) : ∀ (j : Nat) (u : Value), arr.toList[j]? = some u → (w.alloc (.cells arr t)).cell? ((⟨w.heap.size, 0, none⟩ : Addr).add j) = some u := by
  intro j u h
  have e : ((⟨w.heap.size, 0, none⟩ : Addr).add j) = ⟨w.heap.size, j, none⟩ := by unfold Addr.add; cases j <;> simp
  rw [e, cell_of (heap_alloc_last w (.cells arr t))]
  simpa using h

theorem Try.info_meeting : (Try.prog.info? 117).map (fun i => (i.zero, i.size, i.bytes)) = some (some (.agg #[.int .i64 0, .int .i64 0, .int .i64 0, .int .u8 0]), 4, 32) := by kernel_rfl
/-- The forest in row g, by a variable at ab; the queue, by a variable at qb. -/
structure AM (V : World) (qb ab g N : Nat) (f : List Value) (n : Nat) (qc : List Value) (vq : Value) (wr : World) : Prop where
  q : wr.heap[qb]? = some (.cells #[vq] 114 (0, 0))
  a : wr.heap[ab]? = some (.cells #[.slice (some ⟨g, 0, none⟩) N N] 22 (0, 0))
  row : wr.ownsRow V.heap.size 3 1 (.slice (some ⟨g, 0, none⟩) N N) N f
  que : wr.ownsRow V.heap.size 117 4 vq n qc
  below : Below V.heap.size V wr
  ql : V.heap.size ≤ qb
theorem AM.call {V : World} {qb ab g N : Nat} {f : List Value} {n : Nat} {qc : List Value} {vq : Value} {wr w2 : World} (h : AM V qb ab g N f n qc vq wr) (hb : Below wr.heap.size wr w2) : AM V qb ab g N f n qc vq w2 :=
  ⟨(hb.block _ (Array.getElem?_eq_some_iff.1 h.q).1).trans h.q, (hb.block _ (Array.getElem?_eq_some_iff.1 h.a).1).trans h.a, own_below h.row hb, own_below h.que hb, go_on h.below hb, h.ql⟩
theorem AM.blk {V : World} {qb ab g N : Nat} {f : List Value} {n : Nat} {qc : List Value} {vq : Value} {wr : World} (h : AM V qb ab g N f n qc vq wr) : V.heap.size ≤ g ∧ ∃ cur, wr.heap[g]? = some (.cells cur 3 (0, 0)) := own_blk h.row rfl
theorem AM.joined {V : World} {qb ab g N : Nat} {f f' : List Value} {n : Nat} {qc : List Value} {vq : Value} {wr w2 : World} (h : AM V qb ab g N f n qc vq wr) (ht : OT g wr w2) (hr : w2.ownsRow V.heap.size 3 1 (.slice (some ⟨g, 0, none⟩) N N) N f') : AM V qb ab g N f' n qc vq w2 := by
  obtain ⟨hlo, cur, hg⟩ := h.blk
  have so : ∀ (b : Nat) (O : Obj), wr.heap[b]? = some O → (∀ cur : Array Value, O ≠ Obj.cells cur 3 (0, 0)) → w2.heap[b]? = wr.heap[b]? := fun b O hb hne => ht.block b (Array.getElem?_eq_some_iff.1 hb).1 (fun e => by
    rw [e, hg, Option.some.injEq] at hb
    exact hne _ hb.symm)
  refine ⟨(so _ _ h.q (fun cur e => by injection e with _ e _; cases e)).trans h.q, (so _ _ h.a (fun cur e => by injection e with _ e _; cases e)).trans h.a, hr, own_keep h.que (fun b cur _ hc => so b _ hc (fun cur' e => by injection e with _ e _; cases e)), ?_, h.ql⟩
  exact h.below.trans (ht.below hlo h.below.size)
theorem AM.met {V : World} {qb ab g N : Nat} {f : List Value} {n : Nat} {qc new : List Value} {vq vq' : Value} {wr w2 : World} {o : Obj} (h : AM V qb ab g N f n qc vq wr) (hg : (wr.alloc o).grownBy w2 vq.ownBlock) (ho : w2.ownsRow V.heap.size 117 4 vq' (n + 1) (qc ++ new)) :
    w2.heap[qb]? = some (.cells #[vq] 114 (0, 0)) ∧ AM V qb ab g N f (n + 1) (qc ++ new) vq' (w2.setCell ⟨qb, 0, none⟩ vq') := by
  have k' : ∀ b, b < wr.heap.size → vq.ownBlock ≠ some b → w2.heap[b]? = wr.heap[b]? := fun b hlt hne => by
    rw [hg.block b (by simp; omega) (fun e => hne e.symm)]
    exact (below_new wr o).block b hlt
  have kt : ∀ (b : Nat) (O : Obj), wr.heap[b]? = some O → (∀ cur : Array Value, O ≠ Obj.cells cur 117 (0, 0)) → w2.heap[b]? = wr.heap[b]? := fun b O hb hne => k' b (Array.getElem?_eq_some_iff.1 hb).1 (fun e => by
    obtain ⟨_, cur, hc⟩ := own_blk h.que e
    rw [hc, Option.some.injEq] at hb
    exact hne cur hb.symm)
  have hq := (kt _ _ h.q (fun cur e => by injection e with _ e _; cases e)).trans h.q
  have ha := (kt _ _ h.a (fun cur e => by injection e with _ e _; cases e)).trans h.a
  have so : ∀ (b : Nat) (cur : Array Value) (e : TypeId), w2.heap[b]? = some (.cells cur e (0, 0)) → e ≠ 114 → (w2.setCell ⟨qb, 0, none⟩ vq').heap[b]? = w2.heap[b]? := fun b cur e hb hne => heap_set_other (fun q => by rw [q, hq] at hb; simp at hb; exact hne hb.2.symm)
  have hr : w2.ownsRow V.heap.size 3 1 (.slice (some ⟨g, 0, none⟩) N N) N f := own_keep h.row (fun b cur _ hc => kt b _ hc (fun cur' e => by injection e with _ e _; cases e))
  refine ⟨hq, heap_set hq, (so _ _ _ ha (by decide)).trans ha, own_keep hr (fun b cur _ hc => so b cur _ hc (by decide)), own_keep ho (fun b cur _ hc => so b cur _ hc (by decide)), ?_, h.ql⟩
  exact ((h.below.alloc (by have := h.below.size; omega) o).grown hg (by have := h.below.size; simp; omega) (fun b hb => (h.que.lt b hb).1)).setCell (p := ⟨qb, 0, none⟩) h.ql _
/-- Blocks but those of the queue and of the forest stay. -/
structure KPJ (qb g : Nat) (vq vq' : Value) (w w' : World) : Prop where
  keep : ∀ b, b < w.heap.size → b ≠ qb → b ≠ g → vq.ownBlock ≠ some b → w'.heap[b]? = w.heap[b]?
  at' : ∀ b, vq'.ownBlock = some b → vq.ownBlock = some b ∨ w.heap.size ≤ b
  size : w.heap.size ≤ w'.heap.size
/-- What meet leaves. -/
def MtR (V : World) (qb ab g N : Nat) (r : Nat → Nat) (n : Nat) (qc : List Value) (x y : Nat) (mt : List Value) (vq : Value) (w w' : World) : Prop :=
  (r x = r y ∧ ∃ f' e' vq', UF N f' r e' ∧ AM V qb ab g N (nC f') n qc vq' w' ∧ KPJ qb g vq vq' w w') ∨ (r x ≠ r y ∧ ∃ f' e' vq', UF N f' (jn r x y) e' ∧ AM V qb ab g N (nC f') (n + 1) (qc ++ mt) vq' w' ∧ KPJ qb g vq vq' w w')
def MtQ (V : World) (qb ab g N : Nat) (r : Nat → Nat) (n : Nat) (qc : List Value) (x y : Nat) (mt : List Value) (vq : Value) (w : World) (e : Ending) (w' : World) : Prop := e = .returned (.tuple #[]) ∧ MtR V qb ab g N r n qc x y mt vq w w'

set_option maxHeartbeats 4000000 in
set_option maxRecDepth 100000 in
theorem meet_any (V : World) (qb ab g N : Nat) (hN : N ≤ 4096) (f : List Nat) (r e : Nat → Nat) (U : UF N f r e) (n : Nat) (hn : n ≤ 4096) (qc : List Value) (vq : Value) (w : World) (h : AM V qb ab g N (nC f) n qc vq w) (x y : Nat) (hx : x < N) (hy : y < N) (u l : Int) :
    Calls Try.prog 52 #[.agg #[.int .i64 x, .int .i64 y, .int .i64 u, .int .u8 l], .pointer (some ⟨ab, 0, none⟩), .pointer (some ⟨qb, 0, none⟩)] w (MtQ V qb ab g N r n qc x y [.int .i64 x, .int .i64 y, .int .i64 u, .int .u8 l] vq w) := by
  obtain ⟨i0, hi, hz0, hz1, hz2⟩ := info_parts Try.info_meeting
  have hA0 := h.call (below_new w (.cells #[.int .i64 x, .int .i64 y, .int .i64 u, .int .u8 l] 117))
  have HR0 : Hid (RowAt (w.alloc (.cells #[.int .i64 x, .int .i64 y, .int .i64 u, .int .u8 l] 117)) w.heap.size #[.int .i64 x, .int .i64 y, .int .i64 u, .int .u8 l]) := RowAt.last _ _ _
  have HA0 : Hid (AM V qb ab g N (nC f) n qc vq (w.alloc (.cells #[.int .i64 x, .int .i64 y, .int .i64 u, .int .u8 l] 117))) := hA0
  have HU : Hid (UF N f r e) := U
  have HNG : Hid (w.heap.size ≠ g) := by
    obtain ⟨_, cur, hg⟩ := h.blk
    have := (Array.getElem?_eq_some_iff.1 hg).1
    show _ ≠ _
    omega
  have ca : (w.alloc (.cells #[.int .i64 x, .int .i64 y, .int .i64 u, .int .u8 l] 117)).cell? ⟨ab, 0, none⟩ = some (.slice (some ⟨g, 0, none⟩) N N) := cell_of hA0.a
  clear h U hA0
  go_enter Try.func52, Try.ntmps52
  go_wp2_with fail
  refine (join_any V.heap.size g N hN f r e HU.out x y hx hy _ HA0.out.row).mono ?_
  rintro z w1 ⟨rfl, f1, e1, u1, o1, t1⟩
  have hA1 := HA0.out.joined t1 o1
  have HA1 : Hid (AM V qb ab g N (nC f1) n qc vq w1) := hA1
  have HU1 : Hid (UF N f1 (if r x = r y then r else jn r x y) e1) := u1
  have HK1 : Hid (∀ b, b < w.heap.size → b ≠ g → w1.heap[b]? = w.heap[b]?) := fun b hb hn => (t1.block b (by simp; omega) hn).trans ((below_new _ _).block b hb)
  have HS1 : Hid (w.heap.size ≤ w1.heap.size) := by have := t1.size; simp at this; show _ ≤ _; omega
  by_cases hr : r x = r y
  · have HRR : Hid (r x = r y) := hr
    rw [show decide (r x ≠ r y) = false by simpa using hr]
    clear u1 o1 t1 hA1 hr ca
    go_wp2_with fail
    go_end0
    refine ⟨rfl, .inl ⟨HRR.out, f1, e1, vq, ?_, HA1.out, ⟨fun b hb _ hn _ => HK1.out b hb hn, fun b hb => .inl hb, HS1.out⟩⟩⟩
    have := HU1.out
    rw [if_pos HRR.out] at this
    exact this
  · have HRR : Hid (r x ≠ r y) := hr
    rw [show decide (r x ≠ r y) = true by simpa using hr]
    have cs : ∀ o, w1.cell? ⟨w.heap.size, o, none⟩ = (#[.int .i64 x, .int .i64 y, .int .i64 u, .int .u8 l] : Array Value)[o]? := fun o => (t1.cell (by simp) HNG.out).trans (HR0.out.cell o)
    have cq : w1.cell? ⟨qb, 0, none⟩ = some vq := cell_of hA1.q
    obtain ⟨va, vc, hvq⟩ := own_shape hA1.que
    subst hvq
    have hVs : V.heap.size ≤ w1.heap.size := hA1.below.size
    clear u1 o1 t1 hA1 hr ca
    go_wp2_with (at_builtin; refine wpList_append_own_at _ rfl _ _ 114 rfl V.heap.size 117 i0 (.agg #[.int .i64 0, .int .i64 0, .int .i64 0, .int .u8 0]) 4 32 Try.underlying114 hi hz0 hz1 hz2 rfl (by decide) _ _ _ rfl (HA1.out.que.alloc _) ⟨w1.heap.size, 0, none⟩ 1 1 [.int .i64 (x : Int), .int .i64 (y : Int), .int .i64 u, .int .u8 l] rfl rfl (cell_news w1 #[.int .i64 (x : Int), .int .i64 (y : Int), .int .i64 u, .int .u8 l] 117) (by intro z hz; simp at hz; rcases hz with rfl | rfl | rfl | rfl <;> rfl) (by unfold maxLen; omega) (by omega) (by simp; omega) ?_; intro v6 w6 ho6 hg6 _ hl6; have hM6 := HA1.out.met hg6 ho6; have c6 : w6.cell? ⟨qb, 0, none⟩ = some (.slice va n vc) := cell_of hM6.1; have f6 : w6.frozen? ⟨qb, 0, none⟩ = false := froz_of hM6.1; obtain ⟨a6, d6, rfl⟩ := own_shape ho6; have HM6 : Hid _ := hM6.2; have HG6 : Hid (∀ b, b < w1.heap.size → b ≠ qb → (Value.slice va n vc).ownBlock ≠ some b → (w6.setCell ⟨qb, 0, none⟩ (.slice a6 (n + 1) d6)).heap[b]? = w1.heap[b]?) := (fun b hb hq hv => by rw [heap_set_other hq, hg6.block b (by simp; omega) (fun e => hv e.symm)]; exact (below_new _ _).block b hb); have HL6 : Hid (∀ b, (Value.slice a6 (n + 1) d6).ownBlock = some b → (Value.slice va n vc).ownBlock = some b ∨ w1.heap.size + 1 = b) := (fun b hb => by rcases hl6 with q | q; exact .inl (q ▸ hb); rw [q] at hb; simp at hb; exact .inr hb); have HS6 : Hid (w1.heap.size ≤ w6.heap.size) := (by have := hg6.size; simp at this; show _ ≤ _; omega); clear hM6 ho6 hg6 hl6)
    go_end0
    refine ⟨rfl, .inr ⟨HRR.out, f1, e1, _, ?_, HM6.out, ⟨fun b hb hq hn hv => ?_, fun b hb => ?_, ?_⟩⟩⟩
    rotate_left
    · exact (HG6.out b (by have := HS1.out; omega) hq hv).trans (HK1.out b hb hn)
    · rcases HL6.out b hb with q | q
      · exact .inl q
      · exact .inr (by have := HS1.out; omega)
    · have h1 := HS1.out
      have h2 := HS6.out
      simp [World.setCell]
      omega
    have := HU1.out
    rw [if_neg HRR.out] at this
    exact this
end Go.Proofs.Ythmnoepjkobcmab

namespace Go.Proofs.Ythmnoepjkobcmab
open Go.RowKit Go.Lib

/-- The first i and the last i places changed about. -/
def revTo (l : List UInt8) (i : Nat) : List UInt8 := List.ofFn (n := l.length) fun t => if t.val < i ∨ l.length ≤ t.val + i then l.getD (l.length - 1 - t.val) 0 else l.getD t.val 0
theorem revTo_length (l : List UInt8) (i : Nat) : (revTo l i).length = l.length := by simp [revTo]
theorem revTo_get (l : List UInt8) (i t : Nat) (h : t < l.length) : (revTo l i)[t]? = some (if t < i ∨ l.length ≤ t + i then l.getD (l.length - 1 - t) 0 else l.getD t 0) := by
  simp [revTo, h]
theorem revTo_zero (l : List UInt8) : revTo l 0 = l := by
  apply List.ext_getElem?
  intro t
  by_cases h : t < l.length
  · rw [revTo_get l 0 t h, if_neg (by omega)]
    simp [h]
  · rw [List.getElem?_eq_none (by rw [revTo_length]; omega), List.getElem?_eq_none (by omega)]
theorem revTo_end (l : List UInt8) (i : Nat) (h : l.length ≤ 2 * i + 1) : revTo l i = l.reverse := by
  apply List.ext_getElem?
  intro t
  by_cases ht : t < l.length
  · rw [revTo_get l i t ht, List.getElem?_reverse ht]
    have e : ∀ x, x < l.length → l[x]? = some (l.getD x 0) := fun x hx => by simp [hx]
    by_cases hc : t < i ∨ l.length ≤ t + i
    · rw [if_pos hc, e _ (by omega)]
    · rw [if_neg hc]
      have : l.length - 1 - t = t := by omega
      rw [this, e t ht]
  · rw [List.getElem?_eq_none (by rw [revTo_length]; omega), List.getElem?_eq_none (by simp; omega)]
theorem revTo_step (l : List UInt8) (i : Nat) (h : 2 * i + 1 < l.length) :
    revTo l (i + 1) = ((revTo l i).set i (l.getD (l.length - 1 - i) 0)).set (l.length - 1 - i) (l.getD i 0) := by
  apply List.ext_getElem?
  intro t
  by_cases ht : t < l.length
  · rw [revTo_get l (i + 1) t ht]
    simp only [List.getElem?_set, List.length_set, revTo_length]
    by_cases h1 : l.length - 1 - i = t
    · rw [if_pos h1, if_pos (by omega), if_pos (by omega)]
      have : l.length - 1 - t = i := by omega
      rw [this]
    · rw [if_neg h1]
      by_cases h2 : i = t
      · rw [if_pos h2, if_pos (by omega), if_pos (by omega)]
        rw [h2]
      · rw [if_neg h2, revTo_get l i t ht]
        by_cases h3 : t < i ∨ l.length ≤ t + i
        · rw [if_pos (by omega), if_pos h3]
        · rw [if_neg (by omega), if_neg h3]
  · rw [List.getElem?_eq_none (by rw [revTo_length]; omega), List.getElem?_eq_none (by simp [revTo_length]; omega)]

theorem byteCells_set (l : List UInt8) (i : Nat) (c : UInt8) : (byteCells l).set i (Value.int .u8 c.toNat) = byteCells (l.set i c) := by
  simp [byteCells, List.map_set]
theorem byteCells_get (l : List UInt8) (i : Nat) (c : UInt8) (h : l[i]? = some c) : (byteCells l)[i]? = some (Value.int .u8 c.toNat) := by
  simp [byteCells, h]

theorem swap_row {wr : World} {base g cap : Nat} {e : TypeId} {l : List UInt8} {i : Nat} (hown : wr.ownsRow base e 1 (.slice (some ⟨g, 0, none⟩) l.length cap) l.length (byteCells (revTo l i))) (h : 2 * i + 1 < l.length) :
    ((wr.setCell ⟨g, i, none⟩ (.int .u8 (l.getD (l.length - 1 - i) 0).toNat)).setCell ⟨g, l.length - 1 - i, none⟩ (.int .u8 (l.getD i 0).toNat)).ownsRow base e 1 (.slice (some ⟨g, 0, none⟩) l.length cap) l.length (byteCells (revTo l (i + 1))) := by
  have s := ((hown.stored i (.int .u8 (l.getD (l.length - 1 - i) 0).toNat)).1.stored (l.length - 1 - i) (.int .u8 (l.getD i 0).toNat)).1
  rw [byteCells_set, byteCells_set, ← revTo_step l i h] at s
  exact s

set_option maxHeartbeats 1000000 in
set_option maxRecDepth 100000 in
theorem slReverse_own (base g cap : Nat) (l : List UInt8) (w : World) (hown : w.ownsRow base 5 1 (.slice (some ⟨g, 0, none⟩) l.length cap) l.length (byteCells l)) (hl : l.length ≤ 9223372036854775807) (B : Nat) (hB : B ≤ g) :
    Calls Try.prog 71 #[.slice (some ⟨g, 0, none⟩) l.length cap] w fun e w' => e = .returned (.tuple #[]) ∧ w'.ownsRow base 5 1 (.slice (some ⟨g, 0, none⟩) l.length cap) l.length (byteCells l.reverse) ∧ Below B w w' := by
  go_enter Try.func71, Try.ntmps71
  go_wp2
  go_loopw [2, 3] (fun s2 s3 wr => ∃ (i : Nat), s2 = .int .i64 i ∧ s3 = .int .i64 ((l.length : Int) - 1 - i) ∧ 2 * i ≤ l.length + 1 ∧ wr.ownsRow base 5 1 (.slice (some ⟨g, 0, none⟩) l.length cap) l.length (byteCells (revTo l i)) ∧ Below B w wr)
    (fun s2 _ _ => l.length - (intOf s2).toNat)
  case atStart => exact ⟨0, rfl, by simp, by omega, by rw [revTo_zero]; exact hown, Below.refl _ _⟩
  case round =>
    obtain ⟨i, rfl, rfl, hi, hown, hb⟩ := hrel
    by_cases hlt : 2 * i + 1 < l.length
    · have ci := hown.cellAt i (by omega)
      have cj := hown.cellAt (l.length - 1 - i) (by omega)
      have fi := hown.frozenAt i
      have fj := hown.frozenAt (l.length - 1 - i)
      have R := swap_row hown hlt
      rw [byteCells_get _ _ _ (revTo_get l i i (by omega)), if_neg (by omega)] at ci
      rw [byteCells_get _ _ _ (revTo_get l i (l.length - 1 - i) (by omega)), if_neg (by omega)] at cj
      obtain ⟨j, hj⟩ : ∃ j, l.length - 1 - i = j := ⟨_, rfl⟩
      rw [hj] at cj fj R
      have ej : ((l.length : Int) - 1 - i) = (j : Int) := by omega
      have h1 : (i : Int) < j := by omega
      have h2 : j < l.length := by omega
      have h3 : i < l.length := by omega
      rw [ej]
      have HR : Hid _ := R
      have HJ : Hid (l.length - 1 - i = j) := hj
      clear R hj ej
      generalize l.getD i 0 = x at *
      generalize l.getD j 0 = y at *
      go_wp2_with fail
      go_region
      go_wp2
      go_roundw
      case rel =>
        have hJ := HJ.out
        exact ⟨i + 1, by go_num, congrArg (Value.int .i64) (by omega), by omega, World.ownsRow.drew HR.out, ((hb.setCell (p := ⟨g, i, none⟩) hB _).setCell (p := ⟨g, j, none⟩) hB _).drew⟩
      case measure => simp [intOf]; omega
    · have h1 : ¬ (i : Int) < (l.length : Int) - 1 - i := by omega
      go_wp2
      go_end0
      have he := revTo_end l i (by omega)
      exact ⟨rfl, by rw [← he]; exact hown, hb⟩

set_option maxHeartbeats 400000 in
/-- The same at a slice of no bytes. -/
theorem slReverse_none (a : Option Addr) (cap : Nat) (w : World) :
    Calls Try.prog 71 #[.slice a 0 cap] w fun e w' => e = .returned (.tuple #[]) ∧ w' = w := by
  go_enter Try.func71, Try.ntmps71
  go_wp2
  refine wp_loop_rounds 1 ?_
  rw [rounds_succ]
  go_wp2
  go_end0
  exact ⟨rfl, rfl⟩

theorem Try.info_u8 : (Try.prog.info? 5).map (fun i => (i.zero, i.size, i.bytes)) = some (some (.int .u8 0), 1, 1) := by kernel_rfl
theorem slReverse_any (base : Nat) (v : Value) (l : List UInt8) (w : World) (hown : w.ownsRow base 5 1 v l.length (byteCells l)) (hl : l.length ≤ 9223372036854775807) :
    Calls Try.prog 71 #[v] w fun e w' => e = .returned (.tuple #[]) ∧ w'.ownsRow base 5 1 v l.length (byteCells l.reverse) ∧ Below base w w' := by
  obtain ⟨h0, h⟩ := hown
  rcases h with ⟨rfl, hn⟩ | ⟨g, cap, cur, rfl, hb, h1, h2, h3, h4, h5⟩
  · have : l = [] := List.eq_nil_of_length_eq_zero hn
    subst this
    refine (slReverse_none none 0 w).mono ?_
    rintro e w1 ⟨rfl, rfl⟩
    exact ⟨rfl, World.ownsRow_nil _ _ _ _, Below.refl _ _⟩
  · exact slReverse_own base g cap l w ⟨h0, .inr ⟨g, cap, cur, rfl, hb, h1, h2, h3, h4, h5⟩⟩ hl base hb

/-- string(b) of an owned row of bytes. -/
theorem run_string_own (base : Nat) (v : Value) (l : List UInt8) (w : World) (hown : w.ownsRow base 5 1 v l.length (byteCells l)) :
    (convert 140 9 v).run Try.prog w = .ok (.string ⟨l.toArray⟩) w := by
  obtain ⟨h0, h⟩ := hown
  rcases h with ⟨rfl, hn⟩ | ⟨g, cap, cur, rfl, hb, h1, h2, h3, h4, h5⟩
  · have : l = [] := List.eq_nil_of_length_eq_zero hn
    subst this
    rw [run_convert_bytes_string w _ _ 5 none 0 0 Try.underlying140 Try.underlying5 Try.underlying9]
    rfl
  · refine run_convert_bytes_back w _ _ 5 ⟨g, 0, none⟩ cap l Try.underlying140 Try.underlying5 Try.underlying9 ?_
    intro j hj
    have hown : w.ownsRow base 5 1 (.slice (some ⟨g, 0, none⟩) l.length cap) l.length (byteCells l) := ⟨h0, .inr ⟨g, cap, cur, rfl, hb, h1, h2, h3, h4, h5⟩⟩
    exact hown.cells (g := g) rfl j _ (byteCells_get l j l[j] (by simp))

theorem digit_val (k q : Nat) (h1 : 1 ≤ k) (h8 : k ≤ 8) : (97 + (q : Int) % k) = ((UInt8.ofNat (97 + q % k)).toNat : Int) := by
  have : q % k < k := Nat.mod_lt _ (by omega)
  have e : (UInt8.ofNat (97 + q % k)).toNat = 97 + q % k := by
    rw [UInt8.toNat_ofNat']
    omega
  rw [e]
  omega
theorem own_snoc {w : World} {base n : Nat} {e : TypeId} {v : Value} {l : List UInt8} {c : UInt8} (h : w.ownsRow base e 1 v n (byteCells l ++ [Value.int .u8 (c.toNat : Int)])) : w.ownsRow base e 1 v n (byteCells (l ++ [c])) := by
  rw [byteCells_append]
  exact h

end Go.Proofs.Ythmnoepjkobcmab

namespace Go.Proofs.Ythmnoepjkobcmab
open Go Go.RowKit Go.Lib
set_option linter.unusedVariables false

/-- Letters as bytes. -/
def lB (l : List Nat) : List UInt8 := l.map fun c => UInt8.ofNat (97 + c)
theorem lB_append (a b : List Nat) : lB (a ++ b) = lB a ++ lB b := by simp [lB]
theorem lB_len (a : List Nat) : (lB a).length = a.length := by simp [lB]

end Go.Proofs.Ythmnoepjkobcmab

namespace Go.Proofs.Ythmnoepjkobcmab
open Go Go.RowKit Go.Lib
set_option linter.unusedVariables false

theorem flat_get {α : Type} {f : α → List Value} {k : Nat} (hf : ∀ a, (f a).length = k) : ∀ (Q : List α) (i : Nat) (n : α) (j : Nat), Q[i]? = some n → j < k → (Q.flatMap f)[i * k + j]? = (f n)[j]?
  | [], _, _, _, h, _ => by simp at h
  | a :: Q, 0, n, j, h, hj => by
    simp at h
    subst h
    rw [List.flatMap_cons, Nat.zero_mul, Nat.zero_add, List.getElem?_append_left (by rw [hf]; exact hj)]
  | a :: Q, i + 1, n, j, h, hj => by
    simp only [List.getElem?_cons_succ] at h
    rw [List.flatMap_cons, List.getElem?_append_right (by rw [hf, Nat.add_mul]; omega), hf, show (i + 1) * k + j - k = i * k + j by rw [Nat.add_mul]; omega]
    exact flat_get hf Q i n j h hj
theorem flat_len {α : Type} {f : α → List Value} {k : Nat} (hf : ∀ a, (f a).length = k) : ∀ (Q : List α), (Q.flatMap f).length = Q.length * k
  | [] => by simp
  | a :: Q => by rw [List.flatMap_cons, List.length_append, hf, flat_len hf Q, List.length_cons, Nat.add_mul]; omega
/-- The letter's byte of a node. -/
def lb (n : Nod (Nat × Nat)) : Int := if n.w = [] then 0 else 97 + (n.c : Int)
/-- A meeting's cells. -/
def mtC (n : Nod (Nat × Nat)) : List Value := [.int .i64 (n.p.1 : Nat), .int .i64 (n.p.2 : Nat), .int .i64 (n.u : Nat), .int .u8 (lb n)]
theorem mtC_len (n : Nod (Nat × Nat)) : (mtC n).length = 4 := rfl
/-- A queue's nodes in a row. -/
theorem que_cell {w : World} {base g cap : Nat} {e : TypeId} {Q : List (Nod (Nat × Nat))} (h : w.ownsRow base e 4 (.slice (some ⟨g, 0, none⟩) Q.length cap) Q.length (Q.flatMap mtC)) {i : Nat} {n : Nod (Nat × Nat)} (hi : Q[i]? = some n) {j : Nat} (hj : j < 4) : w.cell? ⟨g, i * 4 + j, none⟩ = (mtC n)[j]? := by
  have hl := (List.getElem?_eq_some_iff.1 hi).1
  rw [h.cellAt (i * 4 + j) (by omega), flat_get mtC_len Q i n j hi hj]
/-- By which node each one was met. -/
def Ups (k : Nat) (Q : List (Nod (Nat × Nat))) : Prop := (∀ n, Q[0]? = some n → n.w = []) ∧ ∀ (j : Nat) (n : Nod (Nat × Nat)), Q[j]? = some n → 0 < j → ∃ m, Q[n.u]? = some m ∧ n.u < j ∧ n.w = m.w ++ [n.c] ∧ n.c < k
theorem QI.ups {d : Nat × Nat → Nat → Nat × Nat} {k : Nat} {sh : Nat × Nat → Bool} {x : Nat × Nat} {Q : List (Nod (Nat × Nat))} {i c : Nat} (h : QI d k sh x Q i c) : Ups k Q := by
  refine ⟨fun n hn => ?_, fun j n hj h0 => ?_⟩
  · obtain ⟨n0, q1, q2, q3⟩ := h.ne
    rw [hn, Option.some.injEq] at q1
    rw [q1, q3]
  · obtain ⟨m, h1, h2, h3, h4, h5, h6⟩ := h.up j n hj h0
    exact ⟨m, h1, h2, h3, h5⟩

set_option maxHeartbeats 4000000 in
set_option maxRecDepth 100000 in
theorem wordOf_any (base g cap : Nat) (Q : List (Nod (Nat × Nat))) (k : Nat) (hk : k ≤ 8) (hQ : Q.length ≤ 4096) (hU : Ups k Q) (at0 : Nat) (n0 : Nod (Nat × Nat)) (h0 : Q[at0]? = some n0) (w : World) (h : w.ownsRow base 117 4 (.slice (some ⟨g, 0, none⟩) Q.length cap) Q.length (Q.flatMap mtC)) :
    Calls Try.prog 54 #[.slice (some ⟨g, 0, none⟩) Q.length cap, .int .i64 at0] w fun e w' => e = .returned (.string ⟨(lB n0.w).toArray⟩) ∧ Below w.heap.size w w' := by
  obtain ⟨i0, hi, hz0, hz1, hz2⟩ := info_parts Try.info_u8
  have HU : Hid (Ups k Q) := hU
  have HQC : Hid (∀ y, Below w.heap.size w y → ∀ (i : Nat) (n : Nod (Nat × Nat)), Q[i]? = some n → y.cell? ⟨g, i * 4 + 2, none⟩ = some (.int .i64 (n.u : Nat)) ∧ y.cell? ⟨g, i * 4 + 3, none⟩ = some (.int .u8 (lb n))) := fun y hy i n hin => ⟨que_cell (own_below h hy) hin (j := 2) (by omega), que_cell (own_below h hy) hin (j := 3) (by omega)⟩
  have HL0 : Hid (n0.w.length ≤ 4096) := by
    have key : ∀ (j : Nat) (n : Nod (Nat × Nat)), Q[j]? = some n → n.w.length ≤ j := by
      intro j
      induction j using Nat.strongRecOn with
      | ind j ih =>
        intro n hj
        by_cases z : 0 < j
        · obtain ⟨m, q1, q2, q3, q4⟩ := hU.2 j n hj z
          have := ih n.u q2 m q1
          rw [q3]; simp; omega
        · have : j = 0 := by omega
          subst this
          rw [hU.1 n hj]; simp
    have h1 := key at0 n0 h0
    have h2 := (List.getElem?_eq_some_iff.1 h0).1
    show _ ≤ _
    omega
  clear h hU
  go_enter Try.func54, Try.ntmps54
  go_wp2_with fail
  go_loopw [1, 5] (fun vs vo wr => ∃ (t : Nat) (n : Nod (Nat × Nat)) (l : List UInt8), vs = .int .i64 t ∧ Q[t]? = some n ∧ wr.ownsRow w.heap.size 5 1 vo l.length (byteCells l) ∧ lB n0.w = lB n.w ++ l.reverse ∧ Below w.heap.size w wr) (fun vs _ _ => (intOf vs).toNat)
  case atStart => exact ⟨at0, n0, [], rfl, h0, World.ownsRow_nil _ _ _ _, by simp, Below.refl _ _⟩
  case round =>
    obtain ⟨t, n, l, rfl, ht, ho, hlw, hb⟩ := hrel
    obtain ⟨va, vc, rfl⟩ := own_shape ho
    have HO : Hid (wr.ownsRow w.heap.size 5 1 (.slice va l.length vc) l.length (byteCells l)) := ho
    have HLW : Hid (lB n0.w = lB n.w ++ l.reverse) := hlw
    have HB : Hid (Below w.heap.size w wr) := hb
    have htQ := (List.getElem?_eq_some_iff.1 ht).1
    have hll : l.length ≤ 4096 := by
      have h1 := congrArg List.length hlw
      have h2 := HL0.out
      simp [lB_len] at h1
      omega
    have hws := hb.size
    by_cases ht0 : t = 0
    · subst ht0
      have HE : Hid (l.reverse = lB n0.w) := by show _ = _; rw [HLW.out, HU.out.1 n ht]; simp [lB]
      clear ho hlw hb
      go_wp2_with fail
      refine (slReverse_any w.heap.size _ l _ HO.out (by omega)).mono ?_
      rintro e w2 ⟨rfl, ho2, hb2⟩
      have hbb : Below w.heap.size w w2 := HB.out.trans hb2
      have hcv := run_string_own w.heap.size (.slice va l.length vc) l.reverse w2 (by rw [List.length_reverse]; exact ho2)
      rw [HE.out] at hcv
      clear ho2 hb2
      go_wp2_with fail
      go_ret
      exact ⟨rfl, hbb⟩
    · obtain ⟨m, m1, m2, m3, m4⟩ := HU.out.2 t n ht (by omega)
      have ht0I : ¬ (t : Int) = 0 := by omega
      have htI : (t : Int) < Q.length := by omega
      obtain ⟨q1, q2⟩ := HQC.out wr hb t n ht
      have hlbe : lb n = 97 + (n.c : Int) := by unfold lb; rw [if_neg (by rw [m3]; simp)]
      obtain ⟨c, hc⟩ : ∃ c, UInt8.ofNat (97 + n.c) = c := ⟨_, rfl⟩
      have hcn : c.toNat = 97 + n.c := by rw [← hc, UInt8.toNat_ofNat']; omega
      have hlc : lb n = (c.toNat : Int) := by rw [hlbe, hcn]; omega
      rw [hlc] at q2
      obtain ⟨u, hu⟩ : ∃ u, n.u = u := ⟨_, rfl⟩
      rw [hu] at q1 m1 m2
      have HNX : Hid (lB n0.w = lB m.w ++ (l ++ [c]).reverse) := by
        show _ = _
        have e : lB [n.c] = [c] := by show [UInt8.ofNat (97 + n.c)] = [c]; rw [hc]
        rw [HLW.out, m3, lB_append, e]
        simp
      have HQU : Hid (Q[t]? = some n ∧ n.u = u) := ⟨ht, hu⟩
      have HM1 : Hid (Q[u]? = some m) := m1
      clear ho hlw hb hc hcn hlbe hlc hu m3 m1 ht
      go_wp2_with (at_builtin; refine wpList_append_own _ rfl _ _ 140 rfl w.heap.size 5 i0 (.int .u8 0) 1 1 Try.underlying140 hi hz0 hz1 hz2 rfl (by decide) _ _ _ rfl (HO.out.alloc _) ⟨wr.heap.size, 0, none⟩ 1 1 [.int .u8 (c.toNat : Int)] rfl rfl (cell_one_new _ _ _) (by intro u hu; simp at hu; subst hu; rfl) (by unfold maxLen; omega) (by omega) (by simp; omega) ?_; intro v9 w9 ho9 hg9 _; have HO9 : Hid (w9.ownsRow w.heap.size 5 1 v9 (l ++ [c]).length (byteCells (l ++ [c]))) := (by show World.ownsRow _ _ _ _ _ _ _; rw [List.length_append]; exact own_snoc ho9); obtain ⟨va9, vc9, rfl⟩ := own_shape ho9; have hb9 : Below w.heap.size w w9 := (HB.out.alloc HB.out.size _).grown hg9 (by simp; omega) (fun g hg => (HO.out.lt g hg).1); have HB9 : Hid (Below w.heap.size w w9) := hb9; have qq := (HQC.out w9 hb9 t n HQU.out.1).1; rw [HQU.out.2] at qq; clear ho9 hg9 hb9)
      go_roundw
      case rel => exact ⟨u, m, l ++ [c], by go_num, HM1.out, HO9.out, HNX.out, HB9.out⟩
      case measure => simp [intOf]; omega
end Go.Proofs.Ythmnoepjkobcmab

namespace Go.Proofs.Ythmnoepjkobcmab
open Go Go.RowKit Go.Lib
set_option linter.unusedVariables false

/-- Pairs of states of two automata. -/
def dd (A B : Aut) (p : Nat × Nat) (c : Nat) : Nat × Nat := (dN A p.1 c, dN B p.2 c)
/-- Just one of both is accepted. -/
def sx (A B : Aut) (p : Nat × Nat) : Bool := aN A p.1 != aN B p.2
theorem wrun_dd (A B : Aut) : ∀ (v : List Nat) (p : Nat × Nat), wrun (dd A B) p v = (wrun (dN A) p.1 v, wrun (dN B) p.2 v)
  | [], p => rfl
  | c :: v, p => by rw [wrun_cons, wrun_dd A B v]; rfl
/-- Is a word accepted from a state? -/
def acW (A : Aut) (x : Nat) (v : List Nat) : Bool := aN A (wrun (dN A) x v)
theorem sx_ac (A B : Aut) (p : Nat × Nat) (v : List Nat) : sx A B (wrun (dd A B) p v) = true ↔ acW A p.1 v ≠ acW B p.2 v := by
  rw [wrun_dd]
  unfold sx acW
  simp
/-- How far the search has come: its queue, its forest. -/
structure AP (A : Aut) (K s t : Nat) (Q : List (Nod (Nat × Nat))) (i c : Nat) (f : List Nat) (r e : Nat → Nat) : Prop where
  qi : QI (dd A A) K (sx A A) (s, t) Q i c
  uf : UF A.ac.length f r e
  uc : UC (acW A) (dd A A) (sx A A) A.ac.length r Q
  cnt : Q.length + rts A.ac.length r ≤ A.ac.length
  oks : ∀ m ∈ Q, m.p.1 < A.ac.length ∧ m.p.2 < A.ac.length
theorem AP.start {A : Aut} {K s t : Nat} {f : List Nat} {e : Nat → Nat} (hs : s < A.ac.length) (ht : t < A.ac.length) (hne : s ≠ t) (hu : UF A.ac.length f (jn (fun x => x) s t) e) : AP A K s t [⟨(s, t), 0, 0, []⟩] 0 0 f (jn (fun x => x) s t) e := by
  refine ⟨QI.start _ _ _ _ _ _, hu, ?_, ?_, fun m hm => ?_⟩
  · exact (UC.start (acW A) (dd A A) (sx A A) A.ac.length []).join hs ht ⟨(s, t), 0, 0, []⟩ (fun v hv => (sx_ac A A (s, t) v).2 hv)
  · have h1 := rts_less (UF.id A.ac.length) hs ht hne
    have h2 := rts_le A.ac.length (fun x => x)
    simp only [List.length_cons, List.length_nil]
    omega
  · simp at hm
    subst hm
    exact ⟨hs, ht⟩
theorem AP.len {A : Aut} {K s t : Nat} {Q : List (Nod (Nat × Nat))} {i c : Nat} {f : List Nat} {r e : Nat → Nat} (h : AP A K s t Q i c f r e) (hs : s < A.ac.length) : Q.length + 1 ≤ A.ac.length := by
  have h1 := rts_pos h.uf hs
  have h2 := h.cnt
  omega
theorem AP.old {A : Aut} {K s t : Nat} {Q : List (Nod (Nat × Nat))} {i c : Nat} {f f' : List Nat} {r e e' : Nat → Nat} (h : AP A K s t Q i c f r e) {n : Nod (Nat × Nat)} (hi : Q[i]? = some n) (hx : dN A n.p.1 c < A.ac.length) (hy : dN A n.p.2 c < A.ac.length) (hr : r (dN A n.p.1 c) = r (dN A n.p.2 c)) (hu : UF A.ac.length f' r e') : AP A K s t Q i (c + 1) f' r e' :=
  ⟨h.qi.old hi (fun v hv => h.uc _ _ hx hy hr v ((sx_ac A A (dd A A n.p c) v).1 hv)), hu, h.uc, h.cnt, h.oks⟩
theorem AP.new {A : Aut} {K s t : Nat} {Q : List (Nod (Nat × Nat))} {i c : Nat} {f f' : List Nat} {r e e' : Nat → Nat} (h : AP A K s t Q i c f r e) {n : Nod (Nat × Nat)} (hi : Q[i]? = some n) (hc : c < K) (hx : dN A n.p.1 c < A.ac.length) (hy : dN A n.p.2 c < A.ac.length) (hr : r (dN A n.p.1 c) ≠ r (dN A n.p.2 c)) (hu : UF A.ac.length f' (jn r (dN A n.p.1 c) (dN A n.p.2 c)) e') : AP A K s t (Q ++ [⟨dd A A n.p c, i, c, n.w ++ [c]⟩]) i (c + 1) f' (jn r (dN A n.p.1 c) (dN A n.p.2 c)) e' := by
  refine ⟨h.qi.new hi hc, hu, h.uc.join hx hy _ (fun v hv => (sx_ac A A (dd A A n.p c) v).2 hv), ?_, fun m hm => ?_⟩
  · have h1 := rts_less h.uf hx hy hr
    have h2 := h.cnt
    simp only [List.length_append, List.length_cons, List.length_nil]
    omega
  · rcases List.mem_append.1 hm with q | q
    · exact h.oks m q
    · simp at q
      subst q
      exact ⟨hx, hy⟩
theorem AP.next {A : Aut} {K s t : Nat} {Q : List (Nod (Nat × Nat))} {i : Nat} {f : List Nat} {r e : Nat → Nat} (h : AP A K s t Q i K f r e) : AP A K s t Q (i + 1) 0 f r e := ⟨h.qi.next, h.uf, h.uc, h.cnt, h.oks⟩
/-- A node that is gone through and shows it, where none ahead does. -/
theorem QI.first {S : Type} {d : S → Nat → S} {k : Nat} {sh : S → Bool} {x : S} {Q : List (Nod S)} {i : Nat} (h : QI d k sh x Q i 0) {n : Nod S} (hi : Q[i]? = some n) (hs : sh n.p = true) (hf : ∀ (j : Nat) (m : Nod S), j < i → Q[j]? = some m → sh m.p = false) : lsh d k sh x = some n.w := by
  refine lsh_some (h.found hi hs hf (fun j m a hj hp => ?_))
  by_cases e : j = i
  · subst e
    rw [hi, Option.some.injEq] at hj
    subst hj
    exact sle_more _ _
  · exact sle_trans (h.ord i j n m (by omega) hi hj).1 (sle_more _ _)
/-- What is answered. -/
def apS (o : Option (List Nat)) : ByteArray := match o with | some w => ⟨(lB w).toArray⟩ | none => ByteArray.empty
def apF (o : Option (List Nat)) : Bool := o.isSome
/-- The least word that tells two states apart. -/
noncomputable def apO (A : Aut) (s t : Nat) : Option (List Nat) := lsh (dd A A) A.k.toNat (sx A A) (s, t)
theorem apO_same (A : Aut) (s : Nat) : apO A s s = none := by
  unfold apO
  refine lsh_none (fun v _ => ?_)
  cases h : sx A A (wrun (dd A A) (s, s) v) with
  | false => rfl
  | true => exact absurd rfl ((sx_ac A A (s, s) v).1 h)
end Go.Proofs.Ythmnoepjkobcmab

namespace Go.Proofs.Ythmnoepjkobcmab
open Go Go.RowKit Go.Lib
set_option linter.unusedVariables false

/-- The automaton of the classes that are met from 0, and their numbers. -/
def ioA (A : Aut) (l : List Nat) : Aut := match bfs (dC A l) A.k.toNat 0 with
  | some (m, n) => ⟨A.k, n.map fun (x : Nat) => (x : Int), m.map (aN A)⟩
  | none => zAut
def ioM (A : Aut) (l : List Nat) : List Nat := match bfs (dC A l) A.k.toNat 0 with
  | some (m, _) => m
  | none => []

set_option maxHeartbeats 4000000 in
set_option maxRecDepth 100000 in
theorem inOrder_any (v : Value) (A : Aut) (w : World) (h : AR w v A) (G : Good A) (a : Option Addr) (cap : Nat) (l : List Nat) (hL : SR w a (nC l)) (hn : l.length = A.ac.length) (hl : ∀ s, s < l.length → l.getD s 0 < l.length) :
    Calls Try.prog 32 #[v, .slice a A.ac.length cap] w fun e w' => ∃ v' g, e = .returned (.tuple #[v', .slice (some ⟨g, 0, none⟩) A.ac.length A.ac.length]) ∧ AO w.heap.size w' v' (ioA A l) ∧ w'.ownsRow w.heap.size 3 1 (.slice (some ⟨g, 0, none⟩) A.ac.length A.ac.length) A.ac.length (nmC (ioM A l) A.ac.length) ∧ Below w.heap.size w w' := by
  obtain ⟨an, cn, aa, ca, e, k1, k2⟩ := h.is
  have hn1 := G.n1
  have hn2 := G.n2
  obtain ⟨i0, hi, hz0, hz1, hz2⟩ := info_parts Try.info_int
  obtain ⟨i1, hj, hq0, hq1, hq2⟩ := info_parts Try.info_bool
  have HAR : Hid (∀ w', Below w.heap.size w w' → AR w' v A) := fun w' hb => h.stay hb
  obtain ⟨gl, ol, rfl, hglw, _⟩ := hL.nat (i := 0) (by omega)
  obtain ⟨ga, oa, rfl, _, _⟩ := k2.bool (i := 0) (by omega)
  have CL : Hid (∀ y i, Below w.heap.size w y → i < A.ac.length → y.cell? ⟨gl, ol + i, none⟩ = some (.int .i64 (l.getD i 0 : Nat))) := fun y i hy hi => by
    obtain ⟨g', o', e', _, hc'⟩ := (hL.stay hy).nat (i := i) (by omega)
    simp only [Option.some.injEq, Addr.mk.injEq] at e'
    obtain ⟨rfl, rfl, _⟩ := e'
    exact hc'
  have CA : Hid (∀ y i, Below w.heap.size w y → i < A.ac.length → y.cell? ⟨ga, oa + i, none⟩ = some (.bool (A.ac.getD i false))) := fun y i hy hi => by
    obtain ⟨g', o', e', _, hc'⟩ := (k2.stay hy).bool hi
    simp only [Option.some.injEq, Addr.mk.injEq] at e'
    obtain ⟨rfl, rfl, _⟩ := e'
    exact hc'
  have HLL : Hid (∀ s c : Nat, s < A.ac.length → (c : Int) < A.k → dN A s c < A.ac.length ∧ dC A l s c < A.ac.length) := fun s c hs hc => by
    have h1 := (G.at hs hc).2.2
    exact ⟨h1, by unfold dC; have := hl (dN A s c) (by omega); omega⟩
  have HG : Hid (Good A) := G
  obtain ⟨K, hK⟩ : ∃ K : Nat, A.k.toNat = K := ⟨_, rfl⟩
  have HKK : Hid (A.k = (K : Int) ∧ 1 ≤ K ∧ K ≤ 8 ∧ A.k.toNat = K) := ⟨by have := G.kn; omega, by have := G.kn; omega, by have := G.kn; omega, hK⟩
  subst e
  obtain ⟨V, hV⟩ : ∃ V, V = w.alloc (.cells #[.int .i64 A.k, .slice an A.nx.length cn, .slice (some ⟨ga, oa, none⟩) A.ac.length ca] 25) := ⟨_, rfl⟩
  have hVs : V.heap.size = w.heap.size + 1 := by rw [hV]; simp
  have HVS : Hid (V.heap.size = w.heap.size + 1) := hVs
  have HRV : Hid (RowAt V w.heap.size #[.int .i64 A.k, .slice an A.nx.length cn, .slice (some ⟨ga, oa, none⟩) A.ac.length ca]) := by show RowAt _ _ _; rw [hV]; exact RowAt.last _ _ _
  have HBV : Hid (Below w.heap.size w V) := by show Below _ _ _; rw [hV]; exact below_new _ _
  have HVE : Hid (V = w.alloc (.cells #[.int .i64 A.k, .slice an A.nx.length cn, .slice (some ⟨ga, oa, none⟩) A.ac.length ca] 25)) := hV
  clear h hL k1 k2 hl hn G hK hV hVs
  go_enter Try.func32, Try.ntmps32
  go_wp2_with fail
  obtain ⟨U, hU⟩ : ∃ U, U = ((((w.alloc (.cells #[.int .i64 A.k, .slice an A.nx.length cn, .slice (some ⟨ga, oa, none⟩) A.ac.length ca] 25)).alloc (.cells #[.int .i64 0, .slice none 0 0, .slice none 0 0] 25)).alloc (.cells #[.int .i64 A.k, .slice none 0 0, .slice none 0 0] 25)).alloc (.cells #[.int .i64 (-1)] 3)) := ⟨_, rfl⟩
  have hUs : U.heap.size = w.heap.size + 4 := by rw [hU]; simp
  have uV : Below V.heap.size V U := by rw [hU, HVE.out]; exact go_on (go_on (below_new _ _) (below_new _ _)) (below_new _ _)
  have u1 : U.heap[w.heap.size + 1]? = some (.cells #[.int .i64 0, .slice none 0 0, .slice none 0 0] 25 (0, 0)) := by
    rw [hU]
    have := heap_alloc_last (w.alloc (.cells #[.int .i64 A.k, .slice an A.nx.length cn, .slice (some ⟨ga, oa, none⟩) A.ac.length ca] 25)) (.cells #[.int .i64 0, .slice none 0 0, .slice none 0 0] 25)
    rw [World.size_alloc] at this
    exact ((below_new _ _).block _ (by simp)).trans (((below_new _ _).block _ (by simp)).trans this)
  have u2 : U.heap[w.heap.size + 1 + 1]? = some (.cells #[.int .i64 A.k, .slice none 0 0, .slice none 0 0] 25 (0, 0)) := by
    rw [hU]
    have := heap_alloc_last ((w.alloc (.cells #[.int .i64 A.k, .slice an A.nx.length cn, .slice (some ⟨ga, oa, none⟩) A.ac.length ca] 25)).alloc (.cells #[.int .i64 0, .slice none 0 0, .slice none 0 0] 25)) (.cells #[.int .i64 A.k, .slice none 0 0, .slice none 0 0] 25)
    rw [World.size_alloc, World.size_alloc] at this
    exact ((below_new _ _).block _ (by simp)).trans this
  have u3 : U.cell? ⟨w.heap.size + 1 + 1 + 1, 0, none⟩ = some (.int .i64 (-1)) := by
    have := heap_alloc_last (((w.alloc (.cells #[.int .i64 A.k, .slice an A.nx.length cn, .slice (some ⟨ga, oa, none⟩) A.ac.length ca] 25)).alloc (.cells #[.int .i64 0, .slice none 0 0, .slice none 0 0] 25)).alloc (.cells #[.int .i64 A.k, .slice none 0 0, .slice none 0 0] 25)) (.cells #[.int .i64 (-1)] 3)
    rw [World.size_alloc, World.size_alloc, World.size_alloc] at this
    rw [hU, cell_of this]
    rfl
  rw [← hU]
  clear hU
  refine (repeatI_any A.ac.length hn2 hn1 U _ u3).mono ?_
  rintro e w2 ⟨rfl, hrow, hb2⟩
  obtain ⟨gn, hgn⟩ : ∃ gn, U.heap.size = gn := ⟨_, rfl⟩
  have hgs := hb2.size
  rw [hgn] at hrow hgs ⊢
  have hVs := HVS.out
  have hw2 : w.heap.size + 1 + 1 < gn := by omega
  have hgl : gn < w2.heap.size := by
    obtain ⟨cur, hc, _⟩ := own_cur hrow (i := 0) (by omega)
    exact (Array.getElem?_eq_some_iff.1 hc).1
  have hc0 : w2.cell? ⟨gn, 0, none⟩ = some (.int .i64 (-1)) := (hrow.cellAt 0 (by omega)).trans (by rw [List.getElem?_replicate, if_pos (by omega)])
  have hf0 : w2.frozen? ⟨gn, 0, none⟩ = false := hrow.frozenAt 0
  have HM0 : Hid (IM V (w.heap.size + 1) (w.heap.size + 1 + 1) gn A.ac.length A.k (.slice (some ⟨w2.heap.size, 0, none⟩) 1 1) (.slice none 0 0) (.slice none 0 0) (nmC [0] A.ac.length) (nC [0]) [] [] ((w2.setCell ⟨gn, 0, none⟩ (.int .i64 0)).alloc (.cells #[.int .i64 0] 3))) := by
    have s2 : (w2.setCell ⟨gn, 0, none⟩ (.int .i64 0)).heap.size = w2.heap.size := by simp [World.setCell]
    have kk : ∀ b O, b < gn → U.heap[b]? = some O → ((w2.setCell ⟨gn, 0, none⟩ (.int .i64 0)).alloc (.cells #[.int .i64 0] 3)).heap[b]? = some O := fun b O hb hO => by
      rw [(below_new _ _).block _ (by rw [s2]; omega), heap_set_other (by omega), hb2.block _ (by omega)]
      exact hO
    have hst := (hrow.stored 0 (.int .i64 0)).1
    rw [nmC_first (by omega)] at hst
    refine ⟨kk _ _ (by omega) u1, kk _ _ (by omega) u2, (own_mono hst (by omega)).alloc _, ?_, World.ownsRow_nil _ _ _ _, World.ownsRow_nil _ _ _ _, ?_, ?_, ?_, ?_, by omega, by omega, by omega⟩
    · refine ⟨rfl, .inr ⟨w2.heap.size, 1, #[.int .i64 0], rfl, by omega, ?_, Nat.le_refl _, by unfold maxLen; omega, rfl, rfl⟩⟩
      have := heap_alloc_last (w2.setCell ⟨gn, 0, none⟩ (.int .i64 0)) (.cells #[.int .i64 0] 3)
      rw [s2] at this
      exact this
    · simp [Value.ownBlock]; omega
    · simp [Value.ownBlock]
    · intro b _ hb; simp [Value.ownBlock] at hb
    · exact go_on ((go_on uV hb2).setCell (p := ⟨gn, 0, none⟩) (by show V.heap.size ≤ gn; omega) _) (below_new _ _)
  have HP0 : Hid (IP A l K 0 0 [0] [] 32768) := IP.start A l K (by omega)
  have csU := (HRV.out.stay HM0.out.below).cell
  clear hrow hb2 u1 u2 u3 uV hgs hUs hgn hVs
  go_wp2_with fail
  clear csU hc0 hf0
  go_loopw [9, 8] (fun vi vm wr => ∃ (i : Nat) (m n : List Nat) (vn va : Value) (f : Nat), vi = .int .i64 i ∧ i ≤ m.length ∧ IM V (w.heap.size + 1) (w.heap.size + 1 + 1) gn A.ac.length A.k vm vn va (nmC m A.ac.length) (nC m) (nC n) (bC ((m.take i).map (aN A))) wr ∧ IP A l K i 0 m n f) (fun vi _ _ => 4096 - (intOf vi).toNat)
  case atStart => exact ⟨0, [0], [], _, _, 32768, rfl, Nat.zero_le _, HM0.out, HP0.out⟩
  case round =>
    clear HM0 HP0
    obtain ⟨i, m, n, vn, va, f, rfl, him, hM, hP⟩ := hrel
    have hm4 := hP.bi.most
    obtain ⟨am, mc, hvm⟩ := own_shape hM.met
    rw [nC_len] at hvm
    subst hvm
    by_cases hlt : i < m.length
    · have hiI : (i : Int) < m.length := by omega
      have HM : Hid (IM V (w.heap.size + 1) (w.heap.size + 1 + 1) gn A.ac.length A.k (.slice am m.length mc) vn va (nmC m A.ac.length) (nC m) (nC n) (bC ((m.take i).map (aN A))) wr) := hM
      have HP : Hid (IP A l K i 0 m n f) := hP
      have cs := (HRV.out.stay hM.below).cell
      clear hM hP
      go_wp2_with fail
      clear cs
      go_loopw [30, 8] (fun vc vm wr => ∃ (c : Nat) (m n : List Nat) (vn va : Value) (f : Nat), vc = .int .i64 c ∧ c ≤ K ∧ i < m.length ∧ IM V (w.heap.size + 1) (w.heap.size + 1 + 1) gn A.ac.length A.k vm vn va (nmC m A.ac.length) (nC m) (nC n) (bC ((m.take i).map (aN A))) wr ∧ IP A l K i c m n f) (fun vc _ _ => K - (intOf vc).toNat)
      case atStart => exact ⟨0, m, n, vn, va, f, rfl, Nat.zero_le _, hlt, HM.out, HP.out⟩
      case round =>
        clear HM HP hlt hiI him hm4
        obtain ⟨c, m, n, vn, va, f, rfl, hcK, hlt, hM, hP⟩ := hrel
        have hm4 := hP.bi.most
        have hiI : (i : Int) < m.length := by omega
        obtain ⟨s, hs⟩ : ∃ s, m[i]? = some s := ⟨m[i], List.getElem?_eq_getElem hlt⟩
        have hsN := hP.oks s (List.mem_of_getElem? hs)
        obtain ⟨am, mc, hvm⟩ := own_shape hM.met
        rw [nC_len] at hvm
        subst hvm
        have hmet := hM.met
        rw [nC_len] at hmet
        obtain ⟨gm, rfl⟩ : ∃ gm, am = some ⟨gm, 0, none⟩ := by
          rcases hmet.2 with ⟨_, h0⟩ | ⟨g', cap', cur, hv, _⟩
          · omega
          · simp only [Value.slice.injEq] at hv
            exact ⟨g', hv.1⟩
        have hcm : wr.cell? ⟨gm, i, none⟩ = some (.int .i64 (s : Int)) := (hmet.cellAt i (by omega)).trans (by simp [nC, hs])
        have hgm : gm < wr.heap.size := (hmet.lt gm rfl).2
        have HM : Hid (IM V (w.heap.size + 1) (w.heap.size + 1 + 1) gn A.ac.length A.k (.slice (some ⟨gm, 0, none⟩) m.length mc) vn va (nmC m A.ac.length) (nC m) (nC n) (bC ((m.take i).map (aN A))) wr) := hM
        have HP : Hid (IP A l K i c m n f) := hP
        have HS : Hid (m[i]? = some s) := hs
        have hBw : Below w.heap.size w wr := go_on HBV.out hM.below
        have cs := (HRV.out.stay hM.below).cell
        by_cases hc : c < K
        · have hcI : (c : Int) < A.k := by have := HKK.out.1; omega
          have hc8 : c < 8 := by have := HKK.out.2.2.1; omega
          obtain ⟨d1, d2⟩ := HLL.out s c hsN hcI
          obtain ⟨D, hD⟩ : ∃ D, dN A s c = D := ⟨_, rfl⟩
          obtain ⟨t, ht⟩ : ∃ t, dC A l s c = t := ⟨_, rfl⟩
          have hDt : l.getD D 0 = t := by rw [← ht, ← hD]; rfl
          rw [hD] at d1
          rw [ht] at d2
          have HT : Hid (dC A l s c = t) := ht
          have hDI : (D : Int) < A.ac.length := by omega
          have htI : (t : Int) < A.ac.length := by omega
          have hcl := CL.out wr D hBw d1
          rw [hDt] at hcl
          have HST : Hid (∀ y, Below wr.heap.size wr y → Calls Try.prog 49 #[.agg #[.int .i64 A.k, .slice an A.nx.length cn, .slice (some ⟨ga, oa, none⟩) A.ac.length ca], .int .i64 (s : Int), .int .i64 (c : Int)] y fun e w' => e = .returned (.int .i64 (D : Int)) ∧ Below y.heap.size y w') := fun y hy => by rw [← hD]; exact mstep_any _ A y (HAR.out y (go_on hBw hy)) HG.out s c hsN hcI
          have Rw := HRV.out.stay hM.below
          have hglr : gl < wr.heap.size := Nat.lt_of_lt_of_le hglw hBw.size
          have kk : ∀ y1 y2, Below y1.heap.size y1 y2 → ((∀ o, y1.cell? ⟨w.heap.size, o, none⟩ = (#[.int .i64 A.k, .slice an A.nx.length cn, .slice (some ⟨ga, oa, none⟩) A.ac.length ca] : Array Value)[o]?) ∧ y1.cell? ⟨gm, i, none⟩ = some (.int .i64 (s : Int)) ∧ y1.cell? ⟨gl, ol + D, none⟩ = some (.int .i64 (t : Int)) ∧ Below wr.heap.size wr y1) → ((∀ o, y2.cell? ⟨w.heap.size, o, none⟩ = (#[.int .i64 A.k, .slice an A.nx.length cn, .slice (some ⟨ga, oa, none⟩) A.ac.length ca] : Array Value)[o]?) ∧ y2.cell? ⟨gm, i, none⟩ = some (.int .i64 (s : Int)) ∧ y2.cell? ⟨gl, ol + D, none⟩ = some (.int .i64 (t : Int)) ∧ Below wr.heap.size wr y2) := fun y1 y2 hy h => by
            have b := go_on h.2.2.2 hy
            exact ⟨(Rw.stay b).cell, (below_cellJ b hgm).trans hcm, (below_cellJ b hglr).trans hcl, b⟩
          have KK : Hid _ := kk
          have S0 : (∀ o, wr.drew.cell? ⟨w.heap.size, o, none⟩ = (#[.int .i64 A.k, .slice an A.nx.length cn, .slice (some ⟨ga, oa, none⟩) A.ac.length ca] : Array Value)[o]?) ∧ wr.drew.cell? ⟨gm, i, none⟩ = some (.int .i64 (s : Int)) ∧ wr.drew.cell? ⟨gl, ol + D, none⟩ = some (.int .i64 (t : Int)) ∧ Below wr.heap.size wr wr.drew := ⟨cs, hcm, hcl, (Below.refl _ _).drew⟩
          clear kk Rw hM hP hs hmet hD ht hDt hcl hcm cs
          go_wp2_with fail
          go_upto_region 11 with fail
          go_cut [11] (fun v11 wz => v11 = .int .i64 (t : Int) ∧ ∃ wx, wx = wz ∧ Below wr.heap.size wr wx)
          case first =>
            go_region_held3 (fun y => (∀ o, y.cell? ⟨w.heap.size, o, none⟩ = (#[.int .i64 A.k, .slice an A.nx.length cn, .slice (some ⟨ga, oa, none⟩) A.ac.length ca] : Array Value)[o]?) ∧ y.cell? ⟨gm, i, none⟩ = some (.int .i64 (s : Int)) ∧ y.cell? ⟨gl, ol + D, none⟩ = some (.int .i64 (t : Int)) ∧ Below wr.heap.size wr y) (first | exact S0 | assumption | exact KK.out _ _ (by assumption) (by assumption)) (first
              | (go_at_call 49; refine (HST.out _ (And.right (And.right (And.right (by assumption))))).mono ?_; rintro e y1 ⟨rfl, hy1⟩))
            all_goals go_wp2_with fail
            all_goals go_meet
            all_goals exact ⟨rfl, _, rfl, by first | exact go_on (Below.refl _ _).drew hy1 | exact (KK.out _ _ hy1 (by assumption)).2.2.2⟩
          case rest =>
            obtain ⟨rfl, wx, hwx, hbx⟩ := hcut
            subst hwx
            have HMX : Hid (IM V (w.heap.size + 1) (w.heap.size + 1 + 1) gn A.ac.length A.k (.slice (some ⟨gm, 0, none⟩) m.length mc) vn va (nmC m A.ac.length) (nC m) (nC n) (bC ((m.take i).map (aN A))) wx) := HM.out.call hbx
            have csx := (HRV.out.stay HMX.out.below).cell
            have hnc : wx.cell? ⟨gn, t, none⟩ = some (.int .i64 (nmI m t)) := (HMX.out.nums.cellAt t (by omega)).trans (nmC_at d2)
            have hncd : wx.drew.cell? ⟨gn, t, none⟩ = some (.int .i64 (nmI m t)) := hnc
            clear S0 hbx
            by_cases htm : t ∈ m
            · have hix := List.idxOf_lt_length_of_mem htm
              have hnm : nmI m t = (m.idxOf t : Int) := by unfold nmI; rw [if_pos htm]
              obtain ⟨p, hp⟩ : ∃ p, m.idxOf t = p := ⟨_, rfl⟩
              rw [hnm, hp] at hnc hncd
              rw [hp] at hix
              have hpn : ¬ (p : Int) = -1 := by omega
              have hpd : decide ((p : Int) = -1) = false := decide_eq_false hpn
              have hnca : ∀ O, (wx.alloc O).drew.cell? ⟨gn, t, none⟩ = some (.int .i64 (p : Int)) := fun O => by have := below_cellJ (o := t) (below_new wx O) (Array.getElem?_eq_some_iff.1 HMX.out.numBlk.2.choose_spec).1; exact this.trans hnc
              obtain ⟨f', hP'⟩ := HP.out.old hc HKK.out.2.2.1 HS.out (by rw [HT.out]; exact htm)
              rw [HT.out, hp] at hP'
              have HP' : Hid (IP A l K i (c + 1) m (n ++ [p]) f') := hP'
              clear hP' hp hnm
              obtain ⟨nb, ncp, hvn⟩ := own_shape HMX.out.nxt
              rw [nC_len] at hvn
              subst hvn
              have ho1 : wx.drew.cell? ⟨w.heap.size + 1 + 1, 1, none⟩ = some (.slice nb n.length ncp) := cell_of HMX.out.out
              have ho1a : ∀ O, (wx.alloc O).drew.cell? ⟨w.heap.size + 1 + 1, 1, none⟩ = some (.slice nb n.length ncp) := fun O => by have := below_cellJ (o := 1) (below_new wx O) (Array.getElem?_eq_some_iff.1 HMX.out.out).1; exact this.trans ho1
              have hnb : n.length ≤ 32768 := by have := HP.out.fu; omega
              have HOD : Hid (IM V (w.heap.size + 1) (w.heap.size + 1 + 1) gn A.ac.length A.k (.slice (some ⟨gm, 0, none⟩) m.length mc) (.slice nb n.length ncp) va (nmC m A.ac.length) (nC m) (nC n) (bC ((m.take i).map (aN A))) wx.drew) := HMX.out.call (Below.refl _ _).drew
              have KS : Hid (∀ O, (wx.alloc O).drew.ownsRow V.heap.size 3 1 (.slice nb n.length ncp) n.length (nC n)) := fun O => by have := HMX.out.nxt.alloc O; rw [nC_len] at this; exact this
              have KN : Hid (∀ (j : Nat) (u : Value), [Value.int .i64 (p : Int)][j]? = some u → (wx.alloc (.cells #[.int .i64 (p : Int)] 3)).drew.cell? ((⟨wx.heap.size, 0, none⟩ : Addr).add j) = some u) := cell_one_new wx (.int .i64 (p : Int)) 3
              have hVx : V.heap.size ≤ wx.heap.size := HMX.out.below.size
              go_wp2_with fail
              go_region_law (rw [if_pos (by rfl)]; refine wp_append_lies _ _ _ 22 rfl V.heap.size 3 i0 (.int .i64 0) 1 8 Try.underlying22 hi hz0 hz1 hz2 rfl (by decide) _ _ _ rfl (KS.out _) ⟨wx.heap.size, 0, none⟩ 1 1 [.int .i64 (p : Int)] rfl rfl KN.out (by intro u hu; simp at hu; subst hu; rfl) (by decide) (by unfold maxLen; omega) (by omega) (by simp; omega) (wx.drew.alloc (.cells #[.int .i64 (p : Int)] 3)).heap.size rfl ?_; intro g7 c7 w7 ho7 hg7 hl7 _; have hgr : (wx.drew.alloc (.cells #[.int .i64 (p : Int)] 3)).grownBy w7 _ := hg7; have hM7 := HOD.out.nxtd (x := .int .i64 (p : Int)) hgr (by rw [nC_len]; exact ho7) (by rcases hl7 with q | q; exact .inl q.symm; exact .inr (congrArg some q)); have hcs : w7.cell? ⟨w.heap.size + 1 + 1, 1, none⟩ = some (.slice nb n.length ncp) := cell_of hM7.1; have hfz : w7.frozen? ⟨w.heap.size + 1 + 1, 1, none⟩ = false := froz_of hM7.1; have HM7 : Hid _ := hM7.2; clear hM7 ho7 hg7 hl7 hgr)
              all_goals (
                go_wp2_with fail
                go_roundw
                case rel => exact ⟨c + 1, m, n ++ [p], _, va, f', by go_num, by omega, hlt, by have := HM7.out; rw [show nC n ++ [.int .i64 (p : Int)] = nC (n ++ [p]) by rw [nC_append]; rfl] at this; exact this, HP'.out⟩
                case measure => simp [intOf]; omega)
            · have hnm : nmI m t = -1 := by unfold nmI; rw [if_neg htm]
              rw [hnm] at hnc hncd
              have hfn : wx.frozen? ⟨gn, t, none⟩ = false := HMX.out.nums.frozenAt t
              have HM5 : Hid (IM V (w.heap.size + 1) (w.heap.size + 1 + 1) gn A.ac.length A.k (.slice (some ⟨gm, 0, none⟩) m.length mc) vn va (nmC (m ++ [t]) A.ac.length) (nC m) (nC n) (bC ((m.take i).map (aN A))) (wx.setCell ⟨gn, t, none⟩ (.int .i64 (m.length : Int)))) := by
                have := HMX.out.num t (.int .i64 (m.length : Int))
                rw [nmC_set d2 htm] at this
                exact this
              obtain ⟨f', hP'⟩ := HP.out.new hc HKK.out.2.2.1 hn2 HS.out (by rw [HT.out]; exact htm) (by rw [HT.out]; exact d2)
              rw [HT.out] at hP'
              have HP' : Hid (IP A l K i (c + 1) (m ++ [t]) (n ++ [m.length]) f') := hP'
              have hV5 : V.heap.size ≤ wx.heap.size := HMX.out.below.size
              have KM : Hid (∀ O, ((wx.setCell ⟨gn, t, none⟩ (.int .i64 (m.length : Int))).alloc O).ownsRow V.heap.size 3 1 (.slice (some ⟨gm, 0, none⟩) m.length mc) m.length (nC m)) := fun O => by have := HM5.out.met.alloc O; rw [nC_len] at this; exact this
              clear hP' hnm hncd
              go_wp2_with (at_builtin; refine wpList_append_own_at _ rfl _ _ 22 rfl V.heap.size 3 i0 (.int .i64 0) 1 8 Try.underlying22 hi hz0 hz1 hz2 rfl (by decide) _ _ _ rfl (KM.out _) ⟨wx.heap.size, 0, none⟩ 1 1 [.int .i64 (t : Int)] rfl rfl (by have := cell_one_new (wx.setCell ⟨gn, t, none⟩ (.int .i64 (m.length : Int))) (.int .i64 (t : Int)) 3; simpa [World.setCell] using this) (by intro u hu; simp at hu; subst hu; rfl) (by unfold maxLen; omega) (by omega) (by simp; omega) ?_; intro v6 w6 ho6 hg6 _ hl6; obtain ⟨a6, c6, rfl⟩ := own_shape ho6; have hM6 := HM5.out.metd (x := .int .i64 (t : Int)) hg6 (by rw [nC_len]; exact ho6) hl6; have HM6' : Hid _ := hM6; clear hM6 ho6 hg6 hl6)
              have HM6 : Hid (IM V (w.heap.size + 1) (w.heap.size + 1 + 1) gn A.ac.length A.k (.slice a6 (m.length + 1) c6) vn va (nmC (m ++ [t]) A.ac.length) (nC (m ++ [t])) (nC n) (bC (((m ++ [t]).take i).map (aN A))) w6) := by
                have := HM6'.out
                rw [show nC m ++ [.int .i64 (t : Int)] = nC (m ++ [t]) by rw [nC_append]; rfl, show m.take i = (m ++ [t]).take i from (List.take_append_of_le_length (by omega)).symm] at this
                exact this
              have hnv : nmI (m ++ [t]) t = (m.length : Int) := by unfold nmI; rw [if_pos (by simp), List.idxOf_append, if_neg htm]; simp
              have hnc6 : w6.cell? ⟨gn, t, none⟩ = some (.int .i64 (m.length : Int)) := (HM6.out.nums.cellAt t (by omega)).trans (by rw [nmC_at d2, hnv])
              have hncd : w6.drew.cell? ⟨gn, t, none⟩ = some (.int .i64 (m.length : Int)) := hnc6
              have hnca : ∀ O, (w6.alloc O).drew.cell? ⟨gn, t, none⟩ = some (.int .i64 (m.length : Int)) := fun O => by have := below_cellJ (o := t) (below_new w6 O) (Array.getElem?_eq_some_iff.1 HM6.out.numBlk.2.choose_spec).1; exact this.trans hnc6
              clear hnc hfn csx
              obtain ⟨nb, ncp, hvn⟩ := own_shape HM6.out.nxt
              rw [nC_len] at hvn
              subst hvn
              have ho1 : w6.drew.cell? ⟨w.heap.size + 1 + 1, 1, none⟩ = some (.slice nb n.length ncp) := cell_of HM6.out.out
              have ho1a : ∀ O, (w6.alloc O).drew.cell? ⟨w.heap.size + 1 + 1, 1, none⟩ = some (.slice nb n.length ncp) := fun O => by have := below_cellJ (o := 1) (below_new w6 O) (Array.getElem?_eq_some_iff.1 HM6.out.out).1; exact this.trans ho1
              have hnb : n.length ≤ 32768 := by have := HP.out.fu; omega
              have HOD : Hid (IM V (w.heap.size + 1) (w.heap.size + 1 + 1) gn A.ac.length A.k (.slice a6 (m.length + 1) c6) (.slice nb n.length ncp) va (nmC (m ++ [t]) A.ac.length) (nC (m ++ [t])) (nC n) (bC (((m ++ [t]).take i).map (aN A))) w6.drew) := HM6.out.call (Below.refl _ _).drew
              have KS : Hid (∀ O, (w6.alloc O).drew.ownsRow V.heap.size 3 1 (.slice nb n.length ncp) n.length (nC n)) := fun O => by have := HM6.out.nxt.alloc O; rw [nC_len] at this; exact this
              have KN : Hid (∀ (j : Nat) (u : Value), [Value.int .i64 (m.length : Int)][j]? = some u → (w6.alloc (.cells #[.int .i64 (m.length : Int)] 3)).drew.cell? ((⟨w6.heap.size, 0, none⟩ : Addr).add j) = some u) := cell_one_new w6 (.int .i64 (m.length : Int)) 3
              have hVx : V.heap.size ≤ w6.heap.size := HM6.out.below.size
              go_region_law (rw [if_pos (by rfl)]; refine wp_append_lies _ _ _ 22 rfl V.heap.size 3 i0 (.int .i64 0) 1 8 Try.underlying22 hi hz0 hz1 hz2 rfl (by decide) _ _ _ rfl (KS.out _) ⟨w6.heap.size, 0, none⟩ 1 1 [.int .i64 (m.length : Int)] rfl rfl KN.out (by intro u hu; simp at hu; subst hu; rfl) (by decide) (by unfold maxLen; omega) (by omega) (by simp; omega) (w6.drew.alloc (.cells #[.int .i64 (m.length : Int)] 3)).heap.size rfl ?_; intro g7 c7 w7 ho7 hg7 hl7 _; have hgr : (w6.drew.alloc (.cells #[.int .i64 (m.length : Int)] 3)).grownBy w7 _ := hg7; have hM7 := HOD.out.nxtd (x := .int .i64 (m.length : Int)) hgr (by rw [nC_len]; exact ho7) (by rcases hl7 with q | q; exact .inl q.symm; exact .inr (congrArg some q)); have hcs : w7.cell? ⟨w.heap.size + 1 + 1, 1, none⟩ = some (.slice nb n.length ncp) := cell_of hM7.1; have hfz : w7.frozen? ⟨w.heap.size + 1 + 1, 1, none⟩ = false := froz_of hM7.1; have HM7 : Hid _ := hM7.2; clear hM7 ho7 hg7 hl7 hgr)
              all_goals (
                go_wp2_with fail
                go_roundw
                case rel => exact ⟨c + 1, m ++ [t], n ++ [m.length], _, va, f', by go_num, by omega, by simp; omega, by have := HM7.out; rw [show nC n ++ [.int .i64 (m.length : Int)] = nC (n ++ [m.length]) by rw [nC_append]; rfl] at this; exact this, HP'.out⟩
                case measure => simp [intOf]; omega)
        · have hcI : ¬ (c : Int) < A.k := by have := HKK.out.1; omega
          have hcE : c = K := by omega
          obtain ⟨za, zc, hva⟩ := own_shape hM.acp
          have hal : (bC ((m.take i).map (aN A))).length = i := by simp [bC]; omega
          rw [hal] at hva
          subst hva
          have HMA : Hid (IM V (w.heap.size + 1) (w.heap.size + 1 + 1) gn A.ac.length A.k (.slice (some ⟨gm, 0, none⟩) m.length mc) vn (.slice za i zc) (nmC m A.ac.length) (nC m) (nC n) (bC ((m.take i).map (aN A))) wr) := hM
          have ho2 : wr.drew.cell? ⟨w.heap.size + 1 + 1, 2, none⟩ = some (.slice za i zc) := cell_of hM.out
          have ho2a : ∀ O, (wr.alloc O).drew.cell? ⟨w.heap.size + 1 + 1, 2, none⟩ = some (.slice za i zc) := fun O => by have := below_cellJ (o := 2) (below_new wr O) (Array.getElem?_eq_some_iff.1 hM.out).1; exact this.trans ho2
          have csd : ∀ o, wr.drew.cell? ⟨w.heap.size, o, none⟩ = (#[.int .i64 A.k, .slice an A.nx.length cn, .slice (some ⟨ga, oa, none⟩) A.ac.length ca] : Array Value)[o]? := cs
          have csa : ∀ O o, (wr.alloc O).drew.cell? ⟨w.heap.size, o, none⟩ = (#[.int .i64 A.k, .slice an A.nx.length cn, .slice (some ⟨ga, oa, none⟩) A.ac.length ca] : Array Value)[o]? := fun O o => ((HRV.out.stay hM.below).alloc O).cell o
          have hcmd : wr.drew.cell? ⟨gm, i, none⟩ = some (.int .i64 (s : Int)) := hcm
          have hac := CA.out wr s hBw hsN
          obtain ⟨x, hx⟩ : ∃ x, A.ac.getD s false = x := ⟨_, rfl⟩
          rw [hx] at hac
          have hacd : wr.drew.cell? ⟨ga, oa + s, none⟩ = some (.bool x) := hac
          have hsI : (s : Int) < A.ac.length := by omega
          have hAC : bC ((m.take i).map (aN A)) ++ [.bool x] = bC ((m.take (i + 1)).map (aN A)) := by
            rw [List.take_add_one, hs, List.map_append, bC_append]
            rw [← hx]
            rfl
          have HAC : Hid (bC ((m.take i).map (aN A)) ++ [.bool x] = bC ((m.take (i + 1)).map (aN A))) := hAC
          have HPN : Hid (IP A l K (i + 1) 0 m n f) := by have := HP.out; rw [hcE] at this; exact this.next
          have HAL : Hid ((bC ((m.take i).map (aN A))).length = i) := hal
          have HOD : Hid (IM V (w.heap.size + 1) (w.heap.size + 1 + 1) gn A.ac.length A.k (.slice (some ⟨gm, 0, none⟩) m.length mc) vn (.slice za i zc) (nmC m A.ac.length) (nC m) (nC n) (bC ((m.take i).map (aN A))) wr.drew) := hM.call (Below.refl _ _).drew
          have KS : Hid (∀ O, (wr.alloc O).drew.ownsRow V.heap.size 4 1 (.slice za i zc) i (bC ((m.take i).map (aN A)))) := fun O => by have := hM.acp.alloc O; rw [hal] at this; exact this
          have KN : Hid (∀ (j : Nat) (u : Value), [Value.bool x][j]? = some u → (wr.alloc (.cells #[.bool x] 4)).drew.cell? ((⟨wr.heap.size, 0, none⟩ : Addr).add j) = some u) := cell_one_new wr (.bool x) 4
          have hVx : V.heap.size ≤ wr.heap.size := hM.below.size
          clear hM hP hs hmet hcE hal hx hac hAC
          go_wp2_with fail
          go_region_law (rw [if_pos (by rfl)]; refine wp_append_own _ _ _ 23 rfl V.heap.size 4 i1 (.bool false) 1 1 Try.underlying23 hj hq0 hq1 hq2 rfl (by decide) _ _ _ rfl (KS.out _) ⟨wr.heap.size, 0, none⟩ 1 1 [.bool x] rfl rfl KN.out (by intro u hu; simp at hu; subst hu; rfl) (by unfold maxLen; omega) (by omega) (by simp; omega) ?_; intro v7 w7 ho7 hg7 _; obtain ⟨va7, vc7, rfl⟩ := own_shape ho7; have hgr : (wr.drew.alloc (.cells #[.bool x] 4)).grownBy w7 _ := hg7; have hM7 := HOD.out.acpd (x := .bool x) hgr (by rw [HAL.out]; exact ho7); rw [HAC.out] at hM7; have hcs : w7.cell? ⟨w.heap.size + 1 + 1, 2, none⟩ = some (.slice za i zc) := cell_of hM7.1; have hfz : w7.frozen? ⟨w.heap.size + 1 + 1, 2, none⟩ = false := froz_of hM7.1; have HM7 : Hid _ := hM7.2; clear hM7 ho7 hg7 hgr)
          all_goals (
            go_wp2_with fail
            go_roundw
            case rel => exact ⟨i + 1, m, n, vn, _, f, by go_num, by omega, HM7.out, HPN.out⟩
            case measure => simp [intOf]; omega)
    · have hiI : ¬ (i : Int) < m.length := by omega
      have hiE : i = m.length := by omega
      obtain ⟨nb, ncp, hvn⟩ := own_shape hM.nxt
      rw [nC_len] at hvn
      subst hvn
      obtain ⟨za, zc, hva⟩ := own_shape hM.acp
      have hal : (bC ((m.take i).map (aN A))).length = m.length := by simp [bC]; omega
      rw [hal] at hva
      subst hva
      have hend := hP.go
      have hnl : n.length = m.length * K := by have := hP.nl; rw [hiE] at this; omega
      rw [bgo_end hnl] at hend
      have HI : Hid (ioA A l = ⟨A.k, n.map fun (x : Nat) => (x : Int), m.map (aN A)⟩ ∧ ioM A l = m) := by
        show _ ∧ _
        unfold ioA ioM
        rw [HKK.out.2.2.2, ← hend]
        exact ⟨rfl, rfl⟩
      have hao : AO V.heap.size wr (.agg #[.int .i64 A.k, .slice nb n.length ncp, .slice za m.length zc]) (ioA A l) := by
        rw [HI.out.1]
        have q1 := hM.nxt
        have q2 := hM.acp
        rw [nC_len, nC_zC] at q1
        rw [hal, hiE, List.take_length] at q2
        exact ⟨nb, ncp, za, zc, by simp, by simpa using q1, by simpa using q2⟩
      obtain ⟨f1, f2, f3⟩ := res_done (B := ioA A l) (base := w.heap.size) (w0 := w) hM.res (hao.mono HBV.out.size) (go_on HBV.out hM.below) (by omega)
      have hnm := hM.nums
      have cs := (HRV.out.stay hM.below).cell
      have ho : ∀ o, wr.cell? ⟨w.heap.size + 1 + 1, o, none⟩ = (#[.int .i64 A.k, .slice nb n.length ncp, .slice za m.length zc] : Array Value)[o]? := fun o => cell_of hM.out
      have hr0 : wr.cell? ⟨w.heap.size + 1, 0, none⟩ = some (.int .i64 0) := cell_of hM.res
      have hr1 : wr.cell? ⟨w.heap.size + 1, 1, none⟩ = some (.slice none 0 0) := cell_of hM.res
      have hr2 : wr.cell? ⟨w.heap.size + 1, 2, none⟩ = some (.slice none 0 0) := cell_of hM.res
      have hf : ∀ j, wr.frozen? ⟨w.heap.size + 1, j, none⟩ = false := fun j => froz_of hM.res
      have FN : Hid ((((wr.setCell ⟨w.heap.size + 1, 0, none⟩ (.int .i64 A.k)).setCell ⟨w.heap.size + 1, 1, none⟩ (.slice nb n.length ncp)).setCell ⟨w.heap.size + 1, 2, none⟩ (.slice za m.length zc)).ownsRow w.heap.size 3 1 (.slice (some ⟨gn, 0, none⟩) A.ac.length A.ac.length) A.ac.length (nmC (ioM A l) A.ac.length)) := by
        rw [HI.out.2]
        obtain ⟨_, cur, hgn⟩ := hM.numBlk
        have hne : gn ≠ w.heap.size + 1 := fun e => by have := hM.res; rw [← e, hgn] at this; cases this
        refine own_keep (own_mono hnm HBV.out.size) (fun b cur hb _ => ?_)
        simp only [Value.ownBlock, Option.some.injEq] at hb
        rw [← hb, heap_set_other hne, heap_set_other hne, heap_set_other hne]
      have F1 : Hid _ := f1
      have F2 : Hid _ := f2
      have F3 : Hid _ := f3
      clear f1 f2 f3 hao hnm hM hP hend hnl hal hiE
      go_wp2_with fail
      exact bodyPost_ret (results_auto rfl rfl F1.out rfl) rfl ⟨_, gn, rfl, F2.out, FN.out, F3.out⟩
end Go.Proofs.Ythmnoepjkobcmab
