/- Lists of lists of nodes that a call told: SpoilNodes, SameTrees, ApartNodes of them. -/
import Derived.Test.YtdmjcfecahcdnaaDoorNb
import Derived.Deep.RegionHeld3
namespace Go.Proofs.YtdmjcfecahcdnaaDoor
open Go Go.RowKit

/-- What a call told: a list of lists, each in memory of its own, all of it made since 'base'. -/
structure Told (w : World) (base G : Nat) (vs : List Value) (ps : List (List Nd)) : Prop where
  lenv : vs.length = ps.length
  list : w.heap[G]? = some (.cells vs.toArray 22 (0, 0))
  from_ : base ≤ G
  rows : ∀ j, j < ps.length → w.ownsRow base 52 2 (vs.getD j (.slice none 0 0)) (ps.getD j []).length (ndC (ps.getD j []))
  apart : ∀ j j', j < ps.length → j' < ps.length → j ≠ j' → ∀ b, (vs.getD j (.slice none 0 0)).ownBlock = some b → (vs.getD j' (.slice none 0 0)).ownBlock ≠ some b
theorem Told.lt {w : World} {base G : Nat} {vs : List Value} {ps : List (List Nd)} (h : Told w base G vs ps) : G < w.heap.size := (Array.getElem?_eq_some_iff.1 h.list).1
theorem Told.kept {w w' : World} {base G : Nat} {vs : List Value} {ps : List (List Nd)} (h : Told w base G vs ps) (hk : ∀ k, base ≤ k → k < w.heap.size → w'.heap[k]? = w.heap[k]?) : Told w' base G vs ps :=
  ⟨h.lenv, (hk G h.from_ h.lt).trans h.list, h.from_, fun j hj => own_of_heap (h.rows j hj) (fun b hb => hk b ((h.rows j hj).lt b hb).1 ((h.rows j hj).lt b hb).2), h.apart⟩
theorem Told.stay {w w' : World} {base G : Nat} {vs : List Value} {ps : List (List Nd)} (h : Told w base G vs ps) (hb : Below w.heap.size w w') : Told w' base G vs ps := h.kept fun k _ hk => hb.block k hk
theorem Told.reads {w : World} {base G : Nat} {vs : List Value} {ps : List (List Nd)} (h : Told w base G vs ps) (c : Nat) : PReads w (.slice (some ⟨G, 0, none⟩) ps.length c) ps := by
  refine ⟨_, c, rfl, fun i hi => ⟨G, 0, vs.getD i (.slice none 0 0), rfl, h.lt, ?_, own_nreads (h.rows i hi)⟩⟩
  rw [World.cell?]
  simp only [h.list]
  have : i < vs.length := by rw [h.lenv]; exact hi
  simp [List.getD_eq_getElem?_getD, List.getElem?_eq_getElem this]
def sA : Value → Option Addr
  | .slice a _ _ => a
  | _ => none
def sC : Value → Nat
  | .slice _ _ c => c
  | _ => 0
theorem apart_told {w : World} {base G : Nat} {vs : List Value} {ps : List (List Nd)} (h : Told w base G vs ps) (cp : Nat) (hB : base ≤ w.heap.size) (h0 : 0 < ps.length) (hN : ps.length ≤ 1048576) (hl : ∀ j, j < ps.length → (ps.getD j []).length ≤ 1048576) :
    Calls Tryd.prog 23 #[.slice (some ⟨G, 0, none⟩) ps.length cp] w fun e w' => e = .returned (.bool true) ∧ Below base w w' := by
  have hv : ∀ j, j < ps.length → vv (fun j => sA (vs.getD j (.slice none 0 0))) (fun j => (ps.getD j []).length) (fun j => sC (vs.getD j (.slice none 0 0))) j = vs.getD j (.slice none 0 0) := by
    intro j hj
    obtain ⟨a, c, e⟩ := own_shape (h.rows j hj)
    show Value.slice _ _ _ = _
    simp only [e, sA, sC]
  refine apart_any ps.length base G cp (fun j => sA (vs.getD j (.slice none 0 0))) (fun j => (ps.getD j []).length) (fun j => sC (vs.getD j (.slice none 0 0))) (fun j => ps.getD j []) w ?_ ?_ hl (fun _ _ => rfl) ?_ hB h0 hN
  · rw [h.list]
    congr 3
    apply List.ext_getElem?
    intro j
    by_cases hj : j < ps.length
    · have hj2 : j < vs.length := by rw [h.lenv]; exact hj
      have := hv j hj
      rw [List.getD_eq_getElem?_getD, List.getElem?_eq_getElem hj2] at this
      simp only [Option.getD_some] at this
      simp only [List.getElem?_map, List.getElem?_range hj, Option.map_some]
      rw [hv j hj, List.getD_eq_getElem?_getD, List.getElem?_eq_getElem hj2]
      rfl
    · rw [List.getElem?_eq_none (by rw [h.lenv]; omega), List.getElem?_eq_none (by simp; omega)]
  · intro j hj
    rw [hv j hj]
    exact h.rows j hj
  · intro j j' hj hj' hne
    rw [hv j hj, hv j' hj']
    exact h.apart j j' hj hj' hne
set_option maxHeartbeats 1000000 in
theorem apart_none (a : Option Addr) (c : Nat) (w : World) :
    Calls Tryd.prog 23 #[.slice a 0 c] w fun e w' => e = .returned (.bool true) ∧ Below w.heap.size w w' := by
  go_enter Tryd.func23, Tryd.ntmps23
  go_wp2_with fail
  refine wp_loop_rounds 1 ?_
  rw [rounds_succ]
  go_wp2_with fail
  refine wp_loop_rounds 1 ?_
  rw [rounds_succ]
  go_wp2_with fail
  refine wp_loop_rounds 1 ?_
  rw [rounds_succ]
  go_wp2_with fail
  go_ret
  exact ⟨rfl, Below.refl _ _⟩

set_option maxHeartbeats 2000000 in
set_option maxRecDepth 100000 in
/-- A lent list is written over: nothing else is. -/
theorem spoil_any (base g m n cap : Nat) (xs : List Nd) (w : World) (ho : w.ownsRow base 52 2 (.slice (some ⟨g, 0, none⟩) m cap) m (ndC xs)) (hx : xs.length = m) (hn : n ≤ m) (hm : m ≤ 9223372036854775806) (cap' : Nat) :
    Calls Tryd.prog 17 #[.slice (some ⟨g, 0, none⟩) n cap'] w fun e w' => e = .returned (.tuple #[]) ∧ w.grownBy w' (some g) := by
  have HO : Hid (w.ownsRow base 52 2 (.slice (some ⟨g, 0, none⟩) m cap) m (ndC xs)) := ho
  clear ho
  go_enter Tryd.func17, Tryd.ntmps17
  go_wp2_with fail
  go_loopw [2] (fun vi wr => ∃ (i : Nat) (ys : List Nd), i ≤ n ∧ vi = .int .i64 i ∧ ys.length = m ∧ wr.ownsRow base 52 2 (.slice (some ⟨g, 0, none⟩) m cap) m (ndC ys) ∧ w.grownBy wr (some g)) (fun vi _ => n - (intOf vi).toNat)
  case atStart => exact ⟨0, xs, Nat.zero_le _, rfl, hx, HO.out, ⟨rfl, rfl, rfl, Nat.le_refl _, fun _ _ _ => rfl⟩⟩
  case round =>
    obtain ⟨i, ys, hi, rfl, hy, ho2, hg⟩ := hrel
    have HO2 : Hid (wr.ownsRow base 52 2 (.slice (some ⟨g, 0, none⟩) m cap) m (ndC ys)) := ho2
    have HG : Hid (w.grownBy wr (some g)) := hg
    clear ho2 hg HO
    by_cases hlt : i < n
    · have hiI : (i : Int) < n := by omega
      have c0 := HO2.out.cellAt (i * 2) (by omega)
      have c1 := HO2.out.cellAt (i * 2 + 1) (by omega)
      rw [(ndC_at ys i (by omega) _ rfl).1] at c0
      rw [(ndC_at ys i (by omega) _ rfl).2] at c1
      have f0 := HO2.out.frozenAt (i * 2)
      have f1 := HO2.out.frozenAt (i * 2 + 1)
      have HO3 : Hid (((wr.setCell ⟨g, i * 2, none⟩ (.int .i64 99)).setCell ⟨g, i * 2 + 1, none⟩ (.int .u8 0)).ownsRow base 52 2 (.slice (some ⟨g, 0, none⟩) m cap) m (ndC (ys.set i (mark 99)))) := by
        have r := ((HO2.out.stored (i * 2) (.int .i64 ((99 : Nat) : Int))).1.stored (i * 2 + 1) (.int .u8 0)).1
        rw [ndC_set _ _ _ (by omega)] at r
        exact r
      have HG3 : Hid (w.grownBy ((wr.setCell ⟨g, i * 2, none⟩ (.int .i64 99)).setCell ⟨g, i * 2 + 1, none⟩ (.int .u8 0)) (some g)) := by
        refine ⟨HG.out.os, HG.out.tape, HG.out.output, by simpa using HG.out.size, fun k hk hne => ?_⟩
        have hkg : k ≠ g := fun e => hne (by rw [e])
        rw [Below.heap_setCell _ _ _ _ hkg, Below.heap_setCell _ _ _ _ hkg]
        exact HG.out.block k hk hne
      obtain ⟨⟨z, z'⟩, hz⟩ : ∃ z, ys.getD i (0, 0) = z := ⟨_, rfl⟩
      rw [hz] at c0 c1
      clear hz
      go_wp2_with fail
      go_roundw
      case rel => exact ⟨i + 1, ys.set i (mark 99), by omega, by go_num, by simpa using hy, HO3.out, HG3.out⟩
      case measure => simp [intOf]; omega
    · have hiI : ¬ (i : Int) < n := by omega
      go_wp2_with fail
      refine bodyPost_end (results_none rfl _ _ _) rfl ?_
      exact ⟨rfl, HG.out⟩

abbrev S2 (W : World) (a1 a2 : Addr) (u1 u2 : Value) (w' : World) : Prop := w'.cell? a1 = some u1 ∧ w'.cell? a2 = some u2 ∧ Below W.heap.size W w'
theorem s2_step {W : World} {a1 a2 : Addr} {u1 u2 : Value} {w1 w2 : World} (h1 : a1.block < W.heap.size) (h2 : a2.block < W.heap.size) (hb : Below w1.heap.size w1 w2) (h : S2 W a1 a2 u1 u2 w1) : S2 W a1 a2 u1 u2 w2 := by
  have hs := h.2.2.size
  refine ⟨?_, ?_, go_on h.2.2 hb⟩
  · rw [World.cell?_of_block (hb.block _ (Nat.lt_of_lt_of_le h1 hs))]; exact h.1
  · rw [World.cell?_of_block (hb.block _ (Nat.lt_of_lt_of_le h2 hs))]; exact h.2.1

def SameTo (ps qs : List (List Nd)) (i : Nat) : Prop := ∀ j, j < i → ps.getD j [] = qs.getD j []
set_option maxHeartbeats 4000000 in
set_option maxRecDepth 100000 in
theorem sameTrees_any (v1 v2 : Value) (ps qs : List (List Nd)) (w : World) (h1 : PReads w v1 ps) (h2 : PReads w v2 qs) (hm : ∀ i, (ps.getD i []).length ≤ 9223372036854775806) (hl : ps.length ≤ 9223372036854775806) :
    Calls Tryd.prog 29 #[v1, v2] w fun e w' => e = .returned (.bool (decide (ps = qs))) ∧ Below w.heap.size w w' := by
  obtain ⟨a1, c1, rfl, g1⟩ := h1
  obtain ⟨a2, c2, rfl, g2⟩ := h2
  have H1 : Hid _ := g1
  have H2 : Hid _ := g2
  have HM : Hid (∀ i, (ps.getD i []).length ≤ 9223372036854775806) := hm
  clear g1 g2 hm
  by_cases hne : ps.length = qs.length
  · have hneI : ((ps.length : Int) != (qs.length : Int)) = false := by simp [hne]
    have HE : Hid (ps.length = qs.length) := hne
    clear hne
    go_enter Tryd.func29, Tryd.ntmps29
    go_wp2_with fail
    clear hneI
    go_loopw [5] (fun vi wr => ∃ i : Nat, i ≤ ps.length ∧ vi = .int .i64 i ∧ SameTo ps qs i ∧ Below w.heap.size w wr) (fun vi _ => ps.length - (intOf vi).toNat)
    case atStart => exact ⟨0, Nat.zero_le _, rfl, fun j hj => by omega, Below.refl _ _⟩
    case round =>
      obtain ⟨i, hi, rfl, hall, hb⟩ := hrel
      have HA : Hid (SameTo ps qs i) := hall
      have HB : Hid (Below w.heap.size w wr) := hb
      clear hall hb
      by_cases hlt : i < ps.length
      · have hiI : (i : Int) < ps.length := by omega
        have hiI2 : (i : Int) < qs.length := by have := HE.out; omega
        obtain ⟨b1, o1, u1, rfl, hb1, hc1, hr1⟩ := H1.out i hlt
        obtain ⟨b2, o2, u2, rfl, hb2, hc2, hr2⟩ := H2.out i (by have := HE.out; omega)
        have cc1 : wr.cell? ⟨b1, o1 + i, none⟩ = some u1 := by rw [below_cell HB.out hb1]; exact hc1
        have cc2 : wr.cell? ⟨b2, o2 + i, none⟩ = some u2 := by rw [below_cell HB.out hb2]; exact hc2
        have hs := HB.out.size
        have S0 : S2 wr ⟨b1, o1 + i, none⟩ ⟨b2, o2 + i, none⟩ u1 u2 wr.drew := ⟨cc1, cc2, (Below.refl _ _).drew⟩
        have hq1 : (⟨b1, o1 + i, none⟩ : Addr).block < wr.heap.size := by show b1 < _; omega
        have hq2 : (⟨b2, o2 + i, none⟩ : Addr).block < wr.heap.size := by show b2 < _; omega
        obtain ⟨p, hp⟩ : ∃ p, ps.getD i [] = p := ⟨_, rfl⟩
        obtain ⟨q, hq⟩ : ∃ q, qs.getD i [] = q := ⟨_, rfl⟩
        have hpm := HM.out i
        rw [hp] at hr1 hpm
        rw [hq] at hr2
        have HR1 : Hid (NReads wr u1 p) := hr1.stay HB.out
        have HR2 : Hid (NReads wr u2 q) := hr2.stay HB.out
        have HPQ : Hid (ps.getD i [] = p ∧ qs.getD i [] = q) := ⟨hp, hq⟩
        obtain ⟨t, ht⟩ : ∃ t, decide (p = q) = t := ⟨_, rfl⟩
        have HT : Hid (decide (p = q) = t) := ht
        clear hr1 hr2 hc1 hc2 cc1 cc2 hp hq ht
        go_wp2_with fail
        go_region_held3 (fun w' => S2 wr ⟨b1, o1 + i, none⟩ ⟨b2, o2 + i, none⟩ u1 u2 w') (first | exact S0 | assumption | exact s2_step hq1 hq2 (by assumption) (by assumption)) (first
          | (go_at_call 18; refine (same_any _ _ p q _ (by exact HR1.out.stay (by exact (And.right (And.right (by assumption))))) (by exact HR2.out.stay (by exact (And.right (And.right (by assumption))))) hpm).mono ?_; rintro e y2 ⟨rfl, hy2⟩; rw [HT.out]))
        all_goals (
          have hS : S2 wr ⟨b1, o1 + i, none⟩ ⟨b2, o2 + i, none⟩ u1 u2 y2 := by first | assumption | exact s2_step hq1 hq2 (by assumption) (by assumption)
          have HBy : Hid (Below w.heap.size w y2) := go_on HB.out hS.2.2
          clear hS S0
          cases t with
          | true =>
            have HPQ2 : Hid (ps.getD i [] = qs.getD i []) := by show _ = _; rw [HPQ.out.1, HPQ.out.2]; exact of_decide_eq_true HT.out
            go_wp2_with fail
            go_roundw
            case rel =>
              refine ⟨i + 1, by omega, by go_num, fun j hj => ?_, HBy.out⟩
              by_cases hji : j < i
              · exact HA.out j hji
              · obtain rfl : j = i := by omega
                exact HPQ2.out
            case measure => simp [intOf]; omega
          | false =>
            have HD : Hid (decide (ps = qs) = false) := by
              show _ = _
              rw [decide_eq_false_iff_not]
              intro e
              have := of_decide_eq_false HT.out
              rw [← HPQ.out.1, ← HPQ.out.2, e] at this
              exact this rfl
            go_wp2_with fail
            go_ret
            exact ⟨ret_bool HD.out.symm, HBy.out⟩)
      · have hiI : ¬ (i : Int) < ps.length := by omega
        have HD : Hid (decide (ps = qs) = true) := by
          show _ = _
          rw [decide_eq_true_iff]
          apply List.ext_getElem?
          intro j
          have hE := HE.out
          by_cases hj : j < ps.length
          · have := HA.out j (by omega)
            rw [List.getD_eq_getElem?_getD, List.getD_eq_getElem?_getD, List.getElem?_eq_getElem hj, List.getElem?_eq_getElem (by omega)] at this
            rw [List.getElem?_eq_getElem hj, List.getElem?_eq_getElem (by omega)]
            simpa using this
          · rw [List.getElem?_eq_none (by omega), List.getElem?_eq_none (by omega)]
        go_wp2_with fail
        go_ret
        exact ⟨ret_bool HD.out.symm, HB.out⟩
  · have hneI : ((ps.length : Int) != (qs.length : Int)) = true := by simp; omega
    have HD : Hid (decide (ps = qs) = false) := by show _ = _; rw [decide_eq_false_iff_not]; intro e; exact hne (by rw [e])
    clear hne
    go_enter Tryd.func29, Tryd.ntmps29
    go_wp2_with fail
    go_ret
    exact ⟨ret_bool HD.out.symm, Below.refl _ _⟩
end Go.Proofs.YtdmjcfecahcdnaaDoor
