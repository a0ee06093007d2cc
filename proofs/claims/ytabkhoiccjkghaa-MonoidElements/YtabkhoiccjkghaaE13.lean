/- monoid: finding.accepted. -/
import Derived.Test.YtabkhoiccjkghaaE12
namespace Go.Proofs.Ytabkhoiccjkghaa
open Go Go.RowKit Go.Lib Go.Maps
set_option linter.unusedVariables false
attribute [-instance] List.instBEq instBEqProd

/-- Whose words lead from 0 to an accepted state. -/
def acc (A : Aut) (M : List (List Nat)) (j : Nat) : Bool := aN A (im (M.getD j []) 0)
/-- The verdicts of the first i elements lie in block g. -/
def BP (w : World) (g : Nat) (A : Aut) (M : List (List Nat)) (i : Nat) : Prop := ∃ cur : Array Value, w.heap[g]? = some (.cells cur 4 (0, 0)) ∧ cur.size = M.length ∧ ∀ j, j < i → cur[j]? = some (.bool (acc A M j))
theorem BP.keep {w w' : World} {g : Nat} {A : Aut} {M : List (List Nat)} {i : Nat} (h : BP w g A M i) (e : w'.heap[g]? = w.heap[g]?) : BP w' g A M i := by
  obtain ⟨cur, h1, h2, h3⟩ := h
  exact ⟨cur, e.trans h1, h2, h3⟩
theorem BP.lt {w : World} {g : Nat} {A : Aut} {M : List (List Nat)} {i : Nat} (h : BP w g A M i) : g < w.heap.size := by
  obtain ⟨cur, h1, h2, h3⟩ := h
  exact (Array.getElem?_eq_some_iff.1 h1).1
theorem BP.cell {w : World} {g : Nat} {A : Aut} {M : List (List Nat)} {i : Nat} (h : BP w g A M i) {j : Nat} (hj : j < i) : w.cell? ⟨g, j, none⟩ = some (.bool (acc A M j)) := by
  obtain ⟨cur, h1, h2, h3⟩ := h
  rw [cell_of_row _ _ _ _ _ _ h1]
  exact h3 j hj
theorem BP.here {w : World} {g : Nat} {A : Aut} {M : List (List Nat)} {i : Nat} (h : BP w g A M i) {j : Nat} (hj : j < M.length) : w.cell? ⟨g, j, none⟩ = some (pvS w g j) ∧ w.frozen? ⟨g, j, none⟩ = false := by
  obtain ⟨cur, h1, h2, h3⟩ := h
  refine ⟨?_, frozen_blk h1 j⟩
  unfold pvS
  rw [cell_of_row _ _ _ _ _ _ h1, Array.getElem?_eq_getElem (by omega)]
  rfl
theorem BP.put {w : World} {g : Nat} {A : Aut} {M : List (List Nat)} {i : Nat} (h : BP w g A M i) (hi : i < M.length) : BP (w.setCell ⟨g, i, none⟩ (.bool (acc A M i))) g A M (i + 1) := by
  obtain ⟨cur, h1, h2, h3⟩ := h
  refine ⟨_, heap_set h1, by simpa using h2, fun j hj => ?_⟩
  rw [Array.getElem?_setIfInBounds]
  by_cases e : i = j
  · subst e
    rw [if_pos rfl, if_pos (by omega)]
  · rw [if_neg e]
    exact h3 j (by omega)
theorem own_bp {w : World} {base g n : Nat} {A : Aut} {M : List (List Nat)} {xs : List Value} (h : w.ownsRow base 4 1 (.slice (some ⟨g, 0, none⟩) M.length M.length) M.length xs) : BP w g A M 0 := by
  rcases h.2 with ⟨h1, _⟩ | ⟨g', cap, cur, h1, r1, r2, r3, r4, r5, r6⟩
  · cases h1
  · simp only [Value.slice.injEq, Option.some.injEq, Addr.mk.injEq] at h1
    obtain ⟨⟨rfl, _⟩, _, rfl⟩ := h1
    exact ⟨cur, r2, by omega, fun j hj => by omega⟩

set_option maxHeartbeats 4000000 in
set_option maxRecDepth 100000 in
theorem accepted_any {base : Nat} {w : World} {fb b mb K : Nat} {vl vw vr : Value} {M : List (List Nat)} {W : List (Nat × Nat)} {N : List Nat} {D : DataW Unit} {A : Aut} (h : FN base w fb b mb K A.ac.length vl vw vr M W N D) (wy : W.length = M.length) (v : Value) (ha : AR w v A) (hn1 : 1 ≤ A.ac.length) :
    Calls Try.prog 43 #[.pointer (some ⟨fb, 0, none⟩), v] w fun e w' => ∃ g, e = .returned (.slice (some ⟨g, 0, none⟩) M.length M.length) ∧ Below w.heap.size w w' ∧ w.heap.size ≤ g ∧ BP w' g A M M.length := by
  obtain ⟨an, cn, aa, ca, e, h1, h2⟩ := ha.is
  subst e
  obtain ⟨ga, oa, rfl, hga, _⟩ := h2.bool (i := 0) (by omega)
  have HA : Hid (∀ (y : World) (s : Nat), Below w.heap.size w y → s < A.ac.length → y.cell? ⟨ga, oa + s, none⟩ = some (.bool (aN A s))) := fun y s hy hs => by
    obtain ⟨g', o', e, hg', hc⟩ := h2.bool hs
    simp only [Option.some.injEq, Addr.mk.injEq, and_true] at e
    obtain ⟨rfl, rfl⟩ := e
    rw [below_cellJ hy hg']
    exact hc
  obtain ⟨wa, wc, hvw⟩ := own_shape h.ways
  rw [wy] at hvw
  subst hvw
  have hmo := h.tb.most
  have t2 : w.cell? ⟨fb, 2, none⟩ = some (.slice wa M.length wc) := cell_at h.box rfl
  have HF : Hid (FN base w fb b mb K A.ac.length vl (.slice wa M.length wc) vr M W N D) := h
  have hfbl : fb < w.heap.size := (Array.getElem?_eq_some_iff.1 h.box).1
  obtain ⟨i0, hi, hz0, hz1, hz2⟩ := info_parts Try.info_bool
  obtain ⟨w0, hw0⟩ : ∃ w0, w0 = w.alloc (.cells #[.int .i64 A.k, .slice an A.nx.length cn, .slice (some ⟨ga, oa, none⟩) A.ac.length ca] 25) := ⟨_, rfl⟩
  have HB0 : Hid (Below w.heap.size w w0) := by show Below _ _ _; rw [hw0]; exact below_new _ _
  have HR0 : Hid (RowAt w0 w.heap.size #[.int .i64 A.k, .slice an A.nx.length cn, .slice (some ⟨ga, oa, none⟩) A.ac.length ca]) := by show RowAt _ _ _; rw [hw0]; exact RowAt.last _ _ _
  have HW0 : Hid (w0 = w.alloc (.cells #[.int .i64 A.k, .slice an A.nx.length cn, .slice (some ⟨ga, oa, none⟩) A.ac.length ca] 25)) := hw0
  have hs0 : w0.heap.size = w.heap.size + 1 := by rw [hw0]; simp
  have t2a : (w.alloc (.cells #[.int .i64 A.k, .slice an A.nx.length cn, .slice (some ⟨ga, oa, none⟩) A.ac.length ca] 25)).cell? ⟨fb, 2, none⟩ = some (.slice wa M.length wc) := (World.cell?_of_block (heap_allo hfbl _)).trans t2
  clear h ha h1 h2 hw0 hga
  go_enter Try.func43, Try.ntmps43
  go_wp2_with (at_make; rw [← HW0.out]; refine wpList_make_full _ rfl _ _ 23 rfl w.heap.size 4 i0 (.bool false) 1 Try.underlying23 hi hz0 hz1 .i64 .i64 (M.length : Int) (M.length : Int) M.length rfl rfl rfl rfl (by rw [hz2]; omega) (by unfold maxLen; omega) (by omega) ?_; intro w1 hown hgr)
  rw [hs0] at hown
  have HP1 : Hid (BP w1 (w.heap.size + 1) A M 0) := own_bp (n := 0) hown
  have HB1 : Hid (Below w.heap.size w w1) := HB0.out.grown hgr (by omega) (fun b hb => by cases hb)
  have HR1 : Hid (RowAt w1 w.heap.size #[.int .i64 A.k, .slice an A.nx.length cn, .slice (some ⟨ga, oa, none⟩) A.ac.length ca]) := rowAt_keep HR0.out (by have := (Only.grown (S := fun _ => True) hgr (fun _ _ => trivial)).size; omega) (hgr.block _ (by omega) (by simp))
  obtain ⟨g, hg⟩ : ∃ g, w.heap.size + 1 = g := ⟨_, rfl⟩
  rw [hg] at HP1
  rw [hg]
  have hgw : w.heap.size < g := by omega
  clear hown hgr t2 t2a hg hs0 HW0 HB0 HR0
  go_loopw [19, 6, 7, 8, 9, 10] (fun vi _ _ _ _ _ wr => ∃ i : Nat, vi = .int .i64 i ∧ i ≤ M.length ∧ BP wr g A M i ∧ Below w.heap.size w wr ∧ RowAt wr w.heap.size #[.int .i64 A.k, .slice an A.nx.length cn, .slice (some ⟨ga, oa, none⟩) A.ac.length ca]) (fun vi _ _ _ _ _ _ => M.length - (intOf vi).toNat)
  case atStart => exact ⟨0, rfl, Nat.zero_le _, HP1.out, HB1.out, HR1.out⟩
  case round =>
    clear HP1 HB1 HR1
    obtain ⟨i, rfl, hin, hP, hB, hR⟩ := hrel
    have HP : Hid (BP wr g A M i) := hP
    have HB : Hid (Below w.heap.size w wr) := hB
    have HR : Hid (RowAt wr w.heap.size #[.int .i64 A.k, .slice an A.nx.length cn, .slice (some ⟨ga, oa, none⟩) A.ac.length ca]) := hR
    have hb1 : wr.cell? ⟨fb, 1, none⟩ = some (.pointer (some ⟨b, 0, none⟩)) := by rw [below_cellJ hB hfbl]; exact cell_at HF.out.box rfl
    clear hP hB hR
    by_cases hlt : i < M.length
    · have hiI : (i : Int) < M.length := by omega
      obtain ⟨l, hl⟩ : ∃ l, M[i]? = some l := ⟨_, List.getElem?_eq_getElem hlt⟩
      have HTL : Hid (Tf l ∧ l.length = A.ac.length) := HF.out.tb.all l (List.mem_of_getElem? hl)
      have HAC : Hid (acc A M i = aN A (im l 0)) := by show _ = _; unfold acc; rw [getD_of hl]
      have hT := HF.out.tb.below HB.out
      go_wp2_with fail
      refine (ttat_any hT hl).mono ?_
      rintro e y1 ⟨rfl, hB1⟩
      have HB1 : Hid (Below wr.heap.size wr (y1.alloc (.cells (tC l) 42))) := go_on hB1 (below_new _ _)
      have HT1 : Hid (TL (y1.alloc (.cells (tC l) 42)) y1.heap.size l) := heap_last _ _
      have hst := st_trNew y1 l
      clear hT hB1 hb1
      go_wp2_with (refine wl_load rfl rfl HT1.out rfl ?_)
      obtain ⟨y2, hy2⟩ : ∃ y2, y2 = y1.alloc (.cells (tC l) 42) := ⟨_, rfl⟩
      rw [← hy2]
      rw [← hy2] at HB1
      clear hst HT1 hy2
      have hat := tat_ok l HTL.out.1 0 y2
      have him : im l 0 < A.ac.length := by have := HTL.out.1.lt 0 (by rw [HTL.out.2]; omega); rw [HTL.out.2] at this; exact this
      have e0 : atV l 0 = .tuple #[.int .i64 ((im l 0 : Nat) : Int), .int .i64 0] := by
        unfold atV
        rw [if_pos ⟨by omega, by rw [HTL.out.2]; omega⟩]
        rfl
      rw [e0] at hat
      refine hat.mono ?_
      rintro e y3 ⟨rfl, hB3⟩
      have HB3 : Hid (Below wr.heap.size wr y3) := go_on HB1.out hB3
      obtain ⟨t, ht⟩ : ∃ t, im l 0 = t := ⟨_, rfl⟩
      rw [ht] at him HAC
      rw [ht]
      have HBW : Hid (Below w.heap.size w y3) := go_on HB.out HB3.out
      have hbx := (HR.out.stay HB3.out).cell
      have hca := HA.out y3 t HBW.out him
      have htI : (t : Int) < A.ac.length := by omega
      have HP3 : Hid (BP y3 g A M i) := HP.out.keep (HB3.out.block _ HP.out.lt)
      obtain ⟨hc3, hf3⟩ := HP3.out.here hlt
      obtain ⟨q, hq⟩ : ∃ q, aN A t = q := ⟨_, rfl⟩
      rw [hq] at hca HAC
      have HPN : Hid (BP (y3.setCell ⟨g, i, none⟩ (.bool q)) g A M (i + 1)) := by
        have := HP3.out.put hlt
        rw [HAC.out] at this
        exact this
      have HRN : Hid (RowAt (y3.setCell ⟨g, i, none⟩ (.bool q)) w.heap.size #[.int .i64 A.k, .slice an A.nx.length cn, .slice (some ⟨ga, oa, none⟩) A.ac.length ca]) := rowAt_keep (HR.out.stay HB3.out) (by simp [World.setCell]) (heap_set_other (by omega))
      have HBN : Hid (Below w.heap.size w (y3.setCell ⟨g, i, none⟩ (.bool q))) := HBW.out.setCell (p := ⟨g, i, none⟩) (by show w.heap.size ≤ g; omega) _
      clear hat e0 hB3 HB1 ht hq
      go_wp2_with fail
      go_roundw
      case rel => exact ⟨i + 1, by go_num, by omega, HPN.out, HBN.out, HRN.out⟩
      case measure => simp [intOf]; omega
    · have hiI : ¬ (i : Int) < M.length := by omega
      obtain rfl : i = M.length := by omega
      go_wp2_with fail
      go_ret
      exact ⟨g, rfl, HB.out, by omega, HP.out⟩
end Go.Proofs.Ytabkhoiccjkghaa
