/- Mm Mo Lp, in one text. -/
import Derived.Test.YthmnoepjkobcmabW4
import Derived.Test.YthmnoepjkobcmabW3
import Derived.Test.YthmnoepjkobcmabW1
namespace Go.Proofs.Ythmnoepjkobcmab
open Go Go.RowKit Go.Lib
set_option linter.unusedVariables false

def filZ (f : Nat → Int) (n i : Nat) : List Int := (List.range n).map fun s => if s < i then f s else 0
theorem filZ_len (f : Nat → Int) (n i : Nat) : (filZ f n i).length = n := by simp [filZ]
theorem filZ_zero (f : Nat → Int) (n : Nat) : zC (filZ f n 0) = nC (filN id n 0) := by
  unfold zC nC filZ filN
  rw [List.map_map, List.map_map]
  refine List.map_congr_left fun s _ => ?_
  simp
theorem filZ_end (f : Nat → Int) (n : Nat) : filZ f n n = (List.range n).map f := by
  unfold filZ
  refine List.map_congr_left fun s hs => ?_
  rw [if_pos (List.mem_range.1 hs)]
theorem filZ_set (f : Nat → Int) {n i : Nat} (h : i < n) : (zC (filZ f n i)).set i (.int .i64 (f i)) = zC (filZ f n (i + 1)) := by
  apply List.ext_getElem?
  intro j
  rw [List.getElem?_set]
  by_cases e : i = j
  · subst e
    rw [if_pos rfl, if_pos (by rw [zC_len, filZ_len]; exact h)]
    simp [zC, filZ, h]
  · rw [if_neg e]
    by_cases hj : j < n
    · simp only [zC, filZ, List.getElem?_map, List.getElem?_range hj, Option.map_some]
      congr 2
      by_cases q : j < i
      · rw [if_pos q, if_pos (by omega)]
      · rw [if_neg q, if_neg (by omega)]
    · rw [List.getElem?_eq_none (by rw [zC_len, filZ_len]; omega), List.getElem?_eq_none (by rw [zC_len, filZ_len]; omega)]
theorem filZ_cell (f : Nat → Int) {n i : Nat} (h : i < n) : (zC (filZ f n i))[i]? = some (.int .i64 0) := by simp [zC, filZ, h]
/-- What Minimal answers. -/
noncomputable def mnA (A : Aut) : Aut := if chkA A = 0 then ioA A (lvl A A.ac.length) else zAut
noncomputable def mnT (A : Aut) : List Int := if chkA A = 0 then (List.range A.ac.length).map fun s => nmI (ioM A (lvl A A.ac.length)) ((lvl A A.ac.length).getD s 0) else []
def MQ (B : Aut) (T : List Int) (E : Int) (w : World) (e : Ending) (w' : World) : Prop := ∃ v' vt, e = .returned (.tuple #[v', vt, .int .i64 E]) ∧ AO w.heap.size w' v' B ∧ w'.ownsRow w.heap.size 3 1 vt T.length (zC T) ∧ Below w.heap.size w w'
/-- The same, and the two lists of numbers lie in rows of their own. -/
def MnS (B : Aut) (T : List Int) (E : Int) (w : World) (e : Ending) (w' : World) : Prop := ∃ an cn aa ca vt, e = .returned (.tuple #[.agg #[.int .i64 B.k, .slice an B.nx.length cn, .slice aa B.ac.length ca], vt, .int .i64 E]) ∧ w'.ownsRow w.heap.size 3 1 (.slice an B.nx.length cn) B.nx.length (zC B.nx) ∧ w'.ownsRow w.heap.size 4 1 (.slice aa B.ac.length ca) B.ac.length (bC B.ac) ∧ w'.ownsRow w.heap.size 3 1 vt T.length (zC T) ∧ (∀ b, (Value.slice an B.nx.length cn).ownBlock = some b → vt.ownBlock ≠ some b) ∧ Below w.heap.size w w'
theorem results_cell_tmp2 {fn : Func} {p u q : Tmp} {ty : TypeId} (h : fn.results = #[.cell p ty, .tmp u, .tmp q]) (tmps : Array Value) (P : Program) (w : World) :
    (results fn tmps).run P w =
      ((asAddr (tmps.getD p undef)).run P w).andThen fun a w₁ => ((loadVar ty a).run P w₁).andThen fun v w₂ => .ok (.tuple #[v, tmps.getD u undef, tmps.getD q undef]) w₂ := by
  simp only [results, h]
  simp [Sem.run_bind, Result.andThen]
theorem results_auto3 {fn : Func} {p u q : Tmp} (h : fn.results = #[.cell p 25, .tmp u, .tmp q]) {tmps : Array Value} {b : Nat} {arr : Array Value} {w : World} (hp : tmps.getD p undef = .pointer (some ⟨b, 0, none⟩)) (hc : w.heap[b]? = some (.cells arr 25 (0, 0))) (hs : arr.size = 3) :
    (results fn tmps).run Try.prog w = .ok (.tuple #[.agg arr, tmps.getD u undef, tmps.getD q undef]) w := by
  have := run_loadVar_row w b 25 25 arr (0, 0) _ hc Try.underlying25 rfl (by rw [Try.info_auto, hs])
  rw [results_cell_tmp2 h]
  simp [hp, asAddr, this, Result.andThen]

set_option maxHeartbeats 4000000 in
set_option maxRecDepth 100000 in
theorem minimal_sep (v : Value) (A : Aut) (w : World) (h : AR w v A) (hm : A.nx.length ≤ 9223372036854775806) (hm2 : A.ac.length ≤ 9223372036854775806) :
    Calls Try.prog 15 #[v] w (MnS (mnA A) (mnT A) (chkA A) w) := by
  obtain ⟨an, cn, aa, ca, e, k1, k2⟩ := h.is
  have HAR : Hid (∀ y, Below w.heap.size w y → AR y v A) := fun y hy => h.stay hy
  obtain ⟨i0, hi, hz0, hz1, hz2⟩ := info_parts Try.info_int
  subst e
  clear h k1 k2
  obtain ⟨W, hW⟩ : ∃ W, W = (w.alloc (.cells #[.int .i64 A.k, .slice an A.nx.length cn, .slice aa A.ac.length ca] 25)).alloc (.cells #[.int .i64 0, .slice none 0 0, .slice none 0 0] 25) := ⟨_, rfl⟩
  have HRW : Hid (RowAt W w.heap.size #[.int .i64 A.k, .slice an A.nx.length cn, .slice aa A.ac.length ca]) := by show RowAt _ _ _; rw [hW]; exact (RowAt.last _ _ _).alloc _
  have HBW : Hid (Below w.heap.size w W) := by show Below _ _ _; rw [hW]; exact go_on (below_new _ _) (below_new _ _)
  have HRES : Hid (W.heap[w.heap.size + 1]? = some (.cells #[.int .i64 0, .slice none 0 0, .slice none 0 0] 25 (0, 0))) := by
    show W.heap[w.heap.size + 1]? = _
    rw [hW]
    have := heap_alloc_last (w.alloc (.cells #[.int .i64 A.k, .slice an A.nx.length cn, .slice aa A.ac.length ca] 25)) (.cells #[.int .i64 0, .slice none 0 0, .slice none 0 0] 25)
    rw [World.size_alloc] at this
    exact this
  have HWE : Hid (W = (w.alloc (.cells #[.int .i64 A.k, .slice an A.nx.length cn, .slice aa A.ac.length ca] 25)).alloc (.cells #[.int .i64 0, .slice none 0 0, .slice none 0 0] 25)) := hW
  clear hW
  go_enter Try.func15, Try.ntmps15
  go_wp2_with fail
  rw [← HWE.out]
  refine (classes_any _ A _ (HAR.out _ HBW.out) hm hm2).mono ?_
  rintro e w1 ⟨vs, rfl, ho1, hb1⟩
  have HB1 : Hid (Below w.heap.size w w1) := go_on HBW.out hb1
  have hres1 := (hb1.block _ (Array.getElem?_eq_some_iff.1 HRES.out).1).trans HRES.out
  have HR1 : Hid (w1.heap[w.heap.size + 1]? = some (.cells #[.int .i64 0, .slice none 0 0, .slice none 0 0] 25 (0, 0))) := hres1
  have cs := (HRW.out.stay hb1).cell
  rcases chkA_cases A with ⟨G, hc⟩ | ⟨G, hc⟩
  · have HG : Hid (Good A) := G
    have hn1 := G.n1
    have hn2 := G.n2
    have hcl : clL A = lvl A A.ac.length := by unfold clL; rw [if_pos hc]
    rw [hcl, lvl_len] at ho1
    obtain ⟨g1, c1, rfl⟩ : ∃ g1 c1, vs = .slice (some ⟨g1, 0, none⟩) A.ac.length c1 := by
      rcases ho1.2 with ⟨_, h0⟩ | ⟨g, cap, cur, hv, _⟩
      · omega
      · exact ⟨g, cap, hv⟩
    have HLS : Hid (SR w1 (some ⟨g1, 0, none⟩) (nC (lvl A A.ac.length))) := own_sr ho1
    have HC : Hid (chkA A = 0) := hc
    rw [hc]
    clear ho1 hb1 hc hcl G hres1
    go_wp2_with fail
    refine (inOrder_any _ A _ (HAR.out _ HB1.out) HG.out _ _ (lvl A A.ac.length) HLS.out (lvl_len A _) (fun s hs => lvl_lt _ hs)).mono ?_
    rintro e w2 ⟨v2, g2, rfl, hao, hnm, hb2⟩
    have hB4 : (ioA A (lvl A A.ac.length)) = mnA A := by unfold mnA; rw [if_pos HC.out]
    obtain ⟨M, hM⟩ : ∃ M, ioM A (lvl A A.ac.length) = M := ⟨_, rfl⟩
    have HT : Hid (mnT A = (List.range A.ac.length).map fun s => nmI M ((lvl A A.ac.length).getD s 0)) := by show _ = _; unfold mnT; rw [if_pos HC.out, hM]
    rw [hB4] at hao
    rw [hM] at hnm
    obtain ⟨B, hB⟩ : ∃ B, mnA A = B := ⟨_, rfl⟩
    rw [hB] at hao
    have HBE : Hid (mnA A = B) := hB
    obtain ⟨rn, rcn, ra, rca, rfl, o1, o2⟩ := hao
    have HSP : Hid (∀ b, (Value.slice rn B.nx.length rcn).ownBlock = some b → b < w2.heap.size) := fun b hb => (o1.lt b hb).2
    obtain ⟨Y, hY⟩ : ∃ Y, Y = w2.alloc (.cells #[.int .i64 B.k, .slice rn B.nx.length rcn, .slice ra B.ac.length rca] 25) := ⟨_, rfl⟩
    have hYs : Y.heap.size = w2.heap.size + 1 := by rw [hY]; simp
    have b2Y : Below w2.heap.size w2 Y := by rw [hY]; exact below_new _ _
    have HYE : Hid (Y = w2.alloc (.cells #[.int .i64 B.k, .slice rn B.nx.length rcn, .slice ra B.ac.length rca] 25)) := hY
    have HRY : Hid (RowAt Y w2.heap.size #[.int .i64 B.k, .slice rn B.nx.length rcn, .slice ra B.ac.length rca]) := by show RowAt _ _ _; rw [hY]; exact RowAt.last _ _ _
    have HBY : Hid (Below w.heap.size w Y) := go_on (go_on HB1.out hb2) b2Y
    have HAO : Hid (AO w.heap.size Y (.agg #[.int .i64 B.k, .slice rn B.nx.length rcn, .slice ra B.ac.length rca]) B) := ⟨rn, rcn, ra, rca, rfl, own_mono (own_below o1 b2Y) HB1.out.size, own_mono (own_below o2 b2Y) HB1.out.size⟩
    have HLY : Hid (SR Y (some ⟨g1, 0, none⟩) (nC (lvl A A.ac.length))) := (HLS.out.stay hb2).stay b2Y
    have HNY : Hid (Y.ownsRow w.heap.size 3 1 (.slice (some ⟨g2, 0, none⟩) A.ac.length A.ac.length) A.ac.length (nmC M A.ac.length)) := own_mono (own_below hnm b2Y) HB1.out.size
    have HRS : Hid (Y.heap[w.heap.size + 1]? = some (.cells #[.int .i64 0, .slice none 0 0, .slice none 0 0] 25 (0, 0))) := by
      have q := go_on hb2 b2Y
      exact (q.block _ (Array.getElem?_eq_some_iff.1 HR1.out).1).trans HR1.out
    have hmk := fun w0 => run_make (P := Try.prog) w0 22 3 i0 (.int .i64 0) Try.underlying22 hi hz0 .i64 .i64 (A.ac.length : Int) (A.ac.length : Int) (by omega) (by omega) (by rw [hz2]; omega) (by omega)
    rw [hz1] at hmk
    simp only [Nat.mul_one] at hmk
    obtain ⟨F, hF⟩ : ∃ F : Nat → Int, ∀ s, F s = nmI M ((lvl A A.ac.length).getD s 0) := ⟨_, fun _ => rfl⟩
    have HO0 : Hid ((Y.alloc (.cells (madeCells #[.int .i64 0] A.ac.length) 3)).ownsRow w.heap.size 3 1 (.slice (some ⟨w2.heap.size + 1, 0, none⟩) A.ac.length A.ac.length) A.ac.length (zC (filZ F A.ac.length 0)) ∧ Below Y.heap.size Y (Y.alloc (.cells (madeCells #[.int .i64 0] A.ac.length) 3))) := by
      refine ⟨?_, below_new _ _⟩
      rw [filZ_zero, ← hYs]
      exact made_row Y id (by omega) HBY.out.size
    have HF : Hid (∀ s, F s = nmI M ((lvl A A.ac.length).getD s 0)) := hF
    have HYS : Hid (Y.heap.size = w2.heap.size + 1) := hYs
    clear hB hB4 hM o1 o2 hY hb2 hnm b2Y hYs hF cs
    have HYX : Hid ((w2.alloc (.cells #[.int .i64 B.k, .slice rn B.nx.length rcn, .slice ra B.ac.length rca] 25)).alloc (.cells (madeCells #[.int .i64 0] A.ac.length) 3) = Y.alloc (.cells (madeCells #[.int .i64 0] A.ac.length) 3)) := by show _ = _; rw [HYE.out]
    go_wp2_with fail
    rw [HYX.out]
    clear hmk
    go_loopw [32] (fun vi wr => ∃ i : Nat, vi = .int .i64 i ∧ i ≤ A.ac.length ∧ wr.ownsRow w.heap.size 3 1 (.slice (some ⟨w2.heap.size + 1, 0, none⟩) A.ac.length A.ac.length) A.ac.length (zC (filZ F A.ac.length i)) ∧ Below Y.heap.size Y wr) (fun vi _ => A.ac.length - (intOf vi).toNat)
    case atStart => exact ⟨0, rfl, Nat.zero_le _, HO0.out⟩
    case round =>
      clear HO0
      obtain ⟨i, rfl, hin, hO, hBB⟩ := hrel
      by_cases hlt : i < A.ac.length
      · have hiI : (i : Int) < A.ac.length := by omega
        have hc1 := (HLY.out.stay hBB).nat (i := i) (by rw [lvl_len]; exact hlt)
        obtain ⟨g', o', e', hg', hc1⟩ := hc1
        simp only [Option.some.injEq, Addr.mk.injEq] at e'
        obtain ⟨rfl, rfl, _⟩ := e'
        have hx := lvl_lt (A := A) A.ac.length (s := i) (by rw [lvl_len]; exact hlt)
        rw [lvl_len] at hx
        have hFi := HF.out i
        obtain ⟨x, hxe⟩ : ∃ x, (lvl A A.ac.length).getD i 0 = x := ⟨_, rfl⟩
        rw [hxe] at hc1 hx hFi
        rw [Nat.zero_add] at hc1
        have hxI : (x : Int) < A.ac.length := by omega
        have hc2 : wr.cell? ⟨g2, x, none⟩ = some (.int .i64 (F i)) := by
          rw [hFi]
          exact ((own_below HNY.out hBB).cellAt x (by omega)).trans (nmC_at hx)
        have hfz : wr.frozen? ⟨w2.heap.size + 1, i, none⟩ = false := hO.frozenAt i
        have hcl : wr.cell? ⟨w2.heap.size + 1, i, none⟩ = some (.int .i64 0) := (hO.cellAt i (by omega)).trans (filZ_cell F hlt)
        have hst := (hO.stored i (.int .i64 (F i))).1
        rw [filZ_set F hlt] at hst
        obtain ⟨y, hy⟩ : ∃ y, F i = y := ⟨_, rfl⟩
        rw [hy] at hc2 hst
        have HN : Hid ((wr.setCell ⟨w2.heap.size + 1, i, none⟩ (.int .i64 y)).ownsRow w.heap.size 3 1 (.slice (some ⟨w2.heap.size + 1, 0, none⟩) A.ac.length A.ac.length) A.ac.length (zC (filZ F A.ac.length (i + 1)))) := hst
        have HN2 : Hid (Below Y.heap.size Y (wr.setCell ⟨w2.heap.size + 1, i, none⟩ (.int .i64 y))) := hBB.setCell (p := ⟨w2.heap.size + 1, i, none⟩) (by show Y.heap.size ≤ _; rw [HYS.out]; exact Nat.le_refl _) _
        clear hst hO hBB hFi hxe hy hg'
        go_wp2_with fail
        go_roundw
        case rel => exact ⟨i + 1, by go_num, by omega, HN.out, HN2.out⟩
        case measure => simp [intOf]; omega
      · have hiI : ¬ (i : Int) < A.ac.length := by omega
        have e : i = A.ac.length := by omega
        rw [e, filZ_end] at hO
        have hT : (List.range A.ac.length).map F = mnT A := by rw [HT.out]; exact List.map_congr_left fun s _ => HF.out s
        rw [hT] at hO
        have hTl : (mnT A).length = A.ac.length := by rw [HT.out]; simp
        have hres3 := (hBB.block _ (Array.getElem?_eq_some_iff.1 HRS.out).1).trans HRS.out
        obtain ⟨f1, f2, f3⟩ := res_done (B := B) (base := w.heap.size) (w0 := w) (x0 := .int .i64 B.k) (x1 := .slice rn B.nx.length rcn) (x2 := .slice ra B.ac.length rca) hres3 (HAO.out.below hBB) (go_on HBY.out hBB) (by omega)
        have cs := (HRY.out.stay hBB).cell
        have hr0 : wr.cell? ⟨w.heap.size + 1, 0, none⟩ = some (.int .i64 0) := cell_of hres3
        have hr1 : wr.cell? ⟨w.heap.size + 1, 1, none⟩ = some (.slice none 0 0) := cell_of hres3
        have hr2 : wr.cell? ⟨w.heap.size + 1, 2, none⟩ = some (.slice none 0 0) := cell_of hres3
        have hf : ∀ j, wr.frozen? ⟨w.heap.size + 1, j, none⟩ = false := fun j => froz_of hres3
        have hlw : w.heap.size + 1 < Y.heap.size := (Array.getElem?_eq_some_iff.1 HRS.out).1
        have FT : Hid ((((wr.setCell ⟨w.heap.size + 1, 0, none⟩ (.int .i64 B.k)).setCell ⟨w.heap.size + 1, 1, none⟩ (.slice rn B.nx.length rcn)).setCell ⟨w.heap.size + 1, 2, none⟩ (.slice ra B.ac.length rca)).ownsRow w.heap.size 3 1 (.slice (some ⟨w2.heap.size + 1, 0, none⟩) A.ac.length A.ac.length) (mnT A).length (zC (mnT A))) := by
          rw [hTl]
          have hne : w2.heap.size + 1 ≠ w.heap.size + 1 := by rw [HYS.out] at hlw; omega
          refine own_keep hO (fun b cur hb _ => ?_)
          simp only [Value.ownBlock, Option.some.injEq] at hb
          rw [← hb, heap_set_other hne, heap_set_other hne, heap_set_other hne]
        have F1 : Hid _ := f1
        have F2 : Hid _ := f2
        have F3 : Hid _ := f3
        clear f1 f2 f3 hres3 hO hBB hT hTl e hlw
        go_wp2_with fail
        refine bodyPost_ret (results_auto3 rfl rfl F1.out rfl) rfl ?_
        rw [HBE.out]
        obtain ⟨_, _, _, _, q0, q1, q2⟩ := F2.out
        simp only [Value.agg.injEq, Array.mk.injEq, List.cons.injEq, Value.slice.injEq, and_true, true_and] at q0
        obtain ⟨⟨rfl, rfl⟩, rfl, rfl⟩ := q0
        refine ⟨rn, rcn, ra, rca, _, ?_, q1, q2, FT.out, ?_, F3.out⟩
        · rw [HC.out]; rfl
        · intro b hb hb'
          have := HSP.out b hb
          simp only [Value.ownBlock, Option.some.injEq] at hb'
          omega
  · have HE : Hid (mnA A = zAut ∧ mnT A = []) := by show _ ∧ _; unfold mnA mnT; rw [if_neg (by rw [hc]; decide), if_neg (by rw [hc]; decide)]; exact ⟨rfl, rfl⟩
    have hcl : clL A = [] := by unfold clL; rw [if_neg (by rw [hc]; decide)]
    rw [hc]
    have HC : Hid (chkA A = 80) := hc
    obtain ⟨av, cv, rfl⟩ := own_shape ho1
    rw [hcl]
    have hr0 : w1.cell? ⟨w.heap.size + 1, 0, none⟩ = some (.int .i64 0) := cell_of hres1
    have hr1 : w1.cell? ⟨w.heap.size + 1, 1, none⟩ = some (.slice none 0 0) := cell_of hres1
    have hr2 : w1.cell? ⟨w.heap.size + 1, 2, none⟩ = some (.slice none 0 0) := cell_of hres1
    have hf : ∀ j, w1.frozen? ⟨w.heap.size + 1, j, none⟩ = false := fun j => froz_of hres1
    obtain ⟨f1, f2, f3⟩ := res_done (B := zAut) (base := w.heap.size) (w0 := w) hres1 (AO.zero _ _) HB1.out (by omega)
    have F1 : Hid _ := f1
    have F2 : Hid _ := f2
    have F3 : Hid _ := f3
    clear hres1 f1 f2 f3 ho1 hb1 hc hcl
    go_wp2_with fail
    refine bodyPost_ret (results_auto3 rfl rfl F1.out rfl) rfl ?_
    rw [HE.out.1, HE.out.2]
    exact ⟨none, 0, none, 0, .slice none 0 0, by rw [HC.out]; rfl, World.ownsRow_nil _ _ _ _, World.ownsRow_nil _ _ _ _, World.ownsRow_nil _ _ _ _, fun b hb => by simp [Value.ownBlock] at hb, F3.out⟩
theorem minimal_any (v : Value) (A : Aut) (w : World) (h : AR w v A) (hm : A.nx.length ≤ 9223372036854775806) (hm2 : A.ac.length ≤ 9223372036854775806) :
    Calls Try.prog 15 #[v] w (MQ (mnA A) (mnT A) (chkA A) w) := by
  refine (minimal_sep v A w h hm hm2).mono ?_
  rintro e w' ⟨an, cn, aa, ca, vt, rfl, h1, h2, h3, _, h5⟩
  exact ⟨_, vt, rfl, ⟨an, cn, aa, ca, rfl, h1, h2⟩, h3, h5⟩
end Go.Proofs.Ythmnoepjkobcmab

namespace Go.Proofs.Ythmnoepjkobcmab
set_option linter.unusedVariables false
attribute [-instance] instBEqProd

theorem getD_ext {l m : List Nat} (h : l.length = m.length) (h2 : ∀ i, i < l.length → l.getD i 0 = m.getD i 0) : l = m := list_eq_of h h2
theorem lvl_one (A : Aut) (h : reps A.ac.length (lvl A 0) < 2) : lvl A 1 = lvl A 0 := by
  have c0 := lvl_cls A 0
  have c1 := lvl_cls A 1
  have hz : ∀ s, s < A.ac.length → (lvl A 0).getD s 0 = 0 := by
    intro s hs
    apply Classical.byContradiction
    intro q
    have hr := c0.le s hs
    have h0 : (lvl A 0).getD 0 0 = 0 := by have := c0.le 0 (by omega); omega
    have hm : ((List.range A.ac.length).filter fun x => decide (x = 0)).length < reps A.ac.length (lvl A 0) := by
      unfold reps
      refine filter_strict (p := fun x => decide (x = 0)) (q := fun x => decide ((lvl A 0).getD x 0 = x)) (fun x hx => ?_) _ ((lvl A 0).getD s 0) (List.mem_range.2 (by omega)) (decide_eq_false q) (decide_eq_true (c0.idem s hs))
      have := of_decide_eq_true hx
      subst this
      exact decide_eq_true h0
    have hp : 0 < ((List.range A.ac.length).filter fun x => decide (x = 0)).length := List.length_pos_of_mem (List.mem_filter.2 ⟨List.mem_range.2 (show 0 < A.ac.length by omega), rfl⟩)
    omega
  refine getD_ext (by rw [lvl_len, lvl_len]) fun i hi => ?_
  rw [lvl_len] at hi
  rw [hz i hi]
  have hsame : sg A (lvl A 0) i = sg A (lvl A 0) 0 := by
    have all : ∀ x, (lvl A 0).getD x 0 = 0 := fun x => by
      by_cases hx : x < A.ac.length
      · exact hz x hx
      · rw [List.getD_eq_getElem?_getD, List.getElem?_eq_none (by rw [lvl_len]; omega)]; rfl
    unfold sg
    refine Prod.ext (by rw [all, all]) (List.map_congr_left fun c _ => by rw [all, all])
  have := (lst_eq (sg A (lvl A 0)) hi (show 0 < A.ac.length by omega)).2 hsame
  have h1 : (lvl A 1).getD i 0 = (lvl A 1).getD 0 0 := this
  rw [h1]
  have := c1.le 0 (by omega)
  omega
theorem lvl_last (A : Aut) {N : Nat} (h : A.ac.length ≤ N + 2) {m : Nat} (hm : N ≤ m) : lvl A m = lvl A N := by
  by_cases q : reps A.ac.length (lvl A 0) < 2
  · have e := lvl_one A q
    rw [lvl_stable' A e (Nat.zero_le m), lvl_stable' A e (Nat.zero_le N)]
  · exact lvl_stable' A (lvl_fix A (by omega)) hm
/-- What each level tells of the next. -/
theorem lvl_step (A : Aut) (n : Nat) {s : Nat} (hs : s < A.ac.length) : (lvl A n).getD s 0 ≤ s ∧ (lvl A (n + 1)).getD s 0 ≤ s ∧ (lvl A n).getD s 0 ≤ (lvl A (n + 1)).getD s 0 ∧ (lvl A n).getD ((lvl A (n + 1)).getD s 0) 0 = (lvl A n).getD s 0 := by
  have c1 := lvl_cls A n
  have c2 := lvl_cls A (n + 1)
  have h2 := c2.le s hs
  have hf := lvl_finer A n (s := (lvl A (n + 1)).getD s 0) (t := s) (by omega) hs (c2.idem s hs)
  have h3 := c1.le ((lvl A (n + 1)).getD s 0) (by omega)
  exact ⟨c1.le s hs, h2, by rw [← hf]; exact h3, hf⟩
/-- The examples' automaton: words of odd length. -/
def odA : Aut := ⟨1, [1, 2, 3, 2], [false, true, false, true]⟩
theorem od_lvl : lvl odA 4 = [0, 1, 0, 1] := by decide +kernel
theorem od_bfs : bfs (fun s c => ([0, 1, 0, 1] : List Nat).getD (dN odA s c) 0) 1 0 = some ([0, 1], [1, 0]) := by decide +kernel
end Go.Proofs.Ythmnoepjkobcmab

namespace Go.Proofs.Ythmnoepjkobcmab
set_option linter.unusedVariables false

theorem least_nat (p : Nat → Prop) : ∀ n, p n → ∃ m, p m ∧ ∀ q, p q → m ≤ q := by
  intro n
  induction n using Nat.strongRecOn with
  | ind n ih =>
    intro h
    by_cases q : ∃ m, m < n ∧ p m
    · obtain ⟨m, h1, h2⟩ := q
      exact ih m h1 h2
    · exact ⟨n, h, fun m hm => by
        by_cases z : n ≤ m
        · exact z
        · exact absurd ⟨m, by omega, hm⟩ q⟩
theorem lex_min : ∀ (L : Nat) (p : List Nat → Prop), (∃ v, v.length = L ∧ p v) → ∃ w, w.length = L ∧ p w ∧ ∀ v, v.length = L → p v → lxl w v := by
  intro L
  induction L with
  | zero =>
    rintro p ⟨v, hv, h⟩
    exact ⟨v, hv, h, fun v' hv' _ => by
      rw [List.length_eq_zero_iff.1 hv, List.length_eq_zero_iff.1 hv']
      exact lxl_refl _⟩
  | succ L ih =>
    rintro p ⟨v, hv, h⟩
    obtain ⟨a, v0, rfl⟩ : ∃ a v0, v = a :: v0 := by
      cases v with
      | nil => simp at hv
      | cons a v0 => exact ⟨a, v0, rfl⟩
    obtain ⟨c, ⟨v1, h1, h2⟩, hm⟩ := least_nat (fun c => ∃ v', v'.length = L ∧ p (c :: v')) a ⟨v0, by simpa using hv, h⟩
    obtain ⟨w, w1, w2, w3⟩ := ih (fun v' => p (c :: v')) ⟨v1, h1, h2⟩
    refine ⟨c :: w, by simp [w1], w2, fun v' hv' hp => ?_⟩
    cases v' with
    | nil => simp at hv'
    | cons b v' =>
      have hb := hm b ⟨v', by simpa using hv', hp⟩
      by_cases e : c = b
      · subst e
        exact .inr ⟨rfl, w3 v' (by simpa using hv') hp⟩
      · exact .inl (by omega)
theorem sle_min (p : List Nat → Prop) {v : List Nat} (h : p v) : ∃ w, p w ∧ ∀ u, p u → sle w u := by
  obtain ⟨L, ⟨v1, h1, h2⟩, hm⟩ := least_nat (fun L => ∃ v', v'.length = L ∧ p v') v.length ⟨v, rfl, h⟩
  obtain ⟨w, w1, w2, w3⟩ := lex_min L p ⟨v1, h1, h2⟩
  refine ⟨w, w2, fun u hu => ?_⟩
  have := hm u.length ⟨u, rfl, hu⟩
  by_cases e : L = u.length
  · exact .inr ⟨by omega, w3 u e.symm hu⟩
  · exact .inl (by omega)
theorem lsh_ex {S : Type} {d : S → Nat → S} {k : Nat} {sh : S → Bool} {x : S} (v : List Nat) (hv : ∀ a ∈ v, a < k) (h : sh (wrun d x v) = true) : ∃ w, Lsh d k sh x w := by
  obtain ⟨w, ⟨w1, w2⟩, w3⟩ := sle_min (fun v => (∀ a ∈ v, a < k) ∧ sh (wrun d x v) = true) ⟨hv, h⟩
  exact ⟨w, w1, w2, fun u hu hs => w3 u ⟨hu, hs⟩⟩
theorem lsh_is {S : Type} {d : S → Nat → S} {k : Nat} {sh : S → Bool} {x : S} {w : List Nat} (h : lsh d k sh x = some w) : Lsh d k sh x w := by
  unfold lsh at h
  split at h
  · rename_i q
    rw [Option.some.injEq] at h
    rw [← h]
    exact q.choose_spec
  · cases h
theorem lsh_no {S : Type} {d : S → Nat → S} {k : Nat} {sh : S → Bool} {x : S} (h : lsh d k sh x = none) (v : List Nat) (hv : ∀ a ∈ v, a < k) : sh (wrun d x v) = false := by
  cases q : sh (wrun d x v) with
  | false => rfl
  | true =>
    obtain ⟨w, hw⟩ := lsh_ex v hv q
    rw [lsh_some hw] at h
    cases h
/-- Letters below k. -/
def Lk (k : Nat) (v : List Nat) : Prop := ∀ a ∈ v, a < k
theorem Lk.nil (k : Nat) : Lk k [] := fun a h => by simp at h
theorem Lk.cons {k c : Nat} {v : List Nat} (h : Lk k (c :: v)) : c < k ∧ Lk k v := ⟨h c (by simp), fun a ha => h a (by simp [ha])⟩
theorem Lk.mk {k c : Nat} {v : List Nat} (hc : c < k) (h : Lk k v) : Lk k (c :: v) := fun a ha => by
  rcases List.mem_cons.1 ha with q | q
  · rw [q]; exact hc
  · exact h a q
theorem Lk.app {k : Nat} {u v : List Nat} (h : Lk k u) (g : Lk k v) : Lk k (u ++ v) := fun a ha => by
  rcases List.mem_append.1 ha with q | q
  · exact h a q
  · exact g a q
theorem Lk.snoc {k c : Nat} {u : List Nat} (h : Lk k u) (hc : c < k) : Lk k (u ++ [c]) := h.app (Lk.mk hc (Lk.nil k))
theorem acW_nil (A : Aut) (s : Nat) : acW A s [] = aN A s := rfl
theorem acW_cons (A : Aut) (s c : Nat) (v : List Nat) : acW A s (c :: v) = acW A (dN A s c) v := rfl
theorem acW_app (A : Aut) (s : Nat) (u v : List Nat) : acW A s (u ++ v) = acW A (wrun (dN A) s u) v := by unfold acW; rw [wrun_app]
theorem wrun_lt {A : Aut} (G : Good A) {s : Nat} (hs : s < A.ac.length) {u : List Nat} (h : Lk A.k.toNat u) : wrun (dN A) s u < A.ac.length :=
  goN_lt G hs u (fun c hc => by have := h c hc; have := G.kn; omega)
theorem dN_lt {A : Aut} (G : Good A) {s c : Nat} (hs : s < A.ac.length) (hc : c < A.k.toNat) : dN A s c < A.ac.length := (G.at hs (by have := G.kn; omega)).2.2
/-- Classes by words of at most n letters. -/
theorem lvl_word {A : Aut} (G : Good A) : ∀ (n : Nat) {s t : Nat}, s < A.ac.length → t < A.ac.length → ((lvl A n).getD s 0 = (lvl A n).getD t 0 ↔ ∀ v, Lk A.k.toNat v → v.length ≤ n → acW A s v = acW A t v) := by
  intro n
  induction n with
  | zero =>
    intro s t hs ht
    show (lst (aN A) A.ac.length).getD s 0 = (lst (aN A) A.ac.length).getD t 0 ↔ _
    rw [lst_eq (aN A) hs ht]
    constructor
    · intro h v _ hv
      have : v = [] := List.length_eq_zero_iff.1 (by omega)
      rw [this]; exact h
    · intro h
      exact h [] (Lk.nil _) (by simp)
  | succ n ih =>
    intro s t hs ht
    show (lst (sg A (lvl A n)) A.ac.length).getD s 0 = (lst (sg A (lvl A n)) A.ac.length).getD t 0 ↔ _
    rw [lst_eq (sg A (lvl A n)) hs ht]
    unfold sg
    simp only [Prod.mk.injEq]
    constructor
    · rintro ⟨h1, h2⟩ v hv hl
      cases v with
      | nil => exact (ih hs ht).1 h1 [] (Lk.nil _) (by simp)
      | cons c v =>
        obtain ⟨hc, hv⟩ := hv.cons
        have h3 := List.map_inj_left.1 h2 c (List.mem_range.2 hc)
        rw [acW_cons, acW_cons]
        exact (ih (dN_lt G hs hc) (dN_lt G ht hc)).1 h3 v hv (by simp at hl; omega)
    · intro h
      refine ⟨(ih hs ht).2 (fun v hv hl => h v hv (by omega)), List.map_inj_left.2 (fun c hc => ?_)⟩
      have hc := List.mem_range.1 hc
      refine (ih (dN_lt G hs hc) (dN_lt G ht hc)).2 (fun v hv hl => ?_)
      have := h (c :: v) (Lk.mk hc hv) (by simp; omega)
      rw [acW_cons, acW_cons] at this
      exact this
/-- A state's class. -/
def cl (A : Aut) (s : Nat) : Nat := (lvl A A.ac.length).getD s 0
theorem cl_lt {A : Aut} {s : Nat} (hs : s < A.ac.length) : cl A s < A.ac.length := by
  have := lvl_lt (A := A) A.ac.length (s := s) (by rw [lvl_len]; exact hs)
  rw [lvl_len] at this
  exact this
theorem cl_word {A : Aut} (G : Good A) {s t : Nat} (hs : s < A.ac.length) (ht : t < A.ac.length) : cl A s = cl A t ↔ ∀ v, Lk A.k.toNat v → acW A s v = acW A t v := by
  constructor
  · intro h v hv
    have h1 : (lvl A (A.ac.length + v.length)).getD s 0 = (lvl A (A.ac.length + v.length)).getD t 0 := by
      rw [lvl_end A (by omega : A.ac.length ≤ A.ac.length + v.length)]
      exact h
    exact (lvl_word G _ hs ht).1 h1 v hv (by omega)
  · intro h
    exact (lvl_word G A.ac.length hs ht).2 (fun v hv _ => h v hv)
theorem cl_cl {A : Aut} {s : Nat} (hs : s < A.ac.length) : cl A (cl A s) = cl A s := (lvl_cls A A.ac.length).idem s hs
theorem cl_zero {A : Aut} (h : 0 < A.ac.length) : cl A 0 = 0 := by have := (lvl_cls A A.ac.length).le 0 h; exact Nat.le_zero.1 this
theorem cl_d {A : Aut} (G : Good A) {s t c : Nat} (hs : s < A.ac.length) (ht : t < A.ac.length) (hc : c < A.k.toNat) (h : cl A s = cl A t) : cl A (dN A s c) = cl A (dN A t c) :=
  (cl_word G (dN_lt G hs hc) (dN_lt G ht hc)).2 (fun v hv => by rw [← acW_cons, ← acW_cons]; exact (cl_word G hs ht).1 h (c :: v) (Lk.mk hc hv))
theorem dC_cl {A : Aut} (s c : Nat) : dC A (lvl A A.ac.length) s c = cl A (dN A s c) := rfl
/-- The classes' search goes with the words. -/
theorem cl_run {A : Aut} (G : Good A) : ∀ (u : List Nat) {s t : Nat}, s < A.ac.length → t < A.ac.length → cl A t = t → cl A s = t → Lk A.k.toNat u → wrun (dC A (lvl A A.ac.length)) t u = cl A (wrun (dN A) s u) := by
  intro u
  induction u with
  | nil => intro s t hs ht h1 h2 _; exact h2.symm
  | cons c u ih =>
    intro s t hs ht h1 h2 hu
    obtain ⟨hc, hu⟩ := hu.cons
    rw [wrun_cons, wrun_cons, dC_cl]
    have d1 := dN_lt G hs hc
    have d2 := dN_lt G ht hc
    refine ih d1 (cl_lt d2) (cl_cl d2) ?_ hu
    exact cl_d G hs ht hc (h2.trans h1.symm)
/-- Where a word leads in what a search made. -/
theorem BI.run {S : Type} [DecidableEq S] {d : S → Nat → S} {k : Nat} {x : S} {M : List S} {N : List Nat} (h : BI d k x M N) (hl : N.length = M.length * k) (l : List Bool) : ∀ (u : List Nat) {i : Nat} {s : S}, M[i]? = some s → Lk k u → M[wrun (dN (oA k N l)) i u]? = some (wrun d s u) := by
  intro u
  induction u with
  | nil => intro i s hi _; exact hi
  | cons c u ih =>
    intro i s hi hu
    obtain ⟨hc, hu⟩ := hu.cons
    obtain ⟨s', h1, h2⟩ := h.at hl (List.getElem?_eq_some_iff.1 hi).1 hc
    rw [hi, Option.some.injEq] at h1
    subst h1
    rw [wrun_cons, wrun_cons, oA_d]
    exact ih h2 hu
/-- What Minimal is made of. -/
theorem mn_parts {A : Aut} (G : Good A) : ∃ M R, bfs (dC A (lvl A A.ac.length)) A.k.toNat 0 = some (M, R) ∧ BI (dC A (lvl A A.ac.length)) A.k.toNat 0 M R ∧ R.length = M.length * A.k.toNat ∧ (∀ s ∈ M, s < A.ac.length) ∧ mnA A = oA A.k.toNat R (M.map (aN A)) ∧ mnT A = (List.range A.ac.length).map fun s => nmI M (cl A s) := by
  have hk := G.kn
  obtain ⟨M, R, hb, ha⟩ := bgo_total (d := dC A (lvl A A.ac.length)) (K := A.k.toNat) (N := A.ac.length) (x := 0) ⟨hk.1, hk.2.1⟩ G.n2 (fun s c hs hc => by rw [dC_cl]; exact cl_lt (dN_lt G hs hc)) 32768 [0] [] (BI.start _ _ _) (fun s hs => by simp at hs; have := G.n1; omega)
  have hb' : bfs (dC A (lvl A A.ac.length)) A.k.toNat 0 = some (M, R) := hb
  obtain ⟨b1, b2⟩ := bfs_sure ⟨hk.1, hk.2.1⟩ hb'
  refine ⟨M, R, hb', b1, b2, ha, ?_, ?_⟩
  · unfold mnA
    rw [if_pos (chkA_ok G)]
    unfold ioA oA
    rw [hb', hk.2.2]
  · unfold mnT ioM
    rw [if_pos (chkA_ok G), hb']
    rfl
theorem good_mn {A : Aut} (G : Good A) : Good (mnA A) ∧ (mnA A).k = A.k ∧ (mnA A).ac.length ≤ A.ac.length := by
  obtain ⟨M, R, hb, b1, b2, ha, e, _⟩ := mn_parts G
  have hk := G.kn
  rw [e]
  refine ⟨ord_good ⟨hk.1, hk.2.1⟩ hb (by simp), hk.2.2, ?_⟩
  show (M.map (aN A)).length ≤ _
  rw [List.length_map]
  exact nodup_small _ _ b1.nodup ha
/-- The minimal automaton's states by words. -/
theorem mn_run {A : Aut} (G : Good A) {u : List Nat} (hu : Lk A.k.toNat u) : ∃ M R, mnA A = oA A.k.toNat R (M.map (aN A)) ∧ M.Nodup ∧ (mnT A = (List.range A.ac.length).map fun s => nmI M (cl A s)) ∧ M[wrun (dN (mnA A)) 0 u]? = some (cl A (wrun (dN A) 0 u)) := by
  obtain ⟨M, R, hb, b1, b2, ha, e, et⟩ := mn_parts G
  have h0 := G.n1
  refine ⟨M, R, e, b1.nodup, et, ?_⟩
  rw [e, b1.run b2 _ u b1.first hu, cl_run G u (s := 0) (t := 0) (by omega) (by omega) (cl_zero (by omega)) (cl_zero (by omega)) hu]
theorem idx_nodup {l : List Nat} (h : l.Nodup) {i a : Nat} (hi : l[i]? = some a) : l.idxOf a = i := by
  refine idxOf_first hi (fun q hq hh => ?_)
  obtain ⟨q1, e1⟩ := List.getElem?_eq_some_iff.1 hi
  obtain ⟨q2, e2⟩ := List.getElem?_eq_some_iff.1 hh
  have := (List.getElem_inj h (i := q) (j := i)).1 (e2.trans e1.symm)
  omega
theorem mn_to {A : Aut} (G : Good A) {u : List Nat} (hu : Lk A.k.toNat u) : (mnT A).getD (wrun (dN A) 0 u) 0 = (wrun (dN (mnA A)) 0 u : Nat) ∧ aN (mnA A) (wrun (dN (mnA A)) 0 u) = aN A (wrun (dN A) 0 u) := by
  obtain ⟨M, R, e, hnd, et, hr⟩ := mn_run G hu
  have h0 := G.n1
  have hl := wrun_lt G (s := 0) (by omega) hu
  constructor
  · rw [et, List.getD_eq_getElem?_getD, List.getElem?_map, List.getElem?_range hl]
    simp only [Option.map_some, Option.getD_some]
    unfold nmI
    rw [if_pos (List.mem_of_getElem? hr), idx_nodup hnd hr]
  · have e2 : aN (mnA A) (wrun (dN (mnA A)) 0 u) = aN A (cl A (wrun (dN A) 0 u)) := by
      obtain ⟨i, hi⟩ : ∃ i, wrun (dN (mnA A)) 0 u = i := ⟨_, rfl⟩
      rw [hi] at hr ⊢
      rw [e]
      unfold aN oA
      simp [List.getD_eq_getElem?_getD, hr]
    rw [e2]
    exact (cl_word G (cl_lt hl) hl).1 (cl_cl hl) [] (Lk.nil _)
theorem mn_lang {A : Aut} (G : Good A) {u : List Nat} (hu : Lk A.k.toNat u) : acW (mnA A) 0 u = acW A 0 u := (mn_to G hu).2
theorem mn_same {A : Aut} (G : Good A) {u v : List Nat} (hu : Lk A.k.toNat u) (hv : Lk A.k.toNat v) : wrun (dN (mnA A)) 0 u = wrun (dN (mnA A)) 0 v ↔ cl A (wrun (dN A) 0 u) = cl A (wrun (dN A) 0 v) := by
  obtain ⟨M, R, e, hnd, et, hr⟩ := mn_run G hu
  obtain ⟨M', R', e', hnd', et', hr'⟩ := mn_run G hv
  obtain ⟨M0, R0, hb, b1, b2, ha, e0, et0⟩ := mn_parts G
  have h0 := G.n1
  have r1 := b1.run b2 (M0.map (aN A)) u b1.first hu
  have r2 := b1.run b2 (M0.map (aN A)) v b1.first hv
  rw [← e0, cl_run G u (s := 0) (t := 0) (by omega) (by omega) (cl_zero (by omega)) (cl_zero (by omega)) hu] at r1
  rw [← e0, cl_run G v (s := 0) (t := 0) (by omega) (by omega) (cl_zero (by omega)) (cl_zero (by omega)) hv] at r2
  constructor
  · intro h
    rw [h, r2, Option.some.injEq] at r1
    exact r1.symm
  · intro h
    rw [h] at r1
    exact b1.inj r1 r2
/-- A word that tells two states apart is found just where their classes are unlike. -/
theorem apO_cl {A : Aut} (G : Good A) {s t : Nat} (hs : s < A.ac.length) (ht : t < A.ac.length) : (apO A s t = none ↔ cl A s = cl A t) := by
  unfold apO
  constructor
  · intro h
    refine (cl_word G hs ht).2 (fun v hv => ?_)
    by_cases q : acW A s v = acW A t v
    · exact q
    · exfalso
      have hw : ∃ w, Lsh (dd A A) A.k.toNat (sx A A) (s, t) w := lsh_ex v hv ((sx_ac A A (s, t) v).2 q)
      obtain ⟨w, hw⟩ := hw
      rw [lsh_some hw] at h
      cases h
  · intro h
    refine lsh_none (fun v hv => ?_)
    cases q : sx A A (wrun (dd A A) (s, t) v) with
    | false => rfl
    | true => exact absurd ((cl_word G hs ht).1 h v hv) ((sx_ac A A (s, t) v).1 q)
end Go.Proofs.Ythmnoepjkobcmab
