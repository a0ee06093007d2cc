/- minim: Minimal. -/
import Derived.Test.YtggheiblgghpkaaMl
namespace Go.Proofs.Ytggheiblgghpkaa
open Go Go.RowKit Go.Lib
set_option linter.unusedVariables false

def filZ (f : Nat → Int) (n i : Nat) : List Int := (List.range n).map fun s => if s < i then f s else 0
theorem filZ_len (f : Nat → Int) (n i : Nat) : (filZ f n i).length = n := by simp [filZ]
theorem filZ_zero (f : Nat → Int) (n : Nat) : zC (filZ f n 0) = nC (filN id n 0) := by
  unfold zC nC filZ filN
  rw [List.map_map, List.map_map]
  refine List.map_congr_left fun s _ => ?_
  simp
theorem filZ_end (f : Nat → Int) (n : Nat) : filZ f n n = (List.range n).map f := by
  unfold filZ
  refine List.map_congr_left fun s hs => ?_
  rw [if_pos (List.mem_range.1 hs)]
theorem filZ_set (f : Nat → Int) {n i : Nat} (h : i < n) : (zC (filZ f n i)).set i (.int .i64 (f i)) = zC (filZ f n (i + 1)) := by
  apply List.ext_getElem?
  intro j
  rw [List.getElem?_set]
  by_cases e : i = j
  · subst e
    rw [if_pos rfl, if_pos (by rw [zC_len, filZ_len]; exact h)]
    simp [zC, filZ, h]
  · rw [if_neg e]
    by_cases hj : j < n
    · simp only [zC, filZ, List.getElem?_map, List.getElem?_range hj, Option.map_some]
      congr 2
      by_cases q : j < i
      · rw [if_pos q, if_pos (by omega)]
      · rw [if_neg q, if_neg (by omega)]
    · rw [List.getElem?_eq_none (by rw [zC_len, filZ_len]; omega), List.getElem?_eq_none (by rw [zC_len, filZ_len]; omega)]
theorem filZ_cell (f : Nat → Int) {n i : Nat} (h : i < n) : (zC (filZ f n i))[i]? = some (.int .i64 0) := by simp [zC, filZ, h]
/-- What Minimal answers. -/
noncomputable def mnA (A : Aut) : Aut := if chkA A = 0 then ioA A (lvl A A.ac.length) else zAut
noncomputable def mnT (A : Aut) : List Int := if chkA A = 0 then (List.range A.ac.length).map fun s => nmI (ioM A (lvl A A.ac.length)) ((lvl A A.ac.length).getD s 0) else []
def MQ (B : Aut) (T : List Int) (E : Int) (w : World) (e : Ending) (w' : World) : Prop := ∃ v' vt, e = .returned (.tuple #[v', vt, .int .i64 E]) ∧ AO w.heap.size w' v' B ∧ w'.ownsRow w.heap.size 3 1 vt T.length (zC T) ∧ Below w.heap.size w w'
/-- The same, and the two lists of numbers lie in rows of their own. -/
def MnS (B : Aut) (T : List Int) (E : Int) (w : World) (e : Ending) (w' : World) : Prop := ∃ an cn aa ca vt, e = .returned (.tuple #[.agg #[.int .i64 B.k, .slice an B.nx.length cn, .slice aa B.ac.length ca], vt, .int .i64 E]) ∧ w'.ownsRow w.heap.size 3 1 (.slice an B.nx.length cn) B.nx.length (zC B.nx) ∧ w'.ownsRow w.heap.size 4 1 (.slice aa B.ac.length ca) B.ac.length (bC B.ac) ∧ w'.ownsRow w.heap.size 3 1 vt T.length (zC T) ∧ (∀ b, (Value.slice an B.nx.length cn).ownBlock = some b → vt.ownBlock ≠ some b) ∧ Below w.heap.size w w'
theorem results_cell_tmp2 {fn : Func} {p u q : Tmp} {ty : TypeId} (h : fn.results = #[.cell p ty, .tmp u, .tmp q]) (tmps : Array Value) (P : Program) (w : World) :
    (results fn tmps).run P w =
      ((asAddr (tmps.getD p undef)).run P w).andThen fun a w₁ => ((loadVar ty a).run P w₁).andThen fun v w₂ => .ok (.tuple #[v, tmps.getD u undef, tmps.getD q undef]) w₂ := by
  simp only [results, h]
  simp [Sem.run_bind, Result.andThen]
theorem results_auto3 {fn : Func} {p u q : Tmp} (h : fn.results = #[.cell p 25, .tmp u, .tmp q]) {tmps : Array Value} {b : Nat} {arr : Array Value} {w : World} (hp : tmps.getD p undef = .pointer (some ⟨b, 0, none⟩)) (hc : w.heap[b]? = some (.cells arr 25 (0, 0))) (hs : arr.size = 3) :
    (results fn tmps).run Try.prog w = .ok (.tuple #[.agg arr, tmps.getD u undef, tmps.getD q undef]) w := by
  have := run_loadVar_row w b 25 25 arr (0, 0) _ hc Try.underlying25 rfl (by rw [Try.info_auto, hs])
  rw [results_cell_tmp2 h]
  simp [hp, asAddr, this, Result.andThen]

set_option maxHeartbeats 4000000 in
set_option maxRecDepth 100000 in
theorem minimal_sep (v : Value) (A : Aut) (w : World) (h : AR w v A) (hm : A.nx.length ≤ 9223372036854775806) (hm2 : A.ac.length ≤ 9223372036854775806) :
    Calls Try.prog 28 #[v] w (MnS (mnA A) (mnT A) (chkA A) w) := by
  obtain ⟨an, cn, aa, ca, e, k1, k2⟩ := h.is
  have HAR : Hid (∀ y, Below w.heap.size w y → AR y v A) := fun y hy => h.stay hy
  obtain ⟨i0, hi, hz0, hz1, hz2⟩ := info_parts Try.info_int
  subst e
  clear h k1 k2
  obtain ⟨W, hW⟩ : ∃ W, W = (w.alloc (.cells #[.int .i64 A.k, .slice an A.nx.length cn, .slice aa A.ac.length ca] 25)).alloc (.cells #[.int .i64 0, .slice none 0 0, .slice none 0 0] 25) := ⟨_, rfl⟩
  have HRW : Hid (RowAt W w.heap.size #[.int .i64 A.k, .slice an A.nx.length cn, .slice aa A.ac.length ca]) := by show RowAt _ _ _; rw [hW]; exact (RowAt.last _ _ _).alloc _
  have HBW : Hid (Below w.heap.size w W) := by show Below _ _ _; rw [hW]; exact go_on (below_new _ _) (below_new _ _)
  have HRES : Hid (W.heap[w.heap.size + 1]? = some (.cells #[.int .i64 0, .slice none 0 0, .slice none 0 0] 25 (0, 0))) := by
    show W.heap[w.heap.size + 1]? = _
    rw [hW]
    have := heap_alloc_last (w.alloc (.cells #[.int .i64 A.k, .slice an A.nx.length cn, .slice aa A.ac.length ca] 25)) (.cells #[.int .i64 0, .slice none 0 0, .slice none 0 0] 25)
    rw [World.size_alloc] at this
    exact this
  have HWE : Hid (W = (w.alloc (.cells #[.int .i64 A.k, .slice an A.nx.length cn, .slice aa A.ac.length ca] 25)).alloc (.cells #[.int .i64 0, .slice none 0 0, .slice none 0 0] 25)) := hW
  clear hW
  go_enter Try.func28, Try.ntmps28
  go_wp2_with fail
  rw [← HWE.out]
  refine (classes_any _ A _ (HAR.out _ HBW.out) hm hm2).mono ?_
  rintro e w1 ⟨vs, rfl, ho1, hb1⟩
  have HB1 : Hid (Below w.heap.size w w1) := go_on HBW.out hb1
  have hres1 := (hb1.block _ (Array.getElem?_eq_some_iff.1 HRES.out).1).trans HRES.out
  have HR1 : Hid (w1.heap[w.heap.size + 1]? = some (.cells #[.int .i64 0, .slice none 0 0, .slice none 0 0] 25 (0, 0))) := hres1
  have cs := (HRW.out.stay hb1).cell
  rcases chkA_cases A with ⟨G, hc⟩ | ⟨G, hc⟩
  · have HG : Hid (Good A) := G
    have hn1 := G.n1
    have hn2 := G.n2
    have hcl : clL A = lvl A A.ac.length := by unfold clL; rw [if_pos hc]
    rw [hcl, lvl_len] at ho1
    obtain ⟨g1, c1, rfl⟩ : ∃ g1 c1, vs = .slice (some ⟨g1, 0, none⟩) A.ac.length c1 := by
      rcases ho1.2 with ⟨_, h0⟩ | ⟨g, cap, cur, hv, _⟩
      · omega
      · exact ⟨g, cap, hv⟩
    have HLS : Hid (SR w1 (some ⟨g1, 0, none⟩) (nC (lvl A A.ac.length))) := own_sr ho1
    have HC : Hid (chkA A = 0) := hc
    rw [hc]
    clear ho1 hb1 hc hcl G hres1
    go_wp2_with fail
    refine (inOrder_any _ A _ (HAR.out _ HB1.out) HG.out _ _ (lvl A A.ac.length) HLS.out (lvl_len A _) (fun s hs => lvl_lt _ hs)).mono ?_
    rintro e w2 ⟨v2, g2, rfl, hao, hnm, hb2⟩
    have hB4 : (ioA A (lvl A A.ac.length)) = mnA A := by unfold mnA; rw [if_pos HC.out]
    obtain ⟨M, hM⟩ : ∃ M, ioM A (lvl A A.ac.length) = M := ⟨_, rfl⟩
    have HT : Hid (mnT A = (List.range A.ac.length).map fun s => nmI M ((lvl A A.ac.length).getD s 0)) := by show _ = _; unfold mnT; rw [if_pos HC.out, hM]
    rw [hB4] at hao
    rw [hM] at hnm
    obtain ⟨B, hB⟩ : ∃ B, mnA A = B := ⟨_, rfl⟩
    rw [hB] at hao
    have HBE : Hid (mnA A = B) := hB
    obtain ⟨rn, rcn, ra, rca, rfl, o1, o2⟩ := hao
    have HSP : Hid (∀ b, (Value.slice rn B.nx.length rcn).ownBlock = some b → b < w2.heap.size) := fun b hb => (o1.lt b hb).2
    obtain ⟨Y, hY⟩ : ∃ Y, Y = w2.alloc (.cells #[.int .i64 B.k, .slice rn B.nx.length rcn, .slice ra B.ac.length rca] 25) := ⟨_, rfl⟩
    have hYs : Y.heap.size = w2.heap.size + 1 := by rw [hY]; simp
    have b2Y : Below w2.heap.size w2 Y := by rw [hY]; exact below_new _ _
    have HYE : Hid (Y = w2.alloc (.cells #[.int .i64 B.k, .slice rn B.nx.length rcn, .slice ra B.ac.length rca] 25)) := hY
    have HRY : Hid (RowAt Y w2.heap.size #[.int .i64 B.k, .slice rn B.nx.length rcn, .slice ra B.ac.length rca]) := by show RowAt _ _ _; rw [hY]; exact RowAt.last _ _ _
    have HBY : Hid (Below w.heap.size w Y) := go_on (go_on HB1.out hb2) b2Y
    have HAO : Hid (AO w.heap.size Y (.agg #[.int .i64 B.k, .slice rn B.nx.length rcn, .slice ra B.ac.length rca]) B) := ⟨rn, rcn, ra, rca, rfl, own_mono (own_below o1 b2Y) HB1.out.size, own_mono (own_below o2 b2Y) HB1.out.size⟩
    have HLY : Hid (SR Y (some ⟨g1, 0, none⟩) (nC (lvl A A.ac.length))) := (HLS.out.stay hb2).stay b2Y
    have HNY : Hid (Y.ownsRow w.heap.size 3 1 (.slice (some ⟨g2, 0, none⟩) A.ac.length A.ac.length) A.ac.length (nmC M A.ac.length)) := own_mono (own_below hnm b2Y) HB1.out.size
    have HRS : Hid (Y.heap[w.heap.size + 1]? = some (.cells #[.int .i64 0, .slice none 0 0, .slice none 0 0] 25 (0, 0))) := by
      have q := go_on hb2 b2Y
      exact (q.block _ (Array.getElem?_eq_some_iff.1 HR1.out).1).trans HR1.out
    have hmk := fun w0 => run_make (P := Try.prog) w0 22 3 i0 (.int .i64 0) Try.underlying22 hi hz0 .i64 .i64 (A.ac.length : Int) (A.ac.length : Int) (by omega) (by omega) (by rw [hz2]; omega) (by omega)
    rw [hz1] at hmk
    simp only [Nat.mul_one] at hmk
    obtain ⟨F, hF⟩ : ∃ F : Nat → Int, ∀ s, F s = nmI M ((lvl A A.ac.length).getD s 0) := ⟨_, fun _ => rfl⟩
    have HO0 : Hid ((Y.alloc (.cells (madeCells #[.int .i64 0] A.ac.length) 3)).ownsRow w.heap.size 3 1 (.slice (some ⟨w2.heap.size + 1, 0, none⟩) A.ac.length A.ac.length) A.ac.length (zC (filZ F A.ac.length 0)) ∧ Below Y.heap.size Y (Y.alloc (.cells (madeCells #[.int .i64 0] A.ac.length) 3))) := by
      refine ⟨?_, below_new _ _⟩
      rw [filZ_zero, ← hYs]
      exact made_row Y id (by omega) HBY.out.size
    have HF : Hid (∀ s, F s = nmI M ((lvl A A.ac.length).getD s 0)) := hF
    have HYS : Hid (Y.heap.size = w2.heap.size + 1) := hYs
    clear hB hB4 hM o1 o2 hY hb2 hnm b2Y hYs hF cs
    have HYX : Hid ((w2.alloc (.cells #[.int .i64 B.k, .slice rn B.nx.length rcn, .slice ra B.ac.length rca] 25)).alloc (.cells (madeCells #[.int .i64 0] A.ac.length) 3) = Y.alloc (.cells (madeCells #[.int .i64 0] A.ac.length) 3)) := by show _ = _; rw [HYE.out]
    go_wp2_with fail
    rw [HYX.out]
    clear hmk
    go_loopw [32] (fun vi wr => ∃ i : Nat, vi = .int .i64 i ∧ i ≤ A.ac.length ∧ wr.ownsRow w.heap.size 3 1 (.slice (some ⟨w2.heap.size + 1, 0, none⟩) A.ac.length A.ac.length) A.ac.length (zC (filZ F A.ac.length i)) ∧ Below Y.heap.size Y wr) (fun vi _ => A.ac.length - (intOf vi).toNat)
    case atStart => exact ⟨0, rfl, Nat.zero_le _, HO0.out⟩
    case round =>
      clear HO0
      obtain ⟨i, rfl, hin, hO, hBB⟩ := hrel
      by_cases hlt : i < A.ac.length
      · have hiI : (i : Int) < A.ac.length := by omega
        have hc1 := (HLY.out.stay hBB).nat (i := i) (by rw [lvl_len]; exact hlt)
        obtain ⟨g', o', e', hg', hc1⟩ := hc1
        simp only [Option.some.injEq, Addr.mk.injEq] at e'
        obtain ⟨rfl, rfl, _⟩ := e'
        have hx := lvl_lt (A := A) A.ac.length (s := i) (by rw [lvl_len]; exact hlt)
        rw [lvl_len] at hx
        have hFi := HF.out i
        obtain ⟨x, hxe⟩ : ∃ x, (lvl A A.ac.length).getD i 0 = x := ⟨_, rfl⟩
        rw [hxe] at hc1 hx hFi
        rw [Nat.zero_add] at hc1
        have hxI : (x : Int) < A.ac.length := by omega
        have hc2 : wr.cell? ⟨g2, x, none⟩ = some (.int .i64 (F i)) := by
          rw [hFi]
          exact ((own_below HNY.out hBB).cellAt x (by omega)).trans (nmC_at hx)
        have hfz : wr.frozen? ⟨w2.heap.size + 1, i, none⟩ = false := hO.frozenAt i
        have hcl : wr.cell? ⟨w2.heap.size + 1, i, none⟩ = some (.int .i64 0) := (hO.cellAt i (by omega)).trans (filZ_cell F hlt)
        have hst := (hO.stored i (.int .i64 (F i))).1
        rw [filZ_set F hlt] at hst
        obtain ⟨y, hy⟩ : ∃ y, F i = y := ⟨_, rfl⟩
        rw [hy] at hc2 hst
        have HN : Hid ((wr.setCell ⟨w2.heap.size + 1, i, none⟩ (.int .i64 y)).ownsRow w.heap.size 3 1 (.slice (some ⟨w2.heap.size + 1, 0, none⟩) A.ac.length A.ac.length) A.ac.length (zC (filZ F A.ac.length (i + 1)))) := hst
        have HN2 : Hid (Below Y.heap.size Y (wr.setCell ⟨w2.heap.size + 1, i, none⟩ (.int .i64 y))) := hBB.setCell (p := ⟨w2.heap.size + 1, i, none⟩) (by show Y.heap.size ≤ _; rw [HYS.out]; exact Nat.le_refl _) _
        clear hst hO hBB hFi hxe hy hg'
        go_wp2_with fail
        go_roundw
        case rel => exact ⟨i + 1, by go_num, by omega, HN.out, HN2.out⟩
        case measure => simp [intOf]; omega
      · have hiI : ¬ (i : Int) < A.ac.length := by omega
        have e : i = A.ac.length := by omega
        rw [e, filZ_end] at hO
        have hT : (List.range A.ac.length).map F = mnT A := by rw [HT.out]; exact List.map_congr_left fun s _ => HF.out s
        rw [hT] at hO
        have hTl : (mnT A).length = A.ac.length := by rw [HT.out]; simp
        have hres3 := (hBB.block _ (Array.getElem?_eq_some_iff.1 HRS.out).1).trans HRS.out
        obtain ⟨f1, f2, f3⟩ := res_done (B := B) (base := w.heap.size) (w0 := w) (x0 := .int .i64 B.k) (x1 := .slice rn B.nx.length rcn) (x2 := .slice ra B.ac.length rca) hres3 (HAO.out.below hBB) (go_on HBY.out hBB) (by omega)
        have cs := (HRY.out.stay hBB).cell
        have hr0 : wr.cell? ⟨w.heap.size + 1, 0, none⟩ = some (.int .i64 0) := cell_of hres3
        have hr1 : wr.cell? ⟨w.heap.size + 1, 1, none⟩ = some (.slice none 0 0) := cell_of hres3
        have hr2 : wr.cell? ⟨w.heap.size + 1, 2, none⟩ = some (.slice none 0 0) := cell_of hres3
        have hf : ∀ j, wr.frozen? ⟨w.heap.size + 1, j, none⟩ = false := fun j => froz_of hres3
        have hlw : w.heap.size + 1 < Y.heap.size := (Array.getElem?_eq_some_iff.1 HRS.out).1
        have FT : Hid ((((wr.setCell ⟨w.heap.size + 1, 0, none⟩ (.int .i64 B.k)).setCell ⟨w.heap.size + 1, 1, none⟩ (.slice rn B.nx.length rcn)).setCell ⟨w.heap.size + 1, 2, none⟩ (.slice ra B.ac.length rca)).ownsRow w.heap.size 3 1 (.slice (some ⟨w2.heap.size + 1, 0, none⟩) A.ac.length A.ac.length) (mnT A).length (zC (mnT A))) := by
          rw [hTl]
          have hne : w2.heap.size + 1 ≠ w.heap.size + 1 := by rw [HYS.out] at hlw; omega
          refine own_keep hO (fun b cur hb _ => ?_)
          simp only [Value.ownBlock, Option.some.injEq] at hb
          rw [← hb, heap_set_other hne, heap_set_other hne, heap_set_other hne]
        have F1 : Hid _ := f1
        have F2 : Hid _ := f2
        have F3 : Hid _ := f3
        clear f1 f2 f3 hres3 hO hBB hT hTl e hlw
        go_wp2_with fail
        refine bodyPost_ret (results_auto3 rfl rfl F1.out rfl) rfl ?_
        rw [HBE.out]
        obtain ⟨_, _, _, _, q0, q1, q2⟩ := F2.out
        simp only [Value.agg.injEq, Array.mk.injEq, List.cons.injEq, Value.slice.injEq, and_true, true_and] at q0
        obtain ⟨⟨rfl, rfl⟩, rfl, rfl⟩ := q0
        refine ⟨rn, rcn, ra, rca, _, ?_, q1, q2, FT.out, ?_, F3.out⟩
        · rw [HC.out]; rfl
        · intro b hb hb'
          have := HSP.out b hb
          simp only [Value.ownBlock, Option.some.injEq] at hb'
          omega
  · have HE : Hid (mnA A = zAut ∧ mnT A = []) := by show _ ∧ _; unfold mnA mnT; rw [if_neg (by rw [hc]; decide), if_neg (by rw [hc]; decide)]; exact ⟨rfl, rfl⟩
    have hcl : clL A = [] := by unfold clL; rw [if_neg (by rw [hc]; decide)]
    rw [hc]
    have HC : Hid (chkA A = 80) := hc
    obtain ⟨av, cv, rfl⟩ := own_shape ho1
    rw [hcl]
    have hr0 : w1.cell? ⟨w.heap.size + 1, 0, none⟩ = some (.int .i64 0) := cell_of hres1
    have hr1 : w1.cell? ⟨w.heap.size + 1, 1, none⟩ = some (.slice none 0 0) := cell_of hres1
    have hr2 : w1.cell? ⟨w.heap.size + 1, 2, none⟩ = some (.slice none 0 0) := cell_of hres1
    have hf : ∀ j, w1.frozen? ⟨w.heap.size + 1, j, none⟩ = false := fun j => froz_of hres1
    obtain ⟨f1, f2, f3⟩ := res_done (B := zAut) (base := w.heap.size) (w0 := w) hres1 (AO.zero _ _) HB1.out (by omega)
    have F1 : Hid _ := f1
    have F2 : Hid _ := f2
    have F3 : Hid _ := f3
    clear hres1 f1 f2 f3 ho1 hb1 hc hcl
    go_wp2_with fail
    refine bodyPost_ret (results_auto3 rfl rfl F1.out rfl) rfl ?_
    rw [HE.out.1, HE.out.2]
    exact ⟨none, 0, none, 0, .slice none 0 0, by rw [HC.out]; rfl, World.ownsRow_nil _ _ _ _, World.ownsRow_nil _ _ _ _, World.ownsRow_nil _ _ _ _, fun b hb => by simp [Value.ownBlock] at hb, F3.out⟩
theorem minimal_any (v : Value) (A : Aut) (w : World) (h : AR w v A) (hm : A.nx.length ≤ 9223372036854775806) (hm2 : A.ac.length ≤ 9223372036854775806) :
    Calls Try.prog 28 #[v] w (MQ (mnA A) (mnT A) (chkA A) w) := by
  refine (minimal_sep v A w h hm hm2).mono ?_
  rintro e w' ⟨an, cn, aa, ca, vt, rfl, h1, h2, h3, _, h5⟩
  exact ⟨_, vt, rfl, ⟨an, cn, aa, ca, rfl, h1, h2⟩, h3, h5⟩
end Go.Proofs.Ytggheiblgghpkaa
