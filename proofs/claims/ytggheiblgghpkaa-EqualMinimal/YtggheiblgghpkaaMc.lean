/- minim: slices.Index of bools, byAccept. -/
import Derived.Test.YtggheiblgghpkaaMa
import Derived.Test.YtggheiblgghpkaaQx
namespace Go.Proofs.Ytggheiblgghpkaa
open Go Go.RowKit Go.Lib Go.Maps
set_option linter.unusedVariables false

/-- The first i are told, the rest not yet. -/
def filN (f : Nat → Nat) (n i : Nat) : List Nat := (List.range n).map fun s => if s < i then f s else 0
theorem filN_len (f : Nat → Nat) (n i : Nat) : (filN f n i).length = n := by simp [filN]
theorem filN_zero (f : Nat → Nat) (n : Nat) : filN f n 0 = List.replicate n 0 := by
  apply List.ext_getElem?
  intro j
  by_cases h : j < n <;> simp [filN, h]
theorem filN_end (f : Nat → Nat) (n : Nat) : filN f n n = (List.range n).map f := by
  unfold filN
  refine List.map_congr_left fun s hs => ?_
  rw [if_pos (List.mem_range.1 hs)]
theorem filN_set (f : Nat → Nat) {n i : Nat} (h : i < n) : (filN f n i).set i (f i) = filN f n (i + 1) := by
  apply List.ext_getElem?
  intro j
  rw [List.getElem?_set]
  by_cases e : i = j
  · subst e
    rw [if_pos rfl, filN_len, if_pos h]
    simp [filN, h]
  · rw [if_neg e]
    by_cases hj : j < n
    · simp only [filN, List.getElem?_map, List.getElem?_range hj, Option.map_some]
      congr 1
      by_cases q : j < i
      · rw [if_pos q, if_pos (by omega)]
      · rw [if_neg q, if_neg (by omega)]
    · rw [List.getElem?_eq_none (by rw [filN_len]; omega), List.getElem?_eq_none (by rw [filN_len]; omega)]
theorem filN_cell (f : Nat → Nat) {n i : Nat} (h : i < n) : (nC (filN f n i))[i]? = some (.int .i64 0) := by simp [nC, filN, h]
theorem nC_set (l : List Nat) (i x : Nat) : nC (l.set i x) = (nC l).set i (.int .i64 (x : Int)) := by unfold nC; rw [List.map_set]
/-- A new row of noughts. -/
theorem made_row (w : World) (f : Nat → Nat) {n base : Nat} (hn : n ≤ 32768) (hb : base ≤ w.heap.size) : (w.alloc (.cells (madeCells #[.int .i64 0] n) 3)).ownsRow base 3 1 (.slice (some ⟨w.heap.size, 0, none⟩) n n) n (nC (filN f n 0)) := by
  refine ⟨by simp [nC, filN_len], .inr ⟨w.heap.size, n, madeCells #[.int .i64 0] n, rfl, hb, heap_alloc_last _ _, Nat.le_refl _, by unfold maxLen; omega, ?_, ?_⟩⟩
  · simp [madeCells]
  · rw [filN_zero]
    apply List.ext_getElem?
    intro j
    by_cases hj : j < n
    · simp [madeCells, nC, hj, Nat.mod_one]
    · simp [madeCells, nC, hj]
theorem own_cur {w : World} {base : Nat} {e : TypeId} {g n cap : Nat} {us : List Value} (h : w.ownsRow base e 1 (.slice (some ⟨g, 0, none⟩) n cap) n us) {i : Nat} (hi : i < n) : ∃ cur, w.heap[g]? = some (.cells cur e (0, 0)) ∧ i < cur.size := by
  rcases h.2 with ⟨h0, h1⟩ | ⟨g', cap', cur, hv, _, hgg, hcap, _, hs, _⟩
  · cases h0
  · simp only [Value.slice.injEq, Option.some.injEq, Addr.mk.injEq] at hv
    obtain ⟨⟨rfl, _⟩, _, rfl⟩ := hv
    exact ⟨cur, hgg, by omega⟩

set_option maxHeartbeats 1000000 in
set_option maxRecDepth 100000 in
theorem indexB_any (a : Option Addr) (cap : Nat) (bs : List Bool) (b : Bool) (j : Nat) (w : World) (h : SR w a (bC bs)) (hm : bs.length ≤ 9223372036854775806) (hj : bs[j]? = some b) (hmin : ∀ t, t < j → bs[t]? = some (!b)) :
    Calls Try.prog 77 #[.slice a bs.length cap, .bool b] w fun e w' => e = .returned (.int .i64 (j : Int)) ∧ w = w' := by
  have H : Hid (SR w a (bC bs)) := h
  have HJ : Hid (bs[j]? = some b) := hj
  have HM : Hid (∀ t, t < j → bs[t]? = some (!b)) := hmin
  have hjl : j < bs.length := (List.getElem?_eq_some_iff.1 hj).1
  clear h hj hmin
  go_enter Try.func77, Try.ntmps77
  go_wp2_with fail
  go_loopw [8] (fun vi wr => ∃ i : Nat, vi = .int .i64 i ∧ i ≤ j ∧ wr = w) (fun vi _ => bs.length - (intOf vi).toNat)
  case atStart => exact ⟨0, rfl, Nat.zero_le _, rfl⟩
  case round =>
    obtain ⟨i, rfl, hi, rfl⟩ := hrel
    have hlt : i < bs.length := by omega
    have hiI : (i : Int) < bs.length := by omega
    obtain ⟨g, o, rfl, hg, hc⟩ := H.out.bool hlt
    by_cases e : i = j
    · subst e
      rw [List.getD_eq_getElem?_getD, HJ.out, Option.getD_some] at hc
      cases b
      all_goals (
        go_wp2_with fail
        go_ret
        exact ⟨rfl, rfl⟩)
    · rw [List.getD_eq_getElem?_getD, HM.out i (by omega), Option.getD_some] at hc
      cases b
      all_goals (
        go_wp2_with fail
        go_roundw
        case rel => exact ⟨i + 1, by go_num, by omega, trivial⟩
        case measure => simp [intOf]; omega)

set_option maxHeartbeats 4000000 in
set_option maxRecDepth 100000 in
theorem byAccept_any (v : Value) (A : Aut) (w : World) (h : AR w v A) (G : Good A) :
    Calls Try.prog 73 #[v] w fun e w' => ∃ g, e = .returned (.slice (some ⟨g, 0, none⟩) A.ac.length A.ac.length) ∧ w'.ownsRow w.heap.size 3 1 (.slice (some ⟨g, 0, none⟩) A.ac.length A.ac.length) A.ac.length (nC (lvl A 0)) ∧ Below w.heap.size w w' := by
  obtain ⟨an, cn, aa, ca, e, h1, h2⟩ := h.is
  obtain ⟨i0, hi, hz0, hz1, hz2⟩ := info_parts Try.info_int
  have hn1 := G.n1
  have hn2 := G.n2
  have hmk := fun w0 => run_make (P := Try.prog) w0 22 3 i0 (.int .i64 0) Try.underlying22 hi hz0 .i64 .i64 (A.ac.length : Int) (A.ac.length : Int) (by omega) (by omega) (by rw [hz2]; omega) (by omega)
  rw [hz1] at hmk
  simp only [Nat.mul_one] at hmk
  obtain ⟨F, hF⟩ : ∃ F : Nat → Nat, ∀ s, F s = ((List.range A.ac.length).map (aN A)).idxOf (aN A s) := ⟨_, fun _ => rfl⟩
  have HF : Hid ((List.range A.ac.length).map F = lvl A 0) := by show _ = lst _ _; unfold lst; exact List.map_congr_left fun s _ => hF s
  have HIX : Hid (∀ y s, Below w.heap.size w y → s < A.ac.length → Calls Try.prog 77 #[.slice aa A.ac.length ca, .bool (A.ac.getD s false)] y fun e w' => e = .returned (.int .i64 (F s : Nat)) ∧ y = w') := fun y s hy hs => by
    obtain ⟨q1, q2, q3⟩ := idx_facts (aN A) hs
    have hat : ∀ t, t < A.ac.length → A.ac[t]? = some (aN A t) := fun t ht => by simp [aN, List.getD_eq_getElem?_getD, ht]
    rw [hF s]
    refine indexB_any aa ca A.ac (A.ac.getD s false) _ y (h2.stay hy) (by omega) ?_ ?_
    · rw [hat _ (by omega), q2]; rfl
    · intro t ht
      rw [hat t (by omega)]
      have := q3 t ht
      show some (aN A t) = some (!aN A s)
      cases hx : aN A t <;> cases hy : aN A s <;> simp_all
  have H2 : Hid (∀ y, Below w.heap.size w y → SR y aa (bC A.ac)) := fun y hy => h2.stay hy
  subst e
  clear h h1 h2 G hF
  go_enter Try.func73, Try.ntmps73
  go_wp2_with fail
  have HU : Hid (Below w.heap.size w ((w.alloc (.cells #[.int .i64 A.k, .slice an A.nx.length cn, .slice aa A.ac.length ca] 25)).alloc (.cells (madeCells #[.int .i64 0] A.ac.length) 3))) := go_on (below_new _ _) (below_new _ _)
  have HR0 : Hid (RowAt ((w.alloc (.cells #[.int .i64 A.k, .slice an A.nx.length cn, .slice aa A.ac.length ca] 25)).alloc (.cells (madeCells #[.int .i64 0] A.ac.length) 3)) w.heap.size #[.int .i64 A.k, .slice an A.nx.length cn, .slice aa A.ac.length ca]) := (RowAt.last _ _ _).alloc _
  have HO0 : Hid (((w.alloc (.cells #[.int .i64 A.k, .slice an A.nx.length cn, .slice aa A.ac.length ca] 25)).alloc (.cells (madeCells #[.int .i64 0] A.ac.length) 3)).ownsRow w.heap.size 3 1 (.slice (some ⟨w.heap.size + 1, 0, none⟩) A.ac.length A.ac.length) A.ac.length (nC (filN F A.ac.length 0))) := by
    have := made_row (w.alloc (.cells #[.int .i64 A.k, .slice an A.nx.length cn, .slice aa A.ac.length ca] 25)) F (n := A.ac.length) (base := w.heap.size) (by omega) (by simp)
    rw [World.size_alloc] at this
    exact this
  clear hmk
  go_loopw [13] (fun vi wr => ∃ i : Nat, vi = .int .i64 i ∧ i ≤ A.ac.length ∧ RowAt wr w.heap.size #[.int .i64 A.k, .slice an A.nx.length cn, .slice aa A.ac.length ca] ∧ wr.ownsRow w.heap.size 3 1 (.slice (some ⟨w.heap.size + 1, 0, none⟩) A.ac.length A.ac.length) A.ac.length (nC (filN F A.ac.length i)) ∧ Below w.heap.size w wr) (fun vi _ => A.ac.length - (intOf vi).toNat)
  case atStart => exact ⟨0, rfl, Nat.zero_le _, HR0.out, HO0.out, HU.out⟩
  case round =>
    clear HR0 HO0 HU
    obtain ⟨i, rfl, hin, hR, hO, hB⟩ := hrel
    by_cases hlt : i < A.ac.length
    · have hiI : (i : Int) < A.ac.length := by omega
      have HO : Hid (wr.ownsRow w.heap.size 3 1 (.slice (some ⟨w.heap.size + 1, 0, none⟩) A.ac.length A.ac.length) A.ac.length (nC (filN F A.ac.length i))) := hO
      have HB : Hid (Below w.heap.size w wr) := hB
      obtain ⟨g, o, rfl, hg, hcell0⟩ := (H2.out _ (Below.refl _ _)).bool hlt
      have HR : Hid (RowAt wr w.heap.size #[.int .i64 A.k, .slice an A.nx.length cn, .slice (some ⟨g, o, none⟩) A.ac.length ca]) := hR
      have hcell := (below_cell hB hg).trans hcell0
      have hIX := fun y hy => HIX.out y i hy hlt
      obtain ⟨x, hx⟩ : ∃ x, A.ac.getD i false = x := ⟨_, rfl⟩
      obtain ⟨D, hD⟩ : ∃ D, F i = D := ⟨_, rfl⟩
      rw [hx] at hcell hIX
      rw [hD] at hIX
      have HC : Hid (∀ y, Below w.heap.size w y → Calls Try.prog 77 #[.slice (some ⟨g, o, none⟩) A.ac.length ca, .bool x] y fun e w' => e = .returned (.int .i64 (D : Nat)) ∧ y = w') := hIX
      have HX : Hid (F i = D) := hD
      have cs := hR.cell
      have hfz : wr.frozen? ⟨w.heap.size + 1, i, none⟩ = false := hO.frozenAt i
      have hcl : wr.cell? ⟨w.heap.size + 1, i, none⟩ = some (.int .i64 0) := (hO.cellAt i (by omega)).trans (filN_cell F hlt)
      clear hO hR hB hcell0 hIX hD hx hg
      go_wp2_with fail
      refine (HC.out _ HB.out).mono ?_
      rintro e w1 ⟨rfl, hb1⟩
      subst w1
      all_goals (
        have hst := (HO.out.stored i (.int .i64 (D : Int))).1
        have HN : Hid ((wr.setCell ⟨w.heap.size + 1, i, none⟩ (.int .i64 (D : Int))).ownsRow w.heap.size 3 1 (.slice (some ⟨w.heap.size + 1, 0, none⟩) A.ac.length A.ac.length) A.ac.length (nC (filN F A.ac.length (i + 1)))) := by
          rw [← filN_set F hlt, nC_set, HX.out]
          exact hst
        have HN2 : Hid (RowAt (wr.setCell ⟨w.heap.size + 1, i, none⟩ (.int .i64 (D : Int))) w.heap.size #[.int .i64 A.k, .slice an A.nx.length cn, .slice (some ⟨g, o, none⟩) A.ac.length ca]) := by
          have := HR.out
          refine ⟨by simp [World.setCell]; exact this.lt, fun o => ?_⟩
          rw [World.cell?_of_block (heap_set_other (show w.heap.size ≠ w.heap.size + 1 by omega))]
          exact this.cell o
        have HN3 : Hid (Below w.heap.size w (wr.setCell ⟨w.heap.size + 1, i, none⟩ (.int .i64 (D : Int)))) := HB.out.setCell (p := ⟨w.heap.size + 1, i, none⟩) (by show _ ≤ w.heap.size + 1; omega) _
        clear hst
        go_wp2_with fail
        go_roundw
        case rel => exact ⟨i + 1, by go_num, by omega, HN2.out, HN.out, HN3.out⟩
        case measure => simp [intOf]; omega)
    · have hiI : ¬ (i : Int) < A.ac.length := by omega
      have e : i = A.ac.length := by omega
      rw [e, filN_end, HF.out] at hO
      have HO : Hid (wr.ownsRow w.heap.size 3 1 (.slice (some ⟨w.heap.size + 1, 0, none⟩) A.ac.length A.ac.length) A.ac.length (nC (lvl A 0))) := hO
      have HB : Hid (Below w.heap.size w wr) := hB
      clear e hO hB hR
      go_wp2_with fail
      go_ret
      exact ⟨_, rfl, HO.out, HB.out⟩
end Go.Proofs.Ytggheiblgghpkaa
