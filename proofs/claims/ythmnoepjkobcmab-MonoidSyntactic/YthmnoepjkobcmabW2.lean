/- Jn Qx Mc Le Md Me, in one text. -/
import Derived.Test.YthmnoepjkobcmabW1
import Derived.Deep.RegionHeld3
import Derived.Deep.DeepCutAuto
import Derived.Test.YthmnoepjkobcmabMa
import Derived.DeepKeys4
namespace Go.Proofs.Ythmnoepjkobcmab
open Go Go.RowKit Go.Shelf Go.Lib
set_option linter.unusedVariables false

attribute [local go_sem] Oper.semAt_some

/-- First places from p on. -/
def fwL (N : Nat) (n : List Nat) (p : Nat) : List Nat := (List.range N).map fun s => if s ∈ n.drop p then p + (n.drop p).idxOf s else 0
theorem fwL_len (N : Nat) (n : List Nat) (p : Nat) : (fwL N n p).length = N := by simp [fwL]
theorem fwL_start (N : Nat) (n : List Nat) : fwL N n n.length = List.replicate N 0 := by
  unfold fwL
  rw [List.drop_length]
  apply List.ext_getElem?
  intro i
  by_cases h : i < N
  · simp [h]
  · simp [h]
theorem fwL_step (N : Nat) (n : List Nat) (p x : Nat) (hp : n[p]? = some x) (hx : x < N) : fwL N n p = (fwL N n (p + 1)).set x p := by
  have hl := (List.getElem?_eq_some_iff.1 hp).1
  have e : n.drop p = x :: n.drop (p + 1) := by
    rw [List.drop_eq_getElem_cons hl]
    rw [List.getElem?_eq_getElem hl, Option.some.injEq] at hp
    rw [hp]
  apply List.ext_getElem?
  intro i
  rw [List.getElem?_set]
  unfold fwL
  by_cases h : i < N
  · simp only [List.getElem?_map, List.getElem?_range h, Option.map_some, List.length_map, List.length_range]
    by_cases c : x = i
    · subst c
      rw [if_pos rfl, if_pos h, e]
      simp
    · rw [if_neg c, e]
      congr 1
      by_cases c2 : i ∈ n.drop (p + 1)
      · rw [if_pos (List.mem_cons_of_mem _ c2), if_pos c2, List.idxOf_cons]
        have : (x == i) = false := by simpa using c
        rw [this]
        simp only [cond_false]
        omega
      · rw [if_neg (fun h2 => ?_), if_neg c2]
        rcases List.mem_cons.1 h2 with h2 | h2
        · exact c h2.symm
        · exact c2 h2
  · rw [List.getElem?_eq_none (by simp; omega)]
    by_cases c : x = i
    · omega
    · rw [if_neg c, List.getElem?_eq_none (by simp; omega)]
theorem fwL_at (N : Nat) (n : List Nat) (s : Nat) (hs : s < N) (hm : s ∈ n) : (fwL N n 0)[s]? = some (n.idxOf s) := by
  unfold fwL
  simp [hs, hm]
/-- Where W' differs from W is at block M alone, and above. -/
structure Ex1 (M : Nat) (W W' : World) : Prop where
  os : W'.os = W.os
  tape : W'.tape = W.tape
  output : W'.output = W.output
  size : W.heap.size ≤ W'.heap.size
  block : ∀ b, b < W.heap.size → b ≠ M → W'.heap[b]? = W.heap[b]?
theorem Ex1.refl (M : Nat) (W : World) : Ex1 M W W := ⟨rfl, rfl, rfl, Nat.le_refl _, fun _ _ _ => rfl⟩
theorem Ex1.grown {M : Nat} {W W1 W2 : World} {row : Option Nat} (h : Ex1 M W W1) (hg : W1.grownBy W2 row) (hr : ∀ k, row = some k → W.heap.size ≤ k) : Ex1 M W W2 :=
  ⟨hg.os.trans h.os, hg.tape.trans h.tape, hg.output.trans h.output, Nat.le_trans h.size hg.size, fun b hb hne => (hg.block b (Nat.lt_of_lt_of_le hb h.size) (fun e => by have := hr b e.symm; omega)).trans (h.block b hb hne)⟩
theorem Ex1.set {M j : Nat} {W W1 : World} (h : Ex1 M W W1) (v : Value) : Ex1 M W (W1.setCell ⟨M, j, none⟩ v) :=
  ⟨h.os, h.tape, h.output, by simpa [World.setCell] using h.size, fun b hb hne => (heap_set_other hne).trans (h.block b hb hne)⟩
theorem Ex1.below {M B : Nat} {w W W1 : World} (h : Ex1 M W W1) (hb : Below B w W) (hM : B ≤ M) (hB : B ≤ W.heap.size) : Below B w W1 :=
  ⟨h.os.trans hb.os, h.tape.trans hb.tape, h.output.trans hb.output, Nat.le_trans hb.size h.size, fun b hlt => (h.block b (by have := hb.size; omega) (by omega)).trans (hb.block b hlt)⟩

end Go.Proofs.Ythmnoepjkobcmab

namespace Go.Proofs.Ythmnoepjkobcmab
open Go Go.RowKit Go.Lib Go.Maps
set_option linter.unusedVariables false

/-- The first i are told, the rest not yet. -/
def fil (f : Nat → Bool) (n i : Nat) : List Bool := (List.range n).map fun s => if s < i then f s else false
theorem fil_len (f : Nat → Bool) (n i : Nat) : (fil f n i).length = n := by simp [fil]
theorem fil_zero (f : Nat → Bool) (n : Nat) : fil f n 0 = List.replicate n false := by
  apply List.ext_getElem?
  intro j
  by_cases h : j < n <;> simp [fil, h]
theorem fil_end (f : Nat → Bool) (n : Nat) : fil f n n = (List.range n).map f := by
  unfold fil
  refine List.map_congr_left fun s hs => ?_
  rw [if_pos (List.mem_range.1 hs)]
theorem fil_set (f : Nat → Bool) {n i : Nat} (h : i < n) : (fil f n i).set i (f i) = fil f n (i + 1) := by
  apply List.ext_getElem?
  intro j
  rw [List.getElem?_set]
  by_cases e : i = j
  · subst e
    rw [if_pos rfl, fil_len, if_pos h]
    simp [fil, h]
  · rw [if_neg e]
    by_cases hj : j < n
    · simp only [fil, List.getElem?_map, List.getElem?_range hj, Option.map_some]
      congr 1
      by_cases q : j < i
      · rw [if_pos q, if_pos (by omega)]
      · rw [if_neg q, if_neg (by omega)]
    · rw [List.getElem?_eq_none (by rw [fil_len]; omega), List.getElem?_eq_none (by rw [fil_len]; omega)]

/-- What a cell holds. -/
def cvAt (y : World) (b i : Nat) : Value := (y.cell? ⟨b, i, none⟩).getD (.bool false)
/-- A box, a cell that is read and a cell that is written, while a region goes on. -/
abbrev SW (a : Nat) (arr : Array Value) (g o : Nat) (x : Value) (b i : Nat) (t : TypeId) (y : World) : Prop :=
  (∀ o, y.cell? ⟨a, o, none⟩ = arr[o]?) ∧ y.cell? ⟨g, o, none⟩ = some x ∧ y.frozen? ⟨b, i, none⟩ = false ∧ y.cell? ⟨b, i, none⟩ = some (cvAt y b i) ∧ (∃ cur, y.heap[b]? = some (.cells cur t (0, 0)) ∧ i < cur.size) ∧ a < y.heap.size ∧ g < y.heap.size
theorem sw_mk {a : Nat} {arr : Array Value} {g o : Nat} {x : Value} {b i : Nat} {t : TypeId} {y : World} (h1 : ∀ o, y.cell? ⟨a, o, none⟩ = arr[o]?) (h2 : y.cell? ⟨g, o, none⟩ = some x) (h3 : ∃ cur, y.heap[b]? = some (.cells cur t (0, 0)) ∧ i < cur.size) (h4 : a < y.heap.size) (h5 : g < y.heap.size) : SW a arr g o x b i t y := by
  obtain ⟨cur, hc, hi⟩ := h3
  have e : y.cell? ⟨b, i, none⟩ = some cur[i] := by rw [cell_of hc]; simp [hi]
  exact ⟨h1, h2, froz_of hc, by rw [cvAt, e]; rfl, ⟨cur, hc, hi⟩, h4, h5⟩
theorem sw_step {a : Nat} {arr : Array Value} {g o : Nat} {x : Value} {b i : Nat} {t : TypeId} {y1 y2 : World} (hb : Below y1.heap.size y1 y2) (h : SW a arr g o x b i t y1) : SW a arr g o x b i t y2 := by
  obtain ⟨h1, h2, _, _, ⟨cur, hc, hi⟩, h4, h5⟩ := h
  exact sw_mk (fun o => (below_cellJ hb h4).trans (h1 o)) ((below_cellJ hb h5).trans h2) ⟨cur, (hb.block b (Array.getElem?_eq_some_iff.1 hc).1).trans hc, hi⟩ (Nat.lt_of_lt_of_le h4 hb.size) (Nat.lt_of_lt_of_le h5 hb.size)
theorem sw_set {a : Nat} {arr : Array Value} {g o : Nat} {x : Value} {b i : Nat} {t : TypeId} {y : World} (ha : a ≠ b) (hg : g ≠ b) (v : Value) (h : SW a arr g o x b i t y) : SW a arr g o x b i t (y.setCell ⟨b, i, none⟩ v) := by
  obtain ⟨h1, h2, _, _, ⟨cur, hc, hi⟩, h4, h5⟩ := h
  refine sw_mk (fun o => ?_) ?_ ⟨_, heap_set hc, by simpa using hi⟩ (by simpa [World.setCell] using h4) (by simpa [World.setCell] using h5)
  · rw [World.cell?_of_block (heap_set_other ha)]; exact h1 o
  · rw [World.cell?_of_block (heap_set_other hg)]; exact h2

end Go.Proofs.Ythmnoepjkobcmab

namespace Go.Proofs.Ythmnoepjkobcmab
open Go Go.RowKit Go.Lib Go.Maps
set_option linter.unusedVariables false

/-- The first i are told, the rest not yet. -/
def filN (f : Nat → Nat) (n i : Nat) : List Nat := (List.range n).map fun s => if s < i then f s else 0
theorem filN_len (f : Nat → Nat) (n i : Nat) : (filN f n i).length = n := by simp [filN]
theorem filN_zero (f : Nat → Nat) (n : Nat) : filN f n 0 = List.replicate n 0 := by
  apply List.ext_getElem?
  intro j
  by_cases h : j < n <;> simp [filN, h]
theorem filN_end (f : Nat → Nat) (n : Nat) : filN f n n = (List.range n).map f := by
  unfold filN
  refine List.map_congr_left fun s hs => ?_
  rw [if_pos (List.mem_range.1 hs)]
theorem filN_set (f : Nat → Nat) {n i : Nat} (h : i < n) : (filN f n i).set i (f i) = filN f n (i + 1) := by
  apply List.ext_getElem?
  intro j
  rw [List.getElem?_set]
  by_cases e : i = j
  · subst e
    rw [if_pos rfl, filN_len, if_pos h]
    simp [filN, h]
  · rw [if_neg e]
    by_cases hj : j < n
    · simp only [filN, List.getElem?_map, List.getElem?_range hj, Option.map_some]
      congr 1
      by_cases q : j < i
      · rw [if_pos q, if_pos (by omega)]
      · rw [if_neg q, if_neg (by omega)]
    · rw [List.getElem?_eq_none (by rw [filN_len]; omega), List.getElem?_eq_none (by rw [filN_len]; omega)]
theorem filN_cell (f : Nat → Nat) {n i : Nat} (h : i < n) : (nC (filN f n i))[i]? = some (.int .i64 0) := by simp [nC, filN, h]
theorem nC_set (l : List Nat) (i x : Nat) : nC (l.set i x) = (nC l).set i (.int .i64 (x : Int)) := by unfold nC; rw [List.map_set]
/-- A new row of noughts. -/
theorem made_row (w : World) (f : Nat → Nat) {n base : Nat} (hn : n ≤ 32768) (hb : base ≤ w.heap.size) : (w.alloc (.cells (madeCells #[.int .i64 0] n) 3)).ownsRow base 3 1 (.slice (some ⟨w.heap.size, 0, none⟩) n n) n (nC (filN f n 0)) := by
  refine ⟨by simp [nC, filN_len], .inr ⟨w.heap.size, n, madeCells #[.int .i64 0] n, rfl, hb, heap_alloc_last _ _, Nat.le_refl _, by unfold maxLen; omega, ?_, ?_⟩⟩
  · simp [madeCells]
  · rw [filN_zero]
    apply List.ext_getElem?
    intro j
    by_cases hj : j < n
    · simp [madeCells, nC, hj, Nat.mod_one]
    · simp [madeCells, nC, hj]
theorem own_cur {w : World} {base : Nat} {e : TypeId} {g n cap : Nat} {us : List Value} (h : w.ownsRow base e 1 (.slice (some ⟨g, 0, none⟩) n cap) n us) {i : Nat} (hi : i < n) : ∃ cur, w.heap[g]? = some (.cells cur e (0, 0)) ∧ i < cur.size := by
  rcases h.2 with ⟨h0, h1⟩ | ⟨g', cap', cur, hv, _, hgg, hcap, _, hs, _⟩
  · cases h0
  · simp only [Value.slice.injEq, Option.some.injEq, Addr.mk.injEq] at hv
    obtain ⟨⟨rfl, _⟩, _, rfl⟩ := hv
    exact ⟨cur, hgg, by omega⟩

set_option maxHeartbeats 1000000 in
set_option maxRecDepth 100000 in
theorem indexB_any (a : Option Addr) (cap : Nat) (bs : List Bool) (b : Bool) (j : Nat) (w : World) (h : SR w a (bC bs)) (hm : bs.length ≤ 9223372036854775806) (hj : bs[j]? = some b) (hmin : ∀ t, t < j → bs[t]? = some (!b)) :
    Calls Try.prog 80 #[.slice a bs.length cap, .bool b] w fun e w' => e = .returned (.int .i64 (j : Int)) ∧ w = w' := by
  have H : Hid (SR w a (bC bs)) := h
  have HJ : Hid (bs[j]? = some b) := hj
  have HM : Hid (∀ t, t < j → bs[t]? = some (!b)) := hmin
  have hjl : j < bs.length := (List.getElem?_eq_some_iff.1 hj).1
  clear h hj hmin
  go_enter Try.func80, Try.ntmps80
  go_wp2_with fail
  go_loopw [8] (fun vi wr => ∃ i : Nat, vi = .int .i64 i ∧ i ≤ j ∧ wr = w) (fun vi _ => bs.length - (intOf vi).toNat)
  case atStart => exact ⟨0, rfl, Nat.zero_le _, rfl⟩
  case round =>
    obtain ⟨i, rfl, hi, rfl⟩ := hrel
    have hlt : i < bs.length := by omega
    have hiI : (i : Int) < bs.length := by omega
    obtain ⟨g, o, rfl, hg, hc⟩ := H.out.bool hlt
    by_cases e : i = j
    · subst e
      rw [List.getD_eq_getElem?_getD, HJ.out, Option.getD_some] at hc
      cases b
      all_goals (
        go_wp2_with fail
        go_ret
        exact ⟨rfl, rfl⟩)
    · rw [List.getD_eq_getElem?_getD, HM.out i (by omega), Option.getD_some] at hc
      cases b
      all_goals (
        go_wp2_with fail
        go_roundw
        case rel => exact ⟨i + 1, by go_num, by omega, trivial⟩
        case measure => simp [intOf]; omega)

set_option maxHeartbeats 4000000 in
set_option maxRecDepth 100000 in
theorem byAccept_any (v : Value) (A : Aut) (w : World) (h : AR w v A) (G : Good A) :
    Calls Try.prog 74 #[v] w fun e w' => ∃ g, e = .returned (.slice (some ⟨g, 0, none⟩) A.ac.length A.ac.length) ∧ w'.ownsRow w.heap.size 3 1 (.slice (some ⟨g, 0, none⟩) A.ac.length A.ac.length) A.ac.length (nC (lvl A 0)) ∧ Below w.heap.size w w' := by
  obtain ⟨an, cn, aa, ca, e, h1, h2⟩ := h.is
  obtain ⟨i0, hi, hz0, hz1, hz2⟩ := info_parts Try.info_int
  have hn1 := G.n1
  have hn2 := G.n2
  have hmk := fun w0 => run_make (P := Try.prog) w0 22 3 i0 (.int .i64 0) Try.underlying22 hi hz0 .i64 .i64 (A.ac.length : Int) (A.ac.length : Int) (by omega) (by omega) (by rw [hz2]; omega) (by omega)
  rw [hz1] at hmk
  simp only [Nat.mul_one] at hmk
  obtain ⟨F, hF⟩ : ∃ F : Nat → Nat, ∀ s, F s = ((List.range A.ac.length).map (aN A)).idxOf (aN A s) := ⟨_, fun _ => rfl⟩
  have HF : Hid ((List.range A.ac.length).map F = lvl A 0) := by show _ = lst _ _; unfold lst; exact List.map_congr_left fun s _ => hF s
  have HIX : Hid (∀ y s, Below w.heap.size w y → s < A.ac.length → Calls Try.prog 80 #[.slice aa A.ac.length ca, .bool (A.ac.getD s false)] y fun e w' => e = .returned (.int .i64 (F s : Nat)) ∧ y = w') := fun y s hy hs => by
    obtain ⟨q1, q2, q3⟩ := idx_facts (aN A) hs
    have hat : ∀ t, t < A.ac.length → A.ac[t]? = some (aN A t) := fun t ht => by simp [aN, List.getD_eq_getElem?_getD, ht]
    rw [hF s]
    refine indexB_any aa ca A.ac (A.ac.getD s false) _ y (h2.stay hy) (by omega) ?_ ?_
    · rw [hat _ (by omega), q2]; rfl
    · intro t ht
      rw [hat t (by omega)]
      have := q3 t ht
      show some (aN A t) = some (!aN A s)
      cases hx : aN A t <;> cases hy : aN A s <;> simp_all
  have H2 : Hid (∀ y, Below w.heap.size w y → SR y aa (bC A.ac)) := fun y hy => h2.stay hy
  subst e
  clear h h1 h2 G hF
  go_enter Try.func74, Try.ntmps74
  go_wp2_with fail
  have HU : Hid (Below w.heap.size w ((w.alloc (.cells #[.int .i64 A.k, .slice an A.nx.length cn, .slice aa A.ac.length ca] 25)).alloc (.cells (madeCells #[.int .i64 0] A.ac.length) 3))) := go_on (below_new _ _) (below_new _ _)
  have HR0 : Hid (RowAt ((w.alloc (.cells #[.int .i64 A.k, .slice an A.nx.length cn, .slice aa A.ac.length ca] 25)).alloc (.cells (madeCells #[.int .i64 0] A.ac.length) 3)) w.heap.size #[.int .i64 A.k, .slice an A.nx.length cn, .slice aa A.ac.length ca]) := (RowAt.last _ _ _).alloc _
  have HO0 : Hid (((w.alloc (.cells #[.int .i64 A.k, .slice an A.nx.length cn, .slice aa A.ac.length ca] 25)).alloc (.cells (madeCells #[.int .i64 0] A.ac.length) 3)).ownsRow w.heap.size 3 1 (.slice (some ⟨w.heap.size + 1, 0, none⟩) A.ac.length A.ac.length) A.ac.length (nC (filN F A.ac.length 0))) := by
    have := made_row (w.alloc (.cells #[.int .i64 A.k, .slice an A.nx.length cn, .slice aa A.ac.length ca] 25)) F (n := A.ac.length) (base := w.heap.size) (by omega) (by simp)
    rw [World.size_alloc] at this
    exact this
  clear hmk
  go_loopw [13] (fun vi wr => ∃ i : Nat, vi = .int .i64 i ∧ i ≤ A.ac.length ∧ RowAt wr w.heap.size #[.int .i64 A.k, .slice an A.nx.length cn, .slice aa A.ac.length ca] ∧ wr.ownsRow w.heap.size 3 1 (.slice (some ⟨w.heap.size + 1, 0, none⟩) A.ac.length A.ac.length) A.ac.length (nC (filN F A.ac.length i)) ∧ Below w.heap.size w wr) (fun vi _ => A.ac.length - (intOf vi).toNat)
  case atStart => exact ⟨0, rfl, Nat.zero_le _, HR0.out, HO0.out, HU.out⟩
  case round =>
    clear HR0 HO0 HU
    obtain ⟨i, rfl, hin, hR, hO, hB⟩ := hrel
    by_cases hlt : i < A.ac.length
    · have hiI : (i : Int) < A.ac.length := by omega
      have HO : Hid (wr.ownsRow w.heap.size 3 1 (.slice (some ⟨w.heap.size + 1, 0, none⟩) A.ac.length A.ac.length) A.ac.length (nC (filN F A.ac.length i))) := hO
      have HB : Hid (Below w.heap.size w wr) := hB
      obtain ⟨g, o, rfl, hg, hcell0⟩ := (H2.out _ (Below.refl _ _)).bool hlt
      have HR : Hid (RowAt wr w.heap.size #[.int .i64 A.k, .slice an A.nx.length cn, .slice (some ⟨g, o, none⟩) A.ac.length ca]) := hR
      have hcell := (below_cellJ hB hg).trans hcell0
      have hIX := fun y hy => HIX.out y i hy hlt
      obtain ⟨x, hx⟩ : ∃ x, A.ac.getD i false = x := ⟨_, rfl⟩
      obtain ⟨D, hD⟩ : ∃ D, F i = D := ⟨_, rfl⟩
      rw [hx] at hcell hIX
      rw [hD] at hIX
      have HC : Hid (∀ y, Below w.heap.size w y → Calls Try.prog 80 #[.slice (some ⟨g, o, none⟩) A.ac.length ca, .bool x] y fun e w' => e = .returned (.int .i64 (D : Nat)) ∧ y = w') := hIX
      have HX : Hid (F i = D) := hD
      have cs := hR.cell
      have hfz : wr.frozen? ⟨w.heap.size + 1, i, none⟩ = false := hO.frozenAt i
      have hcl : wr.cell? ⟨w.heap.size + 1, i, none⟩ = some (.int .i64 0) := (hO.cellAt i (by omega)).trans (filN_cell F hlt)
      clear hO hR hB hcell0 hIX hD hx hg
      go_wp2_with fail
      refine (HC.out _ HB.out).mono ?_
      rintro e w1 ⟨rfl, hb1⟩
      subst w1
      all_goals (
        have hst := (HO.out.stored i (.int .i64 (D : Int))).1
        have HN : Hid ((wr.setCell ⟨w.heap.size + 1, i, none⟩ (.int .i64 (D : Int))).ownsRow w.heap.size 3 1 (.slice (some ⟨w.heap.size + 1, 0, none⟩) A.ac.length A.ac.length) A.ac.length (nC (filN F A.ac.length (i + 1)))) := by
          rw [← filN_set F hlt, nC_set, HX.out]
          exact hst
        have HN2 : Hid (RowAt (wr.setCell ⟨w.heap.size + 1, i, none⟩ (.int .i64 (D : Int))) w.heap.size #[.int .i64 A.k, .slice an A.nx.length cn, .slice (some ⟨g, o, none⟩) A.ac.length ca]) := by
          have := HR.out
          refine ⟨by simp [World.setCell]; exact this.lt, fun o => ?_⟩
          rw [World.cell?_of_block (heap_set_other (show w.heap.size ≠ w.heap.size + 1 by omega))]
          exact this.cell o
        have HN3 : Hid (Below w.heap.size w (wr.setCell ⟨w.heap.size + 1, i, none⟩ (.int .i64 (D : Int)))) := HB.out.setCell (p := ⟨w.heap.size + 1, i, none⟩) (by show _ ≤ w.heap.size + 1; omega) _
        clear hst
        go_wp2_with fail
        go_roundw
        case rel => exact ⟨i + 1, by go_num, by omega, HN2.out, HN.out, HN3.out⟩
        case measure => simp [intOf]; omega)
    · have hiI : ¬ (i : Int) < A.ac.length := by omega
      have e : i = A.ac.length := by omega
      rw [e, filN_end, HF.out] at hO
      have HO : Hid (wr.ownsRow w.heap.size 3 1 (.slice (some ⟨w.heap.size + 1, 0, none⟩) A.ac.length A.ac.length) A.ac.length (nC (lvl A 0))) := hO
      have HB : Hid (Below w.heap.size w wr) := hB
      clear e hO hB hR
      go_wp2_with fail
      go_ret
      exact ⟨_, rfl, HO.out, HB.out⟩
end Go.Proofs.Ythmnoepjkobcmab

namespace Go.Proofs.Ythmnoepjkobcmab
open Go Go.RowKit Go.Lib
set_option linter.unusedVariables false

theorem nC_get {l : List Nat} {i : Nat} (h : i < l.length) : (nC l)[i]? = some (.int .i64 (l.getD i 0 : Nat)) := by
  simp [nC, h]

set_option maxHeartbeats 2000000 in
set_option maxRecDepth 100000 in
theorem alone_any (n : Nat) (hn : n ≤ 4096) (w : World) :
    Calls Try.prog 51 #[.int .i64 n] w fun e w' => e = .returned (.slice (some ⟨w.heap.size, 0, none⟩) n n) ∧ w'.ownsRow w.heap.size 3 1 (.slice (some ⟨w.heap.size, 0, none⟩) n n) n (nC (List.range n)) ∧ Below w.heap.size w w' := by
  obtain ⟨i0, hi, hz0, hz1, hz2⟩ := info_parts Try.info_int
  have hmk := fun w0 => run_make (P := Try.prog) w0 22 3 i0 (.int .i64 0) Try.underlying22 hi hz0 .i64 .i64 (n : Int) (n : Int) (by omega) (by omega) (by rw [hz2]; omega) (by omega)
  rw [hz1] at hmk
  simp only [Nat.mul_one] at hmk
  have HO0 : Hid ((w.alloc (.cells (madeCells #[.int .i64 0] n) 3)).ownsRow w.heap.size 3 1 (.slice (some ⟨w.heap.size, 0, none⟩) n n) n (nC (filN id n 0)) ∧ Below w.heap.size w (w.alloc (.cells (madeCells #[.int .i64 0] n) 3))) := ⟨made_row w id (by omega) (Nat.le_refl _), below_new _ _⟩
  go_enter Try.func51, Try.ntmps51
  go_wp2_with fail
  clear hmk
  go_loopw [9, 4] (fun vi _ wr => ∃ i : Nat, vi = .int .i64 i ∧ i ≤ n ∧ wr.ownsRow w.heap.size 3 1 (.slice (some ⟨w.heap.size, 0, none⟩) n n) n (nC (filN id n i)) ∧ Below w.heap.size w wr) (fun vi _ _ => n - (intOf vi).toNat)
  case atStart => exact ⟨0, rfl, Nat.zero_le _, HO0.out⟩
  case round =>
    clear HO0
    obtain ⟨i, rfl, hin, hO, hB⟩ := hrel
    by_cases hlt : i < n
    · have hiI : (i : Int) < n := by omega
      have hfz : wr.frozen? ⟨w.heap.size, i, none⟩ = false := hO.frozenAt i
      have hcl : wr.cell? ⟨w.heap.size, i, none⟩ = some (.int .i64 0) := (hO.cellAt i (by omega)).trans (filN_cell id hlt)
      have hst := (hO.stored i (.int .i64 ((id i : Nat) : Int))).1
      rw [← nC_set, filN_set id hlt] at hst
      have HN : Hid ((wr.setCell ⟨w.heap.size, i, none⟩ (.int .i64 (i : Int))).ownsRow w.heap.size 3 1 (.slice (some ⟨w.heap.size, 0, none⟩) n n) n (nC (filN id n (i + 1)))) := hst
      have HN2 : Hid (Below w.heap.size w (wr.setCell ⟨w.heap.size, i, none⟩ (.int .i64 (i : Int)))) := hB.setCell (p := ⟨w.heap.size, i, none⟩) (Nat.le_refl _) _
      clear hst hO hB
      go_wp2_with fail
      go_roundw
      case rel => exact ⟨i + 1, by go_num, by omega, HN.out, HN2.out⟩
      case measure => simp [intOf]; omega
    · have hiI : ¬ (i : Int) < n := by omega
      have e : i = n := by omega
      rw [e, filN_end] at hO
      have e2 : (List.range n).map id = List.range n := List.map_id _
      rw [e2] at hO
      have HO : Hid (wr.ownsRow w.heap.size 3 1 (.slice (some ⟨w.heap.size, 0, none⟩) n n) n (nC (List.range n))) := hO
      have HB : Hid (Below w.heap.size w wr) := hB
      clear hO hB e e2
      go_wp2_with fail
      go_ret
      exact ⟨rfl, HO.out, HB.out⟩

/-- Behind a call that writes into the row g alone. -/
structure OT (g : Nat) (w w' : World) : Prop where
  os : w'.os = w.os
  tape : w'.tape = w.tape
  output : w'.output = w.output
  size : w.heap.size ≤ w'.heap.size
  block : ∀ b, b < w.heap.size → b ≠ g → w'.heap[b]? = w.heap[b]?
theorem OT.refl (g : Nat) (w : World) : OT g w w := ⟨rfl, rfl, rfl, Nat.le_refl _, fun _ _ _ => rfl⟩
theorem OT.trans {g : Nat} {a b c : World} (h : OT g a b) (k : OT g b c) : OT g a c := ⟨k.os.trans h.os, k.tape.trans h.tape, k.output.trans h.output, Nat.le_trans h.size k.size, fun x hx hn => (k.block x (Nat.lt_of_lt_of_le hx h.size) hn).trans (h.block x hx hn)⟩
theorem OT.set {g : Nat} {a b : World} (h : OT g a b) (i : Nat) (v : Value) : OT g a (b.setCell ⟨g, i, none⟩ v) :=
  ⟨h.os, h.tape, h.output, by simp [World.setCell]; exact h.size, fun x hx hn => by rw [heap_set_other hn]; exact h.block x hx hn⟩
theorem OT.below {g B : Nat} {w w' : World} (h : OT g w w') (hg : B ≤ g) (hs : B ≤ w.heap.size) : Below B w w' := ⟨h.os, h.tape, h.output, h.size, fun b hb => h.block b (Nat.lt_of_lt_of_le hb hs) (by omega)⟩
theorem OT.cell {g b o : Nat} {w w' : World} (h : OT g w w') (hb : b < w.heap.size) (hn : b ≠ g) : w'.cell? ⟨b, o, none⟩ = w.cell? ⟨b, o, none⟩ := World.cell?_of_block (h.block b hb hn)

set_option maxHeartbeats 2000000 in
set_option maxRecDepth 100000 in
theorem top_any (base g N : Nat) (hN : N ≤ 4096) (f : List Nat) (r e : Nat → Nat) (U : UF N f r e) (s : Nat) (hs : s < N) (w : World) (h : w.ownsRow base 3 1 (.slice (some ⟨g, 0, none⟩) N N) N (nC f)) :
    Calls Try.prog 70 #[.slice (some ⟨g, 0, none⟩) N N, .int .i64 s] w fun x w' => x = .returned (.int .i64 (r s)) ∧ ∃ f', UF N f' r e ∧ w'.ownsRow base 3 1 (.slice (some ⟨g, 0, none⟩) N N) N (nC f') ∧ OT g w w' := by
  have HU : Hid (UF N f r e) := U
  have HO : Hid (w.ownsRow base 3 1 (.slice (some ⟨g, 0, none⟩) N N) N (nC f)) := h
  clear U h
  go_enter Try.func70, Try.ntmps70
  go_wp2_with fail
  go_loopw [1] (fun vs wr => ∃ (t : Nat) (f' : List Nat), vs = .int .i64 t ∧ t < N ∧ r t = r s ∧ UF N f' r e ∧ wr.ownsRow base 3 1 (.slice (some ⟨g, 0, none⟩) N N) N (nC f') ∧ OT g w wr) (fun vs _ => e (intOf vs).toNat)
  case atStart => exact ⟨s, f, rfl, hs, rfl, HU.out, HO.out, OT.refl _ _⟩
  case round =>
    clear HU HO
    obtain ⟨t, f', rfl, ht, hr, U, hO, hT⟩ := hrel
    have hfl := U.len
    have h1 := U.lt t ht
    have h2 := U.lt _ h1
    have hc1 : wr.cell? ⟨g, t, none⟩ = some (.int .i64 (f'.getD t 0 : Nat)) := (hO.cellAt t (by omega)).trans (nC_get (by omega))
    have hc2 : wr.cell? ⟨g, f'.getD t 0, none⟩ = some (.int .i64 (f'.getD (f'.getD t 0) 0 : Nat)) := (hO.cellAt _ (by omega)).trans (nC_get (by omega))
    have htI : (t : Int) < N := by omega
    by_cases hf : f'.getD t 0 = t
    · have HR : Hid (r s = t) := by show _ = _; rw [← hr]; exact (U.fix t ht).1 hf
      rw [hf] at hc1
      have HO : Hid (wr.ownsRow base 3 1 (.slice (some ⟨g, 0, none⟩) N N) N (nC f')) := hO
      have HU : Hid (UF N f' r e) := U
      have HT : Hid (OT g w wr) := hT
      clear hO U hT hf hr hfl h1 h2 hc2
      go_wp2_with fail
      go_ret
      exact ⟨by rw [HR.out]; rfl, f', HU.out, HO.out, HT.out⟩
    · have U' := U.halve ht hf
      have hd := U.dec t ht hf
      have hd2 : e (f'.getD (f'.getD t 0) 0) ≤ e (f'.getD t 0) := by
        by_cases q : f'.getD (f'.getD t 0) 0 = f'.getD t 0
        · rw [q]; exact Nat.le_refl _
        · exact Nat.le_of_lt (U.dec _ h1 q)
      have hr2 : r (f'.getD (f'.getD t 0) 0) = r s := by rw [U.inv _ h1, U.inv _ ht]; exact hr
      have hst := (hO.stored t (.int .i64 ((f'.getD (f'.getD t 0) 0 : Nat) : Int))).1
      rw [← nC_set] at hst
      obtain ⟨x, hx⟩ : ∃ x, f'.getD t 0 = x := ⟨_, rfl⟩
      rw [hx] at hc1 hc2 h1 h2 hf U' hd hd2 hr2 hst
      obtain ⟨y, hy⟩ : ∃ y, f'.getD x 0 = y := ⟨_, rfl⟩
      rw [hy] at hc2 h2 U' hd2 hr2 hst
      have hxI : (x : Int) < N := by omega
      have hyI : (y : Int) < N := by omega
      have hne : ¬ (x : Int) = t := by omega
      have hdd : decide ((x : Int) = t) = false := decide_eq_false hne
      have hbn : ((x : Int) != (t : Int)) = true := by simpa using hne
      have hfz : wr.frozen? ⟨g, t, none⟩ = false := hO.frozenAt t
      have hcN : (wr.setCell ⟨g, t, none⟩ (.int .i64 (y : Int))).cell? ⟨g, t, none⟩ = some (.int .i64 (y : Int)) := (hst.cellAt t (by omega)).trans (by rw [nC_get (by rw [U'.len]; exact ht), getD_set (by omega), if_pos rfl])
      have HO : Hid ((wr.setCell ⟨g, t, none⟩ (.int .i64 (y : Int))).ownsRow base 3 1 (.slice (some ⟨g, 0, none⟩) N N) N (nC (f'.set t y))) := hst
      have HU : Hid (UF N (f'.set t y) r e) := U'
      have HT : Hid (OT g w (wr.setCell ⟨g, t, none⟩ (.int .i64 (y : Int)))) := hT.set t _
      have HR : Hid (r y = r s) := hr2
      have HD : Hid (e y < e t) := by show e y < e t; omega
      clear hO U hT hf hr hfl hst U' hd hd2 hr2 hx hy hne
      go_wp2_with fail
      go_roundw
      case rel => exact ⟨y, f'.set t y, rfl, h2, HR.out, HU.out, HO.out, HT.out⟩
      case measure => have := HD.out; simp [intOf]; exact this

/-- What join answers and leaves. -/
def JQ (base g N : Nat) (r : Nat → Nat) (s t : Nat) (w : World) (x : Ending) (w' : World) : Prop := x = .returned (.bool (decide (r s ≠ r t))) ∧ ∃ f' e', UF N f' (if r s = r t then r else jn r s t) e' ∧ w'.ownsRow base 3 1 (.slice (some ⟨g, 0, none⟩) N N) N (nC f') ∧ OT g w w'

set_option maxHeartbeats 2000000 in
set_option maxRecDepth 100000 in
theorem join_any (base g N : Nat) (hN : N ≤ 4096) (f : List Nat) (r e : Nat → Nat) (U : UF N f r e) (s t : Nat) (hs : s < N) (ht : t < N) (w : World) (h : w.ownsRow base 3 1 (.slice (some ⟨g, 0, none⟩) N N) N (nC f)) :
    Calls Try.prog 53 #[.slice (some ⟨g, 0, none⟩) N N, .int .i64 s, .int .i64 t] w (JQ base g N r s t w) := by
  have HU : Hid (UF N f r e) := U
  have HO : Hid (w.ownsRow base 3 1 (.slice (some ⟨g, 0, none⟩) N N) N (nC f)) := h
  have hr1 := (U.root hs).1
  have hr2 := (U.root ht).1
  clear U h
  go_enter Try.func53, Try.ntmps53
  go_wp2_with fail
  refine (top_any base g N hN f r e HU.out s hs w HO.out).mono ?_
  rintro x w1 ⟨rfl, f1, u1, o1, t1⟩
  have HU1 : Hid (UF N f1 r e) := u1
  have HO1 : Hid (w1.ownsRow base 3 1 (.slice (some ⟨g, 0, none⟩) N N) N (nC f1)) := o1
  have HT1 : Hid (OT g w w1) := t1
  clear u1 o1 t1
  go_wp2_with fail
  refine (top_any base g N hN f1 r e HU1.out t ht w1 HO1.out).mono ?_
  rintro x w2 ⟨rfl, f2, u2, o2, t2⟩
  have HU2 : Hid (UF N f2 r e) := u2
  have HO2 : Hid (w2.ownsRow base 3 1 (.slice (some ⟨g, 0, none⟩) N N) N (nC f2)) := o2
  have HT2 : Hid (OT g w w2) := HT1.out.trans t2
  obtain ⟨p, hp⟩ : ∃ p, r s = p := ⟨_, rfl⟩
  obtain ⟨q, hq⟩ : ∃ q, r t = q := ⟨_, rfl⟩
  have HPE : Hid (r s = p ∧ r t = q) := ⟨hp, hq⟩
  rw [hp] at hr1
  rw [hq] at hr2
  rw [show (r s : Nat) = p from hp, show (r t : Nat) = q from hq]
  have hpI : (p : Int) < N := by omega
  have hfz : w2.frozen? ⟨g, p, none⟩ = false := o2.frozenAt p
  have hfl := u2.len
  obtain ⟨z, hz⟩ : ∃ z, f2.getD p 0 = z := ⟨_, rfl⟩
  have hcl : w2.cell? ⟨g, p, none⟩ = some (.int .i64 (z : Int)) := by rw [← hz]; exact (o2.cellAt p (by omega)).trans (nC_get (by omega))
  have hst := (o2.stored p (.int .i64 (q : Int))).1
  rw [← nC_set] at hst
  have HO3 : Hid ((w2.setCell ⟨g, p, none⟩ (.int .i64 (q : Int))).ownsRow base 3 1 (.slice (some ⟨g, 0, none⟩) N N) N (nC (f2.set p q))) := hst
  have HT3 : Hid (OT g w (w2.setCell ⟨g, p, none⟩ (.int .i64 (q : Int)))) := HT2.out.set p _
  by_cases hpq : p = q
  · have HU3 : Hid (∃ e', UF N (f2.set p q) (if p = q then r else jn r s t) e') := by
      refine ⟨e, ?_⟩
      rw [if_pos hpq, ← hpq, ← hp, HU2.out.stay hs]
      exact HU2.out
    have HPQ : Hid (decide (p ≠ q) = false) := by show _ = _; simpa using hpq
    clear hst o2 u2 t2 hz hp hq hfl
    subst hpq
    go_wp2_with fail
    go_ret
    obtain ⟨e', he⟩ := HU3.out
    refine ⟨?_, _, e', ?_, HO3.out, HT3.out⟩
    · rw [HPE.out.1, HPE.out.2, HPQ.out]; rfl
    · rw [HPE.out.1, HPE.out.2, if_pos rfl]; simpa using he
  · have HU3 : Hid (∃ e', UF N (f2.set p q) (if p = q then r else jn r s t) e') := by
      have := HU2.out.link hs ht (by rw [hp, hq]; exact hpq)
      rw [hp, hq] at this
      show ∃ e', _
      rw [if_neg hpq]
      exact this
    have HPQ : Hid (decide (p ≠ q) = true) := by show _ = _; simpa using hpq
    have hI : ¬ (p : Int) = q := by omega
    have hd : decide ((p : Int) = q) = false := decide_eq_false hI
    have hbn : ((p : Int) != (q : Int)) = true := by simpa using hI
    clear hst o2 u2 t2 hpq hz hp hq hfl
    go_wp2_with fail
    go_ret
    obtain ⟨e', he⟩ := HU3.out
    refine ⟨?_, _, e', ?_, HO3.out, HT3.out⟩
    · rw [HPE.out.1, HPE.out.2, HPQ.out]; rfl
    · rw [HPE.out.1, HPE.out.2]; exact he
end Go.Proofs.Ythmnoepjkobcmab

namespace Go.Proofs.Ythmnoepjkobcmab
open Go Go.RowKit Go.Lib Go.Maps
set_option linter.unusedVariables false

/-- How often each class stands among the first i. -/
def cnt (l : List Nat) (i c : Nat) : Nat := (l.take i).count c
theorem cnt_le (l : List Nat) (i c : Nat) : cnt l i c ≤ i := Nat.le_trans List.count_le_length (by simp; omega)
theorem cnt_step {l : List Nat} {i x : Nat} (h : l[i]? = some x) (c : Nat) : cnt l (i + 1) c = cnt l i c + if c = x then 1 else 0 := by
  obtain ⟨hi, e⟩ := List.getElem?_eq_some_iff.1 h
  unfold cnt
  rw [List.take_add_one, h, List.count_append]
  congr 1
  by_cases q : c = x
  · subst q; simp
  · rw [if_neg q]
    exact List.count_eq_zero_of_not_mem (by simpa using q)
def cntL (l : List Nat) (n i : Nat) : List Nat := (List.range n).map fun c => cnt l i c
theorem cntL_len (l : List Nat) (n i : Nat) : (cntL l n i).length = n := by simp [cntL]
theorem cntL_zero (l : List Nat) (n : Nat) (f : Nat → Nat) : cntL l n 0 = filN f n 0 := by
  unfold cntL filN
  refine List.map_congr_left fun c _ => ?_
  simp [cnt]
theorem cntL_at {l : List Nat} {n i x : Nat} (h : x < n) : (nC (cntL l n i))[x]? = some (.int .i64 (cnt l i x : Nat)) := by simp [nC, cntL, h]
theorem cntL_set {l : List Nat} {n i x : Nat} (h : l[i]? = some x) (hx : x < n) : (cntL l n i).set x (cnt l i x + 1) = cntL l n (i + 1) := by
  apply List.ext_getElem?
  intro j
  rw [List.getElem?_set]
  by_cases e : x = j
  · subst e
    rw [if_pos rfl, cntL_len, if_pos hx]
    simp [cntL, hx, cnt_step h]
  · rw [if_neg e]
    by_cases hj : j < n
    · simp only [cntL, List.getElem?_map, List.getElem?_range hj, Option.map_some]
      rw [cnt_step h, if_neg (fun q => e q.symm)]
      rfl
    · rw [List.getElem?_eq_none (by rw [cntL_len]; omega), List.getElem?_eq_none (by rw [cntL_len]; omega)]
theorem SR.nat {w : World} {a : Option Addr} {l : List Nat} (h : SR w a (nC l)) {i : Nat} (hi : i < l.length) : ∃ g o, a = some ⟨g, o, none⟩ ∧ g < w.heap.size ∧ w.cell? ⟨g, o + i, none⟩ = some (.int .i64 (l.getD i 0 : Nat)) :=
  h i _ (by simp [nC, List.getD_eq_getElem?_getD, hi])

set_option maxHeartbeats 2000000 in
set_option maxRecDepth 100000 in
theorem sizes_any (a : Option Addr) (cap : Nat) (l : List Nat) (w : World) (h : SR w a (nC l)) (hl : ∀ s, s < l.length → l.getD s 0 < l.length) (hn : l.length ≤ 4096) :
    Calls Try.prog 81 #[.slice a l.length cap] w fun e w' => ∃ g, e = .returned (.slice (some ⟨g, 0, none⟩) l.length l.length) ∧ w'.ownsRow w.heap.size 3 1 (.slice (some ⟨g, 0, none⟩) l.length l.length) l.length (nC (cntL l l.length l.length)) ∧ Below w.heap.size w w' := by
  obtain ⟨i0, hi, hz0, hz1, hz2⟩ := info_parts Try.info_int
  have hmk := fun w0 => run_make (P := Try.prog) w0 22 3 i0 (.int .i64 0) Try.underlying22 hi hz0 .i64 .i64 (l.length : Int) (l.length : Int) (by omega) (by omega) (by rw [hz2]; omega) (by omega)
  rw [hz1] at hmk
  simp only [Nat.mul_one] at hmk
  have H : Hid (∀ y, Below w.heap.size w y → SR y a (nC l)) := fun y hy => h.stay hy
  have HL : Hid (∀ s, s < l.length → l.getD s 0 < l.length) := hl
  have HO0 : Hid ((w.alloc (.cells (madeCells #[.int .i64 0] l.length) 3)).ownsRow w.heap.size 3 1 (.slice (some ⟨w.heap.size, 0, none⟩) l.length l.length) l.length (nC (cntL l l.length 0))) := by
    rw [cntL_zero l l.length id]
    exact made_row w id (by omega) (Nat.le_refl _)
  clear h hl
  go_enter Try.func81, Try.ntmps81
  go_wp2_with fail
  clear hmk
  go_loopw [11] (fun vi wr => ∃ i : Nat, vi = .int .i64 i ∧ i ≤ l.length ∧ wr.ownsRow w.heap.size 3 1 (.slice (some ⟨w.heap.size, 0, none⟩) l.length l.length) l.length (nC (cntL l l.length i)) ∧ Below w.heap.size w wr) (fun vi _ => l.length - (intOf vi).toNat)
  case atStart => exact ⟨0, rfl, Nat.zero_le _, HO0.out, below_new _ _⟩
  case round =>
    clear HO0
    obtain ⟨i, rfl, hin, hO, hB⟩ := hrel
    by_cases hlt : i < l.length
    · have hiI : (i : Int) < l.length := by omega
      have hx := HL.out i hlt
      obtain ⟨g, o, rfl, hg, hcell⟩ := (H.out _ hB).nat hlt
      obtain ⟨x, hxe⟩ : ∃ x, l.getD i 0 = x := ⟨_, rfl⟩
      rw [hxe] at hx hcell
      have hxl : l[i]? = some x := by
        rw [List.getElem?_eq_getElem hlt]
        rw [List.getD_eq_getElem?_getD, List.getElem?_eq_getElem hlt] at hxe
        exact congrArg some hxe
      have hxI : (x : Int) < l.length := by omega
      have hfz : wr.frozen? ⟨w.heap.size, x, none⟩ = false := hO.frozenAt x
      have hcl := (hO.cellAt x (by omega)).trans (cntL_at hx)
      have hb := cnt_le l i x
      obtain ⟨c, hc⟩ : ∃ c, cnt l i x = c := ⟨_, rfl⟩
      rw [hc] at hcl hb
      have hst := (hO.stored x (.int .i64 ((c + 1 : Nat) : Int))).1
      have hw : IntKind.i64.wrap ((c : Int) + 1) = ((c + 1 : Nat) : Int) := by rw [IntKind.wrap_i64]; omega
      have HN : Hid ((wr.setCell ⟨w.heap.size, x, none⟩ (.int .i64 ((c + 1 : Nat) : Int))).ownsRow w.heap.size 3 1 (.slice (some ⟨w.heap.size, 0, none⟩) l.length l.length) l.length (nC (cntL l l.length (i + 1)))) := by
        rw [← cntL_set hxl hx, hc, nC_set]
        exact hst
      have HB : Hid (Below w.heap.size w (wr.setCell ⟨w.heap.size, x, none⟩ (.int .i64 ((c + 1 : Nat) : Int)))) := hB.setCell (p := ⟨w.heap.size, x, none⟩) (Nat.le_refl _) _
      obtain ⟨d, hd⟩ : ∃ d : Nat, c + 1 = d := ⟨_, rfl⟩
      rw [hd] at hw HN HB
      clear hst hxe hxl hc hO hB hg hd
      go_wp2_with fail
      go_roundw
      case rel => exact ⟨i + 1, by go_num, by omega, HN.out, HB.out⟩
      case measure => simp [intOf]; omega
    · have hiI : ¬ (i : Int) < l.length := by omega
      have e : i = l.length := by omega
      rw [e] at hO
      have HO : Hid (wr.ownsRow w.heap.size 3 1 (.slice (some ⟨w.heap.size, 0, none⟩) l.length l.length) l.length (nC (cntL l l.length l.length))) := hO
      have HB : Hid (Below w.heap.size w wr) := hB
      clear e hO hB
      go_wp2_with fail
      go_ret
      exact ⟨_, rfl, HO.out, HB.out⟩
/-- A signature's cells. -/
abbrev sgC (q : Nat → Nat) : Array Value := #[.int .u16 (q 0 : Nat), .int .u16 (q 1 : Nat), .int .u16 (q 2 : Nat), .int .u16 (q 3 : Nat), .int .u16 (q 4 : Nat), .int .u16 (q 5 : Nat), .int .u16 (q 6 : Nat), .int .u16 (q 7 : Nat), .int .u16 (q 8 : Nat)]
abbrev sgV (q : Nat → Nat) : Value := .agg (sgC q)
theorem sgC_at (q : Nat → Nat) {j : Nat} (h : j < 9) : (sgC q)[j]? = some (.int .u16 (q j : Nat)) := by
  match j, h with
  | 0, _ => rfl
  | 1, _ => rfl
  | 2, _ => rfl
  | 3, _ => rfl
  | 4, _ => rfl
  | 5, _ => rfl
  | 6, _ => rfl
  | 7, _ => rfl
  | 8, _ => rfl
theorem sgC_none (q : Nat → Nat) {j : Nat} (h : ¬ j < 9) : (sgC q)[j]? = none := by simp [sgC]; omega
def sgK (q : Nat → Nat) : Lit := .string (keyBytes [.int .u16 (q 0 : Nat), .int .u16 (q 1 : Nat), .int .u16 (q 2 : Nat), .int .u16 (q 3 : Nat), .int .u16 (q 4 : Nat), .int .u16 (q 5 : Nat), .int .u16 (q 6 : Nat), .int .u16 (q 7 : Nat), .int .u16 (q 8 : Nat)])
theorem wfU {s : Nat} (h : s ≤ 65535) : (Lit.int .u16 (s : Int)).wf = true := WalkArith.wf_u16 (by omega)
theorem keyOf_sig {P : Program} {k t e : TypeId} {f1 f2 : Field} (hk : P.underlying k = some (.struct #[f1, f2])) (n1 : f1.name ≠ "_") (n2 : f2.name ≠ "_") (o1 : f1.offset = 0) (o2 : f2.offset = 1) (t1 : f1.type = e) (t2 : f2.type = t)
    (ht : P.underlying t = some (.array 8 e)) (he : P.underlying e = some (.int .u16)) (ck : P.cellsOf k = 9) (ct : P.cellsOf t = 8) (ce : P.cellsOf e = 1) (hy : P.keyType k = true) {n : Nat} (hn : P.types.size = n + 2) {q : Nat → Nat} (hq : ∀ j, q j ≤ 65535) :
    keyOf P k (sgV q) = some (sgK q) := by
  have w := fun j => wfU (hq j)
  simp [keyOf, hk, hy, Value.formed, Value.cells, ck, hn, Program.keyLits, n1, n2, o1, o2, t1, t2, ct, ce, ht, he, w, sgK, sgC, List.range_succ, List.range_zero]
end Go.Proofs.Ythmnoepjkobcmab

namespace Go.Proofs.Ythmnoepjkobcmab
open Go Go.RowKit Go.Lib Go.Maps
set_option linter.unusedVariables false

/-- A state's signature, the first i letters gone through. -/
def sq (A : Aut) (l : List Nat) (s i j : Nat) : Nat := if j = 0 then l.getD s 0 else if j - 1 < i then l.getD (dN A s (j - 1)) 0 else 0
theorem sq_zero (A : Aut) (l : List Nat) (s : Nat) {j : Nat} (h : 0 < j) : sq A l s 0 j = 0 := by unfold sq; rw [if_neg (by omega), if_neg (by omega)]
theorem sq_next (A : Aut) (l : List Nat) (s i j : Nat) : sq A l s (i + 1) j = if j = i + 1 then l.getD (dN A s i) 0 else sq A l s i j := by
  unfold sq
  by_cases h : j = i + 1
  · subst h; simp
  · rw [if_neg h]
    by_cases h0 : j = 0
    · rw [if_pos h0, if_pos h0]
    · rw [if_neg h0, if_neg h0]
      by_cases h1 : j - 1 < i
      · rw [if_pos (by omega), if_pos h1]
      · rw [if_neg (by omega), if_neg h1]
theorem sq_le {A : Aut} {l : List Nat} (hl : ∀ s, l.getD s 0 ≤ 65535) (s i j : Nat) : sq A l s i j ≤ 65535 := by
  unfold sq
  split
  · exact hl _
  · split
    · exact hl _
    · omega
theorem sgC_set {q q' : Nat → Nat} {j : Nat} (h : ∀ i, q' i = if i = j then q' j else q i) (hj : j < 9) : (sgC q).setIfInBounds j (.int .u16 (q' j : Nat)) = sgC q' := by
  apply Array.ext_getElem?
  intro i
  rw [Array.getElem?_setIfInBounds]
  by_cases e : j = i
  · subst e
    rw [if_pos rfl, if_pos (by simpa [sgC] using hj), sgC_at q' hj]
  · rw [if_neg e]
    by_cases hi : i < 9
    · rw [sgC_at q hi, sgC_at q' hi, h i, if_neg (fun x => e x.symm)]
    · rw [sgC_none q hi, sgC_none q' hi]
theorem Try.info_sig : (Try.prog.info? 159).map (·.size) = some 9 := by kernel_rfl
theorem results_sig {fn : Func} {p : Tmp} (h : fn.results = #[.cell p 159]) {tmps : Array Value} {b : Nat} {arr : Array Value} {w : World} (hp : tmps.getD p undef = .pointer (some ⟨b, 0, none⟩)) (hc : w.heap[b]? = some (.cells arr 159 (0, 0))) (hs : arr.size = 9) :
    (results fn tmps).run Try.prog w = .ok (.agg arr) w :=
  results_cell_row h tmps w b 159 arr (0, 0) _ hp hc Try.underlying159 rfl (by rw [Try.info_sig, hs])
theorem sig_done {w0 w1 : World} {base b : Nat} {z : Nat → Nat} {x0 x1 x2 x3 x4 x5 x6 x7 x8 : Value} (h : w1.heap[b]? = some (.cells (sgC z) 159 (0, 0))) (hB : Below base w0 w1) (hb : base ≤ b) :
    (((((((((w1.setCell ⟨b, 0, none⟩ x0).setCell ⟨b, 1, none⟩ x1).setCell ⟨b, 2, none⟩ x2).setCell ⟨b, 3, none⟩ x3).setCell ⟨b, 4, none⟩ x4).setCell ⟨b, 5, none⟩ x5).setCell ⟨b, 6, none⟩ x6).setCell ⟨b, 7, none⟩ x7).setCell ⟨b, 8, none⟩ x8).heap[b]? = some (.cells #[x0, x1, x2, x3, x4, x5, x6, x7, x8] 159 (0, 0)) ∧
    Below base w0 (((((((((w1.setCell ⟨b, 0, none⟩ x0).setCell ⟨b, 1, none⟩ x1).setCell ⟨b, 2, none⟩ x2).setCell ⟨b, 3, none⟩ x3).setCell ⟨b, 4, none⟩ x4).setCell ⟨b, 5, none⟩ x5).setCell ⟨b, 6, none⟩ x6).setCell ⟨b, 7, none⟩ x7).setCell ⟨b, 8, none⟩ x8) := by
  refine ⟨?_, ?_⟩
  · have h0 : (w1.setCell ⟨b, 0, none⟩ x0).heap[b]? = some (.cells #[x0, (.int .u16 (z 1 : Nat)), (.int .u16 (z 2 : Nat)), (.int .u16 (z 3 : Nat)), (.int .u16 (z 4 : Nat)), (.int .u16 (z 5 : Nat)), (.int .u16 (z 6 : Nat)), (.int .u16 (z 7 : Nat)), (.int .u16 (z 8 : Nat))] 159 (0, 0)) := by rw [heap_set h]; rfl
    have h1 : ((w1.setCell ⟨b, 0, none⟩ x0).setCell ⟨b, 1, none⟩ x1).heap[b]? = some (.cells #[x0, x1, (.int .u16 (z 2 : Nat)), (.int .u16 (z 3 : Nat)), (.int .u16 (z 4 : Nat)), (.int .u16 (z 5 : Nat)), (.int .u16 (z 6 : Nat)), (.int .u16 (z 7 : Nat)), (.int .u16 (z 8 : Nat))] 159 (0, 0)) := by rw [heap_set h0]; rfl
    have h2 : (((w1.setCell ⟨b, 0, none⟩ x0).setCell ⟨b, 1, none⟩ x1).setCell ⟨b, 2, none⟩ x2).heap[b]? = some (.cells #[x0, x1, x2, (.int .u16 (z 3 : Nat)), (.int .u16 (z 4 : Nat)), (.int .u16 (z 5 : Nat)), (.int .u16 (z 6 : Nat)), (.int .u16 (z 7 : Nat)), (.int .u16 (z 8 : Nat))] 159 (0, 0)) := by rw [heap_set h1]; rfl
    have h3 : ((((w1.setCell ⟨b, 0, none⟩ x0).setCell ⟨b, 1, none⟩ x1).setCell ⟨b, 2, none⟩ x2).setCell ⟨b, 3, none⟩ x3).heap[b]? = some (.cells #[x0, x1, x2, x3, (.int .u16 (z 4 : Nat)), (.int .u16 (z 5 : Nat)), (.int .u16 (z 6 : Nat)), (.int .u16 (z 7 : Nat)), (.int .u16 (z 8 : Nat))] 159 (0, 0)) := by rw [heap_set h2]; rfl
    have h4 : (((((w1.setCell ⟨b, 0, none⟩ x0).setCell ⟨b, 1, none⟩ x1).setCell ⟨b, 2, none⟩ x2).setCell ⟨b, 3, none⟩ x3).setCell ⟨b, 4, none⟩ x4).heap[b]? = some (.cells #[x0, x1, x2, x3, x4, (.int .u16 (z 5 : Nat)), (.int .u16 (z 6 : Nat)), (.int .u16 (z 7 : Nat)), (.int .u16 (z 8 : Nat))] 159 (0, 0)) := by rw [heap_set h3]; rfl
    have h5 : ((((((w1.setCell ⟨b, 0, none⟩ x0).setCell ⟨b, 1, none⟩ x1).setCell ⟨b, 2, none⟩ x2).setCell ⟨b, 3, none⟩ x3).setCell ⟨b, 4, none⟩ x4).setCell ⟨b, 5, none⟩ x5).heap[b]? = some (.cells #[x0, x1, x2, x3, x4, x5, (.int .u16 (z 6 : Nat)), (.int .u16 (z 7 : Nat)), (.int .u16 (z 8 : Nat))] 159 (0, 0)) := by rw [heap_set h4]; rfl
    have h6 : (((((((w1.setCell ⟨b, 0, none⟩ x0).setCell ⟨b, 1, none⟩ x1).setCell ⟨b, 2, none⟩ x2).setCell ⟨b, 3, none⟩ x3).setCell ⟨b, 4, none⟩ x4).setCell ⟨b, 5, none⟩ x5).setCell ⟨b, 6, none⟩ x6).heap[b]? = some (.cells #[x0, x1, x2, x3, x4, x5, x6, (.int .u16 (z 7 : Nat)), (.int .u16 (z 8 : Nat))] 159 (0, 0)) := by rw [heap_set h5]; rfl
    have h7 : ((((((((w1.setCell ⟨b, 0, none⟩ x0).setCell ⟨b, 1, none⟩ x1).setCell ⟨b, 2, none⟩ x2).setCell ⟨b, 3, none⟩ x3).setCell ⟨b, 4, none⟩ x4).setCell ⟨b, 5, none⟩ x5).setCell ⟨b, 6, none⟩ x6).setCell ⟨b, 7, none⟩ x7).heap[b]? = some (.cells #[x0, x1, x2, x3, x4, x5, x6, x7, (.int .u16 (z 8 : Nat))] 159 (0, 0)) := by rw [heap_set h6]; rfl
    have h8 : (((((((((w1.setCell ⟨b, 0, none⟩ x0).setCell ⟨b, 1, none⟩ x1).setCell ⟨b, 2, none⟩ x2).setCell ⟨b, 3, none⟩ x3).setCell ⟨b, 4, none⟩ x4).setCell ⟨b, 5, none⟩ x5).setCell ⟨b, 6, none⟩ x6).setCell ⟨b, 7, none⟩ x7).setCell ⟨b, 8, none⟩ x8).heap[b]? = some (.cells #[x0, x1, x2, x3, x4, x5, x6, x7, x8] 159 (0, 0)) := by rw [heap_set h7]; rfl
    exact h8
  · have f : ∀ (y : World) (j : Nat) (x : Value), Below base w0 y → Below base w0 (y.setCell ⟨b, j, none⟩ x) := fun y j x hy => hy.setCell (p := ⟨b, j, none⟩) hb _
    exact f _ _ _ (f _ _ _ (f _ _ _ (f _ _ _ (f _ _ _ (f _ _ _ (f _ _ _ (f _ _ _ (f _ _ _ hB))))))))

set_option maxHeartbeats 2000000 in
set_option maxRecDepth 100000 in
theorem mstep_any (v : Value) (A : Aut) (w : World) (h : AR w v A) (G : Good A) (s c : Nat) (hs : s < A.ac.length) (hc : (c : Int) < A.k) :
    Calls Try.prog 49 #[v, .int .i64 s, .int .i64 c] w fun e w' => e = .returned (.int .i64 (dN A s c)) ∧ Below w.heap.size w w' := by
  obtain ⟨an, cn, aa, ca, rfl, h1, h2⟩ := h.is
  obtain ⟨g1, g2, g3⟩ := G.at hs hc
  obtain ⟨g, o, rfl, hg, hcell⟩ := h1.int g1
  rw [g2] at hcell
  obtain ⟨D, hD⟩ : ∃ D, dN A s c = D := ⟨_, rfl⟩
  rw [hD] at hcell ⊢
  have hk1 := G.k1
  have hk8 := G.k8
  have hn2 := G.n2
  have hsI : (s : Int) ≤ 4095 := by omega
  have hp : (s : Int) * A.k = ((s * A.k.toNat : Nat) : Int) := by rw [Int.natCast_mul]; congr 1; omega
  have hq : s * A.k.toNat ≤ 4095 * 8 := Nat.mul_le_mul (by omega) (by omega)
  obtain ⟨p, hpp⟩ : ∃ p, s * A.k.toNat = p := ⟨_, rfl⟩
  rw [hpp] at hp hq hcell g1
  have hw1 : IntKind.i64.wrap ((s : Int) * A.k) = (p : Int) := by rw [hp, IntKind.wrap_i64]; omega
  have hw2 : IntKind.i64.wrap ((p : Int) + c) = ((p + c : Nat) : Int) := by rw [IntKind.wrap_i64]; omega
  have hgl : ((p + c : Nat) : Int) < A.nx.length := by omega
  have hcell' : (w.alloc (.cells #[.int .i64 A.k, .slice (some ⟨g, o, none⟩) A.nx.length cn, .slice aa A.ac.length ca] 25)).cell? ⟨g, o + (p + c), none⟩ = some (.int .i64 (D : Int)) := by rw [below_cellJ (below_new _ _) hg]; exact hcell
  obtain ⟨q, hqq⟩ : ∃ q, p + c = q := ⟨_, rfl⟩
  rw [hqq] at hw2 hgl hcell'
  obtain ⟨k, nx, ac⟩ := A
  simp only at hw1 hgl hcell' ⊢
  clear h h1 h2 g1 g2 g3 G hcell hD hp hq hpp hqq hs hc hk1 hk8 hn2 hsI
  go_enter Try.func49, Try.ntmps49
  go_wp2_with fail
  go_ret
  exact ⟨rfl, below_new _ _⟩
set_option maxHeartbeats 4000000 in
set_option maxRecDepth 100000 in
theorem signed_any (v : Value) (A : Aut) (w : World) (h : AR w v A) (G : Good A) (a : Option Addr) (cap : Nat) (l : List Nat) (hL : SR w a (nC l)) (hn : l.length = A.ac.length) (hl : ∀ s, s < l.length → l.getD s 0 < l.length) (s : Nat) (hs : s < A.ac.length) :
    Calls Try.prog 82 #[v, .slice a l.length cap, .int .i64 s] w fun e w' => e = .returned (sgV (sq A l s A.k.toNat)) ∧ Below w.heap.size w w' := by
  obtain ⟨an, cn, aa, ca, e, h1, h2⟩ := h.is
  have hn2 := G.n2
  obtain ⟨g0, o0, rfl, hg0, hc0⟩ := hL.nat (i := s) (by omega)
  have HAR : Hid (∀ y, Below w.heap.size w y → AR y v A) := fun y hy => h.stay hy
  have CL : Hid (∀ y i, Below w.heap.size w y → i < l.length → y.cell? ⟨g0, o0 + i, none⟩ = some (.int .i64 (l.getD i 0 : Nat))) := fun y i hy hi => by
    obtain ⟨g', o', e', _, hc'⟩ := (hL.stay hy).nat hi
    simp only [Option.some.injEq, Addr.mk.injEq] at e'
    obtain ⟨rfl, rfl, _⟩ := e'
    exact hc'
  have HG : Hid (Good A) := G
  have HL : Hid (∀ s, s < l.length → l.getD s 0 < l.length) := hl
  have HN : Hid (l.length = A.ac.length) := hn
  have hsl : (s : Int) < l.length := by omega
  have hx := hl s (by omega)
  obtain ⟨x, hxe⟩ : ∃ x, l.getD s 0 = x := ⟨_, rfl⟩
  rw [hxe] at hc0 hx
  have hw0 : IntKind.u16.wrap (x : Int) = (x : Int) := by rw [IntKind.wrap_u16]; omega
  have hcx := (below_cellJ (o := o0 + s) (below_new w (.cells #[.int .i64 A.k, .slice an A.nx.length cn, .slice aa A.ac.length ca] 25)) hg0).trans hc0
  subst e
  clear h h1 h2 G hl hL hn
  go_enter Try.func82, Try.ntmps82
  go_wp2_with fail
  obtain ⟨K, hK⟩ : ∃ K : Nat, A.k.toNat = K := ⟨_, rfl⟩
  have HK : Hid (A.k = (K : Int) ∧ 1 ≤ K ∧ K ≤ 8 ∧ A.k.toNat = K) := ⟨by have := HG.out.kn; omega, by have := HG.out.kn; omega, by have := HG.out.kn; omega, hK⟩
  have hX : sgC (sq A l s 0) = #[.int .u16 (x : Int), .int .u16 0, .int .u16 0, .int .u16 0, .int .u16 0, .int .u16 0, .int .u16 0, .int .u16 0, .int .u16 0] := by
    unfold sgC
    rw [sq_zero A l s (show 0 < 1 by decide), sq_zero A l s (show 0 < 2 by decide), sq_zero A l s (show 0 < 3 by decide), sq_zero A l s (show 0 < 4 by decide), sq_zero A l s (show 0 < 5 by decide), sq_zero A l s (show 0 < 6 by decide), sq_zero A l s (show 0 < 7 by decide), sq_zero A l s (show 0 < 8 by decide)]
    rw [show sq A l s 0 0 = x by unfold sq; rw [if_pos rfl, hxe]]
    rfl
  have hst : ∃ i : Nat, i = 0 ∧ RowAt (((w.alloc (.cells #[.int .i64 A.k, .slice an A.nx.length cn, .slice aa A.ac.length ca] 25)).alloc (.cells #[.int .u16 0, .int .u16 0, .int .u16 0, .int .u16 0, .int .u16 0, .int .u16 0, .int .u16 0, .int .u16 0, .int .u16 0] 159)).alloc (.cells #[.int .u16 (x : Int), .int .u16 0, .int .u16 0, .int .u16 0, .int .u16 0, .int .u16 0, .int .u16 0, .int .u16 0, .int .u16 0] 159)) w.heap.size #[.int .i64 A.k, .slice an A.nx.length cn, .slice aa A.ac.length ca] ∧ (((w.alloc (.cells #[.int .i64 A.k, .slice an A.nx.length cn, .slice aa A.ac.length ca] 25)).alloc (.cells #[.int .u16 0, .int .u16 0, .int .u16 0, .int .u16 0, .int .u16 0, .int .u16 0, .int .u16 0, .int .u16 0, .int .u16 0] 159)).alloc (.cells #[.int .u16 (x : Int), .int .u16 0, .int .u16 0, .int .u16 0, .int .u16 0, .int .u16 0, .int .u16 0, .int .u16 0, .int .u16 0] 159)).heap[w.heap.size + 1]? = some (.cells (sgC fun _ => 0) 159 (0, 0)) ∧ (((w.alloc (.cells #[.int .i64 A.k, .slice an A.nx.length cn, .slice aa A.ac.length ca] 25)).alloc (.cells #[.int .u16 0, .int .u16 0, .int .u16 0, .int .u16 0, .int .u16 0, .int .u16 0, .int .u16 0, .int .u16 0, .int .u16 0] 159)).alloc (.cells #[.int .u16 (x : Int), .int .u16 0, .int .u16 0, .int .u16 0, .int .u16 0, .int .u16 0, .int .u16 0, .int .u16 0, .int .u16 0] 159)).heap[w.heap.size + 2]? = some (.cells (sgC (sq A l s i)) 159 (0, 0)) ∧ Below w.heap.size w (((w.alloc (.cells #[.int .i64 A.k, .slice an A.nx.length cn, .slice aa A.ac.length ca] 25)).alloc (.cells #[.int .u16 0, .int .u16 0, .int .u16 0, .int .u16 0, .int .u16 0, .int .u16 0, .int .u16 0, .int .u16 0, .int .u16 0] 159)).alloc (.cells #[.int .u16 (x : Int), .int .u16 0, .int .u16 0, .int .u16 0, .int .u16 0, .int .u16 0, .int .u16 0, .int .u16 0, .int .u16 0] 159)) := by
    refine ⟨0, rfl, ((RowAt.last _ _ _).alloc _).alloc _, ?_, ?_, go_on (go_on (below_new _ _) (below_new _ _)) (below_new _ _)⟩
    · have := heap_alloc_last (w.alloc (.cells #[.int .i64 A.k, .slice an A.nx.length cn, .slice aa A.ac.length ca] 25)) (.cells #[.int .u16 0, .int .u16 0, .int .u16 0, .int .u16 0, .int .u16 0, .int .u16 0, .int .u16 0, .int .u16 0, .int .u16 0] 159)
      rw [World.size_alloc] at this
      exact ((below_new _ _).block _ (by simp)).trans this
    · have := heap_alloc_last ((w.alloc (.cells #[.int .i64 A.k, .slice an A.nx.length cn, .slice aa A.ac.length ca] 25)).alloc (.cells #[.int .u16 0, .int .u16 0, .int .u16 0, .int .u16 0, .int .u16 0, .int .u16 0, .int .u16 0, .int .u16 0, .int .u16 0] 159)) (.cells #[.int .u16 (x : Int), .int .u16 0, .int .u16 0, .int .u16 0, .int .u16 0, .int .u16 0, .int .u16 0, .int .u16 0, .int .u16 0] 159)
      rw [World.size_alloc, World.size_alloc] at this
      rw [hX]
      exact this
  have HST : Hid _ := hst
  clear hst hX hK hxe hcx hc0 hw0
  go_loopw [17] (fun vi wr => ∃ i : Nat, vi = .int .i64 i ∧ i ≤ K ∧ RowAt wr w.heap.size #[.int .i64 A.k, .slice an A.nx.length cn, .slice aa A.ac.length ca] ∧ wr.heap[w.heap.size + 1]? = some (.cells (sgC fun _ => 0) 159 (0, 0)) ∧ wr.heap[w.heap.size + 2]? = some (.cells (sgC (sq A l s i)) 159 (0, 0)) ∧ Below w.heap.size w wr) (fun vi _ => K - (intOf vi).toNat)
  case atStart =>
    obtain ⟨i, rfl, q1, q2, q3, q4⟩ := HST.out
    exact ⟨0, rfl, Nat.zero_le _, q1, q2, q3, q4⟩
  case round =>
    clear HST
    obtain ⟨i, rfl, hiK, q1, q2, q3, q4⟩ := hrel
    have cs := q1.cell
    by_cases hlt : i < K
    · have hiI : (i : Int) < A.k := by have := HK.out.1; omega
      have hi8 : i < 8 := by have := HK.out.2.2.1; omega
      have hi8I : (i : Int) < 8 := by omega
      have HB : Hid (Below w.heap.size w wr) := q4
      have H1 : Hid (wr.heap[w.heap.size + 1]? = some (.cells (sgC fun _ => 0) 159 (0, 0))) := q2
      have H2 : Hid (wr.heap[w.heap.size + 2]? = some (.cells (sgC (sq A l s i)) 159 (0, 0))) := q3
      have HQ1 : Hid (RowAt wr w.heap.size #[.int .i64 A.k, .slice an A.nx.length cn, .slice aa A.ac.length ca]) := q1
      clear q1 q2 q3 q4
      go_wp2_with fail
      refine (mstep_any _ A _ (HAR.out _ HB.out) HG.out s i hs hiI).mono ?_
      rintro e w1 ⟨rfl, hb1⟩
      have hdl := (HG.out.at hs hiI).2.2
      obtain ⟨D, hD⟩ : ∃ D, dN A s i = D := ⟨_, rfl⟩
      rw [hD] at hdl ⊢
      have hDl : D < l.length := by rw [HN.out]; exact hdl
      have hDI : (D : Int) < l.length := by omega
      have hcell := CL.out w1 D (go_on HB.out hb1) hDl
      have hyl := HL.out D hDl
      obtain ⟨y, hye⟩ : ∃ y, l.getD D 0 = y := ⟨_, rfl⟩
      rw [hye] at hcell hyl
      have hwy : IntKind.u16.wrap (y : Int) = (y : Int) := by have := HN.out; rw [IntKind.wrap_u16]; omega
      have p1 := (hb1.block _ (Array.getElem?_eq_some_iff.1 H1.out).1).trans H1.out
      have p2 := (hb1.block _ (Array.getElem?_eq_some_iff.1 H2.out).1).trans H2.out
      have hcl : w1.cell? ⟨w.heap.size + 2, 1 + i, none⟩ = some (.int .u16 (sq A l s i (1 + i) : Nat)) := (cell_of p2).trans (sgC_at _ (by omega))
      have hfz : w1.frozen? ⟨w.heap.size + 2, 1 + i, none⟩ = false := froz_of p2
      have HN1 : Hid (RowAt (w1.setCell ⟨w.heap.size + 2, 1 + i, none⟩ (.int .u16 (y : Int))) w.heap.size #[.int .i64 A.k, .slice an A.nx.length cn, .slice aa A.ac.length ca]) := by
        have := HQ1.out.stay hb1
        refine ⟨by simp [World.setCell]; exact this.lt, fun o => ?_⟩
        rw [World.cell?_of_block (heap_set_other (show w.heap.size ≠ w.heap.size + 2 by omega))]
        exact this.cell o
      have HN2 : Hid ((w1.setCell ⟨w.heap.size + 2, 1 + i, none⟩ (.int .u16 (y : Int))).heap[w.heap.size + 1]? = some (.cells (sgC fun _ => 0) 159 (0, 0))) := by
        show (w1.setCell ⟨w.heap.size + 2, 1 + i, none⟩ (.int .u16 (y : Int))).heap[w.heap.size + 1]? = _
        rw [heap_set_other (by omega)]; exact p1
      have HN3 : Hid ((w1.setCell ⟨w.heap.size + 2, 1 + i, none⟩ (.int .u16 (y : Int))).heap[w.heap.size + 2]? = some (.cells (sgC (sq A l s (i + 1))) 159 (0, 0))) := by
        show (w1.setCell ⟨w.heap.size + 2, 1 + i, none⟩ (.int .u16 (y : Int))).heap[w.heap.size + 2]? = _
        rw [heap_set p2]
        have e1 : sq A l s (i + 1) (1 + i) = y := by rw [sq_next, if_pos (by omega), hD, hye]
        have e2 := sgC_set (q := sq A l s i) (q' := sq A l s (i + 1)) (j := 1 + i) (fun z => by rw [e1, sq_next, hD, hye, Nat.add_comm 1 i]) (by omega)
        rw [e1] at e2
        rw [e2]
      have HN4 : Hid (Below w.heap.size w (w1.setCell ⟨w.heap.size + 2, 1 + i, none⟩ (.int .u16 (y : Int)))) := (go_on HB.out hb1).setCell (p := ⟨w.heap.size + 2, 1 + i, none⟩) (by show _ ≤ w.heap.size + 2; omega) _
      clear p1 p2 hb1 hye hD cs
      go_wp2_with fail
      go_roundw
      case rel => exact ⟨i + 1, by go_num, by omega, HN1.out, HN2.out, HN3.out, HN4.out⟩
      case measure => simp [intOf]; omega
    · have hiI : ¬ (i : Int) < A.k := by have := HK.out.1; omega
      have e : i = A.k.toNat := by have := HK.out.2.2.2; omega
      rw [e] at q3
      have ho : ∀ j, wr.cell? ⟨w.heap.size + 2, j, none⟩ = (sgC (sq A l s A.k.toNat))[j]? := fun j => cell_of q3
      have hr : ∀ j, wr.cell? ⟨w.heap.size + 1, j, none⟩ = (sgC fun _ => 0)[j]? := fun j => cell_of q2
      have hf : ∀ j, wr.frozen? ⟨w.heap.size + 1, j, none⟩ = false := fun j => froz_of q2
      obtain ⟨f1, f2⟩ := sig_done (x0 := .int .u16 (sq A l s A.k.toNat 0 : Nat)) (x1 := .int .u16 (sq A l s A.k.toNat 1 : Nat)) (x2 := .int .u16 (sq A l s A.k.toNat 2 : Nat)) (x3 := .int .u16 (sq A l s A.k.toNat 3 : Nat)) (x4 := .int .u16 (sq A l s A.k.toNat 4 : Nat)) (x5 := .int .u16 (sq A l s A.k.toNat 5 : Nat)) (x6 := .int .u16 (sq A l s A.k.toNat 6 : Nat)) (x7 := .int .u16 (sq A l s A.k.toNat 7 : Nat)) (x8 := .int .u16 (sq A l s A.k.toNat 8 : Nat)) q2 q4 (by omega)
      have F1 : Hid _ := f1
      have F2 : Hid _ := f2
      obtain ⟨Q, hQ⟩ : ∃ Q : Nat → Nat, sq A l s A.k.toNat = Q := ⟨_, rfl⟩
      have HQ : Hid (sq A l s A.k.toNat = Q) := hQ
      rw [hQ] at ho F1 F2
      clear f1 f2 q1 q2 q3 q4 e hQ
      go_wp2_with fail
      exact bodyPost_ret (results_sig rfl rfl F1.out rfl) rfl ⟨by rw [HQ.out], F2.out⟩
end Go.Proofs.Ythmnoepjkobcmab
