/- The document's round. -/
import Derived.Test.YthjenemmhlljfaaMr
import Derived.Test.YthjenemmhlljfaaMf
namespace Go.Proofs.Ythjenemmhlljfaa
open Go Go.RowKit Go.Lib
set_option linter.unusedVariables false
attribute [-instance] instBEqProd

/-- The least states of the classes so far. -/
def lt (A : Aut) (l : List Nat) (s : Nat) : List Nat := (List.range s).filter fun t => fi A l t = t
theorem lt_mem {A : Aut} {l : List Nat} {s t : Nat} : t ∈ lt A l s ↔ t < s ∧ fi A l t = t := by unfold lt; simp
theorem lt_succ (A : Aut) (l : List Nat) (s : Nat) : lt A l (s + 1) = lt A l s ++ if fi A l s = s then [s] else [] := by
  unfold lt
  rw [List.range_succ, List.filter_append]
  congr 1
  by_cases h : fi A l s = s
  · rw [if_pos h]; simp [h]
  · rw [if_neg h]; simp [h]
theorem lt_len (A : Aut) (l : List Nat) (s : Nat) : (lt A l s).length ≤ s := by
  unfold lt
  have := List.length_filter_le (fun t => decide (fi A l t = t)) (List.range s)
  simpa using this
theorem lt_hit {A : Aut} {l : List Nat} {s t : Nat} (hs : s < A.ac.length) (ht : t ∈ lt A l s) (e : sg A l t = sg A l s) : fi A l s = t ∧ t < s := by
  obtain ⟨h1, h2⟩ := lt_mem.1 ht
  exact ⟨by rw [← fi_same e]; exact h2, h1⟩
theorem lt_miss {A : Aut} {l : List Nat} {s : Nat} (hs : s < A.ac.length) (h : ∀ t ∈ lt A l s, sg A l t ≠ sg A l s) : fi A l s = s := by
  obtain ⟨h1, h2, _⟩ := fi_facts (A := A) (l := l) hs
  apply Classical.byContradiction
  intro q
  exact h _ (lt_mem.2 ⟨by omega, fi_fi hs⟩) h2

/-- What lies in memory while a round goes on. -/
structure RD (w : World) (arr : Array Value) (N : Nat) (vl : Value) (r L : List Value) (wr : World) : Prop where
  box : RowAt wr w.heap.size arr
  out : wr.ownsRow w.heap.size 3 1 (.slice (some ⟨w.heap.size + 1, 0, none⟩) N N) N r
  lst : wr.ownsRow (w.heap.size + 2) 3 1 vl L.length L
  below : Below w.heap.size w wr
  big : w.heap.size + 2 ≤ wr.heap.size
theorem RD.call {w : World} {arr : Array Value} {N : Nat} {vl : Value} {r L : List Value} {wr w2 : World} (h : RD w arr N vl r L wr) (hb : Below wr.heap.size wr w2) : RD w arr N vl r L w2 :=
  ⟨h.box.stay hb, own_below h.out hb, own_below h.lst hb, go_on h.below hb, Nat.le_trans h.big hb.size⟩
theorem RD.set {w : World} {arr : Array Value} {N : Nat} {vl : Value} {r L : List Value} {wr : World} (h : RD w arr N vl r L wr) (j : Nat) (x : Value) : RD w arr N vl (r.set j x) L (wr.setCell ⟨w.heap.size + 1, j, none⟩ x) := by
  refine ⟨⟨by simp [World.setCell]; exact h.box.lt, fun o => ?_⟩, (h.out.stored j x).1, own_keep h.lst (fun b cur hb _ => heap_set_other ?_), h.below.setCell (p := ⟨w.heap.size + 1, j, none⟩) (by show _ ≤ w.heap.size + 1; omega) _, by simpa [World.setCell] using h.big⟩
  · rw [World.cell?_of_block (heap_set_other (show w.heap.size ≠ w.heap.size + 1 by omega))]
    exact h.box.cell o
  · have := (own_blk h.lst hb).1
    omega
theorem RD.app {w : World} {arr : Array Value} {N : Nat} {vl vl' : Value} {r L : List Value} {wr w2 : World} {o : Obj} {x : Value} (h : RD w arr N vl r L wr) (hg : (wr.alloc o).grownBy w2 vl.ownBlock) (ho : w2.ownsRow (w.heap.size + 2) 3 1 vl' (L.length + 1) (L ++ [x])) : RD w arr N vl' r (L ++ [x]) w2 := by
  have hbig := h.big
  have k : ∀ b, b < w.heap.size + 2 → w2.heap[b]? = wr.heap[b]? := fun b hb => by
    rw [hg.block b (by simp; omega) (fun e => by have := (own_blk h.lst e.symm).1; omega)]
    exact (below_new wr o).block b (by omega)
  refine ⟨⟨Nat.lt_of_lt_of_le (show w.heap.size < (wr.alloc o).heap.size by simp; omega) hg.size, fun j => ?_⟩, own_keep h.out (fun b cur hb _ => ?_), by simpa using ho, (h.below.alloc h.below.size o).grown hg (by have := h.below.size; simp; omega) (fun b hb => by have := (own_blk h.lst hb).1; omega), Nat.le_trans (show w.heap.size + 2 ≤ (wr.alloc o).heap.size by simp; omega) hg.size⟩
  · rw [World.cell?_of_block (k w.heap.size (by omega))]
    exact h.box.cell j
  · simp only [Value.ownBlock, Option.some.injEq] at hb
    exact k b (by omega)

set_option maxHeartbeats 4000000 in
set_option maxRecDepth 100000 in
theorem rround_any (v : Value) (A : Aut) (w : World) (h : AR w v A) (G : Good A) (a : Option Addr) (cap : Nat) (l : List Nat) (hL : SR w a (nC l)) (hn : l.length = A.ac.length) :
    Calls Try.prog 35 #[v, .slice a A.ac.length cap] w fun e w' => ∃ g, e = .returned (.slice (some ⟨g, 0, none⟩) A.ac.length A.ac.length) ∧ w'.ownsRow w.heap.size 3 1 (.slice (some ⟨g, 0, none⟩) A.ac.length A.ac.length) A.ac.length (nC (lst (sg A l) A.ac.length)) ∧ Below w.heap.size w w' := by
  obtain ⟨an, cn, aa, ca, e, h1, h2⟩ := h.is
  obtain ⟨i0, hi, hz0, hz1, hz2⟩ := info_parts Try.info_int
  have hn1 := G.n1
  have hn2 := G.n2
  have hmk := fun w0 => run_make (P := Try.prog) w0 22 3 i0 (.int .i64 0) Try.underlying22 hi hz0 .i64 .i64 (A.ac.length : Int) (A.ac.length : Int) (by omega) (by omega) (by rw [hz2]; omega) (by omega)
  rw [hz1] at hmk
  simp only [Nat.mul_one] at hmk
  have HAL : Hid (∀ y s t, Below w.heap.size w y → s < A.ac.length → t < A.ac.length → Calls Try.prog 53 #[v, .slice a A.ac.length cap, .int .i64 (s : Nat), .int .i64 (t : Nat)] y fun e w' => e = .returned (.bool (decide (sg A l s = sg A l t))) ∧ Below y.heap.size y w') := fun y s t hy hs ht => alike_any v A y (h.stay hy) G a cap l (hL.stay hy) hn s t hs ht
  subst e
  clear h h1 h2 G hL hn
  go_enter Try.func35, Try.ntmps35
  go_wp2_with fail
  have HO0 : Hid (RD w #[.int .i64 A.k, .slice an A.nx.length cn, .slice aa A.ac.length ca] A.ac.length (.slice none 0 0) (nC (filN (fi A l) A.ac.length 0)) (nC (lt A l 0)) ((w.alloc (.cells #[.int .i64 A.k, .slice an A.nx.length cn, .slice aa A.ac.length ca] 25)).alloc (.cells (madeCells #[.int .i64 0] A.ac.length) 3))) := by
    have q := made_row (w.alloc (.cells #[.int .i64 A.k, .slice an A.nx.length cn, .slice aa A.ac.length ca] 25)) (fi A l) (n := A.ac.length) (base := w.heap.size) (by omega) (by simp)
    rw [World.size_alloc] at q
    exact ⟨(RowAt.last _ _ _).alloc _, q, World.ownsRow_nil _ _ _ _, go_on (below_new _ _) (below_new _ _), by simp⟩
  clear hmk
  go_loopw [7, 6] (fun vs vl wr => ∃ s : Nat, vs = .int .i64 s ∧ s ≤ A.ac.length ∧ RD w #[.int .i64 A.k, .slice an A.nx.length cn, .slice aa A.ac.length ca] A.ac.length vl (nC (filN (fi A l) A.ac.length s)) (nC (lt A l s)) wr) (fun vs _ _ => A.ac.length - (intOf vs).toNat)
  case atStart => exact ⟨0, rfl, Nat.zero_le _, HO0.out⟩
  case round =>
    clear HO0
    obtain ⟨s, rfl, hsn, hO⟩ := hrel
    obtain ⟨av, cv, hvl⟩ := own_shape hO.lst
    rw [nC_len] at hvl
    subst hvl
    have hll := lt_len A l s
    by_cases hs : s < A.ac.length
    · have hsI : (s : Int) < A.ac.length := by omega
      have hfz : wr.frozen? ⟨w.heap.size + 1, s, none⟩ = false := hO.out.frozenAt s
      have hcl : wr.cell? ⟨w.heap.size + 1, s, none⟩ = some (.int .i64 0) := (hO.out.cellAt s (by omega)).trans (filN_cell _ hs)
      have HO1 : Hid (RD w #[.int .i64 A.k, .slice an A.nx.length cn, .slice aa A.ac.length ca] A.ac.length (.slice av (lt A l s).length cv) ((nC (filN (fi A l) A.ac.length s)).set s (.int .i64 (s : Int))) (nC (lt A l s)) (wr.setCell ⟨w.heap.size + 1, s, none⟩ (.int .i64 (s : Int)))) := hO.set s (.int .i64 (s : Int))
      clear hO
      go_wp2_with fail
      clear hfz hcl
      go_loopw [8] (fun vi wr => ∃ i : Nat, vi = .int .i64 i ∧ i ≤ (lt A l s).length ∧ (∀ j t, j < i → (lt A l s)[j]? = some t → sg A l t ≠ sg A l s) ∧ RD w #[.int .i64 A.k, .slice an A.nx.length cn, .slice aa A.ac.length ca] A.ac.length (.slice av (lt A l s).length cv) ((nC (filN (fi A l) A.ac.length s)).set s (.int .i64 (s : Int))) (nC (lt A l s)) wr) (fun vi _ => (lt A l s).length - (intOf vi).toNat)
      case atStart => exact ⟨0, rfl, Nat.zero_le _, fun j t hj => by omega, HO1.out⟩
      case round =>
        clear HO1
        obtain ⟨i, rfl, hil, hall, hO⟩ := hrel
        have HALL : Hid (∀ j t, j < i → (lt A l s)[j]? = some t → sg A l t ≠ sg A l s) := hall
        have HO : Hid (RD w #[.int .i64 A.k, .slice an A.nx.length cn, .slice aa A.ac.length ca] A.ac.length (.slice av (lt A l s).length cv) ((nC (filN (fi A l) A.ac.length s)).set s (.int .i64 (s : Int))) (nC (lt A l s)) wr) := hO
        clear hall
        by_cases hi2 : i < (lt A l s).length
        · have hiI : (i : Int) < (lt A l s).length := by omega
          obtain ⟨t, ht⟩ : ∃ t, (lt A l s)[i]? = some t := ⟨_, List.getElem?_eq_getElem hi2⟩
          have htm := List.mem_of_getElem? ht
          have hts := (lt_mem.1 htm).1
          have HT : Hid ((lt A l s)[i]? = some t) := ht
          have HTM : Hid (t ∈ lt A l s) := htm
          obtain ⟨gv, rfl⟩ : ∃ gv, av = some ⟨gv, 0, none⟩ := by
            rcases hO.lst.2 with ⟨_, h0⟩ | ⟨g', cap', cur, hv, _⟩
            · rw [nC_len] at h0; omega
            · simp only [Value.slice.injEq] at hv
              exact ⟨g', hv.1⟩
          have hlr := hO.lst
          rw [nC_len] at hlr
          have hcv : wr.cell? ⟨gv, i, none⟩ = some (.int .i64 (t : Int)) := (hlr.cellAt i (by omega)).trans (by simp [nC, ht])
          have hgv : gv < wr.heap.size := (hlr.lt gv rfl).2
          have hbx := hO.box
          have hbw := hO.below
          have HCA : Hid (∀ y, Below wr.heap.size wr y → Calls Try.prog 53 #[.agg #[.int .i64 A.k, .slice an A.nx.length cn, .slice aa A.ac.length ca], .slice a A.ac.length cap, .int .i64 (t : Int), .int .i64 (s : Int)] y fun e w' => e = .returned (.bool (decide (sg A l t = sg A l s))) ∧ Below y.heap.size y w') := fun y hy => HAL.out y t s (go_on hbw hy) (by omega) hs
          have kk : ∀ y1 y2, Below y1.heap.size y1 y2 → ((∀ j, y1.cell? ⟨w.heap.size, j, none⟩ = (#[.int .i64 A.k, .slice an A.nx.length cn, .slice aa A.ac.length ca] : Array Value)[j]?) ∧ y1.cell? ⟨gv, i, none⟩ = some (.int .i64 (t : Int)) ∧ Below wr.heap.size wr y1) → ((∀ j, y2.cell? ⟨w.heap.size, j, none⟩ = (#[.int .i64 A.k, .slice an A.nx.length cn, .slice aa A.ac.length ca] : Array Value)[j]?) ∧ y2.cell? ⟨gv, i, none⟩ = some (.int .i64 (t : Int)) ∧ Below wr.heap.size wr y2) := fun y1 y2 hy h => by
            have b := go_on h.2.2 hy
            exact ⟨(hbx.stay b).cell, (below_cell b hgv).trans hcv, b⟩
          have KK : Hid _ := kk
          have S0 : (∀ j, wr.drew.cell? ⟨w.heap.size, j, none⟩ = (#[.int .i64 A.k, .slice an A.nx.length cn, .slice aa A.ac.length ca] : Array Value)[j]?) ∧ wr.drew.cell? ⟨gv, i, none⟩ = some (.int .i64 (t : Int)) ∧ Below wr.heap.size wr wr.drew := ⟨hbx.cell, hcv, (Below.refl _ _).drew⟩
          clear kk hlr hbw hO ht htm
          by_cases he : sg A l t = sg A l s
          · have hde : decide (sg A l t = sg A l s) = true := decide_eq_true he
            rw [hde] at HCA
            obtain ⟨hit1, hit2⟩ := lt_hit hs HTM.out he
            have HIT : Hid (fi A l s = t ∧ t < s) := ⟨hit1, hit2⟩
            clear he hde hit1 hbx hcv
            go_wp2_with fail
            go_region_held3 (fun z => (∀ j, z.cell? ⟨w.heap.size, j, none⟩ = (#[.int .i64 A.k, .slice an A.nx.length cn, .slice aa A.ac.length ca] : Array Value)[j]?) ∧ z.cell? ⟨gv, i, none⟩ = some (.int .i64 (t : Int)) ∧ Below wr.heap.size wr z) (first | exact S0 | assumption | exact KK.out _ _ (by assumption) (by assumption)) (first
              | (go_at_call 53; refine (HCA.out _ (And.right (And.right (by assumption)))).mono ?_; rintro e y1 ⟨rfl, hy1⟩))
            all_goals (
              have hbS := (KK.out _ _ hy1 (by assumption)).2.2
              have hO1 := HO.out.call hbS
              have hct := (KK.out _ _ hy1 (by assumption)).2.1
              have hfz : y1.frozen? ⟨w.heap.size + 1, s, none⟩ = false := hO1.out.frozenAt s
              have hcl : y1.cell? ⟨w.heap.size + 1, s, none⟩ = some (.int .i64 (s : Int)) := by rw [hO1.out.cellAt s (by omega)]; simp [nC, filN, hs]
              have hO2 := hO1.set s (.int .i64 (t : Int))
              have hc2 : (y1.setCell ⟨w.heap.size + 1, s, none⟩ (.int .i64 (t : Int))).cell? ⟨w.heap.size + 1, s, none⟩ = some (.int .i64 (t : Int)) := by rw [hO2.out.cellAt s (by omega)]; simp [nC, filN, hs]
              have HN : Hid (RD w #[.int .i64 A.k, .slice an A.nx.length cn, .slice aa A.ac.length ca] A.ac.length (.slice (some ⟨gv, 0, none⟩) (lt A l s).length cv) (nC (filN (fi A l) A.ac.length (s + 1))) (nC (lt A l (s + 1))) (y1.setCell ⟨w.heap.size + 1, s, none⟩ (.int .i64 (t : Int)))) := by
                have q := HIT.out
                rw [lt_succ, if_neg (by omega), List.append_nil, ← filN_set (fi A l) hs, nC_set, q.1]
                rw [List.set_set] at hO2
                exact hO2
              have hne : ¬ (t : Int) = s := by omega
              have hdn : decide ((t : Int) = s) = false := decide_eq_false hne
              clear hbS hO1 hO2 S0 hy1
              go_wp2_with fail
              go_roundw
              case rel => exact ⟨s + 1, by go_num, by omega, HN.out⟩
              case measure => simp [intOf]; omega)
          · have hde : decide (sg A l t = sg A l s) = false := decide_eq_false he
            rw [hde] at HCA
            have HNE : Hid (sg A l t ≠ sg A l s) := he
            clear he hde hbx hcv
            go_wp2_with fail
            go_region_held3 (fun z => (∀ j, z.cell? ⟨w.heap.size, j, none⟩ = (#[.int .i64 A.k, .slice an A.nx.length cn, .slice aa A.ac.length ca] : Array Value)[j]?) ∧ z.cell? ⟨gv, i, none⟩ = some (.int .i64 (t : Int)) ∧ Below wr.heap.size wr z) (first | exact S0 | assumption | exact KK.out _ _ (by assumption) (by assumption)) (first
              | (go_at_call 53; refine (HCA.out _ (And.right (And.right (by assumption)))).mono ?_; rintro e y1 ⟨rfl, hy1⟩))
            all_goals (
              have hbS := (KK.out _ _ hy1 (by assumption)).2.2
              have HN : Hid (RD w #[.int .i64 A.k, .slice an A.nx.length cn, .slice aa A.ac.length ca] A.ac.length (.slice (some ⟨gv, 0, none⟩) (lt A l s).length cv) ((nC (filN (fi A l) A.ac.length s)).set s (.int .i64 (s : Int))) (nC (lt A l s)) y1) := HO.out.call hbS
              clear hbS S0 hy1
              go_wp2_with fail
              go_roundw
              case rel =>
                refine ⟨i + 1, by go_num, by omega, fun j u hj hu => ?_, HN.out⟩
                by_cases e : j = i
                · rw [e, HT.out] at hu
                  cases hu
                  exact HNE.out
                · exact HALL.out j u (by omega) hu
              case measure => simp [intOf]; omega)
        · have hiI : ¬ (i : Int) < (lt A l s).length := by omega
          have hfs : fi A l s = s := lt_miss hs (fun t ht => by
            obtain ⟨j, hj⟩ := List.mem_iff_getElem?.1 ht
            exact HALL.out j t (by have := (List.getElem?_eq_some_iff.1 hj).1; omega) hj)
          have hcl : wr.cell? ⟨w.heap.size + 1, s, none⟩ = some (.int .i64 (s : Int)) := by rw [hO.out.cellAt s (by omega)]; simp [nC, filN, hs]
          have KM : Hid (∀ O, (wr.alloc O).ownsRow (w.heap.size + 2) 3 1 (.slice av (lt A l s).length cv) (lt A l s).length (nC (lt A l s))) := fun O => by have := hO.lst.alloc O; rw [nC_len] at this; exact this
          have hbig := hO.big
          have HFS : Hid (fi A l s = s) := hfs
          clear hO hfs
          go_wp2_with (at_builtin; refine wpList_append_own _ rfl _ _ 22 rfl (w.heap.size + 2) 3 i0 (.int .i64 0) 1 8 Try.underlying22 hi hz0 hz1 hz2 rfl (by decide) _ _ _ rfl (KM.out _) ⟨wr.heap.size, 0, none⟩ 1 1 [(.int .i64 (s : Int))] rfl rfl (cell_one_new _ _ _) (by intro u hu; simp at hu; subst hu; rfl) (by unfold maxLen; omega) (by omega) (by simp; omega) ?_; intro v6 w6 ho6 hg6 _; have hN := HO.out.app (x := (.int .i64 (s : Int))) hg6 (by rw [nC_len]; exact ho6); have HN' : Hid _ := hN; clear hN ho6 hg6)
          go_roundw
          case rel =>
            refine ⟨s + 1, by go_num, by omega, ?_⟩
            rw [lt_succ, if_pos HFS.out, nC_append, ← filN_set (fi A l) hs, nC_set, HFS.out]
            exact HN'.out
          case measure => simp [intOf]; omega
    · have hsI : ¬ (s : Int) < A.ac.length := by omega
      have HQ : Hid (wr.ownsRow w.heap.size 3 1 (.slice (some ⟨w.heap.size + 1, 0, none⟩) A.ac.length A.ac.length) A.ac.length (nC (lst (sg A l) A.ac.length))) := by
        have := hO.out
        rw [show s = A.ac.length by omega, filN_end] at this
        exact this
      have HB : Hid (Below w.heap.size w wr) := hO.below
      clear hO
      go_wp2_with fail
      go_ret
      exact ⟨_, rfl, HQ.out, HB.out⟩
end Go.Proofs.Ythjenemmhlljfaa
