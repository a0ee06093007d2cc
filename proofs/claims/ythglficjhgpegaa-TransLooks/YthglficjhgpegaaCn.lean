/- trans: At; Image and Kernel of what is none. -/
import Derived.Test.YthglficjhgpegaaCh
namespace Go.Proofs.Ythglficjhgpegaa
open Go Go.RowKit Go.Lib
set_option linter.unusedVariables false

set_option maxHeartbeats 2000000 in
set_option maxRecDepth 100000 in
theorem tat_bad (N : Int) (g : Nat → Nat) (hg : W64 g) (h : ¬ okT N g) (i : Int) (w : World) :
    Calls Try.prog 18 #[.agg (trC N g), .int .i64 i] w fun e w' => e = .returned (.tuple #[.int .i64 0, .int .i64 130]) ∧ Below w.heap.size w w' := by
  have H1 : Hid (TrAt (w.alloc (.cells (trC N g) 26)) w.heap.size N g) := heap_last _ _
  have HB0 : Hid (Below w.heap.size w (w.alloc (.cells (trC N g) 26))) := (Below.refl _ _).alloc (Nat.le_refl _) _
  have hz := Try.zero_mv
  have hne := mvC_ne 0 fun _ => 0
  have hsz := mvC_size 0 fun _ => 0
  go_enter Try.func18, Try.ntmps18
  go_wp2_with (refine wpList_load_row rfl 26 _ rfl (w.heap.size) rfl 26 (trC N g) (0, 0) _ (H1.out) Try.underlying26 rfl (rfl) ?_)
  refine (open_bad N g hg h _).mono ?_
  rintro e w1 ⟨rfl, hB1⟩
  have HB1 : Hid (Below w.heap.size w w1) := HB0.out.trans (hB1.mono (by simp))
  clear hB1
  have hst := mvz_st w1
  go_wp2_with fail
  go_ret2
  exact ⟨rfl, HB1.out.alloc HB1.out.size _⟩

/-- What At answers of a transformation. -/
def atV (l : List Nat) (i : Int) : Value := if 0 ≤ i ∧ i < l.length then .tuple #[.int .i64 ((im l i.toNat : Nat) : Int), .int .i64 0] else .tuple #[.int .i64 0, .int .i64 3]
set_option maxHeartbeats 2000000 in
set_option maxRecDepth 100000 in
theorem tat_ok (l : List Nat) (hl : Tf l) (i : Int) (w : World) :
    Calls Try.prog 18 #[.agg (tC l), .int .i64 i] w fun e w' => e = .returned (atV l i) ∧ Below w.heap.size w w' := by
  have H1 : Hid (TL (w.alloc (.cells (tC l) 26)) w.heap.size l) := heap_last _ _
  have HB0 : Hid (Below w.heap.size w (w.alloc (.cells (tC l) 26))) := (Below.refl _ _).alloc (Nat.le_refl _) _
  have hz := Try.zero_mv
  have hne := mvC_ne 0 fun _ => 0
  have hsz := mvC_size 0 fun _ => 0
  have hle := hl.le
  have hlt := hl.lt64
  unfold atV
  by_cases h0 : 0 ≤ i
  · by_cases h1 : i < l.length
    · obtain ⟨k, rfl⟩ : ∃ k : Nat, i = k := ⟨i.toNat, by omega⟩
      rw [if_pos ⟨h0, h1⟩, Int.toNat_natCast]
      have hk64 : (k : Int) < 64 := by omega
      have hd64 := hlt k (by omega)
      have hwd : IntKind.i64.wrap ((im l k : Nat) : Int) = ((im l k : Nat) : Int) := IntWalk.i64_in _ (by omega)
      go_enter Try.func18, Try.ntmps18
      go_wp2_with (refine wl_load rfl rfl (H1.out) rfl ?_)
      refine (open_ok l hl _).mono ?_
      rintro e w1 ⟨rfl, hB1⟩
      have HB1 : Hid (Below w.heap.size w w1) := HB0.out.trans (hB1.mono (by simp))
      clear hB1
      have hst := st_mvNew2 w1 l.length (im l)
      have hszl := mvC_size l.length (im l)
      have hmn := mvC_n' l.length (im l)
      have hc1 := (mv_last w1 l.length (im l)).cell' (i := k) (by omega)
      go_wp2_with fail
      go_ret2
      exact ⟨rfl, HB1.out.alloc HB1.out.size _⟩
    · rw [if_neg (fun h => h1 h.2)]
      go_enter Try.func18, Try.ntmps18
      go_wp2_with (refine wl_load rfl rfl (H1.out) rfl ?_)
      refine (open_ok l hl _).mono ?_
      rintro e w1 ⟨rfl, hB1⟩
      have HB1 : Hid (Below w.heap.size w w1) := HB0.out.trans (hB1.mono (by simp))
      clear hB1
      have hst := st_mvNew2 w1 l.length (im l)
      have hszl := mvC_size l.length (im l)
      have hmn := mvC_n' l.length (im l)
      go_wp2_with fail
      go_ret2
      exact ⟨rfl, HB1.out.alloc HB1.out.size _⟩
  · rw [if_neg (fun h => h0 h.1)]
    go_enter Try.func18, Try.ntmps18
    go_wp2_with (refine wl_load rfl rfl (H1.out) rfl ?_)
    refine (open_ok l hl _).mono ?_
    rintro e w1 ⟨rfl, hB1⟩
    have HB1 : Hid (Below w.heap.size w w1) := HB0.out.trans (hB1.mono (by simp))
    clear hB1
    have hst := st_mvNew2 w1 l.length (im l)
    have hszl := mvC_size l.length (im l)
    have hmn := mvC_n' l.length (im l)
    go_wp2_with fail
    go_ret2
    exact ⟨rfl, HB1.out.alloc HB1.out.size _⟩

set_option maxHeartbeats 2000000 in
set_option maxRecDepth 100000 in
theorem kernel_bad (N : Int) (g : Nat → Nat) (hg : W64 g) (h : ¬ okT N g) (w : World) :
    Calls Try.prog 20 #[.agg (trC N g)] w fun e w' => e = .returned (.tuple #[.slice none 0 0, .int .i64 130]) ∧ Below w.heap.size w w' := by
  have H1 : Hid (TrAt (w.alloc (.cells (trC N g) 26)) w.heap.size N g) := heap_last _ _
  have HB0 : Hid (Below w.heap.size w (w.alloc (.cells (trC N g) 26))) := (Below.refl _ _).alloc (Nat.le_refl _) _
  go_enter Try.func20, Try.ntmps20
  go_wp2_with (refine wpList_load_row rfl 26 _ rfl (w.heap.size) rfl 26 (trC N g) (0, 0) _ (H1.out) Try.underlying26 rfl (rfl) ?_)
  refine (tlist_bad N g hg h _).mono ?_
  rintro e w1 ⟨rfl, hB1⟩
  have HB1 : Hid (Below w.heap.size w w1) := HB0.out.trans (hB1.mono (by simp))
  clear hB1
  go_wp2_with fail
  go_ret2
  exact ⟨rfl, HB1.out⟩

set_option maxHeartbeats 2000000 in
set_option maxRecDepth 100000 in
theorem image_bad (N : Int) (g : Nat → Nat) (hg : W64 g) (h : ¬ okT N g) (w : World) :
    Calls Try.prog 19 #[.agg (trC N g)] w fun e w' => e = .returned (.tuple #[.agg (cellsF (fun _ => 0)), .int .i64 130]) ∧ Below w.heap.size w w' := by
  have H1 : Hid (TrAt ((w.alloc (.cells (trC N g) 26)).alloc (.cells (cellsF (fun _ => 0)) 44)) w.heap.size N g) := (heap_allo (by simp) _).trans (heap_last _ _)
  have HC : Hid (Cells8 ((w.alloc (.cells (trC N g) 26)).alloc (.cells (cellsF (fun _ => 0)) 44)) (w.heap.size + 1) (fun _ => 0)) := by
    have := Cells8.last (w.alloc (.cells (trC N g) 26)) (fun _ => 0)
    rwa [World.size_alloc] at this
  have HB0 : Hid (Below w.heap.size w ((w.alloc (.cells (trC N g) 26)).alloc (.cells (cellsF (fun _ => 0)) 44))) := ((Below.refl _ _).alloc (Nat.le_refl _) _).alloc (by simp) _
  unfold cellsF at H1 HC HB0
  go_enter Try.func19, Try.ntmps19
  go_wp2_with (refine wpList_load_row rfl 26 _ rfl (w.heap.size) rfl 26 (trC N g) (0, 0) _ (H1.out) Try.underlying26 rfl (rfl) ?_)
  refine (tlist_bad N g hg h _).mono ?_
  rintro e w1 ⟨rfl, hB1⟩
  have HB1 : Hid (Below w.heap.size w w1) := HB0.out.trans (hB1.mono (by simp <;> omega))
  have HC1 : Hid (Cells8 w1 (w.heap.size + 1) (fun _ => 0)) := HC.out.of_heap (hB1.block _ (by simp))
  clear hB1
  obtain ⟨c0, c1, c2, c3, c4, c5, c6, c7⟩ := HC1.out.gets
  have f0 := HC1.out.frozen 0
  have f1 := HC1.out.frozen 1
  have f2 := HC1.out.frozen 2
  have f3 := HC1.out.frozen 3
  have f4 := HC1.out.frozen 4
  have f5 := HC1.out.frozen 5
  have f6 := HC1.out.frozen 6
  have f7 := HC1.out.frozen 7
  go_wp2_with fail
  obtain ⟨h8, hB⟩ := st8 HC1.out HB1.out (Nat.le_succ _) (fun _ => 0) rfl rfl rfl rfl rfl rfl rfl rfl
  exact bodyPost_ret (results_set_tmp rfl rfl h8) rfl ⟨rfl, hB⟩

set_option maxHeartbeats 2000000 in
set_option maxRecDepth 100000 in
theorem fixed_bad (N : Int) (g : Nat → Nat) (hg : W64 g) (h : ¬ okT N g) (w : World) :
    Calls Try.prog 51 #[.agg (trC N g)] w fun e w' => e = .returned (.tuple #[.agg (cellsF (fun _ => 0)), .int .i64 130]) ∧ Below w.heap.size w w' := by
  have H1 : Hid (TrAt ((w.alloc (.cells (trC N g) 26)).alloc (.cells (cellsF (fun _ => 0)) 44)) w.heap.size N g) := (heap_allo (by simp) _).trans (heap_last _ _)
  have HC : Hid (Cells8 ((w.alloc (.cells (trC N g) 26)).alloc (.cells (cellsF (fun _ => 0)) 44)) (w.heap.size + 1) (fun _ => 0)) := by
    have := Cells8.last (w.alloc (.cells (trC N g) 26)) (fun _ => 0)
    rwa [World.size_alloc] at this
  have HB0 : Hid (Below w.heap.size w ((w.alloc (.cells (trC N g) 26)).alloc (.cells (cellsF (fun _ => 0)) 44))) := ((Below.refl _ _).alloc (Nat.le_refl _) _).alloc (by simp) _
  unfold cellsF at H1 HC HB0
  go_enter Try.func51, Try.ntmps51
  go_wp2_with (refine wpList_load_row rfl 26 _ rfl (w.heap.size) rfl 26 (trC N g) (0, 0) _ (H1.out) Try.underlying26 rfl (rfl) ?_)
  refine (tlist_bad N g hg h _).mono ?_
  rintro e w1 ⟨rfl, hB1⟩
  have HB1 : Hid (Below w.heap.size w w1) := HB0.out.trans (hB1.mono (by simp <;> omega))
  have HC1 : Hid (Cells8 w1 (w.heap.size + 1) (fun _ => 0)) := HC.out.of_heap (hB1.block _ (by simp))
  clear hB1
  obtain ⟨c0, c1, c2, c3, c4, c5, c6, c7⟩ := HC1.out.gets
  have f0 := HC1.out.frozen 0
  have f1 := HC1.out.frozen 1
  have f2 := HC1.out.frozen 2
  have f3 := HC1.out.frozen 3
  have f4 := HC1.out.frozen 4
  have f5 := HC1.out.frozen 5
  have f6 := HC1.out.frozen 6
  have f7 := HC1.out.frozen 7
  go_wp2_with fail
  obtain ⟨h8, hB⟩ := st8 HC1.out HB1.out (Nat.le_succ _) (fun _ => 0) rfl rfl rfl rfl rfl rfl rfl rfl
  exact bodyPost_ret (results_set_tmp rfl rfl h8) rfl ⟨rfl, hB⟩

/-- The points that stay, among the first k. -/
def fxP (l : List Nat) (k : Nat) : List Nat := (List.range k).filter (fun j => im l j == j)
theorem fxP_yes {l : List Nat} {k : Nat} (h : im l k = k) : fxP l (k + 1) = fxP l k ++ [k] := by simp [fxP, List.range_succ, h]
theorem fxP_no {l : List Nat} {k : Nat} (h : ¬ im l k = k) : fxP l (k + 1) = fxP l k := by simp [fxP, List.range_succ, h]
theorem fxP_le (l : List Nat) (k : Nat) : (fxP l k).length ≤ k := by
  have := List.length_filter_le (fun j => im l j == j) (List.range k)
  simpa [fxP] using this
/-- The set of the points that stay. -/
def fxN (l : List Nat) : Nat := ofL (pI (fxP l l.length))
theorem fxN_of {l : List Nat} (h : l.length ≤ 64) : ofN (pI (fxP l l.length)) = fxN l ∧ ofE (pI (fxP l l.length)) = 0 := by
  have e : (pI (fxP l l.length)).all inSet = true := by
    rw [List.all_eq_true]
    intro x hx
    unfold pI at hx
    obtain ⟨j, hj, rfl⟩ := List.mem_map.1 hx
    have : j < l.length := by simpa using (List.mem_filter.1 hj).1
    simp [inSet]
    omega
  exact ⟨by rw [ofN, if_pos e]; rfl, by rw [ofE, if_pos e]⟩
theorem fxN_bit {l : List Nat} (j : Nat) : (fxN l).testBit j = true ↔ j < l.length ∧ im l j = j := by
  unfold fxN
  rw [testBit_ofL, decide_eq_true_iff]
  constructor
  · rintro ⟨x, hx, rfl⟩
    unfold pI at hx
    obtain ⟨i, hi, rfl⟩ := List.mem_map.1 hx
    have := List.mem_filter.1 hi
    simpa using this
  · rintro ⟨h1, h2⟩
    refine ⟨(j : Int), ?_, by simp⟩
    unfold pI
    exact List.mem_map.2 ⟨j, List.mem_filter.2 ⟨by simpa using h1, by simpa using h2⟩, rfl⟩

set_option maxHeartbeats 4000000 in
set_option maxRecDepth 100000 in
theorem fixed_ok (l : List Nat) (hl : Tf l) (w : World) :
    Calls Try.prog 51 #[.agg (tC l)] w fun e w' => e = .returned (.tuple #[.agg (cellsF (word (fxN l))), .int .i64 0]) ∧ Below w.heap.size w w' := by
  obtain ⟨i0, hi, hz0, hz1, hz2⟩ := info_parts Try.info_int
  have H1 : Hid (TL ((w.alloc (.cells (tC l) 26)).alloc (.cells (cellsF (fun _ => 0)) 44)) w.heap.size l) := (heap_allo (by simp) _).trans (heap_last _ _)
  have HC : Hid (Cells8 ((w.alloc (.cells (tC l) 26)).alloc (.cells (cellsF (fun _ => 0)) 44)) (w.heap.size + 1) (fun _ => 0)) := by
    have := Cells8.last (w.alloc (.cells (tC l) 26)) (fun _ => 0)
    rwa [World.size_alloc] at this
  have HB0 : Hid (Below w.heap.size w ((w.alloc (.cells (tC l) 26)).alloc (.cells (cellsF (fun _ => 0)) 44))) := ((Below.refl _ _).alloc (Nat.le_refl _) _).alloc (by simp) _
  unfold cellsF at H1 HC HB0
  have hle := hl.le
  obtain ⟨q1, q2⟩ := fxN_of hl.le
  go_enter Try.func51, Try.ntmps51
  go_wp2_with (refine wl_load rfl rfl (H1.out) rfl ?_)
  refine (tlist_ok l hl _).mono ?_
  rintro e w1 ⟨g, rfl, hO, hB1⟩
  have HB1 : Hid (Below w.heap.size w w1) := HB0.out.trans (hB1.mono (by simp <;> omega))
  have HC1 : Hid (Cells8 w1 (w.heap.size + 1) (fun _ => 0)) := HC.out.of_heap (hB1.block _ (by simp))
  have HO : Hid (∀ i, i < l.length → w1.cell? ⟨g, i, none⟩ = some (.int .i64 ((im l i : Nat) : Int))) := fun i hi => (hO.cellAt i (by omega)).trans (pZ_get hi)
  have HG : Hid (g < w1.heap.size) := (hO.lt g rfl).2
  have HQ : Hid (ofN (pI (fxP l l.length)) = fxN l ∧ ofE (pI (fxP l l.length)) = 0) := ⟨q1, q2⟩
  clear hB1 hO q1 q2
  go_wp2_with fail
  go_loopw [20, 6, 7, 8] (fun vi vl _ _ wr => ∃ i : Nat, i ≤ l.length ∧ vi = .int .i64 i ∧ wr.ownsRow w1.heap.size 3 1 vl (fxP l i).length (zC (pI (fxP l i))) ∧ Below w1.heap.size w1 wr) (fun vi _ _ _ _ => l.length - (intOf vi).toNat)
  case atStart => exact ⟨0, Nat.zero_le _, rfl, by show World.ownsRow _ _ _ _ _ 0 []; exact World.ownsRow_nil _ _ _ _, Below.refl _ _⟩
  case round =>
    obtain ⟨i, hin, rfl, hown, hb⟩ := hrel
    obtain ⟨ga, gcap, rfl⟩ := own_shape hown
    have HB : Hid (Below w1.heap.size w1 wr) := hb
    have HR : Hid (wr.ownsRow w1.heap.size 3 1 (.slice ga (fxP l i).length gcap) (fxP l i).length (zC (pI (fxP l i)))) := hown
    have hsz := hb.size
    clear hown hb
    by_cases hlt : i < l.length
    · have hiI : (i : Int) < l.length := by omega
      have hc := (below_cell (o := i) HB.out HG.out).trans (HO.out i hlt)
      have hpl := fxP_le l i
      have hd64 := hl.lt64 i hlt
      by_cases hf : im l i = i
      · have HS : Hid (fxP l (i + 1) = fxP l i ++ [i]) := fxP_yes hf
        rw [hf] at hc
        clear hf hd64
        go_wp2_with (at_builtin; refine wpList_append_own _ rfl _ _ 22 rfl w1.heap.size 3 i0 (.int .i64 0) 1 8 Try.underlying22 hi hz0 hz1 hz2 rfl (by decide) _ _ _ rfl (HR.out.alloc _) ⟨wr.heap.size, 0, none⟩ 1 1 [.int .i64 (i : Int)] rfl rfl (cell_one_new _ _ _) (by intro u hu; simp at hu; subst hu; rfl) (by unfold maxLen; omega) (by omega) (by simp; omega) ?_; intro v' w4 hown' hgrow _; have HR4 : Hid (w4.ownsRow w1.heap.size 3 1 v' (fxP l (i + 1)).length (zC (pI (fxP l (i + 1))))) := (by show World.ownsRow _ _ _ _ _ _ _; rw [HS.out, pI_append, zC_append, List.length_append]; exact hown'); have HB4 : Hid (Below w1.heap.size w1 w4) := (HB.out.alloc HB.out.size _).grown hgrow (by simp; omega) (fun g hg => (HR.out.lt g hg).1); clear hown' hgrow)
        go_roundw
        case rel => exact ⟨i + 1, by omega, by go_num, HR4.out, HB4.out⟩
        case measure => simp [intOf]; omega
      · have HS : Hid (fxP l (i + 1) = fxP l i) := fxP_no hf
        obtain ⟨d, hdE⟩ : ∃ d, im l i = d := ⟨_, rfl⟩
        rw [hdE] at hc hf hd64
        have hne : ((i : Int) == (d : Int)) = false := by rw [beq_eq_false_iff_ne]; omega
        have hne' : ¬ (i : Int) = (d : Int) := by omega
        clear hdE
        go_wp2_with fail
        go_roundw
        case rel => exact ⟨i + 1, by omega, by go_num, by rw [HS.out]; exact HR.out, HB.out⟩
        case measure => simp [intOf]; omega
    · have hiI : ¬ (i : Int) < l.length := by omega
      obtain rfl : i = l.length := by omega
      have HRd : Hid (Reads wr (.slice ga (fxP l l.length).length gcap) (pI (fxP l l.length))) := by
        apply own_reads (base := _)
        rw [pI_len]
        exact HR.out
      have HB1' : Hid (Below w.heap.size w wr) := HB1.out.trans (HB.out.mono HB1.out.size)
      have HCw : Hid (Cells8 wr (w.heap.size + 1) (fun _ => 0)) := HC1.out.of_heap (HB.out.block _ HC1.out.lt)
      have HL : Hid ((fxP l l.length).length ≤ 64) := Nat.le_trans (fxP_le l l.length) hl.le
      clear hsz
      go_wp2_with fail
      have hof := of_any (.slice ga (fxP l l.length).length gcap) (pI (fxP l l.length)) wr HRd.out (by rw [pI_len]; have := HL.out; omega)
      rw [HQ.out.1, HQ.out.2] at hof
      refine hof.mono ?_
      clear hof
      rintro e w2 ⟨rfl, hB2⟩
      have HB2 : Hid (Below w.heap.size w w2) := HB1'.out.trans (hB2.mono HB1'.out.size)
      have HC2 : Hid (Cells8 w2 (w.heap.size + 1) (fun _ => 0)) := HCw.out.of_heap (hB2.block _ HCw.out.lt)
      have hs := st_setRow (g := word (fxN l)) HC2.out
      have hsz := cellsF_size (word (fxN l))
      clear hB2
      unfold setV
      go_wp2_with fail
      exact bodyPost_ret (results_set_tmp rfl rfl HC2.out.row) rfl ⟨rfl, below_row HB2.out (by omega)⟩
end Go.Proofs.Ythglficjhgpegaa
