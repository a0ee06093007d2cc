/- The document's Inverse. -/
import Derived.Test.YthglficjhgpegaaCq
import Derived.Test.YthglficjhgpegaaCd
import Derived.Test.YthglficjhgpegaaAy
namespace Go.Proofs.Ythglficjhgpegaa
open Go Go.RowKit Go.Lib
set_option linter.unusedVariables false

theorem Try.info_boolD : (Try.prog.info? 4).map (fun i => (i.zero, i.size, i.bytes)) = some (some (.bool false), 1, 1) := by kernel_rfl
set_option maxHeartbeats 2000000 in
set_option maxRecDepth 100000 in
theorem rinverse_bad (N : Int) (g : Nat → Nat) (hg : W64 g) (h : ¬ okT N g) (w : World) :
    Calls Try.prog 55 #[.agg (trC N g)] w fun e w' => e = .returned (.tuple #[trZ, .int .i64 130]) ∧ Below w.heap.size w w' := by
  have HZ : Hid (TrAt ((w.alloc (.cells (trC N g) 26)).alloc (.cells #[.int .i64 0, .int .u64 0, .int .u64 0, .int .u64 0, .int .u64 0, .int .u64 0, .int .u64 0, .int .u64 0] 26)) (w.heap.size + 1) 0 (fun _ => 0)) := tr_z2 _ _
  have H1 : Hid (((w.alloc (.cells (trC N g) 26)).alloc (.cells #[.int .i64 0, .int .u64 0, .int .u64 0, .int .u64 0, .int .u64 0, .int .u64 0, .int .u64 0, .int .u64 0] 26)).heap[w.heap.size]? = some (.cells (trC N g) 26 (0, 0))) := by
    show _ = _
    rw [heap_allo (by simp)]; exact heap_last _ _
  have HB0 : Hid (Below w.heap.size w ((w.alloc (.cells (trC N g) 26)).alloc (.cells #[.int .i64 0, .int .u64 0, .int .u64 0, .int .u64 0, .int .u64 0, .int .u64 0, .int .u64 0, .int .u64 0] 26))) := ((Below.refl _ _).alloc (Nat.le_refl _) _).alloc (by simp) _
  have HS0 : Hid (((w.alloc (.cells (trC N g) 26)).alloc (.cells #[.int .i64 0, .int .u64 0, .int .u64 0, .int .u64 0, .int .u64 0, .int .u64 0, .int .u64 0, .int .u64 0] 26)).heap.size = w.heap.size + 2) := by show _ = _; simp
  go_enter Try.func55, Try.ntmps55
  go_wp2_with (refine wpList_load_row rfl 26 _ rfl (w.heap.size) rfl 26 (trC N g) (0, 0) _ (H1.out) Try.underlying26 rfl (rfl) ?_)
  refine (rlist_bad N g hg h _).mono ?_
  rintro e w1 ⟨rfl, hB1⟩
  have HB1 : Hid (Below w.heap.size w w1) := HB0.out.trans (hB1.mono (by rw [HS0.out]; omega))
  have HZ1 : Hid (TrAt w1 (w.heap.size + 1) 0 (fun _ => 0)) := HZ.out.of (hB1.block _ HZ.out.lt)
  clear hB1
  obtain ⟨c0, c1, c2, c3, c4, c5, c6, c7⟩ := (HZ1.out).gets
  have f0 := (HZ1.out).frozen 0
  have f1 := (HZ1.out).frozen 1
  have f2 := (HZ1.out).frozen 2
  have f3 := (HZ1.out).frozen 3
  have f4 := (HZ1.out).frozen 4
  have f5 := (HZ1.out).frozen 5
  have f6 := (HZ1.out).frozen 6
  have f7 := (HZ1.out).frozen 7
  go_wp2_with fail
  exact bodyPost_ret (results_tr_tmp rfl rfl (put8_at HZ1.out)) rfl ⟨rfl, put8_below HB1.out (by omega)⟩


/-- Marks, as a row of bools. -/
def mB (m : Nat → Bool) (n : Nat) : List Value := (List.range n).map fun j => Value.bool (m j)
theorem mB_get (m : Nat → Bool) {n j : Nat} (h : j < n) : (mB m n)[j]? = some (.bool (m j)) := by simp [mB, h]
theorem mB_set (m : Nat → Bool) {n k : Nat} (h : k < n) : (mB m n).set k (.bool true) = mB (fun j => if j = k then true else m j) n := by
  apply List.ext_getElem?
  intro j
  rw [List.getElem?_set]
  by_cases hj : j < n
  · rw [mB_get _ hj, mB_get _ hj]
    by_cases e : k = j
    · subst e; simp [mB, h]
    · rw [if_neg e, if_neg (fun q => e q.symm)]
  · have hk : ¬ k = j := by omega
    rw [if_neg hk]
    simp [mB, hj]
/-- Is j met by the first i points? -/
def md (l : List Nat) : Nat → Nat → Bool
  | 0, _ => false
  | i + 1, j => if j = im l i then true else md l i j
theorem md_iff (l : List Nat) : ∀ (i j : Nat), md l i j = true ↔ ∃ k, k < i ∧ im l k = j
  | 0, j => by simp [md]
  | i + 1, j => by
    rw [md]
    by_cases h : j = im l i
    · rw [if_pos h]; exact ⟨fun _ => ⟨i, by omega, h.symm⟩, fun _ => rfl⟩
    · rw [if_neg h, md_iff l i j]
      constructor
      · rintro ⟨k, hk, e⟩; exact ⟨k, by omega, e⟩
      · rintro ⟨k, hk, e⟩
        rcases Nat.lt_or_ge k i with c | c
        · exact ⟨k, c, e⟩
        · exact absurd (by rw [← e, show k = i from by omega]) h
theorem bk_row {l : List Nat} {i n : Nat} (h : im l i < n) : (tb (bk l i) n).set (im l i) i = tb (bk l (i + 1)) n := by
  apply im_ext (by rw [List.length_set, tb_len, tb_len])
  intro j hj
  rw [List.length_set, tb_len] at hj
  rw [im_set (by rw [tb_len]; exact h), tb_im _ hj, tb_im _ hj, bk_succ]
theorem rowB_made (w : World) (n : Nat) (hn : n ≤ 64) : (w.alloc (.cells (madeCells #[.bool false] n) 4)).ownsRow w.heap.size 4 1 (.slice (some ⟨w.heap.size, 0, none⟩) n n) n (mB (fun _ => false) n) := by
  refine ⟨by simp [mB], .inr ⟨w.heap.size, n, madeCells #[.bool false] n, rfl, Nat.le_refl _, heap_alloc_last _ _, Nat.le_refl _, by unfold maxLen; omega, ?_, ?_⟩⟩
  · simp [madeCells]
  · apply List.ext_getElem?
    intro j
    by_cases hj : j < n
    · simp [madeCells, mB, hj, Nat.mod_one]
    · simp [madeCells, mB, hj]
structure InAt (w1 wr : World) (l : List Nat) (i : Nat) : Prop where
  row : wr.ownsRow w1.heap.size 3 1 (.slice (some ⟨w1.heap.size, 0, none⟩) l.length l.length) l.length (zC (pI (tb (bk l i) l.length)))
  met : wr.ownsRow w1.heap.size 4 1 (.slice (some ⟨w1.heap.size + 1, 0, none⟩) l.length l.length) l.length (mB (md l i) l.length)
  below : Below w1.heap.size w1 wr
set_option maxHeartbeats 4000000 in
set_option maxRecDepth 100000 in
theorem rinverse_ok (l : List Nat) (hl : Tf l) (w : World) :
    Calls Try.prog 55 #[.agg (tC l)] w (IvQ l w) := by
  show Calls _ _ _ _ (IvQ l w)
  obtain ⟨i0, hi, hz0, hz1, hz2⟩ := info_parts Try.info_int
  obtain ⟨j0, hj, hy0, hy1, hy2⟩ := info_parts Try.info_boolD
  have HZ : Hid (TrAt ((w.alloc (.cells (tC l) 26)).alloc (.cells #[.int .i64 0, .int .u64 0, .int .u64 0, .int .u64 0, .int .u64 0, .int .u64 0, .int .u64 0, .int .u64 0] 26)) (w.heap.size + 1) 0 (fun _ => 0)) := tr_z2 _ _
  have H1 : Hid (TL ((w.alloc (.cells (tC l) 26)).alloc (.cells #[.int .i64 0, .int .u64 0, .int .u64 0, .int .u64 0, .int .u64 0, .int .u64 0, .int .u64 0, .int .u64 0] 26)) w.heap.size l) := (heap_allo (by simp) _).trans (heap_last _ _)
  have HB0 : Hid (Below w.heap.size w ((w.alloc (.cells (tC l) 26)).alloc (.cells #[.int .i64 0, .int .u64 0, .int .u64 0, .int .u64 0, .int .u64 0, .int .u64 0, .int .u64 0, .int .u64 0] 26))) := ((Below.refl _ _).alloc (Nat.le_refl _) _).alloc (by simp) _
  have hle := hl.le
  have hmk := fun w0 => run_make (P := Try.prog) w0 22 3 i0 (.int .i64 0) Try.underlying22 hi hz0 .i64 .i64 (l.length : Int) (l.length : Int) (by omega) (by omega) (by rw [hz2]; omega) (by omega)
  rw [hz1] at hmk
  have hmk2 := fun w0 => run_make (P := Try.prog) w0 63 4 j0 (.bool false) Try.underlying63 hj hy0 .i64 .i64 (l.length : Int) (l.length : Int) (by omega) (by omega) (by rw [hy2]; omega) (by omega)
  rw [hy1] at hmk2
  simp only [Nat.mul_one] at hmk hmk2
  go_enter Try.func55, Try.ntmps55
  go_wp2_with (refine wl_load rfl rfl (H1.out) rfl ?_)
  refine (rlist_ok l hl _).mono ?_
  rintro e w1 ⟨v', rfl, hO, hB1⟩
  have HB1 : Hid (Below w.heap.size w w1) := HB0.out.trans (hB1.mono (by simp <;> omega))
  have HZ1 : Hid (TrAt w1 (w.heap.size + 1) 0 (fun _ => 0)) := HZ.out.of (hB1.block _ HZ.out.lt)
  obtain ⟨ga, gcap, rfl⟩ := own_shape hO
  obtain ⟨g, hga⟩ : ∃ g, ga = some ⟨g, 0, none⟩ := by
    have := hl.pos
    rcases hO.2 with ⟨_, h0⟩ | ⟨g', cap', cur, hv, _⟩
    · omega
    · simp only [Value.slice.injEq] at hv
      exact ⟨g', hv.1⟩
  subst hga
  have HO : Hid (∀ i, i < l.length → w1.cell? ⟨g, i, none⟩ = some (.int .i64 ((im l i : Nat) : Int))) := fun i hi => (hO.cellAt i (by omega)).trans (pZ_get hi)
  have HG : Hid (g < w1.heap.size) := (hO.lt g rfl).2
  have HA0 : Hid (InAt w1 ((w1.alloc (.cells (madeCells #[.int .i64 0] l.length) 3)).alloc (.cells (madeCells #[.bool false] l.length) 4)) l 0) := by
    refine ⟨?_, ?_, ((Below.refl _ _).alloc (Nat.le_refl _) _).alloc (by simp) _⟩
    · have := row_made w1 l.length hl.le
      have e : tb (bk l 0) l.length = List.replicate l.length 0 := by
        rw [← fl_zero (fun _ => 0)]
        exact tb_congr (fun i _ => by simp [bk, upto])
      rw [e]
      exact this.alloc _
    · have := rowB_made (w1.alloc (.cells (madeCells #[.int .i64 0] l.length) 3)) l.length hl.le
      rw [World.size_alloc] at this
      exact own_mono this (Nat.le_succ _)
  clear hB1 hO
  go_wp2_with fail
  clear hmk hmk2
  go_loopw [8] (fun vi wr => ∃ i : Nat, vi = .int .i64 i ∧ i ≤ l.length ∧ (∀ x y, x < y → y < i → im l x ≠ im l y) ∧ InAt w1 wr l i) (fun vi _ => l.length - (intOf vi).toNat)
  case atStart => exact ⟨0, rfl, Nat.zero_le _, fun x y _ h => absurd h (by omega), HA0.out⟩
  case round =>
    clear HA0
    obtain ⟨i, rfl, hin, hap, hA⟩ := hrel
    have HA : Hid (InAt w1 wr l i) := hA
    have HAP : Hid (∀ x y, x < y → y < i → im l x ≠ im l y) := hap
    clear hap
    have HZq : Hid (TrAt wr (w.heap.size + 1) 0 (fun _ => 0)) := HZ1.out.of (hA.below.block _ HZ1.out.lt)
    have HBq : Hid (Below w.heap.size w wr) := HB1.out.trans (hA.below.mono HB1.out.size)
    by_cases hlt : i < l.length
    · have hiI : (i : Int) < l.length := by omega
      have hd := hl.lt i hlt
      have hc := (below_cell (o := i) hA.below HG.out).trans (HO.out i hlt)
      have hcm := (hA.met.cellAt (im l i) (by omega)).trans (mB_get _ hd)
      by_cases hm : md l i (im l i) = true
      · have HNI : Hid (¬ Inj l) := fun hI => by
          obtain ⟨k, hk, e⟩ := (md_iff l i _).1 hm
          exact absurd (hI k i (by omega) hlt e) (by omega)
        rw [hm] at hcm
        obtain ⟨d, hdE⟩ : ∃ d, im l i = d := ⟨_, rfl⟩
        rw [hdE] at hc hcm hd
        have hdI : (d : Int) < l.length := by omega
        obtain ⟨c0, c1, c2, c3, c4, c5, c6, c7⟩ := (HZq.out).gets
        have f0 := (HZq.out).frozen 0
        have f1 := (HZq.out).frozen 1
        have f2 := (HZq.out).frozen 2
        have f3 := (HZq.out).frozen 3
        have f4 := (HZq.out).frozen 4
        have f5 := (HZq.out).frozen 5
        have f6 := (HZq.out).frozen 6
        have f7 := (HZq.out).frozen 7
        clear hA hm hdE
        go_wp2_with fail
        exact bodyPost_ret (results_tr_tmp rfl rfl (put8_at HZq.out)) rfl ⟨_, .inr ⟨HNI.out, rfl⟩, rfl, put8_below HBq.out (by omega)⟩
      · have hmf : md l i (im l i) = false := by simpa using hm
        rw [hmf] at hcm
        have hfm : wr.frozen? ⟨w1.heap.size + 1, im l i, none⟩ = false := hA.met.frozenAt _
        have hM1 := (hA.met.stored (im l i) (.bool true)).1
        rw [mB_set _ hd] at hM1
        have hgl := HG.out
        have hX : InAt w1 (wr.setCell ⟨w1.heap.size + 1, im l i, none⟩ (.bool true)) l i ∨ True := .inr trivial
        have hR1 : (wr.setCell ⟨w1.heap.size + 1, im l i, none⟩ (.bool true)).ownsRow w1.heap.size 3 1 (.slice (some ⟨w1.heap.size, 0, none⟩) l.length l.length) l.length (zC (pI (tb (bk l i) l.length))) := own_keep1 hA.row (heap_set_oth (by omega))
        have hB1 : Below w1.heap.size w1 (wr.setCell ⟨w1.heap.size + 1, im l i, none⟩ (.bool true)) := hA.below.setCell (p := ⟨w1.heap.size + 1, im l i, none⟩) (Nat.le_succ _) _
        have hc2 := (below_cell (o := i) hB1 HG.out).trans (HO.out i hlt)
        have hcr := (hR1.cellAt (im l i) (by omega)).trans (pZ_get (by rw [tb_len]; exact hd))
        have hfr : (wr.setCell ⟨w1.heap.size + 1, im l i, none⟩ (.bool true)).frozen? ⟨w1.heap.size, im l i, none⟩ = false := hR1.frozenAt _
        have hR2 := (hR1.stored (im l i) (.int .i64 (i : Int))).1
        rw [← pZ_set, bk_row hd] at hR2
        have HN : Hid (InAt w1 ((wr.setCell ⟨w1.heap.size + 1, im l i, none⟩ (.bool true)).setCell ⟨w1.heap.size, im l i, none⟩ (.int .i64 (i : Int))) l (i + 1)) := ⟨hR2, own_keep1 hM1 (heap_set_oth (by omega)), hB1.setCell (p := ⟨w1.heap.size, im l i, none⟩) (Nat.le_refl _) _⟩
        have HAP2 : Hid (∀ x y, x < y → y < i + 1 → im l x ≠ im l y) := fun x y h1 h2 => by
          rcases Nat.lt_or_ge y i with c | c
          · exact HAP.out x y h1 c
          · rw [show y = i from by omega]
            intro e
            exact hm ((md_iff l i _).2 ⟨x, by omega, e⟩)
        obtain ⟨z, hzE⟩ : ∃ z, im (tb (bk l i) l.length) (im l i) = z := ⟨_, rfl⟩
        rw [hzE] at hcr
        obtain ⟨d, hdE⟩ : ∃ d, im l i = d := ⟨_, rfl⟩
        rw [hdE] at hc hcm hd hc2 hcr hfr hfm HN
        have hdI : (d : Int) < l.length := by omega
        clear hA hm hmf hdE hzE hX hM1 hR1 hR2 hB1
        go_wp2_with fail
        go_roundw
        case rel => exact ⟨i + 1, by go_num, by omega, HAP2.out, HN.out⟩
        case measure => simp [intOf]; omega
    · have hiI : ¬ (i : Int) < l.length := by omega
      obtain rfl : i = l.length := by omega
      have HI : Hid (Inj l) := fun x y hx hy e => by
        rcases Nat.lt_trichotomy x y with c | c | c
        · exact absurd e (HAP.out x y c hy)
        · exact c
        · exact absurd e.symm (HAP.out y x c hx)
      have HRd : Hid (Reads wr (.slice (some ⟨w1.heap.size, 0, none⟩) l.length l.length) (pI (inv l))) := by
        apply own_reads (base := _)
        rw [pI_len, inv_len]
        exact hA.row
      clear hA
      go_wp2_with fail
      refine (packed_any _ (inv l) wr HRd.out (by rw [inv_len]; exact hl.le) (inv_tf hl).lt64).mono ?_
      rintro e w2 ⟨rfl, hB2⟩
      have HB2 : Hid (Below w.heap.size w w2) := HBq.out.trans (hB2.mono HBq.out.size)
      have HZ2 : Hid (TrAt w2 (w.heap.size + 1) 0 (fun _ => 0)) := HZq.out.of (hB2.block _ HZq.out.lt)
      have hs := st_row (cs := tC (inv l)) HZ2.out rfl (tC_one _)
      have hsz := tC_size (inv l)
      clear hB2
      go_wp2_with fail
      exact bodyPost_ret (results_tr_tmp rfl rfl (TrAt.row (M := ((inv l).length : Int)) (g := pk (im (inv l)) (inv l).length) HZ2.out)) rfl ⟨_, .inl ⟨HI.out, rfl⟩, rfl, below_row HB2.out (Nat.le_succ _)⟩
end Go.Proofs.Ythglficjhgpegaa
