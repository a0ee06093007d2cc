/- The document of layer 13: rest, then, List, Make, Identity. -/
import Derived.Test.YthglficjhgpegaaCb
namespace Go.Proofs.Ythglficjhgpegaa
open Go Go.RowKit Go.Lib
set_option linter.unusedVariables false

theorem pI_get {l : List Nat} {i : Nat} (h : i < l.length) : (pI l).getD i 0 = ((im l i : Nat) : Int) := by simp [pI, im, h]
theorem slice_eq {ga : Option Addr} {i n gcap : Nat} {w : World} {base : Nat} {xs : List Value} (e : i = n) (h : w.ownsRow base 3 1 (.slice ga i gcap) i xs) : w.ownsRow base 3 1 (.slice ga i gcap) n xs := by
  subst e; exact h

set_option maxHeartbeats 4000000 in
set_option maxRecDepth 100000 in
theorem rest_any (n : Nat) (h2 : n ≤ 64) (w : World) :
    Calls Try.prog 58 #[.int .i64 n] w fun e w' => ∃ v', e = .returned v' ∧ w'.ownsRow w.heap.size 3 1 v' n (zC (pI (stl n))) ∧ Below w.heap.size w w' := by
  obtain ⟨i0, hi, hz0, hz1, hz2⟩ := info_parts Try.info_int
  go_enter Try.func58, Try.ntmps58
  go_wp2_with fail
  go_loopw [3, 4] (fun vl vi wr => ∃ i : Nat, i ≤ n ∧ vi = .int .i64 i ∧ wr.ownsRow w.heap.size 3 1 vl i (zC (pI (stl i))) ∧ Below w.heap.size w wr) (fun _ vi _ => n - (intOf vi).toNat)
  case atStart => exact ⟨0, Nat.zero_le _, rfl, by show World.ownsRow _ _ _ _ _ 0 []; exact World.ownsRow_nil _ _ _ _, Below.refl _ _⟩
  case round =>
    obtain ⟨i, hin, rfl, hown, hb⟩ := hrel
    obtain ⟨ga, gcap, rfl⟩ := own_shape hown
    have HB : Hid (Below w.heap.size w wr) := hb
    have hsz := hb.size
    have HO : Hid (wr.ownsRow w.heap.size 3 1 (.slice ga i gcap) i (zC (pI (stl i)))) := hown
    clear hown hb
    by_cases hlt : i < n
    · have hiI : (i : Int) < n := by omega
      have HS : Hid (stl (i + 1) = stl i ++ [i]) := by show _ = _; simp [stl, List.range_succ]
      go_wp2_with (at_builtin; refine wpList_append_own _ rfl _ _ 22 rfl w.heap.size 3 i0 (.int .i64 0) 1 8 Try.underlying22 hi hz0 hz1 hz2 rfl (by decide) _ _ _ rfl (HO.out.alloc _) ⟨wr.heap.size, 0, none⟩ 1 1 [.int .i64 (i : Int)] rfl rfl (cell_one_new _ _ _) (by intro u hu; simp at hu; subst hu; rfl) (by unfold maxLen; omega) (by omega) (by simp; omega) ?_; intro v' w4 hown' hgrow _; have HR4 : Hid (w4.ownsRow w.heap.size 3 1 v' (i + 1) (zC (pI (stl (i + 1))))) := (by show World.ownsRow _ _ _ _ _ _ _; rw [HS.out, pI_append, zC_append]; exact hown'); have HB4 : Hid (Below w.heap.size w w4) := (HB.out.alloc HB.out.size _).grown hgrow (by simp; omega) (fun g hg => (HO.out.lt g hg).1); clear hown' hgrow)
      go_roundw
      case rel => exact ⟨i + 1, by omega, by go_num, HR4.out, HB4.out⟩
      case measure => simp [intOf]; omega
    · have hiI : ¬ (i : Int) < n := by omega
      have HE : Hid (i = n) := by show i = n; omega
      go_wp2_with fail
      go_ret
      refine ⟨_, rfl, ?_, HB.out⟩
      have h := slice_eq HE.out HO.out
      rw [HE.out] at h
      show World.ownsRow _ _ _ _ (Value.slice ga i gcap) _ _
      have e2 : (Value.slice ga i gcap) = .slice ga n gcap := by rw [HE.out]
      rw [e2]
      exact h

set_option maxHeartbeats 4000000 in
set_option maxRecDepth 100000 in
theorem rthen_any (v1 v2 : Value) (l m : List Nat) (w : World) (r1 : Reads w v1 (pI l)) (r2 : Reads w v2 (pI m)) (h1 : l.length ≤ 64) (h2 : m.length ≤ 64) (hlt : ∀ i, i < l.length → im l i < m.length) :
    Calls Try.prog 59 #[v1, v2] w fun e w' => ∃ v', e = .returned v' ∧ w'.ownsRow w.heap.size 3 1 v' l.length (zC (pI (cmp l m))) ∧ Below w.heap.size w w' := by
  obtain ⟨i0, hi, hz0, hz1, hz2⟩ := info_parts Try.info_int
  obtain ⟨a1, c1, rfl, q1⟩ := r1
  obtain ⟨a2, c2, rfl, q2⟩ := r2
  rw [pI_len] at q1 q2 ⊢
  rw [pI_len]
  have HQ1 : Hid (∀ i, i < l.length → ∃ g o, a1 = some ⟨g, o, none⟩ ∧ g < w.heap.size ∧ w.cell? ⟨g, o + i, none⟩ = some (.int .i64 ((pI l).getD i 0))) := q1
  have HQ2 : Hid (∀ i, i < m.length → ∃ g o, a2 = some ⟨g, o, none⟩ ∧ g < w.heap.size ∧ w.cell? ⟨g, o + i, none⟩ = some (.int .i64 ((pI m).getD i 0))) := q2
  have HLT : Hid (∀ i, i < l.length → im l i < m.length) := hlt
  clear q1 q2 hlt
  go_enter Try.func59, Try.ntmps59
  go_wp2_with fail
  go_loopw [5, 6] (fun vl vi wr => ∃ i : Nat, i ≤ l.length ∧ vi = .int .i64 i ∧ wr.ownsRow w.heap.size 3 1 vl i (zC (pI (tb (fun j => im m (im l j)) i))) ∧ Below w.heap.size w wr) (fun _ vi _ => l.length - (intOf vi).toNat)
  case atStart => exact ⟨0, Nat.zero_le _, rfl, by show World.ownsRow _ _ _ _ _ 0 []; exact World.ownsRow_nil _ _ _ _, Below.refl _ _⟩
  case round =>
    obtain ⟨i, hin, rfl, hown, hb⟩ := hrel
    obtain ⟨ga, gcap, rfl⟩ := own_shape hown
    have HB : Hid (Below w.heap.size w wr) := hb
    have hsz := hb.size
    have HO : Hid (wr.ownsRow w.heap.size 3 1 (.slice ga i gcap) i (zC (pI (tb (fun j => im m (im l j)) i)))) := hown
    by_cases hlt : i < l.length
    · have hiI : (i : Int) < l.length := by omega
      obtain ⟨g1, o1, rfl, hg1, k1⟩ := HQ1.out i hlt
      rw [pI_get hlt, ← below_cell hb hg1] at k1
      have hd := HLT.out i hlt
      obtain ⟨g2, o2, rfl, hg2, k2⟩ := HQ2.out (im l i) hd
      rw [pI_get hd, ← below_cell hb hg2] at k2
      have HS : Hid (tb (fun j => im m (im l j)) (i + 1) = tb (fun j => im m (im l j)) i ++ [im m (im l i)]) := tb_succ _ _
      obtain ⟨d, hde⟩ : ∃ d, im l i = d := ⟨_, rfl⟩
      rw [hde] at k1 k2 hd HS
      obtain ⟨x, hxe⟩ : ∃ x, im m d = x := ⟨_, rfl⟩
      rw [hxe] at k2 HS
      have hdI : (d : Int) < m.length := by omega
      clear hown hb hde hxe
      go_wp2_with (at_builtin; refine wpList_append_own _ rfl _ _ 22 rfl w.heap.size 3 i0 (.int .i64 0) 1 8 Try.underlying22 hi hz0 hz1 hz2 rfl (by decide) _ _ _ rfl (HO.out.alloc _) ⟨wr.heap.size, 0, none⟩ 1 1 [.int .i64 (x : Int)] rfl rfl (cell_one_new _ _ _) (by intro u hu; simp at hu; subst hu; rfl) (by unfold maxLen; omega) (by omega) (by simp; omega) ?_; intro v' w4 hown' hgrow _; have HR4 : Hid (w4.ownsRow w.heap.size 3 1 v' (i + 1) (zC (pI (tb (fun j => im m (im l j)) (i + 1))))) := (by show World.ownsRow _ _ _ _ _ _ _; rw [HS.out, pI_append, zC_append]; exact hown'); have HB4 : Hid (Below w.heap.size w w4) := (HB.out.alloc HB.out.size _).grown hgrow (by simp; omega) (fun g hg => (HO.out.lt g hg).1); clear hown' hgrow)
      go_roundw
      case rel => exact ⟨i + 1, by omega, by go_num, HR4.out, HB4.out⟩
      case measure => simp [intOf]; omega
    · have hiI : ¬ (i : Int) < l.length := by omega
      have HE : Hid (i = l.length) := by show i = _; omega
      clear hown hb
      go_wp2_with fail
      go_ret
      refine ⟨_, rfl, ?_, HB.out⟩
      have h := slice_eq HE.out HO.out
      rw [HE.out] at h
      have e3 : tb (fun j => im m (im l j)) l.length = cmp l m := im_ext (by rw [tb_len, cmp_len]) (fun j hj => by rw [tb_len] at hj; rw [tb_im _ hj, cmp_im _ _ hj])
      rw [e3] at h
      show World.ownsRow _ _ _ _ (Value.slice ga i gcap) _ _
      have e2 : (Value.slice ga i gcap) = .slice ga l.length gcap := by rw [HE.out]
      rw [e2]
      exact h

theorem rcheck_ok (l : List Nat) (h : Tf l) (w : World) : Calls Try.prog 14 #[.agg (tC l)] w fun e w' => e = .returned (.int .i64 0) ∧ Below w.heap.size w w' := by
  have := rcheck_any l.length (pk (im l) l.length) (pk_w64 h) w
  unfold ckN at this
  rw [if_pos h.okT] at this
  exact this
theorem rcheck_bad (N : Int) (g : Nat → Nat) (hg : W64 g) (h : ¬ okT N g) (w : World) : Calls Try.prog 14 #[.agg (trC N g)] w fun e w' => e = .returned (.int .i64 130) ∧ Below w.heap.size w w' := by
  have := rcheck_any N g hg w
  unfold ckN at this
  rw [if_neg h] at this
  exact this
theorem images_ok (l : List Nat) (h : Tf l) (w : World) : Calls Try.prog 47 #[.agg (tC l)] w fun e w' => ∃ v', e = .returned v' ∧ w'.ownsRow w.heap.size 3 1 v' l.length (zC (pI l)) ∧ Below w.heap.size w w' := by
  have := images_any l.length (pk (im l) l.length) h.le (pk_w64 h) w
  have e : tb (dg (pk (im l) l.length)) l.length = l := by
    have := dgl_of h
    unfold dgl at this
    rwa [Int.toNat_natCast] at this
  rw [e] at this
  exact this
set_option maxHeartbeats 2000000 in
set_option maxRecDepth 100000 in
theorem rlist_ok (l : List Nat) (hl : Tf l) (w : World) :
    Calls Try.prog 21 #[.agg (tC l)] w fun e w' => ∃ v', e = .returned (.tuple #[v', .int .i64 0]) ∧ w'.ownsRow w.heap.size 3 1 v' l.length (zC (pI l)) ∧ Below w.heap.size w w' := by
  have H1 : Hid (KP [(w.heap.size, l)] w (w.alloc (.cells (tC l) 26))) := KP.new (L := []) ⟨fun p hp => by simp at hp, Below.refl _ _⟩ l
  go_enter Try.func21, Try.ntmps21
  go_wp2_with (refine wl_load rfl rfl (H1.out.get (b := w.heap.size) (l := l) (by simp)) rfl ?_)
  refine (rcheck_ok l hl _).mono ?_
  rintro e w1 ⟨rfl, hB1⟩
  have H2 : Hid (KP [(w.heap.size, l)] w w1) := H1.out.call hB1
  clear hB1
  go_wp2_with (refine wl_load rfl rfl (H2.out.get (b := w.heap.size) (l := l) (by simp)) rfl ?_)
  refine (images_ok l hl _).mono ?_
  rintro e w2 ⟨v', rfl, hO, hB2⟩
  have HO : Hid (w2.ownsRow w.heap.size 3 1 v' l.length (zC (pI l))) := own_mono hO H2.out.below.size
  have HB : Hid (Below w.heap.size w w2) := H2.out.below.trans (hB2.mono H2.out.below.size)
  clear hO hB2
  go_wp2_with fail
  go_ret2
  exact ⟨v', rfl, HO.out, HB.out⟩
set_option maxHeartbeats 2000000 in
set_option maxRecDepth 100000 in
theorem rlist_bad (N : Int) (g : Nat → Nat) (hg : W64 g) (h : ¬ okT N g) (w : World) :
    Calls Try.prog 21 #[.agg (trC N g)] w fun e w' => e = .returned (.tuple #[.slice none 0 0, .int .i64 130]) ∧ Below w.heap.size w w' := by
  have H1 : Hid (TrAt (w.alloc (.cells (trC N g) 26)) w.heap.size N g) := heap_last _ _
  have HB0 : Hid (Below w.heap.size w (w.alloc (.cells (trC N g) 26))) := (Below.refl _ _).alloc (Nat.le_refl _) _
  go_enter Try.func21, Try.ntmps21
  go_wp2_with (refine wpList_load_row rfl 26 _ rfl (w.heap.size) rfl 26 (trC N g) (0, 0) _ (H1.out) Try.underlying26 rfl (rfl) ?_)
  refine (rcheck_bad N g hg h _).mono ?_
  rintro e w1 ⟨rfl, hB1⟩
  have HB : Hid (Below w.heap.size w w1) := HB0.out.trans (hB1.mono (by simp))
  clear hB1
  go_wp2_with fail
  go_ret2
  exact ⟨rfl, HB.out⟩

set_option maxHeartbeats 2000000 in
set_option maxRecDepth 100000 in
theorem ridentity_any (n : Int) (w : World) :
    Calls Try.prog 31 #[.int .i64 n] w fun e w' => e = .returned (idV n) ∧ Below w.heap.size w w' := by
  have HZ : Hid (TrAt (w.alloc (.cells #[.int .i64 0, .int .u64 0, .int .u64 0, .int .u64 0, .int .u64 0, .int .u64 0, .int .u64 0, .int .u64 0] 26)) w.heap.size 0 (fun _ => 0)) := tr_z w
  have HB0 : Hid (Below w.heap.size w (w.alloc (.cells #[.int .i64 0, .int .u64 0, .int .u64 0, .int .u64 0, .int .u64 0, .int .u64 0, .int .u64 0, .int .u64 0] 26))) := (Below.refl _ _).alloc (Nat.le_refl _) _
  by_cases hN : 1 ≤ n ∧ n ≤ 64
  · obtain ⟨m, rfl⟩ : ∃ m : Nat, n = m := ⟨n.toNat, by omega⟩
    have HE : Hid (idV m = .tuple #[.agg (tC (stl m)), .int .i64 0]) := by show idV m = _; unfold idV; rw [if_pos hN]; rfl
    have HM : Hid (1 ≤ m ∧ m ≤ 64) := ⟨by omega, by omega⟩
    have g1 : ¬ ((m : Int) < 1) := by omega
    have g2 : ¬ ((64 : Int) < m) := by omega
    clear hN
    go_enter Try.func31, Try.ntmps31
    go_wp2_with fail
    refine (rest_any m HM.out.2 _).mono ?_
    rintro e w1 ⟨v1, rfl, hO, hB1⟩
    have HB1 : Hid (Below w.heap.size w w1) := HB0.out.trans (hB1.mono (by simp))
    have HZ1 : Hid (TrAt w1 w.heap.size 0 (fun _ => 0)) := HZ.out.of (hB1.block _ (by simp))
    have HR1 : Hid (Reads w1 v1 (pI (stl m))) := by
      apply own_reads (base := _)
      rw [pI_len, stl_len]
      exact hO
    clear hB1 hO
    go_wp2_with fail
    refine (packed_any v1 (stl m) w1 HR1.out (by rw [stl_len]; exact HM.out.2) (stl_tf HM.out.1 HM.out.2).lt64).mono ?_
    rintro e w2 ⟨rfl, hB2⟩
    have HB2 : Hid (Below w.heap.size w w2) := HB1.out.trans (hB2.mono HB1.out.size)
    have HZ2 : Hid (TrAt w2 w.heap.size 0 (fun _ => 0)) := HZ1.out.of (hB2.block _ HZ1.out.lt)
    have hs := st_row (cs := tC (stl m)) HZ2.out rfl (tC_one _)
    have hsz := tC_size (stl m)
    clear hB2
    go_wp2_with fail
    rw [HE.out]
    exact bodyPost_ret (results_tr_tmp rfl rfl (TrAt.row (M := ((stl m).length : Int)) (g := pk (im (stl m)) (stl m).length) HZ2.out)) rfl ⟨rfl, below_row HB2.out (Nat.le_refl _)⟩
  · have HE : Hid (idV n = .tuple #[trZ, .int .i64 6]) := by show idV n = _; unfold idV; rw [if_neg hN]
    obtain ⟨c0, c1, c2, c3, c4, c5, c6, c7⟩ := (HZ.out).gets
    have f0 := (HZ.out).frozen 0
    have f1 := (HZ.out).frozen 1
    have f2 := (HZ.out).frozen 2
    have f3 := (HZ.out).frozen 3
    have f4 := (HZ.out).frozen 4
    have f5 := (HZ.out).frozen 5
    have f6 := (HZ.out).frozen 6
    have f7 := (HZ.out).frozen 7
    by_cases g1 : n < 1
    · go_enter Try.func31, Try.ntmps31
      go_wp2_with fail
      rw [HE.out]
      exact bodyPost_ret (results_tr_tmp rfl rfl HZ.out) rfl ⟨rfl, HB0.out⟩
    · have g2 : 64 < n := by omega
      go_enter Try.func31, Try.ntmps31
      go_wp2_with fail
      rw [HE.out]
      exact bodyPost_ret (results_tr_tmp rfl rfl HZ.out) rfl ⟨rfl, HB0.out⟩

end Go.Proofs.Ythglficjhgpegaa
