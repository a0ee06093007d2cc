/- trans: Power. -/
import Derived.Test.YthglficjhgpegaaAi
namespace Go.Proofs.Ythglficjhgpegaa
open Go Go.RowKit Go.Lib
set_option linter.unusedVariables false

theorem upto_cmp (X Y : List Nat) : upto (fun i => im Y (im X i)) X.length = im (cmp X Y) := by
  funext j
  unfold upto
  by_cases h : j < X.length
  · rw [if_pos h, cmp_im _ _ h]
  · rw [if_neg h, im_ge (by rw [cmp_len]; omega)]
/-- Images of a list, one behind the other. -/
theorem then_list (X Y : List Nat) (hX : Tf X) (w : World) :
    Calls Try.prog 57 #[.agg (mvC X.length (im X)), .agg (mvC Y.length (im Y))] w fun e w' => e = .returned (.agg (mvC X.length (im (cmp X Y)))) ∧ Below w.heap.size w w' := by
  have := then_any X.length Y.length (im X) (im Y) hX.le hX.lt64 w
  rw [upto_cmp] at this
  exact this
/-- What stands in Power's loop. -/
structure PwAt (w wr : World) (r s o : Nat) (l : List Nat) (a b : Nat) : Prop where
  res : TrAt wr r 0 (fun _ => 0)
  sq : MvAt wr s l.length (im (pwr l a))
  out : MvAt wr o l.length (im (pwr l b))
  below : Below w.heap.size w wr
theorem PwAt.stay {w wr y : World} {r s o a b : Nat} {l : List Nat} (h : PwAt w wr r s o l a b) (hb : Below wr.heap.size wr y) : PwAt w y r s o l a b :=
  ⟨h.res.of (hb.block _ h.res.lt), h.sq.of (hb.block _ h.sq.lt), h.out.of (hb.block _ h.out.lt), h.below.trans (hb.mono h.below.size)⟩
theorem PwAt.putO {w wr : World} {r s o a b : Nat} {l : List Nat} (h : PwAt w wr r s o l a b) (hr : r ≠ o) (hs : s ≠ o) (ho : w.heap.size ≤ o) (c : Nat) : PwAt w (wr.setRow o (mvC l.length (im (pwr l c)))) r s o l a c :=
  ⟨h.res.of (setRow_other _ _ _ _ hr), h.sq.of (setRow_other _ _ _ _ hs), h.out.row, below_row h.below ho⟩
theorem PwAt.putS {w wr : World} {r s o a b : Nat} {l : List Nat} (h : PwAt w wr r s o l a b) (hr : r ≠ s) (hs : o ≠ s) (ho : w.heap.size ≤ s) (c : Nat) : PwAt w (wr.setRow s (mvC l.length (im (pwr l c)))) r s o l c b :=
  ⟨h.res.of (setRow_other _ _ _ _ hr), h.sq.row, h.out.of (setRow_other _ _ _ _ hs), below_row h.below ho⟩
theorem pwr_then (l : List Nat) (h : Tf l) (a b : Nat) (w : World) :
    Calls Try.prog 57 #[.agg (mvC l.length (im (pwr l a))), .agg (mvC l.length (im (pwr l b)))] w fun e w' => e = .returned (.agg (mvC l.length (im (pwr l (a + b))))) ∧ Below w.heap.size w w' := by
  have := then_list (pwr l a) (pwr l b) (pwr_tf h a) w
  rw [pwr_len, pwr_len, ← pwr_add h] at this
  exact this

set_option maxHeartbeats 2000000 in
set_option maxRecDepth 100000 in
theorem power_bad (N : Int) (g : Nat → Nat) (hg : W64 g) (h : ¬ okT N g) (q : Int) (w : World) :
    Calls Try.prog 30 #[.agg (trC N g), .int .u64 q] w fun e w' => e = .returned (.tuple #[trZ, .int .i64 130]) ∧ Below w.heap.size w w' := by
  have HZ : Hid (TrAt ((w.alloc (.cells (trC N g) 26)).alloc (.cells #[.int .i64 0, .int .u64 0, .int .u64 0, .int .u64 0, .int .u64 0, .int .u64 0, .int .u64 0, .int .u64 0] 26)) (w.heap.size + 1) 0 (fun _ => 0)) := tr_z2 _ _
  have H1 : Hid (((w.alloc (.cells (trC N g) 26)).alloc (.cells #[.int .i64 0, .int .u64 0, .int .u64 0, .int .u64 0, .int .u64 0, .int .u64 0, .int .u64 0, .int .u64 0] 26)).heap[w.heap.size]? = some (.cells (trC N g) 26 (0, 0))) := by
    show _ = _
    rw [heap_allo (by simp)]; exact heap_last _ _
  have HB0 : Hid (Below w.heap.size w ((w.alloc (.cells (trC N g) 26)).alloc (.cells #[.int .i64 0, .int .u64 0, .int .u64 0, .int .u64 0, .int .u64 0, .int .u64 0, .int .u64 0, .int .u64 0] 26))) := ((Below.refl _ _).alloc (Nat.le_refl _) _).alloc (by simp) _
  have HS0 : Hid (((w.alloc (.cells (trC N g) 26)).alloc (.cells #[.int .i64 0, .int .u64 0, .int .u64 0, .int .u64 0, .int .u64 0, .int .u64 0, .int .u64 0, .int .u64 0] 26)).heap.size = w.heap.size + 2) := by show _ = _; simp
  have hz := Try.zero_mv
  have hne := mvC_ne 0 fun _ => 0
  have hsz := mvC_size 0 fun _ => 0
  go_enter Try.func30, Try.ntmps30
  go_wp2_with (refine wpList_load_row rfl 26 _ rfl (w.heap.size) rfl 26 (trC N g) (0, 0) _ (H1.out) Try.underlying26 rfl (rfl) ?_)
  refine (open_bad N g hg h _).mono ?_
  rintro e w1 ⟨rfl, hB1⟩
  have HB1 : Hid (Below w.heap.size w w1) := HB0.out.trans (hB1.mono (by rw [HS0.out]; omega))
  have HZ1 : Hid (TrAt w1 (w.heap.size + 1) 0 (fun _ => 0)) := HZ.out.of (hB1.block _ HZ.out.lt)
  clear hB1
  have hst := mvz_st w1
  have HZ2 : Hid (TrAt (w1.alloc (.cells (mvC 0 fun _ => 0) 91)) (w.heap.size + 1) 0 (fun _ => 0)) := HZ1.out.of (heap_allo HZ1.out.lt _)
  obtain ⟨c0, c1, c2, c3, c4, c5, c6, c7⟩ := (HZ2.out).gets
  have f0 := (HZ2.out).frozen 0
  have f1 := (HZ2.out).frozen 1
  have f2 := (HZ2.out).frozen 2
  have f3 := (HZ2.out).frozen 3
  have f4 := (HZ2.out).frozen 4
  have f5 := (HZ2.out).frozen 5
  have f6 := (HZ2.out).frozen 6
  have f7 := (HZ2.out).frozen 7
  go_wp2_with fail
  exact bodyPost_ret (results_tr_tmp rfl rfl (put8_at HZ2.out)) rfl ⟨rfl, put8_below (HB1.out.alloc HB1.out.size _) (by omega)⟩

set_option maxHeartbeats 4000000 in
set_option maxRecDepth 100000 in
theorem power_ok (l : List Nat) (hl : Tf l) (q : Nat) (hq : q < 18446744073709551616) (w : World) :
    Calls Try.prog 30 #[.agg (trC l.length (pk (im l) l.length)), .int .u64 (q : Int)] w fun e w' => e = .returned (.tuple #[trL (pwr l q), .int .i64 0]) ∧ Below w.heap.size w w' := by
  have HZ : Hid (TrAt ((w.alloc (.cells (trC l.length (pk (im l) l.length)) 26)).alloc (.cells #[.int .i64 0, .int .u64 0, .int .u64 0, .int .u64 0, .int .u64 0, .int .u64 0, .int .u64 0, .int .u64 0] 26)) (w.heap.size + 1) 0 (fun _ => 0)) := tr_z2 _ _
  have H1 : Hid (((w.alloc (.cells (trC l.length (pk (im l) l.length)) 26)).alloc (.cells #[.int .i64 0, .int .u64 0, .int .u64 0, .int .u64 0, .int .u64 0, .int .u64 0, .int .u64 0, .int .u64 0] 26)).heap[w.heap.size]? = some (.cells (trC l.length (pk (im l) l.length)) 26 (0, 0))) := by
    show _ = _
    rw [heap_allo (by simp)]; exact heap_last _ _
  have HB0 : Hid (Below w.heap.size w ((w.alloc (.cells (trC l.length (pk (im l) l.length)) 26)).alloc (.cells #[.int .i64 0, .int .u64 0, .int .u64 0, .int .u64 0, .int .u64 0, .int .u64 0, .int .u64 0, .int .u64 0] 26))) := ((Below.refl _ _).alloc (Nat.le_refl _) _).alloc (by simp) _
  have HS0 : Hid (((w.alloc (.cells (trC l.length (pk (im l) l.length)) 26)).alloc (.cells #[.int .i64 0, .int .u64 0, .int .u64 0, .int .u64 0, .int .u64 0, .int .u64 0, .int .u64 0, .int .u64 0] 26)).heap.size = w.heap.size + 2) := by show _ = _; simp
  have hz := Try.zero_mv
  have hne := mvC_ne 0 fun _ => 0
  have hsz := mvC_size 0 fun _ => 0
  go_enter Try.func30, Try.ntmps30
  go_wp2_with (refine wpList_load_row rfl 26 _ rfl (w.heap.size) rfl 26 (trC l.length (pk (im l) l.length)) (0, 0) _ (H1.out) Try.underlying26 rfl (rfl) ?_)
  refine (open_ok l hl _).mono ?_
  rintro e w1 ⟨rfl, hB1⟩
  have HB1 : Hid (Below w.heap.size w w1) := HB0.out.trans (hB1.mono (by rw [HS0.out]; omega))
  have HZ1 : Hid (TrAt w1 (w.heap.size + 1) 0 (fun _ => 0)) := HZ.out.of (hB1.block _ HZ.out.lt)
  have HS1 : Hid (w.heap.size + 2 ≤ w1.heap.size) := by have := hB1.size; rw [HS0.out] at this; exact this
  have H11 : Hid (TrAt w1 w.heap.size l.length (pk (im l) l.length)) := TrAt.of H1.out (hB1.block _ (by rw [HS0.out]; omega))
  clear hB1
  have hst := st_mvNew2 w1 l.length (im l)
  have hszl := mvC_size l.length (im l)
  have HZ2 : Hid (TrAt (w1.alloc (.cells (mvC l.length (im l)) 91)) (w.heap.size + 1) 0 (fun _ => 0)) := HZ1.out.of (heap_allo HZ1.out.lt _)
  have HM1 : Hid (MvAt (w1.alloc (.cells (mvC l.length (im l)) 91)) w1.heap.size l.length (im l)) := mv_last _ _ _
  have H12 := (H11.out.of (heap_allo H11.out.lt (.cells (mvC l.length (im l)) 91))).cellN
  have HB2 : Hid (Below w.heap.size w (w1.alloc (.cells (mvC l.length (im l)) 91))) := HB1.out.alloc HB1.out.size _
  go_wp2_with fail
  refine (still_any l.length hl.le _).mono ?_
  rintro e w2 ⟨rfl, hB2⟩
  have HB3 : Hid (Below w.heap.size w w2) := HB2.out.trans (hB2.mono HB2.out.size)
  have HZ3 : Hid (TrAt w2 (w.heap.size + 1) 0 (fun _ => 0)) := HZ2.out.of (hB2.block _ HZ2.out.lt)
  have HM2 : Hid (MvAt w2 w1.heap.size l.length (im l)) := HM1.out.of (hB2.block _ HM1.out.lt)
  have HS2 : Hid (w1.heap.size < w2.heap.size) := Nat.lt_of_lt_of_le HM1.out.lt hB2.size
  clear hB2 hst H12
  have e1 : mvL (stl l.length) = .agg (mvC l.length (im (pwr l 0))) := by unfold mvL mvV; rw [stl_len]; rfl
  rw [e1]
  clear e1
  have hst := st_mvNew2 w2 l.length (im (pwr l 0))
  have hsz0 := mvC_size l.length (im (pwr l 0))
  have HP : Hid (PwAt w (w2.alloc (.cells (mvC l.length (im (pwr l 0))) 91)) (w.heap.size + 1) w1.heap.size w2.heap.size l 1 0) := by
    refine ⟨HZ3.out.of (heap_allo HZ3.out.lt _), ?_, mv_last _ _ _, HB3.out.alloc HB3.out.size _⟩
    rw [pwr_one]
    exact HM2.out.of (heap_allo HM2.out.lt _)
  go_wp2_with fail
  clear hst hz hne hsz hszl hsz0
  go_loopw [1] (fun vq wr => ∃ x a b : Nat, vq = .int .u64 (x : Int) ∧ b + a * x = q ∧ x < 18446744073709551616 ∧ PwAt w wr (w.heap.size + 1) w1.heap.size w2.heap.size l a b) (fun vq _ => (intOf vq).toNat)
  case atStart => exact ⟨q, 1, 0, rfl, by omega, hq, HP.out⟩
  case round =>
    clear HP
    obtain ⟨x, a, b, rfl, hx, hx64, hF⟩ := hrel
    have HX : Hid (b + a * x = q) := hx
    have HF : Hid (PwAt w wr (w.heap.size + 1) w1.heap.size w2.heap.size l a b) := hF
    clear hx hF
    by_cases hpos : 0 < x
    · have hI : (0 : Int) < x := by omega
      have hand : bits .and .u64 (x : Int) 1 = ((x % 2 : Nat) : Int) := by
        have := bits_and_u64_nat x 1 hx64 (by decide)
        rw [Nat.and_one_is_mod] at this
        exact this
      have HDV : Hid ((x : Int) / 2 = ((x / 2 : Nat) : Int)) := by show _ = _; omega
      by_cases hodd : x % 2 = 1
      · rw [hodd] at hand
        have HY : Hid (b + a + (a + a) * (x / 2) = q) := by
          show b + a + (a + a) * (x / 2) = q
          rw [← HX.out]
          have e : x = 2 * (x / 2) + 1 := by omega
          conv => rhs; rw [e]
          rw [Nat.mul_add, Nat.mul_one, ← Nat.mul_assoc, Nat.mul_two]
          omega
        have HD : Hid (x / 2 < x ∧ x / 2 < 18446744073709551616) := ⟨by omega, by omega⟩
        clear hodd
        go_wp2_with (first
          | refine wpList_load_row rfl 91 _ rfl (w2.heap.size) rfl 91 (mvC l.length (im (pwr l b))) (0, 0) _ (HF.out.out) Try.underlying91 rfl (inf_mv _ _) ?_
          | refine wpList_load_row rfl 91 _ rfl (w1.heap.size) rfl 91 (mvC l.length (im (pwr l a))) (0, 0) _ (HF.out.sq) Try.underlying91 rfl (inf_mv _ _) ?_)
        refine (pwr_then l hl b a _).mono ?_
        rintro e y1 ⟨rfl, hy1⟩
        have HF1 : Hid (PwAt w y1 (w.heap.size + 1) w1.heap.size w2.heap.size l a b) := HF.out.stay hy1
        have hs1 := st_mv (m := l.length) (g := im (pwr l (b + a))) HF1.out.out
        have hz1 := mvC_size l.length (im (pwr l (b + a)))
        have HF2 : Hid (PwAt w (y1.setRow w2.heap.size (mvC l.length (im (pwr l (b + a))))) (w.heap.size + 1) w1.heap.size w2.heap.size l a (b + a)) := HF1.out.putO (by have := HS1.out; have := HS2.out; omega) (by have := HS2.out; omega) (by have := HS1.out; have := HS2.out; omega) _
        clear hy1
        go_wp2_with (refine wpList_load_row rfl 91 _ rfl (w1.heap.size) rfl 91 (mvC l.length (im (pwr l a))) (0, 0) _ (HF2.out.sq) Try.underlying91 rfl (inf_mv _ _) ?_)
        refine (pwr_then l hl a a _).mono ?_
        rintro e y2 ⟨rfl, hy2⟩
        have HF3 : Hid (PwAt w y2 (w.heap.size + 1) w1.heap.size w2.heap.size l a (b + a)) := HF2.out.stay hy2
        clear hs1 hz1
        have hs1 := st_mv (m := l.length) (g := im (pwr l (a + a))) HF3.out.sq
        have hz1 := mvC_size l.length (im (pwr l (a + a)))
        have HF4 : Hid (PwAt w (y2.setRow w1.heap.size (mvC l.length (im (pwr l (a + a))))) (w.heap.size + 1) w1.heap.size w2.heap.size l (a + a) (b + a)) := HF3.out.putS (by have := HS1.out; omega) (by have := HS2.out; omega) (by have := HS1.out; omega) _
        clear hy2
        go_wp2_with fail
        go_roundw
        case rel => exact ⟨x / 2, a + a, b + a, by rw [← HDV.out] <;> simp, HY.out, HD.out.2, HF4.out⟩
        case measure => have := HD.out; simp [intOf]; omega
      · have h0 : x % 2 = 0 := by omega
        rw [h0] at hand
        have HY : Hid (b + (a + a) * (x / 2) = q) := by
          show b + (a + a) * (x / 2) = q
          rw [← HX.out]
          have e : x = 2 * (x / 2) := by omega
          conv => rhs; rw [e]
          rw [← Nat.mul_assoc, Nat.mul_two]
        have HD : Hid (x / 2 < x ∧ x / 2 < 18446744073709551616) := ⟨by omega, by omega⟩
        clear hodd h0
        go_wp2_with (refine wpList_load_row rfl 91 _ rfl (w1.heap.size) rfl 91 (mvC l.length (im (pwr l a))) (0, 0) _ (HF.out.sq) Try.underlying91 rfl (inf_mv _ _) ?_)
        refine (pwr_then l hl a a _).mono ?_
        rintro e y2 ⟨rfl, hy2⟩
        have HF3 : Hid (PwAt w y2 (w.heap.size + 1) w1.heap.size w2.heap.size l a b) := HF.out.stay hy2
        have hs1 := st_mv (m := l.length) (g := im (pwr l (a + a))) HF3.out.sq
        have hz1 := mvC_size l.length (im (pwr l (a + a)))
        have HF4 : Hid (PwAt w (y2.setRow w1.heap.size (mvC l.length (im (pwr l (a + a))))) (w.heap.size + 1) w1.heap.size w2.heap.size l (a + a) b) := HF3.out.putS (by have := HS1.out; omega) (by have := HS2.out; omega) (by have := HS1.out; omega) _
        clear hy2
        go_wp2_with fail
        go_roundw
        case rel => exact ⟨x / 2, a + a, b, by rw [← HDV.out] <;> simp, HY.out, HD.out.2, HF4.out⟩
        case measure => have := HD.out; simp [intOf]; omega
    · have hI : ¬ (0 : Int) < x := by omega
      have HE : Hid (b = q) := by
        show b = q
        have h0 : x = 0 := by omega
        rw [← HX.out, h0]
        rfl
      go_wp2_with (refine wpList_load_row rfl 91 _ rfl (w2.heap.size) rfl 91 (mvC l.length (im (pwr l b))) (0, 0) _ (HF.out.out) Try.underlying91 rfl (inf_mv _ _) ?_)
      refine (pack_any l.length (im (pwr l b)) hl.le (fun i hi => (pwr_tf hl b).lt64 i (by rw [pwr_len]; exact hi)) wr).mono ?_
      rintro e y1 ⟨rfl, hy1⟩
      have HF1 : Hid (PwAt w y1 (w.heap.size + 1) w1.heap.size w2.heap.size l a b) := HF.out.stay hy1
      have hs := st_tr (M := (l.length : Int)) (g := pk (im (pwr l b)) l.length) HF1.out.res
      clear hy1
      unfold trV
      go_wp2_with fail
      refine bodyPost_ret (results_tr_tmp rfl rfl HF1.out.res.row) rfl ⟨?_, below_row HF1.out.below (by omega)⟩
      rw [HE.out]
      unfold trL
      rw [pwr_len]
      rfl

end Go.Proofs.Ythglficjhgpegaa
