/- The document of layer 13: Power, Compose. -/
import Derived.Test.YthglficjhgpegaaCc
namespace Go.Proofs.Ythglficjhgpegaa
open Go Go.RowKit Go.Lib
set_option linter.unusedVariables false

theorem reads_own {w : World} {base n : Nat} {v : Value} {l : List Nat} (e : l.length = n) (h : w.ownsRow base 3 1 v n (zC (pI l))) : Reads w v (pI l) := by
  apply own_reads (base := base)
  rw [pI_len, e]
  exact h
theorem st_tC {w : World} {b : Nat} {N : Int} {f : Nat → Nat} (h : TrAt w b N f) (l : List Nat) : (storeCells ⟨b, 0, none⟩ (tC l).toList 0).run Try.prog w = .ok () (w.setRow b (tC l)) := st_row h rfl (tC_one l)
theorem row_tC {w : World} {b : Nat} {N : Int} {f : Nat → Nat} (h : TrAt w b N f) (l : List Nat) : TrAt (w.setRow b (tC l)) b l.length (pk (im l) l.length) := TrAt.row h
/-- What stands in Power's loop of the document. -/
structure RpAt (w wr : World) (r : Nat) (l : List Nat) (v1 v2 : Value) (a b : Nat) : Prop where
  res : TrAt wr r 0 (fun _ => 0)
  sq : Reads wr v1 (pI (pwr l a))
  out : Reads wr v2 (pI (pwr l b))
  below : Below w.heap.size w wr
theorem RpAt.stay {w wr y : World} {r a b : Nat} {l : List Nat} {v1 v2 : Value} (h : RpAt w wr r l v1 v2 a b) (hb : Below wr.heap.size wr y) : RpAt w y r l v1 v2 a b :=
  ⟨h.res.of (hb.block _ h.res.lt), h.sq.below hb, h.out.below hb, h.below.trans (hb.mono h.below.size)⟩
theorem rpwr_then (l : List Nat) (h : Tf l) (a b : Nat) (v1 v2 : Value) (w : World) (r1 : Reads w v1 (pI (pwr l a))) (r2 : Reads w v2 (pI (pwr l b))) :
    Calls Try.prog 59 #[v1, v2] w fun e w' => ∃ v', e = .returned v' ∧ Reads w' v' (pI (pwr l (a + b))) ∧ Below w.heap.size w w' := by
  refine (rthen_any v1 v2 (pwr l a) (pwr l b) w r1 r2 (pwr_tf h a).le (pwr_tf h b).le (fun i hi => by rw [pwr_len]; have := (pwr_tf h a).lt i hi; rw [pwr_len] at this; exact this)).mono ?_
  rintro e w' ⟨v', rfl, hO, hB⟩
  refine ⟨v', rfl, ?_, hB⟩
  rw [pwr_add h]
  exact reads_own (cmp_len _ _) hO

set_option maxHeartbeats 2000000 in
set_option maxRecDepth 100000 in
theorem rpower_bad (N : Int) (g : Nat → Nat) (hg : W64 g) (h : ¬ okT N g) (q : Int) (w : World) :
    Calls Try.prog 33 #[.agg (trC N g), .int .u64 q] w fun e w' => e = .returned (.tuple #[trZ, .int .i64 130]) ∧ Below w.heap.size w w' := by
  have HZ : Hid (TrAt ((w.alloc (.cells (trC N g) 26)).alloc (.cells #[.int .i64 0, .int .u64 0, .int .u64 0, .int .u64 0, .int .u64 0, .int .u64 0, .int .u64 0, .int .u64 0] 26)) (w.heap.size + 1) 0 (fun _ => 0)) := tr_z2 _ _
  have H1 : Hid (((w.alloc (.cells (trC N g) 26)).alloc (.cells #[.int .i64 0, .int .u64 0, .int .u64 0, .int .u64 0, .int .u64 0, .int .u64 0, .int .u64 0, .int .u64 0] 26)).heap[w.heap.size]? = some (.cells (trC N g) 26 (0, 0))) := by
    show _ = _
    rw [heap_allo (by simp)]; exact heap_last _ _
  have HB0 : Hid (Below w.heap.size w ((w.alloc (.cells (trC N g) 26)).alloc (.cells #[.int .i64 0, .int .u64 0, .int .u64 0, .int .u64 0, .int .u64 0, .int .u64 0, .int .u64 0, .int .u64 0] 26))) := ((Below.refl _ _).alloc (Nat.le_refl _) _).alloc (by simp) _
  have HS0 : Hid (((w.alloc (.cells (trC N g) 26)).alloc (.cells #[.int .i64 0, .int .u64 0, .int .u64 0, .int .u64 0, .int .u64 0, .int .u64 0, .int .u64 0, .int .u64 0] 26)).heap.size = w.heap.size + 2) := by show _ = _; simp
  go_enter Try.func33, Try.ntmps33
  go_wp2_with (refine wpList_load_row rfl 26 _ rfl (w.heap.size) rfl 26 (trC N g) (0, 0) _ (H1.out) Try.underlying26 rfl (rfl) ?_)
  refine (rlist_bad N g hg h _).mono ?_
  rintro e w1 ⟨rfl, hB1⟩
  have HB1 : Hid (Below w.heap.size w w1) := HB0.out.trans (hB1.mono (by rw [HS0.out]; omega))
  have HZ1 : Hid (TrAt w1 (w.heap.size + 1) 0 (fun _ => 0)) := HZ.out.of (hB1.block _ HZ.out.lt)
  clear hB1
  obtain ⟨c0, c1, c2, c3, c4, c5, c6, c7⟩ := (HZ1.out).gets
  have f0 := (HZ1.out).frozen 0
  have f1 := (HZ1.out).frozen 1
  have f2 := (HZ1.out).frozen 2
  have f3 := (HZ1.out).frozen 3
  have f4 := (HZ1.out).frozen 4
  have f5 := (HZ1.out).frozen 5
  have f6 := (HZ1.out).frozen 6
  have f7 := (HZ1.out).frozen 7
  go_wp2_with fail
  exact bodyPost_ret (results_tr_tmp rfl rfl (put8_at HZ1.out)) rfl ⟨rfl, put8_below HB1.out (by omega)⟩

set_option maxHeartbeats 4000000 in
set_option maxRecDepth 100000 in
theorem rpower_ok (l : List Nat) (hl : Tf l) (q : Nat) (hq : q < 18446744073709551616) (w : World) :
    Calls Try.prog 33 #[.agg (tC l), .int .u64 (q : Int)] w fun e w' => e = .returned (.tuple #[trL (pwr l q), .int .i64 0]) ∧ Below w.heap.size w w' := by
  have HZ : Hid (TrAt ((w.alloc (.cells (tC l) 26)).alloc (.cells #[.int .i64 0, .int .u64 0, .int .u64 0, .int .u64 0, .int .u64 0, .int .u64 0, .int .u64 0, .int .u64 0] 26)) (w.heap.size + 1) 0 (fun _ => 0)) := tr_z2 _ _
  have H1 : Hid (((w.alloc (.cells (tC l) 26)).alloc (.cells #[.int .i64 0, .int .u64 0, .int .u64 0, .int .u64 0, .int .u64 0, .int .u64 0, .int .u64 0, .int .u64 0] 26)).heap[w.heap.size]? = some (.cells (tC l) 26 (0, 0))) := by
    show _ = _
    rw [heap_allo (by simp)]; exact heap_last _ _
  have HB0 : Hid (Below w.heap.size w ((w.alloc (.cells (tC l) 26)).alloc (.cells #[.int .i64 0, .int .u64 0, .int .u64 0, .int .u64 0, .int .u64 0, .int .u64 0, .int .u64 0, .int .u64 0] 26))) := ((Below.refl _ _).alloc (Nat.le_refl _) _).alloc (by simp) _
  have HS0 : Hid (((w.alloc (.cells (tC l) 26)).alloc (.cells #[.int .i64 0, .int .u64 0, .int .u64 0, .int .u64 0, .int .u64 0, .int .u64 0, .int .u64 0, .int .u64 0] 26)).heap.size = w.heap.size + 2) := by show _ = _; simp
  go_enter Try.func33, Try.ntmps33
  go_wp2_with (refine wpList_load_row rfl 26 _ rfl (w.heap.size) rfl 26 (tC l) (0, 0) _ (H1.out) Try.underlying26 rfl (rfl) ?_)
  refine (rlist_ok l hl _).mono ?_
  rintro e w1 ⟨v1, rfl, hO, hB1⟩
  have HB1 : Hid (Below w.heap.size w w1) := HB0.out.trans (hB1.mono (by rw [HS0.out]; omega))
  have HZ1 : Hid (TrAt w1 (w.heap.size + 1) 0 (fun _ => 0)) := HZ.out.of (hB1.block _ HZ.out.lt)
  have HR1 : Hid (Reads w1 v1 (pI l)) := reads_own rfl hO
  obtain ⟨g1, c1, hv1⟩ := own_shape hO
  subst hv1
  clear hB1 hO
  go_wp2_with fail
  refine (rest_any l.length hl.le _).mono ?_
  rintro e w2 ⟨v2, rfl, hO, hB2⟩
  have HP : Hid (RpAt w w2 (w.heap.size + 1) l (.slice g1 l.length c1) v2 1 0) := by
    refine ⟨HZ1.out.of (hB2.block _ HZ1.out.lt), ?_, ?_, HB1.out.trans (hB2.mono HB1.out.size)⟩
    · rw [pwr_one]; exact HR1.out.below hB2
    · exact reads_own (stl_len _) hO
  clear hB2 hO
  go_wp2_with fail
  go_loopw [1, 6, 8] (fun vq vl vo wr => ∃ x a b : Nat, vq = .int .u64 (x : Int) ∧ b + a * x = q ∧ x < 18446744073709551616 ∧ RpAt w wr (w.heap.size + 1) l vl vo a b) (fun vq _ _ _ => (intOf vq).toNat)
  case atStart => exact ⟨q, 1, 0, rfl, by omega, hq, HP.out⟩
  case round =>
    clear HP
    obtain ⟨x, a, b, rfl, hx, hx64, hF⟩ := hrel
    have HX : Hid (b + a * x = q) := hx
    clear hx
    rename_i vl vo
    have HF : Hid (RpAt w wr (w.heap.size + 1) l _ _ a b) := hF
    clear hF
    by_cases hpos : 0 < x
    · have hI : (0 : Int) < x := by omega
      obtain ⟨y, hye⟩ : ∃ y, x / 2 = y := ⟨_, rfl⟩
      have d1 : (x : Int).tdiv 2 = (y : Int) := by rw [Int.tdiv_eq_ediv_of_nonneg (by omega)]; omega
      have d2 : IntKind.u64.wrap (y : Int) = (y : Int) := by rw [IntKind.wrap_u64]; omega
      have hyx : y < x := by omega
      have hy64 : y < 18446744073709551616 := by omega
      by_cases hodd : x % 2 = 1
      · have m1 : (x : Int).tmod 2 = 1 := by rw [Int.tmod_eq_emod_of_nonneg (by omega)]; omega
        have HY : Hid (b + a + (a + a) * y = q) := by
          show b + a + (a + a) * y = q
          rw [← HX.out]
          have e : x = 2 * y + 1 := by omega
          conv => rhs; rw [e]
          rw [Nat.mul_add, Nat.mul_one, ← Nat.mul_assoc, Nat.mul_two]
          omega
        clear hodd hye
        go_wp2_with fail
        refine (rpwr_then l hl b a _ _ _ HF.out.out HF.out.sq).mono ?_
        rintro e y1 ⟨v3, rfl, r3, hy1⟩
        have HF1 : Hid (RpAt w y1 (w.heap.size + 1) l _ v3 a (b + a)) := ⟨(HF.out.stay hy1).res, (HF.out.stay hy1).sq, r3, (HF.out.stay hy1).below⟩
        clear hy1 r3
        go_wp2_with fail
        refine (rpwr_then l hl a a _ _ _ HF1.out.sq HF1.out.sq).mono ?_
        rintro e y2 ⟨v4, rfl, r4, hy2⟩
        have HF2 : Hid (RpAt w y2 (w.heap.size + 1) l v4 v3 (a + a) (b + a)) := ⟨(HF1.out.stay hy2).res, r4, (HF1.out.stay hy2).out, (HF1.out.stay hy2).below⟩
        clear hy2 r4
        go_wp2_with fail
        go_roundw
        case rel => exact ⟨y, a + a, b + a, rfl, HY.out, hy64, HF2.out⟩
        case measure => simp [intOf]; omega
      · have m1 : (x : Int).tmod 2 = 0 := by rw [Int.tmod_eq_emod_of_nonneg (by omega)]; omega
        have HY : Hid (b + (a + a) * y = q) := by
          show b + (a + a) * y = q
          rw [← HX.out]
          have e : x = 2 * y := by omega
          conv => rhs; rw [e]
          rw [← Nat.mul_assoc, Nat.mul_two]
        clear hodd hye
        go_wp2_with fail
        refine (rpwr_then l hl a a _ _ _ HF.out.sq HF.out.sq).mono ?_
        rintro e y2 ⟨v4, rfl, r4, hy2⟩
        have HF2 : Hid (RpAt w y2 (w.heap.size + 1) l v4 _ (a + a) b) := ⟨(HF.out.stay hy2).res, r4, (HF.out.stay hy2).out, (HF.out.stay hy2).below⟩
        clear hy2 r4
        go_wp2_with fail
        go_roundw
        case rel => exact ⟨y, a + a, b, rfl, HY.out, hy64, HF2.out⟩
        case measure => simp [intOf]; omega
    · have hI : ¬ (0 : Int) < x := by omega
      have HE : Hid (b = q) := by
        show b = q
        have h0 : x = 0 := by omega
        rw [← HX.out, h0]
        rfl
      go_wp2_with fail
      refine (packed_any _ (pwr l b) _ HF.out.out (pwr_tf hl b).le (pwr_tf hl b).lt64).mono ?_
      rintro e y1 ⟨rfl, hy1⟩
      have HZ3 : Hid (TrAt y1 (w.heap.size + 1) 0 (fun _ => 0)) := (HF.out.stay hy1).res
      have HB3 : Hid (Below w.heap.size w y1) := (HF.out.stay hy1).below
      have hs := st_tC HZ3.out (pwr l b)
      have hsz := tC_size (pwr l b)
      clear hy1
      go_wp2_with fail
      refine bodyPost_ret (results_tr_tmp rfl rfl (row_tC HZ3.out _)) rfl ⟨?_, below_row HB3.out (by omega)⟩
      rw [HE.out]
      rfl

structure CqAt (w wr : World) (A B : Array Value) : Prop where
  s : wr.heap[w.heap.size]? = some (.cells A 26 (0, 0))
  t : wr.heap[w.heap.size + 1]? = some (.cells B 26 (0, 0))
  res : TrAt wr (w.heap.size + 1 + 1) 0 (fun _ => 0)
  below : Below w.heap.size w wr
theorem CqAt.stay {w wr y : World} {A B : Array Value} (h : CqAt w wr A B) (hb : Below wr.heap.size wr y) : CqAt w y A B :=
  ⟨(hb.block _ (Array.getElem?_eq_some_iff.1 h.s).1).trans h.s, (hb.block _ (Array.getElem?_eq_some_iff.1 h.t).1).trans h.t, h.res.of (hb.block _ h.res.lt), h.below.trans (hb.mono h.below.size)⟩
theorem CqAt.drew {w wr : World} {A B : Array Value} (h : CqAt w wr A B) : CqAt w wr.drew A B := ⟨h.s, h.t, h.res.of rfl, h.below.drew⟩

set_option maxHeartbeats 4000000 in
set_option maxRecDepth 100000 in
theorem rcompose_a (N : Int) (f : Nat → Nat) (hf : W64 f) (h : ¬ okT N f) (M : Int) (g : Nat → Nat) (w : World) :
    Calls Try.prog 32 #[.agg (trC N f), .agg (trC M g)] w fun e w' => e = .returned (.tuple #[trZ, .int .i64 130]) ∧ Below w.heap.size w w' := by
  have HC0 : Hid (CqAt w (((w.alloc (.cells (trC N f) 26)).alloc (.cells (trC M g) 26)).alloc (.cells #[.int .i64 0, .int .u64 0, .int .u64 0, .int .u64 0, .int .u64 0, .int .u64 0, .int .u64 0, .int .u64 0] 26)) (trC N f) (trC M g)) := by
    refine ⟨?_, ?_, tr_z3 _ _ _, (((Below.refl _ _).alloc (Nat.le_refl _) _).alloc (by simp) _).alloc (by simp <;> omega) _⟩
    · rw [heap_allo (by simp <;> omega), heap_allo (by simp)]; exact heap_last _ _
    · rw [heap_allo (by simp)]
      have := heap_last (w.alloc (.cells (trC N f) 26)) (.cells (trC M g) 26)
      rwa [World.size_alloc] at this
  go_enter Try.func32, Try.ntmps32
  go_wp2_with (refine wpList_load_row rfl 26 _ rfl (w.heap.size) rfl 26 (trC N f) (0, 0) _ (HC0.out.s) Try.underlying26 rfl (rfl) ?_)
  refine (rcheck_bad N f hf h _).mono ?_
  rintro e w1 ⟨rfl, hB1⟩
  have HC1 : Hid (CqAt w w1 (trC N f) (trC M g)) := HC0.out.stay hB1
  clear hB1
  obtain ⟨c0, c1, c2, c3, c4, c5, c6, c7⟩ := (HC1.out.res).gets
  have f0 := (HC1.out.res).frozen 0
  have f1 := (HC1.out.res).frozen 1
  have f2 := (HC1.out.res).frozen 2
  have f3 := (HC1.out.res).frozen 3
  have f4 := (HC1.out.res).frozen 4
  have f5 := (HC1.out.res).frozen 5
  have f6 := (HC1.out.res).frozen 6
  have f7 := (HC1.out.res).frozen 7
  go_wp2_with fail
  exact bodyPost_ret (results_tr_tmp rfl rfl (put8_at HC1.out.res)) rfl ⟨rfl, put8_below HC1.out.below (by omega)⟩

set_option maxHeartbeats 4000000 in
set_option maxRecDepth 100000 in
theorem rcompose_b (l : List Nat) (hl : Tf l) (M : Int) (g : Nat → Nat) (hg : W64 g) (h : ¬ okT M g) (w : World) :
    Calls Try.prog 32 #[.agg (tC l), .agg (trC M g)] w fun e w' => e = .returned (.tuple #[trZ, .int .i64 130]) ∧ Below w.heap.size w w' := by
  have HC0 : Hid (CqAt w (((w.alloc (.cells (tC l) 26)).alloc (.cells (trC M g) 26)).alloc (.cells #[.int .i64 0, .int .u64 0, .int .u64 0, .int .u64 0, .int .u64 0, .int .u64 0, .int .u64 0, .int .u64 0] 26)) (tC l) (trC M g)) := by
    refine ⟨?_, ?_, tr_z3 _ _ _, (((Below.refl _ _).alloc (Nat.le_refl _) _).alloc (by simp) _).alloc (by simp <;> omega) _⟩
    · rw [heap_allo (by simp <;> omega), heap_allo (by simp)]; exact heap_last _ _
    · rw [heap_allo (by simp)]
      have := heap_last (w.alloc (.cells (tC l) 26)) (.cells (trC M g) 26)
      rwa [World.size_alloc] at this
  go_enter Try.func32, Try.ntmps32
  go_wp2_with (refine wpList_load_row rfl 26 _ rfl (w.heap.size) rfl 26 (tC l) (0, 0) _ (HC0.out.s) Try.underlying26 rfl (rfl) ?_)
  refine (rcheck_ok l hl _).mono ?_
  rintro e w1 ⟨rfl, hB1⟩
  have HC1 : Hid (CqAt w w1 (tC l) (trC M g)) := HC0.out.stay hB1
  clear hB1
  go_wp2_with (refine wpList_load_row rfl 26 _ rfl (w.heap.size + 1) rfl 26 (trC M g) (0, 0) _ (HC1.out.t) Try.underlying26 rfl (rfl) ?_)
  refine (rcheck_bad M g hg h _).mono ?_
  rintro e w2 ⟨rfl, hB2⟩
  have HC2 : Hid (CqAt w w2 (tC l) (trC M g)) := HC1.out.stay hB2
  clear hB2
  obtain ⟨c0, c1, c2, c3, c4, c5, c6, c7⟩ := (HC2.out.res).gets
  have f0 := (HC2.out.res).frozen 0
  have f1 := (HC2.out.res).frozen 1
  have f2 := (HC2.out.res).frozen 2
  have f3 := (HC2.out.res).frozen 3
  have f4 := (HC2.out.res).frozen 4
  have f5 := (HC2.out.res).frozen 5
  have f6 := (HC2.out.res).frozen 6
  have f7 := (HC2.out.res).frozen 7
  go_wp2_with fail
  exact bodyPost_ret (results_tr_tmp rfl rfl (put8_at HC2.out.res)) rfl ⟨rfl, put8_below HC2.out.below (by omega)⟩

set_option maxHeartbeats 4000000 in
set_option maxRecDepth 100000 in
theorem rcompose_c (l m : List Nat) (hl : Tf l) (hm : Tf m) (h : l.length ≠ m.length) (w : World) :
    Calls Try.prog 32 #[.agg (tC l), .agg (tC m)] w fun e w' => e = .returned (.tuple #[trZ, .int .i64 1]) ∧ Below w.heap.size w w' := by
  have HE : Hid (l.length ≠ m.length) := h
  clear h
  have HC0 : Hid (CqAt w (((w.alloc (.cells (tC l) 26)).alloc (.cells (tC m) 26)).alloc (.cells #[.int .i64 0, .int .u64 0, .int .u64 0, .int .u64 0, .int .u64 0, .int .u64 0, .int .u64 0, .int .u64 0] 26)) (tC l) (tC m)) := by
    refine ⟨?_, ?_, tr_z3 _ _ _, (((Below.refl _ _).alloc (Nat.le_refl _) _).alloc (by simp) _).alloc (by simp <;> omega) _⟩
    · rw [heap_allo (by simp <;> omega), heap_allo (by simp)]; exact heap_last _ _
    · rw [heap_allo (by simp)]
      have := heap_last (w.alloc (.cells (tC l) 26)) (.cells (tC m) 26)
      rwa [World.size_alloc] at this
  go_enter Try.func32, Try.ntmps32
  go_wp2_with (refine wpList_load_row rfl 26 _ rfl (w.heap.size) rfl 26 (tC l) (0, 0) _ (HC0.out.s) Try.underlying26 rfl (rfl) ?_)
  refine (rcheck_ok l hl _).mono ?_
  rintro e w1 ⟨rfl, hB1⟩
  have HC1 : Hid (CqAt w w1 (tC l) (tC m)) := HC0.out.stay hB1
  clear hB1
  go_wp2_with (refine wpList_load_row rfl 26 _ rfl (w.heap.size + 1) rfl 26 (tC m) (0, 0) _ (HC1.out.t) Try.underlying26 rfl (rfl) ?_)
  refine (rcheck_ok m hm _).mono ?_
  rintro e w2 ⟨rfl, hB2⟩
  have HC2 : Hid (CqAt w w2 (tC l) (tC m)) := HC1.out.stay hB2
  clear hB2
  have hc1 : w2.cell? ⟨w.heap.size, 0, none⟩ = some (.int .i64 (l.length : Int)) := (cell_of_row _ _ _ _ _ _ HC2.out.s).trans rfl
  have hc2 : w2.cell? ⟨w.heap.size + 1, 0, none⟩ = some (.int .i64 (m.length : Int)) := (cell_of_row _ _ _ _ _ _ HC2.out.t).trans rfl
  obtain ⟨c0, c1, c2, c3, c4, c5, c6, c7⟩ := (HC2.out.res).gets
  have f0 := (HC2.out.res).frozen 0
  have f1 := (HC2.out.res).frozen 1
  have f2 := (HC2.out.res).frozen 2
  have f3 := (HC2.out.res).frozen 3
  have f4 := (HC2.out.res).frozen 4
  have f5 := (HC2.out.res).frozen 5
  have f6 := (HC2.out.res).frozen 6
  have f7 := (HC2.out.res).frozen 7
  have hI : ((l.length : Int) != (m.length : Int)) = true := by have := HE.out; rw [bne_iff_ne]; omega
  have hI2 : ¬ ((l.length : Int) = (m.length : Int)) := by have := HE.out; omega
  go_wp2_with fail
  exact bodyPost_ret (results_tr_tmp rfl rfl (put8_at HC2.out.res)) rfl ⟨rfl, put8_below HC2.out.below (by omega)⟩

set_option maxHeartbeats 4000000 in
set_option maxRecDepth 100000 in
theorem rcompose_d (l m : List Nat) (hl : Tf l) (hm : Tf m) (h : l.length = m.length) (w : World) :
    Calls Try.prog 32 #[.agg (tC l), .agg (tC m)] w fun e w' => e = .returned (.tuple #[trL (cmp l m), .int .i64 0]) ∧ Below w.heap.size w w' := by
  have HE : Hid (l.length = m.length) := h
  clear h
  have HC0 : Hid (CqAt w (((w.alloc (.cells (tC l) 26)).alloc (.cells (tC m) 26)).alloc (.cells #[.int .i64 0, .int .u64 0, .int .u64 0, .int .u64 0, .int .u64 0, .int .u64 0, .int .u64 0, .int .u64 0] 26)) (tC l) (tC m)) := by
    refine ⟨?_, ?_, tr_z3 _ _ _, (((Below.refl _ _).alloc (Nat.le_refl _) _).alloc (by simp) _).alloc (by simp <;> omega) _⟩
    · rw [heap_allo (by simp <;> omega), heap_allo (by simp)]; exact heap_last _ _
    · rw [heap_allo (by simp)]
      have := heap_last (w.alloc (.cells (tC l) 26)) (.cells (tC m) 26)
      rwa [World.size_alloc] at this
  go_enter Try.func32, Try.ntmps32
  go_wp2_with (refine wpList_load_row rfl 26 _ rfl (w.heap.size) rfl 26 (tC l) (0, 0) _ (HC0.out.s) Try.underlying26 rfl (rfl) ?_)
  refine (rcheck_ok l hl _).mono ?_
  rintro e w1 ⟨rfl, hB1⟩
  have HC1 : Hid (CqAt w w1 (tC l) (tC m)) := HC0.out.stay hB1
  clear hB1
  go_wp2_with (refine wpList_load_row rfl 26 _ rfl (w.heap.size + 1) rfl 26 (tC m) (0, 0) _ (HC1.out.t) Try.underlying26 rfl (rfl) ?_)
  refine (rcheck_ok m hm _).mono ?_
  rintro e w2 ⟨rfl, hB2⟩
  have HC2 : Hid (CqAt w w2 (tC l) (tC m)) := HC1.out.stay hB2
  clear hB2
  have hc1 : w2.cell? ⟨w.heap.size, 0, none⟩ = some (.int .i64 (l.length : Int)) := (cell_of_row _ _ _ _ _ _ HC2.out.s).trans rfl
  have hc2 : w2.cell? ⟨w.heap.size + 1, 0, none⟩ = some (.int .i64 (m.length : Int)) := (cell_of_row _ _ _ _ _ _ HC2.out.t).trans rfl
  have hI : ((l.length : Int) != (m.length : Int)) = false := by have := HE.out; rw [bne_eq_false_iff_eq]; omega
  go_wp2_with fail
  clear hc1 hc2 hI
  refine wp_region_held_drew (S := fun w' => w'.heap[w.heap.size]? = some (.cells (tC l) 26 (0, 0)) ∧ w'.heap[w.heap.size + 1]? = some (.cells (tC m) 26 (0, 0))) (by kernel_rfl) ⟨HC2.out.drew.s, HC2.out.drew.t⟩ (fun hHeld => ?_)
  refine wpAnyH_take (i := 0) (v := .agg (tC l)) rfl (by kernel_rfl) (by kernel_rfl) (by kernel_rfl) (fun _ _ _ h => h) (Or.inl ⟨by rfl, ?_⟩) (by assumption) ?_
  · intro w' hS
    exact ex_load_row (x := .tmp 2) rfl rfl (lv_tr hS.1)
  refine wpAnyH_take (i := 2) (v := .agg (tC m)) rfl (by kernel_rfl) (by kernel_rfl) (by kernel_rfl) (fun _ _ _ h => h) (Or.inl ⟨by rfl, ?_⟩) (by assumption) ?_
  · intro w' hS
    exact ex_load_row (x := .tmp 3) rfl rfl (lv_tr hS.2)
  refine wpAnyH_ready (rs := [1]) (by kernel_rfl) (by simp) ?_
  refine AllReadyH.cons rfl (fun K hK => ?_) AllReadyH.nil
  go_simp
  refine (images_ok l hl _).mono ?_
  rintro e y1 ⟨v1, rfl, hO1, hy1⟩
  have HD1 : Hid (CqAt w y1 (tC l) (tC m)) := HC2.out.drew.stay hy1
  have HR1 : Hid (Reads y1 v1 (pI l)) := reads_own rfl hO1
  clear hy1 hO1
  go_wp2_with fail
  refine hK.out _ _ ⟨HD1.out.s, HD1.out.t⟩ (fun _ => ?_)
  clear hK K
  refine wpAnyH_ready (rs := [3]) (by kernel_rfl) (by simp) ?_
  refine AllReadyH.cons rfl (fun K hK => ?_) AllReadyH.nil
  go_simp
  refine (images_ok m hm _).mono ?_
  rintro e y2 ⟨v2, rfl, hO2, hy2⟩
  have HD2 : Hid (CqAt w y2 (tC l) (tC m)) := HD1.out.stay hy2
  have HR2 : Hid (Reads y2 v1 (pI l)) := HR1.out.below hy2
  have HR3 : Hid (Reads y2 v2 (pI m)) := reads_own rfl hO2
  clear hy2 hO2
  go_wp2_with fail
  refine hK.out _ _ ⟨HD2.out.s, HD2.out.t⟩ (fun _ => ?_)
  clear hK K
  refine wpAnyH_ready (rs := [4]) (by kernel_rfl) (by simp) ?_
  refine AllReadyH.cons rfl (fun K hK => ?_) AllReadyH.nil
  go_simp
  refine (rthen_any v1 v2 l m _ HR2.out HR3.out hl.le hm.le (fun i hi => by have := hl.lt i hi; rw [HE.out] at this; exact this)).mono ?_
  rintro e y3 ⟨v3, rfl, hO3, hy3⟩
  have HD3 : Hid (CqAt w y3 (tC l) (tC m)) := HD2.out.stay hy3
  have HR4 : Hid (Reads y3 v3 (pI (cmp l m))) := reads_own (cmp_len _ _) hO3
  clear hy3 hO3
  go_wp2_with fail
  refine hK.out _ _ ⟨HD3.out.s, HD3.out.t⟩ (fun _ => ?_)
  clear hK K
  refine wpAnyH_ready (rs := [5]) (by kernel_rfl) (by simp) ?_
  refine AllReadyH.cons rfl (fun K hK => ?_) AllReadyH.nil
  go_simp
  have HCT : Hid (Tf (cmp l m)) := cmp_tf hl hm HE.out
  refine (packed_any v3 (cmp l m) _ HR4.out HCT.out.le HCT.out.lt64).mono ?_
  rintro e y4 ⟨rfl, hy4⟩
  have HD4 : Hid (CqAt w y4 (tC l) (tC m)) := HD3.out.stay hy4
  clear hy4
  go_wp2_with fail
  refine hK.out _ _ ⟨HD4.out.s, HD4.out.t⟩ (fun hHeld4 => ?_)
  clear hK K
  refine wpAnyH_ready (rs := [6]) (by kernel_rfl) (by simp) ?_
  refine AllReadyH.cons rfl (fun K hK => ?_) AllReadyH.nil
  have hs := st_tC HD4.out.res (cmp l m)
  have hsz := tC_size (cmp l m)
  go_simp
  refine hK.out _ _ ⟨(setRow_other _ _ _ _ (by omega)).trans HD4.out.s, (setRow_other _ _ _ _ (by omega)).trans HD4.out.t⟩ (fun hHeld5 => ?_)
  clear hK K
  refine wpAnyH_ready (rs := [7]) (by kernel_rfl) (by simp) ?_
  refine AllReadyH.cons rfl (fun K hK => ?_) AllReadyH.nil
  go_simp
  refine hK.out _ _ hHeld5 (fun _ => ?_)
  clear hK K
  refine wpAnyH_done (by kernel_rfl) ?_ _
  clear hs hsz hHeld5 hHeld4 hHeld
  go_wp2_with fail
  exact bodyPost_ret (results_tr_tmp rfl rfl (row_tC HD4.out.res _)) rfl ⟨rfl, below_row HD4.out.below (by omega)⟩

theorem rcompose_any (N : Int) (f : Nat → Nat) (hf : W64 f) (M : Int) (g : Nat → Nat) (hg : W64 g) (w : World) :
    Calls Try.prog 32 #[trV N f, trV M g] w fun e w' => e = .returned (cmV N f M g) ∧ Below w.heap.size w w' := by
  by_cases h1 : okT N f
  · have t1 := dgl_tf h1
    have n1 := dgl_len N f
    rw [dgl_tr h1]
    by_cases h2 : okT M g
    · have t2 := dgl_tf h2
      have n2 := dgl_len M g
      rw [dgl_tr h2]
      have p1 := h1.1
      have p2 := h2.1
      by_cases h3 : N = M
      · have e : cmV N f M g = .tuple #[trL (cmp (dgl N f) (dgl M g)), .int .i64 0] := by unfold cmV; rw [if_pos ⟨h1, h2⟩, if_pos h3]
        rw [e]
        exact rcompose_d _ _ t1 t2 (by rw [n1, n2, h3]) w
      · have e : cmV N f M g = .tuple #[trZ, .int .i64 1] := by unfold cmV; rw [if_pos ⟨h1, h2⟩, if_neg h3]
        rw [e]
        exact rcompose_c _ _ t1 t2 (by rw [n1, n2]; omega) w
    · have e : cmV N f M g = .tuple #[trZ, .int .i64 130] := by unfold cmV; rw [if_neg (fun q => h2 q.2)]
      rw [e]
      exact rcompose_b _ t1 M g hg h2 w
  · have e : cmV N f M g = .tuple #[trZ, .int .i64 130] := by unfold cmV; rw [if_neg (fun q => h1 q.1)]
    rw [e]
    exact rcompose_a N f hf h1 M g w
/-- What Power answers. -/
def pwV (N : Int) (g : Nat → Nat) (q : Nat) : Value := if okT N g then .tuple #[trL (pwr (dgl N g) q), .int .i64 0] else .tuple #[trZ, .int .i64 130]
theorem power_any (N : Int) (g : Nat → Nat) (hg : W64 g) (q : Nat) (hq : q < 18446744073709551616) (w : World) :
    Calls Try.prog 30 #[trV N g, .int .u64 (q : Int)] w fun e w' => e = .returned (pwV N g q) ∧ Below w.heap.size w w' := by
  by_cases h : okT N g
  · have e : pwV N g q = .tuple #[trL (pwr (dgl N g) q), .int .i64 0] := by unfold pwV; rw [if_pos h]
    rw [dgl_tr h, e]
    exact power_ok _ (dgl_tf h) q hq w
  · have e : pwV N g q = .tuple #[trZ, .int .i64 130] := by unfold pwV; rw [if_neg h]
    rw [e]
    exact power_bad N g hg h q w
theorem rpower_any (N : Int) (g : Nat → Nat) (hg : W64 g) (q : Nat) (hq : q < 18446744073709551616) (w : World) :
    Calls Try.prog 33 #[trV N g, .int .u64 (q : Int)] w fun e w' => e = .returned (pwV N g q) ∧ Below w.heap.size w w' := by
  by_cases h : okT N g
  · have e : pwV N g q = .tuple #[trL (pwr (dgl N g) q), .int .i64 0] := by unfold pwV; rw [if_pos h]
    rw [dgl_tr h, e]
    exact rpower_ok _ (dgl_tf h) q hq w
  · have e : pwV N g q = .tuple #[trZ, .int .i64 130] := by unfold pwV; rw [if_neg h]
    rw [e]
    exact rpower_bad N g hg h q w
/-- Every answer is a transformation's value and a number. -/
theorem idV_two (n : Int) : ∃ M f e, idV n = .tuple #[.agg (trC M f), .int .i64 e] := by
  unfold idV
  split
  · exact ⟨_, _, 0, rfl⟩
  · exact ⟨_, _, 6, rfl⟩
theorem cmV_two (N : Int) (f : Nat → Nat) (M : Int) (g : Nat → Nat) : ∃ K h e, cmV N f M g = .tuple #[.agg (trC K h), .int .i64 e] := by
  unfold cmV
  split
  · split
    · exact ⟨_, _, 0, rfl⟩
    · exact ⟨_, _, 1, rfl⟩
  · exact ⟨_, _, 130, rfl⟩
theorem pwV_two (N : Int) (f : Nat → Nat) (q : Nat) : ∃ K h e, pwV N f q = .tuple #[.agg (trC K h), .int .i64 e] := by
  unfold pwV
  split
  · exact ⟨_, _, 0, rfl⟩
  · exact ⟨_, _, 130, rfl⟩
theorem mkV_two (xs : List Int) : ∃ K h e, mkV xs = .tuple #[.agg (trC K h), .int .i64 e] := by
  unfold mkV
  split
  · split
    · exact ⟨_, _, 0, rfl⟩
    · exact ⟨_, _, 11, rfl⟩
  · exact ⟨_, _, 6, rfl⟩

end Go.Proofs.Ythglficjhgpegaa
