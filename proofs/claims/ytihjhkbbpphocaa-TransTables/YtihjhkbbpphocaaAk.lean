/- trans: Make. -/
import Derived.Test.YtihjhkbbpphocaaAj
import Derived.Test.YtihjhkbbpphocaaBo
namespace Go.Proofs.Ytihjhkbbpphocaa
open Go Go.RowKit Go.Lib
set_option linter.unusedVariables false

/-- Images that are told as ints. -/
def toL (xs : List Int) : List Nat := xs.map Int.toNat
theorem toL_len (xs : List Int) : (toL xs).length = xs.length := by simp [toL]
theorem toL_im (xs : List Int) (i : Nat) : im (toL xs) i = (xs.getD i 0).toNat := by
  unfold im toL
  rw [List.getD_eq_getElem?_getD, List.getD_eq_getElem?_getD, List.getElem?_map]
  cases xs[i]? <;> rfl
def okL (xs : List Int) : Prop := 1 ≤ xs.length ∧ xs.length ≤ 64 ∧ ∀ i, i < xs.length → 0 ≤ xs.getD i 0 ∧ xs.getD i 0 < xs.length
theorem okL_tf {xs : List Int} (h : okL xs) : Tf (toL xs) := ⟨by rw [toL_len]; exact h.1, by rw [toL_len]; exact h.2.1, fun i hi => by
  rw [toL_len] at hi ⊢
  rw [toL_im]
  have := h.2.2 i hi
  omega⟩
instance (xs : List Int) : Decidable (okL xs) := by unfold okL; infer_instance
/-- What Make answers. -/
def mkV (xs : List Int) : Value := if 1 ≤ xs.length ∧ xs.length ≤ 64 then (if okL xs then .tuple #[trL (toL xs), .int .i64 0] else .tuple #[trZ, .int .i64 11]) else .tuple #[trZ, .int .i64 6]
/-- What stands in Make's loop. -/
structure MkAt (w wr : World) (n i : Nat) (f : Nat → Nat) : Prop where
  res : TrAt wr w.heap.size 0 (fun _ => 0)
  out : MvAt wr (w.heap.size + 1) n (upto f i)
  below : Below w.heap.size w wr
theorem MkAt.put {w wr : World} {n i : Nat} {f : Nat → Nat} (h : MkAt w wr n i f) (hi : i < 64) : MkAt w (wr.setCell ⟨w.heap.size + 1, 1 + i, none⟩ (.int .u8 (f i : Nat))) n (i + 1) f := by
  refine ⟨h.res.of (heap_set_oth (by omega)), ?_, h.below.setCell (p := ⟨w.heap.size + 1, 1 + i, none⟩) (by simp) _⟩
  rw [← upto_succ]
  exact h.out.set' _ hi

set_option maxHeartbeats 4000000 in
set_option maxRecDepth 100000 in
theorem make_any (v : Value) (xs : List Int) (w : World) (hv : Reads w v xs) (hm : xs.length ≤ 9223372036854775806) :
    Calls Try.prog 8 #[v] w fun e w' => e = .returned (mkV xs) ∧ Below w.heap.size w w' := by
  obtain ⟨a, cap, rfl, hr⟩ := hv
  have HR : Hid (∀ i, i < xs.length → ∃ g o, a = some ⟨g, o, none⟩ ∧ g < w.heap.size ∧ w.cell? ⟨g, o + i, none⟩ = some (.int .i64 (xs.getD i 0))) := hr
  clear hr
  have HZ : Hid (TrAt (w.alloc (.cells #[.int .i64 0, .int .u64 0, .int .u64 0, .int .u64 0, .int .u64 0, .int .u64 0, .int .u64 0, .int .u64 0] 26)) w.heap.size 0 (fun _ => 0)) := tr_z w
  have HB0 : Hid (Below w.heap.size w (w.alloc (.cells #[.int .i64 0, .int .u64 0, .int .u64 0, .int .u64 0, .int .u64 0, .int .u64 0, .int .u64 0, .int .u64 0] 26))) := (Below.refl _ _).alloc (Nat.le_refl _) _
  by_cases hN : 1 ≤ xs.length ∧ xs.length ≤ 64
  · have hd : decide (1 ≤ (xs.length : Int) ∧ (xs.length : Int) ≤ 64) = true := decide_eq_true (by omega)
    have hz := Try.zero_mv
    have hsz := mvC_size 0 fun _ => 0
    have hne := mvC_ne 0 fun _ => 0
    have hst := st_mvNew (w.alloc (.cells #[.int .i64 0, .int .u64 0, .int .u64 0, .int .u64 0, .int .u64 0, .int .u64 0, .int .u64 0, .int .u64 0] 26)) xs.length
    rw [World.size_alloc] at hst
    have H0 : Hid (MkAt w ((w.alloc (.cells #[.int .i64 0, .int .u64 0, .int .u64 0, .int .u64 0, .int .u64 0, .int .u64 0, .int .u64 0, .int .u64 0] 26)).alloc (.cells (mvC xs.length fun _ => 0) 79)) xs.length 0 (im (toL xs))) := by
      refine ⟨?_, ?_, HB0.out.alloc (by simp) _⟩
      · exact HZ.out.of (heap_allo HZ.out.lt _)
      · have := mv_last (w.alloc (.cells #[.int .i64 0, .int .u64 0, .int .u64 0, .int .u64 0, .int .u64 0, .int .u64 0, .int .u64 0, .int .u64 0] 26)) xs.length (fun _ => 0)
        rw [World.size_alloc] at this
        exact this.congr (fun j _ => (upto_zero _ j).symm)
    go_enter Try.func8, Try.ntmps8
    go_wp2_with (go_at_call 35; refine (isSize_any _ _).mono ?_; rintro e w1 ⟨rfl, rfl⟩; rw [hd])
    clear hz hsz hne hst hd
    go_loopw [18, 6, 7] (fun vi _ _ wr => ∃ i : Nat, vi = .int .i64 i ∧ i ≤ xs.length ∧ (∀ j, j < i → 0 ≤ xs.getD j 0 ∧ xs.getD j 0 < xs.length) ∧ MkAt w wr xs.length i (im (toL xs))) (fun vi _ _ _ => xs.length - (intOf vi).toNat)
    case atStart => exact ⟨0, rfl, Nat.zero_le _, fun j hj => absurd hj (by omega), H0.out⟩
    case round =>
      clear H0 HZ HB0
      obtain ⟨i, rfl, hin, hall, hF⟩ := hrel
      have HA : Hid (∀ j, j < i → 0 ≤ xs.getD j 0 ∧ xs.getD j 0 < xs.length) := hall
      have HF : Hid (MkAt w wr xs.length i (im (toL xs))) := hF
      clear hall
      by_cases hlt : i < xs.length
      · obtain ⟨g, o, rfl, hg, hcell⟩ := HR.out i hlt
        obtain ⟨x, hx⟩ : ∃ x, xs.getD i 0 = x := ⟨_, rfl⟩
        rw [hx, ← below_cell hF.below hg] at hcell
        have HX : Hid (xs.getD i 0 = x) := hx
        have hiI : (i : Int) < xs.length := by omega
        have hi64 : (i : Int) < 64 := by omega
        by_cases hin2 : 0 ≤ x ∧ x < xs.length
        · obtain ⟨m, rfl⟩ : ∃ m : Nat, x = m := ⟨x.toNat, by omega⟩
          have h1 : ¬ ((m : Int) < 0) := by omega
          have h2 : ¬ ((xs.length : Int) ≤ (m : Int)) := by omega
          have hw8 := u8_in (a := m) (by omega)
          have hfz := hF.out.frozen (1 + i)
          have hcl := hF.out.cell' (i := i) (by omega)
          have HN : Hid (MkAt w (wr.setCell ⟨w.heap.size + 1, 1 + i, none⟩ (.int .u8 (m : Int))) xs.length (i + 1) (im (toL xs))) := by
            have := hF.put (by omega)
            rw [toL_im, hx, Int.toNat_natCast] at this
            exact this
          have HD : Hid (∀ j, j < i + 1 → 0 ≤ xs.getD j 0 ∧ xs.getD j 0 < xs.length) := fun j hj => by
            by_cases q : j = i
            · rw [q, hx]; omega
            · exact HA.out j (by omega)
          clear hF hx hin2
          go_wp2_with fail
          go_roundw
          case rel => exact ⟨i + 1, by go_num, by omega, HD.out, HN.out⟩
          case measure => simp [intOf]; omega
        · have HE : Hid (mkV xs = .tuple #[trZ, .int .i64 11]) := by
            show mkV xs = _
            unfold mkV
            rw [if_pos hN, if_neg]
            intro q
            have := q.2.2 i hlt
            rw [hx] at this
            exact hin2 this
          obtain ⟨c0, c1, c2, c3, c4, c5, c6, c7⟩ := (hF.res).gets
          have f0 := (hF.res).frozen 0
          have f1 := (hF.res).frozen 1
          have f2 := (hF.res).frozen 2
          have f3 := (hF.res).frozen 3
          have f4 := (hF.res).frozen 4
          have f5 := (hF.res).frozen 5
          have f6 := (hF.res).frozen 6
          have f7 := (hF.res).frozen 7
          have HRS : Hid (TrAt wr w.heap.size 0 (fun _ => 0)) := hF.res
          clear hF hx
          by_cases hneg : x < 0
          · go_wp2_with fail
            rw [HE.out]
            exact bodyPost_ret (results_tr_tmp rfl rfl (put8_at HRS.out)) rfl ⟨rfl, put8_below HF.out.below (Nat.le_refl _)⟩
          · have h2 : (xs.length : Int) ≤ x := by omega
            go_wp2_with fail
            rw [HE.out]
            exact bodyPost_ret (results_tr_tmp rfl rfl (put8_at HRS.out)) rfl ⟨rfl, put8_below HF.out.below (Nat.le_refl _)⟩
      · have hiI : ¬ (i : Int) < xs.length := by omega
        have HI : Hid (i = xs.length) := by show i = _; omega
        have HOK : Hid (okL xs) := ⟨hN.1, hN.2, fun j hj => HA.out j (by omega)⟩
        have HE : Hid (mkV xs = .tuple #[trL (toL xs), .int .i64 0]) := by
          show mkV xs = _
          unfold mkV
          rw [if_pos hN, if_pos HOK.out]
        clear hF
        go_wp2_with (refine wpList_load_row rfl 79 _ rfl (w.heap.size + 1) rfl 79 (mvC xs.length (upto (im (toL xs)) i)) (0, 0) _ (HF.out.out) Try.underlying79 rfl (inf_mv _ _) ?_)
        refine (pack_any xs.length (upto (im (toL xs)) i) hN.2 (fun j hj => by
          have := HOK.out.2.2 j hj
          refine Nat.lt_of_le_of_lt (upto_le _ _ _) ?_
          rw [toL_im]
          omega) wr).mono ?_
        rintro e y1 ⟨rfl, hy1⟩
        have HZ1 : Hid (TrAt y1 w.heap.size 0 (fun _ => 0)) := HF.out.res.of (hy1.block _ HF.out.res.lt)
        have HB1 : Hid (Below w.heap.size w y1) := HF.out.below.trans (hy1.mono HF.out.below.size)
        have hs := st_tr (M := (xs.length : Int)) (g := pk (upto (im (toL xs)) i) xs.length) HZ1.out
        clear hy1
        unfold trV
        go_wp2_with fail
        rw [HE.out]
        refine bodyPost_ret (results_tr_tmp rfl rfl HZ1.out.row) rfl ⟨?_, below_row HB1.out (Nat.le_refl _)⟩
        have e : trV xs.length (pk (upto (im (toL xs)) i) xs.length) = trL (toL xs) := by
          unfold trL trV
          rw [toL_len]
          refine congrArg Value.agg (trC_congr ?_)
          intro k _
          apply pk_congr
          intro j hj
          unfold upto
          rw [if_pos (by rw [HI.out]; exact hj)]
        rw [← e]
        rfl
  · have hd : decide (1 ≤ (xs.length : Int) ∧ (xs.length : Int) ≤ 64) = false := decide_eq_false (by omega)
    have HE : Hid (mkV xs = .tuple #[trZ, .int .i64 6]) := by show mkV xs = _; unfold mkV; rw [if_neg hN]
    obtain ⟨c0, c1, c2, c3, c4, c5, c6, c7⟩ := (HZ.out).gets
    have f0 := (HZ.out).frozen 0
    have f1 := (HZ.out).frozen 1
    have f2 := (HZ.out).frozen 2
    have f3 := (HZ.out).frozen 3
    have f4 := (HZ.out).frozen 4
    have f5 := (HZ.out).frozen 5
    have f6 := (HZ.out).frozen 6
    have f7 := (HZ.out).frozen 7
    go_enter Try.func8, Try.ntmps8
    go_wp2_with (go_at_call 35; refine (isSize_any _ _).mono ?_; rintro e w1 ⟨rfl, rfl⟩; rw [hd])
    rw [HE.out]
    exact bodyPost_ret (results_tr_tmp rfl rfl HZ.out) rfl ⟨rfl, HB0.out⟩

end Go.Proofs.Ytihjhkbbpphocaa
