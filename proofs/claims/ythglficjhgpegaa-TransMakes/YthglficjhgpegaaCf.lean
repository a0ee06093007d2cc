/- trans.Check; the document's Make. -/
import Derived.Test.YthglficjhgpegaaCd
namespace Go.Proofs.Ythglficjhgpegaa
open Go Go.RowKit Go.Lib
set_option linter.unusedVariables false

set_option maxHeartbeats 2000000 in
set_option maxRecDepth 100000 in
theorem tcheck_any (N : Int) (g : Nat → Nat) (hg : W64 g) (w : World) :
    Calls Try.prog 13 #[.agg (trC N g)] w fun e w' => e = .returned (.int .i64 (ckN N g)) ∧ Below w.heap.size w w' := by
  have H1 : Hid (TrAt (w.alloc (.cells (trC N g) 26)) w.heap.size N g) := heap_last _ _
  have HB0 : Hid (Below w.heap.size w (w.alloc (.cells (trC N g) 26))) := (Below.refl _ _).alloc (Nat.le_refl _) _
  have hz := Try.zero_mv
  have hne := mvC_ne 0 fun _ => 0
  have hsz := mvC_size 0 fun _ => 0
  by_cases h : okT N g
  · have e : ckN N g = 0 := by unfold ckN; rw [if_pos h]
    rw [e]
    have HO : Hid (∀ w, Calls Try.prog 46 #[.agg (trC N g)] w fun e w' => e = .returned (.tuple #[.agg (mvC (dgl N g).length (im (dgl N g))), .int .i64 0]) ∧ Below w.heap.size w w') := fun w => by
      have := open_any N g hg w
      rw [opV_ok h] at this
      exact this
    clear e
    go_enter Try.func13, Try.ntmps13
    go_wp2_with (refine wpList_load_row rfl 26 _ rfl (w.heap.size) rfl 26 (trC N g) (0, 0) _ (H1.out) Try.underlying26 rfl (rfl) ?_)
    refine (HO.out _).mono ?_
    rintro e w1 ⟨rfl, hB1⟩
    have HB1 : Hid (Below w.heap.size w w1) := HB0.out.trans (hB1.mono (by simp))
    clear hB1
    have hst := st_mvNew2 w1 (dgl N g).length (im (dgl N g))
    have hszl := mvC_size (dgl N g).length (im (dgl N g))
    go_wp2_with fail
    go_ret
    exact ⟨rfl, HB1.out.alloc HB1.out.size _⟩
  · have e : ckN N g = 130 := by unfold ckN; rw [if_neg h]
    rw [e]
    clear e
    go_enter Try.func13, Try.ntmps13
    go_wp2_with (refine wpList_load_row rfl 26 _ rfl (w.heap.size) rfl 26 (trC N g) (0, 0) _ (H1.out) Try.underlying26 rfl (rfl) ?_)
    refine (open_bad N g hg h _).mono ?_
    rintro e w1 ⟨rfl, hB1⟩
    have HB1 : Hid (Below w.heap.size w w1) := HB0.out.trans (hB1.mono (by simp))
    clear hB1
    have hst := mvz_st w1
    go_wp2_with fail
    go_ret
    exact ⟨rfl, HB1.out.alloc HB1.out.size _⟩

structure RmAt (w wr : World) : Prop where
  res : TrAt wr w.heap.size 0 (fun _ => 0)
  below : Below w.heap.size w wr
set_option maxHeartbeats 4000000 in
set_option maxRecDepth 100000 in
theorem rmake_any (v : Value) (xs : List Int) (w : World) (hv : Reads w v xs) (hm : xs.length ≤ 9223372036854775806) :
    Calls Try.prog 11 #[v] w fun e w' => e = .returned (mkV xs) ∧ Below w.heap.size w w' := by
  have HV : Hid (Reads w v xs) := hv
  obtain ⟨a, cap, rfl, hr⟩ := hv
  have HR : Hid (∀ i, i < xs.length → ∃ g o, a = some ⟨g, o, none⟩ ∧ g < w.heap.size ∧ w.cell? ⟨g, o + i, none⟩ = some (.int .i64 (xs.getD i 0))) := hr
  clear hr
  have HZ : Hid (TrAt (w.alloc (.cells #[.int .i64 0, .int .u64 0, .int .u64 0, .int .u64 0, .int .u64 0, .int .u64 0, .int .u64 0, .int .u64 0] 26)) w.heap.size 0 (fun _ => 0)) := tr_z w
  have HB0 : Hid (Below w.heap.size w (w.alloc (.cells #[.int .i64 0, .int .u64 0, .int .u64 0, .int .u64 0, .int .u64 0, .int .u64 0, .int .u64 0, .int .u64 0] 26))) := (Below.refl _ _).alloc (Nat.le_refl _) _
  by_cases hN : 1 ≤ xs.length ∧ xs.length ≤ 64
  · have g1 : ¬ ((xs.length : Int) < 1) := by omega
    have g2 : ¬ ((64 : Int) < xs.length) := by omega
    have H0 : Hid (RmAt w (w.alloc (.cells #[.int .i64 0, .int .u64 0, .int .u64 0, .int .u64 0, .int .u64 0, .int .u64 0, .int .u64 0, .int .u64 0] 26))) := ⟨HZ.out, HB0.out⟩
    go_enter Try.func11, Try.ntmps11
    go_wp2_with fail
    go_loopw [4] (fun vi wr => ∃ i : Nat, vi = .int .i64 i ∧ i ≤ xs.length ∧ (∀ j, j < i → 0 ≤ xs.getD j 0 ∧ xs.getD j 0 < xs.length) ∧ RmAt w wr) (fun vi _ => xs.length - (intOf vi).toNat)
    case atStart => exact ⟨0, rfl, Nat.zero_le _, fun j hj => absurd hj (by omega), H0.out⟩
    case round =>
      clear H0 HZ HB0
      obtain ⟨i, rfl, hin, hall, hF⟩ := hrel
      have HA : Hid (∀ j, j < i → 0 ≤ xs.getD j 0 ∧ xs.getD j 0 < xs.length) := hall
      have HF : Hid (RmAt w wr) := hF
      clear hall
      by_cases hlt : i < xs.length
      · obtain ⟨g, o, rfl, hg, hcell⟩ := HR.out i hlt
        obtain ⟨x, hx⟩ : ∃ x, xs.getD i 0 = x := ⟨_, rfl⟩
        rw [hx, ← below_cell hF.below hg] at hcell
        have hiI : (i : Int) < xs.length := by omega
        by_cases hin2 : 0 ≤ x ∧ x < xs.length
        · have h1 : ¬ (x < 0) := by omega
          have h2 : ¬ ((xs.length : Int) ≤ x) := by omega
          have HD : Hid (∀ j, j < i + 1 → 0 ≤ xs.getD j 0 ∧ xs.getD j 0 < xs.length) := fun j hj => by
            by_cases q : j = i
            · rw [q, hx]; exact hin2
            · exact HA.out j (by omega)
          clear hF hx hin2
          go_wp2_with fail
          go_roundw
          case rel => exact ⟨i + 1, by go_num, by omega, HD.out, HF.out⟩
          case measure => simp [intOf]; omega
        · have HE : Hid (mkV xs = .tuple #[trZ, .int .i64 11]) := by
            show mkV xs = _
            unfold mkV
            rw [if_pos hN, if_neg]
            intro q
            have := q.2.2 i hlt
            rw [hx] at this
            exact hin2 this
          obtain ⟨c0, c1, c2, c3, c4, c5, c6, c7⟩ := (hF.res).gets
          have f0 := (hF.res).frozen 0
          have f1 := (hF.res).frozen 1
          have f2 := (hF.res).frozen 2
          have f3 := (hF.res).frozen 3
          have f4 := (hF.res).frozen 4
          have f5 := (hF.res).frozen 5
          have f6 := (hF.res).frozen 6
          have f7 := (hF.res).frozen 7
          clear hF hx
          by_cases hneg : x < 0
          · go_wp2_with fail
            rw [HE.out]
            exact bodyPost_ret (results_tr_tmp rfl rfl (put8_at HF.out.res)) rfl ⟨rfl, put8_below HF.out.below (Nat.le_refl _)⟩
          · have h2 : (xs.length : Int) ≤ x := by omega
            go_wp2_with fail
            rw [HE.out]
            exact bodyPost_ret (results_tr_tmp rfl rfl (put8_at HF.out.res)) rfl ⟨rfl, put8_below HF.out.below (Nat.le_refl _)⟩
      · have hiI : ¬ (i : Int) < xs.length := by omega
        have HOK : Hid (okL xs) := ⟨hN.1, hN.2, fun j hj => HA.out j (by omega)⟩
        have HE : Hid (mkV xs = .tuple #[trL (toL xs), .int .i64 0]) := by
          show mkV xs = _
          unfold mkV
          rw [if_pos hN, if_pos HOK.out]
        have HPI : Hid (pI (toL xs) = xs) := by
          show pI (toL xs) = xs
          apply List.ext_getElem (by rw [pI_len, toL_len])
          intro j h1 h2
          have := HOK.out.2.2 j h2
          simp only [List.getD_eq_getElem?_getD, List.getElem?_eq_getElem h2, Option.getD_some] at this
          simp [pI, toL]
          omega
        clear hF
        go_wp2_with fail
        refine (packed_any _ (toL xs) _ (by rw [HPI.out]; exact HV.out.below HF.out.below) (by rw [toL_len]; exact hN.2) (okL_tf HOK.out).lt64).mono ?_
        rintro e y1 ⟨rfl, hy1⟩
        have HZ1 : Hid (TrAt y1 w.heap.size 0 (fun _ => 0)) := HF.out.res.of (hy1.block _ HF.out.res.lt)
        have HB1 : Hid (Below w.heap.size w y1) := HF.out.below.trans (hy1.mono HF.out.below.size)
        have hs := st_tC HZ1.out (toL xs)
        have hsz := tC_size (toL xs)
        clear hy1
        go_wp2_with fail
        rw [HE.out]
        exact bodyPost_ret (results_tr_tmp rfl rfl (row_tC HZ1.out _)) rfl ⟨rfl, below_row HB1.out (Nat.le_refl _)⟩
  · have HE : Hid (mkV xs = .tuple #[trZ, .int .i64 6]) := by show mkV xs = _; unfold mkV; rw [if_neg hN]
    obtain ⟨c0, c1, c2, c3, c4, c5, c6, c7⟩ := (HZ.out).gets
    have f0 := (HZ.out).frozen 0
    have f1 := (HZ.out).frozen 1
    have f2 := (HZ.out).frozen 2
    have f3 := (HZ.out).frozen 3
    have f4 := (HZ.out).frozen 4
    have f5 := (HZ.out).frozen 5
    have f6 := (HZ.out).frozen 6
    have f7 := (HZ.out).frozen 7
    by_cases g1 : (xs.length : Int) < 1
    · go_enter Try.func11, Try.ntmps11
      go_wp2_with fail
      rw [HE.out]
      exact bodyPost_ret (results_tr_tmp rfl rfl HZ.out) rfl ⟨rfl, HB0.out⟩
    · have g2 : (64 : Int) < xs.length := by omega
      go_enter Try.func11, Try.ntmps11
      go_wp2_with fail
      rw [HE.out]
      exact bodyPost_ret (results_tr_tmp rfl rfl HZ.out) rfl ⟨rfl, HB0.out⟩

end Go.Proofs.Ythglficjhgpegaa
