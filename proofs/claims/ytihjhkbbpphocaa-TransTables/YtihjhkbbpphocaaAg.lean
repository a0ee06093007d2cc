/- trans: isSize, open. -/
import Derived.Test.YtihjhkbbpphocaaAh
namespace Go.Proofs.Ytihjhkbbpphocaa
open Go Go.RowKit Go.Lib
set_option linter.unusedVariables false

theorem isSize_any (N : Int) (w : World) :
    Calls Try.prog 35 #[.int .i64 N] w fun e w' => e = .returned (.bool (decide (1 ≤ N ∧ N ≤ 64))) ∧ w = w' := by
  go_enter Try.func35, Try.ntmps35
  go_wp2
  all_goals go_ret
  all_goals (refine ⟨?_, rfl⟩; congr 1; congr 1; simp; try omega)

theorem results_mv_tmp {fn : Func} {p u : Tmp} (h : fn.results = #[.cell p 79, .tmp u]) {tmps : Array Value} {b n : Nat} {f : Nat → Nat} {w : World} (hp : tmps.getD p undef = .pointer (some ⟨b, 0, none⟩)) (hc : MvAt w b n f) :
    (results fn tmps).run Try.prog w = .ok (.tuple #[mvV n f, tmps.getD u undef]) w := by
  rw [results_cell_tmp h]
  have hl : (loadVar 79 ⟨b, 0, none⟩).run Try.prog w = .ok (mvV n f) w := run_loadVar_row _ _ 79 79 (mvC n f) (0, 0) _ hc Try.underlying79 rfl (inf_mv n f)
  simp [hp, asAddr, hl, Result.andThen]
theorem st_mvNew2 (w : World) (n : Nat) (f : Nat → Nat) : (storeCells ⟨w.heap.size, 0, none⟩ (mvC n f).toList 0).run Try.prog (w.alloc (.cells (mvC 0 fun _ => 0) 79)) = .ok () (w.alloc (.cells (mvC n f) 79)) := by
  rw [st_mv (f := fun _ => 0) (heap_alloc_new w _), World.setRow_alloc_new]
theorem mvC_n' (n : Nat) (f : Nat → Nat) (h : 0 < (mvC n f).size) : (mvC n f)[0] = .int .i64 (n : Int) := by
  have := mvC_n n f
  rw [Array.getElem?_eq_getElem h] at this
  simpa using this
theorem mv_last (w : World) (n : Nat) (f : Nat → Nat) : MvAt (w.alloc (.cells (mvC n f) 79)) w.heap.size n f := heap_last _ _
theorem mv_last2 (w : World) (o : Obj) (n : Nat) (f : Nat → Nat) : MvAt ((w.alloc o).alloc (.cells (mvC n f) 79)) (w.heap.size + 1) n f := by
  have := mv_last (w.alloc o) n f
  rwa [World.size_alloc] at this
/-- What open answers. -/
def opV (N : Int) (g : Nat → Nat) : Value := if okT N g then .tuple #[mvV N.toNat (upto (dg g) N.toNat), .int .i64 0] else .tuple #[mvV 0 (fun _ => 0), .int .i64 130]
/-- What stands in open's loop. -/
structure OpAt (w wr : World) (N : Int) (g : Nat → Nat) (r b n : Nat) (f : Nat → Nat) : Prop where
  src : TrAt wr w.heap.size N g
  res : MvAt wr r 0 (fun _ => 0)
  out : MvAt wr b n f
  below : Below w.heap.size w wr
theorem OpAt.drew {w wr : World} {N : Int} {g : Nat → Nat} {r b n : Nat} {f : Nat → Nat} (h : OpAt w wr N g r b n f) : OpAt w wr.drew N g r b n f := ⟨h.src.of rfl, h.res.of rfl, h.out.of rfl, h.below.drew⟩

theorem upto_le (f : Nat → Nat) (i j : Nat) : upto f i j ≤ f j := by unfold upto; split <;> omega
theorem OpAt.stay {w wr y : World} {N : Int} {g : Nat → Nat} {r b n : Nat} {f : Nat → Nat} (h : OpAt w wr N g r b n f) (hb : Below wr.heap.size wr y) (hr : w.heap.size ≤ w.heap.size) : OpAt w y N g r b n f :=
  ⟨h.src.of (hb.block _ h.src.lt), h.res.of (hb.block _ h.res.lt), h.out.of (hb.block _ h.out.lt), h.below.trans (hb.mono h.below.size)⟩
set_option maxHeartbeats 2000000 in
set_option maxRecDepth 100000 in
theorem open_any (N : Int) (g : Nat → Nat) (hg : ∀ k, k < 7 → g k < 18446744073709551616) (w : World) :
    Calls Try.prog 38 #[trV N g] w fun e w' => e = .returned (opV N g) ∧ Below w.heap.size w w' := by
  have hz := Try.zero_mv
  have hsz := mvC_size 0 fun _ => 0
  have hne := mvC_ne 0 fun _ => 0
  have hn0 := trC_n N g
  by_cases hN : 1 ≤ N ∧ N ≤ 64
  · obtain ⟨n, rfl⟩ : ∃ n : Nat, N = n := ⟨N.toNat, by omega⟩
    have hd : decide (1 ≤ (n : Int) ∧ (n : Int) ≤ 64) = true := decide_eq_true hN
    have hn : n ≤ 64 := by omega
    have HT0 : Hid (TrAt (w.alloc (.cells (trC n g) 26)) w.heap.size n g) := heap_last _ _
    unfold trV
    go_enter Try.func38, Try.ntmps38
    go_wp2_with (first
      | (go_at_call 35; refine (isSize_any _ _).mono ?_; rintro e w1 ⟨rfl, rfl⟩; rw [hd])
      | (go_at_call 60; refine (unpack_any n g hn hg _).mono ?_; rintro e w1 ⟨rfl, hB⟩; unfold mvV; have hst := st_mvNew2 w1 n (upto (dg g) n); have hmn := mvC_n' n (upto (dg g) n); have hsz2 := mvC_size n (upto (dg g) n))
      | refine wpList_load_row rfl 26 _ rfl w.heap.size rfl 26 (trC n g) (0, 0) _ (by unfold TrAt at HT0; rw [heap_allo (by simp)]; exact HT0.out) Try.underlying26 rfl (inf_tr _ _) ?_)
    have HO : Hid (OpAt w (w1.alloc (.cells (mvC n (upto (dg g) n)) 79)) n g (w.heap.size + 1) w1.heap.size n (upto (dg g) n)) := by
      have hlt := hB.size
      simp only [World.size_alloc] at hlt hB
      refine ⟨?_, ?_, mv_last _ _ _, ?_⟩
      · refine TrAt.of ?_ (heap_allo (by omega) _)
        refine TrAt.of ?_ (hB.block _ (by omega))
        exact TrAt.of HT0.out (heap_allo (by simp) _)
      · refine MvAt.of ?_ (heap_allo (by omega) _)
        exact MvAt.of (mv_last2 _ _ _ _) (hB.block _ (by omega))
      · have h1 : Below w.heap.size w ((w.alloc (.cells (trC n g) 26)).alloc (.cells (mvC 0 fun _ => 0) 79)) := ((Below.refl _ _).alloc (Nat.le_refl _) _).alloc (by simp) _
        exact (h1.trans (hB.mono (by omega))).alloc (by omega) _
    have HW1 : Hid (w.heap.size + 2 ≤ w1.heap.size) := by
      have hlt := hB.size
      simp only [World.size_alloc] at hlt
      exact hlt
    clear hst hB HT0 hz hne
    go_loopw [15, 5] (fun vi _ wr => ∃ i : Nat, vi = .int .i64 i ∧ i ≤ n ∧ (∀ j, j < i → dg g j < n) ∧ OpAt w wr n g (w.heap.size + 1) w1.heap.size n (upto (dg g) n)) (fun vi _ _ => n - (intOf vi).toNat)
    case atStart => exact ⟨0, rfl, Nat.zero_le _, fun j hj => absurd hj (by omega), HO.out⟩
    case round =>
      clear HO
      obtain ⟨i, rfl, hin, hall, hF⟩ := hrel
      have HAll : Hid (∀ j, j < i → dg g j < n) := hall
      have HF : Hid (OpAt w wr n g (w.heap.size + 1) w1.heap.size n (upto (dg g) n)) := hF
      clear hall
      by_cases hlt : i < n
      · have hiI : (i : Int) < n := by omega
        have hi64 : (i : Int) < 64 := by omega
        have hcn := hF.out.cellN
        have hcl := hF.out.cell' (i := i) (by omega)
        have e : upto (dg g) n i = dg g i := by simp [upto, hlt]
        rw [e] at hcl
        have hd64 := dg_lt g i
        obtain ⟨d, hde⟩ : ∃ d, dg g i = d := ⟨_, rfl⟩
        have HDE : Hid (dg g i = d) := hde
        rw [hde] at hcl hd64
        have hwd : IntKind.i64.wrap (d : Int) = (d : Int) := IntWalk.i64_in _ (by omega)
        clear hF e hde hg
        by_cases hdn : d < n
        · have hdI : ¬ ((n : Int) ≤ d) := by omega
          go_wp2_with fail
          go_region
          all_goals go_wp2_with fail
          all_goals go_roundw
          all_goals first
            | exact ⟨i + 1, by go_num, by omega, fun j hj => by
                by_cases q : j = i
                · rw [q, HDE.out]; exact hdn
                · exact HAll.out j (by omega), HF.out.drew⟩
            | (simp [intOf]; omega)
        · have hdI : (n : Int) ≤ d := by omega
          have hs := st_mv (m := 0) (g := fun _ => 0) HF.out.res
          have hs2 := st_mv (m := 0) (g := fun _ => 0) HF.out.drew.res
          have hz := Try.zero_mv
          have hne := mvC_ne 0 fun _ => 0
          have HE : Hid (opV n g = .tuple #[mvV 0 (fun _ => 0), .int .i64 130]) := by
            show opV n g = _
            unfold opV
            rw [if_neg]
            intro q
            have := q.2.2.1 i (by omega)
            rw [HDE.out] at this
            omega
          go_wp2_with fail
          go_region
          all_goals go_wp2_with fail
          all_goals (rw [HE.out]; exact bodyPost_ret (results_mv_tmp rfl rfl HF.out.drew.res.row) rfl ⟨rfl, below_row HF.out.drew.below (Nat.le_succ _)⟩)
      · have hiI : ¬ (i : Int) < n := by omega
        go_wp2_with fail
        refine wp_region_held_drew (S := fun w' => OpAt w w' n g (w.heap.size + 1) w1.heap.size n (upto (dg g) n)) (by kernel_rfl) HF.out.drew (fun hHeld => ?_)
        refine wpAnyH_take (i := 0) (v := .agg (mvC n (upto (dg g) n))) rfl (by kernel_rfl) (by kernel_rfl) (by kernel_rfl) (fun _ _ _ h => h) (Or.inl ⟨by rfl, ?_⟩) (by assumption) ?_
        · intro w' hS
          exact ex_load_row (x := .tmp 4) rfl rfl (lv_mv hS.out)
        refine wpAnyH_take (i := 2) (v := .agg (trC n g)) rfl (by kernel_rfl) (by kernel_rfl) (by kernel_rfl) (fun _ _ _ h => h) (Or.inl ⟨by rfl, ?_⟩) (by assumption) ?_
        · intro w' hS
          exact ex_load_row (x := .tmp 1) rfl rfl (lv_tr hS.src)
        refine wpAnyH_ready (rs := [1]) (by kernel_rfl) (by simp) ?_
        refine AllReadyH.cons rfl (fun K hK => ?_) AllReadyH.nil
        go_simp
        refine (pack_any n (upto (dg g) n) hn (fun j _ => Nat.lt_of_le_of_lt (upto_le _ _ _) (dg_lt g j)) _).mono ?_
        rintro e y1 ⟨rfl, hy1⟩
        go_wp2_with fail
        refine hK.out _ _ ?_ (fun hHeld2 => ?_)
        · exact hHeld.stay hy1 (by have := HW1.out; omega)
        clear hK K
        refine wpAnyH_take (i := 3) (v := .bool (!same2 7 n n (pk (upto (dg g) n) n) g)) rfl (by kernel_rfl) (by kernel_rfl) (by kernel_rfl) (fun _ _ _ h => h) (Or.inl ⟨by rfl, ?_⟩) (by assumption) ?_
        · intro w' hS
          exact ex_neq_tr (x := .tmp 29) (y := .tmp 30) rfl rfl rfl w'
        refine wpAnyH_done (by kernel_rfl) ?_ _
        simp only [Act.put]
        have hpe : ∀ k, pk (upto (dg g) n) n k = pk (dg g) n k := fun k => pk_congr (fun j hj => by simp [upto, hj]) k
        have HR : Hid (OpAt w y1 n g (w.heap.size + 1) w1.heap.size n (upto (dg g) n)) := hHeld2
        by_cases hsm : same2 7 n n (pk (upto (dg g) n) n) g = true
        · have HE : Hid (opV n g = .tuple #[mvV n (upto (dg g) n), .int .i64 0]) := by
            show opV n g = _
            unfold opV
            have hok : okT n g := ⟨hN.1, hN.2, fun j hj => by rw [Int.toNat_natCast] at hj ⊢; exact HAll.out j (by omega), fun k hk => by rw [Int.toNat_natCast, ← hpe]; exact (same2_iff.1 hsm).2 k hk⟩
            rw [if_pos hok]
            rfl
          have hs := st_mv (m := n) (g := upto (dg g) n) hHeld2.res
          rw [hsm]
          clear hHeld2 hHeld hF hpe hsm
          go_wp2_with (refine wpList_load_row rfl 79 _ rfl w1.heap.size rfl 79 (mvC n (upto (dg g) n)) (0, 0) _ HR.out.out Try.underlying79 rfl (inf_mv _ _) ?_)
          rw [HE.out]
          exact bodyPost_ret (results_mv_tmp rfl rfl HR.out.res.row) rfl ⟨rfl, below_row HR.out.below (Nat.le_succ _)⟩
        · have HE : Hid (opV n g = .tuple #[mvV 0 (fun _ => 0), .int .i64 130]) := by
            show opV n g = _
            unfold opV
            rw [if_neg]
            intro q
            apply hsm
            rw [same2_iff]
            refine ⟨rfl, fun k hk => ?_⟩
            have := q.2.2.2 k hk
            rw [Int.toNat_natCast] at this
            rw [hpe, this]
          have hs := st_mv (m := 0) (g := fun _ => 0) hHeld2.res
          have hz := Try.zero_mv
          have hne := mvC_ne 0 fun _ => 0
          have hsf : same2 7 n n (pk (upto (dg g) n) n) g = false := by simpa using hsm
          rw [hsf]
          clear hHeld2 hHeld hF hpe hsm hsf
          go_wp2_with fail
          rw [HE.out]
          exact bodyPost_ret (results_mv_tmp rfl rfl HR.out.res.row) rfl ⟨rfl, below_row HR.out.below (Nat.le_succ _)⟩
  · have hd : decide (1 ≤ N ∧ N ≤ 64) = false := decide_eq_false hN
    have hs := st_mv (m := 0) (g := fun _ => 0) (w := (w.alloc (.cells (trC N g) 26)).alloc (.cells (mvC 0 fun _ => 0) 79)) (b := w.heap.size + 1) (n := 0) (f := fun _ => 0) (mv_last2 _ _ _ _)
    have HE : Hid (opV N g = .tuple #[mvV 0 (fun _ => 0), .int .i64 130]) := by
      show opV N g = _
      unfold opV
      rw [if_neg (fun q => hN ⟨q.1, q.2.1⟩)]
    unfold trV
    go_enter Try.func38, Try.ntmps38
    go_wp2_with (go_at_call 35; refine (isSize_any _ _).mono ?_; rintro e w1 ⟨rfl, rfl⟩; rw [hd])
    rw [HE.out]
    refine bodyPost_ret (results_mv_tmp rfl rfl (MvAt.row (n := 0) (f := fun _ => 0) ?_)) rfl ⟨rfl, below_row ?_ (Nat.le_succ _)⟩
    · exact mv_last2 _ _ _ _
    · exact ((Below.refl _ _).alloc (Nat.le_refl _) _).alloc (by simp) _
end Go.Proofs.Ytihjhkbbpphocaa
