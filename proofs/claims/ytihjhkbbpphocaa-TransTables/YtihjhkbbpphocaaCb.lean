/- The document of layer 13: Check. -/
import Derived.Test.YtihjhkbbpphocaaCa
namespace Go.Proofs.Ytihjhkbbpphocaa
open Go Go.RowKit Go.Lib
set_option linter.unusedVariables false

/-- What Check answers. -/
def ckN (N : Int) (g : Nat → Nat) : Int := if okT N g then 0 else 130
structure RcAt (w wr : World) (n : Nat) (g : Nat → Nat) (v : Value) : Prop where
  src : TrAt wr w.heap.size n g
  row : wr.ownsRow (w.heap.size + 1) 3 1 v n (zCB (pI (tb (dg g) n)))
  below : Below w.heap.size w wr
theorem RcAt.drew {w wr : World} {n : Nat} {g : Nat → Nat} {v : Value} (h : RcAt w wr n g v) : RcAt w wr.drew n g v := ⟨h.src.of rfl, own_belowB h.row (Below.refl _ _).drew, h.below.drew⟩
theorem RcAt.stay {w wr y : World} {n : Nat} {g : Nat → Nat} {v : Value} (h : RcAt w wr n g v) (hb : Below wr.heap.size wr y) : RcAt w y n g v := ⟨h.src.of (hb.block _ h.src.lt), own_belowB h.row hb, h.below.trans (hb.mono h.below.size)⟩
theorem RcAt.reads {w wr : World} {n : Nat} {g : Nat → Nat} {v : Value} (h : RcAt w wr n g v) : Reads wr v (pI (tb (dg g) n)) := by
  apply own_reads (base := w.heap.size + 1)
  rw [pI_len, tb_len]
  exact h.row

set_option maxHeartbeats 4000000 in
set_option maxRecDepth 100000 in
theorem rcheck_anyB (N : Int) (g : Nat → Nat) (hg : W64 g) (w : World) :
    Calls Try.prog 12 #[.agg (trC N g)] w fun e w' => e = .returned (.int .i64 (ckN N g)) ∧ Below w.heap.size w w' := by
  have hn0 := trC_n N g
  have HB0 : Hid (Below w.heap.size w (w.alloc (.cells (trC N g) 26))) := (Below.refl _ _).alloc (Nat.le_refl _) _
  have H1 : Hid (TrAt (w.alloc (.cells (trC N g) 26)) w.heap.size N g) := heap_last _ _
  by_cases h1 : N < 1
  · have HE : Hid (ckN N g = 130) := by show ckN N g = _; unfold ckN; rw [if_neg]; intro q; have := q.1; omega
    go_enter Try.func12, Try.ntmps12
    go_wp2_with fail
    go_ret
    exact ⟨by rw [HE.out]; rfl, HB0.out⟩
  by_cases h2 : 64 < N
  · have HE : Hid (ckN N g = 130) := by show ckN N g = _; unfold ckN; rw [if_neg]; intro q; have := q.2.1; omega
    go_enter Try.func12, Try.ntmps12
    go_wp2_with fail
    go_ret
    exact ⟨by rw [HE.out]; rfl, HB0.out⟩
  obtain ⟨n, rfl⟩ : ∃ n : Nat, N = n := ⟨N.toNat, by omega⟩
  go_enter Try.func12, Try.ntmps12
  go_wp2_with (refine wpList_load_row rfl 26 _ rfl (w.heap.size) rfl 26 (trC n g) (0, 0) _ (H1.out) Try.underlying26 rfl (rfl) ?_)
  refine (images_any n g (by omega) hg _).mono ?_
  rintro e w1 ⟨v1, rfl, hO, hB1⟩
  have HC : Hid (RcAt w w1 n g v1) := by
    refine ⟨H1.out.of (hB1.block _ (by simp)), ?_, HB0.out.trans (hB1.mono (by simp))⟩
    rw [World.size_alloc] at hO
    exact hO
  clear hO hB1 H1 HB0
  obtain ⟨ga, gcap, hv⟩ := own_shapeB HC.out.row
  subst hv
  go_wp2_with fail
  go_loopw [4] (fun vi wr => ∃ i : Nat, vi = .int .i64 i ∧ i ≤ n ∧ (∀ j, j < i → dg g j < n) ∧ RcAt w wr n g (.slice ga n gcap)) (fun vi _ => n - (intOf vi).toNat)
  case atStart => exact ⟨0, rfl, Nat.zero_le _, fun j hj => absurd hj (by omega), HC.out⟩
  case round =>
    clear HC
    obtain ⟨i, rfl, hin, hall, hF⟩ := hrel
    have HAll : Hid (∀ j, j < i → dg g j < n) := hall
    have HF : Hid (RcAt w wr n g (.slice ga n gcap)) := hF
    clear hall
    by_cases hlt : i < n
    · have hiI : (i : Int) < n := by omega
      have hcn := hF.src.cellN
      obtain ⟨a', cap', hv, hr⟩ := hF.reads
      simp only [Value.slice.injEq] at hv
      obtain ⟨rfl, hqq, rfl⟩ := hv
      clear hqq
      obtain ⟨gb, o, rfl, hgb, hcell⟩ := hr i (by rw [pI_len, tb_len]; exact hlt)
      have ex : (pI (tb (dg g) n)).getD i 0 = ((dg g i : Nat) : Int) := by
        have := tb_im (dg g) hlt
        unfold im at this
        rw [← this]
        simp [pI, tb, hlt]
      rw [ex] at hcell
      obtain ⟨d, hde⟩ : ∃ d, dg g i = d := ⟨_, rfl⟩
      have HDE : Hid (dg g i = d) := hde
      rw [hde] at hcell
      clear hF ex hde hr hg
      by_cases hdn : d < n
      · have hdI : ¬ ((n : Int) ≤ d) := by omega
        go_wp2_with fail
        go_region
        all_goals go_wp2_with fail
        all_goals go_roundw
        all_goals first
          | exact ⟨i + 1, by go_num, by omega, fun j hj => by
              by_cases q : j = i
              · rw [q, HDE.out]; exact hdn
              · exact HAll.out j (by omega), HF.out.drew⟩
          | (simp [intOf]; omega)
      · have hdI : (n : Int) ≤ d := by omega
        have HE : Hid (ckN n g = 130) := by
          show ckN n g = _
          unfold ckN
          rw [if_neg]
          intro q
          have := q.2.2.1 i (by omega)
          rw [HDE.out] at this
          omega
        go_wp2_with fail
        go_region
        all_goals go_wp2_with fail
        all_goals go_ret
        all_goals exact ⟨by rw [HE.out]; rfl, HF.out.drew.below⟩
    · have hiI : ¬ (i : Int) < n := by omega
      clear hF
      go_wp2_with fail
      refine wp_region_held_drew (S := fun w' => RcAt w w' n g (.slice ga n gcap)) (by kernel_rfl) HF.out.drew (fun hHeld => ?_)
      refine wpAnyH_take (i := 0) (v := .slice ga n gcap) rfl (by kernel_rfl) (by kernel_rfl) (by kernel_rfl) (fun _ _ _ h => h) (Or.inl ⟨by rfl, ?_⟩) (by assumption) ?_
      · intro w' hS
        rfl
      refine wpAnyH_take (i := 2) (v := .agg (trC n g)) rfl (by kernel_rfl) (by kernel_rfl) (by kernel_rfl) (fun _ _ _ h => h) (Or.inl ⟨by rfl, ?_⟩) (by assumption) ?_
      · intro w' hS
        exact ex_load_row (x := .tmp 1) rfl rfl (lv_tr hS.src)
      refine wpAnyH_ready (rs := [1]) (by kernel_rfl) (by simp) ?_
      refine AllReadyH.cons rfl (fun K hK => ?_) AllReadyH.nil
      go_simp
      refine (packed_any _ (tb (dg g) n) _ hHeld.reads (by rw [tb_len]; omega) (fun j hj => by rw [tb_len] at hj; rw [tb_im _ hj]; exact dg_lt g j)).mono ?_
      rintro e y1 ⟨rfl, hy1⟩
      unfold tC
      go_wp2_with fail
      refine hK.out _ _ ?_ (fun hHeld2 => ?_)
      · exact hHeld.stay hy1
      clear hK K
      refine wpAnyH_take (i := 3) (v := .bool (!same2 7 ((tb (dg g) n).length : Int) n (pk (im (tb (dg g) n)) (tb (dg g) n).length) g)) rfl (by kernel_rfl) (by kernel_rfl) (by kernel_rfl) (fun _ _ _ h => h) (Or.inl ⟨by rfl, ?_⟩) (by assumption) ?_
      · intro w' hS
        exact ex_neq_tr (x := .tmp 29) (y := .tmp 30) rfl rfl rfl w'
      refine wpAnyH_done (by kernel_rfl) ?_ _
      simp only [Act.put]
      have HR : Hid (RcAt w y1 n g (.slice ga n gcap)) := hHeld2
      have hpe : ∀ k, pk (im (tb (dg g) n)) (tb (dg g) n).length k = pk (dg g) n k := fun k => by rw [tb_len]; exact pk_congr (fun j hj => tb_im _ hj) k
      by_cases hsm : same2 7 ((tb (dg g) n).length : Int) n (pk (im (tb (dg g) n)) (tb (dg g) n).length) g = true
      · have HE : Hid (ckN n g = 0) := by
          show ckN n g = _
          unfold ckN
          have hok : okT n g := ⟨by omega, by omega, fun j hj => by rw [Int.toNat_natCast] at hj ⊢; exact HAll.out j (by omega), fun k hk => by rw [Int.toNat_natCast, ← hpe]; exact (same2_iff.1 hsm).2 k hk⟩
          rw [if_pos hok]
        rw [hsm]
        clear hHeld hHeld2 hpe hsm hy1
        go_wp2_with fail
        go_ret
        exact ⟨by rw [HE.out]; rfl, HR.out.below⟩
      · have HE : Hid (ckN n g = 130) := by
          show ckN n g = _
          unfold ckN
          rw [if_neg]
          intro q
          apply hsm
          rw [same2_iff]
          refine ⟨by rw [tb_len], fun k hk => ?_⟩
          have := q.2.2.2 k hk
          rw [Int.toNat_natCast] at this
          rw [hpe, this]
        have hsf : same2 7 ((tb (dg g) n).length : Int) n (pk (im (tb (dg g) n)) (tb (dg g) n).length) g = false := by simpa using hsm
        rw [hsf]
        clear hHeld hHeld2 hpe hsm hsf hy1
        go_wp2_with fail
        go_ret
        exact ⟨by rw [HE.out]; rfl, HR.out.below⟩

end Go.Proofs.Ytihjhkbbpphocaa
