/- The document of layer 13: Packed, Images. -/
import Derived.Test.YtihjhkbbpphocaaAx
import Derived.Test.YtihjhkbbpphocaaAz
namespace Go.Proofs.Ytihjhkbbpphocaa
open Go Go.RowKit Go.Lib
set_option linter.unusedVariables false

/-- What stands in the loop of Packed. -/
structure PdAt (w wr : World) (n : Nat) (f : Nat → Nat) (i : Nat) : Prop where
  res : TrAt wr w.heap.size 0 (fun _ => 0)
  out : TrAt wr (w.heap.size + 1) n (pk f i)
  below : Below w.heap.size w wr
theorem PdAt.drew {w wr : World} {n i : Nat} {f : Nat → Nat} (h : PdAt w wr n f i) : PdAt w wr.drew n f i := ⟨h.res.of rfl, h.out.of rfl, h.below.drew⟩
theorem PdAt.put {w wr : World} {n i : Nat} {f : Nat → Nat} (h : PdAt w wr n f i) (hi : i < 64) {v : Nat} (hv : pk f i (i / 10) ||| f i <<< (6 * (i % 10)) = v) : PdAt w (wr.setCell ⟨w.heap.size + 1, 1 + i / 10, none⟩ (.int .u64 (v : Nat))) n f (i + 1) := by
  refine ⟨h.res.of (heap_set_oth (by omega)), ?_, h.below.setCell (p := ⟨w.heap.size + 1, 1 + i / 10, none⟩) (by simp) _⟩
  refine (h.out.set' v (by omega)).congr ?_
  intro k _
  rw [pk_succ, ← hv]
  by_cases q : k = i / 10
  · rw [if_pos q, if_pos q, q]
  · rw [if_neg q, if_neg q]
theorem six_wrap {i : Nat} (hi : i < 64) : (i : Int).tdiv 10 = ((i / 10 : Nat) : Int) ∧ (i : Int).tmod 10 = ((i % 10 : Nat) : Int) ∧ IntKind.i64.wrap ((i / 10 : Nat) : Int) = ((i / 10 : Nat) : Int) ∧ IntKind.i64.wrap ((i % 10 : Nat) : Int) = ((i % 10 : Nat) : Int) ∧ IntKind.i64.wrap (6 * ((i % 10 : Nat) : Int)) = ((6 * (i % 10) : Nat) : Int) ∧ IntKind.u64.wrap ((6 * (i % 10) : Nat) : Int) = ((6 * (i % 10) : Nat) : Int) := by
  refine ⟨?_, ?_, IntWalk.i64_in _ (by omega), IntWalk.i64_in _ (by omega), ?_, ?_⟩
  · rw [Int.tdiv_eq_ediv_of_nonneg (by omega)]; omega
  · rw [Int.tmod_eq_emod_of_nonneg (by omega)]; omega
  · rw [IntWalk.i64_in _ (by omega)]; omega
  · rw [IntKind.wrap_u64]; omega

set_option maxHeartbeats 4000000 in
set_option maxRecDepth 100000 in
theorem packed_any (v : Value) (l : List Nat) (w : World) (hv : Reads w v (pI l)) (hn : l.length ≤ 64) (hf : ∀ i, i < l.length → im l i < 64) :
    Calls Try.prog 37 #[v] w fun e w' => e = .returned (.agg (tC l)) ∧ Below w.heap.size w w' := by
  obtain ⟨a, cap, rfl, hr⟩ := hv
  rw [pI_len] at hr ⊢
  have HR : Hid (∀ i, i < l.length → ∃ g o, a = some ⟨g, o, none⟩ ∧ g < w.heap.size ∧ w.cell? ⟨g, o + i, none⟩ = some (.int .i64 ((pI l).getD i 0))) := hr
  have HFL : Hid (∀ i, i < l.length → im l i < 64) := hf
  clear hr hf
  have H0 : Hid (PdAt w ((w.alloc (.cells (trC 0 fun _ => 0) 26)).alloc (.cells (trC l.length fun _ => 0) 26)) l.length (im l) 0) := by
    refine ⟨(tr_last w _ _).of (heap_allo (by simp) _), ?_, ((Below.refl _ _).alloc (Nat.le_refl _) _).alloc (by simp) _⟩
    have := tr_last (w.alloc (.cells (trC 0 fun _ => 0) 26)) l.length (fun _ => 0)
    rw [World.size_alloc] at this
    exact this
  unfold trC at H0
  go_enter Try.func37, Try.ntmps37
  go_wp2_with fail
  go_loopw [4] (fun vi wr => ∃ i : Nat, vi = .int .i64 i ∧ i ≤ l.length ∧ PdAt w wr l.length (im l) i) (fun vi _ => l.length - (intOf vi).toNat)
  case atStart => exact ⟨0, rfl, Nat.zero_le _, H0.out⟩
  case round =>
    clear H0
    obtain ⟨i, rfl, hin, hF⟩ := hrel
    have HF : Hid (PdAt w wr l.length (im l) i) := hF
    by_cases hlt : i < l.length
    · obtain ⟨g, o, rfl, hg, hcell⟩ := HR.out i hlt
      have ex : (pI l).getD i 0 = ((im l i : Nat) : Int) := by simp [pI, im, hlt]
      rw [ex, ← below_cell hF.below hg] at hcell
      have hfi := HFL.out i hlt
      have hiI : (i : Int) < l.length := by omega
      obtain ⟨s1, s2, s3, s4, s5, s6⟩ := six_wrap (i := i) (by omega)
      have hk7 : i / 10 < 7 := by omega
      have hsh := shl_run (y := im l i) (c := 6 * (i % 10)) (by omega) (by omega)
      have hor := bits_or_u64_nat (pk (im l) i (i / 10)) (im l i <<< (6 * (i % 10))) (Nat.lt_trans (pk_lt (fun j hj => by have := HFL.out j (by omega); omega) _) (by decide)) (Nat.lt_trans (shl_lt (by omega) (by omega)) (by decide))
      have hw64 : IntKind.u64.wrap ((im l i : Nat) : Int) = ((im l i : Nat) : Int) := by rw [IntKind.wrap_u64]; omega
      have hfz := hF.out.frozen (1 + i / 10)
      have hcl := hF.out.cell' hk7
      obtain ⟨v, hv⟩ : ∃ v, pk (im l) i (i / 10) ||| im l i <<< (6 * (i % 10)) = v := ⟨_, rfl⟩
      have HN : Hid (PdAt w (wr.setCell ⟨w.heap.size + 1, 1 + i / 10, none⟩ (.int .u64 (v : Nat))).drew l.length (im l) (i + 1)) := (hF.put (by omega) hv).drew
      rw [hv] at hor
      obtain ⟨k, hk⟩ : ∃ k, i / 10 = k := ⟨_, rfl⟩
      obtain ⟨m, hm⟩ : ∃ m, i % 10 = m := ⟨_, rfl⟩
      obtain ⟨y, hy⟩ : ∃ y, im l i = y := ⟨_, rfl⟩
      rw [hm] at s2 s4 s5 s6 hsh hor
      obtain ⟨c, hc⟩ : ∃ c, 6 * m = c := ⟨_, rfl⟩
      rw [hc] at s5 s6 hsh hor
      rw [hk] at s1 s3 hor hcl hk7 hfz HN
      rw [hy] at hor hsh hcell hw64
      obtain ⟨z, hz⟩ : ∃ z, y <<< c = z := ⟨_, rfl⟩
      obtain ⟨x, hx⟩ : ∃ x, pk (im l) i k = x := ⟨_, rfl⟩
      rw [hz] at hsh hor
      rw [hx] at hcl hor
      have hc64 : c < 64 := by omega
      have hcI : (c : Int) < 64 := by omega
      have hkI : (k : Int) < 7 := by omega
      clear hF hk hc hy hz hx hv hm ex HFL HR hfi
      go_wp2_with fail
      go_region
      all_goals go_wp2_with fail
      all_goals go_roundw
      all_goals first
        | exact ⟨i + 1, by go_num, by omega, HN.out⟩
        | (simp [intOf]; omega)
    · have hiI : ¬ (i : Int) < l.length := by omega
      have HE : Hid (i = l.length) := by show i = _; omega
      have hs := st_tr (M := (l.length : Int)) (g := pk (im l) i) hF.res
      clear hF
      go_wp2_with (refine wpList_load_row rfl 26 _ rfl (w.heap.size + 1) rfl 26 (trC l.length (pk (im l) i)) (0, 0) _ (HF.out.out) Try.underlying26 rfl (inf_tr _ _) ?_)
      refine bodyPost_ret (results_tr rfl rfl HF.out.res.row) rfl ⟨?_, below_row HF.out.below (Nat.le_refl _)⟩
      rw [HE.out]
      rfl

set_option maxHeartbeats 4000000 in
set_option maxRecDepth 100000 in
theorem images_any (n : Nat) (g : Nat → Nat) (hn : n ≤ 64) (hg : W64 g) (w : World) :
    Calls Try.prog 39 #[.agg (trC n g)] w fun e w' => ∃ v', e = .returned v' ∧ w'.ownsRow w.heap.size 3 1 v' n (zCB (pI (tb (dg g) n))) ∧ Below w.heap.size w w' := by
  obtain ⟨i0, hi, hz0, hz1, hz2⟩ := info_parts Try.info_intB
  have HG : Hid (W64 g) := hg
  clear hg
  have H1 : Hid (TrAt (w.alloc (.cells (trC n g) 26)) w.heap.size n g) := heap_last _ _
  have HB0 : Hid (Below w.heap.size w (w.alloc (.cells (trC n g) 26))) := (Below.refl _ _).alloc (Nat.le_refl _) _
  have hn0 := trC_n n g
  go_enter Try.func39, Try.ntmps39
  go_wp2_with fail
  go_loopw [3, 4] (fun vl vi wr => ∃ i : Nat, i ≤ n ∧ vi = .int .i64 i ∧ wr.ownsRow (w.heap.size + 1) 3 1 vl i (zCB (pI (tb (dg g) i))) ∧ TrAt wr w.heap.size n g ∧ Below w.heap.size w wr) (fun _ vi _ => n - (intOf vi).toNat)
  case atStart => exact ⟨0, Nat.zero_le _, rfl, by show World.ownsRow _ _ _ _ _ 0 []; exact World.ownsRow_nil _ _ _ _, H1.out, HB0.out⟩
  case round =>
    clear H1 HB0
    obtain ⟨i, hin, rfl, hown, hT, hb⟩ := hrel
    obtain ⟨ga, gcap, rfl⟩ := own_shapeB hown
    have hcN := hT.cellN
    have HB : Hid (Below w.heap.size w wr) := hb
    have HT : Hid (TrAt wr w.heap.size n g) := hT
    have hsz := hT.lt
    have HO : Hid (wr.ownsRow (w.heap.size + 1) 3 1 (.slice ga i gcap) i (zCB (pI (tb (dg g) i)))) := hown
    by_cases hlt : i < n
    · have hiI : (i : Int) < n := by omega
      have hi64 : (i : Int) < 64 := by omega
      have hk7 : i / 10 < 7 := by omega
      obtain ⟨s1, s2, s3, s4, s5, s6⟩ := six_wrap (i := i) (by omega)
      have hd := dg_run g i (HG.out _ hk7)
      have hd64 := dg_lt g i
      have hdw : IntKind.i64.wrap ((dg g i : Nat) : Int) = ((dg g i : Nat) : Int) := IntWalk.i64_in _ (by omega)
      have hcl := hT.cell' hk7
      have HS : Hid (tb (dg g) (i + 1) = tb (dg g) i ++ [dg g i]) := tb_succ _ _
      obtain ⟨k, hk⟩ : ∃ k, i / 10 = k := ⟨_, rfl⟩
      obtain ⟨m, hm⟩ : ∃ m, i % 10 = m := ⟨_, rfl⟩
      obtain ⟨d, hde⟩ : ∃ d, dg g i = d := ⟨_, rfl⟩
      rw [hm] at s2 s4 s5 s6 hd
      obtain ⟨c, hc⟩ : ∃ c, 6 * m = c := ⟨_, rfl⟩
      rw [hc] at s5 s6 hd
      rw [hk] at s1 s3 hd hcl hk7
      rw [hde] at hd hd64 hdw HS
      obtain ⟨x, hx⟩ : ∃ x, g k = x := ⟨_, rfl⟩
      rw [hx] at hd hcl
      have hc64 : c < 64 := by omega
      have hcI : (c : Int) < 64 := by omega
      have hkI : (k : Int) < 7 := by omega
      clear hT hown hb hk hm hde hc hx HG
      go_wp2_with (at_builtin; refine wpList_append_own _ rfl _ _ 22 rfl (w.heap.size + 1) 3 i0 (.int .i64 0) 1 8 Try.underlying22 hi hz0 hz1 hz2 rfl (by decide) _ _ _ rfl (HO.out.alloc _) ⟨wr.heap.size, 0, none⟩ 1 1 [.int .i64 (d : Int)] rfl rfl (cell_one_new _ _ _) (by intro u hu; simp at hu; subst hu; rfl) (by unfold maxLen; omega) (by omega) (by simp; omega) ?_; intro v' w4 hown' hgrow _; have HR4 : Hid (w4.ownsRow (w.heap.size + 1) 3 1 v' (i + 1) (zCB (pI (tb (dg g) (i + 1))))) := (by show World.ownsRow _ _ _ _ _ _ _; rw [HS.out, pI_append, zC_appendB]; exact hown'); have HB3 : Hid (Below (w.heap.size + 1) wr w4) := ((Below.refl _ _).alloc (by omega) _).grown hgrow (by simp; omega) (fun g hg => (HO.out.lt g hg).1); have HB4 : Hid (Below w.heap.size w w4) := HB.out.trans (HB3.out.mono (by omega)); have HT4 : Hid (TrAt w4 w.heap.size n g) := HT.out.of (HB3.out.block _ (by omega)); clear hown' hgrow)
      go_roundw
      case rel => exact ⟨i + 1, by omega, by go_num, HR4.out, HT4.out, HB4.out⟩
      case measure => simp [intOf]; omega
    · have hiI : ¬ (i : Int) < n := by omega
      have HE : Hid (i = n) := by show i = n; omega
      clear hT hown hb
      go_wp2_with fail
      go_ret
      refine ⟨_, rfl, ?_, HB.out⟩
      have h := own_monoB HO.out (Nat.le_succ w.heap.size)
      have e2 : (Value.slice ga i gcap) = .slice ga n gcap := by rw [HE.out]
      show World.ownsRow _ _ _ _ (Value.slice ga i gcap) _ _
      rw [HE.out] at h
      rw [e2]
      exact h

end Go.Proofs.Ytihjhkbbpphocaa
