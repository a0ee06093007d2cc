/- The document's Cycle. -/
import Derived.Test.YthglficjhgpegaaCp
import Derived.Test.YthglficjhgpegaaAm
namespace Go.Proofs.Ythglficjhgpegaa
open Go Go.RowKit Go.Lib
set_option linter.unusedVariables false

set_option maxHeartbeats 2000000 in
set_option maxRecDepth 100000 in
theorem rcycle_bad (N : Int) (g : Nat → Nat) (hg : W64 g) (h : ¬ okT N g) (w : World) :
    Calls Try.prog 54 #[.agg (trC N g)] w fun e w' => e = .returned (.tuple #[.int .i64 0, .int .i64 0, .int .i64 130]) ∧ Below w.heap.size w w' := by
  have H1 : Hid (TrAt (w.alloc (.cells (trC N g) 26)) w.heap.size N g) := heap_last _ _
  have HB0 : Hid (Below w.heap.size w (w.alloc (.cells (trC N g) 26))) := (Below.refl _ _).alloc (Nat.le_refl _) _
  go_enter Try.func54, Try.ntmps54
  go_wp2_with (refine wpList_load_row rfl 26 _ rfl (w.heap.size) rfl 26 (trC N g) (0, 0) _ (H1.out) Try.underlying26 rfl (rfl) ?_)
  refine (rlist_bad N g hg h _).mono ?_
  rintro e w1 ⟨rfl, hB1⟩
  have HB1 : Hid (Below w.heap.size w w1) := HB0.out.trans (hB1.mono (by simp))
  clear hB1
  go_wp2_with fail
  go_ret3
  exact ⟨rfl, HB1.out⟩

set_option maxHeartbeats 4000000 in
set_option maxRecDepth 100000 in
theorem rcycle_ok (l : List Nat) (hl : Tf l) (w : World) :
    Calls Try.prog 54 #[.agg (tC l)] w (CyQ l w) := by
  show Calls _ _ _ _ (CyQ l w)
  have H1 : Hid (TL (w.alloc (.cells (tC l) 26)) w.heap.size l) := heap_last _ _
  have HB0 : Hid (Below w.heap.size w (w.alloc (.cells (tC l) 26))) := (Below.refl _ _).alloc (Nat.le_refl _) _
  go_enter Try.func54, Try.ntmps54
  go_wp2_with (refine wl_load rfl rfl (H1.out) rfl ?_)
  refine (rlist_ok l hl _).mono ?_
  rintro e w1 ⟨v', rfl, hO, hB1⟩
  have HB1 : Hid (Below w.heap.size w w1) := HB0.out.trans (hB1.mono (by simp))
  obtain ⟨ga, gcap, rfl⟩ := own_shape hO
  have HRd : Hid (Reads w1 (.slice ga l.length gcap) (pI l)) := by
    apply own_reads (base := _)
    rw [pI_len]
    exact hO
  clear hB1 hO
  go_wp2_with fail
  go_loopw [9, 10, 11, 7, 8] (fun vi _ _ vx vp wr => ∃ i x p : Nat, vi = .int .i64 i ∧ vx = .int .i64 x ∧ vp = .int .i64 p ∧ i ≤ l.length ∧ CY l i x p ∧ Below w1.heap.size w1 wr) (fun vi _ _ _ _ _ => l.length - (intOf vi).toNat)
  case atStart => exact ⟨0, 0, 1, rfl, rfl, rfl, Nat.zero_le _, CY.zero hl, Below.refl _ _⟩
  case round =>
    obtain ⟨i, x, p, rfl, rfl, rfl, hin, hC, hF⟩ := hrel
    have HC : Hid (CY l i x p) := hC
    have HF : Hid (Below w1.heap.size w1 wr) := hF
    clear hF
    by_cases hlt : i < l.length
    · have hiI : (i : Int) < l.length := by omega
      have hp1 := hC.pos
      have hp2 := hC.small hl
      have hx1 := hC.lt
      have hl64 := hl.le
      clear hC
      go_wp2_with fail
      refine (rtail_any _ l hl i hlt _ (HRd.out.below HF.out)).mono ?_
      rintro e y1 ⟨t, r, hT, rfl, hy1⟩
      have HN : Hid (CY l (i + 1) (max x t) (p / Nat.gcd p r * r)) := HC.out.next hl hlt hT
      have HF1 : Hid (Below w1.heap.size w1 y1) := HF.out.trans (hy1.mono HF.out.size)
      have hle := hT.le hl.lt hlt
      have hr1 := hT.pos
      have hn2 := HN.out.small hl
      have hn1 := HN.out.pos
      clear hT hy1
      go_wp2_with fail
      all_goals
        refine (rgcd_any p r _ (by omega) (by omega)).mono ?_
        rintro e y2 ⟨rfl, hy2⟩
        have HF2 : Hid (Below w1.heap.size w1 y2) := HF1.out.trans (hy2.mono HF1.out.size)
        have hgp : 0 < Nat.gcd p r := Nat.gcd_pos_of_pos_left _ hp1
        have hgd : Nat.gcd p r ∣ p := Nat.gcd_dvd_left p r
        have hgl : Nat.gcd p r ≤ p := Nat.le_of_dvd hp1 hgd
        obtain ⟨g, hgE⟩ : ∃ g, Nat.gcd p r = g := ⟨_, rfl⟩
        rw [hgE] at HN hn1 hn2 hgp hgl ⊢
        have hq1 : (p : Int).tdiv g = ((p / g : Nat) : Int) := by rw [Int.tdiv_eq_ediv_of_nonneg (by omega)]; exact (Int.natCast_ediv p g).symm
        have hpg : p / g ≤ p := Nat.div_le_self _ _
        obtain ⟨d, hdE⟩ : ∃ d, p / g = d := ⟨_, rfl⟩
        rw [hdE] at hq1 hpg HN hn1 hn2
        obtain ⟨z, hzE⟩ : ∃ z, d * r = z := ⟨_, rfl⟩
        have hzI : (d : Int) * r = (z : Int) := by rw [← hzE]; exact (Int.natCast_mul d r).symm
        rw [hzE] at HN hn1 hn2
        have hw1 : IntKind.i64.wrap (d : Int) = (d : Int) := IntWalk.i64_in _ (by omega)
        have hw2 : IntKind.i64.wrap (z : Int) = (z : Int) := IntWalk.i64_in _ (by omega)
        have hg0 : ((g : Int) == 0) = false := by rw [beq_eq_false_iff_ne]; omega
        have hg0' : ¬ (g : Int) = 0 := by omega
        clear hgE hdE hzE hy2 hgd
        go_wp2_with fail
      all_goals go_roundw
      all_goals first
        | exact ⟨i + 1, max x t, z, by go_num, by congr 1; omega, rfl, by omega, HN.out, HF2.out⟩
        | exact ⟨i + 1, t, z, by go_num, rfl, rfl, by omega, by (have q := HN.out; have e : max x t = t := by omega); rwa [e] at q, HF2.out⟩
        | exact ⟨i + 1, x, z, by go_num, rfl, rfl, by omega, by (have q := HN.out; have e : max x t = x := by omega); rwa [e] at q, HF2.out⟩
        | (simp [intOf]; omega)
    · have hiI : ¬ (i : Int) < l.length := by omega
      obtain rfl : i = l.length := by omega
      clear hC
      go_wp2_with fail
      go_ret3
      exact ⟨x, p, HC.out, rfl, HB1.out.trans (HF.out.mono HB1.out.size)⟩
end Go.Proofs.Ythglficjhgpegaa
