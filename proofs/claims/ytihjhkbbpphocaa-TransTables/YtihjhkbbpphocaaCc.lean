/- The document of layer 13: rest, then, List, Make, Identity. -/
import Derived.Test.YtihjhkbbpphocaaCb
namespace Go.Proofs.Ytihjhkbbpphocaa
open Go Go.RowKit Go.Lib
set_option linter.unusedVariables false

theorem pI_get {l : List Nat} {i : Nat} (h : i < l.length) : (pI l).getD i 0 = ((im l i : Nat) : Int) := by simp [pI, im, h]
theorem slice_eq {ga : Option Addr} {i n gcap : Nat} {w : World} {base : Nat} {xs : List Value} (e : i = n) (h : w.ownsRow base 3 1 (.slice ga i gcap) i xs) : w.ownsRow base 3 1 (.slice ga i gcap) n xs := by
  subst e; exact h

set_option maxHeartbeats 4000000 in
set_option maxRecDepth 100000 in
theorem rest_any (n : Nat) (h2 : n ≤ 64) (w : World) :
    Calls Try.prog 71 #[.int .i64 n] w fun e w' => ∃ v', e = .returned v' ∧ w'.ownsRow w.heap.size 3 1 v' n (zCB (pI (stl n))) ∧ Below w.heap.size w w' := by
  obtain ⟨i0, hi, hz0, hz1, hz2⟩ := info_parts Try.info_intB
  go_enter Try.func71, Try.ntmps71
  go_wp2_with fail
  go_loopw [3, 4] (fun vl vi wr => ∃ i : Nat, i ≤ n ∧ vi = .int .i64 i ∧ wr.ownsRow w.heap.size 3 1 vl i (zCB (pI (stl i))) ∧ Below w.heap.size w wr) (fun _ vi _ => n - (intOf vi).toNat)
  case atStart => exact ⟨0, Nat.zero_le _, rfl, by show World.ownsRow _ _ _ _ _ 0 []; exact World.ownsRow_nil _ _ _ _, Below.refl _ _⟩
  case round =>
    obtain ⟨i, hin, rfl, hown, hb⟩ := hrel
    obtain ⟨ga, gcap, rfl⟩ := own_shapeB hown
    have HB : Hid (Below w.heap.size w wr) := hb
    have hsz := hb.size
    have HO : Hid (wr.ownsRow w.heap.size 3 1 (.slice ga i gcap) i (zCB (pI (stl i)))) := hown
    clear hown hb
    by_cases hlt : i < n
    · have hiI : (i : Int) < n := by omega
      have HS : Hid (stl (i + 1) = stl i ++ [i]) := by show _ = _; simp [stl, List.range_succ]
      go_wp2_with (at_builtin; refine wpList_append_own _ rfl _ _ 22 rfl w.heap.size 3 i0 (.int .i64 0) 1 8 Try.underlying22 hi hz0 hz1 hz2 rfl (by decide) _ _ _ rfl (HO.out.alloc _) ⟨wr.heap.size, 0, none⟩ 1 1 [.int .i64 (i : Int)] rfl rfl (cell_one_new _ _ _) (by intro u hu; simp at hu; subst hu; rfl) (by unfold maxLen; omega) (by omega) (by simp; omega) ?_; intro v' w4 hown' hgrow _; have HR4 : Hid (w4.ownsRow w.heap.size 3 1 v' (i + 1) (zCB (pI (stl (i + 1))))) := (by show World.ownsRow _ _ _ _ _ _ _; rw [HS.out, pI_append, zC_appendB]; exact hown'); have HB4 : Hid (Below w.heap.size w w4) := (HB.out.alloc HB.out.size _).grown hgrow (by simp; omega) (fun g hg => (HO.out.lt g hg).1); clear hown' hgrow)
      go_roundw
      case rel => exact ⟨i + 1, by omega, by go_num, HR4.out, HB4.out⟩
      case measure => simp [intOf]; omega
    · have hiI : ¬ (i : Int) < n := by omega
      have HE : Hid (i = n) := by show i = n; omega
      go_wp2_with fail
      go_ret
      refine ⟨_, rfl, ?_, HB.out⟩
      have h := slice_eq HE.out HO.out
      rw [HE.out] at h
      show World.ownsRow _ _ _ _ (Value.slice ga i gcap) _ _
      have e2 : (Value.slice ga i gcap) = .slice ga n gcap := by rw [HE.out]
      rw [e2]
      exact h

theorem rcheck_ok (l : List Nat) (h : Tf l) (w : World) : Calls Try.prog 12 #[.agg (tC l)] w fun e w' => e = .returned (.int .i64 0) ∧ Below w.heap.size w w' := by
  have := rcheck_anyB l.length (pk (im l) l.length) (pk_w64 h) w
  unfold ckN at this
  rw [if_pos h.okT] at this
  exact this
theorem rcheck_bad (N : Int) (g : Nat → Nat) (hg : W64 g) (h : ¬ okT N g) (w : World) : Calls Try.prog 12 #[.agg (trC N g)] w fun e w' => e = .returned (.int .i64 130) ∧ Below w.heap.size w w' := by
  have := rcheck_anyB N g hg w
  unfold ckN at this
  rw [if_neg h] at this
  exact this
theorem images_ok (l : List Nat) (h : Tf l) (w : World) : Calls Try.prog 39 #[.agg (tC l)] w fun e w' => ∃ v', e = .returned v' ∧ w'.ownsRow w.heap.size 3 1 v' l.length (zCB (pI l)) ∧ Below w.heap.size w w' := by
  have := images_any l.length (pk (im l) l.length) h.le (pk_w64 h) w
  have e : tb (dg (pk (im l) l.length)) l.length = l := by
    have := dgl_of h
    unfold dgl at this
    rwa [Int.toNat_natCast] at this
  rw [e] at this
  exact this
set_option maxHeartbeats 2000000 in
set_option maxRecDepth 100000 in
theorem rlist_ok (l : List Nat) (hl : Tf l) (w : World) :
    Calls Try.prog 19 #[.agg (tC l)] w fun e w' => ∃ v', e = .returned (.tuple #[v', .int .i64 0]) ∧ w'.ownsRow w.heap.size 3 1 v' l.length (zCB (pI l)) ∧ Below w.heap.size w w' := by
  have H1 : Hid (KP [(w.heap.size, l)] w (w.alloc (.cells (tC l) 26))) := KP.new (L := []) ⟨fun p hp => by simp at hp, Below.refl _ _⟩ l
  go_enter Try.func19, Try.ntmps19
  go_wp2_with (refine wl_load rfl rfl (H1.out.get (b := w.heap.size) (l := l) (by simp)) rfl ?_)
  refine (rcheck_ok l hl _).mono ?_
  rintro e w1 ⟨rfl, hB1⟩
  have H2 : Hid (KP [(w.heap.size, l)] w w1) := H1.out.call hB1
  clear hB1
  go_wp2_with (refine wl_load rfl rfl (H2.out.get (b := w.heap.size) (l := l) (by simp)) rfl ?_)
  refine (images_ok l hl _).mono ?_
  rintro e w2 ⟨v', rfl, hO, hB2⟩
  have HO : Hid (w2.ownsRow w.heap.size 3 1 v' l.length (zCB (pI l))) := own_monoB hO H2.out.below.size
  have HB : Hid (Below w.heap.size w w2) := H2.out.below.trans (hB2.mono H2.out.below.size)
  clear hO hB2
  go_wp2_with fail
  go_ret2
  exact ⟨v', rfl, HO.out, HB.out⟩
set_option maxHeartbeats 2000000 in
set_option maxRecDepth 100000 in
theorem rlist_bad (N : Int) (g : Nat → Nat) (hg : W64 g) (h : ¬ okT N g) (w : World) :
    Calls Try.prog 19 #[.agg (trC N g)] w fun e w' => e = .returned (.tuple #[.slice none 0 0, .int .i64 130]) ∧ Below w.heap.size w w' := by
  have H1 : Hid (TrAt (w.alloc (.cells (trC N g) 26)) w.heap.size N g) := heap_last _ _
  have HB0 : Hid (Below w.heap.size w (w.alloc (.cells (trC N g) 26))) := (Below.refl _ _).alloc (Nat.le_refl _) _
  go_enter Try.func19, Try.ntmps19
  go_wp2_with (refine wpList_load_row rfl 26 _ rfl (w.heap.size) rfl 26 (trC N g) (0, 0) _ (H1.out) Try.underlying26 rfl (rfl) ?_)
  refine (rcheck_bad N g hg h _).mono ?_
  rintro e w1 ⟨rfl, hB1⟩
  have HB : Hid (Below w.heap.size w w1) := HB0.out.trans (hB1.mono (by simp))
  clear hB1
  go_wp2_with fail
  go_ret2
  exact ⟨rfl, HB.out⟩

end Go.Proofs.Ytihjhkbbpphocaa
