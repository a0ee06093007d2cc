/- Contracts of bits.numbers: the iterator over a set's numbers, and of bits.List, which collects them. -/
import Derived.RangeFuncBox
import Derived.RangeFuncLeaves
import Derived.Shelf.Abstract
import Derived.WalkKit
import Derived.OwnWalkIn
import Derived.TacticsInMore
import Derived.LoopNIn
import Derived.LoopIn
import Derived.Maps.AppendAt
import Derived.Test.YthjkfpgocidpeaaDoorDi
namespace Go.Proofs.YthjkfpgocidpeaaDoor
open Go.RowKit Go.Shelf Go.Lib

attribute [local go_sem] Oper.semAt_some

theorem TzTab.below {n₀ : Nat} {A B : World} (h : TzTab A) (hb : Below n₀ A B) (h0 : 0 < n₀) : TzTab B := fun j hj => (below_cell hb h0).trans (h j hj)

set_option maxRecDepth 100000 in
set_option maxHeartbeats 2000000 in
theorem numbers1_in (n : Nat) (hn : 1 ≤ n) (l Bn n₀ N : Nat) (J Jx : List Int → World → Prop)
    (hY : ∀ pre x W, J pre W → pre.length < (lst N 512).length → YieldAt Fence.wide (n - 1) Tryd.prog l #[.int .i64 x] W fun e W' =>
      (e = .returned (.bool true) ∧ J (pre ++ [x]) W' ∧ Below n₀ W W') ∨ (e = .returned (.bool false) ∧ Jx (pre ++ [x]) W'))
    (W : World) (hC : Cells8 W Bn (word N)) (hT : TzTab W) (hn0 : 0 < n₀) (h0 : J [] W) :
    CallsIn Fence.wide n Tryd.prog 38 #[.func (.yield l) #[] #[], .pointer (some ⟨Bn, 0, none⟩)] W fun e W' => (∃ v, e = .returned v) ∧
      ((∃ ys, ys = lst N 512 ∧ J ys W') ∨ (∃ pre, pre <+: lst N 512 ∧ Jx pre W')) := by
  obtain ⟨c0, c1, c2, c3, c4, c5, c6, c7⟩ := hC.gets
  refine callsIn_of_wp Tryd.func38 rfl trivial ?_ rfl
  simp only [Tryd.ntmps38, List.size_toArray, List.length_cons, List.length_nil, Nat.reduceAdd, Nat.reduceSub, Array.replicate_succ, Array.replicate_zero, List.push_toArray, List.append_toArray, List.nil_append, List.cons_append]
  have HY : Hid (∀ pre x W, J pre W → pre.length < (lst N 512).length → YieldAt Fence.wide (n - 1) Tryd.prog l #[.int .i64 x] W fun e W' =>
      (e = .returned (.bool true) ∧ J (pre ++ [x]) W' ∧ Below n₀ W W') ∨ (e = .returned (.bool false) ∧ Jx (pre ++ [x]) W')) := hY
  have HT : Hid (TzTab W) := hT
  have H0 : Hid (J [] W) := h0
  clear hY hT hC h0
  gi_wp2
  clear c0 c1 c2 c3 c4 c5 c6 c7
  gi_loopw [6] (fun k wr => ∃ j : Nat, j ≤ 8 ∧ k = .int .i64 j ∧ J (lst N (64 * j)) wr ∧ Below n₀ W wr) (fun k _ => 8 - (intOf k).toNat)
  case atStart => exact ⟨0, by omega, rfl, H0.out, Below.refl _ _⟩
  case round =>
    obtain ⟨j, hj, rfl, hJ, hB⟩ := hrel
    have HJ : Hid (J (lst N (64 * j)) wr) := hJ
    have HB : Hid (Below n₀ W wr) := hB
    clear hJ hB
    by_cases h8 : j < 8
    · have hjI : (j : Int) < 8 := by omega
      have hx := run_index_set (word N) h8
      unfold cellsF at hx
      gi_wp2
      rename World => wo
      clear hx
      gi_loopw [4] (fun v wr => ∃ t r : Nat, v = .int .u64 r ∧ Left N j t r ∧ J (lst N (64 * j + t)) wr ∧ Below n₀ W wr) (fun v _ => (intOf v).toNat)
      case atStart => exact ⟨0, word N j, rfl, left_start N j, HJ.out, HB.out⟩
      case round =>
        obtain ⟨t, r, rfl, hL, hJ, hB⟩ := hrel
        clear HJ HB
        have HL : Hid (Left N j t r) := hL
        have HJ : Hid (J (lst N (64 * j + t)) wr) := hJ
        have HB : Hid (Below n₀ W wr) := hB
        by_cases hr0 : r = 0
        · subst hr0
          clear hL hJ hB
          gi_wp2
          go_roundw
          case rel => exact ⟨j + 1, by omega, by go_num, by rw [left_end HL.out]; exact HJ.out, HB.out⟩
          case measure => simp [intOf]; omega
        · obtain ⟨hc, hl, hL'⟩ := left_step hL hr0
          have hlt := left_lt hL hr0 h8
          have hrb := hL.2.1
          have HTz : Hid (TzTab wr) := HT.out.below hB hn0
          have Htz := fun w hw => tz_any r hrb hr0 w hw
          have HLs : Hid (Left N j (ctz 64 r + 1) (r &&& (r - 1))) := hL'
          have HLt : Hid ((r &&& (r - 1)) < r) := low_less hr0
          have Hpr : Hid (lst N (64 * j + ctz 64 r + 1) <+: lst N 512) := lst_prefix N _ 512 (by omega)
          have Hal : Hid (((r &&& (r - 1) : Nat) : Int) = bits .and .u64 (r : Int) ((r : Int) - 1)) := (and_u64 r (r - 1) rfl (by omega) hrb (by omega)).symm
          obtain ⟨c, hcc⟩ : ∃ c, ctz 64 r = c := ⟨_, rfl⟩
          rw [hcc] at hc hl HLs Hpr
          simp only [hcc] at Htz
          have HTzC : Hid _ := Htz
          have Hl : Hid (lst N (64 * j + c + 1) = lst N (64 * j + t) ++ [(j : Int) * 64 + (c : Int)]) := by
            show _ = _
            rw [hl]; congr 2; omega
          obtain ⟨fn, tmps, assign, body, hy, hR⟩ := HY.out _ ((j : Int) * 64 + (c : Int)) wr hJ hlt
          clear hl hL' hcc Htz hJ hB hL hlt
          have hrI : ¬ ((r : Int) = 0) := by omega
          have hcI : (c : Int) < 64 := by omega
          have HR : Hid (RoundIn Fence.wide (n - 1) Tryd.prog l fn tmps assign body wr _) := hR
          clear hR
          gi_wp2
          refine ⟨trivial, ?_⟩
          refine (callsIn_wide.2 (HTzC.out _ HTz.out)).mono ?_
          rintro e w1 ⟨rfl, rfl⟩
          clear HTzC HTz
          gi_wp2
          refine HR.out.mono ?_
          clear HR hy
          rintro e W3 (⟨rfl, hJ3, hk3⟩ | ⟨rfl, hJx3⟩)
          · have HJ3 : Hid _ := hJ3
            have HK3 : Hid _ := hk3
            clear hJ3 hk3
            gi_wp2
            go_roundw
            case rel => exact ⟨c + 1, r &&& (r - 1), by rw [Hal.out], HLs.out, by rw [show 64 * j + (c + 1) = 64 * j + c + 1 by omega, Hl.out]; exact HJ3.out, HB.out.trans HK3.out⟩
            case measure => simp only [← Hal.out]; simp [intOf]; exact HLt.out
          · have HJx3 : Hid _ := hJx3
            clear hJx3
            gi_wp2
            refine bodyPost_ret (results_none rfl _ _ _) rfl ?_
            exact ⟨⟨_, rfl⟩, .inr ⟨_, by rw [← Hl.out]; exact Hpr.out, HJx3.out⟩⟩
    · have hjI : ¬ (j : Int) < 8 := by omega
      have HE : Hid (j = 8) := by show j = 8; omega
      gi_wp2
      go_end0
      exact ⟨⟨_, rfl⟩, .inl (by have := HJ.out; rw [HE.out] at this; exact this)⟩

theorem numbers_in (n N : Nat) (w : World) :
    CallsIn Fence.wide n Tryd.prog 33 #[setV N] w fun e w' => e = .returned (.func (.func 38) #[] #[.pointer (some ⟨w.heap.size, 0, none⟩)]) ∧ w' = w.alloc (.cells (cellsF (word N)) 25) := by
  unfold setV cellsF
  refine callsIn_of_wp Tryd.func33 rfl trivial ?_ rfl
  simp only [Tryd.ntmps33, List.size_toArray, List.length_cons, List.length_nil, Nat.reduceAdd, Nat.reduceSub, Array.replicate_succ, Array.replicate_zero, List.push_toArray, List.append_toArray, List.nil_append, List.cons_append]
  gi_wp2
  go_ret
  exact ⟨rfl, rfl⟩

theorem numbers_stops (n Bn n₀ N : Nat) (hn : 1 ≤ n) (w : World) (hC : Cells8 w Bn (word N)) (hT : TzTab w) (hn0 : 0 < n₀) (hn1 : n₀ ≤ w.heap.size) :
    SeqStopsK Fence.wide n Tryd.prog 38 #[.pointer (some ⟨Bn, 0, none⟩)] (fun x : Int => #[Value.int .i64 x]) (Below n₀) (fun ys => ys = lst N 512) (fun pre => pre <+: lst N 512) (lst N 512).length w := fun l J Jx W hW _ _ hY h0 =>
  numbers1_in n hn l Bn n₀ N J Jx hY W (hC.of_heap (hW.block Bn hC.lt)) (hT.below (hW.mono hn1) hn0) hn0 h0

theorem TzTab.pos {w : World} (h : TzTab w) : 0 < w.heap.size := by
  have h0 := h 0 (by decide)
  cases hs : w.heap.size with
  | zero =>
    have : w.heap[0]? = none := by rw [Array.getElem?_eq_none_iff]; omega
    simp [World.cell?, this] at h0
  | succ k => omega

set_option maxRecDepth 100000 in
set_option maxHeartbeats 2000000 in
theorem list_in (n N : Nat) (hn : 3 ≤ n) (w : World) (hT : TzTab w) :
    CallsIn Fence.wide n Tryd.prog 16 #[setV N] w fun e w' => ∃ v, e = .returned v ∧ w'.ownsRow w.heap.size 3 1 v (lst N 512).length (zC (lst N 512)) ∧ Below w.heap.size w w' := by
  have h1 : 1 ≤ n := by omega
  have HT : Hid (TzTab w) := hT
  have H1 : Hid (RowAt (w.alloc (.cells (cellsF (word N)) 25)) w.heap.size (cellsF (word N))) := RowAt.last w _ _
  have hlen := lst_le N 512
  rw [lst_length] at hlen
  obtain ⟨q, hq⟩ : ∃ q, cnt 512 N = q := ⟨_, rfl⟩
  rw [hq] at hlen
  obtain ⟨i0, hi, hz0, hz1, hz2⟩ := info_parts Tryd.info_int
  have hmk := fun w0 => run_make (P := Tryd.prog) w0 22 3 i0 (.int .i64 0) Tryd.underlying22 hi hz0 .i64 .i64 0 (q : Int) (by omega) (by omega) (by rw [hz2]; omega) (by omega)
  rw [hz1] at hmk
  simp only [Nat.mul_one] at hmk
  clear hT
  unfold setV cellsF
  unfold cellsF at H1
  refine callsIn_of_wp_marks Tryd.func16 rfl trivial ?_ rfl
  simp only [Tryd.ntmps16, List.size_toArray, List.length_cons, List.length_nil, Nat.reduceAdd, Nat.reduceSub, Array.replicate_succ, Array.replicate_zero, List.push_toArray, List.append_toArray, List.nil_append, List.cons_append]
  gi_wp2
  refine ⟨trivial, ?_⟩
  refine (callsIn_wide.2 (size_any N _)).mono ?_
  rintro e w1 ⟨rfl, hb1⟩
  rw [hq]
  have rs := H1.out.stay hb1
  have cs := fun X Y => ((rs.alloc X).alloc Y).cell
  have HB1 : Hid (Below w.heap.size w w1) := ((Below.refl w.heap.size w).alloc (Nat.le_refl _) _).trans (hb1.mono (by simp))
  have hsz : w.heap.size + 1 ≤ w1.heap.size := by have := hb1.size; simp at this; omega
  have HRow : Hid ((w1.alloc (.cells (madeCells #[.int .i64 0] q) 3)).ownsRow w.heap.size 3 1 (.slice (some ⟨w1.heap.size, 0, none⟩) 0 q) 0 []) :=
    World.ownsRow_made w1 _ q (by omega) (by unfold maxLen; omega) (by rw [Nat.mul_one]; exact size_madeCells _ _)
  clear hb1 rs H1
  have HI : Hid (Tryd.prog.info? 3 = some i0 ∧ i0.zero = some (.int .i64 0) ∧ i0.size = 1 ∧ i0.bytes = 8) := ⟨hi, hz0, hz1, hz2⟩
  clear hi hz0 hz1 hz2
  gi_wp2
  refine ⟨trivial, ?_⟩
  have hnum := numbers_in (n - 1) N ((w1.alloc (.cells (madeCells #[.int .i64 0] q) 3)).alloc (.cells #[.slice (some ⟨w1.heap.size, 0, none⟩) 0 q] 22))
  unfold setV at hnum
  unfold cellsF at hnum
  refine hnum.mono ?_
  clear hnum
  rintro e w2 ⟨rfl, rfl⟩
  clear cs hmk
  have bO : Boxed ((w1.alloc (.cells (madeCells #[.int .i64 0] q) 3)).alloc (.cells #[.slice (some ⟨w1.heap.size, 0, none⟩) 0 q] 22)) (w1.heap.size + 1) 22 (.slice (some ⟨w1.heap.size, 0, none⟩) 0 q) := by
    have := Boxed.new (w1.alloc (.cells (madeCells #[.int .i64 0] q) 3)) 22 (.slice (some ⟨w1.heap.size, 0, none⟩) 0 q)
    rwa [World.size_alloc] at this
  have hrow0 := (HRow.out.alloc (.cells #[.slice (some ⟨w1.heap.size, 0, none⟩) 0 q] 22))
  have hC0 := Cells8.last ((w1.alloc (.cells (madeCells #[.int .i64 0] q) 3)).alloc (.cells #[.slice (some ⟨w1.heap.size, 0, none⟩) 0 q] 22)) (word N)
  rw [World.size_alloc, World.size_alloc] at hC0
  unfold cellsF at hC0
  have hB0 : Below w.heap.size w (((w1.alloc (.cells (madeCells #[.int .i64 0] q) 3)).alloc (.cells #[.slice (some ⟨w1.heap.size, 0, none⟩) 0 q] 22)).alloc (.cells #[.int .u64 (word N 0 : Nat), .int .u64 (word N 1 : Nat), .int .u64 (word N 2 : Nat), .int .u64 (word N 3 : Nat), .int .u64 (word N 4 : Nat), .int .u64 (word N 5 : Nat), .int .u64 (word N 6 : Nat), .int .u64 (word N 7 : Nat)] 25)) :=
    ((HB1.out.alloc (by omega) _).alloc (by simp; omega) _).alloc (by simp; omega) _
  gi_wp2
  refine wpIn_rangeFunc_ownG rfl h1 (gf := 38) (lb := #[.pointer (some ⟨w1.heap.size + 1 + 1, 0, none⟩)]) rfl trivial (enters_of Tryd.func38 (by kernel_rfl) rfl)
    (numbers_stops (n - 1) (w1.heap.size + 1 + 1) w.heap.size N (by omega) _ hC0 (HT.out.below hB0 HT.out.pos) HT.out.pos (by simp; omega)) belowK_t (belowK_b (by simp; omega)) (Below.refl _ _) (fun _ => rfl)
    (fun pre W => (∃ v, Boxed W (w1.heap.size + 1) 22 v ∧ W.ownsRow w.heap.size 3 1 v pre.length (zC pre) ∧ True) ∧ Below w.heap.size w W)
    (fun _ _ _ => False)
    (OwnFrom.and (Own.from (holdsRow_own w.heap.size (w1.heap.size + 1) 22 3 1 (fun pre => pre.length) (fun pre => zC pre) (fun _ _ => True)) _) (ownFrom_below (Nat.le_refl _) (by simp; omega)))
    (fun _ _ _ _ _ hs _ _ => hs)
    ⟨⟨_, bO.alloc _, hrow0.alloc _, trivial⟩, hB0⟩
    (fun x => { tmps := #[.agg #[.int .u64 (word N 0 : Nat), .int .u64 (word N 1 : Nat), .int .u64 (word N 2 : Nat), .int .u64 (word N 3 : Nat), .int .u64 (word N 4 : Nat), .int .u64 (word N 5 : Nat), .int .u64 (word N 6 : Nat), .int .u64 (word N 7 : Nat)], .pointer (some ⟨w.heap.size, 0, none⟩), .slice none 0 0, .pointer (some ⟨w1.heap.size + 1, 0, none⟩), .int .i64 x, .agg #[.int .u64 (word N 0 : Nat), .int .u64 (word N 1 : Nat), .int .u64 (word N 2 : Nat), .int .u64 (word N 3 : Nat), .int .u64 (word N 4 : Nat), .int .u64 (word N 5 : Nat), .int .u64 (word N 6 : Nat), .int .u64 (word N 7 : Nat)], .int .i64 q, .slice (some ⟨w1.heap.size, 0, none⟩) 0 q, .agg #[.int .u64 (word N 0 : Nat), .int .u64 (word N 1 : Nat), .int .u64 (word N 2 : Nat), .int .u64 (word N 3 : Nat), .int .u64 (word N 4 : Nat), .int .u64 (word N 5 : Nat), .int .u64 (word N 6 : Nat), .int .u64 (word N 7 : Nat)], .func (.func 38) #[] #[.pointer (some ⟨w1.heap.size + 1 + 1, 0, none⟩)], .int .i64 x, undef, undef, undef, undef, undef], defers := [] }) ?assign ?body ?done ?stop
  case assign =>
    intro l x W K hK
    gi_wp2
    exact hK
  case body =>
    rintro l pre x W ⟨⟨v, hv, hrow, _⟩, hB⟩ hlt
    have hc := hv.cell
    have hl5 : pre.length < 512 := Nat.lt_of_lt_of_le hlt (lst_le N 512)
    obtain ⟨hi, hz0, hz1, hz2⟩ := HI.out
    clear hB0 hC0 hrow0 bO HRow hlt
    gi_wp2_with (gi_at_builtin; refine wpListIn_append_own _ rfl _ _ 22 rfl w.heap.size 3 i0 (.int .i64 0) 1 8 Tryd.underlying22 hi hz0 hz1 hz2 rfl (by decide) _ _ _ rfl (hrow.alloc _) ⟨W.heap.size, 0, none⟩ 1 1 [.int .i64 x] rfl rfl (cell_one_new _ _ _) (by simp [Value.oneCell']) (by unfold maxLen; omega) (by omega) (by have := hB.size; simp; omega) ?_; intro v' w3 hown' hgrow _; obtain ⟨g', cap', rfl⟩ := ownsRow_succ hown'; obtain ⟨hv1, hv2, hr2, hk2, hb2⟩ := hv.appended (by decide) hrow hB.size (by omega) hown' hgrow; have hc1 := hv1.cell; have hf1 := hv1.frozen)
    exact ⟨hk2.from _, hb2, ⟨_, hv2, by rw [List.length_append, zC_append]; exact hr2, trivial⟩, hB.trans hb2⟩
  case done =>
    rintro D ys W hD rfl ⟨⟨v, hv, hrow, _⟩, hB⟩ hK
    have hc := hv.cell
    gi_wp2
    refine ⟨by simp, .inl ⟨_, _, rfl, run_takeDeferred hK, ?_⟩⟩
    exact ⟨_, results_tmp rfl _ _ _, v, rfl, ownsRow_putObj hrow _ hK rfl, hB.trans (belowK_b (w := w) (Nat.le_refl _) W D _ _ (by simp at hD; omega) hK rfl rfl)⟩
  case stop =>
    rintro D c pre W _ _ h _
    exact h.elim

theorem list_any (N : Nat) (w : World) (hT : TzTab w) :
    Calls Tryd.prog 16 #[setV N] w fun e w' => ∃ v, e = .returned v ∧ w'.ownsRow w.heap.size 3 1 v (lst N 512).length (zC (lst N 512)) ∧ Below w.heap.size w w' :=
  callsIn_wide.1 (list_in 3 N (by omega) w hT)

end Go.Proofs.YthjkfpgocidpeaaDoor
