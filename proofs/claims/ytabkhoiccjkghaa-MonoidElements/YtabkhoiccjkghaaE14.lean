/- monoid: grids: at, row; the closure that cuts them. -/
import Derived.Test.YtabkhoiccjkghaaE12
import Derived.Deep.QuietTactic
namespace Go.Proofs.Ytabkhoiccjkghaa
open Go Go.RowKit Go.Lib Go.Maps
set_option linter.unusedVariables false

set_option maxHeartbeats 2000000 in
set_option maxRecDepth 100000 in
theorem gat_any (R off cols row col len cap q v : Nat) (hq : row * cols = q) (hlt : q + col < len) (hv : v ≤ 65535) (hb : len ≤ 1000000) (w : World) (hc : w.cell? ⟨R, off + (q + col), none⟩ = some (.int .u16 v)) (hR : R < w.heap.size) :
    Calls Try.prog 33 #[.agg #[.int .i64 cols, .slice (some ⟨R, off, none⟩) len cap], .int .i64 row, .int .i64 col] w fun e w' => e = .returned (.int .i64 v) ∧ Below w.heap.size w w' := by
  have hw1 : IntKind.i64.wrap ((row : Int) * (cols : Int)) = (q : Int) := by
    have e : ((row * cols : Nat) : Int) = (row : Int) * cols := by simp
    rw [← e, hq, IntKind.wrap_i64]
    omega
  have hw2 : IntKind.i64.wrap ((q : Int) + (col : Int)) = ((q + col : Nat) : Int) := by rw [IntKind.wrap_i64]; omega
  have hw3 : IntKind.i64.wrap (v : Int) = (v : Int) := by rw [IntKind.wrap_i64]; omega
  obtain ⟨p, hp⟩ : ∃ p, q + col = p := ⟨_, rfl⟩
  rw [hp] at hlt hc hw2
  have hI : (p : Int) < (len : Int) := by omega
  have hc' : (w.alloc (.cells #[.int .i64 cols, .slice (some ⟨R, off, none⟩) len cap] 70)).cell? ⟨R, off + p, none⟩ = some (.int .u16 v) := (World.cell?_of_block (heap_allo hR _)).trans hc
  have HB : Hid (Below w.heap.size w (w.alloc (.cells #[.int .i64 cols, .slice (some ⟨R, off, none⟩) len cap] 70))) := below_new _ _
  clear hq hp hc
  go_enter Try.func33, Try.ntmps33
  go_wp2_with fail
  go_ret
  exact ⟨rfl, HB.out⟩

set_option maxHeartbeats 2000000 in
set_option maxRecDepth 100000 in
theorem grow_any (R off cols r len cap q : Nat) (hq : r * cols = q) (hc : 1 ≤ cols) (hlt : q + cols ≤ len) (hcap : len ≤ cap) (hb : cap ≤ 1000000) (w : World) :
    Calls Try.prog 65 #[.agg #[.int .i64 cols, .slice (some ⟨R, off, none⟩) len cap], .int .i64 r] w fun e w' => e = .returned (.slice (some ⟨R, off + q, none⟩) cols cols) ∧ Below w.heap.size w w' := by
  have hw1 : IntKind.i64.wrap ((r : Int) * (cols : Int)) = (q : Int) := by
    have e : ((r * cols : Nat) : Int) = (r : Int) * cols := by simp
    rw [← e, hq, IntKind.wrap_i64]
    omega
  have hrb : r ≤ q := by rw [← hq]; exact Nat.le_mul_of_pos_right _ (by omega)
  have hw2 : IntKind.i64.wrap ((r : Int) + 1) = (r : Int) + 1 := by rw [IntKind.wrap_i64]; omega
  obtain ⟨p, hp⟩ : ∃ p, q + cols = p := ⟨_, rfl⟩
  have hw3 : IntKind.i64.wrap (((r : Int) + 1) * (cols : Int)) = (p : Int) := by
    have e : (((r + 1) * cols : Nat) : Int) = ((r : Int) + 1) * cols := by simp
    rw [← e, Nat.add_mul, hq, Nat.one_mul, hp, IntKind.wrap_i64]
    omega
  have h1 : (q : Int) ≤ (p : Int) := by omega
  have h2 : (p : Int) ≤ (cap : Int) := by omega
  have h3 : ¬ p - q = 0 := by omega
  have HPQ : Hid (p - q = cols) := by show _ = _; omega
  have HB : Hid (Below w.heap.size w (w.alloc (.cells #[.int .i64 cols, .slice (some ⟨R, off, none⟩) len cap] 70))) := below_new _ _
  have c0 : (w.alloc (.cells #[.int .i64 cols, .slice (some ⟨R, off, none⟩) len cap] 70)).drew.cell? ⟨w.heap.size, 0, none⟩ = some (.int .i64 cols) := cell_at (heap_last _ _) rfl
  have hI0 : (0 : Int) ≤ (q : Int) := by omega
  have hI1 : (p : Int) ≤ (len : Int) := by omega
  clear hq hp
  go_enter Try.func65, Try.ntmps65
  go_wp2_with fail
  go_region
  go_wp2_with fail
  go_ret
  exact ⟨by rw [HPQ.out]; rfl, HB.out.drew⟩

theorem Try.info_grid : (Try.prog.info? 70).map (·.size) = some 2 := by kernel_rfl
/-- What the closure that cuts leaves. -/
def CtQ (rb R o L C n cols : Nat) (w : World) (e : Ending) (w' : World) : Prop := e = .returned (.agg #[.int .i64 cols, .slice (some ⟨R, o, none⟩) (n * cols) (n * cols)]) ∧ Only (fun j => j = rb) w w' ∧ ∃ x, w'.heap[rb]? = some (.cells #[x] 68 (0, 0)) ∧ (n * cols < C → x = .slice (some ⟨R, o + n * cols, none⟩) (L - n * cols) (C - n * cols))
set_option maxHeartbeats 2000000 in
set_option maxRecDepth 100000 in
theorem cut_any (rb nb R o L C n cols : Nat) (w : World) (hr : w.heap[rb]? = some (.cells #[.slice (some ⟨R, o, none⟩) L C] 68 (0, 0))) (hn : w.heap[nb]? = some (.cells #[.int .i64 n] 3 (0, 0))) (h0 : 0 < n * cols) (h1 : n * cols ≤ L) (h2 : L ≤ C) (h3 : C ≤ 1000000) :
    Calls Try.prog 63 #[.int .i64 cols, .pointer (some ⟨rb, 0, none⟩), .pointer (some ⟨nb, 0, none⟩)] w (CtQ rb R o L C n cols w) := by
  unfold CtQ
  obtain ⟨q, hq⟩ : ∃ q, n * cols = q := ⟨_, rfl⟩
  rw [hq] at h0 h1 ⊢
  have hw1 : IntKind.i64.wrap ((n : Int) * (cols : Int)) = (q : Int) := by
    have e : ((n * cols : Nat) : Int) = (n : Int) * cols := by simp
    rw [← e, hq, IntKind.wrap_i64]
    omega
  have hrl := (Array.getElem?_eq_some_iff.1 hr).1
  have hnl := (Array.getElem?_eq_some_iff.1 hn).1
  have i1 : (q : Int) ≤ (L : Int) := by omega
  have i2 : (q : Int) ≤ (C : Int) := by omega
  have i3 : (0 : Int) ≤ (q : Int) := by omega
  have i4 : ¬ q = 0 := by omega
  have i5 : (L : Int) ≤ (C : Int) := by omega
  obtain ⟨w1, hw1E⟩ : ∃ w1, w1 = w.alloc (.cells #[.int .i64 0, .slice none 0 0] 70) := ⟨_, rfl⟩
  have HW1 : Hid (w1 = w.alloc (.cells #[.int .i64 0, .slice none 0 0] 70)) := hw1E
  have hb1 : Below w.heap.size w w1 := by rw [hw1E]; exact below_new _ _
  have HB1 : Hid (Below w.heap.size w w1) := hb1
  have HR1 : Hid (w1.heap[rb]? = some (.cells #[.slice (some ⟨R, o, none⟩) L C] 68 (0, 0))) := (hb1.block rb hrl).trans hr
  have HG1 : Hid (w1.heap[w.heap.size]? = some (.cells #[.int .i64 0, .slice none 0 0] 70 (0, 0))) := by show _ = _; rw [hw1E]; exact heap_last _ _
  have hs1 : w1.heap.size = w.heap.size + 1 := by rw [hw1E]; simp
  have HS1 : Hid (w1.heap.size = w.heap.size + 1) := hs1
  have c0 : w1.cell? ⟨rb, 0, none⟩ = some (.slice (some ⟨R, o, none⟩) L C) := cell_at HR1.out rfl
  have c1 : w1.cell? ⟨nb, 0, none⟩ = some (.int .i64 n) := by rw [World.cell?_of_block (hb1.block nb hnl)]; exact cell_at hn rfl
  clear hw1E hb1 hs1
  go_enter Try.func63, Try.ntmps63
  go_upto_region 1 with fail
  rw [← HW1.out]
  go_upto_region 2 with fail
  obtain ⟨w2, hw2⟩ : ∃ w2, w2 = w1.alloc (.cells #[.int .i64 cols, .slice (some ⟨R, o, none⟩) q q] 70) := ⟨_, rfl⟩
  rw [← hw2]
  have HR2 : Hid (w2.heap[rb]? = some (.cells #[.slice (some ⟨R, o, none⟩) L C] 68 (0, 0))) := by show _ = _; rw [hw2, heap_allo (Array.getElem?_eq_some_iff.1 HR1.out).1]; exact HR1.out
  have HB2 : Hid (Below w.heap.size w w2) := by show Below _ _ _; rw [hw2]; exact go_on HB1.out (below_new _ _)
  have HG2 : Hid (w2.heap[w.heap.size]? = some (.cells #[.int .i64 0, .slice none 0 0] 70 (0, 0))) := by show _ = _; rw [hw2, heap_allo (Array.getElem?_eq_some_iff.1 HG1.out).1]; exact HG1.out
  obtain ⟨gb, hgb⟩ : ∃ gb, w1.heap.size = gb := ⟨_, rfl⟩
  have HK2 : Hid (w2.heap[gb]? = some (.cells #[.int .i64 cols, .slice (some ⟨R, o, none⟩) q q] 70 (0, 0))) := by show _ = _; rw [hw2, ← hgb]; exact heap_last _ _
  rw [hgb]
  have hgbw : gb = w.heap.size + 1 := by rw [← hgb]; exact HS1.out
  have c0 : w2.cell? ⟨rb, 0, none⟩ = some (.slice (some ⟨R, o, none⟩) L C) := cell_at HR2.out rfl
  have c1 : w2.cell? ⟨nb, 0, none⟩ = some (.int .i64 n) := by rw [World.cell?_of_block (HB2.out.block nb hnl)]; exact cell_at hn rfl
  have f0 : w2.frozen? ⟨rb, 0, none⟩ = false := frozen_blk HR2.out 0
  have HGW : Hid (gb = w.heap.size + 1) := hgbw
  clear hw2 hgb HR1 HB1 HG1 HW1 HS1 hgbw
  have hfin : Hid (∀ x : Value, (w2.setCell ⟨rb, 0, none⟩ x).heap[gb]? = some (.cells #[.int .i64 cols, .slice (some ⟨R, o, none⟩) q q] 70 (0, 0)) ∧ (w2.setCell ⟨rb, 0, none⟩ x).heap[w.heap.size]? = some (.cells #[.int .i64 0, .slice none 0 0] 70 (0, 0)) ∧ (w2.setCell ⟨rb, 0, none⟩ x).heap[rb]? = some (.cells #[x] 68 (0, 0))) := fun x => by
    have := HGW.out
    exact ⟨(heap_set_other (by omega)).trans HK2.out, (heap_set_other (by omega)).trans HG2.out, heap_set HR2.out⟩
  have HFN : Hid (∀ (x : Value) (w' : World), w' = w2.setCell ⟨rb, 0, none⟩ x → ((w'.setCell ⟨w.heap.size, 0, none⟩ (.int .i64 cols)).setCell ⟨w.heap.size, 1, none⟩ (.slice (some ⟨R, o, none⟩) q q)).heap[w.heap.size]? = some (.cells #[.int .i64 cols, .slice (some ⟨R, o, none⟩) q q] 70 (0, 0)) ∧ Only (fun j => j = rb) w ((w'.setCell ⟨w.heap.size, 0, none⟩ (.int .i64 cols)).setCell ⟨w.heap.size, 1, none⟩ (.slice (some ⟨R, o, none⟩) q q)) ∧ ((w'.setCell ⟨w.heap.size, 0, none⟩ (.int .i64 cols)).setCell ⟨w.heap.size, 1, none⟩ (.slice (some ⟨R, o, none⟩) q q)).heap[rb]? = some (.cells #[x] 68 (0, 0))) := fun x w' e => by
    subst e
    refine ⟨heap_set (heap_set (hfin.out x).2.1), ⟨(((HB2.out.mono (Nat.zero_le _)).setCell (p := ⟨rb, 0, none⟩) (Nat.zero_le _) _).setCell (p := ⟨w.heap.size, 0, none⟩) (Nat.zero_le _) _).setCell (p := ⟨w.heap.size, 1, none⟩) (Nat.zero_le _) _, fun j hj hne => ?_⟩, ?_⟩
    · rw [heap_set_other (by omega), heap_set_other (by omega), heap_set_other hne]
      exact HB2.out.block j hj
    · rw [heap_set_other (by omega), heap_set_other (by omega)]
      exact (hfin.out x).2.2
  by_cases hqc : q < C
  · have i6 : ¬ C - q = 0 := by omega
    have i7 : ¬ C ≤ q := by omega
    obtain ⟨w3, hw3⟩ : ∃ w3, w3 = w2.setCell ⟨rb, 0, none⟩ (.slice (some ⟨R, o + q, none⟩) (L - q) (C - q)) := ⟨_, rfl⟩
    obtain ⟨k1, k2, k3⟩ := HFN.out _ w3 hw3
    have HK1 : Hid _ := k1
    have HK2' : Hid _ := k2
    have HK3 : Hid _ := k3
    have HW3 : Hid (w3 = w2.setCell ⟨rb, 0, none⟩ (.slice (some ⟨R, o + q, none⟩) (L - q) (C - q))) := hw3
    have g0 : w3.cell? ⟨gb, 0, none⟩ = some (.int .i64 cols) := by rw [hw3]; exact cell_at (hfin.out _).1 rfl
    have g1 : w3.cell? ⟨gb, 1, none⟩ = some (.slice (some ⟨R, o, none⟩) q q) := by rw [hw3]; exact cell_at (hfin.out _).1 rfl
    have e0 : w3.cell? ⟨w.heap.size, 0, none⟩ = some (.int .i64 0) := by rw [hw3]; exact cell_at (hfin.out _).2.1 rfl
    have e1 : w3.cell? ⟨w.heap.size, 1, none⟩ = some (.slice none 0 0) := by rw [hw3]; exact cell_at (hfin.out _).2.1 rfl
    have z0 : w3.frozen? ⟨w.heap.size, 0, none⟩ = false := by rw [hw3]; exact frozen_blk (hfin.out _).2.1 0
    have z1 : w3.frozen? ⟨w.heap.size, 1, none⟩ = false := by rw [hw3]; exact frozen_blk (hfin.out _).2.1 1
    clear hw3 k1 k2 k3
    go_upto_region 3 with fail
    rw [← HW3.out]
    go_wp2_with fail
    exact bodyPost_ret (results_cell_row rfl _ _ w.heap.size 70 _ (0, 0) _ rfl HK1.out Try.underlying70 rfl (by rw [Try.info_grid]; rfl)) rfl ⟨rfl, HK2'.out, _, HK3.out, fun _ => rfl⟩
  · have i6 : C - q = 0 := by omega
    have i8 : L - q = 0 := by omega
    obtain rfl : q = C := by omega
    obtain rfl : q = L := by omega
    obtain ⟨w3, hw3⟩ : ∃ w3, w3 = w2.setCell ⟨rb, 0, none⟩ (.slice (some ⟨R, o, none⟩) 0 0) := ⟨_, rfl⟩
    obtain ⟨k1, k2, k3⟩ := HFN.out _ w3 hw3
    have HK1 : Hid _ := k1
    have HK2' : Hid _ := k2
    have HK3 : Hid _ := k3
    have HW3 : Hid (w3 = w2.setCell ⟨rb, 0, none⟩ (.slice (some ⟨R, o, none⟩) 0 0)) := hw3
    have g0 : w3.cell? ⟨gb, 0, none⟩ = some (.int .i64 cols) := by rw [hw3]; exact cell_at (hfin.out _).1 rfl
    have g1 : w3.cell? ⟨gb, 1, none⟩ = some (.slice (some ⟨R, o, none⟩) q q) := by rw [hw3]; exact cell_at (hfin.out _).1 rfl
    have e0 : w3.cell? ⟨w.heap.size, 0, none⟩ = some (.int .i64 0) := by rw [hw3]; exact cell_at (hfin.out _).2.1 rfl
    have e1 : w3.cell? ⟨w.heap.size, 1, none⟩ = some (.slice none 0 0) := by rw [hw3]; exact cell_at (hfin.out _).2.1 rfl
    have z0 : w3.frozen? ⟨w.heap.size, 0, none⟩ = false := by rw [hw3]; exact frozen_blk (hfin.out _).2.1 0
    have z1 : w3.frozen? ⟨w.heap.size, 1, none⟩ = false := by rw [hw3]; exact frozen_blk (hfin.out _).2.1 1
    clear hw3 k1 k2 k3
    go_upto_region 3 with fail
    rw [← HW3.out]
    go_wp2_with fail
    exact bodyPost_ret (results_cell_row rfl _ _ w.heap.size 70 _ (0, 0) _ rfl HK1.out Try.underlying70 rfl (by rw [Try.info_grid]; rfl)) rfl ⟨rfl, HK2'.out, _, HK3.out, fun q => by omega⟩
end Go.Proofs.Ytabkhoiccjkghaa
