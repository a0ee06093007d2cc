/- monoid: Accept, Trans of a monoid that Build made. -/
import Derived.Test.YthmnoepjkobcmabE22
namespace Go.Proofs.Ythmnoepjkobcmab
open Go Go.RowKit Go.Lib Go.Maps
set_option linter.unusedVariables false
attribute [-instance] List.instBEq instBEqProd

set_option maxHeartbeats 1000000 in
set_option maxRecDepth 100000 in
theorem maccept_ok {w : World} {ob : Nat} {A : Aut} {M : List (List Nat)} {N : List Nat} (h : MO w ob A M N) (i : Nat) (hi : i < M.length) : Calls Try.prog 14 #[.pointer (some ⟨ob, 0, none⟩), .int .i64 i] w fun e w' => e = .returned (.tuple #[.bool (acc A M i), .int .i64 0]) ∧ w = w' := by
  have H : Hid (MO w ob A M N) := h
  obtain ⟨base, bt, b, mb, gw, ga, R, n, a, c, d, vl, D, an, cn, aa, ca, h⟩ := h
  have hnm := h.num
  have hms := h.mon.most
  have c6 : w.cell? ⟨ob, 6, none⟩ = some (.slice (some ⟨ga, 0, none⟩) n n) := cell_at h.box rfl
  have hw := h.bp.cell (j := i) (by omega)
  obtain ⟨q, hq⟩ : ∃ q, acc A M i = q := ⟨_, rfl⟩
  rw [hq] at hw ⊢
  have hiI : (i : Int) < n := by omega
  have HCI : Hid (mck M.length i = 0) := by show mck _ _ = 0; unfold mck; rw [if_pos ⟨by omega, by omega⟩]
  clear h hnm hms hq
  go_enter Try.func14, Try.ntmps14
  go_wp2_with fail
  refine (mcheck_any H.out i).mono ?_
  rintro e w1 ⟨rfl, rfl⟩
  rw [HCI.out]
  go_wp2_with fail
  go_ret2
  exact ⟨rfl, rfl⟩

set_option maxHeartbeats 2000000 in
set_option maxRecDepth 100000 in
theorem mtrans_ok {w : World} {ob : Nat} {A : Aut} {M : List (List Nat)} {N : List Nat} (h : MO w ob A M N) (i : Nat) (l : List Nat) (hl : M[i]? = some l) : Calls Try.prog 12 #[.pointer (some ⟨ob, 0, none⟩), .int .i64 i] w fun e w' => e = .returned (.tuple #[.agg (tC l), .int .i64 0]) ∧ Below w.heap.size w w' := by
  have hi : i < M.length := (List.getElem?_eq_some_iff.1 hl).1
  obtain ⟨w0, hw0⟩ : ∃ w0, w0 = w.alloc (.cells #[.int .i64 0, .int .u64 0, .int .u64 0, .int .u64 0, .int .u64 0, .int .u64 0, .int .u64 0, .int .u64 0] 40) := ⟨_, rfl⟩
  have HB0 : Hid (Below w.heap.size w w0) := by show Below _ _ _; rw [hw0]; exact below_new _ _
  have H : Hid (MO w0 ob A M N) := h.below HB0.out
  have HR0 : Hid (TrAt w0 w.heap.size 0 (fun _ => 0)) := by show TrAt _ _ _ _; rw [hw0]; exact heap_last _ _
  have HW0 : Hid (w0 = w.alloc (.cells #[.int .i64 0, .int .u64 0, .int .u64 0, .int .u64 0, .int .u64 0, .int .u64 0, .int .u64 0, .int .u64 0] 40)) := hw0
  obtain ⟨base, bt, b, mb, gw, ga, R, n, a, c, d, vl, D, an, cn, aa, ca, h⟩ := H.out
  have c4 : w0.cell? ⟨ob, 4, none⟩ = some (.pointer (some ⟨b, 0, none⟩)) := cell_at h.box rfl
  have HT : Hid (TB bt w0 b mb A.ac.length vl M D) := h.tb
  have HCI : Hid (mck M.length i = 0) := by show mck _ _ = 0; unfold mck; rw [if_pos ⟨by omega, by omega⟩]
  clear h hw0 hi
  go_enter Try.func12, Try.ntmps12
  go_wp2_with fail
  rw [← HW0.out]
  refine (mcheck_any H.out i).mono ?_
  rintro e w1 ⟨rfl, rfl⟩
  rw [HCI.out]
  go_wp2_with fail
  refine (ttat_any HT.out hl).mono ?_
  rintro e w1 ⟨rfl, hB1⟩
  have hst := st_trNew w1 l
  obtain ⟨w2, hw2⟩ : ∃ w2, w2 = w1.alloc (.cells (tC l) 40) := ⟨_, rfl⟩
  have HB1 : Hid (Below w.heap.size w w2) := by show Below _ _ _; rw [hw2]; exact go_on (go_on HB0.out hB1) (below_new _ _)
  have HT2 : Hid (TL w2 w1.heap.size l) := by show TL _ _ _; rw [hw2]; exact heap_last _ _
  have HR2 : Hid (TrAt w2 w.heap.size 0 (fun _ => 0)) := by
    have q1 : TrAt w1 w.heap.size 0 (fun _ => 0) := HR0.out.of (hB1.block _ HR0.out.lt)
    show TrAt _ _ _ _
    rw [hw2]
    exact q1.of (heap_allo q1.lt _)
  rw [← hw2] at hst
  clear hB1 hw2
  have hst2 : (storeCells ⟨w.heap.size, 0, none⟩ (tC l).toList 0).run Try.prog w2 = .ok () (w2.setRow w.heap.size (tC l)) := st_tr HR2.out
  go_wp2_with (refine wl_load rfl rfl HT2.out rfl ?_)
  exact bodyPost_ret (results_tr_tmp rfl rfl (TrAt.row HR2.out)) rfl ⟨rfl, below_row HB1.out (Nat.le_refl _)⟩

end Go.Proofs.Ythmnoepjkobcmab
