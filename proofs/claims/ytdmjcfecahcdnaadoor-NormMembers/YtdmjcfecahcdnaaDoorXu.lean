/- The law's knows. -/
import Derived.Test.YtdmjcfecahcdnaaDoorXt
namespace Go.Proofs.YtdmjcfecahcdnaaDoor
open Go Go.RowKit
set_option linter.unusedVariables false

theorem row_reads {w : World} {g : Nat} {ts : List Nd} {cap : Nat} (h : w.heap[g]? = some (.cells (ndC ts).toArray 52 (0, 0))) : NReads w (.slice (some ⟨g, 0, none⟩) ts.length cap) ts := by
  refine ⟨some ⟨g, 0, none⟩, cap, rfl, fun i hi => ⟨g, 0, rfl, (Array.getElem?_eq_some_iff.1 h).1, ?_, ?_⟩⟩
  · rw [Nat.zero_add, cell_of_row _ _ _ _ _ _ h]
    have := ndC_fst ts i hi
    simpa using this
  · rw [Nat.zero_add, cell_of_row _ _ _ _ _ _ h]
    have := ndC_snd ts i hi
    simpa using this

set_option maxHeartbeats 4000000 in
set_option maxRecDepth 100000 in
theorem knows5_any (w : World) (hP : PTab w) : Calls Tryd.prog 16 #[] w fun e w' => e = .returned (.bool true) ∧ Below w.heap.size w w' := by
  have HP : Hid (PTab w) := hP
  clear hP
  have HB : Hid (Below w.heap.size w ((((w.alloc (.cells #[.int .i64 3, .int .u8 97] 52)).alloc (.cells #[.int .i64 3, .int .u8 98] 52)).alloc (.cells #[.int .i64 5, .int .u8 0] 52)).alloc (.cells #[.int .i64 3, .int .u8 98, .int .i64 3, .int .u8 97, .int .i64 5, .int .u8 0] 52))) := ((((Below.refl _ _).alloc (Nat.le_refl _) _).alloc (by simp) _).alloc (by simp; omega) _).alloc (by simp; omega) _
  have R0 : Hid (RowAt ((((w.alloc (.cells #[.int .i64 3, .int .u8 97] 52)).alloc (.cells #[.int .i64 3, .int .u8 98] 52)).alloc (.cells #[.int .i64 5, .int .u8 0] 52)).alloc (.cells #[.int .i64 3, .int .u8 98, .int .i64 3, .int .u8 97, .int .i64 5, .int .u8 0] 52)) w.heap.size #[.int .i64 3, .int .u8 97]) := (((RowAt.last w _ _).alloc _).alloc _).alloc _
  have R1 : Hid (RowAt ((((w.alloc (.cells #[.int .i64 3, .int .u8 97] 52)).alloc (.cells #[.int .i64 3, .int .u8 98] 52)).alloc (.cells #[.int .i64 5, .int .u8 0] 52)).alloc (.cells #[.int .i64 3, .int .u8 98, .int .i64 3, .int .u8 97, .int .i64 5, .int .u8 0] 52)) (w.heap.size + 1) #[.int .i64 3, .int .u8 98]) := by
    have := ((RowAt.last (w.alloc (.cells #[.int .i64 3, .int .u8 97] 52)) #[.int .i64 3, .int .u8 98] 52).alloc (.cells #[.int .i64 5, .int .u8 0] 52)).alloc (.cells #[.int .i64 3, .int .u8 98, .int .i64 3, .int .u8 97, .int .i64 5, .int .u8 0] 52)
    rw [show (w.alloc (.cells #[.int .i64 3, .int .u8 97] 52)).heap.size = w.heap.size + 1 by simp] at this
    exact this
  have R2' : Hid (RowAt ((((w.alloc (.cells #[.int .i64 3, .int .u8 97] 52)).alloc (.cells #[.int .i64 3, .int .u8 98] 52)).alloc (.cells #[.int .i64 5, .int .u8 0] 52)).alloc (.cells #[.int .i64 3, .int .u8 98, .int .i64 3, .int .u8 97, .int .i64 5, .int .u8 0] 52)) (w.heap.size + 1 + 1) #[.int .i64 5, .int .u8 0]) := by
    have := (RowAt.last ((w.alloc (.cells #[.int .i64 3, .int .u8 97] 52)).alloc (.cells #[.int .i64 3, .int .u8 98] 52)) #[.int .i64 5, .int .u8 0] 52).alloc (.cells #[.int .i64 3, .int .u8 98, .int .i64 3, .int .u8 97, .int .i64 5, .int .u8 0] 52)
    rw [show ((w.alloc (.cells #[.int .i64 3, .int .u8 97] 52)).alloc (.cells #[.int .i64 3, .int .u8 98] 52)).heap.size = w.heap.size + 1 + 1 by simp] at this
    exact this
  have HV : Hid (NReads ((((w.alloc (.cells #[.int .i64 3, .int .u8 97] 52)).alloc (.cells #[.int .i64 3, .int .u8 98] 52)).alloc (.cells #[.int .i64 5, .int .u8 0] 52)).alloc (.cells #[.int .i64 3, .int .u8 98, .int .i64 3, .int .u8 97, .int .i64 5, .int .u8 0] 52)) (.slice (some ⟨w.heap.size + 1 + 1 + 1, 0, none⟩) 3 3) tKnow.flat) := by
    have h := heap_alloc_new (((w.alloc (.cells #[.int .i64 3, .int .u8 97] 52)).alloc (.cells #[.int .i64 3, .int .u8 98] 52)).alloc (.cells #[.int .i64 5, .int .u8 0] 52)) (.cells #[.int .i64 3, .int .u8 98, .int .i64 3, .int .u8 97, .int .i64 5, .int .u8 0] 52)
    rw [show (((w.alloc (.cells #[.int .i64 3, .int .u8 97] 52)).alloc (.cells #[.int .i64 3, .int .u8 98] 52)).alloc (.cells #[.int .i64 5, .int .u8 0] 52)).heap.size = w.heap.size + 1 + 1 + 1 by simp] at h
    exact row_reads (ts := tKnow.flat) (cap := 3) h
  go_enter Tryd.func16, Tryd.ntmps16
  go_wp2_with fail
  generalize (((w.alloc (.cells #[.int .i64 3, .int .u8 97] 52)).alloc (.cells #[.int .i64 3, .int .u8 98] 52)).alloc (.cells #[.int .i64 5, .int .u8 0] 52)).alloc (.cells #[.int .i64 3, .int .u8 98, .int .i64 3, .int .u8 97, .int .i64 5, .int .u8 0] 52) = wA at HB R0 R1 R2' HV ⊢
  refine (normal_good tKnow tKnow_ok _ _ _ HV.out (HP.out.stay HB.out) tKnow_wrong).mono ?_
  rintro e w1 ⟨u, rfl, ho1, hb1⟩
  rw [tKnow_nrm] at ho1
  have HU : Hid (NReads w1 u [(3, 97), (3, 98), (5, 0)]) := own_nreads ho1
  have HB1 : Hid (Below w.heap.size w w1) := go_on HB.out hb1
  have a0 := (R0.out.stay hb1).cell
  have a1 := (R1.out.stay hb1).cell
  have a2 := (R2'.out.stay hb1).cell
  have l2 := (R2'.out.stay hb1).lt
  clear ho1 hb1 R0 R1 R2' HV HB
  go_wp2_with fail
  refine (num5_any _ _).mono ?_
  rintro e w2 ⟨rfl, rfl⟩
  have HV2 : Hid (NReads (w2.alloc (.cells #[.int .i64 3, .int .u8 97, .int .i64 3, .int .u8 98, .int .i64 5, .int .u8 0] 52)) (.slice (some ⟨w2.heap.size, 0, none⟩) 3 3) [(3, 97), (3, 98), (5, 0)]) := row_reads (ts := [(3, 97), (3, 98), (5, 0)]) (cap := 3) (heap_alloc_new w2 _)
  have HB2 : Hid (Below w2.heap.size w2 (w2.alloc (.cells #[.int .i64 3, .int .u8 97, .int .i64 3, .int .u8 98, .int .i64 5, .int .u8 0] 52))) := (Below.refl _ _).alloc (Nat.le_refl _) _
  go_wp2_with fail
  refine (same_any _ _ [(3, 97), (3, 98), (5, 0)] [(3, 97), (3, 98), (5, 0)] _ (HU.out.stay HB2.out) HV2.out (by decide)).mono ?_
  rintro e w3 ⟨rfl, hb3⟩
  rw [decide_eq_true rfl]
  have HB3 : Hid (Below w.heap.size w w3) := go_on (go_on HB1.out HB2.out) hb3
  clear hb3
  go_wp2_with fail
  go_ret
  exact ⟨rfl, HB3.out⟩
end Go.Proofs.YtdmjcfecahcdnaaDoor
