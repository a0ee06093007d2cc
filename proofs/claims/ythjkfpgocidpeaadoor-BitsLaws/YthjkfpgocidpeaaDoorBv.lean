/- Contract of bits.Subset. -/
import Derived.Test.YthjkfpgocidpeaaDoorBt
namespace Go.Proofs.YthjkfpgocidpeaaDoor
open Go.RowKit

theorem fits_or {A B : Nat} (hA : Fits A) (hB : Fits B) : Fits (orN A B) := fun i hi => by unfold orN; rw [Nat.testBit_or, hA i hi, hB i hi]; rfl
theorem row_drew {w : World} {b : Nat} {arr : Array Value} (r : RowAt w b arr) : RowAt w.drew b arr := ⟨r.lt, r.cell⟩
/-- What Subset answers. -/
def subN (A B : Nat) : Bool := decide (orN A B = B)

set_option maxHeartbeats 4000000 in
set_option maxRecDepth 100000 in
theorem subset_any (A B : Nat) (hA : Fits A) (hB : Fits B) (w : World) :
    Calls Tryd.prog 28 #[setV A, setV B] w fun e w' => e = .returned (.bool (subN A B)) ∧ Below w.heap.size w w' := by
  have hE := eq_set (fits_or hA hB) hB
  have HS : Hid (decide (orN A B = B) = subN A B) := rfl
  obtain ⟨U, HU⟩ : ∃ U, Hid (orN A B = U) := ⟨_, rfl⟩
  rw [HU.out] at hE
  rw [HU.out] at HS
  obtain ⟨y, hy⟩ : ∃ y, decide (U = B) = y := ⟨_, rfl⟩
  rw [hy] at hE HS
  clear hy
  have r0 : RowAt ((w.alloc (.cells (cellsF (word A)) 25)).alloc (.cells (cellsF (word B)) 25)) w.heap.size (cellsF (word A)) := (RowAt.last w _ _).alloc _
  have s0 : RowAt ((w.alloc (.cells (cellsF (word A)) 25)).alloc (.cells (cellsF (word B)) 25)) (w.heap.size + 1) (cellsF (word B)) := by
    have := RowAt.last (w.alloc (.cells (cellsF (word A)) 25)) (cellsF (word B)) 25
    simpa using this
  have HW : Hid (Below w.heap.size w ((w.alloc (.cells (cellsF (word A)) 25)).alloc (.cells (cellsF (word B)) 25))) := ((Below.refl _ _).alloc (Nat.le_refl _) _).alloc (by simp) _
  unfold setV
  go_enter Tryd.func28, Tryd.ntmps28
  go_wp2_with fail
  generalize hWd : (w.alloc (.cells (cellsF (word A)) 25)).alloc (.cells (cellsF (word B)) 25) = W at r0 s0 HW ⊢
  clear hWd
  unfold cellsF at r0 s0 hE
  have rs := row_drew r0
  have ss := row_drew s0
  have B0 : Below w.heap.size w W.drew := HW.out.drew
  have cs := RowAt.cell rs
  have cs0 := RowAt.cell r0
  have ds := RowAt.cell ss
  have ds0 := RowAt.cell s0
  go_region_with (go_at_call 24; refine (union_any A B _).mono ?_; rintro e w1 ⟨rfl, hb1⟩; rw [HU.out]; unfold setV cellsF; have rs := RowAt.stay rs hb1; have cs := RowAt.cell rs; have ss := RowAt.stay ss hb1; have ds := RowAt.cell ss; have B0 := go_on B0 hb1)
  all_goals go_wp2_with fail
  all_goals go_ret
  all_goals exact ⟨ret_bool HS.out, B0⟩

end Go.Proofs.YthjkfpgocidpeaaDoor
