/- The laws' live: (ab)* there and back. -/
import Derived.Test.YtjonlmafhijcoaaDoorSk
namespace Go.Proofs.YtjonlmafhijcoaaDoor
open Go Go.RowKit
set_option linter.unusedVariables false

def liveX : ByteArray := { data := #[40, 32, 97, 98, 41, 42] }
def liveT : List Nd := [(3, 97), (3, 98), (7, 0), (8, 0)]
def liveA : Array Value := #[.int .i64 3, .int .u8 97, .int .i64 3, .int .u8 98, .int .i64 7, .int .u8 0, .int .i64 8, .int .u8 0]
theorem live_parse : parseS 2 liveX = .inr liveT := by decide +kernel
theorem live_check : checkV 2 liveT = 0 := by decide +kernel
theorem live_print : printV 2 liveT = ({ data := #[40, 97, 98, 41, 42] }, 0) := by decide +kernel
theorem num4_any (e0 : Int) (w : World) :
    Calls Tryd.prog 12 #[.int .i64 e0] w fun e w' => e = .returned (.int .i64 e0) ∧ w' = w := by
  go_enter Tryd.func12, Tryd.ntmps12
  go_wp2
  go_ret
  exact ⟨rfl, rfl⟩
theorem live_reads (w : World) : NReads (w.alloc (.cells liveA 56)) (.slice (some ⟨w.heap.size, 0, none⟩) 4 4) liveT := by
  refine ⟨_, 4, rfl, fun i hi => ⟨w.heap.size, 0, rfl, by simp, ?_⟩⟩
  have hi : i < 4 := hi
  have r := (RowAt.last w liveA 56).cell
  have hc : i = 0 ∨ i = 1 ∨ i = 2 ∨ i = 3 := by omega
  rcases hc with rfl | rfl | rfl | rfl
  · exact ⟨r 0, r 1⟩
  · exact ⟨r 2, r 3⟩
  · exact ⟨r 4, r 5⟩
  · exact ⟨r 6, r 7⟩

set_option maxHeartbeats 4000000 in
set_option maxRecDepth 100000 in
theorem live_any (w : World) (hT : TTab w) (hP : PTab w) :
    Calls Tryd.prog 14 #[] w fun e w' => e = .returned (.bool true) ∧ Below w.heap.size w w' := by
  have HT : Hid (TTab w) := hT
  have HP : Hid (PTab w) := hP
  clear hT hP
  go_enter Tryd.func14, Tryd.ntmps14
  go_wp2_with fail
  refine (parse_any (tx := liveX) 2 (by decide) _ (by decide) HT.out HP.out).mono ?_
  rintro e w1 ⟨hpe, hb1⟩
  unfold ParseEnd at hpe
  rw [live_parse] at hpe
  simp only [live_check, if_true] at hpe
  obtain ⟨u, rfl, hou⟩ := hpe
  have hou4 : w1.ownsRow w.heap.size 56 2 u 4 (ndC liveT) := hou
  obtain ⟨ua, uc, rfl⟩ := own_shape hou4
  obtain ⟨a', c', e', hr⟩ := own_nreads (ts := liveT) hou4
  obtain ⟨g, o, e2, hg, p0, _⟩ := hr 3 (by decide)
  simp only [Value.slice.injEq] at e'
  rw [e2] at e'
  obtain ⟨rfl, -, -⟩ := e'
  have p0 : w1.cell? ⟨g, o + 3 * 2, none⟩ = some (.int .i64 8) := p0
  have HB1 : Hid (Below w.heap.size w w1) := hb1
  clear hou hou4 hr e2 hb1
  go_wp2_with fail
  have BA : Hid (Below w1.heap.size w1 (w1.alloc (.cells liveA 56))) := (Below.refl _ _).alloc (Nat.le_refl _) _
  refine (print_any 2 (by decide) _ liveT _ (live_reads w1) (by decide) (HT.out.stay (go_on HB1.out BA.out)) (HP.out.stay (go_on HB1.out BA.out))).mono ?_
  rintro e w2 ⟨rfl, hb2⟩
  rw [live_print]
  have HB2 : Hid (Below w.heap.size w w2) := go_on (go_on HB1.out BA.out) hb2
  have q0 : w2.cell? ⟨g, o + 3 * 2, none⟩ = some (.int .i64 8) := by rw [below_cell (go_on BA.out hb2) hg]; exact p0
  clear hb2 p0
  go_wp2_with fail
  refine (num4_any _ _).mono ?_
  rintro e w3 ⟨rfl, rfl⟩
  go_wp2_with fail
  refine (num4_any _ _).mono ?_
  rintro e w4 ⟨rfl, rfl⟩
  go_wp2_with fail
  go_ret
  exact ⟨rfl, HB2.out⟩
end Go.Proofs.YtjonlmafhijcoaaDoor
