/- Contract of tree.heaviestWay at Stars' weight, and of tree.Stars, of a tree. -/
import Derived.Test.YtfdkkiecibdblaaDoorTg
namespace Go.Proofs.YtfdkkiecibdblaaDoor
open Go.RowKit

/-- Stars' weight. -/
def wtS (n : Nd) : Nat := if n.1 = 8 then 1 else 0
theorem wtS_le (n : Nd) : wtS n ≤ 1 := by unfold wtS; split <;> omega

set_option maxHeartbeats 1000000 in
set_option maxRecDepth 100000 in
theorem depth_bad (v : Value) (ts : List Nd) (w : World) (hv : NReads w v ts) (hm : ts.length ≤ 9223372036854775806) (hP : PTab w) (hbad : wrong ts ≠ 0) :
    Calls Tryd.prog 44 #[v] w fun e w' => e = .returned (.tuple #[.int .i64 0, .int .i64 (wrong ts)]) ∧ Below w.heap.size w w' := by
  have HV : Hid (NReads w v ts) := hv
  have HP : Hid (PTab w) := hP
  obtain ⟨x, HX⟩ : ∃ x, Hid (wrong ts = x) := ⟨_, rfl⟩
  rw [HX.out] at hbad
  have hxb : (x != 0) = true := by simpa using hbad
  clear hv hP hbad
  rw [HX.out]
  have HW : Hid (Calls Tryd.prog 56 #[v, .func (.func 57) #[] #[]] w fun e w' => e = .returned (.tuple #[.int .i64 0, .int .i64 x]) ∧ Below w.heap.size w w') := by
    show Calls _ _ _ _ _
    go_enter Tryd.func56, Tryd.ntmps56
    go_wp2_with fail
    refine (treeError_any v ts _ HV.out hm HP.out).mono ?_
    rintro e w1 ⟨rfl, hb1⟩
    rw [HX.out]
    go_wp2_with fail
    go_ret2
    exact ⟨rfl, hb1⟩
  go_enter Tryd.func44, Tryd.ntmps44
  go_wp2_with fail
  refine Calls.mono HW.out ?_
  rintro e w1 ⟨rfl, hb1⟩
  go_wp2_with fail
  go_ret2
  exact ⟨rfl, hb1⟩

end Go.Proofs.YtfdkkiecibdblaaDoor
