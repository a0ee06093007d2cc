/- Contracts of the document's Depth, Stars and Check, and of tree.Check. -/
import Derived.Test.YtjonlmafhijcoaaDoorTt
import Derived.Test.YtjonlmafhijcoaaDoorTh
namespace Go.Proofs.YtjonlmafhijcoaaDoor
open Go.RowKit

theorem wrong_zero {ts : List Nd} (h : wrong ts = 0) : ts.length ≤ 4000 ∧ freeN ts = some 1 := by
  unfold wrong at h
  split at h
  · omega
  · split at h
    · rename_i h1 h2; exact ⟨by omega, h2⟩
    · omega
theorem good_all {ts : List Nd} (hf : freeN ts = some 1) {i : Nat} (hi : i < ts.length) : good (ts.getD i (0, 0)) = true := by
  obtain ⟨_, _, hg, _⟩ := free_good hf hi
  exact hg
/-- A letter that is none of the first k. -/
def farL (k : Int) (n : Nd) : Bool := decide (n.1 = 3 ∧ 97 + k ≤ n.2)
/-- What Check answers. -/
def checkV (k : Int) (ts : List Nd) : Int :=
  if k < 1 ∨ 8 < k then 20 else if wrong ts ≠ 0 then wrong ts else if 128 < (heavyN (fun _ => 1) ts).getD 0 0 then 31 else if ts.any (farL k) then 21 else 0
theorem any_at {ts : List Nd} {k : Int} {i : Nat} (h : i < ts.length) (hx : farL k (ts.getD i (0, 0)) = true) : ts.any (farL k) = true := by
  rw [List.any_eq_true]
  refine ⟨ts[i], List.getElem_mem h, ?_⟩
  rw [List.getD_eq_getElem?_getD, List.getElem?_eq_getElem h] at hx
  exact hx
theorem any_none {ts : List Nd} {k : Int} (h : ∀ j, j < ts.length → farL k (ts.getD j (0, 0)) = false) : ts.any (farL k) = false := by
  rw [List.any_eq_false]
  intro x hx
  obtain ⟨j, hj, rfl⟩ := List.mem_iff_getElem.1 hx
  have := h j hj
  rw [List.getD_eq_getElem?_getD, List.getElem?_eq_getElem hj] at this
  simpa using this

set_option maxHeartbeats 1000000 in
set_option maxRecDepth 100000 in
theorem rDepth_any (v : Value) (ts : List Nd) (w : World) (hv : NReads w v ts) (hm : ts.length ≤ 9223372036854775806) :
    Calls Tryd.prog 26 #[v] w fun e w' => e = .returned (.tuple #[.int .i64 (if wrong ts = 0 then (((heavyN (fun _ => 1) ts).getD 0 0 : Nat) : Int) else 0), .int .i64 (wrong ts)]) ∧ Below w.heap.size w w' := by
  have HV : Hid (NReads w v ts) := hv
  clear hv
  by_cases h0 : wrong ts = 0
  · obtain ⟨hl, hf⟩ := wrong_zero h0
    have HX : Hid (wrong ts = 0) := h0
    have HF : Hid (freeN ts = some 1) := hf
    rw [if_pos h0, HX.out]
    clear hf h0
    have HD := rdepth_any false v ts
    have HDe : Hid (∀ w, NReads w v ts → Calls Tryd.prog 39 #[v, .bool false] w fun e w' => e = .returned (.int .i64 (((heavyN (fun _ => 1) ts).getD 0 0 : Nat) : Int)) ∧ Below w.heap.size w w') := fun w hw => HD w hw hl HF.out
    clear HD
    go_enter Tryd.func26, Tryd.ntmps26
    go_wp2_with fail
    refine (rwrong_any v ts _ HV.out hm).mono ?_
    rintro e w1 ⟨rfl, hb1⟩
    rw [HX.out]
    go_wp2_with fail
    refine (HDe.out _ (HV.out.stay hb1)).mono ?_
    rintro e w2 ⟨rfl, hb2⟩
    go_wp2_with fail
    go_ret2
    exact ⟨rfl, go_on hb1 hb2⟩
  · rw [if_neg h0]
    obtain ⟨x, HX⟩ : ∃ x, Hid (wrong ts = x) := ⟨_, rfl⟩
    rw [HX.out] at h0 ⊢
    have hxb : (x != 0) = true := by simpa using h0
    go_enter Tryd.func26, Tryd.ntmps26
    go_wp2_with fail
    refine (rwrong_any v ts _ HV.out hm).mono ?_
    rintro e w1 ⟨rfl, hb1⟩
    rw [HX.out]
    go_wp2_with fail
    go_ret2
    exact ⟨rfl, hb1⟩

end Go.Proofs.YtjonlmafhijcoaaDoor
