/- norm's treeError, Normal and Is. -/
import Derived.Test.YtdmjcfecahcdnabDoorXq
import Derived.Test.YtdmjcfecahcdnabDoorTh
import Derived.Test.YtdmjcfecahcdnabDoorTs
import Derived.Test.YtdmjcfecahcdnabDoorTu
namespace Go.Proofs.YtdmjcfecahcdnabDoor
open Go Go.RowKit
set_option linter.unusedVariables false

theorem depthN (v : Value) (ts : List Nd) (w : World) (hv : NReads w v ts) (hm : ts.length ≤ 9223372036854775806) (hP : PTab w) :
    Calls Tryd.prog 20 #[v] w fun e w' => ∃ d : Int, e = .returned (.tuple #[.int .i64 d, .int .i64 (wrong ts)]) ∧ Below w.heap.size w w' := by
  by_cases h0 : wrong ts = 0
  · obtain ⟨hl, hf⟩ := wrong_zero h0
    rw [h0]
    exact (depth_any v ts w hv hl hP h0 hf).mono fun e w' h => ⟨_, h⟩
  · exact (depth_bad v ts w hv hm hP h0).mono fun e w' h => ⟨_, h⟩

set_option maxHeartbeats 1000000 in
set_option maxRecDepth 100000 in
theorem nerr_any (v : Value) (ts : List Nd) (w : World) (hv : NReads w v ts) (hm : ts.length ≤ 9223372036854775806) (hP : PTab w) :
    Calls Tryd.prog 11 #[v] w fun e w' => e = .returned (.int .i64 (wrong ts)) ∧ Below w.heap.size w w' := by
  have HC := depthN v ts w hv hm hP
  obtain ⟨x, hx⟩ : ∃ x, wrong ts = x := ⟨_, rfl⟩
  rw [hx] at HC ⊢
  clear hx hv hP
  go_enter Tryd.func11, Tryd.ntmps11
  go_wp2_with fail
  refine HC.mono ?_
  rintro e w1 ⟨d, rfl, hb1⟩
  go_wp2_with fail
  go_ret
  exact ⟨rfl, hb1⟩
/-- The normal form of a list, where it is a tree. -/
def nfL (ts : List Nd) (R : List Nd) : Prop := ∃ T : Tr, T.ok ∧ T.flat = ts ∧ R = (nrm T).flat
theorem nfL_of {ts : List Nd} (h : wrong ts = 0) : ∃ T : Tr, T.ok ∧ T.flat = ts := by
  obtain ⟨hl, hf⟩ := wrong_zero h
  exact tr_of ts.length ts (Nat.le_refl _) hf
theorem FT.row {base : Nat} {w : World} {B : Nat} {F : Fb} {T : Tr} (h : FT base w B [T] F) : w.ownsRow base 33 2 (.slice (some ⟨F.nb, 0, none⟩) T.flat.length F.nc) T.flat.length (ndC T.flat) ∧ w.cell? ⟨B, 0, none⟩ = some (.slice (some ⟨F.nb, 0, none⟩) T.flat.length F.nc) := by
  have h1 := h.nod
  have h2 := h.cells.1
  rw [flatL_one] at h1 h2
  exact ⟨h1, h2⟩
/-- What Normal tells of a good tree, and of a bad one. -/
def NQ (T : Tr) (w : World) (e : Ending) (w' : World) : Prop := ∃ u, e = .returned (.tuple #[u, .int .i64 0]) ∧ w'.ownsRow w.heap.size 33 2 u (nrm T).flat.length (ndC (nrm T).flat) ∧ Below w.heap.size w w'

set_option maxHeartbeats 2000000 in
set_option maxRecDepth 100000 in
theorem normal_bad (v : Value) (ts : List Nd) (w : World) (hv : NReads w v ts) (hm : ts.length ≤ 9223372036854775806) (hP : PTab w) (h0 : wrong ts ≠ 0) :
    Calls Tryd.prog 5 #[v] w fun e w' => e = .returned (.tuple #[.slice none 0 0, .int .i64 (wrong ts)]) ∧ Below w.heap.size w w' := by
  have HC := nerr_any v ts w hv hm hP
  obtain ⟨x, hx⟩ : ∃ x, wrong ts = x := ⟨_, rfl⟩
  rw [hx] at HC h0 ⊢
  have hb : (x != 0) = true := by simpa using h0
  clear hx hv hP h0
  go_enter Tryd.func5, Tryd.ntmps5
  go_wp2_with fail
  refine HC.mono ?_
  rintro e w1 ⟨rfl, hb1⟩
  go_wp2_with fail
  go_ret2
  exact ⟨rfl, hb1⟩

set_option maxHeartbeats 2000000 in
set_option maxRecDepth 100000 in
theorem normal_good (T : Tr) (ho : T.ok) (a : Option Addr) (cap : Nat) (w : World) (hv : NReads w (.slice a T.flat.length cap) T.flat) (hP : PTab w) (h0 : wrong T.flat = 0) :
    Calls Tryd.prog 5 #[.slice a T.flat.length cap] w fun e w' => NQ T w e w' := by
  obtain ⟨hl, hf⟩ := wrong_zero h0
  have HC := nerr_any (.slice a T.flat.length cap) T.flat w hv (by omega) hP
  rw [h0] at HC
  have HV : Hid (NReads w (.slice a T.flat.length cap) T.flat) := hv
  have HN : Hid (∀ w', Below w.heap.size w w' → Calls Tryd.prog 12 #[.slice a T.flat.length cap] w' fun en w9 => ∃ (B : Nat) (F : Fb), en = .returned (.pointer (some ⟨B, 0, none⟩)) ∧ FT w'.heap.size w9 B [nrm T] F ∧ Below w'.heap.size w' w9) := fun w' hb => normal_any a cap T ho w' (hv.stay hb) (by omega)
  obtain ⟨n, hn⟩ : ∃ n, T.flat.length = n := ⟨_, rfl⟩
  rw [hn] at HC HN ⊢
  clear hv hP h0 hn hl hf HV
  go_enter Tryd.func5, Tryd.ntmps5
  go_wp2_with fail
  refine HC.mono ?_
  rintro e w1 ⟨rfl, hb1⟩
  have HB1 : Hid (Below w.heap.size w w1) := hb1
  clear hb1
  go_wp2_with fail
  refine (HN.out _ HB1.out).mono ?_
  rintro e w2 ⟨B, F, rfl, hf2, hb2⟩
  obtain ⟨hrow, hc⟩ := FT.row hf2
  have HO : Hid (w2.ownsRow w.heap.size 33 2 (.slice (some ⟨F.nb, 0, none⟩) (nrm T).flat.length F.nc) (nrm T).flat.length (ndC (nrm T).flat)) := own_mono hrow HB1.out.size
  have HB2 : Hid (Below w.heap.size w w2) := go_on HB1.out hb2
  clear hrow hf2 hb2
  go_wp2_with fail
  go_ret2
  exact ⟨_, rfl, HO.out, HB2.out⟩

end Go.Proofs.YtdmjcfecahcdnabDoor
