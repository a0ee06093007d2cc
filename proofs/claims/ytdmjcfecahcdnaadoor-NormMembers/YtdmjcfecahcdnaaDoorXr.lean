/- norm's treeError, Normal and Is. -/
import Derived.Test.YtdmjcfecahcdnaaDoorXq
import Derived.Test.YtdmjcfecahcdnaaDoorTh
import Derived.Test.YtdmjcfecahcdnaaDoorTs
import Derived.Test.YtdmjcfecahcdnaaDoorTu
namespace Go.Proofs.YtdmjcfecahcdnaaDoor
open Go Go.RowKit
set_option linter.unusedVariables false

theorem depthN (v : Value) (ts : List Nd) (w : World) (hv : NReads w v ts) (hm : ts.length ≤ 9223372036854775806) (hP : PTab w) :
    Calls Tryd.prog 51 #[v] w fun e w' => ∃ d : Int, e = .returned (.tuple #[.int .i64 d, .int .i64 (wrong ts)]) ∧ Below w.heap.size w w' := by
  by_cases h0 : wrong ts = 0
  · obtain ⟨hl, hf⟩ := wrong_zero h0
    rw [h0]
    exact (depth_any v ts w hv hl hP h0 hf).mono fun e w' h => ⟨_, h⟩
  · exact (depth_bad v ts w hv hm hP h0).mono fun e w' h => ⟨_, h⟩

set_option maxHeartbeats 1000000 in
set_option maxRecDepth 100000 in
theorem nerr_any (v : Value) (ts : List Nd) (w : World) (hv : NReads w v ts) (hm : ts.length ≤ 9223372036854775806) (hP : PTab w) :
    Calls Tryd.prog 31 #[v] w fun e w' => e = .returned (.int .i64 (wrong ts)) ∧ Below w.heap.size w w' := by
  have HC := depthN v ts w hv hm hP
  obtain ⟨x, hx⟩ : ∃ x, wrong ts = x := ⟨_, rfl⟩
  rw [hx] at HC ⊢
  clear hx hv hP
  go_enter Tryd.func31, Tryd.ntmps31
  go_wp2_with fail
  refine HC.mono ?_
  rintro e w1 ⟨d, rfl, hb1⟩
  go_wp2_with fail
  go_ret
  exact ⟨rfl, hb1⟩
/-- The normal form of a list, where it is a tree. -/
def nfL (ts : List Nd) (R : List Nd) : Prop := ∃ T : Tr, T.ok ∧ T.flat = ts ∧ R = (nrm T).flat
theorem nfL_of {ts : List Nd} (h : wrong ts = 0) : ∃ T : Tr, T.ok ∧ T.flat = ts := by
  obtain ⟨hl, hf⟩ := wrong_zero h
  exact tr_of ts.length ts (Nat.le_refl _) hf
theorem FT.row {base : Nat} {w : World} {B : Nat} {F : Fb} {T : Tr} (h : FT base w B [T] F) : w.ownsRow base 52 2 (.slice (some ⟨F.nb, 0, none⟩) T.flat.length F.nc) T.flat.length (ndC T.flat) ∧ w.cell? ⟨B, 0, none⟩ = some (.slice (some ⟨F.nb, 0, none⟩) T.flat.length F.nc) := by
  have h1 := h.nod
  have h2 := h.cells.1
  rw [flatL_one] at h1 h2
  exact ⟨h1, h2⟩
/-- What Normal tells of a good tree, and of a bad one. -/
def NQ (T : Tr) (w : World) (e : Ending) (w' : World) : Prop := ∃ u, e = .returned (.tuple #[u, .int .i64 0]) ∧ w'.ownsRow w.heap.size 52 2 u (nrm T).flat.length (ndC (nrm T).flat) ∧ Below w.heap.size w w'

set_option maxHeartbeats 2000000 in
set_option maxRecDepth 100000 in
theorem normal_bad (v : Value) (ts : List Nd) (w : World) (hv : NReads w v ts) (hm : ts.length ≤ 9223372036854775806) (hP : PTab w) (h0 : wrong ts ≠ 0) :
    Calls Tryd.prog 10 #[v] w fun e w' => e = .returned (.tuple #[.slice none 0 0, .int .i64 (wrong ts)]) ∧ Below w.heap.size w w' := by
  have HC := nerr_any v ts w hv hm hP
  obtain ⟨x, hx⟩ : ∃ x, wrong ts = x := ⟨_, rfl⟩
  rw [hx] at HC h0 ⊢
  have hb : (x != 0) = true := by simpa using h0
  clear hx hv hP h0
  go_enter Tryd.func10, Tryd.ntmps10
  go_wp2_with fail
  refine HC.mono ?_
  rintro e w1 ⟨rfl, hb1⟩
  go_wp2_with fail
  go_ret2
  exact ⟨rfl, hb1⟩

set_option maxHeartbeats 2000000 in
set_option maxRecDepth 100000 in
theorem normal_good (T : Tr) (ho : T.ok) (a : Option Addr) (cap : Nat) (w : World) (hv : NReads w (.slice a T.flat.length cap) T.flat) (hP : PTab w) (h0 : wrong T.flat = 0) :
    Calls Tryd.prog 10 #[.slice a T.flat.length cap] w fun e w' => NQ T w e w' := by
  obtain ⟨hl, hf⟩ := wrong_zero h0
  have HC := nerr_any (.slice a T.flat.length cap) T.flat w hv (by omega) hP
  rw [h0] at HC
  have HV : Hid (NReads w (.slice a T.flat.length cap) T.flat) := hv
  have HN : Hid (∀ w', Below w.heap.size w w' → Calls Tryd.prog 32 #[.slice a T.flat.length cap] w' fun en w9 => ∃ (B : Nat) (F : Fb), en = .returned (.pointer (some ⟨B, 0, none⟩)) ∧ FT w'.heap.size w9 B [nrm T] F ∧ Below w'.heap.size w' w9) := fun w' hb => normal_any a cap T ho w' (hv.stay hb) (by omega)
  obtain ⟨n, hn⟩ : ∃ n, T.flat.length = n := ⟨_, rfl⟩
  rw [hn] at HC HN ⊢
  clear hv hP h0 hn hl hf HV
  go_enter Tryd.func10, Tryd.ntmps10
  go_wp2_with fail
  refine HC.mono ?_
  rintro e w1 ⟨rfl, hb1⟩
  have HB1 : Hid (Below w.heap.size w w1) := hb1
  clear hb1
  go_wp2_with fail
  refine (HN.out _ HB1.out).mono ?_
  rintro e w2 ⟨B, F, rfl, hf2, hb2⟩
  obtain ⟨hrow, hc⟩ := FT.row hf2
  have HO : Hid (w2.ownsRow w.heap.size 52 2 (.slice (some ⟨F.nb, 0, none⟩) (nrm T).flat.length F.nc) (nrm T).flat.length (ndC (nrm T).flat)) := own_mono hrow HB1.out.size
  have HB2 : Hid (Below w.heap.size w w2) := go_on HB1.out hb2
  clear hrow hf2 hb2
  go_wp2_with fail
  go_ret2
  exact ⟨_, rfl, HO.out, HB2.out⟩

set_option maxHeartbeats 2000000 in
set_option maxRecDepth 100000 in
theorem is_good (T : Tr) (ho : T.ok) (a : Option Addr) (cap : Nat) (w : World) (hv : NReads w (.slice a T.flat.length cap) T.flat) (hP : PTab w) (h0 : wrong T.flat = 0) :
    Calls Tryd.prog 11 #[.slice a T.flat.length cap] w fun e w' => e = .returned (.tuple #[.bool (decide ((nrm T).flat = T.flat)), .int .i64 0]) ∧ Below w.heap.size w w' := by
  obtain ⟨hl, hf⟩ := wrong_zero h0
  have HC := normal_good T ho a cap w hv hP h0
  have HV : Hid (NReads w (.slice a T.flat.length cap) T.flat) := hv
  have hnl := nrm_len ho
  obtain ⟨D, hD⟩ : ∃ D, decide ((nrm T).flat = T.flat) = D := ⟨_, rfl⟩
  have HE : Hid (∀ (w' : World) (u v : Value), NReads w' u (nrm T).flat → NReads w' v T.flat → Calls Tryd.prog 33 #[u, v] w' fun e w9 => e = .returned (.bool D) ∧ Below w'.heap.size w' w9) := fun w' u v h1 h2 => by
    have := sequal_any u v _ _ w' h1 h2 (by omega)
    rw [hD] at this
    exact this
  rw [hD]
  obtain ⟨n, hn⟩ : ∃ n, T.flat.length = n := ⟨_, rfl⟩
  rw [hn] at HC HV ⊢
  clear hv hP h0 hn hl hf hnl hD
  go_enter Tryd.func11, Tryd.ntmps11
  go_wp2_with fail
  refine HC.mono ?_
  rintro e w1 ⟨u, rfl, ho1, hb1⟩
  have HO1 : Hid (NReads w1 u (nrm T).flat) := own_nreads ho1
  have HB1 : Hid (Below w.heap.size w w1) := hb1
  clear ho1 hb1
  go_wp2_with fail
  refine (HE.out _ _ _ HO1.out (HV.out.stay HB1.out)).mono ?_
  rintro e w2 ⟨rfl, hb2⟩
  have HB2 : Hid (Below w.heap.size w w2) := go_on HB1.out hb2
  clear hb2
  go_wp2_with fail
  go_ret2
  exact ⟨rfl, HB2.out⟩
end Go.Proofs.YtdmjcfecahcdnaaDoor
