/- terms.Parse where the text is wrong, or too long. -/
import Derived.Test.YthhlamehbcidgaaY21
namespace Go.Proofs.Ythhlamehbcidgaa
open Go Go.RowKit Go.Lib
set_option linter.unusedVariables false

/-- What Parse answers of a text that isn't right. -/
def PbQ (pl er : Int) (w : World) (e : Ending) (w' : World) : Prop := e = .returned (.tuple #[.agg #[.slice none 0 0, .slice none 0 0, .bool false], .int .i64 pl, .int .i64 er]) ∧ Below w.heap.size w w'

set_option maxHeartbeats 8000000 in
set_option maxRecDepth 100000 in
theorem parse_bad {s : ByteArray} (hs : s.size ≤ 1000) {pl : Nat} (hr : idE s = some pl) (w : World) :
    Calls Try.prog 8 #[.string s] w (PbQ pl 41 w) := by
  have hmf : ∀ (fn : Fn) (first cap : Array Value) (w : World), (Instr.makeFunc fn first cap).run Try.prog w = .ok (.func fn first cap) w := fun _ _ _ _ => rfl
  have hsI : ¬ ((1000 : Int) < s.size) := by omega
  have hsd : decide ((1000 : Int) < s.size) = false := decide_eq_false hsI
  obtain ⟨w5, hw5⟩ : ∃ w5, w5 = (((((w.alloc (.cells #[.slice none 0 0, .slice none 0 0, .bool false] 24)).alloc (.cells #[.int .i64 0] 3)).alloc (.cells #[.int .i64 0] 25)).alloc (.cells #[.string s, .int .i64 0, .slice none 0 0] 72)).alloc (.cells #[.pointer (some ⟨w.heap.size + 1 + 1 + 1, 0, none⟩)] 70)) := ⟨_, rfl⟩
  have HW5 : Hid (w5 = (((((w.alloc (.cells #[.slice none 0 0, .slice none 0 0, .bool false] 24)).alloc (.cells #[.int .i64 0] 3)).alloc (.cells #[.int .i64 0] 25)).alloc (.cells #[.string s, .int .i64 0, .slice none 0 0] 72)).alloc (.cells #[.pointer (some ⟨w.heap.size + 1 + 1 + 1, 0, none⟩)] 70))) := hw5
  have hb5 : Below w.heap.size w w5 := by rw [hw5]; exact go_on (go_on (go_on (go_on (below_new _ _) (below_new _ _)) (below_new _ _)) (below_new _ _)) (below_new _ _)
  have HB5 : Hid (Below w.heap.size w w5) := hb5
  have HSZ : Hid (w5.heap.size = w.heap.size + 5) := by show _ = _; rw [hw5]; simp
  have hA : IB w5 w.heap.size (.slice none 0 0) (.slice none 0 0) false := by
    rw [hw5]
    exact (heap_allo (by simp <;> omega) _).trans ((heap_allo (by simp <;> omega) _).trans ((heap_allo (by simp <;> omega) _).trans ((heap_allo (by simp) _).trans (heap_last _ _))))
  have hBc : w5.heap[w.heap.size + 1]? = some (.cells #[.int .i64 0] 3 (0, 0)) := by
    have h0 := heap_last (w.alloc (.cells #[.slice none 0 0, .slice none 0 0, .bool false] 24)) (.cells #[.int .i64 0] 3)
    rw [World.size_alloc] at h0
    rw [hw5]
    exact (heap_allo (by simp <;> omega) _).trans ((heap_allo (by simp <;> omega) _).trans ((heap_allo (by simp) _).trans h0))
  have hCc : w5.heap[w.heap.size + 1 + 1]? = some (.cells #[.int .i64 0] 25 (0, 0)) := by
    have h0 := heap_last ((w.alloc (.cells #[.slice none 0 0, .slice none 0 0, .bool false] 24)).alloc (.cells #[.int .i64 0] 3)) (.cells #[.int .i64 0] 25)
    rw [World.size_alloc, World.size_alloc] at h0
    rw [hw5]
    exact (heap_allo (by simp <;> omega) _).trans ((heap_allo (by simp) _).trans h0)
  have hD : RD w.heap.size w5 (w.heap.size + 1 + 1 + 1) s 0 (.slice none 0 0) [] := by
    have h0 := heap_last (((w.alloc (.cells #[.slice none 0 0, .slice none 0 0, .bool false] 24)).alloc (.cells #[.int .i64 0] 3)).alloc (.cells #[.int .i64 0] 25)) (.cells #[.string s, .int .i64 0, .slice none 0 0] 72)
    rw [World.size_alloc, World.size_alloc, World.size_alloc] at h0
    refine ⟨?_, World.ownsRow_nil _ _ _ _, by omega, Nat.zero_le _⟩
    rw [hw5]
    exact (heap_allo (by simp) _).trans h0
  have hE5 : w5.heap[w.heap.size + 1 + 1 + 1 + 1]? = some (.cells #[.pointer (some ⟨w.heap.size + 1 + 1 + 1, 0, none⟩)] 70 (0, 0)) := by
    have h0 := heap_last ((((w.alloc (.cells #[.slice none 0 0, .slice none 0 0, .bool false] 24)).alloc (.cells #[.int .i64 0] 3)).alloc (.cells #[.int .i64 0] 25)).alloc (.cells #[.string s, .int .i64 0, .slice none 0 0] 72)) (.cells #[.pointer (some ⟨w.heap.size + 1 + 1 + 1, 0, none⟩)] 70)
    rw [World.size_alloc, World.size_alloc, World.size_alloc, World.size_alloc] at h0
    rw [hw5]
    exact h0
  have HID : Hid (Calls Try.prog 29 #[.pointer (some ⟨w.heap.size + 1 + 1 + 1, 0, none⟩)] w5 (BaQ w.heap.size (w.heap.size + 1 + 1 + 1) s pl w5)) := identity_bad hs hD hr
  have HA : Hid (IB w5 w.heap.size (.slice none 0 0) (.slice none 0 0) false) := hA
  have HBc : Hid (w5.heap[w.heap.size + 1]? = some (.cells #[.int .i64 0] 3 (0, 0))) := hBc
  have HCc : Hid (w5.heap[w.heap.size + 1 + 1]? = some (.cells #[.int .i64 0] 25 (0, 0))) := hCc
  have HEc : Hid (w5.heap[w.heap.size + 1 + 1 + 1 + 1]? = some (.cells #[.pointer (some ⟨w.heap.size + 1 + 1 + 1, 0, none⟩)] 70 (0, 0))) := hE5
  clear hw5 hb5 hA hBc hCc hD hr hE5
  go_enter_defers Try.func8, Try.ntmps8
  go_wp2_with fail
  rw [← HW5.out]
  refine Calls.mono HID.out ?_
  rintro e w6 ⟨rfl, v6, M6, hr6, ho6⟩
  have hs5 := HSZ.out
  have hA6 : IB w6 w.heap.size (.slice none 0 0) (.slice none 0 0) false := HA.out.only ho6 (by omega)
  have hB6 : w6.heap[w.heap.size + 1]? = some (.cells #[.int .i64 0] 3 (0, 0)) := (ho6.block _ (by omega) (by omega)).trans HBc.out
  have hC6 : w6.heap[w.heap.size + 1 + 1]? = some (.cells #[.int .i64 0] 25 (0, 0)) := (ho6.block _ (by omega) (by omega)).trans HCc.out
  have hE6 : w6.heap[w.heap.size + 1 + 1 + 1 + 1]? = some (.cells #[.pointer (some ⟨w.heap.size + 1 + 1 + 1, 0, none⟩)] 70 (0, 0)) := (ho6.block _ (by omega) (by omega)).trans HEc.out
  have h6 : Below w.heap.size w w6 := ho6.below HB5.out (by omega) (fun j hj => by omega)
  refine leaves_cons (f := 28) (args := #[.pointer (some ⟨w.heap.size + 1 + 1 + 1 + 1, 0, none⟩), .pointer (some ⟨w.heap.size, 0, none⟩), .pointer (some ⟨w.heap.size + 1, 0, none⟩), .pointer (some ⟨w.heap.size + 1 + 1, 0, none⟩)]) (by simp) (by simp [go_sem]) ?_
  refine (catch_bad (w.heap.size + 1 + 1 + 1 + 1) w.heap.size (w.heap.size + 1) (w.heap.size + 1 + 1) (w.heap.size + 1 + 1 + 1) _ _ _ _ _ (pl : Nat) w6 (cell_at hE6 rfl) (cell_at hr6.box rfl) (cell_at hA6 rfl) (cell_at hA6 rfl) (cell_at hA6 rfl) (fun j => froz_of hA6) (cell_at hB6 rfl) (fun j => froz_of hB6) (cell_at hC6 rfl) (fun j => froz_of hC6) (by omega) (by omega) (by omega)).mono ?_
  rintro e u' w'' ⟨rfl, rfl, rfl⟩
  obtain ⟨wF, hwF⟩ : ∃ wF, wF = ((((w6.setCell ⟨w.heap.size, 0, none⟩ (.slice none 0 0)).setCell ⟨w.heap.size, 1, none⟩ (.slice none 0 0)).setCell ⟨w.heap.size, 2, none⟩ (.bool false)).setCell ⟨w.heap.size + 1, 0, none⟩ (.int .i64 (pl : Nat))).setCell ⟨w.heap.size + 1 + 1, 0, none⟩ (.int .i64 41) := ⟨_, rfl⟩
  have hAF : wF.heap[w.heap.size]? = some (.cells #[.slice none 0 0, .slice none 0 0, .bool false] 24 (0, 0)) := by
    rw [hwF, heap_set_other (by omega), heap_set_other (by omega)]
    exact heap_set (heap_set (heap_set hA6))
  have hBF : wF.heap[w.heap.size + 1]? = some (.cells #[.int .i64 (pl : Nat)] 3 (0, 0)) := by
    rw [hwF, heap_set_other (by omega)]
    have h0 : (((w6.setCell ⟨w.heap.size, 0, none⟩ (.slice none 0 0)).setCell ⟨w.heap.size, 1, none⟩ (.slice none 0 0)).setCell ⟨w.heap.size, 2, none⟩ (.bool false)).heap[w.heap.size + 1]? = some (.cells #[.int .i64 0] 3 (0, 0)) := by
      rw [heap_set_other (by omega), heap_set_other (by omega), heap_set_other (by omega)]
      exact hB6
    exact heap_set h0
  have hCF : wF.heap[w.heap.size + 1 + 1]? = some (.cells #[.int .i64 41] 25 (0, 0)) := by
    rw [hwF]
    have h0 : ((((w6.setCell ⟨w.heap.size, 0, none⟩ (.slice none 0 0)).setCell ⟨w.heap.size, 1, none⟩ (.slice none 0 0)).setCell ⟨w.heap.size, 2, none⟩ (.bool false)).setCell ⟨w.heap.size + 1, 0, none⟩ (.int .i64 (pl : Nat))).heap[w.heap.size + 1 + 1]? = some (.cells #[.int .i64 0] 25 (0, 0)) := by
      rw [heap_set_other (by omega), heap_set_other (by omega), heap_set_other (by omega), heap_set_other (by omega)]
      exact hC6
    exact heap_set h0
  have hbF : Below w.heap.size w wF := by
    rw [hwF]
    exact ((((h6.setCell (p := ⟨w.heap.size, 0, none⟩) (Nat.le_refl _) _).setCell (p := ⟨w.heap.size, 1, none⟩) (Nat.le_refl _) _).setCell (p := ⟨w.heap.size, 2, none⟩) (Nat.le_refl _) _).setCell (p := ⟨w.heap.size + 1, 0, none⟩) (by show w.heap.size ≤ w.heap.size + 1; omega) _).setCell (p := ⟨w.heap.size + 1 + 1, 0, none⟩) (by show w.heap.size ≤ w.heap.size + 1 + 1; omega) _
  have hBc0 : wF.cell? ⟨w.heap.size + 1, 0, none⟩ = some (.int .i64 (pl : Nat)) := cell_at hBF rfl
  have hCc0 : wF.cell? ⟨w.heap.size + 1 + 1, 0, none⟩ = some (.int .i64 41) := cell_at hCF rfl
  have hld := run_loadVar_row (P := Try.prog) wF w.heap.size 24 24 _ (0, 0) _ hAF Try.underlying24 rfl (by rw [Try.info_id]; rfl)
  rw [← hwF]
  clear hwF
  refine ⟨.tuple #[.agg #[.slice none 0 0, .slice none 0 0, .bool false], .int .i64 (pl : Nat), .int .i64 41], ?_, rfl, hbF⟩
  have e0 : wF.cell? ⟨w.heap.size, 0, none⟩ = some (.slice none 0 0) := cell_at hAF rfl
  have e1 : wF.cell? ⟨w.heap.size, 1, none⟩ = some (.slice none 0 0) := cell_at hAF rfl
  have e2 : wF.cell? ⟨w.heap.size, 2, none⟩ = some (.bool false) := cell_at hAF rfl
  simp [results, Try.results8, asAddr, go_sem, hBc0, hCc0, e0, e1, e2]

set_option maxHeartbeats 4000000 in
set_option maxRecDepth 100000 in
theorem parse_long {s : ByteArray} (hs : 1000 < s.size) (w : World) : Calls Try.prog 8 #[.string s] w (PbQ 0 40 w) := by
  have hsI : ((1000 : Int) < s.size) := by omega
  have hsd : decide ((1000 : Int) < s.size) = true := decide_eq_true hsI
  obtain ⟨w3, hw3⟩ : ∃ w3, w3 = ((w.alloc (.cells #[.slice none 0 0, .slice none 0 0, .bool false] 24)).alloc (.cells #[.int .i64 0] 3)).alloc (.cells #[.int .i64 0] 25) := ⟨_, rfl⟩
  have HW3 : Hid (w3 = ((w.alloc (.cells #[.slice none 0 0, .slice none 0 0, .bool false] 24)).alloc (.cells #[.int .i64 0] 3)).alloc (.cells #[.int .i64 0] 25)) := hw3
  have HB : Hid (Below w.heap.size w w3) := by show Below _ _ _; rw [hw3]; exact go_on (go_on (below_new _ _) (below_new _ _)) (below_new _ _)
  have hA : w3.heap[w.heap.size]? = some (.cells #[.slice none 0 0, .slice none 0 0, .bool false] 24 (0, 0)) := by
    rw [hw3]
    exact (heap_allo (by simp <;> omega) _).trans ((heap_allo (by simp) _).trans (heap_last _ _))
  have hBc : w3.heap[w.heap.size + 1]? = some (.cells #[.int .i64 0] 3 (0, 0)) := by
    have h0 := heap_last (w.alloc (.cells #[.slice none 0 0, .slice none 0 0, .bool false] 24)) (.cells #[.int .i64 0] 3)
    rw [World.size_alloc] at h0
    rw [hw3]
    exact (heap_allo (by simp) _).trans h0
  have hCc : w3.heap[w.heap.size + 1 + 1]? = some (.cells #[.int .i64 0] 25 (0, 0)) := by
    have h0 := heap_last ((w.alloc (.cells #[.slice none 0 0, .slice none 0 0, .bool false] 24)).alloc (.cells #[.int .i64 0] 3)) (.cells #[.int .i64 0] 25)
    rw [World.size_alloc, World.size_alloc] at h0
    rw [hw3]
    exact h0
  have HA : Hid (w3.heap[w.heap.size]? = some (.cells #[.slice none 0 0, .slice none 0 0, .bool false] 24 (0, 0))) := hA
  have HBc : Hid (w3.heap[w.heap.size + 1]? = some (.cells #[.int .i64 0] 3 (0, 0))) := hBc
  have HCc : Hid (w3.heap[w.heap.size + 1 + 1]? = some (.cells #[.int .i64 0] 25 (0, 0))) := hCc
  have p0 : w3.cell? ⟨w.heap.size, 0, none⟩ = some (.slice none 0 0) := cell_at hA rfl
  have p1 : w3.cell? ⟨w.heap.size, 1, none⟩ = some (.slice none 0 0) := cell_at hA rfl
  have p2 : w3.cell? ⟨w.heap.size, 2, none⟩ = some (.bool false) := cell_at hA rfl
  have pf : ∀ j, w3.frozen? ⟨w.heap.size, j, none⟩ = false := fun j => froz_of hA
  have q0 : w3.cell? ⟨w.heap.size + 1, 0, none⟩ = some (.int .i64 0) := cell_at hBc rfl
  have qf : ∀ j, w3.frozen? ⟨w.heap.size + 1, j, none⟩ = false := fun j => froz_of hBc
  have r0 : w3.cell? ⟨w.heap.size + 1 + 1, 0, none⟩ = some (.int .i64 0) := cell_at hCc rfl
  have rf : ∀ j, w3.frozen? ⟨w.heap.size + 1 + 1, j, none⟩ = false := fun j => froz_of hCc
  clear hw3 hA hBc hCc
  go_enter_defers Try.func8, Try.ntmps8
  go_upto_region 1 with fail
  rw [← HW3.out]
  go_wp2_with fail
  clear p0 p1 p2 pf q0 qf r0 rf
  obtain ⟨wF, hwF⟩ : ∃ wF, wF = ((((w3.setCell ⟨w.heap.size, 0, none⟩ (.slice none 0 0)).setCell ⟨w.heap.size, 1, none⟩ (.slice none 0 0)).setCell ⟨w.heap.size, 2, none⟩ (.bool false)).setCell ⟨w.heap.size + 1, 0, none⟩ (.int .i64 0)).setCell ⟨w.heap.size + 1 + 1, 0, none⟩ (.int .i64 40) := ⟨_, rfl⟩
  have hAF : wF.heap[w.heap.size]? = some (.cells #[.slice none 0 0, .slice none 0 0, .bool false] 24 (0, 0)) := by
    rw [hwF, heap_set_other (by omega), heap_set_other (by omega)]
    exact heap_set (heap_set (heap_set HA.out))
  have hBF : wF.heap[w.heap.size + 1]? = some (.cells #[.int .i64 0] 3 (0, 0)) := by
    rw [hwF, heap_set_other (by omega)]
    have h0 : (((w3.setCell ⟨w.heap.size, 0, none⟩ (.slice none 0 0)).setCell ⟨w.heap.size, 1, none⟩ (.slice none 0 0)).setCell ⟨w.heap.size, 2, none⟩ (.bool false)).heap[w.heap.size + 1]? = some (.cells #[.int .i64 0] 3 (0, 0)) := by
      rw [heap_set_other (by omega), heap_set_other (by omega), heap_set_other (by omega)]
      exact HBc.out
    exact heap_set h0
  have hCF : wF.heap[w.heap.size + 1 + 1]? = some (.cells #[.int .i64 40] 25 (0, 0)) := by
    rw [hwF]
    have h0 : ((((w3.setCell ⟨w.heap.size, 0, none⟩ (.slice none 0 0)).setCell ⟨w.heap.size, 1, none⟩ (.slice none 0 0)).setCell ⟨w.heap.size, 2, none⟩ (.bool false)).setCell ⟨w.heap.size + 1, 0, none⟩ (.int .i64 0)).heap[w.heap.size + 1 + 1]? = some (.cells #[.int .i64 0] 25 (0, 0)) := by
      rw [heap_set_other (by omega), heap_set_other (by omega), heap_set_other (by omega), heap_set_other (by omega)]
      exact HCc.out
    exact heap_set h0
  have hbF : Below w.heap.size w wF := by
    rw [hwF]
    exact ((((HB.out.setCell (p := ⟨w.heap.size, 0, none⟩) (Nat.le_refl _) _).setCell (p := ⟨w.heap.size, 1, none⟩) (Nat.le_refl _) _).setCell (p := ⟨w.heap.size, 2, none⟩) (Nat.le_refl _) _).setCell (p := ⟨w.heap.size + 1, 0, none⟩) (by show w.heap.size ≤ w.heap.size + 1; omega) _).setCell (p := ⟨w.heap.size + 1 + 1, 0, none⟩) (by show w.heap.size ≤ w.heap.size + 1 + 1; omega) _
  have hBc0 : wF.cell? ⟨w.heap.size + 1, 0, none⟩ = some (.int .i64 0) := cell_at hBF rfl
  have hCc0 : wF.cell? ⟨w.heap.size + 1 + 1, 0, none⟩ = some (.int .i64 40) := cell_at hCF rfl
  have hld := run_loadVar_row (P := Try.prog) wF w.heap.size 24 24 _ (0, 0) _ hAF Try.underlying24 rfl (by rw [Try.info_id]; rfl)
  rw [← hwF]
  clear hwF
  refine ⟨.tuple #[.agg #[.slice none 0 0, .slice none 0 0, .bool false], .int .i64 0, .int .i64 40], ?_, rfl, hbF⟩
  have e0 : wF.cell? ⟨w.heap.size, 0, none⟩ = some (.slice none 0 0) := cell_at hAF rfl
  have e1 : wF.cell? ⟨w.heap.size, 1, none⟩ = some (.slice none 0 0) := cell_at hAF rfl
  have e2 : wF.cell? ⟨w.heap.size, 2, none⟩ = some (.bool false) := cell_at hAF rfl
  simp [results, Try.results8, asAddr, go_sem, hBc0, hCc0, e0, e1, e2]
end Go.Proofs.Ythhlamehbcidgaa
