/- terms' reader where the text is wrong: giveUp, take. -/
import Derived.Test.YthhlamehbcidgaaY15
namespace Go.Proofs.Ythhlamehbcidgaa
open Go Go.RowKit Go.Lib
set_option linter.unusedVariables false

/-- What the reader panics with. -/
def gaveUp : List PanicEntry := [{ v := .iface 25 (.int .i64 41), recovered := false }]

set_option maxRecDepth 100000 in
theorem giveUp_any (p : Value) (w : World) : Calls Try.prog 57 #[p] w fun e w' => e = .panicked gaveUp ∧ w = w' := by
  have hpan : ∀ w, (Instr.panic (.iface 25 (.int .i64 41))).run Try.prog w = .halt (.panic (.iface 25 (.int .i64 41))) w := fun w => by rfl
  go_enter Try.func57, Try.ntmps57
  go_wp2_with fail
  exact ⟨rfl, rfl, rfl⟩

theorem isB_is {s : ByteArray} {c i : Nat} (h : i < s.size) (e : s[i].toNat = c) : isB s c i = true := by
  have q : i < s.data.toList.length := by simpa using h
  unfold isB
  rw [List.getElem?_eq_getElem q]
  show (s.data.toList[i].toNat == c) = true
  rw [beq_iff_eq]
  exact e
set_option maxHeartbeats 2000000 in
set_option maxRecDepth 100000 in
theorem take_bad {base : Nat} {w : World} {rb : Nat} {s : ByteArray} {i : Nat} {v : Value} {L : List (Nat × Nat)} (h : RD base w rb s i v L) (c : Nat) (hs : s.size ≤ 1000) (hb : isB s c i = false) :
    Calls Try.prog 56 #[.pointer (some ⟨rb, 0, none⟩), .int .u8 (c : Nat)] w fun e w' => e = .panicked gaveUp ∧ Below w.heap.size w w' := by
  have t0 : w.cell? ⟨rb, 0, none⟩ = some (.string s) := cell_at h.box rfl
  have t1 : w.cell? ⟨rb, 1, none⟩ = some (.int .i64 (i : Nat)) := cell_at h.box rfl
  have hle := h.le
  have HRES : Hid (∀ nq, Below w.heap.size w (w.drewN nq)) := fun nq =>
    ⟨(Below.refl _ _ : Below w.heap.size w w).os, (Below.refl _ _ : Below w.heap.size w w).tape, (Below.refl _ _ : Below w.heap.size w w).output, (Below.refl _ _ : Below w.heap.size w w).size, (Below.refl _ _ : Below w.heap.size w w).block⟩
  clear h
  by_cases hi : i = s.size
  · have hne : ((i : Int) == (s.size : Int)) = true := by rw [hi]; simp
    have hnd : decide ((i : Int) = (s.size : Int)) = true := decide_eq_true (by omega)
    have hnd2 : decide (i = s.size) = true := decide_eq_true hi
    clear hi hle
    go_enter Try.func56, Try.ntmps56
    go_wp2_with fail
    go_quiet (fail)
    go_wp2_with fail
    refine (giveUp_any _ _).mono ?_
    rintro e w1 ⟨rfl, rfl⟩
    exact ⟨rfl, rfl, HRES.out _⟩
  · have hlt : i < s.size := by omega
    have hne : ((i : Int) == (s.size : Int)) = false := by rw [beq_eq_false_iff_ne]; omega
    have hnd : decide ((i : Int) = (s.size : Int)) = false := decide_eq_false (by omega)
    have hnd2 : decide (i = s.size) = false := decide_eq_false (by omega)
    have hiI : (i : Int) < s.size := by omega
    obtain ⟨d, hd⟩ : ∃ d, s[i].toNat = d := ⟨_, rfl⟩
    have hdc : d ≠ c := fun e => by
      have := isB_is (c := c) hlt (by omega)
      rw [this] at hb
      cases hb
    have hcb : ((d : Int) != (c : Int)) = true := by rw [bne_iff_ne]; omega
    clear hle
    go_enter Try.func56, Try.ntmps56
    go_wp2_with fail
    go_quiet (fail)
    go_wp2_with fail
    refine (giveUp_any _ _).mono ?_
    rintro e w1 ⟨rfl, rfl⟩
    exact ⟨rfl, rfl, HRES.out _⟩

/-- Parse's recover, where the reader gave up. -/
theorem catch_bad (E A B C rb : Nat) (x0 x1 x2 y0 z0 : Value) (n : Int) (w : World) (hE : w.cell? ⟨E, 0, none⟩ = some (.pointer (some ⟨rb, 0, none⟩))) (hr : w.cell? ⟨rb, 1, none⟩ = some (.int .i64 n))
    (h0 : w.cell? ⟨A, 0, none⟩ = some x0) (h1 : w.cell? ⟨A, 1, none⟩ = some x1) (h2 : w.cell? ⟨A, 2, none⟩ = some x2) (hf : ∀ j, w.frozen? ⟨A, j, none⟩ = false)
    (hB : w.cell? ⟨B, 0, none⟩ = some y0) (hBf : ∀ j, w.frozen? ⟨B, j, none⟩ = false) (hC : w.cell? ⟨C, 0, none⟩ = some z0) (hCf : ∀ j, w.frozen? ⟨C, j, none⟩ = false) (hAB : A ≠ B) (hAC : A ≠ C) (hBC : B ≠ C) :
    CallsD Try.prog 28 #[.pointer (some ⟨E, 0, none⟩), .pointer (some ⟨A, 0, none⟩), .pointer (some ⟨B, 0, none⟩), .pointer (some ⟨C, 0, none⟩)] (.panicking gaveUp) w fun e u' w' => e = .returned (.tuple #[]) ∧ u' = .panicking [{ v := .iface 25 (.int .i64 41), recovered := true }] ∧
      w' = ((((w.setCell ⟨A, 0, none⟩ (.slice none 0 0)).setCell ⟨A, 1, none⟩ (.slice none 0 0)).setCell ⟨A, 2, none⟩ (.bool false)).setCell ⟨B, 0, none⟩ (.int .i64 n)).setCell ⟨C, 0, none⟩ (.int .i64 41) := by
  refine callsD_of_wpS Try.func28 rfl fun c₀ cs hu => ?_
  unfold gaveUp at hu
  apply wpS_seq
  apply wpS_region
  simp [wpOpsS, go_sem, recoverD, hu, Try.ntmps28, Exit.thenS]
  refine wpS_cond (t := true) (by simp [Act.eval, Array.replicate]) ?_
  simp only [if_true]
  refine wpS_of_wp ?_
  go_wp2_with fail
  exact ⟨rfl, _, rfl, .tuple #[], by simp [results, Try.results28], rfl, rfl, rfl⟩
end Go.Proofs.Ythhlamehbcidgaa
