/- terms' reader: sees, take, blanks. -/
import Derived.Test.YthhlamehbcidgaaY2
namespace Go.Proofs.Ythhlamehbcidgaa
open Go Go.RowKit Go.Lib
set_option linter.unusedVariables false

set_option maxHeartbeats 2000000 in
set_option maxRecDepth 100000 in
theorem sees_any {base : Nat} {w : World} {rb : Nat} {s : ByteArray} {i : Nat} {v : Value} {L : List (Nat × Nat)} (h : RD base w rb s i v L) (g : ByteArray) (hs : s.size ≤ 1000) :
    Calls Try.prog 55 #[.pointer (some ⟨rb, 0, none⟩), .string g] w fun e w' => e = .returned (.bool (seesB s g i)) ∧ Below w.heap.size w w' := by
  have t0 : w.cell? ⟨rb, 0, none⟩ = some (.string s) := cell_at h.box rfl
  have t1 : w.cell? ⟨rb, 1, none⟩ = some (.int .i64 (i : Nat)) := cell_at h.box rfl
  have S0 : w.drew.cell? ⟨rb, 0, none⟩ = some (.string s) ∧ w.drew.cell? ⟨rb, 1, none⟩ = some (.int .i64 (i : Nat)) ∧ Below w.heap.size w w.drew := ⟨t0, t1, (Below.refl _ _).drew⟩
  have hle := h.le
  by_cases hlt : i < s.size
  · have hiI : (i : Int) < s.size := by omega
    have hid : decide ((i : Int) < s.size) = true := decide_eq_true hiI
    rw [seesB_lt hlt]
    obtain ⟨c, hc⟩ : ∃ c, s[i] = c := ⟨_, rfl⟩
    have HIB : Hid (∀ y, Calls Try.prog 100 #[.string g, .int .u8 (c.toNat : Int)] y fun e w' => e = .returned (.int .i64 (Lib.indexByte g.data.toList c)) ∧ y = w') := fun y => by
      have := indexByte_any g (c.toNat : Int) y
      have e : ((c.toNat : Int)).toNat.toUInt8 = c := by simp
      rw [e] at this
      exact this
    rw [hc]
    obtain ⟨x, hx⟩ : ∃ x, Lib.indexByte g.data.toList c = x := ⟨_, rfl⟩
    rw [hx] at HIB ⊢
    clear h hx t0 t1
    go_enter Try.func55, Try.ntmps55
    go_wp2_with fail
    go_region_held3 (fun y => y.cell? ⟨rb, 0, none⟩ = some (.string s) ∧ y.cell? ⟨rb, 1, none⟩ = some (.int .i64 (i : Nat)) ∧ Below w.heap.size w y) (first | exact S0 | assumption) (first
      | (go_at_call 100; refine (HIB.out _).mono ?_; rintro e y1 ⟨rfl, rfl⟩))
    all_goals (
      go_wp2_with fail
      go_ret
      exact ⟨rfl, (Below.refl _ _).drew⟩)
  · have hiI : ¬ (i : Int) < s.size := by omega
    have hid : decide ((i : Int) < s.size) = false := decide_eq_false hiI
    rw [seesB_end hlt]
    clear h t0 t1
    go_enter Try.func55, Try.ntmps55
    go_wp2_with fail
    refine wp_region_held_drew (S := fun y => y.cell? ⟨rb, 0, none⟩ = some (.string s) ∧ y.cell? ⟨rb, 1, none⟩ = some (.int .i64 (i : Nat)) ∧ Below w.heap.size w y) (by kernel_rfl) S0 (fun hH0 => ?_)
    clear S0
    refine wpAnyH_take (i := 0) (oi := { dst := some 5, op := Go.Op.move (Go.Operand.tmp 0), type := 70, pos := "text.go:80", after := #[], guard := none }) (v := ?_) rfl (by kernel_rfl) (by kernel_rfl) (by kernel_rfl) (fun _ _ _ h => h) (Or.inl ⟨by rfl, ?_⟩) (by assumption) ?_
    rotate_left
    · intro w' hS; go_simp; (try with_reducible rfl)
    simp only [Act.put, List.setIfInBounds_toArray, List.set_cons_zero, List.set_cons_succ]
    refine wpAnyH_take (i := 1) (oi := { dst := some 6, op := Go.Op.nilCheck (Go.Operand.tmp 5), type := 0, pos := "text.go:80", after := #[{ on := 0, ground := Go.Ground.data }], guard := none }) (v := ?_) rfl (by kernel_rfl) (by kernel_rfl) (by kernel_rfl) (fun _ _ _ h => h) (Or.inl ⟨by rfl, ?_⟩) (by assumption) ?_
    rotate_left
    · intro w' hS; go_simp; (try with_reducible rfl)
    simp only [Act.put, List.setIfInBounds_toArray, List.set_cons_zero, List.set_cons_succ]
    refine wpAnyH_take (i := 2) (oi := { dst := some 7, op := Go.Op.fieldAddr 72 (Go.Operand.tmp 6) 1, type := 0, pos := "text.go:80", after := #[{ on := 1, ground := Go.Ground.data }], guard := none }) (v := ?_) rfl (by kernel_rfl) (by kernel_rfl) (by kernel_rfl) (fun _ _ _ h => h) (Or.inl ⟨by rfl, ?_⟩) (by assumption) ?_
    rotate_left
    · intro w' hS; go_simp; (try with_reducible rfl)
    simp only [Act.put, List.setIfInBounds_toArray, List.set_cons_zero, List.set_cons_succ]
    refine wpAnyH_take (i := 3) (oi := { dst := some 8, op := Go.Op.load 3 (Go.Operand.tmp 7), type := 3, pos := "text.go:80", after := #[{ on := 2, ground := Go.Ground.data }], guard := none }) (v := .int .i64 (i : Nat)) rfl (by kernel_rfl) (by kernel_rfl) (by kernel_rfl) (fun _ _ _ h => h) (Or.inl ⟨by rfl, ?_⟩) (by assumption) ?_
    · intro w' hS; obtain ⟨hz0, hz1, hz2⟩ := hS; go_simp
    simp only [Act.put, List.setIfInBounds_toArray, List.set_cons_zero, List.set_cons_succ]
    refine wpAnyH_take (i := 4) (oi := { dst := some 9, op := Go.Op.move (Go.Operand.tmp 0), type := 70, pos := "text.go:80", after := #[], guard := none }) (v := ?_) rfl (by kernel_rfl) (by kernel_rfl) (by kernel_rfl) (fun _ _ _ h => h) (Or.inl ⟨by rfl, ?_⟩) (by assumption) ?_
    rotate_left
    · intro w' hS; go_simp; (try with_reducible rfl)
    simp only [Act.put, List.setIfInBounds_toArray, List.set_cons_zero, List.set_cons_succ]
    refine wpAnyH_take (i := 5) (oi := { dst := some 10, op := Go.Op.nilCheck (Go.Operand.tmp 9), type := 0, pos := "text.go:80", after := #[{ on := 4, ground := Go.Ground.data }], guard := none }) (v := ?_) rfl (by kernel_rfl) (by kernel_rfl) (by kernel_rfl) (fun _ _ _ h => h) (Or.inl ⟨by rfl, ?_⟩) (by assumption) ?_
    rotate_left
    · intro w' hS; go_simp; (try with_reducible rfl)
    simp only [Act.put, List.setIfInBounds_toArray, List.set_cons_zero, List.set_cons_succ]
    refine wpAnyH_take (i := 6) (oi := { dst := some 11, op := Go.Op.fieldAddr 72 (Go.Operand.tmp 10) 0, type := 0, pos := "text.go:80", after := #[{ on := 5, ground := Go.Ground.data }], guard := none }) (v := ?_) rfl (by kernel_rfl) (by kernel_rfl) (by kernel_rfl) (fun _ _ _ h => h) (Or.inl ⟨by rfl, ?_⟩) (by assumption) ?_
    rotate_left
    · intro w' hS; go_simp; (try with_reducible rfl)
    simp only [Act.put, List.setIfInBounds_toArray, List.set_cons_zero, List.set_cons_succ]
    refine wpAnyH_take (i := 7) (oi := { dst := some 12, op := Go.Op.load 9 (Go.Operand.tmp 11), type := 9, pos := "text.go:80", after := #[{ on := 6, ground := Go.Ground.data }], guard := none }) (v := .string s) rfl (by kernel_rfl) (by kernel_rfl) (by kernel_rfl) (fun _ _ _ h => h) (Or.inl ⟨by rfl, ?_⟩) (by assumption) ?_
    · intro w' hS; obtain ⟨hz0, hz1, hz2⟩ := hS; go_simp
    simp only [Act.put, List.setIfInBounds_toArray, List.set_cons_zero, List.set_cons_succ]
    refine wpAnyH_take (i := 8) (oi := { dst := some 13, op := Go.Op.call { callee := Go.Callee.builtin Go.Builtin.len, args := #[Go.Operand.tmp 12], argTypes := #[9] }, type := 3, pos := "text.go:80", after := #[{ on := 7, ground := Go.Ground.data }], guard := none }) (v := ?_) rfl (by kernel_rfl) (by kernel_rfl) (by kernel_rfl) (fun _ _ _ h => h) (Or.inl ⟨by rfl, ?_⟩) (by assumption) ?_
    rotate_left
    · intro w' hS; go_simp; (try with_reducible rfl)
    simp only [Act.put, List.setIfInBounds_toArray, List.set_cons_zero, List.set_cons_succ]
    refine wpAnyH_take (i := 9) (oi := { dst := some 14, op := Go.Op.binOp Go.BinOp.lss 3 (Go.Operand.tmp 8) (Go.Operand.tmp 13) 3, type := 4, pos := "text.go:80", after := #[{ on := 3, ground := Go.Ground.data }, { on := 8, ground := Go.Ground.data }], guard := none }) (v := ?_) rfl (by kernel_rfl) (by kernel_rfl) (by kernel_rfl) (fun _ _ _ h => h) (Or.inl ⟨by rfl, ?_⟩) (by assumption) ?_
    rotate_left
    · intro w' hS; go_simp; (try with_reducible rfl)
    simp only [Act.put, List.setIfInBounds_toArray, List.set_cons_zero, List.set_cons_succ]
    refine wpAnyH_take (i := 10) (oi := { dst := some 15, op := Go.Op.move (Go.Operand.tmp 14), type := 4, pos := "text.go:80", after := #[{ on := 9, ground := Go.Ground.data }], guard := none }) (v := ?_) rfl (by kernel_rfl) (by kernel_rfl) (by kernel_rfl) (fun _ _ _ h => h) (Or.inl ⟨by rfl, ?_⟩) (by assumption) ?_
    rotate_left
    · intro w' hS; go_simp; (try with_reducible rfl)
    simp only [Act.put, List.setIfInBounds_toArray, List.set_cons_zero, List.set_cons_succ]
    refine wpAnyH_take (i := 11) (oi := { dst := some 16, op := Go.Op.move (Go.Operand.tmp 1), type := 9, pos := "text.go:80", after := #[{ on := 10, ground := Go.Ground.guard }], guard := some (10, true) }) (v := undef) rfl (by kernel_rfl) (by kernel_rfl) (by kernel_rfl) (fun _ _ _ h => h) (Or.inr ⟨by rfl, rfl⟩) (by assumption) ?_
    simp only [Act.put, List.setIfInBounds_toArray, List.set_cons_zero, List.set_cons_succ]
    refine wpAnyH_take (i := 12) (oi := { dst := some 17, op := Go.Op.move (Go.Operand.tmp 0), type := 70, pos := "text.go:80", after := #[{ on := 10, ground := Go.Ground.guard }], guard := some (10, true) }) (v := undef) rfl (by kernel_rfl) (by kernel_rfl) (by kernel_rfl) (fun _ _ _ h => h) (Or.inr ⟨by rfl, rfl⟩) (by assumption) ?_
    simp only [Act.put, List.setIfInBounds_toArray, List.set_cons_zero, List.set_cons_succ]
    refine wpAnyH_take (i := 13) (oi := { dst := some 18, op := Go.Op.nilCheck (Go.Operand.tmp 17), type := 0, pos := "text.go:80", after := #[{ on := 12, ground := Go.Ground.data }, { on := 10, ground := Go.Ground.guard }], guard := some (10, true) }) (v := undef) rfl (by kernel_rfl) (by kernel_rfl) (by kernel_rfl) (fun _ _ _ h => h) (Or.inr ⟨by rfl, rfl⟩) (by assumption) ?_
    simp only [Act.put, List.setIfInBounds_toArray, List.set_cons_zero, List.set_cons_succ]
    refine wpAnyH_take (i := 14) (oi := { dst := some 19, op := Go.Op.fieldAddr 72 (Go.Operand.tmp 18) 0, type := 0, pos := "text.go:80", after := #[{ on := 13, ground := Go.Ground.data }, { on := 10, ground := Go.Ground.guard }], guard := some (10, true) }) (v := undef) rfl (by kernel_rfl) (by kernel_rfl) (by kernel_rfl) (fun _ _ _ h => h) (Or.inr ⟨by rfl, rfl⟩) (by assumption) ?_
    simp only [Act.put, List.setIfInBounds_toArray, List.set_cons_zero, List.set_cons_succ]
    refine wpAnyH_take (i := 15) (oi := { dst := some 20, op := Go.Op.load 9 (Go.Operand.tmp 19), type := 9, pos := "text.go:80", after := #[{ on := 14, ground := Go.Ground.data }, { on := 10, ground := Go.Ground.guard }], guard := some (10, true) }) (v := undef) rfl (by kernel_rfl) (by kernel_rfl) (by kernel_rfl) (fun _ _ _ h => h) (Or.inr ⟨by rfl, rfl⟩) (by assumption) ?_
    simp only [Act.put, List.setIfInBounds_toArray, List.set_cons_zero, List.set_cons_succ]
    refine wpAnyH_take (i := 16) (oi := { dst := some 21, op := Go.Op.move (Go.Operand.tmp 0), type := 70, pos := "text.go:80", after := #[{ on := 10, ground := Go.Ground.guard }], guard := some (10, true) }) (v := undef) rfl (by kernel_rfl) (by kernel_rfl) (by kernel_rfl) (fun _ _ _ h => h) (Or.inr ⟨by rfl, rfl⟩) (by assumption) ?_
    simp only [Act.put, List.setIfInBounds_toArray, List.set_cons_zero, List.set_cons_succ]
    refine wpAnyH_take (i := 17) (oi := { dst := some 22, op := Go.Op.nilCheck (Go.Operand.tmp 21), type := 0, pos := "text.go:80", after := #[{ on := 16, ground := Go.Ground.data }, { on := 10, ground := Go.Ground.guard }], guard := some (10, true) }) (v := undef) rfl (by kernel_rfl) (by kernel_rfl) (by kernel_rfl) (fun _ _ _ h => h) (Or.inr ⟨by rfl, rfl⟩) (by assumption) ?_
    simp only [Act.put, List.setIfInBounds_toArray, List.set_cons_zero, List.set_cons_succ]
    refine wpAnyH_take (i := 18) (oi := { dst := some 23, op := Go.Op.fieldAddr 72 (Go.Operand.tmp 22) 1, type := 0, pos := "text.go:80", after := #[{ on := 17, ground := Go.Ground.data }, { on := 10, ground := Go.Ground.guard }], guard := some (10, true) }) (v := undef) rfl (by kernel_rfl) (by kernel_rfl) (by kernel_rfl) (fun _ _ _ h => h) (Or.inr ⟨by rfl, rfl⟩) (by assumption) ?_
    simp only [Act.put, List.setIfInBounds_toArray, List.set_cons_zero, List.set_cons_succ]
    refine wpAnyH_take (i := 19) (oi := { dst := some 24, op := Go.Op.load 3 (Go.Operand.tmp 23), type := 3, pos := "text.go:80", after := #[{ on := 18, ground := Go.Ground.data }, { on := 10, ground := Go.Ground.guard }], guard := some (10, true) }) (v := undef) rfl (by kernel_rfl) (by kernel_rfl) (by kernel_rfl) (fun _ _ _ h => h) (Or.inr ⟨by rfl, rfl⟩) (by assumption) ?_
    simp only [Act.put, List.setIfInBounds_toArray, List.set_cons_zero, List.set_cons_succ]
    refine wpAnyH_take (i := 20) (oi := { dst := some 25, op := Go.Op.index 9 (Go.Operand.tmp 20) (Go.Operand.tmp 24), type := 5, pos := "text.go:80", after := #[{ on := 15, ground := Go.Ground.data }, { on := 19, ground := Go.Ground.data }, { on := 10, ground := Go.Ground.guard }], guard := some (10, true) }) (v := undef) rfl (by kernel_rfl) (by kernel_rfl) (by kernel_rfl) (fun _ _ _ h => h) (Or.inr ⟨by rfl, rfl⟩) (by assumption) ?_
    simp only [Act.put, List.setIfInBounds_toArray, List.set_cons_zero, List.set_cons_succ]
    refine wpAnyH_take (i := 21) (oi := { dst := some 26, op := Go.Op.call { callee := Go.Callee.value (Go.Operand.func 100), args := #[Go.Operand.tmp 16, Go.Operand.tmp 25], argTypes := #[9, 5] }, type := 3, pos := "text.go:80", after := #[{ on := 11, ground := Go.Ground.data }, { on := 20, ground := Go.Ground.data }, { on := 10, ground := Go.Ground.chain }, { on := 10, ground := Go.Ground.guard }], guard := some (10, true) }) (v := undef) rfl (by kernel_rfl) (by kernel_rfl) (by kernel_rfl) (fun _ _ _ h => h) (Or.inr ⟨by rfl, rfl⟩) (by assumption) ?_
    simp only [Act.put, List.setIfInBounds_toArray, List.set_cons_zero, List.set_cons_succ]
    refine wpAnyH_take (i := 22) (oi := { dst := some 27, op := Go.Op.binOp Go.BinOp.geq 3 (Go.Operand.tmp 26) (Go.Operand.const (Go.Value.int Go.IntKind.i64 0)) 3, type := 4, pos := "text.go:80", after := #[{ on := 21, ground := Go.Ground.data }, { on := 10, ground := Go.Ground.guard }], guard := some (10, true) }) (v := undef) rfl (by kernel_rfl) (by kernel_rfl) (by kernel_rfl) (fun _ _ _ h => h) (Or.inr ⟨by rfl, rfl⟩) (by assumption) ?_
    simp only [Act.put, List.setIfInBounds_toArray, List.set_cons_zero, List.set_cons_succ]
    refine wpAnyH_take (i := 23) (oi := { dst := some 28, op := Go.Op.pick (Go.Operand.tmp 15) (Go.Operand.tmp 27) (Go.Operand.const (Go.Value.bool false)), type := 4, pos := "text.go:80", after := #[{ on := 10, ground := Go.Ground.data }, { on := 22, ground := Go.Ground.data }], guard := none }) (v := ?_) rfl (by kernel_rfl) (by kernel_rfl) (by kernel_rfl) (fun _ _ _ h => h) (Or.inl ⟨by rfl, ?_⟩) (by assumption) ?_
    rotate_left
    · intro w' hS; go_simp; (try with_reducible rfl)
    simp only [Act.put, List.setIfInBounds_toArray, List.set_cons_zero, List.set_cons_succ]
    refine wpAnyH_take (i := 24) (oi := { dst := some 4, op := Go.Op.assign (Go.Operand.tmp 28), type := 4, pos := "text.go:80", after := #[{ on := 23, ground := Go.Ground.data }, { on := 21, ground := Go.Ground.chain }, { on := 0, ground := Go.Ground.phase }, { on := 1, ground := Go.Ground.phase }, { on := 2, ground := Go.Ground.phase }, { on := 3, ground := Go.Ground.phase }, { on := 4, ground := Go.Ground.phase }, { on := 5, ground := Go.Ground.phase }, { on := 6, ground := Go.Ground.phase }, { on := 7, ground := Go.Ground.phase }, { on := 8, ground := Go.Ground.phase }, { on := 9, ground := Go.Ground.phase }, { on := 10, ground := Go.Ground.phase }, { on := 11, ground := Go.Ground.phase }, { on := 12, ground := Go.Ground.phase }, { on := 13, ground := Go.Ground.phase }, { on := 14, ground := Go.Ground.phase }, { on := 15, ground := Go.Ground.phase }, { on := 16, ground := Go.Ground.phase }, { on := 17, ground := Go.Ground.phase }, { on := 18, ground := Go.Ground.phase }, { on := 19, ground := Go.Ground.phase }, { on := 20, ground := Go.Ground.phase }, { on := 21, ground := Go.Ground.phase }, { on := 22, ground := Go.Ground.phase }, { on := 23, ground := Go.Ground.phase }], guard := none }) (v := ?_) rfl (by kernel_rfl) (by kernel_rfl) (by kernel_rfl) (fun _ _ _ h => h) (Or.inl ⟨by rfl, ?_⟩) (by assumption) ?_
    rotate_left
    · intro w' hS; go_simp; (try with_reducible rfl)
    simp only [Act.put, List.setIfInBounds_toArray, List.set_cons_zero, List.set_cons_succ]
    refine wpAnyH_done (by kernel_rfl) ?_ _

    go_wp2_with fail
    go_ret
    exact ⟨rfl, (Below.refl _ _).drew⟩

set_option maxHeartbeats 2000000 in
set_option maxRecDepth 100000 in
theorem take_ok {base : Nat} {w : World} {rb : Nat} {s : ByteArray} {i : Nat} {v : Value} {L : List (Nat × Nat)} (h : RD base w rb s i v L) (hs : s.size ≤ 1000) (c : Nat) (hlt : i < s.size) (hc : s[i].toNat = c) :
    Calls Try.prog 56 #[.pointer (some ⟨rb, 0, none⟩), .int .u8 (c : Nat)] w fun e w' => e = .returned (.tuple #[]) ∧ RD base w' rb s (i + 1) v L ∧ Only (RS rb v) w w' := by
  have H : Hid (RD base w rb s i v L) := h
  have t0 : w.cell? ⟨rb, 0, none⟩ = some (.string s) := cell_at h.box rfl
  have t1 : w.cell? ⟨rb, 1, none⟩ = some (.int .i64 (i : Nat)) := cell_at h.box rfl
  have tf : ∀ j, w.frozen? ⟨rb, j, none⟩ = false := fun j => froz_of h.box
  have hne : ((i : Int) == (s.size : Int)) = false := by rw [beq_eq_false_iff_ne]; omega
  have hnd : decide ((i : Int) = (s.size : Int)) = false := decide_eq_false (by omega)
  have hnd2 : decide (i = s.size) = false := decide_eq_false (by omega)
  have hiI : (i : Int) < s.size := by omega
  have hw1 : IntKind.i64.wrap ((i : Int) + 1) = ((i + 1 : Nat) : Int) := by rw [IntKind.wrap_i64]; omega
  have hcb : ((c : Int) != (c : Int)) = false := by simp
  have HRES : Hid (∀ nq, RD base ((w.drewN nq).setCell ⟨rb, 1, none⟩ (.int .i64 ((i + 1 : Nat) : Int))) rb s (i + 1) v L ∧ Only (RS rb v) w ((w.drewN nq).setCell ⟨rb, 1, none⟩ (.int .i64 ((i + 1 : Nat) : Int)))) := fun nq => by
    have hb : Below w.heap.size w (w.drewN nq) := ⟨(Below.refl _ _ : Below w.heap.size w w).os, (Below.refl _ _ : Below w.heap.size w w).tape, (Below.refl _ _ : Below w.heap.size w w).output, (Below.refl _ _ : Below w.heap.size w w).size, (Below.refl _ _ : Below w.heap.size w w).block⟩
    have hr := H.out.below hb
    exact ⟨hr.move (by omega), (Only.of hb).set (.inl rfl)⟩
  clear h
  go_enter Try.func56, Try.ntmps56
  go_wp2_with fail
  go_quiet (fail)
  go_wp2_with fail
  first
    | go_end0
    | skip
  exact ⟨rfl, HRES.out _⟩

/-- Blanks passed. -/
def skipN (s : ByteArray) : Nat → Nat → Nat
  | 0, i => i
  | n + 1, i => if seesB s ⟨#[32]⟩ i = true then skipN s n (i + 1) else i
def skip (s : ByteArray) (i : Nat) : Nat := skipN s (s.size - i) i
theorem seesB_le {s g : ByteArray} {i : Nat} (h : seesB s g i = true) : i < s.size := by
  by_cases q : i < s.size
  · exact q
  · rw [seesB_end q] at h; cases h
theorem skip_on {s : ByteArray} {i : Nat} (h : seesB s ⟨#[32]⟩ i = true) : skip s i = skip s (i + 1) := by
  have hl := seesB_le h
  unfold skip
  rw [show s.size - i = (s.size - (i + 1)) + 1 by omega, skipN, if_pos h]
theorem skip_end {s : ByteArray} {i : Nat} (h : ¬ seesB s ⟨#[32]⟩ i = true) : skip s i = i := by
  unfold skip
  cases hn : s.size - i with
  | zero => rfl
  | succ n => rw [skipN, if_neg h]
theorem skip_le {s : ByteArray} : ∀ (n i : Nat), s.size - i = n → i ≤ s.size → i ≤ skip s i ∧ skip s i ≤ s.size
  | n, i, hn, hi => by
    by_cases h : seesB s ⟨#[32]⟩ i = true
    · have hl := seesB_le h
      cases n with
      | zero => omega
      | succ n =>
        rw [skip_on h]
        have := skip_le n (i + 1) (by omega) hl
        omega
    · rw [skip_end h]; omega

set_option maxHeartbeats 2000000 in
set_option maxRecDepth 100000 in
theorem blanks_any {base : Nat} {w : World} {rb : Nat} {s : ByteArray} {i : Nat} {v : Value} {L : List (Nat × Nat)} (h : RD base w rb s i v L) (hs : s.size ≤ 1000) :
    Calls Try.prog 131 #[.pointer (some ⟨rb, 0, none⟩)] w fun e w' => e = .returned (.tuple #[]) ∧ RD base w' rb s (skip s i) v L ∧ Only (RS rb v) w w' := by
  have H : Hid (RD base w rb s i v L) := h
  clear h
  go_enter Try.func131, Try.ntmps131
  go_wp2_with fail
  go_loopw [] (fun wr => ∃ j : Nat, RD base wr rb s j v L ∧ skip s j = skip s i ∧ Only (RS rb v) w wr) (fun wr => s.size - (match wr.cell? ⟨rb, 1, none⟩ with | some (.int _ x) => x.toNat | _ => 0))
  case atStart => exact ⟨i, H.out, rfl, Only.of (Below.refl _ _)⟩
  case round =>
    obtain ⟨j, hr, hsk, hO⟩ := hrel
    have HR : Hid (RD base wr rb s j v L) := hr
    have HSK : Hid (skip s j = skip s i) := hsk
    have HO : Hid (Only (RS rb v) w wr) := hO
    clear hr hsk hO
    go_wp2_with fail
    refine (sees_any HR.out _ hs).mono ?_
    rintro e y1 ⟨rfl, hb⟩
    have HR1 : Hid (RD base y1 rb s j v L) := HR.out.below hb
    have HO1 : Hid (Only (RS rb v) w y1) := HO.out.trans (Only.of hb)
    clear hb
    by_cases hsee : seesB s ⟨#[32]⟩ j = true
    · rw [hsee]
      have hl := seesB_le hsee
      have t1 : y1.cell? ⟨rb, 1, none⟩ = some (.int .i64 (j : Nat)) := cell_at HR1.out.box rfl
      have tf : ∀ j, y1.frozen? ⟨rb, j, none⟩ = false := fun j => froz_of HR1.out.box
      have hw1 : IntKind.i64.wrap ((j : Int) + 1) = ((j + 1 : Nat) : Int) := by rw [IntKind.wrap_i64]; omega
      have HN : Hid (RD base (y1.setCell ⟨rb, 1, none⟩ (.int .i64 ((j + 1 : Nat) : Int))) rb s (j + 1) v L ∧ Only (RS rb v) w (y1.setCell ⟨rb, 1, none⟩ (.int .i64 ((j + 1 : Nat) : Int)))) := ⟨HR1.out.move hl, HO1.out.trans (HR1.out.only_set _ _)⟩
      have HS2 : Hid (skip s (j + 1) = skip s i) := by show _ = _; rw [← HSK.out, skip_on hsee]
      go_wp2_with fail
      go_roundw
      case rel => exact ⟨j + 1, HN.out.1, HS2.out, HN.out.2⟩
      case measure =>
        have m1 : (y1.setCell ⟨rb, 1, none⟩ (.int .i64 ((j : Int) + 1))).cell? ⟨rb, 1, none⟩ = some (.int .i64 ((j : Int) + 1)) := cell_at HN.out.1.box rfl
        have m0 : wr.cell? ⟨rb, 1, none⟩ = some (.int .i64 (j : Nat)) := cell_at HR.out.box rfl
        have e1 : ((j : Int) + 1).toNat = j + 1 := by omega
        have e0 : ((j : Nat) : Int).toNat = j := by omega
        have hl2 := seesB_le hsee
        simp only [m0, m1, e0, e1]
        exact Nat.sub_lt_sub_left hl2 (Nat.lt_succ_self j)
    · have hsee' : seesB s ⟨#[32]⟩ j = false := by simpa using hsee
      rw [hsee']
      have HS2 : Hid (skip s i = j) := by show _ = _; rw [← HSK.out, skip_end hsee]
      go_wp2_with fail
      first
        | go_end0
        | skip
      refine ⟨rfl, ?_, HO1.out⟩
      rw [HS2.out]
      exact HR1.out
end Go.Proofs.Ythhlamehbcidgaa
