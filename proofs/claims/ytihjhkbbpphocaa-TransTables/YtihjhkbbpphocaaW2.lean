/- Cv Cw Cx, in one text. -/
import Derived.Test.YtihjhkbbpphocaaW1
import Derived.Test.YtihjhkbbpphocaaCc
import Derived.Deep.Cut
namespace Go.Proofs.Ytihjhkbbpphocaa
open Go Go.RowKit Go.Lib Go.Maps
set_option linter.unusedVariables false
attribute [-instance] List.instBEq

set_option maxHeartbeats 4000000 in
set_option maxRecDepth 100000 in
theorem tput_bad {base : Nat} {w : World} {b mb n : Nat} {vl : Value} {M : List (List Nat)} {D : DataW Unit} (h : TB base w b mb n vl M D) {N : Int} {g : Nat → Nat} (hg : W64 g) (hb : ¬ (ckN N g = 0 ∧ N = n)) :
    Calls Try.prog 52 #[.pointer (some ⟨b, 0, none⟩), .agg (trC N g)] w fun e w' => e = .returned (.tuple #[.int .i64 0, .bool false, .int .i64 130]) ∧ Below w.heap.size w w' := by
  obtain ⟨E, hE⟩ : ∃ E, ckN N g = E := ⟨_, rfl⟩
  have HCK : Hid (∀ y, Calls Try.prog 11 #[.agg (trC N g)] y fun e w' => e = .returned (.int .i64 E) ∧ Below y.heap.size y w') := fun y => by
    have := tcheck_any N g hg y
    rw [hE] at this
    exact this
  obtain ⟨p0, p1, p2, p3, p4, p5, p6, hcs⟩ : ∃ p0 p1 p2 p3 p4 p5 p6 : Int, trC N g = #[.int .i64 N, .int .u64 p0, .int .u64 p1, .int .u64 p2, .int .u64 p3, .int .u64 p4, .int .u64 p5, .int .u64 p6] := ⟨_, _, _, _, _, _, _, rfl⟩
  have hE2 : E = 0 ∨ E = 130 := by rw [← hE]; unfold ckN; split <;> simp
  rw [hE] at hb
  rw [hcs] at HCK ⊢
  obtain ⟨w0, hw0⟩ : ∃ w0, w0 = w.alloc (.cells #[.int .i64 N, .int .u64 p0, .int .u64 p1, .int .u64 p2, .int .u64 p3, .int .u64 p4, .int .u64 p5, .int .u64 p6] 26) := ⟨_, rfl⟩
  have hb0 : Below w.heap.size w w0 := by rw [hw0]; exact below_new _ _
  have HT : Hid (TB base w0 b mb n vl M D) := h.below hb0
  have HL : Hid (w0.heap[w.heap.size]? = some (.cells #[.int .i64 N, .int .u64 p0, .int .u64 p1, .int .u64 p2, .int .u64 p3, .int .u64 p4, .int .u64 p5, .int .u64 p6] 26 (0, 0))) := by show _ = _; rw [hw0]; exact heap_last _ _
  have HB : Hid (Below w.heap.size w w0) := hb0
  have HW : Hid (w0 = w.alloc (.cells #[.int .i64 N, .int .u64 p0, .int .u64 p1, .int .u64 p2, .int .u64 p3, .int .u64 p4, .int .u64 p5, .int .u64 p6] 26)) := hw0
  have hLlt : w.heap.size < w0.heap.size := (Array.getElem?_eq_some_iff.1 HL.out).1
  have hblt : b < w0.heap.size := (Array.getElem?_eq_some_iff.1 HT.out.box).1
  have HSK : Hid (∀ y z, ((∀ o, y.cell? ⟨w.heap.size, o, none⟩ = (#[.int .i64 N, .int .u64 p0, .int .u64 p1, .int .u64 p2, .int .u64 p3, .int .u64 p4, .int .u64 p5, .int .u64 p6] : Array Value)[o]?) ∧ y.cell? ⟨b, 1, none⟩ = some (.int .i64 (n : Int)) ∧ Below w0.heap.size w0 y) → Below y.heap.size y z → ((∀ o, z.cell? ⟨w.heap.size, o, none⟩ = (#[.int .i64 N, .int .u64 p0, .int .u64 p1, .int .u64 p2, .int .u64 p3, .int .u64 p4, .int .u64 p5, .int .u64 p6] : Array Value)[o]?) ∧ z.cell? ⟨b, 1, none⟩ = some (.int .i64 (n : Int)) ∧ Below w0.heap.size w0 z)) := fun y z hy hz => by
    have h3 := hy.2.2.size
    exact ⟨fun o => by rw [below_cellJ hz (by omega)]; exact hy.1 o, by rw [below_cellJ hz (by omega)]; exact hy.2.1, go_on hy.2.2 hz⟩
  have S0 : (∀ o, w0.drew.cell? ⟨w.heap.size, o, none⟩ = (#[.int .i64 N, .int .u64 p0, .int .u64 p1, .int .u64 p2, .int .u64 p3, .int .u64 p4, .int .u64 p5, .int .u64 p6] : Array Value)[o]?) ∧ w0.drew.cell? ⟨b, 1, none⟩ = some (.int .i64 (n : Int)) ∧ Below w0.heap.size w0 w0.drew := ⟨fun o => cell_of_row _ _ _ _ _ _ HL.out, cell_at HT.out.box rfl, (Below.refl _ _).drew⟩
  clear h hw0 hb0 hE hcs
  go_enter Try.func52, Try.ntmps52
  go_wp2_with fail
  rw [← HW.out]
  refine (tmade_any HT.out).mono ?_
  rintro e w1 ⟨rfl, rfl⟩
  go_wp2_with fail
  by_cases hz : E = 0
  · subst hz
    have hne : ¬ N = n := fun e => hb ⟨rfl, e⟩
    have hneb : (N != (n : Int)) = true := by rw [bne_iff_ne]; exact hne
    have hned : decide (N = (n : Int)) = false := decide_eq_false hne
    refine wp_region_held_drew (S := fun y => (∀ o, y.cell? ⟨w.heap.size, o, none⟩ = (#[.int .i64 N, .int .u64 p0, .int .u64 p1, .int .u64 p2, .int .u64 p3, .int .u64 p4, .int .u64 p5, .int .u64 p6] : Array Value)[o]?) ∧ y.cell? ⟨b, 1, none⟩ = some (.int .i64 (n : Int)) ∧ Below w0.heap.size w0 y) (by kernel_rfl) S0 (fun hH0 => ?_)
    clear S0
    refine wpAnyH_take (i := 0) (oi := { dst := some 12, op := Go.Op.load 26 (Go.Operand.tmp 3), type := 26, pos := "table.go:31", after := #[], guard := none }) (v := .agg #[.int .i64 N, .int .u64 p0, .int .u64 p1, .int .u64 p2, .int .u64 p3, .int .u64 p4, .int .u64 p5, .int .u64 p6]) rfl (by kernel_rfl) (by kernel_rfl) (by kernel_rfl) (fun _ _ _ h => h) (Or.inl ⟨by rfl, ?_⟩) (by assumption) ?_
    · intro w' hS; obtain ⟨hz, hz1, hz2⟩ := hS; go_simp
    simp only [Act.put, List.setIfInBounds_toArray, List.set_cons_zero, List.set_cons_succ]
    refine wpAnyH_ready (rs := [1]) (by kernel_rfl) (by simp) ?_
    refine AllReadyH.cons rfl (fun K hK => ?_) AllReadyH.nil
    go_simp
    refine Calls.mono (HCK.out _) ?_
    rintro e y1 ⟨rfl, hy1⟩
    have hN := HSK.out _ _ hH0 hy1
    clear hy1
    go_wp2_with fail
    refine hK.out _ _ hN (fun hH1 => ?_)
    clear hN
    clear hK K
    refine wpAnyH_take (i := 2) (oi := { dst := some 14, op := Go.Op.binOp Go.BinOp.neq 28 (Go.Operand.tmp 13) (Go.Operand.const (Go.Value.int Go.IntKind.i64 0)) 28, type := 4, pos := "table.go:31", after := #[{ on := 1, ground := Go.Ground.data }], guard := none }) (v := ?_) rfl (by kernel_rfl) (by kernel_rfl) (by kernel_rfl) (fun _ _ _ h => h) (Or.inl ⟨by rfl, ?_⟩) (by assumption) ?_
    rotate_left
    · intro w' hS; go_simp; (try with_reducible rfl)
    simp only [Act.put, List.setIfInBounds_toArray, List.set_cons_zero, List.set_cons_succ]
    refine wpAnyH_take (i := 3) (oi := { dst := some 15, op := Go.Op.move (Go.Operand.tmp 14), type := 4, pos := "table.go:31", after := #[{ on := 2, ground := Go.Ground.data }, { on := 1, ground := Go.Ground.chain }], guard := none }) (v := ?_) rfl (by kernel_rfl) (by kernel_rfl) (by kernel_rfl) (fun _ _ _ h => h) (Or.inl ⟨by rfl, ?_⟩) (by assumption) ?_
    rotate_left
    · intro w' hS; go_simp; (try with_reducible rfl)
    simp only [Act.put, List.setIfInBounds_toArray, List.set_cons_zero, List.set_cons_succ]
    refine wpAnyH_take (i := 4) (oi := { dst := some 16, op := Go.Op.fieldAddr 26 (Go.Operand.tmp 3) 0, type := 0, pos := "table.go:31", after := #[{ on := 3, ground := Go.Ground.guard }], guard := some (3, false) }) (v := ?_) rfl (by kernel_rfl) (by kernel_rfl) (by kernel_rfl) (fun _ _ _ h => h) (Or.inl ⟨by rfl, ?_⟩) (by assumption) ?_
    rotate_left
    · intro w' hS; go_simp; (try with_reducible rfl)
    simp only [Act.put, List.setIfInBounds_toArray, List.set_cons_zero, List.set_cons_succ]
    refine wpAnyH_take (i := 5) (oi := { dst := some 17, op := Go.Op.load 3 (Go.Operand.tmp 16), type := 3, pos := "table.go:31", after := #[{ on := 4, ground := Go.Ground.data }, { on := 3, ground := Go.Ground.guard }], guard := some (3, false) }) (v := .int .i64 N) rfl (by kernel_rfl) (by kernel_rfl) (by kernel_rfl) (fun _ _ _ h => h) (Or.inl ⟨by rfl, ?_⟩) (by assumption) ?_
    · intro w' hS; obtain ⟨hz, hz1, hz2⟩ := hS; go_simp
    simp only [Act.put, List.setIfInBounds_toArray, List.set_cons_zero, List.set_cons_succ]
    refine wpAnyH_take (i := 6) (oi := { dst := some 18, op := Go.Op.move (Go.Operand.tmp 0), type := 65, pos := "table.go:31", after := #[{ on := 3, ground := Go.Ground.guard }], guard := some (3, false) }) (v := ?_) rfl (by kernel_rfl) (by kernel_rfl) (by kernel_rfl) (fun _ _ _ h => h) (Or.inl ⟨by rfl, ?_⟩) (by assumption) ?_
    rotate_left
    · intro w' hS; go_simp; (try with_reducible rfl)
    simp only [Act.put, List.setIfInBounds_toArray, List.set_cons_zero, List.set_cons_succ]
    refine wpAnyH_take (i := 7) (oi := { dst := some 19, op := Go.Op.nilCheck (Go.Operand.tmp 18), type := 0, pos := "table.go:31", after := #[{ on := 6, ground := Go.Ground.data }, { on := 3, ground := Go.Ground.guard }], guard := some (3, false) }) (v := ?_) rfl (by kernel_rfl) (by kernel_rfl) (by kernel_rfl) (fun _ _ _ h => h) (Or.inl ⟨by rfl, ?_⟩) (by assumption) ?_
    rotate_left
    · intro w' hS; go_simp; (try with_reducible rfl)
    simp only [Act.put, List.setIfInBounds_toArray, List.set_cons_zero, List.set_cons_succ]
    refine wpAnyH_take (i := 8) (oi := { dst := some 20, op := Go.Op.fieldAddr 102 (Go.Operand.tmp 19) 1, type := 0, pos := "table.go:31", after := #[{ on := 7, ground := Go.Ground.data }, { on := 3, ground := Go.Ground.guard }], guard := some (3, false) }) (v := ?_) rfl (by kernel_rfl) (by kernel_rfl) (by kernel_rfl) (fun _ _ _ h => h) (Or.inl ⟨by rfl, ?_⟩) (by assumption) ?_
    rotate_left
    · intro w' hS; go_simp; (try with_reducible rfl)
    simp only [Act.put, List.setIfInBounds_toArray, List.set_cons_zero, List.set_cons_succ]
    refine wpAnyH_take (i := 9) (oi := { dst := some 21, op := Go.Op.load 3 (Go.Operand.tmp 20), type := 3, pos := "table.go:31", after := #[{ on := 8, ground := Go.Ground.data }, { on := 3, ground := Go.Ground.guard }], guard := some (3, false) }) (v := .int .i64 (n : Int)) rfl (by kernel_rfl) (by kernel_rfl) (by kernel_rfl) (fun _ _ _ h => h) (Or.inl ⟨by rfl, ?_⟩) (by assumption) ?_
    · intro w' hS; obtain ⟨hz, hz1, hz2⟩ := hS; go_simp
    simp only [Act.put, List.setIfInBounds_toArray, List.set_cons_zero, List.set_cons_succ]
    refine wpAnyH_take (i := 10) (oi := { dst := some 22, op := Go.Op.binOp Go.BinOp.neq 3 (Go.Operand.tmp 17) (Go.Operand.tmp 21) 3, type := 4, pos := "table.go:31", after := #[{ on := 5, ground := Go.Ground.data }, { on := 9, ground := Go.Ground.data }, { on := 3, ground := Go.Ground.guard }], guard := some (3, false) }) (v := ?_) rfl (by kernel_rfl) (by kernel_rfl) (by kernel_rfl) (fun _ _ _ h => h) (Or.inl ⟨by rfl, ?_⟩) (by assumption) ?_
    rotate_left
    · intro w' hS; go_simp; (try with_reducible rfl)
    simp only [Act.put, List.setIfInBounds_toArray, List.set_cons_zero, List.set_cons_succ]
    refine wpAnyH_take (i := 11) (oi := { dst := some 23, op := Go.Op.pick (Go.Operand.tmp 15) (Go.Operand.const (Go.Value.bool true)) (Go.Operand.tmp 22), type := 4, pos := "table.go:31", after := #[{ on := 3, ground := Go.Ground.data }, { on := 10, ground := Go.Ground.data }], guard := none }) (v := ?_) rfl (by kernel_rfl) (by kernel_rfl) (by kernel_rfl) (fun _ _ _ h => h) (Or.inl ⟨by rfl, ?_⟩) (by assumption) ?_
    rotate_left
    · intro w' hS; go_simp; (try with_reducible rfl)
    simp only [Act.put, List.setIfInBounds_toArray, List.set_cons_zero, List.set_cons_succ]
    refine wpAnyH_done (by kernel_rfl) ?_ _

    have HB1 : Hid (Below w0.heap.size w0 y1) := hH1.2.2
    go_wp2_with fail
    go_ret3
    exact ⟨rfl, HB.out.trans (HB1.out.mono (Nat.le_of_lt hLlt))⟩
  · have h130 : E = 130 := by omega
    subst h130
    refine wp_region_held_drew (S := fun y => (∀ o, y.cell? ⟨w.heap.size, o, none⟩ = (#[.int .i64 N, .int .u64 p0, .int .u64 p1, .int .u64 p2, .int .u64 p3, .int .u64 p4, .int .u64 p5, .int .u64 p6] : Array Value)[o]?) ∧ y.cell? ⟨b, 1, none⟩ = some (.int .i64 (n : Int)) ∧ Below w0.heap.size w0 y) (by kernel_rfl) S0 (fun hH0 => ?_)
    clear S0
    refine wpAnyH_take (i := 0) (oi := { dst := some 12, op := Go.Op.load 26 (Go.Operand.tmp 3), type := 26, pos := "table.go:31", after := #[], guard := none }) (v := .agg #[.int .i64 N, .int .u64 p0, .int .u64 p1, .int .u64 p2, .int .u64 p3, .int .u64 p4, .int .u64 p5, .int .u64 p6]) rfl (by kernel_rfl) (by kernel_rfl) (by kernel_rfl) (fun _ _ _ h => h) (Or.inl ⟨by rfl, ?_⟩) (by assumption) ?_
    · intro w' hS; obtain ⟨hz, hz1, hz2⟩ := hS; go_simp
    simp only [Act.put, List.setIfInBounds_toArray, List.set_cons_zero, List.set_cons_succ]
    refine wpAnyH_ready (rs := [1]) (by kernel_rfl) (by simp) ?_
    refine AllReadyH.cons rfl (fun K hK => ?_) AllReadyH.nil
    go_simp
    refine Calls.mono (HCK.out _) ?_
    rintro e y1 ⟨rfl, hy1⟩
    have hN := HSK.out _ _ hH0 hy1
    clear hy1
    go_wp2_with fail
    refine hK.out _ _ hN (fun hH1 => ?_)
    clear hN
    clear hK K
    refine wpAnyH_take (i := 2) (oi := { dst := some 14, op := Go.Op.binOp Go.BinOp.neq 28 (Go.Operand.tmp 13) (Go.Operand.const (Go.Value.int Go.IntKind.i64 0)) 28, type := 4, pos := "table.go:31", after := #[{ on := 1, ground := Go.Ground.data }], guard := none }) (v := ?_) rfl (by kernel_rfl) (by kernel_rfl) (by kernel_rfl) (fun _ _ _ h => h) (Or.inl ⟨by rfl, ?_⟩) (by assumption) ?_
    rotate_left
    · intro w' hS; go_simp; (try with_reducible rfl)
    simp only [Act.put, List.setIfInBounds_toArray, List.set_cons_zero, List.set_cons_succ]
    refine wpAnyH_take (i := 3) (oi := { dst := some 15, op := Go.Op.move (Go.Operand.tmp 14), type := 4, pos := "table.go:31", after := #[{ on := 2, ground := Go.Ground.data }, { on := 1, ground := Go.Ground.chain }], guard := none }) (v := ?_) rfl (by kernel_rfl) (by kernel_rfl) (by kernel_rfl) (fun _ _ _ h => h) (Or.inl ⟨by rfl, ?_⟩) (by assumption) ?_
    rotate_left
    · intro w' hS; go_simp; (try with_reducible rfl)
    simp only [Act.put, List.setIfInBounds_toArray, List.set_cons_zero, List.set_cons_succ]
    refine wpAnyH_take (i := 4) (oi := { dst := some 16, op := Go.Op.fieldAddr 26 (Go.Operand.tmp 3) 0, type := 0, pos := "table.go:31", after := #[{ on := 3, ground := Go.Ground.guard }], guard := some (3, false) }) (v := undef) rfl (by kernel_rfl) (by kernel_rfl) (by kernel_rfl) (fun _ _ _ h => h) (Or.inr ⟨by rfl, rfl⟩) (by assumption) ?_
    simp only [Act.put, List.setIfInBounds_toArray, List.set_cons_zero, List.set_cons_succ]
    refine wpAnyH_take (i := 5) (oi := { dst := some 17, op := Go.Op.load 3 (Go.Operand.tmp 16), type := 3, pos := "table.go:31", after := #[{ on := 4, ground := Go.Ground.data }, { on := 3, ground := Go.Ground.guard }], guard := some (3, false) }) (v := undef) rfl (by kernel_rfl) (by kernel_rfl) (by kernel_rfl) (fun _ _ _ h => h) (Or.inr ⟨by rfl, rfl⟩) (by assumption) ?_
    simp only [Act.put, List.setIfInBounds_toArray, List.set_cons_zero, List.set_cons_succ]
    refine wpAnyH_take (i := 6) (oi := { dst := some 18, op := Go.Op.move (Go.Operand.tmp 0), type := 65, pos := "table.go:31", after := #[{ on := 3, ground := Go.Ground.guard }], guard := some (3, false) }) (v := undef) rfl (by kernel_rfl) (by kernel_rfl) (by kernel_rfl) (fun _ _ _ h => h) (Or.inr ⟨by rfl, rfl⟩) (by assumption) ?_
    simp only [Act.put, List.setIfInBounds_toArray, List.set_cons_zero, List.set_cons_succ]
    refine wpAnyH_take (i := 7) (oi := { dst := some 19, op := Go.Op.nilCheck (Go.Operand.tmp 18), type := 0, pos := "table.go:31", after := #[{ on := 6, ground := Go.Ground.data }, { on := 3, ground := Go.Ground.guard }], guard := some (3, false) }) (v := undef) rfl (by kernel_rfl) (by kernel_rfl) (by kernel_rfl) (fun _ _ _ h => h) (Or.inr ⟨by rfl, rfl⟩) (by assumption) ?_
    simp only [Act.put, List.setIfInBounds_toArray, List.set_cons_zero, List.set_cons_succ]
    refine wpAnyH_take (i := 8) (oi := { dst := some 20, op := Go.Op.fieldAddr 102 (Go.Operand.tmp 19) 1, type := 0, pos := "table.go:31", after := #[{ on := 7, ground := Go.Ground.data }, { on := 3, ground := Go.Ground.guard }], guard := some (3, false) }) (v := undef) rfl (by kernel_rfl) (by kernel_rfl) (by kernel_rfl) (fun _ _ _ h => h) (Or.inr ⟨by rfl, rfl⟩) (by assumption) ?_
    simp only [Act.put, List.setIfInBounds_toArray, List.set_cons_zero, List.set_cons_succ]
    refine wpAnyH_take (i := 9) (oi := { dst := some 21, op := Go.Op.load 3 (Go.Operand.tmp 20), type := 3, pos := "table.go:31", after := #[{ on := 8, ground := Go.Ground.data }, { on := 3, ground := Go.Ground.guard }], guard := some (3, false) }) (v := undef) rfl (by kernel_rfl) (by kernel_rfl) (by kernel_rfl) (fun _ _ _ h => h) (Or.inr ⟨by rfl, rfl⟩) (by assumption) ?_
    simp only [Act.put, List.setIfInBounds_toArray, List.set_cons_zero, List.set_cons_succ]
    refine wpAnyH_take (i := 10) (oi := { dst := some 22, op := Go.Op.binOp Go.BinOp.neq 3 (Go.Operand.tmp 17) (Go.Operand.tmp 21) 3, type := 4, pos := "table.go:31", after := #[{ on := 5, ground := Go.Ground.data }, { on := 9, ground := Go.Ground.data }, { on := 3, ground := Go.Ground.guard }], guard := some (3, false) }) (v := undef) rfl (by kernel_rfl) (by kernel_rfl) (by kernel_rfl) (fun _ _ _ h => h) (Or.inr ⟨by rfl, rfl⟩) (by assumption) ?_
    simp only [Act.put, List.setIfInBounds_toArray, List.set_cons_zero, List.set_cons_succ]
    refine wpAnyH_take (i := 11) (oi := { dst := some 23, op := Go.Op.pick (Go.Operand.tmp 15) (Go.Operand.const (Go.Value.bool true)) (Go.Operand.tmp 22), type := 4, pos := "table.go:31", after := #[{ on := 3, ground := Go.Ground.data }, { on := 10, ground := Go.Ground.data }], guard := none }) (v := ?_) rfl (by kernel_rfl) (by kernel_rfl) (by kernel_rfl) (fun _ _ _ h => h) (Or.inl ⟨by rfl, ?_⟩) (by assumption) ?_
    rotate_left
    · intro w' hS; go_simp; (try with_reducible rfl)
    simp only [Act.put, List.setIfInBounds_toArray, List.set_cons_zero, List.set_cons_succ]
    refine wpAnyH_done (by kernel_rfl) ?_ _

    have HB1 : Hid (Below w0.heap.size w0 y1) := hH1.2.2
    go_wp2_with fail
    go_ret3
    exact ⟨rfl, HB.out.trans (HB1.out.mono (Nat.le_of_lt hLlt))⟩

/-- The document's table in memory. -/
structure RT (base : Nat) (w : World) (rb n : Nat) (vd : Value) (M : List (List Nat)) : Prop where
  box : w.heap[rb]? = some (.cells #[.int .i64 n, vd] 104 (0, 0))
  row : w.ownsRow base 26 8 vd M.length (tCs M)
  lob : base ≤ rb
  all : ∀ l ∈ M, Tf l ∧ l.length = n
  most : M.length ≤ 512
def DS (rb : Nat) (vd : Value) (j : Nat) : Prop := j = rb ∨ vd.ownBlock = some j
theorem RT.keep {base : Nat} {w w' : World} {rb n : Nat} {vd : Value} {M : List (List Nat)} (h : RT base w rb n vd M) (hk : ∀ j, DS rb vd j → j < w.heap.size → w'.heap[j]? = w.heap[j]?) : RT base w' rb n vd M :=
  ⟨(hk rb (.inl rfl) (Array.getElem?_eq_some_iff.1 h.box).1).trans h.box, own_keep h.row (fun j cur hj hc => hk j (.inr hj) (Array.getElem?_eq_some_iff.1 hc).1), h.lob, h.all, h.most⟩
theorem RT.below {base : Nat} {w w' : World} {rb n : Nat} {vd : Value} {M : List (List Nat)} (h : RT base w rb n vd M) (hb : Below w.heap.size w w') : RT base w' rb n vd M := h.keep (fun j _ hj => hb.block j hj)
theorem RT.only {base : Nat} {w w' : World} {rb n : Nat} {vd : Value} {M : List (List Nat)} {S : Nat → Prop} (h : RT base w rb n vd M) (hb : Only S w w') (hs : ∀ j, DS rb vd j → ¬ S j) : RT base w' rb n vd M := h.keep (fun j hj hl => hb.block j hl (hs j hj))
theorem RT.ds {base : Nat} {w : World} {rb n : Nat} {vd : Value} {M : List (List Nat)} (h : RT base w rb n vd M) {j : Nat} (hj : DS rb vd j) : base ≤ j ∧ j < w.heap.size := by
  rcases hj with rfl | hj
  · exact ⟨h.lob, (Array.getElem?_eq_some_iff.1 h.box).1⟩
  · exact h.row.lt j hj
theorem RT.cells {base : Nat} {w : World} {rb n : Nat} {a : Option Addr} {c : Nat} {M : List (List Nat)} (h : RT base w rb n (.slice a M.length c) M) {i : Nat} {l : List Nat} (hi : M[i]? = some l) : ∃ g, a = some ⟨g, 0, none⟩ ∧ g < w.heap.size ∧ ∀ j, j < 8 → w.cell? ⟨g, i * 8 + j, none⟩ = (tC l)[j]? := by
  have hil := (List.getElem?_eq_some_iff.1 hi).1
  have hr := h.row
  rcases h.row.2 with ⟨h1, h0⟩ | ⟨g, cap, cur, h1, r⟩
  · omega
  · simp only [Value.slice.injEq] at h1
    obtain ⟨rfl, _, rfl⟩ := h1
    refine ⟨g, rfl, (Array.getElem?_eq_some_iff.1 r.2.1).1, fun j hj => ?_⟩
    rw [hr.cellAt (i * 8 + j) (by omega), tCs_at M i l hi j hj]
    simp

set_option maxHeartbeats 1000000 in
set_option maxRecDepth 100000 in
theorem rnew_bad (n : Int) (h : ¬ (1 ≤ n ∧ n ≤ 64)) (w : World) : Calls Try.prog 31 #[.int .i64 n] w fun e w' => e = .returned (.tuple #[.pointer none, .int .i64 6]) ∧ w = w' := by
  by_cases h1 : n < 1
  · have hd : decide (n < 1) = true := decide_eq_true h1
    go_enter Try.func31, Try.ntmps31
    go_wp2_with fail
    go_ret2
    exact ⟨rfl, rfl⟩
  · have hd : decide (n < 1) = false := decide_eq_false h1
    have h2 : 64 < n := by omega
    have hd2 : decide (64 < n) = true := decide_eq_true h2
    go_enter Try.func31, Try.ntmps31
    go_wp2_with fail
    go_ret2
    exact ⟨rfl, rfl⟩
set_option maxHeartbeats 1000000 in
set_option maxRecDepth 100000 in
theorem rnew_any (n : Nat) (h1 : 1 ≤ n) (h2 : n ≤ 64) (w : World) : Calls Try.prog 31 #[.int .i64 n] w fun e w' => e = .returned (.tuple #[.pointer (some ⟨w.heap.size, 0, none⟩), .int .i64 0]) ∧ Below w.heap.size w w' ∧ RT w.heap.size w' w.heap.size n (.slice none 0 0) [] := by
  have g1 : ¬ (n : Int) < 1 := by omega
  have g2 : ¬ (64 : Int) < n := by omega
  have hd1 : decide ((n : Int) < 1) = false := decide_eq_false g1
  have hd2 : decide ((64 : Int) < n) = false := decide_eq_false g2
  have HT : Hid (RT w.heap.size (w.alloc (.cells #[.int .i64 n, .slice none 0 0] 104)) w.heap.size n (.slice none 0 0) []) := ⟨heap_last _ _, World.ownsRow_nil _ _ _ _, Nat.le_refl _, fun l hl => by simp at hl, by simp⟩
  have HB : Hid (Below w.heap.size w (w.alloc (.cells #[.int .i64 n, .slice none 0 0] 104))) := below_new _ _
  go_enter Try.func31, Try.ntmps31
  go_wp2_with fail
  go_ret2
  exact ⟨rfl, HB.out, HT.out⟩

theorem eq_rnil (a : Addr) (w : World) : (binOp .eql 68 (.pointer (some a)) (.pointer none)).run Try.prog w = .ok (.bool false) w := by
  simp only [binOp]
  simp only [Op.equal, Op.maxDepth]
  rw [show (10000 : Nat) = 9999 + 1 from rfl, Op.equalIn]
  simp [Sem.run_bind, run_underlying Try.underlying68]

set_option maxHeartbeats 1000000 in
set_option maxRecDepth 100000 in
theorem rtlen_any {base : Nat} {w : World} {rb n : Nat} {vd : Value} {M : List (List Nat)} (h : RT base w rb n vd M) : Calls Try.prog 34 #[.pointer (some ⟨rb, 0, none⟩)] w fun e w' => e = .returned (.int .i64 (M.length : Nat)) ∧ w = w' := by
  obtain ⟨a, cap, rfl⟩ := own_shape h.row
  have h3 : w.cell? ⟨rb, 1, none⟩ = some (.slice a M.length cap) := cell_at h.box rfl
  have he := eq_rnil ⟨rb, 0, none⟩ w
  clear h
  go_enter Try.func34, Try.ntmps34
  go_wp2_with fail
  go_ret
  exact ⟨rfl, rfl⟩

end Go.Proofs.Ytihjhkbbpphocaa

namespace Go.Proofs.Ytihjhkbbpphocaa
open Go Go.RowKit Go.Lib Go.Maps
set_option linter.unusedVariables false
attribute [-instance] List.instBEq

set_option maxHeartbeats 4000000 in
set_option maxRecDepth 100000 in
theorem rput_bad {base : Nat} {w : World} {rb n : Nat} {vd : Value} {M : List (List Nat)} (h : RT base w rb n vd M) {N : Int} {g : Nat → Nat} (hg : W64 g) (hb : ¬ (ckN N g = 0 ∧ N = n)) :
    Calls Try.prog 53 #[.pointer (some ⟨rb, 0, none⟩), .agg (trC N g)] w fun e w' => e = .returned (.tuple #[.int .i64 0, .bool false, .int .i64 130]) ∧ Below w.heap.size w w' := by
  obtain ⟨E, hE⟩ : ∃ E, ckN N g = E := ⟨_, rfl⟩
  have HCK : Hid (∀ y, Calls Try.prog 12 #[.agg (trC N g)] y fun e w' => e = .returned (.int .i64 E) ∧ Below y.heap.size y w') := fun y => by
    have := rcheck_anyB N g hg y
    rw [hE] at this
    exact this
  obtain ⟨p0, p1, p2, p3, p4, p5, p6, hcs⟩ : ∃ p0 p1 p2 p3 p4 p5 p6 : Int, trC N g = #[.int .i64 N, .int .u64 p0, .int .u64 p1, .int .u64 p2, .int .u64 p3, .int .u64 p4, .int .u64 p5, .int .u64 p6] := ⟨_, _, _, _, _, _, _, rfl⟩
  have hE2 : E = 0 ∨ E = 130 := by rw [← hE]; unfold ckN; split <;> simp
  rw [hE] at hb
  rw [hcs] at HCK ⊢
  obtain ⟨w0, hw0⟩ : ∃ w0, w0 = w.alloc (.cells #[.int .i64 N, .int .u64 p0, .int .u64 p1, .int .u64 p2, .int .u64 p3, .int .u64 p4, .int .u64 p5, .int .u64 p6] 26) := ⟨_, rfl⟩
  have hb0 : Below w.heap.size w w0 := by rw [hw0]; exact below_new _ _
  have HT : Hid (RT base w0 rb n vd M) := h.below hb0
  have HL : Hid (w0.heap[w.heap.size]? = some (.cells #[.int .i64 N, .int .u64 p0, .int .u64 p1, .int .u64 p2, .int .u64 p3, .int .u64 p4, .int .u64 p5, .int .u64 p6] 26 (0, 0))) := by show _ = _; rw [hw0]; exact heap_last _ _
  have HB : Hid (Below w.heap.size w w0) := hb0
  have HW : Hid (w0 = w.alloc (.cells #[.int .i64 N, .int .u64 p0, .int .u64 p1, .int .u64 p2, .int .u64 p3, .int .u64 p4, .int .u64 p5, .int .u64 p6] 26)) := hw0
  have hLlt : w.heap.size < w0.heap.size := (Array.getElem?_eq_some_iff.1 HL.out).1
  have hblt : rb < w0.heap.size := (Array.getElem?_eq_some_iff.1 HT.out.box).1
  have HSK : Hid (∀ y z, ((∀ o, y.cell? ⟨w.heap.size, o, none⟩ = (#[.int .i64 N, .int .u64 p0, .int .u64 p1, .int .u64 p2, .int .u64 p3, .int .u64 p4, .int .u64 p5, .int .u64 p6] : Array Value)[o]?) ∧ y.cell? ⟨rb, 0, none⟩ = some (.int .i64 (n : Int)) ∧ Below w0.heap.size w0 y) → Below y.heap.size y z → ((∀ o, z.cell? ⟨w.heap.size, o, none⟩ = (#[.int .i64 N, .int .u64 p0, .int .u64 p1, .int .u64 p2, .int .u64 p3, .int .u64 p4, .int .u64 p5, .int .u64 p6] : Array Value)[o]?) ∧ z.cell? ⟨rb, 0, none⟩ = some (.int .i64 (n : Int)) ∧ Below w0.heap.size w0 z)) := fun y z hy hz => by
    have h3 := hy.2.2.size
    exact ⟨fun o => by rw [below_cellJ hz (by omega)]; exact hy.1 o, by rw [below_cellJ hz (by omega)]; exact hy.2.1, go_on hy.2.2 hz⟩
  have S0 : (∀ o, w0.drew.cell? ⟨w.heap.size, o, none⟩ = (#[.int .i64 N, .int .u64 p0, .int .u64 p1, .int .u64 p2, .int .u64 p3, .int .u64 p4, .int .u64 p5, .int .u64 p6] : Array Value)[o]?) ∧ w0.drew.cell? ⟨rb, 0, none⟩ = some (.int .i64 (n : Int)) ∧ Below w0.heap.size w0 w0.drew := ⟨fun o => cell_of_row _ _ _ _ _ _ HL.out, cell_at HT.out.box rfl, (Below.refl _ _).drew⟩
  clear h hw0 hb0 hE hcs
  have he := fun W => eq_rnil ⟨rb, 0, none⟩ W
  go_enter Try.func53, Try.ntmps53
  go_wp2_with fail
  rw [← HW.out]
  by_cases hz : E = 0
  · subst hz
    have hne : ¬ N = n := fun e => hb ⟨rfl, e⟩
    have hneb : (N != (n : Int)) = true := by rw [bne_iff_ne]; exact hne
    have hned : decide (N = (n : Int)) = false := decide_eq_false hne
    refine wp_region_held_drew (S := fun y => (∀ o, y.cell? ⟨w.heap.size, o, none⟩ = (#[.int .i64 N, .int .u64 p0, .int .u64 p1, .int .u64 p2, .int .u64 p3, .int .u64 p4, .int .u64 p5, .int .u64 p6] : Array Value)[o]?) ∧ y.cell? ⟨rb, 0, none⟩ = some (.int .i64 (n : Int)) ∧ Below w0.heap.size w0 y) (by kernel_rfl) S0 (fun hH0 => ?_)
    clear S0
    refine wpAnyH_take (i := 0) (oi := { dst := some 11, op := Go.Op.load 26 (Go.Operand.tmp 3), type := 26, pos := "ref.go:309", after := #[], guard := none }) (v := .agg #[.int .i64 N, .int .u64 p0, .int .u64 p1, .int .u64 p2, .int .u64 p3, .int .u64 p4, .int .u64 p5, .int .u64 p6]) rfl (by kernel_rfl) (by kernel_rfl) (by kernel_rfl) (fun _ _ _ h => h) (Or.inl ⟨by rfl, ?_⟩) (by assumption) ?_
    · intro w' hS; obtain ⟨hz, hz1, hz2⟩ := hS; go_simp
    simp only [Act.put, List.setIfInBounds_toArray, List.set_cons_zero, List.set_cons_succ]
    refine wpAnyH_ready (rs := [1]) (by kernel_rfl) (by simp) ?_
    refine AllReadyH.cons rfl (fun K hK => ?_) AllReadyH.nil
    go_simp
    refine Calls.mono (HCK.out _) ?_
    rintro e y1 ⟨rfl, hy1⟩
    have hN := HSK.out _ _ hH0 hy1
    clear hy1
    go_wp2_with fail
    refine hK.out _ _ hN (fun hH1 => ?_)
    clear hN
    clear hK K
    refine wpAnyH_take (i := 2) (oi := { dst := some 13, op := Go.Op.binOp Go.BinOp.neq 3 (Go.Operand.tmp 12) (Go.Operand.const (Go.Value.int Go.IntKind.i64 0)) 3, type := 4, pos := "ref.go:309", after := #[{ on := 1, ground := Go.Ground.data }], guard := none }) (v := ?_) rfl (by kernel_rfl) (by kernel_rfl) (by kernel_rfl) (fun _ _ _ h => h) (Or.inl ⟨by rfl, ?_⟩) (by assumption) ?_
    rotate_left
    · intro w' hS; go_simp; (try with_reducible rfl)
    simp only [Act.put, List.setIfInBounds_toArray, List.set_cons_zero, List.set_cons_succ]
    refine wpAnyH_take (i := 3) (oi := { dst := some 14, op := Go.Op.move (Go.Operand.tmp 13), type := 4, pos := "ref.go:309", after := #[{ on := 2, ground := Go.Ground.data }, { on := 1, ground := Go.Ground.chain }], guard := none }) (v := ?_) rfl (by kernel_rfl) (by kernel_rfl) (by kernel_rfl) (fun _ _ _ h => h) (Or.inl ⟨by rfl, ?_⟩) (by assumption) ?_
    rotate_left
    · intro w' hS; go_simp; (try with_reducible rfl)
    simp only [Act.put, List.setIfInBounds_toArray, List.set_cons_zero, List.set_cons_succ]
    refine wpAnyH_take (i := 4) (oi := { dst := some 15, op := Go.Op.fieldAddr 26 (Go.Operand.tmp 3) 0, type := 0, pos := "ref.go:309", after := #[{ on := 3, ground := Go.Ground.guard }], guard := some (3, false) }) (v := ?_) rfl (by kernel_rfl) (by kernel_rfl) (by kernel_rfl) (fun _ _ _ h => h) (Or.inl ⟨by rfl, ?_⟩) (by assumption) ?_
    rotate_left
    · intro w' hS; go_simp; (try with_reducible rfl)
    simp only [Act.put, List.setIfInBounds_toArray, List.set_cons_zero, List.set_cons_succ]
    refine wpAnyH_take (i := 5) (oi := { dst := some 16, op := Go.Op.load 3 (Go.Operand.tmp 15), type := 3, pos := "ref.go:309", after := #[{ on := 4, ground := Go.Ground.data }, { on := 3, ground := Go.Ground.guard }], guard := some (3, false) }) (v := .int .i64 N) rfl (by kernel_rfl) (by kernel_rfl) (by kernel_rfl) (fun _ _ _ h => h) (Or.inl ⟨by rfl, ?_⟩) (by assumption) ?_
    · intro w' hS; obtain ⟨hz, hz1, hz2⟩ := hS; go_simp
    simp only [Act.put, List.setIfInBounds_toArray, List.set_cons_zero, List.set_cons_succ]
    refine wpAnyH_take (i := 6) (oi := { dst := some 17, op := Go.Op.move (Go.Operand.tmp 0), type := 68, pos := "ref.go:309", after := #[{ on := 3, ground := Go.Ground.guard }], guard := some (3, false) }) (v := ?_) rfl (by kernel_rfl) (by kernel_rfl) (by kernel_rfl) (fun _ _ _ h => h) (Or.inl ⟨by rfl, ?_⟩) (by assumption) ?_
    rotate_left
    · intro w' hS; go_simp; (try with_reducible rfl)
    simp only [Act.put, List.setIfInBounds_toArray, List.set_cons_zero, List.set_cons_succ]
    refine wpAnyH_take (i := 7) (oi := { dst := some 18, op := Go.Op.nilCheck (Go.Operand.tmp 17), type := 0, pos := "ref.go:309", after := #[{ on := 6, ground := Go.Ground.data }, { on := 3, ground := Go.Ground.guard }], guard := some (3, false) }) (v := ?_) rfl (by kernel_rfl) (by kernel_rfl) (by kernel_rfl) (fun _ _ _ h => h) (Or.inl ⟨by rfl, ?_⟩) (by assumption) ?_
    rotate_left
    · intro w' hS; go_simp; (try with_reducible rfl)
    simp only [Act.put, List.setIfInBounds_toArray, List.set_cons_zero, List.set_cons_succ]
    refine wpAnyH_take (i := 8) (oi := { dst := some 19, op := Go.Op.fieldAddr 104 (Go.Operand.tmp 18) 0, type := 0, pos := "ref.go:309", after := #[{ on := 7, ground := Go.Ground.data }, { on := 3, ground := Go.Ground.guard }], guard := some (3, false) }) (v := ?_) rfl (by kernel_rfl) (by kernel_rfl) (by kernel_rfl) (fun _ _ _ h => h) (Or.inl ⟨by rfl, ?_⟩) (by assumption) ?_
    rotate_left
    · intro w' hS; go_simp; (try with_reducible rfl)
    simp only [Act.put, List.setIfInBounds_toArray, List.set_cons_zero, List.set_cons_succ]
    refine wpAnyH_take (i := 9) (oi := { dst := some 20, op := Go.Op.load 3 (Go.Operand.tmp 19), type := 3, pos := "ref.go:309", after := #[{ on := 8, ground := Go.Ground.data }, { on := 3, ground := Go.Ground.guard }], guard := some (3, false) }) (v := .int .i64 (n : Int)) rfl (by kernel_rfl) (by kernel_rfl) (by kernel_rfl) (fun _ _ _ h => h) (Or.inl ⟨by rfl, ?_⟩) (by assumption) ?_
    · intro w' hS; obtain ⟨hz, hz1, hz2⟩ := hS; go_simp
    simp only [Act.put, List.setIfInBounds_toArray, List.set_cons_zero, List.set_cons_succ]
    refine wpAnyH_take (i := 10) (oi := { dst := some 21, op := Go.Op.binOp Go.BinOp.neq 3 (Go.Operand.tmp 16) (Go.Operand.tmp 20) 3, type := 4, pos := "ref.go:309", after := #[{ on := 5, ground := Go.Ground.data }, { on := 9, ground := Go.Ground.data }, { on := 3, ground := Go.Ground.guard }], guard := some (3, false) }) (v := ?_) rfl (by kernel_rfl) (by kernel_rfl) (by kernel_rfl) (fun _ _ _ h => h) (Or.inl ⟨by rfl, ?_⟩) (by assumption) ?_
    rotate_left
    · intro w' hS; go_simp; (try with_reducible rfl)
    simp only [Act.put, List.setIfInBounds_toArray, List.set_cons_zero, List.set_cons_succ]
    refine wpAnyH_take (i := 11) (oi := { dst := some 22, op := Go.Op.pick (Go.Operand.tmp 14) (Go.Operand.const (Go.Value.bool true)) (Go.Operand.tmp 21), type := 4, pos := "ref.go:309", after := #[{ on := 3, ground := Go.Ground.data }, { on := 10, ground := Go.Ground.data }], guard := none }) (v := ?_) rfl (by kernel_rfl) (by kernel_rfl) (by kernel_rfl) (fun _ _ _ h => h) (Or.inl ⟨by rfl, ?_⟩) (by assumption) ?_
    rotate_left
    · intro w' hS; go_simp; (try with_reducible rfl)
    simp only [Act.put, List.setIfInBounds_toArray, List.set_cons_zero, List.set_cons_succ]
    refine wpAnyH_done (by kernel_rfl) ?_ _

    have HB1 : Hid (Below w0.heap.size w0 y1) := hH1.2.2
    go_wp2_with fail
    go_ret3
    exact ⟨rfl, HB.out.trans (HB1.out.mono (Nat.le_of_lt hLlt))⟩
  · have h130 : E = 130 := by omega
    subst h130
    refine wp_region_held_drew (S := fun y => (∀ o, y.cell? ⟨w.heap.size, o, none⟩ = (#[.int .i64 N, .int .u64 p0, .int .u64 p1, .int .u64 p2, .int .u64 p3, .int .u64 p4, .int .u64 p5, .int .u64 p6] : Array Value)[o]?) ∧ y.cell? ⟨rb, 0, none⟩ = some (.int .i64 (n : Int)) ∧ Below w0.heap.size w0 y) (by kernel_rfl) S0 (fun hH0 => ?_)
    clear S0
    refine wpAnyH_take (i := 0) (oi := { dst := some 11, op := Go.Op.load 26 (Go.Operand.tmp 3), type := 26, pos := "ref.go:309", after := #[], guard := none }) (v := .agg #[.int .i64 N, .int .u64 p0, .int .u64 p1, .int .u64 p2, .int .u64 p3, .int .u64 p4, .int .u64 p5, .int .u64 p6]) rfl (by kernel_rfl) (by kernel_rfl) (by kernel_rfl) (fun _ _ _ h => h) (Or.inl ⟨by rfl, ?_⟩) (by assumption) ?_
    · intro w' hS; obtain ⟨hz, hz1, hz2⟩ := hS; go_simp
    simp only [Act.put, List.setIfInBounds_toArray, List.set_cons_zero, List.set_cons_succ]
    refine wpAnyH_ready (rs := [1]) (by kernel_rfl) (by simp) ?_
    refine AllReadyH.cons rfl (fun K hK => ?_) AllReadyH.nil
    go_simp
    refine Calls.mono (HCK.out _) ?_
    rintro e y1 ⟨rfl, hy1⟩
    have hN := HSK.out _ _ hH0 hy1
    clear hy1
    go_wp2_with fail
    refine hK.out _ _ hN (fun hH1 => ?_)
    clear hN
    clear hK K
    refine wpAnyH_take (i := 2) (oi := { dst := some 13, op := Go.Op.binOp Go.BinOp.neq 3 (Go.Operand.tmp 12) (Go.Operand.const (Go.Value.int Go.IntKind.i64 0)) 3, type := 4, pos := "ref.go:309", after := #[{ on := 1, ground := Go.Ground.data }], guard := none }) (v := ?_) rfl (by kernel_rfl) (by kernel_rfl) (by kernel_rfl) (fun _ _ _ h => h) (Or.inl ⟨by rfl, ?_⟩) (by assumption) ?_
    rotate_left
    · intro w' hS; go_simp; (try with_reducible rfl)
    simp only [Act.put, List.setIfInBounds_toArray, List.set_cons_zero, List.set_cons_succ]
    refine wpAnyH_take (i := 3) (oi := { dst := some 14, op := Go.Op.move (Go.Operand.tmp 13), type := 4, pos := "ref.go:309", after := #[{ on := 2, ground := Go.Ground.data }, { on := 1, ground := Go.Ground.chain }], guard := none }) (v := ?_) rfl (by kernel_rfl) (by kernel_rfl) (by kernel_rfl) (fun _ _ _ h => h) (Or.inl ⟨by rfl, ?_⟩) (by assumption) ?_
    rotate_left
    · intro w' hS; go_simp; (try with_reducible rfl)
    simp only [Act.put, List.setIfInBounds_toArray, List.set_cons_zero, List.set_cons_succ]
    refine wpAnyH_take (i := 4) (oi := { dst := some 15, op := Go.Op.fieldAddr 26 (Go.Operand.tmp 3) 0, type := 0, pos := "ref.go:309", after := #[{ on := 3, ground := Go.Ground.guard }], guard := some (3, false) }) (v := undef) rfl (by kernel_rfl) (by kernel_rfl) (by kernel_rfl) (fun _ _ _ h => h) (Or.inr ⟨by rfl, rfl⟩) (by assumption) ?_
    simp only [Act.put, List.setIfInBounds_toArray, List.set_cons_zero, List.set_cons_succ]
    refine wpAnyH_take (i := 5) (oi := { dst := some 16, op := Go.Op.load 3 (Go.Operand.tmp 15), type := 3, pos := "ref.go:309", after := #[{ on := 4, ground := Go.Ground.data }, { on := 3, ground := Go.Ground.guard }], guard := some (3, false) }) (v := undef) rfl (by kernel_rfl) (by kernel_rfl) (by kernel_rfl) (fun _ _ _ h => h) (Or.inr ⟨by rfl, rfl⟩) (by assumption) ?_
    simp only [Act.put, List.setIfInBounds_toArray, List.set_cons_zero, List.set_cons_succ]
    refine wpAnyH_take (i := 6) (oi := { dst := some 17, op := Go.Op.move (Go.Operand.tmp 0), type := 68, pos := "ref.go:309", after := #[{ on := 3, ground := Go.Ground.guard }], guard := some (3, false) }) (v := undef) rfl (by kernel_rfl) (by kernel_rfl) (by kernel_rfl) (fun _ _ _ h => h) (Or.inr ⟨by rfl, rfl⟩) (by assumption) ?_
    simp only [Act.put, List.setIfInBounds_toArray, List.set_cons_zero, List.set_cons_succ]
    refine wpAnyH_take (i := 7) (oi := { dst := some 18, op := Go.Op.nilCheck (Go.Operand.tmp 17), type := 0, pos := "ref.go:309", after := #[{ on := 6, ground := Go.Ground.data }, { on := 3, ground := Go.Ground.guard }], guard := some (3, false) }) (v := undef) rfl (by kernel_rfl) (by kernel_rfl) (by kernel_rfl) (fun _ _ _ h => h) (Or.inr ⟨by rfl, rfl⟩) (by assumption) ?_
    simp only [Act.put, List.setIfInBounds_toArray, List.set_cons_zero, List.set_cons_succ]
    refine wpAnyH_take (i := 8) (oi := { dst := some 19, op := Go.Op.fieldAddr 104 (Go.Operand.tmp 18) 0, type := 0, pos := "ref.go:309", after := #[{ on := 7, ground := Go.Ground.data }, { on := 3, ground := Go.Ground.guard }], guard := some (3, false) }) (v := undef) rfl (by kernel_rfl) (by kernel_rfl) (by kernel_rfl) (fun _ _ _ h => h) (Or.inr ⟨by rfl, rfl⟩) (by assumption) ?_
    simp only [Act.put, List.setIfInBounds_toArray, List.set_cons_zero, List.set_cons_succ]
    refine wpAnyH_take (i := 9) (oi := { dst := some 20, op := Go.Op.load 3 (Go.Operand.tmp 19), type := 3, pos := "ref.go:309", after := #[{ on := 8, ground := Go.Ground.data }, { on := 3, ground := Go.Ground.guard }], guard := some (3, false) }) (v := undef) rfl (by kernel_rfl) (by kernel_rfl) (by kernel_rfl) (fun _ _ _ h => h) (Or.inr ⟨by rfl, rfl⟩) (by assumption) ?_
    simp only [Act.put, List.setIfInBounds_toArray, List.set_cons_zero, List.set_cons_succ]
    refine wpAnyH_take (i := 10) (oi := { dst := some 21, op := Go.Op.binOp Go.BinOp.neq 3 (Go.Operand.tmp 16) (Go.Operand.tmp 20) 3, type := 4, pos := "ref.go:309", after := #[{ on := 5, ground := Go.Ground.data }, { on := 9, ground := Go.Ground.data }, { on := 3, ground := Go.Ground.guard }], guard := some (3, false) }) (v := undef) rfl (by kernel_rfl) (by kernel_rfl) (by kernel_rfl) (fun _ _ _ h => h) (Or.inr ⟨by rfl, rfl⟩) (by assumption) ?_
    simp only [Act.put, List.setIfInBounds_toArray, List.set_cons_zero, List.set_cons_succ]
    refine wpAnyH_take (i := 11) (oi := { dst := some 22, op := Go.Op.pick (Go.Operand.tmp 14) (Go.Operand.const (Go.Value.bool true)) (Go.Operand.tmp 21), type := 4, pos := "ref.go:309", after := #[{ on := 3, ground := Go.Ground.data }, { on := 10, ground := Go.Ground.data }], guard := none }) (v := ?_) rfl (by kernel_rfl) (by kernel_rfl) (by kernel_rfl) (fun _ _ _ h => h) (Or.inl ⟨by rfl, ?_⟩) (by assumption) ?_
    rotate_left
    · intro w' hS; go_simp; (try with_reducible rfl)
    simp only [Act.put, List.setIfInBounds_toArray, List.set_cons_zero, List.set_cons_succ]
    refine wpAnyH_done (by kernel_rfl) ?_ _

    have HB1 : Hid (Below w0.heap.size w0 y1) := hH1.2.2
    go_wp2_with fail
    go_ret3
    exact ⟨rfl, HB.out.trans (HB1.out.mono (Nat.le_of_lt hLlt))⟩


theorem RT.cell8 {base : Nat} {w : World} {rb n g c : Nat} {M : List (List Nat)} (h : RT base w rb n (.slice (some ⟨g, 0, none⟩) M.length c) M) {i : Nat} {l : List Nat} (hi : M[i]? = some l) : ∀ j, j < 8 → w.cell? ⟨g, i * 8 + j, none⟩ = (tC l)[j]? := by
  obtain ⟨g', e, _, hc⟩ := h.cells hi
  simp only [Option.some.injEq, Addr.mk.injEq] at e
  obtain ⟨rfl, _⟩ := e
  exact hc

set_option maxHeartbeats 2000000 in
set_option maxRecDepth 100000 in
theorem rtat_any {base : Nat} {w : World} {rb n : Nat} {vd : Value} {M : List (List Nat)} (h : RT base w rb n vd M) {i : Nat} {l : List Nat} (hi : M[i]? = some l) : Calls Try.prog 57 #[.pointer (some ⟨rb, 0, none⟩), .int .i64 i] w fun e w' => e = .returned (.tuple #[.agg (tC l), .bool true]) ∧ Below w.heap.size w w' := by
  have hil := (List.getElem?_eq_some_iff.1 hi).1
  obtain ⟨a, cap, rfl⟩ := own_shape h.row
  obtain ⟨g, rfl, hg, hc⟩ := h.cells hi
  obtain ⟨w0, hw0⟩ : ∃ w0, w0 = w.alloc (.cells #[.int .i64 0, .int .u64 0, .int .u64 0, .int .u64 0, .int .u64 0, .int .u64 0, .int .u64 0, .int .u64 0] 26) := ⟨_, rfl⟩
  have hb0 : Below w.heap.size w w0 := by rw [hw0]; exact below_new _ _
  have HT : Hid (RT base w0 rb n (.slice (some ⟨g, 0, none⟩) M.length cap) M) := h.below hb0
  have h3 : w0.cell? ⟨rb, 1, none⟩ = some (.slice (some ⟨g, 0, none⟩) M.length cap) := cell_at HT.out.box rfl
  have HC : Hid (∀ j, j < 8 → w0.cell? ⟨g, i * 8 + j, none⟩ = (tC l)[j]?) := fun j hj => by rw [below_cellJ hb0 hg]; exact hc j hj
  have HR : Hid (TrAt w0 w.heap.size 0 (fun _ => 0)) := by show TrAt _ _ _ _; rw [hw0]; exact heap_last _ _
  have HB : Hid (Below w.heap.size w w0) := hb0
  have hiI : ¬ (M.length : Int) ≤ i := by omega
  have hmo : M.length ≤ 512 := h.most
  have he := fun W => eq_rnil ⟨rb, 0, none⟩ W
  have hst : (storeCells ⟨w.heap.size, 0, none⟩ (tC l).toList 0).run Try.prog w0 = .ok () (w0.setRow w.heap.size (tC l)) := st_tr HR.out
  rw [hw0] at h3 HC hst
  clear h hi hc hb0
  have HW : Hid (w0 = w.alloc (.cells #[.int .i64 0, .int .u64 0, .int .u64 0, .int .u64 0, .int .u64 0, .int .u64 0, .int .u64 0, .int .u64 0] 26)) := hw0
  clear hw0
  go_enter Try.func57, Try.ntmps57
  go_wp2_with (refine wa_load rfl rfl HC.out rfl ?_)
  rw [← HW.out]
  exact bodyPost_ret (results_tr_tmp rfl rfl (TrAt.row HR.out)) rfl ⟨rfl, below_row HB.out (Nat.le_refl _)⟩

set_option maxHeartbeats 2000000 in
set_option maxRecDepth 100000 in
theorem rtat_bad {base : Nat} {w : World} {rb n : Nat} {vd : Value} {M : List (List Nat)} (h : RT base w rb n vd M) {i : Int} (hi : i < 0 ∨ (M.length : Int) ≤ i) : Calls Try.prog 57 #[.pointer (some ⟨rb, 0, none⟩), .int .i64 i] w fun e w' => e = .returned (.tuple #[trZ, .bool false]) ∧ Below w.heap.size w w' := by
  obtain ⟨a, cap, rfl⟩ := own_shape h.row
  have hb0 : Below w.heap.size w (w.alloc (.cells #[.int .i64 0, .int .u64 0, .int .u64 0, .int .u64 0, .int .u64 0, .int .u64 0, .int .u64 0, .int .u64 0] 26)) := below_new _ _
  have HT : Hid (RT base (w.alloc (.cells #[.int .i64 0, .int .u64 0, .int .u64 0, .int .u64 0, .int .u64 0, .int .u64 0, .int .u64 0, .int .u64 0] 26)) rb n (.slice a M.length cap) M) := h.below hb0
  have h3 : (w.alloc (.cells #[.int .i64 0, .int .u64 0, .int .u64 0, .int .u64 0, .int .u64 0, .int .u64 0, .int .u64 0, .int .u64 0] 26)).cell? ⟨rb, 1, none⟩ = some (.slice a M.length cap) := cell_at HT.out.box rfl
  have HZ1 : Hid (TrAt (w.alloc (.cells #[.int .i64 0, .int .u64 0, .int .u64 0, .int .u64 0, .int .u64 0, .int .u64 0, .int .u64 0, .int .u64 0] 26)) w.heap.size 0 (fun _ => 0)) := heap_last _ _
  have HB : Hid (Below w.heap.size w (w.alloc (.cells #[.int .i64 0, .int .u64 0, .int .u64 0, .int .u64 0, .int .u64 0, .int .u64 0, .int .u64 0, .int .u64 0] 26))) := hb0
  obtain ⟨c0, c1, c2, c3, c4, c5, c6, c7⟩ := (HZ1.out).gets
  have f0 := (HZ1.out).frozen 0
  have f1 := (HZ1.out).frozen 1
  have f2 := (HZ1.out).frozen 2
  have f3 := (HZ1.out).frozen 3
  have f4 := (HZ1.out).frozen 4
  have f5 := (HZ1.out).frozen 5
  have f6 := (HZ1.out).frozen 6
  have f7 := (HZ1.out).frozen 7
  have he := fun W => eq_rnil ⟨rb, 0, none⟩ W
  clear h hb0
  by_cases hneg : i < 0
  · have hd : decide (i < 0) = true := decide_eq_true hneg
    go_enter Try.func57, Try.ntmps57
    go_wp2_with fail
    exact bodyPost_ret (results_tr_tmp rfl rfl HZ1.out) rfl ⟨rfl, HB.out⟩
  · have hd : decide (i < 0) = false := decide_eq_false hneg
    have hge : (M.length : Int) ≤ i := by omega
    have hd2 : decide ((M.length : Int) ≤ i) = true := decide_eq_true hge
    go_enter Try.func57, Try.ntmps57
    go_wp2_with fail
    exact bodyPost_ret (results_tr_tmp rfl rfl HZ1.out) rfl ⟨rfl, HB.out⟩

/-- Where a transformation is found. -/
def FQ (M : List (List Nat)) (N : Int) (g : Nat → Nat) (x : Nat) (q : Bool) : Prop :=
  (q = true ∧ ∃ l, M[x]? = some l ∧ mt N g l = true ∧ ∀ (t : Nat) (l' : List Nat), t < x → M[t]? = some l' → mt N g l' = false) ∨ (q = false ∧ x = 0 ∧ ∀ l ∈ M, mt N g l = false)
theorem FQ.ex (M : List (List Nat)) (N : Int) (g : Nat → Nat) : ∃ x q, FQ M N g x q := by
  rcases found N g M with ⟨p, l, h1, h2, h3⟩ | h
  · exact ⟨p, true, .inl ⟨rfl, l, h1, h2, h3⟩⟩
  · exact ⟨0, false, .inr ⟨rfl, rfl, h⟩⟩

set_option maxHeartbeats 4000000 in
set_option maxRecDepth 100000 in
theorem rtfind_any {base : Nat} {w : World} {rb n : Nat} {vd : Value} {M : List (List Nat)} (h : RT base w rb n vd M) (N : Int) (g : Nat → Nat) {x : Nat} {q : Bool} (hq : FQ M N g x q) :
    Calls Try.prog 55 #[.pointer (some ⟨rb, 0, none⟩), .agg (trC N g)] w fun e w' => e = .returned (.tuple #[.int .i64 (x : Nat), .bool q]) ∧ Below w.heap.size w w' := by
  obtain ⟨a, cap, rfl⟩ := own_shape h.row
  obtain ⟨w0, hw0⟩ : ∃ w0, w0 = w.alloc (.cells (trC N g) 26) := ⟨_, rfl⟩
  have hb0 : Below w.heap.size w w0 := by rw [hw0]; exact below_new _ _
  have HT : Hid (RT base w0 rb n (.slice a M.length cap) M) := h.below hb0
  have HR : Hid (TrAt w0 w.heap.size N g) := by show TrAt _ _ _ _; rw [hw0]; exact heap_last _ _
  have HB : Hid (Below w.heap.size w w0) := hb0
  have HW : Hid (w0 = w.alloc (.cells (trC N g) 26)) := hw0
  have HQ : Hid (FQ M N g x q) := hq
  have he := fun W => eq_rnil ⟨rb, 0, none⟩ W
  have hmo : M.length ≤ 512 := h.most
  clear h hw0 hb0 hq
  go_enter Try.func55, Try.ntmps55
  go_wp2_with fail
  rw [← HW.out]
  go_loopw [6] (fun vi wr => ∃ i : Nat, vi = .int .i64 i ∧ i ≤ M.length ∧ (∀ (t : Nat) (l' : List Nat), t < i → M[t]? = some l' → mt N g l' = false) ∧ Below w0.heap.size w0 wr) (fun vi _ => M.length - (Go.RowKit.intOf vi).toNat)
  case atStart => exact ⟨0, rfl, Nat.zero_le _, fun t l' ht => by omega, Below.refl _ _⟩
  case round =>
    obtain ⟨i, rfl, hin, hall, hB⟩ := hrel
    obtain ⟨wr5, h5⟩ : ∃ z, z = wr := ⟨_, rfl⟩
    subst h5
    have HALL : Hid (∀ (t : Nat) (l' : List Nat), t < i → M[t]? = some l' → mt N g l' = false) := hall
    have HB5 : Hid (Below w0.heap.size w0 wr5) := hB
    have HT5 : Hid (RT base wr5 rb n (.slice a M.length cap) M) := HT.out.below hB
    have HR5 : Hid (TrAt wr5 w.heap.size N g) := HR.out.of (hB.block _ HR.out.lt)
    have h3 : wr5.cell? ⟨rb, 1, none⟩ = some (.slice a M.length cap) := cell_at HT5.out.box rfl
    clear hall hB
    by_cases hlt : i < M.length
    · have hiI : (i : Int) < M.length := by omega
      have hid : decide ((i : Int) < M.length) = true := decide_eq_true hiI
      obtain ⟨l, hl⟩ : ∃ l, M[i]? = some l := ⟨_, List.getElem?_eq_getElem hlt⟩
      have HMI : Hid (M[i]? = some l) := hl
      obtain ⟨gb, rfl, hgb, _⟩ := HT5.out.cells hl
      have S0 : RT base wr5.drew rb n (.slice (some ⟨gb, 0, none⟩) M.length cap) M ∧ TrAt wr5.drew w.heap.size N g := ⟨HT5.out.below (Below.refl _ _).drew, HR5.out.of rfl⟩
      clear hl
      go_upto_region 6 with fail
      clear h3
      refine wp_region_held_drew (S := fun y => RT base y rb n (.slice (some ⟨gb, 0, none⟩) M.length cap) M ∧ TrAt y w.heap.size N g) (by kernel_rfl) S0 (fun hH0 => ?_)
      clear S0
      refine wpAnyH_take (i := 0) (oi := { dst := some 18, op := Go.Op.move (Go.Operand.tmp 0), type := 68, pos := "ref.go:297", after := #[], guard := none }) (v := ?_) rfl (by kernel_rfl) (by kernel_rfl) (by kernel_rfl) (fun _ _ _ h => h) (Or.inl ⟨by rfl, ?_⟩) (by assumption) ?_
      rotate_left
      · intro w' hS; go_simp; (try with_reducible rfl)
      simp only [Act.put, List.setIfInBounds_toArray, List.set_cons_zero, List.set_cons_succ]
      refine wpAnyH_take (i := 1) (oi := { dst := some 19, op := Go.Op.nilCheck (Go.Operand.tmp 18), type := 0, pos := "ref.go:297", after := #[{ on := 0, ground := Go.Ground.data }], guard := none }) (v := ?_) rfl (by kernel_rfl) (by kernel_rfl) (by kernel_rfl) (fun _ _ _ h => h) (Or.inl ⟨by rfl, ?_⟩) (by assumption) ?_
      rotate_left
      · intro w' hS; go_simp; (try with_reducible rfl)
      simp only [Act.put, List.setIfInBounds_toArray, List.set_cons_zero, List.set_cons_succ]
      refine wpAnyH_take (i := 2) (oi := { dst := some 20, op := Go.Op.fieldAddr 104 (Go.Operand.tmp 19) 1, type := 0, pos := "ref.go:297", after := #[{ on := 1, ground := Go.Ground.data }], guard := none }) (v := ?_) rfl (by kernel_rfl) (by kernel_rfl) (by kernel_rfl) (fun _ _ _ h => h) (Or.inl ⟨by rfl, ?_⟩) (by assumption) ?_
      rotate_left
      · intro w' hS; go_simp; (try with_reducible rfl)
      simp only [Act.put, List.setIfInBounds_toArray, List.set_cons_zero, List.set_cons_succ]
      refine wpAnyH_take (i := 3) (oi := { dst := some 21, op := Go.Op.load 100 (Go.Operand.tmp 20), type := 100, pos := "ref.go:297", after := #[{ on := 2, ground := Go.Ground.data }], guard := none }) (v := .slice (some ⟨gb, 0, none⟩) M.length cap) rfl (by kernel_rfl) (by kernel_rfl) (by kernel_rfl) (fun _ _ _ h => h) (Or.inl ⟨by rfl, ?_⟩) (by assumption) ?_
      · intro w' hS; have hz : w'.cell? ⟨rb, 1, none⟩ = some (.slice (some ⟨gb, 0, none⟩) M.length cap) := cell_at hS.1.box rfl; go_simp
      simp only [Act.put, List.setIfInBounds_toArray, List.set_cons_zero, List.set_cons_succ]
      refine wpAnyH_take (i := 4) (oi := { dst := some 22, op := Go.Op.move (Go.Operand.tmp 6), type := 3, pos := "ref.go:297", after := #[], guard := none }) (v := ?_) rfl (by kernel_rfl) (by kernel_rfl) (by kernel_rfl) (fun _ _ _ h => h) (Or.inl ⟨by rfl, ?_⟩) (by assumption) ?_
      rotate_left
      · intro w' hS; go_simp; (try with_reducible rfl)
      simp only [Act.put, List.setIfInBounds_toArray, List.set_cons_zero, List.set_cons_succ]
      refine wpAnyH_take (i := 5) (oi := { dst := some 23, op := Go.Op.indexAddr 100 (Go.Operand.tmp 21) (Go.Operand.tmp 22), type := 0, pos := "ref.go:297", after := #[{ on := 3, ground := Go.Ground.data }, { on := 4, ground := Go.Ground.data }], guard := none }) (v := ?_) rfl (by kernel_rfl) (by kernel_rfl) (by kernel_rfl) (fun _ _ _ h => h) (Or.inl ⟨by rfl, ?_⟩) (by assumption) ?_
      rotate_left
      · intro w' hS; go_simp; (try with_reducible rfl)
      simp only [Act.put, List.setIfInBounds_toArray, List.set_cons_zero, List.set_cons_succ]
      refine wpAnyH_take (i := 6) (oi := { dst := some 24, op := Go.Op.load 26 (Go.Operand.tmp 23), type := 26, pos := "ref.go:297", after := #[{ on := 5, ground := Go.Ground.data }], guard := none }) (v := .agg (tC l)) rfl (by kernel_rfl) (by kernel_rfl) (by kernel_rfl) (fun _ _ _ h => h) (Or.inl ⟨by rfl, ?_⟩) (by assumption) ?_
      · intro w' hS; exact ex_load_at (x := .tmp 23) rfl rfl (lv_row (hS.1.cell8 HMI.out))
      simp only [Act.put, List.setIfInBounds_toArray, List.set_cons_zero, List.set_cons_succ]
      refine wpAnyH_take (i := 7) (oi := { dst := some 25, op := Go.Op.load 26 (Go.Operand.tmp 3), type := 26, pos := "ref.go:297", after := #[], guard := none }) (v := .agg (trC N g)) rfl (by kernel_rfl) (by kernel_rfl) (by kernel_rfl) (fun _ _ _ h => h) (Or.inl ⟨by rfl, ?_⟩) (by assumption) ?_
      · intro w' hS; exact ex_load_row (x := .tmp 3) rfl rfl (lv_tr hS.2)
      simp only [Act.put, List.setIfInBounds_toArray, List.set_cons_zero, List.set_cons_succ]
      refine wpAnyH_take (i := 8) (oi := { dst := some 26, op := Go.Op.binOp Go.BinOp.eql 26 (Go.Operand.tmp 24) (Go.Operand.tmp 25) 26, type := 4, pos := "ref.go:297", after := #[{ on := 6, ground := Go.Ground.data }, { on := 7, ground := Go.Ground.data }], guard := none }) (v := .bool (mt N g l)) rfl (by kernel_rfl) (by kernel_rfl) (by kernel_rfl) (fun _ _ _ h => h) (Or.inl ⟨by rfl, ?_⟩) (by assumption) ?_
      · intro w' hS; exact ex_eql_trG (x := .tmp 24) (y := .tmp 25) (N := (l.length : Int)) (M := N) (f := pk (im l) l.length) (g := g) rfl rfl rfl w'
      simp only [Act.put, List.setIfInBounds_toArray, List.set_cons_zero, List.set_cons_succ]
      refine wpAnyH_done (by kernel_rfl) ?_ _

      clear hH0
      obtain ⟨q2, hq2⟩ : ∃ q2, mt N g l = q2 := ⟨_, rfl⟩
      rw [hq2]
      cases q2 with
      | true =>
        have HE : Hid (i = x ∧ q = true) := by
          rcases HQ.out with ⟨h1, l2, h2, h3, h4⟩ | ⟨_, _, h2⟩
          · refine ⟨?_, h1⟩
            by_cases e : i = x
            · exact e
            · exfalso
              rcases Nat.lt_or_gt_of_ne e with c | c
              · have := h4 i l c HMI.out
                rw [hq2] at this; cases this
              · have := HALL.out x l2 c h2
                rw [h3] at this; cases this
          · have := h2 l (List.mem_of_getElem? HMI.out)
            rw [hq2] at this; cases this
        obtain ⟨e1, e2⟩ := HE.out
        subst e1 e2
        clear hq2 HE
        go_wp2_with fail
        go_ret2
        exact ⟨rfl, go_on HB.out HB5.out.drew⟩
      | false =>
        have HN : Hid (∀ (t : Nat) (l' : List Nat), t < i + 1 → M[t]? = some l' → mt N g l' = false) := fun t l' ht hl' => by
          by_cases e : t = i
          · subst e
            rw [HMI.out] at hl'
            injection hl' with hl'
            subst hl'
            exact hq2
          · exact HALL.out t l' (by omega) hl'
        clear hq2
        go_wp2_with fail
        go_roundw
        case rel => exact ⟨i + 1, by go_num, by omega, HN.out, HB5.out.drew⟩
        case measure => simp [Go.RowKit.intOf]; omega
    · have hiI : ¬ (i : Int) < M.length := by omega
      have hid : decide ((i : Int) < M.length) = false := decide_eq_false hiI
      have HE : Hid (x = 0 ∧ q = false) := by
        rcases HQ.out with ⟨h1, l2, h2, h3, h4⟩ | ⟨h1, h2, _⟩
        · have := HALL.out x l2 (by have := (List.getElem?_eq_some_iff.1 h2).1; omega) h2
          rw [h3] at this; cases this
        · exact ⟨h2, h1⟩
      obtain ⟨e1, e2⟩ := HE.out
      subst e1 e2
      clear HE
      go_wp2_with fail
      go_ret2
      exact ⟨rfl, go_on HB.out HB5.out⟩
end Go.Proofs.Ytihjhkbbpphocaa

namespace Go.Proofs.Ytihjhkbbpphocaa
open Go Go.RowKit Go.Lib Go.Maps
set_option linter.unusedVariables false
attribute [-instance] List.instBEq

/-- A new transformation in the document's table. -/
theorem RT.new {base : Nat} {w w7 : World} {rb n : Nat} {vd vd' : Value} {M : List (List Nat)} {l : List Nat} {o : Obj} (h : RT base w rb n vd M) (hl : Tf l) (hn : l.length = n) (hs : M.length < 512)
    (ho : w7.ownsRow base 26 8 vd' (M.length + 1) (tCs M ++ (tC l).toList)) (hg : (w.alloc o).grownBy w7 vd.ownBlock) :
    w7.heap[rb]? = some (.cells #[.int .i64 n, vd] 104 (0, 0)) ∧ RT base (w7.setCell ⟨rb, 1, none⟩ vd') rb n vd' (M ++ [l]) ∧ Only (DS rb vd) w (w7.setCell ⟨rb, 1, none⟩ vd') := by
  have hbl := (Array.getElem?_eq_some_iff.1 h.box).1
  have hs7 : w.heap.size + 1 ≤ w7.heap.size := by have := (Only.grown (S := fun _ => True) hg (fun _ _ => trivial)).size; simpa using this
  have k : ∀ j, j < w.heap.size → vd.ownBlock ≠ some j → w7.heap[j]? = w.heap[j]? := fun j hj h2 => by
    rw [hg.block j (by simp; omega) (fun e => h2 e.symm), (below_new w o).block j hj]
  have hvb : vd.ownBlock ≠ some rb := fun e => by
    obtain ⟨_, cur, hc⟩ := own_blk h.row e
    rw [h.box] at hc
    injection hc with hc
    injection hc with _ hc _
    exact absurd hc (by decide)
  have box7 := (k rb hbl hvb).trans h.box
  refine ⟨box7, ⟨heap_set box7, ?_, h.lob, ?_, ?_⟩, ?_, ?_⟩
  · rw [tCs_snoc, List.length_append]
    refine own_keep ho (fun j cur hj hc => heap_set_other (fun e => ?_))
    rw [e, box7] at hc
    injection hc with hc
    injection hc with _ hc _
    exact absurd hc (by decide)
  · intro x hx
    rcases List.mem_append.1 hx with hx | hx
    · exact h.all x hx
    · simp at hx; subst hx; exact ⟨hl, hn⟩
  · simp; omega
  · exact (((Below.refl 0 w).alloc (Nat.zero_le _) o).grown hg (by omega) (fun _ _ => Nat.zero_le _)).setCell (p := ⟨rb, 1, none⟩) (Nat.zero_le _) _
  · intro j hj hS
    unfold DS at hS
    rw [heap_set_other (fun e => hS (.inl e))]
    exact k j hj (fun e => hS (.inr e))

/-- What the document's Put of a new transformation leaves. -/
def RtN (base rb n : Nat) (vd : Value) (M : List (List Nat)) (l : List Nat) (w : World) (e : Ending) (w' : World) : Prop := ∃ vd', e = .returned (.tuple #[.int .i64 (M.length : Nat), .bool true, .int .i64 0]) ∧ RT base w' rb n vd' (M ++ [l]) ∧ Only (DS rb vd) w w' ∧ (vd'.ownBlock = vd.ownBlock ∨ ∃ x, vd'.ownBlock = some x ∧ w.heap.size ≤ x)

set_option maxHeartbeats 4000000 in
set_option maxRecDepth 100000 in
theorem rtput_old {base : Nat} {w : World} {rb n : Nat} {vd : Value} {M : List (List Nat)} (h : RT base w rb n vd M) {l : List Nat} (hl : Tf l) (hn : l.length = n) {x : Nat} {q : Bool} (hq : FQ M (l.length : Int) (pk (im l) l.length) x q) (hy : q = true) :
    Calls Try.prog 53 #[.pointer (some ⟨rb, 0, none⟩), .agg (tC l)] w (fun e w' => e = .returned (.tuple #[.int .i64 (x : Nat), .bool false, .int .i64 0]) ∧ Below w.heap.size w w') := by
  have HCK : Hid (∀ y, Calls Try.prog 12 #[.agg (tC l)] y fun e w' => e = .returned (.int .i64 0) ∧ Below y.heap.size y w') := fun y => rcheck_ok l hl y
  have HFI : Hid (∀ y, RT base y rb n vd M → Calls Try.prog 55 #[.pointer (some ⟨rb, 0, none⟩), .agg (tC l)] y fun e w' => e = .returned (.tuple #[.int .i64 (x : Nat), .bool q]) ∧ Below y.heap.size y w') := fun y hy => rtfind_any hy _ _ hq
  obtain ⟨p0, p1, p2, p3, p4, p5, p6, hcs⟩ : ∃ p0 p1 p2 p3 p4 p5 p6 : Int, tC l = #[.int .i64 (n : Int), .int .u64 p0, .int .u64 p1, .int .u64 p2, .int .u64 p3, .int .u64 p4, .int .u64 p5, .int .u64 p6] := ⟨_, _, _, _, _, _, _, by subst hn; rfl⟩
  have HLC : Hid (tC l = #[.int .i64 (n : Int), .int .u64 p0, .int .u64 p1, .int .u64 p2, .int .u64 p3, .int .u64 p4, .int .u64 p5, .int .u64 p6]) := hcs
  have HTF : Hid (Tf l ∧ l.length = n) := ⟨hl, hn⟩
  rw [hcs] at HCK HFI ⊢
  obtain ⟨w0, hw0⟩ : ∃ w0, w0 = w.alloc (.cells #[.int .i64 (n : Int), .int .u64 p0, .int .u64 p1, .int .u64 p2, .int .u64 p3, .int .u64 p4, .int .u64 p5, .int .u64 p6] 26) := ⟨_, rfl⟩
  have hb0 : Below w.heap.size w w0 := by rw [hw0]; exact below_new _ _
  have HT : Hid (RT base w0 rb n vd M) := h.below hb0
  have HL : Hid (w0.heap[w.heap.size]? = some (.cells #[.int .i64 (n : Int), .int .u64 p0, .int .u64 p1, .int .u64 p2, .int .u64 p3, .int .u64 p4, .int .u64 p5, .int .u64 p6] 26 (0, 0))) := by show _ = _; rw [hw0]; exact heap_last _ _
  have HB : Hid (Below w.heap.size w w0) := hb0
  have HW : Hid (w0 = w.alloc (.cells #[.int .i64 (n : Int), .int .u64 p0, .int .u64 p1, .int .u64 p2, .int .u64 p3, .int .u64 p4, .int .u64 p5, .int .u64 p6] 26)) := hw0
  have hLlt : w.heap.size < w0.heap.size := (Array.getElem?_eq_some_iff.1 HL.out).1
  have hblt : rb < w0.heap.size := (Array.getElem?_eq_some_iff.1 HT.out.box).1
  have HSK : Hid (∀ y z, ((∀ o, y.cell? ⟨w.heap.size, o, none⟩ = (#[.int .i64 (n : Int), .int .u64 p0, .int .u64 p1, .int .u64 p2, .int .u64 p3, .int .u64 p4, .int .u64 p5, .int .u64 p6] : Array Value)[o]?) ∧ y.cell? ⟨rb, 0, none⟩ = some (.int .i64 (n : Int)) ∧ Below w0.heap.size w0 y) → Below y.heap.size y z → ((∀ o, z.cell? ⟨w.heap.size, o, none⟩ = (#[.int .i64 (n : Int), .int .u64 p0, .int .u64 p1, .int .u64 p2, .int .u64 p3, .int .u64 p4, .int .u64 p5, .int .u64 p6] : Array Value)[o]?) ∧ z.cell? ⟨rb, 0, none⟩ = some (.int .i64 (n : Int)) ∧ Below w0.heap.size w0 z)) := fun y z hy hz => by
    have h3 := hy.2.2.size
    exact ⟨fun o => by rw [below_cellJ hz (by omega)]; exact hy.1 o, by rw [below_cellJ hz (by omega)]; exact hy.2.1, go_on hy.2.2 hz⟩
  have S0 : (∀ o, w0.drew.cell? ⟨w.heap.size, o, none⟩ = (#[.int .i64 (n : Int), .int .u64 p0, .int .u64 p1, .int .u64 p2, .int .u64 p3, .int .u64 p4, .int .u64 p5, .int .u64 p6] : Array Value)[o]?) ∧ w0.drew.cell? ⟨rb, 0, none⟩ = some (.int .i64 (n : Int)) ∧ Below w0.heap.size w0 w0.drew := ⟨fun o => cell_of_row _ _ _ _ _ _ HL.out, cell_at HT.out.box rfl, (Below.refl _ _).drew⟩
  have he := fun W => eq_rnil ⟨rb, 0, none⟩ W
  have HQ : Hid (FQ M (l.length : Int) (pk (im l) l.length) x q) := hq
  clear hw0 hb0 hl hn hcs hq
  go_enter Try.func53, Try.ntmps53
  go_wp2_with fail
  rw [← HW.out]
  refine wp_region_held_drew (S := fun y => (∀ o, y.cell? ⟨w.heap.size, o, none⟩ = (#[.int .i64 (n : Int), .int .u64 p0, .int .u64 p1, .int .u64 p2, .int .u64 p3, .int .u64 p4, .int .u64 p5, .int .u64 p6] : Array Value)[o]?) ∧ y.cell? ⟨rb, 0, none⟩ = some (.int .i64 (n : Int)) ∧ Below w0.heap.size w0 y) (by kernel_rfl) S0 (fun hH0 => ?_)
  clear S0
  refine wpAnyH_take (i := 0) (oi := { dst := some 11, op := Go.Op.load 26 (Go.Operand.tmp 3), type := 26, pos := "ref.go:309", after := #[], guard := none }) (v := .agg #[.int .i64 (n : Int), .int .u64 p0, .int .u64 p1, .int .u64 p2, .int .u64 p3, .int .u64 p4, .int .u64 p5, .int .u64 p6]) rfl (by kernel_rfl) (by kernel_rfl) (by kernel_rfl) (fun _ _ _ h => h) (Or.inl ⟨by rfl, ?_⟩) (by assumption) ?_
  · intro w' hS; obtain ⟨hz, hz1, hz2⟩ := hS; go_simp
  simp only [Act.put, List.setIfInBounds_toArray, List.set_cons_zero, List.set_cons_succ]
  refine wpAnyH_ready (rs := [1]) (by kernel_rfl) (by simp) ?_
  refine AllReadyH.cons rfl (fun K hK => ?_) AllReadyH.nil
  go_simp
  refine Calls.mono (HCK.out _) ?_
  rintro e y1 ⟨rfl, hy1⟩
  have hN := HSK.out _ _ hH0 hy1
  clear hy1
  go_wp2_with fail
  refine hK.out _ _ hN (fun hH1 => ?_)
  clear hN
  clear hK K
  refine wpAnyH_take (i := 2) (oi := { dst := some 13, op := Go.Op.binOp Go.BinOp.neq 3 (Go.Operand.tmp 12) (Go.Operand.const (Go.Value.int Go.IntKind.i64 0)) 3, type := 4, pos := "ref.go:309", after := #[{ on := 1, ground := Go.Ground.data }], guard := none }) (v := ?_) rfl (by kernel_rfl) (by kernel_rfl) (by kernel_rfl) (fun _ _ _ h => h) (Or.inl ⟨by rfl, ?_⟩) (by assumption) ?_
  rotate_left
  · intro w' hS; go_simp; (try with_reducible rfl)
  simp only [Act.put, List.setIfInBounds_toArray, List.set_cons_zero, List.set_cons_succ]
  refine wpAnyH_take (i := 3) (oi := { dst := some 14, op := Go.Op.move (Go.Operand.tmp 13), type := 4, pos := "ref.go:309", after := #[{ on := 2, ground := Go.Ground.data }, { on := 1, ground := Go.Ground.chain }], guard := none }) (v := ?_) rfl (by kernel_rfl) (by kernel_rfl) (by kernel_rfl) (fun _ _ _ h => h) (Or.inl ⟨by rfl, ?_⟩) (by assumption) ?_
  rotate_left
  · intro w' hS; go_simp; (try with_reducible rfl)
  simp only [Act.put, List.setIfInBounds_toArray, List.set_cons_zero, List.set_cons_succ]
  refine wpAnyH_take (i := 4) (oi := { dst := some 15, op := Go.Op.fieldAddr 26 (Go.Operand.tmp 3) 0, type := 0, pos := "ref.go:309", after := #[{ on := 3, ground := Go.Ground.guard }], guard := some (3, false) }) (v := ?_) rfl (by kernel_rfl) (by kernel_rfl) (by kernel_rfl) (fun _ _ _ h => h) (Or.inl ⟨by rfl, ?_⟩) (by assumption) ?_
  rotate_left
  · intro w' hS; go_simp; (try with_reducible rfl)
  simp only [Act.put, List.setIfInBounds_toArray, List.set_cons_zero, List.set_cons_succ]
  refine wpAnyH_take (i := 5) (oi := { dst := some 16, op := Go.Op.load 3 (Go.Operand.tmp 15), type := 3, pos := "ref.go:309", after := #[{ on := 4, ground := Go.Ground.data }, { on := 3, ground := Go.Ground.guard }], guard := some (3, false) }) (v := .int .i64 (n : Int)) rfl (by kernel_rfl) (by kernel_rfl) (by kernel_rfl) (fun _ _ _ h => h) (Or.inl ⟨by rfl, ?_⟩) (by assumption) ?_
  · intro w' hS; obtain ⟨hz, hz1, hz2⟩ := hS; go_simp
  simp only [Act.put, List.setIfInBounds_toArray, List.set_cons_zero, List.set_cons_succ]
  refine wpAnyH_take (i := 6) (oi := { dst := some 17, op := Go.Op.move (Go.Operand.tmp 0), type := 68, pos := "ref.go:309", after := #[{ on := 3, ground := Go.Ground.guard }], guard := some (3, false) }) (v := ?_) rfl (by kernel_rfl) (by kernel_rfl) (by kernel_rfl) (fun _ _ _ h => h) (Or.inl ⟨by rfl, ?_⟩) (by assumption) ?_
  rotate_left
  · intro w' hS; go_simp; (try with_reducible rfl)
  simp only [Act.put, List.setIfInBounds_toArray, List.set_cons_zero, List.set_cons_succ]
  refine wpAnyH_take (i := 7) (oi := { dst := some 18, op := Go.Op.nilCheck (Go.Operand.tmp 17), type := 0, pos := "ref.go:309", after := #[{ on := 6, ground := Go.Ground.data }, { on := 3, ground := Go.Ground.guard }], guard := some (3, false) }) (v := ?_) rfl (by kernel_rfl) (by kernel_rfl) (by kernel_rfl) (fun _ _ _ h => h) (Or.inl ⟨by rfl, ?_⟩) (by assumption) ?_
  rotate_left
  · intro w' hS; go_simp; (try with_reducible rfl)
  simp only [Act.put, List.setIfInBounds_toArray, List.set_cons_zero, List.set_cons_succ]
  refine wpAnyH_take (i := 8) (oi := { dst := some 19, op := Go.Op.fieldAddr 104 (Go.Operand.tmp 18) 0, type := 0, pos := "ref.go:309", after := #[{ on := 7, ground := Go.Ground.data }, { on := 3, ground := Go.Ground.guard }], guard := some (3, false) }) (v := ?_) rfl (by kernel_rfl) (by kernel_rfl) (by kernel_rfl) (fun _ _ _ h => h) (Or.inl ⟨by rfl, ?_⟩) (by assumption) ?_
  rotate_left
  · intro w' hS; go_simp; (try with_reducible rfl)
  simp only [Act.put, List.setIfInBounds_toArray, List.set_cons_zero, List.set_cons_succ]
  refine wpAnyH_take (i := 9) (oi := { dst := some 20, op := Go.Op.load 3 (Go.Operand.tmp 19), type := 3, pos := "ref.go:309", after := #[{ on := 8, ground := Go.Ground.data }, { on := 3, ground := Go.Ground.guard }], guard := some (3, false) }) (v := .int .i64 (n : Int)) rfl (by kernel_rfl) (by kernel_rfl) (by kernel_rfl) (fun _ _ _ h => h) (Or.inl ⟨by rfl, ?_⟩) (by assumption) ?_
  · intro w' hS; obtain ⟨hz, hz1, hz2⟩ := hS; go_simp
  simp only [Act.put, List.setIfInBounds_toArray, List.set_cons_zero, List.set_cons_succ]
  refine wpAnyH_take (i := 10) (oi := { dst := some 21, op := Go.Op.binOp Go.BinOp.neq 3 (Go.Operand.tmp 16) (Go.Operand.tmp 20) 3, type := 4, pos := "ref.go:309", after := #[{ on := 5, ground := Go.Ground.data }, { on := 9, ground := Go.Ground.data }, { on := 3, ground := Go.Ground.guard }], guard := some (3, false) }) (v := ?_) rfl (by kernel_rfl) (by kernel_rfl) (by kernel_rfl) (fun _ _ _ h => h) (Or.inl ⟨by rfl, ?_⟩) (by assumption) ?_
  rotate_left
  · intro w' hS; go_simp; (try with_reducible rfl)
  simp only [Act.put, List.setIfInBounds_toArray, List.set_cons_zero, List.set_cons_succ]
  refine wpAnyH_take (i := 11) (oi := { dst := some 22, op := Go.Op.pick (Go.Operand.tmp 14) (Go.Operand.const (Go.Value.bool true)) (Go.Operand.tmp 21), type := 4, pos := "ref.go:309", after := #[{ on := 3, ground := Go.Ground.data }, { on := 10, ground := Go.Ground.data }], guard := none }) (v := ?_) rfl (by kernel_rfl) (by kernel_rfl) (by kernel_rfl) (fun _ _ _ h => h) (Or.inl ⟨by rfl, ?_⟩) (by assumption) ?_
  rotate_left
  · intro w' hS; go_simp; (try with_reducible rfl)
  simp only [Act.put, List.setIfInBounds_toArray, List.set_cons_zero, List.set_cons_succ]
  refine wpAnyH_done (by kernel_rfl) ?_ _

  have HB1 : Hid (Below w0.heap.size w0 y1) := hH1.2.2
  have HT1 : Hid (RT base y1 rb n vd M) := HT.out.below HB1.out
  have HL1 : Hid (y1.heap[w.heap.size]? = some (.cells #[.int .i64 (n : Int), .int .u64 p0, .int .u64 p1, .int .u64 p2, .int .u64 p3, .int .u64 p4, .int .u64 p5, .int .u64 p6] 26 (0, 0))) := (HB1.out.block _ hLlt).trans HL.out
  have HBW : Hid (Below w.heap.size w y1) := HB.out.trans (HB1.out.mono (Nat.le_of_lt hLlt))
  have d0 : ∀ o, y1.cell? ⟨w.heap.size, o, none⟩ = (#[.int .i64 (n : Int), .int .u64 p0, .int .u64 p1, .int .u64 p2, .int .u64 p3, .int .u64 p4, .int .u64 p5, .int .u64 p6] : Array Value)[o]? := fun o => cell_of_row _ _ _ _ _ _ HL1.out
  clear hH0 hH1 HB1 HT HL HB HW HSK HCK hLlt hblt
  go_wp2_with fail
  refine (HFI.out y1 HT1.out).mono ?_
  rintro e y2 ⟨rfl, hb⟩
  have HB2 : Hid (Below w.heap.size w y2) := go_on HBW.out hb
  have HT2 : Hid (RT base y2 rb n vd M) := HT1.out.below hb
  have HL2 : Hid (y2.heap[w.heap.size]? = some (.cells #[.int .i64 (n : Int), .int .u64 p0, .int .u64 p1, .int .u64 p2, .int .u64 p3, .int .u64 p4, .int .u64 p5, .int .u64 p6] 26 (0, 0))) := (hb.block _ (Array.getElem?_eq_some_iff.1 HL1.out).1).trans HL1.out
  clear hb d0 HT1 HL1 HBW HFI
  subst hy
  clear h
  go_wp2_with fail
  go_ret3
  exact ⟨rfl, HB2.out⟩

set_option maxHeartbeats 4000000 in
set_option maxRecDepth 100000 in
theorem rtput_full {base : Nat} {w : World} {rb n : Nat} {vd : Value} {M : List (List Nat)} (h : RT base w rb n vd M) {l : List Nat} (hl : Tf l) (hn : l.length = n) {x : Nat} {q : Bool} (hq : FQ M (l.length : Int) (pk (im l) l.length) x q) (hy : q = false) (hf : M.length = 512) :
    Calls Try.prog 53 #[.pointer (some ⟨rb, 0, none⟩), .agg (tC l)] w (fun e w' => e = .returned (.tuple #[.int .i64 0, .bool false, .int .i64 2]) ∧ Below w.heap.size w w') := by
  have HCK : Hid (∀ y, Calls Try.prog 12 #[.agg (tC l)] y fun e w' => e = .returned (.int .i64 0) ∧ Below y.heap.size y w') := fun y => rcheck_ok l hl y
  have HFI : Hid (∀ y, RT base y rb n vd M → Calls Try.prog 55 #[.pointer (some ⟨rb, 0, none⟩), .agg (tC l)] y fun e w' => e = .returned (.tuple #[.int .i64 (x : Nat), .bool q]) ∧ Below y.heap.size y w') := fun y hy => rtfind_any hy _ _ hq
  obtain ⟨p0, p1, p2, p3, p4, p5, p6, hcs⟩ : ∃ p0 p1 p2 p3 p4 p5 p6 : Int, tC l = #[.int .i64 (n : Int), .int .u64 p0, .int .u64 p1, .int .u64 p2, .int .u64 p3, .int .u64 p4, .int .u64 p5, .int .u64 p6] := ⟨_, _, _, _, _, _, _, by subst hn; rfl⟩
  have HLC : Hid (tC l = #[.int .i64 (n : Int), .int .u64 p0, .int .u64 p1, .int .u64 p2, .int .u64 p3, .int .u64 p4, .int .u64 p5, .int .u64 p6]) := hcs
  have HTF : Hid (Tf l ∧ l.length = n) := ⟨hl, hn⟩
  rw [hcs] at HCK HFI ⊢
  obtain ⟨w0, hw0⟩ : ∃ w0, w0 = w.alloc (.cells #[.int .i64 (n : Int), .int .u64 p0, .int .u64 p1, .int .u64 p2, .int .u64 p3, .int .u64 p4, .int .u64 p5, .int .u64 p6] 26) := ⟨_, rfl⟩
  have hb0 : Below w.heap.size w w0 := by rw [hw0]; exact below_new _ _
  have HT : Hid (RT base w0 rb n vd M) := h.below hb0
  have HL : Hid (w0.heap[w.heap.size]? = some (.cells #[.int .i64 (n : Int), .int .u64 p0, .int .u64 p1, .int .u64 p2, .int .u64 p3, .int .u64 p4, .int .u64 p5, .int .u64 p6] 26 (0, 0))) := by show _ = _; rw [hw0]; exact heap_last _ _
  have HB : Hid (Below w.heap.size w w0) := hb0
  have HW : Hid (w0 = w.alloc (.cells #[.int .i64 (n : Int), .int .u64 p0, .int .u64 p1, .int .u64 p2, .int .u64 p3, .int .u64 p4, .int .u64 p5, .int .u64 p6] 26)) := hw0
  have hLlt : w.heap.size < w0.heap.size := (Array.getElem?_eq_some_iff.1 HL.out).1
  have hblt : rb < w0.heap.size := (Array.getElem?_eq_some_iff.1 HT.out.box).1
  have HSK : Hid (∀ y z, ((∀ o, y.cell? ⟨w.heap.size, o, none⟩ = (#[.int .i64 (n : Int), .int .u64 p0, .int .u64 p1, .int .u64 p2, .int .u64 p3, .int .u64 p4, .int .u64 p5, .int .u64 p6] : Array Value)[o]?) ∧ y.cell? ⟨rb, 0, none⟩ = some (.int .i64 (n : Int)) ∧ Below w0.heap.size w0 y) → Below y.heap.size y z → ((∀ o, z.cell? ⟨w.heap.size, o, none⟩ = (#[.int .i64 (n : Int), .int .u64 p0, .int .u64 p1, .int .u64 p2, .int .u64 p3, .int .u64 p4, .int .u64 p5, .int .u64 p6] : Array Value)[o]?) ∧ z.cell? ⟨rb, 0, none⟩ = some (.int .i64 (n : Int)) ∧ Below w0.heap.size w0 z)) := fun y z hy hz => by
    have h3 := hy.2.2.size
    exact ⟨fun o => by rw [below_cellJ hz (by omega)]; exact hy.1 o, by rw [below_cellJ hz (by omega)]; exact hy.2.1, go_on hy.2.2 hz⟩
  have S0 : (∀ o, w0.drew.cell? ⟨w.heap.size, o, none⟩ = (#[.int .i64 (n : Int), .int .u64 p0, .int .u64 p1, .int .u64 p2, .int .u64 p3, .int .u64 p4, .int .u64 p5, .int .u64 p6] : Array Value)[o]?) ∧ w0.drew.cell? ⟨rb, 0, none⟩ = some (.int .i64 (n : Int)) ∧ Below w0.heap.size w0 w0.drew := ⟨fun o => cell_of_row _ _ _ _ _ _ HL.out, cell_at HT.out.box rfl, (Below.refl _ _).drew⟩
  have he := fun W => eq_rnil ⟨rb, 0, none⟩ W
  have HQ : Hid (FQ M (l.length : Int) (pk (im l) l.length) x q) := hq
  clear hw0 hb0 hl hn hcs hq
  go_enter Try.func53, Try.ntmps53
  go_wp2_with fail
  rw [← HW.out]
  refine wp_region_held_drew (S := fun y => (∀ o, y.cell? ⟨w.heap.size, o, none⟩ = (#[.int .i64 (n : Int), .int .u64 p0, .int .u64 p1, .int .u64 p2, .int .u64 p3, .int .u64 p4, .int .u64 p5, .int .u64 p6] : Array Value)[o]?) ∧ y.cell? ⟨rb, 0, none⟩ = some (.int .i64 (n : Int)) ∧ Below w0.heap.size w0 y) (by kernel_rfl) S0 (fun hH0 => ?_)
  clear S0
  refine wpAnyH_take (i := 0) (oi := { dst := some 11, op := Go.Op.load 26 (Go.Operand.tmp 3), type := 26, pos := "ref.go:309", after := #[], guard := none }) (v := .agg #[.int .i64 (n : Int), .int .u64 p0, .int .u64 p1, .int .u64 p2, .int .u64 p3, .int .u64 p4, .int .u64 p5, .int .u64 p6]) rfl (by kernel_rfl) (by kernel_rfl) (by kernel_rfl) (fun _ _ _ h => h) (Or.inl ⟨by rfl, ?_⟩) (by assumption) ?_
  · intro w' hS; obtain ⟨hz, hz1, hz2⟩ := hS; go_simp
  simp only [Act.put, List.setIfInBounds_toArray, List.set_cons_zero, List.set_cons_succ]
  refine wpAnyH_ready (rs := [1]) (by kernel_rfl) (by simp) ?_
  refine AllReadyH.cons rfl (fun K hK => ?_) AllReadyH.nil
  go_simp
  refine Calls.mono (HCK.out _) ?_
  rintro e y1 ⟨rfl, hy1⟩
  have hN := HSK.out _ _ hH0 hy1
  clear hy1
  go_wp2_with fail
  refine hK.out _ _ hN (fun hH1 => ?_)
  clear hN
  clear hK K
  refine wpAnyH_take (i := 2) (oi := { dst := some 13, op := Go.Op.binOp Go.BinOp.neq 3 (Go.Operand.tmp 12) (Go.Operand.const (Go.Value.int Go.IntKind.i64 0)) 3, type := 4, pos := "ref.go:309", after := #[{ on := 1, ground := Go.Ground.data }], guard := none }) (v := ?_) rfl (by kernel_rfl) (by kernel_rfl) (by kernel_rfl) (fun _ _ _ h => h) (Or.inl ⟨by rfl, ?_⟩) (by assumption) ?_
  rotate_left
  · intro w' hS; go_simp; (try with_reducible rfl)
  simp only [Act.put, List.setIfInBounds_toArray, List.set_cons_zero, List.set_cons_succ]
  refine wpAnyH_take (i := 3) (oi := { dst := some 14, op := Go.Op.move (Go.Operand.tmp 13), type := 4, pos := "ref.go:309", after := #[{ on := 2, ground := Go.Ground.data }, { on := 1, ground := Go.Ground.chain }], guard := none }) (v := ?_) rfl (by kernel_rfl) (by kernel_rfl) (by kernel_rfl) (fun _ _ _ h => h) (Or.inl ⟨by rfl, ?_⟩) (by assumption) ?_
  rotate_left
  · intro w' hS; go_simp; (try with_reducible rfl)
  simp only [Act.put, List.setIfInBounds_toArray, List.set_cons_zero, List.set_cons_succ]
  refine wpAnyH_take (i := 4) (oi := { dst := some 15, op := Go.Op.fieldAddr 26 (Go.Operand.tmp 3) 0, type := 0, pos := "ref.go:309", after := #[{ on := 3, ground := Go.Ground.guard }], guard := some (3, false) }) (v := ?_) rfl (by kernel_rfl) (by kernel_rfl) (by kernel_rfl) (fun _ _ _ h => h) (Or.inl ⟨by rfl, ?_⟩) (by assumption) ?_
  rotate_left
  · intro w' hS; go_simp; (try with_reducible rfl)
  simp only [Act.put, List.setIfInBounds_toArray, List.set_cons_zero, List.set_cons_succ]
  refine wpAnyH_take (i := 5) (oi := { dst := some 16, op := Go.Op.load 3 (Go.Operand.tmp 15), type := 3, pos := "ref.go:309", after := #[{ on := 4, ground := Go.Ground.data }, { on := 3, ground := Go.Ground.guard }], guard := some (3, false) }) (v := .int .i64 (n : Int)) rfl (by kernel_rfl) (by kernel_rfl) (by kernel_rfl) (fun _ _ _ h => h) (Or.inl ⟨by rfl, ?_⟩) (by assumption) ?_
  · intro w' hS; obtain ⟨hz, hz1, hz2⟩ := hS; go_simp
  simp only [Act.put, List.setIfInBounds_toArray, List.set_cons_zero, List.set_cons_succ]
  refine wpAnyH_take (i := 6) (oi := { dst := some 17, op := Go.Op.move (Go.Operand.tmp 0), type := 68, pos := "ref.go:309", after := #[{ on := 3, ground := Go.Ground.guard }], guard := some (3, false) }) (v := ?_) rfl (by kernel_rfl) (by kernel_rfl) (by kernel_rfl) (fun _ _ _ h => h) (Or.inl ⟨by rfl, ?_⟩) (by assumption) ?_
  rotate_left
  · intro w' hS; go_simp; (try with_reducible rfl)
  simp only [Act.put, List.setIfInBounds_toArray, List.set_cons_zero, List.set_cons_succ]
  refine wpAnyH_take (i := 7) (oi := { dst := some 18, op := Go.Op.nilCheck (Go.Operand.tmp 17), type := 0, pos := "ref.go:309", after := #[{ on := 6, ground := Go.Ground.data }, { on := 3, ground := Go.Ground.guard }], guard := some (3, false) }) (v := ?_) rfl (by kernel_rfl) (by kernel_rfl) (by kernel_rfl) (fun _ _ _ h => h) (Or.inl ⟨by rfl, ?_⟩) (by assumption) ?_
  rotate_left
  · intro w' hS; go_simp; (try with_reducible rfl)
  simp only [Act.put, List.setIfInBounds_toArray, List.set_cons_zero, List.set_cons_succ]
  refine wpAnyH_take (i := 8) (oi := { dst := some 19, op := Go.Op.fieldAddr 104 (Go.Operand.tmp 18) 0, type := 0, pos := "ref.go:309", after := #[{ on := 7, ground := Go.Ground.data }, { on := 3, ground := Go.Ground.guard }], guard := some (3, false) }) (v := ?_) rfl (by kernel_rfl) (by kernel_rfl) (by kernel_rfl) (fun _ _ _ h => h) (Or.inl ⟨by rfl, ?_⟩) (by assumption) ?_
  rotate_left
  · intro w' hS; go_simp; (try with_reducible rfl)
  simp only [Act.put, List.setIfInBounds_toArray, List.set_cons_zero, List.set_cons_succ]
  refine wpAnyH_take (i := 9) (oi := { dst := some 20, op := Go.Op.load 3 (Go.Operand.tmp 19), type := 3, pos := "ref.go:309", after := #[{ on := 8, ground := Go.Ground.data }, { on := 3, ground := Go.Ground.guard }], guard := some (3, false) }) (v := .int .i64 (n : Int)) rfl (by kernel_rfl) (by kernel_rfl) (by kernel_rfl) (fun _ _ _ h => h) (Or.inl ⟨by rfl, ?_⟩) (by assumption) ?_
  · intro w' hS; obtain ⟨hz, hz1, hz2⟩ := hS; go_simp
  simp only [Act.put, List.setIfInBounds_toArray, List.set_cons_zero, List.set_cons_succ]
  refine wpAnyH_take (i := 10) (oi := { dst := some 21, op := Go.Op.binOp Go.BinOp.neq 3 (Go.Operand.tmp 16) (Go.Operand.tmp 20) 3, type := 4, pos := "ref.go:309", after := #[{ on := 5, ground := Go.Ground.data }, { on := 9, ground := Go.Ground.data }, { on := 3, ground := Go.Ground.guard }], guard := some (3, false) }) (v := ?_) rfl (by kernel_rfl) (by kernel_rfl) (by kernel_rfl) (fun _ _ _ h => h) (Or.inl ⟨by rfl, ?_⟩) (by assumption) ?_
  rotate_left
  · intro w' hS; go_simp; (try with_reducible rfl)
  simp only [Act.put, List.setIfInBounds_toArray, List.set_cons_zero, List.set_cons_succ]
  refine wpAnyH_take (i := 11) (oi := { dst := some 22, op := Go.Op.pick (Go.Operand.tmp 14) (Go.Operand.const (Go.Value.bool true)) (Go.Operand.tmp 21), type := 4, pos := "ref.go:309", after := #[{ on := 3, ground := Go.Ground.data }, { on := 10, ground := Go.Ground.data }], guard := none }) (v := ?_) rfl (by kernel_rfl) (by kernel_rfl) (by kernel_rfl) (fun _ _ _ h => h) (Or.inl ⟨by rfl, ?_⟩) (by assumption) ?_
  rotate_left
  · intro w' hS; go_simp; (try with_reducible rfl)
  simp only [Act.put, List.setIfInBounds_toArray, List.set_cons_zero, List.set_cons_succ]
  refine wpAnyH_done (by kernel_rfl) ?_ _

  have HB1 : Hid (Below w0.heap.size w0 y1) := hH1.2.2
  have HT1 : Hid (RT base y1 rb n vd M) := HT.out.below HB1.out
  have HL1 : Hid (y1.heap[w.heap.size]? = some (.cells #[.int .i64 (n : Int), .int .u64 p0, .int .u64 p1, .int .u64 p2, .int .u64 p3, .int .u64 p4, .int .u64 p5, .int .u64 p6] 26 (0, 0))) := (HB1.out.block _ hLlt).trans HL.out
  have HBW : Hid (Below w.heap.size w y1) := HB.out.trans (HB1.out.mono (Nat.le_of_lt hLlt))
  have d0 : ∀ o, y1.cell? ⟨w.heap.size, o, none⟩ = (#[.int .i64 (n : Int), .int .u64 p0, .int .u64 p1, .int .u64 p2, .int .u64 p3, .int .u64 p4, .int .u64 p5, .int .u64 p6] : Array Value)[o]? := fun o => cell_of_row _ _ _ _ _ _ HL1.out
  clear hH0 hH1 HB1 HT HL HB HW HSK HCK hLlt hblt
  go_wp2_with fail
  refine (HFI.out y1 HT1.out).mono ?_
  rintro e y2 ⟨rfl, hb⟩
  have HB2 : Hid (Below w.heap.size w y2) := go_on HBW.out hb
  have HT2 : Hid (RT base y2 rb n vd M) := HT1.out.below hb
  have HL2 : Hid (y2.heap[w.heap.size]? = some (.cells #[.int .i64 (n : Int), .int .u64 p0, .int .u64 p1, .int .u64 p2, .int .u64 p3, .int .u64 p4, .int .u64 p5, .int .u64 p6] 26 (0, 0))) := (hb.block _ (Array.getElem?_eq_some_iff.1 HL1.out).1).trans HL1.out
  clear hb d0 HT1 HL1 HBW HFI
  subst hy
  obtain ⟨a, cap, rfl⟩ := own_shape HT2.out.row
  have t1 : y2.cell? ⟨rb, 1, none⟩ = some (.slice a M.length cap) := cell_at HT2.out.box rfl
  rw [hf] at t1
  clear h
  go_wp2_with fail
  go_ret3
  exact ⟨rfl, HB2.out⟩

set_option maxHeartbeats 4000000 in
set_option maxRecDepth 100000 in
theorem rtput_new {base : Nat} {w : World} {rb n : Nat} {vd : Value} {M : List (List Nat)} (h : RT base w rb n vd M) {l : List Nat} (hl : Tf l) (hn : l.length = n) {x : Nat} {q : Bool} (hq : FQ M (l.length : Int) (pk (im l) l.length) x q) (hy : q = false) (hf : M.length < 512) :
    Calls Try.prog 53 #[.pointer (some ⟨rb, 0, none⟩), .agg (tC l)] w (RtN base rb n vd M l w) := by
  have HCK : Hid (∀ y, Calls Try.prog 12 #[.agg (tC l)] y fun e w' => e = .returned (.int .i64 0) ∧ Below y.heap.size y w') := fun y => rcheck_ok l hl y
  have HFI : Hid (∀ y, RT base y rb n vd M → Calls Try.prog 55 #[.pointer (some ⟨rb, 0, none⟩), .agg (tC l)] y fun e w' => e = .returned (.tuple #[.int .i64 (x : Nat), .bool q]) ∧ Below y.heap.size y w') := fun y hy => rtfind_any hy _ _ hq
  obtain ⟨p0, p1, p2, p3, p4, p5, p6, hcs⟩ : ∃ p0 p1 p2 p3 p4 p5 p6 : Int, tC l = #[.int .i64 (n : Int), .int .u64 p0, .int .u64 p1, .int .u64 p2, .int .u64 p3, .int .u64 p4, .int .u64 p5, .int .u64 p6] := ⟨_, _, _, _, _, _, _, by subst hn; rfl⟩
  have HLC : Hid (tC l = #[.int .i64 (n : Int), .int .u64 p0, .int .u64 p1, .int .u64 p2, .int .u64 p3, .int .u64 p4, .int .u64 p5, .int .u64 p6]) := hcs
  have HTF : Hid (Tf l ∧ l.length = n) := ⟨hl, hn⟩
  rw [hcs] at HCK HFI ⊢
  obtain ⟨w0, hw0⟩ : ∃ w0, w0 = w.alloc (.cells #[.int .i64 (n : Int), .int .u64 p0, .int .u64 p1, .int .u64 p2, .int .u64 p3, .int .u64 p4, .int .u64 p5, .int .u64 p6] 26) := ⟨_, rfl⟩
  have hb0 : Below w.heap.size w w0 := by rw [hw0]; exact below_new _ _
  have HT : Hid (RT base w0 rb n vd M) := h.below hb0
  have HL : Hid (w0.heap[w.heap.size]? = some (.cells #[.int .i64 (n : Int), .int .u64 p0, .int .u64 p1, .int .u64 p2, .int .u64 p3, .int .u64 p4, .int .u64 p5, .int .u64 p6] 26 (0, 0))) := by show _ = _; rw [hw0]; exact heap_last _ _
  have HB : Hid (Below w.heap.size w w0) := hb0
  have HW : Hid (w0 = w.alloc (.cells #[.int .i64 (n : Int), .int .u64 p0, .int .u64 p1, .int .u64 p2, .int .u64 p3, .int .u64 p4, .int .u64 p5, .int .u64 p6] 26)) := hw0
  have hLlt : w.heap.size < w0.heap.size := (Array.getElem?_eq_some_iff.1 HL.out).1
  have hblt : rb < w0.heap.size := (Array.getElem?_eq_some_iff.1 HT.out.box).1
  have HSK : Hid (∀ y z, ((∀ o, y.cell? ⟨w.heap.size, o, none⟩ = (#[.int .i64 (n : Int), .int .u64 p0, .int .u64 p1, .int .u64 p2, .int .u64 p3, .int .u64 p4, .int .u64 p5, .int .u64 p6] : Array Value)[o]?) ∧ y.cell? ⟨rb, 0, none⟩ = some (.int .i64 (n : Int)) ∧ Below w0.heap.size w0 y) → Below y.heap.size y z → ((∀ o, z.cell? ⟨w.heap.size, o, none⟩ = (#[.int .i64 (n : Int), .int .u64 p0, .int .u64 p1, .int .u64 p2, .int .u64 p3, .int .u64 p4, .int .u64 p5, .int .u64 p6] : Array Value)[o]?) ∧ z.cell? ⟨rb, 0, none⟩ = some (.int .i64 (n : Int)) ∧ Below w0.heap.size w0 z)) := fun y z hy hz => by
    have h3 := hy.2.2.size
    exact ⟨fun o => by rw [below_cellJ hz (by omega)]; exact hy.1 o, by rw [below_cellJ hz (by omega)]; exact hy.2.1, go_on hy.2.2 hz⟩
  have S0 : (∀ o, w0.drew.cell? ⟨w.heap.size, o, none⟩ = (#[.int .i64 (n : Int), .int .u64 p0, .int .u64 p1, .int .u64 p2, .int .u64 p3, .int .u64 p4, .int .u64 p5, .int .u64 p6] : Array Value)[o]?) ∧ w0.drew.cell? ⟨rb, 0, none⟩ = some (.int .i64 (n : Int)) ∧ Below w0.heap.size w0 w0.drew := ⟨fun o => cell_of_row _ _ _ _ _ _ HL.out, cell_at HT.out.box rfl, (Below.refl _ _).drew⟩
  have he := fun W => eq_rnil ⟨rb, 0, none⟩ W
  have HQ : Hid (FQ M (l.length : Int) (pk (im l) l.length) x q) := hq
  clear hw0 hb0 hl hn hcs hq
  go_enter Try.func53, Try.ntmps53
  go_wp2_with fail
  rw [← HW.out]
  refine wp_region_held_drew (S := fun y => (∀ o, y.cell? ⟨w.heap.size, o, none⟩ = (#[.int .i64 (n : Int), .int .u64 p0, .int .u64 p1, .int .u64 p2, .int .u64 p3, .int .u64 p4, .int .u64 p5, .int .u64 p6] : Array Value)[o]?) ∧ y.cell? ⟨rb, 0, none⟩ = some (.int .i64 (n : Int)) ∧ Below w0.heap.size w0 y) (by kernel_rfl) S0 (fun hH0 => ?_)
  clear S0
  refine wpAnyH_take (i := 0) (oi := { dst := some 11, op := Go.Op.load 26 (Go.Operand.tmp 3), type := 26, pos := "ref.go:309", after := #[], guard := none }) (v := .agg #[.int .i64 (n : Int), .int .u64 p0, .int .u64 p1, .int .u64 p2, .int .u64 p3, .int .u64 p4, .int .u64 p5, .int .u64 p6]) rfl (by kernel_rfl) (by kernel_rfl) (by kernel_rfl) (fun _ _ _ h => h) (Or.inl ⟨by rfl, ?_⟩) (by assumption) ?_
  · intro w' hS; obtain ⟨hz, hz1, hz2⟩ := hS; go_simp
  simp only [Act.put, List.setIfInBounds_toArray, List.set_cons_zero, List.set_cons_succ]
  refine wpAnyH_ready (rs := [1]) (by kernel_rfl) (by simp) ?_
  refine AllReadyH.cons rfl (fun K hK => ?_) AllReadyH.nil
  go_simp
  refine Calls.mono (HCK.out _) ?_
  rintro e y1 ⟨rfl, hy1⟩
  have hN := HSK.out _ _ hH0 hy1
  clear hy1
  go_wp2_with fail
  refine hK.out _ _ hN (fun hH1 => ?_)
  clear hN
  clear hK K
  refine wpAnyH_take (i := 2) (oi := { dst := some 13, op := Go.Op.binOp Go.BinOp.neq 3 (Go.Operand.tmp 12) (Go.Operand.const (Go.Value.int Go.IntKind.i64 0)) 3, type := 4, pos := "ref.go:309", after := #[{ on := 1, ground := Go.Ground.data }], guard := none }) (v := ?_) rfl (by kernel_rfl) (by kernel_rfl) (by kernel_rfl) (fun _ _ _ h => h) (Or.inl ⟨by rfl, ?_⟩) (by assumption) ?_
  rotate_left
  · intro w' hS; go_simp; (try with_reducible rfl)
  simp only [Act.put, List.setIfInBounds_toArray, List.set_cons_zero, List.set_cons_succ]
  refine wpAnyH_take (i := 3) (oi := { dst := some 14, op := Go.Op.move (Go.Operand.tmp 13), type := 4, pos := "ref.go:309", after := #[{ on := 2, ground := Go.Ground.data }, { on := 1, ground := Go.Ground.chain }], guard := none }) (v := ?_) rfl (by kernel_rfl) (by kernel_rfl) (by kernel_rfl) (fun _ _ _ h => h) (Or.inl ⟨by rfl, ?_⟩) (by assumption) ?_
  rotate_left
  · intro w' hS; go_simp; (try with_reducible rfl)
  simp only [Act.put, List.setIfInBounds_toArray, List.set_cons_zero, List.set_cons_succ]
  refine wpAnyH_take (i := 4) (oi := { dst := some 15, op := Go.Op.fieldAddr 26 (Go.Operand.tmp 3) 0, type := 0, pos := "ref.go:309", after := #[{ on := 3, ground := Go.Ground.guard }], guard := some (3, false) }) (v := ?_) rfl (by kernel_rfl) (by kernel_rfl) (by kernel_rfl) (fun _ _ _ h => h) (Or.inl ⟨by rfl, ?_⟩) (by assumption) ?_
  rotate_left
  · intro w' hS; go_simp; (try with_reducible rfl)
  simp only [Act.put, List.setIfInBounds_toArray, List.set_cons_zero, List.set_cons_succ]
  refine wpAnyH_take (i := 5) (oi := { dst := some 16, op := Go.Op.load 3 (Go.Operand.tmp 15), type := 3, pos := "ref.go:309", after := #[{ on := 4, ground := Go.Ground.data }, { on := 3, ground := Go.Ground.guard }], guard := some (3, false) }) (v := .int .i64 (n : Int)) rfl (by kernel_rfl) (by kernel_rfl) (by kernel_rfl) (fun _ _ _ h => h) (Or.inl ⟨by rfl, ?_⟩) (by assumption) ?_
  · intro w' hS; obtain ⟨hz, hz1, hz2⟩ := hS; go_simp
  simp only [Act.put, List.setIfInBounds_toArray, List.set_cons_zero, List.set_cons_succ]
  refine wpAnyH_take (i := 6) (oi := { dst := some 17, op := Go.Op.move (Go.Operand.tmp 0), type := 68, pos := "ref.go:309", after := #[{ on := 3, ground := Go.Ground.guard }], guard := some (3, false) }) (v := ?_) rfl (by kernel_rfl) (by kernel_rfl) (by kernel_rfl) (fun _ _ _ h => h) (Or.inl ⟨by rfl, ?_⟩) (by assumption) ?_
  rotate_left
  · intro w' hS; go_simp; (try with_reducible rfl)
  simp only [Act.put, List.setIfInBounds_toArray, List.set_cons_zero, List.set_cons_succ]
  refine wpAnyH_take (i := 7) (oi := { dst := some 18, op := Go.Op.nilCheck (Go.Operand.tmp 17), type := 0, pos := "ref.go:309", after := #[{ on := 6, ground := Go.Ground.data }, { on := 3, ground := Go.Ground.guard }], guard := some (3, false) }) (v := ?_) rfl (by kernel_rfl) (by kernel_rfl) (by kernel_rfl) (fun _ _ _ h => h) (Or.inl ⟨by rfl, ?_⟩) (by assumption) ?_
  rotate_left
  · intro w' hS; go_simp; (try with_reducible rfl)
  simp only [Act.put, List.setIfInBounds_toArray, List.set_cons_zero, List.set_cons_succ]
  refine wpAnyH_take (i := 8) (oi := { dst := some 19, op := Go.Op.fieldAddr 104 (Go.Operand.tmp 18) 0, type := 0, pos := "ref.go:309", after := #[{ on := 7, ground := Go.Ground.data }, { on := 3, ground := Go.Ground.guard }], guard := some (3, false) }) (v := ?_) rfl (by kernel_rfl) (by kernel_rfl) (by kernel_rfl) (fun _ _ _ h => h) (Or.inl ⟨by rfl, ?_⟩) (by assumption) ?_
  rotate_left
  · intro w' hS; go_simp; (try with_reducible rfl)
  simp only [Act.put, List.setIfInBounds_toArray, List.set_cons_zero, List.set_cons_succ]
  refine wpAnyH_take (i := 9) (oi := { dst := some 20, op := Go.Op.load 3 (Go.Operand.tmp 19), type := 3, pos := "ref.go:309", after := #[{ on := 8, ground := Go.Ground.data }, { on := 3, ground := Go.Ground.guard }], guard := some (3, false) }) (v := .int .i64 (n : Int)) rfl (by kernel_rfl) (by kernel_rfl) (by kernel_rfl) (fun _ _ _ h => h) (Or.inl ⟨by rfl, ?_⟩) (by assumption) ?_
  · intro w' hS; obtain ⟨hz, hz1, hz2⟩ := hS; go_simp
  simp only [Act.put, List.setIfInBounds_toArray, List.set_cons_zero, List.set_cons_succ]
  refine wpAnyH_take (i := 10) (oi := { dst := some 21, op := Go.Op.binOp Go.BinOp.neq 3 (Go.Operand.tmp 16) (Go.Operand.tmp 20) 3, type := 4, pos := "ref.go:309", after := #[{ on := 5, ground := Go.Ground.data }, { on := 9, ground := Go.Ground.data }, { on := 3, ground := Go.Ground.guard }], guard := some (3, false) }) (v := ?_) rfl (by kernel_rfl) (by kernel_rfl) (by kernel_rfl) (fun _ _ _ h => h) (Or.inl ⟨by rfl, ?_⟩) (by assumption) ?_
  rotate_left
  · intro w' hS; go_simp; (try with_reducible rfl)
  simp only [Act.put, List.setIfInBounds_toArray, List.set_cons_zero, List.set_cons_succ]
  refine wpAnyH_take (i := 11) (oi := { dst := some 22, op := Go.Op.pick (Go.Operand.tmp 14) (Go.Operand.const (Go.Value.bool true)) (Go.Operand.tmp 21), type := 4, pos := "ref.go:309", after := #[{ on := 3, ground := Go.Ground.data }, { on := 10, ground := Go.Ground.data }], guard := none }) (v := ?_) rfl (by kernel_rfl) (by kernel_rfl) (by kernel_rfl) (fun _ _ _ h => h) (Or.inl ⟨by rfl, ?_⟩) (by assumption) ?_
  rotate_left
  · intro w' hS; go_simp; (try with_reducible rfl)
  simp only [Act.put, List.setIfInBounds_toArray, List.set_cons_zero, List.set_cons_succ]
  refine wpAnyH_done (by kernel_rfl) ?_ _

  have HB1 : Hid (Below w0.heap.size w0 y1) := hH1.2.2
  have HT1 : Hid (RT base y1 rb n vd M) := HT.out.below HB1.out
  have HL1 : Hid (y1.heap[w.heap.size]? = some (.cells #[.int .i64 (n : Int), .int .u64 p0, .int .u64 p1, .int .u64 p2, .int .u64 p3, .int .u64 p4, .int .u64 p5, .int .u64 p6] 26 (0, 0))) := (HB1.out.block _ hLlt).trans HL.out
  have HBW : Hid (Below w.heap.size w y1) := HB.out.trans (HB1.out.mono (Nat.le_of_lt hLlt))
  have d0 : ∀ o, y1.cell? ⟨w.heap.size, o, none⟩ = (#[.int .i64 (n : Int), .int .u64 p0, .int .u64 p1, .int .u64 p2, .int .u64 p3, .int .u64 p4, .int .u64 p5, .int .u64 p6] : Array Value)[o]? := fun o => cell_of_row _ _ _ _ _ _ HL1.out
  clear hH0 hH1 HB1 HT HL HB HW HSK HCK hLlt hblt
  go_wp2_with fail
  refine (HFI.out y1 HT1.out).mono ?_
  rintro e y2 ⟨rfl, hb⟩
  have HB2 : Hid (Below w.heap.size w y2) := go_on HBW.out hb
  have HT2 : Hid (RT base y2 rb n vd M) := HT1.out.below hb
  have HL2 : Hid (y2.heap[w.heap.size]? = some (.cells #[.int .i64 (n : Int), .int .u64 p0, .int .u64 p1, .int .u64 p2, .int .u64 p3, .int .u64 p4, .int .u64 p5, .int .u64 p6] 26 (0, 0))) := (hb.block _ (Array.getElem?_eq_some_iff.1 HL1.out).1).trans HL1.out
  clear hb d0 HT1 HL1 HBW HFI
  subst hy
  obtain ⟨a, cap, rfl⟩ := own_shape HT2.out.row
  obtain ⟨i0, hi, hz0, hz1, hz2⟩ := info_parts Try.info_trL
  have t1 : y2.cell? ⟨rb, 1, none⟩ = some (.slice a M.length cap) := cell_at HT2.out.box rfl
  have hfe : ((M.length : Int) == 512) = false := by rw [beq_eq_false_iff_ne]; omega
  have hfd : decide ((M.length : Int) = 512) = false := decide_eq_false (by omega)
  have hfd2 : decide (M.length = 512) = false := decide_eq_false (by omega)
  clear h
  go_wp2_with fail
  clear t1
  have hml : M.length < 512 := hf
  have d0 : y2.drew.cell? ⟨w.heap.size, 0, none⟩ = some (.int .i64 (n : Int)) := cell_at HL2.out rfl
  have d1 : y2.drew.cell? ⟨w.heap.size, 1, none⟩ = some (.int .u64 p0) := cell_at HL2.out rfl
  have d2 : y2.drew.cell? ⟨w.heap.size, 2, none⟩ = some (.int .u64 p1) := cell_at HL2.out rfl
  have d3 : y2.drew.cell? ⟨w.heap.size, 3, none⟩ = some (.int .u64 p2) := cell_at HL2.out rfl
  have d4 : y2.drew.cell? ⟨w.heap.size, 4, none⟩ = some (.int .u64 p3) := cell_at HL2.out rfl
  have d5 : y2.drew.cell? ⟨w.heap.size, 5, none⟩ = some (.int .u64 p4) := cell_at HL2.out rfl
  have d6 : y2.drew.cell? ⟨w.heap.size, 6, none⟩ = some (.int .u64 p5) := cell_at HL2.out rfl
  have d7 : y2.drew.cell? ⟨w.heap.size, 7, none⟩ = some (.int .u64 p6) := cell_at HL2.out rfl
  have t3 : y2.drew.cell? ⟨rb, 1, none⟩ = some (.slice a M.length cap) := cell_at HT2.out.box rfl
  have t3a : ∀ O, (y2.alloc O).drew.cell? ⟨rb, 1, none⟩ = some (.slice a M.length cap) := fun O => by have := below_cellJ (o := 1) (below_new y2 O) (Array.getElem?_eq_some_iff.1 HT2.out.box).1; exact this.trans t3
  have HR5 : Hid (∀ O, (y2.alloc O).drew.ownsRow base 26 8 (.slice a M.length cap) M.length (tCs M)) := fun O => HT2.out.row.alloc O
  have KN : Hid (∀ (j : Nat) (u : Value), (tC l).toList[j]? = some u → (y2.alloc (.cells #[.int .i64 (n : Int), .int .u64 p0, .int .u64 p1, .int .u64 p2, .int .u64 p3, .int .u64 p4, .int .u64 p5, .int .u64 p6] 26)).drew.cell? ((⟨y2.heap.size, 0, none⟩ : Addr).add j) = some u) := fun j u hu => by
    have hadd : (⟨y2.heap.size, 0, none⟩ : Addr).add j = ⟨y2.heap.size, j, none⟩ := by unfold Addr.add; split <;> simp_all
    rw [hadd]
    refine cell_at (heap_last y2 _) ?_
    rw [HLC.out] at hu
    simpa using hu
  have hb5 : base ≤ y2.heap.size := by have h1 := HT2.out.lob; have h2 := (Array.getElem?_eq_some_iff.1 HT2.out.box).1; omega
  have HNW : Hid (∀ (g7 c7 : Nat) (w7 : World) (o : Obj), w7.ownsRow base 26 8 (.slice (some ⟨g7, 0, none⟩) (M.length + 1) c7) (M.length + 1) (tCs M ++ (tC l).toList) → (y2.drew.alloc o).grownBy w7 (Value.slice a M.length cap).ownBlock → _) := fun g7 c7 w7 o ho hg => (HT2.out.below (Below.refl _ _).drew).new HTF.out.1 HTF.out.2 hf ho hg
  have HDR : Hid (∀ o, (y2.drew.alloc o).heap.size = y2.heap.size + 1) := fun o => by simp
  have hw1 : IntKind.i64.wrap ((M.length + 1 : Nat) - 1 : Int) = (M.length : Nat) := by rw [IntKind.wrap_i64]; omega
  have hw2 : IntKind.i64.wrap ((M.length : Int) + 1 - 1) = (M.length : Nat) := by rw [IntKind.wrap_i64]; omega
  clear hfe hfd hfd2
  go_region_law (rw [if_pos (by rfl)]; refine wp_append_lies _ _ _ 100 rfl base 26 i0 (.agg (trC 0 fun _ => 0)) 8 64 Try.underlying100 hi hz0 hz1 hz2 rfl (by decide) _ _ _ rfl (HR5.out _) ⟨y2.heap.size, 0, none⟩ 1 1 (tC l).toList rfl rfl KN.out (by intro u hu; exact (Array.all_eq_true_iff_forall_mem.1 (tC_one l)) u (by simpa using hu)) (by decide) (by unfold maxLen; omega) (by omega) (by simp; omega) (y2.drew.alloc (.cells #[.int .i64 (n : Int), .int .u64 p0, .int .u64 p1, .int .u64 p2, .int .u64 p3, .int .u64 p4, .int .u64 p5, .int .u64 p6] 26)).heap.size rfl ?_; intro g7 c7 w7 ho7 hg7 hl7 _; have hgr : (y2.drew.alloc (.cells #[.int .i64 (n : Int), .int .u64 p0, .int .u64 p1, .int .u64 p2, .int .u64 p3, .int .u64 p4, .int .u64 p5, .int .u64 p6] 26)).grownBy w7 (Value.slice a M.length cap).ownBlock := hg7; have hN7 := HNW.out g7 c7 w7 (.cells #[.int .i64 (n : Int), .int .u64 p0, .int .u64 p1, .int .u64 p2, .int .u64 p3, .int .u64 p4, .int .u64 p5, .int .u64 p6] 26) ho7 hgr; have hcs : w7.cell? ⟨rb, 1, none⟩ = some (.slice a M.length cap) := cell_at hN7.1 rfl; have hfz : w7.frozen? ⟨rb, 1, none⟩ = false := frozen_blk hN7.1 1; have hc2 : (w7.setCell ⟨rb, 1, none⟩ (.slice (some ⟨g7, 0, none⟩) (M.length + 1) c7)).cell? ⟨rb, 1, none⟩ = some (.slice (some ⟨g7, 0, none⟩) (M.length + 1) c7) := cell_at hN7.2.1.box rfl; have HN7 : Hid _ := hN7.2; have HL7 : Hid ((Value.slice a M.length cap).ownBlock = some g7 ∨ g7 = y2.heap.size + 1) := (by rcases hl7 with q | q; exact .inl q; exact .inr (q.trans (HDR.out _))); clear hN7 ho7 hg7 hl7 hgr)
  all_goals (
    go_wp2_with fail
    go_ret3
    refine ⟨_, rfl, HN7.out.1, (Only.of HB2.out.drew).trans HN7.out.2, ?_⟩
    rcases HL7.out with q | q
    · exact .inl q.symm
    · exact .inr ⟨g7, rfl, by have := HB2.out.size; omega⟩)
end Go.Proofs.Ytihjhkbbpphocaa
