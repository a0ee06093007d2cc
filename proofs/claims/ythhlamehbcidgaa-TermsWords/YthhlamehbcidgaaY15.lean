/- terms.Print. -/
import Derived.Test.YthhlamehbcidgaaY14
namespace Go.Proofs.Ythhlamehbcidgaa
open Go Go.RowKit Go.Lib
set_option linter.unusedVariables false

def btw (x : Bool) : ByteArray := if x then ⟨#[32, 60, 61, 32]⟩ else ⟨#[32, 61, 32]⟩
def prV (O : ByteArray) : Value := if O.size ≤ 1000 then .tuple #[.string O, .int .i64 0] else .tuple #[.string ⟨#[]⟩, .int .i64 6]

set_option maxHeartbeats 4000000 in
set_option maxRecDepth 100000 in
theorem print_ok (L R : Sg) (x : Bool) (hck : ck2 (intS L) (intS R) = 0) (f g : Nat) (p q : Pc) (m k : Nat) (hp : nxP L f L.length = some (p, m)) (hq : nxP R g R.length = some (q, k)) (vl vr : Value) (w : World) (hl : SgR w vl (intS L)) (hr : SgR w vr (intS R)) :
    Calls Try.prog 15 #[.agg #[vl, vr, .bool x]] w fun e w' => e = .returned (prV ((p.1 ++ btw x) ++ q.1)) ∧ Below w.heap.size w w' := by
  obtain ⟨al, cl, el⟩ := hl.len
  obtain ⟨ar, cr, er⟩ := hr.len
  have hlenL : (intS L).length = L.length := by simp [intS]
  have hlenR : (intS R).length = R.length := by simp [intS]
  rw [hlenL] at el
  rw [hlenR] at er
  have hLR : L.length ≤ 400 ∧ R.length ≤ 400 := by
    unfold ck2 at hck
    rw [hlenL, hlenR] at hck
    by_cases c : 400 < L.length ∨ 400 < R.length
    · rw [if_pos c] at hck; cases hck
    · omega
  obtain ⟨w1, hw1⟩ : ∃ w1, w1 = w.alloc (.cells #[vl, vr, .bool x] 24) := ⟨_, rfl⟩
  have hb1 : Below w.heap.size w w1 := by rw [hw1]; exact below_new _ _
  have hs1 : w1.heap.size = w.heap.size + 1 := by rw [hw1]; exact World.size_alloc _ _
  have hi : w1.heap[w.heap.size]? = some (.cells #[vl, vr, .bool x] 24 (0, 0)) := by rw [hw1]; exact heap_last _ _
  have HW1 : Hid (w1 = w.alloc (.cells #[vl, vr, .bool x] 24)) := hw1
  have HCK : Hid (Calls Try.prog 21 #[.agg #[vl, vr, .bool x]] w1 fun e w' => e = .returned (.int .i64 0) ∧ Below w1.heap.size w1 w') := by
    have h0 := tCheck_any vl vr x (intS L) (intS R) w1 (hl.below hb1) (hr.below hb1) (by rw [hlenL]; omega) (by rw [hlenR]; omega)
    rw [hck] at h0
    exact h0
  have HI : Hid (w1.cell? ⟨w.heap.size, 0, none⟩ = some vl ∧ w1.cell? ⟨w.heap.size, 1, none⟩ = some vr ∧ w1.cell? ⟨w.heap.size, 2, none⟩ = some (.bool x)) := ⟨cell_at hi rfl, cell_at hi rfl, cell_at hi rfl⟩
  have HS1 : Hid (w1.heap.size = w.heap.size + 1) := hs1
  have HB1 : Hid (Below w.heap.size w w1) := hb1
  have hpl := nxP_size L f _ _ _ hp
  have hql := nxP_size R g _ _ _ hq
  obtain ⟨X, hX⟩ : ∃ X, p.1 = X := ⟨_, rfl⟩
  obtain ⟨Y, hY⟩ : ∃ Y, q.1 = Y := ⟨_, rfl⟩
  have HWL : Hid (∀ y, Below (w.heap.size + 1) w1 y → Calls Try.prog 33 #[vl] y fun e w' => e = .returned (.string X) ∧ Below y.heap.size y w') := fun y hy => by
    have h0 := written_ok L hLR.1 f p m hp vl y (hl.below (hb1.trans (hy.mono (Nat.le_succ _))))
    rw [hX] at h0
    exact h0
  have HWR : Hid (∀ y, Below (w.heap.size + 1) w1 y → Calls Try.prog 33 #[vr] y fun e w' => e = .returned (.string Y) ∧ Below y.heap.size y w') := fun y hy => by
    have h0 := written_ok R hLR.2 g q k hq vr y (hr.below (hb1.trans (hy.mono (Nat.le_succ _))))
    rw [hY] at h0
    exact h0
  rw [hX, hY]
  have hXs : X.size ≤ 2000 := by rw [← hX]; omega
  have hYs : Y.size ≤ 2000 := by rw [← hY]; omega
  obtain ⟨O, hO⟩ : ∃ O, (X ++ btw x) ++ Y = O := ⟨_, rfl⟩
  have HO : Hid ((X ++ btw x) ++ Y = O) := hO
  rw [hO]
  have hmx : IntKind.i64.max = 9223372036854775807 := by decide
  subst el er
  have HSK : Hid (∀ y z, (y.cell? ⟨w.heap.size, 0, none⟩ = some (.slice al L.length cl) ∧ y.cell? ⟨w.heap.size, 1, none⟩ = some (.slice ar R.length cr) ∧ Below (w.heap.size + 1) w1 y) → Below y.heap.size y z → (z.cell? ⟨w.heap.size, 0, none⟩ = some (.slice al L.length cl) ∧ z.cell? ⟨w.heap.size, 1, none⟩ = some (.slice ar R.length cr) ∧ Below (w.heap.size + 1) w1 z)) := fun y z hy hz => by
    have h3 := hy.2.2.size
    have h4 := HS1.out
    exact ⟨by rw [below_cell hz (by omega)]; exact hy.1, by rw [below_cell hz (by omega)]; exact hy.2.1, hy.2.2.trans (hz.mono (by omega))⟩
  clear hl hr hlenL hlenR hLR hw1 hb1 hs1 hi hck hpl hql hX hY hp hq hO
  cases x
  · skip
    have hbz : (⟨#[32, 61, 32]⟩ : ByteArray).size ≤ 4 := by decide
    have hcat1 : ∀ z, (Op.stringOp .add X ⟨#[32, 61, 32]⟩).run Try.prog z = .ok (.string (X ++ ⟨#[32, 61, 32]⟩)) z := run_cat (by rw [hmx]; omega)
    have hcat2 : ∀ z, (Op.stringOp .add (X ++ ⟨#[32, 61, 32]⟩) Y).run Try.prog z = .ok (.string O) z := fun z => by
      have h1 := run_cat (X := X ++ ⟨#[32, 61, 32]⟩) (L := Y) (by rw [hmx, ByteArray.size_append]; omega) z
      rw [h1, ← HO.out]
      rfl
    clear hbz
    go_enter Try.func15, Try.ntmps15
    go_wp2_with fail
    rw [← HW1.out]
    refine Calls.mono HCK.out ?_
    rintro e w2 ⟨rfl, hb⟩
    have HB2 : Hid (Below (w.heap.size + 1) w1 w2) := by have := hb; rw [HS1.out] at this; exact this
    have i0 : w2.cell? ⟨w.heap.size, 0, none⟩ = some (.slice al L.length cl) := by rw [below_cell HB2.out (Nat.lt_succ_self _)]; exact HI.out.1
    have i1 : w2.cell? ⟨w.heap.size, 1, none⟩ = some (.slice ar R.length cr) := by rw [below_cell HB2.out (Nat.lt_succ_self _)]; exact HI.out.2.1
    have i2 : w2.cell? ⟨w.heap.size, 2, none⟩ = some (.bool false) := by rw [below_cell HB2.out (Nat.lt_succ_self _)]; exact HI.out.2.2
    have S0 : w2.drew.cell? ⟨w.heap.size, 0, none⟩ = some (.slice al L.length cl) ∧ w2.drew.cell? ⟨w.heap.size, 1, none⟩ = some (.slice ar R.length cr) ∧ Below (w.heap.size + 1) w1 w2.drew := ⟨i0, i1, HB2.out.drew⟩
    clear hb
    go_upto_region 7 with fail
    refine wp_region_L 9 (fun y => y.cell? ⟨w.heap.size, 0, none⟩ = some (.slice al L.length cl) ∧ y.cell? ⟨w.heap.size, 1, none⟩ = some (.slice ar R.length cr) ∧ Below (w.heap.size + 1) w1 y) (by kernel_rfl) S0 (fun hH0 => ?_)
    clear S0
    refine wpAnyL_take (i := 0) (oi := { dst := some 14, op := Go.Op.fieldAddr 24 (Go.Operand.tmp 1) 0, type := 0, pos := "terms.go:42", after := #[], guard := none }) (v := ?_) rfl (by kernel_rfl) (by kernel_rfl) (by decide) (by kernel_rfl) (by kernel_rfl) (by kernel_rfl) (fun _ _ _ h => h) (Or.inl ⟨by rfl, ?_⟩) (by assumption) ?_
    rotate_left
    · intro w' hS; go_simp; (try with_reducible rfl)
    simp only [Act.put, List.setIfInBounds_toArray, List.set_cons_zero, List.set_cons_succ]
    refine wpAnyL_take (i := 1) (oi := { dst := some 15, op := Go.Op.load 22 (Go.Operand.tmp 14), type := 22, pos := "terms.go:42", after := #[{ on := 0, ground := Go.Ground.data }], guard := none }) (v := .slice al L.length cl) rfl (by kernel_rfl) (by kernel_rfl) (by decide) (by kernel_rfl) (by kernel_rfl) (by kernel_rfl) (fun _ _ _ h => h) (Or.inl ⟨by rfl, ?_⟩) (by assumption) ?_
    · intro w' hS; obtain ⟨z0, z1, z2⟩ := hS; go_simp
    simp only [Act.put, List.setIfInBounds_toArray, List.set_cons_zero, List.set_cons_succ]
    refine wpAnyL_take (i := 3) (oi := { dst := some 17, op := Go.Op.move (Go.Operand.tmp 5), type := 9, pos := "terms.go:42", after := #[], guard := none }) (v := ?_) rfl (by kernel_rfl) (by kernel_rfl) (by decide) (by kernel_rfl) (by kernel_rfl) (by kernel_rfl) (fun _ _ _ h => h) (Or.inl ⟨by rfl, ?_⟩) (by assumption) ?_
    rotate_left
    · intro w' hS; go_simp; (try with_reducible rfl)
    simp only [Act.put, List.setIfInBounds_toArray, List.set_cons_zero, List.set_cons_succ]
    refine wpAnyL_take (i := 5) (oi := { dst := some 19, op := Go.Op.fieldAddr 24 (Go.Operand.tmp 1) 1, type := 0, pos := "terms.go:42", after := #[], guard := none }) (v := ?_) rfl (by kernel_rfl) (by kernel_rfl) (by decide) (by kernel_rfl) (by kernel_rfl) (by kernel_rfl) (fun _ _ _ h => h) (Or.inl ⟨by rfl, ?_⟩) (by assumption) ?_
    rotate_left
    · intro w' hS; go_simp; (try with_reducible rfl)
    simp only [Act.put, List.setIfInBounds_toArray, List.set_cons_zero, List.set_cons_succ]
    refine wpAnyL_take (i := 6) (oi := { dst := some 20, op := Go.Op.load 22 (Go.Operand.tmp 19), type := 22, pos := "terms.go:42", after := #[{ on := 5, ground := Go.Ground.data }], guard := none }) (v := .slice ar R.length cr) rfl (by kernel_rfl) (by kernel_rfl) (by decide) (by kernel_rfl) (by kernel_rfl) (by kernel_rfl) (fun _ _ _ h => h) (Or.inl ⟨by rfl, ?_⟩) (by assumption) ?_
    · intro w' hS; obtain ⟨z0, z1, z2⟩ := hS; go_simp
    simp only [Act.put, List.setIfInBounds_toArray, List.set_cons_zero, List.set_cons_succ]
    refine wpAnyL_ready (rs := [2]) (by kernel_rfl) (by simp) ?_
    refine AllReadyL.cons rfl (fun KQ hK => ?_) AllReadyL.nil
    have hc9 := HWL.out _ hH0.2.2
    go_simp
    refine Calls.mono hc9 ?_
    rintro e y1 ⟨rfl, hb⟩
    have hN := HSK.out _ _ hH0 hb
    clear hb hc9
    go_wp2_with fail
    refine hK.out _ _ hN (fun hH1 => ?_)
    clear hN
    clear hK KQ
    refine wpAnyL_take (i := 4) (oi := { dst := some 18, op := Go.Op.binOp Go.BinOp.add 9 (Go.Operand.tmp 16) (Go.Operand.tmp 17) 9, type := 9, pos := "terms.go:42", after := #[{ on := 2, ground := Go.Ground.data }, { on := 3, ground := Go.Ground.data }], guard := none }) (v := .string (X ++ ⟨#[32, 61, 32]⟩)) rfl (by kernel_rfl) (by kernel_rfl) (by decide) (by kernel_rfl) (by kernel_rfl) (by kernel_rfl) (fun _ _ _ h => h) (Or.inl ⟨by rfl, ?_⟩) (by assumption) ?_
    · intro w' hS; have hq := hcat1 w'; go_simp
    simp only [Act.put, List.setIfInBounds_toArray, List.set_cons_zero, List.set_cons_succ]
    refine wpAnyL_ready (rs := [7]) (by kernel_rfl) (by simp) ?_
    refine AllReadyL.cons rfl (fun KQ hK => ?_) AllReadyL.nil
    have hc9 := HWR.out _ hH1.2.2
    go_simp
    refine Calls.mono hc9 ?_
    rintro e y2 ⟨rfl, hb⟩
    have hN := HSK.out _ _ hH1 hb
    clear hb hc9
    go_wp2_with fail
    refine hK.out _ _ hN (fun hH2 => ?_)
    clear hN
    clear hK KQ
    refine wpAnyL_take (i := 8) (oi := { dst := some 22, op := Go.Op.binOp Go.BinOp.add 9 (Go.Operand.tmp 18) (Go.Operand.tmp 21) 9, type := 9, pos := "terms.go:42", after := #[{ on := 4, ground := Go.Ground.data }, { on := 7, ground := Go.Ground.data }], guard := none }) (v := .string O) rfl (by kernel_rfl) (by kernel_rfl) (by decide) (by kernel_rfl) (by kernel_rfl) (by kernel_rfl) (fun _ _ _ h => h) (Or.inl ⟨by rfl, ?_⟩) (by assumption) ?_
    · intro w' hS; have hq := hcat2 w'; go_simp
    simp only [Act.put, List.setIfInBounds_toArray, List.set_cons_zero, List.set_cons_succ]
    refine wpAnyL_ready (rs := [9]) (by kernel_rfl) (by simp) ?_
    refine AllReadyL.last rfl (fun KQ hK => ?_)
    go_simp
    refine hK.out _ _ ?_
    clear hK KQ
    refine wpAnyL_done (by kernel_rfl) ?_ _
    have HBB : Hid (Below w.heap.size w y2) := HB1.out.trans (hH2.2.2.mono (Nat.le_succ _))
    clear hH0 hH1 hH2
    by_cases hO : O.size ≤ 1000
    · have d1 : decide ((1000 : Int) < O.size) = false := decide_eq_false (by omega)
      have d2 : ¬ ((1000 : Int) < O.size) := by omega
      have HR : Hid (prV O = .tuple #[.string O, .int .i64 0]) := by show _ = _; unfold prV; rw [if_pos hO]
      clear hO
      go_wp2_with fail
      go_ret2
      exact ⟨by rw [HR.out]; rfl, HBB.out⟩
    · have d1 : decide ((1000 : Int) < O.size) = true := decide_eq_true (by omega)
      have d2 : (1000 : Int) < O.size := by omega
      have HR : Hid (prV O = .tuple #[.string ⟨#[]⟩, .int .i64 6]) := by show _ = _; unfold prV; rw [if_neg hO]
      clear hO
      go_wp2_with fail
      go_ret2
      exact ⟨by rw [HR.out]; rfl, HBB.out⟩

  · skip
    have hbz : (⟨#[32, 60, 61, 32]⟩ : ByteArray).size ≤ 4 := by decide
    have hcat1 : ∀ z, (Op.stringOp .add X ⟨#[32, 60, 61, 32]⟩).run Try.prog z = .ok (.string (X ++ ⟨#[32, 60, 61, 32]⟩)) z := run_cat (by rw [hmx]; omega)
    have hcat2 : ∀ z, (Op.stringOp .add (X ++ ⟨#[32, 60, 61, 32]⟩) Y).run Try.prog z = .ok (.string O) z := fun z => by
      have h1 := run_cat (X := X ++ ⟨#[32, 60, 61, 32]⟩) (L := Y) (by rw [hmx, ByteArray.size_append]; omega) z
      rw [h1, ← HO.out]
      rfl
    clear hbz
    go_enter Try.func15, Try.ntmps15
    go_wp2_with fail
    rw [← HW1.out]
    refine Calls.mono HCK.out ?_
    rintro e w2 ⟨rfl, hb⟩
    have HB2 : Hid (Below (w.heap.size + 1) w1 w2) := by have := hb; rw [HS1.out] at this; exact this
    have i0 : w2.cell? ⟨w.heap.size, 0, none⟩ = some (.slice al L.length cl) := by rw [below_cell HB2.out (Nat.lt_succ_self _)]; exact HI.out.1
    have i1 : w2.cell? ⟨w.heap.size, 1, none⟩ = some (.slice ar R.length cr) := by rw [below_cell HB2.out (Nat.lt_succ_self _)]; exact HI.out.2.1
    have i2 : w2.cell? ⟨w.heap.size, 2, none⟩ = some (.bool true) := by rw [below_cell HB2.out (Nat.lt_succ_self _)]; exact HI.out.2.2
    have S0 : w2.drew.cell? ⟨w.heap.size, 0, none⟩ = some (.slice al L.length cl) ∧ w2.drew.cell? ⟨w.heap.size, 1, none⟩ = some (.slice ar R.length cr) ∧ Below (w.heap.size + 1) w1 w2.drew := ⟨i0, i1, HB2.out.drew⟩
    clear hb
    go_upto_region 7 with fail
    refine wp_region_L 9 (fun y => y.cell? ⟨w.heap.size, 0, none⟩ = some (.slice al L.length cl) ∧ y.cell? ⟨w.heap.size, 1, none⟩ = some (.slice ar R.length cr) ∧ Below (w.heap.size + 1) w1 y) (by kernel_rfl) S0 (fun hH0 => ?_)
    clear S0
    refine wpAnyL_take (i := 0) (oi := { dst := some 14, op := Go.Op.fieldAddr 24 (Go.Operand.tmp 1) 0, type := 0, pos := "terms.go:42", after := #[], guard := none }) (v := ?_) rfl (by kernel_rfl) (by kernel_rfl) (by decide) (by kernel_rfl) (by kernel_rfl) (by kernel_rfl) (fun _ _ _ h => h) (Or.inl ⟨by rfl, ?_⟩) (by assumption) ?_
    rotate_left
    · intro w' hS; go_simp; (try with_reducible rfl)
    simp only [Act.put, List.setIfInBounds_toArray, List.set_cons_zero, List.set_cons_succ]
    refine wpAnyL_take (i := 1) (oi := { dst := some 15, op := Go.Op.load 22 (Go.Operand.tmp 14), type := 22, pos := "terms.go:42", after := #[{ on := 0, ground := Go.Ground.data }], guard := none }) (v := .slice al L.length cl) rfl (by kernel_rfl) (by kernel_rfl) (by decide) (by kernel_rfl) (by kernel_rfl) (by kernel_rfl) (fun _ _ _ h => h) (Or.inl ⟨by rfl, ?_⟩) (by assumption) ?_
    · intro w' hS; obtain ⟨z0, z1, z2⟩ := hS; go_simp
    simp only [Act.put, List.setIfInBounds_toArray, List.set_cons_zero, List.set_cons_succ]
    refine wpAnyL_take (i := 3) (oi := { dst := some 17, op := Go.Op.move (Go.Operand.tmp 5), type := 9, pos := "terms.go:42", after := #[], guard := none }) (v := ?_) rfl (by kernel_rfl) (by kernel_rfl) (by decide) (by kernel_rfl) (by kernel_rfl) (by kernel_rfl) (fun _ _ _ h => h) (Or.inl ⟨by rfl, ?_⟩) (by assumption) ?_
    rotate_left
    · intro w' hS; go_simp; (try with_reducible rfl)
    simp only [Act.put, List.setIfInBounds_toArray, List.set_cons_zero, List.set_cons_succ]
    refine wpAnyL_take (i := 5) (oi := { dst := some 19, op := Go.Op.fieldAddr 24 (Go.Operand.tmp 1) 1, type := 0, pos := "terms.go:42", after := #[], guard := none }) (v := ?_) rfl (by kernel_rfl) (by kernel_rfl) (by decide) (by kernel_rfl) (by kernel_rfl) (by kernel_rfl) (fun _ _ _ h => h) (Or.inl ⟨by rfl, ?_⟩) (by assumption) ?_
    rotate_left
    · intro w' hS; go_simp; (try with_reducible rfl)
    simp only [Act.put, List.setIfInBounds_toArray, List.set_cons_zero, List.set_cons_succ]
    refine wpAnyL_take (i := 6) (oi := { dst := some 20, op := Go.Op.load 22 (Go.Operand.tmp 19), type := 22, pos := "terms.go:42", after := #[{ on := 5, ground := Go.Ground.data }], guard := none }) (v := .slice ar R.length cr) rfl (by kernel_rfl) (by kernel_rfl) (by decide) (by kernel_rfl) (by kernel_rfl) (by kernel_rfl) (fun _ _ _ h => h) (Or.inl ⟨by rfl, ?_⟩) (by assumption) ?_
    · intro w' hS; obtain ⟨z0, z1, z2⟩ := hS; go_simp
    simp only [Act.put, List.setIfInBounds_toArray, List.set_cons_zero, List.set_cons_succ]
    refine wpAnyL_ready (rs := [2]) (by kernel_rfl) (by simp) ?_
    refine AllReadyL.cons rfl (fun KQ hK => ?_) AllReadyL.nil
    have hc9 := HWL.out _ hH0.2.2
    go_simp
    refine Calls.mono hc9 ?_
    rintro e y1 ⟨rfl, hb⟩
    have hN := HSK.out _ _ hH0 hb
    clear hb hc9
    go_wp2_with fail
    refine hK.out _ _ hN (fun hH1 => ?_)
    clear hN
    clear hK KQ
    refine wpAnyL_take (i := 4) (oi := { dst := some 18, op := Go.Op.binOp Go.BinOp.add 9 (Go.Operand.tmp 16) (Go.Operand.tmp 17) 9, type := 9, pos := "terms.go:42", after := #[{ on := 2, ground := Go.Ground.data }, { on := 3, ground := Go.Ground.data }], guard := none }) (v := .string (X ++ ⟨#[32, 60, 61, 32]⟩)) rfl (by kernel_rfl) (by kernel_rfl) (by decide) (by kernel_rfl) (by kernel_rfl) (by kernel_rfl) (fun _ _ _ h => h) (Or.inl ⟨by rfl, ?_⟩) (by assumption) ?_
    · intro w' hS; have hq := hcat1 w'; go_simp
    simp only [Act.put, List.setIfInBounds_toArray, List.set_cons_zero, List.set_cons_succ]
    refine wpAnyL_ready (rs := [7]) (by kernel_rfl) (by simp) ?_
    refine AllReadyL.cons rfl (fun KQ hK => ?_) AllReadyL.nil
    have hc9 := HWR.out _ hH1.2.2
    go_simp
    refine Calls.mono hc9 ?_
    rintro e y2 ⟨rfl, hb⟩
    have hN := HSK.out _ _ hH1 hb
    clear hb hc9
    go_wp2_with fail
    refine hK.out _ _ hN (fun hH2 => ?_)
    clear hN
    clear hK KQ
    refine wpAnyL_take (i := 8) (oi := { dst := some 22, op := Go.Op.binOp Go.BinOp.add 9 (Go.Operand.tmp 18) (Go.Operand.tmp 21) 9, type := 9, pos := "terms.go:42", after := #[{ on := 4, ground := Go.Ground.data }, { on := 7, ground := Go.Ground.data }], guard := none }) (v := .string O) rfl (by kernel_rfl) (by kernel_rfl) (by decide) (by kernel_rfl) (by kernel_rfl) (by kernel_rfl) (fun _ _ _ h => h) (Or.inl ⟨by rfl, ?_⟩) (by assumption) ?_
    · intro w' hS; have hq := hcat2 w'; go_simp
    simp only [Act.put, List.setIfInBounds_toArray, List.set_cons_zero, List.set_cons_succ]
    refine wpAnyL_ready (rs := [9]) (by kernel_rfl) (by simp) ?_
    refine AllReadyL.last rfl (fun KQ hK => ?_)
    go_simp
    refine hK.out _ _ ?_
    clear hK KQ
    refine wpAnyL_done (by kernel_rfl) ?_ _
    have HBB : Hid (Below w.heap.size w y2) := HB1.out.trans (hH2.2.2.mono (Nat.le_succ _))
    clear hH0 hH1 hH2
    by_cases hO : O.size ≤ 1000
    · have d1 : decide ((1000 : Int) < O.size) = false := decide_eq_false (by omega)
      have d2 : ¬ ((1000 : Int) < O.size) := by omega
      have HR : Hid (prV O = .tuple #[.string O, .int .i64 0]) := by show _ = _; unfold prV; rw [if_pos hO]
      clear hO
      go_wp2_with fail
      go_ret2
      exact ⟨by rw [HR.out]; rfl, HBB.out⟩
    · have d1 : decide ((1000 : Int) < O.size) = true := decide_eq_true (by omega)
      have d2 : (1000 : Int) < O.size := by omega
      have HR : Hid (prV O = .tuple #[.string ⟨#[]⟩, .int .i64 6]) := by show _ = _; unfold prV; rw [if_neg hO]
      clear hO
      go_wp2_with fail
      go_ret2
      exact ⟨by rw [HR.out]; rfl, HBB.out⟩

end Go.Proofs.Ythhlamehbcidgaa
