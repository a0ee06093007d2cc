/- The document's Print; Print's answer as one value. -/
import Derived.Test.YthhlamehbcidgaaY40
namespace Go.Proofs.Ythhlamehbcidgaa
open Go Go.RowKit Go.Lib
set_option linter.unusedVariables false

def natS (L : List (Int × Nat)) : Sg := L.map fun p => (p.1.toNat, p.2)
theorem natS_int (A : Sg) : natS (intS A) = A := by
  unfold natS intS
  rw [List.map_map]
  conv => rhs; rw [← List.map_id A]
  rfl
/-- What both Prints tell. -/
def pnV (L R : List (Int × Nat)) (x : Bool) : Value := if ck2 L R = 0 then prV ((wrB (natS L) ++ btw x) ++ wrB (natS R)) else .tuple #[.string ⟨#[]⟩, .int .i64 (ck2 L R)]
theorem print_pn (vl vr : Value) (x : Bool) (L R : List (Int × Nat)) (w : World) (hl : SgR w vl L) (hr : SgR w vr R) (hL : L.length ≤ 9223372036854775807) (hR : R.length ≤ 9223372036854775807) :
    Calls Try.prog 15 #[.agg #[vl, vr, .bool x]] w fun e w' => e = .returned (pnV L R x) ∧ Below w.heap.size w w' :=
  (print_any vl vr x L R w hl hr hL hR).mono fun e w' h => by
    refine ⟨?_, h.2⟩
    rcases h.1 with ⟨A, B, rfl, rfl, h3, h4⟩ | ⟨h1, h2⟩
    · rw [h4]; unfold pnV; rw [if_pos h3, natS_int, natS_int]
    · rw [h2]; unfold pnV; rw [if_neg h1]

set_option maxHeartbeats 4000000 in
set_option maxRecDepth 100000 in
theorem rPrint_any (vl vr : Value) (x : Bool) (L R : List (Int × Nat)) (w : World) (hlC : SgC w vl L) (hrC : SgC w vr R) (hL : L.length ≤ 9223372036854775000) (hR : R.length ≤ 9223372036854775000) :
    Calls Try.prog 18 #[.agg #[vl, vr, .bool x]] w fun e w' => e = .returned (pnV L R x) ∧ Below w.heap.size w w' := by
  have hl := hlC.1
  have hr := hrC.1
  have HCL : Hid (SgC w vl L ∧ SgC w vr R) := ⟨hlC, hrC⟩
  clear hlC hrC
  obtain ⟨a1, c1, e1⟩ := hl.len
  obtain ⟨a2, c2, e2⟩ := hr.len
  subst e1 e2
  obtain ⟨w1, hw1⟩ : ∃ w1, w1 = w.alloc (.cells #[.slice a1 L.length c1, .slice a2 R.length c2, .bool x] 24) := ⟨_, rfl⟩
  have HW1 : Hid (w1 = w.alloc (.cells #[.slice a1 L.length c1, .slice a2 R.length c2, .bool x] 24)) := hw1
  have hb1 : Below w.heap.size w w1 := by rw [hw1]; exact below_new _ _
  have HI1 : Hid (w1.heap[w.heap.size]? = some (.cells #[.slice a1 L.length c1, .slice a2 R.length c2, .bool x] 24 (0, 0))) := by show _ = _; rw [hw1]; exact heap_last _ _
  have k0 : w1.cell? ⟨w.heap.size, 0, none⟩ = some (.slice a1 L.length c1) := cell_at HI1.out rfl
  have k1 : w1.cell? ⟨w.heap.size, 1, none⟩ = some (.slice a2 R.length c2) := cell_at HI1.out rfl
  have k2 : w1.cell? ⟨w.heap.size, 2, none⟩ = some (.bool x) := cell_at HI1.out rfl
  have HKK : Hid (∀ y, Below w1.heap.size w1 y → y.cell? ⟨w.heap.size, 0, none⟩ = some (.slice a1 L.length c1) ∧ y.cell? ⟨w.heap.size, 1, none⟩ = some (.slice a2 R.length c2)) := fun y hy => ⟨by rw [below_cell hy (Array.getElem?_eq_some_iff.1 HI1.out).1]; exact k0, by rw [below_cell hy (Array.getElem?_eq_some_iff.1 HI1.out).1]; exact k1⟩
  have HB1 : Hid (Below w.heap.size w w1) := hb1
  have HSL : Hid (SgR w1 (.slice a1 L.length c1) L) := hl.below hb1
  have HSR : Hid (SgR w1 (.slice a2 R.length c2) R) := hr.below hb1
  have HCK : Hid (Calls Try.prog 22 #[.agg #[.slice a1 L.length c1, .slice a2 R.length c2, .bool x]] w1 fun e w' => e = .returned (.int .i64 (ck2 L R)) ∧ Below w1.heap.size w1 w') := rcheck_any _ _ x L R w1 HSL.out HSR.out (by omega) (by omega)
  clear hl hr hw1 hb1
  by_cases hk : ck2 L R = 0
  rotate_left
  · obtain ⟨er, her⟩ : ∃ er, ck2 L R = er := ⟨_, rfl⟩
    have HV : Hid (pnV L R x = .tuple #[.string ⟨#[]⟩, .int .i64 er]) := by show _ = _; unfold pnV; rw [if_neg hk, her]
    rw [her] at HCK hk
    have hneb : (er != 0) = true := by rw [bne_iff_ne]; exact hk
    have hned : decide (er ≠ 0) = true := decide_eq_true hk
    go_enter Try.func18, Try.ntmps18
    go_upto_region 1 with fail
    rw [← HW1.out]
    go_wp2_with fail
    refine Calls.mono HCK.out ?_
    rintro e w2 ⟨rfl, hb2⟩
    have HB2 : Hid (Below w.heap.size w w2) := go_on HB1.out hb2
    clear hb2 k0 k1 k2
    go_wp2_with fail
    go_ret2
    exact ⟨by rw [HV.out]; rfl, HB2.out⟩
  have HV : Hid (pnV L R x = prV ((wrB (natS L) ++ btw x) ++ wrB (natS R))) := by show _ = _; unfold pnV; rw [if_pos hk]
  rw [hk] at HCK
  obtain ⟨s1, s2, hn1, hn2⟩ := ck2_sides hk
  obtain ⟨ta, e1⟩ := side_tm s1
  obtain ⟨tb, e2⟩ := side_tm s2
  have hXn : wrB (natS L) = ta.pc.1 := by rw [e1, natS_int, wrB_tm]
  have hYn : wrB (natS R) = tb.pc.1 := by rw [e2, natS_int, wrB_tm]
  have hla : L.length = ta.sg.length := by rw [e1, intS_len]
  have hlb : R.length = tb.sg.length := by rw [e2, intS_len]
  have hsa := ta.pc_size
  have hsb := tb.pc_size
  have HTA : Hid (∀ y, Below w1.heap.size w1 y → Calls Try.prog 36 #[.slice a1 L.length c1] y fun e w' => e = .returned (.string ta.pc.1) ∧ Below y.heap.size y w') := fun y hy => text_any ta (by omega) _ y (by
    have := (HCL.out.1.below HB1.out).below hy
    unfold TmC
    rw [← e1]
    exact this)
  have HTB : Hid (∀ y, Below w1.heap.size w1 y → Calls Try.prog 36 #[.slice a2 R.length c2] y fun e w' => e = .returned (.string tb.pc.1) ∧ Below y.heap.size y w') := fun y hy => text_any tb (by omega) _ y (by
    have := (HCL.out.2.below HB1.out).below hy
    unfold TmC
    rw [← e2]
    exact this)
  rw [hXn, hYn] at HV
  obtain ⟨X, hX⟩ : ∃ X, ta.pc.1 = X := ⟨_, rfl⟩
  obtain ⟨Y, hY⟩ : ∃ Y, tb.pc.1 = Y := ⟨_, rfl⟩
  rw [hX] at HTA HV hsa
  rw [hY] at HTB HV hsb
  have hK2 : Hid (∀ y, Below w1.heap.size w1 y → y.cell? ⟨w.heap.size, 2, none⟩ = some (.bool x)) := fun y hy => by rw [below_cell hy (Array.getElem?_eq_some_iff.1 HI1.out).1]; exact k2
  have hsx : X.size ≤ 2000 ∧ Y.size ≤ 2000 := by omega
  clear hk s1 s2 hXn hYn e1 e2 hX hY hla hlb hsa hsb hn1 hn2
  cases x with
  | true =>
    have hcat1 := cat_ok (X := X) (L := ⟨#[32, 60, 61, 32]⟩) (by show _ + 4 ≤ _; omega)
    obtain ⟨O, hO⟩ : ∃ O, (X ++ ⟨#[32, 60, 61, 32]⟩) ++ Y = O := ⟨_, rfl⟩
    have hcat2 := cat_ok (X := X ++ ⟨#[32, 60, 61, 32]⟩) (L := Y) (by rw [ByteArray.size_append]; show (_ + 4) + _ ≤ _; omega)
    have hos : O.size ≤ 100000 := by rw [← hO, ByteArray.size_append, ByteArray.size_append]; show (_ + 4) + _ ≤ _; omega
    have HVO : Hid (pnV L R true = prV O) := by show _ = _; rw [HV.out, ← hO]; rfl
    rw [hO] at hcat2
    clear hO
    go_enter Try.func18, Try.ntmps18
    go_upto_region 1 with fail
    rw [← HW1.out]
    go_wp2_with fail
    refine Calls.mono HCK.out ?_
    rintro e w2 ⟨rfl, hb2⟩
    have m2 := hK2.out w2 hb2
    have HB2 : Hid (Below w1.heap.size w1 w2) := hb2
    clear hb2 k0 k1 k2
    go_upto_region 7 with fail
    refine wp_region_held_drew (S := fun y => Below w1.heap.size w1 y) (by kernel_rfl) HB2.out.drew (fun hH0 => ?_)
    generalize w2.drew = y0 at hH0 ⊢
    clear m2
    refine wpAnyH_take (i := 0) (oi := { dst := some 14, op := Go.Op.fieldAddr 24 (Go.Operand.tmp 1) 0, type := 0, pos := "ref.go:255", after := #[], guard := none }) (v := ?_) rfl (by kernel_rfl) (by kernel_rfl) (by kernel_rfl) (fun _ _ _ h => h) (Or.inl ⟨by rfl, ?_⟩) (by assumption) ?_
    rotate_left
    · intro w' hS; go_simp; (try with_reducible rfl)
    simp only [Act.put, List.setIfInBounds_toArray, List.set_cons_zero, List.set_cons_succ]
    refine wpAnyH_take (i := 1) (oi := { dst := some 15, op := Go.Op.load 22 (Go.Operand.tmp 14), type := 22, pos := "ref.go:255", after := #[{ on := 0, ground := Go.Ground.data }], guard := none }) (v := .slice a1 L.length c1) rfl (by kernel_rfl) (by kernel_rfl) (by kernel_rfl) (fun _ _ _ h => h) (Or.inl ⟨by rfl, ?_⟩) (by assumption) ?_
    · intro w' hS; have hz := (HKK.out w' hS).1; go_simp
    simp only [Act.put, List.setIfInBounds_toArray, List.set_cons_zero, List.set_cons_succ]
    refine wpAnyH_take (i := 3) (oi := { dst := some 17, op := Go.Op.move (Go.Operand.tmp 5), type := 9, pos := "ref.go:255", after := #[], guard := none }) (v := ?_) rfl (by kernel_rfl) (by kernel_rfl) (by kernel_rfl) (fun _ _ _ h => h) (Or.inl ⟨by rfl, ?_⟩) (by assumption) ?_
    rotate_left
    · intro w' hS; go_simp; (try with_reducible rfl)
    simp only [Act.put, List.setIfInBounds_toArray, List.set_cons_zero, List.set_cons_succ]
    refine wpAnyH_take (i := 5) (oi := { dst := some 19, op := Go.Op.fieldAddr 24 (Go.Operand.tmp 1) 1, type := 0, pos := "ref.go:255", after := #[], guard := none }) (v := ?_) rfl (by kernel_rfl) (by kernel_rfl) (by kernel_rfl) (fun _ _ _ h => h) (Or.inl ⟨by rfl, ?_⟩) (by assumption) ?_
    rotate_left
    · intro w' hS; go_simp; (try with_reducible rfl)
    simp only [Act.put, List.setIfInBounds_toArray, List.set_cons_zero, List.set_cons_succ]
    refine wpAnyH_take (i := 6) (oi := { dst := some 20, op := Go.Op.load 22 (Go.Operand.tmp 19), type := 22, pos := "ref.go:255", after := #[{ on := 5, ground := Go.Ground.data }], guard := none }) (v := .slice a2 R.length c2) rfl (by kernel_rfl) (by kernel_rfl) (by kernel_rfl) (fun _ _ _ h => h) (Or.inl ⟨by rfl, ?_⟩) (by assumption) ?_
    · intro w' hS; have hz := (HKK.out w' hS).2; go_simp
    simp only [Act.put, List.setIfInBounds_toArray, List.set_cons_zero, List.set_cons_succ]
    refine wpAnyH_ready (rs := [2]) (by kernel_rfl) (by simp) ?_
    refine AllReadyH.cons rfl (fun K hK => ?_) AllReadyH.nil
    go_simp
    refine (HTA.out _ hH0).mono ?_
    rintro e y1 ⟨rfl, hB⟩
    have hN : Below w1.heap.size w1 y1 := go_on hH0 hB
    clear hB
    go_wp2_with fail
    refine hK.out _ _ hN (fun hH1 => ?_)
    clear hN
    clear hK K
    refine wpAnyH_take (i := 4) (oi := { dst := some 18, op := Go.Op.binOp Go.BinOp.add 9 (Go.Operand.tmp 16) (Go.Operand.tmp 17) 9, type := 9, pos := "ref.go:255", after := #[{ on := 2, ground := Go.Ground.data }, { on := 3, ground := Go.Ground.data }], guard := none }) (v := .string (X ++ ⟨#[32, 60, 61, 32]⟩)) rfl (by kernel_rfl) (by kernel_rfl) (by kernel_rfl) (fun _ _ _ h => h) (Or.inl ⟨by rfl, ?_⟩) (by assumption) ?_
    · intro w' hS; have hq := hcat1 w'; go_simp
    simp only [Act.put, List.setIfInBounds_toArray, List.set_cons_zero, List.set_cons_succ]
    refine wpAnyH_ready (rs := [7]) (by kernel_rfl) (by simp) ?_
    refine AllReadyH.cons rfl (fun K hK => ?_) AllReadyH.nil
    go_simp
    refine (HTB.out _ hH1).mono ?_
    rintro e y2 ⟨rfl, hB⟩
    have hN : Below w1.heap.size w1 y2 := go_on hH1 hB
    clear hB
    go_wp2_with fail
    refine hK.out _ _ hN (fun hH2 => ?_)
    clear hN
    clear hK K
    refine wpAnyH_take (i := 8) (oi := { dst := some 22, op := Go.Op.binOp Go.BinOp.add 9 (Go.Operand.tmp 18) (Go.Operand.tmp 21) 9, type := 9, pos := "ref.go:255", after := #[{ on := 4, ground := Go.Ground.data }, { on := 7, ground := Go.Ground.data }], guard := none }) (v := .string O) rfl (by kernel_rfl) (by kernel_rfl) (by kernel_rfl) (fun _ _ _ h => h) (Or.inl ⟨by rfl, ?_⟩) (by assumption) ?_
    · intro w' hS; have hq := hcat2 w'; go_simp
    simp only [Act.put, List.setIfInBounds_toArray, List.set_cons_zero, List.set_cons_succ]
    refine wpAnyH_take (i := 9) (oi := { dst := some 6, op := Go.Op.assign (Go.Operand.tmp 22), type := 9, pos := "ref.go:255", after := #[{ on := 8, ground := Go.Ground.data }, { on := 7, ground := Go.Ground.chain }, { on := 0, ground := Go.Ground.phase }, { on := 1, ground := Go.Ground.phase }, { on := 2, ground := Go.Ground.phase }, { on := 3, ground := Go.Ground.phase }, { on := 4, ground := Go.Ground.phase }, { on := 5, ground := Go.Ground.phase }, { on := 6, ground := Go.Ground.phase }, { on := 7, ground := Go.Ground.phase }, { on := 8, ground := Go.Ground.phase }], guard := none }) (v := ?_) rfl (by kernel_rfl) (by kernel_rfl) (by kernel_rfl) (fun _ _ _ h => h) (Or.inl ⟨by rfl, ?_⟩) (by assumption) ?_
    rotate_left
    · intro w' hS; go_simp; (try with_reducible rfl)
    simp only [Act.put, List.setIfInBounds_toArray, List.set_cons_zero, List.set_cons_succ]
    refine wpAnyH_done (by kernel_rfl) ?_ _
    by_cases hO : O.size ≤ 1000
    · have d1 : decide ((1000 : Int) < O.size) = false := decide_eq_false (by omega)
      have d2 : ¬ ((1000 : Int) < O.size) := by omega
      have HR : Hid (prV O = .tuple #[.string O, .int .i64 0]) := by show _ = _; unfold prV; rw [if_pos hO]
      clear hO
      go_wp2_with fail
      go_ret2
      exact ⟨by rw [HVO.out, HR.out]; rfl, go_on HB1.out hH2⟩
    · have d1 : decide ((1000 : Int) < O.size) = true := decide_eq_true (by omega)
      have d2 : (1000 : Int) < O.size := by omega
      have HR : Hid (prV O = .tuple #[.string ⟨#[]⟩, .int .i64 6]) := by show _ = _; unfold prV; rw [if_neg hO]
      clear hO
      go_wp2_with fail
      go_ret2
      exact ⟨by rw [HVO.out, HR.out]; rfl, go_on HB1.out hH2⟩
  | false =>
    have hcat1 := cat_ok (X := X) (L := ⟨#[32, 61, 32]⟩) (by show _ + 3 ≤ _; omega)
    obtain ⟨O, hO⟩ : ∃ O, (X ++ ⟨#[32, 61, 32]⟩) ++ Y = O := ⟨_, rfl⟩
    have hcat2 := cat_ok (X := X ++ ⟨#[32, 61, 32]⟩) (L := Y) (by rw [ByteArray.size_append]; show (_ + 3) + _ ≤ _; omega)
    have hos : O.size ≤ 100000 := by rw [← hO, ByteArray.size_append, ByteArray.size_append]; show (_ + 3) + _ ≤ _; omega
    have HVO : Hid (pnV L R false = prV O) := by show _ = _; rw [HV.out, ← hO]; rfl
    rw [hO] at hcat2
    clear hO
    go_enter Try.func18, Try.ntmps18
    go_upto_region 1 with fail
    rw [← HW1.out]
    go_wp2_with fail
    refine Calls.mono HCK.out ?_
    rintro e w2 ⟨rfl, hb2⟩
    have m2 := hK2.out w2 hb2
    have HB2 : Hid (Below w1.heap.size w1 w2) := hb2
    clear hb2 k0 k1 k2
    go_upto_region 7 with fail
    refine wp_region_held_drew (S := fun y => Below w1.heap.size w1 y) (by kernel_rfl) HB2.out.drew (fun hH0 => ?_)
    generalize w2.drew = y0 at hH0 ⊢
    clear m2
    refine wpAnyH_take (i := 0) (oi := { dst := some 14, op := Go.Op.fieldAddr 24 (Go.Operand.tmp 1) 0, type := 0, pos := "ref.go:255", after := #[], guard := none }) (v := ?_) rfl (by kernel_rfl) (by kernel_rfl) (by kernel_rfl) (fun _ _ _ h => h) (Or.inl ⟨by rfl, ?_⟩) (by assumption) ?_
    rotate_left
    · intro w' hS; go_simp; (try with_reducible rfl)
    simp only [Act.put, List.setIfInBounds_toArray, List.set_cons_zero, List.set_cons_succ]
    refine wpAnyH_take (i := 1) (oi := { dst := some 15, op := Go.Op.load 22 (Go.Operand.tmp 14), type := 22, pos := "ref.go:255", after := #[{ on := 0, ground := Go.Ground.data }], guard := none }) (v := .slice a1 L.length c1) rfl (by kernel_rfl) (by kernel_rfl) (by kernel_rfl) (fun _ _ _ h => h) (Or.inl ⟨by rfl, ?_⟩) (by assumption) ?_
    · intro w' hS; have hz := (HKK.out w' hS).1; go_simp
    simp only [Act.put, List.setIfInBounds_toArray, List.set_cons_zero, List.set_cons_succ]
    refine wpAnyH_take (i := 3) (oi := { dst := some 17, op := Go.Op.move (Go.Operand.tmp 5), type := 9, pos := "ref.go:255", after := #[], guard := none }) (v := ?_) rfl (by kernel_rfl) (by kernel_rfl) (by kernel_rfl) (fun _ _ _ h => h) (Or.inl ⟨by rfl, ?_⟩) (by assumption) ?_
    rotate_left
    · intro w' hS; go_simp; (try with_reducible rfl)
    simp only [Act.put, List.setIfInBounds_toArray, List.set_cons_zero, List.set_cons_succ]
    refine wpAnyH_take (i := 5) (oi := { dst := some 19, op := Go.Op.fieldAddr 24 (Go.Operand.tmp 1) 1, type := 0, pos := "ref.go:255", after := #[], guard := none }) (v := ?_) rfl (by kernel_rfl) (by kernel_rfl) (by kernel_rfl) (fun _ _ _ h => h) (Or.inl ⟨by rfl, ?_⟩) (by assumption) ?_
    rotate_left
    · intro w' hS; go_simp; (try with_reducible rfl)
    simp only [Act.put, List.setIfInBounds_toArray, List.set_cons_zero, List.set_cons_succ]
    refine wpAnyH_take (i := 6) (oi := { dst := some 20, op := Go.Op.load 22 (Go.Operand.tmp 19), type := 22, pos := "ref.go:255", after := #[{ on := 5, ground := Go.Ground.data }], guard := none }) (v := .slice a2 R.length c2) rfl (by kernel_rfl) (by kernel_rfl) (by kernel_rfl) (fun _ _ _ h => h) (Or.inl ⟨by rfl, ?_⟩) (by assumption) ?_
    · intro w' hS; have hz := (HKK.out w' hS).2; go_simp
    simp only [Act.put, List.setIfInBounds_toArray, List.set_cons_zero, List.set_cons_succ]
    refine wpAnyH_ready (rs := [2]) (by kernel_rfl) (by simp) ?_
    refine AllReadyH.cons rfl (fun K hK => ?_) AllReadyH.nil
    go_simp
    refine (HTA.out _ hH0).mono ?_
    rintro e y1 ⟨rfl, hB⟩
    have hN : Below w1.heap.size w1 y1 := go_on hH0 hB
    clear hB
    go_wp2_with fail
    refine hK.out _ _ hN (fun hH1 => ?_)
    clear hN
    clear hK K
    refine wpAnyH_take (i := 4) (oi := { dst := some 18, op := Go.Op.binOp Go.BinOp.add 9 (Go.Operand.tmp 16) (Go.Operand.tmp 17) 9, type := 9, pos := "ref.go:255", after := #[{ on := 2, ground := Go.Ground.data }, { on := 3, ground := Go.Ground.data }], guard := none }) (v := .string (X ++ ⟨#[32, 61, 32]⟩)) rfl (by kernel_rfl) (by kernel_rfl) (by kernel_rfl) (fun _ _ _ h => h) (Or.inl ⟨by rfl, ?_⟩) (by assumption) ?_
    · intro w' hS; have hq := hcat1 w'; go_simp
    simp only [Act.put, List.setIfInBounds_toArray, List.set_cons_zero, List.set_cons_succ]
    refine wpAnyH_ready (rs := [7]) (by kernel_rfl) (by simp) ?_
    refine AllReadyH.cons rfl (fun K hK => ?_) AllReadyH.nil
    go_simp
    refine (HTB.out _ hH1).mono ?_
    rintro e y2 ⟨rfl, hB⟩
    have hN : Below w1.heap.size w1 y2 := go_on hH1 hB
    clear hB
    go_wp2_with fail
    refine hK.out _ _ hN (fun hH2 => ?_)
    clear hN
    clear hK K
    refine wpAnyH_take (i := 8) (oi := { dst := some 22, op := Go.Op.binOp Go.BinOp.add 9 (Go.Operand.tmp 18) (Go.Operand.tmp 21) 9, type := 9, pos := "ref.go:255", after := #[{ on := 4, ground := Go.Ground.data }, { on := 7, ground := Go.Ground.data }], guard := none }) (v := .string O) rfl (by kernel_rfl) (by kernel_rfl) (by kernel_rfl) (fun _ _ _ h => h) (Or.inl ⟨by rfl, ?_⟩) (by assumption) ?_
    · intro w' hS; have hq := hcat2 w'; go_simp
    simp only [Act.put, List.setIfInBounds_toArray, List.set_cons_zero, List.set_cons_succ]
    refine wpAnyH_take (i := 9) (oi := { dst := some 6, op := Go.Op.assign (Go.Operand.tmp 22), type := 9, pos := "ref.go:255", after := #[{ on := 8, ground := Go.Ground.data }, { on := 7, ground := Go.Ground.chain }, { on := 0, ground := Go.Ground.phase }, { on := 1, ground := Go.Ground.phase }, { on := 2, ground := Go.Ground.phase }, { on := 3, ground := Go.Ground.phase }, { on := 4, ground := Go.Ground.phase }, { on := 5, ground := Go.Ground.phase }, { on := 6, ground := Go.Ground.phase }, { on := 7, ground := Go.Ground.phase }, { on := 8, ground := Go.Ground.phase }], guard := none }) (v := ?_) rfl (by kernel_rfl) (by kernel_rfl) (by kernel_rfl) (fun _ _ _ h => h) (Or.inl ⟨by rfl, ?_⟩) (by assumption) ?_
    rotate_left
    · intro w' hS; go_simp; (try with_reducible rfl)
    simp only [Act.put, List.setIfInBounds_toArray, List.set_cons_zero, List.set_cons_succ]
    refine wpAnyH_done (by kernel_rfl) ?_ _
    by_cases hO : O.size ≤ 1000
    · have d1 : decide ((1000 : Int) < O.size) = false := decide_eq_false (by omega)
      have d2 : ¬ ((1000 : Int) < O.size) := by omega
      have HR : Hid (prV O = .tuple #[.string O, .int .i64 0]) := by show _ = _; unfold prV; rw [if_pos hO]
      clear hO
      go_wp2_with fail
      go_ret2
      exact ⟨by rw [HVO.out, HR.out]; rfl, go_on HB1.out hH2⟩
    · have d1 : decide ((1000 : Int) < O.size) = true := decide_eq_true (by omega)
      have d2 : (1000 : Int) < O.size := by omega
      have HR : Hid (prV O = .tuple #[.string ⟨#[]⟩, .int .i64 6]) := by show _ = _; unfold prV; rw [if_neg hO]
      clear hO
      go_wp2_with fail
      go_ret2
      exact ⟨by rw [HVO.out, HR.out]; rfl, go_on HB1.out hH2⟩
end Go.Proofs.Ythhlamehbcidgaa
