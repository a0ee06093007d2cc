/- terms.Vars; the document's Vars. -/
import Derived.Test.YthhlamehbcidgaaY37
namespace Go.Proofs.Ythhlamehbcidgaa
open Go Go.RowKit Go.Lib
set_option linter.unusedVariables false

/-- What both Vars tell. -/
def vaV (L R : List (Int × Nat)) : Value := if ck2 L R = 0 then .tuple #[.string ⟨(vbs [L, R] 4).toArray⟩, .int .i64 0] else .tuple #[.string ⟨#[]⟩, .int .i64 (ck2 L R)]
theorem any2 (L R : List (Int × Nat)) (c : Nat) : ([L, R].any fun K => occ K c) = (occ L c || occ R c) := by simp
theorem ba_snoc (l : List UInt8) (c : UInt8) : (⟨l.toArray⟩ : ByteArray) ++ ⟨#[c]⟩ = ⟨(l ++ [c]).toArray⟩ := by
  apply ByteArray.ext
  rw [ByteArray.data_append]
  simp
theorem sr_two {w : World} {G : Nat} {vl vr : Value} {L R : List (Int × Nat)} (hg : w.heap[G]? = some (.cells #[vl, vr] 22 (0, 0))) (hl : SgR w vl L) (hr : SgR w vr R) (hL : L.length ≤ 9223372036854775000) (hR : R.length ≤ 9223372036854775000) : SR w G [vl, vr] [L, R] :=
  ⟨hg, rfl, fun j hj => by
    match j, hj with
    | 0, _ => exact ⟨hl, hL⟩
    | 1, _ => exact ⟨hr, hR⟩
    | j + 2, hj => simp at hj; omega⟩

set_option maxHeartbeats 4000000 in
set_option maxRecDepth 100000 in
theorem tVars_any (vl vr : Value) (x : Bool) (L R : List (Int × Nat)) (w : World) (hl : SgR w vl L) (hr : SgR w vr R) (hL : L.length ≤ 9223372036854775000) (hR : R.length ≤ 9223372036854775000) :
    Calls Try.prog 16 #[.agg #[vl, vr, .bool x]] w fun e w' => e = .returned (vaV L R) ∧ Below w.heap.size w w' := by
  obtain ⟨a1, c1, e1⟩ := hl.len
  obtain ⟨a2, c2, e2⟩ := hr.len
  subst e1 e2
  obtain ⟨w1, hw1⟩ : ∃ w1, w1 = w.alloc (.cells #[.slice a1 L.length c1, .slice a2 R.length c2, .bool x] 24) := ⟨_, rfl⟩
  have HW1 : Hid (w1 = w.alloc (.cells #[.slice a1 L.length c1, .slice a2 R.length c2, .bool x] 24)) := hw1
  have hb1 : Below w.heap.size w w1 := by rw [hw1]; exact below_new _ _
  have HI1 : Hid (w1.heap[w.heap.size]? = some (.cells #[.slice a1 L.length c1, .slice a2 R.length c2, .bool x] 24 (0, 0))) := by show _ = _; rw [hw1]; exact heap_last _ _
  have k0 : w1.cell? ⟨w.heap.size, 0, none⟩ = some (.slice a1 L.length c1) := cell_at HI1.out rfl
  have k1 : w1.cell? ⟨w.heap.size, 1, none⟩ = some (.slice a2 R.length c2) := cell_at HI1.out rfl
  have k2 : w1.cell? ⟨w.heap.size, 2, none⟩ = some (.bool x) := cell_at HI1.out rfl
  have HKK : Hid (∀ y, Below w1.heap.size w1 y → y.cell? ⟨w.heap.size, 0, none⟩ = some (.slice a1 L.length c1) ∧ y.cell? ⟨w.heap.size, 1, none⟩ = some (.slice a2 R.length c2)) := fun y hy => ⟨by rw [below_cell hy (Array.getElem?_eq_some_iff.1 HI1.out).1]; exact k0, by rw [below_cell hy (Array.getElem?_eq_some_iff.1 HI1.out).1]; exact k1⟩
  have HB1 : Hid (Below w.heap.size w w1) := hb1
  have HSL : Hid (SgR w1 (.slice a1 L.length c1) L) := hl.below hb1
  have HSR : Hid (SgR w1 (.slice a2 R.length c2) R) := hr.below hb1
  have HCK : Hid (Calls Try.prog 21 #[.agg #[.slice a1 L.length c1, .slice a2 R.length c2, .bool x]] w1 fun e w' => e = .returned (.int .i64 (ck2 L R)) ∧ Below w1.heap.size w1 w') := tCheck_any _ _ x L R w1 HSL.out HSR.out (by omega) (by omega)
  clear hl hr hw1 hb1
  by_cases hk : ck2 L R = 0
  rotate_left
  · obtain ⟨er, her⟩ : ∃ er, ck2 L R = er := ⟨_, rfl⟩
    have HV : Hid (vaV L R = .tuple #[.string ⟨#[]⟩, .int .i64 er]) := by show _ = _; unfold vaV; rw [if_neg hk, her]
    rw [her] at HCK hk
    have hneb : (er != 0) = true := by rw [bne_iff_ne]; exact hk
    have hned : decide (er ≠ 0) = true := decide_eq_true hk
    go_enter Try.func16, Try.ntmps16
    go_upto_region 1 with fail
    rw [← HW1.out]
    go_wp2_with fail
    refine Calls.mono HCK.out ?_
    rintro e w2 ⟨rfl, hb2⟩
    have HB2 : Hid (Below w.heap.size w w2) := go_on HB1.out hb2
    clear hb2 k0 k1 k2
    go_wp2_with fail
    go_ret2
    exact ⟨by rw [HV.out]; rfl, HB2.out⟩
  have HV : Hid (vaV L R = .tuple #[.string ⟨(vbs [L, R] 4).toArray⟩, .int .i64 0]) := by show _ = _; unfold vaV; rw [if_pos hk]
  rw [hk] at HCK
  clear hk
  go_enter Try.func16, Try.ntmps16
  go_upto_region 1 with fail
  rw [← HW1.out]
  go_wp2_with fail
  refine Calls.mono HCK.out ?_
  rintro e w2 ⟨rfl, hb2⟩
  have HB2 : Hid (Below w.heap.size w w2) := go_on HB1.out hb2
  obtain ⟨m0, m1⟩ := HKK.out w2 hb2
  have HVO : Hid (Calls Try.prog 34 #[.slice (some ⟨w2.heap.size, 0, none⟩) 2 2] (w2.alloc (.cells #[.slice a1 L.length c1, .slice a2 R.length c2] 22)) fun e w' => e = .returned (.string ⟨(vbs [L, R] 4).toArray⟩) ∧ Below (w2.alloc (.cells #[.slice a1 L.length c1, .slice a2 R.length c2] 22)).heap.size (w2.alloc (.cells #[.slice a1 L.length c1, .slice a2 R.length c2] 22)) w') := by
    have hbn := below_new w2 (.cells #[.slice a1 L.length c1, .slice a2 R.length c2] 22)
    exact variablesOf_any w2.heap.size _ [L, R] 2 _ (sr_two (heap_last _ _) ((HSL.out.below hb2).below hbn) ((HSR.out.below hb2).below hbn) hL hR) (by show 2 ≤ 40000; decide)
  have HB3 : Hid (Below w.heap.size w (w2.alloc (.cells #[.slice a1 L.length c1, .slice a2 R.length c2] 22))) := go_on HB2.out (below_new _ _)
  clear hb2 k0 k1 k2
  go_wp2_with fail
  refine Calls.mono HVO.out ?_
  rintro e w4 ⟨rfl, hb4⟩
  have HB4 : Hid (Below w.heap.size w w4) := go_on HB3.out hb4
  clear hb4 m0 m1
  go_wp2_with fail
  go_ret2
  exact ⟨by rw [HV.out]; rfl, HB4.out⟩

set_option maxHeartbeats 8000000 in
set_option maxRecDepth 100000 in
theorem rVars_any (vl vr : Value) (x : Bool) (L R : List (Int × Nat)) (w : World) (hl : SgR w vl L) (hr : SgR w vr R) (hL : L.length ≤ 9223372036854775000) (hR : R.length ≤ 9223372036854775000) :
    Calls Try.prog 19 #[.agg #[vl, vr, .bool x]] w fun e w' => e = .returned (vaV L R) ∧ Below w.heap.size w w' := by
  obtain ⟨a1, c1, e1⟩ := hl.len
  obtain ⟨a2, c2, e2⟩ := hr.len
  subst e1 e2
  obtain ⟨w1, hw1⟩ : ∃ w1, w1 = w.alloc (.cells #[.slice a1 L.length c1, .slice a2 R.length c2, .bool x] 24) := ⟨_, rfl⟩
  have HW1 : Hid (w1 = w.alloc (.cells #[.slice a1 L.length c1, .slice a2 R.length c2, .bool x] 24)) := hw1
  have hb1 : Below w.heap.size w w1 := by rw [hw1]; exact below_new _ _
  have HI1 : Hid (w1.heap[w.heap.size]? = some (.cells #[.slice a1 L.length c1, .slice a2 R.length c2, .bool x] 24 (0, 0))) := by show _ = _; rw [hw1]; exact heap_last _ _
  have k0 : w1.cell? ⟨w.heap.size, 0, none⟩ = some (.slice a1 L.length c1) := cell_at HI1.out rfl
  have k1 : w1.cell? ⟨w.heap.size, 1, none⟩ = some (.slice a2 R.length c2) := cell_at HI1.out rfl
  have k2 : w1.cell? ⟨w.heap.size, 2, none⟩ = some (.bool x) := cell_at HI1.out rfl
  have HKK : Hid (∀ y, Below w1.heap.size w1 y → y.cell? ⟨w.heap.size, 0, none⟩ = some (.slice a1 L.length c1) ∧ y.cell? ⟨w.heap.size, 1, none⟩ = some (.slice a2 R.length c2)) := fun y hy => ⟨by rw [below_cell hy (Array.getElem?_eq_some_iff.1 HI1.out).1]; exact k0, by rw [below_cell hy (Array.getElem?_eq_some_iff.1 HI1.out).1]; exact k1⟩
  have HB1 : Hid (Below w.heap.size w w1) := hb1
  have HSL : Hid (SgR w1 (.slice a1 L.length c1) L) := hl.below hb1
  have HSR : Hid (SgR w1 (.slice a2 R.length c2) R) := hr.below hb1
  have HCK : Hid (Calls Try.prog 22 #[.agg #[.slice a1 L.length c1, .slice a2 R.length c2, .bool x]] w1 fun e w' => e = .returned (.int .i64 (ck2 L R)) ∧ Below w1.heap.size w1 w') := rcheck_any _ _ x L R w1 HSL.out HSR.out (by omega) (by omega)
  clear hl hr hw1 hb1
  by_cases hk : ck2 L R = 0
  rotate_left
  · obtain ⟨er, her⟩ : ∃ er, ck2 L R = er := ⟨_, rfl⟩
    have HV : Hid (vaV L R = .tuple #[.string ⟨#[]⟩, .int .i64 er]) := by show _ = _; unfold vaV; rw [if_neg hk, her]
    rw [her] at HCK hk
    have hneb : (er != 0) = true := by rw [bne_iff_ne]; exact hk
    have hned : decide (er ≠ 0) = true := decide_eq_true hk
    go_enter Try.func19, Try.ntmps19
    go_upto_region 1 with fail
    rw [← HW1.out]
    go_wp2_with fail
    refine Calls.mono HCK.out ?_
    rintro e w2 ⟨rfl, hb2⟩
    have HB2 : Hid (Below w.heap.size w w2) := go_on HB1.out hb2
    clear hb2 k0 k1 k2
    go_wp2_with fail
    go_ret2
    exact ⟨by rw [HV.out]; rfl, HB2.out⟩
  have HV : Hid (vaV L R = .tuple #[.string ⟨(vbs [L, R] 4).toArray⟩, .int .i64 0]) := by show _ = _; unfold vaV; rw [if_pos hk]
  rw [hk] at HCK
  clear hk
  have HLR : Hid (L.length ≤ 9223372036854775000 ∧ R.length ≤ 9223372036854775000) := ⟨hL, hR⟩
  go_enter Try.func19, Try.ntmps19
  go_upto_region 1 with fail
  rw [← HW1.out]
  go_wp2_with fail
  refine Calls.mono HCK.out ?_
  rintro e w2 ⟨rfl, hb2⟩
  have HB2 : Hid (Below w1.heap.size w1 w2) := hb2
  clear hb2 k0 k1 k2
  go_wp2_with fail
  go_loopw [5, 6] (fun vo vi wr => ∃ i : Nat, vi = .int .i64 (i : Nat) ∧ i ≤ 4 ∧ vo = .string ⟨(vbs [L, R] i).toArray⟩ ∧ Below w1.heap.size w1 wr) (fun _ vi _ => 4 - (Go.RowKit.intOf vi).toNat)
  case atStart => exact ⟨0, rfl, by omega, rfl, HB2.out⟩
  case round =>
    obtain ⟨i, rfl, hin, rfl, hb⟩ := hrel
    have HB : Hid (Below w1.heap.size w1 wr) := hb
    have hvl := vbs_le [L, R] i
    clear hb
    by_cases hlt : i < 4
    · have h4 : i = 0 ∨ i = 1 ∨ i = 2 ∨ i = 3 := by omega
      rcases h4 with rfl | rfl | rfl | rfl
      · clear hlt hin
        have h4 : decide ((0 : Int) < 4) = true := rfl
        have HIL : Hid (∀ y, Below w1.heap.size w1 y → Calls Try.prog 37 #[.slice a1 L.length c1, .int .u8 120] y fun e w' => e = .returned (.bool (occ L 120)) ∧ Below y.heap.size y w') := fun y hy => rin_any _ L 120 y (HSL.out.below hy) HLR.out.1
        have HIR : Hid (∀ y, Below w1.heap.size w1 y → Calls Try.prog 37 #[.slice a2 R.length c2, .int .u8 120] y fun e w' => e = .returned (.bool (occ R 120)) ∧ Below y.heap.size y w') := fun y hy => rin_any _ R 120 y (HSR.out.below hy) HLR.out.2
        have HA : Hid (([L, R].any fun K => occ K (UInt8.toNat 120)) = (occ L 120 || occ R 120)) := any2 L R 120
        cases q1 : occ L 120 with
        | true =>
          have HANY : Hid (([L, R].any fun K => occ K (UInt8.toNat 120)) = true) := by show _ = _; rw [HA.out, q1]; rfl
          rw [q1] at HIL
          clear q1
          go_upto_region 8 with fail
          refine wp_region_held_drew (S := fun y => Below w1.heap.size w1 y) (by kernel_rfl) HB.out.drew (fun hH0 => ?_)
          generalize wr.drew = y0 at hH0 ⊢
          refine wpAnyH_take (i := 0) (oi := { dst := some 16, op := Go.Op.fieldAddr 24 (Go.Operand.tmp 1) 0, type := 0, pos := "ref.go:280", after := #[], guard := none }) (v := ?_) rfl (by kernel_rfl) (by kernel_rfl) (by kernel_rfl) (fun _ _ _ h => h) (Or.inl ⟨by rfl, ?_⟩) (by assumption) ?_
          rotate_left
          · intro w' hS; go_simp; (try with_reducible rfl)
          simp only [Act.put, List.setIfInBounds_toArray, List.set_cons_zero, List.set_cons_succ]
          refine wpAnyH_take (i := 1) (oi := { dst := some 17, op := Go.Op.load 22 (Go.Operand.tmp 16), type := 22, pos := "ref.go:280", after := #[{ on := 0, ground := Go.Ground.data }], guard := none }) (v := .slice a1 L.length c1) rfl (by kernel_rfl) (by kernel_rfl) (by kernel_rfl) (fun _ _ _ h => h) (Or.inl ⟨by rfl, ?_⟩) (by assumption) ?_
          · intro w' hS; have hz := (HKK.out w' hS).1; go_simp
          simp only [Act.put, List.setIfInBounds_toArray, List.set_cons_zero, List.set_cons_succ]
          refine wpAnyH_take (i := 2) (oi := { dst := some 18, op := Go.Op.move (Go.Operand.tmp 6), type := 3, pos := "ref.go:280", after := #[], guard := none }) (v := ?_) rfl (by kernel_rfl) (by kernel_rfl) (by kernel_rfl) (fun _ _ _ h => h) (Or.inl ⟨by rfl, ?_⟩) (by assumption) ?_
          rotate_left
          · intro w' hS; go_simp; (try with_reducible rfl)
          simp only [Act.put, List.setIfInBounds_toArray, List.set_cons_zero, List.set_cons_succ]
          refine wpAnyH_take (i := 3) (oi := { dst := some 19, op := Go.Op.index 9 (Go.Operand.const (Go.Value.string { data := #[120, 121, 122, 116] })) (Go.Operand.tmp 18), type := 5, pos := "ref.go:280", after := #[{ on := 2, ground := Go.Ground.data }], guard := none }) (v := .int .u8 120) rfl (by kernel_rfl) (by kernel_rfl) (by kernel_rfl) (fun _ _ _ h => h) (Or.inl ⟨by rfl, ?_⟩) (by assumption) ?_
          · intro w' hS; go_simp; rfl
          simp only [Act.put, List.setIfInBounds_toArray, List.set_cons_zero, List.set_cons_succ]
          refine wpAnyH_ready (rs := [4]) (by kernel_rfl) (by simp) ?_
          refine AllReadyH.cons rfl (fun K hK => ?_) AllReadyH.nil
          go_simp
          refine (HIL.out _ hH0).mono ?_
          rintro e y1 ⟨rfl, hB⟩
          have hN : Below w1.heap.size w1 y1 := go_on hH0 hB
          clear hB
          go_wp2_with fail
          refine hK.out _ _ hN (fun hH1 => ?_)
          clear hN
          clear hK K
          refine wpAnyH_take (i := 5) (oi := { dst := some 21, op := Go.Op.move (Go.Operand.tmp 20), type := 4, pos := "ref.go:280", after := #[{ on := 4, ground := Go.Ground.data }, { on := 4, ground := Go.Ground.chain }], guard := none }) (v := ?_) rfl (by kernel_rfl) (by kernel_rfl) (by kernel_rfl) (fun _ _ _ h => h) (Or.inl ⟨by rfl, ?_⟩) (by assumption) ?_
          rotate_left
          · intro w' hS; go_simp; (try with_reducible rfl)
          simp only [Act.put, List.setIfInBounds_toArray, List.set_cons_zero, List.set_cons_succ]
          refine wpAnyH_take (i := 6) (oi := { dst := some 22, op := Go.Op.fieldAddr 24 (Go.Operand.tmp 1) 1, type := 0, pos := "ref.go:280", after := #[{ on := 5, ground := Go.Ground.guard }], guard := some (5, false) }) (v := undef) rfl (by kernel_rfl) (by kernel_rfl) (by kernel_rfl) (fun _ _ _ h => h) (Or.inr ⟨by rfl, rfl⟩) (by assumption) ?_
          simp only [Act.put, List.setIfInBounds_toArray, List.set_cons_zero, List.set_cons_succ]
          refine wpAnyH_take (i := 7) (oi := { dst := some 23, op := Go.Op.load 22 (Go.Operand.tmp 22), type := 22, pos := "ref.go:280", after := #[{ on := 6, ground := Go.Ground.data }, { on := 5, ground := Go.Ground.guard }], guard := some (5, false) }) (v := undef) rfl (by kernel_rfl) (by kernel_rfl) (by kernel_rfl) (fun _ _ _ h => h) (Or.inr ⟨by rfl, rfl⟩) (by assumption) ?_
          simp only [Act.put, List.setIfInBounds_toArray, List.set_cons_zero, List.set_cons_succ]
          refine wpAnyH_take (i := 8) (oi := { dst := some 24, op := Go.Op.move (Go.Operand.tmp 6), type := 3, pos := "ref.go:280", after := #[{ on := 5, ground := Go.Ground.guard }], guard := some (5, false) }) (v := undef) rfl (by kernel_rfl) (by kernel_rfl) (by kernel_rfl) (fun _ _ _ h => h) (Or.inr ⟨by rfl, rfl⟩) (by assumption) ?_
          simp only [Act.put, List.setIfInBounds_toArray, List.set_cons_zero, List.set_cons_succ]
          refine wpAnyH_take (i := 9) (oi := { dst := some 25, op := Go.Op.index 9 (Go.Operand.const (Go.Value.string { data := #[120, 121, 122, 116] })) (Go.Operand.tmp 24), type := 5, pos := "ref.go:280", after := #[{ on := 8, ground := Go.Ground.data }, { on := 5, ground := Go.Ground.guard }], guard := some (5, false) }) (v := undef) rfl (by kernel_rfl) (by kernel_rfl) (by kernel_rfl) (fun _ _ _ h => h) (Or.inr ⟨by rfl, rfl⟩) (by assumption) ?_
          simp only [Act.put, List.setIfInBounds_toArray, List.set_cons_zero, List.set_cons_succ]
          refine wpAnyH_take (i := 10) (oi := { dst := some 26, op := Go.Op.call { callee := Go.Callee.value (Go.Operand.func 37), args := #[Go.Operand.tmp 23, Go.Operand.tmp 25], argTypes := #[22, 5] }, type := 4, pos := "ref.go:280", after := #[{ on := 7, ground := Go.Ground.data }, { on := 9, ground := Go.Ground.data }, { on := 5, ground := Go.Ground.chain }, { on := 5, ground := Go.Ground.guard }], guard := some (5, false) }) (v := undef) rfl (by kernel_rfl) (by kernel_rfl) (by kernel_rfl) (fun _ _ _ h => h) (Or.inr ⟨by rfl, rfl⟩) (by assumption) ?_
          simp only [Act.put, List.setIfInBounds_toArray, List.set_cons_zero, List.set_cons_succ]
          refine wpAnyH_take (i := 11) (oi := { dst := some 27, op := Go.Op.pick (Go.Operand.tmp 21) (Go.Operand.const (Go.Value.bool true)) (Go.Operand.tmp 26), type := 4, pos := "ref.go:280", after := #[{ on := 5, ground := Go.Ground.data }, { on := 10, ground := Go.Ground.data }], guard := none }) (v := .bool true) rfl (by kernel_rfl) (by kernel_rfl) (by kernel_rfl) (fun _ _ _ h => h) (Or.inl ⟨by rfl, ?_⟩) (by assumption) ?_
          · intro w' hS; go_simp
          simp only [Act.put, List.setIfInBounds_toArray, List.set_cons_zero, List.set_cons_succ]
          refine wpAnyH_done (by kernel_rfl) ?_ _
          have HY : Hid (vbs [L, R] (0 + 1) = vbs [L, R] 0 ++ [120]) := vbs_yes (c := 120) rfl HANY.out
          have hcat := run_cat (X := ⟨(vbs [L, R] 0).toArray⟩) (L := ⟨#[120]⟩) (by have h1 : (⟨(vbs [L, R] 0).toArray⟩ : ByteArray).size = (vbs [L, R] 0).length := (by simp [ByteArray.size]); have h2 : (⟨#[120]⟩ : ByteArray).size = 1 := rfl; have hmx : IntKind.i64.max = 9223372036854775807 := (by decide); omega)
          rw [ba_snoc] at hcat
          go_wp2_with fail
          go_roundw
          case rel => exact ⟨0 + 1, by go_num, by omega, by rw [HY.out, ← ba_snoc]; rfl, hH1⟩
          case measure => simp [Go.RowKit.intOf]
        | false =>
          rw [q1] at HIL
          cases q2 : occ R 120 with
          | true =>
            have HANY : Hid (([L, R].any fun K => occ K (UInt8.toNat 120)) = true) := by show _ = _; rw [HA.out, q1, q2]; rfl
            rw [q2] at HIR
            clear q1 q2
            go_upto_region 8 with fail
            refine wp_region_held_drew (S := fun y => Below w1.heap.size w1 y) (by kernel_rfl) HB.out.drew (fun hH0 => ?_)
            generalize wr.drew = y0 at hH0 ⊢
            refine wpAnyH_take (i := 0) (oi := { dst := some 16, op := Go.Op.fieldAddr 24 (Go.Operand.tmp 1) 0, type := 0, pos := "ref.go:280", after := #[], guard := none }) (v := ?_) rfl (by kernel_rfl) (by kernel_rfl) (by kernel_rfl) (fun _ _ _ h => h) (Or.inl ⟨by rfl, ?_⟩) (by assumption) ?_
            rotate_left
            · intro w' hS; go_simp; (try with_reducible rfl)
            simp only [Act.put, List.setIfInBounds_toArray, List.set_cons_zero, List.set_cons_succ]
            refine wpAnyH_take (i := 1) (oi := { dst := some 17, op := Go.Op.load 22 (Go.Operand.tmp 16), type := 22, pos := "ref.go:280", after := #[{ on := 0, ground := Go.Ground.data }], guard := none }) (v := .slice a1 L.length c1) rfl (by kernel_rfl) (by kernel_rfl) (by kernel_rfl) (fun _ _ _ h => h) (Or.inl ⟨by rfl, ?_⟩) (by assumption) ?_
            · intro w' hS; have hz := (HKK.out w' hS).1; go_simp
            simp only [Act.put, List.setIfInBounds_toArray, List.set_cons_zero, List.set_cons_succ]
            refine wpAnyH_take (i := 2) (oi := { dst := some 18, op := Go.Op.move (Go.Operand.tmp 6), type := 3, pos := "ref.go:280", after := #[], guard := none }) (v := ?_) rfl (by kernel_rfl) (by kernel_rfl) (by kernel_rfl) (fun _ _ _ h => h) (Or.inl ⟨by rfl, ?_⟩) (by assumption) ?_
            rotate_left
            · intro w' hS; go_simp; (try with_reducible rfl)
            simp only [Act.put, List.setIfInBounds_toArray, List.set_cons_zero, List.set_cons_succ]
            refine wpAnyH_take (i := 3) (oi := { dst := some 19, op := Go.Op.index 9 (Go.Operand.const (Go.Value.string { data := #[120, 121, 122, 116] })) (Go.Operand.tmp 18), type := 5, pos := "ref.go:280", after := #[{ on := 2, ground := Go.Ground.data }], guard := none }) (v := .int .u8 120) rfl (by kernel_rfl) (by kernel_rfl) (by kernel_rfl) (fun _ _ _ h => h) (Or.inl ⟨by rfl, ?_⟩) (by assumption) ?_
            · intro w' hS; go_simp; rfl
            simp only [Act.put, List.setIfInBounds_toArray, List.set_cons_zero, List.set_cons_succ]
            refine wpAnyH_ready (rs := [4]) (by kernel_rfl) (by simp) ?_
            refine AllReadyH.cons rfl (fun K hK => ?_) AllReadyH.nil
            go_simp
            refine (HIL.out _ hH0).mono ?_
            rintro e y1 ⟨rfl, hB⟩
            have hN : Below w1.heap.size w1 y1 := go_on hH0 hB
            clear hB
            go_wp2_with fail
            refine hK.out _ _ hN (fun hH1 => ?_)
            clear hN
            clear hK K
            refine wpAnyH_take (i := 5) (oi := { dst := some 21, op := Go.Op.move (Go.Operand.tmp 20), type := 4, pos := "ref.go:280", after := #[{ on := 4, ground := Go.Ground.data }, { on := 4, ground := Go.Ground.chain }], guard := none }) (v := ?_) rfl (by kernel_rfl) (by kernel_rfl) (by kernel_rfl) (fun _ _ _ h => h) (Or.inl ⟨by rfl, ?_⟩) (by assumption) ?_
            rotate_left
            · intro w' hS; go_simp; (try with_reducible rfl)
            simp only [Act.put, List.setIfInBounds_toArray, List.set_cons_zero, List.set_cons_succ]
            refine wpAnyH_take (i := 6) (oi := { dst := some 22, op := Go.Op.fieldAddr 24 (Go.Operand.tmp 1) 1, type := 0, pos := "ref.go:280", after := #[{ on := 5, ground := Go.Ground.guard }], guard := some (5, false) }) (v := ?_) rfl (by kernel_rfl) (by kernel_rfl) (by kernel_rfl) (fun _ _ _ h => h) (Or.inl ⟨by rfl, ?_⟩) (by assumption) ?_
            rotate_left
            · intro w' hS; go_simp; (try with_reducible rfl)
            simp only [Act.put, List.setIfInBounds_toArray, List.set_cons_zero, List.set_cons_succ]
            refine wpAnyH_take (i := 7) (oi := { dst := some 23, op := Go.Op.load 22 (Go.Operand.tmp 22), type := 22, pos := "ref.go:280", after := #[{ on := 6, ground := Go.Ground.data }, { on := 5, ground := Go.Ground.guard }], guard := some (5, false) }) (v := .slice a2 R.length c2) rfl (by kernel_rfl) (by kernel_rfl) (by kernel_rfl) (fun _ _ _ h => h) (Or.inl ⟨by rfl, ?_⟩) (by assumption) ?_
            · intro w' hS; have hz := (HKK.out w' hS).2; go_simp
            simp only [Act.put, List.setIfInBounds_toArray, List.set_cons_zero, List.set_cons_succ]
            refine wpAnyH_take (i := 8) (oi := { dst := some 24, op := Go.Op.move (Go.Operand.tmp 6), type := 3, pos := "ref.go:280", after := #[{ on := 5, ground := Go.Ground.guard }], guard := some (5, false) }) (v := ?_) rfl (by kernel_rfl) (by kernel_rfl) (by kernel_rfl) (fun _ _ _ h => h) (Or.inl ⟨by rfl, ?_⟩) (by assumption) ?_
            rotate_left
            · intro w' hS; go_simp; (try with_reducible rfl)
            simp only [Act.put, List.setIfInBounds_toArray, List.set_cons_zero, List.set_cons_succ]
            refine wpAnyH_take (i := 9) (oi := { dst := some 25, op := Go.Op.index 9 (Go.Operand.const (Go.Value.string { data := #[120, 121, 122, 116] })) (Go.Operand.tmp 24), type := 5, pos := "ref.go:280", after := #[{ on := 8, ground := Go.Ground.data }, { on := 5, ground := Go.Ground.guard }], guard := some (5, false) }) (v := .int .u8 120) rfl (by kernel_rfl) (by kernel_rfl) (by kernel_rfl) (fun _ _ _ h => h) (Or.inl ⟨by rfl, ?_⟩) (by assumption) ?_
            · intro w' hS; go_simp; rfl
            simp only [Act.put, List.setIfInBounds_toArray, List.set_cons_zero, List.set_cons_succ]
            refine wpAnyH_ready (rs := [10]) (by kernel_rfl) (by simp) ?_
            refine AllReadyH.cons rfl (fun K hK => ?_) AllReadyH.nil
            go_simp
            refine (HIR.out _ hH1).mono ?_
            rintro e y2 ⟨rfl, hB⟩
            have hN : Below w1.heap.size w1 y2 := go_on hH1 hB
            clear hB
            go_wp2_with fail
            refine hK.out _ _ hN (fun hH2 => ?_)
            clear hN
            clear hK K
            refine wpAnyH_take (i := 11) (oi := { dst := some 27, op := Go.Op.pick (Go.Operand.tmp 21) (Go.Operand.const (Go.Value.bool true)) (Go.Operand.tmp 26), type := 4, pos := "ref.go:280", after := #[{ on := 5, ground := Go.Ground.data }, { on := 10, ground := Go.Ground.data }], guard := none }) (v := .bool true) rfl (by kernel_rfl) (by kernel_rfl) (by kernel_rfl) (fun _ _ _ h => h) (Or.inl ⟨by rfl, ?_⟩) (by assumption) ?_
            · intro w' hS; go_simp
            simp only [Act.put, List.setIfInBounds_toArray, List.set_cons_zero, List.set_cons_succ]
            refine wpAnyH_done (by kernel_rfl) ?_ _
            have HY : Hid (vbs [L, R] (0 + 1) = vbs [L, R] 0 ++ [120]) := vbs_yes (c := 120) rfl HANY.out
            have hcat := run_cat (X := ⟨(vbs [L, R] 0).toArray⟩) (L := ⟨#[120]⟩) (by have h1 : (⟨(vbs [L, R] 0).toArray⟩ : ByteArray).size = (vbs [L, R] 0).length := (by simp [ByteArray.size]); have h2 : (⟨#[120]⟩ : ByteArray).size = 1 := rfl; have hmx : IntKind.i64.max = 9223372036854775807 := (by decide); omega)
            rw [ba_snoc] at hcat
            go_wp2_with fail
            go_roundw
            case rel => exact ⟨0 + 1, by go_num, by omega, by rw [HY.out, ← ba_snoc]; rfl, hH2⟩
            case measure => simp [Go.RowKit.intOf]
          | false =>
            have HANY : Hid (([L, R].any fun K => occ K (UInt8.toNat 120)) = false) := by show _ = _; rw [HA.out, q1, q2]; rfl
            rw [q2] at HIR
            clear q1 q2
            go_upto_region 8 with fail
            refine wp_region_held_drew (S := fun y => Below w1.heap.size w1 y) (by kernel_rfl) HB.out.drew (fun hH0 => ?_)
            generalize wr.drew = y0 at hH0 ⊢
            refine wpAnyH_take (i := 0) (oi := { dst := some 16, op := Go.Op.fieldAddr 24 (Go.Operand.tmp 1) 0, type := 0, pos := "ref.go:280", after := #[], guard := none }) (v := ?_) rfl (by kernel_rfl) (by kernel_rfl) (by kernel_rfl) (fun _ _ _ h => h) (Or.inl ⟨by rfl, ?_⟩) (by assumption) ?_
            rotate_left
            · intro w' hS; go_simp; (try with_reducible rfl)
            simp only [Act.put, List.setIfInBounds_toArray, List.set_cons_zero, List.set_cons_succ]
            refine wpAnyH_take (i := 1) (oi := { dst := some 17, op := Go.Op.load 22 (Go.Operand.tmp 16), type := 22, pos := "ref.go:280", after := #[{ on := 0, ground := Go.Ground.data }], guard := none }) (v := .slice a1 L.length c1) rfl (by kernel_rfl) (by kernel_rfl) (by kernel_rfl) (fun _ _ _ h => h) (Or.inl ⟨by rfl, ?_⟩) (by assumption) ?_
            · intro w' hS; have hz := (HKK.out w' hS).1; go_simp
            simp only [Act.put, List.setIfInBounds_toArray, List.set_cons_zero, List.set_cons_succ]
            refine wpAnyH_take (i := 2) (oi := { dst := some 18, op := Go.Op.move (Go.Operand.tmp 6), type := 3, pos := "ref.go:280", after := #[], guard := none }) (v := ?_) rfl (by kernel_rfl) (by kernel_rfl) (by kernel_rfl) (fun _ _ _ h => h) (Or.inl ⟨by rfl, ?_⟩) (by assumption) ?_
            rotate_left
            · intro w' hS; go_simp; (try with_reducible rfl)
            simp only [Act.put, List.setIfInBounds_toArray, List.set_cons_zero, List.set_cons_succ]
            refine wpAnyH_take (i := 3) (oi := { dst := some 19, op := Go.Op.index 9 (Go.Operand.const (Go.Value.string { data := #[120, 121, 122, 116] })) (Go.Operand.tmp 18), type := 5, pos := "ref.go:280", after := #[{ on := 2, ground := Go.Ground.data }], guard := none }) (v := .int .u8 120) rfl (by kernel_rfl) (by kernel_rfl) (by kernel_rfl) (fun _ _ _ h => h) (Or.inl ⟨by rfl, ?_⟩) (by assumption) ?_
            · intro w' hS; go_simp; rfl
            simp only [Act.put, List.setIfInBounds_toArray, List.set_cons_zero, List.set_cons_succ]
            refine wpAnyH_ready (rs := [4]) (by kernel_rfl) (by simp) ?_
            refine AllReadyH.cons rfl (fun K hK => ?_) AllReadyH.nil
            go_simp
            refine (HIL.out _ hH0).mono ?_
            rintro e y1 ⟨rfl, hB⟩
            have hN : Below w1.heap.size w1 y1 := go_on hH0 hB
            clear hB
            go_wp2_with fail
            refine hK.out _ _ hN (fun hH1 => ?_)
            clear hN
            clear hK K
            refine wpAnyH_take (i := 5) (oi := { dst := some 21, op := Go.Op.move (Go.Operand.tmp 20), type := 4, pos := "ref.go:280", after := #[{ on := 4, ground := Go.Ground.data }, { on := 4, ground := Go.Ground.chain }], guard := none }) (v := ?_) rfl (by kernel_rfl) (by kernel_rfl) (by kernel_rfl) (fun _ _ _ h => h) (Or.inl ⟨by rfl, ?_⟩) (by assumption) ?_
            rotate_left
            · intro w' hS; go_simp; (try with_reducible rfl)
            simp only [Act.put, List.setIfInBounds_toArray, List.set_cons_zero, List.set_cons_succ]
            refine wpAnyH_take (i := 6) (oi := { dst := some 22, op := Go.Op.fieldAddr 24 (Go.Operand.tmp 1) 1, type := 0, pos := "ref.go:280", after := #[{ on := 5, ground := Go.Ground.guard }], guard := some (5, false) }) (v := ?_) rfl (by kernel_rfl) (by kernel_rfl) (by kernel_rfl) (fun _ _ _ h => h) (Or.inl ⟨by rfl, ?_⟩) (by assumption) ?_
            rotate_left
            · intro w' hS; go_simp; (try with_reducible rfl)
            simp only [Act.put, List.setIfInBounds_toArray, List.set_cons_zero, List.set_cons_succ]
            refine wpAnyH_take (i := 7) (oi := { dst := some 23, op := Go.Op.load 22 (Go.Operand.tmp 22), type := 22, pos := "ref.go:280", after := #[{ on := 6, ground := Go.Ground.data }, { on := 5, ground := Go.Ground.guard }], guard := some (5, false) }) (v := .slice a2 R.length c2) rfl (by kernel_rfl) (by kernel_rfl) (by kernel_rfl) (fun _ _ _ h => h) (Or.inl ⟨by rfl, ?_⟩) (by assumption) ?_
            · intro w' hS; have hz := (HKK.out w' hS).2; go_simp
            simp only [Act.put, List.setIfInBounds_toArray, List.set_cons_zero, List.set_cons_succ]
            refine wpAnyH_take (i := 8) (oi := { dst := some 24, op := Go.Op.move (Go.Operand.tmp 6), type := 3, pos := "ref.go:280", after := #[{ on := 5, ground := Go.Ground.guard }], guard := some (5, false) }) (v := ?_) rfl (by kernel_rfl) (by kernel_rfl) (by kernel_rfl) (fun _ _ _ h => h) (Or.inl ⟨by rfl, ?_⟩) (by assumption) ?_
            rotate_left
            · intro w' hS; go_simp; (try with_reducible rfl)
            simp only [Act.put, List.setIfInBounds_toArray, List.set_cons_zero, List.set_cons_succ]
            refine wpAnyH_take (i := 9) (oi := { dst := some 25, op := Go.Op.index 9 (Go.Operand.const (Go.Value.string { data := #[120, 121, 122, 116] })) (Go.Operand.tmp 24), type := 5, pos := "ref.go:280", after := #[{ on := 8, ground := Go.Ground.data }, { on := 5, ground := Go.Ground.guard }], guard := some (5, false) }) (v := .int .u8 120) rfl (by kernel_rfl) (by kernel_rfl) (by kernel_rfl) (fun _ _ _ h => h) (Or.inl ⟨by rfl, ?_⟩) (by assumption) ?_
            · intro w' hS; go_simp; rfl
            simp only [Act.put, List.setIfInBounds_toArray, List.set_cons_zero, List.set_cons_succ]
            refine wpAnyH_ready (rs := [10]) (by kernel_rfl) (by simp) ?_
            refine AllReadyH.cons rfl (fun K hK => ?_) AllReadyH.nil
            go_simp
            refine (HIR.out _ hH1).mono ?_
            rintro e y2 ⟨rfl, hB⟩
            have hN : Below w1.heap.size w1 y2 := go_on hH1 hB
            clear hB
            go_wp2_with fail
            refine hK.out _ _ hN (fun hH2 => ?_)
            clear hN
            clear hK K
            refine wpAnyH_take (i := 11) (oi := { dst := some 27, op := Go.Op.pick (Go.Operand.tmp 21) (Go.Operand.const (Go.Value.bool true)) (Go.Operand.tmp 26), type := 4, pos := "ref.go:280", after := #[{ on := 5, ground := Go.Ground.data }, { on := 10, ground := Go.Ground.data }], guard := none }) (v := .bool false) rfl (by kernel_rfl) (by kernel_rfl) (by kernel_rfl) (fun _ _ _ h => h) (Or.inl ⟨by rfl, ?_⟩) (by assumption) ?_
            · intro w' hS; go_simp
            simp only [Act.put, List.setIfInBounds_toArray, List.set_cons_zero, List.set_cons_succ]
            refine wpAnyH_done (by kernel_rfl) ?_ _
            have HY : Hid (vbs [L, R] (0 + 1) = vbs [L, R] 0) := vbs_no (c := 120) rfl HANY.out
            go_wp2_with fail
            go_roundw
            case rel => exact ⟨0 + 1, by go_num, by omega, by rw [HY.out], hH2⟩
            case measure => simp [Go.RowKit.intOf]
      · clear hlt hin
        have h4 : decide ((1 : Int) < 4) = true := rfl
        have HIL : Hid (∀ y, Below w1.heap.size w1 y → Calls Try.prog 37 #[.slice a1 L.length c1, .int .u8 121] y fun e w' => e = .returned (.bool (occ L 121)) ∧ Below y.heap.size y w') := fun y hy => rin_any _ L 121 y (HSL.out.below hy) HLR.out.1
        have HIR : Hid (∀ y, Below w1.heap.size w1 y → Calls Try.prog 37 #[.slice a2 R.length c2, .int .u8 121] y fun e w' => e = .returned (.bool (occ R 121)) ∧ Below y.heap.size y w') := fun y hy => rin_any _ R 121 y (HSR.out.below hy) HLR.out.2
        have HA : Hid (([L, R].any fun K => occ K (UInt8.toNat 121)) = (occ L 121 || occ R 121)) := any2 L R 121
        cases q1 : occ L 121 with
        | true =>
          have HANY : Hid (([L, R].any fun K => occ K (UInt8.toNat 121)) = true) := by show _ = _; rw [HA.out, q1]; rfl
          rw [q1] at HIL
          clear q1
          go_upto_region 8 with fail
          refine wp_region_held_drew (S := fun y => Below w1.heap.size w1 y) (by kernel_rfl) HB.out.drew (fun hH0 => ?_)
          generalize wr.drew = y0 at hH0 ⊢
          refine wpAnyH_take (i := 0) (oi := { dst := some 16, op := Go.Op.fieldAddr 24 (Go.Operand.tmp 1) 0, type := 0, pos := "ref.go:280", after := #[], guard := none }) (v := ?_) rfl (by kernel_rfl) (by kernel_rfl) (by kernel_rfl) (fun _ _ _ h => h) (Or.inl ⟨by rfl, ?_⟩) (by assumption) ?_
          rotate_left
          · intro w' hS; go_simp; (try with_reducible rfl)
          simp only [Act.put, List.setIfInBounds_toArray, List.set_cons_zero, List.set_cons_succ]
          refine wpAnyH_take (i := 1) (oi := { dst := some 17, op := Go.Op.load 22 (Go.Operand.tmp 16), type := 22, pos := "ref.go:280", after := #[{ on := 0, ground := Go.Ground.data }], guard := none }) (v := .slice a1 L.length c1) rfl (by kernel_rfl) (by kernel_rfl) (by kernel_rfl) (fun _ _ _ h => h) (Or.inl ⟨by rfl, ?_⟩) (by assumption) ?_
          · intro w' hS; have hz := (HKK.out w' hS).1; go_simp
          simp only [Act.put, List.setIfInBounds_toArray, List.set_cons_zero, List.set_cons_succ]
          refine wpAnyH_take (i := 2) (oi := { dst := some 18, op := Go.Op.move (Go.Operand.tmp 6), type := 3, pos := "ref.go:280", after := #[], guard := none }) (v := ?_) rfl (by kernel_rfl) (by kernel_rfl) (by kernel_rfl) (fun _ _ _ h => h) (Or.inl ⟨by rfl, ?_⟩) (by assumption) ?_
          rotate_left
          · intro w' hS; go_simp; (try with_reducible rfl)
          simp only [Act.put, List.setIfInBounds_toArray, List.set_cons_zero, List.set_cons_succ]
          refine wpAnyH_take (i := 3) (oi := { dst := some 19, op := Go.Op.index 9 (Go.Operand.const (Go.Value.string { data := #[120, 121, 122, 116] })) (Go.Operand.tmp 18), type := 5, pos := "ref.go:280", after := #[{ on := 2, ground := Go.Ground.data }], guard := none }) (v := .int .u8 121) rfl (by kernel_rfl) (by kernel_rfl) (by kernel_rfl) (fun _ _ _ h => h) (Or.inl ⟨by rfl, ?_⟩) (by assumption) ?_
          · intro w' hS; go_simp; rfl
          simp only [Act.put, List.setIfInBounds_toArray, List.set_cons_zero, List.set_cons_succ]
          refine wpAnyH_ready (rs := [4]) (by kernel_rfl) (by simp) ?_
          refine AllReadyH.cons rfl (fun K hK => ?_) AllReadyH.nil
          go_simp
          refine (HIL.out _ hH0).mono ?_
          rintro e y1 ⟨rfl, hB⟩
          have hN : Below w1.heap.size w1 y1 := go_on hH0 hB
          clear hB
          go_wp2_with fail
          refine hK.out _ _ hN (fun hH1 => ?_)
          clear hN
          clear hK K
          refine wpAnyH_take (i := 5) (oi := { dst := some 21, op := Go.Op.move (Go.Operand.tmp 20), type := 4, pos := "ref.go:280", after := #[{ on := 4, ground := Go.Ground.data }, { on := 4, ground := Go.Ground.chain }], guard := none }) (v := ?_) rfl (by kernel_rfl) (by kernel_rfl) (by kernel_rfl) (fun _ _ _ h => h) (Or.inl ⟨by rfl, ?_⟩) (by assumption) ?_
          rotate_left
          · intro w' hS; go_simp; (try with_reducible rfl)
          simp only [Act.put, List.setIfInBounds_toArray, List.set_cons_zero, List.set_cons_succ]
          refine wpAnyH_take (i := 6) (oi := { dst := some 22, op := Go.Op.fieldAddr 24 (Go.Operand.tmp 1) 1, type := 0, pos := "ref.go:280", after := #[{ on := 5, ground := Go.Ground.guard }], guard := some (5, false) }) (v := undef) rfl (by kernel_rfl) (by kernel_rfl) (by kernel_rfl) (fun _ _ _ h => h) (Or.inr ⟨by rfl, rfl⟩) (by assumption) ?_
          simp only [Act.put, List.setIfInBounds_toArray, List.set_cons_zero, List.set_cons_succ]
          refine wpAnyH_take (i := 7) (oi := { dst := some 23, op := Go.Op.load 22 (Go.Operand.tmp 22), type := 22, pos := "ref.go:280", after := #[{ on := 6, ground := Go.Ground.data }, { on := 5, ground := Go.Ground.guard }], guard := some (5, false) }) (v := undef) rfl (by kernel_rfl) (by kernel_rfl) (by kernel_rfl) (fun _ _ _ h => h) (Or.inr ⟨by rfl, rfl⟩) (by assumption) ?_
          simp only [Act.put, List.setIfInBounds_toArray, List.set_cons_zero, List.set_cons_succ]
          refine wpAnyH_take (i := 8) (oi := { dst := some 24, op := Go.Op.move (Go.Operand.tmp 6), type := 3, pos := "ref.go:280", after := #[{ on := 5, ground := Go.Ground.guard }], guard := some (5, false) }) (v := undef) rfl (by kernel_rfl) (by kernel_rfl) (by kernel_rfl) (fun _ _ _ h => h) (Or.inr ⟨by rfl, rfl⟩) (by assumption) ?_
          simp only [Act.put, List.setIfInBounds_toArray, List.set_cons_zero, List.set_cons_succ]
          refine wpAnyH_take (i := 9) (oi := { dst := some 25, op := Go.Op.index 9 (Go.Operand.const (Go.Value.string { data := #[120, 121, 122, 116] })) (Go.Operand.tmp 24), type := 5, pos := "ref.go:280", after := #[{ on := 8, ground := Go.Ground.data }, { on := 5, ground := Go.Ground.guard }], guard := some (5, false) }) (v := undef) rfl (by kernel_rfl) (by kernel_rfl) (by kernel_rfl) (fun _ _ _ h => h) (Or.inr ⟨by rfl, rfl⟩) (by assumption) ?_
          simp only [Act.put, List.setIfInBounds_toArray, List.set_cons_zero, List.set_cons_succ]
          refine wpAnyH_take (i := 10) (oi := { dst := some 26, op := Go.Op.call { callee := Go.Callee.value (Go.Operand.func 37), args := #[Go.Operand.tmp 23, Go.Operand.tmp 25], argTypes := #[22, 5] }, type := 4, pos := "ref.go:280", after := #[{ on := 7, ground := Go.Ground.data }, { on := 9, ground := Go.Ground.data }, { on := 5, ground := Go.Ground.chain }, { on := 5, ground := Go.Ground.guard }], guard := some (5, false) }) (v := undef) rfl (by kernel_rfl) (by kernel_rfl) (by kernel_rfl) (fun _ _ _ h => h) (Or.inr ⟨by rfl, rfl⟩) (by assumption) ?_
          simp only [Act.put, List.setIfInBounds_toArray, List.set_cons_zero, List.set_cons_succ]
          refine wpAnyH_take (i := 11) (oi := { dst := some 27, op := Go.Op.pick (Go.Operand.tmp 21) (Go.Operand.const (Go.Value.bool true)) (Go.Operand.tmp 26), type := 4, pos := "ref.go:280", after := #[{ on := 5, ground := Go.Ground.data }, { on := 10, ground := Go.Ground.data }], guard := none }) (v := .bool true) rfl (by kernel_rfl) (by kernel_rfl) (by kernel_rfl) (fun _ _ _ h => h) (Or.inl ⟨by rfl, ?_⟩) (by assumption) ?_
          · intro w' hS; go_simp
          simp only [Act.put, List.setIfInBounds_toArray, List.set_cons_zero, List.set_cons_succ]
          refine wpAnyH_done (by kernel_rfl) ?_ _
          have HY : Hid (vbs [L, R] (1 + 1) = vbs [L, R] 1 ++ [121]) := vbs_yes (c := 121) rfl HANY.out
          have hcat := run_cat (X := ⟨(vbs [L, R] 1).toArray⟩) (L := ⟨#[121]⟩) (by have h1 : (⟨(vbs [L, R] 1).toArray⟩ : ByteArray).size = (vbs [L, R] 1).length := (by simp [ByteArray.size]); have h2 : (⟨#[121]⟩ : ByteArray).size = 1 := rfl; have hmx : IntKind.i64.max = 9223372036854775807 := (by decide); omega)
          rw [ba_snoc] at hcat
          go_wp2_with fail
          go_roundw
          case rel => exact ⟨1 + 1, by go_num, by omega, by rw [HY.out, ← ba_snoc]; rfl, hH1⟩
          case measure => simp [Go.RowKit.intOf]
        | false =>
          rw [q1] at HIL
          cases q2 : occ R 121 with
          | true =>
            have HANY : Hid (([L, R].any fun K => occ K (UInt8.toNat 121)) = true) := by show _ = _; rw [HA.out, q1, q2]; rfl
            rw [q2] at HIR
            clear q1 q2
            go_upto_region 8 with fail
            refine wp_region_held_drew (S := fun y => Below w1.heap.size w1 y) (by kernel_rfl) HB.out.drew (fun hH0 => ?_)
            generalize wr.drew = y0 at hH0 ⊢
            refine wpAnyH_take (i := 0) (oi := { dst := some 16, op := Go.Op.fieldAddr 24 (Go.Operand.tmp 1) 0, type := 0, pos := "ref.go:280", after := #[], guard := none }) (v := ?_) rfl (by kernel_rfl) (by kernel_rfl) (by kernel_rfl) (fun _ _ _ h => h) (Or.inl ⟨by rfl, ?_⟩) (by assumption) ?_
            rotate_left
            · intro w' hS; go_simp; (try with_reducible rfl)
            simp only [Act.put, List.setIfInBounds_toArray, List.set_cons_zero, List.set_cons_succ]
            refine wpAnyH_take (i := 1) (oi := { dst := some 17, op := Go.Op.load 22 (Go.Operand.tmp 16), type := 22, pos := "ref.go:280", after := #[{ on := 0, ground := Go.Ground.data }], guard := none }) (v := .slice a1 L.length c1) rfl (by kernel_rfl) (by kernel_rfl) (by kernel_rfl) (fun _ _ _ h => h) (Or.inl ⟨by rfl, ?_⟩) (by assumption) ?_
            · intro w' hS; have hz := (HKK.out w' hS).1; go_simp
            simp only [Act.put, List.setIfInBounds_toArray, List.set_cons_zero, List.set_cons_succ]
            refine wpAnyH_take (i := 2) (oi := { dst := some 18, op := Go.Op.move (Go.Operand.tmp 6), type := 3, pos := "ref.go:280", after := #[], guard := none }) (v := ?_) rfl (by kernel_rfl) (by kernel_rfl) (by kernel_rfl) (fun _ _ _ h => h) (Or.inl ⟨by rfl, ?_⟩) (by assumption) ?_
            rotate_left
            · intro w' hS; go_simp; (try with_reducible rfl)
            simp only [Act.put, List.setIfInBounds_toArray, List.set_cons_zero, List.set_cons_succ]
            refine wpAnyH_take (i := 3) (oi := { dst := some 19, op := Go.Op.index 9 (Go.Operand.const (Go.Value.string { data := #[120, 121, 122, 116] })) (Go.Operand.tmp 18), type := 5, pos := "ref.go:280", after := #[{ on := 2, ground := Go.Ground.data }], guard := none }) (v := .int .u8 121) rfl (by kernel_rfl) (by kernel_rfl) (by kernel_rfl) (fun _ _ _ h => h) (Or.inl ⟨by rfl, ?_⟩) (by assumption) ?_
            · intro w' hS; go_simp; rfl
            simp only [Act.put, List.setIfInBounds_toArray, List.set_cons_zero, List.set_cons_succ]
            refine wpAnyH_ready (rs := [4]) (by kernel_rfl) (by simp) ?_
            refine AllReadyH.cons rfl (fun K hK => ?_) AllReadyH.nil
            go_simp
            refine (HIL.out _ hH0).mono ?_
            rintro e y1 ⟨rfl, hB⟩
            have hN : Below w1.heap.size w1 y1 := go_on hH0 hB
            clear hB
            go_wp2_with fail
            refine hK.out _ _ hN (fun hH1 => ?_)
            clear hN
            clear hK K
            refine wpAnyH_take (i := 5) (oi := { dst := some 21, op := Go.Op.move (Go.Operand.tmp 20), type := 4, pos := "ref.go:280", after := #[{ on := 4, ground := Go.Ground.data }, { on := 4, ground := Go.Ground.chain }], guard := none }) (v := ?_) rfl (by kernel_rfl) (by kernel_rfl) (by kernel_rfl) (fun _ _ _ h => h) (Or.inl ⟨by rfl, ?_⟩) (by assumption) ?_
            rotate_left
            · intro w' hS; go_simp; (try with_reducible rfl)
            simp only [Act.put, List.setIfInBounds_toArray, List.set_cons_zero, List.set_cons_succ]
            refine wpAnyH_take (i := 6) (oi := { dst := some 22, op := Go.Op.fieldAddr 24 (Go.Operand.tmp 1) 1, type := 0, pos := "ref.go:280", after := #[{ on := 5, ground := Go.Ground.guard }], guard := some (5, false) }) (v := ?_) rfl (by kernel_rfl) (by kernel_rfl) (by kernel_rfl) (fun _ _ _ h => h) (Or.inl ⟨by rfl, ?_⟩) (by assumption) ?_
            rotate_left
            · intro w' hS; go_simp; (try with_reducible rfl)
            simp only [Act.put, List.setIfInBounds_toArray, List.set_cons_zero, List.set_cons_succ]
            refine wpAnyH_take (i := 7) (oi := { dst := some 23, op := Go.Op.load 22 (Go.Operand.tmp 22), type := 22, pos := "ref.go:280", after := #[{ on := 6, ground := Go.Ground.data }, { on := 5, ground := Go.Ground.guard }], guard := some (5, false) }) (v := .slice a2 R.length c2) rfl (by kernel_rfl) (by kernel_rfl) (by kernel_rfl) (fun _ _ _ h => h) (Or.inl ⟨by rfl, ?_⟩) (by assumption) ?_
            · intro w' hS; have hz := (HKK.out w' hS).2; go_simp
            simp only [Act.put, List.setIfInBounds_toArray, List.set_cons_zero, List.set_cons_succ]
            refine wpAnyH_take (i := 8) (oi := { dst := some 24, op := Go.Op.move (Go.Operand.tmp 6), type := 3, pos := "ref.go:280", after := #[{ on := 5, ground := Go.Ground.guard }], guard := some (5, false) }) (v := ?_) rfl (by kernel_rfl) (by kernel_rfl) (by kernel_rfl) (fun _ _ _ h => h) (Or.inl ⟨by rfl, ?_⟩) (by assumption) ?_
            rotate_left
            · intro w' hS; go_simp; (try with_reducible rfl)
            simp only [Act.put, List.setIfInBounds_toArray, List.set_cons_zero, List.set_cons_succ]
            refine wpAnyH_take (i := 9) (oi := { dst := some 25, op := Go.Op.index 9 (Go.Operand.const (Go.Value.string { data := #[120, 121, 122, 116] })) (Go.Operand.tmp 24), type := 5, pos := "ref.go:280", after := #[{ on := 8, ground := Go.Ground.data }, { on := 5, ground := Go.Ground.guard }], guard := some (5, false) }) (v := .int .u8 121) rfl (by kernel_rfl) (by kernel_rfl) (by kernel_rfl) (fun _ _ _ h => h) (Or.inl ⟨by rfl, ?_⟩) (by assumption) ?_
            · intro w' hS; go_simp; rfl
            simp only [Act.put, List.setIfInBounds_toArray, List.set_cons_zero, List.set_cons_succ]
            refine wpAnyH_ready (rs := [10]) (by kernel_rfl) (by simp) ?_
            refine AllReadyH.cons rfl (fun K hK => ?_) AllReadyH.nil
            go_simp
            refine (HIR.out _ hH1).mono ?_
            rintro e y2 ⟨rfl, hB⟩
            have hN : Below w1.heap.size w1 y2 := go_on hH1 hB
            clear hB
            go_wp2_with fail
            refine hK.out _ _ hN (fun hH2 => ?_)
            clear hN
            clear hK K
            refine wpAnyH_take (i := 11) (oi := { dst := some 27, op := Go.Op.pick (Go.Operand.tmp 21) (Go.Operand.const (Go.Value.bool true)) (Go.Operand.tmp 26), type := 4, pos := "ref.go:280", after := #[{ on := 5, ground := Go.Ground.data }, { on := 10, ground := Go.Ground.data }], guard := none }) (v := .bool true) rfl (by kernel_rfl) (by kernel_rfl) (by kernel_rfl) (fun _ _ _ h => h) (Or.inl ⟨by rfl, ?_⟩) (by assumption) ?_
            · intro w' hS; go_simp
            simp only [Act.put, List.setIfInBounds_toArray, List.set_cons_zero, List.set_cons_succ]
            refine wpAnyH_done (by kernel_rfl) ?_ _
            have HY : Hid (vbs [L, R] (1 + 1) = vbs [L, R] 1 ++ [121]) := vbs_yes (c := 121) rfl HANY.out
            have hcat := run_cat (X := ⟨(vbs [L, R] 1).toArray⟩) (L := ⟨#[121]⟩) (by have h1 : (⟨(vbs [L, R] 1).toArray⟩ : ByteArray).size = (vbs [L, R] 1).length := (by simp [ByteArray.size]); have h2 : (⟨#[121]⟩ : ByteArray).size = 1 := rfl; have hmx : IntKind.i64.max = 9223372036854775807 := (by decide); omega)
            rw [ba_snoc] at hcat
            go_wp2_with fail
            go_roundw
            case rel => exact ⟨1 + 1, by go_num, by omega, by rw [HY.out, ← ba_snoc]; rfl, hH2⟩
            case measure => simp [Go.RowKit.intOf]
          | false =>
            have HANY : Hid (([L, R].any fun K => occ K (UInt8.toNat 121)) = false) := by show _ = _; rw [HA.out, q1, q2]; rfl
            rw [q2] at HIR
            clear q1 q2
            go_upto_region 8 with fail
            refine wp_region_held_drew (S := fun y => Below w1.heap.size w1 y) (by kernel_rfl) HB.out.drew (fun hH0 => ?_)
            generalize wr.drew = y0 at hH0 ⊢
            refine wpAnyH_take (i := 0) (oi := { dst := some 16, op := Go.Op.fieldAddr 24 (Go.Operand.tmp 1) 0, type := 0, pos := "ref.go:280", after := #[], guard := none }) (v := ?_) rfl (by kernel_rfl) (by kernel_rfl) (by kernel_rfl) (fun _ _ _ h => h) (Or.inl ⟨by rfl, ?_⟩) (by assumption) ?_
            rotate_left
            · intro w' hS; go_simp; (try with_reducible rfl)
            simp only [Act.put, List.setIfInBounds_toArray, List.set_cons_zero, List.set_cons_succ]
            refine wpAnyH_take (i := 1) (oi := { dst := some 17, op := Go.Op.load 22 (Go.Operand.tmp 16), type := 22, pos := "ref.go:280", after := #[{ on := 0, ground := Go.Ground.data }], guard := none }) (v := .slice a1 L.length c1) rfl (by kernel_rfl) (by kernel_rfl) (by kernel_rfl) (fun _ _ _ h => h) (Or.inl ⟨by rfl, ?_⟩) (by assumption) ?_
            · intro w' hS; have hz := (HKK.out w' hS).1; go_simp
            simp only [Act.put, List.setIfInBounds_toArray, List.set_cons_zero, List.set_cons_succ]
            refine wpAnyH_take (i := 2) (oi := { dst := some 18, op := Go.Op.move (Go.Operand.tmp 6), type := 3, pos := "ref.go:280", after := #[], guard := none }) (v := ?_) rfl (by kernel_rfl) (by kernel_rfl) (by kernel_rfl) (fun _ _ _ h => h) (Or.inl ⟨by rfl, ?_⟩) (by assumption) ?_
            rotate_left
            · intro w' hS; go_simp; (try with_reducible rfl)
            simp only [Act.put, List.setIfInBounds_toArray, List.set_cons_zero, List.set_cons_succ]
            refine wpAnyH_take (i := 3) (oi := { dst := some 19, op := Go.Op.index 9 (Go.Operand.const (Go.Value.string { data := #[120, 121, 122, 116] })) (Go.Operand.tmp 18), type := 5, pos := "ref.go:280", after := #[{ on := 2, ground := Go.Ground.data }], guard := none }) (v := .int .u8 121) rfl (by kernel_rfl) (by kernel_rfl) (by kernel_rfl) (fun _ _ _ h => h) (Or.inl ⟨by rfl, ?_⟩) (by assumption) ?_
            · intro w' hS; go_simp; rfl
            simp only [Act.put, List.setIfInBounds_toArray, List.set_cons_zero, List.set_cons_succ]
            refine wpAnyH_ready (rs := [4]) (by kernel_rfl) (by simp) ?_
            refine AllReadyH.cons rfl (fun K hK => ?_) AllReadyH.nil
            go_simp
            refine (HIL.out _ hH0).mono ?_
            rintro e y1 ⟨rfl, hB⟩
            have hN : Below w1.heap.size w1 y1 := go_on hH0 hB
            clear hB
            go_wp2_with fail
            refine hK.out _ _ hN (fun hH1 => ?_)
            clear hN
            clear hK K
            refine wpAnyH_take (i := 5) (oi := { dst := some 21, op := Go.Op.move (Go.Operand.tmp 20), type := 4, pos := "ref.go:280", after := #[{ on := 4, ground := Go.Ground.data }, { on := 4, ground := Go.Ground.chain }], guard := none }) (v := ?_) rfl (by kernel_rfl) (by kernel_rfl) (by kernel_rfl) (fun _ _ _ h => h) (Or.inl ⟨by rfl, ?_⟩) (by assumption) ?_
            rotate_left
            · intro w' hS; go_simp; (try with_reducible rfl)
            simp only [Act.put, List.setIfInBounds_toArray, List.set_cons_zero, List.set_cons_succ]
            refine wpAnyH_take (i := 6) (oi := { dst := some 22, op := Go.Op.fieldAddr 24 (Go.Operand.tmp 1) 1, type := 0, pos := "ref.go:280", after := #[{ on := 5, ground := Go.Ground.guard }], guard := some (5, false) }) (v := ?_) rfl (by kernel_rfl) (by kernel_rfl) (by kernel_rfl) (fun _ _ _ h => h) (Or.inl ⟨by rfl, ?_⟩) (by assumption) ?_
            rotate_left
            · intro w' hS; go_simp; (try with_reducible rfl)
            simp only [Act.put, List.setIfInBounds_toArray, List.set_cons_zero, List.set_cons_succ]
            refine wpAnyH_take (i := 7) (oi := { dst := some 23, op := Go.Op.load 22 (Go.Operand.tmp 22), type := 22, pos := "ref.go:280", after := #[{ on := 6, ground := Go.Ground.data }, { on := 5, ground := Go.Ground.guard }], guard := some (5, false) }) (v := .slice a2 R.length c2) rfl (by kernel_rfl) (by kernel_rfl) (by kernel_rfl) (fun _ _ _ h => h) (Or.inl ⟨by rfl, ?_⟩) (by assumption) ?_
            · intro w' hS; have hz := (HKK.out w' hS).2; go_simp
            simp only [Act.put, List.setIfInBounds_toArray, List.set_cons_zero, List.set_cons_succ]
            refine wpAnyH_take (i := 8) (oi := { dst := some 24, op := Go.Op.move (Go.Operand.tmp 6), type := 3, pos := "ref.go:280", after := #[{ on := 5, ground := Go.Ground.guard }], guard := some (5, false) }) (v := ?_) rfl (by kernel_rfl) (by kernel_rfl) (by kernel_rfl) (fun _ _ _ h => h) (Or.inl ⟨by rfl, ?_⟩) (by assumption) ?_
            rotate_left
            · intro w' hS; go_simp; (try with_reducible rfl)
            simp only [Act.put, List.setIfInBounds_toArray, List.set_cons_zero, List.set_cons_succ]
            refine wpAnyH_take (i := 9) (oi := { dst := some 25, op := Go.Op.index 9 (Go.Operand.const (Go.Value.string { data := #[120, 121, 122, 116] })) (Go.Operand.tmp 24), type := 5, pos := "ref.go:280", after := #[{ on := 8, ground := Go.Ground.data }, { on := 5, ground := Go.Ground.guard }], guard := some (5, false) }) (v := .int .u8 121) rfl (by kernel_rfl) (by kernel_rfl) (by kernel_rfl) (fun _ _ _ h => h) (Or.inl ⟨by rfl, ?_⟩) (by assumption) ?_
            · intro w' hS; go_simp; rfl
            simp only [Act.put, List.setIfInBounds_toArray, List.set_cons_zero, List.set_cons_succ]
            refine wpAnyH_ready (rs := [10]) (by kernel_rfl) (by simp) ?_
            refine AllReadyH.cons rfl (fun K hK => ?_) AllReadyH.nil
            go_simp
            refine (HIR.out _ hH1).mono ?_
            rintro e y2 ⟨rfl, hB⟩
            have hN : Below w1.heap.size w1 y2 := go_on hH1 hB
            clear hB
            go_wp2_with fail
            refine hK.out _ _ hN (fun hH2 => ?_)
            clear hN
            clear hK K
            refine wpAnyH_take (i := 11) (oi := { dst := some 27, op := Go.Op.pick (Go.Operand.tmp 21) (Go.Operand.const (Go.Value.bool true)) (Go.Operand.tmp 26), type := 4, pos := "ref.go:280", after := #[{ on := 5, ground := Go.Ground.data }, { on := 10, ground := Go.Ground.data }], guard := none }) (v := .bool false) rfl (by kernel_rfl) (by kernel_rfl) (by kernel_rfl) (fun _ _ _ h => h) (Or.inl ⟨by rfl, ?_⟩) (by assumption) ?_
            · intro w' hS; go_simp
            simp only [Act.put, List.setIfInBounds_toArray, List.set_cons_zero, List.set_cons_succ]
            refine wpAnyH_done (by kernel_rfl) ?_ _
            have HY : Hid (vbs [L, R] (1 + 1) = vbs [L, R] 1) := vbs_no (c := 121) rfl HANY.out
            go_wp2_with fail
            go_roundw
            case rel => exact ⟨1 + 1, by go_num, by omega, by rw [HY.out], hH2⟩
            case measure => simp [Go.RowKit.intOf]
      · clear hlt hin
        have h4 : decide ((2 : Int) < 4) = true := rfl
        have HIL : Hid (∀ y, Below w1.heap.size w1 y → Calls Try.prog 37 #[.slice a1 L.length c1, .int .u8 122] y fun e w' => e = .returned (.bool (occ L 122)) ∧ Below y.heap.size y w') := fun y hy => rin_any _ L 122 y (HSL.out.below hy) HLR.out.1
        have HIR : Hid (∀ y, Below w1.heap.size w1 y → Calls Try.prog 37 #[.slice a2 R.length c2, .int .u8 122] y fun e w' => e = .returned (.bool (occ R 122)) ∧ Below y.heap.size y w') := fun y hy => rin_any _ R 122 y (HSR.out.below hy) HLR.out.2
        have HA : Hid (([L, R].any fun K => occ K (UInt8.toNat 122)) = (occ L 122 || occ R 122)) := any2 L R 122
        cases q1 : occ L 122 with
        | true =>
          have HANY : Hid (([L, R].any fun K => occ K (UInt8.toNat 122)) = true) := by show _ = _; rw [HA.out, q1]; rfl
          rw [q1] at HIL
          clear q1
          go_upto_region 8 with fail
          refine wp_region_held_drew (S := fun y => Below w1.heap.size w1 y) (by kernel_rfl) HB.out.drew (fun hH0 => ?_)
          generalize wr.drew = y0 at hH0 ⊢
          refine wpAnyH_take (i := 0) (oi := { dst := some 16, op := Go.Op.fieldAddr 24 (Go.Operand.tmp 1) 0, type := 0, pos := "ref.go:280", after := #[], guard := none }) (v := ?_) rfl (by kernel_rfl) (by kernel_rfl) (by kernel_rfl) (fun _ _ _ h => h) (Or.inl ⟨by rfl, ?_⟩) (by assumption) ?_
          rotate_left
          · intro w' hS; go_simp; (try with_reducible rfl)
          simp only [Act.put, List.setIfInBounds_toArray, List.set_cons_zero, List.set_cons_succ]
          refine wpAnyH_take (i := 1) (oi := { dst := some 17, op := Go.Op.load 22 (Go.Operand.tmp 16), type := 22, pos := "ref.go:280", after := #[{ on := 0, ground := Go.Ground.data }], guard := none }) (v := .slice a1 L.length c1) rfl (by kernel_rfl) (by kernel_rfl) (by kernel_rfl) (fun _ _ _ h => h) (Or.inl ⟨by rfl, ?_⟩) (by assumption) ?_
          · intro w' hS; have hz := (HKK.out w' hS).1; go_simp
          simp only [Act.put, List.setIfInBounds_toArray, List.set_cons_zero, List.set_cons_succ]
          refine wpAnyH_take (i := 2) (oi := { dst := some 18, op := Go.Op.move (Go.Operand.tmp 6), type := 3, pos := "ref.go:280", after := #[], guard := none }) (v := ?_) rfl (by kernel_rfl) (by kernel_rfl) (by kernel_rfl) (fun _ _ _ h => h) (Or.inl ⟨by rfl, ?_⟩) (by assumption) ?_
          rotate_left
          · intro w' hS; go_simp; (try with_reducible rfl)
          simp only [Act.put, List.setIfInBounds_toArray, List.set_cons_zero, List.set_cons_succ]
          refine wpAnyH_take (i := 3) (oi := { dst := some 19, op := Go.Op.index 9 (Go.Operand.const (Go.Value.string { data := #[120, 121, 122, 116] })) (Go.Operand.tmp 18), type := 5, pos := "ref.go:280", after := #[{ on := 2, ground := Go.Ground.data }], guard := none }) (v := .int .u8 122) rfl (by kernel_rfl) (by kernel_rfl) (by kernel_rfl) (fun _ _ _ h => h) (Or.inl ⟨by rfl, ?_⟩) (by assumption) ?_
          · intro w' hS; go_simp; rfl
          simp only [Act.put, List.setIfInBounds_toArray, List.set_cons_zero, List.set_cons_succ]
          refine wpAnyH_ready (rs := [4]) (by kernel_rfl) (by simp) ?_
          refine AllReadyH.cons rfl (fun K hK => ?_) AllReadyH.nil
          go_simp
          refine (HIL.out _ hH0).mono ?_
          rintro e y1 ⟨rfl, hB⟩
          have hN : Below w1.heap.size w1 y1 := go_on hH0 hB
          clear hB
          go_wp2_with fail
          refine hK.out _ _ hN (fun hH1 => ?_)
          clear hN
          clear hK K
          refine wpAnyH_take (i := 5) (oi := { dst := some 21, op := Go.Op.move (Go.Operand.tmp 20), type := 4, pos := "ref.go:280", after := #[{ on := 4, ground := Go.Ground.data }, { on := 4, ground := Go.Ground.chain }], guard := none }) (v := ?_) rfl (by kernel_rfl) (by kernel_rfl) (by kernel_rfl) (fun _ _ _ h => h) (Or.inl ⟨by rfl, ?_⟩) (by assumption) ?_
          rotate_left
          · intro w' hS; go_simp; (try with_reducible rfl)
          simp only [Act.put, List.setIfInBounds_toArray, List.set_cons_zero, List.set_cons_succ]
          refine wpAnyH_take (i := 6) (oi := { dst := some 22, op := Go.Op.fieldAddr 24 (Go.Operand.tmp 1) 1, type := 0, pos := "ref.go:280", after := #[{ on := 5, ground := Go.Ground.guard }], guard := some (5, false) }) (v := undef) rfl (by kernel_rfl) (by kernel_rfl) (by kernel_rfl) (fun _ _ _ h => h) (Or.inr ⟨by rfl, rfl⟩) (by assumption) ?_
          simp only [Act.put, List.setIfInBounds_toArray, List.set_cons_zero, List.set_cons_succ]
          refine wpAnyH_take (i := 7) (oi := { dst := some 23, op := Go.Op.load 22 (Go.Operand.tmp 22), type := 22, pos := "ref.go:280", after := #[{ on := 6, ground := Go.Ground.data }, { on := 5, ground := Go.Ground.guard }], guard := some (5, false) }) (v := undef) rfl (by kernel_rfl) (by kernel_rfl) (by kernel_rfl) (fun _ _ _ h => h) (Or.inr ⟨by rfl, rfl⟩) (by assumption) ?_
          simp only [Act.put, List.setIfInBounds_toArray, List.set_cons_zero, List.set_cons_succ]
          refine wpAnyH_take (i := 8) (oi := { dst := some 24, op := Go.Op.move (Go.Operand.tmp 6), type := 3, pos := "ref.go:280", after := #[{ on := 5, ground := Go.Ground.guard }], guard := some (5, false) }) (v := undef) rfl (by kernel_rfl) (by kernel_rfl) (by kernel_rfl) (fun _ _ _ h => h) (Or.inr ⟨by rfl, rfl⟩) (by assumption) ?_
          simp only [Act.put, List.setIfInBounds_toArray, List.set_cons_zero, List.set_cons_succ]
          refine wpAnyH_take (i := 9) (oi := { dst := some 25, op := Go.Op.index 9 (Go.Operand.const (Go.Value.string { data := #[120, 121, 122, 116] })) (Go.Operand.tmp 24), type := 5, pos := "ref.go:280", after := #[{ on := 8, ground := Go.Ground.data }, { on := 5, ground := Go.Ground.guard }], guard := some (5, false) }) (v := undef) rfl (by kernel_rfl) (by kernel_rfl) (by kernel_rfl) (fun _ _ _ h => h) (Or.inr ⟨by rfl, rfl⟩) (by assumption) ?_
          simp only [Act.put, List.setIfInBounds_toArray, List.set_cons_zero, List.set_cons_succ]
          refine wpAnyH_take (i := 10) (oi := { dst := some 26, op := Go.Op.call { callee := Go.Callee.value (Go.Operand.func 37), args := #[Go.Operand.tmp 23, Go.Operand.tmp 25], argTypes := #[22, 5] }, type := 4, pos := "ref.go:280", after := #[{ on := 7, ground := Go.Ground.data }, { on := 9, ground := Go.Ground.data }, { on := 5, ground := Go.Ground.chain }, { on := 5, ground := Go.Ground.guard }], guard := some (5, false) }) (v := undef) rfl (by kernel_rfl) (by kernel_rfl) (by kernel_rfl) (fun _ _ _ h => h) (Or.inr ⟨by rfl, rfl⟩) (by assumption) ?_
          simp only [Act.put, List.setIfInBounds_toArray, List.set_cons_zero, List.set_cons_succ]
          refine wpAnyH_take (i := 11) (oi := { dst := some 27, op := Go.Op.pick (Go.Operand.tmp 21) (Go.Operand.const (Go.Value.bool true)) (Go.Operand.tmp 26), type := 4, pos := "ref.go:280", after := #[{ on := 5, ground := Go.Ground.data }, { on := 10, ground := Go.Ground.data }], guard := none }) (v := .bool true) rfl (by kernel_rfl) (by kernel_rfl) (by kernel_rfl) (fun _ _ _ h => h) (Or.inl ⟨by rfl, ?_⟩) (by assumption) ?_
          · intro w' hS; go_simp
          simp only [Act.put, List.setIfInBounds_toArray, List.set_cons_zero, List.set_cons_succ]
          refine wpAnyH_done (by kernel_rfl) ?_ _
          have HY : Hid (vbs [L, R] (2 + 1) = vbs [L, R] 2 ++ [122]) := vbs_yes (c := 122) rfl HANY.out
          have hcat := run_cat (X := ⟨(vbs [L, R] 2).toArray⟩) (L := ⟨#[122]⟩) (by have h1 : (⟨(vbs [L, R] 2).toArray⟩ : ByteArray).size = (vbs [L, R] 2).length := (by simp [ByteArray.size]); have h2 : (⟨#[122]⟩ : ByteArray).size = 1 := rfl; have hmx : IntKind.i64.max = 9223372036854775807 := (by decide); omega)
          rw [ba_snoc] at hcat
          go_wp2_with fail
          go_roundw
          case rel => exact ⟨2 + 1, by go_num, by omega, by rw [HY.out, ← ba_snoc]; rfl, hH1⟩
          case measure => simp [Go.RowKit.intOf]
        | false =>
          rw [q1] at HIL
          cases q2 : occ R 122 with
          | true =>
            have HANY : Hid (([L, R].any fun K => occ K (UInt8.toNat 122)) = true) := by show _ = _; rw [HA.out, q1, q2]; rfl
            rw [q2] at HIR
            clear q1 q2
            go_upto_region 8 with fail
            refine wp_region_held_drew (S := fun y => Below w1.heap.size w1 y) (by kernel_rfl) HB.out.drew (fun hH0 => ?_)
            generalize wr.drew = y0 at hH0 ⊢
            refine wpAnyH_take (i := 0) (oi := { dst := some 16, op := Go.Op.fieldAddr 24 (Go.Operand.tmp 1) 0, type := 0, pos := "ref.go:280", after := #[], guard := none }) (v := ?_) rfl (by kernel_rfl) (by kernel_rfl) (by kernel_rfl) (fun _ _ _ h => h) (Or.inl ⟨by rfl, ?_⟩) (by assumption) ?_
            rotate_left
            · intro w' hS; go_simp; (try with_reducible rfl)
            simp only [Act.put, List.setIfInBounds_toArray, List.set_cons_zero, List.set_cons_succ]
            refine wpAnyH_take (i := 1) (oi := { dst := some 17, op := Go.Op.load 22 (Go.Operand.tmp 16), type := 22, pos := "ref.go:280", after := #[{ on := 0, ground := Go.Ground.data }], guard := none }) (v := .slice a1 L.length c1) rfl (by kernel_rfl) (by kernel_rfl) (by kernel_rfl) (fun _ _ _ h => h) (Or.inl ⟨by rfl, ?_⟩) (by assumption) ?_
            · intro w' hS; have hz := (HKK.out w' hS).1; go_simp
            simp only [Act.put, List.setIfInBounds_toArray, List.set_cons_zero, List.set_cons_succ]
            refine wpAnyH_take (i := 2) (oi := { dst := some 18, op := Go.Op.move (Go.Operand.tmp 6), type := 3, pos := "ref.go:280", after := #[], guard := none }) (v := ?_) rfl (by kernel_rfl) (by kernel_rfl) (by kernel_rfl) (fun _ _ _ h => h) (Or.inl ⟨by rfl, ?_⟩) (by assumption) ?_
            rotate_left
            · intro w' hS; go_simp; (try with_reducible rfl)
            simp only [Act.put, List.setIfInBounds_toArray, List.set_cons_zero, List.set_cons_succ]
            refine wpAnyH_take (i := 3) (oi := { dst := some 19, op := Go.Op.index 9 (Go.Operand.const (Go.Value.string { data := #[120, 121, 122, 116] })) (Go.Operand.tmp 18), type := 5, pos := "ref.go:280", after := #[{ on := 2, ground := Go.Ground.data }], guard := none }) (v := .int .u8 122) rfl (by kernel_rfl) (by kernel_rfl) (by kernel_rfl) (fun _ _ _ h => h) (Or.inl ⟨by rfl, ?_⟩) (by assumption) ?_
            · intro w' hS; go_simp; rfl
            simp only [Act.put, List.setIfInBounds_toArray, List.set_cons_zero, List.set_cons_succ]
            refine wpAnyH_ready (rs := [4]) (by kernel_rfl) (by simp) ?_
            refine AllReadyH.cons rfl (fun K hK => ?_) AllReadyH.nil
            go_simp
            refine (HIL.out _ hH0).mono ?_
            rintro e y1 ⟨rfl, hB⟩
            have hN : Below w1.heap.size w1 y1 := go_on hH0 hB
            clear hB
            go_wp2_with fail
            refine hK.out _ _ hN (fun hH1 => ?_)
            clear hN
            clear hK K
            refine wpAnyH_take (i := 5) (oi := { dst := some 21, op := Go.Op.move (Go.Operand.tmp 20), type := 4, pos := "ref.go:280", after := #[{ on := 4, ground := Go.Ground.data }, { on := 4, ground := Go.Ground.chain }], guard := none }) (v := ?_) rfl (by kernel_rfl) (by kernel_rfl) (by kernel_rfl) (fun _ _ _ h => h) (Or.inl ⟨by rfl, ?_⟩) (by assumption) ?_
            rotate_left
            · intro w' hS; go_simp; (try with_reducible rfl)
            simp only [Act.put, List.setIfInBounds_toArray, List.set_cons_zero, List.set_cons_succ]
            refine wpAnyH_take (i := 6) (oi := { dst := some 22, op := Go.Op.fieldAddr 24 (Go.Operand.tmp 1) 1, type := 0, pos := "ref.go:280", after := #[{ on := 5, ground := Go.Ground.guard }], guard := some (5, false) }) (v := ?_) rfl (by kernel_rfl) (by kernel_rfl) (by kernel_rfl) (fun _ _ _ h => h) (Or.inl ⟨by rfl, ?_⟩) (by assumption) ?_
            rotate_left
            · intro w' hS; go_simp; (try with_reducible rfl)
            simp only [Act.put, List.setIfInBounds_toArray, List.set_cons_zero, List.set_cons_succ]
            refine wpAnyH_take (i := 7) (oi := { dst := some 23, op := Go.Op.load 22 (Go.Operand.tmp 22), type := 22, pos := "ref.go:280", after := #[{ on := 6, ground := Go.Ground.data }, { on := 5, ground := Go.Ground.guard }], guard := some (5, false) }) (v := .slice a2 R.length c2) rfl (by kernel_rfl) (by kernel_rfl) (by kernel_rfl) (fun _ _ _ h => h) (Or.inl ⟨by rfl, ?_⟩) (by assumption) ?_
            · intro w' hS; have hz := (HKK.out w' hS).2; go_simp
            simp only [Act.put, List.setIfInBounds_toArray, List.set_cons_zero, List.set_cons_succ]
            refine wpAnyH_take (i := 8) (oi := { dst := some 24, op := Go.Op.move (Go.Operand.tmp 6), type := 3, pos := "ref.go:280", after := #[{ on := 5, ground := Go.Ground.guard }], guard := some (5, false) }) (v := ?_) rfl (by kernel_rfl) (by kernel_rfl) (by kernel_rfl) (fun _ _ _ h => h) (Or.inl ⟨by rfl, ?_⟩) (by assumption) ?_
            rotate_left
            · intro w' hS; go_simp; (try with_reducible rfl)
            simp only [Act.put, List.setIfInBounds_toArray, List.set_cons_zero, List.set_cons_succ]
            refine wpAnyH_take (i := 9) (oi := { dst := some 25, op := Go.Op.index 9 (Go.Operand.const (Go.Value.string { data := #[120, 121, 122, 116] })) (Go.Operand.tmp 24), type := 5, pos := "ref.go:280", after := #[{ on := 8, ground := Go.Ground.data }, { on := 5, ground := Go.Ground.guard }], guard := some (5, false) }) (v := .int .u8 122) rfl (by kernel_rfl) (by kernel_rfl) (by kernel_rfl) (fun _ _ _ h => h) (Or.inl ⟨by rfl, ?_⟩) (by assumption) ?_
            · intro w' hS; go_simp; rfl
            simp only [Act.put, List.setIfInBounds_toArray, List.set_cons_zero, List.set_cons_succ]
            refine wpAnyH_ready (rs := [10]) (by kernel_rfl) (by simp) ?_
            refine AllReadyH.cons rfl (fun K hK => ?_) AllReadyH.nil
            go_simp
            refine (HIR.out _ hH1).mono ?_
            rintro e y2 ⟨rfl, hB⟩
            have hN : Below w1.heap.size w1 y2 := go_on hH1 hB
            clear hB
            go_wp2_with fail
            refine hK.out _ _ hN (fun hH2 => ?_)
            clear hN
            clear hK K
            refine wpAnyH_take (i := 11) (oi := { dst := some 27, op := Go.Op.pick (Go.Operand.tmp 21) (Go.Operand.const (Go.Value.bool true)) (Go.Operand.tmp 26), type := 4, pos := "ref.go:280", after := #[{ on := 5, ground := Go.Ground.data }, { on := 10, ground := Go.Ground.data }], guard := none }) (v := .bool true) rfl (by kernel_rfl) (by kernel_rfl) (by kernel_rfl) (fun _ _ _ h => h) (Or.inl ⟨by rfl, ?_⟩) (by assumption) ?_
            · intro w' hS; go_simp
            simp only [Act.put, List.setIfInBounds_toArray, List.set_cons_zero, List.set_cons_succ]
            refine wpAnyH_done (by kernel_rfl) ?_ _
            have HY : Hid (vbs [L, R] (2 + 1) = vbs [L, R] 2 ++ [122]) := vbs_yes (c := 122) rfl HANY.out
            have hcat := run_cat (X := ⟨(vbs [L, R] 2).toArray⟩) (L := ⟨#[122]⟩) (by have h1 : (⟨(vbs [L, R] 2).toArray⟩ : ByteArray).size = (vbs [L, R] 2).length := (by simp [ByteArray.size]); have h2 : (⟨#[122]⟩ : ByteArray).size = 1 := rfl; have hmx : IntKind.i64.max = 9223372036854775807 := (by decide); omega)
            rw [ba_snoc] at hcat
            go_wp2_with fail
            go_roundw
            case rel => exact ⟨2 + 1, by go_num, by omega, by rw [HY.out, ← ba_snoc]; rfl, hH2⟩
            case measure => simp [Go.RowKit.intOf]
          | false =>
            have HANY : Hid (([L, R].any fun K => occ K (UInt8.toNat 122)) = false) := by show _ = _; rw [HA.out, q1, q2]; rfl
            rw [q2] at HIR
            clear q1 q2
            go_upto_region 8 with fail
            refine wp_region_held_drew (S := fun y => Below w1.heap.size w1 y) (by kernel_rfl) HB.out.drew (fun hH0 => ?_)
            generalize wr.drew = y0 at hH0 ⊢
            refine wpAnyH_take (i := 0) (oi := { dst := some 16, op := Go.Op.fieldAddr 24 (Go.Operand.tmp 1) 0, type := 0, pos := "ref.go:280", after := #[], guard := none }) (v := ?_) rfl (by kernel_rfl) (by kernel_rfl) (by kernel_rfl) (fun _ _ _ h => h) (Or.inl ⟨by rfl, ?_⟩) (by assumption) ?_
            rotate_left
            · intro w' hS; go_simp; (try with_reducible rfl)
            simp only [Act.put, List.setIfInBounds_toArray, List.set_cons_zero, List.set_cons_succ]
            refine wpAnyH_take (i := 1) (oi := { dst := some 17, op := Go.Op.load 22 (Go.Operand.tmp 16), type := 22, pos := "ref.go:280", after := #[{ on := 0, ground := Go.Ground.data }], guard := none }) (v := .slice a1 L.length c1) rfl (by kernel_rfl) (by kernel_rfl) (by kernel_rfl) (fun _ _ _ h => h) (Or.inl ⟨by rfl, ?_⟩) (by assumption) ?_
            · intro w' hS; have hz := (HKK.out w' hS).1; go_simp
            simp only [Act.put, List.setIfInBounds_toArray, List.set_cons_zero, List.set_cons_succ]
            refine wpAnyH_take (i := 2) (oi := { dst := some 18, op := Go.Op.move (Go.Operand.tmp 6), type := 3, pos := "ref.go:280", after := #[], guard := none }) (v := ?_) rfl (by kernel_rfl) (by kernel_rfl) (by kernel_rfl) (fun _ _ _ h => h) (Or.inl ⟨by rfl, ?_⟩) (by assumption) ?_
            rotate_left
            · intro w' hS; go_simp; (try with_reducible rfl)
            simp only [Act.put, List.setIfInBounds_toArray, List.set_cons_zero, List.set_cons_succ]
            refine wpAnyH_take (i := 3) (oi := { dst := some 19, op := Go.Op.index 9 (Go.Operand.const (Go.Value.string { data := #[120, 121, 122, 116] })) (Go.Operand.tmp 18), type := 5, pos := "ref.go:280", after := #[{ on := 2, ground := Go.Ground.data }], guard := none }) (v := .int .u8 122) rfl (by kernel_rfl) (by kernel_rfl) (by kernel_rfl) (fun _ _ _ h => h) (Or.inl ⟨by rfl, ?_⟩) (by assumption) ?_
            · intro w' hS; go_simp; rfl
            simp only [Act.put, List.setIfInBounds_toArray, List.set_cons_zero, List.set_cons_succ]
            refine wpAnyH_ready (rs := [4]) (by kernel_rfl) (by simp) ?_
            refine AllReadyH.cons rfl (fun K hK => ?_) AllReadyH.nil
            go_simp
            refine (HIL.out _ hH0).mono ?_
            rintro e y1 ⟨rfl, hB⟩
            have hN : Below w1.heap.size w1 y1 := go_on hH0 hB
            clear hB
            go_wp2_with fail
            refine hK.out _ _ hN (fun hH1 => ?_)
            clear hN
            clear hK K
            refine wpAnyH_take (i := 5) (oi := { dst := some 21, op := Go.Op.move (Go.Operand.tmp 20), type := 4, pos := "ref.go:280", after := #[{ on := 4, ground := Go.Ground.data }, { on := 4, ground := Go.Ground.chain }], guard := none }) (v := ?_) rfl (by kernel_rfl) (by kernel_rfl) (by kernel_rfl) (fun _ _ _ h => h) (Or.inl ⟨by rfl, ?_⟩) (by assumption) ?_
            rotate_left
            · intro w' hS; go_simp; (try with_reducible rfl)
            simp only [Act.put, List.setIfInBounds_toArray, List.set_cons_zero, List.set_cons_succ]
            refine wpAnyH_take (i := 6) (oi := { dst := some 22, op := Go.Op.fieldAddr 24 (Go.Operand.tmp 1) 1, type := 0, pos := "ref.go:280", after := #[{ on := 5, ground := Go.Ground.guard }], guard := some (5, false) }) (v := ?_) rfl (by kernel_rfl) (by kernel_rfl) (by kernel_rfl) (fun _ _ _ h => h) (Or.inl ⟨by rfl, ?_⟩) (by assumption) ?_
            rotate_left
            · intro w' hS; go_simp; (try with_reducible rfl)
            simp only [Act.put, List.setIfInBounds_toArray, List.set_cons_zero, List.set_cons_succ]
            refine wpAnyH_take (i := 7) (oi := { dst := some 23, op := Go.Op.load 22 (Go.Operand.tmp 22), type := 22, pos := "ref.go:280", after := #[{ on := 6, ground := Go.Ground.data }, { on := 5, ground := Go.Ground.guard }], guard := some (5, false) }) (v := .slice a2 R.length c2) rfl (by kernel_rfl) (by kernel_rfl) (by kernel_rfl) (fun _ _ _ h => h) (Or.inl ⟨by rfl, ?_⟩) (by assumption) ?_
            · intro w' hS; have hz := (HKK.out w' hS).2; go_simp
            simp only [Act.put, List.setIfInBounds_toArray, List.set_cons_zero, List.set_cons_succ]
            refine wpAnyH_take (i := 8) (oi := { dst := some 24, op := Go.Op.move (Go.Operand.tmp 6), type := 3, pos := "ref.go:280", after := #[{ on := 5, ground := Go.Ground.guard }], guard := some (5, false) }) (v := ?_) rfl (by kernel_rfl) (by kernel_rfl) (by kernel_rfl) (fun _ _ _ h => h) (Or.inl ⟨by rfl, ?_⟩) (by assumption) ?_
            rotate_left
            · intro w' hS; go_simp; (try with_reducible rfl)
            simp only [Act.put, List.setIfInBounds_toArray, List.set_cons_zero, List.set_cons_succ]
            refine wpAnyH_take (i := 9) (oi := { dst := some 25, op := Go.Op.index 9 (Go.Operand.const (Go.Value.string { data := #[120, 121, 122, 116] })) (Go.Operand.tmp 24), type := 5, pos := "ref.go:280", after := #[{ on := 8, ground := Go.Ground.data }, { on := 5, ground := Go.Ground.guard }], guard := some (5, false) }) (v := .int .u8 122) rfl (by kernel_rfl) (by kernel_rfl) (by kernel_rfl) (fun _ _ _ h => h) (Or.inl ⟨by rfl, ?_⟩) (by assumption) ?_
            · intro w' hS; go_simp; rfl
            simp only [Act.put, List.setIfInBounds_toArray, List.set_cons_zero, List.set_cons_succ]
            refine wpAnyH_ready (rs := [10]) (by kernel_rfl) (by simp) ?_
            refine AllReadyH.cons rfl (fun K hK => ?_) AllReadyH.nil
            go_simp
            refine (HIR.out _ hH1).mono ?_
            rintro e y2 ⟨rfl, hB⟩
            have hN : Below w1.heap.size w1 y2 := go_on hH1 hB
            clear hB
            go_wp2_with fail
            refine hK.out _ _ hN (fun hH2 => ?_)
            clear hN
            clear hK K
            refine wpAnyH_take (i := 11) (oi := { dst := some 27, op := Go.Op.pick (Go.Operand.tmp 21) (Go.Operand.const (Go.Value.bool true)) (Go.Operand.tmp 26), type := 4, pos := "ref.go:280", after := #[{ on := 5, ground := Go.Ground.data }, { on := 10, ground := Go.Ground.data }], guard := none }) (v := .bool false) rfl (by kernel_rfl) (by kernel_rfl) (by kernel_rfl) (fun _ _ _ h => h) (Or.inl ⟨by rfl, ?_⟩) (by assumption) ?_
            · intro w' hS; go_simp
            simp only [Act.put, List.setIfInBounds_toArray, List.set_cons_zero, List.set_cons_succ]
            refine wpAnyH_done (by kernel_rfl) ?_ _
            have HY : Hid (vbs [L, R] (2 + 1) = vbs [L, R] 2) := vbs_no (c := 122) rfl HANY.out
            go_wp2_with fail
            go_roundw
            case rel => exact ⟨2 + 1, by go_num, by omega, by rw [HY.out], hH2⟩
            case measure => simp [Go.RowKit.intOf]
      · clear hlt hin
        have h4 : decide ((3 : Int) < 4) = true := rfl
        have HIL : Hid (∀ y, Below w1.heap.size w1 y → Calls Try.prog 37 #[.slice a1 L.length c1, .int .u8 116] y fun e w' => e = .returned (.bool (occ L 116)) ∧ Below y.heap.size y w') := fun y hy => rin_any _ L 116 y (HSL.out.below hy) HLR.out.1
        have HIR : Hid (∀ y, Below w1.heap.size w1 y → Calls Try.prog 37 #[.slice a2 R.length c2, .int .u8 116] y fun e w' => e = .returned (.bool (occ R 116)) ∧ Below y.heap.size y w') := fun y hy => rin_any _ R 116 y (HSR.out.below hy) HLR.out.2
        have HA : Hid (([L, R].any fun K => occ K (UInt8.toNat 116)) = (occ L 116 || occ R 116)) := any2 L R 116
        cases q1 : occ L 116 with
        | true =>
          have HANY : Hid (([L, R].any fun K => occ K (UInt8.toNat 116)) = true) := by show _ = _; rw [HA.out, q1]; rfl
          rw [q1] at HIL
          clear q1
          go_upto_region 8 with fail
          refine wp_region_held_drew (S := fun y => Below w1.heap.size w1 y) (by kernel_rfl) HB.out.drew (fun hH0 => ?_)
          generalize wr.drew = y0 at hH0 ⊢
          refine wpAnyH_take (i := 0) (oi := { dst := some 16, op := Go.Op.fieldAddr 24 (Go.Operand.tmp 1) 0, type := 0, pos := "ref.go:280", after := #[], guard := none }) (v := ?_) rfl (by kernel_rfl) (by kernel_rfl) (by kernel_rfl) (fun _ _ _ h => h) (Or.inl ⟨by rfl, ?_⟩) (by assumption) ?_
          rotate_left
          · intro w' hS; go_simp; (try with_reducible rfl)
          simp only [Act.put, List.setIfInBounds_toArray, List.set_cons_zero, List.set_cons_succ]
          refine wpAnyH_take (i := 1) (oi := { dst := some 17, op := Go.Op.load 22 (Go.Operand.tmp 16), type := 22, pos := "ref.go:280", after := #[{ on := 0, ground := Go.Ground.data }], guard := none }) (v := .slice a1 L.length c1) rfl (by kernel_rfl) (by kernel_rfl) (by kernel_rfl) (fun _ _ _ h => h) (Or.inl ⟨by rfl, ?_⟩) (by assumption) ?_
          · intro w' hS; have hz := (HKK.out w' hS).1; go_simp
          simp only [Act.put, List.setIfInBounds_toArray, List.set_cons_zero, List.set_cons_succ]
          refine wpAnyH_take (i := 2) (oi := { dst := some 18, op := Go.Op.move (Go.Operand.tmp 6), type := 3, pos := "ref.go:280", after := #[], guard := none }) (v := ?_) rfl (by kernel_rfl) (by kernel_rfl) (by kernel_rfl) (fun _ _ _ h => h) (Or.inl ⟨by rfl, ?_⟩) (by assumption) ?_
          rotate_left
          · intro w' hS; go_simp; (try with_reducible rfl)
          simp only [Act.put, List.setIfInBounds_toArray, List.set_cons_zero, List.set_cons_succ]
          refine wpAnyH_take (i := 3) (oi := { dst := some 19, op := Go.Op.index 9 (Go.Operand.const (Go.Value.string { data := #[120, 121, 122, 116] })) (Go.Operand.tmp 18), type := 5, pos := "ref.go:280", after := #[{ on := 2, ground := Go.Ground.data }], guard := none }) (v := .int .u8 116) rfl (by kernel_rfl) (by kernel_rfl) (by kernel_rfl) (fun _ _ _ h => h) (Or.inl ⟨by rfl, ?_⟩) (by assumption) ?_
          · intro w' hS; go_simp; rfl
          simp only [Act.put, List.setIfInBounds_toArray, List.set_cons_zero, List.set_cons_succ]
          refine wpAnyH_ready (rs := [4]) (by kernel_rfl) (by simp) ?_
          refine AllReadyH.cons rfl (fun K hK => ?_) AllReadyH.nil
          go_simp
          refine (HIL.out _ hH0).mono ?_
          rintro e y1 ⟨rfl, hB⟩
          have hN : Below w1.heap.size w1 y1 := go_on hH0 hB
          clear hB
          go_wp2_with fail
          refine hK.out _ _ hN (fun hH1 => ?_)
          clear hN
          clear hK K
          refine wpAnyH_take (i := 5) (oi := { dst := some 21, op := Go.Op.move (Go.Operand.tmp 20), type := 4, pos := "ref.go:280", after := #[{ on := 4, ground := Go.Ground.data }, { on := 4, ground := Go.Ground.chain }], guard := none }) (v := ?_) rfl (by kernel_rfl) (by kernel_rfl) (by kernel_rfl) (fun _ _ _ h => h) (Or.inl ⟨by rfl, ?_⟩) (by assumption) ?_
          rotate_left
          · intro w' hS; go_simp; (try with_reducible rfl)
          simp only [Act.put, List.setIfInBounds_toArray, List.set_cons_zero, List.set_cons_succ]
          refine wpAnyH_take (i := 6) (oi := { dst := some 22, op := Go.Op.fieldAddr 24 (Go.Operand.tmp 1) 1, type := 0, pos := "ref.go:280", after := #[{ on := 5, ground := Go.Ground.guard }], guard := some (5, false) }) (v := undef) rfl (by kernel_rfl) (by kernel_rfl) (by kernel_rfl) (fun _ _ _ h => h) (Or.inr ⟨by rfl, rfl⟩) (by assumption) ?_
          simp only [Act.put, List.setIfInBounds_toArray, List.set_cons_zero, List.set_cons_succ]
          refine wpAnyH_take (i := 7) (oi := { dst := some 23, op := Go.Op.load 22 (Go.Operand.tmp 22), type := 22, pos := "ref.go:280", after := #[{ on := 6, ground := Go.Ground.data }, { on := 5, ground := Go.Ground.guard }], guard := some (5, false) }) (v := undef) rfl (by kernel_rfl) (by kernel_rfl) (by kernel_rfl) (fun _ _ _ h => h) (Or.inr ⟨by rfl, rfl⟩) (by assumption) ?_
          simp only [Act.put, List.setIfInBounds_toArray, List.set_cons_zero, List.set_cons_succ]
          refine wpAnyH_take (i := 8) (oi := { dst := some 24, op := Go.Op.move (Go.Operand.tmp 6), type := 3, pos := "ref.go:280", after := #[{ on := 5, ground := Go.Ground.guard }], guard := some (5, false) }) (v := undef) rfl (by kernel_rfl) (by kernel_rfl) (by kernel_rfl) (fun _ _ _ h => h) (Or.inr ⟨by rfl, rfl⟩) (by assumption) ?_
          simp only [Act.put, List.setIfInBounds_toArray, List.set_cons_zero, List.set_cons_succ]
          refine wpAnyH_take (i := 9) (oi := { dst := some 25, op := Go.Op.index 9 (Go.Operand.const (Go.Value.string { data := #[120, 121, 122, 116] })) (Go.Operand.tmp 24), type := 5, pos := "ref.go:280", after := #[{ on := 8, ground := Go.Ground.data }, { on := 5, ground := Go.Ground.guard }], guard := some (5, false) }) (v := undef) rfl (by kernel_rfl) (by kernel_rfl) (by kernel_rfl) (fun _ _ _ h => h) (Or.inr ⟨by rfl, rfl⟩) (by assumption) ?_
          simp only [Act.put, List.setIfInBounds_toArray, List.set_cons_zero, List.set_cons_succ]
          refine wpAnyH_take (i := 10) (oi := { dst := some 26, op := Go.Op.call { callee := Go.Callee.value (Go.Operand.func 37), args := #[Go.Operand.tmp 23, Go.Operand.tmp 25], argTypes := #[22, 5] }, type := 4, pos := "ref.go:280", after := #[{ on := 7, ground := Go.Ground.data }, { on := 9, ground := Go.Ground.data }, { on := 5, ground := Go.Ground.chain }, { on := 5, ground := Go.Ground.guard }], guard := some (5, false) }) (v := undef) rfl (by kernel_rfl) (by kernel_rfl) (by kernel_rfl) (fun _ _ _ h => h) (Or.inr ⟨by rfl, rfl⟩) (by assumption) ?_
          simp only [Act.put, List.setIfInBounds_toArray, List.set_cons_zero, List.set_cons_succ]
          refine wpAnyH_take (i := 11) (oi := { dst := some 27, op := Go.Op.pick (Go.Operand.tmp 21) (Go.Operand.const (Go.Value.bool true)) (Go.Operand.tmp 26), type := 4, pos := "ref.go:280", after := #[{ on := 5, ground := Go.Ground.data }, { on := 10, ground := Go.Ground.data }], guard := none }) (v := .bool true) rfl (by kernel_rfl) (by kernel_rfl) (by kernel_rfl) (fun _ _ _ h => h) (Or.inl ⟨by rfl, ?_⟩) (by assumption) ?_
          · intro w' hS; go_simp
          simp only [Act.put, List.setIfInBounds_toArray, List.set_cons_zero, List.set_cons_succ]
          refine wpAnyH_done (by kernel_rfl) ?_ _
          have HY : Hid (vbs [L, R] (3 + 1) = vbs [L, R] 3 ++ [116]) := vbs_yes (c := 116) rfl HANY.out
          have hcat := run_cat (X := ⟨(vbs [L, R] 3).toArray⟩) (L := ⟨#[116]⟩) (by have h1 : (⟨(vbs [L, R] 3).toArray⟩ : ByteArray).size = (vbs [L, R] 3).length := (by simp [ByteArray.size]); have h2 : (⟨#[116]⟩ : ByteArray).size = 1 := rfl; have hmx : IntKind.i64.max = 9223372036854775807 := (by decide); omega)
          rw [ba_snoc] at hcat
          go_wp2_with fail
          go_roundw
          case rel => exact ⟨3 + 1, by go_num, by omega, by rw [HY.out, ← ba_snoc]; rfl, hH1⟩
          case measure => simp [Go.RowKit.intOf]
        | false =>
          rw [q1] at HIL
          cases q2 : occ R 116 with
          | true =>
            have HANY : Hid (([L, R].any fun K => occ K (UInt8.toNat 116)) = true) := by show _ = _; rw [HA.out, q1, q2]; rfl
            rw [q2] at HIR
            clear q1 q2
            go_upto_region 8 with fail
            refine wp_region_held_drew (S := fun y => Below w1.heap.size w1 y) (by kernel_rfl) HB.out.drew (fun hH0 => ?_)
            generalize wr.drew = y0 at hH0 ⊢
            refine wpAnyH_take (i := 0) (oi := { dst := some 16, op := Go.Op.fieldAddr 24 (Go.Operand.tmp 1) 0, type := 0, pos := "ref.go:280", after := #[], guard := none }) (v := ?_) rfl (by kernel_rfl) (by kernel_rfl) (by kernel_rfl) (fun _ _ _ h => h) (Or.inl ⟨by rfl, ?_⟩) (by assumption) ?_
            rotate_left
            · intro w' hS; go_simp; (try with_reducible rfl)
            simp only [Act.put, List.setIfInBounds_toArray, List.set_cons_zero, List.set_cons_succ]
            refine wpAnyH_take (i := 1) (oi := { dst := some 17, op := Go.Op.load 22 (Go.Operand.tmp 16), type := 22, pos := "ref.go:280", after := #[{ on := 0, ground := Go.Ground.data }], guard := none }) (v := .slice a1 L.length c1) rfl (by kernel_rfl) (by kernel_rfl) (by kernel_rfl) (fun _ _ _ h => h) (Or.inl ⟨by rfl, ?_⟩) (by assumption) ?_
            · intro w' hS; have hz := (HKK.out w' hS).1; go_simp
            simp only [Act.put, List.setIfInBounds_toArray, List.set_cons_zero, List.set_cons_succ]
            refine wpAnyH_take (i := 2) (oi := { dst := some 18, op := Go.Op.move (Go.Operand.tmp 6), type := 3, pos := "ref.go:280", after := #[], guard := none }) (v := ?_) rfl (by kernel_rfl) (by kernel_rfl) (by kernel_rfl) (fun _ _ _ h => h) (Or.inl ⟨by rfl, ?_⟩) (by assumption) ?_
            rotate_left
            · intro w' hS; go_simp; (try with_reducible rfl)
            simp only [Act.put, List.setIfInBounds_toArray, List.set_cons_zero, List.set_cons_succ]
            refine wpAnyH_take (i := 3) (oi := { dst := some 19, op := Go.Op.index 9 (Go.Operand.const (Go.Value.string { data := #[120, 121, 122, 116] })) (Go.Operand.tmp 18), type := 5, pos := "ref.go:280", after := #[{ on := 2, ground := Go.Ground.data }], guard := none }) (v := .int .u8 116) rfl (by kernel_rfl) (by kernel_rfl) (by kernel_rfl) (fun _ _ _ h => h) (Or.inl ⟨by rfl, ?_⟩) (by assumption) ?_
            · intro w' hS; go_simp; rfl
            simp only [Act.put, List.setIfInBounds_toArray, List.set_cons_zero, List.set_cons_succ]
            refine wpAnyH_ready (rs := [4]) (by kernel_rfl) (by simp) ?_
            refine AllReadyH.cons rfl (fun K hK => ?_) AllReadyH.nil
            go_simp
            refine (HIL.out _ hH0).mono ?_
            rintro e y1 ⟨rfl, hB⟩
            have hN : Below w1.heap.size w1 y1 := go_on hH0 hB
            clear hB
            go_wp2_with fail
            refine hK.out _ _ hN (fun hH1 => ?_)
            clear hN
            clear hK K
            refine wpAnyH_take (i := 5) (oi := { dst := some 21, op := Go.Op.move (Go.Operand.tmp 20), type := 4, pos := "ref.go:280", after := #[{ on := 4, ground := Go.Ground.data }, { on := 4, ground := Go.Ground.chain }], guard := none }) (v := ?_) rfl (by kernel_rfl) (by kernel_rfl) (by kernel_rfl) (fun _ _ _ h => h) (Or.inl ⟨by rfl, ?_⟩) (by assumption) ?_
            rotate_left
            · intro w' hS; go_simp; (try with_reducible rfl)
            simp only [Act.put, List.setIfInBounds_toArray, List.set_cons_zero, List.set_cons_succ]
            refine wpAnyH_take (i := 6) (oi := { dst := some 22, op := Go.Op.fieldAddr 24 (Go.Operand.tmp 1) 1, type := 0, pos := "ref.go:280", after := #[{ on := 5, ground := Go.Ground.guard }], guard := some (5, false) }) (v := ?_) rfl (by kernel_rfl) (by kernel_rfl) (by kernel_rfl) (fun _ _ _ h => h) (Or.inl ⟨by rfl, ?_⟩) (by assumption) ?_
            rotate_left
            · intro w' hS; go_simp; (try with_reducible rfl)
            simp only [Act.put, List.setIfInBounds_toArray, List.set_cons_zero, List.set_cons_succ]
            refine wpAnyH_take (i := 7) (oi := { dst := some 23, op := Go.Op.load 22 (Go.Operand.tmp 22), type := 22, pos := "ref.go:280", after := #[{ on := 6, ground := Go.Ground.data }, { on := 5, ground := Go.Ground.guard }], guard := some (5, false) }) (v := .slice a2 R.length c2) rfl (by kernel_rfl) (by kernel_rfl) (by kernel_rfl) (fun _ _ _ h => h) (Or.inl ⟨by rfl, ?_⟩) (by assumption) ?_
            · intro w' hS; have hz := (HKK.out w' hS).2; go_simp
            simp only [Act.put, List.setIfInBounds_toArray, List.set_cons_zero, List.set_cons_succ]
            refine wpAnyH_take (i := 8) (oi := { dst := some 24, op := Go.Op.move (Go.Operand.tmp 6), type := 3, pos := "ref.go:280", after := #[{ on := 5, ground := Go.Ground.guard }], guard := some (5, false) }) (v := ?_) rfl (by kernel_rfl) (by kernel_rfl) (by kernel_rfl) (fun _ _ _ h => h) (Or.inl ⟨by rfl, ?_⟩) (by assumption) ?_
            rotate_left
            · intro w' hS; go_simp; (try with_reducible rfl)
            simp only [Act.put, List.setIfInBounds_toArray, List.set_cons_zero, List.set_cons_succ]
            refine wpAnyH_take (i := 9) (oi := { dst := some 25, op := Go.Op.index 9 (Go.Operand.const (Go.Value.string { data := #[120, 121, 122, 116] })) (Go.Operand.tmp 24), type := 5, pos := "ref.go:280", after := #[{ on := 8, ground := Go.Ground.data }, { on := 5, ground := Go.Ground.guard }], guard := some (5, false) }) (v := .int .u8 116) rfl (by kernel_rfl) (by kernel_rfl) (by kernel_rfl) (fun _ _ _ h => h) (Or.inl ⟨by rfl, ?_⟩) (by assumption) ?_
            · intro w' hS; go_simp; rfl
            simp only [Act.put, List.setIfInBounds_toArray, List.set_cons_zero, List.set_cons_succ]
            refine wpAnyH_ready (rs := [10]) (by kernel_rfl) (by simp) ?_
            refine AllReadyH.cons rfl (fun K hK => ?_) AllReadyH.nil
            go_simp
            refine (HIR.out _ hH1).mono ?_
            rintro e y2 ⟨rfl, hB⟩
            have hN : Below w1.heap.size w1 y2 := go_on hH1 hB
            clear hB
            go_wp2_with fail
            refine hK.out _ _ hN (fun hH2 => ?_)
            clear hN
            clear hK K
            refine wpAnyH_take (i := 11) (oi := { dst := some 27, op := Go.Op.pick (Go.Operand.tmp 21) (Go.Operand.const (Go.Value.bool true)) (Go.Operand.tmp 26), type := 4, pos := "ref.go:280", after := #[{ on := 5, ground := Go.Ground.data }, { on := 10, ground := Go.Ground.data }], guard := none }) (v := .bool true) rfl (by kernel_rfl) (by kernel_rfl) (by kernel_rfl) (fun _ _ _ h => h) (Or.inl ⟨by rfl, ?_⟩) (by assumption) ?_
            · intro w' hS; go_simp
            simp only [Act.put, List.setIfInBounds_toArray, List.set_cons_zero, List.set_cons_succ]
            refine wpAnyH_done (by kernel_rfl) ?_ _
            have HY : Hid (vbs [L, R] (3 + 1) = vbs [L, R] 3 ++ [116]) := vbs_yes (c := 116) rfl HANY.out
            have hcat := run_cat (X := ⟨(vbs [L, R] 3).toArray⟩) (L := ⟨#[116]⟩) (by have h1 : (⟨(vbs [L, R] 3).toArray⟩ : ByteArray).size = (vbs [L, R] 3).length := (by simp [ByteArray.size]); have h2 : (⟨#[116]⟩ : ByteArray).size = 1 := rfl; have hmx : IntKind.i64.max = 9223372036854775807 := (by decide); omega)
            rw [ba_snoc] at hcat
            go_wp2_with fail
            go_roundw
            case rel => exact ⟨3 + 1, by go_num, by omega, by rw [HY.out, ← ba_snoc]; rfl, hH2⟩
            case measure => simp [Go.RowKit.intOf]
          | false =>
            have HANY : Hid (([L, R].any fun K => occ K (UInt8.toNat 116)) = false) := by show _ = _; rw [HA.out, q1, q2]; rfl
            rw [q2] at HIR
            clear q1 q2
            go_upto_region 8 with fail
            refine wp_region_held_drew (S := fun y => Below w1.heap.size w1 y) (by kernel_rfl) HB.out.drew (fun hH0 => ?_)
            generalize wr.drew = y0 at hH0 ⊢
            refine wpAnyH_take (i := 0) (oi := { dst := some 16, op := Go.Op.fieldAddr 24 (Go.Operand.tmp 1) 0, type := 0, pos := "ref.go:280", after := #[], guard := none }) (v := ?_) rfl (by kernel_rfl) (by kernel_rfl) (by kernel_rfl) (fun _ _ _ h => h) (Or.inl ⟨by rfl, ?_⟩) (by assumption) ?_
            rotate_left
            · intro w' hS; go_simp; (try with_reducible rfl)
            simp only [Act.put, List.setIfInBounds_toArray, List.set_cons_zero, List.set_cons_succ]
            refine wpAnyH_take (i := 1) (oi := { dst := some 17, op := Go.Op.load 22 (Go.Operand.tmp 16), type := 22, pos := "ref.go:280", after := #[{ on := 0, ground := Go.Ground.data }], guard := none }) (v := .slice a1 L.length c1) rfl (by kernel_rfl) (by kernel_rfl) (by kernel_rfl) (fun _ _ _ h => h) (Or.inl ⟨by rfl, ?_⟩) (by assumption) ?_
            · intro w' hS; have hz := (HKK.out w' hS).1; go_simp
            simp only [Act.put, List.setIfInBounds_toArray, List.set_cons_zero, List.set_cons_succ]
            refine wpAnyH_take (i := 2) (oi := { dst := some 18, op := Go.Op.move (Go.Operand.tmp 6), type := 3, pos := "ref.go:280", after := #[], guard := none }) (v := ?_) rfl (by kernel_rfl) (by kernel_rfl) (by kernel_rfl) (fun _ _ _ h => h) (Or.inl ⟨by rfl, ?_⟩) (by assumption) ?_
            rotate_left
            · intro w' hS; go_simp; (try with_reducible rfl)
            simp only [Act.put, List.setIfInBounds_toArray, List.set_cons_zero, List.set_cons_succ]
            refine wpAnyH_take (i := 3) (oi := { dst := some 19, op := Go.Op.index 9 (Go.Operand.const (Go.Value.string { data := #[120, 121, 122, 116] })) (Go.Operand.tmp 18), type := 5, pos := "ref.go:280", after := #[{ on := 2, ground := Go.Ground.data }], guard := none }) (v := .int .u8 116) rfl (by kernel_rfl) (by kernel_rfl) (by kernel_rfl) (fun _ _ _ h => h) (Or.inl ⟨by rfl, ?_⟩) (by assumption) ?_
            · intro w' hS; go_simp; rfl
            simp only [Act.put, List.setIfInBounds_toArray, List.set_cons_zero, List.set_cons_succ]
            refine wpAnyH_ready (rs := [4]) (by kernel_rfl) (by simp) ?_
            refine AllReadyH.cons rfl (fun K hK => ?_) AllReadyH.nil
            go_simp
            refine (HIL.out _ hH0).mono ?_
            rintro e y1 ⟨rfl, hB⟩
            have hN : Below w1.heap.size w1 y1 := go_on hH0 hB
            clear hB
            go_wp2_with fail
            refine hK.out _ _ hN (fun hH1 => ?_)
            clear hN
            clear hK K
            refine wpAnyH_take (i := 5) (oi := { dst := some 21, op := Go.Op.move (Go.Operand.tmp 20), type := 4, pos := "ref.go:280", after := #[{ on := 4, ground := Go.Ground.data }, { on := 4, ground := Go.Ground.chain }], guard := none }) (v := ?_) rfl (by kernel_rfl) (by kernel_rfl) (by kernel_rfl) (fun _ _ _ h => h) (Or.inl ⟨by rfl, ?_⟩) (by assumption) ?_
            rotate_left
            · intro w' hS; go_simp; (try with_reducible rfl)
            simp only [Act.put, List.setIfInBounds_toArray, List.set_cons_zero, List.set_cons_succ]
            refine wpAnyH_take (i := 6) (oi := { dst := some 22, op := Go.Op.fieldAddr 24 (Go.Operand.tmp 1) 1, type := 0, pos := "ref.go:280", after := #[{ on := 5, ground := Go.Ground.guard }], guard := some (5, false) }) (v := ?_) rfl (by kernel_rfl) (by kernel_rfl) (by kernel_rfl) (fun _ _ _ h => h) (Or.inl ⟨by rfl, ?_⟩) (by assumption) ?_
            rotate_left
            · intro w' hS; go_simp; (try with_reducible rfl)
            simp only [Act.put, List.setIfInBounds_toArray, List.set_cons_zero, List.set_cons_succ]
            refine wpAnyH_take (i := 7) (oi := { dst := some 23, op := Go.Op.load 22 (Go.Operand.tmp 22), type := 22, pos := "ref.go:280", after := #[{ on := 6, ground := Go.Ground.data }, { on := 5, ground := Go.Ground.guard }], guard := some (5, false) }) (v := .slice a2 R.length c2) rfl (by kernel_rfl) (by kernel_rfl) (by kernel_rfl) (fun _ _ _ h => h) (Or.inl ⟨by rfl, ?_⟩) (by assumption) ?_
            · intro w' hS; have hz := (HKK.out w' hS).2; go_simp
            simp only [Act.put, List.setIfInBounds_toArray, List.set_cons_zero, List.set_cons_succ]
            refine wpAnyH_take (i := 8) (oi := { dst := some 24, op := Go.Op.move (Go.Operand.tmp 6), type := 3, pos := "ref.go:280", after := #[{ on := 5, ground := Go.Ground.guard }], guard := some (5, false) }) (v := ?_) rfl (by kernel_rfl) (by kernel_rfl) (by kernel_rfl) (fun _ _ _ h => h) (Or.inl ⟨by rfl, ?_⟩) (by assumption) ?_
            rotate_left
            · intro w' hS; go_simp; (try with_reducible rfl)
            simp only [Act.put, List.setIfInBounds_toArray, List.set_cons_zero, List.set_cons_succ]
            refine wpAnyH_take (i := 9) (oi := { dst := some 25, op := Go.Op.index 9 (Go.Operand.const (Go.Value.string { data := #[120, 121, 122, 116] })) (Go.Operand.tmp 24), type := 5, pos := "ref.go:280", after := #[{ on := 8, ground := Go.Ground.data }, { on := 5, ground := Go.Ground.guard }], guard := some (5, false) }) (v := .int .u8 116) rfl (by kernel_rfl) (by kernel_rfl) (by kernel_rfl) (fun _ _ _ h => h) (Or.inl ⟨by rfl, ?_⟩) (by assumption) ?_
            · intro w' hS; go_simp; rfl
            simp only [Act.put, List.setIfInBounds_toArray, List.set_cons_zero, List.set_cons_succ]
            refine wpAnyH_ready (rs := [10]) (by kernel_rfl) (by simp) ?_
            refine AllReadyH.cons rfl (fun K hK => ?_) AllReadyH.nil
            go_simp
            refine (HIR.out _ hH1).mono ?_
            rintro e y2 ⟨rfl, hB⟩
            have hN : Below w1.heap.size w1 y2 := go_on hH1 hB
            clear hB
            go_wp2_with fail
            refine hK.out _ _ hN (fun hH2 => ?_)
            clear hN
            clear hK K
            refine wpAnyH_take (i := 11) (oi := { dst := some 27, op := Go.Op.pick (Go.Operand.tmp 21) (Go.Operand.const (Go.Value.bool true)) (Go.Operand.tmp 26), type := 4, pos := "ref.go:280", after := #[{ on := 5, ground := Go.Ground.data }, { on := 10, ground := Go.Ground.data }], guard := none }) (v := .bool false) rfl (by kernel_rfl) (by kernel_rfl) (by kernel_rfl) (fun _ _ _ h => h) (Or.inl ⟨by rfl, ?_⟩) (by assumption) ?_
            · intro w' hS; go_simp
            simp only [Act.put, List.setIfInBounds_toArray, List.set_cons_zero, List.set_cons_succ]
            refine wpAnyH_done (by kernel_rfl) ?_ _
            have HY : Hid (vbs [L, R] (3 + 1) = vbs [L, R] 3) := vbs_no (c := 116) rfl HANY.out
            go_wp2_with fail
            go_roundw
            case rel => exact ⟨3 + 1, by go_num, by omega, by rw [HY.out], hH2⟩
            case measure => simp [Go.RowKit.intOf]
    · have e4 : i = 4 := by omega
      subst e4
      have h4 : decide ((4 : Int) < 4) = false := rfl
      clear hlt hin
      go_wp2_with fail
      go_ret2
      exact ⟨by rw [HV.out]; rfl, go_on HB1.out HB.out⟩
end Go.Proofs.Ythhlamehbcidgaa
