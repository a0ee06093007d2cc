/- Turn: the program's and the document's. -/
import Derived.Test.YthhlamehbcidgaaY45
namespace Go.Proofs.Ythhlamehbcidgaa
open Go Go.RowKit Go.Lib
set_option linter.unusedVariables false

open Classical in
noncomputable def tmOf (L : List (Int × Nat)) : Tm := if h : ∃ t : Tm, L = intS t.sg then Classical.choose h else .one
theorem tmOf_sg {L : List (Int × Nat)} (h : sideB L = true) : L = intS (tmOf L).sg := by
  have h1 := side_tm h
  unfold tmOf
  rw [dif_pos h1]
  exact Classical.choose_spec h1
theorem results_id {fn : Func} {p u : Tmp} (h : fn.results = #[.cell p 24, .tmp u]) {tmps : Array Value} {b : Nat} {arr : Array Value} {w : World} (hp : tmps.getD p undef = .pointer (some ⟨b, 0, none⟩)) (hc : w.heap[b]? = some (.cells arr 24 (0, 0))) (hs : arr.size = 3) :
    (results fn tmps).run Try.prog w = .ok (.tuple #[.agg arr, tmps.getD u undef]) w := by
  rw [results_cell_tmp h]
  have := run_loadVar_row w b 24 24 arr (0, 0) _ hc Try.underlying24 rfl (by rw [Try.info_id, hs])
  simp [hp, asAddr, this, Result.andThen]
/-- What both Turns tell. -/
def TnQ (L R : List (Int × Nat)) (x : Bool) (w : World) (e : Ending) (w' : World) : Prop :=
  ((ck2 L R = 0 ∧ ∃ ul ur, e = .returned (.tuple #[.agg #[ul, ur, .bool x], .int .i64 0]) ∧ w'.ownsRow w.heap.size 81 2 ul (tmOf L).turn.length (sgC (tmOf L).turn) ∧ w'.ownsRow w.heap.size 81 2 ur (tmOf R).turn.length (sgC (tmOf R).turn)) ∨ (ck2 L R ≠ 0 ∧ e = .returned (.tuple #[.agg #[.slice none 0 0, .slice none 0 0, .bool false], .int .i64 (ck2 L R)]))) ∧ Below w.heap.size w w'

set_option maxHeartbeats 8000000 in
set_option maxRecDepth 100000 in
theorem tTurn_any (vl vr : Value) (x : Bool) (L R : List (Int × Nat)) (w : World) (hlC : SgC w vl L) (hrC : SgC w vr R) (hL : L.length ≤ 9223372036854775000) (hR : R.length ≤ 9223372036854775000) :
    Calls Try.prog 17 #[.agg #[vl, vr, .bool x]] w (TnQ L R x w) := by
  obtain ⟨a1, c1, e1⟩ := hlC.1.len
  obtain ⟨a2, c2, e2⟩ := hrC.1.len
  subst e1 e2
  obtain ⟨w1, hw1⟩ : ∃ w1, w1 = (w.alloc (.cells #[.slice a1 L.length c1, .slice a2 R.length c2, .bool x] 24)).alloc (.cells #[.slice none 0 0, .slice none 0 0, .bool false] 24) := ⟨_, rfl⟩
  have HW1 : Hid (w1 = (w.alloc (.cells #[.slice a1 L.length c1, .slice a2 R.length c2, .bool x] 24)).alloc (.cells #[.slice none 0 0, .slice none 0 0, .bool false] 24)) := hw1
  obtain ⟨hi1, hj1, hb1⟩ := two_new w _ _ w1 hw1
  have HCK : Hid (Calls Try.prog 21 #[.agg #[.slice a1 L.length c1, .slice a2 R.length c2, .bool x]] w1 fun e w' => e = .returned (.int .i64 (ck2 L R)) ∧ Below w1.heap.size w1 w') := tCheck_any _ _ x L R w1 (hlC.1.below hb1) (hrC.1.below hb1) (by omega) (by omega)
  have k0 : w1.cell? ⟨w.heap.size, 0, none⟩ = some (.slice a1 L.length c1) := cell_at hi1 rfl
  have k1 : w1.cell? ⟨w.heap.size, 1, none⟩ = some (.slice a2 R.length c2) := cell_at hi1 rfl
  have k2 : w1.cell? ⟨w.heap.size, 2, none⟩ = some (.bool x) := cell_at hi1 rfl
  have HI1 : Hid (w1.heap[w.heap.size]? = some (.cells #[.slice a1 L.length c1, .slice a2 R.length c2, .bool x] 24 (0, 0)) ∧ w1.heap[w.heap.size + 1]? = some (.cells #[.slice none 0 0, .slice none 0 0, .bool false] 24 (0, 0)) ∧ Below w.heap.size w w1) := ⟨hi1, hj1, hb1⟩
  have HCL : Hid (SgC w (.slice a1 L.length c1) L ∧ SgC w (.slice a2 R.length c2) R) := ⟨hlC, hrC⟩
  clear hlC hrC hi1 hj1 hb1 hw1
  by_cases hk : ck2 L R = 0
  rotate_left
  · obtain ⟨er, her⟩ : ∃ er, ck2 L R = er := ⟨_, rfl⟩
    have HER : Hid (ck2 L R = er ∧ er ≠ 0) := ⟨her, her ▸ hk⟩
    rw [her] at HCK hk
    have hneb : (er != 0) = true := by rw [bne_iff_ne]; exact hk
    have hned : decide (er ≠ 0) = true := decide_eq_true hk
    clear her
    go_enter Try.func17, Try.ntmps17
    go_upto_region 1 with fail
    rw [← HW1.out]
    go_wp2_with fail
    refine Calls.mono HCK.out ?_
    rintro e w2 ⟨rfl, hb2⟩
    have HB2 : Hid (Below w.heap.size w w2) := go_on HI1.out.2.2 hb2
    have HJ2 : Hid (w2.heap[w.heap.size + 1]? = some (.cells #[.slice none 0 0, .slice none 0 0, .bool false] 24 (0, 0))) := (hb2.block _ (Array.getElem?_eq_some_iff.1 HI1.out.2.1).1).trans HI1.out.2.1
    have j0 := cell_at (j := 0) HJ2.out rfl
    have j1 := cell_at (j := 1) HJ2.out rfl
    have j2 := cell_at (j := 2) HJ2.out rfl
    have jf : ∀ j, w2.frozen? ⟨w.heap.size + 1, j, none⟩ = false := fun j => froz_of HJ2.out
    clear hb2 k0 k1 k2
    go_wp2_with fail
    refine bodyPost_ret (results_id rfl rfl (heap_set (heap_set (heap_set HJ2.out))) rfl) rfl ⟨.inr ⟨by rw [HER.out.1]; exact HER.out.2, by rw [HER.out.1]; rfl⟩, ?_⟩
    exact ((HB2.out.setCell (p := ⟨w.heap.size + 1, 0, none⟩) (Nat.le_succ _) _).setCell (p := ⟨w.heap.size + 1, 1, none⟩) (Nat.le_succ _) _).setCell (p := ⟨w.heap.size + 1, 2, none⟩) (Nat.le_succ _) _
  obtain ⟨s1, s2, hn1, hn2⟩ := ck2_sides hk
  have HK0 : Hid (ck2 L R = 0) := hk
  have e1 := tmOf_sg s1
  have e2 := tmOf_sg s2
  have hl1 : (tmOf L).sg.length ≤ 400 := by have := congrArg List.length e1; rw [intS_len] at this; omega
  have hl2 : (tmOf R).sg.length ≤ 400 := by have := congrArg List.length e2; rw [intS_len] at this; omega
  have HT1 : Hid (∀ y, (y.heap[w.heap.size]? = some (.cells #[.slice a1 L.length c1, .slice a2 R.length c2, .bool x] 24 (0, 0)) ∧ Below w.heap.size w y) → Calls Try.prog 35 #[.slice a1 L.length c1] y fun e w' => ∃ u, e = .returned u ∧ w'.ownsRow y.heap.size 81 2 u (tmOf L).turn.length (sgC (tmOf L).turn) ∧ Below y.heap.size y w') := fun y hy => tturned_any (tmOf L) hl1 _ y (e1 ▸ (HCL.out.1.1.below hy.2))
  have HT2 : Hid (∀ y, (y.heap[w.heap.size]? = some (.cells #[.slice a1 L.length c1, .slice a2 R.length c2, .bool x] 24 (0, 0)) ∧ Below w.heap.size w y) → Calls Try.prog 35 #[.slice a2 R.length c2] y fun e w' => ∃ u, e = .returned u ∧ w'.ownsRow y.heap.size 81 2 u (tmOf R).turn.length (sgC (tmOf R).turn) ∧ Below y.heap.size y w') := fun y hy => tturned_any (tmOf R) hl2 _ y (e2 ▸ (HCL.out.2.1.below hy.2))
  rw [hk] at HCK
  clear hk s1 s2 hn1 hn2 e1 e2 hl1 hl2
  go_enter Try.func17, Try.ntmps17
  go_upto_region 1 with fail
  rw [← HW1.out]
  go_wp2_with fail
  refine Calls.mono HCK.out ?_
  rintro e w2 ⟨rfl, hb2⟩
  have S0 : w2.drew.heap[w.heap.size]? = some (.cells #[.slice a1 L.length c1, .slice a2 R.length c2, .bool x] 24 (0, 0)) ∧ Below w.heap.size w w2.drew := ⟨(hb2.block _ (Array.getElem?_eq_some_iff.1 HI1.out.1).1).trans HI1.out.1, (go_on HI1.out.2.2 hb2).drew⟩
  have HJ0 : Hid (w2.drew.heap[w.heap.size + 1]? = some (.cells #[.slice none 0 0, .slice none 0 0, .bool false] 24 (0, 0))) := (hb2.block _ (Array.getElem?_eq_some_iff.1 HI1.out.2.1).1).trans HI1.out.2.1
  have HS0 : Hid (w1.heap.size ≤ w2.drew.heap.size) := hb2.size
  clear hb2 k0 k1 k2
  go_upto_region 4 with fail
  refine wp_region_held_drew (S := fun y => y.heap[w.heap.size]? = some (.cells #[.slice a1 L.length c1, .slice a2 R.length c2, .bool x] 24 (0, 0)) ∧ Below w.heap.size w y) (by kernel_rfl) S0 (fun hH0 => ?_)
  clear S0
  refine wpAnyH_take (i := 0) (oi := { dst := some 11, op := Go.Op.fieldAddr 24 (Go.Operand.tmp 1) 0, type := 0, pos := "terms.go:61", after := #[], guard := none }) (v := ?_) rfl (by kernel_rfl) (by kernel_rfl) (by kernel_rfl) (fun _ _ _ h => h) (Or.inl ⟨by rfl, ?_⟩) (by assumption) ?_
  rotate_left
  · intro w' hS; go_simp; (try with_reducible rfl)
  simp only [Act.put, List.setIfInBounds_toArray, List.set_cons_zero, List.set_cons_succ]
  refine wpAnyH_take (i := 1) (oi := { dst := some 12, op := Go.Op.load 22 (Go.Operand.tmp 11), type := 22, pos := "terms.go:61", after := #[{ on := 0, ground := Go.Ground.data }], guard := none }) (v := .slice a1 L.length c1) rfl (by kernel_rfl) (by kernel_rfl) (by kernel_rfl) (fun _ _ _ h => h) (Or.inl ⟨by rfl, ?_⟩) (by assumption) ?_
  · intro w' hS; have hz := cell_at (j := 0) hS.1 rfl; go_simp
  simp only [Act.put, List.setIfInBounds_toArray, List.set_cons_zero, List.set_cons_succ]
  refine wpAnyH_take (i := 3) (oi := { dst := some 14, op := Go.Op.fieldAddr 24 (Go.Operand.tmp 1) 1, type := 0, pos := "terms.go:61", after := #[], guard := none }) (v := ?_) rfl (by kernel_rfl) (by kernel_rfl) (by kernel_rfl) (fun _ _ _ h => h) (Or.inl ⟨by rfl, ?_⟩) (by assumption) ?_
  rotate_left
  · intro w' hS; go_simp; (try with_reducible rfl)
  simp only [Act.put, List.setIfInBounds_toArray, List.set_cons_zero, List.set_cons_succ]
  refine wpAnyH_take (i := 4) (oi := { dst := some 15, op := Go.Op.load 22 (Go.Operand.tmp 14), type := 22, pos := "terms.go:61", after := #[{ on := 3, ground := Go.Ground.data }], guard := none }) (v := .slice a2 R.length c2) rfl (by kernel_rfl) (by kernel_rfl) (by kernel_rfl) (fun _ _ _ h => h) (Or.inl ⟨by rfl, ?_⟩) (by assumption) ?_
  · intro w' hS; have hz := cell_at (j := 1) hS.1 rfl; go_simp
  simp only [Act.put, List.setIfInBounds_toArray, List.set_cons_zero, List.set_cons_succ]
  refine wpAnyH_take (i := 6) (oi := { dst := some 17, op := Go.Op.fieldAddr 24 (Go.Operand.tmp 1) 2, type := 0, pos := "terms.go:61", after := #[], guard := none }) (v := ?_) rfl (by kernel_rfl) (by kernel_rfl) (by kernel_rfl) (fun _ _ _ h => h) (Or.inl ⟨by rfl, ?_⟩) (by assumption) ?_
  rotate_left
  · intro w' hS; go_simp; (try with_reducible rfl)
  simp only [Act.put, List.setIfInBounds_toArray, List.set_cons_zero, List.set_cons_succ]
  refine wpAnyH_take (i := 7) (oi := { dst := some 18, op := Go.Op.load 4 (Go.Operand.tmp 17), type := 4, pos := "terms.go:61", after := #[{ on := 6, ground := Go.Ground.data }], guard := none }) (v := .bool x) rfl (by kernel_rfl) (by kernel_rfl) (by kernel_rfl) (fun _ _ _ h => h) (Or.inl ⟨by rfl, ?_⟩) (by assumption) ?_
  · intro w' hS; have hz := cell_at (j := 2) hS.1 rfl; go_simp
  simp only [Act.put, List.setIfInBounds_toArray, List.set_cons_zero, List.set_cons_succ]
  refine wpAnyH_ready (rs := [2]) (by kernel_rfl) (by simp) ?_
  refine AllReadyH.cons rfl (fun K hK => ?_) AllReadyH.nil
  go_simp
  refine (HT1.out _ hH0).mono ?_
  rintro e y1 ⟨u, rfl, hu, hb⟩
  obtain ⟨_, _, rfl⟩ := own_shape hu
  have hN : y1.heap[w.heap.size]? = some (.cells #[.slice a1 L.length c1, .slice a2 R.length c2, .bool x] 24 (0, 0)) ∧ Below w.heap.size w y1 := ⟨(hb.block _ (Array.getElem?_eq_some_iff.1 hH0.1).1).trans hH0.1, go_on hH0.2 hb⟩
  have HJ1 : Hid (y1.heap[w.heap.size + 1]? = some (.cells #[.slice none 0 0, .slice none 0 0, .bool false] 24 (0, 0))) := (hb.block _ (Array.getElem?_eq_some_iff.1 HJ0.out).1).trans HJ0.out
  have HB1 : Hid (w1.heap.size ≤ y1.heap.size) := Nat.le_trans HS0.out hb.size
  have HU1 : Hid (y1.ownsRow w1.heap.size 81 2 _ (tmOf L).turn.length (sgC (tmOf L).turn)) := own_less hu HS0.out
  clear hu hb
  go_wp2_with fail
  refine hK.out _ _ hN (fun hH1 => ?_)
  clear hN
  clear hK K
  refine wpAnyH_ready (rs := [5]) (by kernel_rfl) (by simp) ?_
  refine AllReadyH.cons rfl (fun K hK => ?_) AllReadyH.nil
  go_simp
  refine (HT2.out _ hH1).mono ?_
  rintro e y2 ⟨u, rfl, hu, hb⟩
  obtain ⟨_, _, rfl⟩ := own_shape hu
  have hN : y2.heap[w.heap.size]? = some (.cells #[.slice a1 L.length c1, .slice a2 R.length c2, .bool x] 24 (0, 0)) ∧ Below w.heap.size w y2 := ⟨(hb.block _ (Array.getElem?_eq_some_iff.1 hH1.1).1).trans hH1.1, go_on hH1.2 hb⟩
  have HJ2 : Hid (y2.heap[w.heap.size + 1]? = some (.cells #[.slice none 0 0, .slice none 0 0, .bool false] 24 (0, 0))) := (hb.block _ (Array.getElem?_eq_some_iff.1 HJ1.out).1).trans HJ1.out
  have HU2 : Hid (y2.ownsRow w1.heap.size 81 2 _ (tmOf R).turn.length (sgC (tmOf R).turn)) := own_less hu HB1.out
  have HU3 : Hid (y2.ownsRow w1.heap.size 81 2 _ (tmOf L).turn.length (sgC (tmOf L).turn)) := own_below HU1.out hb
  clear hu hb
  go_wp2_with fail
  refine hK.out _ _ hN (fun hH2 => ?_)
  clear hN
  have j0 := cell_at (j := 0) HJ2.out rfl
  have j1 := cell_at (j := 1) HJ2.out rfl
  have j2 := cell_at (j := 2) HJ2.out rfl
  have jf : ∀ j, y2.frozen? ⟨w.heap.size + 1, j, none⟩ = false := fun j => froz_of HJ2.out
  clear hK K
  refine wpAnyH_take (i := 8) (oi := { dst := some 19, op := Go.Op.build 24 #[(0, Go.Operand.tmp 13), (1, Go.Operand.tmp 16), (2, Go.Operand.tmp 18)], type := 24, pos := "terms.go:61", after := #[{ on := 2, ground := Go.Ground.data }, { on := 5, ground := Go.Ground.data }, { on := 7, ground := Go.Ground.data }], guard := none }) (v := ?_) rfl (by kernel_rfl) (by kernel_rfl) (by kernel_rfl) (fun _ _ _ h => h) (Or.inl ⟨by rfl, ?_⟩) (by assumption) ?_
  rotate_left
  · intro w' hS; go_simp; (try with_reducible rfl)
  simp only [Act.put, List.setIfInBounds_toArray, List.set_cons_zero, List.set_cons_succ]
  refine wpAnyH_ready (rs := [9]) (by kernel_rfl) (by simp) ?_
  refine AllReadyH.cons rfl (fun K hK => ?_) AllReadyH.nil
  go_simp
  refine hK.out _ _ ⟨?_, ?_⟩ (fun hH3 => ?_)
  · rw [heap_set_other (by omega), heap_set_other (by omega), heap_set_other (by omega)]; exact hH2.1
  · exact ((hH2.2.setCell (p := ⟨w.heap.size + 1, 0, none⟩) (Nat.le_succ _) _).setCell (p := ⟨w.heap.size + 1, 1, none⟩) (Nat.le_succ _) _).setCell (p := ⟨w.heap.size + 1, 2, none⟩) (Nat.le_succ _) _
  clear hK K
  refine wpAnyH_take (i := 10) (oi := { dst := some 3, op := Go.Op.assign (Go.Operand.const (Go.Value.int Go.IntKind.i64 0)), type := 25, pos := "terms.go:61", after := #[{ on := 9, ground := Go.Ground.chain }, { on := 0, ground := Go.Ground.phase }, { on := 1, ground := Go.Ground.phase }, { on := 2, ground := Go.Ground.phase }, { on := 3, ground := Go.Ground.phase }, { on := 4, ground := Go.Ground.phase }, { on := 5, ground := Go.Ground.phase }, { on := 6, ground := Go.Ground.phase }, { on := 7, ground := Go.Ground.phase }, { on := 8, ground := Go.Ground.phase }, { on := 9, ground := Go.Ground.phase }], guard := none }) (v := ?_) rfl (by kernel_rfl) (by kernel_rfl) (by kernel_rfl) (fun _ _ _ h => h) (Or.inl ⟨by rfl, ?_⟩) (by assumption) ?_
  rotate_left
  · intro w' hS; go_simp; (try with_reducible rfl)
  simp only [Act.put, List.setIfInBounds_toArray, List.set_cons_zero, List.set_cons_succ]
  refine wpAnyH_done (by kernel_rfl) ?_ _
  go_wp2_with fail
  have hJ1 : w.heap.size + 1 < w1.heap.size := (Array.getElem?_eq_some_iff.1 HI1.out.2.1).1
  refine bodyPost_ret (results_id rfl rfl (heap_set (heap_set (heap_set HJ2.out))) rfl) rfl ⟨.inl ⟨HK0.out, _, _, rfl, own_mono (own_keep HU3.out (fun b cur hb hc => ?_)) HI1.out.2.2.size, own_mono (own_keep HU2.out (fun b cur hb hc => ?_)) HI1.out.2.2.size⟩, hH3.2⟩
  · have := (own_blk HU3.out hb).1
    rw [heap_set_other (by omega), heap_set_other (by omega), heap_set_other (by omega)]
  · have := (own_blk HU2.out hb).1
    rw [heap_set_other (by omega), heap_set_other (by omega), heap_set_other (by omega)]

set_option maxHeartbeats 8000000 in
set_option maxRecDepth 100000 in
theorem rTurn_any (vl vr : Value) (x : Bool) (L R : List (Int × Nat)) (w : World) (hlC : SgC w vl L) (hrC : SgC w vr R) (hL : L.length ≤ 9223372036854775000) (hR : R.length ≤ 9223372036854775000) :
    Calls Try.prog 20 #[.agg #[vl, vr, .bool x]] w (TnQ L R x w) := by
  obtain ⟨a1, c1, e1⟩ := hlC.1.len
  obtain ⟨a2, c2, e2⟩ := hrC.1.len
  subst e1 e2
  obtain ⟨w1, hw1⟩ : ∃ w1, w1 = (w.alloc (.cells #[.slice a1 L.length c1, .slice a2 R.length c2, .bool x] 24)).alloc (.cells #[.slice none 0 0, .slice none 0 0, .bool false] 24) := ⟨_, rfl⟩
  have HW1 : Hid (w1 = (w.alloc (.cells #[.slice a1 L.length c1, .slice a2 R.length c2, .bool x] 24)).alloc (.cells #[.slice none 0 0, .slice none 0 0, .bool false] 24)) := hw1
  obtain ⟨hi1, hj1, hb1⟩ := two_new w _ _ w1 hw1
  have HCK : Hid (Calls Try.prog 22 #[.agg #[.slice a1 L.length c1, .slice a2 R.length c2, .bool x]] w1 fun e w' => e = .returned (.int .i64 (ck2 L R)) ∧ Below w1.heap.size w1 w') := rcheck_any _ _ x L R w1 (hlC.1.below hb1) (hrC.1.below hb1) (by omega) (by omega)
  have k0 : w1.cell? ⟨w.heap.size, 0, none⟩ = some (.slice a1 L.length c1) := cell_at hi1 rfl
  have k1 : w1.cell? ⟨w.heap.size, 1, none⟩ = some (.slice a2 R.length c2) := cell_at hi1 rfl
  have k2 : w1.cell? ⟨w.heap.size, 2, none⟩ = some (.bool x) := cell_at hi1 rfl
  have HI1 : Hid (w1.heap[w.heap.size]? = some (.cells #[.slice a1 L.length c1, .slice a2 R.length c2, .bool x] 24 (0, 0)) ∧ w1.heap[w.heap.size + 1]? = some (.cells #[.slice none 0 0, .slice none 0 0, .bool false] 24 (0, 0)) ∧ Below w.heap.size w w1) := ⟨hi1, hj1, hb1⟩
  have HCL : Hid (SgC w (.slice a1 L.length c1) L ∧ SgC w (.slice a2 R.length c2) R) := ⟨hlC, hrC⟩
  clear hlC hrC hi1 hj1 hb1 hw1
  by_cases hk : ck2 L R = 0
  rotate_left
  · obtain ⟨er, her⟩ : ∃ er, ck2 L R = er := ⟨_, rfl⟩
    have HER : Hid (ck2 L R = er ∧ er ≠ 0) := ⟨her, her ▸ hk⟩
    rw [her] at HCK hk
    have hneb : (er != 0) = true := by rw [bne_iff_ne]; exact hk
    have hned : decide (er ≠ 0) = true := decide_eq_true hk
    clear her
    go_enter Try.func20, Try.ntmps20
    go_upto_region 1 with fail
    rw [← HW1.out]
    go_wp2_with fail
    refine Calls.mono HCK.out ?_
    rintro e w2 ⟨rfl, hb2⟩
    have HB2 : Hid (Below w.heap.size w w2) := go_on HI1.out.2.2 hb2
    have HJ2 : Hid (w2.heap[w.heap.size + 1]? = some (.cells #[.slice none 0 0, .slice none 0 0, .bool false] 24 (0, 0))) := (hb2.block _ (Array.getElem?_eq_some_iff.1 HI1.out.2.1).1).trans HI1.out.2.1
    have j0 := cell_at (j := 0) HJ2.out rfl
    have j1 := cell_at (j := 1) HJ2.out rfl
    have j2 := cell_at (j := 2) HJ2.out rfl
    have jf : ∀ j, w2.frozen? ⟨w.heap.size + 1, j, none⟩ = false := fun j => froz_of HJ2.out
    clear hb2 k0 k1 k2
    go_wp2_with fail
    refine bodyPost_ret (results_id rfl rfl (heap_set (heap_set (heap_set HJ2.out))) rfl) rfl ⟨.inr ⟨by rw [HER.out.1]; exact HER.out.2, by rw [HER.out.1]; rfl⟩, ?_⟩
    exact ((HB2.out.setCell (p := ⟨w.heap.size + 1, 0, none⟩) (Nat.le_succ _) _).setCell (p := ⟨w.heap.size + 1, 1, none⟩) (Nat.le_succ _) _).setCell (p := ⟨w.heap.size + 1, 2, none⟩) (Nat.le_succ _) _
  obtain ⟨s1, s2, hn1, hn2⟩ := ck2_sides hk
  have HK0 : Hid (ck2 L R = 0) := hk
  have e1 := tmOf_sg s1
  have e2 := tmOf_sg s2
  have hl1 : (tmOf L).sg.length ≤ 400 := by have := congrArg List.length e1; rw [intS_len] at this; omega
  have hl2 : (tmOf R).sg.length ≤ 400 := by have := congrArg List.length e2; rw [intS_len] at this; omega
  have HT1 : Hid (∀ y, (y.heap[w.heap.size]? = some (.cells #[.slice a1 L.length c1, .slice a2 R.length c2, .bool x] 24 (0, 0)) ∧ Below w.heap.size w y) → Calls Try.prog 38 #[.slice a1 L.length c1] y fun e w' => ∃ u, e = .returned u ∧ w'.ownsRow y.heap.size 81 2 u (tmOf L).turn.length (sgC (tmOf L).turn) ∧ Below y.heap.size y w') := fun y hy => rturned_any 400 (tmOf L) hl1 (Nat.le_refl _) _ y (by unfold TmC; exact e1 ▸ (HCL.out.1.below hy.2))
  have HT2 : Hid (∀ y, (y.heap[w.heap.size]? = some (.cells #[.slice a1 L.length c1, .slice a2 R.length c2, .bool x] 24 (0, 0)) ∧ Below w.heap.size w y) → Calls Try.prog 38 #[.slice a2 R.length c2] y fun e w' => ∃ u, e = .returned u ∧ w'.ownsRow y.heap.size 81 2 u (tmOf R).turn.length (sgC (tmOf R).turn) ∧ Below y.heap.size y w') := fun y hy => rturned_any 400 (tmOf R) hl2 (Nat.le_refl _) _ y (by unfold TmC; exact e2 ▸ (HCL.out.2.below hy.2))
  rw [hk] at HCK
  clear hk s1 s2 hn1 hn2 e1 e2 hl1 hl2
  go_enter Try.func20, Try.ntmps20
  go_upto_region 1 with fail
  rw [← HW1.out]
  go_wp2_with fail
  refine Calls.mono HCK.out ?_
  rintro e w2 ⟨rfl, hb2⟩
  have S0 : w2.drew.heap[w.heap.size]? = some (.cells #[.slice a1 L.length c1, .slice a2 R.length c2, .bool x] 24 (0, 0)) ∧ Below w.heap.size w w2.drew := ⟨(hb2.block _ (Array.getElem?_eq_some_iff.1 HI1.out.1).1).trans HI1.out.1, (go_on HI1.out.2.2 hb2).drew⟩
  have HJ0 : Hid (w2.drew.heap[w.heap.size + 1]? = some (.cells #[.slice none 0 0, .slice none 0 0, .bool false] 24 (0, 0))) := (hb2.block _ (Array.getElem?_eq_some_iff.1 HI1.out.2.1).1).trans HI1.out.2.1
  have HS0 : Hid (w1.heap.size ≤ w2.drew.heap.size) := hb2.size
  clear hb2 k0 k1 k2
  go_upto_region 4 with fail
  refine wp_region_held_drew (S := fun y => y.heap[w.heap.size]? = some (.cells #[.slice a1 L.length c1, .slice a2 R.length c2, .bool x] 24 (0, 0)) ∧ Below w.heap.size w y) (by kernel_rfl) S0 (fun hH0 => ?_)
  clear S0
  refine wpAnyH_take (i := 0) (oi := { dst := some 11, op := Go.Op.fieldAddr 24 (Go.Operand.tmp 1) 0, type := 0, pos := "ref.go:303", after := #[], guard := none }) (v := ?_) rfl (by kernel_rfl) (by kernel_rfl) (by kernel_rfl) (fun _ _ _ h => h) (Or.inl ⟨by rfl, ?_⟩) (by assumption) ?_
  rotate_left
  · intro w' hS; go_simp; (try with_reducible rfl)
  simp only [Act.put, List.setIfInBounds_toArray, List.set_cons_zero, List.set_cons_succ]
  refine wpAnyH_take (i := 1) (oi := { dst := some 12, op := Go.Op.load 22 (Go.Operand.tmp 11), type := 22, pos := "ref.go:303", after := #[{ on := 0, ground := Go.Ground.data }], guard := none }) (v := .slice a1 L.length c1) rfl (by kernel_rfl) (by kernel_rfl) (by kernel_rfl) (fun _ _ _ h => h) (Or.inl ⟨by rfl, ?_⟩) (by assumption) ?_
  · intro w' hS; have hz := cell_at (j := 0) hS.1 rfl; go_simp
  simp only [Act.put, List.setIfInBounds_toArray, List.set_cons_zero, List.set_cons_succ]
  refine wpAnyH_take (i := 3) (oi := { dst := some 14, op := Go.Op.fieldAddr 24 (Go.Operand.tmp 1) 1, type := 0, pos := "ref.go:303", after := #[], guard := none }) (v := ?_) rfl (by kernel_rfl) (by kernel_rfl) (by kernel_rfl) (fun _ _ _ h => h) (Or.inl ⟨by rfl, ?_⟩) (by assumption) ?_
  rotate_left
  · intro w' hS; go_simp; (try with_reducible rfl)
  simp only [Act.put, List.setIfInBounds_toArray, List.set_cons_zero, List.set_cons_succ]
  refine wpAnyH_take (i := 4) (oi := { dst := some 15, op := Go.Op.load 22 (Go.Operand.tmp 14), type := 22, pos := "ref.go:303", after := #[{ on := 3, ground := Go.Ground.data }], guard := none }) (v := .slice a2 R.length c2) rfl (by kernel_rfl) (by kernel_rfl) (by kernel_rfl) (fun _ _ _ h => h) (Or.inl ⟨by rfl, ?_⟩) (by assumption) ?_
  · intro w' hS; have hz := cell_at (j := 1) hS.1 rfl; go_simp
  simp only [Act.put, List.setIfInBounds_toArray, List.set_cons_zero, List.set_cons_succ]
  refine wpAnyH_take (i := 6) (oi := { dst := some 17, op := Go.Op.fieldAddr 24 (Go.Operand.tmp 1) 2, type := 0, pos := "ref.go:303", after := #[], guard := none }) (v := ?_) rfl (by kernel_rfl) (by kernel_rfl) (by kernel_rfl) (fun _ _ _ h => h) (Or.inl ⟨by rfl, ?_⟩) (by assumption) ?_
  rotate_left
  · intro w' hS; go_simp; (try with_reducible rfl)
  simp only [Act.put, List.setIfInBounds_toArray, List.set_cons_zero, List.set_cons_succ]
  refine wpAnyH_take (i := 7) (oi := { dst := some 18, op := Go.Op.load 4 (Go.Operand.tmp 17), type := 4, pos := "ref.go:303", after := #[{ on := 6, ground := Go.Ground.data }], guard := none }) (v := .bool x) rfl (by kernel_rfl) (by kernel_rfl) (by kernel_rfl) (fun _ _ _ h => h) (Or.inl ⟨by rfl, ?_⟩) (by assumption) ?_
  · intro w' hS; have hz := cell_at (j := 2) hS.1 rfl; go_simp
  simp only [Act.put, List.setIfInBounds_toArray, List.set_cons_zero, List.set_cons_succ]
  refine wpAnyH_ready (rs := [2]) (by kernel_rfl) (by simp) ?_
  refine AllReadyH.cons rfl (fun K hK => ?_) AllReadyH.nil
  go_simp
  refine (HT1.out _ hH0).mono ?_
  rintro e y1 ⟨u, rfl, hu, hb⟩
  obtain ⟨_, _, rfl⟩ := own_shape hu
  have hN : y1.heap[w.heap.size]? = some (.cells #[.slice a1 L.length c1, .slice a2 R.length c2, .bool x] 24 (0, 0)) ∧ Below w.heap.size w y1 := ⟨(hb.block _ (Array.getElem?_eq_some_iff.1 hH0.1).1).trans hH0.1, go_on hH0.2 hb⟩
  have HJ1 : Hid (y1.heap[w.heap.size + 1]? = some (.cells #[.slice none 0 0, .slice none 0 0, .bool false] 24 (0, 0))) := (hb.block _ (Array.getElem?_eq_some_iff.1 HJ0.out).1).trans HJ0.out
  have HB1 : Hid (w1.heap.size ≤ y1.heap.size) := Nat.le_trans HS0.out hb.size
  have HU1 : Hid (y1.ownsRow w1.heap.size 81 2 _ (tmOf L).turn.length (sgC (tmOf L).turn)) := own_less hu HS0.out
  clear hu hb
  go_wp2_with fail
  refine hK.out _ _ hN (fun hH1 => ?_)
  clear hN
  clear hK K
  refine wpAnyH_ready (rs := [5]) (by kernel_rfl) (by simp) ?_
  refine AllReadyH.cons rfl (fun K hK => ?_) AllReadyH.nil
  go_simp
  refine (HT2.out _ hH1).mono ?_
  rintro e y2 ⟨u, rfl, hu, hb⟩
  obtain ⟨_, _, rfl⟩ := own_shape hu
  have hN : y2.heap[w.heap.size]? = some (.cells #[.slice a1 L.length c1, .slice a2 R.length c2, .bool x] 24 (0, 0)) ∧ Below w.heap.size w y2 := ⟨(hb.block _ (Array.getElem?_eq_some_iff.1 hH1.1).1).trans hH1.1, go_on hH1.2 hb⟩
  have HJ2 : Hid (y2.heap[w.heap.size + 1]? = some (.cells #[.slice none 0 0, .slice none 0 0, .bool false] 24 (0, 0))) := (hb.block _ (Array.getElem?_eq_some_iff.1 HJ1.out).1).trans HJ1.out
  have HU2 : Hid (y2.ownsRow w1.heap.size 81 2 _ (tmOf R).turn.length (sgC (tmOf R).turn)) := own_less hu HB1.out
  have HU3 : Hid (y2.ownsRow w1.heap.size 81 2 _ (tmOf L).turn.length (sgC (tmOf L).turn)) := own_below HU1.out hb
  clear hu hb
  go_wp2_with fail
  refine hK.out _ _ hN (fun hH2 => ?_)
  clear hN
  have j0 := cell_at (j := 0) HJ2.out rfl
  have j1 := cell_at (j := 1) HJ2.out rfl
  have j2 := cell_at (j := 2) HJ2.out rfl
  have jf : ∀ j, y2.frozen? ⟨w.heap.size + 1, j, none⟩ = false := fun j => froz_of HJ2.out
  clear hK K
  refine wpAnyH_take (i := 8) (oi := { dst := some 19, op := Go.Op.build 24 #[(0, Go.Operand.tmp 13), (1, Go.Operand.tmp 16), (2, Go.Operand.tmp 18)], type := 24, pos := "ref.go:303", after := #[{ on := 2, ground := Go.Ground.data }, { on := 5, ground := Go.Ground.data }, { on := 7, ground := Go.Ground.data }], guard := none }) (v := ?_) rfl (by kernel_rfl) (by kernel_rfl) (by kernel_rfl) (fun _ _ _ h => h) (Or.inl ⟨by rfl, ?_⟩) (by assumption) ?_
  rotate_left
  · intro w' hS; go_simp; (try with_reducible rfl)
  simp only [Act.put, List.setIfInBounds_toArray, List.set_cons_zero, List.set_cons_succ]
  refine wpAnyH_ready (rs := [9]) (by kernel_rfl) (by simp) ?_
  refine AllReadyH.cons rfl (fun K hK => ?_) AllReadyH.nil
  go_simp
  refine hK.out _ _ ⟨?_, ?_⟩ (fun hH3 => ?_)
  · rw [heap_set_other (by omega), heap_set_other (by omega), heap_set_other (by omega)]; exact hH2.1
  · exact ((hH2.2.setCell (p := ⟨w.heap.size + 1, 0, none⟩) (Nat.le_succ _) _).setCell (p := ⟨w.heap.size + 1, 1, none⟩) (Nat.le_succ _) _).setCell (p := ⟨w.heap.size + 1, 2, none⟩) (Nat.le_succ _) _
  clear hK K
  refine wpAnyH_take (i := 10) (oi := { dst := some 3, op := Go.Op.assign (Go.Operand.const (Go.Value.int Go.IntKind.i64 0)), type := 3, pos := "ref.go:303", after := #[{ on := 9, ground := Go.Ground.chain }, { on := 0, ground := Go.Ground.phase }, { on := 1, ground := Go.Ground.phase }, { on := 2, ground := Go.Ground.phase }, { on := 3, ground := Go.Ground.phase }, { on := 4, ground := Go.Ground.phase }, { on := 5, ground := Go.Ground.phase }, { on := 6, ground := Go.Ground.phase }, { on := 7, ground := Go.Ground.phase }, { on := 8, ground := Go.Ground.phase }, { on := 9, ground := Go.Ground.phase }], guard := none }) (v := ?_) rfl (by kernel_rfl) (by kernel_rfl) (by kernel_rfl) (fun _ _ _ h => h) (Or.inl ⟨by rfl, ?_⟩) (by assumption) ?_
  rotate_left
  · intro w' hS; go_simp; (try with_reducible rfl)
  simp only [Act.put, List.setIfInBounds_toArray, List.set_cons_zero, List.set_cons_succ]
  refine wpAnyH_done (by kernel_rfl) ?_ _
  go_wp2_with fail
  have hJ1 : w.heap.size + 1 < w1.heap.size := (Array.getElem?_eq_some_iff.1 HI1.out.2.1).1
  refine bodyPost_ret (results_id rfl rfl (heap_set (heap_set (heap_set HJ2.out))) rfl) rfl ⟨.inl ⟨HK0.out, _, _, rfl, own_mono (own_keep HU3.out (fun b cur hb hc => ?_)) HI1.out.2.2.size, own_mono (own_keep HU2.out (fun b cur hb hc => ?_)) HI1.out.2.2.size⟩, hH3.2⟩
  · have := (own_blk HU3.out hb).1
    rw [heap_set_other (by omega), heap_set_other (by omega), heap_set_other (by omega)]
  · have := (own_blk HU2.out hb).1
    rw [heap_set_other (by omega), heap_set_other (by omega), heap_set_other (by omega)]

end Go.Proofs.Ythhlamehbcidgaa
