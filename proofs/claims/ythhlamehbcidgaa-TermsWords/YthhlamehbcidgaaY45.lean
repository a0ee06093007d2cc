/- terms.turned. -/
import Derived.Test.YthhlamehbcidgaaY44
import Derived.Laws.EntriesVeiled
namespace Go.Proofs.Ythhlamehbcidgaa
open Go Go.RowKit Go.Lib
set_option linter.unusedVariables false

theorem four (w : World) (c0 c1 c2 c3 : Obj) (W : World) (hW : W = (((w.alloc c0).alloc c1).alloc c2).alloc c3) :
    W.heap[w.heap.size]? = some c0 ∧ W.heap[w.heap.size + 1]? = some c1 ∧ W.heap[w.heap.size + 1 + 1]? = some c2 ∧ W.heap[w.heap.size + 1 + 1 + 1]? = some c3 ∧ Below w.heap.size w W := by
  have s1 : (w.alloc c0).heap.size = w.heap.size + 1 := World.size_alloc _ _
  have s2 : ((w.alloc c0).alloc c1).heap.size = w.heap.size + 1 + 1 := by rw [World.size_alloc, s1]
  have s3 : (((w.alloc c0).alloc c1).alloc c2).heap.size = w.heap.size + 1 + 1 + 1 := by rw [World.size_alloc, s2]
  subst hW
  refine ⟨?_, ?_, ?_, ?_, ?_⟩
  · rw [heap_allo (by omega), heap_allo (by omega), heap_allo (by omega)]
    exact heap_last w c0
  · rw [heap_allo (by omega), heap_allo (by omega)]
    have := heap_last (w.alloc c0) c1
    rwa [s1] at this
  · rw [heap_allo (by omega)]
    have := heap_last ((w.alloc c0).alloc c1) c2
    rwa [s2] at this
  · have := heap_last (((w.alloc c0).alloc c1).alloc c2) c3
    rwa [s3] at this
  · exact go_on (go_on (go_on (below_new _ _) (below_new _ _)) (below_new _ _)) (below_new _ _)

set_option maxHeartbeats 4000000 in
set_option maxRecDepth 100000 in
theorem of_turned (A : Tm) (hL : A.sg.length ≤ 400) (LB : Nat) (v : Value) (w : World) (hv : SgR w v (intS A.sg)) (hE : LfE LB w) :
    Calls Try.prog 75 #[.agg #[.func (Fn.func 71) #[] #[.pointer (some ⟨LB, 0, none⟩)], .func (Fn.func 72) #[] #[.pointer (some ⟨LB, 0, none⟩)], .func (Fn.func 73) #[] #[], .func (Fn.func 74) #[] #[]], v] w fun e w' => ∃ u, e = .returned u ∧ VL w.heap.size u w' A ∧ Below w.heap.size w w' := by
  obtain ⟨a, cap, hva⟩ := hv.len
  rw [intS_len] at hva
  subst hva
  obtain ⟨W, hW⟩ : ∃ W, W = ((((w.alloc (.cells #[.func (Fn.func 71) #[] #[.pointer (some ⟨LB, 0, none⟩)], .func (Fn.func 72) #[] #[.pointer (some ⟨LB, 0, none⟩)], .func (Fn.func 73) #[] #[], .func (Fn.func 74) #[] #[]] 121)).alloc (.cells #[(.slice a A.sg.length cap)] 22)).alloc (.cells #[.int .i64 (A.sg.length : Nat)] 3)).alloc (.cells #[.nilFunc] 77)) := ⟨_, rfl⟩
  have HW : Hid (W = ((((w.alloc (.cells #[.func (Fn.func 71) #[] #[.pointer (some ⟨LB, 0, none⟩)], .func (Fn.func 72) #[] #[.pointer (some ⟨LB, 0, none⟩)], .func (Fn.func 73) #[] #[], .func (Fn.func 74) #[] #[]] 121)).alloc (.cells #[(.slice a A.sg.length cap)] 22)).alloc (.cells #[.int .i64 (A.sg.length : Nat)] 3)).alloc (.cells #[.nilFunc] 77))) := hW
  obtain ⟨h0, h1, h2, h3, hb⟩ := four _ _ _ _ _ _ hW
  have HS : Hid (W.heap.size = w.heap.size + 1 + 1 + 1 + 1) := by show _ = _; rw [hW]; simp [World.size_alloc]
  have u0 : W.cell? ⟨w.heap.size + 1 + 1 + 1, 0, none⟩ = some .nilFunc := cell_at h3 rfl
  have uf : ∀ j, W.frozen? ⟨w.heap.size + 1 + 1 + 1, j, none⟩ = false := fun j => froz_of h3
  obtain ⟨W1, hW1⟩ : ∃ W1, W1 = W.setCell ⟨w.heap.size + 1 + 1 + 1, 0, none⟩ (.func (Fn.func 104) #[] #[.pointer (some ⟨w.heap.size + 1 + 1, 0, none⟩), .pointer (some ⟨w.heap.size + 1, 0, none⟩), .pointer (some ⟨w.heap.size, 0, none⟩), .pointer (some ⟨w.heap.size + 1 + 1 + 1, 0, none⟩)]) := ⟨_, rfl⟩
  have HW1 : Hid (W1 = W.setCell ⟨w.heap.size + 1 + 1 + 1, 0, none⟩ (.func (Fn.func 104) #[] #[.pointer (some ⟨w.heap.size + 1 + 1, 0, none⟩), .pointer (some ⟨w.heap.size + 1, 0, none⟩), .pointer (some ⟨w.heap.size, 0, none⟩), .pointer (some ⟨w.heap.size + 1 + 1 + 1, 0, none⟩)])) := hW1
  have ho : ∀ b, b ≠ w.heap.size + 1 + 1 + 1 → W1.heap[b]? = W.heap[b]? := fun b hb => by rw [hW1]; exact heap_set_other hb
  have g4 : W1.heap[w.heap.size + 1 + 1 + 1]? = some (.cells #[(.func (Fn.func 104) #[] #[.pointer (some ⟨w.heap.size + 1 + 1, 0, none⟩), .pointer (some ⟨w.heap.size + 1, 0, none⟩), .pointer (some ⟨w.heap.size, 0, none⟩), .pointer (some ⟨w.heap.size + 1 + 1 + 1, 0, none⟩)])] 77 (0, 0)) := by rw [hW1]; exact heap_set h3
  have hs1 : W1.heap.size = W.heap.size := by rw [hW1]; simp [World.setCell]
  have hB : Below w.heap.size w W1 := by rw [hW1]; exact hb.setCell (p := ⟨w.heap.size + 1 + 1 + 1, 0, none⟩) (by show w.heap.size ≤ w.heap.size + 1 + 1 + 1; omega) _
  have hs := HS.out
  have hLBl := hE.2
  have HN : Hid (NTl LB w W1 (w.heap.size + 1 + 1) (w.heap.size + 1) w.heap.size (w.heap.size + 1 + 1 + 1) (.slice a A.sg.length cap) A.sg A.sg.length) :=
    ⟨(ho _ (by omega)).trans h2, cell_at ((ho _ (by omega)).trans h1) rfl, cell_at ((ho _ (by omega)).trans h0) rfl, cell_at ((ho _ (by omega)).trans h0) rfl, cell_at ((ho _ (by omega)).trans h0) rfl, cell_at ((ho _ (by omega)).trans h0) rfl, cell_at g4 rfl, by omega, by omega, by omega, ⟨by omega, by omega, by omega⟩, hB, by omega, hv, Nat.le_refl _, ⟨by rw [below_cell hB hLBl]; exact hE.1, by omega⟩⟩
  have HNX : Hid (Calls Try.prog 104 #[.pointer (some ⟨w.heap.size + 1 + 1, 0, none⟩), .pointer (some ⟨w.heap.size + 1, 0, none⟩), .pointer (some ⟨w.heap.size, 0, none⟩), .pointer (some ⟨w.heap.size + 1 + 1 + 1, 0, none⟩)] W1 fun e w' => ∃ u, e = .returned u ∧ VL W1.heap.size u w' A ∧ NTl LB w w' (w.heap.size + 1 + 1) (w.heap.size + 1) w.heap.size (w.heap.size + 1 + 1 + 1) (.slice a A.sg.length cap) A.sg 0 ∧ Only (fun b => b = w.heap.size + 1 + 1) W1 w') := by
    have q := NxL_any A w W1 (w.heap.size + 1 + 1) (w.heap.size + 1) w.heap.size (w.heap.size + 1 + 1 + 1) LB (.slice a A.sg.length cap) [] [] (by omega) (by simpa using hL) (by simpa using HN.out)
    have q2 : Calls Try.prog 104 #[.pointer (some ⟨w.heap.size + 1 + 1, 0, none⟩), .pointer (some ⟨w.heap.size + 1, 0, none⟩), .pointer (some ⟨w.heap.size, 0, none⟩), .pointer (some ⟨w.heap.size + 1 + 1 + 1, 0, none⟩)] W1 fun e w' => ∃ u, e = .returned u ∧ VL W1.heap.size u w' A ∧ NTl LB w w' (w.heap.size + 1 + 1) (w.heap.size + 1) w.heap.size (w.heap.size + 1 + 1 + 1) (.slice a A.sg.length cap) A.sg 0 ∧ Only (fun b => b = w.heap.size + 1 + 1) W1 w' := by simpa using q
    exact q2
  have x4 : W1.cell? ⟨w.heap.size + 1 + 1 + 1, 0, none⟩ = some (.func (Fn.func 104) #[] #[.pointer (some ⟨w.heap.size + 1 + 1, 0, none⟩), .pointer (some ⟨w.heap.size + 1, 0, none⟩), .pointer (some ⟨w.heap.size, 0, none⟩), .pointer (some ⟨w.heap.size + 1 + 1 + 1, 0, none⟩)]) := cell_at g4 rfl
  have HSL : Hid (w.heap.size ≤ W1.heap.size) := by show _ ≤ _; omega
  clear hv hW h0 h1 h2 h3 hb hW1 ho g4 hs1 hB hs hE hLBl
  go_enter Try.func75, Try.ntmps75
  go_upto_region 3 with fail
  rw [← HW.out]
  clear HW
  go_upto_region 4 with fail
  rw [← HW1.out]
  clear u0 uf HW1
  go_wp2_with fail
  refine Calls.mono HNX.out ?_
  rintro e y ⟨u, rfl, hu, hn, hoo⟩
  obtain ⟨_, _, rfl⟩ := own_shape hu
  have HU : Hid _ := own_less hu HSL.out
  have HBY : Hid (Below w.heap.size w y) := hn.b
  clear hn hoo hu x4
  go_wp2_with fail
  go_ret
  exact ⟨_, rfl, HU.out, HBY.out⟩

set_option maxHeartbeats 4000000 in
set_option maxRecDepth 100000 in
theorem tturned_any (A : Tm) (hL : A.sg.length ≤ 400) (v : Value) (w : World) (hv : SgR w v (intS A.sg)) :
    Calls Try.prog 35 #[v] w fun e w' => ∃ u, e = .returned u ∧ VL w.heap.size u w' A ∧ Below w.heap.size w w' := by
  obtain ⟨w2, hw2⟩ : ∃ w2, w2 = w.alloc (.cells #[.func (Fn.func 70) #[] #[]] 117) := ⟨_, rfl⟩
  have HW2 : Hid (w2 = w.alloc (.cells #[.func (Fn.func 70) #[] #[]] 117)) := hw2
  have hb2 : Below w.heap.size w w2 := by rw [hw2]; exact below_new _ _
  have hE : LfE w.heap.size w2 := by
    have h0 := heap_last w (.cells #[.func (Fn.func 70) #[] #[]] 117)
    rw [← hw2] at h0
    exact ⟨cell_at h0 rfl, (Array.getElem?_eq_some_iff.1 h0).1⟩
  have HO : Hid (Calls Try.prog 75 #[.agg #[.func (Fn.func 71) #[] #[.pointer (some ⟨w.heap.size, 0, none⟩)], .func (Fn.func 72) #[] #[.pointer (some ⟨w.heap.size, 0, none⟩)], .func (Fn.func 73) #[] #[], .func (Fn.func 74) #[] #[]], v] w2 fun e w' => ∃ u, e = .returned u ∧ VL w2.heap.size u w' A ∧ Below w2.heap.size w2 w') := of_turned A hL w.heap.size v w2 (hv.below hb2) hE
  obtain ⟨a, cap, hva⟩ := hv.len
  rw [intS_len] at hva
  subst hva
  have HB2 : Hid (Below w.heap.size w w2) := hb2
  clear hw2 hb2 hE hv
  go_enter Try.func35, Try.ntmps35
  go_upto_region 2 with fail
  rw [← HW2.out]
  go_wp2_with fail
  refine Calls.mono HO.out ?_
  rintro e y ⟨u, rfl, hu, hb⟩
  obtain ⟨_, _, rfl⟩ := own_shape hu
  have HU : Hid _ := own_less hu HB2.out.size
  have HB : Hid (Below w.heap.size w y) := go_on HB2.out hb
  clear hu hb
  go_wp2_with fail
  go_ret
  exact ⟨_, rfl, HU.out, HB.out⟩
end Go.Proofs.Ythhlamehbcidgaa
