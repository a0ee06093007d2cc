/- terms.Print: what a side stands for as a piece; written. -/
import Derived.Test.YthhlamehbcidgaaY13
import Derived.Laws.EntriesVeiled
namespace Go.Proofs.Ythhlamehbcidgaa
open Go Go.RowKit Go.Lib
set_option linter.unusedVariables false

theorem five (w : World) (c0 c1 c2 c3 c4 : Obj) (W : World) (hW : W = ((((w.alloc c0).alloc c1).alloc c2).alloc c3).alloc c4) :
    W.heap[w.heap.size]? = some c0 ∧ W.heap[w.heap.size + 1]? = some c1 ∧ W.heap[w.heap.size + 1 + 1]? = some c2 ∧ W.heap[w.heap.size + 1 + 1 + 1]? = some c3 ∧ W.heap[w.heap.size + 1 + 1 + 1 + 1]? = some c4 ∧ Below w.heap.size w W := by
  have s1 : (w.alloc c0).heap.size = w.heap.size + 1 := World.size_alloc _ _
  have s2 : ((w.alloc c0).alloc c1).heap.size = w.heap.size + 1 + 1 := by rw [World.size_alloc, s1]
  have s3 : (((w.alloc c0).alloc c1).alloc c2).heap.size = w.heap.size + 1 + 1 + 1 := by rw [World.size_alloc, s2]
  have s4 : ((((w.alloc c0).alloc c1).alloc c2).alloc c3).heap.size = w.heap.size + 1 + 1 + 1 + 1 := by rw [World.size_alloc, s3]
  subst hW
  refine ⟨?_, ?_, ?_, ?_, ?_, ?_⟩
  · rw [heap_allo (by omega), heap_allo (by omega), heap_allo (by omega), heap_allo (by omega)]
    exact heap_last w c0
  · rw [heap_allo (by omega), heap_allo (by omega), heap_allo (by omega)]
    have := heap_last (w.alloc c0) c1
    rwa [s1] at this
  · rw [heap_allo (by omega), heap_allo (by omega)]
    have := heap_last ((w.alloc c0).alloc c1) c2
    rwa [s2] at this
  · rw [heap_allo (by omega)]
    have := heap_last (((w.alloc c0).alloc c1).alloc c2) c3
    rwa [s3] at this
  · have := heap_last ((((w.alloc c0).alloc c1).alloc c2).alloc c3) c4
    rwa [s4] at this
  · exact go_on (go_on (go_on (go_on (below_new _ _) (below_new _ _)) (below_new _ _)) (below_new _ _)) (below_new _ _)

set_option maxHeartbeats 2000000 in
set_option maxRecDepth 100000 in
theorem of_ok (L : Sg) (hL : L.length ≤ 400) (f : Nat) (p : Pc) (m : Nat) (hp : nxP L f L.length = some (p, m)) (v : Value) (w : World) (hv : SgR w v (intS L)) :
    Calls Try.prog 66 #[.agg #[.func (Fn.func 61) #[] #[], .func (Fn.func 62) #[] #[], .func (Fn.func 63) #[] #[], .func (Fn.func 65) #[] #[]], v] w fun e w' => e = .returned (pcV p) ∧ Below w.heap.size w w' := by
  obtain ⟨a, cap, hva⟩ := hv.len
  have hlen : (intS L).length = L.length := by simp [intS]
  rw [hlen] at hva
  subst hva
  obtain ⟨W, hW⟩ : ∃ W, W = (((((w.alloc (.cells #[.func (Fn.func 61) #[] #[], .func (Fn.func 62) #[] #[], .func (Fn.func 63) #[] #[], .func (Fn.func 65) #[] #[]] 112)).alloc (.cells #[(.slice a L.length cap)] 22)).alloc (.cells #[.string ⟨#[]⟩, .int .i64 0] 104)).alloc (.cells #[.int .i64 (L.length : Nat)] 3)).alloc (.cells #[.nilFunc] 105)) := ⟨_, rfl⟩
  have HW : Hid (W = (((((w.alloc (.cells #[.func (Fn.func 61) #[] #[], .func (Fn.func 62) #[] #[], .func (Fn.func 63) #[] #[], .func (Fn.func 65) #[] #[]] 112)).alloc (.cells #[(.slice a L.length cap)] 22)).alloc (.cells #[.string ⟨#[]⟩, .int .i64 0] 104)).alloc (.cells #[.int .i64 (L.length : Nat)] 3)).alloc (.cells #[.nilFunc] 105))) := hW
  obtain ⟨h0, h1, h2, h3, h4, hb⟩ := five _ _ _ _ _ _ _ hW
  have HS : Hid (W.heap.size = w.heap.size + 1 + 1 + 1 + 1 + 1) := by show _ = _; rw [hW]; simp [World.size_alloc]
  have u0 : W.cell? ⟨w.heap.size + 1 + 1 + 1 + 1, 0, none⟩ = some .nilFunc := cell_at h4 rfl
  have uf : ∀ j, W.frozen? ⟨w.heap.size + 1 + 1 + 1 + 1, j, none⟩ = false := fun j => froz_of h4
  obtain ⟨W1, hW1⟩ : ∃ W1, W1 = W.setCell ⟨w.heap.size + 1 + 1 + 1 + 1, 0, none⟩ (.func (Fn.func 101) #[] #[.pointer (some ⟨w.heap.size + 1 + 1 + 1, 0, none⟩), .pointer (some ⟨w.heap.size + 1, 0, none⟩), .pointer (some ⟨w.heap.size, 0, none⟩), .pointer (some ⟨w.heap.size + 1 + 1 + 1 + 1, 0, none⟩)]) := ⟨_, rfl⟩
  have HW1 : Hid (W1 = W.setCell ⟨w.heap.size + 1 + 1 + 1 + 1, 0, none⟩ (.func (Fn.func 101) #[] #[.pointer (some ⟨w.heap.size + 1 + 1 + 1, 0, none⟩), .pointer (some ⟨w.heap.size + 1, 0, none⟩), .pointer (some ⟨w.heap.size, 0, none⟩), .pointer (some ⟨w.heap.size + 1 + 1 + 1 + 1, 0, none⟩)])) := hW1
  have ho : ∀ b, b ≠ w.heap.size + 1 + 1 + 1 + 1 → W1.heap[b]? = W.heap[b]? := fun b hb => by rw [hW1]; exact heap_set_other hb
  have g4 : W1.heap[w.heap.size + 1 + 1 + 1 + 1]? = some (.cells #[(.func (Fn.func 101) #[] #[.pointer (some ⟨w.heap.size + 1 + 1 + 1, 0, none⟩), .pointer (some ⟨w.heap.size + 1, 0, none⟩), .pointer (some ⟨w.heap.size, 0, none⟩), .pointer (some ⟨w.heap.size + 1 + 1 + 1 + 1, 0, none⟩)])] 105 (0, 0)) := by rw [hW1]; exact heap_set h4
  have hs1 : W1.heap.size = W.heap.size := by rw [hW1]; simp [World.setCell]
  have hB : Below w.heap.size w W1 := by rw [hW1]; exact hb.setCell (p := ⟨w.heap.size + 1 + 1 + 1 + 1, 0, none⟩) (by show w.heap.size ≤ w.heap.size + 1 + 1 + 1 + 1; omega) _
  have HA : Hid (W1.heap[w.heap.size + 1 + 1]? = some (.cells #[.string ⟨#[]⟩, .int .i64 0] 104 (0, 0))) := (ho _ (by omega)).trans h2
  have hs := HS.out
  have HN : Hid (NS w W1 (w.heap.size + 1 + 1 + 1) (w.heap.size + 1) w.heap.size (w.heap.size + 1 + 1 + 1 + 1) (.slice a L.length cap) L L.length) :=
    ⟨(ho _ (by omega)).trans h3, cell_at ((ho _ (by omega)).trans h1) rfl, cell_at ((ho _ (by omega)).trans h0) rfl, cell_at ((ho _ (by omega)).trans h0) rfl, cell_at ((ho _ (by omega)).trans h0) rfl, cell_at ((ho _ (by omega)).trans h0) rfl, cell_at g4 rfl, by omega, by omega, by omega, ⟨by omega, by omega, by omega⟩, hB, by omega, hv, Nat.le_refl _⟩
  have HNX := next_ok L hL f w W1 (w.heap.size + 1 + 1 + 1) (w.heap.size + 1) w.heap.size (w.heap.size + 1 + 1 + 1 + 1) (.slice a L.length cap) L.length p m HN.out hp
  have hHNX : Hid (Calls Try.prog 101 #[.pointer (some ⟨w.heap.size + 1 + 1 + 1, 0, none⟩), .pointer (some ⟨w.heap.size + 1, 0, none⟩), .pointer (some ⟨w.heap.size, 0, none⟩), .pointer (some ⟨w.heap.size + 1 + 1 + 1 + 1, 0, none⟩)] W1 fun e w' => e = .returned (pcV p) ∧ NS w w' (w.heap.size + 1 + 1 + 1) (w.heap.size + 1) w.heap.size (w.heap.size + 1 + 1 + 1 + 1) (.slice a L.length cap) L m ∧ Only (fun b => b = w.heap.size + 1 + 1 + 1) W1 w') := HNX
  have x4 : W1.cell? ⟨w.heap.size + 1 + 1 + 1 + 1, 0, none⟩ = some (.func (Fn.func 101) #[] #[.pointer (some ⟨w.heap.size + 1 + 1 + 1, 0, none⟩), .pointer (some ⟨w.heap.size + 1, 0, none⟩), .pointer (some ⟨w.heap.size, 0, none⟩), .pointer (some ⟨w.heap.size + 1 + 1 + 1 + 1, 0, none⟩)]) := cell_at g4 rfl
  have HL1 : Hid (w.heap.size + 1 + 1 < W1.heap.size) := by show _ < _; omega
  clear hv hW h0 h1 h2 h3 h4 hb hW1 ho g4 hs1 hB HNX hs hp
  go_enter Try.func66, Try.ntmps66
  go_upto_region 3 with fail
  rw [← HW.out]
  clear HW
  go_upto_region 4 with fail
  rw [← HW1.out]
  clear u0 uf HW1
  go_wp2_with fail
  refine Calls.mono hHNX.out ?_
  rintro e y ⟨rfl, hn, hoo⟩
  have HY : Hid (y.heap[w.heap.size + 1 + 1]? = some (.cells #[.string ⟨#[]⟩, .int .i64 0] 104 (0, 0))) := (hoo.block _ HL1.out (by omega)).trans HA.out
  have HBY : Hid (Below w.heap.size w y) := hn.b
  have u0 := cell_at (j := 0) HY.out rfl
  have u1 := cell_at (j := 1) HY.out rfl
  have uf : ∀ j, y.frozen? ⟨w.heap.size + 1 + 1, j, none⟩ = false := fun j => froz_of HY.out
  clear hn hoo
  unfold pcV
  go_wp2_with fail
  exact bodyPost_ret (results_cell_row rfl _ _ (w.heap.size + 1 + 1) 104 _ (0, 0) _ rfl (heap_set (heap_set HY.out)) Try.underlying104 rfl (by rw [Try.info_pc]; rfl)) rfl ⟨rfl, (HBY.out.setCell (p := ⟨w.heap.size + 1 + 1, 0, none⟩) (by show w.heap.size ≤ w.heap.size + 1 + 1; omega) _).setCell (p := ⟨w.heap.size + 1 + 1, 1, none⟩) (by show w.heap.size ≤ w.heap.size + 1 + 1; omega) _⟩

set_option maxHeartbeats 2000000 in
set_option maxRecDepth 100000 in
theorem written_ok (L : Sg) (hL : L.length ≤ 400) (f : Nat) (p : Pc) (m : Nat) (hp : nxP L f L.length = some (p, m)) (v : Value) (w : World) (hv : SgR w v (intS L)) :
    Calls Try.prog 33 #[v] w fun e w' => e = .returned (.string p.1) ∧ Below w.heap.size w w' := by
  have HO : Hid (Calls Try.prog 66 #[.agg #[.func (Fn.func 61) #[] #[], .func (Fn.func 62) #[] #[], .func (Fn.func 63) #[] #[], .func (Fn.func 65) #[] #[]], v] w fun e w' => e = .returned (pcV p) ∧ Below w.heap.size w w') := of_ok L hL f p m hp v w hv
  obtain ⟨a, cap, hva⟩ := hv.len
  subst hva
  have hfd : ∀ (x : ByteArray) (k : Int) (y : World), (Instr.field 104 (.agg #[.string x, .int .i64 k]) 0).run Try.prog y = .ok (.string x) y := fun x k y => by kernel_rfl
  clear hv hp
  go_enter Try.func33, Try.ntmps33
  go_wp2_with fail
  refine Calls.mono HO.out ?_
  rintro e y ⟨rfl, hb⟩
  have HB : Hid (Below w.heap.size w y) := hb
  clear hb
  unfold pcV
  go_wp2_with fail
  go_ret
  exact ⟨rfl, HB.out⟩
end Go.Proofs.Ythhlamehbcidgaa
