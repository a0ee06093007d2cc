/- trans: Image. -/
import Derived.Test.YthglficjhgpegaaCg
namespace Go.Proofs.Ythglficjhgpegaa
open Go Go.RowKit Go.Lib
set_option linter.unusedVariables false

theorem cellsF_one (f : Nat → Nat) : (cellsF f).all (·.oneCell') = true := by simp [cellsF, Value.oneCell']
theorem st_setRow {w : World} {b : Nat} {f g : Nat → Nat} (h : Cells8 w b f) : (storeCells ⟨b, 0, none⟩ (cellsF g).toList 0).run Try.prog w = .ok () (w.setRow b (cellsF g)) := st_row h rfl (cellsF_one g)
theorem Cells8.row {w : World} {b : Nat} {f g : Nat → Nat} (h : Cells8 w b f) : Cells8 (w.setRow b (cellsF g)) b g := setRow_heap w b _ _ _ _ h
/-- The set of a list's images. -/
def imN (l : List Nat) : Nat := ofL (pI l)
theorem imN_of {l : List Nat} (h : Tf l) : ofN (pI l) = imN l ∧ ofE (pI l) = 0 := by
  have e : (pI l).all inSet = true := by
    rw [List.all_eq_true]
    intro x hx
    obtain ⟨i, hi, rfl⟩ := List.mem_iff_getElem.1 hx
    rw [pI_len] at hi
    have := h.lt64 i hi
    rw [im_lt hi] at this
    simp [inSet, pI]
    omega
  exact ⟨by rw [ofN, if_pos e]; rfl, by rw [ofE, if_pos e]⟩
theorem imN_bit {l : List Nat} (j : Nat) : (imN l).testBit j = true ↔ ∃ i, i < l.length ∧ im l i = j := by
  unfold imN
  rw [testBit_ofL, decide_eq_true_iff]
  constructor
  · rintro ⟨x, hx, rfl⟩
    obtain ⟨i, hi, rfl⟩ := List.mem_iff_getElem.1 hx
    rw [pI_len] at hi
    exact ⟨i, hi, by rw [im_lt hi]; simp [pI]⟩
  · rintro ⟨i, hi, rfl⟩
    exact ⟨(im l i : Nat), by rw [im_lt hi]; unfold pI; exact List.mem_map.2 ⟨l[i], List.getElem_mem hi, rfl⟩, by simp⟩

set_option maxHeartbeats 4000000 in
set_option maxRecDepth 100000 in
theorem image_ok (l : List Nat) (hl : Tf l) (w : World) :
    Calls Try.prog 19 #[.agg (tC l)] w fun e w' => e = .returned (.tuple #[.agg (cellsF (word (imN l))), .int .i64 0]) ∧ Below w.heap.size w w' := by
  have H1 : Hid (TL ((w.alloc (.cells (tC l) 26)).alloc (.cells (cellsF (fun _ => 0)) 44)) w.heap.size l) := (heap_allo (by simp) _).trans (heap_last _ _)
  have HC : Hid (Cells8 ((w.alloc (.cells (tC l) 26)).alloc (.cells (cellsF (fun _ => 0)) 44)) (w.heap.size + 1) (fun _ => 0)) := by
    have := Cells8.last (w.alloc (.cells (tC l) 26)) (fun _ => 0)
    rwa [World.size_alloc] at this
  have HB0 : Hid (Below w.heap.size w ((w.alloc (.cells (tC l) 26)).alloc (.cells (cellsF (fun _ => 0)) 44))) := ((Below.refl _ _).alloc (Nat.le_refl _) _).alloc (by simp) _
  unfold cellsF at H1 HC HB0
  have hle := hl.le
  obtain ⟨q1, q2⟩ := imN_of hl
  go_enter Try.func19, Try.ntmps19
  go_wp2_with (refine wl_load rfl rfl (H1.out) rfl ?_)
  refine (tlist_ok l hl _).mono ?_
  rintro e w1 ⟨g, rfl, hO, hB1⟩
  have HB1 : Hid (Below w.heap.size w w1) := HB0.out.trans (hB1.mono (by simp <;> omega))
  have HC1 : Hid (Cells8 w1 (w.heap.size + 1) (fun _ => 0)) := HC.out.of_heap (hB1.block _ (by simp))
  have HR : Hid (Reads w1 (.slice (some ⟨g, 0, none⟩) l.length l.length) (pI l)) := by
    apply own_reads (base := _)
    rw [pI_len]
    exact hO
  clear hB1 hO
  go_wp2_with fail
  have hof := of_any (.slice (some ⟨g, 0, none⟩) l.length l.length) (pI l) w1 HR.out (by rw [pI_len]; omega)
  rw [q1, q2] at hof
  refine hof.mono ?_
  clear hof q1 q2
  rintro e w2 ⟨rfl, hB2⟩
  have HB2 : Hid (Below w.heap.size w w2) := HB1.out.trans (hB2.mono HB1.out.size)
  have HC2 : Hid (Cells8 w2 (w.heap.size + 1) (fun _ => 0)) := HC1.out.of_heap (hB2.block _ HC1.out.lt)
  have hs := st_setRow (g := word (imN l)) HC2.out
  have hsz := cellsF_size (word (imN l))
  clear hB2
  unfold setV
  go_wp2_with fail
  exact bodyPost_ret (results_set_tmp rfl rfl HC2.out.row) rfl ⟨rfl, below_row HB2.out (by omega)⟩
end Go.Proofs.Ythglficjhgpegaa
