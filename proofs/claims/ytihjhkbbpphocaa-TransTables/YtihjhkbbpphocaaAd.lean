/- trans: still, then, unpack, pack. -/
import Derived.Test.YtihjhkbbpphocaaAc
namespace Go.Proofs.Ytihjhkbbpphocaa
open Go Go.RowKit Go.Lib
set_option linter.unusedVariables false

theorem mvC_ne (n : Nat) (f : Nat → Nat) : (mvC n f = #[]) ↔ False := ⟨fun h => by have := mvC_size n f; rw [h] at this; simp at this, False.elim⟩
theorem inf_mv (n : Nat) (f : Nat → Nat) : (Try.prog.info? 79).map (·.size) = some (mvC n f).size := by rw [Try.info_mv, mvC_size]
/-- The images that were written so far: those below i; the rest are nought. -/
def upto (f : Nat → Nat) (i j : Nat) : Nat := if j < i then f j else 0
theorem upto_zero (f : Nat → Nat) (j : Nat) : upto f 0 j = 0 := by simp [upto]
theorem upto_succ (f : Nat → Nat) (i : Nat) : (fun j => if j = i then f i else upto f i j) = upto f (i + 1) := by
  funext j
  unfold upto
  by_cases h : j = i
  · rw [if_pos h, if_pos (by omega), h]
  · rw [if_neg h]
    by_cases q : j < i
    · rw [if_pos q, if_pos (by omega)]
    · rw [if_neg q, if_neg (by omega)]
theorem upto_im (l : List Nat) : upto (im l) l.length = im l := by
  funext j
  unfold upto
  split
  · rfl
  · rw [im_ge (by omega)]
theorem u8_in {a : Nat} (h : a < 256) : IntKind.u8.wrap (a : Int) = (a : Int) := by rw [IntKind.wrap_u8]; omega
/-- What stands in a loop that fills images: the answer's block and the block that is filled. -/
structure Fill (w wr : World) (r b n : Nat) (f : Nat → Nat) : Prop where
  res : MvAt wr r 0 (fun _ => 0)
  out : MvAt wr b n f
  below : Below w.heap.size w wr
theorem Fill.put {w wr : World} {r b n i : Nat} {f : Nat → Nat} (h : Fill w wr r b n (upto f i)) (hrb : r ≠ b) (hb : w.heap.size ≤ b) (hi : i < 64) : Fill w (wr.setCell ⟨b, 1 + i, none⟩ (.int .u8 (f i : Nat))) r b n (upto f (i + 1)) := by
  refine ⟨h.res.of (heap_set_oth hrb), ?_, h.below.setCell (p := ⟨b, 1 + i, none⟩) hb _⟩
  rw [← upto_succ]
  exact h.out.set' _ hi

set_option maxHeartbeats 2000000 in
set_option maxRecDepth 100000 in
theorem still_any (n : Nat) (hn : n ≤ 64) (w : World) :
    Calls Try.prog 66 #[.int .i64 n] w fun e w' => e = .returned (mvL (stl n)) ∧ Below w.heap.size w w' := by
  have hz := Try.zero_mv
  have hsz := mvC_size 0 fun _ => 0
  have hne := mvC_ne 0 fun _ => 0
  have hst := st_mvNew (w.alloc (.cells (mvC 0 fun _ => 0) 79)) n
  rw [World.size_alloc] at hst
  have H0 : Hid (Fill w ((w.alloc (.cells (mvC 0 fun _ => 0) 79)).alloc (.cells (mvC n fun _ => 0) 79)) w.heap.size (w.heap.size + 1) n (upto id 0)) := by
    refine ⟨?_, ?_, ?_⟩
    · unfold MvAt; rw [heap_allo (by simp)]; exact heap_last _ _
    · have := heap_last (w.alloc (.cells (mvC 0 fun _ => 0) 79)) (.cells (mvC n fun _ => 0) 79)
      rw [World.size_alloc] at this
      exact MvAt.congr (f := fun _ => 0) this (fun i _ => (upto_zero _ i).symm)
    · exact ((Below.refl _ _).alloc (Nat.le_refl _) _).alloc (by simp) _
  go_enter Try.func66, Try.ntmps66
  go_wp2_with fail
  clear hz hsz hne hst
  go_loopw [8, 4] (fun vi _ wr => ∃ i : Nat, vi = .int .i64 i ∧ i ≤ n ∧ Fill w wr w.heap.size (w.heap.size + 1) n (upto id i)) (fun vi _ _ => n - (intOf vi).toNat)
  case atStart => exact ⟨0, rfl, Nat.zero_le _, H0.out⟩
  case round =>
    clear H0
    obtain ⟨i, rfl, hin, hF⟩ := hrel
    by_cases hlt : i < n
    · have hiI : (i : Int) < n := by omega
      have hi64 : (i : Int) < 64 := by omega
      have hw8 := u8_in (a := i) (by omega)
      have hfz := hF.out.frozen (1 + i)
      have hcl := hF.out.cell' (i := i) (by omega)
      have HN : Hid (Fill w (wr.setCell ⟨w.heap.size + 1, 1 + i, none⟩ (.int .u8 (i : Int))) w.heap.size (w.heap.size + 1) n (upto id (i + 1))) := hF.put (by omega) (by omega) (by omega)
      clear hF
      go_wp2_with fail
      go_roundw
      case rel => exact ⟨i + 1, by go_num, by omega, HN.out⟩
      case measure => simp [intOf]; omega
    · have hiI : ¬ (i : Int) < n := by omega
      have e : i = n := by omega
      have hs := st_mv (m := n) (g := upto id i) hF.res
      have hsz := mvC_size n (upto id i)
      have HF : Hid (Fill w wr w.heap.size (w.heap.size + 1) n (upto id i)) := hF
      have HE : Hid (i = n) := e
      clear hF e
      go_wp2_with (refine wpList_load_row rfl 79 _ rfl (w.heap.size + 1) rfl 79 (mvC n (upto id i)) (0, 0) _ HF.out.out Try.underlying79 rfl (inf_mv _ _) ?_)
      refine bodyPost_ret (results_mv rfl rfl HF.out.res.row) rfl ⟨?_, below_row HF.out.below (Nat.le_refl _)⟩
      unfold mvL
      rw [stl_len, HE.out]
      unfold mvV
      rw [mvC_congr (g := im (stl n))]
      intro j hj
      unfold upto
      split
      · rw [stl_im (by assumption)]; rfl
      · rw [im_ge (by rw [stl_len]; omega)]

set_option maxHeartbeats 2000000 in
set_option maxRecDepth 100000 in
theorem then_any (n k : Nat) (f g : Nat → Nat) (hn : n ≤ 64) (hf : ∀ i, i < n → f i < 64) (w : World) :
    Calls Try.prog 65 #[mvV n f, mvV k g] w fun e w' => e = .returned (mvV n (upto (fun i => g (f i)) n)) ∧ Below w.heap.size w w' := by
  have hz := Try.zero_mv
  have hsz := mvC_size 0 fun _ => 0
  have hne := mvC_ne 0 fun _ => 0
  have hn0 := mvC_n n f
  have hst := st_mvNew (((w.alloc (.cells (mvC n f) 79)).alloc (.cells (mvC k g) 79)).alloc (.cells (mvC 0 fun _ => 0) 79)) n
  simp only [World.size_alloc] at hst
  have H0 : Hid (Fill w ((((w.alloc (.cells (mvC n f) 79)).alloc (.cells (mvC k g) 79)).alloc (.cells (mvC 0 fun _ => 0) 79)).alloc (.cells (mvC n fun _ => 0) 79)) (w.heap.size + 1 + 1) (w.heap.size + 1 + 1 + 1) n (upto (fun i => g (f i)) 0) ∧
      MvAt ((((w.alloc (.cells (mvC n f) 79)).alloc (.cells (mvC k g) 79)).alloc (.cells (mvC 0 fun _ => 0) 79)).alloc (.cells (mvC n fun _ => 0) 79)) w.heap.size n f ∧
      MvAt ((((w.alloc (.cells (mvC n f) 79)).alloc (.cells (mvC k g) 79)).alloc (.cells (mvC 0 fun _ => 0) 79)).alloc (.cells (mvC n fun _ => 0) 79)) (w.heap.size + 1) k g) := by
    refine ⟨⟨?_, ?_, ?_⟩, ?_, ?_⟩
    · unfold MvAt; rw [heap_allo (by simp)]
      have := heap_last ((w.alloc (.cells (mvC n f) 79)).alloc (.cells (mvC k g) 79)) (.cells (mvC 0 fun _ => 0) 79)
      simpa only [World.size_alloc] using this
    · have := heap_last (((w.alloc (.cells (mvC n f) 79)).alloc (.cells (mvC k g) 79)).alloc (.cells (mvC 0 fun _ => 0) 79)) (.cells (mvC n fun _ => 0) 79)
      simp only [World.size_alloc] at this
      exact MvAt.congr (f := fun _ => 0) this (fun i _ => (upto_zero _ i).symm)
    · exact ((((Below.refl _ _).alloc (Nat.le_refl _) _).alloc (by simp) _).alloc (by simp <;> omega) _).alloc (by simp <;> omega) _
    · unfold MvAt; rw [heap_allo (by simp <;> omega), heap_allo (by simp <;> omega), heap_allo (by simp)]; exact heap_last _ _
    · unfold MvAt; rw [heap_allo (by simp <;> omega), heap_allo (by simp)]
      have := heap_last (w.alloc (.cells (mvC n f) 79)) (.cells (mvC k g) 79)
      simpa only [World.size_alloc] using this
  unfold mvV
  go_enter Try.func65, Try.ntmps65
  go_wp2_with fail
  clear hz hsz hne hst
  go_loopw [12, 6] (fun vi _ wr => ∃ i : Nat, vi = .int .i64 i ∧ i ≤ n ∧ Fill w wr (w.heap.size + 1 + 1) (w.heap.size + 1 + 1 + 1) n (upto (fun i => g (f i)) i) ∧ MvAt wr w.heap.size n f ∧ MvAt wr (w.heap.size + 1) k g) (fun vi _ _ => n - (intOf vi).toNat)
  case atStart => exact ⟨0, rfl, Nat.zero_le _, H0.out⟩
  case round =>
    clear H0
    obtain ⟨i, rfl, hin, hF, hm1, hm2⟩ := hrel
    by_cases hlt : i < n
    · have hiI : (i : Int) < n := by omega
      have hi64 : (i : Int) < 64 := by omega
      have hf64 := hf i hlt
      have hfI : (f i : Int) < 64 := by omega
      have hfz := hF.out.frozen (1 + i)
      have hcl := hF.out.cell' (i := i) (by omega)
      have hc1 := hm1.cell' (i := i) (by omega)
      have hc2 := hm2.cell' (i := f i) hf64
      have HN : Hid (Fill w (wr.setCell ⟨w.heap.size + 1 + 1 + 1, 1 + i, none⟩ (.int .u8 (g (f i) : Nat))) (w.heap.size + 1 + 1) (w.heap.size + 1 + 1 + 1) n (upto (fun i => g (f i)) (i + 1)) ∧ MvAt (wr.setCell ⟨w.heap.size + 1 + 1 + 1, 1 + i, none⟩ (.int .u8 (g (f i) : Nat))) w.heap.size n f ∧ MvAt (wr.setCell ⟨w.heap.size + 1 + 1 + 1, 1 + i, none⟩ (.int .u8 (g (f i) : Nat))) (w.heap.size + 1) k g) := ⟨hF.put (by omega) (by omega) (by omega), hm1.of (heap_set_oth (by omega)), hm2.of (heap_set_oth (by omega))⟩
      clear hF hm1 hm2 hf
      go_wp2_with fail
      go_roundw
      case rel => exact ⟨i + 1, by go_num, by omega, HN.out⟩
      case measure => simp [intOf]; omega
    · have hiI : ¬ (i : Int) < n := by omega
      have e : i = n := by omega
      have hs := st_mv (m := n) (g := upto (fun i => g (f i)) i) hF.res
      have hsz := mvC_size n (upto (fun i => g (f i)) i)
      have HF : Hid (Fill w wr (w.heap.size + 1 + 1) (w.heap.size + 1 + 1 + 1) n (upto (fun i => g (f i)) i)) := hF
      have HE : Hid (i = n) := e
      clear hF e hm1 hm2 hf
      go_wp2_with (refine wpList_load_row rfl 79 _ rfl (w.heap.size + 1 + 1 + 1) rfl 79 (mvC n (upto (fun i => g (f i)) i)) (0, 0) _ HF.out.out Try.underlying79 rfl (inf_mv _ _) ?_)
      refine bodyPost_ret (results_mv rfl rfl HF.out.res.row) rfl ⟨?_, below_row HF.out.below (by omega)⟩
      rw [HE.out]
      rfl
end Go.Proofs.Ytihjhkbbpphocaa
