/- trans: Power. -/
import Derived.Test.YtihjhkbbpphocaaAi
namespace Go.Proofs.Ytihjhkbbpphocaa
open Go Go.RowKit Go.Lib
set_option linter.unusedVariables false

theorem upto_cmp (X Y : List Nat) : upto (fun i => im Y (im X i)) X.length = im (cmp X Y) := by
  funext j
  unfold upto
  by_cases h : j < X.length
  · rw [if_pos h, cmp_im _ _ h]
  · rw [if_neg h, im_ge (by rw [cmp_len]; omega)]
/-- Images of a list, one behind the other. -/
theorem then_list (X Y : List Nat) (hX : Tf X) (w : World) :
    Calls Try.prog 65 #[.agg (mvC X.length (im X)), .agg (mvC Y.length (im Y))] w fun e w' => e = .returned (.agg (mvC X.length (im (cmp X Y)))) ∧ Below w.heap.size w w' := by
  have := then_any X.length Y.length (im X) (im Y) hX.le hX.lt64 w
  rw [upto_cmp] at this
  exact this
/-- What stands in Power's loop. -/
structure PwAt (w wr : World) (r s o : Nat) (l : List Nat) (a b : Nat) : Prop where
  res : TrAt wr r 0 (fun _ => 0)
  sq : MvAt wr s l.length (im (pwr l a))
  out : MvAt wr o l.length (im (pwr l b))
  below : Below w.heap.size w wr
theorem PwAt.stay {w wr y : World} {r s o a b : Nat} {l : List Nat} (h : PwAt w wr r s o l a b) (hb : Below wr.heap.size wr y) : PwAt w y r s o l a b :=
  ⟨h.res.of (hb.block _ h.res.lt), h.sq.of (hb.block _ h.sq.lt), h.out.of (hb.block _ h.out.lt), h.below.trans (hb.mono h.below.size)⟩
theorem PwAt.putO {w wr : World} {r s o a b : Nat} {l : List Nat} (h : PwAt w wr r s o l a b) (hr : r ≠ o) (hs : s ≠ o) (ho : w.heap.size ≤ o) (c : Nat) : PwAt w (wr.setRow o (mvC l.length (im (pwr l c)))) r s o l a c :=
  ⟨h.res.of (setRow_other _ _ _ _ hr), h.sq.of (setRow_other _ _ _ _ hs), h.out.row, below_row h.below ho⟩
theorem PwAt.putS {w wr : World} {r s o a b : Nat} {l : List Nat} (h : PwAt w wr r s o l a b) (hr : r ≠ s) (hs : o ≠ s) (ho : w.heap.size ≤ s) (c : Nat) : PwAt w (wr.setRow s (mvC l.length (im (pwr l c)))) r s o l c b :=
  ⟨h.res.of (setRow_other _ _ _ _ hr), h.sq.row, h.out.of (setRow_other _ _ _ _ hs), below_row h.below ho⟩
theorem pwr_then (l : List Nat) (h : Tf l) (a b : Nat) (w : World) :
    Calls Try.prog 65 #[.agg (mvC l.length (im (pwr l a))), .agg (mvC l.length (im (pwr l b)))] w fun e w' => e = .returned (.agg (mvC l.length (im (pwr l (a + b))))) ∧ Below w.heap.size w w' := by
  have := then_list (pwr l a) (pwr l b) (pwr_tf h a) w
  rw [pwr_len, pwr_len, ← pwr_add h] at this
  exact this

end Go.Proofs.Ytihjhkbbpphocaa
