/- The printer: contracts of syntax.written.within and syntax.pair. -/
import Derived.Test.YtjonlmafhijcoaaDoorSg
import Derived.Laws.Concat
namespace Go.Proofs.YtjonlmafhijcoaaDoor
open Go Go.RowKit
set_option linter.unusedVariables false

def openB : ByteArray := { data := #[40] }
def shutB : ByteArray := { data := #[41] }
/-- A text as a part of what asks at least that tightness. -/
def wth (tx : ByteArray) (t least : Nat) : ByteArray := if t < least then (openB ++ tx) ++ shutB else tx
theorem wth_size (tx : ByteArray) (t least : Nat) : (wth tx t least).size ≤ tx.size + 2 := by
  unfold wth
  split
  · rw [ByteArray.size_append, ByteArray.size_append]
    show 1 + tx.size + 1 ≤ _
    omega
  · omega

set_option maxHeartbeats 2000000 in
set_option maxRecDepth 100000 in
theorem within_any (tx : ByteArray) (t least : Nat) (hx : tx.size ≤ 100000) (w : World) :
    Calls Tryd.prog 40 #[.agg #[.string tx, .int .i64 (t : Int)], .int .i64 (least : Int)] w fun e w' => e = .returned (.string (wth tx t least)) ∧ Below w.heap.size w w' := by
  have hb : Below w.heap.size w (w.alloc (.cells #[.string tx, .int .i64 (t : Int)] 62)) := (Below.refl _ _).alloc (Nat.le_refl _) _
  have HB : Hid (Below w.heap.size w (w.alloc (.cells #[.string tx, .int .i64 (t : Int)] 62))) := hb
  clear hb
  by_cases h : t < least
  · have hI : (t : Int) < least := by omega
    have h1 := fun W => run_string_add_sum (P := Tryd.prog) W { data := #[40] } tx (by show 1 + tx.size ≤ _; omega)
    have h2 := fun W => run_string_add_sum (P := Tryd.prog) W ({ data := #[40] } ++ tx) { data := #[41] } (by rw [ByteArray.size_append]; show 1 + tx.size + 1 ≤ _; omega)
    have HE : Hid (wth tx t least = ({ data := #[40] } ++ tx) ++ { data := #[41] }) := by show _ = _; rw [wth, if_pos h]; rfl
    rw [HE.out]
    go_enter Tryd.func40, Tryd.ntmps40
    go_wp2_with fail
    go_ret
    exact ⟨rfl, HB.out⟩
  · have hI : ¬ (t : Int) < least := by omega
    have HE : Hid (wth tx t least = tx) := by show _ = _; rw [wth, if_neg h]
    rw [HE.out]
    go_enter Tryd.func40, Tryd.ntmps40
    go_wp2_with fail
    go_ret
    exact ⟨rfl, HB.out⟩

abbrev S4 (W : World) (g o : Nat) (x0 x1 : ByteArray) (t0 t1 : Nat) (w' : World) : Prop := w'.cell? ⟨g, o, none⟩ = some (.string x0) ∧ w'.cell? ⟨g, o + 1, none⟩ = some (.int .i64 (t0 : Int)) ∧ w'.cell? ⟨g, o + 2, none⟩ = some (.string x1) ∧ w'.cell? ⟨g, o + 2 + 1, none⟩ = some (.int .i64 (t1 : Int)) ∧ Below W.heap.size W w'
theorem s4_step {W : World} {g o : Nat} {x0 x1 : ByteArray} {t0 t1 : Nat} {w1 w2 : World} (hg : g < W.heap.size) (hb : Below w1.heap.size w1 w2) (h : S4 W g o x0 x1 t0 t1 w1) : S4 W g o x0 x1 t0 t1 w2 := by
  have hs := h.2.2.2.2.size
  refine ⟨?_, ?_, ?_, ?_, go_on h.2.2.2.2 hb⟩
  · rw [below_cell hb (by omega)]; exact h.1
  · rw [below_cell hb (by omega)]; exact h.2.1
  · rw [below_cell hb (by omega)]; exact h.2.2.1
  · rw [below_cell hb (by omega)]; exact h.2.2.2.1
/-- Two parts with a mark between them. -/
def pairT (x0 x1 : ByteArray) (t0 t1 t : Nat) (mark : ByteArray) : ByteArray := (wth x0 t0 t ++ mark) ++ wth x1 t1 (t + 1)

set_option maxHeartbeats 4000000 in
set_option maxRecDepth 100000 in
theorem pair_any (x0 x1 mark : ByteArray) (t0 t1 t cap g o : Nat) (hx0 : x0.size ≤ 1000) (hx1 : x1.size ≤ 1000) (hmk : mark.size ≤ 1000) (ht : t ≤ 100) (w : World) (hg : g < w.heap.size) (h0 : w.cell? ⟨g, o, none⟩ = some (.string x0)) (h1 : w.cell? ⟨g, o + 1, none⟩ = some (.int .i64 (t0 : Int))) (h2 : w.cell? ⟨g, o + 2, none⟩ = some (.string x1)) (h3 : w.cell? ⟨g, o + 2 + 1, none⟩ = some (.int .i64 (t1 : Int))) :
    Calls Tryd.prog 41 #[.slice (some ⟨g, o, none⟩) 2 cap, .int .i64 (t : Int), .string mark] w fun e w' => e = .returned (.string (pairT x0 x1 t0 t1 t mark)) ∧ Below w.heap.size w w' := by
  have z0 := wth_size x0 t0 t
  have z1 := wth_size x1 t1 (t + 1)
  obtain ⟨y0, hy0⟩ : ∃ y, wth x0 t0 t = y := ⟨_, rfl⟩
  obtain ⟨y1, hy1⟩ : ∃ y, wth x1 t1 (t + 1) = y := ⟨_, rfl⟩
  have HY : Hid (wth x0 t0 t = y0 ∧ wth x1 t1 (t + 1) = y1) := ⟨hy0, hy1⟩
  rw [hy0] at z0
  rw [hy1] at z1
  have k1 := fun W => run_string_add_sum (P := Tryd.prog) W y0 mark (by omega)
  have k2 := fun W => run_string_add_sum (P := Tryd.prog) W (y0 ++ mark) y1 (by rw [ByteArray.size_append]; omega)
  have HE : Hid (pairT x0 x1 t0 t1 t mark = (y0 ++ mark) ++ y1) := by show _ = _; rw [pairT, hy0, hy1]
  have hw : IntKind.i64.wrap ((t : Int) + 1) = ((t + 1 : Nat) : Int) := by rw [IntKind.wrap_i64]; omega
  have S0 : S4 w g o x0 x1 t0 t1 w.drew := ⟨h0, h1, h2, h3, (Below.refl _ _).drew⟩
  rw [HE.out]
  clear hy0 hy1 h0 h1 h2 h3
  go_enter Tryd.func41, Tryd.ntmps41
  go_wp2_with fail
  go_region_held3 (fun w' => S4 w g o x0 x1 t0 t1 w') (first | exact S0 | assumption | exact s4_step hg (by assumption) (by assumption)) (first
    | (go_at_call_of 40 (Value.string x0); refine (within_any x0 t0 t (by omega) _).mono ?_; rintro e a1 ⟨rfl, ha1⟩; rw [HY.out.1])
    | (go_at_call 40; refine (within_any x1 t1 (t + 1) (by omega) _).mono ?_; rintro e a2 ⟨rfl, ha2⟩; rw [HY.out.2]))
  all_goals go_wp2_with fail
  all_goals go_ret
  all_goals exact ⟨rfl, (show S4 w g o x0 x1 t0 t1 _ from by first | assumption | exact s4_step hg (by assumption) (by assumption)).2.2.2.2⟩
end Go.Proofs.YtjonlmafhijcoaaDoor
