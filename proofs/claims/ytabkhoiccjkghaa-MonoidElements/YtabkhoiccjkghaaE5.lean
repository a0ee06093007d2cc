/- trans.Table: Put. -/
import Derived.Test.YtabkhoiccjkghaaE4
namespace Go.Proofs.Ytabkhoiccjkghaa
open Go Go.RowKit Go.Lib Go.Maps
set_option linter.unusedVariables false
attribute [-instance] List.instBEq
theorem grown_drew {w w' : World} {r : Option Nat} (h : w.grownBy w' r) : w.grownBy w'.drew r := ⟨h.os, h.tape, h.output, h.size, h.block⟩
theorem wfNm {s : Nat} (h : s ≤ 9223372036854775807) : (Lit.int .i64 (s : Int)).wf = true := WalkArith.wf_i64 (by omega)
/-- What Put of a new transformation leaves. -/
def PtN (base b mb n : Nat) (vl : Value) (M : List (List Nat)) (D : DataW Unit) (l : List Nat) (w : World) (e : Ending) (w' : World) : Prop := ∃ vl', e = .returned (.tuple #[.int .i64 (M.length : Nat), .bool true, .int .i64 0]) ∧ TB base w' b mb n vl' (M ++ [l]) (D.put (klT l) (.lit (.int .i64 (M.length : Nat)))) ∧ Only (TS b mb vl) w w' ∧ (vl'.ownBlock = vl.ownBlock ∨ ∃ x, vl'.ownBlock = some x ∧ w.heap.size ≤ x)

set_option maxHeartbeats 4000000 in
set_option maxRecDepth 100000 in
theorem tput_old {base : Nat} {w : World} {b mb n : Nat} {vl : Value} {M : List (List Nat)} {D : DataW Unit} (h : TB base w b mb n vl M D) {l : List Nat} (hl : Tf l) (hn : l.length = n) (hm : l ∈ M) {p : Nat} (hp : M.idxOf l = p) :
    Calls Try.prog 70 #[.pointer (some ⟨b, 0, none⟩), .agg (tC l)] w fun e w' => e = .returned (.tuple #[.int .i64 (p : Nat), .bool false, .int .i64 0]) ∧ Below w.heap.size w w' := by
  have HCK : Hid (∀ y, Calls Try.prog 75 #[.agg (tC l)] y fun e w' => e = .returned (.int .i64 0) ∧ Below y.heap.size y w') := fun y => tcheck_ok l hl y
  obtain ⟨p0, p1, p2, p3, p4, p5, p6, hcs⟩ : ∃ p0 p1 p2 p3 p4 p5 p6 : Int, tC l = #[.int .i64 (n : Int), .int .u64 p0, .int .u64 p1, .int .u64 p2, .int .u64 p3, .int .u64 p4, .int .u64 p5, .int .u64 p6] := ⟨_, _, _, _, _, _, _, by subst hn; rfl⟩
  have hkey := klT_of hl
  have hhas := h.mi.has l hl
  have hnum := h.mi.num l hl
  obtain ⟨a, cap, rfl⟩ := own_shape h.row
  obtain ⟨w0, hw0⟩ : ∃ w0, w0 = w.alloc (.cells (tC l) 42) := ⟨_, rfl⟩
  have hb0 : Below w.heap.size w w0 := by rw [hw0]; exact below_new _ _
  have HT : Hid (TB base w0 b mb n (.slice a M.length cap) M D) := h.below hb0
  have HL : Hid (w0.heap[w.heap.size]? = some (.cells (tC l) 42 (0, 0))) := by show _ = _; rw [hw0]; exact heap_last _ _
  have HLC : Hid (tC l = #[.int .i64 (n : Int), .int .u64 p0, .int .u64 p1, .int .u64 p2, .int .u64 p3, .int .u64 p4, .int .u64 p5, .int .u64 p6]) := hcs
  have HB : Hid (Below w.heap.size w w0) := hb0
  rw [hcs] at HCK HL hkey hw0
  rw [hcs]
  have HW : Hid (w0 = w.alloc (.cells #[.int .i64 (n : Int), .int .u64 p0, .int .u64 p1, .int .u64 p2, .int .u64 p3, .int .u64 p4, .int .u64 p5, .int .u64 p6] 42)) := hw0
  have hLlt : w.heap.size < w0.heap.size := (Array.getElem?_eq_some_iff.1 HL.out).1
  have hblt : b < w0.heap.size := (Array.getElem?_eq_some_iff.1 HT.out.box).1
  have HTF : Hid (Tf l ∧ l.length = n) := ⟨hl, hn⟩
  have HT0 : Hid (TB base w b mb n (.slice a M.length cap) M D) := h
  have HSK : Hid (∀ y z, ((∀ o, y.cell? ⟨w.heap.size, o, none⟩ = (#[.int .i64 (n : Int), .int .u64 p0, .int .u64 p1, .int .u64 p2, .int .u64 p3, .int .u64 p4, .int .u64 p5, .int .u64 p6] : Array Value)[o]?) ∧ y.cell? ⟨b, 1, none⟩ = some (.int .i64 (n : Int)) ∧ Below w0.heap.size w0 y) → Below y.heap.size y z → ((∀ o, z.cell? ⟨w.heap.size, o, none⟩ = (#[.int .i64 (n : Int), .int .u64 p0, .int .u64 p1, .int .u64 p2, .int .u64 p3, .int .u64 p4, .int .u64 p5, .int .u64 p6] : Array Value)[o]?) ∧ z.cell? ⟨b, 1, none⟩ = some (.int .i64 (n : Int)) ∧ Below w0.heap.size w0 z)) := fun y z hy hz => by
    have h3 := hy.2.2.size
    exact ⟨fun o => by rw [below_cellJ hz (by omega)]; exact hy.1 o, by rw [below_cellJ hz (by omega)]; exact hy.2.1, go_on hy.2.2 hz⟩
  have S0 : ((∀ o, w0.drew.cell? ⟨w.heap.size, o, none⟩ = (#[.int .i64 (n : Int), .int .u64 p0, .int .u64 p1, .int .u64 p2, .int .u64 p3, .int .u64 p4, .int .u64 p5, .int .u64 p6] : Array Value)[o]?) ∧ w0.drew.cell? ⟨b, 1, none⟩ = some (.int .i64 (n : Int)) ∧ Below w0.heap.size w0 w0.drew) := ⟨fun o => cell_of_row _ _ _ _ _ _ HL.out, cell_at HT.out.box rfl, (Below.refl _ _).drew⟩
  clear h hw0 hb0 hl hn hcs
  go_enter Try.func70, Try.ntmps70
  go_wp2_with fail
  rw [← HW.out]
  refine (tmade_any HT.out).mono ?_
  rintro e w1 ⟨rfl, rfl⟩
  go_wp2_with fail
  go_region_held3 (fun y => ((∀ o, y.cell? ⟨w.heap.size, o, none⟩ = (#[.int .i64 (n : Int), .int .u64 p0, .int .u64 p1, .int .u64 p2, .int .u64 p3, .int .u64 p4, .int .u64 p5, .int .u64 p6] : Array Value)[o]?) ∧ y.cell? ⟨b, 1, none⟩ = some (.int .i64 (n : Int)) ∧ Below w0.heap.size w0 y)) (first | exact S0 | assumption | exact HSK.out _ _ (by assumption) (by assumption)) (first | (refine (HCK.out _).mono ?_; rintro e y1 ⟨rfl, hy1⟩))
  have HB1 : Hid (Below w0.heap.size w0 y1) := (show ((∀ o, y1.cell? ⟨w.heap.size, o, none⟩ = (#[.int .i64 (n : Int), .int .u64 p0, .int .u64 p1, .int .u64 p2, .int .u64 p3, .int .u64 p4, .int .u64 p5, .int .u64 p6] : Array Value)[o]?) ∧ y1.cell? ⟨b, 1, none⟩ = some (.int .i64 (n : Int)) ∧ Below w0.heap.size w0 y1) by assumption).2.2
  have HT1 : Hid (TB base y1 b mb n (.slice a M.length cap) M D) := HT.out.below HB1.out
  have HL1 : Hid (y1.heap[w.heap.size]? = some (.cells #[.int .i64 (n : Int), .int .u64 p0, .int .u64 p1, .int .u64 p2, .int .u64 p3, .int .u64 p4, .int .u64 p5, .int .u64 p6] 42 (0, 0))) := (HB1.out.block _ hLlt).trans HL.out
  have HBW : Hid (Below w.heap.size w y1) := HB.out.trans (HB1.out.mono (Nat.le_of_lt hLlt))
  clear HB1 HT HL HB HW HSK S0 HCK
  have d0 : y1.drew.cell? ⟨w.heap.size, 0, none⟩ = some (.int .i64 (n : Int)) := cell_at HL1.out rfl
  have d1 : y1.drew.cell? ⟨w.heap.size, 1, none⟩ = some (.int .u64 p0) := cell_at HL1.out rfl
  have d2 : y1.drew.cell? ⟨w.heap.size, 2, none⟩ = some (.int .u64 p1) := cell_at HL1.out rfl
  have d3 : y1.drew.cell? ⟨w.heap.size, 3, none⟩ = some (.int .u64 p2) := cell_at HL1.out rfl
  have d4 : y1.drew.cell? ⟨w.heap.size, 4, none⟩ = some (.int .u64 p3) := cell_at HL1.out rfl
  have d5 : y1.drew.cell? ⟨w.heap.size, 5, none⟩ = some (.int .u64 p4) := cell_at HL1.out rfl
  have d6 : y1.drew.cell? ⟨w.heap.size, 6, none⟩ = some (.int .u64 p5) := cell_at HL1.out rfl
  have d7 : y1.drew.cell? ⟨w.heap.size, 7, none⟩ = some (.int .u64 p6) := cell_at HL1.out rfl
  have t2 : y1.drew.cell? ⟨b, 2, none⟩ = some (.map (some mb)) := cell_at HT1.out.box rfl
  have hhas : Maps.has D (klT l) = true := by rw [hhas]; exact decide_eq_true hm
  have hnum2 := hnum hm (.lit (.int .i64 0))
  rw [hp] at hnum2
  have hlk : (Instr.lookup 98 (.map (some mb)) (.agg #[.int .i64 (n : Int), .int .u64 p0, .int .u64 p1, .int .u64 p2, .int .u64 p3, .int .u64 p4, .int .u64 p5, .int .u64 p6]) true).run Try.prog y1.drew = .ok (.tuple #[.int .i64 (p : Nat), .bool true]) y1.drew := by
    obtain ⟨v, ps, h1, h2⟩ := HT1.out.mp.drew.look_ok keyT Try.und_mapT (Try.zero_int _) (plainElem_int Try.und_int (by decide)) hkey
    rw [hnum2] at h2
    obtain ⟨c, rfl, h3, _⟩ := plainElem_int_inv Try.und_int h2
    simp only [Prod.mk.injEq, DataW.lit.injEq, Lit.int.injEq, true_and] at h3
    obtain ⟨h3, _⟩ := h3
    rw [h1, hhas, h3]
  clear hhas hnum hnum2 hkey hm hp
  go_wp2_with fail
  go_region
  go_wp2_with fail
  go_ret3
  exact ⟨rfl, HBW.out.drew⟩

set_option maxHeartbeats 4000000 in
set_option maxRecDepth 100000 in
theorem tput_full {base : Nat} {w : World} {b mb n : Nat} {vl : Value} {M : List (List Nat)} {D : DataW Unit} (h : TB base w b mb n vl M D) {l : List Nat} (hl : Tf l) (hn : l.length = n) (hm : l ∉ M) (hf : 512 ≤ M.length) :
    Calls Try.prog 70 #[.pointer (some ⟨b, 0, none⟩), .agg (tC l)] w fun e w' => e = .returned (.tuple #[.int .i64 0, .bool false, .int .i64 2]) ∧ Below w.heap.size w w' := by
  have HCK : Hid (∀ y, Calls Try.prog 75 #[.agg (tC l)] y fun e w' => e = .returned (.int .i64 0) ∧ Below y.heap.size y w') := fun y => tcheck_ok l hl y
  obtain ⟨p0, p1, p2, p3, p4, p5, p6, hcs⟩ : ∃ p0 p1 p2 p3 p4 p5 p6 : Int, tC l = #[.int .i64 (n : Int), .int .u64 p0, .int .u64 p1, .int .u64 p2, .int .u64 p3, .int .u64 p4, .int .u64 p5, .int .u64 p6] := ⟨_, _, _, _, _, _, _, by subst hn; rfl⟩
  have hkey := klT_of hl
  have hhas := h.mi.has l hl
  have hnum := h.mi.num l hl
  obtain ⟨a, cap, rfl⟩ := own_shape h.row
  obtain ⟨w0, hw0⟩ : ∃ w0, w0 = w.alloc (.cells (tC l) 42) := ⟨_, rfl⟩
  have hb0 : Below w.heap.size w w0 := by rw [hw0]; exact below_new _ _
  have HT : Hid (TB base w0 b mb n (.slice a M.length cap) M D) := h.below hb0
  have HL : Hid (w0.heap[w.heap.size]? = some (.cells (tC l) 42 (0, 0))) := by show _ = _; rw [hw0]; exact heap_last _ _
  have HLC : Hid (tC l = #[.int .i64 (n : Int), .int .u64 p0, .int .u64 p1, .int .u64 p2, .int .u64 p3, .int .u64 p4, .int .u64 p5, .int .u64 p6]) := hcs
  have HB : Hid (Below w.heap.size w w0) := hb0
  rw [hcs] at HCK HL hkey hw0
  rw [hcs]
  have HW : Hid (w0 = w.alloc (.cells #[.int .i64 (n : Int), .int .u64 p0, .int .u64 p1, .int .u64 p2, .int .u64 p3, .int .u64 p4, .int .u64 p5, .int .u64 p6] 42)) := hw0
  have hLlt : w.heap.size < w0.heap.size := (Array.getElem?_eq_some_iff.1 HL.out).1
  have hblt : b < w0.heap.size := (Array.getElem?_eq_some_iff.1 HT.out.box).1
  have HTF : Hid (Tf l ∧ l.length = n) := ⟨hl, hn⟩
  have HT0 : Hid (TB base w b mb n (.slice a M.length cap) M D) := h
  have HSK : Hid (∀ y z, ((∀ o, y.cell? ⟨w.heap.size, o, none⟩ = (#[.int .i64 (n : Int), .int .u64 p0, .int .u64 p1, .int .u64 p2, .int .u64 p3, .int .u64 p4, .int .u64 p5, .int .u64 p6] : Array Value)[o]?) ∧ y.cell? ⟨b, 1, none⟩ = some (.int .i64 (n : Int)) ∧ Below w0.heap.size w0 y) → Below y.heap.size y z → ((∀ o, z.cell? ⟨w.heap.size, o, none⟩ = (#[.int .i64 (n : Int), .int .u64 p0, .int .u64 p1, .int .u64 p2, .int .u64 p3, .int .u64 p4, .int .u64 p5, .int .u64 p6] : Array Value)[o]?) ∧ z.cell? ⟨b, 1, none⟩ = some (.int .i64 (n : Int)) ∧ Below w0.heap.size w0 z)) := fun y z hy hz => by
    have h3 := hy.2.2.size
    exact ⟨fun o => by rw [below_cellJ hz (by omega)]; exact hy.1 o, by rw [below_cellJ hz (by omega)]; exact hy.2.1, go_on hy.2.2 hz⟩
  have S0 : ((∀ o, w0.drew.cell? ⟨w.heap.size, o, none⟩ = (#[.int .i64 (n : Int), .int .u64 p0, .int .u64 p1, .int .u64 p2, .int .u64 p3, .int .u64 p4, .int .u64 p5, .int .u64 p6] : Array Value)[o]?) ∧ w0.drew.cell? ⟨b, 1, none⟩ = some (.int .i64 (n : Int)) ∧ Below w0.heap.size w0 w0.drew) := ⟨fun o => cell_of_row _ _ _ _ _ _ HL.out, cell_at HT.out.box rfl, (Below.refl _ _).drew⟩
  clear h hw0 hb0 hl hn hcs
  go_enter Try.func70, Try.ntmps70
  go_wp2_with fail
  rw [← HW.out]
  refine (tmade_any HT.out).mono ?_
  rintro e w1 ⟨rfl, rfl⟩
  go_wp2_with fail
  go_region_held3 (fun y => ((∀ o, y.cell? ⟨w.heap.size, o, none⟩ = (#[.int .i64 (n : Int), .int .u64 p0, .int .u64 p1, .int .u64 p2, .int .u64 p3, .int .u64 p4, .int .u64 p5, .int .u64 p6] : Array Value)[o]?) ∧ y.cell? ⟨b, 1, none⟩ = some (.int .i64 (n : Int)) ∧ Below w0.heap.size w0 y)) (first | exact S0 | assumption | exact HSK.out _ _ (by assumption) (by assumption)) (first | (refine (HCK.out _).mono ?_; rintro e y1 ⟨rfl, hy1⟩))
  have HB1 : Hid (Below w0.heap.size w0 y1) := (show ((∀ o, y1.cell? ⟨w.heap.size, o, none⟩ = (#[.int .i64 (n : Int), .int .u64 p0, .int .u64 p1, .int .u64 p2, .int .u64 p3, .int .u64 p4, .int .u64 p5, .int .u64 p6] : Array Value)[o]?) ∧ y1.cell? ⟨b, 1, none⟩ = some (.int .i64 (n : Int)) ∧ Below w0.heap.size w0 y1) by assumption).2.2
  have HT1 : Hid (TB base y1 b mb n (.slice a M.length cap) M D) := HT.out.below HB1.out
  have HL1 : Hid (y1.heap[w.heap.size]? = some (.cells #[.int .i64 (n : Int), .int .u64 p0, .int .u64 p1, .int .u64 p2, .int .u64 p3, .int .u64 p4, .int .u64 p5, .int .u64 p6] 42 (0, 0))) := (HB1.out.block _ hLlt).trans HL.out
  have HBW : Hid (Below w.heap.size w y1) := HB.out.trans (HB1.out.mono (Nat.le_of_lt hLlt))
  clear HB1 HT HL HB HW HSK S0 HCK
  have d0 : y1.drew.cell? ⟨w.heap.size, 0, none⟩ = some (.int .i64 (n : Int)) := cell_at HL1.out rfl
  have d1 : y1.drew.cell? ⟨w.heap.size, 1, none⟩ = some (.int .u64 p0) := cell_at HL1.out rfl
  have d2 : y1.drew.cell? ⟨w.heap.size, 2, none⟩ = some (.int .u64 p1) := cell_at HL1.out rfl
  have d3 : y1.drew.cell? ⟨w.heap.size, 3, none⟩ = some (.int .u64 p2) := cell_at HL1.out rfl
  have d4 : y1.drew.cell? ⟨w.heap.size, 4, none⟩ = some (.int .u64 p3) := cell_at HL1.out rfl
  have d5 : y1.drew.cell? ⟨w.heap.size, 5, none⟩ = some (.int .u64 p4) := cell_at HL1.out rfl
  have d6 : y1.drew.cell? ⟨w.heap.size, 6, none⟩ = some (.int .u64 p5) := cell_at HL1.out rfl
  have d7 : y1.drew.cell? ⟨w.heap.size, 7, none⟩ = some (.int .u64 p6) := cell_at HL1.out rfl
  have t2 : y1.drew.cell? ⟨b, 2, none⟩ = some (.map (some mb)) := cell_at HT1.out.box rfl
  have hhas : Maps.has D (klT l) = false := by rw [hhas]; exact decide_eq_false hm
  have hnum2 : D.atKey (klT l) (.lit (.int .i64 0)) = .lit (.int .i64 0) := atKey_of_not_has hhas _
  have hlk : (Instr.lookup 98 (.map (some mb)) (.agg #[.int .i64 (n : Int), .int .u64 p0, .int .u64 p1, .int .u64 p2, .int .u64 p3, .int .u64 p4, .int .u64 p5, .int .u64 p6]) true).run Try.prog y1.drew = .ok (.tuple #[.int .i64 0, .bool false]) y1.drew := by
    obtain ⟨v, ps, h1, h2⟩ := HT1.out.mp.drew.look_ok keyT Try.und_mapT (Try.zero_int _) (plainElem_int Try.und_int (by decide)) hkey
    rw [hnum2] at h2
    obtain ⟨c, rfl, h3, _⟩ := plainElem_int_inv Try.und_int h2
    simp only [Prod.mk.injEq, DataW.lit.injEq, Lit.int.injEq, true_and] at h3
    obtain ⟨h3, _⟩ := h3
    rw [h1, hhas, h3]
  clear hhas hnum hnum2
  go_wp2_with fail
  go_region
  clear hlk
  have t3 : y1.drew.cell? ⟨b, 3, none⟩ = some (.slice a M.length cap) := cell_at HT1.out.box rfl
  have hI : (512 : Int) ≤ M.length := by omega
  clear hm hkey
  go_wp2_with fail
  go_ret3
  exact ⟨rfl, HBW.out.drew⟩

set_option maxHeartbeats 4000000 in
set_option maxRecDepth 100000 in
theorem tput_new {base : Nat} {w : World} {b mb n : Nat} {vl : Value} {M : List (List Nat)} {D : DataW Unit} (h : TB base w b mb n vl M D) {l : List Nat} (hl : Tf l) (hn : l.length = n) (hm : l ∉ M) (hf : M.length < 512) :
    Calls Try.prog 70 #[.pointer (some ⟨b, 0, none⟩), .agg (tC l)] w (PtN base b mb n vl M D l w) := by
  have HCK : Hid (∀ y, Calls Try.prog 75 #[.agg (tC l)] y fun e w' => e = .returned (.int .i64 0) ∧ Below y.heap.size y w') := fun y => tcheck_ok l hl y
  obtain ⟨p0, p1, p2, p3, p4, p5, p6, hcs⟩ : ∃ p0 p1 p2 p3 p4 p5 p6 : Int, tC l = #[.int .i64 (n : Int), .int .u64 p0, .int .u64 p1, .int .u64 p2, .int .u64 p3, .int .u64 p4, .int .u64 p5, .int .u64 p6] := ⟨_, _, _, _, _, _, _, by subst hn; rfl⟩
  have hkey := klT_of hl
  have hhas := h.mi.has l hl
  have hnum := h.mi.num l hl
  obtain ⟨a, cap, rfl⟩ := own_shape h.row
  obtain ⟨w0, hw0⟩ : ∃ w0, w0 = w.alloc (.cells (tC l) 42) := ⟨_, rfl⟩
  have hb0 : Below w.heap.size w w0 := by rw [hw0]; exact below_new _ _
  have HT : Hid (TB base w0 b mb n (.slice a M.length cap) M D) := h.below hb0
  have HL : Hid (w0.heap[w.heap.size]? = some (.cells (tC l) 42 (0, 0))) := by show _ = _; rw [hw0]; exact heap_last _ _
  have HLC : Hid (tC l = #[.int .i64 (n : Int), .int .u64 p0, .int .u64 p1, .int .u64 p2, .int .u64 p3, .int .u64 p4, .int .u64 p5, .int .u64 p6]) := hcs
  have HB : Hid (Below w.heap.size w w0) := hb0
  rw [hcs] at HCK HL hkey hw0
  rw [hcs]
  have HW : Hid (w0 = w.alloc (.cells #[.int .i64 (n : Int), .int .u64 p0, .int .u64 p1, .int .u64 p2, .int .u64 p3, .int .u64 p4, .int .u64 p5, .int .u64 p6] 42)) := hw0
  have hLlt : w.heap.size < w0.heap.size := (Array.getElem?_eq_some_iff.1 HL.out).1
  have hblt : b < w0.heap.size := (Array.getElem?_eq_some_iff.1 HT.out.box).1
  have HTF : Hid (Tf l ∧ l.length = n) := ⟨hl, hn⟩
  have HT0 : Hid (TB base w b mb n (.slice a M.length cap) M D) := h
  have HSK : Hid (∀ y z, ((∀ o, y.cell? ⟨w.heap.size, o, none⟩ = (#[.int .i64 (n : Int), .int .u64 p0, .int .u64 p1, .int .u64 p2, .int .u64 p3, .int .u64 p4, .int .u64 p5, .int .u64 p6] : Array Value)[o]?) ∧ y.cell? ⟨b, 1, none⟩ = some (.int .i64 (n : Int)) ∧ Below w0.heap.size w0 y) → Below y.heap.size y z → ((∀ o, z.cell? ⟨w.heap.size, o, none⟩ = (#[.int .i64 (n : Int), .int .u64 p0, .int .u64 p1, .int .u64 p2, .int .u64 p3, .int .u64 p4, .int .u64 p5, .int .u64 p6] : Array Value)[o]?) ∧ z.cell? ⟨b, 1, none⟩ = some (.int .i64 (n : Int)) ∧ Below w0.heap.size w0 z)) := fun y z hy hz => by
    have h3 := hy.2.2.size
    exact ⟨fun o => by rw [below_cellJ hz (by omega)]; exact hy.1 o, by rw [below_cellJ hz (by omega)]; exact hy.2.1, go_on hy.2.2 hz⟩
  have S0 : ((∀ o, w0.drew.cell? ⟨w.heap.size, o, none⟩ = (#[.int .i64 (n : Int), .int .u64 p0, .int .u64 p1, .int .u64 p2, .int .u64 p3, .int .u64 p4, .int .u64 p5, .int .u64 p6] : Array Value)[o]?) ∧ w0.drew.cell? ⟨b, 1, none⟩ = some (.int .i64 (n : Int)) ∧ Below w0.heap.size w0 w0.drew) := ⟨fun o => cell_of_row _ _ _ _ _ _ HL.out, cell_at HT.out.box rfl, (Below.refl _ _).drew⟩
  clear h hw0 hb0 hl hn hcs
  go_enter Try.func70, Try.ntmps70
  go_wp2_with fail
  rw [← HW.out]
  refine (tmade_any HT.out).mono ?_
  rintro e w1 ⟨rfl, rfl⟩
  go_wp2_with fail
  go_region_held3 (fun y => ((∀ o, y.cell? ⟨w.heap.size, o, none⟩ = (#[.int .i64 (n : Int), .int .u64 p0, .int .u64 p1, .int .u64 p2, .int .u64 p3, .int .u64 p4, .int .u64 p5, .int .u64 p6] : Array Value)[o]?) ∧ y.cell? ⟨b, 1, none⟩ = some (.int .i64 (n : Int)) ∧ Below w0.heap.size w0 y)) (first | exact S0 | assumption | exact HSK.out _ _ (by assumption) (by assumption)) (first | (refine (HCK.out _).mono ?_; rintro e y1 ⟨rfl, hy1⟩))
  have HB1 : Hid (Below w0.heap.size w0 y1) := (show ((∀ o, y1.cell? ⟨w.heap.size, o, none⟩ = (#[.int .i64 (n : Int), .int .u64 p0, .int .u64 p1, .int .u64 p2, .int .u64 p3, .int .u64 p4, .int .u64 p5, .int .u64 p6] : Array Value)[o]?) ∧ y1.cell? ⟨b, 1, none⟩ = some (.int .i64 (n : Int)) ∧ Below w0.heap.size w0 y1) by assumption).2.2
  have HT1 : Hid (TB base y1 b mb n (.slice a M.length cap) M D) := HT.out.below HB1.out
  have HL1 : Hid (y1.heap[w.heap.size]? = some (.cells #[.int .i64 (n : Int), .int .u64 p0, .int .u64 p1, .int .u64 p2, .int .u64 p3, .int .u64 p4, .int .u64 p5, .int .u64 p6] 42 (0, 0))) := (HB1.out.block _ hLlt).trans HL.out
  have HBW : Hid (Below w.heap.size w y1) := HB.out.trans (HB1.out.mono (Nat.le_of_lt hLlt))
  clear HB1 HT HL HB HW HSK S0 HCK
  have d0 : y1.drew.cell? ⟨w.heap.size, 0, none⟩ = some (.int .i64 (n : Int)) := cell_at HL1.out rfl
  have d1 : y1.drew.cell? ⟨w.heap.size, 1, none⟩ = some (.int .u64 p0) := cell_at HL1.out rfl
  have d2 : y1.drew.cell? ⟨w.heap.size, 2, none⟩ = some (.int .u64 p1) := cell_at HL1.out rfl
  have d3 : y1.drew.cell? ⟨w.heap.size, 3, none⟩ = some (.int .u64 p2) := cell_at HL1.out rfl
  have d4 : y1.drew.cell? ⟨w.heap.size, 4, none⟩ = some (.int .u64 p3) := cell_at HL1.out rfl
  have d5 : y1.drew.cell? ⟨w.heap.size, 5, none⟩ = some (.int .u64 p4) := cell_at HL1.out rfl
  have d6 : y1.drew.cell? ⟨w.heap.size, 6, none⟩ = some (.int .u64 p5) := cell_at HL1.out rfl
  have d7 : y1.drew.cell? ⟨w.heap.size, 7, none⟩ = some (.int .u64 p6) := cell_at HL1.out rfl
  have t2 : y1.drew.cell? ⟨b, 2, none⟩ = some (.map (some mb)) := cell_at HT1.out.box rfl
  have hhas : Maps.has D (klT l) = false := by rw [hhas]; exact decide_eq_false hm
  have hnum2 : D.atKey (klT l) (.lit (.int .i64 0)) = .lit (.int .i64 0) := atKey_of_not_has hhas _
  have hlk : (Instr.lookup 98 (.map (some mb)) (.agg #[.int .i64 (n : Int), .int .u64 p0, .int .u64 p1, .int .u64 p2, .int .u64 p3, .int .u64 p4, .int .u64 p5, .int .u64 p6]) true).run Try.prog y1.drew = .ok (.tuple #[.int .i64 0, .bool false]) y1.drew := by
    obtain ⟨v, ps, h1, h2⟩ := HT1.out.mp.drew.look_ok keyT Try.und_mapT (Try.zero_int _) (plainElem_int Try.und_int (by decide)) hkey
    rw [hnum2] at h2
    obtain ⟨c, rfl, h3, _⟩ := plainElem_int_inv Try.und_int h2
    simp only [Prod.mk.injEq, DataW.lit.injEq, Lit.int.injEq, true_and] at h3
    obtain ⟨h3, _⟩ := h3
    rw [h1, hhas, h3]
  clear hhas hnum hnum2
  go_wp2_with fail
  go_region
  clear hlk
  have t3 : y1.drew.cell? ⟨b, 3, none⟩ = some (.slice a M.length cap) := cell_at HT1.out.box rfl
  have hI : ¬ (512 : Int) ≤ M.length := by omega
  go_wp2_with fail
  clear t2 t3 d0 d1 d2 d3 d4 d5 d6 d7
  obtain ⟨y2, hy2⟩ : ∃ y2, y2 = y1.drew := ⟨_, rfl⟩
  rw [← hy2]
  have HT2 : Hid (TB base y2 b mb n (.slice a M.length cap) M D) := by rw [hy2]; exact HT1.out.below (Below.refl _ _).drew
  have HL2 : Hid (y2.heap[w.heap.size]? = some (.cells #[.int .i64 (n : Int), .int .u64 p0, .int .u64 p1, .int .u64 p2, .int .u64 p3, .int .u64 p4, .int .u64 p5, .int .u64 p6] 42 (0, 0))) := by rw [hy2]; exact HL1.out
  have HB2 : Hid (Below w.heap.size w y2) := by rw [hy2]; exact HBW.out.drew
  clear HT1 HL1 HBW hy2 hLlt hblt
  have d0 : y2.drew.cell? ⟨w.heap.size, 0, none⟩ = some (.int .i64 (n : Int)) := cell_at HL2.out rfl
  have d1 : y2.drew.cell? ⟨w.heap.size, 1, none⟩ = some (.int .u64 p0) := cell_at HL2.out rfl
  have d2 : y2.drew.cell? ⟨w.heap.size, 2, none⟩ = some (.int .u64 p1) := cell_at HL2.out rfl
  have d3 : y2.drew.cell? ⟨w.heap.size, 3, none⟩ = some (.int .u64 p2) := cell_at HL2.out rfl
  have d4 : y2.drew.cell? ⟨w.heap.size, 4, none⟩ = some (.int .u64 p3) := cell_at HL2.out rfl
  have d5 : y2.drew.cell? ⟨w.heap.size, 5, none⟩ = some (.int .u64 p4) := cell_at HL2.out rfl
  have d6 : y2.drew.cell? ⟨w.heap.size, 6, none⟩ = some (.int .u64 p5) := cell_at HL2.out rfl
  have d7 : y2.drew.cell? ⟨w.heap.size, 7, none⟩ = some (.int .u64 p6) := cell_at HL2.out rfl
  have t2 : y2.drew.cell? ⟨b, 2, none⟩ = some (.map (some mb)) := cell_at HT2.out.box rfl
  obtain ⟨w5, hmu, hmo, hmg⟩ := HT2.out.mp.drew.update keyT Try.und_mapT (by unfold maxLen; omega) hkey (plainElem_int Try.und_int (a := (M.length : Int)) (wfNm (by omega)))
  have HMO : Hid (w5.ownsMap Try.prog 42 (plainElem Try.prog 3) mb (M.length + 1) (D.put (klT l) (.lit (.int .i64 (M.length : Nat))))) := hmo
  have HMG : Hid (y2.drew.grownBy w5 (some mb)) := hmg
  clear hmo hmg hkey
  go_region
  clear hmu t2 d0 d1 d2 d3 d4 d5 d6 d7
  obtain ⟨i0, hi, hz0, hz1, hz2⟩ := info_parts Try.info_trL
  have hml : M.length < 512 := hf
  have hs5 : y2.heap.size ≤ w5.heap.size := (Only.grown (S := fun _ => True) HMG.out (fun _ _ => trivial)).size
  have hbl : b < y2.heap.size := (Array.getElem?_eq_some_iff.1 HT2.out.box).1
  have hwl : w.heap.size < y2.heap.size := (Array.getElem?_eq_some_iff.1 HL2.out).1
  have HL5 : Hid (w5.heap[w.heap.size]? = some (.cells #[.int .i64 (n : Int), .int .u64 p0, .int .u64 p1, .int .u64 p2, .int .u64 p3, .int .u64 p4, .int .u64 p5, .int .u64 p6] 42 (0, 0))) := by
    obtain ⟨es, ck, hmb⟩ := map_blk HT2.out.mp
    exact (HMG.out.block _ hwl (fun e => by simp only [Option.some.injEq] at e; have := HL2.out; rw [e, hmb] at this; cases this)).trans HL2.out
  have HX5 : Hid (w5.heap[b]? = some (.cells #[.pointer (some ⟨b, 0, none⟩), .int .i64 n, .map (some mb), .slice a M.length cap] 101 (0, 0))) := by
    obtain ⟨es, ck, hmb⟩ := map_blk HT2.out.mp
    exact (HMG.out.block _ hbl (fun e => by simp only [Option.some.injEq] at e; have := HT2.out.box; rw [e, hmb] at this; cases this)).trans HT2.out.box
  have HR5 : Hid (∀ O, (w5.alloc O).drew.ownsRow base 42 8 (.slice a M.length cap) M.length (tCs M)) := fun O => by
    obtain ⟨es, ck, hmb⟩ := map_blk HT2.out.mp
    have : w5.ownsRow base 42 8 (.slice a M.length cap) M.length (tCs M) := own_keep HT2.out.row (fun j cur hj hc => HMG.out.block j (Array.getElem?_eq_some_iff.1 hc).1 (fun e => by simp only [Option.some.injEq] at e; rw [e, hmb] at hc; cases hc))
    exact this.alloc O
  have d0 : w5.drew.cell? ⟨w.heap.size, 0, none⟩ = some (.int .i64 (n : Int)) := cell_at HL5.out rfl
  have d1 : w5.drew.cell? ⟨w.heap.size, 1, none⟩ = some (.int .u64 p0) := cell_at HL5.out rfl
  have d2 : w5.drew.cell? ⟨w.heap.size, 2, none⟩ = some (.int .u64 p1) := cell_at HL5.out rfl
  have d3 : w5.drew.cell? ⟨w.heap.size, 3, none⟩ = some (.int .u64 p2) := cell_at HL5.out rfl
  have d4 : w5.drew.cell? ⟨w.heap.size, 4, none⟩ = some (.int .u64 p3) := cell_at HL5.out rfl
  have d5 : w5.drew.cell? ⟨w.heap.size, 5, none⟩ = some (.int .u64 p4) := cell_at HL5.out rfl
  have d6 : w5.drew.cell? ⟨w.heap.size, 6, none⟩ = some (.int .u64 p5) := cell_at HL5.out rfl
  have d7 : w5.drew.cell? ⟨w.heap.size, 7, none⟩ = some (.int .u64 p6) := cell_at HL5.out rfl
  have t3 : w5.drew.cell? ⟨b, 3, none⟩ = some (.slice a M.length cap) := cell_at HX5.out rfl
  have t3a : ∀ O, (w5.alloc O).drew.cell? ⟨b, 3, none⟩ = some (.slice a M.length cap) := fun O => by have := below_cellJ (o := 3) (below_new w5 O) (Array.getElem?_eq_some_iff.1 HX5.out).1; exact this.trans t3
  have KN : Hid (∀ (j : Nat) (u : Value), (tC l).toList[j]? = some u → (w5.alloc (.cells #[.int .i64 (n : Int), .int .u64 p0, .int .u64 p1, .int .u64 p2, .int .u64 p3, .int .u64 p4, .int .u64 p5, .int .u64 p6] 42)).drew.cell? ((⟨w5.heap.size, 0, none⟩ : Addr).add j) = some u) := fun j u hu => by
    have hadd : (⟨w5.heap.size, 0, none⟩ : Addr).add j = ⟨w5.heap.size, j, none⟩ := by unfold Addr.add; split <;> simp_all
    rw [hadd]
    refine cell_at (heap_last w5 _) ?_
    rw [HLC.out] at hu
    simpa using hu
  have hb5 : base ≤ w5.heap.size := by have := HT2.out.lob; omega
  have HMO5 : Hid (w5.drew.ownsMap Try.prog 42 (plainElem Try.prog 3) mb (M.length + 1) (D.put (klT l) (.lit (.int .i64 (M.length : Nat))))) := HMO.out.drew
  have HMG5 : Hid (y2.drew.grownBy w5.drew (some mb)) := grown_drew HMG.out
  have HNW : Hid (∀ (g7 c7 : Nat) (w7 : World) (o : Obj), w7.ownsRow base 42 8 (.slice (some ⟨g7, 0, none⟩) (M.length + 1) c7) (M.length + 1) (tCs M ++ (tC l).toList) → (w5.drew.alloc o).grownBy w7 (Value.slice a M.length cap).ownBlock → _) := fun g7 c7 w7 o ho hg => (HT2.out.below (Below.refl _ _).drew).new HTF.out.1 HTF.out.2 hm hf HMO5.out HMG5.out ho hg
  have HDR : Hid (∀ o, (w5.drew.alloc o).heap.size = w5.heap.size + 1) := fun o => by simp
  clear HL5 hI
  go_wp2_with fail
  go_region_law (rw [if_pos (by rfl)]; refine wp_append_lies _ _ _ 99 rfl base 42 i0 (.agg (trC 0 fun _ => 0)) 8 64 Try.underlying99 hi hz0 hz1 hz2 rfl (by decide) _ _ _ rfl (HR5.out _) ⟨w5.heap.size, 0, none⟩ 1 1 (tC l).toList rfl rfl KN.out (by intro u hu; exact (Array.all_eq_true_iff_forall_mem.1 (tC_one l)) u (by simpa using hu)) (by decide) (by unfold maxLen; omega) (by omega) (by simp; omega) (w5.drew.alloc (.cells #[.int .i64 (n : Int), .int .u64 p0, .int .u64 p1, .int .u64 p2, .int .u64 p3, .int .u64 p4, .int .u64 p5, .int .u64 p6] 42)).heap.size rfl ?_; intro g7 c7 w7 ho7 hg7 hl7 _; have hgr : (w5.drew.alloc (.cells #[.int .i64 (n : Int), .int .u64 p0, .int .u64 p1, .int .u64 p2, .int .u64 p3, .int .u64 p4, .int .u64 p5, .int .u64 p6] 42)).grownBy w7 (Value.slice a M.length cap).ownBlock := hg7; have hN7 := HNW.out g7 c7 w7 (.cells #[.int .i64 (n : Int), .int .u64 p0, .int .u64 p1, .int .u64 p2, .int .u64 p3, .int .u64 p4, .int .u64 p5, .int .u64 p6] 42) ho7 hgr; have hcs : w7.cell? ⟨b, 3, none⟩ = some (.slice a M.length cap) := cell_at hN7.1 rfl; have hfz : w7.frozen? ⟨b, 3, none⟩ = false := frozen_blk hN7.1 3; have HN7 : Hid _ := hN7.2; have HL7 : Hid ((Value.slice a M.length cap).ownBlock = some g7 ∨ g7 = w5.heap.size + 1) := (by rcases hl7 with q | q; exact .inl q; exact .inr (q.trans (HDR.out _))); clear hN7 ho7 hg7 hl7 hgr)
  all_goals (
    go_wp2_with fail
    go_ret3
    refine ⟨_, rfl, HN7.out.1, (Only.of HB2.out.drew).trans HN7.out.2, ?_⟩
    rcases HL7.out with q | q
    · exact .inl q.symm
    · exact .inr ⟨g7, rfl, by have := HB2.out.size; omega⟩)
end Go.Proofs.Ytabkhoiccjkghaa
