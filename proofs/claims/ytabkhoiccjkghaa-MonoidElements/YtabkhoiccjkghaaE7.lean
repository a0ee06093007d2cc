/- monoid: finding.put. -/
import Derived.Test.YtabkhoiccjkghaaE6
namespace Go.Proofs.Ytabkhoiccjkghaa
open Go Go.RowKit Go.Lib Go.Maps
set_option linter.unusedVariables false
attribute [-instance] List.instBEq instBEqProd

theorem hid_at {α : Type} {p q : α → Prop} (h : Hid (∀ z, p z → q z)) (z : α) (hz : p z) : Hid (q z) := h.out z hz
theorem Try.info_way : (Try.prog.info? 110).map (fun i => (i.zero, i.size, i.bytes)) = some (some (.agg #[.int .i64 0, .int .i64 0]), 2, 16) := by kernel_rfl
/-- What put of a new element leaves. -/
def FpN (base fb b mb K n : Nat) (vl vw vr : Value) (M : List (List Nat)) (W : List (Nat × Nat)) (N : List Nat) (D : DataW Unit) (l : List Nat) (x y : Nat) (w : World) (e : Ending) (w' : World) : Prop := ∃ vl' vw', e = .returned (.tuple #[.int .i64 (M.length : Nat), .bool true]) ∧ FN base w' fb b mb K n vl' vw' vr (M ++ [l]) (W ++ [(x, y)]) N (D.put (klT l) (.lit (.int .i64 (M.length : Nat)))) ∧ Fr (FS fb b mb vl vw vr) w (FS fb b mb vl' vw' vr) w'

set_option maxHeartbeats 4000000 in
set_option maxRecDepth 100000 in
theorem fput_old {base : Nat} {w : World} {fb b mb K n : Nat} {vl vw vr : Value} {M : List (List Nat)} {W : List (Nat × Nat)} {N : List Nat} {D : DataW Unit} (h : FN base w fb b mb K n vl vw vr M W N D) {l : List Nat} (hl : Tf l) (hn : l.length = n) (x y : Nat) (hm : l ∈ M) {p : Nat} (hp : M.idxOf l = p) :
    Calls Try.prog 57 #[.pointer (some ⟨fb, 0, none⟩), .agg (tC l), .agg #[.int .i64 (x : Int), .int .i64 (y : Int)]] w fun e w' => e = .returned (.tuple #[.int .i64 (p : Nat), .bool true]) ∧ Below w.heap.size w w' := by
  have HPT : Hid (∀ z, TB base z b mb n vl M D → Calls Try.prog 70 #[.pointer (some ⟨b, 0, none⟩), .agg (tC l)] z fun e w' => e = .returned (.tuple #[.int .i64 (p : Nat), .bool false, .int .i64 0]) ∧ Below z.heap.size z w') := fun z hz => tput_old hz hl hn hm hp
  obtain ⟨p0, p1, p2, p3, p4, p5, p6, hcs⟩ : ∃ p0 p1 p2 p3 p4 p5 p6 : Int, tC l = #[.int .i64 (n : Int), .int .u64 p0, .int .u64 p1, .int .u64 p2, .int .u64 p3, .int .u64 p4, .int .u64 p5, .int .u64 p6] := ⟨_, _, _, _, _, _, _, by subst hn; rfl⟩
  obtain ⟨wa, wc, rfl⟩ := own_shape h.ways
  obtain ⟨w0, hw0⟩ : ∃ w0, w0 = (w.alloc (.cells (tC l) 42)).alloc (.cells #[.int .i64 (x : Int), .int .i64 (y : Int)] 110) := ⟨_, rfl⟩
  have hb0 : Below w.heap.size w w0 := by rw [hw0]; exact go_on (below_new _ _) (below_new _ _)
  have HT : Hid (FN base w0 fb b mb K n vl (.slice wa W.length wc) vr M W N D) := h.below hb0
  have HL : Hid (w0.heap[w.heap.size]? = some (.cells (tC l) 42 (0, 0))) := by show _ = _; rw [hw0, heap_allo (by simp)]; exact heap_last _ _
  have HY : Hid (w0.heap[w.heap.size + 1]? = some (.cells #[.int .i64 (x : Int), .int .i64 (y : Int)] 110 (0, 0))) := by
    show _ = _
    have := heap_last (w.alloc (.cells (tC l) 42)) (.cells #[.int .i64 (x : Int), .int .i64 (y : Int)] 110)
    rw [World.size_alloc] at this
    rw [hw0]; exact this
  have HB : Hid (Below w.heap.size w w0) := hb0
  rw [hcs] at HPT HL hw0
  rw [hcs]
  have HW : Hid (w0 = (w.alloc (.cells #[.int .i64 (n : Int), .int .u64 p0, .int .u64 p1, .int .u64 p2, .int .u64 p3, .int .u64 p4, .int .u64 p5, .int .u64 p6] 42)).alloc (.cells #[.int .i64 (x : Int), .int .i64 (y : Int)] 110)) := hw0
  have hLlt : w.heap.size < w0.heap.size := (Array.getElem?_eq_some_iff.1 HL.out).1
  have hblt : fb < w0.heap.size := (Array.getElem?_eq_some_iff.1 HT.out.box).1
  have HT0 : Hid (FN base w fb b mb K n vl (.slice wa W.length wc) vr M W N D) := h
  have S0 : ((∀ o, w0.drew.cell? ⟨w.heap.size, o, none⟩ = (#[.int .i64 (n : Int), .int .u64 p0, .int .u64 p1, .int .u64 p2, .int .u64 p3, .int .u64 p4, .int .u64 p5, .int .u64 p6] : Array Value)[o]?) ∧ w0.drew.cell? ⟨fb, 1, none⟩ = some (.pointer (some ⟨b, 0, none⟩))) := ⟨fun o => cell_of_row _ _ _ _ _ _ HL.out, cell_at HT.out.box rfl⟩
  have HPT2 := hid_at HPT w0.drew (HT.out.tb.below (Below.refl _ _).drew)
  clear h hw0 hb0 hl hn hcs
  go_enter Try.func57, Try.ntmps57
  go_wp2_with fail
  rw [← HW.out]
  have HSK : Hid (∀ z z' : World, ((∀ o, z.cell? ⟨w.heap.size, o, none⟩ = (#[.int .i64 (n : Int), .int .u64 p0, .int .u64 p1, .int .u64 p2, .int .u64 p3, .int .u64 p4, .int .u64 p5, .int .u64 p6] : Array Value)[o]?) ∧ z.cell? ⟨fb, 1, none⟩ = some (.pointer (some ⟨b, 0, none⟩))) → Below w0.drew.heap.size w0.drew z' → ((∀ o, z'.cell? ⟨w.heap.size, o, none⟩ = (#[.int .i64 (n : Int), .int .u64 p0, .int .u64 p1, .int .u64 p2, .int .u64 p3, .int .u64 p4, .int .u64 p5, .int .u64 p6] : Array Value)[o]?) ∧ z'.cell? ⟨fb, 1, none⟩ = some (.pointer (some ⟨b, 0, none⟩)))) := fun z z' hz hz' => by
    exact ⟨fun o => by rw [below_cellJ hz' (by simpa using hLlt)]; exact S0.1 o, by rw [below_cellJ hz' (by simpa using hblt)]; exact S0.2⟩
  go_region_held3 (fun z => ((∀ o, z.cell? ⟨w.heap.size, o, none⟩ = (#[.int .i64 (n : Int), .int .u64 p0, .int .u64 p1, .int .u64 p2, .int .u64 p3, .int .u64 p4, .int .u64 p5, .int .u64 p6] : Array Value)[o]?) ∧ z.cell? ⟨fb, 1, none⟩ = some (.pointer (some ⟨b, 0, none⟩)))) (first | exact S0 | assumption | exact HSK.out _ _ (by assumption) (by assumption)) (first | (go_at_call 70; refine HPT2.out.mono ?_; rintro e y1 ⟨rfl, hy1⟩))
  have HBW : Hid (Below w.heap.size w y1) := go_on HB.out (go_on (Below.refl _ _).drew hy1)
  clear hy1
  go_wp2_with fail
  go_ret2
  exact ⟨rfl, HBW.out⟩

set_option maxHeartbeats 4000000 in
set_option maxRecDepth 100000 in
theorem fput_full {base : Nat} {w : World} {fb b mb K n : Nat} {vl vw vr : Value} {M : List (List Nat)} {W : List (Nat × Nat)} {N : List Nat} {D : DataW Unit} (h : FN base w fb b mb K n vl vw vr M W N D) {l : List Nat} (hl : Tf l) (hn : l.length = n) (x y : Nat) (hm : l ∉ M) (hf : 512 ≤ M.length) :
    Calls Try.prog 57 #[.pointer (some ⟨fb, 0, none⟩), .agg (tC l), .agg #[.int .i64 (x : Int), .int .i64 (y : Int)]] w fun e w' => e = .returned (.tuple #[.int .i64 0, .bool false]) ∧ Below w.heap.size w w' := by
  have HPT : Hid (∀ z, TB base z b mb n vl M D → Calls Try.prog 70 #[.pointer (some ⟨b, 0, none⟩), .agg (tC l)] z fun e w' => e = .returned (.tuple #[.int .i64 0, .bool false, .int .i64 2]) ∧ Below z.heap.size z w') := fun z hz => tput_full hz hl hn hm hf
  obtain ⟨p0, p1, p2, p3, p4, p5, p6, hcs⟩ : ∃ p0 p1 p2 p3 p4 p5 p6 : Int, tC l = #[.int .i64 (n : Int), .int .u64 p0, .int .u64 p1, .int .u64 p2, .int .u64 p3, .int .u64 p4, .int .u64 p5, .int .u64 p6] := ⟨_, _, _, _, _, _, _, by subst hn; rfl⟩
  obtain ⟨wa, wc, rfl⟩ := own_shape h.ways
  obtain ⟨w0, hw0⟩ : ∃ w0, w0 = (w.alloc (.cells (tC l) 42)).alloc (.cells #[.int .i64 (x : Int), .int .i64 (y : Int)] 110) := ⟨_, rfl⟩
  have hb0 : Below w.heap.size w w0 := by rw [hw0]; exact go_on (below_new _ _) (below_new _ _)
  have HT : Hid (FN base w0 fb b mb K n vl (.slice wa W.length wc) vr M W N D) := h.below hb0
  have HL : Hid (w0.heap[w.heap.size]? = some (.cells (tC l) 42 (0, 0))) := by show _ = _; rw [hw0, heap_allo (by simp)]; exact heap_last _ _
  have HY : Hid (w0.heap[w.heap.size + 1]? = some (.cells #[.int .i64 (x : Int), .int .i64 (y : Int)] 110 (0, 0))) := by
    show _ = _
    have := heap_last (w.alloc (.cells (tC l) 42)) (.cells #[.int .i64 (x : Int), .int .i64 (y : Int)] 110)
    rw [World.size_alloc] at this
    rw [hw0]; exact this
  have HB : Hid (Below w.heap.size w w0) := hb0
  rw [hcs] at HPT HL hw0
  rw [hcs]
  have HW : Hid (w0 = (w.alloc (.cells #[.int .i64 (n : Int), .int .u64 p0, .int .u64 p1, .int .u64 p2, .int .u64 p3, .int .u64 p4, .int .u64 p5, .int .u64 p6] 42)).alloc (.cells #[.int .i64 (x : Int), .int .i64 (y : Int)] 110)) := hw0
  have hLlt : w.heap.size < w0.heap.size := (Array.getElem?_eq_some_iff.1 HL.out).1
  have hblt : fb < w0.heap.size := (Array.getElem?_eq_some_iff.1 HT.out.box).1
  have HT0 : Hid (FN base w fb b mb K n vl (.slice wa W.length wc) vr M W N D) := h
  have S0 : ((∀ o, w0.drew.cell? ⟨w.heap.size, o, none⟩ = (#[.int .i64 (n : Int), .int .u64 p0, .int .u64 p1, .int .u64 p2, .int .u64 p3, .int .u64 p4, .int .u64 p5, .int .u64 p6] : Array Value)[o]?) ∧ w0.drew.cell? ⟨fb, 1, none⟩ = some (.pointer (some ⟨b, 0, none⟩))) := ⟨fun o => cell_of_row _ _ _ _ _ _ HL.out, cell_at HT.out.box rfl⟩
  have HPT2 := hid_at HPT w0.drew (HT.out.tb.below (Below.refl _ _).drew)
  clear h hw0 hb0 hl hn hcs
  go_enter Try.func57, Try.ntmps57
  go_wp2_with fail
  rw [← HW.out]
  have HSK : Hid (∀ z z' : World, ((∀ o, z.cell? ⟨w.heap.size, o, none⟩ = (#[.int .i64 (n : Int), .int .u64 p0, .int .u64 p1, .int .u64 p2, .int .u64 p3, .int .u64 p4, .int .u64 p5, .int .u64 p6] : Array Value)[o]?) ∧ z.cell? ⟨fb, 1, none⟩ = some (.pointer (some ⟨b, 0, none⟩))) → Below w0.drew.heap.size w0.drew z' → ((∀ o, z'.cell? ⟨w.heap.size, o, none⟩ = (#[.int .i64 (n : Int), .int .u64 p0, .int .u64 p1, .int .u64 p2, .int .u64 p3, .int .u64 p4, .int .u64 p5, .int .u64 p6] : Array Value)[o]?) ∧ z'.cell? ⟨fb, 1, none⟩ = some (.pointer (some ⟨b, 0, none⟩)))) := fun z z' hz hz' => by
    exact ⟨fun o => by rw [below_cellJ hz' (by simpa using hLlt)]; exact S0.1 o, by rw [below_cellJ hz' (by simpa using hblt)]; exact S0.2⟩
  go_region_held3 (fun z => ((∀ o, z.cell? ⟨w.heap.size, o, none⟩ = (#[.int .i64 (n : Int), .int .u64 p0, .int .u64 p1, .int .u64 p2, .int .u64 p3, .int .u64 p4, .int .u64 p5, .int .u64 p6] : Array Value)[o]?) ∧ z.cell? ⟨fb, 1, none⟩ = some (.pointer (some ⟨b, 0, none⟩)))) (first | exact S0 | assumption | exact HSK.out _ _ (by assumption) (by assumption)) (first | (go_at_call 70; refine HPT2.out.mono ?_; rintro e y1 ⟨rfl, hy1⟩))
  have HBW : Hid (Below w.heap.size w y1) := go_on HB.out (go_on (Below.refl _ _).drew hy1)
  clear hy1
  go_wp2_with fail
  go_ret2
  exact ⟨rfl, HBW.out⟩

set_option maxHeartbeats 4000000 in
set_option maxRecDepth 100000 in
theorem fput_new {base : Nat} {w : World} {fb b mb K n : Nat} {vl vw vr : Value} {M : List (List Nat)} {W : List (Nat × Nat)} {N : List Nat} {D : DataW Unit} (h : FN base w fb b mb K n vl vw vr M W N D) {l : List Nat} (hl : Tf l) (hn : l.length = n) (x y : Nat) (hm : l ∉ M) (hf : M.length < 512) (hW : W.length ≤ 4096) :
    Calls Try.prog 57 #[.pointer (some ⟨fb, 0, none⟩), .agg (tC l), .agg #[.int .i64 (x : Int), .int .i64 (y : Int)]] w (FpN base fb b mb K n vl vw vr M W N D l x y w) := by
  have HPT : Hid (∀ z, TB base z b mb n vl M D → Calls Try.prog 70 #[.pointer (some ⟨b, 0, none⟩), .agg (tC l)] z (PtN base b mb n vl M D l z)) := fun z hz => tput_new hz hl hn hm hf
  obtain ⟨p0, p1, p2, p3, p4, p5, p6, hcs⟩ : ∃ p0 p1 p2 p3 p4 p5 p6 : Int, tC l = #[.int .i64 (n : Int), .int .u64 p0, .int .u64 p1, .int .u64 p2, .int .u64 p3, .int .u64 p4, .int .u64 p5, .int .u64 p6] := ⟨_, _, _, _, _, _, _, by subst hn; rfl⟩
  obtain ⟨wa, wc, rfl⟩ := own_shape h.ways
  obtain ⟨w0, hw0⟩ : ∃ w0, w0 = (w.alloc (.cells (tC l) 42)).alloc (.cells #[.int .i64 (x : Int), .int .i64 (y : Int)] 110) := ⟨_, rfl⟩
  have hb0 : Below w.heap.size w w0 := by rw [hw0]; exact go_on (below_new _ _) (below_new _ _)
  have HT : Hid (FN base w0 fb b mb K n vl (.slice wa W.length wc) vr M W N D) := h.below hb0
  have HL : Hid (w0.heap[w.heap.size]? = some (.cells (tC l) 42 (0, 0))) := by show _ = _; rw [hw0, heap_allo (by simp)]; exact heap_last _ _
  have HY : Hid (w0.heap[w.heap.size + 1]? = some (.cells #[.int .i64 (x : Int), .int .i64 (y : Int)] 110 (0, 0))) := by
    show _ = _
    have := heap_last (w.alloc (.cells (tC l) 42)) (.cells #[.int .i64 (x : Int), .int .i64 (y : Int)] 110)
    rw [World.size_alloc] at this
    rw [hw0]; exact this
  have HB : Hid (Below w.heap.size w w0) := hb0
  rw [hcs] at HPT HL hw0
  rw [hcs]
  have HW : Hid (w0 = (w.alloc (.cells #[.int .i64 (n : Int), .int .u64 p0, .int .u64 p1, .int .u64 p2, .int .u64 p3, .int .u64 p4, .int .u64 p5, .int .u64 p6] 42)).alloc (.cells #[.int .i64 (x : Int), .int .i64 (y : Int)] 110)) := hw0
  have hLlt : w.heap.size < w0.heap.size := (Array.getElem?_eq_some_iff.1 HL.out).1
  have hblt : fb < w0.heap.size := (Array.getElem?_eq_some_iff.1 HT.out.box).1
  have HT0 : Hid (FN base w fb b mb K n vl (.slice wa W.length wc) vr M W N D) := h
  have S0 : ((∀ o, w0.drew.cell? ⟨w.heap.size, o, none⟩ = (#[.int .i64 (n : Int), .int .u64 p0, .int .u64 p1, .int .u64 p2, .int .u64 p3, .int .u64 p4, .int .u64 p5, .int .u64 p6] : Array Value)[o]?) ∧ w0.drew.cell? ⟨fb, 1, none⟩ = some (.pointer (some ⟨b, 0, none⟩))) := ⟨fun o => cell_of_row _ _ _ _ _ _ HL.out, cell_at HT.out.box rfl⟩
  have HPT2 := hid_at HPT w0.drew (HT.out.tb.below (Below.refl _ _).drew)
  clear h hw0 hb0 hl hn hcs
  go_enter Try.func57, Try.ntmps57
  go_wp2_with fail
  rw [← HW.out]
  have hTS : ∀ j, TS b mb vl j → j < w.heap.size := fun j hj => (HT0.out.tb.ts hj).2
  have hfbW : fb < w.heap.size := (Array.getElem?_eq_some_iff.1 HT0.out.box).1
  have HSK : Hid (∀ z' : World, Only (TS b mb vl) w0.drew z' → ((∀ o, z'.cell? ⟨w.heap.size, o, none⟩ = (#[.int .i64 (n : Int), .int .u64 p0, .int .u64 p1, .int .u64 p2, .int .u64 p3, .int .u64 p4, .int .u64 p5, .int .u64 p6] : Array Value)[o]?) ∧ z'.cell? ⟨fb, 1, none⟩ = some (.pointer (some ⟨b, 0, none⟩)))) := fun z' hz' => by
    refine ⟨fun o => ?_, ?_⟩
    · rw [World.cell?_of_block (hz'.block w.heap.size hLlt (fun q => by have := hTS _ q; omega))]; exact S0.1 o
    · rw [World.cell?_of_block (hz'.block fb hblt (HT.out.tb.not_ts HT.out.box (by decide) (by decide)))]; exact S0.2
  go_region_held3 (fun z => ((∀ o, z.cell? ⟨w.heap.size, o, none⟩ = (#[.int .i64 (n : Int), .int .u64 p0, .int .u64 p1, .int .u64 p2, .int .u64 p3, .int .u64 p4, .int .u64 p5, .int .u64 p6] : Array Value)[o]?) ∧ z.cell? ⟨fb, 1, none⟩ = some (.pointer (some ⟨b, 0, none⟩)))) (first | exact S0 | assumption) (first | (go_at_call 70; refine HPT2.out.mono ?_; rintro e y1 ⟨vl', rfl, hT1, hO1, hV1⟩; have S1 : ((∀ o, y1.cell? ⟨w.heap.size, o, none⟩ = (#[.int .i64 (n : Int), .int .u64 p0, .int .u64 p1, .int .u64 p2, .int .u64 p3, .int .u64 p4, .int .u64 p5, .int .u64 p6] : Array Value)[o]?) ∧ y1.cell? ⟨fb, 1, none⟩ = some (.pointer (some ⟨b, 0, none⟩))) := HSK.out _ hO1))
  have HF1 : Hid (FN base y1 fb b mb K n vl' (.slice wa W.length wc) vr (M ++ [l]) W N (D.put (klT l) (.lit (.int .i64 (M.length : Nat))))) := (HT.out.below (Below.refl _ _).drew).table hT1 hO1
  have HFr : Hid (Fr (FS fb b mb vl (.slice wa W.length wc) vr) w (FS fb b mb vl' (.slice wa W.length wc) vr) y1) := by
    refine ⟨(Only.of (HB.out.drew)).trans (hO1.mono (fun j _ q => .inr (.inl q))), fun j hj => ?_⟩
    rcases hj with q | q | q | q
    · exact .inl (.inl q)
    · rcases q with q | q | q
      · exact .inl (.inr (.inl (.inl q)))
      · exact .inl (.inr (.inl (.inr (.inl q))))
      · rcases hV1 with e | ⟨x1, e, hx1⟩
        · exact .inl (.inr (.inl (.inr (.inr (e ▸ q)))))
        · rw [e] at q
          simp only [Option.some.injEq] at q
          refine .inr ?_
          have := HB.out.size
          have hs : w0.drew.heap.size = w0.heap.size := rfl
          omega
    · exact .inl (.inr (.inr (.inl q)))
    · exact .inl (.inr (.inr (.inr q)))
  have HY1 : Hid (y1.heap[w.heap.size + 1]? = some (.cells #[.int .i64 (x : Int), .int .i64 (y : Int)] 110 (0, 0))) := (hO1.block (w.heap.size + 1) (Array.getElem?_eq_some_iff.1 HY.out).1 (fun q => by have := hTS _ q; omega)).trans HY.out
  clear hT1 hO1 hV1 S1
  obtain ⟨i0, hi, hz0, hz1, hz2⟩ := info_parts Try.info_way
  have hwl : W.length ≤ 4096 := hW
  have HR5 : Hid (∀ O, (y1.alloc O).drew.ownsRow base 110 2 (.slice wa W.length wc) W.length (wyC W)) := fun O => HF1.out.ways.alloc O
  have d0 : y1.drew.cell? ⟨w.heap.size + 1, 0, none⟩ = some (.int .i64 (x : Int)) := cell_at HY1.out rfl
  have d1 : y1.drew.cell? ⟨w.heap.size + 1, 1, none⟩ = some (.int .i64 (y : Int)) := cell_at HY1.out rfl
  have t3 : y1.drew.cell? ⟨fb, 2, none⟩ = some (.slice wa W.length wc) := cell_at HF1.out.box rfl
  have t3a : ∀ O, (y1.alloc O).drew.cell? ⟨fb, 2, none⟩ = some (.slice wa W.length wc) := fun O => by have := below_cellJ (o := 2) (below_new y1 O) (Array.getElem?_eq_some_iff.1 HF1.out.box).1; exact this.trans t3
  have KN : Hid (∀ (j : Nat) (u : Value), ([.int .i64 (x : Int), .int .i64 (y : Int)] : List Value)[j]? = some u → (y1.alloc (.cells #[.int .i64 (x : Int), .int .i64 (y : Int)] 110)).drew.cell? ((⟨y1.heap.size, 0, none⟩ : Addr).add j) = some u) := fun j u hu => by
    have hadd : (⟨y1.heap.size, 0, none⟩ : Addr).add j = ⟨y1.heap.size, j, none⟩ := by unfold Addr.add; split <;> simp_all
    rw [hadd]
    refine cell_at (heap_last y1 _) ?_
    simpa using hu
  have hb5 : base ≤ y1.heap.size := by have := (HF1.out.fs (.inl rfl)); omega
  have HDR : Hid (∀ o, (y1.drew.alloc o).heap.size = y1.heap.size + 1) := fun o => by simp
  have HNW : Hid (∀ (g7 c7 : Nat) (w7 : World) (o : Obj), w7.ownsRow base 110 2 (.slice (some ⟨g7, 0, none⟩) (W.length + 1) c7) (W.length + 1) (wyC W ++ [.int .i64 (x : Int), .int .i64 (y : Int)]) → (y1.drew.alloc o).grownBy w7 (Value.slice wa W.length wc).ownBlock → _) := fun g7 c7 w7 o ho hg => (HF1.out.below (Below.refl _ _).drew).wayd ho hg
  have hsz1 : w.heap.size ≤ y1.heap.size := HFr.out.only.size
  clear S0
  go_wp2_with fail
  go_region_law (rw [if_pos (by rfl)]; refine wp_append_lies _ _ _ 87 rfl base 110 i0 (.agg #[.int .i64 0, .int .i64 0]) 2 16 Try.underlying87 hi hz0 hz1 hz2 rfl (by decide) _ _ _ rfl (HR5.out _) ⟨y1.heap.size, 0, none⟩ 1 1 [.int .i64 (x : Int), .int .i64 (y : Int)] rfl rfl KN.out (by intro u hu; simp at hu; rcases hu with rfl | rfl <;> rfl) (by decide) (by unfold maxLen; omega) (by omega) (by simp; omega) (y1.drew.alloc (.cells #[.int .i64 (x : Int), .int .i64 (y : Int)] 110)).heap.size rfl ?_; intro g7 c7 w7 ho7 hg7 hl7 _; have hgr : (y1.drew.alloc (.cells #[.int .i64 (x : Int), .int .i64 (y : Int)] 110)).grownBy w7 (Value.slice wa W.length wc).ownBlock := hg7; have hN7 := HNW.out g7 c7 w7 (.cells #[.int .i64 (x : Int), .int .i64 (y : Int)] 110) ho7 hgr; have hcs : w7.cell? ⟨fb, 2, none⟩ = some (.slice wa W.length wc) := cell_at hN7.1 rfl; have hfz : w7.frozen? ⟨fb, 2, none⟩ = false := frozen_blk hN7.1 2; have HN7 : Hid _ := hN7.2; have HL7 : Hid ((Value.slice wa W.length wc).ownBlock = some g7 ∨ g7 = y1.heap.size + 1) := (by rcases hl7 with q | q; exact .inl q; exact .inr (q.trans (HDR.out _))); clear hN7 ho7 hg7 hl7 hgr)
  all_goals (
    go_wp2_with fail
    go_ret2
    refine ⟨vl', _, rfl, HN7.out.1, HFr.out.trans ⟨(Only.of (Below.refl _ _).drew).trans HN7.out.2, fun j hj => ?_⟩⟩
    rcases hj with q | q | q | q
    · exact .inl (.inl q)
    · exact .inl (.inr (.inl q))
    · rcases HL7.out with r | r
      · exact .inl (.inr (.inr (.inl (r.trans q))))
      · refine .inr ?_
        simp only [Value.ownBlock, Option.some.injEq] at q
        omega
    · exact .inl (.inr (.inr (.inr q))))
end Go.Proofs.Ytabkhoiccjkghaa
