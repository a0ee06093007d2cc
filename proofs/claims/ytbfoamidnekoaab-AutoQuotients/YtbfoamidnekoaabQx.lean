/- Contracts of auto.acceptedBefore and auto.Behind. -/
import Derived.Test.YtbfoamidnekoaabQw
import Derived.Test.YtbfoamidnekoaabJn
import Derived.Deep.RegionHeld3
import Derived.Deep.DeepCutAuto
namespace Go.Proofs.Ytbfoamidnekoaab
open Go Go.RowKit Go.Lib Go.Maps
set_option linter.unusedVariables false

/-- The first i are told, the rest not yet. -/
def fil (f : Nat → Bool) (n i : Nat) : List Bool := (List.range n).map fun s => if s < i then f s else false
theorem fil_len (f : Nat → Bool) (n i : Nat) : (fil f n i).length = n := by simp [fil]
theorem fil_zero (f : Nat → Bool) (n : Nat) : fil f n 0 = List.replicate n false := by
  apply List.ext_getElem?
  intro j
  by_cases h : j < n <;> simp [fil, h]
theorem fil_end (f : Nat → Bool) (n : Nat) : fil f n n = (List.range n).map f := by
  unfold fil
  refine List.map_congr_left fun s hs => ?_
  rw [if_pos (List.mem_range.1 hs)]
theorem fil_set (f : Nat → Bool) {n i : Nat} (h : i < n) : (fil f n i).set i (f i) = fil f n (i + 1) := by
  apply List.ext_getElem?
  intro j
  rw [List.getElem?_set]
  by_cases e : i = j
  · subst e
    rw [if_pos rfl, fil_len, if_pos h]
    simp [fil, h]
  · rw [if_neg e]
    by_cases hj : j < n
    · simp only [fil, List.getElem?_map, List.getElem?_range hj, Option.map_some]
      congr 1
      by_cases q : j < i
      · rw [if_pos q, if_pos (by omega)]
      · rw [if_neg q, if_neg (by omega)]
    · rw [List.getElem?_eq_none (by rw [fil_len]; omega), List.getElem?_eq_none (by rw [fil_len]; omega)]

/-- What a cell holds. -/
def cvAt (y : World) (b i : Nat) : Value := (y.cell? ⟨b, i, none⟩).getD (.bool false)
/-- A box, a cell that is read and a cell that is written, while a region goes on. -/
abbrev SW (a : Nat) (arr : Array Value) (g o : Nat) (x : Value) (b i : Nat) (t : TypeId) (y : World) : Prop :=
  (∀ o, y.cell? ⟨a, o, none⟩ = arr[o]?) ∧ y.cell? ⟨g, o, none⟩ = some x ∧ y.frozen? ⟨b, i, none⟩ = false ∧ y.cell? ⟨b, i, none⟩ = some (cvAt y b i) ∧ (∃ cur, y.heap[b]? = some (.cells cur t (0, 0)) ∧ i < cur.size) ∧ a < y.heap.size ∧ g < y.heap.size
theorem sw_mk {a : Nat} {arr : Array Value} {g o : Nat} {x : Value} {b i : Nat} {t : TypeId} {y : World} (h1 : ∀ o, y.cell? ⟨a, o, none⟩ = arr[o]?) (h2 : y.cell? ⟨g, o, none⟩ = some x) (h3 : ∃ cur, y.heap[b]? = some (.cells cur t (0, 0)) ∧ i < cur.size) (h4 : a < y.heap.size) (h5 : g < y.heap.size) : SW a arr g o x b i t y := by
  obtain ⟨cur, hc, hi⟩ := h3
  have e : y.cell? ⟨b, i, none⟩ = some cur[i] := by rw [cell_of hc]; simp [hi]
  exact ⟨h1, h2, froz_of hc, by rw [cvAt, e]; rfl, ⟨cur, hc, hi⟩, h4, h5⟩
theorem sw_step {a : Nat} {arr : Array Value} {g o : Nat} {x : Value} {b i : Nat} {t : TypeId} {y1 y2 : World} (hb : Below y1.heap.size y1 y2) (h : SW a arr g o x b i t y1) : SW a arr g o x b i t y2 := by
  obtain ⟨h1, h2, _, _, ⟨cur, hc, hi⟩, h4, h5⟩ := h
  exact sw_mk (fun o => (below_cell hb h4).trans (h1 o)) ((below_cell hb h5).trans h2) ⟨cur, (hb.block b (Array.getElem?_eq_some_iff.1 hc).1).trans hc, hi⟩ (Nat.lt_of_lt_of_le h4 hb.size) (Nat.lt_of_lt_of_le h5 hb.size)
theorem sw_set {a : Nat} {arr : Array Value} {g o : Nat} {x : Value} {b i : Nat} {t : TypeId} {y : World} (ha : a ≠ b) (hg : g ≠ b) (v : Value) (h : SW a arr g o x b i t y) : SW a arr g o x b i t (y.setCell ⟨b, i, none⟩ v) := by
  obtain ⟨h1, h2, _, _, ⟨cur, hc, hi⟩, h4, h5⟩ := h
  refine sw_mk (fun o => ?_) ?_ ⟨_, heap_set hc, by simpa using hi⟩ (by simpa [World.setCell] using h4) (by simpa [World.setCell] using h5)
  · rw [World.cell?_of_block (heap_set_other ha)]; exact h1 o
  · rw [World.cell?_of_block (heap_set_other hg)]; exact h2

set_option maxHeartbeats 4000000 in
set_option maxRecDepth 100000 in
theorem before_any (v : Value) (B : Aut) (w : World) (h : AR w v B) (G : Good B) (c : Nat) (hc : (c : Int) < B.k) :
    Calls Try.prog 26 #[v, .int .i64 c] w fun e w' => ∃ g, e = .returned (.slice (some ⟨g, 0, none⟩) B.ac.length B.ac.length) ∧ w'.ownsRow w.heap.size 4 1 (.slice (some ⟨g, 0, none⟩) B.ac.length B.ac.length) B.ac.length (bC ((List.range B.ac.length).map fun s => aN B (dN B s c))) ∧ Below w.heap.size w w' := by
  obtain ⟨an, cn, aa, ca, e, h1, h2⟩ := h.is
  obtain ⟨i0, hi, hz0, hz1, hz2⟩ := info_parts Try.info_bool
  have hn1 := G.n1
  have hn2 := G.n2
  have hmk := fun w0 => run_make (P := Try.prog) w0 23 4 i0 (.bool false) Try.underlying23 hi hz0 .i64 .i64 (B.ac.length : Int) (B.ac.length : Int) (by omega) (by omega) (by rw [hz2]; omega) (by omega)
  rw [hz1] at hmk
  simp only [Nat.mul_one] at hmk
  have HS : Hid (∀ y s, Below w.heap.size w y → s < B.ac.length → Calls Try.prog 40 #[v, .int .i64 (s : Nat), .int .i64 c] y fun e w' => e = .returned (.int .i64 (dN B s c)) ∧ Below y.heap.size y w') := fun y s hy hs => astep_any v B y (h.stay hy) G s c hs hc
  have HD : Hid (∀ s, s < B.ac.length → dN B s c < B.ac.length) := fun s hs => (G.at hs hc).2.2
  have H2 : Hid (∀ y, Below w.heap.size w y → SR y aa (bC B.ac)) := fun y hy => h2.stay hy
  subst e
  clear h h1 h2 G
  go_enter Try.func26, Try.ntmps26
  go_wp2_with fail
  have HU : Hid (Below w.heap.size w ((w.alloc (.cells #[.int .i64 B.k, .slice an B.nx.length cn, .slice aa B.ac.length ca] 25)).alloc (.cells (madeCells #[.bool false] B.ac.length) 4))) := go_on (below_new _ _) (below_new _ _)
  have HR0 : Hid (RowAt ((w.alloc (.cells #[.int .i64 B.k, .slice an B.nx.length cn, .slice aa B.ac.length ca] 25)).alloc (.cells (madeCells #[.bool false] B.ac.length) 4)) w.heap.size #[.int .i64 B.k, .slice an B.nx.length cn, .slice aa B.ac.length ca]) := (RowAt.last _ _ _).alloc _
  have HO0 : Hid (((w.alloc (.cells #[.int .i64 B.k, .slice an B.nx.length cn, .slice aa B.ac.length ca] 25)).alloc (.cells (madeCells #[.bool false] B.ac.length) 4)).ownsRow w.heap.size 4 1 (.slice (some ⟨w.heap.size + 1, 0, none⟩) B.ac.length B.ac.length) B.ac.length (bC (fil (fun s => aN B (dN B s c)) B.ac.length 0))) := by
    refine ⟨by simp [bC, fil_len], .inr ⟨w.heap.size + 1, B.ac.length, madeCells #[.bool false] B.ac.length, rfl, by omega, ?_, Nat.le_refl _, by unfold maxLen; omega, ?_, ?_⟩⟩
    · have := heap_alloc_last (w.alloc (.cells #[.int .i64 B.k, .slice an B.nx.length cn, .slice aa B.ac.length ca] 25)) (.cells (madeCells #[.bool false] B.ac.length) 4)
      simpa using this
    · simp [madeCells]
    · rw [fil_zero]
      apply List.ext_getElem?
      intro j
      by_cases hj : j < B.ac.length
      · simp [madeCells, bC, hj, Nat.mod_one]
      · simp [madeCells, bC, hj]
  clear hmk
  go_loopw [13] (fun vi wr => ∃ i : Nat, vi = .int .i64 i ∧ i ≤ B.ac.length ∧ RowAt wr w.heap.size #[.int .i64 B.k, .slice an B.nx.length cn, .slice aa B.ac.length ca] ∧ wr.ownsRow w.heap.size 4 1 (.slice (some ⟨w.heap.size + 1, 0, none⟩) B.ac.length B.ac.length) B.ac.length (bC (fil (fun s => aN B (dN B s c)) B.ac.length i)) ∧ Below w.heap.size w wr) (fun vi _ => B.ac.length - (intOf vi).toNat)
  case atStart => exact ⟨0, rfl, Nat.zero_le _, HR0.out, HO0.out, HU.out⟩
  case round =>
    clear HR0 HO0 HU
    obtain ⟨i, rfl, hin, hR, hO, hB⟩ := hrel
    by_cases hlt : i < B.ac.length
    · have hiI : (i : Int) < B.ac.length := by omega
      have HO : Hid (wr.ownsRow w.heap.size 4 1 (.slice (some ⟨w.heap.size + 1, 0, none⟩) B.ac.length B.ac.length) B.ac.length (bC (fil (fun s => aN B (dN B s c)) B.ac.length i))) := hO
      have HR : Hid (RowAt wr w.heap.size #[.int .i64 B.k, .slice an B.nx.length cn, .slice aa B.ac.length ca]) := hR
      have HB : Hid (Below w.heap.size w wr) := hB
      obtain ⟨D, hD⟩ : ∃ D, dN B i c = D := ⟨_, rfl⟩
      have hDl : D < B.ac.length := by rw [← hD]; exact HD.out i hlt
      have hDI : (D : Int) < B.ac.length := by omega
      obtain ⟨g, o, rfl, hg, hcell0⟩ := (H2.out _ (Below.refl _ _)).bool hDl
      have hcell := (below_cell hB hg).trans hcell0
      obtain ⟨x, hx⟩ : ∃ x, B.ac.getD D false = x := ⟨_, rfl⟩
      rw [hx] at hcell
      have hcur : ∃ cur, wr.heap[w.heap.size + 1]? = some (.cells cur 4 (0, 0)) ∧ i < cur.size := by
        rcases hO.2 with ⟨_, h0⟩ | ⟨g', cap, cur, hv, _, hgg, hcap, _, hs, _⟩
        · omega
        · simp only [Value.slice.injEq, Option.some.injEq, Addr.mk.injEq] at hv
          obtain ⟨⟨rfl, _⟩, _, rfl⟩ := hv
          exact ⟨cur, hgg, by omega⟩
      have HSC : Hid (∀ y, Below w.heap.size w y → Calls Try.prog 40 #[.agg #[.int .i64 B.k, .slice an B.nx.length cn, .slice (some ⟨g, o, none⟩) B.ac.length ca], .int .i64 (i : Nat), .int .i64 c] y fun e w' => e = .returned (.int .i64 (D : Nat)) ∧ Below y.heap.size y w') := fun y hy => by rw [← hD]; exact HS.out y i hy hlt
      have S0 : SW w.heap.size #[.int .i64 B.k, .slice an B.nx.length cn, .slice (some ⟨g, o, none⟩) B.ac.length ca] g (o + D) (.bool x) (w.heap.size + 1) i 4 wr.drew := sw_mk hR.cell hcell hcur hR.lt (Nat.lt_of_lt_of_le hg hB.size)
      have hg1 : g ≠ w.heap.size + 1 := by omega
      have hg2 : w.heap.size ≠ w.heap.size + 1 := by omega
      have HX : Hid (aN B (dN B i c) = x) := by show _ = _; rw [hD]; exact hx
      have HBD : Hid (Below w.heap.size w wr.drew) := hB.drew
      clear hO hR hB hcell hcell0 hcur hD hx hg
      go_wp2_with fail
      go_region_held3 (fun y => SW w.heap.size #[.int .i64 B.k, .slice an B.nx.length cn, .slice (some ⟨g, o, none⟩) B.ac.length ca] g (o + D) (.bool x) (w.heap.size + 1) i 4 y) (first | exact S0 | assumption | exact sw_step (by assumption) (by assumption) | exact sw_set hg2 hg1 _ (by assumption)) (first
        | (go_at_call 40; refine (HSC.out _ HBD.out).mono ?_; rintro e w1 ⟨rfl, hb1⟩))
      all_goals (
        have hO1 := own_below HO.out (show Below wr.heap.size wr w1 from go_on (Below.refl _ _).drew hb1)
        have hst := (hO1.stored i (.bool (aN B (dN B i c)))).1
        have hbw : Below wr.heap.size wr w1 := go_on (Below.refl _ _).drew hb1
        have HN : Hid ((w1.setCell ⟨w.heap.size + 1, i, none⟩ (.bool x)).ownsRow w.heap.size 4 1 (.slice (some ⟨w.heap.size + 1, 0, none⟩) B.ac.length B.ac.length) B.ac.length (bC (fil (fun s => aN B (dN B s c)) B.ac.length (i + 1)))) := by
          have q1 : bC (fil (fun s => aN B (dN B s c)) B.ac.length (i + 1)) = (bC (fil (fun s => aN B (dN B s c)) B.ac.length i)).set i (.bool x) := by
            rw [← fil_set _ hlt, HX.out]; unfold bC; rw [List.map_set]
          rw [HX.out] at hst
          rw [q1]
          exact hst
        have HN2 : Hid (RowAt (w1.setCell ⟨w.heap.size + 1, i, none⟩ (.bool x)) w.heap.size #[.int .i64 B.k, .slice an B.nx.length cn, .slice (some ⟨g, o, none⟩) B.ac.length ca]) := by
          have := HR.out.stay hbw
          refine ⟨by simp [World.setCell]; exact this.lt, fun o => ?_⟩
          rw [World.cell?_of_block (heap_set_other (show w.heap.size ≠ w.heap.size + 1 by omega))]
          exact this.cell o
        have HN3 : Hid (Below w.heap.size w (w1.setCell ⟨w.heap.size + 1, i, none⟩ (.bool x))) := (go_on HB.out hbw).setCell (p := ⟨w.heap.size + 1, i, none⟩) (by show _ ≤ w.heap.size + 1; omega) _
        clear hO1 hst hb1 hbw S0
        go_wp2_with fail
        go_roundw
        case rel => exact ⟨i + 1, by go_num, by omega, HN2.out, HN.out, HN3.out⟩
        case measure => simp [intOf]; omega)
    · have hiI : ¬ (i : Int) < B.ac.length := by omega
      have e : i = B.ac.length := by omega
      rw [e, fil_end] at hO
      have HO : Hid (wr.ownsRow w.heap.size 4 1 (.slice (some ⟨w.heap.size + 1, 0, none⟩) B.ac.length B.ac.length) B.ac.length (bC ((List.range B.ac.length).map fun s => aN B (dN B s c)))) := hO
      have HB : Hid (Below w.heap.size w wr) := hB
      clear e hO hB hR
      go_wp2_with fail
      go_ret
      exact ⟨_, rfl, HO.out, HB.out⟩
end Go.Proofs.Ytbfoamidnekoaab
