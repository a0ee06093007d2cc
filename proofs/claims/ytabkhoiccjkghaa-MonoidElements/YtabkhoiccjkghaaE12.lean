/- monoid: finding.words, finding.accepted. -/
import Derived.Test.YtabkhoiccjkghaaE11
namespace Go.Proofs.Ytabkhoiccjkghaa
open Go Go.RowKit Go.Lib Go.Maps
set_option linter.unusedVariables false
attribute [-instance] List.instBEq instBEqProd

/-- A word's bytes. -/
def wb (u : List Nat) : ByteArray := ⟨(u.map fun c => UInt8.ofNat (97 + c)).toArray⟩
theorem wb_nil : wb [] = ByteArray.empty := rfl
theorem wb_snoc (u : List Nat) (c : Nat) : wb u ++ ⟨#[UInt8.ofNat (97 + c)]⟩ = wb (u ++ [c]) := by
  apply ByteArray.ext
  rw [ByteArray.data_append]
  simp [wb]
theorem wb_size (u : List Nat) : (wb u).size = u.length := by
  show (u.map _).toArray.size = _
  simp
/-- The least words of the first i elements lie in block g. -/
def WP (w : World) (g K n : Nat) (N : List Nat) (i : Nat) : Prop := ∃ cur : Array Value, w.heap[g]? = some (.cells cur 9 (0, 0)) ∧ cur.size = n ∧ ∀ j, j < i → cur[j]? = some (.string (wb (lw K N j)))
theorem WP.keep {w w' : World} {g K n : Nat} {N : List Nat} {i : Nat} (h : WP w g K n N i) (e : w'.heap[g]? = w.heap[g]?) : WP w' g K n N i := by
  obtain ⟨cur, h1, h2, h3⟩ := h
  exact ⟨cur, e.trans h1, h2, h3⟩
theorem WP.lt {w : World} {g K n : Nat} {N : List Nat} {i : Nat} (h : WP w g K n N i) : g < w.heap.size := by
  obtain ⟨cur, h1, h2, h3⟩ := h
  exact (Array.getElem?_eq_some_iff.1 h1).1
theorem WP.cell {w : World} {g K n : Nat} {N : List Nat} {i : Nat} (h : WP w g K n N i) {j : Nat} (hj : j < i) : w.cell? ⟨g, j, none⟩ = some (.string (wb (lw K N j))) := by
  obtain ⟨cur, h1, h2, h3⟩ := h
  rw [cell_of_row _ _ _ _ _ _ h1]
  exact h3 j hj
def pvS (w : World) (g o : Nat) : Value := (w.cell? ⟨g, o, none⟩).getD undef
theorem WP.here {w : World} {g K n : Nat} {N : List Nat} {i : Nat} (h : WP w g K n N i) {j : Nat} (hj : j < n) : w.cell? ⟨g, j, none⟩ = some (pvS w g j) ∧ w.frozen? ⟨g, j, none⟩ = false := by
  obtain ⟨cur, h1, h2, h3⟩ := h
  refine ⟨?_, frozen_blk h1 j⟩
  unfold pvS
  rw [cell_of_row _ _ _ _ _ _ h1, Array.getElem?_eq_getElem (by omega)]
  rfl
theorem WP.put {w : World} {g K n : Nat} {N : List Nat} {i : Nat} (h : WP w g K n N i) (hi : i < n) : WP (w.setCell ⟨g, i, none⟩ (.string (wb (lw K N i)))) g K n N (i + 1) := by
  obtain ⟨cur, h1, h2, h3⟩ := h
  refine ⟨_, heap_set h1, by simpa using h2, fun j hj => ?_⟩
  rw [Array.getElem?_setIfInBounds]
  by_cases e : i = j
  · subst e
    rw [if_pos rfl, if_pos (by omega)]
  · rw [if_neg e]
    exact h3 j (by omega)
theorem cell_set_off {y : World} {g o p : Nat} {u : Value} (h : p ≠ o) : (y.setCell ⟨g, o, none⟩ u).cell? ⟨g, p, none⟩ = y.cell? ⟨g, p, none⟩ := by
  simp only [World.cell?, World.setCell]
  rw [Array.getElem?_modify, if_pos rfl]
  cases hq : y.heap[g]? with
  | none => rfl
  | some ob => cases ob <;> simp [h.symm]
theorem cell_set_some {y : World} {g o : Nat} {u v : Value} (h : y.cell? ⟨g, o, none⟩ = some v) : ((y.setCell ⟨g, o, none⟩ u).cell? ⟨g, o, none⟩).isSome = true := by
  simp only [World.cell?, World.setCell] at h ⊢
  rw [Array.getElem?_modify, if_pos rfl]
  cases hq : y.heap[g]? with
  | none => rw [hq] at h; simp at h
  | some ob => 
    rw [hq] at h
    cases ob <;> simp_all
    first | exact (Array.getElem?_eq_some_iff.1 h).1 | exact h.1 | (obtain ⟨q, _⟩ := h; exact q)
theorem cell_pv {y : World} {g o : Nat} (h : (y.cell? ⟨g, o, none⟩).isSome = true) : y.cell? ⟨g, o, none⟩ = some (pvS y g o) := by
  unfold pvS
  cases hq : y.cell? ⟨g, o, none⟩ with
  | none => rw [hq] at h; simp at h
  | some v => rfl
theorem frozen_set {y : World} {g o p : Nat} {u : Value} : (y.setCell ⟨g, o, none⟩ u).frozen? ⟨g, p, none⟩ = y.frozen? ⟨g, p, none⟩ := by
  simp only [World.frozen?, World.setCell]
  rw [Array.getElem?_modify, if_pos rfl]
  cases hq : y.heap[g]? with
  | none => rfl
  | some ob => cases ob <;> rfl
theorem run_cat {X L : ByteArray} (h : ¬ IntKind.i64.max < ((X.size + L.size : Nat) : Int)) (z : World) : (Op.stringOp .add X L).run Try.prog z = .ok (.string (X ++ L)) z := by
  have hm : IntKind.i64.max = 9223372036854775807 := by decide
  simp [Op.stringOp]
  omega
theorem Try.info_str : (Try.prog.info? 9).map (fun i => (i.zero, i.size, i.bytes)) = some (some (.string ByteArray.empty), 1, 16) := by kernel_rfl
theorem own_wp {w : World} {base g K n : Nat} {N : List Nat} (h : w.ownsRow base 9 1 (.slice (some ⟨g, 0, none⟩) n n) n (madeCells (Value.string ByteArray.empty).cells (n * 1)).toList) (hn : 0 < n) : WP w g K n N 1 := by
  rcases h.2 with ⟨h1, _⟩ | ⟨g', cap, cur, h1, r1, r2, r3, r4, r5, r6⟩
  · cases h1
  · simp only [Value.slice.injEq, Option.some.injEq, Addr.mk.injEq] at h1
    obtain ⟨⟨rfl, _⟩, _, rfl⟩ := h1
    refine ⟨cur, r2, by omega, fun j hj => ?_⟩
    have e : j = 0 := by omega
    subst e
    rw [← Array.getElem?_toList]
    have h0 : (cur.toList.take (n * 1))[0]? = cur.toList[0]? := by rw [List.getElem?_take, if_pos (by omega)]
    rw [← h0, r6]
    show (madeCells #[Value.string ByteArray.empty] (n * 1)).toList[0]? = _
    rw [toList_madeCells_one, List.getElem?_replicate, if_pos (by omega)]
    rfl

set_option maxHeartbeats 4000000 in
set_option maxRecDepth 100000 in
theorem words_any {base : Nat} {w : World} {fb b mb K n : Nat} {vl vw vr : Value} {M : List (List Nat)} {W : List (Nat × Nat)} {N : List Nat} {D : DataW Unit} (h : FN base w fb b mb K n vl vw vr M W N D) (wy : WyO K M W N) (fst : Fst K M.length N) (hk : 1 ≤ K ∧ K ≤ 8) (hM : 0 < M.length) :
    Calls Try.prog 42 #[.pointer (some ⟨fb, 0, none⟩)] w fun e w' => ∃ g, e = .returned (.slice (some ⟨g, 0, none⟩) M.length M.length) ∧ Below w.heap.size w w' ∧ w.heap.size ≤ g ∧ WP w' g K M.length N M.length := by
  obtain ⟨wa, wc, hvw⟩ := own_shape h.ways
  rw [wy.len] at hvw
  subst hvw
  have hmo := h.tb.most
  have hwr := h.ways
  rw [wy.len] at hwr
  obtain ⟨gw, rfl⟩ : ∃ gw, wa = some ⟨gw, 0, none⟩ := by
    rcases hwr.2 with ⟨_, h0⟩ | ⟨g', cap', cur, hv, _⟩
    · omega
    · simp only [Value.slice.injEq] at hv
      exact ⟨g', hv.1⟩
  have t2 : w.cell? ⟨fb, 2, none⟩ = some (.slice (some ⟨gw, 0, none⟩) M.length wc) := cell_at h.box rfl
  have hcap : M.length ≤ wc := by
    rcases hwr.2 with ⟨h1, _⟩ | ⟨g', cap', cur, hv, _, _, r, _⟩
    · cases h1
    · simp only [Value.slice.injEq] at hv
      omega
  have HWC : Hid (∀ j p, W[j]? = some p → w.cell? ⟨gw, j * 2, none⟩ = some (.int .i64 (p.1 : Int)) ∧ w.cell? ⟨gw, j * 2 + 1, none⟩ = some (.int .i64 (p.2 : Int)) ∧ gw < w.heap.size) := fun j p hj => by
    obtain ⟨a1, a2⟩ := wyC_at W j p hj
    have hjl := (List.getElem?_eq_some_iff.1 hj).1
    have hl := wy.len
    refine ⟨?_, ?_, (hwr.lt gw rfl).2⟩
    · rw [hwr.cellAt (j * 2) (by omega)]; exact a1
    · rw [hwr.cellAt (j * 2 + 1) (by omega)]; exact a2
  have HF : Hid (FN base w fb b mb K n vl (.slice (some ⟨gw, 0, none⟩) M.length wc) vr M W N D) := h
  have HWY : Hid (WyO K M W N) := wy
  have HFS : Hid (Fst K M.length N) := fst
  have hfbl : fb < w.heap.size := (Array.getElem?_eq_some_iff.1 h.box).1
  obtain ⟨i0, hi, hz0, hz1, hz2⟩ := info_parts Try.info_str
  clear h wy fst hwr
  by_cases hw1 : wc = 1
  · have HM1 : Hid (M.length = 1) := by show _ = _; omega
    subst hw1
    go_enter Try.func42, Try.ntmps42
    go_wp2_with (at_make; refine wpList_make_full _ rfl _ _ 52 rfl w.heap.size 9 i0 (.string ByteArray.empty) 1 Try.underlying52 hi hz0 hz1 .i64 .i64 (M.length : Int) (M.length : Int) M.length rfl rfl rfl rfl (by rw [hz2]; omega) (by unfold maxLen; omega) (Nat.le_refl _) ?_; intro w1 hown hgr; have t2' : w1.cell? ⟨fb, 2, none⟩ = some (.slice (some ⟨gw, 0, none⟩) M.length 1) := (World.cell?_of_block (hgr.block fb hfbl (by simp))).trans t2)
    have HP1 : Hid (WP w1 w.heap.size K M.length N 1) := own_wp hown hM
    have HB1 : Hid (Below w.heap.size w w1) := (Below.refl _ _).grown hgr (Nat.le_refl _) (fun b hb => by cases hb)
    obtain ⟨g, hg⟩ : ∃ g, w.heap.size = g := ⟨_, rfl⟩
    have HGw : Hid (w.heap.size = g) := hg
    rw [hg] at HP1
    rw [hg]
    clear hown hgr t2'
    go_loopw [18, 4, 5] (fun vi _ _ wr => vi = .int .i64 0 ∧ wr = w1) (fun _ _ _ _ => 0)
    case atStart => exact ⟨rfl, rfl⟩
    case round =>
      obtain ⟨rfl, rfl⟩ := hrel
      have hl0 : M.length - 1 = 0 := by have := HM1.out; omega
      go_wp2_with fail
      go_ret
      exact ⟨g, rfl, by first | exact HB1.out | (have := HB1.out; rw [HGw.out] at this; exact this), by first | exact Nat.le_refl _ | (rw [HGw.out]; exact Nat.le_refl _), by have := HP1.out; rw [HM1.out] at this ⊢; exact this⟩
  · have hw2 : ¬ wc - 1 = 0 := by omega
    go_enter Try.func42, Try.ntmps42
    go_wp2_with (at_make; refine wpList_make_full _ rfl _ _ 52 rfl w.heap.size 9 i0 (.string ByteArray.empty) 1 Try.underlying52 hi hz0 hz1 .i64 .i64 (M.length : Int) (M.length : Int) M.length rfl rfl rfl rfl (by rw [hz2]; omega) (by unfold maxLen; omega) (Nat.le_refl _) ?_; intro w1 hown hgr; have t2' : w1.cell? ⟨fb, 2, none⟩ = some (.slice (some ⟨gw, 0, none⟩) M.length wc) := (World.cell?_of_block (hgr.block fb hfbl (by simp))).trans t2)
    have HP1 : Hid (WP w1 w.heap.size K M.length N 1) := own_wp hown hM
    have HB1 : Hid (Below w.heap.size w w1) := (Below.refl _ _).grown hgr (Nat.le_refl _) (fun b hb => by cases hb)
    obtain ⟨g, hg⟩ : ∃ g, w.heap.size = g := ⟨_, rfl⟩
    have HGw : Hid (w.heap.size = g) := hg
    rw [hg] at HP1
    rw [hg]
    clear hown hgr t2'
    go_loopw [18, 4, 5] (fun vi _ _ wr => ∃ i : Nat, vi = .int .i64 i ∧ i + 1 ≤ M.length ∧ WP wr g K M.length N (i + 1) ∧ Below w.heap.size w wr) (fun vi _ _ _ => M.length - (intOf vi).toNat)
    case atStart => exact ⟨0, rfl, hM, HP1.out, HB1.out⟩
    case round =>
      clear HP1 HB1
      obtain ⟨i, rfl, hin, hP, hB⟩ := hrel
      have HP : Hid (WP wr g K M.length N (i + 1)) := hP
      have HB : Hid (Below w.heap.size w wr) := hB
      clear hP hB
      by_cases hlt : i + 1 < M.length
      · have hiI : (i : Int) < ((M.length - 1 : Nat) : Int) := by omega
        have hwy := HWY.out.at' (i + 1) (by omega) hlt
        obtain ⟨hm, hq⟩ := HFS.out (i + 1) (by omega) hlt
        have hlw := lw_step HFS.out (s := i + 1) (by omega) hlt
        obtain ⟨fr, hfr⟩ : ∃ fr, N.idxOf (i + 1) / K = fr := ⟨_, rfl⟩
        obtain ⟨lt, hlet⟩ : ∃ lt, N.idxOf (i + 1) % K = lt := ⟨_, rfl⟩
        have hlt8 : lt < 26 := by have := Nat.mod_lt (N.idxOf (i + 1)) (show K > 0 by omega); omega
        rw [hfr] at hwy hq hlw
        rw [hlet] at hwy hlw
        obtain ⟨c0, c1, hgw⟩ := HWC.out (i + 1) _ hwy
        have hgw2 : gw < w.heap.size := hgw
        have d0 : wr.cell? ⟨gw, 2 + i * 2, none⟩ = some (.int .i64 (fr : Int)) := by rw [below_cellJ HB.out hgw, show 2 + i * 2 = (i + 1) * 2 by omega]; exact c0
        have d1 : wr.cell? ⟨gw, 2 + i * 2 + 1, none⟩ = some (.int .i64 (lt : Int)) := by rw [below_cellJ HB.out hgw, show 2 + i * 2 + 1 = (i + 1) * 2 + 1 by omega]; exact c1
        obtain ⟨X, hX⟩ : ∃ X, wb (lw K N fr) = X := ⟨_, rfl⟩
        have hx := HP.out.cell (j := fr) (by omega)
        rw [hX] at hx
        obtain ⟨L, hL⟩ : ∃ L : ByteArray, (⟨#[UInt8.ofNat (97 + lt)]⟩ : ByteArray) = L := ⟨_, rfl⟩
        have HLO : Hid (∀ y, Calls Try.prog 61 #[.int .i64 lt] y fun e w' => e = .returned (.string L) ∧ y = w') := fun y => by
          have := letterOf_any lt hlt8 y
          rw [hL] at this
          exact this
        have HXL : Hid (wb (lw K N (i + 1)) = X ++ L) := by
          show _ = _
          rw [hlw, ← wb_snoc, hX, hL]
        have hgl : g < wr.heap.size := HP.out.lt
        have HPA : Hid (WP (wr.alloc (.cells #[.int .i64 (fr : Int), .int .i64 (lt : Int)] 110)) g K M.length N (i + 1)) := HP.out.keep (heap_allo hgl _)
        have hxs : X.size + L.size ≤ maxLen := by
          rw [← hX, ← hL, wb_size]
          have := lw_len HFS.out fr (by omega)
          have e1 : (⟨#[UInt8.ofNat (97 + lt)]⟩ : ByteArray).size = 1 := rfl
          unfold maxLen
          omega
        have hxs2 : ¬ (9223372036854775807 : Int) < (X.size : Int) + (L.size : Int) := by
          rw [← hX, ← hL, wb_size]
          have := lw_len HFS.out fr (by omega)
          have e1 : (⟨#[UInt8.ofNat (97 + lt)]⟩ : ByteArray).size = 1 := rfl
          omega
        have hxs3 : ¬ IntKind.i64.max < ((X.size + L.size : Nat) : Int) := by
          have : IntKind.i64.max = 9223372036854775807 := by decide
          omega
        have hxs4 : ¬ IntKind.i64.max < (X.size : Int) + (L.size : Int) := by
          have : IntKind.i64.max = 9223372036854775807 := by decide
          omega
        have hcat := run_cat hxs3
        have hfri : fr ≠ i + 1 := by omega
        have hfrI : (fr : Int) < (M.length : Int) := by omega
        have hi1I : (i : Int) + 1 < (M.length : Int) := by omega
        have hwi : IntKind.i64.wrap ((i : Int) + 1) = (i : Int) + 1 := by rw [IntKind.wrap_i64]; omega
        have hi3 : (0 : Int) ≤ (i : Int) + 1 := by omega
        obtain ⟨y0, hy0⟩ : ∃ y0, y0 = wr.alloc (.cells #[.int .i64 (fr : Int), .int .i64 (lt : Int)] 110) := ⟨_, rfl⟩
        have S0 : ((∀ o, (y0.drew).cell? ⟨wr.heap.size, o, none⟩ = (#[.int .i64 (fr : Int), .int .i64 (lt : Int)] : Array Value)[o]?) ∧ (y0.drew).cell? ⟨g, fr, none⟩ = some (.string X) ∧ (y0.drew).cell? ⟨g, i + 1, none⟩ = some (pvS (y0.drew) g (i + 1)) ∧ (y0.drew).frozen? ⟨g, i + 1, none⟩ = false) := by
          rw [hy0]
          refine ⟨fun o => cell_of_row _ _ _ _ _ _ (heap_last wr _), ?_, (HPA.out.here hlt).1, (HPA.out.here hlt).2⟩
          exact (World.cell?_of_block (heap_allo hgl _)).trans hx
        have HST : Hid (∀ (y : World) (u : Value), ((∀ o, y.cell? ⟨wr.heap.size, o, none⟩ = (#[.int .i64 (fr : Int), .int .i64 (lt : Int)] : Array Value)[o]?) ∧ y.cell? ⟨g, fr, none⟩ = some (.string X) ∧ y.cell? ⟨g, i + 1, none⟩ = some (pvS y g (i + 1)) ∧ y.frozen? ⟨g, i + 1, none⟩ = false) → ((∀ o, (y.setCell ⟨g, i + 1, none⟩ u).cell? ⟨wr.heap.size, o, none⟩ = (#[.int .i64 (fr : Int), .int .i64 (lt : Int)] : Array Value)[o]?) ∧ (y.setCell ⟨g, i + 1, none⟩ u).cell? ⟨g, fr, none⟩ = some (.string X) ∧ (y.setCell ⟨g, i + 1, none⟩ u).cell? ⟨g, i + 1, none⟩ = some (pvS (y.setCell ⟨g, i + 1, none⟩ u) g (i + 1)) ∧ (y.setCell ⟨g, i + 1, none⟩ u).frozen? ⟨g, i + 1, none⟩ = false)) := fun y u hy => by
          have hbf : wr.heap.size ≠ g := by omega
          refine ⟨fun o => ?_, ?_, ?_, ?_⟩
          · rw [World.cell?_of_block (heap_set_other hbf)]; exact hy.1 o
          · rw [cell_set_off (by omega)]; exact hy.2.1
          · exact cell_pv (cell_set_some hy.2.2.1)
          · rw [frozen_set]; exact hy.2.2.2
        have HPY : Hid (WP y0 g K M.length N (i + 1)) := by rw [hy0]; exact HPA.out
        have HBY : Hid (Below w.heap.size w y0) := by show Below _ _ _; rw [hy0]; exact go_on HB.out (below_new _ _)
        have HY0 : Hid (y0 = wr.alloc (.cells #[.int .i64 (fr : Int), .int .i64 (lt : Int)] 110)) := hy0
        clear hx hX hL hfr hlet hwy hlw hq hm c0 c1 hgw hy0
        go_wp2_with fail
        rw [← HY0.out]
        clear d0 d1 HY0 HPA
        go_region_held3 (fun y => ((∀ o, y.cell? ⟨wr.heap.size, o, none⟩ = (#[.int .i64 (fr : Int), .int .i64 (lt : Int)] : Array Value)[o]?) ∧ y.cell? ⟨g, fr, none⟩ = some (.string X) ∧ y.cell? ⟨g, i + 1, none⟩ = some (pvS y g (i + 1)) ∧ y.frozen? ⟨g, i + 1, none⟩ = false)) (first | assumption | exact S0 | exact HST.out _ _ (by assumption)) (first | (go_at_call 61; refine (HLO.out _).mono ?_; rintro e y1 ⟨rfl, rfl⟩))
        have HPN : Hid (WP (y0.drew.setCell ⟨g, i + 1, none⟩ (.string (X ++ L))) g K M.length N (i + 1 + 1)) := by
          have h1 : WP y0.drew g K M.length N (i + 1) := HPY.out
          have := h1.put hlt
          rw [HXL.out] at this
          exact this
        have HBN : Hid (Below w.heap.size w (y0.drew.setCell ⟨g, i + 1, none⟩ (.string (X ++ L)))) := HBY.out.drew.setCell (p := ⟨g, i + 1, none⟩) (by rw [HGw.out]; exact Nat.le_refl _) _
        clear S0 hxs hxs2 hxs3 hxs4 hcat
        go_wp2_with fail
        go_roundw
        case rel => exact ⟨i + 1, by go_num, by omega, HPN.out, HBN.out⟩
        case measure => simp [intOf]; omega
      · have hiI : ¬ (i : Int) < ((M.length - 1 : Nat) : Int) := by omega
        have HE : Hid (i + 1 = M.length) := by show _ = _; omega
        go_wp2_with fail
        go_ret
        exact ⟨g, rfl, by first | exact HB.out | (have := HB.out; rw [HGw.out] at this; exact this), by first | exact Nat.le_refl _ | (rw [HGw.out]; exact Nat.le_refl _), by have := HP.out; rw [HE.out] at this; exact this⟩
end Go.Proofs.Ytabkhoiccjkghaa
