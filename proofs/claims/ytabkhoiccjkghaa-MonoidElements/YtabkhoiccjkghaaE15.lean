/- monoid: the tables in memory; finding.multiply. -/
import Derived.Test.YtabkhoiccjkghaaE13
import Derived.Test.YtabkhoiccjkghaaE14
namespace Go.Proofs.Ytabkhoiccjkghaa
open Go Go.RowKit Go.Lib Go.Maps
set_option linter.unusedVariables false
attribute [-instance] List.instBEq instBEqProd

theorem frozen_blk' {y y' : World} {g o : Nat} (h : y'.heap[g]? = y.heap[g]?) : y'.frozen? ⟨g, o, none⟩ = y.frozen? ⟨g, o, none⟩ := by simp only [World.frozen?, h]
theorem idx_inj {n i i' j j' : Nat} (h : i * n + j = i' * n + j') (hj : j < n) (hj' : j' < n) : i = i' ∧ j = j' := by
  have h1 : (i * n + j) / n = i := by rw [Nat.mul_comm, Nat.mul_add_div (by omega), Nat.div_eq_of_lt hj]; rfl
  have h2 : (i' * n + j') / n = i' := by rw [Nat.mul_comm, Nat.mul_add_div (by omega), Nat.div_eq_of_lt hj']; rfl
  have e : i = i' := by rw [← h1, h, h2]
  subst e
  exact ⟨rfl, by omega⟩
theorem idx_lt {n m i j : Nat} (hi : i < m) (hj : j < n) : i * n + j < m * n := by
  have := Nat.mul_le_mul_right n (show i + 1 ≤ m from hi)
  rw [Nat.add_mul] at this
  omega
/-- The three tables in block R: letters behind; the products and the letters ahead as far as they are told. -/
def RT (w : World) (R n K : Nat) (N : List Nat) (P L : Nat → Nat → Prop) : Prop := ∃ cur : Array Value, w.heap[R]? = some (.cells cur 97 (0, 0)) ∧ cur.size = n * K + n * K + n * n ∧ (∀ p, p < n * K → cur[p]? = some (.int .u16 ((N.getD p 0 : Nat) : Int))) ∧
  (∀ i j, i < n → j < n → P i j → cur[n * K + n * K + (i * n + j)]? = some (.int .u16 ((pr K N i j : Nat) : Int))) ∧ (∀ i c, i < n → c < K → L i c → cur[n * K + (i * K + c)]? = some (.int .u16 ((pr K N (N.getD c 0) i : Nat) : Int)))
theorem RT.keep {w w' : World} {R n K : Nat} {N : List Nat} {P L : Nat → Nat → Prop} (h : RT w R n K N P L) (e : w'.heap[R]? = w.heap[R]?) : RT w' R n K N P L := by
  obtain ⟨cur, h1, h2⟩ := h
  exact ⟨cur, e.trans h1, h2⟩
theorem RT.lt {w : World} {R n K : Nat} {N : List Nat} {P L : Nat → Nat → Prop} (h : RT w R n K N P L) : R < w.heap.size := by
  obtain ⟨cur, h1, h2⟩ := h
  exact (Array.getElem?_eq_some_iff.1 h1).1
theorem RT.mono {w : World} {R n K : Nat} {N : List Nat} {P L P' L' : Nat → Nat → Prop} (h : RT w R n K N P L) (hp : ∀ i j, i < n → j < n → P' i j → P i j) (hl : ∀ i c, i < n → c < K → L' i c → L i c) : RT w R n K N P' L' := by
  obtain ⟨cur, h1, h2, h3, h4, h5⟩ := h
  exact ⟨cur, h1, h2, h3, fun i j hi hj q => h4 i j hi hj (hp i j hi hj q), fun i c hi hc q => h5 i c hi hc (hl i c hi hc q)⟩
theorem RT.right {w : World} {R n K : Nat} {N : List Nat} {P L : Nat → Nat → Prop} (h : RT w R n K N P L) {p : Nat} (hp : p < n * K) : w.cell? ⟨R, p, none⟩ = some (.int .u16 ((N.getD p 0 : Nat) : Int)) := by
  obtain ⟨cur, h1, h2, h3, h4, h5⟩ := h
  rw [cell_of_row _ _ _ _ _ _ h1]
  exact h3 p hp
theorem RT.prod {w : World} {R n K : Nat} {N : List Nat} {P L : Nat → Nat → Prop} (h : RT w R n K N P L) {i j : Nat} (hi : i < n) (hj : j < n) (hp : P i j) : w.cell? ⟨R, n * K + n * K + (i * n + j), none⟩ = some (.int .u16 ((pr K N i j : Nat) : Int)) := by
  obtain ⟨cur, h1, h2, h3, h4, h5⟩ := h
  rw [cell_of_row _ _ _ _ _ _ h1]
  exact h4 i j hi hj hp
theorem RT.left {w : World} {R n K : Nat} {N : List Nat} {P L : Nat → Nat → Prop} (h : RT w R n K N P L) {i c : Nat} (hi : i < n) (hc : c < K) (hp : L i c) : w.cell? ⟨R, n * K + (i * K + c), none⟩ = some (.int .u16 ((pr K N (N.getD c 0) i : Nat) : Int)) := by
  obtain ⟨cur, h1, h2, h3, h4, h5⟩ := h
  rw [cell_of_row _ _ _ _ _ _ h1]
  exact h5 i c hi hc hp
theorem RT.here {w : World} {R n K : Nat} {N : List Nat} {P L : Nat → Nat → Prop} (h : RT w R n K N P L) {p : Nat} (hp : p < n * K + n * K + n * n) : w.cell? ⟨R, p, none⟩ = some (pvS w R p) ∧ w.frozen? ⟨R, p, none⟩ = false := by
  obtain ⟨cur, h1, h2, h3⟩ := h
  refine ⟨?_, frozen_blk h1 p⟩
  unfold pvS
  rw [cell_of_row _ _ _ _ _ _ h1, Array.getElem?_eq_getElem (by omega)]
  rfl
theorem RT.putP {w : World} {R n K : Nat} {N : List Nat} {P L : Nat → Nat → Prop} (h : RT w R n K N P L) {i j : Nat} (hi : i < n) (hj : j < n) : RT (w.setCell ⟨R, n * K + n * K + (i * n + j), none⟩ (.int .u16 ((pr K N i j : Nat) : Int))) R n K N (fun a b => P a b ∨ (a = i ∧ b = j)) L := by
  obtain ⟨cur, h1, h2, h3, h4, h5⟩ := h
  have hlt := idx_lt hi hj
  refine ⟨_, heap_set h1, by simpa using h2, fun p hp => ?_, fun a b ha hb q => ?_, fun a c ha hc q => ?_⟩
  · rw [Array.getElem?_setIfInBounds, if_neg (by omega)]
    exact h3 p hp
  · rw [Array.getElem?_setIfInBounds]
    by_cases e : a = i ∧ b = j
    · obtain ⟨rfl, rfl⟩ := e
      rw [if_pos rfl, if_pos (by omega)]
    · rw [if_neg (fun q2 => e (by have := idx_inj (n := n) (i := i) (i' := a) (j := j) (j' := b) (by omega) hj hb; exact ⟨this.1.symm, this.2.symm⟩))]
      rcases q with q | q
      · exact h4 a b ha hb q
      · exact absurd q e
  · have := idx_lt (m := n) ha hc
    rw [Array.getElem?_setIfInBounds, if_neg (by omega)]
    exact h5 a c ha hc q
theorem RT.putL {w : World} {R n K : Nat} {N : List Nat} {P L : Nat → Nat → Prop} (h : RT w R n K N P L) {i c : Nat} (hi : i < n) (hc : c < K) : RT (w.setCell ⟨R, n * K + (i * K + c), none⟩ (.int .u16 ((pr K N (N.getD c 0) i : Nat) : Int))) R n K N P (fun a b => L a b ∨ (a = i ∧ b = c)) := by
  obtain ⟨cur, h1, h2, h3, h4, h5⟩ := h
  have hlt := idx_lt (m := n) hi hc
  refine ⟨_, heap_set h1, by simpa using h2, fun p hp => ?_, fun a b ha hb q => ?_, fun a b ha hb q => ?_⟩
  · rw [Array.getElem?_setIfInBounds, if_neg (by omega)]
    exact h3 p hp
  · rw [Array.getElem?_setIfInBounds, if_neg (by omega)]
    exact h4 a b ha hb q
  · rw [Array.getElem?_setIfInBounds]
    by_cases e : a = i ∧ b = c
    · obtain ⟨rfl, rfl⟩ := e
      rw [if_pos rfl, if_pos (by omega)]
    · rw [if_neg (fun q2 => e (by have := idx_inj (n := K) (i := i) (i' := a) (j := c) (j' := b) (by omega) hc hb; exact ⟨this.1.symm, this.2.symm⟩))]
      rcases q with q | q
      · exact h5 a b ha hb q
      · exact absurd q e
theorem pr_step {K n : Nat} {N : List Nat} (h : Fst K n N) {i j : Nat} (h0 : 0 < j) (hj : j < n) : pr K N i j = N.getD (pr K N i (N.idxOf j / K) * K + N.idxOf j % K) 0 := by
  unfold pr
  rw [lw_step h h0 hj, mr_app, mr_one]

set_option maxHeartbeats 8000000 in
set_option maxRecDepth 100000 in
theorem multiply_any {base : Nat} {w : World} {fb b mb K n0 : Nat} {vl vw vr : Value} {M : List (List Nat)} {W : List (Nat × Nat)} {N : List Nat} {D : DataW Unit} (h : FN base w fb b mb K n0 vl vw vr M W N D) (wy : WyO K M W N) (fst : Fst K M.length N) (hk : 1 ≤ K ∧ K ≤ 8) {i : Nat} (hi : i < M.length) {R : Nat} {P L : Nat → Nat → Prop} (hRT : RT w R M.length K N P L) (hpr : ∀ a b, a < M.length → b < M.length → pr K N a b < M.length) (off nK : Nat) (ho : off = M.length * K + M.length * K + i * M.length) (hnK : nK = M.length * K) :
    Calls Try.prog 64 #[.pointer (some ⟨fb, 0, none⟩), .int .i64 i, .agg #[.int .i64 (K : Int), .slice (some ⟨R, 0, none⟩) nK nK], .slice (some ⟨R, off, none⟩) M.length M.length] w fun e w' => e = .returned (.tuple #[]) ∧ Only (fun j => j = R) w w' ∧ RT w' R M.length K N (fun a b => P a b ∨ a = i) L := by
  have hmo := h.tb.most
  have hn2 : M.length * M.length ≤ 512 * 512 := Nat.mul_le_mul hmo hmo
  have hnk2 : M.length * K ≤ 512 * 8 := Nat.mul_le_mul hmo hk.2
  have HRl : Hid (R < w.heap.size) := hRT.lt
  obtain ⟨wa, wc, hvw⟩ := own_shape h.ways
  rw [wy.len] at hvw
  subst hvw
  have hwr := h.ways
  rw [wy.len] at hwr
  obtain ⟨gw, rfl⟩ : ∃ gw, wa = some ⟨gw, 0, none⟩ := by
    rcases hwr.2 with ⟨_, h0⟩ | ⟨g', cap', cur, hv, _⟩
    · omega
    · simp only [Value.slice.injEq] at hv
      exact ⟨g', hv.1⟩
  have hcap : M.length ≤ wc := by
    rcases hwr.2 with ⟨h1, _⟩ | ⟨g', cap', cur, hv, _, _, r, _⟩
    · cases h1
    · simp only [Value.slice.injEq] at hv
      omega
  have hgwR : gw ≠ R := by
    obtain ⟨_, cur, hc⟩ := own_blk hwr (b := gw) rfl
    obtain ⟨cur2, h1, _⟩ := hRT
    exact blk_ne hc h1 (by decide)
  have hfbR : fb ≠ R := by
    obtain ⟨cur2, h1, _⟩ := hRT
    exact blk_ne h.box h1 (by decide)
  have hfbl : fb < w.heap.size := (Array.getElem?_eq_some_iff.1 h.box).1
  have HWC : Hid (∀ (j : Nat) (p : Nat × Nat), W[j]? = some p → w.cell? ⟨gw, j * 2, none⟩ = some (.int .i64 (p.1 : Int)) ∧ w.cell? ⟨gw, j * 2 + 1, none⟩ = some (.int .i64 (p.2 : Int)) ∧ gw < w.heap.size) := fun j p hj => by
    obtain ⟨a1, a2⟩ := wyC_at W j p hj
    have hjl := (List.getElem?_eq_some_iff.1 hj).1
    have hl := wy.len
    refine ⟨?_, ?_, (hwr.lt gw rfl).2⟩
    · rw [hwr.cellAt (j * 2) (by omega)]; exact a1
    · rw [hwr.cellAt (j * 2 + 1) (by omega)]; exact a2
  have hM : 0 < M.length := by omega
  have HWY : Hid (WyO K M W N) := wy
  have HFS : Hid (Fst K M.length N) := fst
  have HPR : Hid (∀ a b, a < M.length → b < M.length → pr K N a b < M.length) := hpr
  have HO : Hid (off = M.length * K + M.length * K + i * M.length) := ho
  have HNK : Hid (nK = M.length * K) := hnK
  obtain ⟨w1, hw1⟩ : ∃ w1, w1 = w.alloc (.cells #[.int .i64 (K : Int), .slice (some ⟨R, 0, none⟩) nK nK] 70) := ⟨_, rfl⟩
  have HW1 : Hid (w1 = w.alloc (.cells #[.int .i64 (K : Int), .slice (some ⟨R, 0, none⟩) nK nK] 70)) := hw1
  have HO1 : Hid (Only (fun j => j = R) w w1) := by show Only _ _ _; rw [hw1]; exact Only.of (below_new _ _)
  have HG1 : Hid (w1.heap[w.heap.size]? = some (.cells #[.int .i64 (K : Int), .slice (some ⟨R, 0, none⟩) nK nK] 70 (0, 0))) := by show _ = _; rw [hw1]; exact heap_last _ _
  have HR1 : Hid (RT w1 R M.length K N P L) := by show RT _ _ _ _ _ _ _; rw [hw1]; exact hRT.keep (heap_allo HRl.out _)
  have hio : off + 0 < M.length * K + M.length * K + M.length * M.length := by have := idx_lt (m := M.length) hi hM; omega
  obtain ⟨c10, f10⟩ := HR1.out.here hio
  obtain ⟨w2, hw2⟩ : ∃ w2, w2 = w1.setCell ⟨R, off + 0, none⟩ (.int .u16 (i : Int)) := ⟨_, rfl⟩
  rw [Nat.add_zero] at c10 f10 hw2
  have HW2 : Hid (w2 = w1.setCell ⟨R, off, none⟩ (.int .u16 (i : Int))) := hw2
  have HO2 : Hid (Only (fun j => j = R) w w2) := by show Only _ _ _; rw [hw2]; exact HO1.out.set rfl
  have HG2 : Hid (w2.heap[w.heap.size]? = some (.cells #[.int .i64 (K : Int), .slice (some ⟨R, 0, none⟩) nK nK] 70 (0, 0))) := by show _ = _; rw [hw2, heap_set_other (by have := HRl.out; omega)]; exact HG1.out
  have HR2 : Hid (RT w2 R M.length K N (fun a b => P a b ∨ (a = i ∧ b < 0 + 1)) L) := by
    have := HR1.out.putP hi hM
    rw [pr_one, Nat.add_zero, ← ho, ← hw2] at this
    exact this.mono (fun a b _ _ q => q.imp id (fun q => ⟨q.1, by omega⟩)) (fun _ _ _ _ q => q)
  have hw16 : IntKind.u16.wrap (i : Int) = (i : Int) := by rw [IntKind.wrap_u16]; omega
  have hMI : (0 : Int) < (M.length : Int) := by omega
  have t2 : w2.cell? ⟨fb, 2, none⟩ = some (.slice (some ⟨gw, 0, none⟩) M.length wc) := by
    rw [World.cell?_of_block (HO2.out.block fb hfbl hfbR)]
    exact cell_at h.box rfl
  clear h wy fst hwr hRT hpr ho hnK hw1 hw2
  by_cases hwc1 : wc = 1
  · have HM1 : Hid (M.length = 1) := by show _ = _; omega
    subst hwc1
    go_enter Try.func64, Try.ntmps64
    go_upto_region 1 with fail
    rw [← HW1.out]
    go_upto_region 2 with fail
    rw [← HW2.out]
    go_wp2_with fail
    go_loopw [20, 8, 9] (fun vi _ _ wr => vi = .int .i64 0 ∧ wr = w2) (fun _ _ _ _ => 0)
    case atStart => exact ⟨rfl, rfl⟩
    case round =>
      obtain ⟨rfl, rfl⟩ := hrel
      have hl0 : M.length - 1 = 0 := by have := HM1.out; omega
      go_wp2_with fail
      go_end0
      refine ⟨rfl, HO2.out, HR2.out.mono (fun a b ha hb q => q.imp id (fun q => ⟨q, by have := HM1.out; omega⟩)) (fun _ _ _ _ q => q)⟩
  · have hw2c : ¬ wc - 1 = 0 := by omega
    go_enter Try.func64, Try.ntmps64
    go_upto_region 1 with fail
    rw [← HW1.out]
    go_upto_region 2 with fail
    rw [← HW2.out]
    go_wp2_with fail
    go_loopw [20, 8, 9] (fun vi _ _ wr => ∃ j : Nat, vi = .int .i64 j ∧ j + 1 ≤ M.length ∧ RT wr R M.length K N (fun a b => P a b ∨ (a = i ∧ b < j + 1)) L ∧ Only (fun j => j = R) w wr ∧ wr.heap[w.heap.size]? = some (.cells #[.int .i64 (K : Int), .slice (some ⟨R, 0, none⟩) nK nK] 70 (0, 0))) (fun vi _ _ _ => M.length - (intOf vi).toNat)
    case atStart => exact ⟨0, rfl, hM, HR2.out, HO2.out, HG2.out⟩
    case round =>
      clear HR2 HO2 HG2 HR1 HO1 HG1 HW1 HW2 c10 f10 t2 hw16
      obtain ⟨j, rfl, hin, hR, hOn, hG⟩ := hrel
      have HR : Hid (RT wr R M.length K N (fun a b => P a b ∨ (a = i ∧ b < j + 1)) L) := hR
      have HOn : Hid (Only (fun j => j = R) w wr) := hOn
      have HG : Hid (wr.heap[w.heap.size]? = some (.cells #[.int .i64 (K : Int), .slice (some ⟨R, 0, none⟩) nK nK] 70 (0, 0))) := hG
      clear hR hOn hG
      by_cases hlt : j + 1 < M.length
      · have hjI : (j : Int) < ((M.length - 1 : Nat) : Int) := by omega
        have hwy := HWY.out.at' (j + 1) (by omega) hlt
        obtain ⟨hm, hq⟩ := HFS.out (j + 1) (by omega) hlt
        have hst := pr_step HFS.out (i := i) (j := j + 1) (by omega) hlt
        obtain ⟨fr, hfr⟩ : ∃ fr, N.idxOf (j + 1) / K = fr := ⟨_, rfl⟩
        obtain ⟨lt, hlet⟩ : ∃ lt, N.idxOf (j + 1) % K = lt := ⟨_, rfl⟩
        have hltK : lt < K := by rw [← hlet]; exact Nat.mod_lt _ (by omega)
        rw [hfr] at hwy hq hst
        rw [hlet] at hwy hst
        obtain ⟨x, hx⟩ : ∃ x, pr K N i fr = x := ⟨_, rfl⟩
        have hxn : x < M.length := by rw [← hx]; exact HPR.out i fr hi (by omega)
        obtain ⟨qx, hqx⟩ : ∃ qx, x * K = qx := ⟨_, rfl⟩
        have hqlt : qx + lt < M.length * K := by rw [← hqx]; exact idx_lt hxn hltK
        obtain ⟨v, hv⟩ : ∃ v, pr K N i (j + 1) = v := ⟨_, rfl⟩
        have hvn : v < M.length := by rw [← hv]; exact HPR.out i (j + 1) hi hlt
        rw [hx, hqx] at hst
        obtain ⟨c0, c1, hgw⟩ := HWC.out (j + 1) _ hwy
        have d0 : wr.cell? ⟨gw, 2 + j * 2, none⟩ = some (.int .i64 (fr : Int)) := by rw [World.cell?_of_block (HOn.out.block gw hgw hgwR), show 2 + j * 2 = (j + 1) * 2 by omega]; exact c0
        have d1 : wr.cell? ⟨gw, 2 + j * 2 + 1, none⟩ = some (.int .i64 (lt : Int)) := by rw [World.cell?_of_block (HOn.out.block gw hgw hgwR), show 2 + j * 2 + 1 = (j + 1) * 2 + 1 by omega]; exact c1
        obtain ⟨y0, hy0⟩ : ∃ y0, y0 = wr.alloc (.cells #[.int .i64 (fr : Int), .int .i64 (lt : Int)] 110) := ⟨_, rfl⟩
        have hb0 : Below wr.heap.size wr y0 := by rw [hy0]; exact below_new _ _
        have HRY : Hid (RT y0 R M.length K N (fun a b => P a b ∨ (a = i ∧ b < j + 1)) L) := HR.out.keep (hb0.block _ HR.out.lt)
        have HOY : Hid (Only (fun j => j = R) w y0) := HOn.out.trans (Only.of hb0)
        have HGY : Hid (y0.heap[w.heap.size]? = some (.cells #[.int .i64 (K : Int), .slice (some ⟨R, 0, none⟩) nK nK] 70 (0, 0))) := (hb0.block _ (Array.getElem?_eq_some_iff.1 HG.out).1).trans HG.out
        have hwyb : y0.heap[wr.heap.size]? = some (.cells #[.int .i64 (fr : Int), .int .i64 (lt : Int)] 110 (0, 0)) := by rw [hy0]; exact heap_last _ _
        have hRw : R < wr.heap.size := HR.out.lt
        have hRlw := HRl.out
        have hio := idx_lt (m := M.length) hi hlt
        have hoo := HO.out
        have S0 : ((∀ o, (y0.drew).cell? ⟨w.heap.size, o, none⟩ = (#[.int .i64 (K : Int), .slice (some ⟨R, 0, none⟩) nK nK] : Array Value)[o]?) ∧ (∀ o, (y0.drew).cell? ⟨wr.heap.size, o, none⟩ = (#[.int .i64 (fr : Int), .int .i64 (lt : Int)] : Array Value)[o]?) ∧ (y0.drew).cell? ⟨R, off + fr, none⟩ = some (.int .u16 (x : Int)) ∧ (y0.drew).cell? ⟨R, 0 + (qx + lt), none⟩ = some (.int .u16 (v : Int)) ∧ (y0.drew).cell? ⟨R, off + (j + 1), none⟩ = some (pvS (y0.drew) R (off + (j + 1))) ∧ (y0.drew).frozen? ⟨R, off + (j + 1), none⟩ = false ∧ R < (y0.drew).heap.size) := by
          refine ⟨fun o => cell_of_row _ _ _ _ _ _ HGY.out, fun o => cell_of_row _ _ _ _ _ _ hwyb, ?_, ?_, (HRY.out.here (by omega)).1, (HRY.out.here (by omega)).2, HRY.out.lt⟩
          · have := HRY.out.prod hi (show fr < M.length by omega) (.inr ⟨rfl, by omega⟩)
            rw [hx, ← Nat.add_assoc, ← hoo] at this
            exact this
          · have := HRY.out.right hqlt
            rw [← hst, hv, ← Nat.zero_add (qx + lt)] at this
            exact this
        have HSK : Hid (∀ y y' : World, ((∀ o, y.cell? ⟨w.heap.size, o, none⟩ = (#[.int .i64 (K : Int), .slice (some ⟨R, 0, none⟩) nK nK] : Array Value)[o]?) ∧ (∀ o, y.cell? ⟨wr.heap.size, o, none⟩ = (#[.int .i64 (fr : Int), .int .i64 (lt : Int)] : Array Value)[o]?) ∧ y.cell? ⟨R, off + fr, none⟩ = some (.int .u16 (x : Int)) ∧ y.cell? ⟨R, 0 + (qx + lt), none⟩ = some (.int .u16 (v : Int)) ∧ y.cell? ⟨R, off + (j + 1), none⟩ = some (pvS y R (off + (j + 1))) ∧ y.frozen? ⟨R, off + (j + 1), none⟩ = false ∧ R < y.heap.size) → Below y.heap.size y y' → ((∀ o, y'.cell? ⟨w.heap.size, o, none⟩ = (#[.int .i64 (K : Int), .slice (some ⟨R, 0, none⟩) nK nK] : Array Value)[o]?) ∧ (∀ o, y'.cell? ⟨wr.heap.size, o, none⟩ = (#[.int .i64 (fr : Int), .int .i64 (lt : Int)] : Array Value)[o]?) ∧ y'.cell? ⟨R, off + fr, none⟩ = some (.int .u16 (x : Int)) ∧ y'.cell? ⟨R, 0 + (qx + lt), none⟩ = some (.int .u16 (v : Int)) ∧ y'.cell? ⟨R, off + (j + 1), none⟩ = some (pvS y' R (off + (j + 1))) ∧ y'.frozen? ⟨R, off + (j + 1), none⟩ = false ∧ R < y'.heap.size)) := fun y y' hy hb => by
          have hgy : w.heap.size < y.heap.size := World.block_lt_of_cell? y ⟨w.heap.size, 0, none⟩ (hy.1 0)
          have hwy' : wr.heap.size < y.heap.size := World.block_lt_of_cell? y ⟨wr.heap.size, 0, none⟩ (hy.2.1 0)
          have hRy := hy.2.2.2.2.2.2
          refine ⟨fun o => by rw [below_cellJ hb hgy]; exact hy.1 o, fun o => by rw [below_cellJ hb hwy']; exact hy.2.1 o, by rw [below_cellJ hb hRy]; exact hy.2.2.1, by rw [below_cellJ hb hRy]; exact hy.2.2.2.1, ?_, ?_, by have := hb.size; omega⟩
          · refine cell_pv ?_
            rw [below_cellJ hb hRy, hy.2.2.2.2.1]; rfl
          · rw [frozen_blk' (hb.block R hRy)]; exact hy.2.2.2.2.2.1
        have HST : Hid (∀ (y : World) (u : Value), ((∀ o, y.cell? ⟨w.heap.size, o, none⟩ = (#[.int .i64 (K : Int), .slice (some ⟨R, 0, none⟩) nK nK] : Array Value)[o]?) ∧ (∀ o, y.cell? ⟨wr.heap.size, o, none⟩ = (#[.int .i64 (fr : Int), .int .i64 (lt : Int)] : Array Value)[o]?) ∧ y.cell? ⟨R, off + fr, none⟩ = some (.int .u16 (x : Int)) ∧ y.cell? ⟨R, 0 + (qx + lt), none⟩ = some (.int .u16 (v : Int)) ∧ y.cell? ⟨R, off + (j + 1), none⟩ = some (pvS y R (off + (j + 1))) ∧ y.frozen? ⟨R, off + (j + 1), none⟩ = false ∧ R < y.heap.size) → ((∀ o, (y.setCell ⟨R, off + (j + 1), none⟩ u).cell? ⟨w.heap.size, o, none⟩ = (#[.int .i64 (K : Int), .slice (some ⟨R, 0, none⟩) nK nK] : Array Value)[o]?) ∧ (∀ o, (y.setCell ⟨R, off + (j + 1), none⟩ u).cell? ⟨wr.heap.size, o, none⟩ = (#[.int .i64 (fr : Int), .int .i64 (lt : Int)] : Array Value)[o]?) ∧ (y.setCell ⟨R, off + (j + 1), none⟩ u).cell? ⟨R, off + fr, none⟩ = some (.int .u16 (x : Int)) ∧ (y.setCell ⟨R, off + (j + 1), none⟩ u).cell? ⟨R, 0 + (qx + lt), none⟩ = some (.int .u16 (v : Int)) ∧ (y.setCell ⟨R, off + (j + 1), none⟩ u).cell? ⟨R, off + (j + 1), none⟩ = some (pvS (y.setCell ⟨R, off + (j + 1), none⟩ u) R (off + (j + 1))) ∧ (y.setCell ⟨R, off + (j + 1), none⟩ u).frozen? ⟨R, off + (j + 1), none⟩ = false ∧ R < (y.setCell ⟨R, off + (j + 1), none⟩ u).heap.size)) := fun y u hy => by
          refine ⟨fun o => ?_, fun o => ?_, ?_, ?_, ?_, ?_, ?_⟩
          · rw [World.cell?_of_block (heap_set_other (show w.heap.size ≠ R by omega))]; exact hy.1 o
          · rw [World.cell?_of_block (heap_set_other (show wr.heap.size ≠ R by omega))]; exact hy.2.1 o
          · rw [cell_set_off (by omega)]; exact hy.2.2.1
          · rw [cell_set_off (by omega)]; exact hy.2.2.2.1
          · exact cell_pv (cell_set_some hy.2.2.2.2.1)
          · rw [frozen_set]; exact hy.2.2.2.2.2.1
          · simp only [World.setCell, Array.size_modify]; exact hy.2.2.2.2.2.2
        have HGA : Hid (∀ y : World, ((∀ o, y.cell? ⟨w.heap.size, o, none⟩ = (#[.int .i64 (K : Int), .slice (some ⟨R, 0, none⟩) nK nK] : Array Value)[o]?) ∧ (∀ o, y.cell? ⟨wr.heap.size, o, none⟩ = (#[.int .i64 (fr : Int), .int .i64 (lt : Int)] : Array Value)[o]?) ∧ y.cell? ⟨R, off + fr, none⟩ = some (.int .u16 (x : Int)) ∧ y.cell? ⟨R, 0 + (qx + lt), none⟩ = some (.int .u16 (v : Int)) ∧ y.cell? ⟨R, off + (j + 1), none⟩ = some (pvS y R (off + (j + 1))) ∧ y.frozen? ⟨R, off + (j + 1), none⟩ = false ∧ R < y.heap.size) → Calls Try.prog 33 #[.agg #[.int .i64 (K : Int), .slice (some ⟨R, 0, none⟩) nK nK], .int .i64 x, .int .i64 lt] y fun e w' => e = .returned (.int .i64 v) ∧ Below y.heap.size y w') := fun y hy => gat_any R 0 K x lt nK nK qx v hqx (by rw [HNK.out]; exact hqlt) (by omega) (by rw [HNK.out]; omega) y hy.2.2.2.1 hy.2.2.2.2.2.2
        have HY0 : Hid (y0 = wr.alloc (.cells #[.int .i64 (fr : Int), .int .i64 (lt : Int)] 110)) := hy0
        have hfrI : (fr : Int) < (M.length : Int) := by omega
        have hj1I : (j : Int) + 1 < (M.length : Int) := by omega
        have hwi : IntKind.i64.wrap ((j : Int) + 1) = (j : Int) + 1 := by rw [IntKind.wrap_i64]; omega
        have hi3 : (0 : Int) ≤ (j : Int) + 1 := by omega
        have hwx : IntKind.i64.wrap (x : Int) = (x : Int) := by rw [IntKind.wrap_i64]; omega
        have hwv : IntKind.u16.wrap (v : Int) = (v : Int) := by rw [IntKind.wrap_u16]; omega
        have HV : Hid (pr K N i (j + 1) = v) := hv
        have HIO : Hid (i * M.length + (j + 1) < M.length * M.length) := hio
        clear hx hfr hlet hwy hst hq hm c0 c1 hgw hy0 hb0 hwyb hv hqx hio hoo
        go_wp2_with fail
        rw [← HY0.out]
        clear d0 d1 HY0
        go_region_held3 (fun y => ((∀ o, y.cell? ⟨w.heap.size, o, none⟩ = (#[.int .i64 (K : Int), .slice (some ⟨R, 0, none⟩) nK nK] : Array Value)[o]?) ∧ (∀ o, y.cell? ⟨wr.heap.size, o, none⟩ = (#[.int .i64 (fr : Int), .int .i64 (lt : Int)] : Array Value)[o]?) ∧ y.cell? ⟨R, off + fr, none⟩ = some (.int .u16 (x : Int)) ∧ y.cell? ⟨R, 0 + (qx + lt), none⟩ = some (.int .u16 (v : Int)) ∧ y.cell? ⟨R, off + (j + 1), none⟩ = some (pvS y R (off + (j + 1))) ∧ y.frozen? ⟨R, off + (j + 1), none⟩ = false ∧ R < y.heap.size)) (first | assumption | exact S0 | exact HSK.out _ _ (by assumption) (by assumption) | exact HST.out _ _ (by assumption)) (first | (go_at_call 33; refine (HGA.out _ (by first | exact S0 | assumption)).mono ?_; rintro e y1 ⟨rfl, hy1⟩))
        have HON : Hid (Only (fun j => j = R) w (y1.setCell ⟨R, off + (j + 1), none⟩ (.int .u16 (v : Int)))) := ((HOY.out.trans (Only.of (Below.refl _ _).drew)).trans (Only.of hy1)).set rfl
        have HRN : Hid (RT (y1.setCell ⟨R, off + (j + 1), none⟩ (.int .u16 (v : Int))) R M.length K N (fun a b => P a b ∨ (a = i ∧ b < j + 1 + 1)) L) := by
          have h1 : RT y1 R M.length K N (fun a b => P a b ∨ (a = i ∧ b < j + 1)) L := HRY.out.keep (hy1.block _ HRY.out.lt)
          have := h1.putP hi hlt
          rw [HV.out, ← Nat.add_assoc, ← HO.out] at this
          exact this.mono (fun a b _ _ q => by rcases q with q | ⟨q, q2⟩; exact .inl (.inl q); exact (by by_cases e : b = j + 1; exact .inr ⟨q, e⟩; exact .inl (.inr ⟨q, by omega⟩))) (fun _ _ _ _ q => q)
        have HGN : Hid ((y1.setCell ⟨R, off + (j + 1), none⟩ (.int .u16 (v : Int))).heap[w.heap.size]? = some (.cells #[.int .i64 (K : Int), .slice (some ⟨R, 0, none⟩) nK nK] 70 (0, 0))) := (heap_set_other (by omega)).trans ((hy1.block _ (Array.getElem?_eq_some_iff.1 HGY.out).1).trans HGY.out)
        clear S0 hy1
        go_wp2_with fail
        go_roundw
        case rel => exact ⟨j + 1, by go_num, by omega, HRN.out, HON.out, HGN.out⟩
        case measure => simp [intOf]; omega
      · have hjI : ¬ (j : Int) < ((M.length - 1 : Nat) : Int) := by omega
        have HE : Hid (j + 1 = M.length) := by show _ = _; omega
        go_wp2_with fail
        go_end0
        refine ⟨rfl, HOn.out, HR.out.mono (fun a b ha hb q => q.imp id (fun q => ⟨q, by have := HE.out; omega⟩)) (fun _ _ _ _ q => q)⟩
end Go.Proofs.Ytabkhoiccjkghaa
