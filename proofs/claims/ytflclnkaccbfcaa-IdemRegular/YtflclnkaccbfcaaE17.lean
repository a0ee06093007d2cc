/- slices.Clone of ints and bools; monoid.fresh. -/
import Derived.Test.YtflclnkaccbfcaaE12
namespace Go.Proofs.Ytflclnkaccbfcaa
open Go Go.RowKit Go.Lib Go.Maps
set_option linter.unusedVariables false

theorem eq_slice_nil {t e : TypeId} {n c : Nat} (hu : Try.prog.underlying t = some (.slice e)) (a : Addr) (w : World) : (binOp .eql t (.slice (some a) n c) (.slice none 0 0)).run Try.prog w = .ok (.bool false) w := by
  simp only [binOp]
  simp only [Op.equal, Op.maxDepth]
  rw [show (10000 : Nat) = 9999 + 1 from rfl, Op.equalIn]
  simp [Sem.run_bind, run_underlying hu]

set_option maxHeartbeats 2000000 in
set_option maxRecDepth 100000 in
theorem cloneI_any (a : Option Addr) (cp : Nat) (xs : List Int) (w : World) (h : SR w a (zC xs)) (hn : 1 ≤ xs.length) (hb : xs.length ≤ 40000) :
    Calls Try.prog 82 #[.slice a xs.length cp] w fun e w' => ∃ g c, e = .returned (.slice (some ⟨g, 0, none⟩) xs.length c) ∧ w'.ownsRow w.heap.size 3 1 (.slice (some ⟨g, 0, none⟩) xs.length c) xs.length (zC xs) ∧ Below w.heap.size w w' := by
  have hln : (zC xs).length = xs.length := zC_len xs
  obtain ⟨g0, o0, rfl, hg0, hc0⟩ := h 0 _ (List.getElem?_eq_getElem (by omega))
  have HSR : Hid (SR w (some ⟨g0, o0, none⟩) (zC xs)) := h
  obtain ⟨i0, hi, hz0, hz1, hz2⟩ := info_parts Try.info_int
  have HO : Hid ((w.alloc (.cells #[] 3)).ownsRow w.heap.size 3 1 (.slice (some ⟨w.heap.size, 0, none⟩) 0 0) 0 []) := ⟨rfl, .inr ⟨w.heap.size, 0, #[], rfl, Nat.le_refl _, heap_last _ _, Nat.le_refl _, Nat.zero_le _, rfl, rfl⟩⟩
  have KN : Hid (∀ (j : Nat) (u : Value), (zC xs)[j]? = some u → (w.alloc (.cells #[] 3)).cell? ((⟨g0, o0, none⟩ : Addr).add j) = some u) := fun j u hu => by
    obtain ⟨g, o, e, hg, hc⟩ := HSR.out j u hu
    simp only [Option.some.injEq, Addr.mk.injEq, and_true] at e
    obtain ⟨rfl, rfl⟩ := e
    have hadd : (⟨g0, o0, none⟩ : Addr).add j = ⟨g0, o0 + j, none⟩ := by unfold Addr.add; split <;> simp_all
    rw [hadd, World.cell?_of_block (heap_allo hg _)]
    exact hc
  have HLN : Hid ((zC xs).length = xs.length) := hln
  have HOC : Hid (∀ u ∈ zC xs, u.oneCell' = true) := fun u hu => by
    unfold zC at hu
    obtain ⟨n, _, rfl⟩ := List.mem_map.1 hu
    rfl
  have heq := eq_slice_nil (t := 23) (e := 3) (n := xs.length) (c := cp) Try.underlying23 ⟨g0, o0, none⟩ w
  clear h hc0 hln
  go_enter Try.func82, Try.ntmps82
  go_wp2_with (at_builtin; refine wpList_append_own_at _ rfl _ _ 23 rfl w.heap.size 3 i0 (.int .i64 0) 1 8 Try.underlying23 hi hz0 hz1 hz2 rfl (by decide) _ _ _ rfl HO.out ⟨g0, o0, none⟩ xs.length cp (zC xs) rfl (by rw [HLN.out]; omega) KN.out HOC.out (by unfold maxLen; omega) (by omega) (by simp) ?_; intro v7 w7 ho7 hg7 hn7 hl7)
  have hB : Below w.heap.size w w7 := (below_new w _).grown hg7 (by simp) (fun b hb => by have q : some w.heap.size = some b := hb; simp only [Option.some.injEq] at q; omega)
  obtain ⟨va, vc, rfl⟩ := own_shape ho7
  obtain ⟨g, rfl⟩ : ∃ g, va = some ⟨g, 0, none⟩ := by
    rcases ho7.2 with ⟨q, h0⟩ | ⟨g', cap', cur, hv, _⟩
    · omega
    · simp only [Value.slice.injEq] at hv
      exact ⟨g', hv.1⟩
  rw [Nat.zero_add] at ho7
  have HO7 : Hid (w7.ownsRow w.heap.size 3 1 (.slice (some ⟨g, 0, none⟩) xs.length vc) xs.length (zC xs)) := ho7
  have HB7 : Hid (Below w.heap.size w w7) := hB
  clear ho7 hg7 hn7 hl7 hB
  rw [Nat.zero_add]
  go_ret
  exact ⟨g, vc, rfl, HO7.out, HB7.out⟩

set_option maxHeartbeats 2000000 in
set_option maxRecDepth 100000 in
theorem cloneB_any (a : Option Addr) (cp : Nat) (xs : List Bool) (w : World) (h : SR w a (bC xs)) (hn : 1 ≤ xs.length) (hb : xs.length ≤ 40000) :
    Calls Try.prog 83 #[.slice a xs.length cp] w fun e w' => ∃ g c, e = .returned (.slice (some ⟨g, 0, none⟩) xs.length c) ∧ w'.ownsRow w.heap.size 4 1 (.slice (some ⟨g, 0, none⟩) xs.length c) xs.length (bC xs) ∧ Below w.heap.size w w' := by
  have hln : (bC xs).length = xs.length := bC_len xs
  obtain ⟨g0, o0, rfl, hg0, hc0⟩ := h 0 _ (List.getElem?_eq_getElem (by omega))
  have HSR : Hid (SR w (some ⟨g0, o0, none⟩) (bC xs)) := h
  obtain ⟨i0, hi, hz0, hz1, hz2⟩ := info_parts Try.info_bool
  have HO : Hid ((w.alloc (.cells #[] 4)).ownsRow w.heap.size 4 1 (.slice (some ⟨w.heap.size, 0, none⟩) 0 0) 0 []) := ⟨rfl, .inr ⟨w.heap.size, 0, #[], rfl, Nat.le_refl _, heap_last _ _, Nat.le_refl _, Nat.zero_le _, rfl, rfl⟩⟩
  have KN : Hid (∀ (j : Nat) (u : Value), (bC xs)[j]? = some u → (w.alloc (.cells #[] 4)).cell? ((⟨g0, o0, none⟩ : Addr).add j) = some u) := fun j u hu => by
    obtain ⟨g, o, e, hg, hc⟩ := HSR.out j u hu
    simp only [Option.some.injEq, Addr.mk.injEq, and_true] at e
    obtain ⟨rfl, rfl⟩ := e
    have hadd : (⟨g0, o0, none⟩ : Addr).add j = ⟨g0, o0 + j, none⟩ := by unfold Addr.add; split <;> simp_all
    rw [hadd, World.cell?_of_block (heap_allo hg _)]
    exact hc
  have HLN : Hid ((bC xs).length = xs.length) := hln
  have HOC : Hid (∀ u ∈ bC xs, u.oneCell' = true) := fun u hu => by
    unfold bC at hu
    obtain ⟨n, _, rfl⟩ := List.mem_map.1 hu
    rfl
  have heq := eq_slice_nil (t := 24) (e := 4) (n := xs.length) (c := cp) Try.underlying24 ⟨g0, o0, none⟩ w
  clear h hc0 hln
  go_enter Try.func83, Try.ntmps83
  go_wp2_with (at_builtin; refine wpList_append_own_at _ rfl _ _ 24 rfl w.heap.size 4 i0 (.bool false) 1 1 Try.underlying24 hi hz0 hz1 hz2 rfl (by decide) _ _ _ rfl HO.out ⟨g0, o0, none⟩ xs.length cp (bC xs) rfl (by rw [HLN.out]; omega) KN.out HOC.out (by unfold maxLen; omega) (by omega) (by simp) ?_; intro v7 w7 ho7 hg7 hn7 hl7)
  have hB : Below w.heap.size w w7 := (below_new w _).grown hg7 (by simp) (fun b hb => by have q : some w.heap.size = some b := hb; simp only [Option.some.injEq] at q; omega)
  obtain ⟨va, vc, rfl⟩ := own_shape ho7
  obtain ⟨g, rfl⟩ : ∃ g, va = some ⟨g, 0, none⟩ := by
    rcases ho7.2 with ⟨q, h0⟩ | ⟨g', cap', cur, hv, _⟩
    · omega
    · simp only [Value.slice.injEq] at hv
      exact ⟨g', hv.1⟩
  rw [Nat.zero_add] at ho7
  have HO7 : Hid (w7.ownsRow w.heap.size 4 1 (.slice (some ⟨g, 0, none⟩) xs.length vc) xs.length (bC xs)) := ho7
  have HB7 : Hid (Below w.heap.size w w7) := hB
  clear ho7 hg7 hn7 hl7 hB
  rw [Nat.zero_add]
  go_ret
  exact ⟨g, vc, rfl, HO7.out, HB7.out⟩

theorem Try.info_au : (Try.prog.info? 26).map (·.size) = some 3 := by kernel_rfl
/-- The result's block. -/
def FZ (rs : Nat) (y : World) : Prop := ∃ a b c, y.heap[rs]? = some (.cells #[a, b, c] 26 (0, 0))
theorem FZ.facts {rs : Nat} {y : World} (h : FZ rs y) : y.cell? ⟨rs, 0, none⟩ = some (pvS y rs 0) ∧ y.cell? ⟨rs, 1, none⟩ = some (pvS y rs 1) ∧ y.cell? ⟨rs, 2, none⟩ = some (pvS y rs 2) ∧ (∀ o, y.frozen? ⟨rs, o, none⟩ = false) := by
  obtain ⟨a, b, c, h⟩ := h
  refine ⟨cell_pv ?_, cell_pv ?_, cell_pv ?_, fun o => frozen_blk h o⟩
  · rw [cell_at h (v := a) rfl]; rfl
  · rw [cell_at h (v := b) rfl]; rfl
  · rw [cell_at h (v := c) rfl]; rfl
theorem FZ.set {rs : Nat} {y : World} (h : FZ rs y) (x0 x1 x2 : Value) : (((y.setCell ⟨rs, 0, none⟩ x0).setCell ⟨rs, 1, none⟩ x1).setCell ⟨rs, 2, none⟩ x2).heap[rs]? = some (.cells #[x0, x1, x2] 26 (0, 0)) := by
  obtain ⟨a, b, c, h⟩ := h
  exact heap_set (heap_set (heap_set h))
/-- An automaton whose lists lie in rows of one's own. -/
def AW (base : Nat) (w : World) (v : Value) (B : Aut) : Prop := ∃ an cn aa ca, v = .agg #[.int .i64 B.k, .slice an B.nx.length cn, .slice aa B.ac.length ca] ∧ w.ownsRow base 3 1 (.slice an B.nx.length cn) B.nx.length (zC B.nx) ∧ w.ownsRow base 4 1 (.slice aa B.ac.length ca) B.ac.length (bC B.ac)
theorem AW.ar {base : Nat} {w : World} {v : Value} {B : Aut} (h : AW base w v B) : AR w v B := by
  obtain ⟨an, cn, aa, ca, rfl, h1, h2⟩ := h
  exact ⟨an, cn, aa, ca, rfl, own_sr h1, own_sr h2⟩
theorem AW.below {base : Nat} {w w' : World} {v : Value} {B : Aut} (h : AW base w v B) (hb : Below w.heap.size w w') : AW base w' v B := by
  obtain ⟨an, cn, aa, ca, rfl, h1, h2⟩ := h
  exact ⟨an, cn, aa, ca, rfl, own_below h1 hb, own_below h2 hb⟩
set_option maxHeartbeats 2000000 in
set_option maxRecDepth 100000 in
theorem fresh_any (v : Value) (A : Aut) (w : World) (h : AR w v A) (hx : 1 ≤ A.nx.length) (ha : 1 ≤ A.ac.length) (hb : A.nx.length ≤ 40000) (hb2 : A.ac.length ≤ 40000) :
    Calls Try.prog 60 #[v] w fun e w' => ∃ v', e = .returned v' ∧ AW w.heap.size w' v' A ∧ Below w.heap.size w w' := by
  obtain ⟨an, cn, aa, ca, e, h1, h2⟩ := h.is
  subst e
  obtain ⟨rs, hrs⟩ : ∃ rs, w.heap.size + 1 = rs := ⟨_, rfl⟩
  obtain ⟨w1, hw1⟩ : ∃ w1, w1 = (w.alloc (.cells #[.int .i64 A.k, .slice an A.nx.length cn, .slice aa A.ac.length ca] 26)).alloc (.cells #[.int .i64 0, .slice none 0 0, .slice none 0 0] 26) := ⟨_, rfl⟩
  have HW1 : Hid (w1 = (w.alloc (.cells #[.int .i64 A.k, .slice an A.nx.length cn, .slice aa A.ac.length ca] 26)).alloc (.cells #[.int .i64 0, .slice none 0 0, .slice none 0 0] 26)) := hw1
  have hb1 : Below w.heap.size w w1 := by rw [hw1]; exact go_on (below_new _ _) (below_new _ _)
  have HB1 : Hid (Below w.heap.size w w1) := hb1
  have hs1 : w1.heap.size = rs + 1 := by rw [hw1, ← hrs]; simp
  have HR1 : Hid (RowAt w1 w.heap.size #[.int .i64 A.k, .slice an A.nx.length cn, .slice aa A.ac.length ca]) := by show RowAt _ _ _; rw [hw1]; exact (RowAt.last _ _ _).stay (below_new _ _)
  have HZ1 : Hid (FZ rs w1) := by
    have := heap_last (w.alloc (.cells #[.int .i64 A.k, .slice an A.nx.length cn, .slice aa A.ac.length ca] 26)) (.cells #[.int .i64 0, .slice none 0 0, .slice none 0 0] 26)
    rw [World.size_alloc, hrs, ← hw1] at this
    exact ⟨_, _, _, this⟩
  have HS1 : Hid (∀ y, Below w.heap.size w y → SR y an (zC A.nx)) := fun y hy => h1.stay hy
  have HS2 : Hid (∀ y, Below w.heap.size w y → SR y aa (bC A.ac)) := fun y hy => h2.stay hy
  have HMK : Hid (∀ y, RowAt y w.heap.size #[.int .i64 A.k, .slice an A.nx.length cn, .slice aa A.ac.length ca] → FZ rs y → ((∀ o, y.cell? ⟨w.heap.size, o, none⟩ = (#[.int .i64 A.k, .slice an A.nx.length cn, .slice aa A.ac.length ca] : Array Value)[o]?) ∧ y.cell? ⟨rs, 0, none⟩ = some (pvS y rs 0) ∧ y.cell? ⟨rs, 1, none⟩ = some (pvS y rs 1) ∧ y.cell? ⟨rs, 2, none⟩ = some (pvS y rs 2) ∧ (∀ o, y.frozen? ⟨rs, o, none⟩ = false) ∧ FZ rs y)) := fun y hr hz => ⟨hr.cell, hz.facts.1, hz.facts.2.1, hz.facts.2.2.1, hz.facts.2.2.2, hz⟩
  have HSK : Hid (∀ y y' : World, ((∀ o, y.cell? ⟨w.heap.size, o, none⟩ = (#[.int .i64 A.k, .slice an A.nx.length cn, .slice aa A.ac.length ca] : Array Value)[o]?) ∧ y.cell? ⟨rs, 0, none⟩ = some (pvS y rs 0) ∧ y.cell? ⟨rs, 1, none⟩ = some (pvS y rs 1) ∧ y.cell? ⟨rs, 2, none⟩ = some (pvS y rs 2) ∧ (∀ o, y.frozen? ⟨rs, o, none⟩ = false) ∧ FZ rs y) → Below y.heap.size y y' → ((∀ o, y'.cell? ⟨w.heap.size, o, none⟩ = (#[.int .i64 A.k, .slice an A.nx.length cn, .slice aa A.ac.length ca] : Array Value)[o]?) ∧ y'.cell? ⟨rs, 0, none⟩ = some (pvS y' rs 0) ∧ y'.cell? ⟨rs, 1, none⟩ = some (pvS y' rs 1) ∧ y'.cell? ⟨rs, 2, none⟩ = some (pvS y' rs 2) ∧ (∀ o, y'.frozen? ⟨rs, o, none⟩ = false) ∧ FZ rs y')) := fun y y' hy hb => by
    have k1 : w.heap.size < y.heap.size := World.block_lt_of_cell? y ⟨w.heap.size, 0, none⟩ (hy.1 0)
    have k2 : rs < y.heap.size := World.block_lt_of_cell? y ⟨rs, 0, none⟩ hy.2.1
    refine HMK.out y' ⟨by have := hb.size; omega, fun o => by rw [below_cellJ hb k1]; exact hy.1 o⟩ ?_
    obtain ⟨a, b, c, q⟩ := hy.2.2.2.2.2
    exact ⟨a, b, c, (hb.block rs k2).trans q⟩
  have HST : Hid (∀ (y : World) (x0 x1 x2 : Value), ((∀ o, y.cell? ⟨w.heap.size, o, none⟩ = (#[.int .i64 A.k, .slice an A.nx.length cn, .slice aa A.ac.length ca] : Array Value)[o]?) ∧ y.cell? ⟨rs, 0, none⟩ = some (pvS y rs 0) ∧ y.cell? ⟨rs, 1, none⟩ = some (pvS y rs 1) ∧ y.cell? ⟨rs, 2, none⟩ = some (pvS y rs 2) ∧ (∀ o, y.frozen? ⟨rs, o, none⟩ = false) ∧ FZ rs y) → ((∀ o, (((y.setCell ⟨rs, 0, none⟩ x0).setCell ⟨rs, 1, none⟩ x1).setCell ⟨rs, 2, none⟩ x2).cell? ⟨w.heap.size, o, none⟩ = (#[.int .i64 A.k, .slice an A.nx.length cn, .slice aa A.ac.length ca] : Array Value)[o]?) ∧ (((y.setCell ⟨rs, 0, none⟩ x0).setCell ⟨rs, 1, none⟩ x1).setCell ⟨rs, 2, none⟩ x2).cell? ⟨rs, 0, none⟩ = some (pvS (((y.setCell ⟨rs, 0, none⟩ x0).setCell ⟨rs, 1, none⟩ x1).setCell ⟨rs, 2, none⟩ x2) rs 0) ∧ (((y.setCell ⟨rs, 0, none⟩ x0).setCell ⟨rs, 1, none⟩ x1).setCell ⟨rs, 2, none⟩ x2).cell? ⟨rs, 1, none⟩ = some (pvS (((y.setCell ⟨rs, 0, none⟩ x0).setCell ⟨rs, 1, none⟩ x1).setCell ⟨rs, 2, none⟩ x2) rs 1) ∧ (((y.setCell ⟨rs, 0, none⟩ x0).setCell ⟨rs, 1, none⟩ x1).setCell ⟨rs, 2, none⟩ x2).cell? ⟨rs, 2, none⟩ = some (pvS (((y.setCell ⟨rs, 0, none⟩ x0).setCell ⟨rs, 1, none⟩ x1).setCell ⟨rs, 2, none⟩ x2) rs 2) ∧ (∀ o, (((y.setCell ⟨rs, 0, none⟩ x0).setCell ⟨rs, 1, none⟩ x1).setCell ⟨rs, 2, none⟩ x2).frozen? ⟨rs, o, none⟩ = false) ∧ FZ rs (((y.setCell ⟨rs, 0, none⟩ x0).setCell ⟨rs, 1, none⟩ x1).setCell ⟨rs, 2, none⟩ x2))) := fun y x0 x1 x2 hy => by
    have k1 : w.heap.size < y.heap.size := World.block_lt_of_cell? y ⟨w.heap.size, 0, none⟩ (hy.1 0)
    have k3 : w.heap.size ≠ rs := by omega
    refine HMK.out _ ⟨by simp [World.setCell]; exact k1, fun o => ?_⟩ ⟨_, _, _, hy.2.2.2.2.2.set x0 x1 x2⟩
    rw [World.cell?_of_block ((heap_set_other k3).trans ((heap_set_other k3).trans (heap_set_other k3)))]
    exact hy.1 o
  have S0 : ((∀ o, (w1.drew).cell? ⟨w.heap.size, o, none⟩ = (#[.int .i64 A.k, .slice an A.nx.length cn, .slice aa A.ac.length ca] : Array Value)[o]?) ∧ (w1.drew).cell? ⟨rs, 0, none⟩ = some (pvS (w1.drew) rs 0) ∧ (w1.drew).cell? ⟨rs, 1, none⟩ = some (pvS (w1.drew) rs 1) ∧ (w1.drew).cell? ⟨rs, 2, none⟩ = some (pvS (w1.drew) rs 2) ∧ (∀ o, (w1.drew).frozen? ⟨rs, o, none⟩ = false) ∧ FZ rs (w1.drew)) := HMK.out _ (HR1.out.stay (Below.refl _ _).drew) HZ1.out
  have HRS : Hid (w.heap.size + 1 = rs) := hrs
  have HRG : Hid (w.heap.size < rs) := by show _ < _; omega
  have HSZ : Hid (w1.heap.size = rs + 1) := hs1
  clear h h1 h2 hw1 hb1 hs1 hrs
  go_enter Try.func60, Try.ntmps60
  go_upto_region 1 with fail
  rw [← HW1.out, HRS.out]
  go_region_held3 (fun y => ((∀ o, y.cell? ⟨w.heap.size, o, none⟩ = (#[.int .i64 A.k, .slice an A.nx.length cn, .slice aa A.ac.length ca] : Array Value)[o]?) ∧ y.cell? ⟨rs, 0, none⟩ = some (pvS y rs 0) ∧ y.cell? ⟨rs, 1, none⟩ = some (pvS y rs 1) ∧ y.cell? ⟨rs, 2, none⟩ = some (pvS y rs 2) ∧ (∀ o, y.frozen? ⟨rs, o, none⟩ = false) ∧ FZ rs y)) (first | assumption | exact S0 | exact HSK.out _ _ (by assumption) (by assumption) | exact HST.out _ _ _ _ (by assumption)) (first
    | (go_at_call 83; have q := K1; refine (cloneB_any aa ca A.ac _ (HS2.out _ K1.out) ha hb2).mono ?_; rintro e y2 ⟨g2, c2, rfl, ho2, hB2⟩; have HO2 : Hid _ := ho2; have HB2 : Hid _ := hB2; clear ho2)
    | (go_at_call 82; refine (cloneI_any an cn A.nx _ (HS1.out _ HB1.out.drew) hx hb).mono ?_; rintro e y1 ⟨g1, c1, rfl, ho1, hB1⟩; have HO1 : Hid _ := ho1; have K1 : Hid (Below w.heap.size w y1) := go_on HB1.out.drew hB1; clear ho1))
  have hz2 : FZ rs y2 := by
    obtain ⟨a, b, c, q⟩ := HZ1.out
    have k2 : rs < w1.heap.size := by rw [HSZ.out]; omega
    refine ⟨a, b, c, ?_⟩
    have hy12 : Below w1.heap.size w1 y2 := go_on (go_on (Below.refl _ _).drew hB1) HB2.out
    exact (hy12.block rs k2).trans q
  have HF := hz2.set (.int .i64 A.k) (.slice (some ⟨g1, 0, none⟩) A.nx.length c1) (.slice (some ⟨g2, 0, none⟩) A.ac.length c2)
  have HFH : Hid _ := HF
  have hE1 : w1.drew.heap.size = rs + 1 := HSZ.out
  have ho1 : y2.ownsRow w1.drew.heap.size 3 1 (.slice (some ⟨g1, 0, none⟩) A.nx.length c1) A.nx.length (zC A.nx) := own_below HO1.out HB2.out
  have ho2 : y2.ownsRow w1.drew.heap.size 4 1 (.slice (some ⟨g2, 0, none⟩) A.ac.length c2) A.ac.length (bC A.ac) := own_mono HO2.out hB1.size
  have HBF : Hid (Below w.heap.size w y2) := go_on K1.out HB2.out
  have HO1' : Hid _ := ho1
  have HO2' : Hid _ := ho2
  have HE1 : Hid (w1.drew.heap.size = rs + 1) := hE1
  clear S0 hB1 hz2 HF ho1 ho2 hE1
  go_wp2_with fail
  refine bodyPost_ret (results_cell_row rfl _ _ rs 26 _ (0, 0) _ rfl HFH.out Try.underlying26 rfl (by rw [Try.info_au]; rfl)) rfl ⟨_, rfl, ⟨_, _, _, _, rfl, ?_, ?_⟩, ?_⟩
  · refine own_mono (own_keep HO1'.out (fun b cur hb hc => ?_)) (by rw [HE1.out]; have := HRG.out; omega)
    have hne : b ≠ rs := by have := (own_blk HO1'.out hb).1; rw [HE1.out] at this; omega
    rw [heap_set_other hne, heap_set_other hne, heap_set_other hne]
  · refine own_mono (own_keep HO2'.out (fun b cur hb hc => ?_)) (by rw [HE1.out]; have := HRG.out; omega)
    have hne : b ≠ rs := by have := (own_blk HO2'.out hb).1; rw [HE1.out] at this; omega
    rw [heap_set_other hne, heap_set_other hne, heap_set_other hne]
  · have hg : w.heap.size ≤ rs := by have := HRG.out; omega
    exact ((HBF.out.setCell (p := ⟨rs, 0, none⟩) hg _).setCell (p := ⟨rs, 1, none⟩) hg _).setCell (p := ⟨rs, 2, none⟩) hg _

end Go.Proofs.Ytflclnkaccbfcaa
