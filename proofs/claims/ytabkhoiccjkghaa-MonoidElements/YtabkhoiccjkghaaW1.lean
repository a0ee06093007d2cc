/- E17 E18 E19 E20 E21 E22 E25 E28 E29 E32h E32 E33 E34 E35 E36, in one text. -/
import Derived.Test.YtabkhoiccjkghaaE12
import Derived.Test.YtabkhoiccjkghaaE16
import Derived.Shelf.LaysM
import Derived.Shelf.Strconv.Clone
import Derived.Test.YtabkhoiccjkghaaChk
import Derived.Lib.OthersKept
import Derived.Test.YtabkhoiccjkghaaJe
import Derived.Laws.IdiomStrings
import Derived.Test.YtabkhoiccjkghaaJd
import Derived.Test.YtabkhoiccjkghaaJf
import Derived.Test.YtabkhoiccjkghaaE6
namespace Go.Proofs.Ytabkhoiccjkghaa
open Go Go.RowKit Go.Lib Go.Maps
set_option linter.unusedVariables false

theorem eq_slice_nil {t e : TypeId} {n c : Nat} (hu : Try.prog.underlying t = some (.slice e)) (a : Addr) (w : World) : (binOp .eql t (.slice (some a) n c) (.slice none 0 0)).run Try.prog w = .ok (.bool false) w := by
  simp only [binOp]
  simp only [Op.equal, Op.maxDepth]
  rw [show (10000 : Nat) = 9999 + 1 from rfl, Op.equalIn]
  simp [Sem.run_bind, run_underlying hu]

set_option maxHeartbeats 2000000 in
set_option maxRecDepth 100000 in
theorem cloneI_any (a : Option Addr) (cp : Nat) (xs : List Int) (w : World) (h : SR w a (zC xs)) (hn : 1 ≤ xs.length) (hb : xs.length ≤ 40000) :
    Calls Try.prog 53 #[.slice a xs.length cp] w fun e w' => ∃ g c, e = .returned (.slice (some ⟨g, 0, none⟩) xs.length c) ∧ w'.ownsRow w.heap.size 3 1 (.slice (some ⟨g, 0, none⟩) xs.length c) xs.length (zC xs) ∧ Below w.heap.size w w' := by
  have hln : (zC xs).length = xs.length := zC_len xs
  obtain ⟨g0, o0, rfl, hg0, hc0⟩ := h 0 _ (List.getElem?_eq_getElem (by omega))
  have HSR : Hid (SR w (some ⟨g0, o0, none⟩) (zC xs)) := h
  obtain ⟨i0, hi, hz0, hz1, hz2⟩ := info_parts Try.info_int
  have HO : Hid ((w.alloc (.cells #[] 3)).ownsRow w.heap.size 3 1 (.slice (some ⟨w.heap.size, 0, none⟩) 0 0) 0 []) := ⟨rfl, .inr ⟨w.heap.size, 0, #[], rfl, Nat.le_refl _, heap_last _ _, Nat.le_refl _, Nat.zero_le _, rfl, rfl⟩⟩
  have KN : Hid (∀ (j : Nat) (u : Value), (zC xs)[j]? = some u → (w.alloc (.cells #[] 3)).cell? ((⟨g0, o0, none⟩ : Addr).add j) = some u) := fun j u hu => by
    obtain ⟨g, o, e, hg, hc⟩ := HSR.out j u hu
    simp only [Option.some.injEq, Addr.mk.injEq, and_true] at e
    obtain ⟨rfl, rfl⟩ := e
    have hadd : (⟨g0, o0, none⟩ : Addr).add j = ⟨g0, o0 + j, none⟩ := by unfold Addr.add; split <;> simp_all
    rw [hadd, World.cell?_of_block (heap_allo hg _)]
    exact hc
  have HLN : Hid ((zC xs).length = xs.length) := hln
  have HOC : Hid (∀ u ∈ zC xs, u.oneCell' = true) := fun u hu => by
    unfold zC at hu
    obtain ⟨n, _, rfl⟩ := List.mem_map.1 hu
    rfl
  have heq := eq_slice_nil (t := 22) (e := 3) (n := xs.length) (c := cp) Try.underlying22 ⟨g0, o0, none⟩ w
  clear h hc0 hln
  go_enter Try.func53, Try.ntmps53
  go_wp2_with (at_builtin; refine wpList_append_own_at _ rfl _ _ 22 rfl w.heap.size 3 i0 (.int .i64 0) 1 8 Try.underlying22 hi hz0 hz1 hz2 rfl (by decide) _ _ _ rfl HO.out ⟨g0, o0, none⟩ xs.length cp (zC xs) rfl (by rw [HLN.out]; omega) KN.out HOC.out (by unfold maxLen; omega) (by omega) (by simp) ?_; intro v7 w7 ho7 hg7 hn7 hl7)
  have hB : Below w.heap.size w w7 := (below_new w _).grown hg7 (by simp) (fun b hb => by have q : some w.heap.size = some b := hb; simp only [Option.some.injEq] at q; omega)
  obtain ⟨va, vc, rfl⟩ := own_shape ho7
  obtain ⟨g, rfl⟩ : ∃ g, va = some ⟨g, 0, none⟩ := by
    rcases ho7.2 with ⟨q, h0⟩ | ⟨g', cap', cur, hv, _⟩
    · omega
    · simp only [Value.slice.injEq] at hv
      exact ⟨g', hv.1⟩
  rw [Nat.zero_add] at ho7
  have HO7 : Hid (w7.ownsRow w.heap.size 3 1 (.slice (some ⟨g, 0, none⟩) xs.length vc) xs.length (zC xs)) := ho7
  have HB7 : Hid (Below w.heap.size w w7) := hB
  clear ho7 hg7 hn7 hl7 hB
  rw [Nat.zero_add]
  go_ret
  exact ⟨g, vc, rfl, HO7.out, HB7.out⟩

set_option maxHeartbeats 2000000 in
set_option maxRecDepth 100000 in
theorem cloneB_any (a : Option Addr) (cp : Nat) (xs : List Bool) (w : World) (h : SR w a (bC xs)) (hn : 1 ≤ xs.length) (hb : xs.length ≤ 40000) :
    Calls Try.prog 54 #[.slice a xs.length cp] w fun e w' => ∃ g c, e = .returned (.slice (some ⟨g, 0, none⟩) xs.length c) ∧ w'.ownsRow w.heap.size 4 1 (.slice (some ⟨g, 0, none⟩) xs.length c) xs.length (bC xs) ∧ Below w.heap.size w w' := by
  have hln : (bC xs).length = xs.length := bC_len xs
  obtain ⟨g0, o0, rfl, hg0, hc0⟩ := h 0 _ (List.getElem?_eq_getElem (by omega))
  have HSR : Hid (SR w (some ⟨g0, o0, none⟩) (bC xs)) := h
  obtain ⟨i0, hi, hz0, hz1, hz2⟩ := info_parts Try.info_bool
  have HO : Hid ((w.alloc (.cells #[] 4)).ownsRow w.heap.size 4 1 (.slice (some ⟨w.heap.size, 0, none⟩) 0 0) 0 []) := ⟨rfl, .inr ⟨w.heap.size, 0, #[], rfl, Nat.le_refl _, heap_last _ _, Nat.le_refl _, Nat.zero_le _, rfl, rfl⟩⟩
  have KN : Hid (∀ (j : Nat) (u : Value), (bC xs)[j]? = some u → (w.alloc (.cells #[] 4)).cell? ((⟨g0, o0, none⟩ : Addr).add j) = some u) := fun j u hu => by
    obtain ⟨g, o, e, hg, hc⟩ := HSR.out j u hu
    simp only [Option.some.injEq, Addr.mk.injEq, and_true] at e
    obtain ⟨rfl, rfl⟩ := e
    have hadd : (⟨g0, o0, none⟩ : Addr).add j = ⟨g0, o0 + j, none⟩ := by unfold Addr.add; split <;> simp_all
    rw [hadd, World.cell?_of_block (heap_allo hg _)]
    exact hc
  have HLN : Hid ((bC xs).length = xs.length) := hln
  have HOC : Hid (∀ u ∈ bC xs, u.oneCell' = true) := fun u hu => by
    unfold bC at hu
    obtain ⟨n, _, rfl⟩ := List.mem_map.1 hu
    rfl
  have heq := eq_slice_nil (t := 23) (e := 4) (n := xs.length) (c := cp) Try.underlying23 ⟨g0, o0, none⟩ w
  clear h hc0 hln
  go_enter Try.func54, Try.ntmps54
  go_wp2_with (at_builtin; refine wpList_append_own_at _ rfl _ _ 23 rfl w.heap.size 4 i0 (.bool false) 1 1 Try.underlying23 hi hz0 hz1 hz2 rfl (by decide) _ _ _ rfl HO.out ⟨g0, o0, none⟩ xs.length cp (bC xs) rfl (by rw [HLN.out]; omega) KN.out HOC.out (by unfold maxLen; omega) (by omega) (by simp) ?_; intro v7 w7 ho7 hg7 hn7 hl7)
  have hB : Below w.heap.size w w7 := (below_new w _).grown hg7 (by simp) (fun b hb => by have q : some w.heap.size = some b := hb; simp only [Option.some.injEq] at q; omega)
  obtain ⟨va, vc, rfl⟩ := own_shape ho7
  obtain ⟨g, rfl⟩ : ∃ g, va = some ⟨g, 0, none⟩ := by
    rcases ho7.2 with ⟨q, h0⟩ | ⟨g', cap', cur, hv, _⟩
    · omega
    · simp only [Value.slice.injEq] at hv
      exact ⟨g', hv.1⟩
  rw [Nat.zero_add] at ho7
  have HO7 : Hid (w7.ownsRow w.heap.size 4 1 (.slice (some ⟨g, 0, none⟩) xs.length vc) xs.length (bC xs)) := ho7
  have HB7 : Hid (Below w.heap.size w w7) := hB
  clear ho7 hg7 hn7 hl7 hB
  rw [Nat.zero_add]
  go_ret
  exact ⟨g, vc, rfl, HO7.out, HB7.out⟩

theorem Try.info_au : (Try.prog.info? 25).map (·.size) = some 3 := by kernel_rfl
/-- The result's block. -/
def FZ (rs : Nat) (y : World) : Prop := ∃ a b c, y.heap[rs]? = some (.cells #[a, b, c] 25 (0, 0))
theorem FZ.facts {rs : Nat} {y : World} (h : FZ rs y) : y.cell? ⟨rs, 0, none⟩ = some (pvS y rs 0) ∧ y.cell? ⟨rs, 1, none⟩ = some (pvS y rs 1) ∧ y.cell? ⟨rs, 2, none⟩ = some (pvS y rs 2) ∧ (∀ o, y.frozen? ⟨rs, o, none⟩ = false) := by
  obtain ⟨a, b, c, h⟩ := h
  refine ⟨cell_pv ?_, cell_pv ?_, cell_pv ?_, fun o => frozen_blk h o⟩
  · rw [cell_at h (v := a) rfl]; rfl
  · rw [cell_at h (v := b) rfl]; rfl
  · rw [cell_at h (v := c) rfl]; rfl
theorem FZ.set {rs : Nat} {y : World} (h : FZ rs y) (x0 x1 x2 : Value) : (((y.setCell ⟨rs, 0, none⟩ x0).setCell ⟨rs, 1, none⟩ x1).setCell ⟨rs, 2, none⟩ x2).heap[rs]? = some (.cells #[x0, x1, x2] 25 (0, 0)) := by
  obtain ⟨a, b, c, h⟩ := h
  exact heap_set (heap_set (heap_set h))
/-- An automaton whose lists lie in rows of one's own. -/
def AW (base : Nat) (w : World) (v : Value) (B : Aut) : Prop := ∃ an cn aa ca, v = .agg #[.int .i64 B.k, .slice an B.nx.length cn, .slice aa B.ac.length ca] ∧ w.ownsRow base 3 1 (.slice an B.nx.length cn) B.nx.length (zC B.nx) ∧ w.ownsRow base 4 1 (.slice aa B.ac.length ca) B.ac.length (bC B.ac)
theorem AW.ar {base : Nat} {w : World} {v : Value} {B : Aut} (h : AW base w v B) : AR w v B := by
  obtain ⟨an, cn, aa, ca, rfl, h1, h2⟩ := h
  exact ⟨an, cn, aa, ca, rfl, own_sr h1, own_sr h2⟩
theorem AW.below {base : Nat} {w w' : World} {v : Value} {B : Aut} (h : AW base w v B) (hb : Below w.heap.size w w') : AW base w' v B := by
  obtain ⟨an, cn, aa, ca, rfl, h1, h2⟩ := h
  exact ⟨an, cn, aa, ca, rfl, own_below h1 hb, own_below h2 hb⟩
set_option maxHeartbeats 2000000 in
set_option maxRecDepth 100000 in
theorem fresh_any (v : Value) (A : Aut) (w : World) (h : AR w v A) (hx : 1 ≤ A.nx.length) (ha : 1 ≤ A.ac.length) (hb : A.nx.length ≤ 40000) (hb2 : A.ac.length ≤ 40000) :
    Calls Try.prog 38 #[v] w fun e w' => ∃ v', e = .returned v' ∧ AW w.heap.size w' v' A ∧ Below w.heap.size w w' := by
  obtain ⟨an, cn, aa, ca, e, h1, h2⟩ := h.is
  subst e
  obtain ⟨rs, hrs⟩ : ∃ rs, w.heap.size + 1 = rs := ⟨_, rfl⟩
  obtain ⟨w1, hw1⟩ : ∃ w1, w1 = (w.alloc (.cells #[.int .i64 A.k, .slice an A.nx.length cn, .slice aa A.ac.length ca] 25)).alloc (.cells #[.int .i64 0, .slice none 0 0, .slice none 0 0] 25) := ⟨_, rfl⟩
  have HW1 : Hid (w1 = (w.alloc (.cells #[.int .i64 A.k, .slice an A.nx.length cn, .slice aa A.ac.length ca] 25)).alloc (.cells #[.int .i64 0, .slice none 0 0, .slice none 0 0] 25)) := hw1
  have hb1 : Below w.heap.size w w1 := by rw [hw1]; exact go_on (below_new _ _) (below_new _ _)
  have HB1 : Hid (Below w.heap.size w w1) := hb1
  have hs1 : w1.heap.size = rs + 1 := by rw [hw1, ← hrs]; simp
  have HR1 : Hid (RowAt w1 w.heap.size #[.int .i64 A.k, .slice an A.nx.length cn, .slice aa A.ac.length ca]) := by show RowAt _ _ _; rw [hw1]; exact (RowAt.last _ _ _).stay (below_new _ _)
  have HZ1 : Hid (FZ rs w1) := by
    have := heap_last (w.alloc (.cells #[.int .i64 A.k, .slice an A.nx.length cn, .slice aa A.ac.length ca] 25)) (.cells #[.int .i64 0, .slice none 0 0, .slice none 0 0] 25)
    rw [World.size_alloc, hrs, ← hw1] at this
    exact ⟨_, _, _, this⟩
  have HS1 : Hid (∀ y, Below w.heap.size w y → SR y an (zC A.nx)) := fun y hy => h1.stay hy
  have HS2 : Hid (∀ y, Below w.heap.size w y → SR y aa (bC A.ac)) := fun y hy => h2.stay hy
  have HMK : Hid (∀ y, RowAt y w.heap.size #[.int .i64 A.k, .slice an A.nx.length cn, .slice aa A.ac.length ca] → FZ rs y → ((∀ o, y.cell? ⟨w.heap.size, o, none⟩ = (#[.int .i64 A.k, .slice an A.nx.length cn, .slice aa A.ac.length ca] : Array Value)[o]?) ∧ y.cell? ⟨rs, 0, none⟩ = some (pvS y rs 0) ∧ y.cell? ⟨rs, 1, none⟩ = some (pvS y rs 1) ∧ y.cell? ⟨rs, 2, none⟩ = some (pvS y rs 2) ∧ (∀ o, y.frozen? ⟨rs, o, none⟩ = false) ∧ FZ rs y)) := fun y hr hz => ⟨hr.cell, hz.facts.1, hz.facts.2.1, hz.facts.2.2.1, hz.facts.2.2.2, hz⟩
  have HSK : Hid (∀ y y' : World, ((∀ o, y.cell? ⟨w.heap.size, o, none⟩ = (#[.int .i64 A.k, .slice an A.nx.length cn, .slice aa A.ac.length ca] : Array Value)[o]?) ∧ y.cell? ⟨rs, 0, none⟩ = some (pvS y rs 0) ∧ y.cell? ⟨rs, 1, none⟩ = some (pvS y rs 1) ∧ y.cell? ⟨rs, 2, none⟩ = some (pvS y rs 2) ∧ (∀ o, y.frozen? ⟨rs, o, none⟩ = false) ∧ FZ rs y) → Below y.heap.size y y' → ((∀ o, y'.cell? ⟨w.heap.size, o, none⟩ = (#[.int .i64 A.k, .slice an A.nx.length cn, .slice aa A.ac.length ca] : Array Value)[o]?) ∧ y'.cell? ⟨rs, 0, none⟩ = some (pvS y' rs 0) ∧ y'.cell? ⟨rs, 1, none⟩ = some (pvS y' rs 1) ∧ y'.cell? ⟨rs, 2, none⟩ = some (pvS y' rs 2) ∧ (∀ o, y'.frozen? ⟨rs, o, none⟩ = false) ∧ FZ rs y')) := fun y y' hy hb => by
    have k1 : w.heap.size < y.heap.size := World.block_lt_of_cell? y ⟨w.heap.size, 0, none⟩ (hy.1 0)
    have k2 : rs < y.heap.size := World.block_lt_of_cell? y ⟨rs, 0, none⟩ hy.2.1
    refine HMK.out y' ⟨by have := hb.size; omega, fun o => by rw [below_cellJ hb k1]; exact hy.1 o⟩ ?_
    obtain ⟨a, b, c, q⟩ := hy.2.2.2.2.2
    exact ⟨a, b, c, (hb.block rs k2).trans q⟩
  have HST : Hid (∀ (y : World) (x0 x1 x2 : Value), ((∀ o, y.cell? ⟨w.heap.size, o, none⟩ = (#[.int .i64 A.k, .slice an A.nx.length cn, .slice aa A.ac.length ca] : Array Value)[o]?) ∧ y.cell? ⟨rs, 0, none⟩ = some (pvS y rs 0) ∧ y.cell? ⟨rs, 1, none⟩ = some (pvS y rs 1) ∧ y.cell? ⟨rs, 2, none⟩ = some (pvS y rs 2) ∧ (∀ o, y.frozen? ⟨rs, o, none⟩ = false) ∧ FZ rs y) → ((∀ o, (((y.setCell ⟨rs, 0, none⟩ x0).setCell ⟨rs, 1, none⟩ x1).setCell ⟨rs, 2, none⟩ x2).cell? ⟨w.heap.size, o, none⟩ = (#[.int .i64 A.k, .slice an A.nx.length cn, .slice aa A.ac.length ca] : Array Value)[o]?) ∧ (((y.setCell ⟨rs, 0, none⟩ x0).setCell ⟨rs, 1, none⟩ x1).setCell ⟨rs, 2, none⟩ x2).cell? ⟨rs, 0, none⟩ = some (pvS (((y.setCell ⟨rs, 0, none⟩ x0).setCell ⟨rs, 1, none⟩ x1).setCell ⟨rs, 2, none⟩ x2) rs 0) ∧ (((y.setCell ⟨rs, 0, none⟩ x0).setCell ⟨rs, 1, none⟩ x1).setCell ⟨rs, 2, none⟩ x2).cell? ⟨rs, 1, none⟩ = some (pvS (((y.setCell ⟨rs, 0, none⟩ x0).setCell ⟨rs, 1, none⟩ x1).setCell ⟨rs, 2, none⟩ x2) rs 1) ∧ (((y.setCell ⟨rs, 0, none⟩ x0).setCell ⟨rs, 1, none⟩ x1).setCell ⟨rs, 2, none⟩ x2).cell? ⟨rs, 2, none⟩ = some (pvS (((y.setCell ⟨rs, 0, none⟩ x0).setCell ⟨rs, 1, none⟩ x1).setCell ⟨rs, 2, none⟩ x2) rs 2) ∧ (∀ o, (((y.setCell ⟨rs, 0, none⟩ x0).setCell ⟨rs, 1, none⟩ x1).setCell ⟨rs, 2, none⟩ x2).frozen? ⟨rs, o, none⟩ = false) ∧ FZ rs (((y.setCell ⟨rs, 0, none⟩ x0).setCell ⟨rs, 1, none⟩ x1).setCell ⟨rs, 2, none⟩ x2))) := fun y x0 x1 x2 hy => by
    have k1 : w.heap.size < y.heap.size := World.block_lt_of_cell? y ⟨w.heap.size, 0, none⟩ (hy.1 0)
    have k3 : w.heap.size ≠ rs := by omega
    refine HMK.out _ ⟨by simp [World.setCell]; exact k1, fun o => ?_⟩ ⟨_, _, _, hy.2.2.2.2.2.set x0 x1 x2⟩
    rw [World.cell?_of_block ((heap_set_other k3).trans ((heap_set_other k3).trans (heap_set_other k3)))]
    exact hy.1 o
  have S0 : ((∀ o, (w1.drew).cell? ⟨w.heap.size, o, none⟩ = (#[.int .i64 A.k, .slice an A.nx.length cn, .slice aa A.ac.length ca] : Array Value)[o]?) ∧ (w1.drew).cell? ⟨rs, 0, none⟩ = some (pvS (w1.drew) rs 0) ∧ (w1.drew).cell? ⟨rs, 1, none⟩ = some (pvS (w1.drew) rs 1) ∧ (w1.drew).cell? ⟨rs, 2, none⟩ = some (pvS (w1.drew) rs 2) ∧ (∀ o, (w1.drew).frozen? ⟨rs, o, none⟩ = false) ∧ FZ rs (w1.drew)) := HMK.out _ (HR1.out.stay (Below.refl _ _).drew) HZ1.out
  have HRS : Hid (w.heap.size + 1 = rs) := hrs
  have HRG : Hid (w.heap.size < rs) := by show _ < _; omega
  have HSZ : Hid (w1.heap.size = rs + 1) := hs1
  clear h h1 h2 hw1 hb1 hs1 hrs
  go_enter Try.func38, Try.ntmps38
  go_upto_region 1 with fail
  rw [← HW1.out, HRS.out]
  go_region_held3 (fun y => ((∀ o, y.cell? ⟨w.heap.size, o, none⟩ = (#[.int .i64 A.k, .slice an A.nx.length cn, .slice aa A.ac.length ca] : Array Value)[o]?) ∧ y.cell? ⟨rs, 0, none⟩ = some (pvS y rs 0) ∧ y.cell? ⟨rs, 1, none⟩ = some (pvS y rs 1) ∧ y.cell? ⟨rs, 2, none⟩ = some (pvS y rs 2) ∧ (∀ o, y.frozen? ⟨rs, o, none⟩ = false) ∧ FZ rs y)) (first | assumption | exact S0 | exact HSK.out _ _ (by assumption) (by assumption) | exact HST.out _ _ _ _ (by assumption)) (first
    | (go_at_call 54; have q := K1; refine (cloneB_any aa ca A.ac _ (HS2.out _ K1.out) ha hb2).mono ?_; rintro e y2 ⟨g2, c2, rfl, ho2, hB2⟩; have HO2 : Hid _ := ho2; have HB2 : Hid _ := hB2; clear ho2)
    | (go_at_call 53; refine (cloneI_any an cn A.nx _ (HS1.out _ HB1.out.drew) hx hb).mono ?_; rintro e y1 ⟨g1, c1, rfl, ho1, hB1⟩; have HO1 : Hid _ := ho1; have K1 : Hid (Below w.heap.size w y1) := go_on HB1.out.drew hB1; clear ho1))
  have hz2 : FZ rs y2 := by
    obtain ⟨a, b, c, q⟩ := HZ1.out
    have k2 : rs < w1.heap.size := by rw [HSZ.out]; omega
    refine ⟨a, b, c, ?_⟩
    have hy12 : Below w1.heap.size w1 y2 := go_on (go_on (Below.refl _ _).drew hB1) HB2.out
    exact (hy12.block rs k2).trans q
  have HF := hz2.set (.int .i64 A.k) (.slice (some ⟨g1, 0, none⟩) A.nx.length c1) (.slice (some ⟨g2, 0, none⟩) A.ac.length c2)
  have HFH : Hid _ := HF
  have hE1 : w1.drew.heap.size = rs + 1 := HSZ.out
  have ho1 : y2.ownsRow w1.drew.heap.size 3 1 (.slice (some ⟨g1, 0, none⟩) A.nx.length c1) A.nx.length (zC A.nx) := own_below HO1.out HB2.out
  have ho2 : y2.ownsRow w1.drew.heap.size 4 1 (.slice (some ⟨g2, 0, none⟩) A.ac.length c2) A.ac.length (bC A.ac) := own_mono HO2.out hB1.size
  have HBF : Hid (Below w.heap.size w y2) := go_on K1.out HB2.out
  have HO1' : Hid _ := ho1
  have HO2' : Hid _ := ho2
  have HE1 : Hid (w1.drew.heap.size = rs + 1) := hE1
  clear S0 hB1 hz2 HF ho1 ho2 hE1
  go_wp2_with fail
  refine bodyPost_ret (results_cell_row rfl _ _ rs 25 _ (0, 0) _ rfl HFH.out Try.underlying25 rfl (by rw [Try.info_au]; rfl)) rfl ⟨_, rfl, ⟨_, _, _, _, rfl, ?_, ?_⟩, ?_⟩
  · refine own_mono (own_keep HO1'.out (fun b cur hb hc => ?_)) (by rw [HE1.out]; have := HRG.out; omega)
    have hne : b ≠ rs := by have := (own_blk HO1'.out hb).1; rw [HE1.out] at this; omega
    rw [heap_set_other hne, heap_set_other hne, heap_set_other hne]
  · refine own_mono (own_keep HO2'.out (fun b cur hb hc => ?_)) (by rw [HE1.out]; have := HRG.out; omega)
    have hne : b ≠ rs := by have := (own_blk HO2'.out hb).1; rw [HE1.out] at this; omega
    rw [heap_set_other hne, heap_set_other hne, heap_set_other hne]
  · have hg : w.heap.size ≤ rs := by have := HRG.out; omega
    exact ((HBF.out.setCell (p := ⟨rs, 0, none⟩) hg _).setCell (p := ⟨rs, 1, none⟩) hg _).setCell (p := ⟨rs, 2, none⟩) hg _

end Go.Proofs.Ytabkhoiccjkghaa

namespace Go.Proofs.Ytabkhoiccjkghaa
open Go Go.RowKit Go.Lib Go.Maps
set_option linter.unusedVariables false
attribute [-instance] List.instBEq instBEqProd

/-- All that a monoid's block leads to. -/
structure MP (w : World) (ob : Nat) (A : Aut) (M : List (List Nat)) (N : List Nat) (base bt b mb gw ga R n a c d : Nat) (vl : Value) (D : DataW Unit) (an : Option Addr) (cn : Nat) (aa : Option Addr) (ca : Nat) (sf : Value) : Prop where
  box : w.heap[ob]? = some (.cells #[sf, .int .i64 A.k, .slice an A.nx.length cn, .slice aa A.ac.length ca, .pointer (some ⟨b, 0, none⟩), .slice (some ⟨gw, 0, none⟩) n n, .slice (some ⟨ga, 0, none⟩) n n, .int .i64 (A.k.toNat : Int), .slice (some ⟨R, 0, none⟩) a a, .int .i64 (A.k.toNat : Int), .slice (some ⟨R, a, none⟩) a a, .int .i64 (n : Int), .slice (some ⟨R, d, none⟩) c c] 74 (0, 0))
  nx : w.ownsRow base 3 1 (.slice an A.nx.length cn) A.nx.length (zC A.nx)
  ac : w.ownsRow base 4 1 (.slice aa A.ac.length ca) A.ac.length (bC A.ac)
  tb : TB bt w b mb A.ac.length vl M D
  wp : WP w gw A.k.toNat n N n
  bp : BP w ga A M n
  rt : RT w R n A.k.toNat N (fun _ _ => True) (fun _ _ => True)
  mon : Mon A M N
  num : M.length = n ∧ n * A.k.toNat = a ∧ n * n = c ∧ a + a = d
/-- A monoid that Build made lies in block ob. -/
def MO (w : World) (ob : Nat) (A : Aut) (M : List (List Nat)) (N : List Nat) : Prop := ∃ base bt b mb gw ga R n a c d vl D an cn aa ca, MP w ob A M N base bt b mb gw ga R n a c d vl D an cn aa ca (.pointer (some ⟨ob, 0, none⟩))
theorem MP.keep {w w' : World} {ob : Nat} {A : Aut} {M : List (List Nat)} {N : List Nat} {base bt b mb gw ga R n a c d : Nat} {vl : Value} {D : DataW Unit} {an : Option Addr} {cn : Nat} {aa : Option Addr} {ca : Nat} {sf : Value} (h : MP w ob A M N base bt b mb gw ga R n a c d vl D an cn aa ca sf) (hb : Below w.heap.size w w') : MP w' ob A M N base bt b mb gw ga R n a c d vl D an cn aa ca sf :=
  ⟨(hb.block _ (Array.getElem?_eq_some_iff.1 h.box).1).trans h.box, own_below h.nx hb, own_below h.ac hb, h.tb.below hb, h.wp.keep (hb.block _ h.wp.lt), h.bp.keep (hb.block _ h.bp.lt), h.rt.keep (hb.block _ h.rt.lt), h.mon, h.num⟩
theorem MO.below {w w' : World} {ob : Nat} {A : Aut} {M : List (List Nat)} {N : List Nat} (h : MO w ob A M N) (hb : Below w.heap.size w w') : MO w' ob A M N := by
  obtain ⟨base, bt, b, mb, gw, ga, R, n, a, c, d, vl, D, an, cn, aa, ca, h⟩ := h
  exact ⟨base, bt, b, mb, gw, ga, R, n, a, c, d, vl, D, an, cn, aa, ca, h.keep hb⟩
theorem Mon.nl {A : Aut} {M : List (List Nat)} {N : List Nat} (h : Mon A M N) {p : Nat} (hp : p < N.length) : N.getD p 0 < M.length := by
  rw [getD_of (List.getElem?_eq_getElem hp)]
  exact h.bi.small (List.getElem?_eq_getElem hp)
/-- What Build answers of an automaton of at most 64 states. -/
def BdQ (A : Aut) (w : World) (e : Ending) (w' : World) : Prop :=
  (mEl A = none ∧ e = .returned (.tuple #[.pointer none, .int .i64 140]) ∧ Below w.heap.size w w') ∨
  ∃ ob M N, e = .returned (.tuple #[.pointer (some ⟨ob, 0, none⟩), .int .i64 0]) ∧ mEl A = some (M, N) ∧ MO w' ob A M N ∧ Below w.heap.size w w'
set_option maxHeartbeats 4000000 in
set_option maxRecDepth 100000 in
theorem build_any (v : Value) (A : Aut) (w : World) (h : AR w v A) (G : Good A) (h64 : A.ac.length ≤ 64) :
    Calls Try.prog 23 #[v] w (BdQ A w) := by
  have hks := G.ks
  have hn1 := G.n1
  have hln := G.len
  have hxl : 1 ≤ A.nx.length ∧ A.nx.length ≤ 40000 := by
    have h1 : (1 : Int) * 1 ≤ (A.ac.length : Int) * A.k := Int.mul_le_mul (by omega) G.k1 (by omega) (by omega)
    have h2 : (A.ac.length : Int) * A.k ≤ 64 * 8 := Int.mul_le_mul (by omega) G.k8 (by have := G.k1; omega) (by omega)
    omega
  obtain ⟨an, cn, aa, ca, e, h1, h2⟩ := h.is
  have HA : Hid (∀ w', Below w.heap.size w w' → AR w' v A) := fun w' hb => h.stay hb
  clear h h1 h2 hln
  subst e
  have HGd : Hid (Good A) := G
  obtain ⟨w0, hw0⟩ : ∃ w0, w0 = w.alloc (.cells #[.int .i64 A.k, .slice an A.nx.length cn, .slice aa A.ac.length ca] 25) := ⟨_, rfl⟩
  have HB0 : Hid (Below w.heap.size w w0) := by show Below _ _ _; rw [hw0]; exact below_new _ _
  have HR0 : Hid (RowAt w0 w.heap.size #[.int .i64 A.k, .slice an A.nx.length cn, .slice aa A.ac.length ca]) := by show RowAt _ _ _; rw [hw0]; exact RowAt.last _ _ _
  have HW0 : Hid (w0 = w.alloc (.cells #[.int .i64 A.k, .slice an A.nx.length cn, .slice aa A.ac.length ca] 25)) := hw0
  clear hw0 G
  go_enter Try.func23, Try.ntmps23
  go_wp2_with fail
  rw [← HW0.out]
  refine (find_any _ A w0 (HA.out _ HB0.out) HGd.out h64).mono ?_
  rintro e w1 (⟨hno, rfl, hB1⟩ | ⟨base, fb, b, mb, vl, vw, vr, M, W, N, D, rfl, hE, hWY, hF, hlo, hB1⟩)
  · have HNO : Hid (mEl A = none) := hno
    have HB1 : Hid (Below w.heap.size w w1) := go_on HB0.out hB1
    clear hno hB1
    go_wp2_with fail
    go_ret2
    exact .inl ⟨HNO.out, rfl, HB1.out⟩
  · have HMon : Hid (Mon A M N) := mon_of HGd.out h64 hE
    have HE : Hid (mEl A = some (M, N)) := hE
    have HWY : Hid (WyO A.k.toNat M W N) := hWY
    have HF : Hid (FN base w1 fb b mb A.k.toNat A.ac.length vl vw vr M W N D) := hF
    have HB1 : Hid (Below w.heap.size w w1) := go_on HB0.out hB1
    have HR1 : Hid (RowAt w1 w.heap.size #[.int .i64 A.k, .slice an A.nx.length cn, .slice aa A.ac.length ca]) := HR0.out.stay hB1
    have S0 : ((∀ o, (w1.drew).cell? ⟨w.heap.size, o, none⟩ = (#[.int .i64 A.k, .slice an A.nx.length cn, .slice aa A.ac.length ca] : Array Value)[o]?) ∧ (w1.drew).cell? ⟨fb, 1, none⟩ = some (.pointer (some ⟨b, 0, none⟩))) := ⟨HR1.out.cell, cell_at HF.out.box rfl⟩
    have HSK : Hid (∀ y y' : World, ((∀ o, y.cell? ⟨w.heap.size, o, none⟩ = (#[.int .i64 A.k, .slice an A.nx.length cn, .slice aa A.ac.length ca] : Array Value)[o]?) ∧ y.cell? ⟨fb, 1, none⟩ = some (.pointer (some ⟨b, 0, none⟩))) → Below y.heap.size y y' → ((∀ o, y'.cell? ⟨w.heap.size, o, none⟩ = (#[.int .i64 A.k, .slice an A.nx.length cn, .slice aa A.ac.length ca] : Array Value)[o]?) ∧ y'.cell? ⟨fb, 1, none⟩ = some (.pointer (some ⟨b, 0, none⟩)))) := fun y y' hy hb => by
      have k1 : w.heap.size < y.heap.size := World.block_lt_of_cell? y ⟨w.heap.size, 0, none⟩ (hy.1 0)
      have k2 : fb < y.heap.size := World.block_lt_of_cell? y ⟨fb, 1, none⟩ hy.2
      exact ⟨fun o => by rw [below_cellJ hb k1]; exact hy.1 o, by rw [below_cellJ hb k2]; exact hy.2⟩
    clear hE hWY hF hB1 HR0 HW0
    go_wp2_with fail
    go_region_held3 (fun y => ((∀ o, y.cell? ⟨w.heap.size, o, none⟩ = (#[.int .i64 A.k, .slice an A.nx.length cn, .slice aa A.ac.length ca] : Array Value)[o]?) ∧ y.cell? ⟨fb, 1, none⟩ = some (.pointer (some ⟨b, 0, none⟩)))) (first | assumption | exact S0 | exact HSK.out _ _ (by assumption) (by assumption) | exact HSK.out _ _ (by assumption) (below_new _ _)) (first
      | (go_at_call 38; refine (fresh_any _ A _ (HA.out _ HB1.out.drew) hxl.1 hn1 hxl.2 (by omega)).mono ?_; rintro e y1 ⟨v1, rfl, ⟨an1, cn1, aa1, ca1, rfl, hx1, hc1⟩, hy1⟩; have K1 : Hid (Below w1.heap.size w1 y1) := go_on (Below.refl _ _).drew hy1; have HX1 : Hid (y1.ownsRow w1.drew.heap.size 3 1 (.slice an1 A.nx.length cn1) A.nx.length (zC A.nx)) := hx1; have HC1 : Hid (y1.ownsRow w1.drew.heap.size 4 1 (.slice aa1 A.ac.length ca1) A.ac.length (bC A.ac)) := hc1; have HY2 : Hid (∀ z, Below y1.heap.size y1 z → Below y1.heap.size y1 z) := fun _ q => q; clear hx1 hc1)
      | (go_at_call 42; refine (words_any (HF.out.below K1.out) HWY.out HMon.out.fst ⟨hks.1, hks.2.1⟩ HMon.out.pos).mono ?_; rintro e y2 ⟨g2, rfl, hy2, hg2, hw2⟩; have K2 : Hid (Below w1.heap.size w1 y2) := go_on K1.out hy2; have HW2 : Hid (WP y2 g2 A.k.toNat M.length N M.length) := hw2; clear hw2 hg2)
      | (go_at_call 43; refine (accepted_any (HF.out.below K2.out) HWY.out.len _ (HA.out _ (go_on HB1.out K2.out)) hn1).mono ?_; rintro e y3 ⟨g3, rfl, hy3, hg3, hb3⟩; have K3 : Hid (Below w1.heap.size w1 y3) := go_on K2.out hy3; have HP3 : Hid (BP y3 g3 A M M.length) := hb3; have HY3 : Hid (Below y2.heap.size y2 y3) := hy3; clear hb3 hg3)
      | (go_at_call 44; refine (lay_any (HF.out.below K3.out) HWY.out HMon.out.fst ⟨hks.1, hks.2.1⟩ HMon.out.pos HMon.out.len (fun a b ha hb => HMon.out.pr_lt ha hb) (fun p hp => HMon.out.nl hp)).mono ?_; rintro e y4 ⟨R, n, a, c, d, hn, ha, hc, hd, rfl, hy4, hR, hRT⟩; have K4 : Hid (Below w1.heap.size w1 y4) := go_on K3.out hy4; have HRT : Hid (RT y4 R n A.k.toNat N (fun _ _ => True) (fun _ _ => True)) := hRT; have HNM : Hid (M.length = n ∧ n * A.k.toNat = a ∧ n * n = c ∧ a + a = d) := ⟨hn, ha, hc, hd⟩; have HY4 : Hid (Below y3.heap.size y3 y4) := hy4; clear hRT hn ha hc hd hR))
    have HMP : Hid (MP (y4.alloc (.cells #[.pointer (some ⟨y4.heap.size, 0, none⟩), .int .i64 A.k, .slice an1 A.nx.length cn1, .slice aa1 A.ac.length ca1, .pointer (some ⟨b, 0, none⟩), .slice (some ⟨g2, 0, none⟩) M.length M.length, .slice (some ⟨g3, 0, none⟩) M.length M.length, .int .i64 A.k, .slice (some ⟨R, 0, none⟩) a a, .int .i64 A.k, .slice (some ⟨R, a, none⟩) a a, .int .i64 (n : Int), .slice (some ⟨R, d, none⟩) c c] 74)) y4.heap.size A M N w1.drew.heap.size base b mb g2 g3 R n a c d vl D an1 cn1 aa1 ca1 (.pointer (some ⟨y4.heap.size, 0, none⟩))) := by
      have hY14 : Below y1.heap.size y1 y4 := go_on (go_on hy2 HY3.out) HY4.out
      have hb : Below y4.heap.size y4 (y4.alloc (.cells #[.pointer (some ⟨y4.heap.size, 0, none⟩), .int .i64 A.k, .slice an1 A.nx.length cn1, .slice aa1 A.ac.length ca1, .pointer (some ⟨b, 0, none⟩), .slice (some ⟨g2, 0, none⟩) M.length M.length, .slice (some ⟨g3, 0, none⟩) M.length M.length, .int .i64 A.k, .slice (some ⟨R, 0, none⟩) a a, .int .i64 A.k, .slice (some ⟨R, a, none⟩) a a, .int .i64 (n : Int), .slice (some ⟨R, d, none⟩) c c] 74)) := below_new _ _
      have hnm := HNM.out
      refine ⟨?_, own_below (own_below HX1.out hY14) hb, own_below (own_below HC1.out hY14) hb, (HF.out.tb.below K4.out).below hb, ?_, ?_, HRT.out.keep (hb.block _ HRT.out.lt), HMon.out, hnm⟩
      · rw [hks.2.2]
        have q0 := heap_last y4 (.cells #[.pointer (some ⟨y4.heap.size, 0, none⟩), .int .i64 A.k, .slice an1 A.nx.length cn1, .slice aa1 A.ac.length ca1, .pointer (some ⟨b, 0, none⟩), .slice (some ⟨g2, 0, none⟩) M.length M.length, .slice (some ⟨g3, 0, none⟩) M.length M.length, .int .i64 A.k, .slice (some ⟨R, 0, none⟩) a a, .int .i64 A.k, .slice (some ⟨R, a, none⟩) a a, .int .i64 (n : Int), .slice (some ⟨R, d, none⟩) c c] 74)
        have e := hnm.1
        rw [q0]
        congr 3
        rw [e]
      · have h24 : Below y2.heap.size y2 y4 := go_on HY3.out HY4.out
        have q0 := HW2.out
        rw [hnm.1] at q0
        exact (q0.keep (h24.block g2 HW2.out.lt)).keep (hb.block g2 (by have := HW2.out.lt; have := h24.size; omega))
      · have q0 := HP3.out
        rw [hnm.1] at q0
        exact (q0.keep (HY4.out.block g3 HP3.out.lt)).keep (hb.block g3 (by have := HP3.out.lt; have := HY4.out.size; omega))
    have HBF : Hid (Below w.heap.size w (y4.alloc (.cells #[.pointer (some ⟨y4.heap.size, 0, none⟩), .int .i64 A.k, .slice an1 A.nx.length cn1, .slice aa1 A.ac.length ca1, .pointer (some ⟨b, 0, none⟩), .slice (some ⟨g2, 0, none⟩) M.length M.length, .slice (some ⟨g3, 0, none⟩) M.length M.length, .int .i64 A.k, .slice (some ⟨R, 0, none⟩) a a, .int .i64 A.k, .slice (some ⟨R, a, none⟩) a a, .int .i64 (n : Int), .slice (some ⟨R, d, none⟩) c c] 74))) := by
      have q := go_on HB1.out K4.out
      exact go_on q (below_new _ _)
    clear S0 hy1 hy2 hy3 hy4
    go_wp2_with fail
    go_ret2
    exact .inr ⟨y4.heap.size, M, N, rfl, HE.out, ⟨_, _, _, _, _, _, _, _, _, _, _, _, _, _, _, _, _, HMP.out⟩, HBF.out⟩
end Go.Proofs.Ytabkhoiccjkghaa

namespace Go.Proofs.Ytabkhoiccjkghaa
open Go Go.RowKit Go.Lib Go.Maps
set_option linter.unusedVariables false
attribute [-instance] List.instBEq instBEqProd

theorem eq_ptrM (a : Addr) (w : World) : (binOp .eql 27 (.pointer (some a)) (.pointer (some a))).run Try.prog w = .ok (.bool true) w := by
  simp only [binOp]
  simp only [Op.equal, Op.maxDepth]
  rw [show (10000 : Nat) = 9999 + 1 from rfl, Op.equalIn]
  simp [Sem.run_bind, run_underlying Try.underlying27, sameAddr]

set_option maxHeartbeats 1000000 in
set_option maxRecDepth 100000 in
theorem mmade_any {w : World} {ob : Nat} {A : Aut} {M : List (List Nat)} {N : List Nat} (h : MO w ob A M N) : Calls Try.prog 30 #[.pointer (some ⟨ob, 0, none⟩)] w fun e w' => e = .returned (.bool true) ∧ w = w' := by
  obtain ⟨base, bt, b, mb, gw, ga, R, n, a, c, d, vl, D, an, cn, aa, ca, h⟩ := h
  have h0 : w.cell? ⟨ob, 0, none⟩ = some (.pointer (some ⟨ob, 0, none⟩)) := cell_at h.box rfl
  have he := eq_ptrM ⟨ob, 0, none⟩ w
  clear h
  go_enter Try.func30, Try.ntmps30
  go_wp2_with fail
  go_ret
  exact ⟨rfl, rfl⟩

set_option maxHeartbeats 1000000 in
set_option maxRecDepth 100000 in
theorem mlen_any {w : World} {ob : Nat} {A : Aut} {M : List (List Nat)} {N : List Nat} (h : MO w ob A M N) : Calls Try.prog 12 #[.pointer (some ⟨ob, 0, none⟩)] w fun e w' => e = .returned (.int .i64 (M.length : Nat)) ∧ w = w' := by
  have H : Hid (MO w ob A M N) := h
  obtain ⟨base, bt, b, mb, gw, ga, R, n, a, c, d, vl, D, an, cn, aa, ca, h⟩ := h
  have h5 : w.cell? ⟨ob, 5, none⟩ = some (.slice (some ⟨gw, 0, none⟩) n n) := cell_at h.box rfl
  have HN : Hid (M.length = n) := h.num.1
  clear h
  go_enter Try.func12, Try.ntmps12
  go_wp2_with fail
  refine (mmade_any H.out).mono ?_
  rintro e w1 ⟨rfl, rfl⟩
  go_wp2_with fail
  go_ret
  exact ⟨by rw [HN.out]; rfl, rfl⟩

/-- What check answers. -/
def mck (n : Nat) (i : Int) : Int := if 0 ≤ i ∧ i < n then 0 else 11

set_option maxHeartbeats 1000000 in
set_option maxRecDepth 100000 in
theorem mcheck_any {w : World} {ob : Nat} {A : Aut} {M : List (List Nat)} {N : List Nat} (h : MO w ob A M N) (i : Int) : Calls Try.prog 28 #[.pointer (some ⟨ob, 0, none⟩), .int .i64 i] w fun e w' => e = .returned (.int .i64 (mck M.length i)) ∧ w = w' := by
  have H : Hid (MO w ob A M N) := h
  obtain ⟨base, bt, b, mb, gw, ga, R, n, a, c, d, vl, D, an, cn, aa, ca, h⟩ := h
  have h5 : w.cell? ⟨ob, 5, none⟩ = some (.slice (some ⟨gw, 0, none⟩) n n) := cell_at h.box rfl
  have HN : Hid (M.length = n) := h.num.1
  rw [h.num.1]
  clear h
  by_cases h0 : 0 ≤ i
  · by_cases h1 : i < n
    · have HE : Hid (mck n i = 0) := by show mck n i = 0; unfold mck; rw [if_pos ⟨h0, h1⟩]
      have h0' : decide (i < 0) = false := by simpa using h0
      have h1' : ¬ (n : Int) ≤ i := by omega
      have h1d : decide ((n : Int) ≤ i) = false := by simpa using h1
      go_enter Try.func28, Try.ntmps28
      go_wp2_with fail
      refine (mmade_any H.out).mono ?_
      rintro e w1 ⟨rfl, rfl⟩
      go_wp2_with fail
      go_ret
      exact ⟨ret_intJ HE.out.symm, rfl⟩
    · have HE : Hid (mck n i = 11) := by show mck n i = 11; unfold mck; rw [if_neg (fun q => h1 q.2)]
      have h0' : decide (i < 0) = false := by simpa using h0
      have h1' : (n : Int) ≤ i := by omega
      have h1d : decide ((n : Int) ≤ i) = true := by simpa using h1'
      go_enter Try.func28, Try.ntmps28
      go_wp2_with fail
      refine (mmade_any H.out).mono ?_
      rintro e w1 ⟨rfl, rfl⟩
      go_wp2_with fail
      go_ret
      exact ⟨ret_intJ HE.out.symm, rfl⟩
  · have HE : Hid (mck n i = 11) := by show mck n i = 11; unfold mck; rw [if_neg (fun q => h0 q.1)]
    have h0' : i < 0 := by omega
    have h0d : decide (i < 0) = true := by simpa using h0'
    go_enter Try.func28, Try.ntmps28
    go_wp2_with fail
    refine (mmade_any H.out).mono ?_
    rintro e w1 ⟨rfl, rfl⟩
    go_wp2_with fail
    go_ret
    exact ⟨ret_intJ HE.out.symm, rfl⟩

set_option maxHeartbeats 1000000 in
set_option maxRecDepth 100000 in
theorem mproduct_ok {w : World} {ob : Nat} {A : Aut} {M : List (List Nat)} {N : List Nat} (h : MO w ob A M N) (i j : Nat) (hi : i < M.length) (hj : j < M.length) : Calls Try.prog 27 #[.pointer (some ⟨ob, 0, none⟩), .int .i64 i, .int .i64 j] w fun e w' => e = .returned (.tuple #[.int .i64 (pr A.k.toNat N i j : Nat), .int .i64 0]) ∧ Below w.heap.size w w' := by
  have H : Hid (MO w ob A M N) := h
  have hmo := h
  obtain ⟨base, bt, b, mb, gw, ga, R, n, a, c, d, vl, D, an, cn, aa, ca, h⟩ := h
  have HP : Hid (pr A.k.toNat N i j < M.length) := h.mon.pr_lt hi hj
  have hnm := h.num
  have hms := h.mon.most
  have c11 : w.cell? ⟨ob, 11, none⟩ = some (.int .i64 (n : Int)) := cell_at h.box rfl
  have c12 : w.cell? ⟨ob, 12, none⟩ = some (.slice (some ⟨R, d, none⟩) c c) := cell_at h.box rfl
  have HCI : Hid (mck M.length i = 0) := by show mck _ _ = 0; unfold mck; rw [if_pos ⟨by omega, by omega⟩]
  have HCJ : Hid (mck M.length j = 0) := by show mck _ _ = 0; unfold mck; rw [if_pos ⟨by omega, by omega⟩]
  obtain ⟨q, hq⟩ : ∃ q, i * n = q := ⟨_, rfl⟩
  obtain ⟨v, hv⟩ : ∃ v, pr A.k.toNat N i j = v := ⟨_, rfl⟩
  have hn2 : n * n ≤ 512 * 512 := Nat.mul_le_mul (by omega) (by omega)
  have hqlt : q + j < c := by rw [← hq, ← hnm.2.2.1]; exact idx_lt (by omega) (by omega)
  have hcell := h.rt.prod (i := i) (j := j) (by omega) (by omega) trivial
  rw [hv, hnm.2.1, hnm.2.2.2, hq] at hcell
  rw [hv] at HP
  rw [hv]
  have HG : Hid (Calls Try.prog 33 #[.agg #[.int .i64 (n : Int), .slice (some ⟨R, d, none⟩) c c], .int .i64 i, .int .i64 j] w fun e w' => e = .returned (.int .i64 v) ∧ Below w.heap.size w w') := gat_any R d n i j c c q v hq hqlt (by have := HP.out; omega) (by omega) w hcell h.rt.lt
  clear h hmo hnm hcell hn2 hq hqlt hv
  go_enter Try.func27, Try.ntmps27
  go_wp2_with fail
  refine (mcheck_any H.out i).mono ?_
  rintro e w1 ⟨rfl, rfl⟩
  rw [HCI.out]
  go_wp2_with fail
  refine (mcheck_any H.out j).mono ?_
  rintro e w1 ⟨rfl, rfl⟩
  rw [HCJ.out]
  go_wp2_with fail
  refine HG.out.mono ?_
  rintro e w1 ⟨rfl, hb⟩
  go_wp2_with fail
  go_ret2
  exact ⟨rfl, hb⟩

end Go.Proofs.Ytabkhoiccjkghaa

namespace Go.Proofs.Ytabkhoiccjkghaa
open Go.RowKit Go.Lib Go.Shelf

def renClone : Go.Shelf.Ren := ⟨fun | 316 => 49 | n => n, fun | 9 => 9 | 3 => 3 | 4 => 4 | 37 => 94 | 0 => 0 | 127 => 118 | 5 => 5 | n => n, fun | n => n⟩
theorem laysClone : Go.Proofs.LaysM.n316 Try.prog renClone := {
  mixed := by kernel_rfl
  f316 := Try.func49.trans (congrArg some (by kernel_rfl))
  t0 := Try.underlying0
  a0 := Try.isAgg0
  z0 := Try.sizeOf0
  v0 := Try.zeroValue0
  t3 := Try.underlying3
  a3 := Try.isAgg3
  z3 := Try.sizeOf3
  v3 := Try.zeroValue3
  t4 := Try.underlying4
  a4 := Try.isAgg4
  z4 := Try.sizeOf4
  v4 := Try.zeroValue4
  t9 := Try.underlying9
  a9 := Try.isAgg9
  z9 := Try.sizeOf9
  v9 := Try.zeroValue9
  t37 := Try.underlying94
  a37 := Try.isAgg94
  z37 := Try.sizeOf94
  v37 := Try.zeroValue94
  t127 := Try.underlying118
  a127 := Try.isAgg118
  z127 := Try.sizeOf118
  v127 := Try.zeroValue118
  t5 := Try.underlying5
  a5 := Try.isAgg5
  z5 := Try.sizeOf5
  v5 := Try.zeroValue5
  i0 := by kernel_rfl
  i3 := by kernel_rfl
  i4 := by kernel_rfl
  i5 := by kernel_rfl
  i9 := by kernel_rfl
  i37 := by kernel_rfl
  i127 := by kernel_rfl }
theorem slClone_any (s : ByteArray) (w : World) (h : s.size ≤ 281474976710656) :
    Calls Try.prog 49 #[.string s] w fun e w' => e = .returned (.string s) ∧ Below w.heap.size w w' := Any.stringslite_Clone laysClone s w h

set_option maxHeartbeats 400000 in
theorem sClone_any (s : ByteArray) (w : World) (h : s.size ≤ 281474976710656) :
    Calls Try.prog 29 #[.string s] w fun e w' => e = .returned (.string s) ∧ Below w.heap.size w w' := by
  go_enter Try.func29, Try.ntmps29
  go_wp2_with (go_at_call 49; refine (slClone_any s _ h).mono ?_; rintro e w1 ⟨rfl, b1⟩)
  go_ret
  exact ⟨rfl, b1⟩
end Go.Proofs.Ytabkhoiccjkghaa

namespace Go.Proofs.Ytabkhoiccjkghaa
open Go Go.RowKit Go.Lib Go.Maps
set_option linter.unusedVariables false
attribute [-instance] List.instBEq instBEqProd

set_option maxHeartbeats 1000000 in
set_option maxRecDepth 100000 in
theorem mword_ok {w : World} {ob : Nat} {A : Aut} {M : List (List Nat)} {N : List Nat} (h : MO w ob A M N) (i : Nat) (hi : i < M.length) : Calls Try.prog 6 #[.pointer (some ⟨ob, 0, none⟩), .int .i64 i] w fun e w' => e = .returned (.tuple #[.string (wb (lw A.k.toNat N i)), .int .i64 0]) ∧ Below w.heap.size w w' := by
  have H : Hid (MO w ob A M N) := h
  obtain ⟨base, bt, b, mb, gw, ga, R, n, a, c, d, vl, D, an, cn, aa, ca, h⟩ := h
  have hnm := h.num
  have hms := h.mon.most
  have hin : i < n := by omega
  have c5 : w.cell? ⟨ob, 5, none⟩ = some (.slice (some ⟨gw, 0, none⟩) n n) := cell_at h.box rfl
  have hw := h.wp.cell hin
  have hll := lw_len h.mon.fst i hi
  obtain ⟨X, hX⟩ : ∃ X, wb (lw A.k.toNat N i) = X := ⟨_, rfl⟩
  have hXs : X.size ≤ 281474976710656 := by rw [← hX, wb_size]; omega
  rw [hX] at hw
  rw [hX]
  have hiI : (i : Int) < n := by omega
  have HCI : Hid (mck M.length i = 0) := by show mck _ _ = 0; unfold mck; rw [if_pos ⟨by omega, by omega⟩]
  clear h hnm hll hX hms
  go_enter Try.func6, Try.ntmps6
  go_wp2_with fail
  refine (mcheck_any H.out i).mono ?_
  rintro e w1 ⟨rfl, rfl⟩
  rw [HCI.out]
  go_wp2_with fail
  refine (sClone_any X w hXs).mono ?_
  rintro e w1 ⟨rfl, hb⟩
  go_wp2_with fail
  go_ret2
  exact ⟨rfl, hb⟩

theorem mplace_any (x : Nat) (hx : x < 200) (h97 : 97 ≤ x) (w : World) : Calls Try.prog 50 #[.int .i32 (x : Int)] w fun e w' => e = .returned (.int .i64 ((x - 97 : Nat) : Int)) ∧ w = w' := by
  have e1 : IntKind.i32.wrap ((x : Int) - 97) = ((x - 97 : Nat) : Int) := by rw [IntKind.wrap_i32]; omega
  have e2 : IntKind.i64.wrap ((x - 97 : Nat) : Int) = ((x - 97 : Nat) : Int) := by rw [IntKind.wrap_i64]; omega
  obtain ⟨y, hy⟩ : ∃ y, x - 97 = y := ⟨_, rfl⟩
  rw [hy] at e1 e2
  rw [hy]
  go_enter Try.func50, Try.ntmps50
  go_wp2_with fail
  go_ret
  exact ⟨rfl, rfl⟩

def itP (w : World) (k : Nat) : Nat := match w.heap[k]? with | some (.stringIter _ p) => p | _ => 0

theorem itP_eq {w : World} {k : Nat} {s : ByteArray} {p : Nat} (h : w.heap[k]? = some (.stringIter s p)) : itP w k = p := by unfold itP; rw [h]

theorem it_below {n k : Nat} {w w1 : World} {s : ByteArray} {p : Nat} (h : Below n w w1) (hk : n ≤ k) : Below n w (w1.iterAt k s p) :=
  h.trans ⟨rfl, rfl, rfl, by simp [World.iterAt], fun j hj => iterAt_other _ _ _ _ _ (by omega)⟩

set_option maxHeartbeats 4000000 in
set_option maxRecDepth 100000 in
theorem melement_any {w : World} {ob : Nat} {A : Aut} {M : List (List Nat)} {N : List Nat} (h : MO w ob A M N) (s : ByteArray) (hs : Lts A.k s) (hz : s.size ≤ 9223372036854775807) : Calls Try.prog 32 #[.pointer (some ⟨ob, 0, none⟩), .string s] w fun e w' => e = .returned (.int .i64 (mr A.k.toNat N 0 (lets s) : Nat)) ∧ Below w.heap.size w w' := by
  obtain ⟨base, bt, b, mb, gw, ga, R, n, a, c, d, vl, D, an, cn, aa, ca, h⟩ := h
  have hks := h.mon.G.ks
  have HMon : Hid (Mon A M N) := h.mon
  have hnm := h.num
  have hms := h.mon.most
  have HRT : Hid (RT w R n A.k.toNat N (fun _ _ => True) (fun _ _ => True)) := h.rt
  have HBX : Hid (w.cell? ⟨ob, 7, none⟩ = some (.int .i64 (A.k.toNat : Int)) ∧ w.cell? ⟨ob, 8, none⟩ = some (.slice (some ⟨R, 0, none⟩) a a)) := ⟨cell_at h.box rfl, cell_at h.box rfl⟩
  have hobl : ob < w.heap.size := (Array.getElem?_eq_some_iff.1 h.box).1
  have HLt : Hid (Lt A.k.toNat (lets s)) := fun x hx => by have := hs.lt_all x hx; omega
  have HLS : Hid (Lts A.k s) := hs
  obtain ⟨K, hK⟩ : ∃ K, A.k.toNat = K := ⟨_, rfl⟩
  have HKA : Hid (A.k.toNat = K) := hK
  have hkI : A.k = (K : Int) := by omega
  have HKI : Hid (A.k = (K : Int)) := hkI
  rw [hK] at HRT HBX hks
  rw [hK]
  have HNM : Hid (M.length = n ∧ n * K = a ∧ n ≤ 512) := by rw [hK] at hnm; exact ⟨hnm.1, hnm.2.1, by omega⟩
  have hKb : 1 ≤ K ∧ K ≤ 8 := ⟨hks.1, hks.2.1⟩
  clear h hs hnm hms hks hkI hK
  go_enter Try.func32, Try.ntmps32
  go_wp2_with fail
  have HI0 : Hid ((w.iter s 0).heap[w.heap.size]? = some (.stringIter s 0) ∧ Below w.heap.size w (w.iter s 0)) := ⟨heap_alloc_new w _, (Below.refl _ _).alloc (Nat.le_refl _) _⟩
  go_loopw [5, 7] (fun v5 _ wr => ∃ pos : Nat, v5 = .int .i64 (mr K N 0 ((lets s).take pos) : Nat) ∧ wr.heap[w.heap.size]? = some (.stringIter s pos) ∧ pos ≤ s.size ∧ Below w.heap.size w wr) (fun _ _ wr => s.size - itP wr w.heap.size)
  case atStart => exact ⟨0, rfl, HI0.out.1, Nat.zero_le _, HI0.out.2⟩
  case round =>
    obtain ⟨pos, rfl, hit, hp, hb⟩ := hrel
    have HIT : Hid (wr.heap[w.heap.size]? = some (.stringIter s pos)) := hit
    have HB : Hid (Below w.heap.size w wr) := hb
    clear hb HI0
    by_cases hlt : pos < s.size
    · have hnm := HNM.out
      have hrange : 97 ≤ (s[pos]'hlt).toNat ∧ (s[pos]'hlt).toNat < 97 + K := by
        have := HLS.out pos hlt
        rw [HKI.out] at this
        omega
      have hnx : ∀ ty, (Instr.next (.pointer (some ⟨w.heap.size, 0, none⟩)) true ty).run Try.prog wr = .ok (.tuple #[.bool true, .int .i64 pos, .int .i32 (s[pos]'hlt).toNat]) (wr.iterAt w.heap.size s (pos + 1)) := fun ty => run_next_ascii_at wr w.heap.size s pos ty hit hlt (by omega)
      have hx := lets_at s pos hlt
      obtain ⟨x, hxE⟩ : ∃ x, (s[pos]'hlt).toNat = x := ⟨_, rfl⟩
      rw [hxE] at hnx hrange hx
      obtain ⟨i, hi⟩ : ∃ i, mr K N 0 ((lets s).take pos) = i := ⟨_, rfl⟩
      have hin : i < n := by
        rw [← hi, ← hnm.1, ← HKA.out]
        exact HMon.out.lt (fun x hx => HLt.out x (List.mem_of_mem_take hx)) HMon.out.pos
      have hst : mr K N 0 ((lets s).take (pos + 1)) = N.getD (i * K + (x - 97)) 0 := by
        rw [List.take_add_one, hx, Option.toList_some, mr_app, hi, mr_one]
      obtain ⟨q, hq⟩ : ∃ q, i * K = q := ⟨_, rfl⟩
      have hqlt : q + (x - 97) < a := by rw [← hq, ← hnm.2.1]; exact idx_lt hin (by omega)
      obtain ⟨v, hv⟩ : ∃ v, N.getD (q + (x - 97)) 0 = v := ⟨_, rfl⟩
      have hvn : v < n := by
        rw [← hv, ← hnm.1]
        exact HMon.out.nl (by rw [HMon.out.len, hnm.1, HKA.out, hnm.2.1]; exact hqlt)
      rw [hq, hv] at hst
      rw [hi]
      have hna : a ≤ 512 * 8 := by rw [← hnm.2.1]; exact Nat.mul_le_mul hnm.2.2 hKb.2
      obtain ⟨wi, hwi⟩ : ∃ wi, wi = wr.iterAt w.heap.size s (pos + 1) := ⟨_, rfl⟩
      rw [← hwi] at hnx
      have HIN : Hid (wi.heap[w.heap.size]? = some (.stringIter s (pos + 1))) := by show _ = _; rw [hwi]; exact iterAt_heap wr _ s pos (pos + 1) hit
      have HBI : Hid (Below w.heap.size w wi) := by show Below _ _ _; rw [hwi]; exact it_below HB.out (Nat.le_refl _)
      obtain ⟨cc, hcc⟩ : ∃ cc, x - 97 = cc := ⟨_, rfl⟩
      rw [hcc] at hqlt hv
      have HPL : Hid (∀ y, Calls Try.prog 50 #[.int .i32 (x : Int)] y fun e w' => e = .returned (.int .i64 (cc : Int)) ∧ y = w') := fun y => by
        have := mplace_any x (by omega) hrange.1 y
        rw [hcc] at this
        exact this
      have HGA : Hid (∀ y, RT y R n K N (fun _ _ => True) (fun _ _ => True) → Calls Try.prog 33 #[.agg #[.int .i64 (K : Int), .slice (some ⟨R, 0, none⟩) a a], .int .i64 i, .int .i64 cc] y fun e w' => e = .returned (.int .i64 v) ∧ Below y.heap.size y w') := fun y hy => by
        refine gat_any R 0 K i cc a a q v hq hqlt (by omega) (by omega) y ?_ hy.lt
        have := hy.right (p := q + cc) (by rw [hnm.2.1]; exact hqlt)
        rw [hv] at this
        rw [Nat.zero_add]
        exact this
      have HMK : Hid (∀ y, Below w.heap.size w y → (y.cell? ⟨ob, 7, none⟩ = some (.int .i64 (K : Int)) ∧ y.cell? ⟨ob, 8, none⟩ = some (.slice (some ⟨R, 0, none⟩) a a) ∧ Bx (fun y => RT y R n K N (fun _ _ => True) (fun _ _ => True)) y)) := fun y hy => ⟨by rw [below_cellJ hy hobl]; exact HBX.out.1, by rw [below_cellJ hy hobl]; exact HBX.out.2, Bx.mk (HRT.out.keep (hy.block _ HRT.out.lt))⟩
      have HSK : Hid (∀ y y' : World, (y.cell? ⟨ob, 7, none⟩ = some (.int .i64 (K : Int)) ∧ y.cell? ⟨ob, 8, none⟩ = some (.slice (some ⟨R, 0, none⟩) a a) ∧ Bx (fun y => RT y R n K N (fun _ _ => True) (fun _ _ => True)) y) → Below y.heap.size y y' → (y'.cell? ⟨ob, 7, none⟩ = some (.int .i64 (K : Int)) ∧ y'.cell? ⟨ob, 8, none⟩ = some (.slice (some ⟨R, 0, none⟩) a a) ∧ Bx (fun y => RT y R n K N (fun _ _ => True) (fun _ _ => True)) y')) := fun y y' hy hb => by
        have k1 : ob < y.heap.size := World.block_lt_of_cell? y ⟨ob, 7, none⟩ hy.1
        exact ⟨by rw [below_cellJ hb k1]; exact hy.1, by rw [below_cellJ hb k1]; exact hy.2.1, Bx.mk ((Bx.out hy.2.2).keep (hb.block _ (Bx.out hy.2.2).lt))⟩
      have S0 : ((wi.drew).cell? ⟨ob, 7, none⟩ = some (.int .i64 (K : Int)) ∧ (wi.drew).cell? ⟨ob, 8, none⟩ = some (.slice (some ⟨R, 0, none⟩) a a) ∧ Bx (fun y => RT y R n K N (fun _ _ => True) (fun _ _ => True)) (wi.drew)) := HMK.out _ HBI.out.drew
      have HLT : Hid (pos < s.size) := hlt
      have HST : Hid (mr K N 0 ((lets s).take (pos + 1)) = v) := hst
      have HRW : Hid (RT wi.drew R n K N (fun _ _ => True) (fun _ _ => True)) := HRT.out.keep (HBI.out.drew.block _ HRT.out.lt)
      clear hit hx hxE hi hst hq hv hwi hcc hnm hna hqlt hrange
      go_wp2_with fail
      go_region_held3 (fun y => (y.cell? ⟨ob, 7, none⟩ = some (.int .i64 (K : Int)) ∧ y.cell? ⟨ob, 8, none⟩ = some (.slice (some ⟨R, 0, none⟩) a a) ∧ Bx (fun y => RT y R n K N (fun _ _ => True) (fun _ _ => True)) y)) (first | assumption | exact S0 | exact HSK.out _ _ (by assumption) (by assumption)) (first
        | (go_at_call 50; refine (HPL.out _).mono ?_; rintro e y1 ⟨rfl, rfl⟩)
        | (go_at_call 33; refine (HGA.out _ HRW.out).mono ?_; rintro e y2 ⟨rfl, hy2⟩))
      have HB2 : Hid (Below w.heap.size w y2) := go_on HBI.out.drew hy2
      have HI2 : Hid (y2.heap[w.heap.size]? = some (.stringIter s (pos + 1))) := (hy2.block _ (Array.getElem?_eq_some_iff.1 HIN.out).1).trans HIN.out
      clear S0 hy2
      go_wp2_with fail
      go_roundw
      case rel => exact ⟨pos + 1, by rw [HST.out], HI2.out, HLT.out, HB2.out⟩
      case measure => rw [itP_eq HI2.out, itP_eq HIT.out]; have := HLT.out; omega
    · have hnx : ∀ ty, (Instr.next (.pointer (some ⟨w.heap.size, 0, none⟩)) true ty).run Try.prog wr = .ok (.tuple #[.bool false]) wr := fun ty => run_next_end_at wr w.heap.size s pos ty hit hlt
      have HE : Hid ((lets s).take pos = lets s) := List.take_of_length_le (by rw [lets_len]; omega)
      go_wp2_with fail
      go_ret
      exact ⟨by rw [HE.out]; rfl, HB.out⟩

end Go.Proofs.Ytabkhoiccjkghaa

namespace Go.Proofs.Ytabkhoiccjkghaa
open Go Go.RowKit Go.Lib Go.Maps
set_option linter.unusedVariables false
attribute [-instance] List.instBEq instBEqProd

theorem num14_any (n : Int) (w : World) : Calls Try.prog 17 #[.int .i64 n] w fun e w' => e = .returned (.int .i64 n) ∧ w = w' := by
  go_enter Try.func17, Try.ntmps17
  go_wp2
  go_ret
  exact ⟨rfl, rfl⟩

/-- The automaton of (ab)*. -/
def pA : Aut := ⟨2, [1, 2, 2, 0, 2, 2], [true, false, false]⟩

theorem pA_good : Good pA := by
  refine ⟨by decide, by decide, by decide, by decide, by decide, ?_, ?_⟩
  · decide
  · decide

def pM : List (List Nat) := [[0, 1, 2], [1, 2, 2], [2, 0, 2], [2, 2, 2], [0, 2, 2], [2, 1, 2]]

def pN : List Nat := [1, 2, 3, 4, 5, 3, 3, 3, 1, 3, 3, 2]

theorem pA_el : mEl pA = some (pM, pN) := by decide +kernel

theorem pA_facts : pr 2 pN 4 1 = 1 ∧ mr 2 pN 0 [1, 1] = 3 ∧ lw 2 pN 3 = [0, 0] := by decide +kernel

/-- What Element answers. -/
def elV (A : Aut) (N : List Nat) (s : ByteArray) : Value := if chk A.k s = 0 then .tuple #[.int .i64 (mr A.k.toNat N 0 (lets s) : Nat), .int .i64 0] else .tuple #[.int .i64 0, .int .i64 (chk A.k s)]

set_option maxHeartbeats 1000000 in
set_option maxRecDepth 100000 in
theorem mElement_any {w : World} {ob : Nat} {A : Aut} {M : List (List Nat)} {N : List Nat} (h : MO w ob A M N) (s : ByteArray) (hz : s.size ≤ 9223372036854775807) : Calls Try.prog 7 #[.pointer (some ⟨ob, 0, none⟩), .string s] w fun e w' => e = .returned (elV A N s) ∧ Below w.heap.size w w' := by
  have H : Hid (MO w ob A M N) := h
  obtain ⟨base, bt, b, mb, gw, ga, R, n, a, c, d, vl, D, an, cn, aa, ca, h⟩ := h
  have c1 : w.cell? ⟨ob, 1, none⟩ = some (.int .i64 A.k) := cell_at h.box rfl
  clear h
  by_cases hc : chk A.k s = 0
  · have HE : Hid (elV A N s = .tuple #[.int .i64 (mr A.k.toNat N 0 (lets s) : Nat), .int .i64 0]) := by show _ = _; unfold elV; rw [if_pos hc]
    have HC : Hid (Calls Try.prog 31 #[.int .i64 A.k, .string s] w fun e w' => e = .returned (.int .i64 0) ∧ Below w.heap.size w w') := by
      have := check_any A.k s w
      rw [hc] at this
      exact this
    have HL : Hid (Lts A.k s) := chk_all hc
    clear hc
    go_enter Try.func7, Try.ntmps7
    go_wp2_with fail
    refine (mmade_any H.out).mono ?_
    rintro e w1 ⟨rfl, rfl⟩
    go_wp2_with fail
    refine HC.out.mono ?_
    rintro e w1 ⟨rfl, hb⟩
    have HB : Hid (Below w.heap.size w w1) := hb
    clear hb
    go_wp2_with fail
    refine (melement_any (H.out.below HB.out) s HL.out hz).mono ?_
    rintro e w2 ⟨rfl, hb⟩
    have HB2 : Hid (Below w.heap.size w w2) := go_on HB.out hb
    clear hb
    go_wp2_with fail
    go_ret2
    rw [HE.out]
    exact ⟨rfl, HB2.out⟩
  · have HE : Hid (elV A N s = .tuple #[.int .i64 0, .int .i64 (chk A.k s)]) := by show _ = _; unfold elV; rw [if_neg hc]
    obtain ⟨q, hq⟩ : ∃ q, chk A.k s = q := ⟨_, rfl⟩
    have HC : Hid (Calls Try.prog 31 #[.int .i64 A.k, .string s] w fun e w' => e = .returned (.int .i64 q) ∧ Below w.heap.size w w') := by
      have := check_any A.k s w
      rw [hq] at this
      exact this
    rw [hq] at HE hc
    have hq0 : (q != 0) = true := by rw [bne_iff_ne]; exact hc
    clear hq
    go_enter Try.func7, Try.ntmps7
    go_wp2_with fail
    refine (mmade_any H.out).mono ?_
    rintro e w1 ⟨rfl, rfl⟩
    go_wp2_with fail
    refine HC.out.mono ?_
    rintro e w1 ⟨rfl, hb⟩
    have HB : Hid (Below w.heap.size w w1) := hb
    clear hb
    go_wp2_with fail
    go_ret2
    rw [HE.out]
    exact ⟨rfl, HB.out⟩

set_option maxHeartbeats 1000000 in
set_option maxRecDepth 100000 in
theorem plain_any (w : World) : Calls Try.prog 26 #[] w fun e w' => ∃ v, e = .returned v ∧ AR w' v pA ∧ Below w.heap.size w w' := by
  obtain ⟨w3, hw3⟩ : ∃ w3, w3 = (((w.alloc (.cells #[.int .i64 2, .slice (some ⟨w.heap.size + 1, 0, none⟩) 6 6, .slice (some ⟨w.heap.size + 1 + 1, 0, none⟩) 3 3] 25)).alloc (.cells #[.int .i64 1, .int .i64 2, .int .i64 2, .int .i64 0, .int .i64 2, .int .i64 2] 3)).alloc (.cells #[.bool true, .bool false, .bool false] 4)) := ⟨_, rfl⟩
  have HW3 : Hid (w3 = (((w.alloc (.cells #[.int .i64 2, .slice (some ⟨w.heap.size + 1, 0, none⟩) 6 6, .slice (some ⟨w.heap.size + 1 + 1, 0, none⟩) 3 3] 25)).alloc (.cells #[.int .i64 1, .int .i64 2, .int .i64 2, .int .i64 0, .int .i64 2, .int .i64 2] 3)).alloc (.cells #[.bool true, .bool false, .bool false] 4))) := hw3
  have H0 : Hid (w3.heap[w.heap.size]? = some (.cells #[.int .i64 2, .slice (some ⟨w.heap.size + 1, 0, none⟩) 6 6, .slice (some ⟨w.heap.size + 1 + 1, 0, none⟩) 3 3] 25 (0, 0))) := by
    show _ = _
    rw [hw3, heap_allo (by simp; omega), heap_allo (by simp)]
    exact heap_last _ _
  have H1 : Hid (w3.heap[w.heap.size + 1]? = some (.cells #[.int .i64 1, .int .i64 2, .int .i64 2, .int .i64 0, .int .i64 2, .int .i64 2] 3 (0, 0))) := by
    show _ = _
    rw [hw3, heap_allo (by simp)]
    have := heap_last (w.alloc (.cells #[.int .i64 2, .slice (some ⟨w.heap.size + 1, 0, none⟩) 6 6, .slice (some ⟨w.heap.size + 1 + 1, 0, none⟩) 3 3] 25)) (.cells #[.int .i64 1, .int .i64 2, .int .i64 2, .int .i64 0, .int .i64 2, .int .i64 2] 3)
    rwa [World.size_alloc] at this
  have H2 : Hid (w3.heap[w.heap.size + 1 + 1]? = some (.cells #[.bool true, .bool false, .bool false] 4 (0, 0))) := by
    show _ = _
    rw [hw3]
    have := heap_last ((w.alloc (.cells #[.int .i64 2, .slice (some ⟨w.heap.size + 1, 0, none⟩) 6 6, .slice (some ⟨w.heap.size + 1 + 1, 0, none⟩) 3 3] 25)).alloc (.cells #[.int .i64 1, .int .i64 2, .int .i64 2, .int .i64 0, .int .i64 2, .int .i64 2] 3)) (.cells #[.bool true, .bool false, .bool false] 4)
    rwa [World.size_alloc, World.size_alloc] at this
  have HB : Hid (Below w.heap.size w w3) := by show Below _ _ _; rw [hw3]; exact go_on (go_on (below_new _ _) (below_new _ _)) (below_new _ _)
  clear hw3
  go_enter Try.func26, Try.ntmps26
  go_wp2_with fail
  rw [← HW3.out]
  refine bodyPost_ret (results_cell_row rfl _ _ w.heap.size 25 _ (0, 0) _ rfl H0.out Try.underlying25 rfl (by rw [Try.info_au]; rfl)) rfl ⟨_, rfl, ⟨_, _, _, _, rfl, ?_, ?_⟩, HB.out⟩
  · intro j u hj
    refine ⟨_, _, rfl, (Array.getElem?_eq_some_iff.1 H1.out).1, ?_⟩
    rw [Nat.zero_add, cell_of_row _ _ _ _ _ _ H1.out]
    rw [← hj]
    simp [pA, zC]
  · intro j u hj
    refine ⟨_, _, rfl, (Array.getElem?_eq_some_iff.1 H2.out).1, ?_⟩
    rw [Nat.zero_add, cell_of_row _ _ _ _ _ _ H2.out]
    rw [← hj]
    simp [pA, bC]

set_option maxHeartbeats 2000000 in
set_option maxRecDepth 100000 in
theorem live14_any (w : World) : Calls Try.prog 5 #[] w fun e w' => e = .returned (.bool true) ∧ Below w.heap.size w w' := by
  have hel : Hid (elV pA pN ⟨#[98, 98]⟩ = .tuple #[.int .i64 3, .int .i64 0]) := by
    show _ = _
    unfold elV
    rw [if_pos (by decide +kernel)]
    have e : mr pA.k.toNat pN 0 (lets ⟨#[98, 98]⟩) = 3 := by decide +kernel
    rw [e]
    rfl
  have hwd : Hid (wb (lw pA.k.toNat pN 3) = ⟨#[97, 97]⟩) := by show _ = _; decide +kernel
  have hpr : Hid (pr pA.k.toNat pN 4 1 = 1) := by show _ = _; decide +kernel
  go_enter Try.func5, Try.ntmps5
  go_wp2_with fail
  refine (plain_any w).mono ?_
  rintro e w1 ⟨v, rfl, hAR, hB1⟩
  have HB1 : Hid (Below w.heap.size w w1) := hB1
  have HAR : Hid (AR w1 v pA) := hAR
  clear hB1 hAR
  go_wp2_with fail
  refine (build_any v pA w1 HAR.out pA_good (by decide)).mono ?_
  rintro e w2 (⟨hno, _⟩ | ⟨ob, M, N, rfl, hE, hMO, hB2⟩)
  · rw [pA_el] at hno
    cases hno
  rw [pA_el] at hE
  simp only [Option.some.injEq, Prod.mk.injEq] at hE
  obtain ⟨rfl, rfl⟩ := hE
  have HM : Hid (MO w2 ob pA pM pN) := hMO
  have HB2 : Hid (Below w.heap.size w w2) := go_on HB1.out hB2
  clear hMO hB2
  go_wp2_with fail
  refine (num14_any 0 w2).mono ?_
  rintro e w3 ⟨rfl, rfl⟩
  go_wp2_with fail
  refine (mlen_any HM.out).mono ?_
  rintro e w3 ⟨rfl, rfl⟩
  rw [show (pM.length : Int) = 6 from rfl]
  go_wp2_with fail
  refine (mElement_any HM.out ⟨#[98, 98]⟩ (by decide)).mono ?_
  rintro e w3 ⟨rfl, hB3⟩
  rw [hel.out]
  have HM3 : Hid (MO w3 ob pA pM pN) := HM.out.below hB3
  have HB3 : Hid (Below w.heap.size w w3) := go_on HB2.out hB3
  clear hB3
  go_wp2_with fail
  refine (mword_ok HM3.out 3 (by decide)).mono ?_
  rintro e w4 ⟨rfl, hB4⟩
  rw [hwd.out]
  have HM4 : Hid (MO w4 ob pA pM pN) := HM3.out.below hB4
  have HB4 : Hid (Below w.heap.size w w4) := go_on HB3.out hB4
  clear hB4
  go_wp2_with fail
  refine (mproduct_ok HM4.out 4 1 (by decide) (by decide)).mono ?_
  rintro e w5 ⟨rfl, hB5⟩
  rw [hpr.out]
  have HB5 : Hid (Below w.heap.size w w5) := go_on HB4.out hB5
  clear hB5
  go_wp2_with fail
  refine (num14_any 0 w5).mono ?_
  rintro e w6 ⟨rfl, rfl⟩
  go_wp2_with fail
  refine (num14_any 0 w5).mono ?_
  rintro e w6 ⟨rfl, rfl⟩
  go_wp2_with fail
  refine (num14_any 0 w5).mono ?_
  rintro e w6 ⟨rfl, rfl⟩
  go_wp2_with fail
  go_ret
  exact ⟨rfl, HB5.out⟩

end Go.Proofs.Ytabkhoiccjkghaa

namespace Go.Proofs.Ytabkhoiccjkghaa
open Go Go.RowKit Go.Lib Go.Maps
set_option linter.unusedVariables false
attribute [-instance] List.instBEq instBEqProd

theorem owE_ok {A : Aut} (h : owE A ByteArray.empty = 0) : Good A ∧ A.ac.length ≤ 64 := by
  unfold owE at h
  split at h
  · rename_i hc
    split at h
    · cases h
    · exact ⟨chkA_good hc, by omega⟩
  · cases h

theorem owE_good {A : Aut} (G : Good A) (h : A.ac.length ≤ 64) : owE A ByteArray.empty = 0 := by
  unfold owE
  rw [if_pos (by unfold chkA; rw [if_pos G]), if_neg (by omega)]
  exact chk_empty G

set_option maxHeartbeats 2000000 in
set_option maxRecDepth 100000 in
theorem find_bad (v : Value) (A : Aut) (w : World) (h : AR w v A) (hm : A.nx.length ≤ 9223372036854775806) (hm2 : A.ac.length ≤ 9223372036854775806) (hE : owE A ByteArray.empty ≠ 0) :
    Calls Try.prog 41 #[v] w fun e w' => e = .returned (.tuple #[.pointer none, .int .i64 (owE A ByteArray.empty)]) ∧ Below w.heap.size w w' := by
  obtain ⟨an, cn, aa, ca, e, h1, h2⟩ := h.is
  have HA : Hid (∀ w', Below w.heap.size w w' → AR w' v A) := fun w' hb => h.stay hb
  clear h h1 h2
  subst e
  obtain ⟨w0, hw0⟩ : ∃ w0, w0 = w.alloc (.cells #[.int .i64 A.k, .slice an A.nx.length cn, .slice aa A.ac.length ca] 25) := ⟨_, rfl⟩
  have HB0 : Hid (Below w.heap.size w w0) := by show Below _ _ _; rw [hw0]; exact below_new _ _
  have HW0 : Hid (w0 = w.alloc (.cells #[.int .i64 A.k, .slice an A.nx.length cn, .slice aa A.ac.length ca] 25)) := hw0
  obtain ⟨E, hEE⟩ : ∃ E, owE A ByteArray.empty = E := ⟨_, rfl⟩
  have HOW : Hid (∀ y, Below w.heap.size w y → Calls Try.prog 55 #[.agg #[.int .i64 A.k, .slice an A.nx.length cn, .slice aa A.ac.length ca], .string ByteArray.empty] y fun e w' => e = .returned (.tuple #[.agg #[.int .i64 0, .int .u64 0, .int .u64 0, .int .u64 0, .int .u64 0, .int .u64 0, .int .u64 0, .int .u64 0], .int .i64 E]) ∧ Below y.heap.size y w') := fun y hy => by
    have := ofWord_any _ A y (HA.out y hy) hm hm2 ByteArray.empty (by show 0 ≤ _; omega)
    unfold owV at this
    rw [if_neg hE, hEE] at this
    exact this
  rw [hEE] at hE ⊢
  have hq0 : (E != 0) = true := by rw [bne_iff_ne]; exact hE
  clear hw0 hEE hE
  go_enter Try.func41, Try.ntmps41
  go_wp2_with fail
  rw [← HW0.out]
  refine (HOW.out _ HB0.out).mono ?_
  rintro e w1 ⟨rfl, hB1⟩
  have HB1 : Hid (Below w.heap.size w w1) := go_on HB0.out hB1
  have HB2 : Hid (Below w.heap.size w (w1.alloc (.cells #[.int .i64 0, .int .u64 0, .int .u64 0, .int .u64 0, .int .u64 0, .int .u64 0, .int .u64 0, .int .u64 0] 42))) := go_on HB1.out (below_new _ _)
  clear hB1
  go_wp2_with fail
  go_ret2
  exact ⟨rfl, HB2.out⟩

/-- Build's error. -/
noncomputable def bdE (A : Aut) : Int := if owE A ByteArray.empty = 0 then (if (mEl A).isSome = true then 0 else 140) else owE A ByteArray.empty

/-- What Build answers. -/
def BdA (A : Aut) (w : World) (e : Ending) (w' : World) : Prop :=
  (bdE A ≠ 0 ∧ e = .returned (.tuple #[.pointer none, .int .i64 (bdE A)]) ∧ Below w.heap.size w w') ∨
  ∃ ob M N, e = .returned (.tuple #[.pointer (some ⟨ob, 0, none⟩), .int .i64 0]) ∧ Good A ∧ A.ac.length ≤ 64 ∧ mEl A = some (M, N) ∧ MO w' ob A M N ∧ Below w.heap.size w w'

set_option maxHeartbeats 2000000 in
set_option maxRecDepth 100000 in
theorem build_bad (v : Value) (A : Aut) (w : World) (h : AR w v A) (hm : A.nx.length ≤ 9223372036854775806) (hm2 : A.ac.length ≤ 9223372036854775806) (hE : owE A ByteArray.empty ≠ 0) :
    Calls Try.prog 23 #[v] w fun e w' => e = .returned (.tuple #[.pointer none, .int .i64 (owE A ByteArray.empty)]) ∧ Below w.heap.size w w' := by
  obtain ⟨an, cn, aa, ca, e, h1, h2⟩ := h.is
  have HA : Hid (∀ w', Below w.heap.size w w' → AR w' v A) := fun w' hb => h.stay hb
  clear h h1 h2
  subst e
  obtain ⟨w0, hw0⟩ : ∃ w0, w0 = w.alloc (.cells #[.int .i64 A.k, .slice an A.nx.length cn, .slice aa A.ac.length ca] 25) := ⟨_, rfl⟩
  have HB0 : Hid (Below w.heap.size w w0) := by show Below _ _ _; rw [hw0]; exact below_new _ _
  have HW0 : Hid (w0 = w.alloc (.cells #[.int .i64 A.k, .slice an A.nx.length cn, .slice aa A.ac.length ca] 25)) := hw0
  obtain ⟨E, hEE⟩ : ∃ E, owE A ByteArray.empty = E := ⟨_, rfl⟩
  have HFD : Hid (∀ y, Below w.heap.size w y → Calls Try.prog 41 #[.agg #[.int .i64 A.k, .slice an A.nx.length cn, .slice aa A.ac.length ca]] y fun e w' => e = .returned (.tuple #[.pointer none, .int .i64 E]) ∧ Below y.heap.size y w') := fun y hy => by
    have := find_bad _ A y (HA.out y hy) hm hm2 hE
    rw [hEE] at this
    exact this
  rw [hEE] at hE ⊢
  have hq0 : (E != 0) = true := by rw [bne_iff_ne]; exact hE
  clear hw0 hEE hE
  go_enter Try.func23, Try.ntmps23
  go_wp2_with fail
  rw [← HW0.out]
  refine (HFD.out _ HB0.out).mono ?_
  rintro e w1 ⟨rfl, hB1⟩
  have HB1 : Hid (Below w.heap.size w w1) := go_on HB0.out hB1
  clear hB1
  go_wp2_with fail
  go_ret2
  exact ⟨rfl, HB1.out⟩

theorem build_all (v : Value) (A : Aut) (w : World) (h : AR w v A) (hm : A.nx.length ≤ 9223372036854775806) (hm2 : A.ac.length ≤ 9223372036854775806) :
    Calls Try.prog 23 #[v] w (BdA A w) := by
  by_cases hE : owE A ByteArray.empty = 0
  · obtain ⟨G, h64⟩ := owE_ok hE
    refine (build_any v A w h G h64).mono ?_
    rintro e w' (⟨hn, rfl, hb⟩ | ⟨ob, M, N, rfl, he, hmo, hb⟩)
    · have e1 : bdE A = 140 := by unfold bdE; rw [if_pos hE, hn]; rfl
      exact .inl ⟨by rw [e1]; decide, by rw [e1], hb⟩
    · exact .inr ⟨ob, M, N, rfl, G, h64, he, hmo, hb⟩
  · refine (build_bad v A w h hm hm2 hE).mono ?_
    rintro e w' ⟨rfl, hb⟩
    have e1 : bdE A = owE A ByteArray.empty := by unfold bdE; rw [if_neg hE]
    exact .inl ⟨by rw [e1]; exact hE, by rw [e1], hb⟩

/-- What the law's built answers. -/
def BtQ (A : Aut) (w : World) (e : Ending) (w' : World) : Prop :=
  (e = .returned (.tuple #[.pointer none, .bool false]) ∧ Below w.heap.size w w') ∨
  ∃ ob M N, e = .returned (.tuple #[.pointer (some ⟨ob, 0, none⟩), .bool true]) ∧ Good A ∧ A.ac.length ≤ 64 ∧ mEl A = some (M, N) ∧ MO w' ob A M N ∧ Below w.heap.size w w'

end Go.Proofs.Ytabkhoiccjkghaa

namespace Go.Proofs.Ytabkhoiccjkghaa
open Go Go.RowKit Go.Lib
set_option linter.unusedVariables false

theorem lets_app (u v : ByteArray) : lets (u ++ v) = lets u ++ lets v := by
  unfold lets
  rw [← List.map_append]
  congr 1

theorem chk_app (k : Int) (h1 : 1 ≤ k) (h8 : k ≤ 8) (u v : ByteArray) : chk k (u ++ v) = 0 ↔ chk k u = 0 ∧ chk k v = 0 := by
  unfold chk
  have h : ¬ (k < 1 ∨ 8 < k) := by omega
  rw [if_neg h, if_neg h, if_neg h]
  simp only [ByteArray.data_append, Array.toList_append, List.all_append]
  by_cases a : u.data.toList.all (letterAt k) = true
  · by_cases b : v.data.toList.all (letterAt k) = true
    · simp [a, b]
    · simp [a, b]
  · simp [a]

theorem wb_get (u : List Nat) {i : Nat} (hi : i < (wb u).size) : (wb u)[i] = UInt8.ofNat (97 + u[i]'(by rw [wb_size] at hi; exact hi)) := by
  have hi' : i < ((u.map fun c => UInt8.ofNat (97 + c)).toArray).size := hi
  have : (wb u)[i] = ((u.map fun c => UInt8.ofNat (97 + c)).toArray)[i]'hi' := rfl
  refine this.trans ?_
  rw [List.getElem_toArray, List.getElem_map]

theorem ofNat97 {c : Nat} (h : c < 8) : (UInt8.ofNat (97 + c)).toNat = 97 + c := by
  rw [UInt8.toNat_ofNat']
  exact Nat.mod_eq_of_lt (by omega)

theorem lets_wb {k : Nat} (hk : k ≤ 8) {u : List Nat} (h : Lt k u) : lets (wb u) = u := by
  unfold lets wb
  rw [List.map_map]
  show u.map _ = u
  conv => rhs; rw [← List.map_id u]
  apply List.map_congr_left
  intro c hc
  have := h c hc
  show (UInt8.ofNat (97 + c)).toNat - 97 = c
  rw [ofNat97 (by omega)]
  omega

theorem wb_lts {k : Int} (h1 : 1 ≤ k) (h8 : k ≤ 8) {u : List Nat} (h : Lt k.toNat u) : Lts k (wb u) ∧ chk k (wb u) = 0 := by
  have hL : Lts k (wb u) := by
    intro i hi
    have hm := h (u[i]'(by rw [wb_size] at hi; exact hi)) (List.getElem_mem _)
    rw [wb_get u hi, ofNat97 (by omega)]
    omega
  refine ⟨hL, chk_ok k _ h1 h8 (fun i hi => ?_)⟩
  have := hL i hi
  simp only [letterAt, decide_eq_true_eq]
  omega

theorem Lts.ltn {k : Int} (h1 : 1 ≤ k) {b : ByteArray} (h : Lts k b) : Lt k.toNat (lets b) := fun c hc => by have := h.lt_all c hc; omega

theorem conv_one (y : World) (c z : Nat) (hc : c < 8) (hz : 97 + c = z) : Sem.run Try.prog (convert 94 9 (.slice (some ⟨y.heap.size, 0, none⟩) 1 1)) (y.alloc (.cells #[.int .u8 (z : Int)] 5)) = .ok (.string (wb [c])) (y.alloc (.cells #[.int .u8 (z : Int)] 5)) := by
  subst hz
  refine run_convert_bytes_back _ _ _ 5 ⟨y.heap.size, 0, none⟩ 1 [UInt8.ofNat (97 + c)] Try.underlying94 Try.underlying5 Try.underlying9 ?_
  intro j hj
  obtain rfl : j = 0 := by simp at hj; omega
  have := (RowAt.last y #[.int .u8 ((97 + c : Nat) : Int)] 5).cell 0
  refine this.trans ?_
  show some (Value.int .u8 ((97 + c : Nat) : Int)) = some (Value.int .u8 ((UInt8.ofNat (97 + c)).toNat : Int))
  rw [ofNat97 hc]

theorem mr_first (K : Nat) (N : List Nat) (c : Nat) : mr K N 0 [c] = N.getD c 0 := by rw [mr_one, Nat.zero_mul, Nat.zero_add]

end Go.Proofs.Ytabkhoiccjkghaa

namespace Go.Proofs.Ytabkhoiccjkghaa
open Go Go.RowKit Go.Lib Go.Maps
set_option linter.unusedVariables false
attribute [-instance] List.instBEq instBEqProd

set_option maxHeartbeats 1000000 in
set_option maxRecDepth 100000 in
theorem maccept_ok {w : World} {ob : Nat} {A : Aut} {M : List (List Nat)} {N : List Nat} (h : MO w ob A M N) (i : Nat) (hi : i < M.length) : Calls Try.prog 8 #[.pointer (some ⟨ob, 0, none⟩), .int .i64 i] w fun e w' => e = .returned (.tuple #[.bool (acc A M i), .int .i64 0]) ∧ w = w' := by
  have H : Hid (MO w ob A M N) := h
  obtain ⟨base, bt, b, mb, gw, ga, R, n, a, c, d, vl, D, an, cn, aa, ca, h⟩ := h
  have hnm := h.num
  have hms := h.mon.most
  have c6 : w.cell? ⟨ob, 6, none⟩ = some (.slice (some ⟨ga, 0, none⟩) n n) := cell_at h.box rfl
  have hw := h.bp.cell (j := i) (by omega)
  obtain ⟨q, hq⟩ : ∃ q, acc A M i = q := ⟨_, rfl⟩
  rw [hq] at hw ⊢
  have hiI : (i : Int) < n := by omega
  have HCI : Hid (mck M.length i = 0) := by show mck _ _ = 0; unfold mck; rw [if_pos ⟨by omega, by omega⟩]
  clear h hnm hms hq
  go_enter Try.func8, Try.ntmps8
  go_wp2_with fail
  refine (mcheck_any H.out i).mono ?_
  rintro e w1 ⟨rfl, rfl⟩
  rw [HCI.out]
  go_wp2_with fail
  go_ret2
  exact ⟨rfl, rfl⟩

set_option maxHeartbeats 2000000 in
set_option maxRecDepth 100000 in
theorem mtrans_ok {w : World} {ob : Nat} {A : Aut} {M : List (List Nat)} {N : List Nat} (h : MO w ob A M N) (i : Nat) (l : List Nat) (hl : M[i]? = some l) : Calls Try.prog 10 #[.pointer (some ⟨ob, 0, none⟩), .int .i64 i] w fun e w' => e = .returned (.tuple #[.agg (tC l), .int .i64 0]) ∧ Below w.heap.size w w' := by
  have hi : i < M.length := (List.getElem?_eq_some_iff.1 hl).1
  obtain ⟨w0, hw0⟩ : ∃ w0, w0 = w.alloc (.cells #[.int .i64 0, .int .u64 0, .int .u64 0, .int .u64 0, .int .u64 0, .int .u64 0, .int .u64 0, .int .u64 0] 42) := ⟨_, rfl⟩
  have HB0 : Hid (Below w.heap.size w w0) := by show Below _ _ _; rw [hw0]; exact below_new _ _
  have H : Hid (MO w0 ob A M N) := h.below HB0.out
  have HR0 : Hid (TrAt w0 w.heap.size 0 (fun _ => 0)) := by show TrAt _ _ _ _; rw [hw0]; exact heap_last _ _
  have HW0 : Hid (w0 = w.alloc (.cells #[.int .i64 0, .int .u64 0, .int .u64 0, .int .u64 0, .int .u64 0, .int .u64 0, .int .u64 0, .int .u64 0] 42)) := hw0
  obtain ⟨base, bt, b, mb, gw, ga, R, n, a, c, d, vl, D, an, cn, aa, ca, h⟩ := H.out
  have c4 : w0.cell? ⟨ob, 4, none⟩ = some (.pointer (some ⟨b, 0, none⟩)) := cell_at h.box rfl
  have HT : Hid (TB bt w0 b mb A.ac.length vl M D) := h.tb
  have HCI : Hid (mck M.length i = 0) := by show mck _ _ = 0; unfold mck; rw [if_pos ⟨by omega, by omega⟩]
  clear h hw0 hi
  go_enter Try.func10, Try.ntmps10
  go_wp2_with fail
  rw [← HW0.out]
  refine (mcheck_any H.out i).mono ?_
  rintro e w1 ⟨rfl, rfl⟩
  rw [HCI.out]
  go_wp2_with fail
  refine (ttat_any HT.out hl).mono ?_
  rintro e w1 ⟨rfl, hB1⟩
  have hst := st_trNew w1 l
  obtain ⟨w2, hw2⟩ : ∃ w2, w2 = w1.alloc (.cells (tC l) 42) := ⟨_, rfl⟩
  have HB1 : Hid (Below w.heap.size w w2) := by show Below _ _ _; rw [hw2]; exact go_on (go_on HB0.out hB1) (below_new _ _)
  have HT2 : Hid (TL w2 w1.heap.size l) := by show TL _ _ _; rw [hw2]; exact heap_last _ _
  have HR2 : Hid (TrAt w2 w.heap.size 0 (fun _ => 0)) := by
    have q1 : TrAt w1 w.heap.size 0 (fun _ => 0) := HR0.out.of (hB1.block _ HR0.out.lt)
    show TrAt _ _ _ _
    rw [hw2]
    exact q1.of (heap_allo q1.lt _)
  rw [← hw2] at hst
  clear hB1 hw2
  have hst2 : (storeCells ⟨w.heap.size, 0, none⟩ (tC l).toList 0).run Try.prog w2 = .ok () (w2.setRow w.heap.size (tC l)) := st_tr HR2.out
  go_wp2_with (refine wl_load rfl rfl HT2.out rfl ?_)
  exact bodyPost_ret (results_tr_tmp rfl rfl (TrAt.row HR2.out)) rfl ⟨rfl, below_row HB1.out (Nat.le_refl _)⟩

end Go.Proofs.Ytabkhoiccjkghaa

namespace Go.Proofs.Ytabkhoiccjkghaa
set_option linter.unusedVariables false

/-- Is it an element? -/
def hasE (n : Nat) (i : Int) : Bool := decide (0 ≤ i ∧ i < n)
end Go.Proofs.Ytabkhoiccjkghaa

namespace Go.Proofs.Ytabkhoiccjkghaa
open Go Go.RowKit Go.Lib
set_option linter.unusedVariables false
attribute [-instance] List.instBEq instBEqProd

theorem idx_ltM {n m i j : Nat} (hi : i < m) (hj : j < n) : i * n + j < m * n := by
  have := Nat.mul_le_mul_right n (show i + 1 ≤ m from hi)
  rw [Nat.add_mul] at this
  omega

/-- The images as a text. -/
def ib (l : List Nat) : ByteArray := ⟨(l.map fun s => UInt8.ofNat s).toArray⟩

/-- All that the document's monoid leads to. -/
structure RP (w : World) (rb : Nat) (A : Aut) (M : List (List Nat)) (N : List Nat) (an : Option Addr) (cn : Nat) (aa : Option Addr) (ca gi ci gw cw gn cg : Nat) : Prop where
  box : w.heap[rb]? = some (.cells #[.int .i64 A.k, .slice an A.nx.length cn, .slice aa A.ac.length ca, .slice (some ⟨gi, 0, none⟩) M.length ci, .slice (some ⟨gw, 0, none⟩) M.length cw, .slice (some ⟨gn, 0, none⟩) N.length cg] 54 (0, 0))
  nx : SR w an (zC A.nx)
  ac : SR w aa (bC A.ac)
  li : gi < w.heap.size
  img : ∀ j, j < M.length → w.cell? ⟨gi, j, none⟩ = some (.string (ib (M.getD j [])))
  lv : gw < w.heap.size
  wds : ∀ j, j < M.length → w.cell? ⟨gw, j, none⟩ = some (.string (wb (lw A.k.toNat N j)))
  ln : gn < w.heap.size
  nxt : ∀ p, p < N.length → w.cell? ⟨gn, p, none⟩ = some (.int .i64 ((N.getD p 0 : Nat) : Int))
  mon : Mon A M N
/-- A monoid that the document's Build made lies in block rb. -/
def RF (w : World) (rb : Nat) (A : Aut) (M : List (List Nat)) (N : List Nat) : Prop := ∃ an cn aa ca gi ci gw cw gn cg, RP w rb A M N an cn aa ca gi ci gw cw gn cg
theorem RF.below {w w' : World} {rb : Nat} {A : Aut} {M : List (List Nat)} {N : List Nat} (h : RF w rb A M N) (hb : Below w.heap.size w w') : RF w' rb A M N := by
  obtain ⟨an, cn, aa, ca, gi, ci, gw, cw, gn, cg, h⟩ := h
  exact ⟨an, cn, aa, ca, gi, ci, gw, cw, gn, cg, ⟨(hb.block _ (Array.getElem?_eq_some_iff.1 h.box).1).trans h.box, h.nx.stay hb, h.ac.stay hb, Nat.lt_of_lt_of_le h.li hb.size, fun j hj => by rw [below_cellJ hb h.li]; exact h.img j hj, Nat.lt_of_lt_of_le h.lv hb.size, fun j hj => by rw [below_cellJ hb h.lv]; exact h.wds j hj, Nat.lt_of_lt_of_le h.ln hb.size, fun j hj => by rw [below_cellJ hb h.ln]; exact h.nxt j hj, h.mon⟩⟩

set_option maxHeartbeats 1000000 in
theorem rlen_any {w : World} {rb : Nat} {A : Aut} {M : List (List Nat)} {N : List Nat} (h : RF w rb A M N) : Calls Try.prog 13 #[.pointer (some ⟨rb, 0, none⟩)] w fun e w' => e = .returned (.int .i64 (M.length : Nat)) ∧ w = w' := by
  obtain ⟨an, cn, aa, ca, gi, ci, gw, cw, gn, cg, h⟩ := h
  have c4 : w.cell? ⟨rb, 4, none⟩ = some (.slice (some ⟨gw, 0, none⟩) M.length cw) := cell_at h.box rfl
  clear h
  go_enter Try.func13, Try.ntmps13
  go_wp2_with fail
  go_ret
  exact ⟨rfl, rfl⟩

set_option maxHeartbeats 1000000 in
theorem rhas_any {w : World} {rb : Nat} {A : Aut} {M : List (List Nat)} {N : List Nat} (h : RF w rb A M N) (i : Int) : Calls Try.prog 18 #[.pointer (some ⟨rb, 0, none⟩), .int .i64 i] w fun e w' => e = .returned (.bool (hasE M.length i)) ∧ w = w' := by
  obtain ⟨an, cn, aa, ca, gi, ci, gw, cw, gn, cg, h⟩ := h
  have c4 : w.cell? ⟨rb, 4, none⟩ = some (.slice (some ⟨gw, 0, none⟩) M.length cw) := cell_at h.box rfl
  clear h
  by_cases h0 : 0 ≤ i
  · have h0d : decide (0 ≤ i) = true := decide_eq_true h0
    by_cases h1 : i < (M.length : Int)
    · have HE : Hid (hasE M.length i = true) := decide_eq_true ⟨h0, h1⟩
      have h1d : decide (i < (M.length : Int)) = true := decide_eq_true h1
      go_enter Try.func18, Try.ntmps18
      go_wp2_with fail
      go_ret
      exact ⟨by rw [HE.out]; rfl, rfl⟩
    · have HE : Hid (hasE M.length i = false) := decide_eq_false (fun q => h1 q.2)
      have h1d : decide (i < (M.length : Int)) = false := decide_eq_false h1
      go_enter Try.func18, Try.ntmps18
      go_wp2_with fail
      go_ret
      exact ⟨by rw [HE.out]; rfl, rfl⟩
  · have h0d : decide (0 ≤ i) = false := decide_eq_false h0
    have HE : Hid (hasE M.length i = false) := decide_eq_false (fun q => h0 q.1)
    go_enter Try.func18, Try.ntmps18
    go_wp2_with fail
    go_ret
    exact ⟨by rw [HE.out]; rfl, rfl⟩

set_option maxHeartbeats 4000000 in
set_option maxRecDepth 100000 in
theorem rgoM_any {w : World} {rb : Nat} {A : Aut} {M : List (List Nat)} {N : List Nat} (h : RF w rb A M N) (i : Nat) (hi : i < M.length) (b : ByteArray) (hb : Lts A.k b) (hz : b.size ≤ 9223372036854775807) : Calls Try.prog 36 #[.pointer (some ⟨rb, 0, none⟩), .int .i64 i, .string b] w fun e w' => e = .returned (.int .i64 (mr A.k.toNat N i (lets b) : Nat)) ∧ Below w.heap.size w w' := by
  have H : Hid (RF w rb A M N) := h
  obtain ⟨an, cn, aa, ca, gi, ci, gw, cw, gn, cg, h⟩ := h
  have HBX : Hid (w.heap[rb]? = some (.cells #[.int .i64 A.k, .slice an A.nx.length cn, .slice aa A.ac.length ca, .slice (some ⟨gi, 0, none⟩) M.length ci, .slice (some ⟨gw, 0, none⟩) M.length cw, .slice (some ⟨gn, 0, none⟩) N.length cg] 54 (0, 0))) := h.box
  have HNX : Hid (gn < w.heap.size ∧ ∀ p, p < N.length → w.cell? ⟨gn, p, none⟩ = some (.int .i64 ((N.getD p 0 : Nat) : Int))) := ⟨h.ln, h.nxt⟩
  have HMon : Hid (Mon A M N) := h.mon
  have HL : Hid (Lts A.k b) := hb
  have HLt : Hid (Lt A.k.toNat (lets b)) := hb.ltn h.mon.G.k1
  have HI : Hid (i < M.length) := hi
  clear h hb hi
  go_enter Try.func36, Try.ntmps36
  go_wp2_with fail
  go_loopw [1, 7] (fun vs vi wr => ∃ q : Nat, vi = .int .i64 q ∧ q ≤ b.size ∧ vs = .int .i64 (mr A.k.toNat N i ((lets b).take q) : Nat) ∧ Below w.heap.size w wr) (fun _ vi _ => b.size - (Go.RowKit.intOf vi).toNat)
  case atStart => exact ⟨0, rfl, Nat.zero_le _, rfl, Below.refl _ _⟩
  case round =>
    obtain ⟨q, rfl, hqn, rfl, hb⟩ := hrel
    have HB : Hid (Below w.heap.size w wr) := hb
    clear hb
    obtain ⟨t, ht⟩ : ∃ t, mr A.k.toNat N i ((lets b).take q) = t := ⟨_, rfl⟩
    have HTi : Hid (mr A.k.toNat N i ((lets b).take q) = t) := ht
    rw [ht]
    clear ht
    by_cases hlt : q < b.size
    · have hiI : (q : Int) < b.size := by omega
      obtain ⟨l1, l2⟩ := HL.out q hlt
      obtain ⟨c, hc⟩ : ∃ c, b[q].toNat - 97 = c := ⟨_, rfl⟩
      have hk1 := HMon.out.G.k1
      have hk8 := HMon.out.G.k8
      have hms := HMon.out.most
      have hcv : IntKind.u8.wrap ((b[q].toNat : Int) - 97) = (c : Int) := by rw [IntKind.wrap_u8]; omega
      have hcv2 : IntKind.i64.wrap (c : Int) = (c : Int) := by rw [IntKind.wrap_i64]; omega
      have hck : c < A.k.toNat := by omega
      have HC : Hid (b[q].toNat - 97 = c) := hc
      have htl : t < M.length := by rw [← HTi.out]; exact HMon.out.lt (fun x hx => HLt.out x (List.mem_of_mem_take hx)) HI.out
      have g1 : t * A.k.toNat + c < N.length := by rw [HMon.out.len]; exact idx_ltM htl hck
      have hcell := HNX.out.2 _ g1
      obtain ⟨D, hD⟩ : ∃ D, N.getD (t * A.k.toNat + c) 0 = D := ⟨_, rfl⟩
      have HNXT : Hid (D = mr A.k.toNat N i ((lets b).take (q + 1))) := by
        show _ = _
        rw [List.take_add_one, lets_at b q hlt, Option.toList_some, mr_app, HTi.out, mr_one, hc, hD]
      rw [hD] at hcell
      have hp : (t : Int) * A.k = ((t * A.k.toNat : Nat) : Int) := by rw [Int.natCast_mul]; congr 1; omega
      have hq : t * A.k.toNat ≤ 512 * 8 := Nat.mul_le_mul (by omega) (by omega)
      obtain ⟨p, hpp⟩ : ∃ p, t * A.k.toNat = p := ⟨_, rfl⟩
      rw [hpp] at hp hq hcell g1
      have hw1 : IntKind.i64.wrap ((t : Int) * A.k) = (p : Int) := by rw [hp, IntKind.wrap_i64]; omega
      obtain ⟨r, hqq⟩ : ∃ r, p + c = r := ⟨_, rfl⟩
      have hw2 : IntKind.i64.wrap ((p : Int) + c) = (r : Int) := by rw [IntKind.wrap_i64]; omega
      have hgl : (r : Int) < N.length := by omega
      rw [hqq] at hcell
      have hcell' : wr.cell? ⟨gn, r, none⟩ = some (.int .i64 (D : Int)) := by rw [below_cellJ HB.out HNX.out.1]; exact hcell
      have hbx' : wr.heap[rb]? = some (.cells #[.int .i64 A.k, .slice an A.nx.length cn, .slice aa A.ac.length ca, .slice (some ⟨gi, 0, none⟩) M.length ci, .slice (some ⟨gw, 0, none⟩) M.length cw, .slice (some ⟨gn, 0, none⟩) N.length cg] 54 (0, 0)) := (HB.out.block _ (Array.getElem?_eq_some_iff.1 HBX.out).1).trans HBX.out
      have S0 : wr.drew.cell? ⟨rb, 0, none⟩ = some (.int .i64 A.k) ∧ wr.drew.cell? ⟨rb, 5, none⟩ = some (.slice (some ⟨gn, 0, none⟩) N.length cg) ∧ wr.drew.cell? ⟨gn, r, none⟩ = some (.int .i64 (D : Int)) := ⟨cell_at (w := wr) hbx' rfl, cell_at (w := wr) hbx' rfl, hcell'⟩
      have HBD : Hid (Below w.heap.size w wr.drew) := HB.out.drew
      have HQ : Hid (q < b.size) := hlt
      clear hc l1 l2 hk8 hk1 hp hq hpp hqq g1 hcell hcell' hD htl hck hbx' hms
      go_wp2_with fail
      go_region_held3 (fun w' => w'.cell? ⟨rb, 0, none⟩ = some (.int .i64 A.k) ∧ w'.cell? ⟨rb, 5, none⟩ = some (.slice (some ⟨gn, 0, none⟩) N.length cg) ∧ w'.cell? ⟨gn, r, none⟩ = some (.int .i64 (D : Int))) (first | exact S0 | assumption) (fail)
      clear S0
      go_wp2_with fail
      go_roundw
      case rel => exact ⟨q + 1, by go_num, HQ.out, by rw [HNXT.out], HBD.out⟩
      case measure => have := HQ.out; simp [Go.RowKit.intOf]; omega
    · have hiI : ¬ (q : Int) < b.size := by omega
      have HE : Hid ((lets b).take q = lets b) := List.take_of_length_le (by rw [lets_len]; omega)
      go_wp2_with fail
      go_ret
      exact ⟨by rw [← HTi.out, HE.out]; rfl, HB.out⟩

set_option maxHeartbeats 1000000 in
set_option maxRecDepth 100000 in
theorem rtimes_any {w : World} {rb : Nat} {A : Aut} {M : List (List Nat)} {N : List Nat} (h : RF w rb A M N) (i j : Nat) (hi : i < M.length) (hj : j < M.length) : Calls Try.prog 39 #[.pointer (some ⟨rb, 0, none⟩), .int .i64 i, .int .i64 j] w fun e w' => e = .returned (.int .i64 (pr A.k.toNat N i j : Nat)) ∧ Below w.heap.size w w' := by
  have H : Hid (RF w rb A M N) := h
  obtain ⟨an, cn, aa, ca, gi, ci, gw, cw, gn, cg, h⟩ := h
  have c4 : w.cell? ⟨rb, 4, none⟩ = some (.slice (some ⟨gw, 0, none⟩) M.length cw) := cell_at h.box rfl
  have hw := h.wds j hj
  have hlw := h.mon.lw j hj
  have hks := h.mon.G.k8
  have hk1 := h.mon.G.k1
  have hll := lw_len h.mon.fst j hj
  have hms := h.mon.most
  have HG : Hid (Calls Try.prog 36 #[.pointer (some ⟨rb, 0, none⟩), .int .i64 i, .string (wb (lw A.k.toNat N j))] w fun e w' => e = .returned (.int .i64 (pr A.k.toNat N i j : Nat)) ∧ Below w.heap.size w w') := by
    have := rgoM_any H.out i hi (wb (lw A.k.toNat N j)) (wb_lts hk1 hks hlw.1).1 (by rw [wb_size]; omega)
    rw [lets_wb (k := A.k.toNat) (by omega) hlw.1] at this
    exact this
  obtain ⟨X, hX⟩ : ∃ X, wb (lw A.k.toNat N j) = X := ⟨_, rfl⟩
  rw [hX] at hw HG
  have hjI : (j : Int) < M.length := by omega
  clear h hlw hks hk1 hll hms hX
  go_enter Try.func39, Try.ntmps39
  go_wp2_with fail
  refine HG.out.mono ?_
  rintro e w1 ⟨rfl, hb⟩
  go_wp2_with fail
  go_ret
  exact ⟨rfl, hb⟩

/-- What the document's Product answers. -/
def rpV (A : Aut) (n : Nat) (N : List Nat) (i j : Int) : Value := if hasE n i = true ∧ hasE n j = true then .tuple #[.int .i64 (pr A.k.toNat N i.toNat j.toNat : Nat), .int .i64 0] else .tuple #[.int .i64 0, .int .i64 11]

theorem hasE_of {n : Nat} {i : Int} (h : hasE n i = true) : ∃ k : Nat, i = k ∧ k < n := by
  have := of_decide_eq_true h
  exact ⟨i.toNat, by omega, by omega⟩

set_option maxHeartbeats 1000000 in
set_option maxRecDepth 100000 in
theorem rElement_any {w : World} {rb : Nat} {A : Aut} {M : List (List Nat)} {N : List Nat} (h : RF w rb A M N) (s : ByteArray) (hz : s.size ≤ maxLen) : Calls Try.prog 11 #[.pointer (some ⟨rb, 0, none⟩), .string s] w fun e w' => e = .returned (if chk A.k s = 0 then .tuple #[.int .i64 (mr A.k.toNat N 0 (lets s) : Nat), .int .i64 0] else .tuple #[.int .i64 0, .int .i64 (chk A.k s)]) ∧ Below w.heap.size w w' := by
  have H : Hid (RF w rb A M N) := h
  obtain ⟨an, cn, aa, ca, gi, ci, gw, cw, gn, cg, h⟩ := h
  have c0 : w.cell? ⟨rb, 0, none⟩ = some (.int .i64 A.k) := cell_at h.box rfl
  have HP : Hid (0 < M.length) := h.mon.pos
  have hz' : Hid (s.size ≤ 9223372036854775807) := by show _ ≤ _; unfold maxLen at hz; omega
  clear h
  obtain ⟨E, hE⟩ : ∃ E, chk A.k s = E := ⟨_, rfl⟩
  have HC : Hid (Calls Try.prog 35 #[.int .i64 A.k, .string s] w fun e w' => e = .returned (.int .i64 E) ∧ Below w.heap.size w w') := by have := rcheck_any A.k s w hz; rw [hE] at this; exact this
  rw [hE]
  by_cases hc : E = 0
  · subst hc
    have HL : Hid (Lts A.k s) := chk_all hE
    rw [if_pos rfl]
    clear hE
    go_enter Try.func11, Try.ntmps11
    go_wp2_with fail
    refine HC.out.mono ?_
    rintro e w1 ⟨rfl, hb⟩
    have HB : Hid (Below w.heap.size w w1) := hb
    clear hb
    go_wp2_with fail
    refine (rgoM_any (H.out.below HB.out) 0 HP.out s HL.out hz'.out).mono ?_
    rintro e w2 ⟨rfl, hb⟩
    have HB2 : Hid (Below w.heap.size w w2) := go_on HB.out hb
    clear hb
    go_wp2_with fail
    go_ret2
    exact ⟨rfl, HB2.out⟩
  · have hq0 : (E != 0) = true := by rw [bne_iff_ne]; exact hc
    rw [if_neg hc]
    clear hE
    go_enter Try.func11, Try.ntmps11
    go_wp2_with fail
    refine HC.out.mono ?_
    rintro e w1 ⟨rfl, hb⟩
    go_wp2_with fail
    go_ret2
    exact ⟨rfl, hb⟩

end Go.Proofs.Ytabkhoiccjkghaa

namespace Go.Proofs.Ytabkhoiccjkghaa
open Go Go.RowKit Go.Lib Go.Maps
set_option linter.unusedVariables false
attribute [-instance] List.instBEq instBEqProd

theorem mck_has (n : Nat) (i : Int) : mck n i = if hasE n i = true then 0 else 11 := by
  unfold mck hasE
  by_cases h : 0 ≤ i ∧ i < n
  · rw [if_pos h, if_pos (decide_eq_true h)]
  · rw [if_neg h, if_neg (by rw [decide_eq_false h]; decide)]

theorem mcheck_is {w : World} {ob : Nat} {A : Aut} {M : List (List Nat)} {N : List Nat} (h : MO w ob A M N) {i : Int} (hi : hasE M.length i = true) : Calls Try.prog 28 #[.pointer (some ⟨ob, 0, none⟩), .int .i64 i] w fun e w' => e = .returned (.int .i64 0) ∧ w = w' := by
  have := mcheck_any h i
  rw [mck_has, if_pos hi] at this
  exact this

theorem mcheck_not {w : World} {ob : Nat} {A : Aut} {M : List (List Nat)} {N : List Nat} (h : MO w ob A M N) {i : Int} (hi : ¬ hasE M.length i = true) : Calls Try.prog 28 #[.pointer (some ⟨ob, 0, none⟩), .int .i64 i] w fun e w' => e = .returned (.int .i64 11) ∧ w = w' := by
  have := mcheck_any h i
  rw [mck_has, if_neg hi] at this
  exact this

set_option maxHeartbeats 1000000 in
set_option maxRecDepth 100000 in
theorem mproduct_all {w : World} {ob : Nat} {A : Aut} {M : List (List Nat)} {N : List Nat} (h : MO w ob A M N) (i j : Int) : Calls Try.prog 27 #[.pointer (some ⟨ob, 0, none⟩), .int .i64 i, .int .i64 j] w fun e w' => e = .returned (rpV A M.length N i j) ∧ Below w.heap.size w w' := by
  have H : Hid (MO w ob A M N) := h
  by_cases h0 : hasE M.length i = true
  · by_cases h1 : hasE M.length j = true
    · obtain ⟨a, rfl, ha⟩ := hasE_of h0
      obtain ⟨b, rfl, hb⟩ := hasE_of h1
      have := mproduct_ok h a b ha hb
      unfold rpV
      rw [if_pos ⟨h0, h1⟩]
      exact this
    · have HE : Hid (rpV A M.length N i j = .tuple #[.int .i64 0, .int .i64 11]) := by show _ = _; unfold rpV; rw [if_neg (fun q => h1 q.2)]
      have C0 : Hid _ := mcheck_is h h0
      have C1 : Hid _ := mcheck_not h h1
      clear h h0 h1
      go_enter Try.func27, Try.ntmps27
      go_wp2_with fail
      refine Calls.mono C0.out ?_
      rintro e w1 ⟨rfl, rfl⟩
      go_wp2_with fail
      refine Calls.mono C1.out ?_
      rintro e w1 ⟨rfl, rfl⟩
      go_wp2_with fail
      go_ret2
      rw [HE.out]
      exact ⟨rfl, Below.refl _ _⟩
  · have HE : Hid (rpV A M.length N i j = .tuple #[.int .i64 0, .int .i64 11]) := by show _ = _; unfold rpV; rw [if_neg (fun q => h0 q.1)]
    have C0 : Hid _ := mcheck_not h h0
    clear h h0
    go_enter Try.func27, Try.ntmps27
    go_wp2_with fail
    refine Calls.mono C0.out ?_
    rintro e w1 ⟨rfl, rfl⟩
    go_wp2_with fail
    go_ret2
    rw [HE.out]
    exact ⟨rfl, Below.refl _ _⟩

theorem mplaceA (x : Nat) (hx : x < 256) (w : World) : Calls Try.prog 50 #[.int .i32 (x : Int)] w fun e w' => e = .returned (.int .i64 ((x : Int) - 97)) ∧ w = w' := by
  have e1 : IntKind.i32.wrap ((x : Int) - 97) = (x : Int) - 97 := by rw [IntKind.wrap_i32]; omega
  have e2 : IntKind.i64.wrap ((x : Int) - 97) = (x : Int) - 97 := by rw [IntKind.wrap_i64]; omega
  obtain ⟨y, hy⟩ : ∃ y, (x : Int) - 97 = y := ⟨_, rfl⟩
  rw [hy] at e1 e2
  rw [hy]
  go_enter Try.func50, Try.ntmps50
  go_wp2_with fail
  go_ret
  exact ⟨rfl, rfl⟩

/-- Is a byte a letter? -/
def isL (k : Int) (x : Nat) : Prop := 97 ≤ x ∧ (x : Int) < 97 + k

open Classical in

/-- What Right (Left) answers, the document's Beside too. -/
noncomputable def rbV (A : Aut) (n : Nat) (N : List Nat) (i : Int) (x : Nat) (ahead : Bool) : Value := if hasE n i = true then (if isL A.k x then .tuple #[.int .i64 ((if ahead = true then pr A.k.toNat N (N.getD (x - 97) 0) i.toNat else N.getD (i.toNat * A.k.toNat + (x - 97)) 0 : Nat) : Int), .int .i64 0] else .tuple #[.int .i64 0, .int .i64 21]) else .tuple #[.int .i64 0, .int .i64 11]

set_option maxHeartbeats 1000000 in
set_option maxRecDepth 100000 in
theorem mword_not {w : World} {ob : Nat} {A : Aut} {M : List (List Nat)} {N : List Nat} (h : MO w ob A M N) {i : Int} (hi : ¬ hasE M.length i = true) : Calls Try.prog 6 #[.pointer (some ⟨ob, 0, none⟩), .int .i64 i] w fun e w' => e = .returned (.tuple #[.string ByteArray.empty, .int .i64 11]) ∧ w = w' := by
  have C0 : Hid _ := mcheck_not h hi
  clear h hi
  go_enter Try.func6, Try.ntmps6
  go_wp2_with fail
  refine Calls.mono C0.out ?_
  rintro e w1 ⟨rfl, rfl⟩
  go_wp2_with fail
  go_ret2
  exact ⟨rfl, rfl⟩

set_option maxHeartbeats 1000000 in
set_option maxRecDepth 100000 in
theorem maccept_not {w : World} {ob : Nat} {A : Aut} {M : List (List Nat)} {N : List Nat} (h : MO w ob A M N) {i : Int} (hi : ¬ hasE M.length i = true) : Calls Try.prog 8 #[.pointer (some ⟨ob, 0, none⟩), .int .i64 i] w fun e w' => e = .returned (.tuple #[.bool false, .int .i64 11]) ∧ w = w' := by
  have C0 : Hid _ := mcheck_not h hi
  clear h hi
  go_enter Try.func8, Try.ntmps8
  go_wp2_with fail
  refine Calls.mono C0.out ?_
  rintro e w1 ⟨rfl, rfl⟩
  go_wp2_with fail
  go_ret2
  exact ⟨rfl, rfl⟩

end Go.Proofs.Ytabkhoiccjkghaa

namespace Go.Proofs.Ytabkhoiccjkghaa
open Go Go.RowKit Go.Lib
set_option linter.unusedVariables false
attribute [-instance] List.instBEq instBEqProd

def sI (M : List (List Nat)) : List Value := M.map fun l => .string (ib l)

def sW (M : List (List Nat)) : List Value := M.map fun l => .string (wb l)

def qN (N : List Nat) : List Value := N.map fun (j : Nat) => .int .i64 (j : Int)

theorem sI_snoc (M : List (List Nat)) (l : List Nat) : sI (M ++ [l]) = sI M ++ [.string (ib l)] := by simp [sI]

theorem sW_snoc (M : List (List Nat)) (l : List Nat) : sW (M ++ [l]) = sW M ++ [.string (wb l)] := by simp [sW]

theorem qN_snoc (N : List Nat) (j : Nat) : qN (N ++ [j]) = qN N ++ [.int .i64 (j : Int)] := by simp [qN]

/-- The document's monoid while it is built. -/
structure RB (base : Nat) (W w : World) (rb : Nat) (A : Aut) (an : Option Addr) (cn : Nat) (aa : Option Addr) (ca : Nat) (M Ws : List (List Nat)) (N : List Nat) (vi vw vn : Value) : Prop where
  box : w.heap[rb]? = some (.cells #[.int .i64 A.k, .slice an A.nx.length cn, .slice aa A.ac.length ca, vi, vw, vn] 54 (0, 0))
  nx : w.ownsRow base 3 1 (.slice an A.nx.length cn) A.nx.length (zC A.nx)
  ac : w.ownsRow base 4 1 (.slice aa A.ac.length ca) A.ac.length (bC A.ac)
  img : w.ownsRow base 9 1 vi M.length (sI M)
  wds : w.ownsRow base 9 1 vw Ws.length (sW Ws)
  nxt : w.ownsRow base 3 1 vn N.length (qN N)
  lo : base ≤ rb
  iw : ∀ j, vi.ownBlock = some j → vw.ownBlock ≠ some j
  nn : ∀ j, vn.ownBlock = some j → (Value.slice an A.nx.length cn).ownBlock ≠ some j
  below : Below base W w
  lob : base ≤ W.heap.size

theorem RB.call {base : Nat} {W w : World} {rb : Nat} {A : Aut} {an : Option Addr} {cn : Nat} {aa : Option Addr} {ca : Nat} {M Ws : List (List Nat)} {N : List Nat} {vi vw vn : Value} {w' : World} (h : RB base W w rb A an cn aa ca M Ws N vi vw vn) (hb : Below w.heap.size w w') : RB base W w' rb A an cn aa ca M Ws N vi vw vn :=
  ⟨(hb.block _ (Array.getElem?_eq_some_iff.1 h.box).1).trans h.box, own_below h.nx hb, own_below h.ac hb, own_below h.img hb, own_below h.wds hb, own_below h.nxt hb, h.lo, h.iw, h.nn, h.below.trans (hb.mono (Nat.le_trans h.lob h.below.size)), h.lob⟩

theorem RB.blk {base : Nat} {W w : World} {rb : Nat} {A : Aut} {an : Option Addr} {cn : Nat} {aa : Option Addr} {ca : Nat} {M Ws : List (List Nat)} {N : List Nat} {vi vw vn : Value} (h : RB base W w rb A an cn aa ca M Ws N vi vw vn) : base ≤ w.heap.size := Nat.le_trans h.lob h.below.size

theorem RB.imgd {base : Nat} {W w : World} {rb : Nat} {A : Aut} {an : Option Addr} {cn : Nat} {aa : Option Addr} {ca : Nat} {M Ws : List (List Nat)} {N : List Nat} {vi vw vn : Value} {w7 : World} {vi' : Value} {l : List Nat} {o : Obj} {q : Nat} (h : RB base W w rb A an cn aa ca M Ws N vi vw vn)
    (ho : w7.ownsRow base 9 1 vi' (M.length + 1) (sI M ++ [.string (ib l)])) (hg : (w.alloc o).grownBy w7 vi.ownBlock) (hl : vi'.ownBlock = vi.ownBlock ∨ vi'.ownBlock = some q) (hq : w.heap.size ≤ q) :
    w7.heap[rb]? = some (.cells #[.int .i64 A.k, .slice an A.nx.length cn, .slice aa A.ac.length ca, vi, vw, vn] 54 (0, 0)) ∧ RB base W (w7.setCell ⟨rb, 3, none⟩ vi') rb A an cn aa ca (M ++ [l]) Ws N vi' vw vn := by
  have hs7 : w.heap.size + 1 ≤ w7.heap.size := by have := (Only.grown (S := fun _ => True) hg (fun _ _ => trivial)).size; simpa using this
  have k : ∀ j, j < w.heap.size → vi.ownBlock ≠ some j → w7.heap[j]? = w.heap[j]? := fun j hj h2 => by
    rw [hg.block j (by simp; omega) (fun e => h2 e.symm), (below_new w o).block j hj]
  have kt : ∀ (j : Nat) (cur : Array Value) (ty : TypeId), w.heap[j]? = some (.cells cur ty (0, 0)) → ty ≠ 9 → w7.heap[j]? = w.heap[j]? := fun j cur ty hj hne => k j (Array.getElem?_eq_some_iff.1 hj).1 (fun e => by
    obtain ⟨_, cur, hc⟩ := own_blk h.img e
    exact blk_ne hj hc hne rfl)
  have box7 := (kt rb _ _ h.box (by decide)).trans h.box
  have so : ∀ (j : Nat) (cur : Array Value) {ty : TypeId}, w7.heap[j]? = some (.cells cur ty (0, 0)) → ty ≠ 54 → (w7.setCell ⟨rb, 3, none⟩ vi').heap[j]? = w7.heap[j]? := fun j cur ty hj hne => heap_set_other (fun e => by
    exact blk_ne hj box7 hne e)
  refine ⟨box7, heap_set box7, ?_, ?_, ?_, ?_, ?_, h.lo, ?_, ?_, ?_, h.lob⟩
  · exact own_keep (own_keep h.nx (fun j cur hj hc => kt j _ _ hc (by decide))) (fun j cur hj hc => so j _ hc (by decide))
  · exact own_keep (own_keep h.ac (fun j cur hj hc => kt j _ _ hc (by decide))) (fun j cur hj hc => so j _ hc (by decide))
  · rw [List.length_append, sI_snoc]
    exact own_keep ho (fun j cur hj hc => so j _ hc (by decide))
  · refine own_keep (own_keep h.wds (fun j cur hj hc => k j (Array.getElem?_eq_some_iff.1 hc).1 (fun e => h.iw _ e hj))) (fun j cur hj hc => so j _ hc (by decide))
  · exact own_keep (own_keep h.nxt (fun j cur hj hc => kt j _ _ hc (by decide))) (fun j cur hj hc => so j _ hc (by decide))
  · intro j hj
    rcases hl with r | r
    · exact h.iw j (r.symm.trans hj)
    · intro e
      have := (h.wds.lt j e).2
      rw [r] at hj
      simp only [Option.some.injEq] at hj
      omega
  · exact h.nn
  · have hb := h.below
    have hbb := h.blk
    exact (((hb.alloc hbb o).grown hg (by have := hb.size; simp; omega) (fun j hj => (h.img.lt j hj).1))).setCell (p := ⟨rb, 3, none⟩) h.lo _

theorem RB.wdsd {base : Nat} {W w : World} {rb : Nat} {A : Aut} {an : Option Addr} {cn : Nat} {aa : Option Addr} {ca : Nat} {M Ws : List (List Nat)} {N : List Nat} {vi vw vn : Value} {w7 : World} {vw' : Value} {l : List Nat} {o : Obj} {q : Nat} (h : RB base W w rb A an cn aa ca M Ws N vi vw vn)
    (ho : w7.ownsRow base 9 1 vw' (Ws.length + 1) (sW Ws ++ [.string (wb l)])) (hg : (w.alloc o).grownBy w7 vw.ownBlock) (hl : vw'.ownBlock = vw.ownBlock ∨ vw'.ownBlock = some q) (hq : w.heap.size ≤ q) :
    w7.heap[rb]? = some (.cells #[.int .i64 A.k, .slice an A.nx.length cn, .slice aa A.ac.length ca, vi, vw, vn] 54 (0, 0)) ∧ RB base W (w7.setCell ⟨rb, 4, none⟩ vw') rb A an cn aa ca M (Ws ++ [l]) N vi vw' vn := by
  have hs7 : w.heap.size + 1 ≤ w7.heap.size := by have := (Only.grown (S := fun _ => True) hg (fun _ _ => trivial)).size; simpa using this
  have k : ∀ j, j < w.heap.size → vw.ownBlock ≠ some j → w7.heap[j]? = w.heap[j]? := fun j hj h2 => by
    rw [hg.block j (by simp; omega) (fun e => h2 e.symm), (below_new w o).block j hj]
  have kt : ∀ (j : Nat) (cur : Array Value) (ty : TypeId), w.heap[j]? = some (.cells cur ty (0, 0)) → ty ≠ 9 → w7.heap[j]? = w.heap[j]? := fun j cur ty hj hne => k j (Array.getElem?_eq_some_iff.1 hj).1 (fun e => by
    obtain ⟨_, cur, hc⟩ := own_blk h.wds e
    exact blk_ne hj hc hne rfl)
  have box7 := (kt rb _ _ h.box (by decide)).trans h.box
  have so : ∀ (j : Nat) (cur : Array Value) {ty : TypeId}, w7.heap[j]? = some (.cells cur ty (0, 0)) → ty ≠ 54 → (w7.setCell ⟨rb, 4, none⟩ vw').heap[j]? = w7.heap[j]? := fun j cur ty hj hne => heap_set_other (fun e => by
    exact blk_ne hj box7 hne e)
  refine ⟨box7, heap_set box7, ?_, ?_, ?_, ?_, ?_, h.lo, ?_, ?_, ?_, h.lob⟩
  · exact own_keep (own_keep h.nx (fun j cur hj hc => kt j _ _ hc (by decide))) (fun j cur hj hc => so j _ hc (by decide))
  · exact own_keep (own_keep h.ac (fun j cur hj hc => kt j _ _ hc (by decide))) (fun j cur hj hc => so j _ hc (by decide))
  · refine own_keep (own_keep h.img (fun j cur hj hc => k j (Array.getElem?_eq_some_iff.1 hc).1 (fun e => h.iw _ hj e))) (fun j cur hj hc => so j _ hc (by decide))
  · rw [List.length_append, sW_snoc]
    exact own_keep ho (fun j cur hj hc => so j _ hc (by decide))
  · exact own_keep (own_keep h.nxt (fun j cur hj hc => kt j _ _ hc (by decide))) (fun j cur hj hc => so j _ hc (by decide))
  · intro j hj e
    rcases hl with r | r
    · exact h.iw j hj (r.symm.trans e)
    · have := (h.img.lt j hj).2
      rw [r] at e
      simp only [Option.some.injEq] at e
      omega
  · exact h.nn
  · have hb := h.below
    have hbb := h.blk
    exact (((hb.alloc hbb o).grown hg (by have := hb.size; simp; omega) (fun j hj => (h.wds.lt j hj).1))).setCell (p := ⟨rb, 4, none⟩) h.lo _

theorem RB.nxtd {base : Nat} {W w : World} {rb : Nat} {A : Aut} {an : Option Addr} {cn : Nat} {aa : Option Addr} {ca : Nat} {M Ws : List (List Nat)} {N : List Nat} {vi vw vn : Value} {w7 : World} {vn' : Value} {l : Nat} {o : Obj} {q : Nat} (h : RB base W w rb A an cn aa ca M Ws N vi vw vn)
    (ho : w7.ownsRow base 3 1 vn' (N.length + 1) (qN N ++ [.int .i64 (l : Int)])) (hg : (w.alloc o).grownBy w7 vn.ownBlock) (hl : vn'.ownBlock = vn.ownBlock ∨ vn'.ownBlock = some q) (hq : w.heap.size ≤ q) :
    w7.heap[rb]? = some (.cells #[.int .i64 A.k, .slice an A.nx.length cn, .slice aa A.ac.length ca, vi, vw, vn] 54 (0, 0)) ∧ RB base W (w7.setCell ⟨rb, 5, none⟩ vn') rb A an cn aa ca M Ws (N ++ [l]) vi vw vn' := by
  have hs7 : w.heap.size + 1 ≤ w7.heap.size := by have := (Only.grown (S := fun _ => True) hg (fun _ _ => trivial)).size; simpa using this
  have k : ∀ j, j < w.heap.size → vn.ownBlock ≠ some j → w7.heap[j]? = w.heap[j]? := fun j hj h2 => by
    rw [hg.block j (by simp; omega) (fun e => h2 e.symm), (below_new w o).block j hj]
  have kt : ∀ (j : Nat) (cur : Array Value) (ty : TypeId), w.heap[j]? = some (.cells cur ty (0, 0)) → ty ≠ 3 → w7.heap[j]? = w.heap[j]? := fun j cur ty hj hne => k j (Array.getElem?_eq_some_iff.1 hj).1 (fun e => by
    obtain ⟨_, cur, hc⟩ := own_blk h.nxt e
    exact blk_ne hj hc hne rfl)
  have box7 := (kt rb _ _ h.box (by decide)).trans h.box
  have so : ∀ (j : Nat) (cur : Array Value) {ty : TypeId}, w7.heap[j]? = some (.cells cur ty (0, 0)) → ty ≠ 54 → (w7.setCell ⟨rb, 5, none⟩ vn').heap[j]? = w7.heap[j]? := fun j cur ty hj hne => heap_set_other (fun e => by
    exact blk_ne hj box7 hne e)
  refine ⟨box7, heap_set box7, ?_, ?_, ?_, ?_, ?_, h.lo, ?_, ?_, ?_, h.lob⟩
  · refine own_keep (own_keep h.nx (fun j cur hj hc => k j (Array.getElem?_eq_some_iff.1 hc).1 (fun e => h.nn _ e hj))) (fun j cur hj hc => so j _ hc (by decide))
  · exact own_keep (own_keep h.ac (fun j cur hj hc => kt j _ _ hc (by decide))) (fun j cur hj hc => so j _ hc (by decide))
  · exact own_keep (own_keep h.img (fun j cur hj hc => kt j _ _ hc (by decide))) (fun j cur hj hc => so j _ hc (by decide))
  · exact own_keep (own_keep h.wds (fun j cur hj hc => kt j _ _ hc (by decide))) (fun j cur hj hc => so j _ hc (by decide))
  · rw [List.length_append, qN_snoc]
    exact own_keep ho (fun j cur hj hc => so j _ hc (by decide))
  · exact h.iw
  · intro j hj e
    rcases hl with r | r
    · exact h.nn j (r.symm.trans hj) e
    · have := (h.nx.lt j e).2
      rw [r] at hj
      simp only [Option.some.injEq] at hj
      omega
  · have hb := h.below
    have hbb := h.blk
    exact (((hb.alloc hbb o).grown hg (by have := hb.size; simp; omega) (fun j hj => (h.nxt.lt j hj).1))).setCell (p := ⟨rb, 5, none⟩) h.lo _

end Go.Proofs.Ytabkhoiccjkghaa

namespace Go.Proofs.Ytabkhoiccjkghaa
open Go Go.RowKit Go.Lib
set_option linter.unusedVariables false
attribute [-instance] List.instBEq instBEqProd

theorem ib_size (l : List Nat) : (ib l).size = l.length := by
  show (l.map fun s => UInt8.ofNat s).toArray.size = l.length
  simp

theorem ib_inj {l m : List Nat} (hl : ∀ x ∈ l, x < 256) (hm : ∀ x ∈ m, x < 256) (h : ib l = ib m) : l = m := by
  have h1 : (l.map fun s => UInt8.ofNat s) = (m.map fun s => UInt8.ofNat s) := by
    have := congrArg (fun b => b.data.toList) h
    simpa [ib] using this
  have h2 : ∀ k : List Nat, (∀ x ∈ k, x < 256) → (k.map fun s => UInt8.ofNat s).map (fun c => c.toNat) = k := fun k hk => by
    rw [List.map_map]
    conv => rhs; rw [← List.map_id k]
    apply List.map_congr_left
    intro x hx
    show (UInt8.ofNat x).toNat = x
    rw [UInt8.toNat_ofNat']
    exact Nat.mod_eq_of_lt (hk x hx)
  rw [← h2 l hl, ← h2 m hm, h1]

theorem idxOf_firstL {l : List (List Nat)} {j : List Nat} {p : Nat} (hp : l[p]? = some j) (hq : ∀ q, q < p → l[q]? ≠ some j) : l.idxOf j = p := by
  induction l generalizing p with
  | nil => simp at hp
  | cons a l ih =>
    cases p with
    | zero =>
      simp at hp
      subst hp
      exact List.idxOf_cons_self
    | succ p =>
      have hne : a ≠ j := fun e => hq 0 (by omega) (by simp [e])
      rw [List.idxOf_cons]
      have : (a == j) = false := by rw [beq_eq_false_iff_ne]; exact hne
      rw [this]
      simp only [cond_false]
      rw [ih (p := p) (by simpa using hp) (fun q h => by have := hq (q + 1) (by omega); simpa using this)]

set_option maxHeartbeats 4000000 in
set_option maxRecDepth 100000 in
theorem rfind_any {base : Nat} {W w : World} {rb : Nat} {A : Aut} {an : Option Addr} {cn : Nat} {aa : Option Addr} {ca : Nat} {M Ws : List (List Nat)} {N : List Nat} {vi vw vn : Value} (h : RB base W w rb A an cn aa ca M Ws N vi vw vn) (l : List Nat) (hM : ∀ m ∈ M, ∀ x ∈ m, x < 256) (hl : ∀ x ∈ l, x < 256) (hn : M.length ≤ 512) :
    Calls Try.prog 46 #[.pointer (some ⟨rb, 0, none⟩), .string (ib l)] w fun e w' => e = .returned (.int .i64 (M.idxOf l : Nat)) ∧ w = w' := by
  obtain ⟨gi, ci, rfl⟩ := own_shape h.img
  have HC : Hid (∀ j, j < M.length → ∃ g o, gi = some ⟨g, o, none⟩ ∧ w.cell? ⟨g, o + j, none⟩ = some (.string (ib (M.getD j [])))) := fun j hj => by
    obtain ⟨g, o, e, _, hc⟩ := own_sr h.img j (.string (ib (M.getD j []))) (by unfold sI; rw [List.getElem?_map, List.getElem?_eq_getElem hj, List.getD_eq_getElem?_getD, List.getElem?_eq_getElem hj]; rfl)
    exact ⟨g, o, e, hc⟩
  have c3 : w.cell? ⟨rb, 3, none⟩ = some (.slice gi M.length ci) := cell_at h.box rfl
  have HMM : Hid (∀ m ∈ M, ∀ x ∈ m, x < 256) := hM
  have HL : Hid (∀ x ∈ l, x < 256) := hl
  obtain ⟨T, hT⟩ : ∃ T, ib l = T := ⟨_, rfl⟩
  have HT : Hid (ib l = T) := hT
  rw [hT]
  clear h hM hl hT
  go_enter Try.func46, Try.ntmps46
  go_wp2_with fail
  go_loopw [5] (fun vq wr => ∃ q : Nat, vq = .int .i64 q ∧ q ≤ M.length ∧ (∀ p, p < q → M.getD p [] ≠ l) ∧ wr = w) (fun vq _ => M.length - (Go.RowKit.intOf vq).toNat)
  case atStart => exact ⟨0, rfl, Nat.zero_le _, fun p hp => absurd hp (by omega), rfl⟩
  case round =>
    obtain ⟨q, rfl, hqM, hall, rfl⟩ := hrel
    have HA : Hid (∀ p, p < q → M.getD p [] ≠ l) := hall
    clear hall
    by_cases hlt : q < M.length
    · have hqI : (q : Int) < M.length := by omega
      have hqd : decide ((q : Int) < M.length) = true := decide_eq_true hqI
      obtain ⟨g, o, rfl, hc⟩ := HC.out q hlt
      obtain ⟨X, hX⟩ : ∃ X, ib (M.getD q []) = X := ⟨_, rfl⟩
      have HX : Hid (ib (M.getD q []) = X) := hX
      rw [hX] at hc
      clear hX
      by_cases he : M.getD q [] = l
      · have hXT : X = T := by rw [← HX.out, ← HT.out, he]
        subst hXT
        have HI : Hid (M.idxOf l = q) := by
          show _ = _
          refine idxOf_firstL (by rw [List.getElem?_eq_getElem hlt, ← he, List.getD_eq_getElem?_getD, List.getElem?_eq_getElem hlt]; rfl) (fun p hp e => HA.out p hp ?_)
          rw [List.getD_eq_getElem?_getD, e]
          rfl
        go_wp2_with fail
        go_ret
        exact ⟨by rw [HI.out]; rfl, rfl⟩
      · have hXT : X ≠ T := fun e => he (ib_inj (fun x hx => HMM.out _ (by rw [List.getD_eq_getElem?_getD, List.getElem?_eq_getElem hlt]; exact List.getElem_mem hlt) x hx) HL.out (by rw [HX.out, HT.out, e]))
        have hXb : @BEq.beq _ List.instBEq X.toList T.toList = false := by
          refine (@beq_eq_false_iff_ne (List UInt8) List.instBEq inferInstance X.toList T.toList).2 ?_
          intro e
          rw [ByteArray.toList_eq, ByteArray.toList_eq] at e
          exact hXT (ByteArray.ext (Array.toList_inj.1 e))
        have HN : Hid (∀ p, p < q + 1 → M.getD p [] ≠ l) := fun p hp => by
          by_cases e : p = q
          · subst e; exact he
          · exact HA.out p (by omega)
        go_wp2_with fail
        go_roundw
        case rel => exact ⟨q + 1, by go_num, by omega, HN.out, by trivial⟩
        case measure => simp [Go.RowKit.intOf]; omega
    · have hqI : ¬ (q : Int) < M.length := by omega
      have hqd : decide ((q : Int) < M.length) = false := decide_eq_false hqI
      have HI : Hid (M.idxOf l = q) := by
        show _ = _
        have hq : q = M.length := by omega
        rw [hq]
        refine List.idxOf_eq_length (fun hm => ?_)
        obtain ⟨p, hp⟩ := List.mem_iff_getElem?.1 hm
        have hpl := (List.getElem?_eq_some_iff.1 hp).1
        exact HA.out p (by omega) (by rw [List.getD_eq_getElem?_getD, hp]; rfl)
      go_wp2_with fail
      go_ret
      exact ⟨by rw [HI.out]; rfl, rfl⟩

end Go.Proofs.Ytabkhoiccjkghaa

namespace Go.Proofs.Ytabkhoiccjkghaa
open Go Go.RowKit Go.Lib Go.Maps
set_option linter.unusedVariables false
attribute [-instance] List.instBEq instBEqProd

theorem ib_get {l : List Nat} {j : Nat} (hj : j < (ib l).size) (hx : ∀ x ∈ l, x < 256) : ((ib l)[j]).toNat = im l j := by
  have hj' : j < ((l.map fun s => UInt8.ofNat s).toArray).size := hj
  have hl : j < l.length := by simpa using hj'
  have : (ib l)[j].toNat = (((l.map fun s => UInt8.ofNat s).toArray)[j]'hj').toNat := rfl
  refine this.trans ?_
  rw [List.getElem_toArray, List.getElem_map, UInt8.toNat_ofNat', Nat.mod_eq_of_lt (hx _ (List.getElem_mem hl))]
  unfold im
  rw [List.getD_eq_getElem?_getD, List.getElem?_eq_getElem hl]
  rfl

theorem Mon.byte {A : Aut} {M : List (List Nat)} {N : List Nat} (h : Mon A M N) {i : Nat} (hi : i < M.length) : (M.getD i []).length = A.ac.length ∧ (∀ x ∈ M.getD i [], x < A.ac.length) ∧ A.ac.length ≤ 64 := by
  have he := List.getElem?_eq_getElem hi
  rw [getD_of he]
  obtain ⟨t1, t2⟩ := h.tf he
  refine ⟨t2, fun x hx => ?_, h.n64⟩
  obtain ⟨p, hp⟩ := List.mem_iff_getElem?.1 hx
  have hpl := (List.getElem?_eq_some_iff.1 hp).1
  have := t1.lt p hpl
  unfold im at this
  rw [getD_of hp] at this
  omega

/-- The power by squaring: o times i^n. -/
def pwE (K : Nat) (N : List Nat) (o i n : Nat) : Nat := if h : n = 0 then o else pwE K N (if n % 2 = 1 then pr K N o i else o) (pr K N i i) (n / 2)
termination_by n
decreasing_by omega

theorem pwE_zero (K : Nat) (N : List Nat) (o i : Nat) : pwE K N o i 0 = o := by rw [pwE, dif_pos rfl]

theorem pwE_odd {K : Nat} {N : List Nat} {o i n : Nat} (h : n % 2 = 1) : pwE K N o i n = pwE K N (pr K N o i) (pr K N i i) (n / 2) := by rw [pwE, dif_neg (by omega), if_pos h]

theorem pwE_even {K : Nat} {N : List Nat} {o i n : Nat} (h0 : n ≠ 0) (h : n % 2 ≠ 1) : pwE K N o i n = pwE K N o (pr K N i i) (n / 2) := by rw [pwE, dif_neg h0, if_neg h]

set_option maxHeartbeats 1000000 in
set_option maxRecDepth 100000 in
theorem rIn_any {w : World} {rb : Nat} {A : Aut} {M : List (List Nat)} {N : List Nat} (h : RF w rb A M N) (i : Nat) (hi : i < M.length) : Calls Try.prog 19 #[.pointer (some ⟨rb, 0, none⟩), .int .i64 i] w fun e w' => e = .returned (.bool (acc A M i)) ∧ Below w.heap.size w w' := by
  obtain ⟨an, cn, aa, ca, gi, ci, gw, cw, gn, cg, h⟩ := h
  obtain ⟨b1, b2, b3⟩ := h.mon.byte hi
  have hn1 := h.mon.G.n1
  have c2 : w.cell? ⟨rb, 2, none⟩ = some (.slice aa A.ac.length ca) := cell_at h.box rfl
  have c3 : w.cell? ⟨rb, 3, none⟩ = some (.slice (some ⟨gi, 0, none⟩) M.length ci) := cell_at h.box rfl
  have hc := h.img i hi
  have HA : Hid (acc A M i = A.ac.getD (im (M.getD i []) 0) false) := rfl
  obtain ⟨l, hl⟩ : ∃ l, M.getD i [] = l := ⟨_, rfl⟩
  rw [hl] at hc HA b1 b2
  have hz : 0 < (ib l).size := by rw [ib_size]; omega
  have hg := ib_get hz (fun x hx => by have := b2 x hx; omega)
  have him : im l 0 < A.ac.length := by
    have hl0 : 0 < l.length := by omega
    unfold im
    rw [List.getD_eq_getElem?_getD, List.getElem?_eq_getElem hl0]
    exact b2 _ (List.getElem_mem hl0)
  obtain ⟨ga, oa, rfl, _, hca⟩ := h.ac.bool him
  obtain ⟨X, hX⟩ : ∃ X, ib l = X := ⟨_, rfl⟩
  subst hX
  obtain ⟨d, hd⟩ : ∃ d, im l 0 = d := ⟨_, rfl⟩
  rw [hd] at hca him hg HA
  obtain ⟨q, hq⟩ : ∃ q, A.ac.getD d false = q := ⟨_, rfl⟩
  rw [hq] at hca HA
  rw [HA.out]
  have hzI : (0 : Int) < (ib l).size := by omega
  have hdI : (d : Int) < A.ac.length := by omega
  have hiI : (i : Int) < M.length := by omega
  have S0 : w.drew.cell? ⟨rb, 2, none⟩ = some (.slice (some ⟨ga, oa, none⟩) A.ac.length ca) ∧ w.drew.cell? ⟨rb, 3, none⟩ = some (.slice (some ⟨gi, 0, none⟩) M.length ci) ∧ w.drew.cell? ⟨gi, i, none⟩ = some (.string (ib l)) ∧ w.drew.cell? ⟨ga, oa + d, none⟩ = some (.bool q) := ⟨c2, c3, hc, hca⟩
  clear h b1 b2 hl hd hq c2 c3 hc hca
  go_enter Try.func19, Try.ntmps19
  go_wp2_with fail
  go_region_held3 (fun y => y.cell? ⟨rb, 2, none⟩ = some (.slice (some ⟨ga, oa, none⟩) A.ac.length ca) ∧ y.cell? ⟨rb, 3, none⟩ = some (.slice (some ⟨gi, 0, none⟩) M.length ci) ∧ y.cell? ⟨gi, i, none⟩ = some (.string (ib l)) ∧ y.cell? ⟨ga, oa + d, none⟩ = some (.bool q)) (first | exact S0 | assumption) (fail)
  go_wp2_with fail
  go_ret
  exact ⟨rfl, (Below.refl _ _).drew⟩

set_option maxHeartbeats 2000000 in
set_option maxRecDepth 100000 in
theorem rraised_any {w : World} {rb : Nat} {A : Aut} {M : List (List Nat)} {N : List Nat} (h : RF w rb A M N) (i : Nat) (hi : i < M.length) (n : Nat) (hn : n < 18446744073709551616) : Calls Try.prog 20 #[.pointer (some ⟨rb, 0, none⟩), .int .i64 i, .int .u64 n] w fun e w' => e = .returned (.int .i64 (pwE A.k.toNat N 0 i n : Nat)) ∧ Below w.heap.size w w' := by
  have H : Hid (RF w rb A M N) := h
  obtain ⟨_, _, _, _, _, _, _, _, _, _, h0⟩ := h
  have HMon : Hid (Mon A M N) := h0.mon
  clear h0
  go_enter Try.func20, Try.ntmps20
  go_wp2_with fail
  go_loopw [1, 2, 7] (fun vi vn vo wr => ∃ i' n' o : Nat, vi = .int .i64 i' ∧ vn = .int .u64 n' ∧ vo = .int .i64 o ∧ i' < M.length ∧ o < M.length ∧ n' < 18446744073709551616 ∧ pwE A.k.toNat N o i' n' = pwE A.k.toNat N 0 i n ∧ Below w.heap.size w wr) (fun _ vn _ _ => (Go.RowKit.intOf vn).toNat)
  case atStart => exact ⟨i, n, 0, rfl, rfl, rfl, hi, HMon.out.pos, hn, rfl, Below.refl _ _⟩
  case round =>
    obtain ⟨i', n', o, rfl, rfl, rfl, hi', ho, hn', he, hb⟩ := hrel
    have HB : Hid (Below w.heap.size w wr) := hb
    have HE : Hid (pwE A.k.toNat N o i' n' = pwE A.k.toNat N 0 i n) := he
    have HT : Hid (∀ y a b, Below w.heap.size w y → a < M.length → b < M.length → Calls Try.prog 39 #[.pointer (some ⟨rb, 0, none⟩), .int .i64 (a : Nat), .int .i64 (b : Nat)] y fun e w' => e = .returned (.int .i64 (pr A.k.toNat N a b : Nat)) ∧ Below y.heap.size y w') := fun y a b hy ha hb => rtimes_any (H.out.below hy) a b ha hb
    clear hb he
    by_cases h0 : n' = 0
    · subst h0
      go_wp2_with fail
      go_ret
      exact ⟨by rw [← HE.out, pwE_zero]; rfl, HB.out⟩
    · have h0I : (0 : Int) < n' := by omega
      have h0d : decide ((0 : Int) < n') = true := decide_eq_true h0I
      obtain ⟨hf, hh⟩ : ∃ hf : Nat, n' / 2 = hf := ⟨_, rfl⟩
      have hq1 : ((n' : Int).tdiv 2) = (hf : Int) := by rw [Int.tdiv_eq_ediv_of_nonneg (by omega), ← hh]; omega
      have hq2 : IntKind.u64.wrap (hf : Int) = (hf : Int) := by rw [IntKind.wrap_u64]; omega
      by_cases h1 : n' % 2 = 1
      · have hr1 : ((n' : Int).tmod 2) = 1 := by rw [Int.tmod_eq_emod_of_nonneg (by omega)]; omega
        have hr2 : IntKind.u64.wrap (1 : Int) = (1 : Int) := by rw [IntKind.wrap_u64]; omega
        have HN : Hid (pwE A.k.toNat N (pr A.k.toNat N o i') (pr A.k.toNat N i' i') hf = pwE A.k.toNat N 0 i n) := by show _ = _; rw [← HE.out, pwE_odd h1, hh]
        have HLT : Hid (hf < n') := by show _ < _; omega
        have HO : Hid (o < M.length ∧ i' < M.length ∧ n' < 18446744073709551616) := ⟨ho, hi', hn'⟩
        clear hh
        go_wp2_with fail
        refine (HT.out _ o i' HB.out HO.out.1 HO.out.2.1).mono ?_
        rintro e y1 ⟨rfl, hb⟩
        have HB1 : Hid (Below w.heap.size w y1) := go_on HB.out hb
        clear hb
        go_wp2_with fail
        refine (HT.out _ i' i' HB1.out HO.out.2.1 HO.out.2.1).mono ?_
        rintro e y2 ⟨rfl, hb⟩
        have HB2 : Hid (Below w.heap.size w y2) := go_on HB1.out hb
        clear hb
        go_wp2_with fail
        go_roundw
        case rel => exact ⟨_, hf, _, rfl, by first | rfl | (simp; omega), rfl, HMon.out.pr_lt HO.out.2.1 HO.out.2.1, HMon.out.pr_lt HO.out.1 HO.out.2.1, by have := HLT.out; have := HO.out.2.2; omega, HN.out, HB2.out⟩
        case measure => have := HLT.out; simp [Go.RowKit.intOf]; omega
      · have hr1 : ((n' : Int).tmod 2) = 0 := by rw [Int.tmod_eq_emod_of_nonneg (by omega)]; omega
        have hr2 : IntKind.u64.wrap (0 : Int) = (0 : Int) := by rw [IntKind.wrap_u64]; omega
        have HN : Hid (pwE A.k.toNat N o (pr A.k.toNat N i' i') hf = pwE A.k.toNat N 0 i n) := by show _ = _; rw [← HE.out, pwE_even h0 h1, hh]
        have HLT : Hid (hf < n') := by show _ < _; omega
        have HO : Hid (o < M.length ∧ i' < M.length ∧ n' < 18446744073709551616) := ⟨ho, hi', hn'⟩
        clear hh
        go_wp2_with fail
        refine (HT.out _ i' i' HB.out HO.out.2.1 HO.out.2.1).mono ?_
        rintro e y2 ⟨rfl, hb⟩
        have HB2 : Hid (Below w.heap.size w y2) := go_on HB.out hb
        clear hb
        go_wp2_with fail
        go_roundw
        case rel => exact ⟨_, hf, _, rfl, by first | rfl | (simp; omega), rfl, HMon.out.pr_lt HO.out.2.1 HO.out.2.1, HO.out.1, by have := HLT.out; have := HO.out.2.2; omega, HN.out, HB2.out⟩
        case measure => have := HLT.out; simp [Go.RowKit.intOf]; omega

end Go.Proofs.Ytabkhoiccjkghaa
