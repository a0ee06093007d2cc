/- E17 E18 E19 E20 E21 E22 E25 E23 E28 E29 E2 E42 E32h E44 Rz PRa Bh, in one text. -/
import Derived.Test.YtneiegbodnalbaaE12
import Derived.Test.YtneiegbodnalbaaE16
import Derived.Shelf.LaysM
import Derived.Shelf.Strconv.Clone
import Derived.Test.YtneiegbodnalbaaChk
import Derived.Lib.OthersKept
import Derived.Test.YtneiegbodnalbaaJe
import Derived.Laws.IdiomStrings
import Derived.Test.YtneiegbodnalbaaE1
import Derived.Test.YtneiegbodnalbaaAb
import Derived.Test.YtneiegbodnalbaaJd
import Derived.Test.YtneiegbodnalbaaJh
import Derived.Deep.RegionHeld3
import Derived.Test.YtneiegbodnalbaaRows
import Derived.Test.YtneiegbodnalbaaE4
import Derived.Test.YtneiegbodnalbaaBf
import Derived.BigQuiet
namespace Go.Proofs.Ytneiegbodnalbaa
open Go Go.RowKit Go.Lib Go.Maps
set_option linter.unusedVariables false

theorem eq_slice_nil {t e : TypeId} {n c : Nat} (hu : Try.prog.underlying t = some (.slice e)) (a : Addr) (w : World) : (binOp .eql t (.slice (some a) n c) (.slice none 0 0)).run Try.prog w = .ok (.bool false) w := by
  simp only [binOp]
  simp only [Op.equal, Op.maxDepth]
  rw [show (10000 : Nat) = 9999 + 1 from rfl, Op.equalIn]
  simp [Sem.run_bind, run_underlying hu]

set_option maxHeartbeats 2000000 in
set_option maxRecDepth 100000 in
theorem cloneI_any (a : Option Addr) (cp : Nat) (xs : List Int) (w : World) (h : SR w a (zC xs)) (hn : 1 ≤ xs.length) (hb : xs.length ≤ 40000) :
    Calls Try.prog 70 #[.slice a xs.length cp] w fun e w' => ∃ g c, e = .returned (.slice (some ⟨g, 0, none⟩) xs.length c) ∧ w'.ownsRow w.heap.size 3 1 (.slice (some ⟨g, 0, none⟩) xs.length c) xs.length (zC xs) ∧ Below w.heap.size w w' := by
  have hln : (zC xs).length = xs.length := zC_len xs
  obtain ⟨g0, o0, rfl, hg0, hc0⟩ := h 0 _ (List.getElem?_eq_getElem (by omega))
  have HSR : Hid (SR w (some ⟨g0, o0, none⟩) (zC xs)) := h
  obtain ⟨i0, hi, hz0, hz1, hz2⟩ := info_parts Try.info_int
  have HO : Hid ((w.alloc (.cells #[] 3)).ownsRow w.heap.size 3 1 (.slice (some ⟨w.heap.size, 0, none⟩) 0 0) 0 []) := ⟨rfl, .inr ⟨w.heap.size, 0, #[], rfl, Nat.le_refl _, heap_last _ _, Nat.le_refl _, Nat.zero_le _, rfl, rfl⟩⟩
  have KN : Hid (∀ (j : Nat) (u : Value), (zC xs)[j]? = some u → (w.alloc (.cells #[] 3)).cell? ((⟨g0, o0, none⟩ : Addr).add j) = some u) := fun j u hu => by
    obtain ⟨g, o, e, hg, hc⟩ := HSR.out j u hu
    simp only [Option.some.injEq, Addr.mk.injEq, and_true] at e
    obtain ⟨rfl, rfl⟩ := e
    have hadd : (⟨g0, o0, none⟩ : Addr).add j = ⟨g0, o0 + j, none⟩ := by unfold Addr.add; split <;> simp_all
    rw [hadd, World.cell?_of_block (heap_allo hg _)]
    exact hc
  have HLN : Hid ((zC xs).length = xs.length) := hln
  have HOC : Hid (∀ u ∈ zC xs, u.oneCell' = true) := fun u hu => by
    unfold zC at hu
    obtain ⟨n, _, rfl⟩ := List.mem_map.1 hu
    rfl
  have heq := eq_slice_nil (t := 23) (e := 3) (n := xs.length) (c := cp) Try.underlying23 ⟨g0, o0, none⟩ w
  clear h hc0 hln
  go_enter Try.func70, Try.ntmps70
  go_wp2_with (at_builtin; refine wpList_append_own_at _ rfl _ _ 23 rfl w.heap.size 3 i0 (.int .i64 0) 1 8 Try.underlying23 hi hz0 hz1 hz2 rfl (by decide) _ _ _ rfl HO.out ⟨g0, o0, none⟩ xs.length cp (zC xs) rfl (by rw [HLN.out]; omega) KN.out HOC.out (by unfold maxLen; omega) (by omega) (by simp) ?_; intro v7 w7 ho7 hg7 hn7 hl7)
  have hB : Below w.heap.size w w7 := (below_new w _).grown hg7 (by simp) (fun b hb => by have q : some w.heap.size = some b := hb; simp only [Option.some.injEq] at q; omega)
  obtain ⟨va, vc, rfl⟩ := own_shape ho7
  obtain ⟨g, rfl⟩ : ∃ g, va = some ⟨g, 0, none⟩ := by
    rcases ho7.2 with ⟨q, h0⟩ | ⟨g', cap', cur, hv, _⟩
    · omega
    · simp only [Value.slice.injEq] at hv
      exact ⟨g', hv.1⟩
  rw [Nat.zero_add] at ho7
  have HO7 : Hid (w7.ownsRow w.heap.size 3 1 (.slice (some ⟨g, 0, none⟩) xs.length vc) xs.length (zC xs)) := ho7
  have HB7 : Hid (Below w.heap.size w w7) := hB
  clear ho7 hg7 hn7 hl7 hB
  rw [Nat.zero_add]
  go_ret
  exact ⟨g, vc, rfl, HO7.out, HB7.out⟩

set_option maxHeartbeats 2000000 in
set_option maxRecDepth 100000 in
theorem cloneB_any (a : Option Addr) (cp : Nat) (xs : List Bool) (w : World) (h : SR w a (bC xs)) (hn : 1 ≤ xs.length) (hb : xs.length ≤ 40000) :
    Calls Try.prog 71 #[.slice a xs.length cp] w fun e w' => ∃ g c, e = .returned (.slice (some ⟨g, 0, none⟩) xs.length c) ∧ w'.ownsRow w.heap.size 4 1 (.slice (some ⟨g, 0, none⟩) xs.length c) xs.length (bC xs) ∧ Below w.heap.size w w' := by
  have hln : (bC xs).length = xs.length := bC_len xs
  obtain ⟨g0, o0, rfl, hg0, hc0⟩ := h 0 _ (List.getElem?_eq_getElem (by omega))
  have HSR : Hid (SR w (some ⟨g0, o0, none⟩) (bC xs)) := h
  obtain ⟨i0, hi, hz0, hz1, hz2⟩ := info_parts Try.info_bool
  have HO : Hid ((w.alloc (.cells #[] 4)).ownsRow w.heap.size 4 1 (.slice (some ⟨w.heap.size, 0, none⟩) 0 0) 0 []) := ⟨rfl, .inr ⟨w.heap.size, 0, #[], rfl, Nat.le_refl _, heap_last _ _, Nat.le_refl _, Nat.zero_le _, rfl, rfl⟩⟩
  have KN : Hid (∀ (j : Nat) (u : Value), (bC xs)[j]? = some u → (w.alloc (.cells #[] 4)).cell? ((⟨g0, o0, none⟩ : Addr).add j) = some u) := fun j u hu => by
    obtain ⟨g, o, e, hg, hc⟩ := HSR.out j u hu
    simp only [Option.some.injEq, Addr.mk.injEq, and_true] at e
    obtain ⟨rfl, rfl⟩ := e
    have hadd : (⟨g0, o0, none⟩ : Addr).add j = ⟨g0, o0 + j, none⟩ := by unfold Addr.add; split <;> simp_all
    rw [hadd, World.cell?_of_block (heap_allo hg _)]
    exact hc
  have HLN : Hid ((bC xs).length = xs.length) := hln
  have HOC : Hid (∀ u ∈ bC xs, u.oneCell' = true) := fun u hu => by
    unfold bC at hu
    obtain ⟨n, _, rfl⟩ := List.mem_map.1 hu
    rfl
  have heq := eq_slice_nil (t := 24) (e := 4) (n := xs.length) (c := cp) Try.underlying24 ⟨g0, o0, none⟩ w
  clear h hc0 hln
  go_enter Try.func71, Try.ntmps71
  go_wp2_with (at_builtin; refine wpList_append_own_at _ rfl _ _ 24 rfl w.heap.size 4 i0 (.bool false) 1 1 Try.underlying24 hi hz0 hz1 hz2 rfl (by decide) _ _ _ rfl HO.out ⟨g0, o0, none⟩ xs.length cp (bC xs) rfl (by rw [HLN.out]; omega) KN.out HOC.out (by unfold maxLen; omega) (by omega) (by simp) ?_; intro v7 w7 ho7 hg7 hn7 hl7)
  have hB : Below w.heap.size w w7 := (below_new w _).grown hg7 (by simp) (fun b hb => by have q : some w.heap.size = some b := hb; simp only [Option.some.injEq] at q; omega)
  obtain ⟨va, vc, rfl⟩ := own_shape ho7
  obtain ⟨g, rfl⟩ : ∃ g, va = some ⟨g, 0, none⟩ := by
    rcases ho7.2 with ⟨q, h0⟩ | ⟨g', cap', cur, hv, _⟩
    · omega
    · simp only [Value.slice.injEq] at hv
      exact ⟨g', hv.1⟩
  rw [Nat.zero_add] at ho7
  have HO7 : Hid (w7.ownsRow w.heap.size 4 1 (.slice (some ⟨g, 0, none⟩) xs.length vc) xs.length (bC xs)) := ho7
  have HB7 : Hid (Below w.heap.size w w7) := hB
  clear ho7 hg7 hn7 hl7 hB
  rw [Nat.zero_add]
  go_ret
  exact ⟨g, vc, rfl, HO7.out, HB7.out⟩

theorem Try.info_au : (Try.prog.info? 26).map (·.size) = some 3 := by kernel_rfl
/-- The result's block. -/
def FZ (rs : Nat) (y : World) : Prop := ∃ a b c, y.heap[rs]? = some (.cells #[a, b, c] 26 (0, 0))
theorem FZ.facts {rs : Nat} {y : World} (h : FZ rs y) : y.cell? ⟨rs, 0, none⟩ = some (pvS y rs 0) ∧ y.cell? ⟨rs, 1, none⟩ = some (pvS y rs 1) ∧ y.cell? ⟨rs, 2, none⟩ = some (pvS y rs 2) ∧ (∀ o, y.frozen? ⟨rs, o, none⟩ = false) := by
  obtain ⟨a, b, c, h⟩ := h
  refine ⟨cell_pv ?_, cell_pv ?_, cell_pv ?_, fun o => frozen_blk h o⟩
  · rw [cell_at h (v := a) rfl]; rfl
  · rw [cell_at h (v := b) rfl]; rfl
  · rw [cell_at h (v := c) rfl]; rfl
theorem FZ.set {rs : Nat} {y : World} (h : FZ rs y) (x0 x1 x2 : Value) : (((y.setCell ⟨rs, 0, none⟩ x0).setCell ⟨rs, 1, none⟩ x1).setCell ⟨rs, 2, none⟩ x2).heap[rs]? = some (.cells #[x0, x1, x2] 26 (0, 0)) := by
  obtain ⟨a, b, c, h⟩ := h
  exact heap_set (heap_set (heap_set h))
/-- An automaton whose lists lie in rows of one's own. -/
def AW (base : Nat) (w : World) (v : Value) (B : Aut) : Prop := ∃ an cn aa ca, v = .agg #[.int .i64 B.k, .slice an B.nx.length cn, .slice aa B.ac.length ca] ∧ w.ownsRow base 3 1 (.slice an B.nx.length cn) B.nx.length (zC B.nx) ∧ w.ownsRow base 4 1 (.slice aa B.ac.length ca) B.ac.length (bC B.ac)
theorem AW.ar {base : Nat} {w : World} {v : Value} {B : Aut} (h : AW base w v B) : AR w v B := by
  obtain ⟨an, cn, aa, ca, rfl, h1, h2⟩ := h
  exact ⟨an, cn, aa, ca, rfl, own_sr h1, own_sr h2⟩
theorem AW.below {base : Nat} {w w' : World} {v : Value} {B : Aut} (h : AW base w v B) (hb : Below w.heap.size w w') : AW base w' v B := by
  obtain ⟨an, cn, aa, ca, rfl, h1, h2⟩ := h
  exact ⟨an, cn, aa, ca, rfl, own_below h1 hb, own_below h2 hb⟩
set_option maxHeartbeats 2000000 in
set_option maxRecDepth 100000 in
theorem fresh_any (v : Value) (A : Aut) (w : World) (h : AR w v A) (hx : 1 ≤ A.nx.length) (ha : 1 ≤ A.ac.length) (hb : A.nx.length ≤ 40000) (hb2 : A.ac.length ≤ 40000) :
    Calls Try.prog 44 #[v] w fun e w' => ∃ v', e = .returned v' ∧ AW w.heap.size w' v' A ∧ Below w.heap.size w w' := by
  obtain ⟨an, cn, aa, ca, e, h1, h2⟩ := h.is
  subst e
  obtain ⟨rs, hrs⟩ : ∃ rs, w.heap.size + 1 = rs := ⟨_, rfl⟩
  obtain ⟨w1, hw1⟩ : ∃ w1, w1 = (w.alloc (.cells #[.int .i64 A.k, .slice an A.nx.length cn, .slice aa A.ac.length ca] 26)).alloc (.cells #[.int .i64 0, .slice none 0 0, .slice none 0 0] 26) := ⟨_, rfl⟩
  have HW1 : Hid (w1 = (w.alloc (.cells #[.int .i64 A.k, .slice an A.nx.length cn, .slice aa A.ac.length ca] 26)).alloc (.cells #[.int .i64 0, .slice none 0 0, .slice none 0 0] 26)) := hw1
  have hb1 : Below w.heap.size w w1 := by rw [hw1]; exact go_on (below_new _ _) (below_new _ _)
  have HB1 : Hid (Below w.heap.size w w1) := hb1
  have hs1 : w1.heap.size = rs + 1 := by rw [hw1, ← hrs]; simp
  have HR1 : Hid (RowAt w1 w.heap.size #[.int .i64 A.k, .slice an A.nx.length cn, .slice aa A.ac.length ca]) := by show RowAt _ _ _; rw [hw1]; exact (RowAt.last _ _ _).stay (below_new _ _)
  have HZ1 : Hid (FZ rs w1) := by
    have := heap_last (w.alloc (.cells #[.int .i64 A.k, .slice an A.nx.length cn, .slice aa A.ac.length ca] 26)) (.cells #[.int .i64 0, .slice none 0 0, .slice none 0 0] 26)
    rw [World.size_alloc, hrs, ← hw1] at this
    exact ⟨_, _, _, this⟩
  have HS1 : Hid (∀ y, Below w.heap.size w y → SR y an (zC A.nx)) := fun y hy => h1.stay hy
  have HS2 : Hid (∀ y, Below w.heap.size w y → SR y aa (bC A.ac)) := fun y hy => h2.stay hy
  have HMK : Hid (∀ y, RowAt y w.heap.size #[.int .i64 A.k, .slice an A.nx.length cn, .slice aa A.ac.length ca] → FZ rs y → ((∀ o, y.cell? ⟨w.heap.size, o, none⟩ = (#[.int .i64 A.k, .slice an A.nx.length cn, .slice aa A.ac.length ca] : Array Value)[o]?) ∧ y.cell? ⟨rs, 0, none⟩ = some (pvS y rs 0) ∧ y.cell? ⟨rs, 1, none⟩ = some (pvS y rs 1) ∧ y.cell? ⟨rs, 2, none⟩ = some (pvS y rs 2) ∧ (∀ o, y.frozen? ⟨rs, o, none⟩ = false) ∧ FZ rs y)) := fun y hr hz => ⟨hr.cell, hz.facts.1, hz.facts.2.1, hz.facts.2.2.1, hz.facts.2.2.2, hz⟩
  have HSK : Hid (∀ y y' : World, ((∀ o, y.cell? ⟨w.heap.size, o, none⟩ = (#[.int .i64 A.k, .slice an A.nx.length cn, .slice aa A.ac.length ca] : Array Value)[o]?) ∧ y.cell? ⟨rs, 0, none⟩ = some (pvS y rs 0) ∧ y.cell? ⟨rs, 1, none⟩ = some (pvS y rs 1) ∧ y.cell? ⟨rs, 2, none⟩ = some (pvS y rs 2) ∧ (∀ o, y.frozen? ⟨rs, o, none⟩ = false) ∧ FZ rs y) → Below y.heap.size y y' → ((∀ o, y'.cell? ⟨w.heap.size, o, none⟩ = (#[.int .i64 A.k, .slice an A.nx.length cn, .slice aa A.ac.length ca] : Array Value)[o]?) ∧ y'.cell? ⟨rs, 0, none⟩ = some (pvS y' rs 0) ∧ y'.cell? ⟨rs, 1, none⟩ = some (pvS y' rs 1) ∧ y'.cell? ⟨rs, 2, none⟩ = some (pvS y' rs 2) ∧ (∀ o, y'.frozen? ⟨rs, o, none⟩ = false) ∧ FZ rs y')) := fun y y' hy hb => by
    have k1 : w.heap.size < y.heap.size := World.block_lt_of_cell? y ⟨w.heap.size, 0, none⟩ (hy.1 0)
    have k2 : rs < y.heap.size := World.block_lt_of_cell? y ⟨rs, 0, none⟩ hy.2.1
    refine HMK.out y' ⟨by have := hb.size; omega, fun o => by rw [below_cellJ hb k1]; exact hy.1 o⟩ ?_
    obtain ⟨a, b, c, q⟩ := hy.2.2.2.2.2
    exact ⟨a, b, c, (hb.block rs k2).trans q⟩
  have HST : Hid (∀ (y : World) (x0 x1 x2 : Value), ((∀ o, y.cell? ⟨w.heap.size, o, none⟩ = (#[.int .i64 A.k, .slice an A.nx.length cn, .slice aa A.ac.length ca] : Array Value)[o]?) ∧ y.cell? ⟨rs, 0, none⟩ = some (pvS y rs 0) ∧ y.cell? ⟨rs, 1, none⟩ = some (pvS y rs 1) ∧ y.cell? ⟨rs, 2, none⟩ = some (pvS y rs 2) ∧ (∀ o, y.frozen? ⟨rs, o, none⟩ = false) ∧ FZ rs y) → ((∀ o, (((y.setCell ⟨rs, 0, none⟩ x0).setCell ⟨rs, 1, none⟩ x1).setCell ⟨rs, 2, none⟩ x2).cell? ⟨w.heap.size, o, none⟩ = (#[.int .i64 A.k, .slice an A.nx.length cn, .slice aa A.ac.length ca] : Array Value)[o]?) ∧ (((y.setCell ⟨rs, 0, none⟩ x0).setCell ⟨rs, 1, none⟩ x1).setCell ⟨rs, 2, none⟩ x2).cell? ⟨rs, 0, none⟩ = some (pvS (((y.setCell ⟨rs, 0, none⟩ x0).setCell ⟨rs, 1, none⟩ x1).setCell ⟨rs, 2, none⟩ x2) rs 0) ∧ (((y.setCell ⟨rs, 0, none⟩ x0).setCell ⟨rs, 1, none⟩ x1).setCell ⟨rs, 2, none⟩ x2).cell? ⟨rs, 1, none⟩ = some (pvS (((y.setCell ⟨rs, 0, none⟩ x0).setCell ⟨rs, 1, none⟩ x1).setCell ⟨rs, 2, none⟩ x2) rs 1) ∧ (((y.setCell ⟨rs, 0, none⟩ x0).setCell ⟨rs, 1, none⟩ x1).setCell ⟨rs, 2, none⟩ x2).cell? ⟨rs, 2, none⟩ = some (pvS (((y.setCell ⟨rs, 0, none⟩ x0).setCell ⟨rs, 1, none⟩ x1).setCell ⟨rs, 2, none⟩ x2) rs 2) ∧ (∀ o, (((y.setCell ⟨rs, 0, none⟩ x0).setCell ⟨rs, 1, none⟩ x1).setCell ⟨rs, 2, none⟩ x2).frozen? ⟨rs, o, none⟩ = false) ∧ FZ rs (((y.setCell ⟨rs, 0, none⟩ x0).setCell ⟨rs, 1, none⟩ x1).setCell ⟨rs, 2, none⟩ x2))) := fun y x0 x1 x2 hy => by
    have k1 : w.heap.size < y.heap.size := World.block_lt_of_cell? y ⟨w.heap.size, 0, none⟩ (hy.1 0)
    have k3 : w.heap.size ≠ rs := by omega
    refine HMK.out _ ⟨by simp [World.setCell]; exact k1, fun o => ?_⟩ ⟨_, _, _, hy.2.2.2.2.2.set x0 x1 x2⟩
    rw [World.cell?_of_block ((heap_set_other k3).trans ((heap_set_other k3).trans (heap_set_other k3)))]
    exact hy.1 o
  have S0 : ((∀ o, (w1.drew).cell? ⟨w.heap.size, o, none⟩ = (#[.int .i64 A.k, .slice an A.nx.length cn, .slice aa A.ac.length ca] : Array Value)[o]?) ∧ (w1.drew).cell? ⟨rs, 0, none⟩ = some (pvS (w1.drew) rs 0) ∧ (w1.drew).cell? ⟨rs, 1, none⟩ = some (pvS (w1.drew) rs 1) ∧ (w1.drew).cell? ⟨rs, 2, none⟩ = some (pvS (w1.drew) rs 2) ∧ (∀ o, (w1.drew).frozen? ⟨rs, o, none⟩ = false) ∧ FZ rs (w1.drew)) := HMK.out _ (HR1.out.stay (Below.refl _ _).drew) HZ1.out
  have HRS : Hid (w.heap.size + 1 = rs) := hrs
  have HRG : Hid (w.heap.size < rs) := by show _ < _; omega
  have HSZ : Hid (w1.heap.size = rs + 1) := hs1
  clear h h1 h2 hw1 hb1 hs1 hrs
  go_enter Try.func44, Try.ntmps44
  go_upto_region 1 with fail
  rw [← HW1.out, HRS.out]
  go_region_held3 (fun y => ((∀ o, y.cell? ⟨w.heap.size, o, none⟩ = (#[.int .i64 A.k, .slice an A.nx.length cn, .slice aa A.ac.length ca] : Array Value)[o]?) ∧ y.cell? ⟨rs, 0, none⟩ = some (pvS y rs 0) ∧ y.cell? ⟨rs, 1, none⟩ = some (pvS y rs 1) ∧ y.cell? ⟨rs, 2, none⟩ = some (pvS y rs 2) ∧ (∀ o, y.frozen? ⟨rs, o, none⟩ = false) ∧ FZ rs y)) (first | assumption | exact S0 | exact HSK.out _ _ (by assumption) (by assumption) | exact HST.out _ _ _ _ (by assumption)) (first
    | (go_at_call 71; have q := K1; refine (cloneB_any aa ca A.ac _ (HS2.out _ K1.out) ha hb2).mono ?_; rintro e y2 ⟨g2, c2, rfl, ho2, hB2⟩; have HO2 : Hid _ := ho2; have HB2 : Hid _ := hB2; clear ho2)
    | (go_at_call 70; refine (cloneI_any an cn A.nx _ (HS1.out _ HB1.out.drew) hx hb).mono ?_; rintro e y1 ⟨g1, c1, rfl, ho1, hB1⟩; have HO1 : Hid _ := ho1; have K1 : Hid (Below w.heap.size w y1) := go_on HB1.out.drew hB1; clear ho1))
  have hz2 : FZ rs y2 := by
    obtain ⟨a, b, c, q⟩ := HZ1.out
    have k2 : rs < w1.heap.size := by rw [HSZ.out]; omega
    refine ⟨a, b, c, ?_⟩
    have hy12 : Below w1.heap.size w1 y2 := go_on (go_on (Below.refl _ _).drew hB1) HB2.out
    exact (hy12.block rs k2).trans q
  have HF := hz2.set (.int .i64 A.k) (.slice (some ⟨g1, 0, none⟩) A.nx.length c1) (.slice (some ⟨g2, 0, none⟩) A.ac.length c2)
  have HFH : Hid _ := HF
  have hE1 : w1.drew.heap.size = rs + 1 := HSZ.out
  have ho1 : y2.ownsRow w1.drew.heap.size 3 1 (.slice (some ⟨g1, 0, none⟩) A.nx.length c1) A.nx.length (zC A.nx) := own_below HO1.out HB2.out
  have ho2 : y2.ownsRow w1.drew.heap.size 4 1 (.slice (some ⟨g2, 0, none⟩) A.ac.length c2) A.ac.length (bC A.ac) := own_mono HO2.out hB1.size
  have HBF : Hid (Below w.heap.size w y2) := go_on K1.out HB2.out
  have HO1' : Hid _ := ho1
  have HO2' : Hid _ := ho2
  have HE1 : Hid (w1.drew.heap.size = rs + 1) := hE1
  clear S0 hB1 hz2 HF ho1 ho2 hE1
  go_wp2_with fail
  refine bodyPost_ret (results_cell_row rfl _ _ rs 26 _ (0, 0) _ rfl HFH.out Try.underlying26 rfl (by rw [Try.info_au]; rfl)) rfl ⟨_, rfl, ⟨_, _, _, _, rfl, ?_, ?_⟩, ?_⟩
  · refine own_mono (own_keep HO1'.out (fun b cur hb hc => ?_)) (by rw [HE1.out]; have := HRG.out; omega)
    have hne : b ≠ rs := by have := (own_blk HO1'.out hb).1; rw [HE1.out] at this; omega
    rw [heap_set_other hne, heap_set_other hne, heap_set_other hne]
  · refine own_mono (own_keep HO2'.out (fun b cur hb hc => ?_)) (by rw [HE1.out]; have := HRG.out; omega)
    have hne : b ≠ rs := by have := (own_blk HO2'.out hb).1; rw [HE1.out] at this; omega
    rw [heap_set_other hne, heap_set_other hne, heap_set_other hne]
  · have hg : w.heap.size ≤ rs := by have := HRG.out; omega
    exact ((HBF.out.setCell (p := ⟨rs, 0, none⟩) hg _).setCell (p := ⟨rs, 1, none⟩) hg _).setCell (p := ⟨rs, 2, none⟩) hg _

end Go.Proofs.Ytneiegbodnalbaa

namespace Go.Proofs.Ytneiegbodnalbaa
open Go Go.RowKit Go.Lib Go.Maps
set_option linter.unusedVariables false
attribute [-instance] List.instBEq instBEqProd

/-- All that a monoid's block leads to. -/
structure MP (w : World) (ob : Nat) (A : Aut) (M : List (List Nat)) (N : List Nat) (base bt b mb gw ga R n a c d : Nat) (vl : Value) (D : DataW Unit) (an : Option Addr) (cn : Nat) (aa : Option Addr) (ca : Nat) (sf : Value) : Prop where
  box : w.heap[ob]? = some (.cells #[sf, .int .i64 A.k, .slice an A.nx.length cn, .slice aa A.ac.length ca, .pointer (some ⟨b, 0, none⟩), .slice (some ⟨gw, 0, none⟩) n n, .slice (some ⟨ga, 0, none⟩) n n, .int .i64 (A.k.toNat : Int), .slice (some ⟨R, 0, none⟩) a a, .int .i64 (A.k.toNat : Int), .slice (some ⟨R, a, none⟩) a a, .int .i64 (n : Int), .slice (some ⟨R, d, none⟩) c c] 35 (0, 0))
  nx : w.ownsRow base 3 1 (.slice an A.nx.length cn) A.nx.length (zC A.nx)
  ac : w.ownsRow base 4 1 (.slice aa A.ac.length ca) A.ac.length (bC A.ac)
  tb : TB bt w b mb A.ac.length vl M D
  wp : WP w gw A.k.toNat n N n
  bp : BP w ga A M n
  rt : RT w R n A.k.toNat N (fun _ _ => True) (fun _ _ => True)
  mon : Mon A M N
  num : M.length = n ∧ n * A.k.toNat = a ∧ n * n = c ∧ a + a = d
/-- A monoid that Build made lies in block ob. -/
def MO (w : World) (ob : Nat) (A : Aut) (M : List (List Nat)) (N : List Nat) : Prop := ∃ base bt b mb gw ga R n a c d vl D an cn aa ca, MP w ob A M N base bt b mb gw ga R n a c d vl D an cn aa ca (.pointer (some ⟨ob, 0, none⟩))
theorem MP.keep {w w' : World} {ob : Nat} {A : Aut} {M : List (List Nat)} {N : List Nat} {base bt b mb gw ga R n a c d : Nat} {vl : Value} {D : DataW Unit} {an : Option Addr} {cn : Nat} {aa : Option Addr} {ca : Nat} {sf : Value} (h : MP w ob A M N base bt b mb gw ga R n a c d vl D an cn aa ca sf) (hb : Below w.heap.size w w') : MP w' ob A M N base bt b mb gw ga R n a c d vl D an cn aa ca sf :=
  ⟨(hb.block _ (Array.getElem?_eq_some_iff.1 h.box).1).trans h.box, own_below h.nx hb, own_below h.ac hb, h.tb.below hb, h.wp.keep (hb.block _ h.wp.lt), h.bp.keep (hb.block _ h.bp.lt), h.rt.keep (hb.block _ h.rt.lt), h.mon, h.num⟩
theorem MO.below {w w' : World} {ob : Nat} {A : Aut} {M : List (List Nat)} {N : List Nat} (h : MO w ob A M N) (hb : Below w.heap.size w w') : MO w' ob A M N := by
  obtain ⟨base, bt, b, mb, gw, ga, R, n, a, c, d, vl, D, an, cn, aa, ca, h⟩ := h
  exact ⟨base, bt, b, mb, gw, ga, R, n, a, c, d, vl, D, an, cn, aa, ca, h.keep hb⟩
theorem Mon.nl {A : Aut} {M : List (List Nat)} {N : List Nat} (h : Mon A M N) {p : Nat} (hp : p < N.length) : N.getD p 0 < M.length := by
  rw [getD_of (List.getElem?_eq_getElem hp)]
  exact h.bi.small (List.getElem?_eq_getElem hp)
/-- What Build answers of an automaton of at most 64 states. -/
def BdQ (A : Aut) (w : World) (e : Ending) (w' : World) : Prop :=
  (mEl A = none ∧ e = .returned (.tuple #[.pointer none, .int .i64 140]) ∧ Below w.heap.size w w') ∨
  ∃ ob M N, e = .returned (.tuple #[.pointer (some ⟨ob, 0, none⟩), .int .i64 0]) ∧ mEl A = some (M, N) ∧ MO w' ob A M N ∧ Below w.heap.size w w'
set_option maxHeartbeats 4000000 in
set_option maxRecDepth 100000 in
theorem build_any (v : Value) (A : Aut) (w : World) (h : AR w v A) (G : Good A) (h64 : A.ac.length ≤ 64) :
    Calls Try.prog 22 #[v] w (BdQ A w) := by
  have hks := G.ks
  have hn1 := G.n1
  have hln := G.len
  have hxl : 1 ≤ A.nx.length ∧ A.nx.length ≤ 40000 := by
    have h1 : (1 : Int) * 1 ≤ (A.ac.length : Int) * A.k := Int.mul_le_mul (by omega) G.k1 (by omega) (by omega)
    have h2 : (A.ac.length : Int) * A.k ≤ 64 * 8 := Int.mul_le_mul (by omega) G.k8 (by have := G.k1; omega) (by omega)
    omega
  obtain ⟨an, cn, aa, ca, e, h1, h2⟩ := h.is
  have HA : Hid (∀ w', Below w.heap.size w w' → AR w' v A) := fun w' hb => h.stay hb
  clear h h1 h2 hln
  subst e
  have HGd : Hid (Good A) := G
  obtain ⟨w0, hw0⟩ : ∃ w0, w0 = w.alloc (.cells #[.int .i64 A.k, .slice an A.nx.length cn, .slice aa A.ac.length ca] 26) := ⟨_, rfl⟩
  have HB0 : Hid (Below w.heap.size w w0) := by show Below _ _ _; rw [hw0]; exact below_new _ _
  have HR0 : Hid (RowAt w0 w.heap.size #[.int .i64 A.k, .slice an A.nx.length cn, .slice aa A.ac.length ca]) := by show RowAt _ _ _; rw [hw0]; exact RowAt.last _ _ _
  have HW0 : Hid (w0 = w.alloc (.cells #[.int .i64 A.k, .slice an A.nx.length cn, .slice aa A.ac.length ca] 26)) := hw0
  clear hw0 G
  go_enter Try.func22, Try.ntmps22
  go_wp2_with fail
  rw [← HW0.out]
  refine (find_any _ A w0 (HA.out _ HB0.out) HGd.out h64).mono ?_
  rintro e w1 (⟨hno, rfl, hB1⟩ | ⟨base, fb, b, mb, vl, vw, vr, M, W, N, D, rfl, hE, hWY, hF, hlo, hB1⟩)
  · have HNO : Hid (mEl A = none) := hno
    have HB1 : Hid (Below w.heap.size w w1) := go_on HB0.out hB1
    clear hno hB1
    go_wp2_with fail
    go_ret2
    exact .inl ⟨HNO.out, rfl, HB1.out⟩
  · have HMon : Hid (Mon A M N) := mon_of HGd.out h64 hE
    have HE : Hid (mEl A = some (M, N)) := hE
    have HWY : Hid (WyO A.k.toNat M W N) := hWY
    have HF : Hid (FN base w1 fb b mb A.k.toNat A.ac.length vl vw vr M W N D) := hF
    have HB1 : Hid (Below w.heap.size w w1) := go_on HB0.out hB1
    have HR1 : Hid (RowAt w1 w.heap.size #[.int .i64 A.k, .slice an A.nx.length cn, .slice aa A.ac.length ca]) := HR0.out.stay hB1
    have S0 : ((∀ o, (w1.drew).cell? ⟨w.heap.size, o, none⟩ = (#[.int .i64 A.k, .slice an A.nx.length cn, .slice aa A.ac.length ca] : Array Value)[o]?) ∧ (w1.drew).cell? ⟨fb, 1, none⟩ = some (.pointer (some ⟨b, 0, none⟩))) := ⟨HR1.out.cell, cell_at HF.out.box rfl⟩
    have HSK : Hid (∀ y y' : World, ((∀ o, y.cell? ⟨w.heap.size, o, none⟩ = (#[.int .i64 A.k, .slice an A.nx.length cn, .slice aa A.ac.length ca] : Array Value)[o]?) ∧ y.cell? ⟨fb, 1, none⟩ = some (.pointer (some ⟨b, 0, none⟩))) → Below y.heap.size y y' → ((∀ o, y'.cell? ⟨w.heap.size, o, none⟩ = (#[.int .i64 A.k, .slice an A.nx.length cn, .slice aa A.ac.length ca] : Array Value)[o]?) ∧ y'.cell? ⟨fb, 1, none⟩ = some (.pointer (some ⟨b, 0, none⟩)))) := fun y y' hy hb => by
      have k1 : w.heap.size < y.heap.size := World.block_lt_of_cell? y ⟨w.heap.size, 0, none⟩ (hy.1 0)
      have k2 : fb < y.heap.size := World.block_lt_of_cell? y ⟨fb, 1, none⟩ hy.2
      exact ⟨fun o => by rw [below_cellJ hb k1]; exact hy.1 o, by rw [below_cellJ hb k2]; exact hy.2⟩
    clear hE hWY hF hB1 HR0 HW0
    go_wp2_with fail
    go_region_held3 (fun y => ((∀ o, y.cell? ⟨w.heap.size, o, none⟩ = (#[.int .i64 A.k, .slice an A.nx.length cn, .slice aa A.ac.length ca] : Array Value)[o]?) ∧ y.cell? ⟨fb, 1, none⟩ = some (.pointer (some ⟨b, 0, none⟩)))) (first | assumption | exact S0 | exact HSK.out _ _ (by assumption) (by assumption) | exact HSK.out _ _ (by assumption) (below_new _ _)) (first
      | (go_at_call 44; refine (fresh_any _ A _ (HA.out _ HB1.out.drew) hxl.1 hn1 hxl.2 (by omega)).mono ?_; rintro e y1 ⟨v1, rfl, ⟨an1, cn1, aa1, ca1, rfl, hx1, hc1⟩, hy1⟩; have K1 : Hid (Below w1.heap.size w1 y1) := go_on (Below.refl _ _).drew hy1; have HX1 : Hid (y1.ownsRow w1.drew.heap.size 3 1 (.slice an1 A.nx.length cn1) A.nx.length (zC A.nx)) := hx1; have HC1 : Hid (y1.ownsRow w1.drew.heap.size 4 1 (.slice aa1 A.ac.length ca1) A.ac.length (bC A.ac)) := hc1; have HY2 : Hid (∀ z, Below y1.heap.size y1 z → Below y1.heap.size y1 z) := fun _ q => q; clear hx1 hc1)
      | (go_at_call 45; refine (words_any (HF.out.below K1.out) HWY.out HMon.out.fst ⟨hks.1, hks.2.1⟩ HMon.out.pos).mono ?_; rintro e y2 ⟨g2, rfl, hy2, hg2, hw2⟩; have K2 : Hid (Below w1.heap.size w1 y2) := go_on K1.out hy2; have HW2 : Hid (WP y2 g2 A.k.toNat M.length N M.length) := hw2; clear hw2 hg2)
      | (go_at_call 46; refine (accepted_any (HF.out.below K2.out) HWY.out.len _ (HA.out _ (go_on HB1.out K2.out)) hn1).mono ?_; rintro e y3 ⟨g3, rfl, hy3, hg3, hb3⟩; have K3 : Hid (Below w1.heap.size w1 y3) := go_on K2.out hy3; have HP3 : Hid (BP y3 g3 A M M.length) := hb3; have HY3 : Hid (Below y2.heap.size y2 y3) := hy3; clear hb3 hg3)
      | (go_at_call 47; refine (lay_any (HF.out.below K3.out) HWY.out HMon.out.fst ⟨hks.1, hks.2.1⟩ HMon.out.pos HMon.out.len (fun a b ha hb => HMon.out.pr_lt ha hb) (fun p hp => HMon.out.nl hp)).mono ?_; rintro e y4 ⟨R, n, a, c, d, hn, ha, hc, hd, rfl, hy4, hR, hRT⟩; have K4 : Hid (Below w1.heap.size w1 y4) := go_on K3.out hy4; have HRT : Hid (RT y4 R n A.k.toNat N (fun _ _ => True) (fun _ _ => True)) := hRT; have HNM : Hid (M.length = n ∧ n * A.k.toNat = a ∧ n * n = c ∧ a + a = d) := ⟨hn, ha, hc, hd⟩; have HY4 : Hid (Below y3.heap.size y3 y4) := hy4; clear hRT hn ha hc hd hR))
    have HMP : Hid (MP (y4.alloc (.cells #[.pointer (some ⟨y4.heap.size, 0, none⟩), .int .i64 A.k, .slice an1 A.nx.length cn1, .slice aa1 A.ac.length ca1, .pointer (some ⟨b, 0, none⟩), .slice (some ⟨g2, 0, none⟩) M.length M.length, .slice (some ⟨g3, 0, none⟩) M.length M.length, .int .i64 A.k, .slice (some ⟨R, 0, none⟩) a a, .int .i64 A.k, .slice (some ⟨R, a, none⟩) a a, .int .i64 (n : Int), .slice (some ⟨R, d, none⟩) c c] 35)) y4.heap.size A M N w1.drew.heap.size base b mb g2 g3 R n a c d vl D an1 cn1 aa1 ca1 (.pointer (some ⟨y4.heap.size, 0, none⟩))) := by
      have hY14 : Below y1.heap.size y1 y4 := go_on (go_on hy2 HY3.out) HY4.out
      have hb : Below y4.heap.size y4 (y4.alloc (.cells #[.pointer (some ⟨y4.heap.size, 0, none⟩), .int .i64 A.k, .slice an1 A.nx.length cn1, .slice aa1 A.ac.length ca1, .pointer (some ⟨b, 0, none⟩), .slice (some ⟨g2, 0, none⟩) M.length M.length, .slice (some ⟨g3, 0, none⟩) M.length M.length, .int .i64 A.k, .slice (some ⟨R, 0, none⟩) a a, .int .i64 A.k, .slice (some ⟨R, a, none⟩) a a, .int .i64 (n : Int), .slice (some ⟨R, d, none⟩) c c] 35)) := below_new _ _
      have hnm := HNM.out
      refine ⟨?_, own_below (own_below HX1.out hY14) hb, own_below (own_below HC1.out hY14) hb, (HF.out.tb.below K4.out).below hb, ?_, ?_, HRT.out.keep (hb.block _ HRT.out.lt), HMon.out, hnm⟩
      · rw [hks.2.2]
        have q0 := heap_last y4 (.cells #[.pointer (some ⟨y4.heap.size, 0, none⟩), .int .i64 A.k, .slice an1 A.nx.length cn1, .slice aa1 A.ac.length ca1, .pointer (some ⟨b, 0, none⟩), .slice (some ⟨g2, 0, none⟩) M.length M.length, .slice (some ⟨g3, 0, none⟩) M.length M.length, .int .i64 A.k, .slice (some ⟨R, 0, none⟩) a a, .int .i64 A.k, .slice (some ⟨R, a, none⟩) a a, .int .i64 (n : Int), .slice (some ⟨R, d, none⟩) c c] 35)
        have e := hnm.1
        rw [q0]
        congr 3
        rw [e]
      · have h24 : Below y2.heap.size y2 y4 := go_on HY3.out HY4.out
        have q0 := HW2.out
        rw [hnm.1] at q0
        exact (q0.keep (h24.block g2 HW2.out.lt)).keep (hb.block g2 (by have := HW2.out.lt; have := h24.size; omega))
      · have q0 := HP3.out
        rw [hnm.1] at q0
        exact (q0.keep (HY4.out.block g3 HP3.out.lt)).keep (hb.block g3 (by have := HP3.out.lt; have := HY4.out.size; omega))
    have HBF : Hid (Below w.heap.size w (y4.alloc (.cells #[.pointer (some ⟨y4.heap.size, 0, none⟩), .int .i64 A.k, .slice an1 A.nx.length cn1, .slice aa1 A.ac.length ca1, .pointer (some ⟨b, 0, none⟩), .slice (some ⟨g2, 0, none⟩) M.length M.length, .slice (some ⟨g3, 0, none⟩) M.length M.length, .int .i64 A.k, .slice (some ⟨R, 0, none⟩) a a, .int .i64 A.k, .slice (some ⟨R, a, none⟩) a a, .int .i64 (n : Int), .slice (some ⟨R, d, none⟩) c c] 35))) := by
      have q := go_on HB1.out K4.out
      exact go_on q (below_new _ _)
    clear S0 hy1 hy2 hy3 hy4
    go_wp2_with fail
    go_ret2
    exact .inr ⟨y4.heap.size, M, N, rfl, HE.out, ⟨_, _, _, _, _, _, _, _, _, _, _, _, _, _, _, _, _, HMP.out⟩, HBF.out⟩
end Go.Proofs.Ytneiegbodnalbaa

namespace Go.Proofs.Ytneiegbodnalbaa
open Go Go.RowKit Go.Lib Go.Maps
set_option linter.unusedVariables false
attribute [-instance] List.instBEq instBEqProd

theorem eq_ptrM (a : Addr) (w : World) : (binOp .eql 22 (.pointer (some a)) (.pointer (some a))).run Try.prog w = .ok (.bool true) w := by
  simp only [binOp]
  simp only [Op.equal, Op.maxDepth]
  rw [show (10000 : Nat) = 9999 + 1 from rfl, Op.equalIn]
  simp [Sem.run_bind, run_underlying Try.underlying22, sameAddr]

set_option maxHeartbeats 1000000 in
set_option maxRecDepth 100000 in
theorem mmade_any {w : World} {ob : Nat} {A : Aut} {M : List (List Nat)} {N : List Nat} (h : MO w ob A M N) : Calls Try.prog 35 #[.pointer (some ⟨ob, 0, none⟩)] w fun e w' => e = .returned (.bool true) ∧ w = w' := by
  obtain ⟨base, bt, b, mb, gw, ga, R, n, a, c, d, vl, D, an, cn, aa, ca, h⟩ := h
  have h0 : w.cell? ⟨ob, 0, none⟩ = some (.pointer (some ⟨ob, 0, none⟩)) := cell_at h.box rfl
  have he := eq_ptrM ⟨ob, 0, none⟩ w
  clear h
  go_enter Try.func35, Try.ntmps35
  go_wp2_with fail
  go_ret
  exact ⟨rfl, rfl⟩

set_option maxHeartbeats 1000000 in
set_option maxRecDepth 100000 in
theorem mlen_any {w : World} {ob : Nat} {A : Aut} {M : List (List Nat)} {N : List Nat} (h : MO w ob A M N) : Calls Try.prog 15 #[.pointer (some ⟨ob, 0, none⟩)] w fun e w' => e = .returned (.int .i64 (M.length : Nat)) ∧ w = w' := by
  have H : Hid (MO w ob A M N) := h
  obtain ⟨base, bt, b, mb, gw, ga, R, n, a, c, d, vl, D, an, cn, aa, ca, h⟩ := h
  have h5 : w.cell? ⟨ob, 5, none⟩ = some (.slice (some ⟨gw, 0, none⟩) n n) := cell_at h.box rfl
  have HN : Hid (M.length = n) := h.num.1
  clear h
  go_enter Try.func15, Try.ntmps15
  go_wp2_with fail
  refine (mmade_any H.out).mono ?_
  rintro e w1 ⟨rfl, rfl⟩
  go_wp2_with fail
  go_ret
  exact ⟨by rw [HN.out]; rfl, rfl⟩

/-- What check answers. -/
def mck (n : Nat) (i : Int) : Int := if 0 ≤ i ∧ i < n then 0 else 11

set_option maxHeartbeats 1000000 in
set_option maxRecDepth 100000 in
theorem mcheck_any {w : World} {ob : Nat} {A : Aut} {M : List (List Nat)} {N : List Nat} (h : MO w ob A M N) (i : Int) : Calls Try.prog 33 #[.pointer (some ⟨ob, 0, none⟩), .int .i64 i] w fun e w' => e = .returned (.int .i64 (mck M.length i)) ∧ w = w' := by
  have H : Hid (MO w ob A M N) := h
  obtain ⟨base, bt, b, mb, gw, ga, R, n, a, c, d, vl, D, an, cn, aa, ca, h⟩ := h
  have h5 : w.cell? ⟨ob, 5, none⟩ = some (.slice (some ⟨gw, 0, none⟩) n n) := cell_at h.box rfl
  have HN : Hid (M.length = n) := h.num.1
  rw [h.num.1]
  clear h
  by_cases h0 : 0 ≤ i
  · by_cases h1 : i < n
    · have HE : Hid (mck n i = 0) := by show mck n i = 0; unfold mck; rw [if_pos ⟨h0, h1⟩]
      have h0' : decide (i < 0) = false := by simpa using h0
      have h1' : ¬ (n : Int) ≤ i := by omega
      have h1d : decide ((n : Int) ≤ i) = false := by simpa using h1
      go_enter Try.func33, Try.ntmps33
      go_wp2_with fail
      refine (mmade_any H.out).mono ?_
      rintro e w1 ⟨rfl, rfl⟩
      go_wp2_with fail
      go_ret
      exact ⟨ret_intJ HE.out.symm, rfl⟩
    · have HE : Hid (mck n i = 11) := by show mck n i = 11; unfold mck; rw [if_neg (fun q => h1 q.2)]
      have h0' : decide (i < 0) = false := by simpa using h0
      have h1' : (n : Int) ≤ i := by omega
      have h1d : decide ((n : Int) ≤ i) = true := by simpa using h1'
      go_enter Try.func33, Try.ntmps33
      go_wp2_with fail
      refine (mmade_any H.out).mono ?_
      rintro e w1 ⟨rfl, rfl⟩
      go_wp2_with fail
      go_ret
      exact ⟨ret_intJ HE.out.symm, rfl⟩
  · have HE : Hid (mck n i = 11) := by show mck n i = 11; unfold mck; rw [if_neg (fun q => h0 q.1)]
    have h0' : i < 0 := by omega
    have h0d : decide (i < 0) = true := by simpa using h0'
    go_enter Try.func33, Try.ntmps33
    go_wp2_with fail
    refine (mmade_any H.out).mono ?_
    rintro e w1 ⟨rfl, rfl⟩
    go_wp2_with fail
    go_ret
    exact ⟨ret_intJ HE.out.symm, rfl⟩

set_option maxHeartbeats 1000000 in
set_option maxRecDepth 100000 in
theorem mproduct_ok {w : World} {ob : Nat} {A : Aut} {M : List (List Nat)} {N : List Nat} (h : MO w ob A M N) (i j : Nat) (hi : i < M.length) (hj : j < M.length) : Calls Try.prog 19 #[.pointer (some ⟨ob, 0, none⟩), .int .i64 i, .int .i64 j] w fun e w' => e = .returned (.tuple #[.int .i64 (pr A.k.toNat N i j : Nat), .int .i64 0]) ∧ Below w.heap.size w w' := by
  have H : Hid (MO w ob A M N) := h
  have hmo := h
  obtain ⟨base, bt, b, mb, gw, ga, R, n, a, c, d, vl, D, an, cn, aa, ca, h⟩ := h
  have HP : Hid (pr A.k.toNat N i j < M.length) := h.mon.pr_lt hi hj
  have hnm := h.num
  have hms := h.mon.most
  have c11 : w.cell? ⟨ob, 11, none⟩ = some (.int .i64 (n : Int)) := cell_at h.box rfl
  have c12 : w.cell? ⟨ob, 12, none⟩ = some (.slice (some ⟨R, d, none⟩) c c) := cell_at h.box rfl
  have HCI : Hid (mck M.length i = 0) := by show mck _ _ = 0; unfold mck; rw [if_pos ⟨by omega, by omega⟩]
  have HCJ : Hid (mck M.length j = 0) := by show mck _ _ = 0; unfold mck; rw [if_pos ⟨by omega, by omega⟩]
  obtain ⟨q, hq⟩ : ∃ q, i * n = q := ⟨_, rfl⟩
  obtain ⟨v, hv⟩ : ∃ v, pr A.k.toNat N i j = v := ⟨_, rfl⟩
  have hn2 : n * n ≤ 512 * 512 := Nat.mul_le_mul (by omega) (by omega)
  have hqlt : q + j < c := by rw [← hq, ← hnm.2.2.1]; exact idx_lt (by omega) (by omega)
  have hcell := h.rt.prod (i := i) (j := j) (by omega) (by omega) trivial
  rw [hv, hnm.2.1, hnm.2.2.2, hq] at hcell
  rw [hv] at HP
  rw [hv]
  have HG : Hid (Calls Try.prog 40 #[.agg #[.int .i64 (n : Int), .slice (some ⟨R, d, none⟩) c c], .int .i64 i, .int .i64 j] w fun e w' => e = .returned (.int .i64 v) ∧ Below w.heap.size w w') := gat_any R d n i j c c q v hq hqlt (by have := HP.out; omega) (by omega) w hcell h.rt.lt
  clear h hmo hnm hcell hn2 hq hqlt hv
  go_enter Try.func19, Try.ntmps19
  go_wp2_with fail
  refine (mcheck_any H.out i).mono ?_
  rintro e w1 ⟨rfl, rfl⟩
  rw [HCI.out]
  go_wp2_with fail
  refine (mcheck_any H.out j).mono ?_
  rintro e w1 ⟨rfl, rfl⟩
  rw [HCJ.out]
  go_wp2_with fail
  refine HG.out.mono ?_
  rintro e w1 ⟨rfl, hb⟩
  go_wp2_with fail
  go_ret2
  exact ⟨rfl, hb⟩

end Go.Proofs.Ytneiegbodnalbaa

namespace Go.Proofs.Ytneiegbodnalbaa
open Go.RowKit Go.Lib Go.Shelf

def renClone : Go.Shelf.Ren := ⟨fun | 316 => 59 | n => n, fun | 9 => 9 | 3 => 3 | 4 => 4 | 37 => 144 | 0 => 0 | 127 => 145 | 5 => 5 | n => n, fun | n => n⟩
theorem laysClone : Go.Proofs.LaysM.n316 Try.prog renClone := {
  mixed := by kernel_rfl
  f316 := Try.func59.trans (congrArg some (by kernel_rfl))
  t0 := Try.underlying0
  a0 := Try.isAgg0
  z0 := Try.sizeOf0
  v0 := Try.zeroValue0
  t3 := Try.underlying3
  a3 := Try.isAgg3
  z3 := Try.sizeOf3
  v3 := Try.zeroValue3
  t4 := Try.underlying4
  a4 := Try.isAgg4
  z4 := Try.sizeOf4
  v4 := Try.zeroValue4
  t9 := Try.underlying9
  a9 := Try.isAgg9
  z9 := Try.sizeOf9
  v9 := Try.zeroValue9
  t37 := Try.underlying144
  a37 := Try.isAgg144
  z37 := Try.sizeOf144
  v37 := Try.zeroValue144
  t127 := Try.underlying145
  a127 := Try.isAgg145
  z127 := Try.sizeOf145
  v127 := Try.zeroValue145
  t5 := Try.underlying5
  a5 := Try.isAgg5
  z5 := Try.sizeOf5
  v5 := Try.zeroValue5
  i0 := by kernel_rfl
  i3 := by kernel_rfl
  i4 := by kernel_rfl
  i5 := by kernel_rfl
  i9 := by kernel_rfl
  i37 := by kernel_rfl
  i127 := by kernel_rfl }
theorem slClone_any (s : ByteArray) (w : World) (h : s.size ≤ 281474976710656) :
    Calls Try.prog 59 #[.string s] w fun e w' => e = .returned (.string s) ∧ Below w.heap.size w w' := Any.stringslite_Clone laysClone s w h

set_option maxHeartbeats 400000 in
theorem sClone_any (s : ByteArray) (w : World) (h : s.size ≤ 281474976710656) :
    Calls Try.prog 34 #[.string s] w fun e w' => e = .returned (.string s) ∧ Below w.heap.size w w' := by
  go_enter Try.func34, Try.ntmps34
  go_wp2_with (go_at_call 59; refine (slClone_any s _ h).mono ?_; rintro e w1 ⟨rfl, b1⟩)
  go_ret
  exact ⟨rfl, b1⟩
end Go.Proofs.Ytneiegbodnalbaa

namespace Go.Proofs.Ytneiegbodnalbaa
open Go Go.RowKit Go.Lib Go.Maps
set_option linter.unusedVariables false
attribute [-instance] List.instBEq instBEqProd

set_option maxHeartbeats 1000000 in
set_option maxRecDepth 100000 in
theorem mword_ok {w : World} {ob : Nat} {A : Aut} {M : List (List Nat)} {N : List Nat} (h : MO w ob A M N) (i : Nat) (hi : i < M.length) : Calls Try.prog 13 #[.pointer (some ⟨ob, 0, none⟩), .int .i64 i] w fun e w' => e = .returned (.tuple #[.string (wb (lw A.k.toNat N i)), .int .i64 0]) ∧ Below w.heap.size w w' := by
  have H : Hid (MO w ob A M N) := h
  obtain ⟨base, bt, b, mb, gw, ga, R, n, a, c, d, vl, D, an, cn, aa, ca, h⟩ := h
  have hnm := h.num
  have hms := h.mon.most
  have hin : i < n := by omega
  have c5 : w.cell? ⟨ob, 5, none⟩ = some (.slice (some ⟨gw, 0, none⟩) n n) := cell_at h.box rfl
  have hw := h.wp.cell hin
  have hll := lw_len h.mon.fst i hi
  obtain ⟨X, hX⟩ : ∃ X, wb (lw A.k.toNat N i) = X := ⟨_, rfl⟩
  have hXs : X.size ≤ 281474976710656 := by rw [← hX, wb_size]; omega
  rw [hX] at hw
  rw [hX]
  have hiI : (i : Int) < n := by omega
  have HCI : Hid (mck M.length i = 0) := by show mck _ _ = 0; unfold mck; rw [if_pos ⟨by omega, by omega⟩]
  clear h hnm hll hX hms
  go_enter Try.func13, Try.ntmps13
  go_wp2_with fail
  refine (mcheck_any H.out i).mono ?_
  rintro e w1 ⟨rfl, rfl⟩
  rw [HCI.out]
  go_wp2_with fail
  refine (sClone_any X w hXs).mono ?_
  rintro e w1 ⟨rfl, hb⟩
  go_wp2_with fail
  go_ret2
  exact ⟨rfl, hb⟩

theorem mplace_any (x : Nat) (hx : x < 200) (h97 : 97 ≤ x) (w : World) : Calls Try.prog 85 #[.int .i32 (x : Int)] w fun e w' => e = .returned (.int .i64 ((x - 97 : Nat) : Int)) ∧ w = w' := by
  have e1 : IntKind.i32.wrap ((x : Int) - 97) = ((x - 97 : Nat) : Int) := by rw [IntKind.wrap_i32]; omega
  have e2 : IntKind.i64.wrap ((x - 97 : Nat) : Int) = ((x - 97 : Nat) : Int) := by rw [IntKind.wrap_i64]; omega
  obtain ⟨y, hy⟩ : ∃ y, x - 97 = y := ⟨_, rfl⟩
  rw [hy] at e1 e2
  rw [hy]
  go_enter Try.func85, Try.ntmps85
  go_wp2_with fail
  go_ret
  exact ⟨rfl, rfl⟩

def itP (w : World) (k : Nat) : Nat := match w.heap[k]? with | some (.stringIter _ p) => p | _ => 0

theorem itP_eq {w : World} {k : Nat} {s : ByteArray} {p : Nat} (h : w.heap[k]? = some (.stringIter s p)) : itP w k = p := by unfold itP; rw [h]

theorem it_below {n k : Nat} {w w1 : World} {s : ByteArray} {p : Nat} (h : Below n w w1) (hk : n ≤ k) : Below n w (w1.iterAt k s p) :=
  h.trans ⟨rfl, rfl, rfl, by simp [World.iterAt], fun j hj => iterAt_other _ _ _ _ _ (by omega)⟩

end Go.Proofs.Ytneiegbodnalbaa

namespace Go.Proofs.Ytneiegbodnalbaa
open Go Go.RowKit Go.Lib Go.Maps
set_option linter.unusedVariables false
attribute [-instance] List.instBEq instBEqProd

/-- The automaton of (ab)*. -/
def pA : Aut := ⟨2, [1, 2, 2, 0, 2, 2], [true, false, false]⟩

theorem pA_good : Good pA := by
  refine ⟨by decide, by decide, by decide, by decide, by decide, ?_, ?_⟩
  · decide
  · decide

def pM : List (List Nat) := [[0, 1, 2], [1, 2, 2], [2, 0, 2], [2, 2, 2], [0, 2, 2], [2, 1, 2]]

def pN : List Nat := [1, 2, 3, 4, 5, 3, 3, 3, 1, 3, 3, 2]

theorem pA_el : mEl pA = some (pM, pN) := by decide +kernel

theorem pA_facts : pr 2 pN 4 1 = 1 ∧ mr 2 pN 0 [1, 1] = 3 ∧ lw 2 pN 3 = [0, 0] := by decide +kernel

/-- What Element answers. -/
def elV (A : Aut) (N : List Nat) (s : ByteArray) : Value := if chk A.k s = 0 then .tuple #[.int .i64 (mr A.k.toNat N 0 (lets s) : Nat), .int .i64 0] else .tuple #[.int .i64 0, .int .i64 (chk A.k s)]

set_option maxHeartbeats 1000000 in
set_option maxRecDepth 100000 in
theorem plain_any (w : World) : Calls Try.prog 27 #[] w fun e w' => ∃ v, e = .returned v ∧ AR w' v pA ∧ Below w.heap.size w w' := by
  obtain ⟨w3, hw3⟩ : ∃ w3, w3 = (((w.alloc (.cells #[.int .i64 2, .slice (some ⟨w.heap.size + 1, 0, none⟩) 6 6, .slice (some ⟨w.heap.size + 1 + 1, 0, none⟩) 3 3] 26)).alloc (.cells #[.int .i64 1, .int .i64 2, .int .i64 2, .int .i64 0, .int .i64 2, .int .i64 2] 3)).alloc (.cells #[.bool true, .bool false, .bool false] 4)) := ⟨_, rfl⟩
  have HW3 : Hid (w3 = (((w.alloc (.cells #[.int .i64 2, .slice (some ⟨w.heap.size + 1, 0, none⟩) 6 6, .slice (some ⟨w.heap.size + 1 + 1, 0, none⟩) 3 3] 26)).alloc (.cells #[.int .i64 1, .int .i64 2, .int .i64 2, .int .i64 0, .int .i64 2, .int .i64 2] 3)).alloc (.cells #[.bool true, .bool false, .bool false] 4))) := hw3
  have H0 : Hid (w3.heap[w.heap.size]? = some (.cells #[.int .i64 2, .slice (some ⟨w.heap.size + 1, 0, none⟩) 6 6, .slice (some ⟨w.heap.size + 1 + 1, 0, none⟩) 3 3] 26 (0, 0))) := by
    show _ = _
    rw [hw3, heap_allo (by simp; omega), heap_allo (by simp)]
    exact heap_last _ _
  have H1 : Hid (w3.heap[w.heap.size + 1]? = some (.cells #[.int .i64 1, .int .i64 2, .int .i64 2, .int .i64 0, .int .i64 2, .int .i64 2] 3 (0, 0))) := by
    show _ = _
    rw [hw3, heap_allo (by simp)]
    have := heap_last (w.alloc (.cells #[.int .i64 2, .slice (some ⟨w.heap.size + 1, 0, none⟩) 6 6, .slice (some ⟨w.heap.size + 1 + 1, 0, none⟩) 3 3] 26)) (.cells #[.int .i64 1, .int .i64 2, .int .i64 2, .int .i64 0, .int .i64 2, .int .i64 2] 3)
    rwa [World.size_alloc] at this
  have H2 : Hid (w3.heap[w.heap.size + 1 + 1]? = some (.cells #[.bool true, .bool false, .bool false] 4 (0, 0))) := by
    show _ = _
    rw [hw3]
    have := heap_last ((w.alloc (.cells #[.int .i64 2, .slice (some ⟨w.heap.size + 1, 0, none⟩) 6 6, .slice (some ⟨w.heap.size + 1 + 1, 0, none⟩) 3 3] 26)).alloc (.cells #[.int .i64 1, .int .i64 2, .int .i64 2, .int .i64 0, .int .i64 2, .int .i64 2] 3)) (.cells #[.bool true, .bool false, .bool false] 4)
    rwa [World.size_alloc, World.size_alloc] at this
  have HB : Hid (Below w.heap.size w w3) := by show Below _ _ _; rw [hw3]; exact go_on (go_on (below_new _ _) (below_new _ _)) (below_new _ _)
  clear hw3
  go_enter Try.func27, Try.ntmps27
  go_wp2_with fail
  rw [← HW3.out]
  refine bodyPost_ret (results_cell_row rfl _ _ w.heap.size 26 _ (0, 0) _ rfl H0.out Try.underlying26 rfl (by rw [Try.info_au]; rfl)) rfl ⟨_, rfl, ⟨_, _, _, _, rfl, ?_, ?_⟩, HB.out⟩
  · intro j u hj
    refine ⟨_, _, rfl, (Array.getElem?_eq_some_iff.1 H1.out).1, ?_⟩
    rw [Nat.zero_add, cell_of_row _ _ _ _ _ _ H1.out]
    rw [← hj]
    simp [pA, zC]
  · intro j u hj
    refine ⟨_, _, rfl, (Array.getElem?_eq_some_iff.1 H2.out).1, ?_⟩
    rw [Nat.zero_add, cell_of_row _ _ _ _ _ _ H2.out]
    rw [← hj]
    simp [pA, bC]

end Go.Proofs.Ytneiegbodnalbaa

namespace Go.Proofs.Ytneiegbodnalbaa
open Go Go.RowKit Go.Lib Go.Maps
set_option linter.unusedVariables false
attribute [-instance] List.instBEq instBEqProd

theorem owE_ok {A : Aut} (h : owE A ByteArray.empty = 0) : Good A ∧ A.ac.length ≤ 64 := by
  unfold owE at h
  split at h
  · rename_i hc
    split at h
    · cases h
    · exact ⟨chkA_good hc, by omega⟩
  · cases h

theorem owE_good {A : Aut} (G : Good A) (h : A.ac.length ≤ 64) : owE A ByteArray.empty = 0 := by
  unfold owE
  rw [if_pos (by unfold chkA; rw [if_pos G]), if_neg (by omega)]
  exact chk_empty G

set_option maxHeartbeats 2000000 in
set_option maxRecDepth 100000 in
theorem find_bad (v : Value) (A : Aut) (w : World) (h : AR w v A) (hm : A.nx.length ≤ 9223372036854775806) (hm2 : A.ac.length ≤ 9223372036854775806) (hE : owE A ByteArray.empty ≠ 0) :
    Calls Try.prog 43 #[v] w fun e w' => e = .returned (.tuple #[.pointer none, .int .i64 (owE A ByteArray.empty)]) ∧ Below w.heap.size w w' := by
  obtain ⟨an, cn, aa, ca, e, h1, h2⟩ := h.is
  have HA : Hid (∀ w', Below w.heap.size w w' → AR w' v A) := fun w' hb => h.stay hb
  clear h h1 h2
  subst e
  obtain ⟨w0, hw0⟩ : ∃ w0, w0 = w.alloc (.cells #[.int .i64 A.k, .slice an A.nx.length cn, .slice aa A.ac.length ca] 26) := ⟨_, rfl⟩
  have HB0 : Hid (Below w.heap.size w w0) := by show Below _ _ _; rw [hw0]; exact below_new _ _
  have HW0 : Hid (w0 = w.alloc (.cells #[.int .i64 A.k, .slice an A.nx.length cn, .slice aa A.ac.length ca] 26)) := hw0
  obtain ⟨E, hEE⟩ : ∃ E, owE A ByteArray.empty = E := ⟨_, rfl⟩
  have HOW : Hid (∀ y, Below w.heap.size w y → Calls Try.prog 64 #[.agg #[.int .i64 A.k, .slice an A.nx.length cn, .slice aa A.ac.length ca], .string ByteArray.empty] y fun e w' => e = .returned (.tuple #[.agg #[.int .i64 0, .int .u64 0, .int .u64 0, .int .u64 0, .int .u64 0, .int .u64 0, .int .u64 0, .int .u64 0], .int .i64 E]) ∧ Below y.heap.size y w') := fun y hy => by
    have := ofWord_any _ A y (HA.out y hy) hm hm2 ByteArray.empty (by show 0 ≤ _; omega)
    unfold owV at this
    rw [if_neg hE, hEE] at this
    exact this
  rw [hEE] at hE ⊢
  have hq0 : (E != 0) = true := by rw [bne_iff_ne]; exact hE
  clear hw0 hEE hE
  go_enter Try.func43, Try.ntmps43
  go_wp2_with fail
  rw [← HW0.out]
  refine (HOW.out _ HB0.out).mono ?_
  rintro e w1 ⟨rfl, hB1⟩
  have HB1 : Hid (Below w.heap.size w w1) := go_on HB0.out hB1
  have HB2 : Hid (Below w.heap.size w (w1.alloc (.cells #[.int .i64 0, .int .u64 0, .int .u64 0, .int .u64 0, .int .u64 0, .int .u64 0, .int .u64 0, .int .u64 0] 119))) := go_on HB1.out (below_new _ _)
  clear hB1
  go_wp2_with fail
  go_ret2
  exact ⟨rfl, HB2.out⟩

/-- Build's error. -/
noncomputable def bdE (A : Aut) : Int := if owE A ByteArray.empty = 0 then (if (mEl A).isSome = true then 0 else 140) else owE A ByteArray.empty

/-- What Build answers. -/
def BdA (A : Aut) (w : World) (e : Ending) (w' : World) : Prop :=
  (bdE A ≠ 0 ∧ e = .returned (.tuple #[.pointer none, .int .i64 (bdE A)]) ∧ Below w.heap.size w w') ∨
  ∃ ob M N, e = .returned (.tuple #[.pointer (some ⟨ob, 0, none⟩), .int .i64 0]) ∧ Good A ∧ A.ac.length ≤ 64 ∧ mEl A = some (M, N) ∧ MO w' ob A M N ∧ Below w.heap.size w w'

set_option maxHeartbeats 2000000 in
set_option maxRecDepth 100000 in
theorem build_bad (v : Value) (A : Aut) (w : World) (h : AR w v A) (hm : A.nx.length ≤ 9223372036854775806) (hm2 : A.ac.length ≤ 9223372036854775806) (hE : owE A ByteArray.empty ≠ 0) :
    Calls Try.prog 22 #[v] w fun e w' => e = .returned (.tuple #[.pointer none, .int .i64 (owE A ByteArray.empty)]) ∧ Below w.heap.size w w' := by
  obtain ⟨an, cn, aa, ca, e, h1, h2⟩ := h.is
  have HA : Hid (∀ w', Below w.heap.size w w' → AR w' v A) := fun w' hb => h.stay hb
  clear h h1 h2
  subst e
  obtain ⟨w0, hw0⟩ : ∃ w0, w0 = w.alloc (.cells #[.int .i64 A.k, .slice an A.nx.length cn, .slice aa A.ac.length ca] 26) := ⟨_, rfl⟩
  have HB0 : Hid (Below w.heap.size w w0) := by show Below _ _ _; rw [hw0]; exact below_new _ _
  have HW0 : Hid (w0 = w.alloc (.cells #[.int .i64 A.k, .slice an A.nx.length cn, .slice aa A.ac.length ca] 26)) := hw0
  obtain ⟨E, hEE⟩ : ∃ E, owE A ByteArray.empty = E := ⟨_, rfl⟩
  have HFD : Hid (∀ y, Below w.heap.size w y → Calls Try.prog 43 #[.agg #[.int .i64 A.k, .slice an A.nx.length cn, .slice aa A.ac.length ca]] y fun e w' => e = .returned (.tuple #[.pointer none, .int .i64 E]) ∧ Below y.heap.size y w') := fun y hy => by
    have := find_bad _ A y (HA.out y hy) hm hm2 hE
    rw [hEE] at this
    exact this
  rw [hEE] at hE ⊢
  have hq0 : (E != 0) = true := by rw [bne_iff_ne]; exact hE
  clear hw0 hEE hE
  go_enter Try.func22, Try.ntmps22
  go_wp2_with fail
  rw [← HW0.out]
  refine (HFD.out _ HB0.out).mono ?_
  rintro e w1 ⟨rfl, hB1⟩
  have HB1 : Hid (Below w.heap.size w w1) := go_on HB0.out hB1
  clear hB1
  go_wp2_with fail
  go_ret2
  exact ⟨rfl, HB1.out⟩

theorem build_all (v : Value) (A : Aut) (w : World) (h : AR w v A) (hm : A.nx.length ≤ 9223372036854775806) (hm2 : A.ac.length ≤ 9223372036854775806) :
    Calls Try.prog 22 #[v] w (BdA A w) := by
  by_cases hE : owE A ByteArray.empty = 0
  · obtain ⟨G, h64⟩ := owE_ok hE
    refine (build_any v A w h G h64).mono ?_
    rintro e w' (⟨hn, rfl, hb⟩ | ⟨ob, M, N, rfl, he, hmo, hb⟩)
    · have e1 : bdE A = 140 := by unfold bdE; rw [if_pos hE, hn]; rfl
      exact .inl ⟨by rw [e1]; decide, by rw [e1], hb⟩
    · exact .inr ⟨ob, M, N, rfl, G, h64, he, hmo, hb⟩
  · refine (build_bad v A w h hm hm2 hE).mono ?_
    rintro e w' ⟨rfl, hb⟩
    have e1 : bdE A = owE A ByteArray.empty := by unfold bdE; rw [if_neg hE]
    exact .inl ⟨by rw [e1]; exact hE, by rw [e1], hb⟩

/-- What the law's built answers. -/
def BtQ (A : Aut) (w : World) (e : Ending) (w' : World) : Prop :=
  (e = .returned (.tuple #[.pointer none, .bool false]) ∧ Below w.heap.size w w') ∨
  ∃ ob M N, e = .returned (.tuple #[.pointer (some ⟨ob, 0, none⟩), .bool true]) ∧ Good A ∧ A.ac.length ≤ 64 ∧ mEl A = some (M, N) ∧ MO w' ob A M N ∧ Below w.heap.size w w'

set_option maxHeartbeats 1000000 in
set_option maxRecDepth 100000 in
theorem mchkL_ok {w : World} {ob : Nat} {A : Aut} {M : List (List Nat)} {N : List Nat} (h : MO w ob A M N) (i c x : Nat) (hi : i < M.length) (hc : c < A.k.toNat) (hx : 97 + c = x) : Calls Try.prog 84 #[.pointer (some ⟨ob, 0, none⟩), .int .i64 i, .int .u8 x] w fun e w' => e = .returned (.int .i64 0) ∧ w = w' := by
  have H : Hid (MO w ob A M N) := h
  obtain ⟨base, bt, b, mb, gw, ga, R, n, a, cc, d, vl, D, an, cn, aa, ca, h⟩ := h
  have c1 : w.cell? ⟨ob, 1, none⟩ = some (.int .i64 A.k) := cell_at h.box rfl
  have hks := h.mon.G.ks
  have HCI : Hid (mck M.length i = 0) := by show mck _ _ = 0; unfold mck; rw [if_pos ⟨by omega, by omega⟩]
  have HPL : Hid (∀ y, Calls Try.prog 85 #[.int .i32 (x : Int)] y fun e w' => e = .returned (.int .i64 (c : Int)) ∧ y = w') := fun y => by
    have := mplace_any x (by omega) (by omega) y
    rw [show x - 97 = c by omega] at this
    exact this
  have e1 : IntKind.i32.wrap (x : Int) = (x : Int) := by rw [IntKind.wrap_i32]; omega
  have h0d : decide ((c : Int) < 0) = false := decide_eq_false (by omega)
  have h0' : ¬ (c : Int) < 0 := by omega
  have h1' : ¬ A.k ≤ (c : Int) := by omega
  have h1d : decide (A.k ≤ (c : Int)) = false := decide_eq_false h1'
  clear h hks
  go_enter Try.func84, Try.ntmps84
  go_wp2_with fail
  refine (mcheck_any H.out i).mono ?_
  rintro e w1 ⟨rfl, rfl⟩
  rw [HCI.out]
  go_wp2_with fail
  refine (HPL.out w).mono ?_
  rintro e w1 ⟨rfl, rfl⟩
  go_wp2_with fail
  go_ret
  exact ⟨rfl, rfl⟩

set_option maxHeartbeats 2000000 in
set_option maxRecDepth 100000 in
theorem mright_ok {w : World} {ob : Nat} {A : Aut} {M : List (List Nat)} {N : List Nat} (h : MO w ob A M N) (i c x : Nat) (hi : i < M.length) (hc : c < A.k.toNat) (hx : 97 + c = x) : Calls Try.prog 58 #[.pointer (some ⟨ob, 0, none⟩), .int .i64 i, .int .u8 x] w fun e w' => e = .returned (.tuple #[.int .i64 (N.getD (i * A.k.toNat + c) 0 : Nat), .int .i64 0]) ∧ Below w.heap.size w w' := by
  have H : Hid (MO w ob A M N) := h
  obtain ⟨base, bt, b, mb, gw, ga, R, n, a, cc, d, vl, D, an, cn, aa, ca, h⟩ := h
  have hks := h.mon.G.ks
  have hnm := h.num
  have hms := h.mon.most
  have hobl : ob < w.heap.size := (Array.getElem?_eq_some_iff.1 h.box).1
  have HBX : Hid (w.cell? ⟨ob, 7, none⟩ = some (.int .i64 (A.k.toNat : Int)) ∧ w.cell? ⟨ob, 8, none⟩ = some (.slice (some ⟨R, 0, none⟩) a a)) := ⟨cell_at h.box rfl, cell_at h.box rfl⟩
  have HPL : Hid (∀ y, Calls Try.prog 85 #[.int .i32 (x : Int)] y fun e w' => e = .returned (.int .i64 (c : Int)) ∧ y = w') := fun y => by
    have := mplace_any x (by omega) (by omega) y
    rw [show x - 97 = c by omega] at this
    exact this
  have e1 : IntKind.i32.wrap (x : Int) = (x : Int) := by rw [IntKind.wrap_i32]; omega
  have HCL : Hid (Calls Try.prog 84 #[.pointer (some ⟨ob, 0, none⟩), .int .i64 i, .int .u8 x] w fun e w' => e = .returned (.int .i64 0) ∧ w = w') := mchkL_ok H.out i c x hi hc hx
  obtain ⟨K, hK⟩ : ∃ K, A.k.toNat = K := ⟨_, rfl⟩
  obtain ⟨v, hv⟩ : ∃ v, N.getD (i * A.k.toNat + c) 0 = v := ⟨_, rfl⟩
  have hvn : v < n := by
    rw [← hv, ← hnm.1]
    exact h.mon.nl (by rw [h.mon.len]; exact idx_lt hi hc)
  obtain ⟨q, hq⟩ : ∃ q, i * K = q := ⟨_, rfl⟩
  have hqlt : q + c < a := by rw [← hq, ← hnm.2.1, hK]; exact idx_lt (by omega) (by omega)
  have hna : a ≤ 512 * 8 := by rw [← hnm.2.1]; exact Nat.mul_le_mul (by omega) (by omega)
  have hcell : w.cell? ⟨R, 0 + (q + c), none⟩ = some (.int .u16 v) := by
    have := h.rt.right (p := q + c) (by rw [hnm.2.1]; exact hqlt)
    rw [← hq, ← hK, hv] at this
    rw [Nat.zero_add, ← hq, ← hK]
    exact this
  rw [hK] at HBX
  rw [hv]
  have HGA : Hid (∀ y, Below w.heap.size w y → Calls Try.prog 40 #[.agg #[.int .i64 (K : Int), .slice (some ⟨R, 0, none⟩) a a], .int .i64 i, .int .i64 c] y fun e w' => e = .returned (.int .i64 v) ∧ Below y.heap.size y w') := fun y hy => by
    refine gat_any R 0 K i c a a q v hq hqlt (by omega) (by omega) y ?_ (Nat.lt_of_lt_of_le h.rt.lt hy.size)
    rw [below_cellJ hy h.rt.lt]
    exact hcell
  have HSK : Hid (∀ y y' : World, (y.cell? ⟨ob, 7, none⟩ = some (.int .i64 (K : Int)) ∧ y.cell? ⟨ob, 8, none⟩ = some (.slice (some ⟨R, 0, none⟩) a a)) → Below y.heap.size y y' → (y'.cell? ⟨ob, 7, none⟩ = some (.int .i64 (K : Int)) ∧ y'.cell? ⟨ob, 8, none⟩ = some (.slice (some ⟨R, 0, none⟩) a a))) := fun y y' hy hb => by
    have k1 : ob < y.heap.size := World.block_lt_of_cell? y ⟨ob, 7, none⟩ hy.1
    exact ⟨by rw [below_cellJ hb k1]; exact hy.1, by rw [below_cellJ hb k1]; exact hy.2⟩
  have S0 : ((w.drew).cell? ⟨ob, 7, none⟩ = some (.int .i64 (K : Int)) ∧ (w.drew).cell? ⟨ob, 8, none⟩ = some (.slice (some ⟨R, 0, none⟩) a a)) := HBX.out
  clear h hks hnm hms hq hqlt hna hcell hv hvn hK hx hi hc
  go_enter Try.func58, Try.ntmps58
  go_wp2_with fail
  refine HCL.out.mono ?_
  rintro e w1 ⟨rfl, rfl⟩
  go_wp2_with fail
  go_region_held3 (fun y => (y.cell? ⟨ob, 7, none⟩ = some (.int .i64 (K : Int)) ∧ y.cell? ⟨ob, 8, none⟩ = some (.slice (some ⟨R, 0, none⟩) a a))) (first | assumption | exact S0 | exact HSK.out _ _ (by assumption) (by assumption)) (first
    | (go_at_call 85; refine (HPL.out _).mono ?_; rintro e y1 ⟨rfl, rfl⟩)
    | (go_at_call 40; refine (HGA.out _ (Below.refl _ _).drew).mono ?_; rintro e y2 ⟨rfl, hy2⟩))
  have HB2 : Hid (Below w.heap.size w y2) := go_on (Below.refl _ _).drew hy2
  clear S0 hy2
  go_wp2_with fail
  go_ret2
  exact ⟨rfl, HB2.out⟩

end Go.Proofs.Ytneiegbodnalbaa

namespace Go.Proofs.Ytneiegbodnalbaa
open Go Go.RowKit Go.Lib Go.Maps
set_option linter.unusedVariables false

/-- No monoid, or one whose mark is nil. -/
def NoM (w : World) (x : Value) : Prop := x = .pointer none ∨ ∃ b, x = .pointer (some ⟨b, 0, none⟩) ∧ b < w.heap.size ∧ w.cell? ⟨b, 0, none⟩ = some (.pointer none)

theorem NoM.below {w w' : World} {x : Value} (h : NoM w x) (hb : Below w.heap.size w w') : NoM w' x := by
  rcases h with h | ⟨b, h1, h2, h3⟩
  · exact .inl h
  · exact .inr ⟨b, h1, Nat.lt_of_lt_of_le h2 hb.size, by rw [below_cellJ hb h2]; exact h3⟩

theorem eq_nilM (a : Addr) (w : World) : (binOp .eql 22 (.pointer none) (.pointer (some a))).run Try.prog w = .ok (.bool false) w := by
  simp only [binOp]
  simp only [Op.equal, Op.maxDepth]
  rw [show (10000 : Nat) = 9999 + 1 from rfl, Op.equalIn]
  simp [Sem.run_bind, run_underlying Try.underlying22]

set_option maxHeartbeats 1000000 in
set_option maxRecDepth 100000 in
theorem mmade_no (x : Value) (w : World) (h : NoM w x) : Calls Try.prog 35 #[x] w fun e w' => e = .returned (.bool false) ∧ w = w' := by
  rcases h with rfl | ⟨b, rfl, hb, hc⟩
  · go_enter Try.func35, Try.ntmps35
    go_wp2_with fail
    go_ret
    exact ⟨rfl, rfl⟩
  · have heq := eq_nilM ⟨b, 0, none⟩ w
    go_enter Try.func35, Try.ntmps35
    go_wp2_with fail
    go_ret
    exact ⟨rfl, rfl⟩

set_option maxHeartbeats 1000000 in
set_option maxRecDepth 100000 in
theorem mlen_no (x : Value) (w : World) (h : NoM w x) : Calls Try.prog 15 #[x] w fun e w' => e = .returned (.int .i64 0) ∧ w = w' := by
  have HX : Hid (NoM w x) := h
  clear h
  go_enter Try.func15, Try.ntmps15
  go_wp2_with (go_at_call 35; refine (mmade_no _ _ HX.out).mono ?_; rintro e w1 ⟨rfl, rfl⟩)
  go_ret
  exact ⟨rfl, rfl⟩

set_option maxHeartbeats 1000000 in
set_option maxRecDepth 100000 in
theorem mcheck_no (x : Value) (i : Int) (w : World) (h : NoM w x) : Calls Try.prog 33 #[x, .int .i64 i] w fun e w' => e = .returned (.int .i64 1) ∧ w = w' := by
  have HX : Hid (NoM w x) := h
  clear h
  go_enter Try.func33, Try.ntmps33
  go_wp2_with (go_at_call 35; refine (mmade_no _ _ HX.out).mono ?_; rintro e w1 ⟨rfl, rfl⟩)
  go_ret
  exact ⟨rfl, rfl⟩

set_option maxHeartbeats 1000000 in
set_option maxRecDepth 100000 in
theorem mword_no (x : Value) (i : Int) (w : World) (h : NoM w x) : Calls Try.prog 13 #[x, .int .i64 i] w fun e w' => e = .returned (.tuple #[.string ByteArray.empty, .int .i64 1]) ∧ w = w' := by
  have HX : Hid (NoM w x) := h
  clear h
  go_enter Try.func13, Try.ntmps13
  go_wp2_with (go_at_call 33; refine (mcheck_no _ _ _ HX.out).mono ?_; rintro e w1 ⟨rfl, rfl⟩)
  go_ret2
  exact ⟨rfl, rfl⟩

set_option maxHeartbeats 1000000 in
set_option maxRecDepth 100000 in
theorem mAccept_no (x : Value) (i : Int) (w : World) (h : NoM w x) : Calls Try.prog 20 #[x, .int .i64 i] w fun e w' => e = .returned (.tuple #[.bool false, .int .i64 1]) ∧ w = w' := by
  have HX : Hid (NoM w x) := h
  clear h
  go_enter Try.func20, Try.ntmps20
  go_wp2_with (go_at_call 33; refine (mcheck_no _ _ _ HX.out).mono ?_; rintro e w1 ⟨rfl, rfl⟩)
  go_ret2
  exact ⟨rfl, rfl⟩

set_option maxHeartbeats 1000000 in
set_option maxRecDepth 100000 in
theorem mProduct_no (x : Value) (i j : Int) (w : World) (h : NoM w x) : Calls Try.prog 19 #[x, .int .i64 i, .int .i64 j] w fun e w' => e = .returned (.tuple #[.int .i64 0, .int .i64 1]) ∧ w = w' := by
  have HX : Hid (NoM w x) := h
  clear h
  go_enter Try.func19, Try.ntmps19
  go_wp2_with (go_at_call 33; refine (mcheck_no _ _ _ HX.out).mono ?_; rintro e w1 ⟨rfl, rfl⟩)
  go_ret2
  exact ⟨rfl, rfl⟩

set_option maxHeartbeats 1000000 in
set_option maxRecDepth 100000 in
theorem mcl_no (x : Value) (i c : Int) (w : World) (h : NoM w x) : Calls Try.prog 84 #[x, .int .i64 i, .int .u8 c] w fun e w' => e = .returned (.int .i64 1) ∧ w = w' := by
  have HX : Hid (NoM w x) := h
  clear h
  go_enter Try.func84, Try.ntmps84
  go_wp2_with (go_at_call 33; refine (mcheck_no _ _ _ HX.out).mono ?_; rintro e w1 ⟨rfl, rfl⟩)
  go_ret
  exact ⟨rfl, rfl⟩

set_option maxHeartbeats 1000000 in
set_option maxRecDepth 100000 in
theorem mRight_no (x : Value) (i c : Int) (w : World) (h : NoM w x) : Calls Try.prog 58 #[x, .int .i64 i, .int .u8 c] w fun e w' => e = .returned (.tuple #[.int .i64 0, .int .i64 1]) ∧ w = w' := by
  have HX : Hid (NoM w x) := h
  clear h
  go_enter Try.func58, Try.ntmps58
  go_wp2_with (go_at_call 84; refine (mcl_no _ _ _ _ HX.out).mono ?_; rintro e w1 ⟨rfl, rfl⟩)
  go_ret2
  exact ⟨rfl, rfl⟩

set_option maxHeartbeats 1000000 in
set_option maxRecDepth 100000 in
theorem mAuto_no (x : Value) (w : World) (h : NoM w x) : Calls Try.prog 30 #[x] w fun e w' => e = .returned (.agg #[.int .i64 0, .slice none 0 0, .slice none 0 0]) ∧ Below w.heap.size w w' := by
  have HX : Hid (NoM (w.alloc (.cells #[.int .i64 0, .slice none 0 0, .slice none 0 0] 26)) x) := h.below (below_new _ _)
  have HB : Hid (Below w.heap.size w (w.alloc (.cells #[.int .i64 0, .slice none 0 0, .slice none 0 0] 26))) := below_new _ _
  have HC : Hid ((w.alloc (.cells #[.int .i64 0, .slice none 0 0, .slice none 0 0] 26)).heap[w.heap.size]? = some (.cells #[.int .i64 0, .slice none 0 0, .slice none 0 0] 26 (0, 0))) := heap_last _ _
  clear h
  go_enter Try.func30, Try.ntmps30
  go_wp2_with (go_at_call 35; refine (mmade_no _ _ HX.out).mono ?_; rintro e w1 ⟨rfl, rfl⟩)
  exact bodyPost_ret (results_cell_row rfl _ _ w.heap.size 26 _ (0, 0) _ rfl HC.out Try.underlying26 rfl (by rw [Try.info_au]; rfl)) rfl ⟨rfl, HB.out⟩

end Go.Proofs.Ytneiegbodnalbaa

namespace Go.Proofs.Ytneiegbodnalbaa
open Go Go.RowKit Go.Lib
set_option linter.unusedVariables false

theorem lets_app (u v : ByteArray) : lets (u ++ v) = lets u ++ lets v := by
  unfold lets
  rw [← List.map_append]
  congr 1

theorem chk_app (k : Int) (h1 : 1 ≤ k) (h8 : k ≤ 8) (u v : ByteArray) : chk k (u ++ v) = 0 ↔ chk k u = 0 ∧ chk k v = 0 := by
  unfold chk
  have h : ¬ (k < 1 ∨ 8 < k) := by omega
  rw [if_neg h, if_neg h, if_neg h]
  simp only [ByteArray.data_append, Array.toList_append, List.all_append]
  by_cases a : u.data.toList.all (letterAt k) = true
  · by_cases b : v.data.toList.all (letterAt k) = true
    · simp [a, b]
    · simp [a, b]
  · simp [a]

theorem wb_get (u : List Nat) {i : Nat} (hi : i < (wb u).size) : (wb u)[i] = UInt8.ofNat (97 + u[i]'(by rw [wb_size] at hi; exact hi)) := by
  have hi' : i < ((u.map fun c => UInt8.ofNat (97 + c)).toArray).size := hi
  have : (wb u)[i] = ((u.map fun c => UInt8.ofNat (97 + c)).toArray)[i]'hi' := rfl
  refine this.trans ?_
  rw [List.getElem_toArray, List.getElem_map]

theorem ofNat97 {c : Nat} (h : c < 8) : (UInt8.ofNat (97 + c)).toNat = 97 + c := by
  rw [UInt8.toNat_ofNat']
  exact Nat.mod_eq_of_lt (by omega)

theorem lets_wb {k : Nat} (hk : k ≤ 8) {u : List Nat} (h : Lt k u) : lets (wb u) = u := by
  unfold lets wb
  rw [List.map_map]
  show u.map _ = u
  conv => rhs; rw [← List.map_id u]
  apply List.map_congr_left
  intro c hc
  have := h c hc
  show (UInt8.ofNat (97 + c)).toNat - 97 = c
  rw [ofNat97 (by omega)]
  omega

theorem wb_lts {k : Int} (h1 : 1 ≤ k) (h8 : k ≤ 8) {u : List Nat} (h : Lt k.toNat u) : Lts k (wb u) ∧ chk k (wb u) = 0 := by
  have hL : Lts k (wb u) := by
    intro i hi
    have hm := h (u[i]'(by rw [wb_size] at hi; exact hi)) (List.getElem_mem _)
    rw [wb_get u hi, ofNat97 (by omega)]
    omega
  refine ⟨hL, chk_ok k _ h1 h8 (fun i hi => ?_)⟩
  have := hL i hi
  simp only [letterAt, decide_eq_true_eq]
  omega

theorem Lts.ltn {k : Int} (h1 : 1 ≤ k) {b : ByteArray} (h : Lts k b) : Lt k.toNat (lets b) := fun c hc => by have := h.lt_all c hc; omega

theorem conv_one (y : World) (c z : Nat) (hc : c < 8) (hz : 97 + c = z) : Sem.run Try.prog (convert 144 9 (.slice (some ⟨y.heap.size, 0, none⟩) 1 1)) (y.alloc (.cells #[.int .u8 (z : Int)] 5)) = .ok (.string (wb [c])) (y.alloc (.cells #[.int .u8 (z : Int)] 5)) := by
  subst hz
  refine run_convert_bytes_back _ _ _ 5 ⟨y.heap.size, 0, none⟩ 1 [UInt8.ofNat (97 + c)] Try.underlying144 Try.underlying5 Try.underlying9 ?_
  intro j hj
  obtain rfl : j = 0 := by simp at hj; omega
  have := (RowAt.last y #[.int .u8 ((97 + c : Nat) : Int)] 5).cell 0
  refine this.trans ?_
  show some (Value.int .u8 ((97 + c : Nat) : Int)) = some (Value.int .u8 ((UInt8.ofNat (97 + c)).toNat : Int))
  rw [ofNat97 hc]

theorem mr_first (K : Nat) (N : List Nat) (c : Nat) : mr K N 0 [c] = N.getD c 0 := by rw [mr_one, Nat.zero_mul, Nat.zero_add]

end Go.Proofs.Ytneiegbodnalbaa

namespace Go.Proofs.Ytneiegbodnalbaa
open Go Go.RowKit Go.Lib Go.Maps
set_option linter.unusedVariables false
attribute [-instance] List.instBEq instBEqProd

set_option maxHeartbeats 1000000 in
set_option maxRecDepth 100000 in
theorem maccept_ok {w : World} {ob : Nat} {A : Aut} {M : List (List Nat)} {N : List Nat} (h : MO w ob A M N) (i : Nat) (hi : i < M.length) : Calls Try.prog 20 #[.pointer (some ⟨ob, 0, none⟩), .int .i64 i] w fun e w' => e = .returned (.tuple #[.bool (acc A M i), .int .i64 0]) ∧ w = w' := by
  have H : Hid (MO w ob A M N) := h
  obtain ⟨base, bt, b, mb, gw, ga, R, n, a, c, d, vl, D, an, cn, aa, ca, h⟩ := h
  have hnm := h.num
  have hms := h.mon.most
  have c6 : w.cell? ⟨ob, 6, none⟩ = some (.slice (some ⟨ga, 0, none⟩) n n) := cell_at h.box rfl
  have hw := h.bp.cell (j := i) (by omega)
  obtain ⟨q, hq⟩ : ∃ q, acc A M i = q := ⟨_, rfl⟩
  rw [hq] at hw ⊢
  have hiI : (i : Int) < n := by omega
  have HCI : Hid (mck M.length i = 0) := by show mck _ _ = 0; unfold mck; rw [if_pos ⟨by omega, by omega⟩]
  clear h hnm hms hq
  go_enter Try.func20, Try.ntmps20
  go_wp2_with fail
  refine (mcheck_any H.out i).mono ?_
  rintro e w1 ⟨rfl, rfl⟩
  rw [HCI.out]
  go_wp2_with fail
  go_ret2
  exact ⟨rfl, rfl⟩

end Go.Proofs.Ytneiegbodnalbaa

namespace Go.Proofs.Ytneiegbodnalbaa
set_option linter.unusedVariables false

/-- First places rise. -/
theorem Mon.first {A : Aut} {M : List (List Nat)} {N : List Nat} (h : Mon A M N) {j : Nat} (h0 : 0 < j) (hj : j < M.length) : N[N.idxOf j]? = some j ∧ N.idxOf j / A.k.toNat < j ∧ ∀ q i, q < N.idxOf j → N[q]? = some i → i < j := by
  obtain ⟨p, hp, hq, hr⟩ := h.bi.fresh j h0 hj
  have e := idxOf_first hp (fun q hqp e => by have := hr q j hqp e; omega)
  rw [e]
  exact ⟨hp, hq, hr⟩
theorem slt_trans {u v w : List Nat} (h : slt u v) (g : slt v w) : slt u w := by
  refine ⟨sle_trans h.1 g.1, fun e => ?_⟩
  subst e
  exact h.2 (sle_anti h.1 g.1)
theorem slt_le {u v w : List Nat} (h : slt u v) (g : sle v w) : slt u w := by
  refine ⟨sle_trans h.1 g, fun e => ?_⟩
  subst e
  exact h.2 (sle_anti h.1 g)
theorem Mon.rise {A : Aut} {M : List (List Nat)} {N : List Nat} (h : Mon A M N) : ∀ j, j < M.length → ∀ i, i < j → slt (Go.Proofs.Ytneiegbodnalbaa.lw A.k.toNat N i) (Go.Proofs.Ytneiegbodnalbaa.lw A.k.toNat N j) := by
  intro j
  induction j using Nat.strongRecOn with
  | _ j ih =>
    intro hj i hij
    obtain ⟨a1, a2, a3⟩ := h.first (by omega) hj
    rw [lw_step h.fst (s := j) (by omega) hj]
    by_cases e : i = 0
    · subst e
      rw [lw_zero]
      exact slt_nil _ _
    · obtain ⟨b1, b2, b3⟩ := h.first (j := i) (by omega) (by omega)
      have hlt : N.idxOf i < N.idxOf j := by
        by_cases q : N.idxOf i < N.idxOf j
        · exact q
        · by_cases q2 : N.idxOf i = N.idxOf j
          · rw [q2, a1] at b1; simp at b1; omega
          · have := b3 _ _ (show N.idxOf j < N.idxOf i by omega) a1
            omega
      rw [lw_step h.fst (s := i) (by omega) (by omega)]
      have hd : N.idxOf i / A.k.toNat ≤ N.idxOf j / A.k.toNat := Nat.div_le_div_right (Nat.le_of_lt hlt)
      by_cases c : N.idxOf i / A.k.toNat = N.idxOf j / A.k.toNat
      · rw [c]
        apply slt_letter
        have e1 := Nat.div_add_mod (N.idxOf i) A.k.toNat
        have e2 := Nat.div_add_mod (N.idxOf j) A.k.toNat
        rw [c] at e1
        omega
      · exact slt_snoc (ih _ a2 (by omega) _ (by omega)) _ _
/-- A letter behind an element: no later word. -/
theorem Mon.step_le {A : Aut} {M : List (List Nat)} {N : List Nat} (h : Mon A M N) {x c : Nat} (hx : x < M.length) (hc : c < A.k.toNat) : sle (Go.Proofs.Ytneiegbodnalbaa.lw A.k.toNat N (N.getD (x * A.k.toNat + c) 0)) (Go.Proofs.Ytneiegbodnalbaa.lw A.k.toNat N x ++ [c]) := by
  obtain ⟨l, _, h2, hp⟩ := h.at hx hc
  obtain ⟨j, hj⟩ : ∃ j, N.getD (x * A.k.toNat + c) 0 = j := ⟨_, rfl⟩
  rw [hj] at h2 ⊢
  have hjl := (List.getElem?_eq_some_iff.1 h2).1
  by_cases e : j = 0
  · subst e; rw [lw_zero]; exact sle_nil _
  · obtain ⟨a1, a2, a3⟩ := h.first (j := j) (by omega) hjl
    have hle : N.idxOf j ≤ x * A.k.toNat + c := by
      by_cases q : N.idxOf j ≤ x * A.k.toNat + c
      · exact q
      · have hn : N[x * A.k.toNat + c]? = some j := by rw [← hj, List.getElem?_eq_getElem hp, getD_of (List.getElem?_eq_getElem hp)]
        have := a3 _ _ (by omega) hn
        omega
    rw [lw_step h.fst (s := j) (by omega) hjl]
    have e1 : (x * A.k.toNat + c) / A.k.toNat = x := by rw [Nat.mul_comm, Nat.mul_add_div (by omega), Nat.div_eq_of_lt hc]; rfl
    have e2 : (x * A.k.toNat + c) % A.k.toNat = c := by rw [Nat.mul_comm, Nat.mul_add_mod, Nat.mod_eq_of_lt hc]
    have hd : N.idxOf j / A.k.toNat ≤ x := by rw [← e1]; exact Nat.div_le_div_right hle
    by_cases q : N.idxOf j / A.k.toNat = x
    · rw [q]
      have e3 := Nat.div_add_mod (N.idxOf j) A.k.toNat
      rw [q] at e3
      by_cases q2 : N.idxOf j % A.k.toNat = c
      · rw [q2]; exact sle_refl _
      · refine (slt_letter _ ?_).1
        have : A.k.toNat * x = x * A.k.toNat := Nat.mul_comm _ _
        omega
    · exact (slt_snoc (h.rise x hx _ (by omega)) _ _).1
theorem snoc_ind {p : List Nat → Prop} (h0 : p []) (h1 : ∀ u c, p u → p (u ++ [c])) : ∀ u, p u := by
  intro u
  have : ∀ n u, u.length = n → p u := by
    intro n
    induction n with
    | zero => intro u hu; rw [List.length_eq_zero_iff.1 hu]; exact h0
    | succ n ih =>
      intro u hu
      have hne : u ≠ [] := by intro e; rw [e] at hu; simp at hu
      rw [← List.dropLast_concat_getLast hne]
      exact h1 _ _ (ih _ (by simp; omega))
  exact this _ u rfl
/-- No word ahead of an element's least word has that element. -/
theorem Mon.least {A : Aut} {M : List (List Nat)} {N : List Nat} (h : Mon A M N) : ∀ u, Lt A.k.toNat u → sle (Go.Proofs.Ytneiegbodnalbaa.lw A.k.toNat N (mr A.k.toNat N 0 u)) u := by
  apply snoc_ind
  · intro _
    rw [mr_nil, lw_zero]
    exact sle_refl _
  · intro u c ih hu
    have := ih hu.left
    rw [mr_app, mr_one]
    exact sle_trans (h.step_le (h.lt hu.left h.pos) (hu.right c (by simp))) (sle_app this _)
theorem lxl_pre (a : List Nat) : ∀ {u v : List Nat}, lxl u v → lxl (a ++ u) (a ++ v) := by
  intro u v h
  exact lxl_app u v rfl (lxl_refl a) (fun _ => h)
theorem sle_pre (a : List Nat) {u v : List Nat} (h : sle u v) : sle (a ++ u) (a ++ v) := by
  rcases h with h | ⟨h, g⟩
  · exact .inl (by simp; omega)
  · exact .inr ⟨by simp; omega, lxl_pre a g⟩
/-- Pieces of least words are least words. -/
theorem Mon.piece {A : Aut} {M : List (List Nat)} {N : List Nat} (h : Mon A M N) {x : Nat} (hx : x < M.length) {a b c : List Nat} (e : Go.Proofs.Ytneiegbodnalbaa.lw A.k.toNat N x = a ++ b ++ c) : Go.Proofs.Ytneiegbodnalbaa.lw A.k.toNat N (mr A.k.toNat N 0 b) = b := by
  obtain ⟨hl, hw⟩ := h.lw x hx
  rw [e] at hl hw
  have hb : Lt A.k.toNat b := hl.left.right
  have hv := h.least b hb
  obtain ⟨hvl, hvw⟩ := h.lw _ (h.lt hb h.pos)
  obtain ⟨v, hvE⟩ : ∃ v, Go.Proofs.Ytneiegbodnalbaa.lw A.k.toNat N (mr A.k.toNat N 0 b) = v := ⟨_, rfl⟩
  rw [hvE] at hv hvl hvw ⊢
  have hs : mr A.k.toNat N 0 (a ++ v ++ c) = x := by
    rw [mr_app, mr_app, ← hw, mr_app, mr_app]
    congr 1
    rw [← h.mr_pr (h.lt hl.left.left h.pos) hvl, ← h.mr_pr (h.lt hl.left.left h.pos) hb, hvw]
  have h1 := h.least (a ++ v ++ c) ((hl.left.left.app hvl).app hl.right)
  rw [hs, e] at h1
  have h2 : sle (a ++ v ++ c) (a ++ b ++ c) := sle_app (sle_pre a hv) c
  have := sle_anti h2 h1
  rw [List.append_left_inj, List.append_right_inj] at this
  exact this
end Go.Proofs.Ytneiegbodnalbaa

namespace Go.Proofs.Ytneiegbodnalbaa
set_option linter.unusedVariables false

theorem least_of {p : Nat → Prop} (h : ∃ n, p n) : ∃ n, p n ∧ ∀ m, m < n → ¬ p m := by
  obtain ⟨n, hn⟩ := h
  induction n using Nat.strongRecOn with
  | _ n ih =>
    by_cases c : ∃ m, m < n ∧ p m
    · obtain ⟨m, hm, hp⟩ := c
      exact ih m hm hp
    · exact ⟨n, hn, fun m hm hp => c ⟨m, hm, hp⟩⟩

/-- Each point has its tail and its ring. -/
theorem tr_ex {f : Nat → Nat} {n i : Nat} (h : ∀ i, i < n → f i < n) (hi : i < n) : ∃ t r, TR f i t r := by
  have h1 : ∃ b, ∃ a, a < b ∧ orb f i a = orb f i b := by
    apply Classical.byContradiction
    intro hc
    have := nodup_le n ((List.range (n + 1)).map (orb f i)) (map_nodup (fun a b hab hb e => hc ⟨b, a, hab, e⟩)) (fun x hx => by
      obtain ⟨k, _, rfl⟩ := List.mem_map.1 hx
      exact orb_lt h hi k)
    simp at this
    omega
  obtain ⟨b, ⟨a, hab, e⟩, hm⟩ := least_of h1
  refine ⟨a, b - a, ?_, ?_, by omega⟩
  · intro c d hcd hd q
    exact hm d (by omega) ⟨c, hcd, q⟩
  · rw [show a + (b - a) = b by omega, e]

/-- Multiplying by i from the right. -/
def rm (K : Nat) (N : List Nat) (i : Nat) : Nat → Nat := fun x => pr K N x i

/-- The power n of i. -/
def pwN (K : Nat) (N : List Nat) (i n : Nat) : Nat := orb (rm K N i) 0 n

theorem pwN_zero (K : Nat) (N : List Nat) (i : Nat) : pwN K N i 0 = 0 := rfl

theorem pwN_succ (K : Nat) (N : List Nat) (i n : Nat) : pwN K N i (n + 1) = pr K N (pwN K N i n) i := rfl

theorem Mon.rm_lt {A : Aut} {M : List (List Nat)} {N : List Nat} (h : Mon A M N) {i : Nat} (hi : i < M.length) : ∀ x, x < M.length → rm A.k.toNat N i x < M.length := fun x hx => h.pr_lt hx hi

theorem Mon.pw_lt {A : Aut} {M : List (List Nat)} {N : List Nat} (h : Mon A M N) {i : Nat} (hi : i < M.length) (n : Nat) : pwN A.k.toNat N i n < M.length := orb_lt (h.rm_lt hi) h.pos n

theorem Mon.pw_one {A : Aut} {M : List (List Nat)} {N : List Nat} (h : Mon A M N) {i : Nat} (hi : i < M.length) : pwN A.k.toNat N i 1 = i := h.one_pr hi

theorem Mon.pw_add {A : Aut} {M : List (List Nat)} {N : List Nat} (h : Mon A M N) {i : Nat} (hi : i < M.length) (a : Nat) : ∀ b, pwN A.k.toNat N i (a + b) = Go.Proofs.Ytneiegbodnalbaa.pr A.k.toNat N (pwN A.k.toNat N i a) (pwN A.k.toNat N i b)
  | 0 => rfl
  | b + 1 => by rw [← Nat.add_assoc, pwN_succ, h.pw_add hi a b, h.assoc (h.pw_lt hi a) (h.pw_lt hi b) hi, pwN_succ]

theorem Mon.pw_mul {A : Aut} {M : List (List Nat)} {N : List Nat} (h : Mon A M N) {i : Nat} (hi : i < M.length) (a : Nat) : ∀ b, pwN A.k.toNat N (pwN A.k.toNat N i a) b = pwN A.k.toNat N i (a * b)
  | 0 => rfl
  | b + 1 => by rw [pwN_succ, h.pw_mul hi a b, Nat.mul_succ, h.pw_add hi]

theorem Mon.pw_idem {A : Aut} {M : List (List Nat)} {N : List Nat} (h : Mon A M N) {x : Nat} (hx : x < M.length) (e : Go.Proofs.Ytneiegbodnalbaa.pr A.k.toNat N x x = x) : ∀ n, 1 ≤ n → pwN A.k.toNat N x n = x
  | 0, h0 => by omega
  | 1, _ => h.pw_one hx
  | n + 2, _ => by rw [pwN_succ, h.pw_idem hx e (n + 1) (by omega), e]

/-- w is the idempotent among i's powers. -/
def OmQ (K : Nat) (N : List Nat) (i w : Nat) : Prop := ∃ n, 1 ≤ n ∧ pwN K N i n = w ∧ pr K N w w = w

theorem Mon.om_uniq {A : Aut} {M : List (List Nat)} {N : List Nat} (h : Mon A M N) {i : Nat} (hi : i < M.length) {x y : Nat} (hx : OmQ A.k.toNat N i x) (hy : OmQ A.k.toNat N i y) : x = y := by
  obtain ⟨n, n1, rfl, hn⟩ := hx
  obtain ⟨m, m1, rfl, hm⟩ := hy
  rw [← h.pw_idem (h.pw_lt hi n) hn m m1, ← h.pw_idem (h.pw_lt hi m) hm n n1, h.pw_mul hi, h.pw_mul hi, Nat.mul_comm]

theorem Mon.om_lt {A : Aut} {M : List (List Nat)} {N : List Nat} (h : Mon A M N) {i : Nat} (hi : i < M.length) {x : Nat} (hx : OmQ A.k.toNat N i x) : x < M.length := by
  obtain ⟨n, _, rfl, _⟩ := hx
  exact h.pw_lt hi n

/-- A power is idempotent just from the index on, at multiples of the period. -/
theorem Mon.idem_iff {A : Aut} {M : List (List Nat)} {N : List Nat} (h : Mon A M N) {i : Nat} (hi : i < M.length) {t r : Nat} (R : TR (rm A.k.toNat N i) 0 t r) (n : Nat) (hn : 1 ≤ n) : Go.Proofs.Ytneiegbodnalbaa.pr A.k.toNat N (pwN A.k.toNat N i n) (pwN A.k.toNat N i n) = pwN A.k.toNat N i n ↔ t ≤ n ∧ r ∣ n := by
  rw [← h.pw_add hi]
  exact R.iff n n hn

theorem Mon.om_ex {A : Aut} {M : List (List Nat)} {N : List Nat} (h : Mon A M N) {i : Nat} (hi : i < M.length) : ∃ n, 1 ≤ n ∧ n ≤ M.length ∧ Go.Proofs.Ytneiegbodnalbaa.pr A.k.toNat N (pwN A.k.toNat N i n) (pwN A.k.toNat N i n) = pwN A.k.toNat N i n := by
  obtain ⟨t, r, R⟩ := tr_ex (h.rm_lt hi) h.pos
  have hle := R.le (h.rm_lt hi) h.pos
  have hr := R.pos
  by_cases ht : t = 0
  · exact ⟨r, hr, by omega, (h.idem_iff hi R r hr).2 ⟨by omega, Nat.dvd_refl _⟩⟩
  · have e := Nat.mod_add_div (t + r - 1) r
    have hm := Nat.mod_lt (t + r - 1) hr
    refine ⟨r * ((t + r - 1) / r), by omega, by omega, (h.idem_iff hi R _ (by omega)).2 ⟨by omega, Nat.dvd_mul_right _ _⟩⟩

/-- Powers of products, turned about. -/
theorem Mon.pw_turn {A : Aut} {M : List (List Nat)} {N : List Nat} (h : Mon A M N) {i j : Nat} (hi : i < M.length) (hj : j < M.length) : ∀ n, pwN A.k.toNat N (Go.Proofs.Ytneiegbodnalbaa.pr A.k.toNat N i j) (n + 1) = Go.Proofs.Ytneiegbodnalbaa.pr A.k.toNat N (Go.Proofs.Ytneiegbodnalbaa.pr A.k.toNat N i (pwN A.k.toNat N (Go.Proofs.Ytneiegbodnalbaa.pr A.k.toNat N j i) n)) j
  | 0 => by rw [h.pw_one (h.pr_lt hi hj)]; rfl
  | n + 1 => by
    have hji := h.pr_lt hj hi
    have hp := h.pw_lt hji n
    rw [pwN_succ, h.pw_turn hi hj n, pwN_succ, h.assoc (h.pr_lt hi hp) hj (h.pr_lt hi hj), ← h.assoc hj hi hj, ← h.assoc (h.pr_lt hi hp) hji hj, ← h.assoc hi hp hji]

theorem Mon.per_dvd {A : Aut} {M : List (List Nat)} {N : List Nat} (h : Mon A M N) {i j : Nat} (hi : i < M.length) (hj : j < M.length) {t r t' r' : Nat} (R : TR (rm A.k.toNat N (Go.Proofs.Ytneiegbodnalbaa.pr A.k.toNat N i j)) 0 t r) (R' : TR (rm A.k.toNat N (Go.Proofs.Ytneiegbodnalbaa.pr A.k.toNat N j i)) 0 t' r') : r ∣ r' := by
  have e : pwN A.k.toNat N (Go.Proofs.Ytneiegbodnalbaa.pr A.k.toNat N i j) (t' + 1 + r') = pwN A.k.toNat N (Go.Proofs.Ytneiegbodnalbaa.pr A.k.toNat N i j) (t' + 1) := by
    rw [show t' + 1 + r' = (t' + r') + 1 by omega, h.pw_turn hi hj, h.pw_turn hi hj]
    have : pwN A.k.toNat N (Go.Proofs.Ytneiegbodnalbaa.pr A.k.toNat N j i) (t' + r') = pwN A.k.toNat N (Go.Proofs.Ytneiegbodnalbaa.pr A.k.toNat N j i) t' := R'.back
    rw [this]
  exact ((R.iff _ _ R'.pos).1 e).2

theorem Mon.per_same {A : Aut} {M : List (List Nat)} {N : List Nat} (h : Mon A M N) {i j : Nat} (hi : i < M.length) (hj : j < M.length) {t r t' r' : Nat} (R : TR (rm A.k.toNat N (Go.Proofs.Ytneiegbodnalbaa.pr A.k.toNat N i j)) 0 t r) (R' : TR (rm A.k.toNat N (Go.Proofs.Ytneiegbodnalbaa.pr A.k.toNat N j i)) 0 t' r') : r = r' :=
  Nat.dvd_antisymm (h.per_dvd hi hj R R') (h.per_dvd hj hi R' R)

end Go.Proofs.Ytneiegbodnalbaa

namespace Go.Proofs.Ytneiegbodnalbaa
set_option linter.unusedVariables false

/-- Is it an element? -/
def hasE (n : Nat) (i : Int) : Bool := decide (0 ≤ i ∧ i < n)
end Go.Proofs.Ytneiegbodnalbaa

namespace Go.Proofs.Ytneiegbodnalbaa
open Go Go.RowKit Go.Lib Go.Maps
set_option linter.unusedVariables false
attribute [-instance] List.instBEq instBEqProd

theorem SR.nat {w : World} {a : Option Addr} {xs : List Nat} (h : SR w a (nC xs)) {i : Nat} (hi : i < xs.length) : ∃ g o, a = some ⟨g, o, none⟩ ∧ g < w.heap.size ∧ w.cell? ⟨g, o + i, none⟩ = some (.int .i64 ((xs.getD i 0 : Nat) : Int)) :=
  h i _ (by simp [nC, hi, List.getD_eq_getElem?_getD])

/-- The product of elements one behind the other. -/
def prL (K : Nat) (N : List Nat) (L : List Nat) : Nat := L.foldl (pr K N) 0

theorem Mon.prL_lt {A : Aut} {M : List (List Nat)} {N : List Nat} (h : Mon A M N) {L : List Nat} (hL : ∀ x ∈ L, x < M.length) : prL A.k.toNat N L < M.length := by
  unfold prL
  have : ∀ (L : List Nat) (o : Nat), o < M.length → (∀ x ∈ L, x < M.length) → L.foldl (Go.Proofs.Ytneiegbodnalbaa.pr A.k.toNat N) o < M.length := by
    intro L
    induction L with
    | nil => intro o ho _; exact ho
    | cons y L ih => intro o ho hL; exact ih _ (h.pr_lt ho (hL y (by simp))) (fun x hx => hL x (by simp [hx]))
  exact this L 0 h.pos hL

theorem sr_new (w : World) (cs : List Nat) (t : Nat) : SR (w.alloc (.cells (nC cs).toArray t)) (some ⟨w.heap.size, 0, none⟩) (nC cs) := by
  intro i u hu
  refine ⟨_, _, rfl, by simp, ?_⟩
  rw [Nat.zero_add, cell_of_row _ _ _ _ _ _ (heap_last w _)]
  simpa using hu

theorem MO.mon {w : World} {ob : Nat} {A : Aut} {M : List (List Nat)} {N : List Nat} (h : MO w ob A M N) : Mon A M N := by
  obtain ⟨_, _, _, _, _, _, _, _, _, _, _, _, _, _, _, _, _, q⟩ := h
  exact q.mon

/-- Is it idempotent? -/
def idE (K : Nat) (N : List Nat) (i : Nat) : Bool := decide (pr K N i i = i)

/-- What check answers of some numbers. -/
def ick (n : Nat) (L : List Int) : Int := if L.all (hasE n) then 0 else 11

theorem sr_newZ (w : World) (cs : List Int) (t : Nat) : SR (w.alloc (.cells (zC cs).toArray t)) (some ⟨w.heap.size, 0, none⟩) (zC cs) := by
  intro i u hu
  refine ⟨_, _, rfl, by simp, ?_⟩
  rw [Nat.zero_add, cell_of_row _ _ _ _ _ _ (heap_last w _)]
  simpa using hu

end Go.Proofs.Ytneiegbodnalbaa

namespace Go.Proofs.Ytneiegbodnalbaa
open Go
set_option linter.unusedVariables false

section
variable {P : Program} {ops : Array Oper} {Q : Exit → Act → World → Prop} {md : Region.Mode} {S : World → Prop} {z : Nat}

/-- Whatever order is picked, and S holds behind each operation but z. -/
def wpAnyL (P : Program) (md : Region.Mode) (ops : Array Oper) (Q : Exit → Act → World → Prop) (S : World → Prop) (z : Nat) : Nat → Array Bool → Act → World → Prop
  | 0, listed, a, w => Region.ready md ops listed = [] ∧ Q .normal a w
  | fuel + 1, listed, a, w =>
    (Region.ready md ops listed = [] → Q .normal a w) ∧
    ∀ i ∈ Region.ready md ops listed, wpOp P ops Q i (fun a' w' => (i ≠ z → S w') ∧ wpAnyL P md ops Q S z fuel (listed.setIfInBounds i true) a' w') a w

theorem wpAny_of_L : ∀ (fuel : Nat) (listed : Array Bool) (a : Act) (w : World), wpAnyL P md ops Q S z fuel listed a w → wpAny P md ops Q fuel listed a w
  | 0, _, _, _, h => h
  | fuel + 1, _, _, _, h => ⟨h.1, fun i hi => wpOp_mono (fun a' w' h' => wpAny_of_L fuel _ a' w' h'.2) (h.2 i hi)⟩

/-- What has come up waits for nothing that has not. -/
def Cl (md : Region.Mode) (ops : Array Oper) (listed : Array Bool) : Prop := ∀ (j : Nat) (o : Oper), ops[j]? = some o → listed.getD j true = true → ∀ e ∈ o.after, Region.binds md e = true → listed.getD e.on false = true

def closedB (md : Region.Mode) (ops : Array Oper) (listed : Array Bool) : Bool := (List.range ops.size).all fun j => match ops[j]? with
  | some o => !(listed.getD j true) || o.after.all fun e => !(Region.binds md e) || listed.getD e.on false
  | none => true

theorem closed_spec {listed : Array Bool} (h : closedB md ops listed = true) : Cl md ops listed := by
  intro j o ho hl e he hb
  unfold closedB at h
  rw [List.all_eq_true] at h
  have := h j (List.mem_range.2 (Array.getElem?_eq_some_iff.1 ho).1)
  rw [ho] at this
  simp only [hl, Bool.not_true, Bool.false_or, Array.all_eq_true_iff_forall_mem] at this
  have := this e he
  rw [hb] at this
  simpa using this

/-- All others lead to z. -/
def chainB (md : Region.Mode) (ops : Array Oper) (z : Nat) : Bool := decide (z + 1 = ops.size) && (List.range z).all fun i => (List.range ops.size).any fun k => decide (i < k) && (match ops[k]? with
  | some o => o.after.any fun e => Region.binds md e && decide (e.on = i)
  | none => false)

theorem getD_tf {listed : Array Bool} {i : Nat} (h : listed.getD i false = true) : listed.getD i true = true := by
  unfold Array.getD at *
  split at h
  · rename_i hl
    rw [dif_pos hl]
    exact h
  · cases h

theorem all_listed {listed : Array Bool} (hC : chainB md ops z = true) (hcl : Cl md ops listed) (hz : z ∈ Region.ready md ops listed) : ∀ n i, z ≤ i + n → i < z → listed.getD i true = true := by
  unfold chainB at hC
  rw [Bool.and_eq_true, decide_eq_true_iff, List.all_eq_true] at hC
  obtain ⟨_, oz, hoz, haz⟩ := mem_ready.1 hz
  intro n
  induction n with
  | zero => intro i h1 h2; omega
  | succ n ih =>
    intro i h1 h2
    have := hC.2 i (List.mem_range.2 h2)
    rw [List.any_eq_true] at this
    obtain ⟨k, hk, hk2⟩ := this
    rw [List.mem_range] at hk
    rw [Bool.and_eq_true, decide_eq_true_iff] at hk2
    obtain ⟨hik, hk3⟩ := hk2
    cases ho : ops[k]? with
    | none => rw [ho] at hk3; cases hk3
    | some o =>
      rw [ho] at hk3
      simp only [Array.any_eq_true'] at hk3
      obtain ⟨e, he, hk4⟩ := hk3
      rw [Bool.and_eq_true, decide_eq_true_iff] at hk4
      obtain ⟨hb, rfl⟩ := hk4
      by_cases hkz : k = z
      · subst hkz
        rw [hoz, Option.some.injEq] at ho
        subst ho
        exact getD_tf (haz e he hb)
      · have := ih k (by omega) (by omega)
        exact getD_tf (hcl k o ho this e he hb)

theorem cl_step {listed : Array Bool} {j : Nat} (hcl : Cl md ops listed) (hj : j ∈ Region.ready md ops listed) : Cl md ops (listed.setIfInBounds j true) := by
  obtain ⟨_, oj, hoj, haj⟩ := mem_ready.1 hj
  have up : ∀ i, listed.getD i false = true → (listed.setIfInBounds j true).getD i false = true := fun i hi => by
    by_cases e : j = i
    · subst e
      unfold Array.getD at *
      split at hi
      · rename_i hl
        rw [dif_pos (by simpa using hl)]
        simp
      · cases hi
    · rw [getD_set_ne false e]; exact hi
  intro k o ho hl e he hb
  by_cases c : j = k
  · subst c
    rw [hoj, Option.some.injEq] at ho
    subst ho
    exact up _ (haj e he hb)
  · rw [getD_set_ne true c] at hl
    exact up _ (hcl k o ho hl e he hb)

theorem wpAnyL_first {i : Nat} {oi : Oper} {v : Value} (hC : chainB md ops z = true) (hiz : i < z) (hi : ops[i]? = some oi) (hsel : ∀ (j : Nat) (o : Oper) cs b, ops[j]? = some o → o.op ≠ .select cs b)
    (hQ : ∀ c a w, Q (.panic c) (a.put oi.dst v) w → Q (.panic c) a w) :
    ∀ (fuel : Nat) (listed : Array Bool) (a : Act) (w : World), Cl md ops listed →
      (∀ j oj, ops[j]? = some oj → j ≠ i → listed.getD j true = false → (∀ e ∈ oj.after, Region.binds md e = true → e.on ≠ i) → oi.apart ops oj = true) →
      i ∈ Region.ready md ops listed → YieldsIf P ops S oi v a → S w →
      wpAnyL P md ops Q S z fuel (listed.setIfInBounds i true) (a.put oi.dst v) w → wpAnyL P md ops Q S z (fuel + 1) listed a w := by
  intro fuel
  induction fuel with
  | zero =>
    intro listed a w hcl _ hr hy hS H
    refine ⟨fun h => (by rw [h] at hr; cases hr), fun j hj => ?_⟩
    by_cases hji : j = i
    · subst hji; exact hy.wpOp hi hS ⟨fun _ => hS, H⟩
    · have := ready_mono hj hji
      rw [H.1] at this
      cases this
  | succ fuel ih =>
    intro listed a w hcl hfree hr hy hS H
    refine ⟨fun h => (by rw [h] at hr; cases hr), fun j hj => ?_⟩
    by_cases hji : j = i
    · subst hji; exact hy.wpOp hi hS ⟨fun _ => hS, H⟩
    · have hjz : j ≠ z := fun e => by
        subst e
        have h1 := all_listed hC hcl hj j i (by omega) hiz
        rw [(mem_ready.1 hr).1] at h1
        cases h1
      have h1 := H.2 j (ready_mono hj hji)
      obtain ⟨hjun, oj, hoj, hall⟩ := mem_ready.1 hj
      have hnot : ∀ e ∈ oj.after, Region.binds md e = true → e.on ≠ i := fun e he hb heq => by
        have h1 := hall e he hb
        have h0 := (mem_ready.1 hr).1
        rw [heq] at h1
        rw [getD_tf h1] at h0
        cases h0
      have h2 := wpOp_putIf hoj (hfree j oj hoj hji hjun hnot) (fun cs b => hsel i oi cs b hi) (fun cs b => hsel j oj cs b hoj) hQ hy h1
      have hfree' : ∀ k ok, ops[k]? = some ok → k ≠ i → (listed.setIfInBounds j true).getD k true = false →
          (∀ e ∈ ok.after, Region.binds md e = true → e.on ≠ i) → oi.apart ops ok = true := fun k ok hk hki hun hno => by
        refine hfree k ok hk hki ?_ hno
        by_cases hjk : j = k
        · subst hjk; exact hjun
        · rw [getD_set_ne true hjk] at hun; exact hun
      refine wpOp_mono (fun a' w' h3 => ⟨h3.2.1, ih (listed.setIfInBounds j true) a' w' (cl_step hcl hj) hfree' (ready_mono hr (Ne.symm hji)) h3.1 (h3.2.1 hjz) ?_⟩) h2
      rw [Array.setIfInBounds_comm _ _ hji]
      exact h3.2.2

theorem wpAnyL_take {i : Nat} {oi : Oper} {v : Value} {fuel : Nat} {listed : Array Bool} {a : Act} {w : World} (hi : ops[i]? = some oi)
    (hC : chainB md ops z = true) (hcl : closedB md ops listed = true) (hiz : decide (i < z) = true)
    (hs : Region.noSelect ops = true) (hf : Region.free md ops listed i = true) (hr : (Region.ready md ops listed).contains i = true)
    (hQ : ∀ c a w, Q (.panic c) (a.put oi.dst v) w → Q (.panic c) a w) (hy : YieldsIf P ops S oi v a) (hS : S w)
    (h : wpAnyL P md ops Q S z fuel (listed.setIfInBounds i true) (a.put oi.dst v) w) : wpAnyL P md ops Q S z (fuel + 1) listed a w :=
  wpAnyL_first hC (of_decide_eq_true hiz) hi (Region.noSelect_spec hs) hQ fuel listed a w (closed_spec hcl) (Region.free_spec hi hf) (by simpa using hr) hy hS h

def AllReadyL (P : Program) (md : Region.Mode) (ops : Array Oper) (Q : Exit → Act → World → Prop) (S : World → Prop) (z fuel : Nat) (listed : Array Bool) (a : Act) (w : World) (rs : List Nat) : Prop :=
  ∀ i ∈ rs, wpOp P ops Q i (fun a' w' => (i ≠ z → S w') ∧ wpAnyL P md ops Q S z fuel (listed.setIfInBounds i true) a' w') a w

theorem AllReadyL.nil {fuel : Nat} {listed : Array Bool} {a : Act} {w : World} : AllReadyL P md ops Q S z fuel listed a w [] := fun _ h => by cases h

theorem AllReadyL.cons {fuel : Nat} {listed : Array Bool} {a : Act} {w : World} {i : Nat} {o : Oper} {rs : List Nat} (ho : ops[i]? = some o)
    (h : ∀ K' : Act → World → Prop, Shut (∀ a w, S w → (S w → wpAnyL P md ops Q S z fuel (listed.setIfInBounds i true) a w) → K' a w) → if Region.wanted o (yielded ops a.tmps) = true then Oper.wp P o a w K' Q else K' (a.put o.dst undef) w)
    (hs : AllReadyL P md ops Q S z fuel listed a w rs) : AllReadyL P md ops Q S z fuel listed a w (i :: rs) := fun j hj => by
  rcases List.mem_cons.1 hj with rfl | hj
  · exact wpOp_step ho (fun K' hK => h K' (fun a w hS hW => hK a w ⟨fun _ => hS, hW hS⟩))
  · exact hs j hj

/-- The last operation comes up: nothing is asked of the world behind it. -/
theorem AllReadyL.last {fuel : Nat} {listed : Array Bool} {a : Act} {w : World} {o : Oper} (ho : ops[z]? = some o)
    (h : ∀ K' : Act → World → Prop, Shut (∀ a w, wpAnyL P md ops Q S z fuel (listed.setIfInBounds z true) a w → K' a w) → if Region.wanted o (yielded ops a.tmps) = true then Oper.wp P o a w K' Q else K' (a.put o.dst undef) w) : AllReadyL P md ops Q S z fuel listed a w [z] := fun j hj => by
  rcases List.mem_cons.1 hj with rfl | hj
  · exact wpOp_step ho (fun K' hK => h K' (fun a w hW => hK a w ⟨fun q => absurd rfl q, hW⟩))
  · cases hj

theorem wpAnyL_ready {rs : List Nat} {fuel : Nat} {listed : Array Bool} {a : Act} {w : World} (hr : Region.ready md ops listed = rs) (hne : rs ≠ [])
    (h : AllReadyL P md ops Q S z fuel listed a w rs) : wpAnyL P md ops Q S z (fuel + 1) listed a w := ⟨fun h0 => absurd (hr ▸ h0) hne, hr ▸ h⟩

theorem wpAnyL_done {listed : Array Bool} {a : Act} {w : World} (hr : Region.ready md ops listed = []) (h : Q .normal a w) : ∀ fuel, wpAnyL P md ops Q S z fuel listed a w
  | 0 => ⟨hr, h⟩
  | _ + 1 => ⟨fun _ => h, by rw [hr]; simp⟩

/-- The beginning. -/
theorem wp_region_L (z : Nat) (S : World → Prop) {id : Nat} {a : Act} {w : World} (hm : P.follows .mixedOrders = true) (hS : S w.drew)
    (h : S w.drew → wpAnyL P .any ops Q S z ops.size (Array.replicate ops.size false) a w.drew) : (Code.region id ops true).wp P Q a w :=
  wp_region_any hm (wpAny_of_L _ _ _ _ (h hS))

end
end Go.Proofs.Ytneiegbodnalbaa

namespace Go.Proofs.Ytneiegbodnalbaa
open Go Go.RowKit Go.Lib
set_option linter.unusedVariables false
attribute [-instance] List.instBEq instBEqProd

theorem frz_at {w : World} {b o : Nat} {cs : Array Value} {t : TypeId} (h : w.heap[b]? = some (.cells cs t (0, 0))) : w.frozen? ⟨b, o, none⟩ = false := by
  simp [World.frozen?, h]

theorem made_nC (n : Nat) : madeCells #[Value.int .i64 0] n = (nC (List.replicate n 0)).toArray := by
  apply Array.ext'
  apply List.ext_getElem?
  intro j
  by_cases hj : j < n
  · simp [madeCells, nC, hj, Nat.mod_one]
  · simp [madeCells, nC, hj]

/-- A row of ints of one's own, and what lies behind its end. -/
def PR (w : World) (b : Nat) (ys : List Nat) (tl : List Value) : Prop := w.heap[b]? = some (.cells (nC ys ++ tl).toArray 3 (0, 0))

theorem PR.cell {w : World} {b : Nat} {ys : List Nat} {tl : List Value} (h : PR w b ys tl) {i : Nat} (hi : i < ys.length) : w.cell? ⟨b, i, none⟩ = some (.int .i64 (ys.getD i 0 : Nat)) := by
  refine cell_at h ?_
  rw [List.getElem?_toArray, List.getElem?_append_left (by rw [nC_len]; exact hi)]
  simp [nC, List.getD_eq_getElem?_getD, hi]

theorem PR.frz {w : World} {b o : Nat} {ys : List Nat} {tl : List Value} (h : PR w b ys tl) : w.frozen? ⟨b, o, none⟩ = false := frz_at h

theorem PR.lt {w : World} {b : Nat} {ys : List Nat} {tl : List Value} (h : PR w b ys tl) : b < w.heap.size := (Array.getElem?_eq_some_iff.1 h).1

theorem PR.below {w w' : World} {b : Nat} {ys : List Nat} {tl : List Value} (h : PR w b ys tl) (hb : Below w.heap.size w w') : PR w' b ys tl := (hb.block b h.lt).trans h

theorem PR.set {w : World} {b : Nat} {ys : List Nat} {tl : List Value} (h : PR w b ys tl) {i : Nat} (x : Nat) (hi : i < ys.length) : PR (w.setCell ⟨b, i, none⟩ (.int .i64 (x : Nat))) b (ys.set i x) tl := by
  show _ = _
  rw [heap_set h, List.setIfInBounds_toArray, List.set_append_left _ _ (by rw [nC_len]; exact hi)]
  simp [nC, List.map_set]

theorem fill_step (ys : List Nat) (k : Nat) (hk : k < ys.length) : (ys.take k ++ List.replicate (ys.length - k) 0).set k (ys.getD k 0) = ys.take (k + 1) ++ List.replicate (ys.length - (k + 1)) 0 := by
  have e1 : List.replicate (ys.length - k) 0 = 0 :: List.replicate (ys.length - (k + 1)) 0 := by
    rw [show ys.length - k = (ys.length - (k + 1)) + 1 by omega, List.replicate_succ]
  have e2 : ys.take (k + 1) = ys.take k ++ [ys.getD k 0] := by
    rw [List.take_add_one, List.getD_eq_getElem?_getD, List.getElem?_eq_getElem hk]
    rfl
  have hl : (ys.take k).length = k := by rw [List.length_take]; omega
  rw [e1, e2, List.set_append_right _ _ (by omega), hl, Nat.sub_self, List.append_assoc]
  rfl
end Go.Proofs.Ytneiegbodnalbaa

namespace Go.Proofs.Ytneiegbodnalbaa
open Go.RowKit

/-- What Has answers. -/
def hasN (N : Nat) (i : Int) : Bool := decide (0 ≤ i ∧ i < 512) && N.testBit i.toNat
theorem has_bit (N m k l : Nat) (hk : m / 64 = k) (hl : m % 64 = l) : ((bits .and .u64 (word N k : Nat) ((2 ^ l : Nat) : Int)) != 0) = N.testBit m := by
  have h64 : l < 64 := by omega
  have e : 64 * k + l = m := by omega
  have hb : (word N k).testBit l = N.testBit m := by rw [testBit_word, e, decide_eq_true h64, Bool.true_and]
  rw [and_u64 _ _ rfl rfl (word_lt N k) (two_pow_lt _ h64), ← hb]
  cases hx : (word N k).testBit l with
  | true =>
    have : word N k &&& 2 ^ l ≠ 0 := by
      intro h0
      have h1 : (word N k &&& 2 ^ l).testBit l = true := by rw [Nat.testBit_and, hx, Nat.testBit_two_pow_self]; rfl
      rw [h0] at h1
      simp at h1
    simpa using this
  | false =>
    have : word N k &&& 2 ^ l = 0 := by
      apply Nat.eq_of_testBit_eq
      intro i
      rw [Nat.testBit_and, Nat.testBit_two_pow, Nat.zero_testBit]
      by_cases hi : l = i
      · rw [← hi, hx]; rfl
      · simp [hi]
    simp [this]
theorem isNumber_yes {i : Int} (h : decide (0 ≤ i ∧ i < 512) = true) (w : World) : Calls Try.prog 36 #[.int .i64 i] w fun e w' => e = .returned (.bool true) ∧ w' = w := h ▸ isNumber_any i w
theorem isNumber_no {i : Int} (h : decide (0 ≤ i ∧ i < 512) = false) (w : World) : Calls Try.prog 36 #[.int .i64 i] w fun e w' => e = .returned (.bool false) ∧ w' = w := h ▸ isNumber_any i w

theorem below_drewNB {B : Nat} {w W : World} (h : Below B w W) (q : Nat) : Below B w (W.drewN q) := ⟨h.os, h.tape, h.output, h.size, h.block⟩

set_option maxHeartbeats 2000000 in
set_option maxRecDepth 100000 in
theorem has_any (N : Nat) (i : Int) (w : World) :
    Calls Try.prog 17 #[setV N, .int .i64 i] w fun e w' => e = .returned (.bool (hasN N i)) ∧ Below w.heap.size w w' := by
  unfold setV
  by_cases hin : 0 ≤ i ∧ i < 512
  · obtain ⟨m, rfl⟩ : ∃ m : Nat, i = m := ⟨i.toNat, by omega⟩
    have hd : decide (0 ≤ (m : Int) ∧ (m : Int) < 512) = true := by simpa using hin
    have hm5 : m < 512 := by omega
    obtain ⟨k, hkd⟩ : ∃ k, m / 64 = k := ⟨_, rfl⟩
    have hk : k < 8 := by omega
    have hkI : (k : Int) < 8 := by omega
    have hq : (m : Int).tdiv 64 = k := by rw [Int.tdiv_eq_ediv_of_nonneg (by omega)]; omega
    have hw : IntKind.i64.wrap (k : Int) = k := IntWalk.i64_in _ (by omega)
    have H0 : Hid (Cells8 (w.alloc (.cells (cellsF (word N)) 55)) w.heap.size (word N)) := Cells8.last w _
    have HB : Hid (((bits .and .u64 (word N k : Nat) ((2 ^ (m % 64) : Nat) : Int)) != 0) = hasN N m) := by
      show _ = hasN N m
      rw [has_bit N m k _ hkd rfl, hasN, hd, Bool.true_and, Int.toNat_natCast]
    clear hkd hin
    go_enter Try.func17, Try.ntmps17
    go_wp2_with fail
    generalize hW : w.alloc (.cells (cellsF (word N)) 55) = W at H0 ⊢
    have hc := H0.out.get hk
    have hbel : Below w.heap.size w W := by rw [← hW]; exact (Below.refl _ _).alloc (Nat.le_refl _) _
    have HBel : Hid _ := hbel
    clear hW hbel
    go_quiet (first
      | (go_at_call 36; exact Calls.quiet_of_same (isNumber_yes hd _))
      | (go_at_call 37; exact Calls.quiet_of_same (bitOf_any m hm5 _)))
    go_wp2_with fail
    go_ret
    exact ⟨ret_bool (by rw [← HB.out]; simp), below_drewNB HBel.out nq⟩
  · have hd : decide (0 ≤ i ∧ i < 512) = false := by simpa using hin
    have HE : Hid (hasN N i = false) := by show hasN N i = false; rw [hasN, hd, Bool.false_and]
    go_enter Try.func17, Try.ntmps17
    go_wp2_with fail
    generalize hW : w.alloc (.cells (cellsF (word N)) 55) = W
    have hbel : Below w.heap.size w W := by rw [← hW]; exact (Below.refl _ _).alloc (Nat.le_refl _) _
    have HBel : Hid _ := hbel
    clear hW hbel
    go_quiet ((go_at_call 36; exact Calls.quiet_of_same (isNumber_no hd _)))
    go_wp2_with fail
    go_ret
    exact ⟨ret_bool HE.out.symm, below_drewNB HBel.out nq⟩

end Go.Proofs.Ytneiegbodnalbaa
