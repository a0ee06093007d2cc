/- E17 E18 E19 E20 E21 E22 E25 E32h E2 E42 E44 E46 E54 E55 E29 E28 E32 E33 E34 E35, in one text. -/
import Derived.Test.YtlohfeogaalfcabE12
import Derived.Test.YtlohfeogaalfcabE16
import Derived.Shelf.LaysM
import Derived.Shelf.Strconv.Clone
import Derived.Test.YtlohfeogaalfcabChk
import Derived.Lib.OthersKept
import Derived.Test.YtlohfeogaalfcabJd
import Derived.Test.YtlohfeogaalfcabE1
import Derived.Test.YtlohfeogaalfcabAb
import Derived.Test.YtlohfeogaalfcabJh
import Derived.Test.YtlohfeogaalfcabJi
import Derived.Laws.EntriesVeiled
import Derived.Deep.RegionHeld
import Derived.Test.YtlohfeogaalfcabJe
import Derived.Laws.IdiomStrings
import Derived.Test.YtlohfeogaalfcabJf
import Derived.Test.YtlohfeogaalfcabE6
namespace Go.Proofs.Ytlohfeogaalfcab
open Go Go.RowKit Go.Lib Go.Maps
set_option linter.unusedVariables false

theorem eq_slice_nil {t e : TypeId} {n c : Nat} (hu : Try.prog.underlying t = some (.slice e)) (a : Addr) (w : World) : (binOp .eql t (.slice (some a) n c) (.slice none 0 0)).run Try.prog w = .ok (.bool false) w := by
  simp only [binOp]
  simp only [Op.equal, Op.maxDepth]
  rw [show (10000 : Nat) = 9999 + 1 from rfl, Op.equalIn]
  simp [Sem.run_bind, run_underlying hu]

set_option maxHeartbeats 2000000 in
set_option maxRecDepth 100000 in
theorem cloneI_any (a : Option Addr) (cp : Nat) (xs : List Int) (w : World) (h : SR w a (zC xs)) (hn : 1 ≤ xs.length) (hb : xs.length ≤ 40000) :
    Calls Try.prog 45 #[.slice a xs.length cp] w fun e w' => ∃ g c, e = .returned (.slice (some ⟨g, 0, none⟩) xs.length c) ∧ w'.ownsRow w.heap.size 3 1 (.slice (some ⟨g, 0, none⟩) xs.length c) xs.length (zC xs) ∧ Below w.heap.size w w' := by
  have hln : (zC xs).length = xs.length := zC_len xs
  obtain ⟨g0, o0, rfl, hg0, hc0⟩ := h 0 _ (List.getElem?_eq_getElem (by omega))
  have HSR : Hid (SR w (some ⟨g0, o0, none⟩) (zC xs)) := h
  obtain ⟨i0, hi, hz0, hz1, hz2⟩ := info_parts Try.info_int
  have HO : Hid ((w.alloc (.cells #[] 3)).ownsRow w.heap.size 3 1 (.slice (some ⟨w.heap.size, 0, none⟩) 0 0) 0 []) := ⟨rfl, .inr ⟨w.heap.size, 0, #[], rfl, Nat.le_refl _, heap_last _ _, Nat.le_refl _, Nat.zero_le _, rfl, rfl⟩⟩
  have KN : Hid (∀ (j : Nat) (u : Value), (zC xs)[j]? = some u → (w.alloc (.cells #[] 3)).cell? ((⟨g0, o0, none⟩ : Addr).add j) = some u) := fun j u hu => by
    obtain ⟨g, o, e, hg, hc⟩ := HSR.out j u hu
    simp only [Option.some.injEq, Addr.mk.injEq, and_true] at e
    obtain ⟨rfl, rfl⟩ := e
    have hadd : (⟨g0, o0, none⟩ : Addr).add j = ⟨g0, o0 + j, none⟩ := by unfold Addr.add; split <;> simp_all
    rw [hadd, World.cell?_of_block (heap_allo hg _)]
    exact hc
  have HLN : Hid ((zC xs).length = xs.length) := hln
  have HOC : Hid (∀ u ∈ zC xs, u.oneCell' = true) := fun u hu => by
    unfold zC at hu
    obtain ⟨n, _, rfl⟩ := List.mem_map.1 hu
    rfl
  have heq := eq_slice_nil (t := 22) (e := 3) (n := xs.length) (c := cp) Try.underlying22 ⟨g0, o0, none⟩ w
  clear h hc0 hln
  go_enter Try.func45, Try.ntmps45
  go_wp2_with (at_builtin; refine wpList_append_own_at _ rfl _ _ 22 rfl w.heap.size 3 i0 (.int .i64 0) 1 8 Try.underlying22 hi hz0 hz1 hz2 rfl (by decide) _ _ _ rfl HO.out ⟨g0, o0, none⟩ xs.length cp (zC xs) rfl (by rw [HLN.out]; omega) KN.out HOC.out (by unfold maxLen; omega) (by omega) (by simp) ?_; intro v7 w7 ho7 hg7 hn7 hl7)
  have hB : Below w.heap.size w w7 := (below_new w _).grown hg7 (by simp) (fun b hb => by have q : some w.heap.size = some b := hb; simp only [Option.some.injEq] at q; omega)
  obtain ⟨va, vc, rfl⟩ := own_shape ho7
  obtain ⟨g, rfl⟩ : ∃ g, va = some ⟨g, 0, none⟩ := by
    rcases ho7.2 with ⟨q, h0⟩ | ⟨g', cap', cur, hv, _⟩
    · omega
    · simp only [Value.slice.injEq] at hv
      exact ⟨g', hv.1⟩
  rw [Nat.zero_add] at ho7
  have HO7 : Hid (w7.ownsRow w.heap.size 3 1 (.slice (some ⟨g, 0, none⟩) xs.length vc) xs.length (zC xs)) := ho7
  have HB7 : Hid (Below w.heap.size w w7) := hB
  clear ho7 hg7 hn7 hl7 hB
  rw [Nat.zero_add]
  go_ret
  exact ⟨g, vc, rfl, HO7.out, HB7.out⟩

set_option maxHeartbeats 2000000 in
set_option maxRecDepth 100000 in
theorem cloneB_any (a : Option Addr) (cp : Nat) (xs : List Bool) (w : World) (h : SR w a (bC xs)) (hn : 1 ≤ xs.length) (hb : xs.length ≤ 40000) :
    Calls Try.prog 46 #[.slice a xs.length cp] w fun e w' => ∃ g c, e = .returned (.slice (some ⟨g, 0, none⟩) xs.length c) ∧ w'.ownsRow w.heap.size 4 1 (.slice (some ⟨g, 0, none⟩) xs.length c) xs.length (bC xs) ∧ Below w.heap.size w w' := by
  have hln : (bC xs).length = xs.length := bC_len xs
  obtain ⟨g0, o0, rfl, hg0, hc0⟩ := h 0 _ (List.getElem?_eq_getElem (by omega))
  have HSR : Hid (SR w (some ⟨g0, o0, none⟩) (bC xs)) := h
  obtain ⟨i0, hi, hz0, hz1, hz2⟩ := info_parts Try.info_bool
  have HO : Hid ((w.alloc (.cells #[] 4)).ownsRow w.heap.size 4 1 (.slice (some ⟨w.heap.size, 0, none⟩) 0 0) 0 []) := ⟨rfl, .inr ⟨w.heap.size, 0, #[], rfl, Nat.le_refl _, heap_last _ _, Nat.le_refl _, Nat.zero_le _, rfl, rfl⟩⟩
  have KN : Hid (∀ (j : Nat) (u : Value), (bC xs)[j]? = some u → (w.alloc (.cells #[] 4)).cell? ((⟨g0, o0, none⟩ : Addr).add j) = some u) := fun j u hu => by
    obtain ⟨g, o, e, hg, hc⟩ := HSR.out j u hu
    simp only [Option.some.injEq, Addr.mk.injEq, and_true] at e
    obtain ⟨rfl, rfl⟩ := e
    have hadd : (⟨g0, o0, none⟩ : Addr).add j = ⟨g0, o0 + j, none⟩ := by unfold Addr.add; split <;> simp_all
    rw [hadd, World.cell?_of_block (heap_allo hg _)]
    exact hc
  have HLN : Hid ((bC xs).length = xs.length) := hln
  have HOC : Hid (∀ u ∈ bC xs, u.oneCell' = true) := fun u hu => by
    unfold bC at hu
    obtain ⟨n, _, rfl⟩ := List.mem_map.1 hu
    rfl
  have heq := eq_slice_nil (t := 23) (e := 4) (n := xs.length) (c := cp) Try.underlying23 ⟨g0, o0, none⟩ w
  clear h hc0 hln
  go_enter Try.func46, Try.ntmps46
  go_wp2_with (at_builtin; refine wpList_append_own_at _ rfl _ _ 23 rfl w.heap.size 4 i0 (.bool false) 1 1 Try.underlying23 hi hz0 hz1 hz2 rfl (by decide) _ _ _ rfl HO.out ⟨g0, o0, none⟩ xs.length cp (bC xs) rfl (by rw [HLN.out]; omega) KN.out HOC.out (by unfold maxLen; omega) (by omega) (by simp) ?_; intro v7 w7 ho7 hg7 hn7 hl7)
  have hB : Below w.heap.size w w7 := (below_new w _).grown hg7 (by simp) (fun b hb => by have q : some w.heap.size = some b := hb; simp only [Option.some.injEq] at q; omega)
  obtain ⟨va, vc, rfl⟩ := own_shape ho7
  obtain ⟨g, rfl⟩ : ∃ g, va = some ⟨g, 0, none⟩ := by
    rcases ho7.2 with ⟨q, h0⟩ | ⟨g', cap', cur, hv, _⟩
    · omega
    · simp only [Value.slice.injEq] at hv
      exact ⟨g', hv.1⟩
  rw [Nat.zero_add] at ho7
  have HO7 : Hid (w7.ownsRow w.heap.size 4 1 (.slice (some ⟨g, 0, none⟩) xs.length vc) xs.length (bC xs)) := ho7
  have HB7 : Hid (Below w.heap.size w w7) := hB
  clear ho7 hg7 hn7 hl7 hB
  rw [Nat.zero_add]
  go_ret
  exact ⟨g, vc, rfl, HO7.out, HB7.out⟩

theorem Try.info_au : (Try.prog.info? 25).map (·.size) = some 3 := by kernel_rfl
/-- The result's block. -/
def FZ (rs : Nat) (y : World) : Prop := ∃ a b c, y.heap[rs]? = some (.cells #[a, b, c] 25 (0, 0))
theorem FZ.facts {rs : Nat} {y : World} (h : FZ rs y) : y.cell? ⟨rs, 0, none⟩ = some (pvS y rs 0) ∧ y.cell? ⟨rs, 1, none⟩ = some (pvS y rs 1) ∧ y.cell? ⟨rs, 2, none⟩ = some (pvS y rs 2) ∧ (∀ o, y.frozen? ⟨rs, o, none⟩ = false) := by
  obtain ⟨a, b, c, h⟩ := h
  refine ⟨cell_pv ?_, cell_pv ?_, cell_pv ?_, fun o => frozen_blk h o⟩
  · rw [cell_at h (v := a) rfl]; rfl
  · rw [cell_at h (v := b) rfl]; rfl
  · rw [cell_at h (v := c) rfl]; rfl
theorem FZ.set {rs : Nat} {y : World} (h : FZ rs y) (x0 x1 x2 : Value) : (((y.setCell ⟨rs, 0, none⟩ x0).setCell ⟨rs, 1, none⟩ x1).setCell ⟨rs, 2, none⟩ x2).heap[rs]? = some (.cells #[x0, x1, x2] 25 (0, 0)) := by
  obtain ⟨a, b, c, h⟩ := h
  exact heap_set (heap_set (heap_set h))
/-- An automaton whose lists lie in rows of one's own. -/
def AW (base : Nat) (w : World) (v : Value) (B : Aut) : Prop := ∃ an cn aa ca, v = .agg #[.int .i64 B.k, .slice an B.nx.length cn, .slice aa B.ac.length ca] ∧ w.ownsRow base 3 1 (.slice an B.nx.length cn) B.nx.length (zC B.nx) ∧ w.ownsRow base 4 1 (.slice aa B.ac.length ca) B.ac.length (bC B.ac)
theorem AW.ar {base : Nat} {w : World} {v : Value} {B : Aut} (h : AW base w v B) : AR w v B := by
  obtain ⟨an, cn, aa, ca, rfl, h1, h2⟩ := h
  exact ⟨an, cn, aa, ca, rfl, own_sr h1, own_sr h2⟩
theorem AW.below {base : Nat} {w w' : World} {v : Value} {B : Aut} (h : AW base w v B) (hb : Below w.heap.size w w') : AW base w' v B := by
  obtain ⟨an, cn, aa, ca, rfl, h1, h2⟩ := h
  exact ⟨an, cn, aa, ca, rfl, own_below h1 hb, own_below h2 hb⟩
set_option maxHeartbeats 2000000 in
set_option maxRecDepth 100000 in
theorem fresh_any (v : Value) (A : Aut) (w : World) (h : AR w v A) (hx : 1 ≤ A.nx.length) (ha : 1 ≤ A.ac.length) (hb : A.nx.length ≤ 40000) (hb2 : A.ac.length ≤ 40000) :
    Calls Try.prog 21 #[v] w fun e w' => ∃ v', e = .returned v' ∧ AW w.heap.size w' v' A ∧ Below w.heap.size w w' := by
  obtain ⟨an, cn, aa, ca, e, h1, h2⟩ := h.is
  subst e
  obtain ⟨rs, hrs⟩ : ∃ rs, w.heap.size + 1 = rs := ⟨_, rfl⟩
  obtain ⟨w1, hw1⟩ : ∃ w1, w1 = (w.alloc (.cells #[.int .i64 A.k, .slice an A.nx.length cn, .slice aa A.ac.length ca] 25)).alloc (.cells #[.int .i64 0, .slice none 0 0, .slice none 0 0] 25) := ⟨_, rfl⟩
  have HW1 : Hid (w1 = (w.alloc (.cells #[.int .i64 A.k, .slice an A.nx.length cn, .slice aa A.ac.length ca] 25)).alloc (.cells #[.int .i64 0, .slice none 0 0, .slice none 0 0] 25)) := hw1
  have hb1 : Below w.heap.size w w1 := by rw [hw1]; exact go_on (below_new _ _) (below_new _ _)
  have HB1 : Hid (Below w.heap.size w w1) := hb1
  have hs1 : w1.heap.size = rs + 1 := by rw [hw1, ← hrs]; simp
  have HR1 : Hid (RowAt w1 w.heap.size #[.int .i64 A.k, .slice an A.nx.length cn, .slice aa A.ac.length ca]) := by show RowAt _ _ _; rw [hw1]; exact (RowAt.last _ _ _).stay (below_new _ _)
  have HZ1 : Hid (FZ rs w1) := by
    have := heap_last (w.alloc (.cells #[.int .i64 A.k, .slice an A.nx.length cn, .slice aa A.ac.length ca] 25)) (.cells #[.int .i64 0, .slice none 0 0, .slice none 0 0] 25)
    rw [World.size_alloc, hrs, ← hw1] at this
    exact ⟨_, _, _, this⟩
  have HS1 : Hid (∀ y, Below w.heap.size w y → SR y an (zC A.nx)) := fun y hy => h1.stay hy
  have HS2 : Hid (∀ y, Below w.heap.size w y → SR y aa (bC A.ac)) := fun y hy => h2.stay hy
  have HMK : Hid (∀ y, RowAt y w.heap.size #[.int .i64 A.k, .slice an A.nx.length cn, .slice aa A.ac.length ca] → FZ rs y → ((∀ o, y.cell? ⟨w.heap.size, o, none⟩ = (#[.int .i64 A.k, .slice an A.nx.length cn, .slice aa A.ac.length ca] : Array Value)[o]?) ∧ y.cell? ⟨rs, 0, none⟩ = some (pvS y rs 0) ∧ y.cell? ⟨rs, 1, none⟩ = some (pvS y rs 1) ∧ y.cell? ⟨rs, 2, none⟩ = some (pvS y rs 2) ∧ (∀ o, y.frozen? ⟨rs, o, none⟩ = false) ∧ FZ rs y)) := fun y hr hz => ⟨hr.cell, hz.facts.1, hz.facts.2.1, hz.facts.2.2.1, hz.facts.2.2.2, hz⟩
  have HSK : Hid (∀ y y' : World, ((∀ o, y.cell? ⟨w.heap.size, o, none⟩ = (#[.int .i64 A.k, .slice an A.nx.length cn, .slice aa A.ac.length ca] : Array Value)[o]?) ∧ y.cell? ⟨rs, 0, none⟩ = some (pvS y rs 0) ∧ y.cell? ⟨rs, 1, none⟩ = some (pvS y rs 1) ∧ y.cell? ⟨rs, 2, none⟩ = some (pvS y rs 2) ∧ (∀ o, y.frozen? ⟨rs, o, none⟩ = false) ∧ FZ rs y) → Below y.heap.size y y' → ((∀ o, y'.cell? ⟨w.heap.size, o, none⟩ = (#[.int .i64 A.k, .slice an A.nx.length cn, .slice aa A.ac.length ca] : Array Value)[o]?) ∧ y'.cell? ⟨rs, 0, none⟩ = some (pvS y' rs 0) ∧ y'.cell? ⟨rs, 1, none⟩ = some (pvS y' rs 1) ∧ y'.cell? ⟨rs, 2, none⟩ = some (pvS y' rs 2) ∧ (∀ o, y'.frozen? ⟨rs, o, none⟩ = false) ∧ FZ rs y')) := fun y y' hy hb => by
    have k1 : w.heap.size < y.heap.size := World.block_lt_of_cell? y ⟨w.heap.size, 0, none⟩ (hy.1 0)
    have k2 : rs < y.heap.size := World.block_lt_of_cell? y ⟨rs, 0, none⟩ hy.2.1
    refine HMK.out y' ⟨by have := hb.size; omega, fun o => by rw [below_cellJ hb k1]; exact hy.1 o⟩ ?_
    obtain ⟨a, b, c, q⟩ := hy.2.2.2.2.2
    exact ⟨a, b, c, (hb.block rs k2).trans q⟩
  have HST : Hid (∀ (y : World) (x0 x1 x2 : Value), ((∀ o, y.cell? ⟨w.heap.size, o, none⟩ = (#[.int .i64 A.k, .slice an A.nx.length cn, .slice aa A.ac.length ca] : Array Value)[o]?) ∧ y.cell? ⟨rs, 0, none⟩ = some (pvS y rs 0) ∧ y.cell? ⟨rs, 1, none⟩ = some (pvS y rs 1) ∧ y.cell? ⟨rs, 2, none⟩ = some (pvS y rs 2) ∧ (∀ o, y.frozen? ⟨rs, o, none⟩ = false) ∧ FZ rs y) → ((∀ o, (((y.setCell ⟨rs, 0, none⟩ x0).setCell ⟨rs, 1, none⟩ x1).setCell ⟨rs, 2, none⟩ x2).cell? ⟨w.heap.size, o, none⟩ = (#[.int .i64 A.k, .slice an A.nx.length cn, .slice aa A.ac.length ca] : Array Value)[o]?) ∧ (((y.setCell ⟨rs, 0, none⟩ x0).setCell ⟨rs, 1, none⟩ x1).setCell ⟨rs, 2, none⟩ x2).cell? ⟨rs, 0, none⟩ = some (pvS (((y.setCell ⟨rs, 0, none⟩ x0).setCell ⟨rs, 1, none⟩ x1).setCell ⟨rs, 2, none⟩ x2) rs 0) ∧ (((y.setCell ⟨rs, 0, none⟩ x0).setCell ⟨rs, 1, none⟩ x1).setCell ⟨rs, 2, none⟩ x2).cell? ⟨rs, 1, none⟩ = some (pvS (((y.setCell ⟨rs, 0, none⟩ x0).setCell ⟨rs, 1, none⟩ x1).setCell ⟨rs, 2, none⟩ x2) rs 1) ∧ (((y.setCell ⟨rs, 0, none⟩ x0).setCell ⟨rs, 1, none⟩ x1).setCell ⟨rs, 2, none⟩ x2).cell? ⟨rs, 2, none⟩ = some (pvS (((y.setCell ⟨rs, 0, none⟩ x0).setCell ⟨rs, 1, none⟩ x1).setCell ⟨rs, 2, none⟩ x2) rs 2) ∧ (∀ o, (((y.setCell ⟨rs, 0, none⟩ x0).setCell ⟨rs, 1, none⟩ x1).setCell ⟨rs, 2, none⟩ x2).frozen? ⟨rs, o, none⟩ = false) ∧ FZ rs (((y.setCell ⟨rs, 0, none⟩ x0).setCell ⟨rs, 1, none⟩ x1).setCell ⟨rs, 2, none⟩ x2))) := fun y x0 x1 x2 hy => by
    have k1 : w.heap.size < y.heap.size := World.block_lt_of_cell? y ⟨w.heap.size, 0, none⟩ (hy.1 0)
    have k3 : w.heap.size ≠ rs := by omega
    refine HMK.out _ ⟨by simp [World.setCell]; exact k1, fun o => ?_⟩ ⟨_, _, _, hy.2.2.2.2.2.set x0 x1 x2⟩
    rw [World.cell?_of_block ((heap_set_other k3).trans ((heap_set_other k3).trans (heap_set_other k3)))]
    exact hy.1 o
  have S0 : ((∀ o, (w1.drew).cell? ⟨w.heap.size, o, none⟩ = (#[.int .i64 A.k, .slice an A.nx.length cn, .slice aa A.ac.length ca] : Array Value)[o]?) ∧ (w1.drew).cell? ⟨rs, 0, none⟩ = some (pvS (w1.drew) rs 0) ∧ (w1.drew).cell? ⟨rs, 1, none⟩ = some (pvS (w1.drew) rs 1) ∧ (w1.drew).cell? ⟨rs, 2, none⟩ = some (pvS (w1.drew) rs 2) ∧ (∀ o, (w1.drew).frozen? ⟨rs, o, none⟩ = false) ∧ FZ rs (w1.drew)) := HMK.out _ (HR1.out.stay (Below.refl _ _).drew) HZ1.out
  have HRS : Hid (w.heap.size + 1 = rs) := hrs
  have HRG : Hid (w.heap.size < rs) := by show _ < _; omega
  have HSZ : Hid (w1.heap.size = rs + 1) := hs1
  clear h h1 h2 hw1 hb1 hs1 hrs
  go_enter Try.func21, Try.ntmps21
  go_upto_region 1 with fail
  rw [← HW1.out, HRS.out]
  go_region_held3 (fun y => ((∀ o, y.cell? ⟨w.heap.size, o, none⟩ = (#[.int .i64 A.k, .slice an A.nx.length cn, .slice aa A.ac.length ca] : Array Value)[o]?) ∧ y.cell? ⟨rs, 0, none⟩ = some (pvS y rs 0) ∧ y.cell? ⟨rs, 1, none⟩ = some (pvS y rs 1) ∧ y.cell? ⟨rs, 2, none⟩ = some (pvS y rs 2) ∧ (∀ o, y.frozen? ⟨rs, o, none⟩ = false) ∧ FZ rs y)) (first | assumption | exact S0 | exact HSK.out _ _ (by assumption) (by assumption) | exact HST.out _ _ _ _ (by assumption)) (first
    | (go_at_call 46; have q := K1; refine (cloneB_any aa ca A.ac _ (HS2.out _ K1.out) ha hb2).mono ?_; rintro e y2 ⟨g2, c2, rfl, ho2, hB2⟩; have HO2 : Hid _ := ho2; have HB2 : Hid _ := hB2; clear ho2)
    | (go_at_call 45; refine (cloneI_any an cn A.nx _ (HS1.out _ HB1.out.drew) hx hb).mono ?_; rintro e y1 ⟨g1, c1, rfl, ho1, hB1⟩; have HO1 : Hid _ := ho1; have K1 : Hid (Below w.heap.size w y1) := go_on HB1.out.drew hB1; clear ho1))
  have hz2 : FZ rs y2 := by
    obtain ⟨a, b, c, q⟩ := HZ1.out
    have k2 : rs < w1.heap.size := by rw [HSZ.out]; omega
    refine ⟨a, b, c, ?_⟩
    have hy12 : Below w1.heap.size w1 y2 := go_on (go_on (Below.refl _ _).drew hB1) HB2.out
    exact (hy12.block rs k2).trans q
  have HF := hz2.set (.int .i64 A.k) (.slice (some ⟨g1, 0, none⟩) A.nx.length c1) (.slice (some ⟨g2, 0, none⟩) A.ac.length c2)
  have HFH : Hid _ := HF
  have hE1 : w1.drew.heap.size = rs + 1 := HSZ.out
  have ho1 : y2.ownsRow w1.drew.heap.size 3 1 (.slice (some ⟨g1, 0, none⟩) A.nx.length c1) A.nx.length (zC A.nx) := own_below HO1.out HB2.out
  have ho2 : y2.ownsRow w1.drew.heap.size 4 1 (.slice (some ⟨g2, 0, none⟩) A.ac.length c2) A.ac.length (bC A.ac) := own_mono HO2.out hB1.size
  have HBF : Hid (Below w.heap.size w y2) := go_on K1.out HB2.out
  have HO1' : Hid _ := ho1
  have HO2' : Hid _ := ho2
  have HE1 : Hid (w1.drew.heap.size = rs + 1) := hE1
  clear S0 hB1 hz2 HF ho1 ho2 hE1
  go_wp2_with fail
  refine bodyPost_ret (results_cell_row rfl _ _ rs 25 _ (0, 0) _ rfl HFH.out Try.underlying25 rfl (by rw [Try.info_au]; rfl)) rfl ⟨_, rfl, ⟨_, _, _, _, rfl, ?_, ?_⟩, ?_⟩
  · refine own_mono (own_keep HO1'.out (fun b cur hb hc => ?_)) (by rw [HE1.out]; have := HRG.out; omega)
    have hne : b ≠ rs := by have := (own_blk HO1'.out hb).1; rw [HE1.out] at this; omega
    rw [heap_set_other hne, heap_set_other hne, heap_set_other hne]
  · refine own_mono (own_keep HO2'.out (fun b cur hb hc => ?_)) (by rw [HE1.out]; have := HRG.out; omega)
    have hne : b ≠ rs := by have := (own_blk HO2'.out hb).1; rw [HE1.out] at this; omega
    rw [heap_set_other hne, heap_set_other hne, heap_set_other hne]
  · have hg : w.heap.size ≤ rs := by have := HRG.out; omega
    exact ((HBF.out.setCell (p := ⟨rs, 0, none⟩) hg _).setCell (p := ⟨rs, 1, none⟩) hg _).setCell (p := ⟨rs, 2, none⟩) hg _

end Go.Proofs.Ytlohfeogaalfcab

namespace Go.Proofs.Ytlohfeogaalfcab
open Go Go.RowKit Go.Lib Go.Maps
set_option linter.unusedVariables false
attribute [-instance] List.instBEq instBEqProd

/-- All that a monoid's block leads to. -/
structure MP (w : World) (ob : Nat) (A : Aut) (M : List (List Nat)) (N : List Nat) (base bt b mb gw ga R n a c d : Nat) (vl : Value) (D : DataW Unit) (an : Option Addr) (cn : Nat) (aa : Option Addr) (ca : Nat) (sf : Value) : Prop where
  box : w.heap[ob]? = some (.cells #[sf, .int .i64 A.k, .slice an A.nx.length cn, .slice aa A.ac.length ca, .pointer (some ⟨b, 0, none⟩), .slice (some ⟨gw, 0, none⟩) n n, .slice (some ⟨ga, 0, none⟩) n n, .int .i64 (A.k.toNat : Int), .slice (some ⟨R, 0, none⟩) a a, .int .i64 (A.k.toNat : Int), .slice (some ⟨R, a, none⟩) a a, .int .i64 (n : Int), .slice (some ⟨R, d, none⟩) c c] 52 (0, 0))
  nx : w.ownsRow base 3 1 (.slice an A.nx.length cn) A.nx.length (zC A.nx)
  ac : w.ownsRow base 4 1 (.slice aa A.ac.length ca) A.ac.length (bC A.ac)
  tb : TB bt w b mb A.ac.length vl M D
  wp : WP w gw A.k.toNat n N n
  bp : BP w ga A M n
  rt : RT w R n A.k.toNat N (fun _ _ => True) (fun _ _ => True)
  mon : Mon A M N
  num : M.length = n ∧ n * A.k.toNat = a ∧ n * n = c ∧ a + a = d
/-- A monoid that Build made lies in block ob. -/
def MO (w : World) (ob : Nat) (A : Aut) (M : List (List Nat)) (N : List Nat) : Prop := ∃ base bt b mb gw ga R n a c d vl D an cn aa ca, MP w ob A M N base bt b mb gw ga R n a c d vl D an cn aa ca (.pointer (some ⟨ob, 0, none⟩))
theorem MP.keep {w w' : World} {ob : Nat} {A : Aut} {M : List (List Nat)} {N : List Nat} {base bt b mb gw ga R n a c d : Nat} {vl : Value} {D : DataW Unit} {an : Option Addr} {cn : Nat} {aa : Option Addr} {ca : Nat} {sf : Value} (h : MP w ob A M N base bt b mb gw ga R n a c d vl D an cn aa ca sf) (hb : Below w.heap.size w w') : MP w' ob A M N base bt b mb gw ga R n a c d vl D an cn aa ca sf :=
  ⟨(hb.block _ (Array.getElem?_eq_some_iff.1 h.box).1).trans h.box, own_below h.nx hb, own_below h.ac hb, h.tb.below hb, h.wp.keep (hb.block _ h.wp.lt), h.bp.keep (hb.block _ h.bp.lt), h.rt.keep (hb.block _ h.rt.lt), h.mon, h.num⟩
theorem MO.below {w w' : World} {ob : Nat} {A : Aut} {M : List (List Nat)} {N : List Nat} (h : MO w ob A M N) (hb : Below w.heap.size w w') : MO w' ob A M N := by
  obtain ⟨base, bt, b, mb, gw, ga, R, n, a, c, d, vl, D, an, cn, aa, ca, h⟩ := h
  exact ⟨base, bt, b, mb, gw, ga, R, n, a, c, d, vl, D, an, cn, aa, ca, h.keep hb⟩
theorem Mon.nl {A : Aut} {M : List (List Nat)} {N : List Nat} (h : Mon A M N) {p : Nat} (hp : p < N.length) : N.getD p 0 < M.length := by
  rw [getD_of (List.getElem?_eq_getElem hp)]
  exact h.bi.small (List.getElem?_eq_getElem hp)
/-- What Build answers of an automaton of at most 64 states. -/
def BdQ (A : Aut) (w : World) (e : Ending) (w' : World) : Prop :=
  (mEl A = none ∧ e = .returned (.tuple #[.pointer none, .int .i64 140]) ∧ Below w.heap.size w w') ∨
  ∃ ob M N, e = .returned (.tuple #[.pointer (some ⟨ob, 0, none⟩), .int .i64 0]) ∧ mEl A = some (M, N) ∧ MO w' ob A M N ∧ Below w.heap.size w w'
set_option maxHeartbeats 4000000 in
set_option maxRecDepth 100000 in
theorem build_any (v : Value) (A : Aut) (w : World) (h : AR w v A) (G : Good A) (h64 : A.ac.length ≤ 64) :
    Calls Try.prog 10 #[v] w (BdQ A w) := by
  have hks := G.ks
  have hn1 := G.n1
  have hln := G.len
  have hxl : 1 ≤ A.nx.length ∧ A.nx.length ≤ 40000 := by
    have h1 : (1 : Int) * 1 ≤ (A.ac.length : Int) * A.k := Int.mul_le_mul (by omega) G.k1 (by omega) (by omega)
    have h2 : (A.ac.length : Int) * A.k ≤ 64 * 8 := Int.mul_le_mul (by omega) G.k8 (by have := G.k1; omega) (by omega)
    omega
  obtain ⟨an, cn, aa, ca, e, h1, h2⟩ := h.is
  have HA : Hid (∀ w', Below w.heap.size w w' → AR w' v A) := fun w' hb => h.stay hb
  clear h h1 h2 hln
  subst e
  have HGd : Hid (Good A) := G
  obtain ⟨w0, hw0⟩ : ∃ w0, w0 = w.alloc (.cells #[.int .i64 A.k, .slice an A.nx.length cn, .slice aa A.ac.length ca] 25) := ⟨_, rfl⟩
  have HB0 : Hid (Below w.heap.size w w0) := by show Below _ _ _; rw [hw0]; exact below_new _ _
  have HR0 : Hid (RowAt w0 w.heap.size #[.int .i64 A.k, .slice an A.nx.length cn, .slice aa A.ac.length ca]) := by show RowAt _ _ _; rw [hw0]; exact RowAt.last _ _ _
  have HW0 : Hid (w0 = w.alloc (.cells #[.int .i64 A.k, .slice an A.nx.length cn, .slice aa A.ac.length ca] 25)) := hw0
  clear hw0 G
  go_enter Try.func10, Try.ntmps10
  go_wp2_with fail
  rw [← HW0.out]
  refine (find_any _ A w0 (HA.out _ HB0.out) HGd.out h64).mono ?_
  rintro e w1 (⟨hno, rfl, hB1⟩ | ⟨base, fb, b, mb, vl, vw, vr, M, W, N, D, rfl, hE, hWY, hF, hlo, hB1⟩)
  · have HNO : Hid (mEl A = none) := hno
    have HB1 : Hid (Below w.heap.size w w1) := go_on HB0.out hB1
    clear hno hB1
    go_wp2_with fail
    go_ret2
    exact .inl ⟨HNO.out, rfl, HB1.out⟩
  · have HMon : Hid (Mon A M N) := mon_of HGd.out h64 hE
    have HE : Hid (mEl A = some (M, N)) := hE
    have HWY : Hid (WyO A.k.toNat M W N) := hWY
    have HF : Hid (FN base w1 fb b mb A.k.toNat A.ac.length vl vw vr M W N D) := hF
    have HB1 : Hid (Below w.heap.size w w1) := go_on HB0.out hB1
    have HR1 : Hid (RowAt w1 w.heap.size #[.int .i64 A.k, .slice an A.nx.length cn, .slice aa A.ac.length ca]) := HR0.out.stay hB1
    have S0 : ((∀ o, (w1.drew).cell? ⟨w.heap.size, o, none⟩ = (#[.int .i64 A.k, .slice an A.nx.length cn, .slice aa A.ac.length ca] : Array Value)[o]?) ∧ (w1.drew).cell? ⟨fb, 1, none⟩ = some (.pointer (some ⟨b, 0, none⟩))) := ⟨HR1.out.cell, cell_at HF.out.box rfl⟩
    have HSK : Hid (∀ y y' : World, ((∀ o, y.cell? ⟨w.heap.size, o, none⟩ = (#[.int .i64 A.k, .slice an A.nx.length cn, .slice aa A.ac.length ca] : Array Value)[o]?) ∧ y.cell? ⟨fb, 1, none⟩ = some (.pointer (some ⟨b, 0, none⟩))) → Below y.heap.size y y' → ((∀ o, y'.cell? ⟨w.heap.size, o, none⟩ = (#[.int .i64 A.k, .slice an A.nx.length cn, .slice aa A.ac.length ca] : Array Value)[o]?) ∧ y'.cell? ⟨fb, 1, none⟩ = some (.pointer (some ⟨b, 0, none⟩)))) := fun y y' hy hb => by
      have k1 : w.heap.size < y.heap.size := World.block_lt_of_cell? y ⟨w.heap.size, 0, none⟩ (hy.1 0)
      have k2 : fb < y.heap.size := World.block_lt_of_cell? y ⟨fb, 1, none⟩ hy.2
      exact ⟨fun o => by rw [below_cellJ hb k1]; exact hy.1 o, by rw [below_cellJ hb k2]; exact hy.2⟩
    clear hE hWY hF hB1 HR0 HW0
    go_wp2_with fail
    go_region_held3 (fun y => ((∀ o, y.cell? ⟨w.heap.size, o, none⟩ = (#[.int .i64 A.k, .slice an A.nx.length cn, .slice aa A.ac.length ca] : Array Value)[o]?) ∧ y.cell? ⟨fb, 1, none⟩ = some (.pointer (some ⟨b, 0, none⟩)))) (first | assumption | exact S0 | exact HSK.out _ _ (by assumption) (by assumption) | exact HSK.out _ _ (by assumption) (below_new _ _)) (first
      | (go_at_call 21; refine (fresh_any _ A _ (HA.out _ HB1.out.drew) hxl.1 hn1 hxl.2 (by omega)).mono ?_; rintro e y1 ⟨v1, rfl, ⟨an1, cn1, aa1, ca1, rfl, hx1, hc1⟩, hy1⟩; have K1 : Hid (Below w1.heap.size w1 y1) := go_on (Below.refl _ _).drew hy1; have HX1 : Hid (y1.ownsRow w1.drew.heap.size 3 1 (.slice an1 A.nx.length cn1) A.nx.length (zC A.nx)) := hx1; have HC1 : Hid (y1.ownsRow w1.drew.heap.size 4 1 (.slice aa1 A.ac.length ca1) A.ac.length (bC A.ac)) := hc1; have HY2 : Hid (∀ z, Below y1.heap.size y1 z → Below y1.heap.size y1 z) := fun _ q => q; clear hx1 hc1)
      | (go_at_call 22; refine (words_any (HF.out.below K1.out) HWY.out HMon.out.fst ⟨hks.1, hks.2.1⟩ HMon.out.pos).mono ?_; rintro e y2 ⟨g2, rfl, hy2, hg2, hw2⟩; have K2 : Hid (Below w1.heap.size w1 y2) := go_on K1.out hy2; have HW2 : Hid (WP y2 g2 A.k.toNat M.length N M.length) := hw2; clear hw2 hg2)
      | (go_at_call 23; refine (accepted_any (HF.out.below K2.out) HWY.out.len _ (HA.out _ (go_on HB1.out K2.out)) hn1).mono ?_; rintro e y3 ⟨g3, rfl, hy3, hg3, hb3⟩; have K3 : Hid (Below w1.heap.size w1 y3) := go_on K2.out hy3; have HP3 : Hid (BP y3 g3 A M M.length) := hb3; have HY3 : Hid (Below y2.heap.size y2 y3) := hy3; clear hb3 hg3)
      | (go_at_call 24; refine (lay_any (HF.out.below K3.out) HWY.out HMon.out.fst ⟨hks.1, hks.2.1⟩ HMon.out.pos HMon.out.len (fun a b ha hb => HMon.out.pr_lt ha hb) (fun p hp => HMon.out.nl hp)).mono ?_; rintro e y4 ⟨R, n, a, c, d, hn, ha, hc, hd, rfl, hy4, hR, hRT⟩; have K4 : Hid (Below w1.heap.size w1 y4) := go_on K3.out hy4; have HRT : Hid (RT y4 R n A.k.toNat N (fun _ _ => True) (fun _ _ => True)) := hRT; have HNM : Hid (M.length = n ∧ n * A.k.toNat = a ∧ n * n = c ∧ a + a = d) := ⟨hn, ha, hc, hd⟩; have HY4 : Hid (Below y3.heap.size y3 y4) := hy4; clear hRT hn ha hc hd hR))
    have HMP : Hid (MP (y4.alloc (.cells #[.pointer (some ⟨y4.heap.size, 0, none⟩), .int .i64 A.k, .slice an1 A.nx.length cn1, .slice aa1 A.ac.length ca1, .pointer (some ⟨b, 0, none⟩), .slice (some ⟨g2, 0, none⟩) M.length M.length, .slice (some ⟨g3, 0, none⟩) M.length M.length, .int .i64 A.k, .slice (some ⟨R, 0, none⟩) a a, .int .i64 A.k, .slice (some ⟨R, a, none⟩) a a, .int .i64 (n : Int), .slice (some ⟨R, d, none⟩) c c] 52)) y4.heap.size A M N w1.drew.heap.size base b mb g2 g3 R n a c d vl D an1 cn1 aa1 ca1 (.pointer (some ⟨y4.heap.size, 0, none⟩))) := by
      have hY14 : Below y1.heap.size y1 y4 := go_on (go_on hy2 HY3.out) HY4.out
      have hb : Below y4.heap.size y4 (y4.alloc (.cells #[.pointer (some ⟨y4.heap.size, 0, none⟩), .int .i64 A.k, .slice an1 A.nx.length cn1, .slice aa1 A.ac.length ca1, .pointer (some ⟨b, 0, none⟩), .slice (some ⟨g2, 0, none⟩) M.length M.length, .slice (some ⟨g3, 0, none⟩) M.length M.length, .int .i64 A.k, .slice (some ⟨R, 0, none⟩) a a, .int .i64 A.k, .slice (some ⟨R, a, none⟩) a a, .int .i64 (n : Int), .slice (some ⟨R, d, none⟩) c c] 52)) := below_new _ _
      have hnm := HNM.out
      refine ⟨?_, own_below (own_below HX1.out hY14) hb, own_below (own_below HC1.out hY14) hb, (HF.out.tb.below K4.out).below hb, ?_, ?_, HRT.out.keep (hb.block _ HRT.out.lt), HMon.out, hnm⟩
      · rw [hks.2.2]
        have q0 := heap_last y4 (.cells #[.pointer (some ⟨y4.heap.size, 0, none⟩), .int .i64 A.k, .slice an1 A.nx.length cn1, .slice aa1 A.ac.length ca1, .pointer (some ⟨b, 0, none⟩), .slice (some ⟨g2, 0, none⟩) M.length M.length, .slice (some ⟨g3, 0, none⟩) M.length M.length, .int .i64 A.k, .slice (some ⟨R, 0, none⟩) a a, .int .i64 A.k, .slice (some ⟨R, a, none⟩) a a, .int .i64 (n : Int), .slice (some ⟨R, d, none⟩) c c] 52)
        have e := hnm.1
        rw [q0]
        congr 3
        rw [e]
      · have h24 : Below y2.heap.size y2 y4 := go_on HY3.out HY4.out
        have q0 := HW2.out
        rw [hnm.1] at q0
        exact (q0.keep (h24.block g2 HW2.out.lt)).keep (hb.block g2 (by have := HW2.out.lt; have := h24.size; omega))
      · have q0 := HP3.out
        rw [hnm.1] at q0
        exact (q0.keep (HY4.out.block g3 HP3.out.lt)).keep (hb.block g3 (by have := HP3.out.lt; have := HY4.out.size; omega))
    have HBF : Hid (Below w.heap.size w (y4.alloc (.cells #[.pointer (some ⟨y4.heap.size, 0, none⟩), .int .i64 A.k, .slice an1 A.nx.length cn1, .slice aa1 A.ac.length ca1, .pointer (some ⟨b, 0, none⟩), .slice (some ⟨g2, 0, none⟩) M.length M.length, .slice (some ⟨g3, 0, none⟩) M.length M.length, .int .i64 A.k, .slice (some ⟨R, 0, none⟩) a a, .int .i64 A.k, .slice (some ⟨R, a, none⟩) a a, .int .i64 (n : Int), .slice (some ⟨R, d, none⟩) c c] 52))) := by
      have q := go_on HB1.out K4.out
      exact go_on q (below_new _ _)
    clear S0 hy1 hy2 hy3 hy4
    go_wp2_with fail
    go_ret2
    exact .inr ⟨y4.heap.size, M, N, rfl, HE.out, ⟨_, _, _, _, _, _, _, _, _, _, _, _, _, _, _, _, _, HMP.out⟩, HBF.out⟩
end Go.Proofs.Ytlohfeogaalfcab

namespace Go.Proofs.Ytlohfeogaalfcab
open Go Go.RowKit Go.Lib Go.Maps
set_option linter.unusedVariables false
attribute [-instance] List.instBEq instBEqProd

theorem eq_ptrM (a : Addr) (w : World) : (binOp .eql 26 (.pointer (some a)) (.pointer (some a))).run Try.prog w = .ok (.bool true) w := by
  simp only [binOp]
  simp only [Op.equal, Op.maxDepth]
  rw [show (10000 : Nat) = 9999 + 1 from rfl, Op.equalIn]
  simp [Sem.run_bind, run_underlying Try.underlying26, sameAddr]

set_option maxHeartbeats 1000000 in
set_option maxRecDepth 100000 in
theorem mmade_any {w : World} {ob : Nat} {A : Aut} {M : List (List Nat)} {N : List Nat} (h : MO w ob A M N) : Calls Try.prog 15 #[.pointer (some ⟨ob, 0, none⟩)] w fun e w' => e = .returned (.bool true) ∧ w = w' := by
  obtain ⟨base, bt, b, mb, gw, ga, R, n, a, c, d, vl, D, an, cn, aa, ca, h⟩ := h
  have h0 : w.cell? ⟨ob, 0, none⟩ = some (.pointer (some ⟨ob, 0, none⟩)) := cell_at h.box rfl
  have he := eq_ptrM ⟨ob, 0, none⟩ w
  clear h
  go_enter Try.func15, Try.ntmps15
  go_wp2_with fail
  go_ret
  exact ⟨rfl, rfl⟩

set_option maxHeartbeats 1000000 in
set_option maxRecDepth 100000 in
theorem mlen_any {w : World} {ob : Nat} {A : Aut} {M : List (List Nat)} {N : List Nat} (h : MO w ob A M N) : Calls Try.prog 6 #[.pointer (some ⟨ob, 0, none⟩)] w fun e w' => e = .returned (.int .i64 (M.length : Nat)) ∧ w = w' := by
  have H : Hid (MO w ob A M N) := h
  obtain ⟨base, bt, b, mb, gw, ga, R, n, a, c, d, vl, D, an, cn, aa, ca, h⟩ := h
  have h5 : w.cell? ⟨ob, 5, none⟩ = some (.slice (some ⟨gw, 0, none⟩) n n) := cell_at h.box rfl
  have HN : Hid (M.length = n) := h.num.1
  clear h
  go_enter Try.func6, Try.ntmps6
  go_wp2_with fail
  refine (mmade_any H.out).mono ?_
  rintro e w1 ⟨rfl, rfl⟩
  go_wp2_with fail
  go_ret
  exact ⟨by rw [HN.out]; rfl, rfl⟩

/-- What check answers. -/
def mck (n : Nat) (i : Int) : Int := if 0 ≤ i ∧ i < n then 0 else 11

set_option maxHeartbeats 1000000 in
set_option maxRecDepth 100000 in
theorem mcheck_any {w : World} {ob : Nat} {A : Aut} {M : List (List Nat)} {N : List Nat} (h : MO w ob A M N) (i : Int) : Calls Try.prog 81 #[.pointer (some ⟨ob, 0, none⟩), .int .i64 i] w fun e w' => e = .returned (.int .i64 (mck M.length i)) ∧ w = w' := by
  have H : Hid (MO w ob A M N) := h
  obtain ⟨base, bt, b, mb, gw, ga, R, n, a, c, d, vl, D, an, cn, aa, ca, h⟩ := h
  have h5 : w.cell? ⟨ob, 5, none⟩ = some (.slice (some ⟨gw, 0, none⟩) n n) := cell_at h.box rfl
  have HN : Hid (M.length = n) := h.num.1
  rw [h.num.1]
  clear h
  by_cases h0 : 0 ≤ i
  · by_cases h1 : i < n
    · have HE : Hid (mck n i = 0) := by show mck n i = 0; unfold mck; rw [if_pos ⟨h0, h1⟩]
      have h0' : decide (i < 0) = false := by simpa using h0
      have h1' : ¬ (n : Int) ≤ i := by omega
      have h1d : decide ((n : Int) ≤ i) = false := by simpa using h1
      go_enter Try.func81, Try.ntmps81
      go_wp2_with fail
      refine (mmade_any H.out).mono ?_
      rintro e w1 ⟨rfl, rfl⟩
      go_wp2_with fail
      go_ret
      exact ⟨ret_intJ HE.out.symm, rfl⟩
    · have HE : Hid (mck n i = 11) := by show mck n i = 11; unfold mck; rw [if_neg (fun q => h1 q.2)]
      have h0' : decide (i < 0) = false := by simpa using h0
      have h1' : (n : Int) ≤ i := by omega
      have h1d : decide ((n : Int) ≤ i) = true := by simpa using h1'
      go_enter Try.func81, Try.ntmps81
      go_wp2_with fail
      refine (mmade_any H.out).mono ?_
      rintro e w1 ⟨rfl, rfl⟩
      go_wp2_with fail
      go_ret
      exact ⟨ret_intJ HE.out.symm, rfl⟩
  · have HE : Hid (mck n i = 11) := by show mck n i = 11; unfold mck; rw [if_neg (fun q => h0 q.1)]
    have h0' : i < 0 := by omega
    have h0d : decide (i < 0) = true := by simpa using h0'
    go_enter Try.func81, Try.ntmps81
    go_wp2_with fail
    refine (mmade_any H.out).mono ?_
    rintro e w1 ⟨rfl, rfl⟩
    go_wp2_with fail
    go_ret
    exact ⟨ret_intJ HE.out.symm, rfl⟩

set_option maxHeartbeats 1000000 in
set_option maxRecDepth 100000 in
theorem mproduct_ok {w : World} {ob : Nat} {A : Aut} {M : List (List Nat)} {N : List Nat} (h : MO w ob A M N) (i j : Nat) (hi : i < M.length) (hj : j < M.length) : Calls Try.prog 73 #[.pointer (some ⟨ob, 0, none⟩), .int .i64 i, .int .i64 j] w fun e w' => e = .returned (.tuple #[.int .i64 (pr A.k.toNat N i j : Nat), .int .i64 0]) ∧ Below w.heap.size w w' := by
  have H : Hid (MO w ob A M N) := h
  have hmo := h
  obtain ⟨base, bt, b, mb, gw, ga, R, n, a, c, d, vl, D, an, cn, aa, ca, h⟩ := h
  have HP : Hid (pr A.k.toNat N i j < M.length) := h.mon.pr_lt hi hj
  have hnm := h.num
  have hms := h.mon.most
  have c11 : w.cell? ⟨ob, 11, none⟩ = some (.int .i64 (n : Int)) := cell_at h.box rfl
  have c12 : w.cell? ⟨ob, 12, none⟩ = some (.slice (some ⟨R, d, none⟩) c c) := cell_at h.box rfl
  have HCI : Hid (mck M.length i = 0) := by show mck _ _ = 0; unfold mck; rw [if_pos ⟨by omega, by omega⟩]
  have HCJ : Hid (mck M.length j = 0) := by show mck _ _ = 0; unfold mck; rw [if_pos ⟨by omega, by omega⟩]
  obtain ⟨q, hq⟩ : ∃ q, i * n = q := ⟨_, rfl⟩
  obtain ⟨v, hv⟩ : ∃ v, pr A.k.toNat N i j = v := ⟨_, rfl⟩
  have hn2 : n * n ≤ 512 * 512 := Nat.mul_le_mul (by omega) (by omega)
  have hqlt : q + j < c := by rw [← hq, ← hnm.2.2.1]; exact idx_lt (by omega) (by omega)
  have hcell := h.rt.prod (i := i) (j := j) (by omega) (by omega) trivial
  rw [hv, hnm.2.1, hnm.2.2.2, hq] at hcell
  rw [hv] at HP
  rw [hv]
  have HG : Hid (Calls Try.prog 53 #[.agg #[.int .i64 (n : Int), .slice (some ⟨R, d, none⟩) c c], .int .i64 i, .int .i64 j] w fun e w' => e = .returned (.int .i64 v) ∧ Below w.heap.size w w') := gat_any R d n i j c c q v hq hqlt (by have := HP.out; omega) (by omega) w hcell h.rt.lt
  clear h hmo hnm hcell hn2 hq hqlt hv
  go_enter Try.func73, Try.ntmps73
  go_wp2_with fail
  refine (mcheck_any H.out i).mono ?_
  rintro e w1 ⟨rfl, rfl⟩
  rw [HCI.out]
  go_wp2_with fail
  refine (mcheck_any H.out j).mono ?_
  rintro e w1 ⟨rfl, rfl⟩
  rw [HCJ.out]
  go_wp2_with fail
  refine HG.out.mono ?_
  rintro e w1 ⟨rfl, hb⟩
  go_wp2_with fail
  go_ret2
  exact ⟨rfl, hb⟩

end Go.Proofs.Ytlohfeogaalfcab

namespace Go.Proofs.Ytlohfeogaalfcab
open Go.RowKit Go.Lib Go.Shelf

end Go.Proofs.Ytlohfeogaalfcab

namespace Go.Proofs.Ytlohfeogaalfcab
open Go Go.RowKit Go.Lib Go.Maps
set_option linter.unusedVariables false
attribute [-instance] List.instBEq instBEqProd

def itP (w : World) (k : Nat) : Nat := match w.heap[k]? with | some (.stringIter _ p) => p | _ => 0

theorem itP_eq {w : World} {k : Nat} {s : ByteArray} {p : Nat} (h : w.heap[k]? = some (.stringIter s p)) : itP w k = p := by unfold itP; rw [h]

theorem it_below {n k : Nat} {w w1 : World} {s : ByteArray} {p : Nat} (h : Below n w w1) (hk : n ≤ k) : Below n w (w1.iterAt k s p) :=
  h.trans ⟨rfl, rfl, rfl, by simp [World.iterAt], fun j hj => iterAt_other _ _ _ _ _ (by omega)⟩

end Go.Proofs.Ytlohfeogaalfcab

namespace Go.Proofs.Ytlohfeogaalfcab
open Go Go.RowKit Go.Lib Go.Maps
set_option linter.unusedVariables false
attribute [-instance] List.instBEq instBEqProd

/-- The automaton of (ab)*. -/
def pA : Aut := ⟨2, [1, 2, 2, 0, 2, 2], [true, false, false]⟩

theorem pA_good : Good pA := by
  refine ⟨by decide, by decide, by decide, by decide, by decide, ?_, ?_⟩
  · decide
  · decide

def pM : List (List Nat) := [[0, 1, 2], [1, 2, 2], [2, 0, 2], [2, 2, 2], [0, 2, 2], [2, 1, 2]]

def pN : List Nat := [1, 2, 3, 4, 5, 3, 3, 3, 1, 3, 3, 2]

theorem pA_el : mEl pA = some (pM, pN) := by decide +kernel

theorem pA_facts : pr 2 pN 4 1 = 1 ∧ mr 2 pN 0 [1, 1] = 3 ∧ lw 2 pN 3 = [0, 0] := by decide +kernel

/-- What Element answers. -/
def elV (A : Aut) (N : List Nat) (s : ByteArray) : Value := if chk A.k s = 0 then .tuple #[.int .i64 (mr A.k.toNat N 0 (lets s) : Nat), .int .i64 0] else .tuple #[.int .i64 0, .int .i64 (chk A.k s)]

end Go.Proofs.Ytlohfeogaalfcab

namespace Go.Proofs.Ytlohfeogaalfcab
open Go Go.RowKit Go.Lib Go.Maps
set_option linter.unusedVariables false
attribute [-instance] List.instBEq instBEqProd

theorem owE_ok {A : Aut} (h : owE A ByteArray.empty = 0) : Good A ∧ A.ac.length ≤ 64 := by
  unfold owE at h
  split at h
  · rename_i hc
    split at h
    · cases h
    · exact ⟨chkA_good hc, by omega⟩
  · cases h

theorem owE_good {A : Aut} (G : Good A) (h : A.ac.length ≤ 64) : owE A ByteArray.empty = 0 := by
  unfold owE
  rw [if_pos (by unfold chkA; rw [if_pos G]), if_neg (by omega)]
  exact chk_empty G

set_option maxHeartbeats 2000000 in
set_option maxRecDepth 100000 in
theorem find_bad (v : Value) (A : Aut) (w : World) (h : AR w v A) (hm : A.nx.length ≤ 9223372036854775806) (hm2 : A.ac.length ≤ 9223372036854775806) (hE : owE A ByteArray.empty ≠ 0) :
    Calls Try.prog 20 #[v] w fun e w' => e = .returned (.tuple #[.pointer none, .int .i64 (owE A ByteArray.empty)]) ∧ Below w.heap.size w w' := by
  obtain ⟨an, cn, aa, ca, e, h1, h2⟩ := h.is
  have HA : Hid (∀ w', Below w.heap.size w w' → AR w' v A) := fun w' hb => h.stay hb
  clear h h1 h2
  subst e
  obtain ⟨w0, hw0⟩ : ∃ w0, w0 = w.alloc (.cells #[.int .i64 A.k, .slice an A.nx.length cn, .slice aa A.ac.length ca] 25) := ⟨_, rfl⟩
  have HB0 : Hid (Below w.heap.size w w0) := by show Below _ _ _; rw [hw0]; exact below_new _ _
  have HW0 : Hid (w0 = w.alloc (.cells #[.int .i64 A.k, .slice an A.nx.length cn, .slice aa A.ac.length ca] 25)) := hw0
  obtain ⟨E, hEE⟩ : ∃ E, owE A ByteArray.empty = E := ⟨_, rfl⟩
  have HOW : Hid (∀ y, Below w.heap.size w y → Calls Try.prog 39 #[.agg #[.int .i64 A.k, .slice an A.nx.length cn, .slice aa A.ac.length ca], .string ByteArray.empty] y fun e w' => e = .returned (.tuple #[.agg #[.int .i64 0, .int .u64 0, .int .u64 0, .int .u64 0, .int .u64 0, .int .u64 0, .int .u64 0, .int .u64 0], .int .i64 E]) ∧ Below y.heap.size y w') := fun y hy => by
    have := ofWord_any _ A y (HA.out y hy) hm hm2 ByteArray.empty (by show 0 ≤ _; omega)
    unfold owV at this
    rw [if_neg hE, hEE] at this
    exact this
  rw [hEE] at hE ⊢
  have hq0 : (E != 0) = true := by rw [bne_iff_ne]; exact hE
  clear hw0 hEE hE
  go_enter Try.func20, Try.ntmps20
  go_wp2_with fail
  rw [← HW0.out]
  refine (HOW.out _ HB0.out).mono ?_
  rintro e w1 ⟨rfl, hB1⟩
  have HB1 : Hid (Below w.heap.size w w1) := go_on HB0.out hB1
  have HB2 : Hid (Below w.heap.size w (w1.alloc (.cells #[.int .i64 0, .int .u64 0, .int .u64 0, .int .u64 0, .int .u64 0, .int .u64 0, .int .u64 0, .int .u64 0] 90))) := go_on HB1.out (below_new _ _)
  clear hB1
  go_wp2_with fail
  go_ret2
  exact ⟨rfl, HB2.out⟩

/-- Build's error. -/
noncomputable def bdE (A : Aut) : Int := if owE A ByteArray.empty = 0 then (if (mEl A).isSome = true then 0 else 140) else owE A ByteArray.empty

/-- What Build answers. -/
def BdA (A : Aut) (w : World) (e : Ending) (w' : World) : Prop :=
  (bdE A ≠ 0 ∧ e = .returned (.tuple #[.pointer none, .int .i64 (bdE A)]) ∧ Below w.heap.size w w') ∨
  ∃ ob M N, e = .returned (.tuple #[.pointer (some ⟨ob, 0, none⟩), .int .i64 0]) ∧ Good A ∧ A.ac.length ≤ 64 ∧ mEl A = some (M, N) ∧ MO w' ob A M N ∧ Below w.heap.size w w'

set_option maxHeartbeats 2000000 in
set_option maxRecDepth 100000 in
theorem build_bad (v : Value) (A : Aut) (w : World) (h : AR w v A) (hm : A.nx.length ≤ 9223372036854775806) (hm2 : A.ac.length ≤ 9223372036854775806) (hE : owE A ByteArray.empty ≠ 0) :
    Calls Try.prog 10 #[v] w fun e w' => e = .returned (.tuple #[.pointer none, .int .i64 (owE A ByteArray.empty)]) ∧ Below w.heap.size w w' := by
  obtain ⟨an, cn, aa, ca, e, h1, h2⟩ := h.is
  have HA : Hid (∀ w', Below w.heap.size w w' → AR w' v A) := fun w' hb => h.stay hb
  clear h h1 h2
  subst e
  obtain ⟨w0, hw0⟩ : ∃ w0, w0 = w.alloc (.cells #[.int .i64 A.k, .slice an A.nx.length cn, .slice aa A.ac.length ca] 25) := ⟨_, rfl⟩
  have HB0 : Hid (Below w.heap.size w w0) := by show Below _ _ _; rw [hw0]; exact below_new _ _
  have HW0 : Hid (w0 = w.alloc (.cells #[.int .i64 A.k, .slice an A.nx.length cn, .slice aa A.ac.length ca] 25)) := hw0
  obtain ⟨E, hEE⟩ : ∃ E, owE A ByteArray.empty = E := ⟨_, rfl⟩
  have HFD : Hid (∀ y, Below w.heap.size w y → Calls Try.prog 20 #[.agg #[.int .i64 A.k, .slice an A.nx.length cn, .slice aa A.ac.length ca]] y fun e w' => e = .returned (.tuple #[.pointer none, .int .i64 E]) ∧ Below y.heap.size y w') := fun y hy => by
    have := find_bad _ A y (HA.out y hy) hm hm2 hE
    rw [hEE] at this
    exact this
  rw [hEE] at hE ⊢
  have hq0 : (E != 0) = true := by rw [bne_iff_ne]; exact hE
  clear hw0 hEE hE
  go_enter Try.func10, Try.ntmps10
  go_wp2_with fail
  rw [← HW0.out]
  refine (HFD.out _ HB0.out).mono ?_
  rintro e w1 ⟨rfl, hB1⟩
  have HB1 : Hid (Below w.heap.size w w1) := go_on HB0.out hB1
  clear hB1
  go_wp2_with fail
  go_ret2
  exact ⟨rfl, HB1.out⟩

theorem build_all (v : Value) (A : Aut) (w : World) (h : AR w v A) (hm : A.nx.length ≤ 9223372036854775806) (hm2 : A.ac.length ≤ 9223372036854775806) :
    Calls Try.prog 10 #[v] w (BdA A w) := by
  by_cases hE : owE A ByteArray.empty = 0
  · obtain ⟨G, h64⟩ := owE_ok hE
    refine (build_any v A w h G h64).mono ?_
    rintro e w' (⟨hn, rfl, hb⟩ | ⟨ob, M, N, rfl, he, hmo, hb⟩)
    · have e1 : bdE A = 140 := by unfold bdE; rw [if_pos hE, hn]; rfl
      exact .inl ⟨by rw [e1]; decide, by rw [e1], hb⟩
    · exact .inr ⟨ob, M, N, rfl, G, h64, he, hmo, hb⟩
  · refine (build_bad v A w h hm hm2 hE).mono ?_
    rintro e w' ⟨rfl, hb⟩
    have e1 : bdE A = owE A ByteArray.empty := by unfold bdE; rw [if_neg hE]
    exact .inl ⟨by rw [e1]; exact hE, by rw [e1], hb⟩

/-- What the law's built answers. -/
def BtQ (A : Aut) (w : World) (e : Ending) (w' : World) : Prop :=
  (e = .returned (.tuple #[.pointer none, .bool false]) ∧ Below w.heap.size w w') ∨
  ∃ ob M N, e = .returned (.tuple #[.pointer (some ⟨ob, 0, none⟩), .bool true]) ∧ Good A ∧ A.ac.length ≤ 64 ∧ mEl A = some (M, N) ∧ MO w' ob A M N ∧ Below w.heap.size w w'

end Go.Proofs.Ytlohfeogaalfcab

namespace Go.Proofs.Ytlohfeogaalfcab
set_option linter.unusedVariables false

/-- Is it an element? -/
def hasE (n : Nat) (i : Int) : Bool := decide (0 ≤ i ∧ i < n)
end Go.Proofs.Ytlohfeogaalfcab

namespace Go.Proofs.Ytlohfeogaalfcab
set_option linter.unusedVariables false

/-- First places rise. -/
theorem Mon.first {A : Aut} {M : List (List Nat)} {N : List Nat} (h : Mon A M N) {j : Nat} (h0 : 0 < j) (hj : j < M.length) : N[N.idxOf j]? = some j ∧ N.idxOf j / A.k.toNat < j ∧ ∀ q i, q < N.idxOf j → N[q]? = some i → i < j := by
  obtain ⟨p, hp, hq, hr⟩ := h.bi.fresh j h0 hj
  have e := idxOf_first hp (fun q hqp e => by have := hr q j hqp e; omega)
  rw [e]
  exact ⟨hp, hq, hr⟩
theorem slt_trans {u v w : List Nat} (h : slt u v) (g : slt v w) : slt u w := by
  refine ⟨sle_trans h.1 g.1, fun e => ?_⟩
  subst e
  exact h.2 (sle_anti h.1 g.1)
theorem slt_le {u v w : List Nat} (h : slt u v) (g : sle v w) : slt u w := by
  refine ⟨sle_trans h.1 g, fun e => ?_⟩
  subst e
  exact h.2 (sle_anti h.1 g)
theorem Mon.rise {A : Aut} {M : List (List Nat)} {N : List Nat} (h : Mon A M N) : ∀ j, j < M.length → ∀ i, i < j → slt (Go.Proofs.Ytlohfeogaalfcab.lw A.k.toNat N i) (Go.Proofs.Ytlohfeogaalfcab.lw A.k.toNat N j) := by
  intro j
  induction j using Nat.strongRecOn with
  | _ j ih =>
    intro hj i hij
    obtain ⟨a1, a2, a3⟩ := h.first (by omega) hj
    rw [lw_step h.fst (s := j) (by omega) hj]
    by_cases e : i = 0
    · subst e
      rw [lw_zero]
      exact slt_nil _ _
    · obtain ⟨b1, b2, b3⟩ := h.first (j := i) (by omega) (by omega)
      have hlt : N.idxOf i < N.idxOf j := by
        by_cases q : N.idxOf i < N.idxOf j
        · exact q
        · by_cases q2 : N.idxOf i = N.idxOf j
          · rw [q2, a1] at b1; simp at b1; omega
          · have := b3 _ _ (show N.idxOf j < N.idxOf i by omega) a1
            omega
      rw [lw_step h.fst (s := i) (by omega) (by omega)]
      have hd : N.idxOf i / A.k.toNat ≤ N.idxOf j / A.k.toNat := Nat.div_le_div_right (Nat.le_of_lt hlt)
      by_cases c : N.idxOf i / A.k.toNat = N.idxOf j / A.k.toNat
      · rw [c]
        apply slt_letter
        have e1 := Nat.div_add_mod (N.idxOf i) A.k.toNat
        have e2 := Nat.div_add_mod (N.idxOf j) A.k.toNat
        rw [c] at e1
        omega
      · exact slt_snoc (ih _ a2 (by omega) _ (by omega)) _ _
/-- A letter behind an element: no later word. -/
theorem Mon.step_le {A : Aut} {M : List (List Nat)} {N : List Nat} (h : Mon A M N) {x c : Nat} (hx : x < M.length) (hc : c < A.k.toNat) : sle (Go.Proofs.Ytlohfeogaalfcab.lw A.k.toNat N (N.getD (x * A.k.toNat + c) 0)) (Go.Proofs.Ytlohfeogaalfcab.lw A.k.toNat N x ++ [c]) := by
  obtain ⟨l, _, h2, hp⟩ := h.at hx hc
  obtain ⟨j, hj⟩ : ∃ j, N.getD (x * A.k.toNat + c) 0 = j := ⟨_, rfl⟩
  rw [hj] at h2 ⊢
  have hjl := (List.getElem?_eq_some_iff.1 h2).1
  by_cases e : j = 0
  · subst e; rw [lw_zero]; exact sle_nil _
  · obtain ⟨a1, a2, a3⟩ := h.first (j := j) (by omega) hjl
    have hle : N.idxOf j ≤ x * A.k.toNat + c := by
      by_cases q : N.idxOf j ≤ x * A.k.toNat + c
      · exact q
      · have hn : N[x * A.k.toNat + c]? = some j := by rw [← hj, List.getElem?_eq_getElem hp, getD_of (List.getElem?_eq_getElem hp)]
        have := a3 _ _ (by omega) hn
        omega
    rw [lw_step h.fst (s := j) (by omega) hjl]
    have e1 : (x * A.k.toNat + c) / A.k.toNat = x := by rw [Nat.mul_comm, Nat.mul_add_div (by omega), Nat.div_eq_of_lt hc]; rfl
    have e2 : (x * A.k.toNat + c) % A.k.toNat = c := by rw [Nat.mul_comm, Nat.mul_add_mod, Nat.mod_eq_of_lt hc]
    have hd : N.idxOf j / A.k.toNat ≤ x := by rw [← e1]; exact Nat.div_le_div_right hle
    by_cases q : N.idxOf j / A.k.toNat = x
    · rw [q]
      have e3 := Nat.div_add_mod (N.idxOf j) A.k.toNat
      rw [q] at e3
      by_cases q2 : N.idxOf j % A.k.toNat = c
      · rw [q2]; exact sle_refl _
      · refine (slt_letter _ ?_).1
        have : A.k.toNat * x = x * A.k.toNat := Nat.mul_comm _ _
        omega
    · exact (slt_snoc (h.rise x hx _ (by omega)) _ _).1
theorem snoc_ind {p : List Nat → Prop} (h0 : p []) (h1 : ∀ u c, p u → p (u ++ [c])) : ∀ u, p u := by
  intro u
  have : ∀ n u, u.length = n → p u := by
    intro n
    induction n with
    | zero => intro u hu; rw [List.length_eq_zero_iff.1 hu]; exact h0
    | succ n ih =>
      intro u hu
      have hne : u ≠ [] := by intro e; rw [e] at hu; simp at hu
      rw [← List.dropLast_concat_getLast hne]
      exact h1 _ _ (ih _ (by simp; omega))
  exact this _ u rfl
/-- No word ahead of an element's least word has that element. -/
theorem Mon.least {A : Aut} {M : List (List Nat)} {N : List Nat} (h : Mon A M N) : ∀ u, Lt A.k.toNat u → sle (Go.Proofs.Ytlohfeogaalfcab.lw A.k.toNat N (mr A.k.toNat N 0 u)) u := by
  apply snoc_ind
  · intro _
    rw [mr_nil, lw_zero]
    exact sle_refl _
  · intro u c ih hu
    have := ih hu.left
    rw [mr_app, mr_one]
    exact sle_trans (h.step_le (h.lt hu.left h.pos) (hu.right c (by simp))) (sle_app this _)
theorem lxl_pre (a : List Nat) : ∀ {u v : List Nat}, lxl u v → lxl (a ++ u) (a ++ v) := by
  intro u v h
  exact lxl_app u v rfl (lxl_refl a) (fun _ => h)
theorem sle_pre (a : List Nat) {u v : List Nat} (h : sle u v) : sle (a ++ u) (a ++ v) := by
  rcases h with h | ⟨h, g⟩
  · exact .inl (by simp; omega)
  · exact .inr ⟨by simp; omega, lxl_pre a g⟩
/-- Pieces of least words are least words. -/
theorem Mon.piece {A : Aut} {M : List (List Nat)} {N : List Nat} (h : Mon A M N) {x : Nat} (hx : x < M.length) {a b c : List Nat} (e : Go.Proofs.Ytlohfeogaalfcab.lw A.k.toNat N x = a ++ b ++ c) : Go.Proofs.Ytlohfeogaalfcab.lw A.k.toNat N (mr A.k.toNat N 0 b) = b := by
  obtain ⟨hl, hw⟩ := h.lw x hx
  rw [e] at hl hw
  have hb : Lt A.k.toNat b := hl.left.right
  have hv := h.least b hb
  obtain ⟨hvl, hvw⟩ := h.lw _ (h.lt hb h.pos)
  obtain ⟨v, hvE⟩ : ∃ v, Go.Proofs.Ytlohfeogaalfcab.lw A.k.toNat N (mr A.k.toNat N 0 b) = v := ⟨_, rfl⟩
  rw [hvE] at hv hvl hvw ⊢
  have hs : mr A.k.toNat N 0 (a ++ v ++ c) = x := by
    rw [mr_app, mr_app, ← hw, mr_app, mr_app]
    congr 1
    rw [← h.mr_pr (h.lt hl.left.left h.pos) hvl, ← h.mr_pr (h.lt hl.left.left h.pos) hb, hvw]
  have h1 := h.least (a ++ v ++ c) ((hl.left.left.app hvl).app hl.right)
  rw [hs, e] at h1
  have h2 : sle (a ++ v ++ c) (a ++ b ++ c) := sle_app (sle_pre a hv) c
  have := sle_anti h2 h1
  rw [List.append_left_inj, List.append_right_inj] at this
  exact this
end Go.Proofs.Ytlohfeogaalfcab

namespace Go.Proofs.Ytlohfeogaalfcab
set_option linter.unusedVariables false

theorem least_of {p : Nat → Prop} (h : ∃ n, p n) : ∃ n, p n ∧ ∀ m, m < n → ¬ p m := by
  obtain ⟨n, hn⟩ := h
  induction n using Nat.strongRecOn with
  | _ n ih =>
    by_cases c : ∃ m, m < n ∧ p m
    · obtain ⟨m, hm, hp⟩ := c
      exact ih m hm hp
    · exact ⟨n, hn, fun m hm hp => c ⟨m, hm, hp⟩⟩

/-- Each point has its tail and its ring. -/
theorem tr_ex {f : Nat → Nat} {n i : Nat} (h : ∀ i, i < n → f i < n) (hi : i < n) : ∃ t r, TR f i t r := by
  have h1 : ∃ b, ∃ a, a < b ∧ orb f i a = orb f i b := by
    apply Classical.byContradiction
    intro hc
    have := nodup_le n ((List.range (n + 1)).map (orb f i)) (map_nodup (fun a b hab hb e => hc ⟨b, a, hab, e⟩)) (fun x hx => by
      obtain ⟨k, _, rfl⟩ := List.mem_map.1 hx
      exact orb_lt h hi k)
    simp at this
    omega
  obtain ⟨b, ⟨a, hab, e⟩, hm⟩ := least_of h1
  refine ⟨a, b - a, ?_, ?_, by omega⟩
  · intro c d hcd hd q
    exact hm d (by omega) ⟨c, hcd, q⟩
  · rw [show a + (b - a) = b by omega, e]

/-- Multiplying by i from the right. -/
def rm (K : Nat) (N : List Nat) (i : Nat) : Nat → Nat := fun x => pr K N x i

/-- The power n of i. -/
def pwN (K : Nat) (N : List Nat) (i n : Nat) : Nat := orb (rm K N i) 0 n

theorem pwN_zero (K : Nat) (N : List Nat) (i : Nat) : pwN K N i 0 = 0 := rfl

theorem pwN_succ (K : Nat) (N : List Nat) (i n : Nat) : pwN K N i (n + 1) = pr K N (pwN K N i n) i := rfl

theorem Mon.rm_lt {A : Aut} {M : List (List Nat)} {N : List Nat} (h : Mon A M N) {i : Nat} (hi : i < M.length) : ∀ x, x < M.length → rm A.k.toNat N i x < M.length := fun x hx => h.pr_lt hx hi

theorem Mon.pw_lt {A : Aut} {M : List (List Nat)} {N : List Nat} (h : Mon A M N) {i : Nat} (hi : i < M.length) (n : Nat) : pwN A.k.toNat N i n < M.length := orb_lt (h.rm_lt hi) h.pos n

theorem Mon.pw_one {A : Aut} {M : List (List Nat)} {N : List Nat} (h : Mon A M N) {i : Nat} (hi : i < M.length) : pwN A.k.toNat N i 1 = i := h.one_pr hi

theorem Mon.pw_add {A : Aut} {M : List (List Nat)} {N : List Nat} (h : Mon A M N) {i : Nat} (hi : i < M.length) (a : Nat) : ∀ b, pwN A.k.toNat N i (a + b) = Go.Proofs.Ytlohfeogaalfcab.pr A.k.toNat N (pwN A.k.toNat N i a) (pwN A.k.toNat N i b)
  | 0 => rfl
  | b + 1 => by rw [← Nat.add_assoc, pwN_succ, h.pw_add hi a b, h.assoc (h.pw_lt hi a) (h.pw_lt hi b) hi, pwN_succ]

theorem Mon.pw_mul {A : Aut} {M : List (List Nat)} {N : List Nat} (h : Mon A M N) {i : Nat} (hi : i < M.length) (a : Nat) : ∀ b, pwN A.k.toNat N (pwN A.k.toNat N i a) b = pwN A.k.toNat N i (a * b)
  | 0 => rfl
  | b + 1 => by rw [pwN_succ, h.pw_mul hi a b, Nat.mul_succ, h.pw_add hi]

theorem Mon.pw_idem {A : Aut} {M : List (List Nat)} {N : List Nat} (h : Mon A M N) {x : Nat} (hx : x < M.length) (e : Go.Proofs.Ytlohfeogaalfcab.pr A.k.toNat N x x = x) : ∀ n, 1 ≤ n → pwN A.k.toNat N x n = x
  | 0, h0 => by omega
  | 1, _ => h.pw_one hx
  | n + 2, _ => by rw [pwN_succ, h.pw_idem hx e (n + 1) (by omega), e]

/-- w is the idempotent among i's powers. -/
def OmQ (K : Nat) (N : List Nat) (i w : Nat) : Prop := ∃ n, 1 ≤ n ∧ pwN K N i n = w ∧ pr K N w w = w

theorem Mon.om_uniq {A : Aut} {M : List (List Nat)} {N : List Nat} (h : Mon A M N) {i : Nat} (hi : i < M.length) {x y : Nat} (hx : OmQ A.k.toNat N i x) (hy : OmQ A.k.toNat N i y) : x = y := by
  obtain ⟨n, n1, rfl, hn⟩ := hx
  obtain ⟨m, m1, rfl, hm⟩ := hy
  rw [← h.pw_idem (h.pw_lt hi n) hn m m1, ← h.pw_idem (h.pw_lt hi m) hm n n1, h.pw_mul hi, h.pw_mul hi, Nat.mul_comm]

theorem Mon.om_lt {A : Aut} {M : List (List Nat)} {N : List Nat} (h : Mon A M N) {i : Nat} (hi : i < M.length) {x : Nat} (hx : OmQ A.k.toNat N i x) : x < M.length := by
  obtain ⟨n, _, rfl, _⟩ := hx
  exact h.pw_lt hi n

/-- A power is idempotent just from the index on, at multiples of the period. -/
theorem Mon.idem_iff {A : Aut} {M : List (List Nat)} {N : List Nat} (h : Mon A M N) {i : Nat} (hi : i < M.length) {t r : Nat} (R : TR (rm A.k.toNat N i) 0 t r) (n : Nat) (hn : 1 ≤ n) : Go.Proofs.Ytlohfeogaalfcab.pr A.k.toNat N (pwN A.k.toNat N i n) (pwN A.k.toNat N i n) = pwN A.k.toNat N i n ↔ t ≤ n ∧ r ∣ n := by
  rw [← h.pw_add hi]
  exact R.iff n n hn

theorem Mon.om_ex {A : Aut} {M : List (List Nat)} {N : List Nat} (h : Mon A M N) {i : Nat} (hi : i < M.length) : ∃ n, 1 ≤ n ∧ n ≤ M.length ∧ Go.Proofs.Ytlohfeogaalfcab.pr A.k.toNat N (pwN A.k.toNat N i n) (pwN A.k.toNat N i n) = pwN A.k.toNat N i n := by
  obtain ⟨t, r, R⟩ := tr_ex (h.rm_lt hi) h.pos
  have hle := R.le (h.rm_lt hi) h.pos
  have hr := R.pos
  by_cases ht : t = 0
  · exact ⟨r, hr, by omega, (h.idem_iff hi R r hr).2 ⟨by omega, Nat.dvd_refl _⟩⟩
  · have e := Nat.mod_add_div (t + r - 1) r
    have hm := Nat.mod_lt (t + r - 1) hr
    refine ⟨r * ((t + r - 1) / r), by omega, by omega, (h.idem_iff hi R _ (by omega)).2 ⟨by omega, Nat.dvd_mul_right _ _⟩⟩

/-- Powers of products, turned about. -/
theorem Mon.pw_turn {A : Aut} {M : List (List Nat)} {N : List Nat} (h : Mon A M N) {i j : Nat} (hi : i < M.length) (hj : j < M.length) : ∀ n, pwN A.k.toNat N (Go.Proofs.Ytlohfeogaalfcab.pr A.k.toNat N i j) (n + 1) = Go.Proofs.Ytlohfeogaalfcab.pr A.k.toNat N (Go.Proofs.Ytlohfeogaalfcab.pr A.k.toNat N i (pwN A.k.toNat N (Go.Proofs.Ytlohfeogaalfcab.pr A.k.toNat N j i) n)) j
  | 0 => by rw [h.pw_one (h.pr_lt hi hj)]; rfl
  | n + 1 => by
    have hji := h.pr_lt hj hi
    have hp := h.pw_lt hji n
    rw [pwN_succ, h.pw_turn hi hj n, pwN_succ, h.assoc (h.pr_lt hi hp) hj (h.pr_lt hi hj), ← h.assoc hj hi hj, ← h.assoc (h.pr_lt hi hp) hji hj, ← h.assoc hi hp hji]

theorem Mon.per_dvd {A : Aut} {M : List (List Nat)} {N : List Nat} (h : Mon A M N) {i j : Nat} (hi : i < M.length) (hj : j < M.length) {t r t' r' : Nat} (R : TR (rm A.k.toNat N (Go.Proofs.Ytlohfeogaalfcab.pr A.k.toNat N i j)) 0 t r) (R' : TR (rm A.k.toNat N (Go.Proofs.Ytlohfeogaalfcab.pr A.k.toNat N j i)) 0 t' r') : r ∣ r' := by
  have e : pwN A.k.toNat N (Go.Proofs.Ytlohfeogaalfcab.pr A.k.toNat N i j) (t' + 1 + r') = pwN A.k.toNat N (Go.Proofs.Ytlohfeogaalfcab.pr A.k.toNat N i j) (t' + 1) := by
    rw [show t' + 1 + r' = (t' + r') + 1 by omega, h.pw_turn hi hj, h.pw_turn hi hj]
    have : pwN A.k.toNat N (Go.Proofs.Ytlohfeogaalfcab.pr A.k.toNat N j i) (t' + r') = pwN A.k.toNat N (Go.Proofs.Ytlohfeogaalfcab.pr A.k.toNat N j i) t' := R'.back
    rw [this]
  exact ((R.iff _ _ R'.pos).1 e).2

theorem Mon.per_same {A : Aut} {M : List (List Nat)} {N : List Nat} (h : Mon A M N) {i j : Nat} (hi : i < M.length) (hj : j < M.length) {t r t' r' : Nat} (R : TR (rm A.k.toNat N (Go.Proofs.Ytlohfeogaalfcab.pr A.k.toNat N i j)) 0 t r) (R' : TR (rm A.k.toNat N (Go.Proofs.Ytlohfeogaalfcab.pr A.k.toNat N j i)) 0 t' r') : r = r' :=
  Nat.dvd_antisymm (h.per_dvd hi hj R R') (h.per_dvd hj hi R' R)

end Go.Proofs.Ytlohfeogaalfcab

namespace Go.Proofs.Ytlohfeogaalfcab
open Go Go.RowKit Go.Lib Go.Maps
set_option linter.unusedVariables false
attribute [-instance] List.instBEq instBEqProd

theorem SR.nat {w : World} {a : Option Addr} {xs : List Nat} (h : SR w a (nC xs)) {i : Nat} (hi : i < xs.length) : ∃ g o, a = some ⟨g, o, none⟩ ∧ g < w.heap.size ∧ w.cell? ⟨g, o + i, none⟩ = some (.int .i64 ((xs.getD i 0 : Nat) : Int)) :=
  h i _ (by simp [nC, hi, List.getD_eq_getElem?_getD])

/-- The product of elements one behind the other. -/
def prL (K : Nat) (N : List Nat) (L : List Nat) : Nat := L.foldl (pr K N) 0

theorem Mon.prL_lt {A : Aut} {M : List (List Nat)} {N : List Nat} (h : Mon A M N) {L : List Nat} (hL : ∀ x ∈ L, x < M.length) : prL A.k.toNat N L < M.length := by
  unfold prL
  have : ∀ (L : List Nat) (o : Nat), o < M.length → (∀ x ∈ L, x < M.length) → L.foldl (Go.Proofs.Ytlohfeogaalfcab.pr A.k.toNat N) o < M.length := by
    intro L
    induction L with
    | nil => intro o ho _; exact ho
    | cons y L ih => intro o ho hL; exact ih _ (h.pr_lt ho (hL y (by simp))) (fun x hx => hL x (by simp [hx]))
  exact this L 0 h.pos hL

set_option maxHeartbeats 1000000 in
set_option maxRecDepth 100000 in
theorem iprod_any {w : World} {ob : Nat} {A : Aut} {M : List (List Nat)} {N : List Nat} (h : MO w ob A M N) (a : Option Addr) (cap : Nat) (L : List Nat) (hL : ∀ x ∈ L, x < M.length) (hS : SR w a (nC L)) (hm : L.length ≤ 9223372036854775806) :
    Calls Try.prog 59 #[.pointer (some ⟨ob, 0, none⟩), .slice a L.length cap] w fun e w' => e = .returned (.int .i64 (prL A.k.toNat N L : Nat)) ∧ Below w.heap.size w w' := by
  have HM : Hid (MO w ob A M N) := h
  have HMon : Hid (Mon A M N) := by
    obtain ⟨_, _, _, _, _, _, _, _, _, _, _, _, _, _, _, _, _, q⟩ := h
    exact q.mon
  have HL : Hid (∀ x ∈ L, x < M.length) := hL
  have HS : Hid (SR w a (nC L)) := hS
  clear h hL hS
  go_enter Try.func59, Try.ntmps59
  go_wp2_with fail
  go_loopw [5, 10] (fun vo vi wr => ∃ i : Nat, i ≤ L.length ∧ vi = .int .i64 i ∧ vo = .int .i64 (prL A.k.toNat N (L.take i) : Nat) ∧ Below w.heap.size w wr) (fun _ vi _ => L.length - (Go.RowKit.intOf vi).toNat)
  case atStart => exact ⟨0, Nat.zero_le _, rfl, rfl, Below.refl _ _⟩
  case round =>
    obtain ⟨i, hi, rfl, rfl, hb⟩ := hrel
    have HB : Hid (Below w.heap.size w wr) := hb
    by_cases hlt : i < L.length
    · have hiI : (i : Int) < L.length := by omega
      obtain ⟨g, o, rfl, _, hc⟩ := (HS.out.stay hb).nat hlt
      obtain ⟨x, hx⟩ : ∃ x, L.getD i 0 = x := ⟨_, rfl⟩
      rw [hx] at hc
      have hxL : L[i]? = some x := by rw [List.getElem?_eq_getElem hlt, ← hx]; simp [hlt]
      have hxl : x < M.length := HL.out x (List.mem_of_getElem? hxL)
      have HT : Hid (pr A.k.toNat N (prL A.k.toNat N (L.take i)) x = prL A.k.toNat N (L.take (i + 1))) := by
        show _ = _
        rw [List.take_add_one, hxL]
        simp [prL]
      obtain ⟨y, hy⟩ : ∃ y, prL A.k.toNat N (L.take i) = y := ⟨_, rfl⟩
      have hyl : y < M.length := by rw [← hy]; exact HMon.out.prL_lt (fun z hz => HL.out z (List.mem_of_mem_take hz))
      rw [hy] at HT ⊢
      have HLT : Hid (i < L.length) := hlt
      clear hb hx hxL hy hlt
      go_wp2_with fail
      refine (mproduct_ok (HM.out.below HB.out) y x hyl hxl).mono ?_
      rintro e w1 ⟨rfl, hb1⟩
      rw [HT.out]
      have HB1 : Hid (Below w.heap.size w w1) := go_on HB.out hb1
      clear hb1 hc
      go_wp2_with fail
      go_roundw
      case rel => exact ⟨i + 1, HLT.out, by go_num, rfl, HB1.out⟩
      case measure => have := HLT.out; simp [Go.RowKit.intOf]; omega
    · have hiI : ¬ (i : Int) < L.length := by omega
      have e : L.take i = L := List.take_of_length_le (by omega)
      rw [e]
      clear hb
      go_wp2_with fail
      go_ret
      exact ⟨rfl, HB.out⟩

theorem sr_new (w : World) (cs : List Nat) (t : Nat) : SR (w.alloc (.cells (nC cs).toArray t)) (some ⟨w.heap.size, 0, none⟩) (nC cs) := by
  intro i u hu
  refine ⟨_, _, rfl, by simp, ?_⟩
  rw [Nat.zero_add, cell_of_row _ _ _ _ _ _ (heap_last w _)]
  simpa using hu

theorem iprod_new {w : World} {ob : Nat} {A : Aut} {M : List (List Nat)} {N : List Nat} (h : MO w ob A M N) (L : List Nat) (hL : ∀ x ∈ L, x < M.length) (hm : L.length ≤ 100) (t : Nat) :
    Calls Try.prog 59 #[.pointer (some ⟨ob, 0, none⟩), .slice (some ⟨w.heap.size, 0, none⟩) L.length L.length] (w.alloc (.cells (nC L).toArray t)) fun e w' => e = .returned (.int .i64 (prL A.k.toNat N L : Nat)) ∧ Below w.heap.size w w' := by
  refine (iprod_any (h.below (below_new _ _)) _ _ L hL (sr_new w L t) (by omega)).mono ?_
  rintro e w1 ⟨rfl, hb⟩
  exact ⟨rfl, go_on (below_new _ _) hb⟩

theorem MO.mon {w : World} {ob : Nat} {A : Aut} {M : List (List Nat)} {N : List Nat} (h : MO w ob A M N) : Mon A M N := by
  obtain ⟨_, _, _, _, _, _, _, _, _, _, _, _, _, _, _, _, _, q⟩ := h
  exact q.mon

/-- Two and three factors. -/
theorem iprod_two {w : World} {ob : Nat} {A : Aut} {M : List (List Nat)} {N : List Nat} (h : MO w ob A M N) (x y : Nat) (hx : x < M.length) (hy : y < M.length) :
    Calls Try.prog 59 #[.pointer (some ⟨ob, 0, none⟩), .slice (some ⟨w.heap.size, 0, none⟩) 2 2] (w.alloc (.cells #[.int .i64 (x : Nat), .int .i64 (y : Nat)] 3)) fun e w' => e = .returned (.int .i64 (pr A.k.toNat N x y : Nat)) ∧ Below w.heap.size w w' := by
  have q := iprod_new h [x, y] (by simp; exact ⟨hx, hy⟩) (by simp) 3
  have e : prL A.k.toNat N [x, y] = pr A.k.toNat N x y := by show pr _ _ (pr _ _ 0 x) y = _; rw [h.mon.one_pr hx]
  rw [e] at q
  exact q

theorem iprod_three {w : World} {ob : Nat} {A : Aut} {M : List (List Nat)} {N : List Nat} (h : MO w ob A M N) (x y z : Nat) (hx : x < M.length) (hy : y < M.length) (hz : z < M.length) :
    Calls Try.prog 59 #[.pointer (some ⟨ob, 0, none⟩), .slice (some ⟨w.heap.size, 0, none⟩) 3 3] (w.alloc (.cells #[.int .i64 (x : Nat), .int .i64 (y : Nat), .int .i64 (z : Nat)] 3)) fun e w' => e = .returned (.int .i64 (pr A.k.toNat N (pr A.k.toNat N x y) z : Nat)) ∧ Below w.heap.size w w' := by
  have q := iprod_new h [x, y, z] (by simp; exact ⟨hx, hy, hz⟩) (by simp) 3
  have e : prL A.k.toNat N [x, y, z] = pr A.k.toNat N (pr A.k.toNat N x y) z := by show pr _ _ (pr _ _ (pr _ _ 0 x) y) z = _; rw [h.mon.one_pr hx]
  rw [e] at q
  exact q

/-- Is it idempotent? -/
def idE (K : Nat) (N : List Nat) (i : Nat) : Bool := decide (pr K N i i = i)

set_option maxHeartbeats 1000000 in
set_option maxRecDepth 100000 in
theorem isIdem_any {w : World} {ob : Nat} {A : Aut} {M : List (List Nat)} {N : List Nat} (h : MO w ob A M N) (i : Nat) (hi : i < M.length) :
    Calls Try.prog 33 #[.pointer (some ⟨ob, 0, none⟩), .int .i64 i] w fun e w' => e = .returned (.bool (idE A.k.toNat N i)) ∧ Below w.heap.size w w' := by
  have HP : Hid _ := iprod_two h i i hi hi
  obtain ⟨p, hp⟩ : ∃ p, pr A.k.toNat N i i = p := ⟨_, rfl⟩
  have HE : Hid (idE A.k.toNat N i = decide ((p : Int) = (i : Int))) := by
    show _ = _
    unfold idE
    rw [hp]
    congr 1
    apply propext
    omega
  rw [hp] at HP
  clear h hp
  go_enter Try.func33, Try.ntmps33
  go_wp2_with fail
  refine Calls.mono HP.out ?_
  rintro e w1 ⟨rfl, hb⟩
  have HB : Hid (Below w.heap.size w w1) := hb
  clear hb
  by_cases c : p = i
  · have c1 : ((p : Int) == (i : Int)) = true := by rw [beq_iff_eq]; omega
    have HE2 : Hid (idE A.k.toNat N i = true) := by show _ = _; rw [HE.out]; exact decide_eq_true (by omega)
    go_wp2_with fail
    go_ret
    exact ⟨by rw [HE2.out]; first | rfl | simp [c], HB.out⟩
  · have c1 : ((p : Int) == (i : Int)) = false := by rw [beq_eq_false_iff_ne]; omega
    have HE2 : Hid (idE A.k.toNat N i = false) := by show _ = _; rw [HE.out]; exact decide_eq_false (by omega)
    go_wp2_with fail
    go_ret
    exact ⟨by rw [HE2.out]; first | rfl | simp [c], HB.out⟩

/-- What check answers of some numbers. -/
def ick (n : Nat) (L : List Int) : Int := if L.all (hasE n) then 0 else 11

set_option maxHeartbeats 1000000 in
set_option maxRecDepth 100000 in
theorem icheck_any {w : World} {ob : Nat} {A : Aut} {M : List (List Nat)} {N : List Nat} (h : MO w ob A M N) (a : Option Addr) (cap : Nat) (L : List Int) (hS : SR w a (zC L)) (hm : L.length ≤ 9223372036854775806) :
    Calls Try.prog 16 #[.pointer (some ⟨ob, 0, none⟩), .slice a L.length cap] w fun e w' => e = .returned (.int .i64 (ick M.length L)) ∧ w = w' := by
  have HM : Hid (MO w ob A M N) := h
  have HS : Hid (SR w a (zC L)) := hS
  have hn0 : ((M.length : Int) == 0) = false := by rw [beq_eq_false_iff_ne]; have := h.mon.pos; omega
  have hn1 : ¬ (M.length : Int) = 0 := by have := h.mon.pos; omega
  have hn2 : ¬ M.length = 0 := by omega
  obtain ⟨n, hn⟩ : ∃ n, M.length = n := ⟨_, rfl⟩
  have HLN : Hid (Calls Try.prog 6 #[.pointer (some ⟨ob, 0, none⟩)] w fun e w' => e = .returned (.int .i64 (n : Nat)) ∧ w = w') := by
    have := mlen_any HM.out
    rw [hn] at this
    exact this
  rw [hn] at hn0 hn1 hn2 ⊢
  clear h hS hn
  go_enter Try.func16, Try.ntmps16
  go_wp2_with fail
  refine HLN.out.mono ?_
  rintro e w1 ⟨rfl, rfl⟩
  go_wp2_with fail
  go_loopw [14] (fun vi wr => ∃ i : Nat, i ≤ L.length ∧ vi = .int .i64 i ∧ (∀ j, j < i → hasE n (L.getD j 0) = true) ∧ wr = w) (fun vi _ => L.length - (Go.RowKit.intOf vi).toNat)
  case atStart => exact ⟨0, Nat.zero_le _, rfl, fun j hj => by omega, rfl⟩
  case round =>
    obtain ⟨i, hi, rfl, hall, rfl⟩ := hrel
    have HA : Hid (∀ j, j < i → hasE n (L.getD j 0) = true) := hall
    clear hall
    by_cases hlt : i < L.length
    · have hiI : (i : Int) < L.length := by omega
      obtain ⟨g, o, rfl, _, hc⟩ := HS.out.int hlt
      have HLT : Hid (i < L.length) := hlt
      obtain ⟨x, hx⟩ : ∃ x, L.getD i 0 = x := ⟨_, rfl⟩
      have HX : Hid (L.getD i 0 = x) := hx
      have hxm : x ∈ L := by
        rw [← hx, List.getD_eq_getElem?_getD, List.getElem?_eq_getElem hlt]
        exact List.getElem_mem hlt
      have HXM : Hid (x ∈ L) := hxm
      rw [hx] at hc
      clear hx hxm hlt
      by_cases h0 : 0 ≤ x
      · have h0d : decide (x < 0) = false := by simpa using h0
        by_cases h1 : x < n
        · have h1d : decide ((n : Int) ≤ x) = false := by simpa using h1
          have h1' : ¬ (n : Int) ≤ x := by omega
          have HH : Hid (hasE n x = true) := decide_eq_true ⟨h0, h1⟩
          go_wp2_with fail
          go_roundw
          case rel =>
            refine ⟨i + 1, HLT.out, by go_num, fun j hj => ?_, trivial⟩
            by_cases e : j = i
            · rw [e, HX.out]; exact HH.out
            · exact HA.out j (by omega)
          case measure => have := HLT.out; simp [Go.RowKit.intOf]; omega
        · have h1d : decide ((n : Int) ≤ x) = true := by simpa using h1
          have h1' : (n : Int) ≤ x := by omega
          have HE : Hid (ick n L = 11) := by
            show _ = _
            unfold ick
            rw [if_neg (fun q => ?_)]
            have := of_decide_eq_true (List.all_eq_true.1 q x HXM.out)
            omega
          go_wp2_with fail
          go_ret
          exact ⟨by rw [HE.out]; rfl, rfl⟩
      · have h0d : decide (x < 0) = true := by simpa using h0
        have h0' : x < 0 := by omega
        have HE : Hid (ick n L = 11) := by
          show _ = _
          unfold ick
          rw [if_neg (fun q => ?_)]
          have := of_decide_eq_true (List.all_eq_true.1 q x HXM.out)
          omega
        go_wp2_with fail
        go_ret
        exact ⟨by rw [HE.out]; rfl, rfl⟩
    · have hiI : ¬ (i : Int) < L.length := by omega
      have HE : Hid (ick n L = 0) := by
        show _ = _
        unfold ick
        rw [if_pos]
        rw [List.all_eq_true]
        intro x hx
        obtain ⟨j, hj, rfl⟩ := List.mem_iff_getElem.1 hx
        have := HA.out j (by omega)
        rw [List.getD_eq_getElem?_getD, List.getElem?_eq_getElem hj] at this
        exact this
      go_wp2_with fail
      go_ret
      exact ⟨by rw [HE.out]; rfl, rfl⟩

theorem sr_newZ (w : World) (cs : List Int) (t : Nat) : SR (w.alloc (.cells (zC cs).toArray t)) (some ⟨w.heap.size, 0, none⟩) (zC cs) := by
  intro i u hu
  refine ⟨_, _, rfl, by simp, ?_⟩
  rw [Nat.zero_add, cell_of_row _ _ _ _ _ _ (heap_last w _)]
  simpa using hu

theorem icheck_one {w : World} {ob : Nat} {A : Aut} {M : List (List Nat)} {N : List Nat} (h : MO w ob A M N) (i : Int) :
    Calls Try.prog 16 #[.pointer (some ⟨ob, 0, none⟩), .slice (some ⟨w.heap.size, 0, none⟩) 1 1] (w.alloc (.cells #[.int .i64 i] 3)) fun e w' => e = .returned (.int .i64 (if hasE M.length i = true then 0 else 11)) ∧ w' = w.alloc (.cells #[.int .i64 i] 3) := by
  have q := icheck_any (h.below (below_new _ _)) _ 1 [i] (sr_newZ w [i] 3) (by simp)
  refine q.mono ?_
  rintro e w1 ⟨rfl, rfl⟩
  refine ⟨?_, rfl⟩
  congr 2
  simp [ick]

theorem icheck_none {w : World} {ob : Nat} {A : Aut} {M : List (List Nat)} {N : List Nat} (h : MO w ob A M N) :
    Calls Try.prog 16 #[.pointer (some ⟨ob, 0, none⟩), .slice none 0 0] w fun e w' => e = .returned (.int .i64 0) ∧ w = w' := by
  have q := icheck_any h none 0 [] (SR.nil _ _) (by simp)
  exact q
end Go.Proofs.Ytlohfeogaalfcab

namespace Go.Proofs.Ytlohfeogaalfcab
open Go Go.RowKit Go.Lib Go.Maps
set_option linter.unusedVariables false
attribute [-instance] List.instBEq instBEqProd

/-- The elements of which something is so. -/
def thL (n : Nat) (P : Nat → Bool) : List Nat := (List.range n).filter P

theorem thL_succ (n : Nat) (P : Nat → Bool) : thL (n + 1) P = if P n = true then thL n P ++ [n] else thL n P := by
  unfold thL
  rw [List.range_succ, List.filter_append]
  split <;> simp_all

theorem thL_len (n : Nat) (P : Nat → Bool) : (thL n P).length ≤ n := by
  have := List.length_filter_le P (List.range n)
  simpa [thL] using this

theorem mem_thL {n i : Nat} {P : Nat → Bool} : i ∈ thL n P ↔ i < n ∧ P i = true := by simp [thL]

/-- A list of elements that is the caller's own. -/
def OwnN (w : World) (base : Nat) (v : Value) (L : List Nat) : Prop := w.ownsRow base 3 1 v L.length (nC L)

set_option maxHeartbeats 2000000 in
set_option maxRecDepth 100000 in
theorem those_any {w : World} {ob : Nat} {A : Aut} {M : List (List Nat)} {N : List Nat} (h : MO w ob A M N) (nf : Nat) (fc : Array Value) (P : Nat → Bool)
    (eN : ∀ args w, (callFunc nf args).run Try.prog w = .ok (.enter nf args) w)
    (hN : ∀ y i, Below w.heap.size w y → i < M.length → Calls Try.prog nf (#[.int .i64 (i : Nat)] ++ fc) y fun e y' => e = .returned (.bool (P i)) ∧ Below y.heap.size y y') :
    Calls Try.prog 31 #[.pointer (some ⟨ob, 0, none⟩), .func (.func nf) #[] fc] w fun e w' => ∃ v, e = .returned v ∧ OwnN w' w.heap.size v (thL M.length P) ∧ Below w.heap.size w w' := by
  have HM : Hid (MO w ob A M N) := h
  have HN : Hid (∀ y i, Below w.heap.size w y → i < M.length → Calls Try.prog nf (#[.int .i64 (i : Nat)] ++ fc) y fun e y' => e = .returned (.bool (P i)) ∧ Below y.heap.size y y') := hN
  have hn5 := h.mon.most
  obtain ⟨i0, hi0, hz0, hz1, hz2⟩ := info_parts Try.info_int
  clear h hN
  go_enter Try.func31, Try.ntmps31
  go_wp2_with fail
  refine (mlen_any HM.out).mono ?_
  rintro e w1 ⟨rfl, rfl⟩
  go_wp2_with fail
  go_loopw [5, 9] (fun vo vi wr => ∃ (i : Nat) (oa : Option Addr) (oc : Nat), i ≤ M.length ∧ vi = .int .i64 i ∧ vo = .slice oa (thL i P).length oc ∧ OwnN wr w.heap.size (.slice oa (thL i P).length oc) (thL i P) ∧ Below w.heap.size w wr) (fun _ vi _ => M.length - (Go.RowKit.intOf vi).toNat)
  case atStart => exact ⟨0, none, 0, Nat.zero_le _, rfl, rfl, World.ownsRow_nil _ _ _ _, Below.refl _ _⟩
  case round =>
    obtain ⟨i, oa, oc, hi, rfl, rfl, ho, hb⟩ := hrel
    have HO : Hid (OwnN wr w.heap.size (.slice oa (thL i P).length oc) (thL i P)) := ho
    have HB : Hid (Below w.heap.size w wr) := hb
    have hll := thL_len i P
    clear hb ho
    by_cases hlt : i < M.length
    · have hiI : (i : Int) < M.length := by omega
      have HLT : Hid (i < M.length) := hlt
      clear hlt
      go_wp2_with fail
      refine (HN.out wr i HB.out HLT.out).mono ?_
      rintro e w2 ⟨rfl, hb2⟩
      have HB2 : Hid (Below w.heap.size w w2) := go_on HB.out hb2
      have HO2 : Hid (OwnN w2 w.heap.size (.slice oa (thL i P).length oc) (thL i P)) := own_below HO.out hb2
      have hs2 := HB2.out.size
      clear hb2
      cases hP : P i with
      | false =>
        have HT : Hid (thL (i + 1) P = thL i P) := by show _ = _; rw [thL_succ, hP]; rfl
        clear hP
        go_wp2_with fail
        go_roundw
        case rel => exact ⟨i + 1, oa, oc, HLT.out, by go_num, by rw [HT.out], by rw [HT.out]; exact HO2.out, HB2.out⟩
        case measure => have := HLT.out; simp [Go.RowKit.intOf]; omega
      | true =>
        have HT : Hid (thL (i + 1) P = thL i P ++ [i]) := by show _ = _; rw [thL_succ, hP]; rfl
        clear hP
        go_wp2_with (first
          | (at_builtin; refine wpList_append_own_at _ rfl _ _ 22 rfl w.heap.size 3 i0 (.int .i64 0) 1 8 Try.underlying22 hi0 hz0 hz1 hz2 rfl (by decide) _ _ _ rfl (World.ownsRow.alloc HO2.out _) ⟨w2.heap.size, 0, none⟩ 1 1 [.int .i64 (i : Int)] rfl rfl (cell_one_new _ _ _) (by intro u hu; simp at hu; subst hu; rfl) (by unfold maxLen; omega) (by omega) (by simp; omega) ?_; intro v' w4 hown' hgrow _ hloc))
        have HB4 : Hid (Below w.heap.size w w4) := (go_on HB2.out (below_new _ _)).grown hgrow (by simp; omega) (fun k hk => (own_blk HO2.out hk).1)
        obtain ⟨oa4, oc4, hsh⟩ := own_shape hown'
        have HO4 : Hid (OwnN w4 w.heap.size v' (thL (i + 1) P)) := by
          show OwnN _ _ _ _
          rw [HT.out]
          unfold OwnN
          rw [nC_append, List.length_append]
          exact hown'
        have HSH : Hid (v' = .slice oa4 (thL (i + 1) P).length oc4) := by show _ = _; rw [HT.out, List.length_append]; exact hsh
        clear hown' hgrow hloc hsh
        go_roundw
        case rel => exact ⟨i + 1, oa4, oc4, HLT.out, by go_num, HSH.out, by have q := HO4.out; rw [HSH.out] at q; exact q, HB4.out⟩
        case measure => have := HLT.out; simp [Go.RowKit.intOf]; omega
    · have hiI : ¬ (i : Int) < M.length := by omega
      have e : i = M.length := by omega
      have HE : Hid (i = M.length) := e
      clear e
      go_wp2_with fail
      go_ret
      exact ⟨_, rfl, by rw [← HE.out]; exact HO.out, HB.out⟩

set_option maxHeartbeats 1000000 in
set_option maxRecDepth 100000 in
theorem list1_any {w : World} {ob : Nat} {A : Aut} {M : List (List Nat)} {N : List Nat} (h : MO w ob A M N) (b : Nat) (hc : w.cell? ⟨b, 0, none⟩ = some (.pointer (some ⟨ob, 0, none⟩))) (i : Nat) (hi : i < M.length) :
    Calls Try.prog 32 #[.int .i64 (i : Nat), .pointer (some ⟨b, 0, none⟩)] w fun e w' => e = .returned (.bool (idE A.k.toNat N i)) ∧ Below w.heap.size w w' := by
  have HI : Hid _ := isIdem_any h i hi
  clear h
  go_enter Try.func32, Try.ntmps32
  go_wp2_with fail
  refine Calls.mono HI.out ?_
  rintro e w1 ⟨rfl, hb⟩
  have HB : Hid (Below w.heap.size w w1) := hb
  clear hb
  go_wp2_with fail
  go_ret
  exact ⟨rfl, HB.out⟩

/-- What List answers. -/
def LsQ (L : List Nat) (w : World) (e : Ending) (w' : World) : Prop := ∃ v, e = .returned (.tuple #[v, .int .i64 0]) ∧ OwnN w' w.heap.size v L ∧ Below w.heap.size w w'

set_option maxHeartbeats 1000000 in
set_option maxRecDepth 100000 in
theorem iList_any {w : World} {ob : Nat} {A : Aut} {M : List (List Nat)} {N : List Nat} (h : MO w ob A M N) :
    Calls Try.prog 13 #[.pointer (some ⟨ob, 0, none⟩)] w (LsQ (thL M.length (idE A.k.toNat N)) w) := by
  obtain ⟨w0, hw0⟩ : ∃ w0, w0 = w.alloc (.cells #[.pointer (some ⟨ob, 0, none⟩)] 26) := ⟨_, rfl⟩
  have HB0 : Hid (Below w.heap.size w w0) := by show Below _ _ _; rw [hw0]; exact below_new _ _
  have HM : Hid (MO w0 ob A M N) := h.below HB0.out
  have hc0 : w0.cell? ⟨w.heap.size, 0, none⟩ = some (.pointer (some ⟨ob, 0, none⟩)) := by rw [hw0, cell_of_row _ _ _ _ _ _ (heap_last w _)]; rfl
  have HC0 : Hid (w0.cell? ⟨w.heap.size, 0, none⟩ = some (.pointer (some ⟨ob, 0, none⟩))) := hc0
  have HW0 : Hid (w0 = w.alloc (.cells #[.pointer (some ⟨ob, 0, none⟩)] 26)) := hw0
  have hlt0 : w.heap.size < w0.heap.size := by rw [hw0]; simp
  have HT : Hid (Calls Try.prog 31 #[.pointer (some ⟨ob, 0, none⟩), .func (.func 32) #[] #[.pointer (some ⟨w.heap.size, 0, none⟩)]] w0 fun e w' => ∃ v, e = .returned v ∧ OwnN w' w0.heap.size v (thL M.length (idE A.k.toNat N)) ∧ Below w0.heap.size w0 w') :=
    those_any HM.out 32 _ _ (enters_of Try.func32 (by kernel_rfl) rfl) (fun y i hy hi => list1_any (HM.out.below hy) w.heap.size (by rw [below_cellJ hy hlt0]; exact HC0.out) i hi)
  clear h hw0 hc0
  go_enter Try.func13, Try.ntmps13
  go_wp2_with fail
  rw [← HW0.out]
  have hc0 := HC0.out
  go_wp2_with fail
  refine (icheck_none HM.out).mono ?_
  rintro e w1 ⟨rfl, rfl⟩
  go_wp2_with fail
  refine HT.out.mono ?_
  rintro e w1 ⟨v, rfl, ho, hb⟩
  have HO : Hid (OwnN w1 w.heap.size v (thL M.length (idE A.k.toNat N))) := own_mono ho (by omega)
  have HB : Hid (Below w.heap.size w w1) := go_on HB0.out hb
  clear ho hb hc0
  go_wp2_with fail
  go_ret2
  exact ⟨_, rfl, HO.out, HB.out⟩

/-- What Idempotent answers. -/
def ipV (K n : Nat) (N : List Nat) (i : Int) : Value := if hasE n i = true then .tuple #[.bool (idE K N i.toNat), .int .i64 0] else .tuple #[.bool false, .int .i64 11]

set_option maxHeartbeats 1000000 in
set_option maxRecDepth 100000 in
theorem iIdem_any {w : World} {ob : Nat} {A : Aut} {M : List (List Nat)} {N : List Nat} (h : MO w ob A M N) (i : Int) :
    Calls Try.prog 54 #[.pointer (some ⟨ob, 0, none⟩), .int .i64 i] w fun e w' => e = .returned (ipV A.k.toNat M.length N i) ∧ Below w.heap.size w w' := by
  have HM : Hid (MO w ob A M N) := h
  have HC : Hid _ := icheck_one h i
  have HB1 : Hid (Below w.heap.size w (w.alloc (.cells #[.int .i64 i] 3))) := below_new _ _
  unfold ipV
  by_cases hh : hasE M.length i = true
  · obtain ⟨j, rfl⟩ : ∃ j : Nat, i = (j : Int) := ⟨i.toNat, by have := of_decide_eq_true hh; omega⟩
    have hj : j < M.length := by have := of_decide_eq_true hh; omega
    have HI : Hid _ := isIdem_any (h.below (below_new w (.cells #[.int .i64 (j : Int)] 3))) j hj
    rw [if_pos hh] at HC ⊢
    rw [show ((j : Int)).toNat = j by omega]
    clear h hh
    go_enter Try.func54, Try.ntmps54
    go_wp2_with fail
    refine Calls.mono HC.out ?_
    rintro e w1 ⟨rfl, rfl⟩
    go_wp2_with fail
    refine Calls.mono HI.out ?_
    rintro e w2 ⟨rfl, hb⟩
    have HB : Hid (Below w.heap.size w w2) := go_on HB1.out hb
    clear hb
    go_wp2_with fail
    go_ret2
    exact ⟨rfl, HB.out⟩
  · rw [if_neg hh] at HC ⊢
    clear h hh
    go_enter Try.func54, Try.ntmps54
    go_wp2_with fail
    refine Calls.mono HC.out ?_
    rintro e w1 ⟨rfl, rfl⟩
    go_wp2_with fail
    go_ret2
    exact ⟨rfl, HB1.out⟩
end Go.Proofs.Ytlohfeogaalfcab

namespace Go.Proofs.Ytlohfeogaalfcab
open Go Go.RowKit Go.Lib Go.Maps
set_option linter.unusedVariables false
attribute [-instance] List.instBEq instBEqProd

set_option maxHeartbeats 1000000 in
set_option maxRecDepth 100000 in
theorem icheckI_ok {w : World} {ob : Nat} {A : Aut} {M : List (List Nat)} {N : List Nat} (h : MO w ob A M N) (a : Option Addr) (cap : Nat) (L : List Nat) (hL : ∀ x ∈ L, x < M.length ∧ pr A.k.toNat N x x = x) (hS : SR w a (nC L)) (hm : L.length ≤ 9223372036854775806) :
    Calls Try.prog 60 #[.pointer (some ⟨ob, 0, none⟩), .slice a L.length cap] w fun e w' => e = .returned (.int .i64 0) ∧ Below w.heap.size w w' := by
  have HM : Hid (MO w ob A M N) := h
  have HL : Hid (∀ x ∈ L, x < M.length ∧ pr A.k.toNat N x x = x) := hL
  have HS : Hid (SR w a (nC L)) := hS
  have HC : Hid (Calls Try.prog 16 #[.pointer (some ⟨ob, 0, none⟩), .slice a L.length cap] w fun e w' => e = .returned (.int .i64 0) ∧ w = w') := by
    have q := icheck_any h a cap (L.map fun (n : Nat) => (n : Int)) (by rw [← nC_zC]; exact hS) (by simpa using hm)
    have e : ick M.length (L.map fun (n : Nat) => (n : Int)) = 0 := by
      unfold ick
      rw [if_pos]
      rw [List.all_eq_true]
      intro x hx
      obtain ⟨y, hy, rfl⟩ := List.mem_map.1 hx
      have := (hL y hy).1
      exact decide_eq_true ⟨by omega, by omega⟩
    rw [e, List.length_map] at q
    exact q
  clear h hL hS
  go_enter Try.func60, Try.ntmps60
  go_wp2_with fail
  refine HC.out.mono ?_
  rintro e w1 ⟨rfl, rfl⟩
  go_wp2_with fail
  go_loopw [16] (fun vi wr => ∃ i : Nat, i ≤ L.length ∧ vi = .int .i64 (i : Nat) ∧ Below w.heap.size w wr) (fun vi _ => L.length - (Go.Lib.intOf vi).toNat)
  case atStart => exact ⟨0, Nat.zero_le _, rfl, Below.refl _ _⟩
  case round =>
    obtain ⟨i, hi, rfl, hb⟩ := hrel
    have HB : Hid (Below w.heap.size w wr) := hb
    by_cases hlt : i < L.length
    · have hiI : (i : Int) < L.length := by omega
      obtain ⟨g, o, rfl, _, hc⟩ := (HS.out.stay hb).nat hlt
      obtain ⟨x, hx⟩ : ∃ x, L.getD i 0 = x := ⟨_, rfl⟩
      rw [hx] at hc
      have hxL : L[i]? = some x := by rw [List.getElem?_eq_getElem hlt, ← hx]; simp [hlt]
      have hxl := HL.out x (List.mem_of_getElem? hxL)
      have HI : Hid (Calls Try.prog 33 #[.pointer (some ⟨ob, 0, none⟩), .int .i64 (x : Nat)] wr fun e w' => e = .returned (.bool true) ∧ Below wr.heap.size wr w') := by
        have q := isIdem_any (HM.out.below HB.out) x hxl.1
        have e : idE A.k.toNat N x = true := decide_eq_true hxl.2
        rw [e] at q
        exact q
      have HLT : Hid (i < L.length) := hlt
      clear hb hx hxL hlt hxl
      go_wp2_with fail
      refine HI.out.mono ?_
      rintro e w1 ⟨rfl, hb1⟩
      have HB1 : Hid (Below w.heap.size w w1) := go_on HB.out hb1
      clear hb1 hc
      go_wp2_with fail
      go_roundw
      case rel => exact ⟨i + 1, HLT.out, by go_num, HB1.out⟩
      case measure => have := HLT.out; simp [Go.Lib.intOf]; omega
    · have hiI : ¬ (i : Int) < L.length := by omega
      clear hb
      go_wp2_with fail
      go_ret
      exact ⟨rfl, HB.out⟩

/-- Does one idempotent stand at or below another one? -/
def leE (K : Nat) (N : List Nat) (e f : Nat) : Bool := decide (pr K N e f = e ∧ pr K N f e = e)

/-- Is it of the monoid at e? -/
def btE (K : Nat) (N : List Nat) (e i : Nat) : Bool := decide (pr K N (pr K N e i) e = i)

set_option maxHeartbeats 1000000 in
set_option maxRecDepth 100000 in
theorem between1_any {w : World} {ob : Nat} {A : Aut} {M : List (List Nat)} {N : List Nat} (h : MO w ob A M N) (b b2 x : Nat) (hc : w.cell? ⟨b, 0, none⟩ = some (.pointer (some ⟨ob, 0, none⟩))) (hc2 : w.cell? ⟨b2, 0, none⟩ = some (.int .i64 (x : Nat))) (hx : x < M.length) (i : Nat) (hi : i < M.length) :
    Calls Try.prog 61 #[.int .i64 (i : Nat), .pointer (some ⟨b, 0, none⟩), .pointer (some ⟨b2, 0, none⟩)] w fun e w' => e = .returned (.bool (btE A.k.toNat N x i)) ∧ Below w.heap.size w w' := by
  have HP : Hid _ := iprod_three h x i x hx hi hx
  obtain ⟨p, hp⟩ : ∃ p, pr A.k.toNat N (pr A.k.toNat N x i) x = p := ⟨_, rfl⟩
  have HE : Hid (btE A.k.toNat N x i = decide (p = i)) := by show _ = _; unfold btE; rw [hp]
  rw [hp] at HP
  clear h hp
  go_enter Try.func61, Try.ntmps61
  go_wp2_with fail
  refine Calls.mono HP.out ?_
  rintro e w1 ⟨rfl, hb⟩
  have HB : Hid (Below w.heap.size w w1) := hb
  clear hb
  by_cases c : p = i
  · have c1 : ((p : Int) == (i : Int)) = true := by rw [beq_iff_eq]; omega
    have HE2 : Hid (btE A.k.toNat N x i = true) := by show _ = _; rw [HE.out]; exact decide_eq_true c
    clear c
    go_wp2_with fail
    go_ret
    exact ⟨by rw [HE2.out]; rfl, HB.out⟩
  · have c1 : ((p : Int) == (i : Int)) = false := by rw [beq_eq_false_iff_ne]; omega
    have HE2 : Hid (btE A.k.toNat N x i = false) := by show _ = _; rw [HE.out]; exact decide_eq_false c
    clear c
    go_wp2_with fail
    go_ret
    exact ⟨by rw [HE2.out]; rfl, HB.out⟩

set_option maxHeartbeats 1000000 in
set_option maxRecDepth 100000 in
theorem iBetween_ok {w : World} {ob : Nat} {A : Aut} {M : List (List Nat)} {N : List Nat} (h : MO w ob A M N) (x : Nat) (hx : x < M.length) (hxx : pr A.k.toNat N x x = x) :
    Calls Try.prog 34 #[.pointer (some ⟨ob, 0, none⟩), .int .i64 (x : Nat)] w (LsQ (thL M.length (btE A.k.toNat N x)) w) := by
  obtain ⟨w2, hw2⟩ : ∃ w2, w2 = (w.alloc (.cells #[.pointer (some ⟨ob, 0, none⟩)] 26)).alloc (.cells #[.int .i64 (x : Nat)] 3) := ⟨_, rfl⟩
  have HB2 : Hid (Below w.heap.size w w2) := by show Below _ _ _; rw [hw2]; exact go_on (below_new _ _) (below_new _ _)
  have HM : Hid (MO w ob A M N) := h
  have HW2 : Hid (w2 = (w.alloc (.cells #[.pointer (some ⟨ob, 0, none⟩)] 26)).alloc (.cells #[.int .i64 (x : Nat)] 3)) := hw2
  have HC1 : Hid (w2.cell? ⟨w.heap.size, 0, none⟩ = some (.pointer (some ⟨ob, 0, none⟩))) := by
    show _ = _
    have e : w2.heap[w.heap.size]? = some (.cells #[.pointer (some ⟨ob, 0, none⟩)] 26 (0, 0)) := by rw [hw2, heap_allo (by simp)]; exact heap_last _ _
    exact cell_at e rfl
  have HC2 : Hid (w2.cell? ⟨w.heap.size + 1, 0, none⟩ = some (.int .i64 (x : Nat))) := by
    show _ = _
    have e : w2.heap[w.heap.size + 1]? = some (.cells #[.int .i64 (x : Nat)] 3 (0, 0)) := by
      rw [hw2]
      have := heap_last (w.alloc (.cells #[.pointer (some ⟨ob, 0, none⟩)] 26)) (.cells #[.int .i64 (x : Nat)] 3)
      rwa [World.size_alloc] at this
    exact cell_at e rfl
  have hz2 : w2.heap.size = w.heap.size + 2 := by rw [hw2]; simp
  have HZ2 : Hid (w2.heap.size = w.heap.size + 2) := hz2
  have HCK : Hid (Calls Try.prog 60 #[.pointer (some ⟨ob, 0, none⟩), .slice (some ⟨w.heap.size + 2, 0, none⟩) 1 1] (w2.alloc (.cells #[.int .i64 (x : Nat)] 3)) fun e w' => e = .returned (.int .i64 0) ∧ Below (w2.alloc (.cells #[.int .i64 (x : Nat)] 3)).heap.size (w2.alloc (.cells #[.int .i64 (x : Nat)] 3)) w') := by
    show Calls _ _ _ _ _
    have q := icheckI_ok ((h.below HB2.out).below (below_new w2 (.cells #[.int .i64 (x : Nat)] 3))) (some ⟨w2.heap.size, 0, none⟩) 1 [x] (by simp; exact ⟨hx, hxx⟩) (sr_new w2 [x] 3) (by simp)
    rw [hz2] at q
    exact q
  have HT : Hid (∀ u, Below w2.heap.size w2 u → Calls Try.prog 31 #[.pointer (some ⟨ob, 0, none⟩), .func (.func 61) #[] #[.pointer (some ⟨w.heap.size, 0, none⟩), .pointer (some ⟨w.heap.size + 1, 0, none⟩)]] u fun e w' => ∃ v, e = .returned v ∧ OwnN w' u.heap.size v (thL M.length (btE A.k.toNat N x)) ∧ Below u.heap.size u w') := fun u hu =>
    those_any (HM.out.below (go_on HB2.out hu)) 61 _ _ (enters_of Try.func61 (by kernel_rfl) rfl) (fun y i hy hi => between1_any (HM.out.below (go_on (go_on HB2.out hu) hy)) w.heap.size (w.heap.size + 1) x (by rw [below_cellJ (go_on hu hy) (by omega)]; exact HC1.out) (by rw [below_cellJ (go_on hu hy) (by omega)]; exact HC2.out) hx i hi)
  clear h hw2 hz2
  go_enter Try.func34, Try.ntmps34
  go_wp2_with fail
  rw [← HW2.out]
  refine HCK.out.mono ?_
  rintro e w3 ⟨rfl, hb⟩
  have HB3 : Hid (Below w2.heap.size w2 w3) := go_on (below_new _ _) hb
  have hc1 : w3.cell? ⟨w.heap.size, 0, none⟩ = some (.pointer (some ⟨ob, 0, none⟩)) := by rw [below_cellJ HB3.out (by rw [HZ2.out]; omega)]; exact HC1.out
  clear hb
  go_wp2_with fail
  refine (HT.out _ HB3.out).mono ?_
  rintro e w4 ⟨v, rfl, ho, hb⟩
  have HO : Hid (OwnN w4 w.heap.size v (thL M.length (btE A.k.toNat N x))) := own_mono ho (by have := HB3.out.size; have := HZ2.out; omega)
  have HB4 : Hid (Below w.heap.size w w4) := go_on (go_on HB2.out HB3.out) hb
  clear ho hb hc1
  go_wp2_with fail
  go_ret2
  exact ⟨_, rfl, HO.out, HB4.out⟩
end Go.Proofs.Ytlohfeogaalfcab

namespace Go.Proofs.Ytlohfeogaalfcab
open Go Go.RowKit Go.Lib Go.Maps
set_option linter.unusedVariables false
attribute [-instance] List.instBEq instBEqProd

/-- Is j an inverse of i? -/
def inE (K : Nat) (N : List Nat) (i j : Nat) : Bool := decide (pr K N (pr K N i j) i = i ∧ pr K N (pr K N j i) j = j)

/-- Is it regular? -/
def rgE (K n : Nat) (N : List Nat) (i : Nat) : Bool := (List.range n).any fun j => decide (pr K N (pr K N i j) i = i)

theorem rgE_iff {K n : Nat} {N : List Nat} {i : Nat} : rgE K n N i = true ↔ ∃ j, j < n ∧ pr K N (pr K N i j) i = i := by
  simp [rgE]

end Go.Proofs.Ytlohfeogaalfcab

namespace Go.Proofs.Ytlohfeogaalfcab
open Go Go.RowKit Go.Lib Go.Maps
set_option linter.unusedVariables false
attribute [-instance] List.instBEq instBEqProd

end Go.Proofs.Ytlohfeogaalfcab

namespace Go.Proofs.Ytlohfeogaalfcab
open Go Go.RowKit Go.Lib
set_option linter.unusedVariables false

theorem lets_app (u v : ByteArray) : lets (u ++ v) = lets u ++ lets v := by
  unfold lets
  rw [← List.map_append]
  congr 1

theorem chk_app (k : Int) (h1 : 1 ≤ k) (h8 : k ≤ 8) (u v : ByteArray) : chk k (u ++ v) = 0 ↔ chk k u = 0 ∧ chk k v = 0 := by
  unfold chk
  have h : ¬ (k < 1 ∨ 8 < k) := by omega
  rw [if_neg h, if_neg h, if_neg h]
  simp only [ByteArray.data_append, Array.toList_append, List.all_append]
  by_cases a : u.data.toList.all (letterAt k) = true
  · by_cases b : v.data.toList.all (letterAt k) = true
    · simp [a, b]
    · simp [a, b]
  · simp [a]

theorem wb_get (u : List Nat) {i : Nat} (hi : i < (wb u).size) : (wb u)[i] = UInt8.ofNat (97 + u[i]'(by rw [wb_size] at hi; exact hi)) := by
  have hi' : i < ((u.map fun c => UInt8.ofNat (97 + c)).toArray).size := hi
  have : (wb u)[i] = ((u.map fun c => UInt8.ofNat (97 + c)).toArray)[i]'hi' := rfl
  refine this.trans ?_
  rw [List.getElem_toArray, List.getElem_map]

theorem ofNat97 {c : Nat} (h : c < 8) : (UInt8.ofNat (97 + c)).toNat = 97 + c := by
  rw [UInt8.toNat_ofNat']
  exact Nat.mod_eq_of_lt (by omega)

theorem lets_wb {k : Nat} (hk : k ≤ 8) {u : List Nat} (h : Lt k u) : lets (wb u) = u := by
  unfold lets wb
  rw [List.map_map]
  show u.map _ = u
  conv => rhs; rw [← List.map_id u]
  apply List.map_congr_left
  intro c hc
  have := h c hc
  show (UInt8.ofNat (97 + c)).toNat - 97 = c
  rw [ofNat97 (by omega)]
  omega

theorem wb_lts {k : Int} (h1 : 1 ≤ k) (h8 : k ≤ 8) {u : List Nat} (h : Lt k.toNat u) : Lts k (wb u) ∧ chk k (wb u) = 0 := by
  have hL : Lts k (wb u) := by
    intro i hi
    have hm := h (u[i]'(by rw [wb_size] at hi; exact hi)) (List.getElem_mem _)
    rw [wb_get u hi, ofNat97 (by omega)]
    omega
  refine ⟨hL, chk_ok k _ h1 h8 (fun i hi => ?_)⟩
  have := hL i hi
  simp only [letterAt, decide_eq_true_eq]
  omega

theorem Lts.ltn {k : Int} (h1 : 1 ≤ k) {b : ByteArray} (h : Lts k b) : Lt k.toNat (lets b) := fun c hc => by have := h.lt_all c hc; omega

theorem conv_one (y : World) (c z : Nat) (hc : c < 8) (hz : 97 + c = z) : Sem.run Try.prog (convert 57 9 (.slice (some ⟨y.heap.size, 0, none⟩) 1 1)) (y.alloc (.cells #[.int .u8 (z : Int)] 5)) = .ok (.string (wb [c])) (y.alloc (.cells #[.int .u8 (z : Int)] 5)) := by
  subst hz
  refine run_convert_bytes_back _ _ _ 5 ⟨y.heap.size, 0, none⟩ 1 [UInt8.ofNat (97 + c)] Try.underlying57 Try.underlying5 Try.underlying9 ?_
  intro j hj
  obtain rfl : j = 0 := by simp at hj; omega
  have := (RowAt.last y #[.int .u8 ((97 + c : Nat) : Int)] 5).cell 0
  refine this.trans ?_
  show some (Value.int .u8 ((97 + c : Nat) : Int)) = some (Value.int .u8 ((UInt8.ofNat (97 + c)).toNat : Int))
  rw [ofNat97 hc]

theorem mr_first (K : Nat) (N : List Nat) (c : Nat) : mr K N 0 [c] = N.getD c 0 := by rw [mr_one, Nat.zero_mul, Nat.zero_add]

end Go.Proofs.Ytlohfeogaalfcab

namespace Go.Proofs.Ytlohfeogaalfcab
open Go Go.RowKit Go.Lib
set_option linter.unusedVariables false
attribute [-instance] List.instBEq instBEqProd

theorem idx_ltM {n m i j : Nat} (hi : i < m) (hj : j < n) : i * n + j < m * n := by
  have := Nat.mul_le_mul_right n (show i + 1 ≤ m from hi)
  rw [Nat.add_mul] at this
  omega

/-- The images as a text. -/
def ib (l : List Nat) : ByteArray := ⟨(l.map fun s => UInt8.ofNat s).toArray⟩

/-- All that the document's monoid leads to. -/
structure RP (w : World) (rb : Nat) (A : Aut) (M : List (List Nat)) (N : List Nat) (an : Option Addr) (cn : Nat) (aa : Option Addr) (ca gi ci gw cw gn cg : Nat) : Prop where
  box : w.heap[rb]? = some (.cells #[.int .i64 A.k, .slice an A.nx.length cn, .slice aa A.ac.length ca, .slice (some ⟨gi, 0, none⟩) M.length ci, .slice (some ⟨gw, 0, none⟩) M.length cw, .slice (some ⟨gn, 0, none⟩) N.length cg] 59 (0, 0))
  nx : SR w an (zC A.nx)
  ac : SR w aa (bC A.ac)
  li : gi < w.heap.size
  img : ∀ j, j < M.length → w.cell? ⟨gi, j, none⟩ = some (.string (ib (M.getD j [])))
  lv : gw < w.heap.size
  wds : ∀ j, j < M.length → w.cell? ⟨gw, j, none⟩ = some (.string (wb (lw A.k.toNat N j)))
  ln : gn < w.heap.size
  nxt : ∀ p, p < N.length → w.cell? ⟨gn, p, none⟩ = some (.int .i64 ((N.getD p 0 : Nat) : Int))
  mon : Mon A M N
/-- A monoid that the document's Build made lies in block rb. -/
def RF (w : World) (rb : Nat) (A : Aut) (M : List (List Nat)) (N : List Nat) : Prop := ∃ an cn aa ca gi ci gw cw gn cg, RP w rb A M N an cn aa ca gi ci gw cw gn cg
theorem RF.below {w w' : World} {rb : Nat} {A : Aut} {M : List (List Nat)} {N : List Nat} (h : RF w rb A M N) (hb : Below w.heap.size w w') : RF w' rb A M N := by
  obtain ⟨an, cn, aa, ca, gi, ci, gw, cw, gn, cg, h⟩ := h
  exact ⟨an, cn, aa, ca, gi, ci, gw, cw, gn, cg, ⟨(hb.block _ (Array.getElem?_eq_some_iff.1 h.box).1).trans h.box, h.nx.stay hb, h.ac.stay hb, Nat.lt_of_lt_of_le h.li hb.size, fun j hj => by rw [below_cellJ hb h.li]; exact h.img j hj, Nat.lt_of_lt_of_le h.lv hb.size, fun j hj => by rw [below_cellJ hb h.lv]; exact h.wds j hj, Nat.lt_of_lt_of_le h.ln hb.size, fun j hj => by rw [below_cellJ hb h.ln]; exact h.nxt j hj, h.mon⟩⟩

set_option maxHeartbeats 1000000 in
theorem rlen_any {w : World} {rb : Nat} {A : Aut} {M : List (List Nat)} {N : List Nat} (h : RF w rb A M N) : Calls Try.prog 12 #[.pointer (some ⟨rb, 0, none⟩)] w fun e w' => e = .returned (.int .i64 (M.length : Nat)) ∧ w = w' := by
  obtain ⟨an, cn, aa, ca, gi, ci, gw, cw, gn, cg, h⟩ := h
  have c4 : w.cell? ⟨rb, 4, none⟩ = some (.slice (some ⟨gw, 0, none⟩) M.length cw) := cell_at h.box rfl
  clear h
  go_enter Try.func12, Try.ntmps12
  go_wp2_with fail
  go_ret
  exact ⟨rfl, rfl⟩

/-- What the document's Product answers. -/
def rpV (A : Aut) (n : Nat) (N : List Nat) (i j : Int) : Value := if hasE n i = true ∧ hasE n j = true then .tuple #[.int .i64 (pr A.k.toNat N i.toNat j.toNat : Nat), .int .i64 0] else .tuple #[.int .i64 0, .int .i64 11]

theorem hasE_of {n : Nat} {i : Int} (h : hasE n i = true) : ∃ k : Nat, i = k ∧ k < n := by
  have := of_decide_eq_true h
  exact ⟨i.toNat, by omega, by omega⟩

end Go.Proofs.Ytlohfeogaalfcab

namespace Go.Proofs.Ytlohfeogaalfcab
open Go Go.RowKit Go.Lib Go.Maps
set_option linter.unusedVariables false
attribute [-instance] List.instBEq instBEqProd

theorem mck_has (n : Nat) (i : Int) : mck n i = if hasE n i = true then 0 else 11 := by
  unfold mck hasE
  by_cases h : 0 ≤ i ∧ i < n
  · rw [if_pos h, if_pos (decide_eq_true h)]
  · rw [if_neg h, if_neg (by rw [decide_eq_false h]; decide)]

theorem mcheck_is {w : World} {ob : Nat} {A : Aut} {M : List (List Nat)} {N : List Nat} (h : MO w ob A M N) {i : Int} (hi : hasE M.length i = true) : Calls Try.prog 81 #[.pointer (some ⟨ob, 0, none⟩), .int .i64 i] w fun e w' => e = .returned (.int .i64 0) ∧ w = w' := by
  have := mcheck_any h i
  rw [mck_has, if_pos hi] at this
  exact this

theorem mcheck_not {w : World} {ob : Nat} {A : Aut} {M : List (List Nat)} {N : List Nat} (h : MO w ob A M N) {i : Int} (hi : ¬ hasE M.length i = true) : Calls Try.prog 81 #[.pointer (some ⟨ob, 0, none⟩), .int .i64 i] w fun e w' => e = .returned (.int .i64 11) ∧ w = w' := by
  have := mcheck_any h i
  rw [mck_has, if_neg hi] at this
  exact this

set_option maxHeartbeats 1000000 in
set_option maxRecDepth 100000 in
theorem mproduct_all {w : World} {ob : Nat} {A : Aut} {M : List (List Nat)} {N : List Nat} (h : MO w ob A M N) (i j : Int) : Calls Try.prog 73 #[.pointer (some ⟨ob, 0, none⟩), .int .i64 i, .int .i64 j] w fun e w' => e = .returned (rpV A M.length N i j) ∧ Below w.heap.size w w' := by
  have H : Hid (MO w ob A M N) := h
  by_cases h0 : hasE M.length i = true
  · by_cases h1 : hasE M.length j = true
    · obtain ⟨a, rfl, ha⟩ := hasE_of h0
      obtain ⟨b, rfl, hb⟩ := hasE_of h1
      have := mproduct_ok h a b ha hb
      unfold rpV
      rw [if_pos ⟨h0, h1⟩]
      exact this
    · have HE : Hid (rpV A M.length N i j = .tuple #[.int .i64 0, .int .i64 11]) := by show _ = _; unfold rpV; rw [if_neg (fun q => h1 q.2)]
      have C0 : Hid _ := mcheck_is h h0
      have C1 : Hid _ := mcheck_not h h1
      clear h h0 h1
      go_enter Try.func73, Try.ntmps73
      go_wp2_with fail
      refine Calls.mono C0.out ?_
      rintro e w1 ⟨rfl, rfl⟩
      go_wp2_with fail
      refine Calls.mono C1.out ?_
      rintro e w1 ⟨rfl, rfl⟩
      go_wp2_with fail
      go_ret2
      rw [HE.out]
      exact ⟨rfl, Below.refl _ _⟩
  · have HE : Hid (rpV A M.length N i j = .tuple #[.int .i64 0, .int .i64 11]) := by show _ = _; unfold rpV; rw [if_neg (fun q => h0 q.1)]
    have C0 : Hid _ := mcheck_not h h0
    clear h h0
    go_enter Try.func73, Try.ntmps73
    go_wp2_with fail
    refine Calls.mono C0.out ?_
    rintro e w1 ⟨rfl, rfl⟩
    go_wp2_with fail
    go_ret2
    rw [HE.out]
    exact ⟨rfl, Below.refl _ _⟩

/-- Is a byte a letter? -/
def isL (k : Int) (x : Nat) : Prop := 97 ≤ x ∧ (x : Int) < 97 + k

open Classical in

/-- What Right (Left) answers, the document's Beside too. -/
noncomputable def rbV (A : Aut) (n : Nat) (N : List Nat) (i : Int) (x : Nat) (ahead : Bool) : Value := if hasE n i = true then (if isL A.k x then .tuple #[.int .i64 ((if ahead = true then pr A.k.toNat N (N.getD (x - 97) 0) i.toNat else N.getD (i.toNat * A.k.toNat + (x - 97)) 0 : Nat) : Int), .int .i64 0] else .tuple #[.int .i64 0, .int .i64 21]) else .tuple #[.int .i64 0, .int .i64 11]

end Go.Proofs.Ytlohfeogaalfcab

namespace Go.Proofs.Ytlohfeogaalfcab
open Go Go.RowKit Go.Lib
set_option linter.unusedVariables false
attribute [-instance] List.instBEq instBEqProd

def sI (M : List (List Nat)) : List Value := M.map fun l => .string (ib l)

def sW (M : List (List Nat)) : List Value := M.map fun l => .string (wb l)

def qN (N : List Nat) : List Value := N.map fun (j : Nat) => .int .i64 (j : Int)

theorem sI_snoc (M : List (List Nat)) (l : List Nat) : sI (M ++ [l]) = sI M ++ [.string (ib l)] := by simp [sI]

theorem sW_snoc (M : List (List Nat)) (l : List Nat) : sW (M ++ [l]) = sW M ++ [.string (wb l)] := by simp [sW]

theorem qN_snoc (N : List Nat) (j : Nat) : qN (N ++ [j]) = qN N ++ [.int .i64 (j : Int)] := by simp [qN]

/-- The document's monoid while it is built. -/
structure RB (base : Nat) (W w : World) (rb : Nat) (A : Aut) (an : Option Addr) (cn : Nat) (aa : Option Addr) (ca : Nat) (M Ws : List (List Nat)) (N : List Nat) (vi vw vn : Value) : Prop where
  box : w.heap[rb]? = some (.cells #[.int .i64 A.k, .slice an A.nx.length cn, .slice aa A.ac.length ca, vi, vw, vn] 59 (0, 0))
  nx : w.ownsRow base 3 1 (.slice an A.nx.length cn) A.nx.length (zC A.nx)
  ac : w.ownsRow base 4 1 (.slice aa A.ac.length ca) A.ac.length (bC A.ac)
  img : w.ownsRow base 9 1 vi M.length (sI M)
  wds : w.ownsRow base 9 1 vw Ws.length (sW Ws)
  nxt : w.ownsRow base 3 1 vn N.length (qN N)
  lo : base ≤ rb
  iw : ∀ j, vi.ownBlock = some j → vw.ownBlock ≠ some j
  nn : ∀ j, vn.ownBlock = some j → (Value.slice an A.nx.length cn).ownBlock ≠ some j
  below : Below base W w
  lob : base ≤ W.heap.size

theorem RB.call {base : Nat} {W w : World} {rb : Nat} {A : Aut} {an : Option Addr} {cn : Nat} {aa : Option Addr} {ca : Nat} {M Ws : List (List Nat)} {N : List Nat} {vi vw vn : Value} {w' : World} (h : RB base W w rb A an cn aa ca M Ws N vi vw vn) (hb : Below w.heap.size w w') : RB base W w' rb A an cn aa ca M Ws N vi vw vn :=
  ⟨(hb.block _ (Array.getElem?_eq_some_iff.1 h.box).1).trans h.box, own_below h.nx hb, own_below h.ac hb, own_below h.img hb, own_below h.wds hb, own_below h.nxt hb, h.lo, h.iw, h.nn, h.below.trans (hb.mono (Nat.le_trans h.lob h.below.size)), h.lob⟩

theorem RB.blk {base : Nat} {W w : World} {rb : Nat} {A : Aut} {an : Option Addr} {cn : Nat} {aa : Option Addr} {ca : Nat} {M Ws : List (List Nat)} {N : List Nat} {vi vw vn : Value} (h : RB base W w rb A an cn aa ca M Ws N vi vw vn) : base ≤ w.heap.size := Nat.le_trans h.lob h.below.size

theorem RB.imgd {base : Nat} {W w : World} {rb : Nat} {A : Aut} {an : Option Addr} {cn : Nat} {aa : Option Addr} {ca : Nat} {M Ws : List (List Nat)} {N : List Nat} {vi vw vn : Value} {w7 : World} {vi' : Value} {l : List Nat} {o : Obj} {q : Nat} (h : RB base W w rb A an cn aa ca M Ws N vi vw vn)
    (ho : w7.ownsRow base 9 1 vi' (M.length + 1) (sI M ++ [.string (ib l)])) (hg : (w.alloc o).grownBy w7 vi.ownBlock) (hl : vi'.ownBlock = vi.ownBlock ∨ vi'.ownBlock = some q) (hq : w.heap.size ≤ q) :
    w7.heap[rb]? = some (.cells #[.int .i64 A.k, .slice an A.nx.length cn, .slice aa A.ac.length ca, vi, vw, vn] 59 (0, 0)) ∧ RB base W (w7.setCell ⟨rb, 3, none⟩ vi') rb A an cn aa ca (M ++ [l]) Ws N vi' vw vn := by
  have hs7 : w.heap.size + 1 ≤ w7.heap.size := by have := (Only.grown (S := fun _ => True) hg (fun _ _ => trivial)).size; simpa using this
  have k : ∀ j, j < w.heap.size → vi.ownBlock ≠ some j → w7.heap[j]? = w.heap[j]? := fun j hj h2 => by
    rw [hg.block j (by simp; omega) (fun e => h2 e.symm), (below_new w o).block j hj]
  have kt : ∀ (j : Nat) (cur : Array Value) (ty : TypeId), w.heap[j]? = some (.cells cur ty (0, 0)) → ty ≠ 9 → w7.heap[j]? = w.heap[j]? := fun j cur ty hj hne => k j (Array.getElem?_eq_some_iff.1 hj).1 (fun e => by
    obtain ⟨_, cur, hc⟩ := own_blk h.img e
    exact blk_ne hj hc hne rfl)
  have box7 := (kt rb _ _ h.box (by decide)).trans h.box
  have so : ∀ (j : Nat) (cur : Array Value) {ty : TypeId}, w7.heap[j]? = some (.cells cur ty (0, 0)) → ty ≠ 59 → (w7.setCell ⟨rb, 3, none⟩ vi').heap[j]? = w7.heap[j]? := fun j cur ty hj hne => heap_set_other (fun e => by
    exact blk_ne hj box7 hne e)
  refine ⟨box7, heap_set box7, ?_, ?_, ?_, ?_, ?_, h.lo, ?_, ?_, ?_, h.lob⟩
  · exact own_keep (own_keep h.nx (fun j cur hj hc => kt j _ _ hc (by decide))) (fun j cur hj hc => so j _ hc (by decide))
  · exact own_keep (own_keep h.ac (fun j cur hj hc => kt j _ _ hc (by decide))) (fun j cur hj hc => so j _ hc (by decide))
  · rw [List.length_append, sI_snoc]
    exact own_keep ho (fun j cur hj hc => so j _ hc (by decide))
  · refine own_keep (own_keep h.wds (fun j cur hj hc => k j (Array.getElem?_eq_some_iff.1 hc).1 (fun e => h.iw _ e hj))) (fun j cur hj hc => so j _ hc (by decide))
  · exact own_keep (own_keep h.nxt (fun j cur hj hc => kt j _ _ hc (by decide))) (fun j cur hj hc => so j _ hc (by decide))
  · intro j hj
    rcases hl with r | r
    · exact h.iw j (r.symm.trans hj)
    · intro e
      have := (h.wds.lt j e).2
      rw [r] at hj
      simp only [Option.some.injEq] at hj
      omega
  · exact h.nn
  · have hb := h.below
    have hbb := h.blk
    exact (((hb.alloc hbb o).grown hg (by have := hb.size; simp; omega) (fun j hj => (h.img.lt j hj).1))).setCell (p := ⟨rb, 3, none⟩) h.lo _

theorem RB.wdsd {base : Nat} {W w : World} {rb : Nat} {A : Aut} {an : Option Addr} {cn : Nat} {aa : Option Addr} {ca : Nat} {M Ws : List (List Nat)} {N : List Nat} {vi vw vn : Value} {w7 : World} {vw' : Value} {l : List Nat} {o : Obj} {q : Nat} (h : RB base W w rb A an cn aa ca M Ws N vi vw vn)
    (ho : w7.ownsRow base 9 1 vw' (Ws.length + 1) (sW Ws ++ [.string (wb l)])) (hg : (w.alloc o).grownBy w7 vw.ownBlock) (hl : vw'.ownBlock = vw.ownBlock ∨ vw'.ownBlock = some q) (hq : w.heap.size ≤ q) :
    w7.heap[rb]? = some (.cells #[.int .i64 A.k, .slice an A.nx.length cn, .slice aa A.ac.length ca, vi, vw, vn] 59 (0, 0)) ∧ RB base W (w7.setCell ⟨rb, 4, none⟩ vw') rb A an cn aa ca M (Ws ++ [l]) N vi vw' vn := by
  have hs7 : w.heap.size + 1 ≤ w7.heap.size := by have := (Only.grown (S := fun _ => True) hg (fun _ _ => trivial)).size; simpa using this
  have k : ∀ j, j < w.heap.size → vw.ownBlock ≠ some j → w7.heap[j]? = w.heap[j]? := fun j hj h2 => by
    rw [hg.block j (by simp; omega) (fun e => h2 e.symm), (below_new w o).block j hj]
  have kt : ∀ (j : Nat) (cur : Array Value) (ty : TypeId), w.heap[j]? = some (.cells cur ty (0, 0)) → ty ≠ 9 → w7.heap[j]? = w.heap[j]? := fun j cur ty hj hne => k j (Array.getElem?_eq_some_iff.1 hj).1 (fun e => by
    obtain ⟨_, cur, hc⟩ := own_blk h.wds e
    exact blk_ne hj hc hne rfl)
  have box7 := (kt rb _ _ h.box (by decide)).trans h.box
  have so : ∀ (j : Nat) (cur : Array Value) {ty : TypeId}, w7.heap[j]? = some (.cells cur ty (0, 0)) → ty ≠ 59 → (w7.setCell ⟨rb, 4, none⟩ vw').heap[j]? = w7.heap[j]? := fun j cur ty hj hne => heap_set_other (fun e => by
    exact blk_ne hj box7 hne e)
  refine ⟨box7, heap_set box7, ?_, ?_, ?_, ?_, ?_, h.lo, ?_, ?_, ?_, h.lob⟩
  · exact own_keep (own_keep h.nx (fun j cur hj hc => kt j _ _ hc (by decide))) (fun j cur hj hc => so j _ hc (by decide))
  · exact own_keep (own_keep h.ac (fun j cur hj hc => kt j _ _ hc (by decide))) (fun j cur hj hc => so j _ hc (by decide))
  · refine own_keep (own_keep h.img (fun j cur hj hc => k j (Array.getElem?_eq_some_iff.1 hc).1 (fun e => h.iw _ hj e))) (fun j cur hj hc => so j _ hc (by decide))
  · rw [List.length_append, sW_snoc]
    exact own_keep ho (fun j cur hj hc => so j _ hc (by decide))
  · exact own_keep (own_keep h.nxt (fun j cur hj hc => kt j _ _ hc (by decide))) (fun j cur hj hc => so j _ hc (by decide))
  · intro j hj e
    rcases hl with r | r
    · exact h.iw j hj (r.symm.trans e)
    · have := (h.img.lt j hj).2
      rw [r] at e
      simp only [Option.some.injEq] at e
      omega
  · exact h.nn
  · have hb := h.below
    have hbb := h.blk
    exact (((hb.alloc hbb o).grown hg (by have := hb.size; simp; omega) (fun j hj => (h.wds.lt j hj).1))).setCell (p := ⟨rb, 4, none⟩) h.lo _

theorem RB.nxtd {base : Nat} {W w : World} {rb : Nat} {A : Aut} {an : Option Addr} {cn : Nat} {aa : Option Addr} {ca : Nat} {M Ws : List (List Nat)} {N : List Nat} {vi vw vn : Value} {w7 : World} {vn' : Value} {l : Nat} {o : Obj} {q : Nat} (h : RB base W w rb A an cn aa ca M Ws N vi vw vn)
    (ho : w7.ownsRow base 3 1 vn' (N.length + 1) (qN N ++ [.int .i64 (l : Int)])) (hg : (w.alloc o).grownBy w7 vn.ownBlock) (hl : vn'.ownBlock = vn.ownBlock ∨ vn'.ownBlock = some q) (hq : w.heap.size ≤ q) :
    w7.heap[rb]? = some (.cells #[.int .i64 A.k, .slice an A.nx.length cn, .slice aa A.ac.length ca, vi, vw, vn] 59 (0, 0)) ∧ RB base W (w7.setCell ⟨rb, 5, none⟩ vn') rb A an cn aa ca M Ws (N ++ [l]) vi vw vn' := by
  have hs7 : w.heap.size + 1 ≤ w7.heap.size := by have := (Only.grown (S := fun _ => True) hg (fun _ _ => trivial)).size; simpa using this
  have k : ∀ j, j < w.heap.size → vn.ownBlock ≠ some j → w7.heap[j]? = w.heap[j]? := fun j hj h2 => by
    rw [hg.block j (by simp; omega) (fun e => h2 e.symm), (below_new w o).block j hj]
  have kt : ∀ (j : Nat) (cur : Array Value) (ty : TypeId), w.heap[j]? = some (.cells cur ty (0, 0)) → ty ≠ 3 → w7.heap[j]? = w.heap[j]? := fun j cur ty hj hne => k j (Array.getElem?_eq_some_iff.1 hj).1 (fun e => by
    obtain ⟨_, cur, hc⟩ := own_blk h.nxt e
    exact blk_ne hj hc hne rfl)
  have box7 := (kt rb _ _ h.box (by decide)).trans h.box
  have so : ∀ (j : Nat) (cur : Array Value) {ty : TypeId}, w7.heap[j]? = some (.cells cur ty (0, 0)) → ty ≠ 59 → (w7.setCell ⟨rb, 5, none⟩ vn').heap[j]? = w7.heap[j]? := fun j cur ty hj hne => heap_set_other (fun e => by
    exact blk_ne hj box7 hne e)
  refine ⟨box7, heap_set box7, ?_, ?_, ?_, ?_, ?_, h.lo, ?_, ?_, ?_, h.lob⟩
  · refine own_keep (own_keep h.nx (fun j cur hj hc => k j (Array.getElem?_eq_some_iff.1 hc).1 (fun e => h.nn _ e hj))) (fun j cur hj hc => so j _ hc (by decide))
  · exact own_keep (own_keep h.ac (fun j cur hj hc => kt j _ _ hc (by decide))) (fun j cur hj hc => so j _ hc (by decide))
  · exact own_keep (own_keep h.img (fun j cur hj hc => kt j _ _ hc (by decide))) (fun j cur hj hc => so j _ hc (by decide))
  · exact own_keep (own_keep h.wds (fun j cur hj hc => kt j _ _ hc (by decide))) (fun j cur hj hc => so j _ hc (by decide))
  · rw [List.length_append, qN_snoc]
    exact own_keep ho (fun j cur hj hc => so j _ hc (by decide))
  · exact h.iw
  · intro j hj e
    rcases hl with r | r
    · exact h.nn j (r.symm.trans hj) e
    · have := (h.nx.lt j e).2
      rw [r] at hj
      simp only [Option.some.injEq] at hj
      omega
  · have hb := h.below
    have hbb := h.blk
    exact (((hb.alloc hbb o).grown hg (by have := hb.size; simp; omega) (fun j hj => (h.nxt.lt j hj).1))).setCell (p := ⟨rb, 5, none⟩) h.lo _

end Go.Proofs.Ytlohfeogaalfcab

namespace Go.Proofs.Ytlohfeogaalfcab
open Go Go.RowKit Go.Lib
set_option linter.unusedVariables false
attribute [-instance] List.instBEq instBEqProd

theorem ib_size (l : List Nat) : (ib l).size = l.length := by
  show (l.map fun s => UInt8.ofNat s).toArray.size = l.length
  simp

theorem ib_inj {l m : List Nat} (hl : ∀ x ∈ l, x < 256) (hm : ∀ x ∈ m, x < 256) (h : ib l = ib m) : l = m := by
  have h1 : (l.map fun s => UInt8.ofNat s) = (m.map fun s => UInt8.ofNat s) := by
    have := congrArg (fun b => b.data.toList) h
    simpa [ib] using this
  have h2 : ∀ k : List Nat, (∀ x ∈ k, x < 256) → (k.map fun s => UInt8.ofNat s).map (fun c => c.toNat) = k := fun k hk => by
    rw [List.map_map]
    conv => rhs; rw [← List.map_id k]
    apply List.map_congr_left
    intro x hx
    show (UInt8.ofNat x).toNat = x
    rw [UInt8.toNat_ofNat']
    exact Nat.mod_eq_of_lt (hk x hx)
  rw [← h2 l hl, ← h2 m hm, h1]

theorem idxOf_firstL {l : List (List Nat)} {j : List Nat} {p : Nat} (hp : l[p]? = some j) (hq : ∀ q, q < p → l[q]? ≠ some j) : l.idxOf j = p := by
  induction l generalizing p with
  | nil => simp at hp
  | cons a l ih =>
    cases p with
    | zero =>
      simp at hp
      subst hp
      exact List.idxOf_cons_self
    | succ p =>
      have hne : a ≠ j := fun e => hq 0 (by omega) (by simp [e])
      rw [List.idxOf_cons]
      have : (a == j) = false := by rw [beq_eq_false_iff_ne]; exact hne
      rw [this]
      simp only [cond_false]
      rw [ih (p := p) (by simpa using hp) (fun q h => by have := hq (q + 1) (by omega); simpa using this)]

set_option maxHeartbeats 4000000 in
set_option maxRecDepth 100000 in
theorem rfind_any {base : Nat} {W w : World} {rb : Nat} {A : Aut} {an : Option Addr} {cn : Nat} {aa : Option Addr} {ca : Nat} {M Ws : List (List Nat)} {N : List Nat} {vi vw vn : Value} (h : RB base W w rb A an cn aa ca M Ws N vi vw vn) (l : List Nat) (hM : ∀ m ∈ M, ∀ x ∈ m, x < 256) (hl : ∀ x ∈ l, x < 256) (hn : M.length ≤ 512) :
    Calls Try.prog 19 #[.pointer (some ⟨rb, 0, none⟩), .string (ib l)] w fun e w' => e = .returned (.int .i64 (M.idxOf l : Nat)) ∧ w = w' := by
  obtain ⟨gi, ci, rfl⟩ := own_shape h.img
  have HC : Hid (∀ j, j < M.length → ∃ g o, gi = some ⟨g, o, none⟩ ∧ w.cell? ⟨g, o + j, none⟩ = some (.string (ib (M.getD j [])))) := fun j hj => by
    obtain ⟨g, o, e, _, hc⟩ := own_sr h.img j (.string (ib (M.getD j []))) (by unfold sI; rw [List.getElem?_map, List.getElem?_eq_getElem hj, List.getD_eq_getElem?_getD, List.getElem?_eq_getElem hj]; rfl)
    exact ⟨g, o, e, hc⟩
  have c3 : w.cell? ⟨rb, 3, none⟩ = some (.slice gi M.length ci) := cell_at h.box rfl
  have HMM : Hid (∀ m ∈ M, ∀ x ∈ m, x < 256) := hM
  have HL : Hid (∀ x ∈ l, x < 256) := hl
  obtain ⟨T, hT⟩ : ∃ T, ib l = T := ⟨_, rfl⟩
  have HT : Hid (ib l = T) := hT
  rw [hT]
  clear h hM hl hT
  go_enter Try.func19, Try.ntmps19
  go_wp2_with fail
  go_loopw [5] (fun vq wr => ∃ q : Nat, vq = .int .i64 q ∧ q ≤ M.length ∧ (∀ p, p < q → M.getD p [] ≠ l) ∧ wr = w) (fun vq _ => M.length - (Go.RowKit.intOf vq).toNat)
  case atStart => exact ⟨0, rfl, Nat.zero_le _, fun p hp => absurd hp (by omega), rfl⟩
  case round =>
    obtain ⟨q, rfl, hqM, hall, rfl⟩ := hrel
    have HA : Hid (∀ p, p < q → M.getD p [] ≠ l) := hall
    clear hall
    by_cases hlt : q < M.length
    · have hqI : (q : Int) < M.length := by omega
      have hqd : decide ((q : Int) < M.length) = true := decide_eq_true hqI
      obtain ⟨g, o, rfl, hc⟩ := HC.out q hlt
      obtain ⟨X, hX⟩ : ∃ X, ib (M.getD q []) = X := ⟨_, rfl⟩
      have HX : Hid (ib (M.getD q []) = X) := hX
      rw [hX] at hc
      clear hX
      by_cases he : M.getD q [] = l
      · have hXT : X = T := by rw [← HX.out, ← HT.out, he]
        subst hXT
        have HI : Hid (M.idxOf l = q) := by
          show _ = _
          refine idxOf_firstL (by rw [List.getElem?_eq_getElem hlt, ← he, List.getD_eq_getElem?_getD, List.getElem?_eq_getElem hlt]; rfl) (fun p hp e => HA.out p hp ?_)
          rw [List.getD_eq_getElem?_getD, e]
          rfl
        go_wp2_with fail
        go_ret
        exact ⟨by rw [HI.out]; rfl, rfl⟩
      · have hXT : X ≠ T := fun e => he (ib_inj (fun x hx => HMM.out _ (by rw [List.getD_eq_getElem?_getD, List.getElem?_eq_getElem hlt]; exact List.getElem_mem hlt) x hx) HL.out (by rw [HX.out, HT.out, e]))
        have hXb : @BEq.beq _ List.instBEq X.toList T.toList = false := by
          refine (@beq_eq_false_iff_ne (List UInt8) List.instBEq inferInstance X.toList T.toList).2 ?_
          intro e
          rw [ByteArray.toList_eq, ByteArray.toList_eq] at e
          exact hXT (ByteArray.ext (Array.toList_inj.1 e))
        have HN : Hid (∀ p, p < q + 1 → M.getD p [] ≠ l) := fun p hp => by
          by_cases e : p = q
          · subst e; exact he
          · exact HA.out p (by omega)
        go_wp2_with fail
        go_roundw
        case rel => exact ⟨q + 1, by go_num, by omega, HN.out, by trivial⟩
        case measure => simp [Go.RowKit.intOf]; omega
    · have hqI : ¬ (q : Int) < M.length := by omega
      have hqd : decide ((q : Int) < M.length) = false := decide_eq_false hqI
      have HI : Hid (M.idxOf l = q) := by
        show _ = _
        have hq : q = M.length := by omega
        rw [hq]
        refine List.idxOf_eq_length (fun hm => ?_)
        obtain ⟨p, hp⟩ := List.mem_iff_getElem?.1 hm
        have hpl := (List.getElem?_eq_some_iff.1 hp).1
        exact HA.out p (by omega) (by rw [List.getD_eq_getElem?_getD, hp]; rfl)
      go_wp2_with fail
      go_ret
      exact ⟨by rw [HI.out]; rfl, rfl⟩

end Go.Proofs.Ytlohfeogaalfcab
