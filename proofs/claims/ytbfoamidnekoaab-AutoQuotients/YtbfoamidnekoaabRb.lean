/- The document's Behind. -/
import Derived.Test.YtbfoamidnekoaabQz
import Derived.Test.YtbfoamidnekoaabQx
import Derived.Test.YtbfoamidnekoaabJs
namespace Go.Proofs.Ytbfoamidnekoaab
open Go Go.RowKit Go.Lib Go.Maps
set_option linter.unusedVariables false

def gbL (A : Aut) (l : List Nat) (i : Nat) : List Bool := (List.range i).map fun i => aN A (goN A i l)
theorem gbL_len (A : Aut) (l : List Nat) (p : Nat) : (gbL A l p).length = p := by simp [gbL]
theorem gbL_step (A : Aut) (l : List Nat) (i : Nat) : gbL A l i ++ [aN A (goN A i l)] = gbL A l (i + 1) := by
  unfold gbL
  rw [List.range_succ, List.map_append]
  rfl

/-- What stays while the automaton's box is made. -/
abbrev SV (V w1 : World) (b : Nat) (arr : Array Value) (y : World) : Prop := (∀ o, y.cell? ⟨b, o, none⟩ = arr[o]?) ∧ Below V.heap.size V y ∧ w1.heap.size ≤ y.heap.size
theorem sv_of {V w1 y : World} {b : Nat} {arr : Array Value} (R : RowAt V b arr) (h : Below V.heap.size V y) (hs : w1.heap.size ≤ y.heap.size) : SV V w1 b arr y := ⟨(R.stay h).cell, h, hs⟩
theorem sv_alloc {V w1 y : World} {b : Nat} {arr : Array Value} (R : RowAt V b arr) (o : Obj) (h : SV V w1 b arr y) : SV V w1 b arr (y.alloc o) := sv_of R (go_on h.2.1 (below_new _ _)) (by have := h.2.2; simp; omega)
theorem sv_set {V w1 y : World} {b : Nat} {arr : Array Value} (R : RowAt V b arr) {c j : Nat} {x : Value} (hc : V.heap.size ≤ c) (h : SV V w1 b arr y) : SV V w1 b arr (y.setCell ⟨c, j, none⟩ x) := sv_of R (h.2.1.setCell (p := ⟨c, j, none⟩) hc _) (by simpa [World.setCell] using h.2.2)
theorem sv_grown {V w1 y y2 : World} {b : Nat} {arr : Array Value} (R : RowAt V b arr) {row : Option Nat} (hg : y.grownBy y2 row) (hr : ∀ k, row = some k → V.heap.size ≤ k) (h : SV V w1 b arr y) : SV V w1 b arr y2 := sv_of R (h.2.1.grown hg h.2.1.size hr) (Nat.le_trans h.2.2 hg.size)
theorem ba_done {V y : World} {ob : Nat} {k : Int} {nx : List Int} {v : Value} (hb : y.heap[ob]? = some (.cells #[.int .i64 0, .slice none 0 0, .slice none 0 0] 25 (0, 0))) (hr : y.heap[V.heap.size]? = some (.cells #[.int .i64 0, .slice none 0 0, .slice none 0 0] 25 (0, 0))) (hne : V.heap.size < ob) (ho : y.ownsRow V.heap.size 3 1 v nx.length (zC nx)) (hB : Below V.heap.size V y) :
    BA V V.heap.size ob k nx [] v (.slice none 0 0) (((y.setCell ⟨ob, 0, none⟩ (.int .i64 k)).setCell ⟨ob, 1, none⟩ v).setCell ⟨ob, 2, none⟩ (.slice none 0 0)) := by
  have so : ∀ (y' : World) (j : Nat) (x : Value) (b : Nat) (cur : Array Value) (e : TypeId), y'.heap[ob]? = some (.cells cur 25 (0, 0)) → ∀ cur', y'.heap[b]? = some (.cells cur' e (0, 0)) → e ≠ 25 → (y'.setCell ⟨ob, j, none⟩ x).heap[b]? = y'.heap[b]? := fun y' j x b cur e h1 cur' h2 hne => heap_set_other (fun q => by rw [q, h1] at h2; simp at h2; exact hne h2.2.symm)
  have h1 := heap_set (j := 0) (v := .int .i64 k) hb
  have h2 := heap_set (j := 1) (v := v) h1
  have h3 := heap_set (j := 2) (v := .slice none 0 0) h2
  refine ⟨?_, h3, ?_, World.ownsRow_nil _ _ _ _, ((hB.setCell (p := ⟨ob, 0, none⟩) (by show _ ≤ ob; omega) _).setCell (p := ⟨ob, 1, none⟩) (by show _ ≤ ob; omega) _).setCell (p := ⟨ob, 2, none⟩) (by show _ ≤ ob; omega) _, by omega, by omega⟩
  · rw [heap_set_other (by omega), heap_set_other (by omega), heap_set_other (by omega)]; exact hr
  · have o1 : (y.setCell ⟨ob, 0, none⟩ (.int .i64 k)).ownsRow V.heap.size 3 1 v nx.length (zC nx) := own_keep ho fun b cur _ hc => so _ _ _ _ _ _ hb _ hc (by decide)
    have o2 : ((y.setCell ⟨ob, 0, none⟩ (.int .i64 k)).setCell ⟨ob, 1, none⟩ v).ownsRow V.heap.size 3 1 v nx.length (zC nx) := own_keep o1 fun b cur _ hc => so _ _ _ _ _ _ h1 _ hc (by decide)
    exact own_keep o2 fun b cur _ hc => so _ _ _ _ _ _ h2 _ hc (by decide)
theorem box_b {u w9 : World} {o e : Obj} (hg : ((u.alloc o).alloc e).grownBy w9 (some (u.heap.size + 1))) : w9.heap[u.heap.size]? = some o := by
  rw [hg.block _ (by simp; omega) (by simp), (below_new _ _).block _ (by simp)]
  exact heap_alloc_last _ _
theorem box_c {u w9 : World} {o e : Obj} (hg : ((u.alloc e).alloc o).grownBy w9 (some u.heap.size)) : w9.heap[u.heap.size + 1]? = some o := by
  rw [hg.block _ (by simp) (by simp)]
  have := heap_alloc_last (u.alloc e) o
  simpa using this

set_option maxHeartbeats 8000000 in
set_option maxRecDepth 100000 in
theorem rbehind_any (v : Value) (A : Aut) (w : World) (h : AR w v A) (hm : A.nx.length ≤ 9223372036854775806) (hm2 : A.ac.length ≤ 9223372036854775806) (b : ByteArray) (hz : b.size ≤ maxLen) :
    Calls Try.prog 9 #[v, .string b] w (FQ (bhA A b) (cwE A b) w) := by
  obtain ⟨an, cn, aa, ca, e, k1, k2⟩ := h.is
  obtain ⟨i0, hi, hz0, hz1, hz2⟩ := info_parts Try.info_int
  obtain ⟨i1, hj, hq0, hq1, hq2⟩ := info_parts Try.info_bool
  have HAR : Hid (∀ w', Below w.heap.size w w' → AR w' v A) := fun w' hb => h.stay hb
  have K1 : Hid (∀ y, Below w.heap.size w y → SR y an (zC A.nx)) := fun y hy => k1.stay hy
  have K2 : Hid (∀ y, Below w.heap.size w y → SR y aa (bC A.ac)) := fun y hy => k2.stay hy
  clear h k1 k2
  subst e
  obtain ⟨V, hV⟩ : ∃ V, V = w.alloc (.cells #[.int .i64 A.k, .slice an A.nx.length cn, .slice aa A.ac.length ca] 25) := ⟨_, rfl⟩
  obtain ⟨W, hW⟩ : ∃ W, W = V.alloc (.cells #[.int .i64 0, .slice none 0 0, .slice none 0 0] 25) := ⟨_, rfl⟩
  have hVs : V.heap.size = w.heap.size + 1 := by rw [hV]; simp
  have HVS : Hid (V.heap.size = w.heap.size + 1) := hVs
  have HRV : Hid (RowAt V w.heap.size #[.int .i64 A.k, .slice an A.nx.length cn, .slice aa A.ac.length ca]) := by show RowAt _ _ _; rw [hV]; exact RowAt.last _ _ _
  have HBV : Hid (Below w.heap.size w V) := by show Below _ _ _; rw [hV]; exact below_new _ _
  have HBW : Hid (Below V.heap.size V W) := by show Below _ _ _; rw [hW]; exact below_new _ _
  have HRES : Hid (W.heap[V.heap.size]? = some (.cells #[.int .i64 0, .slice none 0 0, .slice none 0 0] 25 (0, 0))) := by show W.heap[V.heap.size]? = _; rw [hW]; exact heap_alloc_last _ _
  have HWE : Hid (W = (w.alloc (.cells #[.int .i64 A.k, .slice an A.nx.length cn, .slice aa A.ac.length ca] 25)).alloc (.cells #[.int .i64 0, .slice none 0 0, .slice none 0 0] 25)) := by rw [← hV]; exact hW
  clear hV hW hVs
  go_enter Try.func9, Try.ntmps9
  go_wp2_with fail
  rw [← HWE.out, ← HVS.out]
  refine (rrun_any _ A _ (HAR.out _ (go_on HBV.out HBW.out)) hm hm2 0 b hz).mono ?_
  rintro e w1 ⟨rfl, hb1⟩
  rw [cwE_run]
  have hres1 : w1.heap[V.heap.size]? = some (.cells #[.int .i64 0, .slice none 0 0, .slice none 0 0] 25 (0, 0)) := (hb1.block _ (Array.getElem?_eq_some_iff.1 HRES.out).1).trans HRES.out
  have HB1 : Hid (Below V.heap.size V w1) := go_on HBW.out hb1
  have HR1 : Hid (w1.heap[V.heap.size]? = some (.cells #[.int .i64 0, .slice none 0 0, .slice none 0 0] 25 (0, 0))) := hres1
  have hlt1 : V.heap.size < w1.heap.size := (Array.getElem?_eq_some_iff.1 hres1).1
  have cs := (HRV.out.stay HB1.out).cell
  clear hb1
  obtain ⟨E, hE⟩ : ∃ E, cwE A b = E := ⟨_, rfl⟩
  have HE : Hid (cwE A b = E) := hE
  by_cases e0 : E = 0
  · have hv : runV A 0 b = goN A 0 (lets b) := by unfold runV; rw [if_pos (by rw [cwE_run, hE, e0])]; rfl
    rw [hE, hv]
    subst e0
    obtain ⟨G, L⟩ := cwE_good HE.out
    have hlt := goN_lt G (s := 0) (by have := G.n1; omega) (lets b) L.lt_all
    obtain ⟨s, hs⟩ : ∃ s, goN A 0 (lets b) = s := ⟨_, rfl⟩
    rw [hs] at hlt ⊢
    have HA0 : Hid (bhA A b = reA ⟨A.k, A.nx, (List.range A.ac.length).map fun i => aN A (goN A i (lets b))⟩) := by show _ = _; rw [(re_acc G _).1]; unfold bhA; rw [if_pos HE.out]
    have HG : Hid (Good A) := G
    have HGT : Hid (Good ⟨A.k, A.nx, (List.range A.ac.length).map fun i => aN A (goN A i (lets b))⟩) := (re_acc G _).2
    have HL : Hid (Lts A.k b) := L
    have HGO : Hid (∀ y i, Below w.heap.size w y → i < A.ac.length → Calls Try.prog 27 #[.agg #[.int .i64 A.k, .slice an A.nx.length cn, .slice aa A.ac.length ca], .int .i64 (i : Nat), .string b] y fun e w' => e = .returned (.int .i64 (goN A i (lets b))) ∧ Below y.heap.size y w') := fun y i hy hi => rgo_any _ A y (HAR.out y hy) G i hi b L (Nat.le_trans hz (by decide))
    have hn2 := G.n2
    have hn0 : 0 < A.nx.length := by have := (G.at (s := 0) (c := 0) (by have := G.n1; omega) (by have := G.k1; omega)).1; omega
    obtain ⟨gn, on, rfl, _, _⟩ := (K1.out _ (Below.refl _ _)).int hn0
    obtain ⟨ga, oa, rfl, _, _⟩ := (K2.out _ (Below.refl _ _)).bool (i := 0) (by have := G.n1; omega)
    have CN : Hid (∀ y i, Below w.heap.size w y → i < A.nx.length → y.cell? ⟨gn, on + i, none⟩ = some (.int .i64 (A.nx.getD i 0))) := fun y i hy hi => by
      obtain ⟨g', o', e', _, hc'⟩ := (K1.out y hy).int hi
      simp only [Option.some.injEq, Addr.mk.injEq] at e'
      obtain ⟨rfl, rfl, _⟩ := e'
      exact hc'
    have CA : Hid (∀ y i, Below w.heap.size w y → i < A.ac.length → y.cell? ⟨ga, oa + i, none⟩ = some (.bool (A.ac.getD i false))) := fun y i hy hi => by
      obtain ⟨g', o', e', _, hc'⟩ := (K2.out y hy).bool hi
      simp only [Option.some.injEq, Addr.mk.injEq] at e'
      obtain ⟨rfl, rfl, _⟩ := e'
      exact hc'
    have hk1 := G.k1
    have hk8 := G.k8
    have hnb : A.nx.length ≤ 32768 := by
      have h3 : (A.ac.length : Int) * A.k ≤ 4096 * 8 := Int.mul_le_mul (by omega) hk8 (by omega) (by omega)
      have := G.len
      omega
    clear hn0 G L hs hlt hres1 hv hE hk1 hk8
    have hgw : w.heap.size < V.heap.size := by have := HVS.out; omega
    have RV := HRV.out
    have S0 : SV V w1 w.heap.size #[.int .i64 A.k, .slice (some ⟨gn, on, none⟩) A.nx.length cn, .slice (some ⟨ga, oa, none⟩) A.ac.length ca] w1.drew := sv_of RV HB1.out.drew (Nat.le_refl _)
    have hVw : V.heap.size ≤ w1.heap.size := by omega
    have hVw1 : V.heap.size ≤ w1.heap.size + 1 := by omega
    have HE0 : Hid (∀ y : World, w1.heap.size ≤ y.heap.size → (y.alloc (.cells #[] 3)).ownsRow V.heap.size 3 1 (.slice (some ⟨y.heap.size, 0, none⟩) 0 0) 0 []) := fun y hy => World.ownsRow_made y #[] 0 (by omega) (by unfold maxLen; omega) rfl
    have HE1 : Hid (∀ O, ((w1.drew.alloc O).alloc (.cells #[] 3)).ownsRow V.heap.size 3 1 (.slice (some ⟨w1.heap.size + 1, 0, none⟩) 0 0) 0 []) := fun O => by
      have := HE0.out (w1.drew.alloc O) (by simp)
      simpa using this
    have HS1 : Hid (∀ y, Below V.heap.size V y → SR y (some ⟨gn, on, none⟩) (zC A.nx)) := fun y hy => K1.out y (go_on HBV.out hy)
    have HOC : Hid (∀ u ∈ zC A.nx, u.oneCell' = true) := fun u hu => by
      obtain ⟨z, _, rfl⟩ := List.mem_map.1 hu
      rfl
    have HZL : Hid ((zC A.nx).length = A.nx.length) := zC_len A.nx
    go_upto_region 4 with fail
    go_cut [8] (fun v8 wx => ∃ (ob : Nat) (vn : Value), v8 = .pointer (some ⟨ob, 0, none⟩) ∧ BA V V.heap.size ob A.k A.nx [] vn (.slice none 0 0) wx)
    case first =>
      go_region_held3 (fun y => SV V w1 w.heap.size #[.int .i64 A.k, .slice (some ⟨gn, on, none⟩) A.nx.length cn, .slice (some ⟨ga, oa, none⟩) A.ac.length ca] y) (first | exact S0 | assumption | exact sv_alloc RV _ (by assumption) | exact sv_set RV hVw (sv_set RV hVw (sv_set RV hVw (by assumption))) | exact sv_set RV hVw1 (sv_set RV hVw1 (sv_set RV hVw1 (by assumption))) | exact sv_set RV hV9 (sv_set RV hV9 (sv_set RV hV9 (by assumption)))) (
        (rw [if_pos (by rfl)]; refine wp_append_sr _ _ 22 rfl V.heap.size 3 i0 (.int .i64 0) 8 Try.underlying22 hi hz0 hz1 hz2 rfl _ rfl (by first | exact HE0.out w1.drew (Nat.le_refl _) | exact HE1.out _ | exact (HE0.out w1.drew (Nat.le_refl _)).alloc _) (some ⟨gn, on, none⟩) cn (zC A.nx) (by rw [HZL.out]; rfl) (HS1.out _ (And.left (And.right (by assumption)))) (fun h => by cases h) HOC.out (by rw [HZL.out]; unfold maxLen; omega) (by rw [HZL.out]; omega) (Nat.le_trans hVw (And.right (And.right (by assumption : SV V w1 w.heap.size #[.int .i64 A.k, .slice (some ⟨gn, on, none⟩) A.nx.length cn, .slice (some ⟨ga, oa, none⟩) A.ac.length ca] _)))) ?_; intro v9 w9 ho9 hg9
         obtain ⟨va9, vc9, rfl⟩ := own_shape ho9
         have S9 : SV V w1 w.heap.size #[.int .i64 A.k, .slice (some ⟨gn, on, none⟩) A.nx.length cn, .slice (some ⟨ga, oa, none⟩) A.ac.length ca] w9 := sv_grown RV hg9 (fun k hk => by cases hk; first | exact hVw | exact hVw1) (by assumption)
         have HO9 : Hid (w9.ownsRow V.heap.size 3 1 (.slice va9 (zC A.nx).length vc9) A.nx.length (zC A.nx)) := by show World.ownsRow _ _ _ _ _ _ _; rw [← HZL.out]; exact ho9
         have HR9 : Hid (w9.heap[V.heap.size]? = some (.cells #[.int .i64 0, .slice none 0 0, .slice none 0 0] 25 (0, 0))) := by
           show w9.heap[V.heap.size]? = _
           rw [hg9.block _ (by simp; omega) (fun e => by have e2 := Option.some.inj e; first | exact absurd (show V.heap.size = w1.heap.size from e2) (by omega) | exact absurd (show V.heap.size = w1.heap.size + 1 from e2) (by omega))]
           first
             | exact ((below_new _ _).block _ (by show V.heap.size < w1.heap.size; omega)).trans HR1.out
             | exact ((below_new _ _).block _ (by simp; omega)).trans (((below_new _ _).block _ (by show V.heap.size < w1.heap.size; omega)).trans HR1.out)
         first
           | (have hb9 := box_b (u := w1.drew) hg9
              have kc : ∀ j, w9.cell? ⟨w1.heap.size, j, none⟩ = (#[.int .i64 0, .slice none 0 0, .slice none 0 0] : Array Value)[j]? := fun j => cell_of hb9
              have kf : ∀ j, w9.frozen? ⟨w1.heap.size, j, none⟩ = false := fun j => froz_of hb9)
           | (have hb9 := box_c (u := w1.drew) hg9
              have kc : ∀ j, w9.cell? ⟨w1.heap.size + 1, j, none⟩ = (#[.int .i64 0, .slice none 0 0, .slice none 0 0] : Array Value)[j]? := fun j => cell_of hb9
              have kf : ∀ j, w9.frozen? ⟨w1.heap.size + 1, j, none⟩ = false := fun j => froz_of hb9)
           | skip
         have hV9 : V.heap.size ≤ w9.heap.size := by have := S9.2.2; omega
         have hV8 : V.heap.size < w9.heap.size := by have := S9.2.2; omega
         clear ho9 hg9))
      all_goals go_wp2_with fail
      all_goals go_meet
      all_goals first
        | exact ⟨_, _, rfl, ((below_new _ _).block _ hV8).trans HR9.out, heap_alloc_last _ _, HO9.out.alloc _, World.ownsRow_nil _ _ _ _, go_on S9.2.1 (below_new _ _), by omega, by omega⟩
        | exact ⟨_, _, rfl, ba_done hb9 HR9.out (by omega) HO9.out S9.2.1⟩
    case rest =>
      obtain ⟨ob, vn0, rfl, hBA⟩ := hcut
      have HO0 : Hid (BA V V.heap.size ob A.k A.nx (gbL A (lets b) 0) vn0 (.slice none 0 0) _) := hBA
      have HLG : Hid (∀ i, i < A.ac.length → goN A i (lets b) < A.ac.length) := fun i hi => goN_lt HG.out hi (lets b) HL.out.lt_all
      clear hBA S0 RV hVw hVw1 HE0 HE1 HS1 HOC HZL hgw
      go_wp2_with fail
      go_loopw [9] (fun vi wr => ∃ (i : Nat) (va : Value), vi = .int .i64 i ∧ i ≤ A.ac.length ∧ BA V V.heap.size ob A.k A.nx (gbL A (lets b) i) vn0 va wr) (fun vi _ => A.ac.length - (intOf vi).toNat)
      case atStart => exact ⟨0, _, rfl, Nat.zero_le _, HO0.out⟩
      case round =>
       clear HO0
       obtain ⟨i, va, rfl, hiN, hO⟩ := hrel
       have HOs : Hid (BA V V.heap.size ob A.k A.nx (gbL A (lets b) i) vn0 va wr) := hO
       have cs := (HRV.out.stay hO.below).cell
       clear hO
       by_cases hlt : i < A.ac.length
       · have hltI : (i : Int) < A.ac.length := by omega
         obtain ⟨f, hf⟩ : ∃ f, goN A i (lets b) = f := ⟨_, rfl⟩
         have hfl : f < A.ac.length := by rw [← hf]; exact HLG.out i hlt
         have hfI : (f : Int) < A.ac.length := by omega
         have HF : Hid (goN A i (lets b) = f) := hf
         go_wp2_with fail
         refine (HGO.out _ i (go_on HBV.out HOs.out.below) hlt).mono ?_
         rintro e y2 ⟨rfl, hy2⟩
         have hO := HOs.out.call hy2
         rw [hf]
         clear hf hy2 HOs cs
         have cs := (HRV.out.stay hO.below).cell
         obtain ⟨za, zc, rfl⟩ := own_shape hO.acp
         have HO : Hid (BA V V.heap.size ob A.k A.nx (gbL A (lets b) i) vn0 (.slice za (gbL A (lets b) i).length zc) y2) := hO
         have ho2 : y2.drew.cell? ⟨ob, 2, none⟩ = some (.slice za (gbL A (lets b) i).length zc) := cell_of hO.out
         have csd : ∀ o, y2.drew.cell? ⟨w.heap.size, o, none⟩ = (#[.int .i64 A.k, .slice (some ⟨gn, on, none⟩) A.nx.length cn, .slice (some ⟨ga, oa, none⟩) A.ac.length ca] : Array Value)[o]? := cs
         have hcell := CA.out y2 f (go_on HBV.out hO.below) hfl
         obtain ⟨x, hx⟩ : ∃ x, A.ac.getD f false = x := ⟨_, rfl⟩
         rw [hx] at hcell
         have hcd : y2.drew.cell? ⟨ga, oa + f, none⟩ = some (.bool x) := hcell
         have hal : (gbL A (lets b) i).length ≤ 4096 := by rw [gbL_len]; omega
         have HAC : Hid (gbL A (lets b) i ++ [x] = gbL A (lets b) (i + 1)) := by show _ = _; rw [← gbL_step, HF.out]; rw [← hx]; rfl
         have ho2a : ∀ O, (y2.alloc O).drew.cell? ⟨ob, 2, none⟩ = some (.slice za (gbL A (lets b) i).length zc) := fun O => by have := below_cell (o := 2) (below_new y2 O) (Array.getElem?_eq_some_iff.1 hO.out).1; exact this.trans ho2
         have csa : ∀ O o, (y2.alloc O).drew.cell? ⟨w.heap.size, o, none⟩ = (#[.int .i64 A.k, .slice (some ⟨gn, on, none⟩) A.nx.length cn, .slice (some ⟨ga, oa, none⟩) A.ac.length ca] : Array Value)[o]? := fun O o => ((HRV.out.stay hO.below).alloc O).cell o
         have HOD : Hid (BA V V.heap.size ob A.k A.nx (gbL A (lets b) i) vn0 (.slice za (gbL A (lets b) i).length zc) y2.drew) := hO.call (Below.refl _ _).drew
         have KS : Hid (∀ O, (y2.alloc O).drew.ownsRow V.heap.size 4 1 (.slice za (gbL A (lets b) i).length zc) (gbL A (lets b) i).length (bC (gbL A (lets b) i))) := fun O => hO.acp.alloc O
         have KN : Hid (∀ (j : Nat) (u : Value), [Value.bool x][j]? = some u → (y2.alloc (.cells #[.bool x] 4)).drew.cell? ((⟨y2.heap.size, 0, none⟩ : Addr).add j) = some u) := cell_one_new y2 (.bool x) 4
         clear hO hx hcell
         go_wp2_with fail
         go_region_law (rw [if_pos (by rfl)]; refine wp_append_own _ _ _ 23 rfl V.heap.size 4 i1 (.bool false) 1 1 Try.underlying23 hj hq0 hq1 hq2 rfl (by decide) _ _ _ rfl (KS.out _) ⟨y2.heap.size, 0, none⟩ 1 1 [.bool x] rfl rfl KN.out (by intro u hu; simp at hu; subst hu; rfl) (by unfold maxLen; omega) (by omega) (by have := HO.out.below.size; simp; omega) ?_; intro v' w4 hown' hgrow _; obtain ⟨va', vc', rfl⟩ := own_shape hown'; have hgr : (y2.drew.alloc (.cells #[.bool x] 4)).grownBy w4 _ := hgrow; have hout4 := HOD.out.outN HOD.out.acp (by decide) hgr; have hcs : w4.cell? ⟨ob, 2, none⟩ = some (.slice za (gbL A (lets b) i).length zc) := cell_of hout4; have hfz : w4.frozen? ⟨ob, 2, none⟩ = false := froz_of hout4; have hO5 := HOD.out.acpd hgr hown'; rw [HAC.out] at hO5; have HO5 : Hid _ := hO5; clear hO5 hown' hgrow hgr hout4)
         all_goals (
           go_wp2_with fail
           go_roundw
           case rel => exact ⟨i + 1, _, by go_num, by omega, HO5.out⟩
           case measure => simp [intOf]; omega)
       · have hltI : ¬ (i : Int) < A.ac.length := by omega
         have hiE : i = A.ac.length := by omega
         obtain ⟨na, nc, hvn⟩ := own_shape HOs.out.nxt
         obtain ⟨za, zc, hva⟩ := own_shape HOs.out.acp
         subst hvn hva
         have ho0 : wr.cell? ⟨ob, 0, none⟩ = some (.int .i64 A.k) := cell_of HOs.out.out
         have ho1 : wr.cell? ⟨ob, 1, none⟩ = some (.slice na (A.nx).length nc) := cell_of HOs.out.out
         have ho2 : wr.cell? ⟨ob, 2, none⟩ = some (.slice za (gbL A (lets b) i).length zc) := cell_of HOs.out.out
         have HAU : Hid ((⟨A.k, A.nx, gbL A (lets b) i⟩ : Aut) = (⟨A.k, A.nx, (List.range A.ac.length).map fun i => aN A (goN A i (lets b))⟩ : Aut)) := by
           show _ = _
           rw [hiE]; rfl
         have HRE : Hid (Calls Try.prog 25 #[.agg #[.int .i64 A.k, .slice na (A.nx).length nc, .slice za (gbL A (lets b) i).length zc]] wr (FQ (bhA A b) 0 wr)) := by
           have h1 := HOs.out.ar
           rw [HAU.out] at h1
           have lT := HGT.out
           have h3 : (((⟨A.k, A.nx, (List.range A.ac.length).map fun i => aN A (goN A i (lets b))⟩ : Aut)).ac.length : Int) * ((⟨A.k, A.nx, (List.range A.ac.length).map fun i => aN A (goN A i (lets b))⟩ : Aut)).k ≤ 4096 * 8 := Int.mul_le_mul (by have := lT.n2; omega) lT.k8 (by have := lT.k1; omega) (by omega)
           have h2 := rreach_any _ _ _ h1 (by have := lT.len; omega) (by have := lT.n2; omega)
           rw [← HA0.out, chkA_ok lT] at h2
           exact h2
         have HRS : Hid (wr.heap[V.heap.size]? = some (.cells #[.int .i64 0, .slice none 0 0, .slice none 0 0] 25 (0, 0))) := HOs.out.res
         have HBQ : Hid (Below w.heap.size w wr) := go_on HBV.out HOs.out.below
         clear hiE
         go_wp2_with fail
         refine HRE.out.mono ?_
         rintro e w3 ⟨v', rfl, hao, hb3⟩
         have hres3 := (hb3.block _ (Array.getElem?_eq_some_iff.1 HRS.out).1).trans HRS.out
         obtain ⟨rn, rcn, ra, rca, rfl, o1, o2⟩ := hao
         obtain ⟨B, hB⟩ : ∃ B, bhA A b = B := ⟨_, rfl⟩
         rw [hB] at o1 o2 ⊢
         have HBE : Hid (bhA A b = B) := hB
         obtain ⟨f1, f2, f3⟩ := res_done (B := B) (base := w.heap.size) (w0 := w) (x0 := .int .i64 B.k) (x1 := .slice rn B.nx.length rcn) (x2 := .slice ra B.ac.length rca) hres3 ⟨rn, rcn, ra, rca, rfl, own_mono o1 HBQ.out.size, own_mono o2 HBQ.out.size⟩ (go_on HBQ.out hb3) (by have := HVS.out; omega)
         have hp0 : w3.cell? ⟨V.heap.size, 0, none⟩ = some (.int .i64 0) := cell_of hres3
         have hp1 : w3.cell? ⟨V.heap.size, 1, none⟩ = some (.slice none 0 0) := cell_of hres3
         have hp2 : w3.cell? ⟨V.heap.size, 2, none⟩ = some (.slice none 0 0) := cell_of hres3
         have hpf : ∀ j, w3.frozen? ⟨V.heap.size, j, none⟩ = false := fun j => froz_of hres3
         have F1 : Hid _ := f1
         have F2 : Hid _ := f2
         have F3 : Hid _ := f3
         clear o1 o2 hb3 hres3 f1 f2 f3 hB ho0 ho1 ho2
         go_wp2_with fail
         refine bodyPost_ret (results_auto rfl rfl F1.out rfl) rfl ⟨.agg #[.int .i64 B.k, .slice rn B.nx.length rcn, .slice ra B.ac.length rca], ?_, ?_, F3.out⟩
         · rw [HE.out]; rfl
         · rw [HBE.out]; exact F2.out
  · have HA0 : Hid (bhA A b = zAut) := by show _ = _; unfold bhA; rw [if_neg (by rw [HE.out]; exact e0)]
    rw [hE]
    obtain ⟨X, hX⟩ : ∃ X, runV A 0 b = X := ⟨_, rfl⟩
    rw [hX]
    have hr0 : w1.cell? ⟨V.heap.size, 0, none⟩ = some (.int .i64 0) := cell_of hres1
    have hr1 : w1.cell? ⟨V.heap.size, 1, none⟩ = some (.slice none 0 0) := cell_of hres1
    have hr2 : w1.cell? ⟨V.heap.size, 2, none⟩ = some (.slice none 0 0) := cell_of hres1
    have hf : ∀ j, w1.frozen? ⟨V.heap.size, j, none⟩ = false := fun j => froz_of hres1
    obtain ⟨f1, f2, f3⟩ := res_done (B := zAut) (base := w.heap.size) (w0 := w) hres1 (AO.zero _ _) (go_on HBV.out HB1.out) (by have := HVS.out; omega)
    have F1 : Hid _ := f1
    have F2 : Hid _ := f2
    have F3 : Hid _ := f3
    have hd0 : decide (E = 0) = false := decide_eq_false e0
    clear hres1 f1 f2 f3 hE hX
    go_wp2_with fail
    refine bodyPost_ret (results_auto rfl rfl F1.out rfl) rfl ⟨.agg #[.int .i64 0, .slice none 0 0, .slice none 0 0], ?_, ?_, F3.out⟩
    · rw [HE.out]; rfl
    · rw [HA0.out]; exact F2.out
end Go.Proofs.Ytbfoamidnekoaab
