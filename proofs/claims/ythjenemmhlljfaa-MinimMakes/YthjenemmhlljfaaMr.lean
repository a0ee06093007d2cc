/- The document's first. -/
import Derived.Test.YthjenemmhlljfaaMq
namespace Go.Proofs.Ythjenemmhlljfaa
open Go Go.RowKit Go.Lib
set_option linter.unusedVariables false
attribute [-instance] instBEqProd

set_option maxHeartbeats 4000000 in
set_option maxRecDepth 100000 in
theorem rfirst_any (v : Value) (A : Aut) (w : World) (h : AR w v A) (G : Good A) :
    Calls Try.prog 34 #[v] w fun e w' => ∃ g, e = .returned (.slice (some ⟨g, 0, none⟩) A.ac.length A.ac.length) ∧ w'.ownsRow w.heap.size 3 1 (.slice (some ⟨g, 0, none⟩) A.ac.length A.ac.length) A.ac.length (nC (lvl A 0)) ∧ Below w.heap.size w w' := by
  obtain ⟨an, cn, aa, ca, e, h1, h2⟩ := h.is
  obtain ⟨i0, hi, hz0, hz1, hz2⟩ := info_parts Try.info_int
  have hn1 := G.n1
  have hn2 := G.n2
  have hmk := fun w0 => run_make (P := Try.prog) w0 22 3 i0 (.int .i64 0) Try.underlying22 hi hz0 .i64 .i64 (A.ac.length : Int) (A.ac.length : Int) (by omega) (by omega) (by rw [hz2]; omega) (by omega)
  rw [hz1] at hmk
  simp only [Nat.mul_one] at hmk
  obtain ⟨F, hF⟩ : ∃ F : Nat → Nat, ∀ s, F s = ((List.range A.ac.length).map (aN A)).idxOf (aN A s) := ⟨_, fun _ => rfl⟩
  have HF : Hid ((List.range A.ac.length).map F = lvl A 0) := by show _ = lst _ _; unfold lst; exact List.map_congr_left fun s _ => hF s
  have HFF : Hid (∀ s, s < A.ac.length → F s ≤ s ∧ aN A (F s) = aN A s ∧ ∀ t, t < F s → aN A t ≠ aN A s) := fun s hs => by rw [hF]; exact idx_facts (aN A) hs
  obtain ⟨ga, oa, rfl, hga, _⟩ := h2.bool (i := 0) (by omega)
  have CA : Hid (∀ y i, Below w.heap.size w y → i < A.ac.length → y.cell? ⟨ga, oa + i, none⟩ = some (.bool (aN A i))) := fun y i hy hi => by
    obtain ⟨g', o', e', _, hc'⟩ := (h2.stay hy).bool hi
    simp only [Option.some.injEq, Addr.mk.injEq] at e'
    obtain ⟨rfl, rfl, _⟩ := e'
    exact hc'
  subst e
  clear h h1 h2 G hF
  go_enter Try.func34, Try.ntmps34
  go_wp2_with fail
  have HU : Hid (Below w.heap.size w ((w.alloc (.cells #[.int .i64 A.k, .slice an A.nx.length cn, .slice (some ⟨ga, oa, none⟩) A.ac.length ca] 25)).alloc (.cells (madeCells #[.int .i64 0] A.ac.length) 3))) := go_on (below_new _ _) (below_new _ _)
  have HR0 : Hid (RowAt ((w.alloc (.cells #[.int .i64 A.k, .slice an A.nx.length cn, .slice (some ⟨ga, oa, none⟩) A.ac.length ca] 25)).alloc (.cells (madeCells #[.int .i64 0] A.ac.length) 3)) w.heap.size #[.int .i64 A.k, .slice an A.nx.length cn, .slice (some ⟨ga, oa, none⟩) A.ac.length ca]) := (RowAt.last _ _ _).alloc _
  have HO0 : Hid (((w.alloc (.cells #[.int .i64 A.k, .slice an A.nx.length cn, .slice (some ⟨ga, oa, none⟩) A.ac.length ca] 25)).alloc (.cells (madeCells #[.int .i64 0] A.ac.length) 3)).ownsRow w.heap.size 3 1 (.slice (some ⟨w.heap.size + 1, 0, none⟩) A.ac.length A.ac.length) A.ac.length (nC (filN F A.ac.length 0))) := by
    have := made_row (w.alloc (.cells #[.int .i64 A.k, .slice an A.nx.length cn, .slice (some ⟨ga, oa, none⟩) A.ac.length ca] 25)) F (n := A.ac.length) (base := w.heap.size) (by omega) (by simp)
    rw [World.size_alloc] at this
    exact this
  clear hmk
  go_loopw [4] (fun vi wr => ∃ i : Nat, vi = .int .i64 i ∧ i ≤ A.ac.length ∧ RowAt wr w.heap.size #[.int .i64 A.k, .slice an A.nx.length cn, .slice (some ⟨ga, oa, none⟩) A.ac.length ca] ∧ wr.ownsRow w.heap.size 3 1 (.slice (some ⟨w.heap.size + 1, 0, none⟩) A.ac.length A.ac.length) A.ac.length (nC (filN F A.ac.length i)) ∧ Below w.heap.size w wr) (fun vi _ => A.ac.length - (intOf vi).toNat)
  case atStart => exact ⟨0, rfl, Nat.zero_le _, HR0.out, HO0.out, HU.out⟩
  case round =>
    clear HR0 HO0 HU
    obtain ⟨i, rfl, hin, hR, hO, hB⟩ := hrel
    have HO : Hid (wr.ownsRow w.heap.size 3 1 (.slice (some ⟨w.heap.size + 1, 0, none⟩) A.ac.length A.ac.length) A.ac.length (nC (filN F A.ac.length i))) := hO
    have HR : Hid (RowAt wr w.heap.size #[.int .i64 A.k, .slice an A.nx.length cn, .slice (some ⟨ga, oa, none⟩) A.ac.length ca]) := hR
    have HB : Hid (Below w.heap.size w wr) := hB
    clear hO hR hB
    by_cases hlt : i < A.ac.length
    · have hiI : (i : Int) < A.ac.length := by omega
      obtain ⟨f1, f2, f3⟩ := HFF.out i hlt
      obtain ⟨D, hD⟩ : ∃ D, F i = D := ⟨_, rfl⟩
      rw [hD] at f1 f2 f3
      have HX : Hid (F i = D) := hD
      have H2 : Hid (aN A D = aN A i) := f2
      have H3 : Hid (∀ t, t < D → aN A t ≠ aN A i) := f3
      clear f2 f3 hD
      go_wp2_with fail
      obtain ⟨wq, hwq⟩ : ∃ wq, wq = wr := ⟨_, rfl⟩
      have HO' : Hid (wq.ownsRow w.heap.size 3 1 (.slice (some ⟨w.heap.size + 1, 0, none⟩) A.ac.length A.ac.length) A.ac.length (nC (filN F A.ac.length i))) := by rw [hwq]; exact HO.out
      have HR' : Hid (RowAt wq w.heap.size #[.int .i64 A.k, .slice an A.nx.length cn, .slice (some ⟨ga, oa, none⟩) A.ac.length ca]) := by rw [hwq]; exact HR.out
      have HB' : Hid (Below w.heap.size w wq) := by rw [hwq]; exact HB.out
      rw [← hwq]
      clear HO HR HB
      subst hwq
      go_loopw [5] (fun vt wr => ∃ t q : Nat, vt = .int .i64 t ∧ t ≤ D ∧ wr = wq.drewN q) (fun vt _ => D - (intOf vt).toNat)
      case atStart => exact ⟨0, 0, rfl, Nat.zero_le _, rfl⟩
      case round =>
        obtain ⟨t, q, rfl, htD, rfl⟩ := hrel
        have htI : (t : Int) < A.ac.length := by omega
        have ct := CA.out wq t HB'.out (by omega)
        have ci := CA.out wq i HB'.out hlt
        obtain ⟨x, hx⟩ : ∃ x, aN A t = x := ⟨_, rfl⟩
        obtain ⟨y, hy⟩ : ∃ y, aN A i = y := ⟨_, rfl⟩
        rw [hx] at ct
        rw [hy] at ci
        have S0 : (∀ j, (wq.drewN q).drew.cell? ⟨w.heap.size, j, none⟩ = (#[.int .i64 A.k, .slice an A.nx.length cn, .slice (some ⟨ga, oa, none⟩) A.ac.length ca] : Array Value)[j]?) ∧ (wq.drewN q).drew.cell? ⟨ga, oa + t, none⟩ = some (.bool x) ∧ (wq.drewN q).drew.cell? ⟨ga, oa + i, none⟩ = some (.bool y) := ⟨HR'.out.cell, ct, ci⟩
        by_cases e : t = D
        · have hxy : x = y := by rw [← hx, ← hy, e]; exact H2.out
          subst hxy
          have HE : Hid (t = D) := e
          have hO1 := HO'.out
          have hfz : (wq.drewN (q + 1)).frozen? ⟨w.heap.size + 1, i, none⟩ = false := hO1.frozenAt i
          have hcl : (wq.drewN (q + 1)).cell? ⟨w.heap.size + 1, i, none⟩ = some (.int .i64 0) := (hO1.cellAt i (by omega)).trans (filN_cell F hlt)
          have HN : Hid (((wq.drewN (q + 1)).setCell ⟨w.heap.size + 1, i, none⟩ (.int .i64 (t : Int))).ownsRow w.heap.size 3 1 (.slice (some ⟨w.heap.size + 1, 0, none⟩) A.ac.length A.ac.length) A.ac.length (nC (filN F A.ac.length (i + 1)))) := by
            have hst := (hO1.stored i (.int .i64 (t : Int))).1
            rw [← filN_set F hlt, nC_set, HX.out, ← e]
            exact hst
          have HN2 : Hid (RowAt ((wq.drewN (q + 1)).setCell ⟨w.heap.size + 1, i, none⟩ (.int .i64 (t : Int))) w.heap.size #[.int .i64 A.k, .slice an A.nx.length cn, .slice (some ⟨ga, oa, none⟩) A.ac.length ca]) := by
            have := HR'.out
            refine ⟨by simp [World.setCell]; exact this.lt, fun o => ?_⟩
            rw [World.cell?_of_block (heap_set_other (show w.heap.size ≠ w.heap.size + 1 by omega))]
            exact this.cell o
          have HN3 : Hid (Below w.heap.size w ((wq.drewN (q + 1)).setCell ⟨w.heap.size + 1, i, none⟩ (.int .i64 (t : Int)))) := (below_drewN HB'.out (q + 1)).setCell (p := ⟨w.heap.size + 1, i, none⟩) (by show _ ≤ w.heap.size + 1; omega) _
          clear ct ci hx hy e hO1
          cases x with
          | false =>
            go_wp2_with fail
            go_region_held3 (fun z => (∀ j, z.cell? ⟨w.heap.size, j, none⟩ = (#[.int .i64 A.k, .slice an A.nx.length cn, .slice (some ⟨ga, oa, none⟩) A.ac.length ca] : Array Value)[j]?) ∧ z.cell? ⟨ga, oa + t, none⟩ = some (.bool false) ∧ z.cell? ⟨ga, oa + i, none⟩ = some (.bool false)) (first | exact S0 | assumption) (fail)
            go_wp2_with fail
            go_roundw
            case rel => exact ⟨i + 1, by go_num, by omega, HN2.out, HN.out, HN3.out⟩
            case measure => simp [intOf]; omega
          | true =>
            go_wp2_with fail
            go_region_held3 (fun z => (∀ j, z.cell? ⟨w.heap.size, j, none⟩ = (#[.int .i64 A.k, .slice an A.nx.length cn, .slice (some ⟨ga, oa, none⟩) A.ac.length ca] : Array Value)[j]?) ∧ z.cell? ⟨ga, oa + t, none⟩ = some (.bool true) ∧ z.cell? ⟨ga, oa + i, none⟩ = some (.bool true)) (first | exact S0 | assumption) (fail)
            go_wp2_with fail
            go_roundw
            case rel => exact ⟨i + 1, by go_num, by omega, HN2.out, HN.out, HN3.out⟩
            case measure => simp [intOf]; omega
        · have hne : x ≠ y := by rw [← hx, ← hy]; exact H3.out t (by omega)
          have hbq : (x == y) = false := by simpa using hne
          have htl : t < D := by omega
          clear ct ci hx hy
          clear hbq
          cases x with
          | false => cases y with
           | false => exact absurd rfl hne
           | true =>
            clear hne
            go_wp2_with fail
            go_region_held3 (fun z => (∀ j, z.cell? ⟨w.heap.size, j, none⟩ = (#[.int .i64 A.k, .slice an A.nx.length cn, .slice (some ⟨ga, oa, none⟩) A.ac.length ca] : Array Value)[j]?) ∧ z.cell? ⟨ga, oa + t, none⟩ = some (.bool false) ∧ z.cell? ⟨ga, oa + i, none⟩ = some (.bool true)) (first | exact S0 | assumption) (fail)
            go_wp2_with fail
            go_roundw
            case rel => exact ⟨t + 1, q + 1, by go_num, by omega, rfl⟩
            case measure => simp [intOf]; omega
          | true => cases y with
           | true => exact absurd rfl hne
           | false =>
            clear hne
            go_wp2_with fail
            go_region_held3 (fun z => (∀ j, z.cell? ⟨w.heap.size, j, none⟩ = (#[.int .i64 A.k, .slice an A.nx.length cn, .slice (some ⟨ga, oa, none⟩) A.ac.length ca] : Array Value)[j]?) ∧ z.cell? ⟨ga, oa + t, none⟩ = some (.bool true) ∧ z.cell? ⟨ga, oa + i, none⟩ = some (.bool false)) (first | exact S0 | assumption) (fail)
            go_wp2_with fail
            go_roundw
            case rel => exact ⟨t + 1, q + 1, by go_num, by omega, rfl⟩
            case measure => simp [intOf]; omega
    · have hiI : ¬ (i : Int) < A.ac.length := by omega
      have HQ : Hid (wr.ownsRow w.heap.size 3 1 (.slice (some ⟨w.heap.size + 1, 0, none⟩) A.ac.length A.ac.length) A.ac.length (nC (lvl A 0))) := by
        have := HO.out
        rw [show i = A.ac.length by omega, filN_end, HF.out] at this
        exact this
      go_wp2_with fail
      go_ret
      exact ⟨_, rfl, HQ.out, HB.out⟩
end Go.Proofs.Ythjenemmhlljfaa
