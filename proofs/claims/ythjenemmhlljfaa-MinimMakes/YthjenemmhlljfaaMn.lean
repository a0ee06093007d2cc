/- The document's rounds: first, alike, same. -/
import Derived.Test.YthjenemmhlljfaaMi
import Derived.Deep.RegionHeld3
namespace Go.Proofs.Ythjenemmhlljfaa
open Go Go.RowKit Go.Lib
set_option linter.unusedVariables false
attribute [-instance] instBEqProd

set_option maxHeartbeats 4000000 in
set_option maxRecDepth 100000 in
theorem alike_any (v : Value) (A : Aut) (w : World) (h : AR w v A) (G : Good A) (a : Option Addr) (cap : Nat) (l : List Nat) (hL : SR w a (nC l)) (hn : l.length = A.ac.length) (s t : Nat) (hs : s < A.ac.length) (ht : t < A.ac.length) :
    Calls Try.prog 53 #[v, .slice a A.ac.length cap, .int .i64 s, .int .i64 t] w fun e w' => e = .returned (.bool (decide (sg A l s = sg A l t))) ∧ Below w.heap.size w w' := by
  obtain ⟨an, cn, aa, ca, e, k1, k2⟩ := h.is
  have hn1 := G.n1
  have hn2 := G.n2
  obtain ⟨gl, ol, rfl, hglw, _⟩ := hL.nat (i := 0) (by omega)
  have CL : Hid (∀ y i, Below w.heap.size w y → i < A.ac.length → y.cell? ⟨gl, ol + i, none⟩ = some (.int .i64 (l.getD i 0 : Nat))) := fun y i hy hi => by
    obtain ⟨g', o', e', _, hc'⟩ := (hL.stay hy).nat (i := i) (by omega)
    simp only [Option.some.injEq, Addr.mk.injEq] at e'
    obtain ⟨rfl, rfl, _⟩ := e'
    exact hc'
  have hn0 : 0 < A.nx.length := by have := (G.at (s := 0) (c := 0) (by omega) (by have := G.k1; omega)).1; omega
  obtain ⟨gx, ox, rfl, hgx, _⟩ := k1.int hn0
  have CN : Hid (∀ y i, Below w.heap.size w y → i < A.nx.length → y.cell? ⟨gx, ox + i, none⟩ = some (.int .i64 (A.nx.getD i 0))) := fun y i hy hi => by
    obtain ⟨g', o', e', _, hc'⟩ := (k1.stay hy).int hi
    simp only [Option.some.injEq, Addr.mk.injEq] at e'
    obtain ⟨rfl, rfl, _⟩ := e'
    exact hc'
  have HG : Hid (Good A) := G
  obtain ⟨K, hK⟩ : ∃ K : Nat, A.k.toNat = K := ⟨_, rfl⟩
  have HKK : Hid (A.k = (K : Int) ∧ 1 ≤ K ∧ K ≤ 8 ∧ A.k.toNat = K) := ⟨by have := G.kn; omega, by have := G.kn; omega, by have := G.kn; omega, hK⟩
  have cs0 := CL.out _ s (below_new w (.cells #[.int .i64 A.k, .slice (some ⟨gx, ox, none⟩) A.nx.length cn, .slice aa A.ac.length ca] 25)) hs
  have ct0 := CL.out _ t (below_new w (.cells #[.int .i64 A.k, .slice (some ⟨gx, ox, none⟩) A.nx.length cn, .slice aa A.ac.length ca] 25)) ht
  have HE1 : Hid (l.getD s 0 ≠ l.getD t 0 → decide (sg A l s = sg A l t) = false) := fun q => decide_eq_false fun e => q (by unfold sg at e; simp only [Prod.mk.injEq] at e; exact e.1)
  have HE2 : Hid (∀ c, c < K → l.getD (dN A s c) 0 ≠ l.getD (dN A t c) 0 → decide (sg A l s = sg A l t) = false) := fun c hc q => decide_eq_false fun e => q (by
    unfold sg at e
    simp only [Prod.mk.injEq] at e
    have := congrArg (fun (L : List Nat) => L[c]?) e.2
    simpa [List.getElem?_range (show c < A.k.toNat by omega)] using this)
  have HE3 : Hid (l.getD s 0 = l.getD t 0 → (∀ c, c < K → l.getD (dN A s c) 0 = l.getD (dN A t c) 0) → decide (sg A l s = sg A l t) = true) := fun q1 q2 => decide_eq_true (by
    unfold sg
    exact Prod.ext q1 (List.map_congr_left fun c hc => q2 c (by have := List.mem_range.1 hc; omega)))
  have hsI : (s : Int) < A.ac.length := by omega
  have htI : (t : Int) < A.ac.length := by omega
  subst e
  clear h hL k1 k2 hn G hK hn0
  go_enter Try.func53, Try.ntmps53
  go_wp2_with fail
  obtain ⟨V, hV⟩ : ∃ V, V = w.alloc (.cells #[.int .i64 A.k, .slice (some ⟨gx, ox, none⟩) A.nx.length cn, .slice aa A.ac.length ca] 25) := ⟨_, rfl⟩
  have HBV : Hid (Below w.heap.size w V) := by show Below _ _ _; rw [hV]; exact below_new _ _
  have HRV : Hid (RowAt V w.heap.size #[.int .i64 A.k, .slice (some ⟨gx, ox, none⟩) A.nx.length cn, .slice aa A.ac.length ca]) := by show RowAt _ _ _; rw [hV]; exact RowAt.last _ _ _
  rw [← hV] at cs0 ct0 ⊢
  clear hV
  obtain ⟨x, hx⟩ : ∃ x, l.getD s 0 = x := ⟨_, rfl⟩
  obtain ⟨y, hy⟩ : ∃ y, l.getD t 0 = y := ⟨_, rfl⟩
  rw [hx] at cs0
  rw [hy] at ct0
  have S0 : V.drew.cell? ⟨gl, ol + s, none⟩ = some (.int .i64 (x : Int)) ∧ V.drew.cell? ⟨gl, ol + t, none⟩ = some (.int .i64 (y : Int)) := ⟨cs0, ct0⟩
  have HXY : Hid (l.getD s 0 = x ∧ l.getD t 0 = y) := ⟨hx, hy⟩
  clear cs0 ct0 hx hy
  by_cases hxy : x = y
  · subst hxy
    go_region_held3 (fun z => z.cell? ⟨gl, ol + s, none⟩ = some (.int .i64 (x : Int)) ∧ z.cell? ⟨gl, ol + t, none⟩ = some (.int .i64 (x : Int))) (first | exact S0 | assumption) (fail)
    go_wp2_with fail
    go_loopw [9] (fun vc wr => ∃ c q : Nat, vc = .int .i64 c ∧ c ≤ K ∧ (∀ i, i < c → l.getD (dN A s i) 0 = l.getD (dN A t i) 0) ∧ wr = V.drewN q) (fun vc _ => K - (intOf vc).toNat)
    case atStart => exact ⟨0, 1, rfl, Nat.zero_le _, fun i hi => by omega, rfl⟩
    case round =>
     obtain ⟨c, q, rfl, hcK, hall, rfl⟩ := hrel
     have HALL : Hid (∀ i, i < c → l.getD (dN A s i) 0 = l.getD (dN A t i) 0) := hall
     have cs : ∀ o, (V.drewN q).cell? ⟨w.heap.size, o, none⟩ = (#[.int .i64 A.k, .slice (some ⟨gx, ox, none⟩) A.nx.length cn, .slice aa A.ac.length ca] : Array Value)[o]? := HRV.out.cell
     clear hall S0
     by_cases hc : c < K
     · have hcI : (c : Int) < A.k := by have := HKK.out.1; omega
       have hc8 : c < 8 := by have := HKK.out.2.2.1; omega
       have hp1 : (s : Int) * A.k = ((s * K : Nat) : Int) := by rw [Int.natCast_mul, HKK.out.1]
       have hm1 : s * K ≤ 4095 * 8 := Nat.mul_le_mul (by omega) HKK.out.2.2.1
       obtain ⟨b1, hb1⟩ : ∃ b, s * K = b := ⟨_, rfl⟩
       rw [hb1] at hp1 hm1
       have hu1 : IntKind.i64.wrap ((s : Int) * A.k) = (b1 : Int) := by rw [hp1, IntKind.wrap_i64]; omega
       obtain ⟨q1, hq1⟩ : ∃ q, b1 + c = q := ⟨_, rfl⟩
       have hv1 : IntKind.i64.wrap ((b1 : Int) + c) = (q1 : Int) := by rw [IntKind.wrap_i64]; omega
       obtain ⟨a1, e1, d1⟩ := HG.out.at (s := s) (c := c) (by omega) hcI
       rw [HKK.out.2.2.2, hb1, hq1] at a1 e1
       have f1 := CN.out V q1 HBV.out a1
       rw [e1] at f1
       obtain ⟨D1, hD1⟩ : ∃ D, dN A s c = D := ⟨_, rfl⟩
       rw [hD1] at f1 d1
       have gI1 : (q1 : Int) < A.nx.length := by omega
       have dI1 : (D1 : Int) < A.ac.length := by omega
       have h1 := CL.out V D1 HBV.out d1
       obtain ⟨x1, hx1⟩ : ∃ x, l.getD D1 0 = x := ⟨_, rfl⟩
       rw [hx1] at h1
       have hp2 : (t : Int) * A.k = ((t * K : Nat) : Int) := by rw [Int.natCast_mul, HKK.out.1]
       have hm2 : t * K ≤ 4095 * 8 := Nat.mul_le_mul (by omega) HKK.out.2.2.1
       obtain ⟨b2, hb2⟩ : ∃ b, t * K = b := ⟨_, rfl⟩
       rw [hb2] at hp2 hm2
       have hu2 : IntKind.i64.wrap ((t : Int) * A.k) = (b2 : Int) := by rw [hp2, IntKind.wrap_i64]; omega
       obtain ⟨q2, hq2⟩ : ∃ q, b2 + c = q := ⟨_, rfl⟩
       have hv2 : IntKind.i64.wrap ((b2 : Int) + c) = (q2 : Int) := by rw [IntKind.wrap_i64]; omega
       obtain ⟨a2, e2, d2⟩ := HG.out.at (s := t) (c := c) (by omega) hcI
       rw [HKK.out.2.2.2, hb2, hq2] at a2 e2
       have f2 := CN.out V q2 HBV.out a2
       rw [e2] at f2
       obtain ⟨D2, hD2⟩ : ∃ D, dN A t c = D := ⟨_, rfl⟩
       rw [hD2] at f2 d2
       have gI2 : (q2 : Int) < A.nx.length := by omega
       have dI2 : (D2 : Int) < A.ac.length := by omega
       have h2 := CL.out V D2 HBV.out d2
       obtain ⟨x2, hx2⟩ : ∃ x, l.getD D2 0 = x := ⟨_, rfl⟩
       rw [hx2] at h2
       have S1 : (∀ o, (V.drewN q).drew.cell? ⟨w.heap.size, o, none⟩ = (#[.int .i64 A.k, .slice (some ⟨gx, ox, none⟩) A.nx.length cn, .slice aa A.ac.length ca] : Array Value)[o]?) ∧ (V.drewN q).drew.cell? ⟨gx, ox + q1, none⟩ = some (.int .i64 (D1 : Int)) ∧ (V.drewN q).drew.cell? ⟨gx, ox + q2, none⟩ = some (.int .i64 (D2 : Int)) ∧ (V.drewN q).drew.cell? ⟨gl, ol + D1, none⟩ = some (.int .i64 (x1 : Int)) ∧ (V.drewN q).drew.cell? ⟨gl, ol + D2, none⟩ = some (.int .i64 (x2 : Int)) := ⟨HRV.out.cell, f1, f2, h1, h2⟩
       have HXX : Hid (l.getD (dN A s c) 0 = x1 ∧ l.getD (dN A t c) 0 = x2) := by show _ ∧ _; rw [hD1, hD2]; exact ⟨hx1, hx2⟩
       clear f1 f2 h1 h2 hx1 hx2 hD1 hD2 e1 e2 a1 a2 d1 d2 hb1 hb2 hp1 hp2 hm1 hm2 hq1 hq2
       by_cases hxx : x1 = x2
       · subst hxx
         go_wp2_with fail
         go_region_held3 (fun z => (∀ o, z.cell? ⟨w.heap.size, o, none⟩ = (#[.int .i64 A.k, .slice (some ⟨gx, ox, none⟩) A.nx.length cn, .slice aa A.ac.length ca] : Array Value)[o]?) ∧ z.cell? ⟨gx, ox + q1, none⟩ = some (.int .i64 (D1 : Int)) ∧ z.cell? ⟨gx, ox + q2, none⟩ = some (.int .i64 (D2 : Int)) ∧ z.cell? ⟨gl, ol + D1, none⟩ = some (.int .i64 (x1 : Int)) ∧ z.cell? ⟨gl, ol + D2, none⟩ = some (.int .i64 (x1 : Int))) (first | exact S1 | assumption) (fail)
         go_wp2_with fail
         go_roundw
         case rel =>
           refine ⟨c + 1, q + 1, by go_num, by omega, fun i hi => ?_, rfl⟩
           by_cases e : i = c
           · rw [e, HXX.out.1, HXX.out.2]
           · exact HALL.out i (by omega)
         case measure => simp [intOf]; omega
       · have hxI : ¬ (x1 : Int) = x2 := by omega
         have hd : decide ((x1 : Int) = x2) = false := decide_eq_false hxI
         have HF : Hid (decide (sg A l s = sg A l t) = false) := HE2.out c hc (by rw [HXX.out.1, HXX.out.2]; exact hxx)
         go_wp2_with fail
         go_region_held3 (fun z => (∀ o, z.cell? ⟨w.heap.size, o, none⟩ = (#[.int .i64 A.k, .slice (some ⟨gx, ox, none⟩) A.nx.length cn, .slice aa A.ac.length ca] : Array Value)[o]?) ∧ z.cell? ⟨gx, ox + q1, none⟩ = some (.int .i64 (D1 : Int)) ∧ z.cell? ⟨gx, ox + q2, none⟩ = some (.int .i64 (D2 : Int)) ∧ z.cell? ⟨gl, ol + D1, none⟩ = some (.int .i64 (x1 : Int)) ∧ z.cell? ⟨gl, ol + D2, none⟩ = some (.int .i64 (x2 : Int))) (first | exact S1 | assumption) (fail)
         go_wp2_with fail
         go_ret
         exact ⟨by rw [HF.out]; rfl, (below_drewN HBV.out q).drew⟩
     · have hcI : ¬ (c : Int) < A.k := by have := HKK.out.1; omega
       have HT : Hid (decide (sg A l s = sg A l t) = true) := HE3.out (by rw [HXY.out.1, HXY.out.2]) (fun i hi => HALL.out i (by omega))
       go_wp2_with fail
       go_ret
       exact ⟨by rw [HT.out]; rfl, below_drewN HBV.out _⟩
  · have hxI : ¬ (x : Int) = y := by omega
    have hd : decide ((x : Int) = y) = false := decide_eq_false hxI
    have HF : Hid (decide (sg A l s = sg A l t) = false) := HE1.out (by rw [HXY.out.1, HXY.out.2]; exact hxy)
    go_region_held3 (fun z => z.cell? ⟨gl, ol + s, none⟩ = some (.int .i64 (x : Int)) ∧ z.cell? ⟨gl, ol + t, none⟩ = some (.int .i64 (y : Int))) (first | exact S0 | assumption) (fail)
    go_wp2_with fail
    go_ret
    exact ⟨by rw [HF.out]; rfl, HBV.out.drew⟩
end Go.Proofs.Ythjenemmhlljfaa
