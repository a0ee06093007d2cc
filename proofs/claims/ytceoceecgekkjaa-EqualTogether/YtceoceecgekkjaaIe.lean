/- equal: step, lastWord. -/
import Derived.Test.YtceoceecgekkjaaId
import Derived.Test.YtceoceecgekkjaaLm
import Derived.Deep.RegionHeld3
namespace Go.Proofs.Ytceoceecgekkjaa
open Go Go.RowKit Go.Lib
set_option linter.unusedVariables false

theorem Try.info_pairE : (Try.prog.info? 77).map (·.size) = some 2 := by kernel_rfl
theorem results_pairE {fn : Func} {p : Tmp} (h : fn.results = #[.cell p 77]) {tmps : Array Value} {b : Nat} {arr : Array Value} {w : World} (hp : tmps.getD p undef = .pointer (some ⟨b, 0, none⟩)) (hc : w.heap[b]? = some (.cells arr 77 (0, 0))) (hs : arr.size = 2) :
    (results fn tmps).run Try.prog w = .ok (.agg arr) w :=
  results_cell_row h tmps w b 77 arr (0, 0) _ hp hc Try.underlying77 rfl (by rw [Try.info_pairE, hs])

set_option maxHeartbeats 8000000 in
set_option maxRecDepth 100000 in
theorem estep_any (va vb : Value) (A B : Aut) (w : World) (ha : AR w va A) (hb : AR w vb B) (G : Good A) (H : Good B) (hkk : B.k = A.k) (x y c : Nat) (hx : x < A.ac.length) (hy : y < B.ac.length) (hc : (c : Int) < A.k) :
    Calls Try.prog 54 #[va, vb, peV x y, .int .i64 c] w fun e w' => e = .returned (peV (dN A x c) (dN B y c)) ∧ Below w.heap.size w w' := by
  obtain ⟨an, cn, aa, ca, ea, k1, k2⟩ := ha.is
  obtain ⟨bn, dn, ba, da, eb, l1, l2⟩ := hb.is
  have hn2 := G.n2
  have hm2 := H.n2
  obtain ⟨a1, a2, a3⟩ := G.at hx hc
  obtain ⟨b1, b2, b3⟩ := H.at hy (by rw [hkk]; exact hc)
  rw [hkk] at b1 b2
  have hk1 := G.k1
  have hk8 := G.k8
  obtain ⟨gx, ox, rfl, hg1, n1⟩ := k1.int a1
  obtain ⟨gy, oy, rfl, hg2, n2⟩ := l1.int b1
  rw [a2] at n1
  rw [b2] at n2
  obtain ⟨D1, hD1⟩ : ∃ D, dN A x c = D := ⟨_, rfl⟩
  obtain ⟨D2, hD2⟩ : ∃ D, dN B y c = D := ⟨_, rfl⟩
  rw [hD1] at n1 a3 ⊢
  rw [hD2] at n2 b3 ⊢
  obtain ⟨K0, hK0⟩ : ∃ K0, A.k.toNat = K0 := ⟨_, rfl⟩
  have hKI : A.k = (K0 : Int) := by omega
  have hK08 : K0 ≤ 8 := by omega
  rw [hK0] at n1 n2 a1 b1
  have u1 : (x : Int) * A.k = ((x * K0 : Nat) : Int) := by rw [hKI]; simp
  have u2 : (y : Int) * A.k = ((y * K0 : Nat) : Int) := by rw [hKI]; simp
  have t1 : x * K0 ≤ 4095 * 8 := Nat.mul_le_mul (by omega) hK08
  have t2 : y * K0 ≤ 4095 * 8 := Nat.mul_le_mul (by omega) hK08
  obtain ⟨p1, hp1⟩ : ∃ p, x * K0 = p := ⟨_, rfl⟩
  obtain ⟨p2, hp2⟩ : ∃ p, y * K0 = p := ⟨_, rfl⟩
  rw [hp1] at u1 t1 n1 a1
  rw [hp2] at u2 t2 n2 b1
  obtain ⟨q1, hq1⟩ : ∃ q, p1 + c = q := ⟨_, rfl⟩
  obtain ⟨q2, hq2⟩ : ∃ q, p2 + c = q := ⟨_, rfl⟩
  rw [hq1] at n1 a1
  rw [hq2] at n2 b1
  have e1 : IntKind.i64.wrap ((x : Int) * A.k) = (p1 : Int) := by rw [u1, IntKind.wrap_i64]; omega
  have e2 : IntKind.i64.wrap ((y : Int) * A.k) = (p2 : Int) := by rw [u2, IntKind.wrap_i64]; omega
  have e3 : IntKind.i64.wrap ((p1 : Int) + c) = (q1 : Int) := by rw [IntKind.wrap_i64]; omega
  have e4 : IntKind.i64.wrap ((p2 : Int) + c) = (q2 : Int) := by rw [IntKind.wrap_i64]; omega
  have e5 : IntKind.u16.wrap (D1 : Int) = (D1 : Int) := by rw [IntKind.wrap_u16]; omega
  have e6 : IntKind.u16.wrap (D2 : Int) = (D2 : Int) := by rw [IntKind.wrap_u16]; omega
  have e7 : IntKind.i64.wrap (x : Int) = (x : Int) := by rw [IntKind.wrap_i64]; omega
  have e8 : IntKind.i64.wrap (y : Int) = (y : Int) := by rw [IntKind.wrap_i64]; omega
  have g1 : (q1 : Int) < A.nx.length := by omega
  have g2 : (q2 : Int) < B.nx.length := by omega
  rw [hkk] at eb
  subst ea
  subst eb
  obtain ⟨V, hV⟩ : ∃ V, V = ((((w.alloc (.cells #[.int .i64 A.k, .slice (some ⟨gx, ox, none⟩) A.nx.length cn, .slice aa A.ac.length ca] 25)).alloc (.cells #[.int .i64 A.k, .slice (some ⟨gy, oy, none⟩) B.nx.length dn, .slice ba B.ac.length da] 25)).alloc (.cells #[.int .u16 (x : Int), .int .u16 (y : Int)] 77)).alloc (.cells #[.int .u16 0, .int .u16 0] 77)) := ⟨_, rfl⟩
  have hBV : Below w.heap.size w V := by rw [hV]; exact go_on (go_on (go_on (below_new _ _) (below_new _ _)) (below_new _ _)) (below_new _ _)
  have r1 : RowAt V w.heap.size #[.int .i64 A.k, .slice (some ⟨gx, ox, none⟩) A.nx.length cn, .slice aa A.ac.length ca] := by rw [hV]; exact (((RowAt.last _ _ _).alloc _).alloc _).alloc _
  have r2 : RowAt V (w.heap.size + 1) #[.int .i64 A.k, .slice (some ⟨gy, oy, none⟩) B.nx.length dn, .slice ba B.ac.length da] := by
    have := RowAt.last (w.alloc (.cells #[.int .i64 A.k, .slice (some ⟨gx, ox, none⟩) A.nx.length cn, .slice aa A.ac.length ca] 25)) #[.int .i64 A.k, .slice (some ⟨gy, oy, none⟩) B.nx.length dn, .slice ba B.ac.length da] 25
    rw [World.size_alloc] at this
    rw [hV]; exact (this.alloc _).alloc _
  have r3 : RowAt V (w.heap.size + 1 + 1) #[.int .u16 (x : Int), .int .u16 (y : Int)] := by
    have := RowAt.last ((w.alloc (.cells #[.int .i64 A.k, .slice (some ⟨gx, ox, none⟩) A.nx.length cn, .slice aa A.ac.length ca] 25)).alloc (.cells #[.int .i64 A.k, .slice (some ⟨gy, oy, none⟩) B.nx.length dn, .slice ba B.ac.length da] 25)) #[.int .u16 (x : Int), .int .u16 (y : Int)] 77
    rw [World.size_alloc, World.size_alloc] at this
    rw [hV]; exact this.alloc _
  have r4 : V.heap[w.heap.size + 1 + 1 + 1]? = some (.cells #[.int .u16 0, .int .u16 0] 77 (0, 0)) := by
    have := heap_alloc_last (((w.alloc (.cells #[.int .i64 A.k, .slice (some ⟨gx, ox, none⟩) A.nx.length cn, .slice aa A.ac.length ca] 25)).alloc (.cells #[.int .i64 A.k, .slice (some ⟨gy, oy, none⟩) B.nx.length dn, .slice ba B.ac.length da] 25)).alloc (.cells #[.int .u16 (x : Int), .int .u16 (y : Int)] 77)) (.cells #[.int .u16 0, .int .u16 0] 77)
    rw [World.size_alloc, World.size_alloc, World.size_alloc] at this
    rw [hV]; exact this
  have m1 : V.cell? ⟨gx, ox + q1, none⟩ = some (.int .i64 (D1 : Int)) := (below_cell hBV hg1).trans n1
  have m2 : V.cell? ⟨gy, oy + q2, none⟩ = some (.int .i64 (D2 : Int)) := (below_cell hBV hg2).trans n2
  have HVE : Hid (V = ((((w.alloc (.cells #[.int .i64 A.k, .slice (some ⟨gx, ox, none⟩) A.nx.length cn, .slice aa A.ac.length ca] 25)).alloc (.cells #[.int .i64 A.k, .slice (some ⟨gy, oy, none⟩) B.nx.length dn, .slice ba B.ac.length da] 25)).alloc (.cells #[.int .u16 (x : Int), .int .u16 (y : Int)] 77)).alloc (.cells #[.int .u16 0, .int .u16 0] 77))) := hV
  have HBV : Hid (Below w.heap.size w V) := hBV
  have HR4 : Hid (V.heap[w.heap.size + 1 + 1 + 1]? = some (.cells #[.int .u16 0, .int .u16 0] 77 (0, 0))) := r4
  have c1 := r1.cell
  have c2 := r2.cell
  have c3 := r3.cell
  have c4 : V.cell? ⟨w.heap.size + 1 + 1 + 1, 0, none⟩ = some (.int .u16 0) := cell_of r4
  have c5 : V.cell? ⟨w.heap.size + 1 + 1 + 1, 1, none⟩ = some (.int .u16 0) := cell_of r4
  have c6 : ∀ j, V.frozen? ⟨w.heap.size + 1 + 1 + 1, j, none⟩ = false := fun j => froz_of r4
  clear ha hb k1 k2 l1 l2 G H hkk hk1 hk8 hK0 hKI hK08 u1 u2 t1 t2 hp1 hp2 hq1 hq2 hD1 hD2 n1 n2 a1 a2 b1 b2 hg1 hg2 hV hBV r1 r2 r3 r4
  go_enter Try.func54, Try.ntmps54
  go_wp2_with fail
  rw [← HVE.out]
  have k1 : ∀ o, V.drew.cell? ⟨w.heap.size, o, none⟩ = (#[.int .i64 A.k, .slice (some ⟨gx, ox, none⟩) A.nx.length cn, .slice aa A.ac.length ca] : Array Value)[o]? := c1
  have k2 : ∀ o, V.drew.cell? ⟨w.heap.size + 1, o, none⟩ = (#[.int .i64 A.k, .slice (some ⟨gy, oy, none⟩) B.nx.length dn, .slice ba B.ac.length da] : Array Value)[o]? := c2
  have k3 : ∀ o, V.drew.cell? ⟨w.heap.size + 1 + 1, o, none⟩ = (#[.int .u16 (x : Int), .int .u16 (y : Int)] : Array Value)[o]? := c3
  have k4 : V.drew.cell? ⟨gx, ox + q1, none⟩ = some (.int .i64 (D1 : Int)) := m1
  have k5 : V.drew.cell? ⟨gy, oy + q2, none⟩ = some (.int .i64 (D2 : Int)) := m2
  have k6 : V.drew.cell? ⟨w.heap.size + 1 + 1 + 1, 0, none⟩ = some (.int .u16 0) := c4
  have k7 : V.drew.cell? ⟨w.heap.size + 1 + 1 + 1, 1, none⟩ = some (.int .u16 0) := c5
  have k8 : ∀ j, V.drew.frozen? ⟨w.heap.size + 1 + 1 + 1, j, none⟩ = false := c6
  have f0 : V.drew.frozen? ⟨w.heap.size + 1 + 1 + 1, 0, none⟩ = false := c6 0
  have f1 : V.drew.frozen? ⟨w.heap.size + 1 + 1 + 1, 1, none⟩ = false := c6 1
  have r5 : (V.drew.setCell ⟨w.heap.size + 1 + 1 + 1, 0, none⟩ (.int .u16 (D1 : Int))).heap[w.heap.size + 1 + 1 + 1]? = some (.cells #[.int .u16 (D1 : Int), .int .u16 0] 77 (0, 0)) := heap_set (w := V.drew) HR4.out
  have f2 : (V.drew.setCell ⟨w.heap.size + 1 + 1 + 1, 0, none⟩ (.int .u16 (D1 : Int))).cell? ⟨w.heap.size + 1 + 1 + 1, 1, none⟩ = some (.int .u16 0) := cell_of r5
  have f3 : (V.drew.setCell ⟨w.heap.size + 1 + 1 + 1, 0, none⟩ (.int .u16 (D1 : Int))).frozen? ⟨w.heap.size + 1 + 1 + 1, 1, none⟩ = false := froz_of r5
  clear c1 c2 c3 m1 m2 r5 f2 f3
  go_region
  all_goals (
    have F1 : ((V.setCell ⟨w.heap.size + 1 + 1 + 1, 0, none⟩ (.int .u16 (D1 : Int))).setCell ⟨w.heap.size + 1 + 1 + 1, 1, none⟩ (.int .u16 (D2 : Int))).heap[w.heap.size + 1 + 1 + 1]? = some (.cells #[.int .u16 (D1 : Int), .int .u16 (D2 : Int)] 77 (0, 0)) := heap_set (heap_set HR4.out)
    have F2 : Below w.heap.size w ((V.setCell ⟨w.heap.size + 1 + 1 + 1, 0, none⟩ (.int .u16 (D1 : Int))).setCell ⟨w.heap.size + 1 + 1 + 1, 1, none⟩ (.int .u16 (D2 : Int))) := (HBV.out.setCell (p := ⟨w.heap.size + 1 + 1 + 1, 0, none⟩) (by show _ ≤ w.heap.size + 1 + 1 + 1; omega) _).setCell (p := ⟨w.heap.size + 1 + 1 + 1, 1, none⟩) (by show _ ≤ w.heap.size + 1 + 1 + 1; omega) _
    have G1 : Hid _ := F1
    have G2 : Hid _ := F2
    clear F1 F2
    go_wp2_with fail
    exact bodyPost_ret (results_pairE rfl rfl G1.out rfl) rfl ⟨rfl, ⟨G2.out.os, G2.out.tape, G2.out.output, G2.out.size, G2.out.block⟩⟩)
end Go.Proofs.Ytceoceecgekkjaa
