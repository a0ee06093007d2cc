/- The document's products: Two, and start, step and good of pairs. -/
import Derived.Test.YtbfoamidnekoaabQp
import Derived.Test.YtbfoamidnekoaabQf
namespace Go.Proofs.Ytbfoamidnekoaab
open Go Go.RowKit Go.Lib Go.Maps
set_option linter.unusedVariables false
attribute [-instance] instBEqProd

/-- A pair as a text. -/
def nP (s : Nat × Nat) : ByteArray := nB s.1 ++ nB s.2
theorem nP_size (s : Nat × Nat) : (nP s).size = 4 := by simp [nP, nB_size]
theorem nP_inj {a b : Nat × Nat} (a1 : a.1 < 4096) (a2 : a.2 < 4096) (b1 : b.1 < 4096) (b2 : b.2 < 4096) (h : nP a = nP b) : a = b := by
  have e : (nB a.1).data.toList ++ (nB a.2).data.toList = (nB b.1).data.toList ++ (nB b.2).data.toList := by
    have := congrArg (fun x : ByteArray => x.data.toList) h
    simpa [nP] using this
  obtain ⟨e1, e2⟩ := List.append_inj e (by simp [nB])
  exact Prod.ext (nB_inj a1 b1 (ByteArray.ext (Array.ext' e1))) (nB_inj a2 b2 (ByteArray.ext (Array.ext' e2)))
set_option maxHeartbeats 1000000 in
set_option maxRecDepth 100000 in
theorem start2_any (x1 x2 x3 x4 x5 x6 : Value) (w : World) : Calls Try.prog 51 #[.agg #[.int .i64 2, x1, x2, x3, x4, x5, x6]] w fun e w' => e = .returned (.string (nP (0, 0))) ∧ Below w.heap.size w w' := by
  have R1 : RowAt (w.alloc (.cells #[.int .i64 2, x1, x2, x3, x4, x5, x6] 64)) w.heap.size #[.int .i64 2, x1, x2, x3, x4, x5, x6] := RowAt.last _ _ _
  have cs := R1.cell
  clear R1
  have HN : Hid (∀ y, Calls Try.prog 57 #[.int .i64 0] y fun e w' => e = .returned (.string (nB 0)) ∧ Below y.heap.size y w') := fun y => number_any 0 (by omega) y
  have hsz : (nB 0).size = 2 := nB_size 0
  go_enter Try.func51, Try.ntmps51
  go_wp2_with fail
  refine (HN.out _).mono ?_
  rintro e w1 ⟨rfl, hb1⟩
  have HB : Hid (Below w.heap.size w w1) := go_on (below_new _ _) hb1
  clear hb1 cs
  go_wp2_with fail
  refine (HN.out _).mono ?_
  rintro e w2 ⟨rfl, hb2⟩
  have HB2 : Hid (Below w.heap.size w w2) := go_on HB.out hb2
  clear hb2
  go_wp2_with fail
  go_ret
  exact ⟨rfl, HB2.out⟩

theorem nP_0 {s : Nat × Nat} (h : s.1 < 4096) : ((nP s)[0]'(by rw [nP_size]; decide)).toNat = s.1 / 64 := by
  rw [← nB_0 h]
  rfl
theorem nP_1 {s : Nat × Nat} (h : s.1 < 4096) : ((nP s)[1]'(by rw [nP_size]; decide)).toNat = s.1 % 64 := by
  rw [← nB_1 h]
  rfl
theorem nP_cut (s : Nat × Nat) : (nP s).extract 2 4 = nB s.2 := by
  apply ByteArray.ext
  simp [nP, nB]
theorem mulq {A : Aut} (G : Good A) {s c : Nat} (hs : s < 4096) (hc : (c : Int) < A.k) : IntKind.i64.wrap ((s : Int) * A.k) = ((s * A.k.toNat : Nat) : Int) ∧ IntKind.i64.wrap (((s * A.k.toNat : Nat) : Int) + c) = ((s * A.k.toNat + c : Nat) : Int) := by
  have hk1 := G.k1
  have hk8 := G.k8
  have hp : (s : Int) * A.k = ((s * A.k.toNat : Nat) : Int) := by rw [Int.natCast_mul]; congr 1; omega
  have hq : s * A.k.toNat ≤ 4095 * 8 := Nat.mul_le_mul (by omega) (by omega)
  constructor
  · rw [hp, IntKind.wrap_i64]; omega
  · rw [IntKind.wrap_i64]; omega
set_option maxHeartbeats 8000000 in
set_option maxRecDepth 100000 in
theorem step2_any (A B : Aut) (G : Good A) (G2 : Good B) (hk : A.k = B.k) (an aa bn ba : Option Addr) (cn ca dn da : Nat) (w : World) (h1 : SR w an (zC A.nx)) (h2 : SR w bn (zC B.nx)) (s : Nat × Nat) (c : Nat) (hs : s.1 < A.ac.length) (hs2 : s.2 < B.ac.length) (hc : (c : Int) < A.k) :
    Calls Try.prog 52 #[.agg #[.int .i64 2, .int .i64 A.k, .slice an A.nx.length cn, .slice aa A.ac.length ca, .int .i64 B.k, .slice bn B.nx.length dn, .slice ba B.ac.length da], .string (nP s), .int .i64 c] w fun e w' => e = .returned (.string (nP (dP A B s c))) ∧ Below w.heap.size w w' := by
  have hn2 := G.n2
  have hm2 := G2.n2
  have e1 : s.1 < 4096 := by omega
  have e2 : s.2 < 4096 := by omega
  have HV : Hid (∀ y, Calls Try.prog 59 #[.string (nP s)] y fun e w' => e = .returned (.int .i64 (s.1 : Int)) ∧ Below y.heap.size y w') := fun y => value_any s.1 (nP s) (by rw [nP_size]; omega) (nP_0 e1) (nP_1 e1) e1 y
  have HV2 : Hid (∀ y, Calls Try.prog 59 #[.string ((nP s).extract 2 4)] y fun e w' => e = .returned (.int .i64 (s.2 : Int)) ∧ Below y.heap.size y w') := fun y => by rw [nP_cut]; exact value_any s.2 (nB s.2) (by rw [nB_size]; omega) (nB_0 e2) (nB_1 e2) e2 y
  have hsz : (nP s).size = 4 := nP_size s
  obtain ⟨X, hX⟩ : ∃ X, nP s = X := ⟨_, rfl⟩
  rw [hX] at HV HV2 hsz ⊢
  obtain ⟨t1, t2, t3⟩ := G.at hs hc
  obtain ⟨u1, u2, u3⟩ := G2.at hs2 (c := c) (by rw [← hk]; exact hc)
  obtain ⟨g1, o1, rfl, hg1, hc1⟩ := h1.int t1
  obtain ⟨g2, o2, rfl, hg2, hc2⟩ := h2.int u1
  rw [t2] at hc1
  rw [u2] at hc2
  obtain ⟨D1, hD1⟩ : ∃ D, dN A s.1 c = D := ⟨_, rfl⟩
  obtain ⟨D2, hD2⟩ : ∃ D, dN B s.2 c = D := ⟨_, rfl⟩
  have HD : Hid (nP (dP A B s c) = nB D1 ++ nB D2) := by show _ = _; unfold dP nP; rw [hD1, hD2]
  rw [hD1] at hc1 t3
  rw [hD2] at hc2 u3
  have HN1 : Hid (∀ y, Calls Try.prog 57 #[.int .i64 (D1 : Int)] y fun e w' => e = .returned (.string (nB D1)) ∧ Below y.heap.size y w') := fun y => number_any D1 (by omega) y
  have HN2 : Hid (∀ y, Calls Try.prog 57 #[.int .i64 (D2 : Int)] y fun e w' => e = .returned (.string (nB D2)) ∧ Below y.heap.size y w') := fun y => number_any D2 (by omega) y
  obtain ⟨w1, w2⟩ := mulq G e1 hc
  obtain ⟨w3, w4⟩ := mulq G2 e2 (c := c) (by rw [← hk]; exact hc)
  rw [← hk] at w3 w4 u1 hc2
  obtain ⟨q1, hq1⟩ : ∃ q, s.1 * A.k.toNat + c = q := ⟨_, rfl⟩
  obtain ⟨q2, hq2⟩ : ∃ q, s.2 * A.k.toNat + c = q := ⟨_, rfl⟩
  obtain ⟨p1, hp1⟩ : ∃ p, s.1 * A.k.toNat = p := ⟨_, rfl⟩
  obtain ⟨p2, hp2⟩ : ∃ p, s.2 * A.k.toNat = p := ⟨_, rfl⟩
  rw [hq1] at w2 t1 hc1
  rw [hq2] at w4 u1 hc2
  rw [hp1] at w1 w2
  rw [hp2] at w3 w4
  have hl1 : (q1 : Int) < A.nx.length := by omega
  have hl2 : (q2 : Int) < B.nx.length := by omega
  have z1 : (nB D1).size = 2 := nB_size _
  have z2 : (nB D2).size = 2 := nB_size _
  obtain ⟨W, hW⟩ : ∃ W, W = w.alloc (.cells #[.int .i64 2, .int .i64 A.k, .slice (some ⟨g1, o1, none⟩) A.nx.length cn, .slice aa A.ac.length ca, .int .i64 B.k, .slice (some ⟨g2, o2, none⟩) B.nx.length dn, .slice ba B.ac.length da] 64) := ⟨_, rfl⟩
  have HWE : Hid (W = w.alloc (.cells #[.int .i64 2, .int .i64 A.k, .slice (some ⟨g1, o1, none⟩) A.nx.length cn, .slice aa A.ac.length ca, .int .i64 B.k, .slice (some ⟨g2, o2, none⟩) B.nx.length dn, .slice ba B.ac.length da] 64)) := hW
  have HBW : Hid (Below w.heap.size w W) := by show Below _ _ _; rw [hW]; exact below_new _ _
  have RB : RowAt W w.heap.size #[.int .i64 2, .int .i64 A.k, .slice (some ⟨g1, o1, none⟩) A.nx.length cn, .slice aa A.ac.length ca, .int .i64 B.k, .slice (some ⟨g2, o2, none⟩) B.nx.length dn, .slice ba B.ac.length da] := by rw [hW]; exact RowAt.last _ _ _
  have cs : ∀ o, (w.alloc (.cells #[.int .i64 2, .int .i64 A.k, .slice (some ⟨g1, o1, none⟩) A.nx.length cn, .slice aa A.ac.length ca, .int .i64 B.k, .slice (some ⟨g2, o2, none⟩) B.nx.length dn, .slice ba B.ac.length da] 64)).cell? ⟨w.heap.size, o, none⟩ = (#[.int .i64 2, .int .i64 A.k, .slice (some ⟨g1, o1, none⟩) A.nx.length cn, .slice aa A.ac.length ca, .int .i64 B.k, .slice (some ⟨g2, o2, none⟩) B.nx.length dn, .slice ba B.ac.length da] : Array Value)[o]? := (RowAt.last _ _ _).cell
  have l1 := Nat.lt_of_lt_of_le hg1 HBW.out.size
  have l2 := Nat.lt_of_lt_of_le hg2 HBW.out.size
  have d1 := (below_cell HBW.out hg1).trans hc1
  have d2 := (below_cell HBW.out hg2).trans hc2
  have S0 : SB W w.heap.size #[.int .i64 2, .int .i64 A.k, .slice (some ⟨g1, o1, none⟩) A.nx.length cn, .slice aa A.ac.length ca, .int .i64 B.k, .slice (some ⟨g2, o2, none⟩) B.nx.length dn, .slice ba B.ac.length da] W.drew ∧ W.drew.cell? ⟨g1, o1 + q1, none⟩ = some (.int .i64 (D1 : Int)) ∧ W.drew.cell? ⟨g2, o2 + q2, none⟩ = some (.int .i64 (D2 : Int)) := ⟨sb_of RB (Below.refl _ _).drew, d1, d2⟩
  have kk : ∀ y1 y2, Below y1.heap.size y1 y2 → (SB W w.heap.size #[.int .i64 2, .int .i64 A.k, .slice (some ⟨g1, o1, none⟩) A.nx.length cn, .slice aa A.ac.length ca, .int .i64 B.k, .slice (some ⟨g2, o2, none⟩) B.nx.length dn, .slice ba B.ac.length da] y1 ∧ y1.cell? ⟨g1, o1 + q1, none⟩ = some (.int .i64 (D1 : Int)) ∧ y1.cell? ⟨g2, o2 + q2, none⟩ = some (.int .i64 (D2 : Int))) → (SB W w.heap.size #[.int .i64 2, .int .i64 A.k, .slice (some ⟨g1, o1, none⟩) A.nx.length cn, .slice aa A.ac.length ca, .int .i64 B.k, .slice (some ⟨g2, o2, none⟩) B.nx.length dn, .slice ba B.ac.length da] y2 ∧ y2.cell? ⟨g1, o1 + q1, none⟩ = some (.int .i64 (D1 : Int)) ∧ y2.cell? ⟨g2, o2 + q2, none⟩ = some (.int .i64 (D2 : Int))) := fun y1 y2 hy h => by
    have b := go_on h.1.2 hy
    exact ⟨sb_step RB hy h.1, (below_cell b l1).trans d1, (below_cell b l2).trans d2⟩
  have KK : Hid _ := kk
  clear kk d1 d2 l1 l2 RB hW hq1 hq2 hp1 hp2 hD1 hD2 t1 t2 t3 u1 u2 u3 hc1 hc2 hg1 hg2 h1 h2 G G2 hs hs2 hc hn2 hm2 e1 e2 hX hk
  go_enter Try.func52, Try.ntmps52
  go_wp2_with fail
  rw [← HWE.out]
  clear cs
  go_region_held3 (fun y => SB W w.heap.size #[.int .i64 2, .int .i64 A.k, .slice (some ⟨g1, o1, none⟩) A.nx.length cn, .slice aa A.ac.length ca, .int .i64 B.k, .slice (some ⟨g2, o2, none⟩) B.nx.length dn, .slice ba B.ac.length da] y ∧ y.cell? ⟨g1, o1 + q1, none⟩ = some (.int .i64 (D1 : Int)) ∧ y.cell? ⟨g2, o2 + q2, none⟩ = some (.int .i64 (D2 : Int))) (first | exact S0 | assumption | exact KK.out _ _ (by assumption) (by assumption)) (first
    | (go_at_call 59; refine (HV.out _).mono ?_; rintro e y1 ⟨rfl, hy1⟩; clear HV)
    | (go_at_call 59; refine (HV2.out _).mono ?_; rintro e y3 ⟨rfl, hy3⟩; clear HV2)
    | (go_at_call 57; refine (HN1.out _).mono ?_; rintro e y2 ⟨rfl, hy2⟩; clear HN1)
    | (go_at_call 57; refine (HN2.out _).mono ?_; rintro e y4 ⟨rfl, hy4⟩; clear HN2))
  all_goals (
    have hS : SB W w.heap.size #[.int .i64 2, .int .i64 A.k, .slice (some ⟨g1, o1, none⟩) A.nx.length cn, .slice aa A.ac.length ca, .int .i64 B.k, .slice (some ⟨g2, o2, none⟩) B.nx.length dn, .slice ba B.ac.length da] y4 ∧ y4.cell? ⟨g1, o1 + q1, none⟩ = some (.int .i64 (D1 : Int)) ∧ y4.cell? ⟨g2, o2 + q2, none⟩ = some (.int .i64 (D2 : Int)) := by first | assumption | exact KK.out _ _ (by assumption) (by assumption)
    have HB : Hid (Below w.heap.size w y4) := go_on HBW.out hS.1.2
    clear hS S0
    go_wp2_with fail
    go_ret
    exact ⟨by rw [HD.out]; rfl, HB.out⟩)
end Go.Proofs.Ytbfoamidnekoaab
