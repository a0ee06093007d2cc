/- The document's numbers as texts; start, step and good over one automaton's states; its Reach. -/
import Derived.Test.YtbfoamidnekoaabQd
import Derived.Deep.QuietTactic
namespace Go.Proofs.Ytbfoamidnekoaab
open Go Go.RowKit Go.Lib Go.Maps
set_option linter.unusedVariables false

/-- A state as a text. -/
def nB (s : Nat) : ByteArray := ⟨#[UInt8.ofNat (s / 64), UInt8.ofNat (s % 64)]⟩
theorem nB_size (s : Nat) : (nB s).size = 2 := rfl
theorem nB_0 {s : Nat} (h : s < 4096) : ((nB s)[0]'(by rw [nB_size]; decide)).toNat = s / 64 := by
  show (UInt8.ofNat (s / 64)).toNat = _
  rw [UInt8.toNat_ofNat']
  omega
theorem nB_1 {s : Nat} (h : s < 4096) : ((nB s)[1]'(by rw [nB_size]; decide)).toNat = s % 64 := by
  show (UInt8.ofNat (s % 64)).toNat = _
  rw [UInt8.toNat_ofNat']
  omega
theorem nB_inj {a b : Nat} (ha : a < 4096) (hb : b < 4096) (h : nB a = nB b) : a = b := by
  have h0 : ((nB a)[0]'(by rw [nB_size]; decide)).toNat = ((nB b)[0]'(by rw [nB_size]; decide)).toNat := by simp only [h]
  have h1 : ((nB a)[1]'(by rw [nB_size]; decide)).toNat = ((nB b)[1]'(by rw [nB_size]; decide)).toNat := by simp only [h]
  rw [nB_0 ha, nB_0 hb] at h0
  rw [nB_1 ha, nB_1 hb] at h1
  omega

set_option maxHeartbeats 1000000 in
set_option maxRecDepth 100000 in
theorem number_any (s : Nat) (hs : s < 4096) (w : World) : Calls Try.prog 57 #[.int .i64 s] w fun e w' => e = .returned (.string (nB s)) ∧ Below w.heap.size w w' := by
  have hq : (s : Int).tdiv 64 = ((s / 64 : Nat) : Int) := by rw [Int.tdiv_eq_ediv_of_nonneg (by omega)]; rfl
  have hr : (s : Int).tmod 64 = ((s % 64 : Nat) : Int) := by rw [Int.tmod_eq_emod_of_nonneg (by omega)]; rfl
  obtain ⟨q, hqq⟩ : ∃ q, s / 64 = q := ⟨_, rfl⟩
  obtain ⟨r, hrr⟩ : ∃ r, s % 64 = r := ⟨_, rfl⟩
  have hw1 : IntKind.u8.wrap (q : Int) = ((UInt8.ofNat q).toNat : Int) := by rw [IntKind.wrap_u8, UInt8.toNat_ofNat']; omega
  have hw2 : IntKind.u8.wrap (r : Int) = ((UInt8.ofNat r).toNat : Int) := by rw [IntKind.wrap_u8, UInt8.toNat_ofNat']; omega
  have hwq : IntKind.i64.wrap (q : Int) = (q : Int) := by rw [IntKind.wrap_i64]; omega
  rw [hqq] at hq
  rw [hrr] at hr
  have HE : Hid (nB s = ⟨[UInt8.ofNat q, UInt8.ofNat r].toArray⟩) := by show _ = _; unfold nB; rw [hqq, hrr]
  have hcv : (convert 83 9 (.slice (some ⟨w.heap.size, 0, none⟩) 2 2)).run Try.prog (w.alloc (.cells #[.int .u8 ((UInt8.ofNat q).toNat : Int), .int .u8 ((UInt8.ofNat r).toNat : Int)] 5)) = .ok (.string ⟨[UInt8.ofNat q, UInt8.ofNat r].toArray⟩) (w.alloc (.cells #[.int .u8 ((UInt8.ofNat q).toNat : Int), .int .u8 ((UInt8.ofNat r).toNat : Int)] 5)) :=
    run_string_own w.heap.size _ [UInt8.ofNat q, UInt8.ofNat r] _ ⟨rfl, .inr ⟨w.heap.size, 2, _, rfl, Nat.le_refl _, heap_alloc_last _ _, Nat.le_refl _, by unfold maxLen; omega, rfl, rfl⟩⟩
  obtain ⟨a, ha⟩ : ∃ a, ((UInt8.ofNat q).toNat : Int) = a := ⟨_, rfl⟩
  obtain ⟨b, hb⟩ : ∃ b, ((UInt8.ofNat r).toNat : Int) = b := ⟨_, rfl⟩
  rw [ha] at hw1 hcv
  rw [hb] at hw2 hcv
  clear hqq hrr ha hb
  go_enter Try.func57, Try.ntmps57
  go_wp2_with fail
  go_ret
  exact ⟨by rw [HE.out]; rfl, below_new _ _⟩

set_option maxHeartbeats 1000000 in
set_option maxRecDepth 100000 in
theorem value_any (s : Nat) (b : ByteArray) (h : 2 ≤ b.size) (h0 : (b[0]'(by omega)).toNat = s / 64) (h1 : (b[1]'(by omega)).toNat = s % 64) (hs : s < 4096) (w : World) : Calls Try.prog 59 #[.string b] w fun e w' => e = .returned (.int .i64 s) ∧ Below w.heap.size w w' := by
  have hb : (1 : Int) < b.size := by omega
  have hb0 : (0 : Int) < b.size := by omega
  have hw1 : IntKind.i64.wrap (((s / 64 : Nat) : Int) * 64) = ((s / 64 * 64 : Nat) : Int) := by rw [IntKind.wrap_i64]; omega
  have hw2 : IntKind.i64.wrap (((s / 64 * 64 : Nat) : Int) + ((s % 64 : Nat) : Int)) = (s : Int) := by rw [IntKind.wrap_i64]; omega
  have hc1 : IntKind.i64.wrap ((s / 64 : Nat) : Int) = ((s / 64 : Nat) : Int) := by rw [IntKind.wrap_i64]; omega
  have hc2 : IntKind.i64.wrap ((s % 64 : Nat) : Int) = ((s % 64 : Nat) : Int) := by rw [IntKind.wrap_i64]; omega
  obtain ⟨q, hq⟩ : ∃ q, s / 64 = q := ⟨_, rfl⟩
  obtain ⟨r, hr⟩ : ∃ r, s % 64 = r := ⟨_, rfl⟩
  rw [hq] at h0 hw1 hc1
  rw [hr] at h1 hc2
  rw [hq, hr] at hw2
  obtain ⟨p, hp⟩ : ∃ p, q * 64 = p := ⟨_, rfl⟩
  rw [hp] at hw1 hw2
  clear hp hq hr
  go_enter Try.func59, Try.ntmps59
  go_wp2_with fail
  go_region_held3 (fun y => Below w.heap.size w y) (first | exact (Below.refl _ _).drew | assumption) (fail)
  all_goals (
    go_wp2_with fail
    go_ret
    exact ⟨rfl, (Below.refl _ _).drew⟩)

set_option maxHeartbeats 1000000 in
set_option maxRecDepth 100000 in
theorem start1_any (x1 x2 x3 x4 x5 x6 : Value) (w : World) : Calls Try.prog 51 #[.agg #[.int .i64 1, x1, x2, x3, x4, x5, x6]] w fun e w' => e = .returned (.string (nB 0)) ∧ Below w.heap.size w w' := by
  have R1 : RowAt (w.alloc (.cells #[.int .i64 1, x1, x2, x3, x4, x5, x6] 64)) w.heap.size #[.int .i64 1, x1, x2, x3, x4, x5, x6] := RowAt.last _ _ _
  have cs := R1.cell
  clear R1
  have HN : Hid (∀ y, Calls Try.prog 57 #[.int .i64 0] y fun e w' => e = .returned (.string (nB 0)) ∧ Below y.heap.size y w') := fun y => number_any 0 (by omega) y
  go_enter Try.func51, Try.ntmps51
  go_wp2_with fail
  refine (HN.out _).mono ?_
  rintro e w1 ⟨rfl, hb1⟩
  have HB : Hid (Below w.heap.size w w1) := go_on (below_new _ _) hb1
  clear hb1 cs
  go_wp2_with fail
  go_ret
  exact ⟨rfl, HB.out⟩

set_option maxHeartbeats 4000000 in
set_option maxRecDepth 100000 in
theorem step1_any (A : Aut) (G : Good A) (an aa : Option Addr) (cn ca : Nat) (x4 x5 x6 : Value) (w : World) (h1 : SR w an (zC A.nx)) (s c : Nat) (hs : s < A.ac.length) (hc : (c : Int) < A.k) :
    Calls Try.prog 52 #[.agg #[.int .i64 1, .int .i64 A.k, .slice an A.nx.length cn, .slice aa A.ac.length ca, x4, x5, x6], .string (nB s), .int .i64 c] w fun e w' => e = .returned (.string (nB (dN A s c))) ∧ Below w.heap.size w w' := by
  have hn2 := G.n2
  have HV : Hid (∀ y, Calls Try.prog 59 #[.string (nB s)] y fun e w' => e = .returned (.int .i64 (s : Int)) ∧ Below y.heap.size y w') := fun y => value_any s (nB s) (by rw [nB_size]; omega) (nB_0 (by omega)) (nB_1 (by omega)) (by omega) y
  obtain ⟨g1, g2, g3⟩ := G.at hs hc
  obtain ⟨g, o, rfl, hg, hcell⟩ := h1.int g1
  rw [g2] at hcell
  obtain ⟨D, hD⟩ : ∃ D, dN A s c = D := ⟨_, rfl⟩
  rw [hD] at hcell g3 ⊢
  have HN : Hid (∀ y, Calls Try.prog 57 #[.int .i64 (D : Int)] y fun e w' => e = .returned (.string (nB D)) ∧ Below y.heap.size y w') := fun y => number_any D (by omega) y
  have hk1 := G.k1
  have hk8 := G.k8
  have hp : (s : Int) * A.k = ((s * A.k.toNat : Nat) : Int) := by rw [Int.natCast_mul]; congr 1; omega
  have hq : s * A.k.toNat ≤ 4095 * 8 := Nat.mul_le_mul (by omega) (by omega)
  obtain ⟨p, hpp⟩ : ∃ p, s * A.k.toNat = p := ⟨_, rfl⟩
  rw [hpp] at hp hq hcell g1
  have hw1 : IntKind.i64.wrap ((s : Int) * A.k) = (p : Int) := by rw [hp, IntKind.wrap_i64]; omega
  obtain ⟨q, hqq⟩ : ∃ q, p + c = q := ⟨_, rfl⟩
  have hw2 : IntKind.i64.wrap ((p : Int) + c) = (q : Int) := by rw [IntKind.wrap_i64]; omega
  have hgl : (q : Int) < A.nx.length := by omega
  rw [hqq] at hcell
  have RB : RowAt (w.alloc (.cells #[.int .i64 1, .int .i64 A.k, .slice (some ⟨g, o, none⟩) A.nx.length cn, .slice aa A.ac.length ca, x4, x5, x6] 64)) w.heap.size #[.int .i64 1, .int .i64 A.k, .slice (some ⟨g, o, none⟩) A.nx.length cn, .slice aa A.ac.length ca, x4, x5, x6] := RowAt.last _ _ _
  have cs := RB.cell
  have hcW : (w.alloc (.cells #[.int .i64 1, .int .i64 A.k, .slice (some ⟨g, o, none⟩) A.nx.length cn, .slice aa A.ac.length ca, x4, x5, x6] 64)).cell? ⟨g, o + q, none⟩ = some (.int .i64 (D : Int)) := by rw [below_cell (below_new _ _) hg]; exact hcell
  obtain ⟨W, hW⟩ : ∃ W, W = w.alloc (.cells #[.int .i64 1, .int .i64 A.k, .slice (some ⟨g, o, none⟩) A.nx.length cn, .slice aa A.ac.length ca, x4, x5, x6] 64) := ⟨_, rfl⟩
  have HWE : Hid (W = w.alloc (.cells #[.int .i64 1, .int .i64 A.k, .slice (some ⟨g, o, none⟩) A.nx.length cn, .slice aa A.ac.length ca, x4, x5, x6] 64)) := hW
  have HBW : Hid (Below w.heap.size w W) := by show Below _ _ _; rw [hW]; exact below_new _ _
  have hgW : g < W.heap.size := Nat.lt_of_lt_of_le hg HBW.out.size
  have RBW : RowAt W w.heap.size #[.int .i64 1, .int .i64 A.k, .slice (some ⟨g, o, none⟩) A.nx.length cn, .slice aa A.ac.length ca, x4, x5, x6] := by rw [hW]; exact RB
  have S0 : SB W w.heap.size #[.int .i64 1, .int .i64 A.k, .slice (some ⟨g, o, none⟩) A.nx.length cn, .slice aa A.ac.length ca, x4, x5, x6] W.drew ∧ W.drew.cell? ⟨g, o + q, none⟩ = some (.int .i64 (D : Int)) := ⟨sb_of RBW (Below.refl _ _).drew, by rw [← hW] at hcW; exact hcW⟩
  have kk : ∀ y1 y2, Below y1.heap.size y1 y2 → (SB W w.heap.size #[.int .i64 1, .int .i64 A.k, .slice (some ⟨g, o, none⟩) A.nx.length cn, .slice aa A.ac.length ca, x4, x5, x6] y1 ∧ y1.cell? ⟨g, o + q, none⟩ = some (.int .i64 (D : Int))) → (SB W w.heap.size #[.int .i64 1, .int .i64 A.k, .slice (some ⟨g, o, none⟩) A.nx.length cn, .slice aa A.ac.length ca, x4, x5, x6] y2 ∧ y2.cell? ⟨g, o + q, none⟩ = some (.int .i64 (D : Int))) :=
    fun y1 y2 hy h => ⟨sb_step RBW hy h.1, by rw [below_cell hy (Nat.lt_of_lt_of_le hgW h.1.2.size)]; exact h.2⟩
  have KK : Hid _ := kk
  clear hp hq hpp hqq g1 g2 g3 hcell hD h1 G hs hc hW kk hn2 hk1 hk8 hcW RB
  go_enter Try.func52, Try.ntmps52
  go_wp2_with fail
  rw [← HWE.out]
  clear cs
  go_region_held3 (fun y => SB W w.heap.size #[.int .i64 1, .int .i64 A.k, .slice (some ⟨g, o, none⟩) A.nx.length cn, .slice aa A.ac.length ca, x4, x5, x6] y ∧ y.cell? ⟨g, o + q, none⟩ = some (.int .i64 (D : Int))) (first | exact S0 | assumption | exact KK.out _ _ (by assumption) (by assumption)) (first
    | (go_at_call 59; refine (HV.out _).mono ?_; rintro e y1 ⟨rfl, hy1⟩)
    | (go_at_call 57; refine (HN.out _).mono ?_; rintro e y2 ⟨rfl, hy2⟩))
  all_goals (
    have hS : SB W w.heap.size #[.int .i64 1, .int .i64 A.k, .slice (some ⟨g, o, none⟩) A.nx.length cn, .slice aa A.ac.length ca, x4, x5, x6] y2 ∧ y2.cell? ⟨g, o + q, none⟩ = some (.int .i64 (D : Int)) := by first | assumption | exact KK.out _ _ (by assumption) (by assumption)
    have HB : Hid (Below w.heap.size w y2) := go_on HBW.out hS.1.2
    clear hS S0
    go_wp2_with fail
    go_ret
    exact ⟨rfl, HB.out⟩)

set_option maxHeartbeats 4000000 in
set_option maxRecDepth 100000 in
theorem good1_any (A : Aut) (G : Good A) (an aa : Option Addr) (cn ca : Nat) (x4 x5 x6 : Value) (w : World) (h2 : SR w aa (bC A.ac)) (s : Nat) (how : Int) (hs : s < A.ac.length) :
    Calls Try.prog 54 #[.agg #[.int .i64 1, .int .i64 A.k, .slice an A.nx.length cn, .slice aa A.ac.length ca, x4, x5, x6], .string (nB s), .int .i64 how] w fun e w' => e = .returned (.bool (aN A s)) ∧ Below w.heap.size w w' := by
  have hn2 := G.n2
  have HV : Hid (∀ y, Calls Try.prog 59 #[.string (nB s)] y fun e w' => e = .returned (.int .i64 (s : Int)) ∧ Below y.heap.size y w') := fun y => value_any s (nB s) (by rw [nB_size]; omega) (nB_0 (by omega)) (nB_1 (by omega)) (by omega) y
  obtain ⟨g, o, rfl, hg, hcell⟩ := h2.bool hs
  obtain ⟨D, hD⟩ : ∃ D, A.ac.getD s false = D := ⟨_, rfl⟩
  rw [hD] at hcell
  have HD : Hid (aN A s = D) := hD
  have hgl : (s : Int) < A.ac.length := by omega
  have RB : RowAt (w.alloc (.cells #[.int .i64 1, .int .i64 A.k, .slice an A.nx.length cn, .slice (some ⟨g, o, none⟩) A.ac.length ca, x4, x5, x6] 64)) w.heap.size #[.int .i64 1, .int .i64 A.k, .slice an A.nx.length cn, .slice (some ⟨g, o, none⟩) A.ac.length ca, x4, x5, x6] := RowAt.last _ _ _
  have cs := RB.cell
  have hcW : (w.alloc (.cells #[.int .i64 1, .int .i64 A.k, .slice an A.nx.length cn, .slice (some ⟨g, o, none⟩) A.ac.length ca, x4, x5, x6] 64)).cell? ⟨g, o + s, none⟩ = some (.bool D) := by rw [below_cell (below_new _ _) hg]; exact hcell
  obtain ⟨W, hW⟩ : ∃ W, W = w.alloc (.cells #[.int .i64 1, .int .i64 A.k, .slice an A.nx.length cn, .slice (some ⟨g, o, none⟩) A.ac.length ca, x4, x5, x6] 64) := ⟨_, rfl⟩
  have HWE : Hid (W = w.alloc (.cells #[.int .i64 1, .int .i64 A.k, .slice an A.nx.length cn, .slice (some ⟨g, o, none⟩) A.ac.length ca, x4, x5, x6] 64)) := hW
  have HBW : Hid (Below w.heap.size w W) := by show Below _ _ _; rw [hW]; exact below_new _ _
  have hgW : g < W.heap.size := Nat.lt_of_lt_of_le hg HBW.out.size
  have RBW : RowAt W w.heap.size #[.int .i64 1, .int .i64 A.k, .slice an A.nx.length cn, .slice (some ⟨g, o, none⟩) A.ac.length ca, x4, x5, x6] := by rw [hW]; exact RB
  have S0 : SB W w.heap.size #[.int .i64 1, .int .i64 A.k, .slice an A.nx.length cn, .slice (some ⟨g, o, none⟩) A.ac.length ca, x4, x5, x6] W.drew ∧ W.drew.cell? ⟨g, o + s, none⟩ = some (.bool D) := ⟨sb_of RBW (Below.refl _ _).drew, by rw [← hW] at hcW; exact hcW⟩
  have kk : ∀ y1 y2, Below y1.heap.size y1 y2 → (SB W w.heap.size #[.int .i64 1, .int .i64 A.k, .slice an A.nx.length cn, .slice (some ⟨g, o, none⟩) A.ac.length ca, x4, x5, x6] y1 ∧ y1.cell? ⟨g, o + s, none⟩ = some (.bool D)) → (SB W w.heap.size #[.int .i64 1, .int .i64 A.k, .slice an A.nx.length cn, .slice (some ⟨g, o, none⟩) A.ac.length ca, x4, x5, x6] y2 ∧ y2.cell? ⟨g, o + s, none⟩ = some (.bool D)) :=
    fun y1 y2 hy h => ⟨sb_step RBW hy h.1, by rw [below_cell hy (Nat.lt_of_lt_of_le hgW h.1.2.size)]; exact h.2⟩
  have KK : Hid _ := kk
  clear hcell hD h2 G hs hW kk hn2 hcW RB
  go_enter Try.func54, Try.ntmps54
  go_wp2_with fail
  rw [← HWE.out]
  clear cs
  go_region_held3 (fun y => SB W w.heap.size #[.int .i64 1, .int .i64 A.k, .slice an A.nx.length cn, .slice (some ⟨g, o, none⟩) A.ac.length ca, x4, x5, x6] y ∧ y.cell? ⟨g, o + s, none⟩ = some (.bool D)) (first | exact S0 | assumption | exact KK.out _ _ (by assumption) (by assumption)) (first
    | (go_at_call 59; refine (HV.out _).mono ?_; rintro e y1 ⟨rfl, hy1⟩))
  all_goals (
    have hS : SB W w.heap.size #[.int .i64 1, .int .i64 A.k, .slice an A.nx.length cn, .slice (some ⟨g, o, none⟩) A.ac.length ca, x4, x5, x6] y1 ∧ y1.cell? ⟨g, o + s, none⟩ = some (.bool D) := by first | assumption | exact KK.out _ _ (by assumption) (by assumption)
    have HB : Hid (Below w.heap.size w y1) := go_on HBW.out hS.1.2
    clear hS S0
    go_wp2_with fail
    go_ret
    exact ⟨by rw [HD.out]; rfl, HB.out⟩)
end Go.Proofs.Ytbfoamidnekoaab
