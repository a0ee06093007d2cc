/- The document's products: good of pairs, Two, Product. -/
import Derived.Test.YtbfoamidnekoaabQs
import Derived.Test.YtbfoamidnekoaabQr
namespace Go.Proofs.Ytbfoamidnekoaab
open Go Go.RowKit Go.Lib Go.Maps
set_option linter.unusedVariables false
attribute [-instance] instBEqProd

/-- What the document's numbers of the three products stand for. -/
def HowOf (how : Int) (f : Bool → Bool → Bool) : Prop := (how = 1 ∧ f = fun x z => x && z) ∨ (how = 2 ∧ f = fun x z => x || z) ∨ (how = 3 ∧ f = fun x z => x && !z)
set_option maxHeartbeats 8000000 in
set_option maxRecDepth 100000 in
theorem good2_any (A B : Aut) (G : Good A) (G2 : Good B) (an aa bn ba : Option Addr) (cn ca dn da : Nat) (w : World) (h1 : SR w aa (bC A.ac)) (h2 : SR w ba (bC B.ac)) (s : Nat × Nat) (hs : s.1 < A.ac.length) (hs2 : s.2 < B.ac.length) (how : Int) (f : Bool → Bool → Bool) (hh : HowOf how f) :
    Calls Try.prog 54 #[.agg #[.int .i64 2, .int .i64 A.k, .slice an A.nx.length cn, .slice aa A.ac.length ca, .int .i64 B.k, .slice bn B.nx.length dn, .slice ba B.ac.length da], .string (nP s), .int .i64 how] w fun e w' => e = .returned (.bool (f (aN A s.1) (aN B s.2))) ∧ Below w.heap.size w w' := by
  have hn2 := G.n2
  have hm2 := G2.n2
  have e1 : s.1 < 4096 := by omega
  have e2 : s.2 < 4096 := by omega
  have HV : Hid (∀ y, Calls Try.prog 59 #[.string (nP s)] y fun e w' => e = .returned (.int .i64 (s.1 : Int)) ∧ Below y.heap.size y w') := fun y => value_any s.1 (nP s) (by rw [nP_size]; omega) (nP_0 e1) (nP_1 e1) e1 y
  have HV2 : Hid (∀ y, Calls Try.prog 59 #[.string ((nP s).extract 2 4)] y fun e w' => e = .returned (.int .i64 (s.2 : Int)) ∧ Below y.heap.size y w') := fun y => by rw [nP_cut]; exact value_any s.2 (nB s.2) (by rw [nB_size]; omega) (nB_0 e2) (nB_1 e2) e2 y
  have hsz : (nP s).size = 4 := nP_size s
  obtain ⟨X, hX⟩ : ∃ X, nP s = X := ⟨_, rfl⟩
  rw [hX] at HV HV2 hsz ⊢
  obtain ⟨g1, o1, rfl, hg1, hc1⟩ := h1.bool hs
  obtain ⟨g2, o2, rfl, hg2, hc2⟩ := h2.bool hs2
  obtain ⟨D1, hD1⟩ : ∃ D, A.ac.getD s.1 false = D := ⟨_, rfl⟩
  obtain ⟨D2, hD2⟩ : ∃ D, B.ac.getD s.2 false = D := ⟨_, rfl⟩
  rw [hD1] at hc1
  rw [hD2] at hc2
  have HD : Hid (aN A s.1 = D1 ∧ aN B s.2 = D2) := ⟨hD1, hD2⟩
  have hl1 : (s.1 : Int) < A.ac.length := by omega
  have hl2 : (s.2 : Int) < B.ac.length := by omega
  obtain ⟨W, hW⟩ : ∃ W, W = w.alloc (.cells #[.int .i64 2, .int .i64 A.k, .slice an A.nx.length cn, .slice (some ⟨g1, o1, none⟩) A.ac.length ca, .int .i64 B.k, .slice bn B.nx.length dn, .slice (some ⟨g2, o2, none⟩) B.ac.length da] 64) := ⟨_, rfl⟩
  have HWE : Hid (W = w.alloc (.cells #[.int .i64 2, .int .i64 A.k, .slice an A.nx.length cn, .slice (some ⟨g1, o1, none⟩) A.ac.length ca, .int .i64 B.k, .slice bn B.nx.length dn, .slice (some ⟨g2, o2, none⟩) B.ac.length da] 64)) := hW
  have HBW : Hid (Below w.heap.size w W) := by show Below _ _ _; rw [hW]; exact below_new _ _
  have RB : RowAt W w.heap.size #[.int .i64 2, .int .i64 A.k, .slice an A.nx.length cn, .slice (some ⟨g1, o1, none⟩) A.ac.length ca, .int .i64 B.k, .slice bn B.nx.length dn, .slice (some ⟨g2, o2, none⟩) B.ac.length da] := by rw [hW]; exact RowAt.last _ _ _
  have cs : ∀ o, (w.alloc (.cells #[.int .i64 2, .int .i64 A.k, .slice an A.nx.length cn, .slice (some ⟨g1, o1, none⟩) A.ac.length ca, .int .i64 B.k, .slice bn B.nx.length dn, .slice (some ⟨g2, o2, none⟩) B.ac.length da] 64)).cell? ⟨w.heap.size, o, none⟩ = (#[.int .i64 2, .int .i64 A.k, .slice an A.nx.length cn, .slice (some ⟨g1, o1, none⟩) A.ac.length ca, .int .i64 B.k, .slice bn B.nx.length dn, .slice (some ⟨g2, o2, none⟩) B.ac.length da] : Array Value)[o]? := (RowAt.last _ _ _).cell
  have l1 := Nat.lt_of_lt_of_le hg1 HBW.out.size
  have l2 := Nat.lt_of_lt_of_le hg2 HBW.out.size
  have d1 := (below_cell HBW.out hg1).trans hc1
  have d2 := (below_cell HBW.out hg2).trans hc2
  have S0 : SB W w.heap.size #[.int .i64 2, .int .i64 A.k, .slice an A.nx.length cn, .slice (some ⟨g1, o1, none⟩) A.ac.length ca, .int .i64 B.k, .slice bn B.nx.length dn, .slice (some ⟨g2, o2, none⟩) B.ac.length da] W.drew ∧ W.drew.cell? ⟨g1, o1 + s.1, none⟩ = some (.bool D1) ∧ W.drew.cell? ⟨g2, o2 + s.2, none⟩ = some (.bool D2) := ⟨sb_of RB (Below.refl _ _).drew, d1, d2⟩
  have kk : ∀ y1 y2, Below y1.heap.size y1 y2 → (SB W w.heap.size #[.int .i64 2, .int .i64 A.k, .slice an A.nx.length cn, .slice (some ⟨g1, o1, none⟩) A.ac.length ca, .int .i64 B.k, .slice bn B.nx.length dn, .slice (some ⟨g2, o2, none⟩) B.ac.length da] y1 ∧ y1.cell? ⟨g1, o1 + s.1, none⟩ = some (.bool D1) ∧ y1.cell? ⟨g2, o2 + s.2, none⟩ = some (.bool D2)) → (SB W w.heap.size #[.int .i64 2, .int .i64 A.k, .slice an A.nx.length cn, .slice (some ⟨g1, o1, none⟩) A.ac.length ca, .int .i64 B.k, .slice bn B.nx.length dn, .slice (some ⟨g2, o2, none⟩) B.ac.length da] y2 ∧ y2.cell? ⟨g1, o1 + s.1, none⟩ = some (.bool D1) ∧ y2.cell? ⟨g2, o2 + s.2, none⟩ = some (.bool D2)) := fun y1 y2 hy h => by
    have b := go_on h.1.2 hy
    exact ⟨sb_step RB hy h.1, (below_cell b l1).trans d1, (below_cell b l2).trans d2⟩
  have KK : Hid (∀ y1 y2, Below y1.heap.size y1 y2 → (SB W w.heap.size #[.int .i64 2, .int .i64 A.k, .slice an A.nx.length cn, .slice (some ⟨g1, o1, none⟩) A.ac.length ca, .int .i64 B.k, .slice bn B.nx.length dn, .slice (some ⟨g2, o2, none⟩) B.ac.length da] y1 ∧ y1.cell? ⟨g1, o1 + s.1, none⟩ = some (.bool D1) ∧ y1.cell? ⟨g2, o2 + s.2, none⟩ = some (.bool D2)) → (SB W w.heap.size #[.int .i64 2, .int .i64 A.k, .slice an A.nx.length cn, .slice (some ⟨g1, o1, none⟩) A.ac.length ca, .int .i64 B.k, .slice bn B.nx.length dn, .slice (some ⟨g2, o2, none⟩) B.ac.length da] y2 ∧ y2.cell? ⟨g1, o1 + s.1, none⟩ = some (.bool D1) ∧ y2.cell? ⟨g2, o2 + s.2, none⟩ = some (.bool D2))) := kk
  have HH : Hid (HowOf how f) := hh
  clear kk d1 d2 l1 l2 RB hW hD1 hD2 hc1 hc2 hg1 hg2 h1 h2 G G2 hs hs2 hn2 hm2 e1 e2 hX hh
  go_enter Try.func54, Try.ntmps54
  go_wp2_with fail
  rw [← HWE.out]
  clear cs
  go_region_held3 (fun y => SB W w.heap.size #[.int .i64 2, .int .i64 A.k, .slice an A.nx.length cn, .slice (some ⟨g1, o1, none⟩) A.ac.length ca, .int .i64 B.k, .slice bn B.nx.length dn, .slice (some ⟨g2, o2, none⟩) B.ac.length da] y ∧ y.cell? ⟨g1, o1 + s.1, none⟩ = some (.bool D1) ∧ y.cell? ⟨g2, o2 + s.2, none⟩ = some (.bool D2)) (first | exact S0 | assumption | exact KK.out _ _ (by assumption) (by assumption)) (first
    | (go_at_call 59; refine (HV.out _).mono ?_; rintro e y1 ⟨rfl, hy1⟩))
  all_goals (
    have hS : SB W w.heap.size #[.int .i64 2, .int .i64 A.k, .slice an A.nx.length cn, .slice (some ⟨g1, o1, none⟩) A.ac.length ca, .int .i64 B.k, .slice bn B.nx.length dn, .slice (some ⟨g2, o2, none⟩) B.ac.length da] y1 ∧ y1.cell? ⟨g1, o1 + s.1, none⟩ = some (.bool D1) ∧ y1.cell? ⟨g2, o2 + s.2, none⟩ = some (.bool D2) := by first | assumption | exact KK.out _ _ (by assumption) (by assumption)
    have S1 : SB W w.heap.size #[.int .i64 2, .int .i64 A.k, .slice an A.nx.length cn, .slice (some ⟨g1, o1, none⟩) A.ac.length ca, .int .i64 B.k, .slice bn B.nx.length dn, .slice (some ⟨g2, o2, none⟩) B.ac.length da] y1.drew ∧ y1.drew.cell? ⟨g1, o1 + s.1, none⟩ = some (.bool D1) ∧ y1.drew.cell? ⟨g2, o2 + s.2, none⟩ = some (.bool D2) := KK.out _ _ (Below.refl _ _).drew hS
    clear hS S0
    go_wp2_with fail
    go_region_held3 (fun y => SB W w.heap.size #[.int .i64 2, .int .i64 A.k, .slice an A.nx.length cn, .slice (some ⟨g1, o1, none⟩) A.ac.length ca, .int .i64 B.k, .slice bn B.nx.length dn, .slice (some ⟨g2, o2, none⟩) B.ac.length da] y ∧ y.cell? ⟨g1, o1 + s.1, none⟩ = some (.bool D1) ∧ y.cell? ⟨g2, o2 + s.2, none⟩ = some (.bool D2)) (first | exact S1 | assumption | exact KK.out _ _ (by assumption) (by assumption)) (first
      | (go_at_call 59; refine (HV2.out _).mono ?_; rintro e y2 ⟨rfl, hy2⟩))
    all_goals (
      have hS2 : SB W w.heap.size #[.int .i64 2, .int .i64 A.k, .slice an A.nx.length cn, .slice (some ⟨g1, o1, none⟩) A.ac.length ca, .int .i64 B.k, .slice bn B.nx.length dn, .slice (some ⟨g2, o2, none⟩) B.ac.length da] y2 ∧ y2.cell? ⟨g1, o1 + s.1, none⟩ = some (.bool D1) ∧ y2.cell? ⟨g2, o2 + s.2, none⟩ = some (.bool D2) := by first | assumption | exact KK.out _ _ (by assumption) (by assumption)
      have HB : Hid (Below w.heap.size w y2) := go_on HBW.out hS2.1.2
      clear hS2 S1
      rcases HH.out with ⟨rfl, rfl⟩ | ⟨rfl, rfl⟩ | ⟨rfl, rfl⟩ <;> cases D1 <;> cases D2 <;> (
        go_wp2_with fail
        go_ret
        exact ⟨by rw [HD.out.1, HD.out.2]; rfl, HB.out⟩)))

set_option maxHeartbeats 4000000 in
set_option maxRecDepth 100000 in
theorem two_any (v1 v2 : Value) (A B : Aut) (w : World) (h1 : AR w v1 A) (h2 : AR w v2 B) (hm : A.nx.length ≤ 9223372036854775806) (hm2 : A.ac.length ≤ 9223372036854775806) (hm3 : B.nx.length ≤ 9223372036854775806) (hm4 : B.ac.length ≤ 9223372036854775806) :
    Calls Try.prog 13 #[v1, v2] w fun e w' => e = .returned (.int .i64 (twE A B)) ∧ Below w.heap.size w w' := by
  obtain ⟨an, cn, aa, ca, e1, _, _⟩ := h1.is
  obtain ⟨bn, dn, ba, da, e2, _, _⟩ := h2.is
  have HA : Hid (∀ y, Below w.heap.size w y → Calls Try.prog 32 #[v1] y fun e w' => e = .returned (.int .i64 (chkA A)) ∧ Below y.heap.size y w') := fun y hy => racheck_any v1 A y (h1.stay hy) hm hm2
  have HB : Hid (∀ y, Below w.heap.size w y → Calls Try.prog 32 #[v2] y fun e w' => e = .returned (.int .i64 (chkA B)) ∧ Below y.heap.size y w') := fun y hy => racheck_any v2 B y (h2.stay hy) hm3 hm4
  subst e1 e2
  clear h1 h2
  obtain ⟨W, hW⟩ : ∃ W, W = (w.alloc (.cells #[.int .i64 A.k, .slice an A.nx.length cn, .slice aa A.ac.length ca] 25)).alloc (.cells #[.int .i64 B.k, .slice bn B.nx.length dn, .slice ba B.ac.length da] 25) := ⟨_, rfl⟩
  have HWE : Hid (W = (w.alloc (.cells #[.int .i64 A.k, .slice an A.nx.length cn, .slice aa A.ac.length ca] 25)).alloc (.cells #[.int .i64 B.k, .slice bn B.nx.length dn, .slice ba B.ac.length da] 25)) := hW
  have HR1 : Hid (RowAt W w.heap.size #[.int .i64 A.k, .slice an A.nx.length cn, .slice aa A.ac.length ca]) := by
    show RowAt W w.heap.size _
    rw [hW]
    exact (RowAt.last _ _ _).alloc _
  have HR2 : Hid (RowAt W (w.heap.size + 1) #[.int .i64 B.k, .slice bn B.nx.length dn, .slice ba B.ac.length da]) := by
    show RowAt W (w.heap.size + 1) _
    rw [hW]
    have := RowAt.last (w.alloc (.cells #[.int .i64 A.k, .slice an A.nx.length cn, .slice aa A.ac.length ca] 25)) #[.int .i64 B.k, .slice bn B.nx.length dn, .slice ba B.ac.length da] 25
    simpa using this
  have HB2 : Hid (Below w.heap.size w W) := by
    show Below w.heap.size w W
    rw [hW]
    exact go_on (below_new _ _) (below_new _ _)
  clear hW
  go_enter Try.func13, Try.ntmps13
  go_wp2_with fail
  rw [← HWE.out]
  refine (HA.out _ HB2.out).mono ?_
  rintro e w1 ⟨rfl, hb1⟩
  have HY1 : Hid (Below w.heap.size w w1) := go_on HB2.out hb1
  rcases chkA_cases A with ⟨hG, hc⟩ | ⟨hG, hc⟩
  · rw [hc]
    have cs := (HR2.out.stay hb1).cell
    have HS1 : Hid (Below W.heap.size W w1) := hb1
    clear hb1
    go_wp2_with fail
    refine (HB.out _ HY1.out).mono ?_
    rintro e w2 ⟨rfl, hb2⟩
    have HY2 : Hid (Below w.heap.size w w2) := go_on HY1.out hb2
    rcases chkA_cases B with ⟨hG2, hc2⟩ | ⟨hG2, hc2⟩
    · rw [hc2]
      have ca1 := (HR1.out.stay (go_on HS1.out hb2)).cell
      have cb1 := (HR2.out.stay (go_on HS1.out hb2)).cell
      by_cases hk : A.k = B.k
      · have HE : Hid (twE A B = 0) := by show _ = _; unfold twE; rw [if_pos hc, if_pos hc2, if_pos hk]
        clear hc hc2 hG hG2 hb2 cs
        go_wp2_with fail
        go_ret
        exact ⟨by rw [HE.out]; rfl, HY2.out⟩
      · have HE : Hid (twE A B = 20) := by show _ = _; unfold twE; rw [if_pos hc, if_pos hc2, if_neg hk]
        clear hc hc2 hG hG2 hb2 cs
        go_wp2_with fail
        go_ret
        exact ⟨by rw [HE.out]; rfl, HY2.out⟩
    · rw [hc2]
      have HE : Hid (twE A B = 80) := by show _ = _; unfold twE; rw [if_pos hc, if_neg (by rw [hc2]; decide)]
      clear hc hc2 hG hG2 hb2 cs
      go_wp2_with fail
      go_ret
      exact ⟨by rw [HE.out]; rfl, HY2.out⟩
  · rw [hc]
    have HE : Hid (twE A B = 80) := by show _ = _; unfold twE; rw [if_neg (by rw [hc]; decide)]
    clear hc hG hb1
    go_wp2_with fail
    go_ret
    exact ⟨by rw [HE.out]; rfl, HY1.out⟩

end Go.Proofs.Ytbfoamidnekoaab
