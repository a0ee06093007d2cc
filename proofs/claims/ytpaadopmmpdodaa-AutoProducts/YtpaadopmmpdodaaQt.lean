/- The document's products: good of pairs, Two, Product. -/
import Derived.Test.YtpaadopmmpdodaaQs
import Derived.Test.YtpaadopmmpdodaaQr
namespace Go.Proofs.Ytpaadopmmpdodaa
open Go Go.RowKit Go.Lib Go.Maps
set_option linter.unusedVariables false
attribute [-instance] instBEqProd

/-- What the document's numbers of the three products stand for. -/
def HowOf (how : Int) (f : Bool → Bool → Bool) : Prop := (how = 1 ∧ f = fun x z => x && z) ∨ (how = 2 ∧ f = fun x z => x || z) ∨ (how = 3 ∧ f = fun x z => x && !z)
set_option maxHeartbeats 8000000 in
set_option maxRecDepth 100000 in
theorem good2_any (A B : Aut) (G : Good A) (G2 : Good B) (an aa bn ba : Option Addr) (cn ca dn da : Nat) (w : World) (h1 : SR w aa (bC A.ac)) (h2 : SR w ba (bC B.ac)) (s : Nat × Nat) (hs : s.1 < A.ac.length) (hs2 : s.2 < B.ac.length) (how : Int) (f : Bool → Bool → Bool) (hh : HowOf how f) :
    Calls Try.prog 63 #[.agg #[.int .i64 2, .int .i64 A.k, .slice an A.nx.length cn, .slice aa A.ac.length ca, .int .i64 B.k, .slice bn B.nx.length dn, .slice ba B.ac.length da], .string (nP s), .int .i64 how] w fun e w' => e = .returned (.bool (f (aN A s.1) (aN B s.2))) ∧ Below w.heap.size w w' := by
  have hn2 := G.n2
  have hm2 := G2.n2
  have e1 : s.1 < 4096 := by omega
  have e2 : s.2 < 4096 := by omega
  have HV : Hid (∀ y, Calls Try.prog 72 #[.string (nP s)] y fun e w' => e = .returned (.int .i64 (s.1 : Int)) ∧ Below y.heap.size y w') := fun y => value_any s.1 (nP s) (by rw [nP_size]; omega) (nP_0 e1) (nP_1 e1) e1 y
  have HV2 : Hid (∀ y, Calls Try.prog 72 #[.string ((nP s).extract 2 4)] y fun e w' => e = .returned (.int .i64 (s.2 : Int)) ∧ Below y.heap.size y w') := fun y => by rw [nP_cut]; exact value_any s.2 (nB s.2) (by rw [nB_size]; omega) (nB_0 e2) (nB_1 e2) e2 y
  have hsz : (nP s).size = 4 := nP_size s
  obtain ⟨X, hX⟩ : ∃ X, nP s = X := ⟨_, rfl⟩
  rw [hX] at HV HV2 hsz ⊢
  obtain ⟨g1, o1, rfl, hg1, hc1⟩ := h1.bool hs
  obtain ⟨g2, o2, rfl, hg2, hc2⟩ := h2.bool hs2
  obtain ⟨D1, hD1⟩ : ∃ D, A.ac.getD s.1 false = D := ⟨_, rfl⟩
  obtain ⟨D2, hD2⟩ : ∃ D, B.ac.getD s.2 false = D := ⟨_, rfl⟩
  rw [hD1] at hc1
  rw [hD2] at hc2
  have HD : Hid (aN A s.1 = D1 ∧ aN B s.2 = D2) := ⟨hD1, hD2⟩
  have hl1 : (s.1 : Int) < A.ac.length := by omega
  have hl2 : (s.2 : Int) < B.ac.length := by omega
  obtain ⟨W, hW⟩ : ∃ W, W = w.alloc (.cells #[.int .i64 2, .int .i64 A.k, .slice an A.nx.length cn, .slice (some ⟨g1, o1, none⟩) A.ac.length ca, .int .i64 B.k, .slice bn B.nx.length dn, .slice (some ⟨g2, o2, none⟩) B.ac.length da] 71) := ⟨_, rfl⟩
  have HWE : Hid (W = w.alloc (.cells #[.int .i64 2, .int .i64 A.k, .slice an A.nx.length cn, .slice (some ⟨g1, o1, none⟩) A.ac.length ca, .int .i64 B.k, .slice bn B.nx.length dn, .slice (some ⟨g2, o2, none⟩) B.ac.length da] 71)) := hW
  have HBW : Hid (Below w.heap.size w W) := by show Below _ _ _; rw [hW]; exact below_new _ _
  have RB : RowAt W w.heap.size #[.int .i64 2, .int .i64 A.k, .slice an A.nx.length cn, .slice (some ⟨g1, o1, none⟩) A.ac.length ca, .int .i64 B.k, .slice bn B.nx.length dn, .slice (some ⟨g2, o2, none⟩) B.ac.length da] := by rw [hW]; exact RowAt.last _ _ _
  have cs : ∀ o, (w.alloc (.cells #[.int .i64 2, .int .i64 A.k, .slice an A.nx.length cn, .slice (some ⟨g1, o1, none⟩) A.ac.length ca, .int .i64 B.k, .slice bn B.nx.length dn, .slice (some ⟨g2, o2, none⟩) B.ac.length da] 71)).cell? ⟨w.heap.size, o, none⟩ = (#[.int .i64 2, .int .i64 A.k, .slice an A.nx.length cn, .slice (some ⟨g1, o1, none⟩) A.ac.length ca, .int .i64 B.k, .slice bn B.nx.length dn, .slice (some ⟨g2, o2, none⟩) B.ac.length da] : Array Value)[o]? := (RowAt.last _ _ _).cell
  have l1 := Nat.lt_of_lt_of_le hg1 HBW.out.size
  have l2 := Nat.lt_of_lt_of_le hg2 HBW.out.size
  have d1 := (below_cell HBW.out hg1).trans hc1
  have d2 := (below_cell HBW.out hg2).trans hc2
  have S0 : SB W w.heap.size #[.int .i64 2, .int .i64 A.k, .slice an A.nx.length cn, .slice (some ⟨g1, o1, none⟩) A.ac.length ca, .int .i64 B.k, .slice bn B.nx.length dn, .slice (some ⟨g2, o2, none⟩) B.ac.length da] W.drew ∧ W.drew.cell? ⟨g1, o1 + s.1, none⟩ = some (.bool D1) ∧ W.drew.cell? ⟨g2, o2 + s.2, none⟩ = some (.bool D2) := ⟨sb_of RB (Below.refl _ _).drew, d1, d2⟩
  have kk : ∀ y1 y2, Below y1.heap.size y1 y2 → (SB W w.heap.size #[.int .i64 2, .int .i64 A.k, .slice an A.nx.length cn, .slice (some ⟨g1, o1, none⟩) A.ac.length ca, .int .i64 B.k, .slice bn B.nx.length dn, .slice (some ⟨g2, o2, none⟩) B.ac.length da] y1 ∧ y1.cell? ⟨g1, o1 + s.1, none⟩ = some (.bool D1) ∧ y1.cell? ⟨g2, o2 + s.2, none⟩ = some (.bool D2)) → (SB W w.heap.size #[.int .i64 2, .int .i64 A.k, .slice an A.nx.length cn, .slice (some ⟨g1, o1, none⟩) A.ac.length ca, .int .i64 B.k, .slice bn B.nx.length dn, .slice (some ⟨g2, o2, none⟩) B.ac.length da] y2 ∧ y2.cell? ⟨g1, o1 + s.1, none⟩ = some (.bool D1) ∧ y2.cell? ⟨g2, o2 + s.2, none⟩ = some (.bool D2)) := fun y1 y2 hy h => by
    have b := go_on h.1.2 hy
    exact ⟨sb_step RB hy h.1, (below_cell b l1).trans d1, (below_cell b l2).trans d2⟩
  have KK : Hid (∀ y1 y2, Below y1.heap.size y1 y2 → (SB W w.heap.size #[.int .i64 2, .int .i64 A.k, .slice an A.nx.length cn, .slice (some ⟨g1, o1, none⟩) A.ac.length ca, .int .i64 B.k, .slice bn B.nx.length dn, .slice (some ⟨g2, o2, none⟩) B.ac.length da] y1 ∧ y1.cell? ⟨g1, o1 + s.1, none⟩ = some (.bool D1) ∧ y1.cell? ⟨g2, o2 + s.2, none⟩ = some (.bool D2)) → (SB W w.heap.size #[.int .i64 2, .int .i64 A.k, .slice an A.nx.length cn, .slice (some ⟨g1, o1, none⟩) A.ac.length ca, .int .i64 B.k, .slice bn B.nx.length dn, .slice (some ⟨g2, o2, none⟩) B.ac.length da] y2 ∧ y2.cell? ⟨g1, o1 + s.1, none⟩ = some (.bool D1) ∧ y2.cell? ⟨g2, o2 + s.2, none⟩ = some (.bool D2))) := kk
  have HH : Hid (HowOf how f) := hh
  clear kk d1 d2 l1 l2 RB hW hD1 hD2 hc1 hc2 hg1 hg2 h1 h2 G G2 hs hs2 hn2 hm2 e1 e2 hX hh
  go_enter Try.func63, Try.ntmps63
  go_wp2_with fail
  rw [← HWE.out]
  clear cs
  go_region_held3 (fun y => SB W w.heap.size #[.int .i64 2, .int .i64 A.k, .slice an A.nx.length cn, .slice (some ⟨g1, o1, none⟩) A.ac.length ca, .int .i64 B.k, .slice bn B.nx.length dn, .slice (some ⟨g2, o2, none⟩) B.ac.length da] y ∧ y.cell? ⟨g1, o1 + s.1, none⟩ = some (.bool D1) ∧ y.cell? ⟨g2, o2 + s.2, none⟩ = some (.bool D2)) (first | exact S0 | assumption | exact KK.out _ _ (by assumption) (by assumption)) (first
    | (go_at_call 72; refine (HV.out _).mono ?_; rintro e y1 ⟨rfl, hy1⟩))
  all_goals (
    have hS : SB W w.heap.size #[.int .i64 2, .int .i64 A.k, .slice an A.nx.length cn, .slice (some ⟨g1, o1, none⟩) A.ac.length ca, .int .i64 B.k, .slice bn B.nx.length dn, .slice (some ⟨g2, o2, none⟩) B.ac.length da] y1 ∧ y1.cell? ⟨g1, o1 + s.1, none⟩ = some (.bool D1) ∧ y1.cell? ⟨g2, o2 + s.2, none⟩ = some (.bool D2) := by first | assumption | exact KK.out _ _ (by assumption) (by assumption)
    have S1 : SB W w.heap.size #[.int .i64 2, .int .i64 A.k, .slice an A.nx.length cn, .slice (some ⟨g1, o1, none⟩) A.ac.length ca, .int .i64 B.k, .slice bn B.nx.length dn, .slice (some ⟨g2, o2, none⟩) B.ac.length da] y1.drew ∧ y1.drew.cell? ⟨g1, o1 + s.1, none⟩ = some (.bool D1) ∧ y1.drew.cell? ⟨g2, o2 + s.2, none⟩ = some (.bool D2) := KK.out _ _ (Below.refl _ _).drew hS
    clear hS S0
    go_wp2_with fail
    go_region_held3 (fun y => SB W w.heap.size #[.int .i64 2, .int .i64 A.k, .slice an A.nx.length cn, .slice (some ⟨g1, o1, none⟩) A.ac.length ca, .int .i64 B.k, .slice bn B.nx.length dn, .slice (some ⟨g2, o2, none⟩) B.ac.length da] y ∧ y.cell? ⟨g1, o1 + s.1, none⟩ = some (.bool D1) ∧ y.cell? ⟨g2, o2 + s.2, none⟩ = some (.bool D2)) (first | exact S1 | assumption | exact KK.out _ _ (by assumption) (by assumption)) (first
      | (go_at_call 72; refine (HV2.out _).mono ?_; rintro e y2 ⟨rfl, hy2⟩))
    all_goals (
      have hS2 : SB W w.heap.size #[.int .i64 2, .int .i64 A.k, .slice an A.nx.length cn, .slice (some ⟨g1, o1, none⟩) A.ac.length ca, .int .i64 B.k, .slice bn B.nx.length dn, .slice (some ⟨g2, o2, none⟩) B.ac.length da] y2 ∧ y2.cell? ⟨g1, o1 + s.1, none⟩ = some (.bool D1) ∧ y2.cell? ⟨g2, o2 + s.2, none⟩ = some (.bool D2) := by first | assumption | exact KK.out _ _ (by assumption) (by assumption)
      have HB : Hid (Below w.heap.size w y2) := go_on HBW.out hS2.1.2
      clear hS2 S1
      rcases HH.out with ⟨rfl, rfl⟩ | ⟨rfl, rfl⟩ | ⟨rfl, rfl⟩ <;> cases D1 <;> cases D2 <;> (
        go_wp2_with fail
        go_ret
        exact ⟨by rw [HD.out.1, HD.out.2]; rfl, HB.out⟩)))

set_option maxHeartbeats 4000000 in
set_option maxRecDepth 100000 in
theorem two_any (v1 v2 : Value) (A B : Aut) (w : World) (h1 : AR w v1 A) (h2 : AR w v2 B) (hm : A.nx.length ≤ 9223372036854775806) (hm2 : A.ac.length ≤ 9223372036854775806) (hm3 : B.nx.length ≤ 9223372036854775806) (hm4 : B.ac.length ≤ 9223372036854775806) :
    Calls Try.prog 54 #[v1, v2] w fun e w' => e = .returned (.int .i64 (twE A B)) ∧ Below w.heap.size w w' := by
  obtain ⟨an, cn, aa, ca, e1, _, _⟩ := h1.is
  obtain ⟨bn, dn, ba, da, e2, _, _⟩ := h2.is
  have HA : Hid (∀ y, Below w.heap.size w y → Calls Try.prog 14 #[v1] y fun e w' => e = .returned (.int .i64 (chkA A)) ∧ Below y.heap.size y w') := fun y hy => racheck_any v1 A y (h1.stay hy) hm hm2
  have HB : Hid (∀ y, Below w.heap.size w y → Calls Try.prog 14 #[v2] y fun e w' => e = .returned (.int .i64 (chkA B)) ∧ Below y.heap.size y w') := fun y hy => racheck_any v2 B y (h2.stay hy) hm3 hm4
  subst e1 e2
  clear h1 h2
  obtain ⟨W, hW⟩ : ∃ W, W = (w.alloc (.cells #[.int .i64 A.k, .slice an A.nx.length cn, .slice aa A.ac.length ca] 25)).alloc (.cells #[.int .i64 B.k, .slice bn B.nx.length dn, .slice ba B.ac.length da] 25) := ⟨_, rfl⟩
  have HWE : Hid (W = (w.alloc (.cells #[.int .i64 A.k, .slice an A.nx.length cn, .slice aa A.ac.length ca] 25)).alloc (.cells #[.int .i64 B.k, .slice bn B.nx.length dn, .slice ba B.ac.length da] 25)) := hW
  have HR1 : Hid (RowAt W w.heap.size #[.int .i64 A.k, .slice an A.nx.length cn, .slice aa A.ac.length ca]) := by
    show RowAt W w.heap.size _
    rw [hW]
    exact (RowAt.last _ _ _).alloc _
  have HR2 : Hid (RowAt W (w.heap.size + 1) #[.int .i64 B.k, .slice bn B.nx.length dn, .slice ba B.ac.length da]) := by
    show RowAt W (w.heap.size + 1) _
    rw [hW]
    have := RowAt.last (w.alloc (.cells #[.int .i64 A.k, .slice an A.nx.length cn, .slice aa A.ac.length ca] 25)) #[.int .i64 B.k, .slice bn B.nx.length dn, .slice ba B.ac.length da] 25
    simpa using this
  have HB2 : Hid (Below w.heap.size w W) := by
    show Below w.heap.size w W
    rw [hW]
    exact go_on (below_new _ _) (below_new _ _)
  clear hW
  go_enter Try.func54, Try.ntmps54
  go_wp2_with fail
  rw [← HWE.out]
  refine (HA.out _ HB2.out).mono ?_
  rintro e w1 ⟨rfl, hb1⟩
  have HY1 : Hid (Below w.heap.size w w1) := go_on HB2.out hb1
  rcases chkA_cases A with ⟨hG, hc⟩ | ⟨hG, hc⟩
  · rw [hc]
    have cs := (HR2.out.stay hb1).cell
    have HS1 : Hid (Below W.heap.size W w1) := hb1
    clear hb1
    go_wp2_with fail
    refine (HB.out _ HY1.out).mono ?_
    rintro e w2 ⟨rfl, hb2⟩
    have HY2 : Hid (Below w.heap.size w w2) := go_on HY1.out hb2
    rcases chkA_cases B with ⟨hG2, hc2⟩ | ⟨hG2, hc2⟩
    · rw [hc2]
      have ca1 := (HR1.out.stay (go_on HS1.out hb2)).cell
      have cb1 := (HR2.out.stay (go_on HS1.out hb2)).cell
      by_cases hk : A.k = B.k
      · have HE : Hid (twE A B = 0) := by show _ = _; unfold twE; rw [if_pos hc, if_pos hc2, if_pos hk]
        clear hc hc2 hG hG2 hb2 cs
        go_wp2_with fail
        go_ret
        exact ⟨by rw [HE.out]; rfl, HY2.out⟩
      · have HE : Hid (twE A B = 20) := by show _ = _; unfold twE; rw [if_pos hc, if_pos hc2, if_neg hk]
        clear hc hc2 hG hG2 hb2 cs
        go_wp2_with fail
        go_ret
        exact ⟨by rw [HE.out]; rfl, HY2.out⟩
    · rw [hc2]
      have HE : Hid (twE A B = 80) := by show _ = _; unfold twE; rw [if_pos hc, if_neg (by rw [hc2]; decide)]
      clear hc hc2 hG hG2 hb2 cs
      go_wp2_with fail
      go_ret
      exact ⟨by rw [HE.out]; rfl, HY2.out⟩
  · rw [hc]
    have HE : Hid (twE A B = 80) := by show _ = _; unfold twE; rw [if_neg (by rw [hc]; decide)]
    clear hc hG hb1
    go_wp2_with fail
    go_ret
    exact ⟨by rw [HE.out]; rfl, HY1.out⟩


set_option maxHeartbeats 4000000 in
set_option maxRecDepth 100000 in
theorem rproduct_any (v1 v2 : Value) (A B : Aut) (w : World) (how : Int) (f : Bool → Bool → Bool) (hh : HowOf how f) (h1 : AR w v1 A) (h2 : AR w v2 B) (hm : A.nx.length ≤ 9223372036854775806) (hm2 : A.ac.length ≤ 9223372036854775806) (hm3 : B.nx.length ≤ 9223372036854775806) (hm4 : B.ac.length ≤ 9223372036854775806) :
    Calls Try.prog 30 #[v1, v2, .int .i64 how] w (FQ (prA f A B) (prE A B) w) := by
  obtain ⟨an, cn, aa, ca, e1, k1, k2⟩ := h1.is
  obtain ⟨bn, dn, ba, da, e2, k3, k4⟩ := h2.is
  have HK1 : Hid (∀ y, Below w.heap.size w y → SR y an (zC A.nx)) := fun y hy => k1.stay hy
  have HK2 : Hid (∀ y, Below w.heap.size w y → SR y aa (bC A.ac)) := fun y hy => k2.stay hy
  have HK3 : Hid (∀ y, Below w.heap.size w y → SR y bn (zC B.nx)) := fun y hy => k3.stay hy
  have HK4 : Hid (∀ y, Below w.heap.size w y → SR y ba (bC B.ac)) := fun y hy => k4.stay hy
  have HC : Hid (∀ y, Below w.heap.size w y → Calls Try.prog 54 #[v1, v2] y fun e w' => e = .returned (.int .i64 (twE A B)) ∧ Below y.heap.size y w') := fun y hy => two_any v1 v2 A B y (h1.stay hy) (h2.stay hy) hm hm2 hm3 hm4
  have HH : Hid (HowOf how f) := hh
  subst e1 e2
  clear h1 h2 k1 k2 k3 k4 hh
  obtain ⟨W, hW⟩ : ∃ W, W = ((w.alloc (.cells #[.int .i64 A.k, .slice an A.nx.length cn, .slice aa A.ac.length ca] 25)).alloc (.cells #[.int .i64 B.k, .slice bn B.nx.length dn, .slice ba B.ac.length da] 25)).alloc (.cells #[.int .i64 0, .slice none 0 0, .slice none 0 0] 25) := ⟨_, rfl⟩
  have HWE : Hid (W = ((w.alloc (.cells #[.int .i64 A.k, .slice an A.nx.length cn, .slice aa A.ac.length ca] 25)).alloc (.cells #[.int .i64 B.k, .slice bn B.nx.length dn, .slice ba B.ac.length da] 25)).alloc (.cells #[.int .i64 0, .slice none 0 0, .slice none 0 0] 25)) := hW
  have HBW : Hid (Below w.heap.size w W) := by show Below _ _ _; rw [hW]; exact go_on (go_on (below_new _ _) (below_new _ _)) (below_new _ _)
  have HR1 : Hid (RowAt W w.heap.size #[.int .i64 A.k, .slice an A.nx.length cn, .slice aa A.ac.length ca]) := by show RowAt _ _ _; rw [hW]; exact ((RowAt.last _ _ _).alloc _).alloc _
  have HR2 : Hid (RowAt W (w.heap.size + 1) #[.int .i64 B.k, .slice bn B.nx.length dn, .slice ba B.ac.length da]) := by
    show RowAt _ _ _
    rw [hW]
    have := RowAt.last (w.alloc (.cells #[.int .i64 A.k, .slice an A.nx.length cn, .slice aa A.ac.length ca] 25)) #[.int .i64 B.k, .slice bn B.nx.length dn, .slice ba B.ac.length da] 25
    exact (by simpa using this : RowAt _ (w.heap.size + 1) _).alloc _
  have HRES : Hid (W.heap[w.heap.size + 1 + 1]? = some (.cells #[.int .i64 0, .slice none 0 0, .slice none 0 0] 25 (0, 0))) := by
    show W.heap[w.heap.size + 1 + 1]? = _
    rw [hW]
    have := heap_alloc_last ((w.alloc (.cells #[.int .i64 A.k, .slice an A.nx.length cn, .slice aa A.ac.length ca] 25)).alloc (.cells #[.int .i64 B.k, .slice bn B.nx.length dn, .slice ba B.ac.length da] 25)) (.cells #[.int .i64 0, .slice none 0 0, .slice none 0 0] 25)
    simpa using this
  clear hW
  go_enter Try.func30, Try.ntmps30
  go_wp2_with fail
  rw [← HWE.out]
  refine (HC.out _ HBW.out).mono ?_
  rintro e w1 ⟨rfl, hb1⟩
  have HB1 : Hid (Below W.heap.size W w1) := hb1
  have HBw : Hid (Below w.heap.size w w1) := go_on HBW.out hb1
  have hres1 := (hb1.block _ (Array.getElem?_eq_some_iff.1 HRES.out).1).trans HRES.out
  have HR : Hid (w1.heap[w.heap.size + 1 + 1]? = some (.cells #[.int .i64 0, .slice none 0 0, .slice none 0 0] 25 (0, 0))) := hres1
  have hlt1 : w.heap.size + 1 + 1 < w1.heap.size := (Array.getElem?_eq_some_iff.1 hres1).1
  have hr0 : w1.cell? ⟨w.heap.size + 1 + 1, 0, none⟩ = some (.int .i64 0) := cell_of hres1
  have hr1 : w1.cell? ⟨w.heap.size + 1 + 1, 1, none⟩ = some (.slice none 0 0) := cell_of hres1
  have hr2 : w1.cell? ⟨w.heap.size + 1 + 1, 2, none⟩ = some (.slice none 0 0) := cell_of hres1
  have hf : ∀ j, w1.frozen? ⟨w.heap.size + 1 + 1, j, none⟩ = false := fun j => froz_of hres1
  have cs1 := (HR1.out.stay hb1).cell
  have cs2 := (HR2.out.stay hb1).cell
  by_cases h0 : twE A B = 0
  · rw [h0]
    obtain ⟨G1, G2, hk⟩ := twE_zero h0
    have HSE : Hid (∀ y, Below w1.heap.size w1 y → Calls Try.prog 43 #[.agg #[.int .i64 2, .int .i64 A.k, .slice an A.nx.length cn, .slice aa A.ac.length ca, .int .i64 B.k, .slice bn B.nx.length dn, .slice ba B.ac.length da], .int .i64 how] y (FQ (prA f A B) (prE A B) y)) := fun y hy => by
      have hyw := go_on HBw.out hy
      have hkn := G1.kn
      have q := rsearch_any y 2 how A.k.toNat (.slice an A.nx.length cn) (.slice aa A.ac.length ca) (.int .i64 B.k) (.slice bn B.nx.length dn) (.slice ba B.ac.length da) ⟨hkn.1, hkn.2.1⟩ nP (fun s => s.1 < A.ac.length ∧ s.2 < B.ac.length) (dP A B) (0, 0) (fun s => f (aN A s.1) (aN B s.2))
        (fun a b ha hb => nP_inj (by have := G1.n2; omega) (by have := G2.n2; omega) (by have := G1.n2; omega) (by have := G2.n2; omega)) ⟨by have := G1.n1; show 0 < _; omega, by have := G2.n1; show 0 < _; omega⟩ (fun s c hs hc => ⟨(G1.at hs.1 (by omega)).2.2, (G2.at hs.2 (by rw [← hk]; omega)).2.2⟩) (fun w' _ => start2_any _ _ _ _ _ _ w')
        (fun w' s c hb hs hc => by rw [hkn.2.2]; exact step2_any A B G1 G2 hk an aa bn ba cn ca dn da w' (HK1.out _ (go_on hyw hb)) (HK3.out _ (go_on hyw hb)) s c hs.1 hs.2 (by omega))
        (fun w' s hb hs => by rw [hkn.2.2]; exact good2_any A B G1 G2 an aa bn ba cn ca dn da w' (HK2.out _ (go_on hyw hb)) (HK4.out _ (go_on hyw hb)) s hs.1 hs.2 how f HH.out)
      rw [hkn.2.2] at q
      exact q.mono fun e w' hq => sq_pr h0 hq
    clear G1 G2 hk hres1 hb1 h0
    go_wp2_with fail
    refine (HSE.out _ (below_new _ _)).mono ?_
    rintro e w3 ⟨v', rfl, hao, hb3⟩
    have hb13 : Below w1.heap.size w1 w3 := go_on (below_new _ _) hb3
    obtain ⟨P, hP⟩ : ∃ P, prA f A B = P := ⟨_, rfl⟩
    obtain ⟨E, hE⟩ : ∃ E, prE A B = E := ⟨_, rfl⟩
    rw [hP] at hao
    rw [hE]
    have HPE : Hid (prA f A B = P ∧ prE A B = E) := ⟨hP, hE⟩
    have hres3 := (hb13.block _ hlt1).trans HR.out
    obtain ⟨rn, rcn, ra, rca, rfl, o1, o2⟩ := hao
    obtain ⟨f1, f2, f3⟩ := res_done (B := P) (base := w.heap.size) (w0 := w) (x0 := .int .i64 P.k) (x1 := .slice rn P.nx.length rcn) (x2 := .slice ra P.ac.length rca) hres3 ⟨rn, rcn, ra, rca, rfl, own_mono o1 (by have := HBw.out.size; simp; omega), own_mono o2 (by have := HBw.out.size; simp; omega)⟩ (go_on HBw.out hb13) (by omega)
    have hs0 : w3.cell? ⟨w.heap.size + 1 + 1, 0, none⟩ = some (.int .i64 0) := cell_of hres3
    have hs1 : w3.cell? ⟨w.heap.size + 1 + 1, 1, none⟩ = some (.slice none 0 0) := cell_of hres3
    have hs2 : w3.cell? ⟨w.heap.size + 1 + 1, 2, none⟩ = some (.slice none 0 0) := cell_of hres3
    have hsf : ∀ j, w3.frozen? ⟨w.heap.size + 1 + 1, j, none⟩ = false := fun j => froz_of hres3
    have F1 : Hid _ := f1
    have F2 : Hid _ := f2
    have F3 : Hid _ := f3
    clear o1 o2 hb3 hb13 hres3 f1 f2 f3 hr0 hr1 hr2 hf cs1 cs2 HSE hP hE
    go_wp2_with fail
    refine bodyPost_ret (results_auto rfl rfl F1.out rfl) rfl ⟨.agg #[.int .i64 P.k, .slice rn P.nx.length rcn, .slice ra P.ac.length rca], ?_, ?_, F3.out⟩
    · rw [HPE.out.2]; rfl
    · rw [HPE.out.1]; exact F2.out
  · have HA0 : Hid (prA f A B = zAut) := by show _ = _; unfold prA; rw [if_neg h0]
    have HE0 : Hid (prE A B = twE A B) := by show _ = _; unfold prE; rw [if_neg h0]
    obtain ⟨E, hE⟩ : ∃ E, twE A B = E := ⟨_, rfl⟩
    rw [hE] at HE0 h0 ⊢
    obtain ⟨f1, f2, f3⟩ := res_done (B := zAut) (base := w.heap.size) (w0 := w) hres1 (AO.zero _ _) HBw.out (by omega)
    have F1 : Hid _ := f1
    have F2 : Hid _ := f2
    have F3 : Hid _ := f3
    clear hres1 hb1 f1 f2 f3 hE cs1 cs2
    go_wp2_with fail
    refine bodyPost_ret (results_auto rfl rfl F1.out rfl) rfl ⟨.agg #[.int .i64 0, .slice none 0 0, .slice none 0 0], ?_, ?_, F3.out⟩
    · rw [HE0.out]; rfl
    · rw [HA0.out]; exact F2.out
end Go.Proofs.Ytpaadopmmpdodaa
