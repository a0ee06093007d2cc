/- auto's products: what is accepted. -/
import Derived.Test.YtbfoamidnekoaabQo
import Derived.Test.YtbfoamidnekoaabJl
namespace Go.Proofs.Ytbfoamidnekoaab
open Go Go.RowKit Go.Lib Go.Maps
set_option linter.unusedVariables false
attribute [-instance] instBEqProd

set_option maxHeartbeats 4000000 in
set_option maxRecDepth 100000 in
theorem product2_any (A B : Aut) (w : World) (b1 b2 b3 : Nat) (an aa bn ba : Option Addr) (cn ca dn da : Nat) (F : Nat) (f : Bool → Bool → Bool)
    (k1 : SR w aa (bC A.ac)) (k2 : SR w ba (bC B.ac))
    (R1 : RowAt w b1 #[.int .i64 A.k, .slice an A.nx.length cn, .slice aa A.ac.length ca]) (R2 : RowAt w b2 #[.int .i64 B.k, .slice bn B.nx.length dn, .slice ba B.ac.length da]) (R3 : RowAt w b3 #[.func (.func F) #[] #[]])
    (s : Nat × Nat) (hs1 : s.1 < A.ac.length) (hs2 : s.2 < B.ac.length) (eF : ∀ args w, (callFunc F args).run Try.prog w = .ok (.enter F args) w)
    (hF : ∀ x z y, Calls Try.prog F #[.bool x, .bool z] y fun e w' => e = .returned (.bool (f x z)) ∧ Below y.heap.size y w') :
    Calls Try.prog 49 #[prV s, .pointer (some ⟨b3, 0, none⟩), .pointer (some ⟨b1, 0, none⟩), .pointer (some ⟨b2, 0, none⟩)] w fun e w' => e = .returned (.bool (f (aN A s.1) (aN B s.2))) ∧ Below w.heap.size w w' := by
  obtain ⟨g1, o1, rfl, hg1, hc1⟩ := k1.bool hs1
  obtain ⟨g2, o2, rfl, hg2, hc2⟩ := k2.bool hs2
  obtain ⟨D1, hD1⟩ : ∃ D, A.ac.getD s.1 false = D := ⟨_, rfl⟩
  obtain ⟨D2, hD2⟩ : ∃ D, B.ac.getD s.2 false = D := ⟨_, rfl⟩
  rw [hD1] at hc1
  rw [hD2] at hc2
  have HD : Hid (aN A s.1 = D1 ∧ aN B s.2 = D2) := ⟨hD1, hD2⟩
  obtain ⟨W, hW⟩ : ∃ W, W = w.alloc (.cells #[.int .i64 (s.1 : Int), .int .i64 (s.2 : Int)] 70) := ⟨_, rfl⟩
  have HWE : Hid (W = w.alloc (.cells #[.int .i64 (s.1 : Int), .int .i64 (s.2 : Int)] 70)) := hW
  have HBW : Hid (Below w.heap.size w W) := by show Below _ _ _; rw [hW]; exact below_new _ _
  have HRP : Hid (RowAt W w.heap.size #[.int .i64 (s.1 : Int), .int .i64 (s.2 : Int)]) := by show RowAt _ _ _; rw [hW]; exact RowAt.last _ _ _
  have Q1 := R1.stay HBW.out
  have Q2 := R2.stay HBW.out
  have Q3 := R3.stay HBW.out
  have Q4 := (below_cell HBW.out hg1).trans hc1
  have Q5 := (below_cell HBW.out hg2).trans hc2
  have l1 := Nat.lt_of_lt_of_le hg1 HBW.out.size
  have l2 := Nat.lt_of_lt_of_le hg2 HBW.out.size
  have kk : ∀ y1 y2, Below y1.heap.size y1 y2 → ((∀ o, y1.cell? ⟨b1, o, none⟩ = (#[.int .i64 A.k, .slice an A.nx.length cn, .slice (some ⟨g1, o1, none⟩) A.ac.length ca] : Array Value)[o]?) ∧ (∀ o, y1.cell? ⟨b2, o, none⟩ = (#[.int .i64 B.k, .slice bn B.nx.length dn, .slice (some ⟨g2, o2, none⟩) B.ac.length da] : Array Value)[o]?) ∧ (∀ o, y1.cell? ⟨w.heap.size, o, none⟩ = (#[.int .i64 (s.1 : Int), .int .i64 (s.2 : Int)] : Array Value)[o]?) ∧ (∀ o, y1.cell? ⟨b3, o, none⟩ = (#[.func (.func F) #[] #[]] : Array Value)[o]?) ∧ y1.cell? ⟨g1, o1 + s.1, none⟩ = some (.bool D1) ∧ y1.cell? ⟨g2, o2 + s.2, none⟩ = some (.bool D2) ∧ Below W.heap.size W y1) → ((∀ o, y2.cell? ⟨b1, o, none⟩ = (#[.int .i64 A.k, .slice an A.nx.length cn, .slice (some ⟨g1, o1, none⟩) A.ac.length ca] : Array Value)[o]?) ∧ (∀ o, y2.cell? ⟨b2, o, none⟩ = (#[.int .i64 B.k, .slice bn B.nx.length dn, .slice (some ⟨g2, o2, none⟩) B.ac.length da] : Array Value)[o]?) ∧ (∀ o, y2.cell? ⟨w.heap.size, o, none⟩ = (#[.int .i64 (s.1 : Int), .int .i64 (s.2 : Int)] : Array Value)[o]?) ∧ (∀ o, y2.cell? ⟨b3, o, none⟩ = (#[.func (.func F) #[] #[]] : Array Value)[o]?) ∧ y2.cell? ⟨g1, o1 + s.1, none⟩ = some (.bool D1) ∧ y2.cell? ⟨g2, o2 + s.2, none⟩ = some (.bool D2) ∧ Below W.heap.size W y2) := fun y1 y2 hy h => by
    have b := go_on h.2.2.2.2.2.2 hy
    exact ⟨(Q1.stay b).cell, (Q2.stay b).cell, (HRP.out.stay b).cell, (Q3.stay b).cell, (below_cell b l1).trans Q4, (below_cell b l2).trans Q5, b⟩
  have KK : Hid _ := kk
  clear kk Q1 Q2 Q3 Q4 Q5 l1 l2
  have S0 : (∀ o, W.drew.cell? ⟨b1, o, none⟩ = (#[.int .i64 A.k, .slice an A.nx.length cn, .slice (some ⟨g1, o1, none⟩) A.ac.length ca] : Array Value)[o]?) ∧ (∀ o, W.drew.cell? ⟨b2, o, none⟩ = (#[.int .i64 B.k, .slice bn B.nx.length dn, .slice (some ⟨g2, o2, none⟩) B.ac.length da] : Array Value)[o]?) ∧ (∀ o, W.drew.cell? ⟨w.heap.size, o, none⟩ = (#[.int .i64 (s.1 : Int), .int .i64 (s.2 : Int)] : Array Value)[o]?) ∧ (∀ o, W.drew.cell? ⟨b3, o, none⟩ = (#[.func (.func F) #[] #[]] : Array Value)[o]?) ∧ W.drew.cell? ⟨g1, o1 + s.1, none⟩ = some (.bool D1) ∧ W.drew.cell? ⟨g2, o2 + s.2, none⟩ = some (.bool D2) ∧ Below W.heap.size W W.drew :=
    ⟨(R1.stay HBW.out).cell, (R2.stay HBW.out).cell, HRP.out.cell, (R3.stay HBW.out).cell, (below_cell HBW.out hg1).trans hc1, (below_cell HBW.out hg2).trans hc2, (Below.refl _ _).drew⟩
  have HF : Hid (∀ x z y, Calls Try.prog F #[.bool x, .bool z] y fun e w' => e = .returned (.bool (f x z)) ∧ Below y.heap.size y w') := hF
  have hI1 : (s.1 : Int) < A.ac.length := by omega
  have hI2 : (s.2 : Int) < B.ac.length := by omega
  clear k1 k2 R1 R2 R3 hD1 hD2 hc1 hc2 hW hF hs1 hs2
  go_enter Try.func49, Try.ntmps49
  go_wp2_with fail
  rw [← HWE.out]
  go_region_held3 (fun y => (∀ o, y.cell? ⟨b1, o, none⟩ = (#[.int .i64 A.k, .slice an A.nx.length cn, .slice (some ⟨g1, o1, none⟩) A.ac.length ca] : Array Value)[o]?) ∧ (∀ o, y.cell? ⟨b2, o, none⟩ = (#[.int .i64 B.k, .slice bn B.nx.length dn, .slice (some ⟨g2, o2, none⟩) B.ac.length da] : Array Value)[o]?) ∧ (∀ o, y.cell? ⟨w.heap.size, o, none⟩ = (#[.int .i64 (s.1 : Int), .int .i64 (s.2 : Int)] : Array Value)[o]?) ∧ (∀ o, y.cell? ⟨b3, o, none⟩ = (#[.func (.func F) #[] #[]] : Array Value)[o]?) ∧ y.cell? ⟨g1, o1 + s.1, none⟩ = some (.bool D1) ∧ y.cell? ⟨g2, o2 + s.2, none⟩ = some (.bool D2) ∧ Below W.heap.size W y) (first | exact S0 | assumption | exact KK.out _ _ (by assumption) (by assumption)) (first | (refine (HF.out _ _ _).mono ?_; rintro e y1 ⟨rfl, hy1⟩) | (rw [eF, Oper.upon_enter]; refine (HF.out _ _ _).mono ?_; rintro e y1 ⟨rfl, hy1⟩))
  all_goals (
    have hS : (∀ o, y1.cell? ⟨b1, o, none⟩ = (#[.int .i64 A.k, .slice an A.nx.length cn, .slice (some ⟨g1, o1, none⟩) A.ac.length ca] : Array Value)[o]?) ∧ (∀ o, y1.cell? ⟨b2, o, none⟩ = (#[.int .i64 B.k, .slice bn B.nx.length dn, .slice (some ⟨g2, o2, none⟩) B.ac.length da] : Array Value)[o]?) ∧ (∀ o, y1.cell? ⟨w.heap.size, o, none⟩ = (#[.int .i64 (s.1 : Int), .int .i64 (s.2 : Int)] : Array Value)[o]?) ∧ (∀ o, y1.cell? ⟨b3, o, none⟩ = (#[.func (.func F) #[] #[]] : Array Value)[o]?) ∧ y1.cell? ⟨g1, o1 + s.1, none⟩ = some (.bool D1) ∧ y1.cell? ⟨g2, o2 + s.2, none⟩ = some (.bool D2) ∧ Below W.heap.size W y1 := by first | assumption | exact KK.out _ _ (by assumption) (by assumption)
    have HY1 : Hid (Below w.heap.size w y1) := go_on HBW.out hS.2.2.2.2.2.2
    clear hS S0
    go_wp2_with fail
    go_ret
    exact ⟨by rw [HD.out.1, HD.out.2]; rfl, HY1.out⟩)
end Go.Proofs.Ytbfoamidnekoaab
