/- equal: what Differ and the two Escapes say together (pure). -/
import Derived.Test.YtceoceecgekkjaaIl
import Derived.Test.YtceoceecgekkjaaLr
namespace Go.Proofs.Ytceoceecgekkjaa
open Go Go.RowKit Go.Lib Go.Maps
set_option linter.unusedVariables false

theorem ckE_ok {A B : Aut} (G : Good A) (H : Good B) (hk : A.k = B.k) : ckE A B = 0 := by
  unfold ckE
  rw [if_pos ⟨chkA_ok G, chkA_ok H⟩, if_pos hk]
theorem sx_se (A B : Aut) (v : List Nat) : sx A B (wrun (dd A B) (0, 0) v) = true ↔ se A B (wrun (dd A B) (0, 0) v) = true ∨ se B A (wrun (dd B A) (0, 0) v) = true := by
  rw [wrun_dd, wrun_dd]
  unfold sx se
  cases aN A (wrun (dN A) 0 v) <;> cases aN B (wrun (dN B) 0 v) <;> simp
theorem tg (A B : Aut) (K : Nat) :
    (∃ u v, lsh (dd A B) K (se A B) (0, 0) = some u ∧ lsh (dd B A) K (se B A) (0, 0) = some v ∧ ¬ sle v u ∧ lsh (dd A B) K (sx A B) (0, 0) = some u) ∨
    (∃ u v, lsh (dd A B) K (se A B) (0, 0) = some u ∧ lsh (dd B A) K (se B A) (0, 0) = some v ∧ sle v u ∧ lsh (dd A B) K (sx A B) (0, 0) = some v) ∨
    (∃ u, lsh (dd A B) K (se A B) (0, 0) = some u ∧ lsh (dd B A) K (se B A) (0, 0) = none ∧ lsh (dd A B) K (sx A B) (0, 0) = some u) ∨
    (∃ v, lsh (dd A B) K (se A B) (0, 0) = none ∧ lsh (dd B A) K (se B A) (0, 0) = some v ∧ lsh (dd A B) K (sx A B) (0, 0) = some v) ∨
    (lsh (dd A B) K (se A B) (0, 0) = none ∧ lsh (dd B A) K (se B A) (0, 0) = none ∧ lsh (dd A B) K (sx A B) (0, 0) = none) := by
  cases h1 : lsh (dd A B) K (se A B) (0, 0) with
  | some u =>
    have L1 := lsh_is h1
    cases h2 : lsh (dd B A) K (se B A) (0, 0) with
    | some v =>
      have L2 := lsh_is h2
      by_cases q : sle v u
      · refine .inr (.inl ⟨u, v, rfl, rfl, q, lsh_some ⟨L2.1, (sx_se A B v).2 (.inr L2.2.1), fun x hx hs => ?_⟩⟩)
        rcases (sx_se A B x).1 hs with z | z
        · exact sle_trans q (L1.2.2 x hx z)
        · exact L2.2.2 x hx z
      · have q' : sle u v := (sle_total u v).resolve_right q
        refine .inl ⟨u, v, rfl, rfl, q, lsh_some ⟨L1.1, (sx_se A B u).2 (.inl L1.2.1), fun x hx hs => ?_⟩⟩
        rcases (sx_se A B x).1 hs with z | z
        · exact L1.2.2 x hx z
        · exact sle_trans q' (L2.2.2 x hx z)
    | none =>
      refine .inr (.inr (.inl ⟨u, rfl, rfl, lsh_some ⟨L1.1, (sx_se A B u).2 (.inl L1.2.1), fun x hx hs => ?_⟩⟩))
      rcases (sx_se A B x).1 hs with z | z
      · exact L1.2.2 x hx z
      · rw [lsh_no h2 x hx] at z; cases z
  | none =>
    cases h2 : lsh (dd B A) K (se B A) (0, 0) with
    | some v =>
      have L2 := lsh_is h2
      refine .inr (.inr (.inr (.inl ⟨v, rfl, rfl, lsh_some ⟨L2.1, (sx_se A B v).2 (.inr L2.2.1), fun x hx hs => ?_⟩⟩)))
      rcases (sx_se A B x).1 hs with z | z
      · rw [lsh_no h1 x hx] at z; cases z
      · exact L2.2.2 x hx z
    | none =>
      refine .inr (.inr (.inr (.inr ⟨rfl, rfl, lsh_none (fun x hx => ?_)⟩)))
      cases q : sx A B (wrun (dd A B) (0, 0) x) with
      | false => rfl
      | true =>
        rcases (sx_se A B x).1 q with z | z
        · rw [lsh_no h1 x hx] at z; cases z
        · rw [lsh_no h2 x hx] at z; cases z
/-- What the calls answer, all together. -/
def Tg (sm on tw df fi sc : Bool) (d u v : ByteArray) (r : Int) : Prop :=
  (fi = true ∧ sc = true ∧ df = true ∧ sm = false ∧ on = false ∧ tw = false ∧ r < 0 ∧ d = u) ∨ (fi = true ∧ sc = true ∧ df = true ∧ sm = false ∧ on = false ∧ tw = false ∧ ¬ r < 0 ∧ d = v) ∨ (fi = true ∧ sc = false ∧ df = true ∧ sm = false ∧ on = false ∧ tw = true ∧ d = u) ∨ (fi = false ∧ sc = true ∧ df = true ∧ sm = false ∧ on = true ∧ tw = false ∧ d = v) ∨ (fi = false ∧ sc = false ∧ df = false ∧ sm = true ∧ on = true ∧ tw = true ∧ d = ByteArray.empty)
theorem tg_is {A B : Aut} (G : Good A) (H : Good B) (hk : A.k = B.k) : Tg (eqB A B (sx A B)) (eqB A B (se A B)) (eqB B A (se B A)) (apF (eqO A B (sx A B))) (apF (eqO A B (se A B))) (apF (eqO B A (se B A))) (apS (eqO A B (sx A B))) (apS (eqO A B (se A B))) (apS (eqO B A (se B A))) (ord (apS (eqO A B (se A B))) (apS (eqO B A (se B A)))) := by
  have e1 := ckE_ok G H hk
  have e2 := ckE_ok H G hk.symm
  have o1 : ∀ sh, eqO A B sh = lsh (dd A B) A.k.toNat sh (0, 0) := fun sh => by unfold eqO; rw [if_pos e1]
  have o2 : ∀ sh, eqO B A sh = lsh (dd B A) A.k.toNat sh (0, 0) := fun sh => by unfold eqO; rw [if_pos e2, hk]
  have hk1 := G.k1
  have hk8 := G.k8
  have ow : ∀ u v, Lk A.k.toNat u → Lk A.k.toNat v → (ord (wB u) (wB v) < 0 ↔ ¬ sle v u) := fun u v hu hv => by
    rw [ord_sle (wB_lts hk1 hk8 hu).1 (wB_lts hk1 hk8 hv).1, lets_wB (by omega) hu, lets_wB (by omega) hv]
  unfold Tg eqB
  rw [e1, e2, o1, o1, o2]
  rcases tg A B A.k.toNat with ⟨u, v, q1, q2, q3, q4⟩ | ⟨u, v, q1, q2, q3, q4⟩ | ⟨u, q1, q2, q4⟩ | ⟨v, q1, q2, q4⟩ | ⟨q1, q2, q4⟩
  · rw [q1, q2, q4]
    exact .inl ⟨rfl, rfl, rfl, rfl, rfl, rfl, (ow u v (lsh_is q1).1 (lsh_is q2).1).2 q3, rfl⟩
  · rw [q1, q2, q4]
    exact .inr (.inl ⟨rfl, rfl, rfl, rfl, rfl, rfl, fun z => (ow u v (lsh_is q1).1 (lsh_is q2).1).1 z q3, rfl⟩)
  · rw [q1, q2, q4]
    exact .inr (.inr (.inl ⟨rfl, rfl, rfl, rfl, rfl, rfl, rfl⟩))
  · rw [q1, q2, q4]
    exact .inr (.inr (.inr (.inl ⟨rfl, rfl, rfl, rfl, rfl, rfl, rfl⟩)))
  · rw [q1, q2, q4]
    exact .inr (.inr (.inr (.inr ⟨rfl, rfl, rfl, rfl, rfl, rfl, rfl⟩)))
end Go.Proofs.Ytceoceecgekkjaa
