/- Pure: products of what was made; de Morgan. -/
import Derived.Test.YtbfoamidnekoaabQu
import Derived.Test.YtbfoamidnekoaabQr
namespace Go.Proofs.Ytbfoamidnekoaab
set_option linter.unusedVariables false
attribute [-instance] instBEqProd

theorem twE_good {A B : Aut} (h1 : Good A) (h2 : Good B) (hk : A.k = B.k) : twE A B = 0 := by
  unfold twE
  rw [if_pos (chkA_ok h1), if_pos (chkA_ok h2), if_pos hk]
theorem getD_at {S : Type} {l : List S} {i : Nat} {x s : S} (h : l[i]? = some s) : l.getD i x = s := by
  rw [List.getD_eq_getElem?_getD, h]; rfl
/-- Where letters lead in what was made, by what was met. -/
theorem oA_step {S : Type} [DecidableEq S] {d : S → Nat → S} {k : Nat} (hk : 1 ≤ k ∧ k ≤ 8) {x : S} {M : List S} {N : List Nat} (h : bfs d k x = some (M, N)) (l : List Bool) {i c : Nat} (hi : i < M.length) (hc : c < k) : dN (oA k N l) i c < M.length ∧ M.getD (dN (oA k N l) i c) x = d (M.getD i x) c := by
  obtain ⟨hB, hl⟩ := bfs_sure hk h
  obtain ⟨s, a, b⟩ := hB.at hl hi hc
  rw [oA_d, getD_at a, getD_at b]
  exact ⟨(List.getElem?_eq_some_iff.1 b).1, rfl⟩
theorem met_inj {S : Type} {d : S → Nat → S} {k : Nat} {x : S} {M : List S} {N : List Nat} (hB : BI d k x M N) {a b : Nat} (ha : a < M.length) (hb : b < M.length) (e : M.getD a x = M.getD b x) : a = b := by
  rw [List.getD_eq_getElem?_getD, List.getD_eq_getElem?_getD, List.getElem?_eq_getElem ha, List.getElem?_eq_getElem hb] at e
  exact (List.getElem?_inj ha hB.nodup).1 (by rw [List.getElem?_eq_getElem ha, List.getElem?_eq_getElem hb]; exact congrArg some e)
theorem met_first {S : Type} {d : S → Nat → S} {k : Nat} {x : S} {M : List S} {N : List Nat} (hB : BI d k x M N) : 0 < M.length ∧ M.getD 0 x = x := ⟨(List.getElem?_eq_some_iff.1 hB.first).1, getD_at hB.first⟩
theorem oA_a {k : Int} {N : List Nat} {M : List Nat} {acc : Nat → Bool} {i : Nat} (hi : i < M.length) : aN (oA k N (M.map acc)) i = acc (M.getD i 0) := by
  unfold aN oA
  simp [List.getD_eq_getElem?_getD, List.getElem?_map, List.getElem?_eq_getElem hi]
theorem demorgan {A B : Aut} (G1 : Good A) (G2 : Good B) (hk : A.k = B.k) : (prE A B = 0 ∨ prE A B = 81) ∧ prE (notA A) (notA B) = prE A B ∧
    (prE A B = 0 → notA (prA (fun x z => x && z) A B) = prA (fun x z => x || z) (notA A) (notA B) ∧ reA (prA (fun x z => x && z) A B) = prA (fun x z => x && z) A B ∧ Good (prA (fun x z => x && z) A B)) := by
  have k1 := G1.kn
  have K : 1 ≤ A.k.toNat ∧ A.k.toNat ≤ 8 := ⟨k1.1, k1.2.1⟩
  obtain ⟨MA, NA, hA, _, eA⟩ := rch_oA G1 (show 0 < A.ac.length from G1.n1) (fun s => !aN A s)
  obtain ⟨MB, NB, hB, _, eB⟩ := rch_oA G2 (show 0 < B.ac.length from G2.n1) (fun s => !aN B s)
  have e1 : notA A = oA A.k.toNat NA (MA.map fun s => !aN A s) := by unfold notA; rw [if_pos (chkA_ok G1), eA]
  have e2 : notA B = oA A.k.toNat NB (MB.map fun s => !aN B s) := by unfold notA; rw [if_pos (chkA_ok G2), eB, hk]
  rw [← hk] at hB
  obtain ⟨bA, lA⟩ := bfs_sure K hA
  obtain ⟨bB, lB⟩ := bfs_sure K hB
  have GA : Good (notA A) := (good_re G1).2.2.2
  have GB : Good (notA B) := (good_re G2).2.2.2
  have kA : (notA A).k.toNat = A.k.toNat := by rw [e1]; show ((A.k.toNat : Nat) : Int).toNat = _; exact Int.toNat_natCast _
  have kB : (notA A).k = (notA B).k := by rw [e1, e2]; rfl
  have hm := bfs_map (d := dP A B) (e := dP (notA A) (notA B)) K.1 (fun s : Nat × Nat => (MA.getD s.1 0, MB.getD s.2 0)) (fun s => s.1 < MA.length ∧ s.2 < MB.length)
    (fun t c ht hc => by
      rw [e1, e2]
      exact ⟨(oA_step K hA _ ht.1 hc).1, (oA_step K hB _ ht.2 hc).1⟩)
    (fun a b ha hb e => by
      simp only [Prod.mk.injEq] at e
      exact Prod.ext (met_inj bA ha.1 hb.1 e.1) (met_inj bB ha.2 hb.2 e.2))
    (fun t c ht hc => by
      rw [e1, e2]
      exact Prod.ext (oA_step K hA _ ht.1 hc).2 (oA_step K hB _ ht.2 hc).2)
    (x := (0, 0)) (y := (0, 0)) ⟨(met_first bA).1, (met_first bB).1⟩ (by rw [(met_first bA).2, (met_first bB).2])
  have t1 := twE_good G1 G2 hk
  have t2 := twE_good GA GB kB
  unfold prE prA
  rw [if_pos t1, if_pos t2, if_pos t1, if_pos t2, kA]
  cases hb : bfs (dP (notA A) (notA B)) A.k.toNat (0, 0) with
  | none =>
    rw [hb] at hm
    rw [hm]
    exact ⟨.inr rfl, rfl, fun h => by cases h⟩
  | some r =>
    obtain ⟨M, N⟩ := r
    rw [hb] at hm
    simp only [Option.map_some] at hm
    rw [hm]
    refine ⟨.inl rfl, rfl, fun _ => ?_⟩
    simp only
    have hall := bgo_all (e := dP (notA A) (notA B)) K.1 (fun s => s.1 < MA.length ∧ s.2 < MB.length) (fun t c ht hc => by
      rw [e1, e2]
      exact ⟨(oA_step K hA _ ht.1 hc).1, (oA_step K hB _ ht.2 hc).1⟩) 32768 [(0, 0)] [] M N (fun t q => by simp at q; rw [q]; exact ⟨(met_first bA).1, (met_first bB).1⟩) hb
    obtain ⟨Kn, hKn⟩ : ∃ Kn : Nat, A.k.toNat = Kn := ⟨_, rfl⟩
    have kI : A.k = (Kn : Int) := by rw [← hKn, k1.2.2]
    rw [hKn] at hm K e1 e2
    have fA : ∀ l, (⟨A.k, N.map fun (x : Nat) => (x : Int), l⟩ : Aut) = oA (Kn : Int) N l := fun l => by unfold oA; rw [kI]
    rw [show (notA A).k = A.k from by rw [e1, kI]; rfl, fA, fA]
    have hl : ((M.map fun s : Nat × Nat => (MA.getD s.1 0, MB.getD s.2 0)).map fun s : Nat × Nat => aN A s.1 && aN B s.2).length = (M.map fun s : Nat × Nat => (MA.getD s.1 0, MB.getD s.2 0)).length := by simp
    refine ⟨?_, ord_re K hm hl, ord_good K hm hl⟩
    rw [ord_not K hm hl]
    congr 1
    rw [List.map_map, List.map_map]
    refine List.map_congr_left fun s hs => ?_
    obtain ⟨q1, q2⟩ := hall s hs
    simp only [Function.comp]
    rw [e1, e2, oA_a q1, oA_a q2]
    cases aN A (MA.getD s.1 0) <;> cases aN B (MB.getD s.2 0) <;> rfl
end Go.Proofs.Ytbfoamidnekoaab
