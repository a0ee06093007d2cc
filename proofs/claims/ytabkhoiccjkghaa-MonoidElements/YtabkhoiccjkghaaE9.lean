/- Pure: what the search for the elements knows, ahead of letter c of element i. -/
import Derived.Test.YtabkhoiccjkghaaE1
namespace Go.Proofs.Ytabkhoiccjkghaa
set_option linter.unusedVariables false
attribute [-instance] List.instBEq instBEqProd

/-- How each element is met first. -/
structure WyO (K : Nat) (M : List (List Nat)) (W : List (Nat × Nat)) (N : List Nat) : Prop where
  len : W.length = M.length
  zero : W[0]? = some (0, 0)
  at' : ∀ j, 0 < j → j < M.length → W[j]? = some (N.idxOf j / K, N.idxOf j % K)
structure MSs (A : Aut) (i c : Nat) (M : List (List Nat)) (W : List (Nat × Nat)) (N : List Nat) (f : Nat) : Prop where
  bi : BI (mD A) A.k.toNat (stl A.ac.length) M N
  most : M.length ≤ 512
  go : mgo (mD A) A.k.toNat f M N = mEl A
  fu : f + N.length = 4096
  nl : N.length = i * A.k.toNat + c
  wy : WyO A.k.toNat M W N
theorem MSs.start (A : Aut) : MSs A 0 0 [stl A.ac.length] [(0, 0)] [] 4096 := ⟨BI.start _ _ _, by simp, rfl, rfl, by simp, rfl, rfl, fun j h1 h2 => by simp at h2; omega⟩
theorem MSs.fuel {A : Aut} (G : Good A) {i c : Nat} {M : List (List Nat)} {W : List (Nat × Nat)} {N : List Nat} {f : Nat} (h : MSs A i c M W N f) (hi : i < M.length) (hc : c < A.k.toNat) : ∃ f', f = f' + 1 := by
  cases f with
  | succ f => exact ⟨f, rfl⟩
  | zero =>
    have h1 := h.fu
    have h2 := h.nl
    have h3 := h.most
    have hk := G.ks
    have h4 := Nat.mul_le_mul_right A.k.toNat (show i + 1 ≤ 512 by omega)
    have h5 := Nat.mul_le_mul_left 512 hk.2.1
    rw [Nat.add_mul] at h4
    omega
theorem BI.idx {d : List Nat → Nat → List Nat} {k : Nat} {x : List Nat} {M : List (List Nat)} {N : List Nat} (h : BI d k x M N) {j : Nat} (h0 : 0 < j) (hj : j < M.length) : j ∈ N := (h.fst j h0 hj).1
theorem BI.small {d : List Nat → Nat → List Nat} {k : Nat} {x : List Nat} {M : List (List Nat)} {N : List Nat} (h : BI d k x M N) {q i : Nat} (hq : N[q]? = some i) : i < M.length := by
  obtain ⟨_, _, hs⟩ := h.step q i hq
  exact (List.getElem?_eq_some_iff.1 hs).1
theorem idxOf_snoc {N : List Nat} {j x : Nat} (h : j ∈ N) : (N ++ [x]).idxOf j = N.idxOf j := by rw [List.idxOf_append, if_pos h]
theorem MSs.old {A : Aut} (G : Good A) {i c : Nat} {M : List (List Nat)} {W : List (Nat × Nat)} {N : List Nat} {f : Nat} {l : List Nat} (h : MSs A i c M W N f) (hl : M[i]? = some l) (hc : c < A.k.toNat) (hm : mD A l c ∈ M) : ∃ f', MSs A i (c + 1) M W (N ++ [M.idxOf (mD A l c)]) f' := by
  obtain ⟨f', rfl⟩ := h.fuel G (List.getElem?_eq_some_iff.1 hl).1 hc
  refine ⟨f', h.bi.old hc h.nl hl hm, h.most, ?_, by have := h.fu; simp; omega, by have := h.nl; simp; omega, h.wy.len, h.wy.zero, fun j h0 hj => ?_⟩
  · rw [← h.go, mgo_old hc h.nl hl hm]
  · rw [idxOf_snoc (h.bi.idx h0 hj)]
    exact h.wy.at' j h0 hj
theorem MSs.new {A : Aut} (G : Good A) {i c : Nat} {M : List (List Nat)} {W : List (Nat × Nat)} {N : List Nat} {f : Nat} {l : List Nat} (h : MSs A i c M W N f) (hl : M[i]? = some l) (hc : c < A.k.toNat) (hm : mD A l c ∉ M) (hf : M.length < 512) : ∃ f', MSs A i (c + 1) (M ++ [mD A l c]) (W ++ [(i, c)]) (N ++ [M.length]) f' := by
  obtain ⟨f', rfl⟩ := h.fuel G (List.getElem?_eq_some_iff.1 hl).1 hc
  refine ⟨f', h.bi.new hc h.nl hl hm (by omega), by simp; omega, ?_, by have := h.fu; simp; omega, by have := h.nl; simp; omega, by rw [List.length_append, List.length_append, h.wy.len]; rfl, ?_, fun j h0 hj => ?_⟩
  · rw [← h.go, mgo_new hc h.nl hl hm (by omega)]
  · exact getElem?_snoc_lt h.wy.zero
  · by_cases q : j < M.length
    · rw [idxOf_snoc (h.bi.idx h0 q)]
      exact getElem?_snoc_lt (h.wy.at' j h0 q)
    · have e : j = M.length := by simp at hj; omega
      subst e
      have hn : M.length ∉ N := fun q => by
        obtain ⟨p, hp⟩ := List.mem_iff_getElem?.1 q
        have := h.bi.small hp
        omega
      rw [List.idxOf_append, if_neg hn]
      simp only [List.idxOf_cons_self]
      rw [← h.wy.len, h.nl]
      have e1 : (i * A.k.toNat + c) / A.k.toNat = i := by rw [Nat.mul_comm, Nat.mul_add_div (by omega), Nat.div_eq_of_lt hc]; rfl
      have e2 : (i * A.k.toNat + c) % A.k.toNat = c := by rw [Nat.mul_comm, Nat.mul_add_mod, Nat.mod_eq_of_lt hc]
      simp [e1, e2]
theorem MSs.full {A : Aut} (G : Good A) {i c : Nat} {M : List (List Nat)} {W : List (Nat × Nat)} {N : List Nat} {f : Nat} {l : List Nat} (h : MSs A i c M W N f) (hl : M[i]? = some l) (hc : c < A.k.toNat) (hm : mD A l c ∉ M) (hf : 512 ≤ M.length) : mEl A = none := by
  obtain ⟨f', rfl⟩ := h.fuel G (List.getElem?_eq_some_iff.1 hl).1 hc
  rw [← h.go, mgo_full hc h.nl hl hm (by have := h.most; omega)]
theorem MSs.next {A : Aut} {i : Nat} {M : List (List Nat)} {W : List (Nat × Nat)} {N : List Nat} {f : Nat} (h : MSs A i A.k.toNat M W N f) : MSs A (i + 1) 0 M W N f := ⟨h.bi, h.most, h.go, h.fu, by rw [h.nl, Nat.add_mul]; omega, h.wy⟩
theorem MSs.done {A : Aut} {i : Nat} {M : List (List Nat)} {W : List (Nat × Nat)} {N : List Nat} {f : Nat} (h : MSs A i 0 M W N f) (hi : i = M.length) : mEl A = some (M, N) := by
  rw [← h.go]
  exact mgo_end (by rw [h.nl, hi]; omega)
theorem MSs.small {A : Aut} {i c : Nat} {M : List (List Nat)} {W : List (Nat × Nat)} {N : List Nat} {f : Nat} (h : MSs A i c M W N f) : N.length ≤ 4096 := by have := h.fu; omega
end Go.Proofs.Ytabkhoiccjkghaa
