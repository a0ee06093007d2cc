/- Contract of auto.Least. -/
import Derived.Test.YtabkhoiccjkghaaJo
namespace Go.Proofs.Ytabkhoiccjkghaa
open Go Go.RowKit Go.Lib
set_option linter.unusedVariables false

/-- What Least answers. -/
noncomputable def lsN (A : Aut) : List Nat := (reA A).nx.map Int.toNat
noncomputable def lsF (A : Aut) : Bool := decide (true ∈ (reA A).ac)
noncomputable def lsW (A : Aut) : ByteArray := if true ∈ (reA A).ac then ⟨(lB (lw A.k.toNat (lsN A) ((reA A).ac.idxOf true))).toArray⟩ else ByteArray.empty
/-- What is sure of what is met. -/
structure Rch (A : Aut) (s : Nat) (acc : Nat → Bool) (m n : List Nat) : Prop where
  bfs : bfs (dN A) A.k.toNat s = some (m, n)
  is : rch A s acc = ⟨A.k, n.map fun (x : Nat) => (x : Int), m.map acc⟩
  bi : BI (dN A) A.k.toNat s m n
  len : n.length = m.length * A.k.toNat
  lt : ∀ x ∈ m, x < A.ac.length
  nlt : ∀ x ∈ n, x < m.length
  m1 : 1 ≤ m.length
theorem rch_of {A : Aut} (G : Good A) {s : Nat} (hs : s < A.ac.length) (acc : Nat → Bool) : ∃ m n, Rch A s acc m n := by
  obtain ⟨m, n, hb, hm⟩ := bfs_some G hs
  obtain ⟨hbi, hl⟩ := bfs_sure ⟨G.kn.1, G.kn.2.1⟩ hb
  refine ⟨m, n, hb, by unfold rch; rw [hb], hbi, hl, hm, fun x hx => ?_, ?_⟩
  · obtain ⟨p, hp⟩ := List.mem_iff_getElem?.1 hx
    obtain ⟨t, _, ht⟩ := hbi.step p x hp
    exact (List.getElem?_eq_some_iff.1 ht).1
  · have := (List.getElem?_eq_some_iff.1 hbi.first).1
    omega
theorem Rch.nbound {A : Aut} {s : Nat} {acc : Nat → Bool} {m n : List Nat} (h : Rch A s acc m n) (G : Good A) : n.length ≤ 32768 ∧ 0 < n.length ∧ m.length ≤ 4096 := by
  have h1 := h.len
  have h2 := h.bi.most
  have h3 := Nat.mul_le_mul h2 G.kn.2.1
  have h4 := Nat.mul_le_mul h.m1 G.kn.1
  omega
theorem toNat_cast (n : List Nat) : (n.map fun (x : Nat) => (x : Int)).map Int.toNat = n := by
  rw [List.map_map]
  have : (Int.toNat ∘ fun (x : Nat) => (x : Int)) = id := by funext x; simp
  rw [this, List.map_id]
theorem ret_three {a b c x y z : Value} (h1 : a = x) (h2 : b = y) (h3 : c = z) : Ending.returned (.tuple #[a, b, c]) = .returned (.tuple #[x, y, z]) := by rw [h1, h2, h3]

end Go.Proofs.Ytabkhoiccjkghaa
