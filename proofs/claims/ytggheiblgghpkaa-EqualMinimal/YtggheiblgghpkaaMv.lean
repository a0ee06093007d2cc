/- minim: Is. -/
import Derived.Test.YtggheiblgghpkaaMu
import Derived.Test.YtggheiblgghpkaaMm
namespace Go.Proofs.Ytggheiblgghpkaa
open Go Go.RowKit Go.Lib
set_option linter.unusedVariables false

theorem mnA_len (A : Aut) : (mnA A).nx.length ≤ 32768 ∧ (mnA A).ac.length ≤ 4096 := by
  unfold mnA
  split
  · rename_i hc
    have G := chkA_good hc
    unfold ioA
    split
    · rename_i m n hb
      obtain ⟨b1, b2⟩ := bfs_sure ⟨G.kn.1, G.kn.2.1⟩ hb
      have h1 := b1.most
      have h2 := Nat.mul_le_mul h1 G.kn.2.1
      simp only [List.length_map]
      omega
    · simp [zAut]
  · simp [zAut]
/-- What Is answers. -/
noncomputable def isV (A : Aut) : Bool := decide (chkA A = 0) && (decide ((mnA A).nx = A.nx) && decide ((mnA A).ac = A.ac))

end Go.Proofs.Ytggheiblgghpkaa
