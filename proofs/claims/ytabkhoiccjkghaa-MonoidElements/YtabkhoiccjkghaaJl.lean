/- Contracts of auto.Ahead, Reach and Not. -/
import Derived.Test.YtabkhoiccjkghaaJk
namespace Go.Proofs.Ytabkhoiccjkghaa
open Go Go.RowKit Go.Lib Go.Maps
set_option linter.unusedVariables false

/-- The answer's block is written. -/
theorem res_done {base b : Nat} {w0 w1 : World} {B : Aut} {x0 x1 x2 : Value} (hres : w1.heap[b]? = some (.cells #[.int .i64 0, .slice none 0 0, .slice none 0 0] 25 (0, 0))) (hao : AO base w1 (.agg #[x0, x1, x2]) B) (hb : Below base w0 w1) (hbb : base ≤ b) :
    (((w1.setCell ⟨b, 0, none⟩ x0).setCell ⟨b, 1, none⟩ x1).setCell ⟨b, 2, none⟩ x2).heap[b]? = some (.cells #[x0, x1, x2] 25 (0, 0)) ∧
    AO base (((w1.setCell ⟨b, 0, none⟩ x0).setCell ⟨b, 1, none⟩ x1).setCell ⟨b, 2, none⟩ x2) (.agg #[x0, x1, x2]) B ∧ Below base w0 (((w1.setCell ⟨b, 0, none⟩ x0).setCell ⟨b, 1, none⟩ x1).setCell ⟨b, 2, none⟩ x2) := by
  refine ⟨heap_set (heap_set (heap_set hres)), hao.keep (fun c cur e hne hc => ?_), ((hb.setCell (p := ⟨b, 0, none⟩) hbb _).setCell (p := ⟨b, 1, none⟩) hbb _).setCell (p := ⟨b, 2, none⟩) hbb _⟩
  have hne2 : c ≠ b := fun e2 => by
    rw [e2, hres] at hc
    injection hc with hc
    injection hc with _ hc _
    exact hne hc.symm
  rw [heap_set_other hne2, heap_set_other hne2, heap_set_other hne2]
/-- A block's cells and all below stay where another block is written. -/
theorem sb_set {W w1 : World} {b c j : Nat} {arr : Array Value} {x : Value} (h : SB W b arr w1) (hbc : b ≠ c) (hc : W.heap.size ≤ c) : SB W b arr (w1.setCell ⟨c, j, none⟩ x) := by
  refine ⟨fun o => ?_, h.2.setCell (p := ⟨c, j, none⟩) hc x⟩
  rw [World.cell?_of_block (heap_set_other hbc)]
  exact h.1 o
/-- What Ahead answers. -/
noncomputable def ahA (A : Aut) (b : ByteArray) : Aut := if cwE A b = 0 then rch A (goN A 0 (lets b)) (aN A) else zAut
noncomputable def notA (A : Aut) : Aut := if chkA A = 0 then rch A 0 (fun s => !aN A s) else zAut

noncomputable def reA (A : Aut) : Aut := if chkA A = 0 then rch A 0 (aN A) else zAut
theorem chk_emptyJ {k : Int} (h1 : 1 ≤ k) (h8 : k ≤ 8) : chk k ByteArray.empty = 0 := chk_ok k _ h1 h8 (fun i hi => by simp at hi)
theorem cwE_empty (A : Aut) : cwE A ByteArray.empty = chkA A := by
  unfold cwE
  rcases chkA_cases A with ⟨hG, hc⟩ | ⟨hG, hc⟩
  · rw [if_pos hc, hc, chk_emptyJ hG.k1 hG.k8]
  · rw [if_neg (by rw [hc]; decide), hc]
theorem ahA_empty (A : Aut) : ahA A ByteArray.empty = reA A := by
  unfold ahA reA
  rw [cwE_empty]
  rfl

end Go.Proofs.Ytabkhoiccjkghaa
