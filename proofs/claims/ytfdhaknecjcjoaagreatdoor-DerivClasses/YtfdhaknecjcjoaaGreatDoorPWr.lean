/- The stack of trees that a list's nodes make (shared by the texts of norm and of match). -/
import Derived.Test.YtfdhaknecjcjoaaGreatDoorPA
namespace Go.Proofs.YtfdhaknecjcjoaaGreatDoor
open Go Go.RowKit
set_option linter.unusedVariables false

/-! ### The stack of trees, the top first -/
def stepR (n : Nd) (s : List Tr) : Option (List Tr) :=
 if arity n.1 = 0 then some (.zero n :: s) else if arity n.1 = 1 then (match s with
  | x :: s=>some (.one n x :: s)
  | _=>none) else (match s with
  | y :: x :: s=>some (.two n x y :: s)
  | _=>none)
def runR : List Nd → List Tr → Option (List Tr)
 | [],s=>some s
 | n :: l,s=>(stepR n s).bind (runR l)
theorem run_flat:∀ (t:Tr),t.ok→∀ (l:List Nd) (s:List Tr),runR (t.flat ++ l) s=runR l (t :: s)
 | .zero n,h,l,s=>by
  simp only [Tr.flat,List.cons_append,List.nil_append,runR]
  rw [show stepR n s=some (.zero n :: s) by unfold stepR;rw [if_pos h.2]]
  rfl
 | .one n a,h,l,s=>by
  rw [Tr.flat,List.append_assoc,run_flat a h.2.2]
  simp only [List.cons_append,List.nil_append,runR]
  rw [show stepR n (a :: s)=some (.one n a :: s) by unfold stepR;rw [if_neg (by rw [h.2.1];decide),if_pos h.2.1]]
  rfl
 | .two n a b,h,l,s=>by
  rw [Tr.flat,List.append_assoc,List.append_assoc,run_flat a h.2.2.1,run_flat b h.2.2.2]
  simp only [List.cons_append,List.nil_append,runR]
  rw [show stepR n (b :: a :: s)=some (.two n a b :: s) by unfold stepR;rw [if_neg (by rw [h.2.1];decide),if_neg (by rw [h.2.1];decide)]]
  rfl
end Go.Proofs.YtfdhaknecjcjoaaGreatDoor
