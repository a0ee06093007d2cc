/- What normal forms and derivatives say (stage 7, pure). -/
import Derived.Test.YtfdhaknecjcjoaaGreatDoorPXa
import Derived.Test.YtfdhaknecjcjoaaGreatDoorPGa
namespace Go.Proofs.YtfdhaknecjcjoaaGreatDoor
open Go Go.RowKit
set_option linter.unusedVariables false

/-- What members say together. -/
def LgK (k:Int) (l:List Tr) (u:List Int):Prop:=if k=5 then ∃ m ∈ l,Lg m u else ∀ m ∈ l,Lg m u
/-- One language behind another. -/
def LCat (P Q:List Int→Prop) (u:List Int):Prop:=∃ a b,u=a ++ b∧P a∧Q b
/-- The derivative of a normal form by a letter. -/
noncomputable def drv (c : Int) : Tr → Tr
 | .zero n=>if n.1=4∨(n.1=3∧n.2=c) then tEmpty else tNone
 | .one n a=>if n.1=8 then RC (drv c a) (.one n a) else RN (drv c a)
 | .two n a b=>if n.1=7 then (if @decide (Lg a []) (Classical.propDecidable _)=true then R2 5 (RC (drv c a) b) (drv c b) else RC (drv c a) b) else R2 n.1 (drv c a) (drv c b)
theorem drv_ok (c:Int):∀ {t:Tr},t.ok→NF t→(drv c t).ok∧NF (drv c t)
 | .zero n,h,_=>by
  unfold drv
  split
  ·exact ⟨tEmpty_ok,trivial⟩
  ·exact ⟨tNone_ok,trivial⟩
 | .one n a,h,hn=>by
  have ih:=drv_ok c (t:=a) h.2.2 hn.1
  unfold drv
  split
  ·exact RC_ok ih.1 ih.2 h hn
  ·exact RN_ok ih.1 ih.2
 | .two n a b,h,hn=>by
  have iha:=drv_ok c (t:=a) h.2.2.1 hn.1
  have ihb:=drv_ok c (t:=b) h.2.2.2 hn.2.1
  have hc:=ar2 h.2.1
  have h1:=RC_ok iha.1 iha.2 h.2.2.2 hn.2.1
  unfold drv
  split
  ·split
   ·exact R2_ok (.inl rfl) h1.1 h1.2 ihb.1 ihb.2
   ·exact h1
  ·exact R2_ok (by omega) iha.1 iha.2 ihb.1 ihb.2
end Go.Proofs.YtfdhaknecjcjoaaGreatDoor
