/- Lists of lists that a call told, with room behind the list. -/
import Derived.Test.YtfdhaknecjcjoaaGreatDoorPNa
namespace Go.Proofs.YtfdhaknecjcjoaaGreatDoor
open Go Go.RowKit

/-- What a call told: a list of lists, each in memory of its own, all of it made since 'base'; the list may have room. -/
structure Told3 (w : World) (base : Nat) (v : Value) (vs : List Value) (ps : List (List Nd)) : Prop where
 list : w.ownsRow base 22 1 v ps.length vs
 rows:∀ j,j<ps.length→w.ownsRow base 51 2 (vs.getD j (.slice none 0 0)) (ps.getD j []).length (ndC (ps.getD j []))
 apart:∀ j j',j<ps.length→j'<ps.length→j≠j'→∀ b,(vs.getD j (.slice none 0 0)).ownBlock=some b→(vs.getD j' (.slice none 0 0)).ownBlock≠some b
theorem Told3.kept {w w':World} {base:Nat} {v:Value} {vs:List Value} {ps:List (List Nd)} (h:Told3 w base v vs ps) (hk:∀ k,base≤k→k<w.heap.size→w'.heap[k]?=w.heap[k]?):Told3 w' base v vs ps :=
 ⟨own_of_heap h.list (fun b hb=>hk b (h.list.lt b hb).1 (h.list.lt b hb).2),fun j hj=>own_of_heap (h.rows j hj) (fun b hb=>hk b ((h.rows j hj).lt b hb).1 ((h.rows j hj).lt b hb).2),h.apart⟩
theorem Told3.stay {w w':World} {base:Nat} {v:Value} {vs:List Value} {ps:List (List Nd)} (h:Told3 w base v vs ps) (hb:Below w.heap.size w w'):Told3 w' base v vs ps:=h.kept fun k _ hk=>hb.block k hk
theorem Told3.mono {w : World} {base base' : Nat} {v : Value} {vs : List Value} {ps : List (List Nd)} (h : Told3 w base v vs ps) (hb : base' ≤ base) : Told3 w base' v vs ps :=
 ⟨own_mono h.list hb,fun j hj=>own_mono (h.rows j hj) hb,h.apart⟩
theorem Told3.lenv {w:World} {base:Nat} {v:Value} {vs:List Value} {ps:List (List Nd)} (h:Told3 w base v vs ps):vs.length=ps.length:=by have:=h.list.1;omega
theorem Told3.shape {w:World} {base:Nat} {v:Value} {vs:List Value} {ps:List (List Nd)} (h:Told3 w base v vs ps):∃ a c,v=.slice a ps.length c:=by
 obtain ⟨_,h⟩:=h.list
 rcases h with ⟨rfl,h0⟩ | ⟨g,cap,cur,rfl,_⟩
 ·exact ⟨none,0,by rw [h0]⟩
 ·exact ⟨_,_,rfl⟩
theorem Told3.nil (w:World) (base:Nat):Told3 w base (.slice none 0 0) [] []:=⟨World.ownsRow_nil _ _ _ _,fun j hj=>by simp at hj,fun j j' hj=>by simp at hj⟩
theorem Told3.reads {w:World} {base:Nat} {v:Value} {vs:List Value} {ps:List (List Nd)} (h:Told3 w base v vs ps):PReads w v ps:=by
 have hv:=h.lenv
 obtain ⟨_,hh⟩:=h.list
 rcases hh with ⟨rfl,h0⟩ | ⟨g,cap,cur,rfl,_⟩
 ·obtain rfl:=List.eq_nil_of_length_eq_zero h0
  exact ⟨none,0,rfl,fun i hi=>by simp at hi⟩
 ·refine ⟨_,cap,rfl,fun i hi=>⟨g,0,vs.getD i (.slice none 0 0),rfl,(h.list.lt g rfl).2,?_,own_nreads (h.rows i hi)⟩⟩
  have:=h.list.cells (g:=g) rfl i (vs.getD i (.slice none 0 0)) (by rw [List.getD_eq_getElem?_getD,List.getElem?_eq_getElem (by omega)];rfl)
  rw [Addr.add_lit] at this
  exact this
/-- One list more, which lies where nothing of it lay. -/
theorem Told3.more {w w1 w2:World} {base:Nat} {v v' u:Value} {vs:List Value} {ps:List (List Nd)} {p:List Nd} (h:Told3 w base v vs ps) (hu:w.ownsRow base 51 2 u p.length (ndC p)) (hne:∀ j,j<ps.length→∀ b,(vs.getD j (.slice none 0 0)).ownBlock=some b→u.ownBlock≠some b)
  (h1:Below w.heap.size w w1) (ho:w2.ownsRow base 22 1 v' (ps.length+1) (vs ++ [u])) (hg:w1.grownBy w2 v.ownBlock):Told3 w2 base v' (vs ++ [u]) (ps ++ [p]):=by
 have hl:=h.lenv
 have keep:∀ {x:Value} {n:Nat} {xs:List Value},w.ownsRow base 51 2 x n xs→w2.ownsRow base 51 2 x n xs:=fun hx =>
  own_of_heap hx (fun b hb=>(hg.block b (Nat.lt_of_lt_of_le (hx.lt b hb).2 h1.size) (fun e=>own_apart hx h.list (by decide) b hb e.symm)).trans (h1.block b (hx.lt b hb).2))
 have g1:∀ j,j<ps.length→(vs ++ [u]).getD j (.slice none 0 0)=vs.getD j (.slice none 0 0)∧(ps ++ [p]).getD j []=ps.getD j []:=fun j hj=>by
  simp only [List.getD_eq_getElem?_getD]
  rw [List.getElem?_append_left (by omega),List.getElem?_append_left hj]
  exact ⟨rfl,rfl⟩
 have g2:(vs ++ [u]).getD ps.length (.slice none 0 0)=u∧(ps ++ [p]).getD ps.length []=p:=by
  simp only [List.getD_eq_getElem?_getD]
  rw [List.getElem?_append_right (by omega),List.getElem?_append_right (Nat.le_refl _),hl,Nat.sub_self]
  exact ⟨rfl,rfl⟩
 refine ⟨by rw [List.length_append];exact ho,fun j hj=>?_,fun j j' hj hj' hn b hb hb'=>?_⟩
 ·rw [List.length_append,List.length_singleton] at hj
  by_cases e : j < ps.length
  ·rw [(g1 j e).1,(g1 j e).2];exact keep (h.rows j e)
  ·obtain rfl:j=ps.length:=by omega
   rw [g2.1,g2.2];exact keep hu
 ·rw [List.length_append,List.length_singleton] at hj hj'
  by_cases e : j < ps.length
  ·rw [(g1 j e).1] at hb
   by_cases e' : j' < ps.length
   ·rw [(g1 j' e').1] at hb'
    exact h.apart j j' e e' hn b hb hb'
   ·obtain rfl:j'=ps.length:=by omega
    rw [g2.1] at hb'
    exact hne j e b hb hb'
  ·obtain rfl:j=ps.length:=by omega
   rw [g2.1] at hb
   have e':j'<ps.length:=by omega
   rw [(g1 j' e').1] at hb'
   exact hne j' e' b hb' hb
theorem Told3.old {w:World} {base:Nat} {v:Value} {vs:List Value} {ps:List (List Nd)} (h:Told3 w base v vs ps):∀ j,j<ps.length→∀ b,(vs.getD j (.slice none 0 0)).ownBlock=some b→b<w.heap.size:=fun j hj b hb=>((h.rows j hj).lt b hb).2
end Go.Proofs.YtfdhaknecjcjoaaGreatDoor
