/- What an expression says; rows of ends. The reader's memory: rows of sets, a stack of them, and spare ones; top, places. The reader's pop. The reader's push; the set of one number. The reader's push (printed by tools/push.py). The set of one number; a set is stored in a row. Stores into the stack's last row; the rows of None and Empty. The rows of Any and of a letter. The row of a letter. -/
import Derived.Test.YtfdhaknecjcjoaaGreatDoorPA
import Derived.Test.YtfdhaknecjcjoaaGreatDoorPWs
import Derived.Test.YtfdhaknecjcjoaaGreatDoorPD
import Derived.Deep.AppendLies
namespace Go.Proofs.YtfdhaknecjcjoaaGreatDoor
open Go Go.RowKit
set_option linter.unusedVariables false

/-- Words made of words that P has, none of them empty. -/
inductive StL (P : List Int → Prop) : List Int → Prop
 | nil : StL P []
 | cons (x y : List Int) : x ≠ [] → P x → StL P y → StL P (x ++ y)
/-- What a tree says. -/
def Lg : Tr → List Int → Prop
 | .zero n,u=>(n.1=2∧u=[])∨(n.1=3∧u=[n.2])∨(n.1=4∧u.length=1)
 | .one n a,u=>if n.1=8 then StL (Lg a) u else ¬ Lg a u
 | .two n a b,u=>if n.1=5 then Lg a u∨Lg b u else if n.1=6 then Lg a u∧Lg b u else ∃ x y,u=x ++ y∧Lg a x∧Lg b y
/-- A word's piece. -/
def sub (W:List Int) (p q:Nat):List Int:=(W.drop p).take (q - p)
theorem sub_len {W:List Int} {p q:Nat} (h1:p≤q) (h2:q≤W.length):(sub W p q).length=q - p:=by
 unfold sub;rw [List.length_take,List.length_drop];omega
theorem sub_self (W:List Int) (p:Nat):sub W p p=[]:=by simp [sub]
theorem sub_cat {W:List Int} {p m q:Nat} (h1:p≤m) (h2:m≤q):sub W p q=sub W p m ++ sub W m q:=by
 unfold sub
 have e1:W.drop m=(W.drop p).drop (m - p):=by rw [List.drop_drop];congr 1;omega
 rw [e1]
 generalize W.drop p = V
 have e2:q - p=(m - p)+(q - m):=by omega
 rw [e2,List.take_add]
theorem sub_one {W:List Int} {p:Nat} (h:p<W.length):sub W p (p+1)=[W.getD p 0]:=by
 unfold sub
 rw [show p+1 - p=1 by omega,List.getD_eq_getElem?_getD,List.getElem?_eq_getElem h]
 rw [List.drop_eq_getElem_cons h]
 rfl
theorem sub_nil {W:List Int} {p q:Nat} (h1:p≤q) (h2:q≤W.length):sub W p q=[]↔p=q:=by
 constructor
 ·intro e
  have:=sub_len h1 h2
  rw [e] at this
  simp at this
  omega
 ·rintro rfl;exact sub_self W p
/-- Pieces cut in two: at a place. -/
theorem sub_split {W:List Int} {p q:Nat} (h1:p≤q) (h2:q≤W.length) {x y:List Int} (e:sub W p q=x ++ y):∃ m,p≤m∧m≤q∧x=sub W p m∧y=sub W m q:=by
 have hl:=congrArg List.length e
 rw [sub_len h1 h2,List.length_append] at hl
 refine ⟨p+x.length,by omega,by omega,?_,?_⟩
 ·have e2:=sub_cat (W:=W) (p:=p) (m:=p+x.length) (q:=q) (by omega) (by omega)
  rw [e] at e2
  exact (List.append_inj e2 (by rw [sub_len (by omega) (by omega)];omega)).1
 ·have e2:=sub_cat (W:=W) (p:=p) (m:=p+x.length) (q:=q) (by omega) (by omega)
  rw [e] at e2
  exact (List.append_inj e2 (by rw [sub_len (by omega) (by omega)];omega)).2
/-- The ends, from a place on, of the words that P has. -/
def EndsOk (P:List Int→Prop) (W:List Int) (p:Nat) (N:Nat):Prop:=∀ q,N.testBit q=true↔p≤q∧q≤W.length∧P (sub W p q)
def RowOk (P:List Int→Prop) (W:List Int) (r:List Nat):Prop:=r.length=W.length+1∧∀ p,p≤W.length→EndsOk P W p (r.getD p 0)
theorem EndsOk.congr {P Q:List Int→Prop} {W:List Int} {p N:Nat} (h:EndsOk P W p N) (he:∀ u,P u↔Q u):EndsOk Q W p N:=fun q=>by rw [h q,he]
theorem EndsOk.small {P:List Int→Prop} {W:List Int} {p N:Nat} (h:EndsOk P W p N) {q:Nat} (hq:W.length<q):N.testBit q=false:=by
 cases e : N.testBit q with
 | false=>rfl
 | true=>have:=(h q).1 e;omega
theorem RowOk.congr {P Q:List Int→Prop} {W:List Int} {r:List Nat} (h:RowOk P W r) (he:∀ u,P u↔Q u):RowOk Q W r:=⟨h.1,fun p hp=>(h.2 p hp).congr he⟩
/-- A concatenation's ends. -/
theorem ends_concat {P Q:List Int→Prop} {W:List Int} {p N A:Nat} {B:Nat→Nat} (hp:p≤W.length) (hA:EndsOk P W p A) (hB:∀ m,m≤W.length→EndsOk Q W m (B m))
  (hN:∀ q,N.testBit q=true↔∃ m,A.testBit m=true∧(B m).testBit q=true):EndsOk (fun u=>∃ x y,u=x ++ y∧P x∧Q y) W p N:=by
 intro q
 rw [hN q]
 constructor
 ·rintro ⟨m,h1,h2⟩
  obtain ⟨a1,a2,a3⟩:=(hA m).1 h1
  obtain ⟨b1,b2,b3⟩:=(hB m a2 q).1 h2
  exact ⟨by omega,b2,_,_,sub_cat a1 b1,a3,b3⟩
 ·rintro ⟨h1,h2,x,y,e,hx,hy⟩
  obtain ⟨m,m1,m2,rfl,rfl⟩:=sub_split h1 h2 e
  exact ⟨m,(hA m).2 ⟨m1,by omega,hx⟩,(hB m (by omega) q).2 ⟨m2,h2,hy⟩⟩
theorem stl_iff (P:List Int→Prop) (u:List Int):StL P u↔u=[]∨∃ x y,x≠[]∧u=x ++ y∧P x∧StL P y:=by
 constructor
 ·intro h
  cases h with
  | nil=>exact .inl rfl
  | cons x y h1 h2 h3=>exact .inr ⟨x,y,h1,rfl,h2,h3⟩
 ·rintro (rfl | ⟨x,y,h1,rfl,h2,h3⟩)
  ·exact .nil
  ·exact .cons x y h1 h2 h3
/-- A star's ends: of the part's, and the star's own from later places. -/
theorem ends_star {P:List Int→Prop} {W:List Int} {p N A:Nat} {S:Nat→Nat} (hp:p≤W.length) (hA:EndsOk P W p A) (hS:∀ m,p<m→m≤W.length→EndsOk (StL P) W m (S m))
  (hN:∀ q,N.testBit q=true↔q=p∨∃ m,p<m∧A.testBit m=true∧(S m).testBit q=true):EndsOk (StL P) W p N:=by
 intro q
 rw [hN q]
 constructor
 ·rintro (rfl | ⟨m,h0,h1,h2⟩)
  ·exact ⟨Nat.le_refl _,hp,by rw [sub_self];exact .nil⟩
  ·obtain ⟨a1,a2,a3⟩:=(hA m).1 h1
   obtain ⟨b1,b2,b3⟩:=(hS m h0 a2 q).1 h2
   refine ⟨by omega,b2,?_⟩
   rw [sub_cat a1 b1]
   exact .cons _ _ (fun e=>by have:=(sub_nil a1 a2).1 e;omega) a3 b3
 ·rintro ⟨h1,h2,h3⟩
  rcases (stl_iff P _).1 h3 with e | ⟨x,y,hx,e,h4,h5⟩
  ·exact .inl ((sub_nil h1 h2).1 e).symm
  ·obtain ⟨m,m1,m2,rfl,rfl⟩:=sub_split h1 h2 e
   have hm:p≠m:=fun e=>hx (by rw [e];exact sub_self W m)
   exact .inr ⟨m,by omega,(hA m).2 ⟨m1,by omega,h4⟩,(hS m (by omega) (by omega) q).2 ⟨m2,h2,h5⟩⟩
theorem ends_not {P:List Int→Prop} {W:List Int} {p N A:Nat} (hA:EndsOk P W p A) (hN:∀ q,N.testBit q=true↔p≤q∧q≤W.length∧A.testBit q=false):EndsOk (fun u=>¬ P u) W p N:=by
 intro q
 rw [hN q]
 constructor
 ·rintro ⟨h1,h2,h3⟩
  exact ⟨h1,h2,fun h=>by rw [(hA q).2 ⟨h1,h2,h⟩] at h3;cases h3⟩
 ·rintro ⟨h1,h2,h3⟩
  refine ⟨h1,h2,?_⟩
  cases e : A.testBit q with
  | false=>rfl
  | true=>exact absurd ((hA q).1 e).2.2 h3
theorem ends_or {P Q:List Int→Prop} {W:List Int} {p N A B:Nat} (hA:EndsOk P W p A) (hB:EndsOk Q W p B) (hN:∀ q,N.testBit q=(A.testBit q || B.testBit q)):EndsOk (fun u=>P u∨Q u) W p N:=by
 intro q
 rw [hN q,Bool.or_eq_true,hA q,hB q]
 constructor
 ·rintro (⟨h1,h2,h3⟩ | ⟨h1,h2,h3⟩)
  ·exact ⟨h1,h2,.inl h3⟩
  ·exact ⟨h1,h2,.inr h3⟩
 ·rintro ⟨h1,h2,h3 | h3⟩
  ·exact .inl ⟨h1,h2,h3⟩
  ·exact .inr ⟨h1,h2,h3⟩
theorem ends_and {P Q:List Int→Prop} {W:List Int} {p N A B:Nat} (hA:EndsOk P W p A) (hB:EndsOk Q W p B) (hN:∀ q,N.testBit q=(A.testBit q && B.testBit q)):EndsOk (fun u=>P u∧Q u) W p N:=by
 intro q
 rw [hN q,Bool.and_eq_true,hA q,hB q]
 constructor
 ·rintro ⟨⟨h1,h2,h3⟩,_,_,h4⟩
  exact ⟨h1,h2,h3,h4⟩
 ·rintro ⟨h1,h2,h3,h4⟩
  exact ⟨⟨h1,h2,h3⟩,h1,h2,h4⟩
end Go.Proofs.YtfdhaknecjcjoaaGreatDoor

namespace Go.Proofs.YtfdhaknecjcjoaaGreatDoor
open Go Go.RowKit
set_option linter.unusedVariables false

def cells8 (N:Nat):List Value:=[.int .u64 (word N 0:Nat),.int .u64 (word N 1:Nat),.int .u64 (word N 2:Nat),.int .u64 (word N 3:Nat),.int .u64 (word N 4:Nat),.int .u64 (word N 5:Nat),.int .u64 (word N 6:Nat),.int .u64 (word N 7:Nat)]
/-- A row's cells. -/
def rowC : List Nat → List Value
 | []=>[]
 | N :: r=>cells8 N ++ rowC r
theorem rowC_len:∀ r:List Nat,(rowC r).length=r.length * 8
 | []=>rfl
 | N :: r=>by rw [rowC,List.length_append,rowC_len r];simp [cells8];omega
theorem rowC_at:∀ (r:List Nat) (i k:Nat),i<r.length→k<8→(rowC r)[i * 8+k]?=(cells8 (r.getD i 0))[k]?
 | [],i,k,h,_=>by simp at h
 | N :: r,0,k,h,hk=>by
  rw [rowC,Nat.zero_mul,Nat.zero_add,List.getElem?_append_left (by simp [cells8];omega)]
  rfl
 | N :: r,i+1,k,h,hk=>by
  have e:(i+1) * 8+k=8+(i * 8+k):=by omega
  rw [rowC,e,List.getElem?_append_right (by simp [cells8])]
  have e2:8+(i * 8+k) - (cells8 N).length=i * 8+k:=by simp [cells8]
  rw [e2,rowC_at r i k (by simpa using h) hk]
  rfl
theorem rowC_set:∀ (r:List Nat) (i M:Nat),i<r.length→rowC (r.set i M)=((((((((rowC r).set (i * 8) (.int .u64 (word M 0:Nat))).set (i * 8+1) (.int .u64 (word M 1:Nat))).set (i * 8+2) (.int .u64 (word M 2:Nat))).set (i * 8+3) (.int .u64 (word M 3:Nat))).set (i * 8+4) (.int .u64 (word M 4:Nat))).set (i * 8+5) (.int .u64 (word M 5:Nat))).set (i * 8+6) (.int .u64 (word M 6:Nat))).set (i * 8+7) (.int .u64 (word M 7:Nat))
 | [],i,M,h=>by simp at h
 | N :: r,0,M,h=>by simp [rowC,cells8]
 | N :: r,i+1,M,h=>by
  rw [List.set_cons_succ,rowC,rowC_set r i M (by simpa using h),rowC]
  have e:∀ k,(i+1) * 8+k=(i * 8+k)+1+1+1+1+1+1+1+1:=fun k=>by omega
  have e0:(i+1) * 8=(i * 8)+1+1+1+1+1+1+1+1:=by omega
  rw [e 1,e 2,e 3,e 4,e 5,e 6,e 7,e0]
  simp [cells8]
theorem rowC_one (r:List Nat):∀ u ∈ rowC r,u.oneCell'=true:=by
 induction r with
 | nil=>intro u hu;simp [rowC] at hu
 | cons N r ih =>
  intro u hu
  rw [rowC,List.mem_append] at hu
  rcases hu with h | h
  ·simp [cells8] at h
   rcases h with rfl | rfl | rfl | rfl | rfl | rfl | rfl | rfl <;> rfl
  ·exact ih u h
theorem own_of_heapK {w w':World} {B:Nat} {e:TypeId} {size n:Nat} {v:Value} {xs:List Value} (h:w.ownsRow B e size v n xs) (hk:∀ k,B≤k→k<w.heap.size→w'.heap[k]?=w.heap[k]?):w'.ownsRow B e size v n xs:=own_of_heap h fun b hb=>hk b (h.lt b hb).1 (h.lt b hb).2
/-- A row and where it lies. -/
abbrev RwP:=Value × List Nat
abbrev Apt (x y:RwP):Prop:=∀ b,x.1.ownBlock=some b→y.1.ownBlock≠some b
theorem Apt.symm {x y:RwP} (h:Apt x y):Apt y x:=fun b h1 h2=>h b h2 h1
/-- The reader: its tree and word, the stack and the spare rows. -/
structure RD (base : Nat) (w : World) (B : Nat) (tv : Value) (s : ByteArray) (rv sv : Value) (st sp : List RwP) : Prop where
 blk:w.heap[B]?=some (.cells #[tv,.string s,rv,sv] 168 (0,0))
 from_ : base ≤ B
 rows : w.ownsRow base 89 1 rv st.length (st.map Prod.fst)
 spare : w.ownsRow base 89 1 sv sp.length (sp.map Prod.fst)
 ne:∀ b,rv.ownBlock=some b→sv.ownBlock≠some b
 rowv:∀ x ∈ st ++ sp,w.ownsRow base 61 8 x.1 x.2.length (rowC x.2)
 apart : (st ++ sp).Pairwise Apt
 len:∀ x ∈ st ++ sp,x.2.length=s.size+1
theorem RD.lt {base:Nat} {w:World} {B:Nat} {tv:Value} {s:ByteArray} {rv sv:Value} {st sp:List RwP} (h:RD base w B tv s rv sv st sp):B<w.heap.size:=(Array.getElem?_eq_some_iff.1 h.blk).1
theorem RD.cells {base:Nat} {w:World} {B:Nat} {tv:Value} {s:ByteArray} {rv sv:Value} {st sp:List RwP} (h:RD base w B tv s rv sv st sp):w.cell? ⟨B,0,none⟩=some tv∧w.cell? ⟨B,1,none⟩=some (.string s)∧w.cell? ⟨B,2,none⟩=some rv∧w.cell? ⟨B,3,none⟩=some sv:=by
 refine ⟨?_,?_,?_,?_⟩ <;> simp [World.cell?,h.blk]
theorem RD.kept {base:Nat} {w w':World} {B:Nat} {tv:Value} {s:ByteArray} {rv sv:Value} {st sp:List RwP} (h:RD base w B tv s rv sv st sp) (hk:∀ k,base≤k→k<w.heap.size→w'.heap[k]?=w.heap[k]?):RD base w' B tv s rv sv st sp :=
 ⟨(hk B h.from_ h.lt).trans h.blk,h.from_,own_of_heapK h.rows hk,own_of_heapK h.spare hk,h.ne,fun x hx=>own_of_heapK (h.rowv x hx) hk,h.apart,h.len⟩
theorem RD.stay {base:Nat} {w w':World} {B:Nat} {tv:Value} {s:ByteArray} {rv sv:Value} {st sp:List RwP} (h:RD base w B tv s rv sv st sp) (hb:Below w.heap.size w w'):RD base w' B tv s rv sv st sp:=h.kept fun k _ hk=>hb.block k hk
/-- A row has its block. -/
theorem RD.block {base:Nat} {w:World} {B:Nat} {tv:Value} {s:ByteArray} {rv sv:Value} {st sp:List RwP} (h:RD base w B tv s rv sv st sp) {x:RwP} (hx:x ∈ st ++ sp):∃ g c,x.1=.slice (some ⟨g,0,none⟩) (s.size+1) c∧base≤g∧g<w.heap.size:=by
 have h1:=h.rowv x hx
 have h2:=h.len x hx
 obtain ⟨_,hh⟩:=id h1
 rcases hh with ⟨_,h0⟩ | ⟨g,c,cur,e,_⟩
 ·omega
 ·rw [h2] at e
  exact ⟨g,c,e,(h1.lt g (by rw [e];rfl)).1,(h1.lt g (by rw [e];rfl)).2⟩
theorem RD.top {base:Nat} {w:World} {B:Nat} {tv:Value} {s:ByteArray} {rv sv:Value} {st sp:List RwP} {x:RwP} (h:RD base w B tv s rv sv (st ++ [x]) sp):∃ g c,rv=.slice (some ⟨g,0,none⟩) (st.length+1) c∧st.length+1≤c∧base≤g∧g<w.heap.size∧w.cell? ⟨g,st.length,none⟩=some x.1:=by
 have h1:=h.rows
 obtain ⟨hl,hh⟩:=id h1
 rcases hh with ⟨_,h0⟩ | ⟨g,c,cur,e,_,_,hc,_⟩
 ·simp at h0
 ·have hc2:=h1.cells (g:=g) (by rw [e];rfl) st.length x.1 (by rw [List.map_append,List.getElem?_append_right (by simp)];simp)
  rw [Addr.add_lit,Nat.zero_add] at hc2
  rw [List.length_append,List.length_singleton] at e hc
  exact ⟨g,c,e,hc,(h1.lt g (by rw [e];rfl)).1,(h1.lt g (by rw [e];rfl)).2,hc2⟩

set_option maxHeartbeats 2000000 in
set_option maxRecDepth 100000 in
theorem mtop_any {base : Nat} {w : World} {B : Nat} {tv : Value} {s : ByteArray} {rv sv : Value} {st sp : List RwP} {x : RwP} (h : RD base w B tv s rv sv (st ++ [x]) sp) (hn : st.length ≤ 8000000) :
  Calls Tryz.prog 157 #[.pointer (some ⟨B,0,none⟩)] w fun e w'=>e=.returned x.1∧Below w.heap.size w w':=by
 obtain ⟨_,_,c2,_⟩:=h.cells
 obtain ⟨g,c,rfl,hc,hg1,hg2,hx⟩:=h.top
 have hB:=h.lt
 obtain ⟨n,hnd⟩:∃ n,st.length=n:=⟨_,rfl⟩
 obtain ⟨m,hm⟩:∃ m,n+1=m:=⟨_,rfl⟩
 rw [hnd] at c2 hx hn
 rw [hm] at c2
 have hw1:IntKind.i64.wrap ((m:Int) - 1)=(n:Int):=by rw [IntKind.wrap_i64];omega
 have hlt:(n:Int)<m:=by omega
 have HM:Hid (n+1=m):=hm
 clear h hnd hm
 go_enter Tryz.func157,Tryz.ntmps157
 go_wp2_with fail
 go_region
 all_goals go_wp2_with fail
 all_goals go_ret
 all_goals exact ⟨rfl,(Below.refl _ _).drew⟩

set_option maxHeartbeats 1000000 in
theorem mplaces_any {base : Nat} {w : World} {B : Nat} {tv : Value} {s : ByteArray} {rv sv : Value} {st sp : List RwP} (h : RD base w B tv s rv sv st sp) (hs : s.size ≤ 511) :
  Calls Tryz.prog 159 #[.pointer (some ⟨B,0,none⟩)] w fun e w'=>e=.returned (.int .i64 ((s.size+1:Nat):Int))∧w=w':=by
 obtain ⟨_,c1,_,_⟩:=h.cells
 have hB:=h.lt
 clear h
 go_enter Tryz.func159,Tryz.ntmps159
 go_wp2_with fail
 go_ret
 exact ⟨ret_int (by omega),rfl⟩
/-- Blocks that the reader writes: of its own type, of sets, of lists of sets. -/
def RTy (w:World) (b:Nat):Prop:=∀ (A:Array Value) (ty:TypeId) (fr:Nat × Nat),w.heap[b]?=some (Obj.cells A ty fr)→ty=61∨ty=89∨ty=168
theorem RTy.set {w:World} {b:Nat} {A:Array Value} {fr:Nat × Nat} (h:w.heap[b]?=some (Obj.cells A 61 fr)):RTy w b:=fun A' ty fr' h'=>by
 rw [h] at h'
 cases h'
 exact .inl rfl
theorem RTy.rdr {w:World} {b:Nat} {A:Array Value} {fr:Nat × Nat} (h:w.heap[b]?=some (Obj.cells A 168 fr)):RTy w b:=fun A' ty fr' h'=>by
 rw [h] at h'
 cases h'
 exact .inr (.inr rfl)
theorem RTy.setCell {w:World} {b:Nat} (h:RTy w b) (p:Addr) (v:Value):RTy (w.setCell p v) b:=fun A ty fr h'=>by
 by_cases e : b = p.block
 ·subst e
  cases hh : w.heap[p.block]? with
  | none=>simp [World.setCell,Array.getElem?_modify,hh] at h'
  | some o =>
   cases o with
   | cells A0 ty0 fr0 =>
    have:ty0=ty:=by
     simp [World.setCell,Array.getElem?_modify,hh] at h'
     exact h'.2.1
    subst this
    exact h A0 ty0 fr0 hh
   | _=>simp [World.setCell,Array.getElem?_modify,hh] at h'
 ·rw [show p=⟨p.block,p.off,p.spot⟩ from rfl,Below.heap_setCell _ _ _ _ e] at h'
  exact h A ty fr h'
/-- Maps stay as they are; a block of a set, or of sets, stays one of as many cells; blocks of other types stay as they are. -/
structure KM (w w' : World) : Prop where
 maps:∀ (k:Nat) (es:Array MapEntry) (c:Nat),w.heap[k]?=some (Obj.map es c)→w'.heap[k]?=some (Obj.map es c)
 sets:∀ (k:Nat) (A:Array Value) (fr:Nat × Nat),w.heap[k]?=some (Obj.cells A 61 fr)→∃ A',w'.heap[k]?=some (Obj.cells A' 61 fr)∧A'.size=A.size
 oth:∀ (k:Nat) (A:Array Value) (ty:TypeId) (fr:Nat × Nat),ty≠61→ty≠89→ty≠168→w.heap[k]?=some (Obj.cells A ty fr)→w'.heap[k]?=some (Obj.cells A ty fr)
theorem KM.same {w w':World} (h:∀ k,k<w.heap.size→w'.heap[k]?=w.heap[k]?):KM w w' :=
 ⟨fun i es n hi=>(h i (Array.getElem?_eq_some_iff.1 hi).1).trans hi,fun i A fr hi=>⟨A,(h i (Array.getElem?_eq_some_iff.1 hi).1).trans hi,rfl⟩,fun i A ty fr _ _ _ hi=>(h i (Array.getElem?_eq_some_iff.1 hi).1).trans hi⟩
theorem KM.refl (w:World):KM w w:=KM.same fun _ _=>rfl
theorem KM.trans {a b c:World} (h:KM a b) (k:KM b c):KM a c:=⟨fun i es n hi=>k.maps i es n (h.maps i es n hi),fun i A fr hi=>by
 obtain ⟨A',h1,h2⟩:=h.sets i A fr hi
 obtain ⟨A'',h3,h4⟩:=k.sets i A' fr h1
 exact ⟨A'',h3,h4.trans h2⟩,fun i A ty fr t1 t2 t3 hi=>k.oth i A ty fr t1 t2 t3 (h.oth i A ty fr t1 t2 t3 hi)⟩
theorem KM.of {a b:World} (h:Below a.heap.size a b):KM a b:=KM.same fun k hk=>h.block k hk
theorem KM.alloc (w:World) (O:Obj):KM w (w.alloc O):=KM.of ((Below.refl _ _).alloc (Nat.le_refl _) O)
theorem KM.setCell (w:World) (p:Addr) (v:Value) (ht:RTy w p.block):KM w (w.setCell p v):=by
 have ho:∀ k,k≠p.block→(w.setCell p v).heap[k]?=w.heap[k]?:=fun k e=>by
  rw [show p=⟨p.block,p.off,p.spot⟩ from rfl,Below.heap_setCell _ _ _ _ e]
 refine ⟨fun k es c h=>?_,fun k A fr h=>?_,fun k A ty fr t1 t2 t3 h=>?_⟩
 ·by_cases e : k = p.block
  ·unfold World.setCell
   simp only [Array.getElem?_modify]
   rw [h,if_pos e.symm]
   rfl
  ·rw [ho k e];exact h
 ·by_cases e : k = p.block
  ·unfold World.setCell
   simp only [Array.getElem?_modify]
   rw [h,if_pos e.symm]
   refine ⟨_,rfl,?_⟩
   split <;> simp
  ·exact ⟨A,(ho k e).trans h,rfl⟩
 ·by_cases e : k = p.block
  ·rw [e] at h
   rcases ht A ty fr h with e1 | e1 | e1
   ·exact absurd e1 t1
   ·exact absurd e1 t2
   ·exact absurd e1 t3
  ·rw [ho k e];exact h
theorem KM.setCells (g:Nat):∀ (zs:List Value) (o:Nat) (w:World),RTy w g→KM w (w.setCells g o zs)
 | [],_,w,_=>KM.refl w
 | z :: zs,o,w,h=>(KM.setCell w ⟨g,o,none⟩ z h).trans (KM.setCells g zs (o+1) _ (h.setCell _ _))
theorem KM.grownA {W w3:World} {O:Obj} {row:Option Nat} (hg:(W.alloc O).grownBy w3 row) (hr:∀ k,row=some k→∃ cur t fr,t=89∧W.heap[k]?=some (Obj.cells cur t fr)):KM W w3:=by
 have ho:∀ k o,W.heap[k]?=some o→(∀ cur fr,o≠Obj.cells cur 89 fr)→w3.heap[k]?=some o:=fun k o hk hne=>by
  have hkl:=(Array.getElem?_eq_some_iff.1 hk).1
  rw [hg.block k (by simp;omega) (fun e=>by
   obtain ⟨cur,t,fr,ht,hc⟩:=hr k e.symm
   rw [hc] at hk
   subst ht
   exact hne cur fr (Option.some.inj hk).symm),Below.heap_alloc _ _ _ hkl]
  exact hk
 refine ⟨fun k es c hk=>ho k _ hk (fun _ _ e=>by cases e),fun k A fr hk=>⟨A,ho k _ hk (fun _ _ e=>by simp at e),rfl⟩,fun k A ty fr t1 t2 t3 hk=>ho k _ hk (fun _ _ e=>by cases e;exact t2 rfl)⟩
/-- Below, and maps stay. -/
structure BK (base : Nat) (w w' : World) : Prop where
 b : Below base w w'
 m : KM w w'
theorem BK.refl (base:Nat) (w:World):BK base w w:=⟨Below.refl _ _,KM.refl w⟩
theorem BK.trans {base:Nat} {a b c:World} (h:BK base a b) (k:BK base b c):BK base a c:=⟨h.b.trans k.b,h.m.trans k.m⟩
theorem BK.alloc {base:Nat} {a w:World} (h:BK base a w) (hB:base≤w.heap.size) (o:Obj):BK base a (w.alloc o):=⟨h.b.alloc hB o,h.m.trans (KM.alloc w o)⟩
theorem BK.setCell {base:Nat} {a w:World} (h:BK base a w) {p:Addr} (hp:base≤p.block) (ht:RTy w p.block) (u:Value):BK base a (w.setCell p u):=⟨h.b.setCell hp u,h.m.trans (KM.setCell w p u ht)⟩
theorem BK.size {base:Nat} {a w:World} (h:BK base a w):a.heap.size≤w.heap.size:=h.b.size
theorem BK.up {base:Nat} {w w':World} (h:Below w.heap.size w w') (hb:base≤w.heap.size):BK base w w':=⟨h.mono hb,KM.of h⟩
end Go.Proofs.YtfdhaknecjcjoaaGreatDoor

namespace Go.Proofs.YtfdhaknecjcjoaaGreatDoor
open Go Go.RowKit
set_option linter.unusedVariables false

theorem own_cutS {w:World} {B:Nat} {e:TypeId} {g n c:Nat} {xs:List Value} (h:w.ownsRow B e 1 (.slice (some ⟨g,0,none⟩) n c) n xs) (m:Nat) (hm:m≤n):w.ownsRow B e 1 (.slice (some ⟨g,0,none⟩) m c) m (xs.take m):=by
 obtain ⟨hl,hh⟩:=h
 refine ⟨by rw [List.length_take];omega,?_⟩
 rcases hh with ⟨hh,_⟩ | ⟨g',c',cur,e1,r1,r2,r3,r4,r5,r6⟩
 ·cases hh
 ·cases e1
  refine .inr ⟨g,c,cur,rfl,r1,r2,by omega,r4,r5,?_⟩
  rw [← r6,List.take_take,Nat.mul_one,Nat.mul_one,Nat.min_eq_left hm]
theorem RD.notB {base:Nat} {w:World} {B:Nat} {e:TypeId} {sz n:Nat} {v:Value} {xs:List Value} {A:Array Value} (he:e≠168) (hb:w.heap[B]?=some (.cells A 168 (0,0))) (ho:w.ownsRow base e sz v n xs):v.ownBlock≠some B:=fun hv=>by
 obtain ⟨cur,hc⟩:=own_type ho B hv
 rw [hb] at hc
 simp at hc
 exact he hc.2.symm
theorem RD.popB {base:Nat} {w w3:World} {B:Nat} {tv:Value} {s:ByteArray} {rv sv:Value} {st sp:List RwP} {u:Value} {O:Obj} (h:RD base w B tv s rv sv st sp) (hg:((w.setCell ⟨B,2,none⟩ u).alloc O).grownBy w3 sv.ownBlock):w3.heap[B]?=some (.cells #[tv,.string s,u,sv] 168 (0,0)):=by
 have hB:=h.lt
 have hsB:=RD.notB (by decide) h.blk h.spare
 rw [hg.block B (by simp;omega) (fun e=>hsB e.symm),Below.heap_alloc _ _ _ (by simp;omega),heap_setCell_eq w B 2 _ _ _ h.blk]
 rfl
theorem grown_drew {a b:World} {r:Option Nat} (h:a.drew.grownBy b r):a.grownBy b r:=⟨h.os,h.tape,h.output,h.size,h.block⟩
/-- One row of the stack goes among the spare ones. -/
theorem RD.popped {base : Nat} {w w3 : World} {B : Nat} {tv : Value} {s : ByteArray} {sv : Value} {st sp : List RwP} {x : RwP} {g c g' c' : Nat} {O : Obj}
  (h:RD base w B tv s (.slice (some ⟨g,0,none⟩) (st.length+1) c) sv (st ++ [x]) sp)
  (ho:w3.ownsRow base 89 1 (.slice (some ⟨g',0,none⟩) (sp.length+1) c') (sp.length+1) (sp.map Prod.fst ++ [x.1])) (hg:((w.setCell ⟨B,2,none⟩ (.slice (some ⟨g,0,none⟩) st.length c)).alloc O).grownBy w3 sv.ownBlock) (hp:sv.ownBlock=some g'∨g'=w.heap.size+1∨g'=w.heap.size) (hg':w.heap.size≤g'∨sv.ownBlock=some g') :
  RD base (w3.setCell ⟨B,3,none⟩ (.slice (some ⟨g',0,none⟩) (sp.length+1) c')) B tv s (.slice (some ⟨g,0,none⟩) st.length c) (.slice (some ⟨g',0,none⟩) (sp.length+1) c') st (sp ++ [x])∧Below base w (w3.setCell ⟨B,3,none⟩ (.slice (some ⟨g',0,none⟩) (sp.length+1) c')):=by
 have hB:=h.lt
 have hrg:=h.rows.lt g (by rfl)
 have hty:∀ {e:TypeId} {sz n:Nat} {v:Value} {xs:List Value},e≠168→∀ {w0:World} {A:Array Value},w0.heap[B]?=some (.cells A 168 (0,0))→w0.ownsRow base e sz v n xs→v.ownBlock≠some B:=fun {e sz n v xs} he {w0 A} hb ho hv=>by
  obtain ⟨cur,hc⟩:=own_type ho B hv
  rw [hb] at hc
  simp at hc
  exact he hc.2.symm
 have hsB:=hty (by decide) h.blk h.spare
 have hrB:g≠B:=fun e=>hty (by decide) h.blk h.rows (by rw [← e];rfl)
 have keep:∀ k,k<w.heap.size→k≠B→sv.ownBlock≠some k→(w3.setCell ⟨B,3,none⟩ (.slice (some ⟨g',0,none⟩) (sp.length+1) c')).heap[k]?=w.heap[k]?:=fun k hk h1 h2=>by
  rw [Below.heap_setCell _ _ _ _ h1,hg.block k (by simp;omega) (fun e=>h2 e.symm),Below.heap_alloc _ _ _ (by simp;omega),Below.heap_setCell _ _ _ _ h1]
 have hB3:w3.heap[B]?=some (.cells #[tv,.string s,.slice (some ⟨g,0,none⟩) st.length c,sv] 168 (0,0)):=by
  rw [hg.block B (by simp;omega) (fun e=>hsB e.symm),Below.heap_alloc _ _ _ (by simp;omega),heap_setCell_eq w B 2 _ _ _ h.blk]
  rfl
 have hspn:∀ y ∈ st ++ [x] ++ sp,∀ k,y.1.ownBlock=some k→k≠B∧sv.ownBlock≠some k:=fun y hy k hk=>by
  refine ⟨fun e=>hty (by decide) h.blk (h.rowv y hy) (by rw [← e];exact hk),fun e=>?_⟩
  exact own_apart h.spare (h.rowv y hy) (by decide) k e hk
 have hmem:∀ y,y ∈ st ++ (sp ++ [x])↔y ∈ st ++ [x] ++ sp:=fun y=>by simp only [List.mem_append];grind
 have hgB':g'≠B:=fun e=>hty (by decide) hB3 ho (by rw [← e];rfl)
 have hgg:g'≠g:=fun e=>by
  rcases hg' with h1 | h1
  ·omega
  ·exact h.ne g rfl (by rw [h1,e])
 refine ⟨⟨?_,h.from_,?_,?_,?_,?_,?_,?_⟩,?_⟩
 ·rw [heap_setCell_eq w3 B 3 _ _ _ hB3];rfl
 ·have h1:=own_cutS (by have:=h.rows;rw [List.length_append,List.length_singleton] at this;exact this) st.length (by omega)
  rw [List.map_append,List.take_left' (by simp)] at h1
  exact own_of_heap h1 (fun b hb=>keep b (h1.lt b hb).2 (fun e=>by cases hb;exact hrB e) (fun e=>by cases hb;exact h.ne g rfl e))
 ·rw [List.length_append,List.length_singleton,List.map_append]
  exact own_of_heap ho (fun b hb=>Below.heap_setCell _ _ _ _ (fun e=>by cases hb;exact hgB' e))
 ·intro b hb hb'
  cases hb
  simp [Value.ownBlock] at hb'
  exact hgg hb'
 ·intro y hy
  have hy':=(hmem y).1 hy
  exact own_of_heap (h.rowv y hy') (fun b hb=>keep b ((h.rowv y hy').lt b hb).2 (hspn y hy' b hb).1 (hspn y hy' b hb).2)
 ·have hperm:(st ++ [x] ++ sp).Perm (st ++ (sp ++ [x])):=by
   rw [List.append_assoc]
   exact List.Perm.append_left st List.perm_append_comm
  exact hperm.pairwise h.apart (fun {a b} hab=>hab.symm)
 ·intro y hy
  exact h.len y ((hmem y).1 hy)
 ·have h1:Below base w (w.setCell ⟨B,2,none⟩ (.slice (some ⟨g,0,none⟩) st.length c)):=(Below.refl _ _).setCell (p:=⟨B,2,none⟩) h.from_ _
  have h2:Below base w ((w.setCell ⟨B,2,none⟩ (.slice (some ⟨g,0,none⟩) st.length c)).alloc O):=h1.alloc (by have:=h.from_;simp;omega) _
  have h3:=h2.grown hg (by have:=h.from_;simp;omega) (fun k hk=>(h.spare.lt k hk).1)
  exact h3.setCell (p:=⟨B,3,none⟩) h.from_ _
theorem Tryz.info_rows:(Tryz.prog.info? 89).map (fun i=>(i.zero,i.size,i.bytes))=some (some (.slice none 0 0),1,24):=by kernel_rfl

set_option maxHeartbeats 4000000 in
set_option maxRecDepth 100000 in
theorem mpop_any {base : Nat} {w : World} {B : Nat} {tv : Value} {s : ByteArray} {rv sv : Value} {st sp : List RwP} {x : RwP} (h : RD base w B tv s rv sv (st ++ [x]) sp) (hn : st.length ≤ 8000000) (hp : sp.length ≤ 8000000) :
  Calls Tryz.prog 147 #[.pointer (some ⟨B,0,none⟩)] w fun e w'=>∃ rv' sv',e=.returned x.1∧RD base w' B tv s rv' sv' st (sp ++ [x])∧BK base w w':=by
 have HT:Hid (Calls Tryz.prog 157 #[.pointer (some ⟨B,0,none⟩)] w fun e w'=>e=.returned x.1∧Below w.heap.size w w'):=mtop_any h hn
 obtain ⟨g,c,rfl,hc,hg1,hg2,hx⟩:=h.top
 have HR0:Hid True:=trivial
 obtain ⟨gx,cx,hxv,_⟩:=h.block (x:=x) (by simp)
 obtain ⟨sa,sc,rfl⟩:=own_shape h.spare
 have HR:Hid (RD base w B tv s (.slice (some ⟨g,0,none⟩) (st.length+1) c) (.slice sa sp.length sc) (st ++ [x]) sp):=h
 obtain ⟨i0,hi0,hz0,hz1,hz2⟩:=info_parts Tryz.info_rows
 obtain ⟨m,hm⟩:∃ m,st.length+1=m:=⟨_,rfl⟩
 obtain ⟨n,hnd⟩:∃ n,st.length=n:=⟨_,rfl⟩
 have HNM:Hid (st.length=n∧st.length+1=m):=⟨hnd,hm⟩
 have hw1:IntKind.i64.wrap ((m:Int) - 1)=(n:Int):=by rw [IntKind.wrap_i64];omega
 have hnc:(n:Int)≤c:=by omega
 have hm8:m≤8000001:=by omega
 obtain ⟨xv,hxe⟩:∃ xv,x.1=xv:=⟨_,rfl⟩
 have HXE:Hid (x.1=xv):=hxe
 rw [hxe] at HT hxv ⊢
 subst hxv
 have HF:Hid (base≤w.heap.size):=by show _≤_;omega
 clear h hx hnd hm hn hc hxe
 go_enter Tryz.func147,Tryz.ntmps147
 go_wp2_with fail
 refine HT.out.mono ?_
 rintro e w1 ⟨rfl,hb1⟩
 have HR1:Hid (RD base w1 B tv s (.slice (some ⟨g,0,none⟩) (st.length+1) c) (.slice sa sp.length sc) (st ++ [x]) sp):=HR.out.stay hb1
 have HB1:Hid (BK base w w1):=BK.up hb1 HF.out
 obtain ⟨_,_,c2,c3⟩:=HR1.out.cells
 have hBl:=HR1.out.lt
 rw [HNM.out.2] at c2
 have hfz:w1.frozen? ⟨B,2,none⟩=false:=by simp [World.frozen?,HR1.out.blk]
 clear hb1 HR
 go_wp2_with fail
 go_region
 have cs:(w1.setCell ⟨B,2,none⟩ (.slice (some ⟨g,0,none⟩) n c)).cell? ⟨B,3,none⟩=some (.slice sa sp.length sc):=by
  have hb':=heap_setCell_eq w1 B 2 (.slice (some ⟨g,0,none⟩) n c) _ _ HR1.out.blk
  simp [World.cell?,hb']
 have HSP:Hid ((w1.setCell ⟨B,2,none⟩ (.slice (some ⟨g,0,none⟩) n c)).ownsRow base 89 1 (.slice sa sp.length sc) sp.length (sp.map Prod.fst)):=own_of_heap HR1.out.spare (fun b hb=>Below.heap_setCell _ _ _ _ (fun e=>by
  obtain ⟨cur,hc⟩:=own_type HR1.out.spare b hb
  rw [e,HR1.out.blk] at hc
  simp at hc))
 have hB2:base≤w1.heap.size:=by have:=HR1.out.from_;omega
 clear c2 c3 hfz
 go_wp2_with (at_builtin;refine wpList_append_lies _ rfl _ _ 115 rfl base 89 i0 (.slice none 0 0) 1 24 Tryz.underlying115 hi0 hz0 hz1 hz2 rfl (by decide) _ _ _ rfl (HSP.out.alloc _) ⟨w1.heap.size,0,none⟩ 1 1 [.slice (some ⟨gx,0,none⟩) (s.size+1) cx] rfl rfl ?f1 ?f2 (by decide) ?f3 ?f4 ?f5 _ rfl ?_)
 case f1=>have:=cell_one_new (w1.setCell ⟨B,2,none⟩ (.slice (some ⟨g,0,none⟩) n c)) (.slice (some ⟨gx,0,none⟩) (s.size+1) cx) 89;simpa using this
 case f2=>intro u hu;simp at hu;subst hu;rfl
 case f3=>unfold maxLen;omega
 case f4=>omega
 case f5=>simp;omega
 intro g' c' w3 ho3 hg3 hp3 hl3
 have hg4:=grown_drew hg3
 have hB3:=HR1.out.popB hg4
 have c33:w3.cell? ⟨B,3,none⟩=some (.slice sa sp.length sc):=by simp [World.cell?,hB3]
 have f33:w3.frozen? ⟨B,3,none⟩=false:=by simp [World.frozen?,hB3]
 have HMM:Hid (KM w1 (w3.setCell ⟨B,3,none⟩ (.slice (some ⟨g',0,none⟩) (sp.length+1) c'))):=(KM.setCell w1 _ _ (RTy.rdr HR1.out.blk)).trans ((KM.grownA hg4 (fun k hk=>by
  obtain ⟨cur,hc⟩:=own_type HSP.out k hk
  exact ⟨_,_,_,rfl,hc⟩)).trans (KM.setCell _ _ _ (RTy.rdr hB3)))
 have HFIN:Hid (RD base (w3.setCell ⟨B,3,none⟩ (.slice (some ⟨g',0,none⟩) (sp.length+1) c')) B tv s (.slice (some ⟨g,0,none⟩) n c) (.slice (some ⟨g',0,none⟩) (sp.length+1) c') st (sp ++ [x])∧BK base w (w3.setCell ⟨B,3,none⟩ (.slice (some ⟨g',0,none⟩) (sp.length+1) c'))):=by
  have hn:=HNM.out.1
  rw [← hn] at hg4
  rw [← HXE.out] at ho3
  have:=HR1.out.popped ho3 hg4 (by rcases hp3 with h | h;exact .inl h;exact .inr (.inl h)) (by rcases hp3 with h | h;exact .inr h;exact .inl (by omega))
  rw [hn] at this
  exact ⟨this.1,HB1.out.trans ⟨this.2,HMM.out⟩⟩
 clear ho3 hg3 hg4 hp3 hl3 hB3 cs
 go_wp2_with fail
 go_ret
 exact ⟨_,_,rfl,HFIN.out.1,HFIN.out.2⟩
end Go.Proofs.YtfdhaknecjcjoaaGreatDoor

namespace Go.Proofs.YtfdhaknecjcjoaaGreatDoor
open Go Go.RowKit
set_option linter.unusedVariables false

/-- What is not the reader's: maps, and nodes. -/
def Alien (o:Obj):Prop:=(∃ es c,o=.map es c)∨∃ A fr,o=.cells A 51 fr
theorem Alien.ne {o:Obj} (h:Alien o) {C:Array Value} {t:TypeId} {f:Nat × Nat} (ht:t≠51):o≠.cells C t f:=fun e=>by
 rcases h with ⟨es,c,h⟩ | ⟨A,fr,h⟩
 ·rw [h] at e;cases e
 ·rw [h] at e;cases e;exact ht rfl
/-- Maps and nodes stay where they are. -/
def KN (w w':World):Prop:=∀ (k:Nat) (o:Obj),Alien o→w.heap[k]?=some o→w'.heap[k]?=some o
theorem KN.trans {a b c:World} (h:KN a b) (k:KN b c):KN a c:=fun i o ho hi=>k i o ho (h i o ho hi)
theorem KN.of {a b:World} (h:Below a.heap.size a b):KN a b:=fun i o ho hi=>(h.block i (Array.getElem?_eq_some_iff.1 hi).1).trans hi
theorem KN.alloc (w:World) (O:Obj):KN w (w.alloc O):=KN.of ((Below.refl _ _).alloc (Nat.le_refl _) O)
theorem KN.set {w:World} {B:Nat} {C:Array Value} {t:TypeId} {f:Nat × Nat} (hb:w.heap[B]?=some (.cells C t f)) (ht:t≠51) {w':World} (hk:∀ k,k≠B→w'.heap[k]?=w.heap[k]?):KN w w':=fun i o ho hi=>by
 have:i≠B:=fun e=>by
  rw [e,hb] at hi
  exact ho.ne ht (Option.some.inj hi).symm
 rw [hk i this]
 exact hi
/-- A row that is neither on the stack nor spare. -/
structure LR (base : Nat) (w : World) (x : RwP) (l : List RwP) (n : Nat) : Prop where
 own : w.ownsRow base 61 8 x.1 x.2.length (rowC x.2)
 apt:∀ y ∈ l,Apt y x
 len : x.2.length = n
theorem RD.pushed {base : Nat} {w w3 : World} {B : Nat} {tv : Value} {s : ByteArray} {rv sv : Value} {st sp : List RwP} {x : RwP} {g' c' : Nat} {O : Obj}
  (h : RD base w B tv s rv sv st sp) (hx : LR base w x (st ++ sp) (s.size + 1))
  (ho:w3.ownsRow base 89 1 (.slice (some ⟨g',0,none⟩) (st.length+1) c') (st.length+1) (st.map Prod.fst ++ [x.1])) (hg:(w.alloc O).grownBy w3 rv.ownBlock) (hp:rv.ownBlock=some g'∨w.heap.size≤g') :
  RD base (w3.setCell ⟨B,2,none⟩ (.slice (some ⟨g',0,none⟩) (st.length+1) c')) B tv s (.slice (some ⟨g',0,none⟩) (st.length+1) c') sv (st ++ [x]) sp∧Below base w (w3.setCell ⟨B,2,none⟩ (.slice (some ⟨g',0,none⟩) (st.length+1) c'))∧KN w (w3.setCell ⟨B,2,none⟩ (.slice (some ⟨g',0,none⟩) (st.length+1) c')):=by
 have hB:=h.lt
 have hrB:=RD.notB (by decide) h.blk h.rows
 have hsB:=RD.notB (by decide) h.blk h.spare
 have keep:∀ k,k<w.heap.size→k≠B→rv.ownBlock≠some k→(w3.setCell ⟨B,2,none⟩ (.slice (some ⟨g',0,none⟩) (st.length+1) c')).heap[k]?=w.heap[k]?:=fun k hk h1 h2=>by
  rw [Below.heap_setCell _ _ _ _ h1,hg.block k (by simp;omega) (fun e=>h2 e.symm),Below.heap_alloc _ _ _ (by omega)]
 have hB3:w3.heap[B]?=some (.cells #[tv,.string s,rv,sv] 168 (0,0)):=by
  rw [hg.block B (by simp;omega) (fun e=>hrB e.symm),Below.heap_alloc _ _ _ (by omega)]
  exact h.blk
 have hall:∀ y ∈ x :: (st ++ sp),w.ownsRow base 61 8 y.1 y.2.length (rowC y.2):=fun y hy=>by
  rcases List.mem_cons.1 hy with rfl | hy
  ·exact hx.own
  ·exact h.rowv y hy
 have hmem:∀ y,y ∈ st ++ [x] ++ sp→y ∈ x :: (st ++ sp):=fun y hy=>by simp only [List.mem_append,List.mem_cons] at *;grind
 have hgB':g'≠B:=fun e=>RD.notB (by decide) hB3 ho (by rw [← e];rfl)
 refine ⟨⟨?_,h.from_,?_,?_,?_,?_,?_,?_⟩,?_,?_⟩
 ·rw [heap_setCell_eq w3 B 2 _ _ _ hB3];rfl
 ·rw [List.length_append,List.length_singleton,List.map_append]
  exact own_of_heap ho (fun b hb=>Below.heap_setCell _ _ _ _ (fun e=>by cases hb;exact hgB' e))
 ·exact own_of_heap h.spare (fun b hb=>keep b (h.spare.lt b hb).2 (fun e=>hsB (by rw [← e];exact hb)) (fun e=>h.ne b e hb))
 ·intro b hb hb'
  cases hb
  rcases hp with hp | hp
  ·exact h.ne g' hp hb'
  ·have:=(h.spare.lt g' hb').2;omega
 ·intro y hy
  have hy':=hall y (hmem y hy)
  exact own_of_heap hy' (fun b hb=>keep b (hy'.lt b hb).2 (fun e=>RD.notB (by decide) h.blk hy' (by rw [← e];exact hb)) (fun e=>own_apart h.rows hy' (by decide) b e hb))
 ·have hperm:(x :: (st ++ sp)).Perm (st ++ [x] ++ sp):=by
   rw [List.append_assoc]
   exact List.perm_middle.symm
  refine hperm.pairwise ?_ (fun {a b} hab=>hab.symm)
  exact List.pairwise_cons.2 ⟨fun y hy=>(hx.apt y hy).symm,h.apart⟩
 ·intro y hy
  rcases List.mem_cons.1 (hmem y hy) with rfl | hy
  ·exact hx.len
  ·exact h.len y hy
 ·have h2:Below base w (w.alloc O):=(Below.refl _ _).alloc (by have:=h.from_;omega) _
  have h3:=h2.grown hg (by have:=h.from_;simp;omega) (fun k hk=>(h.rows.lt k hk).1)
  exact h3.setCell (p:=⟨B,2,none⟩) h.from_ _
 ·intro k o ho' hk
  have hkl:=(Array.getElem?_eq_some_iff.1 hk).1
  rw [keep k hkl (fun e=>by rw [e,h.blk] at hk;exact ho'.ne (by decide) (Option.some.inj hk).symm) (fun e=>by
   obtain ⟨cur,hc⟩:=own_type h.rows k e
   rw [hc] at hk
   exact ho'.ne (by decide) (Option.some.inj hk).symm)]
  exact hk
/-- The last spare row is taken. -/
theorem RD.taken {base:Nat} {w:World} {B:Nat} {tv:Value} {s:ByteArray} {rv:Value} {st sp:List RwP} {x:RwP} {g c:Nat} (h:RD base w B tv s rv (.slice (some ⟨g,0,none⟩) (sp.length+1) c) st (sp ++ [x])) :
  RD base (w.setCell ⟨B,3,none⟩ (.slice (some ⟨g,0,none⟩) sp.length c)) B tv s rv (.slice (some ⟨g,0,none⟩) sp.length c) st sp∧LR base (w.setCell ⟨B,3,none⟩ (.slice (some ⟨g,0,none⟩) sp.length c)) x (st ++ sp) (s.size+1)∧Below base w (w.setCell ⟨B,3,none⟩ (.slice (some ⟨g,0,none⟩) sp.length c)):=by
 have hrB:=RD.notB (by decide) h.blk h.rows
 have hsB:=RD.notB (by decide) h.blk h.spare
 have hsub:∀ y,y ∈ st ++ sp→y ∈ st ++ (sp ++ [x]):=fun y hy=>by simp only [List.mem_append] at *;grind
 have hxm:x ∈ st ++ (sp ++ [x]):=by simp
 have kp:∀ {e:TypeId} {sz n:Nat} {v:Value} {xs:List Value},e≠168→w.ownsRow base e sz v n xs→(w.setCell ⟨B,3,none⟩ (.slice (some ⟨g,0,none⟩) sp.length c)).ownsRow base e sz v n xs:=fun he ho=>own_of_heap ho (fun b hb=>Below.heap_setCell _ _ _ _ (fun e=>RD.notB he h.blk ho (by have e:b=B:=e;rw [← e];exact hb)))
 have hap:=h.apart
 rw [← List.append_assoc] at hap
 obtain ⟨ap1,_,ap3⟩:=List.pairwise_append.1 hap
 refine ⟨⟨?_,h.from_,kp (by decide) h.rows,?_,fun b hb hb'=>?_,fun y hy=>kp (by decide) (h.rowv y (hsub y hy)),ap1,fun y hy=>h.len y (hsub y hy)⟩,⟨kp (by decide) (h.rowv x hxm),fun y hy=>ap3 y hy x (by simp),h.len x hxm⟩,(Below.refl _ _).setCell (p:=⟨B,3,none⟩) h.from_ _⟩
 ·rw [heap_setCell_eq w B 3 _ _ _ h.blk];rfl
 ·have h1:=own_cutS (by have:=h.spare;rw [List.length_append,List.length_singleton] at this;exact this) sp.length (by omega)
  rw [List.map_append,List.take_left' (by simp)] at h1
  exact kp (by decide) h1
 ·exact h.ne b hb (by cases hb';rfl)
/-- Rows of empty sets. -/
theorem rowC_zero (n:Nat):rowC (List.replicate n 0)=List.replicate (n * 8) (.int .u64 0):=by
 induction n with
 | zero=>rfl
 | succ n ih =>
  rw [List.replicate_succ,rowC,ih,show (n+1) * 8=n * 8+1+1+1+1+1+1+1+1 by omega]
  simp [cells8,word_zero,List.replicate_succ]
theorem zero_rows (n:Nat):(Builtin.zeroCells (setV 0).cells n).toList=rowC (List.replicate n 0):=by
 rw [rowC_zero]
 have e:(setV 0).cells=#[.int .u64 0,.int .u64 0,.int .u64 0,.int .u64 0,.int .u64 0,.int .u64 0,.int .u64 0,.int .u64 0]:=by
  simp [setV,cellsF,Value.cells,word_zero]
 rw [e]
 apply List.ext_getElem?
 intro i
 simp only [Builtin.zeroCells,Array.toList_map,List.getElem?_map]
 by_cases hi : i < n * 8
 ·rw [Array.toList_range,List.getElem?_range (by simpa using hi),List.getElem?_replicate,if_pos hi]
  have h8:i % 8<8:=Nat.mod_lt _ (by decide)
  simp only [Option.map_some,Option.some.injEq]
  have:∀ j,j<8→(#[Value.int .u64 0,.int .u64 0,.int .u64 0,.int .u64 0,.int .u64 0,.int .u64 0,.int .u64 0,.int .u64 0]:Array Value)[j]! = .int .u64 0:=fun j hj=>by
   have hc:j=0∨j=1∨j=2∨j=3∨j=4∨j=5∨j=6∨j=7:=by omega
   rcases hc with rfl | rfl | rfl | rfl | rfl | rfl | rfl | rfl <;> rfl
  exact this _ h8
 ·rw [Array.toList_range,List.getElem?_eq_none (by simpa using hi),List.getElem?_replicate,if_neg hi]
  rfl
theorem own_cleared {w:World} {base:Nat} {e:TypeId} {g n c:Nat} {xs zs:List Value} (h:w.ownsRow base e 8 (.slice (some ⟨g,0,none⟩) n c) n xs) (hz:zs.length=n * 8):(w.setCells g 0 zs).ownsRow base e 8 (.slice (some ⟨g,0,none⟩) n c) n zs:=by
 obtain ⟨hl,hh⟩:=h
 refine ⟨hz,?_⟩
 rcases hh with ⟨hh,_⟩ | ⟨g',c',cur,e1,r1,r2,r3,r4,r5,r6⟩
 ·cases hh
 ·cases e1
  have hs:n * 8≤cur.size:=by rw [r5];omega
  refine .inr ⟨g,c,_,rfl,r1,setCells_blk zs w g 0 cur e r2,r3,r4,by rw [setL_size];exact r5,?_⟩
  apply List.ext_getElem?
  intro i
  rw [List.getElem?_take]
  by_cases hi : i < n * 8
  ·rw [if_pos hi,Array.getElem?_toList,setL_get _ _ _ _ (by omega),if_pos (by omega),Nat.sub_zero]
  ·rw [if_neg hi,List.getElem?_eq_none (by omega)]
theorem own_parts {w:World} {base:Nat} {e:TypeId} {g n c:Nat} {xs:List Value} (h:w.ownsRow base e 8 (.slice (some ⟨g,0,none⟩) n c) n xs):∀ j,j<n * 8→(w.cell? ⟨g,0+j,none⟩).isSome=true∧w.frozen? ⟨g,0+j,none⟩=false:=fun j hj=>by
 rw [Nat.zero_add]
 refine ⟨?_,h.frozenAt j⟩
 rw [h.cellAt j hj]
 have:=h.1
 rw [List.getElem?_eq_getElem (by omega)]
 rfl
end Go.Proofs.YtfdhaknecjcjoaaGreatDoor

namespace Go.Proofs.YtfdhaknecjcjoaaGreatDoor
open Go Go.RowKit
set_option linter.unusedVariables false

theorem Tryz.info_set3:(Tryz.prog.info? 61).map (fun i=>(i.zero,i.size,i.bytes))=some (some (setV 0),8,64):=by kernel_rfl
theorem made_rows (n:Nat):(madeCells (setV 0).cells (n * 8)).toList=rowC (List.replicate n 0):=by
 rw [← zero_rows]
 simp [madeCells,Builtin.zeroCells,setV,cellsF,Value.cells]

set_option maxHeartbeats 8000000 in
set_option maxRecDepth 100000 in
theorem mpush_new {base : Nat} {w : World} {B : Nat} {tv : Value} {s : ByteArray} {rv sv : Value} {st : List RwP} (h : RD base w B tv s rv sv st []) (hs : s.size ≤ 511) (hn : st.length ≤ 8000000) :
  Calls Tryz.prog 158 #[.pointer (some ⟨B,0,none⟩)] w fun e w'=>∃ v rv' sv' sp',e=.returned v∧RD base w' B tv s rv' sv' (st ++ [(v,List.replicate (s.size+1) 0)]) sp'∧sp'.length≤0∧Below base w w'∧KN w w'∧KM w w':=by
 obtain ⟨sa,sc,rfl⟩:=own_shape h.spare
 obtain ⟨ra,rc,rfl⟩:=own_shape h.rows
 have HR:Hid (RD base w B tv s (.slice ra st.length rc) (.slice sa 0 sc) st []):=h
 obtain ⟨i0,hi0,hz0,hz1,hz2⟩:=info_parts Tryz.info_rows
 obtain ⟨i1,hi1,hy0,hy1,hy2⟩:=info_parts Tryz.info_set3
 have hmk:=fun w0=>run_make (P:=Tryz.prog) w0 89 61 i1 (setV 0) Tryz.underlying89 hi1 hy0 .i64 .i64 ((s.size+1:Nat):Int) ((s.size+1:Nat):Int) (by omega) (by omega) (by rw [hy2];omega) (by omega)
 rw [hy1,Int.toNat_natCast] at hmk
 obtain ⟨_,_,_,c3⟩:=h.cells
 have hBl0:=h.lt
 have HPL:Hid (Calls Tryz.prog 159 #[.pointer (some ⟨B,0,none⟩)] w fun e w'=>e=.returned (.int .i64 ((s.size+1:Nat):Int))∧w=w'):=mplaces_any h hs
 obtain ⟨gx,hgx⟩:∃ gx,w.heap.size=gx:=⟨_,rfl⟩
 obtain ⟨cx,hcx⟩:∃ cx,s.size+1=cx:=⟨_,rfl⟩
 have hfrom:=h.from_
 have hbw:base≤w.heap.size:=by omega
 have HB1:Hid (Below base w (w.alloc (.cells (madeCells (setV 0).cells ((s.size+1) * 8)) 61))):=(Below.refl _ _).alloc hbw _
 have HR1:Hid (RD base (w.alloc (.cells (madeCells (setV 0).cells ((s.size+1) * 8)) 61)) B tv s (.slice ra st.length rc) (.slice sa 0 sc) st []):=h.kept (fun k _ hk=>Below.heap_alloc _ _ _ hk)
 have HL:Hid (LR base (w.alloc (.cells (madeCells (setV 0).cells ((s.size+1) * 8)) 61)) (.slice (some ⟨gx,0,none⟩) (s.size+1) cx,List.replicate (s.size+1) 0) (st ++ []) (s.size+1)):=by
  refine ⟨?_,fun y hy b hb hb'=>?_,List.length_replicate⟩
  ·refine ⟨by rw [rowC_len],.inr ⟨gx,cx,_,by simp,by omega,by rw [← hgx];exact heap_alloc_new w _,by simp;omega,by unfold maxLen;omega,by rw [size_madeCells];omega,?_⟩⟩
   simp only [List.length_replicate]
   rw [made_rows,List.take_of_length_le (by rw [rowC_len];simp)]
  ·have h1:=((h.rowv y hy).lt b hb).2
   simp [Value.ownBlock] at hb'
   omega
 have HK1:Hid (KN w (w.alloc (.cells (madeCells (setV 0).cells ((s.size+1) * 8)) 61))):=KN.alloc w _
 have HM1:Hid (KM w (w.alloc (.cells (madeCells (setV 0).cells ((s.size+1) * 8)) 61))):=KM.alloc w _
 obtain ⟨W1,hW1⟩:∃ W1,w.alloc (.cells (madeCells (setV 0).cells ((s.size+1) * 8)) 61)=W1:=⟨_,rfl⟩
 obtain ⟨svN,hsvN⟩:∃ v,Value.slice sa 0 sc=v:=⟨_,rfl⟩
 have HSL:Hid (([]:List RwP).length≤0):=Nat.le_refl _
 have hmk2:∀ w0:World,w0=w→(Instr.makeSlice 89 (.int .i64 ((s.size+1:Nat):Int)) (.int .i64 ((s.size+1:Nat):Int))).run Tryz.prog w0=.ok (.slice (some ⟨gx,0,none⟩) (s.size+1) cx) W1:=fun w0 e=>by rw [e,hmk w,hW1,hgx,hcx]
 have hmk3:=hmk2 w rfl
 rw [hW1] at HR1 HL HB1 HK1 HM1
 rw [hsvN] at HR1
 have hneg:IntKind.i64.wrap ((0:Int) - 1) = -1:=by rfl
 obtain ⟨N,hN⟩:∃ N,s.size+1=N:=⟨_,rfl⟩
 rw [hN] at HPL hmk3 HL
 have HNN:Hid (s.size+1=N):=hN
 show Calls Tryz.prog 158 #[.pointer (some ⟨B,0,none⟩)] w fun e w'=>∃ v rv' sv' sp',e=.returned v∧RD base w' B tv s rv' sv' (st ++ [(v,List.replicate (s.size+1) 0)]) sp'∧sp'.length≤0∧Below base w w'∧KN w w'∧KM w w'
 rw [hN]
 clear h hmk hmk2 hW1 hgx hcx hsvN hN
 go_enter Tryz.func158,Tryz.ntmps158
 go_wp2_with fail
 refine HPL.out.mono ?_
 rintro e w0 ⟨rfl,rfl⟩
 clear c3
 obtain ⟨_,_,c2,_⟩:=HR1.out.cells
 have hBl:=HR1.out.lt
 have HRW:Hid (W1.ownsRow base 89 1 (.slice ra st.length rc) st.length (st.map Prod.fst)):=HR1.out.rows
 have hB2:base≤W1.heap.size:=by have:=HR1.out.from_;omega
 go_wp2_with (at_builtin;refine wpList_append_lies _ rfl _ _ 115 rfl base 89 i0 (.slice none 0 0) 1 24 Tryz.underlying115 hi0 hz0 hz1 hz2 rfl (by decide) _ _ _ rfl (HRW.out.alloc _) ⟨W1.heap.size,0,none⟩ 1 1 [.slice (some ⟨gx,0,none⟩) N cx] rfl rfl ?f1 ?f2 (by decide) ?f3 ?f4 ?f5 _ rfl ?_)
 case f1=>have:=cell_one_new W1 (.slice (some ⟨gx,0,none⟩) N cx) 89;simpa using this
 case f2=>intro u hu;simp at hu;subst hu;rfl
 case f3=>unfold maxLen;omega
 case f4=>omega
 case f5=>simp;omega
 intro g' c' w3 ho3 hg3 hp3 hl3
 have hg4:(W1.alloc (.cells #[.slice (some ⟨gx,0,none⟩) N cx] 89)).grownBy w3 (Value.slice ra st.length rc).ownBlock:=by first | exact hg3 | exact grown_drew hg3
 have HL2:=HL.out
 rw [← HNN.out] at HL2 ho3
 have hfin:=HR1.out.pushed HL2 ho3 hg4 (by rcases hp3 with h | h;exact .inl h;exact .inr (by omega))
 have hrB:=RD.notB (by decide) HR1.out.blk HR1.out.rows
 have hB3:w3.heap[B]?=some (.cells #[tv,.string s,.slice ra st.length rc,svN] 168 (0,0)):=by
  rw [hg4.block B (by simp;omega) (fun e=>hrB e.symm),Below.heap_alloc _ _ _ (by omega)]
  exact HR1.out.blk
 have c33:w3.cell? ⟨B,2,none⟩=some (.slice ra st.length rc):=by simp [World.cell?,hB3]
 have f33:w3.frozen? ⟨B,2,none⟩=false:=by simp [World.frozen?,hB3]
 rw [HNN.out] at hfin
 have HFIN:Hid _:=hfin
 have HMM:Hid (KM W1 (w3.setCell ⟨B,2,none⟩ (.slice (some ⟨g',0,none⟩) (st.length+1) c'))):=(KM.grownA hg4 (fun k hk=>by
  obtain ⟨cur,hc⟩:=own_type HRW.out k hk
  exact ⟨_,_,_,rfl,hc⟩)).trans (KM.setCell _ _ _ (RTy.rdr hB3))
 clear ho3 hg3 hg4 hp3 hl3 hB3 c2 hrB hfin HL2
 go_wp2_with fail
 go_ret
 exact ⟨_,_,_,_,rfl,HFIN.out.1,HSL.out,HB1.out.trans HFIN.out.2.1,HK1.out.trans HFIN.out.2.2,HM1.out.trans HMM.out⟩

theorem RD.notX {base:Nat} {w:World} {B:Nat} {tv:Value} {s:ByteArray} {rv sv:Value} {st sp:List RwP} {gx N cx:Nat} {r:List Nat} {n:Nat} (h:RD base w B tv s rv sv st sp) (hx:LR base w (.slice (some ⟨gx,0,none⟩) N cx,r) (st ++ sp) n) {w':World} (hk:∀ k,k≠gx→w'.heap[k]?=w.heap[k]?):RD base w' B tv s rv sv st sp:=by
 have hxo:=hx.own
 have hB:gx≠B:=fun e=>RD.notB (by decide) h.blk hxo (by rw [← e];rfl)
 refine ⟨(hk B (fun e=>hB e.symm)).trans h.blk,h.from_,own_of_heap h.rows (fun b hb=>hk b (fun e=>own_apart h.rows hxo (by decide) b hb (by rw [e];rfl))),own_of_heap h.spare (fun b hb=>hk b (fun e=>own_apart h.spare hxo (by decide) b hb (by rw [e];rfl))),h.ne,fun y hy=>own_of_heap (h.rowv y hy) (fun b hb=>hk b (fun e=>hx.apt y hy b hb (by rw [e];rfl))),h.apart,h.len⟩

set_option maxHeartbeats 8000000 in
set_option maxRecDepth 100000 in
theorem mpush_old {base : Nat} {w : World} {B : Nat} {tv : Value} {s : ByteArray} {rv sv : Value} {st sp : List RwP} {x : RwP} (h : RD base w B tv s rv sv st (sp ++ [x])) (hs : s.size ≤ 511) (hn : st.length ≤ 8000000) (hp : sp.length ≤ 8000000) :
  Calls Tryz.prog 158 #[.pointer (some ⟨B,0,none⟩)] w fun e w'=>∃ v rv' sv' sp',e=.returned v∧RD base w' B tv s rv' sv' (st ++ [(v,List.replicate (s.size+1) 0)]) sp'∧sp'.length≤sp.length∧Below base w w'∧KN w w'∧KM w w':=by
 obtain ⟨gs,sc,rfl,hsc⟩:∃ g c,sv=.slice (some ⟨g,0,none⟩) (sp.length+1) c∧sp.length+1≤c:=by
  obtain ⟨_,hh⟩:=h.spare
  rcases hh with ⟨_,h0⟩ | ⟨g,c,cur,e,_,_,hc,_⟩
  ·simp at h0
  ·rw [List.length_append,List.length_singleton] at e hc
   exact ⟨g,c,e,hc⟩
 obtain ⟨ra,rc,rfl⟩:=own_shape h.rows
 obtain ⟨xv,xr⟩:=x
 obtain ⟨gx,cx,hxv,hgx1,hgx2⟩:=h.block (x:=(xv,xr)) (by simp)
 simp only at hxv
 subst hxv
 have hgs:=(h.spare.lt gs rfl).2
 have cx0:w.cell? ⟨gs,sp.length,none⟩=some (.slice (some ⟨gx,0,none⟩) (s.size+1) cx):=by
  have:=h.spare.cells (g:=gs) rfl sp.length (.slice (some ⟨gx,0,none⟩) (s.size+1) cx) (by rw [List.map_append,List.getElem?_append_right (by simp)];simp)
  rw [Addr.add_lit,Nat.zero_add] at this
  exact this
 obtain ⟨hR0,hL0,hB0⟩:=h.taken
 obtain ⟨i0,hi0,hz0,hz1,hz2⟩:=info_parts Tryz.info_rows
 obtain ⟨i1,hi1,hy0,hy1,hy2⟩:=info_parts Tryz.info_set3
 have hv0:∀ w,(zeroValue 61).run Tryz.prog w=.ok (setV 0) w:=fun w=>by simp [zeroValue,typeInfo,hi1,hy0]
 obtain ⟨_,_,_,c3⟩:=h.cells
 have f3:w.frozen? ⟨B,3,none⟩=false:=by simp [World.frozen?,h.blk]
 have hBl0:=h.lt
 obtain ⟨k,hkd⟩:∃ k,sp.length=k:=⟨_,rfl⟩
 obtain ⟨m,hmd⟩:∃ m,k+1=m:=⟨_,rfl⟩
 obtain ⟨W0,hW0⟩:∃ W0,w.setCell ⟨B,3,none⟩ (.slice (some ⟨gs,0,none⟩) sp.length sc)=W0:=⟨_,rfl⟩
 rw [hW0] at hR0 hL0 hB0
 obtain ⟨zs,hzs⟩:∃ zs,rowC (List.replicate (s.size+1) 0)=zs:=⟨_,rfl⟩
 have hzl:zs.length=(s.size+1) * 8:=by rw [← hzs,rowC_len];simp
 have hz1c:∀ u ∈ zs,u.oneCell'=true:=by rw [← hzs];exact rowC_one _
 have hlx:=hL0.len
 have hown:=hL0.own
 simp only at hlx hown
 rw [hlx] at hown
 have hcl:∀ ty,(Builtin.clear_ #[89] ty #[.slice (some ⟨gx,0,none⟩) (s.size+1) cx]).run Tryz.prog W0.drew=.ok (.tuple #[]) (W0.drew.setCells gx 0 zs):=fun ty =>
  run_clear_any W0.drew 89 61 ty (setV 0) Tryz.underlying89 hv0 gx 0 (s.size+1) cx (by omega) zs (by rw [← hzs];exact zero_rows _) hz1c (fun j hj=>(own_parts hown j (by omega)).1) (fun j hj=>(own_parts hown j (by omega)).2)
 have hown2:(W0.drew.setCells gx 0 zs).ownsRow base 61 8 (.slice (some ⟨gx,0,none⟩) (s.size+1) cx) (s.size+1) zs:=own_cleared (w:=W0.drew) hown hzl
 have hk1:∀ k,k≠gx→(W0.drew.setCells gx 0 zs).heap[k]?=W0.heap[k]?:=fun k hk=>setCells_other zs W0.drew gx 0 k hk
 have HR1':=hR0.notX hL0 hk1
 have HL':LR base (W0.drew.setCells gx 0 zs) (.slice (some ⟨gx,0,none⟩) (s.size+1) cx,List.replicate (s.size+1) 0) (st ++ sp) (s.size+1):=⟨by simp only [List.length_replicate];rw [hzs];exact hown2,fun y hy b hb hb'=>hL0.apt y hy b hb hb',List.length_replicate⟩
 have HB1':Below base w (W0.drew.setCells gx 0 zs):=(hB0.drew).grown (setCells_grown zs W0.drew gx 0) (by have:=hR0.from_;have:=hR0.lt;show base≤W0.heap.size;omega) (fun k hk=>by cases hk;exact (hown.lt gx rfl).1)
 have HM1':KM w (W0.drew.setCells gx 0 zs):=by
  have k1:KM w W0:=by rw [← hW0];exact KM.setCell _ _ _ (RTy.rdr h.blk)
  exact k1.trans ((KM.same (w:=W0) (w':=W0.drew) fun _ _=>rfl).trans (KM.setCells gx zs 0 W0.drew (by
   obtain ⟨cur,hc⟩:=own_type hown gx rfl
   exact RTy.set hc)))
 have HK1':KN w (W0.drew.setCells gx 0 zs):=by
  have k1:KN w W0:=by rw [← hW0];exact KN.set h.blk (by decide) (fun k hk=>Below.heap_setCell _ _ _ _ hk)
  obtain ⟨cur,hcur⟩:=own_type hown gx rfl
  exact k1.trans (KN.set hcur (by decide) hk1)
 obtain ⟨W1,hW1⟩:∃ W1,W0.drew.setCells gx 0 zs=W1:=⟨_,rfl⟩
 rw [hW1] at hcl HR1' HL' HB1' HK1' HM1'
 have HK1:Hid (KN w W1):=HK1'
 have HM1:Hid (KM w W1):=HM1'
 obtain ⟨svN,hsvN⟩:∃ v,Value.slice (some ⟨gs,0,none⟩) sp.length sc=v:=⟨_,rfl⟩
 obtain ⟨N,hN⟩:∃ N,s.size+1=N:=⟨_,rfl⟩
 have HNN:Hid (s.size+1=N):=hN
 have HR1:Hid (RD base W1 B tv s (.slice ra st.length rc) svN st sp):=by show RD _ _ _ _ _ _ _ _ _;rw [← hsvN];exact HR1'
 have HL:Hid (LR base W1 (.slice (some ⟨gx,0,none⟩) N cx,List.replicate N 0) (st ++ sp) N):=by rw [hN] at HL';exact HL'
 have HB1:Hid (Below base w W1):=HB1'
 have HSL:Hid (sp.length≤sp.length):=Nat.le_refl _
 rw [hN] at hcl cx0 ⊢
 rw [hkd] at c3 cx0 hsc hp hW0
 rw [hmd] at c3
 have hw1:IntKind.i64.wrap ((m:Int) - 1)=(k:Int):=by rw [IntKind.wrap_i64];omega
 have hkm:(k:Int)<m:=by omega
 have hks:(k:Int)≤sc:=by omega
 have HWW:Hid (w.setCell ⟨B,3,none⟩ (.slice (some ⟨gs,0,none⟩) k sc)=W0):=hW0
 rw [← hW0] at hcl
 have HKM:Hid (k+1=m∧sp.length=k):=⟨hmd,hkd⟩
 have HSL:Hid (sp.length≤sp.length):=Nat.le_refl _
 clear h hR0 hL0 hB0 hW0 hzs hzl hz1c hlx hown hown2 hk1 HR1' HL' HB1' HK1' HM1' hW1 hsvN hN hkd hmd hv0 hi1 hy0 hy1 hy2
 go_enter Tryz.func158,Tryz.ntmps158
 go_wp2_with fail
 go_region
 clear c3 f3 cx0
 obtain ⟨_,_,c2,_⟩:=HR1.out.cells
 have hBl:=HR1.out.lt
 have HRW:Hid (W1.ownsRow base 89 1 (.slice ra st.length rc) st.length (st.map Prod.fst)):=HR1.out.rows
 have hB2:base≤W1.heap.size:=by have:=HR1.out.from_;omega
 go_wp2_with (at_builtin;refine wpList_append_lies _ rfl _ _ 115 rfl base 89 i0 (.slice none 0 0) 1 24 Tryz.underlying115 hi0 hz0 hz1 hz2 rfl (by decide) _ _ _ rfl (HRW.out.alloc _) ⟨W1.heap.size,0,none⟩ 1 1 [.slice (some ⟨gx,0,none⟩) N cx] rfl rfl ?f1 ?f2 (by decide) ?f3 ?f4 ?f5 _ rfl ?_)
 case f1=>have:=cell_one_new W1 (.slice (some ⟨gx,0,none⟩) N cx) 89;simpa using this
 case f2=>intro u hu;simp at hu;subst hu;rfl
 case f3=>unfold maxLen;omega
 case f4=>omega
 case f5=>simp;omega
 intro g' c' w3 ho3 hg3 hp3 hl3
 have hg4:(W1.alloc (.cells #[.slice (some ⟨gx,0,none⟩) N cx] 89)).grownBy w3 (Value.slice ra st.length rc).ownBlock:=by first | exact hg3 | exact grown_drew hg3
 have HL2:=HL.out
 rw [← HNN.out] at HL2 ho3
 have hfin:=HR1.out.pushed HL2 ho3 hg4 (by rcases hp3 with h | h;exact .inl h;exact .inr (by omega))
 have hrB:=RD.notB (by decide) HR1.out.blk HR1.out.rows
 have hB3:w3.heap[B]?=some (.cells #[tv,.string s,.slice ra st.length rc,svN] 168 (0,0)):=by
  rw [hg4.block B (by simp;omega) (fun e=>hrB e.symm),Below.heap_alloc _ _ _ (by omega)]
  exact HR1.out.blk
 have c33:w3.cell? ⟨B,2,none⟩=some (.slice ra st.length rc):=by simp [World.cell?,hB3]
 have f33:w3.frozen? ⟨B,2,none⟩=false:=by simp [World.frozen?,hB3]
 rw [HNN.out] at hfin
 have HFIN:Hid _:=hfin
 have HMM:Hid (KM W1 (w3.setCell ⟨B,2,none⟩ (.slice (some ⟨g',0,none⟩) (st.length+1) c'))):=(KM.grownA hg4 (fun k hk=>by
  obtain ⟨cur,hc⟩:=own_type HRW.out k hk
  exact ⟨_,_,_,rfl,hc⟩)).trans (KM.setCell _ _ _ (RTy.rdr hB3))
 clear ho3 hg3 hg4 hp3 hl3 hB3 c2 hrB hfin HL2
 go_wp2_with fail
 go_ret
 exact ⟨_,_,_,_,rfl,HFIN.out.1,HSL.out,HB1.out.trans HFIN.out.2.1,HK1.out.trans HFIN.out.2.2,HM1.out.trans HMM.out⟩

theorem mpush_any {base : Nat} {w : World} {B : Nat} {tv : Value} {s : ByteArray} {rv sv : Value} {st sp : List RwP} (h : RD base w B tv s rv sv st sp) (hs : s.size ≤ 511) (hn : st.length ≤ 8000000) (hp : sp.length ≤ 8000000) :
  Calls Tryz.prog 158 #[.pointer (some ⟨B,0,none⟩)] w fun e w'=>∃ v rv' sv' sp',e=.returned v∧RD base w' B tv s rv' sv' (st ++ [(v,List.replicate (s.size+1) 0)]) sp'∧sp'.length≤sp.length∧Below base w w'∧KN w w'∧KM w w':=by
 rcases List.eq_nil_or_concat sp with rfl | ⟨sp',x,rfl⟩
 ·exact mpush_new h hs hn
 ·rw [List.concat_eq_append] at *
  exact (mpush_old h hs hn (by simp at hp;omega)).mono fun e w' ⟨v,rv',sv',sp2,h1,h2,h3,h4⟩=>⟨v,rv',sv',sp2,h1,h2,by simp;omega,h4⟩
end Go.Proofs.YtfdhaknecjcjoaaGreatDoor

namespace Go.Proofs.YtfdhaknecjcjoaaGreatDoor
open Go Go.RowKit
set_option linter.unusedVariables false

theorem with_zero (i:Nat) (h:i<512):withN 0 (i:Int)=2 ^ i:=by
 unfold withN
 rw [if_pos (by omega),Int.toNat_natCast,Nat.zero_or]

theorem setV_zero:setV 0=.agg #[.int .u64 0,.int .u64 0,.int .u64 0,.int .u64 0,.int .u64 0,.int .u64 0,.int .u64 0,.int .u64 0]:=by
 simp [setV,cellsF,word_zero]

set_option maxHeartbeats 4000000 in
set_option maxRecDepth 100000 in
theorem monly_any (i:Nat) (hi:i<512) (w:World):Calls Tryz.prog 160 #[.int .i64 (i:Int)] w fun e w'=>e=.returned (setV (2 ^ i))∧Below w.heap.size w w':=by
 have HX:Hid (withN 0 (i:Int)=2 ^ i):=with_zero i hi
 have HWI:Hid (∀ w',Calls Tryz.prog 167 #[.agg #[.int .u64 0,.int .u64 0,.int .u64 0,.int .u64 0,.int .u64 0,.int .u64 0,.int .u64 0,.int .u64 0],.int .i64 (i:Int)] w' fun e w''=>e=.returned (.tuple #[setV (withN 0 i),.int .i64 (oneE i)])∧Below w'.heap.size w' w''):=fun w'=>by
  have:=with_any 0 i w'
  rw [setV_zero] at this
  exact this
 have HC0:Hid (Cells8 (w.alloc (.cells (cellsF fun _=>0) 61)) w.heap.size (fun _=>0)):=Cells8.last w _
 have HB0:Hid (Below w.heap.size w (w.alloc (.cells (cellsF fun _=>0) 61))):=(Below.refl _ _).alloc (Nat.le_refl _) _
 unfold cellsF at HC0 HB0
 go_enter Tryz.func160,Tryz.ntmps160
 go_wp2_with fail
 refine (HWI.out _).mono ?_
 rintro e w1 ⟨rfl,hb1⟩
 rw [HX.out]
 obtain ⟨X,hX⟩:∃ X,2 ^ i=X:=⟨_,rfl⟩
 rw [hX]
 have HXX:Hid (2 ^ i=X):=hX
 have HC1:Hid (Cells8 (w1.alloc (.cells (cellsF (word X)) 61)) w.heap.size (fun _=>0)):=(HC0.out.stay hb1).alloc _
 have HB1:Hid (Below w.heap.size w (w1.alloc (.cells (cellsF (word X)) 61))):=(go_on HB0.out hb1).alloc (go_on HB0.out hb1).size _
 obtain ⟨d0,d1,d2,d3,d4,d5,d6,d7⟩:=HC1.out.gets
 have f0:=HC1.out.frozen 0
 have f1:=HC1.out.frozen 1
 have f2:=HC1.out.frozen 2
 have f3:=HC1.out.frozen 3
 have f4:=HC1.out.frozen 4
 have f5:=HC1.out.frozen 5
 have f6:=HC1.out.frozen 6
 have f7:=HC1.out.frozen 7
 unfold cellsF at HC1 HB1 d0 d1 d2 d3 d4 d5 d6 d7 f0 f1 f2 f3 f4 f5 f6 f7
 unfold setV cellsF
 clear hX hb1 HC0 HB0
 go_wp2_with fail
 obtain ⟨h8,hB⟩:=st8 HC1.out HB1.out (Nat.le_refl _) (word X) rfl rfl rfl rfl rfl rfl rfl rfl
 refine bodyPost_ret (results_set rfl rfl h8) rfl ⟨?_,hB⟩
 rw [← HXX.out]
 rfl
end Go.Proofs.YtfdhaknecjcjoaaGreatDoor

namespace Go.Proofs.YtfdhaknecjcjoaaGreatDoor
open Go Go.RowKit
set_option linter.unusedVariables false

/-- A word's letters as numbers. -/
def wl (s:ByteArray):List Int:=s.data.toList.map fun b=>(b.toNat:Int)
theorem wl_len (s:ByteArray):(wl s).length=s.size:=by simp [wl]
theorem wl_at (s:ByteArray) (i:Nat) (h:i<s.size):(wl s).getD i 0=((s[i]'h).toNat:Int):=by
 have h':i<s.data.size:=h
 rw [List.getD_eq_getElem?_getD,wl,List.getElem?_map,Array.getElem?_toList,Array.getElem?_eq_getElem h']
 rfl
def put8 (w:World) (g o M:Nat):World:=(((((((w.setCell ⟨g,o,none⟩ (.int .u64 (word M 0:Nat))).setCell ⟨g,o+1,none⟩ (.int .u64 (word M 1:Nat))).setCell ⟨g,o+2,none⟩ (.int .u64 (word M 2:Nat))).setCell ⟨g,o+3,none⟩ (.int .u64 (word M 3:Nat))).setCell ⟨g,o+4,none⟩ (.int .u64 (word M 4:Nat))).setCell ⟨g,o+5,none⟩ (.int .u64 (word M 5:Nat))).setCell ⟨g,o+6,none⟩ (.int .u64 (word M 6:Nat))).setCell ⟨g,o+7,none⟩ (.int .u64 (word M 7:Nat))
theorem put8_other (w:World) (g o M k:Nat) (h:k≠g):(put8 w g o M).heap[k]?=w.heap[k]?:=by
 unfold put8
 rw [Below.heap_setCell _ _ _ _ h,Below.heap_setCell _ _ _ _ h,Below.heap_setCell _ _ _ _ h,Below.heap_setCell _ _ _ _ h,Below.heap_setCell _ _ _ _ h,Below.heap_setCell _ _ _ _ h,Below.heap_setCell _ _ _ _ h,Below.heap_setCell _ _ _ _ h]
theorem put8_below {base:Nat} {w wr:World} (h:BK base w wr) {g:Nat} (hg:base≤g) (ht:RTy wr g) (o M:Nat):BK base w (put8 wr g o M):=by
 unfold put8
 have t1:=ht.setCell ⟨g,o,none⟩ (.int .u64 (word M 0:Nat))
 have t2:=t1.setCell ⟨g,o+1,none⟩ (.int .u64 (word M 1:Nat))
 have t3:=t2.setCell ⟨g,o+2,none⟩ (.int .u64 (word M 2:Nat))
 have t4:=t3.setCell ⟨g,o+3,none⟩ (.int .u64 (word M 3:Nat))
 have t5:=t4.setCell ⟨g,o+4,none⟩ (.int .u64 (word M 4:Nat))
 have t6:=t5.setCell ⟨g,o+5,none⟩ (.int .u64 (word M 5:Nat))
 have t7:=t6.setCell ⟨g,o+6,none⟩ (.int .u64 (word M 6:Nat))
 exact (((((((h.setCell (p:=⟨g,o,none⟩) hg ht _).setCell (p:=⟨g,o+1,none⟩) hg t1 _).setCell (p:=⟨g,o+2,none⟩) hg t2 _).setCell (p:=⟨g,o+3,none⟩) hg t3 _).setCell (p:=⟨g,o+4,none⟩) hg t4 _).setCell (p:=⟨g,o+5,none⟩) hg t5 _).setCell (p:=⟨g,o+6,none⟩) hg t6 _).setCell (p:=⟨g,o+7,none⟩) hg t7 _
/-- A row's block is of sets. -/
theorem own_rty {w:World} {base:Nat} {g n c m:Nat} {xs:List Value} (h:w.ownsRow base 61 8 (.slice (some ⟨g,0,none⟩) n c) m xs):RTy w g:=by
 obtain ⟨cur,hc⟩:=own_type h g rfl
 exact RTy.set hc
theorem RD.rty {base:Nat} {w:World} {B:Nat} {tv:Value} {s:ByteArray} {rv sv:Value} {st sp:List RwP} {g N c:Nat} {r:List Nat} (h:RD base w B tv s rv sv st sp) (hx:(Value.slice (some ⟨g,0,none⟩) N c,r) ∈ st ++ sp):RTy w g:=own_rty (h.rowv _ hx)
theorem put8_own {w:World} {base:Nat} {g N c:Nat} {r:List Nat} (h:w.ownsRow base 61 8 (.slice (some ⟨g,0,none⟩) N c) N (rowC r)) (p M:Nat) (hp:p<r.length):(put8 w g (p * 8) M).ownsRow base 61 8 (.slice (some ⟨g,0,none⟩) N c) N (rowC (r.set p M)):=by
 unfold put8
 rw [rowC_set r p M hp]
 exact (((((((((h.stored (p * 8) (.int .u64 (word M 0 : Nat))).1.stored (p * 8 + 1) (.int .u64 (word M 1 : Nat))).1.stored (p * 8 + 2) (.int .u64 (word M 2 : Nat))).1.stored (p * 8 + 3) (.int .u64 (word M 3 : Nat))).1.stored (p * 8 + 4) (.int .u64 (word M 4 : Nat))).1.stored (p * 8 + 5) (.int .u64 (word M 5 : Nat))).1.stored (p * 8 + 6) (.int .u64 (word M 6 : Nat))).1.stored (p * 8 + 7) (.int .u64 (word M 7 : Nat))).1)
/-- A row's set, as it is read. -/
structure At8 (w : World) (g o N : Nat) : Prop where
 c0:w.cell? ⟨g,o,none⟩=some (.int .u64 (word N 0:Nat))
 c1:w.cell? ⟨g,o+1,none⟩=some (.int .u64 (word N 1:Nat))
 c2:w.cell? ⟨g,o+2,none⟩=some (.int .u64 (word N 2:Nat))
 c3:w.cell? ⟨g,o+3,none⟩=some (.int .u64 (word N 3:Nat))
 c4:w.cell? ⟨g,o+4,none⟩=some (.int .u64 (word N 4:Nat))
 c5:w.cell? ⟨g,o+5,none⟩=some (.int .u64 (word N 5:Nat))
 c6:w.cell? ⟨g,o+6,none⟩=some (.int .u64 (word N 6:Nat))
 c7:w.cell? ⟨g,o+7,none⟩=some (.int .u64 (word N 7:Nat))
structure Fz8 (w : World) (g o : Nat) : Prop where
 f0:w.frozen? ⟨g,o,none⟩=false
 f1:w.frozen? ⟨g,o+1,none⟩=false
 f2:w.frozen? ⟨g,o+2,none⟩=false
 f3:w.frozen? ⟨g,o+3,none⟩=false
 f4:w.frozen? ⟨g,o+4,none⟩=false
 f5:w.frozen? ⟨g,o+5,none⟩=false
 f6:w.frozen? ⟨g,o+6,none⟩=false
 f7:w.frozen? ⟨g,o+7,none⟩=false
theorem own_at8 {w:World} {base:Nat} {g N c:Nat} {r:List Nat} (h:w.ownsRow base 61 8 (.slice (some ⟨g,0,none⟩) N c) N (rowC r)) (hl:r.length=N) (p:Nat) (hp:p<N):At8 w g (p * 8) (r.getD p 0)∧Fz8 w g (p * 8):=by
 have hc:∀ k,k<8→w.cell? ⟨g,p * 8+k,none⟩=(cells8 (r.getD p 0))[k]?:=fun k hk=>by
  rw [h.cellAt (p * 8+k) (by omega),rowC_at r p k (by omega) hk]
 exact ⟨⟨hc 0 (by decide),hc 1 (by decide),hc 2 (by decide),hc 3 (by decide),hc 4 (by decide),hc 5 (by decide),hc 6 (by decide),hc 7 (by decide)⟩,⟨h.frozenAt _,h.frozenAt _,h.frozenAt _,h.frozenAt _,h.frozenAt _,h.frozenAt _,h.frozenAt _,h.frozenAt _⟩⟩
theorem RD.own {base:Nat} {w:World} {B:Nat} {tv:Value} {s:ByteArray} {rv sv:Value} {st sp:List RwP} {g N c:Nat} {r:List Nat} (h:RD base w B tv s rv sv st sp) (hx:(Value.slice (some ⟨g,0,none⟩) N c,r) ∈ st ++ sp) (hN:s.size+1=N):w.ownsRow base 61 8 (.slice (some ⟨g,0,none⟩) N c) N (rowC r)∧r.length=N:=by
 have h1:=h.rowv _ hx
 have h2:=h.len _ hx
 simp only at h1 h2
 rw [h2,hN] at h1
 exact ⟨h1,by rw [h2,hN]⟩
theorem RD.stored {base:Nat} {w:World} {B:Nat} {tv:Value} {s:ByteArray} {rv sv:Value} {st sp:List RwP} {g N c:Nat} {r:List Nat} (h:RD base w B tv s rv sv (st ++ [(.slice (some ⟨g,0,none⟩) N c,r)]) sp) (hN:s.size+1=N) (p M:Nat) (hp:p<N) :
  RD base (put8 w g (p * 8) M) B tv s rv sv (st ++ [(.slice (some ⟨g,0,none⟩) N c,r.set p M)]) sp:=by
 obtain ⟨ho,hl⟩:=h.own (g:=g) (N:=N) (c:=c) (r:=r) (by simp) hN
 have hgB:g≠B:=fun e=>RD.notB (by decide) h.blk ho (by rw [← e];rfl)
 have hmap:(st ++ [(Value.slice (some ⟨g,0,none⟩) N c,r.set p M)]).map Prod.fst=(st ++ [(Value.slice (some ⟨g,0,none⟩) N c,r)]).map Prod.fst:=by simp
 have hlen:(st ++ [(Value.slice (some ⟨g,0,none⟩) N c,r.set p M)]).length=(st ++ [(Value.slice (some ⟨g,0,none⟩) N c,r)]).length:=by simp
 have hap:=h.apart
 have hoth:∀ y ∈ st ++ sp,y.1.ownBlock≠some g:=fun y hy e=>by
  rcases List.mem_append.1 hy with hy | hy
  ·exact (List.pairwise_append.1 (List.pairwise_append.1 hap).1).2.2 y hy (Value.slice (some ⟨g,0,none⟩) N c,r) (by simp) g e rfl
  ·exact (List.pairwise_append.1 hap).2.2 (Value.slice (some ⟨g,0,none⟩) N c,r) (by simp) y hy g rfl e
 have hmem:∀ y,y ∈ st ++ [(Value.slice (some ⟨g,0,none⟩) N c,r.set p M)] ++ sp→y=(Value.slice (some ⟨g,0,none⟩) N c,r.set p M)∨y ∈ st ++ sp:=fun y hy=>by simp only [List.mem_append,List.mem_singleton] at *;grind
 have hsub:∀ y,y ∈ st ++ sp→y ∈ st ++ [(Value.slice (some ⟨g,0,none⟩) N c,r)] ++ sp:=fun y hy=>by simp only [List.mem_append] at *;grind
 refine ⟨(put8_other w g _ M B (fun e=>hgB e.symm)).trans h.blk,h.from_,?_,?_,h.ne,?_,?_,?_⟩
 ·rw [hmap,hlen]
  exact own_of_heap h.rows (fun b hb=>put8_other w g _ M b (fun e=>own_apart h.rows ho (by decide) b hb (by rw [e];rfl)))
 ·exact own_of_heap h.spare (fun b hb=>put8_other w g _ M b (fun e=>own_apart h.spare ho (by decide) b hb (by rw [e];rfl)))
 ·intro y hy
  rcases hmem y hy with rfl | hy
  ·simp only [List.length_set]
   rw [hl]
   exact put8_own ho p M (by omega)
  ·exact own_of_heap (h.rowv y (hsub y hy)) (fun b hb=>put8_other w g _ M b (fun e=>hoth y hy (by rw [← e];exact hb)))
 ·have:(st ++ [(Value.slice (some ⟨g,0,none⟩) N c,r.set p M)] ++ sp).Pairwise Apt:=by
   rw [List.pairwise_append,List.pairwise_append] at hap ⊢
   obtain ⟨⟨a1,a2,a3⟩,a4,a5⟩:=hap
   refine ⟨⟨a1,by simp,fun x hx y hy=>?_⟩,a4,fun x hx y hy=>?_⟩
   ·rw [List.mem_singleton] at hy
    rw [hy]
    exact a3 x hx (Value.slice (some ⟨g,0,none⟩) N c,r) (by simp)
   ·rcases List.mem_append.1 hx with hx | hx
    ·exact a5 x (by simp [hx]) y hy
    ·rw [List.mem_singleton] at hx
     rw [hx]
     exact a5 (.slice (some ⟨g,0,none⟩) N c,r) (by simp) y hy
  exact this
 ·intro y hy
  rcases hmem y hy with rfl | hy
  ·simp only [List.length_set];omega
  ·exact h.len y (hsub y hy)
/-- What a method leaves: one row more, of what P has. -/
def Leaf (P : List Int → Prop) (base : Nat) (B : Nat) (tv : Value) (s : ByteArray) (st sp : List RwP) (w : World) (e : Ending) (w' : World) : Prop :=
 e=.returned (.tuple #[])∧∃ rv' sv' sp' v r,RD base w' B tv s rv' sv' (st ++ [(v,r)]) sp'∧sp'.length≤sp.length∧RowOk P (wl s) r∧BK base w w'
theorem rep_get (n p:Nat):(List.replicate n 0).getD p 0=0:=by
 rw [List.getD_eq_getElem?_getD,List.getElem?_replicate]
 split <;> rfl

set_option maxHeartbeats 2000000 in
set_option maxRecDepth 100000 in
theorem mnone_any {base : Nat} {w : World} {B : Nat} {tv : Value} {s : ByteArray} {rv sv : Value} {st sp : List RwP} (h : RD base w B tv s rv sv st sp) (hs : s.size ≤ 511) (hn : st.length ≤ 8000000) (hp : sp.length ≤ 8000000) (k s0 : Int) :
  Calls Tryz.prog 148 #[.pointer (some ⟨B,0,none⟩),.agg #[.int .i64 k,.int .u8 s0]] w (Leaf (fun _=>False) base B tv s st sp w):=by
 unfold Leaf
 have HR:Hid (RD base (w.alloc (.cells #[.int .i64 k,.int .u8 s0] 51)) B tv s rv sv st sp):=h.stay ((Below.refl _ _).alloc (Nat.le_refl _) _)
 have HB:Hid (BK base w (w.alloc (.cells #[.int .i64 k,.int .u8 s0] 51))):=(BK.refl _ _).alloc (by have:=h.from_;have:=h.lt;omega) _
 clear h
 go_enter Tryz.func148,Tryz.ntmps148
 go_wp2_with fail
 refine (mpush_any HR.out hs hn hp).mono ?_
 rintro e w1 ⟨v,rv',sv',sp',rfl,hr1,hl1,hb1,hk1,hm1⟩
 have HR1:Hid _:=hr1
 have HB1:Hid (BK base w w1):=HB.out.trans ⟨hb1,hm1⟩
 clear hr1 hb1 hk1 hm1
 go_wp2_with fail
 refine bodyPost_end (results_none rfl _ _ _) rfl ?_
 refine ⟨rfl,_,_,_,_,_,HR1.out,hl1,⟨by rw [wl_len];simp,fun p hp q=>?_⟩,HB1.out⟩
 rw [rep_get]
 simp
theorem set_get (r:List Nat) (i p M:Nat) (h:i<r.length):(r.set i M).getD p 0=if p=i then M else r.getD p 0:=by
 rw [List.getD_eq_getElem?_getD,List.getD_eq_getElem?_getD]
 by_cases e : p = i
 ·subst e;rw [if_pos rfl,List.getElem?_set_self h];rfl
 ·rw [if_neg e,List.getElem?_set_ne (fun h=>e h.symm)]
theorem ends_empty (W:List Int) (p:Nat) (hp:p≤W.length):EndsOk (fun u=>u=[]) W p (2 ^ p):=by
 intro q
 rw [Nat.testBit_two_pow]
 constructor
 ·intro h
  have:p=q:=by simpa using h
  subst this
  exact ⟨Nat.le_refl _,hp,sub_self W p⟩
 ·rintro ⟨h1,h2,h3⟩
  simpa using (sub_nil h1 h2).1 h3

set_option maxHeartbeats 4000000 in
set_option maxRecDepth 100000 in
theorem mempty_any {base : Nat} {w : World} {B : Nat} {tv : Value} {s : ByteArray} {rv sv : Value} {st sp : List RwP} (h : RD base w B tv s rv sv st sp) (hs : s.size ≤ 511) (hn : st.length ≤ 8000000) (hp : sp.length ≤ 8000000) (k s0 : Int) :
  Calls Tryz.prog 149 #[.pointer (some ⟨B,0,none⟩),.agg #[.int .i64 k,.int .u8 s0]] w (Leaf (fun u=>u=[]) base B tv s st sp w):=by
 unfold Leaf
 have HR:Hid (RD base (w.alloc (.cells #[.int .i64 k,.int .u8 s0] 51)) B tv s rv sv st sp):=h.stay ((Below.refl _ _).alloc (Nat.le_refl _) _)
 have HB:Hid (BK base w (w.alloc (.cells #[.int .i64 k,.int .u8 s0] 51))):=(BK.refl _ _).alloc (by have:=h.from_;have:=h.lt;omega) _
 clear h
 go_enter Tryz.func149,Tryz.ntmps149
 go_wp2_with fail
 refine (mpush_any HR.out hs hn hp).mono ?_
 rintro e w1 ⟨v,rv',sv',sp',rfl,hr1,hl1,hb1,hk1,hm1⟩
 obtain ⟨g,c,hv,hg1,_⟩:=hr1.block (x:=(v,List.replicate (s.size+1) 0)) (by simp)
 simp only at hv
 subst hv
 have HP1:Hid (Calls Tryz.prog 159 #[.pointer (some ⟨B,0,none⟩)] w1 fun e w'=>e=.returned (.int .i64 ((s.size+1:Nat):Int))∧w1=w'):=mplaces_any hr1 hs
 obtain ⟨N,hN⟩:∃ N,s.size+1=N:=⟨_,rfl⟩
 rw [hN] at hr1 HP1 ⊢
 have HR1:Hid (RD base w1 B tv s rv' sv' (st ++ [(.slice (some ⟨g,0,none⟩) N c,List.replicate N 0)]) sp'):=hr1
 have HB1:Hid (BK base w w1):=HB.out.trans ⟨hb1,hm1⟩
 have HNN:Hid (s.size+1=N):=hN
 have hN5:N≤512:=by omega
 clear hr1 hb1 hN HR HB hk1 hm1
 go_wp2_with fail
 refine HP1.out.mono ?_
 rintro e w1' ⟨rfl,rfl⟩
 go_wp2_with fail
 go_loopw [10] (fun vi wr=>∃ (i:Nat) (r:List Nat),i≤N∧vi=.int .i64 (i:Int)∧RD base wr B tv s rv' sv' (st ++ [(.slice (some ⟨g,0,none⟩) N c,r)]) sp'∧(∀ p,p<i→r.getD p 0=2 ^ p)∧BK base w wr) (fun vi _=>N - (intOf vi).toNat)
 case atStart=>exact ⟨0,_,Nat.zero_le _,rfl,HR1.out,fun p hp=>by omega,HB1.out⟩
 case round =>
  clear HR1 HB1 HP1
  obtain ⟨i,r,hi,rfl,hr,hrow,hb⟩:=hrel
  have HR2:Hid (RD base wr B tv s rv' sv' (st ++ [(.slice (some ⟨g,0,none⟩) N c,r)]) sp'):=hr
  have HB2:Hid (BK base w wr):=hb
  have HROW:Hid (∀ p,p<i→r.getD p 0=2 ^ p):=hrow
  clear hr hrow hb
  by_cases hlt : i < N
  ·have hiI:(i:Int)<N:=by omega
   have hi5:i<512:=by omega
   go_wp2_with fail
   refine (monly_any i hi5 _).mono ?_
   rintro e w3 ⟨rfl,hb3⟩
   have HR3:Hid (RD base w3 B tv s rv' sv' (st ++ [(.slice (some ⟨g,0,none⟩) N c,r)]) sp'):=HR2.out.stay hb3
   have HB3:Hid (BK base w w3):=HB2.out.trans (BK.up hb3 (by have:=HR2.out.from_;have:=HR2.out.lt;omega))
   obtain ⟨ho,hl⟩:=HR3.out.own (g:=g) (N:=N) (c:=c) (r:=r) (by simp) HNN.out
   obtain ⟨h8,z8⟩:=own_at8 ho hl i hlt
   obtain ⟨c0,c1,c2,c3,c4,c5,c6,c7⟩:=h8
   obtain ⟨f0,f1,f2,f3,f4,f5,f6,f7⟩:=z8
   obtain ⟨X,hX⟩:∃ X,2 ^ i=X:=⟨_,rfl⟩
   rw [hX]
   have HF:Hid (RD base (put8 w3 g (i * 8) X) B tv s rv' sv' (st ++ [(.slice (some ⟨g,0,none⟩) N c,r.set i X)]) sp'∧BK base w (put8 w3 g (i * 8) X)∧∀ p,p<i+1→(r.set i X).getD p 0=2 ^ p):=by
    refine ⟨HR3.out.stored HNN.out i X hlt,put8_below HB3.out hg1 (HR3.out.rty (g:=g) (N:=N) (c:=c) (r:=r) (by simp)) _ _,fun p hp=>?_⟩
    rw [set_get r i p X (by omega)]
    by_cases e : p = i
    ·rw [if_pos e,e,hX]
    ·rw [if_neg e];exact HROW.out p (by omega)
   clear hX hb3 ho hl HR2 HB2
   unfold setV cellsF
   go_wp2_with fail
   go_roundw
   case rel=>exact ⟨i+1,_,by omega,by go_num,HF.out.1,HF.out.2.2,HF.out.2.1⟩
   case measure=>simp [intOf];omega
  ·obtain rfl:i=N:=by omega
   have hiI:¬ (i:Int)<i:=by omega
   obtain ⟨ho,hl⟩:=HR2.out.own (g:=g) (N:=i) (c:=c) (r:=r) (by simp) HNN.out
   have HOK:Hid (RowOk (fun u=>u=[]) (wl s) r):=⟨by rw [wl_len,hl,HNN.out],fun p hp=>by
    rw [HROW.out p (by rw [wl_len] at hp;have:=HNN.out;omega)]
    exact ends_empty _ p hp⟩
   clear ho hl
   go_wp2_with fail
   refine bodyPost_end (results_none rfl _ _ _) rfl ?_
   exact ⟨rfl,_,_,_,_,_,HR2.out,hl1,HOK.out,HB2.out⟩
end Go.Proofs.YtfdhaknecjcjoaaGreatDoor

namespace Go.Proofs.YtfdhaknecjcjoaaGreatDoor
open Go Go.RowKit
set_option linter.unusedVariables false

theorem ends_any (W:List Int) (p:Nat) (hp:p≤W.length):EndsOk (fun u=>u.length=1) W p (if p<W.length then 2 ^ (p+1) else 0):=by
 intro q
 by_cases h : p < W.length
 ·rw [if_pos h,Nat.testBit_two_pow]
  constructor
  ·intro e
   have:p+1=q:=by simpa using e
   subst this
   exact ⟨by omega,by omega,by show (sub W p (p+1)).length=1;rw [sub_len (by omega) (by omega)];omega⟩
  ·rintro ⟨h1,h2,h3⟩
   have h3:(sub W p q).length=1:=h3
   rw [sub_len h1 h2] at h3
   have:p+1=q:=by omega
   simpa using this
 ·rw [if_neg h]
  constructor
  ·intro e;simp at e
  ·rintro ⟨h1,h2,h3⟩
   have h3:(sub W p q).length=1:=h3
   rw [sub_len h1 h2] at h3
   omega
theorem ends_letter (W:List Int) (c:Int) (p:Nat) (hp:p≤W.length):EndsOk (fun u=>u=[c]) W p (if p<W.length∧W.getD p 0=c then 2 ^ (p+1) else 0):=by
 intro q
 have key:p≤q∧q≤W.length∧sub W p q=[c]↔(p<W.length∧W.getD p 0=c)∧p+1=q:=by
  constructor
  ·rintro ⟨h1,h2,h3⟩
   have hl:=sub_len h1 h2
   rw [h3] at hl
   simp at hl
   have e:p+1=q:=by omega
   subst e
   have hp1:p<W.length:=by omega
   rw [sub_one hp1] at h3
   exact ⟨⟨hp1,by simpa using h3⟩,rfl⟩
  ·rintro ⟨⟨h1,h2⟩,rfl⟩
   exact ⟨by omega,by omega,by rw [sub_one h1,h2]⟩
 show _↔p≤q∧q≤W.length∧sub W p q=[c]
 rw [key]
 by_cases h:p<W.length∧W.getD p 0=c
 ·rw [if_pos h,Nat.testBit_two_pow]
  constructor
  ·intro e;exact ⟨h,by simpa using e⟩
  ·rintro ⟨_,e⟩;simpa using e
 ·rw [if_neg h]
  constructor
  ·intro e;simp at e
  ·rintro ⟨h1,_⟩;exact absurd h1 h

set_option maxHeartbeats 4000000 in
set_option maxRecDepth 100000 in
theorem manyL_any {base : Nat} {w : World} {B : Nat} {tv : Value} {s : ByteArray} {rv sv : Value} {st sp : List RwP} (h : RD base w B tv s rv sv st sp) (hs : s.size ≤ 511) (hn : st.length ≤ 8000000) (hp : sp.length ≤ 8000000) (k s0 : Int) :
  Calls Tryz.prog 151 #[.pointer (some ⟨B,0,none⟩),.agg #[.int .i64 k,.int .u8 s0]] w (Leaf (fun u=>u.length=1) base B tv s st sp w):=by
 unfold Leaf
 have HR:Hid (RD base (w.alloc (.cells #[.int .i64 k,.int .u8 s0] 51)) B tv s rv sv st sp):=h.stay ((Below.refl _ _).alloc (Nat.le_refl _) _)
 have HB:Hid (BK base w (w.alloc (.cells #[.int .i64 k,.int .u8 s0] 51))):=(BK.refl _ _).alloc (by have:=h.from_;have:=h.lt;omega) _
 clear h
 go_enter Tryz.func151,Tryz.ntmps151
 go_wp2_with fail
 refine (mpush_any HR.out hs hn hp).mono ?_
 rintro e w1 ⟨v,rv',sv',sp',rfl,hr1,hl1,hb1,hk1,hm1⟩
 obtain ⟨g,c,hv,hg1,_⟩:=hr1.block (x:=(v,List.replicate (s.size+1) 0)) (by simp)
 simp only at hv
 subst hv
 obtain ⟨_,d1,_,_⟩:=hr1.cells
 have hBl:=hr1.lt
 obtain ⟨N,hN⟩:∃ N,s.size+1=N:=⟨_,rfl⟩
 rw [hN] at hr1 ⊢
 have HR1:Hid (RD base w1 B tv s rv' sv' (st ++ [(.slice (some ⟨g,0,none⟩) N c,List.replicate N 0)]) sp'):=hr1
 have HB1:Hid (BK base w w1):=HB.out.trans ⟨hb1,hm1⟩
 have HNN:Hid (s.size+1=N):=hN
 have hN5:N≤512:=by omega
 clear hr1 hb1 hN HR HB hk1 hm1
 go_wp2_with fail
 go_loopw [13] (fun vi wr=>∃ (i:Nat) (r:List Nat),i≤s.size∧vi=.int .i64 (i:Int)∧RD base wr B tv s rv' sv' (st ++ [(.slice (some ⟨g,0,none⟩) N c,r)]) sp'∧(∀ p,r.getD p 0=if p<i then 2 ^ (p+1) else 0)∧BK base w wr) (fun vi _=>s.size - (intOf vi).toNat)
 case atStart=>exact ⟨0,_,Nat.zero_le _,rfl,HR1.out,fun p=>by rw [rep_get,if_neg (by omega)],HB1.out⟩
 case round =>
  clear HR1 HB1 d1
  obtain ⟨i,r,hi,rfl,hr,hrow,hb⟩:=hrel
  have HR2:Hid (RD base wr B tv s rv' sv' (st ++ [(.slice (some ⟨g,0,none⟩) N c,r)]) sp'):=hr
  have HB2:Hid (BK base w wr):=hb
  have HROW:Hid (∀ p,r.getD p 0=if p<i then 2 ^ (p+1) else 0):=hrow
  clear hr hrow hb
  by_cases hlt : i < s.size
  ·have hiI:(i:Int)<s.size:=by omega
   have hiN:i<N:=by have:=HNN.out;omega
   have hiI2:(i:Int)<N:=by omega
   obtain ⟨j,hj⟩:∃ j,i+1=j:=⟨_,rfl⟩
   have hwj:IntKind.i64.wrap ((i:Int)+1)=(j:Int):=by rw [IntKind.wrap_i64];omega
   have hj5:j<512:=by have:=HNN.out;omega
   have HJ:Hid (i+1=j):=hj
   clear hj
   go_wp2_with fail
   refine (monly_any j hj5 _).mono ?_
   rintro e w3 ⟨rfl,hb3⟩
   have HR3:Hid (RD base w3 B tv s rv' sv' (st ++ [(.slice (some ⟨g,0,none⟩) N c,r)]) sp'):=HR2.out.stay hb3
   have HB3:Hid (BK base w w3):=HB2.out.trans (BK.up hb3 (by have:=HR2.out.from_;have:=HR2.out.lt;omega))
   obtain ⟨ho,hl⟩:=HR3.out.own (g:=g) (N:=N) (c:=c) (r:=r) (by simp) HNN.out
   obtain ⟨h8,z8⟩:=own_at8 ho hl i hiN
   obtain ⟨c0,c1,c2,c3,c4,c5,c6,c7⟩:=h8
   obtain ⟨f0,f1,f2,f3,f4,f5,f6,f7⟩:=z8
   obtain ⟨X,hX⟩:∃ X,2 ^ j=X:=⟨_,rfl⟩
   rw [hX]
   have HF:Hid (RD base (put8 w3 g (i * 8) X) B tv s rv' sv' (st ++ [(.slice (some ⟨g,0,none⟩) N c,r.set i X)]) sp'∧BK base w (put8 w3 g (i * 8) X)∧∀ p,(r.set i X).getD p 0=if p<i+1 then 2 ^ (p+1) else 0):=by
    refine ⟨HR3.out.stored HNN.out i X hiN,put8_below HB3.out hg1 (HR3.out.rty (g:=g) (N:=N) (c:=c) (r:=r) (by simp)) _ _,fun p=>?_⟩
    rw [set_get r i p X (by omega)]
    by_cases e : p = i
    ·rw [if_pos e,if_pos (by omega),e,← hX,HJ.out]
    ·rw [if_neg e,HROW.out p]
     by_cases e2 : p < i
     ·rw [if_pos e2,if_pos (by omega)]
     ·rw [if_neg e2,if_neg (by omega)]
   have HI:Hid (i<s.size):=hlt
   clear hX hb3 ho hl HR2 HB2 hwj
   unfold setV cellsF
   go_wp2_with fail
   go_roundw
   case rel=>exact ⟨i+1,_,by have:=HI.out;omega,by go_num,HF.out.1,HF.out.2.2,HF.out.2.1⟩
   case measure=>have:=HI.out;simp [intOf];omega
  ·obtain rfl:i=s.size:=by omega
   have hiI:¬ (s.size:Int)<s.size:=by omega
   obtain ⟨ho,hl⟩:=HR2.out.own (g:=g) (N:=N) (c:=c) (r:=r) (by simp) HNN.out
   have HOK:Hid (RowOk (fun u=>u.length=1) (wl s) r):=⟨by rw [wl_len,hl,HNN.out],fun p hp=>by
    have:=ends_any (wl s) p hp
    rw [wl_len] at this
    rw [HROW.out p]
    exact this⟩
   clear ho hl
   go_wp2_with fail
   refine bodyPost_end (results_none rfl _ _ _) rfl ?_
   exact ⟨rfl,_,_,_,_,_,HR2.out,hl1,HOK.out,HB2.out⟩
end Go.Proofs.YtfdhaknecjcjoaaGreatDoor

namespace Go.Proofs.YtfdhaknecjcjoaaGreatDoor
open Go Go.RowKit
set_option linter.unusedVariables false

theorem BK.drew {base:Nat} {a w:World} (h:BK base a w):BK base a w.drew:=⟨h.b.drew,h.m.trans (KM.same fun _ _=>rfl)⟩

set_option maxHeartbeats 4000000 in
set_option maxRecDepth 100000 in
theorem mletter_any {base : Nat} {w : World} {B : Nat} {tv : Value} {s : ByteArray} {rv sv : Value} {st sp : List RwP} (h : RD base w B tv s rv sv st sp) (hs : s.size ≤ 511) (hn : st.length ≤ 8000000) (hp : sp.length ≤ 8000000) (k s0 : Int) :
  Calls Tryz.prog 150 #[.pointer (some ⟨B,0,none⟩),.agg #[.int .i64 k,.int .u8 s0]] w (Leaf (fun u=>u=[s0]) base B tv s st sp w):=by
 unfold Leaf
 have HR:Hid (RD base (w.alloc (.cells #[.int .i64 k,.int .u8 s0] 51)) B tv s rv sv st sp):=h.stay ((Below.refl _ _).alloc (Nat.le_refl _) _)
 have HBX:Hid ((w.alloc (.cells #[.int .i64 k,.int .u8 s0] 51)).heap[w.heap.size]?=some (.cells #[.int .i64 k,.int .u8 s0] 51 (0,0))):=heap_alloc_new w _
 have HB:Hid (BK base w (w.alloc (.cells #[.int .i64 k,.int .u8 s0] 51))):=(BK.refl _ _).alloc (by have:=h.from_;have:=h.lt;omega) _
 clear h
 go_enter Tryz.func150,Tryz.ntmps150
 go_wp2_with fail
 refine (mpush_any HR.out hs hn hp).mono ?_
 rintro e w1 ⟨v,rv',sv',sp',rfl,hr1,hl1,hb1,hk1,hm1⟩
 obtain ⟨g,c,hv,hg1,_⟩:=hr1.block (x:=(v,List.replicate (s.size+1) 0)) (by simp)
 simp only at hv
 subst hv
 obtain ⟨_,d1,_,_⟩:=hr1.cells
 have hBl:=hr1.lt
 obtain ⟨N,hN⟩:∃ N,s.size+1=N:=⟨_,rfl⟩
 rw [hN] at hr1 ⊢
 have HR1:Hid (RD base w1 B tv s rv' sv' (st ++ [(.slice (some ⟨g,0,none⟩) N c,List.replicate N 0)]) sp'):=hr1
 have HB1:Hid (BK base w w1):=HB.out.trans ⟨hb1,hm1⟩
 have HNN:Hid (s.size+1=N):=hN
 obtain ⟨bx,hbx⟩:∃ bx,w.heap.size=bx:=⟨_,rfl⟩
 have HX1:Hid (w1.heap[bx]?=some (.cells #[.int .i64 k,.int .u8 s0] 51 (0,0))):=by rw [← hbx];exact hk1 _ _ (.inr ⟨_,_,rfl⟩) HBX.out
 rw [hbx]
 have hN5:N≤512:=by omega
 clear hr1 hb1 hN HR HB hk1 hm1 HBX hbx
 go_wp2_with fail
 go_loopw [13] (fun vi wr=>∃ (i:Nat) (r:List Nat),i≤s.size∧vi=.int .i64 (i:Int)∧RD base wr B tv s rv' sv' (st ++ [(.slice (some ⟨g,0,none⟩) N c,r)]) sp'∧(∀ p,r.getD p 0=if p<i∧(wl s).getD p 0=s0 then 2 ^ (p+1) else 0)∧wr.heap[bx]?=some (.cells #[.int .i64 k,.int .u8 s0] 51 (0,0))∧BK base w wr) (fun vi _=>s.size - (intOf vi).toNat)
 case atStart=>exact ⟨0,_,Nat.zero_le _,rfl,HR1.out,fun p=>by rw [rep_get,if_neg (by omega)],HX1.out,HB1.out⟩
 case round =>
  clear HR1 HB1 d1 HX1
  obtain ⟨i,r,hi,rfl,hr,hrow,hbx,hb⟩:=hrel
  have HX2:Hid (wr.heap[bx]?=some (.cells #[.int .i64 k,.int .u8 s0] 51 (0,0))):=hbx
  have e1:wr.cell? ⟨bx,1,none⟩=some (.int .u8 s0):=by simp [World.cell?,hbx]
  obtain ⟨_,d1,_,_⟩:=hr.cells
  have hBl2:=hr.lt
  have hbxl:=(Array.getElem?_eq_some_iff.1 hbx).1
  have HR2:Hid (RD base wr B tv s rv' sv' (st ++ [(.slice (some ⟨g,0,none⟩) N c,r)]) sp'):=hr
  have HB2:Hid (BK base w wr):=hb
  have HROW:Hid (∀ p,r.getD p 0=if p<i∧(wl s).getD p 0=s0 then 2 ^ (p+1) else 0):=hrow
  clear hr hrow hb hbx
  by_cases hlt : i < s.size
  ·have hiI:(i:Int)<s.size:=by omega
   have hiN:i<N:=by have:=HNN.out;omega
   have hiI2:(i:Int)<N:=by omega
   obtain ⟨j,hj⟩:∃ j,i+1=j:=⟨_,rfl⟩
   have hwj:IntKind.i64.wrap ((i:Int)+1)=(j:Int):=by rw [IntKind.wrap_i64];omega
   have hj5:j<512:=by have:=HNN.out;omega
   have HJ:Hid (i+1=j):=hj
   clear hj
   have HAT:Hid ((wl s).getD i 0=((s[i]'hlt).toNat:Int)):=wl_at s i hlt
   obtain ⟨y,hy⟩:∃ y,((s[i]'hlt).toNat:Int)=y:=⟨_,rfl⟩
   rw [hy] at HAT
   have HI0:Hid (i<s.size):=hlt
   by_cases hq : y = s0
   ·subst hq
    have hqb:(y == y)=true:=by simp
    go_wp2_with fail
    go_region
    go_wp2_with fail
    refine (monly_any j hj5 _).mono ?_
    rintro e w3 ⟨rfl,hb3'⟩
    have hb3:Below wr.heap.size wr w3:=go_on (Below.refl _ _).drew hb3'
    have HR3:Hid (RD base w3 B tv s rv' sv' (st ++ [(.slice (some ⟨g,0,none⟩) N c,r)]) sp'):=HR2.out.stay hb3
    have HX3':Hid (w3.heap[bx]?=some (.cells #[.int .i64 k,.int .u8 y] 51 (0,0))):=(hb3.block bx hbxl).trans HX2.out
    have HB3:Hid (BK base w w3):=HB2.out.trans (BK.up hb3 (by have:=HR2.out.from_;have:=HR2.out.lt;omega))
    obtain ⟨ho,hl⟩:=HR3.out.own (g:=g) (N:=N) (c:=c) (r:=r) (by simp) HNN.out
    obtain ⟨h8,z8⟩:=own_at8 ho hl i hiN
    obtain ⟨c0,c1,c2,c3,c4,c5,c6,c7⟩:=h8
    obtain ⟨f0,f1,f2,f3,f4,f5,f6,f7⟩:=z8
    obtain ⟨X,hX⟩:∃ X,2 ^ j=X:=⟨_,rfl⟩
    rw [hX]
    have HF:Hid (RD base (put8 w3 g (i * 8) X) B tv s rv' sv' (st ++ [(.slice (some ⟨g,0,none⟩) N c,r.set i X)]) sp'∧BK base w (put8 w3 g (i * 8) X)∧∀ p,(r.set i X).getD p 0=if p<i+1∧(wl s).getD p 0=y then 2 ^ (p+1) else 0):=by
     refine ⟨HR3.out.stored HNN.out i X hiN,put8_below HB3.out hg1 (HR3.out.rty (g:=g) (N:=N) (c:=c) (r:=r) (by simp)) _ _,fun p=>?_⟩
     rw [set_get r i p X (by omega)]
     by_cases e : p = i
     ·rw [if_pos e,if_pos ⟨by omega,by rw [e];exact HAT.out⟩,e,← hX,HJ.out]
     ·rw [if_neg e,HROW.out p]
      by_cases e2:p<i∧(wl s).getD p 0=y
      ·rw [if_pos e2,if_pos ⟨by omega,e2.2⟩]
      ·rw [if_neg e2,if_neg (fun h=>e2 ⟨by omega,h.2⟩)]
    have HX3:Hid ((put8 w3 g (i * 8) X).heap[bx]?=some (.cells #[.int .i64 k,.int .u8 y] 51 (0,0))):=by
     show _ = _
     rw [put8_other w3 g _ X bx (fun e=>by
      obtain ⟨cur,hc⟩:=own_type ho g rfl
      rw [← e,HX3'.out] at hc
      simp at hc)]
     exact HX3'.out
    have HI:Hid (i<s.size):=HI0.out
    clear hX hb3 hb3' ho hl HR2 HB2 hwj d1 e1
    unfold setV cellsF
    go_wp2_with fail
    go_roundw
    case rel=>exact ⟨i+1,_,by have:=HI.out;omega,by go_num,HF.out.1,HF.out.2.2,HX3.out,HF.out.2.1⟩
    case measure=>have:=HI.out;simp [intOf];omega
   ·have hqb:(y == s0)=false:=by rw [beq_eq_false_iff_ne];exact hq
    have HQ:Hid (y≠s0):=hq
    have HB3:Hid (BK base w wr.drew):=HB2.out.drew
    have HR3:Hid (RD base wr.drew B tv s rv' sv' (st ++ [(.slice (some ⟨g,0,none⟩) N c,r)]) sp'):=HR2.out.kept (fun _ _ _=>rfl)
    have HF:Hid (∀ p,r.getD p 0=if p<i+1∧(wl s).getD p 0=s0 then 2 ^ (p+1) else 0):=fun p=>by
     rw [HROW.out p]
     by_cases e2:p<i∧(wl s).getD p 0=s0
     ·rw [if_pos e2,if_pos ⟨by omega,e2.2⟩]
     ·rw [if_neg e2,if_neg (fun h=>by
       by_cases e : p = i
       ·exact HQ.out (by rw [← HAT.out,← e];exact h.2)
       ·exact e2 ⟨by omega,h.2⟩)]
    go_wp2_with fail
    go_region
    clear d1 e1
    go_wp2_with fail
    go_roundw
    case rel =>
     have hI:i<s.size:=HI0.out
     have hJ:i+1=j:=HJ.out
     exact ⟨i+1,_,by omega,by go_num,HR3.out,HF.out,HX2.out,HB3.out⟩
    case measure =>
     have hI:i<s.size:=HI0.out
     have hJ:i+1=j:=HJ.out
     simp [intOf]
     omega
  ·obtain rfl:i=s.size:=by omega
   have hiI:¬ (s.size:Int)<s.size:=by omega
   obtain ⟨ho,hl⟩:=HR2.out.own (g:=g) (N:=N) (c:=c) (r:=r) (by simp) HNN.out
   have HOK:Hid (RowOk (fun u=>u=[s0]) (wl s) r):=⟨by rw [wl_len,hl,HNN.out],fun p hp=>by
    have:=ends_letter (wl s) s0 p hp
    rw [wl_len] at this
    rw [HROW.out p]
    exact this⟩
   clear ho hl d1 e1
   go_wp2_with fail
   refine bodyPost_end (results_none rfl _ _ _) rfl ?_
   exact ⟨rfl,_,_,_,_,_,HR2.out,hl1,HOK.out,HB2.out⟩
end Go.Proofs.YtfdhaknecjcjoaaGreatDoor
