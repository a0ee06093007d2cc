/- Xg Xh Xi Xj Xk, in one text. -/
import Derived.Test.YtfdhaknecjcjoaaGreatDoorPXf
import Derived.Shelf.SlicesQ.Reverse
import Derived.Ground.SlgnProg
namespace Go.Proofs.YtfdhaknecjcjoaaGreatDoor
open Go Go.RowKit
set_option linter.unusedVariables false

theorem take_at {α:Type} {A X Y:List α}:(A ++ X ++ Y).take A.length=A:=by rw [List.append_assoc,List.take_left]
theorem drop_at {α:Type} {A X Y:List α}:(A ++ X ++ Y).drop (A.length+X.length)=Y:=by rw [← List.length_append,List.drop_left]
theorem flatL_one (x:Tr):flatL [x]=x.flat:=by simp [flatL]
theorem szL_one (x:Tr):szL [x]=x.sz:=by simp [szL]
/-- The last form is taken out; the one ahead of it is taken out. -/
theorem drop_y {base : Nat} {w : World} {B : Nat} {F : Fb} {pre : List Tr} {y : Tr} (h : FS base w B (flatL (pre ++ [y])) (szL (pre ++ [y])) F) {q e : Nat} (hq : q = (flatL pre).length) (he : e = (flatL (pre ++ [y])).length) :
  Calls Tryz.prog 89 #[.pointer (some ⟨B,0,none⟩),.agg #[.int .i64 (q:Int),.int .i64 (e:Int)]] w fun en w'=>en=.returned (.tuple #[])∧FE base w B F (flatL pre) (szL pre) w':=by
 have hz:=szL_len pre
 have hz2:=szL_len (pre ++ [y])
 have e1:e=q+y.flat.length:=by rw [he,flatL_append,flatL_one,List.length_append,hq]
 have:=drop_any base w B _ _ F h q e (by omega) (by omega)
 rw [show (flatL (pre ++ [y])).take q ++ (flatL (pre ++ [y])).drop e=flatL pre by rw [he,List.drop_length,flatL_append,hq,List.take_left,List.append_nil],
  show (szL (pre ++ [y])).take q ++ (szL (pre ++ [y])).drop e=szL pre by rw [he,← hz2,List.drop_length,szL_append,hq,← hz,List.take_left,List.append_nil]] at this
 exact this
theorem drop_x {base:Nat} {w:World} {B:Nat} {F:Fb} {pre:List Tr} {x y:Tr} (h:FS base w B (flatL (pre ++ [x,y])) (szL (pre ++ [x,y])) F) {p q:Nat} (hp:p=(flatL pre).length) (hq:q=p+x.flat.length) :
  Calls Tryz.prog 89 #[.pointer (some ⟨B,0,none⟩),.agg #[.int .i64 (p:Int),.int .i64 (q:Int)]] w fun en w'=>en=.returned (.tuple #[])∧FE base w B F (flatL (pre ++ [y])) (szL (pre ++ [y])) w':=by
 have hz:=szL_len pre
 have e1:flatL (pre ++ [x,y])=flatL pre ++ x.flat ++ y.flat:=by simp [flatL]
 have e2:szL (pre ++ [x,y])=szL pre ++ x.sz ++ y.sz:=by simp [szL]
 have:=drop_any base w B _ _ F h p q (by omega) (by rw [e1,List.length_append,List.length_append];omega)
 rw [show (flatL (pre ++ [x,y])).take p ++ (flatL (pre ++ [x,y])).drop q=flatL (pre ++ [y]) by rw [e1,hq,hp,take_at,drop_at,flatL_append,flatL_one],
  show (szL (pre ++ [x,y])).take p ++ (szL (pre ++ [x,y])).drop q=szL (pre ++ [y]) by rw [e2,hq,hp,← hz,take_at,← x.sz_len,drop_at,szL_append,szL_one]] at this
 exact this
/-- A root with one part is taken off. -/
theorem drop_root {base : Nat} {w : World} {B : Nat} {F : Fb} {pre : List Tr} {n : Nd} {a : Tr} (h : FS base w B (flatL (pre ++ [.one n a])) (szL (pre ++ [.one n a])) F) {r e : Nat} (he : e = (flatL (pre ++ [.one n a])).length) (hr : r = e - 1) :
  Calls Tryz.prog 89 #[.pointer (some ⟨B,0,none⟩),.agg #[.int .i64 (r:Int),.int .i64 (e:Int)]] w fun en w'=>en=.returned (.tuple #[])∧FE base w B F (flatL (pre ++ [a])) (szL (pre ++ [a])) w':=by
 have hz:=szL_len (pre ++ [.one n a])
 have hz2:=szL_len (pre ++ [a])
 have e1:flatL (pre ++ [.one n a])=flatL (pre ++ [a]) ++ [n]:=by simp [flatL,Tr.flat]
 have e2:szL (pre ++ [.one n a])=szL (pre ++ [a]) ++ [a.flat.length+1]:=by simp [szL,Tr.sz]
 have e3:r=(flatL (pre ++ [a])).length:=by rw [hr,he,e1,List.length_append,List.length_singleton];omega
 have:=drop_any base w B _ _ F h r e (by omega) (by omega)
 rw [show (flatL (pre ++ [.one n a])).take r ++ (flatL (pre ++ [.one n a])).drop e=flatL (pre ++ [a]) by rw [he,List.drop_length,e1,e3,List.take_left,List.append_nil],
  show (szL (pre ++ [.one n a])).take r ++ (szL (pre ++ [.one n a])).drop e=szL (pre ++ [a]) by rw [he,← hz,List.drop_length,e2,e3,← hz2,List.take_left,List.append_nil]] at this
 exact this
theorem all_len {t:Tr} (ho:t.ok) (h2:t.flat.length=2):∃ n m,t=.one n (.zero m)∧n=(n.1,0)∧t.flat=[m,n]:=by
 match t,ho,h2 with
 | .zero n,ho,h2=>simp [Tr.flat] at h2
 | .two n a b,ho,h2 =>
  have:=a.len_pos
  have:=b.len_pos
  simp only [Tr.flat,List.length_append,List.length_singleton] at h2
  omega
 | .one n (.zero m),ho,h2=>exact ⟨n,m,rfl,good_one ho.1 ho.2.1,rfl⟩
 | .one n (.one m a),ho,h2 =>
  have:=a.len_pos
  simp only [Tr.flat,List.length_append,List.length_singleton] at h2
  omega
 | .one n (.two m a b),ho,h2 =>
  have:=a.len_pos
  have:=b.len_pos
  simp only [Tr.flat,List.length_append,List.length_singleton] at h2
  omega
theorem At.first {N:List Nd} {Z:List Nat} {p e:Nat} {t:Tr} {m:Nd} {l:List Nd} (h:At N Z p e t) (hf:t.flat=m :: l):N.getD p (0,0)=m:=by
 obtain ⟨A,C,e1,rfl⟩:=h.nod
 rw [e1,hf,List.getD_eq_getElem?_getD,List.append_assoc,List.getElem?_append_right (Nat.le_refl _),Nat.sub_self]
 rfl
theorem good_none {m:Nd} (h:(Tr.zero m).ok) (h1:m.1=1):m=(1,0):=by
 obtain ⟨k,s⟩:=m
 have hg:=h.1
 simp only at h1
 subst h1
 simp [good] at hg
 rw [hg]

abbrev S4c (W:World) (b1 o1 b2 o2 b3 o3 b4 o4:Nat) (u1 u2 u3 u4:Value) (w':World):Prop:=w'.cell? ⟨b1,o1,none⟩=some u1∧w'.cell? ⟨b2,o2,none⟩=some u2∧w'.cell? ⟨b3,o3,none⟩=some u3∧w'.cell? ⟨b4,o4,none⟩=some u4∧Below W.heap.size W w'
theorem s4c_step {W:World} {b1 o1 b2 o2 b3 o3 b4 o4:Nat} {u1 u2 u3 u4:Value} {w1 w2:World} (hb:Below w1.heap.size w1 w2) (h:S4c W b1 o1 b2 o2 b3 o3 b4 o4 u1 u2 u3 u4 w1):S4c W b1 o1 b2 o2 b3 o3 b4 o4 u1 u2 u3 u4 w2:=by
 have hc:∀ {b o:Nat} {u:Value},w1.cell? ⟨b,o,none⟩=some u→w2.cell? ⟨b,o,none⟩=some u:=fun {b o u} h=>(World.cell?_of_block (hb.block b (World.block_lt_of_cell? w1 _ h))).trans h
 exact ⟨hc h.1,hc h.2.1,hc h.2.2.1,hc h.2.2.2.1,go_on h.2.2.2.2 hb⟩

set_option maxHeartbeats 4000000 in
set_option maxRecDepth 100000 in
theorem isAllT {base : Nat} {w : World} {B : Nat} {N : List Nd} {Z : List Nat} {F : Fb} (h : FS base w B N Z F) {p e : Nat} {t : Tr} (ht : At N Z p e t) (ho : t.ok) :
  Calls Tryz.prog 110 #[.pointer (some ⟨B,0,none⟩),.agg #[.int .i64 (p:Int),.int .i64 (e:Int)]] w fun en w'=>en=.returned (.bool (decide (t=tAll)))∧Below w.heap.size w w':=by
 have hle:=ht.le
 have hend:=ht.end_
 have hsm:=h.small
 have hcp:=h.caps
 have hlt:=h.lt
 obtain ⟨hnb,_,_,_⟩:=h.lts
 obtain ⟨c0,_⟩:=h.cells
 have hw:IntKind.i64.wrap ((e:Int) - (p:Int))=((e - p:Nat):Int):=by rw [IntKind.wrap_i64];omega
 by_cases h2 : t.flat.length = 2
 ·obtain ⟨n,m,et,hn0,hf⟩:=all_len ho h2
  have hm:=ht.first hf
  have hn:=(h.node p (by omega)).1
  rw [hm] at hn
  have hep:e - p=2:=by omega
  rw [hep] at hw
  have hw':(e:Int) - (p:Int)=2:=by omega
  have hw2:IntKind.i64.wrap ((e:Int) - (p:Int))=2:=hw
  have HE:Hid (decide (t=tAll)=(decide (m.1=1) && decide (n.1=9))):=by
   show _ = _
   rw [← Bool.decide_and,et]
   apply decide_eq_decide.2
   constructor
   ·intro e
    simp only [tAll,tNone,Tr.one.injEq,Tr.zero.injEq] at e
    rw [e.1,e.2];exact ⟨rfl,rfl⟩
   ·rintro ⟨h1,h9⟩
    rw [et] at ho
    rw [hn0,h9,good_none ho.2.2 h1]
    rfl
  have HR:Hid (t.root.1=n.1):=by show _=_;rw [et];rfl
  have HS:Hid (FS base w B N Z F):=h
  have HT:Hid (At N Z p e t):=ht
  have hpl:p<N.length:=by omega
  have hplI:(p:Int)<N.length:=by omega
  obtain ⟨mk,ms⟩:=m
  simp only at hn HE
  clear h ht hf hm et hn0 hep hw hend h2 ho
  by_cases h1 : mk = 1
  ·subst h1
   have HE2:Hid (decide (t=tAll)=(n.1 == 9)):=by show _=_;rw [HE.out];simp;rfl
   have HB0:Hid (Below w.heap.size w (w.alloc (.cells #[.int .i64 (p:Int),.int .i64 (e:Int)] 123))):=(Below.refl _ _).alloc (Nat.le_refl _) _
   have HX0:Hid (Bx (w.alloc (.cells #[.int .i64 (p:Int),.int .i64 (e:Int)] 123)) w.heap.size (.int .i64 (p:Int)) (.int .i64 (e:Int))):=Bx.new w _ _
   go_enter Tryz.func110,Tryz.ntmps110
   go_wp2_with fail
   generalize w.alloc (.cells #[.int .i64 (p:Int),.int .i64 (e:Int)] 123)=wA at HB0 HX0 ⊢
   have S0:S4c wA B 0 w.heap.size 0 w.heap.size 1 F.nb (p * 2) (.slice (some ⟨F.nb,0,none⟩) N.length F.nc) (.int .i64 (p:Int)) (.int .i64 (e:Int)) (.int .i64 1) wA.drew :=
    ⟨(World.cell?_of_block (HB0.out.block B hlt)).trans c0,HX0.out.cells.1,HX0.out.cells.2.1,(World.cell?_of_block (HB0.out.block F.nb hnb)).trans hn,(Below.refl _ _).drew⟩
   clear c0 hn
   go_region_held3 (fun w'=>S4c wA B 0 w.heap.size 0 w.heap.size 1 F.nb (p * 2) (.slice (some ⟨F.nb,0,none⟩) N.length F.nc) (.int .i64 (p:Int)) (.int .i64 (e:Int)) (.int .i64 1) w') (first | exact S0 | assumption | exact s4c_step (by assumption) (by assumption)) (first
    | (go_at_call 105;refine (rootT (HS.out.stay (go_on HB0.out (show S4c wA B 0 w.heap.size 0 w.heap.size 1 F.nb (p * 2) _ _ _ _ _ from by assumption).2.2.2.2)) HT.out).mono ?_;rintro en w3 ⟨rfl,hb3⟩;rw [HR.out]))
   all_goals go_wp2_with fail
   all_goals
    go_ret
    exact ⟨by rw [HE2.out];rfl,go_on HB0.out (show S4c wA B 0 w.heap.size 0 w.heap.size 1 F.nb (p * 2) (.slice (some ⟨F.nb,0,none⟩) N.length F.nc) (.int .i64 (p:Int)) (.int .i64 (e:Int)) (.int .i64 1) _ from by first | assumption | exact s4c_step (by assumption) (by assumption)).2.2.2.2⟩
  ·have hb1:(mk == 1)=false:=by simpa using h1
   have HE2:Hid (decide (t=tAll)=false):=by show _=_;rw [HE.out];simp [h1]
   clear h1
   go_enter Tryz.func110,Tryz.ntmps110
   go_wp2_with fail
   go_region
   all_goals go_wp2_with fail
   all_goals
    go_ret
    exact ⟨by rw [HE2.out];rfl,((Below.refl _ _).alloc (Nat.le_refl _) _).drew⟩
 ·have hep:¬ e - p=2:=by omega
  obtain ⟨d,hd⟩:∃ d:Int,(e:Int) - (p:Int)=d:=⟨_,rfl⟩
  have hb1:(d == 2)=false:=by rw [beq_eq_false_iff_ne];omega
  have hdw:IntKind.i64.wrap d=d:=by rw [IntKind.wrap_i64];omega
  have HE2:Hid (decide (t=tAll)=false):=by
   show _ = _
   rw [decide_eq_false]
   intro e
   exact h2 (by rw [e];rfl)
  clear h ht h2 hep hw hend ho
  go_enter Tryz.func110,Tryz.ntmps110
  go_wp2_with fail
  go_region
  all_goals go_wp2_with fail
  all_goals
   go_ret
   exact ⟨by rw [HE2.out];rfl,((Below.refl _ _).alloc (Nat.le_refl _) _).drew⟩

set_option maxHeartbeats 4000000 in
set_option maxRecDepth 100000 in
theorem beginsT {base : Nat} {w : World} {B : Nat} {N : List Nd} {Z : List Nat} {F : Fb} (h : FS base w B N Z F) {p e : Nat} {t : Tr} (ht : At N Z p e t) (ho : t.ok) :
  Calls Tryz.prog 111 #[.pointer (some ⟨B,0,none⟩),.agg #[.int .i64 (p:Int),.int .i64 (e:Int)]] w fun en w'=>en=.returned (.bool (decide (firstC t=tAll)))∧Below w.heap.size w w':=by
 have HS:Hid (FS base w B N Z F):=h
 have HT:Hid (At N Z p e t):=ht
 have HO:Hid t.ok:=ho
 have hlt:=h.lt
 have HB0:Hid (Below w.heap.size w (w.alloc (.cells #[.int .i64 (p:Int),.int .i64 (e:Int)] 123))):=(Below.refl _ _).alloc (Nat.le_refl _) _
 have HX0:Hid (Bx (w.alloc (.cells #[.int .i64 (p:Int),.int .i64 (e:Int)] 123)) w.heap.size (.int .i64 (p:Int)) (.int .i64 (e:Int))):=Bx.new w _ _
 clear h ht ho
 go_enter Tryz.func111,Tryz.ntmps111
 go_wp2_with fail
 generalize w.alloc (.cells #[.int .i64 (p:Int),.int .i64 (e:Int)] 123)=wA at HB0 HX0 ⊢
 refine (rootT (HS.out.stay HB0.out) HT.out).mono ?_
 rintro en w1 ⟨rfl,hb1⟩
 have HB1:Hid (Below w.heap.size w w1):=go_on HB0.out hb1
 have HX1:Hid (Bx w1 w.heap.size (.int .i64 (p:Int)) (.int .i64 (e:Int))):=HX0.out.stay hb1
 clear hb1 HX0 HB0
 obtain ⟨c0,c1,cf⟩:=HX1.out.cells
 by_cases h7 : t.root.1 = 7
 ·obtain ⟨n,a,b,et⟩:∃ n a b,t=.two n a b:=by
   cases t with
   | zero n=>have:=HO.out.2;have h7:n.1=7:=h7;rw [h7] at this;simp [arity] at this
   | one n a=>have:=HO.out.2.1;have h7:n.1=7:=h7;rw [h7] at this;simp [arity] at this
   | two n a b=>exact ⟨n,a,b,rfl⟩
  subst et
  have hn7:n.1=7:=h7
  obtain ⟨q,hqa,hqb⟩:=HT.out.two
  have HQA:Hid (At N Z p q a):=hqa
  have HQB:Hid (At N Z q (e - 1) b):=hqb
  have hqe:q<e:=by have:=hqb.le;omega
  have HFC:Hid (firstC (.two n a b)=a):=by show _=_;rw [firstC,if_pos hn7]
  have HOA:Hid a.ok:=HO.out.2.2.1
  rw [h7]
  clear hqa hqb h7 hn7
  obtain ⟨r,hr⟩:∃ r,e - 1=r:=⟨_,rfl⟩
  go_wp2_with fail
  refine (partsT (HS.out.stay HB1.out) HQA.out HQB.out hqe p).mono ?_
  rintro en w2 ⟨rfl,hb2⟩
  have HB2:Hid (Below w.heap.size w w2):=go_on HB1.out hb2
  have HX2:Hid (Bx w2 w.heap.size (.int .i64 (p:Int)) (.int .i64 (e:Int))):=HX1.out.stay hb2
  rw [hr]
  clear hb2 HX1 HB1 c0 c1 cf hr
  obtain ⟨c0,c1,cf⟩:=HX2.out.cells
  have HB3:Hid (Below w.heap.size w ((w2.setCell ⟨w.heap.size,0,none⟩ (.int .i64 (p:Int))).setCell ⟨w.heap.size,1,none⟩ (.int .i64 (q:Int)))):=below_put HB2.out (Nat.le_refl _) _ _
  have HX3:Hid (Bx ((w2.setCell ⟨w.heap.size,0,none⟩ (.int .i64 (p:Int))).setCell ⟨w.heap.size,1,none⟩ (.int .i64 (q:Int))) w.heap.size (.int .i64 (p:Int)) (.int .i64 (q:Int))):=HX2.out.put _ _
  have g2:=HX2.out.lt
  go_wp2_with fail
  refine (isAllT (HS.out.stay HB3.out) HQA.out HOA.out).mono ?_
  rintro en w4 ⟨rfl,hb4⟩
  have HB4:Hid (Below w.heap.size w w4):=go_on HB3.out hb4
  clear hb4
  go_wp2_with fail
  go_ret
  exact ⟨by rw [HFC.out];rfl,HB4.out⟩
 ·have hb7:(t.root.1 == 7)=false:=by simpa using h7
  have HFC:Hid (firstC t=t):=by
   show _ = _
   cases t with
   | zero n=>rfl
   | one n a=>rfl
   | two n a b=>rw [firstC,if_neg (show ¬ n.1=7 from h7)]
  clear h7
  go_wp2_with fail
  refine (isAllT (HS.out.stay HB1.out) HT.out HO.out).mono ?_
  rintro en w4 ⟨rfl,hb4⟩
  have HB4:Hid (Below w.heap.size w w4):=go_on HB1.out hb4
  clear hb4
  go_wp2_with fail
  go_ret
  exact ⟨by rw [HFC.out];rfl,HB4.out⟩

/-- The forms as a stack of trees. -/
abbrev FT (base:Nat) (w:World) (B:Nat) (ts:List Tr) (F:Fb):Prop:=FS base w B (flatL ts) (szL ts) F
/-- What a rule leaves: the forms as another stack. -/
abbrev FTE (base:Nat) (w:World) (B:Nat) (F:Fb) (ts:List Tr) (w':World):Prop:=FE base w B F (flatL ts) (szL ts) w'

theorem FE.after {base : Nat} {w w1 w' : World} {B : Nat} {F : Fb} {N : List Nd} {Z : List Nat} (hb : Below w.heap.size w w1) (h : FE base w1 B F N Z w') : FE base w B F N Z w' :=
 let ⟨F',hs,hg⟩:=h
 ⟨F',hs,(FG.of hb).trans hg⟩
theorem FE.chain {base : Nat} {w w1 w' : World} {B : Nat} {F F1 : Fb} {N : List Nd} {Z : List Nat} (hb : FG w w1 B F F1) (h : FE base w1 B F1 N Z w') : FE base w B F N Z w' :=
 let ⟨F',hs,hg⟩:=h
 ⟨F',hs,hb.trans hg⟩
theorem FE.stay {base : Nat} {w w1 w' : World} {B : Nat} {F : Fb} {N : List Nd} {Z : List Nat} (h : FE base w B F N Z w1) (hb : Below w1.heap.size w1 w') : FE base w B F N Z w' :=
 let ⟨F',hs,hg⟩:=h
 ⟨F',hs.stay hb,hg.trans (FG.of hb)⟩
end Go.Proofs.YtfdhaknecjcjoaaGreatDoor

namespace Go.Proofs.YtfdhaknecjcjoaaGreatDoor
open Go Go.RowKit
set_option linter.unusedVariables false

set_option maxHeartbeats 4000000 in
set_option maxRecDepth 100000 in
theorem not_any {base : Nat} {w : World} {B : Nat} {F : Fb} {pre : List Tr} {x : Tr} (h : FT base w B (pre ++ [x]) F) (ho : x.ok) (hN : (flatL (pre ++ [x])).length < 100000) :
  Calls Tryz.prog 86 #[.pointer (some ⟨B,0,none⟩)] w fun en w'=>en=.returned (.tuple #[])∧FTE base w B F (pre ++ [RN x]) w':=by
 obtain ⟨p,e,hx,he,hp⟩:=at_last pre x
 have HS:Hid (FT base w B (pre ++ [x]) F):=h
 have HT:Hid (At (flatL (pre ++ [x])) (szL (pre ++ [x])) p e x):=hx
 have HO:Hid x.ok:=ho
 have HE:Hid (e=(flatL (pre ++ [x])).length):=he
 have HN:Hid ((flatL (pre ++ [x])).length<100000):=hN
 have hlt:=h.lt
 have hle:=hx.le
 obtain ⟨b0,_⟩:=h.cells
 rw [← he] at b0
 have he2:e<100001:=by omega
 have he1:1≤e:=by omega
 clear h hx ho he hp hle hN
 go_enter Tryz.func86,Tryz.ntmps86
 go_wp2_with fail
 refine (endingT HS.out HT.out).mono ?_
 rintro en w1 ⟨rfl,hb1⟩
 have HB1:Hid (Below w.heap.size w (w1.alloc (.cells #[.int .i64 (p:Int),.int .i64 (e:Int)] 123))):=hb1.alloc hb1.size _
 have HX1:Hid (Bx (w1.alloc (.cells #[.int .i64 (p:Int),.int .i64 (e:Int)] 123)) w1.heap.size (.int .i64 (p:Int)) (.int .i64 (e:Int))):=Bx.new w1 _ _
 clear hb1
 go_wp2_with fail
 obtain ⟨b,hb⟩:∃ b,w1.heap.size=b:=⟨_,rfl⟩
 generalize w1.alloc (.cells #[.int .i64 (p:Int),.int .i64 (e:Int)] 123)=wA at HB1 HX1 ⊢
 rw [hb] at HX1 ⊢
 clear hb
 refine (rootT (HS.out.stay HB1.out) HT.out).mono ?_
 rintro en w2 ⟨rfl,hb2⟩
 have HB2:Hid (Below w.heap.size w w2):=go_on HB1.out hb2
 have HX2:Hid (Bx w2 b (.int .i64 (p:Int)) (.int .i64 (e:Int))):=HX1.out.stay hb2
 clear hb2 HX1 HB1
 obtain ⟨c0,c1,cf⟩:=HX2.out.cells
 by_cases h9 : x.root.1 = 9
 ·obtain ⟨n,a,et⟩:∃ n a,x=.one n a:=by
   cases x with
   | zero n=>have:=HO.out.2;have h9:n.1=9:=h9;rw [h9] at this;simp [arity] at this
   | two n a c=>have:=HO.out.2.1;have h9:n.1=9:=h9;rw [h9] at this;simp [arity] at this
   | one n a=>exact ⟨n,a,rfl⟩
  subst et
  have hn9:n.1=9:=h9
  have HR:Hid (RN (.one n a)=a):=by show _=_;rw [RN,if_pos hn9]
  rw [h9]
  obtain ⟨r,hr⟩:∃ r,r=e - 1:=⟨_,rfl⟩
  have HRE:Hid (r=e - 1):=hr
  have hwr:IntKind.i64.wrap ((e:Int) - 1)=(r:Int):=by rw [IntKind.wrap_i64];omega
  have hwr2:(e:Int) - 1=(r:Int):=by omega
  clear h9 hn9 hr
  go_wp2_with fail
  refine (drop_root (HS.out.stay HB2.out) HE.out HRE.out).mono ?_
  rintro en w3 ⟨rfl,hf3⟩
  have HF3:Hid (FE base w2 B F (flatL (pre ++ [a])) (szL (pre ++ [a])) w3):=hf3
  clear hf3
  go_wp2_with fail
  refine bodyPost_ret (results_none rfl _ _ _) rfl ?_
  exact ⟨rfl,by rw [HR.out];exact FE.after HB2.out HF3.out⟩
 ·have hb9:(x.root.1 == 9)=false:=by simpa using h9
  have HR:Hid (RN x=.one (9,0) x):=by
   show _ = _
   cases x with
   | zero n=>rfl
   | two n a c=>rfl
   | one n a=>rw [RN,if_neg (show ¬ n.1=9 from h9)]
  clear h9
  go_wp2_with fail
  refine (put1 (HS.out.stay HB2.out) (9,0) HN.out).mono ?_
  rintro en w3 ⟨rfl,hf3⟩
  have HF3:Hid (FE base w2 B F (flatL (pre ++ [.one (9,0) x])) (szL (pre ++ [.one (9,0) x])) w3):=hf3
  clear hf3
  go_wp2_with fail
  refine bodyPost_end (results_none rfl _ _ _) rfl ?_
  exact ⟨rfl,by rw [HR.out];exact FE.after HB2.out HF3.out⟩

theorem leaf_of {x:Tr} (ho:x.ok):(x.root.1=1→x=tNone)∧(x.root.1=2→x=tEmpty)∧(x.root.1=4→x=tAny):=by
 have key:∀ k:Int,(k=1∨k=2∨k=4)→x.root.1=k→x=.zero (k,0):=by
  intro k hk hr
  cases x with
  | zero n =>
   have hr:n.1=k:=hr
   have hg:=ho.1
   obtain ⟨a,s⟩:=n
   simp only at hr
   subst hr
   simp only [good] at hg
   rw [if_neg (by omega)] at hg
   simp at hg
   rw [hg.2.2]
  | one n a =>
   have hr:n.1=k:=hr
   have:=ho.2.1
   rw [hr] at this
   rcases hk with rfl | rfl | rfl <;> simp [arity] at this
  | two n a b =>
   have hr:n.1=k:=hr
   have:=ho.2.1
   rw [hr] at this
   rcases hk with rfl | rfl | rfl <;> simp [arity] at this
 exact ⟨fun h=>key 1 (by omega) h,fun h=>key 2 (by omega) h,fun h=>key 4 (by omega) h⟩

set_option maxHeartbeats 4000000 in
set_option maxRecDepth 100000 in
theorem star_any {base : Nat} {w : World} {B : Nat} {F : Fb} {pre : List Tr} {x : Tr} (h : FT base w B (pre ++ [x]) F) (ho : x.ok) (hN : (flatL (pre ++ [x])).length < 90000) :
  Calls Tryz.prog 85 #[.pointer (some ⟨B,0,none⟩)] w fun en w'=>en=.returned (.tuple #[])∧FTE base w B F (pre ++ [RS x]) w':=by
 obtain ⟨p,e,hx,he,hp⟩:=at_last pre x
 have HS:Hid (FT base w B (pre ++ [x]) F):=h
 have HT:Hid (At (flatL (pre ++ [x])) (szL (pre ++ [x])) p e x):=hx
 have HO:Hid x.ok:=ho
 have HE:Hid (e=(flatL (pre ++ [x])).length):=he
 have HP:Hid (p=(flatL pre).length):=hp
 have HN:Hid ((flatL (pre ++ [x])).length<90000):=hN
 have hpl:(flatL pre).length≤(flatL (pre ++ [x])).length:=by rw [flatL_append,List.length_append];omega
 have HNP:Hid ((flatL pre).length<90000):=by show _<_;omega
 have hlt:=h.lt
 have hle:=hx.le
 obtain ⟨b0,_⟩:=h.cells
 rw [← he] at b0
 have he2:e<100001:=by omega
 have he1:1≤e:=by omega
 clear h hx ho he hp hle hN hpl
 go_enter Tryz.func85,Tryz.ntmps85
 go_wp2_with fail
 refine (endingT HS.out HT.out).mono ?_
 rintro en w1 ⟨rfl,hb1⟩
 have HB1:Hid (Below w.heap.size w (w1.alloc (.cells #[.int .i64 (p:Int),.int .i64 (e:Int)] 123))):=hb1.alloc hb1.size _
 have HX1:Hid (Bx (w1.alloc (.cells #[.int .i64 (p:Int),.int .i64 (e:Int)] 123)) w1.heap.size (.int .i64 (p:Int)) (.int .i64 (e:Int))):=Bx.new w1 _ _
 clear hb1
 go_wp2_with fail
 obtain ⟨b,hb⟩:∃ b,w1.heap.size=b:=⟨_,rfl⟩
 generalize w1.alloc (.cells #[.int .i64 (p:Int),.int .i64 (e:Int)] 123)=wA at HB1 HX1 ⊢
 rw [hb] at HX1 ⊢
 clear hb
 refine (rootT (HS.out.stay HB1.out) HT.out).mono ?_
 rintro en w2 ⟨rfl,hb2⟩
 have HB2:Hid (Below w.heap.size w w2):=go_on HB1.out hb2
 have HX2:Hid (Bx w2 b (.int .i64 (p:Int)) (.int .i64 (e:Int))):=HX1.out.stay hb2
 clear hb2 HX1 HB1
 obtain ⟨c0,c1,cf⟩:=HX2.out.cells
 have HK:Hid ((x.root.1=1→x=tNone)∧(x.root.1=2→x=tEmpty)∧(x.root.1=4→x=tAny)):=leaf_of HO.out
 have HR0:Hid (RS x=if x=tNone∨x=tEmpty then tEmpty else if x=tAny then tAll else if x.root.1=8∨x=tAll then x else .one (8,0) x):=rfl
 have HRT:Hid (x=tNone→x.root.1=1):=fun e=>by rw [e];rfl
 have HRT2:Hid (x=tEmpty→x.root.1=2):=fun e=>by rw [e];rfl
 have HRT4:Hid (x=tAny→x.root.1=4):=fun e=>by rw [e];rfl
 obtain ⟨k,hk⟩:∃ k,x.root.1=k:=⟨_,rfl⟩
 rw [hk] at HK HR0 HRT HRT2 HRT4 ⊢
 clear hk
 by_cases h12 : k = 1 ∨ k = 2
 ·have HR:Hid (RS x=tEmpty):=by
   show _ = _
   rw [HR0.out,if_pos]
   rcases h12 with h | h
   ·exact .inl (HK.out.1 h)
   ·exact .inr (HK.out.2.1 h)
  rcases h12 with rfl | rfl
  all_goals
   go_wp2_with fail
   refine (drop_y (HS.out.stay HB2.out) HP.out HE.out).mono ?_
   rintro en w3 ⟨rfl,F3,hs3,hg3⟩
   have HS3:Hid (FT base w3 B pre F3):=hs3
   have HG3:Hid (FG w w3 B F F3):=(FG.of HB2.out).trans hg3
   clear hs3 hg3
   go_wp2_with fail
   refine (put0 HS3.out (2,0) (by have:=HNP.out;omega)).mono ?_
   rintro en w4 ⟨rfl,hf4⟩
   have HF4:Hid (FE base w3 B F3 (flatL (pre ++ [.zero (2,0)])) (szL (pre ++ [.zero (2,0)])) w4):=hf4
   clear hf4
   go_wp2_with fail
   refine bodyPost_end (results_none rfl _ _ _) rfl ?_
   exact ⟨rfl,by rw [HR.out];exact FE.chain HG3.out HF4.out⟩
 have h1b:(k == 1)=false:=by rw [beq_eq_false_iff_ne];omega
 have h2b:(k == 2)=false:=by rw [beq_eq_false_iff_ne];omega
 have HN12:Hid (¬ (x=tNone∨x=tEmpty)):=fun h=>h12 (h.imp HRT.out HRT2.out)
 clear h12
 by_cases h4 : k = 4
 ·subst h4
  have HR:Hid (RS x=tAll):=by
   show _ = _
   rw [HR0.out,if_neg HN12.out,if_pos (HK.out.2.2 rfl)]
  go_wp2_with fail
  refine (drop_y (HS.out.stay HB2.out) HP.out HE.out).mono ?_
  rintro en w3 ⟨rfl,F3,hs3,hg3⟩
  have HS3:Hid (FT base w3 B pre F3):=hs3
  have HG3:Hid (FG w w3 B F F3):=(FG.of HB2.out).trans hg3
  clear hs3 hg3
  go_wp2_with fail
  refine (put0 HS3.out (1,0) (by have:=HNP.out;omega)).mono ?_
  rintro en w4 ⟨rfl,F4,hs4,hg4⟩
  have HS4:Hid (FT base w4 B (pre ++ [.zero (1,0)]) F4):=hs4
  have HG4:Hid (FG w w4 B F F4):=HG3.out.trans hg4
  clear hs4 hg4
  go_wp2_with fail
  refine (put1 HS4.out (9,0) (by have:=HNP.out;rw [flatL_append,List.length_append];simp [flatL,Tr.flat] at *;omega)).mono ?_
  rintro en w5 ⟨rfl,hf5⟩
  have HF5:Hid (FE base w4 B F4 (flatL (pre ++ [.one (9,0) (.zero (1,0))])) (szL (pre ++ [.one (9,0) (.zero (1,0))])) w5):=hf5
  clear hf5
  go_wp2_with fail
  refine bodyPost_end (results_none rfl _ _ _) rfl ?_
  exact ⟨rfl,by rw [HR.out];exact FE.chain HG4.out HF5.out⟩
 have h4b:(k == 4)=false:=by rw [beq_eq_false_iff_ne];omega
 have HN4:Hid (¬ x=tAny):=fun h=>h4 (HRT4.out h)
 clear h4
 by_cases h8 : k = 8
 ·subst h8
  have HR:Hid (RS x=x):=by
   show _ = _
   rw [HR0.out,if_neg HN12.out,if_neg HN4.out,if_pos (.inl rfl)]
  go_wp2_with fail
  refine bodyPost_end (results_none rfl _ _ _) rfl ?_
  exact ⟨rfl,by rw [HR.out];exact ⟨F,HS.out.stay HB2.out,FG.of HB2.out⟩⟩
 have h8b:(k == 8)=false:=by rw [beq_eq_false_iff_ne];omega
 go_wp2_with fail
 refine (isAllT (HS.out.stay HB2.out) HT.out HO.out).mono ?_
 rintro en w3 ⟨rfl,hb3⟩
 have HB3:Hid (Below w.heap.size w w3):=go_on HB2.out hb3
 clear hb3
 by_cases ha : x = tAll
 ·have HR:Hid (RS x=x):=by
   show _ = _
   rw [HR0.out,if_neg HN12.out,if_neg HN4.out,if_pos (.inr ha)]
  rw [decide_eq_true ha]
  clear ha
  go_wp2_with fail
  refine bodyPost_end (results_none rfl _ _ _) rfl ?_
  exact ⟨rfl,by rw [HR.out];exact ⟨F,HS.out.stay HB3.out,FG.of HB3.out⟩⟩
 ·have HR:Hid (RS x=.one (8,0) x):=by
   show _ = _
   rw [HR0.out,if_neg HN12.out,if_neg HN4.out,if_neg (by simp [h8,ha])]
  rw [decide_eq_false ha]
  clear ha
  go_wp2_with fail
  refine (put1 (HS.out.stay HB3.out) (8,0) (by have:=HN.out;omega)).mono ?_
  rintro en w4 ⟨rfl,hf4⟩
  have HF4:Hid (FE base w3 B F (flatL (pre ++ [.one (8,0) x])) (szL (pre ++ [.one (8,0) x])) w4):=hf4
  clear hf4
  go_wp2_with fail
  refine bodyPost_end (results_none rfl _ _ _) rfl ?_
  exact ⟨rfl,by rw [HR.out];exact FE.after HB3.out HF4.out⟩
end Go.Proofs.YtfdhaknecjcjoaaGreatDoor

namespace Go.Proofs.YtfdhaknecjcjoaaGreatDoor
open Go Go.RowKit
set_option linter.unusedVariables false

theorem flatL_cons (t:Tr) (l:List Tr):flatL (t :: l)=t.flat ++ flatL l:=rfl
theorem szL_cons (t:Tr) (l:List Tr):szL (t :: l)=t.sz ++ szL l:=rfl
theorem conc_pos (x:Tr):1≤(conc x).length:=List.length_pos_iff.2 (conc_ne x)
/-- A concatenation is its parts, one behind the other, and its roots behind them. -/
theorem conc_flat:∀ {x:Tr},x.ok→x.flat=flatL (conc x) ++ List.replicate ((conc x).length - 1) (7,0)∧∃ S,x.sz=szL (conc x) ++ S∧S.length=(conc x).length - 1
 | .zero n,h=>⟨by simp [conc,flatL],[],by simp [conc,szL],rfl⟩
 | .one n a,h=>⟨by simp [conc,flatL],[],by simp [conc,szL],rfl⟩
 | .two n a b,h=>by
  by_cases e : n.1 = 7
  ·obtain ⟨h1,S,h2,h3⟩:=conc_flat h.2.2.2
   have hp:=conc_pos b
   have en:n=(7,0):=by rw [good_two h.1 h.2.1,e]
   rw [conc,if_pos e]
   refine ⟨?_,S ++ [a.flat.length+b.flat.length+1],?_,?_⟩
   ·rw [Tr.flat,flatL_cons,en,h1,List.length_cons,show (conc b).length+1 - 1=((conc b).length - 1)+1 by omega,List.replicate_succ']
    simp only [List.append_assoc]
   ·rw [Tr.sz,szL_cons,h2]
    simp only [List.append_assoc]
   ·rw [List.length_append,List.length_singleton,h3,List.length_cons];omega
  ·rw [conc,if_neg e]
   exact ⟨by simp [flatL],[],by simp [szL],rfl⟩
/-- The last part is no concatenation. -/
theorem conc_last:∀ {x:Tr},x.ok→∃ l p,conc x=l ++ [p]∧p.root.1≠7
 | .zero n,h=>⟨[],_,rfl,fun e=>by
   have e:n.1=7:=e
   have:=h.2
   rw [e] at this
   simp [arity] at this⟩
 | .one n a,h=>⟨[],_,rfl,fun e=>by
   have e:n.1=7:=e
   have:=h.2.1
   rw [e] at this
   simp [arity] at this⟩
 | .two n a b,h=>by
  by_cases e : n.1 = 7
  ·obtain ⟨l,p,h1,h2⟩:=conc_last h.2.2.2
   exact ⟨a :: l,p,by rw [conc,if_pos e,h1];rfl,h2⟩
  ·exact ⟨[],.two n a b,by rw [conc,if_neg e];rfl,e⟩
theorem conc_ok:∀ {x:Tr},x.ok→Oks (conc x)
 | .zero n,h=>by intro m hm;simp [conc] at hm;rw [hm];exact h
 | .one n a,h=>by intro m hm;simp [conc] at hm;rw [hm];exact h
 | .two n a b,h=>by
  unfold conc
  split
  ·intro m hm
   rcases List.mem_cons.1 hm with rfl | hm
   ·exact h.2.2.1
   ·exact conc_ok h.2.2.2 m hm
  ·intro m hm;simp at hm;rw [hm];exact h
theorem cj_ok {p r:Tr} (hp:p.ok) (hr:r.ok):(cj p r).ok:=by
 unfold cj
 split
 ·exact hr
 ·exact ⟨rfl,rfl,hp,hr⟩
theorem fold_ok {r:Tr} (hr:r.ok):∀ {l:List Tr},Oks l→(l.foldr cj r).ok
 | [],_=>hr
 | p :: l,h=>cj_ok (h p (by simp)) (fold_ok hr (fun q hq=>h q (by simp [hq])))
theorem flatL_lens:∀ l:List Tr,(flatL l).length≤lens l
 | []=>by simp [flatL]
 | t :: l=>by
  have:=flatL_lens l
  rw [flatL_cons,List.length_append]
  simp only [lens,List.map_cons,List.sum_cons] at *
  omega
theorem lens_append (a b:List Tr):lens (a ++ b)=lens a+lens b:=by simp [lens]
/-- The nodes at the end of a concatenation's parts. -/
theorem conc_len {x:Tr} (ho:x.ok):x.flat.length=(flatL (conc x)).length+((conc x).length - 1)∧1≤(flatL (conc x)).length:=by
 obtain ⟨h1,_⟩:=conc_flat ho
 obtain ⟨l,p,h2,_⟩:=conc_last ho
 have hp:=p.len_pos
 refine ⟨by conv=>lhs;rw [h1,List.length_append,List.length_replicate],?_⟩
 rw [h2,flatL_append,List.length_append,flatL_one]
 omega
theorem root_in {pre post:List Tr} {x:Tr} (ho:x.ok) {q k:Nat} (hq:q=(flatL pre).length+x.flat.length) (hk:k<(conc x).length - 1):((flatL (pre ++ x :: post)).getD (q - 1 - k) (0,0)).1=7:=by
 obtain ⟨h1,_⟩:=conc_flat ho
 obtain ⟨h3,h4⟩:=conc_len ho
 rw [flatL_append,flatL_cons,List.getD_eq_getElem?_getD,List.getElem?_append_right (by omega),List.getElem?_append_left (by omega),h1,List.getElem?_append_right (by omega),List.getElem?_replicate,if_pos (by omega)]
 rfl
theorem root_out {pre post:List Tr} {x:Tr} (ho:x.ok) {q:Nat} (hq:q=(flatL pre).length+x.flat.length):((flatL (pre ++ x :: post)).getD (q - 1 - ((conc x).length - 1)) (0,0)).1≠7:=by
 obtain ⟨h1,_⟩:=conc_flat ho
 obtain ⟨h3,h4⟩:=conc_len ho
 obtain ⟨l,p,h5,h6⟩:=conc_last ho
 obtain ⟨X,hX⟩:=p.flat_root
 have e:flatL (conc x)=flatL l ++ X ++ [p.root]:=by rw [h5,flatL_append,flatL_one,hX,List.append_assoc]
 have el:(flatL (conc x)).length=(flatL l ++ X).length+1:=by rw [e,List.length_append,List.length_singleton]
 rw [flatL_append,flatL_cons,List.getD_eq_getElem?_getD,List.getElem?_append_right (by omega),List.getElem?_append_left (by omega),h1,List.getElem?_append_left (by omega),show q - 1 - ((conc x).length - 1) - (flatL pre).length=(flatL l ++ X).length by omega,e,List.getElem?_append_right (Nat.le_refl _),Nat.sub_self]
 exact h6
/-- The roots are taken off. -/
theorem drop_roots {base:Nat} {w:World} {B:Nat} {F:Fb} {pre:List Tr} {x y:Tr} (h:FT base w B (pre ++ [x,y]) F) (ho:x.ok) {a q:Nat} (hq:q=(flatL pre).length+x.flat.length) (ha:a=q - ((conc x).length - 1)) :
  Calls Tryz.prog 89 #[.pointer (some ⟨B,0,none⟩),.agg #[.int .i64 (a:Int),.int .i64 (q:Int)]] w fun en w'=>en=.returned (.tuple #[])∧FTE base w B F (pre ++ conc x ++ [y]) w':=by
 obtain ⟨h1,S,h2,h3⟩:=conc_flat ho
 obtain ⟨h4,h5⟩:=conc_len ho
 have hz:=szL_len pre
 have hz2:=szL_len (conc x)
 have e1:flatL (pre ++ [x,y])=(flatL pre ++ flatL (conc x)) ++ List.replicate ((conc x).length - 1) (7,0) ++ y.flat:=by rw [flatL_append,flatL_cons,flatL_one,h1];simp only [List.append_assoc]
 have e2:szL (pre ++ [x,y])=(szL pre ++ szL (conc x)) ++ S ++ y.sz:=by rw [szL_append,szL_cons,szL_one,h2];simp only [List.append_assoc]
 have l1:(flatL pre ++ flatL (conc x)).length=a:=by rw [List.length_append];omega
 have l2:(szL pre ++ szL (conc x)).length=a:=by rw [List.length_append];omega
 have hqa:q=a+((conc x).length - 1):=by omega
 have:=drop_any base w B _ _ F h a q (by omega) (by rw [e1,List.length_append,List.length_append,l1,List.length_replicate];omega)
 have f1:(flatL (pre ++ [x,y])).take a ++ (flatL (pre ++ [x,y])).drop q=flatL (pre ++ conc x ++ [y]):=by
  have d:=drop_at (A:=flatL pre ++ flatL (conc x)) (X:=List.replicate ((conc x).length - 1) ((7,0):Nd)) (Y:=y.flat)
  have t:=take_at (A:=flatL pre ++ flatL (conc x)) (X:=List.replicate ((conc x).length - 1) ((7,0):Nd)) (Y:=y.flat)
  rw [l1] at d t
  rw [List.length_replicate,← hqa] at d
  rw [e1,t,d,flatL_append,flatL_append,flatL_one]
 have f2:(szL (pre ++ [x,y])).take a ++ (szL (pre ++ [x,y])).drop q=szL (pre ++ conc x ++ [y]):=by
  have d:=drop_at (A:=szL pre ++ szL (conc x)) (X:=S) (Y:=y.sz)
  have t:=take_at (A:=szL pre ++ szL (conc x)) (X:=S) (Y:=y.sz)
  rw [l2] at d t
  rw [h3,← hqa] at d
  rw [e2,t,d,szL_append,szL_append,szL_one]
 rw [f1,f2] at this
 exact this

theorem take_last {α:Type} {l:List α} {j:Nat} (hj:j<l.length):l.take (j+1)=l.take j ++ [l[j]]∧l.drop j=l[j] :: l.drop (j+1) :=
 ⟨by rw [List.take_add_one,List.getElem?_eq_getElem hj];rfl,List.drop_eq_getElem_cons hj⟩

set_option maxHeartbeats 4000000 in
set_option maxRecDepth 100000 in
theorem concat_any {base:Nat} {w:World} {B:Nat} {F:Fb} {pre:List Tr} {x y:Tr} (h:FT base w B (pre ++ [x,y]) F) (hox:x.ok) (hoy:y.ok) (hN:(flatL (pre ++ [x,y])).length<90000) :
  Calls Tryz.prog 84 #[.pointer (some ⟨B,0,none⟩)] w fun en w'=>en=.returned (.tuple #[])∧FTE base w B F (pre ++ [(conc x).foldr cj y]) w':=by
 obtain ⟨p,q,e,hx,hy,he,hp⟩:=at_last2 pre x y
 have HS:Hid (FT base w B (pre ++ [x,y]) F):=h
 have HT:Hid (At (flatL (pre ++ [x,y])) (szL (pre ++ [x,y])) p q x):=hx
 have HU:Hid (At (flatL (pre ++ [x,y])) (szL (pre ++ [x,y])) q e y):=hy
 have HOX:Hid x.ok:=hox
 have HOY:Hid y.ok:=hoy
 have HE:Hid (e=(flatL (pre ++ [x,y])).length):=he
 have HQ:Hid (q=(flatL pre).length+x.flat.length):=by show _=_;rw [← hp];exact hx.end_
 have hlen:(flatL (pre ++ [x,y])).length=(flatL pre).length+x.flat.length+y.flat.length:=by rw [flatL_append,flatL_cons,flatL_one];simp only [List.length_append];omega
 have HNL:Hid ((flatL pre).length+x.flat.length+y.flat.length<90000):=by show _<_;omega
 have hlt:=h.lt
 have hle:=hx.le
 have hle2:=hy.le
 obtain ⟨hc1,hc2⟩:=conc_len hox
 obtain ⟨r,hr⟩:∃ r,(conc x).length - 1=r:=⟨_,rfl⟩
 have hrq:r+1≤q:=by have:=hx.end_;omega
 have hq9:q<90000:=by omega
 have HR:Hid ((conc x).length - 1=r):=hr
 have HIN:Hid (∀ k,k<r→((flatL (pre ++ [x,y])).getD (q - 1 - k) (0,0)).1=7):=fun k hk=>root_in hox HQ.out (by omega)
 have HOUT:Hid (((flatL (pre ++ [x,y])).getD (q - 1 - r) (0,0)).1≠7):=by have:=root_out (pre:=pre) (post:=[y]) hox HQ.out;rw [hr] at this;exact this
 have HND:=h.node
 have HCP:=h.caps
 have hqN:q≤(flatL (pre ++ [x,y])).length:=hle.2
 obtain ⟨b0,_⟩:=h.cells
 obtain ⟨hnb,_,_,_⟩:=h.lts
 obtain ⟨N,hNe⟩:∃ N,flatL (pre ++ [x,y])=N:=⟨_,rfl⟩
 rw [hNe] at b0 HIN HOUT HND HCP hqN
 have HND:Hid (∀ i,i<N.length→w.cell? ⟨F.nb,i * 2,none⟩=some (.int .i64 (N.getD i (0,0)).1)∧w.cell? ⟨F.nb,i * 2+1,none⟩=some (.int .u8 (N.getD i (0,0)).2)):=HND
 clear h hx hy hox hoy he hp hle hle2 hc1 hc2 hr hN hlen hNe
 go_enter Tryz.func84,Tryz.ntmps84
 go_wp2_with fail
 refine (lastT HS.out HT.out HU.out HE.out).mono ?_
 rintro en w1 ⟨rfl,hb1⟩
 have HB1:Hid (Below w.heap.size w ((w1.alloc (.cells #[.int .i64 (p:Int),.int .i64 (q:Int)] 123)).alloc (.cells #[.int .i64 (q:Int),.int .i64 (e:Int)] 123))):=(hb1.alloc hb1.size _).alloc (by have:=hb1.size;simp;omega) _
 have HX1:Hid (Bx ((w1.alloc (.cells #[.int .i64 (p:Int),.int .i64 (q:Int)] 123)).alloc (.cells #[.int .i64 (q:Int),.int .i64 (e:Int)] 123)) w1.heap.size (.int .i64 (p:Int)) (.int .i64 (q:Int))):=(Bx.new w1 _ _).stay ((Below.refl _ _).alloc (Nat.le_refl _) _)
 clear hb1
 go_wp2_with fail
 obtain ⟨b,hb⟩:∃ b,w1.heap.size=b:=⟨_,rfl⟩
 generalize (w1.alloc (.cells #[.int .i64 (p:Int),.int .i64 (q:Int)] 123)).alloc (.cells #[.int .i64 (q:Int),.int .i64 (e:Int)] 123)=wA at HB1 HX1 ⊢
 rw [hb] at HX1 ⊢
 clear hb
 have B0:wA.cell? ⟨B,0,none⟩=some (.slice (some ⟨F.nb,0,none⟩) N.length F.nc):=(World.cell?_of_block (HB1.out.block B hlt)).trans b0
 have NDA:Hid (∀ i,i<N.length→wA.cell? ⟨F.nb,i * 2,none⟩=some (.int .i64 (N.getD i (0,0)).1)):=fun i hi=>(World.cell?_of_block (HB1.out.block F.nb hnb)).trans (HND.out i hi).1
 clear b0 HND
 go_loopw [4] (fun v4 wr=>∃ k n:Nat,k≤r∧v4=.int .i64 (k:Int)∧wr=wA.drewN n) (fun v4 _=>r - (intOf v4).toNat)
 case atStart=>exact ⟨0,0,Nat.zero_le _,rfl,rfl⟩
 case round =>
  obtain ⟨k,n,hk,rfl,rfl⟩:=hrel
  obtain ⟨x0,x1,_⟩:=HX1.out.cells
  have hcx:=NDA.out (q - 1 - k) (by omega)
  have hi:q - 1 - k<N.length:=by omega
  have hiI:((q - 1 - k:Nat):Int)<(N.length:Int):=by omega
  have hw1:IntKind.i64.wrap ((q:Int) - 1)=((q - 1:Nat):Int):=by rw [IntKind.wrap_i64];omega
  have hw1':(q:Int) - 1=((q - 1:Nat):Int):=by omega
  have hw2:IntKind.i64.wrap (((q - 1:Nat):Int) - (k:Int))=((q - 1 - k:Nat):Int):=by rw [IntKind.wrap_i64];omega
  have hw2':((q - 1:Nat):Int) - (k:Int)=((q - 1 - k:Nat):Int):=by omega
  have HIK:Hid (k<r→(N.getD (q - 1 - k) (0,0)).1=7):=HIN.out k
  have HOK:Hid (k=r→(N.getD (q - 1 - k) (0,0)).1≠7):=fun e=>by rw [e];exact HOUT.out
  obtain ⟨c,hc⟩:∃ c,(N.getD (q - 1 - k) (0,0)).1=c:=⟨_,rfl⟩
  rw [hc] at hcx HIK HOK
  obtain ⟨q1,hq1⟩:∃ q1,q - 1=q1:=⟨_,rfl⟩
  rw [hq1] at hcx hi hiI hw1 hw1' hw2 hw2'
  obtain ⟨q2,hq2⟩:∃ q2,q1 - k=q2:=⟨_,rfl⟩
  rw [hq2] at hcx hi hiI hw2 hw2'
  clear hc hq1 hq2
  by_cases hlk : k < r
  ·have h7:=HIK.out hlk
   subst h7
   go_wp2_with fail
   go_region
   go_wp2_with fail
   go_roundw
   case rel=>exact ⟨k+1,n+1,by omega,by go_num,rfl⟩
   case measure=>simp [intOf];omega
  ·obtain rfl:k=r:=by omega
   have h7:(c == 7)=false:=by rw [beq_eq_false_iff_ne];exact HOK.out rfl
   obtain ⟨a,ha⟩:∃ a,a=q - k:=⟨_,rfl⟩
   have HA:Hid (a=q - ((conc x).length - 1)):=by show _=_;rw [HR.out];exact ha
   have hwa:(q:Int) - (k:Int)=(a:Int):=by omega
   have hwa2:IntKind.i64.wrap ((q:Int) - (k:Int))=(a:Int):=by rw [IntKind.wrap_i64];omega
   have hwk:IntKind.i64.wrap ((k:Int)+1)=((k+1:Nat):Int):=by rw [IntKind.wrap_i64];omega
   clear ha
   go_wp2_with fail
   go_region
   go_wp2_with fail
   have HBn:Hid (Below w.heap.size w (wA.drewN (n+1))):=below_drewN HB1.out _
   refine (drop_roots (HS.out.stay HBn.out) HOX.out HQ.out HA.out).mono ?_
   rintro en w2 ⟨rfl,F2,hs2,hg2⟩
   have HS2:Hid (FT base w2 B (pre ++ conc x ++ [y]) F2):=hs2
   have HG2:Hid (FG w w2 B F F2):=(FG.of HBn.out).trans hg2
   clear hs2 hg2 hcx hw1 hw1' hw2 hw2' hwa hwa2 x0 x1 B0 NDA HX1 HB1 h7 hi hiI HBn
   obtain ⟨m,hm⟩:∃ m,(conc x).length=m:=⟨_,rfl⟩
   have hmk:m=k+1:=by have:=HR.out;have:=conc_pos x;omega
   have HM:Hid ((conc x).length=m):=hm
   clear hm
   go_wp2_with fail
   have hkm:((k+1:Nat):Int)=(m:Int):=by omega
   go_loopw [38] (fun v38 wr=>∃ (i:Nat) (F':Fb),i≤m∧v38=.int .i64 (i:Int)∧FT base wr B (pre ++ (conc x).take (m - i) ++ [((conc x).drop (m - i)).foldr cj y]) F'∧FG w wr B F F') (fun v38 _=>m - (intOf v38).toNat)
   case atStart=>exact ⟨0,F2,Nat.zero_le _,rfl,by rw [Nat.sub_zero,← HM.out,List.take_length,List.drop_length];exact HS2.out,HG2.out⟩
   case round =>
    clear HS2 HG2
    obtain ⟨i,F',hi,rfl,hs,hg⟩:=hrel
    have HS3:Hid (FT base wr B (pre ++ (conc x).take (m - i) ++ [((conc x).drop (m - i)).foldr cj y]) F'):=hs
    have HG3:Hid (FG w wr B F F'):=hg
    clear hs hg
    by_cases hlt2 : i < m
    ·have hltI:(i:Int)<(k:Int)+1:=by omega
     obtain ⟨j,hj⟩:∃ j,m - i=j+1:=⟨m - i - 1,by omega⟩
     have hjl:j<(conc x).length:=by rw [HM.out];omega
     obtain ⟨t1,t2⟩:=take_last hjl
     obtain ⟨pp,hpp⟩:∃ pp,(conc x)[j]=pp:=⟨_,rfl⟩
     rw [hpp] at t1 t2
     have hopp:pp.ok:=conc_ok HOX.out pp (by rw [← hpp];exact List.getElem_mem _)
     have horr:(((conc x).drop (j+1)).foldr cj y).ok:=fold_ok HOY.out (fun z hz=>conc_ok HOX.out z (List.mem_of_mem_drop hz))
     have hbnd:(flatL (pre ++ (conc x).take (j+1) ++ [((conc x).drop (j+1)).foldr cj y])).length<95000:=by
      have h1:=fold_len y ((conc x).drop (j+1))
      have h2:=flatL_lens ((conc x).take (j+1))
      have h3:=lens_append ((conc x).take (j+1)) ((conc x).drop (j+1))
      rw [List.take_append_drop,lens_conc] at h3
      have h4:=HNL.out
      rw [flatL_append,flatL_append,flatL_one,List.length_append,List.length_append]
      omega
     have HCJ:Hid (((conc x).drop j).foldr cj y=cj pp (((conc x).drop (j+1)).foldr cj y)):=by show _=_;rw [t2];rfl
     rw [hj] at HS3
     rw [t1] at HS3 hbnd
     obtain ⟨rst,hrst⟩:∃ rst,((conc x).drop (j+1)).foldr cj y=rst:=⟨_,rfl⟩
     rw [hrst] at HS3 hbnd HCJ horr
     obtain ⟨pr,hpr⟩:∃ pr,pre ++ (conc x).take j=pr:=⟨_,rfl⟩
     have hst:pre ++ ((conc x).take j ++ [pp]) ++ [rst]=pr ++ [pp,rst]:=by rw [← hpr];simp
     rw [hst] at HS3 hbnd
     have HS4:Hid (FT base wr B (pr ++ [pp,rst]) F'):=HS3.out
     have HNX:Hid (∀ {w9:World} {F9:Fb},FT base w9 B (pr ++ [cj pp rst]) F9→FT base w9 B (pre ++ (conc x).take (m - (i+1)) ++ [((conc x).drop (m - (i+1))).foldr cj y]) F9):=fun {w9 F9} h=>by
      rw [show m - (i+1)=j by omega,hpr,HCJ.out]
      exact h
     obtain ⟨P,Q,E,hP,hQ,hE,hPp⟩:=at_last2 pr pp rst
     have HP:Hid (At (flatL (pr ++ [pp,rst])) (szL (pr ++ [pp,rst])) P Q pp):=hP
     have HQ2:Hid (At (flatL (pr ++ [pp,rst])) (szL (pr ++ [pp,rst])) Q E rst):=hQ
     have HEE:Hid (E=(flatL (pr ++ [pp,rst])).length):=hE
     have HPP:Hid (P=(flatL pr).length∧Q=P+pp.flat.length):=⟨hPp,hP.end_⟩
     have HOP:Hid pp.ok:=hopp
     have HOR:Hid rst.ok:=horr
     have HBD:Hid ((flatL (pr ++ [pp,rst])).length<95000):=hbnd
     clear t1 t2 hj hjl hpp hopp horr hbnd hrst hpr hst HS3 hP hQ hE hPp HCJ
     go_wp2_with fail
     refine (lastT HS4.out HP.out HQ2.out HEE.out).mono ?_
     rintro en w4 ⟨rfl,hb4⟩
     have HB4:Hid (Below wr.heap.size wr ((w4.alloc (.cells #[.int .i64 (P:Int),.int .i64 (Q:Int)] 123)).alloc (.cells #[.int .i64 (Q:Int),.int .i64 (E:Int)] 123))):=(hb4.alloc hb4.size _).alloc (by have:=hb4.size;simp;omega) _
     have HX4:Hid (Bx ((w4.alloc (.cells #[.int .i64 (P:Int),.int .i64 (Q:Int)] 123)).alloc (.cells #[.int .i64 (Q:Int),.int .i64 (E:Int)] 123)) w4.heap.size (.int .i64 (P:Int)) (.int .i64 (Q:Int))):=(Bx.new w4 _ _).stay ((Below.refl _ _).alloc (Nat.le_refl _) _)
     have HY4:Hid (Bx ((w4.alloc (.cells #[.int .i64 (P:Int),.int .i64 (Q:Int)] 123)).alloc (.cells #[.int .i64 (Q:Int),.int .i64 (E:Int)] 123)) (w4.heap.size+1) (.int .i64 (Q:Int)) (.int .i64 (E:Int))):=by
      have:=Bx.new (w4.alloc (.cells #[.int .i64 (P:Int),.int .i64 (Q:Int)] 123)) (.int .i64 (Q:Int)) (.int .i64 (E:Int))
      rw [show (w4.alloc (.cells #[.int .i64 (P:Int),.int .i64 (Q:Int)] 123)).heap.size=w4.heap.size+1 by simp] at this
      exact this
     clear hb4
     go_wp2_with fail
     obtain ⟨c4,hc4⟩:∃ c4,w4.heap.size=c4:=⟨_,rfl⟩
     generalize (w4.alloc (.cells #[.int .i64 (P:Int),.int .i64 (Q:Int)] 123)).alloc (.cells #[.int .i64 (Q:Int),.int .i64 (E:Int)] 123)=w5 at HB4 HX4 HY4 ⊢
     rw [hc4] at HX4 HY4 ⊢
     clear hc4
     refine (isAllT (HS4.out.stay HB4.out) HP.out HOP.out).mono ?_
     rintro en w6 ⟨rfl,hb6⟩
     have HB6:Hid (Below wr.heap.size wr w6):=go_on HB4.out hb6
     have HX6:Hid (Bx w6 c4 (.int .i64 (P:Int)) (.int .i64 (Q:Int))):=HX4.out.stay hb6
     have HY6:Hid (Bx w6 (c4+1) (.int .i64 (Q:Int)) (.int .i64 (E:Int))):=HY4.out.stay hb6
     clear hb6 HB4 HX4 HY4
     obtain ⟨x0,x1,xf⟩:=HX6.out.cells
     obtain ⟨y0,y1,yf⟩:=HY6.out.cells
     by_cases hall : pp = tAll
     ·rw [decide_eq_true hall]
      go_wp2_with fail
      refine (beginsT (HS4.out.stay HB6.out) HQ2.out HOR.out).mono ?_
      rintro en w7 ⟨rfl,hb7⟩
      have HB7:Hid (Below wr.heap.size wr w7):=go_on HB6.out hb7
      have HX7:Hid (Bx w7 c4 (.int .i64 (P:Int)) (.int .i64 (Q:Int))):=HX6.out.stay hb7
      clear hb7 x0 x1 xf y0 y1 yf HX6 HY6 HB6
      obtain ⟨x0,x1,xf⟩:=HX7.out.cells
      by_cases hfst : firstC rst = tAll
      ·have HC:Hid (cj pp rst=rst):=by show _=_;rw [cj,if_pos ⟨hall,hfst⟩]
       rw [decide_eq_true hfst]
       clear hall hfst
       go_wp2_with fail
       refine (drop_x (HS4.out.stay HB7.out) HPP.out.1 HPP.out.2).mono ?_
       rintro en w8 ⟨rfl,F8,hs8,hg8⟩
       have HS8:Hid (FT base w8 B (pr ++ [cj pp rst]) F8):=by show FT _ _ _ _ _;rw [HC.out];exact hs8
       have HG8:Hid (FG w w8 B F F8):=HG3.out.trans ((FG.of HB7.out).trans hg8)
       clear hs8 hg8
       go_wp2_with fail
       go_roundw
       case rel=>exact ⟨i+1,F8,by omega,by go_num,HNX.out HS8.out,HG8.out⟩
       case measure=>simp [intOf];omega
      ·have HC:Hid (cj pp rst=.two (7,0) pp rst):=by show _=_;rw [cj,if_neg (fun h=>hfst h.2)]
       rw [decide_eq_false hfst]
       clear hall hfst
       go_wp2_with fail
       refine (put2 (HS4.out.stay HB7.out) (7,0) (by have:=HBD.out;omega)).mono ?_
       rintro en w8 ⟨rfl,F8,hs8,hg8⟩
       have HS8:Hid (FT base w8 B (pr ++ [cj pp rst]) F8):=by show FT _ _ _ _ _;rw [HC.out];exact hs8
       have HG8:Hid (FG w w8 B F F8):=HG3.out.trans ((FG.of HB7.out).trans hg8)
       clear hs8 hg8
       go_wp2_with fail
       go_roundw
       case rel=>exact ⟨i+1,F8,by omega,by go_num,HNX.out HS8.out,HG8.out⟩
       case measure=>simp [intOf];omega
     ·have HC:Hid (cj pp rst=.two (7,0) pp rst):=by show _=_;rw [cj,if_neg (fun h=>hall h.1)]
      rw [decide_eq_false hall]
      clear hall
      go_wp2_with fail
      refine (put2 (HS4.out.stay HB6.out) (7,0) (by have:=HBD.out;omega)).mono ?_
      rintro en w8 ⟨rfl,F8,hs8,hg8⟩
      have HS8:Hid (FT base w8 B (pr ++ [cj pp rst]) F8):=by show FT _ _ _ _ _;rw [HC.out];exact hs8
      have HG8:Hid (FG w w8 B F F8):=HG3.out.trans ((FG.of HB6.out).trans hg8)
      clear hs8 hg8
      go_wp2_with fail
      go_roundw
      case rel=>exact ⟨i+1,F8,by omega,by go_num,HNX.out HS8.out,HG8.out⟩
      case measure=>simp [intOf];omega
    ·obtain rfl:i=m:=by omega
     have hltI:¬ (i:Int)<(k:Int)+1:=by omega
     have HEND:Hid (FTE base w B F (pre ++ [(conc x).foldr cj y]) wr):=by
      refine ⟨F',?_,HG3.out⟩
      have:=HS3.out
      rw [Nat.sub_self,List.take_zero,List.drop_zero,List.append_nil] at this
      exact this
     go_wp2_with fail
     refine bodyPost_end (results_none rfl _ _ _) rfl ?_
     exact ⟨rfl,HEND.out⟩
end Go.Proofs.YtfdhaknecjcjoaaGreatDoor

namespace Go.Proofs.YtfdhaknecjcjoaaGreatDoor
open Go Go.RowKit
set_option linter.unusedVariables false

/-- A form's list, as the program tells it. -/
abbrev lstV (F:Fb) (p e:Nat):Value:=.slice (some ⟨F.nb,p * 2,none⟩) (e - p) (F.nc - p)
theorem FS.reads {base:Nat} {w:World} {B:Nat} {N:List Nd} {Z:List Nat} {F:Fb} (h:FS base w B N Z F) {p e:Nat} {t:Tr} (ht:At N Z p e t):NReads w (lstV F p e) t.flat:=by
 have h1:=ht.le
 have h2:=ht.end_
 have hl:t.flat.length=e - p:=by omega
 refine ⟨some ⟨F.nb,p * 2,none⟩,F.nc - p,by rw [hl],fun i hi=>⟨F.nb,p * 2,rfl,h.lts.1,?_,?_⟩⟩
 all_goals
  have e1:t.flat.getD i (0,0)=N.getD (p+i) (0,0):=by
   rw [← ht.take,List.getD_eq_getElem?_getD,List.getD_eq_getElem?_getD,List.getElem?_take,if_pos (by omega),List.getElem?_drop]
  rw [e1]
 ·rw [show p * 2+i * 2=(p+i) * 2 by omega];exact (h.node (p+i) (by omega)).1
 ·rw [show p * 2+i * 2+1=(p+i) * 2+1 by omega];exact (h.node (p+i) (by omega)).2

set_option maxHeartbeats 4000000 in
set_option maxRecDepth 100000 in
theorem listV_any {base : Nat} {w : World} {B : Nat} {N : List Nd} {Z : List Nat} {F : Fb} (h : FS base w B N Z F) {p e : Nat} {t : Tr} (ht : At N Z p e t) :
  Calls Tryz.prog 88 #[.pointer (some ⟨B,0,none⟩),.agg #[.int .i64 (p:Int),.int .i64 (e:Int)]] w fun en w'=>en=.returned (lstV F p e)∧Below w.heap.size w w':=by
 have hlt:=h.lt
 have hsm:=h.small
 have hcp:=h.caps
 have hle:=ht.le
 obtain ⟨hnb,_,_,_⟩:=h.lts
 obtain ⟨c0,_⟩:=h.cells
 have hna:¬ F.nc=p:=by omega
 clear h ht
 go_enter Tryz.func88,Tryz.ntmps88
 go_wp2_with fail
 go_region
 go_wp2_with fail
 go_ret
 exact ⟨rfl,((Below.refl _ _).alloc (Nat.le_refl _) _).drew⟩

abbrev S5c (W:World) (b1 o1 b2 o2 b3 o3 b4 o4 b5 o5:Nat) (u1 u2 u3 u4 u5:Value) (w':World):Prop:=w'.cell? ⟨b1,o1,none⟩=some u1∧w'.cell? ⟨b2,o2,none⟩=some u2∧w'.cell? ⟨b3,o3,none⟩=some u3∧w'.cell? ⟨b4,o4,none⟩=some u4∧w'.cell? ⟨b5,o5,none⟩=some u5∧Below W.heap.size W w'
theorem s5c_step {W:World} {b1 o1 b2 o2 b3 o3 b4 o4 b5 o5:Nat} {u1 u2 u3 u4 u5:Value} {w1 w2:World} (hb:Below w1.heap.size w1 w2) (h:S5c W b1 o1 b2 o2 b3 o3 b4 o4 b5 o5 u1 u2 u3 u4 u5 w1):S5c W b1 o1 b2 o2 b3 o3 b4 o4 b5 o5 u1 u2 u3 u4 u5 w2:=by
 have hc:∀ {b o:Nat} {u:Value},w1.cell? ⟨b,o,none⟩=some u→w2.cell? ⟨b,o,none⟩=some u:=fun {b o u} h=>(World.cell?_of_block (hb.block b (World.block_lt_of_cell? w1 _ h))).trans h
 exact ⟨hc h.1,hc h.2.1,hc h.2.2.1,hc h.2.2.2.1,hc h.2.2.2.2.1,go_on h.2.2.2.2.2 hb⟩

set_option maxHeartbeats 4000000 in
set_option maxRecDepth 100000 in
theorem compareT {base:Nat} {w:World} {B:Nat} {N:List Nd} {Z:List Nat} {F:Fb} (h:FS base w B N Z F) {p e p' e':Nat} {t t':Tr} (ht:At N Z p e t) (ht':At N Z p' e' t') (cb:Nat) (hcb:w.cell? ⟨cb,0,none⟩=some (.pointer (some ⟨B,0,none⟩))) :
  Calls Tryz.prog 104 #[.agg #[.int .i64 (p:Int),.int .i64 (e:Int)],.agg #[.int .i64 (p':Int),.int .i64 (e':Int)],.pointer (some ⟨cb,0,none⟩)] w fun en w'=>en=.returned (.int .i64 (ct t.flat t'.flat))∧Below w.heap.size w w':=by
 have HS:Hid (FS base w B N Z F):=h
 have HT:Hid (At N Z p e t):=ht
 have HU:Hid (At N Z p' e' t'):=ht'
 have HL:Hid (t.flat.length≤9223372036854775806):=by show _≤_;have:=h.small;have:=ht.le;have:=ht.end_;omega
 have HC:Hid (w.cell? ⟨cb,0,none⟩=some (.pointer (some ⟨B,0,none⟩))):=hcb
 have hcl:cb<w.heap.size:=World.block_lt_of_cell? w _ hcb
 have HB0:Hid (Below w.heap.size w ((w.alloc (.cells #[.int .i64 (p:Int),.int .i64 (e:Int)] 123)).alloc (.cells #[.int .i64 (p':Int),.int .i64 (e':Int)] 123))):=((Below.refl _ _).alloc (Nat.le_refl _) _).alloc (by simp) _
 have HX0:Hid (Bx ((w.alloc (.cells #[.int .i64 (p:Int),.int .i64 (e:Int)] 123)).alloc (.cells #[.int .i64 (p':Int),.int .i64 (e':Int)] 123)) w.heap.size (.int .i64 (p:Int)) (.int .i64 (e:Int))):=(Bx.new w _ _).stay ((Below.refl _ _).alloc (Nat.le_refl _) _)
 have HY0:Hid (Bx ((w.alloc (.cells #[.int .i64 (p:Int),.int .i64 (e:Int)] 123)).alloc (.cells #[.int .i64 (p':Int),.int .i64 (e':Int)] 123)) (w.heap.size+1) (.int .i64 (p':Int)) (.int .i64 (e':Int))):=by
  have:=Bx.new (w.alloc (.cells #[.int .i64 (p:Int),.int .i64 (e:Int)] 123)) (.int .i64 (p':Int)) (.int .i64 (e':Int))
  rw [show (w.alloc (.cells #[.int .i64 (p:Int),.int .i64 (e:Int)] 123)).heap.size=w.heap.size+1 by simp] at this
  exact this
 clear h ht ht' hcb
 go_enter Tryz.func104,Tryz.ntmps104
 go_wp2_with fail
 generalize (w.alloc (.cells #[.int .i64 (p:Int),.int .i64 (e:Int)] 123)).alloc (.cells #[.int .i64 (p':Int),.int .i64 (e':Int)] 123)=wA at HB0 HX0 HY0 ⊢
 have S0:S5c wA cb 0 w.heap.size 0 w.heap.size 1 (w.heap.size+1) 0 (w.heap.size+1) 1 (.pointer (some ⟨B,0,none⟩)) (.int .i64 (p:Int)) (.int .i64 (e:Int)) (.int .i64 (p':Int)) (.int .i64 (e':Int)) wA.drew :=
  ⟨(World.cell?_of_block (HB0.out.block cb hcl)).trans HC.out,HX0.out.cells.1,HX0.out.cells.2.1,HY0.out.cells.1,HY0.out.cells.2.1,(Below.refl _ _).drew⟩
 go_region_held3 (fun w'=>S5c wA cb 0 w.heap.size 0 w.heap.size 1 (w.heap.size+1) 0 (w.heap.size+1) 1 (.pointer (some ⟨B,0,none⟩)) (.int .i64 (p:Int)) (.int .i64 (e:Int)) (.int .i64 (p':Int)) (.int .i64 (e':Int)) w') (first | exact S0 | assumption | exact s5c_step (by assumption) (by assumption)) (first
  | (go_at_call_of 88 (Value.int IntKind.i64 (p:Int));refine (listV_any (HS.out.stay (go_on HB0.out (show S5c wA cb 0 w.heap.size 0 w.heap.size 1 (w.heap.size+1) 0 (w.heap.size+1) 1 _ _ _ _ _ _ from by assumption).2.2.2.2.2)) HT.out).mono ?_;rintro en a1 ⟨rfl,ha1⟩)
  | (go_at_call 88;refine (listV_any (HS.out.stay (go_on HB0.out (show S5c wA cb 0 w.heap.size 0 w.heap.size 1 (w.heap.size+1) 0 (w.heap.size+1) 1 _ _ _ _ _ _ from by assumption).2.2.2.2.2)) HU.out).mono ?_;rintro en a2 ⟨rfl,ha2⟩)
  | (go_at_call 94;refine (compare_any _ _ t.flat t'.flat _ ((HS.out.stay (go_on HB0.out (show S5c wA cb 0 w.heap.size 0 w.heap.size 1 (w.heap.size+1) 0 (w.heap.size+1) 1 _ _ _ _ _ _ from by assumption).2.2.2.2.2)).reads HT.out) ((HS.out.stay (go_on HB0.out (show S5c wA cb 0 w.heap.size 0 w.heap.size 1 (w.heap.size+1) 0 (w.heap.size+1) 1 _ _ _ _ _ _ from by assumption).2.2.2.2.2)).reads HU.out) HL.out).mono ?_;rintro en a3 ⟨rfl,ha3⟩))
 all_goals go_wp2_with fail
 all_goals go_ret
 all_goals exact ⟨rfl,go_on HB0.out (show S5c wA cb 0 w.heap.size 0 w.heap.size 1 (w.heap.size+1) 0 (w.heap.size+1) 1 (.pointer (some ⟨B,0,none⟩)) (.int .i64 (p:Int)) (.int .i64 (e:Int)) (.int .i64 (p':Int)) (.int .i64 (e':Int)) _ from by first | assumption | exact s5c_step (by assumption) (by assumption)).2.2.2.2.2⟩

theorem results_sp1 {fn:Func} {p:Tmp} (h:fn.results=#[.cell p 123]) {tmps:Array Value} {b:Nat} {x y:Value} {w:World} (hp:tmps.getD p undef=.pointer (some ⟨b,0,none⟩)) (hb:Bx w b x y) :
  (results fn tmps).run Tryz.prog w=.ok (.agg #[x,y]) w:=by
 have hp':tmps[p]?.getD undef=.pointer (some ⟨b,0,none⟩):=by simpa using hp
 simp [results,h,go_sem,hp',hb.cells.1,hb.cells.2.1,Result.andThen]

set_option maxHeartbeats 4000000 in
set_option maxRecDepth 100000 in
theorem greatestT {base : Nat} {w : World} {B : Nat} {N : List Nd} {Z : List Nat} {F : Fb} (h : FS base w B N Z F) {p e : Nat} {t : Tr} (ht : At N Z p e t) (ho : t.ok) (k : Int) (hk : k = 5 ∨ k = 6) :
  Calls Tryz.prog 106 #[.pointer (some ⟨B,0,none⟩),.int .i64 k,.agg #[.int .i64 (p:Int),.int .i64 (e:Int)]] w fun en w'=>∃ p' e':Nat,At N Z p' e' (grt k t)∧en=.returned (.agg #[.int .i64 (p':Int),.int .i64 (e':Int)])∧Below w.heap.size w w':=by
 have HS:Hid (FS base w B N Z F):=h
 have HT:Hid (At N Z p e t):=ht
 have HO:Hid t.ok:=ho
 have hsz:((w.alloc (.cells #[.int .i64 (p:Int),.int .i64 (e:Int)] 123)).alloc (.cells #[.int .i64 0,.int .i64 0] 123)).heap.size=w.heap.size+2:=by simp
 have HB0:Hid (Below w.heap.size w ((w.alloc (.cells #[.int .i64 (p:Int),.int .i64 (e:Int)] 123)).alloc (.cells #[.int .i64 0,.int .i64 0] 123))):=((Below.refl _ _).alloc (Nat.le_refl _) _).alloc (by simp) _
 have HX0:Hid (Bx ((w.alloc (.cells #[.int .i64 (p:Int),.int .i64 (e:Int)] 123)).alloc (.cells #[.int .i64 0,.int .i64 0] 123)) w.heap.size (.int .i64 (p:Int)) (.int .i64 (e:Int))):=(Bx.new w _ _).stay ((Below.refl _ _).alloc (Nat.le_refl _) _)
 have HY0:Hid (Bx ((w.alloc (.cells #[.int .i64 (p:Int),.int .i64 (e:Int)] 123)).alloc (.cells #[.int .i64 0,.int .i64 0] 123)) (w.heap.size+1) (.int .i64 0) (.int .i64 0)):=by
  have:=Bx.new (w.alloc (.cells #[.int .i64 (p:Int),.int .i64 (e:Int)] 123)) (.int .i64 0) (.int .i64 0)
  rw [show (w.alloc (.cells #[.int .i64 (p:Int),.int .i64 (e:Int)] 123)).heap.size=w.heap.size+1 by simp] at this
  exact this
 clear h ht ho
 go_enter Tryz.func106,Tryz.ntmps106
 go_wp2_with fail
 generalize (w.alloc (.cells #[.int .i64 (p:Int),.int .i64 (e:Int)] 123)).alloc (.cells #[.int .i64 0,.int .i64 0] 123)=wA at hsz HB0 HX0 HY0 ⊢
 refine (rootT (HS.out.stay HB0.out) HT.out).mono ?_
 rintro en w1 ⟨rfl,hb1⟩
 have HB1:Hid (Below w.heap.size w w1):=go_on HB0.out hb1
 have HX1:Hid (Bx w1 w.heap.size (.int .i64 (p:Int)) (.int .i64 (e:Int))):=HX0.out.stay hb1
 have HY1:Hid (Bx w1 (w.heap.size+1) (.int .i64 0) (.int .i64 0)):=HY0.out.stay hb1
 clear hb1 HX0 HY0 HB0 hsz
 obtain ⟨c0,c1,cf⟩:=HX1.out.cells
 obtain ⟨d0,d1,df⟩:=HY1.out.cells
 by_cases hr : t.root.1 = k
 ·obtain ⟨n,a,b,et⟩:∃ n a b,t=.two n a b:=by
   cases t with
   | zero n=>exact absurd hr (ok_root0 hk HO.out)
   | one n a=>exact absurd hr (ok_root1 hk HO.out)
   | two n a b=>exact ⟨n,a,b,rfl⟩
  subst et
  have hnk:n.1=k:=hr
  obtain ⟨q,hqa,hqb⟩:=HT.out.two
  have HQA:Hid (At N Z p q a):=hqa
  have HQB:Hid (At N Z q (e - 1) b):=hqb
  have hqe:q<e:=by have:=hqb.le;omega
  have HG:Hid (grt k (.two n a b)=b):=by show _=_;rw [grt,if_pos hnk]
  have hbk:(k == k)=true:=by simp
  rw [hr]
  clear hqa hqb hr hnk
  go_wp2_with fail
  refine (partsT (HS.out.stay HB1.out) HQA.out HQB.out hqe p).mono ?_
  rintro en w2 ⟨rfl,hb2⟩
  have HB2:Hid (Below w.heap.size w w2):=go_on HB1.out hb2
  have HX2:Hid (Bx w2 w.heap.size (.int .i64 (p:Int)) (.int .i64 (e:Int))):=HX1.out.stay hb2
  have HY2:Hid (Bx w2 (w.heap.size+1) (.int .i64 0) (.int .i64 0)):=HY1.out.stay hb2
  obtain ⟨r,hr⟩:∃ r,e - 1=r:=⟨_,rfl⟩
  rw [hr] at HQB ⊢
  clear hb2 HX1 HY1 HB1 c0 c1 cf d0 d1 df hr
  obtain ⟨c0,c1,cf⟩:=HX2.out.cells
  obtain ⟨d0,d1,df⟩:=HY2.out.cells
  have g1:=HX2.out.lt
  have g2:=HY2.out.lt
  have HE:Hid (Below w.heap.size w ((((w2.setCell ⟨w.heap.size,0,none⟩ (.int .i64 (q:Int))).setCell ⟨w.heap.size,1,none⟩ (.int .i64 (r:Int))).setCell ⟨w.heap.size+1,0,none⟩ (.int .i64 (q:Int))).setCell ⟨w.heap.size+1,1,none⟩ (.int .i64 (r:Int)))) :=
   below_put (below_put HB2.out (by omega) _ _) (by omega) _ _
  have U1:Hid (Bx ((((w2.setCell ⟨w.heap.size,0,none⟩ (.int .i64 (q:Int))).setCell ⟨w.heap.size,1,none⟩ (.int .i64 (r:Int))).setCell ⟨w.heap.size+1,0,none⟩ (.int .i64 (q:Int))).setCell ⟨w.heap.size+1,1,none⟩ (.int .i64 (r:Int))) (w.heap.size+1) (.int .i64 (q:Int)) (.int .i64 (r:Int))) :=
   ((HY2.out.off (by omega)).off (by omega)).put _ _
  go_wp2_with fail
  exact bodyPost_ret (results_sp1 rfl rfl U1.out) rfl ⟨q,r,by rw [HG.out];exact HQB.out,rfl,HE.out⟩
 ·have hbk:(t.root.1 == k)=false:=by simpa using hr
  have HG:Hid (grt k t=t):=by
   show _ = _
   cases t with
   | zero n=>rfl
   | one n a=>rfl
   | two n a b=>rw [grt,if_neg (show ¬ n.1=k from hr)]
  have g1:=HX1.out.lt
  have g2:=HY1.out.lt
  have HE:Hid (Below w.heap.size w ((w1.setCell ⟨w.heap.size+1,0,none⟩ (.int .i64 (p:Int))).setCell ⟨w.heap.size+1,1,none⟩ (.int .i64 (e:Int)))):=below_put HB1.out (by omega) _ _
  have U1:Hid (Bx ((w1.setCell ⟨w.heap.size+1,0,none⟩ (.int .i64 (p:Int))).setCell ⟨w.heap.size+1,1,none⟩ (.int .i64 (e:Int))) (w.heap.size+1) (.int .i64 (p:Int)) (.int .i64 (e:Int))):=HY1.out.put _ _
  clear hr
  go_wp2_with fail
  exact bodyPost_ret (results_sp1 rfl rfl U1.out) rfl ⟨p,e,by rw [HG.out];exact HT.out,rfl,HE.out⟩
end Go.Proofs.YtfdhaknecjcjoaaGreatDoor

namespace Go.Proofs
open Go.Shelf Go.Lib
open Go.Proofs.YtfdhaknecjcjoaaGreatDoor

shelf_lay_g SlLaysE0.n35 Slgn 35 at Tryz 127 as Tryz.reverseSpan
end Go.Proofs
namespace Go.Proofs.YtfdhaknecjcjoaaGreatDoor
open Go Go.RowKit
set_option linter.unusedVariables false

abbrev Sp:=Nat × Nat
def spE (x:Sp):List Value:=[.int .i64 (x.1:Int),.int .i64 (x.2:Int)]
def spC : List Sp → List Value
 | []=>[]
 | x :: l=>.int .i64 (x.1:Int) :: .int .i64 (x.2:Int) :: spC l
theorem spC_append (a b:List Sp):spC (a ++ b)=spC a ++ spC b:=by
 induction a with
 | nil=>rfl
 | cons n a ih=>simp [spC,ih]
theorem spC_length (ts:List Sp):(spC ts).length=ts.length * 2:=by
 induction ts with
 | nil=>rfl
 | cons n ts ih=>simp [spC,ih];omega
theorem spC_at (ts:List Sp) (i:Nat) (h:i<ts.length):(spC ts)[i * 2]?=some (.int .i64 ((ts.getD i (0,0)).1:Int))∧(spC ts)[i * 2+1]?=some (.int .i64 ((ts.getD i (0,0)).2:Int)):=by
 induction ts generalizing i with
 | nil=>simp at h
 | cons n ts ih =>
  cases i with
  | zero=>exact ⟨rfl,rfl⟩
  | succ i =>
   have:=ih i (by simpa using h)
   rw [show (i + 1) * 2 = i * 2 + 1 + 1 by omega]
   simp only [spC,List.getElem?_cons_succ,List.getD_cons_succ]
   exact this
theorem spC_one (ts:List Sp):∀ u ∈ spC ts,u.oneCell'=true:=by
 induction ts with
 | nil=>intro u hu;simp [spC] at hu
 | cons n ts ih =>
  intro u hu
  simp only [spC,List.mem_cons] at hu
  rcases hu with rfl | rfl | hu
  ·rfl
  ·rfl
  ·exact ih u hu
theorem sp_flat (L:List Sp) (t:Nat) (h:t<L.length * 2):(spC L)[t]?=some ((Go.Sort.flatK spE 2 L.toArray)[t]!):=by
 rw [Go.Sort.get_flatK _ _ _ t (by simpa using h)]
 have hi:t / 2<L.length:=by omega
 have e:L.toArray[t / 2]! = L.getD (t / 2) (0,0):=by
  rw [getElem!_pos L.toArray (t / 2) (by simpa using hi),List.getD_eq_getElem?_getD,List.getElem?_eq_getElem hi]
  simp
 obtain ⟨h1,h2⟩:=spC_at L (t / 2) hi
 rw [e]
 have hc:t % 2=0∨t % 2=1:=by omega
 rcases hc with hc | hc
 ·rw [hc]
  rw [show t / 2 * 2 = t by omega] at h1
  rw [h1]
  rfl
 ·rw [hc]
  rw [show t / 2 * 2 + 1 = t by omega] at h2
  rw [h2]
  rfl
theorem putRow_heap (w:World) (g:Nat) (F:Array Value) (cur:Array Value) (t:TypeId) (h:w.heap[g]?=some (.cells cur t (0,0))):(Go.Sort.putRow id w g 0 F).heap[g]?=some (.cells (Go.Sort.putCells id 0 F cur) t (0,0))∧(∀ j,j≠g→(Go.Sort.putRow id w g 0 F).heap[j]?=w.heap[j]?)∧(Go.Sort.putRow id w g 0 F).heap.size=w.heap.size:=by
 refine ⟨?_,fun j hj=>?_,?_⟩
 ·simp [Go.Sort.putRow,Go.Sort.mapBlock,Array.getElem?_modify,h,Go.Sort.onCells]
 ·simp only [Go.Sort.putRow,Go.Sort.mapBlock,Array.getElem?_modify]
  rw [if_neg (fun e=>hj e.symm)]
 ·simp [Go.Sort.putRow,Go.Sort.mapBlock]
theorem isAgg_span (w:World):(isAgg 123).run Tryz.prog w=.ok true w:=by
 simp [isAgg,run_underlying Tryz.underlying123]
theorem sizeOf_span (w:World):(Go.sizeOf 123).run Tryz.prog w=.ok 2 w:=by
 have h:=Tryz.info_span
 cases hi : Tryz.prog.info? 123 with
 | none=>rw [hi] at h;cases h
 | some i =>
  rw [hi] at h
  have h:i.size=2:=by simpa using h
  simp [Go.sizeOf,typeInfo,hi,h]
theorem reverse_any (base g cap:Nat) (L:List Sp) (w:World) (h:w.ownsRow base 123 2 (.slice (some ⟨g,0,none⟩) L.length cap) L.length (spC L)) (hL:L.length≤1000000) :
  Calls Tryz.prog 127 #[.slice (some ⟨g,0,none⟩) L.length cap] w fun e w'=>e=.returned (.tuple #[])∧w'.ownsRow base 123 2 (.slice (some ⟨g,0,none⟩) L.length cap) L.length (spC L.reverse)∧w.grownBy w' (some g):=by
 have hH:Go.Sort.HoldsK spE 2 w g 0 L.toArray:=fun j hj=>by
  have hj':j<L.length * 2:=by simpa using hj
  rw [Nat.zero_add]
  exact ⟨(h.cellAt j hj').trans (sp_flat L j hj'),h.frozenAt j⟩
 have:=AnyQ.slices_Reverse Tryz.reverseSpan 2 isAgg_span sizeOf_span spE (fun _=>rfl) (fun x v hv=>by simp [spE] at hv;rcases hv with rfl | rfl <;> rfl) g 0 cap L.toArray w hH (by simp;omega)
 rw [show L.toArray.size = L.length by simp] at this
 refine this.mono ?_
 rintro e w' ⟨rfl,n,rfl⟩
 obtain ⟨hxl,hh⟩:=h
 rcases hh with ⟨hh,_⟩ | ⟨g',cap',cur,e,hb,hg,hnc,hcm,hcs,htk⟩
 ·cases hh
 simp only [Value.slice.injEq,Option.some.injEq,Addr.mk.injEq] at e
 obtain ⟨⟨rfl,_⟩,_,rfl⟩:=e
 obtain ⟨p1,p2,p3⟩:=putRow_heap (Go.Sort.ahead w n) g (Go.Sort.flatK spE 2 L.toArray.reverse) cur 123 hg
 refine ⟨rfl,⟨by rw [spC_length,List.length_reverse],.inr ⟨g,cap,_,rfl,hb,p1,hnc,hcm,?_,?_⟩⟩,⟨rfl,rfl,rfl,by show _≤(Go.Sort.putRow id (Go.Sort.ahead w n) g 0 _).heap.size;rw [p3];exact Nat.le_refl _,fun k hk hne=>p2 k (fun e=>hne (by rw [e]))⟩⟩
 ·rw [← hcs];simp [Go.Sort.putCells]
 ·apply List.ext_getElem?
  intro t
  have e1:L.toArray.reverse=L.reverse.toArray:=by simp
  rw [List.getElem?_take,e1]
  by_cases ht : t < L.length * 2
  ·have htc:t<cur.size:=by rw [hcs];omega
   rw [if_pos ht,sp_flat L.reverse t (by rw [List.length_reverse];exact ht),Array.getElem?_toList]
   simp only [Go.Sort.putCells,Array.getElem?_mapIdx]
   rw [Array.getElem?_eq_getElem htc]
   simp [ht]
  ·rw [if_neg ht,List.getElem?_eq_none (by rw [spC_length,List.length_reverse];omega)]
end Go.Proofs.YtfdhaknecjcjoaaGreatDoor
