/- Xl Xm, in one text. -/
import Derived.Test.YtfdhaknecjcjoaaGreatDoorPX
namespace Go.Proofs.YtfdhaknecjcjoaaGreatDoor
open Go Go.RowKit
set_option linter.unusedVariables false

/-- A tree and where it stands. -/
abbrev Pq:=Nat × Nat × Tr
def spQ (Q:List Pq):List Sp:=Q.map fun x=>(x.1,x.2.1)
def trQ (Q:List Pq):List Tr:=Q.map fun x=>x.2.2
def PlQ (N:List Nd) (Z:List Nat) (Q:List Pq):Prop:=∀ x ∈ Q,At N Z x.1 x.2.1 x.2.2∧x.2.2.ok
theorem Tryz.info_span2:(Tryz.prog.info? 123).map (fun i=>(i.zero,i.size,i.bytes))=some (some (.agg #[.int .i64 0,.int .i64 0]),2,16):=by kernel_rfl
def endB (w:World) (b:Nat):Nat:=match w.cell? ⟨b,1,none⟩ with
 | some (.int _ n)=>n.toNat
 | _=>0
theorem endB_eq {w:World} {b e:Nat} {x:Value} (h:Bx w b x (.int .i64 (e:Int))):endB w b=e:=by
 unfold endB
 rw [h.cells.2.1]
 simp
/-- Two cells of a box, made into a new row. -/
theorem two_new3 (w:World) (x y:Value) (t:TypeId):∀ j u,[x,y][j]?=some u→(w.alloc (.cells #[x,y] t)).cell? ((⟨w.heap.size,0,none⟩:Addr).add j)=some u:=by
 intro j u hj
 have h:=heap_alloc_new w (.cells #[x,y] t)
 rw [Addr.add_lit]
 simp only [World.cell?,h]
 rw [Nat.zero_add]
 simpa using hj
theorem spine_two {k:Int} {n:Nd} {a b:Tr} (h:n.1=k):spine k (.two n a b)=spine k a ++ [b]:=by rw [spine,if_pos h]
/-- The row of spans grows: a box elsewhere stands. -/
theorem Bx.grown {w w':World} {b:Nat} {x y:Value} {r:Option Nat} (h:Bx w b x y) (hg:w.grownBy w' r) (hne:r≠some b):Bx w' b x y:=(hg.block b h.lt (fun e=>hne e.symm)).trans h
set_option maxHeartbeats 4000000 in
set_option maxRecDepth 100000 in
theorem members_any {base : Nat} {w : World} {B : Nat} {N : List Nd} {Z : List Nat} {F : Fb} (h : FS base w B N Z F) {p e : Nat} {t : Tr} (ht : At N Z p e t) (ho : t.ok) (k : Int) (hk : k = 5 ∨ k = 6) :
  Calls Tryz.prog 108 #[.pointer (some ⟨B,0,none⟩),.int .i64 k,.agg #[.int .i64 (p:Int),.int .i64 (e:Int)]] w fun en w'=>∃ (Q:List Pq) (v:Value),trQ Q=spine k t∧PlQ N Z Q∧Q.length≤100000∧en=.returned v∧w'.ownsRow w.heap.size 123 2 v Q.length (spC (spQ Q))∧Below w.heap.size w w':=by
 have HS:Hid (FS base w B N Z F):=h
 have HT:Hid (At N Z p e t):=ht
 have HO:Hid t.ok:=ho
 have hle:=ht.le
 have hsm:=h.small
 have hlt:=h.lt
 obtain ⟨i0,hi0,hz0,hz1,hz2⟩:=info_parts Tryz.info_span2
 have HB0:Hid (Below w.heap.size w (w.alloc (.cells #[.int .i64 (p:Int),.int .i64 (e:Int)] 123))):=(Below.refl _ _).alloc (Nat.le_refl _) _
 have HX0:Hid (Bx (w.alloc (.cells #[.int .i64 (p:Int),.int .i64 (e:Int)] 123)) w.heap.size (.int .i64 (p:Int)) (.int .i64 (e:Int))):=Bx.new w _ _
 clear h ht ho
 go_enter Tryz.func108,Tryz.ntmps108
 go_wp2_with fail
 generalize w.alloc (.cells #[.int .i64 (p:Int),.int .i64 (e:Int)] 123)=wA at HB0 HX0 ⊢
 go_loopw [7] (fun v7 wr=>∃ (R:List Pq) (p' e':Nat) (t':Tr),spine k t=spine k t' ++ (trQ R).reverse∧PlQ N Z R∧At N Z p' e' t'∧t'.ok∧R.length+e'≤e∧wr.ownsRow (w.heap.size+1) 123 2 v7 R.length (spC (spQ R))∧Bx wr w.heap.size (.int .i64 (p':Int)) (.int .i64 (e':Int))∧Below w.heap.size w wr) (fun _ wr=>endB wr w.heap.size)
 case atStart=>exact ⟨[],p,e,t,by simp [trQ],fun x hx=>by simp at hx,HT.out,HO.out,by simp,World.ownsRow_nil _ _ _ _,HX0.out,HB0.out⟩
 case round =>
  clear HX0 HB0
  obtain ⟨R,p',e',t',hsp,hpl,hat,hok,hlen,hown,hbx,hbl⟩:=hrel
  have HSP:Hid (spine k t=spine k t' ++ (trQ R).reverse):=hsp
  have HPL:Hid (PlQ N Z R):=hpl
  have HAT:Hid (At N Z p' e' t'):=hat
  have HOK:Hid t'.ok:=hok
  have HOW:Hid (wr.ownsRow (w.heap.size+1) 123 2 u7 R.length (spC (spQ R))):=hown
  have HBX:Hid (Bx wr w.heap.size (.int .i64 (p':Int)) (.int .i64 (e':Int))):=hbx
  have HBL:Hid (Below w.heap.size w wr):=hbl
  obtain ⟨c0,c1,cf⟩:=hbx.cells
  clear hsp hpl hat hok hown hbx hbl
  go_wp2_with fail
  refine (rootT (HS.out.stay HBL.out) HAT.out).mono ?_
  rintro en w1 ⟨rfl,hb1⟩
  have hs0:=HBL.out.size
  have HB1:Hid (Below w.heap.size w w1):=go_on HBL.out hb1
  have HX1:Hid (Bx w1 w.heap.size (.int .i64 (p':Int)) (.int .i64 (e':Int))):=HBX.out.stay hb1
  have HO1:Hid (w1.ownsRow (w.heap.size+1) 123 2 u7 R.length (spC (spQ R))):=own_below HOW.out hb1
  clear hb1 HOW c0 c1 cf
  obtain ⟨c0,c1,cf⟩:=HX1.out.cells
  by_cases hr : t'.root.1 = k
  ·obtain ⟨n,a,b,et⟩:∃ n a b,t'=.two n a b:=by
    cases t' with
    | zero n=>exact absurd hr (ok_root0 hk HOK.out)
    | one n a=>exact absurd hr (ok_root1 hk HOK.out)
    | two n a b=>exact ⟨n,a,b,rfl⟩
   subst et
   have hnk:n.1=k:=hr
   obtain ⟨q,hqa,hqb⟩:=HAT.out.two
   have hqe:q<e':=by have:=hqb.le;omega
   have HQA:Hid (At N Z p' q a):=hqa
   have HQB:Hid (At N Z q (e' - 1) b):=hqb
   have HSP2:Hid (spine k t=spine k a ++ ([b] ++ (trQ R).reverse)):=by show _=_;rw [HSP.out,spine_two hnk,List.append_assoc]
   have hbk:(k == k)=true:=by simp
   rw [hr]
   clear hqa hqb hr hnk
   go_wp2_with fail
   refine (partsT (HS.out.stay HB1.out) HQA.out HQB.out hqe p').mono ?_
   rintro en w2 ⟨rfl,hb2⟩
   obtain ⟨r,hr⟩:∃ r,e' - 1=r:=⟨_,rfl⟩
   rw [hr] at HQB ⊢
   have hs1:=HB1.out.size
   have hs2:=hb2.size
   have HB2:Below w.heap.size w w2:=go_on HB1.out hb2
   have HO2:=own_below HO1.out hb2
   have HX2:=HX1.out.stay hb2
   have hx2l:=HX2.lt
   -- the three new blocks
   have HOC:Hid ((((w2.alloc (.cells #[.int .i64 (p':Int),.int .i64 (q:Int)] 123)).alloc (.cells #[.int .i64 (q:Int),.int .i64 (r:Int)] 123)).alloc (.cells #[.int .i64 (q:Int),.int .i64 (r:Int)] 123)).ownsRow (w.heap.size+1) 123 2 u7 R.length (spC (spQ R))):=((HO2.alloc _).alloc _).alloc _
   have HBC:Hid (Below w.heap.size w (((w2.alloc (.cells #[.int .i64 (p':Int),.int .i64 (q:Int)] 123)).alloc (.cells #[.int .i64 (q:Int),.int .i64 (r:Int)] 123)).alloc (.cells #[.int .i64 (q:Int),.int .i64 (r:Int)] 123))):=((HB2.alloc HB2.size _).alloc (by simp;omega) _).alloc (by simp;omega) _
   have HXC:Hid (Bx (((w2.alloc (.cells #[.int .i64 (p':Int),.int .i64 (q:Int)] 123)).alloc (.cells #[.int .i64 (q:Int),.int .i64 (r:Int)] 123)).alloc (.cells #[.int .i64 (q:Int),.int .i64 (r:Int)] 123)) w.heap.size (.int .i64 (p':Int)) (.int .i64 (e':Int))):=((HX2.stay ((Below.refl _ _).alloc (Nat.le_refl _) _)).stay ((Below.refl _ _).alloc (Nat.le_refl _) _)).stay ((Below.refl _ _).alloc (Nat.le_refl _) _)
   have HYC:Hid (Bx (((w2.alloc (.cells #[.int .i64 (p':Int),.int .i64 (q:Int)] 123)).alloc (.cells #[.int .i64 (q:Int),.int .i64 (r:Int)] 123)).alloc (.cells #[.int .i64 (q:Int),.int .i64 (r:Int)] 123)) w2.heap.size (.int .i64 (p':Int)) (.int .i64 (q:Int))):=((Bx.new w2 _ _).stay ((Below.refl _ _).alloc (Nat.le_refl _) _)).stay ((Below.refl _ _).alloc (Nat.le_refl _) _)
   have HNEW:Hid (∀ j u,[Value.int .i64 (q:Int),Value.int .i64 (r:Int)][j]?=some u→(((w2.alloc (.cells #[.int .i64 (p':Int),.int .i64 (q:Int)] 123)).alloc (.cells #[.int .i64 (q:Int),.int .i64 (r:Int)] 123)).alloc (.cells #[.int .i64 (q:Int),.int .i64 (r:Int)] 123)).cell? ((⟨w2.heap.size+1+1,0,none⟩:Addr).add j)=some u):=by
    have:=two_new3 ((w2.alloc (.cells #[.int .i64 (p':Int),.int .i64 (q:Int)] 123)).alloc (.cells #[.int .i64 (q:Int),.int .i64 (r:Int)] 123)) (.int .i64 (q:Int)) (.int .i64 (r:Int)) 123
    rw [show ((w2.alloc (.cells #[.int .i64 (p':Int),.int .i64 (q:Int)] 123)).alloc (.cells #[.int .i64 (q:Int),.int .i64 (r:Int)] 123)).heap.size=w2.heap.size+1+1 by simp] at this
    exact this
   have HZ2:Hid (∀ b,u7.ownBlock=some b→b<w2.heap.size∧w.heap.size+1≤b):=fun b hb=>⟨(HO2.lt b hb).2,(HO2.lt b hb).1⟩
   have hRl:R.length+1≤100000:=by omega
   clear hb2 HB2 HO2 HX2 hr c0 c1 cf HO1 HX1 HB1
   have hbase:w.heap.size+1≤(((w2.alloc (.cells #[.int .i64 (p':Int),.int .i64 (q:Int)] 123)).alloc (.cells #[.int .i64 (q:Int),.int .i64 (r:Int)] 123)).alloc (.cells #[.int .i64 (q:Int),.int .i64 (r:Int)] 123)).heap.size:=by simp;omega
   go_wp2_with (at_builtin;refine wpList_append_lies _ rfl _ _ 140 rfl (w.heap.size+1) 123 i0 (.agg #[.int .i64 0,.int .i64 0]) 2 16 Tryz.underlying140 hi0 hz0 hz1 hz2 rfl (by decide) _ _ _ rfl HOC.out ⟨w2.heap.size+1+1,0,none⟩ 1 1 [.int .i64 (q:Int),.int .i64 (r:Int)] rfl rfl HNEW.out (by intro u hu;simp at hu;rcases hu with rfl | rfl <;> rfl) (by decide) (by unfold maxLen;omega) (by omega) hbase _ rfl ?_)
   intro g9 c9 w9 ho9 hg9 hl9 hlt9
   have hg9b:=(ho9.lt g9 rfl).1
   have B9:Below w.heap.size w w9:=HBC.out.grown hg9 HBC.out.size (fun b hb=>by have:=(HZ2.out b hb).2;omega)
   have X9:Bx w9 w.heap.size (.int .i64 (p':Int)) (.int .i64 (e':Int)):=HXC.out.grown hg9 (fun hb=>by have:=(HZ2.out _ hb).2;omega)
   have Y9:Bx w9 w2.heap.size (.int .i64 (p':Int)) (.int .i64 (q:Int)):=HYC.out.grown hg9 (fun hb=>by have:=(HZ2.out _ hb).1;omega)
   obtain ⟨c0,c1,cf⟩:=X9.cells
   obtain ⟨d0,d1,df⟩:=Y9.cells
   have x9l:=X9.lt
   have y9l:=Y9.lt
   have HB10:Hid (Below w.heap.size w ((w9.setCell ⟨w.heap.size,0,none⟩ (.int .i64 (p':Int))).setCell ⟨w.heap.size,1,none⟩ (.int .i64 (q:Int)))):=below_put B9 (Nat.le_refl _) _ _
   have HX10:Hid (Bx ((w9.setCell ⟨w.heap.size,0,none⟩ (.int .i64 (p':Int))).setCell ⟨w.heap.size,1,none⟩ (.int .i64 (q:Int))) w.heap.size (.int .i64 (p':Int)) (.int .i64 (q:Int))):=X9.put _ _
   have HO10:Hid (((w9.setCell ⟨w.heap.size,0,none⟩ (.int .i64 (p':Int))).setCell ⟨w.heap.size,1,none⟩ (.int .i64 (q:Int))).ownsRow (w.heap.size+1) 123 2 (.slice (some ⟨g9,0,none⟩) (R.length+1) c9) (R.length+1) (spC (spQ (R ++ [(q,r,b)])))):=by
    have e1:spC (spQ (R ++ [(q,r,b)]))=spC (spQ R) ++ [.int .i64 (q:Int),.int .i64 (r:Int)]:=by rw [spQ,List.map_append,spC_append];rfl
    show World.ownsRow _ _ _ _ _ _ _
    rw [e1]
    exact own_set_ne (own_set_ne ho9 _ (by simp [Value.ownBlock];omega)) _ (by simp [Value.ownBlock];omega)
   clear ho9 hg9 hl9 hlt9 B9 X9 Y9 HOC HBC HXC HYC HNEW
   go_wp2_with fail
   go_roundw
   case rel =>
    refine ⟨R ++ [(q,r,b)],p',q,a,?_,?_,HQA.out,HOK.out.2.2.1,?_,?_,HX10.out,HB10.out⟩
    ·rw [HSP2.out];simp [trQ]
    ·intro x hx
     rcases List.mem_append.1 hx with hx | hx
     ·exact HPL.out x hx
     ·simp at hx;subst hx;exact ⟨HQB.out,HOK.out.2.2.2⟩
    ·rw [List.length_append,List.length_singleton];omega
    ·rw [List.length_append,List.length_singleton];exact HO10.out
   case measure=>rw [endB_eq HX10.out,endB_eq HBX.out];exact hqe
  ·have hbk:(t'.root.1 == k)=false:=by simpa using hr
   have HSP2:Hid (spine k t'=[t']):=spine_other hr
   have hs1:=HB1.out.size
   have hx1l:=HX1.out.lt
   have HOC:Hid ((w1.alloc (.cells #[.int .i64 (p':Int),.int .i64 (e':Int)] 123)).ownsRow (w.heap.size+1) 123 2 u7 R.length (spC (spQ R))):=HO1.out.alloc _
   have HBC:Hid (Below w.heap.size w (w1.alloc (.cells #[.int .i64 (p':Int),.int .i64 (e':Int)] 123))):=HB1.out.alloc HB1.out.size _
   have HNEW:Hid (∀ j u,[Value.int .i64 (p':Int),Value.int .i64 (e':Int)][j]?=some u→(w1.alloc (.cells #[.int .i64 (p':Int),.int .i64 (e':Int)] 123)).cell? ((⟨w1.heap.size,0,none⟩:Addr).add j)=some u):=two_new3 w1 _ _ _
   have HZ2:Hid (∀ b,u7.ownBlock=some b→w.heap.size+1≤b):=fun b hb=>(HO1.out.lt b hb).1
   have hRl:R.length+1≤100000:=by have:=HAT.out.le;omega
   have hbase:w.heap.size+1≤(w1.alloc (.cells #[.int .i64 (p':Int),.int .i64 (e':Int)] 123)).heap.size:=by simp;omega
   clear hr HO1 HB1
   go_wp2_with (at_builtin;refine wpList_append_lies _ rfl _ _ 140 rfl (w.heap.size+1) 123 i0 (.agg #[.int .i64 0,.int .i64 0]) 2 16 Tryz.underlying140 hi0 hz0 hz1 hz2 rfl (by decide) _ _ _ rfl HOC.out ⟨w1.heap.size,0,none⟩ 1 1 [.int .i64 (p':Int),.int .i64 (e':Int)] rfl rfl HNEW.out (by intro u hu;simp at hu;rcases hu with rfl | rfl <;> rfl) (by decide) (by unfold maxLen;omega) (by omega) hbase _ rfl ?_)
   intro g9 c9 w9 ho9 hg9 hl9 hlt9
   have hg9b:=(ho9.lt g9 rfl).1
   have HB9:Hid (Below w.heap.size w w9):=HBC.out.grown hg9 HBC.out.size (fun b hb=>by have:=HZ2.out b hb;omega)
   have hln:(spQ (R ++ [(p',e',t')])).length=R.length+1:=by simp [spQ]
   have HLN:Hid ((spQ (R ++ [(p',e',t')])).length=R.length+1):=hln
   have HO9:Hid (w9.ownsRow (w.heap.size+1) 123 2 (.slice (some ⟨g9,0,none⟩) (spQ (R ++ [(p',e',t')])).length c9) (spQ (R ++ [(p',e',t')])).length (spC (spQ (R ++ [(p',e',t')])))):=by
    have e1:spC (spQ (R ++ [(p',e',t')]))=spC (spQ R) ++ [.int .i64 (p':Int),.int .i64 (e':Int)]:=by rw [spQ,List.map_append,spC_append];rfl
    show World.ownsRow _ _ _ _ _ _ _
    rw [e1,hln]
    exact ho9
   clear ho9 hg9 hl9 hlt9 HOC HBC HNEW c0 c1 cf
   go_wp2_with fail
   rw [← HLN.out]
   refine (reverse_any (w.heap.size+1) g9 c9 _ _ HO9.out (by rw [HLN.out];omega)).mono ?_
   rintro en w10 ⟨rfl,ho10,hg10⟩
   have HB10:Hid (Below w.heap.size w w10):=HB9.out.grown hg10 HB9.out.size (fun b hb=>by simp only [Option.some.injEq] at hb;omega)
   have HO10:Hid (w10.ownsRow w.heap.size 123 2 (.slice (some ⟨g9,0,none⟩) (spQ (R ++ [(p',e',t')])).length c9) (R ++ [(p',e',t')]).reverse.length (spC (spQ (R ++ [(p',e',t')]).reverse))):=by
    have e2:spQ (R ++ [(p',e',t')]).reverse=(spQ (R ++ [(p',e',t')])).reverse:=by simp [spQ]
    have e3:(R ++ [(p',e',t')]).reverse.length=(spQ (R ++ [(p',e',t')])).length:=by simp [spQ]
    show World.ownsRow _ _ _ _ _ _ _
    rw [e2,e3]
    exact own_mono ho10 (by omega)
   clear ho10 hg10
   go_wp2_with fail
   go_ret
   refine ⟨(R ++ [(p',e',t')]).reverse,.slice (some ⟨g9,0,none⟩) (spQ (R ++ [(p',e',t')])).length c9,?_,?_,?_,by first | rfl | (rw [HLN.out];rfl),HO10.out,HB10.out⟩
   ·rw [HSP.out,HSP2.out];simp [trQ]
   ·intro x hx
    rw [List.mem_reverse] at hx
    rcases List.mem_append.1 hx with hx | hx
    ·exact HPL.out x hx
    ·simp at hx;subst hx;exact ⟨HAT.out,HOK.out⟩
   ·simp;omega
end Go.Proofs.YtfdhaknecjcjoaaGreatDoor

namespace Go.Proofs.YtfdhaknecjcjoaaGreatDoor
open Go Go.RowKit
set_option linter.unusedVariables false

/-- A list of spans that stands in a world. -/
def SReads (w:World) (v:Value) (L:List Sp):Prop:=∃ g o cap,v=.slice (some ⟨g,o,none⟩) L.length cap∧L.length≤cap∧cap≤9223372036854775807∧g<w.heap.size∧∀ i,i<L.length→w.cell? ⟨g,o+i * 2,none⟩=some (.int .i64 ((L.getD i (0,0)).1:Int))∧w.cell? ⟨g,o+i * 2+1,none⟩=some (.int .i64 ((L.getD i (0,0)).2:Int))
theorem own_sreads {w:World} {base:Nat} {v:Value} {L:List Sp} (h:w.ownsRow base 123 2 v L.length (spC L)) (hn:L≠[]):SReads w v L:=by
 have h':=h
 obtain ⟨_,h2⟩:=h
 rcases h2 with ⟨_,h0⟩ | ⟨g,cap,cur,rfl,hb,hg,hnc,hcm,hcs,htk⟩
 ·exact absurd (List.eq_nil_of_length_eq_zero h0) hn
 ·refine ⟨g,0,cap,rfl,hnc,by unfold maxLen at hcm;exact hcm,(Array.getElem?_eq_some_iff.1 hg).1,fun i hi=>?_⟩
  rw [Nat.zero_add,h'.cellAt (i * 2) (by omega),h'.cellAt (i * 2+1) (by omega)]
  exact spC_at L i hi
theorem SReads.stay {w w':World} {v:Value} {L:List Sp} (h:SReads w v L) (hb:Below w.heap.size w w'):SReads w' v L:=by
 obtain ⟨g,o,cap,e,h1,h2,h3,h4⟩:=h
 refine ⟨g,o,cap,e,h1,h2,Nat.lt_of_lt_of_le h3 hb.size,fun i hi=>?_⟩
 exact ⟨(World.cell?_of_block (a:=⟨g,o+i * 2,none⟩) (hb.block g h3)).trans (h4 i hi).1,(World.cell?_of_block (a:=⟨g,o+i * 2+1,none⟩) (hb.block g h3)).trans (h4 i hi).2⟩
def lenV : Value → Nat
 | .slice _ n _=>n
 | _=>0
theorem trQ_cons (x:Pq) (Q:List Pq):trQ (x :: Q)=x.2.2 :: trQ Q:=rfl
theorem spQ_cons (x:Pq) (Q:List Pq):spQ (x :: Q)=(x.1,x.2.1) :: spQ Q:=rfl
theorem spQ_length (Q:List Pq):(spQ Q).length=Q.length:=by simp [spQ]
theorem trQ_append (a b:List Pq):trQ (a ++ b)=trQ a ++ trQ b:=by simp [trQ]
theorem spQ_append (a b:List Pq):spQ (a ++ b)=spQ a ++ spQ b:=by simp [spQ]

theorem sreads_tail {w:World} {g o cap n:Nat} {x:Pq} {Q:List Pq} (hn:Q.length=n) (h1:n+1≤cap) (h2:cap≤9223372036854775807) (hg:g<w.heap.size) (h:∀ i,i<(x :: Q).length→w.cell? ⟨g,o+i * 2,none⟩=some (.int .i64 (((spQ (x :: Q)).getD i (0,0)).1:Int))∧w.cell? ⟨g,o+i * 2+1,none⟩=some (.int .i64 (((spQ (x :: Q)).getD i (0,0)).2:Int))) :
  SReads w (.slice (if cap=1 then some ⟨g,o,none⟩ else some ⟨g,o+2,none⟩) n (cap - 1)) (spQ Q):=by
 subst hn
 by_cases hc : cap = 1
 ·rw [if_pos hc]
  exact ⟨g,o,cap - 1,by rw [spQ_length],by rw [spQ_length];omega,by omega,hg,fun i hi=>by rw [spQ_length] at hi;omega⟩
 ·rw [if_neg hc]
  refine ⟨g,o+2,cap - 1,by rw [spQ_length],by rw [spQ_length];omega,by omega,hg,fun i hi=>?_⟩
  rw [spQ_length] at hi
  have:=h (i+1) (by simp;omega)
  rw [spQ_cons,List.getD_cons_succ,show o+(i+1) * 2=o+2+i * 2 by omega] at this
  exact this
theorem sreads_all {w:World} {g o cap n:Nat} {Q:List Pq} (hn:Q.length=n) (h1:n≤cap) (h2:cap≤9223372036854775807) (hg:g<w.heap.size) (h:∀ i,i<Q.length→w.cell? ⟨g,o+i * 2,none⟩=some (.int .i64 (((spQ Q).getD i (0,0)).1:Int))∧w.cell? ⟨g,o+i * 2+1,none⟩=some (.int .i64 (((spQ Q).getD i (0,0)).2:Int))) :
  SReads w (.slice (some ⟨g,o,none⟩) n cap) (spQ Q):=by
 subst hn
 exact ⟨g,o,cap,by rw [spQ_length],by rw [spQ_length];exact h1,h2,hg,fun i hi=>h i (by rw [spQ_length] at hi;exact hi)⟩
theorem sreads_cells {w w':World} {g o n cap:Nat} {L:List Sp} (h:SReads w (.slice (some ⟨g,o,none⟩) n cap) L) (hb:Below w.heap.size w w'):∀ j u,(spC L)[j]?=some u→w'.cell? ((⟨g,o,none⟩:Addr).add j)=some u:=by
 obtain ⟨g',o',c',e,h1,h2,h3,h4⟩:=h.stay hb
 simp only [Value.slice.injEq,Option.some.injEq,Addr.mk.injEq] at e
 obtain ⟨⟨rfl,rfl,_⟩,rfl,rfl⟩:=e
 intro j u hj
 have hjl:j<L.length * 2:=by rw [← spC_length];exact (List.getElem?_eq_some_iff.1 hj).1
 obtain ⟨c1,c2⟩:=h4 (j / 2) (by omega)
 obtain ⟨s1,s2⟩:=spC_at L (j / 2) (by omega)
 rw [Addr.add_lit]
 by_cases hp : j % 2 = 0
 ·have ej:j / 2 * 2=j:=by omega
  rw [ej] at c1 s1
  rw [c1,← hj,← s1]
 ·have ej:j / 2 * 2+1=j:=by omega
  rw [Nat.add_assoc,ej] at c2
  rw [ej] at s2
  rw [c2,← hj,← s2]
theorem PlQ.tail {N:List Nd} {Z:List Nat} {x:Pq} {Q:List Pq} (h:PlQ N Z (x :: Q)):PlQ N Z Q:=fun y hy=>h y (by simp [hy])
theorem PlQ.snoc {N:List Nd} {Z:List Nat} {x:Pq} {Q:List Pq} (h:PlQ N Z Q) (hx:At N Z x.1 x.2.1 x.2.2∧x.2.2.ok):PlQ N Z (Q ++ [x]):=fun y hy=>by
 rcases List.mem_append.1 hy with hy | hy
 ·exact h y hy
 ·simp at hy;subst hy;exact hx

set_option maxHeartbeats 8000000 in
set_option maxRecDepth 100000 in
theorem rising_any {base:Nat} {w:World} {B:Nat} {N:List Nd} {Z:List Nat} {F:Fb} (h:FS base w B N Z F) (va vb:Value) (A C:List Pq) (ha:SReads w va (spQ A)) (hb:SReads w vb (spQ C)) (hpa:PlQ N Z A) (hpb:PlQ N Z C) (hla:A.length≤100000) (hlb:C.length≤100000) (cb:Nat) (hcb:w.cell? ⟨cb,0,none⟩=some (.pointer (some ⟨B,0,none⟩))) :
  Calls Tryz.prog 107 #[va,vb,.func (.func 104) #[] #[.pointer (some ⟨cb,0,none⟩)]] w fun en w'=>∃ (R:List Pq) (v:Value),trQ R=mrg (trQ A) (trQ C)∧PlQ N Z R∧R.length≤A.length+C.length∧en=.returned v∧w'.ownsRow w.heap.size 123 2 v R.length (spC (spQ R))∧Below w.heap.size w w':=by
 have HS:Hid (FS base w B N Z F):=h
 have HA:Hid (SReads w va (spQ A)):=ha
 have HC:Hid (SReads w vb (spQ C)):=hb
 have HPA:Hid (PlQ N Z A):=hpa
 have HPC:Hid (PlQ N Z C):=hpb
 have HCB:Hid (w.cell? ⟨cb,0,none⟩=some (.pointer (some ⟨B,0,none⟩))):=hcb
 obtain ⟨i0,hi0,hz0,hz1,hz2⟩:=info_parts Tryz.info_span2
 clear h ha hb hpa hpb hcb
 go_enter Tryz.func107,Tryz.ntmps107
 go_wp2_with fail
 go_loopw [0,1,7] (fun v0 v1 v7 wr=>∃ Qa Qb R:List Pq,SReads w v0 (spQ Qa)∧SReads w v1 (spQ Qb)∧PlQ N Z Qa∧PlQ N Z Qb∧PlQ N Z R∧mrg (trQ A) (trQ C)=trQ R ++ mrg (trQ Qa) (trQ Qb)∧R.length+Qa.length+Qb.length≤A.length+C.length∧wr.ownsRow w.heap.size 123 2 v7 R.length (spC (spQ R))∧Below w.heap.size w wr) (fun v0 v1 _ _=>lenV v0+lenV v1)
 case atStart=>exact ⟨A,C,[],HA.out,HC.out,HPA.out,HPC.out,fun x hx=>by simp at hx,by simp [trQ],by simp,World.ownsRow_nil _ _ _ _,Below.refl _ _⟩
 case round =>
  clear HA HC HPA HPC
  obtain ⟨Qa,Qb,R,ha,hb,hpa,hpb,hpr,hm,hlen,hown,hbl⟩:=hrel
  obtain ⟨ga,oa,ca,rfl,ha1,ha2,ha3,ha4⟩:=ha
  obtain ⟨gb,ob,cc,rfl,hb1,hb2,hb3,hb4⟩:=hb
  rw [spQ_length] at ha1 ha4 hb1 hb4
  simp only [spQ_length]
  have HPA:Hid (PlQ N Z Qa):=hpa
  have HPB:Hid (PlQ N Z Qb):=hpb
  have HPR:Hid (PlQ N Z R):=hpr
  have HM:Hid (mrg (trQ A) (trQ C)=trQ R ++ mrg (trQ Qa) (trQ Qb)):=hm
  have HA4:Hid (∀ i,i<Qa.length→w.cell? ⟨ga,oa+i * 2,none⟩=some (.int .i64 (((spQ Qa).getD i (0,0)).1:Int))∧w.cell? ⟨ga,oa+i * 2+1,none⟩=some (.int .i64 (((spQ Qa).getD i (0,0)).2:Int))):=ha4
  have HB4:Hid (∀ i,i<Qb.length→w.cell? ⟨gb,ob+i * 2,none⟩=some (.int .i64 (((spQ Qb).getD i (0,0)).1:Int))∧w.cell? ⟨gb,ob+i * 2+1,none⟩=some (.int .i64 (((spQ Qb).getD i (0,0)).2:Int))):=hb4
  have HOW:Hid (wr.ownsRow w.heap.size 123 2 u7 R.length (spC (spQ R))):=hown
  have HBL:Hid (Below w.heap.size w wr):=hbl
  clear hpa hpb hpr hm ha4 hb4 hown hbl
  by_cases hne : Qa = [] ∨ Qb = []
  ·have HM2:Hid (mrg (trQ A) (trQ C)=trQ (R ++ Qa ++ Qb)):=by
    show _ = _
    rw [HM.out,trQ_append,trQ_append]
    rcases hne with rfl | rfl
    ·simp [trQ,mrg]
    ·cases Qa with
     | nil=>simp [trQ,mrg]
     | cons z Q=>rw [trQ_cons];simp [trQ,mrg]
   have HND:Hid (Qa=[]∨Qb=[]):=hne
   obtain ⟨na,hna⟩:∃ na,Qa.length=na:=⟨_,rfl⟩
   obtain ⟨nb,hnb⟩:∃ nb,Qb.length=nb:=⟨_,rfl⟩
   have hz:na=0∨nb=0:=by
    rcases hne with rfl | rfl
    ·left;simpa using hna.symm
    ·right;simpa using hnb.symm
   have HSA:Hid (∀ j u,(spC (spQ Qa))[j]?=some u→wr.cell? ((⟨ga,oa,none⟩:Addr).add j)=some u):=sreads_cells (sreads_all rfl ha1 ha2 ha3 HA4.out) HBL.out
   have HSB:Hid (∀ {w9:World},Below w.heap.size w w9→∀ j u,(spC (spQ Qb))[j]?=some u→w9.cell? ((⟨gb,ob,none⟩:Addr).add j)=some u):=fun {w9} h9=>sreads_cells (sreads_all rfl hb1 hb2 hb3 HB4.out) h9
   have HLA:Hid ((spC (spQ Qa)).length=Qa.length * 2∧(spC (spQ Qb)).length=Qb.length * 2):=⟨by rw [spC_length,spQ_length],by rw [spC_length,spQ_length]⟩
   have HLL:Hid (R.length+Qa.length+Qb.length≤A.length+C.length):=hlen
   have hbs:=HBL.out.size
   rw [hna,hnb]
   rw [hna] at HLA hlen
   rw [hnb] at HLA hlen
   have HNA:Hid (Qa.length=na∧Qb.length=nb):=⟨hna,hnb⟩
   clear hne hna hnb
   have hR2:R.length+na+nb≤200000:=by omega
   have hzI:¬ (0<na∧0<nb):=by omega
   by_cases ha0 : na = 0
   ·subst ha0
    go_wp2_with (at_builtin;refine wpList_append_own _ rfl _ _ 140 rfl w.heap.size 123 i0 (.agg #[.int .i64 0,.int .i64 0]) 2 16 Tryz.underlying140 hi0 hz0 hz1 hz2 rfl (by decide) _ _ _ rfl HOW.out ⟨ga,oa,none⟩ 0 ca (spC (spQ Qa)) rfl HLA.out.1 HSA.out (spC_one _) (by unfold maxLen;omega) (by omega) hbs ?_)
    intro v8 w8 ho8 hg8 _
    have HO8:Hid (w8.ownsRow w.heap.size 123 2 v8 (R.length+0) (spC (spQ R) ++ spC (spQ Qa))):=ho8
    have HB8:Hid (Below w.heap.size w w8):=HBL.out.grown hg8 HBL.out.size (fun b hb=>(HOW.out.lt b hb).1)
    have hbs8:=HB8.out.size
    have HSB8:Hid (∀ j u,(spC (spQ Qb))[j]?=some u→w8.cell? ((⟨gb,ob,none⟩:Addr).add j)=some u):=HSB.out HB8.out
    clear ho8 hg8
    go_wp2_with (at_builtin;refine wpList_append_own _ rfl _ _ 140 rfl w.heap.size 123 i0 (.agg #[.int .i64 0,.int .i64 0]) 2 16 Tryz.underlying140 hi0 hz0 hz1 hz2 rfl (by decide) _ _ _ rfl HO8.out ⟨gb,ob,none⟩ nb cc (spC (spQ Qb)) rfl HLA.out.2 HSB8.out (spC_one _) (by unfold maxLen;omega) (by omega) hbs8 ?_)
    intro v9 w9 ho9 hg9 _
    have HO9:Hid (w9.ownsRow w.heap.size 123 2 v9 (R.length+0+nb) (spC (spQ R) ++ spC (spQ Qa) ++ spC (spQ Qb))):=by
     show World.ownsRow _ _ _ _ _ _ _
     simpa using ho9
    have HB9:Hid (Below w.heap.size w w9):=HB8.out.grown hg9 HB8.out.size (fun b hb=>(HO8.out.lt b hb).1)
    clear ho9 hg9
    go_wp2_with fail
    go_ret
    refine ⟨R ++ Qa ++ Qb,v9,HM2.out.symm,fun z hz=>?_,?_,rfl,?_,HB9.out⟩
    ·rcases List.mem_append.1 hz with hz | hz
     ·rcases List.mem_append.1 hz with hz | hz
      ·exact HPR.out z hz
      ·exact HPA.out z hz
     ·exact HPB.out z hz
    ·rw [List.length_append,List.length_append];exact HLL.out
    ·rw [List.length_append,List.length_append,HNA.out.1,HNA.out.2,spQ_append,spQ_append,spC_append,spC_append];exact HO9.out
   ·have hb0:nb=0:=by omega
    subst hb0
    have hap:(0:Int)<(na:Int):=by omega
    go_wp2_with (at_builtin;refine wpList_append_own _ rfl _ _ 140 rfl w.heap.size 123 i0 (.agg #[.int .i64 0,.int .i64 0]) 2 16 Tryz.underlying140 hi0 hz0 hz1 hz2 rfl (by decide) _ _ _ rfl HOW.out ⟨ga,oa,none⟩ na ca (spC (spQ Qa)) rfl HLA.out.1 HSA.out (spC_one _) (by unfold maxLen;omega) (by omega) hbs ?_)
    intro v8 w8 ho8 hg8 _
    have HO8:Hid (w8.ownsRow w.heap.size 123 2 v8 (R.length+na) (spC (spQ R) ++ spC (spQ Qa))):=ho8
    have HB8:Hid (Below w.heap.size w w8):=HBL.out.grown hg8 HBL.out.size (fun b hb=>(HOW.out.lt b hb).1)
    have hbs8:=HB8.out.size
    have HSB8:Hid (∀ j u,(spC (spQ Qb))[j]?=some u→w8.cell? ((⟨gb,ob,none⟩:Addr).add j)=some u):=HSB.out HB8.out
    clear ho8 hg8
    go_wp2_with (at_builtin;refine wpList_append_own _ rfl _ _ 140 rfl w.heap.size 123 i0 (.agg #[.int .i64 0,.int .i64 0]) 2 16 Tryz.underlying140 hi0 hz0 hz1 hz2 rfl (by decide) _ _ _ rfl HO8.out ⟨gb,ob,none⟩ 0 cc (spC (spQ Qb)) rfl HLA.out.2 HSB8.out (spC_one _) (by unfold maxLen;omega) (by omega) hbs8 ?_)
    intro v9 w9 ho9 hg9 _
    have HO9:Hid (w9.ownsRow w.heap.size 123 2 v9 (R.length+na+0) (spC (spQ R) ++ spC (spQ Qa) ++ spC (spQ Qb))):=by
     show World.ownsRow _ _ _ _ _ _ _
     simpa using ho9
    have HB9:Hid (Below w.heap.size w w9):=HB8.out.grown hg9 HB8.out.size (fun b hb=>(HO8.out.lt b hb).1)
    clear ho9 hg9
    go_wp2_with fail
    go_ret
    refine ⟨R ++ Qa ++ Qb,v9,HM2.out.symm,fun z hz=>?_,?_,rfl,?_,HB9.out⟩
    ·rcases List.mem_append.1 hz with hz | hz
     ·rcases List.mem_append.1 hz with hz | hz
      ·exact HPR.out z hz
      ·exact HPA.out z hz
     ·exact HPB.out z hz
    ·rw [List.length_append,List.length_append];exact HLL.out
    ·rw [List.length_append,List.length_append,HNA.out.1,HNA.out.2,spQ_append,spQ_append,spC_append,spC_append];exact HO9.out
  ·obtain ⟨⟨p,e,x⟩,Qa',ea⟩:∃ x Q,Qa=x :: Q:=by
    cases Qa with
    | nil=>exact absurd (.inl rfl) hne
    | cons x Q=>exact ⟨x,Q,rfl⟩
   obtain ⟨⟨p',e',y⟩,Qb',eb⟩:∃ x Q,Qb=x :: Q:=by
    cases Qb with
    | nil=>exact absurd (.inr rfl) hne
    | cons x Q=>exact ⟨x,Q,rfl⟩
   subst ea
   subst eb
   clear hne
   obtain ⟨hx,hox⟩:=HPA.out (p,e,x) (by simp)
   obtain ⟨hy,hoy⟩:=HPB.out (p',e',y) (by simp)
   have HX:Hid (At N Z p e x):=hx
   have HY:Hid (At N Z p' e' y):=hy
   obtain ⟨a0,a1⟩:=HA4.out 0 (by simp)
   obtain ⟨b0,b1⟩:=HB4.out 0 (by simp)
   simp only [Nat.zero_mul,Nat.add_zero,spQ_cons,List.getD_cons_zero] at a0 a1 b0 b1
   simp only [List.length_cons] at hlen ha1 hb1 ⊢
   obtain ⟨na,hna⟩:∃ na,Qa'.length=na:=⟨_,rfl⟩
   obtain ⟨nb,hnb⟩:∃ nb,Qb'.length=nb:=⟨_,rfl⟩
   rw [hna] at hlen ha1 ⊢
   rw [hnb] at hlen hb1 ⊢
   have HNA:Hid (Qa'.length=na):=hna
   have HNB:Hid (Qb'.length=nb):=hnb
   clear hx hy hna hnb
   have hgaw:ga<wr.heap.size:=Nat.lt_of_lt_of_le ha3 HBL.out.size
   have q0:wr.cell? ⟨ga,oa,none⟩=some (.int .i64 (p:Int)):=(World.cell?_of_block (a:=⟨ga,oa,none⟩) (HBL.out.block ga ha3)).trans a0
   have q1:wr.cell? ⟨ga,oa+1,none⟩=some (.int .i64 (e:Int)):=(World.cell?_of_block (a:=⟨ga,oa+1,none⟩) (HBL.out.block ga ha3)).trans a1
   have r0:wr.cell? ⟨gb,ob,none⟩=some (.int .i64 (p':Int)):=(World.cell?_of_block (a:=⟨gb,ob,none⟩) (HBL.out.block gb hb3)).trans b0
   have r1:wr.cell? ⟨gb,ob+1,none⟩=some (.int .i64 (e':Int)):=(World.cell?_of_block (a:=⟨gb,ob+1,none⟩) (HBL.out.block gb hb3)).trans b1
   have S0:S4c wr ga oa ga (oa+1) gb ob gb (ob+1) (.int .i64 (p:Int)) (.int .i64 (e:Int)) (.int .i64 (p':Int)) (.int .i64 (e':Int)) wr.drew:=⟨q0,q1,r0,r1,(Below.refl _ _).drew⟩
   have HCW:Hid (∀ {w9:World},Below wr.heap.size wr w9→w9.cell? ⟨cb,0,none⟩=some (.pointer (some ⟨B,0,none⟩))):=fun {w9} hb9=>(World.cell?_of_block (a:=⟨cb,0,none⟩) ((go_on HBL.out hb9).block cb (World.block_lt_of_cell? w _ HCB.out))).trans HCB.out
   clear q0 q1 r0 r1
   go_wp2_with fail
   go_region_held3 (fun w'=>S4c wr ga oa ga (oa+1) gb ob gb (ob+1) (.int .i64 (p:Int)) (.int .i64 (e:Int)) (.int .i64 (p':Int)) (.int .i64 (e':Int)) w') (first | exact S0 | assumption | exact s4c_step (by assumption) (by assumption)) (first
    | (go_at_call 104;refine (compareT (HS.out.stay (go_on HBL.out (show S4c wr ga oa ga (oa+1) gb ob gb (ob+1) (.int .i64 (p:Int)) (.int .i64 (e:Int)) (.int .i64 (p':Int)) (.int .i64 (e':Int)) _ from by assumption).2.2.2.2)) HX.out HY.out cb (HCW.out (show S4c wr ga oa ga (oa+1) gb ob gb (ob+1) (.int .i64 (p:Int)) (.int .i64 (e:Int)) (.int .i64 (p':Int)) (.int .i64 (e':Int)) _ from by assumption).2.2.2.2)).mono ?_;rintro en w3 ⟨rfl,hb3'⟩))
   all_goals
    have HSW:Below wr.heap.size wr w3:=(show S4c wr ga oa ga (oa+1) gb ob gb (ob+1) (.int .i64 (p:Int)) (.int .i64 (e:Int)) (.int .i64 (p':Int)) (.int .i64 (e':Int)) w3 from by first | assumption | exact s4c_step (by assumption) (by assumption)).2.2.2.2
    have HB3:Hid (Below w.heap.size w w3):=go_on HBL.out HSW
    have HO3:Hid (w3.ownsRow w.heap.size 123 2 u7 R.length (spC (spQ R))):=own_below HOW.out HSW
    have hs3:=HB3.out.size
    obtain ⟨c,hc⟩:∃ c,ct x.flat y.flat=c:=⟨_,rfl⟩
    have HCT:Hid (ct x.flat y.flat=c):=hc
    rw [hc]
    have q0:w3.cell? ⟨ga,oa,none⟩=some (.int .i64 (p:Int)):=(World.cell?_of_block (a:=⟨ga,oa,none⟩) (HB3.out.block ga ha3)).trans a0
    have q1:w3.cell? ⟨ga,oa+1,none⟩=some (.int .i64 (e:Int)):=(World.cell?_of_block (a:=⟨ga,oa+1,none⟩) (HB3.out.block ga ha3)).trans a1
    have r0:w3.cell? ⟨gb,ob,none⟩=some (.int .i64 (p':Int)):=(World.cell?_of_block (a:=⟨gb,ob,none⟩) (HB3.out.block gb hb3)).trans b0
    have r1:w3.cell? ⟨gb,ob+1,none⟩=some (.int .i64 (e':Int)):=(World.cell?_of_block (a:=⟨gb,ob+1,none⟩) (HB3.out.block gb hb3)).trans b1
    clear HSW hc S0
    have hRl:R.length+1≤200001:=by omega
    by_cases hgt : 0 < c
    ·have HNEW:Hid (∀ j u,[Value.int .i64 (p':Int),Value.int .i64 (e':Int)][j]?=some u→(w3.alloc (.cells #[.int .i64 (p':Int),.int .i64 (e':Int)] 123)).cell? ((⟨w3.heap.size,0,none⟩:Addr).add j)=some u):=two_new3 w3 _ _ _
     have HOC:Hid ((w3.alloc (.cells #[.int .i64 (p':Int),.int .i64 (e':Int)] 123)).ownsRow w.heap.size 123 2 u7 R.length (spC (spQ R))):=HO3.out.alloc _
     have HBC:Hid (Below w.heap.size w (w3.alloc (.cells #[.int .i64 (p':Int),.int .i64 (e':Int)] 123))):=HB3.out.alloc HB3.out.size _
     have hbase:w.heap.size≤(w3.alloc (.cells #[.int .i64 (p':Int),.int .i64 (e':Int)] 123)).heap.size:=by simp;omega
     go_wp2_with (at_builtin;refine wpList_append_lies _ rfl _ _ 140 rfl w.heap.size 123 i0 (.agg #[.int .i64 0,.int .i64 0]) 2 16 Tryz.underlying140 hi0 hz0 hz1 hz2 rfl (by decide) _ _ _ rfl HOC.out ⟨w3.heap.size,0,none⟩ 1 1 [.int .i64 (p':Int),.int .i64 (e':Int)] rfl rfl HNEW.out (by intro u hu;simp at hu;rcases hu with rfl | rfl <;> rfl) (by decide) (by unfold maxLen;omega) (by omega) hbase _ rfl ?_)
     intro g9 c9 w9 ho9 hg9 hl9 hlt9
     have HB9:Hid (Below w.heap.size w w9):=HBC.out.grown hg9 HBC.out.size (fun b hb=>(HOC.out.lt b hb).1)
     have HO9:Hid (w9.ownsRow w.heap.size 123 2 (.slice (some ⟨g9,0,none⟩) (R.length+1) c9) (R.length+1) (spC (spQ (R ++ [(p',e',y)])))):=by
      have e1:spC (spQ (R ++ [(p',e',y)]))=spC (spQ R) ++ [.int .i64 (p':Int),.int .i64 (e':Int)]:=by rw [spQ_append,spC_append];rfl
      show World.ownsRow _ _ _ _ _ _ _
      rw [e1]
      exact ho9
     clear ho9 hg9 hl9 hlt9 HOC HBC HNEW hbase q0 q1 r0 r1
     have hzb:(c == 0)=false:=by rw [beq_eq_false_iff_ne];omega
     have HMG:Hid (mrg (trQ A) (trQ C)=trQ (R ++ [(p',e',y)]) ++ mrg (trQ Qb') (trQ ((p,e,x) :: Qa'))):=by
      show _ = _
      rw [HM.out,trQ_cons,trQ_cons,mrg,if_neg (by rw [HCT.out];omega),if_neg (by rw [HCT.out];omega),trQ_append,List.append_assoc]
      rfl
     go_wp2_with fail
     refine ⟨⟨Qb',(p,e,x) :: Qa',R ++ [(p',e',y)],sreads_tail HNB.out hb1 hb2 hb3 HB4.out,sreads_all (by rw [List.length_cons,HNA.out]) ha1 ha2 ha3 HA4.out,HPB.out.tail,HPA.out,HPR.out.snoc ⟨HY.out,hoy⟩,HMG.out,?_,?_,HB9.out⟩,?_⟩
     ·rw [List.length_append,List.length_singleton,List.length_cons,HNA.out,HNB.out];omega
     ·rw [List.length_append,List.length_singleton];exact HO9.out
     ·simp only [lenV];omega
    ·have HNEW:Hid (∀ j u,[Value.int .i64 (p:Int),Value.int .i64 (e:Int)][j]?=some u→(w3.alloc (.cells #[.int .i64 (p:Int),.int .i64 (e:Int)] 123)).cell? ((⟨w3.heap.size,0,none⟩:Addr).add j)=some u):=two_new3 w3 _ _ _
     have HOC:Hid ((w3.alloc (.cells #[.int .i64 (p:Int),.int .i64 (e:Int)] 123)).ownsRow w.heap.size 123 2 u7 R.length (spC (spQ R))):=HO3.out.alloc _
     have HBC:Hid (Below w.heap.size w (w3.alloc (.cells #[.int .i64 (p:Int),.int .i64 (e:Int)] 123))):=HB3.out.alloc HB3.out.size _
     have hbase:w.heap.size≤(w3.alloc (.cells #[.int .i64 (p:Int),.int .i64 (e:Int)] 123)).heap.size:=by simp;omega
     go_wp2_with (at_builtin;refine wpList_append_lies _ rfl _ _ 140 rfl w.heap.size 123 i0 (.agg #[.int .i64 0,.int .i64 0]) 2 16 Tryz.underlying140 hi0 hz0 hz1 hz2 rfl (by decide) _ _ _ rfl HOC.out ⟨w3.heap.size,0,none⟩ 1 1 [.int .i64 (p:Int),.int .i64 (e:Int)] rfl rfl HNEW.out (by intro u hu;simp at hu;rcases hu with rfl | rfl <;> rfl) (by decide) (by unfold maxLen;omega) (by omega) hbase _ rfl ?_)
     intro g9 c9 w9 ho9 hg9 hl9 hlt9
     have HB9:Hid (Below w.heap.size w w9):=HBC.out.grown hg9 HBC.out.size (fun b hb=>(HOC.out.lt b hb).1)
     have HO9:Hid (w9.ownsRow w.heap.size 123 2 (.slice (some ⟨g9,0,none⟩) (R.length+1) c9) (R.length+1) (spC (spQ (R ++ [(p,e,x)])))):=by
      have e1:spC (spQ (R ++ [(p,e,x)]))=spC (spQ R) ++ [.int .i64 (p:Int),.int .i64 (e:Int)]:=by rw [spQ_append,spC_append];rfl
      show World.ownsRow _ _ _ _ _ _ _
      rw [e1]
      exact ho9
     clear ho9 hg9 hl9 hlt9 HOC HBC HNEW hbase q0 q1 r0 r1
     by_cases hz : c = 0
     ·subst hz
      have HMG:Hid (mrg (trQ A) (trQ C)=trQ (R ++ [(p,e,x)]) ++ mrg (trQ Qa') (trQ Qb')):=by
       show _ = _
       rw [HM.out,trQ_cons,trQ_cons,mrg,if_neg (by rw [HCT.out];omega),if_pos HCT.out,trQ_append,List.append_assoc]
       rfl
      go_wp2_with fail
      refine ⟨⟨Qa',Qb',R ++ [(p,e,x)],sreads_tail HNA.out ha1 ha2 ha3 HA4.out,sreads_tail HNB.out hb1 hb2 hb3 HB4.out,HPA.out.tail,HPB.out.tail,HPR.out.snoc ⟨HX.out,hox⟩,HMG.out,?_,?_,HB9.out⟩,?_⟩
      ·rw [List.length_append,List.length_singleton,HNA.out,HNB.out];omega
      ·rw [List.length_append,List.length_singleton];exact HO9.out
      ·simp only [lenV];omega
     ·have hzb:(c == 0)=false:=by simpa using hz
      have HMG:Hid (mrg (trQ A) (trQ C)=trQ (R ++ [(p,e,x)]) ++ mrg (trQ Qa') (trQ ((p',e',y) :: Qb'))):=by
       show _ = _
       rw [HM.out,trQ_cons,trQ_cons,mrg,if_pos (by rw [HCT.out];omega),trQ_append,List.append_assoc]
       rfl
      go_wp2_with fail
      refine ⟨⟨Qa',(p',e',y) :: Qb',R ++ [(p,e,x)],sreads_tail HNA.out ha1 ha2 ha3 HA4.out,sreads_all (by rw [List.length_cons,HNB.out]) hb1 hb2 hb3 HB4.out,HPA.out.tail,HPB.out,HPR.out.snoc ⟨HX.out,hox⟩,HMG.out,?_,?_,HB9.out⟩,?_⟩
      ·rw [List.length_append,List.length_singleton,List.length_cons,HNA.out,HNB.out];omega
      ·rw [List.length_append,List.length_singleton];exact HO9.out
      ·simp only [lenV];omega
end Go.Proofs.YtfdhaknecjcjoaaGreatDoor
