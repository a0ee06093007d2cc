/- Ej Ek, in one text. -/
import Derived.Test.YtfdhaknecjcjoaaGreatDoorPE
import Derived.Test.YtfdhaknecjcjoaaGreatDoorPG
import Derived.Test.YtfdhaknecjcjoaaGreatDoorPW
namespace Go.Proofs.YtfdhaknecjcjoaaGreatDoor
open Go Go.RowKit Go.Lib
set_option linter.unusedVariables false

theorem NO.reads {lo:Nat} {W:World} {u:Value} {x:Tr} (h:NO lo W u x):NReads W u x.flat:=own_nreads h
theorem NO.mono {lo lo':Nat} {W:World} {u:Value} {x:Tr} (h:NO lo W u x) (hl:lo'≤lo):NO lo' W u x:=own_mono h hl
theorem NO.below {lo:Nat} {W W':World} {u:Value} {x:Tr} (h:NO lo W u x) (hb:Below W.heap.size W W'):NO lo W' u x:=own_below h hb
theorem nrm_cat {A B:Tr} (hA:A.ok) (nA:NF A) (hB:B.ok) (nB:NF B):nrm (.two (7,0) A B)=RC A B:=by rw [nrm,if_pos rfl,nrm_nf hA nA,nrm_nf hB nB]
theorem jq_ru {T R:Tr} (hn:nrm T=R) {lo base:Nat} {w w1 w':World} {e:Ending} (hb:Below base w w1) (hs:base≤w1.heap.size) (hlo:lo≤w1.heap.size) (h:JQ T w1 e w'):RuJ (R.flat.length≤4000) R lo base w e w':=by
 rcases h with ⟨h1,h2,h3⟩ | ⟨h1,u,h2,h3,h4⟩
 ·rw [hn] at h1
  exact .inl ⟨by omega,h2,hb.trans (h3.mono hs)⟩
 ·rw [hn] at h1 h3
  exact .inr ⟨h1,u,h2,own_mono h3 hlo,hb.trans (h4.mono hs)⟩
theorem ru_uni {p:Prop} {R:Tr} {lo base:Nat} {w w':World} {e:Ending} (h:RuJ p R lo base w e w'):∃ u k,e=.returned (.tuple #[u,.int .i64 k])∧Hid (RuJ p R lo base w (.returned (.tuple #[u,.int .i64 k])) w'):=by
 have h0:=h
 rcases h with ⟨_,rfl,_⟩ | ⟨_,u,rfl,_⟩
 ·exact ⟨_,_,rfl,h0⟩
 ·exact ⟨_,_,rfl,h0⟩

set_option maxHeartbeats 4000000 in
set_option maxRecDepth 100000 in
theorem ahead_any {lo : Nat} {W : World} {A B : Tr} {u vb : Value} (hA : A.ok) (nA : NF A) (lA : A.flat.length ≤ 4000) (hB : B.ok) (nB : NF B) (lB : B.flat.length ≤ 4000) (hu : NO lo W u A) (hv : NReads W vb B.flat) (hP : PTab W) (hlo : lo ≤ W.heap.size) :
  Calls Tryz.prog 59 #[u,vb] W (RuJ ((RC A B).flat.length≤4000) (RC A B) lo W.heap.size W):=by
 obtain ⟨ua,uc,rfl⟩:=own_one hu
 obtain ⟨ba,bc,rfl,_⟩:=id hv
 have HE:Hid (∀ w1 vn,Below W.heap.size W w1→NReads w1 vn tNone.flat→Calls Tryz.prog 30 #[.slice ua A.flat.length uc,vn] w1 fun e w'=>e=.returned (.bool (decide (A.flat=tNone.flat)))∧Below w1.heap.size w1 w'):=fun w1 vn hb hn=>sequal_any _ _ _ _ w1 (hu.reads.stay hb) hn (by omega)
 have HC:Hid (∀ w1,Below W.heap.size W w1→Calls Tryz.prog 97 #[.slice ua A.flat.length uc,.slice ba B.flat.length bc] w1 fun e w'=>JQ (.two (7,0) A B) w1 e w'):=fun w1 hb=>concatN_good A B hA hB _ _ w1 (hu.reads.stay hb) (hv.stay hb) (hP.stay hb) (ok_wrong hA lA) (ok_wrong hB lB)
 have HU:Hid (NO lo W (.slice ua A.flat.length uc) A):=hu
 have HN:=nrm_cat hA nA hB nB
 have HNR:Hid (nrm (.two (7,0) A B)=RC A B):=HN
 have HLO:Hid (lo≤W.heap.size):=hlo
 by_cases c : A = tNone
 ·have hd:decide (A.flat=tNone.flat)=true:=by rw [c];simp
  rw [hd] at HE
  have HR:Hid (RC A B=tNone∧A=tNone):=⟨by rw [c,RC_none_l],c⟩
  clear hu hv hP HC HN HNR c hd hA nA hB nB
  go_enter Tryz.func59,Tryz.ntmps59
  go_wp2_with fail
  refine (leaf_new 1 _).mono ?_
  rintro e w1 ⟨vn,rfl,hn,hb1⟩
  have HNN:Hid (NReads w1 vn tNone.flat):=own_nreads hn
  have HB1:Hid (Below W.heap.size W w1):=hb1
  clear hn hb1
  go_wp2_with fail
  refine (HE.out _ _ HB1.out HNN.out).mono ?_
  rintro e w2 ⟨rfl,hb2⟩
  have HB2:Hid (Below W.heap.size W w2):=go_on HB1.out hb2
  clear hb2
  go_wp2_with fail
  go_ret2
  rw [HR.out.1]
  refine .inr ⟨by simp [tNone,Tr.flat],_,rfl,?_,HB2.out⟩
  have h5:=HU.out.below HB2.out
  have e:=HR.out.2
  unfold NO at h5 ⊢
  rw [e] at h5 ⊢
  exact h5
 ·have hd:decide (A.flat=tNone.flat)=false:=by
   simp only [decide_eq_false_iff_not]
   exact fun e=>c (flat_inj hA tNone_ok e)
  rw [hd] at HE
  clear hu hv hP HN c hd hA nA hB nB
  go_enter Tryz.func59,Tryz.ntmps59
  go_wp2_with fail
  refine (leaf_new 1 _).mono ?_
  rintro e w1 ⟨vn,rfl,hn,hb1⟩
  have HNN:Hid (NReads w1 vn tNone.flat):=own_nreads hn
  have HB1:Hid (Below W.heap.size W w1):=hb1
  clear hn hb1
  go_wp2_with fail
  refine (HE.out _ _ HB1.out HNN.out).mono ?_
  rintro e w2 ⟨rfl,hb2⟩
  have HB2:Hid (Below W.heap.size W w2):=go_on HB1.out hb2
  clear hb2
  go_wp2_with fail
  refine (HC.out _ HB2.out).mono ?_
  rintro e w3 hq
  obtain ⟨u,kk,rfl,HQ⟩:=ru_uni (jq_ru HNR.out HB2.out HB2.out.size (Nat.le_trans HLO.out HB2.out.size) hq)
  clear hq
  go_wp2_with fail
  go_ret2
  exact HQ.out
end Go.Proofs.YtfdhaknecjcjoaaGreatDoor

namespace Go.Proofs.YtfdhaknecjcjoaaGreatDoor
open Go Go.RowKit Go.Lib
set_option linter.unusedVariables false

set_option maxHeartbeats 4000000 in
set_option maxRecDepth 100000 in
theorem rule_zero {w : World} {T : Tr} {a : Option Addr} {cap gb : Nat} (h : DForm w T a cap gb) {p : Nat} {n : Nd} (hx : Sit T.flat (T.bg 0) p (.zero n)) (ho : (Tr.zero n).ok) (c : Int) (v : Value) {lo base : Nat} (hlo : lo ≤ w.heap.size) (hba : base ≤ w.heap.size) :
  Calls Tryz.prog 39 #[dfV T a cap gb,.int .i64 (rt (p,.zero n):Nat),.int .u8 c,v] w (RuJ (loc c (.zero n)) (drv c (.zero n)) lo base w):=by
 have hl:=h.len
 have hgk:=good_kind ho.1
 have har:=ho.2
 obtain ⟨g,o,rfl,hg,hk1,hk1',hlt⟩:=h.node hx
 obtain ⟨k,s⟩:=n
 simp only [Tr.root] at hk1 hk1' hgk har
 have hk:k=1∨k=2∨k=3∨k=4:=by
  unfold arity at har
  split at har
  ·omega
  ·split at har <;> omega
 have HDE:Hid ((k=4∨(k=3∧s=c))→drv c (.zero (k,s))=tEmpty):=fun hh=>by rw [drv,if_pos hh]
 have HDN:Hid (¬ (k=4∨(k=3∧s=c))→drv c (.zero (k,s))=tNone):=fun hh=>by rw [drv,if_neg hh]
 have HLO:Hid (lo≤w.heap.size∧base≤w.heap.size):=⟨hlo,hba⟩
 have HQ:Hid (∀ (R:Tr) (u:Value) (w2:World),drv c (.zero (k,s))=R→w2.ownsRow w.heap.size 51 2 u R.flat.length (ndC R.flat)→Below w.heap.size w w2→RuJ (loc c (.zero (k,s))) (drv c (.zero (k,s))) lo base w (.returned (.tuple #[u,.int .i64 0])) w2):=fun R u w2 e h1 h2=>.inr ⟨trivial,u,rfl,by rw [e];exact own_mono h1 HLO.out.1,h2.mono HLO.out.2⟩
 obtain ⟨D,hD⟩:∃ D,drv c (.zero (k,s))=D:=⟨_,rfl⟩
 obtain ⟨Lc,hLc⟩:∃ Lc,loc c (.zero (k,s))=Lc:=⟨_,rfl⟩
 rw [hD,hLc] at HQ ⊢
 rw [hD] at HDE HDN
 unfold dfV
 obtain ⟨N,hN⟩:∃ N,T.flat.length=N:=⟨_,rfl⟩
 rw [hN] at hl hlt ⊢
 obtain ⟨r,hr⟩:∃ r,rt (p,.zero (k,s))=r:=⟨_,rfl⟩
 rw [hr] at hk1 hk1' hlt ⊢
 clear h hN ho hx hD hLc hr hlo hba
 have hI:(r:Int)<N:=by omega
 have hk2:∀ O,(w.alloc O).cell? ⟨g,o+r * 2,none⟩=some (.int .i64 k):=fun O=>by rw [below_cell ((Below.refl w.heap.size w).alloc (Nat.le_refl _) O) hg];exact hk1
 have hk3:∀ O,(w.alloc O).cell? ⟨g,o+r * 2+1,none⟩=some (.int .u8 s):=fun O=>by rw [below_cell ((Below.refl w.heap.size w).alloc (Nat.le_refl _) O) hg];exact hk1'
 have HB:Hid (∀ O O',Below w.heap.size w ((w.alloc O).alloc O')):=fun O O'=>((Below.refl _ _).alloc (Nat.le_refl _) _).alloc (by simp) _
 have HEX:Hid (k=4∨(k=3∧s=c)∨¬ (k=4∨(k=3∧s=c))):=by
  by_cases h1 : k = 4
  ·exact .inl h1
  ·by_cases h2:k=3∧s=c
   ·exact .inr (.inl h2)
   ·exact .inr (.inr (by rintro (h | h);exact h1 h;exact h2 h))
 rcases hk with rfl | rfl | rfl | rfl
 ·have e:=HDN.out (by omega)
  clear HDE HDN HEX
  go_enter Tryz.func39,Tryz.ntmps39
  go_wp2_with fail
  refine (leaf_new 1 _).mono ?_
  rintro e' w2 ⟨u,rfl,hou,hb2⟩
  have HO:Hid _:=hou
  have HB2:Hid _:=hb2
  clear hou hb2
  go_wp2_with fail
  go_ret2
  exact HQ.out _ u w2 e (own_mono HO.out (HB.out _ _).size) ((HB.out _ _).trans (HB2.out.mono (HB.out _ _).size))
 ·have e:=HDN.out (by omega)
  clear HDE HDN HEX
  go_enter Tryz.func39,Tryz.ntmps39
  go_wp2_with fail
  refine (leaf_new 1 _).mono ?_
  rintro e' w2 ⟨u,rfl,hou,hb2⟩
  have HO:Hid _:=hou
  have HB2:Hid _:=hb2
  clear hou hb2
  go_wp2_with fail
  go_ret2
  exact HQ.out _ u w2 e (own_mono HO.out (HB.out _ _).size) ((HB.out _ _).trans (HB2.out.mono (HB.out _ _).size))
 ·by_cases hs : s = c
  ·have e:=HDE.out (.inr ⟨rfl,hs⟩)
   subst hs
   clear HDE HDN HEX
   go_enter Tryz.func39,Tryz.ntmps39
   go_wp2_with fail
   refine (leaf_new 2 _).mono ?_
   rintro e' w2 ⟨u,rfl,hou,hb2⟩
   have HO:Hid _:=hou
   have HB2:Hid _:=hb2
   clear hou hb2
   go_wp2_with fail
   go_ret2
   exact HQ.out _ u w2 e (own_mono HO.out (HB.out _ _).size) ((HB.out _ _).trans (HB2.out.mono (HB.out _ _).size))
  ·have e:=HDN.out (by rintro (h | h);cases h;exact hs h.2)
   clear HDE HDN HEX
   have hsb:(s == c)=false:=by simpa using hs
   go_enter Tryz.func39,Tryz.ntmps39
   go_wp2_with fail
   refine (leaf_new 1 _).mono ?_
   rintro e' w2 ⟨u,rfl,hou,hb2⟩
   have HO:Hid _:=hou
   have HB2:Hid _:=hb2
   clear hou hb2
   go_wp2_with fail
   go_ret2
   exact HQ.out _ u w2 e (own_mono HO.out (HB.out _ _).size) ((HB.out _ _).trans (HB2.out.mono (HB.out _ _).size))
 ·have e:=HDE.out (.inl rfl)
  clear HDE HDN HEX
  go_enter Tryz.func39,Tryz.ntmps39
  go_wp2_with fail
  refine (leaf_new 2 _).mono ?_
  rintro e' w2 ⟨u,rfl,hou,hb2⟩
  have HO:Hid _:=hou
  have HB2:Hid _:=hb2
  clear hou hb2
  go_wp2_with fail
  go_ret2
  exact HQ.out _ u w2 e (own_mono HO.out (HB.out _ _).size) ((HB.out _ _).trans (HB2.out.mono (HB.out _ _).size))

theorem Prt.one {lo base:Nat} {W:World} {v:Value} {x:Tr} (h:Prt lo W base v [x]):∃ g c u,v=.slice (some ⟨g,0,none⟩) 1 c∧base≤g∧g<W.heap.size∧W.cell? ⟨g,0,none⟩=some u∧NO lo W u x∧x.flat.length≤4000:=by
 obtain ⟨us,hul,hrow,hus⟩:=h
 obtain ⟨u,h1,h2,h3⟩:=hus 0 x rfl
 rcases hrow.2 with ⟨_,h0⟩ | ⟨g,c,cur,rfl,hb,hg,_⟩
 ·cases h0
 ·have:=hrow.cells (g:=g) rfl 0 u h1
  rw [Addr.add_lit,Nat.zero_add] at this
  exact ⟨g,c,u,rfl,hb,(Array.getElem?_eq_some_iff.1 hg).1,this,h2,h3⟩

set_option maxHeartbeats 4000000 in
set_option maxRecDepth 100000 in
theorem rule_one {w : World} {T : Tr} {a : Option Addr} {cap gb : Nat} (h : DForm w T a cap gb) (hP : PTab w) {p : Nat} {n : Nd} {x : Tr} (hx : Sit T.flat (T.bg 0) p (.one n x)) (ho : (Tr.one n x).ok) (nx : NF (.one n x)) (c : Int) (v : Value) {lo base : Nat} (hlo : lo ≤ w.heap.size) (hba : base ≤ w.heap.size) (hv : Prt lo w base v [drv c x]) :
  Calls Tryz.prog 39 #[dfV T a cap gb,.int .i64 (rt (p,.one n x):Nat),.int .u8 c,v] w (RuJ (loc c (.one n x)) (drv c (.one n x)) lo base w):=by
 have hl:=h.len
 have hle:=hx.le
 have hd:=drv_ok c (t:=x) ho.2.2 nx.1
 have HTR:Hid (∀ w1,Below w.heap.size w w1→Calls Tryz.prog 60 #[dfV T a cap gb,.int .i64 (rt (p,.one n x):Nat)] w1 fun e w'=>∃ v,e=.returned v∧NReads w' v (Tr.one n x).flat∧Below w1.heap.size w1 w'):=fun w1 hb1=>dtreeT (h.stay hb1) hx
 obtain ⟨g,o,rfl,hg,hk1,hk1',hlt⟩:=h.node hx
 obtain ⟨g2,c2,u,rfl,hb2,hg2,hu0,hno,hul⟩:=hv.one
 obtain ⟨ua,uc,rfl⟩:=own_one hno
 have hk:n.1=8∨n.1=9:=ar1 ho.2.1
 obtain ⟨k,s⟩:=n
 simp only [Tr.root] at hk1 hk1' hk
 have HX:Hid ((Tr.one (k,s) x).ok∧NF (.one (k,s) x)∧(Tr.one (k,s) x).flat.length≤4000):=⟨ho,nx,by omega⟩
 have HAH:Hid (∀ w1 vt,Below w.heap.size w w1→NReads w1 vt (Tr.one (k,s) x).flat→Calls Tryz.prog 59 #[.slice ua (drv c x).flat.length uc,vt] w1 (RuJ ((RC (drv c x) (.one (k,s) x)).flat.length≤4000) (RC (drv c x) (.one (k,s) x)) lo w1.heap.size w1)):=fun w1 vt hb hvt =>
  ahead_any hd.1 hd.2 hul HX.out.1 HX.out.2.1 HX.out.2.2 (hno.below hb) hvt (hP.stay hb) (Nat.le_trans hlo hb.size)
 have HNT:Hid (∀ w1,Below w.heap.size w w1→Calls Tryz.prog 61 #[.slice ua (drv c x).flat.length uc] w1 fun e w'=>JQ (.one (9,0) (drv c x)) w1 e w'):=fun w1 hb=>notN_good _ hd.1 _ w1 (hno.reads.stay hb) (hP.stay hb) (ok_wrong hd.1 hul)
 have HNN:Hid (nrm (.one (9,0) (drv c x))=RN (drv c x)):=by show _=_;rw [nrm,if_neg (by decide),nrm_nf hd.1 hd.2]
 have HD8:Hid (k=8→drv c (.one (k,s) x)=RC (drv c x) (.one (k,s) x)):=fun e=>by rw [drv,if_pos e]
 have HD9:Hid (k=9→drv c (.one (k,s) x)=RN (drv c x)):=fun e=>by rw [drv,if_neg (by simp only;omega)]
 have HLO:Hid (lo≤w.heap.size∧base≤w.heap.size):=⟨hlo,hba⟩
 have HQ:Hid (∀ (R:Tr) (w1 w2:World) (e:Ending),drv c (.one (k,s) x)=R→Below w.heap.size w w1→RuJ (R.flat.length≤4000) R lo w1.heap.size w1 e w2→RuJ (loc c (.one (k,s) x)) (drv c (.one (k,s) x)) lo base w e w2):=by
  intro R w1 w2 e hR hb h1
  have hb':Below base w w1:=hb.mono hba
  rcases h1 with ⟨h2,h3,h4⟩ | ⟨h2,u,h3,h4,h5⟩
  ·exact .inl ⟨fun hl=>h2 (by rw [← hR];exact hl),h3,hb'.trans (h4.mono (Nat.le_trans hba hb.size))⟩
  ·exact .inr ⟨by show (drv c (.one (k,s) x)).flat.length≤4000;rw [hR];exact h2,u,h3,by rw [hR];exact h4,hb'.trans (h5.mono (Nat.le_trans hba hb.size))⟩
 obtain ⟨E,hE⟩:∃ E,drv c (.one (k,s) x)=E:=⟨_,rfl⟩
 obtain ⟨Lc,hLc⟩:∃ Lc,loc c (.one (k,s) x)=Lc:=⟨_,rfl⟩
 rw [hE,hLc] at HQ ⊢
 rw [hE] at HD8 HD9
 unfold dfV at HTR ⊢
 obtain ⟨N,hN⟩:∃ N,T.flat.length=N:=⟨_,rfl⟩
 rw [hN] at hl hlt HTR ⊢
 obtain ⟨r,hr⟩:∃ r,rt (p,.one (k,s) x)=r:=⟨_,rfl⟩
 rw [hr] at hk1 hk1' hlt HTR ⊢
 obtain ⟨D,hD⟩:∃ D,(drv c x).flat.length=D:=⟨_,rfl⟩
 rw [hD] at hu0 HAH HNT
 clear h hN ho hx hE hLc hr hlo hba hv hd hno hul hle hP nx hD
 have hI:(r:Int)<N:=by omega
 have hk2:∀ O,(w.alloc O).cell? ⟨g,o+r * 2,none⟩=some (.int .i64 k):=fun O=>by rw [below_cell ((Below.refl w.heap.size w).alloc (Nat.le_refl _) O) hg];exact hk1
 have hk3:∀ O,(w.alloc O).cell? ⟨g,o+r * 2+1,none⟩=some (.int .u8 s):=fun O=>by rw [below_cell ((Below.refl w.heap.size w).alloc (Nat.le_refl _) O) hg];exact hk1'
 have HB:Hid (∀ O O',Below w.heap.size w ((w.alloc O).alloc O')):=fun O O'=>((Below.refl _ _).alloc (Nat.le_refl _) _).alloc (by simp) _
 have hu0':∀ O O',((w.alloc O).alloc O').cell? ⟨g2,0,none⟩=some (.slice ua D uc):=fun O O'=>by rw [below_cell (HB.out O O') hg2];exact hu0
 have HU0:Hid (w.cell? ⟨g2,0,none⟩=some (.slice ua D uc)):=hu0
 clear hu0
 rcases hk with rfl | rfl
 ·have HE:=HD8.out rfl
  have HEE:Hid _:=HE
  clear HE HD8 HD9 HNT
  go_enter Tryz.func39,Tryz.ntmps39
  go_wp2_with fail
  go_region_with (first
   | (go_at_call 60;refine (HTR.out _ (HB.out _ _).drew).mono ?_;rintro e w2 ⟨vt,rfl,hvt,hb2⟩;have HB2:Hid (Below w.heap.size w w2):=(HB.out _ _).drew.trans (hb2.mono (HB.out _ _).drew.size);have HVT:Hid _:=hvt;have hun:w2.cell? ⟨g2,0,none⟩=some (.slice ua D uc):=(below_cell HB2.out hg2).trans HU0.out;clear hvt hb2)
   | (go_at_call 59;refine (HAH.out _ _ HB2.out HVT.out).mono ?_;rintro e w3 hq;obtain ⟨u,kk,rfl,HQ3⟩:=ru_uni (HQ.out _ _ _ _ HEE.out HB2.out hq);clear hq))
  all_goals go_wp2_with fail
  all_goals go_ret2
  all_goals exact HQ3.out
 ·have HE:=HD9.out rfl
  have HEE:Hid _:=HE
  clear HE HD8 HD9 HAH HTR
  go_enter Tryz.func39,Tryz.ntmps39
  go_wp2_with fail
  refine (HNT.out _ (HB.out _ _)).mono ?_
  rintro e w3 hq
  obtain ⟨u,kk,rfl,HQ3⟩:=ru_uni (HQ.out _ _ _ _ HEE.out (HB.out _ _) (jq_ru HNN.out (Below.refl _ _) (Nat.le_refl _) (Nat.le_trans HLO.out.1 (HB.out _ _).size) hq))
  clear hq
  go_wp2_with fail
  go_ret2
  exact HQ3.out
end Go.Proofs.YtfdhaknecjcjoaaGreatDoor
