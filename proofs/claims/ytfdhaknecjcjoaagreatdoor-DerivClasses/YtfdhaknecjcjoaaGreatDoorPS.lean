/- Eq Er Es, in one text. -/
import Derived.Test.YtfdhaknecjcjoaaGreatDoorPEp
import Derived.Test.YtfdhaknecjcjoaaGreatDoorPJ
namespace Go.Proofs.YtfdhaknecjcjoaaGreatDoor
open Go Go.RowKit Go.Lib
set_option linter.unusedVariables false

/-- The concatenations of a row, from behind, and what is behind all of them. -/
noncomputable def whP : Nat → Tr → List (Nat × Tr)
 | p,.zero n=>[(p,.zero n)]
 | p,.one n a=>[(p,.one n a)]
 | p,.two n a b=>if n.1=7 then (if nul a=true then whP (p+a.flat.length) b else []) ++ [(p,.two n a b)] else [(p,.two n a b)]
theorem whP_len (c:Int):∀ (x:Tr) (p:Nat),(whP p x).length=(rwP p x).length∧(lnP c x).length=(rwP p x).length
 | .zero n,p=>⟨rfl,rfl⟩
 | .one n a,p=>⟨rfl,rfl⟩
 | .two n a b,p=>by
  have ih:=whP_len c b (p+a.flat.length)
  rw [whP,rwP,lnP]
  split
  ·split
   ·simp [ih.1,ih.2]
   ·simp
  ·simp
/-- What stands at a place of the row. -/
def WhA (c : Int) (N : List Nd) (G : List Nat) (p : Nat) (x : Tr) (i : Nat) (q : Nat × Tr) : Prop :=
 Sit N G q.1 q.2∧q.2.ok∧NF q.2∧rt q+((rwP p x).length - 1 - i)=rt (p,x) ∧
 (q.2.root.1=7→∃ n a b,q.2=.two n a b∧n.1=7∧(rwP p x)[i]?=some (q.1,a)∧(lnP c x)[i]?=some (RC (drv c a) b)) ∧
 (q.2.root.1≠7→(rwP p x)[i]?=some q∧(lnP c x)[i]?=some (drv c q.2))
theorem whP_at (c:Int) {N:List Nd} {G:List Nat}:∀ (x:Tr) (p:Nat),Sit N G p x→x.ok→NF x→∀ (i:Nat) (q:Nat × Tr),(whP p x)[i]?=some q→WhA c N G p x i q
 | .zero n,p,hs,ho,hn,i,q,hq=>by
  cases i with
  | zero =>
   simp [whP] at hq
   subst hq
   exact ⟨hs,ho,hn,by simp [rwP],fun h=>absurd ho.2 (by simp only [Tr.root] at h;rw [h];decide),fun _=>⟨rfl,rfl⟩⟩
  | succ i=>simp [whP] at hq
 | .one n a,p,hs,ho,hn,i,q,hq=>by
  cases i with
  | zero =>
   simp [whP] at hq
   subst hq
   exact ⟨hs,ho,hn,by simp [rwP],fun h=>absurd ho.2.1 (by simp only [Tr.root] at h;rw [h];decide),fun _=>⟨rfl,rfl⟩⟩
  | succ i=>simp [whP] at hq
 | .two n a b,p,hs,ho,hn,i,q,hq=>by
  have hp1:=flat_pos a
  have hp2:=flat_pos b
  have hrt:rt (p,.two n a b)=p+a.flat.length+b.flat.length:=by simp [rt,Tr.flat];omega
  have hrt2:rt (p+a.flat.length,b)=p+a.flat.length+b.flat.length - 1:=by simp [rt]
  by_cases h7 : n.1 = 7
  ·rw [whP,if_pos h7] at hq
   have last:∀ (A:List (Nat × Tr)) (B:List (Nat × Tr)) (Z:List Tr),A.length=B.length→Z.length=B.length→rwP p (.two n a b)=B ++ [(p,a)]→lnP c (.two n a b)=Z ++ [RC (drv c a) b]→i=A.length→q=(p,.two n a b)→WhA c N G p (.two n a b) i q:=by
    intro A B Z hAB hZB e1 e2 hi he
    subst he
    refine ⟨hs,ho,hn,?_,fun _=>⟨n,a,b,rfl,h7,?_,?_⟩,fun h=>absurd h7 h⟩
    ·rw [e1,hi,hAB];simp
    ·rw [e1,hi,hAB];simp
    ·rw [e2,hi,hAB,← hZB];simp
   by_cases hz : nul a = true
   ·rw [if_pos hz] at hq
    have e1:rwP p (.two n a b)=rwP (p+a.flat.length) b ++ [(p,a)]:=by rw [rwP,if_pos h7,if_pos hz]
    have e2:lnP c (.two n a b)=lnP c b ++ [RC (drv c a) b]:=by rw [lnP,if_pos h7,if_pos hz]
    have hl:=whP_len c b (p+a.flat.length)
    by_cases ci : i < (whP (p + a.flat.length) b).length
    ·rw [List.getElem?_append_left ci] at hq
     obtain ⟨k1,k2,k3,k4,k5,k6⟩:=whP_at c b (p+a.flat.length) hs.right ho.2.2.2 hn.2.1 i q hq
     refine ⟨k1,k2,k3,?_,fun h=>?_,fun h=>?_⟩
     ·rw [e1,List.length_append,List.length_singleton,hrt]
      rw [hrt2] at k4
      have key:∀ (r R i s:Nat),i<R→1≤s→r+(R - 1 - i)=s - 1→r+(R+1 - 1 - i)=s:=by
       intro r R i s h1 h2 h3
       omega
      exact key _ _ _ _ (by rw [← hl.1];exact ci) (by omega) k4
     ·obtain ⟨n',a',b',j1,j2,j3,j4⟩:=k5 h
      exact ⟨n',a',b',j1,j2,by rw [e1,List.getElem?_append_left (by omega)];exact j3,by rw [e2,List.getElem?_append_left (by omega)];exact j4⟩
     ·obtain ⟨j1,j2⟩:=k6 h
      exact ⟨by rw [e1,List.getElem?_append_left (by omega)];exact j1,by rw [e2,List.getElem?_append_left (by omega)];exact j2⟩
    ·rw [List.getElem?_append_right (by omega)] at hq
     have hi0:i - (whP (p+a.flat.length) b).length=0:=by
      by_cases c2 : i - (whP (p + a.flat.length) b).length = 0
      ·exact c2
      ·rw [List.getElem?_eq_none (by show 1≤_;omega)] at hq;cases hq
     rw [hi0] at hq
     exact last _ _ _ hl.1 hl.2 e1 e2 (by omega) (Option.some.inj hq).symm
   ·rw [if_neg hz,List.nil_append] at hq
    have e1:rwP p (.two n a b)=[] ++ [(p,a)]:=by rw [rwP,if_pos h7,if_neg hz]
    have e2:lnP c (.two n a b)=[] ++ [RC (drv c a) b]:=by rw [lnP,if_pos h7,if_neg hz]
    have hi0:i=0:=by
     by_cases c2 : i = 0
     ·exact c2
     ·rw [List.getElem?_eq_none (by show 1≤_;omega)] at hq;cases hq
    subst hi0
    exact last [] [] [] rfl rfl e1 e2 rfl (Option.some.inj hq).symm
  ·rw [whP,if_neg h7] at hq
   have hi0:i=0:=by
    by_cases c2 : i = 0
    ·exact c2
    ·rw [List.getElem?_eq_none (by show 1≤_;omega)] at hq;cases hq
   subst hi0
   have e:=(Option.some.inj hq).symm
   subst e
   exact ⟨hs,ho,hn,by rw [rwP,if_neg h7];simp,fun h=>absurd h h7,fun _=>⟨by rw [rwP,if_neg h7];rfl,by rw [lnP,if_neg h7];rfl⟩⟩
/-- What lengthen answers. -/
def LgQ (c : Int) (x : Tr) (lo base : Nat) (v : Value) (w : World) (e : Ending) (w' : World) : Prop :=
 (¬ (∀ z ∈ lnP c x,z.flat.length≤4000)∧e=.returned (.int .i64 6)∧Below base w w') ∨
 ((∀ z ∈ lnP c x,z.flat.length≤4000)∧e=.returned (.int .i64 0)∧Prt lo w' base v (lnP c x)∧Below base w w')
/-- A box of two cells; what was there stays below base. -/
abbrev FC (base B:Nat) (w:World) (v0 v1:Value) (w':World):Prop:=w'.cell? ⟨B,0,none⟩=some v0∧w'.cell? ⟨B,1,none⟩=some v1∧B<w'.heap.size∧Below base w w'
theorem fc_step {base B:Nat} {w:World} {v0 v1:Value} {w1 w2:World} (hb:Below w1.heap.size w1 w2) (hs:base≤w1.heap.size) (h:FC base B w v0 v1 w1):FC base B w v0 v1 w2:=by
 have hp:=h.2.2.1
 have hs':=hb.size
 exact ⟨by rw [below_cell hb hp];exact h.1,by rw [below_cell hb hp];exact h.2.1,by omega,h.2.2.2.trans (hb.mono hs)⟩
theorem fc_set {base B:Nat} {w:World} {v0 v1:Value} {w1:World} (g o:Nat) (u:Value) (hg:base≤g) (hne:g≠B) (h:FC base B w v0 v1 w1):FC base B w v0 v1 (w1.setCell ⟨g,o,none⟩ u):=by
 have hbk:=heap_setCell_other w1 ⟨g,o,none⟩ B u (by show B≠g;omega)
 exact ⟨by rw [World.cell?_of_block (a:=⟨B,0,none⟩) hbk];exact h.1,by rw [World.cell?_of_block (a:=⟨B,1,none⟩) hbk];exact h.2.1,by simpa using h.2.2.1,h.2.2.2.setCell (p:=⟨g,o,none⟩) hg u⟩

set_option maxHeartbeats 4000000 in
set_option maxRecDepth 100000 in
theorem lengthen_any {w:World} {T:Tr} {a:Option Addr} {cap gb lo base:Nat} (hD:∀ w2,Below base w w2→DForm w2 T a cap gb) (hP:∀ w2,Below base w w2→PTab w2) (c:Int) {p:Nat} {x:Tr} (hx:Sit T.flat (T.bg 0) p x) (ho:x.ok) (hn:NF x) {v:Value} (hlo:lo≤w.heap.size) (hba:base≤w.heap.size) (hv:Prt lo w base v ((rwP p x).map fun y=>drv c y.2)) :
  Calls Tryz.prog 62 #[dfV T a cap gb,.int .i64 (rt (p,x):Nat),v] w (LgQ c x lo base v w):=by
 obtain ⟨us,hpx,hrow⟩:=hv.px
 rw [List.length_map] at hrow
 obtain ⟨va,vc,rfl⟩:=own_one hrow
 have hl:=(hD w (Below.refl _ _)).len
 have hle:=hx.le
 have hlen:=rwP_len x p
 have HWL:=whP_len c x p
 have HAT:Hid (∀ i,i<(rwP p x).length→∃ q,WhA c T.flat (T.bg 0) p x i q):=fun i hi=>by
  obtain ⟨q,hq⟩:∃ q,(whP p x)[i]?=some q:=⟨_,List.getElem?_eq_getElem (by rw [HWL.1];exact hi)⟩
  exact ⟨q,whP_at c x p hx ho hn i q hq⟩
 obtain ⟨N,hN⟩:∃ N,(rwP p x).length=N:=⟨_,rfl⟩
 have HNE:Hid ((rwP p x).length=N∧(lnP c x).length=N):=⟨hN,by rw [HWL.2];exact hN⟩
 have HD:Hid _:=hD
 have HPP:Hid _:=hP
 have HLO:Hid (lo≤w.heap.size):=hlo
 have HROW:Hid (w.ownsRow base 22 1 (.slice va N vc) N us):=by rw [hN] at hrow;exact hrow
 have HUS:Hid (∀ (j:Nat) (y:Nat × Tr),(rwP p x)[j]?=some y→∃ u,us[j]?=some u∧NO lo w u (drv c y.2)∧(drv c y.2).flat.length≤4000):=fun j y hy=>hpx.at_ j (drv c y.2) (by rw [List.getElem?_map,hy];rfl)
 have hN4:N≤4000:=by omega
 rw [hN] at HAT ⊢
 obtain ⟨r,hr⟩:∃ r,rt (p,x)=r:=⟨_,rfl⟩
 have HR:Hid (rt (p,x)=r):=hr
 have hr4:r≤4000:=by rw [← hr];unfold rt;show p+x.flat.length - 1≤_;omega
 rw [hr]
 unfold dfV
 obtain ⟨n,hn'⟩:∃ n,T.flat.length=n:=⟨_,rfl⟩
 have HTN:Hid (T.flat.length=n):=hn'
 rw [hn']
 rw [hn'] at hl
 clear hD hP hx ho hn hv hpx hrow hle hlen HWL hN hr hn' hlo
 go_enter Tryz.func62,Tryz.ntmps62
 go_wp2_with fail
 go_loopw [13] (fun vi wr=>∃ (i:Nat) (us':List Value),vi=.int .i64 i∧i≤N∧us'.length=N∧wr.ownsRow base 22 1 (.slice va N vc) N us'∧(∀ (j:Nat) (z:Tr),j<i→(lnP c x)[j]?=some z→∃ u,us'[j]?=some u∧NO lo wr u z∧z.flat.length≤4000)∧(∀ (j:Nat) (y:Nat × Tr),i≤j→(rwP p x)[j]?=some y→∃ u,us'[j]?=some u∧NO lo wr u (drv c y.2)∧(drv c y.2).flat.length≤4000)∧FC base w.heap.size w (.slice a n cap) (.slice (some ⟨gb,0,none⟩) n n) wr) (fun vi _=>N - (intOf vi).toNat)
 case atStart =>
  have hal:Below w.heap.size w (w.alloc (.cells #[.slice a n cap,.slice (some ⟨gb,0,none⟩) n n] 73)):=(Below.refl _ _).alloc (Nat.le_refl _) _
  refine ⟨0,us,rfl,Nat.zero_le _,by have:=HROW.out.1;omega,own_below HROW.out hal,fun j z hj=>by omega,fun j y _ hy=>?_,?_⟩
  ·obtain ⟨u,h1,h2,h3⟩:=HUS.out j y hy
   exact ⟨u,h1,h2.below hal,h3⟩
  ·obtain ⟨k0,k1,k2,k3⟩:=fb_new w (.slice a n cap) (.slice (some ⟨gb,0,none⟩) n n) 73
   exact ⟨k0,k1,k2,k3.mono hba⟩
 case round =>
  obtain ⟨i,us',rfl,hi,hul,hrow,hdone,hleft,hfc⟩:=hrel
  have HUL:Hid (us'.length=N):=hul
  have HRO:Hid (wr.ownsRow base 22 1 (.slice va N vc) N us'):=hrow
  have HDO:Hid _:=hdone
  have HLE:Hid _:=hleft
  have HFC:Hid (FC base w.heap.size w (.slice a n cap) (.slice (some ⟨gb,0,none⟩) n n) wr):=hfc
  by_cases hlt : i < N
  ·obtain ⟨q,hs,hok,hnf,hroot,h7,hn7⟩:=HAT.out i hlt
   have hD1:=HD.out wr hfc.2.2.2
   obtain ⟨g,o,e,hg,hk1,hk2,hltn⟩:=hD1.node hs
   subst e
   rw [HTN.out] at hltn
   rw [HNE.out.1,HR.out] at hroot
   obtain ⟨vg,rfl⟩:∃ vg,va=some ⟨vg,0,none⟩:=by
    rcases hrow.2 with ⟨_,h0⟩ | ⟨lg,cap',cur,e,_⟩
    ·omega
    ·simp only [Value.slice.injEq] at e
     exact ⟨lg,e.1⟩
   have hvgb:=hrow.lt vg rfl
   have HSQ:Hid (q.1=q.1∧rt (q.1,q.2)=rt q):=⟨rfl,rfl⟩
   have hnode:wr.cell? ⟨g,o+rt q * 2,none⟩=some (.int .i64 q.2.root.1):=hk1
   have hltq:rt q<n:=hltn
   obtain ⟨d,hd⟩:∃ d,rt q=d:=⟨_,rfl⟩
   have HDQ:Hid (rt q=d):=hd
   rw [hd] at hnode hroot hltq
   have hI1:IntKind.i64.wrap ((r:Int) - (N:Int))=(r:Int) - (N:Int):=by rw [IntKind.wrap_i64];omega
   have hI2:IntKind.i64.wrap ((r:Int) - (N:Int)+1)=(r:Int) - (N:Int)+1:=by rw [IntKind.wrap_i64];omega
   have hI3:IntKind.i64.wrap ((r:Int) - (N:Int)+1+(i:Int))=(d:Int):=by rw [IntKind.wrap_i64];omega
   have hiI:(i:Int)<N:=by omega
   have hdI:(d:Int)<n:=by omega
   obtain ⟨f0,f1,f2,f3⟩:=hfc
   have HLT:Hid (i<N):=hlt
   by_cases c7 : q.2.root.1 = 7
   ·obtain ⟨n7,a7,b7,e7,hn7',hrw,hln⟩:=h7 c7
    obtain ⟨q1,q2⟩:=q
    simp only at e7
    subst e7
    obtain ⟨u,hu1,hu2,hu3⟩:=hleft i (q1,a7) (Nat.le_refl _) hrw
    obtain ⟨ua,uc,rfl⟩:=own_one hu2
    have hcu:wr.cell? ⟨vg,i,none⟩=some (.slice ua (drv c a7).flat.length uc):=by
     have:=hrow.cells (g:=vg) rfl i _ hu1
     rwa [Addr.add_lit,Nat.zero_add] at this
    rw [c7] at hnode
    have hp1:=flat_pos a7
    have hp2:=flat_pos b7
    have hrd:d - 1=rt (q1+a7.flat.length,b7)∧1≤d:=by
     rw [← hd]
     simp [rt,Tr.flat]
     omega
    have hd1:1≤d:=hrd.2
    have hba:=drv_ok c (t:=a7) hok.2.2.1 hnf.1
    have hbl:b7.flat.length≤4000:=by have:=hs.right.le;rw [HTN.out] at this;omega
    have HTR:Hid (∀ w1,Below base w w1→Calls Tryz.prog 60 #[.agg #[.slice (some ⟨g,o,none⟩) n cap,.slice (some ⟨gb,0,none⟩) n n],.int .i64 ((d - 1:Nat):Int)] w1 fun e w'=>∃ v,e=.returned v∧NReads w' v b7.flat∧Below w1.heap.size w1 w'):=fun w1 hb=>by
     have:=dtreeT (HD.out w1 hb) hs.right
     unfold dfV at this
     rw [HTN.out] at this
     rw [hrd.1]
     exact this
    have HAH:Hid (∀ w1 vt,Below wr.heap.size wr w1→NReads w1 vt b7.flat→Calls Tryz.prog 59 #[.slice ua (drv c a7).flat.length uc,vt] w1 (RuJ ((RC (drv c a7) b7).flat.length≤4000) (RC (drv c a7) b7) lo w1.heap.size w1)):=fun w1 vt hb hvt =>
     ahead_any hba.1 hba.2 hu3 hok.2.2.2 hnf.2.1 hbl (hu2.below hb) hvt (HPP.out w1 (HFC.out.2.2.2.trans (hb.mono (by have:=(hrow.lt vg rfl);omega)))) (Nat.le_trans HLO.out (by have:=HFC.out.2.2.1;have:=hb.size;omega))
    have HLN:Hid ((lnP c x)[i]?=some (RC (drv c a7) b7)):=hln
    have hbs:base≤wr.heap.size:=by have:=hrow.lt vg rfl;omega
    have hId:((d:Int) - 1)=((d - 1:Nat):Int):=by omega
    obtain ⟨D,hDD⟩:∃ D,(drv c a7).flat.length=D:=⟨_,rfl⟩
    rw [hDD] at hcu HAH
    have hvw:vg≠w.heap.size:=by
     have:=(HROW.out.lt vg rfl).2
     omega
    clear hs hok hnf h7 hn7 hD1 hk1 hk2 hltn hroot hrw hln hu1 hu2 hu3 hrow hdone hleft hba hDD hd hrd c7 hn7'
    go_wp2_with fail
    refine (HTR.out _ HFC.out.2.2.2).mono ?_
    rintro e w4 ⟨vt,rfl,hvt,hb4⟩
    have HB4:Hid (Below wr.heap.size wr w4):=hb4
    have HVT:Hid (NReads w4 vt b7.flat):=hvt
    clear hb4 hvt HTR
    go_wp2_with fail
    refine (HAH.out _ _ HB4.out HVT.out).mono ?_
    rintro e w5 (⟨hnl,rfl,hb5⟩ | ⟨hlc,u5,rfl,hno5,hb5⟩)
    ·have HB5:Hid (Below wr.heap.size wr w5):=go_on HB4.out hb5
     have hr5:=own_below HRO.out HB5.out
     have f5:=hr5.cellAt i (by omega)
     have f6:=hr5.frozenAt i
     obtain ⟨old,hold⟩:∃ old,us'[i]?=some old:=⟨_,List.getElem?_eq_getElem (by have:=HUL.out;omega)⟩
     rw [hold] at f5
     have HNL:Hid (¬ (RC (drv c a7) b7).flat.length≤4000):=hnl
     clear hb5 hnl hold hr5
     go_wp2_with fail
     go_ret
     refine .inl ⟨fun hall=>?_,rfl,?_⟩
     ·have h5:=hall _ (List.mem_of_getElem? HLN.out)
      have h6:=HNL.out
      omega
     ·exact (HFC.out.2.2.2.trans (HB5.out.mono hbs)).setCell (p:=⟨vg,i,none⟩) (by show base≤vg;have:=HROW.out.lt vg rfl;omega) _
    ·obtain ⟨ua5,uc5,rfl⟩:=own_one hno5
     have HB5:Hid (Below wr.heap.size wr w5):=go_on HB4.out hb5
     have hr5:=own_below HRO.out HB5.out
     have HR5:Hid (w5.ownsRow base 22 1 (.slice (some ⟨vg,0,none⟩) N vc) N us'):=hr5
     have f5:=hr5.cellAt i (by omega)
     have f6:=hr5.frozenAt i
     obtain ⟨old,hold⟩:∃ old,us'[i]?=some old:=⟨_,List.getElem?_eq_getElem (by have:=HUL.out;omega)⟩
     rw [hold] at f5
     have HLC:Hid ((RC (drv c a7) b7).flat.length≤4000):=hlc
     have HNO:Hid (NO lo w5 (.slice ua5 (RC (drv c a7) b7).flat.length uc5) (RC (drv c a7) b7)):=hno5
     clear hb5 hlc hno5 hold hr5
     obtain ⟨E5,hE5⟩:∃ E5,(RC (drv c a7) b7).flat.length=E5:=⟨_,rfl⟩
     have HE5:Hid ((RC (drv c a7) b7).flat.length=E5):=hE5
     rw [hE5] at HLC HNO ⊢
     clear hE5
     go_wp2_with fail
     go_roundw
     case rel =>
      have hil:i<N:=HLT.out
      have hulen:us'.length=N:=HUL.out
      have hst:=HR5.out.stored i (.slice ua5 E5 uc5)
      have mv:∀ (u:Value) (z:Tr),NO lo wr u z→NO lo (w5.setCell ⟨vg,i,none⟩ (.slice ua5 E5 uc5)) u z:=fun u z hz=>own_apart2 (v:=.slice (some ⟨vg,0,none⟩) N vc) (hz.below HB5.out) hst.2 HR5.out (by decide)
      refine ⟨i+1,us'.set i (.slice ua5 E5 uc5),by go_num,hil,by rw [List.length_set];exact hulen,hst.1,fun j z hj hz=>?_,fun j y hj hy=>?_,fc_set vg i _ (by have:=HROW.out.lt vg rfl;omega) hvw (fc_step HB5.out hbs HFC.out)⟩
      ·by_cases cj : j = i
       ·subst cj
        rw [HLN.out] at hz
        have e:=Option.some.inj hz
        subst e
        refine ⟨_,by rw [List.getElem?_set_self (by omega)],own_apart2 (v:=.slice (some ⟨vg,0,none⟩) N vc) HNO.out hst.2 HR5.out (by decide),?_⟩
        rw [HE5.out]
        exact HLC.out
       ·obtain ⟨u,h1,h2,h3⟩:=HDO.out j z (by omega) hz
        exact ⟨u,by rw [List.getElem?_set_ne (fun e=>cj e.symm)];exact h1,mv u z h2,h3⟩
      ·obtain ⟨u,h1,h2,h3⟩:=HLE.out j y (by omega) hy
       exact ⟨u,by rw [List.getElem?_set_ne (by omega)];exact h1,mv u _ h2,h3⟩
     case measure=>simp [intOf];have hil:i<N:=HLT.out;omega
   ·obtain ⟨hrw,hln⟩:=hn7 c7
    obtain ⟨u,hu1,hu2,hu3⟩:=hleft i q (Nat.le_refl _) hrw
    obtain ⟨ua,uc,rfl⟩:=own_one hu2
    have hcu:wr.cell? ⟨vg,i,none⟩=some (.slice ua (drv c q.2).flat.length uc):=by
     have:=hrow.cells (g:=vg) rfl i _ hu1
     rwa [Addr.add_lit,Nat.zero_add] at this
    have hkk:(q.2.root.1 != 7)=true:=by simpa using c7
    have HLN:Hid ((lnP c x)[i]?=some (drv c q.2)):=hln
    have HRW:Hid ((rwP p x)[i]?=some q):=hrw
    obtain ⟨D,hDD⟩:∃ D,(drv c q.2).flat.length=D:=⟨_,rfl⟩
    rw [hDD] at hcu
    obtain ⟨kq,hkq⟩:∃ kq,q.2.root.1=kq:=⟨_,rfl⟩
    rw [hkq] at hnode hkk
    clear hs hok hnf h7 hn7 hD1 hk1 hk2 hltn hroot hrw hln hu1 hu2 hu3 hrow hdone hleft hDD hd c7 hkq
    go_wp2_with fail
    go_roundw
    case rel =>
     have hil:i<N:=HLT.out
     refine ⟨i+1,us',by go_num,hil,HUL.out,HRO.out,fun j z hj hz=>?_,fun j y hj hy=>HLE.out j y (by omega) hy,HFC.out⟩
     by_cases cj : j = i
     ·subst cj
      rw [HLN.out] at hz
      have e:=Option.some.inj hz
      subst e
      exact HLE.out j q (Nat.le_refl _) HRW.out
     ·exact HDO.out j z (by omega) hz
    case measure=>simp [intOf];have hil:i<N:=HLT.out;omega
  ·have hiI:¬ (i:Int)<N:=by omega
   have HIE:Hid (i=N):=by show _=_;omega
   clear hrow hdone hleft hfc
   go_wp2_with fail
   go_ret
   have hln:(lnP c x).length=N:=HNE.out.2
   have hpx:PX lo wr us' (lnP c x):=⟨by rw [HUL.out,hln],fun j z hz=>HDO.out j z (by rw [HIE.out,← hln];exact (List.getElem?_eq_some_iff.1 hz).1) hz⟩
   refine .inr ⟨fun z hz=>?_,rfl,prt_of hpx (by rw [hln];exact HRO.out),HFC.out.2.2.2⟩
   obtain ⟨j,hj,rfl⟩:=List.mem_iff_getElem.1 hz
   obtain ⟨u,_,_,h3⟩:=hpx.at_ j _ (List.getElem?_eq_getElem hj)
   exact h3
end Go.Proofs.YtfdhaknecjcjoaaGreatDoor

namespace Go.Proofs.YtfdhaknecjcjoaaGreatDoor
open Go Go.RowKit Go.Lib
set_option linter.unusedVariables false

theorem ru_base {p:Prop} {R:Tr} {lo base:Nat} {w w1 w':World} {e:Ending} (hb:Below base w w1) (hs:base≤w1.heap.size) (h:RuJ p R lo w1.heap.size w1 e w'):RuJ p R lo base w e w':=by
 rcases h with ⟨h1,h2,h3⟩ | ⟨h1,u,h2,h3,h4⟩
 ·exact .inl ⟨h1,h2,hb.trans (h3.mono hs)⟩
 ·exact .inr ⟨h1,u,h2,h3,hb.trans (h4.mono hs)⟩

set_option maxHeartbeats 4000000 in
set_option maxRecDepth 100000 in
theorem rule_two {w:World} {T:Tr} {a:Option Addr} {cap gb lo base:Nat} (hD:∀ w2,Below base w w2→DForm w2 T a cap gb) (hP:∀ w2,Below base w w2→PTab w2) (c:Int) {p:Nat} {n:Nd} {x y:Tr} (hx:Sit T.flat (T.bg 0) p (.two n x y)) (ho:(Tr.two n x y).ok) (hn:NF (.two n x y)) {v:Value} (hlo:lo≤w.heap.size) (hba:base≤w.heap.size)
  (hv:Prt lo w base v ((kids (p,.two n x y)).map fun z=>drv c z.2)) :
  Calls Tryz.prog 39 #[dfV T a cap gb,.int .i64 (rt (p,.two n x y):Nat),.int .u8 c,v] w (RuJ (loc c (.two n x y)) (drv c (.two n x y)) lo base w):=by
 have h0:=hD w (Below.refl _ _)
 have hl:=h0.len
 have hle:=hx.le
 obtain ⟨g,o,rfl,hg,hk1,hk1',hlt⟩:=h0.node hx
 have hk:=ar2 ho.2.1
 have hkl:(kids (p,.two n x y)).length≤4000:=by
  rw [kids]
  split
  ·exact Nat.le_trans (rwP_len _ _) (by omega)
  ·exact Nat.le_trans (spP_len _ _ _) (by omega)
 have hall:∀ z ∈ (kids (p,.two n x y)).map (fun z=>drv c z.2),z.ok∧NF z:=fun z hz=>by
  obtain ⟨q,hq,rfl⟩:=List.mem_map.1 hz
  exact drv_ok c (kids_sit (q:=(p,.two n x y)) hx ho q hq).2 (nf_kids (q:=(p,.two n x y)) hn q hq)
 have HBA:Hid (base≤w.heap.size):=hba
 obtain ⟨k,s⟩:=n
 simp only [Tr.root] at hk1 hk1' hk
 have hN:=h0.len
 obtain ⟨va,vc,rfl⟩:=own_one hv.px.choose_spec.2
 rw [List.length_map] at hv ⊢
 have HB:Hid (∀ O O',Below w.heap.size w ((w.alloc O).alloc O')):=fun O O'=>((Below.refl _ _).alloc (Nat.le_refl _) _).alloc (by simp) _
 have hk2:∀ O,(w.alloc O).cell? ⟨g,o+rt (p,.two (k,s) x y) * 2,none⟩=some (.int .i64 k):=fun O=>by rw [below_cell ((Below.refl w.heap.size w).alloc (Nat.le_refl _) O) hg];exact hk1
 have hk3:∀ O,(w.alloc O).cell? ⟨g,o+rt (p,.two (k,s) x y) * 2+1,none⟩=some (.int .u8 s):=fun O=>by rw [below_cell ((Below.refl w.heap.size w).alloc (Nat.le_refl _) O) hg];exact hk1'
 by_cases h7 : k = 7
 ·subst h7
  have ek:kids (p,.two (7,s) x y)=rwP p (.two (7,s) x y):=by rw [kids,if_pos rfl]
  rw [ek] at hv hkl hall ⊢
  have HLE:Hid (∀ w1,Below w.heap.size w w1→Calls Tryz.prog 62 #[dfV T (some ⟨g,o,none⟩) cap gb,.int .i64 (rt (p,.two (7,s) x y):Nat),.slice va (rwP p (.two (7,s) x y)).length vc] w1 (LgQ c (.two (7,s) x y) lo base (.slice va (rwP p (.two (7,s) x y)).length vc) w1)):=fun w1 hb =>
   lengthen_any (fun w2 h2=>hD w2 ((hb.mono hba).trans h2)) (fun w2 h2=>hP w2 ((hb.mono hba).trans h2)) c hx ho hn (Nat.le_trans hlo hb.size) (Nat.le_trans hba hb.size) (hv.below hb)
  have HJ:Hid (∀ w1 w2,Below base w w1→Below base w1 w2→lo≤w2.heap.size→Prt lo w2 base (.slice va (rwP p (.two (7,s) x y)).length vc) (lnP c (.two (7,s) x y))→Calls Tryz.prog 58 #[.int .i64 5,.slice va (rwP p (.two (7,s) x y)).length vc] w2 (RuJ (jOK 5 (lnP c (.two (7,s) x y))) (drv c (.two (7,s) x y)) lo w2.heap.size w2)):=fun w1 w2 h1 h2 hl2 hp=>by
   have hln:=(whP_len c (.two (7,s) x y) p).2
   have hokl:∀ z ∈ lnP c (.two (7,s) x y),z.ok∧NF z:=by
    intro z hz
    obtain ⟨j,hj,rfl⟩:=List.mem_iff_getElem.1 hz
    obtain ⟨q,hq⟩:∃ q,(whP p (.two (7,s) x y))[j]?=some q:=⟨_,List.getElem?_eq_getElem (by rw [(whP_len c _ p).1,← hln];exact hj)⟩
    obtain ⟨k1,k2,k3,k4,k5,k6⟩:=whP_at c _ p hx ho hn j q hq
    by_cases c7 : q.2.root.1 = 7
    ·obtain ⟨n',a',b',j1,j2,j3,j4⟩:=k5 c7
     rw [List.getElem?_eq_getElem hj] at j4
     rw [Option.some.inj j4]
     rw [j1] at k2 k3
     have:=drv_ok c (t:=a') k2.2.2.1 k3.1
     exact RC_ok this.1 this.2 k2.2.2.2 k3.2.1
    ·obtain ⟨j1,j2⟩:=k6 c7
     rw [List.getElem?_eq_getElem hj] at j2
     rw [Option.some.inj j2]
     exact drv_ok c k2 k3
   have:=djoined5 hp hokl (hP w2 (h1.trans h2)) hl2 (by rw [hln];omega)
   rwa [drv_lnP c _ ho hn] at this
  have HLC:Hid (loc c (.two (7,s) x y)↔(∀ z ∈ lnP c (.two (7,s) x y),z.flat.length≤4000)∧jOK 5 (lnP c (.two (7,s) x y))):=by show _↔_;rw [loc,if_pos rfl]
  have HLO:Hid (lo≤w.heap.size):=hlo
  unfold dfV at HLE ⊢
  obtain ⟨N,hN'⟩:∃ N,T.flat.length=N:=⟨_,rfl⟩
  rw [hN'] at hl hlt HLE ⊢
  obtain ⟨r,hr⟩:∃ r,rt (p,.two (7,s) x y)=r:=⟨_,rfl⟩
  rw [hr] at hk1 hk1' hlt HLE hk2 hk3 ⊢
  obtain ⟨nk,hnk⟩:∃ nk,(rwP p (.two (7,s) x y)).length=nk:=⟨_,rfl⟩
  rw [hnk] at hkl HLE HJ ⊢
  obtain ⟨R,hR⟩:∃ R,drv c (.two (7,s) x y)=R:=⟨_,rfl⟩
  rw [hR] at HJ ⊢
  obtain ⟨Lc,hLc⟩:∃ Lc,loc c (.two (7,s) x y)=Lc:=⟨_,rfl⟩
  rw [hLc] at HLC ⊢
  have hI:(r:Int)<N:=by omega
  clear hD hP hx ho hn hv hall h0 hk1 hk1' hle hlo hba ek hR hLc hnk hr hN' hN hk
  go_enter Tryz.func39,Tryz.ntmps39
  go_wp2_with fail
  refine (HLE.out _ (HB.out _ _)).mono ?_
  rintro e w2 (⟨hnl,rfl,hb2⟩ | ⟨hal,rfl,hp2,hb2⟩)
  ·have HNL:Hid _:=hnl
   have HB2:Hid (Below base w w2):=((HB.out _ _).mono HBA.out).trans hb2
   clear hnl hb2
   go_wp2_with fail
   go_ret2
   exact .inl ⟨fun h=>HNL.out (HLC.out.1 h).1,rfl,HB2.out⟩
  ·have HAL:Hid _:=hal
   have HB2:Hid (Below base w w2):=((HB.out _ _).mono HBA.out).trans hb2
   have HS2:Hid (base≤w2.heap.size∧lo≤w2.heap.size):=⟨Nat.le_trans (Nat.le_trans HBA.out (HB.out _ _).size) hb2.size,Nat.le_trans (Nat.le_trans HLO.out (HB.out _ _).size) hb2.size⟩
   have hcall:=HJ.out _ w2 ((HB.out _ _).mono HBA.out) hb2 HS2.out.2 hp2
   have HCALL:Hid (Calls Tryz.prog 58 #[.int .i64 5,.slice va nk vc] w2 (RuJ (jOK 5 (lnP c (.two (7,s) x y))) R lo w2.heap.size w2)):=hcall
   clear hal hb2 hp2 hcall
   go_wp2_with fail
   refine HCALL.out.mono ?_
   rintro e w3 hq
   obtain ⟨u,kk,rfl,HQ⟩:=ru_uni (ru_base HB2.out HS2.out.1 hq)
   clear hq
   go_wp2_with fail
   go_ret2
   rcases HQ.out with ⟨h1,h2,h3⟩ | ⟨h1,h2⟩
   ·exact .inl ⟨fun h=>h1 (HLC.out.1 h).2,h2,h3⟩
   ·exact .inr ⟨HLC.out.2 ⟨HAL.out,h1⟩,h2⟩
 ·have hk56:k=5∨k=6:=by omega
  have ek:(kids (p,.two (k,s) x y)).map (fun z=>drv c z.2)=(spine k (.two (k,s) x y)).map (drv c):=by
   rw [kids,if_neg h7,← spP_snd k _ p,List.map_map]
   rfl
  have hlk:(kids (p,.two (k,s) x y)).length=((spine k (.two (k,s) x y)).map (drv c)).length:=by rw [← ek,List.length_map]
  rw [ek] at hv hall
  have HLC:Hid (loc c (.two (k,s) x y)=jOK k ((spine k (.two (k,s) x y)).map (drv c))):=by show _=_;rw [loc,if_neg h7]
  have HDR:Hid (jF k ((spine k (.two (k,s) x y)).map (drv c))=drv c (.two (k,s) x y)):=drv_spine hk56 c _
  have HJ5:Hid (∀ w1,Below w.heap.size w w1→k=5→Calls Tryz.prog 58 #[.int .i64 5,.slice va (kids (p,.two (k,s) x y)).length vc] w1 (RuJ (loc c (.two (k,s) x y)) (drv c (.two (k,s) x y)) lo w1.heap.size w1)):=fun w1 hb e5=>by
   have:=djoined5 (hv.below hb) hall (hP w1 (hb.mono hba)) (Nat.le_trans hlo hb.size) (by rw [← hlk];omega)
   rw [HLC.out,← HDR.out]
   subst e5
   exact this
  have HJ6:Hid (∀ w1,Below w.heap.size w w1→k=6→Calls Tryz.prog 58 #[.int .i64 6,.slice va (kids (p,.two (k,s) x y)).length vc] w1 (RuJ (loc c (.two (k,s) x y)) (drv c (.two (k,s) x y)) lo w1.heap.size w1)):=fun w1 hb e6=>by
   have:=djoined6 (hv.below hb) hall (hP w1 (hb.mono hba)) (Nat.le_trans hlo hb.size) (by rw [← hlk];omega)
   rw [HLC.out,← HDR.out]
   subst e6
   exact this
  unfold dfV
  obtain ⟨N,hN'⟩:∃ N,T.flat.length=N:=⟨_,rfl⟩
  rw [hN'] at hl hlt ⊢
  obtain ⟨r,hr⟩:∃ r,rt (p,.two (k,s) x y)=r:=⟨_,rfl⟩
  rw [hr] at hk1 hk1' hlt hk2 hk3 ⊢
  obtain ⟨nk,hnk⟩:∃ nk,(kids (p,.two (k,s) x y)).length=nk:=⟨_,rfl⟩
  rw [hnk] at hkl HJ5 HJ6 ⊢
  obtain ⟨R,hR⟩:∃ R,drv c (.two (k,s) x y)=R:=⟨_,rfl⟩
  rw [hR] at HJ5 HJ6 ⊢
  obtain ⟨Lc,hLc⟩:∃ Lc,loc c (.two (k,s) x y)=Lc:=⟨_,rfl⟩
  rw [hLc] at HJ5 HJ6 ⊢
  have hI:(r:Int)<N:=by omega
  clear hD hP hx ho hn hv hall h0 hk1 hk1' hle hlo hba ek hlk hR hLc hnk hr hN' hN hk HLC HDR
  rcases hk56 with rfl | rfl
  ·have HJ:Hid (∀ w1,Below w.heap.size w w1→Calls Tryz.prog 58 #[.int .i64 5,.slice va nk vc] w1 (RuJ Lc R lo w1.heap.size w1)):=fun w1 hb=>HJ5.out w1 hb rfl
   clear HJ5 HJ6
   go_enter Tryz.func39,Tryz.ntmps39
   go_wp2_with fail
   refine (HJ.out _ (HB.out _ _)).mono ?_
   rintro e w3 hq
   obtain ⟨u,kk,rfl,HQ⟩:=ru_uni (ru_base ((HB.out _ _).mono HBA.out) (Nat.le_trans HBA.out (HB.out _ _).size) hq)
   clear hq
   go_wp2_with fail
   go_ret2
   exact HQ.out
  ·have HJ:Hid (∀ w1,Below w.heap.size w w1→Calls Tryz.prog 58 #[.int .i64 6,.slice va nk vc] w1 (RuJ Lc R lo w1.heap.size w1)):=fun w1 hb=>HJ6.out w1 hb rfl
   clear HJ5 HJ6
   go_enter Tryz.func39,Tryz.ntmps39
   go_wp2_with fail
   refine (HJ.out _ (HB.out _ _)).mono ?_
   rintro e w3 hq
   obtain ⟨u,kk,rfl,HQ⟩:=ru_uni (ru_base ((HB.out _ _).mono HBA.out) (Nat.le_trans HBA.out (HB.out _ _).size) hq)
   clear hq
   go_wp2_with fail
   go_ret2
   exact HQ.out

theorem spP_okk (k:Int):∀ (x:Tr) (p:Nat),x.ok→∀ y ∈ spP k p x,y.2.ok
 | .zero n,p,ho,y,hy=>by simp only [spP,List.mem_singleton] at hy;subst hy;exact ho
 | .one n a,p,ho,y,hy=>by simp only [spP,List.mem_singleton] at hy;subst hy;exact ho
 | .two n a b,p,ho,y,hy=>by
  rw [spP] at hy
  split at hy
  ·rcases List.mem_append.1 hy with hy | hy
   ·exact spP_okk k a p ho.2.2.1 y hy
   ·simp only [List.mem_singleton] at hy;subst hy;exact ho.2.2.2
  ·simp only [List.mem_singleton] at hy;subst hy;exact ho
theorem rwP_okk:∀ (x:Tr) (p:Nat),x.ok→∀ y ∈ rwP p x,y.2.ok
 | .zero n,p,ho,y,hy=>by simp only [rwP,List.mem_singleton] at hy;subst hy;exact ho
 | .one n a,p,ho,y,hy=>by simp only [rwP,List.mem_singleton] at hy;subst hy;exact ho
 | .two n a b,p,ho,y,hy=>by
  rw [rwP] at hy
  split at hy
  ·rcases List.mem_append.1 hy with hy | hy
   ·split at hy
    ·exact rwP_okk b _ ho.2.2.2 y hy
    ·cases hy
   ·simp only [List.mem_singleton] at hy;subst hy;exact ho.2.2.1
  ·simp only [List.mem_singleton] at hy;subst hy;exact ho
theorem kids_ok {q:Nat × Tr} (ho:q.2.ok):∀ y ∈ kids q,y.2.ok:=by
 obtain ⟨p,x⟩:=q
 intro y hy
 cases x with
 | zero n=>simp [kids] at hy
 | one n a =>
  simp only [kids,List.mem_singleton] at hy
  subst hy
  exact ho.2.2
 | two n a b =>
  rw [kids] at hy
  split at hy
  ·exact rwP_okk _ _ ho y hy
  ·exact spP_okk _ _ _ ho y hy
/-- derivative, of any normal form that is read. -/
theorem derivative_any (c : Int) {T : Tr} {a : Option Addr} {cap : Nat} {w : World} (ho : T.ok) (hnf : NF T) (hl : T.flat.length ≤ 4000) (hv : NReads w (.slice a T.flat.length cap) T.flat) (hcap : T.flat.length ≤ cap) (hP : PTab w) (hT : TzTab w) :
  Calls Tryz.prog 24 #[.slice a T.flat.length cap,.int .u8 c] w (RuJ (fit c T) (drv c T) w.heap.size w.heap.size w):=by
 refine derivative_over c ho hnf hl hv hcap (fun x=>x.ok∧NF x) (loc c) (fit c) ⟨ho,hnf⟩ (fun q hq y hy=>⟨kids_ok hq.1 y hy,nf_kids hq.2 y hy⟩) (fun q h1 h2 _=>fit_kids c q h1 h2) (fun x h1 h2=>loc_len c h2.1 h2.2 h1) (fun gb w1 q hd hb hs hok _=>named_any hd (hP.stay hb) (hT.stay hb) q hs hok) ?_
 intro gb w1 q v base hd hb hs hok hn _ hba hlo hgb hprt
 obtain ⟨p,x⟩:=q
 cases x with
 | zero n=>exact rule_zero hd hs hok c v hb.size hba
 | one n x=>exact rule_one hd (hP.stay hb) hs hok hn c v hb.size hba hprt
 | two n x y =>
  have hb2:∀ w2,Below base w1 w2→Below w.heap.size w w2:=fun w2 h2=>hb.trans (h2.mono hlo)
  exact rule_two (fun w2 h2=>⟨ho,hl,hv.stay (hb2 w2 h2),(h2.block gb hgb).trans hd.row,hcap⟩) (fun w2 h2=>hP.stay (hb2 w2 h2)) c hs hok hn hb.size hba hprt
end Go.Proofs.YtfdhaknecjcjoaaGreatDoor

namespace Go.Proofs.YtfdhaknecjcjoaaGreatDoor
open Go Go.RowKit Go.Lib
set_option linter.unusedVariables false

/-- What Deriv answers. -/
def DvQ (ts : List Nd) (c : Int) (w : World) (e : Ending) (w' : World) : Prop :=
 (wrong ts≠0∧e=.returned (.tuple #[.slice none 0 0,.int .i64 (wrong ts)])∧Below w.heap.size w w') ∨
 (wrong ts=0∧isLet c=false∧e=.returned (.tuple #[.slice none 0 0,.int .i64 21])∧Below w.heap.size w w') ∨
 (wrong ts=0∧isLet c=true∧∃ T:Tr,T.ok∧T.flat=ts∧RuJ (fit c (nrm T)) (drv c (nrm T)) w.heap.size w.heap.size w e w')

set_option maxHeartbeats 4000000 in
set_option maxRecDepth 100000 in
theorem dDeriv_any (v : Value) (ts : List Nd) (w : World) (c : Int) (hc0 : 0 ≤ c) (hc1 : c ≤ 255) (hv : NReads w v ts) (hm : ts.length ≤ 9223372036854775806) (hP : PTab w) (hT : TzTab w) :
  Calls Tryz.prog 10 #[v,.int .u8 c] w (DvQ ts c w):=by
 by_cases h0 : wrong ts = 0
 ·obtain ⟨T,ho,hTf⟩:=nfL_of h0
  subst hTf
  obtain ⟨va,vc,rfl,_⟩:=id hv
  have hn:=nrm_ok (t:=T) ho
  have hnl:=nrm_len (t:=T) ho
  have hl:=(wrong_zero h0).1
  have HN:Hid (Calls Tryz.prog 21 #[.slice va T.flat.length vc] w fun e w'=>NQ T w e w'):=normal_good T ho _ _ w hv hP h0
  have HW:Hid (wrong T.flat=0):=h0
  have HTO:Hid T.ok:=ho
  have HDE:Hid (∀ w1 a cap,Below w.heap.size w w1→NReads w1 (.slice a (nrm T).flat.length cap) (nrm T).flat→(nrm T).flat.length≤cap→Calls Tryz.prog 24 #[.slice a (nrm T).flat.length cap,.int .u8 c] w1 (RuJ (fit c (nrm T)) (drv c (nrm T)) w1.heap.size w1.heap.size w1)):=fun w1 a cap hb hr hcp=>derivative_any c hn.1 hn.2 (by omega) hr hcp (hP.stay hb) (hT.stay hb)
  obtain ⟨K,hK⟩:∃ K,(nrm T).flat.length=K:=⟨_,rfl⟩
  have HK:Hid ((nrm T).flat.length=K):=hK
  rw [hK] at HDE
  clear hv hP hT hn hnl hK ho
  cases hl2 : isLet c with
  | false =>
   have HIL:Hid (isLet c=false):=hl2
   have HLT:Hid (∀ w1,Calls Tryz.prog 23 #[.int .i32 c] w1 fun e w'=>e=.returned (.bool false)∧w'=w1):=fun w1=>by have:=disLetter_any c w1;rw [hl2] at this;exact this
   clear hl2
   go_enter Tryz.func10,Tryz.ntmps10
   go_wp2_with fail
   refine HN.out.mono ?_
   rintro e w1 ⟨u,rfl,hou,hb1⟩
   have HB1:Hid (Below w.heap.size w w1):=hb1
   clear hou hb1
   go_wp2_with fail
   refine (HLT.out _).mono ?_
   rintro e w2 ⟨rfl,rfl⟩
   go_wp2_with fail
   go_ret2
   exact .inr (.inl ⟨HW.out,HIL.out,rfl,HB1.out⟩)
  | true =>
   have HIL:Hid (isLet c=true):=hl2
   have HLT:Hid (∀ w1,Calls Tryz.prog 23 #[.int .i32 c] w1 fun e w'=>e=.returned (.bool true)∧w'=w1):=fun w1=>by have:=disLetter_any c w1;rw [hl2] at this;exact this
   clear hl2
   go_enter Tryz.func10,Tryz.ntmps10
   go_wp2_with fail
   refine HN.out.mono ?_
   rintro e w1 ⟨u,rfl,hou,hb1⟩
   have HB1:Hid (Below w.heap.size w w1):=hb1
   obtain ⟨ua,uc,rfl⟩:=own_one hou
   have HOU:Hid (w1.ownsRow w.heap.size 51 2 (.slice ua (nrm T).flat.length uc) (nrm T).flat.length (ndC (nrm T).flat)):=hou
   clear hou hb1
   rw [HK.out]
   go_wp2_with fail
   refine (HLT.out _).mono ?_
   rintro e w2 ⟨rfl,rfl⟩
   go_wp2_with fail
   refine (HDE.out _ _ _ HB1.out (by have:=own_nreads HOU.out;rw [HK.out] at this;exact this) (by have:=own_cap HOU.out;rw [HK.out] at this;exact this)).mono ?_
   rintro e w3 hq
   obtain ⟨u3,kk,rfl,HQ⟩:=ru_uni hq
   clear hq
   go_wp2_with fail
   go_ret2
   refine .inr (.inr ⟨HW.out,HIL.out,T,HTO.out,rfl,?_⟩)
   rcases HQ.out with ⟨k1,k2,k3⟩ | ⟨k1,u4,k2,k3,k4⟩
   ·exact .inl ⟨k1,k2,go_on HB1.out k3⟩
   ·exact .inr ⟨k1,u4,k2,k3.mono HB1.out.size,go_on HB1.out k4⟩
 ·have HN:Hid (Calls Tryz.prog 21 #[v] w fun e w'=>e=.returned (.tuple #[.slice none 0 0,.int .i64 (wrong ts)])∧Below w.heap.size w w'):=normal_bad v ts w hv hm hP h0
  have HW:Hid (wrong ts≠0):=h0
  obtain ⟨x,hx⟩:∃ x,wrong ts=x:=⟨_,rfl⟩
  have HX:Hid (wrong ts=x):=hx
  rw [hx] at HN h0
  have hxb:(x != 0)=true:=by simpa using h0
  clear hv hP hT h0 hx
  go_enter Tryz.func10,Tryz.ntmps10
  go_wp2_with fail
  refine HN.out.mono ?_
  rintro e w1 ⟨rfl,hb1⟩
  have HB1:Hid (Below w.heap.size w w1):=hb1
  clear hb1
  go_wp2_with fail
  go_ret2
  exact .inl ⟨HW.out,by rw [HX.out];rfl,HB1.out⟩

/-- The tree of the laws' own knows: a*. -/
def tKn:Tr:=.one (8,0) (.zero (3,97))
theorem tKn_ok:tKn.ok:=⟨rfl,rfl,rfl,rfl⟩
theorem tKn_wrong:wrong tKn.flat=0:=ok_wrong tKn_ok (by decide)
theorem tKn_nrm:nrm tKn=tKn:=by
 show RS (.zero (3,97))=tKn
 simp [RS,tKn,tNone,tEmpty,tAny,tAll,Tr.root]
theorem tKn_a:drv 97 tKn=tKn:=by
 rw [tKn,drv,if_pos rfl,drv,if_pos (.inr ⟨rfl,rfl⟩)]
 exact RC_empty_l _
theorem tKn_b:drv 98 tKn=tNone:=by
 rw [tKn,drv,if_pos rfl,drv,if_neg (by decide)]
 exact RC_none_l _
theorem tKn_fa:fit 97 tKn:=⟨trivial,by show (drv 97 tKn).flat.length≤4000;rw [tKn_a];decide⟩
theorem tKn_fb:fit 98 tKn:=⟨trivial,by show (drv 98 tKn).flat.length≤4000;rw [tKn_b];decide⟩
theorem deriv_kn {c:Int} {R:Tr} (hl:isLet c=true) (hf:fit c tKn) (hR:drv c tKn=R) {w w':World} {e:Ending} (h:DvQ tKn.flat c w e w'):∃ u,e=.returned (.tuple #[u,.int .i64 0])∧NO w.heap.size w' u R∧Below w.heap.size w w':=by
 rcases h with ⟨h1,_⟩ | ⟨_,h1,_⟩ | ⟨_,_,T,ho,hT,h1⟩
 ·exact absurd tKn_wrong h1
 ·rw [hl] at h1;cases h1
 ·have e:=flat_inj ho tKn_ok hT
  subst e
  rw [tKn_nrm,hR] at h1
  rcases h1 with ⟨h2,_⟩ | ⟨_,u,h3,h4,h5⟩
  ·exact absurd hf h2
  ·exact ⟨u,h3,h4,h5⟩
set_option maxHeartbeats 1000000 in
theorem num7_any (e0:Int) (w:World):Calls Tryz.prog 12 #[.int .i64 e0] w fun e w'=>e=.returned (.int .i64 e0)∧w'=w:=by
 go_enter Tryz.func12,Tryz.ntmps12
 go_wp2_with fail
 go_ret
 exact ⟨rfl,rfl⟩

set_option maxHeartbeats 4000000 in
set_option maxRecDepth 100000 in
theorem knows7_any (w:World) (hP:PTab w) (hT:TzTab w):Calls Tryz.prog 14 #[] w fun e w'=>e=.returned (.bool true)∧Below w.heap.size w w':=by
 have HP:Hid (PTab w):=hP
 have HT:Hid (TzTab w):=hT
 have hal:Below w.heap.size w (w.alloc (.cells #[.int .i64 3,.int .u8 97,.int .i64 8,.int .u8 0] 51)):=(Below.refl _ _).alloc (Nat.le_refl _) _
 have HAL:Hid _:=hal
 have HNR:Hid (NReads (w.alloc (.cells #[.int .i64 3,.int .u8 97,.int .i64 8,.int .u8 0] 51)) (.slice (some ⟨w.heap.size,0,none⟩) 2 2) tKn.flat):=own_nreads (base:=w.heap.size) (ts:=tKn.flat) ⟨rfl,.inr ⟨w.heap.size,2,_,rfl,Nat.le_refl _,heap_alloc_new w _,Nat.le_refl _,by decide,rfl,rfl⟩⟩
 clear hP hT hal
 go_enter Tryz.func14,Tryz.ntmps14
 go_wp2_with fail
 refine (dDeriv_any _ _ _ 97 (by decide) (by decide) HNR.out (by decide) (HP.out.stay HAL.out) (HT.out.stay HAL.out)).mono ?_
 rintro e w1 hq
 obtain ⟨u1,rfl,hn1,hb1⟩:=deriv_kn rfl tKn_fa tKn_a hq
 have HB1:Hid (Below w.heap.size w w1):=go_on HAL.out hb1
 have HN1:Hid (NReads w1 (.slice (some ⟨w.heap.size,0,none⟩) 2 2) tKn.flat):=HNR.out.stay hb1
 have HU1:Hid (NO w.heap.size w1 u1 tKn):=hn1.mono (by simp)
 clear hq hn1 hb1
 go_wp2_with fail
 refine (dDeriv_any _ _ _ 98 (by decide) (by decide) HN1.out (by decide) (HP.out.stay HB1.out) (HT.out.stay HB1.out)).mono ?_
 rintro e w2 hq
 obtain ⟨u2,rfl,hn2,hb2⟩:=deriv_kn rfl tKn_fb tKn_b hq
 have HB2:Hid (Below w.heap.size w w2):=go_on HB1.out hb2
 have HN2:Hid (NReads w2 (.slice (some ⟨w.heap.size,0,none⟩) 2 2) tKn.flat):=HN1.out.stay hb2
 have HU2:Hid (NReads w2 u1 tKn.flat):=HU1.out.reads.stay hb2
 have hr2:NReads w2 u2 tNone.flat:=hn2.reads
 obtain ⟨a2,c2,rfl,hrd⟩:=hr2
 obtain ⟨g2,o2,e2,hg2,hk2,_⟩:=hrd 0 (by decide)
 subst e2
 have HK2:Hid (∀ w3,Below w2.heap.size w2 w3→w3.cell? ⟨g2,o2,none⟩=some (.int .i64 1)):=fun w3 hb=>by rw [below_cell hb hg2];exact hk2
 clear hq hn2 hb2 hrd hk2
 rw [show tNone.flat.length = 1 from rfl]
 go_wp2_with fail
 refine (num7_any 0 _).mono ?_
 rintro e w3 ⟨rfl,rfl⟩
 go_wp2_with fail
 refine (num7_any 0 _).mono ?_
 rintro e w3 ⟨rfl,rfl⟩
 go_wp2_with fail
 refine (same_any _ _ _ _ _ HU2.out HN2.out (by decide)).mono ?_
 rintro e w3 ⟨rfl,hb3⟩
 rw [decide_eq_true (show tKn.flat = tKn.flat from rfl)]
 have hc3:=HK2.out w3 hb3
 have HB3:Hid (Below w.heap.size w w3):=go_on HB2.out hb3
 clear hb3
 go_wp2_with fail
 go_ret
 exact ⟨rfl,HB3.out⟩
end Go.Proofs.YtfdhaknecjcjoaaGreatDoor
