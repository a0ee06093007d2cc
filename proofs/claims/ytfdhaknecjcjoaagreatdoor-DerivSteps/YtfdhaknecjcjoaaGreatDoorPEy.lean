/- Contract of the document's Step: two parts; every tree. -/
import Derived.Test.YtfdhaknecjcjoaaGreatDoorPEw
import Derived.Test.YtfdhaknecjcjoaaGreatDoorPG
import Derived.Test.YtfdhaknecjcjoaaGreatDoorPGe
import Derived.Deep.RegionHeld3
namespace Go.Proofs.YtfdhaknecjcjoaaGreatDoor
open Go Go.RowKit Go.Lib
set_option linter.unusedVariables false

theorem sj_uni {p:Prop} {R:Tr} {w w':World} {e:Ending} (h:SJ p R w e w'):∃ u b,e=.returned (.tuple #[u,.bool b])∧Hid ((b=false∧¬ p)∨(b=true∧p∧NO w.heap.size w' u R))∧Below w.heap.size w w':=by
 rcases h with ⟨h1,u,rfl,hb⟩ | ⟨h1,u,rfl,h3,hb⟩
 ·exact ⟨u,false,rfl,.inl ⟨rfl,h1⟩,hb⟩
 ·exact ⟨u,true,rfl,.inr ⟨rfl,h1,h3⟩,hb⟩
set_option maxHeartbeats 8000000 in
set_option maxRecDepth 100000 in
theorem concat7_any (c : Int) {A B : Tr} (hoA : A.ok) (hnA : NF A) (hoB : B.ok) (hnB : NF B) (iA : Sc c A) (iB : Sc c B) (a b : Option Addr) (ca cb : Nat) (w : World) (hva : NReads w (.slice a A.flat.length ca) A.flat) (hvb : NReads w (.slice b B.flat.length cb) B.flat) (ka : A.flat.length ≤ ca) (kb : B.flat.length ≤ cb) (hlA : A.flat.length ≤ 4000) (hlB : B.flat.length ≤ 4000) :
  Calls Tryz.prog 47 #[.slice a A.flat.length ca,.slice b B.flat.length cb,.int .u8 c] w (SJ (fit c A∧(RC (drv c A) B).flat.length≤4000∧(nul A=true→fit c B∧(R2 5 (RC (drv c A) B) (drv c B)).flat.length≤4000)) (if nul A=true then R2 5 (RC (drv c A) B) (drv c B) else RC (drv c A) B) w):=by
 have HIA:Hid (Calls Tryz.prog 26 #[.slice a A.flat.length ca,.int .u8 c] w (SJ (fit c A) (drv c A) w)):=iA a ca w hva ka hlA
 have HIB:Hid (∀ w1,Below w.heap.size w w1→Calls Tryz.prog 26 #[.slice b B.flat.length cb,.int .u8 c] w1 (SJ (fit c B) (drv c B) w1)):=fun w1 h=>iB b cb w1 (hvb.stay h) kb hlB
 have hdA:=drv_ok c hoA hnA
 have hdB:=drv_ok c hoB hnB
 have HDA:Hid ((drv c A).ok∧NF (drv c A)):=hdA
 have HDB:Hid ((drv c B).ok∧NF (drv c B)):=hdB
 have HOB:Hid (B.ok∧NF B):=⟨hoB,hnB⟩
 have HVA:Hid (NReads w (.slice a A.flat.length ca) A.flat):=hva
 have HVB:Hid (NReads w (.slice b B.flat.length cb) B.flat):=hvb
 have HKB:Hid (Cap (.slice b B.flat.length cb)):=fun a' n' c' e=>by cases e;exact kb
 have HRO:Hid ((RC (drv c A) B).ok∧NF (RC (drv c A) B)):=RC_ok hdA.1 hdA.2 hoB hnB
 have HRL:Hid ((RC (drv c A) B).flat.length≤(drv c A).flat.length+B.flat.length+1):=RC_len _ _
 have HNU:Hid (∀ w1,Below w.heap.size w w1→Calls Tryz.prog 73 #[.slice a A.flat.length ca] w1 fun e w'=>e=.returned (.tuple #[.bool (nul A),.int .i64 0])∧Below w1.heap.size w1 w'):=fun w1 h=>by
  refine (rNullable6_any (hva.stay h) (by omega)).mono ?_
  rintro e w2 ⟨q,rfl,_,q2,hb⟩
  have hw:=ok_wrong hoA hlA
  have hq:q=nul A:=by rw [Bool.eq_iff_iff,nul_iff];exact q2 hw A hoA rfl
  rw [hw,hq]
  exact ⟨rfl,hb⟩
 obtain ⟨D,hD⟩:∃ D,drv c A=D:=⟨_,rfl⟩
 obtain ⟨E,hE⟩:∃ E,drv c B=E:=⟨_,rfl⟩
 have HFD:Hid (fit c A→D.flat.length≤4000):=fun h=>by rw [← hD];exact fit_len c h
 have HFE:Hid (fit c B→E.flat.length≤4000):=fun h=>by rw [← hE];exact fit_len c h
 rw [hD] at HIA HDA HRO HRL ⊢
 rw [hE] at HIB HDB ⊢
 obtain ⟨X,hX⟩:∃ X,RC D B=X:=⟨_,rfl⟩
 have HX:Hid (RC D B=X):=hX
 rw [hX] at HRO HRL ⊢
 obtain ⟨Y,hY⟩:∃ Y,R2 5 X E=Y:=⟨_,rfl⟩
 have HY:Hid (R2 5 X E=Y):=hY
 have HYL:Hid (Y.flat.length≤X.flat.length+E.flat.length+1):=by rw [← hY];exact R2_len (.inl rfl) HRO.out.1 HRO.out.2 HDB.out.1
 rw [hY]
 have HSE:Hid (∀ (xa:Option Addr) (xc:Nat) (ea:Option Addr) (ec:Nat) (w1:World),NReads w1 (.slice xa X.flat.length xc) X.flat→NReads w1 (.slice ea E.flat.length ec) E.flat→X.flat.length≤xc→E.flat.length≤ec→X.flat.length+E.flat.length≤8990→Calls Tryz.prog 43 #[.int .i64 5,.slice xa X.flat.length xc,.slice ea E.flat.length ec] w1 (Own w1 Y)):=fun xa xc ea ec w1 h1 h2 h3 h4 h5=>by
  have:=several_any 5 (.inl rfl) X E HRO.out.1 HRO.out.2 HDB.out.1 HDB.out.2 xa ea xc ec w1 h1 h2 h3 h4 h5
  rw [HY.out] at this
  exact this
 have HBE:Hid (∀ (vx:Value) (w1:World),Below w.heap.size w w1→NReads w1 vx D.flat→Cap vx→D.flat.length≤4000→Calls Tryz.prog 46 #[vx,.slice b B.flat.length cb] w1 (Own w1 X)):=fun vx w1 h1 h2 h3 h4=>by
  have:=behind_any HDA.out.1 HDA.out.2 B vx _ w1 HOB.out.1 HOB.out.2 h2 (HVB.out.stay h1) h3 HKB.out (by omega)
  rw [HX.out] at this
  exact this
 obtain ⟨N,hN⟩:∃ N,nul A=N:=⟨_,rfl⟩
 rw [hN] at HNU ⊢
 obtain ⟨p,hp⟩:∃ p:Prop,(fit c A∧X.flat.length≤4000∧(N=true→fit c B∧Y.flat.length≤4000))=p:=⟨_,rfl⟩
 obtain ⟨R,hR⟩:∃ R:Tr,(if N=true then Y else X)=R:=⟨_,rfl⟩
 have HPI:Hid (p→fit c A∧X.flat.length≤4000∧(N=true→fit c B∧Y.flat.length≤4000)):=fun h=>by rw [← hp] at h;exact h
 have HPO:Hid (fit c A∧X.flat.length≤4000∧(N=true→fit c B∧Y.flat.length≤4000)→p):=fun h=>by rw [← hp];exact h
 have HRR:Hid ((if N=true then Y else X)=R):=hR
 rw [hp,hR]
 clear hp hR
 clear hva hvb ka kb iA iB hdA hdB hoA hnA hoB hnB hD hE hX hY hN
 go_enter Tryz.func47,Tryz.ntmps47
 go_wp2_with fail
 refine HIA.out.mono ?_
 rintro e w1 hq
 rcases hq with ⟨hnf,u1,rfl,hb1⟩ | ⟨hf,u1,rfl,hn1,hb1⟩
 ·have HNF:Hid (¬ fit c A):=hnf
  have HB1:Hid (Below w.heap.size w w1):=hb1
  clear hnf hb1
  go_wp2_with fail
  go_ret2
  exact .inl ⟨fun h=>HNF.out (HPI.out h).1,_,rfl,HB1.out⟩
 have HFA:Hid (fit c A):=hf
 have HB1:Hid (Below w.heap.size w w1):=hb1
 have hDl:=HFD.out hf
 obtain ⟨ra,rc,rfl⟩:=own_one hn1
 have HR1:Hid (NReads w1 (.slice ra D.flat.length rc) D.flat):=hn1.reads
 have HC1:Hid (Cap (.slice ra D.flat.length rc)):=fun a' n' c' e=>by cases e;exact own_cap hn1
 have hXl:X.flat.length≤9000:=by have:=HRL.out;omega
 have HDL:Hid (D.flat.length≤4000):=hDl
 clear hf hb1 hn1
 go_wp2_with fail
 refine (HBE.out _ _ HB1.out HR1.out HC1.out HDL.out).mono ?_
 rintro e w2 ⟨z,rfl,ho2,hb2⟩
 obtain ⟨za,zc,rfl⟩:=own_one ho2
 have HO2:Hid (NO w.heap.size w2 (.slice za X.flat.length zc) X):=own_mono ho2 HB1.out.size
 have HB2:Hid (Below w.heap.size w w2):=go_on HB1.out hb2
 clear ho2 hb2
 by_cases hz : X.flat.length ≤ 4000
 case neg =>
  have HZ:Hid (¬ X.flat.length≤4000):=hz
  have HFT:Hid (∀ w9,Calls Tryz.prog 44 #[.slice za X.flat.length zc] w9 fun e w'=>e=.returned (.bool false)∧w'=w9):=fun w9=>by have:=rfits7_any za _ zc w9 hXl;rw [decide_eq_false hz] at this;exact this
  clear hz
  go_wp2_with fail
  refine (HFT.out _).mono ?_
  rintro e w4 ⟨rfl,rfl⟩
  go_wp2_with fail
  go_ret2
  exact .inl ⟨fun h=>HZ.out (HPI.out h).2.1,_,rfl,HB2.out⟩
 have HZ:Hid (X.flat.length≤4000):=hz
 have HFT:Hid (∀ w9,Calls Tryz.prog 44 #[.slice za X.flat.length zc] w9 fun e w'=>e=.returned (.bool true)∧w'=w9):=fun w9=>by have:=rfits7_any za _ zc w9 hXl;rw [decide_eq_true hz] at this;exact this
 clear hz
 go_wp2_with fail
 refine (HFT.out _).mono ?_
 rintro e w4 ⟨rfl,rfl⟩
 cases N with
 | false =>
  go_wp2_with fail
  refine (HNU.out _ HB2.out).mono ?_
  rintro e w3 ⟨rfl,hb3⟩
  have HB3:Hid (Below w.heap.size w w3):=go_on HB2.out hb3
  have HO3:Hid (NO w.heap.size w3 (.slice za X.flat.length zc) X):=HO2.out.below hb3
  clear hb3
  go_wp2_with fail
  go_ret2
  exact .inr ⟨HPO.out ⟨HFA.out,HZ.out,fun h=>by cases h⟩,_,rfl,by have:=HRR.out;rw [if_neg (by decide)] at this;rw [← this];exact HO3.out,HB3.out⟩
 | true =>
  go_wp2_with fail
  refine (HNU.out _ HB2.out).mono ?_
  rintro e w3 ⟨rfl,hb3⟩
  have HB3:Hid (Below w.heap.size w w3):=go_on HB2.out hb3
  have HO3:Hid (NO w.heap.size w3 (.slice za X.flat.length zc) X):=HO2.out.below hb3
  clear hb3
  go_wp2_with fail
  refine (HIB.out _ HB3.out).mono ?_
  rintro e w5 hq
  rcases hq with ⟨hnf,u5,rfl,hb5⟩ | ⟨hf,u5,rfl,hn5,hb5⟩
  ·have HNF:Hid (¬ fit c B):=hnf
   have HB5:Hid (Below w.heap.size w w5):=go_on HB3.out hb5
   clear hnf hb5
   go_wp2_with fail
   go_ret2
   exact .inl ⟨fun h=>HNF.out ((HPI.out h).2.2 (by trivial)).1,_,rfl,HB5.out⟩
  have HFB:Hid (fit c B):=hf
  have hEl:=HFE.out hf
  have HB5:Hid (Below w.heap.size w w5):=go_on HB3.out hb5
  have HO5:Hid (NO w.heap.size w5 (.slice za X.flat.length zc) X):=HO3.out.below hb5
  obtain ⟨ea,ec,rfl⟩:=own_one hn5
  have HE5:Hid (NO w3.heap.size w5 (.slice ea E.flat.length ec) E):=hn5
  have hYl:Y.flat.length≤9000:=by have:=HYL.out;have:=HZ.out;omega
  have HXE:Hid (X.flat.length+E.flat.length≤8990):=by show _≤_;have:=HZ.out;omega
  clear hf hb5 hn5
  go_wp2_with fail
  refine (HSE.out _ _ _ _ _ HO5.out.reads HE5.out.reads (own_cap HO5.out) (own_cap HE5.out) HXE.out).mono ?_
  rintro e w6 ⟨y,rfl,ho6,hb6⟩
  obtain ⟨ya,yc,rfl⟩:=own_one ho6
  have HO6:Hid (NO w.heap.size w6 (.slice ya Y.flat.length yc) Y):=own_mono ho6 HB5.out.size
  have HB6:Hid (Below w.heap.size w w6):=go_on HB5.out hb6
  clear ho6 hb6
  by_cases hy : Y.flat.length ≤ 4000
  ·have HYY:Hid (Y.flat.length≤4000):=hy
   have HFY:Hid (∀ w9,Calls Tryz.prog 44 #[.slice ya Y.flat.length yc] w9 fun e w'=>e=.returned (.bool true)∧w'=w9):=fun w9=>by have:=rfits7_any ya _ yc w9 hYl;rw [decide_eq_true hy] at this;exact this
   clear hy
   go_wp2_with fail
   refine (HFY.out _).mono ?_
   rintro e w7 ⟨rfl,rfl⟩
   go_wp2_with fail
   go_ret2
   have h9:Y=R:=by have:=HRR.out;simpa using this
   exact .inr ⟨HPO.out ⟨HFA.out,HZ.out,fun _=>⟨HFB.out,HYY.out⟩⟩,_,rfl,by rw [← h9];exact HO6.out,HB6.out⟩
  ·have HYY:Hid (¬ Y.flat.length≤4000):=hy
   have HFY:Hid (∀ w9,Calls Tryz.prog 44 #[.slice ya Y.flat.length yc] w9 fun e w'=>e=.returned (.bool false)∧w'=w9):=fun w9=>by have:=rfits7_any ya _ yc w9 hYl;rw [decide_eq_false hy] at this;exact this
   clear hy
   go_wp2_with fail
   refine (HFY.out _).mono ?_
   rintro e w7 ⟨rfl,rfl⟩
   go_wp2_with fail
   go_ret2
   exact .inl ⟨fun h=>HYY.out ((HPI.out h).2.2 (by trivial)).2,_,rfl,HB6.out⟩

set_option maxHeartbeats 8000000 in
set_option maxRecDepth 100000 in
theorem step_two5 (c:Int) (A B:Tr) (hT:(Tr.two (5,0) A B).ok) (hN:NF (.two (5,0) A B)) (hnA:NF A) (hnB:NF B) (iA:Sc c A) (iB:Sc c B):Sc c (.two (5,0) A B):=by
 intro a cap w hv hc hl
 have hlen:(Tr.two (5,0) A B).flat.length=A.flat.length+B.flat.length+1:=by simp [Tr.flat];omega
 have hdA:=drv_ok c hT.2.2.1 hnA
 have hdB:=drv_ok c hT.2.2.2 hnB
 have HT:Hid ((Tr.two (5,0) A B).ok):=hT
 have HV:Hid (NReads w (.slice a (Tr.two (5,0) A B).flat.length cap) (Tr.two (5,0) A B).flat):=hv
 have HK:Hid (Cap (.slice a (Tr.two (5,0) A B).flat.length cap)):=fun a' n' c' e=>by cases e;exact hc
 obtain ⟨av,cv,e,hrd⟩:=hv
 obtain ⟨g,o,rfl,hg,c1,c2⟩:=hrd ((Tr.two (5,0) A B).flat.length - 1) (by omega)
 cases e
 rw [uflat_last] at c1 c2
 obtain ⟨m,hm⟩:∃ m,(Tr.two (5,0) A B).flat.length - 1=m:=⟨_,rfl⟩
 rw [hm] at c1 c2
 obtain ⟨N,hN'⟩:∃ N,(Tr.two (5,0) A B).flat.length=N:=⟨_,rfl⟩
 have hmI:(N:Int) - 1=m:=by omega
 have hmN:(m:Int)<N:=by omega
 have HN4:Hid ((Tr.two (5,0) A B).flat.length≤9000):=by show _≤_;omega
 have hA4:A.flat.length≤4000:=by omega
 have hB4:B.flat.length≤4000:=by omega
 have hN4:N≤4000:=by omega
 rw [hN'] at HV HK ⊢
 have hc0:(Tr.two (5,0) A B).root=(5,0):=rfl
 rw [hc0] at c1 c2
 simp only at c1 c2
 have HBA:Hid (Below w.heap.size w (w.alloc (.cells #[.int .i64 5,.int .u8 0] 51))):=(Below.refl _ _).alloc (Nat.le_refl _) _
 have HNA:Hid (NB (w.alloc (.cells #[.int .i64 5,.int .u8 0] 51)) w.heap.size 5 0):=NB.new w 5 0
 have HIA:Hid (∀ a cap w,NReads w (.slice a A.flat.length cap) A.flat→A.flat.length≤cap→Calls Tryz.prog 26 #[.slice a A.flat.length cap,.int .u8 c] w (SJ (fit c A) (drv c A) w)):=fun a c' w h1 h2=>iA a c' w h1 h2 hA4
 have HIB:Hid (∀ a cap w,NReads w (.slice a B.flat.length cap) B.flat→B.flat.length≤cap→Calls Tryz.prog 26 #[.slice a B.flat.length cap,.int .u8 c] w (SJ (fit c B) (drv c B) w)):=fun a c' w h1 h2=>iB a c' w h1 h2 hB4
 have HDA:Hid ((drv c A).ok∧NF (drv c A)):=hdA
 have HDB:Hid ((drv c B).ok∧NF (drv c B)):=hdB
 have e1:drv c (.two (5,0) A B)=R2 5 (drv c A) (drv c B):=by rw [drv,if_neg (by decide)]
 have HF:Hid (fit c (.two (5,0) A B)↔fit c A∧fit c B∧(R2 5 (drv c A) (drv c B)).flat.length≤4000):=by show _↔_;rw [fit,if_neg (by decide),e1]
 have HRL:Hid ((R2 5 (drv c A) (drv c B)).flat.length≤(drv c A).flat.length+(drv c B).flat.length+1):=R2_len (.inl rfl) hdA.1 hdA.2 hdB.1
 rw [e1]
 clear e1
 clear hrd hT hc hl iA iB hlen hm hc0 hN hdA hdB hnA hnB
 go_enter Tryz.func26,Tryz.ntmps26
 go_wp2_with fail
 generalize w.alloc (.cells #[.int .i64 5,.int .u8 0] 51)=wA at HBA HNA ⊢
 refine (cutW_any 0 wA _ (Tr.two (5,0) A B).flat _ (Below.refl _ _) (NL.zero (HV.out.stay HBA.out)) HN4.out (Tr.ok_free _ HT.out) HK.out).mono ?_
 rintro e w1 ⟨u,rfl,hp1,hb1⟩
 rw [cut_flat_two HT.out] at hp1
 obtain ⟨ua,uc,rfl,hpi⟩:=hp1
 obtain ⟨lg,lo,a0,c0,rfl,hlg,hl0,hu0,hk0⟩:=hpi 0 (by simp)
 obtain ⟨lg',lo',a1,c1',e1,hlg',hl1,hu1,hk1⟩:=hpi 1 (by simp)
 cases e1
 rw [Nat.add_zero] at hl0
 simp only [List.getD_cons_zero,List.getD_cons_succ] at hl0 hu0 hk0 hl1 hu1 hk1
 have HU0:Hid (NReads (wNE w1) (.slice a0 A.flat.length c0) A.flat):=(hu0.1.stay hb1).stay (wNE_below w1)
 have HU1:Hid (NReads (wNE w1) (.slice a1 B.flat.length c1') B.flat):=(hu1.1.stay hb1).stay (wNE_below w1)
 have HK0:Hid (A.flat.length≤c0):=hk0
 have HK1:Hid (B.flat.length≤c1'):=hk1
 have HB1:Hid (Below w.heap.size w (wNE w1)):=go_on (go_on HBA.out hb1) (wNE_below w1)
 have HNB:Hid (NB (wNE w1) w.heap.size 5 0):=(HNA.out.keep hb1).keep (wNE_below w1)
 have d0:=HNB.out.fst
 have m0:(wNE w1).cell? ⟨lg,lo,none⟩=some (.slice a0 A.flat.length c0):=by rw [below_cell (wNE_below w1) (by have:=hb1.size;omega)];exact hl0
 have m1:(wNE w1).cell? ⟨lg,lo+1,none⟩=some (.slice a1 B.flat.length c1'):=by rw [below_cell (wNE_below w1) (by have:=hb1.size;omega)];exact hl1
 have HM0:Hid ((wNE w1).cell? ⟨lg,lo,none⟩=some (.slice a0 A.flat.length c0)):=m0
 have HM1:Hid ((wNE w1).cell? ⟨lg,lo+1,none⟩=some (.slice a1 B.flat.length c1')):=m1
 have HLG:Hid (lg<(wNE w1).heap.size):=by show _<_;have:=hb1.size;have:=(wNE_below w1).size;omega
 unfold wNE at d0 m0 m1
 clear hb1 c1 c2 hpi hu0 hk0 hu1 hk1 hl0 hl1
 go_wp2_with fail
 refine (HIA.out _ _ _ HU0.out HK0.out).mono ?_
 rintro e w2 hq2
 have hb2:Below (wNE w1).heap.size (wNE w1) w2:=by rcases hq2 with ⟨_,_,_,h⟩ | ⟨_,_,_,_,h⟩ <;> exact h
 have HU12:Hid (NReads w2 (.slice a1 B.flat.length c1') B.flat):=HU1.out.stay hb2
 have HB2:Hid (Below w.heap.size w w2):=go_on HB1.out hb2
 have HNB2:Hid (NB w2 w.heap.size 5 0):=HNB.out.keep hb2
 have m12:w2.cell? ⟨lg,lo+1,none⟩=some (.slice a1 B.flat.length c1'):=by rw [below_cell hb2 HLG.out];exact HM1.out
 obtain ⟨u2,b2,rfl,HQ2⟩:∃ u2 b2,e=.returned (.tuple #[u2,.bool b2])∧Hid ((b2=false∧¬ fit c A)∨(b2=true∧fit c A∧NO (wNE w1).heap.size w2 u2 (drv c A))):=by
  rcases hq2 with ⟨h1,u2,rfl,_⟩ | ⟨h1,u2,rfl,h3,_⟩
  ·exact ⟨u2,false,rfl,.inl ⟨rfl,h1⟩⟩
  ·exact ⟨u2,true,rfl,.inr ⟨rfl,h1,h3⟩⟩
 clear hq2 hb2 d0 m0 m1
 go_wp2_with fail
 refine (HIB.out _ _ _ HU12.out HK1.out).mono ?_
 rintro e w3 hq3
 have hb3:Below w2.heap.size w2 w3:=by rcases hq3 with ⟨_,_,_,h⟩ | ⟨_,_,_,_,h⟩ <;> exact h
 have HB3:Hid (Below w.heap.size w w3):=go_on HB2.out hb3
 have HNB3:Hid (NB w3 w.heap.size 5 0):=HNB2.out.keep hb3
 have HQ2':Hid ((b2=false∧¬ fit c A)∨(b2=true∧fit c A∧NO (wNE w1).heap.size w3 u2 (drv c A))):=HQ2.out.elim .inl (fun h=>.inr ⟨h.1,h.2.1,h.2.2.below hb3⟩)
 rcases hq3 with ⟨h1,u3,rfl,_⟩ | ⟨h1,u3,rfl,h3,_⟩
 ·have HNF:Hid (¬ fit c B):=h1
  clear h1 hb3 m12 HQ2 HQ2'
  cases b2 <;>
  ·go_wp2_with fail
   go_ret2
   exact .inl ⟨fun h=>HNF.out (HF.out.1 h).2.1,_,rfl,HB3.out⟩
 ·have HFB:Hid (fit c B):=h1
  have HN3:Hid (NO w2.heap.size w3 u3 (drv c B)):=h3
  clear h1 h3 hb3 m12 HQ2
  rcases HQ2'.out with ⟨rfl,hnf⟩ | ⟨rfl,hf,hn2⟩
  ·have HNF:Hid (¬ fit c A):=hnf
   clear hnf HQ2'
   go_wp2_with fail
   go_ret2
   exact .inl ⟨fun h=>HNF.out (HF.out.1 h).1,_,rfl,HB3.out⟩
  ·have HFA:Hid (fit c A):=hf
   have HLA:Hid ((drv c A).flat.length≤4000∧(drv c B).flat.length≤4000):=⟨fit_len c hf,fit_len c HFB.out⟩
   obtain ⟨xa,xc,rfl⟩:=own_one hn2
   obtain ⟨ya,yc,rfl⟩:=own_one HN3.out
   have HX:Hid (NO (wNE w1).heap.size w3 (.slice xa (drv c A).flat.length xc) (drv c A)):=hn2
   have d3:=HNB3.out.fst
   clear hf hn2 HQ2'
   go_wp2_with fail
   refine (several_any 5 (.inl rfl) (drv c A) (drv c B) HDA.out.1 HDA.out.2 HDB.out.1 HDB.out.2 _ _ _ _ _ HX.out.reads HN3.out.reads (own_cap HX.out) (own_cap HN3.out) (by have:=HLA.out;omega)).mono ?_
   rintro e w4 ⟨z,rfl,ho4,hb4⟩
   obtain ⟨za,zc,rfl⟩:=own_one ho4
   have HO4:Hid (NO w.heap.size w4 (.slice za (R2 5 (drv c A) (drv c B)).flat.length zc) (R2 5 (drv c A) (drv c B))):=own_mono ho4 HB3.out.size
   have HB4:Hid (Below w.heap.size w w4):=go_on HB3.out hb4
   have hZ9:(R2 5 (drv c A) (drv c B)).flat.length≤9000:=by have:=HRL.out;have:=HLA.out;omega
   clear ho4 hb4 d3
   by_cases hz : (R2 5 (drv c A) (drv c B)).flat.length ≤ 4000
   ·have HZ:Hid ((R2 5 (drv c A) (drv c B)).flat.length≤4000):=hz
    have HFT:Hid (∀ w9,Calls Tryz.prog 44 #[.slice za (R2 5 (drv c A) (drv c B)).flat.length zc] w9 fun e w'=>e=.returned (.bool true)∧w'=w9):=fun w9=>by have:=rfits7_any za _ zc w9 hZ9;rw [decide_eq_true hz] at this;exact this
    clear hz
    go_wp2_with fail
    refine (HFT.out _).mono ?_
    rintro e w5 ⟨rfl,rfl⟩
    go_wp2_with fail
    go_ret2
    exact .inr ⟨HF.out.2 ⟨HFA.out,HFB.out,HZ.out⟩,_,rfl,HO4.out,HB4.out⟩
   ·have HZ:Hid (¬ (R2 5 (drv c A) (drv c B)).flat.length≤4000):=hz
    have HFT:Hid (∀ w9,Calls Tryz.prog 44 #[.slice za (R2 5 (drv c A) (drv c B)).flat.length zc] w9 fun e w'=>e=.returned (.bool false)∧w'=w9):=fun w9=>by have:=rfits7_any za _ zc w9 hZ9;rw [decide_eq_false hz] at this;exact this
    clear hz
    go_wp2_with fail
    refine (HFT.out _).mono ?_
    rintro e w5 ⟨rfl,rfl⟩
    go_wp2_with fail
    go_ret2
    exact .inl ⟨fun h=>HZ.out (HF.out.1 h).2.2,_,rfl,HB4.out⟩

set_option maxHeartbeats 8000000 in
set_option maxRecDepth 100000 in
theorem step_two6 (c:Int) (A B:Tr) (hT:(Tr.two (6,0) A B).ok) (hN:NF (.two (6,0) A B)) (hnA:NF A) (hnB:NF B) (iA:Sc c A) (iB:Sc c B):Sc c (.two (6,0) A B):=by
 intro a cap w hv hc hl
 have hlen:(Tr.two (6,0) A B).flat.length=A.flat.length+B.flat.length+1:=by simp [Tr.flat];omega
 have hdA:=drv_ok c hT.2.2.1 hnA
 have hdB:=drv_ok c hT.2.2.2 hnB
 have HT:Hid ((Tr.two (6,0) A B).ok):=hT
 have HV:Hid (NReads w (.slice a (Tr.two (6,0) A B).flat.length cap) (Tr.two (6,0) A B).flat):=hv
 have HK:Hid (Cap (.slice a (Tr.two (6,0) A B).flat.length cap)):=fun a' n' c' e=>by cases e;exact hc
 obtain ⟨av,cv,e,hrd⟩:=hv
 obtain ⟨g,o,rfl,hg,c1,c2⟩:=hrd ((Tr.two (6,0) A B).flat.length - 1) (by omega)
 cases e
 rw [uflat_last] at c1 c2
 obtain ⟨m,hm⟩:∃ m,(Tr.two (6,0) A B).flat.length - 1=m:=⟨_,rfl⟩
 rw [hm] at c1 c2
 obtain ⟨N,hN'⟩:∃ N,(Tr.two (6,0) A B).flat.length=N:=⟨_,rfl⟩
 have hmI:(N:Int) - 1=m:=by omega
 have hmN:(m:Int)<N:=by omega
 have HN4:Hid ((Tr.two (6,0) A B).flat.length≤9000):=by show _≤_;omega
 have hA4:A.flat.length≤4000:=by omega
 have hB4:B.flat.length≤4000:=by omega
 have hN4:N≤4000:=by omega
 rw [hN'] at HV HK ⊢
 have hc0:(Tr.two (6,0) A B).root=(6,0):=rfl
 rw [hc0] at c1 c2
 simp only at c1 c2
 have HBA:Hid (Below w.heap.size w (w.alloc (.cells #[.int .i64 6,.int .u8 0] 51))):=(Below.refl _ _).alloc (Nat.le_refl _) _
 have HNA:Hid (NB (w.alloc (.cells #[.int .i64 6,.int .u8 0] 51)) w.heap.size 6 0):=NB.new w 6 0
 have HIA:Hid (∀ a cap w,NReads w (.slice a A.flat.length cap) A.flat→A.flat.length≤cap→Calls Tryz.prog 26 #[.slice a A.flat.length cap,.int .u8 c] w (SJ (fit c A) (drv c A) w)):=fun a c' w h1 h2=>iA a c' w h1 h2 hA4
 have HIB:Hid (∀ a cap w,NReads w (.slice a B.flat.length cap) B.flat→B.flat.length≤cap→Calls Tryz.prog 26 #[.slice a B.flat.length cap,.int .u8 c] w (SJ (fit c B) (drv c B) w)):=fun a c' w h1 h2=>iB a c' w h1 h2 hB4
 have HDA:Hid ((drv c A).ok∧NF (drv c A)):=hdA
 have HDB:Hid ((drv c B).ok∧NF (drv c B)):=hdB
 have e1:drv c (.two (6,0) A B)=R2 6 (drv c A) (drv c B):=by rw [drv,if_neg (by decide)]
 have HF:Hid (fit c (.two (6,0) A B)↔fit c A∧fit c B∧(R2 6 (drv c A) (drv c B)).flat.length≤4000):=by show _↔_;rw [fit,if_neg (by decide),e1]
 have HRL:Hid ((R2 6 (drv c A) (drv c B)).flat.length≤(drv c A).flat.length+(drv c B).flat.length+1):=R2_len (.inr rfl) hdA.1 hdA.2 hdB.1
 rw [e1]
 clear e1
 clear hrd hT hc hl iA iB hlen hm hc0 hN hdA hdB hnA hnB
 go_enter Tryz.func26,Tryz.ntmps26
 go_wp2_with fail
 generalize w.alloc (.cells #[.int .i64 6,.int .u8 0] 51)=wA at HBA HNA ⊢
 refine (cutW_any 0 wA _ (Tr.two (6,0) A B).flat _ (Below.refl _ _) (NL.zero (HV.out.stay HBA.out)) HN4.out (Tr.ok_free _ HT.out) HK.out).mono ?_
 rintro e w1 ⟨u,rfl,hp1,hb1⟩
 rw [cut_flat_two HT.out] at hp1
 obtain ⟨ua,uc,rfl,hpi⟩:=hp1
 obtain ⟨lg,lo,a0,c0,rfl,hlg,hl0,hu0,hk0⟩:=hpi 0 (by simp)
 obtain ⟨lg',lo',a1,c1',e1,hlg',hl1,hu1,hk1⟩:=hpi 1 (by simp)
 cases e1
 rw [Nat.add_zero] at hl0
 simp only [List.getD_cons_zero,List.getD_cons_succ] at hl0 hu0 hk0 hl1 hu1 hk1
 have HU0:Hid (NReads (wNE w1) (.slice a0 A.flat.length c0) A.flat):=(hu0.1.stay hb1).stay (wNE_below w1)
 have HU1:Hid (NReads (wNE w1) (.slice a1 B.flat.length c1') B.flat):=(hu1.1.stay hb1).stay (wNE_below w1)
 have HK0:Hid (A.flat.length≤c0):=hk0
 have HK1:Hid (B.flat.length≤c1'):=hk1
 have HB1:Hid (Below w.heap.size w (wNE w1)):=go_on (go_on HBA.out hb1) (wNE_below w1)
 have HNB:Hid (NB (wNE w1) w.heap.size 6 0):=(HNA.out.keep hb1).keep (wNE_below w1)
 have d0:=HNB.out.fst
 have m0:(wNE w1).cell? ⟨lg,lo,none⟩=some (.slice a0 A.flat.length c0):=by rw [below_cell (wNE_below w1) (by have:=hb1.size;omega)];exact hl0
 have m1:(wNE w1).cell? ⟨lg,lo+1,none⟩=some (.slice a1 B.flat.length c1'):=by rw [below_cell (wNE_below w1) (by have:=hb1.size;omega)];exact hl1
 have HM0:Hid ((wNE w1).cell? ⟨lg,lo,none⟩=some (.slice a0 A.flat.length c0)):=m0
 have HM1:Hid ((wNE w1).cell? ⟨lg,lo+1,none⟩=some (.slice a1 B.flat.length c1')):=m1
 have HLG:Hid (lg<(wNE w1).heap.size):=by show _<_;have:=hb1.size;have:=(wNE_below w1).size;omega
 unfold wNE at d0 m0 m1
 clear hb1 c1 c2 hpi hu0 hk0 hu1 hk1 hl0 hl1
 go_wp2_with fail
 refine (HIA.out _ _ _ HU0.out HK0.out).mono ?_
 rintro e w2 hq2
 have hb2:Below (wNE w1).heap.size (wNE w1) w2:=by rcases hq2 with ⟨_,_,_,h⟩ | ⟨_,_,_,_,h⟩ <;> exact h
 have HU12:Hid (NReads w2 (.slice a1 B.flat.length c1') B.flat):=HU1.out.stay hb2
 have HB2:Hid (Below w.heap.size w w2):=go_on HB1.out hb2
 have HNB2:Hid (NB w2 w.heap.size 6 0):=HNB.out.keep hb2
 have m12:w2.cell? ⟨lg,lo+1,none⟩=some (.slice a1 B.flat.length c1'):=by rw [below_cell hb2 HLG.out];exact HM1.out
 obtain ⟨u2,b2,rfl,HQ2⟩:∃ u2 b2,e=.returned (.tuple #[u2,.bool b2])∧Hid ((b2=false∧¬ fit c A)∨(b2=true∧fit c A∧NO (wNE w1).heap.size w2 u2 (drv c A))):=by
  rcases hq2 with ⟨h1,u2,rfl,_⟩ | ⟨h1,u2,rfl,h3,_⟩
  ·exact ⟨u2,false,rfl,.inl ⟨rfl,h1⟩⟩
  ·exact ⟨u2,true,rfl,.inr ⟨rfl,h1,h3⟩⟩
 clear hq2 hb2 d0 m0 m1
 go_wp2_with fail
 refine (HIB.out _ _ _ HU12.out HK1.out).mono ?_
 rintro e w3 hq3
 have hb3:Below w2.heap.size w2 w3:=by rcases hq3 with ⟨_,_,_,h⟩ | ⟨_,_,_,_,h⟩ <;> exact h
 have HB3:Hid (Below w.heap.size w w3):=go_on HB2.out hb3
 have HNB3:Hid (NB w3 w.heap.size 6 0):=HNB2.out.keep hb3
 have HQ2':Hid ((b2=false∧¬ fit c A)∨(b2=true∧fit c A∧NO (wNE w1).heap.size w3 u2 (drv c A))):=HQ2.out.elim .inl (fun h=>.inr ⟨h.1,h.2.1,h.2.2.below hb3⟩)
 rcases hq3 with ⟨h1,u3,rfl,_⟩ | ⟨h1,u3,rfl,h3,_⟩
 ·have HNF:Hid (¬ fit c B):=h1
  clear h1 hb3 m12 HQ2 HQ2'
  cases b2 <;>
  ·go_wp2_with fail
   go_ret2
   exact .inl ⟨fun h=>HNF.out (HF.out.1 h).2.1,_,rfl,HB3.out⟩
 ·have HFB:Hid (fit c B):=h1
  have HN3:Hid (NO w2.heap.size w3 u3 (drv c B)):=h3
  clear h1 h3 hb3 m12 HQ2
  rcases HQ2'.out with ⟨rfl,hnf⟩ | ⟨rfl,hf,hn2⟩
  ·have HNF:Hid (¬ fit c A):=hnf
   clear hnf HQ2'
   go_wp2_with fail
   go_ret2
   exact .inl ⟨fun h=>HNF.out (HF.out.1 h).1,_,rfl,HB3.out⟩
  ·have HFA:Hid (fit c A):=hf
   have HLA:Hid ((drv c A).flat.length≤4000∧(drv c B).flat.length≤4000):=⟨fit_len c hf,fit_len c HFB.out⟩
   obtain ⟨xa,xc,rfl⟩:=own_one hn2
   obtain ⟨ya,yc,rfl⟩:=own_one HN3.out
   have HX:Hid (NO (wNE w1).heap.size w3 (.slice xa (drv c A).flat.length xc) (drv c A)):=hn2
   have d3:=HNB3.out.fst
   clear hf hn2 HQ2'
   go_wp2_with fail
   refine (several_any 6 (.inr rfl) (drv c A) (drv c B) HDA.out.1 HDA.out.2 HDB.out.1 HDB.out.2 _ _ _ _ _ HX.out.reads HN3.out.reads (own_cap HX.out) (own_cap HN3.out) (by have:=HLA.out;omega)).mono ?_
   rintro e w4 ⟨z,rfl,ho4,hb4⟩
   obtain ⟨za,zc,rfl⟩:=own_one ho4
   have HO4:Hid (NO w.heap.size w4 (.slice za (R2 6 (drv c A) (drv c B)).flat.length zc) (R2 6 (drv c A) (drv c B))):=own_mono ho4 HB3.out.size
   have HB4:Hid (Below w.heap.size w w4):=go_on HB3.out hb4
   have hZ9:(R2 6 (drv c A) (drv c B)).flat.length≤9000:=by have:=HRL.out;have:=HLA.out;omega
   clear ho4 hb4 d3
   by_cases hz : (R2 6 (drv c A) (drv c B)).flat.length ≤ 4000
   ·have HZ:Hid ((R2 6 (drv c A) (drv c B)).flat.length≤4000):=hz
    have HFT:Hid (∀ w9,Calls Tryz.prog 44 #[.slice za (R2 6 (drv c A) (drv c B)).flat.length zc] w9 fun e w'=>e=.returned (.bool true)∧w'=w9):=fun w9=>by have:=rfits7_any za _ zc w9 hZ9;rw [decide_eq_true hz] at this;exact this
    clear hz
    go_wp2_with fail
    refine (HFT.out _).mono ?_
    rintro e w5 ⟨rfl,rfl⟩
    go_wp2_with fail
    go_ret2
    exact .inr ⟨HF.out.2 ⟨HFA.out,HFB.out,HZ.out⟩,_,rfl,HO4.out,HB4.out⟩
   ·have HZ:Hid (¬ (R2 6 (drv c A) (drv c B)).flat.length≤4000):=hz
    have HFT:Hid (∀ w9,Calls Tryz.prog 44 #[.slice za (R2 6 (drv c A) (drv c B)).flat.length zc] w9 fun e w'=>e=.returned (.bool false)∧w'=w9):=fun w9=>by have:=rfits7_any za _ zc w9 hZ9;rw [decide_eq_false hz] at this;exact this
    clear hz
    go_wp2_with fail
    refine (HFT.out _).mono ?_
    rintro e w5 ⟨rfl,rfl⟩
    go_wp2_with fail
    go_ret2
    exact .inl ⟨fun h=>HZ.out (HF.out.1 h).2.2,_,rfl,HB4.out⟩

set_option maxHeartbeats 8000000 in
set_option maxRecDepth 100000 in
theorem step_two7 (c:Int) (A B:Tr) (hT:(Tr.two (7,0) A B).ok) (hN:NF (.two (7,0) A B)) (hnA:NF A) (hnB:NF B) (iA:Sc c A) (iB:Sc c B):Sc c (.two (7,0) A B):=by
 intro a cap w hv hc hl
 have hlen:(Tr.two (7,0) A B).flat.length=A.flat.length+B.flat.length+1:=by simp [Tr.flat];omega
 have hdA:=drv_ok c hT.2.2.1 hnA
 have hdB:=drv_ok c hT.2.2.2 hnB
 have HT:Hid ((Tr.two (7,0) A B).ok):=hT
 have HV:Hid (NReads w (.slice a (Tr.two (7,0) A B).flat.length cap) (Tr.two (7,0) A B).flat):=hv
 have HK:Hid (Cap (.slice a (Tr.two (7,0) A B).flat.length cap)):=fun a' n' c' e=>by cases e;exact hc
 obtain ⟨av,cv,e,hrd⟩:=hv
 obtain ⟨g,o,rfl,hg,c1,c2⟩:=hrd ((Tr.two (7,0) A B).flat.length - 1) (by omega)
 cases e
 rw [uflat_last] at c1 c2
 obtain ⟨m,hm⟩:∃ m,(Tr.two (7,0) A B).flat.length - 1=m:=⟨_,rfl⟩
 rw [hm] at c1 c2
 obtain ⟨N,hN'⟩:∃ N,(Tr.two (7,0) A B).flat.length=N:=⟨_,rfl⟩
 have hmI:(N:Int) - 1=m:=by omega
 have hmN:(m:Int)<N:=by omega
 have HN4:Hid ((Tr.two (7,0) A B).flat.length≤9000):=by show _≤_;omega
 have hA4:A.flat.length≤4000:=by omega
 have hB4:B.flat.length≤4000:=by omega
 have hN4:N≤4000:=by omega
 rw [hN'] at HV HK ⊢
 have hc0:(Tr.two (7,0) A B).root=(7,0):=rfl
 rw [hc0] at c1 c2
 simp only at c1 c2
 have HBA:Hid (Below w.heap.size w (w.alloc (.cells #[.int .i64 7,.int .u8 0] 51))):=(Below.refl _ _).alloc (Nat.le_refl _) _
 have HNA:Hid (NB (w.alloc (.cells #[.int .i64 7,.int .u8 0] 51)) w.heap.size 7 0):=NB.new w 7 0
 have HC:Hid (∀ (a b:Option Addr) (ca cb:Nat) (w:World),NReads w (.slice a A.flat.length ca) A.flat→NReads w (.slice b B.flat.length cb) B.flat→A.flat.length≤ca→B.flat.length≤cb→Calls Tryz.prog 47 #[.slice a A.flat.length ca,.slice b B.flat.length cb,.int .u8 c] w (SJ (fit c (.two (7,0) A B)) (drv c (.two (7,0) A B)) w)):=fun a b ca cb w h1 h2 h3 h4=>by
  have:=concat7_any c hT.2.2.1 hnA hT.2.2.2 hnB iA iB a b ca cb w h1 h2 h3 h4 hA4 hB4
  have e1:drv c (.two (7,0) A B)=if nul A=true then R2 5 (RC (drv c A) B) (drv c B) else RC (drv c A) B:=by rw [drv,if_pos rfl];rfl
  have e2:fit c (.two (7,0) A B)↔(fit c A∧(RC (drv c A) B).flat.length≤4000∧(nul A=true→fit c B∧(R2 5 (RC (drv c A) B) (drv c B)).flat.length≤4000)):=by
   rw [fit,if_pos rfl]
   by_cases hn : nul A = true
   ·rw [e1,if_pos hn]
   ·constructor
    ·exact fun h=>⟨h.1,h.2.1,fun h9=>absurd h9 hn⟩
    ·exact fun h=>⟨h.1,h.2.1,fun h9=>absurd h9 hn⟩
  rw [e1,propext e2]
  exact this
 clear hrd hT hc hl iA iB hlen hm hc0 hN hdA hdB hnA hnB
 go_enter Tryz.func26,Tryz.ntmps26
 go_wp2_with fail
 generalize w.alloc (.cells #[.int .i64 7,.int .u8 0] 51)=wA at HBA HNA ⊢
 refine (cutW_any 0 wA _ (Tr.two (7,0) A B).flat _ (Below.refl _ _) (NL.zero (HV.out.stay HBA.out)) HN4.out (Tr.ok_free _ HT.out) HK.out).mono ?_
 rintro e w1 ⟨u,rfl,hp1,hb1⟩
 rw [cut_flat_two HT.out] at hp1
 obtain ⟨ua,uc,rfl,hpi⟩:=hp1
 obtain ⟨lg,lo,a0,c0,rfl,hlg,hl0,hu0,hk0⟩:=hpi 0 (by simp)
 obtain ⟨lg',lo',a1,c1',e1,hlg',hl1,hu1,hk1⟩:=hpi 1 (by simp)
 cases e1
 rw [Nat.add_zero] at hl0
 simp only [List.getD_cons_zero,List.getD_cons_succ] at hl0 hu0 hk0 hl1 hu1 hk1
 have HU0:Hid (NReads (wNE w1) (.slice a0 A.flat.length c0) A.flat):=(hu0.1.stay hb1).stay (wNE_below w1)
 have HU1:Hid (NReads (wNE w1) (.slice a1 B.flat.length c1') B.flat):=(hu1.1.stay hb1).stay (wNE_below w1)
 have HK0:Hid (A.flat.length≤c0):=hk0
 have HK1:Hid (B.flat.length≤c1'):=hk1
 have HB1:Hid (Below w.heap.size w (wNE w1)):=go_on (go_on HBA.out hb1) (wNE_below w1)
 have HNB:Hid (NB (wNE w1) w.heap.size 7 0):=(HNA.out.keep hb1).keep (wNE_below w1)
 have d0:=HNB.out.fst
 have m0:(wNE w1).cell? ⟨lg,lo,none⟩=some (.slice a0 A.flat.length c0):=by rw [below_cell (wNE_below w1) (by have:=hb1.size;omega)];exact hl0
 have m1:(wNE w1).cell? ⟨lg,lo+1,none⟩=some (.slice a1 B.flat.length c1'):=by rw [below_cell (wNE_below w1) (by have:=hb1.size;omega)];exact hl1
 have HM0:Hid ((wNE w1).cell? ⟨lg,lo,none⟩=some (.slice a0 A.flat.length c0)):=m0
 have HM1:Hid ((wNE w1).cell? ⟨lg,lo+1,none⟩=some (.slice a1 B.flat.length c1')):=m1
 have HLG:Hid (lg<(wNE w1).heap.size):=by show _<_;have:=hb1.size;have:=(wNE_below w1).size;omega
 unfold wNE at d0 m0 m1
 clear hb1 c1 c2 hpi hu0 hk0 hu1 hk1 hl0 hl1
 go_wp2_with fail
 have S0:SQ (wNE w1) w.heap.size 7 lg lo (.slice a0 A.flat.length c0) (.slice a1 B.flat.length c1') (wNE w1).drew:=⟨HNB.out.fst,HM0.out,HM1.out,(Below.refl _ _).drew⟩
 clear d0 m0 m1
 go_region_held3 (fun w'=>SQ (wNE w1) w.heap.size 7 lg lo (.slice a0 A.flat.length c0) (.slice a1 B.flat.length c1') w') (first | exact S0 | assumption | exact sq_step HNB.out.lt HLG.out (by assumption) (by assumption)) (first
  | (go_at_call 47;refine (HC.out _ _ _ _ _ (by exact HU0.out.stay (sq_below (W:=wNE w1) (rb:=w.heap.size) (k:=7) (lg:=lg) (lo:=lo) (u0:=.slice a0 A.flat.length c0) (u1:=.slice a1 B.flat.length c1') (by first | exact S0 | assumption))) (by exact HU1.out.stay (sq_below (W:=wNE w1) (rb:=w.heap.size) (k:=7) (lg:=lg) (lo:=lo) (u0:=.slice a0 A.flat.length c0) (u1:=.slice a1 B.flat.length c1') (by first | exact S0 | assumption))) HK0.out HK1.out).mono ?_;rintro e y2 hq;obtain ⟨u2,b2,rfl,HQ,hb5⟩:=sj_uni hq))
 all_goals (
  have hS:SQ (wNE w1) w.heap.size 7 lg lo (.slice a0 A.flat.length c0) (.slice a1 B.flat.length c1') y2:=by first | assumption | exact sq_step HNB.out.lt HLG.out (by assumption) (by assumption)
  have HB5:Hid (Below w.heap.size w y2):=go_on HB1.out (sq_below hS)
  clear hS
  go_wp2_with fail
  go_ret2
  rcases HQ.out with ⟨rfl,hnf⟩ | ⟨rfl,hf,hn⟩
  ·exact .inl ⟨hnf,_,rfl,HB5.out⟩
  ·exact .inr ⟨hf,_,rfl,hn.mono (by have h1:=HB1.out.size;first | exact h1 | (simp at h1 ⊢;omega)),HB5.out⟩)
end Go.Proofs.YtfdhaknecjcjoaaGreatDoor
