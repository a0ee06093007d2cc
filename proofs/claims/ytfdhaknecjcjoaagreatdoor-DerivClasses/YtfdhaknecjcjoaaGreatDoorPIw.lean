/- Contract of the document's Classes. -/
import Derived.Test.YtfdhaknecjcjoaaGreatDoorPEz
import Derived.Test.YtfdhaknecjcjoaaGreatDoorPK
import Derived.Laws.IdiomStrings
namespace Go.Proofs.YtfdhaknecjcjoaaGreatDoor
open Go Go.RowKit Go.Lib
set_option linter.unusedVariables false

theorem run_letter (i:Nat) (h8:i<8) (W:World):(convert 41 9 (.slice (some ⟨W.heap.size,0,none⟩) 1 1)).run Tryz.prog (W.alloc (.cells #[.int .u8 (97+(i:Int))] 5))=.ok (.string ⟨#[UInt8.ofNat (97+i)]⟩) (W.alloc (.cells #[.int .u8 (97+(i:Int))] 5)):=by
 refine run_convert_bytes_back _ _ _ 5 ⟨W.heap.size,0,none⟩ 1 [UInt8.ofNat (97+i)] Tryz.underlying41 Tryz.underlying5 Tryz.underlying9 ?_
 intro j hj
 have hj0:j=0:=by simp at hj;omega
 subst hj0
 have e:((UInt8.ofNat (97+i)).toNat:Int)=97+(i:Int):=by
  rw [UInt8.toNat_ofNat']
  omega
 show _ = some (Value.int .u8 (((UInt8.ofNat (97 + i)).toNat : Nat) : Int))
 rw [e]
 exact cell_one_new W _ _ 0 _ rfl
theorem flS_snoc (f:List Nat) (i:Nat):flS f ++ ⟨#[UInt8.ofNat (97+i)]⟩=flS (f ++ [i]):=by
 apply ByteArray.ext
 simp [flS]
theorem flS_len (f:List Nat):(flS f).size=f.length:=by
 show (List.toArray _).size = _
 simp

set_option maxHeartbeats 8000000 in
set_option maxRecDepth 100000 in
theorem rClasses_any (a0 : Option Addr) (c0 : Nat) (ts : List Nd) (k : Int) (w : World) (hv : NReads w (.slice a0 ts.length c0) ts) (hm : ts.length ≤ 9223372036854775806) (hcp : ts.length ≤ c0) :
  Calls Tryz.prog 18 #[.int .i64 k,.slice a0 ts.length c0] w (ClQ k ts w):=by
 have HWR:Hid (Calls Tryz.prog 25 #[.slice a0 ts.length c0] w fun e w'=>e=.returned (.int .i64 (wrong ts))∧Below w.heap.size w w'):=rwrong_any _ ts w hv hm
 by_cases hk1 : k < 1
 ·clear hv
  go_enter Tryz.func18,Tryz.ntmps18
  go_wp2_with fail
  go_ret2
  exact .inl ⟨.inl hk1,rfl,Below.refl _ _⟩
 by_cases hk8 : 8 < k
 ·clear hv
  go_enter Tryz.func18,Tryz.ntmps18
  go_wp2_with fail
  go_ret2
  exact .inl ⟨.inr hk8,rfl,Below.refl _ _⟩
 by_cases h0 : wrong ts = 0
 ·obtain ⟨T,ho,hTf⟩:=nfL_of h0
  subst hTf
  have hn:=nrm_ok (t:=T) ho
  have hnl:=nrm_len (t:=T) ho
  have hl:=(wrong_zero h0).1
  have HFO:Hid (∀ w1,Below w.heap.size w w1→Calls Tryz.prog 27 #[.slice a0 T.flat.length c0] w1 (Own w1 (nrm T))):=fun w1 hb=>form_any ho a0 c0 w1 (hv.stay hb) hcp (by omega)
  have HW:Hid (wrong T.flat=0):=h0
  have HTO:Hid T.ok:=ho
  obtain ⟨K,hK⟩:∃ K,(nrm T).flat.length=K:=⟨_,rfl⟩
  have HK:Hid ((nrm T).flat.length=K):=hK
  have HDE:Hid (∀ w1 a cap (c:Int),NReads w1 (.slice a K cap) (nrm T).flat→K≤cap→Calls Tryz.prog 26 #[.slice a K cap,.int .u8 c] w1 (SJ (fit c (nrm T)) (drv c (nrm T)) w1)):=fun w1 a cap c hr hcp=>by
   have:=step_any c hn.1 hn.2 a cap w1 (by rw [hK];exact hr) (by rw [hK];exact hcp) (by omega)
   rw [hK] at this
   exact this
  rw [h0] at HWR
  obtain ⟨kn,rfl⟩:∃ kn:Nat,k=kn:=⟨k.toNat,by omega⟩
  have hkn1:1≤kn:=by omega
  have hkn8:kn≤8:=by omega
  clear hv hn hnl hK ho hl h0 hcp
  go_enter Tryz.func18,Tryz.ntmps18
  go_wp2_with fail
  refine HWR.out.mono ?_
  rintro e w0 ⟨rfl,hb0⟩
  have HB0:Hid (Below w.heap.size w w0):=hb0
  clear hb0
  go_wp2_with fail
  refine (HFO.out _ HB0.out).mono ?_
  rintro e w1 ⟨u,rfl,hou,hb1⟩
  have HB1:Hid (Below w.heap.size w w1):=go_on HB0.out hb1
  obtain ⟨ua,uc,rfl⟩:=own_one hou
  have HOU:Hid (w1.ownsRow w0.heap.size 51 2 (.slice ua (nrm T).flat.length uc) (nrm T).flat.length (ndC (nrm T).flat)):=hou
  clear hou hb1 HFO HWR
  rw [HK.out]
  go_wp2_with fail
  obtain ⟨i0,hi,hz0,hz1,hz2⟩:=info_parts Tryz.info_nodes
  have HI0:Hid (Prt w1.heap.size w1 w1.heap.size (.slice none 0 0) (drs (nrm T) 0)):=⟨[],rfl,World.ownsRow_nil _ _ _ _,fun i x h=>by simp [drs] at h⟩
  go_loopw [8,9,10] (fun xf xo vl wr=>∃ (l:Nat) (f:List Nat) (vf:Value) (S:ByteArray),vf=xf∧xo=.string S∧flS f=S∧vl=.int .i64 l∧l≤kn∧f.length=l∧Prt w1.heap.size wr w1.heap.size vf (drs (nrm T) l)∧Cls (nrm T) f∧(∀ i:Nat,i<l→fit (97+(i:Int)) (nrm T))∧Below w1.heap.size w1 wr) (fun _ _ vl _=>kn - (intOf vl).toNat)
  case atStart=>exact ⟨0,[],_,_,rfl,rfl,rfl,rfl,Nat.zero_le _,rfl,HI0.out,fun i h=>by simp at h,fun i h=>by omega,Below.refl _ _⟩
  case round =>
   obtain ⟨l,f,vf,S,rfl,rfl,hS,rfl,hlk,hfl,hprt,hcls,hfit,hb⟩:=hrel
   have HS:Hid (flS f=S):=hS
   have hSz:S.size=l:=by rw [← hS,flS_len,hfl]
   have HB:Hid (Below w1.heap.size w1 wr):=hb
   have HPRT:Hid (Prt w1.heap.size wr w1.heap.size vf (drs (nrm T) l)):=hprt
   have HCLS:Hid (Cls (nrm T) f):=hcls
   have HFIT:Hid (∀ i:Nat,i<l→fit (97+(i:Int)) (nrm T)):=hfit
   have HFL:Hid (f.length=l):=hfl
   clear hb hprt hcls hfit HI0 hS
   by_cases hlt : l < kn
   ·have hltI:(l:Int)<kn:=by omega
    have hl8:l<8:=by omega
    have HDL:Hid (Calls Tryz.prog 26 #[.slice ua K uc,.int .u8 (97+(l:Int))] wr (SJ (fit (97+(l:Int)) (nrm T)) (drv (97+(l:Int)) (nrm T)) wr)):=HDE.out wr ua uc _ (by have:=(own_nreads HOU.out).stay HB.out;rw [HK.out] at this;exact this) (by have:=own_cap HOU.out;rw [HK.out] at this;exact this)
    go_wp2_with fail
    refine HDL.out.mono ?_
    rintro e w2 hq
    rcases hq with ⟨hnf,u2,rfl,hb2⟩ | ⟨hf,u2,rfl,hn2,hb2⟩
    ·have HNF:Hid (¬ fit (97+(l:Int)) (nrm T)):=hnf
     have HB2:Hid (Below w.heap.size w w2):=HB1.out.trans ((HB.out.trans (hb2.mono HB.out.size)).mono HB1.out.size)
     clear hnf hb2 HDL
     go_wp2_with fail
     go_ret2
     exact .inr (.inr ⟨by omega,by omega,HW.out,T,HTO.out,rfl,.inl ⟨⟨l,hltI,HNF.out⟩,rfl,HB2.out⟩⟩)
    ·have HF:Hid (fit (97+(l:Int)) (nrm T)):=hf
     obtain ⟨da,dc,rfl⟩:=own_one hn2
     obtain ⟨D,hD⟩:∃ D,drv (97+(l:Int)) (nrm T)=D:=⟨_,rfl⟩
     rw [hD] at hn2 ⊢
     have HD:Hid (drv (97+(l:Int)) (nrm T)=D):=hD
     have hDl:D.flat.length≤4000:=by rw [← hD];exact fit_len _ hf
     obtain ⟨M,hM⟩:∃ M,D.flat.length=M:=⟨_,rfl⟩
     have HM:Hid (D.flat.length=M):=hM
     rw [hM] at hDl ⊢
     have HB2:Hid (Below w1.heap.size w1 w2):=HB.out.trans (hb2.mono HB.out.size)
     have HN2:Hid (NO w1.heap.size w2 (.slice da M dc) D):=by rw [hM] at hn2;exact hn2.mono HB.out.size
     have hpx:=HPRT.out.below hb2
     obtain ⟨us,hpu,hrow⟩:=hpx.px
     rw [drs_len] at hrow
     obtain ⟨fa,fc,rfl⟩:=own_one hrow
     have HR2:Hid (w2.ownsRow w1.heap.size 22 1 (.slice fa l fc) l us):=hrow
     have HPU:Hid (PX w1.heap.size w2 us (drs (nrm T) l)):=hpu
     have HSZ:Hid (w1.heap.size≤w2.heap.size):=HB2.out.size
     clear HDL hD hn2 hb2 hpx hpu hrow HPRT HB hf
     have HNX:Hid (∀ O w9 v9,(w2.alloc O).grownBy w9 (Value.slice fa l fc).ownBlock→w9.ownsRow w1.heap.size 22 1 v9 (l+1) (us ++ [.slice da M dc])→NO w1.heap.size w9 (.slice da M dc) D∧Prt w1.heap.size w9 w1.heap.size v9 (drs (nrm T) (l+1))∧Below w1.heap.size w1 w9):=fun O w9 v9 hg9 ho9=>by
      have hr:=HR2.out
      have hr3:=hr.alloc O
      have hn9:NO w1.heap.size w9 (.slice da M dc) D:=own_apart2 (World.ownsRow.alloc HN2.out _) hg9 hr3 (by decide)
      refine ⟨hn9,?_,?_⟩
      ·rw [drs_succ,HD.out]
       refine prt_of ((HPU.out.map fun u x hn=>own_apart2 (World.ownsRow.alloc hn _) hg9 hr3 (by decide)).append (PX.single hn9 (by rw [HM.out];exact hDl))) ?_
       rw [List.length_append,drs_len]
       exact ho9
      ·exact (HB2.out.alloc HB2.out.size _).grown hg9 (by have:=HSZ.out;simp;omega) (fun g hg=>(hr.lt g hg).1)
     go_wp2_with (at_builtin;refine wpList_append_own _ rfl _ _ 56 rfl w1.heap.size 22 i0 (.slice none 0 0) 1 24 Tryz.underlying56 hi hz0 hz1 hz2 rfl (by decide) _ _ _ rfl (HR2.out.alloc _) ⟨w2.heap.size,0,none⟩ 1 1 [.slice da M dc] rfl rfl (cell_one_new _ _ _) (by simp [Value.oneCell']) (by unfold maxLen;omega) (by omega) (by have:=HSZ.out;simp;omega) ?_;intro v9 w9 ho9 hg9 _;obtain ⟨hn9,hp9,hb9⟩:=HNX.out _ w9 v9 hg9 ho9;obtain ⟨g9,c9,rfl⟩:=ownsRow_succ ho9;have HN9:Hid (NO w1.heap.size w9 (.slice da M dc) D):=hn9;have HP9:Hid (Prt w1.heap.size w9 w1.heap.size (.slice (some ⟨g9,0,none⟩) (l+1) c9) (drs (nrm T) (l+1))):=hp9;have HB9:Hid (Below w1.heap.size w1 w9):=hb9;clear hn9 hp9 hb9 ho9 hg9)
     have HCM:Hid (∀ w4 (i:Nat),Below w9.heap.size w9 w4→i≤l→∃ u,w4.cell? ⟨g9,i,none⟩=some u∧Calls Tryz.prog 31 #[u,.slice da M dc] w4 fun e w'=>e=.returned (.bool (decide ((drv (97+(i:Int)) (nrm T)).flat=D.flat)))∧Below w4.heap.size w4 w'):=fun w4 i hb4 hil=>by
      obtain ⟨us9,hp9,hr9⟩:=HP9.out.px
      rw [drs_len] at hr9
      obtain ⟨u,h1,h2,h3⟩:=hp9.at_ i (drv (97+(i:Int)) (nrm T)) (by have:=drs_at (nrm T) (l+1) i (by omega);rw [List.getD_eq_getElem?_getD,List.getElem?_eq_getElem (by rw [drs_len];omega)] at this;rw [List.getElem?_eq_getElem (by rw [drs_len];omega)];exact congrArg some this)
      have hc:=hr9.cells (g:=g9) rfl i u h1
      rw [Addr.add_lit,Nat.zero_add] at hc
      exact ⟨u,by rw [below_cell hb4 (hr9.lt g9 rfl).2];exact hc,rsame_any u _ _ D.flat w4 (h2.reads.stay hb4) (HN9.out.reads.stay hb4) (by omega)⟩
     go_loopw [13] (fun vi wi=>∃ i:Nat,vi=.int .i64 i∧i≤l∧(∀ j:Nat,j<i→(drv (97+(j:Int)) (nrm T)).flat≠D.flat)∧Below w9.heap.size w9 wi) (fun vi _=>l+1 - (intOf vi).toNat)
     case atStart=>exact ⟨0,rfl,Nat.zero_le _,fun j hj=>by omega,Below.refl _ _⟩
     case round =>
      obtain ⟨i,rfl,hil,hd,hbi⟩:=hrel
      have HDF:Hid (∀ j:Nat,j<i→(drv (97+(j:Int)) (nrm T)).flat≠D.flat):=hd
      obtain ⟨u,hcell,hcall⟩:=HCM.out _ i hbi hil
      have HBI:Hid (Below w9.heap.size w9 wr):=hbi
      have hilI:(i:Int)<(l:Int)+1:=by omega
      clear hd hbi
      by_cases hx : (drv (97 + (i : Int)) (nrm T)).flat = D.flat
      ·rw [decide_eq_true hx] at hcall
       have HXE:Hid ((drv (97+(i:Int)) (nrm T)).flat=D.flat):=hx
       have HCALL:Hid (Calls Tryz.prog 31 #[u,.slice da M dc] wr fun e w'=>e=.returned (.bool true)∧Below wr.heap.size wr w'):=hcall
       clear hcall hx
       go_wp2_with fail
       refine HCALL.out.mono ?_
       rintro e w5 ⟨rfl,hb5⟩
       have hb59:Below w9.heap.size w9 w5:=go_on HBI.out hb5
       have HP5:Hid (Prt w1.heap.size w5 w1.heap.size (.slice (some ⟨g9,0,none⟩) (l+1) c9) (drs (nrm T) (l+1))):=HP9.out.below hb59
       have HB5:Hid (Below w1.heap.size w1 w5):=HB9.out.trans (hb59.mono HB9.out.size)
       have hi8:i<8:=by omega
       have hrl:=run_letter i hi8 w5
       have hsn:=flS_snoc f i
       rw [HS.out] at hsn
       have HSN:Hid (S ++ ⟨#[UInt8.ofNat (97+i)]⟩=flS (f ++ [i])):=hsn
       obtain ⟨L,hL⟩:∃ L:ByteArray,L=⟨#[UInt8.ofNat (97+i)]⟩:=⟨_,rfl⟩
       rw [← hL] at hrl HSN
       have hL1:L.size=1:=by rw [hL];rfl
       clear hb5 hb59 hsn hL HCALL
       go_wp2_with fail
       go_roundw
       case rel =>
        refine ⟨l+1,f ++ [i],_,_,rfl,rfl,HSN.out.symm,by go_num,hlt,by simp [HFL.out],HP5.out.below ((Below.refl _ _).alloc (Nat.le_refl _) _),HCLS.out.snoc (by rw [HFL.out];omega) (by rw [HFL.out,HD.out];exact HXE.out) (fun j hj=>by rw [HFL.out,HD.out];exact HDF.out j hj),fun j hj=>?_,HB5.out.alloc HB5.out.size _⟩
        by_cases c : j = l
        ·rw [c];exact HF.out
        ·exact HFIT.out j (by omega)
       case measure=>simp [intOf];omega
      ·rw [decide_eq_false hx] at hcall
       have HXE:Hid (¬ (drv (97+(i:Int)) (nrm T)).flat=D.flat):=hx
       have hnl:i≠l:=fun e=>hx (by rw [e,HD.out])
       have HCALL:Hid (Calls Tryz.prog 31 #[u,.slice da M dc] wr fun e w'=>e=.returned (.bool false)∧Below wr.heap.size wr w'):=hcall
       clear hcall hx
       go_wp2_with fail
       refine HCALL.out.mono ?_
       rintro e w5 ⟨rfl,hb5⟩
       have HB5:Hid (Below w9.heap.size w9 w5):=go_on HBI.out hb5
       clear hb5 HCALL
       go_wp2_with fail
       go_roundw
       case rel =>
        refine ⟨i+1,by go_num,by omega,fun j hj=>?_,HB5.out⟩
        by_cases c : j = i
        ·rw [c];exact HXE.out
        ·exact HDF.out j (by omega)
       case measure=>simp [intOf];omega
   ·have hltI:¬ (l:Int)<kn:=by omega
    have e:l=kn:=by omega
    subst e
    have HBE:Hid (Below w.heap.size w wr):=HB1.out.trans (HB.out.mono HB1.out.size)
    go_wp2_with fail
    go_ret2
    exact .inr (.inr ⟨by omega,by omega,HW.out,T,HTO.out,rfl,.inr ⟨f,by rw [HFL.out],fun i hi=>HFIT.out i (by omega),HCLS.out,by rw [HS.out];rfl,HBE.out⟩⟩)
 ·have HW:Hid (wrong ts≠0):=h0
  obtain ⟨x,hx⟩:∃ x,wrong ts=x:=⟨_,rfl⟩
  have HX:Hid (wrong ts=x):=hx
  rw [hx] at HWR h0
  have hxb:(x != 0)=true:=by simpa using h0
  clear hv h0 hx
  go_enter Tryz.func18,Tryz.ntmps18
  go_wp2_with fail
  refine HWR.out.mono ?_
  rintro e w1 ⟨rfl,hb1⟩
  have HB1:Hid (Below w.heap.size w w1):=hb1
  clear hb1
  go_wp2_with fail
  go_ret2
  exact .inr (.inl ⟨by omega,by omega,HW.out,by rw [HX.out];rfl,HB1.out⟩)
end Go.Proofs.YtfdhaknecjcjoaaGreatDoor
