/- Eu Ev, in one text. -/
import Derived.Test.YtfdhaknecjcjoaaGreatDoorPS
import Derived.Maps.AppendAt
import Derived.Laws.RangeAny
namespace Go.Proofs.YtfdhaknecjcjoaaGreatDoor
open Go Go.RowKit Go.Lib
set_option linter.unusedVariables false

set_option maxHeartbeats 1000000 in
set_option maxRecDepth 100000 in
theorem classes1_any {w : World} {b : Nat} {u d : Value} {x D : List Nd} (hb : Boxed w b 22 d) (hu : NReads w u x) (hd : NReads w d D) (hl : x.length ≤ 4000) :
  Calls Tryz.prog 29 #[u,.pointer (some ⟨b,0,none⟩)] w fun e w'=>e=.returned (.bool (decide (x=D)))∧Below w.heap.size w w':=by
 have hcell:=hb.cell
 have HE:Hid (Calls Tryz.prog 30 #[u,d] w fun e w'=>e=.returned (.bool (decide (x=D)))∧Below w.heap.size w w'):=sequal_any _ _ _ _ w hu hd (by omega)
 obtain ⟨da,dc,rfl,_⟩:=hd
 clear hu hb
 go_enter Tryz.func29,Tryz.ntmps29
 go_wp2_with fail
 refine HE.out.mono ?_
 rintro e w1 ⟨rfl,hb1⟩
 have HB1:Hid _:=hb1
 clear hb1
 go_wp2_with fail
 go_ret
 exact ⟨rfl,HB1.out⟩

/-- The first place of a list at which a tree stands. -/
def IxQ (L:List Tr) (D:Tr) (w:World) (e:Ending) (w':World):Prop:=∃ i:Nat,e=.returned (.int .i64 i)∧i<L.length∧(L.getD i tNone).flat=D.flat∧(∀ j,j<i→(L.getD j tNone).flat≠D.flat)∧Below w.heap.size w w'
def fCls (b:Nat):Value:=.func (.func 29) #[] #[.pointer (some ⟨b,0,none⟩)]

set_option maxHeartbeats 4000000 in
set_option maxRecDepth 100000 in
theorem indexFunc_any {lo base b:Nat} {w:World} {v d:Value} {L:List Tr} {D:Tr} (hv:Prt lo w base v L) (hL:L.length≤8) (hb:Boxed w b 22 d) (hd:NReads w d D.flat) (hm:∃ i,i<L.length∧(L.getD i tNone).flat=D.flat) :
  Calls Tryz.prog 28 #[v,fCls b] w (IxQ L D w):=by
 obtain ⟨us,hul,hrow,hus⟩:=hv
 obtain ⟨va,vc,rfl⟩:=own_one hrow
 have HC:Hid (∀ w1 i,Below w.heap.size w w1→i<L.length→∃ g u,va=some ⟨g,0,none⟩∧w1.cell? ⟨g,i,none⟩=some u∧Calls Tryz.prog 29 #[u,.pointer (some ⟨b,0,none⟩)] w1 fun e w'=>e=.returned (.bool (decide ((L.getD i tNone).flat=D.flat)))∧Below w1.heap.size w1 w'):=by
  intro w1 i hb1 hi
  obtain ⟨u,h1,h2,h3⟩:=hus i (L.getD i tNone) (by rw [List.getD_eq_getElem?_getD,List.getElem?_eq_getElem hi];rfl)
  rcases hrow.2 with ⟨_,h0⟩ | ⟨g,cap,cur,e,_,hg,_⟩
  ·omega
  ·simp only [Value.slice.injEq] at e
   obtain ⟨rfl,_⟩:=e
   have hc:=hrow.cells (g:=g) rfl i u h1
   rw [Addr.add_lit,Nat.zero_add] at hc
   exact ⟨g,u,rfl,by rw [below_cell hb1 (Array.getElem?_eq_some_iff.1 hg).1];exact hc,classes1_any (boxed_below hb hb1 hb.lt) (h2.reads.stay hb1) (hd.stay hb1) h3⟩
 have HM:Hid (∃ i,i<L.length∧(L.getD i tNone).flat=D.flat):=hm
 clear hus hrow hul hm hd hb
 obtain ⟨n,hn⟩:∃ n,L.length=n:=⟨_,rfl⟩
 unfold fCls
 have HN:Hid (L.length=n):=hn
 rw [hn] at hL HC
 rw [hn]
 clear hn
 go_enter Tryz.func28,Tryz.ntmps28
 go_wp2_with fail
 go_loopw [8] (fun vi wr=>∃ (i:Nat),vi=.int .i64 i∧i≤n∧(∀ t,t<i→(L.getD t tNone).flat≠D.flat)∧Below w.heap.size w wr) (fun vi _=>n - (intOf vi).toNat)
 case atStart=>exact ⟨0,rfl,Nat.zero_le _,fun t ht=>by omega,Below.refl _ _⟩
 case round =>
  obtain ⟨i,rfl,hin,h1,hb⟩:=hrel
  have HB:Hid (Below w.heap.size w wr):=hb
  have H1:Hid (∀ t,t<i→(L.getD t tNone).flat≠D.flat):=h1
  clear h1 hb
  have hlt:i<n:=by
   obtain ⟨j,hj,he⟩:=HM.out
   rw [HN.out] at hj
   by_cases c : j < i
   ·exact absurd he (H1.out j c)
   ·omega
  have hltI:(i:Int)<n:=by omega
  obtain ⟨g,u,e,hcell,hcall⟩:=HC.out wr i HB.out hlt
  subst e
  by_cases hx : (L.getD i tNone).flat = D.flat
  ·rw [decide_eq_true hx] at hcall
   have HX:Hid ((L.getD i tNone).flat=D.flat):=hx
   have HCALL:Hid (Calls Tryz.prog 29 #[u,.pointer (some ⟨b,0,none⟩)] wr fun e w'=>e=.returned (.bool true)∧Below wr.heap.size wr w'):=hcall
   clear hcall hx
   go_wp2_with fail
   refine HCALL.out.mono ?_
   rintro e w2 ⟨rfl,hb2⟩
   have HB2:Hid (Below w.heap.size w w2):=go_on HB.out hb2
   clear hb2 HCALL
   go_wp2_with fail
   go_ret
   unfold IxQ
   refine ⟨i,?_,by rw [HN.out];exact hlt,HX.out,H1.out,HB2.out⟩
   rfl
  ·rw [decide_eq_false hx] at hcall
   have HX:Hid (¬ (L.getD i tNone).flat=D.flat):=hx
   have HCALL:Hid (Calls Tryz.prog 29 #[u,.pointer (some ⟨b,0,none⟩)] wr fun e w'=>e=.returned (.bool false)∧Below wr.heap.size wr w'):=hcall
   clear hcall hx
   go_wp2_with fail
   refine HCALL.out.mono ?_
   rintro e w2 ⟨rfl,hb2⟩
   have HB2:Hid (Below w.heap.size w w2):=go_on HB.out hb2
   clear hb2 HCALL
   go_wp2_with fail
   go_roundw
   case rel =>
    refine ⟨i+1,by go_num,by omega,fun t ht=>?_,HB2.out⟩
    by_cases c : t = i
    ·rw [c];exact HX.out
    ·exact H1.out t (by omega)
   case measure=>simp [intOf];omega
end Go.Proofs.YtfdhaknecjcjoaaGreatDoor

namespace Go.Proofs.YtfdhaknecjcjoaaGreatDoor
open Go Go.RowKit Go.Lib
set_option linter.unusedVariables false

theorem Tryz.info_u8:(Tryz.prog.info? 5).map (fun i=>(i.zero,i.size,i.bytes))=some (some (.int .u8 0),1,1):=by kernel_rfl
/-- The letters of a list of places, as cells and as a text. -/
def flC (f:List Nat):List Value:=f.map fun (i:Nat)=>Value.int .u8 (97+(i:Int))
def flS (f:List Nat):ByteArray:=⟨(f.map fun i=>UInt8.ofNat (97+i)).toArray⟩
theorem flC_snoc (f:List Nat) (i:Nat):flC (f ++ [i])=flC f ++ [.int .u8 (97+(i:Int))]:=by simp [flC]
theorem run_string_fl (base:Nat) (v:Value) (f:List Nat) (w:World) (h8:∀ i ∈ f,i<8) (h:w.ownsRow base 5 1 v f.length (flC f)) (h0:f≠[]) :
  (convert 41 9 v).run Tryz.prog w=.ok (.string (flS f)) w:=by
 rcases h.2 with ⟨_,hn⟩ | ⟨g,cap,cur,rfl,_⟩
 ·exact absurd (List.eq_nil_of_length_eq_zero hn) h0
 ·have h1:=run_convert_bytes_back (P:=Tryz.prog) w 41 9 5 ⟨g,0,none⟩ cap (f.map fun i=>UInt8.ofNat (97+i)) Tryz.underlying41 Tryz.underlying5 Tryz.underlying9 (fun j hj=>by
   have hj':j<f.length:=by simpa using hj
   have hc:=h.cells (g:=g) rfl j (.int .u8 (97+((f[j]'hj':Nat):Int))) (by simp [flC,hj'])
   rw [hc]
   have h9:=h8 _ (List.getElem_mem hj')
   simp only [List.getElem_map]
   congr 2
   rw [UInt8.toNat_ofNat']
   omega)
  rw [List.length_map] at h1
  exact h1
/-- Places that name, for each letter, the first one with the same derivative. -/
def Cls (n:Tr) (f:List Nat):Prop:=∀ i,i<f.length→f.getD i 0≤i∧(drv (97+((f.getD i 0:Nat):Int)) n).flat=(drv (97+(i:Int)) n).flat∧∀ j:Nat,j<f.getD i 0→(drv (97+(j:Int)) n).flat≠(drv (97+(i:Int)) n).flat
/-- The derivatives by the first letters. -/
noncomputable def drs (n:Tr) (l:Nat):List Tr:=(List.range l).map fun (i:Nat)=>drv (97+(i:Int)) n
theorem drs_len (n:Tr) (l:Nat):(drs n l).length=l:=by simp [drs]
theorem drs_succ (n:Tr) (l:Nat):drs n (l+1)=drs n l ++ [drv (97+(l:Int)) n]:=by simp [drs,List.range_succ]
theorem drs_at (n:Tr) (l i:Nat) (h:i<l):(drs n l).getD i tNone=drv (97+(i:Int)) n:=by simp [drs,h]
theorem Cls.snoc {n:Tr} {f:List Nat} (h:Cls n f) {i:Nat} (hi:i≤f.length) (he:(drv (97+(i:Int)) n).flat=(drv (97+(f.length:Int)) n).flat) (hf:∀ j:Nat,j<i→(drv (97+(j:Int)) n).flat≠(drv (97+(f.length:Int)) n).flat):Cls n (f ++ [i]):=by
 intro t ht
 by_cases c : t < f.length
 ·have e1:(f ++ [i]).getD t 0=f.getD t 0:=by rw [List.getD_eq_getElem?_getD,List.getD_eq_getElem?_getD,List.getElem?_append_left c]
  rw [e1]
  exact h t c
 ·have e:t=f.length:=by simp at ht;omega
  subst e
  have e2:(f ++ [i]).getD f.length 0=i:=by simp
  rw [e2]
  exact ⟨hi,he,hf⟩
theorem Cls.lt {n:Tr} {f:List Nat} (h:Cls n f) (h8:f.length≤8):∀ i ∈ f,i<8:=by
 intro i hi
 obtain ⟨j,hj,rfl⟩:=List.mem_iff_getElem.1 hi
 have:=(h j hj).1
 rw [List.getD_eq_getElem?_getD,List.getElem?_eq_getElem hj] at this
 have h2:f[j]≤j:=this
 omega
/-- What Classes answers. -/
def ClQ (k : Int) (ts : List Nd) (w : World) (e : Ending) (w' : World) : Prop :=
 ((k<1∨8<k)∧e=.returned (.tuple #[.string ⟨#[]⟩,.int .i64 20])∧Below w.heap.size w w') ∨
 (1≤k∧k≤8∧wrong ts≠0∧e=.returned (.tuple #[.string ⟨#[]⟩,.int .i64 (wrong ts)])∧Below w.heap.size w w') ∨
 (1≤k∧k≤8∧wrong ts=0∧∃ T:Tr,T.ok∧T.flat=ts ∧
  ((∃ i:Nat,(i:Int)<k∧¬ fit (97+(i:Int)) (nrm T))∧e=.returned (.tuple #[.string ⟨#[]⟩,.int .i64 6])∧Below w.heap.size w w' ∨
  ∃ f:List Nat,(f.length:Int)=k∧(∀ i:Nat,(i:Int)<k→fit (97+(i:Int)) (nrm T))∧Cls (nrm T) f∧e=.returned (.tuple #[.string (flS f),.int .i64 0])∧Below w.heap.size w w'))

set_option maxHeartbeats 8000000 in
set_option maxRecDepth 100000 in
theorem dClasses_any (v : Value) (ts : List Nd) (k : Int) (w : World) (hv : NReads w v ts) (hm : ts.length ≤ 9223372036854775806) (hP : PTab w) (hT : TzTab w) :
  Calls Tryz.prog 17 #[.int .i64 k,v] w (ClQ k ts w):=by
 by_cases hk1 : k < 1
 ·clear hv hP hT
  go_enter Tryz.func17,Tryz.ntmps17
  go_wp2_with fail
  go_ret2
  exact .inl ⟨.inl hk1,rfl,Below.refl _ _⟩
 by_cases hk8 : 8 < k
 ·clear hv hP hT
  go_enter Tryz.func17,Tryz.ntmps17
  go_wp2_with fail
  go_ret2
  exact .inl ⟨.inr hk8,rfl,Below.refl _ _⟩
 by_cases h0 : wrong ts = 0
 ·obtain ⟨T,ho,hTf⟩:=nfL_of h0
  subst hTf
  obtain ⟨va,vc,rfl,_⟩:=id hv
  have hn:=nrm_ok (t:=T) ho
  have hnl:=nrm_len (t:=T) ho
  have hl:=(wrong_zero h0).1
  have HN:Hid (Calls Tryz.prog 21 #[.slice va T.flat.length vc] w fun e w'=>NQ T w e w'):=normal_good T ho _ _ w hv hP h0
  have HW:Hid (wrong T.flat=0):=h0
  have HTO:Hid T.ok:=ho
  obtain ⟨K,hK⟩:∃ K,(nrm T).flat.length=K:=⟨_,rfl⟩
  have HK:Hid ((nrm T).flat.length=K):=hK
  have HDE:Hid (∀ w1 a cap (c:Int),Below w.heap.size w w1→NReads w1 (.slice a K cap) (nrm T).flat→K≤cap→Calls Tryz.prog 24 #[.slice a K cap,.int .u8 c] w1 (RuJ (fit c (nrm T)) (drv c (nrm T)) w1.heap.size w1.heap.size w1)):=fun w1 a cap c hb hr hcp=>by
   have:=derivative_any c hn.1 hn.2 (by omega) (a:=a) (cap:=cap) (w:=w1) (by rw [hK];exact hr) (by rw [hK];exact hcp) (hP.stay hb) (hT.stay hb)
   rw [hK] at this
   exact this
  obtain ⟨kn,rfl⟩:∃ kn:Nat,k=kn:=⟨k.toNat,by omega⟩
  have hkn1:1≤kn:=by omega
  have hkn8:kn≤8:=by omega
  clear hv hP hT hn hnl hK ho hl h0
  go_enter Tryz.func17,Tryz.ntmps17
  go_wp2_with fail
  refine HN.out.mono ?_
  rintro e w1 ⟨u,rfl,hou,hb1⟩
  have HB1:Hid (Below w.heap.size w w1):=hb1
  obtain ⟨ua,uc,rfl⟩:=own_one hou
  have HOU:Hid (w1.ownsRow w.heap.size 51 2 (.slice ua (nrm T).flat.length uc) (nrm T).flat.length (ndC (nrm T).flat)):=hou
  clear hou hb1 HN
  rw [HK.out]
  go_wp2_with fail
  obtain ⟨i0,hi,hz0,hz1,hz2⟩:=info_parts Tryz.info_nodes
  obtain ⟨i1,hj,hy0,hy1,hy2⟩:=info_parts Tryz.info_u8
  have HI0:Hid (Prt w1.heap.size w1 w1.heap.size (.slice none 0 0) (drs (nrm T) 0)):=⟨[],rfl,World.ownsRow_nil _ _ _ _,fun i x h=>by simp [drs] at h⟩
  go_loopw [8,9,29] (fun xo xf vl wr=>∃ (l:Nat) (f:List Nat) (vo vf:Value),vo=xo∧vf=xf∧vl=.int .i64 l∧l≤kn∧f.length=l∧wr.ownsRow w1.heap.size 5 1 vo l (flC f)∧Prt w1.heap.size wr w1.heap.size vf (drs (nrm T) l)∧Cls (nrm T) f∧(∀ i:Nat,i<l→fit (97+(i:Int)) (nrm T))∧Below w1.heap.size w1 wr) (fun _ _ vl _=>kn - (intOf vl).toNat)
  case atStart=>exact ⟨0,[],_,_,rfl,rfl,rfl,Nat.zero_le _,rfl,World.ownsRow_nil _ _ _ _,HI0.out,fun i h=>by simp at h,fun i h=>by omega,Below.refl _ _⟩
  case round =>
   obtain ⟨l,f,vo,vf,rfl,rfl,rfl,hlk,hfl,hown,hprt,hcls,hfit,hb⟩:=hrel
   have HB:Hid (Below w1.heap.size w1 wr):=hb
   have HOWN:Hid (wr.ownsRow w1.heap.size 5 1 vo l (flC f)):=hown
   have HPRT:Hid (Prt w1.heap.size wr w1.heap.size vf (drs (nrm T) l)):=hprt
   have HCLS:Hid (Cls (nrm T) f):=hcls
   have HFIT:Hid (∀ i:Nat,i<l→fit (97+(i:Int)) (nrm T)):=hfit
   have HFL:Hid (f.length=l):=hfl
   clear hb hown hprt hcls hfit HI0
   by_cases hlt : l < kn
   ·have hltI:(l:Int)<kn:=by omega
    have hl8:l<8:=by omega
    have HDL:Hid (Calls Tryz.prog 24 #[.slice ua K uc,.int .u8 (97+(l:Int))] wr (RuJ (fit (97+(l:Int)) (nrm T)) (drv (97+(l:Int)) (nrm T)) wr.heap.size wr.heap.size wr)):=HDE.out wr ua uc _ (HB1.out.trans (HB.out.mono HB1.out.size)) (by have:=(own_nreads HOU.out).stay HB.out;rw [HK.out] at this;exact this) (by have:=own_cap HOU.out;rw [HK.out] at this;exact this)
    by_cases hf : fit (97 + (l : Int)) (nrm T)
    ·have HF:Hid (fit (97+(l:Int)) (nrm T)):=hf
     clear hf
     go_wp2_with fail
     refine HDL.out.mono ?_
     rintro e w2 hq
     rcases hq with ⟨h1,_⟩ | ⟨_,u2,rfl,hn2,hb2⟩
     ·exact absurd HF.out h1
     obtain ⟨da,dc,rfl⟩:=own_one hn2
     obtain ⟨D,hD⟩:∃ D,drv (97+(l:Int)) (nrm T)=D:=⟨_,rfl⟩
     rw [hD] at hn2 ⊢
     have HD:Hid (drv (97+(l:Int)) (nrm T)=D):=hD
     have hDl:D.flat.length≤4000:=by rw [← hD];exact fit_len _ HF.out
     obtain ⟨M,hM⟩:∃ M,D.flat.length=M:=⟨_,rfl⟩
     have HM:Hid (D.flat.length=M):=hM
     rw [hM] at hDl ⊢
     have HB2:Hid (Below w1.heap.size w1 w2):=HB.out.trans (hb2.mono HB.out.size)
     have HN2:Hid (NO w1.heap.size w2 (.slice da M dc) D):=by rw [hM] at hn2;exact hn2.mono HB.out.size
     have hox:=own_below HOWN.out hb2
     have hpx:=HPRT.out.below hb2
     obtain ⟨us,hpu,hrow⟩:=hpx.px
     rw [drs_len] at hrow
     obtain ⟨oa,oc,rfl⟩:=own_one hox
     obtain ⟨fa,fc,rfl⟩:=own_one hrow
     have HO2:Hid (w2.ownsRow w1.heap.size 5 1 (.slice oa l oc) l (flC f)):=hox
     have HR2:Hid (w2.ownsRow w1.heap.size 22 1 (.slice fa l fc) l us):=hrow
     have HPU:Hid (PX w1.heap.size w2 us (drs (nrm T) l)):=hpu
     have HSZ:Hid (w1.heap.size≤w2.heap.size):=HB2.out.size
     clear HDL hD hn2 hb2 hox hpx hpu hrow HOWN HPRT HB
     have HNX:Hid (∀ O w9 v9,((w2.alloc (.cells #[.slice da M dc] 22)).alloc O).grownBy w9 (Value.slice fa l fc).ownBlock→w9.ownsRow w1.heap.size 22 1 v9 (l+1) (us ++ [.slice da M dc])→Boxed w9 w2.heap.size 22 (.slice da M dc)∧NO w1.heap.size w9 (.slice da M dc) D∧Prt w1.heap.size w9 w1.heap.size v9 (drs (nrm T) (l+1))∧w9.ownsRow w1.heap.size 5 1 (.slice oa l oc) l (flC f)∧Below w1.heap.size w1 w9):=fun O w9 v9 hg9 ho9=>by
      have hr:=HR2.out
      have hr3:=(hr.alloc (.cells #[.slice da M dc] 22)).alloc O
      have hn9:NO w1.heap.size w9 (.slice da M dc) D:=own_apart2 ((World.ownsRow.alloc (World.ownsRow.alloc HN2.out _) _)) hg9 hr3 (by decide)
      refine ⟨?_,hn9,?_,own_apart2 ((HO2.out.alloc _).alloc _) hg9 hr3 (by decide),?_⟩
      ·exact (hg9.block w2.heap.size (by simp;omega) (fun e=>by have:=(hr.lt _ e.symm).2;omega)).trans ((((Below.refl (w2.alloc (.cells #[.slice da M dc] 22)).heap.size (w2.alloc (.cells #[.slice da M dc] 22))).alloc (Nat.le_refl _) O).block w2.heap.size (by simp)).trans (heap_alloc_new w2 _))
      ·rw [drs_succ,HD.out]
       refine prt_of ((HPU.out.map fun u x hn=>own_apart2 (World.ownsRow.alloc (World.ownsRow.alloc hn _) _) hg9 hr3 (by decide)).append (PX.single hn9 (by rw [HM.out];exact hDl))) ?_
       rw [List.length_append,drs_len]
       exact ho9
      ·exact ((HB2.out.alloc HB2.out.size _).alloc (by have:=HSZ.out;simp;omega) _).grown hg9 (by have:=HSZ.out;simp;omega) (fun g hg=>(hr.lt g hg).1)
     go_wp2_with (at_builtin;refine wpList_append_own _ rfl _ _ 56 rfl w1.heap.size 22 i0 (.slice none 0 0) 1 24 Tryz.underlying56 hi hz0 hz1 hz2 rfl (by decide) _ _ _ rfl ((HR2.out.alloc _).alloc _) ⟨w2.heap.size+1,0,none⟩ 1 1 [.slice da M dc] rfl rfl (by have:=cell_one_new (w2.alloc (.cells #[.slice da M dc] 22)) (.slice da M dc) 22;simpa using this) (by simp [Value.oneCell']) (by unfold maxLen;omega) (by omega) (by have:=HSZ.out;simp;omega) ?_;intro v9 w9 ho9 hg9 _;obtain ⟨hx9,hn9,hp9,hu9,hb9⟩:=HNX.out _ w9 v9 hg9 ho9;have HX9:Hid (Boxed w9 w2.heap.size 22 (.slice da M dc)):=hx9;have HN9:Hid (NO w1.heap.size w9 (.slice da M dc) D):=hn9;have HP9:Hid (Prt w1.heap.size w9 w1.heap.size v9 (drs (nrm T) (l+1))):=hp9;have HU9:Hid (w9.ownsRow w1.heap.size 5 1 (.slice oa l oc) l (flC f)):=hu9;have HB9:Hid (Below w1.heap.size w1 w9):=hb9;clear hx9 hn9 hp9 hu9 hb9 ho9 hg9)
     refine (indexFunc_any (b:=w2.heap.size) HP9.out (by rw [drs_len];omega) HX9.out HN9.out.reads ⟨l,by rw [drs_len];omega,by rw [drs_at _ _ _ (by omega),HD.out]⟩).mono ?_
     rintro e w3 ⟨i,rfl,hi3,he3,hf3,hb3⟩
     rw [drs_len] at hi3
     rw [drs_at _ _ _ (by omega)] at he3
     have HE3:Hid ((drv (97+(i:Int)) (nrm T)).flat=D.flat):=he3
     have HF3:Hid (∀ j:Nat,j<i→(drv (97+(j:Int)) (nrm T)).flat≠D.flat):=fun j hj=>by
      have:=hf3 j hj
      rw [drs_at _ _ _ (by omega)] at this
      exact this
     have HU10:Hid (w3.ownsRow w1.heap.size 5 1 (.slice oa l oc) l (flC f)):=own_below HU9.out hb3
     have HP10:Hid (Prt w1.heap.size w3 w1.heap.size v9 (drs (nrm T) (l+1))):=HP9.out.below hb3
     have HB10:Hid (Below w1.heap.size w1 w3):=HB9.out.trans (hb3.mono HB9.out.size)
     have HS10:Hid (w1.heap.size≤w3.heap.size):=HB10.out.size
     clear he3 hf3 hb3 HU9 HP9 HB9 HN9 HX9 HNX
     have hi8:i<8:=by omega
     have HNY:Hid (∀ O w9,(w3.alloc O).grownBy w9 (Value.slice oa l oc).ownBlock→Prt w1.heap.size w9 w1.heap.size v9 (drs (nrm T) (l+1))∧Below w1.heap.size w1 w9):=fun O w9 hg9=>by
      have hr:=HU10.out
      obtain ⟨ys,hpy,hry⟩:=HP10.out.px
      exact ⟨prt_of (hpy.map fun u x hn=>own_apart2 (World.ownsRow.alloc hn _) hg9 (hr.alloc _) (by decide)) (own_apart2 (hry.alloc _) hg9 (hr.alloc _) (by decide)),(HB10.out.alloc HB10.out.size _).grown hg9 (by have:=HS10.out;simp;omega) (fun g hg=>(hr.lt g hg).1)⟩
     go_wp2_with (at_builtin;refine wpList_append_own _ rfl _ _ 41 rfl w1.heap.size 5 i1 (.int .u8 0) 1 1 Tryz.underlying41 hj hy0 hy1 hy2 rfl (by decide) _ _ _ rfl (HU10.out.alloc _) ⟨w3.heap.size,0,none⟩ 1 1 [.int .u8 (97+(i:Int))] rfl rfl (cell_one_new _ _ _) (by simp [Value.oneCell']) (by unfold maxLen;omega) (by omega) (by have:=HS10.out;simp;omega) ?_;intro v11 w11 ho11 hg11 _;obtain ⟨hp11,hb11⟩:=HNY.out _ w11 hg11;have HP11:Hid (Prt w1.heap.size w11 w1.heap.size v9 (drs (nrm T) (l+1))):=hp11;have HB11:Hid (Below w1.heap.size w1 w11):=hb11;have HO11:Hid (w11.ownsRow w1.heap.size 5 1 v11 (l+1) (flC f ++ [.int .u8 (97+(i:Int))])):=ho11;clear hp11 hb11 ho11 hg11)
     go_roundw
     case rel =>
      refine ⟨l+1,f ++ [i],_,_,rfl,rfl,by go_num,hlt,by simp [HFL.out],by rw [flC_snoc];exact HO11.out,HP11.out,HCLS.out.snoc (by rw [HFL.out];omega) (by rw [HFL.out,HD.out];exact HE3.out) (fun j hj=>by rw [HFL.out,HD.out];exact HF3.out j hj),fun j hj=>?_,HB11.out⟩
      by_cases c : j = l
      ·rw [c];exact HF.out
      ·exact HFIT.out j (by omega)
     case measure=>simp [intOf];omega
    ·have HF:Hid (¬ fit (97+(l:Int)) (nrm T)):=hf
     clear hf
     go_wp2_with fail
     refine HDL.out.mono ?_
     rintro e w2 hq
     rcases hq with ⟨_,rfl,hb2⟩ | ⟨h1,_⟩
     case inr=>exact absurd h1 HF.out
     have HB2:Hid (Below w.heap.size w w2):=HB1.out.trans ((HB.out.trans (hb2.mono HB.out.size)).mono HB1.out.size)
     clear hb2 HDL
     go_wp2_with fail
     go_ret2
     exact .inr (.inr ⟨by omega,by omega,HW.out,T,HTO.out,rfl,.inl ⟨⟨l,hltI,HF.out⟩,rfl,HB2.out.alloc HB2.out.size _⟩⟩)
   ·have hltI:¬ (l:Int)<kn:=by omega
    have e:l=kn:=by omega
    subst e
    have hst:=run_string_fl w1.heap.size vo f wr (HCLS.out.lt (by rw [HFL.out];omega)) (by rw [HFL.out];exact HOWN.out) (fun e=>by have:=HFL.out;rw [e] at this;simp at this;omega)
    obtain ⟨oa,oc,rfl⟩:=own_one HOWN.out
    have HBE:Hid (Below w.heap.size w wr):=HB1.out.trans (HB.out.mono HB1.out.size)
    go_wp2_with fail
    go_ret2
    exact .inr (.inr ⟨by omega,by omega,HW.out,T,HTO.out,rfl,.inr ⟨f,by rw [HFL.out],fun i hi=>HFIT.out i (by omega),HCLS.out,rfl,HBE.out⟩⟩)
 ·have HN:Hid (Calls Tryz.prog 21 #[v] w fun e w'=>e=.returned (.tuple #[.slice none 0 0,.int .i64 (wrong ts)])∧Below w.heap.size w w'):=normal_bad v ts w hv hm hP h0
  have HW:Hid (wrong ts≠0):=h0
  obtain ⟨x,hx⟩:∃ x,wrong ts=x:=⟨_,rfl⟩
  have HX:Hid (wrong ts=x):=hx
  rw [hx] at HN h0
  have hxb:(x != 0)=true:=by simpa using h0
  clear hv hP hT h0 hx
  go_enter Tryz.func17,Tryz.ntmps17
  go_wp2_with fail
  refine HN.out.mono ?_
  rintro e w1 ⟨rfl,hb1⟩
  have HB1:Hid (Below w.heap.size w w1):=hb1
  clear hb1
  go_wp2_with fail
  go_ret2
  exact .inr (.inl ⟨by omega,by omega,HW.out,by rw [HX.out];rfl,HB1.out⟩)
end Go.Proofs.YtfdhaknecjcjoaaGreatDoor
