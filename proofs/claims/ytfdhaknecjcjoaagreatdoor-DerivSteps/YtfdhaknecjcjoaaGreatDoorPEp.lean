/- Contract of deriv's joined. (Printed by tools/djoin.py.) -/
import Derived.Test.YtfdhaknecjcjoaaGreatDoorPN
namespace Go.Proofs.YtfdhaknecjcjoaaGreatDoor
open Go Go.RowKit Go.Lib
set_option linter.unusedVariables false

theorem lens_ins (t:Tr):∀ (a:List Tr),lens (ins t a)≤lens a+(t.flat.length+1)
 | []=>by simp [ins,lens]
 | x :: l=>by
  have ih:=lens_ins t l
  rw [ins]
  split
  ·simp [lens] at ih ⊢;omega
  ·split
   ·simp [lens]
   ·simp [lens];omega
theorem lens_insL:∀ (l M:List Tr),lens (insL M l)≤lens M+lens l
 | [],M=>by simp [insL,lens]
 | t :: l,M=>by
  have h1:=lens_insL l (ins t M)
  have h2:=lens_ins t M
  show lens (insL (ins t M) l) ≤ _
  simp [lens] at h1 h2 ⊢
  omega
theorem lens_two (l:List Tr):2 * l.length≤lens l:=by
 induction l with
 | nil=>simp [lens]
 | cons x l ih=>have:=flat_pos x;simp [lens] at ih ⊢;omega
theorem dlens_take (l:List Tr) (j:Nat):lens (l.take j)≤lens l:=by
 have h:lens (l.take j ++ l.drop j)=lens (l.take j)+lens (l.drop j):=by simp only [lens,List.map_append,List.sum_append]
 rw [List.take_append_drop] at h
 omega
theorem kk5:(5:Int)=5∨(5:Int)=6:=.inl rfl
theorem kk6:(6:Int)=5∨(6:Int)=6:=.inr rfl
theorem insL_succ {M l:List Tr} {j:Nat} {m:Tr} (h:l[j]?=some m):insL M (l.take (j+1))=ins m (insL M (l.take j)):=by
 have hj:j<l.length:=(List.getElem?_eq_some_iff.1 h).1
 rw [List.take_succ_eq_append_getElem hj,(List.getElem?_eq_some_iff.1 h).2]
 simp [insL,List.foldl_append]
theorem mb_lens {k:Int} {x:Tr} (ho:x.ok) (hl:x.flat.length≤4000):lens (Mb k x)≤4001:=by
 by_cases h : x = unitK k
 ·rw [mb_nil.2 h];simp [lens]
 ·have:=(mb_len ho h).1;omega
theorem mem_lens1 {m:Tr}:∀ {l:List Tr},m ∈ l→m.flat.length+1≤lens l
 | [],h=>by cases h
 | y :: l,h=>by
  rcases List.mem_cons.1 h with rfl | h
  ·simp [lens]
  ·have:=mem_lens1 h;simp [lens] at this ⊢;omega
/-- What is found is in the row; else it is put in its place. -/
theorem ins_found {M:List Tr} {m:Tr} {i:Nat} (h1:i≤M.length) (h2:∀ j,j<i→ct (M.getD j tNone).flat m.flat<0) (h3:i<M.length→¬ ct (M.getD i tNone).flat m.flat<0) (h4:i<M.length∧ct (M.getD i tNone).flat m.flat=0):ins m M=M:=by
 rw [ins_at i h1 h2 h3,if_pos h4]
theorem ins_new2 {M:List Tr} {m:Tr} {i:Nat} (h1:i≤M.length) (h2:∀ j,j<i→ct (M.getD j tNone).flat m.flat<0) (h3:i<M.length→¬ ct (M.getD i tNone).flat m.flat<0) (h4:¬ (i<M.length∧ct (M.getD i tNone).flat m.flat=0)):ins m M=M.take i ++ m :: M.drop i∧lens (ins m M)=lens M+(m.flat.length+1):=by
 have e:=ins_at i h1 h2 h3
 rw [if_neg h4] at e
 refine ⟨e,?_⟩
 rw [e]
 have h5:lens M=lens (M.take i)+lens (M.drop i):=by
  have h:lens (M.take i ++ M.drop i)=lens (M.take i)+lens (M.drop i):=by simp only [lens,List.map_append,List.sum_append]
  rwa [List.take_append_drop] at h
 have h6:lens (M.take i ++ m :: M.drop i)=lens (M.take i)+((m.flat.length+1)+lens (M.drop i)):=by simp only [lens,List.map_append,List.sum_append,List.map_cons,List.sum_cons]
 omega
theorem no_all {lo:Nat} (w:World) (hlo:lo≤w.heap.size):NO lo (w.alloc (.cells #[.int .i64 1,.int .u8 0,.int .i64 9,.int .u8 0] 51)) (.slice (some ⟨w.heap.size,0,none⟩) 2 2) tAll :=
 ⟨rfl,.inr ⟨w.heap.size,2,_,rfl,hlo,heap_alloc_new w _,Nat.le_refl _,by decide,rfl,rfl⟩⟩

set_option maxHeartbeats 8000000 in
set_option maxRecDepth 100000 in
theorem djoined5 {lo base:Nat} {w:World} {v:Value} {L:List Tr} (hv:Prt lo w base v L) (hok:∀ x ∈ L,x.ok∧NF x) (hP:PTab w) (hlo:lo≤w.heap.size) (hLl:L.length≤4001) :
  Calls Tryz.prog 58 #[.int .i64 5,v] w (RuJ (jOK 5 L) (jF 5 L) lo w.heap.size w):=by
 obtain ⟨us,hpx,hrow⟩:=hv.px
 obtain ⟨va,vc,rfl⟩:=own_one hrow
 have HCE:Hid (∀ i,i<L.length→∃ g ua uc x,va=some ⟨g,0,none⟩∧L[i]?=some x∧g<w.heap.size∧w.cell? ⟨g,i,none⟩=some (.slice ua x.flat.length uc)∧NO lo w (.slice ua x.flat.length uc) x∧x.flat.length≤4000):=by
  intro i hi
  obtain ⟨u,h1,h2,h3⟩:=hpx.at_ i L[i] (List.getElem?_eq_getElem hi)
  obtain ⟨ua,uc,rfl⟩:=own_one h2
  rcases hrow.2 with ⟨_,h0⟩ | ⟨g,cap,cur,e,_,hg,_⟩
  ·omega
  ·simp only [Value.slice.injEq] at e
   obtain ⟨rfl,_⟩:=e
   have hc:=hrow.cells (g:=g) rfl i _ h1
   rw [Addr.add_lit,Nat.zero_add] at hc
   exact ⟨g,ua,uc,_,rfl,List.getElem?_eq_getElem hi,(Array.getElem?_eq_some_iff.1 hg).1,hc,h2,h3⟩
 have HOK:Hid (∀ x ∈ L,x.ok∧NF x):=hok
 have HP:Hid (PTab w):=hP
 have HLO:Hid (lo≤w.heap.size):=hlo
 clear hpx hrow hv hok hP
 obtain ⟨ln,hln⟩:∃ ln,L.length=ln:=⟨_,rfl⟩
 have HLN:Hid (L.length=ln):=hln
 rw [hln] at hLl HCE ⊢
 clear hln
 go_enter Tryz.func58,Tryz.ntmps58
 go_wp2_with fail
 refine (leaf_new 1 _).mono ?_
 rintro e w1 ⟨vN,rfl,hN,hb1⟩
 obtain ⟨na,nc,rfl⟩:=own_one hN
 have HB1:Hid (Below w.heap.size w w1):=hb1
 have HN1:Hid (NO lo w1 (.slice na 1 nc) tNone):=own_mono hN hlo
 clear hN hb1
 go_wp2_with fail
 obtain ⟨W0,hW0⟩:∃ W0,w1.alloc (.cells #[.int .i64 1,.int .u8 0,.int .i64 9,.int .u8 0] 51)=W0:=⟨_,rfl⟩
 have HNN:Hid (NO lo W0 (.slice na 1 nc) tNone):=by show NO _ _ _ _;rw [← hW0];exact HN1.out.below ((Below.refl _ _).alloc (Nat.le_refl _) _)
 have HNA:Hid (NO lo W0 (.slice (some ⟨w1.heap.size,0,none⟩) 2 2) tAll):=by show NO _ _ _ _;rw [← hW0];exact no_all w1 (Nat.le_trans hlo HB1.out.size)
 have HBW:Hid (Below w.heap.size w W0):=by show Below _ _ _;rw [← hW0];exact HB1.out.alloc HB1.out.size _
 rw [hW0]
 clear hW0 HN1 HB1
 have HU:Hid (∀ wr,Below W0.heap.size W0 wr→NO lo wr (.slice na 1 nc) (unitK 5)):=fun wr hb=>HNN.out.below hb
 have HZ:Hid (∀ wr,Below W0.heap.size W0 wr→NO lo wr (.slice (some ⟨w1.heap.size,0,none⟩) 2 2) (zeroK 5)):=fun wr hb=>HNA.out.below hb
 clear HNN HNA
 go_loopw [8,9,29] (fun vm vn vi wr=>∃ (i:Nat) (M:List Tr) (v':Value),v'=vm∧vn=.int .i64 ((lens M:Int) - 1)∧vi=.int .i64 i∧i≤ln∧(∀ x ∈ L.take i,x≠zeroK 5)∧M=Mb 5 (jF 5 (L.take i))∧(∀ j,j≤i→(jF 5 (L.take j)).flat.length≤4000)∧Prt lo wr W0.heap.size v' M∧Below W0.heap.size W0 wr) (fun _ _ vi _=>ln - (intOf vi).toNat)
 case atStart =>
  refine ⟨0,[],_,rfl,by simp [lens],rfl,Nat.zero_le _,fun x hx=>by simp at hx,?_,fun j hj=>?_,prt_of (PX.nil _ _) (World.ownsRow_nil _ _ _ _),Below.refl _ _⟩
  ·rw [List.take_zero];exact (mb_nil.2 rfl).symm
  ·have e:j=0:=by omega
   rw [e,List.take_zero]
   have:=unit_len 5
   show (unitK 5).flat.length ≤ 4000
   omega
 case round =>
  obtain ⟨i,M,v',rfl,rfl,rfl,hi,hnz,hM,hfit,hprt,hb⟩:=hrel
  have HNZ:Hid (∀ x ∈ L.take i,x≠zeroK 5):=hnz
  have HM:Hid (M=Mb 5 (jF 5 (L.take i))):=hM
  have HFI:Hid (∀ j,j≤i→(jF 5 (L.take j)).flat.length≤4000):=hfit
  have HPR:Hid (Prt lo wr W0.heap.size v' M):=hprt
  have HBB:Hid (Below W0.heap.size W0 wr):=hb
  have hjo:=jF_ok (k:=5) kk5 (l:=L.take i) (fun x hx=>HOK.out x (List.mem_of_mem_take hx))
  have HJO:Hid ((jF 5 (L.take i)).ok∧NF (jF 5 (L.take i))):=hjo
  have hML:lens M≤4001:=by rw [hM];exact mb_lens hjo.1 (hfit i (Nat.le_refl _))
  obtain ⟨pa,pc,rfl⟩:=own_one hprt.px.choose_spec.2
  clear hnz hM hfit hprt hb hjo
  have hMl:M.length≤2000:=by have:=lens_two M;omega
  by_cases hlt : i < ln
  ·have hltI:(i:Int)<ln:=by omega
   obtain ⟨g,ua,uc,x,rfl,hx,hgw,hcx,hnx,hxl⟩:=HCE.out i hlt
   have hww:Below w.heap.size w wr:=HBW.out.trans (HBB.out.mono HBW.out.size)
   have hcx':wr.cell? ⟨g,i,none⟩=some (.slice ua x.flat.length uc):=by rw [below_cell hww hgw];exact hcx
   have HNX:Hid (NO lo wr (.slice ua x.flat.length uc) x):=hnx.below hww
   have HX:Hid (L[i]?=some x):=hx
   have HXO:Hid (x.ok∧NF x):=HOK.out x (List.mem_of_getElem? hx)
   have HEQ:Hid (Calls Tryz.prog 30 #[.slice ua x.flat.length uc,.slice (some ⟨w1.heap.size,0,none⟩) 2 2] wr fun e w'=>e=.returned (.bool (decide (x.flat=(zeroK 5).flat)))∧Below wr.heap.size wr w'):=sequal_any _ _ _ _ wr HNX.out.reads (HZ.out wr HBB.out).reads (by omega)
   have HWW:Hid (Below w.heap.size w wr):=hww
   have HXL:Hid (x.flat.length≤4000):=hxl
   have HLT:Hid (i<ln):=hlt
   clear hnx hx hcx hww
   by_cases cz : x = zeroK 5
   ·have hd:decide (x.flat=(zeroK 5).flat)=true:=by rw [cz];simp
    rw [hd] at HEQ
    have HCZ:Hid (L[i]?=some (zeroK 5)):=by show _=_;rw [HX.out,cz]
    clear hd cz
    go_wp2_with fail
    refine HEQ.out.mono ?_
    rintro e w2 ⟨rfl,hb2⟩
    have HB2:Hid (Below W0.heap.size W0 w2):=go_on HBB.out hb2
    have HW2:Hid (Below w.heap.size w w2):=go_on HWW.out hb2
    clear hb2
    go_wp2_with fail
    go_ret2
    have hj:jF 5 L=zeroK 5:=by
     have:=jF_zero HCZ.out L.length (by rw [HLN.out];exact HLT.out)
     rwa [List.take_length] at this
    refine .inr ⟨fun j hj'=>?_,_,rfl,by rw [hj];exact HZ.out w2 HB2.out,HW2.out⟩
    by_cases c1 : j ≤ i
    ·exact HFI.out j c1
    ·rw [jF_zero HCZ.out j (by omega)]
     have:=zero_len 5
     omega
   ·have hd:decide (x.flat=(zeroK 5).flat)=false:=by
     simp only [decide_eq_false_iff_not]
     exact fun e=>cz (flat_inj HXO.out.1 (zero_ok 5) e)
    rw [hd] at HEQ
    have HCZ:Hid (x≠zeroK 5):=cz
    have HMO:Hid (∀ w2,Below wr.heap.size wr w2→Calls Tryz.prog 92 #[.int .i64 5,.slice ua x.flat.length uc,.slice na 1 nc] w2 (MoQ lo (Mb 5 x) w2)):=fun w2 hb2 =>
     membersOf_any kk5 HXO.out.1 HXO.out.2 HXL.out (HNX.out.below hb2) (HU.out w2 (go_on HBB.out hb2)).reads (HP.out.stay (go_on HWW.out hb2)) (Nat.le_trans HLO.out (go_on HWW.out hb2).size)
    clear hd cz
    go_wp2_with fail
    refine HEQ.out.mono ?_
    rintro e w2 ⟨rfl,hb2⟩
    have HB2:Hid (Below wr.heap.size wr w2):=hb2
    clear hb2 hcx' HEQ
    go_wp2_with fail
    refine (HMO.out _ HB2.out).mono ?_
    rintro e w3 ⟨vl,rfl,hpl,hb3⟩
    obtain ⟨la,lc,rfl⟩:=own_one hpl.px.choose_spec.2
    have HPL:Hid (Prt lo w3 w2.heap.size (.slice la (Mb 5 x).length lc) (Mb 5 x)):=hpl
    have HB3:Hid (Below wr.heap.size wr w3):=go_on HB2.out hb3
    have HS2:Hid (wr.heap.size≤w2.heap.size):=HB2.out.size
    have hxl2:lens (Mb 5 x)≤4001:=mb_lens HXO.out.1 HXL.out
    have hbl:(Mb 5 x).length≤2001:=by have:=lens_two (Mb 5 x);omega
    have HXO1:Hid (Oks (Mb 5 x)):=mb_oks HXO.out.1
    clear hpl hb3 HMO
    obtain ⟨MX,hMX⟩:∃ MX,Mb 5 x=MX:=⟨_,rfl⟩
    have HMX:Hid (Mb 5 x=MX):=hMX
    rw [hMX] at HPL hxl2 hbl HXO1 ⊢
    clear hMX
    go_wp2_with fail
    obtain ⟨wo,rfl⟩:∃ x,x=wr:=⟨_,rfl⟩
    go_loopw [8,9,42] (fun vm vn vj wr=>∃ (j:Nat) (M':List Tr) (v':Value),v'=vm∧vn=.int .i64 ((lens M':Int) - 1)∧vj=.int .i64 j∧j≤MX.length∧M'=insL M (MX.take j)∧Prt lo wr W0.heap.size v' M'∧Prt lo wr W0.heap.size (.slice la MX.length lc) MX∧(∀ b,v'.ownBlock=some b→(Value.slice la MX.length lc).ownBlock≠some b)∧Below W0.heap.size W0 wr) (fun _ _ vj _=>MX.length - (intOf vj).toNat)
    case atStart =>
     have hs0:=HBB.out.size
     have hs2:wo.heap.size≤w2.heap.size:=HS2.out
     refine ⟨0,M,_,rfl,rfl,rfl,Nat.zero_le _,by simp [insL],HPR.out.below HB3.out,HPL.out.mono (by omega),fun b h1 h2=>?_,go_on HBB.out HB3.out⟩
     have k1:=(HPR.out.px.choose_spec.2.lt b h1).2
     have k2:=(HPL.out.px.choose_spec.2.lt b h2).1
     omega
    case round =>
     obtain ⟨j,M',v2,rfl,rfl,rfl,hj,hM',hp1,hp2,hdj,hbw⟩:=hrel
     have HM':Hid (M'=insL M (MX.take j)):=hM'
     have HP1:Hid (Prt lo wr W0.heap.size v2 M'):=hp1
     have HP2:Hid (Prt lo wr W0.heap.size (.slice la MX.length lc) MX):=hp2
     have HDJ:Hid (∀ b,v2.ownBlock=some b→(Value.slice la MX.length lc).ownBlock≠some b):=hdj
     have HBW2:Hid (Below W0.heap.size W0 wr):=hbw
     have hL':lens M'≤8002:=by have h1:=lens_insL (MX.take j) M;have h2:=dlens_take MX j;rw [← hM'] at h1;omega
     have hl':M'.length≤4001:=by have:=lens_two M';omega
     have hspec:=insL_spec (l:=MX.take j) (M:=M) (by rw [HM.out];exact mb_oks HJO.out.1) (by rw [HM.out];exact (mb_mem kk5 HJO.out.1 HJO.out.2).1) (fun m hm=>HXO1.out m (List.mem_of_mem_take hm))
     rw [← hM'] at hspec
     have HRI:Hid (Ris M'):=hspec.2.1
     obtain ⟨qa,qc,rfl⟩:=own_one hp1.px.choose_spec.2
     clear hM' hp1 hp2 hdj hbw hspec
     have HJ:Hid (j≤MX.length):=hj
     by_cases hjl : j < MX.length
     ·have hjI:(j:Int)<MX.length:=by omega
      obtain ⟨ms,hmx,hmr⟩:=HP2.out.px
      obtain ⟨m,hm⟩:∃ m,MX[j]?=some m:=⟨_,List.getElem?_eq_getElem hjl⟩
      obtain ⟨um,hu1,hu2,hu3⟩:=hmx.at_ j m hm
      obtain ⟨ma,mc,rfl⟩:=own_one hu2
      obtain ⟨lg,rfl,hcm⟩:∃ lg,la=some ⟨lg,0,none⟩∧wr.cell? ⟨lg,j,none⟩=some (.slice ma m.flat.length mc):=by
       rcases hmr.2 with ⟨_,h0⟩ | ⟨lg,cap,cur,e,_⟩
       ·omega
       ·simp only [Value.slice.injEq] at e
        obtain ⟨rfl,_⟩:=e
        have hc:=hmr.cells (g:=lg) rfl j _ hu1
        rw [Addr.add_lit,Nat.zero_add] at hc
        exact ⟨lg,rfl,hc⟩
      have HMM:Hid (MX[j]?=some m):=hm
      have HUM:Hid (NO lo wr (.slice ma m.flat.length mc) m):=hu2
      have HML:Hid (m.flat.length≤4000):=hu3
      have HSR:=search_any HP1.out HRI.out hl' HUM.out.reads HML.out
      have HSE:Hid (Calls Tryz.prog 93 #[.slice qa M'.length qc,.slice ma m.flat.length mc,fCmp] wr (SrQ M' m wr)):=HSR
      have HJL:Hid (j<MX.length):=hjl
      unfold fCmp at HSE
      clear hmx hmr hm hu1 hu2 HSR
      go_wp2_with fail
      refine HSE.out.mono ?_
      rintro e w4 ⟨t,rfl,ht1,ht2,ht3,hb4⟩
      have HT:Hid (t≤M'.length∧(∀ j,j<t→ct (M'.getD j tNone).flat m.flat<0)∧(t<M'.length→¬ ct (M'.getD t tNone).flat m.flat<0)):=⟨ht1,ht2,ht3⟩
      have HB4:Hid (Below wr.heap.size wr w4):=hb4
      clear ht2 ht3 hb4 HSE hcm
      by_cases ck:t<M'.length∧ct (M'.getD t tNone).flat m.flat=0
      ·have HCK:Hid (t<M'.length∧ct (M'.getD t tNone).flat m.flat=0):=ck
       rw [decide_eq_true ck]
       clear ck
       go_wp2_with fail
       go_roundw
       case rel =>
        have hjl':j<MX.length:=HJL.out
        refine ⟨j+1,M',_,rfl,rfl,by go_num,hjl',?_,HP1.out.below HB4.out,HP2.out.below HB4.out,HDJ.out,go_on HBW2.out HB4.out⟩
        rw [insL_succ HMM.out,← HM'.out,ins_found HT.out.1 HT.out.2.1 (fun h=>Int.not_lt.2 (HT.out.2.2 h)) HCK.out]
       case measure=>simp [intOf];have hjl':j<MX.length:=HJL.out;omega
      ·have HCK:Hid (¬ (t<M'.length∧ct (M'.getD t tNone).flat m.flat=0)):=ck
       rw [decide_eq_false ck]
       clear ck
       have hn1:IntKind.i64.wrap ((lens M':Int) - 1+((m.flat.length:Int)+1))=(lens M':Int) - 1+((m.flat.length:Int)+1):=by rw [IntKind.wrap_i64];omega
       go_wp2_with fail
       have HPA:Hid (Prt lo (w4.alloc (.cells #[.slice ma m.flat.length mc] 22)) W0.heap.size (.slice qa M'.length qc) M'):=(HP1.out.below HB4.out).below ((Below.refl _ _).alloc (Nat.le_refl _) _)
       have hs4:W0.heap.size≤w4.heap.size:=(go_on HBW2.out HB4.out).size
       refine (insert_any HPA.out HT.out.1 (m:=m) (u:=.slice ma m.flat.length mc) ((HUM.out.below HB4.out).below ((Below.refl _ _).alloc (Nat.le_refl _) _)) HML.out (vb:=w4.heap.size) (heap_alloc_new w4 _) (fun e=>by have:=((HP1.out.below HB4.out).px.choose_spec.2.lt _ e).2;omega) hl' (by simp;omega)).mono ?_
       rintro e w5 ⟨v5,rfl,hp5,hg5,hl5⟩
       have HP5:Hid (Prt lo w5 W0.heap.size v5 (M'.take t ++ m :: M'.drop t)):=hp5
       have HG5:Hid ((w4.alloc (.cells #[.slice ma m.flat.length mc] 22)).grownBy w5 (Value.ownBlock (.slice qa M'.length qc))):=hg5
       have HL5:Hid (∀ b,v5.ownBlock=some b→(Value.slice qa M'.length qc).ownBlock=some b∨(w4.alloc (.cells #[.slice ma m.flat.length mc] 22)).heap.size≤b):=hl5
       clear hp5 hg5 hl5
       go_wp2_with fail
       go_roundw
       case rel =>
        have hjl':j<MX.length:=HJL.out
        have hin:=ins_new2 HT.out.1 HT.out.2.1 (fun h=>Int.not_lt.2 (HT.out.2.2 h)) HCK.out
        have hal:Below w4.heap.size w4 (w4.alloc (.cells #[.slice ma m.flat.length mc] 22)):=(Below.refl _ _).alloc (Nat.le_refl _) _
        have hpl:Prt lo (w4.alloc (.cells #[.slice ma m.flat.length mc] 22)) W0.heap.size (.slice (some ⟨lg,0,none⟩) MX.length lc) MX:=(HP2.out.below HB4.out).below hal
        have hpr:=HPA.out.px.choose_spec.2
        refine ⟨j+1,ins m M',v5,rfl,?_,by go_num,hjl',?_,by rw [hin.1];exact HP5.out,hpl.grown HG5.out hpr (.inr (fun e=>?_)),fun b h1 h2=>?_,?_⟩
        ·rw [hin.2];congr 1;omega
        ·rw [insL_succ HMM.out,← HM'.out]
        ·exact HDJ.out lg e.symm rfl
        ·rcases HL5.out b h1 with h3 | h3
         ·exact HDJ.out b h3 h2
         ·have:=(hpl.px.choose_spec.2.lt b h2).2
          omega
        ·exact ((go_on HBW2.out HB4.out).trans (hal.mono hs4)).grown HG5.out (by simp;omega) (fun b h1=>(hpr.lt b h1).1)
       case measure=>simp [intOf];have hjl':j<MX.length:=HJL.out;omega
     ·have hjI:¬ (j:Int)<MX.length:=by omega
      have HJE:Hid (j=MX.length):=by show _=_;omega
      have hjn:M'=Mb 5 (jF 5 (L.take (i+1))):=by
       rw [HM'.out,HJE.out,List.take_length,← HMX.out]
       conv=>lhs;rw [HM.out]
       rw [← mb_join kk5 HJO.out.1 HJO.out.2 HXO.out.1 HXO.out.2 (jF_ne kk5 _ (fun y hy=>⟨(HOK.out y (List.mem_of_mem_take hy)).1,(HOK.out y (List.mem_of_mem_take hy)).2,HNZ.out y hy⟩)) HCZ.out]
       congr 1
       have hil:i<L.length:=by rw [HLN.out];exact HLT.out
       rw [List.take_succ_eq_append_getElem hil,jF_snoc,(List.getElem?_eq_some_iff.1 HX.out).2]
      have HJN:Hid (M'=Mb 5 (jF 5 (L.take (i+1)))):=hjn
      have hjo1:=jF_ok (k:=5) kk5 (l:=L.take (i+1)) (fun y hy=>HOK.out y (List.mem_of_mem_take hy))
      have HLL:Hid ((lens M':Int) - 1≤4000↔(jF 5 (L.take (i+1))).flat.length≤4000):=by
       show _ ↔ _
       by_cases cu : jF 5 (L.take (i + 1)) = unitK 5
       ·have e0:M'=[]:=by rw [hjn];exact mb_nil.2 cu
        have:=unit_len 5
        rw [e0,cu]
        simp [lens]
        omega
       ·have h1:=(mb_len hjo1.1 cu).1
        rw [← hjn] at h1
        omega
      clear hjn hjo1
      by_cases c4 : (lens M' : Int) - 1 ≤ 4000
      ·have hg4:¬ (4000:Int)<(lens M':Int) - 1:=by omega
       have HC4:Hid ((lens M':Int) - 1≤4000):=c4
       go_wp2_with fail
       go_roundw
       case rel =>
        have hlt':i<ln:=HLT.out
        refine ⟨i+1,M',_,rfl,rfl,by go_num,hlt',fun y hy=>?_,HJN.out,fun t ht=>?_,HP1.out,HBW2.out⟩
        ·have hil:i<L.length:=by rw [HLN.out];exact HLT.out
         rw [List.take_succ_eq_append_getElem hil] at hy
         rcases List.mem_append.1 hy with hy | hy
         ·exact HNZ.out y hy
         ·simp only [List.mem_singleton] at hy
          rw [hy,(List.getElem?_eq_some_iff.1 HX.out).2]
          exact HCZ.out
        ·by_cases c5 : t ≤ i
         ·exact HFI.out t c5
         ·have e5:t=i+1:=by omega
          rw [e5];exact HLL.out.1 HC4.out
       case measure=>simp [intOf];have hlt':i<ln:=HLT.out;omega
      ·have hg4:(4000:Int)<(lens M':Int) - 1:=by omega
       have HC4:Hid (¬ (lens M':Int) - 1≤4000):=c4
       go_wp2_with fail
       go_ret2
       refine .inl ⟨fun hj9=>Int.not_le.2 HC4.out (HLL.out.2 (hj9 (i+1) (by rw [HLN.out];exact HLT.out))),rfl,HBW.out.trans (HBW2.out.mono HBW.out.size)⟩
  ·have hltI:¬ (i:Int)<ln:=by omega
   have HIE:Hid (i=ln):=by show _=_;omega
   have HJL:Hid (M=Mb 5 (jF 5 L)):=by show _=_;rw [HM.out,HIE.out,← HLN.out,List.take_length]
   have HOKJ:Hid (jOK 5 L):=fun j hj=>HFI.out j (by rw [HIE.out,← HLN.out];exact hj)
   have HJO2:Hid ((jF 5 L).ok):=(jF_ok kk5 HOK.out).1
   have HBR:Hid (Below w.heap.size w wr):=HBW.out.trans (HBB.out.mono HBW.out.size)
   by_cases cM : M = []
   ·subst cM
    have HJU:Hid (jF 5 L=unitK 5):=mb_nil.1 HJL.out.symm
    go_wp2_with fail
    go_ret2
    exact .inr ⟨HOKJ.out,_,rfl,by rw [HJU.out];exact HU.out wr HBB.out,HBR.out⟩
   ·have hM0:¬ (M.length=0):=fun e=>cM (List.eq_nil_of_length_eq_zero e)
    have HMNE:Hid (M≠[]):=cM
    have HJB:Hid (jF 5 L=build 5 M∧(jF 5 L).flat.length+1=lens M):=by
     have hne:jF 5 L≠unitK 5:=fun e=>cM (by rw [HJL.out];exact mb_nil.2 e)
     have h1:=mb_len HJO2.out hne
     rw [← HJL.out] at h1
     exact ⟨h1.2,h1.1⟩
    obtain ⟨ms,hmx,hmr⟩:=HPR.out.px
    obtain ⟨pg,rfl⟩:∃ pg,pa=some ⟨pg,0,none⟩:=by
     rcases hmr.2 with ⟨_,h0⟩ | ⟨lg,cap,cur,e,_⟩
     ·omega
     ·simp only [Value.slice.injEq] at e
      exact ⟨lg,e.1⟩
    have hpcap:M.length≤pc:=own_cap hmr
    have HCM:Hid (∀ w1,Below wr.heap.size wr w1→∀ j,j<M.length→∃ mg mc m,M[j]?=some m∧w1.cell? ⟨pg,j,none⟩=some (.slice (some ⟨mg,0,none⟩) m.flat.length mc)∧NO lo w1 (.slice (some ⟨mg,0,none⟩) m.flat.length mc) m):=by
     intro w1 hb j hj
     obtain ⟨u,h1,h2,h3⟩:=hmx.at_ j M[j] (List.getElem?_eq_getElem hj)
     have hc:=hmr.cells (g:=pg) rfl j _ h1
     rw [Addr.add_lit,Nat.zero_add] at hc
     have hfp:=flat_pos M[j]
     rcases h2.2 with ⟨_,h0⟩ | ⟨mg,mc,cur,rfl,_⟩
     ·omega
     ·exact ⟨mg,mc,_,List.getElem?_eq_getElem hj,by rw [below_cell hb (hmr.lt pg rfl).2];exact hc,h2.below hb⟩
    obtain ⟨mg,mc,m0,hm0,hc0,hn0⟩:=HCM.out wr (Below.refl _ _) 0 (by omega)
    have HM0:Hid (M[0]?=some m0):=hm0
    have hm0l:m0.flat.length≤4001:=by have:=mem_lens1 (List.mem_of_getElem? hm0);omega
    have HCL:Hid (Calls Tryz.prog 96 #[.slice (some ⟨mg,0,none⟩) m0.flat.length mc] wr fun e w'=>∃ v,e=.returned v∧v≠.slice none 0 0∧w'.ownsRow wr.heap.size 51 2 v m0.flat.length (ndC m0.flat)∧Below wr.heap.size wr w'):=clone_any _ _ _ wr hn0.reads (by omega)
    clear hmx hmr hm0 hn0 cM
    have hM1:1≤M.length:=by omega
    have hMI:¬ ((M.length:Int)=0):=by omega
    go_wp2_with fail
    refine HCL.out.mono ?_
    rintro e w6 ⟨v6,rfl,_,ho6,hb6⟩
    have HO6:Hid (w6.ownsRow wr.heap.size 51 2 v6 m0.flat.length (ndC m0.flat)):=ho6
    have HB6:Hid (Below wr.heap.size wr w6):=hb6
    clear ho6 hb6 HCL hc0
    obtain ⟨i0,hi0,hz0,hz1,hz2⟩:=info_parts Tryz.info_node
    by_cases hpc : pc = 1
    ·have HM1:Hid (M.length=1):=by show _=_;omega
     subst hpc
     have hMe:M.length=1:=by omega
     go_wp2_with fail
     refine wp_loop_rounds 1 ?_
     rw [rounds_succ]
     go_wp2_with fail
     go_ret2
     have e1:M=[m0]:=by
      obtain ⟨y,hy⟩:=List.length_eq_one_iff.1 HM1.out
      have:=HM0.out
      rw [hy] at this ⊢
      simp at this
      rw [this]
     refine .inr ⟨HOKJ.out,v6,rfl,?_,HBR.out.trans (HB6.out.mono HBR.out.size)⟩
     rw [HJB.out.1,e1]
     exact own_mono HO6.out (Nat.le_trans HLO.out HBR.out.size)
    ·have HLM:Hid (lens M≤4001):=hML
     go_wp2_with fail
     obtain ⟨wo,rfl⟩:∃ x,x=wr:=⟨_,rfl⟩
     go_loopw [16,79] (fun vo vt wr=>∃ (t:Nat) (v7:Value),v7=vo∧vt=.int .i64 t∧t+1≤M.length∧wr.ownsRow wo.heap.size 51 2 v7 (build 5 (M.take (t+1))).flat.length (ndC (build 5 (M.take (t+1))).flat)∧Below wo.heap.size wo wr) (fun _ vt _=>M.length - (intOf vt).toNat)
     case atStart =>
      refine ⟨0,v6,rfl,rfl,hM1,?_,HB6.out⟩
      have e1:M.take 1=[m0]:=by
       cases M with
       | nil=>exact absurd rfl HMNE.out
       | cons y l =>
        have:=HM0.out
        simp at this
        simp [this]
      rw [Nat.zero_add,e1]
      exact HO6.out
     case round =>
      obtain ⟨t,v7,rfl,rfl,ht,ho7,hb7⟩:=hrel
      have HO7:Hid (wr.ownsRow wo.heap.size 51 2 v7 (build 5 (M.take (t+1))).flat.length (ndC (build 5 (M.take (t+1))).flat)):=ho7
      have HB7:Hid (Below wo.heap.size wo wr):=hb7
      have HT:Hid (t+1≤M.length):=ht
      clear ho7 hb7
      by_cases htl : t + 1 < M.length
      ·have htI:(t:Int)<(M.length:Int) - 1:=by omega
       have htN:t<M.length - 1:=by omega
       obtain ⟨mg,mc,m,hm,hcm,hnm⟩:=HCM.out wr HB7.out (t+1) htl
       rw [Nat.add_comm t 1] at hcm
       have HMM:Hid (M[t+1]?=some m):=hm
       have HNM:Hid (NReads wr (.slice (some ⟨mg,0,none⟩) m.flat.length mc) m.flat):=hnm.reads
       have HBS:Hid (build 5 (M.take (t+1+1))=.two (5,0) (build 5 (M.take (t+1))) m):=by
        show _ = _
        rw [List.take_succ_eq_append_getElem htl,(List.getElem?_eq_some_iff.1 hm).2,build_snoc _ (fun e=>by have h9:=congrArg List.length e;rw [List.length_take,List.length_nil] at h9;omega)]
       have hln:(build 5 (M.take (t+1))).flat.length+m.flat.length+1≤4000:=by
        have h1:=len_build (k:=5) (l:=M.take (t+1+1)) (fun e=>by have h9:=congrArg List.length e;rw [List.length_take,List.length_nil] at h9;omega)
        have h2:=dlens_take M (t+1+1)
        have h3:lens M≤4001:=HLM.out
        rw [HBS.out] at h1
        simp [Tr.flat] at h1
        omega
       obtain ⟨bl,hbl⟩:∃ bl,(build 5 (M.take (t+1))).flat.length=bl:=⟨_,rfl⟩
       rw [hbl] at HO7 hln
       have HBL:Hid ((build 5 (M.take (t+1))).flat.length=bl):=hbl
       have HTL:Hid (t+1<M.length):=htl
       have hsw:wo.heap.size≤wr.heap.size:=HB7.out.size
       clear hm hnm hbl
       go_wp2_with (at_builtin;(first
        | (refine wpList_append_own _ rfl _ _ 22 rfl wo.heap.size 51 i0 (.agg #[.int .i64 0,.int .u8 0]) 2 16 Tryz.underlying22 hi0 hz0 hz1 hz2 rfl (by decide) _ _ _ rfl HO7.out ⟨mg,0,none⟩ m.flat.length mc (ndC m.flat) rfl (ndC_length _) (nreads_cells HNM.out) (ndC_one _) (by unfold maxLen;omega) (by omega) hsw ?_;intro v8 w8 ho8 hg8 _;have HO8:Hid (w8.ownsRow wo.heap.size 51 2 v8 (bl+m.flat.length) (ndC (build 5 (M.take (t+1))).flat ++ ndC m.flat)):=ho8;have HG8:Hid (wr.grownBy w8 v7.ownBlock):=hg8;have hs8:wo.heap.size≤w8.heap.size:=Nat.le_trans hsw hg8.size;clear ho8 hg8)
        | (refine wpList_append_own _ rfl _ _ 22 rfl wo.heap.size 51 i0 (.agg #[.int .i64 0,.int .u8 0]) 2 16 Tryz.underlying22 hi0 hz0 hz1 hz2 rfl (by decide) _ _ _ rfl (HO8.out.alloc _) ⟨w8.heap.size,0,none⟩ 1 1 [.int .i64 5,.int .u8 0] rfl rfl (cell_two_new _ _ _ _) (by intro u hu;simp at hu;rcases hu with rfl | rfl <;> rfl) (by unfold maxLen;omega) (by omega) (by simp;omega) ?_;intro v9 w9 ho9 hg9 _;have HO9:Hid (w9.ownsRow wo.heap.size 51 2 v9 (bl+m.flat.length+1) (ndC (build 5 (M.take (t+1))).flat ++ ndC m.flat ++ [.int .i64 5,.int .u8 0])):=ho9;have HG9:Hid ((w8.alloc (.cells #[.int .i64 5,.int .u8 0] 51)).grownBy w9 v8.ownBlock):=hg9;clear ho9 hg9)))
       go_roundw
       case rel =>
        refine ⟨t+1,v9,rfl,by go_num,HTL.out,?_,?_⟩
        ·rw [HBS.out]
         have e9:(Tr.two (5,0) (build 5 (M.take (t+1))) m).flat=(build 5 (M.take (t+1))).flat ++ m.flat ++ [(5,0)]:=rfl
         rw [e9,ndC_append,ndC_append,List.length_append,List.length_append,HBL.out]
         exact HO9.out
        ·have b8:Below wo.heap.size wo w8:=HB7.out.grown HG8.out hsw (fun b hb=>(HO7.out.lt b hb).1)
         have b8a:Below wo.heap.size wo (w8.alloc (.cells #[.int .i64 5,.int .u8 0] 51)):=b8.alloc b8.size _
         exact b8a.grown HG9.out (by simp;omega) (fun b hb=>(HO8.out.lt b hb).1)
       case measure=>simp [intOf];have h5:t+1<M.length:=HTL.out;omega
      ·have htI:¬ (t:Int)<(M.length:Int) - 1:=by omega
       have htN:¬ t<M.length - 1:=by omega
       have HTE:Hid (t+1=M.length):=by show _=_;omega
       go_wp2_with fail
       go_ret2
       refine .inr ⟨HOKJ.out,v7,rfl,?_,HBR.out.trans (HB7.out.mono HBR.out.size)⟩
       have h9:=HO7.out
       rw [HTE.out,List.take_length,← HJB.out.1] at h9
       exact own_mono h9 (Nat.le_trans HLO.out HBR.out.size)

set_option maxHeartbeats 8000000 in
set_option maxRecDepth 100000 in
theorem djoined6 {lo base:Nat} {w:World} {v:Value} {L:List Tr} (hv:Prt lo w base v L) (hok:∀ x ∈ L,x.ok∧NF x) (hP:PTab w) (hlo:lo≤w.heap.size) (hLl:L.length≤4001) :
  Calls Tryz.prog 58 #[.int .i64 6,v] w (RuJ (jOK 6 L) (jF 6 L) lo w.heap.size w):=by
 obtain ⟨us,hpx,hrow⟩:=hv.px
 obtain ⟨va,vc,rfl⟩:=own_one hrow
 have HCE:Hid (∀ i,i<L.length→∃ g ua uc x,va=some ⟨g,0,none⟩∧L[i]?=some x∧g<w.heap.size∧w.cell? ⟨g,i,none⟩=some (.slice ua x.flat.length uc)∧NO lo w (.slice ua x.flat.length uc) x∧x.flat.length≤4000):=by
  intro i hi
  obtain ⟨u,h1,h2,h3⟩:=hpx.at_ i L[i] (List.getElem?_eq_getElem hi)
  obtain ⟨ua,uc,rfl⟩:=own_one h2
  rcases hrow.2 with ⟨_,h0⟩ | ⟨g,cap,cur,e,_,hg,_⟩
  ·omega
  ·simp only [Value.slice.injEq] at e
   obtain ⟨rfl,_⟩:=e
   have hc:=hrow.cells (g:=g) rfl i _ h1
   rw [Addr.add_lit,Nat.zero_add] at hc
   exact ⟨g,ua,uc,_,rfl,List.getElem?_eq_getElem hi,(Array.getElem?_eq_some_iff.1 hg).1,hc,h2,h3⟩
 have HOK:Hid (∀ x ∈ L,x.ok∧NF x):=hok
 have HP:Hid (PTab w):=hP
 have HLO:Hid (lo≤w.heap.size):=hlo
 clear hpx hrow hv hok hP
 obtain ⟨ln,hln⟩:∃ ln,L.length=ln:=⟨_,rfl⟩
 have HLN:Hid (L.length=ln):=hln
 rw [hln] at hLl HCE ⊢
 clear hln
 go_enter Tryz.func58,Tryz.ntmps58
 go_wp2_with fail
 refine (leaf_new 1 _).mono ?_
 rintro e w1 ⟨vN,rfl,hN,hb1⟩
 obtain ⟨na,nc,rfl⟩:=own_one hN
 have HB1:Hid (Below w.heap.size w w1):=hb1
 have HN1:Hid (NO lo w1 (.slice na 1 nc) tNone):=own_mono hN hlo
 clear hN hb1
 go_wp2_with fail
 obtain ⟨W0,hW0⟩:∃ W0,w1.alloc (.cells #[.int .i64 1,.int .u8 0,.int .i64 9,.int .u8 0] 51)=W0:=⟨_,rfl⟩
 have HNN:Hid (NO lo W0 (.slice na 1 nc) tNone):=by show NO _ _ _ _;rw [← hW0];exact HN1.out.below ((Below.refl _ _).alloc (Nat.le_refl _) _)
 have HNA:Hid (NO lo W0 (.slice (some ⟨w1.heap.size,0,none⟩) 2 2) tAll):=by show NO _ _ _ _;rw [← hW0];exact no_all w1 (Nat.le_trans hlo HB1.out.size)
 have HBW:Hid (Below w.heap.size w W0):=by show Below _ _ _;rw [← hW0];exact HB1.out.alloc HB1.out.size _
 rw [hW0]
 clear hW0 HN1 HB1
 have HU:Hid (∀ wr,Below W0.heap.size W0 wr→NO lo wr (.slice (some ⟨w1.heap.size,0,none⟩) 2 2) (unitK 6)):=fun wr hb=>HNA.out.below hb
 have HZ:Hid (∀ wr,Below W0.heap.size W0 wr→NO lo wr (.slice na 1 nc) (zeroK 6)):=fun wr hb=>HNN.out.below hb
 clear HNN HNA
 go_loopw [8,9,29] (fun vm vn vi wr=>∃ (i:Nat) (M:List Tr) (v':Value),v'=vm∧vn=.int .i64 ((lens M:Int) - 1)∧vi=.int .i64 i∧i≤ln∧(∀ x ∈ L.take i,x≠zeroK 6)∧M=Mb 6 (jF 6 (L.take i))∧(∀ j,j≤i→(jF 6 (L.take j)).flat.length≤4000)∧Prt lo wr W0.heap.size v' M∧Below W0.heap.size W0 wr) (fun _ _ vi _=>ln - (intOf vi).toNat)
 case atStart =>
  refine ⟨0,[],_,rfl,by simp [lens],rfl,Nat.zero_le _,fun x hx=>by simp at hx,?_,fun j hj=>?_,prt_of (PX.nil _ _) (World.ownsRow_nil _ _ _ _),Below.refl _ _⟩
  ·rw [List.take_zero];exact (mb_nil.2 rfl).symm
  ·have e:j=0:=by omega
   rw [e,List.take_zero]
   have:=unit_len 6
   show (unitK 6).flat.length ≤ 4000
   omega
 case round =>
  obtain ⟨i,M,v',rfl,rfl,rfl,hi,hnz,hM,hfit,hprt,hb⟩:=hrel
  have HNZ:Hid (∀ x ∈ L.take i,x≠zeroK 6):=hnz
  have HM:Hid (M=Mb 6 (jF 6 (L.take i))):=hM
  have HFI:Hid (∀ j,j≤i→(jF 6 (L.take j)).flat.length≤4000):=hfit
  have HPR:Hid (Prt lo wr W0.heap.size v' M):=hprt
  have HBB:Hid (Below W0.heap.size W0 wr):=hb
  have hjo:=jF_ok (k:=6) kk6 (l:=L.take i) (fun x hx=>HOK.out x (List.mem_of_mem_take hx))
  have HJO:Hid ((jF 6 (L.take i)).ok∧NF (jF 6 (L.take i))):=hjo
  have hML:lens M≤4001:=by rw [hM];exact mb_lens hjo.1 (hfit i (Nat.le_refl _))
  obtain ⟨pa,pc,rfl⟩:=own_one hprt.px.choose_spec.2
  clear hnz hM hfit hprt hb hjo
  have hMl:M.length≤2000:=by have:=lens_two M;omega
  by_cases hlt : i < ln
  ·have hltI:(i:Int)<ln:=by omega
   obtain ⟨g,ua,uc,x,rfl,hx,hgw,hcx,hnx,hxl⟩:=HCE.out i hlt
   have hww:Below w.heap.size w wr:=HBW.out.trans (HBB.out.mono HBW.out.size)
   have hcx':wr.cell? ⟨g,i,none⟩=some (.slice ua x.flat.length uc):=by rw [below_cell hww hgw];exact hcx
   have HNX:Hid (NO lo wr (.slice ua x.flat.length uc) x):=hnx.below hww
   have HX:Hid (L[i]?=some x):=hx
   have HXO:Hid (x.ok∧NF x):=HOK.out x (List.mem_of_getElem? hx)
   have HEQ:Hid (Calls Tryz.prog 30 #[.slice ua x.flat.length uc,.slice na 1 nc] wr fun e w'=>e=.returned (.bool (decide (x.flat=(zeroK 6).flat)))∧Below wr.heap.size wr w'):=sequal_any _ _ _ _ wr HNX.out.reads (HZ.out wr HBB.out).reads (by omega)
   have HWW:Hid (Below w.heap.size w wr):=hww
   have HXL:Hid (x.flat.length≤4000):=hxl
   have HLT:Hid (i<ln):=hlt
   clear hnx hx hcx hww
   by_cases cz : x = zeroK 6
   ·have hd:decide (x.flat=(zeroK 6).flat)=true:=by rw [cz];simp
    rw [hd] at HEQ
    have HCZ:Hid (L[i]?=some (zeroK 6)):=by show _=_;rw [HX.out,cz]
    clear hd cz
    go_wp2_with fail
    refine HEQ.out.mono ?_
    rintro e w2 ⟨rfl,hb2⟩
    have HB2:Hid (Below W0.heap.size W0 w2):=go_on HBB.out hb2
    have HW2:Hid (Below w.heap.size w w2):=go_on HWW.out hb2
    clear hb2
    go_wp2_with fail
    go_ret2
    have hj:jF 6 L=zeroK 6:=by
     have:=jF_zero HCZ.out L.length (by rw [HLN.out];exact HLT.out)
     rwa [List.take_length] at this
    refine .inr ⟨fun j hj'=>?_,_,rfl,by rw [hj];exact HZ.out w2 HB2.out,HW2.out⟩
    by_cases c1 : j ≤ i
    ·exact HFI.out j c1
    ·rw [jF_zero HCZ.out j (by omega)]
     have:=zero_len 6
     omega
   ·have hd:decide (x.flat=(zeroK 6).flat)=false:=by
     simp only [decide_eq_false_iff_not]
     exact fun e=>cz (flat_inj HXO.out.1 (zero_ok 6) e)
    rw [hd] at HEQ
    have HCZ:Hid (x≠zeroK 6):=cz
    have HMO:Hid (∀ w2,Below wr.heap.size wr w2→Calls Tryz.prog 92 #[.int .i64 6,.slice ua x.flat.length uc,.slice (some ⟨w1.heap.size,0,none⟩) 2 2] w2 (MoQ lo (Mb 6 x) w2)):=fun w2 hb2 =>
     membersOf_any kk6 HXO.out.1 HXO.out.2 HXL.out (HNX.out.below hb2) (HU.out w2 (go_on HBB.out hb2)).reads (HP.out.stay (go_on HWW.out hb2)) (Nat.le_trans HLO.out (go_on HWW.out hb2).size)
    clear hd cz
    go_wp2_with fail
    refine HEQ.out.mono ?_
    rintro e w2 ⟨rfl,hb2⟩
    have HB2:Hid (Below wr.heap.size wr w2):=hb2
    clear hb2 hcx' HEQ
    go_wp2_with fail
    refine (HMO.out _ HB2.out).mono ?_
    rintro e w3 ⟨vl,rfl,hpl,hb3⟩
    obtain ⟨la,lc,rfl⟩:=own_one hpl.px.choose_spec.2
    have HPL:Hid (Prt lo w3 w2.heap.size (.slice la (Mb 6 x).length lc) (Mb 6 x)):=hpl
    have HB3:Hid (Below wr.heap.size wr w3):=go_on HB2.out hb3
    have HS2:Hid (wr.heap.size≤w2.heap.size):=HB2.out.size
    have hxl2:lens (Mb 6 x)≤4001:=mb_lens HXO.out.1 HXL.out
    have hbl:(Mb 6 x).length≤2001:=by have:=lens_two (Mb 6 x);omega
    have HXO1:Hid (Oks (Mb 6 x)):=mb_oks HXO.out.1
    clear hpl hb3 HMO
    obtain ⟨MX,hMX⟩:∃ MX,Mb 6 x=MX:=⟨_,rfl⟩
    have HMX:Hid (Mb 6 x=MX):=hMX
    rw [hMX] at HPL hxl2 hbl HXO1 ⊢
    clear hMX
    go_wp2_with fail
    obtain ⟨wo,rfl⟩:∃ x,x=wr:=⟨_,rfl⟩
    go_loopw [8,9,42] (fun vm vn vj wr=>∃ (j:Nat) (M':List Tr) (v':Value),v'=vm∧vn=.int .i64 ((lens M':Int) - 1)∧vj=.int .i64 j∧j≤MX.length∧M'=insL M (MX.take j)∧Prt lo wr W0.heap.size v' M'∧Prt lo wr W0.heap.size (.slice la MX.length lc) MX∧(∀ b,v'.ownBlock=some b→(Value.slice la MX.length lc).ownBlock≠some b)∧Below W0.heap.size W0 wr) (fun _ _ vj _=>MX.length - (intOf vj).toNat)
    case atStart =>
     have hs0:=HBB.out.size
     have hs2:wo.heap.size≤w2.heap.size:=HS2.out
     refine ⟨0,M,_,rfl,rfl,rfl,Nat.zero_le _,by simp [insL],HPR.out.below HB3.out,HPL.out.mono (by omega),fun b h1 h2=>?_,go_on HBB.out HB3.out⟩
     have k1:=(HPR.out.px.choose_spec.2.lt b h1).2
     have k2:=(HPL.out.px.choose_spec.2.lt b h2).1
     omega
    case round =>
     obtain ⟨j,M',v2,rfl,rfl,rfl,hj,hM',hp1,hp2,hdj,hbw⟩:=hrel
     have HM':Hid (M'=insL M (MX.take j)):=hM'
     have HP1:Hid (Prt lo wr W0.heap.size v2 M'):=hp1
     have HP2:Hid (Prt lo wr W0.heap.size (.slice la MX.length lc) MX):=hp2
     have HDJ:Hid (∀ b,v2.ownBlock=some b→(Value.slice la MX.length lc).ownBlock≠some b):=hdj
     have HBW2:Hid (Below W0.heap.size W0 wr):=hbw
     have hL':lens M'≤8002:=by have h1:=lens_insL (MX.take j) M;have h2:=dlens_take MX j;rw [← hM'] at h1;omega
     have hl':M'.length≤4001:=by have:=lens_two M';omega
     have hspec:=insL_spec (l:=MX.take j) (M:=M) (by rw [HM.out];exact mb_oks HJO.out.1) (by rw [HM.out];exact (mb_mem kk6 HJO.out.1 HJO.out.2).1) (fun m hm=>HXO1.out m (List.mem_of_mem_take hm))
     rw [← hM'] at hspec
     have HRI:Hid (Ris M'):=hspec.2.1
     obtain ⟨qa,qc,rfl⟩:=own_one hp1.px.choose_spec.2
     clear hM' hp1 hp2 hdj hbw hspec
     have HJ:Hid (j≤MX.length):=hj
     by_cases hjl : j < MX.length
     ·have hjI:(j:Int)<MX.length:=by omega
      obtain ⟨ms,hmx,hmr⟩:=HP2.out.px
      obtain ⟨m,hm⟩:∃ m,MX[j]?=some m:=⟨_,List.getElem?_eq_getElem hjl⟩
      obtain ⟨um,hu1,hu2,hu3⟩:=hmx.at_ j m hm
      obtain ⟨ma,mc,rfl⟩:=own_one hu2
      obtain ⟨lg,rfl,hcm⟩:∃ lg,la=some ⟨lg,0,none⟩∧wr.cell? ⟨lg,j,none⟩=some (.slice ma m.flat.length mc):=by
       rcases hmr.2 with ⟨_,h0⟩ | ⟨lg,cap,cur,e,_⟩
       ·omega
       ·simp only [Value.slice.injEq] at e
        obtain ⟨rfl,_⟩:=e
        have hc:=hmr.cells (g:=lg) rfl j _ hu1
        rw [Addr.add_lit,Nat.zero_add] at hc
        exact ⟨lg,rfl,hc⟩
      have HMM:Hid (MX[j]?=some m):=hm
      have HUM:Hid (NO lo wr (.slice ma m.flat.length mc) m):=hu2
      have HML:Hid (m.flat.length≤4000):=hu3
      have HSR:=search_any HP1.out HRI.out hl' HUM.out.reads HML.out
      have HSE:Hid (Calls Tryz.prog 93 #[.slice qa M'.length qc,.slice ma m.flat.length mc,fCmp] wr (SrQ M' m wr)):=HSR
      have HJL:Hid (j<MX.length):=hjl
      unfold fCmp at HSE
      clear hmx hmr hm hu1 hu2 HSR
      go_wp2_with fail
      refine HSE.out.mono ?_
      rintro e w4 ⟨t,rfl,ht1,ht2,ht3,hb4⟩
      have HT:Hid (t≤M'.length∧(∀ j,j<t→ct (M'.getD j tNone).flat m.flat<0)∧(t<M'.length→¬ ct (M'.getD t tNone).flat m.flat<0)):=⟨ht1,ht2,ht3⟩
      have HB4:Hid (Below wr.heap.size wr w4):=hb4
      clear ht2 ht3 hb4 HSE hcm
      by_cases ck:t<M'.length∧ct (M'.getD t tNone).flat m.flat=0
      ·have HCK:Hid (t<M'.length∧ct (M'.getD t tNone).flat m.flat=0):=ck
       rw [decide_eq_true ck]
       clear ck
       go_wp2_with fail
       go_roundw
       case rel =>
        have hjl':j<MX.length:=HJL.out
        refine ⟨j+1,M',_,rfl,rfl,by go_num,hjl',?_,HP1.out.below HB4.out,HP2.out.below HB4.out,HDJ.out,go_on HBW2.out HB4.out⟩
        rw [insL_succ HMM.out,← HM'.out,ins_found HT.out.1 HT.out.2.1 (fun h=>Int.not_lt.2 (HT.out.2.2 h)) HCK.out]
       case measure=>simp [intOf];have hjl':j<MX.length:=HJL.out;omega
      ·have HCK:Hid (¬ (t<M'.length∧ct (M'.getD t tNone).flat m.flat=0)):=ck
       rw [decide_eq_false ck]
       clear ck
       have hn1:IntKind.i64.wrap ((lens M':Int) - 1+((m.flat.length:Int)+1))=(lens M':Int) - 1+((m.flat.length:Int)+1):=by rw [IntKind.wrap_i64];omega
       go_wp2_with fail
       have HPA:Hid (Prt lo (w4.alloc (.cells #[.slice ma m.flat.length mc] 22)) W0.heap.size (.slice qa M'.length qc) M'):=(HP1.out.below HB4.out).below ((Below.refl _ _).alloc (Nat.le_refl _) _)
       have hs4:W0.heap.size≤w4.heap.size:=(go_on HBW2.out HB4.out).size
       refine (insert_any HPA.out HT.out.1 (m:=m) (u:=.slice ma m.flat.length mc) ((HUM.out.below HB4.out).below ((Below.refl _ _).alloc (Nat.le_refl _) _)) HML.out (vb:=w4.heap.size) (heap_alloc_new w4 _) (fun e=>by have:=((HP1.out.below HB4.out).px.choose_spec.2.lt _ e).2;omega) hl' (by simp;omega)).mono ?_
       rintro e w5 ⟨v5,rfl,hp5,hg5,hl5⟩
       have HP5:Hid (Prt lo w5 W0.heap.size v5 (M'.take t ++ m :: M'.drop t)):=hp5
       have HG5:Hid ((w4.alloc (.cells #[.slice ma m.flat.length mc] 22)).grownBy w5 (Value.ownBlock (.slice qa M'.length qc))):=hg5
       have HL5:Hid (∀ b,v5.ownBlock=some b→(Value.slice qa M'.length qc).ownBlock=some b∨(w4.alloc (.cells #[.slice ma m.flat.length mc] 22)).heap.size≤b):=hl5
       clear hp5 hg5 hl5
       go_wp2_with fail
       go_roundw
       case rel =>
        have hjl':j<MX.length:=HJL.out
        have hin:=ins_new2 HT.out.1 HT.out.2.1 (fun h=>Int.not_lt.2 (HT.out.2.2 h)) HCK.out
        have hal:Below w4.heap.size w4 (w4.alloc (.cells #[.slice ma m.flat.length mc] 22)):=(Below.refl _ _).alloc (Nat.le_refl _) _
        have hpl:Prt lo (w4.alloc (.cells #[.slice ma m.flat.length mc] 22)) W0.heap.size (.slice (some ⟨lg,0,none⟩) MX.length lc) MX:=(HP2.out.below HB4.out).below hal
        have hpr:=HPA.out.px.choose_spec.2
        refine ⟨j+1,ins m M',v5,rfl,?_,by go_num,hjl',?_,by rw [hin.1];exact HP5.out,hpl.grown HG5.out hpr (.inr (fun e=>?_)),fun b h1 h2=>?_,?_⟩
        ·rw [hin.2];congr 1;omega
        ·rw [insL_succ HMM.out,← HM'.out]
        ·exact HDJ.out lg e.symm rfl
        ·rcases HL5.out b h1 with h3 | h3
         ·exact HDJ.out b h3 h2
         ·have:=(hpl.px.choose_spec.2.lt b h2).2
          omega
        ·exact ((go_on HBW2.out HB4.out).trans (hal.mono hs4)).grown HG5.out (by simp;omega) (fun b h1=>(hpr.lt b h1).1)
       case measure=>simp [intOf];have hjl':j<MX.length:=HJL.out;omega
     ·have hjI:¬ (j:Int)<MX.length:=by omega
      have HJE:Hid (j=MX.length):=by show _=_;omega
      have hjn:M'=Mb 6 (jF 6 (L.take (i+1))):=by
       rw [HM'.out,HJE.out,List.take_length,← HMX.out]
       conv=>lhs;rw [HM.out]
       rw [← mb_join kk6 HJO.out.1 HJO.out.2 HXO.out.1 HXO.out.2 (jF_ne kk6 _ (fun y hy=>⟨(HOK.out y (List.mem_of_mem_take hy)).1,(HOK.out y (List.mem_of_mem_take hy)).2,HNZ.out y hy⟩)) HCZ.out]
       congr 1
       have hil:i<L.length:=by rw [HLN.out];exact HLT.out
       rw [List.take_succ_eq_append_getElem hil,jF_snoc,(List.getElem?_eq_some_iff.1 HX.out).2]
      have HJN:Hid (M'=Mb 6 (jF 6 (L.take (i+1)))):=hjn
      have hjo1:=jF_ok (k:=6) kk6 (l:=L.take (i+1)) (fun y hy=>HOK.out y (List.mem_of_mem_take hy))
      have HLL:Hid ((lens M':Int) - 1≤4000↔(jF 6 (L.take (i+1))).flat.length≤4000):=by
       show _ ↔ _
       by_cases cu : jF 6 (L.take (i + 1)) = unitK 6
       ·have e0:M'=[]:=by rw [hjn];exact mb_nil.2 cu
        have:=unit_len 6
        rw [e0,cu]
        simp [lens]
        omega
       ·have h1:=(mb_len hjo1.1 cu).1
        rw [← hjn] at h1
        omega
      clear hjn hjo1
      by_cases c4 : (lens M' : Int) - 1 ≤ 4000
      ·have hg4:¬ (4000:Int)<(lens M':Int) - 1:=by omega
       have HC4:Hid ((lens M':Int) - 1≤4000):=c4
       go_wp2_with fail
       go_roundw
       case rel =>
        have hlt':i<ln:=HLT.out
        refine ⟨i+1,M',_,rfl,rfl,by go_num,hlt',fun y hy=>?_,HJN.out,fun t ht=>?_,HP1.out,HBW2.out⟩
        ·have hil:i<L.length:=by rw [HLN.out];exact HLT.out
         rw [List.take_succ_eq_append_getElem hil] at hy
         rcases List.mem_append.1 hy with hy | hy
         ·exact HNZ.out y hy
         ·simp only [List.mem_singleton] at hy
          rw [hy,(List.getElem?_eq_some_iff.1 HX.out).2]
          exact HCZ.out
        ·by_cases c5 : t ≤ i
         ·exact HFI.out t c5
         ·have e5:t=i+1:=by omega
          rw [e5];exact HLL.out.1 HC4.out
       case measure=>simp [intOf];have hlt':i<ln:=HLT.out;omega
      ·have hg4:(4000:Int)<(lens M':Int) - 1:=by omega
       have HC4:Hid (¬ (lens M':Int) - 1≤4000):=c4
       go_wp2_with fail
       go_ret2
       refine .inl ⟨fun hj9=>Int.not_le.2 HC4.out (HLL.out.2 (hj9 (i+1) (by rw [HLN.out];exact HLT.out))),rfl,HBW.out.trans (HBW2.out.mono HBW.out.size)⟩
  ·have hltI:¬ (i:Int)<ln:=by omega
   have HIE:Hid (i=ln):=by show _=_;omega
   have HJL:Hid (M=Mb 6 (jF 6 L)):=by show _=_;rw [HM.out,HIE.out,← HLN.out,List.take_length]
   have HOKJ:Hid (jOK 6 L):=fun j hj=>HFI.out j (by rw [HIE.out,← HLN.out];exact hj)
   have HJO2:Hid ((jF 6 L).ok):=(jF_ok kk6 HOK.out).1
   have HBR:Hid (Below w.heap.size w wr):=HBW.out.trans (HBB.out.mono HBW.out.size)
   by_cases cM : M = []
   ·subst cM
    have HJU:Hid (jF 6 L=unitK 6):=mb_nil.1 HJL.out.symm
    go_wp2_with fail
    go_ret2
    exact .inr ⟨HOKJ.out,_,rfl,by rw [HJU.out];exact HU.out wr HBB.out,HBR.out⟩
   ·have hM0:¬ (M.length=0):=fun e=>cM (List.eq_nil_of_length_eq_zero e)
    have HMNE:Hid (M≠[]):=cM
    have HJB:Hid (jF 6 L=build 6 M∧(jF 6 L).flat.length+1=lens M):=by
     have hne:jF 6 L≠unitK 6:=fun e=>cM (by rw [HJL.out];exact mb_nil.2 e)
     have h1:=mb_len HJO2.out hne
     rw [← HJL.out] at h1
     exact ⟨h1.2,h1.1⟩
    obtain ⟨ms,hmx,hmr⟩:=HPR.out.px
    obtain ⟨pg,rfl⟩:∃ pg,pa=some ⟨pg,0,none⟩:=by
     rcases hmr.2 with ⟨_,h0⟩ | ⟨lg,cap,cur,e,_⟩
     ·omega
     ·simp only [Value.slice.injEq] at e
      exact ⟨lg,e.1⟩
    have hpcap:M.length≤pc:=own_cap hmr
    have HCM:Hid (∀ w1,Below wr.heap.size wr w1→∀ j,j<M.length→∃ mg mc m,M[j]?=some m∧w1.cell? ⟨pg,j,none⟩=some (.slice (some ⟨mg,0,none⟩) m.flat.length mc)∧NO lo w1 (.slice (some ⟨mg,0,none⟩) m.flat.length mc) m):=by
     intro w1 hb j hj
     obtain ⟨u,h1,h2,h3⟩:=hmx.at_ j M[j] (List.getElem?_eq_getElem hj)
     have hc:=hmr.cells (g:=pg) rfl j _ h1
     rw [Addr.add_lit,Nat.zero_add] at hc
     have hfp:=flat_pos M[j]
     rcases h2.2 with ⟨_,h0⟩ | ⟨mg,mc,cur,rfl,_⟩
     ·omega
     ·exact ⟨mg,mc,_,List.getElem?_eq_getElem hj,by rw [below_cell hb (hmr.lt pg rfl).2];exact hc,h2.below hb⟩
    obtain ⟨mg,mc,m0,hm0,hc0,hn0⟩:=HCM.out wr (Below.refl _ _) 0 (by omega)
    have HM0:Hid (M[0]?=some m0):=hm0
    have hm0l:m0.flat.length≤4001:=by have:=mem_lens1 (List.mem_of_getElem? hm0);omega
    have HCL:Hid (Calls Tryz.prog 96 #[.slice (some ⟨mg,0,none⟩) m0.flat.length mc] wr fun e w'=>∃ v,e=.returned v∧v≠.slice none 0 0∧w'.ownsRow wr.heap.size 51 2 v m0.flat.length (ndC m0.flat)∧Below wr.heap.size wr w'):=clone_any _ _ _ wr hn0.reads (by omega)
    clear hmx hmr hm0 hn0 cM
    have hM1:1≤M.length:=by omega
    have hMI:¬ ((M.length:Int)=0):=by omega
    go_wp2_with fail
    refine HCL.out.mono ?_
    rintro e w6 ⟨v6,rfl,_,ho6,hb6⟩
    have HO6:Hid (w6.ownsRow wr.heap.size 51 2 v6 m0.flat.length (ndC m0.flat)):=ho6
    have HB6:Hid (Below wr.heap.size wr w6):=hb6
    clear ho6 hb6 HCL hc0
    obtain ⟨i0,hi0,hz0,hz1,hz2⟩:=info_parts Tryz.info_node
    by_cases hpc : pc = 1
    ·have HM1:Hid (M.length=1):=by show _=_;omega
     subst hpc
     have hMe:M.length=1:=by omega
     go_wp2_with fail
     refine wp_loop_rounds 1 ?_
     rw [rounds_succ]
     go_wp2_with fail
     go_ret2
     have e1:M=[m0]:=by
      obtain ⟨y,hy⟩:=List.length_eq_one_iff.1 HM1.out
      have:=HM0.out
      rw [hy] at this ⊢
      simp at this
      rw [this]
     refine .inr ⟨HOKJ.out,v6,rfl,?_,HBR.out.trans (HB6.out.mono HBR.out.size)⟩
     rw [HJB.out.1,e1]
     exact own_mono HO6.out (Nat.le_trans HLO.out HBR.out.size)
    ·have HLM:Hid (lens M≤4001):=hML
     go_wp2_with fail
     obtain ⟨wo,rfl⟩:∃ x,x=wr:=⟨_,rfl⟩
     go_loopw [16,79] (fun vo vt wr=>∃ (t:Nat) (v7:Value),v7=vo∧vt=.int .i64 t∧t+1≤M.length∧wr.ownsRow wo.heap.size 51 2 v7 (build 6 (M.take (t+1))).flat.length (ndC (build 6 (M.take (t+1))).flat)∧Below wo.heap.size wo wr) (fun _ vt _=>M.length - (intOf vt).toNat)
     case atStart =>
      refine ⟨0,v6,rfl,rfl,hM1,?_,HB6.out⟩
      have e1:M.take 1=[m0]:=by
       cases M with
       | nil=>exact absurd rfl HMNE.out
       | cons y l =>
        have:=HM0.out
        simp at this
        simp [this]
      rw [Nat.zero_add,e1]
      exact HO6.out
     case round =>
      obtain ⟨t,v7,rfl,rfl,ht,ho7,hb7⟩:=hrel
      have HO7:Hid (wr.ownsRow wo.heap.size 51 2 v7 (build 6 (M.take (t+1))).flat.length (ndC (build 6 (M.take (t+1))).flat)):=ho7
      have HB7:Hid (Below wo.heap.size wo wr):=hb7
      have HT:Hid (t+1≤M.length):=ht
      clear ho7 hb7
      by_cases htl : t + 1 < M.length
      ·have htI:(t:Int)<(M.length:Int) - 1:=by omega
       have htN:t<M.length - 1:=by omega
       obtain ⟨mg,mc,m,hm,hcm,hnm⟩:=HCM.out wr HB7.out (t+1) htl
       rw [Nat.add_comm t 1] at hcm
       have HMM:Hid (M[t+1]?=some m):=hm
       have HNM:Hid (NReads wr (.slice (some ⟨mg,0,none⟩) m.flat.length mc) m.flat):=hnm.reads
       have HBS:Hid (build 6 (M.take (t+1+1))=.two (6,0) (build 6 (M.take (t+1))) m):=by
        show _ = _
        rw [List.take_succ_eq_append_getElem htl,(List.getElem?_eq_some_iff.1 hm).2,build_snoc _ (fun e=>by have h9:=congrArg List.length e;rw [List.length_take,List.length_nil] at h9;omega)]
       have hln:(build 6 (M.take (t+1))).flat.length+m.flat.length+1≤4000:=by
        have h1:=len_build (k:=6) (l:=M.take (t+1+1)) (fun e=>by have h9:=congrArg List.length e;rw [List.length_take,List.length_nil] at h9;omega)
        have h2:=dlens_take M (t+1+1)
        have h3:lens M≤4001:=HLM.out
        rw [HBS.out] at h1
        simp [Tr.flat] at h1
        omega
       obtain ⟨bl,hbl⟩:∃ bl,(build 6 (M.take (t+1))).flat.length=bl:=⟨_,rfl⟩
       rw [hbl] at HO7 hln
       have HBL:Hid ((build 6 (M.take (t+1))).flat.length=bl):=hbl
       have HTL:Hid (t+1<M.length):=htl
       have hsw:wo.heap.size≤wr.heap.size:=HB7.out.size
       clear hm hnm hbl
       go_wp2_with (at_builtin;(first
        | (refine wpList_append_own _ rfl _ _ 22 rfl wo.heap.size 51 i0 (.agg #[.int .i64 0,.int .u8 0]) 2 16 Tryz.underlying22 hi0 hz0 hz1 hz2 rfl (by decide) _ _ _ rfl HO7.out ⟨mg,0,none⟩ m.flat.length mc (ndC m.flat) rfl (ndC_length _) (nreads_cells HNM.out) (ndC_one _) (by unfold maxLen;omega) (by omega) hsw ?_;intro v8 w8 ho8 hg8 _;have HO8:Hid (w8.ownsRow wo.heap.size 51 2 v8 (bl+m.flat.length) (ndC (build 6 (M.take (t+1))).flat ++ ndC m.flat)):=ho8;have HG8:Hid (wr.grownBy w8 v7.ownBlock):=hg8;have hs8:wo.heap.size≤w8.heap.size:=Nat.le_trans hsw hg8.size;clear ho8 hg8)
        | (refine wpList_append_own _ rfl _ _ 22 rfl wo.heap.size 51 i0 (.agg #[.int .i64 0,.int .u8 0]) 2 16 Tryz.underlying22 hi0 hz0 hz1 hz2 rfl (by decide) _ _ _ rfl (HO8.out.alloc _) ⟨w8.heap.size,0,none⟩ 1 1 [.int .i64 6,.int .u8 0] rfl rfl (cell_two_new _ _ _ _) (by intro u hu;simp at hu;rcases hu with rfl | rfl <;> rfl) (by unfold maxLen;omega) (by omega) (by simp;omega) ?_;intro v9 w9 ho9 hg9 _;have HO9:Hid (w9.ownsRow wo.heap.size 51 2 v9 (bl+m.flat.length+1) (ndC (build 6 (M.take (t+1))).flat ++ ndC m.flat ++ [.int .i64 6,.int .u8 0])):=ho9;have HG9:Hid ((w8.alloc (.cells #[.int .i64 6,.int .u8 0] 51)).grownBy w9 v8.ownBlock):=hg9;clear ho9 hg9)))
       go_roundw
       case rel =>
        refine ⟨t+1,v9,rfl,by go_num,HTL.out,?_,?_⟩
        ·rw [HBS.out]
         have e9:(Tr.two (6,0) (build 6 (M.take (t+1))) m).flat=(build 6 (M.take (t+1))).flat ++ m.flat ++ [(6,0)]:=rfl
         rw [e9,ndC_append,ndC_append,List.length_append,List.length_append,HBL.out]
         exact HO9.out
        ·have b8:Below wo.heap.size wo w8:=HB7.out.grown HG8.out hsw (fun b hb=>(HO7.out.lt b hb).1)
         have b8a:Below wo.heap.size wo (w8.alloc (.cells #[.int .i64 6,.int .u8 0] 51)):=b8.alloc b8.size _
         exact b8a.grown HG9.out (by simp;omega) (fun b hb=>(HO8.out.lt b hb).1)
       case measure=>simp [intOf];have h5:t+1<M.length:=HTL.out;omega
      ·have htI:¬ (t:Int)<(M.length:Int) - 1:=by omega
       have htN:¬ t<M.length - 1:=by omega
       have HTE:Hid (t+1=M.length):=by show _=_;omega
       go_wp2_with fail
       go_ret2
       refine .inr ⟨HOKJ.out,v7,rfl,?_,HBR.out.trans (HB7.out.mono HBR.out.size)⟩
       have h9:=HO7.out
       rw [HTE.out,List.take_length,← HJB.out.1] at h9
       exact own_mono h9 (Nat.le_trans HLO.out HBR.out.size)
end Go.Proofs.YtfdhaknecjcjoaaGreatDoor
