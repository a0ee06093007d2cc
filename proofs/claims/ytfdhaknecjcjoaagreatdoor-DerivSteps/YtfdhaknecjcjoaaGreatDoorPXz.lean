/- The program's Members. -/
import Derived.Test.YtfdhaknecjcjoaaGreatDoorPXu
import Derived.Test.YtfdhaknecjcjoaaGreatDoorPNt
namespace Go.Proofs.YtfdhaknecjcjoaaGreatDoor
open Go Go.RowKit
set_option linter.unusedVariables false

/-- What Members answers. -/
def MemR (k:Int) (ts:List Nd) (E:Int) (ms:List Tr):Prop:=(k≠5∧k≠6∧E=1∧ms=[])∨((k=5∨k=6)∧wrong ts≠0∧E=wrong ts∧ms=[])∨((k=5∨k=6)∧∃ T:Tr,T.ok∧T.flat=ts∧wrong ts=0∧E=0∧ms=Mb k (nrm T))
def MQ (E:Int) (ms:List Tr) (w:World) (e:Ending) (w':World):Prop:=∃ v vs,e=.returned (.tuple #[v,.int .i64 E])∧Told3 w' w.heap.size v vs (ms.map Tr.flat)∧Below w.heap.size w w'

abbrev SM (W:World) (B:Nat) (u:Value) (w':World):Prop:=w'.cell? ⟨B,0,none⟩=some u∧Below W.heap.size W w'
theorem sm_step {W:World} {B:Nat} {u:Value} {w1 w2:World} (h1:B<W.heap.size) (hb:Below w1.heap.size w1 w2) (h:SM W B u w1):SM W B u w2:=by
 have hs:=h.2.size
 refine ⟨?_,go_on h.2 hb⟩
 rw [below_cell hb (by omega)];exact h.1
/-- The table's unit. -/
def vUnit (k:Int) (b:Nat):Value:=if k=5 then vNone b else vAll b
theorem unit_reads {w:World} {b:Nat} (h:Rls w b) (k:Int):NReads w (vUnit k b) (unitK k).flat:=by
 unfold vUnit unitK
 split
 ·exact row_reads (ts:=tNone.flat) h.none
 ·exact row_reads (ts:=tAll.flat) h.all

theorem run_idx5 (b:Nat) (w:World):(Instr.index 97 (.agg (tabC b)) (.int .i64 5)).run Tryz.prog w=.ok (.agg #[vNone b,vAll b,fnV 81]) w:=by kernel_rfl
theorem run_idx6 (b:Nat) (w:World):(Instr.index 97 (.agg (tabC b)) (.int .i64 6)).run Tryz.prog w=.ok (.agg #[vAll b,vNone b,fnV 83]) w:=by kernel_rfl

set_option maxHeartbeats 8000000 in
set_option maxRecDepth 100000 in
theorem members_good5 (T:Tr) (ho:T.ok) (a:Option Addr) (c:Nat) (w:World) (hv:NReads w (.slice a T.flat.length c) T.flat) (hP:PTab w) (h0:wrong T.flat=0):Calls Tryz.prog 119 #[.int .i64 5,.slice a T.flat.length c] w (MQ 0 (Mb 5 (nrm T)) w):=by
 unfold MQ
 obtain ⟨hl,hf⟩:=wrong_zero h0
 have HC:=nerr_any (.slice a T.flat.length c) T.flat w hv (by omega) hP
 rw [h0] at HC
 have hok:=nrm_ok ho
 have hln:=nrm_len ho
 have HN:Hid (∀ w',Below w.heap.size w w'→Calls Tryz.prog 35 #[.slice a T.flat.length c] w' fun en w9=>∃ (B:Nat) (F:Fb),en=.returned (.pointer (some ⟨B,0,none⟩))∧FT w'.heap.size w9 B [nrm T] F∧Below w'.heap.size w' w9):=fun w' hb=>normal_any a c T ho w' (hv.stay hb) (by omega)
 obtain ⟨n,hn⟩:∃ n,T.flat.length=n:=⟨_,rfl⟩
 obtain ⟨R,hR⟩:∃ R,nrm T=R:=⟨_,rfl⟩
 rw [hn] at HC HN ⊢
 rw [hR] at HN hok hln ⊢
 have HRO:Hid (R.ok∧NF R):=hok
 have hRl:R.flat.length≤4000:=by omega
 clear hv hP h0 hn hl hf hR hok hln ho
 go_enter Tryz.func119,Tryz.ntmps119
 go_wp2_with fail
 refine HC.mono ?_
 rintro e w1 ⟨rfl,hb1⟩
 have HB1:Hid (Below w.heap.size w w1):=hb1
 clear hb1 HC
 go_wp2_with fail
 refine (HN.out _ HB1.out).mono ?_
 rintro e w2 ⟨B,F,rfl,hf2,hb2⟩
 have hf2:FS w1.heap.size w2 B (flatL [R]) (szL [R]) F:=hf2
 rw [show flatL [R] = R.flat from flatL_one R] at hf2
 have HF:Hid (FS w1.heap.size w2 B R.flat (szL [R]) F):=hf2
 have HB2:Hid (Below w.heap.size w w2):=go_on HB1.out hb2
 have hBl:=hf2.lt
 have S0:SM w2 B (.slice (some ⟨F.nb,0,none⟩) R.flat.length F.nc) w2.drew:=⟨hf2.cells.1,(Below.refl _ _).drew⟩
 obtain ⟨b,hb⟩:∃ b,decide (R.flat=(unitK 5).flat)=b:=⟨_,rfl⟩
 have HBE:Hid (decide (R.flat=(unitK 5).flat)=b):=hb
 have HNR:Hid (NReads w2 (.slice (some ⟨F.nb,0,none⟩) R.flat.length F.nc) R.flat):=own_nreads hf2.nod
 clear hf2 hb2 hb HN
 have hix:=run_idx5
 have hfd:∀ (b:Nat) (w0:World),(Instr.field 96 (.agg #[vNone b,vAll b,fnV 81]) 0).run Tryz.prog w0=.ok (vUnit 5 b) w0:=fun b w0=>by kernel_rfl
 go_wp2_with fail
 go_region_held3 (fun w'=>SM w2 B (.slice (some ⟨F.nb,0,none⟩) R.flat.length F.nc) w') (first | exact S0 | assumption | exact sm_step hBl (by assumption) (by assumption)) (first
  | (go_at_call 52;refine (rules_any _).mono ?_;rintro e y1 ⟨rfl,hrl,hbr⟩)
  | (go_at_call 30;refine (sequal_any _ _ R.flat (unitK 5).flat _ (by exact HNR.out.stay (And.right (by assumption))) (by exact unit_reads hrl 5) (by omega)).mono ?_;rintro e y2 ⟨rfl,hbe⟩;rw [HBE.out]))
 all_goals (
  have hS:SM w2 B (.slice (some ⟨F.nb,0,none⟩) R.flat.length F.nc) y2:=by first | assumption | exact sm_step hBl (by assumption) (by assumption)
  have HF3:Hid (FS w1.heap.size y2 B R.flat (szL [R]) F):=HF.out.stay hS.2
  have HB3:Hid (Below w.heap.size w y2):=go_on HB2.out hS.2
  clear hS S0 hrl hbr hbe hix hfd
  cases b with
  | true =>
   have HMB:Hid (Mb 5 R=[]):=by
    show _ = _
    unfold Mb
    rw [if_pos (flat_inj HRO.out.1 (unit_ok 5) (of_decide_eq_true HBE.out))]
   go_wp2_with fail
   go_ret2
   exact ⟨_,_,rfl,by rw [HMB.out];exact Told3.nil _ _,HB3.out⟩
  | false =>
   have HMB:Hid (Mb 5 R=spine 5 R):=by
    show _ = _
    unfold Mb
    rw [if_neg (fun e=>of_decide_eq_false HBE.out (by rw [e]))]
   obtain ⟨p,hp⟩:∃ p,p=0:=⟨_,rfl⟩
   have HAT:Hid (At R.flat (szL [R]) p R.flat.length R):=by
    subst hp
    exact ⟨by omega,⟨[],[],by simp,rfl⟩,⟨[],[],by simp [szL],rfl⟩⟩
   have c0:=HF3.out.cells.1
   have hBy:=HF3.out.lt
   clear hp
   go_wp2_with fail
   refine (endingT HF3.out HAT.out).mono ?_
   rintro en w3 ⟨rfl,hb3⟩
   have HF4:Hid (FS w1.heap.size (w3.alloc (.cells #[.int .i64 (p:Int),.int .i64 (R.flat.length:Int)] 123)) B R.flat (szL [R]) F):=(HF3.out.stay hb3).stay ((Below.refl _ _).alloc (Nat.le_refl _) _)
   have HB4:Hid (Below w.heap.size w (w3.alloc (.cells #[.int .i64 (p:Int),.int .i64 (R.flat.length:Int)] 123))):=(go_on HB3.out hb3).alloc (go_on HB3.out hb3).size _
   clear hb3 c0
   go_wp2_with fail
   generalize w3.alloc (.cells #[.int .i64 (p:Int),.int .i64 (R.flat.length:Int)] 123)=wA at HF4 HB4 ⊢
   refine (members_any HF4.out HAT.out HRO.out.1 5 (by decide)).mono ?_
   rintro en w5 ⟨Q,v,hQ1,hQ2,hQ3,rfl,hoQ,hb5⟩
   have hQne:Q≠[]:=fun e=>spine_ne 5 R (by rw [← hQ1,e];rfl)
   have HQ1:Hid (trQ Q=spine 5 R):=hQ1
   have HQ2:Hid (PlQ R.flat (szL [R]) Q):=hQ2
   have HF5:Hid (FS w1.heap.size w5 B R.flat (szL [R]) F):=HF4.out.stay hb5
   have HB5:Hid (Below w.heap.size w w5):=go_on HB4.out hb5
   obtain ⟨g,o,rc,hv,hrc,hrc2,hgl,hcells⟩:=own_sreads (L:=spQ Q) (by rw [spQ_length];exact hoQ) (fun e=>hQne (by simpa [spQ] using e))
   subst hv
   rw [spQ_length] at hoQ hrc hcells ⊢
   have HCELL:Hid (∀ w',Below w5.heap.size w5 w'→∀ i,i<Q.length→w'.cell? ⟨g,o+i * 2,none⟩=some (.int .i64 (((spQ Q).getD i (0,0)).1:Int))∧w'.cell? ⟨g,o+i * 2+1,none⟩=some (.int .i64 (((spQ Q).getD i (0,0)).2:Int))):=fun w' hb i hi =>
    ⟨by rw [below_cell hb hgl];exact (hcells i hi).1,by rw [below_cell hb hgl];exact (hcells i hi).2⟩
   obtain ⟨nQ,hnQ⟩:∃ nQ,Q.length=nQ:=⟨_,rfl⟩
   have HNQ:Hid (Q.length=nQ):=hnQ
   rw [hnQ] at hQ3 hrc ⊢
   have HTL:Hid ((trQ Q).length=nQ):=by show _=_;rw [trQ,List.length_map];exact hnQ
   clear hQ1 hQ2 hQne hoQ hcells hb5 hnQ HB3 HF3 HB4 HF4 hBy
   obtain ⟨i1,hi1,hy0,hy1,hy2⟩:=info_parts Tryz.info_nodes
   go_wp2_with fail
   go_loopw [9,46] (fun vo vi wr=>∃ (i:Nat) (vs:List Value),i≤nQ∧vi=.int .i64 (i:Int)∧Told3 wr w5.heap.size vo vs (((trQ Q).take i).map Tr.flat)∧Below w5.heap.size w5 wr) (fun _ vi _=>nQ - (intOf vi).toNat)
   case atStart=>exact ⟨0,[],Nat.zero_le _,rfl,Told3.nil _ _,Below.refl _ _⟩
   case round =>
    obtain ⟨i,vs,hi,rfl,htd,hbr⟩:=hrel
    have hpl:(((trQ Q).take i).map Tr.flat).length=i:=by
     rw [List.length_map,List.length_take]
     have:=HTL.out
     omega
    obtain ⟨ps,hps⟩:∃ ps,((trQ Q).take i).map Tr.flat=ps:=⟨_,rfl⟩
    rw [hps] at htd hpl
    have HPL:Hid (ps.length=i):=hpl
    have hpn:ps.length≤100000:=by omega
    clear hpl
    obtain ⟨oa,oc,rfl⟩:=htd.shape
    have HTD:Hid (Told3 wr w5.heap.size (.slice oa ps.length oc) vs ps):=htd
    have HBR:Hid (Below w5.heap.size w5 wr):=hbr
    by_cases hlt : i < nQ
    ·have hltI:(i:Int)<nQ:=by omega
     have hiQ:i<Q.length:=by rw [HNQ.out];exact hlt
     obtain ⟨c0,c1⟩:=HCELL.out wr hbr i hiQ
     obtain ⟨⟨P,E,ti⟩,hQi⟩:∃ z,Q[i]=z:=⟨_,rfl⟩
     have hsp:(spQ Q).getD i (0,0)=(P,E):=by
      rw [List.getD_eq_getElem?_getD,spQ,List.getElem?_map,List.getElem?_eq_getElem hiQ,hQi];rfl
     have htr:(trQ Q)[i]?=some ti:=by rw [trQ,List.getElem?_map,List.getElem?_eq_getElem hiQ,hQi];rfl
     obtain ⟨hat,hoti⟩:=HQ2.out (P,E,ti) (by rw [← hQi];exact List.getElem_mem _)
     rw [hsp] at c0 c1
     have HTK:Hid (((trQ Q).take (i+1)).map Tr.flat=ps ++ [ti.flat]):=by show _=_;rw [List.take_add_one,htr,List.map_append,hps];rfl
     have HAT2:Hid (At R.flat (szL [R]) P E ti):=hat
     have hEP:E - P=ti.flat.length:=by have:=HAT2.out.end_;omega
     have hEl:ti.flat.length≤4000:=by have:=HAT2.out.le;omega
     have HB6:Hid (Below wr.heap.size wr (wr.alloc (.cells #[.int .i64 (P:Int),.int .i64 (E:Int)] 123))):=(Below.refl _ _).alloc (Nat.le_refl _) _
     have HF6:Hid (FS w1.heap.size (wr.alloc (.cells #[.int .i64 (P:Int),.int .i64 (E:Int)] 123)) B R.flat (szL [R]) F):=(HF5.out.stay HBR.out).stay HB6.out
     clear hat hsp htr hQi hoti htd hbr hps
     go_wp2_with fail
     refine (listV_any HF6.out HAT2.out).mono ?_
     rintro en w7 ⟨rfl,hb7⟩
     have hrd:=(HF6.out.stay hb7).reads HAT2.out
     unfold lstV at hrd ⊢
     rw [hEP] at hrd ⊢
     have HRD:Hid (NReads w7 (.slice (some ⟨F.nb,P * 2,none⟩) ti.flat.length (F.nc - P)) ti.flat):=hrd
     have HB7:Hid (Below wr.heap.size wr w7):=go_on HB6.out hb7
     clear hrd hb7 c0 c1 hEP HB6 HF6
     go_wp2_with fail
     refine (clone_any _ _ ti.flat _ HRD.out (by omega)).mono ?_
     rintro en w8 ⟨u,rfl,_,ho8,hb8⟩
     obtain ⟨ua,uc,rfl⟩:=own_shape ho8
     have HO8:Hid (w8.ownsRow w7.heap.size 51 2 (.slice ua ti.flat.length uc) ti.flat.length (ndC ti.flat)):=ho8
     have HB8:Hid (Below wr.heap.size wr w8):=go_on HB7.out hb8
     have HTD8:Hid (Told3 w8 w5.heap.size (.slice oa ps.length oc) vs ps):=HTD.out.stay HB8.out
     clear ho8 hb8
     go_wp2_with (at_builtin;refine wpList_append_own _ rfl _ _ 56 rfl w5.heap.size 22 i1 (.slice none 0 0) 1 24 Tryz.underlying56 hi1 hy0 hy1 hy2 rfl (by decide) _ _ _ rfl (HTD8.out.list.alloc _) ⟨w8.heap.size,0,none⟩ 1 1 [.slice ua ti.flat.length uc] rfl rfl ?f1 ?f2 ?f3 ?f4 ?f5 ?_)
     case f1=>exact cell_one_new _ _ _
     case f2=>intro u hu;simp at hu;subst hu;rfl
     case f3=>unfold maxLen;omega
     case f4=>omega
     case f5=>have h1:=HBR.out.size;have h2:=HB8.out.size;simp;omega
     intro v9 w9 ho9 hg9 _
     have HT9:Hid (Told3 w9 w5.heap.size v9 (vs ++ [.slice ua ti.flat.length uc]) (ps ++ [ti.flat])):=by
      refine HTD8.out.more (own_mono HO8.out (by have h1:=HBR.out.size;have h2:=HB7.out.size;omega)) (fun j hj b hb hb'=>?_) ((Below.refl _ _).alloc (Nat.le_refl _) _) ho9 hg9
      have h1:=HTD.out.old j hj b hb
      have h2:=(HO8.out.lt b hb').1
      have h3:=HB7.out.size
      omega
     have HB9:Hid (Below w5.heap.size w5 w9):=((go_on HBR.out HB8.out).alloc (go_on HBR.out HB8.out).size _).grown hg9 (by have h1:=HBR.out.size;have h2:=HB8.out.size;simp;omega) (fun k' hk'=>(HTD8.out.list.lt _ hk').1)
     clear ho9 hg9
     go_wp2_with fail
     go_roundw
     case rel=>exact ⟨i+1,_,by omega,by go_num,by rw [HTK.out];exact HT9.out,HB9.out⟩
     case measure=>simp [intOf];omega
    ·obtain rfl:i=nQ:=by omega
     have hltI:¬ (i:Int)<i:=by omega
     have HE:Hid ((Mb 5 R).map Tr.flat=ps):=by
      show _ = _
      rw [← hps,HMB.out,← HQ1.out,← HTL.out,List.take_length]
     clear htd hbr hps
     go_wp2_with fail
     go_ret2
     exact ⟨_,rfl,⟨vs,by rw [HE.out];exact HTD.out.mono HB5.out.size⟩,go_on HB5.out HBR.out⟩)

set_option maxHeartbeats 8000000 in
set_option maxRecDepth 100000 in
theorem members_good6 (T:Tr) (ho:T.ok) (a:Option Addr) (c:Nat) (w:World) (hv:NReads w (.slice a T.flat.length c) T.flat) (hP:PTab w) (h0:wrong T.flat=0):Calls Tryz.prog 119 #[.int .i64 6,.slice a T.flat.length c] w (MQ 0 (Mb 6 (nrm T)) w):=by
 unfold MQ
 obtain ⟨hl,hf⟩:=wrong_zero h0
 have HC:=nerr_any (.slice a T.flat.length c) T.flat w hv (by omega) hP
 rw [h0] at HC
 have hok:=nrm_ok ho
 have hln:=nrm_len ho
 have HN:Hid (∀ w',Below w.heap.size w w'→Calls Tryz.prog 35 #[.slice a T.flat.length c] w' fun en w9=>∃ (B:Nat) (F:Fb),en=.returned (.pointer (some ⟨B,0,none⟩))∧FT w'.heap.size w9 B [nrm T] F∧Below w'.heap.size w' w9):=fun w' hb=>normal_any a c T ho w' (hv.stay hb) (by omega)
 obtain ⟨n,hn⟩:∃ n,T.flat.length=n:=⟨_,rfl⟩
 obtain ⟨R,hR⟩:∃ R,nrm T=R:=⟨_,rfl⟩
 rw [hn] at HC HN ⊢
 rw [hR] at HN hok hln ⊢
 have HRO:Hid (R.ok∧NF R):=hok
 have hRl:R.flat.length≤4000:=by omega
 clear hv hP h0 hn hl hf hR hok hln ho
 go_enter Tryz.func119,Tryz.ntmps119
 go_wp2_with fail
 refine HC.mono ?_
 rintro e w1 ⟨rfl,hb1⟩
 have HB1:Hid (Below w.heap.size w w1):=hb1
 clear hb1 HC
 go_wp2_with fail
 refine (HN.out _ HB1.out).mono ?_
 rintro e w2 ⟨B,F,rfl,hf2,hb2⟩
 have hf2:FS w1.heap.size w2 B (flatL [R]) (szL [R]) F:=hf2
 rw [show flatL [R] = R.flat from flatL_one R] at hf2
 have HF:Hid (FS w1.heap.size w2 B R.flat (szL [R]) F):=hf2
 have HB2:Hid (Below w.heap.size w w2):=go_on HB1.out hb2
 have hBl:=hf2.lt
 have S0:SM w2 B (.slice (some ⟨F.nb,0,none⟩) R.flat.length F.nc) w2.drew:=⟨hf2.cells.1,(Below.refl _ _).drew⟩
 obtain ⟨b,hb⟩:∃ b,decide (R.flat=(unitK 6).flat)=b:=⟨_,rfl⟩
 have HBE:Hid (decide (R.flat=(unitK 6).flat)=b):=hb
 have HNR:Hid (NReads w2 (.slice (some ⟨F.nb,0,none⟩) R.flat.length F.nc) R.flat):=own_nreads hf2.nod
 clear hf2 hb2 hb HN
 have hix:=run_idx6
 have hfd:∀ (b:Nat) (w0:World),(Instr.field 96 (.agg #[vAll b,vNone b,fnV 83]) 0).run Tryz.prog w0=.ok (vUnit 6 b) w0:=fun b w0=>by kernel_rfl
 go_wp2_with fail
 go_region_held3 (fun w'=>SM w2 B (.slice (some ⟨F.nb,0,none⟩) R.flat.length F.nc) w') (first | exact S0 | assumption | exact sm_step hBl (by assumption) (by assumption)) (first
  | (go_at_call 52;refine (rules_any _).mono ?_;rintro e y1 ⟨rfl,hrl,hbr⟩)
  | (go_at_call 30;refine (sequal_any _ _ R.flat (unitK 6).flat _ (by exact HNR.out.stay (And.right (by assumption))) (by exact unit_reads hrl 6) (by omega)).mono ?_;rintro e y2 ⟨rfl,hbe⟩;rw [HBE.out]))
 all_goals (
  have hS:SM w2 B (.slice (some ⟨F.nb,0,none⟩) R.flat.length F.nc) y2:=by first | assumption | exact sm_step hBl (by assumption) (by assumption)
  have HF3:Hid (FS w1.heap.size y2 B R.flat (szL [R]) F):=HF.out.stay hS.2
  have HB3:Hid (Below w.heap.size w y2):=go_on HB2.out hS.2
  clear hS S0 hrl hbr hbe hix hfd
  cases b with
  | true =>
   have HMB:Hid (Mb 6 R=[]):=by
    show _ = _
    unfold Mb
    rw [if_pos (flat_inj HRO.out.1 (unit_ok 6) (of_decide_eq_true HBE.out))]
   go_wp2_with fail
   go_ret2
   exact ⟨_,_,rfl,by rw [HMB.out];exact Told3.nil _ _,HB3.out⟩
  | false =>
   have HMB:Hid (Mb 6 R=spine 6 R):=by
    show _ = _
    unfold Mb
    rw [if_neg (fun e=>of_decide_eq_false HBE.out (by rw [e]))]
   obtain ⟨p,hp⟩:∃ p,p=0:=⟨_,rfl⟩
   have HAT:Hid (At R.flat (szL [R]) p R.flat.length R):=by
    subst hp
    exact ⟨by omega,⟨[],[],by simp,rfl⟩,⟨[],[],by simp [szL],rfl⟩⟩
   have c0:=HF3.out.cells.1
   have hBy:=HF3.out.lt
   clear hp
   go_wp2_with fail
   refine (endingT HF3.out HAT.out).mono ?_
   rintro en w3 ⟨rfl,hb3⟩
   have HF4:Hid (FS w1.heap.size (w3.alloc (.cells #[.int .i64 (p:Int),.int .i64 (R.flat.length:Int)] 123)) B R.flat (szL [R]) F):=(HF3.out.stay hb3).stay ((Below.refl _ _).alloc (Nat.le_refl _) _)
   have HB4:Hid (Below w.heap.size w (w3.alloc (.cells #[.int .i64 (p:Int),.int .i64 (R.flat.length:Int)] 123))):=(go_on HB3.out hb3).alloc (go_on HB3.out hb3).size _
   clear hb3 c0
   go_wp2_with fail
   generalize w3.alloc (.cells #[.int .i64 (p:Int),.int .i64 (R.flat.length:Int)] 123)=wA at HF4 HB4 ⊢
   refine (members_any HF4.out HAT.out HRO.out.1 6 (by decide)).mono ?_
   rintro en w5 ⟨Q,v,hQ1,hQ2,hQ3,rfl,hoQ,hb5⟩
   have hQne:Q≠[]:=fun e=>spine_ne 6 R (by rw [← hQ1,e];rfl)
   have HQ1:Hid (trQ Q=spine 6 R):=hQ1
   have HQ2:Hid (PlQ R.flat (szL [R]) Q):=hQ2
   have HF5:Hid (FS w1.heap.size w5 B R.flat (szL [R]) F):=HF4.out.stay hb5
   have HB5:Hid (Below w.heap.size w w5):=go_on HB4.out hb5
   obtain ⟨g,o,rc,hv,hrc,hrc2,hgl,hcells⟩:=own_sreads (L:=spQ Q) (by rw [spQ_length];exact hoQ) (fun e=>hQne (by simpa [spQ] using e))
   subst hv
   rw [spQ_length] at hoQ hrc hcells ⊢
   have HCELL:Hid (∀ w',Below w5.heap.size w5 w'→∀ i,i<Q.length→w'.cell? ⟨g,o+i * 2,none⟩=some (.int .i64 (((spQ Q).getD i (0,0)).1:Int))∧w'.cell? ⟨g,o+i * 2+1,none⟩=some (.int .i64 (((spQ Q).getD i (0,0)).2:Int))):=fun w' hb i hi =>
    ⟨by rw [below_cell hb hgl];exact (hcells i hi).1,by rw [below_cell hb hgl];exact (hcells i hi).2⟩
   obtain ⟨nQ,hnQ⟩:∃ nQ,Q.length=nQ:=⟨_,rfl⟩
   have HNQ:Hid (Q.length=nQ):=hnQ
   rw [hnQ] at hQ3 hrc ⊢
   have HTL:Hid ((trQ Q).length=nQ):=by show _=_;rw [trQ,List.length_map];exact hnQ
   clear hQ1 hQ2 hQne hoQ hcells hb5 hnQ HB3 HF3 HB4 HF4 hBy
   obtain ⟨i1,hi1,hy0,hy1,hy2⟩:=info_parts Tryz.info_nodes
   go_wp2_with fail
   go_loopw [9,46] (fun vo vi wr=>∃ (i:Nat) (vs:List Value),i≤nQ∧vi=.int .i64 (i:Int)∧Told3 wr w5.heap.size vo vs (((trQ Q).take i).map Tr.flat)∧Below w5.heap.size w5 wr) (fun _ vi _=>nQ - (intOf vi).toNat)
   case atStart=>exact ⟨0,[],Nat.zero_le _,rfl,Told3.nil _ _,Below.refl _ _⟩
   case round =>
    obtain ⟨i,vs,hi,rfl,htd,hbr⟩:=hrel
    have hpl:(((trQ Q).take i).map Tr.flat).length=i:=by
     rw [List.length_map,List.length_take]
     have:=HTL.out
     omega
    obtain ⟨ps,hps⟩:∃ ps,((trQ Q).take i).map Tr.flat=ps:=⟨_,rfl⟩
    rw [hps] at htd hpl
    have HPL:Hid (ps.length=i):=hpl
    have hpn:ps.length≤100000:=by omega
    clear hpl
    obtain ⟨oa,oc,rfl⟩:=htd.shape
    have HTD:Hid (Told3 wr w5.heap.size (.slice oa ps.length oc) vs ps):=htd
    have HBR:Hid (Below w5.heap.size w5 wr):=hbr
    by_cases hlt : i < nQ
    ·have hltI:(i:Int)<nQ:=by omega
     have hiQ:i<Q.length:=by rw [HNQ.out];exact hlt
     obtain ⟨c0,c1⟩:=HCELL.out wr hbr i hiQ
     obtain ⟨⟨P,E,ti⟩,hQi⟩:∃ z,Q[i]=z:=⟨_,rfl⟩
     have hsp:(spQ Q).getD i (0,0)=(P,E):=by
      rw [List.getD_eq_getElem?_getD,spQ,List.getElem?_map,List.getElem?_eq_getElem hiQ,hQi];rfl
     have htr:(trQ Q)[i]?=some ti:=by rw [trQ,List.getElem?_map,List.getElem?_eq_getElem hiQ,hQi];rfl
     obtain ⟨hat,hoti⟩:=HQ2.out (P,E,ti) (by rw [← hQi];exact List.getElem_mem _)
     rw [hsp] at c0 c1
     have HTK:Hid (((trQ Q).take (i+1)).map Tr.flat=ps ++ [ti.flat]):=by show _=_;rw [List.take_add_one,htr,List.map_append,hps];rfl
     have HAT2:Hid (At R.flat (szL [R]) P E ti):=hat
     have hEP:E - P=ti.flat.length:=by have:=HAT2.out.end_;omega
     have hEl:ti.flat.length≤4000:=by have:=HAT2.out.le;omega
     have HB6:Hid (Below wr.heap.size wr (wr.alloc (.cells #[.int .i64 (P:Int),.int .i64 (E:Int)] 123))):=(Below.refl _ _).alloc (Nat.le_refl _) _
     have HF6:Hid (FS w1.heap.size (wr.alloc (.cells #[.int .i64 (P:Int),.int .i64 (E:Int)] 123)) B R.flat (szL [R]) F):=(HF5.out.stay HBR.out).stay HB6.out
     clear hat hsp htr hQi hoti htd hbr hps
     go_wp2_with fail
     refine (listV_any HF6.out HAT2.out).mono ?_
     rintro en w7 ⟨rfl,hb7⟩
     have hrd:=(HF6.out.stay hb7).reads HAT2.out
     unfold lstV at hrd ⊢
     rw [hEP] at hrd ⊢
     have HRD:Hid (NReads w7 (.slice (some ⟨F.nb,P * 2,none⟩) ti.flat.length (F.nc - P)) ti.flat):=hrd
     have HB7:Hid (Below wr.heap.size wr w7):=go_on HB6.out hb7
     clear hrd hb7 c0 c1 hEP HB6 HF6
     go_wp2_with fail
     refine (clone_any _ _ ti.flat _ HRD.out (by omega)).mono ?_
     rintro en w8 ⟨u,rfl,_,ho8,hb8⟩
     obtain ⟨ua,uc,rfl⟩:=own_shape ho8
     have HO8:Hid (w8.ownsRow w7.heap.size 51 2 (.slice ua ti.flat.length uc) ti.flat.length (ndC ti.flat)):=ho8
     have HB8:Hid (Below wr.heap.size wr w8):=go_on HB7.out hb8
     have HTD8:Hid (Told3 w8 w5.heap.size (.slice oa ps.length oc) vs ps):=HTD.out.stay HB8.out
     clear ho8 hb8
     go_wp2_with (at_builtin;refine wpList_append_own _ rfl _ _ 56 rfl w5.heap.size 22 i1 (.slice none 0 0) 1 24 Tryz.underlying56 hi1 hy0 hy1 hy2 rfl (by decide) _ _ _ rfl (HTD8.out.list.alloc _) ⟨w8.heap.size,0,none⟩ 1 1 [.slice ua ti.flat.length uc] rfl rfl ?f1 ?f2 ?f3 ?f4 ?f5 ?_)
     case f1=>exact cell_one_new _ _ _
     case f2=>intro u hu;simp at hu;subst hu;rfl
     case f3=>unfold maxLen;omega
     case f4=>omega
     case f5=>have h1:=HBR.out.size;have h2:=HB8.out.size;simp;omega
     intro v9 w9 ho9 hg9 _
     have HT9:Hid (Told3 w9 w5.heap.size v9 (vs ++ [.slice ua ti.flat.length uc]) (ps ++ [ti.flat])):=by
      refine HTD8.out.more (own_mono HO8.out (by have h1:=HBR.out.size;have h2:=HB7.out.size;omega)) (fun j hj b hb hb'=>?_) ((Below.refl _ _).alloc (Nat.le_refl _) _) ho9 hg9
      have h1:=HTD.out.old j hj b hb
      have h2:=(HO8.out.lt b hb').1
      have h3:=HB7.out.size
      omega
     have HB9:Hid (Below w5.heap.size w5 w9):=((go_on HBR.out HB8.out).alloc (go_on HBR.out HB8.out).size _).grown hg9 (by have h1:=HBR.out.size;have h2:=HB8.out.size;simp;omega) (fun k' hk'=>(HTD8.out.list.lt _ hk').1)
     clear ho9 hg9
     go_wp2_with fail
     go_roundw
     case rel=>exact ⟨i+1,_,by omega,by go_num,by rw [HTK.out];exact HT9.out,HB9.out⟩
     case measure=>simp [intOf];omega
    ·obtain rfl:i=nQ:=by omega
     have hltI:¬ (i:Int)<i:=by omega
     have HE:Hid ((Mb 6 R).map Tr.flat=ps):=by
      show _ = _
      rw [← hps,HMB.out,← HQ1.out,← HTL.out,List.take_length]
     clear htd hbr hps
     go_wp2_with fail
     go_ret2
     exact ⟨_,rfl,⟨vs,by rw [HE.out];exact HTD.out.mono HB5.out.size⟩,go_on HB5.out HBR.out⟩)

end Go.Proofs.YtfdhaknecjcjoaaGreatDoor
