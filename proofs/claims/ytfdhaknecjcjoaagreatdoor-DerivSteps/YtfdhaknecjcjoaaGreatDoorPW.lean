/- Xr Xs Xt, in one text. -/
import Derived.Test.YtfdhaknecjcjoaaGreatDoorPXq
import Derived.Test.YtfdhaknecjcjoaaGreatDoorPA
import Derived.Test.YtfdhaknecjcjoaaGreatDoorPT
namespace Go.Proofs.YtfdhaknecjcjoaaGreatDoor
open Go Go.RowKit
set_option linter.unusedVariables false

theorem depthN (v : Value) (ts : List Nd) (w : World) (hv : NReads w v ts) (hm : ts.length ≤ 9223372036854775806) (hP : PTab w) :
  Calls Tryz.prog 51 #[v] w fun e w'=>∃ d:Int,e=.returned (.tuple #[.int .i64 d,.int .i64 (wrong ts)])∧Below w.heap.size w w':=by
 by_cases h0 : wrong ts = 0
 ·obtain ⟨hl,hf⟩:=wrong_zero h0
  rw [h0]
  exact (depth_any v ts w hv hl hP h0 hf).mono fun e w' h=>⟨_,h⟩
 ·exact (depth_bad v ts w hv hm hP h0).mono fun e w' h=>⟨_,h⟩

set_option maxHeartbeats 1000000 in
set_option maxRecDepth 100000 in
theorem nerr_any (v : Value) (ts : List Nd) (w : World) (hv : NReads w v ts) (hm : ts.length ≤ 9223372036854775806) (hP : PTab w) :
  Calls Tryz.prog 34 #[v] w fun e w'=>e=.returned (.int .i64 (wrong ts))∧Below w.heap.size w w':=by
 have HC:=depthN v ts w hv hm hP
 obtain ⟨x,hx⟩:∃ x,wrong ts=x:=⟨_,rfl⟩
 rw [hx] at HC ⊢
 clear hx hv hP
 go_enter Tryz.func34,Tryz.ntmps34
 go_wp2_with fail
 refine HC.mono ?_
 rintro e w1 ⟨d,rfl,hb1⟩
 go_wp2_with fail
 go_ret
 exact ⟨rfl,hb1⟩
/-- The normal form of a list, where it is a tree. -/
def nfL (ts:List Nd) (R:List Nd):Prop:=∃ T:Tr,T.ok∧T.flat=ts∧R=(nrm T).flat
theorem nfL_of {ts:List Nd} (h:wrong ts=0):∃ T:Tr,T.ok∧T.flat=ts:=by
 obtain ⟨hl,hf⟩:=wrong_zero h
 exact tr_of ts.length ts (Nat.le_refl _) hf
theorem FT.row {base:Nat} {w:World} {B:Nat} {F:Fb} {T:Tr} (h:FT base w B [T] F):w.ownsRow base 51 2 (.slice (some ⟨F.nb,0,none⟩) T.flat.length F.nc) T.flat.length (ndC T.flat)∧w.cell? ⟨B,0,none⟩=some (.slice (some ⟨F.nb,0,none⟩) T.flat.length F.nc):=by
 have h1:=h.nod
 have h2:=h.cells.1
 rw [flatL_one] at h1 h2
 exact ⟨h1,h2⟩
/-- What Normal tells of a good tree, and of a bad one. -/
def NQ (T:Tr) (w:World) (e:Ending) (w':World):Prop:=∃ u,e=.returned (.tuple #[u,.int .i64 0])∧w'.ownsRow w.heap.size 51 2 u (nrm T).flat.length (ndC (nrm T).flat)∧Below w.heap.size w w'

set_option maxHeartbeats 2000000 in
set_option maxRecDepth 100000 in
theorem normal_bad (v : Value) (ts : List Nd) (w : World) (hv : NReads w v ts) (hm : ts.length ≤ 9223372036854775806) (hP : PTab w) (h0 : wrong ts ≠ 0) :
  Calls Tryz.prog 21 #[v] w fun e w'=>e=.returned (.tuple #[.slice none 0 0,.int .i64 (wrong ts)])∧Below w.heap.size w w':=by
 have HC:=nerr_any v ts w hv hm hP
 obtain ⟨x,hx⟩:∃ x,wrong ts=x:=⟨_,rfl⟩
 rw [hx] at HC h0 ⊢
 have hb:(x != 0)=true:=by simpa using h0
 clear hx hv hP h0
 go_enter Tryz.func21,Tryz.ntmps21
 go_wp2_with fail
 refine HC.mono ?_
 rintro e w1 ⟨rfl,hb1⟩
 go_wp2_with fail
 go_ret2
 exact ⟨rfl,hb1⟩

set_option maxHeartbeats 2000000 in
set_option maxRecDepth 100000 in
theorem normal_good (T : Tr) (ho : T.ok) (a : Option Addr) (cap : Nat) (w : World) (hv : NReads w (.slice a T.flat.length cap) T.flat) (hP : PTab w) (h0 : wrong T.flat = 0) :
  Calls Tryz.prog 21 #[.slice a T.flat.length cap] w fun e w'=>NQ T w e w':=by
 obtain ⟨hl,hf⟩:=wrong_zero h0
 have HC:=nerr_any (.slice a T.flat.length cap) T.flat w hv (by omega) hP
 rw [h0] at HC
 have HV:Hid (NReads w (.slice a T.flat.length cap) T.flat):=hv
 have HN:Hid (∀ w',Below w.heap.size w w'→Calls Tryz.prog 35 #[.slice a T.flat.length cap] w' fun en w9=>∃ (B:Nat) (F:Fb),en=.returned (.pointer (some ⟨B,0,none⟩))∧FT w'.heap.size w9 B [nrm T] F∧Below w'.heap.size w' w9):=fun w' hb=>normal_any a cap T ho w' (hv.stay hb) (by omega)
 obtain ⟨n,hn⟩:∃ n,T.flat.length=n:=⟨_,rfl⟩
 rw [hn] at HC HN ⊢
 clear hv hP h0 hn hl hf HV
 go_enter Tryz.func21,Tryz.ntmps21
 go_wp2_with fail
 refine HC.mono ?_
 rintro e w1 ⟨rfl,hb1⟩
 have HB1:Hid (Below w.heap.size w w1):=hb1
 clear hb1
 go_wp2_with fail
 refine (HN.out _ HB1.out).mono ?_
 rintro e w2 ⟨B,F,rfl,hf2,hb2⟩
 obtain ⟨hrow,hc⟩:=FT.row hf2
 have HO:Hid (w2.ownsRow w.heap.size 51 2 (.slice (some ⟨F.nb,0,none⟩) (nrm T).flat.length F.nc) (nrm T).flat.length (ndC (nrm T).flat)):=own_mono hrow HB1.out.size
 have HB2:Hid (Below w.heap.size w w2):=go_on HB1.out hb2
 clear hrow hf2 hb2
 go_wp2_with fail
 go_ret2
 exact ⟨_,rfl,HO.out,HB2.out⟩

end Go.Proofs.YtfdhaknecjcjoaaGreatDoor

namespace Go.Proofs.YtfdhaknecjcjoaaGreatDoor
open Go Go.RowKit
set_option linter.unusedVariables false

/-- What a join tells: too large, or the normal form. -/
def JQ (T:Tr) (w:World) (e:Ending) (w':World):Prop:=(4000<(nrm T).flat.length∧e=.returned (.tuple #[.slice none 0 0,.int .i64 6])∧Below w.heap.size w w')∨((nrm T).flat.length≤4000∧NQ T w e w')

set_option maxHeartbeats 8000000 in
set_option maxRecDepth 100000 in
theorem joined_good (k:Int) (ps:List (List Nd)) (T:Tr) (ho:T.ok) (hT:T.flat=ps.flatten ++ [(k,0)]) (hps:ps.length≤2) (hw:∀ i,i<ps.length→wrong (ps.getD i [])=0) (G0 pc:Nat) (w:World) (hP:PTab w) (hG0:G0<w.heap.size) (hr:∀ i,i<ps.length→∃ u,w.cell? ⟨G0,i,none⟩=some u∧NReads w u (ps.getD i [])) :
  Calls Tryz.prog 98 #[.int .i64 k,.slice (some ⟨G0,0,none⟩) ps.length pc] w fun e w'=>JQ T w e w':=by
 have HR:Hid (∀ i,i<ps.length→∃ u,w.cell? ⟨G0,i,none⟩=some u∧NReads w u (ps.getD i [])):=hr
 have HW:Hid (∀ i,i<ps.length→wrong (ps.getD i [])=0):=hw
 have HP:Hid (PTab w):=hP
 have HO:Hid T.ok:=ho
 have HT:Hid (T.flat=ps.flatten ++ [(k,0)]):=hT
 have HLE:Hid (∀ i,i<ps.length→1≤(ps.getD i []).length∧(ps.getD i []).length≤4000):=fun i hi=>by
  obtain ⟨h1,h2⟩:=wrong_len (hw i hi)
  exact ⟨free_pos h2,h1⟩
 have HTB:Hid (∀ i,i≤ps.length→tot (ps.take i)≤i * 4000):=fun i=>by
  induction i with
  | zero=>intro _;simp [tot]
  | succ i ih =>
   intro hi
   have h1:=ih (by omega)
   have h2:=tot_next (ps:=ps) (i:=i) (by omega)
   have h3:=(HLE.out i (by omega)).2
   rw [h2]
   omega
 clear hr hw hP ho hT
 go_enter Tryz.func98,Tryz.ntmps98
 go_wp2_with fail
 go_loopw [6,17] (fun v6 v17 wr=>∃ i:Nat,i≤ps.length∧v6=.int .i64 ((tot (ps.take i)+1:Nat):Int)∧v17=.int .i64 (i:Int)∧Below w.heap.size w wr) (fun _ v17 _=>ps.length - (intOf v17).toNat)
 case atStart=>exact ⟨0,Nat.zero_le _,by simp [tot],rfl,Below.refl _ _⟩
 case round =>
  obtain ⟨i,hi,rfl,rfl,hbl⟩:=hrel
  have HB:Hid (Below w.heap.size w wr):=hbl
  clear hbl
  by_cases hlt : i < ps.length
  ·have hiI:(i:Int)<ps.length:=by omega
   obtain ⟨u,hu,hun⟩:=HR.out i hlt
   have cu:wr.cell? ⟨G0,i,none⟩=some u:=(World.cell?_of_block (a:=⟨G0,i,none⟩) (HB.out.block G0 hG0)).trans hu
   have hgl:G0<wr.heap.size:=Nat.lt_of_lt_of_le hG0 HB.out.size
   have HU:Hid (NReads w u (ps.getD i [])):=hun
   obtain ⟨au,cc,hue,_⟩:=id hun
   obtain ⟨pl,hpl⟩:∃ pl,(ps.getD i []).length=pl:=⟨_,rfl⟩
   have h3:=(HLE.out i hlt).2
   have h4:=HTB.out i hi
   have h5:=tot_next (ps:=ps) (i:=i) hlt
   rw [hpl] at hue h3 h5
   have hwr:IntKind.i64.wrap (((tot (ps.take i)+1:Nat):Int)+(pl:Int))=((tot (ps.take (i+1))+1:Nat):Int):=by rw [IntKind.wrap_i64,h5];omega
   obtain ⟨t1,ht1⟩:∃ t1,tot (ps.take i)+1=t1:=⟨_,rfl⟩
   obtain ⟨t2,ht2⟩:∃ t2,tot (ps.take (i+1))+1=t2:=⟨_,rfl⟩
   rw [ht1,ht2] at hwr
   rw [ht1]
   have HT2:Hid (tot (ps.take (i+1))+1=t2):=ht2
   subst hue
   clear hu hun h4 h5 ht1 ht2
   go_wp2_with fail
   refine (nerr_any _ _ _ (HU.out.stay HB.out) (by rw [hpl];omega) (HP.out.stay HB.out)).mono ?_
   rintro e w1 ⟨rfl,hb1⟩
   rw [HW.out i hlt]
   have HB1:Hid (Below w.heap.size w w1):=go_on HB.out hb1
   clear hb1 hpl
   go_wp2_with fail
   go_roundw
   case rel=>exact ⟨i+1,by omega,by rw [HT2.out],by go_num,HB1.out⟩
   case measure=>simp [intOf];omega
  ·obtain rfl:i=ps.length:=by omega
   have hiI:¬ ((ps.length:Nat):Int)<ps.length:=by omega
   obtain ⟨n,hn⟩:∃ n,tot (ps.take ps.length)+1=n:=⟨_,rfl⟩
   rw [hn]
   have HNT:Hid (tot ps+1=n):=by have:=hn;rw [List.take_length] at this;exact this
   have hnb:n≤8001:=by have:=HTB.out ps.length (Nat.le_refl _);omega
   have hn1:1≤n:=by omega
   clear hn
   obtain ⟨i0,hi0,hz0,hz1,hz2⟩:=info_parts Tryz.info_node
   have hmk:=fun w0=>run_make (P:=Tryz.prog) w0 22 51 i0 (.agg #[.int .i64 0,.int .u8 0]) Tryz.underlying22 hi0 hz0 .i64 .i64 n n (by omega) (by omega) (by rw [hz2];omega) (by omega)
   rw [hz1] at hmk
   obtain ⟨Z,hZ⟩:∃ Z:List Value,madeCells (Value.agg #[.int .i64 0,.int .u8 0]).cells ((n:Int).toNat * 2)=Z.toArray:=⟨_,(Array.toArray_toList).symm⟩
   have hZl:Z.length=n * 2:=by
    have:=size_madeCells (Value.agg #[.int .i64 0,.int .u8 0]).cells ((n:Int).toNat * 2)
    rw [hZ] at this
    simpa using this
   rw [hZ] at hmk
   have HZ:Hid (WB (wr.alloc (.cells Z.toArray 51)) wr.heap.size Z):=heap_alloc_new wr _
   have HBZ:Hid (Below w.heap.size w (wr.alloc (.cells Z.toArray 51))):=HB.out.alloc HB.out.size _
   have hGw:w.heap.size≤wr.heap.size:=HB.out.size
   clear hi0 hz0 hz1 hz2 hZ
   go_wp2_with fail
   generalize hWZ : wr.alloc (.cells Z.toArray 51) = wZ at HZ HBZ ⊢
   have HTS:Hid (∀ i,i<ps.length→tot (ps.take (i+1))<n):=fun i hi=>by
    have h1:tot (ps.take (i+1))≤tot ps:=by
     unfold tot
     conv=>rhs;rw [← List.take_append_drop (i+1) ps,List.flatten_append]
     simp
    have:=HNT.out
    omega
   obtain ⟨G,hG⟩:∃ G,wr.heap.size=G:=⟨_,rfl⟩
   rw [hG] at HZ hGw ⊢
   clear hWZ hG HB hmk hiI hlt
   rename World=>wo
   go_loopw [11,35] (fun vt vi wr=>∃ (i t:Nat) (L:List Value),i≤ps.length∧vi=.int .i64 i∧vt=.int .i64 t∧t=tot (ps.take i)∧L.length=n * 2∧L.take (t * 2)=ndC (ps.take i).flatten∧WB wr G L∧Below w.heap.size w wr) (fun _ vi _=>ps.length - (intOf vi).toNat)
   case atStart=>exact ⟨0,0,Z,Nat.zero_le _,rfl,rfl,rfl,hZl,by simp [ndC],HZ.out,HBZ.out⟩
   case round =>
    clear HZ HBZ hZl
    obtain ⟨i,t,L,hi,rfl,rfl,ht,hL,hLt,hwb,hb⟩:=hrel
    have HT2:Hid (t=tot (ps.take i)):=ht
    have HLT:Hid (L.take (t * 2)=ndC (ps.take i).flatten):=hLt
    have HWB:Hid (WB wr G L):=hwb
    have HB:Hid (Below w.heap.size w wr):=hb
    clear ht hLt hwb hb
    by_cases hlt : i < ps.length
    ·have hiI:(i:Int)<ps.length:=by omega
     obtain ⟨u,hc,hu⟩:=HR.out i hlt
     have cc:wr.cell? ⟨G0,i,none⟩=some u:=(World.cell?_of_block (a:=⟨G0,i,none⟩) (HB.out.block G0 hG0)).trans hc
     obtain ⟨h1,h3⟩:=HLE.out i hlt
     have h4:=HTS.out i hlt
     have h5:=tot_next (ps:=ps) (i:=i) hlt
     obtain ⟨p,hp⟩:∃ p,ps.getD i []=p:=⟨_,rfl⟩
     rw [hp] at hu h1 h3 h5
     rw [h5,← HT2.out] at h4
     have HU:Hid (NReads w u p):=hu
     obtain ⟨au,cu,rfl,hx⟩:=hu
     obtain ⟨g2,o2,rfl,_⟩:=hx 0 (by omega)
     clear hx
     have HPE:Hid (ps.getD i []=p):=hp
     have HCS:Hid (∀ j u,(ndC p)[j]?=some u→wr.cell? ((⟨g2,o2,none⟩:Addr).add j)=some u):=nreads_cells (HU.out.stay HB.out)
     have hcl:=ndC_length p
     have hc1:=ndC_one p
     have htn:(t:Int)≤n:=by omega
     have htn2:¬ t=n:=by omega
     have htn3:¬ n=t:=by omega
     have H5:Hid (tot (ps.take (i+1))=t+p.length):=by show _=_;rw [h5,← HT2.out]
     obtain ⟨w2,hrun,HW2,HB2⟩:∃ w2,(Builtin.copy_ #[22,22] 3 #[.slice (some ⟨G,t * 2,none⟩) (n - t) (n - t),.slice (some ⟨g2,o2,none⟩) p.length cu]).run Tryz.prog wr=.ok (.int .i64 (p.length:Int)) w2∧Hid (WB w2 G (splice L (t * 2) (ndC p)))∧Hid (Below G wr w2):=by
      obtain ⟨i0,hi0,hz0,hz1,hz2⟩:=info_parts Tryz.info_node
      have hg0:wr.heap[G]?=some (.cells L.toArray 51 (0,0)):=HWB.out
      have hfit:t * 2+(ndC p).length≤L.toArray.size:=by rw [hcl];simp;omega
      have hr2:=run_copy2 (P:=Tryz.prog) wr 22 22 3 51 G (t * 2) (n - t) (n - t) ⟨g2,o2,none⟩ p.length cu p.length L.toArray 51 (ndC p) Tryz.underlying22 (by rw [hi0];simp [hz1]) hg0 (Nat.min_eq_left (by omega)) hcl HCS.out hfit hc1
      refine ⟨_,hr2,?_,below_setRow (Below.refl _ _) (Nat.le_refl _) _⟩
      show WB _ _ _
      unfold WB
      have:=setRow_heap wr G L.toArray (L.toArray.toList.take (t * 2) ++ ndC p ++ L.toArray.toList.drop (t * 2+(ndC p).length)).toArray _ _ hg0
      rw [this]
      simp [splice]
     clear hp hc h5
     go_wp2_with fail
     go_roundw
     case rel =>
      refine ⟨i+1,t+p.length,splice L (t * 2) (ndC p),by omega,by go_num,by go_num,H5.out.symm,?_,?_,HW2.out,?_⟩
      ·rw [length_splice _ _ _ (by omega)];exact hL
      ·have:=take_splice (cs:=ndC p) (by omega) HLT.out
       rw [flat_next hlt,HPE.out,ndC_append,← this,hcl]
       congr 1;omega
      ·exact HB.out.trans (HB2.out.mono (by omega))
     case measure=>simp [intOf];omega
    ·have hiI:¬ (i:Int)<ps.length:=by omega
     obtain rfl:i=ps.length:=by omega
     rw [List.take_length] at HT2 HLT
     have htn:n=t+1:=by rw [← HNT.out,HT2.out]
     have htl:(t:Int)<n:=by omega
     have g0:=HWB.out.get (t * 2)
     have g1:=HWB.out.get (t * 2+1)
     rw [List.getElem?_eq_getElem (by omega)] at g0 g1
     have f0:=HWB.out.frozen (t * 2)
     have f1:=HWB.out.frozen (t * 2+1)
     obtain ⟨x0,hx0⟩:∃ x,L[t * 2]'(by omega)=x:=⟨_,rfl⟩
     obtain ⟨x1,hx1⟩:∃ x,L[t * 2+1]'(by omega)=x:=⟨_,rfl⟩
     rw [hx0] at g0
     rw [hx1] at g1
     have hWE:=(HWB.out.set (t * 2) (.int .i64 k)).set (t * 2+1) (.int .u8 0)
     rw [list_end (by omega) HLT.out,show ndC ps.flatten ++ [Value.int .i64 k,Value.int .u8 0]=ndC (ps.flatten ++ [(k,0)]) by rw [ndC_append];rfl,← HT.out] at hWE
     have HWE:Hid (WB ((wr.setCell ⟨G,t * 2,none⟩ (.int .i64 k)).setCell ⟨G,t * 2+1,none⟩ (.int .u8 0)) G (ndC T.flat)):=hWE
     have HBE:Hid (Below w.heap.size w ((wr.setCell ⟨G,t * 2,none⟩ (.int .i64 k)).setCell ⟨G,t * 2+1,none⟩ (.int .u8 0))):=(HB.out.setCell (p:=⟨G,t * 2,none⟩) (by show w.heap.size≤G;omega) _).setCell (p:=⟨G,t * 2+1,none⟩) (by show w.heap.size≤G;omega) _
     have HTL:Hid (T.flat.length=n):=by
      show _ = _
      rw [HT.out,List.length_append,List.length_singleton]
      exact HNT.out
     have htl2:t<n:=by omega
     clear hx0 hx1 hWE htn
     go_wp2_with fail
     generalize (wr.setCell ⟨G,t * 2,none⟩ (.int .i64 k)).setCell ⟨G,t * 2+1,none⟩ (.int .u8 0)=w5 at HWE HBE ⊢
     have HNR:Hid (NReads w5 (.slice (some ⟨G,0,none⟩) T.flat.length n) T.flat):=by
      refine ⟨some ⟨G,0,none⟩,n,rfl,fun i hi=>⟨G,0,rfl,HWE.out.lt,?_,?_⟩⟩
      ·rw [Nat.zero_add,HWE.out.get];exact ndC_fst _ i hi
      ·rw [Nat.zero_add,HWE.out.get];exact ndC_snd _ i hi
     have HNC:=normal_any (some ⟨G,0,none⟩) n T HO.out w5 HNR.out (by rw [HTL.out];exact hnb)
     rw [HTL.out] at HNC
     clear g0 g1 f0 f1
     refine HNC.mono ?_
     rintro e w6 ⟨B,F,rfl,hf6,hb6⟩
     obtain ⟨hrow,hcB⟩:=FT.row hf6
     have hs5:=HBE.out.size
     have HO6:Hid (w6.ownsRow w.heap.size 51 2 (.slice (some ⟨F.nb,0,none⟩) (nrm T).flat.length F.nc) (nrm T).flat.length (ndC (nrm T).flat)):=own_mono hrow hs5
     have HB6:Hid (Below w.heap.size w w6):=go_on HBE.out hb6
     obtain ⟨m,hm⟩:∃ m,(nrm T).flat.length=m:=⟨_,rfl⟩
     have HM:Hid ((nrm T).flat.length=m):=hm
     rw [hm] at hcB
     clear hrow hf6 hb6 HNC hm
     by_cases hbig : 4000 < m
     ·have hbI:(4000:Int)<m:=by omega
      go_wp2_with fail
      go_ret2
      exact .inl ⟨by rw [HM.out];exact hbig,rfl,HB6.out⟩
     ·have hbI:¬ (4000:Int)<m:=by omega
      go_wp2_with fail
      go_ret2
      exact .inr ⟨by rw [HM.out];omega,_,rfl,by have:=HO6.out;rw [HM.out] at this ⊢;exact this,HB6.out⟩
end Go.Proofs.YtfdhaknecjcjoaaGreatDoor

namespace Go.Proofs.YtfdhaknecjcjoaaGreatDoor
open Go Go.RowKit
set_option linter.unusedVariables false

theorem JQ.from_ {T:Tr} {w w1 w':World} {e:Ending} (h:JQ T w1 e w') (hb:Below w.heap.size w w1):JQ T w e w':=by
 rcases h with ⟨h1,h2,h3⟩ | ⟨h1,u,h2,h3,h4⟩
 ·exact .inl ⟨h1,h2,go_on hb h3⟩
 ·exact .inr ⟨h1,u,h2,own_mono h3 hb.size,go_on hb h4⟩

set_option maxHeartbeats 2000000 in
set_option maxRecDepth 100000 in
theorem concatN_good (A C : Tr) (hA : A.ok) (hC : C.ok) (va vc : Value) (w : World) (hva : NReads w va A.flat) (hvc : NReads w vc C.flat) (hP : PTab w) (wA : wrong A.flat = 0) (wC : wrong C.flat = 0) :
  Calls Tryz.prog 97 #[va,vc] w fun e w'=>JQ (.two (7,0) A C) w e w':=by
 obtain ⟨a1,c1,hv1,_⟩:=id hva
 obtain ⟨a2,c2,hv2,_⟩:=id hvc
 subst hv1
 subst hv2
 obtain ⟨n1,hn1⟩:∃ n,A.flat.length=n:=⟨_,rfl⟩
 obtain ⟨n2,hn2⟩:∃ n,C.flat.length=n:=⟨_,rfl⟩
 rw [hn1] at hva ⊢
 rw [hn2] at hvc ⊢
 have HB:Hid (Below w.heap.size w (w.alloc (.cells #[.slice a1 n1 c1,.slice a2 n2 c2] 22))):=(Below.refl _ _).alloc (Nat.le_refl _) _
 have HC:Hid (Calls Tryz.prog 98 #[.int .i64 7,.slice (some ⟨w.heap.size,0,none⟩) 2 2] (w.alloc (.cells #[.slice a1 n1 c1,.slice a2 n2 c2] 22)) fun e w'=>JQ (.two (7,0) A C) (w.alloc (.cells #[.slice a1 n1 c1,.slice a2 n2 c2] 22)) e w'):=by
  have hh:=heap_alloc_new w (.cells #[.slice a1 n1 c1,.slice a2 n2 c2] 22)
  refine joined_good 7 [A.flat,C.flat] (.two (7,0) A C) ⟨rfl,rfl,hA,hC⟩ (by simp [Tr.flat]) (Nat.le_refl _) (fun i hi=>?_) w.heap.size 2 _ (hP.stay HB.out) (by simp) (fun i hi=>?_)
  ·have hi:i<2:=hi
   have hc:i=0∨i=1:=by omega
   rcases hc with rfl | rfl
   ·exact wA
   ·exact wC
  ·have hi:i<2:=hi
   have hc:i=0∨i=1:=by omega
   rcases hc with rfl | rfl
   ·exact ⟨.slice a1 n1 c1,(cell_of_row _ _ 0 _ _ _ hh).trans rfl,hva.stay HB.out⟩
   ·exact ⟨.slice a2 n2 c2,(cell_of_row _ _ 1 _ _ _ hh).trans rfl,hvc.stay HB.out⟩
 clear hva hvc hP wA wC hn1 hn2
 go_enter Tryz.func97,Tryz.ntmps97
 go_wp2_with fail
 refine HC.out.mono ?_
 rintro e w1 h1
 have H1:Hid (JQ (.two (7,0) A C) w e w1):=h1.from_ HB.out
 clear h1
 rcases H1.out with ⟨_,rfl,_⟩ | ⟨_,u,rfl,_⟩
 all_goals
  go_wp2_with fail
  go_ret2
  exact H1.out

set_option maxHeartbeats 2000000 in
set_option maxRecDepth 100000 in
theorem notN_good (A : Tr) (hA : A.ok) (va : Value) (w : World) (hva : NReads w va A.flat) (hP : PTab w) (wA : wrong A.flat = 0) :
  Calls Tryz.prog 61 #[va] w fun e w'=>JQ (.one (9,0) A) w e w':=by
 obtain ⟨a1,c1,hv1,_⟩:=id hva
 subst hv1
 obtain ⟨n1,hn1⟩:∃ n,A.flat.length=n:=⟨_,rfl⟩
 rw [hn1] at hva ⊢
 have HB:Hid (Below w.heap.size w (w.alloc (.cells #[.slice a1 n1 c1] 22))):=(Below.refl _ _).alloc (Nat.le_refl _) _
 have HC:Hid (Calls Tryz.prog 98 #[.int .i64 9,.slice (some ⟨w.heap.size,0,none⟩) 1 1] (w.alloc (.cells #[.slice a1 n1 c1] 22)) fun e w'=>JQ (.one (9,0) A) (w.alloc (.cells #[.slice a1 n1 c1] 22)) e w'):=by
  have hh:=heap_alloc_new w (.cells #[.slice a1 n1 c1] 22)
  refine joined_good 9 [A.flat] (.one (9,0) A) ⟨rfl,rfl,hA⟩ (by simp [Tr.flat]) (by simp) (fun i hi=>?_) w.heap.size 1 _ (hP.stay HB.out) (by simp) (fun i hi=>?_)
  ·have hi:i<1:=hi
   obtain rfl:i=0:=by omega
   exact wA
  ·have hi:i<1:=hi
   obtain rfl:i=0:=by omega
   exact ⟨.slice a1 n1 c1,(cell_of_row _ _ 0 _ _ _ hh).trans rfl,hva.stay HB.out⟩
 clear hva hP wA hn1
 go_enter Tryz.func61,Tryz.ntmps61
 go_wp2_with fail
 refine HC.out.mono ?_
 rintro e w1 h1
 have H1:Hid (JQ (.one (9,0) A) w e w1):=h1.from_ HB.out
 clear h1
 rcases H1.out with ⟨_,rfl,_⟩ | ⟨_,u,rfl,_⟩
 all_goals
  go_wp2_with fail
  go_ret2
  exact H1.out

end Go.Proofs.YtfdhaknecjcjoaaGreatDoor
