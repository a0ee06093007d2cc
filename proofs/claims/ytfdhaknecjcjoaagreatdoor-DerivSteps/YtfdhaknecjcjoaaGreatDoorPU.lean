/- Ua Ub, in one text. -/
import Derived.Test.YtfdhaknecjcjoaaGreatDoorPXa
import Derived.Test.YtfdhaknecjcjoaaGreatDoorPOa
import Derived.Test.YtfdhaknecjcjoaaGreatDoorPT
import Derived.Deep.RegionWith
import Derived.Test.YtfdhaknecjcjoaaGreatDoorPE
namespace Go.Proofs.YtfdhaknecjcjoaaGreatDoor
open Go Go.RowKit
set_option linter.unusedVariables false

theorem results_nd1 {fn:Func} {p:Tmp} (h:fn.results=#[.cell p 51]) {tmps:Array Value} {b:Nat} {x y:Value} {w:World} (hp:tmps.getD p undef=.pointer (some ⟨b,0,none⟩)) (h0:w.cell? ⟨b,0,none⟩=some x) (h1:w.cell? ⟨b,1,none⟩=some y) :
  (results fn tmps).run Tryz.prog w=.ok (.agg #[x,y]) w:=by
 have hp':tmps[p]?.getD undef=.pointer (some ⟨b,0,none⟩):=by simpa using hp
 simp [results,h,go_sem,hp',h0,h1,Result.andThen]
set_option maxHeartbeats 1000000 in
theorem rnode_any (k:Int) (w:World):Calls Tryz.prog 70 #[.int .i64 k] w fun e w'=>e=.returned (.agg #[.int .i64 k,.int .u8 0])∧Below w.heap.size w w':=by
 have HB:Hid (Below w.heap.size w (w.alloc (.cells #[.int .i64 k,.int .u8 0] 51))):=(Below.refl _ _).alloc (Nat.le_refl _) _
 have hR:=(RowAt.last w #[.int .i64 k,.int .u8 0] 51).cell
 go_enter Tryz.func70,Tryz.ntmps70
 go_wp2_with fail
 exact bodyPost_ret (results_nd1 rfl rfl (hR 0) (hR 1)) rfl ⟨rfl,HB.out⟩

set_option maxHeartbeats 1000000 in
theorem ris_any (v:Value) (ts:List Nd) (n:Nat) (k0 s0:Int) (k:Int) (w:World) (hv:NReads w v ts) (hn:ts.length=n+1) (hs:n≤9223372036854775800) (hl:ts[n]?=some (k0,s0)) :
  Calls Tryz.prog 71 #[v,.int .i64 k] w fun e w'=>e=.returned (.bool (k0 == k))∧w'=w:=by
 obtain ⟨a,cap,rfl,h⟩:=hv
 obtain ⟨g,o,rfl,hg,h1,h2⟩:=h n (by omega)
 have hk:(ts.getD n (0,0)).1=k0:=by rw [List.getD_eq_getElem?_getD,hl];rfl
 rw [hk] at h1
 rw [hn]
 have hnI:IntKind.i64.wrap (((n+1:Nat):Int) - 1)=(n:Int):=by rw [IntKind.wrap_i64];omega
 obtain ⟨m,hm⟩:∃ m,n+1=m:=⟨_,rfl⟩
 rw [hm] at hnI ⊢
 have hlt:(n:Int)<m:=by omega
 have hlt2:n<m:=by omega
 clear h2 h hl hk hn
 have HM:Hid (n+1=m):=hm
 clear hm
 go_enter Tryz.func71,Tryz.ntmps71
 go_wp2_with fail
 go_ret
 exact ⟨rfl,rfl⟩

/-- A row that was laid just now is the call's own. -/
theorem own_laid {base:Nat} (w:World) (N:List Nd) (hb:base≤w.heap.size) (hl:N.length≤4000):(w.alloc (.cells (ndC N).toArray 51)).ownsRow base 51 2 (.slice (some ⟨w.heap.size,0,none⟩) N.length N.length) N.length (ndC N) :=
 ⟨by have:=ndC_length N;simpa using this,.inr ⟨w.heap.size,N.length,_,rfl,hb,heap_alloc_new w _,Nat.le_refl _,by unfold maxLen;omega,by have:=ndC_length N;simpa using this,by have:=ndC_length N;show List.take (N.length * 2) (ndC N)=ndC N;rw [← this,List.take_length]⟩⟩

set_option maxHeartbeats 1000000 in
theorem rnone_any (w:World):Calls Tryz.prog 67 #[] w fun e w'=>∃ u,e=.returned u∧w'.ownsRow w.heap.size 51 2 u tNone.flat.length (ndC tNone.flat)∧Below w.heap.size w w':=by
 go_enter Tryz.func67,Tryz.ntmps67
 go_wp2_with fail
 refine (rnode_any _ _).mono ?_
 rintro e w1 ⟨rfl,hb1⟩
 have HB1:Hid (Below w.heap.size w w1):=hb1
 clear hb1
 go_wp2_with fail
 go_ret
 exact ⟨_,rfl,own_laid w1 tNone.flat HB1.out.size (by decide),HB1.out.alloc HB1.out.size _⟩

set_option maxHeartbeats 1000000 in
theorem rempty_any (w:World):Calls Tryz.prog 74 #[] w fun e w'=>∃ u,e=.returned u∧w'.ownsRow w.heap.size 51 2 u tEmpty.flat.length (ndC tEmpty.flat)∧Below w.heap.size w w':=by
 go_enter Tryz.func74,Tryz.ntmps74
 go_wp2_with fail
 refine (rnode_any _ _).mono ?_
 rintro e w1 ⟨rfl,hb1⟩
 have HB1:Hid (Below w.heap.size w w1):=hb1
 clear hb1
 go_wp2_with fail
 go_ret
 exact ⟨_,rfl,own_laid w1 tEmpty.flat HB1.out.size (by decide),HB1.out.alloc HB1.out.size _⟩

set_option maxHeartbeats 1000000 in
theorem rall_any (w:World):Calls Tryz.prog 68 #[] w fun e w'=>∃ u,e=.returned u∧w'.ownsRow w.heap.size 51 2 u tAll.flat.length (ndC tAll.flat)∧Below w.heap.size w w':=by
 go_enter Tryz.func68,Tryz.ntmps68
 go_wp2_with fail
 refine (rnode_any _ _).mono ?_
 rintro e w1 ⟨rfl,hb1⟩
 have HB1:Hid (Below w.heap.size w w1):=hb1
 clear hb1
 go_wp2_with fail
 refine (rnode_any _ _).mono ?_
 rintro e w2 ⟨rfl,hb2⟩
 have HB2:Hid (Below w.heap.size w w2):=go_on HB1.out hb2
 clear hb2
 go_wp2_with fail
 go_ret
 exact ⟨_,rfl,own_laid w2 tAll.flat HB2.out.size (by decide),HB2.out.alloc HB2.out.size _⟩
end Go.Proofs.YtfdhaknecjcjoaaGreatDoor

namespace Go.Proofs.YtfdhaknecjcjoaaGreatDoor
open Go Go.RowKit
set_option linter.unusedVariables false

set_option maxHeartbeats 2000000 in
set_option maxRecDepth 100000 in
theorem rsame_any (v1 v2 : Value) (a b : List Nd) (w : World) (h1 : NReads w v1 a) (h2 : NReads w v2 b) (hm : a.length ≤ 9223372036854775806) :
  Calls Tryz.prog 31 #[v1,v2] w fun e w'=>e=.returned (.bool (decide (a=b)))∧Below w.heap.size w w':=by
 obtain ⟨a1,c1,rfl,g1⟩:=h1
 obtain ⟨a2,c2,rfl,g2⟩:=h2
 have H1:Hid _:=g1
 have H2:Hid _:=g2
 clear g1 g2
 by_cases hl : a.length = b.length
 ·have hlb:((a.length:Int) != (b.length:Int))=false:=by rw [bne_eq_false_iff_eq];omega
  have HL:Hid (a.length=b.length):=hl
  clear hl
  go_enter Tryz.func31,Tryz.ntmps31
  go_wp2_with fail
  go_loopw [5] (fun vi wr=>∃ i q:Nat,i≤a.length∧vi=.int .i64 i∧(∀ j,j<i→a.getD j (0,0)=b.getD j (0,0))∧wr=w.drewN q) (fun vi _=>a.length - (intOf vi).toNat)
  case atStart=>exact ⟨0,0,Nat.zero_le _,rfl,fun j hj=>by omega,rfl⟩
  case round =>
   obtain ⟨i,q,hi,rfl,hall,rfl⟩:=hrel
   have HA:Hid (∀ j,j<i→a.getD j (0,0)=b.getD j (0,0)):=hall
   clear hall
   by_cases hlt : i < a.length
   ·have hiI:(i:Int)<a.length:=by omega
    have hlt2:i<b.length:=by have:=HL.out;omega
    have hiI2:(i:Int)<b.length:=by omega
    obtain ⟨ga,oa,rfl,hga,a11,a12⟩:=H1.out i hlt
    obtain ⟨gb,ob,rfl,hgb,b11,b12⟩:=H2.out i hlt2
    obtain ⟨⟨k,s⟩,hx⟩:∃ x,a.getD i (0,0)=x:=⟨_,rfl⟩
    obtain ⟨⟨l,t⟩,hy⟩:∃ y,b.getD i (0,0)=y:=⟨_,rfl⟩
    rw [hx] at a11 a12
    rw [hy] at b11 b12
    have HX:Hid (a.getD i (0,0)=(k,s)):=hx
    have HY:Hid (b.getD i (0,0)=(l,t)):=hy
    clear hx hy
    have e2:=eq2 k s l t
    by_cases hxy:k=l∧s=t
    ·obtain ⟨rfl,rfl⟩:=hxy
     have hbe:(k == k && s == s)=true:=by simp
     rw [hbe] at e2
     go_wp2_with fail
     go_region
     go_wp2_with fail
     go_roundw
     case rel=>exact ⟨i+1,_,by omega,by go_num,fun j hj=>by
      by_cases e : j = i
      ·rw [e,HX.out,HY.out]
      ·exact HA.out j (by omega),rfl⟩
     case measure=>simp [intOf];omega
    ·have hbe:(k == l && s == t)=false:=by simpa using hxy
     rw [hbe] at e2
     have HE:Hid (decide (a=b)=false):=by
      show decide (a = b) = false
      simp
      intro h
      apply hxy
      have h1:=HX.out
      rw [h,HY.out] at h1
      simp at h1
      exact ⟨h1.1.symm,h1.2.symm⟩
     clear hxy hbe
     go_wp2_with fail
     go_region
     go_wp2_with fail
     go_ret
     exact ⟨ret_bool HE.out.symm,drewN_below w _⟩
   ·have hiI:¬ (i:Int)<a.length:=by omega
    have HE:Hid (decide (a=b)=true):=by
     show decide (a = b) = true
     rw [decide_eq_true_iff]
     apply List.ext_getElem?
     intro j
     have hl:=HL.out
     by_cases hj : j < a.length
     ·have h1:=HA.out j (by omega)
      rw [List.getD_eq_getElem?_getD,List.getD_eq_getElem?_getD,List.getElem?_eq_getElem hj,List.getElem?_eq_getElem (by omega)] at h1
      rw [List.getElem?_eq_getElem hj,List.getElem?_eq_getElem (by omega)]
      simp only [Option.getD_some] at h1
      rw [h1]
     ·rw [List.getElem?_eq_none (by omega),List.getElem?_eq_none (by omega)]
    go_wp2_with fail
    go_ret
    exact ⟨ret_bool HE.out.symm,drewN_below w _⟩
 ·have hlb:((a.length:Int) != (b.length:Int))=true:=by rw [bne_iff_ne];omega
  have HE:Hid (decide (a=b)=false):=by
   show decide (a = b) = false
   simp
   intro h
   exact hl (by rw [h])
  clear hl
  go_enter Tryz.func31,Tryz.ntmps31
  go_wp2_with fail
  go_ret
  exact ⟨ret_bool HE.out.symm,Below.refl _ _⟩


set_option maxHeartbeats 1000000 in
theorem risAll_any (T:Tr) (hT:T.ok) (v:Value) (w:World) (hv:NReads w v T.flat) (hm:T.flat.length≤9223372036854775806):Calls Tryz.prog 72 #[v] w fun e w'=>e=.returned (.bool (decide (T=tAll)))∧Below w.heap.size w w':=by
 have HV:Hid (NReads w v T.flat):=hv
 have hd:decide (T.flat=tAll.flat)=decide (T=tAll):=decide_eq_decide.2 ⟨fun h=>flat_inj hT ⟨rfl,rfl,rfl,rfl⟩ h,fun h=>by rw [h]⟩
 have HC:Hid (∀ (w':World) (u:Value),NReads w' v T.flat→NReads w' u tAll.flat→Calls Tryz.prog 31 #[v,u] w' fun e w''=>e=.returned (.bool (decide (T=tAll)))∧Below w'.heap.size w' w''):=fun w' u h1 h2=>by
  have:=rsame_any v u _ _ w' h1 h2 hm
  rw [hd] at this
  exact this
 obtain ⟨D,hD⟩:∃ D,decide (T=tAll)=D:=⟨_,rfl⟩
 rw [hD] at HC ⊢
 clear hv hd hD
 go_enter Tryz.func72,Tryz.ntmps72
 go_wp2_with fail
 refine (rall_any _).mono ?_
 rintro e w1 ⟨u,rfl,ho1,hb1⟩
 have HU:Hid (NReads w1 u tAll.flat):=own_nreads ho1
 have HB1:Hid (Below w.heap.size w w1):=hb1
 clear ho1 hb1
 go_wp2_with fail
 refine (HC.out _ _ (HV.out.stay HB1.out) HU.out).mono ?_
 rintro e w2 ⟨rfl,hb2⟩
 have HB2:Hid (Below w.heap.size w w2):=go_on HB1.out hb2
 clear hb2
 go_wp2_with fail
 go_ret
 exact ⟨rfl,HB2.out⟩
end Go.Proofs.YtfdhaknecjcjoaaGreatDoor

namespace Go.Proofs.YtfdhaknecjcjoaaGreatDoor
open Go Go.RowKit

theorem free_prefix {q:List Nd} {m c:Nat} (hm:m<q.length) (h:freeN (q.take (m+1))=some c):1≤c:=by
 rw [free_take hm] at h
 cases hx : freeN (q.take m) with
 | none=>rw [hx] at h;simp at h
 | some d =>
  rw [hx,Option.bind_some] at h
  split at h
  ·simp only [Option.some.injEq] at h;omega
  ·cases h
theorem free_prev {q:List Nd} {m c:Nat} (hm:m<q.length) (h:freeN (q.take (m+1))=some c):∃ d,freeN (q.take m)=some d∧arity (q.getD m (0,0)).1≤d∧c=d - arity (q.getD m (0,0)).1+1:=by
 rw [free_take hm] at h
 cases hx : freeN (q.take m) with
 | none=>rw [hx] at h;simp at h
 | some d =>
  rw [hx,Option.bind_some] at h
  split at h
  ·next hg=>simp only [Option.some.injEq] at h;exact ⟨d,rfl,hg.2,h.symm⟩
  ·cases h

set_option maxHeartbeats 2000000 in
set_option maxRecDepth 100000 in
theorem begin_any (v : Value) (p q r : List Nd) (w : World) (hv : NReads w v (p ++ q ++ r)) (hm : p.length + q.length ≤ 9000) (hf : freeN q = some 1) (i0 : Nat) (hi0 : i0 + 1 = p.length + q.length) :
  Calls Tryz.prog 63 #[v,.int .i64 (i0:Int)] w fun e w'=>e=.returned (.int .i64 (p.length:Int))∧Below w.heap.size w w':=by
 have hq:=free_pos hf
 obtain ⟨a,cap,rfl,hr⟩:=hv
 have HR:Hid _:=hr
 have HF:Hid (freeN q=some 1):=hf
 clear hr hf
 go_enter Tryz.func63,Tryz.ntmps63
 go_wp2_with fail
 go_loopw [1,5] (fun vi vw wr=>∃ m c i:Nat,1≤m∧m≤q.length∧i+1=p.length+m∧vi=.int .i64 i∧vw=.int .i64 c∧1≤c∧c≤9000∧freeN (q.take m)=some c∧Below w.heap.size w wr) (fun vi _ _=>(intOf vi).toNat)
 case atStart=>exact ⟨q.length,1,i0,hq,Nat.le_refl _,by omega,rfl,rfl,by omega,by omega,by rw [List.take_length];exact HF.out,Below.refl _ _⟩
 case round =>
  obtain ⟨m,c,i,h1,h2,hi,rfl,rfl,hc1,hc4,hfc,hb⟩:=hrel
  have HB:Hid (Below w.heap.size w wr):=hb
  obtain ⟨m,rfl⟩:∃ m',m=m'+1:=⟨m - 1,by omega⟩
  obtain ⟨d,hd,had,hcd⟩:=free_prev (by omega) hfc
  have HD:Hid (freeN (q.take m)=some d):=hd
  obtain ⟨g,o,rfl,hg,hc,_⟩:=HR.out i (by simp;omega)
  have hget:(p ++ q ++ r).getD i (0,0)=q.getD m (0,0):=by
   rw [List.getD_eq_getElem?_getD,List.getD_eq_getElem?_getD,List.getElem?_append_left (by simp;omega),List.getElem?_append_right (by omega),show i - p.length=m by omega]
  rw [hget] at hc
  obtain ⟨⟨k,s⟩,hks⟩:∃ n,q.getD m (0,0)=n:=⟨_,rfl⟩
  rw [hks] at hc had hcd
  have hal:=arity_le k
  obtain ⟨ar,har⟩:∃ ar,arity k=ar:=⟨_,rfl⟩
  simp only at had hcd
  rw [har] at had hcd hal
  have HAR:Hid (arity k=ar):=har
  have cc:wr.cell? ⟨g,o+i * 2,none⟩=some (.int .i64 k):=by rw [below_cell hb hg];exact hc
  have hil:(i:Int)<((p ++ q ++ r).length:Nat):=by simp;omega
  have hlen:p.length+(q.length+r.length)=(p ++ q ++ r).length:=by simp
  have hdle:d≤9000:=by
   have:=free_le q m (by omega) d hd
   omega
  generalize (p ++ q ++ r).length = len at *
  clear hget hks har hc hb hd hfc
  go_wp2_with fail
  refine (rarity_any k _).mono ?_
  rintro e w2 ⟨rfl,rfl⟩
  rw [HAR.out]
  have hsum:(↑(d - ar):Int)+(ar:Int)=(d:Int):=by omega
  by_cases hm0 : m = 0
  ·subst hm0
   have hd0:d=0:=by
    have:=HD.out
    simp only [List.take_zero,freeN,frees,Option.some.injEq] at this
    omega
   subst hd0
   obtain rfl:ar=0:=by omega
   obtain rfl:i=p.length:=by omega
   clear hcd hil
   go_wp2_with fail
   go_ret
   exact ⟨rfl,HB.out⟩
  ·have hd1:1≤d:=by
    have hD:=HD.out
    rw [show m = (m - 1) + 1 by omega] at hD
    exact free_prefix (by omega) hD
   have hdb:((d:Int) == 0)=false:=by rw [beq_eq_false_iff_ne];omega
   have hc':(c:Int) - 1+ar=d:=by omega
   clear hcd hil
   go_wp2_with fail
   go_roundw
   case rel=>exact ⟨m,d,i - 1,by omega,by omega,by omega,by go_num,by go_num,hd1,hdle,HD.out,HB.out⟩
   case measure=>simp [intOf];omega
/-- Lists read, each no longer than its room. -/
def PRC (w : World) (v : Value) (ps : List (List Nd)) : Prop :=
 ∃ a cap,v=.slice a ps.length cap∧∀ i,i<ps.length→∃ g o u,a=some ⟨g,o,none⟩∧g<w.heap.size∧w.cell? ⟨g,o+i,none⟩=some u∧NReads w u (ps.getD i [])∧∀ a n c,u=.slice a n c→n≤c
theorem PRC.reads {w:World} {v:Value} {ps:List (List Nd)} (h:PRC w v ps):PReads w v ps:=by
 obtain ⟨a,c,e,hr⟩:=h
 exact ⟨a,c,e,fun i hi=>by obtain ⟨g,o,u,h1,h2,h3,h4,_⟩:=hr i hi;exact ⟨g,o,u,h1,h2,h3,h4⟩⟩
theorem PRC.stay {w w':World} {v:Value} {ps:List (List Nd)} (h:PRC w v ps) (hb:Below w.heap.size w w'):PRC w' v ps:=by
 obtain ⟨a,c,e,hr⟩:=h
 refine ⟨a,c,e,fun i hi=>?_⟩
 obtain ⟨g,o,u,e,hg,h1,h2,h3⟩:=hr i hi
 exact ⟨g,o,u,e,Nat.lt_of_lt_of_le hg hb.size,by rw [below_cell hb hg];exact h1,h2.stay hb,h3⟩
theorem pb_reads1 {w:World} {G:Nat} {v1:Value} {p:List Nd} (h:PB w G #[v1]) (h1:NReads w v1 p) (k1:∀ a n c,v1=.slice a n c→n≤c) (c:Nat):PRC w (.slice (some ⟨G,0,none⟩) 1 c) [p]:=by
 refine ⟨some ⟨G,0,none⟩,c,rfl,fun i hi=>?_⟩
 have hi:i<1:=hi
 obtain rfl:i=0:=by omega
 exact ⟨G,0,v1,rfl,h.lt,by rw [h.get];rfl,h1,k1⟩
theorem pb_reads2 {w:World} {G:Nat} {v1 v2:Value} {p q:List Nd} (h:PB w G #[v1,v2]) (h1:NReads w v1 p) (h2:NReads w v2 q) (k1:∀ a n c,v1=.slice a n c→n≤c) (k2:∀ a n c,v2=.slice a n c→n≤c) (c:Nat):PRC w (.slice (some ⟨G,0,none⟩) 2 c) [p,q]:=by
 refine ⟨some ⟨G,0,none⟩,c,rfl,fun i hi=>?_⟩
 have hi:i<2:=hi
 have hc:i=0∨i=1:=by omega
 rcases hc with rfl | rfl
 ·exact ⟨G,0,v1,rfl,h.lt,by rw [h.get];rfl,h1,k1⟩
 ·exact ⟨G,0,v2,rfl,h.lt,by rw [h.get];rfl,h2,k2⟩
/-- A list is read from one block alone. -/
theorem NReads.of_block {w w':World} {g o n c:Nat} {ts:List Nd} (h:NReads w (.slice (some ⟨g,o,none⟩) n c) ts) (hk:w'.heap[g]?=w.heap[g]?):NReads w' (.slice (some ⟨g,o,none⟩) n c) ts:=by
 obtain ⟨a,c',e,hr⟩:=h
 refine ⟨a,c',e,fun i hi=>?_⟩
 obtain ⟨g',o',e2,hg,h1,h2⟩:=hr i hi
 simp only [Value.slice.injEq] at e
 rw [e2,Option.some.injEq,Addr.mk.injEq] at e
 obtain ⟨⟨rfl,rfl,_⟩,_,_⟩:=e
 refine ⟨g,o,e2,?_,by rw [World.cell?_of_block (a:=⟨g,o+i * 2,none⟩) hk];exact h1,by rw [World.cell?_of_block (a:=⟨g,o+i * 2+1,none⟩) hk];exact h2⟩
 have:w'.heap[g]?.isSome=true:=by rw [hk,Array.getElem?_eq_getElem hg];rfl
 simpa using this
theorem PB.of_block {w w':World} {G:Nat} {arr:Array Value} (h:PB w G arr) (hk:w'.heap[G]?=w.heap[G]?):PB w' G arr:=hk.trans h
theorem cut_zero {ts:List Nd} {k s:Int} (hn:ts.getD (ts.length - 1) (0,0)=(k,s)) (hr:arity k=0):cutL ts=[]:=by
 unfold cutL;rw [hn];simp only [hr]
theorem cut_one {ts:List Nd} {k s:Int} (hn:ts.getD (ts.length - 1) (0,0)=(k,s)) (hr:arity k=1):cutL ts=[ts.take (ts.length - 1)]:=by
 unfold cutL;rw [hn];simp only [hr]
theorem cut_two {ts:List Nd} {k s:Int} (hn:ts.getD (ts.length - 1) (0,0)=(k,s)) (hr:arity k=2) {a b:Nat} (hstk:stkN (ts.take (ts.length - 1))=[a,b]):cutL ts=[ts.take b,(ts.take (ts.length - 1)).drop b]:=by
 unfold cutL;rw [hn];simp only [hr,hstk]

set_option maxHeartbeats 4000000 in
set_option maxRecDepth 100000 in
theorem cut_any (v:Value) (ts:List Nd) (w:World) (hv:NReads w v ts) (h4:ts.length≤9000) (hf:freeN ts=some 1) (hcap:∀ a n c,v=.slice a n c→n≤c) :
  Calls Tryz.prog 42 #[v] w fun e w'=>∃ u,e=.returned u∧(∀ w'',(∀ k,k<w'.heap.size→v.ownBlock=some k∨w.heap.size≤k→w''.heap[k]?=w'.heap[k]?)→PRC w'' u (cutL ts))∧Below w.heap.size w w':=by
 obtain ⟨h0,hg,hsl⟩:=tree_end hf
 obtain ⟨⟨k,s⟩,hn⟩:∃ n,ts.getD (ts.length - 1) (0,0)=n:=⟨_,rfl⟩
 rw [hn] at hsl
 simp only at hsl
 have HV:Hid (NReads w v ts):=hv
 obtain ⟨av,cv,rfl,hrd⟩:=hv
 have hcv:=hcap _ _ _ rfl
 clear hcap
 obtain ⟨g,o,rfl,hgl,hc1,hc2⟩:=hrd (ts.length - 1) (by omega)
 rw [hn] at hc1 hc2
 obtain ⟨n,hnd⟩:∃ n,ts.length - 1=n:=⟨_,rfl⟩
 have hnI:(ts.length:Int) - 1=n:=by omega
 have hnl:(n:Int)<ts.length:=by omega
 have hnc:(n:Int)≤cv:=by omega
 have hal:=arity_le k
 have HN:Hid (ts.getD (ts.length - 1) (0,0)=(k,s)):=hn
 have HF:Hid (freeN ts=some 1):=hf
 rw [hnd] at hc1 hc2
 clear hrd hn hf hg
 have hc:arity k=0∨arity k=1∨arity k=2:=by omega
 rcases hc with hr | hr | hr
 ·have HAR:Hid (arity k=0):=hr
  clear hr hsl
  go_enter Tryz.func42,Tryz.ntmps42
  go_wp2_with fail
  refine (rarity_any k _).mono ?_
  rintro e w2 ⟨rfl,rfl⟩
  rw [HAR.out]
  go_wp2_with fail
  go_ret
  exact ⟨_,rfl,fun w'' _=>by rw [cut_zero HN.out HAR.out];exact ⟨_,_,rfl,fun i hi=>absurd hi (by simp)⟩,Below.refl _ _⟩
 ·have HAR:Hid (arity k=1):=hr
  have HT:Hid (∀ w',Below w.heap.size w w'→NReads w' (.slice (some ⟨g,o,none⟩) n cv) (ts.take n)):=fun w' hb=>by
   have hn1:0<n:=by
    have hx:=(tree_last HF.out HN.out).1
    rw [HAR.out,hnd] at hx
    have:=free_pos hx
    simp at this
    omega
   obtain ⟨g',o',e,h⟩:=nreads_part (HV.out.stay hb) (lo:=0) (hi:=n) hn1 (by omega)
   cases e
   have:=h cv
   simpa using this
  clear hr hsl
  go_enter Tryz.func42,Tryz.ntmps42
  go_wp2_with fail
  refine (rarity_any k _).mono ?_
  rintro e w2 ⟨rfl,rfl⟩
  rw [HAR.out]
  go_wp2_with fail
  go_ret
  have hb2:Below w2.heap.size w2 (w2.alloc (.cells #[.slice (some ⟨g,o,none⟩) n cv] 22)):=(Below.refl _ _).alloc (Nat.le_refl _) _
  refine ⟨_,rfl,fun w'' hk=>?_,hb2⟩
  rw [cut_one HN.out HAR.out,hnd]
  exact pb_reads1 ((PB.new w2 #[.slice (some ⟨g,o,none⟩) n cv]).of_block (hk _ (by simp) (.inr (Nat.le_refl _)))) ((HT.out _ hb2).of_block (hk g (Nat.lt_of_lt_of_le hgl hb2.size) (.inl rfl))) (fun a n c h=>by cases h;omega) 1
 ·have HAR:Hid (arity k=2):=hr
  rw [hr,hnd] at hsl
  obtain ⟨a,b,hstk⟩:∃ a b,stkN (ts.take n)=[a,b]:=by
   match hh:stkN (ts.take n),hsl with
   | [a,b],_=>exact ⟨a,b,rfl⟩
  obtain ⟨p,q,he,hfp,hfq,e1,e2⟩:=tree_two HF.out HN.out (by rw [hnd];exact hstk)
  have HC:Hid (cutL ts=[p,q]):=by show _=_;rw [cut_two HN.out HAR.out (by rw [hnd];exact hstk),e1,e2]
  have hbp:p.length=b:=by
   have:=congrArg List.length e1
   have h2:=congrArg List.length e2
   simp only [List.length_take,List.length_drop] at this h2
   have:=free_pos hfq
   omega
  have hpq:p.length+q.length=n:=by
   have:=congrArg List.length he
   simp only [List.length_append,List.length_singleton] at this
   omega
  have hp1:=free_pos hfp
  have hq1:=free_pos hfq
  rw [hnd] at e2
  have HT:Hid (∀ w',Below w.heap.size w w'→NReads w' (.slice (some ⟨g,o,none⟩) b cv) p∧NReads w' (.slice (some ⟨g,o+b * 2,none⟩) (n - b) (cv - b)) q):=fun w' hb=>by
   obtain ⟨g',o',e,h⟩:=nreads_part (HV.out.stay hb) (lo:=0) (hi:=b) (by omega) (by omega)
   cases e
   have hx:=h cv
   rw [List.drop_zero,e1] at hx
   obtain ⟨g',o',e,h⟩:=nreads_part (HV.out.stay hb) (lo:=b) (hi:=n) (by omega) (by omega)
   cases e
   have hy:=h (cv - b)
   rw [e2] at hy
   exact ⟨by simpa using hx,hy⟩
  have HVp:Hid (NReads w (.slice (some ⟨g,o,none⟩) ts.length cv) (p ++ q ++ [(k,s)])):=by
   have:=HV.out
   show NReads _ _ _
   rw [← he];exact this
  obtain ⟨m,hm⟩:∃ m,n - 1=m:=⟨_,rfl⟩
  have hmI:(n:Int) - 1=m:=by omega
  have hbn:(b:Int)≤n:=by omega
  have hbc:(b:Int)≤cv:=by omega
  have HBP:Hid (p.length=b∧m+1=p.length+q.length∧p.length+q.length≤9000∧freeN q=some 1):=⟨hbp,by omega,by omega,hfq⟩
  have hbcv:¬ b=cv:=by omega
  clear hr hsl hstk he e1 e2 hfp hfq hpq
  go_enter Tryz.func42,Tryz.ntmps42
  go_wp2_with fail
  refine (rarity_any k _).mono ?_
  rintro e w2 ⟨rfl,rfl⟩
  rw [HAR.out]
  go_wp2_with fail
  refine (begin_any _ p q [(k,s)] _ HVp.out HBP.out.2.2.1 HBP.out.2.2.2 m HBP.out.2.1).mono ?_
  rintro e w3 ⟨rfl,hb3⟩
  rw [HBP.out.1]
  have HB3:Hid (Below w2.heap.size w2 w3):=hb3
  clear hb3 hbp
  go_wp2_with fail
  go_region
  all_goals go_wp2_with fail
  all_goals go_ret
  have hb4:Below w2.heap.size w2 (w3.alloc (.cells #[.slice (some ⟨g,o,none⟩) b cv,.slice (some ⟨g,o+b * 2,none⟩) (n - b) (cv - b)] 22)).drew:=(HB3.out.alloc HB3.out.size _).drew
  refine ⟨_,rfl,fun w'' hk=>?_,hb4⟩
  rw [HC.out]
  exact pb_reads2 ((show PB (w3.alloc (.cells #[.slice (some ⟨g,o,none⟩) b cv,.slice (some ⟨g,o+b * 2,none⟩) (n - b) (cv - b)] 22)).drew w3.heap.size _ from PB.new w3 _).of_block (hk _ (by show w3.heap.size<(w3.alloc _).heap.size;simp) (.inr HB3.out.size))) ((HT.out _ hb4).1.of_block (hk g (Nat.lt_of_lt_of_le hgl hb4.size) (.inl rfl))) ((HT.out _ hb4).2.of_block (hk g (Nat.lt_of_lt_of_le hgl hb4.size) (.inl rfl))) (fun a n c h=>by cases h;omega) (fun a n c h=>by cases h;omega) 2

end Go.Proofs.YtfdhaknecjcjoaaGreatDoor

namespace Go.Proofs.YtfdhaknecjcjoaaGreatDoor
open Go Go.RowKit

theorem tot_le {ps:List (List Nd)} (i:Nat):tot (ps.take i)≤tot ps:=by
 unfold tot
 conv=>rhs;rw [← List.take_append_drop i ps,List.flatten_append]
 simp
theorem NB.grown {w w' : World} {b : Nat} {k s : Int} {row : Option Nat} (h : NB w b k s) (hg : w.grownBy w' row) (hne : row ≠ some b) : NB w' b k s :=
 (hg.block b h.lt (fun e=>hne e.symm)).trans h

set_option maxHeartbeats 4000000 in
set_option maxRecDepth 100000 in
theorem made_any (k s:Int) (v:Value) (ps:List (List Nd)) (w:World) (hv:PReads w v ps) (hne:∀ i,i<ps.length→1≤(ps.getD i []).length) (ht:tot ps+1≤9000) (hl:ps.length≤9000) :
  Calls Tryz.prog 69 #[ndV (k,s),v] w fun e w'=>∃ u,e=.returned u∧w'.ownsRow w.heap.size 51 2 u (ps.flatten ++ [(k,s)]).length (ndC (ps.flatten ++ [(k,s)]))∧Below w.heap.size w w':=by
 obtain ⟨i0,hi0,hz0,hz1,hz2⟩:=info_parts Tryz.info_node
 have HV:Hid (PReads w v ps):=hv
 obtain ⟨a,cap,rfl,hr⟩:=hv
 have HR:Hid _:=hr
 have HNE:Hid (∀ i,i<ps.length→1≤(ps.getD i []).length):=hne
 have BA:Hid (Below w.heap.size w (w.alloc (.cells #[.int .i64 k,.int .u8 s] 51))):=(Below.refl _ _).alloc (Nat.le_refl _) _
 have RN:Hid (NB (w.alloc (.cells #[.int .i64 k,.int .u8 s] 51)) w.heap.size k s):=NB.new w k s
 show Calls Tryz.prog 69 #[.agg #[.int .i64 k,.int .u8 s],.slice a ps.length cap] w _
 clear hr hne
 go_enter Tryz.func69,Tryz.ntmps69
 go_wp2_with fail
 go_loopw [5,6] (fun vo vi wr=>∃ i:Nat,i≤ps.length∧vi=.int .i64 i∧wr.ownsRow (w.heap.size+1) 51 2 vo (ps.take i).flatten.length (ndC (ps.take i).flatten)∧NB wr w.heap.size k s∧Below w.heap.size w wr) (fun _ vi _=>ps.length - (intOf vi).toNat)
 case atStart=>exact ⟨0,Nat.zero_le _,rfl,World.ownsRow_nil _ _ _ _,RN.out,BA.out⟩
 case round =>
  clear RN BA
  obtain ⟨i,hi,rfl,ho,hnb,hb⟩:=hrel
  obtain ⟨X,hX⟩:∃ X,(ps.take i).flatten=X:=⟨_,rfl⟩
  rw [hX] at ho
  have hXl:X.length≤9000:=by
   have:=tot_le (ps:=ps) i
   unfold tot at this
   rw [hX] at this
   unfold tot at ht
   omega
  have HX:Hid ((ps.take i).flatten=X):=hX
  obtain ⟨oa,oc,rfl⟩:=own_shape ho
  have HO:Hid (wr.ownsRow (w.heap.size+1) 51 2 (.slice oa X.length oc) X.length (ndC X)):=ho
  have HNB:Hid (NB wr w.heap.size k s):=hnb
  have HB:Hid (Below w.heap.size w wr):=hb
  have hws:w.heap.size+1≤wr.heap.size:=hnb.lt
  clear ho hnb hb hX
  by_cases hlt : i < ps.length
  ·have hiI:(i:Int)<ps.length:=by omega
   obtain ⟨g,o,u,rfl,hgl,hc,hu⟩:=HR.out i hlt
   have cc:wr.cell? ⟨g,o+i,none⟩=some u:=by rw [below_cell HB.out hgl];exact hc
   obtain ⟨p,hp⟩:∃ p,ps.getD i []=p:=⟨_,rfl⟩
   have hp1:=HNE.out i hlt
   have hpt:=tot_next hlt
   have htl:=tot_le (ps:=ps) (i+1)
   rw [hp] at hu hp1 hpt
   have hsum:X.length+p.length≤9000:=by
    have e:tot (ps.take i)=X.length:=by unfold tot;rw [HX.out]
    omega
   have HU:Hid (NReads wr u p):=hu.stay HB.out
   obtain ⟨au,cu,rfl,hx⟩:=hu
   obtain ⟨g2,o2,rfl,_⟩:=hx 0 (by omega)
   have HCS:Hid (∀ j u,(ndC p)[j]?=some u→wr.cell? ((⟨g2,o2,none⟩:Addr).add j)=some u):=nreads_cells HU.out
   have hcl:=ndC_length p
   have hc1:=ndC_one p
   have HF:Hid ((ps.take (i+1)).flatten=X ++ p):=by show _=_;rw [flat_next hlt,HX.out,hp]
   clear hx hc hp hpt htl
   go_wp2_with (at_builtin;refine wpList_append_own _ rfl _ _ 22 rfl (w.heap.size+1) 51 i0 (.agg #[.int .i64 0,.int .u8 0]) 2 16 Tryz.underlying22 hi0 hz0 hz1 hz2 rfl (by decide) _ _ _ rfl HO.out ⟨g2,o2,none⟩ p.length cu (ndC p) rfl hcl HCS.out hc1 (by unfold maxLen;omega) (by omega) hws ?_)
   intro v2 w2 ho2 hg2 _
   have HO2:Hid (w2.ownsRow (w.heap.size+1) 51 2 v2 (X ++ p).length (ndC (X ++ p))):=by
    show World.ownsRow _ _ _ _ _ _ _
    rw [ndC_append,List.length_append]
    exact ho2
   have HNB2:Hid (NB w2 w.heap.size k s):=HNB.out.grown hg2 (fun e=>by have:=(HO.out.lt _ e).1;omega)
   have HB2:Hid (Below w.heap.size w w2):=HB.out.grown hg2 HB.out.size (fun k' hk'=>by have:=(HO.out.lt _ hk').1;omega)
   clear ho2 hg2
   go_wp2_with fail
   go_roundw
   case rel=>exact ⟨i+1,by omega,by go_num,by rw [HF.out];exact HO2.out,HNB2.out,HB2.out⟩
   case measure=>simp [intOf];omega
  ·have hiI:¬ (i:Int)<ps.length:=by omega
   obtain rfl:i=ps.length:=by omega
   rw [List.take_length] at HX
   have c0:=HNB.out.fst
   have c1:=HNB.out.snd
   go_wp2_with (at_builtin;refine wpList_append_own _ rfl _ _ 22 rfl (w.heap.size+1) 51 i0 (.agg #[.int .i64 0,.int .u8 0]) 2 16 Tryz.underlying22 hi0 hz0 hz1 hz2 rfl (by decide) _ _ _ rfl (HO.out.alloc _) ⟨wr.heap.size,0,none⟩ 1 1 [.int .i64 k,.int .u8 s] rfl rfl ?f1 ?f2 ?f3 ?f4 ?f5 ?_)
   case f2=>exact ⟨rfl,rfl⟩
   case f3=>unfold maxLen;omega
   case f4=>omega
   case f5=>first | omega | (simp;omega)
   intro v2 w2 ho2 hg2 _
   have HO2:Hid (w2.ownsRow w.heap.size 51 2 v2 (X ++ [(k,s)]).length (ndC (X ++ [(k,s)]))):=by
    show World.ownsRow _ _ _ _ _ _ _
    rw [ndC_append,List.length_append]
    exact own_mono ho2 (by omega)
   have HB2:Hid (Below w.heap.size w w2):=(HB.out.alloc HB.out.size _).grown hg2 (by have:=HB.out.size;simp;omega) (fun k' hk'=>by have:=(HO.out.lt _ hk').1;omega)
   clear ho2 hg2
   go_wp2_with fail
   go_ret
   refine ⟨_,rfl,?_,HB2.out⟩
   rw [HX.out]
   exact HO2.out

theorem cut_flat_one {n:Nd} {a:Tr} (h:(Tr.one n a).ok):cutL (Tr.one n a).flat=[a.flat]:=by
 have hl:(Tr.one n a).flat.length - 1=a.flat.length:=by simp [Tr.flat]
 have hn:(Tr.one n a).flat.getD ((Tr.one n a).flat.length - 1) (0,0)=(n.1,n.2):=by
  rw [hl,Tr.flat,List.getD_eq_getElem?_getD,List.getElem?_append_right (Nat.le_refl _)];simp
 rw [cut_one hn h.2.1,hl,Tr.flat,List.take_left]
theorem cut_flat_two {n:Nd} {a b:Tr} (h:(Tr.two n a b).ok):cutL (Tr.two n a b).flat=[a.flat,b.flat]:=by
 have hl:(Tr.two n a b).flat.length - 1=(a.flat ++ b.flat).length:=by simp [Tr.flat]
 have hn:(Tr.two n a b).flat.getD ((Tr.two n a b).flat.length - 1) (0,0)=(n.1,n.2):=by
  rw [hl,Tr.flat,List.getD_eq_getElem?_getD,List.getElem?_append_right (Nat.le_refl _)];simp
 have ht:(Tr.two n a b).flat.take ((Tr.two n a b).flat.length - 1)=a.flat ++ b.flat:=by rw [hl,Tr.flat,List.take_left]
 have hstk:stkN ((Tr.two n a b).flat.take ((Tr.two n a b).flat.length - 1))=[b.flat.length,a.flat.length]:=by
  rw [ht,stkN,stk_append,Tr.stk_flat a h.2.2.1,Tr.stk_flat b h.2.2.2]
 rw [cut_two hn h.2.1 hstk,ht,List.drop_left]
 rw [Tr.flat,List.append_assoc,List.take_left]
theorem cut_flat_zero {n : Nd} (h : (Tr.zero n).ok) : cutL (Tr.zero n).flat = [] :=
 cut_zero (k:=n.1) (s:=n.2) rfl h.2
theorem uflat_last (t:Tr):t.flat.getD (t.flat.length - 1) (0,0)=t.root:=by
 obtain ⟨X,hX⟩:=t.flat_root
 rw [hX,List.getD_eq_getElem?_getD,List.getElem?_append_right (by simp)]
 simp

abbrev S3 (W:World) (B:Nat) (k s:Int) (ad:Addr) (u:Value) (w':World):Prop:=w'.cell? ⟨B,0,none⟩=some (.int .i64 k)∧w'.cell? ⟨B,1,none⟩=some (.int .u8 s)∧w'.cell? ad=some u∧Below W.heap.size W w'
theorem one_pos {p:List Nd} (h:1≤p.length):∀ i,i<[p].length→1≤([p].getD i []).length:=fun i hi=>by
 have hi:i<1:=hi
 obtain rfl:i=0:=by omega
 exact h
theorem two_pos {p q:List Nd} (h:1≤p.length) (h':1≤q.length):∀ i,i<[p,q].length→1≤([p,q].getD i []).length:=fun i hi=>by
 have hi:i<2:=hi
 have hc:i=0∨i=1:=by omega
 rcases hc with rfl | rfl
 ·exact h
 ·exact h'
theorem tot_one (p:List Nd):tot [p]=p.length:=by simp [tot]
theorem tot_two (p q:List Nd):tot [p,q]=p.length+q.length:=by simp [tot]
end Go.Proofs.YtfdhaknecjcjoaaGreatDoor

namespace Go.Proofs.YtfdhaknecjcjoaaGreatDoor
open Go Go.RowKit
set_option linter.unusedVariables false

/-- A form's members, as the document goes. -/
def Lst (k : Int) : Tr → List Tr
 | .zero n=>if Tr.zero n=unitK k then [] else [.zero n]
 | .one n a=>if Tr.one n a=unitK k then [] else [.one n a]
 | .two n a b=>if n.1=k then Lst k a ++ Lst k b else [.two n a b]
theorem two_unit (k:Int) (n:Nd) (a b:Tr):Tr.two n a b≠unitK k:=by unfold unitK;split <;> simp [tNone,tAll]
theorem nf_two {k:Int} (hk:k=5∨k=6) {n:Nd} {a b:Tr} (ho:(Tr.two n a b).ok) (h:NF (.two n a b)) (hr:n.1=k):a≠unitK k∧b≠unitK k∧b.root.1≠k∧a≠zeroK k∧b≠zeroK k:=by
 have hM:=h.2.2.2 (by omega)
 rw [hr] at hM
 have hb:=hM.2 b (by simp)
 by_cases ha : a.root.1 = k
 ·exact ⟨fun e=>unit_root hk (e ▸ ha),hb.2.1,hb.1,fun e=>zero_root hk (e ▸ ha),hb.2.2⟩
 ·have:=hM.2 a (by rw [spine_other ha];simp)
  exact ⟨this.2.1,hb.2.1,hb.1,this.2.2,hb.2.2⟩
theorem Lst_mb {k:Int} (hk:k=5∨k=6):∀ {x:Tr},x.ok→NF x→Lst k x=Mb k x
 | .zero n,ho,h=>rfl
 | .one n a,ho,h=>rfl
 | .two n a b,ho,h=>by
  unfold Lst
  by_cases hr : n.1 = k
  ·have h1:=nf_two hk ho h hr
   rw [if_pos hr,Lst_mb hk ho.2.2.1 h.1,Lst_mb hk ho.2.2.2 h.2.1]
   unfold Mb
   rw [if_neg h1.1,if_neg h1.2.1,if_neg (two_unit k n a b),spine_other h1.2.2.1,spine,if_pos hr]
  ·rw [if_neg hr]
   unfold Mb
   rw [if_neg (two_unit k n a b),spine,if_neg hr]
def insAll (l:List Tr):List Tr:=l.foldl (fun a t=>ins t a) []
theorem insAll_snoc (l:List Tr) (t:Tr):insAll (l ++ [t])=ins t (insAll l):=by simp [insAll,List.foldl_append]
theorem insAll_spec:∀ (n:Nat) {l:List Tr},l.length=n→Oks l→Oks (insAll l)∧Ris (insAll l)∧(∀ m,m ∈ insAll l↔m ∈ l)∧(insAll l).length≤l.length∧lens (insAll l)≤lens l
 | 0,l,hn,ho=>by
  obtain rfl:=List.eq_nil_of_length_eq_zero hn
  exact ⟨ho,by simp [insAll],by simp [insAll],by simp [insAll],by simp [insAll]⟩
 | n+1,l,hn,ho=>by
  rcases List.eq_nil_or_concat l with e | ⟨l',t,e⟩
  ·subst e;simp at hn
  ·rw [List.concat_eq_append] at e
   subst e
   have ho':Oks l':=fun m h=>ho m (by simp [h])
   have ht:t.ok:=ho t (by simp)
   obtain ⟨i1,i2,i3,i4,i5⟩:=insAll_spec n (l:=l') (by simpa using hn) ho'
   rw [insAll_snoc]
   have hm:∀ m,m ∈ ins t (insAll l')↔m ∈ l' ++ [t]:=fun m=>by rw [mem_ins ht i1,i3,List.mem_append,List.mem_singleton]
   have hlen:∀ {a:List Tr},(ins t a).length≤a.length+1∧lens (ins t a)≤lens a+(t.flat.length+1):=by
    intro a
    induction a with
    | nil=>simp [ins,lens]
    | cons x a ih =>
     rw [ins]
     split
     ·simp [lens] at *;omega
     ·split <;> simp [lens] <;> omega
   have h1:=(hlen (a:=insAll l')).1
   have h2:=(hlen (a:=insAll l')).2
   have h3:lens (l' ++ [t])=lens l'+(t.flat.length+1):=by simp [lens]
   exact ⟨fun m h=>ho m ((hm m).1 h),ris_ins ht i1 i2,hm,by rw [List.length_append,List.length_singleton];omega,by omega⟩
/-- The rule of Union and Inter, as the document goes. -/
theorem sev_eq {k : Int} (hk : k = 5 ∨ k = 6) {x y : Tr} (hox : x.ok) (hx : NF x) (hoy : y.ok) (hy : NF y) (zx : x ≠ zeroK k) (zy : y ≠ zeroK k) :
  (if insAll (Lst k x ++ Lst k y)=[] then unitK k else build k (insAll (Lst k x ++ Lst k y)))=R2 k x y:=by
 have mx:=mb_mem hk hox hx
 have my:=mb_mem hk hoy hy
 have ho:Oks (Mb k x ++ Mb k y):=fun m h=>by
  rcases List.mem_append.1 h with h | h
  ·exact (mx.2 m h).2.2.2.2
  ·exact (my.2 m h).2.2.2.2
 have hI:=insAll_spec _ rfl ho
 rw [Lst_mb hk hox hx,Lst_mb hk hoy hy]
 obtain ⟨L,hL⟩:∃ L,insAll (Mb k x ++ Mb k y)=L:=⟨_,rfl⟩
 rw [hL] at hI ⊢
 obtain ⟨i1,i2,i3,i4,i5⟩:=hI
 by_cases uy : y = unitK k
 ·rw [show R2 k x y=x by rw [R2_eq hk hox hx hoy,if_pos (.inr uy)]]
  have e:L=Mb k x:=ris_ext i2 mx.1 (fun m=>by rw [i3,show Mb k y=[] by unfold Mb;rw [if_pos uy]];simp)
  rw [e]
  by_cases ux : x = unitK k
  ·rw [show Mb k x=[] by unfold Mb;rw [if_pos ux],if_pos rfl];exact ux.symm
  ·rw [show Mb k x=spine k x by unfold Mb;rw [if_neg ux],if_neg (spine_ne k x),build_spine hox]
 ·by_cases ux : x = unitK k
  ·rw [show R2 k x y=y by rw [R2_eq hk hox hx hoy,if_neg (by simp [zx,uy]),if_pos (.inr ux)]]
   have e:L=Mb k y:=ris_ext i2 my.1 (fun m=>by rw [i3,show Mb k x=[] by unfold Mb;rw [if_pos ux]];simp)
   rw [e,show Mb k y=spine k y by unfold Mb;rw [if_neg uy],if_neg (spine_ne k y),build_spine hoy]
  ·rw [show R2 k x y=build k (mrg (spine k x) (spine k y)) by rw [R2_eq hk hox hx hoy,if_neg (by simp [zx,uy]),if_neg (by simp [zy,ux])]]
   have sx:=spine_mem hk hox hx
   have sy:=spine_mem hk hoy hy
   have e:L=mrg (spine k x) (spine k y):=ris_ext i2 (ris_mrg _ (Nat.le_refl _) (spine_ok hox) (spine_ok hoy) sx.1 sy.1) (fun m=>by
    rw [i3,mem_mrg _ (Nat.le_refl _) (spine_ok hox) (spine_ok hoy),List.mem_append]
    unfold Mb
    rw [if_neg ux,if_neg uy])
   rw [e,if_neg (mrg_ne (spine_ne k x))]
/-- Where nothing is too great for the rule. -/
theorem ulst_zero {k:Int} (hk:k=5∨k=6) {x:Tr} (ho:x.ok) (h:NF x):zeroK k ∈ Lst k x↔x=zeroK k:=by
 rw [Lst_mb hk ho h]
 constructor
 ·intro hm
  exact ((mb_mem hk ho h).2 _ hm).2.2.1 rfl
 ·rintro rfl
  unfold Mb
  rw [if_neg (fun e=>unit_zero k e.symm),spine_other (zero_root hk)]
  simp
theorem lst_ok {k:Int}:∀ {x:Tr},x.ok→Oks (Lst k x)
 | .zero n,h=>by intro m hm;unfold Lst at hm;split at hm <;> simp at hm;rw [hm];exact h
 | .one n a,h=>by intro m hm;unfold Lst at hm;split at hm <;> simp at hm;rw [hm];exact h
 | .two n a b,h=>by
  intro m hm
  unfold Lst at hm
  split at hm
  ·rcases List.mem_append.1 hm with e | e
   ·exact lst_ok h.2.2.1 m e
   ·exact lst_ok h.2.2.2 m e
  ·simp at hm;rw [hm];exact h
theorem lst_lens (k:Int):∀ (x:Tr),lens (Lst k x)≤x.flat.length+1∧(Lst k x).length≤x.flat.length
 | .zero n=>by unfold Lst;split <;> simp [lens,Tr.flat]
 | .one n a=>by unfold Lst;split <;> simp [lens,Tr.flat]
 | .two n a b=>by
  have h1:=lst_lens k a
  have h2:=lst_lens k b
  unfold Lst
  split
  ·simp only [lens,List.map_append,List.sum_append,List.length_append,Tr.flat,List.length_singleton] at *;omega
  ·simp only [lens,List.map_cons,List.map_nil,List.sum_cons,List.sum_nil,Tr.flat,List.length_append,List.length_cons,List.length_nil] at *;omega
/-- The rule of Concat, as the document goes. -/
theorem RC_two {n:Nd} {a b y:Tr} (ho:(Tr.two n a b).ok) (h:NF (.two n a b)) (hn:n.1=7) (hoy:y.ok) (hy:NF y):RC (.two n a b) y=RC a (RC b y):=by
 have e:=nrm_nf ho h
 unfold nrm at e
 rw [if_pos hn,nrm_nf ho.2.2.1 h.1,nrm_nf ho.2.2.2 h.2.1] at e
 rw [← e]
 exact RC_assoc ho.2.2.1 h.1 ho.2.2.2 h.2.1 hoy hy
theorem RC_last {x y:Tr} (h1:x≠tNone) (h2:x≠tEmpty) (h3:y≠tNone) (h4:y≠tEmpty) (h7:x.root.1≠7):RC x y=cj x y:=by
 rw [RC_main h1 h2 h3 h4,conc_other h7];rfl
theorem root_none {t:Tr} (h:t.ok):t.root.1=1↔t=tNone:=by
 constructor
 ·intro e
  match t,h,e with
  | .zero (k,s),h,e =>
   have e:k=1:=e
   subst e
   have:=h.1
   simp [good] at this
   rw [this];rfl
  | .one n a,h,e=>have:=h.2.1;have e:n.1=1:=e;rw [e] at this;simp [arity] at this
  | .two n a b,h,e=>have:=h.2.1;have e:n.1=1:=e;rw [e] at this;simp [arity] at this
 ·rintro rfl;rfl
theorem root_empty {t:Tr} (h:t.ok):t.root.1=2↔t=tEmpty:=by
 constructor
 ·intro e
  match t,h,e with
  | .zero (k,s),h,e =>
   have e:k=2:=e
   subst e
   have:=h.1
   simp [good] at this
   rw [this];rfl
  | .one n a,h,e=>have:=h.2.1;have e:n.1=2:=e;rw [e] at this;simp [arity] at this
  | .two n a b,h,e=>have:=h.2.1;have e:n.1=2:=e;rw [e] at this;simp [arity] at this
 ·rintro rfl;rfl
theorem root_anyK {t:Tr} (h:t.ok):t.root.1=4↔t=tAny:=by
 constructor
 ·intro e
  match t,h,e with
  | .zero (k,s),h,e =>
   have e:k=4:=e
   subst e
   have:=h.1
   simp [good] at this
   rw [this];rfl
  | .one n a,h,e=>have:=h.2.1;have e:n.1=4:=e;rw [e] at this;simp [arity] at this
  | .two n a b,h,e=>have:=h.2.1;have e:n.1=4:=e;rw [e] at this;simp [arity] at this
 ·rintro rfl;rfl
theorem shape_two {t:Tr} (h:t.ok) (e:arity t.root.1=2):∃ n a b,t=.two n a b:=by
 match t,h,e with
 | .zero n,h,e=>have:=h.2;have e:arity n.1=2:=e;omega
 | .one n a,h,e=>have:=h.2.1;have e:arity n.1=2:=e;omega
 | .two n a b,h,e=>exact ⟨n,a,b,rfl⟩
theorem shape_one {t:Tr} (h:t.ok) (e:arity t.root.1=1):∃ n a,t=.one n a:=by
 match t,h,e with
 | .zero n,h,e=>have:=h.2;have e:arity n.1=1:=e;omega
 | .one n a,h,e=>exact ⟨n,a,rfl⟩
 | .two n a b,h,e=>have:=h.2.1;have e:arity n.1=1:=e;omega
end Go.Proofs.YtfdhaknecjcjoaaGreatDoor

namespace Go.Proofs.YtfdhaknecjcjoaaGreatDoor
open Go Go.RowKit
set_option linter.unusedVariables false

theorem ris_b (T : Tr) (v : Value) (k : Int) (b : Bool) (w : World) (hv : NReads w v T.flat) (hl : T.flat.length ≤ 9000) (hb : (T.root.1 == k) = b) :
  Calls Tryz.prog 71 #[v,.int .i64 k] w fun e w'=>e=.returned (.bool b)∧w=w':=by
 have hp:=T.len_pos
 obtain ⟨X,hX⟩:=T.flat_root
 have h:=ris_any v T.flat (T.flat.length - 1) T.root.1 T.root.2 k w hv (by omega) (by omega) (by rw [hX];simp)
 rw [hb] at h
 exact h.mono (fun e w' hh=>⟨hh.1,hh.2.symm⟩)

theorem risAll_b (T:Tr) (hT:T.ok) (v:Value) (b:Bool) (w:World) (hv:NReads w v T.flat) (hl:T.flat.length≤9000) (hb:decide (T=tAll)=b):Calls Tryz.prog 72 #[v] w fun e w'=>e=.returned (.bool b)∧Below w.heap.size w w':=by
 have h:=risAll_any T hT v w hv (by omega)
 rw [hb] at h
 exact h
theorem nr_lit1 {w:World} {v:Value} {p:List Nd} (h:NReads w v p):PReads (w.alloc (.cells #[v] 22)) (.slice (some ⟨w.heap.size,0,none⟩) 1 1) [p]:=by
 refine ⟨_,_,rfl,fun i hi=>?_⟩
 have hi:i<1:=hi
 obtain rfl:i=0:=by omega
 exact ⟨w.heap.size,0,v,rfl,(PB.new w #[v]).lt,by rw [(PB.new w #[v]).get];rfl,h.stay ((Below.refl _ _).alloc (Nat.le_refl _) _)⟩
theorem nr_lit2 {w:World} {v v':Value} {p q:List Nd} (h:NReads w v p) (h':NReads w v' q):PReads (w.alloc (.cells #[v,v'] 22)) (.slice (some ⟨w.heap.size,0,none⟩) 2 2) [p,q]:=by
 refine ⟨_,_,rfl,fun i hi=>?_⟩
 have hi:i<2:=hi
 have hc:i=0∨i=1:=by omega
 have hb:Below w.heap.size w (w.alloc (.cells #[v,v'] 22)):=(Below.refl _ _).alloc (Nat.le_refl _) _
 rcases hc with rfl | rfl
 ·exact ⟨w.heap.size,0,v,rfl,(PB.new w #[v,v']).lt,by rw [(PB.new w #[v,v']).get];rfl,h.stay hb⟩
 ·exact ⟨w.heap.size,0,v',rfl,(PB.new w #[v,v']).lt,by rw [(PB.new w #[v,v']).get];rfl,h'.stay hb⟩
/-- What is answered: a tree that is the call's own. -/
def Own (w:World) (T:Tr) (e:Ending) (w':World):Prop:=∃ u,e=.returned u∧w'.ownsRow w.heap.size 51 2 u T.flat.length (ndC T.flat)∧Below w.heap.size w w'

set_option maxHeartbeats 4000000 in
set_option maxRecDepth 100000 in
theorem again_any (T : Tr) (hT : T.ok) (v : Value) (w : World) (hv : NReads w v T.flat) (hl : T.flat.length ≤ 8990) :
  Calls Tryz.prog 48 #[v] w (Own w (RS T)):=by
 unfold Own
 have HV:Hid (NReads w v T.flat):=hv
 have HT:Hid T.ok:=hT
 by_cases c1 : T = tNone
 ·have HE:Hid (RS T=tEmpty):=by show _=_;unfold RS;rw [if_pos (.inl c1)]
  have HR:Hid ((T.root.1 == 1)=true):=by rw [c1];rfl
  rw [HE.out]
  clear hv hT c1
  go_enter Tryz.func48,Tryz.ntmps48
  go_wp2_with fail
  refine (ris_b T v 1 true _ HV.out (by omega) HR.out).mono ?_
  rintro e w1 ⟨rfl,rfl⟩
  go_wp2_with fail
  refine (rempty_any _).mono ?_
  rintro e w2 ⟨u,rfl,ho,hb⟩
  have HO:Hid _:=ho
  have HB:Hid _:=hb
  clear ho hb
  go_wp2_with fail
  go_ret
  exact ⟨_,rfl,HO.out,HB.out⟩
 by_cases c2 : T = tEmpty
 ·have HE:Hid (RS T=tEmpty):=by show _=_;unfold RS;rw [if_pos (.inr c2)]
  have HR:Hid ((T.root.1 == 1)=false∧(T.root.1 == 2)=true):=by rw [c2];exact ⟨rfl,rfl⟩
  rw [HE.out]
  clear hv hT c1 c2
  go_enter Tryz.func48,Tryz.ntmps48
  go_wp2_with fail
  refine (ris_b T v 1 false _ HV.out (by omega) HR.out.1).mono ?_
  rintro e w1 ⟨rfl,rfl⟩
  go_wp2_with fail
  refine (ris_b T v 2 true _ HV.out (by omega) HR.out.2).mono ?_
  rintro e w1 ⟨rfl,rfl⟩
  go_wp2_with fail
  refine (rempty_any _).mono ?_
  rintro e w2 ⟨u,rfl,ho,hb⟩
  have HO:Hid _:=ho
  have HB:Hid _:=hb
  clear ho hb
  go_wp2_with fail
  go_ret
  exact ⟨_,rfl,HO.out,HB.out⟩
 have HR:Hid ((T.root.1 == 1)=false∧(T.root.1 == 2)=false):=by
  constructor <;> rw [beq_eq_false_iff_ne]
  ·exact fun e=>c1 ((root_none hT).1 e)
  ·exact fun e=>c2 ((root_empty hT).1 e)
 by_cases c8 : T.root.1 = 8
 ·have HE:Hid (RS T=T):=by
   show _=_;unfold RS;rw [if_neg (by simp [c1,c2]),if_neg (fun e=>by rw [e] at c8;simp [tAny,Tr.root] at c8),if_pos (.inl c8)]
  have HR8:Hid ((T.root.1 == 8)=true):=by rw [c8];rfl
  rw [HE.out]
  obtain ⟨a,cap,rfl,hr⟩:=hv
  obtain ⟨g,o,rfl,_⟩:=hr 0 T.len_pos
  obtain ⟨i0,hi,hz0,hz1,hz2⟩:=info_parts Tryz.info_node
  have hzl:=ndC_length T.flat
  have h1c:=ndC_one T.flat
  have HO0:Hid ((w.alloc (.cells #[] 51)).ownsRow w.heap.size 51 2 (.slice (some ⟨w.heap.size,0,none⟩) 0 0) 0 []):=World.ownsRow_made w #[] 0 (Nat.le_refl _) (by unfold maxLen;omega) rfl
  have HB0:Hid (Below w.heap.size w (w.alloc (.cells #[] 51))):=(Below.refl _ _).alloc (Nat.le_refl _) _
  have HN:Hid (∀ j u,(ndC T.flat)[j]?=some u→(w.alloc (.cells #[] 51)).cell? ((⟨g,o,none⟩:Addr).add j)=some u):=nreads_cells (HV.out.stay HB0.out)
  clear hT c1 c2 c8 hr
  go_enter Tryz.func48,Tryz.ntmps48
  go_wp2_with fail
  refine (ris_b T _ 1 false _ HV.out (by omega) HR.out.1).mono ?_
  rintro e w1 ⟨rfl,rfl⟩
  go_wp2_with fail
  refine (ris_b T _ 2 false _ HV.out (by omega) HR.out.2).mono ?_
  rintro e w1 ⟨rfl,rfl⟩
  go_wp2_with fail
  refine (ris_b T _ 8 true _ HV.out (by omega) HR8.out).mono ?_
  rintro e w1 ⟨rfl,rfl⟩
  go_wp2_with (at_builtin;refine wpList_append_own _ rfl _ _ 22 rfl w.heap.size 51 i0 (.agg #[.int .i64 0,.int .u8 0]) 2 16 Tryz.underlying22 hi hz0 hz1 hz2 rfl (by decide) _ _ _ rfl HO0.out ⟨g,o,none⟩ T.flat.length cap (ndC T.flat) rfl hzl HN.out h1c (by unfold maxLen;omega) (by omega) (by simp) ?_)
  intro v2 w2 ho2 hg2 hn2
  have HB2:Hid (Below w.heap.size w w2):=HB0.out.grown hg2 (by simp) (fun k hk=>(HO0.out.lt k hk).1)
  have HO2:Hid (w2.ownsRow w.heap.size 51 2 v2 T.flat.length (ndC T.flat)):=ho2
  clear ho2 hg2 hn2
  go_wp2_with fail
  go_ret
  exact ⟨_,rfl,HO2.out,HB2.out⟩
 have HR8:Hid ((T.root.1 == 8)=false):=by show _=_;rw [beq_eq_false_iff_ne];exact c8
 by_cases c4 : T = tAny
 ·have HE:Hid (RS T=tAll):=by show _=_;unfold RS;rw [if_neg (by simp [c1,c2]),if_pos c4]
  have HR4:Hid ((T.root.1 == 4)=true):=by rw [c4];rfl
  rw [HE.out]
  clear hv hT c1 c2 c8 c4
  go_enter Tryz.func48,Tryz.ntmps48
  go_wp2_with fail
  refine (ris_b T v 1 false _ HV.out (by omega) HR.out.1).mono ?_
  rintro e w1 ⟨rfl,rfl⟩
  go_wp2_with fail
  refine (ris_b T v 2 false _ HV.out (by omega) HR.out.2).mono ?_
  rintro e w1 ⟨rfl,rfl⟩
  go_wp2_with fail
  refine (ris_b T v 8 false _ HV.out (by omega) HR8.out).mono ?_
  rintro e w1 ⟨rfl,rfl⟩
  go_wp2_with fail
  refine (ris_b T v 4 true _ HV.out (by omega) HR4.out).mono ?_
  rintro e w1 ⟨rfl,rfl⟩
  go_wp2_with fail
  refine (rall_any _).mono ?_
  rintro e w2 ⟨u,rfl,ho,hb⟩
  have HO:Hid _:=ho
  have HB:Hid _:=hb
  clear ho hb
  go_wp2_with fail
  go_ret
  exact ⟨_,rfl,HO.out,HB.out⟩
 have HR4:Hid ((T.root.1 == 4)=false):=by show _=_;rw [beq_eq_false_iff_ne];exact fun e=>c4 ((root_anyK hT).1 e)
 by_cases c9 : T = tAll
 ·have HE:Hid (RS T=tAll):=by show _=_;unfold RS;rw [if_neg (by simp [c1,c2]),if_neg c4,if_pos (.inr c9)];exact c9
  have HR9:Hid (decide (T=tAll)=true):=by show _=_;simpa using c9
  rw [HE.out]
  clear hv hT c1 c2 c8 c4 c9
  go_enter Tryz.func48,Tryz.ntmps48
  go_wp2_with fail
  refine (ris_b T v 1 false _ HV.out (by omega) HR.out.1).mono ?_
  rintro e w1 ⟨rfl,rfl⟩
  go_wp2_with fail
  refine (ris_b T v 2 false _ HV.out (by omega) HR.out.2).mono ?_
  rintro e w1 ⟨rfl,rfl⟩
  go_wp2_with fail
  refine (ris_b T v 8 false _ HV.out (by omega) HR8.out).mono ?_
  rintro e w1 ⟨rfl,rfl⟩
  go_wp2_with fail
  refine (ris_b T v 4 false _ HV.out (by omega) HR4.out).mono ?_
  rintro e w1 ⟨rfl,rfl⟩
  go_wp2_with fail
  refine (risAll_b T HT.out v true _ HV.out (by omega) HR9.out).mono ?_
  rintro e w1 ⟨rfl,hb1⟩
  have HB1:Hid (Below w.heap.size w w1):=hb1
  clear hb1
  go_wp2_with fail
  refine (rall_any _).mono ?_
  rintro e w2 ⟨u,rfl,ho,hb⟩
  have HO:Hid (w2.ownsRow w.heap.size 51 2 u tAll.flat.length (ndC tAll.flat)):=own_mono ho HB1.out.size
  have HB:Hid (Below w.heap.size w w2):=go_on HB1.out hb
  clear ho hb
  go_wp2_with fail
  go_ret
  exact ⟨_,rfl,HO.out,HB.out⟩
 have HR9:Hid (decide (T=tAll)=false):=by show _=_;simpa using c9
 have HE:Hid (RS T=.one (8,0) T):=by show _=_;unfold RS;rw [if_neg (by simp [c1,c2]),if_neg c4,if_neg (by simp [c8,c9])]
 rw [HE.out]
 obtain ⟨av,cp,rfl,_⟩:=hv
 clear hT c1 c2 c8 c4 c9
 go_enter Tryz.func48,Tryz.ntmps48
 go_wp2_with fail
 refine (ris_b T _ 1 false _ HV.out (by omega) HR.out.1).mono ?_
 rintro e w1 ⟨rfl,rfl⟩
 go_wp2_with fail
 refine (ris_b T _ 2 false _ HV.out (by omega) HR.out.2).mono ?_
 rintro e w1 ⟨rfl,rfl⟩
 go_wp2_with fail
 refine (ris_b T _ 8 false _ HV.out (by omega) HR8.out).mono ?_
 rintro e w1 ⟨rfl,rfl⟩
 go_wp2_with fail
 refine (ris_b T _ 4 false _ HV.out (by omega) HR4.out).mono ?_
 rintro e w1 ⟨rfl,rfl⟩
 go_wp2_with fail
 refine (risAll_b T HT.out _ false _ HV.out (by omega) HR9.out).mono ?_
 rintro e w1 ⟨rfl,hb1⟩
 have HB1:Hid (Below w.heap.size w w1):=hb1
 clear hb1
 go_wp2_with fail
 refine (rnode_any 8 _).mono ?_
 rintro e w2 ⟨rfl,hb2⟩
 have HB2:Hid (Below w.heap.size w w2):=go_on HB1.out hb2
 clear hb2
 go_wp2_with fail
 refine (made_any 8 0 _ [T.flat] _ (nr_lit1 (HV.out.stay HB2.out)) (one_pos T.len_pos) (by rw [tot_one];omega) (by simp)).mono ?_
 rintro e w3 ⟨u,rfl,ho,hb⟩
 have HB3:Hid (Below w.heap.size w w3):=go_on (HB2.out.alloc HB2.out.size _) hb
 have HO:Hid (w3.ownsRow w.heap.size 51 2 u (Tr.one (8,0) T).flat.length (ndC (Tr.one (8,0) T).flat)):=by
  have h:=own_mono ho (show w.heap.size≤_ by have:=HB2.out.size;simp only [World.size_alloc];omega)
  show World.ownsRow _ _ _ _ _ _ _
  simpa [Tr.flat] using h
 clear ho hb
 go_wp2_with fail
 go_ret
 exact ⟨_,rfl,HO.out,HB3.out⟩

set_option maxHeartbeats 4000000 in
set_option maxRecDepth 100000 in
theorem other_any (T:Tr) (hT:T.ok) (v:Value) (w:World) (hv:NReads w v T.flat) (hl:T.flat.length≤8990) (hcap:∀ a n c,v=.slice a n c→n≤c) :
  Calls Tryz.prog 45 #[v] w (Own w (RN T)):=by
 unfold Own
 have HV:Hid (NReads w v T.flat):=hv
 have HT:Hid T.ok:=hT
 by_cases c9 : T.root.1 = 9
 ·obtain ⟨n,A,rfl⟩:=shape_one hT (by rw [c9];rfl)
  have HE:Hid (RN (.one n A)=A):=by show _=_;rw [RN,if_pos (show n.1=9 from c9)]
  have HR:Hid (((Tr.one n A).root.1 == 9)=true):=by rw [c9];rfl
  rw [HE.out]
  have hlen:(Tr.one n A).flat.length=A.flat.length+1:=by simp [Tr.flat]
  obtain ⟨a,cap,rfl,hr⟩:=hv
  have hcl:=hcap _ _ _ rfl
  obtain ⟨g,o,rfl,_⟩:=hr 0 (Tr.one n A).len_pos
  obtain ⟨i0,hi,hz0,hz1,hz2⟩:=info_parts Tryz.info_node
  have hzl:=ndC_length A.flat
  have h1c:=ndC_one A.flat
  have HO0:Hid ((w.alloc (.cells #[] 51)).ownsRow w.heap.size 51 2 (.slice (some ⟨w.heap.size,0,none⟩) 0 0) 0 []):=World.ownsRow_made w #[] 0 (Nat.le_refl _) (by unfold maxLen;omega) rfl
  have HB0:Hid (Below w.heap.size w (w.alloc (.cells #[] 51))):=(Below.refl _ _).alloc (Nat.le_refl _) _
  have HN:Hid (∀ j u,(ndC A.flat)[j]?=some u→(w.alloc (.cells #[] 51)).cell? ((⟨g,o,none⟩:Addr).add j)=some u):=fun j u hj=>nreads_cells (HV.out.stay HB0.out) j u (by
   rw [show (Tr.one n A).flat=A.flat ++ [n] from rfl,ndC_append,List.getElem?_append_left (by have:=(List.getElem?_eq_some_iff.1 hj).1;exact this)];exact hj)
  obtain ⟨m,hm⟩:∃ m,A.flat.length=m:=⟨_,rfl⟩
  have hN:(Tr.one n A).flat.length=m+1:=by omega
  have hmI:(((m+1:Nat):Int) - 1)=m:=by omega
  have HM:Hid (A.flat.length=m):=hm
  rw [hN] at HV hcl hl
  have hmc:(m:Int)≤cap:=by omega
  rw [hm] at hzl ⊢
  have hN2:Hid (∀ w',NReads w' (.slice (some ⟨g,o,none⟩) (m+1) cap) (Tr.one n A).flat→NReads w' (.slice (some ⟨g,o,none⟩) (Tr.one n A).flat.length cap) (Tr.one n A).flat):=fun w' h=>by rw [hN];exact h
  rw [hN]
  have hl9:(Tr.one n A).flat.length≤9000:=by omega
  clear hT c9 hr hlen hN hm hcap
  go_enter Tryz.func45,Tryz.ntmps45
  go_wp2_with fail
  refine (ris_b (.one n A) _ 9 true _ HV.out hl9 HR.out).mono ?_
  rintro e w1 ⟨rfl,rfl⟩
  go_wp2_with (at_builtin;refine wpList_append_own _ rfl _ _ 22 rfl w.heap.size 51 i0 (.agg #[.int .i64 0,.int .u8 0]) 2 16 Tryz.underlying22 hi hz0 hz1 hz2 rfl (by decide) _ _ _ rfl HO0.out ⟨g,o,none⟩ m cap (ndC A.flat) rfl hzl HN.out h1c (by unfold maxLen;omega) (by omega) (by simp) ?_)
  intro v2 w2 ho2 hg2 hn2
  have HB2:Hid (Below w.heap.size w w2):=HB0.out.grown hg2 (by simp) (fun k hk=>(HO0.out.lt k hk).1)
  have HO2:Hid (w2.ownsRow w.heap.size 51 2 v2 m (ndC A.flat)):=ho2
  clear ho2 hg2 hn2
  go_wp2_with fail
  go_ret
  exact ⟨_,rfl,HO2.out,HB2.out⟩
 have HR:Hid ((T.root.1 == 9)=false):=by show _=_;rw [beq_eq_false_iff_ne];exact c9
 have HE:Hid (RN T=.one (9,0) T):=by
  show _ = _
  cases T with
  | zero n=>rfl
  | two n a b=>rfl
  | one n a=>rw [RN,if_neg (show ¬ n.1=9 from c9)]
 rw [HE.out]
 obtain ⟨av,cp,rfl,_⟩:=hv
 clear hT c9 hcap
 go_enter Tryz.func45,Tryz.ntmps45
 go_wp2_with fail
 refine (ris_b T _ 9 false _ HV.out (by omega) HR.out).mono ?_
 rintro e w1 ⟨rfl,rfl⟩
 go_wp2_with fail
 refine (rnode_any 9 _).mono ?_
 rintro e w2 ⟨rfl,hb2⟩
 have HB2:Hid (Below w.heap.size w w2):=hb2
 clear hb2
 go_wp2_with fail
 refine (made_any 9 0 _ [T.flat] _ (nr_lit1 (HV.out.stay HB2.out)) (one_pos T.len_pos) (by rw [tot_one];omega) (by simp)).mono ?_
 rintro e w3 ⟨u,rfl,ho,hb⟩
 have HB3:Hid (Below w.heap.size w w3):=go_on (HB2.out.alloc HB2.out.size _) hb
 have HO:Hid (w3.ownsRow w.heap.size 51 2 u (Tr.one (9,0) T).flat.length (ndC (Tr.one (9,0) T).flat)):=by
  have h:=own_mono ho (show w.heap.size≤_ by have:=HB2.out.size;simp only [World.size_alloc];omega)
  show World.ownsRow _ _ _ _ _ _ _
  simpa [Tr.flat] using h
 clear ho hb
 go_wp2_with fail
 go_ret
 exact ⟨_,rfl,HO.out,HB3.out⟩
end Go.Proofs.YtfdhaknecjcjoaaGreatDoor

namespace Go.Proofs.YtfdhaknecjcjoaaGreatDoor
open Go Go.RowKit
set_option linter.unusedVariables false

set_option maxHeartbeats 4000000 in
set_option maxRecDepth 100000 in
theorem behind_1 (X Y : Tr) (hoX : X.ok) (hoY : Y.ok) (vx vy : Value) (w : World) (hx : NReads w vx X.flat) (hy : NReads w vy Y.flat) (hl : X.flat.length + Y.flat.length ≤ 8990) (rX1 : (X.root.1 == 1) = true) :
  Calls Tryz.prog 46 #[vx,vy] w (Own w tNone):=by
 unfold Own
 have HX:Hid (NReads w vx X.flat):=hx
 have HY:Hid (NReads w vy Y.flat):=hy
 have HOX:Hid X.ok:=hoX
 have HOY:Hid Y.ok:=hoY
 have B0:Hid (Below w.heap.size w w):=Below.refl _ _
 have HRX1:Hid ((X.root.1 == 1)=true):=rX1
 obtain ⟨ax,cx,rfl,_⟩:=hx
 obtain ⟨ay,cy,rfl,_⟩:=hy
 clear hoX hoY rX1
 go_enter Tryz.func46,Tryz.ntmps46
 go_wp2_with fail
 refine (ris_b X _ 1 true _ (HX.out.stay B0.out) (by omega) HRX1.out).mono ?_
 rintro e w1 ⟨rfl,rfl⟩
 go_wp2_with fail
 refine (rnone_any _).mono ?_
 rintro e w2 ⟨u,rfl,ho,hb⟩
 have HO:Hid _:=ho
 have HB:Hid _:=hb
 clear ho hb
 go_wp2_with fail
 go_ret
 exact ⟨_,rfl,HO.out,HB.out⟩

set_option maxHeartbeats 4000000 in
set_option maxRecDepth 100000 in
theorem behind_2 (X Y : Tr) (hoX : X.ok) (hoY : Y.ok) (vx vy : Value) (w : World) (hx : NReads w vx X.flat) (hy : NReads w vy Y.flat) (hl : X.flat.length + Y.flat.length ≤ 8990) (rX1 : (X.root.1 == 1) = false) (rY1 : (Y.root.1 == 1) = true) :
  Calls Tryz.prog 46 #[vx,vy] w (Own w tNone):=by
 unfold Own
 have HX:Hid (NReads w vx X.flat):=hx
 have HY:Hid (NReads w vy Y.flat):=hy
 have HOX:Hid X.ok:=hoX
 have HOY:Hid Y.ok:=hoY
 have B0:Hid (Below w.heap.size w w):=Below.refl _ _
 have HRX1:Hid ((X.root.1 == 1)=false):=rX1
 have HRY1:Hid ((Y.root.1 == 1)=true):=rY1
 obtain ⟨ax,cx,rfl,_⟩:=hx
 obtain ⟨ay,cy,rfl,_⟩:=hy
 clear hoX hoY rX1 rY1
 go_enter Tryz.func46,Tryz.ntmps46
 go_wp2_with fail
 refine (ris_b X _ 1 false _ (HX.out.stay B0.out) (by omega) HRX1.out).mono ?_
 rintro e w1 ⟨rfl,rfl⟩
 go_wp2_with fail
 refine (ris_b Y _ 1 true _ (HY.out.stay B0.out) (by omega) HRY1.out).mono ?_
 rintro e w1 ⟨rfl,rfl⟩
 go_wp2_with fail
 refine (rnone_any _).mono ?_
 rintro e w2 ⟨u,rfl,ho,hb⟩
 have HO:Hid _:=ho
 have HB:Hid _:=hb
 clear ho hb
 go_wp2_with fail
 go_ret
 exact ⟨_,rfl,HO.out,HB.out⟩

set_option maxHeartbeats 4000000 in
set_option maxRecDepth 100000 in
theorem behind_3 (X Y : Tr) (hoX : X.ok) (hoY : Y.ok) (vx vy : Value) (w : World) (hx : NReads w vx X.flat) (hy : NReads w vy Y.flat) (hl : X.flat.length + Y.flat.length ≤ 8990) (rX1 : (X.root.1 == 1) = false) (rY1 : (Y.root.1 == 1) = false) (rX2 : (X.root.1 == 2) = true) :
  Calls Tryz.prog 46 #[vx,vy] w (Own w Y):=by
 unfold Own
 have HX:Hid (NReads w vx X.flat):=hx
 have HY:Hid (NReads w vy Y.flat):=hy
 have HOX:Hid X.ok:=hoX
 have HOY:Hid Y.ok:=hoY
 have B0:Hid (Below w.heap.size w w):=Below.refl _ _
 have HRX1:Hid ((X.root.1 == 1)=false):=rX1
 have HRY1:Hid ((Y.root.1 == 1)=false):=rY1
 have HRX2:Hid ((X.root.1 == 2)=true):=rX2
 obtain ⟨av,cap,rfl,hr⟩:=hy
 obtain ⟨g,o,rfl,_⟩:=hr 0 Y.len_pos
 obtain ⟨i0,hi,hz0,hz1,hz2⟩:=info_parts Tryz.info_node
 have hzl:=ndC_length Y.flat
 have h1c:=ndC_one Y.flat
 have HN:Hid (∀ w',Below w.heap.size w w'→∀ j u,(ndC Y.flat)[j]?=some u→w'.cell? ((⟨g,o,none⟩:Addr).add j)=some u):=fun w' hb=>nreads_cells (HY.out.stay hb)
 clear hr
 clear hoX hoY hx rX1 rY1 rX2
 go_enter Tryz.func46,Tryz.ntmps46
 go_wp2_with fail
 refine (ris_b X _ 1 false _ (HX.out.stay B0.out) (by omega) HRX1.out).mono ?_
 rintro e w1 ⟨rfl,rfl⟩
 go_wp2_with fail
 refine (ris_b Y _ 1 false _ (HY.out.stay B0.out) (by omega) HRY1.out).mono ?_
 rintro e w1 ⟨rfl,rfl⟩
 go_wp2_with fail
 refine (ris_b X _ 2 true _ (HX.out.stay B0.out) (by omega) HRX2.out).mono ?_
 rintro e w1 ⟨rfl,rfl⟩
 have HO0:Hid ((w.alloc (.cells #[] 51)).ownsRow w.heap.size 51 2 (.slice (some ⟨w.heap.size,0,none⟩) 0 0) 0 []):=World.ownsRow_made w #[] 0 (Nat.le_refl _) (by unfold maxLen;omega) rfl
 have HB0:Hid (Below w.heap.size w (w.alloc (.cells #[] 51))):=B0.out.alloc B0.out.size _
 have HN0:Hid _:=HN.out _ HB0.out
 go_wp2_with (at_builtin;refine wpList_append_own _ rfl _ _ 22 rfl w.heap.size 51 i0 (.agg #[.int .i64 0,.int .u8 0]) 2 16 Tryz.underlying22 hi hz0 hz1 hz2 rfl (by decide) _ _ _ rfl HO0.out ⟨g,o,none⟩ Y.flat.length cap (ndC Y.flat) rfl hzl HN0.out h1c (by unfold maxLen;omega) (by omega) (by simp) ?_)
 intro v2 w2 ho2 hg2 hn2
 have HB2:Hid (Below w.heap.size w w2):=HB0.out.grown hg2 HB0.out.size (fun k hk=>Nat.le_trans B0.out.size (HO0.out.lt k hk).1)
 have HO2:Hid (w2.ownsRow w.heap.size 51 2 v2 Y.flat.length (ndC Y.flat)):=own_mono ho2 B0.out.size
 clear ho2 hg2 hn2
 go_wp2_with fail
 go_ret
 exact ⟨_,rfl,HO2.out,HB2.out⟩

set_option maxHeartbeats 4000000 in
set_option maxRecDepth 100000 in
theorem behind_4 (X Y : Tr) (hoX : X.ok) (hoY : Y.ok) (vx vy : Value) (w : World) (hx : NReads w vx X.flat) (hy : NReads w vy Y.flat) (hl : X.flat.length + Y.flat.length ≤ 8990) (rX1 : (X.root.1 == 1) = false) (rY1 : (Y.root.1 == 1) = false) (rX2 : (X.root.1 == 2) = false) (rY2 : (Y.root.1 == 2) = true) :
  Calls Tryz.prog 46 #[vx,vy] w (Own w X):=by
 unfold Own
 have HX:Hid (NReads w vx X.flat):=hx
 have HY:Hid (NReads w vy Y.flat):=hy
 have HOX:Hid X.ok:=hoX
 have HOY:Hid Y.ok:=hoY
 have B0:Hid (Below w.heap.size w w):=Below.refl _ _
 have HRX1:Hid ((X.root.1 == 1)=false):=rX1
 have HRY1:Hid ((Y.root.1 == 1)=false):=rY1
 have HRX2:Hid ((X.root.1 == 2)=false):=rX2
 have HRY2:Hid ((Y.root.1 == 2)=true):=rY2
 obtain ⟨av,cap,rfl,hr⟩:=hx
 obtain ⟨g,o,rfl,_⟩:=hr 0 X.len_pos
 obtain ⟨i0,hi,hz0,hz1,hz2⟩:=info_parts Tryz.info_node
 have hzl:=ndC_length X.flat
 have h1c:=ndC_one X.flat
 have HN:Hid (∀ w',Below w.heap.size w w'→∀ j u,(ndC X.flat)[j]?=some u→w'.cell? ((⟨g,o,none⟩:Addr).add j)=some u):=fun w' hb=>nreads_cells (HX.out.stay hb)
 clear hr
 clear hoX hoY hy rX1 rY1 rX2 rY2
 go_enter Tryz.func46,Tryz.ntmps46
 go_wp2_with fail
 refine (ris_b X _ 1 false _ (HX.out.stay B0.out) (by omega) HRX1.out).mono ?_
 rintro e w1 ⟨rfl,rfl⟩
 go_wp2_with fail
 refine (ris_b Y _ 1 false _ (HY.out.stay B0.out) (by omega) HRY1.out).mono ?_
 rintro e w1 ⟨rfl,rfl⟩
 go_wp2_with fail
 refine (ris_b X _ 2 false _ (HX.out.stay B0.out) (by omega) HRX2.out).mono ?_
 rintro e w1 ⟨rfl,rfl⟩
 go_wp2_with fail
 refine (ris_b Y _ 2 true _ (HY.out.stay B0.out) (by omega) HRY2.out).mono ?_
 rintro e w1 ⟨rfl,rfl⟩
 have HO0:Hid ((w.alloc (.cells #[] 51)).ownsRow w.heap.size 51 2 (.slice (some ⟨w.heap.size,0,none⟩) 0 0) 0 []):=World.ownsRow_made w #[] 0 (Nat.le_refl _) (by unfold maxLen;omega) rfl
 have HB0:Hid (Below w.heap.size w (w.alloc (.cells #[] 51))):=B0.out.alloc B0.out.size _
 have HN0:Hid _:=HN.out _ HB0.out
 go_wp2_with (at_builtin;refine wpList_append_own _ rfl _ _ 22 rfl w.heap.size 51 i0 (.agg #[.int .i64 0,.int .u8 0]) 2 16 Tryz.underlying22 hi hz0 hz1 hz2 rfl (by decide) _ _ _ rfl HO0.out ⟨g,o,none⟩ X.flat.length cap (ndC X.flat) rfl hzl HN0.out h1c (by unfold maxLen;omega) (by omega) (by simp) ?_)
 intro v2 w2 ho2 hg2 hn2
 have HB2:Hid (Below w.heap.size w w2):=HB0.out.grown hg2 HB0.out.size (fun k hk=>Nat.le_trans B0.out.size (HO0.out.lt k hk).1)
 have HO2:Hid (w2.ownsRow w.heap.size 51 2 v2 X.flat.length (ndC X.flat)):=own_mono ho2 B0.out.size
 clear ho2 hg2 hn2
 go_wp2_with fail
 go_ret
 exact ⟨_,rfl,HO2.out,HB2.out⟩

set_option maxHeartbeats 4000000 in
set_option maxRecDepth 100000 in
theorem behind_6 (X Y : Tr) (hoX : X.ok) (hoY : Y.ok) (vx vy : Value) (w : World) (hx : NReads w vx X.flat) (hy : NReads w vy Y.flat) (hl : X.flat.length + Y.flat.length ≤ 8990) (rX1 : (X.root.1 == 1) = false) (rY1 : (Y.root.1 == 1) = false) (rX2 : (X.root.1 == 2) = false) (rY2 : (Y.root.1 == 2) = false) (rX7 : (X.root.1 == 7) = false) (aX : decide (X = tAll) = true) (aY : decide (Y = tAll) = true) :
  Calls Tryz.prog 46 #[vx,vy] w (Own w Y):=by
 unfold Own
 have HX:Hid (NReads w vx X.flat):=hx
 have HY:Hid (NReads w vy Y.flat):=hy
 have HOX:Hid X.ok:=hoX
 have HOY:Hid Y.ok:=hoY
 have B0:Hid (Below w.heap.size w w):=Below.refl _ _
 have HRX1:Hid ((X.root.1 == 1)=false):=rX1
 have HRY1:Hid ((Y.root.1 == 1)=false):=rY1
 have HRX2:Hid ((X.root.1 == 2)=false):=rX2
 have HRY2:Hid ((Y.root.1 == 2)=false):=rY2
 have HRX7:Hid ((X.root.1 == 7)=false):=rX7
 have HAX:Hid (decide (X=tAll)=true):=aX
 have HAY:Hid (decide (Y=tAll)=true):=aY
 obtain ⟨av,cap,rfl,hr⟩:=hy
 obtain ⟨g,o,rfl,_⟩:=hr 0 Y.len_pos
 obtain ⟨i0,hi,hz0,hz1,hz2⟩:=info_parts Tryz.info_node
 have hzl:=ndC_length Y.flat
 have h1c:=ndC_one Y.flat
 have HN:Hid (∀ w',Below w.heap.size w w'→∀ j u,(ndC Y.flat)[j]?=some u→w'.cell? ((⟨g,o,none⟩:Addr).add j)=some u):=fun w' hb=>nreads_cells (HY.out.stay hb)
 clear hr
 clear hoX hoY hx rX1 rY1 rX2 rY2 rX7
 clear aX aY
 go_enter Tryz.func46,Tryz.ntmps46
 go_wp2_with fail
 refine (ris_b X _ 1 false _ (HX.out.stay B0.out) (by omega) HRX1.out).mono ?_
 rintro e w1 ⟨rfl,rfl⟩
 go_wp2_with fail
 refine (ris_b Y _ 1 false _ (HY.out.stay B0.out) (by omega) HRY1.out).mono ?_
 rintro e w1 ⟨rfl,rfl⟩
 go_wp2_with fail
 refine (ris_b X _ 2 false _ (HX.out.stay B0.out) (by omega) HRX2.out).mono ?_
 rintro e w1 ⟨rfl,rfl⟩
 go_wp2_with fail
 refine (ris_b Y _ 2 false _ (HY.out.stay B0.out) (by omega) HRY2.out).mono ?_
 rintro e w1 ⟨rfl,rfl⟩
 go_wp2_with fail
 refine (ris_b X _ 7 false _ (HX.out.stay B0.out) (by omega) HRX7.out).mono ?_
 rintro e w1 ⟨rfl,rfl⟩
 go_wp2_with fail
 refine (risAll_b X HOX.out _ true _ (HX.out.stay B0.out) (by omega) HAX.out).mono ?_
 rintro e w3 ⟨rfl,hb⟩
 have B1:Hid (Below w.heap.size w w3):=go_on B0.out hb
 clear hb
 go_wp2_with fail
 refine (risAll_b Y HOY.out _ true _ (HY.out.stay B1.out) (by omega) HAY.out).mono ?_
 rintro e w4 ⟨rfl,hb⟩
 have B2:Hid (Below w.heap.size w w4):=go_on B1.out hb
 clear hb
 have HO0:Hid ((w4.alloc (.cells #[] 51)).ownsRow w4.heap.size 51 2 (.slice (some ⟨w4.heap.size,0,none⟩) 0 0) 0 []):=World.ownsRow_made w4 #[] 0 (Nat.le_refl _) (by unfold maxLen;omega) rfl
 have HB0:Hid (Below w.heap.size w (w4.alloc (.cells #[] 51))):=B2.out.alloc B2.out.size _
 have HN0:Hid _:=HN.out _ HB0.out
 go_wp2_with (at_builtin;refine wpList_append_own _ rfl _ _ 22 rfl w4.heap.size 51 i0 (.agg #[.int .i64 0,.int .u8 0]) 2 16 Tryz.underlying22 hi hz0 hz1 hz2 rfl (by decide) _ _ _ rfl HO0.out ⟨g,o,none⟩ Y.flat.length cap (ndC Y.flat) rfl hzl HN0.out h1c (by unfold maxLen;omega) (by omega) (by simp) ?_)
 intro v2 w2 ho2 hg2 hn2
 have HB2:Hid (Below w.heap.size w w2):=HB0.out.grown hg2 HB0.out.size (fun k hk=>Nat.le_trans B2.out.size (HO0.out.lt k hk).1)
 have HO2:Hid (w2.ownsRow w.heap.size 51 2 v2 Y.flat.length (ndC Y.flat)):=own_mono ho2 B2.out.size
 clear ho2 hg2 hn2
 go_wp2_with fail
 go_ret
 exact ⟨_,rfl,HO2.out,HB2.out⟩

set_option maxHeartbeats 4000000 in
set_option maxRecDepth 100000 in
theorem behind_7 (X Y : Tr) (hoX : X.ok) (hoY : Y.ok) (vx vy : Value) (w : World) (hx : NReads w vx X.flat) (hy : NReads w vy Y.flat) (hl : X.flat.length + Y.flat.length ≤ 8990) (rX1 : (X.root.1 == 1) = false) (rY1 : (Y.root.1 == 1) = false) (rX2 : (X.root.1 == 2) = false) (rY2 : (Y.root.1 == 2) = false) (rX7 : (X.root.1 == 7) = false) (aX : decide (X = tAll) = false) :
  Calls Tryz.prog 46 #[vx,vy] w (Own w (.two (7,0) X Y)):=by
 unfold Own
 have HX:Hid (NReads w vx X.flat):=hx
 have HY:Hid (NReads w vy Y.flat):=hy
 have HOX:Hid X.ok:=hoX
 have HOY:Hid Y.ok:=hoY
 have B0:Hid (Below w.heap.size w w):=Below.refl _ _
 have HRX1:Hid ((X.root.1 == 1)=false):=rX1
 have HRY1:Hid ((Y.root.1 == 1)=false):=rY1
 have HRX2:Hid ((X.root.1 == 2)=false):=rX2
 have HRY2:Hid ((Y.root.1 == 2)=false):=rY2
 have HRX7:Hid ((X.root.1 == 7)=false):=rX7
 have HAX:Hid (decide (X=tAll)=false):=aX
 obtain ⟨ax,cx,rfl,_⟩:=hx
 obtain ⟨ay,cy,rfl,_⟩:=hy
 clear hoX hoY rX1 rY1 rX2 rY2 rX7
 clear aX
 go_enter Tryz.func46,Tryz.ntmps46
 go_wp2_with fail
 refine (ris_b X _ 1 false _ (HX.out.stay B0.out) (by omega) HRX1.out).mono ?_
 rintro e w1 ⟨rfl,rfl⟩
 go_wp2_with fail
 refine (ris_b Y _ 1 false _ (HY.out.stay B0.out) (by omega) HRY1.out).mono ?_
 rintro e w1 ⟨rfl,rfl⟩
 go_wp2_with fail
 refine (ris_b X _ 2 false _ (HX.out.stay B0.out) (by omega) HRX2.out).mono ?_
 rintro e w1 ⟨rfl,rfl⟩
 go_wp2_with fail
 refine (ris_b Y _ 2 false _ (HY.out.stay B0.out) (by omega) HRY2.out).mono ?_
 rintro e w1 ⟨rfl,rfl⟩
 go_wp2_with fail
 refine (ris_b X _ 7 false _ (HX.out.stay B0.out) (by omega) HRX7.out).mono ?_
 rintro e w1 ⟨rfl,rfl⟩
 go_wp2_with fail
 refine (risAll_b X HOX.out _ false _ (HX.out.stay B0.out) (by omega) HAX.out).mono ?_
 rintro e w3 ⟨rfl,hb⟩
 have B1:Hid (Below w.heap.size w w3):=go_on B0.out hb
 clear hb
 go_wp2_with fail
 refine (rnode_any 7 _).mono ?_
 rintro e w5 ⟨rfl,hb5⟩
 have HB5:Hid (Below w.heap.size w w5):=go_on B1.out hb5
 clear hb5
 go_wp2_with fail
 refine (made_any 7 0 _ [X.flat,Y.flat] _ (nr_lit2 (HX.out.stay HB5.out) (HY.out.stay HB5.out)) (two_pos X.len_pos Y.len_pos) (by rw [tot_two];omega) (by simp)).mono ?_
 rintro e w6 ⟨u,rfl,ho,hb⟩
 have HB6:Hid (Below w.heap.size w w6):=go_on (HB5.out.alloc HB5.out.size _) hb
 have HO:Hid (w6.ownsRow w.heap.size 51 2 u (Tr.two (7,0) X Y).flat.length (ndC (Tr.two (7,0) X Y).flat)):=by
  have h:=own_mono ho (show w.heap.size≤_ by have:=HB5.out.size;simp only [World.size_alloc];omega)
  show World.ownsRow _ _ _ _ _ _ _
  simpa [Tr.flat] using h
 clear ho hb
 go_wp2_with fail
 go_ret
 exact ⟨_,rfl,HO.out,HB6.out⟩

set_option maxHeartbeats 4000000 in
set_option maxRecDepth 100000 in
theorem behind_8 (X Y : Tr) (hoX : X.ok) (hoY : Y.ok) (vx vy : Value) (w : World) (hx : NReads w vx X.flat) (hy : NReads w vy Y.flat) (hl : X.flat.length + Y.flat.length ≤ 8990) (rX1 : (X.root.1 == 1) = false) (rY1 : (Y.root.1 == 1) = false) (rX2 : (X.root.1 == 2) = false) (rY2 : (Y.root.1 == 2) = false) (rX7 : (X.root.1 == 7) = false) (rY7 : (Y.root.1 == 7) = false) (aX : decide (X = tAll) = true) (aY : decide (Y = tAll) = false) :
  Calls Tryz.prog 46 #[vx,vy] w (Own w (.two (7,0) X Y)):=by
 unfold Own
 have HX:Hid (NReads w vx X.flat):=hx
 have HY:Hid (NReads w vy Y.flat):=hy
 have HOX:Hid X.ok:=hoX
 have HOY:Hid Y.ok:=hoY
 have B0:Hid (Below w.heap.size w w):=Below.refl _ _
 have HRX1:Hid ((X.root.1 == 1)=false):=rX1
 have HRY1:Hid ((Y.root.1 == 1)=false):=rY1
 have HRX2:Hid ((X.root.1 == 2)=false):=rX2
 have HRY2:Hid ((Y.root.1 == 2)=false):=rY2
 have HRX7:Hid ((X.root.1 == 7)=false):=rX7
 have HRY7:Hid ((Y.root.1 == 7)=false):=rY7
 have HAX:Hid (decide (X=tAll)=true):=aX
 have HAY:Hid (decide (Y=tAll)=false):=aY
 obtain ⟨ax,cx,rfl,_⟩:=hx
 obtain ⟨ay,cy,rfl,_⟩:=hy
 clear hoX hoY rX1 rY1 rX2 rY2 rX7 rY7
 clear aX aY
 go_enter Tryz.func46,Tryz.ntmps46
 go_wp2_with fail
 refine (ris_b X _ 1 false _ (HX.out.stay B0.out) (by omega) HRX1.out).mono ?_
 rintro e w1 ⟨rfl,rfl⟩
 go_wp2_with fail
 refine (ris_b Y _ 1 false _ (HY.out.stay B0.out) (by omega) HRY1.out).mono ?_
 rintro e w1 ⟨rfl,rfl⟩
 go_wp2_with fail
 refine (ris_b X _ 2 false _ (HX.out.stay B0.out) (by omega) HRX2.out).mono ?_
 rintro e w1 ⟨rfl,rfl⟩
 go_wp2_with fail
 refine (ris_b Y _ 2 false _ (HY.out.stay B0.out) (by omega) HRY2.out).mono ?_
 rintro e w1 ⟨rfl,rfl⟩
 go_wp2_with fail
 refine (ris_b X _ 7 false _ (HX.out.stay B0.out) (by omega) HRX7.out).mono ?_
 rintro e w1 ⟨rfl,rfl⟩
 go_wp2_with fail
 refine (risAll_b X HOX.out _ true _ (HX.out.stay B0.out) (by omega) HAX.out).mono ?_
 rintro e w3 ⟨rfl,hb⟩
 have B1:Hid (Below w.heap.size w w3):=go_on B0.out hb
 clear hb
 go_wp2_with fail
 refine (risAll_b Y HOY.out _ false _ (HY.out.stay B1.out) (by omega) HAY.out).mono ?_
 rintro e w4 ⟨rfl,hb⟩
 have B2:Hid (Below w.heap.size w w4):=go_on B1.out hb
 clear hb
 go_wp2_with fail
 refine (ris_b Y _ 7 false _ (HY.out.stay B2.out) (by omega) HRY7.out).mono ?_
 rintro e w1 ⟨rfl,rfl⟩
 go_wp2_with fail
 refine (rnode_any 7 _).mono ?_
 rintro e w5 ⟨rfl,hb5⟩
 have HB5:Hid (Below w.heap.size w w5):=go_on B2.out hb5
 clear hb5
 go_wp2_with fail
 refine (made_any 7 0 _ [X.flat,Y.flat] _ (nr_lit2 (HX.out.stay HB5.out) (HY.out.stay HB5.out)) (two_pos X.len_pos Y.len_pos) (by rw [tot_two];omega) (by simp)).mono ?_
 rintro e w6 ⟨u,rfl,ho,hb⟩
 have HB6:Hid (Below w.heap.size w w6):=go_on (HB5.out.alloc HB5.out.size _) hb
 have HO:Hid (w6.ownsRow w.heap.size 51 2 u (Tr.two (7,0) X Y).flat.length (ndC (Tr.two (7,0) X Y).flat)):=by
  have h:=own_mono ho (show w.heap.size≤_ by have:=HB5.out.size;simp only [World.size_alloc];omega)
  show World.ownsRow _ _ _ _ _ _ _
  simpa [Tr.flat] using h
 clear ho hb
 go_wp2_with fail
 go_ret
 exact ⟨_,rfl,HO.out,HB6.out⟩

set_option maxHeartbeats 4000000 in
set_option maxRecDepth 100000 in
theorem behind_9 (X Y:Tr) (hoX:X.ok) (hoY:Y.ok) (vx vy:Value) (w:World) (hx:NReads w vx X.flat) (hy:NReads w vy Y.flat) (hl:X.flat.length+Y.flat.length≤8990) (rX1:(X.root.1 == 1)=false) (rY1:(Y.root.1 == 1)=false) (rX2:(X.root.1 == 2)=false) (rY2:(Y.root.1 == 2)=false) (rX7:(X.root.1 == 7)=false) (rY7:(Y.root.1 == 7)=true) (aX:decide (X=tAll)=true) (aY:decide (Y=tAll)=false) (hcap:∀ a n c,vy=.slice a n c→n≤c) (n:Nd) (A B:Tr) (eY:Y=.two n A B) (aA:decide (A=tAll)=true) :
  Calls Tryz.prog 46 #[vx,vy] w (Own w Y):=by
 unfold Own
 have HX:Hid (NReads w vx X.flat):=hx
 have HY:Hid (NReads w vy Y.flat):=hy
 have HOX:Hid X.ok:=hoX
 have HOY:Hid Y.ok:=hoY
 have B0:Hid (Below w.heap.size w w):=Below.refl _ _
 have HRX1:Hid ((X.root.1 == 1)=false):=rX1
 have HRY1:Hid ((Y.root.1 == 1)=false):=rY1
 have HRX2:Hid ((X.root.1 == 2)=false):=rX2
 have HRY2:Hid ((Y.root.1 == 2)=false):=rY2
 have HRX7:Hid ((X.root.1 == 7)=false):=rX7
 have HRY7:Hid ((Y.root.1 == 7)=true):=rY7
 have HAX:Hid (decide (X=tAll)=true):=aX
 have HAY:Hid (decide (Y=tAll)=false):=aY
 have HCAP:Hid (∀ a n c,vy=.slice a n c→n≤c):=hcap
 have HAA:Hid (decide (A=tAll)=true):=aA
 subst eY
 have hlA:A.flat.length≤8990:=by have:(Tr.two n A B).flat.length=A.flat.length+B.flat.length+1:=(by simp [Tr.flat];omega);omega
 obtain ⟨av,cap,rfl,hr⟩:=hy
 obtain ⟨g,o,rfl,_⟩:=hr 0 (Tr.two n A B).len_pos
 obtain ⟨i0,hi,hz0,hz1,hz2⟩:=info_parts Tryz.info_node
 have hzl:=ndC_length (Tr.two n A B).flat
 have h1c:=ndC_one (Tr.two n A B).flat
 have HN:Hid (∀ w',Below w.heap.size w w'→∀ j u,(ndC (Tr.two n A B).flat)[j]?=some u→w'.cell? ((⟨g,o,none⟩:Addr).add j)=some u):=fun w' hb=>nreads_cells (HY.out.stay hb)
 clear hr
 clear hoX hoY hx rX1 rY1 rX2 rY2 rX7 rY7
 clear aX aY aA hcap
 go_enter Tryz.func46,Tryz.ntmps46
 go_wp2_with fail
 refine (ris_b X _ 1 false _ (HX.out.stay B0.out) (by omega) HRX1.out).mono ?_
 rintro e w1 ⟨rfl,rfl⟩
 go_wp2_with fail
 refine (ris_b (Tr.two n A B) _ 1 false _ (HY.out.stay B0.out) (by omega) HRY1.out).mono ?_
 rintro e w1 ⟨rfl,rfl⟩
 go_wp2_with fail
 refine (ris_b X _ 2 false _ (HX.out.stay B0.out) (by omega) HRX2.out).mono ?_
 rintro e w1 ⟨rfl,rfl⟩
 go_wp2_with fail
 refine (ris_b (Tr.two n A B) _ 2 false _ (HY.out.stay B0.out) (by omega) HRY2.out).mono ?_
 rintro e w1 ⟨rfl,rfl⟩
 go_wp2_with fail
 refine (ris_b X _ 7 false _ (HX.out.stay B0.out) (by omega) HRX7.out).mono ?_
 rintro e w1 ⟨rfl,rfl⟩
 go_wp2_with fail
 refine (risAll_b X HOX.out _ true _ (HX.out.stay B0.out) (by omega) HAX.out).mono ?_
 rintro e w3 ⟨rfl,hb⟩
 have B1:Hid (Below w.heap.size w w3):=go_on B0.out hb
 clear hb
 go_wp2_with fail
 refine (risAll_b (Tr.two n A B) HOY.out _ false _ (HY.out.stay B1.out) (by omega) HAY.out).mono ?_
 rintro e w4 ⟨rfl,hb⟩
 have B2:Hid (Below w.heap.size w w4):=go_on B1.out hb
 clear hb
 go_wp2_with fail
 refine (ris_b (Tr.two n A B) _ 7 true _ (HY.out.stay B2.out) (by omega) HRY7.out).mono ?_
 rintro e w1 ⟨rfl,rfl⟩
 go_wp2_with fail
 refine (cut_any _ (Tr.two n A B).flat _ (HY.out.stay B2.out) (by omega) (Tr.ok_free _ HOY.out) HCAP.out).mono ?_
 rintro e w7 ⟨u,rfl,hpr,hb7⟩
 have hp1:=hpr w7 (fun _ _ _=>rfl)
 rw [cut_flat_two HOY.out] at hp1
 obtain ⟨ua,uc,rfl,hpi⟩:=hp1
 obtain ⟨lg,lo,u0,rfl,hlg,hl0,hu0,hk0⟩:=hpi 0 (by simp)
 rw [Nat.add_zero] at hl0
 have HU0:Hid (NReads w7 u0 A.flat):=hu0
 have HB7:Hid (Below w.heap.size w w7):=go_on B2.out hb7
 clear hpr hb7 hpi hu0 hk0
 go_wp2_with fail
 refine (risAll_b A HOY.out.2.2.1 _ true _ HU0.out (by omega) HAA.out).mono ?_
 rintro e w8 ⟨rfl,hb8⟩
 have HB8:Hid (Below w.heap.size w w8):=go_on HB7.out hb8
 clear hb8 hl0
 have HO0:Hid ((w8.alloc (.cells #[] 51)).ownsRow w8.heap.size 51 2 (.slice (some ⟨w8.heap.size,0,none⟩) 0 0) 0 []):=World.ownsRow_made w8 #[] 0 (Nat.le_refl _) (by unfold maxLen;omega) rfl
 have HB0:Hid (Below w.heap.size w (w8.alloc (.cells #[] 51))):=HB8.out.alloc HB8.out.size _
 have HN0:Hid _:=HN.out _ HB0.out
 go_wp2_with (at_builtin;refine wpList_append_own _ rfl _ _ 22 rfl w8.heap.size 51 i0 (.agg #[.int .i64 0,.int .u8 0]) 2 16 Tryz.underlying22 hi hz0 hz1 hz2 rfl (by decide) _ _ _ rfl HO0.out ⟨g,o,none⟩ (Tr.two n A B).flat.length cap (ndC (Tr.two n A B).flat) rfl hzl HN0.out h1c (by unfold maxLen;omega) (by omega) (by simp) ?_)
 intro v2 w2 ho2 hg2 hn2
 have HB2:Hid (Below w.heap.size w w2):=HB0.out.grown hg2 HB0.out.size (fun k hk=>Nat.le_trans HB8.out.size (HO0.out.lt k hk).1)
 have HO2:Hid (w2.ownsRow w.heap.size 51 2 v2 (Tr.two n A B).flat.length (ndC (Tr.two n A B).flat)):=own_mono ho2 HB8.out.size
 clear ho2 hg2 hn2
 go_wp2_with fail
 go_ret
 exact ⟨_,rfl,HO2.out,HB2.out⟩

set_option maxHeartbeats 4000000 in
set_option maxRecDepth 100000 in
theorem behind_10 (X Y:Tr) (hoX:X.ok) (hoY:Y.ok) (vx vy:Value) (w:World) (hx:NReads w vx X.flat) (hy:NReads w vy Y.flat) (hl:X.flat.length+Y.flat.length≤8990) (rX1:(X.root.1 == 1)=false) (rY1:(Y.root.1 == 1)=false) (rX2:(X.root.1 == 2)=false) (rY2:(Y.root.1 == 2)=false) (rX7:(X.root.1 == 7)=false) (rY7:(Y.root.1 == 7)=true) (aX:decide (X=tAll)=true) (aY:decide (Y=tAll)=false) (hcap:∀ a n c,vy=.slice a n c→n≤c) (n:Nd) (A B:Tr) (eY:Y=.two n A B) (aA:decide (A=tAll)=false) :
  Calls Tryz.prog 46 #[vx,vy] w (Own w (.two (7,0) X Y)):=by
 unfold Own
 have HX:Hid (NReads w vx X.flat):=hx
 have HY:Hid (NReads w vy Y.flat):=hy
 have HOX:Hid X.ok:=hoX
 have HOY:Hid Y.ok:=hoY
 have B0:Hid (Below w.heap.size w w):=Below.refl _ _
 have HRX1:Hid ((X.root.1 == 1)=false):=rX1
 have HRY1:Hid ((Y.root.1 == 1)=false):=rY1
 have HRX2:Hid ((X.root.1 == 2)=false):=rX2
 have HRY2:Hid ((Y.root.1 == 2)=false):=rY2
 have HRX7:Hid ((X.root.1 == 7)=false):=rX7
 have HRY7:Hid ((Y.root.1 == 7)=true):=rY7
 have HAX:Hid (decide (X=tAll)=true):=aX
 have HAY:Hid (decide (Y=tAll)=false):=aY
 have HCAP:Hid (∀ a n c,vy=.slice a n c→n≤c):=hcap
 have HAA:Hid (decide (A=tAll)=false):=aA
 subst eY
 have hlA:A.flat.length≤8990:=by have:(Tr.two n A B).flat.length=A.flat.length+B.flat.length+1:=(by simp [Tr.flat];omega);omega
 obtain ⟨ax,cx,rfl,_⟩:=hx
 obtain ⟨ay,cy,rfl,_⟩:=hy
 clear hoX hoY rX1 rY1 rX2 rY2 rX7 rY7
 clear aX aY aA hcap
 go_enter Tryz.func46,Tryz.ntmps46
 go_wp2_with fail
 refine (ris_b X _ 1 false _ (HX.out.stay B0.out) (by omega) HRX1.out).mono ?_
 rintro e w1 ⟨rfl,rfl⟩
 go_wp2_with fail
 refine (ris_b (Tr.two n A B) _ 1 false _ (HY.out.stay B0.out) (by omega) HRY1.out).mono ?_
 rintro e w1 ⟨rfl,rfl⟩
 go_wp2_with fail
 refine (ris_b X _ 2 false _ (HX.out.stay B0.out) (by omega) HRX2.out).mono ?_
 rintro e w1 ⟨rfl,rfl⟩
 go_wp2_with fail
 refine (ris_b (Tr.two n A B) _ 2 false _ (HY.out.stay B0.out) (by omega) HRY2.out).mono ?_
 rintro e w1 ⟨rfl,rfl⟩
 go_wp2_with fail
 refine (ris_b X _ 7 false _ (HX.out.stay B0.out) (by omega) HRX7.out).mono ?_
 rintro e w1 ⟨rfl,rfl⟩
 go_wp2_with fail
 refine (risAll_b X HOX.out _ true _ (HX.out.stay B0.out) (by omega) HAX.out).mono ?_
 rintro e w3 ⟨rfl,hb⟩
 have B1:Hid (Below w.heap.size w w3):=go_on B0.out hb
 clear hb
 go_wp2_with fail
 refine (risAll_b (Tr.two n A B) HOY.out _ false _ (HY.out.stay B1.out) (by omega) HAY.out).mono ?_
 rintro e w4 ⟨rfl,hb⟩
 have B2:Hid (Below w.heap.size w w4):=go_on B1.out hb
 clear hb
 go_wp2_with fail
 refine (ris_b (Tr.two n A B) _ 7 true _ (HY.out.stay B2.out) (by omega) HRY7.out).mono ?_
 rintro e w1 ⟨rfl,rfl⟩
 go_wp2_with fail
 refine (cut_any _ (Tr.two n A B).flat _ (HY.out.stay B2.out) (by omega) (Tr.ok_free _ HOY.out) HCAP.out).mono ?_
 rintro e w7 ⟨u,rfl,hpr,hb7⟩
 have hp1:=hpr w7 (fun _ _ _=>rfl)
 rw [cut_flat_two HOY.out] at hp1
 obtain ⟨ua,uc,rfl,hpi⟩:=hp1
 obtain ⟨lg,lo,u0,rfl,hlg,hl0,hu0,hk0⟩:=hpi 0 (by simp)
 rw [Nat.add_zero] at hl0
 have HU0:Hid (NReads w7 u0 A.flat):=hu0
 have HB7:Hid (Below w.heap.size w w7):=go_on B2.out hb7
 clear hpr hb7 hpi hu0 hk0
 go_wp2_with fail
 refine (risAll_b A HOY.out.2.2.1 _ false _ HU0.out (by omega) HAA.out).mono ?_
 rintro e w8 ⟨rfl,hb8⟩
 have HB8:Hid (Below w.heap.size w w8):=go_on HB7.out hb8
 clear hb8 hl0
 go_wp2_with fail
 refine (rnode_any 7 _).mono ?_
 rintro e w5 ⟨rfl,hb5⟩
 have HB5:Hid (Below w.heap.size w w5):=go_on HB8.out hb5
 clear hb5
 go_wp2_with fail
 refine (made_any 7 0 _ [X.flat,(Tr.two n A B).flat] _ (nr_lit2 (HX.out.stay HB5.out) (HY.out.stay HB5.out)) (two_pos X.len_pos (Tr.two n A B).len_pos) (by rw [tot_two];omega) (by simp)).mono ?_
 rintro e w6 ⟨u,rfl,ho,hb⟩
 have HB6:Hid (Below w.heap.size w w6):=go_on (HB5.out.alloc HB5.out.size _) hb
 have HO:Hid (w6.ownsRow w.heap.size 51 2 u (Tr.two (7,0) X (Tr.two n A B)).flat.length (ndC (Tr.two (7,0) X (Tr.two n A B)).flat)):=by
  have h:=own_mono ho (show w.heap.size≤_ by have:=HB5.out.size;simp only [World.size_alloc];omega)
  show World.ownsRow _ _ _ _ _ _ _
  simpa [Tr.flat] using h
 clear ho hb
 go_wp2_with fail
 go_ret
 exact ⟨_,rfl,HO.out,HB6.out⟩

end Go.Proofs.YtfdhaknecjcjoaaGreatDoor

namespace Go.Proofs.YtfdhaknecjcjoaaGreatDoor
open Go Go.RowKit
set_option linter.unusedVariables false

abbrev Cap (v:Value):Prop:=∀ a n c,v=.slice a n c→n≤c
theorem uown_cap {w:World} {B:Nat} {e:TypeId} {s n:Nat} {v:Value} {xs:List Value} (h:w.ownsRow B e s v n xs):Cap v:=by
 intro a m c hv
 obtain ⟨_,h⟩:=h
 rcases h with ⟨h,_⟩ | ⟨g,cp,cur,h,_,_,hcp,_⟩
 ·rw [h] at hv;cases hv;exact Nat.le_refl _
 ·rw [h] at hv;cases hv;exact hcp
abbrev SP (W:World) (lg lo:Nat) (u0 u1:Value) (w':World):Prop:=w'.cell? ⟨lg,lo,none⟩=some u0∧w'.cell? ⟨lg,lo+1,none⟩=some u1∧Below W.heap.size W w'
theorem sp_step {W:World} {lg lo:Nat} {u0 u1:Value} {w1 w2:World} (h1:lg<W.heap.size) (hb:Below w1.heap.size w1 w2) (h:SP W lg lo u0 u1 w1):SP W lg lo u0 u1 w2:=by
 have hs:=h.2.2.size
 refine ⟨?_,?_,go_on h.2.2 hb⟩
 ·rw [below_cell hb (by omega)];exact h.1
 ·rw [below_cell hb (by omega)];exact h.2.1
theorem sp_below {W:World} {lg lo:Nat} {u0 u1:Value} {w':World} (h:SP W lg lo u0 u1 w'):Below W.heap.size W w':=h.2.2
def Bh (X:Tr):Prop:=∀ (Y:Tr) (vx vy:Value) (w:World),Y.ok→NF Y→NReads w vx X.flat→NReads w vy Y.flat→Cap vx→Cap vy→X.flat.length+Y.flat.length≤8990 →
  Calls Tryz.prog 46 #[vx,vy] w (Own w (RC X Y))

set_option maxHeartbeats 16000000 in
set_option maxRecDepth 100000 in
theorem behind_5 (n : Nd) (A B Y : Tr) (hoX : (Tr.two n A B).ok) (hX : NF (.two n A B)) (iA : Bh A) (iB : Bh B) (hoY : Y.ok) (hY : NF Y) (vx vy : Value) (w : World) (hx : NReads w vx (Tr.two n A B).flat) (hy : NReads w vy Y.flat) (kx : Cap vx) (ky : Cap vy) (hl : (Tr.two n A B).flat.length + Y.flat.length ≤ 8990)
  (rX7 : (Tr.two n A B).root.1 = 7) (rY1 : (Y.root.1 == 1) = false) (rY2 : (Y.root.1 == 2) = false) :
  Calls Tryz.prog 46 #[vx,vy] w (Own w (RC (.two n A B) Y)):=by
 unfold Own
 have HX:Hid (NReads w vx (Tr.two n A B).flat):=hx
 have HY:Hid (NReads w vy Y.flat):=hy
 have HOX:Hid ((Tr.two n A B).ok):=hoX
 have HOY:Hid (Y.ok∧NF Y):=⟨hoY,hY⟩
 have HNX:Hid (NF (.two n A B)):=hX
 have HIA:Hid (Bh A):=iA
 have HIB:Hid (Bh B):=iB
 have HKX:Hid (Cap vx):=kx
 have HKY:Hid (Cap vy):=ky
 have HRX:Hid (((Tr.two n A B).root.1 == 1)=false∧((Tr.two n A B).root.1 == 2)=false∧((Tr.two n A B).root.1 == 7)=true):=by rw [rX7];exact ⟨rfl,rfl,rfl⟩
 have HRY:Hid ((Y.root.1 == 1)=false∧(Y.root.1 == 2)=false):=⟨rY1,rY2⟩
 have HE:Hid (RC (.two n A B) Y=RC A (RC B Y)):=RC_two hoX hX rX7 hoY hY
 have HBL:Hid ((RC B Y).ok∧NF (RC B Y)):=RC_ok hoX.2.2.2 hX.2.1 hoY hY
 have hlen:(Tr.two n A B).flat.length=A.flat.length+B.flat.length+1:=by simp [Tr.flat];omega
 have hRl:=RC_len B Y
 have l1:(Tr.two n A B).flat.length≤9000:=by omega
 have l2:Y.flat.length≤9000:=by omega
 have L3:Hid (B.flat.length+Y.flat.length≤8990):=by show _≤_;omega
 have L4:Hid (A.flat.length+(RC B Y).flat.length≤8990):=by show _≤_;omega
 rw [HE.out]
 obtain ⟨R1,hR1⟩:∃ R,RC B Y=R:=⟨_,rfl⟩
 obtain ⟨R2,hR2⟩:∃ R,RC A R1=R:=⟨_,rfl⟩
 rw [hR1] at HBL L4 hRl ⊢
 rw [hR2]
 have HCB:Hid (∀ (u v:Value) (w':World),NReads w' u B.flat→NReads w' v Y.flat→Cap u→Cap v→Calls Tryz.prog 46 #[u,v] w' (Own w' R1)):=fun u v w' h1 h2 h3 h4=>by
  rw [← hR1];exact iB Y u v w' hoY hY h1 h2 h3 h4 L3.out
 have HCA:Hid (∀ (u v:Value) (w':World),NReads w' u A.flat→NReads w' v R1.flat→Cap u→Cap v→Calls Tryz.prog 46 #[u,v] w' (Own w' R2)):=fun u v w' h1 h2 h3 h4=>by
  rw [← hR2];exact iA R1 u v w' HBL.out.1 HBL.out.2 h1 h2 h3 h4 L4.out
 clear hR1 hR2 HE HBL hRl
 obtain ⟨ax,cx,rfl,_⟩:=hx
 obtain ⟨ay,cy,rfl,_⟩:=hy
 clear hoX hX iA iB hoY hY kx ky rX7 rY1 rY2 hlen
 go_enter Tryz.func46,Tryz.ntmps46
 go_wp2_with fail
 refine (ris_b (.two n A B) _ 1 false _ HX.out l1 HRX.out.1).mono ?_
 rintro e w1 ⟨rfl,rfl⟩
 go_wp2_with fail
 refine (ris_b Y _ 1 false _ HY.out l2 HRY.out.1).mono ?_
 rintro e w1 ⟨rfl,rfl⟩
 go_wp2_with fail
 refine (ris_b (.two n A B) _ 2 false _ HX.out l1 HRX.out.2.1).mono ?_
 rintro e w1 ⟨rfl,rfl⟩
 go_wp2_with fail
 refine (ris_b Y _ 2 false _ HY.out l2 HRY.out.2).mono ?_
 rintro e w1 ⟨rfl,rfl⟩
 go_wp2_with fail
 refine (ris_b (.two n A B) _ 7 true _ HX.out l1 HRX.out.2.2).mono ?_
 rintro e w1 ⟨rfl,rfl⟩
 go_wp2_with fail
 refine (cut_any _ (Tr.two n A B).flat _ HX.out l1 (Tr.ok_free _ HOX.out) HKX.out).mono ?_
 rintro e w7 ⟨u,rfl,hpr,hb7⟩
 have hp1:=hpr w7 (fun _ _ _=>rfl)
 rw [cut_flat_two HOX.out] at hp1
 obtain ⟨ua,uc,rfl,hpi⟩:=hp1
 obtain ⟨lg,lo,u0,rfl,hlg,hl0,hu0,hk0⟩:=hpi 0 (by simp)
 obtain ⟨lg',lo',u1,e1,hlg',hl1,hu1,hk1⟩:=hpi 1 (by simp)
 cases e1
 rw [Nat.add_zero] at hl0
 have HU0:Hid (NReads w7 u0 A.flat):=hu0
 have HU1:Hid (NReads w7 u1 B.flat):=hu1
 have HK0:Hid (Cap u0):=hk0
 have HK1:Hid (Cap u1):=hk1
 have HB7:Hid (Below w.heap.size w w7):=hb7
 clear hpr hb7 hpi hu0 hk0 hu1 hk1
 go_wp2_with fail
 clear hl l1 l2
 have S0:SP w7 lg lo u0 u1 w7.drew:=⟨hl0,hl1,(Below.refl _ _).drew⟩
 have HY7:Hid (NReads w7 (.slice ay Y.flat.length cy) Y.flat):=HY.out.stay HB7.out
 clear hl0 hl1
 go_region_held3 (fun w'=>SP w7 lg lo u0 u1 w') (first | exact S0 | assumption | exact sp_step hlg (by assumption) (by assumption)) (first
  | (go_at_call 46;have hor':=hor;refine (HCA.out u0 r _ (by exact HU0.out.stay (sp_below (lg:=lg) (lo:=lo) (u0:=u0) (u1:=u1) (by assumption))) (by exact own_nreads hor) HK0.out (uown_cap hor)).mono ?_;rintro e y2 ⟨z,rfl,hoz,hbz⟩)
  | (go_at_call 46;refine (HCB.out u1 _ _ (by exact HU1.out.stay (sp_below (lg:=lg) (lo:=lo) (u0:=u0) (u1:=u1) (by assumption))) (by exact HY7.out.stay (sp_below (lg:=lg) (lo:=lo) (u0:=u0) (u1:=u1) (by assumption))) HK1.out HKY.out).mono ?_;rintro e y1 ⟨r,rfl,hor,hbr⟩))
 all_goals (
  have hS:SP w7 lg lo u0 u1 y2:=by first | assumption | exact sp_step hlg (by assumption) (by assumption)
  have HO:Hid (y2.ownsRow w.heap.size 51 2 z R2.flat.length (ndC R2.flat)):=own_mono hoz (by
   have h1:=HB7.out.size
   have h2:=hbr.size
   have h3:w7.drew.heap.size=w7.heap.size:=rfl
   omega)
  have HB9:Hid (Below w.heap.size w y2):=go_on HB7.out hS.2.2
  clear hS S0
  go_wp2_with fail
  go_ret
  exact ⟨_,rfl,HO.out,HB9.out⟩)

theorem behind_base (X:Tr) (hoX:X.ok) (hX:NF X) (h7:X.root.1≠7∨X=tNone∨X=tEmpty):Bh X:=by
 intro Y vx vy w hoY hY hx hy kx ky hl
 by_cases x1 : X = tNone
 ·have:=behind_1 X Y hoX hoY vx vy w hx hy hl (by rw [x1];rfl)
  rw [x1,RC_none_l]
  exact this
 have rx1:(X.root.1 == 1)=false:=by rw [beq_eq_false_iff_ne];exact fun e=>x1 ((root_none hoX).1 e)
 by_cases y1 : Y = tNone
 ·have:=behind_2 X Y hoX hoY vx vy w hx hy hl rx1 (by rw [y1];rfl)
  rw [y1,RC_none_r]
  exact this
 have ry1:(Y.root.1 == 1)=false:=by rw [beq_eq_false_iff_ne];exact fun e=>y1 ((root_none hoY).1 e)
 by_cases x2 : X = tEmpty
 ·have:=behind_3 X Y hoX hoY vx vy w hx hy hl rx1 ry1 (by rw [x2];rfl)
  rw [x2,RC_empty_l]
  exact this
 have rx2:(X.root.1 == 2)=false:=by rw [beq_eq_false_iff_ne];exact fun e=>x2 ((root_empty hoX).1 e)
 by_cases y2 : Y = tEmpty
 ·have:=behind_4 X Y hoX hoY vx vy w hx hy hl rx1 ry1 rx2 (by rw [y2];rfl)
  rw [y2,RC_empty_r]
  exact this
 have ry2:(Y.root.1 == 2)=false:=by rw [beq_eq_false_iff_ne];exact fun e=>y2 ((root_empty hoY).1 e)
 have h7:X.root.1≠7:=by
  rcases h7 with h | h | h
  ·exact h
  ·exact absurd h x1
  ·exact absurd h x2
 have rx7:(X.root.1 == 7)=false:=by rw [beq_eq_false_iff_ne];exact h7
 rw [RC_last x1 x2 y1 y2 h7]
 by_cases xa : X = tAll
 ·by_cases ya : Y = tAll
  ·have:=behind_6 X Y hoX hoY vx vy w hx hy hl rx1 ry1 rx2 ry2 rx7 (by simpa using xa) (by simpa using ya)
   rw [cj,if_pos ⟨xa,by rw [ya];rfl⟩]
   exact this
  ·by_cases y7 : Y.root.1 = 7
   ·obtain ⟨n,A,B,e⟩:=shape_two hoY (by rw [y7];rfl)
    have en:n.1=7:=by rw [e] at y7;exact y7
    have ef:firstC Y=A:=by rw [e,firstC,if_pos en]
    by_cases aA : A = tAll
    ·have:=behind_9 X Y hoX hoY vx vy w hx hy hl rx1 ry1 rx2 ry2 rx7 (by rw [y7];rfl) (by simpa using xa) (by simpa using ya) ky n A B e (by simpa using aA)
     rw [cj,if_pos ⟨xa,by rw [ef];exact aA⟩]
     exact this
    ·have:=behind_10 X Y hoX hoY vx vy w hx hy hl rx1 ry1 rx2 ry2 rx7 (by rw [y7];rfl) (by simpa using xa) (by simpa using ya) ky n A B e (by simpa using aA)
     rw [cj,if_neg (fun h=>aA (by rw [← ef];exact h.2))]
     exact this
   ·have:=behind_8 X Y hoX hoY vx vy w hx hy hl rx1 ry1 rx2 ry2 rx7 (by rw [beq_eq_false_iff_ne];exact y7) (by simpa using xa) (by simpa using ya)
    have ef:firstC Y=Y:=by
     cases Y with
     | zero n=>rfl
     | one n a=>rfl
     | two n a b=>rw [firstC,if_neg (show ¬ n.1=7 from y7)]
    rw [cj,if_neg (fun h=>ya (by rw [← ef];exact h.2))]
    exact this
 ·have:=behind_7 X Y hoX hoY vx vy w hx hy hl rx1 ry1 rx2 ry2 rx7 (by simpa using xa)
  rw [cj,if_neg (fun h=>xa h.1)]
  exact this

theorem behind_any:∀ {X:Tr},X.ok→NF X→Bh X
 | .zero n,ho,h=>behind_base _ ho h (.inl (fun e=>by have:=ho.2;have e:n.1=7:=e;rw [e] at this;simp [arity] at this))
 | .one n a,ho,h=>behind_base _ ho h (.inl (fun e=>by have:=ho.2.1;have e:n.1=7:=e;rw [e] at this;simp [arity] at this))
 | .two n a b,ho,h=>by
  by_cases e7 : n.1 = 7
  ·have iA:=behind_any ho.2.2.1 h.1
   have iB:=behind_any ho.2.2.2 h.2.1
   intro Y vx vy w hoY hY hx hy kx ky hl
   have rx:∀ k:Int,k≠7→((Tr.two n a b).root.1 == k)=false:=fun k hk=>by rw [beq_eq_false_iff_ne];show n.1≠k;omega
   by_cases y1 : Y = tNone
   ·have:=behind_2 (.two n a b) Y ho hoY vx vy w hx hy hl (rx 1 (by decide)) (by rw [y1];rfl)
    rw [y1,RC_none_r]
    exact this
   have ry1:(Y.root.1 == 1)=false:=by rw [beq_eq_false_iff_ne];exact fun e=>y1 ((root_none hoY).1 e)
   by_cases y2 : Y = tEmpty
   ·have:=behind_4 (.two n a b) Y ho hoY vx vy w hx hy hl (rx 1 (by decide)) ry1 (rx 2 (by decide)) (by rw [y2];rfl)
    rw [y2,RC_empty_r]
    exact this
   have ry2:(Y.root.1 == 2)=false:=by rw [beq_eq_false_iff_ne];exact fun e=>y2 ((root_empty hoY).1 e)
   exact behind_5 n a b Y ho h iA iB hoY hY vx vy w hx hy kx ky hl e7 ry1 ry2
  ·exact behind_base _ ho h (.inl e7)
end Go.Proofs.YtfdhaknecjcjoaaGreatDoor
