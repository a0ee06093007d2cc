/- El Em, in one text. -/
import Derived.Test.YtfdhaknecjcjoaaGreatDoorPJ
import Derived.Lib.AppendZerosOnto
import Derived.Lib.Overlaps
import Derived.Laws.CopyRow
import Derived.Lib.JoinLaws
namespace Go.Proofs.YtfdhaknecjcjoaaGreatDoor
open Go Go.RowKit Go.Lib
set_option linter.unusedVariables false

def fCmp:Value:=.func (.func 94) #[] #[]
/-- What a search finds. -/
def SrQ (M:List Tr) (m:Tr) (w:World) (e:Ending) (w':World):Prop:=∃ (i:Nat),e=.returned (.tuple #[.int .i64 i,.bool (decide (i<M.length∧ct (M.getD i tNone).flat m.flat=0))])∧i≤M.length∧(∀ j,j<i→ct (M.getD j tNone).flat m.flat<0)∧(i<M.length→¬ ct (M.getD i tNone).flat m.flat<0)∧Below w.heap.size w w'
theorem ris_at {M:List Tr} (h:Ris M) {i j:Nat} (hij:i<j) (hj:j<M.length):Lt (M.getD i tNone) (M.getD j tNone):=by
 have:=List.pairwise_iff_getElem.1 h i j (by omega) hj hij
 rw [List.getD_eq_getElem?_getD,List.getElem?_eq_getElem (by omega),List.getD_eq_getElem?_getD,List.getElem?_eq_getElem hj]
 exact this

set_option maxHeartbeats 4000000 in
set_option maxRecDepth 100000 in
theorem search_any {lo base : Nat} {w : World} {v vm : Value} {M : List Tr} {m : Tr} (hv : Prt lo w base v M) (hr : Ris M) (hM : M.length ≤ 4001) (hm : NReads w vm m.flat) (hml : m.flat.length ≤ 4000) :
  Calls Tryz.prog 93 #[v,vm,fCmp] w (SrQ M m w):=by
 obtain ⟨us,hul,hrow,hus⟩:=hv
 obtain ⟨va,vc,rfl⟩:=own_one hrow
 have HC:Hid (∀ w1 i,Below w.heap.size w w1→i<M.length→∃ g u,va=some ⟨g,0,none⟩∧w1.cell? ⟨g,i,none⟩=some u∧Calls Tryz.prog 94 #[u,vm] w1 fun e w'=>e=.returned (.int .i64 (ct (M.getD i tNone).flat m.flat))∧Below w1.heap.size w1 w'):=by
  intro w1 i hb hi
  obtain ⟨u,h1,h2,h3⟩:=hus i (M.getD i tNone) (by rw [List.getD_eq_getElem?_getD,List.getElem?_eq_getElem hi];rfl)
  rcases hrow.2 with ⟨_,h0⟩ | ⟨g,cap,cur,e,_,hg,_⟩
  ·omega
  ·simp only [Value.slice.injEq] at e
   obtain ⟨rfl,_⟩:=e
   have hc:=hrow.cells (g:=g) rfl i u h1
   rw [Addr.add_lit,Nat.zero_add] at hc
   exact ⟨g,u,rfl,by rw [below_cell hb (Array.getElem?_eq_some_iff.1 hg).1];exact hc,compare_any u vm _ _ w1 (h2.reads.stay hb) (hm.stay hb) (by omega)⟩
 have HR:Hid (Ris M):=hr
 have HRG:Hid (∀ i,ct (M.getD i tNone).flat m.flat = -1∨ct (M.getD i tNone).flat m.flat=0∨ct (M.getD i tNone).flat m.flat=1):=fun i=>ct_range _ _
 clear hus hrow hul hr hm
 obtain ⟨n,hn⟩:∃ n,M.length=n:=⟨_,rfl⟩
 unfold fCmp
 have HN:Hid (M.length=n):=hn
 rw [hn] at hM HC
 have HNM:Hid (n=M.length):=hn.symm
 rw [hn]
 clear hn
 go_enter Tryz.func93,Tryz.ntmps93
 go_wp2_with fail
 go_loopw [9,10] (fun vi vj wr=>∃ (i j:Nat),vi=.int .i64 i∧vj=.int .i64 j∧i≤j∧j≤n∧(∀ t,t<i→ct (M.getD t tNone).flat m.flat<0)∧(∀ t,j≤t→t<n→¬ ct (M.getD t tNone).flat m.flat<0)∧Below w.heap.size w wr) (fun vi vj _=>(intOf vj).toNat - (intOf vi).toNat)
 case atStart=>exact ⟨0,n,rfl,rfl,Nat.zero_le _,Nat.le_refl _,fun t ht=>by omega,fun t h1 h2=>by omega,Below.refl _ _⟩
 case round =>
  obtain ⟨i,j,rfl,rfl,hij,hjn,h1,h2,hb⟩:=hrel
  have HB:Hid (Below w.heap.size w wr):=hb
  have H1:Hid _:=h1
  have H2:Hid (∀ t,j≤t→t<n→¬ ct (M.getD t tNone).flat m.flat<0):=h2
  clear h1 h2 hb
  by_cases hlt : i < j
  ·have hltI:(i:Int)<j:=by omega
   obtain ⟨h,hh⟩:∃ h,(i+j) / 2=h:=⟨_,rfl⟩
   have hhn:h<n:=by omega
   obtain ⟨g,u,e,hcell,hcall⟩:=HC.out wr h HB.out hhn
   subst e
   obtain ⟨x,hx⟩:∃ x,ct (M.getD h tNone).flat m.flat=x:=⟨_,rfl⟩
   have HX:Hid (ct (M.getD h tNone).flat m.flat=x):=hx
   rw [hx] at hcall
   have HCALL:Hid (Calls Tryz.prog 94 #[u,vm] wr fun e w'=>e=.returned (.int .i64 x)∧Below wr.heap.size wr w'):=hcall
   have HHH:Hid ((i+j) / 2=h):=hh
   clear hcall hx
   have hxr:=HRG.out h
   rw [HX.out] at hxr
   by_cases hx0 : x < 0
   ·go_wp2_with fail
    refine HCALL.out.mono ?_
    rintro e w2 ⟨rfl,hb2⟩
    have HB2:Hid (Below w.heap.size w w2):=go_on HB.out hb2
    clear hb2 HCALL
    go_wp2_with fail
    go_roundw
    case rel =>
     have h3:(i+j) / 2=h:=HHH.out
     refine ⟨h+1,j,by go_num,rfl,by omega,hjn,fun t ht=>?_,fun t h5 h6=>Int.not_lt.2 (H2.out t h5 h6),HB2.out⟩
     by_cases c : t = h
     ·rw [c,HX.out];exact hx0
     ·have l1:=ris_at HR.out (show t<h by omega) (by rw [HN.out];exact hhn)
      have l2:Lt (M.getD h tNone) m:=by show ct _ _<0;rw [HX.out];exact hx0
      exact l1.trans l2
    case measure=>have h3:(i+j) / 2=h:=HHH.out;simp [intOf];omega
   ·go_wp2_with fail
    refine HCALL.out.mono ?_
    rintro e w2 ⟨rfl,hb2⟩
    have HB2:Hid (Below w.heap.size w w2):=go_on HB.out hb2
    clear hb2 HCALL
    go_wp2_with fail
    go_roundw
    case rel =>
     have h3:(i+j) / 2=h:=HHH.out
     refine ⟨i,h,rfl,by go_num,by omega,by omega,H1.out,fun t ht1 ht2=>?_,HB2.out⟩
     by_cases c : t = h
     ·rw [c,HX.out];omega
     ·intro l3
      have l1:=ris_at HR.out (show h<t by omega) (by rw [HN.out];exact ht2)
      have l2:Lt (M.getD h tNone) m:=l1.trans l3
      have:ct (M.getD h tNone).flat m.flat<0:=l2
      rw [HX.out] at this
      omega
    case measure=>have h3:(i+j) / 2=h:=HHH.out;simp [intOf];omega
  ·have hltI:¬ (i:Int)<j:=by omega
   have e:i=j:=by omega
   subst e
   by_cases hin : i < n
   ·obtain ⟨g,u,e,hcell,hcall⟩:=HC.out wr i HB.out hin
    subst e
    obtain ⟨x,hx⟩:∃ x,ct (M.getD i tNone).flat m.flat=x:=⟨_,rfl⟩
    have HX:Hid (ct (M.getD i tNone).flat m.flat=x):=hx
    rw [hx] at hcall
    have HCALL:Hid (Calls Tryz.prog 94 #[u,vm] wr fun e w'=>e=.returned (.int .i64 x)∧Below wr.heap.size wr w'):=hcall
    clear hcall hx
    have hinI:(i:Int)<n:=by omega
    have HIN:Hid (i<n):=hin
    go_wp2_with fail
    refine HCALL.out.mono ?_
    rintro e w2 ⟨rfl,hb2⟩
    have HB2:Hid (Below w.heap.size w w2):=go_on HB.out hb2
    clear hb2 HCALL
    go_wp2_with fail
    go_ret2
    unfold SrQ
    refine ⟨i,?_,by rw [HN.out];exact hjn,H1.out,fun _=>Int.not_lt.2 (H2.out i (Nat.le_refl _) HIN.out),HB2.out⟩
    have h6:decide (i<M.length∧ct (M.getD i tNone).flat m.flat=0)=(x == 0):=by
     rw [HX.out,HN.out]
     have h5:i<n:=HIN.out
     by_cases c : x = 0
     ·simp [h5,c]
     ·simp [h5,c]
    rw [h6]
    rfl
   ·have hinI:¬ (i:Int)<n:=by omega
    have HIN:Hid (¬ i<n):=hin
    go_wp2_with fail
    go_ret2
    unfold SrQ
    refine ⟨i,?_,by rw [HN.out];exact hjn,H1.out,fun h5=>absurd h5 (by rw [HN.out];exact HIN.out),HB.out⟩
    have h6:decide (i<M.length∧ct (M.getD i tNone).flat m.flat=0)=false:=by
     rw [HN.out]
     have h5:¬ i<n:=HIN.out
     simp [h5]
    rw [h6]
    rfl
end Go.Proofs.YtfdhaknecjcjoaaGreatDoor

namespace Go.Proofs.YtfdhaknecjcjoaaGreatDoor
open Go Go.RowKit Go.Lib
set_option linter.unusedVariables false

theorem sizeOf_nodes (w:World):(Go.sizeOf 22).run Tryz.prog w=.ok 1 w:=by
 obtain ⟨i0,hi,hz0,hz1,hz2⟩:=info_parts Tryz.info_nodes
 simp [Go.sizeOf,typeInfo,hi,hz1]
theorem run_overlap (w:World) (vb g o lb cb c:Nat) (u:Value) (cur:Array Value) (hne:vb≠g) (hv:w.heap[vb]?=some (.cells #[u] 22 (0,0))) (hg:w.heap[g]?=some (.cells cur 22 (0,0))) (hc:cur.size≠0) :
  (callFunc 123 #[.slice (some ⟨vb,0,none⟩) 1 1,.slice (some ⟨g,o,none⟩) lb cb]).run Tryz.prog w=.ok (.value (.bool false)) w:=by
 rw [run_callFunc_extern Tryz.func123 (by kernel_rfl) (by kernel_rfl) (by kernel_rfl) (e:=Extern.SlicesOverlaps.overlaps #[56,56] #[4]) (by kernel_rfl),
  Lib.run_overlaps_apart w 56 4 22 Tryz.underlying56 1 sizeOf_nodes ⟨vb,0,none⟩ ⟨g,o,none⟩ 1 1 lb cb hne 22 22 1 cur.size (by simp [World.shape?,hv]) (by simp [World.shape?,hg]) hc (by simp [World.frozen?,hv]) (by simp [World.frozen?,hv])]
 rfl
theorem grown_setRow (w:World) (g:Nat) (cs:Array Value):w.grownBy (w.setRow g cs) (some g):=by
 refine ⟨rfl,rfl,rfl,by simp [World.setRow],fun k hk hne=>?_⟩
 have h:k≠g:=fun e=>hne (by rw [e])
 simp only [World.setRow,Array.getElem?_modify]
 rw [if_neg (fun e=>h e.symm)]

set_option maxHeartbeats 4000000 in
set_option maxRecDepth 100000 in
/-- There is room: in place. -/
theorem insert_shift (g n c i vb:Nat) (us:List Value) (u:Value) (w:World) (cur:Array Value) (hg:w.heap[g]?=some (.cells cur 22 (0,0))) (hcs:cur.size=c) (htk:cur.toList.take n=us) (hi:i<n) (hroom:n+1≤c) (hc:c≤maxLen) (hvb:w.heap[vb]?=some (.cells #[u] 22 (0,0))) (hne:vb≠g) (h1:∀ x ∈ us,x.oneCell'=true) (hu1:u.oneCell'=true) (hn:n≤4001) :
  Calls Tryz.prog 95 #[.slice (some ⟨g,0,none⟩) n c,.int .i64 i,.slice (some ⟨vb,0,none⟩) 1 1] w fun e w' =>
   e=.returned (.slice (some ⟨g,0,none⟩) (n+1) c)∧(∃ cur2,w'.heap[g]?=some (.cells cur2 22 (0,0))∧cur2.size=c∧cur2.toList.take (n+1)=us.take i ++ u :: us.drop i)∧w.grownBy w' (some g):=by
 have hul:us.length=n:=by rw [← htk,List.length_take,Array.length_toList];omega
 have hsz:(Tryz.prog.info? 22).map (·.size)=some 1:=by
  obtain ⟨i0,hi0,hz0,hz1,hz2⟩:=info_parts Tryz.info_nodes
  rw [hi0];simp [hz1]
 have hov:=fun o lb cb=>run_overlap w vb g o lb cb c u cur hne hvb hg (by omega)
 obtain ⟨cur1,hcur1⟩:∃ cur1:Array Value,(cur.toList.take (i+1) ++ us.drop i ++ cur.toList.drop (i+1+(us.drop i).length)).toArray=cur1:=⟨_,rfl⟩
 have hcel:∀ j x,us[j]?=some x→w.cell? ⟨g,j,none⟩=some x:=fun j x hj=>by
  rw [cell_of_row w g j cur 22 (0,0) hg]
  rw [← htk,List.getElem?_take] at hj
  split at hj
  ·simpa using hj
  ·cases hj
 have hcp1:∀ ty dc sc,(Builtin.copy_ #[56,56] ty #[.slice (some ⟨g,i+1,none⟩) (n - i) dc,.slice (some ⟨g,i,none⟩) (n+1 - i) sc]).run Tryz.prog w.drew=.ok (goInt (us.drop i).length) (w.drew.setRow g cur1):=fun ty dc sc=>by
  rw [← hcur1]
  exact run_copy_row Tryz.prog w.drew 56 56 ty 22 g (i+1) (n - i) dc ⟨g,i,none⟩ (n+1 - i) sc cur 22 (us.drop i) Tryz.underlying56 hsz hg (by rw [List.length_drop,hul];simp only [Nat.min_def];split <;> omega)
   (fun j x hj=>by rw [Addr.add_lit];rw [List.getElem?_drop] at hj;exact hcel (i+j) x hj) (by rw [List.length_drop,hul];omega) (fun x hx=>h1 x (List.mem_of_mem_drop hx))
 have hg1:(w.drew.setRow g cur1).heap[g]?=some (.cells cur1 22 (0,0)):=setRow_heap w.drew g cur cur1 22 (0,0) hg
 have hs1:cur1.size=c:=by
  rw [← hcur1]
  simp [List.length_drop,hul]
  omega
 have hvb1:(w.drew.setRow g cur1).heap[vb]?=some (.cells #[u] 22 (0,0)):=((grown_setRow w.drew g cur1).block vb (Array.getElem?_eq_some_iff.1 hvb).1 (fun e=>hne (Option.some.inj e))).trans hvb
 have hcp2:∀ ty dc,(Builtin.copy_ #[56,56] ty #[.slice (some ⟨g,i,none⟩) (n+1 - i) dc,.slice (some ⟨vb,0,none⟩) 1 1]).run Tryz.prog (w.drew.setRow g cur1)=.ok (goInt 1) ((w.drew.setRow g cur1).setRow g (cur1.toList.take i ++ [u] ++ cur1.toList.drop (i+1)).toArray):=fun ty dc=>by
  exact run_copy_row Tryz.prog (w.drew.setRow g cur1) 56 56 ty 22 g i (n+1 - i) dc ⟨vb,0,none⟩ 1 1 cur1 22 [u] Tryz.underlying56 hsz hg1 (by simp only [List.length_singleton,Nat.min_def];split <;> omega)
   (fun j x hj=>by
    cases j with
    | zero=>simp at hj;subst hj;rw [Addr.add_lit];simp [World.cell?,hvb1]
    | succ j=>simp at hj) (by simp;omega) (fun x hx=>by simp at hx;subst hx;exact hu1)
 have HFIN:Hid (∃ cur2,((w.drew.setRow g cur1).setRow g (cur1.toList.take i ++ [u] ++ cur1.toList.drop (i+1)).toArray).heap[g]?=some (.cells cur2 22 (0,0))∧cur2.size=c∧cur2.toList.take (n+1)=us.take i ++ u :: us.drop i):=by
  refine ⟨_,setRow_heap _ g cur1 _ 22 (0,0) hg1,by simp [hs1];omega,?_⟩
  have e1:cur1.toList=cur.toList.take (i+1) ++ us.drop i ++ cur.toList.drop (i+1+(us.drop i).length):=by rw [← hcur1]
  have hct:cur.toList.take (i+1)=us.take (i+1):=by rw [← htk,List.take_take,Nat.min_eq_left (by omega)]
  have l1:(us.take (i+1)).length=i+1:=by simp;omega
  have t1:cur1.toList.take i=us.take i:=by rw [e1,hct,List.append_assoc,List.take_append_of_le_length (by omega),List.take_take,Nat.min_eq_left (by omega)]
  have t2:cur1.toList.drop (i+1)=us.drop i ++ cur.toList.drop (i+1+(us.drop i).length):=by rw [e1,hct,List.append_assoc,List.drop_left' l1]
  rw [List.toList_toArray,t1,t2,← List.append_assoc,List.take_left' (by simp;omega)]
  simp
 have HGR:Hid (w.grownBy ((w.drew.setRow g cur1).setRow g (cur1.toList.take i ++ [u] ++ cur1.toList.drop (i+1)).toArray) (some g)):=by
  have a1:=grown_setRow w.drew g cur1
  have a2:=grown_setRow (w.drew.setRow g cur1) g (cur1.toList.take i ++ [u] ++ cur1.toList.drop (i+1)).toArray
  exact ⟨a2.os.trans a1.os,a2.tape.trans a1.tape,a2.output.trans a1.output,Nat.le_trans a1.size a2.size,fun k hk hne=>(a2.block k (Nat.lt_of_lt_of_le hk a1.size) hne).trans (a1.block k hk hne)⟩
 obtain ⟨W1,hW1⟩:∃ W1,w.drew.setRow g cur1=W1:=⟨_,rfl⟩
 rw [hW1] at hcp1 hcp2 HFIN HGR
 obtain ⟨W2,hW2⟩:∃ W2,W1.setRow g (cur1.toList.take i ++ [u] ++ cur1.toList.drop (i+1)).toArray=W2:=⟨_,rfl⟩
 rw [hW2] at hcp2 HFIN HGR
 have hcI:c≤9223372036854775807:=by unfold maxLen at hc;omega
 have hz2:¬ ((i:Int)=(n:Int)):=by omega
 have hb2:¬ (c=i+1):=by omega
 have hb4:¬ (c=i):=by omega
 clear hg1 hs1 hvb1 hcel hg hcs htk hvb h1 hul hcur1 hW1 hW2 hc
 go_enter Tryz.func95,Tryz.ntmps95
 go_wp2_with (simp only [hov])
 go_region
 go_wp2_with fail
 go_ret
 exact ⟨rfl,HFIN.out,HGR.out⟩

set_option maxHeartbeats 4000000 in
set_option maxRecDepth 100000 in
/-- There is no room: a new row. -/
theorem insert_grow (g n c i vb:Nat) (us:List Value) (u:Value) (w:World) (cur:Array Value) (hg:w.heap[g]?=some (.cells cur 22 (0,0))) (htk:cur.toList.take n=us) (hul:us.length=n) (hi:i<n) (hroom:c<n+1) (hnc:n≤c) (hvb:w.heap[vb]?=some (.cells #[u] 22 (0,0))) (h1:∀ x ∈ us,x.oneCell'=true) (hu1:u.oneCell'=true) (hn:n≤4001) :
  Calls Tryz.prog 95 #[.slice (some ⟨g,0,none⟩) n c,.int .i64 i,.slice (some ⟨vb,0,none⟩) 1 1] w fun e w' =>
   ∃ G,e=.returned (.slice (some ⟨w.heap.size,0,none⟩) (n+1) G)∧(∃ cur2,w'.heap[w.heap.size]?=some (.cells cur2 22 (0,0))∧cur2.size=G∧cur2.toList.take (n+1)=us.take i ++ u :: us.drop i)∧n+1≤G∧G≤maxLen∧w.grownBy w' none:=by
 obtain ⟨i0,hi0,hz0,hz1,hz2⟩:=info_parts Tryz.info_nodes
 have hsz:(Tryz.prog.info? 22).map (·.size)=some 1:=by rw [hi0];simp [hz1]
 have hcel:∀ j x,us[j]?=some x→w.cell? ⟨g,j,none⟩=some x:=fun j x hj=>by
  rw [cell_of_row w g j cur 22 (0,0) hg]
  rw [← htk,List.getElem?_take] at hj
  split at hj
  ·simpa using hj
  ·cases hj
 have hik:i+(n+1 - i)=n+1:=by omega
 have hold:(Builtin.firstCells i0.size i (.slice (some ⟨g,0,none⟩) i c)).run Tryz.prog w.drew=.ok (us.take i).toArray w.drew:=by
  rw [hz1]
  exact run_firstCells_some w.drew 1 i ⟨g,0,none⟩ i c (us.take i) (by rw [List.length_take];omega) (fun j v hj=>by
   rw [Addr.add_lit,Nat.zero_add]
   rw [List.getElem?_take] at hj
   split at hj
   ·exact hcel j v hj
   ·cases hj)
 obtain ⟨G,hG⟩:∃ G,grownCap w (n+1) c 22=G:=⟨_,rfl⟩
 have hGge:n+1≤G:=by rw [← hG];exact grownCap_ge w (n+1) c 22
 have hGle:G≤maxLen:=by rw [← hG];exact grownCap_le_maxLen w (n+1) c 22 (by unfold maxLen;omega)
 obtain ⟨ROW,hROW⟩:∃ ROW:Array Value,(us.take i).toArray ++ Builtin.zeroCells (Value.slice none 0 0).cells (n+1 - i) ++ Builtin.zeroCells (Value.slice none 0 0).cells (G - (n+1))=ROW:=⟨_,rfl⟩
 have hrz:∀ ty,(Builtin.append_ #[56,3] ty #[.slice (some ⟨g,0,none⟩) i c,.int .i64 ((n:Int)+1 - (i:Int))]).run Tryz.prog w=.ok (.slice (some ⟨w.heap.size,0,none⟩) (n+1) G) (w.drew.alloc (.cells ROW 22)):=fun ty=>by
  have h:=Lib.run_append_grow_zeros w 56 3 ty 22 i0 _ .i64 .i64 Tryz.underlying56 Tryz.underlying3 hi0 hz0 (some ⟨g,0,none⟩) i c (us.take i) hold (n+1 - i) (by omega) (by omega) (by omega) (by omega) (by rw [hz2];omega) (by rw [hz2,hik];exact growslice_fits hroom (by omega))
  rw [hik,hG,hROW] at h
  rw [show (n : Int) + 1 - (i : Int) = ((n + 1 - i : Nat) : Int) by omega]
  exact h
 have hRs:ROW.size=G:=by
  rw [← hROW]
  simp [Builtin.zeroCells,Value.cells]
  omega
 have hRt:ROW.toList.take i=us.take i:=by
  rw [← hROW]
  simp only [Array.toList_append,List.append_assoc]
  rw [List.take_append_of_le_length (by simp;omega),List.take_of_length_le (by simp;omega)]
 obtain ⟨W1,hW1⟩:∃ W1,w.drew.alloc (.cells ROW 22)=W1:=⟨_,rfl⟩
 rw [hW1] at hrz
 have hgW:g<w.heap.size:=(Array.getElem?_eq_some_iff.1 hg).1
 have hvW:vb<w.heap.size:=(Array.getElem?_eq_some_iff.1 hvb).1
 have hg1:W1.heap[w.heap.size]?=some (.cells ROW 22 (0,0)):=by rw [← hW1];exact heap_alloc_new w.drew _
 have gr1:w.grownBy W1 none:=by rw [← hW1];exact ⟨rfl,rfl,rfl,by simp,fun k hk _=>(World.grownBy_alloc w.drew (.cells ROW 22) none).block k hk (by simp)⟩
 obtain ⟨cur1,hcur1⟩:∃ cur1:Array Value,(ROW.toList.take i ++ [u] ++ ROW.toList.drop (i+1)).toArray=cur1:=⟨_,rfl⟩
 have hcp1:∀ ty dc,(Builtin.copy_ #[56,56] ty #[.slice (some ⟨w.heap.size,i,none⟩) (n+1 - i) dc,.slice (some ⟨vb,0,none⟩) 1 1]).run Tryz.prog W1=.ok (goInt 1) (W1.setRow w.heap.size cur1):=fun ty dc=>by
  rw [← hcur1]
  exact run_copy_row Tryz.prog W1 56 56 ty 22 w.heap.size i (n+1 - i) dc ⟨vb,0,none⟩ 1 1 ROW 22 [u] Tryz.underlying56 hsz hg1 (by simp only [List.length_singleton,Nat.min_def];split <;> omega)
   (fun j x hj=>by
    cases j with
    | zero=>simp at hj;subst hj;rw [Addr.add_lit];simp [World.cell?,(gr1.block vb hvW (by simp)).trans hvb]
    | succ j=>simp at hj) (by simp;omega) (fun x hx=>by simp at hx;subst hx;exact hu1)
 have hg2:(W1.setRow w.heap.size cur1).heap[w.heap.size]?=some (.cells cur1 22 (0,0)):=setRow_heap W1 w.heap.size ROW cur1 22 (0,0) hg1
 have gr2:=grown_setRow W1 w.heap.size cur1
 have hs1:cur1.size=G:=by rw [← hcur1];simp;omega
 obtain ⟨W2,hW2⟩:∃ W2,W1.setRow w.heap.size cur1=W2:=⟨_,rfl⟩
 rw [hW2] at hcp1 hg2 gr2
 have hsrc:∀ j x,(us.drop i)[j]?=some x→W2.drew.cell? ((⟨g,i,none⟩:Addr).add j)=some x:=fun j x hj=>by
  rw [Addr.add_lit]
  rw [List.getElem?_drop] at hj
  have e:W2.heap[g]?=w.heap[g]?:=(gr2.block g (Nat.lt_of_lt_of_le hgW gr1.size) (fun e=>by have:=Option.some.inj e;omega)).trans (gr1.block g hgW (by simp))
  rw [← hcel (i + j) x hj]
  exact World.cell?_of_block (w':=W2.drew) (w:=w) (a:=⟨g,i+j,none⟩) e
 have hcp2:∀ ty dc sc,(Builtin.copy_ #[56,56] ty #[.slice (some ⟨w.heap.size,i+1,none⟩) (n - i) dc,.slice (some ⟨g,i,none⟩) (n - i) sc]).run Tryz.prog W2.drew=.ok (goInt (us.drop i).length) (W2.drew.setRow w.heap.size (cur1.toList.take (i+1) ++ us.drop i ++ cur1.toList.drop (i+1+(us.drop i).length)).toArray):=fun ty dc sc =>
  run_copy_row Tryz.prog W2.drew 56 56 ty 22 w.heap.size (i+1) (n - i) dc ⟨g,i,none⟩ (n - i) sc cur1 22 (us.drop i) Tryz.underlying56 hsz hg2 (by rw [List.length_drop,hul];simp only [Nat.min_def];split <;> omega) hsrc (by rw [List.length_drop,hul];omega) (fun x hx=>h1 x (List.mem_of_mem_drop hx))
 have HFIN:Hid (∃ cur2,(W2.drew.setRow w.heap.size (cur1.toList.take (i+1) ++ us.drop i ++ cur1.toList.drop (i+1+(us.drop i).length)).toArray).heap[w.heap.size]?=some (.cells cur2 22 (0,0))∧cur2.size=G∧cur2.toList.take (n+1)=us.take i ++ u :: us.drop i):=by
  refine ⟨_,setRow_heap _ w.heap.size cur1 _ 22 (0,0) hg2,by simp [hs1,hul];omega,?_⟩
  have e1:cur1.toList.take (i+1)=us.take i ++ [u]:=by
   rw [← hcur1,List.toList_toArray,hRt,List.append_assoc]
   rw [← List.append_assoc,List.take_left' (by simp;omega)]
  rw [List.toList_toArray,e1,List.take_left' (by simp;omega)]
  simp
 have HGR:Hid (w.grownBy (W2.drew.setRow w.heap.size (cur1.toList.take (i+1) ++ us.drop i ++ cur1.toList.drop (i+1+(us.drop i).length)).toArray) none):=by
  have a2:=grown_setRow W2.drew w.heap.size (cur1.toList.take (i+1) ++ us.drop i ++ cur1.toList.drop (i+1+(us.drop i).length)).toArray
  have s1:=gr1.size
  have s2:=gr2.size
  exact ⟨a2.os.trans (gr2.os.trans gr1.os),a2.tape.trans (gr2.tape.trans gr1.tape),a2.output.trans (gr2.output.trans gr1.output),Nat.le_trans s1 (Nat.le_trans s2 a2.size),fun k hk _ =>
   (a2.block k (by show k<W2.heap.size;omega) (fun e=>by have:=Option.some.inj e;omega)).trans ((gr2.block k (by omega) (fun e=>by have:=Option.some.inj e;omega)).trans (gr1.block k hk (by simp)))⟩
 obtain ⟨W3,hW3⟩:∃ W3,W2.drew.setRow w.heap.size (cur1.toList.take (i+1) ++ us.drop i ++ cur1.toList.drop (i+1+(us.drop i).length)).toArray=W3:=⟨_,rfl⟩
 rw [hW3] at hcp2 HFIN HGR
 have HGG:Hid (n+1≤G∧G≤maxLen):=⟨hGge,hGle⟩
 have hGI:G≤9223372036854775807:=by unfold maxLen at hGle;omega
 have hzz2:¬ ((i:Int)=(n:Int)):=by omega
 have hzz3:(c:Int)<(n:Int)+1:=by omega
 have hb2:¬ (G=i+1):=by omega
 have hb3:¬ (G=i):=by omega
 have hb4:¬ (c=i):=by omega
 have hb5:¬ (n=i):=by omega
 clear hW3 hW2 hW1 hs1 hcur1 gr1 gr2 hg1 hg2 hRt hRs hROW hG hold hcel hg htk hvb h1 hsrc hGle
 go_enter Tryz.func95,Tryz.ntmps95
 go_wp2_with (at_builtin;refine Lib.wpList_append_run _ rfl _ _ _ _ rfl _ _ rfl rfl _ _ (hrz _) ?_)
 go_region
 go_wp2_with fail
 go_ret
 exact ⟨G,rfl,HFIN.out,HGG.out.1,HGG.out.2,HGR.out⟩
end Go.Proofs.YtfdhaknecjcjoaaGreatDoor
