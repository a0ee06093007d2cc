/- The normal form of a tree of any size. -/
import Derived.Test.YtfdhaknecjcjoaaGreatDoorPXp
import Derived.Test.YtfdhaknecjcjoaaGreatDoorPWr
import Derived.Deep.WholeRow
import Derived.Laws.EntriesVeiled
namespace Go.Proofs.YtfdhaknecjcjoaaGreatDoor
open Go Go.RowKit
set_option linter.unusedVariables false

def nrmS (s:List Tr):List Tr:=(s.map nrm).reverse
theorem nrmS_cons (x:Tr) (s:List Tr):nrmS (x :: s)=nrmS s ++ [nrm x]:=by simp [nrmS]
theorem nrmS_two (x y:Tr) (s:List Tr):nrmS (y :: x :: s)=nrmS s ++ [nrm x,nrm y]:=by simp [nrmS]
def sumS (s:List Tr):Nat:=(s.map fun t=>t.flat.length).sum
theorem nrmS_len:∀ {s:List Tr},Oks s→(flatL (nrmS s)).length≤sumS s
 | [],_=>by simp [nrmS,flatL]
 | x :: s,h=>by
  have h1:=nrmS_len (s:=s) (fun m hm=>h m (by simp [hm]))
  have h2:=nrm_len (h x (by simp))
  rw [nrmS_cons,flatL_append,flatL_one,List.length_append]
  simp only [sumS,List.map_cons,List.sum_cons] at *
  omega
/-- What a step leaves. -/
theorem step_keeps {n:Nd} {s s':List Tr} (hg:good n=true) (ho:Oks s) (h:stepR n s=some s'):Oks s'∧sumS s'=sumS s+1:=by
 unfold stepR at h
 split at h
 ·next h0 =>
  cases h
  refine ⟨fun m hm=>?_,by simp [sumS,Tr.flat];omega⟩
  rcases List.mem_cons.1 hm with rfl | hm
  ·exact ⟨hg,h0⟩
  ·exact ho m hm
 ·split at h
  ·next h1 =>
   match s,h,ho with
   | x :: s,h,ho =>
    cases h
    refine ⟨fun m hm=>?_,by simp [sumS,Tr.flat];omega⟩
    rcases List.mem_cons.1 hm with rfl | hm
    ·exact ⟨hg,h1,ho x (by simp)⟩
    ·exact ho m (by simp [hm])
  ·next h0 h1 =>
   have h2:arity n.1=2:=by have:=arity_le n.1;omega
   match s,h,ho with
   | y :: x :: s,h,ho =>
    cases h
    refine ⟨fun m hm=>?_,by simp [sumS,Tr.flat];omega⟩
    rcases List.mem_cons.1 hm with rfl | hm
    ·exact ⟨hg,h2,ho x (by simp),ho y (by simp)⟩
    ·exact ho m (by simp [hm])
theorem flat_good:∀ {t:Tr},t.ok→∀ n ∈ t.flat,good n=true
 | .zero n,h,m,hm=>by simp [Tr.flat] at hm;rw [hm];exact h.1
 | .one n a,h,m,hm=>by
  simp only [Tr.flat,List.mem_append,List.mem_singleton] at hm
  rcases hm with hm | rfl
  ·exact flat_good h.2.2 m hm
  ·exact h.1
 | .two n a b,h,m,hm=>by
  simp only [Tr.flat,List.mem_append,List.mem_singleton] at hm
  rcases hm with (hm | hm) | rfl
  ·exact flat_good h.2.2.1 m hm
  ·exact flat_good h.2.2.2 m hm
  ·exact h.1

theorem Rls.lt {w:World} {b:Nat} (h:Rls w b):b+2<w.heap.size:=(Array.getElem?_eq_some_iff.1 h.all).1
theorem Rls.stay {w w':World} {b:Nat} (h:Rls w b) (hb:Below w.heap.size w w'):Rls w' b:=by
 have:=h.lt
 exact ⟨(hb.block b (by omega)).trans h.none,(hb.block (b+1) (by omega)).trans h.empty,(hb.block (b+2) (by omega)).trans h.all⟩
theorem eqlIn_nil (d:Nat) (W:World):(Op.equalIn (d+1) 94 .nilFunc .nilFunc).run Tryz.prog W=.ok true W:=by
 simp [Op.equalIn,run_underlying Tryz.underlying94]
theorem eqlIn_fn (d:Nat) (W:World) (f:Fn) (x y:Array Value):(Op.equalIn (d+1) 94 (.func f x y) .nilFunc).run Tryz.prog W=.ok false W:=by
 simp [Op.equalIn,run_underlying Tryz.underlying94]
theorem eql_nil (W:World):(binOp .eql 94 .nilFunc .nilFunc).run Tryz.prog W=.ok (.bool true) W:=by
 simp only [binOp]
 simp [Op.equal,Op.maxDepth,eqlIn_nil 9999 W]
theorem eql_fn (W:World) (f:Fn) (x y:Array Value):(binOp .eql 94 (.func f x y) .nilFunc).run Tryz.prog W=.ok (.bool false) W:=by
 simp only [binOp]
 simp [Op.equal,Op.maxDepth,eqlIn_fn 9999 W f x y]
/-- What stays in a round. -/
theorem next_rel {base:Nat} {w wr w9:World} {B b tb:Nat} {N:List Nd} {Z:List Nat} {F F9:Fb} {arr:Array Value} (hft:FS base wr B N Z F) (hg:FG wr w9 B F F9) (htbl:wr.heap[tb]?=some (.cells arr 97 (0,0))) (hr:Rls wr b) (hn:(F.nb<b∨b+3≤F.nb)∧(F.sb<b∨b+3≤F.sb)) (hB:B<b) (hbl:Below base w wr) (hbw:base≤w.heap.size) :
  w9.heap[tb]?=some (.cells arr 97 (0,0))∧Rls w9 b∧((F9.nb<b∨b+3≤F9.nb)∧(F9.sb<b∨b+3≤F9.sb))∧Below base w w9:=by
 have hl:=hr.lt
 obtain ⟨l1,l2,l3,l4⟩:=hft.lts
 refine ⟨hg.other hft.raw htbl (by decide) (by decide) (by decide),⟨?_,?_,?_⟩,⟨?_,?_⟩,⟨hg.os.trans hbl.os,hg.tape.trans hbl.tape,hg.output.trans hbl.output,Nat.le_trans hbl.size hg.size,fun j hj=>?_⟩⟩
 ·exact (hg.block b (by omega) (by omega) (by omega) (by omega)).trans hr.none
 ·exact (hg.block (b + 1) (by omega) (by omega) (by omega) (by omega)).trans hr.empty
 ·exact (hg.block (b + 2) (by omega) (by omega) (by omega) (by omega)).trans hr.all
 ·rcases hg.nb with h | h
  ·rw [h];exact hn.1
  ·right;omega
 ·rcases hg.sb with h | h
  ·rw [h];exact hn.2
  ·right;omega
 ·have hB2:=hft.from_
  have hs:=hbl.size
  exact (hg.block j (by omega) (by omega) (by omega) (by omega)).trans (hbl.block j hj)
theorem rls_none {w:World} {b:Nat} (h:Rls w b):NReads w (.slice (some ⟨b,0,none⟩) 1 1) tNone.flat:=by
 have hh:=h.none
 refine ⟨some ⟨b,0,none⟩,1,rfl,fun i hi=>⟨b,0,rfl,by have:=h.lt;omega,?_,?_⟩⟩
 all_goals
  have hi:i<1:=hi
  obtain rfl:i=0:=by omega
  simp [World.cell?,hh,tNone,Tr.flat]
theorem rls_empty {w:World} {b:Nat} (h:Rls w b):NReads w (.slice (some ⟨b+1,0,none⟩) 1 1) tEmpty.flat:=by
 have hh:=h.empty
 refine ⟨some ⟨b+1,0,none⟩,1,rfl,fun i hi=>⟨b+1,0,rfl,by have:=h.lt;omega,?_,?_⟩⟩
 all_goals
  have hi:i<1:=hi
  obtain rfl:i=0:=by omega
  simp [World.cell?,hh,tEmpty,Tr.flat]
theorem rls_all {w:World} {b:Nat} (h:Rls w b):NReads w (.slice (some ⟨b+2,0,none⟩) 2 2) tAll.flat:=by
 have hh:=h.all
 refine ⟨some ⟨b+2,0,none⟩,2,rfl,fun i hi=>⟨b+2,0,rfl,by have:=h.lt;omega,?_,?_⟩⟩
 all_goals
  have hi:i<2:=hi
  have hc:i=0∨i=1:=by omega
  rcases hc with rfl | rfl <;> simp [World.cell?,hh,tAll,tNone,Tr.flat]

set_option maxHeartbeats 4000000 in
set_option maxRecDepth 100000 in
theorem rules1_any {base:Nat} {w:World} {B:Nat} {F:Fb} {pre:List Tr} {x y:Tr} (h:FT base w B (pre ++ [x,y]) F) (hox:x.ok) (hoy:y.ok) (hN:(flatL (pre ++ [x,y])).length≤10000) :
  Calls Tryz.prog 81 #[.pointer (some ⟨B,0,none⟩)] w fun en w'=>en=.returned (.tuple #[])∧FTE base w B F (pre ++ [if y.root.1≠5∧Lt (grt 5 x) y then .two (5,0) x y else build 5 (mrg (spine 5 x) (spine 5 y))]) w':=by
 have HM:=fun w'=>merge_any (base:=base) (w:=w') (B:=B) (F:=F) (pre:=pre) (x:=x) (y:=y)
 obtain ⟨T,hT⟩:∃ T,(if y.root.1≠5∧Lt (grt 5 x) y then Tr.two (5,0) x y else build 5 (mrg (spine 5 x) (spine 5 y)))=T:=⟨_,rfl⟩
 have HC:=merge_any h hox hoy hN 5 (.inl rfl)
 rw [hT] at HC ⊢
 clear hT HM
 go_enter Tryz.func81,Tryz.ntmps81
 go_wp2_with fail
 refine HC.mono ?_
 rintro en w4 ⟨rfl,hf4⟩
 have HF4:Hid (FTE base w B F (pre ++ [T]) w4):=hf4
 clear hf4
 go_wp2_with fail
 refine bodyPost_end (results_none rfl _ _ _) rfl ?_
 exact ⟨rfl,HF4.out⟩

set_option maxHeartbeats 4000000 in
set_option maxRecDepth 100000 in
theorem rules2_any {base:Nat} {w:World} {B:Nat} {F:Fb} {pre:List Tr} {x y:Tr} (h:FT base w B (pre ++ [x,y]) F) (hox:x.ok) (hoy:y.ok) (hN:(flatL (pre ++ [x,y])).length≤10000) :
  Calls Tryz.prog 83 #[.pointer (some ⟨B,0,none⟩)] w fun en w'=>en=.returned (.tuple #[])∧FTE base w B F (pre ++ [if y.root.1≠6∧Lt (grt 6 x) y then .two (6,0) x y else build 6 (mrg (spine 6 x) (spine 6 y))]) w':=by
 obtain ⟨T,hT⟩:∃ T,(if y.root.1≠6∧Lt (grt 6 x) y then Tr.two (6,0) x y else build 6 (mrg (spine 6 x) (spine 6 y)))=T:=⟨_,rfl⟩
 have HC:=merge_any h hox hoy hN 6 (.inr rfl)
 rw [hT] at HC ⊢
 clear hT
 go_enter Tryz.func83,Tryz.ntmps83
 go_wp2_with fail
 refine HC.mono ?_
 rintro en w4 ⟨rfl,hf4⟩
 have HF4:Hid (FTE base w B F (pre ++ [T]) w4):=hf4
 clear hf4
 go_wp2_with fail
 refine bodyPost_end (results_none rfl _ _ _) rfl ?_
 exact ⟨rfl,HF4.out⟩

theorem start_fs {W:World} {base B nb sb n:Nat} {c1 c2:Array Value} (h1:W.heap[B]?=some (.cells #[.slice (some ⟨nb,0,none⟩) 0 n,.slice (some ⟨sb,0,none⟩) 0 n] 68 (0,0))) (h2:W.heap[nb]?=some (.cells c1 51 (0,0))) (s1:c1.size=n * 2) (h3:W.heap[sb]?=some (.cells c2 3 (0,0))) (s2:c2.size=n) (b1:base≤B) (b2:base≤nb) (b3:base≤sb) (hn:n≤8001):FT base W B [] ⟨nb,n,sb,n⟩ :=
 ⟨h1,⟨rfl,.inr ⟨nb,n,c1,rfl,b2,h2,Nat.zero_le _,by unfold maxLen;omega,s1,by simp [flatL,ndC]⟩⟩,⟨rfl,.inr ⟨sb,n,c2,rfl,b3,h3,Nat.zero_le _,by unfold maxLen;omega,by rw [s2,Nat.mul_one],by simp [szL,inC]⟩⟩,b1,rfl,by simp [flatL]⟩

set_option maxHeartbeats 8000000 in
set_option maxRecDepth 100000 in
theorem normal_any (a : Option Addr) (cap : Nat) (T : Tr) (ho : T.ok) (w : World) (hv : NReads w (.slice a T.flat.length cap) T.flat) (hl : T.flat.length ≤ 8001) :
  Calls Tryz.prog 35 #[.slice a T.flat.length cap] w fun en w'=>∃ (B:Nat) (F:Fb),en=.returned (.pointer (some ⟨B,0,none⟩))∧FT w.heap.size w' B [nrm T] F∧Below w.heap.size w w':=by
 have HRD:Hid (∀ i,i<T.flat.length→∃ g o,a=some ⟨g,o,none⟩∧g<w.heap.size∧w.cell? ⟨g,o+i * 2,none⟩=some (.int .i64 (T.flat.getD i (0,0)).1)∧w.cell? ⟨g,o+i * 2+1,none⟩=some (.int .u8 (T.flat.getD i (0,0)).2)):=by
  obtain ⟨a',c',e,hr⟩:=hv
  cases e
  exact hr
 have HO:Hid T.ok:=ho
 have hpos:=T.len_pos
 obtain ⟨i0,hi0,hz0,hz1,hz2⟩:=info_parts Tryz.info_node
 obtain ⟨i1,hi1,hy0,hy1,hy2⟩:=info_parts Tryz.info_int
 obtain ⟨n,hn⟩:∃ n,T.flat.length=n:=⟨_,rfl⟩
 rw [hn] at HRD hl hpos ⊢
 have HN:Hid (T.flat.length=n):=hn
 clear hv ho hn
 have hmk0:=fun w0=>run_make (P:=Tryz.prog) w0 22 51 i0 (.agg #[.int .i64 0,.int .u8 0]) Tryz.underlying22 hi0 hz0 .i64 .i64 0 (n:Int) (by omega) (by omega) (by rw [hz2];omega) (by omega)
 have hmk1:=fun w0=>run_make (P:=Tryz.prog) w0 66 3 i1 (.int .i64 0) Tryz.underlying66 hi1 hy0 .i64 .i64 0 (n:Int) (by omega) (by omega) (by rw [hy2];omega) (by omega)
 go_enter Tryz.func35,Tryz.ntmps35
 go_wp2_with fail
 go_cut [3] (fun v3 wx=>∃ (B:Nat) (F:Fb),v3=.pointer (some ⟨B,0,none⟩)∧FT w.heap.size wx B [] F∧Below w.heap.size w wx)
 case first =>
  go_region
  all_goals go_wp2_with fail
  all_goals go_meet
  ·refine ⟨w.heap.size+1+1,⟨w.heap.size,n,w.heap.size+1,n⟩,rfl,?_,(((((Below.refl _ _).alloc (Nat.le_refl _) _).alloc (by simp) _).alloc (by simp;omega) _)).drew⟩
   refine start_fs (c1:=madeCells #[.int .i64 0,.int .u8 0] (n * 2)) (c2:=madeCells #[.int .i64 0] n) ?_ ?_ (by simp [madeCells]) ?_ (by simp [madeCells]) (by omega) (Nat.le_refl _) (by omega) hl
   ·have:=heap_alloc_new ((w.alloc (.cells (madeCells #[.int .i64 0,.int .u8 0] (n * 2)) 51)).alloc (.cells (madeCells #[.int .i64 0] n) 3)) (.cells #[.slice (some ⟨w.heap.size,0,none⟩) 0 n,.slice (some ⟨w.heap.size+1,0,none⟩) 0 n] 68)
    simpa [heap_drew] using this
   ·rw [heap_drew,heap_alloc_old (h:=by simp;omega),heap_alloc_old (h:=by simp)]
    exact heap_alloc_new w _
   ·rw [heap_drew,heap_alloc_old (h:=by simp)]
    have:=heap_alloc_new (w.alloc (.cells (madeCells #[.int .i64 0,.int .u8 0] (n * 2)) 51)) (.cells (madeCells #[.int .i64 0] n) 3)
    simpa using this
  ·refine ⟨w.heap.size+1+1,⟨w.heap.size+1,n,w.heap.size,n⟩,rfl,?_,(((((Below.refl _ _).alloc (Nat.le_refl _) _).alloc (by simp) _).alloc (by simp;omega) _)).drew⟩
   refine start_fs (c1:=madeCells #[.int .i64 0,.int .u8 0] (n * 2)) (c2:=madeCells #[.int .i64 0] n) ?_ ?_ (by simp [madeCells]) ?_ (by simp [madeCells]) (by omega) (by omega) (Nat.le_refl _) hl
   ·have:=heap_alloc_new ((w.alloc (.cells (madeCells #[.int .i64 0] n) 3)).alloc (.cells (madeCells #[.int .i64 0,.int .u8 0] (n * 2)) 51)) (.cells #[.slice (some ⟨w.heap.size+1,0,none⟩) 0 n,.slice (some ⟨w.heap.size,0,none⟩) 0 n] 68)
    simpa [heap_drew] using this
   ·rw [heap_drew,heap_alloc_old (h:=by simp)]
    have:=heap_alloc_new (w.alloc (.cells (madeCells #[.int .i64 0] n) 3)) (.cells (madeCells #[.int .i64 0,.int .u8 0] (n * 2)) 51)
    simpa using this
   ·rw [heap_drew,heap_alloc_old (h:=by simp;omega),heap_alloc_old (h:=by simp)]
    exact heap_alloc_new w _
 case rest =>
  obtain ⟨B,F,rfl,hs0,hb0⟩:=hcut
  rename World=>w1
  have HS1:Hid (FT w.heap.size w1 B [] F):=hs0
  have HB1:Hid (Below w.heap.size w w1):=hb0
  have hs1:=hb0.size
  clear hs0 hb0 hmk0 hmk1
  go_wp2_with fail
  refine (rules_any _).mono ?_
  rintro en w2 ⟨rfl,hr2,hb2⟩
  have HR2:Hid (Rls w2 (w1.heap.size+1)):=hr2
  have HB2:Hid (Below w1.heap.size w1 w2):=hb2
  clear hr2 hb2
  simp only []
  go_at_K
  rename_i kk1 hk1 kk2 hk2
  refine hk2 _ _ ?_
  refine wpList_plain rfl fun K hK=>?_
  go_simp
  refine hK _ _ ?_
  clear hK K
  refine wpList_store_row rfl 97 _ _ rfl w2.heap.size (tabC (w1.heap.size + 1)) rfl rfl 97 _ (heap_alloc_new w2 _) Tryz.info_rules rfl (tabC_one _) ?_
  rw [World.setRow_alloc_new]
  have HTB:Hid ((w2.alloc (.cells (tabC (w1.heap.size+1)) 97)).heap[w2.heap.size]?=some (.cells (tabC (w1.heap.size+1)) 97 (0,0))):=heap_alloc_new w2 _
  have HB3:Hid (Below w1.heap.size w1 (w2.alloc (.cells (tabC (w1.heap.size+1)) 97))):=HB2.out.alloc HB2.out.size _
  have HR3:Hid (Rls (w2.alloc (.cells (tabC (w1.heap.size+1)) 97)) (w1.heap.size+1)):=HR2.out.stay ((Below.refl _ _).alloc (Nat.le_refl _) _)
  generalize w2.alloc (.cells (tabC (w1.heap.size + 1)) 97) = w3 at HTB HB3 HR3 ⊢
  obtain ⟨tb,htb⟩:∃ tb,w2.heap.size=tb:=⟨_,rfl⟩
  obtain ⟨b,hb⟩:∃ b,w1.heap.size+1=b:=⟨_,rfl⟩
  rw [htb] at HTB ⊢
  rw [hb] at HTB HR3 ⊢
  have HFN:Hid (B<b∧F.nb<b∧F.sb<b):=by
   have h1:=HS1.out.lt
   have h2:=HS1.out.lts
   exact ⟨by omega,by omega,by omega⟩
  clear htb hb HR2 HB2
  apply wpList_nil
  go_wp2_with fail
  go_loopw [19] (fun v19 wr=>∃ (i:Nat) (s:List Tr) (F':Fb),i≤n∧v19=.int .i64 (i:Int)∧runR (T.flat.drop i) s=some [T]∧Oks s∧sumS s=i∧FT w.heap.size wr B (nrmS s) F'∧wr.heap[tb]?=some (.cells (tabC b) 97 (0,0))∧Rls wr b∧(F'.nb<b∨b+3≤F'.nb)∧(F'.sb<b∨b+3≤F'.sb)∧Below w.heap.size w wr) (fun v19 _=>n - (intOf v19).toNat)
  case atStart=>exact ⟨0,[],F,Nat.zero_le _,rfl,by rw [List.drop_zero,← List.append_nil T.flat,run_flat T HO.out];rfl,fun m hm=>by simp at hm,rfl,HS1.out.stay HB3.out,HTB.out,HR3.out,.inl HFN.out.2.1,.inl HFN.out.2.2,HB1.out.trans (HB3.out.mono hs1)⟩
  case round =>
   clear HTB HR3 HB3 HS1 HB1
   obtain ⟨i,s,F',hi,rfl,hrun,hoks,hsum,hft,htbl,hrls,hnb,hsb,hbl⟩:=hrel
   have HRUN:Hid (runR (T.flat.drop i) s=some [T]):=hrun
   have HOKS:Hid (Oks s):=hoks
   have HSUM:Hid (sumS s=i):=hsum
   have HFT:Hid (FT w.heap.size wr B (nrmS s) F'):=hft
   have HTBL:Hid (wr.heap[tb]?=some (.cells (tabC b) 97 (0,0))):=htbl
   have HRLS:Hid (Rls wr b):=hrls
   have HNB:Hid ((F'.nb<b∨b+3≤F'.nb)∧(F'.sb<b∨b+3≤F'.sb)):=⟨hnb,hsb⟩
   have HBL:Hid (Below w.heap.size w wr):=hbl
   clear hrun hoks hsum hft htbl hrls hnb hsb hbl
   by_cases hlt : i < n
   ·have hltI:(i:Int)<n:=by omega
    have hiT:i<T.flat.length:=by rw [HN.out];exact hlt
    obtain ⟨⟨kd,sg⟩,hnd⟩:∃ z,T.flat[i]=z:=⟨_,rfl⟩
    have hgd:T.flat.getD i (0,0)=(kd,sg):=by rw [List.getD_eq_getElem?_getD,List.getElem?_eq_getElem hiT,hnd];rfl
    have hgood:good (kd,sg)=true:=flat_good HO.out _ (by rw [← hnd];exact List.getElem_mem _)
    have hdr:T.flat.drop i=(kd,sg) :: T.flat.drop (i+1):=by rw [List.drop_eq_getElem_cons hiT,hnd]
    obtain ⟨s',hst,hrun'⟩:∃ s',stepR (kd,sg) s=some s'∧runR (T.flat.drop (i+1)) s'=some [T]:=by
     have h1:=HRUN.out
     rw [hdr,runR] at h1
     cases hs:stepR (kd,sg) s with
     | none=>rw [hs] at h1;cases h1
     | some s'=>rw [hs] at h1;exact ⟨s',rfl,h1⟩
    obtain ⟨hoks',hsum'⟩:=step_keeps hgood HOKS.out hst
    have HRUN':Hid (runR (T.flat.drop (i+1)) s'=some [T]):=hrun'
    have HOKS':Hid (Oks s'):=hoks'
    have HSUM':Hid (sumS s'=i+1):=by show _=_;rw [hsum',HSUM.out]
    have HST:Hid (stepR (kd,sg) s=some s'):=hst
    have HGOOD:Hid (good (kd,sg)=true):=hgood
    have HLEN:Hid ((flatL (nrmS s)).length≤8001):=by
     show _ ≤ _
     have:=nrmS_len HOKS.out
     rw [HSUM.out] at this
     omega
    obtain ⟨g,o,rfl,hg,n1,n2⟩:=HRD.out i hlt
    rw [hgd] at n1 n2
    have hglt:g<wr.heap.size:=Nat.lt_of_lt_of_le hg HBL.out.size
    have m1:wr.cell? ⟨g,o+i * 2,none⟩=some (.int .i64 kd):=(World.cell?_of_block (a:=⟨g,o+i * 2,none⟩) (HBL.out.block g hg)).trans n1
    have m2:wr.cell? ⟨g,o+i * 2+1,none⟩=some (.int .u8 sg):=(World.cell?_of_block (a:=⟨g,o+i * 2+1,none⟩) (HBL.out.block g hg)).trans n2
    have hkd:=good_kind hgood
    have htl:tb<wr.heap.size:=(Array.getElem?_eq_some_iff.1 HTBL.out).1
    have TC:Hid (∀ j,wr.cell? ⟨tb,j,none⟩=(tabC b)[j]?):=fun j=>cell_of_row wr tb j _ _ _ HTBL.out
    clear hnd hgd hdr hst hrun' hoks' hsum' hgood n1 n2
    -- what every round ends in
    have FIN:Hid (∀ {w9:World} {F9:Fb},FG wr w9 B F' F9→FT w.heap.size w9 B (nrmS s') F9→∃ (i':Nat) (s:List Tr) (F':Fb),i'≤n∧Value.int .i64 ((i:Int)+1)=.int .i64 (i':Int)∧runR (T.flat.drop i') s=some [T]∧Oks s∧sumS s=i'∧FT w.heap.size w9 B (nrmS s) F'∧w9.heap[tb]?=some (.cells (tabC b) 97 (0,0))∧Rls w9 b∧(F'.nb<b∨b+3≤F'.nb)∧(F'.sb<b∨b+3≤F'.sb)∧Below w.heap.size w w9):=fun {w9 F9} hg9 hf9=>by
     obtain ⟨r1,r2,r3,r4⟩:=next_rel HFT.out hg9 HTBL.out HRLS.out HNB.out HFN.out.1 HBL.out (Nat.le_refl _)
     exact ⟨i+1,s',F9,by omega,by go_num,HRUN'.out,HOKS'.out,HSUM'.out,hf9,r1,r2,r3.1,r3.2,r4⟩
    by_cases hk4 : kd ≤ 4
    ·have HS4:Hid (s'=.zero (kd,sg) :: s):=by
      have:=HST.out
      unfold stepR at this
      rw [if_pos (by unfold arity;rw [if_neg (by omega),if_neg (by omega)])] at this
      show s' = _
      simpa using this.symm
     have HNS:Hid (nrmS s'=nrmS s ++ [.zero (kd,sg)]):=by show _=_;rw [HS4.out,nrmS_cons];rfl
     have t2:wr.cell? ⟨tb,kd.toNat * 3+2,none⟩=some .nilFunc:=by
      have hc:kd=1∨kd=2∨kd=3∨kd=4:=by omega
      rw [TC.out]
      rcases hc with rfl | rfl | rfl | rfl <;> rfl
     have t0:wr.cell? ⟨tb,kd.toNat * 3,none⟩=some (.slice none 0 0):=by
      have hc:kd=1∨kd=2∨kd=3∨kd=4:=by omega
      rw [TC.out]
      rcases hc with rfl | rfl | rfl | rfl <;> rfl
     have t1:wr.cell? ⟨tb,kd.toNat * 3+1,none⟩=some (.slice none 0 0):=by
      have hc:kd=1∨kd=2∨kd=3∨kd=4:=by omega
      rw [TC.out]
      rcases hc with rfl | rfl | rfl | rfl <;> rfl
     obtain ⟨kn,rfl⟩:∃ kn:Nat,kd=(kn:Int):=⟨kd.toNat,by omega⟩
     simp only [Int.toNat_natCast] at t0 t1 t2
     have hkn:kn<10:=by omega
     have hen:=eql_nil
     have HB2:Hid (Below wr.heap.size wr ((wr.alloc (.cells #[.int .i64 (kn:Int),.int .u8 sg] 51)).alloc (.cells #[.slice none 0 0,.slice none 0 0,.nilFunc] 96))):=((Below.refl _ _).alloc (Nat.le_refl _) _).alloc (by simp) _
     go_wp2_with fail
     refine (put0 (HFT.out.stay HB2.out) ((kn:Int),sg) (by have:=HLEN.out;omega)).mono ?_
     rintro en w9 ⟨rfl,F9,hs9,hg9⟩
     have HF9:Hid (FT w.heap.size w9 B (nrmS s') F9):=by show FT _ _ _ _ _;rw [HNS.out];exact hs9
     have HG9:Hid (FG wr w9 B F' F9):=(FG.of HB2.out).trans hg9
     clear hs9 hg9 HB2 hen t0 t1 t2 m1 m2
     go_wp2_with fail
     go_roundw
     case rel=>exact FIN.out HG9.out HF9.out
     case measure=>simp [intOf];omega
    ·by_cases hk8 : 8 ≤ kd
     ·obtain ⟨x,s0,hs0⟩:∃ x s0,s=x :: s0:=by
       have:=HST.out
       unfold stepR at this
       rw [if_neg (by unfold arity;rw [if_neg (by omega),if_pos (by omega)];decide),if_pos (by unfold arity;rw [if_neg (by omega),if_pos (by omega)])] at this
       cases s with
       | nil=>cases this
       | cons x s0=>exact ⟨x,s0,rfl⟩
      subst hs0
      have HS1:Hid (s'=.one (kd,sg) x :: s0):=by
       have:=HST.out
       unfold stepR at this
       rw [if_neg (by unfold arity;rw [if_neg (by omega),if_pos (by omega)];decide),if_pos (by unfold arity;rw [if_neg (by omega),if_pos (by omega)])] at this
       show s' = _
       simpa using this.symm
      have HOX:Hid ((nrm x).ok∧NF (nrm x)):=nrm_ok (HOKS.out x (by simp))
      have HFX:Hid (FT w.heap.size wr B (nrmS s0 ++ [nrm x]) F'):=by show FT _ _ _ _ _;rw [← nrmS_cons];exact HFT.out
      have HLX:Hid ((flatL (nrmS s0 ++ [nrm x])).length≤8001):=by show _≤_;rw [← nrmS_cons];exact HLEN.out
      have hc:kd=8∨kd=9:=by omega
      clear hk4 hk8 hkd
      rcases hc with rfl | rfl
      ·have HNS:Hid (nrmS s'=nrmS s0 ++ [RS (nrm x)]):=by
        show _ = _
        rw [HS1.out,nrmS_cons]
        rfl
       have t0:wr.cell? ⟨tb,24,none⟩=some (.slice none 0 0):=by rw [TC.out];rfl
       have t1:wr.cell? ⟨tb,25,none⟩=some (.slice none 0 0):=by rw [TC.out];rfl
       have t2:wr.cell? ⟨tb,26,none⟩=some (.func (.func 85) #[] #[]):=by rw [TC.out];rfl
       have hen:=eql_fn
       have HB2:Hid (Below wr.heap.size wr ((wr.alloc (.cells #[.int .i64 8,.int .u8 sg] 51)).alloc (.cells #[.slice none 0 0,.slice none 0 0,.func (.func 85) #[] #[]] 96))):=((Below.refl _ _).alloc (Nat.le_refl _) _).alloc (by simp) _
       have HR9:Hid (((wr.alloc (.cells #[.int .i64 8,.int .u8 sg] 51)).alloc (.cells #[.slice none 0 0,.slice none 0 0,.func (.func 85) #[] #[]] 96)).heap[wr.heap.size+1]?=some (.cells #[.slice none 0 0,.slice none 0 0,.func (.func 85) #[] #[]] 96 (0,0))):=by
        have:=heap_alloc_new (wr.alloc (.cells #[.int .i64 8,.int .u8 sg] 51)) (.cells #[.slice none 0 0,.slice none 0 0,.func (.func 85) #[] #[]] 96)
        show _ = _
        simpa using this
       go_wp2_with fail
       generalize (wr.alloc (.cells #[.int .i64 8,.int .u8 sg] 51)).alloc (.cells #[.slice none 0 0,.slice none 0 0,.func (.func 85) #[] #[]] 96)=w5 at HB2 HR9 ⊢
       refine (settles_nil B _ _).mono ?_
       rintro en w6 ⟨rfl,hb6⟩
       have HB6:Hid (Below wr.heap.size wr w6):=go_on HB2.out hb6
       have hr6:w6.heap[wr.heap.size+1]?=some (.cells #[.slice none 0 0,.slice none 0 0,.func (.func 85) #[] #[]] 96 (0,0)):=(hb6.block _ (Array.getElem?_eq_some_iff.1 HR9.out).1).trans HR9.out
       have c2:w6.cell? ⟨wr.heap.size+1,2,none⟩=some (.func (.func 85) #[] #[]):=by simp [World.cell?,hr6]
       clear hb6 hr6 HR9 HB2
       go_wp2_with fail
       refine (star_any (pre:=nrmS s0) (x:=nrm x) (HFX.out.stay HB6.out) HOX.out.1 (by have:=HLX.out;omega)).mono ?_
       rintro en w9 ⟨rfl,F9,hs9,hg9⟩
       have HF9:Hid (FT w.heap.size w9 B (nrmS s') F9):=by show FT _ _ _ _ _;rw [HNS.out];exact hs9
       have HG9:Hid (FG wr w9 B F' F9):=(FG.of HB6.out).trans hg9
       clear hs9 hg9 HB6 hen t0 t1 t2 m1 m2 c2
       go_wp2_with fail
       go_roundw
       case rel=>exact FIN.out HG9.out HF9.out
       case measure=>simp [intOf];omega
      ·have HNS:Hid (nrmS s'=nrmS s0 ++ [RN (nrm x)]):=by
        show _ = _
        rw [HS1.out,nrmS_cons]
        rfl
       have t0:wr.cell? ⟨tb,27,none⟩=some (.slice none 0 0):=by rw [TC.out];rfl
       have t1:wr.cell? ⟨tb,28,none⟩=some (.slice none 0 0):=by rw [TC.out];rfl
       have t2:wr.cell? ⟨tb,29,none⟩=some (.func (.func 86) #[] #[]):=by rw [TC.out];rfl
       have hen:=eql_fn
       have HB2:Hid (Below wr.heap.size wr ((wr.alloc (.cells #[.int .i64 9,.int .u8 sg] 51)).alloc (.cells #[.slice none 0 0,.slice none 0 0,.func (.func 86) #[] #[]] 96))):=((Below.refl _ _).alloc (Nat.le_refl _) _).alloc (by simp) _
       have HR9:Hid (((wr.alloc (.cells #[.int .i64 9,.int .u8 sg] 51)).alloc (.cells #[.slice none 0 0,.slice none 0 0,.func (.func 86) #[] #[]] 96)).heap[wr.heap.size+1]?=some (.cells #[.slice none 0 0,.slice none 0 0,.func (.func 86) #[] #[]] 96 (0,0))):=by
        have:=heap_alloc_new (wr.alloc (.cells #[.int .i64 9,.int .u8 sg] 51)) (.cells #[.slice none 0 0,.slice none 0 0,.func (.func 86) #[] #[]] 96)
        show _ = _
        simpa using this
       go_wp2_with fail
       generalize (wr.alloc (.cells #[.int .i64 9,.int .u8 sg] 51)).alloc (.cells #[.slice none 0 0,.slice none 0 0,.func (.func 86) #[] #[]] 96)=w5 at HB2 HR9 ⊢
       refine (settles_nil B _ _).mono ?_
       rintro en w6 ⟨rfl,hb6⟩
       have HB6:Hid (Below wr.heap.size wr w6):=go_on HB2.out hb6
       have hr6:w6.heap[wr.heap.size+1]?=some (.cells #[.slice none 0 0,.slice none 0 0,.func (.func 86) #[] #[]] 96 (0,0)):=(hb6.block _ (Array.getElem?_eq_some_iff.1 HR9.out).1).trans HR9.out
       have c2:w6.cell? ⟨wr.heap.size+1,2,none⟩=some (.func (.func 86) #[] #[]):=by simp [World.cell?,hr6]
       clear hb6 hr6 HR9 HB2
       go_wp2_with fail
       refine (not_any (pre:=nrmS s0) (x:=nrm x) (HFX.out.stay HB6.out) HOX.out.1 (by have:=HLX.out;omega)).mono ?_
       rintro en w9 ⟨rfl,F9,hs9,hg9⟩
       have HF9:Hid (FT w.heap.size w9 B (nrmS s') F9):=by show FT _ _ _ _ _;rw [HNS.out];exact hs9
       have HG9:Hid (FG wr w9 B F' F9):=(FG.of HB6.out).trans hg9
       clear hs9 hg9 HB6 hen t0 t1 t2 m1 m2 c2
       go_wp2_with fail
       go_roundw
       case rel=>exact FIN.out HG9.out HF9.out
       case measure=>simp [intOf];omega
     ·obtain ⟨y,x,s0,hs0⟩:∃ y x s0,s=y :: x :: s0:=by
       have:=HST.out
       unfold stepR at this
       rw [if_neg (by unfold arity;rw [if_pos (by omega)];decide),if_neg (by unfold arity;rw [if_pos (by omega)];decide)] at this
       match s,this with
       | y :: x :: s0,_=>exact ⟨y,x,s0,rfl⟩
      subst hs0
      have HS2:Hid (s'=.two (kd,sg) x y :: s0):=by
       have:=HST.out
       unfold stepR at this
       rw [if_neg (by unfold arity;rw [if_pos (by omega)];decide),if_neg (by unfold arity;rw [if_pos (by omega)];decide)] at this
       show s' = _
       simpa using this.symm
      have HOY:Hid ((nrm x).ok∧(nrm y).ok):=⟨(nrm_ok (HOKS.out x (by simp))).1,(nrm_ok (HOKS.out y (by simp))).1⟩
      have HFY:Hid (FT w.heap.size wr B (nrmS s0 ++ [nrm x,nrm y]) F'):=by show FT _ _ _ _ _;rw [← nrmS_two];exact HFT.out
      have HLY:Hid ((flatL (nrmS s0 ++ [nrm x,nrm y])).length≤8001):=by show _≤_;rw [← nrmS_two];exact HLEN.out
      have hc:kd=5∨kd=6∨kd=7:=by omega
      clear hk4 hk8 hkd
      rcases hc with rfl | rfl | rfl
      ·have HNS:Hid (nrmS s'=nrmS s0 ++ [R2 5 (nrm x) (nrm y)]):=by
        show _ = _
        rw [HS2.out,nrmS_cons]
        rfl
       have HRR:Hid (R2 5 (nrm x) (nrm y)=if nrm x=tAll∨nrm y=tNone then nrm x else if nrm y=tAll∨nrm x=tNone then nrm y else if (nrm y).root.1≠5∧Lt (grt 5 (nrm x)) (nrm y) then .two (5,0) (nrm x) (nrm y) else build 5 (mrg (spine 5 (nrm x)) (spine 5 (nrm y)))):=rfl
       have t0:wr.cell? ⟨tb,15,none⟩=some (.slice (some ⟨b,0,none⟩) 1 1):=by rw [TC.out];rfl
       have t1:wr.cell? ⟨tb,16,none⟩=some (.slice (some ⟨b+2,0,none⟩) 2 2):=by rw [TC.out];rfl
       have t2:wr.cell? ⟨tb,17,none⟩=some (.func (.func 81) #[] #[]):=by rw [TC.out];rfl
       have hen:=eql_fn
       have HB2:Hid (Below wr.heap.size wr ((wr.alloc (.cells #[.int .i64 5,.int .u8 sg] 51)).alloc (.cells #[.slice (some ⟨b,0,none⟩) 1 1,.slice (some ⟨b+2,0,none⟩) 2 2,.func (.func 81) #[] #[]] 96))):=((Below.refl _ _).alloc (Nat.le_refl _) _).alloc (by simp) _
       have HR9:Hid (((wr.alloc (.cells #[.int .i64 5,.int .u8 sg] 51)).alloc (.cells #[.slice (some ⟨b,0,none⟩) 1 1,.slice (some ⟨b+2,0,none⟩) 2 2,.func (.func 81) #[] #[]] 96)).heap[wr.heap.size+1]?=some (.cells #[.slice (some ⟨b,0,none⟩) 1 1,.slice (some ⟨b+2,0,none⟩) 2 2,.func (.func 81) #[] #[]] 96 (0,0))):=by
        have:=heap_alloc_new (wr.alloc (.cells #[.int .i64 5,.int .u8 sg] 51)) (.cells #[.slice (some ⟨b,0,none⟩) 1 1,.slice (some ⟨b+2,0,none⟩) 2 2,.func (.func 81) #[] #[]] 96)
        show _ = _
        simpa using this
       go_wp2_with fail
       generalize (wr.alloc (.cells #[.int .i64 5,.int .u8 sg] 51)).alloc (.cells #[.slice (some ⟨b,0,none⟩) 1 1,.slice (some ⟨b+2,0,none⟩) 2 2,.func (.func 81) #[] #[]] 96)=w5 at HB2 HR9 ⊢
       refine (settles_any (U:=tNone) (O:=tAll) (HFY.out.stay HB2.out) HOY.out.1 HOY.out.2 tNone_ok tAll_ok _ _ _ _ _ (rls_none (HRLS.out.stay HB2.out)) (rls_all (HRLS.out.stay HB2.out)) (by decide)).mono ?_
       rintro en w6 ⟨rfl,F6,hs6,hg6⟩
       have hr6:w6.heap[wr.heap.size+1]?=some (.cells #[.slice (some ⟨b,0,none⟩) 1 1,.slice (some ⟨b+2,0,none⟩) 2 2,.func (.func 81) #[] #[]] 96 (0,0)):=hg6.other (HFY.out.stay HB2.out).raw HR9.out (by decide) (by decide) (by decide)
       have c2:w6.cell? ⟨wr.heap.size+1,2,none⟩=some (.func (.func 81) #[] #[]):=by simp [World.cell?,hr6]
       have HG6:Hid (FG wr w6 B F' F6):=(FG.of HB2.out).trans hg6
       by_cases hd : (nrm x = tAll ∨ nrm y = tNone) ∨ (nrm y = tAll ∨ nrm x = tNone)
       ·have HF6:Hid (FT w.heap.size w6 B (nrmS s') F6):=by
         show FT _ _ _ _ _
         rw [HNS.out,HRR.out]
         by_cases h1 : nrm x = tAll ∨ nrm y = tNone
         ·rw [if_pos h1] at hs6 ⊢
          exact hs6
         ·have h2:=hd.resolve_left h1
          rw [if_neg h1,if_pos h2] at hs6 ⊢
          exact hs6
        rw [decide_eq_true hd]
        clear hd hs6 hg6 hr6 HR9 HB2 t0 t1 t2 m1 m2
        go_wp2_with fail
        go_roundw
        case rel=>exact FIN.out HG6.out HF6.out
        case measure=>simp [intOf];omega
       ·have HRR2:Hid (R2 5 (nrm x) (nrm y)=if (nrm y).root.1≠5∧Lt (grt 5 (nrm x)) (nrm y) then .two (5,0) (nrm x) (nrm y) else build 5 (mrg (spine 5 (nrm x)) (spine 5 (nrm y)))):=by
         show _ = _
         rw [HRR.out,if_neg (fun h=>hd (.inl h)),if_neg (fun h=>hd (.inr h))]
        have HF6:Hid (FT w.heap.size w6 B (nrmS s0 ++ [nrm x,nrm y]) F6):=by
         show FT _ _ _ _ _
         rw [if_neg (fun h=>hd (.inl h)),if_neg (fun h=>hd (.inr h))] at hs6
         exact hs6
        rw [decide_eq_false hd]
        clear hd hs6 hg6 hr6 HR9 HB2 t0 t1 t2 m1 m2
        go_wp2_with fail
        refine (rules1_any HF6.out HOY.out.1 HOY.out.2 (by have:=HLY.out;omega)).mono ?_
        rintro en w9 ⟨rfl,F9,hs9,hg9⟩
        have HF9:Hid (FT w.heap.size w9 B (nrmS s') F9):=by show FT _ _ _ _ _;rw [HNS.out,HRR2.out];exact hs9
        have HG9:Hid (FG wr w9 B F' F9):=HG6.out.trans hg9
        clear hs9 hg9 hen c2
        go_wp2_with fail
        go_roundw
        case rel=>exact FIN.out HG9.out HF9.out
        case measure=>simp [intOf];omega
      ·have HNS:Hid (nrmS s'=nrmS s0 ++ [R2 6 (nrm x) (nrm y)]):=by
        show _ = _
        rw [HS2.out,nrmS_cons]
        rfl
       have HRR:Hid (R2 6 (nrm x) (nrm y)=if nrm x=tNone∨nrm y=tAll then nrm x else if nrm y=tNone∨nrm x=tAll then nrm y else if (nrm y).root.1≠6∧Lt (grt 6 (nrm x)) (nrm y) then .two (6,0) (nrm x) (nrm y) else build 6 (mrg (spine 6 (nrm x)) (spine 6 (nrm y)))):=rfl
       have t0:wr.cell? ⟨tb,18,none⟩=some (.slice (some ⟨b+2,0,none⟩) 2 2):=by rw [TC.out];rfl
       have t1:wr.cell? ⟨tb,19,none⟩=some (.slice (some ⟨b,0,none⟩) 1 1):=by rw [TC.out];rfl
       have t2:wr.cell? ⟨tb,20,none⟩=some (.func (.func 83) #[] #[]):=by rw [TC.out];rfl
       have hen:=eql_fn
       have HB2:Hid (Below wr.heap.size wr ((wr.alloc (.cells #[.int .i64 6,.int .u8 sg] 51)).alloc (.cells #[.slice (some ⟨b+2,0,none⟩) 2 2,.slice (some ⟨b,0,none⟩) 1 1,.func (.func 83) #[] #[]] 96))):=((Below.refl _ _).alloc (Nat.le_refl _) _).alloc (by simp) _
       have HR9:Hid (((wr.alloc (.cells #[.int .i64 6,.int .u8 sg] 51)).alloc (.cells #[.slice (some ⟨b+2,0,none⟩) 2 2,.slice (some ⟨b,0,none⟩) 1 1,.func (.func 83) #[] #[]] 96)).heap[wr.heap.size+1]?=some (.cells #[.slice (some ⟨b+2,0,none⟩) 2 2,.slice (some ⟨b,0,none⟩) 1 1,.func (.func 83) #[] #[]] 96 (0,0))):=by
        have:=heap_alloc_new (wr.alloc (.cells #[.int .i64 6,.int .u8 sg] 51)) (.cells #[.slice (some ⟨b+2,0,none⟩) 2 2,.slice (some ⟨b,0,none⟩) 1 1,.func (.func 83) #[] #[]] 96)
        show _ = _
        simpa using this
       go_wp2_with fail
       generalize (wr.alloc (.cells #[.int .i64 6,.int .u8 sg] 51)).alloc (.cells #[.slice (some ⟨b+2,0,none⟩) 2 2,.slice (some ⟨b,0,none⟩) 1 1,.func (.func 83) #[] #[]] 96)=w5 at HB2 HR9 ⊢
       refine (settles_any (U:=tAll) (O:=tNone) (HFY.out.stay HB2.out) HOY.out.1 HOY.out.2 tAll_ok tNone_ok _ _ _ _ _ (rls_all (HRLS.out.stay HB2.out)) (rls_none (HRLS.out.stay HB2.out)) (by decide)).mono ?_
       rintro en w6 ⟨rfl,F6,hs6,hg6⟩
       have hr6:w6.heap[wr.heap.size+1]?=some (.cells #[.slice (some ⟨b+2,0,none⟩) 2 2,.slice (some ⟨b,0,none⟩) 1 1,.func (.func 83) #[] #[]] 96 (0,0)):=hg6.other (HFY.out.stay HB2.out).raw HR9.out (by decide) (by decide) (by decide)
       have c2:w6.cell? ⟨wr.heap.size+1,2,none⟩=some (.func (.func 83) #[] #[]):=by simp [World.cell?,hr6]
       have HG6:Hid (FG wr w6 B F' F6):=(FG.of HB2.out).trans hg6
       by_cases hd : (nrm x = tNone ∨ nrm y = tAll) ∨ (nrm y = tNone ∨ nrm x = tAll)
       ·have HF6:Hid (FT w.heap.size w6 B (nrmS s') F6):=by
         show FT _ _ _ _ _
         rw [HNS.out,HRR.out]
         by_cases h1 : nrm x = tNone ∨ nrm y = tAll
         ·rw [if_pos h1] at hs6 ⊢
          exact hs6
         ·have h2:=hd.resolve_left h1
          rw [if_neg h1,if_pos h2] at hs6 ⊢
          exact hs6
        rw [decide_eq_true hd]
        clear hd hs6 hg6 hr6 HR9 HB2 t0 t1 t2 m1 m2
        go_wp2_with fail
        go_roundw
        case rel=>exact FIN.out HG6.out HF6.out
        case measure=>simp [intOf];omega
       ·have HRR2:Hid (R2 6 (nrm x) (nrm y)=if (nrm y).root.1≠6∧Lt (grt 6 (nrm x)) (nrm y) then .two (6,0) (nrm x) (nrm y) else build 6 (mrg (spine 6 (nrm x)) (spine 6 (nrm y)))):=by
         show _ = _
         rw [HRR.out,if_neg (fun h=>hd (.inl h)),if_neg (fun h=>hd (.inr h))]
        have HF6:Hid (FT w.heap.size w6 B (nrmS s0 ++ [nrm x,nrm y]) F6):=by
         show FT _ _ _ _ _
         rw [if_neg (fun h=>hd (.inl h)),if_neg (fun h=>hd (.inr h))] at hs6
         exact hs6
        rw [decide_eq_false hd]
        clear hd hs6 hg6 hr6 HR9 HB2 t0 t1 t2 m1 m2
        go_wp2_with fail
        refine (rules2_any HF6.out HOY.out.1 HOY.out.2 (by have:=HLY.out;omega)).mono ?_
        rintro en w9 ⟨rfl,F9,hs9,hg9⟩
        have HF9:Hid (FT w.heap.size w9 B (nrmS s') F9):=by show FT _ _ _ _ _;rw [HNS.out,HRR2.out];exact hs9
        have HG9:Hid (FG wr w9 B F' F9):=HG6.out.trans hg9
        clear hs9 hg9 hen c2
        go_wp2_with fail
        go_roundw
        case rel=>exact FIN.out HG9.out HF9.out
        case measure=>simp [intOf];omega
      ·have HNS:Hid (nrmS s'=nrmS s0 ++ [RC (nrm x) (nrm y)]):=by
        show _ = _
        rw [HS2.out,nrmS_cons]
        rfl
       have HRR:Hid (RC (nrm x) (nrm y)=if nrm x=tNone∨nrm y=tEmpty then nrm x else if nrm y=tNone∨nrm x=tEmpty then nrm y else (conc (nrm x)).foldr cj (nrm y)):=rfl
       have t0:wr.cell? ⟨tb,21,none⟩=some (.slice (some ⟨b+1,0,none⟩) 1 1):=by rw [TC.out];rfl
       have t1:wr.cell? ⟨tb,22,none⟩=some (.slice (some ⟨b,0,none⟩) 1 1):=by rw [TC.out];rfl
       have t2:wr.cell? ⟨tb,23,none⟩=some (.func (.func 84) #[] #[]):=by rw [TC.out];rfl
       have hen:=eql_fn
       have HB2:Hid (Below wr.heap.size wr ((wr.alloc (.cells #[.int .i64 7,.int .u8 sg] 51)).alloc (.cells #[.slice (some ⟨b+1,0,none⟩) 1 1,.slice (some ⟨b,0,none⟩) 1 1,.func (.func 84) #[] #[]] 96))):=((Below.refl _ _).alloc (Nat.le_refl _) _).alloc (by simp) _
       have HR9:Hid (((wr.alloc (.cells #[.int .i64 7,.int .u8 sg] 51)).alloc (.cells #[.slice (some ⟨b+1,0,none⟩) 1 1,.slice (some ⟨b,0,none⟩) 1 1,.func (.func 84) #[] #[]] 96)).heap[wr.heap.size+1]?=some (.cells #[.slice (some ⟨b+1,0,none⟩) 1 1,.slice (some ⟨b,0,none⟩) 1 1,.func (.func 84) #[] #[]] 96 (0,0))):=by
        have:=heap_alloc_new (wr.alloc (.cells #[.int .i64 7,.int .u8 sg] 51)) (.cells #[.slice (some ⟨b+1,0,none⟩) 1 1,.slice (some ⟨b,0,none⟩) 1 1,.func (.func 84) #[] #[]] 96)
        show _ = _
        simpa using this
       go_wp2_with fail
       generalize (wr.alloc (.cells #[.int .i64 7,.int .u8 sg] 51)).alloc (.cells #[.slice (some ⟨b+1,0,none⟩) 1 1,.slice (some ⟨b,0,none⟩) 1 1,.func (.func 84) #[] #[]] 96)=w5 at HB2 HR9 ⊢
       refine (settles_any (U:=tEmpty) (O:=tNone) (HFY.out.stay HB2.out) HOY.out.1 HOY.out.2 tEmpty_ok tNone_ok _ _ _ _ _ (rls_empty (HRLS.out.stay HB2.out)) (rls_none (HRLS.out.stay HB2.out)) (by decide)).mono ?_
       rintro en w6 ⟨rfl,F6,hs6,hg6⟩
       have hr6:w6.heap[wr.heap.size+1]?=some (.cells #[.slice (some ⟨b+1,0,none⟩) 1 1,.slice (some ⟨b,0,none⟩) 1 1,.func (.func 84) #[] #[]] 96 (0,0)):=hg6.other (HFY.out.stay HB2.out).raw HR9.out (by decide) (by decide) (by decide)
       have c2:w6.cell? ⟨wr.heap.size+1,2,none⟩=some (.func (.func 84) #[] #[]):=by simp [World.cell?,hr6]
       have HG6:Hid (FG wr w6 B F' F6):=(FG.of HB2.out).trans hg6
       by_cases hd : (nrm x = tNone ∨ nrm y = tEmpty) ∨ (nrm y = tNone ∨ nrm x = tEmpty)
       ·have HF6:Hid (FT w.heap.size w6 B (nrmS s') F6):=by
         show FT _ _ _ _ _
         rw [HNS.out,HRR.out]
         by_cases h1 : nrm x = tNone ∨ nrm y = tEmpty
         ·rw [if_pos h1] at hs6 ⊢
          exact hs6
         ·have h2:=hd.resolve_left h1
          rw [if_neg h1,if_pos h2] at hs6 ⊢
          exact hs6
        rw [decide_eq_true hd]
        clear hd hs6 hg6 hr6 HR9 HB2 t0 t1 t2 m1 m2
        go_wp2_with fail
        go_roundw
        case rel=>exact FIN.out HG6.out HF6.out
        case measure=>simp [intOf];omega
       ·have HRR2:Hid (RC (nrm x) (nrm y)=(conc (nrm x)).foldr cj (nrm y)):=by
         show _ = _
         rw [HRR.out,if_neg (fun h=>hd (.inl h)),if_neg (fun h=>hd (.inr h))]
        have HF6:Hid (FT w.heap.size w6 B (nrmS s0 ++ [nrm x,nrm y]) F6):=by
         show FT _ _ _ _ _
         rw [if_neg (fun h=>hd (.inl h)),if_neg (fun h=>hd (.inr h))] at hs6
         exact hs6
        rw [decide_eq_false hd]
        clear hd hs6 hg6 hr6 HR9 HB2 t0 t1 t2 m1 m2
        go_wp2_with fail
        refine (concat_any HF6.out HOY.out.1 HOY.out.2 (by have:=HLY.out;omega)).mono ?_
        rintro en w9 ⟨rfl,F9,hs9,hg9⟩
        have HF9:Hid (FT w.heap.size w9 B (nrmS s') F9):=by show FT _ _ _ _ _;rw [HNS.out,HRR2.out];exact hs9
        have HG9:Hid (FG wr w9 B F' F9):=HG6.out.trans hg9
        clear hs9 hg9 hen c2
        go_wp2_with fail
        go_roundw
        case rel=>exact FIN.out HG9.out HF9.out
        case measure=>simp [intOf];omega
   ·obtain rfl:i=n:=by omega
    have hltI:¬ (i:Int)<i:=by omega
    have HEND:Hid (FT w.heap.size wr B [nrm T] F'):=by
     have h1:=HRUN.out
     rw [List.drop_eq_nil_of_le (by rw [HN.out];exact Nat.le_refl _)] at h1
     have h2:s=[T]:=by simpa [runR] using h1
     have h3:=HFT.out
     rw [h2] at h3
     exact h3
    go_wp2_with fail
    go_ret
    have H9:=HEND.out
    have H8:=HBL.out
    exact ⟨B,rfl,⟨F',H9⟩,H8⟩
end Go.Proofs.YtfdhaknecjcjoaaGreatDoor
