/- The document's ends of a tree. The document's Ends, Member, Nullable. The laws' live, in and good of chapter 6. -/
import Derived.Test.YtfdhaknecjcjoaaGreatDoorPGd
import Derived.Test.YtfdhaknecjcjoaaGreatDoorPGc
namespace Go.Proofs.YtfdhaknecjcjoaaGreatDoor
open Go Go.RowKit
set_option linter.unusedVariables false

theorem OwnR.mono {base base':Nat} {w:World} {v:Value} {r:List Nat} (h:OwnR base w v r) (hb:base'≤base):OwnR base' w v r:=⟨own_mono h.own hb⟩
/-- The document's stack. -/
structure Sk (base : Nat) (w : World) (N : Nat) (lv : Value) (st : List RwP) : Prop where
 rows : w.ownsRow base 89 1 lv st.length (st.map Prod.fst)
 rowv:∀ x ∈ st,OwnR base w x.1 x.2∧x.2.length=N
theorem Sk.stay {base : Nat} {w w' : World} {N : Nat} {lv : Value} {st : List RwP} (h : Sk base w N lv st) (hb : Below w.heap.size w w') : Sk base w' N lv st :=
 ⟨own_of_heapK h.rows fun k _ hk=>hb.block k hk,fun x hx=>⟨(h.rowv x hx).1.stay hb,(h.rowv x hx).2⟩⟩
theorem Sk.cell {base:Nat} {w:World} {N:Nat} {a:Option Addr} {n c:Nat} {st:List RwP} (h:Sk base w N (.slice a n c) st) (i:Nat) (x:RwP) (hx:st[i]?=some x):∃ g,a=some ⟨g,0,none⟩∧n=st.length∧n≤c∧base≤g∧g<w.heap.size∧w.cell? ⟨g,i,none⟩=some x.1∧w.frozen? ⟨g,i,none⟩=false:=by
 have hi:i<st.length:=(List.getElem?_eq_some_iff.1 hx).1
 obtain ⟨hl,hh⟩:=id h.rows
 rcases hh with ⟨_,h0⟩ | ⟨g,c',cur,e,_,hcell,hc,_⟩
 ·omega
 ·cases e
  have hlt:=h.rows.lt g rfl
  have hc2:=h.rows.cells (g:=g) rfl i x.1 (by rw [List.getElem?_map,hx];rfl)
  rw [Addr.add_lit,Nat.zero_add] at hc2
  exact ⟨g,rfl,rfl,hc,hlt.1,hlt.2,hc2,by simp [World.frozen?,hcell]⟩
theorem Sk.put {base:Nat} {w:World} {N:Nat} {g n c:Nat} {st0:List RwP} {x:RwP} (h:Sk base w N (.slice (some ⟨g,0,none⟩) n c) (st0 ++ [x])) (m:Nat) (hm:st0.length=m) {u:Value} {r:List Nat} (hu:OwnR base w u r) (hr:r.length=N):Sk base (w.setCell ⟨g,m,none⟩ u) N (.slice (some ⟨g,0,none⟩) n c) (st0 ++ [(u,r)]):=by
 have hn:n=st0.length+1:=by
  obtain ⟨hl,hh⟩:=id h.rows
  rcases hh with ⟨hh,_⟩ | ⟨g',c',cur,e,_⟩
  ·cases hh
  ·cases e;simp
 subst hn
 subst hm
 have h1:=h.rows
 rw [List.length_append,List.length_singleton] at h1
 have keep:∀ {v:Value} {q:List Nat},OwnR base w v q→OwnR base (w.setCell ⟨g,st0.length,none⟩ u) v q:=fun {v q} ho=>⟨own_of_heap ho.own fun b hb=>Below.heap_setCell _ _ _ _ (fun e=>own_apart h.rows ho.own (by decide) g rfl (by have e':b=g:=e;rw [← e'];exact hb))⟩
 refine ⟨?_,fun y hy=>?_⟩
 ·have h2:=(h1.stored st0.length u).1
  rw [List.length_append,List.length_singleton]
  have e:((st0 ++ [x]).map Prod.fst).set st0.length u=(st0 ++ [(u,r)]).map Prod.fst:=by
   rw [List.map_append,List.map_append,List.set_append_right _ _ (by simp)]
   simp
  rw [e] at h2
  exact h2
 ·rcases List.mem_append.1 hy with hy | hy
  ·exact ⟨keep (h.rowv y (by simp [hy])).1,(h.rowv y (by simp [hy])).2⟩
  ·rw [List.mem_singleton] at hy
   subst hy
   exact ⟨keep hu,hr⟩
theorem Sk.push {base : Nat} {w w3 : World} {N : Nat} {lv u : Value} {r : List Nat} {st : List RwP} {g c : Nat} {O : Obj} (h : Sk base w N lv st) (hu : OwnR base w u r) (hr : r.length = N)
  (ho:w3.ownsRow base 89 1 (.slice (some ⟨g,0,none⟩) (st.length+1) c) (st.length+1) (st.map Prod.fst ++ [u])) (hg:(w.alloc O).grownBy w3 lv.ownBlock) (hb:base≤w.heap.size) :
  Sk base w3 N (.slice (some ⟨g,0,none⟩) (st.length+1) c) (st ++ [(u,r)])∧Below base w w3:=by
 have keep:∀ {v:Value} {q:List Nat},OwnR base w v q→OwnR base w3 v q:=fun {v q} hq=>⟨own_of_heap hq.own fun b hb=>by
  rw [hg.block b (by have:=(hq.own.lt b hb).2;simp;omega) (fun e=>own_apart h.rows hq.own (by decide) b e.symm hb),Below.heap_alloc _ _ _ (hq.own.lt b hb).2]⟩
 refine ⟨⟨?_,fun y hy=>?_⟩,?_⟩
 ·rw [List.length_append,List.length_singleton,List.map_append]
  exact ho
 ·rcases List.mem_append.1 hy with hy | hy
  ·exact ⟨keep (h.rowv y hy).1,(h.rowv y hy).2⟩
  ·rw [List.mem_singleton] at hy
   subst hy
   exact ⟨keep hu,hr⟩
 ·exact ((Below.refl _ _).alloc hb _).grown hg (by simp;omega) (fun k hk=>(h.rows.lt k hk).1)
theorem Sk.cut {base:Nat} {w:World} {N:Nat} {g n c m:Nat} {st1:List RwP} {x y:RwP} (h:Sk base w N (.slice (some ⟨g,0,none⟩) n c) (st1 ++ [x] ++ [y])) (hm:st1.length=m):Sk base w N (.slice (some ⟨g,0,none⟩) m c) st1:=by
 subst hm
 refine ⟨?_,fun z hz=>h.rowv z (by simp [hz])⟩
 have hn:n=(st1 ++ [x] ++ [y]).length:=by
  obtain ⟨hl,hh⟩:=id h.rows
  rcases hh with ⟨hh,_⟩ | ⟨g',c',cur,e,_⟩
  ·cases hh
  ·cases e;rfl
 have h1:=h.rows
 rw [← hn] at h1
 have h2:=own_cutS h1 st1.length (by rw [hn];simp)
 have e:((st1 ++ [x] ++ [y]).map Prod.fst).take st1.length=st1.map Prod.fst:=by
  rw [List.append_assoc,List.map_append,List.take_left' (by simp)]
 rw [e] at h2
 exact h2
theorem if_iff {a b:Prop} [Decidable a] [Decidable b] {x y:Nat} (h:a↔b):(if a then x else y)=(if b then x else y):=by
 by_cases e : b
 ·rw [if_pos e,if_pos (h.2 e)]
 ·rw [if_neg e,if_neg (fun q=>e (h.1 q))]
theorem one_row {k sg:Int} (hk:1≤k∧k≤4) {s:ByteArray} {r:List Nat} (hr:r.length=s.size+1) (h:∀ p,p≤s.size→r.getD p 0=oneN (k,sg) s p):RowOk (Lg (.zero (k,sg))) (wl s) r:=by
 refine ⟨by rw [hr,wl_len],fun p hp=>?_⟩
 rw [h p (by rw [wl_len] at hp;exact hp)]
 have hc:k=1∨k=2∨k=3∨k=4:=by omega
 unfold oneN
 rcases hc with rfl | rfl | rfl | rfl
 ·rw [if_neg (by simp),if_neg (by simp)]
  intro q
  simp [Lg]
 ·rw [if_pos rfl]
  exact (ends_empty (wl s) p hp).congr (fun u=>by simp [Lg])
 ·rw [if_neg (show ¬ ((3 : Int) = 2) by decide)]
  have:=ends_letter (wl s) sg p hp
  rw [wl_len] at this
  have e:(p<s.size∧((3:Int)=4∨(3:Int)=3∧(wl s).getD p 0=sg))↔(p<s.size∧(wl s).getD p 0=sg):=by simp
  show EndsOk _ _ _ (if p<s.size∧((3:Int)=4∨(3:Int)=3∧(wl s).getD p 0=sg) then 2 ^ (p+1) else 0)
  rw [if_iff e]
  exact this.congr (fun u=>by simp [Lg])
 ·rw [if_neg (show ¬ ((4 : Int) = 2) by decide)]
  have:=ends_any (wl s) p hp
  rw [wl_len] at this
  have e:(p<s.size∧((4:Int)=4∨(4:Int)=3∧(wl s).getD p 0=sg))↔p<s.size:=by simp
  show EndsOk _ _ _ (if p<s.size∧((4:Int)=4∨(4:Int)=3∧(wl s).getD p 0=sg) then 2 ^ (p+1) else 0)
  rw [if_iff e]
  exact this.congr (fun u=>by simp [Lg])

set_option maxHeartbeats 8000000 in
set_option maxRecDepth 100000 in
theorem rall6_any {w:World} {v:Value} {s:ByteArray} (hs:s.size≤511) {t:Tr} (ht:t.ok) (hgd:∀ n ∈ t.flat,good n=true) (hl:t.flat.length≤4000) (hN:NReads w v t.flat) :
  Calls Tryz.prog 50 #[v,.string s] w fun e w'=>∃ u,e=.returned u∧∃ r,OwnR w.heap.size w' u r∧RowOk (Lg t) (wl s) r∧Below w.heap.size w w':=by
 have HN:Hid (NReads w v t.flat):=hN
 obtain ⟨a,cap,rfl,hnr⟩:=hN
 obtain ⟨i0,hi0,hz0,hz1,hz2⟩:=info_parts Tryz.info_rows
 have HRUN:Hid (runR t.flat []=some [t]):=by
  show runR t.flat [] = some [t]
  have:=run_flat t ht [] []
  rw [List.append_nil] at this
  exact this
 have HGD:Hid (∀ n ∈ t.flat,good n=true):=hgd
 obtain ⟨L,hL⟩:∃ L,t.flat.length=L:=⟨_,rfl⟩
 have HL:Hid (t.flat.length=L):=hL
 rw [hL] at HN hl ⊢
 obtain ⟨N,hNN⟩:∃ N,s.size+1=N:=⟨_,rfl⟩
 have HNN:Hid (s.size+1=N):=hNN
 have hN5:N≤512:=by omega
 clear hnr hgd hL hNN ht
 go_enter Tryz.func50,Tryz.ntmps50
 go_wp2_with fail
 go_loopw [6,5] (fun vi vl wr=>∃ (i:Nat) (S:List Tr) (st:List RwP),i≤L∧vi=.int .i64 (i:Int)∧runR (t.flat.take i) []=some S∧Rows (wl s) S st∧st.length≤i∧Sk w.heap.size wr N vl st∧Below w.heap.size w wr) (fun vi _ _=>L - (intOf vi).toNat)
 case atStart=>exact ⟨0,[],[],Nat.zero_le _,rfl,rfl,.nil,Nat.le_refl _,⟨⟨rfl,.inl ⟨rfl,rfl⟩⟩,fun x hx=>by simp at hx⟩,Below.refl _ _⟩
 case round =>
  rename_i vl
  obtain ⟨i,S,st,hi,rfl,hrun,hrows,hlen,hsk,hb⟩:=hrel
  obtain ⟨la,lc,rfl⟩:=own_shape hsk.rows
  have HB:Hid (Below w.heap.size w wr):=hb
  have HSK:Hid (Sk w.heap.size wr N (.slice la st.length lc) st):=hsk
  by_cases hlt : i < L
  ·have hiI:(i:Int)<L:=by omega
   obtain ⟨S',hst,hrun'⟩:=run_take (by rw [HL.out];exact hlt) hrun HRUN.out
   have hg:=HGD.out (t.flat.getD i (0,0)) (by rw [List.getD_eq_getElem?_getD,List.getElem?_eq_getElem (by rw [HL.out];exact hlt)];exact List.getElem_mem _)
   obtain ⟨a',cap',ea,hnr⟩:=HN.out.stay hb
   obtain ⟨g,o,hag,hgl,n1,n2⟩:=hnr i (by rw [HL.out];exact hlt)
   cases ea
   subst hag
   obtain ⟨n,hn⟩:∃ n,t.flat.getD i (0,0)=n:=⟨_,rfl⟩
   rw [hn] at n1 n2 hst hg
   obtain ⟨k,sg⟩:=n
   have hk:=good_kind hg
   simp only at n1 n2 hk
   have HRUN2:Hid (runR (t.flat.take (i+1)) []=some S'):=hrun'
   have HLEN:Hid (st.length≤i∧i<t.flat.length∧t.flat.length≤4000∧w.heap.size≤wr.heap.size):=⟨hlen,hlt,hl,hb.size⟩
   clear hsk hb hrun hrun' hg hnr hn hlen
   have hc:k=1∨k=2∨k=3∨k=4∨k=5∨k=6∨k=7∨k=8∨k=9:=by omega
   clear hk
   rcases hc with rfl | rfl | rfl | rfl | rfl | rfl | rfl | rfl | rfl
   ·cases hst
    go_wp2_with fail
    refine (rone6_any 1 sg ⟨by decide,by decide⟩ s hs _).mono ?_
    rintro e w3 ⟨u,rfl,r,ho,hlr,hrow,hb3⟩
    have HB3:Hid (Below w.heap.size w w3):=HB.out.trans (hb3.mono HB.out.size)
    have HSK3:Hid (Sk w.heap.size w3 N (.slice la st.length lc) st):=HSK.out.stay hb3
    obtain ⟨gu,cu,hu,_⟩:=ho.block (by omega)
    subst hu
    rw [hlr,HNN.out] at ho ⊢
    have HU:Hid (OwnR w.heap.size w3 (.slice (some ⟨gu,0,none⟩) N cu) r∧r.length=N):=⟨ho.mono HB.out.size,by rw [hlr,HNN.out]⟩
    have HRO:Hid (RowOk (Lg (.zero (1,sg))) (wl s) r):=one_row ⟨by decide,by decide⟩ hlr hrow
    clear ho hlr hrow hb3 HSK n1 n2
    go_wp2_with (at_builtin;refine wpList_append_lies _ rfl _ _ 115 rfl w.heap.size 89 i0 (.slice none 0 0) 1 24 Tryz.underlying115 hi0 hz0 hz1 hz2 rfl (by decide) _ _ _ rfl (HSK3.out.rows.alloc _) ⟨w3.heap.size,0,none⟩ 1 1 [.slice (some ⟨gu,0,none⟩) N cu] rfl rfl ?l11 ?l12 (by decide) ?l13 ?l14 ?l15 _ rfl ?_)
    case l11=>have:=cell_one_new w3 (.slice (some ⟨gu,0,none⟩) N cu) 89;simpa using this
    case l12=>intro u hu;simp at hu;subst hu;rfl
    case l13=>unfold maxLen;have:=HLEN.out;omega
    case l14=>have:=HLEN.out;omega
    case l15=>have:=HLEN.out;have:=HB3.out.size;simp;omega
    intro g' c' w4 ho4 hg4 hp4 hl4
    have HF:Hid (Sk w.heap.size w4 N (.slice (some ⟨g',0,none⟩) (st.length+1) c') (st ++ [(.slice (some ⟨gu,0,none⟩) N cu,r)])∧Below w.heap.size w w4):=by
     have:=HSK3.out.push HU.out.1 HU.out.2 ho4 hg4 HB3.out.size
     exact ⟨this.1,HB3.out.trans this.2⟩
    clear ho4 hg4 hp4 hl4 HSK3
    go_wp2_with fail
    go_roundw
    case rel=>exact ⟨i+1,_,_,by have:=HLEN.out;omega,by go_num,HRUN2.out,.cons hrows HRO.out,by have:=HLEN.out;simp;omega,HF.out.1,HF.out.2⟩
    case measure=>have:=HLEN.out;simp [intOf];omega
   ·cases hst
    go_wp2_with fail
    refine (rone6_any 2 sg ⟨by decide,by decide⟩ s hs _).mono ?_
    rintro e w3 ⟨u,rfl,r,ho,hlr,hrow,hb3⟩
    have HB3:Hid (Below w.heap.size w w3):=HB.out.trans (hb3.mono HB.out.size)
    have HSK3:Hid (Sk w.heap.size w3 N (.slice la st.length lc) st):=HSK.out.stay hb3
    obtain ⟨gu,cu,hu,_⟩:=ho.block (by omega)
    subst hu
    rw [hlr,HNN.out] at ho ⊢
    have HU:Hid (OwnR w.heap.size w3 (.slice (some ⟨gu,0,none⟩) N cu) r∧r.length=N):=⟨ho.mono HB.out.size,by rw [hlr,HNN.out]⟩
    have HRO:Hid (RowOk (Lg (.zero (2,sg))) (wl s) r):=one_row ⟨by decide,by decide⟩ hlr hrow
    clear ho hlr hrow hb3 HSK n1 n2
    go_wp2_with (at_builtin;refine wpList_append_lies _ rfl _ _ 115 rfl w.heap.size 89 i0 (.slice none 0 0) 1 24 Tryz.underlying115 hi0 hz0 hz1 hz2 rfl (by decide) _ _ _ rfl (HSK3.out.rows.alloc _) ⟨w3.heap.size,0,none⟩ 1 1 [.slice (some ⟨gu,0,none⟩) N cu] rfl rfl ?l21 ?l22 (by decide) ?l23 ?l24 ?l25 _ rfl ?_)
    case l21=>have:=cell_one_new w3 (.slice (some ⟨gu,0,none⟩) N cu) 89;simpa using this
    case l22=>intro u hu;simp at hu;subst hu;rfl
    case l23=>unfold maxLen;have:=HLEN.out;omega
    case l24=>have:=HLEN.out;omega
    case l25=>have:=HLEN.out;have:=HB3.out.size;simp;omega
    intro g' c' w4 ho4 hg4 hp4 hl4
    have HF:Hid (Sk w.heap.size w4 N (.slice (some ⟨g',0,none⟩) (st.length+1) c') (st ++ [(.slice (some ⟨gu,0,none⟩) N cu,r)])∧Below w.heap.size w w4):=by
     have:=HSK3.out.push HU.out.1 HU.out.2 ho4 hg4 HB3.out.size
     exact ⟨this.1,HB3.out.trans this.2⟩
    clear ho4 hg4 hp4 hl4 HSK3
    go_wp2_with fail
    go_roundw
    case rel=>exact ⟨i+1,_,_,by have:=HLEN.out;omega,by go_num,HRUN2.out,.cons hrows HRO.out,by have:=HLEN.out;simp;omega,HF.out.1,HF.out.2⟩
    case measure=>have:=HLEN.out;simp [intOf];omega
   ·cases hst
    go_wp2_with fail
    refine (rone6_any 3 sg ⟨by decide,by decide⟩ s hs _).mono ?_
    rintro e w3 ⟨u,rfl,r,ho,hlr,hrow,hb3⟩
    have HB3:Hid (Below w.heap.size w w3):=HB.out.trans (hb3.mono HB.out.size)
    have HSK3:Hid (Sk w.heap.size w3 N (.slice la st.length lc) st):=HSK.out.stay hb3
    obtain ⟨gu,cu,hu,_⟩:=ho.block (by omega)
    subst hu
    rw [hlr,HNN.out] at ho ⊢
    have HU:Hid (OwnR w.heap.size w3 (.slice (some ⟨gu,0,none⟩) N cu) r∧r.length=N):=⟨ho.mono HB.out.size,by rw [hlr,HNN.out]⟩
    have HRO:Hid (RowOk (Lg (.zero (3,sg))) (wl s) r):=one_row ⟨by decide,by decide⟩ hlr hrow
    clear ho hlr hrow hb3 HSK n1 n2
    go_wp2_with (at_builtin;refine wpList_append_lies _ rfl _ _ 115 rfl w.heap.size 89 i0 (.slice none 0 0) 1 24 Tryz.underlying115 hi0 hz0 hz1 hz2 rfl (by decide) _ _ _ rfl (HSK3.out.rows.alloc _) ⟨w3.heap.size,0,none⟩ 1 1 [.slice (some ⟨gu,0,none⟩) N cu] rfl rfl ?l31 ?l32 (by decide) ?l33 ?l34 ?l35 _ rfl ?_)
    case l31=>have:=cell_one_new w3 (.slice (some ⟨gu,0,none⟩) N cu) 89;simpa using this
    case l32=>intro u hu;simp at hu;subst hu;rfl
    case l33=>unfold maxLen;have:=HLEN.out;omega
    case l34=>have:=HLEN.out;omega
    case l35=>have:=HLEN.out;have:=HB3.out.size;simp;omega
    intro g' c' w4 ho4 hg4 hp4 hl4
    have HF:Hid (Sk w.heap.size w4 N (.slice (some ⟨g',0,none⟩) (st.length+1) c') (st ++ [(.slice (some ⟨gu,0,none⟩) N cu,r)])∧Below w.heap.size w w4):=by
     have:=HSK3.out.push HU.out.1 HU.out.2 ho4 hg4 HB3.out.size
     exact ⟨this.1,HB3.out.trans this.2⟩
    clear ho4 hg4 hp4 hl4 HSK3
    go_wp2_with fail
    go_roundw
    case rel=>exact ⟨i+1,_,_,by have:=HLEN.out;omega,by go_num,HRUN2.out,.cons hrows HRO.out,by have:=HLEN.out;simp;omega,HF.out.1,HF.out.2⟩
    case measure=>have:=HLEN.out;simp [intOf];omega
   ·cases hst
    go_wp2_with fail
    refine (rone6_any 4 sg ⟨by decide,by decide⟩ s hs _).mono ?_
    rintro e w3 ⟨u,rfl,r,ho,hlr,hrow,hb3⟩
    have HB3:Hid (Below w.heap.size w w3):=HB.out.trans (hb3.mono HB.out.size)
    have HSK3:Hid (Sk w.heap.size w3 N (.slice la st.length lc) st):=HSK.out.stay hb3
    obtain ⟨gu,cu,hu,_⟩:=ho.block (by omega)
    subst hu
    rw [hlr,HNN.out] at ho ⊢
    have HU:Hid (OwnR w.heap.size w3 (.slice (some ⟨gu,0,none⟩) N cu) r∧r.length=N):=⟨ho.mono HB.out.size,by rw [hlr,HNN.out]⟩
    have HRO:Hid (RowOk (Lg (.zero (4,sg))) (wl s) r):=one_row ⟨by decide,by decide⟩ hlr hrow
    clear ho hlr hrow hb3 HSK n1 n2
    go_wp2_with (at_builtin;refine wpList_append_lies _ rfl _ _ 115 rfl w.heap.size 89 i0 (.slice none 0 0) 1 24 Tryz.underlying115 hi0 hz0 hz1 hz2 rfl (by decide) _ _ _ rfl (HSK3.out.rows.alloc _) ⟨w3.heap.size,0,none⟩ 1 1 [.slice (some ⟨gu,0,none⟩) N cu] rfl rfl ?l41 ?l42 (by decide) ?l43 ?l44 ?l45 _ rfl ?_)
    case l41=>have:=cell_one_new w3 (.slice (some ⟨gu,0,none⟩) N cu) 89;simpa using this
    case l42=>intro u hu;simp at hu;subst hu;rfl
    case l43=>unfold maxLen;have:=HLEN.out;omega
    case l44=>have:=HLEN.out;omega
    case l45=>have:=HLEN.out;have:=HB3.out.size;simp;omega
    intro g' c' w4 ho4 hg4 hp4 hl4
    have HF:Hid (Sk w.heap.size w4 N (.slice (some ⟨g',0,none⟩) (st.length+1) c') (st ++ [(.slice (some ⟨gu,0,none⟩) N cu,r)])∧Below w.heap.size w w4):=by
     have:=HSK3.out.push HU.out.1 HU.out.2 ho4 hg4 HB3.out.size
     exact ⟨this.1,HB3.out.trans this.2⟩
    clear ho4 hg4 hp4 hl4 HSK3
    go_wp2_with fail
    go_roundw
    case rel=>exact ⟨i+1,_,_,by have:=HLEN.out;omega,by go_num,HRUN2.out,.cons hrows HRO.out,by have:=HLEN.out;simp;omega,HF.out.1,HF.out.2⟩
    case measure=>have:=HLEN.out;simp [intOf];omega
   ·match S,hst,hrows with
    | y :: x :: S,hst,hrows =>
     cases hst
     obtain ⟨st0,q',rfl,hR0,h2⟩:=hrows.one
     obtain ⟨st1,q,rfl,hR1,h1⟩:=hR0.one
     obtain ⟨qv,qr⟩:=q
     obtain ⟨qv',qr'⟩:=q'
     simp only at h1 h2
     obtain ⟨m,hm⟩:∃ m,st1.length=m:=⟨_,rfl⟩
     obtain ⟨n,hn⟩:∃ n,(st1 ++ [(qv,qr)] ++ [(qv',qr')]).length=n:=⟨_,rfl⟩
     have hnm:n=m+2:=by rw [← hn];simp;omega
     rw [hn] at HSK HLEN ⊢
     have ho:=HSK.out.rowv (qv,qr) (by simp)
     have ho':=HSK.out.rowv (qv',qr') (by simp)
     simp only at ho ho'
     obtain ⟨ga,ca,hqv,_⟩:=ho.1.block (by have:=HNN.out;omega)
     obtain ⟨gb,cb,hqv',_⟩:=ho'.1.block (by have:=HNN.out;omega)
     subst hqv
     subst hqv'
     have hq2:=ho.2
     have hq1:=ho.1
     rw [hq2] at HSK hq1
     have hq2':=ho'.2
     have hq1':=ho'.1
     rw [hq2'] at HSK hq1'
     obtain ⟨gl,rfl,hxx,hnc,_,hgl2,d1,_⟩:=HSK.out.cell m _ (by rw [List.append_assoc,List.getElem?_append_right (by omega),hm,Nat.sub_self];rfl)
     clear hxx
     obtain ⟨gl',hge,hxx,_,_,_,d2,_⟩:=HSK.out.cell (m+1) _ (by rw [List.getElem?_append_right (by simp;omega)];simp [hm];rfl)
     cases hge
     clear hxx
     obtain ⟨m1,hm1⟩:∃ m1,m+1=m1:=⟨_,rfl⟩
     rw [hm1] at d2
     simp only at d1 d2
     have hw1:IntKind.i64.wrap ((n:Int) - 1)=(m1:Int):=by rw [IntKind.wrap_i64];have:=HLEN.out;omega
     have hw2:IntKind.i64.wrap ((n:Int) - 2)=(m:Int):=by rw [IntKind.wrap_i64];have:=HLEN.out;omega
     have hmI:(m:Int)<n:=by omega
     have hmI1:(m1:Int)<n:=by omega
     have hmc:(m:Int)≤lc:=by omega
     have HAB:Hid (OwnR w.heap.size wr (.slice (some ⟨ga,0,none⟩) N ca) qr∧qr.length=N∧OwnR w.heap.size wr (.slice (some ⟨gb,0,none⟩) N cb) qr'∧qr'.length=N∧RowOk (Lg x) (wl s) qr∧RowOk (Lg y) (wl s) qr'):=⟨hq1,hq2,hq1',hq2',h1,h2⟩
     have HTW:Hid (∀ (W:World) (hW:W=wr.drew),Calls Tryz.prog 77 #[.int .i64 5,.slice (some ⟨ga,0,none⟩) N ca,.slice (some ⟨gb,0,none⟩) N cb] W fun e w'=>∃ v,e=.returned v∧∃ r,OwnR wr.heap.size w' v r∧r.length=N∧RowOk (fun u=>Lg x u∨Lg y u) (wl s) r∧Below wr.drew.heap.size wr.drew w'):=fun W hW=>by
      subst hW
      exact rtwo6_or ((HAB.out.1.stay ((Below.refl _ _).drew)).rrow HAB.out.2.1) HAB.out.2.1 ((HAB.out.2.2.1.stay ((Below.refl _ _).drew)).rrow HAB.out.2.2.2.1) HAB.out.2.2.2.1 hN5 (Lg x) (Lg y) (wl s) HAB.out.2.2.2.2.1 HAB.out.2.2.2.2.2
     have HMN:Hid (st1.length=m∧n=m+2):=⟨hm,hnm⟩
     have HR1:Hid (Rows (wl s) S st1):=hR1
     clear ho ho' h1 h2 hq1 hq2 hq1' hq2' hm hn hnm hm1 hR0 hrows hR1
     go_wp2_with fail
     go_region_with (go_at_call 77;refine (HTW.out _ rfl).mono ?_;rintro e w3 ⟨u,rfl,r,ho,hlr,hrow,hb3⟩;obtain ⟨gu,cu,hu,_⟩:=ho.block (by have:=HNN.out;omega);subst hu;rw [hlr] at ho ⊢)
     all_goals (
      have HB3:Hid (Below w.heap.size w w3):=(HB.out.drew).trans (hb3.mono HB.out.size)
      have HSK3:Hid (Sk w.heap.size w3 N (.slice (some ⟨gl,0,none⟩) m lc) st1):=((HSK.out.stay ((Below.refl _ _).drew)).stay hb3).cut HMN.out.1
      have HU:Hid (OwnR w.heap.size w3 (.slice (some ⟨gu,0,none⟩) N cu) r∧r.length=N):=⟨ho.mono HB.out.size,hlr⟩
      have HRO:Hid (RowOk (Lg (.two (5,sg) x y)) (wl s) r):=hrow.congr (fun u=>by simp [Lg])
      have HL1:Hid (w3.ownsRow w.heap.size 89 1 (.slice (some ⟨gl,0,none⟩) m lc) m (st1.map Prod.fst)):=by
       have:=HSK3.out.rows
       rw [HMN.out.1] at this
       exact this
      clear ho hlr hrow hb3 HSK n1 n2 d1 d2 HTW HAB
      go_wp2_with (at_builtin;refine wpList_append_lies _ rfl _ _ 115 rfl w.heap.size 89 i0 (.slice none 0 0) 1 24 Tryz.underlying115 hi0 hz0 hz1 hz2 rfl (by decide) _ _ _ rfl (HL1.out.alloc _) ⟨w3.heap.size,0,none⟩ 1 1 [.slice (some ⟨gu,0,none⟩) N cu] rfl rfl ?t51 ?t52 (by decide) ?t53 ?t54 ?t55 _ rfl ?_)
      case t51=>have:=cell_one_new w3 (.slice (some ⟨gu,0,none⟩) N cu) 89;simpa using this
      case t52=>intro u hu;simp at hu;subst hu;rfl
      case t53=>unfold maxLen;have:=HLEN.out;have:=HMN.out;omega
      case t54=>have:=HLEN.out;have:=HMN.out;omega
      case t55=>have:=HLEN.out;have:=HB3.out.size;simp;omega
      intro g' c' w4 ho4 hg4 hp4 hl4
      have HF:Hid (Sk w.heap.size w4 N (.slice (some ⟨g',0,none⟩) (m+1) c') (st1 ++ [(.slice (some ⟨gu,0,none⟩) N cu,r)])∧Below w.heap.size w w4):=by
       have hm:=HMN.out.1
       have h3:=HSK3.out
       rw [← hm] at ho4 hg4 h3
       have:=h3.push HU.out.1 HU.out.2 ho4 hg4 HB3.out.size
       rw [hm] at this
       exact ⟨this.1,HB3.out.trans this.2⟩
      clear ho4 hg4 hp4 hl4 HSK3 HL1
      go_wp2_with fail
      go_roundw
      case rel=>exact ⟨i+1,_,_,by have:=HLEN.out;omega,by go_num,HRUN2.out,.cons HR1.out HRO.out,by have:=HLEN.out;have:=HMN.out;simp;omega,HF.out.1,HF.out.2⟩
      case measure=>have:=HLEN.out;simp [intOf];omega)
   ·match S,hst,hrows with
    | y :: x :: S,hst,hrows =>
     cases hst
     obtain ⟨st0,q',rfl,hR0,h2⟩:=hrows.one
     obtain ⟨st1,q,rfl,hR1,h1⟩:=hR0.one
     obtain ⟨qv,qr⟩:=q
     obtain ⟨qv',qr'⟩:=q'
     simp only at h1 h2
     obtain ⟨m,hm⟩:∃ m,st1.length=m:=⟨_,rfl⟩
     obtain ⟨n,hn⟩:∃ n,(st1 ++ [(qv,qr)] ++ [(qv',qr')]).length=n:=⟨_,rfl⟩
     have hnm:n=m+2:=by rw [← hn];simp;omega
     rw [hn] at HSK HLEN ⊢
     have ho:=HSK.out.rowv (qv,qr) (by simp)
     have ho':=HSK.out.rowv (qv',qr') (by simp)
     simp only at ho ho'
     obtain ⟨ga,ca,hqv,_⟩:=ho.1.block (by have:=HNN.out;omega)
     obtain ⟨gb,cb,hqv',_⟩:=ho'.1.block (by have:=HNN.out;omega)
     subst hqv
     subst hqv'
     have hq2:=ho.2
     have hq1:=ho.1
     rw [hq2] at HSK hq1
     have hq2':=ho'.2
     have hq1':=ho'.1
     rw [hq2'] at HSK hq1'
     obtain ⟨gl,rfl,hxx,hnc,_,hgl2,d1,_⟩:=HSK.out.cell m _ (by rw [List.append_assoc,List.getElem?_append_right (by omega),hm,Nat.sub_self];rfl)
     clear hxx
     obtain ⟨gl',hge,hxx,_,_,_,d2,_⟩:=HSK.out.cell (m+1) _ (by rw [List.getElem?_append_right (by simp;omega)];simp [hm];rfl)
     cases hge
     clear hxx
     obtain ⟨m1,hm1⟩:∃ m1,m+1=m1:=⟨_,rfl⟩
     rw [hm1] at d2
     simp only at d1 d2
     have hw1:IntKind.i64.wrap ((n:Int) - 1)=(m1:Int):=by rw [IntKind.wrap_i64];have:=HLEN.out;omega
     have hw2:IntKind.i64.wrap ((n:Int) - 2)=(m:Int):=by rw [IntKind.wrap_i64];have:=HLEN.out;omega
     have hmI:(m:Int)<n:=by omega
     have hmI1:(m1:Int)<n:=by omega
     have hmc:(m:Int)≤lc:=by omega
     have HAB:Hid (OwnR w.heap.size wr (.slice (some ⟨ga,0,none⟩) N ca) qr∧qr.length=N∧OwnR w.heap.size wr (.slice (some ⟨gb,0,none⟩) N cb) qr'∧qr'.length=N∧RowOk (Lg x) (wl s) qr∧RowOk (Lg y) (wl s) qr'):=⟨hq1,hq2,hq1',hq2',h1,h2⟩
     have HTW:Hid (∀ (W:World) (hW:W=wr.drew),Calls Tryz.prog 77 #[.int .i64 6,.slice (some ⟨ga,0,none⟩) N ca,.slice (some ⟨gb,0,none⟩) N cb] W fun e w'=>∃ v,e=.returned v∧∃ r,OwnR wr.heap.size w' v r∧r.length=N∧RowOk (fun u=>Lg x u∧Lg y u) (wl s) r∧Below wr.drew.heap.size wr.drew w'):=fun W hW=>by
      subst hW
      exact rtwo6_and ((HAB.out.1.stay ((Below.refl _ _).drew)).rrow HAB.out.2.1) HAB.out.2.1 ((HAB.out.2.2.1.stay ((Below.refl _ _).drew)).rrow HAB.out.2.2.2.1) HAB.out.2.2.2.1 hN5 (Lg x) (Lg y) (wl s) HAB.out.2.2.2.2.1 HAB.out.2.2.2.2.2
     have HMN:Hid (st1.length=m∧n=m+2):=⟨hm,hnm⟩
     have HR1:Hid (Rows (wl s) S st1):=hR1
     clear ho ho' h1 h2 hq1 hq2 hq1' hq2' hm hn hnm hm1 hR0 hrows hR1
     go_wp2_with fail
     go_region_with (go_at_call 77;refine (HTW.out _ rfl).mono ?_;rintro e w3 ⟨u,rfl,r,ho,hlr,hrow,hb3⟩;obtain ⟨gu,cu,hu,_⟩:=ho.block (by have:=HNN.out;omega);subst hu;rw [hlr] at ho ⊢)
     all_goals (
      have HB3:Hid (Below w.heap.size w w3):=(HB.out.drew).trans (hb3.mono HB.out.size)
      have HSK3:Hid (Sk w.heap.size w3 N (.slice (some ⟨gl,0,none⟩) m lc) st1):=((HSK.out.stay ((Below.refl _ _).drew)).stay hb3).cut HMN.out.1
      have HU:Hid (OwnR w.heap.size w3 (.slice (some ⟨gu,0,none⟩) N cu) r∧r.length=N):=⟨ho.mono HB.out.size,hlr⟩
      have HRO:Hid (RowOk (Lg (.two (6,sg) x y)) (wl s) r):=hrow.congr (fun u=>by simp [Lg])
      have HL1:Hid (w3.ownsRow w.heap.size 89 1 (.slice (some ⟨gl,0,none⟩) m lc) m (st1.map Prod.fst)):=by
       have:=HSK3.out.rows
       rw [HMN.out.1] at this
       exact this
      clear ho hlr hrow hb3 HSK n1 n2 d1 d2 HTW HAB
      go_wp2_with (at_builtin;refine wpList_append_lies _ rfl _ _ 115 rfl w.heap.size 89 i0 (.slice none 0 0) 1 24 Tryz.underlying115 hi0 hz0 hz1 hz2 rfl (by decide) _ _ _ rfl (HL1.out.alloc _) ⟨w3.heap.size,0,none⟩ 1 1 [.slice (some ⟨gu,0,none⟩) N cu] rfl rfl ?t61 ?t62 (by decide) ?t63 ?t64 ?t65 _ rfl ?_)
      case t61=>have:=cell_one_new w3 (.slice (some ⟨gu,0,none⟩) N cu) 89;simpa using this
      case t62=>intro u hu;simp at hu;subst hu;rfl
      case t63=>unfold maxLen;have:=HLEN.out;have:=HMN.out;omega
      case t64=>have:=HLEN.out;have:=HMN.out;omega
      case t65=>have:=HLEN.out;have:=HB3.out.size;simp;omega
      intro g' c' w4 ho4 hg4 hp4 hl4
      have HF:Hid (Sk w.heap.size w4 N (.slice (some ⟨g',0,none⟩) (m+1) c') (st1 ++ [(.slice (some ⟨gu,0,none⟩) N cu,r)])∧Below w.heap.size w w4):=by
       have hm:=HMN.out.1
       have h3:=HSK3.out
       rw [← hm] at ho4 hg4 h3
       have:=h3.push HU.out.1 HU.out.2 ho4 hg4 HB3.out.size
       rw [hm] at this
       exact ⟨this.1,HB3.out.trans this.2⟩
      clear ho4 hg4 hp4 hl4 HSK3 HL1
      go_wp2_with fail
      go_roundw
      case rel=>exact ⟨i+1,_,_,by have:=HLEN.out;omega,by go_num,HRUN2.out,.cons HR1.out HRO.out,by have:=HLEN.out;have:=HMN.out;simp;omega,HF.out.1,HF.out.2⟩
      case measure=>have:=HLEN.out;simp [intOf];omega)
   ·match S,hst,hrows with
    | y :: x :: S,hst,hrows =>
     cases hst
     obtain ⟨st0,q',rfl,hR0,h2⟩:=hrows.one
     obtain ⟨st1,q,rfl,hR1,h1⟩:=hR0.one
     obtain ⟨qv,qr⟩:=q
     obtain ⟨qv',qr'⟩:=q'
     simp only at h1 h2
     obtain ⟨m,hm⟩:∃ m,st1.length=m:=⟨_,rfl⟩
     obtain ⟨n,hn⟩:∃ n,(st1 ++ [(qv,qr)] ++ [(qv',qr')]).length=n:=⟨_,rfl⟩
     have hnm:n=m+2:=by rw [← hn];simp;omega
     rw [hn] at HSK HLEN ⊢
     have ho:=HSK.out.rowv (qv,qr) (by simp)
     have ho':=HSK.out.rowv (qv',qr') (by simp)
     simp only at ho ho'
     obtain ⟨ga,ca,hqv,_⟩:=ho.1.block (by have:=HNN.out;omega)
     obtain ⟨gb,cb,hqv',_⟩:=ho'.1.block (by have:=HNN.out;omega)
     subst hqv
     subst hqv'
     have hq2:=ho.2
     have hq1:=ho.1
     rw [hq2] at HSK hq1
     have hq2':=ho'.2
     have hq1':=ho'.1
     rw [hq2'] at HSK hq1'
     obtain ⟨gl,rfl,hxx,hnc,_,hgl2,d1,_⟩:=HSK.out.cell m _ (by rw [List.append_assoc,List.getElem?_append_right (by omega),hm,Nat.sub_self];rfl)
     clear hxx
     obtain ⟨gl',hge,hxx,_,_,_,d2,_⟩:=HSK.out.cell (m+1) _ (by rw [List.getElem?_append_right (by simp;omega)];simp [hm];rfl)
     cases hge
     clear hxx
     obtain ⟨m1,hm1⟩:∃ m1,m+1=m1:=⟨_,rfl⟩
     rw [hm1] at d2
     simp only at d1 d2
     have hw1:IntKind.i64.wrap ((n:Int) - 1)=(m1:Int):=by rw [IntKind.wrap_i64];have:=HLEN.out;omega
     have hw2:IntKind.i64.wrap ((n:Int) - 2)=(m:Int):=by rw [IntKind.wrap_i64];have:=HLEN.out;omega
     have hmI:(m:Int)<n:=by omega
     have hmI1:(m1:Int)<n:=by omega
     have hmc:(m:Int)≤lc:=by omega
     have HAB:Hid (OwnR w.heap.size wr (.slice (some ⟨ga,0,none⟩) N ca) qr∧qr.length=N∧OwnR w.heap.size wr (.slice (some ⟨gb,0,none⟩) N cb) qr'∧qr'.length=N∧RowOk (Lg x) (wl s) qr∧RowOk (Lg y) (wl s) qr'):=⟨hq1,hq2,hq1',hq2',h1,h2⟩
     have HTW:Hid (∀ (W:World) (hW:W=wr.drew),Calls Tryz.prog 77 #[.int .i64 7,.slice (some ⟨ga,0,none⟩) N ca,.slice (some ⟨gb,0,none⟩) N cb] W fun e w'=>∃ v,e=.returned v∧∃ r,OwnR wr.heap.size w' v r∧r.length=N∧RowOk (fun u=>∃ x_1 y_1,u=x_1 ++ y_1∧Lg x x_1∧Lg y y_1) (wl s) r∧Below wr.drew.heap.size wr.drew w'):=fun W hW=>by
      subst hW
      exact rtwo6_cat ((HAB.out.1.stay ((Below.refl _ _).drew)).rrow HAB.out.2.1) HAB.out.2.1 ((HAB.out.2.2.1.stay ((Below.refl _ _).drew)).rrow HAB.out.2.2.2.1) HAB.out.2.2.2.1 hN5 (Lg x) (Lg y) (wl s) HAB.out.2.2.2.2.1 HAB.out.2.2.2.2.2
     have HMN:Hid (st1.length=m∧n=m+2):=⟨hm,hnm⟩
     have HR1:Hid (Rows (wl s) S st1):=hR1
     clear ho ho' h1 h2 hq1 hq2 hq1' hq2' hm hn hnm hm1 hR0 hrows hR1
     go_wp2_with fail
     go_region_with (go_at_call 77;refine (HTW.out _ rfl).mono ?_;rintro e w3 ⟨u,rfl,r,ho,hlr,hrow,hb3⟩;obtain ⟨gu,cu,hu,_⟩:=ho.block (by have:=HNN.out;omega);subst hu;rw [hlr] at ho ⊢)
     all_goals (
      have HB3:Hid (Below w.heap.size w w3):=(HB.out.drew).trans (hb3.mono HB.out.size)
      have HSK3:Hid (Sk w.heap.size w3 N (.slice (some ⟨gl,0,none⟩) m lc) st1):=((HSK.out.stay ((Below.refl _ _).drew)).stay hb3).cut HMN.out.1
      have HU:Hid (OwnR w.heap.size w3 (.slice (some ⟨gu,0,none⟩) N cu) r∧r.length=N):=⟨ho.mono HB.out.size,hlr⟩
      have HRO:Hid (RowOk (Lg (.two (7,sg) x y)) (wl s) r):=hrow.congr (fun u=>by simp [Lg])
      have HL1:Hid (w3.ownsRow w.heap.size 89 1 (.slice (some ⟨gl,0,none⟩) m lc) m (st1.map Prod.fst)):=by
       have:=HSK3.out.rows
       rw [HMN.out.1] at this
       exact this
      clear ho hlr hrow hb3 HSK n1 n2 d1 d2 HTW HAB
      go_wp2_with (at_builtin;refine wpList_append_lies _ rfl _ _ 115 rfl w.heap.size 89 i0 (.slice none 0 0) 1 24 Tryz.underlying115 hi0 hz0 hz1 hz2 rfl (by decide) _ _ _ rfl (HL1.out.alloc _) ⟨w3.heap.size,0,none⟩ 1 1 [.slice (some ⟨gu,0,none⟩) N cu] rfl rfl ?t71 ?t72 (by decide) ?t73 ?t74 ?t75 _ rfl ?_)
      case t71=>have:=cell_one_new w3 (.slice (some ⟨gu,0,none⟩) N cu) 89;simpa using this
      case t72=>intro u hu;simp at hu;subst hu;rfl
      case t73=>unfold maxLen;have:=HLEN.out;have:=HMN.out;omega
      case t74=>have:=HLEN.out;have:=HMN.out;omega
      case t75=>have:=HLEN.out;have:=HB3.out.size;simp;omega
      intro g' c' w4 ho4 hg4 hp4 hl4
      have HF:Hid (Sk w.heap.size w4 N (.slice (some ⟨g',0,none⟩) (m+1) c') (st1 ++ [(.slice (some ⟨gu,0,none⟩) N cu,r)])∧Below w.heap.size w w4):=by
       have hm:=HMN.out.1
       have h3:=HSK3.out
       rw [← hm] at ho4 hg4 h3
       have:=h3.push HU.out.1 HU.out.2 ho4 hg4 HB3.out.size
       rw [hm] at this
       exact ⟨this.1,HB3.out.trans this.2⟩
      clear ho4 hg4 hp4 hl4 HSK3 HL1
      go_wp2_with fail
      go_roundw
      case rel=>exact ⟨i+1,_,_,by have:=HLEN.out;omega,by go_num,HRUN2.out,.cons HR1.out HRO.out,by have:=HLEN.out;have:=HMN.out;simp;omega,HF.out.1,HF.out.2⟩
      case measure=>have:=HLEN.out;simp [intOf];omega)
   ·match S,hst,hrows with
    | x :: S,hst,hrows =>
     cases hst
     obtain ⟨st0,q,rfl,hR0,h1⟩:=hrows.one
     obtain ⟨qv,qr⟩:=q
     simp only at h1
     obtain ⟨m,hm⟩:∃ m,st0.length=m:=⟨_,rfl⟩
     obtain ⟨n,hn⟩:∃ n,(st0 ++ [(qv,qr)]).length=n:=⟨_,rfl⟩
     have hnm:n=m+1:=by rw [← hn];simp;omega
     rw [hn] at HSK HLEN ⊢
     have ho:=HSK.out.rowv (qv,qr) (by simp)
     simp only at ho
     obtain ⟨ga,ca,hqv,_⟩:=ho.1.block (by have:=HNN.out;omega)
     subst hqv
     have hq2:=ho.2
     have hq1:=ho.1
     rw [hq2] at HSK hq1
     obtain ⟨gl,rfl,hxx,hnc,_,hgl2,d1,_⟩:=HSK.out.cell m _ (by rw [List.getElem?_append_right (by omega),hm,Nat.sub_self];rfl)
     clear hxx
     simp only at d1
     have hw1:IntKind.i64.wrap ((n:Int) - 1)=(m:Int):=by rw [IntKind.wrap_i64];have:=HLEN.out;omega
     have hmI:(m:Int)<n:=by omega
     have HAB:Hid (OwnR w.heap.size wr (.slice (some ⟨ga,0,none⟩) N ca) qr∧qr.length=N∧RowOk (Lg x) (wl s) qr):=⟨hq1,hq2,h1⟩
     have HMN:Hid (st0.length=m∧n=m+1):=⟨hm,hnm⟩
     have HR1:Hid (Rows (wl s) S st0):=hR0
     clear ho h1 hq1 hq2 hm hn hnm hR0 hrows
     go_wp2_with fail
     refine (rstar6_any (HAB.out.1.rrow HAB.out.2.1) HAB.out.2.1 hN5 (Lg x) (wl s) HAB.out.2.2).mono ?_
     rintro e w3 ⟨u,rfl,r,ho,hlr,hrow,hb3⟩
     have HB3:Hid (Below w.heap.size w w3):=HB.out.trans (hb3.mono HB.out.size)
     have HSK3:Hid (Sk w.heap.size w3 N (.slice (some ⟨gl,0,none⟩) n lc) (st0 ++ [(.slice (some ⟨ga,0,none⟩) N ca,qr)])):=HSK.out.stay hb3
     obtain ⟨gu,cu,hu,_⟩:=ho.block (by have:=HNN.out;omega)
     subst hu
     rw [hlr] at ho ⊢
     have HU:Hid (OwnR w.heap.size w3 (.slice (some ⟨gu,0,none⟩) N cu) r∧r.length=N):=⟨ho.mono HB.out.size,hlr⟩
     have HRO:Hid (RowOk (Lg (.one (8,sg) x)) (wl s) r):=hrow.congr (fun u=>by simp [Lg])
     obtain ⟨gl',hge,hxx,_,hbl,hgl3,e1,e2⟩:=HSK3.out.cell m _ (by rw [List.getElem?_append_right (by have:=HMN.out;omega),HMN.out.1,Nat.sub_self];rfl)
     cases hge
     clear hxx
     have HF:Hid (Sk w.heap.size (w3.setCell ⟨gl,m,none⟩ (.slice (some ⟨gu,0,none⟩) N cu)) N (.slice (some ⟨gl,0,none⟩) n lc) (st0 ++ [(.slice (some ⟨gu,0,none⟩) N cu,r)])∧Below w.heap.size w (w3.setCell ⟨gl,m,none⟩ (.slice (some ⟨gu,0,none⟩) N cu))):=⟨HSK3.out.put m HMN.out.1 HU.out.1 HU.out.2,HB3.out.setCell (p:=⟨gl,m,none⟩) hbl _⟩
     simp only at e1
     clear ho hlr hrow hb3 HSK HSK3 n1 n2 d1
     go_wp2_with fail
     go_roundw
     case rel=>exact ⟨i+1,_,_,by have:=HLEN.out;omega,by go_num,HRUN2.out,.cons HR1.out HRO.out,by have:=HLEN.out;have:=HMN.out;simp;omega,HF.out.1,HF.out.2⟩
     case measure=>have:=HLEN.out;simp [intOf];omega
   ·match S,hst,hrows with
    | x :: S,hst,hrows =>
     cases hst
     obtain ⟨st0,q,rfl,hR0,h1⟩:=hrows.one
     obtain ⟨qv,qr⟩:=q
     simp only at h1
     obtain ⟨m,hm⟩:∃ m,st0.length=m:=⟨_,rfl⟩
     obtain ⟨n,hn⟩:∃ n,(st0 ++ [(qv,qr)]).length=n:=⟨_,rfl⟩
     have hnm:n=m+1:=by rw [← hn];simp;omega
     rw [hn] at HSK HLEN ⊢
     have ho:=HSK.out.rowv (qv,qr) (by simp)
     simp only at ho
     obtain ⟨ga,ca,hqv,_⟩:=ho.1.block (by have:=HNN.out;omega)
     subst hqv
     have hq2:=ho.2
     have hq1:=ho.1
     rw [hq2] at HSK hq1
     obtain ⟨gl,rfl,hxx,hnc,_,hgl2,d1,_⟩:=HSK.out.cell m _ (by rw [List.getElem?_append_right (by omega),hm,Nat.sub_self];rfl)
     clear hxx
     simp only at d1
     have hw1:IntKind.i64.wrap ((n:Int) - 1)=(m:Int):=by rw [IntKind.wrap_i64];have:=HLEN.out;omega
     have hmI:(m:Int)<n:=by omega
     have HAB:Hid (OwnR w.heap.size wr (.slice (some ⟨ga,0,none⟩) N ca) qr∧qr.length=N∧RowOk (Lg x) (wl s) qr):=⟨hq1,hq2,h1⟩
     have HMN:Hid (st0.length=m∧n=m+1):=⟨hm,hnm⟩
     have HR1:Hid (Rows (wl s) S st0):=hR0
     clear ho h1 hq1 hq2 hm hn hnm hR0 hrows
     go_wp2_with fail
     refine (rnot6_any (HAB.out.1.rrow HAB.out.2.1) HAB.out.2.1 hN5 (Lg x) (wl s) HAB.out.2.2).mono ?_
     rintro e w3 ⟨u,rfl,r,ho,hlr,hrow,hb3⟩
     have HB3:Hid (Below w.heap.size w w3):=HB.out.trans (hb3.mono HB.out.size)
     have HSK3:Hid (Sk w.heap.size w3 N (.slice (some ⟨gl,0,none⟩) n lc) (st0 ++ [(.slice (some ⟨ga,0,none⟩) N ca,qr)])):=HSK.out.stay hb3
     obtain ⟨gu,cu,hu,_⟩:=ho.block (by have:=HNN.out;omega)
     subst hu
     rw [hlr] at ho ⊢
     have HU:Hid (OwnR w.heap.size w3 (.slice (some ⟨gu,0,none⟩) N cu) r∧r.length=N):=⟨ho.mono HB.out.size,hlr⟩
     have HRO:Hid (RowOk (Lg (.one (9,sg) x)) (wl s) r):=hrow.congr (fun u=>by simp [Lg])
     obtain ⟨gl',hge,hxx,_,hbl,hgl3,e1,e2⟩:=HSK3.out.cell m _ (by rw [List.getElem?_append_right (by have:=HMN.out;omega),HMN.out.1,Nat.sub_self];rfl)
     cases hge
     clear hxx
     have HF:Hid (Sk w.heap.size (w3.setCell ⟨gl,m,none⟩ (.slice (some ⟨gu,0,none⟩) N cu)) N (.slice (some ⟨gl,0,none⟩) n lc) (st0 ++ [(.slice (some ⟨gu,0,none⟩) N cu,r)])∧Below w.heap.size w (w3.setCell ⟨gl,m,none⟩ (.slice (some ⟨gu,0,none⟩) N cu))):=⟨HSK3.out.put m HMN.out.1 HU.out.1 HU.out.2,HB3.out.setCell (p:=⟨gl,m,none⟩) hbl _⟩
     simp only at e1
     clear ho hlr hrow hb3 HSK HSK3 n1 n2 d1
     go_wp2_with fail
     go_roundw
     case rel=>exact ⟨i+1,_,_,by have:=HLEN.out;omega,by go_num,HRUN2.out,.cons HR1.out HRO.out,by have:=HLEN.out;have:=HMN.out;simp;omega,HF.out.1,HF.out.2⟩
     case measure=>have:=HLEN.out;simp [intOf];omega
  ·obtain rfl:i=L:=by omega
   have hiI:¬ (i:Int)<i:=by omega
   have hS:S=[t]:=by
    rw [← HL.out,List.take_length] at hrun
    have:=hrun.symm.trans HRUN.out
    exact Option.some.inj this
   subst hS
   obtain ⟨st0,q,rfl,hnil,hq⟩:=hrows.one
   cases hnil
   obtain ⟨qv,qr⟩:=q
   simp only [List.nil_append] at HSK hq
   obtain ⟨gl,rfl,hxx,hnc,_,hgl2,d1,_⟩:=HSK.out.cell 0 (qv,qr) rfl
   clear hxx
   have HF:Hid (OwnR w.heap.size wr qv qr∧RowOk (Lg t) (wl s) qr):=⟨(HSK.out.rowv (qv,qr) (by simp)).1,hq⟩
   obtain ⟨ga,ca,hqv,_⟩:=HF.out.1.block (by rw [HF.out.2.1];omega)
   subst hqv
   simp only at d1
   clear hq hrun hrows hlen hsk hb HSK
   go_wp2_with fail
   go_ret
   exact ⟨_,rfl,qr,HF.out.1,HF.out.2,HB.out⟩
end Go.Proofs.YtfdhaknecjcjoaaGreatDoor

namespace Go.Proofs.YtfdhaknecjcjoaaGreatDoor
open Go Go.RowKit
set_option linter.unusedVariables false

set_option maxHeartbeats 4000000 in
set_option maxRecDepth 100000 in
theorem rEnds6_any {w : World} {v : Value} {ts : List Nd} (s : ByteArray) (i : Int) (hv : NReads w v ts) (hm : ts.length ≤ 9223372036854775806) (hsm : s.size ≤ 9223372036854775806) :
  Calls Tryz.prog 32 #[v,.string s,.int .i64 i] w fun e w'=>∃ M,e=.returned (.tuple #[setV M,.int .i64 (endsE ts s i)])∧Fits M∧(endsE ts s i≠0→M=0)∧(endsE ts s i=0→∀ t:Tr,t.ok→t.flat=ts→EndsOk (Lg t) (wl s) i.toNat M)∧Below w.heap.size w w':=by
 have HTE:Hid (∀ W,Below w.heap.size w W→Calls Tryz.prog 25 #[v] W fun e w'=>e=.returned (.int .i64 (wrong ts))∧Below W.heap.size W w'):=fun W hb=>rwrong_any v ts W (hv.stay hb) hm
 have HWE:Hid (∀ W,Calls Tryz.prog 49 #[.string s] W fun e w'=>e=.returned (.int .i64 (wordE s))∧Below W.heap.size W w'):=fun W=>rword6_any s hsm W
 have HV:Hid (NReads w v ts):=hv
 obtain ⟨va,vcap,hva,_⟩:=hv
 subst hva
 have HLEN:Hid (ts.length≤9223372036854775806):=hm
 obtain ⟨L,hL⟩:∃ L,ts.length=L:=⟨_,rfl⟩
 have HLL:Hid (ts.length=L):=hL
 rw [hL] at HV HTE ⊢
 clear hL hm
 have HB0:Hid (Below w.heap.size w (w.alloc (.cells #[.int .u64 0,.int .u64 0,.int .u64 0,.int .u64 0,.int .u64 0,.int .u64 0,.int .u64 0,.int .u64 0] 61))):=(Below.refl _ _).alloc (Nat.le_refl _) _
 have HC0:Hid (Cells8 (w.alloc (.cells #[.int .u64 0,.int .u64 0,.int .u64 0,.int .u64 0,.int .u64 0,.int .u64 0,.int .u64 0,.int .u64 0] 61)) w.heap.size (fun _=>0)):=Cells8.last w (fun _=>0)
 go_enter Tryz.func32,Tryz.ntmps32
 go_wp2_with fail
 refine (HTE.out _ HB0.out).mono ?_
 rintro e w1 ⟨rfl,hb1⟩
 have HC1:Hid (Cells8 w1 w.heap.size (fun _=>0)):=HC0.out.stay hb1
 have HB1:Hid (Below w.heap.size w w1):=go_on HB0.out hb1
 clear hb1 HC0 HB0
 obtain ⟨x,hx⟩:∃ x,wrong ts=x:=⟨_,rfl⟩
 rw [hx]
 have HX:Hid (wrong ts=x):=hx
 clear hx
 by_cases hx0 : x = 0
 rotate_left
 ·have HE:Hid (endsE ts s i=x):=by
   show endsE ts s i = x
   unfold endsE
   rw [HX.out,if_neg hx0]
  obtain ⟨d0,d1,d2,d3,d4,d5,d6,d7⟩:=HC1.out.gets
  have f0:=HC1.out.frozen 0
  have f1:=HC1.out.frozen 1
  have f2:=HC1.out.frozen 2
  have f3:=HC1.out.frozen 3
  have f4:=HC1.out.frozen 4
  have f5:=HC1.out.frozen 5
  have f6:=HC1.out.frozen 6
  have f7:=HC1.out.frozen 7
  go_wp2_with fail
  obtain ⟨h8,hB⟩:=st8 HC1.out HB1.out (Nat.le_refl _) (fun _=>0) rfl rfl rfl rfl rfl rfl rfl rfl
  refine bodyPost_ret (results_set_tmp rfl rfl h8) rfl ⟨0,?_,fun i _=>by simp,fun _=>rfl,fun h=>?_,hB⟩
  ·rw [HE.out]
   exact ret_set (fun k _=>by simp [word])
  ·exact absurd (HE.out.symm.trans h) hx0
 subst hx0
 go_wp2_with fail
 refine (HWE.out _).mono ?_
 rintro e w2 ⟨rfl,hb2⟩
 have HC2:Hid (Cells8 w2 w.heap.size (fun _=>0)):=HC1.out.stay hb2
 have HB2:Hid (Below w.heap.size w w2):=go_on HB1.out hb2
 clear hb2 HC1 HB1
 obtain ⟨x,hx⟩:∃ x,wordE s=x:=⟨_,rfl⟩
 rw [hx]
 have HY:Hid (wordE s=x):=hx
 clear hx
 by_cases hx0 : x = 0
 rotate_left
 ·have HE:Hid (endsE ts s i=x):=by
   show endsE ts s i = x
   unfold endsE
   rw [HX.out,if_pos rfl,HY.out,if_neg hx0]
  obtain ⟨d0,d1,d2,d3,d4,d5,d6,d7⟩:=HC2.out.gets
  have f0:=HC2.out.frozen 0
  have f1:=HC2.out.frozen 1
  have f2:=HC2.out.frozen 2
  have f3:=HC2.out.frozen 3
  have f4:=HC2.out.frozen 4
  have f5:=HC2.out.frozen 5
  have f6:=HC2.out.frozen 6
  have f7:=HC2.out.frozen 7
  go_wp2_with fail
  obtain ⟨h8,hB⟩:=st8 HC2.out HB2.out (Nat.le_refl _) (fun _=>0) rfl rfl rfl rfl rfl rfl rfl rfl
  refine bodyPost_ret (results_set_tmp rfl rfl h8) rfl ⟨0,?_,fun i _=>by simp,fun _=>rfl,fun h=>?_,hB⟩
  ·rw [HE.out]
   exact ret_set (fun k _=>by simp [word])
  ·exact absurd (HE.out.symm.trans h) hx0
 subst hx0
 by_cases hin : i < 0 ∨ (s.size : Int) < i
 ·have HE:Hid (endsE ts s i=11):=by
   show endsE ts s i = 11
   unfold endsE
   rw [HX.out,if_pos rfl,HY.out,if_pos rfl,if_pos hin]
  obtain ⟨d0,d1,d2,d3,d4,d5,d6,d7⟩:=HC2.out.gets
  have f0:=HC2.out.frozen 0
  have f1:=HC2.out.frozen 1
  have f2:=HC2.out.frozen 2
  have f3:=HC2.out.frozen 3
  have f4:=HC2.out.frozen 4
  have f5:=HC2.out.frozen 5
  have f6:=HC2.out.frozen 6
  have f7:=HC2.out.frozen 7
  by_cases hn : i < 0
  ·clear hin
   go_wp2_with fail
   obtain ⟨h8,hB⟩:=st8 HC2.out HB2.out (Nat.le_refl _) (fun _=>0) rfl rfl rfl rfl rfl rfl rfl rfl
   refine bodyPost_ret (results_set_tmp rfl rfl h8) rfl ⟨0,?_,fun i _=>by simp,fun _=>rfl,fun h=>?_,hB⟩
   ·rw [HE.out]
    exact ret_set (fun k _=>by simp [word])
   ·exact absurd (HE.out.symm.trans h) (by decide)
  ·have hg:(s.size:Int)<i:=by omega
   clear hin
   go_wp2_with fail
   obtain ⟨h8,hB⟩:=st8 HC2.out HB2.out (Nat.le_refl _) (fun _=>0) rfl rfl rfl rfl rfl rfl rfl rfl
   refine bodyPost_ret (results_set_tmp rfl rfl h8) rfl ⟨0,?_,fun i _=>by simp,fun _=>rfl,fun h=>?_,hB⟩
   ·rw [HE.out]
    exact ret_set (fun k _=>by simp [word])
   ·exact absurd (HE.out.symm.trans h) (by decide)
 ·obtain ⟨n,rfl⟩:∃ n:Nat,i=n:=⟨i.toNat,by omega⟩
  have hn:n≤s.size:=by omega
  have hnI:¬ (s.size:Int)<n:=by omega
  have HE:Hid (endsE ts s n=0):=by
   show endsE ts s n = 0
   unfold endsE
   rw [HX.out,if_pos rfl,HY.out,if_pos rfl,if_neg hin]
  clear hin
  obtain ⟨hl4,hfr⟩:=wrong_zero HX.out
  obtain ⟨t,ht,hfl⟩:=tr_of _ ts (Nat.le_refl _) hfr
  have hs5:=wordE_zero HY.out
  have HALL:Hid (Calls Tryz.prog 50 #[.slice va L vcap,.string s] w2 fun e w'=>∃ u,e=.returned u∧∃ r,OwnR w2.heap.size w' u r∧RowOk (Lg t) (wl s) r∧Below w2.heap.size w2 w'):=by
   refine rall6_any hs5 ht ?_ (by rw [hfl];exact hl4) (by rw [hfl];exact HV.out.stay HB2.out)
   intro x hx
   rw [hfl] at hx
   obtain ⟨j,hj,rfl⟩:=List.getElem_of_mem hx
   have:=good_all hfr hj
   rw [List.getD_eq_getElem?_getD,List.getElem?_eq_getElem hj] at this
   exact this
  have HSW:Hid (s.size≤511∧n≤s.size):=⟨hs5,hn⟩
  have HTR:Hid (t.ok∧t.flat=ts):=⟨ht,hfl⟩
  clear hs5 hfl hfr hl4 ht
  go_wp2_with fail
  refine HALL.out.mono ?_
  rintro e w3 ⟨u,rfl,r,ho,hrow,hb3⟩
  have hrl:r.length=s.size+1:=by rw [hrow.1,wl_len]
  obtain ⟨gu,cu,hu,_⟩:=ho.block (by omega)
  subst hu
  obtain ⟨N,hN⟩:∃ N,r.length=N:=⟨_,rfl⟩
  rw [hN] at ho ⊢
  obtain ⟨⟨a0,a1,a2,a3,a4,a5,a6,a7⟩,_⟩:=ho.at8 hN n (by omega)
  have hgl:=ho.low.2
  have hnN:(n:Int)<N:=by omega
  have HC3:Hid (Cells8 w3 w.heap.size (fun _=>0)):=HC2.out.stay hb3
  have HB3:Hid (Below w.heap.size w w3):=go_on HB2.out hb3
  have HO:Hid (EndsOk (Lg t) (wl s) n (r.getD n 0)):=hrow.2 n (by rw [wl_len];exact hn)
  obtain ⟨X,hX⟩:∃ X,r.getD n 0=X:=⟨_,rfl⟩
  rw [hX] at HO a0 a1 a2 a3 a4 a5 a6 a7
  obtain ⟨d0,d1,d2,d3,d4,d5,d6,d7⟩:=HC3.out.gets
  have f0:=HC3.out.frozen 0
  have f1:=HC3.out.frozen 1
  have f2:=HC3.out.frozen 2
  have f3:=HC3.out.frozen 3
  have f4:=HC3.out.frozen 4
  have f5:=HC3.out.frozen 5
  have f6:=HC3.out.frozen 6
  have f7:=HC3.out.frozen 7
  clear hX hb3 hrow hrl hN ho HC2 HB2 HALL
  go_wp2_with fail
  obtain ⟨h8,hB⟩:=st8 HC3.out HB3.out (Nat.le_refl _) (word X) rfl rfl rfl rfl rfl rfl rfl rfl
  refine bodyPost_ret (results_set_tmp rfl rfl h8) rfl ⟨X,?_,ends_fits HO.out (by rw [wl_len];exact HSW.out.1),fun h=>absurd HE.out h,fun _ t' ht' hf'=>?_,hB⟩
  ·rw [HE.out]
   rfl
  ·have e1:=run_flat t HTR.out.1 [] []
   have e2:=run_flat t' ht' [] []
   rw [List.append_nil,HTR.out.2] at e1
   rw [List.append_nil,hf',e1] at e2
   simp only [runR,Option.some.injEq,List.cons.injEq,and_true] at e2
   rw [← e2,Int.toNat_natCast]
   exact HO.out

/-- What Member answers, by its error. -/
def MemP (ts : List Nd) (s : ByteArray) (w : World) (x : Int) (e : Ending) (w' : World) : Prop :=
 ∃ b:Bool,e=.returned (.tuple #[.bool b,.int .i64 x])∧(x≠0→b=false)∧(x=0→∀ t:Tr,t.ok→t.flat=ts→(b=true↔Lg t (wl s)))∧Below w.heap.size w w'

set_option maxHeartbeats 2000000 in
set_option maxRecDepth 100000 in
theorem rMember6_any {w : World} {v : Value} {ts : List Nd} (s : ByteArray) (hv : NReads w v ts) (hm : ts.length ≤ 9223372036854775806) (hsm : s.size ≤ 9223372036854775806) :
  Calls Tryz.prog 19 #[v,.string s] w fun e w'=>∃ b:Bool,e=.returned (.tuple #[.bool b,.int .i64 (endsE ts s 0)])∧(endsE ts s 0≠0→b=false)∧(endsE ts s 0=0→∀ t:Tr,t.ok→t.flat=ts→(b=true↔Lg t (wl s)))∧Below w.heap.size w w':=by
 have HE:Hid (∀ W,Below w.heap.size w W→Calls Tryz.prog 32 #[v,.string s,.int .i64 0] W fun e w'=>∃ M,e=.returned (.tuple #[setV M,.int .i64 (endsE ts s 0)])∧Fits M∧(endsE ts s 0≠0→M=0)∧(endsE ts s 0=0→∀ t:Tr,t.ok→t.flat=ts→EndsOk (Lg t) (wl s) (0:Int).toNat M)∧Below W.heap.size W w'):=fun W hb=>rEnds6_any s 0 (hv.stay hb) hm hsm
 have hsz:endsE ts s 0=0→s.size≤511:=fun h=>by
  unfold endsE at h
  by_cases h1 : wrong ts = 0
  ·rw [if_pos h1] at h
   by_cases h2 : wordE s = 0
   ·exact wordE_zero h2
   ·rw [if_neg h2] at h;exact absurd h h2
  ·rw [if_neg h1] at h;exact absurd h h1
 obtain ⟨x,hx⟩:∃ x,endsE ts s 0=x:=⟨_,rfl⟩
 rw [hx] at HE hsz ⊢
 have HSZ:Hid (x=0→s.size≤511):=hsz
 clear hv hm hx hsz
 show Calls Tryz.prog 19 #[v,.string s] w (MemP ts s w x)
 go_enter Tryz.func19,Tryz.ntmps19
 go_wp2_with fail
 refine (HE.out _ (by first | exact Below.refl _ _ | exact (Below.refl _ _).alloc (Nat.le_refl _) _)).mono ?_
 rintro e w1 ⟨M,rfl,hf,h1,h2,hb1⟩
 have HF:Hid ((x≠0→M=0)∧(x=0→∀ t:Tr,t.ok→t.flat=ts→EndsOk (Lg t) (wl s) (0:Int).toNat M)):=⟨h1,h2⟩
 clear h1 h2
 have HHAS:Hid (∀ W,Calls Tryz.prog 33 #[.agg #[.int .u64 (word M 0:Nat),.int .u64 (word M 1:Nat),.int .u64 (word M 2:Nat),.int .u64 (word M 3:Nat),.int .u64 (word M 4:Nat),.int .u64 (word M 5:Nat),.int .u64 (word M 6:Nat),.int .u64 (word M 7:Nat)],.int .i64 (s.size:Int)] W fun e w'=>e=.returned (.bool (hasN M s.size))∧Below W.heap.size W w'):=fun W=>rhas_any M s.size W
 have HB1:Hid (Below w.heap.size w (w1.alloc (.cells #[.int .u64 (word M 0:Nat),.int .u64 (word M 1:Nat),.int .u64 (word M 2:Nat),.int .u64 (word M 3:Nat),.int .u64 (word M 4:Nat),.int .u64 (word M 5:Nat),.int .u64 (word M 6:Nat),.int .u64 (word M 7:Nat)] 61))):=hb1.alloc hb1.size _
 clear hb1
 unfold setV cellsF
 by_cases hx0 : x = 0
 ·subst hx0
  go_wp2_with fail
  refine (HHAS.out _).mono ?_
  rintro e w2 ⟨rfl,hb2⟩
  have HB2:Hid (Below w.heap.size w w2):=go_on HB1.out hb2
  obtain ⟨b,hb⟩:∃ b,hasN M s.size=b:=⟨_,rfl⟩
  have HBB:Hid (hasN M s.size=b):=hb
  rw [hb]
  clear hb hb2 HB1 HHAS
  go_wp2_with fail
  go_ret2
  refine ⟨b,rfl,fun h=>absurd rfl h,fun h t ht hf=>?_,HB2.out⟩
  have hs:=HSZ.out (by trivial)
  have h2:=HF.out.2 (by trivial) t ht hf s.size
  have e0:(0:Int).toNat=0:=rfl
  rw [← HBB.out,hasN_end M _ hs,h2,wl_len,← wl_len,e0,sub_all]
  simp
 ·go_wp2_with fail
  go_ret2
  exact ⟨false,rfl,fun _=>rfl,fun h=>absurd h hx0,HB1.out⟩

theorem rNullable6_any {w : World} {v : Value} {ts : List Nd} (hv : NReads w v ts) (hm : ts.length ≤ 9223372036854775806) :
  Calls Tryz.prog 73 #[v] w fun e w'=>∃ b:Bool,e=.returned (.tuple #[.bool b,.int .i64 (wrong ts)])∧(wrong ts≠0→b=false)∧(wrong ts=0→∀ t:Tr,t.ok→t.flat=ts→(b=true↔Lg t []))∧Below w.heap.size w w':=by
 have hE:endsE ts ⟨#[]⟩ 0=wrong ts:=by
  unfold endsE
  have h1:wordE ⟨#[]⟩=0:=by decide
  rw [h1,if_pos rfl]
  by_cases h0 : wrong ts = 0
  ·rw [if_pos h0,h0];rfl
  ·rw [if_neg h0]
 have HE:Hid (Calls Tryz.prog 19 #[v,.string ⟨#[]⟩] w fun e w'=>∃ b:Bool,e=.returned (.tuple #[.bool b,.int .i64 (wrong ts)])∧(wrong ts≠0→b=false)∧(wrong ts=0→∀ t:Tr,t.ok→t.flat=ts→(b=true↔Lg t (wl ⟨#[]⟩)))∧Below w.heap.size w w'):=by
  have:=rMember6_any (w:=w) (v:=v) ⟨#[]⟩ hv hm (by decide)
  rw [hE] at this
  exact this
 clear hv hm hE
 obtain ⟨x,hx⟩:∃ x,wrong ts=x:=⟨_,rfl⟩
 rw [hx] at HE ⊢
 clear hx
 go_enter Tryz.func73,Tryz.ntmps73
 go_wp2_with fail
 refine HE.out.mono ?_
 rintro e w1 ⟨b,rfl,h1,h2,hb1⟩
 have HF:Hid ((x≠0→b=false)∧(x=0→∀ t:Tr,t.ok→t.flat=ts→(b=true↔Lg t (wl ⟨#[]⟩)))):=⟨h1,h2⟩
 clear h1 h2
 go_wp2_with fail
 go_ret2
 exact ⟨b,rfl,HF.out.1,HF.out.2,hb1⟩
end Go.Proofs.YtfdhaknecjcjoaaGreatDoor

namespace Go.Proofs.YtfdhaknecjcjoaaGreatDoor
open Go Go.RowKit
set_option linter.unusedVariables false

end Go.Proofs.YtfdhaknecjcjoaaGreatDoor
