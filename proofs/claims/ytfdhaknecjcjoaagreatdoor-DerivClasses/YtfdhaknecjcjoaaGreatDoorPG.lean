/- Eg Eh, in one text. -/
import Derived.Test.YtfdhaknecjcjoaaGreatDoorPEf
import Derived.Test.YtfdhaknecjcjoaaGreatDoorPGc
import Derived.Deep.RegionWith
namespace Go.Proofs.YtfdhaknecjcjoaaGreatDoor
open Go Go.RowKit Go.Lib
set_option linter.unusedVariables false

/-- The first i and the last i places changed about. -/
def irevTo (l:List Nat) (i:Nat):List Nat:=List.ofFn (n:=l.length) fun t=>if t.val<i∨l.length≤t.val+i then l.getD (l.length - 1 - t.val) 0 else l.getD t.val 0
theorem irevTo_length (l:List Nat) (i:Nat):(irevTo l i).length=l.length:=by simp [irevTo]
theorem irevTo_get (l:List Nat) (i t:Nat) (h:t<l.length):(irevTo l i)[t]?=some (if t<i∨l.length≤t+i then l.getD (l.length - 1 - t) 0 else l.getD t 0):=by
 simp [irevTo,h]
theorem irevTo_zero (l:List Nat):irevTo l 0=l:=by
 apply List.ext_getElem?
 intro t
 by_cases h : t < l.length
 ·rw [irevTo_get l 0 t h,if_neg (by omega)]
  simp [h]
 ·rw [List.getElem?_eq_none (by rw [irevTo_length];omega),List.getElem?_eq_none (by omega)]
theorem irevTo_end (l:List Nat) (i:Nat) (h:l.length≤2 * i+1):irevTo l i=l.reverse:=by
 apply List.ext_getElem?
 intro t
 by_cases ht : t < l.length
 ·rw [irevTo_get l i t ht,List.getElem?_reverse ht]
  have e:∀ x,x<l.length→l[x]?=some (l.getD x 0):=fun x hx=>by simp [hx]
  by_cases hc : t < i ∨ l.length ≤ t + i
  ·rw [if_pos hc,e _ (by omega)]
  ·rw [if_neg hc]
   have:l.length - 1 - t=t:=by omega
   rw [this,e t ht]
 ·rw [List.getElem?_eq_none (by rw [irevTo_length];omega),List.getElem?_eq_none (by simp;omega)]
theorem irevTo_step (l : List Nat) (i : Nat) (h : 2 * i + 1 < l.length) :
  irevTo l (i+1)=((irevTo l i).set i (l.getD (l.length - 1 - i) 0)).set (l.length - 1 - i) (l.getD i 0):=by
 apply List.ext_getElem?
 intro t
 by_cases ht : t < l.length
 ·rw [irevTo_get l (i + 1) t ht]
  simp only [List.getElem?_set,List.length_set,irevTo_length]
  by_cases h1 : l.length - 1 - i = t
  ·rw [if_pos h1,if_pos (by omega),if_pos (by omega)]
   have:l.length - 1 - t=i:=by omega
   rw [this]
  ·rw [if_neg h1]
   by_cases h2 : i = t
   ·rw [if_pos h2,if_pos (by omega),if_pos (by omega)]
    rw [h2]
   ·rw [if_neg h2,irevTo_get l i t ht]
    by_cases h3 : t < i ∨ l.length ≤ t + i
    ·rw [if_pos (by omega),if_pos h3]
    ·rw [if_neg (by omega),if_neg h3]
 ·rw [List.getElem?_eq_none (by rw [irevTo_length];omega),List.getElem?_eq_none (by simp [irevTo_length];omega)]

theorem nC_set (l:List Nat) (i:Nat) (c:Nat):(nC l).set i (Value.int .i64 (c:Int))=nC (l.set i c):=by
 simp [nC,List.map_set]
theorem nC_get (l:List Nat) (i:Nat) (c:Nat) (h:l[i]?=some c):(nC l)[i]?=some (Value.int .i64 (c:Int)):=by
 simp [nC,h]

theorem iswap_row {wr:World} {base g cap:Nat} {e:TypeId} {l:List Nat} {i:Nat} (hown:wr.ownsRow base e 1 (.slice (some ⟨g,0,none⟩) l.length cap) l.length (nC (irevTo l i))) (h:2 * i+1<l.length) :
  ((wr.setCell ⟨g,i,none⟩ (.int .i64 ((l.getD (l.length - 1 - i) 0:Nat):Int))).setCell ⟨g,l.length - 1 - i,none⟩ (.int .i64 ((l.getD i 0:Nat):Int))).ownsRow base e 1 (.slice (some ⟨g,0,none⟩) l.length cap) l.length (nC (irevTo l (i+1))):=by
 have s:=((hown.stored i (.int .i64 ((l.getD (l.length - 1 - i) 0:Nat):Int))).1.stored (l.length - 1 - i) (.int .i64 ((l.getD i 0:Nat):Int))).1
 rw [nC_set,nC_set,← irevTo_step l i h] at s
 exact s

set_option maxHeartbeats 1000000 in
set_option maxRecDepth 100000 in
theorem irev_own (base g cap:Nat) (l:List Nat) (w:World) (hown:w.ownsRow base 3 1 (.slice (some ⟨g,0,none⟩) l.length cap) l.length (nC l)) (hl:l.length≤9223372036854775807) (B:Nat) (hB:B≤g) :
  Calls Tryz.prog 117 #[.slice (some ⟨g,0,none⟩) l.length cap] w fun e w'=>e=.returned (.tuple #[])∧w'.ownsRow base 3 1 (.slice (some ⟨g,0,none⟩) l.length cap) l.length (nC l.reverse)∧Below B w w':=by
 go_enter Tryz.func117,Tryz.ntmps117
 go_wp2
 go_loopw [2,3] (fun s2 s3 wr=>∃ (i:Nat),s2=.int .i64 i∧s3=.int .i64 ((l.length:Int) - 1 - i)∧2 * i≤l.length+1∧wr.ownsRow base 3 1 (.slice (some ⟨g,0,none⟩) l.length cap) l.length (nC (irevTo l i))∧Below B w wr)
  (fun s2 _ _=>l.length - (intOf s2).toNat)
 case atStart=>exact ⟨0,rfl,by simp,by omega,by rw [irevTo_zero];exact hown,Below.refl _ _⟩
 case round =>
  obtain ⟨i,rfl,rfl,hi,hown,hb⟩:=hrel
  by_cases hlt : 2 * i + 1 < l.length
  ·have ci:=hown.cellAt i (by omega)
   have cj:=hown.cellAt (l.length - 1 - i) (by omega)
   have fi:=hown.frozenAt i
   have fj:=hown.frozenAt (l.length - 1 - i)
   have R:=iswap_row hown hlt
   rw [nC_get _ _ _ (irevTo_get l i i (by omega)),if_neg (by omega)] at ci
   rw [nC_get _ _ _ (irevTo_get l i (l.length - 1 - i) (by omega)),if_neg (by omega)] at cj
   obtain ⟨j,hj⟩:∃ j,l.length - 1 - i=j:=⟨_,rfl⟩
   rw [hj] at cj fj R
   have ej:((l.length:Int) - 1 - i)=(j:Int):=by omega
   have h1:(i:Int)<j:=by omega
   have h2:j<l.length:=by omega
   have h3:i<l.length:=by omega
   rw [ej]
   have HR:Hid _:=R
   have HJ:Hid (l.length - 1 - i=j):=hj
   clear R hj ej
   generalize l.getD i 0 = x at *
   generalize l.getD j 0 = y at *
   go_wp2_with fail
   go_region
   go_wp2
   go_roundw
   case rel =>
    have hJ:=HJ.out
    exact ⟨i+1,by go_num,congrArg (Value.int .i64) (by omega),by omega,World.ownsRow.drew HR.out,((hb.setCell (p:=⟨g,i,none⟩) hB _).setCell (p:=⟨g,j,none⟩) hB _).drew⟩
   case measure=>simp [intOf];omega
  ·have h1:¬ (i:Int)<(l.length:Int) - 1 - i:=by omega
   go_wp2
   go_end0
   have he:=irevTo_end l i (by omega)
   exact ⟨rfl,by rw [← he];exact hown,hb⟩

set_option maxHeartbeats 400000 in
/-- The same at a slice of no bytes. -/
theorem irev_none (a : Option Addr) (cap : Nat) (w : World) :
  Calls Tryz.prog 117 #[.slice a 0 cap] w fun e w'=>e=.returned (.tuple #[])∧w'=w:=by
 go_enter Tryz.func117,Tryz.ntmps117
 go_wp2
 refine wp_loop_rounds 1 ?_
 rw [rounds_succ]
 go_wp2
 go_end0
 exact ⟨rfl,rfl⟩

theorem irev_any (base : Nat) (v : Value) (l : List Nat) (w : World) (hown : w.ownsRow base 3 1 v l.length (nC l)) (hl : l.length ≤ 9223372036854775807) :
  Calls Tryz.prog 117 #[v] w fun e w'=>e=.returned (.tuple #[])∧w'.ownsRow base 3 1 v l.length (nC l.reverse)∧Below base w w':=by
 obtain ⟨h0,h⟩:=hown
 rcases h with ⟨rfl,hn⟩ | ⟨g,cap,cur,rfl,hb,h1,h2,h3,h4,h5⟩
 ·have:l=[]:=List.eq_nil_of_length_eq_zero hn
  subst this
  refine (irev_none none 0 w).mono ?_
  rintro e w1 ⟨rfl,rfl⟩
  exact ⟨rfl,World.ownsRow_nil _ _ _ _,Below.refl _ _⟩
 ·exact irev_own base g cap l w ⟨h0,.inr ⟨g,cap,cur,rfl,hb,h1,h2,h3,h4,h5⟩⟩ hl base hb
theorem spP_len (k:Int):∀ (x:Tr) (p:Nat),(spP k p x).length≤x.flat.length
 | .zero n,p=>by simp [spP,Tr.flat]
 | .one n a,p=>by simp [spP,Tr.flat]
 | .two n a b,p=>by
  have:=spP_len k a p
  rw [spP]
  split
  ·simp [Tr.flat];omega
  ·simp [Tr.flat];omega
theorem rwP_len:∀ (x:Tr) (p:Nat),(rwP p x).length≤x.flat.length
 | .zero n,p=>by simp [rwP,Tr.flat]
 | .one n a,p=>by simp [rwP,Tr.flat]
 | .two n a b,p=>by
  have:=rwP_len b (p+a.flat.length)
  have:=flat_pos a
  rw [rwP]
  split
  ·split
   ·simp [Tr.flat];omega
   ·simp [Tr.flat];omega
  ·simp [Tr.flat];omega
/-- The node at a tree's root, in memory. -/
theorem DForm.node {w:World} {T:Tr} {a:Option Addr} {cap gb:Nat} (h:DForm w T a cap gb) {p:Nat} {x:Tr} (hx:Sit T.flat (T.bg 0) p x):∃ g o,a=some ⟨g,o,none⟩∧g<w.heap.size∧w.cell? ⟨g,o+rt (p,x) * 2,none⟩=some (.int .i64 x.root.1)∧w.cell? ⟨g,o+rt (p,x) * 2+1,none⟩=some (.int .u8 x.root.2)∧rt (p,x)<T.flat.length:=by
 have hle:=hx.le
 have hp:=flat_pos x
 have hr:=hx.root.1
 obtain ⟨a',cap',e,hrd⟩:=h.rd
 cases e
 have hlt:rt (p,x)<T.flat.length:=by unfold rt;show p+x.flat.length - 1<_;omega
 obtain ⟨g,o,rfl,hg,h1,h2⟩:=hrd _ hlt
 rw [show T.flat.getD (rt (p,x)) (0,0)=x.root from hr] at h1 h2
 exact ⟨g,o,rfl,hg,h1,h2,hlt⟩

set_option maxHeartbeats 4000000 in
set_option maxRecDepth 100000 in
theorem dmembers_any {w : World} {T : Tr} {a : Option Addr} {cap gb : Nat} (h : DForm w T a cap gb) {k : Int} (hk : k = 5 ∨ k = 6) {p : Nat} {x : Tr} (hx : Sit T.flat (T.bg 0) p x) (ho : x.ok) (hxk : x.root.1 = k) :
  Calls Tryz.prog 90 #[dfV T a cap gb,.int .i64 (rt (p,x):Nat)] w fun e w'=>∃ u,e=.returned u∧w'.ownsRow w.heap.size 3 1 u (spP k p x).length (nC ((spP k p x).map rt))∧Below w.heap.size w w':=by
 have HD:Hid (DForm w T a cap gb):=h
 have hl:=h.len
 obtain ⟨g,o,rfl,hg,hk0,_,hr0⟩:=h.node hx
 rw [hxk] at hk0
 have HX:Hid (Sit T.flat (T.bg 0) p x):=hx
 have HO:Hid x.ok:=ho
 have HK:Hid (k=5∨k=6):=hk
 have HSL:Hid ((spP k p x).length≤4000):=Nat.le_trans (spP_len k x p) (by have:=hx.le;omega)
 unfold dfV at *
 obtain ⟨n,hn⟩:∃ n,T.flat.length=n:=⟨_,rfl⟩
 have HN:Hid (T.flat.length=n):=hn
 rw [hn] at hl hr0 ⊢
 obtain ⟨i0,hi,hz0,hz1,hz2⟩:=info_parts Tryz.info_int
 have hr0I:((rt (p,x):Nat):Int)<n:=by omega
 have hk2:∀ O,(w.alloc O).cell? ⟨g,o+rt (p,x) * 2,none⟩=some (.int .i64 k):=fun O=>by rw [below_cell ((Below.refl w.heap.size w).alloc (Nat.le_refl _) O) hg];exact hk0
 clear h hx ho hk hxk hn hk0
 go_enter Tryz.func90,Tryz.ntmps90
 go_wp2_with fail
 clear hk2
 go_loopw [6,1] (fun vs vr wr=>∃ (y:Tr) (Mm:List (Nat × Tr)) (v:Value),v=vs∧vr=.int .i64 (rt (p,y):Nat)∧Sit T.flat (T.bg 0) p y∧y.ok∧spP k p x=spP k p y ++ Mm∧wr.ownsRow (w.heap.size+1) 3 1 v Mm.length (nC ((Mm.map rt).reverse))∧FB w (.slice (some ⟨g,o,none⟩) n cap) (.slice (some ⟨gb,0,none⟩) n n) wr) (fun _ vr _=>(intOf vr).toNat)
 case atStart=>exact ⟨x,[],_,rfl,rfl,HX.out,HO.out,by simp,World.ownsRow_nil _ _ _ _,fb_new w _ _ _⟩
 case round =>
  obtain ⟨y,Mm,v,rfl,rfl,hsy,hoy,hsp,hown,hfb⟩:=hrel
  have hdy:=HD.out.stay hfb.2.2.2
  obtain ⟨g',o',e,hg',hc1,hc2,hlt⟩:=hdy.node hsy
  cases e
  rw [HN.out] at hlt
  have hltI:((rt (p,y):Nat):Int)<n:=by omega
  have HML:Hid (Mm.length+1≤4000):=by
   have h1:(spP k p x).length≤4000:=HSL.out
   rw [hsp,List.length_append] at h1
   have h2:1≤(spP k p y).length:=by
    cases y with
    | zero n=>simp [spP]
    | one n a=>simp [spP]
    | two n a b=>rw [spP];split <;> simp
   show _ ≤ _
   omega
  have HOWN:Hid (wr.ownsRow (w.heap.size+1) 3 1 v Mm.length (nC ((Mm.map rt).reverse))):=hown
  have HFB:Hid (FB w (.slice (some ⟨g,o,none⟩) n cap) (.slice (some ⟨gb,0,none⟩) n n) wr):=hfb
  have HSP:Hid (spP k p x=spP k p y ++ Mm):=hsp
  have HSY:Hid _:=hsy
  have HDY:Hid (DForm wr T (some ⟨g,o,none⟩) cap gb):=hdy
  have hML:Mm.length+1≤4000:=HML.out
  obtain ⟨b0,b1,b2,b3⟩:=hfb
  by_cases hky : y.root.1 = k
  ·cases y with
   | zero n'=>exact absurd hoy.2 (by have:=HK.out;simp only [Tr.root] at hky;rw [hky];rcases this with rfl | rfl <;> decide)
   | one n' y1=>exact absurd hoy.2.1 (by have:=HK.out;simp only [Tr.root] at hky;rw [hky];rcases this with rfl | rfl <;> decide)
   | two n' y1 y2 =>
    simp only [Tr.root] at hky hc1
    rw [hky] at hc1
    have hp1:=flat_pos y1
    have hp2:=flat_pos y2
    have hrt:rt (p,.two n' y1 y2)=p+y1.flat.length+y2.flat.length:=by simp [rt,Tr.flat];omega
    have hbg:=hsy.right.root.2
    have HRT2:Hid (rt (p+y1.flat.length,y2)=rt (p,.two n' y1 y2) - 1):=by show _=_;rw [hrt];simp [rt]
    have HRT1:Hid (rt (p,y1)=p+y1.flat.length - 1):=by show _=_;simp [rt]
    have HF:Hid (∀ w1,Below w.heap.size w w1→Calls Tryz.prog 116 #[.agg #[.slice (some ⟨g,o,none⟩) n cap,.slice (some ⟨gb,0,none⟩) n n],.int .i64 (rt (p,.two n' y1 y2):Nat)] w1 fun e w'=>e=.returned (.int .i64 (rt (p,y1):Nat))∧Below w1.heap.size w1 w'):=by
     intro w1 hb1
     have:=first_any (HD.out.stay hb1) (rt (p,.two n' y1 y2)) (by rw [HN.out];exact hlt) (by omega) (by rw [hrt,hbg];omega)
     unfold dfV at this
     rw [HN.out] at this
     refine this.mono ?_
     rintro e w' ⟨rfl,hb⟩
     refine ⟨?_,hb⟩
     rw [hrt,hbg,HRT1.out]
    have HPY:Hid ((Tr.two n' y1 y2).ok∧n'.1=k):=⟨hoy,hky⟩
    have HRL:Hid (rt (p,y1)<rt (p,.two n' y1 y2)):=by show _<_;rw [hrt,HRT1.out];omega
    obtain ⟨r,hr⟩:∃ r,rt (p,.two n' y1 y2)=r:=⟨_,rfl⟩
    rw [hr] at hc1 hc2 hlt hltI HF HRL HRT2 ⊢
    have hr1:1≤r:=by omega
    have hkb:(k == k)=true:=by simp
    clear hsy hoy hsp hown hdy hrt hbg hr
    go_wp2_with (at_builtin;refine wpList_append_own _ rfl _ _ 66 rfl (w.heap.size+1) 3 i0 (.int .i64 0) 1 8 Tryz.underlying66 hi hz0 hz1 hz2 rfl (by decide) _ _ _ rfl (HOWN.out.alloc _) ⟨wr.heap.size,0,none⟩ 1 1 [.int .i64 ((r:Int) - 1)] rfl rfl (cell_one_new _ _ _) (by simp [Value.oneCell']) (by unfold maxLen;omega) (by omega) (by simp;omega) ?_;intro v9 w9 ho9 hg9 _;have hf9:=fb_grown hg9 (fb_alloc _ HFB.out) (fun b hb=>(HOWN.out.lt b hb).1);have HF9:Hid (FB w (.slice (some ⟨g,o,none⟩) n cap) (.slice (some ⟨gb,0,none⟩) n n) w9):=hf9;obtain ⟨d0,d1,d2,d3⟩:=hf9;have HO9:Hid (w9.ownsRow (w.heap.size+1) 3 1 v9 (Mm.length+1) (nC ((Mm.map rt).reverse) ++ [.int .i64 ((r:Int) - 1)])):=ho9;clear ho9 hg9)
    refine (HF.out _ HF9.out.2.2.2).mono ?_
    rintro e w10 ⟨rfl,hb10⟩
    have HB10:Hid _:=hb10
    clear hb10 d0 d1 d2 d3 b0 b1 b2 b3
    go_wp2_with fail
    go_roundw
    case rel =>
     refine ⟨y1,(p+y1.flat.length,y2) :: Mm,v9,rfl,rfl,HSY.out.left,HPY.out.1.2.2.1,?_,?_,fb_step HB10.out HF9.out⟩
     ·rw [HSP.out,spP,if_pos HPY.out.2];simp
     ·have h1:=own_below HO9.out HB10.out
      rw [List.map_cons,List.reverse_cons,nC_append,HRT2.out]
      rw [show ((r : Int) - 1) = ((r - 1 : Nat) : Int) by omega] at h1
      exact h1
    case measure=>simp [intOf];exact HRL.out
  ·have hkb:(y.root.1 == k)=false:=by simpa using hky
   have HKY:Hid (y.root.1≠k):=hky
   obtain ⟨r,hr⟩:∃ r,rt (p,y)=r:=⟨_,rfl⟩
   have HR:Hid (rt (p,y)=r):=hr
   rw [hr] at hc1 hc2 hlt hltI ⊢
   obtain ⟨ky,hkye⟩:∃ ky,y.root.1=ky:=⟨_,rfl⟩
   rw [hkye] at hc1 hkb
   clear hsy hoy hsp hown hdy hr hkye hky
   go_wp2_with (at_builtin;refine wpList_append_own _ rfl _ _ 66 rfl (w.heap.size+1) 3 i0 (.int .i64 0) 1 8 Tryz.underlying66 hi hz0 hz1 hz2 rfl (by decide) _ _ _ rfl (HOWN.out.alloc _) ⟨wr.heap.size,0,none⟩ 1 1 [.int .i64 (r:Int)] rfl rfl (cell_one_new _ _ _) (by simp [Value.oneCell']) (by unfold maxLen;omega) (by omega) (by simp;omega) ?_;intro v9 w9 ho9 hg9 _;have hf9:=fb_grown hg9 (fb_alloc _ HFB.out) (fun b hb=>(HOWN.out.lt b hb).1);have HF9:Hid (FB w (.slice (some ⟨g,o,none⟩) n cap) (.slice (some ⟨gb,0,none⟩) n n) w9):=hf9;have HO9:Hid (w9.ownsRow (w.heap.size+1) 3 1 v9 (Mm.length+1) (nC ((Mm.map rt).reverse) ++ [.int .i64 (r:Int)])):=ho9;clear ho9 hg9 hf9)
   have hL:nC ((Mm.map rt).reverse) ++ [.int .i64 (r:Int)]=nC ((Mm.map rt).reverse ++ [r]):=by rw [nC_append];rfl
   have hLl:((Mm.map rt).reverse ++ [r]).length=Mm.length+1:=by simp
   have h9:=HO9.out
   rw [hL,← hLl] at h9
   refine (irev_any _ v9 _ _ h9 (by rw [hLl];omega)).mono ?_
   rintro e w10 ⟨rfl,ho10,hb10⟩
   rw [List.reverse_append,List.reverse_reverse,List.reverse_singleton,hLl] at ho10
   have HO10:Hid (w10.ownsRow (w.heap.size+1) 3 1 v9 (Mm.length+1) (nC ([r] ++ Mm.map rt))):=ho10
   have HB10:Hid (Below (w.heap.size+1) w9 w10):=hb10
   clear h9 hL hLl ho10 hb10 b0 b1 b2 b3
   go_wp2_with fail
   go_ret
   refine ⟨_,rfl,?_,HF9.out.2.2.2.trans (HB10.out.mono (by omega))⟩
   rw [HSP.out,spP_other HKY.out,List.map_append,List.length_append]
   have h10:=own_mono (base':=w.heap.size) HO10.out (by omega)
   rw [show ([(p,y)]:List (Nat × Tr)).map rt=[r] by simp [HR.out],show ([(p,y)]:List (Nat × Tr)).length+Mm.length=Mm.length+1 by simp;omega]
   exact h10
end Go.Proofs.YtfdhaknecjcjoaaGreatDoor

namespace Go.Proofs.YtfdhaknecjcjoaaGreatDoor
open Go Go.RowKit Go.Lib
set_option linter.unusedVariables false

theorem ok_wrong {x:Tr} (h:x.ok) (hl:x.flat.length≤4000):wrong x.flat=0:=by
 unfold wrong
 rw [if_neg (by omega),if_pos (Tr.ok_free x h)]
theorem nm_one {w w1:World} (hb:Below w.heap.size w w1) {b:Nat} (e:b=w1.heap.size) (m:Nat):(w1.alloc (.cells #[.int .i64 (m:Int)] 3)).ownsRow w.heap.size 3 1 (.slice (some ⟨b,0,none⟩) 1 1) 1 (nC [m]):=by
 subst e
 exact ⟨rfl,.inr ⟨_,1,_,rfl,hb.size,heap_alloc_new w1 _,Nat.le_refl _,by decide,rfl,rfl⟩⟩
theorem nullable_nul {x : Tr} (ho : x.ok) (hl : x.flat.length ≤ 4000) {w1 : World} {v : Value} (hv : NReads w1 v x.flat) (hP : PTab w1) (hT : TzTab w1) :
  Calls Tryz.prog 118 #[v] w1 fun e w'=>e=.returned (.tuple #[.bool (nul x),.int .i64 0])∧Below w1.heap.size w1 w':=by
 have hw:=ok_wrong ho hl
 have:=mNullable_any hv (by omega) hP hT
 rw [hw] at this
 refine this.mono ?_
 rintro e w' ⟨b,he,_,hb,hB⟩
 have h2:=hb rfl x ho rfl
 have e2:nul x=b:=by
  cases b with
  | true=>exact (nul_iff x).2 (h2.1 rfl)
  | false =>
   cases hn : nul x with
   | false=>rfl
   | true=>exact absurd (h2.2 ((nul_iff x).1 hn)) (by simp)
 rw [e2]
 exact ⟨he,hB⟩

set_option maxHeartbeats 4000000 in
set_option maxRecDepth 100000 in
theorem drow_any {w : World} {T : Tr} {a : Option Addr} {cap gb : Nat} (h : DForm w T a cap gb) (hP : PTab w) (hT : TzTab w) {p : Nat} {x : Tr} (hx : Sit T.flat (T.bg 0) p x) (ho : x.ok) :
  Calls Tryz.prog 91 #[dfV T a cap gb,.int .i64 (rt (p,x):Nat)] w fun e w'=>∃ u,e=.returned u∧w'.ownsRow w.heap.size 3 1 u (rwP p x).length (nC ((rwP p x).map rt))∧Below w.heap.size w w':=by
 have HD:Hid (DForm w T a cap gb):=h
 have hl:=h.len
 obtain ⟨g,o,rfl,hg,_,_,hr0⟩:=h.node hx
 have HX:Hid (Sit T.flat (T.bg 0) p x):=hx
 have HO:Hid x.ok:=ho
 have HP:Hid (PTab w):=hP
 have HT:Hid (TzTab w):=hT
 have HSL:Hid ((rwP p x).length≤4000):=Nat.le_trans (rwP_len x p) (by have:=hx.le;omega)
 unfold dfV at *
 obtain ⟨n,hn⟩:∃ n,T.flat.length=n:=⟨_,rfl⟩
 have HN:Hid (T.flat.length=n):=hn
 rw [hn] at hl hr0 ⊢
 obtain ⟨i0,hi,hz0,hz1,hz2⟩:=info_parts Tryz.info_int
 clear h hx ho hn hP hT
 go_enter Tryz.func91,Tryz.ntmps91
 go_wp2_with fail
 go_loopw [5,6,1] (fun vs ve vr wr=>∃ (p':Nat) (y:Tr) (A:List (Nat × Tr)) (b:Bool) (v:Value),v=vs∧ve=.bool b∧vr=.int .i64 (rt (p',y):Nat)∧Sit T.flat (T.bg 0) p' y∧y.ok∧rwP p x=(if b=true then rwP p' y else []) ++ A.reverse∧wr.ownsRow (w.heap.size+1) 3 1 v A.length (nC (A.map rt))∧FB w (.slice (some ⟨g,o,none⟩) n cap) (.slice (some ⟨gb,0,none⟩) n n) wr) (fun _ _ vr _=>(intOf vr).toNat)
 case atStart=>exact ⟨p,x,[],true,_,rfl,rfl,rfl,HX.out,HO.out,by simp,World.ownsRow_nil _ _ _ _,fb_new w _ _ _⟩
 case round =>
  obtain ⟨p',y,A,b,v,rfl,rfl,rfl,hsy,hoy,hsp,hown,hfb⟩:=hrel
  have hdy:=HD.out.stay hfb.2.2.2
  obtain ⟨g',o',e,hg',hc1,hc2,hlt⟩:=hdy.node hsy
  cases e
  rw [HN.out] at hlt
  have hltI:((rt (p',y):Nat):Int)<n:=by omega
  have HML:Hid (A.length≤4000∧(b=true→A.length+1≤4000)):=by
   have h1:(rwP p x).length≤4000:=HSL.out
   rw [hsp,List.length_append,List.length_reverse] at h1
   refine ⟨by omega,fun hb=>?_⟩
   rw [if_pos hb] at h1
   have h2:1≤(rwP p' y).length:=by
    cases y with
    | zero n=>simp [rwP]
    | one n a=>simp [rwP]
    | two n a b=>rw [rwP];split <;> simp
   omega
  have HOWN:Hid (wr.ownsRow (w.heap.size+1) 3 1 v A.length (nC (A.map rt))):=hown
  have HFB:Hid (FB w (.slice (some ⟨g,o,none⟩) n cap) (.slice (some ⟨gb,0,none⟩) n n) wr):=hfb
  have HSP:Hid (rwP p x=(if b=true then rwP p' y else []) ++ A.reverse):=hsp
  have HSY:Hid (Sit T.flat (T.bg 0) p' y):=hsy
  obtain ⟨b0,b1,b2,b3⟩:=hfb
  cases b with
  | false =>
   have hL4:A.length≤4000:=HML.out.1
   clear hsy hoy hsp hown hdy
   go_wp2_with fail
   have h9:=HOWN.out
   rw [show A.length = (A.map rt).length by simp] at h9
   refine (irev_any _ v _ _ h9 (by rw [List.length_map];omega)).mono ?_
   rintro e w10 ⟨rfl,ho10,hb10⟩
   rw [List.length_map] at ho10
   have HO10:Hid (w10.ownsRow (w.heap.size+1) 3 1 v A.length (nC (A.map rt).reverse)):=ho10
   have HB10:Hid (Below (w.heap.size+1) wr w10):=hb10
   clear h9 ho10 hb10 b0 b1 b2 b3
   go_wp2_with fail
   go_ret
   refine ⟨_,rfl,?_,HFB.out.2.2.2.trans (HB10.out.mono (by omega))⟩
   have h10:=own_mono (base':=w.heap.size) HO10.out (by omega)
   rw [HSP.out]
   simp only [Bool.false_eq_true,if_false,List.nil_append,List.length_reverse,List.map_reverse]
   exact h10
  | true =>
   have hL4:A.length+1≤4000:=HML.out.2 rfl
   by_cases hky : y.root.1 = 7
   ·cases y with
    | zero n'=>exact absurd hoy.2 (by simp only [Tr.root] at hky;rw [hky];decide)
    | one n' y1=>exact absurd hoy.2.1 (by simp only [Tr.root] at hky;rw [hky];decide)
    | two n' y1 y2 =>
     simp only [Tr.root] at hky hc1
     rw [hky] at hc1
     have hp1:=flat_pos y1
     have hp2:=flat_pos y2
     have hrt:rt (p',.two n' y1 y2)=p'+y1.flat.length+y2.flat.length:=by simp [rt,Tr.flat];omega
     have hbg:=hsy.right.root.2
     have HRT2:Hid (rt (p'+y1.flat.length,y2)=rt (p',.two n' y1 y2) - 1):=by show _=_;rw [hrt];simp [rt]
     have HRT1:Hid (rt (p',y1)=p'+y1.flat.length - 1):=by show _=_;simp [rt]
     have HF:Hid (∀ w1,Below w.heap.size w w1→Calls Tryz.prog 116 #[.agg #[.slice (some ⟨g,o,none⟩) n cap,.slice (some ⟨gb,0,none⟩) n n],.int .i64 (rt (p',.two n' y1 y2):Nat)] w1 fun e w'=>e=.returned (.int .i64 (rt (p',y1):Nat))∧Below w1.heap.size w1 w'):=by
      intro w1 hb1
      have:=first_any (HD.out.stay hb1) (rt (p',.two n' y1 y2)) (by rw [HN.out];exact hlt) (by omega) (by rw [hrt,hbg];omega)
      unfold dfV at this
      rw [HN.out] at this
      refine this.mono ?_
      rintro e w' ⟨rfl,hb⟩
      refine ⟨?_,hb⟩
      rw [hrt,hbg,HRT1.out]
     have HTR:Hid (∀ w1,Below w.heap.size w w1→Calls Tryz.prog 60 #[.agg #[.slice (some ⟨g,o,none⟩) n cap,.slice (some ⟨gb,0,none⟩) n n],.int .i64 (rt (p',y1):Nat)] w1 fun e w'=>∃ v,e=.returned v∧NReads w' v y1.flat∧Below w1.heap.size w1 w'):=by
      intro w1 hb1
      have:=dtreeT (HD.out.stay hb1) hsy.left
      unfold dfV at this
      rw [HN.out] at this
      exact this
     have HNU:Hid (∀ w1 v,Below w.heap.size w w1→NReads w1 v y1.flat→Calls Tryz.prog 118 #[v] w1 fun e w'=>e=.returned (.tuple #[.bool (nul y1),.int .i64 0])∧Below w1.heap.size w1 w'):=fun w1 v hb hv =>
      nullable_nul hoy.2.2.1 (by have:=hsy.left.le;rw [HN.out] at this;omega) hv (HP.out.stay hb) (HT.out.stay hb)
     have HPY:Hid ((Tr.two n' y1 y2).ok∧n'.1=7):=⟨hoy,hky⟩
     obtain ⟨r,hr⟩:∃ r,rt (p',.two n' y1 y2)=r:=⟨_,rfl⟩
     rw [hr] at hc1 hc2 hlt hltI HF HRT2 ⊢
     obtain ⟨f,hf⟩:∃ f,rt (p',y1)=f:=⟨_,rfl⟩
     have HFE:Hid (rt (p',y1)=f):=hf
     rw [hf] at HF HTR
     obtain ⟨N1,hN1⟩:∃ N1,nul y1=N1:=⟨_,rfl⟩
     have HN1:Hid (nul y1=N1):=hN1
     rw [hN1] at HNU
     have hr1:1≤r:=by omega
     clear hsy hoy hsp hown hdy hrt hbg hr hf hN1
     go_wp2_with fail
     refine (HF.out _ b3).mono ?_
     rintro e w4 ⟨rfl,hb4⟩
     have HF4:Hid (FB w (.slice (some ⟨g,o,none⟩) n cap) (.slice (some ⟨gb,0,none⟩) n n) w4):=fb_step hb4 HFB.out
     have HO4:Hid (w4.ownsRow (w.heap.size+1) 3 1 v A.length (nC (A.map rt))):=own_below HOWN.out hb4
     clear hb4 b0 b1 b2 b3 HF
     have hs4:=HF4.out.2.2.1
     go_wp2_with (at_builtin;refine wpList_append_own _ rfl _ _ 66 rfl (w.heap.size+1) 3 i0 (.int .i64 0) 1 8 Tryz.underlying66 hi hz0 hz1 hz2 rfl (by decide) _ _ _ rfl (HO4.out.alloc _) ⟨w4.heap.size,0,none⟩ 1 1 [.int .i64 (f:Int)] rfl rfl (cell_one_new _ _ _) (by simp [Value.oneCell']) (by unfold maxLen;omega) (by omega) (by simp;omega) ?_;intro v9 w9 ho9 hg9 _;have hf9:=fb_grown hg9 (fb_alloc _ HF4.out) (fun b hb=>(HO4.out.lt b hb).1);have HF9:Hid (FB w (.slice (some ⟨g,o,none⟩) n cap) (.slice (some ⟨gb,0,none⟩) n n) w9):=hf9;obtain ⟨d0,d1,d2,d3⟩:=hf9;have HO9:Hid (w9.ownsRow (w.heap.size+1) 3 1 v9 (A.length+1) (nC (A.map rt) ++ [.int .i64 (f:Int)])):=ho9;clear ho9 hg9)
     refine (HTR.out _ HF9.out.2.2.2).mono ?_
     rintro e w5 ⟨vt,rfl,hvt,hb5⟩
     have HF5:Hid (FB w (.slice (some ⟨g,o,none⟩) n cap) (.slice (some ⟨gb,0,none⟩) n n) w5):=fb_step hb5 HF9.out
     have HO5:Hid (w5.ownsRow (w.heap.size+1) 3 1 v9 (A.length+1) (nC (A.map rt) ++ [.int .i64 (f:Int)])):=own_below HO9.out hb5
     have HV5:Hid (NReads w5 vt y1.flat):=hvt
     clear hb5 hvt d0 d1 d2 d3 HTR
     go_wp2_with fail
     refine (HNU.out _ _ HF5.out.2.2.2 HV5.out).mono ?_
     rintro e w6 ⟨rfl,hb6⟩
     have HF6:Hid (FB w (.slice (some ⟨g,o,none⟩) n cap) (.slice (some ⟨gb,0,none⟩) n n) w6):=fb_step hb6 HF5.out
     have HO6:Hid (w6.ownsRow (w.heap.size+1) 3 1 v9 (A.length+1) (nC (A.map rt) ++ [.int .i64 (f:Int)])):=own_below HO5.out hb6
     clear hb6 HNU
     go_wp2_with fail
     go_roundw
     case rel =>
      refine ⟨p'+y1.flat.length,y2,A ++ [(p',y1)],N1,v9,rfl,rfl,?_,HSY.out.right,HPY.out.1.2.2.2,?_,?_,HF6.out⟩
      ·rw [HRT2.out];congr 1;omega
      ·rw [HSP.out,if_pos trivial,rwP,if_pos HPY.out.2,HN1.out,List.reverse_append]
       simp
      ·rw [List.map_append,nC_append,List.length_append]
       have:=HO6.out
       rw [← HFE.out] at this
       exact this
     case measure=>simp [intOf];omega
   ·have hkb:(y.root.1 == 7)=false:=by simpa using hky
    have HKY:Hid (y.root.1≠7):=hky
    obtain ⟨r,hr⟩:∃ r,rt (p',y)=r:=⟨_,rfl⟩
    have HR:Hid (rt (p',y)=r):=hr
    rw [hr] at hc1 hc2 hlt hltI ⊢
    obtain ⟨ky,hkye⟩:∃ ky,y.root.1=ky:=⟨_,rfl⟩
    rw [hkye] at hc1 hkb
    clear hsy hoy hsp hown hdy hr hkye hky
    go_wp2_with (at_builtin;refine wpList_append_own _ rfl _ _ 66 rfl (w.heap.size+1) 3 i0 (.int .i64 0) 1 8 Tryz.underlying66 hi hz0 hz1 hz2 rfl (by decide) _ _ _ rfl (HOWN.out.alloc _) ⟨wr.heap.size,0,none⟩ 1 1 [.int .i64 (r:Int)] rfl rfl (cell_one_new _ _ _) (by simp [Value.oneCell']) (by unfold maxLen;omega) (by omega) (by simp;omega) ?_;intro v9 w9 ho9 hg9 _;have hf9:=fb_grown hg9 (fb_alloc _ HFB.out) (fun b hb=>(HOWN.out.lt b hb).1);have HF9:Hid (FB w (.slice (some ⟨g,o,none⟩) n cap) (.slice (some ⟨gb,0,none⟩) n n) w9):=hf9;have HO9:Hid (w9.ownsRow (w.heap.size+1) 3 1 v9 (A.length+1) (nC (A.map rt) ++ [.int .i64 (r:Int)])):=ho9;clear ho9 hg9 hf9)
    have hL:nC (A.map rt) ++ [.int .i64 (r:Int)]=nC (A.map rt ++ [r]):=by rw [nC_append];rfl
    have hLl:(A.map rt ++ [r]).length=A.length+1:=by simp
    have h9:=HO9.out
    rw [hL,← hLl] at h9
    refine (irev_any _ v9 _ _ h9 (by rw [hLl];omega)).mono ?_
    rintro e w10 ⟨rfl,ho10,hb10⟩
    rw [List.reverse_append,List.reverse_singleton,hLl] at ho10
    have HO10:Hid (w10.ownsRow (w.heap.size+1) 3 1 v9 (A.length+1) (nC ([r] ++ (A.map rt).reverse))):=ho10
    have HB10:Hid (Below (w.heap.size+1) w9 w10):=hb10
    clear h9 hL hLl ho10 hb10 b0 b1 b2 b3
    go_wp2_with fail
    go_ret
    refine ⟨_,rfl,?_,HF9.out.2.2.2.trans (HB10.out.mono (by omega))⟩
    rw [HSP.out,if_pos trivial,rwP_other HKY.out,List.map_append,List.length_append,List.length_reverse,List.map_reverse]
    have h10:=own_mono (base':=w.heap.size) HO10.out (by omega)
    rw [show ([(p',y)]:List (Nat × Tr)).map rt=[r] by simp [HR.out],show ([(p',y)]:List (Nat × Tr)).length+A.length=A.length+1 by simp;omega]
    exact h10

set_option maxHeartbeats 4000000 in
set_option maxRecDepth 100000 in
/-- named, of any tree that stands at its place. -/
theorem named_any {w : World} {T : Tr} {a : Option Addr} {cap gb : Nat} (h : DForm w T a cap gb) (hP : PTab w) (hT : TzTab w) (q : Nat × Tr) (hx : Sit T.flat (T.bg 0) q.1 q.2) (ho : q.2.ok) :
  Calls Tryz.prog 56 #[dfV T a cap gb,.int .i64 (rt q:Nat)] w (NmQ q w):=by
 obtain ⟨p,x⟩:=q
 simp only at hx ho
 have hl:=h.len
 have hM:∀ k,(k=5∨k=6)→x.root.1=k→Hid (∀ w1,Below w.heap.size w w1→Calls Tryz.prog 90 #[dfV T a cap gb,.int .i64 (rt (p,x):Nat)] w1 fun e w'=>∃ u,e=.returned u∧w'.ownsRow w1.heap.size 3 1 u (spP k p x).length (nC ((spP k p x).map rt))∧Below w1.heap.size w1 w'):=fun k hk hxk w1 hb=>dmembers_any (h.stay hb) hk hx ho hxk
 have hR:Hid (∀ w1,Below w.heap.size w w1→Calls Tryz.prog 91 #[dfV T a cap gb,.int .i64 (rt (p,x):Nat)] w1 fun e w'=>∃ u,e=.returned u∧w'.ownsRow w1.heap.size 3 1 u (rwP p x).length (nC ((rwP p x).map rt))∧Below w1.heap.size w1 w'):=fun w1 hb=>drow_any (h.stay hb) (hP.stay hb) (hT.stay hb) hx ho
 obtain ⟨g,o,rfl,hg,hc1,hc2,hlt⟩:=h.node hx
 have hB:Hid (∀ O,Below w.heap.size w (w.alloc O)):=fun O=>(Below.refl _ _).alloc (Nat.le_refl _) _
 unfold dfV at *
 obtain ⟨n,hn⟩:∃ n,T.flat.length=n:=⟨_,rfl⟩
 rw [hn] at hl hlt hR hM ⊢
 have hltI:((rt (p,x):Nat):Int)<n:=by omega
 have hk2:∀ O,(w.alloc O).cell? ⟨g,o+rt (p,x) * 2,none⟩=some (.int .i64 x.root.1):=fun O=>by rw [below_cell (hB.out O) hg];exact hc1
 unfold NmQ
 clear h hP hT hx hn hc1 hc2
 cases x with
 | zero n' =>
  have hk:n'.1=1∨n'.1=2∨n'.1=3∨n'.1=4:=by
   have h1:=good_kind ho.1
   have h2:=ho.2
   unfold arity at h2
   split at h2
   ·omega
   ·split at h2 <;> omega
  simp only [Tr.root] at hk2
  clear hM hR
  rcases hk with hk | hk | hk | hk
  all_goals
   rw [hk] at hk2
   go_enter Tryz.func56,Tryz.ntmps56
   go_wp2_with fail
   go_ret
   exact ⟨_,rfl,⟨rfl,.inl ⟨rfl,rfl⟩⟩,hB.out _⟩
 | one n' x1 =>
  have hk:n'.1=8∨n'.1=9:=ar1 ho.2.1
  have hp1:=flat_pos x1
  have HRT:Hid (rt (p,x1)=rt (p,.one n' x1) - 1):=by show _=_;simp [rt,Tr.flat]
  have hr1:1≤rt (p,.one n' x1):=by simp [rt,Tr.flat];omega
  simp only [Tr.root] at hk2
  clear hM hR
  rcases hk with hk | hk
  all_goals
   rw [hk] at hk2
   obtain ⟨r,hr⟩:∃ r,rt (p,.one n' x1)=r:=⟨_,rfl⟩
   rw [hr] at hk2 hlt hltI HRT hr1 ⊢
   go_enter Tryz.func56,Tryz.ntmps56
   go_wp2_with fail
   go_ret
   have HI:((r:Int) - 1)=((r - 1:Nat):Int):=by omega
   rw [HI]
   refine ⟨.slice (some ⟨w.heap.size+1,0,none⟩) 1 1,rfl,?_,(hB.out _).alloc (hB.out _).size _⟩
   have:=nm_one (b:=w.heap.size+1) (hB.out (.cells #[.slice (some ⟨g,o,none⟩) n cap,.slice (some ⟨gb,0,none⟩) n n] 73)) (by simp) (r - 1)
   rw [← HRT.out] at this ⊢
   exact this
 | two n' x1 x2 =>
  have hk:=ar2 ho.2.1
  simp only [Tr.root] at hk2 hM
  rcases hk with hk | hk | hk
  ·have hm:=hM 5 (.inl rfl) hk
   rw [hk] at hk2
   have e:kids (p,.two n' x1 x2)=spP 5 p (.two n' x1 x2):=by rw [kids,if_neg (by omega),hk]
   rw [e]
   clear hM hR e
   go_enter Tryz.func56,Tryz.ntmps56
   go_wp2_with fail
   refine (hm.out _ (hB.out _)).mono ?_
   rintro e w2 ⟨u,rfl,hou,hb2⟩
   have HO:Hid _:=own_mono (base':=w.heap.size) hou (by simp)
   have HB2:Hid _:=go_on (hB.out _) hb2
   clear hou hb2
   go_wp2_with fail
   go_ret
   exact ⟨u,rfl,HO.out,HB2.out⟩
  ·have hm:=hM 6 (.inr rfl) hk
   rw [hk] at hk2
   have e:kids (p,.two n' x1 x2)=spP 6 p (.two n' x1 x2):=by rw [kids,if_neg (by omega),hk]
   rw [e]
   clear hM hR e
   go_enter Tryz.func56,Tryz.ntmps56
   go_wp2_with fail
   refine (hm.out _ (hB.out _)).mono ?_
   rintro e w2 ⟨u,rfl,hou,hb2⟩
   have HO:Hid _:=own_mono (base':=w.heap.size) hou (by simp)
   have HB2:Hid _:=go_on (hB.out _) hb2
   clear hou hb2
   go_wp2_with fail
   go_ret
   exact ⟨u,rfl,HO.out,HB2.out⟩
  ·rw [hk] at hk2
   have e:kids (p,.two n' x1 x2)=rwP p (.two n' x1 x2):=by rw [kids,if_pos hk]
   rw [e]
   clear hM e
   go_enter Tryz.func56,Tryz.ntmps56
   go_wp2_with fail
   refine (hR.out _ (hB.out _)).mono ?_
   rintro e w2 ⟨u,rfl,hou,hb2⟩
   have HO:Hid _:=own_mono (base':=w.heap.size) hou (by simp)
   have HB2:Hid _:=go_on (hB.out _) hb2
   clear hou hb2
   go_wp2_with fail
   go_ret
   exact ⟨u,rfl,HO.out,HB2.out⟩
end Go.Proofs.YtfdhaknecjcjoaaGreatDoor
