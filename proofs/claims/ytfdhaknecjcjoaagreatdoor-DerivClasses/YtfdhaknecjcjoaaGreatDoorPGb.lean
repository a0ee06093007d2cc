/- The rows of Union and Inter (printed by tools/binary.py). A local set beside the reader's memory; the row of Not. The row of Concat. The row of Star. The table of the readings. One node is read. The reader's ends. -/
import Derived.Test.YtfdhaknecjcjoaaGreatDoorPGa
import Derived.Maps.Own
import Derived.Test.YtfdhaknecjcjoaaGreatDoorPWr
namespace Go.Proofs.YtfdhaknecjcjoaaGreatDoor
open Go Go.RowKit
set_option linter.unusedVariables false

/-- What a method of two rows leaves: one row in their place. -/
def Join2 (P : List Int → Prop) (base : Nat) (B : Nat) (tv : Value) (s : ByteArray) (st sp : List RwP) (w : World) (e : Ending) (w' : World) : Prop :=
 e=.returned (.tuple #[])∧∃ rv' sv' sp' v r,RD base w' B tv s rv' sv' (st ++ [(v,r)]) sp'∧sp'.length≤sp.length+1∧RowOk P (wl s) r∧BK base w w'

set_option maxHeartbeats 8000000 in
set_option maxRecDepth 100000 in
theorem munion_any {P Q : List Int → Prop} {base : Nat} {w : World} {B : Nat} {tv : Value} {s : ByteArray} {rv sv : Value} {st sp : List RwP} {x1 x2 : RwP} (h : RD base w B tv s rv sv (st ++ [x1] ++ [x2]) sp) (hs : s.size ≤ 511) (hn : st.length ≤ 7000000) (hp : sp.length ≤ 7000000) (h1 : RowOk P (wl s) x1.2) (h2 : RowOk Q (wl s) x2.2) (k s0 : Int) :
  Calls Tryz.prog 152 #[.pointer (some ⟨B,0,none⟩),.agg #[.int .i64 k,.int .u8 s0]] w (Join2 (fun u=>P u∨Q u) base B tv s st sp w):=by
 unfold Join2
 have HR:Hid (RD base (w.alloc (.cells #[.int .i64 k,.int .u8 s0] 51)) B tv s rv sv (st ++ [x1] ++ [x2]) sp):=h.stay ((Below.refl _ _).alloc (Nat.le_refl _) _)
 have HB:Hid (BK base w (w.alloc (.cells #[.int .i64 k,.int .u8 s0] 51))):=(BK.refl _ _).alloc (by have:=h.from_;have:=h.lt;omega) _
 have HK1:Hid (RowOk P (wl s) x1.2):=h1
 have HK2:Hid (RowOk Q (wl s) x2.2):=h2
 obtain ⟨v1,r1⟩:=x1
 obtain ⟨v2,r2⟩:=x2
 obtain ⟨g1,c1,hv1,hg1,_⟩:=h.block (x:=(v1,r1)) (by simp)
 obtain ⟨g2,c2,hv2,hg2,_⟩:=h.block (x:=(v2,r2)) (by simp)
 simp only at hv1 hv2 HK1 HK2
 subst hv1
 subst hv2
 have hst1:(st ++ [((Value.slice (some ⟨g1,0,none⟩) (s.size+1) c1,r1):RwP)]).length≤8000000:=by simp;omega
 have hsp8:sp.length≤8000000:=by omega
 clear h h1 h2
 go_enter Tryz.func152,Tryz.ntmps152
 go_wp2_with fail
 refine (mpop_any HR.out hst1 hsp8).mono ?_
 rintro e w1 ⟨rv',sv',rfl,hr1,hb1⟩
 have HR1:Hid (RD base w1 B tv s rv' sv' (st ++ [(.slice (some ⟨g1,0,none⟩) (s.size+1) c1,r1)]) (sp ++ [(.slice (some ⟨g2,0,none⟩) (s.size+1) c2,r2)])):=hr1
 have HB1:Hid (BK base w w1):=HB.out.trans hb1
 clear hr1 hb1 HR HB
 go_wp2_with fail
 refine (mtop_any HR1.out (by omega)).mono ?_
 rintro e w2 ⟨rfl,hb2⟩
 have HR2:Hid (RD base w2 B tv s rv' sv' (st ++ [(.slice (some ⟨g1,0,none⟩) (s.size+1) c1,r1)]) (sp ++ [(.slice (some ⟨g2,0,none⟩) (s.size+1) c2,r2)])):=HR1.out.stay hb2
 have HB2:Hid (BK base w w2):=HB1.out.trans (BK.up hb2 (by have:=HR1.out.from_;have:=HR1.out.lt;omega))
 have HP2:Hid (Calls Tryz.prog 159 #[.pointer (some ⟨B,0,none⟩)] w2 fun e w'=>e=.returned (.int .i64 ((s.size+1:Nat):Int))∧w2=w'):=mplaces_any HR2.out hs
 obtain ⟨N,hN⟩:∃ N,s.size+1=N:=⟨_,rfl⟩
 simp only
 rw [hN] at HR2 HP2 ⊢
 have HNN:Hid (s.size+1=N):=hN
 have hN5:N≤512:=by omega
 clear hb2 hN HR1 HB1
 go_wp2_with fail
 refine HP2.out.mono ?_
 rintro e w2' ⟨rfl,rfl⟩
 go_wp2_with fail
 go_loopw [13] (fun vi wr=>∃ (i:Nat) (r:List Nat),i≤N∧vi=.int .i64 (i:Int)∧RD base wr B tv s rv' sv' (st ++ [(.slice (some ⟨g1,0,none⟩) N c1,r)]) (sp ++ [(.slice (some ⟨g2,0,none⟩) N c2,r2)])∧(∀ p,r.getD p 0=if p<i then orN (r1.getD p 0) (r2.getD p 0) else r1.getD p 0)∧BK base w wr) (fun vi _=>N - (intOf vi).toNat)
 case atStart=>exact ⟨0,r1,Nat.zero_le _,rfl,HR2.out,fun p=>by rw [if_neg (by omega)],HB2.out⟩
 case round =>
  clear HR2 HB2 HP2
  obtain ⟨i,r,hi,rfl,hr,hrow,hb⟩:=hrel
  have HR3:Hid (RD base wr B tv s rv' sv' (st ++ [(.slice (some ⟨g1,0,none⟩) N c1,r)]) (sp ++ [(.slice (some ⟨g2,0,none⟩) N c2,r2)])):=hr
  have HB3:Hid (BK base w wr):=hb
  have HROW:Hid (∀ p,r.getD p 0=if p<i then orN (r1.getD p 0) (r2.getD p 0) else r1.getD p 0):=hrow
  clear hr hrow hb
  by_cases hlt : i < N
  ·have hiI:(i:Int)<N:=by omega
   have HLT:Hid (i<N):=hlt
   obtain ⟨ho1,hl1⟩:=HR3.out.own (g:=g1) (N:=N) (c:=c1) (r:=r) (by simp) HNN.out
   obtain ⟨ho2,hl2⟩:=HR3.out.own (g:=g2) (N:=N) (c:=c2) (r:=r2) (by simp) HNN.out
   obtain ⟨⟨a0,a1,a2,a3,a4,a5,a6,a7⟩,_⟩:=own_at8 ho1 hl1 i hlt
   obtain ⟨⟨b0,b1,b2,b3,b4,b5,b6,b7⟩,_⟩:=own_at8 ho2 hl2 i hlt
   have hg1l:=(ho1.lt g1 rfl).2
   have hg2l:=(ho2.lt g2 rfl).2
   obtain ⟨X,hX⟩:∃ X,r.getD i 0=X:=⟨_,rfl⟩
   obtain ⟨Y,hY⟩:∃ Y,r2.getD i 0=Y:=⟨_,rfl⟩
   rw [hX] at a0 a1 a2 a3 a4 a5 a6 a7
   rw [hY] at b0 b1 b2 b3 b4 b5 b6 b7
   have HXY:Hid (r.getD i 0=X∧r2.getD i 0=Y∧r.length=N):=⟨hX,hY,hl1⟩
   obtain ⟨Z,hZ⟩:∃ Z,orN X Y=Z:=⟨_,rfl⟩
   have HZ:Hid (orN X Y=Z):=hZ
   clear ho1 ho2 hl1 hl2 hX hY hZ
   go_wp2_with fail
   go_region_with (go_at_call 161;refine (union_any X Y _).mono ?_;rintro e w3 ⟨rfl,hb3'⟩;rw [HZ.out];have hb3:Below wr.heap.size wr w3:=go_on (Below.refl _ _).drew hb3';have HR4:Hid (RD base w3 B tv s rv' sv' (st ++ [(.slice (some ⟨g1,0,none⟩) N c1,r)]) (sp ++ [(.slice (some ⟨g2,0,none⟩) N c2,r2)])):=HR3.out.stay hb3;obtain ⟨ho3,hl3⟩:=HR4.out.own (g:=g1) (N:=N) (c:=c1) (r:=r) (by simp) HNN.out;obtain ⟨⟨d0,d1,d2,d3,d4,d5,d6,d7⟩,⟨f0,f1,f2,f3,f4,f5,f6,f7⟩⟩:=own_at8 ho3 hl3 i HLT.out;unfold setV cellsF)
   all_goals (
    have HF:Hid (RD base (put8 w3 g1 (i * 8) Z) B tv s rv' sv' (st ++ [(.slice (some ⟨g1,0,none⟩) N c1,r.set i Z)]) (sp ++ [(.slice (some ⟨g2,0,none⟩) N c2,r2)])∧BK base w (put8 w3 g1 (i * 8) Z)∧∀ p,(r.set i Z).getD p 0=if p<i+1 then orN (r1.getD p 0) (r2.getD p 0) else r1.getD p 0):=by
     refine ⟨HR4.out.stored HNN.out i Z HLT.out,put8_below (HB3.out.trans (BK.up hb3 (by have:=HR3.out.from_;have:=HR3.out.lt;omega))) hg1 (HR4.out.rty (g:=g1) (N:=N) (c:=c1) (r:=r) (by simp)) _ _,fun p=>?_⟩
     rw [set_get r i p Z (by have:=HXY.out.2.2;have:=HLT.out;omega)]
     by_cases e : p = i
     ·rw [if_pos e,if_pos (by omega),← HZ.out,e,← HXY.out.1,← HXY.out.2.1,HROW.out i,if_neg (by omega)]
     ·rw [if_neg e,HROW.out p]
      by_cases e2 : p < i
      ·rw [if_pos e2,if_pos (by omega)]
      ·rw [if_neg e2,if_neg (by omega)]
    clear hb3 hb3' HR4 ho3 hl3 d0 d1 d2 d3 d4 d5 d6 d7 f0 f1 f2 f3 f4 f5 f6 f7
    go_wp2_with fail
    go_roundw
    case rel =>
     have hI:i<N:=HLT.out
     exact ⟨i+1,_,by omega,by go_num,HF.out.1,HF.out.2.2,HF.out.2.1⟩
    case measure =>
     have hI:i<N:=HLT.out
     simp [intOf]
     omega)
  ·obtain rfl:i=N:=by omega
   have hiI:¬ (i:Int)<i:=by omega
   obtain ⟨ho,hl⟩:=HR3.out.own (g:=g1) (N:=i) (c:=c1) (r:=r) (by simp) HNN.out
   have HOK:Hid (RowOk (fun u=>P u∨Q u) (wl s) r):=⟨by rw [wl_len,hl,HNN.out],fun p hp=>by
    rw [HROW.out p,if_pos (by rw [wl_len] at hp;have:=HNN.out;omega)]
    exact ends_or (HK1.out.2 p hp) (HK2.out.2 p hp) (fun q=>by unfold orN;rw [Nat.testBit_or])⟩
   clear ho hl
   go_wp2_with fail
   refine bodyPost_end (results_none rfl _ _ _) rfl ?_
   exact ⟨rfl,_,_,_,_,_,HR3.out,by simp,HOK.out,HB3.out⟩

set_option maxHeartbeats 8000000 in
set_option maxRecDepth 100000 in
theorem minter_any {P Q : List Int → Prop} {base : Nat} {w : World} {B : Nat} {tv : Value} {s : ByteArray} {rv sv : Value} {st sp : List RwP} {x1 x2 : RwP} (h : RD base w B tv s rv sv (st ++ [x1] ++ [x2]) sp) (hs : s.size ≤ 511) (hn : st.length ≤ 7000000) (hp : sp.length ≤ 7000000) (h1 : RowOk P (wl s) x1.2) (h2 : RowOk Q (wl s) x2.2) (k s0 : Int) :
  Calls Tryz.prog 153 #[.pointer (some ⟨B,0,none⟩),.agg #[.int .i64 k,.int .u8 s0]] w (Join2 (fun u=>P u∧Q u) base B tv s st sp w):=by
 unfold Join2
 have HR:Hid (RD base (w.alloc (.cells #[.int .i64 k,.int .u8 s0] 51)) B tv s rv sv (st ++ [x1] ++ [x2]) sp):=h.stay ((Below.refl _ _).alloc (Nat.le_refl _) _)
 have HB:Hid (BK base w (w.alloc (.cells #[.int .i64 k,.int .u8 s0] 51))):=(BK.refl _ _).alloc (by have:=h.from_;have:=h.lt;omega) _
 have HK1:Hid (RowOk P (wl s) x1.2):=h1
 have HK2:Hid (RowOk Q (wl s) x2.2):=h2
 obtain ⟨v1,r1⟩:=x1
 obtain ⟨v2,r2⟩:=x2
 obtain ⟨g1,c1,hv1,hg1,_⟩:=h.block (x:=(v1,r1)) (by simp)
 obtain ⟨g2,c2,hv2,hg2,_⟩:=h.block (x:=(v2,r2)) (by simp)
 simp only at hv1 hv2 HK1 HK2
 subst hv1
 subst hv2
 have hst1:(st ++ [((Value.slice (some ⟨g1,0,none⟩) (s.size+1) c1,r1):RwP)]).length≤8000000:=by simp;omega
 have hsp8:sp.length≤8000000:=by omega
 clear h h1 h2
 go_enter Tryz.func153,Tryz.ntmps153
 go_wp2_with fail
 refine (mpop_any HR.out hst1 hsp8).mono ?_
 rintro e w1 ⟨rv',sv',rfl,hr1,hb1⟩
 have HR1:Hid (RD base w1 B tv s rv' sv' (st ++ [(.slice (some ⟨g1,0,none⟩) (s.size+1) c1,r1)]) (sp ++ [(.slice (some ⟨g2,0,none⟩) (s.size+1) c2,r2)])):=hr1
 have HB1:Hid (BK base w w1):=HB.out.trans hb1
 clear hr1 hb1 HR HB
 go_wp2_with fail
 refine (mtop_any HR1.out (by omega)).mono ?_
 rintro e w2 ⟨rfl,hb2⟩
 have HR2:Hid (RD base w2 B tv s rv' sv' (st ++ [(.slice (some ⟨g1,0,none⟩) (s.size+1) c1,r1)]) (sp ++ [(.slice (some ⟨g2,0,none⟩) (s.size+1) c2,r2)])):=HR1.out.stay hb2
 have HB2:Hid (BK base w w2):=HB1.out.trans (BK.up hb2 (by have:=HR1.out.from_;have:=HR1.out.lt;omega))
 have HP2:Hid (Calls Tryz.prog 159 #[.pointer (some ⟨B,0,none⟩)] w2 fun e w'=>e=.returned (.int .i64 ((s.size+1:Nat):Int))∧w2=w'):=mplaces_any HR2.out hs
 obtain ⟨N,hN⟩:∃ N,s.size+1=N:=⟨_,rfl⟩
 simp only
 rw [hN] at HR2 HP2 ⊢
 have HNN:Hid (s.size+1=N):=hN
 have hN5:N≤512:=by omega
 clear hb2 hN HR1 HB1
 go_wp2_with fail
 refine HP2.out.mono ?_
 rintro e w2' ⟨rfl,rfl⟩
 go_wp2_with fail
 go_loopw [13] (fun vi wr=>∃ (i:Nat) (r:List Nat),i≤N∧vi=.int .i64 (i:Int)∧RD base wr B tv s rv' sv' (st ++ [(.slice (some ⟨g1,0,none⟩) N c1,r)]) (sp ++ [(.slice (some ⟨g2,0,none⟩) N c2,r2)])∧(∀ p,r.getD p 0=if p<i then andN (r1.getD p 0) (r2.getD p 0) else r1.getD p 0)∧BK base w wr) (fun vi _=>N - (intOf vi).toNat)
 case atStart=>exact ⟨0,r1,Nat.zero_le _,rfl,HR2.out,fun p=>by rw [if_neg (by omega)],HB2.out⟩
 case round =>
  clear HR2 HB2 HP2
  obtain ⟨i,r,hi,rfl,hr,hrow,hb⟩:=hrel
  have HR3:Hid (RD base wr B tv s rv' sv' (st ++ [(.slice (some ⟨g1,0,none⟩) N c1,r)]) (sp ++ [(.slice (some ⟨g2,0,none⟩) N c2,r2)])):=hr
  have HB3:Hid (BK base w wr):=hb
  have HROW:Hid (∀ p,r.getD p 0=if p<i then andN (r1.getD p 0) (r2.getD p 0) else r1.getD p 0):=hrow
  clear hr hrow hb
  by_cases hlt : i < N
  ·have hiI:(i:Int)<N:=by omega
   have HLT:Hid (i<N):=hlt
   obtain ⟨ho1,hl1⟩:=HR3.out.own (g:=g1) (N:=N) (c:=c1) (r:=r) (by simp) HNN.out
   obtain ⟨ho2,hl2⟩:=HR3.out.own (g:=g2) (N:=N) (c:=c2) (r:=r2) (by simp) HNN.out
   obtain ⟨⟨a0,a1,a2,a3,a4,a5,a6,a7⟩,_⟩:=own_at8 ho1 hl1 i hlt
   obtain ⟨⟨b0,b1,b2,b3,b4,b5,b6,b7⟩,_⟩:=own_at8 ho2 hl2 i hlt
   have hg1l:=(ho1.lt g1 rfl).2
   have hg2l:=(ho2.lt g2 rfl).2
   obtain ⟨X,hX⟩:∃ X,r.getD i 0=X:=⟨_,rfl⟩
   obtain ⟨Y,hY⟩:∃ Y,r2.getD i 0=Y:=⟨_,rfl⟩
   rw [hX] at a0 a1 a2 a3 a4 a5 a6 a7
   rw [hY] at b0 b1 b2 b3 b4 b5 b6 b7
   have HXY:Hid (r.getD i 0=X∧r2.getD i 0=Y∧r.length=N):=⟨hX,hY,hl1⟩
   obtain ⟨Z,hZ⟩:∃ Z,andN X Y=Z:=⟨_,rfl⟩
   have HZ:Hid (andN X Y=Z):=hZ
   clear ho1 ho2 hl1 hl2 hX hY hZ
   go_wp2_with fail
   go_region_with (go_at_call 162;refine (inter_any X Y _).mono ?_;rintro e w3 ⟨rfl,hb3'⟩;rw [HZ.out];have hb3:Below wr.heap.size wr w3:=go_on (Below.refl _ _).drew hb3';have HR4:Hid (RD base w3 B tv s rv' sv' (st ++ [(.slice (some ⟨g1,0,none⟩) N c1,r)]) (sp ++ [(.slice (some ⟨g2,0,none⟩) N c2,r2)])):=HR3.out.stay hb3;obtain ⟨ho3,hl3⟩:=HR4.out.own (g:=g1) (N:=N) (c:=c1) (r:=r) (by simp) HNN.out;obtain ⟨⟨d0,d1,d2,d3,d4,d5,d6,d7⟩,⟨f0,f1,f2,f3,f4,f5,f6,f7⟩⟩:=own_at8 ho3 hl3 i HLT.out;unfold setV cellsF)
   all_goals (
    have HF:Hid (RD base (put8 w3 g1 (i * 8) Z) B tv s rv' sv' (st ++ [(.slice (some ⟨g1,0,none⟩) N c1,r.set i Z)]) (sp ++ [(.slice (some ⟨g2,0,none⟩) N c2,r2)])∧BK base w (put8 w3 g1 (i * 8) Z)∧∀ p,(r.set i Z).getD p 0=if p<i+1 then andN (r1.getD p 0) (r2.getD p 0) else r1.getD p 0):=by
     refine ⟨HR4.out.stored HNN.out i Z HLT.out,put8_below (HB3.out.trans (BK.up hb3 (by have:=HR3.out.from_;have:=HR3.out.lt;omega))) hg1 (HR4.out.rty (g:=g1) (N:=N) (c:=c1) (r:=r) (by simp)) _ _,fun p=>?_⟩
     rw [set_get r i p Z (by have:=HXY.out.2.2;have:=HLT.out;omega)]
     by_cases e : p = i
     ·rw [if_pos e,if_pos (by omega),← HZ.out,e,← HXY.out.1,← HXY.out.2.1,HROW.out i,if_neg (by omega)]
     ·rw [if_neg e,HROW.out p]
      by_cases e2 : p < i
      ·rw [if_pos e2,if_pos (by omega)]
      ·rw [if_neg e2,if_neg (by omega)]
    clear hb3 hb3' HR4 ho3 hl3 d0 d1 d2 d3 d4 d5 d6 d7 f0 f1 f2 f3 f4 f5 f6 f7
    go_wp2_with fail
    go_roundw
    case rel =>
     have hI:i<N:=HLT.out
     exact ⟨i+1,_,by omega,by go_num,HF.out.1,HF.out.2.2,HF.out.2.1⟩
    case measure =>
     have hI:i<N:=HLT.out
     simp [intOf]
     omega)
  ·obtain rfl:i=N:=by omega
   have hiI:¬ (i:Int)<i:=by omega
   obtain ⟨ho,hl⟩:=HR3.out.own (g:=g1) (N:=i) (c:=c1) (r:=r) (by simp) HNN.out
   have HOK:Hid (RowOk (fun u=>P u∧Q u) (wl s) r):=⟨by rw [wl_len,hl,HNN.out],fun p hp=>by
    rw [HROW.out p,if_pos (by rw [wl_len] at hp;have:=HNN.out;omega)]
    exact ends_and (HK1.out.2 p hp) (HK2.out.2 p hp) (fun q=>by unfold andN;rw [Nat.testBit_and])⟩
   clear ho hl
   go_wp2_with fail
   refine bodyPost_end (results_none rfl _ _ _) rfl ?_
   exact ⟨rfl,_,_,_,_,_,HR3.out,by simp,HOK.out,HB3.out⟩

end Go.Proofs.YtfdhaknecjcjoaaGreatDoor

namespace Go.Proofs.YtfdhaknecjcjoaaGreatDoor
open Go Go.RowKit
set_option linter.unusedVariables false

/-- The reader's blocks lie below n. -/
structure RDlt (n B : Nat) (rv sv : Value) (l : List Value) : Prop where
 b : B < n
 rv:∀ b,rv.ownBlock=some b→b<n
 sv:∀ b,sv.ownBlock=some b→b<n
 all:∀ v ∈ l,∀ b,v.ownBlock=some b→b<n
theorem RD.lts {base : Nat} {w : World} {B : Nat} {tv : Value} {s : ByteArray} {rv sv : Value} {st sp : List RwP} (h : RD base w B tv s rv sv st sp) : RDlt w.heap.size B rv sv ((st ++ sp).map Prod.fst) :=
 ⟨h.lt,fun b hb=>(h.rows.lt b hb).2,fun b hb=>(h.spare.lt b hb).2,fun v hv b hb=>by
  obtain ⟨x,hx,rfl⟩:=List.mem_map.1 hv
  exact ((h.rowv x hx).lt b hb).2⟩
theorem RD.kept2 {base n:Nat} {w w':World} {B:Nat} {tv:Value} {s:ByteArray} {rv sv:Value} {st sp:List RwP} (h:RD base w B tv s rv sv st sp) (hl:RDlt n B rv sv ((st ++ sp).map Prod.fst)) (hk:∀ k,k<n→w'.heap[k]?=w.heap[k]?):RD base w' B tv s rv sv st sp :=
 ⟨(hk B hl.b).trans h.blk,h.from_,own_of_heap h.rows fun b hb=>hk b (hl.rv b hb),own_of_heap h.spare fun b hb=>hk b (hl.sv b hb),h.ne,fun x hx=>own_of_heap (h.rowv x hx) fun b hb=>hk b (hl.all x.1 (List.mem_map.2 ⟨x,hx,rfl⟩) b hb),h.apart,h.len⟩
theorem RDlt.row {n B:Nat} {rv sv:Value} {st sp:List RwP} {v:Value} {r r':List Nat} (h:RDlt n B rv sv ((st ++ [(v,r)] ++ sp).map Prod.fst)):RDlt n B rv sv ((st ++ [(v,r')] ++ sp).map Prod.fst):=by
 have e:(st ++ [(v,r')] ++ sp).map Prod.fst=(st ++ [(v,r)] ++ sp).map Prod.fst:=by simp
 rw [e];exact h
theorem put8_cells {w:World} {g o M E:Nat} {f:Nat→Nat} (h:Cells8 w E f) (hg:E≠g):Cells8 (put8 w g o M) E f:=h.of_heap (put8_other w g o M E hg)
/-- What is left for place i. -/
def notV (N i:Nat):Nat:=butN (allN N) (allN i)
theorem notV_bit (N i q:Nat):(notV N i).testBit q=decide (i≤q∧q<N):=by
 unfold notV
 rw [testBit_but,testBit_all,testBit_all]
 by_cases h1:q<N <;> by_cases h2:q<i <;> simp [h1,h2] <;> omega
theorem notV_zero (N:Nat):notV N 0=allN N:=by
 apply Nat.eq_of_testBit_eq
 intro q
 rw [notV_bit,testBit_all]
 simp
theorem notV_next (N i:Nat) (hi:i<512):withoutN (notV N i) (i:Int)=notV N (i+1):=by
 unfold withoutN
 rw [if_pos (by omega),Int.toNat_natCast]
 apply Nat.eq_of_testBit_eq
 intro q
 rw [testBit_but,notV_bit,notV_bit,Nat.testBit_two_pow]
 by_cases h : i = q
 ·subst h;simp;omega
 ·have:i≤q↔i+1≤q:=by omega
  simp [h,this]
theorem below_all (N:Nat) (h:N≤512):belowN (N:Int)=allN N:=by
 unfold belowN
 rw [if_neg (by omega),Int.toNat_natCast]
/-- What a method of one row leaves: one row in its place. -/
def Join1 (P : List Int → Prop) (base : Nat) (B : Nat) (tv : Value) (s : ByteArray) (st sp : List RwP) (w : World) (e : Ending) (w' : World) : Prop :=
 e=.returned (.tuple #[])∧∃ rv' sv' sp' v r,RD base w' B tv s rv' sv' (st ++ [(v,r)]) sp'∧sp'.length≤sp.length∧RowOk P (wl s) r∧BK base w w'

set_option maxHeartbeats 8000000 in
set_option maxRecDepth 100000 in
theorem mnot_any {P : List Int → Prop} {base : Nat} {w : World} {B : Nat} {tv : Value} {s : ByteArray} {rv sv : Value} {st sp : List RwP} {x1 : RwP} (h : RD base w B tv s rv sv (st ++ [x1]) sp) (hs : s.size ≤ 511) (hn : st.length ≤ 7000000) (h1 : RowOk P (wl s) x1.2) (k s0 : Int) :
  Calls Tryz.prog 156 #[.pointer (some ⟨B,0,none⟩),.agg #[.int .i64 k,.int .u8 s0]] w (Join1 (fun u=>¬ P u) base B tv s st sp w):=by
 unfold Join1
 have HR:Hid (RD base (w.alloc (.cells #[.int .i64 k,.int .u8 s0] 51)) B tv s rv sv (st ++ [x1]) sp):=h.stay ((Below.refl _ _).alloc (Nat.le_refl _) _)
 have HB:Hid (BK base w (w.alloc (.cells #[.int .i64 k,.int .u8 s0] 51))):=(BK.refl _ _).alloc (by have:=h.from_;have:=h.lt;omega) _
 have HK1:Hid (RowOk P (wl s) x1.2):=h1
 obtain ⟨v1,r1⟩:=x1
 obtain ⟨g1,c1,hv1,hg1,_⟩:=h.block (x:=(v1,r1)) (by simp)
 simp only at hv1 HK1
 subst hv1
 clear h h1
 go_enter Tryz.func156,Tryz.ntmps156
 go_wp2_with fail
 refine (mtop_any HR.out (by omega)).mono ?_
 rintro e w2 ⟨rfl,hb2⟩
 have HR2:Hid (RD base w2 B tv s rv sv (st ++ [(.slice (some ⟨g1,0,none⟩) (s.size+1) c1,r1)]) sp):=HR.out.stay hb2
 have HB2:Hid (BK base w w2):=HB.out.trans (BK.up hb2 (by have:=HR.out.from_;have:=HR.out.lt;omega))
 have HP2:Hid (Calls Tryz.prog 159 #[.pointer (some ⟨B,0,none⟩)] w2 fun e w'=>e=.returned (.int .i64 ((s.size+1:Nat):Int))∧w2=w'):=mplaces_any HR2.out hs
 obtain ⟨N,hN⟩:∃ N,s.size+1=N:=⟨_,rfl⟩
 simp only
 rw [hN] at HR2 HP2 ⊢
 have HNN:Hid (s.size+1=N):=hN
 have hN5:N≤512:=by omega
 clear hb2 hN HR HB
 go_wp2_with fail
 refine HP2.out.mono ?_
 rintro e w2' ⟨rfl,rfl⟩
 go_wp2_with fail
 refine (below_any (N : Int) w2).mono ?_
 rintro e w3 ⟨rfl,hb3⟩
 rw [below_all N hN5]
 have HR3:Hid (RD base (w3.alloc (.cells (cellsF (word (allN N))) 61)) B tv s rv sv (st ++ [(.slice (some ⟨g1,0,none⟩) N c1,r1)]) sp):=(HR2.out.stay hb3).stay ((Below.refl _ _).alloc (Nat.le_refl _) _)
 have HB3:Hid (BK base w (w3.alloc (.cells (cellsF (word (allN N))) 61))):=(HB2.out.trans (BK.up hb3 (by have:=HR2.out.from_;have:=HR2.out.lt;omega))).alloc (by have:=HR2.out.from_;have:=HR2.out.lt;have:=hb3.size;omega) _
 have HC3:Hid (Cells8 (w3.alloc (.cells (cellsF (word (allN N))) 61)) w3.heap.size (word (allN N))):=Cells8.last w3 _
 have HLT3:Hid (RDlt w3.heap.size B rv sv ((st ++ [((.slice (some ⟨g1,0,none⟩) N c1,r1):RwP)] ++ sp).map Prod.fst)):=(HR2.out.stay hb3).lts
 have HP3:Hid (Calls Tryz.prog 159 #[.pointer (some ⟨B,0,none⟩)] (w3.alloc (.cells (cellsF (word (allN N))) 61)) fun e w'=>e=.returned (.int .i64 ((N:Nat):Int))∧(w3.alloc (.cells (cellsF (word (allN N))) 61))=w'):=by
  have:=mplaces_any HR3.out hs
  rw [HNN.out] at this
  exact this
 obtain ⟨A,hA⟩:∃ A,allN N=A:=⟨_,rfl⟩
 rw [hA] at HR3 HB3 HC3 HP3 ⊢
 have HA:Hid (allN N=A):=hA
 clear hb3 hA HP2
 unfold cellsF at HR3 HB3 HC3 HP3
 unfold setV cellsF
 go_wp2_with fail
 refine HP3.out.mono ?_
 rintro e w3' ⟨rfl,hw3⟩
 obtain ⟨w4,hw4⟩:∃ w4,w3'=w4:=⟨_,rfl⟩
 obtain ⟨E,hE⟩:∃ E,w3.heap.size=E:=⟨_,rfl⟩
 rw [hw3,hw4,hE] at HC3
 rw [hw3,hw4] at HR3 HB3
 rw [hE] at HLT3
 have hE0:base≤E:=by have h1:=HR2.out.from_;have h2:=HLT3.out.b;omega
 clear HP3 HR2 HB2
 subst hw4
 clear hw3
 simp only [hE]
 clear hE
 go_wp2_with fail
 go_loopw [18] (fun vi wr=>∃ (i:Nat) (r:List Nat),i≤N∧vi=.int .i64 (i:Int)∧RD base wr B tv s rv sv (st ++ [(.slice (some ⟨g1,0,none⟩) N c1,r)]) sp∧Cells8 wr E (word (notV N i))∧(∀ p,r.getD p 0=if p<i then butN (notV N p) (r1.getD p 0) else r1.getD p 0)∧BK base w wr) (fun vi _=>N - (intOf vi).toNat)
 case atStart=>exact ⟨0,r1,Nat.zero_le _,rfl,HR3.out,by rw [notV_zero,HA.out];exact HC3.out,fun p=>by rw [if_neg (by omega)],HB3.out⟩
 case round =>
  clear HR3 HB3 HC3
  obtain ⟨i,r,hi,rfl,hr,hc,hrow,hb⟩:=hrel
  have HR4:Hid (RD base wr B tv s rv sv (st ++ [(.slice (some ⟨g1,0,none⟩) N c1,r)]) sp):=hr
  have HB4:Hid (BK base w wr):=hb
  have HC4:Hid (Cells8 wr E (word (notV N i))):=hc
  have HROW:Hid (∀ p,r.getD p 0=if p<i then butN (notV N p) (r1.getD p 0) else r1.getD p 0):=hrow
  clear hr hrow hb hc
  by_cases hlt : i < N
  ·have hiI:(i:Int)<N:=by omega
   have hi5:i<512:=by omega
   have HLT:Hid (i<N):=hlt
   obtain ⟨ho1,hl1⟩:=HR4.out.own (g:=g1) (N:=N) (c:=c1) (r:=r) (by simp) HNN.out
   obtain ⟨⟨a0,a1,a2,a3,a4,a5,a6,a7⟩,_⟩:=own_at8 ho1 hl1 i hlt
   have hg1l:=(ho1.lt g1 rfl).2
   have hE1:=HC4.out.lt
   obtain ⟨X,hX⟩:∃ X,r.getD i 0=X:=⟨_,rfl⟩
   rw [hX] at a0 a1 a2 a3 a4 a5 a6 a7
   obtain ⟨V,hV⟩:∃ V,notV N i=V:=⟨_,rfl⟩
   rw [hV] at HC4
   have HV:Hid (notV N i=V):=hV
   obtain ⟨V',hV'⟩:∃ V',notV N (i+1)=V':=⟨_,rfl⟩
   have HV':Hid (notV N (i+1)=V'):=hV'
   have HVW:Hid (withoutN V (i:Int)=V'):=by show withoutN V (i:Int)=V';rw [← hV,← hV'];exact notV_next N i hi5
   have HXY:Hid (r.getD i 0=X∧r.length=N):=⟨hX,hl1⟩
   obtain ⟨Z,hZ⟩:∃ Z,butN V X=Z:=⟨_,rfl⟩
   have HZ:Hid (butN V X=Z):=hZ
   obtain ⟨b0,b1,b2,b3,b4,b5,b6,b7⟩:=HC4.out.gets
   have hEg:E≠g1:=fun e=>by have:=HLT3.out.all (.slice (some ⟨g1,0,none⟩) N c1) (by simp) g1 rfl;omega
   have HEG:Hid (E≠g1):=hEg
   clear ho1 hl1 hX hZ hV hV' hEg
   go_wp2_with fail
   go_region_with (go_at_call 164;refine (minus_any V X _).mono ?_;rintro e w5 ⟨rfl,hb5'⟩;rw [HZ.out];have hb5:Below wr.heap.size wr w5:=go_on (Below.refl _ _).drew hb5';have HR5:Hid (RD base w5 B tv s rv sv (st ++ [(.slice (some ⟨g1,0,none⟩) N c1,r)]) sp):=HR4.out.stay hb5;have HC5:Hid (Cells8 w5 E (word V)):=HC4.out.of_heap (hb5.block E HC4.out.lt);obtain ⟨ho3,hl3⟩:=HR5.out.own (g:=g1) (N:=N) (c:=c1) (r:=r) (by simp) HNN.out;obtain ⟨⟨d0,d1,d2,d3,d4,d5,d6,d7⟩,⟨f0,f1,f2,f3,f4,f5,f6,f7⟩⟩:=own_at8 ho3 hl3 i HLT.out;unfold setV cellsF)
   all_goals (
    obtain ⟨w6,hw6⟩:∃ w6,put8 w5 g1 (i * 8) Z=w6:=⟨_,rfl⟩
    have HF:Hid (RD base w6 B tv s rv sv (st ++ [(.slice (some ⟨g1,0,none⟩) N c1,r.set i Z)]) sp∧BK base w w6∧Cells8 w6 E (word V)∧∀ p,(r.set i Z).getD p 0=if p<i+1 then butN (notV N p) (r1.getD p 0) else r1.getD p 0):=by
     rw [← hw6]
     refine ⟨HR5.out.stored HNN.out i Z HLT.out,put8_below (HB4.out.trans (BK.up hb5 (by have:=HR4.out.from_;have:=HR4.out.lt;omega))) hg1 (HR5.out.rty (g:=g1) (N:=N) (c:=c1) (r:=r) (by simp)) _ _,put8_cells HC5.out HEG.out,fun p=>?_⟩
     rw [set_get r i p Z (by have:=HXY.out.2;have:=HLT.out;omega)]
     by_cases e : p = i
     ·rw [if_pos e,if_pos (by omega),← HZ.out,e,HV.out,← HXY.out.1,HROW.out i,if_neg (by omega)]
     ·rw [if_neg e,HROW.out p]
      by_cases e2 : p < i
      ·rw [if_pos e2,if_pos (by omega)]
      ·rw [if_neg e2,if_neg (by omega)]
    clear hb5 hb5' HR5 HC5 ho3 hl3 d0 d1 d2 d3 d4 d5 d6 d7 f0 f1 f2 f3 f4 f5 f6 f7
    unfold put8 at hw6
    rw [hw6]
    clear hw6
    obtain ⟨e0,e1,e2,e3,e4,e5,e6,e7⟩:=HF.out.2.2.1.gets
    have HE6:=HF.out.2.2.1.lt
    go_wp2_with fail
    refine (without_any V i _).mono ?_
    rintro e w7 ⟨rfl,hb7⟩
    rw [HVW.out]
    have HC7:Hid (Cells8 w7 E (word V)):=HF.out.2.2.1.of_heap (hb7.block E HF.out.2.2.1.lt)
    have HR7:Hid (RD base w7 B tv s rv sv (st ++ [(.slice (some ⟨g1,0,none⟩) N c1,r.set i Z)]) sp):=HF.out.1.stay hb7
    have HB7:Hid (BK base w w7):=HF.out.2.1.trans (BK.up hb7 (by have:=HF.out.1.from_;have:=HF.out.1.lt;omega))
    clear e0 e1 e2 e3 e4 e5 e6 e7 hb7
    obtain ⟨x0,x1,x2,x3,x4,x5,x6,x7⟩:=HC7.out.gets
    have y0:=HC7.out.frozen 0
    have y1:=HC7.out.frozen 1
    have y2:=HC7.out.frozen 2
    have y3:=HC7.out.frozen 3
    have y4:=HC7.out.frozen 4
    have y5:=HC7.out.frozen 5
    have y6:=HC7.out.frozen 6
    have y7:=HC7.out.frozen 7
    unfold setV cellsF
    have HG:Hid (RD base (put8 w7 E 0 V') B tv s rv sv (st ++ [(.slice (some ⟨g1,0,none⟩) N c1,r.set i Z)]) sp∧Cells8 (put8 w7 E 0 V') E (word V')∧BK base w (put8 w7 E 0 V')) :=
     ⟨HR7.out.kept2 HLT3.out.row (fun k hk=>put8_other w7 E 0 V' k (by omega)),(st8 HC7.out (HB7.out).b hE0 (word V') rfl rfl rfl rfl rfl rfl rfl rfl).1,put8_below HB7.out hE0 (RTy.set HC7.out) _ _⟩
    go_wp2_with fail
    go_roundw
    case rel =>
     have hI:i<N:=HLT.out
     exact ⟨i+1,_,by omega,by go_num,HG.out.1,by rw [HV'.out];exact HG.out.2.1,HF.out.2.2.2,HG.out.2.2⟩
    case measure =>
     have hI:i<N:=HLT.out
     simp [intOf]
     omega)
  ·obtain rfl:i=N:=by omega
   have hiI:¬ (i:Int)<i:=by omega
   obtain ⟨ho,hl⟩:=HR4.out.own (g:=g1) (N:=i) (c:=c1) (r:=r) (by simp) HNN.out
   have HOK:Hid (RowOk (fun u=>¬ P u) (wl s) r):=⟨by rw [wl_len,hl,HNN.out],fun p hp=>by
    rw [HROW.out p,if_pos (by rw [wl_len] at hp;have:=HNN.out;omega)]
    refine ends_not (HK1.out.2 p hp) (fun q=>?_)
    rw [testBit_but,notV_bit,wl_len]
    have:=HNN.out
    by_cases h1:p≤q <;> by_cases h2:q<i <;> simp [h1,h2] <;> omega⟩
   clear ho hl
   go_wp2_with fail
   refine bodyPost_end (results_none rfl _ _ _) rfl ?_
   exact ⟨rfl,_,_,_,_,_,HR4.out,by simp,HOK.out,HB4.out⟩
end Go.Proofs.YtfdhaknecjcjoaaGreatDoor

namespace Go.Proofs.YtfdhaknecjcjoaaGreatDoor
open Go Go.RowKit
set_option linter.unusedVariables false

theorem TzTab.under {base:Nat} {w w':World} (h:TzTab w) (h0:1<base) (hb:BK base w w'):TzTab w':=fun j hj=>(below_cell hb.b h0).trans (h j hj)
theorem EndsOk.fits {P:List Int→Prop} {W:List Int} {p N:Nat} (h:EndsOk P W p N) (hW:W.length≤511):Fits N:=fun i hi=>h.small (by omega)
/-- What has been gathered: of the ends m of A below c, those from m on. -/
def Cat (A:Nat) (B:Nat→Nat) (c V:Nat):Prop:=∀ q,V.testBit q=true↔∃ m,m<c∧A.testBit m=true∧(B m).testBit q=true
theorem Cat.zero (A:Nat) (B:Nat→Nat):Cat A B 0 0:=fun q=>by simp
theorem Cat.skip {A:Nat} {B:Nat→Nat} {c c' V:Nat} (h:Cat A B c V) (h1:c≤c') (h2:∀ j:Nat,c≤j→j<c'→A.testBit j=false):Cat A B c' V:=fun q=>by
 rw [h q]
 constructor
 ·rintro ⟨m,a,b,d⟩;exact ⟨m,by omega,b,d⟩
 ·rintro ⟨m,a,b,d⟩
  by_cases e : m < c
  ·exact ⟨m,e,b,d⟩
  ·rw [h2 m (by omega) a] at b;cases b
theorem Cat.put {A:Nat} {B:Nat→Nat} {c V:Nat} (h:Cat A B c V) (hc:A.testBit c=true):Cat A B (c+1) (orN V (B c)):=fun q=>by
 unfold orN
 rw [Nat.testBit_or,Bool.or_eq_true,h q]
 constructor
 ·rintro (⟨m,a,b,d⟩ | d)
  ·exact ⟨m,by omega,b,d⟩
  ·exact ⟨c,by omega,hc,d⟩
 ·rintro ⟨m,a,b,d⟩
  by_cases e : m = c
  ·subst e;exact .inr d
  ·exact .inl ⟨m,by omega,b,d⟩
theorem Cat.done {A:Nat} {B:Nat→Nat} {c V:Nat} (h:Cat A B c V) (h2:∀ j:Nat,c≤j→A.testBit j=false):∀ q,V.testBit q=true↔∃ m,A.testBit m=true∧(B m).testBit q=true:=fun q=>by
 rw [h q]
 constructor
 ·rintro ⟨m,a,b,d⟩;exact ⟨m,b,d⟩
 ·rintro ⟨m,b,d⟩
  by_cases e : m < c
  ·exact ⟨m,e,b,d⟩
  ·rw [h2 m (by omega)] at b;cases b
/-- How far the search still has to go. -/
def left2 (vm vok:Value):Nat:=match vok with | .bool true=>600 - (intOf vm).toNat | _=>0

set_option maxHeartbeats 8000000 in
set_option maxRecDepth 100000 in
theorem mconcat_any {P Q : List Int → Prop} {base : Nat} {w : World} {B : Nat} {tv : Value} {s : ByteArray} {rv sv : Value} {st sp : List RwP} {x1 x2 : RwP} (h : RD base w B tv s rv sv (st ++ [x1] ++ [x2]) sp) (hT : TzTab w) (hT0 : 1 < base) (hs : s.size ≤ 511) (hn : st.length ≤ 7000000) (hp : sp.length ≤ 7000000) (h1 : RowOk P (wl s) x1.2) (h2 : RowOk Q (wl s) x2.2) (k s0 : Int) :
  Calls Tryz.prog 154 #[.pointer (some ⟨B,0,none⟩),.agg #[.int .i64 k,.int .u8 s0]] w (Join2 (fun u=>∃ x y,u=x ++ y∧P x∧Q y) base B tv s st sp w):=by
 unfold Join2
 have HR:Hid (RD base (w.alloc (.cells #[.int .i64 k,.int .u8 s0] 51)) B tv s rv sv (st ++ [x1] ++ [x2]) sp):=h.stay ((Below.refl _ _).alloc (Nat.le_refl _) _)
 have HB:Hid (BK base w (w.alloc (.cells #[.int .i64 k,.int .u8 s0] 51))):=(BK.refl _ _).alloc (by have:=h.from_;have:=h.lt;omega) _
 have HK1:Hid (RowOk P (wl s) x1.2):=h1
 have HK2:Hid (RowOk Q (wl s) x2.2):=h2
 have HT:Hid (TzTab w):=hT
 obtain ⟨v1,r1⟩:=x1
 obtain ⟨v2,r2⟩:=x2
 obtain ⟨g1,c1,hv1,hg1,_⟩:=h.block (x:=(v1,r1)) (by simp)
 obtain ⟨g2,c2,hv2,hg2,_⟩:=h.block (x:=(v2,r2)) (by simp)
 simp only at hv1 hv2 HK1 HK2
 subst hv1
 subst hv2
 have hst1:(st ++ [((Value.slice (some ⟨g1,0,none⟩) (s.size+1) c1,r1):RwP)]).length≤8000000:=by simp;omega
 have hsp8:sp.length≤8000000:=by omega
 clear h h1 h2 hT
 go_enter Tryz.func154,Tryz.ntmps154
 go_wp2_with fail
 refine (mpop_any HR.out hst1 hsp8).mono ?_
 rintro e w1 ⟨rv',sv',rfl,hr1,hb1⟩
 have HR1:Hid (RD base w1 B tv s rv' sv' (st ++ [(.slice (some ⟨g1,0,none⟩) (s.size+1) c1,r1)]) (sp ++ [(.slice (some ⟨g2,0,none⟩) (s.size+1) c2,r2)])):=hr1
 have HB1:Hid (BK base w w1):=HB.out.trans hb1
 clear hr1 hb1 HR HB
 go_wp2_with fail
 refine (mtop_any HR1.out (by omega)).mono ?_
 rintro e w2 ⟨rfl,hb2⟩
 have HR2:Hid (RD base w2 B tv s rv' sv' (st ++ [(.slice (some ⟨g1,0,none⟩) (s.size+1) c1,r1)]) (sp ++ [(.slice (some ⟨g2,0,none⟩) (s.size+1) c2,r2)])):=HR1.out.stay hb2
 have HB2:Hid (BK base w w2):=HB1.out.trans (BK.up hb2 (by have:=HR1.out.from_;have:=HR1.out.lt;omega))
 have HP2:Hid (Calls Tryz.prog 159 #[.pointer (some ⟨B,0,none⟩)] w2 fun e w'=>e=.returned (.int .i64 ((s.size+1:Nat):Int))∧w2=w'):=mplaces_any HR2.out hs
 obtain ⟨N,hN⟩:∃ N,s.size+1=N:=⟨_,rfl⟩
 simp only
 rw [hN] at HR2 HP2 ⊢
 have HNN:Hid (s.size+1=N):=hN
 have hN5:N≤512:=by omega
 clear hb2 hN HR1 HB1
 go_wp2_with fail
 refine HP2.out.mono ?_
 rintro e w2' ⟨rfl,rfl⟩
 go_wp2_with fail
 go_loopw [16] (fun vi wr=>∃ (i:Nat) (r:List Nat),i≤N∧vi=.int .i64 (i:Int)∧RD base wr B tv s rv' sv' (st ++ [(.slice (some ⟨g1,0,none⟩) N c1,r)]) (sp ++ [(.slice (some ⟨g2,0,none⟩) N c2,r2)])∧(∀ p,p<N→if p<i then EndsOk (fun u=>∃ x y,u=x ++ y∧P x∧Q y) (wl s) p (r.getD p 0) else r.getD p 0=r1.getD p 0)∧BK base w wr) (fun vi _=>N - (intOf vi).toNat)
 case atStart=>exact ⟨0,r1,Nat.zero_le _,rfl,HR2.out,fun p _=>by rw [if_neg (by omega)],HB2.out⟩
 case round =>
  clear HR2 HB2 HP2
  obtain ⟨i,r,hi,rfl,hr,hrow,hb⟩:=hrel
  have HR3:Hid (RD base wr B tv s rv' sv' (st ++ [(.slice (some ⟨g1,0,none⟩) N c1,r)]) (sp ++ [(.slice (some ⟨g2,0,none⟩) N c2,r2)])):=hr
  have HB3:Hid (BK base w wr):=hb
  have HROW:Hid (∀ p,p<N→if p<i then EndsOk (fun u=>∃ x y,u=x ++ y∧P x∧Q y) (wl s) p (r.getD p 0) else r.getD p 0=r1.getD p 0):=hrow
  clear hr hrow hb
  by_cases hlt : i < N
  ·have hiI:(i:Int)<N:=by omega
   have HLT:Hid (i<N):=hlt
   obtain ⟨A,hA⟩:∃ A,r1.getD i 0=A:=⟨_,rfl⟩
   have HXY:Hid (r.getD i 0=A∧EndsOk P (wl s) i A):=by
    have:=HROW.out i hlt
    rw [if_neg (by omega)] at this
    exact ⟨this.trans hA,by rw [← hA];exact HK1.out.2 i (by rw [wl_len];have:=HNN.out;omega)⟩
   have hFA:Fits A:=HXY.out.2.fits (by rw [wl_len];exact hs)
   obtain ⟨E,hE⟩:∃ E,wr.heap.size=E:=⟨_,rfl⟩
   obtain ⟨w4,hw4⟩:∃ w4,wr.alloc (.cells (cellsF (word 0)) 61)=w4:=⟨_,rfl⟩
   have HR4:Hid (RD base w4 B tv s rv' sv' (st ++ [(.slice (some ⟨g1,0,none⟩) N c1,r)]) (sp ++ [(.slice (some ⟨g2,0,none⟩) N c2,r2)])):=by rw [← hw4];exact HR3.out.stay ((Below.refl _ _).alloc (Nat.le_refl _) _)
   have HB4:Hid (BK base w w4):=by
    show BK base w w4
    rw [← hw4];exact HB3.out.alloc (by have:=HR3.out.from_;have:=HR3.out.lt;omega) _
   have HC4:Hid (Cells8 w4 E (word 0)):=by
    show Cells8 w4 E (word 0)
    rw [← hw4,← hE];exact Cells8.last wr _
   have HLT3:Hid (RDlt E B rv' sv' ((st ++ [((.slice (some ⟨g1,0,none⟩) N c1,r):RwP)] ++ (sp ++ [((.slice (some ⟨g2,0,none⟩) N c2,r2):RwP)])).map Prod.fst)):=by rw [← hE];exact HR3.out.lts
   have hE0:base≤E:=by have:=HR3.out.from_;have:=HR3.out.lt;omega
   obtain ⟨ho1,hl1⟩:=HR3.out.own (g:=g1) (N:=N) (c:=c1) (r:=r) (by simp) HNN.out
   obtain ⟨⟨a0,a1,a2,a3,a4,a5,a6,a7⟩,_⟩:=own_at8 ho1 hl1 i hlt
   rw [HXY.out.1] at a0 a1 a2 a3 a4 a5 a6 a7
   have hg1l:g1<E:=by rw [← hE];exact (ho1.lt g1 rfl).2
   have hg1m:=(ho1.lt g1 rfl).2
   have hEg:E≠g1:=fun e=>by have:=HLT3.out.all (.slice (some ⟨g1,0,none⟩) N c1) (by simp) g1 rfl;omega
   have HEG:Hid (E≠g1):=hEg
   have HT4:Hid (TzTab w4):=HT.out.under hT0 HB4.out
   have HL1:Hid (r.length=N):=hl1
   unfold cellsF at hw4
   simp only [word_zero] at hw4
   subst hw4
   clear hA HR3 HB3 ho1 hl1 hEg
   go_wp2_with fail
   refine (next_any A hFA 0 _ HT4.out).mono ?_
   rintro e w5 ⟨⟨n,ok,rfl,hni⟩,hb5⟩
   have HR5:Hid (RD base w5 B tv s rv' sv' (st ++ [(.slice (some ⟨g1,0,none⟩) N c1,r)]) (sp ++ [(.slice (some ⟨g2,0,none⟩) N c2,r2)])):=HR4.out.stay hb5
   have HB5:Hid (BK base w w5):=HB4.out.trans (BK.up hb5 (by have:=HR4.out.from_;have:=HR4.out.lt;omega))
   have HC5:Hid (Cells8 w5 E (word 0)):=HC4.out.of_heap (hb5.block E HC4.out.lt)
   have HNI:Hid (NextIs A 0 n ok):=hni
   clear hni hb5 HR4 HB4 HC4 HT4 a0 a1 a2 a3 a4 a5 a6 a7 hE
   go_wp2_with fail
   go_loopw [8,9] (fun vm vok wr2=>∃ (c:Nat) (n:Int) (ok:Bool) (V:Nat),vm=.int .i64 n∧vok=.bool ok∧NextIs A c n ok∧Cat A (fun m=>r2.getD m 0) c V∧RD base wr2 B tv s rv' sv' (st ++ [(.slice (some ⟨g1,0,none⟩) N c1,r)]) (sp ++ [(.slice (some ⟨g2,0,none⟩) N c2,r2)])∧Cells8 wr2 E (word V)∧BK base w wr2) (fun vm vok _=>left2 vm vok)
   case atStart=>exact ⟨0,n,ok,0,rfl,rfl,HNI.out,Cat.zero _ _,HR5.out,HC5.out,HB5.out⟩
   case round =>
    clear HR5 HB5 HC5 HNI
    obtain ⟨c,n',ok',V,rfl,rfl,hni,hcat,hr,hc,hb⟩:=hrel
    have HR6:Hid (RD base wr B tv s rv' sv' (st ++ [(.slice (some ⟨g1,0,none⟩) N c1,r)]) (sp ++ [(.slice (some ⟨g2,0,none⟩) N c2,r2)])):=hr
    have HB6:Hid (BK base w wr):=hb
    have HC6:Hid (Cells8 wr E (word V)):=hc
    have HCAT:Hid (Cat A (fun m=>r2.getD m 0) c V):=hcat
    clear hr hb hc hcat
    rcases hni with ⟨rfl,m,rfl,hm1,hm2,hm3⟩ | ⟨rfl,rfl,hm3⟩
    ·have hmN:m<N:=by
      have:=(HXY.out.2 m).1 hm2
      rw [wl_len] at this
      have:=HNN.out
      omega
     have HM:Hid (Cat A (fun m=>r2.getD m 0) m V):=HCAT.out.skip (by omega) (fun j h1 h2=>hm3 j (by omega) h2)
     have HM2:Hid (A.testBit m=true∧c≤m∧m<N):=⟨hm2,by omega,hmN⟩
     obtain ⟨ho2,hl2⟩:=HR6.out.own (g:=g2) (N:=N) (c:=c2) (r:=r2) (by simp) HNN.out
     obtain ⟨⟨b0,b1,b2,b3,b4,b5,b6,b7⟩,_⟩:=own_at8 ho2 hl2 m hmN
     obtain ⟨Y,hY⟩:∃ Y,r2.getD m 0=Y:=⟨_,rfl⟩
     rw [hY] at b0 b1 b2 b3 b4 b5 b6 b7
     have HY:Hid (r2.getD m 0=Y):=hY
     have hg2l:=(ho2.lt g2 rfl).2
     have hEl:=HC6.out.lt
     have hmI:(m:Int)<N:=by omega
     obtain ⟨d0,d1,d2,d3,d4,d5,d6,d7⟩:=HC6.out.gets
     obtain ⟨Z,hZ⟩:∃ Z,orN V Y=Z:=⟨_,rfl⟩
     have HZ:Hid (orN V Y=Z):=hZ
     clear hm1 hm2 hm3 ho2 hl2 hY hZ
     obtain ⟨m1,hm1⟩:∃ m1,m+1=m1:=⟨_,rfl⟩
     have hwm:IntKind.i64.wrap ((m:Int)+1)=(m1:Int):=by rw [IntKind.wrap_i64];omega
     have HM1:Hid (m+1=m1):=hm1
     clear hm1
     go_wp2_with fail
     go_region_with (go_at_call 161;refine (union_any V Y _).mono ?_;rintro e w7 ⟨rfl,hb7'⟩;rw [HZ.out];have hb7:Below wr.heap.size wr w7:=go_on (Below.refl _ _).drew hb7';have HC7:Hid (Cells8 w7 E (word V)):=HC6.out.of_heap (hb7.block E HC6.out.lt);obtain ⟨x0,x1,x2,x3,x4,x5,x6,x7⟩:=HC7.out.gets;have y0:=HC7.out.frozen 0;have y1:=HC7.out.frozen 1;have y2:=HC7.out.frozen 2;have y3:=HC7.out.frozen 3;have y4:=HC7.out.frozen 4;have y5:=HC7.out.frozen 5;have y6:=HC7.out.frozen 6;have y7:=HC7.out.frozen 7;unfold setV cellsF)
     all_goals (
      obtain ⟨w8,hw8⟩:∃ w8,put8 w7 E 0 Z=w8:=⟨_,rfl⟩
      have HF:Hid (RD base w8 B tv s rv' sv' (st ++ [(.slice (some ⟨g1,0,none⟩) N c1,r)]) (sp ++ [(.slice (some ⟨g2,0,none⟩) N c2,r2)])∧BK base w w8∧Cells8 w8 E (word Z)∧Cat A (fun m=>r2.getD m 0) m1 Z):=by
       have hB7:BK base w w7:=HB6.out.trans (BK.up hb7 (by have:=HR6.out.from_;have:=HR6.out.lt;omega))
       refine ⟨?_,?_,?_,?_⟩
       ·rw [← hw8]
        exact (HR6.out.stay hb7).kept2 HLT3.out (fun k hk=>put8_other w7 E 0 Z k (by omega))
       ·rw [← hw8]
        exact put8_below hB7 hE0 (RTy.set HC7.out) _ _
       ·rw [← hw8]
        exact (st8 HC7.out (hB7).b hE0 (word Z) rfl rfl rfl rfl rfl rfl rfl rfl).1
       ·have:=HM.out.put HM2.out.1
        rw [HY.out,HZ.out,HM1.out] at this
        exact this
      unfold put8 at hw8
      simp only [Nat.zero_add] at hw8
      rw [hw8]
      clear hw8 hb7 hb7' HC7 x0 x1 x2 x3 x4 x5 x6 x7 y0 y1 y2 y3 y4 y5 y6 y7 b0 b1 b2 b3 b4 b5 b6 b7 d0 d1 d2 d3 d4 d5 d6 d7
      obtain ⟨ho1,hl1⟩:=HF.out.1.own (g:=g1) (N:=N) (c:=c1) (r:=r) (by simp) HNN.out
      obtain ⟨⟨a0,a1,a2,a3,a4,a5,a6,a7⟩,_⟩:=own_at8 ho1 hl1 i HLT.out
      rw [HXY.out.1] at a0 a1 a2 a3 a4 a5 a6 a7
      have hg1n:=(ho1.lt g1 rfl).2
      have HT8:Hid (TzTab w8):=HT.out.under hT0 HF.out.2.1
      clear ho1 hl1
      go_wp2_with fail
      refine (next_any A hFA m1 _ HT8.out).mono ?_
      rintro e w9 ⟨⟨n2,ok2,rfl,hni2⟩,hb9⟩
      have HN2:Hid (NextIs A m1 n2 ok2):=hni2
      have HG:Hid (RD base w9 B tv s rv' sv' (st ++ [(.slice (some ⟨g1,0,none⟩) N c1,r)]) (sp ++ [(.slice (some ⟨g2,0,none⟩) N c2,r2)])∧Cells8 w9 E (word Z)∧BK base w w9) :=
       ⟨HF.out.1.stay hb9,HF.out.2.2.1.of_heap (hb9.block E HF.out.2.2.1.lt),HF.out.2.1.trans (BK.up hb9 (by have:=HF.out.1.from_;have:=HF.out.1.lt;omega))⟩
      clear hni2 hb9
      go_wp2_with fail
      go_roundw
      case rel=>exact ⟨m1,n2,ok2,Z,rfl,rfl,HN2.out,HF.out.2.2.2,HG.out.1,HG.out.2.1,HG.out.2.2⟩
      case measure =>
       have q1:=HM1.out
       have q2:=HM2.out
       rcases HN2.out with ⟨rfl,m2,rfl,q3,q4,q5⟩ | ⟨rfl,rfl,q5⟩
       ·simp [left2,intOf];omega
       ·simp [left2,intOf];omega)
    ·have HD:Hid (EndsOk (fun u=>∃ x y,u=x ++ y∧P x∧Q y) (wl s) i V):=by
      refine ends_concat (B:=fun m=>r2.getD m 0) (by rw [wl_len];have:=HNN.out;omega) HXY.out.2 (fun m hm=>HK2.out.2 m hm) (HCAT.out.done (fun j hj=>hm3 j (by omega)))
     obtain ⟨ho1,hl1⟩:=HR6.out.own (g:=g1) (N:=N) (c:=c1) (r:=r) (by simp) HNN.out
     obtain ⟨⟨a0,a1,a2,a3,a4,a5,a6,a7⟩,⟨f0,f1,f2,f3,f4,f5,f6,f7⟩⟩:=own_at8 ho1 hl1 i HLT.out
     have hg1n:=(ho1.lt g1 rfl).2
     have hEl:=HC6.out.lt
     obtain ⟨d0,d1,d2,d3,d4,d5,d6,d7⟩:=HC6.out.gets
     have HF:Hid (RD base (put8 wr g1 (i * 8) V) B tv s rv' sv' (st ++ [(.slice (some ⟨g1,0,none⟩) N c1,r.set i V)]) (sp ++ [(.slice (some ⟨g2,0,none⟩) N c2,r2)])∧BK base w (put8 wr g1 (i * 8) V)∧∀ p,p<N→if p<i+1 then EndsOk (fun u=>∃ x y,u=x ++ y∧P x∧Q y) (wl s) p ((r.set i V).getD p 0) else (r.set i V).getD p 0=r1.getD p 0):=by
      refine ⟨HR6.out.stored HNN.out i V HLT.out,put8_below HB6.out hg1 (HR6.out.rty (g:=g1) (N:=N) (c:=c1) (r:=r) (by simp)) _ _,fun p hp=>?_⟩
      rw [set_get r i p V (by have:=HL1.out;have:=HLT.out;omega)]
      by_cases e : p = i
      ·rw [if_pos e,if_pos (by omega),e]
       exact HD.out
      ·rw [if_neg e]
       have:=HROW.out p hp
       by_cases e2 : p < i
       ·rw [if_pos e2] at this
        rw [if_pos (by omega)]
        exact this
       ·rw [if_neg e2] at this
        rw [if_neg (by omega)]
        exact this
     clear hm3 ho1 hl1
     go_wp2_with fail
     have hI:i<N:=HLT.out
     exact ⟨⟨i+1,_,by omega,by go_num,HF.out.1,HF.out.2.2,HF.out.2.1⟩,by simp [intOf];omega⟩
  ·obtain rfl:i=N:=by omega
   have hiI:¬ (i:Int)<i:=by omega
   obtain ⟨ho,hl⟩:=HR3.out.own (g:=g1) (N:=i) (c:=c1) (r:=r) (by simp) HNN.out
   have HOK:Hid (RowOk (fun u=>∃ x y,u=x ++ y∧P x∧Q y) (wl s) r):=⟨by rw [wl_len,hl,HNN.out],fun p hp=>by
    have hpi:p<i:=by rw [wl_len] at hp;have:=HNN.out;omega
    have:=HROW.out p hpi
    rw [if_pos hpi] at this
    exact this⟩
   clear ho hl
   go_wp2_with fail
   refine bodyPost_end (results_none rfl _ _ _) rfl ?_
   exact ⟨rfl,_,_,_,_,_,HR3.out,by simp,HOK.out,HB3.out⟩
end Go.Proofs.YtfdhaknecjcjoaaGreatDoor

namespace Go.Proofs.YtfdhaknecjcjoaaGreatDoor
open Go Go.RowKit
set_option linter.unusedVariables false

theorem StL.cat {P:List Int→Prop} {x y:List Int} (h:StL P x) (hy:StL P y):StL P (x ++ y):=by
 induction h with
 | nil=>exact hy
 | cons a b h1 h2 h3 ih=>rw [List.append_assoc];exact .cons a _ h1 h2 ih
/-- What has been gathered of a star's ends from p on, of the part's ends A and the star's later ones S. -/
structure Gath (A : Nat) (S : Nat → Nat) (p R V : Nat) : Prop where
 here : V.testBit p = true
 from_:∀ q,V.testBit q=true→q=p∨∃ m,p<m∧A.testBit m=true∧(S m).testBit q=true
 rest:∀ q,R.testBit q=(A.testBit q && !V.testBit q)
 shut:∀ x,p<x→V.testBit x=true→∀ q,(S x).testBit q=true→V.testBit q=true
theorem Gath.start {A:Nat} {S:Nat→Nat} {p:Nat}:Gath A S p (butN A (2 ^ p)) (2 ^ p):=by
 refine ⟨by simp,fun q h=>.inl ?_,fun q=>testBit_but _ _ _,fun x hx h=>?_⟩
 ·rw [Nat.testBit_two_pow] at h;have:p=q:=by simpa using h
  exact this.symm
 ·rw [Nat.testBit_two_pow] at h;have:p=x:=by simpa using h
  omega
theorem Gath.put {P:List Int→Prop} {W:List Int} {A:Nat} {S:Nat→Nat} {p R V m:Nat} (h:Gath A S p R V) (hA:EndsOk P W p A) (hS:∀ m,p<m→m≤W.length→EndsOk (StL P) W m (S m)) (hm:R.testBit m=true) :
  p<m∧m≤W.length∧A.testBit m=true∧Gath A S p (butN R (orN V (S m))) (orN V (S m))∧(butN R (orN V (S m))).testBit m=false:=by
 have h1:=h.rest m
 rw [hm] at h1
 have h2:A.testBit m=true∧V.testBit m=false:=by
  have h3:=h1.symm
  rw [Bool.and_eq_true,Bool.not_eq_true'] at h3
  exact h3
 obtain ⟨a1,a2,a3⟩:=(hA m).1 h2.1
 have hpm:p<m:=by
  by_cases e : m = p
  ·rw [e,h.here] at h2;cases h2.2
  ·omega
 have hSm:=hS m hpm a2
 have hor:∀ q,(orN V (S m)).testBit q=(V.testBit q || (S m).testBit q):=fun q=>by unfold orN;rw [Nat.testBit_or]
 have hmm:(S m).testBit m=true:=(hSm m).2 ⟨Nat.le_refl _,a2,by rw [sub_self];exact .nil⟩
 refine ⟨hpm,a2,h2.1,⟨by rw [hor,h.here];rfl,fun q hq=>?_,fun q=>?_,fun x hx hxV q hq=>?_⟩,?_⟩
 ·rw [hor,Bool.or_eq_true] at hq
  rcases hq with hq | hq
  ·exact h.from_ q hq
  ·exact .inr ⟨m,hpm,h2.1,hq⟩
 ·rw [testBit_but,h.rest q,hor]
  cases A.testBit q <;> cases V.testBit q <;> simp
 ·rw [hor,Bool.or_eq_true] at hxV ⊢
  rcases hxV with hxV | hxV
  ·exact .inl (h.shut x hx hxV q hq)
  ·right
   obtain ⟨b1,b2,b3⟩:=(hSm x).1 hxV
   obtain ⟨d1,d2,d3⟩:=(hS x hx b2 q).1 hq
   exact (hSm q).2 ⟨by omega,d2,by rw [sub_cat b1 d1];exact b3.cat d3⟩
 ·rw [testBit_but,hor,hmm];simp
theorem Gath.done {P:List Int→Prop} {W:List Int} {A:Nat} {S:Nat→Nat} {p R V:Nat} (h:Gath A S p R V) (hp:p≤W.length) (hA:EndsOk P W p A) (hS:∀ m,p<m→m≤W.length→EndsOk (StL P) W m (S m)) (hR:∀ j,R.testBit j=false):EndsOk (StL P) W p V:=by
 refine ends_star hp hA hS (fun q=>⟨fun hq=>h.from_ q hq,?_⟩)
 rintro (rfl | ⟨m,h1,h2,h3⟩)
 ·exact h.here
 ·have hV:V.testBit m=true:=by
   have:=h.rest m
   rw [hR,h2,Bool.true_and] at this
   cases e : V.testBit m with
   | true=>rfl
   | false=>rw [e] at this;cases this
  exact h.shut m h1 hV q h3

/-- A new variable's block, behind a call. -/
theorem new8 {w5 w6:World} (hb:Below (w5.alloc (.cells #[.int .u64 0,.int .u64 0,.int .u64 0,.int .u64 0,.int .u64 0,.int .u64 0,.int .u64 0,.int .u64 0] 61)).drew.heap.size (w5.alloc (.cells #[.int .u64 0,.int .u64 0,.int .u64 0,.int .u64 0,.int .u64 0,.int .u64 0,.int .u64 0,.int .u64 0] 61)).drew w6):Below w5.heap.size w5 w6∧Cells8 w6 w5.heap.size (fun _=>0):=by
 have h1:Below w5.heap.size w5 (w5.alloc (.cells #[.int .u64 0,.int .u64 0,.int .u64 0,.int .u64 0,.int .u64 0,.int .u64 0,.int .u64 0,.int .u64 0] 61)).drew:=((Below.refl _ _).alloc (Nat.le_refl _) _).drew
 have h2:Cells8 (w5.alloc (.cells #[.int .u64 0,.int .u64 0,.int .u64 0,.int .u64 0,.int .u64 0,.int .u64 0,.int .u64 0,.int .u64 0] 61)).drew w5.heap.size (fun _=>0):=(Cells8.last w5 (fun _=>0)).of_heap rfl
 exact ⟨go_on h1 hb,h2.of_heap (hb.block _ h2.lt)⟩

def RestOk (base : Nat) (w : World) (B : Nat) (tv : Value) (s : ByteArray) (rv sv : Value) (st sp : List RwP) (E V0 R0 : Nat) (v8 : Value) (wx : World) : Prop :=
 ∃ Rb,v8=.pointer (some ⟨Rb,0,none⟩)∧E<Rb∧RD base wx B tv s rv sv st sp∧Cells8 wx E (word V0)∧Cells8 wx Rb (word R0)∧BK base w wx
theorem rest_A {base : Nat} {w w5 w6 : World} {B : Nat} {tv : Value} {s : ByteArray} {rv sv : Value} {st sp : List RwP} {E V0 : Nat} (R0 : Nat) (HR : RD base w5 B tv s rv sv st sp) (HC : Cells8 w5 E (word V0)) (HB : BK base w w5) (hb : Below w5.heap.size w5 w6) :
  RestOk base w B tv s rv sv st sp E V0 R0 (.pointer (some ⟨w6.heap.size,0,none⟩)) (w6.alloc (.cells #[.int .u64 (word R0 0:Nat),.int .u64 (word R0 1:Nat),.int .u64 (word R0 2:Nat),.int .u64 (word R0 3:Nat),.int .u64 (word R0 4:Nat),.int .u64 (word R0 5:Nat),.int .u64 (word R0 6:Nat),.int .u64 (word R0 7:Nat)] 61)):=by
 refine ⟨w6.heap.size,rfl,?_,?_,?_,?_,?_⟩
 ·have:=hb.size;have:=HC.lt;omega
 ·exact (HR.stay hb).stay ((Below.refl _ _).alloc (Nat.le_refl _) _)
 ·exact (HC.of_heap (hb.block E HC.lt)).alloc _
 ·exact Cells8.last w6 (word R0)
 ·exact (HB.trans (BK.up hb (by have:=HR.from_;have:=HR.lt;omega))).alloc (by have:=HR.from_;have:=HR.lt;have:=hb.size;omega) _
theorem rest_B {base:Nat} {w w5 w6:World} {B:Nat} {tv:Value} {s:ByteArray} {rv sv:Value} {st sp:List RwP} {E V0:Nat} (R0:Nat) (HR:RD base w5 B tv s rv sv st sp) (HC:Cells8 w5 E (word V0)) (HB:BK base w w5) (hb:Below w5.heap.size w5 w6) (hq:Cells8 w6 w5.heap.size (fun _=>0)) :
  RestOk base w B tv s rv sv st sp E V0 R0 (.pointer (some ⟨w5.heap.size,0,none⟩)) (put8 w6 w5.heap.size 0 R0):=by
 have hB:BK base w w6:=HB.trans (BK.up hb (by have:=HR.from_;have:=HR.lt;omega))
 have h0:base≤w5.heap.size:=by have:=HR.from_;have:=HR.lt;omega
 refine ⟨w5.heap.size,rfl,HC.lt,?_,?_,?_,?_⟩
 ·exact (HR.stay hb).kept2 HR.lts (fun k hk=>put8_other _ _ _ _ k (by omega))
 ·exact put8_cells (HC.of_heap (hb.block E HC.lt)) (by have:=HC.lt;omega)
 ·exact (st8 hq (hB).b h0 (word R0) rfl rfl rfl rfl rfl rfl rfl rfl).1
 ·exact put8_below hB h0 (RTy.set hq) _ _

set_option maxHeartbeats 8000000 in
set_option maxRecDepth 100000 in
theorem mstar_any {P : List Int → Prop} {base : Nat} {w : World} {B : Nat} {tv : Value} {s : ByteArray} {rv sv : Value} {st sp : List RwP} {x1 : RwP} (h : RD base w B tv s rv sv (st ++ [x1]) sp) (hT : TzTab w) (hT0 : 1 < base) (hs : s.size ≤ 511) (hn : st.length ≤ 7000000) (h1 : RowOk P (wl s) x1.2) (k s0 : Int) :
  Calls Tryz.prog 155 #[.pointer (some ⟨B,0,none⟩),.agg #[.int .i64 k,.int .u8 s0]] w (Join1 (StL P) base B tv s st sp w):=by
 unfold Join1
 have HR:Hid (RD base (w.alloc (.cells #[.int .i64 k,.int .u8 s0] 51)) B tv s rv sv (st ++ [x1]) sp):=h.stay ((Below.refl _ _).alloc (Nat.le_refl _) _)
 have HB:Hid (BK base w (w.alloc (.cells #[.int .i64 k,.int .u8 s0] 51))):=(BK.refl _ _).alloc (by have:=h.from_;have:=h.lt;omega) _
 have HK1:Hid (RowOk P (wl s) x1.2):=h1
 have HT:Hid (TzTab w):=hT
 obtain ⟨v1,r1⟩:=x1
 obtain ⟨g1,c1,hv1,hg1,_⟩:=h.block (x:=(v1,r1)) (by simp)
 simp only at hv1 HK1
 subst hv1
 clear h h1 hT
 go_enter Tryz.func155,Tryz.ntmps155
 go_wp2_with fail
 refine (mtop_any HR.out (by omega)).mono ?_
 rintro e w2 ⟨rfl,hb2⟩
 have HR2:Hid (RD base w2 B tv s rv sv (st ++ [(.slice (some ⟨g1,0,none⟩) (s.size+1) c1,r1)]) sp):=HR.out.stay hb2
 have HB2:Hid (BK base w w2):=HB.out.trans (BK.up hb2 (by have:=HR.out.from_;have:=HR.out.lt;omega))
 have HP2:Hid (Calls Tryz.prog 159 #[.pointer (some ⟨B,0,none⟩)] w2 fun e w'=>e=.returned (.int .i64 ((s.size+1:Nat):Int))∧w2=w'):=mplaces_any HR2.out hs
 obtain ⟨N,hN⟩:∃ N,s.size+1=N:=⟨_,rfl⟩
 simp only
 rw [hN] at HR2 HP2 ⊢
 have HNN:Hid (s.size+1=N):=hN
 have hN5:N≤512:=by omega
 clear hb2 hN HR HB
 go_wp2_with fail
 refine HP2.out.mono ?_
 rintro e w2' ⟨rfl,rfl⟩
 go_wp2_with fail
 go_loopw [15] (fun vi wr=>∃ (i:Nat) (r:List Nat),i≤N∧vi=.int .i64 (i:Int)∧RD base wr B tv s rv sv (st ++ [(.slice (some ⟨g1,0,none⟩) N c1,r)]) sp∧(∀ p,p<N→if N≤p+i then EndsOk (StL P) (wl s) p (r.getD p 0) else r.getD p 0=r1.getD p 0)∧BK base w wr) (fun vi _=>N - (intOf vi).toNat)
 case atStart=>exact ⟨0,r1,Nat.zero_le _,rfl,HR2.out,fun p _=>by rw [if_neg (by omega)],HB2.out⟩
 case round =>
  clear HR2 HB2 HP2
  obtain ⟨i,r,hi,rfl,hr,hrow,hb⟩:=hrel
  have HR3:Hid (RD base wr B tv s rv sv (st ++ [(.slice (some ⟨g1,0,none⟩) N c1,r)]) sp):=hr
  have HB3:Hid (BK base w wr):=hb
  have HROW:Hid (∀ p,p<N→if N≤p+i then EndsOk (StL P) (wl s) p (r.getD p 0) else r.getD p 0=r1.getD p 0):=hrow
  clear hr hrow hb
  by_cases hlt : i < N
  ·have hiI:(i:Int)<N:=by omega
   have HLT:Hid (i<N):=hlt
   obtain ⟨p,hp⟩:∃ p,p+i+1=N:=⟨N - 1 - i,by omega⟩
   have HPN:Hid (p+i+1=N):=hp
   have hpN:p<N:=by omega
   have hp5:p<512:=by omega
   have hpI:(p:Int)<N:=by omega
   have hwp:IntKind.i64.wrap ((s.size:Int) - (i:Int))=(p:Int):=by rw [IntKind.wrap_i64];have:=HNN.out;omega
   obtain ⟨_,cw,_,_⟩:=HR3.out.cells
   obtain ⟨A,hA⟩:∃ A,r1.getD p 0=A:=⟨_,rfl⟩
   have HXY:Hid (r.getD p 0=A∧EndsOk P (wl s) p A):=by
    have:=HROW.out p hpN
    rw [if_neg (by omega)] at this
    exact ⟨this.trans hA,by rw [← hA];exact HK1.out.2 p (by rw [wl_len];have:=HNN.out;omega)⟩
   have HS:Hid (∀ m,p<m→m≤(wl s).length→EndsOk (StL P) (wl s) m (r.getD m 0)):=fun m hm1 hm2=>by
    rw [wl_len] at hm2
    have:=HROW.out m (by have:=HNN.out;omega)
    rw [if_pos (by omega)] at this
    exact this
   have hB3:=HR3.out.lt
   clear hA hp
   go_wp2_with fail
   refine (monly_any p hp5 _).mono ?_
   rintro e w4 ⟨rfl,hb4⟩
   obtain ⟨V0,hV0⟩:∃ V0,2 ^ p=V0:=⟨_,rfl⟩
   rw [hV0]
   have HV0:Hid (2 ^ p=V0):=hV0
   have HR4:Hid (RD base w4 B tv s rv sv (st ++ [(.slice (some ⟨g1,0,none⟩) N c1,r)]) sp):=HR3.out.stay hb4
   have HB4:Hid (BK base w w4):=HB3.out.trans (BK.up hb4 (by have:=HR3.out.from_;have:=HR3.out.lt;omega))
   obtain ⟨E,hE⟩:∃ E,w4.heap.size=E:=⟨_,rfl⟩
   have HC5:Hid (Cells8 (w4.alloc (.cells (cellsF (word V0)) 61)) E (word V0)):=by rw [← hE];exact Cells8.last w4 _
   have HR5:Hid (RD base (w4.alloc (.cells (cellsF (word V0)) 61)) B tv s rv sv (st ++ [(.slice (some ⟨g1,0,none⟩) N c1,r)]) sp):=HR4.out.stay ((Below.refl _ _).alloc (Nat.le_refl _) _)
   have HB5:Hid (BK base w (w4.alloc (.cells (cellsF (word V0)) 61))):=HB4.out.alloc (by have:=HR4.out.from_;have:=HR4.out.lt;omega) _
   have HLT3:Hid (RDlt E B rv sv ((st ++ [((.slice (some ⟨g1,0,none⟩) N c1,r):RwP)] ++ sp).map Prod.fst)):=by rw [← hE];exact HR4.out.lts
   have hE0:base≤E:=by have h1:=HR4.out.from_;have h2:=HLT3.out.b;omega
   obtain ⟨ho1,hl1⟩:=HR4.out.own (g:=g1) (N:=N) (c:=c1) (r:=r) (by simp) HNN.out
   obtain ⟨⟨a0,a1,a2,a3,a4,a5,a6,a7⟩,_⟩:=own_at8 ho1 hl1 p hpN
   rw [HXY.out.1] at a0 a1 a2 a3 a4 a5 a6 a7
   have hg1l:g1<E:=by rw [← hE];exact (ho1.lt g1 rfl).2
   have hg1m:=(ho1.lt g1 rfl).2
   have HL1:Hid (r.length=N):=hl1
   clear HR3 HB3 hb4 ho1 hl1 hV0 cw
   unfold cellsF at HC5 HR5 HB5
   unfold setV cellsF
   go_wp2_with fail
   obtain ⟨w5,hw5⟩:∃ w5,w4.alloc (.cells #[.int .u64 (word V0 0:Nat),.int .u64 (word V0 1:Nat),.int .u64 (word V0 2:Nat),.int .u64 (word V0 3:Nat),.int .u64 (word V0 4:Nat),.int .u64 (word V0 5:Nat),.int .u64 (word V0 6:Nat),.int .u64 (word V0 7:Nat)] 61)=w5:=⟨_,rfl⟩
   rw [hw5] at HC5 HR5 HB5 ⊢
   clear hw5 a0 a1 a2 a3 a4 a5 a6 a7 hE hg1m
   obtain ⟨ho1,hl1⟩:=HR5.out.own (g:=g1) (N:=N) (c:=c1) (r:=r) (by simp) HNN.out
   obtain ⟨⟨a0,a1,a2,a3,a4,a5,a6,a7⟩,_⟩:=own_at8 ho1 hl1 p hpN
   rw [HXY.out.1] at a0 a1 a2 a3 a4 a5 a6 a7
   have hg1m:=(ho1.lt g1 rfl).2
   have hEl:=HC5.out.lt
   obtain ⟨d0,d1,d2,d3,d4,d5,d6,d7⟩:=HC5.out.gets
   obtain ⟨R0,hR0⟩:∃ R0,butN A V0=R0:=⟨_,rfl⟩
   have HR0:Hid (butN A V0=R0):=hR0
   clear ho1 hl1 hR0 HR4 HB4
   go_cut [8] (fun v8 wx=>RestOk base w B tv s rv sv (st ++ [(.slice (some ⟨g1,0,none⟩) N c1,r)]) sp E V0 R0 v8 wx)
   case first =>
    go_region_with (go_at_call 164;refine (minus_any A V0 _).mono ?_;rintro e w6 ⟨rfl,hb6'⟩;rw [HR0.out];(first
     | (have hb6:Below w5.heap.size w5 w6:=go_on (Below.refl _ _).drew hb6';have HQ:Hid (0=0):=rfl)
     | (obtain ⟨hb6,hq6⟩:=new8 hb6';have HQB:Hid (Cells8 w6 w5.heap.size (fun _=>0)):=hq6;obtain ⟨x0,x1,x2,x3,x4,x5,x6,x7⟩:=HQB.out.gets;have y0:=HQB.out.frozen 0;have y1:=HQB.out.frozen 1;have y2:=HQB.out.frozen 2;have y3:=HQB.out.frozen 3;have y4:=HQB.out.frozen 4;have y5:=HQB.out.frozen 5;have y6:=HQB.out.frozen 6;have y7:=HQB.out.frozen 7));unfold setV cellsF)
    all_goals go_wp2_with fail
    all_goals go_meet
    all_goals first
     | (have hz:=rest_B R0 HR5.out HC5.out HB5.out hb6 HQB.out;unfold put8 at hz;simp only [Nat.zero_add] at hz;exact hz)
     | (have hz:=rest_A R0 HR5.out HC5.out HB5.out hb6;exact hz)
   case rest =>
    obtain ⟨Rb,rfl,hRb,hr,hcE,hcR,hb⟩:=hcut
    have HR7:Hid (RD base wc B tv s rv sv (st ++ [(.slice (some ⟨g1,0,none⟩) N c1,r)]) sp):=hr
    have HE7:Hid (Cells8 wc E (word V0)):=hcE
    have HF7:Hid (Cells8 wc Rb (word R0)):=hcR
    have HB7:Hid (BK base w wc):=hb
    have HT7:Hid (TzTab wc):=HT.out.under hT0 hb
    have HG7:Hid (Gath A (fun m=>r.getD m 0) p R0 V0):=by
     show Gath A (fun m=>r.getD m 0) p R0 V0
     rw [← HR0.out,← HV0.out]
     exact Gath.start
    have HFR:Hid (∀ R V,Gath A (fun m=>r.getD m 0) p R V→Fits R):=fun R V hg j hj=>by rw [hg.rest j,HXY.out.2.small (by rw [wl_len];omega),Bool.false_and]
    clear hr hcE hcR hb a0 a1 a2 a3 a4 a5 a6 a7 d0 d1 d2 d3 d4 d5 d6 d7 HR5 HB5 HC5 hg1m hEl
    obtain ⟨x0,x1,x2,x3,x4,x5,x6,x7⟩:=HF7.out.gets
    have hRl:=HF7.out.lt
    have hR0':base≤Rb:=by omega
    go_wp2_with fail
    refine (next_any R0 (HFR.out _ _ HG7.out) 0 _ HT7.out).mono ?_
    rintro e w8 ⟨⟨n,ok,rfl,hni⟩,hb8⟩
    have HI8:Hid (NextIs R0 0 n ok∧RD base w8 B tv s rv sv (st ++ [(.slice (some ⟨g1,0,none⟩) N c1,r)]) sp∧Cells8 w8 E (word V0)∧Cells8 w8 Rb (word R0)∧BK base w w8) :=
     ⟨hni,HR7.out.stay hb8,HE7.out.of_heap (hb8.block E HE7.out.lt),HF7.out.of_heap (hb8.block Rb HF7.out.lt),HB7.out.trans (BK.up hb8 (by have:=HR7.out.from_;have:=HR7.out.lt;omega))⟩
    clear hni hb8 x0 x1 x2 x3 x4 x5 x6 x7 hRl HR7 HE7 HF7 HB7 HT7
    go_wp2_with fail
    go_loopw [9,10] (fun vm vok wr2=>∃ (n:Int) (ok:Bool) (V R:Nat),vm=.int .i64 n∧vok=.bool ok∧NextIs R 0 n ok∧Gath A (fun m=>r.getD m 0) p R V∧RD base wr2 B tv s rv sv (st ++ [(.slice (some ⟨g1,0,none⟩) N c1,r)]) sp∧Cells8 wr2 E (word V)∧Cells8 wr2 Rb (word R)∧BK base w wr2) (fun vm vok _=>left2 vm vok)
    case atStart=>exact ⟨n,ok,V0,R0,rfl,rfl,HI8.out.1,HG7.out,HI8.out.2.1,HI8.out.2.2.1,HI8.out.2.2.2.1,HI8.out.2.2.2.2⟩
    case round =>
     clear HI8 HG7
     obtain ⟨n',ok',V,R,rfl,rfl,hni,hga,hr,hcE,hcR,hb⟩:=hrel
     have HR6:Hid (RD base wr B tv s rv sv (st ++ [(.slice (some ⟨g1,0,none⟩) N c1,r)]) sp):=hr
     have HB6:Hid (BK base w wr):=hb
     have HE6:Hid (Cells8 wr E (word V)):=hcE
     have HF6:Hid (Cells8 wr Rb (word R)):=hcR
     have HGA:Hid (Gath A (fun m=>r.getD m 0) p R V):=hga
     clear hr hb hcE hcR hga
     rcases hni with ⟨rfl,m,rfl,hm1,hm2,hm3⟩ | ⟨rfl,rfl,hm3⟩
     ·have HPUT:Hid _:=HGA.out.put HXY.out.2 HS.out hm2
      have hmN:m<N:=by
       have:=HPUT.out.2.1
       rw [wl_len] at this
       have:=HNN.out
       omega
      have HM2:Hid (m<N∧R.testBit m=true∧∀ j:Nat,j<m→R.testBit j=false):=⟨hmN,hm2,fun j hj=>hm3 j (by omega) hj⟩
      obtain ⟨ho1,hl1⟩:=HR6.out.own (g:=g1) (N:=N) (c:=c1) (r:=r) (by simp) HNN.out
      obtain ⟨⟨b0,b1,b2,b3,b4,b5,b6,b7⟩,_⟩:=own_at8 ho1 hl1 m hmN
      obtain ⟨Y,hY⟩:∃ Y,r.getD m 0=Y:=⟨_,rfl⟩
      rw [hY] at b0 b1 b2 b3 b4 b5 b6 b7
      have HY:Hid (r.getD m 0=Y):=hY
      have hg1n:=(ho1.lt g1 rfl).2
      have hEl:=HE6.out.lt
      have hmI:(m:Int)<N:=by omega
      obtain ⟨d0,d1,d2,d3,d4,d5,d6,d7⟩:=HE6.out.gets
      obtain ⟨Z,hZ⟩:∃ Z,orN V Y=Z:=⟨_,rfl⟩
      have HZ:Hid (orN V Y=Z):=hZ
      obtain ⟨R',hR'⟩:∃ R',butN R Z=R':=⟨_,rfl⟩
      have HR':Hid (butN R Z=R'):=hR'
      have HGN:Hid (Gath A (fun m=>r.getD m 0) p R' Z∧R'.testBit m=false):=by
       have h1:=HPUT.out.2.2.2
       simp only [hY] at h1
       rw [hZ,hR'] at h1
       exact h1
      clear hm1 hm2 hm3 ho1 hl1 hY hZ hR' HPUT
      go_wp2_with fail
      go_region_with (go_at_call 161;refine (union_any V Y _).mono ?_;rintro e w9 ⟨rfl,hb9'⟩;rw [HZ.out];have hb9:Below wr.heap.size wr w9:=go_on (Below.refl _ _).drew hb9';have HE9:Hid (Cells8 w9 E (word V)):=HE6.out.of_heap (hb9.block E HE6.out.lt);obtain ⟨x0,x1,x2,x3,x4,x5,x6,x7⟩:=HE9.out.gets;have y0:=HE9.out.frozen 0;have y1:=HE9.out.frozen 1;have y2:=HE9.out.frozen 2;have y3:=HE9.out.frozen 3;have y4:=HE9.out.frozen 4;have y5:=HE9.out.frozen 5;have y6:=HE9.out.frozen 6;have y7:=HE9.out.frozen 7;unfold setV cellsF)
      all_goals (
       obtain ⟨wA,hwA⟩:∃ wA,put8 w9 E 0 Z=wA:=⟨_,rfl⟩
       have HA:Hid (RD base wA B tv s rv sv (st ++ [(.slice (some ⟨g1,0,none⟩) N c1,r)]) sp∧BK base w wA∧Cells8 wA E (word Z)∧Cells8 wA Rb (word R)):=by
        have hB9:BK base w w9:=HB6.out.trans (BK.up hb9 (by have:=HR6.out.from_;have:=HR6.out.lt;omega))
        refine ⟨?_,?_,?_,?_⟩
        ·rw [← hwA]
         exact (HR6.out.stay hb9).kept2 HLT3.out (fun k hk=>put8_other w9 E 0 Z k (by omega))
        ·rw [← hwA]
         exact put8_below hB9 hE0 (RTy.set (HE6.out.of_heap (hb9.block E HE6.out.lt))) _ _
        ·rw [← hwA]
         exact (st8 HE9.out (hB9).b hE0 (word Z) rfl rfl rfl rfl rfl rfl rfl rfl).1
        ·rw [← hwA]
         exact put8_cells (HF6.out.of_heap (hb9.block Rb HF6.out.lt)) (by omega)
       unfold put8 at hwA
       simp only [Nat.zero_add] at hwA
       rw [hwA]
       clear hwA hb9 hb9' HE9 x0 x1 x2 x3 x4 x5 x6 x7 y0 y1 y2 y3 y4 y5 y6 y7 b0 b1 b2 b3 b4 b5 b6 b7 d0 d1 d2 d3 d4 d5 d6 d7 hg1n hEl
       obtain ⟨x0,x1,x2,x3,x4,x5,x6,x7⟩:=HA.out.2.2.2.gets
       obtain ⟨d0,d1,d2,d3,d4,d5,d6,d7⟩:=HA.out.2.2.1.gets
       have hEl:=HA.out.2.2.1.lt
       have hRl:=HA.out.2.2.2.lt
       go_wp2_with fail
       refine (minus_any R Z _).mono ?_
       rintro e wB ⟨rfl,hbB⟩
       rw [HR'.out]
       have HFB:Hid (Cells8 wB Rb (word R)):=HA.out.2.2.2.of_heap (hbB.block Rb HA.out.2.2.2.lt)
       obtain ⟨z0,z1,z2,z3,z4,z5,z6,z7⟩:=HFB.out.gets
       have y0:=HFB.out.frozen 0
       have y1:=HFB.out.frozen 1
       have y2:=HFB.out.frozen 2
       have y3:=HFB.out.frozen 3
       have y4:=HFB.out.frozen 4
       have y5:=HFB.out.frozen 5
       have y6:=HFB.out.frozen 6
       have y7:=HFB.out.frozen 7
       unfold setV cellsF
       all_goals (
        obtain ⟨wC,hwC⟩:∃ wC,put8 wB Rb 0 R'=wC:=⟨_,rfl⟩
        have HC:Hid (RD base wC B tv s rv sv (st ++ [(.slice (some ⟨g1,0,none⟩) N c1,r)]) sp∧BK base w wC∧Cells8 wC E (word Z)∧Cells8 wC Rb (word R')):=by
         have hBB:BK base w wB:=HA.out.2.1.trans (BK.up hbB (by have:=HA.out.1.from_;have:=HA.out.1.lt;omega))
         refine ⟨?_,?_,?_,?_⟩
         ·rw [← hwC]
          exact (HA.out.1.stay hbB).kept2 HLT3.out (fun k hk=>put8_other wB Rb 0 R' k (by omega))
         ·rw [← hwC]
          exact put8_below hBB hR0' (RTy.set (HA.out.2.2.2.of_heap (hbB.block Rb HA.out.2.2.2.lt))) _ _
         ·rw [← hwC]
          exact put8_cells (HA.out.2.2.1.of_heap (hbB.block E HA.out.2.2.1.lt)) (by omega)
         ·rw [← hwC]
          exact (st8 HFB.out (hBB).b hR0' (word R') rfl rfl rfl rfl rfl rfl rfl rfl).1
        unfold put8 at hwC
        simp only [Nat.zero_add] at hwC
        obtain ⟨p0,p1,p2,p3,p4,p5,p6,p7⟩:=HC.out.2.2.2.gets
        go_wp2_with fail
        try rw [hwC]
        clear hwC hbB HFB p0 p1 p2 p3 p4 p5 p6 p7 x0 x1 x2 x3 x4 x5 x6 x7 y0 y1 y2 y3 y4 y5 y6 y7 d0 d1 d2 d3 d4 d5 d6 d7 z0 z1 z2 z3 z4 z5 z6 z7 hEl hRl
        have HTC:Hid (TzTab wC):=HT.out.under hT0 HC.out.2.1
        have HFR':Hid (Fits R'):=HFR.out _ _ HGN.out.1
        refine (next_any R' HFR'.out 0 _ HTC.out).mono ?_
        rintro e wD ⟨⟨n2,ok2,rfl,hni2⟩,hbD⟩
        have HN2:Hid (NextIs R' 0 n2 ok2):=hni2
        have HD:Hid (RD base wD B tv s rv sv (st ++ [(.slice (some ⟨g1,0,none⟩) N c1,r)]) sp∧Cells8 wD E (word Z)∧Cells8 wD Rb (word R')∧BK base w wD) :=
         ⟨HC.out.1.stay hbD,HC.out.2.2.1.of_heap (hbD.block E HC.out.2.2.1.lt),HC.out.2.2.2.of_heap (hbD.block Rb HC.out.2.2.2.lt),HC.out.2.1.trans (BK.up hbD (by have:=HC.out.1.from_;have:=HC.out.1.lt;omega))⟩
        clear hni2 hbD
        go_wp2_with fail
        go_roundw
        case rel=>exact ⟨n2,ok2,Z,R',rfl,rfl,HN2.out,HGN.out.1,HD.out.1,HD.out.2.1,HD.out.2.2.1,HD.out.2.2.2⟩
        case measure =>
         have q2:=HM2.out
         rcases HN2.out with ⟨rfl,m2,rfl,q3,q4,q5⟩ | ⟨rfl,rfl,q5⟩
         ·have q6:R.testBit m2=true:=by
           rw [← HR'.out,testBit_but,Bool.and_eq_true] at q4
           exact q4.1
          have q7:m2≠m:=fun e=>by rw [e,HGN.out.2] at q4;cases q4
          have q8:¬ m2<m:=fun e=>by rw [q2.2.2 m2 e] at q6;cases q6
          simp [left2,intOf]
          omega
         ·simp [left2,intOf]
          omega))
     ·have HDN:Hid (EndsOk (StL P) (wl s) p V):=HGA.out.done (by rw [wl_len];have:=HNN.out;omega) HXY.out.2 HS.out (fun j=>hm3 j (by omega))
      obtain ⟨ho1,hl1⟩:=HR6.out.own (g:=g1) (N:=N) (c:=c1) (r:=r) (by simp) HNN.out
      obtain ⟨⟨a0,a1,a2,a3,a4,a5,a6,a7⟩,⟨f0,f1,f2,f3,f4,f5,f6,f7⟩⟩:=own_at8 ho1 hl1 p hpN
      have hg1n:=(ho1.lt g1 rfl).2
      have hEl:=HE6.out.lt
      obtain ⟨d0,d1,d2,d3,d4,d5,d6,d7⟩:=HE6.out.gets
      have HF:Hid (RD base (put8 wr g1 (p * 8) V) B tv s rv sv (st ++ [(.slice (some ⟨g1,0,none⟩) N c1,r.set p V)]) sp∧BK base w (put8 wr g1 (p * 8) V)∧∀ q,q<N→if N≤q+(i+1) then EndsOk (StL P) (wl s) q ((r.set p V).getD q 0) else (r.set p V).getD q 0=r1.getD q 0):=by
       refine ⟨HR6.out.stored HNN.out p V hpN,put8_below HB6.out hg1 (HR6.out.rty (g:=g1) (N:=N) (c:=c1) (r:=r) (by simp)) _ _,fun q hq=>?_⟩
       have hPN:=HPN.out
       rw [set_get r p q V (by have:=HL1.out;omega)]
       by_cases e : q = p
       ·rw [if_pos e,if_pos (by omega),e]
        exact HDN.out
       ·rw [if_neg e]
        have:=HROW.out q hq
        by_cases e2 : N ≤ q + i
        ·rw [if_pos e2] at this
         rw [if_pos (by omega)]
         exact this
        ·rw [if_neg e2] at this
         rw [if_neg (by omega)]
         exact this
      clear hm3 ho1 hl1
      go_wp2_with fail
      have hI:i<N:=HLT.out
      exact ⟨⟨i+1,_,by omega,by go_num,HF.out.1,HF.out.2.2,HF.out.2.1⟩,by simp [intOf];omega⟩
  ·obtain rfl:i=N:=by omega
   have hiI:¬ (i:Int)<i:=by omega
   obtain ⟨ho,hl⟩:=HR3.out.own (g:=g1) (N:=i) (c:=c1) (r:=r) (by simp) HNN.out
   have HOK:Hid (RowOk (StL P) (wl s) r):=⟨by rw [wl_len,hl,HNN.out],fun p hp=>by
    have hpi:p<i:=by rw [wl_len] at hp;have:=HNN.out;omega
    have:=HROW.out p hpi
    rw [if_pos (by omega)] at this
    exact this⟩
   clear ho hl
   go_wp2_with fail
   refine bodyPost_end (results_none rfl _ _ _) rfl ?_
   exact ⟨rfl,_,_,_,_,_,HR3.out,by simp,HOK.out,HB3.out⟩
end Go.Proofs.YtfdhaknecjcjoaaGreatDoor

namespace Go.Proofs.YtfdhaknecjcjoaaGreatDoor
open Go Go.RowKit
open Go.ChangeMaps (setBlock)
set_option linter.unusedVariables false

theorem Tryz.und_rmap:Tryz.prog.underlying 172=some (.map 3 174):=by kernel_rfl
theorem Tryz.und_rkey:Tryz.prog.underlying 3=some (.int .i64):=by kernel_rfl
theorem ins_map {w : World} {b : Nat} {es : Array MapEntry} {clock : Nat} (hb : w.heap[b]? = some (.map es clock)) (a : Int) (v : Value) (hw : (Lit.int .i64 a).wf = true) (hn : Instr.findNow (.int .i64) (.int .i64 a) es.toList 0 = some none) :
  (Instr.mapUpdate 172 (.map (some b)) (.int .i64 a) v).run Tryz.prog w=.ok () (setBlock w b (.map (es.push ⟨.int .i64 a,v,clock⟩) (clock+1))):=by
 have hc:=(Maps.int_keyed Tryz.und_rkey).check w false (Maps.keyOf_int_mk Tryz.und_rkey hw)
 simp [Instr.mapUpdate,run_underlying Tryz.und_rmap,MapKept.run_getObj_map hb,hc,MapKept.run_findKey Tryz.und_rkey hn,MapKept.run_setObj_map _ hb,Result.andThen,setBlock]
theorem ins_new (w : World) (es : Array MapEntry) (clock : Nat) (a : Int) (v : Value) (hw : (Lit.int .i64 a).wf = true) (hn : Instr.findNow (.int .i64) (.int .i64 a) es.toList 0 = some none) :
  (Instr.mapUpdate 172 (.map (some w.heap.size)) (.int .i64 a) v).run Tryz.prog (w.alloc (.map es clock))=.ok () (w.alloc (.map (es.push ⟨.int .i64 a,v,clock⟩) (clock+1))):=by
 rw [ins_map (heap_alloc_last w _) a v hw hn]
 have e:setBlock (w.alloc (.map es clock)) w.heap.size (.map (es.push ⟨.int .i64 a,v,clock⟩) (clock+1))=w.alloc (.map (es.push ⟨.int .i64 a,v,clock⟩) (clock+1)):=by
  unfold setBlock World.alloc
  congr 1
  apply Array.ext_getElem?
  intro j
  rw [Array.getElem?_setIfInBounds]
  by_cases hj : w.heap.size = j
  ·subst hj;simp
  ·rw [if_neg hj,Array.getElem?_push,Array.getElem?_push,if_neg (fun h=>hj h.symm),if_neg (fun h=>hj h.symm)]
 rw [e]
/-- The table's entries. -/
def rdEs:Array MapEntry:=#[⟨.int .i64 1,.func (.func 148) #[] #[],0⟩,⟨.int .i64 2,.func (.func 149) #[] #[],1⟩,⟨.int .i64 3,.func (.func 150) #[] #[],2⟩,⟨.int .i64 4,.func (.func 151) #[] #[],3⟩,⟨.int .i64 5,.func (.func 152) #[] #[],4⟩,⟨.int .i64 6,.func (.func 153) #[] #[],5⟩,⟨.int .i64 7,.func (.func 154) #[] #[],6⟩,⟨.int .i64 8,.func (.func 155) #[] #[],7⟩,⟨.int .i64 9,.func (.func 156) #[] #[],8⟩]
/-- The method of a kind. -/
def rdF (k:Int):Nat:=if k=1 then 148 else if k=2 then 149 else if k=3 then 150 else if k=4 then 151 else if k=5 then 152 else if k=6 then 153 else if k=7 then 154 else if k=8 then 155 else if k=9 then 156 else 0
theorem look_rd {w : World} {b : Nat} (hb : w.heap[b]? = some (.map rdEs 9)) (k : Int) (h1 : 1 ≤ k) (h2 : k ≤ 9) :
  (Instr.lookup 172 (.map (some b)) (.int .i64 k) false).run Tryz.prog w=.ok (.func (.func (rdF k)) #[] #[]) w:=by
 have hk:k=1∨k=2∨k=3∨k=4∨k=5∨k=6∨k=7∨k=8∨k=9:=by omega
 have hw:(Lit.int .i64 k).wf=true:=by rcases hk with rfl | rfl | rfl | rfl | rfl | rfl | rfl | rfl | rfl <;> decide
 have hc:=(Maps.int_keyed Tryz.und_rkey).check w rdEs.isEmpty (Maps.keyOf_int_mk Tryz.und_rkey hw)
 have hn:∃ i,Instr.findNow (.int .i64) (.int .i64 k) rdEs.toList 0=some (some (i,.func (.func (rdF k)) #[] #[])):=by
  rcases hk with rfl | rfl | rfl | rfl | rfl | rfl | rfl | rfl | rfl <;> exact ⟨_,rfl⟩
 obtain ⟨i,hi⟩:=hn
 simp [Instr.lookup,run_underlying Tryz.und_rmap,MapKept.run_getObj_map hb,hc,MapKept.run_findKey Tryz.und_rkey hi,Result.andThen]

set_option maxHeartbeats 2000000 in
set_option maxRecDepth 100000 in
theorem readings_any (w:World):Calls Tryz.prog 146 #[] w fun e w'=>e=.returned (.map (some w.heap.size))∧w'=w.alloc (.map rdEs 9):=by
 have hmm:=@run_makeMap Tryz.prog
 have hu1:(Instr.mapUpdate 172 (.map (some w.heap.size)) (.int .i64 1) (.func (.func 148) #[] #[])).run Tryz.prog (w.alloc (.map #[] 0))=.ok () (w.alloc (.map #[⟨.int .i64 1,.func (.func 148) #[] #[],0⟩] 1)):=ins_new w #[] 0 1 _ (by decide) rfl
 have hu2:(Instr.mapUpdate 172 (.map (some w.heap.size)) (.int .i64 2) (.func (.func 149) #[] #[])).run Tryz.prog (w.alloc (.map #[⟨.int .i64 1,.func (.func 148) #[] #[],0⟩] 1))=.ok () (w.alloc (.map #[⟨.int .i64 1,.func (.func 148) #[] #[],0⟩,⟨.int .i64 2,.func (.func 149) #[] #[],1⟩] 2)):=ins_new w #[⟨.int .i64 1,.func (.func 148) #[] #[],0⟩] 1 2 _ (by decide) rfl
 have hu3:(Instr.mapUpdate 172 (.map (some w.heap.size)) (.int .i64 3) (.func (.func 150) #[] #[])).run Tryz.prog (w.alloc (.map #[⟨.int .i64 1,.func (.func 148) #[] #[],0⟩,⟨.int .i64 2,.func (.func 149) #[] #[],1⟩] 2))=.ok () (w.alloc (.map #[⟨.int .i64 1,.func (.func 148) #[] #[],0⟩,⟨.int .i64 2,.func (.func 149) #[] #[],1⟩,⟨.int .i64 3,.func (.func 150) #[] #[],2⟩] 3)):=ins_new w #[⟨.int .i64 1,.func (.func 148) #[] #[],0⟩,⟨.int .i64 2,.func (.func 149) #[] #[],1⟩] 2 3 _ (by decide) rfl
 have hu4:(Instr.mapUpdate 172 (.map (some w.heap.size)) (.int .i64 4) (.func (.func 151) #[] #[])).run Tryz.prog (w.alloc (.map #[⟨.int .i64 1,.func (.func 148) #[] #[],0⟩,⟨.int .i64 2,.func (.func 149) #[] #[],1⟩,⟨.int .i64 3,.func (.func 150) #[] #[],2⟩] 3))=.ok () (w.alloc (.map #[⟨.int .i64 1,.func (.func 148) #[] #[],0⟩,⟨.int .i64 2,.func (.func 149) #[] #[],1⟩,⟨.int .i64 3,.func (.func 150) #[] #[],2⟩,⟨.int .i64 4,.func (.func 151) #[] #[],3⟩] 4)):=ins_new w #[⟨.int .i64 1,.func (.func 148) #[] #[],0⟩,⟨.int .i64 2,.func (.func 149) #[] #[],1⟩,⟨.int .i64 3,.func (.func 150) #[] #[],2⟩] 3 4 _ (by decide) rfl
 have hu5:(Instr.mapUpdate 172 (.map (some w.heap.size)) (.int .i64 5) (.func (.func 152) #[] #[])).run Tryz.prog (w.alloc (.map #[⟨.int .i64 1,.func (.func 148) #[] #[],0⟩,⟨.int .i64 2,.func (.func 149) #[] #[],1⟩,⟨.int .i64 3,.func (.func 150) #[] #[],2⟩,⟨.int .i64 4,.func (.func 151) #[] #[],3⟩] 4))=.ok () (w.alloc (.map #[⟨.int .i64 1,.func (.func 148) #[] #[],0⟩,⟨.int .i64 2,.func (.func 149) #[] #[],1⟩,⟨.int .i64 3,.func (.func 150) #[] #[],2⟩,⟨.int .i64 4,.func (.func 151) #[] #[],3⟩,⟨.int .i64 5,.func (.func 152) #[] #[],4⟩] 5)):=ins_new w #[⟨.int .i64 1,.func (.func 148) #[] #[],0⟩,⟨.int .i64 2,.func (.func 149) #[] #[],1⟩,⟨.int .i64 3,.func (.func 150) #[] #[],2⟩,⟨.int .i64 4,.func (.func 151) #[] #[],3⟩] 4 5 _ (by decide) rfl
 have hu6:(Instr.mapUpdate 172 (.map (some w.heap.size)) (.int .i64 6) (.func (.func 153) #[] #[])).run Tryz.prog (w.alloc (.map #[⟨.int .i64 1,.func (.func 148) #[] #[],0⟩,⟨.int .i64 2,.func (.func 149) #[] #[],1⟩,⟨.int .i64 3,.func (.func 150) #[] #[],2⟩,⟨.int .i64 4,.func (.func 151) #[] #[],3⟩,⟨.int .i64 5,.func (.func 152) #[] #[],4⟩] 5))=.ok () (w.alloc (.map #[⟨.int .i64 1,.func (.func 148) #[] #[],0⟩,⟨.int .i64 2,.func (.func 149) #[] #[],1⟩,⟨.int .i64 3,.func (.func 150) #[] #[],2⟩,⟨.int .i64 4,.func (.func 151) #[] #[],3⟩,⟨.int .i64 5,.func (.func 152) #[] #[],4⟩,⟨.int .i64 6,.func (.func 153) #[] #[],5⟩] 6)):=ins_new w #[⟨.int .i64 1,.func (.func 148) #[] #[],0⟩,⟨.int .i64 2,.func (.func 149) #[] #[],1⟩,⟨.int .i64 3,.func (.func 150) #[] #[],2⟩,⟨.int .i64 4,.func (.func 151) #[] #[],3⟩,⟨.int .i64 5,.func (.func 152) #[] #[],4⟩] 5 6 _ (by decide) rfl
 have hu7:(Instr.mapUpdate 172 (.map (some w.heap.size)) (.int .i64 7) (.func (.func 154) #[] #[])).run Tryz.prog (w.alloc (.map #[⟨.int .i64 1,.func (.func 148) #[] #[],0⟩,⟨.int .i64 2,.func (.func 149) #[] #[],1⟩,⟨.int .i64 3,.func (.func 150) #[] #[],2⟩,⟨.int .i64 4,.func (.func 151) #[] #[],3⟩,⟨.int .i64 5,.func (.func 152) #[] #[],4⟩,⟨.int .i64 6,.func (.func 153) #[] #[],5⟩] 6))=.ok () (w.alloc (.map #[⟨.int .i64 1,.func (.func 148) #[] #[],0⟩,⟨.int .i64 2,.func (.func 149) #[] #[],1⟩,⟨.int .i64 3,.func (.func 150) #[] #[],2⟩,⟨.int .i64 4,.func (.func 151) #[] #[],3⟩,⟨.int .i64 5,.func (.func 152) #[] #[],4⟩,⟨.int .i64 6,.func (.func 153) #[] #[],5⟩,⟨.int .i64 7,.func (.func 154) #[] #[],6⟩] 7)):=ins_new w #[⟨.int .i64 1,.func (.func 148) #[] #[],0⟩,⟨.int .i64 2,.func (.func 149) #[] #[],1⟩,⟨.int .i64 3,.func (.func 150) #[] #[],2⟩,⟨.int .i64 4,.func (.func 151) #[] #[],3⟩,⟨.int .i64 5,.func (.func 152) #[] #[],4⟩,⟨.int .i64 6,.func (.func 153) #[] #[],5⟩] 6 7 _ (by decide) rfl
 have hu8:(Instr.mapUpdate 172 (.map (some w.heap.size)) (.int .i64 8) (.func (.func 155) #[] #[])).run Tryz.prog (w.alloc (.map #[⟨.int .i64 1,.func (.func 148) #[] #[],0⟩,⟨.int .i64 2,.func (.func 149) #[] #[],1⟩,⟨.int .i64 3,.func (.func 150) #[] #[],2⟩,⟨.int .i64 4,.func (.func 151) #[] #[],3⟩,⟨.int .i64 5,.func (.func 152) #[] #[],4⟩,⟨.int .i64 6,.func (.func 153) #[] #[],5⟩,⟨.int .i64 7,.func (.func 154) #[] #[],6⟩] 7))=.ok () (w.alloc (.map #[⟨.int .i64 1,.func (.func 148) #[] #[],0⟩,⟨.int .i64 2,.func (.func 149) #[] #[],1⟩,⟨.int .i64 3,.func (.func 150) #[] #[],2⟩,⟨.int .i64 4,.func (.func 151) #[] #[],3⟩,⟨.int .i64 5,.func (.func 152) #[] #[],4⟩,⟨.int .i64 6,.func (.func 153) #[] #[],5⟩,⟨.int .i64 7,.func (.func 154) #[] #[],6⟩,⟨.int .i64 8,.func (.func 155) #[] #[],7⟩] 8)):=ins_new w #[⟨.int .i64 1,.func (.func 148) #[] #[],0⟩,⟨.int .i64 2,.func (.func 149) #[] #[],1⟩,⟨.int .i64 3,.func (.func 150) #[] #[],2⟩,⟨.int .i64 4,.func (.func 151) #[] #[],3⟩,⟨.int .i64 5,.func (.func 152) #[] #[],4⟩,⟨.int .i64 6,.func (.func 153) #[] #[],5⟩,⟨.int .i64 7,.func (.func 154) #[] #[],6⟩] 7 8 _ (by decide) rfl
 have hu9:(Instr.mapUpdate 172 (.map (some w.heap.size)) (.int .i64 9) (.func (.func 156) #[] #[])).run Tryz.prog (w.alloc (.map #[⟨.int .i64 1,.func (.func 148) #[] #[],0⟩,⟨.int .i64 2,.func (.func 149) #[] #[],1⟩,⟨.int .i64 3,.func (.func 150) #[] #[],2⟩,⟨.int .i64 4,.func (.func 151) #[] #[],3⟩,⟨.int .i64 5,.func (.func 152) #[] #[],4⟩,⟨.int .i64 6,.func (.func 153) #[] #[],5⟩,⟨.int .i64 7,.func (.func 154) #[] #[],6⟩,⟨.int .i64 8,.func (.func 155) #[] #[],7⟩] 8))=.ok () (w.alloc (.map #[⟨.int .i64 1,.func (.func 148) #[] #[],0⟩,⟨.int .i64 2,.func (.func 149) #[] #[],1⟩,⟨.int .i64 3,.func (.func 150) #[] #[],2⟩,⟨.int .i64 4,.func (.func 151) #[] #[],3⟩,⟨.int .i64 5,.func (.func 152) #[] #[],4⟩,⟨.int .i64 6,.func (.func 153) #[] #[],5⟩,⟨.int .i64 7,.func (.func 154) #[] #[],6⟩,⟨.int .i64 8,.func (.func 155) #[] #[],7⟩,⟨.int .i64 9,.func (.func 156) #[] #[],8⟩] 9)):=ins_new w #[⟨.int .i64 1,.func (.func 148) #[] #[],0⟩,⟨.int .i64 2,.func (.func 149) #[] #[],1⟩,⟨.int .i64 3,.func (.func 150) #[] #[],2⟩,⟨.int .i64 4,.func (.func 151) #[] #[],3⟩,⟨.int .i64 5,.func (.func 152) #[] #[],4⟩,⟨.int .i64 6,.func (.func 153) #[] #[],5⟩,⟨.int .i64 7,.func (.func 154) #[] #[],6⟩,⟨.int .i64 8,.func (.func 155) #[] #[],7⟩] 8 9 _ (by decide) rfl
 go_enter Tryz.func146,Tryz.ntmps146
 go_wp2_with fail
 go_ret
 exact ⟨rfl,rfl⟩
end Go.Proofs.YtfdhaknecjcjoaaGreatDoor

namespace Go.Proofs.YtfdhaknecjcjoaaGreatDoor
open Go Go.RowKit
set_option linter.unusedVariables false

/-- The stack's rows say what the stack's trees say. -/
inductive Rows (W : List Int) : List Tr → List RwP → Prop
 | nil : Rows W [] []
 | cons {x : Tr} {S : List Tr} {p : RwP} {st : List RwP} : Rows W S st → RowOk (Lg x) W p.2 → Rows W (x :: S) (st ++ [p])
theorem Rows.one {W:List Int} {x:Tr} {S:List Tr} {st:List RwP} (h:Rows W (x :: S) st):∃ st0 p,st=st0 ++ [p]∧Rows W S st0∧RowOk (Lg x) W p.2:=by
 cases h with
 | cons h1 h2=>exact ⟨_,_,rfl,h1,h2⟩
theorem Rows.len {W:List Int} {S:List Tr} {st:List RwP} (h:Rows W S st):st.length=S.length:=by
 induction h with
 | nil=>rfl
 | cons h1 h2 ih=>simp [ih]
/-- What a node's reading leaves. -/
def Stepped (S' : List Tr) (base : Nat) (B : Nat) (tv : Value) (s : ByteArray) (n : Nat) (w : World) (e : Ending) (w' : World) : Prop :=
 e=.returned (.tuple #[])∧∃ rv' sv' st' sp',RD base w' B tv s rv' sv' st' sp'∧st'.length+sp'.length≤n+1∧Rows (wl s) S' st'∧BK base w w'
theorem leaf_step {P:List Int→Prop} {base:Nat} {w:World} {B:Nat} {tv:Value} {s:ByteArray} {st sp:List RwP} {S:List Tr} {x:Tr} (hR:Rows (wl s) S st) (hP:∀ u,P u↔Lg x u) {f:Nat} {args:Array Value}
  (h : Calls Tryz.prog f args w (Leaf P base B tv s st sp w)) : Calls Tryz.prog f args w (Stepped (x :: S) base B tv s (st.length + sp.length) w) :=
 h.mono fun e w' ⟨h1,rv',sv',sp',v,r,h2,h3,h4,h5⟩=>⟨h1,rv',sv',_,sp',h2,by simp;omega,.cons hR (h4.congr hP),h5⟩
theorem one_step {P:List Int→Prop} {base:Nat} {w:World} {B:Nat} {tv:Value} {s:ByteArray} {st sp:List RwP} {q:RwP} {S:List Tr} {x:Tr} (hR:Rows (wl s) S st) (hP:∀ u,P u↔Lg x u) {f:Nat} {args:Array Value}
  (h : Calls Tryz.prog f args w (Join1 P base B tv s st sp w)) : Calls Tryz.prog f args w (Stepped (x :: S) base B tv s ((st ++ [q]).length + sp.length) w) :=
 h.mono fun e w' ⟨h1,rv',sv',sp',v,r,h2,h3,h4,h5⟩=>⟨h1,rv',sv',_,sp',h2,by simp;omega,.cons hR (h4.congr hP),h5⟩
theorem two_step {P:List Int→Prop} {base:Nat} {w:World} {B:Nat} {tv:Value} {s:ByteArray} {st sp:List RwP} {q q':RwP} {S:List Tr} {x:Tr} (hR:Rows (wl s) S st) (hP:∀ u,P u↔Lg x u) {f:Nat} {args:Array Value}
  (h : Calls Tryz.prog f args w (Join2 P base B tv s st sp w)) : Calls Tryz.prog f args w (Stepped (x :: S) base B tv s ((st ++ [q] ++ [q']).length + sp.length) w) :=
 h.mono fun e w' ⟨h1,rv',sv',sp',v,r,h2,h3,h4,h5⟩=>⟨h1,rv',sv',_,sp',h2,by simp;omega,.cons hR (h4.congr hP),h5⟩

theorem mread_any {base : Nat} {w : World} {B : Nat} {tv : Value} {s : ByteArray} {rv sv : Value} {st sp : List RwP} {S S' : List Tr} (h : RD base w B tv s rv sv st sp) (hT : TzTab w) (hT0 : 1 < base) (hs : s.size ≤ 511) (hn : st.length + sp.length ≤ 7000000) (hR : Rows (wl s) S st) {n : Nd} (hg : good n = true) (hst : stepR n S = some S') :
  Calls Tryz.prog (rdF n.1) #[.pointer (some ⟨B,0,none⟩),.agg #[.int .i64 n.1,.int .u8 n.2]] w (Stepped S' base B tv s (st.length+sp.length) w):=by
 obtain ⟨k,s0⟩:=n
 have hk:=good_kind hg
 simp only at hk ⊢
 have hc:k=1∨k=2∨k=3∨k=4∨k=5∨k=6∨k=7∨k=8∨k=9:=by omega
 rcases hc with rfl | rfl | rfl | rfl | rfl | rfl | rfl | rfl | rfl
 ·cases hst
  exact leaf_step hR (fun u=>by simp [Lg]) (mnone_any h hs (by omega) (by omega) 1 s0)
 ·cases hst
  exact leaf_step hR (fun u=>by simp [Lg]) (mempty_any h hs (by omega) (by omega) 2 s0)
 ·cases hst
  exact leaf_step hR (fun u=>by simp [Lg]) (mletter_any h hs (by omega) (by omega) 3 s0)
 ·cases hst
  exact leaf_step hR (fun u=>by simp [Lg]) (manyL_any h hs (by omega) (by omega) 4 s0)
 ·match S,hst,hR with
  | y :: x :: S,hst,hR =>
   cases hst
   obtain ⟨st0,q',rfl,hR0,h2⟩:=hR.one
   obtain ⟨st1,q,rfl,hR1,h1⟩:=hR0.one
   exact two_step hR1 (fun u=>by simp [Lg]) (munion_any h hs (by simp at hn;omega) (by simp at hn;omega) h1 h2 5 s0)
 ·match S,hst,hR with
  | y :: x :: S,hst,hR =>
   cases hst
   obtain ⟨st0,q',rfl,hR0,h2⟩:=hR.one
   obtain ⟨st1,q,rfl,hR1,h1⟩:=hR0.one
   exact two_step hR1 (fun u=>by simp [Lg]) (minter_any h hs (by simp at hn;omega) (by simp at hn;omega) h1 h2 6 s0)
 ·match S,hst,hR with
  | y :: x :: S,hst,hR =>
   cases hst
   obtain ⟨st0,q',rfl,hR0,h2⟩:=hR.one
   obtain ⟨st1,q,rfl,hR1,h1⟩:=hR0.one
   exact two_step hR1 (fun u=>by simp [Lg]) (mconcat_any h hT hT0 hs (by simp at hn;omega) (by simp at hn;omega) h1 h2 7 s0)
 ·match S,hst,hR with
  | x :: S,hst,hR =>
   cases hst
   obtain ⟨st0,q,rfl,hR0,h1⟩:=hR.one
   exact one_step hR0 (fun u=>by simp [Lg]) (mstar_any h hT hT0 hs (by simp at hn;omega) h1 8 s0)
 ·match S,hst,hR with
  | x :: S,hst,hR =>
   cases hst
   obtain ⟨st0,q,rfl,hR0,h1⟩:=hR.one
   exact one_step hR0 (fun u=>by simp [Lg]) (mnot_any h hs (by simp at hn;omega) h1 9 s0)
end Go.Proofs.YtfdhaknecjcjoaaGreatDoor

namespace Go.Proofs.YtfdhaknecjcjoaaGreatDoor
open Go Go.RowKit
set_option linter.unusedVariables false

theorem run_take {l:List Nd} {S:List Tr} {i:Nat} (hi:i<l.length) (h:runR (l.take i) []=some S):∀ {T:List Tr},runR l []=some T→∃ S',stepR (l.getD i (0,0)) S=some S'∧runR (l.take (i+1)) []=some S':=by
 have hap:∀ (a b:List Nd) (s:List Tr),runR (a ++ b) s=(runR a s).bind (runR b):=by
  intro a
  induction a with
  | nil=>intro b s;rfl
  | cons n a ih =>
   intro b s
   simp only [List.cons_append,runR]
   cases stepR n s with
   | none=>rfl
   | some s'=>exact ih b s'
 intro T hT
 have e:l=l.take i ++ (l.getD i (0,0) :: l.drop (i+1)):=by
  rw [List.getD_eq_getElem?_getD,List.getElem?_eq_getElem hi,Option.getD_some,← List.drop_eq_getElem_cons hi,List.take_append_drop]
 have hT2:=hT
 rw [e,hap,h] at hT2
 simp only [Option.bind_some,runR] at hT2
 cases hs:stepR (l.getD i (0,0)) S with
 | none=>rw [hs] at hT2;cases hT2
 | some S' =>
  refine ⟨S',rfl,?_⟩
  rw [List.take_add_one,hap,h,List.getElem?_eq_getElem hi]
  rw [List.getD_eq_getElem?_getD,List.getElem?_eq_getElem hi] at hs
  simp only [Option.bind_some,Option.toList_some,runR,Option.getD_some] at hs ⊢
  rw [hs]
  rfl

theorem arr8 (a0 a1 a2 a3 a4 a5 a6 a7 b0 b1 b2 b3 b4 b5 b6 b7:Value):((((((((⟨[a0,a1,a2,a3,a4,a5,a6,a7]⟩:Array Value).setIfInBounds 0 b0).setIfInBounds 1 b1).setIfInBounds 2 b2).setIfInBounds 3 b3).setIfInBounds 4 b4).setIfInBounds 5 b5).setIfInBounds 6 b6).setIfInBounds 7 b7=#[b0,b1,b2,b3,b4,b5,b6,b7]:=by simp
theorem st8_any {W:World} {b:Nat} {A:Array Value} (h:W.heap[b]?=some (.cells A 61 (0,0))) (hs:A.size=8) (g:Nat→Nat) :
  Cells8 ((((((((W.setCell ⟨b,0,none⟩ (.int .u64 (g 0))).setCell ⟨b,1,none⟩ (.int .u64 (g 1))).setCell ⟨b,2,none⟩ (.int .u64 (g 2))).setCell ⟨b,3,none⟩ (.int .u64 (g 3))).setCell ⟨b,4,none⟩ (.int .u64 (g 4))).setCell ⟨b,5,none⟩ (.int .u64 (g 5))).setCell ⟨b,6,none⟩ (.int .u64 (g 6))).setCell ⟨b,7,none⟩ (.int .u64 (g 7))) b g:=by
 obtain ⟨l⟩:=A
 match l,hs,h with
 | [a0,a1,a2,a3,a4,a5,a6,a7],_,h =>
  have h0:=heap_setCell_eq W b 0 (.int .u64 (g 0)) _ _ h
  have h1:=heap_setCell_eq _ b 1 (.int .u64 (g 1)) _ _ h0
  have h2:=heap_setCell_eq _ b 2 (.int .u64 (g 2)) _ _ h1
  have h3:=heap_setCell_eq _ b 3 (.int .u64 (g 3)) _ _ h2
  have h4:=heap_setCell_eq _ b 4 (.int .u64 (g 4)) _ _ h3
  have h5:=heap_setCell_eq _ b 5 (.int .u64 (g 5)) _ _ h4
  have h6:=heap_setCell_eq _ b 6 (.int .u64 (g 6)) _ _ h5
  have h7:=heap_setCell_eq _ b 7 (.int .u64 (g 7)) _ _ h6
  refine h7.trans ?_
  rw [arr8]
  rfl

set_option maxRecDepth 100000 in
theorem run_rd (k:Int) (h1:1≤k) (h2:k≤9) (args:Array Value) (w:World):(callFunc (rdF k) args).run Tryz.prog w=.ok (.enter (rdF k) args) w:=by
 have hk:k=1∨k=2∨k=3∨k=4∨k=5∨k=6∨k=7∨k=8∨k=9:=by omega
 rcases hk with rfl | rfl | rfl | rfl | rfl | rfl | rfl | rfl | rfl 
 ·rfl
 ·rfl
 ·rfl
 ·rfl
 ·rfl
 ·rfl
 ·rfl
 ·rfl
 ·rfl

set_option maxHeartbeats 4000000 in
set_option maxRecDepth 100000 in
theorem mends_any {base:Nat} {w:World} {B:Nat} {tv:Value} {s0 s:ByteArray} {rv sv:Value} (hB:w.heap[B]?=some (.cells #[tv,.string s0,rv,sv] 168 (0,0)))
  (h:RD base (w.setCell ⟨B,1,none⟩ (.string s)) B tv s rv sv [] []) (hT:TzTab w) (hT0:1<base) (hs:s.size≤511) {t:Tr} (ht:t.ok) (hgd:∀ n ∈ t.flat,good n=true) (hl:t.flat.length≤4000) (hN:∀ w',Below base w w'→NReads w' tv t.flat) :
  Calls Tryz.prog 141 #[.pointer (some ⟨B,0,none⟩),.string s] w fun e w'=>∃ M,e=.returned (setV M)∧EndsOk (Lg t) (wl s) 0 M∧BK base w w':=by
 have HN:Hid (∀ w',Below base w w'→NReads w' tv t.flat):=hN
 obtain ⟨a,cap,rfl,hnr⟩:=hN w (Below.refl _ _)
 have c0:w.cell? ⟨B,0,none⟩=some (.slice a t.flat.length cap):=by simp [World.cell?,hB]
 have c1:w.cell? ⟨B,1,none⟩=some (.string s0):=by simp [World.cell?,hB]
 have f1:w.frozen? ⟨B,1,none⟩=false:=by simp [World.frozen?,hB]
 have hBl:B<w.heap.size:=(Array.getElem?_eq_some_iff.1 hB).1
 have hbB:base≤B:=h.from_
 have HRT:Hid (RTy w B):=RTy.rdr hB
 have HR0:Hid (RD base (w.setCell ⟨B,1,none⟩ (.string s)) B (.slice a t.flat.length cap) s rv sv [] []):=h
 have HT:Hid (TzTab w):=hT
 have HRUN:Hid (runR t.flat []=some [t]):=by
  show runR t.flat [] = some [t]
  have:=run_flat t ht [] []
  rw [List.append_nil] at this
  exact this
 have HGD:Hid (∀ n ∈ t.flat,good n=true):=hgd
 obtain ⟨L,hL⟩:∃ L,t.flat.length=L:=⟨_,rfl⟩
 have HL:Hid (t.flat.length=L):=hL
 rw [hL] at c0 HR0 HN hl
 clear h hnr hN hB hT hgd hL
 go_enter Tryz.func141,Tryz.ntmps141
 go_wp2_with fail
 refine (readings_any _).mono ?_
 rintro e w1 ⟨rfl,rfl⟩
 go_wp2_with fail
 go_loopw [18] (fun vi wr=>∃ (i:Nat) (S:List Tr) (rv' sv':Value) (st sp:List RwP),i≤L∧vi=.int .i64 (i:Int)∧runR (t.flat.take i) []=some S∧Rows (wl s) S st∧RD base wr B (.slice a L cap) s rv' sv' st sp∧st.length+sp.length≤i∧wr.heap[w.heap.size+1]?=some (.map rdEs 9)∧(∃ A,wr.heap[w.heap.size]?=some (.cells A 61 (0,0))∧A.size=8)∧BK base w wr) (fun vi _=>L - (intOf vi).toNat)
 case atStart =>
  have hsz:(w.setCell ⟨B,1,none⟩ (.string s)).heap.size=w.heap.size:=by simp
  obtain ⟨W,hW⟩:∃ W,w.setCell ⟨B,1,none⟩ (.string s)=W:=⟨_,rfl⟩
  have hB0:BK base w W:=by rw [← hW];exact (BK.refl _ _).setCell (p:=⟨B,1,none⟩) hbB HRT.out _
  have hR0:=HR0.out
  rw [hW] at hR0 hsz ⊢
  refine ⟨0,[],rv,sv,[],[],Nat.zero_le _,rfl,rfl,.nil,hR0.stay (((Below.refl _ _).alloc (Nat.le_refl _) _).alloc (by simp) _),Nat.le_refl _,?_,⟨#[.int .u64 0,.int .u64 0,.int .u64 0,.int .u64 0,.int .u64 0,.int .u64 0,.int .u64 0,.int .u64 0],?_,rfl⟩,(hB0.alloc (by omega) _).alloc (by simp;omega) _⟩
  ·have:=heap_alloc_last (W.alloc (.cells #[.int .u64 0,.int .u64 0,.int .u64 0,.int .u64 0,.int .u64 0,.int .u64 0,.int .u64 0,.int .u64 0] 61)) (.map rdEs 9)
   rw [← this]
   congr 1
   simp [hsz]
  ·rw [Below.heap_alloc _ _ _ (by simp;omega),← hsz]
   exact heap_alloc_last W _
 case round =>
  obtain ⟨i,S,rv',sv',st,sp,hi,rfl,hrun,hrows,hr,hlen,hmap,⟨A,hA,hAs⟩,hb⟩:=hrel
  by_cases hlt : i < L
  ·have hiI:(i:Int)<L:=by omega
   obtain ⟨S',hst,hrun'⟩:=run_take (by rw [HL.out];exact hlt) hrun HRUN.out
   have hg:=HGD.out (t.flat.getD i (0,0)) (by rw [List.getD_eq_getElem?_getD,List.getElem?_eq_getElem (by rw [HL.out];exact hlt)];exact List.getElem_mem _)
   obtain ⟨a',cap',ea,hnr⟩:=HN.out wr hb.b
   obtain ⟨g,o,hag,hgl,n1,n2⟩:=hnr i (by rw [HL.out];exact hlt)
   cases ea
   subst hag
   obtain ⟨n,hn⟩:∃ n,t.flat.getD i (0,0)=n:=⟨_,rfl⟩
   rw [hn] at n1 n2 hst hg
   obtain ⟨k,sg⟩:=n
   have hk:=good_kind hg
   simp only at n1 n2 hk
   have hMl:=(Array.getElem?_eq_some_iff.1 hmap).1
   have hlk:=look_rd (w:=wr.alloc (.cells #[.int .i64 k,.int .u8 sg] 51)) (b:=w.heap.size+1) (by rw [Below.heap_alloc _ _ _ hMl];exact hmap) k hk.1 hk.2
   have HX:Hid (hb=hb):=rfl
   have HR2:Hid (RD base (wr.alloc (.cells #[.int .i64 k,.int .u8 sg] 51)) B (.slice (some ⟨g,o,none⟩) t.flat.length cap) s rv' sv' st sp):=hr.stay ((Below.refl _ _).alloc (Nat.le_refl _) _)
   have HB2:Hid (BK base w (wr.alloc (.cells #[.int .i64 k,.int .u8 sg] 51))):=hb.alloc (by have:=hr.from_;have:=hr.lt;omega) _
   have HM2:Hid ((wr.alloc (.cells #[.int .i64 k,.int .u8 sg] 51)).heap[w.heap.size+1]?=some (.map rdEs 9)):=by show _=_;rw [Below.heap_alloc _ _ _ hMl];exact hmap
   have HA2:Hid ((wr.alloc (.cells #[.int .i64 k,.int .u8 sg] 51)).heap[w.heap.size]?=some (.cells A 61 (0,0))∧A.size=8):=⟨by rw [Below.heap_alloc _ _ _ (by omega)];exact hA,hAs⟩
   have HST:Hid (Calls Tryz.prog (rdF k) #[.pointer (some ⟨B,0,none⟩),.agg #[.int .i64 k,.int .u8 sg]] (wr.alloc (.cells #[.int .i64 k,.int .u8 sg] 51)) (Stepped S' base B (.slice (some ⟨g,o,none⟩) t.flat.length cap) s (st.length+sp.length) (wr.alloc (.cells #[.int .i64 k,.int .u8 sg] 51)))) :=
    mread_any HR2.out (HT.out.under hT0 HB2.out) hT0 hs (by omega) hrows (n:=(k,sg)) hg hst
   have HRUN2:Hid (runR (t.flat.take (i+1)) []=some S'):=hrun'
   have hlI:i<t.flat.length:=hlt
   clear HX hr hb hmap hA hAs hrows hrun hrun' hst hg hnr hn hMl
   go_wp2_with fail
   rw [run_rd k hk.1 hk.2,Oper.upon_enter]
   refine HST.out.mono ?_
   rintro e w3 ⟨rfl,rv2,sv2,st2,sp2,hr3,hl3,hrow3,hb3⟩
   have HREL:Hid (i+1≤t.flat.length∧Rows (wl s) S' st2∧RD base w3 B (.slice (some ⟨g,o,none⟩) t.flat.length cap) s rv2 sv2 st2 sp2∧st2.length+sp2.length≤i+1∧w3.heap[w.heap.size+1]?=some (.map rdEs 9)∧(∃ A,w3.heap[w.heap.size]?=some (.cells A 61 (0,0))∧A.size=8)∧BK base w w3):=by
    refine ⟨hlI,hrow3,hr3,by omega,hb3.m.maps _ _ _ HM2.out,?_,HB2.out.trans hb3⟩
    obtain ⟨A',h1,h2⟩:=hb3.m.sets _ _ _ HA2.out.1
    exact ⟨A',h1,h2.trans HA2.out.2⟩
   clear hr3 hl3 hrow3 hb3 HST HR2 HB2 HM2 HA2 n1 n2 hlk
   go_wp2_with fail
   go_roundw
   case rel=>exact ⟨i+1,S',rv2,sv2,st2,sp2,HREL.out.1,by go_num,HRUN2.out,HREL.out.2.1,HREL.out.2.2.1,HREL.out.2.2.2.1,HREL.out.2.2.2.2.1,HREL.out.2.2.2.2.2.1,HREL.out.2.2.2.2.2.2⟩
   case measure=>simp [intOf];omega
  ·obtain rfl:i=L:=by omega
   have hiI:¬ (i:Int)<i:=by omega
   have hS:S=[t]:=by
    rw [← HL.out,List.take_length] at hrun
    have:=hrun.symm.trans HRUN.out
    exact Option.some.inj this
   subst hS
   obtain ⟨st0,q,rfl,hnil,hq⟩:=hrows.one
   cases hnil
   obtain ⟨qv,qr⟩:=q
   simp only [List.nil_append] at hr hlen hq
   obtain ⟨g,c,hqv,hg1,hg2⟩:=hr.block (x:=(qv,qr)) (by simp)
   simp only at hqv hq
   subst hqv
   have HPOP:Hid (Calls Tryz.prog 147 #[.pointer (some ⟨B,0,none⟩)] wr fun e w'=>∃ rv' sv',e=.returned (.slice (some ⟨g,0,none⟩) (s.size+1) c)∧RD base w' B (.slice a i cap) s rv' sv' [] (sp ++ [(.slice (some ⟨g,0,none⟩) (s.size+1) c,qr)])∧BK base wr w'):=mpop_any (st:=[]) (x:=(.slice (some ⟨g,0,none⟩) (s.size+1) c,qr)) (by simpa using hr) (by simp) (by simp at hlen;omega)
   obtain ⟨N,hN⟩:∃ N,s.size+1=N:=⟨_,rfl⟩
   rw [hN] at HPOP
   have HNN:Hid (s.size+1=N):=hN
   have hN0:(0:Int)<N:=by omega
   have HA2:Hid (wr.heap[w.heap.size]?=some (.cells A 61 (0,0))∧A.size=8):=⟨hA,hAs⟩
   have HQ:Hid (RowOk (Lg t) (wl s) qr):=hq
   have HB2:Hid (BK base w wr):=hb
   clear hr hq hb hA hAs hmap hrun hrows hlen hN HR0 HN HRUN HGD c0 c1 f1
   go_wp2_with fail
   refine HPOP.out.mono ?_
   rintro e w4 ⟨rv4,sv4,rfl,hr4,hb4⟩
   obtain ⟨A4,hA4,hs4⟩:=hb4.m.sets _ _ _ HA2.out.1
   have hs8:A4.size=8:=hs4.trans HA2.out.2
   obtain ⟨ho,hl4⟩:=hr4.own (g:=g) (N:=N) (c:=c) (r:=qr) (by simp) HNN.out
   obtain ⟨h8,z8⟩:=own_at8 ho hl4 0 (by omega)
   obtain ⟨c0,c1,c2,c3,c4,c5,c6,c7⟩:=h8
   simp only [Nat.zero_mul,Nat.zero_add] at c0 c1 c2 c3 c4 c5 c6 c7
   have HE:Hid (EndsOk (Lg t) (wl s) 0 (qr.getD 0 0)):=HQ.out.2 0 (Nat.zero_le _)
   obtain ⟨X,hX⟩:∃ X,qr.getD 0 0=X:=⟨_,rfl⟩
   rw [hX] at HE c0 c1 c2 c3 c4 c5 c6 c7
   have hc8:∀ k,k<8→∃ v,w4.cell? ⟨w.heap.size,k,none⟩=some v:=fun k hk=>by
    simp only [World.cell?,hA4]
    exact ⟨A4[k]'(by omega),by rw [Array.getElem?_eq_getElem (by omega)];rfl⟩
   have hf8:∀ k,w4.frozen? ⟨w.heap.size,k,none⟩=false:=fun k=>by simp [World.frozen?,hA4]
   obtain ⟨v0,d0⟩:=hc8 0 (by decide)
   obtain ⟨v1,d1⟩:=hc8 1 (by decide)
   obtain ⟨v2,d2⟩:=hc8 2 (by decide)
   obtain ⟨v3,d3⟩:=hc8 3 (by decide)
   obtain ⟨v4,d4⟩:=hc8 4 (by decide)
   obtain ⟨v5,d5⟩:=hc8 5 (by decide)
   obtain ⟨v6,d6⟩:=hc8 6 (by decide)
   obtain ⟨v7,d7⟩:=hc8 7 (by decide)
   have f0:=hf8 0
   have f1:=hf8 1
   have f2:=hf8 2
   have f3:=hf8 3
   have f4:=hf8 4
   have f5:=hf8 5
   have f6:=hf8 6
   have f7:=hf8 7
   have HA4:Hid (w4.heap[w.heap.size]?=some (.cells A4 61 (0,0))∧A4.size=8):=⟨hA4,hs8⟩
   have HB4:Hid (BK base w w4):=HB2.out.trans hb4
   clear hX ho hl4 hr4 hb4 hs4 hc8 hf8 HPOP HB2 HQ hA4 hs8
   have hbw:base≤w.heap.size:=by omega
   go_wp2_with fail
   refine bodyPost_ret (results_set rfl rfl (f:=word X) (st8_any HA4.out.1 HA4.out.2 (word X))) rfl ⟨X,rfl,HE.out,?_⟩
   exact put8_below HB4.out hbw (RTy.set HA4.out.1) 0 X
end Go.Proofs.YtfdhaknecjcjoaaGreatDoor
