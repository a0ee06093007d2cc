/- Contracts of the laws' SameNodes (of lists of nodes), of cmp's calls and of tree.Compare. -/
import Derived.Test.YtfdhaknecjcjoaaGreatDoorPA
import Derived.Deep.RegionHeld3
namespace Go.Proofs.YtfdhaknecjcjoaaGreatDoor
open Go.RowKit

/-- What cmp.Compare answers of two ints. -/
def ci (x y:Int):Int:=if x<y then -1 else if y<x then 1 else 0

set_option maxHeartbeats 400000 in
theorem ccompare_any (x y : Int) (w : World) :
  Calls Tryz.prog 120 #[.int .i64 x,.int .i64 y] w fun e w'=>e=.returned (.int .i64 (ci x y))∧w'=w:=by
 by_cases h1 : x < y
 ·have HC:Hid (ci x y = -1):=by show ci x y = -1;simp [ci,h1]
  go_enter Tryz.func120,Tryz.ntmps120
  go_wp2
  go_ret
  exact ⟨ret_int HC.out.symm,rfl⟩
 by_cases h2 : y < x
 ·have HC:Hid (ci x y=1):=by show ci x y=1;simp [ci,h1,h2]
  go_enter Tryz.func120,Tryz.ntmps120
  go_wp2
  go_ret
  exact ⟨ret_int HC.out.symm,rfl⟩
 have HC:Hid (ci x y=0):=by show ci x y=0;simp [ci,h1,h2]
 go_enter Tryz.func120,Tryz.ntmps120
 go_wp2
 go_ret
 exact ⟨ret_int HC.out.symm,rfl⟩

set_option maxHeartbeats 400000 in
theorem bcompare_any (x y : Int) (w : World) :
  Calls Tryz.prog 131 #[.int .u8 x,.int .u8 y] w fun e w'=>e=.returned (.int .i64 (ci x y))∧w'=w:=by
 by_cases h1 : x < y
 ·have HC:Hid (ci x y = -1):=by show ci x y = -1;simp [ci,h1]
  go_enter Tryz.func131,Tryz.ntmps131
  go_wp2
  go_ret
  exact ⟨ret_int HC.out.symm,rfl⟩
 by_cases h2 : y < x
 ·have HC:Hid (ci x y=1):=by show ci x y=1;simp [ci,h1,h2]
  go_enter Tryz.func131,Tryz.ntmps131
  go_wp2
  go_ret
  exact ⟨ret_int HC.out.symm,rfl⟩
 have HC:Hid (ci x y=0):=by show ci x y=0;simp [ci,h1,h2]
 go_enter Tryz.func131,Tryz.ntmps131
 go_wp2
 go_ret
 exact ⟨ret_int HC.out.symm,rfl⟩

set_option maxHeartbeats 400000 in
set_option maxRecDepth 100000 in
theorem cor_any (x y:Int) (b:Nat) (w:World) (c0:w.cell? ⟨b,0,none⟩=some (.int .i64 x)) (c1:w.cell? ⟨b,1,none⟩=some (.int .i64 y)) :
  Calls Tryz.prog 130 #[.slice (some ⟨b,0,none⟩) 2 2] w fun e w'=>e=.returned (.int .i64 (if x=0 then y else x))∧w'=w:=by
 by_cases hx : x = 0
 ·subst hx
  rw [if_pos rfl]
  by_cases hy : y = 0
  ·subst hy
   go_enter Tryz.func130,Tryz.ntmps130
   go_wp2
   refine wp_loop_rounds 3 ?_
   rw [rounds_succ]
   go_wp2
   rw [rounds_succ]
   go_wp2
   rw [rounds_succ]
   go_wp2
   go_ret
   exact ⟨rfl,rfl⟩
  ·have hy0:(y != 0)=true:=by simpa using hy
   go_enter Tryz.func130,Tryz.ntmps130
   go_wp2
   refine wp_loop_rounds 2 ?_
   rw [rounds_succ]
   go_wp2
   rw [rounds_succ]
   go_wp2
   go_ret
   exact ⟨rfl,rfl⟩
 ·rw [if_neg hx]
  have hx0:(x != 0)=true:=by simpa using hx
  go_enter Tryz.func130,Tryz.ntmps130
  go_wp2
  refine wp_loop_rounds 1 ?_
  rw [rounds_succ]
  go_wp2
  go_ret
  exact ⟨rfl,rfl⟩

/-- The order of nodes, and of lists of one length. -/
def cn (m n:Nd):Int:=if ci m.1 n.1=0 then ci m.2 n.2 else ci m.1 n.1
def cl : List Nd → List Nd → Int
 | m :: a,n :: b=>if cn m n=0 then cl a b else cn m n
 | _,_=>0
/-- The order of trees. -/
def ct (a b:List Nd):Int:=if ci a.length b.length=0 then cl a b else ci a.length b.length
theorem cl_drop {a b:List Nd} {i:Nat} (h:i<a.length) (h2:i<b.length):cl (a.drop i) (b.drop i)=if cn (a.getD i (0,0)) (b.getD i (0,0))=0 then cl (a.drop (i+1)) (b.drop (i+1)) else cn (a.getD i (0,0)) (b.getD i (0,0)):=by
 rw [List.drop_eq_getElem_cons h,List.drop_eq_getElem_cons h2,cl,List.getD_eq_getElem?_getD,List.getD_eq_getElem?_getD,List.getElem?_eq_getElem h,List.getElem?_eq_getElem h2]
 rfl

/-- Two blocks of two cells hold what they hold; nothing below W's end is written. -/
abbrev N2 (W:World) (p1 p2:Nat) (l1 l2:Array Value) (w':World):Prop:=(∀ o,w'.cell? ⟨p1,o,none⟩=l1[o]?)∧(∀ o,w'.cell? ⟨p2,o,none⟩=l2[o]?)∧Below W.heap.size W w'
theorem n2_of {W:World} {p1 p2:Nat} {l1 l2:Array Value} (r1:RowAt W p1 l1) (r2:RowAt W p2 l2) {w':World} (h:Below W.heap.size W w'):N2 W p1 p2 l1 l2 w':=⟨(r1.stay h).cell,(r2.stay h).cell,h⟩
theorem n2_below {W:World} {p1 p2:Nat} {l1 l2:Array Value} {w':World} (h:N2 W p1 p2 l1 l2 w'):Below W.heap.size W w':=h.2.2

set_option maxHeartbeats 2000000 in
set_option maxRecDepth 100000 in
theorem cnodes_any (m n : Nd) (w : World) :
  Calls Tryz.prog 122 #[ndV m,ndV n] w fun e w'=>e=.returned (.int .i64 (cn m n))∧Below w.heap.size w w':=by
 obtain ⟨k,s⟩:=m
 obtain ⟨l,t⟩:=n
 obtain ⟨x,HX⟩:∃ x,Hid (ci k l=x):=⟨_,rfl⟩
 obtain ⟨y,HY⟩:∃ y,Hid (ci s t=y):=⟨_,rfl⟩
 obtain ⟨z,HZ⟩:∃ z,Hid ((if x=0 then y else x)=z):=⟨_,rfl⟩
 have HC:Hid (cn (k,s) (l,t)=z):=by show _=_;unfold cn;simp only;rw [HX.out,HY.out,HZ.out]
 unfold ndV
 go_enter Tryz.func122,Tryz.ntmps122
 go_wp2_with fail
 generalize hW:(w.alloc (.cells #[.int .i64 k,.int .u8 s] 51)).alloc (.cells #[.int .i64 l,.int .u8 t] 51)=W
 have R1:RowAt W w.heap.size #[.int .i64 k,.int .u8 s]:=by rw [← hW];exact (RowAt.last _ _ _).alloc _
 have R2:RowAt W (w.heap.size+1) #[.int .i64 l,.int .u8 t]:=by
  rw [← hW]
  have:=RowAt.last (w.alloc (.cells #[.int .i64 k,.int .u8 s] 51)) #[.int .i64 l,.int .u8 t] 51
  simpa using this
 have BW:Hid (Below w.heap.size w W):=by show Below _ _ _;rw [← hW];exact ((Below.refl _ _).alloc (Nat.le_refl _) _).alloc (by simp) _
 have S0:N2 W w.heap.size (w.heap.size+1) #[.int .i64 k,.int .u8 s] #[.int .i64 l,.int .u8 t] W.drew:=n2_of R1 R2 (Below.refl _ _).drew
 clear hW
 go_region_held3 (fun w'=>N2 W w.heap.size (w.heap.size+1) #[.int .i64 k,.int .u8 s] #[.int .i64 l,.int .u8 t] w') (first | exact S0 | assumption | exact n2_of R1 R2 ((n2_below (by assumption)).alloc (n2_below (by assumption)).size _)) (first
  | (go_at_call 120;refine (ccompare_any k l _).mono ?_;rintro e w1 ⟨rfl,rfl⟩;rw [HX.out])
  | (go_at_call 131;refine (bcompare_any s t _).mono ?_;rintro e w2 ⟨rfl,rfl⟩;rw [HY.out])
  | (go_at_call 130;refine (cor_any x y _ _ (World.cell?_alloc_at _ _ _ _ rfl) (World.cell?_alloc_at _ _ _ _ rfl)).mono ?_;rintro e w3 ⟨rfl,rfl⟩;rw [HZ.out]))
 all_goals go_wp2_with fail
 all_goals go_ret
 all_goals exact ⟨ret_int HC.out.symm,go_on BW.out (n2_below (by assumption))⟩

set_option maxHeartbeats 2000000 in
set_option maxRecDepth 100000 in
theorem cfunc_any (v1 v2 : Value) (a b : List Nd) (w : World) (h1 : NReads w v1 a) (h2 : NReads w v2 b) (hl : a.length = b.length) (hm : a.length ≤ 9223372036854775806) :
  Calls Tryz.prog 121 #[v1,v2,.func (.func 122) #[] #[]] w fun e w'=>e=.returned (.int .i64 (cl a b))∧Below w.heap.size w w':=by
 obtain ⟨a1,c1,rfl,g1⟩:=h1
 obtain ⟨a2,c2,rfl,g2⟩:=h2
 have H1:Hid _:=g1
 have H2:Hid _:=g2
 have HL:Hid (a.length=b.length):=hl
 have hbm:b.length≤9223372036854775806:=by omega
 clear g1 g2 hl
 have HS:Hid (cl (a.drop 0) (b.drop 0)=cl a b):=rfl
 go_enter Tryz.func121,Tryz.ntmps121
 go_wp2_with fail
 go_loopw [13] (fun vi wr=>∃ i:Nat,i≤a.length∧vi=.int .i64 i∧cl (a.drop i) (b.drop i)=cl a b∧Below w.heap.size w wr) (fun vi _=>a.length - (intOf vi).toNat)
 case atStart=>exact ⟨0,Nat.zero_le _,rfl,HS.out,Below.refl _ _⟩
 case round =>
  obtain ⟨i,hi,rfl,hc,hb⟩:=hrel
  have HB:Hid (Below w.heap.size w wr):=hb
  have HC:Hid (cl (a.drop i) (b.drop i)=cl a b):=hc
  clear hc
  by_cases hlt : i < a.length
  ·have hiI:(i:Int)<a.length:=by omega
   have hlt2:i<b.length:=by have:=HL.out;omega
   have hiI2:¬ (b.length:Int)≤i:=by omega
   have hiI3:(i:Int)<b.length:=by omega
   obtain ⟨ga,oa,rfl,hga,a11,a12⟩:=H1.out i hlt
   obtain ⟨gb,ob,rfl,hgb,b11,b12⟩:=H2.out i hlt2
   have hst:=cl_drop hlt hlt2
   rw [HC.out] at hst
   obtain ⟨⟨k,s⟩,hx⟩:∃ x,a.getD i (0,0)=x:=⟨_,rfl⟩
   obtain ⟨⟨l,t⟩,hy⟩:∃ y,b.getD i (0,0)=y:=⟨_,rfl⟩
   rw [hx] at a11 a12
   rw [hy] at b11 b12
   rw [hx,hy] at hst
   rw [← below_cell hb hga] at a11 a12
   rw [← below_cell hb hgb] at b11 b12
   have ra:RowAt wr ga #[]→True:=fun _=>trivial
   clear ra
   have hga2:ga<wr.heap.size:=Nat.lt_of_lt_of_le hga hb.size
   have hgb2:gb<wr.heap.size:=Nat.lt_of_lt_of_le hgb hb.size
   have b21:∀ O,(wr.alloc O).cell? ⟨gb,ob+i * 2,none⟩=some (.int .i64 l):=fun O=>by rw [below_cell ((Below.refl wr.heap.size wr).alloc (Nat.le_refl _) O) hgb2];exact b11
   have b22:∀ O,(wr.alloc O).cell? ⟨gb,ob+i * 2+1,none⟩=some (.int .u8 t):=fun O=>by rw [below_cell ((Below.refl wr.heap.size wr).alloc (Nat.le_refl _) O) hgb2];exact b12
   obtain ⟨z,hz⟩:∃ z,cn (k,s) (l,t)=z:=⟨_,rfl⟩
   rw [hz] at hst
   have HZ:Hid (cn (k,s) (l,t)=z):=hz
   have HST:Hid (cl a b=if z=0 then cl (a.drop (i+1)) (b.drop (i+1)) else z):=hst
   clear hst hz hx hy hb b11 b12
   by_cases hz0 : z = 0
   ·subst hz0
    go_wp2_with (go_at_call 122;refine (cnodes_any (k,s) (l,t) _).mono ?_;rintro e w1 ⟨rfl,hb1⟩;rw [HZ.out])
    have HB1:Hid (Below w.heap.size w w1):=go_on ((HB.out.alloc HB.out.size _).alloc (by have:=HB.out.size;simp;omega) _) hb1
    go_roundw
    case rel=>exact ⟨i+1,by omega,by go_num,by have:=HST.out;simp at this;exact this.symm,HB1.out⟩
    case measure=>simp [intOf];omega
   ·have hzb:(z != 0)=true:=by simpa using hz0
    have HN:Hid (¬ z=0):=hz0
    clear hz0
    go_wp2_with (go_at_call 122;refine (cnodes_any (k,s) (l,t) _).mono ?_;rintro e w1 ⟨rfl,hb1⟩;rw [HZ.out])
    have HB1:Hid (Below w.heap.size w w1):=go_on ((HB.out.alloc HB.out.size _).alloc (by have:=HB.out.size;simp;omega) _) hb1
    go_ret
    exact ⟨ret_int (by rw [HST.out,if_neg HN.out]),HB1.out⟩
  ·have hiI:¬ (i:Int)<a.length:=by omega
   have hE:cl a b=0:=by rw [← HC.out,List.drop_eq_nil_of_le (by omega)];rfl
   have HE:Hid (cl a b=0):=hE
   have hll:¬ (a.length:Int)<b.length:=by have:=HL.out;omega
   clear hE hb
   go_wp2_with fail
   go_ret
   exact ⟨ret_int HE.out.symm,HB.out⟩

set_option maxHeartbeats 2000000 in
set_option maxRecDepth 100000 in
theorem compare_any (v1 v2 : Value) (a b : List Nd) (w : World) (h1 : NReads w v1 a) (h2 : NReads w v2 b) (hm : a.length ≤ 9223372036854775806) :
  Calls Tryz.prog 94 #[v1,v2] w fun e w'=>e=.returned (.int .i64 (ct a b))∧Below w.heap.size w w':=by
 have H1:Hid (NReads w v1 a):=h1
 have H2:Hid (NReads w v2 b):=h2
 obtain ⟨a1,c1,rfl,_⟩:=h1
 obtain ⟨a2,c2,rfl,_⟩:=h2
 obtain ⟨z,HZ⟩:∃ z,Hid (ci a.length b.length=z):=⟨_,rfl⟩
 have HT:Hid (ct a b=if z=0 then cl a b else z):=by show _=_;unfold ct;rw [HZ.out]
 by_cases hz0 : z = 0
 ·have hl:a.length=b.length:=by
   have:=HZ.out
   unfold ci at this
   split at this
   ·omega
   ·split at this <;> omega
  have HL:Hid (a.length=b.length):=hl
  subst hz0
  clear hl
  go_enter Tryz.func94,Tryz.ntmps94
  go_wp2_with (go_at_call 120;refine (ccompare_any _ _ _).mono ?_;rintro e w1 ⟨rfl,rfl⟩;rw [HZ.out])
  refine (cfunc_any _ _ a b _ H1.out H2.out HL.out hm).mono ?_
  rintro e w2 ⟨rfl,hb2⟩
  go_wp2_with fail
  go_ret
  exact ⟨ret_int (by have:=HT.out;simp at this;exact this.symm),hb2⟩
 ·have hzb:(z != 0)=true:=by simpa using hz0
  have HN:Hid (¬ z=0):=hz0
  clear hz0
  go_enter Tryz.func94,Tryz.ntmps94
  go_wp2_with (go_at_call 120;refine (ccompare_any _ _ _).mono ?_;rintro e w1 ⟨rfl,rfl⟩;rw [HZ.out])
  go_ret
  exact ⟨ret_int (by rw [HT.out,if_neg HN.out]),Below.refl _ _⟩

end Go.Proofs.YtfdhaknecjcjoaaGreatDoor
