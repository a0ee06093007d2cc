/- Contracts of the laws' LentNodes and StayNodes, and of the document's Compare. -/
import Derived.Test.YtfdhaknecjcjoaaGreatDoorPA
import Derived.Test.YtfdhaknecjcjoaaGreatDoorPTc
import Derived.Laws.AppendOwnNone
namespace Go.Proofs.YtfdhaknecjcjoaaGreatDoor
open Go.RowKit Go.Lib

theorem four_new (w:World) (a b c d:Value) (t:TypeId):∀ j u,[a,b,c,d][j]?=some u→(w.alloc (.cells #[a,b,c,d] t)).cell? ((⟨w.heap.size,0,none⟩:Addr).add j)=some u:=by
 intro j u hj
 rw [Addr.add_lit,(RowAt.last w #[a,b,c,d] t).cell,Nat.zero_add]
 simpa using hj

set_option maxHeartbeats 2000000 in
set_option maxRecDepth 100000 in
theorem lent_any (v:Value) (xs:List Nd) (w:World) (hv:NReads w v xs) (hn0:∀ c,v=.slice none 0 c→c=0) (hm:(xs.length+2) * 16≤140737488355328) :
  Calls Tryz.prog 9 #[v] w fun e w'=>∃ g cap,e=.returned (.slice (some ⟨g,0,none⟩) xs.length cap) ∧
   w'.ownsRow w.heap.size 51 2 (.slice (some ⟨g,0,none⟩) (xs.length+2) cap) (xs.length+2) (ndC (xs ++ [(-7,0),(-8,0)]))∧Below w.heap.size w w':=by
 obtain ⟨a,cap,rfl,hr⟩:=hv
 obtain ⟨i0,hi,hz0,hz1,hz2⟩:=info_parts Tryz.info_node
 have HR:Hid _:=hr
 clear hr
 have hzl:=ndC_length xs
 have h1c:=ndC_one xs
 have HO0:Hid ((w.alloc (.cells #[] 51)).ownsRow w.heap.size 51 2 (.slice (some ⟨w.heap.size,0,none⟩) 0 0) 0 []):=World.ownsRow_made w #[] 0 (Nat.le_refl _) (by unfold maxLen;omega) rfl
 have HB0:Hid (Below w.heap.size w (w.alloc (.cells #[] 51))):=(Below.refl _ _).alloc (Nat.le_refl _) _
 have hn1:xs.length≤8796093022206:=by omega
 clear hm
 have second:∀ (v2:Value) (w2:World),v2≠.slice none 0 0→w2.ownsRow w.heap.size 51 2 v2 xs.length (ndC xs)→Below w.heap.size w w2→∀ (w3:World) (v3:Value),w3.ownsRow w.heap.size 51 2 v3 (xs.length+2) (ndC xs ++ [.int .i64 (-7),.int .u8 0,.int .i64 (-8),.int .u8 0])→(w2.alloc (.cells #[.int .i64 (-7),.int .u8 0,.int .i64 (-8),.int .u8 0] 51)).grownBy w3 v2.ownBlock →
   ∃ g cap,v3=.slice (some ⟨g,0,none⟩) (xs.length+2) cap∧xs.length+2≤cap∧w3.ownsRow w.heap.size 51 2 (.slice (some ⟨g,0,none⟩) (xs.length+2) cap) (xs.length+2) (ndC (xs ++ [(-7,0),(-8,0)]))∧Below w.heap.size w w3:=by
  intro v2 w2 hv2 ho2 hb2 w3 v3 ho3 hg3
  have ho3':=ho3
  obtain ⟨hl3,h3⟩:=ho3'
  rcases h3 with ⟨_,h3⟩ | ⟨g,cp,cur,rfl,_,_,hcp,_⟩
  ·omega
  ·exact ⟨g,cp,rfl,hcp,by rw [ndC_append];exact ho3,(hb2.alloc hb2.size _).grown hg3 (by have:=hb2.size;simp;omega) (fun k hk=>(ho2.lt k hk).1)⟩
 have HS:Hid _:=second
 clear second
 cases a with
 | none =>
  obtain rfl:xs=[]:=by
   cases xs with
   | nil=>rfl
   | cons y t =>
    obtain ⟨g,o,h,_⟩:=HR.out 0 (by simp)
    cases h
  obtain rfl:cap=0:=hn0 cap rfl
  clear hn0
  go_enter Tryz.func9,Tryz.ntmps9
  go_wp2_with (first
   | (at_builtin;refine wpList_append_own_none rfl _ _ 22 rfl w.heap.size 51 i0 2 Tryz.underlying22 hi _ _ _ rfl HO0.out rfl ?_)
   | (at_builtin;refine wpList_append_own _ rfl _ _ 22 rfl w.heap.size 51 i0 (.agg #[.int .i64 0,.int .u8 0]) 2 16 Tryz.underlying22 hi hz0 hz1 hz2 rfl (by decide) _ _ _ rfl (HO0.out.alloc _) ⟨w.heap.size+1,0,none⟩ 2 2 [.int .i64 (-7),.int .u8 0,.int .i64 (-8),.int .u8 0] rfl rfl ?c1 ?c2 ?c3 ?c4 ?c5 ?_))
  case c1=>have:=four_new (w.alloc (.cells #[] 51)) (.int .i64 (-7)) (.int .u8 0) (.int .i64 (-8)) (.int .u8 0) 51;simpa using this
  case c2=>intro u hu;simp at hu;rcases hu with rfl | rfl | rfl | rfl <;> rfl
  case c3=>unfold maxLen;omega
  case c4=>omega
  case c5=>simp;omega
  intro v3 w3 ho3 hg3 _
  obtain ⟨g,cp,rfl,hcp,ho4,hb4⟩:=HS.out (.slice (some ⟨w.heap.size,0,none⟩) 0 0) _ (by simp) HO0.out HB0.out w3 v3 ho3 hg3
  have HO4:Hid (w3.ownsRow w.heap.size 51 2 (.slice (some ⟨g,0,none⟩) (_+2) cp) (_+2) (ndC (_ ++ [(-7,0),(-8,0)]))):=ho4
  have HB4:Hid _:=hb4
  clear ho3 hg3 ho4 hb4
  have hcI:(2:Int)≤cp:=by simp at hcp;omega
  go_wp2_with fail
  go_ret
  exact ⟨g,cp,rfl,HO4.out,HB4.out⟩
 | some ad =>
  clear hn0
  have hnews:=nreads_cells (NReads.stay (v:=.slice (some ad) xs.length cap) (ts:=xs) ⟨_,_,rfl,HR.out⟩ HB0.out)
  have HN:Hid _:=hnews
  clear hnews
  go_enter Tryz.func9,Tryz.ntmps9
  go_wp2_with (at_builtin;refine wpList_append_own _ rfl _ _ 22 rfl w.heap.size 51 i0 (.agg #[.int .i64 0,.int .u8 0]) 2 16 Tryz.underlying22 hi hz0 hz1 hz2 rfl (by decide) _ _ _ rfl HO0.out ad xs.length cap (ndC xs) rfl hzl HN.out h1c (by unfold maxLen;omega) (by omega) (by simp) ?_)
  intro v2 w2 ho2 hg2 hn2
  have hb2:Below w.heap.size w w2:=HB0.out.grown hg2 (by simp) (fun k hk=>(HO0.out.lt k hk).1)
  have hv2:v2≠.slice none 0 0:=hn2
  obtain ⟨a2,c2,rfl⟩:=own_shape ho2
  have HO2:Hid (w2.ownsRow w.heap.size 51 2 (.slice a2 xs.length c2) xs.length (ndC xs)):=ho2
  have HB2:Hid _:=hb2
  clear ho2 hg2 hn2 hb2
  go_wp2_with (at_builtin;refine wpList_append_own _ rfl _ _ 22 rfl w.heap.size 51 i0 (.agg #[.int .i64 0,.int .u8 0]) 2 16 Tryz.underlying22 hi hz0 hz1 hz2 rfl (by decide) _ _ _ rfl (HO2.out.alloc _) ⟨w2.heap.size,0,none⟩ 2 2 [.int .i64 (-7),.int .u8 0,.int .i64 (-8),.int .u8 0] rfl rfl ?c1 ?c2 ?c3 ?c4 ?c5 ?_)
  case c1=>exact four_new w2 (.int .i64 (-7)) (.int .u8 0) (.int .i64 (-8)) (.int .u8 0) 51
  case c2=>intro u hu;simp at hu;rcases hu with rfl | rfl | rfl | rfl <;> rfl
  case c3=>unfold maxLen;omega
  case c4=>omega
  case c5=>have:=HB2.out.size;simp;omega
  intro v3 w3 ho3 hg3 _
  obtain ⟨g,cp,rfl,hcp,ho4,hb4⟩:=HS.out _ _ hv2 HO2.out HB2.out w3 v3 ho3 hg3
  have HO4:Hid (w3.ownsRow w.heap.size 51 2 (.slice (some ⟨g,0,none⟩) (_+2) cp) (_+2) (ndC (_ ++ [(-7,0),(-8,0)]))):=ho4
  have HB4:Hid _:=hb4
  clear ho3 hg3 ho4 hb4
  have hcI:(xs.length:Int)≤cp:=by omega
  have hcI2:(xs.length:Int)+2≤cp:=by omega
  go_wp2_with fail
  go_ret
  exact ⟨g,cp,rfl,HO4.out,HB4.out⟩

theorem lent_reads {w:World} {base g cap:Nat} {xs:List Nd} (ho:w.ownsRow base 51 2 (.slice (some ⟨g,0,none⟩) (xs.length+2) cap) (xs.length+2) (ndC (xs ++ [(-7,0),(-8,0)]))) :
  NReads w (.slice (some ⟨g,0,none⟩) xs.length cap) xs∧g<w.heap.size∧xs.length+2≤cap∧w.cell? ⟨g,xs.length * 2,none⟩=some (.int .i64 (-7))∧w.cell? ⟨g,xs.length * 2+1,none⟩=some (.int .u8 0)∧w.cell? ⟨g,(xs.length+1) * 2,none⟩=some (.int .i64 (-8))∧w.cell? ⟨g,(xs.length+1) * 2+1,none⟩=some (.int .u8 0):=by
 have hcap:xs.length+2≤cap:=by
  obtain ⟨_,h⟩:=ho
  rcases h with ⟨h,_⟩ | ⟨g',cp,cur,h,_,_,hcp,_⟩
  ·simp at h
  ·simp at h;omega
 have hl:(xs ++ [((-7,0):Nd),(-8,0)]).length=xs.length+2:=by simp
 obtain ⟨a2,c2,hsl,hrd⟩:=own_nreads (ts:=xs ++ [(-7,0),(-8,0)]) (base:=base) (by rw [hl];exact ho)
 rw [hl] at hsl hrd
 simp only [Value.slice.injEq] at hsl
 obtain ⟨rfl,_,rfl⟩:=hsl
 obtain ⟨g1,o1,e1,hg1,p1,p2⟩:=hrd xs.length (by omega)
 simp only [Option.some.injEq,Addr.mk.injEq] at e1
 obtain ⟨rfl,rfl,_⟩:=e1
 obtain ⟨g2,o2,e2,hg2,q1,q2⟩:=hrd (xs.length+1) (by omega)
 simp only [Option.some.injEq,Addr.mk.injEq] at e2
 obtain ⟨rfl,rfl,_⟩:=e2
 rw [Nat.zero_add] at p1 p2 q1 q2
 refine ⟨⟨_,_,rfl,fun i hi=>?_⟩,hg1,hcap,?_,?_,?_,?_⟩
 ·obtain ⟨g',o',e,hg,c1,c2⟩:=hrd i (by omega)
  have eg:(xs ++ [((-7,0):Nd),(-8,0)]).getD i (0,0)=xs.getD i (0,0):=by simp [List.getD_eq_getElem?_getD,List.getElem?_append_left hi]
  rw [eg] at c1 c2
  exact ⟨g',o',e,hg,c1,c2⟩
 ·rw [p1];simp
 ·rw [p2];simp
 ·rw [q1];simp
 ·rw [q2];simp

set_option maxHeartbeats 2000000 in
set_option maxRecDepth 100000 in
theorem stay_any (v : Value) (xs : List Nd) (w : World) (hv : NReads w v xs) (base g cap : Nat) (hm : xs.length + 2 ≤ 9223372036854775806)
  (ho:w.ownsRow base 51 2 (.slice (some ⟨g,0,none⟩) (xs.length+2) cap) (xs.length+2) (ndC (xs ++ [(-7,0),(-8,0)]))) :
  Calls Tryz.prog 13 #[.slice (some ⟨g,0,none⟩) xs.length cap,v] w fun e w'=>e=.returned (.bool true)∧Below w.heap.size w w':=by
 obtain ⟨hrx,hg,hcap,p1,p2,q1,q2⟩:=lent_reads ho
 have HRx:Hid (NReads w (.slice (some ⟨g,0,none⟩) xs.length cap) xs):=hrx
 have HRv:Hid (NReads w v xs):=hv
 obtain ⟨av,cv,rfl,_⟩:=hv
 have e7:=eq2 (-7) 0 (-7) 0
 have e8:=eq2 (-8) 0 (-8) 0
 simp only [beq_self_eq_true,Bool.and_self] at e7 e8
 clear ho hrx
 have hcI:(xs.length:Int)+2≤cap:=by omega
 have hcI2:(xs.length:Int)≤cap:=by omega
 go_enter Tryz.func13,Tryz.ntmps13
 go_wp2_with fail
 refine (same_any _ _ xs xs _ HRx.out HRv.out (by omega)).mono ?_
 rintro e w1 ⟨rfl,hb1⟩
 rw [decide_eq_true rfl]
 have r1:w1.cell? ⟨g,xs.length * 2,none⟩=some (.int .i64 (-7)):=by rw [below_cell hb1 hg];exact p1
 have r2:w1.cell? ⟨g,xs.length * 2+1,none⟩=some (.int .u8 0):=by rw [below_cell hb1 hg];exact p2
 have r3:w1.cell? ⟨g,(xs.length+1) * 2,none⟩=some (.int .i64 (-8)):=by rw [below_cell hb1 hg];exact q1
 have r4:w1.cell? ⟨g,(xs.length+1) * 2+1,none⟩=some (.int .u8 0):=by rw [below_cell hb1 hg];exact q2
 clear p1 p2 q1 q2
 go_wp2_with fail
 go_ret
 exact ⟨rfl,hb1⟩

set_option maxHeartbeats 4000000 in
set_option maxRecDepth 100000 in
theorem rcompare_any (v1 v2 : Value) (a b : List Nd) (w : World) (h1 : NReads w v1 a) (h2 : NReads w v2 b) (hm : a.length ≤ 9223372036854775806) :
  Calls Tryz.prog 99 #[v1,v2] w fun e w'=>e=.returned (.int .i64 (ct a b))∧Below w.heap.size w w':=by
 obtain ⟨a1,c1,rfl,g1⟩:=h1
 obtain ⟨a2,c2,rfl,g2⟩:=h2
 have H1:Hid _:=g1
 have H2:Hid _:=g2
 clear g1 g2
 by_cases hlt0 : a.length < b.length
 ·have HC:Hid (ct a b = -1):=by
   show _ = _
   have hc:ci a.length b.length = -1:=by unfold ci;rw [if_pos (by omega)]
   unfold ct;rw [hc];rfl
  have hI:(a.length:Int)<b.length:=by omega
  go_enter Tryz.func99,Tryz.ntmps99
  go_wp2_with fail
  go_ret
  exact ⟨ret_int HC.out.symm,Below.refl _ _⟩
 by_cases hgt0 : b.length < a.length
 ·have HC:Hid (ct a b=1):=by
   show _ = _
   have hc:ci a.length b.length=1:=by unfold ci;rw [if_neg (by omega),if_pos (by omega)]
   unfold ct;rw [hc];rfl
  have hI:¬ (a.length:Int)<b.length:=by omega
  have hI2:(b.length:Int)<a.length:=by omega
  go_enter Tryz.func99,Tryz.ntmps99
  go_wp2_with fail
  go_ret
  exact ⟨ret_int HC.out.symm,Below.refl _ _⟩
 have HL:Hid (a.length=b.length):=by show _=_;omega
 have HC:Hid (ct a b=cl a b):=by
  show _ = _
  have hc:ci a.length b.length=0:=by unfold ci;rw [if_neg (by omega),if_neg (by omega)]
  unfold ct;rw [if_pos hc]
 rw [HC.out]
 have hI:¬ (a.length:Int)<b.length:=by omega
 have hI2:¬ (b.length:Int)<a.length:=by omega
 have HS:Hid (cl (a.drop 0) (b.drop 0)=cl a b):=rfl
 clear hlt0 hgt0
 go_enter Tryz.func99,Tryz.ntmps99
 go_wp2_with fail
 go_loopw [5] (fun vi wr=>∃ i q:Nat,i≤a.length∧vi=.int .i64 i∧cl (a.drop i) (b.drop i)=cl a b∧wr=w.drewN q) (fun vi _=>a.length - (intOf vi).toNat)
 case atStart=>exact ⟨0,0,Nat.zero_le _,rfl,HS.out,rfl⟩
 case round =>
  obtain ⟨i,q,hi,rfl,hc,rfl⟩:=hrel
  have HCd:Hid (cl (a.drop i) (b.drop i)=cl a b):=hc
  clear hc
  by_cases hlt : i < a.length
  ·have hiI:(i:Int)<a.length:=by omega
   have hlt2:i<b.length:=by have:=HL.out;omega
   have hiI3:(i:Int)<b.length:=by omega
   obtain ⟨ga,oa,rfl,hga,a11,a12⟩:=H1.out i hlt
   obtain ⟨gb,ob,rfl,hgb,b11,b12⟩:=H2.out i hlt2
   have hst:=cl_drop hlt hlt2
   rw [HCd.out] at hst
   obtain ⟨⟨k,s⟩,hx⟩:∃ x,a.getD i (0,0)=x:=⟨_,rfl⟩
   obtain ⟨⟨l,t⟩,hy⟩:∃ y,b.getD i (0,0)=y:=⟨_,rfl⟩
   rw [hx] at a11 a12
   rw [hy] at b11 b12
   rw [hx,hy] at hst
   obtain ⟨z,hz⟩:∃ z,cn (k,s) (l,t)=z:=⟨_,rfl⟩
   rw [hz] at hst
   have HST:Hid (cl a b=if z=0 then cl (a.drop (i+1)) (b.drop (i+1)) else z):=hst
   clear hst hx hy
   by_cases hkl : k < l
   ·have HZ:Hid (z = -1):=by show _=_;rw [← hz];simp [cn,ci,hkl]
    clear hz
    go_wp2_with fail
    go_region
    go_wp2_with fail
    go_ret
    exact ⟨ret_int (by rw [HST.out,HZ.out];rfl),drewN_below w _⟩
   by_cases hlk : l < k
   ·have HZ:Hid (z=1):=by show _=_;rw [← hz];simp [cn,ci,hkl,hlk]
    clear hz
    go_wp2_with fail
    go_region
    go_wp2_with fail
    go_region
    go_wp2_with fail
    go_ret
    exact ⟨ret_int (by rw [HST.out,HZ.out];rfl),drewN_below w _⟩
   obtain rfl:k=l:=by omega
   by_cases hs : s < t
   ·have HZ:Hid (z = -1):=by show _=_;rw [← hz];simp [cn,ci,hs]
    clear hz
    go_wp2_with fail
    go_region
    go_wp2_with fail
    go_region
    go_wp2_with fail
    go_region
    go_wp2_with fail
    go_ret
    exact ⟨ret_int (by rw [HST.out,HZ.out];rfl),drewN_below w _⟩
   by_cases ht : t < s
   ·have HZ:Hid (z=1):=by show _=_;rw [← hz];simp [cn,ci,hs,ht]
    clear hz
    go_wp2_with fail
    go_region
    go_wp2_with fail
    go_region
    go_wp2_with fail
    go_region
    go_wp2_with fail
    go_region
    go_wp2_with fail
    go_ret
    exact ⟨ret_int (by rw [HST.out,HZ.out];rfl),drewN_below w _⟩
   obtain rfl:s=t:=by omega
   have HZ:Hid (z=0):=by show _=_;rw [← hz];simp [cn,ci]
   clear hz
   go_wp2_with fail
   go_region
   go_wp2_with fail
   go_region
   go_wp2_with fail
   go_region
   go_wp2_with fail
   go_region
   go_wp2_with fail
   go_roundw
   case rel=>exact ⟨i+1,_,by omega,by go_num,by have h9:=HST.out;rw [HZ.out,if_pos rfl] at h9;exact h9.symm,rfl⟩
   case measure=>simp [intOf];omega
  ·have hiI:¬ (i:Int)<a.length:=by omega
   have HE:Hid (cl a b=0):=by show _=_;rw [← HCd.out,List.drop_eq_nil_of_le (by omega)];rfl
   go_wp2_with fail
   go_ret
   exact ⟨ret_int HE.out.symm,drewN_below w _⟩

end Go.Proofs.YtfdhaknecjcjoaaGreatDoor
