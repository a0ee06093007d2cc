/- slices.Equal of nodes; how a rule settles two forms. -/
import Derived.Test.YtfdhaknecjcjoaaGreatDoorPXn
namespace Go.Proofs.YtfdhaknecjcjoaaGreatDoor
open Go Go.RowKit
set_option linter.unusedVariables false

set_option maxHeartbeats 4000000 in
set_option maxRecDepth 100000 in
theorem sequal_any (v1 v2 : Value) (a b : List Nd) (w : World) (h1 : NReads w v1 a) (h2 : NReads w v2 b) (hm : a.length ≤ 9223372036854775806) :
  Calls Tryz.prog 30 #[v1,v2] w fun e w'=>e=.returned (.bool (decide (a=b)))∧Below w.heap.size w w':=by
 obtain ⟨a1,c1,rfl,g1⟩:=h1
 obtain ⟨a2,c2,rfl,g2⟩:=h2
 have H1:Hid _:=g1
 have H2:Hid _:=g2
 clear g1 g2
 by_cases hl : a.length = b.length
 ·have hlb:((a.length:Int) != (b.length:Int))=false:=by rw [bne_eq_false_iff_eq];omega
  have HL:Hid (a.length=b.length):=hl
  clear hl
  go_enter Tryz.func30,Tryz.ntmps30
  go_wp2_with fail
  go_loopw [13] (fun vi wr=>∃ i q:Nat,i≤a.length∧vi=.int .i64 i∧(∀ j,j<i→a.getD j (0,0)=b.getD j (0,0))∧wr=w.drewN q) (fun vi _=>a.length - (intOf vi).toNat)
  case atStart=>exact ⟨0,0,Nat.zero_le _,rfl,fun j hj=>by omega,rfl⟩
  case round =>
   obtain ⟨i,q,hi,rfl,hall,rfl⟩:=hrel
   have HA:Hid (∀ j,j<i→a.getD j (0,0)=b.getD j (0,0)):=hall
   clear hall
   by_cases hlt : i < a.length
   ·have hiI:(i:Int)<a.length:=by omega
    have hlt2:i<b.length:=by have:=HL.out;omega
    have hiI2:(i:Int)<b.length:=by omega
    obtain ⟨ga,oa,rfl,hga,a11,a12⟩:=H1.out i hlt
    obtain ⟨gb,ob,rfl,hgb,b11,b12⟩:=H2.out i hlt2
    obtain ⟨⟨k,s⟩,hx⟩:∃ x,a.getD i (0,0)=x:=⟨_,rfl⟩
    obtain ⟨⟨l,t⟩,hy⟩:∃ y,b.getD i (0,0)=y:=⟨_,rfl⟩
    rw [hx] at a11 a12
    rw [hy] at b11 b12
    have HX:Hid (a.getD i (0,0)=(k,s)):=hx
    have HY:Hid (b.getD i (0,0)=(l,t)):=hy
    clear hx hy
    have e2:=eq2 k s l t
    by_cases hxy:k=l∧s=t
    ·obtain ⟨rfl,rfl⟩:=hxy
     have hbe:(k == k && s == s)=true:=by simp
     rw [hbe] at e2
     go_wp2_with fail
     go_region
     go_wp2_with fail
     go_roundw
     case rel=>exact ⟨i+1,_,by omega,by go_num,fun j hj=>by
      by_cases e : j = i
      ·rw [e,HX.out,HY.out]
      ·exact HA.out j (by omega),rfl⟩
     case measure=>simp [intOf];omega
    ·have hbe:(k == l && s == t)=false:=by simpa using hxy
     rw [hbe] at e2
     have HE:Hid (decide (a=b)=false):=by
      show decide (a = b) = false
      simp
      intro h
      apply hxy
      have h1:=HX.out
      rw [h,HY.out] at h1
      simp at h1
      exact ⟨h1.1.symm,h1.2.symm⟩
     clear hxy hbe
     go_wp2_with fail
     go_region
     go_wp2_with fail
     go_ret
     exact ⟨ret_bool HE.out.symm,drewN_below w _⟩
   ·have hiI:¬ (i:Int)<a.length:=by omega
    have HE:Hid (decide (a=b)=true):=by
     show decide (a = b) = true
     rw [decide_eq_true_iff]
     apply List.ext_getElem?
     intro j
     have hl:=HL.out
     by_cases hj : j < a.length
     ·have h1:=HA.out j (by omega)
      rw [List.getD_eq_getElem?_getD,List.getD_eq_getElem?_getD,List.getElem?_eq_getElem hj,List.getElem?_eq_getElem (by omega)] at h1
      rw [List.getElem?_eq_getElem hj,List.getElem?_eq_getElem (by omega)]
      simp only [Option.getD_some] at h1
      rw [h1]
     ·rw [List.getElem?_eq_none (by omega),List.getElem?_eq_none (by omega)]
    go_wp2_with fail
    go_ret
    exact ⟨ret_bool HE.out.symm,drewN_below w _⟩
 ·have hlb:((a.length:Int) != (b.length:Int))=true:=by rw [bne_iff_ne];omega
  have HE:Hid (decide (a=b)=false):=by
   show decide (a = b) = false
   simp
   intro h
   exact hl (by rw [h])
  clear hl
  go_enter Tryz.func30,Tryz.ntmps30
  go_wp2_with fail
  go_ret
  exact ⟨ret_bool HE.out.symm,Below.refl _ _⟩


abbrev S6c (W:World) (b1 b2 b3:Nat) (u1 u2 u3 u4 u5 u6:Value) (w':World):Prop:=w'.cell? ⟨b1,0,none⟩=some u1∧w'.cell? ⟨b1,1,none⟩=some u2∧w'.cell? ⟨b2,0,none⟩=some u3∧w'.cell? ⟨b2,1,none⟩=some u4∧w'.cell? ⟨b3,0,none⟩=some u5∧w'.cell? ⟨b3,1,none⟩=some u6∧Below W.heap.size W w'
theorem s6c_step {W:World} {b1 b2 b3:Nat} {u1 u2 u3 u4 u5 u6:Value} {w1 w2:World} (hb:Below w1.heap.size w1 w2) (h:S6c W b1 b2 b3 u1 u2 u3 u4 u5 u6 w1):S6c W b1 b2 b3 u1 u2 u3 u4 u5 u6 w2:=by
 have hc:∀ {b o:Nat} {u:Value},w1.cell? ⟨b,o,none⟩=some u→w2.cell? ⟨b,o,none⟩=some u:=fun {b o u} h=>(World.cell?_of_block (hb.block b (World.block_lt_of_cell? w1 _ h))).trans h
 exact ⟨hc h.1,hc h.2.1,hc h.2.2.1,hc h.2.2.2.1,hc h.2.2.2.2.1,hc h.2.2.2.2.2.1,go_on h.2.2.2.2.2.2 hb⟩

set_option maxHeartbeats 8000000 in
set_option maxRecDepth 100000 in
theorem settles_any {base:Nat} {w:World} {B:Nat} {F:Fb} {pre:List Tr} {x y U O:Tr} (h:FT base w B (pre ++ [x,y]) F) (hox:x.ok) (hoy:y.ok) (hou:U.ok) (hoo:O.ok) (ua oa:Option Addr) (uc oc:Nat) (fv:Value) (hru:NReads w (.slice ua U.flat.length uc) U.flat) (hrz:NReads w (.slice oa O.flat.length oc) O.flat) (hul:U.flat.length≤2) :
  Calls Tryz.prog 54 #[.agg #[.slice ua U.flat.length uc,.slice oa O.flat.length oc,fv],.pointer (some ⟨B,0,none⟩)] w fun en w'=>en=.returned (.bool (decide ((x=O∨y=U)∨(y=O∨x=U))))∧FTE base w B F (pre ++ (if x=O∨y=U then [x] else if y=O∨x=U then [y] else [x,y])) w':=by
 obtain ⟨p,q,e,hx,hy,he,hp⟩:=at_last2 pre x y
 have HS:Hid (FT base w B (pre ++ [x,y]) F):=h
 have HT:Hid (At (flatL (pre ++ [x,y])) (szL (pre ++ [x,y])) p q x):=hx
 have HU:Hid (At (flatL (pre ++ [x,y])) (szL (pre ++ [x,y])) q e y):=hy
 have HE:Hid (e=(flatL (pre ++ [x,y])).length):=he
 have HQ:Hid (q=(flatL (pre ++ [x])).length∧p=(flatL pre).length∧q=p+x.flat.length):=⟨by rw [hx.end_,hp,flatL_append,flatL_one,List.length_append],hp,hx.end_⟩
 have HRU:Hid (NReads w (.slice ua U.flat.length uc) U.flat):=hru
 have HRO:Hid (NReads w (.slice oa O.flat.length oc) O.flat):=hrz
 have hup:=U.len_pos
 have HXO:Hid (∀ a b:Tr,a.ok→b.ok→decide (a.flat=b.flat)=decide (a=b)):=fun a b ha hb=>decide_eq_decide.2 ⟨fun h=>flat_inj ha hb h,fun h=>by rw [h]⟩
 have hlX:x.flat.length≤9223372036854775806:=by have:=h.small;have:=hx.le;have:=hx.end_;omega
 have hlY:y.flat.length≤9223372036854775806:=by have:=h.small;have:=hy.le;have:=hy.end_;omega
 have HLX:Hid (x.flat.length≤9223372036854775806∧y.flat.length≤9223372036854775806):=⟨hlX,hlY⟩
 have HOK:Hid (x.ok∧y.ok∧U.ok∧O.ok):=⟨hox,hoy,hou,hoo⟩
 obtain ⟨nu,hnu⟩:∃ nu,U.flat.length=nu:=⟨_,rfl⟩
 obtain ⟨no,hno⟩:∃ no,O.flat.length=no:=⟨_,rfl⟩
 rw [hnu] at HRU hup hul ⊢
 rw [hno] at HRO ⊢
 have hlt:=h.lt
 have HB0:Hid (Below w.heap.size w (w.alloc (.cells #[.slice ua nu uc,.slice oa no oc,fv] 96))):=(Below.refl _ _).alloc (Nat.le_refl _) _
 have HR0:Hid ((w.alloc (.cells #[.slice ua nu uc,.slice oa no oc,fv] 96)).heap[w.heap.size]?=some (.cells #[.slice ua nu uc,.slice oa no oc,fv] 96 (0,0))):=heap_alloc_new w _
 clear h hx hy hox hoy hou hoo he hp hru hrz hlX hlY hnu hno
 obtain ⟨D,hD⟩:∃ D,decide ((x=O∨y=U)∨(y=O∨x=U))=D:=⟨_,rfl⟩
 obtain ⟨L,hL⟩:∃ L,(if x=O∨y=U then [x] else if y=O∨x=U then [y] else [x,y])=L:=⟨_,rfl⟩
 rw [hD,hL]
 have HDD:Hid (decide ((x=O∨y=U)∨(y=O∨x=U))=D):=hD
 have HLL:Hid ((if x=O∨y=U then [x] else if y=O∨x=U then [y] else [x,y])=L):=hL
 clear hD hL
 go_enter Tryz.func54,Tryz.ntmps54
 go_wp2_with fail
 generalize w.alloc (.cells #[.slice ua nu uc,.slice oa no oc,fv] 96)=wA at HB0 HR0 ⊢
 refine (lastT (HS.out.stay HB0.out) HT.out HU.out HE.out).mono ?_
 rintro en w1 ⟨rfl,hb1⟩
 have HB1:Hid (Below w.heap.size w ((w1.alloc (.cells #[.int .i64 (p:Int),.int .i64 (q:Int)] 123)).alloc (.cells #[.int .i64 (q:Int),.int .i64 (e:Int)] 123))):=by
  have h1:=go_on HB0.out hb1
  exact (h1.alloc h1.size _).alloc (by have:=h1.size;simp;omega) _
 have HX1:Hid (Bx ((w1.alloc (.cells #[.int .i64 (p:Int),.int .i64 (q:Int)] 123)).alloc (.cells #[.int .i64 (q:Int),.int .i64 (e:Int)] 123)) w1.heap.size (.int .i64 (p:Int)) (.int .i64 (q:Int))):=(Bx.new w1 _ _).stay ((Below.refl _ _).alloc (Nat.le_refl _) _)
 have HY1:Hid (Bx ((w1.alloc (.cells #[.int .i64 (p:Int),.int .i64 (q:Int)] 123)).alloc (.cells #[.int .i64 (q:Int),.int .i64 (e:Int)] 123)) (w1.heap.size+1) (.int .i64 (q:Int)) (.int .i64 (e:Int))):=by
  have:=Bx.new (w1.alloc (.cells #[.int .i64 (p:Int),.int .i64 (q:Int)] 123)) (.int .i64 (q:Int)) (.int .i64 (e:Int))
  rw [show (w1.alloc (.cells #[.int .i64 (p:Int),.int .i64 (q:Int)] 123)).heap.size=w1.heap.size+1 by simp] at this
  exact this
 have HR1:Hid (((w1.alloc (.cells #[.int .i64 (p:Int),.int .i64 (q:Int)] 123)).alloc (.cells #[.int .i64 (q:Int),.int .i64 (e:Int)] 123)).heap[w.heap.size]?=some (.cells #[.slice ua nu uc,.slice oa no oc,fv] 96 (0,0))):=by
  have hl:w.heap.size<wA.heap.size:=(Array.getElem?_eq_some_iff.1 HR0.out).1
  have h1:Below wA.heap.size wA ((w1.alloc (.cells #[.int .i64 (p:Int),.int .i64 (q:Int)] 123)).alloc (.cells #[.int .i64 (q:Int),.int .i64 (e:Int)] 123)):=(hb1.alloc hb1.size _).alloc (by have:=hb1.size;simp;omega) _
  exact (h1.block w.heap.size hl).trans HR0.out
 clear hb1 HB0 HR0
 go_wp2_with fail
 obtain ⟨b,hb⟩:∃ b,w1.heap.size=b:=⟨_,rfl⟩
 generalize (w1.alloc (.cells #[.int .i64 (p:Int),.int .i64 (q:Int)] 123)).alloc (.cells #[.int .i64 (q:Int),.int .i64 (e:Int)] 123)=w2 at HB1 HX1 HY1 HR1 ⊢
 rw [hb] at HX1 HY1 ⊢
 clear hb
 have SA:Hid (S6c w2 b (b+1) w.heap.size (.int .i64 (p:Int)) (.int .i64 (q:Int)) (.int .i64 (q:Int)) (.int .i64 (e:Int)) (.slice ua nu uc) (.slice oa no oc) w2):=by
  have hr:=HR1.out
  exact ⟨HX1.out.cells.1,HX1.out.cells.2.1,HY1.out.cells.1,HY1.out.cells.2.1,by simp [World.cell?,hr],by simp [World.cell?,hr],Below.refl _ _⟩
 clear HX1 HY1 HR1
 have S1:S6c w2 b (b+1) w.heap.size (.int .i64 (p:Int)) (.int .i64 (q:Int)) (.int .i64 (q:Int)) (.int .i64 (e:Int)) (.slice ua nu uc) (.slice oa no oc) w2.drew:=s6c_step (Below.refl _ _).drew SA.out
 go_region_held3 (fun w'=>S6c w2 b (b+1) w.heap.size (.int .i64 (p:Int)) (.int .i64 (q:Int)) (.int .i64 (q:Int)) (.int .i64 (e:Int)) (.slice ua nu uc) (.slice oa no oc) w') (first | exact S1 | assumption | exact s6c_step (by assumption) (by assumption)) (first
  | (go_at_call 88;refine (listV_any (HS.out.stay (go_on HB1.out (show S6c w2 b (b+1) w.heap.size (.int .i64 (p:Int)) (.int .i64 (q:Int)) (.int .i64 (q:Int)) (.int .i64 (e:Int)) (.slice ua nu uc) (.slice oa no oc) _ from by assumption).2.2.2.2.2.2)) HT.out).mono ?_;rintro en a1 ⟨rfl,ha1⟩)
  | (go_at_call 30;refine (sequal_any _ _ x.flat O.flat _ ((HS.out.stay (go_on HB1.out (show S6c w2 b (b+1) w.heap.size (.int .i64 (p:Int)) (.int .i64 (q:Int)) (.int .i64 (q:Int)) (.int .i64 (e:Int)) (.slice ua nu uc) (.slice oa no oc) _ from by assumption).2.2.2.2.2.2)).reads HT.out) (HRO.out.stay (go_on HB1.out (show S6c w2 b (b+1) w.heap.size (.int .i64 (p:Int)) (.int .i64 (q:Int)) (.int .i64 (q:Int)) (.int .i64 (e:Int)) (.slice ua nu uc) (.slice oa no oc) _ from by assumption).2.2.2.2.2.2)) HLX.out.1).mono ?_;rintro en c1 ⟨rfl,hc1⟩;rw [HXO.out x O HOK.out.1 HOK.out.2.2.2]))
 all_goals
  have T1:S6c w2 b (b+1) w.heap.size (.int .i64 (p:Int)) (.int .i64 (q:Int)) (.int .i64 (q:Int)) (.int .i64 (e:Int)) (.slice ua nu uc) (.slice oa no oc) c1:=s6c_step hc1 (s6c_step ha1 S1)
  have HT1:Hid (S6c w2 b (b+1) w.heap.size (.int .i64 (p:Int)) (.int .i64 (q:Int)) (.int .i64 (q:Int)) (.int .i64 (e:Int)) (.slice ua nu uc) (.slice oa no oc) c1):=T1
  clear T1 S1 ha1 hc1
  by_cases h1 : x = O
  ·have HD:Hid (D=true):=by show _=_;rw [← HDD.out];simp [h1]
   have HI:Hid (L=[x]):=by show _=_;rw [← HLL.out];simp [h1]
   rw [decide_eq_true h1]
   clear h1
   go_wp2_with fail
   have HBk:Hid (Below w.heap.size w c1):=go_on HB1.out HT1.out.2.2.2.2.2.2
   refine (drop_y (pre:=pre ++ [x]) (y:=y) (by have:=HS.out.stay HBk.out;simpa using this) HQ.out.1 (by have:=HE.out;simpa using this)).mono ?_
   rintro en w9 ⟨rfl,hf9⟩
   have HF9:Hid (FE base c1 B F (flatL (pre ++ [x])) (szL (pre ++ [x])) w9):=hf9
   clear hf9
   go_wp2_with fail
   go_ret
   exact ⟨by rw [HD.out];rfl,by rw [HI.out];exact FE.after HBk.out HF9.out⟩
  rw [decide_eq_false h1]
  have N1:Hid (¬ x=O):=h1
  clear h1
  go_wp2_with fail
  have S2:S6c w2 b (b+1) w.heap.size (.int .i64 (p:Int)) (.int .i64 (q:Int)) (.int .i64 (q:Int)) (.int .i64 (e:Int)) (.slice ua nu uc) (.slice oa no oc) c1.drew:=s6c_step (Below.refl _ _).drew HT1.out
  go_region_held3 (fun w'=>S6c w2 b (b+1) w.heap.size (.int .i64 (p:Int)) (.int .i64 (q:Int)) (.int .i64 (q:Int)) (.int .i64 (e:Int)) (.slice ua nu uc) (.slice oa no oc) w') (first | exact S2 | assumption | exact s6c_step (by assumption) (by assumption)) (first
   | (go_at_call 88;refine (listV_any (HS.out.stay (go_on HB1.out (show S6c w2 b (b+1) w.heap.size (.int .i64 (p:Int)) (.int .i64 (q:Int)) (.int .i64 (q:Int)) (.int .i64 (e:Int)) (.slice ua nu uc) (.slice oa no oc) _ from by assumption).2.2.2.2.2.2)) HU.out).mono ?_;rintro en a2 ⟨rfl,ha2⟩)
   | (go_at_call 30;refine (sequal_any _ _ y.flat U.flat _ ((HS.out.stay (go_on HB1.out (show S6c w2 b (b+1) w.heap.size (.int .i64 (p:Int)) (.int .i64 (q:Int)) (.int .i64 (q:Int)) (.int .i64 (e:Int)) (.slice ua nu uc) (.slice oa no oc) _ from by assumption).2.2.2.2.2.2)).reads HU.out) (HRU.out.stay (go_on HB1.out (show S6c w2 b (b+1) w.heap.size (.int .i64 (p:Int)) (.int .i64 (q:Int)) (.int .i64 (q:Int)) (.int .i64 (e:Int)) (.slice ua nu uc) (.slice oa no oc) _ from by assumption).2.2.2.2.2.2)) HLX.out.2).mono ?_;rintro en c2 ⟨rfl,hc2⟩;rw [HXO.out y U HOK.out.2.1 HOK.out.2.2.1]))
  all_goals
   have T2:S6c w2 b (b+1) w.heap.size (.int .i64 (p:Int)) (.int .i64 (q:Int)) (.int .i64 (q:Int)) (.int .i64 (e:Int)) (.slice ua nu uc) (.slice oa no oc) c2:=s6c_step hc2 (s6c_step ha2 S2)
   have HT2:Hid (S6c w2 b (b+1) w.heap.size (.int .i64 (p:Int)) (.int .i64 (q:Int)) (.int .i64 (q:Int)) (.int .i64 (e:Int)) (.slice ua nu uc) (.slice oa no oc) c2):=T2
   clear T2 S2 ha2 hc2
   by_cases h2 : y = U
   ·have HD:Hid (D=true):=by show _=_;rw [← HDD.out];simp [h2]
    have HI:Hid (L=[x]):=by show _=_;rw [← HLL.out];simp [h2]
    rw [decide_eq_true h2]
    clear h2
    go_wp2_with fail
    have HBk:Hid (Below w.heap.size w c2):=go_on HB1.out HT2.out.2.2.2.2.2.2
    refine (drop_y (pre:=pre ++ [x]) (y:=y) (by have:=HS.out.stay HBk.out;simpa using this) HQ.out.1 (by have:=HE.out;simpa using this)).mono ?_
    rintro en w9 ⟨rfl,hf9⟩
    have HF9:Hid (FE base c2 B F (flatL (pre ++ [x])) (szL (pre ++ [x])) w9):=hf9
    clear hf9
    go_wp2_with fail
    go_ret
    exact ⟨by rw [HD.out];rfl,by rw [HI.out];exact FE.after HBk.out HF9.out⟩
   rw [decide_eq_false h2]
   have N2:Hid (¬ y=U):=h2
   clear h2
   go_wp2_with fail
   have S3:S6c w2 b (b+1) w.heap.size (.int .i64 (p:Int)) (.int .i64 (q:Int)) (.int .i64 (q:Int)) (.int .i64 (e:Int)) (.slice ua nu uc) (.slice oa no oc) c2.drew:=s6c_step (Below.refl _ _).drew HT2.out
   go_region_held3 (fun w'=>S6c w2 b (b+1) w.heap.size (.int .i64 (p:Int)) (.int .i64 (q:Int)) (.int .i64 (q:Int)) (.int .i64 (e:Int)) (.slice ua nu uc) (.slice oa no oc) w') (first | exact S3 | assumption | exact s6c_step (by assumption) (by assumption)) (first
    | (go_at_call 88;refine (listV_any (HS.out.stay (go_on HB1.out (show S6c w2 b (b+1) w.heap.size (.int .i64 (p:Int)) (.int .i64 (q:Int)) (.int .i64 (q:Int)) (.int .i64 (e:Int)) (.slice ua nu uc) (.slice oa no oc) _ from by assumption).2.2.2.2.2.2)) HU.out).mono ?_;rintro en a3 ⟨rfl,ha3⟩)
    | (go_at_call 30;refine (sequal_any _ _ y.flat O.flat _ ((HS.out.stay (go_on HB1.out (show S6c w2 b (b+1) w.heap.size (.int .i64 (p:Int)) (.int .i64 (q:Int)) (.int .i64 (q:Int)) (.int .i64 (e:Int)) (.slice ua nu uc) (.slice oa no oc) _ from by assumption).2.2.2.2.2.2)).reads HU.out) (HRO.out.stay (go_on HB1.out (show S6c w2 b (b+1) w.heap.size (.int .i64 (p:Int)) (.int .i64 (q:Int)) (.int .i64 (q:Int)) (.int .i64 (e:Int)) (.slice ua nu uc) (.slice oa no oc) _ from by assumption).2.2.2.2.2.2)) HLX.out.2).mono ?_;rintro en c3 ⟨rfl,hc3⟩;rw [HXO.out y O HOK.out.2.1 HOK.out.2.2.2]))
   all_goals
    have T3:S6c w2 b (b+1) w.heap.size (.int .i64 (p:Int)) (.int .i64 (q:Int)) (.int .i64 (q:Int)) (.int .i64 (e:Int)) (.slice ua nu uc) (.slice oa no oc) c3:=s6c_step hc3 (s6c_step ha3 S3)
    have HT3:Hid (S6c w2 b (b+1) w.heap.size (.int .i64 (p:Int)) (.int .i64 (q:Int)) (.int .i64 (q:Int)) (.int .i64 (e:Int)) (.slice ua nu uc) (.slice oa no oc) c3):=T3
    clear T3 S3 ha3 hc3
    by_cases h3 : y = O
    ·have HD:Hid (D=true):=by show _=_;rw [← HDD.out];exact decide_eq_true (.inr (.inl h3))
     have HI:Hid (L=[y]):=by show _=_;rw [← HLL.out,if_neg (fun h=>h.elim N1.out N2.out),if_pos (.inl h3)]
     rw [decide_eq_true h3]
     clear h3
     go_wp2_with fail
     have HBk:Hid (Below w.heap.size w c3):=go_on HB1.out HT3.out.2.2.2.2.2.2
     refine (drop_x (HS.out.stay HBk.out) HQ.out.2.1 HQ.out.2.2).mono ?_
     rintro en w9 ⟨rfl,hf9⟩
     have HF9:Hid (FE base c3 B F (flatL (pre ++ [y])) (szL (pre ++ [y])) w9):=hf9
     clear hf9
     go_wp2_with fail
     go_ret
     exact ⟨by rw [HD.out];rfl,by rw [HI.out];exact FE.after HBk.out HF9.out⟩
    rw [decide_eq_false h3]
    have N3:Hid (¬ y=O):=h3
    clear h3
    go_wp2_with fail
    have S4:S6c w2 b (b+1) w.heap.size (.int .i64 (p:Int)) (.int .i64 (q:Int)) (.int .i64 (q:Int)) (.int .i64 (e:Int)) (.slice ua nu uc) (.slice oa no oc) c3.drew:=s6c_step (Below.refl _ _).drew HT3.out
    go_region_held3 (fun w'=>S6c w2 b (b+1) w.heap.size (.int .i64 (p:Int)) (.int .i64 (q:Int)) (.int .i64 (q:Int)) (.int .i64 (e:Int)) (.slice ua nu uc) (.slice oa no oc) w') (first | exact S4 | assumption | exact s6c_step (by assumption) (by assumption)) (first
     | (go_at_call 88;refine (listV_any (HS.out.stay (go_on HB1.out (show S6c w2 b (b+1) w.heap.size (.int .i64 (p:Int)) (.int .i64 (q:Int)) (.int .i64 (q:Int)) (.int .i64 (e:Int)) (.slice ua nu uc) (.slice oa no oc) _ from by assumption).2.2.2.2.2.2)) HT.out).mono ?_;rintro en a4 ⟨rfl,ha4⟩)
     | (go_at_call 30;refine (sequal_any _ _ x.flat U.flat _ ((HS.out.stay (go_on HB1.out (show S6c w2 b (b+1) w.heap.size (.int .i64 (p:Int)) (.int .i64 (q:Int)) (.int .i64 (q:Int)) (.int .i64 (e:Int)) (.slice ua nu uc) (.slice oa no oc) _ from by assumption).2.2.2.2.2.2)).reads HT.out) (HRU.out.stay (go_on HB1.out (show S6c w2 b (b+1) w.heap.size (.int .i64 (p:Int)) (.int .i64 (q:Int)) (.int .i64 (q:Int)) (.int .i64 (e:Int)) (.slice ua nu uc) (.slice oa no oc) _ from by assumption).2.2.2.2.2.2)) HLX.out.1).mono ?_;rintro en c4 ⟨rfl,hc4⟩;rw [HXO.out x U HOK.out.1 HOK.out.2.2.1]))
    all_goals
     have T4:S6c w2 b (b+1) w.heap.size (.int .i64 (p:Int)) (.int .i64 (q:Int)) (.int .i64 (q:Int)) (.int .i64 (e:Int)) (.slice ua nu uc) (.slice oa no oc) c4:=s6c_step hc4 (s6c_step ha4 S4)
     have HT4:Hid (S6c w2 b (b+1) w.heap.size (.int .i64 (p:Int)) (.int .i64 (q:Int)) (.int .i64 (q:Int)) (.int .i64 (e:Int)) (.slice ua nu uc) (.slice oa no oc) c4):=T4
     clear T4 S4 ha4 hc4
     by_cases h4 : x = U
     ·have HD:Hid (D=true):=by show _=_;rw [← HDD.out];exact decide_eq_true (.inr (.inr h4))
      have HI:Hid (L=[y]):=by show _=_;rw [← HLL.out,if_neg (fun h=>h.elim N1.out N2.out),if_pos (.inr h4)]
      rw [decide_eq_true h4]
      clear h4
      go_wp2_with fail
      have HBk:Hid (Below w.heap.size w c4):=go_on HB1.out HT4.out.2.2.2.2.2.2
      refine (drop_x (HS.out.stay HBk.out) HQ.out.2.1 HQ.out.2.2).mono ?_
      rintro en w9 ⟨rfl,hf9⟩
      have HF9:Hid (FE base c4 B F (flatL (pre ++ [y])) (szL (pre ++ [y])) w9):=hf9
      clear hf9
      go_wp2_with fail
      go_ret
      exact ⟨by rw [HD.out];rfl,by rw [HI.out];exact FE.after HBk.out HF9.out⟩
     have HD:Hid (D=false):=by show _=_;rw [← HDD.out];exact decide_eq_false (fun h=>h.elim (fun h=>h.elim N1.out N2.out) (fun h=>h.elim N3.out h4))
     have HI:Hid (L=[x,y]):=by show _=_;rw [← HLL.out,if_neg (fun h=>h.elim N1.out N2.out),if_neg (fun h=>h.elim N3.out h4)]
     rw [decide_eq_false h4]
     have N4:Hid (¬ x=U):=h4
     clear h4
     go_wp2_with fail
     go_ret
     exact ⟨by rw [HD.out];rfl,by rw [HI.out];exact ⟨F,HS.out.stay (go_on HB1.out HT4.out.2.2.2.2.2.2),FG.of (go_on HB1.out HT4.out.2.2.2.2.2.2)⟩⟩
end Go.Proofs.YtfdhaknecjcjoaaGreatDoor
