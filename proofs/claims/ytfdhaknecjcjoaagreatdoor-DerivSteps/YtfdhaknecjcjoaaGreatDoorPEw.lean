/- Contract of the document's Step: leaves, one part. -/
import Derived.Test.YtfdhaknecjcjoaaGreatDoorPV
import Derived.Test.YtfdhaknecjcjoaaGreatDoorPJ
namespace Go.Proofs.YtfdhaknecjcjoaaGreatDoor
open Go Go.RowKit Go.Lib
set_option linter.unusedVariables false

/-- What Step answers. -/
def SJ (p : Prop) (R : Tr) (w : World) (e : Ending) (w' : World) : Prop :=
 (¬ p∧∃ u,e=.returned (.tuple #[u,.bool false])∧Below w.heap.size w w') ∨
 (p∧∃ u,e=.returned (.tuple #[u,.bool true])∧NO w.heap.size w' u R∧Below w.heap.size w w')
def Sc (c:Int) (T:Tr):Prop:=∀ (a:Option Addr) (cap:Nat) (w:World),NReads w (.slice a T.flat.length cap) T.flat→T.flat.length≤cap→T.flat.length≤4000 →
  Calls Tryz.prog 26 #[.slice a T.flat.length cap,.int .u8 c] w (SJ (fit c T) (drv c T) w)
set_option maxHeartbeats 1000000 in
theorem rfits7_any (a:Option Addr) (n cap:Nat) (w:World) (hn:n≤9000):Calls Tryz.prog 44 #[.slice a n cap] w fun e w'=>e=.returned (.bool (decide (n≤4000)))∧w'=w:=by
 go_enter Tryz.func44,Tryz.ntmps44
 go_wp2_with fail
 go_ret
 have e:decide ((n:Int)≤4000)=decide (n≤4000):=by
  by_cases h : n ≤ 4000
  ·rw [decide_eq_true h];exact decide_eq_true (by omega)
  ·rw [decide_eq_false h];exact decide_eq_false (by omega)
 rw [← e]
 exact ⟨rfl,rfl⟩
/-- A row of one node of no sign, just laid. -/
theorem no_lit {lo:Nat} (w:World) (hlo:lo≤w.heap.size) (k:Int) {T:Tr} (hT:T.flat=[(k,0)]):NO lo (w.alloc (.cells #[.int .i64 k,.int .u8 0] 51)) (.slice (some ⟨w.heap.size,0,none⟩) 1 1) T:=by
 unfold NO
 rw [hT]
 exact ⟨rfl,.inr ⟨w.heap.size,1,_,rfl,hlo,heap_alloc_new w _,Nat.le_refl _,by decide,rfl,rfl⟩⟩
/-- The two rows that Step lays ahead. -/
abbrev wNE (w:World):World:=(w.alloc (.cells #[.int .i64 1,.int .u8 0] 51)).alloc (.cells #[.int .i64 2,.int .u8 0] 51)
theorem wNE_below (w:World):Below w.heap.size w (wNE w):=((Below.refl _ _).alloc (Nat.le_refl _) _).alloc (by simp) _
theorem wNE_none {lo:Nat} (w:World) (h:lo≤w.heap.size):NO lo (wNE w) (.slice (some ⟨w.heap.size,0,none⟩) 1 1) tNone:=(no_lit w h 1 rfl).below ((Below.refl _ _).alloc (Nat.le_refl _) _)
theorem wNE_empty {lo:Nat} (w:World) (h:lo≤w.heap.size):NO lo (wNE w) (.slice (some ⟨w.heap.size+1,0,none⟩) 1 1) tEmpty:=by
 have:=no_lit (lo:=lo) (w.alloc (.cells #[.int .i64 1,.int .u8 0] 51)) (by simp;omega) 2 (T:=tEmpty) rfl
 rw [show (w.alloc (.cells #[.int .i64 1,.int .u8 0] 51)).heap.size=w.heap.size+1 by simp] at this
 exact this

set_option maxHeartbeats 4000000 in
set_option maxRecDepth 100000 in
theorem step_zero (c:Int) (n:Nd) (hT:(Tr.zero n).ok):Sc c (.zero n):=by
 intro a cap w hv hc hl
 obtain ⟨k,s⟩:=n
 have HT:Hid ((Tr.zero (k,s)).ok):=hT
 have hf:fit c (.zero (k,s)):=trivial
 have HF:Hid (fit c (.zero (k,s))):=hf
 show Calls Tryz.prog 26 #[.slice a 1 cap,.int .u8 c] w _
 have HV:Hid (NReads w (.slice a 1 cap) (Tr.zero (k,s)).flat):=hv
 have HK:Hid (Cap (.slice a 1 cap)):=fun a' n' c' e=>by cases e;exact hc
 obtain ⟨av,cv,e,hrd⟩:=hv
 obtain ⟨g,o,rfl,hg,c1,c2⟩:=hrd 0 (by simp [Tr.flat])
 cases e
 simp only [Tr.flat,List.getD_cons_zero,Nat.zero_mul,Nat.add_zero] at c1 c2
 have HBA:Hid (Below w.heap.size w (w.alloc (.cells #[.int .i64 k,.int .u8 s] 51))):=(Below.refl _ _).alloc (Nat.le_refl _) _
 have HNA:Hid (NB (w.alloc (.cells #[.int .i64 k,.int .u8 s] 51)) w.heap.size k s):=NB.new w k s
 have h5:(k == 5)=false:=by rw [beq_eq_false_iff_ne];rintro rfl;have:=hT.2;simp [arity] at this
 have h6:(k == 6)=false:=by rw [beq_eq_false_iff_ne];rintro rfl;have:=hT.2;simp [arity] at this
 have h7:(k == 7)=false:=by rw [beq_eq_false_iff_ne];rintro rfl;have:=hT.2;simp [arity] at this
 have h8:(k == 8)=false:=by rw [beq_eq_false_iff_ne];rintro rfl;have:=hT.2;simp [arity] at this
 have h9:(k == 9)=false:=by rw [beq_eq_false_iff_ne];rintro rfl;have:=hT.2;simp [arity] at this
 clear hrd hT hc hl hf
 go_enter Tryz.func26,Tryz.ntmps26
 go_wp2_with fail
 generalize w.alloc (.cells #[.int .i64 k,.int .u8 s] 51)=wA at HBA HNA ⊢
 refine (cutW_any 0 wA _ (Tr.zero (k,s)).flat _ (Below.refl _ _) (NL.zero (HV.out.stay HBA.out)) (by simp [Tr.flat]) (Tr.ok_free _ HT.out) HK.out).mono ?_
 rintro e w1 ⟨u,rfl,hp1,hb1⟩
 rw [cut_flat_zero HT.out] at hp1
 obtain ⟨ua,uc,rfl,_⟩:=hp1
 have HB1:Hid (Below w.heap.size w w1):=go_on HBA.out hb1
 have d0:=((HNA.out.keep hb1).keep (wNE_below w1)).fst
 have d1:=((HNA.out.keep hb1).keep (wNE_below w1)).snd
 have HNN:Hid (NO w.heap.size (wNE w1) (.slice (some ⟨w1.heap.size,0,none⟩) 1 1) tNone):=wNE_none w1 HB1.out.size
 have HNE:Hid (NO w.heap.size (wNE w1) (.slice (some ⟨w1.heap.size+1,0,none⟩) 1 1) tEmpty):=wNE_empty w1 HB1.out.size
 have HBE:Hid (Below w.heap.size w (wNE w1)):=go_on HB1.out (wNE_below w1)
 unfold wNE at d0 d1
 clear hb1 c1 c2
 by_cases h3 : k = 3
 ·subst h3
  by_cases hs : s = c
  ·subst hs
   have HD:Hid (drv s (.zero (3,s))=tEmpty):=by show _=_;rw [drv,if_pos (.inr ⟨rfl,rfl⟩)]
   go_wp2_with fail
   go_ret2
   exact .inr ⟨HF.out,_,rfl,by rw [HD.out];exact HNE.out,HBE.out⟩
  ·have HD:Hid (drv c (.zero (3,s))=tNone):=by show _=_;rw [drv,if_neg (by rintro (h | ⟨_,h⟩);exact absurd (show (3:Int)=4 from h) (by decide);exact hs h)]
   have hsb:(s == c)=false:=by rw [beq_eq_false_iff_ne];exact hs
   clear hs
   go_wp2_with fail
   go_ret2
   exact .inr ⟨HF.out,_,rfl,by rw [HD.out];exact HNN.out,HBE.out⟩
 ·have h3b:(k == 3)=false:=by rw [beq_eq_false_iff_ne];exact h3
  by_cases h4 : k = 4
  ·subst h4
   have HD:Hid (drv c (.zero (4,s))=tEmpty):=by show _=_;rw [drv,if_pos (.inl rfl)]
   go_wp2_with fail
   go_ret2
   exact .inr ⟨HF.out,_,rfl,by rw [HD.out];exact HNE.out,HBE.out⟩
  ·have h4b:(k == 4)=false:=by rw [beq_eq_false_iff_ne];exact h4
   have HD:Hid (drv c (.zero (k,s))=tNone):=by show _=_;rw [drv,if_neg (by rintro (h | ⟨h,_⟩);exact h4 h;exact h3 h)]
   clear h3 h4
   go_wp2_with fail
   go_ret2
   exact .inr ⟨HF.out,_,rfl,by rw [HD.out];exact HNN.out,HBE.out⟩

set_option maxHeartbeats 4000000 in
set_option maxRecDepth 100000 in
theorem step_one (c:Int) (n:Nd) (A:Tr) (hT:(Tr.one n A).ok) (hN:NF (.one n A)) (iA:Sc c A):Sc c (.one n A):=by
 intro a cap w hv hc hl
 have hen:=good_one hT.1 hT.2.1
 have hdo:=drv_ok c hT.2.2 hN.1
 have hlen:(Tr.one n A).flat.length=A.flat.length+1:=by simp [Tr.flat]
 have HT:Hid ((Tr.one n A).ok∧NF (.one n A)):=⟨hT,hN⟩
 have HV:Hid (NReads w (.slice a (Tr.one n A).flat.length cap) (Tr.one n A).flat):=hv
 have HK:Hid (Cap (.slice a (Tr.one n A).flat.length cap)):=fun a' n' c' e=>by cases e;exact hc
 obtain ⟨av,cv,e,hrd⟩:=hv
 obtain ⟨g,o,rfl,hg,c1,c2⟩:=hrd ((Tr.one n A).flat.length - 1) (by omega)
 cases e
 rw [uflat_last] at c1 c2
 obtain ⟨m,hm⟩:∃ m,(Tr.one n A).flat.length - 1=m:=⟨_,rfl⟩
 rw [hm] at c1 c2
 obtain ⟨N,hN'⟩:∃ N,(Tr.one n A).flat.length=N:=⟨_,rfl⟩
 have hmI:(N:Int) - 1=m:=by omega
 have hmN:(m:Int)<N:=by omega
 have HN4:Hid ((Tr.one n A).flat.length≤9000):=by show _≤_;omega
 have HN40:Hid ((Tr.one n A).flat.length≤4000):=by show _≤_;omega
 have hA4:A.flat.length≤4000:=by omega
 have hN4:N≤4000:=by omega
 rw [hN'] at HV HK ⊢
 have hk89:=ar1 hT.2.1
 obtain ⟨k,s⟩:=n
 have hs0:s=0:=by have:=congrArg Prod.snd hen;exact this
 subst hs0
 have hc0:(Tr.one (k,0) A).root=(k,0):=rfl
 rw [hc0] at c1 c2
 simp only at c1 c2 hk89
 have HIA:Hid (∀ a cap w,NReads w (.slice a A.flat.length cap) A.flat→A.flat.length≤cap→Calls Tryz.prog 26 #[.slice a A.flat.length cap,.int .u8 c] w (SJ (fit c A) (drv c A) w)):=fun a c' w h1 h2=>iA a c' w h1 h2 hA4
 have HBA:Hid (Below w.heap.size w (w.alloc (.cells #[.int .i64 k,.int .u8 0] 51))):=(Below.refl _ _).alloc (Nat.le_refl _) _
 have HNA:Hid (NB (w.alloc (.cells #[.int .i64 k,.int .u8 0] 51)) w.heap.size k 0):=NB.new w k 0
 have HDO:Hid ((drv c A).ok∧NF (drv c A)):=hdo
 clear hrd hT hc hl iA hen hlen hm hc0 hN hdo
 rcases hk89 with rfl | rfl
 ·have HD:Hid (drv c (.one (8,0) A)=RC (drv c A) (.one (8,0) A)):=by show _=_;rw [drv,if_pos rfl]
  have HF:Hid (fit c (.one (8,0) A)↔fit c A∧(RC (drv c A) (.one (8,0) A)).flat.length≤4000):=by show _↔_;rw [fit,HD.out]
  rw [HD.out]
  go_enter Tryz.func26,Tryz.ntmps26
  go_wp2_with fail
  generalize w.alloc (.cells #[.int .i64 8,.int .u8 0] 51)=wA at HBA HNA ⊢
  refine (cutW_any 0 wA _ (Tr.one (8,0) A).flat _ (Below.refl _ _) (NL.zero (HV.out.stay HBA.out)) HN4.out (Tr.ok_free _ HT.out.1) HK.out).mono ?_
  rintro e w1 ⟨u,rfl,hp1,hb1⟩
  rw [cut_flat_one HT.out.1] at hp1
  obtain ⟨ua,uc,rfl,hpi⟩:=hp1
  obtain ⟨lg,lo,a0,c0,rfl,hlg,hl0,hu0,hk0⟩:=hpi 0 (by simp)
  rw [Nat.add_zero] at hl0
  simp only [List.getD_cons_zero] at hl0 hu0 hk0
  have HU0:Hid (NReads (wNE w1) (.slice a0 A.flat.length c0) A.flat):=(hu0.1.stay hb1).stay (wNE_below w1)
  have HK0:Hid (A.flat.length≤c0):=hk0
  have HB1:Hid (Below w.heap.size w (wNE w1)):=go_on (go_on HBA.out hb1) (wNE_below w1)
  have d0:=((HNA.out.keep hb1).keep (wNE_below w1)).fst
  have hl1:(wNE w1).cell? ⟨lg,lo,none⟩=some (.slice a0 A.flat.length c0):=by rw [below_cell (wNE_below w1) (by have:=hb1.size;omega)];exact hl0
  unfold wNE at d0 hl1
  clear hb1 c1 c2 hpi hu0 hk0 hl0
  go_wp2_with fail
  refine (HIA.out _ _ _ HU0.out HK0.out).mono ?_
  rintro e w2 hq
  rcases hq with ⟨hnf,u2,rfl,hb2⟩ | ⟨hf,u2,rfl,hn2,hb2⟩
  ·have HNF:Hid (¬ fit c A):=hnf
   have HB2:Hid (Below w.heap.size w w2):=go_on HB1.out hb2
   clear hnf hb2 d0 hl1
   go_wp2_with fail
   go_ret2
   exact .inl ⟨fun h=>HNF.out (HF.out.1 h).1,_,rfl,HB2.out⟩
  ·have HFA:Hid (fit c A):=hf
   have HB2:Hid (Below w.heap.size w w2):=go_on HB1.out hb2
   have hLA:=fit_len c hf
   obtain ⟨ra,rc,rfl⟩:=own_one hn2
   have HR2:Hid (NReads w2 (.slice ra (drv c A).flat.length rc) (drv c A).flat):=hn2.reads
   have HRC:Hid (Cap (.slice ra (drv c A).flat.length rc)):=fun a' n' c' e=>by cases e;exact own_cap hn2
   have hL3:(RC (drv c A) (.one (8,0) A)).flat.length≤9000:=by
    have:=RC_len (drv c A) (.one (8,0) A)
    have:=HN40.out
    omega
   have HL:Hid ((drv c A).flat.length+(Tr.one (8,0) A).flat.length≤8990):=by show _≤_;have:=HN40.out;omega
   clear hf hb2 hn2 d0 hl1
   go_wp2_with fail
   refine (behind_any HDO.out.1 HDO.out.2 (.one (8,0) A) _ _ _ HT.out.1 HT.out.2 HR2.out (HV.out.stay HB2.out) HRC.out HK.out HL.out).mono ?_
   rintro e w3 ⟨z,rfl,ho3,hb3⟩
   obtain ⟨za,zc,rfl⟩:=own_one ho3
   have HO3:Hid (NO w.heap.size w3 (.slice za (RC (drv c A) (.one (8,0) A)).flat.length zc) (RC (drv c A) (.one (8,0) A))):=own_mono ho3 HB2.out.size
   have HB3:Hid (Below w.heap.size w w3):=go_on HB2.out hb3
   clear ho3 hb3
   by_cases hz:(RC (drv c A) (.one (8,0) A)).flat.length≤4000
   ·have HZ:Hid ((RC (drv c A) (.one (8,0) A)).flat.length≤4000):=hz
    have HFT:Hid (∀ w9,Calls Tryz.prog 44 #[.slice za (RC (drv c A) (.one (8,0) A)).flat.length zc] w9 fun e w'=>e=.returned (.bool true)∧w'=w9):=fun w9=>by have:=rfits7_any za _ zc w9 hL3;rw [decide_eq_true hz] at this;exact this
    clear hz
    go_wp2_with fail
    refine (HFT.out _).mono ?_
    rintro e w4 ⟨rfl,rfl⟩
    go_wp2_with fail
    go_ret2
    exact .inr ⟨HF.out.2 ⟨HFA.out,HZ.out⟩,_,rfl,HO3.out,HB3.out⟩
   ·have HZ:Hid (¬ (RC (drv c A) (.one (8,0) A)).flat.length≤4000):=hz
    have HFT:Hid (∀ w9,Calls Tryz.prog 44 #[.slice za (RC (drv c A) (.one (8,0) A)).flat.length zc] w9 fun e w'=>e=.returned (.bool false)∧w'=w9):=fun w9=>by have:=rfits7_any za _ zc w9 hL3;rw [decide_eq_false hz] at this;exact this
    clear hz
    go_wp2_with fail
    refine (HFT.out _).mono ?_
    rintro e w4 ⟨rfl,rfl⟩
    go_wp2_with fail
    go_ret2
    exact .inl ⟨fun h=>HZ.out (HF.out.1 h).2,_,rfl,HB3.out⟩
 ·have HD:Hid (drv c (.one (9,0) A)=RN (drv c A)):=by show _=_;rw [drv,if_neg (by decide)]
  have HF:Hid (fit c (.one (9,0) A)↔fit c A∧(RN (drv c A)).flat.length≤4000):=by show _↔_;rw [fit,HD.out]
  rw [HD.out]
  go_enter Tryz.func26,Tryz.ntmps26
  go_wp2_with fail
  generalize w.alloc (.cells #[.int .i64 9,.int .u8 0] 51)=wA at HBA HNA ⊢
  refine (cutW_any 0 wA _ (Tr.one (9,0) A).flat _ (Below.refl _ _) (NL.zero (HV.out.stay HBA.out)) HN4.out (Tr.ok_free _ HT.out.1) HK.out).mono ?_
  rintro e w1 ⟨u,rfl,hp1,hb1⟩
  rw [cut_flat_one HT.out.1] at hp1
  obtain ⟨ua,uc,rfl,hpi⟩:=hp1
  obtain ⟨lg,lo,a0,c0,rfl,hlg,hl0,hu0,hk0⟩:=hpi 0 (by simp)
  rw [Nat.add_zero] at hl0
  simp only [List.getD_cons_zero] at hl0 hu0 hk0
  have HU0:Hid (NReads (wNE w1) (.slice a0 A.flat.length c0) A.flat):=(hu0.1.stay hb1).stay (wNE_below w1)
  have HK0:Hid (A.flat.length≤c0):=hk0
  have HB1:Hid (Below w.heap.size w (wNE w1)):=go_on (go_on HBA.out hb1) (wNE_below w1)
  have d0:=((HNA.out.keep hb1).keep (wNE_below w1)).fst
  have hl1:(wNE w1).cell? ⟨lg,lo,none⟩=some (.slice a0 A.flat.length c0):=by rw [below_cell (wNE_below w1) (by have:=hb1.size;omega)];exact hl0
  unfold wNE at d0 hl1
  clear hb1 c1 c2 hpi hu0 hk0 hl0
  go_wp2_with fail
  refine (HIA.out _ _ _ HU0.out HK0.out).mono ?_
  rintro e w2 hq
  rcases hq with ⟨hnf,u2,rfl,hb2⟩ | ⟨hf,u2,rfl,hn2,hb2⟩
  ·have HNF:Hid (¬ fit c A):=hnf
   have HB2:Hid (Below w.heap.size w w2):=go_on HB1.out hb2
   clear hnf hb2 d0 hl1
   go_wp2_with fail
   go_ret2
   exact .inl ⟨fun h=>HNF.out (HF.out.1 h).1,_,rfl,HB2.out⟩
  ·have HFA:Hid (fit c A):=hf
   have HB2:Hid (Below w.heap.size w w2):=go_on HB1.out hb2
   have hLA:=fit_len c hf
   obtain ⟨ra,rc,rfl⟩:=own_one hn2
   have HR2:Hid (NReads w2 (.slice ra (drv c A).flat.length rc) (drv c A).flat):=hn2.reads
   have HRC:Hid (Cap (.slice ra (drv c A).flat.length rc)):=fun a' n' c' e=>by cases e;exact own_cap hn2
   have hL3:(RN (drv c A)).flat.length≤9000:=by
    have:=RN_len (drv c A)
    omega
   have HL:Hid ((drv c A).flat.length+(Tr.one (9,0) A).flat.length≤8990):=by show _≤_;have:=HN40.out;omega
   clear hf hb2 hn2 d0 hl1
   go_wp2_with fail
   refine (other_any (drv c A) HDO.out.1 _ _ HR2.out (by have:=HL.out;omega) HRC.out).mono ?_
   rintro e w3 ⟨z,rfl,ho3,hb3⟩
   obtain ⟨za,zc,rfl⟩:=own_one ho3
   have HO3:Hid (NO w.heap.size w3 (.slice za (RN (drv c A)).flat.length zc) (RN (drv c A))):=own_mono ho3 HB2.out.size
   have HB3:Hid (Below w.heap.size w w3):=go_on HB2.out hb3
   clear ho3 hb3
   by_cases hz : (RN (drv c A)).flat.length ≤ 4000
   ·have HZ:Hid ((RN (drv c A)).flat.length≤4000):=hz
    have HFT:Hid (∀ w9,Calls Tryz.prog 44 #[.slice za (RN (drv c A)).flat.length zc] w9 fun e w'=>e=.returned (.bool true)∧w'=w9):=fun w9=>by have:=rfits7_any za _ zc w9 hL3;rw [decide_eq_true hz] at this;exact this
    clear hz
    go_wp2_with fail
    refine (HFT.out _).mono ?_
    rintro e w4 ⟨rfl,rfl⟩
    go_wp2_with fail
    go_ret2
    exact .inr ⟨HF.out.2 ⟨HFA.out,HZ.out⟩,_,rfl,HO3.out,HB3.out⟩
   ·have HZ:Hid (¬ (RN (drv c A)).flat.length≤4000):=hz
    have HFT:Hid (∀ w9,Calls Tryz.prog 44 #[.slice za (RN (drv c A)).flat.length zc] w9 fun e w'=>e=.returned (.bool false)∧w'=w9):=fun w9=>by have:=rfits7_any za _ zc w9 hL3;rw [decide_eq_false hz] at this;exact this
    clear hz
    go_wp2_with fail
    refine (HFT.out _).mono ?_
    rintro e w4 ⟨rfl,rfl⟩
    go_wp2_with fail
    go_ret2
    exact .inl ⟨fun h=>HZ.out (HF.out.1 h).2,_,rfl,HB3.out⟩
end Go.Proofs.YtfdhaknecjcjoaaGreatDoor
