/- Contract of deriv's way: the steps to a derivative, in memory. -/
import Derived.Test.YtfdhaknecjcjoaaGreatDoorPE
import Derived.Test.YtfdhaknecjcjoaaGreatDoorPZ
import Derived.Test.YtfdhaknecjcjoaaGreatDoorPA
import Derived.Test.YtfdhaknecjcjoaaGreatDoorPNb
import Derived.Deep.RegionHeld3
import Derived.RangeFuncBox
namespace Go.Proofs.YtfdhaknecjcjoaaGreatDoor
open Go Go.RowKit
set_option linter.unusedVariables false

theorem Tryz.info_step:(Tryz.prog.info? 79).map (fun i=>(i.zero,i.size,i.bytes))=some (some (.agg #[.int .i64 0,.slice none 0 0]),2,32):=by kernel_rfl
/-- Steps: a root, and the list of named roots. -/
abbrev Stp:=Nat × Value
def stC : List Stp → List Value
 | []=>[]
 | x :: l=>.int .i64 (x.1:Int) :: x.2 :: stC l
theorem stC_append (a b:List Stp):stC (a ++ b)=stC a ++ stC b:=by
 induction a with
 | nil=>rfl
 | cons n a ih=>simp [stC,ih]
theorem stC_at (ts:List Stp) (i:Nat) (x:Stp) (h:ts[i]?=some x):(stC ts)[i * 2]?=some (.int .i64 (x.1:Int))∧(stC ts)[i * 2+1]?=some x.2:=by
 induction ts generalizing i with
 | nil=>simp at h
 | cons n ts ih =>
  cases i with
  | zero=>simp at h;subst h;exact ⟨rfl,rfl⟩
  | succ i =>
   have:=ih i (by simpa using h)
   rw [show (i + 1) * 2 = i * 2 + 1 + 1 by omega]
   simp only [stC,List.getElem?_cons_succ]
   exact this
/-- A row stays where a block of another type is written. -/
theorem own_apart2 {w w':World} {base base':Nat} {e e':TypeId} {size size' n n':Nat} {u v:Value} {xs ys:List Value} (h:w.ownsRow base e size u n xs) (hg:w.grownBy w' v.ownBlock) (hv:w.ownsRow base' e' size' v n' ys) (hne:e≠e'):w'.ownsRow base e size u n xs:=by
 refine h.kept hg ?_
 rcases h.2 with ⟨rfl,_⟩ | ⟨g,cap,cur,rfl,_,hgg,_⟩
 ·exact .inl rfl
 ·right
  rcases hv.2 with ⟨rfl,_⟩ | ⟨g',cap',cur',rfl,_,hgg',_⟩
  ·simp [Value.ownBlock]
  ·intro e1
   simp only [Value.ownBlock,Option.some.injEq] at e1
   subst e1
   rw [hgg] at hgg'
   simp only [Option.some.injEq,Obj.cells.injEq] at hgg'
   exact hne hgg'.2.1
theorem own_one {w:World} {base:Nat} {e:TypeId} {size n:Nat} {u:Value} {xs:List Value} (h:w.ownsRow base e size u n xs):∃ a c,u=.slice a n c:=by
 rcases h.2 with ⟨rfl,rfl⟩ | ⟨g,cap,cur,rfl,_⟩
 ·exact ⟨_,_,rfl⟩
 ·exact ⟨_,_,rfl⟩
theorem own_cap {w:World} {base:Nat} {e:TypeId} {size n c:Nat} {a:Option Addr} {xs:List Value} (h:w.ownsRow base e size (.slice a n c) n xs):n≤c:=by
 rcases h.2 with ⟨h1,rfl⟩ | ⟨g,cap,cur,h1,_,_,h2,_⟩
 ·exact Nat.zero_le _
 ·simp only [Value.slice.injEq] at h1
  omega
/-- What named answers. -/
def NmQ (q:Nat × Tr) (w:World) (e:Ending) (w':World):Prop:=∃ u,e=.returned u∧w'.ownsRow w.heap.size 3 1 u (kids q).length (nC ((kids q).map rt))∧Below w.heap.size w w'
/-- The steps of a list of trees. -/
structure StR (w : World) (base : Nat) (S : List Stp) (Q : List (Nat × Tr)) : Prop where
 len : S.length = Q.length
 at_:∀ (j:Nat) (q:Nat × Tr),Q[j]?=some q→∃ u,S[j]?=some (rt q,u)∧w.ownsRow base 3 1 u (kids q).length (nC ((kids q).map rt))
theorem StR.nil (w:World) (base:Nat):StR w base [] []:=⟨rfl,fun j q h=>by simp at h⟩
theorem StR.below {w w' : World} {base : Nat} {S : List Stp} {Q : List (Nat × Tr)} (h : StR w base S Q) (hb : Below w.heap.size w w') : StR w' base S Q :=
 ⟨h.len,fun j q hq=>by obtain ⟨u,h1,h2⟩:=h.at_ j q hq;exact ⟨u,h1,own_below h2 hb⟩⟩
theorem StR.grown {w w' : World} {base base' : Nat} {S : List Stp} {Q : List (Nat × Tr)} (h : StR w base S Q) {v : Value} {n : Nat} {ys : List Value} (hg : w.grownBy w' v.ownBlock) (hv : w.ownsRow base' 79 2 v n ys) : StR w' base S Q :=
 ⟨h.len,fun j q hq=>by obtain ⟨u,h1,h2⟩:=h.at_ j q hq;exact ⟨u,h1,own_apart2 h2 hg hv (by decide)⟩⟩
theorem StR.snoc {w:World} {base:Nat} {S:List Stp} {Q:List (Nat × Tr)} (h:StR w base S Q) {q:Nat × Tr} {u:Value} (hu:w.ownsRow base 3 1 u (kids q).length (nC ((kids q).map rt))):StR w base (S ++ [(rt q,u)]) (Q ++ [q]):=by
 refine ⟨by simp [h.len],fun j q' hq=>?_⟩
 by_cases c : j < Q.length
 ·rw [List.getElem?_append_left c] at hq
  rw [List.getElem?_append_left (by rw [h.len];exact c)]
  exact h.at_ j q' hq
 ·rw [List.getElem?_append_right (by omega)] at hq
  have hj:j - Q.length=0:=by
   by_cases c2 : j - Q.length = 0
   ·exact c2
   ·rw [List.getElem?_eq_none (by show 1≤_;omega)] at hq;cases hq
  rw [hj] at hq
  simp only [List.getElem?_cons_zero,Option.some.injEq] at hq
  subst hq
  rw [List.getElem?_append_right (by rw [h.len];omega),h.len,hj]
  exact ⟨u,rfl,hu⟩
theorem StR.one {w:World} {base:Nat} {S:List Stp} {Q:List (Nat × Tr)} (h:StR w base S Q):∀ u ∈ stC S,u.oneCell'=true:=by
 have key:∀ (S:List Stp),(∀ x ∈ S,x.2.oneCell'=true)→∀ u ∈ stC S,u.oneCell'=true:=by
  intro S
  induction S with
  | nil=>intro _ u hu;simp [stC] at hu
  | cons x S ih =>
   intro hx u hu
   simp only [stC,List.mem_cons] at hu
   rcases hu with rfl | rfl | hu
   ·rfl
   ·exact hx x (by simp)
   ·exact ih (fun y hy=>hx y (by simp [hy])) u hu
 refine key S fun x hx=>?_
 obtain ⟨i,hi,rfl⟩:=List.mem_iff_getElem.1 hx
 obtain ⟨u,h1,h2⟩:=h.at_ i (Q[i]'(by rw [← h.len];exact hi)) (List.getElem?_eq_getElem _)
 rw [List.getElem?_eq_getElem hi] at h1
 rw [Option.some.inj h1]
 obtain ⟨a,c,rfl⟩:=own_one h2
 rfl

/-- A box of two cells, just behind what was there. -/
abbrev FB (w:World) (v0 v1:Value) (w':World):Prop:=w'.cell? ⟨w.heap.size,0,none⟩=some v0∧w'.cell? ⟨w.heap.size,1,none⟩=some v1∧w.heap.size<w'.heap.size∧Below w.heap.size w w'
theorem fb_step {w:World} {v0 v1:Value} {w1 w2:World} (hb:Below w1.heap.size w1 w2) (h:FB w v0 v1 w1):FB w v0 v1 w2:=by
 have hs:=hb.size
 have hp:=h.2.2.1
 exact ⟨by rw [below_cell hb hp];exact h.1,by rw [below_cell hb hp];exact h.2.1,by omega,go_on h.2.2.2 hb⟩
theorem fb_alloc {w:World} {v0 v1:Value} {w1:World} (o:Obj) (h:FB w v0 v1 w1):FB w v0 v1 (w1.alloc o):=fb_step ((Below.refl _ _).alloc (Nat.le_refl _) o) h
theorem fb_grown {w:World} {v0 v1:Value} {w1 w2:World} {row:Option Nat} (hg:w1.grownBy w2 row) (h:FB w v0 v1 w1) (hr:∀ b,row=some b→w.heap.size+1≤b):FB w v0 v1 w2:=by
 have hp:=h.2.2.1
 have hbk:=hg.block w.heap.size hp (fun e=>by have:=hr _ e.symm;omega)
 exact ⟨by rw [World.cell?_of_block (a:=⟨w.heap.size,0,none⟩) hbk];exact h.1,by rw [World.cell?_of_block (a:=⟨w.heap.size,1,none⟩) hbk];exact h.2.1,Nat.lt_of_lt_of_le hp hg.size,h.2.2.2.grown hg (by omega) (fun b hb=>by have:=hr b hb;omega)⟩
theorem fb_new (w:World) (v0 v1:Value) (t:TypeId):FB w v0 v1 (w.alloc (.cells #[v0,v1] t)):=by
 refine ⟨?_,?_,by simp,(Below.refl _ _).alloc (Nat.le_refl _) _⟩ <;> (unfold World.cell?;rw [heap_alloc_new];rfl)

set_option maxHeartbeats 4000000 in
set_option maxRecDepth 100000 in
theorem way_any {w:World} {T:Tr} {a:Option Addr} {cap gb:Nat} (h:DForm w T a cap gb) (C:Tr→Prop) (hC:C T) (hCk:∀ q:Nat × Tr,C q.2→∀ y ∈ kids q,C y.2)
  (hNM:∀ w1 (q:Nat × Tr),Below w.heap.size w w1→Sit T.flat (T.bg 0) q.1 q.2→q.2.ok→C q.2→Calls Tryz.prog 56 #[dfV T a cap gb,.int .i64 (rt q:Nat)] w1 (NmQ q w1)) :
  Calls Tryz.prog 38 #[dfV T a cap gb] w fun e w'=>∃ vo Q S,e=.returned vo∧Way T Q Q.length∧StR w' w.heap.size S Q∧w'.ownsRow w.heap.size 79 2 vo S.length (stC S)∧Below w.heap.size w w'∧∀ q ∈ Q,C q.2:=by
 have hlen:=h.len
 have hpos:=flat_pos T
 have H1:Hid (∀ w1,Below w.heap.size w w1→Calls Tryz.prog 56 #[dfV T a cap gb,.int .i64 ((T.flat.length - 1:Nat):Int)] w1 (NmQ (0,T) w1)):=fun w1 hb=>by
  have:=hNM w1 (0,T) hb (sit_self T) h.ok hC
  simp only [rt,Nat.zero_add] at this
  exact this
 have HNM:Hid _:=hNM
 have HCK:Hid _:=hCk
 have HC:Hid (C T):=hC
 have HW0:Hid (Way T [(0,T)] 0):=way_start h.ok
 unfold dfV at H1 HNM ⊢
 clear hNM hCk hC h
 obtain ⟨n,hn⟩:∃ n,T.flat.length=n:=⟨_,rfl⟩
 have HN:Hid (T.flat.length=n):=hn
 rw [hn] at hlen hpos H1 HNM ⊢
 clear hn
 have HI:Hid (IntKind.i64.wrap ((n:Int) - 1)=((n - 1:Nat):Int)):=by show _=_;rw [IntKind.wrap_i64];omega
 have hI:=HI.out
 obtain ⟨i0,hi,hz0,hz1,hz2⟩:=info_parts Tryz.info_step
 have HBA:Hid (∀ O,Below w.heap.size w (w.alloc O)):=fun O=>(Below.refl _ _).alloc (Nat.le_refl _) _
 go_enter Tryz.func38,Tryz.ntmps38
 go_wp2_with fail
 refine (H1.out _ (HBA.out _)).mono ?_
 rintro e w1 ⟨u,rfl,hou,hb1⟩
 obtain ⟨ua,uc,rfl⟩:=own_one hou
 have hF1:FB w (.slice a n cap) (.slice (some ⟨gb,0,none⟩) n n) w1:=fb_step hb1 (fb_new w _ _ _)
 have HF1:Hid _:=hF1
 have HOU:Hid _:=own_mono (base':=w.heap.size+1) hou (by simp)
 clear hou hb1 H1 hI
 go_wp2_with fail
 clear hF1
 have HS0:Hid (StR (w1.alloc (.cells #[.int .i64 ((n - 1:Nat):Int),.slice ua (kids (0,T)).length uc] 79)) (w.heap.size+1) [(rt (0,T),.slice ua (kids (0,T)).length uc)] [(0,T)]):=by
  have:=(StR.nil w1 (w.heap.size+1)).snoc HOU.out
  exact this.below ((Below.refl _ _).alloc (Nat.le_refl _) _)
 have HR0:Hid (rt (0,T)=n - 1):=by show _=_;simp [rt,HN.out]
 go_loopw [4,5] (fun vo vi wr=>∃ (Q:List (Nat × Tr)) (S:List Stp) (i g c2:Nat),vo=.slice (some ⟨g,0,none⟩) S.length c2∧vi=.int .i64 i∧Way T Q i∧StR wr (w.heap.size+1) S Q∧wr.ownsRow (w.heap.size+1) 79 2 (.slice (some ⟨g,0,none⟩) S.length c2) S.length (stC S)∧FB w (.slice a n cap) (.slice (some ⟨gb,0,none⟩) n n) wr∧(∀ q ∈ Q,C q.2)) (fun _ vi _=>n - (intOf vi).toNat)
 case atStart =>
  refine ⟨[(0,T)],[(rt (0,T),.slice ua (kids (0,T)).length uc)],0,w1.heap.size,1,rfl,rfl,HW0.out,HS0.out,?_,fb_alloc _ HF1.out,fun q hq=>by simp only [List.mem_singleton] at hq;subst hq;exact HC.out⟩
  rw [HR0.out]
  exact ⟨rfl,.inr ⟨w1.heap.size,1,_,rfl,HF1.out.2.2.1,heap_alloc_new w1 _,Nat.le_refl _,by decide,rfl,rfl⟩⟩
 case round =>
  clear HF1 HOU HS0 HR0 HW0
  obtain ⟨Q,S,i,g,c2,rfl,rfl,hway,hst,hown,hfb,hc⟩:=hrel
  have HWAY:Hid (Way T Q i):=hway
  have HSZ:Hid (Q.length≤n):=by show _≤_;rw [← HN.out];exact hway.size
  have HLE:Hid (i≤Q.length):=hway.le
  have HLN:Hid (S.length=Q.length):=hst.len
  by_cases hlt : i < Q.length
  ·have HLT:Hid (i<Q.length):=hlt
   obtain ⟨q,hq⟩:∃ q,Q[i]?=some q:=⟨_,List.getElem?_eq_getElem hlt⟩
   obtain ⟨u,hS,hu⟩:=hst.at_ i q hq
   obtain ⟨ua,uc,rfl⟩:=own_one hu
   have hsl:i<S.length:=by rw [HLN.out];exact hlt
   have hcell:wr.cell? ⟨g,i * 2+1,none⟩=some (.slice ua (kids q).length uc):=by
    have:=hown.cells (g:=g) rfl (i * 2+1) _ (stC_at S i _ hS).2
    rwa [Addr.add_lit,Nat.zero_add] at this
   have hcell0:wr.cell? ⟨g,i * 2,none⟩=some (.int .i64 (rt q:Nat)):=by
    have:=hown.cells (g:=g) rfl (i * 2) _ (stC_at S i _ hS).1
    rwa [Addr.add_lit,Nat.zero_add] at this
   have hiI:(i:Int)<S.length:=by omega
   have HST:Hid _:=hst
   have HOWN:Hid _:=hown
   have HU:Hid _:=hu
   have HFB:Hid _:=hfb
   have HCQ:Hid (∀ q ∈ Q,C q.2):=hc
   have HQ:Hid (Q[i]?=some q):=hq
   clear hway hst hown hu hfb hc hq hS
   have hcn:S.length≤c2:=own_cap HOWN.out
   go_wp2_with fail
   rename World=>wo
   clear hcell hcell0
   have HK:Hid (∀ j,j<(kids q).length→∃ ug y,ua=some ⟨ug,0,none⟩∧(kids q)[j]?=some y):=by
    intro j hj
    rcases HU.out.2 with ⟨_,h0⟩ | ⟨ug,cap',cur,e,_⟩
    ·omega
    ·simp only [Value.slice.injEq] at e
     exact ⟨ug,_,e.1,List.getElem?_eq_getElem hj⟩
   go_loopw [4,30] (fun vo vj wr=>∃ (S':List Stp) (j g c2:Nat),vo=.slice (some ⟨g,0,none⟩) S'.length c2∧vj=.int .i64 j∧j≤(kids q).length∧StR wr (w.heap.size+1) S' (Q ++ (kids q).take j)∧wr.ownsRow (w.heap.size+1) 79 2 (.slice (some ⟨g,0,none⟩) S'.length c2) S'.length (stC S')∧FB w (.slice a n cap) (.slice (some ⟨gb,0,none⟩) n n) wr∧wr.ownsRow (w.heap.size+1) 3 1 (.slice ua (kids q).length uc) (kids q).length (nC ((kids q).map rt))) (fun _ vj _=>(kids q).length - (intOf vj).toNat)
   case atStart=>exact ⟨S,0,g,c2,rfl,rfl,Nat.zero_le _,by simpa using HST.out,HOWN.out,HFB.out,HU.out⟩
   case round =>
    obtain ⟨S',j,g',c',rfl,rfl,hj,hst,hown,hfb,hu⟩:=hrel
    have HST':Hid _:=hst
    have HOWN':Hid _:=hown
    have HFB':Hid _:=hfb
    have HU':Hid _:=hu
    have HJ:Hid (j≤(kids q).length):=hj
    by_cases hjlt : j < (kids q).length
    ·obtain ⟨ug,y,e,hy⟩:=HK.out j hjlt
     subst e
     have hyc:wr.cell? ⟨ug,j,none⟩=some (.int .i64 (rt y:Nat)):=by
      have:=hu.cells (g:=ug) rfl j (.int .i64 (rt y:Nat)) (by simp [nC,hy])
      rwa [Addr.add_lit,Nat.zero_add] at this
     have HY:Hid ((kids q)[j]?=some y):=hy
     have hsy:=kids_sit (HWAY.out.sit q (List.mem_of_getElem? HQ.out)).1 (HWAY.out.sit q (List.mem_of_getElem? HQ.out)).2 y (List.mem_of_getElem? hy)
     have HCN:Hid (∀ w1,Below w.heap.size w w1→Calls Tryz.prog 56 #[.agg #[.slice a n cap,.slice (some ⟨gb,0,none⟩) n n],.int .i64 (rt y:Nat)] w1 (NmQ y w1)):=fun w1 hb =>
      HNM.out w1 y hb hsy.1 hsy.2 (HCK.out q (HCQ.out q (List.mem_of_getElem? HQ.out)) y (List.mem_of_getElem? hy))
     have hjI:(j:Int)<(kids q).length:=by omega
     have HJL:Hid (j<(kids q).length):=hjlt
     have HKL:Hid ((kids q).length≤4000):=by
      have h2:=(way_step HWAY.out HQ.out).size
      rw [HN.out,List.length_append] at h2
      show _ ≤ _
      omega
     have hkl':(kids q).length≤4000:=HKL.out
     obtain ⟨c0,c1,c2',c3⟩:=hfb
     clear hst hown hu hy hsy
     obtain ⟨R,hR⟩:∃ R,rt y=R:=⟨_,rfl⟩
     have HRY:Hid (rt y=R):=hR
     rw [hR] at hyc HCN
     clear hR
     go_wp2_with fail
     refine (HCN.out _ HFB'.out.2.2.2).mono ?_
     rintro e w2 ⟨v2,rfl,hou2,hb2⟩
     obtain ⟨va,vc,rfl⟩:=own_one hou2
     have HOU2:Hid _:=hou2
     have HB2:Hid _:=hb2
     clear hou2 hb2 c0 c1 c2' c3 hyc HCN
     have HO2:Hid (w2.ownsRow (w.heap.size+1) 79 2 (.slice (some ⟨g',0,none⟩) S'.length c') S'.length (stC S')):=own_below HOWN'.out HB2.out
     have HF2:Hid (FB w (.slice a n cap) (.slice (some ⟨gb,0,none⟩) n n) w2):=fb_step HB2.out HFB'.out
     have HS2:Hid (StR w2 (w.heap.size+1) S' (Q ++ (kids q).take j)):=HST'.out.below HB2.out
     have HU2:Hid (w2.ownsRow (w.heap.size+1) 3 1 (.slice (some ⟨ug,0,none⟩) (kids q).length uc) (kids q).length (nC ((kids q).map rt))):=own_below HU'.out HB2.out
     have HSL:Hid (S'.length≤5000):=by
      have h1:=HST'.out.len
      have h2:=(way_step HWAY.out HQ.out).size
      rw [HN.out,List.length_append] at h2
      rw [List.length_append,List.length_take] at h1
      show _ ≤ _
      omega
     go_wp2_with (at_builtin;refine wpList_append_own _ rfl _ _ 77 rfl (w.heap.size+1) 79 i0 (.agg #[.int .i64 0,.slice none 0 0]) 2 32 Tryz.underlying77 hi hz0 hz1 hz2 rfl (by decide) _ _ _ rfl (HO2.out.alloc _) ⟨w2.heap.size,0,none⟩ 1 1 [.int .i64 (R:Int),.slice va (kids y).length vc] rfl rfl (cell_two_new _ _ _ _) (by intro u hu;simp at hu;rcases hu with rfl | rfl <;> rfl) (by unfold maxLen;have:=HSL.out;omega) (by have:=HSL.out;omega) (by have:=HF2.out.2.2.1;simp;omega) ?_;intro v9 w9 ho9 hg9 _;obtain ⟨g9,c9,rfl⟩:=ownsRow_succ ho9)
     go_roundw
     case rel =>
      have hjl:j<(kids q).length:=HJL.out
      have hkl:(kids q).length≤4000:=HKL.out
      refine ⟨S' ++ [(rt y,.slice va (kids y).length vc)],j+1,g9,c9,by simp,by go_num,hjl,?_,?_,fb_grown hg9 (fb_alloc _ HF2.out) (fun b hb=>(HO2.out.lt b hb).1),own_apart2 (HU2.out.alloc _) hg9 (HO2.out.alloc _) (by decide)⟩
      ·rw [List.take_succ_eq_append_getElem hjl,← List.append_assoc]
       have e1:(kids q)[j]=y:=by have:=HY.out;rw [List.getElem?_eq_getElem hjl] at this;exact Option.some.inj this
       rw [e1]
       have hbw:Below (w2.alloc (.cells #[.int .i64 (R:Int),.slice va (kids y).length vc] 79)).heap.size w2 w2:=Below.refl _ _
       have hsz:w.heap.size+1≤wr.heap.size:=HFB'.out.2.2.1
       exact ((HS2.out.below ((Below.refl _ _).alloc (Nat.le_refl _) _)).grown hg9 (HO2.out.alloc _)).snoc (own_apart2 ((own_mono HOU2.out hsz).alloc _) hg9 (HO2.out.alloc _) (by decide))
      ·rw [stC_append,List.length_append,HRY.out]
       exact ho9
     case measure =>
      have hjl:j<(kids q).length:=HJL.out
      have hkl:(kids q).length≤4000:=HKL.out
      simp [intOf]
      omega
    ·have hjI:¬ (j:Int)<(kids q).length:=by omega
     have HJN:Hid (¬ j<(kids q).length):=hjlt
     have hi4:i<4000:=by have h1:Q.length≤n:=HSZ.out;have h2:i<Q.length:=HLT.out;omega
     clear hst hown hfb hu
     go_wp2_with fail
     go_roundw
     case rel =>
      have hjj:j=(kids q).length:=Nat.le_antisymm HJ.out (Nat.le_of_not_lt HJN.out)
      have h1:=HST'.out
      rw [hjj,List.take_length] at h1
      have h1':Q.length≤n:=HSZ.out
      have h2':i<Q.length:=HLT.out
      refine ⟨Q ++ kids q,S',i+1,g',c',rfl,by go_num,way_step HWAY.out HQ.out,h1,HOWN'.out,HFB'.out,fun z hz=>?_⟩
      rcases List.mem_append.1 hz with hz | hz
      ·exact HCQ.out z hz
      ·exact HCK.out q (HCQ.out q (List.mem_of_getElem? HQ.out)) z hz
     case measure =>
      have h1:Q.length≤n:=HSZ.out
      have h2:i<Q.length:=HLT.out
      simp [intOf]
      omega
  ·have hnI:¬ (i:Int)<S.length:=by have:=HLN.out;omega
   have HNL:Hid (¬ i<Q.length):=hlt
   have HST:Hid _:=hst
   have HOWN:Hid _:=hown
   have HFB:Hid _:=hfb
   have HCQ:Hid (∀ q ∈ Q,C q.2):=hc
   clear hway hst hown hfb hc
   go_wp2_with fail
   go_ret
   have hie:i=Q.length:=Nat.le_antisymm HLE.out (Nat.le_of_not_lt HNL.out)
   refine ⟨_,rfl,Q,by rw [← hie];exact HWAY.out,S,?_,own_mono HOWN.out (by omega),HFB.out.2.2.2,fun a b hab=>HCQ.out (a,b) hab⟩
   exact ⟨HST.out.len,fun j q hq=>by obtain ⟨u,h1,h2⟩:=HST.out.at_ j q hq;exact ⟨u,h1,own_mono h2 (by omega)⟩⟩
end Go.Proofs.YtfdhaknecjcjoaaGreatDoor
