/- Uc Ud, in one text. -/
import Derived.Test.YtfdhaknecjcjoaaGreatDoorPU
import Derived.Test.YtfdhaknecjcjoaaGreatDoorPTl
namespace Go.Proofs.YtfdhaknecjcjoaaGreatDoor
open Go Go.RowKit
set_option linter.unusedVariables false

/-- A list that is read in the memory of W, from a block that is not below lo. -/
def NL (lo:Nat) (W:World) (v:Value) (ts:List Nd):Prop:=NReads W v ts∧∀ a n c,v=.slice (some a) n c→lo≤a.block
theorem NL.zero {W:World} {v:Value} {ts:List Nd} (h:NReads W v ts):NL 0 W v ts:=⟨h,fun _ _ _ _=>Nat.zero_le _⟩
variable {lo : Nat}
/-- Values that are trees' lists, in the memory of W. -/
def Cs (lo:Nat) (W:World) (cs:List Value) (l:List Tr):Prop:=cs.length=l.length∧∀ (i:Nat) (t:Tr),l[i]?=some t→∃ (a:Option Addr) (c:Nat),cs[i]?=some (Value.slice a t.flat.length c)∧NL lo W (.slice a t.flat.length c) t.flat∧t.flat.length≤c
theorem Cs.nil (lo:Nat) (W:World):Cs lo W [] []:=⟨rfl,fun i t h=>by simp at h⟩
theorem Cs.single {W:World} {a:Option Addr} {c:Nat} {t:Tr} (h:NL lo W (.slice a t.flat.length c) t.flat) (hc:t.flat.length≤c):Cs lo W [.slice a t.flat.length c] [t]:=⟨rfl,fun i s hs=>by
 cases i with
 | zero=>simp at hs;subst hs;exact ⟨a,c,rfl,h,hc⟩
 | succ i=>simp at hs⟩
theorem Cs.append {W:World} {cs cs':List Value} {l l':List Tr} (h:Cs lo W cs l) (h':Cs lo W cs' l'):Cs lo W (cs ++ cs') (l ++ l'):=by
 refine ⟨by rw [List.length_append,List.length_append,h.1,h'.1],fun i t hi=>?_⟩
 by_cases hl : i < l.length
 ·rw [List.getElem?_append_left hl] at hi
  rw [List.getElem?_append_left (by rw [h.1];exact hl)]
  exact h.2 i t hi
 ·rw [List.getElem?_append_right (by omega)] at hi
  rw [List.getElem?_append_right (by rw [h.1];omega),h.1]
  exact h'.2 _ t hi
theorem Cs.take {W:World} {cs:List Value} {l:List Tr} (h:Cs lo W cs l) (k:Nat):Cs lo W (cs.take k) (l.take k):=by
 refine ⟨by rw [List.length_take,List.length_take,h.1],fun i t hi=>?_⟩
 rw [List.getElem?_take] at hi ⊢
 split at hi
 ·next hk=>rw [if_pos hk];exact h.2 i t hi
 ·cases hi
theorem Cs.drop {W:World} {cs:List Value} {l:List Tr} (h:Cs lo W cs l) (k:Nat):Cs lo W (cs.drop k) (l.drop k):=by
 refine ⟨by rw [List.length_drop,List.length_drop,h.1],fun i t hi=>?_⟩
 rw [List.getElem?_drop] at hi ⊢
 exact h.2 _ t hi
theorem Cs.one {W:World} {cs:List Value} {l:List Tr} (h:Cs lo W cs l):∀ u ∈ cs,u.oneCell'=true:=by
 intro u hu
 obtain ⟨i,hi,rfl⟩:=List.mem_iff_getElem.1 hu
 obtain ⟨a,c,e,_⟩:=h.2 i (l[i]'(by rw [← h.1];exact hi)) (List.getElem?_eq_getElem _)
 rw [List.getElem?_eq_getElem hi] at e
 rw [Option.some.inj e]
 rfl
/-- A row of trees that is the call's own. -/
def TL (lo:Nat) (W:World) (base:Nat) (w:World) (v:Value) (l:List Tr):Prop:=∃ cs,Cs lo W cs l∧w.ownsRow base 22 1 v l.length cs
/-- A row of trees that is read. -/
def RL (lo:Nat) (W w:World) (v:Value) (l:List Tr):Prop:=∃ cs,Cs lo W cs l∧((v=.slice none 0 0∧l=[])∨∃ ad c,v=.slice (some ad) l.length c∧∀ j u,cs[j]?=some u→w.cell? (ad.add j)=some u)
theorem TL.rl {W:World} {base:Nat} {w:World} {v:Value} {l:List Tr} (h:TL lo W base w v l):RL lo W w v l:=by
 obtain ⟨cs,hc,ho⟩:=h
 refine ⟨cs,hc,?_⟩
 have ho':=ho
 obtain ⟨hl,h⟩:=ho
 rcases h with ⟨rfl,h0⟩ | ⟨g,cap,cur,rfl,_⟩
 ·exact .inl ⟨rfl,List.eq_nil_of_length_eq_zero h0⟩
 ·exact .inr ⟨⟨g,0,none⟩,cap,rfl,ho'.cells rfl⟩
theorem TL.below {W:World} {base:Nat} {w w':World} {v:Value} {l:List Tr} (h:TL lo W base w v l) (hb:Below w.heap.size w w'):TL lo W base w' v l:=by
 obtain ⟨cs,hc,ho⟩:=h
 exact ⟨cs,hc,own_below ho hb⟩
theorem TL.alloc {W:World} {base:Nat} {w:World} {v:Value} {l:List Tr} (h:TL lo W base w v l) (o:Obj):TL lo W base (w.alloc o) v l:=by
 obtain ⟨cs,hc,ho⟩:=h
 exact ⟨cs,hc,ho.alloc o⟩
theorem TL.mono {W:World} {base base':Nat} {w:World} {v:Value} {l:List Tr} (h:TL lo W base w v l) (hb:base'≤base):TL lo W base' w v l:=by
 obtain ⟨cs,hc,ho⟩:=h
 exact ⟨cs,hc,own_mono ho hb⟩
theorem TL.shape {W:World} {base:Nat} {w:World} {v:Value} {l:List Tr} (h:TL lo W base w v l):∃ a c,v=.slice a l.length c:=by
 obtain ⟨cs,hc,ho⟩:=h
 obtain ⟨_,h⟩:=ho
 rcases h with ⟨rfl,h0⟩ | ⟨g,cap,cur,rfl,_⟩
 ·exact ⟨none,0,by rw [h0]⟩
 ·exact ⟨_,_,rfl⟩
theorem tl_nil (lo:Nat) (W:World) (base:Nat) (w:World):TL lo W base w (.slice none 0 0) []:=⟨[],Cs.nil lo W,World.ownsRow_nil _ _ _ _⟩
theorem tl_made (lo:Nat) (W:World) {base:Nat} (y:World) (hb:base≤y.heap.size):TL lo W base (y.alloc (.cells #[] 22)) (.slice (some ⟨y.heap.size,0,none⟩) 0 0) [] :=
 ⟨[],Cs.nil lo W,World.ownsRow_made y #[] 0 hb (by unfold maxLen;omega) rfl⟩
theorem TL.lt {W:World} {base:Nat} {w:World} {v:Value} {l:List Tr} (h:TL lo W base w v l):∀ k,v.ownBlock=some k→base≤k:=by
 obtain ⟨cs,hc,ho⟩:=h
 exact fun k hk=>(ho.lt k hk).1
/-- One tree as a row, just laid. -/
theorem rl_lit {W y:World} {a:Option Addr} {c:Nat} {t:Tr} (h:NL lo W (.slice a t.flat.length c) t.flat) (hc:t.flat.length≤c):RL lo W (y.alloc (.cells #[.slice a t.flat.length c] 22)) (.slice (some ⟨y.heap.size,0,none⟩) 1 1) [t] :=
 ⟨[.slice a t.flat.length c],Cs.single h hc,.inr ⟨⟨y.heap.size,0,none⟩,1,rfl,cell_one_new _ _ _⟩⟩
theorem grown_refl (w:World) (r:Option Nat):w.grownBy w r:=⟨rfl,rfl,rfl,Nat.le_refl _,fun _ _ _=>rfl⟩
theorem Tryz.und_trees:Tryz.prog.underlying 56=some (.slice 22):=Tryz.underlying56

theorem wp_append_t {w:World} {o:Oper} {a:Act} {K:Act→World→Prop} {Q:Exit→Act→World→Prop} (s x:Operand) (ho:o.op=.call { callee:=.builtin .append,args:=#[s,x],argTypes:=#[56,56] })
  (W : World) (base : Nat) (v : Value) (l : List Tr) (hs : a.eval s = v) (hd : TL lo W base w v l) (vx : Value) (l' : List Tr) (hx : a.eval x = vx) (hsrc : RL lo W w vx l') (hlen : l.length + l'.length ≤ 20000) (hbase : base ≤ w.heap.size)
  (h:∀ v' w',TL lo W base w' v' (l ++ l')→w.grownBy w' v.ownBlock→K (a.put o.dst v') w'):o.wp Tryz.prog a w K Q:=by
 obtain ⟨cs,hc,hown⟩:=hd
 obtain ⟨cs',hc',hsrc⟩:=hsrc
 obtain ⟨i0,hi,hz0,hz1,hz2⟩:=info_parts Tryz.info_nodes
 rcases hsrc with ⟨rfl,rfl⟩ | ⟨ad,c,rfl,hcell⟩
 ·have hrun:=run_append_owned_none (P:=Tryz.prog) (w:=w) base 56 o.type 22 i0 1 Tryz.und_trees hi v l.length cs hown
  unfold Oper.wp
  simp [execOp,ho,resolve,invoke,builtin,hs,hx,hrun,Result.andThen]
  exact h v w ⟨cs,by simpa using hc,by simpa using hown⟩ (grown_refl _ _)
 ·exact wp_append_own w s x 56 ho base 22 i0 (.slice none 0 0) 1 24 Tryz.und_trees hi hz0 hz1 hz2 rfl (by decide) v l.length cs hs hown ad l'.length c cs' hx (by rw [hc'.1];omega) hcell hc'.one (by unfold maxLen;omega) (by omega) hbase (fun v' w' h2 h3 _=>h v' w' ⟨cs ++ cs',hc.append hc',by rw [List.length_append];exact h2⟩ h3)
set_option maxHeartbeats 1000000 in
theorem idle_any (k : Int) (hk : k = 5 ∨ k = 6) (T : Tr) (hT : T.ok) (b : Bool) (hb : decide (T = unitK k) = b) (a : Option Addr) (c : Nat) (w : World) (hv : NReads w (.slice a T.flat.length c) T.flat) (hl : T.flat.length ≤ 9000) :
  Calls Tryz.prog 65 #[.int .i64 k,.slice a T.flat.length c] w fun e w'=>e=.returned (.bool b)∧Below w.heap.size w w':=by
 have HV:Hid (NReads w (.slice a T.flat.length c) T.flat):=hv
 have HT:Hid T.ok:=hT
 have HL:Hid (T.flat.length≤9000):=hl
 rcases hk with rfl | rfl
 ·have HB:Hid ((T.root.1 == 1)=b):=by
   show _ = _
   rw [← hb]
   by_cases e : T = tNone
   ·rw [e];rfl
   ·rw [show decide (T=unitK 5)=false by simpa [unitK] using e,beq_eq_false_iff_ne]
    exact fun h=>e ((root_none hT).1 h)
  clear hv hT hb hl
  go_enter Tryz.func65,Tryz.ntmps65
  go_wp2_with fail
  refine (ris_b T _ 1 b _ HV.out HL.out HB.out).mono ?_
  rintro e w1 ⟨rfl,rfl⟩
  go_wp2_with fail
  go_ret
  exact ⟨rfl,Below.refl _ _⟩
 ·have HB:Hid (decide (T=tAll)=b):=hb
  clear hv hT hb hl
  go_enter Tryz.func65,Tryz.ntmps65
  go_wp2_with fail
  refine (risAll_b T HT.out _ b _ HV.out HL.out HB.out).mono ?_
  rintro e w1 ⟨rfl,hb1⟩
  have HB1:Hid _:=hb1
  clear hb1
  go_wp2_with fail
  go_ret
  exact ⟨rfl,HB1.out⟩
def Lc (lo:Nat) (k:Int) (T:Tr):Prop:=∀ (W w:World) (a:Option Addr) (c:Nat),Below W.heap.size W w→NL lo W (.slice a T.flat.length c) T.flat→T.flat.length≤c→T.flat.length≤9000 →
  Calls Tryz.prog 64 #[.int .i64 k,.slice a T.flat.length c] w fun e w'=>∃ u,e=.returned u∧TL lo W w.heap.size w' u (Lst k T)∧Below w.heap.size w w'

set_option maxHeartbeats 2000000 in
theorem listed_leaf (k:Int) (hk:k=5∨k=6) (T:Tr) (hT:T.ok) (hr:T.root.1≠k) (hL:Lst k T=if T=unitK k then [] else [T]):Lc lo k T:=by
 intro W w a c hW hv hc hl
 have HV:Hid (NL lo W (.slice a T.flat.length c) T.flat):=hv
 have HW:Hid (Below W.heap.size W w):=hW
 have HT:Hid T.ok:=hT
 have HC:Hid (T.flat.length≤c):=hc
 have HL:Hid (T.flat.length≤9000):=hl
 have HK:Hid (k=5∨k=6):=hk
 have HR:Hid ((T.root.1 == k)=false):=by show _=_;rw [beq_eq_false_iff_ne];exact hr
 by_cases e : T = unitK k
 ·have HE:Hid (decide (T=unitK k)=true):=by show _=_;simpa using e
  rw [hL,if_pos e]
  clear hv hT hl hc hr hk e hL hW
  go_enter Tryz.func64,Tryz.ntmps64
  go_wp2_with fail
  refine (ris_b T _ k false _ (HV.out.1.stay HW.out) HL.out HR.out).mono ?_
  rintro e w1 ⟨rfl,rfl⟩
  go_wp2_with fail
  refine (idle_any k HK.out T HT.out true HE.out _ _ _ (HV.out.1.stay HW.out) HL.out).mono ?_
  rintro e w1 ⟨rfl,hb1⟩
  have HB1:Hid _:=hb1
  clear hb1
  go_wp2_with fail
  go_ret
  exact ⟨_,rfl,tl_nil _ _ _ _,HB1.out⟩
 ·have HE:Hid (decide (T=unitK k)=false):=by show _=_;simpa using e
  rw [hL,if_neg e]
  clear hv hT hl hc hr hk e hL hW
  go_enter Tryz.func64,Tryz.ntmps64
  go_wp2_with fail
  refine (ris_b T _ k false _ (HV.out.1.stay HW.out) HL.out HR.out).mono ?_
  rintro e w1 ⟨rfl,rfl⟩
  go_wp2_with fail
  refine (idle_any k HK.out T HT.out false HE.out _ _ _ (HV.out.1.stay HW.out) HL.out).mono ?_
  rintro e w1 ⟨rfl,hb1⟩
  have HB1:Hid (Below w.heap.size w w1):=hb1
  clear hb1
  go_wp2_with fail
  go_ret
  exact ⟨_,rfl,⟨[.slice a T.flat.length c],Cs.single HV.out HC.out,World.ownsRow_lit w1 #[.slice a T.flat.length c] 1 HB1.out.size (by unfold maxLen;omega) rfl⟩,HB1.out.alloc HB1.out.size _⟩
end Go.Proofs.YtfdhaknecjcjoaaGreatDoor

namespace Go.Proofs.YtfdhaknecjcjoaaGreatDoor
open Go Go.RowKit
set_option linter.unusedVariables false

variable {lo : Nat}
/-- Lists read in the memory of W, each no longer than its room. -/
def PRW (lo : Nat) (W w : World) (v : Value) (ps : List (List Nd)) : Prop :=
 ∃ a cap,v=.slice a ps.length cap∧∀ i,i<ps.length→∃ g o ua uc,a=some ⟨g,o,none⟩∧g<w.heap.size∧w.cell? ⟨g,o+i,none⟩=some (.slice ua (ps.getD i []).length uc)∧NL lo W (.slice ua (ps.getD i []).length uc) (ps.getD i [])∧(ps.getD i []).length≤uc
theorem prw1 {W w:World} {G:Nat} {a1:Option Addr} {c1:Nat} {p:List Nd} (h:PB w G #[.slice a1 p.length c1]) (h1:NL lo W (.slice a1 p.length c1) p) (k1:p.length≤c1) (c:Nat):PRW lo W w (.slice (some ⟨G,0,none⟩) 1 c) [p]:=by
 refine ⟨some ⟨G,0,none⟩,c,rfl,fun i hi=>?_⟩
 have hi:i<1:=hi
 obtain rfl:i=0:=by omega
 exact ⟨G,0,a1,c1,rfl,h.lt,by rw [h.get];rfl,h1,k1⟩
theorem prw2 {W w:World} {G:Nat} {a1 a2:Option Addr} {c1 c2:Nat} {p q:List Nd} (h:PB w G #[.slice a1 p.length c1,.slice a2 q.length c2]) (h1:NL lo W (.slice a1 p.length c1) p) (h2:NL lo W (.slice a2 q.length c2) q) (k1:p.length≤c1) (k2:q.length≤c2) (c:Nat):PRW lo W w (.slice (some ⟨G,0,none⟩) 2 c) [p,q]:=by
 refine ⟨some ⟨G,0,none⟩,c,rfl,fun i hi=>?_⟩
 have hi:i<2:=hi
 have hc:i=0∨i=1:=by omega
 rcases hc with rfl | rfl
 ·exact ⟨G,0,a1,c1,rfl,h.lt,by rw [h.get];rfl,h1,k1⟩
 ·exact ⟨G,0,a2,c2,rfl,h.lt,by rw [h.get];rfl,h2,k2⟩

set_option maxHeartbeats 4000000 in
set_option maxRecDepth 100000 in
theorem cutW_any (lo:Nat) (W:World) (v:Value) (ts:List Nd) (w:World) (hW:Below W.heap.size W w) (hvW:NL lo W v ts) (h4:ts.length≤9000) (hf:freeN ts=some 1) (hcap:∀ a n c,v=.slice a n c→n≤c) :
  Calls Tryz.prog 42 #[v] w fun e w'=>∃ u,e=.returned u∧PRW lo W w' u (cutL ts)∧Below w.heap.size w w':=by
 have hv:NReads w v ts:=hvW.1.stay hW
 have HVW:Hid (NReads W v ts):=hvW.1
 have HLO:Hid (∀ a n c,v=.slice (some a) n c→lo≤a.block):=hvW.2
 clear hvW hW
 obtain ⟨h0,hg,hsl⟩:=tree_end hf
 obtain ⟨⟨k,s⟩,hn⟩:∃ n,ts.getD (ts.length - 1) (0,0)=n:=⟨_,rfl⟩
 rw [hn] at hsl
 simp only at hsl
 have HV:Hid (NReads w v ts):=hv
 obtain ⟨av,cv,rfl,hrd⟩:=hv
 have hcv:=hcap _ _ _ rfl
 clear hcap
 obtain ⟨g,o,rfl,hgl,hc1,hc2⟩:=hrd (ts.length - 1) (by omega)
 rw [hn] at hc1 hc2
 obtain ⟨n,hnd⟩:∃ n,ts.length - 1=n:=⟨_,rfl⟩
 have hnI:(ts.length:Int) - 1=n:=by omega
 have hnl:(n:Int)<ts.length:=by omega
 have hnc:(n:Int)≤cv:=by omega
 have hal:=arity_le k
 have HN:Hid (ts.getD (ts.length - 1) (0,0)=(k,s)):=hn
 have HF:Hid (freeN ts=some 1):=hf
 rw [hnd] at hc1 hc2
 clear hrd hn hf hg
 have hc:arity k=0∨arity k=1∨arity k=2:=by omega
 rcases hc with hr | hr | hr
 ·have HAR:Hid (arity k=0):=hr
  clear hr hsl
  go_enter Tryz.func42,Tryz.ntmps42
  go_wp2_with fail
  refine (rarity_any k _).mono ?_
  rintro e w2 ⟨rfl,rfl⟩
  rw [HAR.out]
  go_wp2_with fail
  go_ret
  exact ⟨_,rfl,by rw [cut_zero HN.out HAR.out];exact ⟨_,_,rfl,fun i hi=>absurd hi (by simp)⟩,Below.refl _ _⟩
 ·have HAR:Hid (arity k=1):=hr
  have HT:Hid (NReads W (.slice (some ⟨g,o,none⟩) n cv) (ts.take n)):=by
   have hn1:0<n:=by
    have hx:=(tree_last HF.out HN.out).1
    rw [HAR.out,hnd] at hx
    have:=free_pos hx
    simp at this
    omega
   obtain ⟨g',o',e,h⟩:=nreads_part HVW.out (lo:=0) (hi:=n) hn1 (by omega)
   cases e
   have:=h cv
   show NReads _ _ _
   simpa using this
  clear hr hsl
  go_enter Tryz.func42,Tryz.ntmps42
  go_wp2_with fail
  refine (rarity_any k _).mono ?_
  rintro e w2 ⟨rfl,rfl⟩
  rw [HAR.out]
  go_wp2_with fail
  go_ret
  have hb2:Below w2.heap.size w2 (w2.alloc (.cells #[.slice (some ⟨g,o,none⟩) n cv] 22)):=(Below.refl _ _).alloc (Nat.le_refl _) _
  refine ⟨_,rfl,?_,hb2⟩
  rw [cut_one HN.out HAR.out,hnd]
  have hl:(ts.take n).length=n:=by rw [List.length_take];omega
  exact prw1 (by rw [hl];exact PB.new w2 _) (by rw [hl];exact ⟨HT.out,fun a n c e=>by cases e;exact HLO.out _ _ _ rfl⟩) (by rw [hl];omega) 1
 ·have HAR:Hid (arity k=2):=hr
  rw [hr,hnd] at hsl
  obtain ⟨a,b,hstk⟩:∃ a b,stkN (ts.take n)=[a,b]:=by
   match hh:stkN (ts.take n),hsl with
   | [a,b],_=>exact ⟨a,b,rfl⟩
  obtain ⟨p,q,he,hfp,hfq,e1,e2⟩:=tree_two HF.out HN.out (by rw [hnd];exact hstk)
  have HC:Hid (cutL ts=[p,q]):=by show _=_;rw [cut_two HN.out HAR.out (by rw [hnd];exact hstk),e1,e2]
  have hbp:p.length=b:=by
   have:=congrArg List.length e1
   have h2:=congrArg List.length e2
   simp only [List.length_take,List.length_drop] at this h2
   have:=free_pos hfq
   omega
  have hpq:p.length+q.length=n:=by
   have:=congrArg List.length he
   simp only [List.length_append,List.length_singleton] at this
   omega
  have hp1:=free_pos hfp
  have hq1:=free_pos hfq
  rw [hnd] at e2
  have HT:Hid (NReads W (.slice (some ⟨g,o,none⟩) b cv) p∧NReads W (.slice (some ⟨g,o+b * 2,none⟩) (n - b) (cv - b)) q):=by
   obtain ⟨g',o',e,h⟩:=nreads_part HVW.out (lo:=0) (hi:=b) (by omega) (by omega)
   cases e
   have hx:=h cv
   rw [List.drop_zero,e1] at hx
   obtain ⟨g',o',e,h⟩:=nreads_part HVW.out (lo:=b) (hi:=n) (by omega) (by omega)
   cases e
   have hy:=h (cv - b)
   rw [e2] at hy
   exact ⟨by simpa using hx,hy⟩
  have HVp:Hid (NReads w (.slice (some ⟨g,o,none⟩) ts.length cv) (p ++ q ++ [(k,s)])):=by
   have:=HV.out
   show NReads _ _ _
   rw [← he];exact this
  obtain ⟨m,hm⟩:∃ m,n - 1=m:=⟨_,rfl⟩
  have hmI:(n:Int) - 1=m:=by omega
  have hbn:(b:Int)≤n:=by omega
  have hbc:(b:Int)≤cv:=by omega
  have HBP:Hid (p.length=b∧m+1=p.length+q.length∧p.length+q.length≤9000∧freeN q=some 1):=⟨hbp,by omega,by omega,hfq⟩
  have hbcv:¬ b=cv:=by omega
  have HLQ:Hid (q.length=n - b):=by show _=_;omega
  clear hr hsl hstk he e1 e2 hfp hfq hpq
  go_enter Tryz.func42,Tryz.ntmps42
  go_wp2_with fail
  refine (rarity_any k _).mono ?_
  rintro e w2 ⟨rfl,rfl⟩
  rw [HAR.out]
  go_wp2_with fail
  refine (begin_any _ p q [(k,s)] _ HVp.out HBP.out.2.2.1 HBP.out.2.2.2 m HBP.out.2.1).mono ?_
  rintro e w3 ⟨rfl,hb3⟩
  rw [HBP.out.1]
  have HB3:Hid (Below w2.heap.size w2 w3):=hb3
  clear hb3 hbp
  go_wp2_with fail
  go_region
  all_goals go_wp2_with fail
  all_goals go_ret
  have hb4:Below w2.heap.size w2 (w3.alloc (.cells #[.slice (some ⟨g,o,none⟩) b cv,.slice (some ⟨g,o+b * 2,none⟩) (n - b) (cv - b)] 22)).drew:=(HB3.out.alloc HB3.out.size _).drew
  refine ⟨_,rfl,?_,hb4⟩
  rw [HC.out]
  have lp:p.length=b:=HBP.out.1
  have lq:q.length=n - b:=HLQ.out
  exact prw2 (by rw [lp,lq];exact (show PB (w3.alloc (.cells #[.slice (some ⟨g,o,none⟩) b cv,.slice (some ⟨g,o+b * 2,none⟩) (n - b) (cv - b)] 22)).drew w3.heap.size _ from PB.new w3 _)) (by rw [lp];exact ⟨HT.out.1,fun a n c e=>by cases e;exact HLO.out _ _ _ rfl⟩) (by rw [lq];exact ⟨HT.out.2,fun a n c e=>by cases e;exact HLO.out ⟨g,o,none⟩ _ _ rfl⟩) (by omega) (by omega) 2
end Go.Proofs.YtfdhaknecjcjoaaGreatDoor

namespace Go.Proofs.YtfdhaknecjcjoaaGreatDoor
open Go Go.RowKit
set_option linter.unusedVariables false
variable {lb : Nat}

theorem sp_base {W:World} {lg lo:Nat} {u0 u1:Value} {w1 w2:World} (h1:lg<W.heap.size) (hb:Below W.heap.size w1 w2) (h:SP W lg lo u0 u1 w1):SP W lg lo u0 u1 w2:=by
 refine ⟨?_,?_,h.2.2.trans hb⟩
 ·rw [World.cell?_of_block (a:=⟨lg,lo,none⟩) (hb.block lg h1)];exact h.1
 ·rw [World.cell?_of_block (a:=⟨lg,lo+1,none⟩) (hb.block lg h1)];exact h.2.1
theorem wp_append_b {w:World} {o:Oper} {a:Act} {K:Act→World→Prop} {Q:Exit→Act→World→Prop} (s x:Operand) (ho:o.op=.call { callee:=.builtin .append,args:=#[s,x],argTypes:=#[56,56] })
  (W : World) (base : Nat) (v : Value) (l : List Tr) (hs : a.eval s = v) (hd : TL lb W base w v l) (vx : Value) (l' : List Tr) (hx : a.eval x = vx) (hsrc : RL lb W w vx l') (hlen : l.length + l'.length ≤ 20000) (hbase : base ≤ w.heap.size)
  (h:∀ v' w',TL lb W base w' v' (l ++ l')→Below base w w'→K (a.put o.dst v') w'):o.wp Tryz.prog a w K Q :=
 wp_append_t s x ho W base v l hs hd vx l' hx hsrc hlen hbase fun v' w' h1 h2=>h v' w' h1 ((Below.refl base w).grown h2 hbase hd.lt)
theorem wpList_append_b {w:World} {ops:Array Oper} {rest:List Oper} {o:Oper} {a:Act} {Q:Exit→Act→World→Prop} (hgd:o.guard=none) (s x:Operand) (ho:o.op=.call { callee:=.builtin .append,args:=#[s,x],argTypes:=#[56,56] })
  (W : World) (base : Nat) (v : Value) (l : List Tr) (hs : a.eval s = v) (hd : TL lb W base w v l) (vx : Value) (l' : List Tr) (hx : a.eval x = vx) (hsrc : RL lb W w vx l') (hlen : l.length + l'.length ≤ 20000) (hbase : base ≤ w.heap.size)
  (h:∀ v' w',TL lb W base w' v' (l ++ l')→Below base w w'→wpList Tryz.prog ops Q rest (a.put o.dst v') w'):wpList Tryz.prog ops Q (o :: rest) a w :=
 wpList_plain hgd fun _ hK=>wp_append_b s x ho W base v l hs hd vx l' hx hsrc hlen hbase fun v' w' h1 h2=>hK _ _ (h v' w' h1 h2)
theorem sp_alloc {W:World} {lg lo:Nat} {u0 u1:Value} {w1:World} (h1:lg<W.heap.size) (o:Obj) (h:SP W lg lo u0 u1 w1):SP W lg lo u0 u1 (w1.alloc o):=sp_step h1 ((Below.refl _ _).alloc (Nat.le_refl _) o) h
theorem sp_size {W:World} {lg lo:Nat} {u0 u1:Value} {w':World} (h:SP W lg lo u0 u1 w'):W.heap.size≤w'.heap.size:=h.2.2.size

set_option maxHeartbeats 16000000 in
set_option maxRecDepth 100000 in
theorem listed_two (k:Int) (n:Nd) (A B:Tr) (hT:(Tr.two n A B).ok) (hr:n.1=k) (iA:Lc lb k A) (iB:Lc lb k B):Lc lb k (.two n A B):=by
 intro W w a c hW hv hc hl
 have HV:Hid (NL lb W (.slice a (Tr.two n A B).flat.length c) (Tr.two n A B).flat):=hv
 have HW:Hid (Below W.heap.size W w):=hW
 have HT:Hid ((Tr.two n A B).ok):=hT
 have HK:Hid (Cap (.slice a (Tr.two n A B).flat.length c)):=fun a' n' c' e=>by cases e;exact hc
 have HL:Hid ((Tr.two n A B).flat.length≤9000):=hl
 have HR:Hid (((Tr.two n A B).root.1 == k)=true):=by show (n.1 == k)=true;rw [hr];simp
 have hlen:(Tr.two n A B).flat.length=A.flat.length+B.flat.length+1:=by simp [Tr.flat];omega
 have HLA:Hid (A.flat.length≤9000):=by show _≤_;omega
 have HLB:Hid (B.flat.length≤9000):=by show _≤_;omega
 have hla:=(lst_lens k A).2
 have hlb:=(lst_lens k B).2
 rw [show Lst k (.two n A B)=Lst k A ++ Lst k B by rw [Lst,if_pos hr]]
 obtain ⟨LA,hLA⟩:∃ L,Lst k A=L:=⟨_,rfl⟩
 obtain ⟨LB,hLB⟩:∃ L,Lst k B=L:=⟨_,rfl⟩
 unfold Lc at iA iB
 rw [hLA] at iA hla ⊢
 rw [hLB] at iB hlb ⊢
 have HIA:Hid _:=iA
 have HIB:Hid _:=iB
 have HN:Hid (LA.length≤9000∧LB.length≤9000):=by show _∧_;omega
 clear hT hr iA iB hv hc hl hlen hla hlb hLA hLB
 go_enter Tryz.func64,Tryz.ntmps64
 go_wp2_with fail
 refine (ris_b (.two n A B) _ k true _ (HV.out.1.stay HW.out) HL.out HR.out).mono ?_
 rintro e w1 ⟨rfl,rfl⟩
 go_wp2_with fail
 refine (cutW_any lb W _ (Tr.two n A B).flat _ HW.out HV.out HL.out (Tr.ok_free _ HT.out) HK.out).mono ?_
 rintro e w7 ⟨u,rfl,hp1,hb7⟩
 rw [cut_flat_two HT.out] at hp1
 obtain ⟨ua,uc,rfl,hpi⟩:=hp1
 obtain ⟨lg,lo,a0,c0,rfl,hlg,hl0,hu0,hk0⟩:=hpi 0 (by simp)
 obtain ⟨lg',lo',a1,c1,e1,hlg',hl1,hu1,hk1⟩:=hpi 1 (by simp)
 cases e1
 rw [Nat.add_zero] at hl0
 simp only [List.getD_cons_zero,List.getD_cons_succ] at hl0 hu0 hk0 hl1 hu1 hk1
 have HU0:Hid (NL lb W (.slice a0 A.flat.length c0) A.flat):=hu0
 have HU1:Hid (NL lb W (.slice a1 B.flat.length c1) B.flat):=hu1
 have HK0:Hid (A.flat.length≤c0):=hk0
 have HK1:Hid (B.flat.length≤c1):=hk1
 have HB7:Hid (Below w.heap.size w w7):=hb7
 have HW7:Hid (Below W.heap.size W w7):=go_on HW.out hb7
 clear hb7 hpi hu0 hk0 hu1 hk1
 go_wp2_with fail
 have S0:SP w7 lg lo (.slice a0 A.flat.length c0) (.slice a1 B.flat.length c1) w7.drew:=⟨hl0,hl1,(Below.refl _ _).drew⟩
 clear hl0 hl1
 go_region_held3 (fun w'=>SP w7 lg lo (.slice a0 A.flat.length c0) (.slice a1 B.flat.length c1) w') (first | exact S0 | assumption | exact sp_step hlg (by assumption) (by assumption) | exact sp_alloc hlg _ S0 | exact sp_alloc hlg _ (by assumption)) (first
  | (go_at_call 64;have q:=hta1;refine (HIB.out W _ _ _ (by exact go_on HW7.out (sp_below hsp1)) HU1.out HK1.out HLB.out).mono ?_;rintro e y2 ⟨r2,rfl,hr2,hb2⟩;clear q)
  | (go_at_call 64;refine (HIA.out W _ _ _ (by exact go_on HW7.out (sp_below (lg:=lg) (lo:=lo) (u0:=.slice a0 A.flat.length c0) (u1:=.slice a1 B.flat.length c1) (by first | assumption | exact sp_alloc hlg _ S0))) HU0.out HK0.out HLA.out).mono ?_;rintro e y1 ⟨r1,rfl,hr1,hb1⟩)
  | (rw [if_pos (by rfl)];have q:=hr2;refine wp_append_b _ _ rfl W w7.heap.size _ LA rfl (hta1.below hb2) _ LB rfl hr2.rl (by have:=HN.out;omega) (by have:=sp_size hsp1;have:=hb2.size;omega) ?_;clear q;intro v2 z2 hta2 hg2;have hsp2:=sp_base hlg hg2 (sp_step hlg hb2 hsp1))
  | (rw [if_pos (by rfl)];refine wp_append_b _ _ rfl W w7.heap.size _ [] rfl (by first | exact tl_made lb W y1 hb1.size | exact (show TL lb W w7.heap.size (w7.alloc (.cells #[] 22)).drew _ [] from tl_made lb W w7 (Nat.le_refl _)).below hb1) _ LA rfl (by first | exact hr1.rl | exact (hr1.alloc _).rl) (by have:=HN.out;simp;omega) (by exact sp_size (lg:=lg) (lo:=lo) (u0:=.slice a0 A.flat.length c0) (u1:=.slice a1 B.flat.length c1) (by assumption)) ?_;intro v1 z1 hta1 hg1;have hsp1:SP w7 lg lo (.slice a0 A.flat.length c0) (.slice a1 B.flat.length c1) z1:=sp_base hlg hg1 (by assumption);rw [List.nil_append] at hta1))
 all_goals (
  have HTA:Hid (TL lb W w.heap.size z2 v2 (LA ++ LB)):=hta2.mono HB7.out.size
  have HBZ:Hid (Below w.heap.size w z2):=go_on HB7.out (sp_below hsp2)
  clear hsp1 hsp2 S0 hta1 hta2 hg1 hg2 hr1 hr2 hb1 hb2
  go_wp2_with fail
  go_ret
  exact ⟨_,rfl,HTA.out,HBZ.out⟩)

theorem listed_any (k:Int) (hk:k=5∨k=6):∀ {T:Tr},T.ok→Lc lb k T
 | .zero n,h=>listed_leaf k hk _ h (fun e=>ok_root0 hk h e) rfl
 | .one n a,h=>listed_leaf k hk _ h (fun e=>ok_root1 hk h e) rfl
 | .two n a b,h=>by
  by_cases e : n.1 = k
  ·exact listed_two k n a b h e (listed_any k hk h.2.2.1) (listed_any k hk h.2.2.2)
  ·exact listed_leaf k hk _ h e (by rw [Lst,if_neg e,if_neg (two_unit k n a b)])
end Go.Proofs.YtfdhaknecjcjoaaGreatDoor

namespace Go.Proofs.YtfdhaknecjcjoaaGreatDoor
open Go Go.RowKit
set_option linter.unusedVariables false
variable {lo : Nat}

theorem TL.get {W : World} {base : Nat} {w : World} {la : Option Addr} {lc : Nat} {l : List Tr} (h : TL lo W base w (.slice la l.length lc) l) {i : Nat} (hi : i < l.length) :
  ∃ g a' c',la=some ⟨g,0,none⟩∧g<w.heap.size∧base≤g∧w.cell? ⟨g,i,none⟩=some (.slice a' (l.getD i tNone).flat.length c')∧NL lo W (.slice a' (l.getD i tNone).flat.length c') (l.getD i tNone).flat∧(l.getD i tNone).flat.length≤c':=by
 obtain ⟨cs,hc,ho⟩:=h
 have hget:l[i]?=some (l.getD i tNone):=by rw [List.getD_eq_getElem?_getD,List.getElem?_eq_getElem hi];rfl
 obtain ⟨a',c',e,h1,h2⟩:=hc.2 i _ hget
 have ho':=ho
 obtain ⟨hl,h⟩:=ho
 rcases h with ⟨h0,h0'⟩ | ⟨g,cap,cur,h0,_⟩
 ·omega
 ·cases h0
  have:=ho'.cells (g:=g) rfl i _ e
  rw [Addr.add_lit,Nat.zero_add] at this
  exact ⟨g,a',c',rfl,(ho'.lt g rfl).2,(ho'.lt g rfl).1,this,h1,h2⟩
theorem TL.cap {W:World} {base:Nat} {w:World} {la:Option Addr} {lc:Nat} {l:List Tr} (h:TL lo W base w (.slice la l.length lc) l):l.length≤lc:=by
 obtain ⟨cs,hc,ho⟩:=h
 exact uown_cap ho _ _ _ rfl
theorem rl_take {W w:World} {ad:Addr} {lc:Nat} {l:List Tr} (h:RL lo W w (.slice (some ad) l.length lc) l) (k:Nat) (hk:k≤l.length):RL lo W w (.slice (some ad) k lc) (l.take k):=by
 obtain ⟨cs,hc,h⟩:=h
 refine ⟨cs.take k,hc.take k,.inr ⟨ad,lc,by rw [List.length_take,Nat.min_eq_left hk],fun j u hj=>?_⟩⟩
 rcases h with ⟨h0,_⟩ | ⟨ad',c',h0,hcell⟩
 ·cases h0
 ·cases h0
  rw [List.getElem?_take] at hj
  split at hj
  ·exact hcell j u hj
  ·cases hj
theorem rl_drop {W w:World} {g lc:Nat} {l:List Tr} (h:RL lo W w (.slice (some ⟨g,0,none⟩) l.length lc) l) (k:Nat) (hk:k≤l.length) (c:Nat):RL lo W w (.slice (some ⟨g,k,none⟩) (l.length - k) c) (l.drop k):=by
 obtain ⟨cs,hc,h⟩:=h
 refine ⟨cs.drop k,hc.drop k,.inr ⟨⟨g,k,none⟩,c,by rw [List.length_drop],fun j u hj=>?_⟩⟩
 rcases h with ⟨h0,_⟩ | ⟨ad',c',h0,hcell⟩
 ·cases h0
 ·cases h0
  rw [List.getElem?_drop] at hj
  have:=hcell _ u hj
  rw [Addr.add_lit,Nat.zero_add] at this
  rw [Addr.add_lit]
  exact this
theorem rl_empty {W w:World} {ad:Addr} {c:Nat}:RL lo W w (.slice (some ad) 0 c) []:=⟨[],Cs.nil lo W,.inr ⟨ad,c,rfl,fun j u hj=>by simp at hj⟩⟩
theorem RL.below {W w w':World} {g o n lc:Nat} {l:List Tr} (h:RL lo W w (.slice (some ⟨g,o,none⟩) n lc) l) (hg:g<w.heap.size) (hb:Below w.heap.size w w'):RL lo W w' (.slice (some ⟨g,o,none⟩) n lc) l:=by
 obtain ⟨cs,hc,h⟩:=h
 refine ⟨cs,hc,?_⟩
 rcases h with ⟨h0,_⟩ | ⟨ad,c,h0,hcell⟩
 ·cases h0
 ·refine .inr ⟨ad,c,h0,fun j u hj=>?_⟩
  have e:ad=⟨g,o,none⟩:=by cases h0;rfl
  subst e
  have:=hcell j u hj
  rw [Addr.add_lit] at this ⊢
  rw [below_cell hb hg];exact this

set_option maxHeartbeats 8000000 in
set_option maxRecDepth 100000 in
theorem put_some (W w:World) (base:Nat) (l:List Tr) (t:Tr) (g lc:Nat) (a:Option Addr) (c:Nat) (hW:Below W.heap.size W w) (hWb:W.heap.size≤base) (hbw:base≤w.heap.size) (hT:TL lo W base w (.slice (some ⟨g,0,none⟩) l.length lc) l) (hv:NL lo W (.slice a t.flat.length c) t.flat) (hc:t.flat.length≤c)
  (hm:∀ i,(l.getD i tNone).flat.length≤9000) (hl:l.length≤9000) (ht:t.flat.length≤9000) (hg:g<w.heap.size) :
  Calls Tryz.prog 66 #[.slice (some ⟨g,0,none⟩) l.length lc,.slice a t.flat.length c] w fun e w'=>∃ u,e=.returned u∧TL lo W base w' u (ins t l)∧Below w.heap.size w w':=by
 have HT:Hid (TL lo W base w (.slice (some ⟨g,0,none⟩) l.length lc) l):=hT
 have HV:Hid (NL lo W (.slice a t.flat.length c) t.flat):=hv
 have HW:Hid (Below W.heap.size W w):=hW
 have HM:Hid (∀ i,(l.getD i tNone).flat.length≤9000):=hm
 have HC:Hid (t.flat.length≤c):=hc
 have hcap:=hT.cap
 clear hT hv hW hm hc
 go_enter Tryz.func66,Tryz.ntmps66
 go_wp2_with fail
 go_loopw [5] (fun vi wr=>∃ k:Nat,k≤l.length∧vi=.int .i64 k∧(∀ j,j<k→ct (l.getD j tNone).flat t.flat<0)∧Below w.heap.size w wr) (fun vi _=>l.length - (intOf vi).toNat)
 case atStart=>exact ⟨0,Nat.zero_le _,rfl,fun j hj=>by omega,Below.refl _ _⟩
 case round =>
  obtain ⟨k,hk,rfl,hall,hb⟩:=hrel
  have HA:Hid (∀ j,j<k→ct (l.getD j tNone).flat t.flat<0):=hall
  have HB:Hid (Below w.heap.size w wr):=hb
  clear hall hb
  have hkc:(k:Int)≤lc:=by omega
  by_cases hlt : k < l.length
  ·have hkI:(k:Int)<l.length:=by omega
   obtain ⟨g',a',c',e1,hg',_,hcell,hnr,hcc⟩:=HT.out.get hlt
   cases e1
   have HML:Hid ((l.getD k tNone).flat.length≤9000):=HM.out k
   obtain ⟨s,hs⟩:∃ s,l.getD k tNone=s:=⟨_,rfl⟩
   rw [hs] at hcell hnr hcc HML
   have HS:Hid (l.getD k tNone=s):=hs
   have HN:Hid (NReads wr (.slice a' s.flat.length c') s.flat):=(hnr.1.stay HW.out).stay HB.out
   have HNT:Hid (NReads wr (.slice a t.flat.length c) t.flat):=(HV.out.1.stay HW.out).stay HB.out
   have HCE:Hid (∀ w',Below w.heap.size w w'→w'.cell? ⟨g,k,none⟩=some (.slice a' s.flat.length c')):=fun w' hb=>by rw [below_cell hb hg];exact hcell
   have cc:=HCE.out wr HB.out
   clear hs hcell hnr hcc hg'
   go_wp2_with fail
   refine (rcompare_any _ _ s.flat t.flat _ HN.out HNT.out (by have:=HML.out;omega)).mono ?_
   rintro e w2 ⟨rfl,hb2⟩
   have HB2:Hid (Below w.heap.size w w2):=go_on HB.out hb2
   have HNT2:Hid (NReads w2 (.slice a t.flat.length c) t.flat):=HNT.out.stay hb2
   have HN2:Hid (NReads w2 (.slice a' s.flat.length c') s.flat):=HN.out.stay hb2
   clear hb2 cc
   obtain ⟨z,hz⟩:∃ z,ct s.flat t.flat=z:=⟨_,rfl⟩
   have HZ:Hid (ct s.flat t.flat=z):=hz
   rw [hz]
   clear hz
   by_cases hneg : z < 0
   ·have HNG:Hid (z<0):=hneg
    go_wp2_with fail
    go_roundw
    case rel=>exact ⟨k+1,by omega,by go_num,fun j hj=>by
     by_cases e : j < k
     ·exact HA.out j e
     ·obtain rfl:j=k:=by omega
      rw [HS.out,HZ.out];exact HNG.out,HB2.out⟩
    case measure=>simp [intOf];omega
   ·have cc2:=HCE.out w2 HB2.out
    have HNG:Hid (¬ z<0):=hneg
    have HIN:Hid (ins t l=if k<l.length∧ct (l.getD k tNone).flat t.flat=0 then l else l.take k ++ t :: l.drop k):=ins_at k (by omega) HA.out (fun _=>by rw [HS.out,HZ.out];exact HNG.out)
    go_wp2_with fail
    refine (rcompare_any _ _ s.flat t.flat _ HN2.out HNT2.out (by have:=HML.out;omega)).mono ?_
    rintro e w3 ⟨rfl,hb3⟩
    have HB3:Hid (Below w.heap.size w w3):=go_on HB2.out hb3
    clear hb3 cc2
    rw [HZ.out]
    by_cases hz0 : z = 0
    ·subst hz0
     have HE:Hid (ins t l=l):=by
      show _ = _
      rw [HIN.out,if_pos ⟨hlt,by rw [HS.out,HZ.out]⟩]
     go_wp2_with fail
     go_ret
     exact ⟨_,rfl,by rw [HE.out];exact HT.out.below HB3.out,HB3.out⟩
    ·have hzb:(z == 0)=false:=by rw [beq_eq_false_iff_ne];exact hz0
     have HE:Hid (ins t l=l.take k ++ t :: l.drop k):=by
      show _ = _
      rw [HIN.out,if_neg (fun h=>hz0 (by rw [← HZ.out,← HS.out];exact h.2))]
     clear hz0 hneg
     obtain ⟨P,hP⟩:∃ P,l.take k=P:=⟨_,rfl⟩
     obtain ⟨D,hQ⟩:∃ D,l.drop k=D:=⟨_,rfl⟩
     have hPl:P.length=k:=by rw [← hP,List.length_take];omega
     have hDl:D.length=l.length - k:=by rw [← hQ,List.length_drop]
     have HQ:Hid (l.drop k=D):=hQ
     have HE2:Hid (ins t l=P ++ t :: D):=by show _=_;rw [HE.out,← hP,← hQ]
     clear hQ
     have HD:Hid (TL lo W w.heap.size (w3.alloc (.cells #[] 22)) (.slice (some ⟨w3.heap.size,0,none⟩) 0 0) []):=tl_made lo W w3 HB3.out.size
     have HB4:Hid (Below w.heap.size w (w3.alloc (.cells #[] 22))):=HB3.out.alloc HB3.out.size _
     have HS1:Hid (RL lo W (w3.alloc (.cells #[] 22)) (.slice (some ⟨g,0,none⟩) k lc) P):=by rw [← hP];exact rl_take (HT.out.below HB4.out).rl k (by omega)
     clear hP
     go_wp2_with (at_builtin;refine wpList_append_b rfl _ _ rfl W w.heap.size _ [] rfl HD.out _ P rfl HS1.out (by first | (simp;omega) | omega) HB4.out.size ?_)
     intro v1 w5 ht1 hb5
     have HB5:Hid (Below w.heap.size w w5):=HB4.out.trans hb5
     obtain ⟨o1,d1,rfl⟩:=ht1.shape
     have HT1:Hid (TL lo W w.heap.size (w5.alloc (.cells #[.slice a t.flat.length c] 22)) (.slice o1 P.length d1) P):=ht1.alloc _
     have HB6:Hid (Below w.heap.size w (w5.alloc (.cells #[.slice a t.flat.length c] 22))):=HB5.out.alloc HB5.out.size _
     have HS2:Hid (RL lo W (w5.alloc (.cells #[.slice a t.flat.length c] 22)) (.slice (some ⟨w5.heap.size,0,none⟩) 1 1) [t]):=rl_lit HV.out HC.out
     clear ht1 hb5
     go_wp2_with (at_builtin;refine wpList_append_b rfl _ _ rfl W w.heap.size _ P rfl HT1.out _ [t] rfl HS2.out (by first | (simp;omega) | omega) HB6.out.size ?_)
     intro v2 w7 ht2 hb7
     have HB7:Hid (Below w.heap.size w w7):=HB6.out.trans hb7
     obtain ⟨o2,d2,rfl⟩:=ht2.shape
     have HT2:Hid (TL lo W w.heap.size w7 (.slice o2 (P ++ [t]).length d2) (P ++ [t])):=ht2
     have HS3:Hid (RL lo W w7 (.slice (some ⟨g,k,none⟩) (l.length - k) (lc - k)) D):=by rw [← HQ.out];exact rl_drop (HT.out.below HB7.out).rl k (by omega) _
     clear ht2 hb7
     go_wp2_with (at_builtin;refine wpList_append_b rfl _ _ rfl W w.heap.size _ (P ++ [t]) rfl HT2.out _ D rfl HS3.out (by first | (simp;omega) | omega) HB7.out.size ?_)
     intro v3 w8 ht3 hb8
     have HB8:Hid (Below w.heap.size w w8):=HB7.out.trans hb8
     have HT3:Hid (TL lo W base w8 v3 (P ++ t :: D)):=by show TL _ _ _ _ _ _;have h:=ht3.mono hbw;simpa using h
     clear ht3 hb8
     go_wp2_with fail
     go_ret
     exact ⟨_,rfl,by rw [HE2.out];exact HT3.out,HB8.out⟩
  ·obtain rfl:k=l.length:=by omega
   have hkI:¬ (l.length:Int)<l.length:=by omega
   have HE:Hid (ins t l=l.take l.length ++ t :: l.drop l.length):=by
    show _ = _
    rw [ins_at (t:=t) (l:=l) l.length (Nat.le_refl _) HA.out (fun h=>by omega),if_neg (fun h=>by omega)]
   obtain ⟨P,hP⟩:∃ P,l.take l.length=P:=⟨_,rfl⟩
   obtain ⟨D,hQ⟩:∃ D,l.drop l.length=D:=⟨_,rfl⟩
   have hPl:P.length=l.length:=by rw [← hP,List.length_take];omega
   have hDl:D.length=l.length - l.length:=by rw [← hQ,List.length_drop]
   have HQ:Hid (l.drop l.length=D):=hQ
   have HE2:Hid (ins t l=P ++ t :: D):=by show _=_;rw [HE.out,← hP,← hQ]
   clear hQ
   by_cases hcl : l.length = lc
   ·subst hcl
    have HD:Hid (TL lo W w.heap.size (wr.alloc (.cells #[] 22)) (.slice (some ⟨wr.heap.size,0,none⟩) 0 0) []):=tl_made lo W wr HB.out.size
    have HB4:Hid (Below w.heap.size w (wr.alloc (.cells #[] 22))):=HB.out.alloc HB.out.size _
    have HS1:Hid (RL lo W (wr.alloc (.cells #[] 22)) (.slice (some ⟨g,0,none⟩) l.length l.length) P):=by rw [← hP];exact rl_take (HT.out.below HB4.out).rl l.length (by omega)
    clear hP
    go_wp2_with (at_builtin;refine wpList_append_b rfl _ _ rfl W w.heap.size _ [] rfl HD.out _ P rfl HS1.out (by first | (simp;omega) | omega) HB4.out.size ?_)
    intro v1 w5 ht1 hb5
    have HB5:Hid (Below w.heap.size w w5):=HB4.out.trans hb5
    obtain ⟨o1,d1,rfl⟩:=ht1.shape
    have HT1:Hid (TL lo W w.heap.size (w5.alloc (.cells #[.slice a t.flat.length c] 22)) (.slice o1 P.length d1) P):=ht1.alloc _
    have HB6:Hid (Below w.heap.size w (w5.alloc (.cells #[.slice a t.flat.length c] 22))):=HB5.out.alloc HB5.out.size _
    have HS2:Hid (RL lo W (w5.alloc (.cells #[.slice a t.flat.length c] 22)) (.slice (some ⟨w5.heap.size,0,none⟩) 1 1) [t]):=rl_lit HV.out HC.out
    clear ht1 hb5
    go_wp2_with (at_builtin;refine wpList_append_b rfl _ _ rfl W w.heap.size _ P rfl HT1.out _ [t] rfl HS2.out (by first | (simp;omega) | omega) HB6.out.size ?_)
    intro v2 w7 ht2 hb7
    have HB7:Hid (Below w.heap.size w w7):=HB6.out.trans hb7
    obtain ⟨o2,d2,rfl⟩:=ht2.shape
    have HT2:Hid (TL lo W w.heap.size w7 (.slice o2 (P ++ [t]).length d2) (P ++ [t])):=ht2
    clear ht2 hb7
    go_wp2_with (at_builtin;refine wpList_append_b rfl _ _ rfl W w.heap.size _ (P ++ [t]) rfl HT2.out _ [] rfl rl_empty (by first | (simp;omega) | omega) HB7.out.size ?_)
    intro v3 w8 ht3 hb8
    have HB8:Hid (Below w.heap.size w w8):=HB7.out.trans hb8
    have HT3:Hid (TL lo W base w8 v3 (P ++ t :: D)):=by show TL _ _ _ _ _ _;have h:=ht3.mono hbw;rw [← HQ.out,List.drop_length];simpa using h
    clear ht3 hb8
    go_wp2_with fail
    go_ret
    exact ⟨_,rfl,by rw [HE2.out];exact HT3.out,HB8.out⟩
   ·have hcl2:¬ (l.length:Int)=lc:=by omega
    have HD:Hid (TL lo W w.heap.size (wr.alloc (.cells #[] 22)) (.slice (some ⟨wr.heap.size,0,none⟩) 0 0) []):=tl_made lo W wr HB.out.size
    have HB4:Hid (Below w.heap.size w (wr.alloc (.cells #[] 22))):=HB.out.alloc HB.out.size _
    have HS1:Hid (RL lo W (wr.alloc (.cells #[] 22)) (.slice (some ⟨g,0,none⟩) l.length lc) P):=by rw [← hP];exact rl_take (HT.out.below HB4.out).rl l.length (by omega)
    clear hP
    go_wp2_with (at_builtin;refine wpList_append_b rfl _ _ rfl W w.heap.size _ [] rfl HD.out _ P rfl HS1.out (by first | (simp;omega) | omega) HB4.out.size ?_)
    intro v1 w5 ht1 hb5
    have HB5:Hid (Below w.heap.size w w5):=HB4.out.trans hb5
    obtain ⟨o1,d1,rfl⟩:=ht1.shape
    have HT1:Hid (TL lo W w.heap.size (w5.alloc (.cells #[.slice a t.flat.length c] 22)) (.slice o1 P.length d1) P):=ht1.alloc _
    have HB6:Hid (Below w.heap.size w (w5.alloc (.cells #[.slice a t.flat.length c] 22))):=HB5.out.alloc HB5.out.size _
    have HS2:Hid (RL lo W (w5.alloc (.cells #[.slice a t.flat.length c] 22)) (.slice (some ⟨w5.heap.size,0,none⟩) 1 1) [t]):=rl_lit HV.out HC.out
    clear ht1 hb5
    go_wp2_with (at_builtin;refine wpList_append_b rfl _ _ rfl W w.heap.size _ P rfl HT1.out _ [t] rfl HS2.out (by first | (simp;omega) | omega) HB6.out.size ?_)
    intro v2 w7 ht2 hb7
    have HB7:Hid (Below w.heap.size w w7):=HB6.out.trans hb7
    obtain ⟨o2,d2,rfl⟩:=ht2.shape
    have HT2:Hid (TL lo W w.heap.size w7 (.slice o2 (P ++ [t]).length d2) (P ++ [t])):=ht2
    clear ht2 hb7
    go_wp2_with (at_builtin;refine wpList_append_b rfl _ _ rfl W w.heap.size _ (P ++ [t]) rfl HT2.out _ [] rfl rl_empty (by first | (simp;omega) | omega) HB7.out.size ?_)
    intro v3 w8 ht3 hb8
    have HB8:Hid (Below w.heap.size w w8):=HB7.out.trans hb8
    have HT3:Hid (TL lo W base w8 v3 (P ++ t :: D)):=by show TL _ _ _ _ _ _;have h:=ht3.mono hbw;rw [← HQ.out,List.drop_length];simpa using h
    clear ht3 hb8
    go_wp2_with fail
    go_ret
    exact ⟨_,rfl,by rw [HE2.out];exact HT3.out,HB8.out⟩

set_option maxHeartbeats 8000000 in
set_option maxRecDepth 100000 in
theorem put_nil (W w : World) (base : Nat) (t : Tr) (a : Option Addr) (c : Nat) (hbw : base ≤ w.heap.size) (hv : NL lo W (.slice a t.flat.length c) t.flat) (hc : t.flat.length ≤ c) :
  Calls Tryz.prog 66 #[.slice none 0 0,.slice a t.flat.length c] w fun e w'=>∃ u,e=.returned u∧TL lo W base w' u [t]∧Below w.heap.size w w':=by
 have HV:Hid (NL lo W (.slice a t.flat.length c) t.flat):=hv
 have HC:Hid (t.flat.length≤c):=hc
 clear hv hc
 go_enter Tryz.func66,Tryz.ntmps66
 go_wp2_with fail
 go_loopw [5] (fun vi wr=>vi=.int .i64 0∧Below w.heap.size w wr) (fun _ _=>0)
 case atStart=>exact ⟨rfl,Below.refl _ _⟩
 case round =>
  obtain ⟨rfl,hb⟩:=hrel
  have HB:Hid (Below w.heap.size w wr):=hb
  have HD:Hid (TL lo W w.heap.size (wr.alloc (.cells #[] 22)) (.slice (some ⟨wr.heap.size,0,none⟩) 0 0) []):=tl_made lo W wr hb.size
  have HB4:Hid (Below w.heap.size w (wr.alloc (.cells #[] 22))):=hb.alloc hb.size _
  have HS1:Hid (RL lo W (wr.alloc (.cells #[] 22)) (.slice none 0 0) []):=⟨[],Cs.nil lo W,.inl ⟨rfl,rfl⟩⟩
  clear hb
  go_wp2_with (at_builtin;refine wpList_append_b rfl _ _ rfl W w.heap.size _ [] rfl HD.out _ [] rfl HS1.out (by simp) HB4.out.size ?_)
  intro v1 w5 ht1 hb5
  have HB5:Hid (Below w.heap.size w w5):=HB4.out.trans hb5
  have ht1:TL lo W w.heap.size w5 v1 []:=ht1
  obtain ⟨o1,d1,rfl⟩:=ht1.shape
  have HT1:Hid (TL lo W w.heap.size (w5.alloc (.cells #[.slice a t.flat.length c] 22)) (.slice o1 ([]:List Tr).length d1) []):=ht1.alloc _
  have HB6:Hid (Below w.heap.size w (w5.alloc (.cells #[.slice a t.flat.length c] 22))):=HB5.out.alloc HB5.out.size _
  have HS2:Hid (RL lo W (w5.alloc (.cells #[.slice a t.flat.length c] 22)) (.slice (some ⟨w5.heap.size,0,none⟩) 1 1) [t]):=rl_lit HV.out HC.out
  clear ht1 hb5
  go_wp2_with (at_builtin;refine wpList_append_b rfl _ _ rfl W w.heap.size _ [] rfl HT1.out _ [t] rfl HS2.out (by simp) HB6.out.size ?_)
  intro v2 w7 ht2 hb7
  have HB7:Hid (Below w.heap.size w w7):=HB6.out.trans hb7
  have ht2:TL lo W w.heap.size w7 v2 [t]:=ht2
  obtain ⟨o2,d2,rfl⟩:=ht2.shape
  have HT2:Hid (TL lo W w.heap.size w7 (.slice o2 [t].length d2) [t]):=ht2
  have HS3:Hid (RL lo W w7 (.slice none 0 0) []):=⟨[],Cs.nil lo W,.inl ⟨rfl,rfl⟩⟩
  clear ht2 hb7
  go_wp2_with (at_builtin;refine wpList_append_b rfl _ _ rfl W w.heap.size _ [t] rfl HT2.out _ [] rfl HS3.out (by simp) HB7.out.size ?_)
  intro v3 w8 ht3 hb8
  have HB8:Hid (Below w.heap.size w w8):=HB7.out.trans hb8
  have HT3:Hid (TL lo W base w8 v3 [t]):=ht3.mono hbw
  clear ht3 hb8
  go_wp2_with fail
  go_ret
  exact ⟨_,rfl,HT3.out,HB8.out⟩

theorem putT_any (W w : World) (base : Nat) (l : List Tr) (t : Tr) (v : Value) (a : Option Addr) (c : Nat) (hW : Below W.heap.size W w) (hWb : W.heap.size ≤ base) (hbw : base ≤ w.heap.size) (hT : TL lo W base w v l) (hv : NL lo W (.slice a t.flat.length c) t.flat) (hc : t.flat.length ≤ c)
  (hm:∀ m ∈ l,m.flat.length≤9000) (hl:l.length≤9000) (ht:t.flat.length≤9000) :
  Calls Tryz.prog 66 #[v,.slice a t.flat.length c] w fun e w'=>∃ u,e=.returned u∧TL lo W base w' u (ins t l)∧Below w.heap.size w w':=by
 have hT':=hT
 obtain ⟨cs,hcs,ho⟩:=hT
 have ho':=ho
 obtain ⟨hlen,h⟩:=ho
 rcases h with ⟨rfl,h0⟩ | ⟨g,cap,cur,rfl,_⟩
 ·obtain rfl:=List.eq_nil_of_length_eq_zero h0
  exact put_nil W w base t a c hbw hv hc
 ·refine put_some W w base l t g cap a c hW hWb hbw hT' hv hc (fun i=>?_) hl ht (ho'.lt g rfl).2
  by_cases hi : i < l.length
  ·rw [List.getD_eq_getElem?_getD,List.getElem?_eq_getElem hi]
   exact hm _ (List.getElem_mem hi)
  ·rw [List.getD_eq_getElem?_getD,List.getElem?_eq_none (by omega)]
   simp [tNone,Tr.flat]
end Go.Proofs.YtfdhaknecjcjoaaGreatDoor

namespace Go.Proofs.YtfdhaknecjcjoaaGreatDoor
open Go Go.RowKit
set_option linter.unusedVariables false

abbrev SC (W:World) (lg lo:Nat) (u:Value) (w':World):Prop:=w'.cell? ⟨lg,lo,none⟩=some u∧Below W.heap.size W w'
theorem sc_step {W:World} {lg lo:Nat} {u:Value} {w1 w2:World} (h1:lg<W.heap.size) (hb:Below w1.heap.size w1 w2) (h:SC W lg lo u w1):SC W lg lo u w2:=by
 have hs:=h.2.size
 refine ⟨?_,go_on h.2 hb⟩
 rw [below_cell hb (by omega)];exact h.1
theorem sc_alloc {W:World} {lg lo:Nat} {u:Value} {w1:World} (h1:lg<W.heap.size) (o:Obj) (h:SC W lg lo u w1):SC W lg lo u (w1.alloc o):=sc_step h1 ((Below.refl _ _).alloc (Nat.le_refl _) o) h
theorem lens_take (M:List Tr) (i:Nat):lens (M.take i)≤lens M:=by
 have:lens M=lens (M.take i)+lens (M.drop i):=by
  unfold lens
  rw [← List.sum_append,← List.map_append,List.take_append_drop]
 omega
theorem takeT_next {M:List Tr} {i:Nat} (h:i<M.length):M.take (i+1)=M.take i ++ [M.getD i tNone]:=by
 rw [List.take_succ_eq_append_getElem h,List.getD_eq_getElem?_getD,List.getElem?_eq_getElem h]
 rfl
theorem mem_len {M:List Tr} {m:Tr} (h:m ∈ M):m.flat.length+1≤lens M:=by
 unfold lens
 induction M with
 | nil=>simp at h
 | cons x M ih =>
  rcases List.mem_cons.1 h with rfl | h
  ·simp
  ·have:=ih h;simp at *;omega
theorem getD_mem {M:List Tr} {i:Nat} (h:i<M.length):M.getD i tNone ∈ M:=by
 rw [List.getD_eq_getElem?_getD,List.getElem?_eq_getElem h]
 exact List.getElem_mem h

set_option maxHeartbeats 16000000 in
set_option maxRecDepth 100000 in
theorem several_L (k k2:Int) (hk:k=5∧k2=6∨k=6∧k2=5) (x y:Tr) (hox:x.ok) (hoy:y.ok) (L:List Tr) (hL:Lst k x ++ Lst k y=L) (R:Tr) (hR1:zeroK k ∈ L→R=zeroK k) (hR2:zeroK k ∉ L→R=if insAll L=[] then unitK k else build k (insAll L))
  (ax ay : Option Addr) (cx cy : Nat) (w : World) (hx : NReads w (.slice ax x.flat.length cx) x.flat) (hy : NReads w (.slice ay y.flat.length cy) y.flat) (kx : x.flat.length ≤ cx) (ky : y.flat.length ≤ cy) (hl : x.flat.length + y.flat.length ≤ 8990) :
  Calls Tryz.prog 43 #[.int .i64 k,.slice ax x.flat.length cx,.slice ay y.flat.length cy] w (Own w R):=by
 unfold Own
 have hk1:k=5∨k=6:=by omega
 have HK2:Hid (k2=5∨k2=6):=by show _∨_;omega
 have HUZ:Hid (unitK k2=zeroK k):=by
  show _ = _
  rcases hk with ⟨rfl,rfl⟩ | ⟨rfl,rfl⟩ <;> rfl
 have hkw:IntKind.i64.wrap (11 - k)=k2:=by rcases hk with ⟨rfl,rfl⟩ | ⟨rfl,rfl⟩ <;> rfl
 have HLX:Hid (Lc 0 k x):=listed_any k hk1 hox
 have HLY:Hid (Lc 0 k y):=listed_any k hk1 hoy
 have HOL:Hid (Oks L):=by
  show Oks L
  rw [← hL]
  intro m hm
  rcases List.mem_append.1 hm with h | h
  ·exact lst_ok hox m h
  ·exact lst_ok hoy m h
 have l1:=lst_lens k x
 have l2:=lst_lens k y
 have hlens:lens L≤8992:=by rw [← hL];unfold lens at *;rw [List.map_append,List.sum_append];omega
 have HLL:Hid (lens L≤8992):=hlens
 have hLn:L.length≤8990:=by rw [← hL,List.length_append];omega
 have HML:Hid (∀ m ∈ L,m.flat.length≤8991):=fun m hm=>by have:=mem_len hm;omega
 have HX:Hid (NReads w (.slice ax x.flat.length cx) x.flat):=hx
 have HY:Hid (NReads w (.slice ay y.flat.length cy) y.flat):=hy
 have HKX:Hid (x.flat.length≤cx∧y.flat.length≤cy∧x.flat.length≤9000∧y.flat.length≤9000∧(Lst k x).length+(Lst k y).length≤9000):=⟨kx,ky,by omega,by omega,by omega⟩
 have HL:Hid (Lst k x ++ Lst k y=L):=hL
 have HR1:Hid (zeroK k ∈ L→R=zeroK k):=hR1
 have HR2:Hid (zeroK k ∉ L→R=if insAll L=[] then unitK k else build k (insAll L)):=hR2
 have HSP:=insAll_spec _ rfl HOL.out
 have HMO:Hid (Oks (insAll L)):=HSP.1
 have HMN:Hid (lens (insAll L)≤8992):=by show _≤_;have:=HSP.2.2.2.2;omega
 have HIL:Hid (∀ i,(insAll (L.take i)).length≤9000∧∀ m ∈ insAll (L.take i),m.flat.length≤9000):=fun i=>by
  have ho:Oks (L.take i):=fun m hm=>HOL.out m (List.mem_of_mem_take hm)
  have sp:=insAll_spec _ rfl ho
  refine ⟨?_,fun m hm=>?_⟩
  ·have:=sp.2.2.2.1
   rw [List.length_take] at this
   omega
  ·have h1:=(sp.2.2.1 m).1 hm
   have:=HML.out m (List.mem_of_mem_take h1)
   omega
 clear HSP hk hox hoy hL hR1 hR2 hx hy kx ky l1 l2 hlens
 have HD0:Hid (TL 0 w w.heap.size (w.alloc (.cells #[] 22)) (.slice (some ⟨w.heap.size,0,none⟩) 0 0) []):=tl_made 0 w w (Nat.le_refl _)
 have HB0:Hid (Below w.heap.size w (w.alloc (.cells #[] 22))):=(Below.refl _ _).alloc (Nat.le_refl _) _
 obtain ⟨LX,hLX⟩:∃ L,Lst k x=L:=⟨_,rfl⟩
 obtain ⟨LY,hLY⟩:∃ L,Lst k y=L:=⟨_,rfl⟩
 have HCX:Hid (∀ w',Below w.heap.size w w'→Calls Tryz.prog 64 #[.int .i64 k,.slice ax x.flat.length cx] w' fun e w''=>∃ u,e=.returned u∧TL 0 w w'.heap.size w'' u LX∧Below w'.heap.size w' w''):=fun w' hb=>by
  rw [← hLX];exact HLX.out w w' _ _ hb (NL.zero HX.out) HKX.out.1 HKX.out.2.2.1
 have HCY:Hid (∀ w',Below w.heap.size w w'→Calls Tryz.prog 64 #[.int .i64 k,.slice ay y.flat.length cy] w' fun e w''=>∃ u,e=.returned u∧TL 0 w w'.heap.size w'' u LY∧Below w'.heap.size w' w''):=fun w' hb=>by
  rw [← hLY];exact HLY.out w w' _ _ hb (NL.zero HY.out) HKX.out.2.1 HKX.out.2.2.2.1
 rw [hLX,hLY] at HL
 rw [hLX,hLY] at HKX
 clear hLX hLY HLX HLY
 go_enter Tryz.func43,Tryz.ntmps43
 go_wp2_with fail
 refine (HCX.out _ HB0.out).mono ?_
 rintro e w1 ⟨r1,rfl,ht1,hb1⟩
 have HT1:Hid (TL 0 w w.heap.size w1 r1 LX):=ht1.mono (by simp)
 have HB1:Hid (Below w.heap.size w w1):=go_on HB0.out hb1
 have HD1:Hid (TL 0 w w.heap.size w1 (.slice (some ⟨w.heap.size,0,none⟩) 0 0) []):=HD0.out.below hb1
 clear ht1 hb1 HD0 HB0
 go_wp2_with (at_builtin;refine wpList_append_b rfl _ _ rfl w w.heap.size _ [] rfl HD1.out _ LX rfl HT1.out.rl (by have:=HKX.out.2.2.2.2;simp;omega) HB1.out.size ?_)
 intro v2 w2 ht2 hb2
 have ht2:TL 0 w w.heap.size w2 v2 LX:=ht2
 have HB2:Hid (Below w.heap.size w w2):=HB1.out.trans hb2
 obtain ⟨o2,d2,rfl⟩:=ht2.shape
 have HT2:Hid (TL 0 w w.heap.size w2 (.slice o2 LX.length d2) LX):=ht2
 clear ht2 hb2 HD1 HT1
 go_wp2_with fail
 refine (HCY.out _ HB2.out).mono ?_
 rintro e w3 ⟨r3,rfl,ht3,hb3⟩
 have HT3:Hid (TL 0 w w.heap.size w3 r3 LY):=ht3.mono HB2.out.size
 have HB3:Hid (Below w.heap.size w w3):=go_on HB2.out hb3
 have HT23:Hid (TL 0 w w.heap.size w3 (.slice o2 LX.length d2) LX):=HT2.out.below hb3
 clear ht3 hb3 HT2 HB2 HCX HCY
 go_wp2_with (at_builtin;refine wpList_append_b rfl _ _ rfl w w.heap.size _ LX rfl HT23.out _ LY rfl HT3.out.rl (by have:=HKX.out.2.2.2.2;omega) HB3.out.size ?_)
 intro v4 w4 ht4 hb4
 rw [HL.out] at ht4
 have HB4:Hid (Below w.heap.size w w4):=HB3.out.trans hb4
 obtain ⟨la,lc,rfl⟩:=ht4.shape
 have HT4:Hid (TL 0 w w.heap.size w4 (.slice la L.length lc) L):=ht4
 clear ht4 hb4 HT3 HT23 HB3 HL
 have hLI:(L.length:Int)≤8990:=by omega
 go_wp2_with fail
 go_loopw [8,10] (fun vl vi wr=>∃ i:Nat,i≤L.length∧vi=.int .i64 i∧TL 0 w w4.heap.size wr vl (insAll (L.take i))∧(∀ j,j<i→L.getD j tNone≠zeroK k)∧Below w4.heap.size w4 wr) (fun _ vi _=>L.length - (intOf vi).toNat)
 case atStart=>exact ⟨0,Nat.zero_le _,rfl,tl_nil _ _ _ _,fun j hj=>by omega,Below.refl _ _⟩
 case round =>
  obtain ⟨i,hi,rfl,hti,hne,hbr⟩:=hrel
  obtain ⟨ma,mc,rfl⟩:=hti.shape
  have HTI:Hid (TL 0 w w4.heap.size wr (.slice ma (insAll (L.take i)).length mc) (insAll (L.take i))):=hti
  have HNE:Hid (∀ j,j<i→L.getD j tNone≠zeroK k):=hne
  have HBR:Hid (Below w4.heap.size w4 wr):=hbr
  have HBW:Hid (Below w.heap.size w wr):=go_on HB4.out hbr
  clear hti hne hbr
  by_cases hlt : i < L.length
  ·have hiI:(i:Int)<L.length:=by omega
   obtain ⟨g,a',c',rfl,hg,_,hcell,hnr,hcc⟩:=HT4.out.get hlt
   have HOK:Hid ((L.getD i tNone).ok∧(L.getD i tNone).flat.length≤8991):=⟨HOL.out _ (getD_mem hlt),HML.out _ (getD_mem hlt)⟩
   have HNX:Hid (insAll (L.take (i+1))=ins (L.getD i tNone) (insAll (L.take i))):=by show _=_;rw [takeT_next hlt,insAll_snoc]
   have HIM:Hid (L.getD i tNone ∈ L):=getD_mem hlt
   obtain ⟨t,hts⟩:∃ t,L.getD i tNone=t:=⟨_,rfl⟩
   rw [hts] at hcell hnr hcc HOK HNX HIM
   have HTS:Hid (L.getD i tNone=t):=hts
   have HNR:Hid (NReads w (.slice a' t.flat.length c') t.flat):=hnr.1
   have HCC:Hid (t.flat.length≤c'):=hcc
   have HCE:Hid (∀ w',Below w4.heap.size w4 w'→w'.cell? ⟨g,i,none⟩=some (.slice a' t.flat.length c')):=fun w' hb=>by rw [below_cell hb hg];exact hcell
   have cc:=HCE.out wr HBR.out
   clear hts hcell hnr hcc
   obtain ⟨M,hM⟩:∃ M,insAll (L.take i)=M:=⟨_,rfl⟩
   rw [hM] at HTI HNX
   have HIL2:Hid (M.length≤9000∧∀ m ∈ M,m.flat.length≤9000):=by rw [← hM];exact HIL.out i
   rw [hM]
   clear hM
   by_cases hz : t = zeroK k
   ·have HZ:Hid (decide (t=unitK k2)=true):=by show _=_;rw [HUZ.out];simpa using hz
    have HRE:Hid (R=t):=by show _=_;rw [HR1.out (by rw [← hz];exact HIM.out),hz]
    obtain ⟨i0,hi0,hz0,hz1,hz2⟩:=info_parts Tryz.info_node
    have hzl:=ndC_length t.flat
    have h1c:=ndC_one t.flat
    clear hz
    go_wp2_with fail
    refine (idle_any k2 HK2.out t HOK.out.1 true HZ.out _ _ _ (HNR.out.stay HBW.out) (by have:=HOK.out.2;omega)).mono ?_
    rintro e w5 ⟨rfl,hb5⟩
    have HB5:Hid (Below w.heap.size w w5):=go_on HBW.out hb5
    have cc5:=HCE.out w5 (go_on HBR.out hb5)
    clear hb5 cc
    obtain ⟨g2,o2',e2⟩:∃ g o,a'=some ⟨g,o,none⟩:=by
     obtain ⟨av,cp,e,hr⟩:=HNR.out
     obtain ⟨g,o,e',_⟩:=hr 0 t.len_pos
     cases e
     exact ⟨g,o,e'⟩
    subst e2
    have HO0:Hid ((w5.alloc (.cells #[] 51)).ownsRow w5.heap.size 51 2 (.slice (some ⟨w5.heap.size,0,none⟩) 0 0) 0 []):=World.ownsRow_made w5 #[] 0 (Nat.le_refl _) (by unfold maxLen;omega) rfl
    have HB6:Hid (Below w.heap.size w (w5.alloc (.cells #[] 51))):=HB5.out.alloc HB5.out.size _
    have HN6:Hid (∀ j u,(ndC t.flat)[j]?=some u→(w5.alloc (.cells #[] 51)).cell? ((⟨g2,o2',none⟩:Addr).add j)=some u):=nreads_cells (HNR.out.stay HB6.out)
    have htl:t.flat.length≤8991:=HOK.out.2
    have cc6:(w5.alloc (.cells #[] 51)).cell? ⟨g,i,none⟩=some (.slice (some ⟨g2,o2',none⟩) t.flat.length c'):=by
     rw [World.cell?_alloc_some _ _ _ (by rw [cc5];rfl)];exact cc5
    go_wp2_with (at_builtin;refine wpList_append_own _ rfl _ _ 22 rfl w5.heap.size 51 i0 (.agg #[.int .i64 0,.int .u8 0]) 2 16 Tryz.underlying22 hi0 hz0 hz1 hz2 rfl (by decide) _ _ _ rfl HO0.out ⟨g2,o2',none⟩ t.flat.length c' (ndC t.flat) rfl hzl HN6.out h1c (by unfold maxLen;omega) (by omega) (by simp) ?_)
    intro v7 w7 ho7 hg7 _
    have HB7:Hid (Below w.heap.size w w7):=HB6.out.grown hg7 HB6.out.size (fun k hk=>Nat.le_trans HB5.out.size (HO0.out.lt k hk).1)
    have HO7:Hid (w7.ownsRow w.heap.size 51 2 v7 t.flat.length (ndC t.flat)):=own_mono ho7 HB5.out.size
    clear ho7 hg7 cc5 cc6
    go_wp2_with fail
    go_ret
    exact ⟨_,rfl,by rw [HRE.out];exact HO7.out,HB7.out⟩
   ·have HZ:Hid (decide (t=unitK k2)=false):=by show _=_;rw [HUZ.out];simpa using hz
    have HZN:Hid (t≠zeroK k):=hz
    clear hz
    go_wp2_with fail
    refine (idle_any k2 HK2.out t HOK.out.1 false HZ.out _ _ _ (HNR.out.stay HBW.out) (by have:=HOK.out.2;omega)).mono ?_
    rintro e w5 ⟨rfl,hb5⟩
    have HB5:Hid (Below w4.heap.size w4 w5):=go_on HBR.out hb5
    have HBW5:Hid (Below w.heap.size w w5):=go_on HBW.out hb5
    have HT5:Hid (TL 0 w w4.heap.size w5 (.slice ma M.length mc) M):=HTI.out.below hb5
    have cc5:=HCE.out w5 HB5.out
    clear hb5 cc
    go_wp2_with fail
    refine (putT_any w w5 w4.heap.size M t _ _ _ HBW5.out HB4.out.size HB5.out.size HT5.out (NL.zero HNR.out) HCC.out HIL2.out.2 HIL2.out.1 (by have:=HOK.out.2;omega)).mono ?_
    rintro e w6 ⟨u6,rfl,ht6,hb6⟩
    have HT6:Hid (TL 0 w w4.heap.size w6 u6 (insAll (L.take (i+1)))):=by show TL _ _ _ _ _ _;rw [HNX.out];exact ht6
    have HB6:Hid (Below w4.heap.size w4 w6):=go_on HB5.out hb6
    clear ht6 hb6 cc5
    go_wp2_with fail
    go_roundw
    case rel=>exact ⟨i+1,by omega,by go_num,HT6.out,fun j hj=>by
     by_cases e : j < i
     ·exact HNE.out j e
     ·obtain rfl:j=i:=by omega
      rw [HTS.out];exact HZN.out,HB6.out⟩
    case measure=>simp [intOf];omega
  ·obtain rfl:i=L.length:=by omega
   have hiI:¬ (L.length:Int)<L.length:=by omega
   rw [List.take_length] at HTI ⊢
   have HNZ:Hid (zeroK k ∉ L):=fun hm=>by
    obtain ⟨j,hj,e⟩:=List.mem_iff_getElem.1 hm
    refine HNE.out j hj ?_
    rw [List.getD_eq_getElem?_getD,List.getElem?_eq_getElem hj]
    exact e
   have HRE:Hid (R=if insAll L=[] then unitK k else build k (insAll L)):=HR2.out HNZ.out
   obtain ⟨M,hM⟩:∃ M,insAll L=M:=⟨_,rfl⟩
   rw [hM] at HTI HRE HMO HMN ⊢
   have hMn:M.length≤9000:=by have:=(HIL.out L.length).1;rw [List.take_length,hM] at this;exact this
   clear hM HNZ HNE HIL
   by_cases hm0 : M = []
   ·subst hm0
    have HRE2:Hid (R=unitK k):=by show _=_;rw [HRE.out,if_pos rfl]
    rcases hk1 with rfl | rfl
    ·go_wp2_with fail
     refine (rnone_any _).mono ?_
     rintro e w5 ⟨u,rfl,ho,hb⟩
     have HO:Hid (w5.ownsRow w.heap.size 51 2 u tNone.flat.length (ndC tNone.flat)):=own_mono ho HBW.out.size
     have HB:Hid (Below w.heap.size w w5):=go_on HBW.out hb
     clear ho hb
     go_wp2_with fail
     go_ret
     exact ⟨_,rfl,by rw [HRE2.out];exact HO.out,HB.out⟩
    ·go_wp2_with fail
     refine (rall_any _).mono ?_
     rintro e w5 ⟨u,rfl,ho,hb⟩
     have HO:Hid (w5.ownsRow w.heap.size 51 2 u tAll.flat.length (ndC tAll.flat)):=own_mono ho HBW.out.size
     have HB:Hid (Below w.heap.size w w5):=go_on HBW.out hb
     clear ho hb
     go_wp2_with fail
     go_ret
     exact ⟨_,rfl,by rw [HRE2.out];exact HO.out,HB.out⟩
   ·have HRE2:Hid (R=build k M):=by show _=_;rw [HRE.out,if_neg hm0]
    have hm1:0<M.length:=List.length_pos_iff.2 hm0
    have hmI:((M.length:Int) == 0)=false:=by rw [beq_eq_false_iff_ne];omega
    have hmI2:(0:Int)<M.length:=by omega
    obtain ⟨mg,a0,c0,rfl,hmg,_,hcell,hnr,hcc⟩:=HTI.out.get hm1
    have HN0:Hid (M≠[]):=hm0
    obtain ⟨m0,hm0e⟩:∃ m,M.getD 0 tNone=m:=⟨_,rfl⟩
    have HM0:Hid (build k (M.take 1)=m0):=by
     show _ = _
     rw [← hm0e]
     cases M with
     | nil=>exact absurd rfl hm0
     | cons m l=>simp [build]
    have HM0L:Hid (m0.flat.length+1≤8992):=by
     show _ ≤ _
     rw [← hm0e]
     have:=mem_len (getD_mem hm1)
     have:=HMN.out
     omega
    rw [hm0e] at hcell hnr hcc
    obtain ⟨g0,o0,e0⟩:∃ g o,a0=some ⟨g,o,none⟩:=by
     obtain ⟨av,cp,e,hr⟩:=hnr.1
     obtain ⟨g,o,e',_⟩:=hr 0 m0.len_pos
     cases e
     exact ⟨g,o,e'⟩
    subst e0
    have HNR0:Hid (NReads w (.slice (some ⟨g0,o0,none⟩) m0.flat.length c0) m0.flat):=hnr.1
    have HO0:Hid ((wr.alloc (.cells #[] 51)).ownsRow wr.heap.size 51 2 (.slice (some ⟨wr.heap.size,0,none⟩) 0 0) 0 []):=World.ownsRow_made wr #[] 0 (Nat.le_refl _) (by unfold maxLen;omega) rfl
    have HB6:Hid (Below w.heap.size w (wr.alloc (.cells #[] 51))):=HBW.out.alloc HBW.out.size _
    have HN6:Hid (∀ j u,(ndC m0.flat)[j]?=some u→(wr.alloc (.cells #[] 51)).cell? ((⟨g0,o0,none⟩:Addr).add j)=some u):=nreads_cells (HNR0.out.stay HB6.out)
    have cc6:(wr.alloc (.cells #[] 51)).cell? ⟨mg,0,none⟩=some (.slice (some ⟨g0,o0,none⟩) m0.flat.length c0):=by
     rw [World.cell?_alloc_some _ _ _ (by rw [hcell];rfl)];exact hcell
    obtain ⟨i0,hi0,hz0,hz1,hz2⟩:=info_parts Tryz.info_node
    have hzl:=ndC_length m0.flat
    have h1c:=ndC_one m0.flat
    have htl:m0.flat.length≤8991:=by have:=HM0L.out;omega
    clear hm0e hnr hcc hm0
    go_wp2_with (at_builtin;refine wpList_append_own _ rfl _ _ 22 rfl wr.heap.size 51 i0 (.agg #[.int .i64 0,.int .u8 0]) 2 16 Tryz.underlying22 hi0 hz0 hz1 hz2 rfl (by decide) _ _ _ rfl HO0.out ⟨g0,o0,none⟩ m0.flat.length c0 (ndC m0.flat) rfl hzl HN6.out h1c (by unfold maxLen;omega) (by omega) (by simp) ?_)
    intro v7 w7 ho7 hg7 _
    have hb7:Below wr.heap.size wr w7:=((Below.refl wr.heap.size wr).alloc (Nat.le_refl _) _).grown hg7 (by simp) (fun k hk=>(HO0.out.lt k hk).1)
    have HB7:Hid (Below w.heap.size w w7):=go_on HBW.out hb7
    have HO7:Hid (w7.ownsRow w.heap.size 51 2 v7 m0.flat.length (ndC m0.flat)):=own_mono ho7 HBW.out.size
    have HT7:Hid (TL 0 w w4.heap.size w7 (.slice (some ⟨mg,0,none⟩) M.length mc) M):=HTI.out.below hb7
    clear ho7 hg7 hb7 cc6 hcell HO0 HB6 HN6 hzl h1c
    go_wp2_with fail
    go_loopw [11,12] (fun vo vi wq=>∃ i:Nat,1≤i∧i≤M.length∧vi=.int .i64 i∧wq.ownsRow w.heap.size 51 2 vo (build k (M.take i)).flat.length (ndC (build k (M.take i)).flat)∧Below w7.heap.size w7 wq) (fun _ vi _=>M.length - (intOf vi).toNat)
    case atStart=>exact ⟨1,Nat.le_refl _,hm1,rfl,by rw [HM0.out];exact HO7.out,Below.refl _ _⟩
    case round =>
     clear HM0 HO7
     obtain ⟨i,hi1,hi,rfl,ho,hbq⟩:=hrel
     have HBQ:Hid (Below w7.heap.size w7 wr):=hbq
     have HBWQ:Hid (Below w.heap.size w wr):=go_on HB7.out hbq
     by_cases hlt : i < M.length
     ·have hiI:(i:Int)<M.length:=by omega
      have HLT:Hid (1≤i∧i<M.length):=⟨hi1,hlt⟩
      obtain ⟨b,hbd⟩:∃ b,build k (M.take i)=b:=⟨_,rfl⟩
      obtain ⟨mg',ai,ci,e1,hmg',_,hcell,hnr,hcc⟩:=HT7.out.get hlt
      cases e1
      obtain ⟨m,hme⟩:∃ m,M.getD i tNone=m:=⟨_,rfl⟩
      have HNX:Hid (build k (M.take (i+1))=.two (k,0) b m):=by
       show _ = _
       rw [takeT_next hlt,build_snoc _ (by intro e;have:=congrArg List.length e;rw [List.length_take,List.length_nil] at this;omega),hbd,hme]
      have hlen:b.flat.length+m.flat.length+1≤8992:=by
       have h1:=len_build (k:=k) (l:=M.take (i+1)) (by intro e;have:=congrArg List.length e;rw [List.length_take,List.length_nil] at this;omega)
       have h2:=lens_take M (i+1)
       have h3:=HMN.out
       rw [HNX.out] at h1
       simp [Tr.flat] at h1
       omega
      rw [hbd] at ho
      rw [hme] at hcell hnr hcc
      obtain ⟨va,vc,rfl⟩:=own_shape ho
      have HO:Hid (wr.ownsRow w.heap.size 51 2 (.slice va b.flat.length vc) b.flat.length (ndC b.flat)):=ho
      have HNB:Hid (NReads wr (.slice va b.flat.length vc) b.flat):=own_nreads ho
      have HNM:Hid (NReads wr (.slice ai m.flat.length ci) m.flat):=hnr.1.stay HBWQ.out
      have hmq:mg<wr.heap.size:=by have:=HBQ.out.size;omega
      have cq:wr.cell? ⟨mg,i,none⟩=some (.slice ai m.flat.length ci):=by rw [below_cell HBQ.out hmg'];exact hcell
      have S0:SC wr mg i (.slice ai m.flat.length ci) wr.drew:=⟨cq,(Below.refl _ _).drew⟩
      have HPB:Hid (1≤b.flat.length∧1≤m.flat.length):=⟨b.len_pos,m.len_pos⟩
      have HLN:Hid (tot [b.flat,m.flat]+1≤9000):=by show _≤_;rw [tot_two];omega
      clear ho hbq hbd hcell hnr hcc hme hlen
      go_wp2_with fail
      go_region_held3 (fun w'=>SC wr mg i (.slice ai m.flat.length ci) w') (first | exact S0 | assumption | exact sc_step hmq (by assumption) (by assumption) | exact sc_alloc hmq _ S0 | exact sc_alloc hmq _ (by assumption)) (first
       | (go_at_call 70;refine (rnode_any k _).mono ?_;rintro e y1 ⟨rfl,hbn⟩)
       | (go_at_call 69;refine (made_any k 0 _ [b.flat,m.flat] _ (by first | exact nr_lit2 (HNB.out.stay (go_on (Below.refl wr.heap.size wr).drew hbn)) (HNM.out.stay (go_on (Below.refl wr.heap.size wr).drew hbn)) | exact (nr_lit2 (w:=wr) HNB.out HNM.out).stay (go_on (Below.refl _ _).drew hbn)) (two_pos HPB.out.1 HPB.out.2) HLN.out (by simp)).mono ?_;rintro e y2 ⟨um,rfl,hom,hbm⟩))
      all_goals (
       have hS:SC wr mg i (.slice ai m.flat.length ci) y2:=by first | assumption | exact sc_step hmq (by assumption) (by assumption)
       have HOM:Hid (y2.ownsRow w.heap.size 51 2 um (build k (M.take (i+1))).flat.length (ndC (build k (M.take (i+1))).flat)):=by
        show World.ownsRow _ _ _ _ _ _ _
        rw [HNX.out]
        have h:=own_mono hom (show w.heap.size≤_ by
         have h1:=HBWQ.out.size
         have h2:=hbn.size
         have h3:wr.drew.heap.size=wr.heap.size:=rfl
         have h4:(wr.alloc (.cells #[.slice va b.flat.length vc,.slice ai m.flat.length ci] 22)).drew.heap.size=(wr.alloc (.cells #[.slice va b.flat.length vc,.slice ai m.flat.length ci] 22)).heap.size:=rfl
         simp only [World.size_alloc] at *
         omega)
        simpa [Tr.flat] using h
       have HBY:Hid (Below w7.heap.size w7 y2):=go_on HBQ.out hS.2
       clear hS S0 cq hom hbm hbn
       go_wp2_with fail
       go_roundw
       case rel=>exact ⟨i+1,by have:=HLT.out;omega,by have:=HLT.out;omega,by go_num,HOM.out,HBY.out⟩
       case measure=>have:=HLT.out;simp [intOf];omega)
     ·obtain rfl:i=M.length:=by omega
      have hiI:¬ (M.length:Int)<M.length:=by omega
      rw [List.take_length] at ho
      have HOR:Hid (wr.ownsRow w.heap.size 51 2 u11 R.flat.length (ndC R.flat)):=by show World.ownsRow _ _ _ _ _ _ _;rw [HRE2.out];exact ho
      clear ho hbq
      go_wp2_with fail
      go_ret
      exact ⟨_,rfl,HOR.out,HBWQ.out⟩

theorem several_any (k : Int) (hk : k = 5 ∨ k = 6) (x y : Tr) (hox : x.ok) (hx : NF x) (hoy : y.ok) (hy : NF y) (ax ay : Option Addr) (cx cy : Nat) (w : World) (hvx : NReads w (.slice ax x.flat.length cx) x.flat) (hvy : NReads w (.slice ay y.flat.length cy) y.flat) (kx : x.flat.length ≤ cx) (ky : y.flat.length ≤ cy) (hl : x.flat.length + y.flat.length ≤ 8990) :
  Calls Tryz.prog 43 #[.int .i64 k,.slice ax x.flat.length cx,.slice ay y.flat.length cy] w (Own w (R2 k x y)):=by
 have hz:zeroK k ∈ Lst k x ++ Lst k y↔x=zeroK k∨y=zeroK k:=by rw [List.mem_append,ulst_zero hk hox hx,ulst_zero hk hoy hy]
 refine several_L k (11 - k) (by omega) x y hox hoy _ rfl _ (fun h=>R2_zero (hz.1 h)) (fun h=>?_) ax ay cx cy w hvx hvy kx ky hl
 have h1:x≠zeroK k:=fun e=>h (hz.2 (.inl e))
 have h2:y≠zeroK k:=fun e=>h (hz.2 (.inr e))
 exact (sev_eq hk hox hx hoy hy h1 h2).symm
end Go.Proofs.YtfdhaknecjcjoaaGreatDoor

namespace Go.Proofs.YtfdhaknecjcjoaaGreatDoor
open Go Go.RowKit
set_option linter.unusedVariables false

def Fc (T:Tr):Prop:=∀ (a:Option Addr) (c:Nat) (w:World),NReads w (.slice a T.flat.length c) T.flat→T.flat.length≤c→T.flat.length≤4000 →
  Calls Tryz.prog 27 #[.slice a T.flat.length c] w (Own w (nrm T))
abbrev SQ (W:World) (rb:Nat) (k:Int) (lg lo:Nat) (u0 u1:Value) (w':World):Prop:=w'.cell? ⟨rb,0,none⟩=some (.int .i64 k)∧w'.cell? ⟨lg,lo,none⟩=some u0∧w'.cell? ⟨lg,lo+1,none⟩=some u1∧Below W.heap.size W w'
theorem sq_step {W:World} {rb:Nat} {k:Int} {lg lo:Nat} {u0 u1:Value} {w1 w2:World} (h0:rb<W.heap.size) (h1:lg<W.heap.size) (hb:Below w1.heap.size w1 w2) (h:SQ W rb k lg lo u0 u1 w1):SQ W rb k lg lo u0 u1 w2:=by
 have hs:=h.2.2.2.size
 refine ⟨?_,?_,?_,go_on h.2.2.2 hb⟩
 ·rw [below_cell hb (by omega)];exact h.1
 ·rw [below_cell hb (by omega)];exact h.2.1
 ·rw [below_cell hb (by omega)];exact h.2.2.1
theorem sq_below {W:World} {rb:Nat} {k:Int} {lg lo:Nat} {u0 u1:Value} {w':World} (h:SQ W rb k lg lo u0 u1 w'):Below W.heap.size W w':=h.2.2.2

set_option maxHeartbeats 4000000 in
set_option maxRecDepth 100000 in
theorem form_zero (n:Nd) (hT:(Tr.zero n).ok):Fc (.zero n):=by
 intro a c w hv hc hl
 unfold Own
 obtain ⟨k,s⟩:=n
 have HE:Hid (nrm (Tr.zero (k,s))=.zero (k,s)):=rfl
 rw [HE.out]
 have HT:Hid ((Tr.zero (k,s)).ok):=hT
 have h5:(k == 5)=false:=by rw [beq_eq_false_iff_ne];rintro rfl;have:=hT.2;simp [arity] at this
 have h6:(k == 6)=false:=by rw [beq_eq_false_iff_ne];rintro rfl;have:=hT.2;simp [arity] at this
 have h7:(k == 7)=false:=by rw [beq_eq_false_iff_ne];rintro rfl;have:=hT.2;simp [arity] at this
 have h8:(k == 8)=false:=by rw [beq_eq_false_iff_ne];rintro rfl;have:=hT.2;simp [arity] at this
 have h9:(k == 9)=false:=by rw [beq_eq_false_iff_ne];rintro rfl;have:=hT.2;simp [arity] at this
 show Calls Tryz.prog 27 #[.slice a 1 c] w _
 have HV:Hid (NReads w (.slice a 1 c) (Tr.zero (k,s)).flat):=hv
 have HK:Hid (Cap (.slice a 1 c)):=fun a' n' c' e=>by cases e;exact hc
 obtain ⟨av,cv,e,hrd⟩:=hv
 obtain ⟨g,o,rfl,hg,c1,c2⟩:=hrd 0 (by simp [Tr.flat])
 cases e
 simp only [Tr.flat,List.getD_cons_zero,Nat.zero_mul,Nat.add_zero] at c1 c2
 obtain ⟨i0,hi0,hz0,hz1,hz2⟩:=info_parts Tryz.info_node
 have HBA:Hid (Below w.heap.size w (w.alloc (.cells #[.int .i64 k,.int .u8 s] 51))):=(Below.refl _ _).alloc (Nat.le_refl _) _
 have HNA:Hid (NB (w.alloc (.cells #[.int .i64 k,.int .u8 s] 51)) w.heap.size k s):=NB.new w k s
 have hzl:=ndC_length (Tr.zero (k,s)).flat
 have h1c:=ndC_one (Tr.zero (k,s)).flat
 clear hrd hT hc hl
 go_enter Tryz.func27,Tryz.ntmps27
 go_wp2_with fail
 generalize w.alloc (.cells #[.int .i64 k,.int .u8 s] 51)=wA at HBA HNA ⊢
 refine (cutW_any 0 wA _ (Tr.zero (k,s)).flat _ (Below.refl _ _) (NL.zero (HV.out.stay HBA.out)) (by simp [Tr.flat]) (Tr.ok_free _ HT.out) HK.out).mono ?_
 rintro e w1 ⟨u,rfl,hp1,hb1⟩
 rw [cut_flat_zero HT.out] at hp1
 obtain ⟨ua,uc,rfl,_⟩:=hp1
 have HB1:Hid (Below w.heap.size w w1):=go_on HBA.out hb1
 have d0:=(HNA.out.keep hb1).fst
 have HO0:Hid ((w1.alloc (.cells #[] 51)).ownsRow w1.heap.size 51 2 (.slice (some ⟨w1.heap.size,0,none⟩) 0 0) 0 []):=World.ownsRow_made w1 #[] 0 (Nat.le_refl _) (by unfold maxLen;omega) rfl
 have HB6:Hid (Below w.heap.size w (w1.alloc (.cells #[] 51))):=HB1.out.alloc HB1.out.size _
 have HN6:Hid (∀ j u,(ndC (Tr.zero (k,s)).flat)[j]?=some u→(w1.alloc (.cells #[] 51)).cell? ((⟨g,o,none⟩:Addr).add j)=some u):=nreads_cells (HV.out.stay HB6.out)
 clear hb1 c1 c2
 go_wp2_with (at_builtin;refine wpList_append_own _ rfl _ _ 22 rfl w1.heap.size 51 i0 (.agg #[.int .i64 0,.int .u8 0]) 2 16 Tryz.underlying22 hi0 hz0 hz1 hz2 rfl (by decide) _ _ _ rfl HO0.out ⟨g,o,none⟩ 1 c (ndC (Tr.zero (k,s)).flat) rfl hzl HN6.out h1c (by unfold maxLen;omega) (by omega) (by simp) ?_)
 intro v7 w7 ho7 hg7 _
 have HB7:Hid (Below w.heap.size w w7):=HB6.out.grown hg7 HB6.out.size (fun k hk=>Nat.le_trans HB1.out.size (HO0.out.lt k hk).1)
 have HO7:Hid (w7.ownsRow w.heap.size 51 2 v7 1 (ndC (Tr.zero (k,s)).flat)):=own_mono ho7 HB1.out.size
 clear ho7 hg7 d0
 go_wp2_with fail
 go_ret
 exact ⟨_,rfl,HO7.out,HB7.out⟩

set_option maxHeartbeats 4000000 in
set_option maxRecDepth 100000 in
theorem form_one (n:Nd) (A:Tr) (hT:(Tr.one n A).ok) (iA:Fc A):Fc (.one n A):=by
 intro a c w hv hc hl
 unfold Own
 have hen:=good_one hT.1 hT.2.1
 have hok:=nrm_ok hT.2.2
 have hln:=nrm_len hT.2.2
 have hlen:(Tr.one n A).flat.length=A.flat.length+1:=by simp [Tr.flat]
 have HT:Hid ((Tr.one n A).ok):=hT
 have HV:Hid (NReads w (.slice a (Tr.one n A).flat.length c) (Tr.one n A).flat):=hv
 have HK:Hid (Cap (.slice a (Tr.one n A).flat.length c)):=fun a' n' c' e=>by cases e;exact hc
 obtain ⟨av,cv,e,hrd⟩:=hv
 obtain ⟨g,o,rfl,hg,c1,c2⟩:=hrd ((Tr.one n A).flat.length - 1) (by omega)
 cases e
 rw [uflat_last] at c1 c2
 obtain ⟨m,hm⟩:∃ m,(Tr.one n A).flat.length - 1=m:=⟨_,rfl⟩
 rw [hm] at c1 c2
 obtain ⟨N,hN⟩:∃ N,(Tr.one n A).flat.length=N:=⟨_,rfl⟩
 have hmI:(N:Int) - 1=m:=by omega
 have hmN:(m:Int)<N:=by omega
 have HN4:Hid ((Tr.one n A).flat.length≤9000):=by show _≤_;omega
 have hA4:A.flat.length≤4000:=by omega
 have hN4:N≤4000:=by omega
 rw [hN] at HV HK ⊢
 have hk89:=ar1 hT.2.1
 obtain ⟨k,s⟩:=n
 have hs0:s=0:=by have:=congrArg Prod.snd hen;exact this
 subst hs0
 have hc0:(Tr.one (k,0) A).root=(k,0):=rfl
 rw [hc0] at c1 c2
 simp only at c1 c2 hk89
 have HIA:Hid (∀ a c w,NReads w (.slice a A.flat.length c) A.flat→A.flat.length≤c→Calls Tryz.prog 27 #[.slice a A.flat.length c] w (Own w (nrm A))):=fun a c w h1 h2=>iA a c w h1 h2 hA4
 have HBA:Hid (Below w.heap.size w (w.alloc (.cells #[.int .i64 k,.int .u8 0] 51))):=(Below.refl _ _).alloc (Nat.le_refl _) _
 have HNA:Hid (NB (w.alloc (.cells #[.int .i64 k,.int .u8 0] 51)) w.heap.size k 0):=NB.new w k 0
 obtain ⟨R,hR⟩:∃ R,nrm A=R:=⟨_,rfl⟩
 rw [hR] at HIA hok hln
 have HRO:Hid R.ok:=hok.1
 have hRl:R.flat.length≤4000:=by omega
 have HX:Hid (nrm (.one (k,0) A)=if k=8 then RS R else RN R):=by show _=_;rw [nrm,hR]
 clear hrd hT hc hl iA hen hok hln hlen hm hN hc0 hR
 rcases hk89 with rfl | rfl
 ·have HX2:Hid (nrm (.one (8,0) A)=RS R):=by show _=_;rw [HX.out,if_pos rfl]
  rw [HX2.out]
  go_enter Tryz.func27,Tryz.ntmps27
  go_wp2_with fail
  generalize w.alloc (.cells #[.int .i64 8,.int .u8 0] 51)=wA at HBA HNA ⊢
  refine (cutW_any 0 wA _ (Tr.one (8,0) A).flat _ (Below.refl _ _) (NL.zero (HV.out.stay HBA.out)) HN4.out (Tr.ok_free _ HT.out) HK.out).mono ?_
  rintro e w1 ⟨u,rfl,hp1,hb1⟩
  rw [cut_flat_one HT.out] at hp1
  obtain ⟨ua,uc,rfl,hpi⟩:=hp1
  obtain ⟨lg,lo,a0,c0,rfl,hlg,hl0,hu0,hk0⟩:=hpi 0 (by simp)
  rw [Nat.add_zero] at hl0
  simp only [List.getD_cons_zero] at hl0 hu0 hk0
  have HU0:Hid (NReads w1 (.slice a0 A.flat.length c0) A.flat):=hu0.1.stay hb1
  have HK0:Hid (A.flat.length≤c0):=hk0
  have HB1:Hid (Below w.heap.size w w1):=go_on HBA.out hb1
  have d0:=(HNA.out.keep hb1).fst
  clear hb1 c1 c2 hpi hu0 hk0
  go_wp2_with fail
  refine (HIA.out _ _ _ HU0.out HK0.out).mono ?_
  rintro e w2 ⟨r,rfl,ho2,hb2⟩
  have HR2:Hid (NReads w2 r R.flat):=own_nreads ho2
  have HB2:Hid (Below w.heap.size w w2):=go_on HB1.out hb2
  clear ho2 hb2 d0 hl0
  go_wp2_with fail
  refine (again_any R HRO.out r _ HR2.out (by omega)).mono ?_
  rintro e w3 ⟨z,rfl,ho3,hb3⟩
  have HO3:Hid (w3.ownsRow w.heap.size 51 2 z (RS R).flat.length (ndC (RS R).flat)):=own_mono ho3 HB2.out.size
  have HB3:Hid (Below w.heap.size w w3):=go_on HB2.out hb3
  clear ho3 hb3
  go_wp2_with fail
  go_ret
  exact ⟨_,rfl,HO3.out,HB3.out⟩
 ·have HX2:Hid (nrm (.one (9,0) A)=RN R):=by show _=_;rw [HX.out,if_neg (by decide)]
  rw [HX2.out]
  go_enter Tryz.func27,Tryz.ntmps27
  go_wp2_with fail
  generalize w.alloc (.cells #[.int .i64 9,.int .u8 0] 51)=wA at HBA HNA ⊢
  refine (cutW_any 0 wA _ (Tr.one (9,0) A).flat _ (Below.refl _ _) (NL.zero (HV.out.stay HBA.out)) HN4.out (Tr.ok_free _ HT.out) HK.out).mono ?_
  rintro e w1 ⟨u,rfl,hp1,hb1⟩
  rw [cut_flat_one HT.out] at hp1
  obtain ⟨ua,uc,rfl,hpi⟩:=hp1
  obtain ⟨lg,lo,a0,c0,rfl,hlg,hl0,hu0,hk0⟩:=hpi 0 (by simp)
  rw [Nat.add_zero] at hl0
  simp only [List.getD_cons_zero] at hl0 hu0 hk0
  have HU0:Hid (NReads w1 (.slice a0 A.flat.length c0) A.flat):=hu0.1.stay hb1
  have HK0:Hid (A.flat.length≤c0):=hk0
  have HB1:Hid (Below w.heap.size w w1):=go_on HBA.out hb1
  have d0:=(HNA.out.keep hb1).fst
  clear hb1 c1 c2 hpi hu0 hk0
  go_wp2_with fail
  refine (HIA.out _ _ _ HU0.out HK0.out).mono ?_
  rintro e w2 ⟨r,rfl,ho2,hb2⟩
  have HR2:Hid (NReads w2 r R.flat):=own_nreads ho2
  have HKR:Hid (Cap r):=uown_cap ho2
  have HB2:Hid (Below w.heap.size w w2):=go_on HB1.out hb2
  clear ho2 hb2 d0 hl0
  go_wp2_with fail
  refine (other_any R HRO.out r _ HR2.out (by omega) HKR.out).mono ?_
  rintro e w3 ⟨z,rfl,ho3,hb3⟩
  have HO3:Hid (w3.ownsRow w.heap.size 51 2 z (RN R).flat.length (ndC (RN R).flat)):=own_mono ho3 HB2.out.size
  have HB3:Hid (Below w.heap.size w w3):=go_on HB2.out hb3
  clear ho3 hb3
  go_wp2_with fail
  go_ret
  exact ⟨_,rfl,HO3.out,HB3.out⟩
end Go.Proofs.YtfdhaknecjcjoaaGreatDoor

namespace Go.Proofs.YtfdhaknecjcjoaaGreatDoor
open Go Go.RowKit
set_option linter.unusedVariables false


set_option maxHeartbeats 16000000 in
set_option maxRecDepth 100000 in
theorem form_two5 (A B:Tr) (hT:(Tr.two (5,0) A B).ok) (iA:Fc A) (iB:Fc B):Fc (.two (5,0) A B):=by
 intro a c w hv hc hl
 unfold Own
 have hokA:=nrm_ok hT.2.2.1
 have hokB:=nrm_ok hT.2.2.2
 have hlnA:=nrm_len hT.2.2.1
 have hlnB:=nrm_len hT.2.2.2
 have hlen:(Tr.two (5,0) A B).flat.length=A.flat.length+B.flat.length+1:=by simp [Tr.flat];omega
 have HT:Hid ((Tr.two (5,0) A B).ok):=hT
 have HV:Hid (NReads w (.slice a (Tr.two (5,0) A B).flat.length c) (Tr.two (5,0) A B).flat):=hv
 have HK:Hid (Cap (.slice a (Tr.two (5,0) A B).flat.length c)):=fun a' n' c' e=>by cases e;exact hc
 obtain ⟨av,cv,e,hrd⟩:=hv
 obtain ⟨g,o,rfl,hg,c1,c2⟩:=hrd ((Tr.two (5,0) A B).flat.length - 1) (by omega)
 cases e
 rw [uflat_last] at c1 c2
 obtain ⟨m,hm⟩:∃ m,(Tr.two (5,0) A B).flat.length - 1=m:=⟨_,rfl⟩
 rw [hm] at c1 c2
 obtain ⟨N,hN⟩:∃ N,(Tr.two (5,0) A B).flat.length=N:=⟨_,rfl⟩
 have hmI:(N:Int) - 1=m:=by omega
 have hmN:(m:Int)<N:=by omega
 have HN4:Hid ((Tr.two (5,0) A B).flat.length≤9000):=by show _≤_;omega
 have hA4:A.flat.length≤4000:=by omega
 have hB4:B.flat.length≤4000:=by omega
 have hN4:N≤4000:=by omega
 rw [hN] at HV HK ⊢
 have hc0:(Tr.two (5,0) A B).root=(5,0):=rfl
 rw [hc0] at c1 c2
 simp only at c1 c2
 have HBA:Hid (Below w.heap.size w (w.alloc (.cells #[.int .i64 5,.int .u8 0] 51))):=(Below.refl _ _).alloc (Nat.le_refl _) _
 have HNA:Hid (NB (w.alloc (.cells #[.int .i64 5,.int .u8 0] 51)) w.heap.size 5 0):=NB.new w 5 0
 have hXe:nrm (.two (5,0) A B)=R2 5 (nrm A) (nrm B):=by
  rw [nrm]
  rw [if_neg (by decide)]
 obtain ⟨RA,hRA⟩:∃ R,nrm A=R:=⟨_,rfl⟩
 obtain ⟨RB,hRB⟩:∃ R,nrm B=R:=⟨_,rfl⟩
 rw [hRA,hRB] at hXe
 rw [hRA] at hokA hlnA
 rw [hRB] at hokB hlnB
 have HIA:Hid (∀ a c w,NReads w (.slice a A.flat.length c) A.flat→A.flat.length≤c→Calls Tryz.prog 27 #[.slice a A.flat.length c] w (Own w RA)):=fun a c w h1 h2=>by rw [← hRA];exact iA a c w h1 h2 hA4
 have HIB:Hid (∀ a c w,NReads w (.slice a B.flat.length c) B.flat→B.flat.length≤c→Calls Tryz.prog 27 #[.slice a B.flat.length c] w (Own w RB)):=fun a c w h1 h2=>by rw [← hRB];exact iB a c w h1 h2 hB4
 obtain ⟨X,hX⟩:∃ X,R2 5 RA RB=X:=⟨_,rfl⟩
 have HCS:Hid (∀ (ra:Option Addr) (ca:Nat) (rb:Option Addr) (cb:Nat) (w:World),NReads w (.slice ra RA.flat.length ca) RA.flat→NReads w (.slice rb RB.flat.length cb) RB.flat→RA.flat.length≤ca→RB.flat.length≤cb→Calls Tryz.prog 43 #[.int .i64 5,.slice ra RA.flat.length ca,.slice rb RB.flat.length cb] w (Own w X)):=fun ra ca rb cb w h1 h2 h3 h4=>by rw [← hX];exact several_any 5 (by decide) RA RB hokA.1 hokA.2 hokB.1 hokB.2 ra rb ca cb w h1 h2 h3 h4 (by omega)
 rw [hXe,hX]
 clear hrd hT hc hl iA iB hokA hokB hlnA hlnB hlen hm hN hc0 hRA hRB hXe hX
 go_enter Tryz.func27,Tryz.ntmps27
 go_wp2_with fail
 generalize w.alloc (.cells #[.int .i64 5,.int .u8 0] 51)=wA at HBA HNA ⊢
 refine (cutW_any 0 wA _ (Tr.two (5,0) A B).flat _ (Below.refl _ _) (NL.zero (HV.out.stay HBA.out)) HN4.out (Tr.ok_free _ HT.out) HK.out).mono ?_
 rintro e w1 ⟨u,rfl,hp1,hb1⟩
 rw [cut_flat_two HT.out] at hp1
 obtain ⟨ua,uc,rfl,hpi⟩:=hp1
 obtain ⟨lg,lo,a0,c0,rfl,hlg,hl0,hu0,hk0⟩:=hpi 0 (by simp)
 obtain ⟨lg',lo',a1,c1',e1,hlg',hl1,hu1,hk1⟩:=hpi 1 (by simp)
 cases e1
 rw [Nat.add_zero] at hl0
 simp only [List.getD_cons_zero,List.getD_cons_succ] at hl0 hu0 hk0 hl1 hu1 hk1
 have HU0:Hid (NReads w1 (.slice a0 A.flat.length c0) A.flat):=hu0.1.stay hb1
 have HU1:Hid (NReads w1 (.slice a1 B.flat.length c1') B.flat):=hu1.1.stay hb1
 have HK0:Hid (A.flat.length≤c0):=hk0
 have HK1:Hid (B.flat.length≤c1'):=hk1
 have HB1:Hid (Below w.heap.size w w1):=go_on HBA.out hb1
 have d0:=(HNA.out.keep hb1).fst
 have hrb:w.heap.size<w1.heap.size:=(HNA.out.keep hb1).lt
 have S0:SQ w1 w.heap.size 5 lg lo (.slice a0 A.flat.length c0) (.slice a1 B.flat.length c1') w1.drew:=⟨d0,hl0,hl1,(Below.refl _ _).drew⟩
 clear hb1 c1 c2 hpi hu0 hk0 hu1 hk1 hl0 hl1
 go_wp2_with fail
 go_region_held3 (fun w'=>SQ w1 w.heap.size 5 lg lo (.slice a0 A.flat.length c0) (.slice a1 B.flat.length c1') w') (first | exact S0 | assumption | exact sq_step hrb hlg (by assumption) (by assumption)) (first
  | (go_at_call 43;refine (HCS.out _ _ _ _ _ (by exact (own_nreads ho0).stay hb5) (by exact own_nreads ho1) (by exact uown_cap ho0 _ _ _ rfl) (by exact uown_cap ho1 _ _ _ rfl)).mono ?_;rintro e y3 ⟨z,rfl,hoz,hbz⟩)
  | (go_at_call 27;have q:=ho0;refine (HIB.out _ _ _ (by exact HU1.out.stay (sq_below (rb:=w.heap.size) (k:=5) (lg:=lg) (lo:=lo) (u0:=.slice a0 A.flat.length c0) (u1:=.slice a1 B.flat.length c1') (by assumption))) HK1.out).mono ?_;rintro e y2 ⟨r1,rfl,ho1,hb5⟩;obtain ⟨ra1,rc1,hs1⟩:=own_shape ho1;subst hs1;clear q)
  | (go_at_call 27;refine (HIA.out _ _ _ (by exact HU0.out.stay (sq_below (rb:=w.heap.size) (k:=5) (lg:=lg) (lo:=lo) (u0:=.slice a0 A.flat.length c0) (u1:=.slice a1 B.flat.length c1') (by first | exact S0 | assumption))) HK0.out).mono ?_;rintro e y1 ⟨r0,rfl,ho0,hb4⟩;obtain ⟨ra0,rc0,hs0⟩:=own_shape ho0;subst hs0))
 all_goals (
  have hS:SQ w1 w.heap.size 5 lg lo (.slice a0 A.flat.length c0) (.slice a1 B.flat.length c1') y3:=by first | assumption | exact sq_step hrb hlg (by assumption) (by assumption)
  have HO3:Hid (y3.ownsRow w.heap.size 51 2 z X.flat.length (ndC X.flat)):=own_mono hoz (by
   have h1:=HB1.out.size
   have h2:=hb4.size
   have h3:=hb5.size
   have h4:w1.drew.heap.size=w1.heap.size:=rfl
   omega)
  have HB3:Hid (Below w.heap.size w y3):=go_on HB1.out hS.2.2.2
  clear hS S0 hoz hbz ho0 ho1 hb4 hb5
  go_wp2_with fail
  go_ret
  exact ⟨_,rfl,HO3.out,HB3.out⟩)


set_option maxHeartbeats 16000000 in
set_option maxRecDepth 100000 in
theorem form_two6 (A B:Tr) (hT:(Tr.two (6,0) A B).ok) (iA:Fc A) (iB:Fc B):Fc (.two (6,0) A B):=by
 intro a c w hv hc hl
 unfold Own
 have hokA:=nrm_ok hT.2.2.1
 have hokB:=nrm_ok hT.2.2.2
 have hlnA:=nrm_len hT.2.2.1
 have hlnB:=nrm_len hT.2.2.2
 have hlen:(Tr.two (6,0) A B).flat.length=A.flat.length+B.flat.length+1:=by simp [Tr.flat];omega
 have HT:Hid ((Tr.two (6,0) A B).ok):=hT
 have HV:Hid (NReads w (.slice a (Tr.two (6,0) A B).flat.length c) (Tr.two (6,0) A B).flat):=hv
 have HK:Hid (Cap (.slice a (Tr.two (6,0) A B).flat.length c)):=fun a' n' c' e=>by cases e;exact hc
 obtain ⟨av,cv,e,hrd⟩:=hv
 obtain ⟨g,o,rfl,hg,c1,c2⟩:=hrd ((Tr.two (6,0) A B).flat.length - 1) (by omega)
 cases e
 rw [uflat_last] at c1 c2
 obtain ⟨m,hm⟩:∃ m,(Tr.two (6,0) A B).flat.length - 1=m:=⟨_,rfl⟩
 rw [hm] at c1 c2
 obtain ⟨N,hN⟩:∃ N,(Tr.two (6,0) A B).flat.length=N:=⟨_,rfl⟩
 have hmI:(N:Int) - 1=m:=by omega
 have hmN:(m:Int)<N:=by omega
 have HN4:Hid ((Tr.two (6,0) A B).flat.length≤9000):=by show _≤_;omega
 have hA4:A.flat.length≤4000:=by omega
 have hB4:B.flat.length≤4000:=by omega
 have hN4:N≤4000:=by omega
 rw [hN] at HV HK ⊢
 have hc0:(Tr.two (6,0) A B).root=(6,0):=rfl
 rw [hc0] at c1 c2
 simp only at c1 c2
 have HBA:Hid (Below w.heap.size w (w.alloc (.cells #[.int .i64 6,.int .u8 0] 51))):=(Below.refl _ _).alloc (Nat.le_refl _) _
 have HNA:Hid (NB (w.alloc (.cells #[.int .i64 6,.int .u8 0] 51)) w.heap.size 6 0):=NB.new w 6 0
 have hXe:nrm (.two (6,0) A B)=R2 6 (nrm A) (nrm B):=by
  rw [nrm]
  rw [if_neg (by decide)]
 obtain ⟨RA,hRA⟩:∃ R,nrm A=R:=⟨_,rfl⟩
 obtain ⟨RB,hRB⟩:∃ R,nrm B=R:=⟨_,rfl⟩
 rw [hRA,hRB] at hXe
 rw [hRA] at hokA hlnA
 rw [hRB] at hokB hlnB
 have HIA:Hid (∀ a c w,NReads w (.slice a A.flat.length c) A.flat→A.flat.length≤c→Calls Tryz.prog 27 #[.slice a A.flat.length c] w (Own w RA)):=fun a c w h1 h2=>by rw [← hRA];exact iA a c w h1 h2 hA4
 have HIB:Hid (∀ a c w,NReads w (.slice a B.flat.length c) B.flat→B.flat.length≤c→Calls Tryz.prog 27 #[.slice a B.flat.length c] w (Own w RB)):=fun a c w h1 h2=>by rw [← hRB];exact iB a c w h1 h2 hB4
 obtain ⟨X,hX⟩:∃ X,R2 6 RA RB=X:=⟨_,rfl⟩
 have HCS:Hid (∀ (ra:Option Addr) (ca:Nat) (rb:Option Addr) (cb:Nat) (w:World),NReads w (.slice ra RA.flat.length ca) RA.flat→NReads w (.slice rb RB.flat.length cb) RB.flat→RA.flat.length≤ca→RB.flat.length≤cb→Calls Tryz.prog 43 #[.int .i64 6,.slice ra RA.flat.length ca,.slice rb RB.flat.length cb] w (Own w X)):=fun ra ca rb cb w h1 h2 h3 h4=>by rw [← hX];exact several_any 6 (by decide) RA RB hokA.1 hokA.2 hokB.1 hokB.2 ra rb ca cb w h1 h2 h3 h4 (by omega)
 rw [hXe,hX]
 clear hrd hT hc hl iA iB hokA hokB hlnA hlnB hlen hm hN hc0 hRA hRB hXe hX
 go_enter Tryz.func27,Tryz.ntmps27
 go_wp2_with fail
 generalize w.alloc (.cells #[.int .i64 6,.int .u8 0] 51)=wA at HBA HNA ⊢
 refine (cutW_any 0 wA _ (Tr.two (6,0) A B).flat _ (Below.refl _ _) (NL.zero (HV.out.stay HBA.out)) HN4.out (Tr.ok_free _ HT.out) HK.out).mono ?_
 rintro e w1 ⟨u,rfl,hp1,hb1⟩
 rw [cut_flat_two HT.out] at hp1
 obtain ⟨ua,uc,rfl,hpi⟩:=hp1
 obtain ⟨lg,lo,a0,c0,rfl,hlg,hl0,hu0,hk0⟩:=hpi 0 (by simp)
 obtain ⟨lg',lo',a1,c1',e1,hlg',hl1,hu1,hk1⟩:=hpi 1 (by simp)
 cases e1
 rw [Nat.add_zero] at hl0
 simp only [List.getD_cons_zero,List.getD_cons_succ] at hl0 hu0 hk0 hl1 hu1 hk1
 have HU0:Hid (NReads w1 (.slice a0 A.flat.length c0) A.flat):=hu0.1.stay hb1
 have HU1:Hid (NReads w1 (.slice a1 B.flat.length c1') B.flat):=hu1.1.stay hb1
 have HK0:Hid (A.flat.length≤c0):=hk0
 have HK1:Hid (B.flat.length≤c1'):=hk1
 have HB1:Hid (Below w.heap.size w w1):=go_on HBA.out hb1
 have d0:=(HNA.out.keep hb1).fst
 have hrb:w.heap.size<w1.heap.size:=(HNA.out.keep hb1).lt
 have S0:SQ w1 w.heap.size 6 lg lo (.slice a0 A.flat.length c0) (.slice a1 B.flat.length c1') w1.drew:=⟨d0,hl0,hl1,(Below.refl _ _).drew⟩
 clear hb1 c1 c2 hpi hu0 hk0 hu1 hk1 hl0 hl1
 go_wp2_with fail
 go_region_held3 (fun w'=>SQ w1 w.heap.size 6 lg lo (.slice a0 A.flat.length c0) (.slice a1 B.flat.length c1') w') (first | exact S0 | assumption | exact sq_step hrb hlg (by assumption) (by assumption)) (first
  | (go_at_call 43;refine (HCS.out _ _ _ _ _ (by exact (own_nreads ho0).stay hb5) (by exact own_nreads ho1) (by exact uown_cap ho0 _ _ _ rfl) (by exact uown_cap ho1 _ _ _ rfl)).mono ?_;rintro e y3 ⟨z,rfl,hoz,hbz⟩)
  | (go_at_call 27;have q:=ho0;refine (HIB.out _ _ _ (by exact HU1.out.stay (sq_below (rb:=w.heap.size) (k:=6) (lg:=lg) (lo:=lo) (u0:=.slice a0 A.flat.length c0) (u1:=.slice a1 B.flat.length c1') (by assumption))) HK1.out).mono ?_;rintro e y2 ⟨r1,rfl,ho1,hb5⟩;obtain ⟨ra1,rc1,hs1⟩:=own_shape ho1;subst hs1;clear q)
  | (go_at_call 27;refine (HIA.out _ _ _ (by exact HU0.out.stay (sq_below (rb:=w.heap.size) (k:=6) (lg:=lg) (lo:=lo) (u0:=.slice a0 A.flat.length c0) (u1:=.slice a1 B.flat.length c1') (by first | exact S0 | assumption))) HK0.out).mono ?_;rintro e y1 ⟨r0,rfl,ho0,hb4⟩;obtain ⟨ra0,rc0,hs0⟩:=own_shape ho0;subst hs0))
 all_goals (
  have hS:SQ w1 w.heap.size 6 lg lo (.slice a0 A.flat.length c0) (.slice a1 B.flat.length c1') y3:=by first | assumption | exact sq_step hrb hlg (by assumption) (by assumption)
  have HO3:Hid (y3.ownsRow w.heap.size 51 2 z X.flat.length (ndC X.flat)):=own_mono hoz (by
   have h1:=HB1.out.size
   have h2:=hb4.size
   have h3:=hb5.size
   have h4:w1.drew.heap.size=w1.heap.size:=rfl
   omega)
  have HB3:Hid (Below w.heap.size w y3):=go_on HB1.out hS.2.2.2
  clear hS S0 hoz hbz ho0 ho1 hb4 hb5
  go_wp2_with fail
  go_ret
  exact ⟨_,rfl,HO3.out,HB3.out⟩)


set_option maxHeartbeats 16000000 in
set_option maxRecDepth 100000 in
theorem form_two7 (A B:Tr) (hT:(Tr.two (7,0) A B).ok) (iA:Fc A) (iB:Fc B):Fc (.two (7,0) A B):=by
 intro a c w hv hc hl
 unfold Own
 have hokA:=nrm_ok hT.2.2.1
 have hokB:=nrm_ok hT.2.2.2
 have hlnA:=nrm_len hT.2.2.1
 have hlnB:=nrm_len hT.2.2.2
 have hlen:(Tr.two (7,0) A B).flat.length=A.flat.length+B.flat.length+1:=by simp [Tr.flat];omega
 have HT:Hid ((Tr.two (7,0) A B).ok):=hT
 have HV:Hid (NReads w (.slice a (Tr.two (7,0) A B).flat.length c) (Tr.two (7,0) A B).flat):=hv
 have HK:Hid (Cap (.slice a (Tr.two (7,0) A B).flat.length c)):=fun a' n' c' e=>by cases e;exact hc
 obtain ⟨av,cv,e,hrd⟩:=hv
 obtain ⟨g,o,rfl,hg,c1,c2⟩:=hrd ((Tr.two (7,0) A B).flat.length - 1) (by omega)
 cases e
 rw [uflat_last] at c1 c2
 obtain ⟨m,hm⟩:∃ m,(Tr.two (7,0) A B).flat.length - 1=m:=⟨_,rfl⟩
 rw [hm] at c1 c2
 obtain ⟨N,hN⟩:∃ N,(Tr.two (7,0) A B).flat.length=N:=⟨_,rfl⟩
 have hmI:(N:Int) - 1=m:=by omega
 have hmN:(m:Int)<N:=by omega
 have HN4:Hid ((Tr.two (7,0) A B).flat.length≤9000):=by show _≤_;omega
 have hA4:A.flat.length≤4000:=by omega
 have hB4:B.flat.length≤4000:=by omega
 have hN4:N≤4000:=by omega
 rw [hN] at HV HK ⊢
 have hc0:(Tr.two (7,0) A B).root=(7,0):=rfl
 rw [hc0] at c1 c2
 simp only at c1 c2
 have HBA:Hid (Below w.heap.size w (w.alloc (.cells #[.int .i64 7,.int .u8 0] 51))):=(Below.refl _ _).alloc (Nat.le_refl _) _
 have HNA:Hid (NB (w.alloc (.cells #[.int .i64 7,.int .u8 0] 51)) w.heap.size 7 0):=NB.new w 7 0
 have hXe:nrm (.two (7,0) A B)=RC (nrm A) (nrm B):=by
  rw [nrm]
  rw [if_pos rfl]
 obtain ⟨RA,hRA⟩:∃ R,nrm A=R:=⟨_,rfl⟩
 obtain ⟨RB,hRB⟩:∃ R,nrm B=R:=⟨_,rfl⟩
 rw [hRA,hRB] at hXe
 rw [hRA] at hokA hlnA
 rw [hRB] at hokB hlnB
 have HIA:Hid (∀ a c w,NReads w (.slice a A.flat.length c) A.flat→A.flat.length≤c→Calls Tryz.prog 27 #[.slice a A.flat.length c] w (Own w RA)):=fun a c w h1 h2=>by rw [← hRA];exact iA a c w h1 h2 hA4
 have HIB:Hid (∀ a c w,NReads w (.slice a B.flat.length c) B.flat→B.flat.length≤c→Calls Tryz.prog 27 #[.slice a B.flat.length c] w (Own w RB)):=fun a c w h1 h2=>by rw [← hRB];exact iB a c w h1 h2 hB4
 obtain ⟨X,hX⟩:∃ X,RC RA RB=X:=⟨_,rfl⟩
 have HCS:Hid (∀ (ra:Option Addr) (ca:Nat) (rb:Option Addr) (cb:Nat) (w:World),NReads w (.slice ra RA.flat.length ca) RA.flat→NReads w (.slice rb RB.flat.length cb) RB.flat→RA.flat.length≤ca→RB.flat.length≤cb→Calls Tryz.prog 46 #[.slice ra RA.flat.length ca,.slice rb RB.flat.length cb] w (Own w X)):=fun ra ca rb cb w h1 h2 h3 h4=>by rw [← hX];exact behind_any hokA.1 hokA.2 RB _ _ w hokB.1 hokB.2 h1 h2 (fun a' n' c' e=>by cases e;exact h3) (fun a' n' c' e=>by cases e;exact h4) (by omega)
 rw [hXe,hX]
 clear hrd hT hc hl iA iB hokA hokB hlnA hlnB hlen hm hN hc0 hRA hRB hXe hX
 go_enter Tryz.func27,Tryz.ntmps27
 go_wp2_with fail
 generalize w.alloc (.cells #[.int .i64 7,.int .u8 0] 51)=wA at HBA HNA ⊢
 refine (cutW_any 0 wA _ (Tr.two (7,0) A B).flat _ (Below.refl _ _) (NL.zero (HV.out.stay HBA.out)) HN4.out (Tr.ok_free _ HT.out) HK.out).mono ?_
 rintro e w1 ⟨u,rfl,hp1,hb1⟩
 rw [cut_flat_two HT.out] at hp1
 obtain ⟨ua,uc,rfl,hpi⟩:=hp1
 obtain ⟨lg,lo,a0,c0,rfl,hlg,hl0,hu0,hk0⟩:=hpi 0 (by simp)
 obtain ⟨lg',lo',a1,c1',e1,hlg',hl1,hu1,hk1⟩:=hpi 1 (by simp)
 cases e1
 rw [Nat.add_zero] at hl0
 simp only [List.getD_cons_zero,List.getD_cons_succ] at hl0 hu0 hk0 hl1 hu1 hk1
 have HU0:Hid (NReads w1 (.slice a0 A.flat.length c0) A.flat):=hu0.1.stay hb1
 have HU1:Hid (NReads w1 (.slice a1 B.flat.length c1') B.flat):=hu1.1.stay hb1
 have HK0:Hid (A.flat.length≤c0):=hk0
 have HK1:Hid (B.flat.length≤c1'):=hk1
 have HB1:Hid (Below w.heap.size w w1):=go_on HBA.out hb1
 have d0:=(HNA.out.keep hb1).fst
 have hrb:w.heap.size<w1.heap.size:=(HNA.out.keep hb1).lt
 have S0:SQ w1 w.heap.size 7 lg lo (.slice a0 A.flat.length c0) (.slice a1 B.flat.length c1') w1.drew:=⟨d0,hl0,hl1,(Below.refl _ _).drew⟩
 clear hb1 c1 c2 hpi hu0 hk0 hu1 hk1 hl0 hl1
 go_wp2_with fail
 go_region_held3 (fun w'=>SQ w1 w.heap.size 7 lg lo (.slice a0 A.flat.length c0) (.slice a1 B.flat.length c1') w') (first | exact S0 | assumption | exact sq_step hrb hlg (by assumption) (by assumption)) (first
  | (go_at_call 46;refine (HCS.out _ _ _ _ _ (by exact (own_nreads ho0).stay hb5) (by exact own_nreads ho1) (by exact uown_cap ho0 _ _ _ rfl) (by exact uown_cap ho1 _ _ _ rfl)).mono ?_;rintro e y3 ⟨z,rfl,hoz,hbz⟩)
  | (go_at_call 27;have q:=ho0;refine (HIB.out _ _ _ (by exact HU1.out.stay (sq_below (rb:=w.heap.size) (k:=7) (lg:=lg) (lo:=lo) (u0:=.slice a0 A.flat.length c0) (u1:=.slice a1 B.flat.length c1') (by assumption))) HK1.out).mono ?_;rintro e y2 ⟨r1,rfl,ho1,hb5⟩;obtain ⟨ra1,rc1,hs1⟩:=own_shape ho1;subst hs1;clear q)
  | (go_at_call 27;refine (HIA.out _ _ _ (by exact HU0.out.stay (sq_below (rb:=w.heap.size) (k:=7) (lg:=lg) (lo:=lo) (u0:=.slice a0 A.flat.length c0) (u1:=.slice a1 B.flat.length c1') (by first | exact S0 | assumption))) HK0.out).mono ?_;rintro e y1 ⟨r0,rfl,ho0,hb4⟩;obtain ⟨ra0,rc0,hs0⟩:=own_shape ho0;subst hs0))
 all_goals (
  have hS:SQ w1 w.heap.size 7 lg lo (.slice a0 A.flat.length c0) (.slice a1 B.flat.length c1') y3:=by first | assumption | exact sq_step hrb hlg (by assumption) (by assumption)
  have HO3:Hid (y3.ownsRow w.heap.size 51 2 z X.flat.length (ndC X.flat)):=own_mono hoz (by
   have h1:=HB1.out.size
   have h2:=hb4.size
   have h3:=hb5.size
   have h4:w1.drew.heap.size=w1.heap.size:=rfl
   omega)
  have HB3:Hid (Below w.heap.size w y3):=go_on HB1.out hS.2.2.2
  clear hS S0 hoz hbz ho0 ho1 hb4 hb5
  go_wp2_with fail
  go_ret
  exact ⟨_,rfl,HO3.out,HB3.out⟩)

theorem form_any:∀ {T:Tr},T.ok→Fc T
 | .zero n,h=>form_zero n h
 | .one n a,h=>form_one n a h (form_any h.2.2)
 | .two n a b,h=>by
  have iA:=form_any h.2.2.1
  have iB:=form_any h.2.2.2
  have en:=good_two h.1 h.2.1
  have hk:=ar2 h.2.1
  obtain ⟨k,s⟩:=n
  have hs:s=0:=congrArg Prod.snd en
  subst hs
  have hk:k=5∨k=6∨k=7:=hk
  rcases hk with rfl | rfl | rfl
  ·exact form_two5 a b h iA iB
  ·exact form_two6 a b h iA iB
  ·exact form_two7 a b h iA iB
end Go.Proofs.YtfdhaknecjcjoaaGreatDoor
