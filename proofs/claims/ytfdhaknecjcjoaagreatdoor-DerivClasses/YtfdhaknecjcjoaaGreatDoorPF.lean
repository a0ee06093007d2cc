/- Ec Ed Ee, in one text. -/
import Derived.RangeFuncBox
import Derived.RangeFuncLeaves
import Derived.RangeFuncWrites
import Derived.Shelf.Abstract
import Derived.WalkKit
import Derived.OwnWalkIn
import Derived.TacticsInMore
import Derived.LoopNIn
import Derived.LoopIn
import Derived.Test.YtfdhaknecjcjoaaGreatDoorPEb
namespace Go.Proofs.YtfdhaknecjcjoaaGreatDoor
open Go Go.RowKit Go.Shelf Go.Lib
set_option linter.unusedVariables false

attribute [local go_sem] Oper.semAt_some

/-- Blocks that stay as they were. -/
def Kept (Bs:List Nat) (W W':World):Prop:=∀ b ∈ Bs,W'.heap[b]?=W.heap[b]?
theorem Kept.refl (Bs:List Nat) (W:World):Kept Bs W W:=fun _ _=>rfl
theorem Kept.trans {Bs:List Nat} {X Y Z:World} (h:Kept Bs X Y) (k:Kept Bs Y Z):Kept Bs X Z:=fun b hb=>(k b hb).trans (h b hb)
/-- What an iterator does that calls its function with val 0, val 1, .. val (N - 1). -/
def IterAt (F : Fence) (n : Nat) (P : Program) (gf : Nat) (lb : Array Value) (val : Nat → Array Value) (Bs : List Nat) (N : Nat) (w : World) : Prop :=
 ∀ (l:Nat) (J:Nat→World→Prop) (Jx:World→Prop) (W:World),Below w.heap.size w W →
  (∀ j W1,j<N→J j W1→YieldAt F (n - 1) P l (val j) W1 fun e W'=>(e=.returned (.bool true)∧J (j+1) W'∧Kept Bs W1 W')∨(e=.returned (.bool false)∧Jx W')) →
  J 0 W→CallsIn F n P gf (#[.func (.yield l) #[] #[]] ++ lb) W fun e W'=>(∃ v,e=.returned v)∧(J N W'∨Jx W')
/-- How a round ends: it goes on, or the function returns. -/
def RndP (B : Nat) (Bs : List Nat) (I : Nat → World → Prop) (X : Unit → World → Prop) (j : Nat) (W : World) : Exit → Act → World → Prop
 | .normal,_,W'=>KeepsFrom B W W'∧Kept Bs W W'∧I (j+1) W'
 | .ret,_,W'=>KeepsFrom B W W'∧X () W'
 | _,_,_=>False

theorem rangeFunc_at {F : Fence} {n : Nat} {P : Program} {g : Operand} {ps : Array Tmp} {assign body : Code} {Q : Exit → Act → World → Prop} {a : Act} {w : World}
  (hro:F.round=none) (h1:1≤n) {gf:Nat} {lb:Array Value} (hg:a.eval g=.func (.func gf) #[] lb) (hFg:F.fn gf) (eg:∀ args w,(callFunc gf args).run P w=.ok (.enter gf args) w)
  {val:Nat→Array Value} {Bs:List Nat} {N:Nat} {w0:World} (hBs:∀ b ∈ Bs,b<w.heap.size) (hseq:IterAt F (n - 1) P gf lb val Bs N w0) (hb0:Below w0.heap.size w0 w) (hps:∀ j,(val j).size=ps.size)
  (I : Nat → World → Prop) (X : Unit → World → Prop) (hI : OwnFrom w.heap.size I) (hX : OwnFrom w.heap.size X) (h0 : I 0 w)
  (A:Nat→Act→World→Prop) (hA:∀ j a',OwnFrom w.heap.size (fun (_:Unit) W=>A j a' W))
  (hassign:∀ (l j:Nat) (W:World) (K:Act→World→Prop),j<N→I j W→(∀ a' W',KeepsFrom w.heap.size W W'→Kept Bs W W'→A j a' W'→K a' W') →
   assign.wpIn (F.inRound l) (n - 1 - 1) P (Exit.then K (fun _ _ _=>False)) { tmps:=(ps.zip (val j)).foldl (fun t (p,v)=>t.setIfInBounds p v) a.tmps,defers:=[] } W)
  (hbody:∀ (l j:Nat) (a':Act) (W:World),j<N→A j a' W→body.wpIn (F.inRound l) (n - 1 - 1) P (RndP w.heap.size Bs I X j W) a' W)
  (hdone:∀ (D:Nat) (W:World),w.heap.size≤D→I N W→W.heap[D]?=some (.deferred (some []))→Q .normal { a with defers:={ target:=.collected D,args:=#[] } :: a.defers } W)
  (hstop:∀ (D:Nat) (W:World),w.heap.size≤D→X () W→W.heap[D]?=some (.deferred (some []))→Code.ret.wpIn F n P Q { a with defers:={ target:=.collected D,args:=#[] } :: a.defers } W) :
  (Code.rangeFunc g ps assign body).wpIn F n P Q a w:=by
 refine wpIn_rangeFunc fun fn hfn=>?_
 obtain ⟨L,hL⟩:∃ L:LoopState→Option Code→Loop,L=fun st pe=>{ state:=st,pending:=pe,fn,tmps:=a.tmps,params:=ps,assign,body,defers:=w.heap.size }:=⟨_,rfl⟩
 obtain ⟨V,hV⟩:∃ V,V=(w.alloc (.deferred (some []))).alloc (.loop (L .ready none)):=⟨_,rfl⟩
 have hVl:V.heap[w.heap.size+1]?=some (.loop (L .ready none)):=by
  have:=World.alloc_heap_new (w.alloc (.deferred (some []))) (.loop (L .ready none))
  rw [World.size_alloc] at this
  rw [hV];exact this
 have hVd:V.heap[w.heap.size]?=some (.deferred (some [])):=by
  rw [hV,heap_alloc_old _ _ _ (by simp)];exact World.alloc_heap_new w _
 have hVI:I 0 V:=by rw [hV];exact hI.alloc _ (hI.alloc _ h0)
 have hVb:Below w0.heap.size w0 V:=by
  rw [hV];exact hb0.trans ((((Below.refl _ w).alloc (Nat.le_refl _) _).alloc (by simp) _).mono hb0.size)
 -- the record is written anew
 have put:∀ {W:World} {r:Loop} (r':Loop),W.heap[w.heap.size+1]?=some (.loop r)→W.heap[w.heap.size]?=some (.deferred (some [])) →
   (W.putObj (w.heap.size+1) (.loop r')).heap[w.heap.size+1]?=some (.loop r')∧(W.putObj (w.heap.size+1) (.loop r')).heap[w.heap.size]?=some (.deferred (some []))∧Kept Bs W (W.putObj (w.heap.size+1) (.loop r')) :=
  fun {W r} r' hl hd=>⟨World.putObj_heap_same (Array.getElem?_eq_some_iff.1 hl).1,(World.putObj_heap_other (by omega)).trans hd,fun b hb=>World.putObj_heap_other (by have:=hBs b hb;omega)⟩
 refine ⟨w.heap.size+1,[{ target:=.collected w.heap.size,args:=#[] }],V,{ target:=.fn (.func gf) lb,args:=#[.func (.yield (w.heap.size+1)) #[] #[]] },V,gf,#[.func (.yield (w.heap.size+1)) #[] #[]] ++ lb,V,?_,?_,?_,?_,fun _=>h1,?_⟩
 ·rw [hro,hV,hL];exact run_enterLoop_outer _ _ _ _ _
 ·simp only [resolve,hg];simp [go_sem]
 ·intro f' hf';simp [Target.leads] at hf';subst hf';exact hFg
 ·simp [invoke,go_sem,eg]
 refine (hseq (w.heap.size+1) (fun j W=>I j W∧W.heap[w.heap.size+1]?=some (.loop (L .ready none))∧W.heap[w.heap.size]?=some (.deferred (some [])))
  (fun W=>X () W∧W.heap[w.heap.size+1]?=some (.loop (L .done (some .ret)))∧W.heap[w.heap.size]?=some (.deferred (some []))) V hVb ?_ ⟨hVI,hVl,hVd⟩).mono ?_
 ·rintro j W hj ⟨hi,hl,hd⟩
  have hy:=run_yield (P:=P) (args:=val j) hl (by rw [hL];exact hps j)
  rw [hL] at hy
  refine ⟨fn,_,assign,body,hy,roundIn_of_wpIn hfn (hassign _ j W _ hj hi fun a' W' hk hb hAj=>?_)⟩
  have hl':=hk.same _ _ (by omega) hl rfl
  have hd':=hk.same _ _ (Nat.le_refl _) hd rfl
  refine ⟨_,run_beginRound hl' (by rw [hL]),?_⟩
  obtain ⟨p1,p2,p3⟩:=put { L .ready none with state:=.busy } hl' hd'
  refine wpIn_mono (hbody _ j a' _ hj ((hA j a').putObj (s:=()) _ hAj (by omega) hl' rfl)) ?_
  intro e a3 W3 hp
  cases e with
  | normal =>
   obtain ⟨k3,b3,i3⟩:=hp
   have hl3:=k3.same _ _ (by omega) p1 rfl
   have hd3:=k3.same _ _ (Nat.le_refl _) p2 rfl
   have hr:=run_endRound (P:=P) none hl3
   obtain ⟨q1,q2,q3⟩:=put (L .ready none) hl3 hd3
   rw [hL] at hr q1 q2 q3
   refine ⟨_,_,hr,.inl ⟨rfl,⟨hI.putObj _ i3 (by omega) hl3 rfl,?_,q2⟩,((hb.trans p3).trans b3).trans q3⟩⟩
   rw [hL];exact q1
  | ret =>
   obtain ⟨k3,x3⟩:=hp
   have hl3:=k3.same _ _ (by omega) p1 rfl
   have hd3:=k3.same _ _ (Nat.le_refl _) p2 rfl
   have hr:=run_endRound (P:=P) (some .ret) hl3
   obtain ⟨q1,q2,q3⟩:=put (L .done (some .ret)) hl3 hd3
   rw [hL] at hr q1 q2 q3
   refine ⟨_,_,hr,.inr ⟨rfl,hX.putObj _ x3 (by omega) hl3 rfl,?_,q2⟩⟩
   rw [hL];exact q1
  | exit id=>exact hp.elim
  | goto t=>exact hp.elim
  | panic ch=>exact hp.elim
  | outgrown=>exact hp.elim
 ·rintro e W2 ⟨⟨v,rfl⟩,(⟨hi,hl,hd⟩ | ⟨hx,hl,hd⟩)⟩
  ·have hr:=run_endLoop (P:=P) hl (by rw [hL];simp)
   obtain ⟨q1,q2,q3⟩:=put { L .ready none with state:=.exhausted } hl hd
   rw [hL] at hr q2
   exact ⟨none,_,hr,hdone _ _ (Nat.le_refl _) (hI.putObj _ hi (by omega) hl rfl) q2⟩
  ·have hr:=run_endLoop (P:=P) hl (by rw [hL];simp)
   obtain ⟨q1,q2,q3⟩:=put { L .done (some .ret) with state:=.exhausted } hl hd
   rw [hL] at hr q2
   exact ⟨some .ret,_,hr,hstop _ _ (Nat.le_refl _) (hX.putObj _ hx (by omega) hl rfl) q2⟩
end Go.Proofs.YtfdhaknecjcjoaaGreatDoor

namespace Go.Proofs.YtfdhaknecjcjoaaGreatDoor
open Go Go.RowKit Go.Shelf Go.Lib
set_option linter.unusedVariables false

attribute [local go_sem] Oper.semAt_some

def stD:Stp:=(0,.slice none 0 0)
/-- The values of round j. -/
def bwV (S:List Stp) (j:Nat):Array Value:=#[.int .i64 ((S.length - 1 - j:Nat):Int),.agg #[.int .i64 ((S.getD (S.length - 1 - j) stD).1:Nat),(S.getD (S.length - 1 - j) stD).2]]

set_option maxRecDepth 100000 in
set_option maxHeartbeats 2000000 in
theorem backward_at (n:Nat) (hn:1≤n) (B g c:Nat) (S:List Stp) (w:World) (hB:w.cell? ⟨B,0,none⟩=some (.slice (some ⟨g,0,none⟩) S.length c)) (hS:∀ i,i<S.length→w.cell? ⟨g,i * 2,none⟩=some (.int .i64 ((S.getD i stD).1:Nat))∧w.cell? ⟨g,i * 2+1,none⟩=some (S.getD i stD).2)
  (hl : S.length ≤ 4000) :
  IterAt Fence.wide n Tryz.prog 55 #[.pointer (some ⟨B,0,none⟩)] (bwV S) [B,g] S.length w:=by
 intro l J Jx W hW hY h0
 have HS:Hid (∀ i,i<S.length→∀ W',Kept [B,g] W W'→W'.cell? ⟨g,i * 2,none⟩=some (.int .i64 ((S.getD i stD).1:Nat))∧W'.cell? ⟨g,i * 2+1,none⟩=some (S.getD i stD).2):=fun i hi W' hb=>by
  have hg:g<w.heap.size:=World.block_lt_of_cell? w _ (hS i hi).1
  have hb2:W'.heap[g]?=w.heap[g]?:=(hb g (by simp)).trans (hW.block g hg)
  exact ⟨by rw [World.cell?_of_block (a:=⟨g,i * 2,none⟩) hb2];exact (hS i hi).1,by rw [World.cell?_of_block (a:=⟨g,i * 2+1,none⟩) hb2];exact (hS i hi).2⟩
 have HBX:Hid (∀ W',Kept [B,g] W W'→W'.cell? ⟨B,0,none⟩=some (.slice (some ⟨g,0,none⟩) S.length c)):=fun W' hb=>by
  have hg:B<w.heap.size:=World.block_lt_of_cell? w _ hB
  rw [World.cell?_of_block (a:=⟨B,0,none⟩) ((hb B (by simp)).trans (hW.block B hg))];exact hB
 have HY:Hid _:=hY
 have H0:Hid (J 0 W):=h0
 have hx0:=HBX.out W (Kept.refl _ _)
 clear hY h0 hB hS hW
 refine callsIn_of_wp Tryz.func55 rfl trivial ?_ rfl
 simp only [Tryz.ntmps55,List.size_toArray,List.length_cons,List.length_nil,Nat.reduceAdd,Nat.reduceSub,Array.replicate_succ,Array.replicate_zero,List.push_toArray,List.append_toArray,List.nil_append,List.cons_append]
 gi_wp2
 clear hx0
 gi_loopw [3] (fun k wr=>∃ j:Nat,j≤S.length∧k=.int .i64 ((S.length:Int) - 1 - j)∧J j wr∧Kept [B,g] W wr) (fun k _=>(intOf k+1).toNat)
 case atStart=>exact ⟨0,Nat.zero_le _,by go_num,H0.out,Kept.refl _ _⟩
 case round =>
  obtain ⟨j,hj,rfl,hJ,hB⟩:=hrel
  have HJ:Hid (J j wr):=hJ
  have HB:Hid (Kept [B,g] W wr):=hB
  clear hJ hB
  by_cases hlt : j < S.length
  ·have hx:=HBX.out wr HB.out
   obtain ⟨hc1,hc2⟩:=HS.out (S.length - 1 - j) (by omega) wr HB.out
   obtain ⟨fn,tmps,assign,body,hy,hR⟩:=HY.out j wr hlt HJ.out
   unfold bwV at hy
   obtain ⟨i,hi⟩:∃ i,S.length - 1 - j=i:=⟨_,rfl⟩
   rw [hi] at hc1 hc2 hy
   have e:(S.length:Int) - 1 - j=(i:Int):=by omega
   have HE:Hid ((S.length:Int) - 1 - j=(i:Int)):=e
   rw [e]
   have hiL:(i:Int)<S.length:=by omega
   obtain ⟨y,hyv⟩:∃ y,S.getD i stD=y:=⟨_,rfl⟩
   rw [hyv] at hc1 hc2 hy
   obtain ⟨x,u⟩:=y
   simp only at hc1 hc2 hy
   have HR:Hid (RoundIn Fence.wide (n - 1) Tryz.prog l fn tmps assign body wr _):=hR
   have HLT:Hid (j<S.length):=hlt
   clear hR hyv hi e
   gi_wp2
   refine HR.out.mono ?_
   clear HR hy hx hc1 hc2
   rintro e W3 (⟨rfl,hJ3,hk3⟩ | ⟨rfl,hJx3⟩)
   ·have HJ3:Hid _:=hJ3
    have HK3:Hid _:=hk3
    clear hJ3 hk3
    gi_wp2
    go_roundw
    case rel =>
     have h1:j<S.length:=HLT.out
     have h2:(S.length:Int) - 1 - j=i:=HE.out
     exact ⟨j+1,h1,by go_num,HJ3.out,HB.out.trans HK3.out⟩
    case measure=>simp [intOf]
   ·have HJx3:Hid _:=hJx3
    clear hJx3
    gi_wp2
    refine bodyPost_ret (results_none rfl _ _ _) rfl ?_
    exact ⟨⟨_,rfl⟩,.inr HJx3.out⟩
  ·have e:(S.length:Int) - 1 - j = -1:=by omega
   have HE:Hid (j=S.length):=by show _=_;omega
   rw [e]
   gi_wp2
   go_end0
   refine ⟨⟨_,rfl⟩,.inl ?_⟩
   rw [← HE.out]
   exact HJ.out
end Go.Proofs.YtfdhaknecjcjoaaGreatDoor

namespace Go.Proofs.YtfdhaknecjcjoaaGreatDoor
open Go Go.RowKit
set_option linter.unusedVariables false

theorem way_pre {T:Tr} {Q:List (Nat × Tr)} (h:Way T Q Q.length) (i:Nat):∃ R,Q=((0,T) :: (Q.take i).flatMap kids) ++ R:=by
 refine ⟨(Q.drop i).flatMap kids,?_⟩
 have:=h.head
 rw [List.take_length] at this
 rw [List.cons_append,← List.flatMap_append,List.take_append_drop]
 exact this
/-- The trees that wait ahead of round k: met, not done. -/
noncomputable def pd (T:Tr) (Q:List (Nat × Tr)) (k:Nat):List (Nat × Tr):=((0,T) :: (Q.take k).flatMap kids).drop k
theorem pd_end {T:Tr} {Q:List (Nat × Tr)} (h:Way T Q Q.length):pd T Q Q.length=[]:=by
 unfold pd
 rw [← h.head,List.drop_length]
theorem pd_zero (T:Tr) (Q:List (Nat × Tr)):pd T Q 0=[(0,T)]:=by simp [pd]
theorem pd_step {T : Tr} {Q : List (Nat × Tr)} (h : Way T Q Q.length) {i : Nat} {q : Nat × Tr} (hq : Q[i]? = some q) :
  ∃ R,pd T Q i=q :: R∧pd T Q (i+1)=R ++ kids q∧((q :: R ++ kids q).map rt).Nodup∧(∀ y ∈ q :: R ++ kids q,y ∈ Q)∧(q :: R ++ kids q).length≤Q.length:=by
 obtain ⟨hi,hqe⟩:=List.getElem?_eq_some_iff.1 hq
 obtain ⟨A,hA⟩:∃ A,(0,T) :: (Q.take i).flatMap kids=A:=⟨_,rfl⟩
 have hg:=h.grd i hi
 have hal:i<A.length:=by rw [← hA];simp only [List.length_cons];omega
 obtain ⟨R1,hR1⟩:=way_pre h i
 rw [hA] at hR1
 have hAi:A[i]=q:=by
  have h2:Q[i]?=A[i]?:=by
   conv=>lhs;rw [hR1]
   rw [List.getElem?_append_left hal]
  rw [hq,List.getElem?_eq_getElem hal] at h2
  exact (Option.some.inj h2).symm
 have hB:(0,T) :: (Q.take (i+1)).flatMap kids=A ++ kids q:=by
  rw [List.take_succ_eq_append_getElem hi,hqe,List.flatMap_append,← List.cons_append,hA]
  simp
 obtain ⟨R2,hR2⟩:=way_pre h (i+1)
 rw [hB] at hR2
 have hd:A.drop i=q :: A.drop (i+1):=by rw [List.drop_eq_getElem_cons hal,hAi]
 have hsub:(q :: A.drop (i+1) ++ kids q).Sublist Q:=by
  have:(q :: A.drop (i+1) ++ kids q)=(A ++ kids q).drop i:=by
   rw [List.drop_append_of_le_length (by omega),hd]
  rw [this]
  refine (List.drop_sublist _ _).trans ?_
  conv=>rhs;rw [hR2]
  exact List.sublist_append_left _ _
 refine ⟨A.drop (i+1),by unfold pd;rw [hA,hd],?_,?_,fun y hy=>hsub.subset hy,hsub.length_le⟩
 ·unfold pd
  rw [hB,List.drop_append_of_le_length (by omega)]
 ·exact (hsub.map rt).nodup h.roots
/-- What is so of the first tree, and of kids, is so of all. -/
theorem way_all {T:Tr} {Q:List (Nat × Tr)} (h:Way T Q Q.length) (p:Nat × Tr→Prop) (h0:p (0,T)) (hk:∀ q ∈ Q,p q→∀ y ∈ kids q,p y):∀ q ∈ Q,p q:=by
 have key:∀ m,m≤Q.length→∀ q ∈ Q.take m,p q:=by
  intro m
  induction m with
  | zero=>intro _ q hq;simp at hq
  | succ m ih =>
   intro hm q hq
   rw [List.take_succ_eq_append_getElem (by omega)] at hq
   rcases List.mem_append.1 hq with hq | hq
   ·exact ih (by omega) q hq
   ·simp only [List.mem_singleton] at hq
    subst hq
    obtain ⟨R1,hR1⟩:=way_pre h m
    have hg:=h.grd m hm
    have hal:m<((0,T) :: (Q.take m).flatMap kids).length:=by simp only [List.length_cons];omega
    have hmem:Q[m] ∈ (0,T) :: (Q.take m).flatMap kids:=by
     have h2:Q[m]?=((0,T) :: (Q.take m).flatMap kids)[m]?:=by
      conv=>lhs;rw [hR1]
      rw [List.getElem?_append_left hal]
     rw [List.getElem?_eq_getElem (by omega),List.getElem?_eq_getElem hal] at h2
     rw [Option.some.inj h2]
     exact List.getElem_mem _
    rcases List.mem_cons.1 hmem with e | hmem
    ·rw [e];exact h0
    ·obtain ⟨z,hz,hy⟩:=List.mem_flatMap.1 hmem
     exact hk z (List.mem_of_mem_take hz) (ih (by omega) z hz) _ hy
 intro q hq
 exact key Q.length (Nat.le_refl _) q (by rw [List.take_length];exact hq)
/-- All blocks stay but M. -/
structure Ex (M : Nat) (W W' : World) : Prop where
 size : W.heap.size ≤ W'.heap.size
 block:∀ b,b<W.heap.size→b≠M→W'.heap[b]?=W.heap[b]?
 os : W'.os = W.os
 tape : W'.tape = W.tape
 output : W'.output = W.output
theorem Ex.refl (M:Nat) (W:World):Ex M W W:=⟨Nat.le_refl _,fun _ _ _=>rfl,rfl,rfl,rfl⟩
theorem Ex.trans {M : Nat} {X Y Z : World} (h : Ex M X Y) (k : Ex M Y Z) : Ex M X Z :=
 ⟨Nat.le_trans h.size k.size,fun b hb hn=>(k.block b (Nat.lt_of_lt_of_le hb h.size) hn).trans (h.block b hb hn),k.os.trans h.os,k.tape.trans h.tape,k.output.trans h.output⟩
theorem Ex.of_below {M n:Nat} {W W':World} (h:Below n W W') (hn:W.heap.size≤n):Ex M W W':=⟨h.size,fun b hb _=>h.block b (by omega),h.os,h.tape,h.output⟩
theorem Ex.set (M:Nat) (W:World) (o:Nat) (v:Value):Ex M W (W.setCell ⟨M,o,none⟩ v):=by
 refine ⟨by simp,fun b hb hn=>?_,rfl,rfl,rfl⟩
 exact heap_setCell_other W ⟨M,o,none⟩ b v hn
theorem Ex.alloc (M:Nat) (W:World) (o:Obj):Ex M W (W.alloc o):=Ex.of_below ((Below.refl W.heap.size W).alloc (Nat.le_refl _) o) (Nat.le_refl _)
theorem Ex.cell {M:Nat} {W W':World} (h:Ex M W W') {a:Addr} {v:Value} (hc:W.cell? a=some v) (hn:a.block≠M):W'.cell? a=some v:=by
 rw [World.cell?_of_block (h.block a.block (World.block_lt_of_cell? W a hc) hn)];exact hc
theorem Ex.below {M n:Nat} {w W W':World} (h:Ex M W W') (hb:Below n w W) (hn:n≤M) (hs:n≤w.heap.size):Below n w W':=by
 refine hb.trans ⟨h.os,h.tape,h.output,h.size,fun b hb2=>h.block b ?_ (by omega)⟩
 have:=hb.size
 omega
/-- A tree's nodes, in a row of their own. -/
def NO (lo:Nat) (W:World) (u:Value) (x:Tr):Prop:=W.ownsRow lo 51 2 u x.flat.length (ndC x.flat)
theorem NO.ex {lo M:Nat} {W W':World} {u:Value} {x:Tr} (h:NO lo W u x) (he:Ex M W W') {cur:Array Value} {t:TypeId} (hM:W.heap[M]?=some (.cells cur t (0,0))) (ht:t≠51):NO lo W' u x:=by
 refine ⟨h.1,?_⟩
 rcases h.2 with hn | ⟨g,cap,cur',rfl,hb,hgg,rest⟩
 ·exact .inl hn
 ·refine .inr ⟨g,cap,cur',rfl,hb,?_,rest⟩
  rw [he.block g (Array.getElem?_eq_some_iff.1 hgg).1 (fun e=>by subst e;rw [hM] at hgg;simp only [Option.some.injEq,Obj.cells.injEq] at hgg;exact ht hgg.2.1)]
  exact hgg
end Go.Proofs.YtfdhaknecjcjoaaGreatDoor
