/- Contract of deriv's derivative, over that of its rule. -/
import Derived.Test.YtfdhaknecjcjoaaGreatDoorPF
import Derived.Maps.AppendAt
import Derived.RangeFuncCalls
namespace Go.Proofs.YtfdhaknecjcjoaaGreatDoor
open Go Go.RowKit Go.Shelf Go.Lib
set_option linter.unusedVariables false

attribute [local go_sem] Oper.semAt_some

/-- A list of trees that is the caller's own, each in a row of its own. -/
def Prt (lo:Nat) (W:World) (base:Nat) (v:Value) (L:List Tr):Prop:=∃ us:List Value,us.length=L.length∧W.ownsRow base 22 1 v L.length us∧∀ (i:Nat) (x:Tr),L[i]?=some x→∃ u,us[i]?=some u∧NO lo W u x∧x.flat.length≤4000
/-- What rule and derivative answer: the tree, or that one on the way is too great. -/
def RuJ (p : Prop) (R : Tr) (lo base : Nat) (w : World) (e : Ending) (w' : World) : Prop :=
 (¬ p∧e=.returned (.tuple #[.slice none 0 0,.int .i64 6])∧Below base w w') ∨
 (p∧∃ u,e=.returned (.tuple #[u,.int .i64 0])∧NO lo w' u R∧Below base w w')

theorem made_nil (n:Nat):(madeCells #[.slice none 0 0] n).toList=List.replicate n (.slice none 0 0):=by
 apply List.ext_getElem?
 intro i
 unfold madeCells
 by_cases h : i < n
 ·simp [h,Nat.mod_one]
 ·simp [h]
theorem ex_grown {M:Nat} {W w1 w2:World} {row:Option Nat} (h:Ex M W w1) (hg:w1.grownBy w2 row) (hr:∀ k,row=some k→W.heap.size≤k):Ex M W w2 :=
 ⟨Nat.le_trans h.size hg.size,fun b hb hn=>(hg.block b (Nat.lt_of_lt_of_le hb h.size) (fun e=>by have:=hr b e.symm;omega)).trans (h.block b hb hn),hg.os.trans h.os,hg.tape.trans h.tape,hg.output.trans h.output⟩
theorem ex_below {M : Nat} {W w1 w2 : World} (h : Ex M W w1) (hb : Below W.heap.size w1 w2) : Ex M W w2 :=
 ⟨Nat.le_trans h.size hb.size,fun b hb' hn=>(hb.block b hb').trans (h.block b hb' hn),hb.os.trans h.os,hb.tape.trans h.tape,hb.output.trans h.output⟩
theorem ex_keeps {M B:Nat} {W W':World} {cur:Array Value} {t:TypeId} (h:Ex M W W') (hM:W.heap[M]?=some (.cells cur t (0,0))):KeepsFrom B W W' :=
 ⟨h.size,fun k o _ hk ho=>(h.block k (Array.getElem?_eq_some_iff.1 hk).1 (fun e=>by subst e;rw [hM] at hk;cases hk;cases ho)).trans hk⟩
theorem own_row {W:World} {base g n c:Nat} {e:TypeId} {size:Nat} {xs:List Value} (h:W.ownsRow base e size (.slice (some ⟨g,0,none⟩) n c) n xs):∃ cur,W.heap[g]?=some (.cells cur e (0,0)):=by
 rcases h.2 with ⟨h1,_⟩ | ⟨g',c',cur,h1,_,hg,_⟩
 ·cases h1
 ·cases h1;exact ⟨cur,hg⟩
theorem own_ex {base M n size:Nat} {W W':World} {e:TypeId} {u:Value} {xs:List Value} (h:W.ownsRow base e size u n xs) (he:Ex M W W') {cur:Array Value} {t:TypeId} (hM:W.heap[M]?=some (.cells cur t (0,0))) (ht:t≠e):W'.ownsRow base e size u n xs:=by
 refine ⟨h.1,?_⟩
 rcases h.2 with hn | ⟨g,cap,cur',rfl,hb,hgg,rest⟩
 ·exact .inl hn
 ·refine .inr ⟨g,cap,cur',rfl,hb,?_,rest⟩
  rw [he.block g (Array.getElem?_eq_some_iff.1 hgg).1 (fun e=>by subst e;rw [hM] at hgg;simp only [Option.some.injEq,Obj.cells.injEq] at hgg;exact ht hgg.2.1)]
  exact hgg
/-- The derivatives that are made, of the trees that wait. -/
structure Mad (c : Int) (fit : Tr → Prop) (lo base M m : Nat) (W : World) (ms : List Value) (Y : List (Nat × Tr)) : Prop where
 row:W.ownsRow base 22 1 (.slice (some ⟨M,0,none⟩) m m) m ms
 at_:∀ y ∈ Y,∃ u,ms[rt y]?=some u∧NO lo W u (drv c y.2)∧(drv c y.2).flat.length≤4000∧fit y.2
theorem own_noncells {W W':World} {row:Option Nat} {base n size:Nat} {e:TypeId} {v:Value} {xs:List Value} (h:W.ownsRow base e size v n xs) (hg:W.grownBy W' row) (hr:∀ r,row=some r→∃ o:Obj,W.heap[r]?=some o∧o.isCells=false):W'.ownsRow base e size v n xs:=by
 refine h.kept hg ?_
 rcases h.2 with ⟨rfl,_⟩ | ⟨g,cap,cur,rfl,_,hgg,_⟩
 ·exact .inl rfl
 ·right
  intro e1
  obtain ⟨o,ho,hc⟩:=hr g e1.symm
  rw [hgg] at ho
  cases ho
  cases hc
theorem Mad.own {c:Int} {fit:Tr→Prop} {lo base M m:Nat} {W W':World} {row:Option Nat} {ms:List Value} {Y:List (Nat × Tr)} (h:Mad c fit lo base M m W ms Y) (hg:W.grownBy W' row) (hr:∀ r,row=some r→∃ o:Obj,W.heap[r]?=some o∧o.isCells=false):Mad c fit lo base M m W' ms Y :=
 ⟨own_noncells h.row hg hr,fun y hy=>by obtain ⟨u,h1,h2,h3⟩:=h.at_ y hy;exact ⟨u,h1,own_noncells h2 hg hr,h3⟩⟩
theorem boxed_below {W W':World} {n b:Nat} {t:TypeId} {v:Value} (h:Boxed W b t v) (hb:Below n W W') (hn:b<n):Boxed W' b t v:=(hb.block b hn).trans h
theorem boxed_ex {W W':World} {M b:Nat} {t:TypeId} {v:Value} (h:Boxed W b t v) (he:Ex M W W') (hn:b≠M):Boxed W' b t v:=(he.block b h.lt hn).trans h
theorem results_box2 {fn:Func} {p r:Tmp} (h:fn.results=#[.cell p 22,.cell r 24]) {tmps:Array Value} {b c:Nat} {x y:Value} {w:World} (hp:tmps.getD p undef=.pointer (some ⟨b,0,none⟩)) (hr:tmps.getD r undef=.pointer (some ⟨c,0,none⟩)) (hb:Boxed w b 22 x) (hc:Boxed w c 24 y) :
  (results fn tmps).run Tryz.prog w=.ok (.tuple #[x,y]) w:=by
 have hp':tmps[p]?.getD undef=.pointer (some ⟨b,0,none⟩):=by simpa using hp
 have hr':tmps[r]?.getD undef=.pointer (some ⟨c,0,none⟩):=by simpa using hr
 simp [results,h,go_sem,hp',hr',hb.cell,hc.cell,Result.andThen]
theorem boxed_put {W:World} {b D:Nat} {t:TypeId} {v:Value} (h:Boxed W b t v) (o:Obj) (hne:b≠D):Boxed (W.putObj D o) b t v:=(World.putObj_heap_other hne).trans h
theorem backward_any (a:Option Addr) (n c:Nat) (w:World):Calls Tryz.prog 37 #[.slice a n c] w fun e w'=>e=.returned (.func (.func 55) #[] #[.pointer (some ⟨w.heap.size,0,none⟩)])∧w'=w.alloc (.cells #[.slice a n c] 77):=by
 go_enter Tryz.func37,Tryz.ntmps37
 go_wp2_with fail
 go_ret
 exact ⟨rfl,rfl⟩

set_option maxRecDepth 100000 in
set_option maxHeartbeats 4000000 in
theorem derivative_in (n : Nat) (hn : 3 ≤ n) (c : Int) {T : Tr} {a : Option Addr} {cap : Nat} {w : World} (ho : T.ok) (hnf : NF T) (hl : T.flat.length ≤ 4000) (hv : NReads w (.slice a T.flat.length cap) T.flat) (hcap : T.flat.length ≤ cap)
  (C loc fit:Tr→Prop) (hC:C T) (hCk:∀ q:Nat × Tr,C q.2→∀ y ∈ kids q,C y.2) (hfit:∀ q:Nat × Tr,q.2.ok→NF q.2→C q.2→(fit q.2↔(∀ y ∈ kids q,fit y.2)∧loc q.2)) (hlen:∀ x,loc x→C x→(drv c x).flat.length≤4000)
  (hNM:∀ gb w1 (q:Nat × Tr),DForm w1 T a cap gb→Below w.heap.size w w1→Sit T.flat (T.bg 0) q.1 q.2→q.2.ok→C q.2→Calls Tryz.prog 56 #[dfV T a cap gb,.int .i64 (rt q:Nat)] w1 (NmQ q w1))
  (hRU:∀ gb w1 (q:Nat × Tr) v base,DForm w1 T a cap gb→Below w.heap.size w w1→Sit T.flat (T.bg 0) q.1 q.2→q.2.ok→NF q.2→C q.2→base≤w1.heap.size→w.heap.size≤base→gb<base→Prt w.heap.size w1 base v ((kids q).map fun y=>drv c y.2) →
   Calls Tryz.prog 39 #[dfV T a cap gb,.int .i64 (rt q:Nat),.int .u8 c,v] w1 (RuJ (loc q.2) (drv c q.2) w.heap.size base w1)) :
  CallsIn Fence.wide n Tryz.prog 24 #[.slice a T.flat.length cap,.int .u8 c] w (RuJ (fit T) (drv c T) w.heap.size w.heap.size w):=by
 have h1:1≤n:=by omega
 have hpos:=flat_pos T
 have HNM:Hid _:=hNM
 have HRU:Hid _:=hRU
 have HBG:Hid (∀ w1,Below w.heap.size w w1→Calls Tryz.prog 36 #[.slice a T.flat.length cap] w1 fun e w'=>e=.returned (.slice (some ⟨w1.heap.size,0,none⟩) T.flat.length T.flat.length)∧IRow w' w1.heap.size (T.bg 0)∧Below w1.heap.size w1 w'):=fun w1 hb=>begins_any _ T ho w1 (hv.stay hb) hl
 have HDF:Hid (∀ w1 gb,Below w.heap.size w w1→IRow w1 gb (T.bg 0)→DForm w1 T a cap gb):=fun w1 gb hb hi=>⟨ho,hl,hv.stay hb,hi,hcap⟩
 have HFT:Hid _:=hfit
 have HLN:Hid _:=hlen
 have HCK:Hid _:=hCk
 have HCT:Hid (C T):=hC
 have HNF:Hid (NF T):=hnf
 clear hNM hRU hfit hlen hCk hC hv ho hnf
 unfold dfV at HNM HRU
 obtain ⟨m,hm⟩:∃ m,T.flat.length=m:=⟨_,rfl⟩
 have HM:Hid (T.flat.length=m):=hm
 rw [hm] at hl hcap hpos HNM HRU HBG ⊢
 clear hm
 obtain ⟨i0,hi,hz0,hz1,hz2⟩:=info_parts Tryz.info_nodes
 have hmk:=fun w0=>run_make (P:=Tryz.prog) w0 56 22 i0 (.slice none 0 0) Tryz.underlying56 hi hz0 .i64 .i64 (m:Int) (m:Int) (by omega) (by omega) (by rw [hz2];omega) (by omega)
 rw [hz1] at hmk
 simp only [Nat.mul_one] at hmk
 refine callsIn_of_wp_marks Tryz.func24 rfl trivial ?_ rfl
 simp only [Tryz.ntmps24,List.size_toArray,List.length_cons,List.length_nil,Nat.reduceAdd,Nat.reduceSub,Array.replicate_succ,Array.replicate_zero,List.push_toArray,List.append_toArray,List.nil_append,List.cons_append]
 gi_wp2
 refine ⟨trivial,?_⟩
 have hb0:∀ O1 O2 O3,Below w.heap.size w (((w.alloc O1).alloc O2).alloc O3):=fun O1 O2 O3=>(((Below.refl _ w).alloc (Nat.le_refl _) _).alloc (by simp) _).alloc (by simp;omega) _
 refine (callsIn_wide.2 (HBG.out _ (hb0 _ _ _))).mono ?_
 rintro e w1 ⟨rfl,hir,hb1⟩
 have hs1:w.heap.size+3≤w1.heap.size:=by have:=hb1.size;simp at this;omega
 have bL:Boxed w1 w.heap.size 5 (.int .u8 c):=boxed_below (((Boxed.new w 5 (.int .u8 c)).alloc _).alloc _) hb1 (by simp;omega)
 have bR:Boxed w1 (w.heap.size+1) 22 (.slice none 0 0):=boxed_below (by have:=(Boxed.new (w.alloc (.cells #[.int .u8 c] 5)) 22 (.slice none 0 0)).alloc (.cells #[.int .i64 0] 24);rw [World.size_alloc] at this;exact this) hb1 (by simp)
 have bE:Boxed w1 (w.heap.size+1+1) 24 (.int .i64 0):=boxed_below (by have:=Boxed.new ((w.alloc (.cells #[.int .u8 c] 5)).alloc (.cells #[.slice none 0 0] 22)) 24 (.int .i64 0);simp only [World.size_alloc] at this;exact this) hb1 (by simp)
 have HB1:Hid (Below w.heap.size w w1):=(hb0 _ _ _).trans (hb1.mono (hb0 _ _ _).size)
 have HIR:Hid (IRow w1 (w.heap.size+1+1+1) (T.bg 0)):=by have:=hir;simp only [World.size_alloc] at this;exact this
 clear hb0 hb1 hir HBG
 gi_wp2
 refine ⟨trivial,?_⟩
 obtain ⟨V,hV⟩:∃ V,(((w1.alloc (.cells #[.slice a m cap,.slice (some ⟨w.heap.size+1+1+1,0,none⟩) m m] 73)).alloc (.cells (madeCells #[.slice none 0 0] m) 22)).alloc (.cells #[.slice (some ⟨w1.heap.size+1,0,none⟩) m m] 56))=V:=⟨_,rfl⟩
 have hVs:V.heap.size=w1.heap.size+3:=by rw [← hV];simp
 have hVb:Below w1.heap.size w1 V:=by rw [← hV];exact (((Below.refl _ w1).alloc (Nat.le_refl _) _).alloc (by simp) _).alloc (by simp;omega) _
 have vF:FB w1 (.slice a m cap) (.slice (some ⟨w.heap.size+1+1+1,0,none⟩) m m) V:=by rw [← hV];exact fb_alloc _ (fb_alloc _ (fb_new w1 _ _ _))
 have vM:V.ownsRow (w1.heap.size+1) 22 1 (.slice (some ⟨w1.heap.size+1,0,none⟩) m m) m (List.replicate m (.slice none 0 0)):=by
  refine ⟨by simp,.inr ⟨w1.heap.size+1,m,madeCells #[.slice none 0 0] m,rfl,Nat.le_refl _,?_,Nat.le_refl _,by unfold maxLen;omega,by simp [size_madeCells],?_⟩⟩
  ·rw [← hV,heap_alloc_old _ _ _ (by simp)]
   have:=heap_alloc_new (w1.alloc (.cells #[.slice a m cap,.slice (some ⟨w.heap.size+1+1+1,0,none⟩) m m] 73)) (.cells (madeCells #[.slice none 0 0] m) 22)
   rw [World.size_alloc] at this
   exact this
  ·rw [Nat.mul_one,made_nil,List.take_of_length_le (by simp)]
 have vB:Boxed V (w1.heap.size+1+1) 56 (.slice (some ⟨w1.heap.size+1,0,none⟩) m m):=by
  rw [← hV]
  have:=Boxed.new ((w1.alloc (.cells #[.slice a m cap,.slice (some ⟨w.heap.size+1+1+1,0,none⟩) m m] 73)).alloc (.cells (madeCells #[.slice none 0 0] m) 22)) 56 (.slice (some ⟨w1.heap.size+1,0,none⟩) m m)
  simp only [World.size_alloc] at this
  exact this
 have vL:=boxed_below bL hVb (by omega)
 have vR:=boxed_below bR hVb (by omega)
 have vE:=boxed_below bE hVb (by omega)
 have vI:IRow V (w.heap.size+1+1+1) (T.bg 0):=HIR.out.keep hVb
 rw [hV]
 clear hV
 have HBV:Hid (Below w.heap.size w V):=HB1.out.trans (hVb.mono HB1.out.size)
 have hw:=way_any (HDF.out V _ HBV.out (HIR.out.keep hVb)) C HCT.out HCK.out (fun w1 q hb hs hok hc=>by
  have:=HNM.out _ w1 q (HDF.out w1 _ (go_on HBV.out hb) ((HIR.out.keep hVb).keep hb)) (go_on HBV.out hb) hs hok hc
  unfold dfV
  rw [HM.out]
  exact this)
 unfold dfV at hw
 rw [HM.out] at hw
 refine (callsIn_wide.2 hw).mono ?_
 clear hw
 rintro e w2 ⟨vo,Q,S,rfl,hway,hst,hown,hb2,hcq⟩
 obtain ⟨g,cg,rfl⟩:∃ g cg,vo=.slice (some ⟨g,0,none⟩) S.length cg:=by
  have hql:0<Q.length:=by have:=congrArg List.length hway.head;simp only [List.length_cons] at this;omega
  rcases hown.2 with ⟨_,h0⟩ | ⟨g,cap',cur,rfl,_⟩
  ·rw [hst.len] at h0;omega
  ·exact ⟨_,_,rfl⟩
 gi_wp2
 refine ⟨trivial,?_⟩
 refine (callsIn_wide.2 (backward_any _ _ _ w2)).mono ?_
 rintro e w3 ⟨rfl,rfl⟩
 gi_wp2
 -- the world ahead of the loop
 obtain ⟨U,hU⟩:∃ U,w2.alloc (.cells #[.slice (some ⟨g,0,none⟩) S.length cg] 77)=U:=⟨_,rfl⟩
 have hb3:Below w2.heap.size w2 U:=by rw [← hU];exact (Below.refl _ _).alloc (Nat.le_refl _) _
 have uX:Boxed U w2.heap.size 77 (.slice (some ⟨g,0,none⟩) S.length cg):=by rw [← hU];exact Boxed.new _ _ _
 have hb4:Below V.heap.size V U:=hb2.trans (hb3.mono hb2.size)
 have hs2:=hb2.size
 have hs4:=hb4.size
 have uL:=boxed_below vL hb4 (by omega)
 have uR:=boxed_below vR hb4 (by omega)
 have uE:=boxed_below vE hb4 (by omega)
 have uB:=boxed_below vB hb4 (by omega)
 have uF:=fb_step hb4 vF
 have uI:=vI.keep hb4
 have uM:U.ownsRow (w1.heap.size+1) 22 1 (.slice (some ⟨w1.heap.size+1,0,none⟩) m m) m (List.replicate m (.slice none 0 0)):=own_below vM hb4
 have uO:U.ownsRow V.heap.size 79 2 (.slice (some ⟨g,0,none⟩) S.length cg) S.length (stC S):=own_below hown hb3
 have uS:StR U V.heap.size S Q:=hst.below hb3
 have HBU:Hid (Below w.heap.size w U):=go_on HBV.out hb4
 rw [hU]
 have hUs:U.heap.size=w2.heap.size+1:=by rw [← hU];simp
 clear hU hown hst hb2 hb3 hb4 vL vR vE vB vF vI vM hVb bL bR bE
 have hgV:V.heap.size≤g:=(uO.lt g rfl).1
 have hgU:g<U.heap.size:=(uO.lt g rfl).2
 have HSL:Hid (S.length=Q.length):=uS.len
 have hQm:Q.length≤m:=by have:=hway.size;rw [HM.out] at this;exact this
 have HWY:Hid (Way T Q Q.length):=hway
 have HST:Hid (∀ j,j<S.length→∃ q ua uc,Q[S.length - 1 - j]?=some q∧S.getD (S.length - 1 - j) stD=(rt q,.slice ua (kids q).length uc)∧U.ownsRow V.heap.size 3 1 (.slice ua (kids q).length uc) (kids q).length (nC ((kids q).map rt))):=by
  intro j hj
  have hlq:S.length=Q.length:=HSL.out
  obtain ⟨q,hq⟩:∃ q,Q[S.length - 1 - j]?=some q:=⟨_,List.getElem?_eq_getElem (by omega)⟩
  obtain ⟨u,h1,h2⟩:=uS.at_ _ q hq
  obtain ⟨ua,uc,rfl⟩:=own_one h2
  exact ⟨q,ua,uc,hq,by rw [List.getD_eq_getElem?_getD,h1];rfl,h2⟩
 have HCQ:Hid (∀ q ∈ Q,C q.2):=hcq
 have hSc:∀ i,i<S.length→U.cell? ⟨g,i * 2,none⟩=some (.int .i64 ((S.getD i stD).1:Nat))∧U.cell? ⟨g,i * 2+1,none⟩=some (S.getD i stD).2:=by
  intro i hi
  have hge:S[i]?=some (S.getD i stD):=by rw [List.getD_eq_getElem?_getD,List.getElem?_eq_getElem hi];rfl
  obtain ⟨e1,e2⟩:=stC_at S i _ hge
  have f1:=uO.cells (g:=g) rfl _ _ e1
  have f2:=uO.cells (g:=g) rfl _ _ e2
  rw [Addr.add_lit,Nat.zero_add] at f1 f2
  exact ⟨f1,f2⟩
 refine rangeFunc_at rfl h1 (gf:=55) (lb:=#[.pointer (some ⟨w2.heap.size,0,none⟩)]) rfl trivial (enters_of Tryz.func55 (by kernel_rfl) rfl)
  (val:=bwV S) (Bs:=[w2.heap.size,g]) (N:=S.length) (w0:=U) (by intro b hb;simp at hb;rcases hb with rfl | rfl <;> omega)
  (backward_at (n - 1) (by omega) w2.heap.size g cg S U uX.cell hSc (by have:=HSL.out;omega)) (Below.refl _ _) (fun _=>rfl)
  (fun j W=>Ex (w1.heap.size+1) U W∧∃ ms,Mad c fit w.heap.size (w1.heap.size+1) (w1.heap.size+1) m W ms (pd T Q (Q.length - j)))
  (fun _ W=>Boxed W (w.heap.size+1) 22 (.slice none 0 0)∧Boxed W (w.heap.size+1+1) 24 (.int .i64 6)∧Below w.heap.size w W∧¬ fit T)
  ?own1 ?own2 ?start
  (fun j a' W=>(Ex (w1.heap.size+1) U W∧∃ ms,Mad c fit w.heap.size (w1.heap.size+1) (w1.heap.size+1) m W ms (pd T Q (Q.length - j)))∧∃ sb,U.heap.size≤sb∧W.heap[sb]?=some (.cells #[.int .i64 ((S.getD (S.length - 1 - j) stD).1:Nat),(S.getD (S.length - 1 - j) stD).2] 79 (0,0)) ∧
   a'={ tmps:=#[.slice a m cap,.int .u8 c,undef,.pointer (some ⟨w.heap.size,0,none⟩),.pointer (some ⟨w.heap.size+1,0,none⟩),.pointer (some ⟨w.heap.size+1+1,0,none⟩),.pointer (some ⟨w1.heap.size,0,none⟩),.pointer (some ⟨w1.heap.size+1+1,0,none⟩),undef,.pointer (some ⟨sb,0,none⟩),undef,undef,undef,undef,undef,
    .slice a m cap,.slice a m cap,.slice (some ⟨w.heap.size+1+1+1,0,none⟩) m m,.agg #[.slice a m cap,.slice (some ⟨w.heap.size+1+1+1,0,none⟩) m m],.slice a m cap,.int .i64 m,.slice (some ⟨w1.heap.size+1,0,none⟩) m m,.agg #[.slice a m cap,.slice (some ⟨w.heap.size+1+1+1,0,none⟩) m m],.slice (some ⟨g,0,none⟩) S.length cg,.func (.func 55) #[] #[.pointer (some ⟨w2.heap.size,0,none⟩)],
    .int .i64 ((S.length - 1 - j:Nat):Int),.agg #[.int .i64 ((S.getD (S.length - 1 - j) stD).1:Nat),(S.getD (S.length - 1 - j) stD).2],
    undef,undef,undef,undef,undef,undef,undef,undef,undef,undef,undef,undef,undef,undef,undef,undef,undef,undef,undef,undef,undef,undef,undef,undef,undef,undef,undef,undef,undef,undef,undef,undef,undef,undef,undef,undef,undef,undef,undef,undef,undef],defers:=[] })
  ?own3 ?assign ?body ?done ?stop
 case own1 =>
  rintro j W W' row ⟨hex,ms,hmad⟩ hg hr
  exact ⟨ex_grown hex hg (fun k e=>(hr k e).1),ms,hmad.own hg (fun r e=>(hr r e).2)⟩
 case own2 =>
  rintro j W W' row ⟨h1,h2,h3,h4⟩ hg hr
  have hne:∀ {b t v},Boxed W b t v→Boxed W' b t v:=fun {b t v} hb=>hb.kept hg (fun e=>by obtain ⟨_,o,ho,hc⟩:=hr b e.symm;rw [show W.heap[b]?=_ from hb] at ho;cases ho;cases hc)
  exact ⟨hne h1,hne h2,h3.grown hg (by have:=h3.size;omega) (fun k e=>by have:=(hr k e).1;have:=HBU.out.size;omega),h4⟩
 case start =>
  refine ⟨Ex.refl _ _,List.replicate m (.slice none 0 0),uM,fun y hy=>?_⟩
  rw [Nat.sub_zero,pd_end HWY.out] at hy
  cases hy
 case own3 =>
  rintro j a' _ W W' row ⟨⟨hex,ms,hmad⟩,sb,h1,h2,h3⟩ hg hr
  refine ⟨⟨ex_grown hex hg (fun k e=>(hr k e).1),ms,hmad.own hg (fun r e=>(hr r e).2)⟩,sb,h1,?_,h3⟩
  exact (hg.block sb (Array.getElem?_eq_some_iff.1 h2).1 (fun e=>by obtain ⟨_,o,ho,hc⟩:=hr sb e.symm;rw [h2] at ho;cases ho;cases hc)).trans h2
 case assign =>
  intro l j W K hj hI hK
  obtain ⟨q,ua,uc,hq,hS,hu⟩:=HST.out j hj
  unfold bwV
  rw [hS] at hK ⊢
  have HK:Hid _:=hK
  have HI:Hid _:=hI
  obtain ⟨i,hie⟩:∃ i,S.length - 1 - j=i:=⟨_,rfl⟩
  rw [hie]
  rw [hie] at HK
  clear hK hI hq hS hu hie hSc uL uR uE uB uF uI uM uO uS uX hway hcq hj
  gi_wp2
  have hWs:U.heap.size≤W.heap.size:=HI.out.1.size
  refine HK.out _ _ ⟨by simp,fun k o _ hk ho=>by rw [heap_alloc_old _ _ _ (Array.getElem?_eq_some_iff.1 hk).1];exact hk⟩ (fun b hb=>heap_alloc_old _ _ _ (by simp at hb;rcases hb with rfl | rfl <;> omega)) ⟨⟨?_,?_⟩,W.heap.size,hWs,heap_alloc_new W _,rfl⟩
  ·exact ex_grown HI.out.1 (World.grownBy_alloc W _ none) (fun k e=>by cases e)
  ·obtain ⟨ms,hm⟩:=HI.out.2
   exact ⟨ms,hm.own (World.grownBy_alloc W _ none) (fun k e=>by cases e)⟩
 case body =>
  rintro l j a' W hj ⟨⟨hex,ms,hmad⟩,sb,hsb,hsc,rfl⟩
  have hd:1≤n - 1 - 1:=by omega
  obtain ⟨q,ua,uc,hq,hS,hu⟩:=HST.out j hj
  rw [hS] at hsc ⊢
  obtain ⟨i,hie⟩:∃ i,S.length - 1 - j=i:=⟨_,rfl⟩
  rw [hie] at hq ⊢
  have hlq:S.length=Q.length:=HSL.out
  obtain ⟨R,hp1,hp2,hnd,hsub,hsl⟩:=pd_step HWY.out hq
  rw [show Q.length - j=i+1 by omega,hp2] at hmad
  obtain ⟨curM,hMU⟩:=own_row uM
  obtain ⟨curW,hMW⟩:=own_row hmad.row
  have hL:=boxed_ex uL hex (by omega)
  have hR:=boxed_ex uR hex (by omega)
  have hE:=boxed_ex uE hex (by omega)
  have hB:=boxed_ex uB hex (by omega)
  have hF0:=hex.cell uF.1 (by show w1.heap.size≠_;omega)
  have hF1:=hex.cell uF.2.1 (by show w1.heap.size≠_;omega)
  have hNm:=own_ex hu hex hMU (by decide)
  have hIr:IRow W (w.heap.size+1+1+1) (T.bg 0):=(hex.block _ uI.lt (by omega)).trans uI
  have hcB:=hB.cell
  have hcs0:W.cell? ⟨sb,0,none⟩=some (.int .i64 (rt q:Nat)):=by simp [World.cell?,hsc]
  have hcs1:W.cell? ⟨sb,1,none⟩=some (.slice ua (kids q).length uc):=by simp [World.cell?,hsc]
  have HEX:Hid (Ex (w1.heap.size+1) U W):=hex
  have HMAD:Hid _:=hmad
  have HRO:Hid _:=hmad.row
  have HL:Hid _:=hL
  have HR:Hid _:=hR
  have HE:Hid _:=hE
  have HB:Hid (Boxed W (w1.heap.size+1+1) 56 (.slice (some ⟨w1.heap.size+1,0,none⟩) m m)):=hB
  have HF:Hid (W.cell? ⟨w1.heap.size,0,none⟩=some (.slice a m cap)∧W.cell? ⟨w1.heap.size,1,none⟩=some (.slice (some ⟨w.heap.size+1+1+1,0,none⟩) m m)):=⟨hF0,hF1⟩
  have HNM2:Hid _:=hNm
  have HIR2:Hid (IRow W (w.heap.size+1+1+1) (T.bg 0)):=hIr
  have HSC:Hid (W.cell? ⟨sb,0,none⟩=some (.int .i64 (rt q:Nat))):=hcs0
  have HSB:Hid (sb≠w1.heap.size+1∧sb<W.heap.size):=⟨by omega,(Array.getElem?_eq_some_iff.1 hsc).1⟩
  have HMW:Hid (W.heap[w1.heap.size+1]?=some (.cells curW 22 (0,0))):=hMW
  have HML:Hid (w1.heap.size+1<W.heap.size∧w1.heap.size+1+1<W.heap.size):=⟨(Array.getElem?_eq_some_iff.1 hMW).1,hB.lt⟩
  have HND:Hid (((q :: R ++ kids q).map rt).Nodup):=hnd
  have HSUB:Hid _:=hsub
  have HQ:Hid (Q[i]?=some q):=hq
  have HP1:Hid (pd T Q i=q :: R):=hp1
  have HIJ:Hid (i+1=Q.length - j∧Q.length - (j+1)=i):=⟨by omega,by omega⟩
  have HKT:Hid (∀ t,t<(kids q).length→∃ ug y,ua=some ⟨ug,0,none⟩∧(kids q)[t]?=some y∧W.cell? ⟨ug,t,none⟩=some (.int .i64 (rt y:Nat))∧ug≠w1.heap.size+1∧rt y<m∧∃ ya yc,ms[rt y]?=some (.slice ya (drv c y.2).flat.length yc)∧(drv c y.2).flat.length≤4000):=by
   intro t ht
   obtain ⟨y,hy⟩:∃ y,(kids q)[t]?=some y:=⟨_,List.getElem?_eq_getElem ht⟩
   have hym:y ∈ kids q:=List.mem_of_getElem? hy
   obtain ⟨u,hu1,hu2,hu3,hu4⟩:=hmad.at_ y (List.mem_append_right _ hym)
   obtain ⟨ya,yc,rfl⟩:=own_one hu2
   have hsit:=(HWY.out.sit y (hsub y (by simp [hym]))).1.le
   rw [HM.out] at hsit
   have hfp:=flat_pos y.2
   rcases hNm.2 with ⟨_,h0⟩ | ⟨ug,cap',cur,e,_,hgg,_⟩
   ·omega
   ·simp only [Value.slice.injEq] at e
    obtain ⟨rfl,_⟩:=e
    have hc:=hNm.cells (g:=ug) rfl t (.int .i64 (rt y:Nat)) (by simp [nC,hy])
    rw [Addr.add_lit,Nat.zero_add] at hc
    refine ⟨ug,y,rfl,hy,hc,fun e=>?_,by unfold rt;omega,ya,yc,hu1,hu3⟩
    subst e
    rw [hMW] at hgg
    simp at hgg
  have hK4:(kids q).length≤4000:=by
   simp only [List.length_append,List.length_cons] at hsl
   omega
  clear hex hmad hL hR hE hB hF0 hF1 hNm hIr hsc hq hS hu hp1 hp2 hnd hsub hMU hMW hcB hie hj hlq uL uR uE uB uF uI uM uO uS uX hway hcq hSc hcs0
  gi_wp2
  clear hcs1
  gi_loopw [10,30] (fun vp vt wr=>∃ (t:Nat) (ms' us:List Value) (v:Value),v=vp∧vt=.int .i64 t∧t≤(kids q).length∧Ex (w1.heap.size+1) W wr∧wr.ownsRow (w1.heap.size+1) 22 1 (.slice (some ⟨w1.heap.size+1,0,none⟩) m m) m ms'∧us.length=t∧wr.ownsRow W.heap.size 22 1 v t us∧(∀ (i:Nat) (y:Nat × Tr),i<t→(kids q)[i]?=some y→us[i]?=ms[rt y]?)∧(∀ y ∈ R ++ (kids q).drop t,ms'[rt y]?=ms[rt y]?)) (fun _ vt _=>(kids q).length - (intOf vt).toNat)
  case atStart=>exact ⟨0,ms,[],_,rfl,rfl,Nat.zero_le _,Ex.refl _ _,HRO.out,rfl,World.ownsRow_nil _ _ _ _,fun i y hi=>by omega,fun y _=>rfl⟩
  case round =>
   obtain ⟨t,ms',us,v,rfl,rfl,ht,hex,hrow,hul,hpar,hus,hms⟩:=hrel
   have HEX':Hid _:=hex
   have HROW:Hid (wr.ownsRow (w1.heap.size+1) 22 1 (.slice (some ⟨w1.heap.size+1,0,none⟩) m m) m ms'):=hrow
   have HUL:Hid (us.length=t):=hul
   have HPAR:Hid (wr.ownsRow W.heap.size 22 1 v t us):=hpar
   have HUS:Hid _:=hus
   have HMS:Hid _:=hms
   have HTL:Hid (t≤(kids q).length):=ht
   by_cases htlt : t < (kids q).length
   ·obtain ⟨ug,y,rfl,hy,hyc,hug,hym,ya,yc,hyu,hyl⟩:=HKT.out t htlt
    have hyc':=hex.cell hyc hug
    have hmb:=(boxed_ex HB.out hex (by omega)).cell
    have hms0:ms'[rt y]?=some (.slice ya (drv c y.2).flat.length yc):=by rw [hms y (List.mem_append_right _ (List.mem_of_getElem? (i:=0) (by rw [List.getElem?_drop];exact hy)))];exact hyu
    have hcm:wr.cell? ⟨w1.heap.size+1,rt y,none⟩=some (.slice ya (drv c y.2).flat.length yc):=by
     have:=hrow.cells (g:=w1.heap.size+1) rfl _ _ hms0
     rwa [Addr.add_lit,Nat.zero_add] at this
    have htI:(t:Int)<(kids q).length:=by omega
    have HY:Hid ((kids q)[t]?=some y):=hy
    have HYU:Hid (ms[rt y]?=some (.slice ya (drv c y.2).flat.length yc)):=hyu
    have HTT:Hid (t<(kids q).length):=htlt
    obtain ⟨D,hD⟩:∃ D,(drv c y.2).flat.length=D:=⟨_,rfl⟩
    rw [hD] at hcm HYU
    obtain ⟨r,hr⟩:∃ r,rt y=r:=⟨_,rfl⟩
    have HRY:Hid (rt y=r):=hr
    rw [hr] at hyc' hcm hym
    have HNX:Hid (∀ O w9,(wr.alloc O).grownBy w9 v.ownBlock→Ex (w1.heap.size+1) W w9∧w9.ownsRow (w1.heap.size+1) 22 1 (.slice (some ⟨w1.heap.size+1,0,none⟩) m m) m ms'∧w9.cell? ⟨w1.heap.size+1+1,0,none⟩=some (.slice (some ⟨w1.heap.size+1,0,none⟩) m m)∧w9.cell? ⟨w1.heap.size+1,r,none⟩=some (.slice ya D yc)∧w9.frozen? ⟨w1.heap.size+1,r,none⟩=false):=fun O w9 hg9=>by
     have hx:=ex_grown (ex_grown HEX'.out (World.grownBy_alloc wr O none) (fun k e=>by cases e)) hg9 (fun k e=>(HPAR.out.lt k e).1)
     have hk9:w9.ownsRow (w1.heap.size+1) 22 1 (.slice (some ⟨w1.heap.size+1,0,none⟩) m m) m ms':=(HROW.out.alloc O).kept hg9 (.inr (fun e=>by have h5:W.heap.size≤w1.heap.size+1:=(HPAR.out.lt _ e.symm).1;have h6:w1.heap.size+1<W.heap.size:=HML.out.1;omega))
     refine ⟨hx,hk9,(boxed_ex HB.out hx (by omega)).cell,?_,hk9.frozenAt r⟩
     have:=hk9.cells (g:=w1.heap.size+1) rfl r _ (by rw [← HRY.out];rw [hD] at hms0;exact hms0)
     rwa [Addr.add_lit,Nat.zero_add] at this
    have hu4:us.length≤4000:=by omega
    have ht4:t≤4000:=by omega
    have HWW:Hid (W.heap.size≤wr.heap.size):=hex.size
    have hiM:(r:Int)<m:=by omega
    clear hy hyc hug hyu hyl hms0 hex hrow hul hpar hus hms ht hD hr
    gi_wp2_with (gi_at_builtin;refine wpListIn_append_own _ rfl _ _ 56 rfl W.heap.size 22 i0 (.slice none 0 0) 1 24 Tryz.underlying56 hi hz0 hz1 hz2 rfl (by decide) _ _ _ rfl (HPAR.out.alloc _) ⟨wr.heap.size,0,none⟩ 1 1 [.slice ya D yc] rfl rfl (cell_one_new _ _ _) (by simp [Value.oneCell']) (by unfold maxLen;omega) (by omega) (by have:=HWW.out;simp;omega) ?_;intro v9 w9 ho9 hg9 _;obtain ⟨hx9,hr9,hb9,hc9,hf9⟩:=HNX.out _ w9 hg9;have HX9:Hid _:=hx9;have HR9:Hid (w9.ownsRow (w1.heap.size+1) 22 1 (.slice (some ⟨w1.heap.size+1,0,none⟩) m m) m ms'):=hr9;have HO9:Hid (w9.ownsRow W.heap.size 22 1 v9 (t+1) (us ++ [.slice ya D yc])):=ho9;clear hx9 hr9 ho9 hg9)
    go_roundw
    case rel =>
     have hst:=HR9.out.stored r (.slice none 0 0)
     have hnd:=HND.out
     rw [List.cons_append,List.map_cons,List.nodup_cons] at hnd
     have htk:kids q=(kids q).take t ++ y :: (kids q).drop (t+1):=by
      have h1:=List.take_append_drop t (kids q)
      rw [List.drop_eq_getElem_cons HTT.out] at h1
      have h2:=HY.out
      rw [List.getElem?_eq_getElem HTT.out] at h2
      rw [Option.some.inj h2] at h1
      exact h1.symm
     have hnd2:=hnd.2
     rw [htk,← List.append_assoc,List.map_append,List.map_cons,List.nodup_append] at hnd2
     obtain ⟨_,hn2,hn3⟩:=hnd2
     rw [List.nodup_cons] at hn2
     refine ⟨t+1,ms'.set r (.slice none 0 0),us ++ [.slice ya D yc],v9,rfl,by go_num,HTT.out,HX9.out.trans (Ex.set _ _ _ _),hst.1,by simp [HUL.out],HO9.out.kept hst.2 (.inr (fun e=>by have h5:W.heap.size≤w1.heap.size+1:=(HO9.out.lt _ e).1;have h6:w1.heap.size+1<W.heap.size:=HML.out.1;omega)),?_,?_⟩
     ·intro i' y' hi' hy'
      have hul:us.length=t:=HUL.out
      by_cases c1 : i' < t
      ·rw [List.getElem?_append_left (by omega)]
       exact HUS.out i' y' c1 hy'
      ·have e1:i'=t:=by omega
       subst e1
       rw [HY.out] at hy'
       have e2:=Option.some.inj hy'
       subst e2
       rw [List.getElem?_append_right (by omega),hul,Nat.sub_self,HYU.out]
       rfl
     ·intro y' hy'
      have hne:rt y'≠r:=by
       rw [← HRY.out]
       rcases List.mem_append.1 hy' with h | h
       ·intro e
        exact hn3 (rt y') (List.mem_map_of_mem (List.mem_append_left _ h)) (rt y) (by simp) e
       ·intro e
        exact hn2.1 (by rw [← e];exact List.mem_map_of_mem h)
      rw [List.getElem?_set_ne (fun e=>hne e.symm)]
      refine HMS.out y' ?_
      rcases List.mem_append.1 hy' with h | h
      ·exact List.mem_append_left _ h
      ·refine List.mem_append_right _ ?_
       rw [List.drop_eq_getElem_cons HTT.out]
       exact List.mem_cons_of_mem _ h
    case measure=>simp [intOf];have h:t<(kids q).length:=HTT.out;omega
   ·have htI:¬ (t:Int)<(kids q).length:=by omega
    have HTK:Hid (t=(kids q).length):=by show _=_;omega
    have hc1:=(boxed_ex HL.out hex (by omega)).cell
    have hc2:=hex.cell HF.out.1 (by show w1.heap.size≠_;omega)
    have hc3:=hex.cell HF.out.2 (by show w1.heap.size≠_;omega)
    have hc4:=hex.cell HSC.out HSB.out.1
    have hwW:Below w.heap.size w W:=HEX.out.below HBU.out (by have:=HB1.out.size;omega) (Nat.le_refl _)
    have hww:Below w.heap.size w wr:=hex.below hwW (by have:=HB1.out.size;omega) (Nat.le_refl _)
    have hir:IRow wr (w.heap.size+1+1+1) (T.bg 0):=(hex.block _ HIR2.out.lt (by omega)).trans HIR2.out
    have hsq:=HWY.out.sit q (HSUB.out q (by simp))
    have hprt:Prt w.heap.size wr W.heap.size v ((kids q).map fun y=>drv c y.2):=by
     refine ⟨us,by rw [List.length_map];omega,by rw [List.length_map,← HTK.out];exact hpar,fun i' x hx=>?_⟩
     rw [List.getElem?_map] at hx
     cases hy : (kids q)[i']? with
     | none=>rw [hy] at hx;cases hx
     | some y =>
      rw [hy] at hx
      have e:=Option.some.inj hx
      subst e
      have hi':i'<t:=by rw [HTK.out];exact (List.getElem?_eq_some_iff.1 hy).1
      obtain ⟨u,h1,h2,h3,h4⟩:=HMAD.out.at_ y (List.mem_append_right _ (List.mem_of_getElem? hy))
      exact ⟨u,by rw [hus i' y hi' hy];exact h1,h2.ex hex HMW.out (by decide),h3⟩
    have hcall:=HRU.out (w.heap.size+1+1+1) wr q v W.heap.size (HDF.out wr _ hww hir) hww hsq.1 hsq.2 (HWY.out.nf HNF.out q (HSUB.out q (by simp))) (HCQ.out q (HSUB.out q (by simp))) hex.size hwW.size (HIR2.out.lt) hprt
    have HCALL:Hid (Calls Tryz.prog 39 #[.agg #[.slice a m cap,.slice (some ⟨w.heap.size+1+1+1,0,none⟩) m m],.int .i64 (rt q:Nat),.int .u8 c,v] wr (RuJ (loc q.2) (drv c q.2) w.heap.size W.heap.size wr)):=hcall
    have HWW:Hid (Below w.heap.size w wr):=hww
    have HMX:Hid (∀ y ∈ R,ms'[rt y]?=ms[rt y]?):=fun y hy=>hms y (List.mem_append_left _ hy)
    clear hcall hww hwW hprt hir hsq hex hrow hul hpar hus hms ht
    gi_wp2
    refine ⟨trivial,?_⟩
    refine (CallsIn.inRound l (callsIn_wide.2 HCALL.out)).mono ?_
    clear HCALL hc1 hc2 hc3 hc4
    rintro e w5 (⟨hnl,rfl,hb5⟩ | ⟨hlc,u5,rfl,hno5,hb5⟩)
    ·have hx5:=ex_below HEX'.out hb5
     have bR5:Boxed w5 (w.heap.size+1) 22 (.slice none 0 0):=boxed_ex HR.out hx5 (by omega)
     have bE5:Boxed w5 (w.heap.size+1+1) 24 (.int .i64 0):=boxed_ex HE.out hx5 (by omega)
     have HX5:Hid (Ex (w1.heap.size+1) W w5):=hx5
     have HR5:Hid (Boxed w5 (w.heap.size+1) 22 (.slice none 0 0)):=bR5
     have HE5:Hid (Boxed w5 (w.heap.size+1+1) 24 (.int .i64 0)):=bE5
     have f1:=bR5.cell
     have f2:=bR5.frozen
     have f3:∀ x,(w5.setCell ⟨w.heap.size+1,0,none⟩ x).cell? ⟨w.heap.size+1+1,0,none⟩=some (.int .i64 0):=fun x=>by rw [World.cell?_of_block (heap_setCell_other w5 ⟨w.heap.size+1,0,none⟩ (w.heap.size+1+1) x (by show _≠w.heap.size+1;omega))];exact bE5.cell
     have f4:∀ x,(w5.setCell ⟨w.heap.size+1,0,none⟩ x).frozen? ⟨w.heap.size+1+1,0,none⟩=false:=fun x=>by rw [World.frozen?_setCell];exact bE5.frozen
     have HNL:Hid (¬ loc q.2):=hnl
     have HB5:Hid (Below W.heap.size wr w5):=hb5
     clear hb5 hnl hx5 bR5 bE5
     gi_wp2
     have hUW:U.heap.size≤W.heap.size:=HEX.out.size
     have hB1:Below w.heap.size w w1:=HB1.out
     have hs1':=hB1.size
     refine ⟨(ex_keeps HX5.out HMW.out).trans ⟨by simp,fun k o hBk hk _=>?_⟩,?_,?_,?_,fun hf=>?_⟩
     ·rw [heap_setCell_other _ ⟨w.heap.size+1+1,0,none⟩ k _ (by show k≠w.heap.size+1+1;omega),heap_setCell_other _ ⟨w.heap.size+1,0,none⟩ k _ (by show k≠w.heap.size+1;omega)]
      exact hk
     ·exact (heap_setCell_other _ ⟨w.heap.size+1+1,0,none⟩ (w.heap.size+1) _ (by show _≠w.heap.size+1+1;omega)).trans (HR5.out.set _)
     ·exact Boxed.set _ (show Boxed (w5.setCell ⟨w.heap.size+1,0,none⟩ (.slice none 0 0)) (w.heap.size+1+1) 24 (.int .i64 0) from (heap_setCell_other _ ⟨w.heap.size+1,0,none⟩ (w.heap.size+1+1) _ (by show _≠w.heap.size+1;omega)).trans HE5.out)
     ·have h5:Below w.heap.size w w5:=HWW.out.trans (HB5.out.mono (by omega))
      exact (h5.setCell (p:=⟨w.heap.size+1,0,none⟩) (by show _≤w.heap.size+1;omega) _).setCell (p:=⟨w.heap.size+1+1,0,none⟩) (by show _≤w.heap.size+1+1;omega) _
     ·have hall:=way_all HWY.out (fun q=>fit q.2) hf (fun q hq hfq y hy=>((HFT.out q (HWY.out.sit q hq).2 (HWY.out.nf HNF.out q hq) (HCQ.out q hq)).1 hfq).1 y hy)
      have hqm:=HSUB.out q (by simp)
      exact HNL.out ((HFT.out q (HWY.out.sit q hqm).2 (HWY.out.nf HNF.out q hqm) (HCQ.out q hqm)).1 (hall q hqm)).2
    ·obtain ⟨ya,yc,rfl⟩:=own_one hno5
     have hx5:=ex_below HEX'.out hb5
     have hm5:=(boxed_ex HB.out hx5 (by omega)).cell
     have HX5:Hid (Ex (w1.heap.size+1) W w5):=hx5
     have hro5:w5.ownsRow (w1.heap.size+1) 22 1 (.slice (some ⟨w1.heap.size+1,0,none⟩) m m) m ms':=own_of_heap HROW.out (fun b hb=>hb5.block b (by cases hb;exact HML.out.1))
     have HRO5:Hid (w5.ownsRow (w1.heap.size+1) 22 1 (.slice (some ⟨w1.heap.size+1,0,none⟩) m m) m ms'):=hro5
     have hsc5:=hx5.cell HSC.out HSB.out.1
     have hlm:ms'.length=m:=by have:=hro5.1;omega
     have hrq:rt q<m:=by
      have hsit:=(HWY.out.sit q (HSUB.out q (by simp))).1.le
      rw [HM.out] at hsit
      have hfp:=flat_pos q.2
      unfold rt;omega
     obtain ⟨old,hold⟩:∃ old,ms'[rt q]?=some old:=⟨_,List.getElem?_eq_getElem (by omega)⟩
     have hco:w5.cell? ⟨w1.heap.size+1,rt q,none⟩=some old:=by
      have:=hro5.cells (g:=w1.heap.size+1) rfl _ _ hold
      rwa [Addr.add_lit,Nat.zero_add] at this
     have hfo:=hro5.frozenAt (rt q)
     have hqI:((rt q:Nat):Int)<m:=by omega
     have HLC:Hid (loc q.2):=hlc
     have HNO:Hid (NO w.heap.size w5 (.slice ya (drv c q.2).flat.length yc) (drv c q.2)):=hno5
     have HB5:Hid (Below W.heap.size wr w5):=hb5
     have HLM:Hid (ms'.length=m):=hlm
     clear hb5 hlc hx5 hno5 hro5 hold hlm
     gi_wp2
     have hUW:U.heap.size≤W.heap.size:=HEX.out.size
     have hxx:Ex (w1.heap.size+1) W (w5.setCell ⟨w1.heap.size+1,rt q,none⟩ (.slice ya (drv c q.2).flat.length yc)):=HX5.out.trans (Ex.set _ _ _ _)
     have hqm:=HSUB.out q (by simp)
     obtain ⟨cur5,hM5⟩:=own_row HRO5.out
     refine ⟨ex_keeps hxx HMW.out,fun b hb=>hxx.block b (by simp at hb;rcases hb with rfl | rfl <;> omega) (by simp at hb;rcases hb with rfl | rfl <;> omega),HEX.out.trans hxx,ms'.set (rt q) (.slice ya (drv c q.2).flat.length yc),(HRO5.out.stored (rt q) _).1,fun y hy=>?_⟩
     rw [HIJ.out.2,HP1.out] at hy
     have hnd:=HND.out
     rw [List.cons_append,List.map_cons,List.nodup_cons] at hnd
     have hlm:ms'.length=m:=HLM.out
     rcases List.mem_cons.1 hy with rfl | hy
     ·refine ⟨_,by rw [List.getElem?_set_self (by omega)],HNO.out.ex (Ex.set _ _ _ _) hM5 (by decide),HLN.out _ HLC.out (HCQ.out _ hqm),(HFT.out _ (HWY.out.sit _ hqm).2 (HWY.out.nf HNF.out _ hqm) (HCQ.out _ hqm)).2 ⟨fun z hz=>?_,HLC.out⟩⟩
      obtain ⟨_,_,_,_,h5⟩:=HMAD.out.at_ z (List.mem_append_right _ hz)
      exact h5
     ·obtain ⟨u,e1,e2,e3⟩:=HMAD.out.at_ y (List.mem_append_left _ hy)
      refine ⟨u,?_,e2.ex hxx HMW.out (by decide),e3⟩
      rw [List.getElem?_set_ne (fun e=>hnd.1 (by rw [e];exact List.mem_map_of_mem (List.mem_append_left _ hy))),HMX.out y hy]
      exact e1
 case done =>
  rintro D W hD ⟨hex,ms,hmad⟩ hK
  rw [HSL.out,Nat.sub_self,pd_zero] at hmad
  obtain ⟨u,hu1,hu2,hu3,hu4⟩:=hmad.at_ (0,T) (by simp)
  obtain ⟨ya,yc,rfl⟩:=own_one hu2
  have hrt:rt (0,T)=m - 1:=by unfold rt;rw [HM.out];simp
  rw [hrt] at hu1
  have hcm:W.cell? ⟨w1.heap.size+1,m - 1,none⟩=some (.slice ya (drv c T).flat.length yc):=by
   have:=hmad.row.cells (g:=w1.heap.size+1) rfl _ _ hu1
   rwa [Addr.add_lit,Nat.zero_add] at this
  have hB:=(boxed_ex uB hex (by omega)).cell
  have bR:=boxed_ex uR hex (by omega)
  have bE:=boxed_ex uE hex (by omega)
  have f1:=bR.cell
  have f2:=bR.frozen
  have f3:∀ x,(W.setCell ⟨w.heap.size+1,0,none⟩ x).cell? ⟨w.heap.size+1+1,0,none⟩=some (.int .i64 0):=fun x=>by rw [World.cell?_of_block (heap_setCell_other W ⟨w.heap.size+1,0,none⟩ (w.heap.size+1+1) x (by show _≠w.heap.size+1;omega))];exact bE.cell
  have f4:∀ x,(W.setCell ⟨w.heap.size+1,0,none⟩ x).frozen? ⟨w.heap.size+1+1,0,none⟩=false:=fun x=>by rw [World.frozen?_setCell];exact bE.frozen
  have hI1:IntKind.i64.wrap ((m:Int) - 1)=((m - 1:Nat):Int):=by rw [IntKind.wrap_i64];omega
  have HEX:Hid (Ex (w1.heap.size+1) U W):=hex
  have HBR:Hid (Boxed W (w.heap.size+1) 22 (.slice none 0 0)):=bR
  have HBE:Hid (Boxed W (w.heap.size+1+1) 24 (.int .i64 0)):=bE
  have HNO:Hid (NO w.heap.size W (.slice ya (drv c T).flat.length yc) (drv c T)):=hu2
  have HFI:Hid (fit T):=hu4
  have HKD:Hid (W.heap[D]?=some (.deferred (some []))):=hK
  clear hex hmad hu1 hu2 hu3 hu4 bR bE hK uL uR uE uB uF uI uM uO uS uX hway hcq hSc
  gi_wp2
  have hUb:=HBU.out.size
  have hB1s:=HB1.out.size
  have b1:Boxed ((W.setCell ⟨w.heap.size+1,0,none⟩ (.slice ya (drv c T).flat.length yc)).setCell ⟨w.heap.size+1+1,0,none⟩ (.int .i64 0)) (w.heap.size+1) 22 (.slice ya (drv c T).flat.length yc) :=
   (heap_setCell_other _ ⟨w.heap.size+1+1,0,none⟩ (w.heap.size+1) _ (by show _≠w.heap.size+1+1;omega)).trans (HBR.out.set _)
  have b2:Boxed ((W.setCell ⟨w.heap.size+1,0,none⟩ (.slice ya (drv c T).flat.length yc)).setCell ⟨w.heap.size+1+1,0,none⟩ (.int .i64 0)) (w.heap.size+1+1) 24 (.int .i64 0) :=
   Boxed.set _ (show Boxed (W.setCell ⟨w.heap.size+1,0,none⟩ (.slice ya (drv c T).flat.length yc)) (w.heap.size+1+1) 24 (.int .i64 0) from (heap_setCell_other _ ⟨w.heap.size+1,0,none⟩ (w.heap.size+1+1) _ (by show _≠w.heap.size+1;omega)).trans HBE.out)
  have hW:Below w.heap.size w W:=HEX.out.below HBU.out (by omega) (Nat.le_refl _)
  have b3:=(hW.setCell (p:=⟨w.heap.size+1,0,none⟩) (by show _≤w.heap.size+1;omega) (.slice ya (drv c T).flat.length yc)).setCell (p:=⟨w.heap.size+1+1,0,none⟩) (by show _≤w.heap.size+1+1;omega) (.int .i64 0)
  have hn1:NO w.heap.size ((W.setCell ⟨w.heap.size+1,0,none⟩ (.slice ya (drv c T).flat.length yc)).setCell ⟨w.heap.size+1+1,0,none⟩ (.int .i64 0)) (.slice ya (drv c T).flat.length yc) (drv c T) :=
   (HNO.out.ex (Ex.set (w.heap.size+1) W 0 _) HBR.out (t:=22) (by decide)).ex (Ex.set (w.heap.size+1+1) _ 0 _) (t:=24) (cur:=#[.int .i64 0]) ((heap_setCell_other _ ⟨w.heap.size+1,0,none⟩ (w.heap.size+1+1) _ (by show _≠w.heap.size+1;omega)).trans HBE.out) (by decide)
  have hKD:((W.setCell ⟨w.heap.size+1,0,none⟩ (.slice ya (drv c T).flat.length yc)).setCell ⟨w.heap.size+1+1,0,none⟩ (.int .i64 0)).heap[D]?=some (.deferred (some [])):=by
   rw [heap_setCell_other _ ⟨w.heap.size+1+1,0,none⟩ D _ (by show D≠w.heap.size+1+1;omega),heap_setCell_other _ ⟨w.heap.size+1,0,none⟩ D _ (by show D≠w.heap.size+1;omega)]
   exact HKD.out
  have hcel:∀ r,(some D:Option Nat)=some r→∃ o:Obj,((W.setCell ⟨w.heap.size+1,0,none⟩ (.slice ya (drv c T).flat.length yc)).setCell ⟨w.heap.size+1+1,0,none⟩ (.int .i64 0)).heap[r]?=some o∧o.isCells=false:=fun r e=>by cases e;exact ⟨_,hKD,rfl⟩
  refine ⟨by simp,.inl ⟨_,_,rfl,run_takeDeferred hKD,?_⟩⟩
  exact ⟨_,results_box2 rfl rfl rfl (boxed_put b1 _ (by omega)) (boxed_put b2 _ (by omega)),.inr ⟨HFI.out,_,rfl,own_noncells hn1 (grownBy_putObj' _ D _) hcel,b3.grown (grownBy_putObj' _ D _) (by have:=b3.size;omega) (fun k e=>by cases e;omega)⟩⟩
 case stop =>
  rintro D W hD ⟨b1,b2,b3,b4⟩ hK
  clear uL uR uE uB uF uI uM uO uS uX hway hcq hSc
  gi_wp2
  have hUb:=HBU.out.size
  have hB1s:=HB1.out.size
  refine ⟨by simp,.inl ⟨_,_,rfl,run_takeDeferred hK,?_⟩⟩
  exact ⟨_,results_box2 rfl rfl rfl (boxed_put b1 _ (by omega)) (boxed_put b2 _ (by omega)),.inl ⟨b4,rfl,b3.grown (grownBy_putObj' W D _) (by have:=b3.size;omega) (fun k e=>by cases e;omega)⟩⟩

/-- derivative, over the contracts of named and rule. -/
theorem derivative_over (c : Int) {T : Tr} {a : Option Addr} {cap : Nat} {w : World} (ho : T.ok) (hnf : NF T) (hl : T.flat.length ≤ 4000) (hv : NReads w (.slice a T.flat.length cap) T.flat) (hcap : T.flat.length ≤ cap)
  (C loc fit:Tr→Prop) (hC:C T) (hCk:∀ q:Nat × Tr,C q.2→∀ y ∈ kids q,C y.2) (hfit:∀ q:Nat × Tr,q.2.ok→NF q.2→C q.2→(fit q.2↔(∀ y ∈ kids q,fit y.2)∧loc q.2)) (hlen:∀ x,loc x→C x→(drv c x).flat.length≤4000)
  (hNM:∀ gb w1 (q:Nat × Tr),DForm w1 T a cap gb→Below w.heap.size w w1→Sit T.flat (T.bg 0) q.1 q.2→q.2.ok→C q.2→Calls Tryz.prog 56 #[dfV T a cap gb,.int .i64 (rt q:Nat)] w1 (NmQ q w1))
  (hRU:∀ gb w1 (q:Nat × Tr) v base,DForm w1 T a cap gb→Below w.heap.size w w1→Sit T.flat (T.bg 0) q.1 q.2→q.2.ok→NF q.2→C q.2→base≤w1.heap.size→w.heap.size≤base→gb<base→Prt w.heap.size w1 base v ((kids q).map fun y=>drv c y.2) →
   Calls Tryz.prog 39 #[dfV T a cap gb,.int .i64 (rt q:Nat),.int .u8 c,v] w1 (RuJ (loc q.2) (drv c q.2) w.heap.size base w1)) :
  Calls Tryz.prog 24 #[.slice a T.flat.length cap,.int .u8 c] w (RuJ (fit T) (drv c T) w.heap.size w.heap.size w) :=
 callsIn_wide.1 (derivative_in 3 (by omega) c ho hnf hl hv hcap C loc fit hC hCk hfit hlen hNM hRU)
end Go.Proofs.YtfdhaknecjcjoaaGreatDoor
