/- En Eo, in one text. -/
import Derived.Test.YtfdhaknecjcjoaaGreatDoorPM
import Derived.Test.YtfdhaknecjcjoaaGreatDoorPXz
import Derived.Deep.AppendLies
namespace Go.Proofs.YtfdhaknecjcjoaaGreatDoor
open Go Go.RowKit Go.Lib
set_option linter.unusedVariables false

/-- Values that are trees. -/
structure PX (lo : Nat) (W : World) (us : List Value) (L : List Tr) : Prop where
 len : us.length = L.length
 at_:∀ (i:Nat) (x:Tr),L[i]?=some x→∃ u,us[i]?=some u∧NO lo W u x∧x.flat.length≤4000
theorem PX.nil (lo:Nat) (W:World):PX lo W [] []:=⟨rfl,fun i x h=>by simp at h⟩
theorem PX.single {lo:Nat} {W:World} {u:Value} {x:Tr} (h:NO lo W u x) (hl:x.flat.length≤4000):PX lo W [u] [x]:=⟨rfl,fun i y hy=>by
 cases i with
 | zero=>simp at hy;subst hy;exact ⟨u,rfl,h,hl⟩
 | succ i=>simp at hy⟩
theorem PX.append {lo:Nat} {W:World} {us us':List Value} {l l':List Tr} (h:PX lo W us l) (h':PX lo W us' l'):PX lo W (us ++ us') (l ++ l'):=by
 refine ⟨by rw [List.length_append,List.length_append,h.len,h'.len],fun i t hi=>?_⟩
 by_cases hl : i < l.length
 ·rw [List.getElem?_append_left hl] at hi
  rw [List.getElem?_append_left (by rw [h.len];exact hl)]
  exact h.at_ i t hi
 ·rw [List.getElem?_append_right (by omega)] at hi
  rw [List.getElem?_append_right (by rw [h.len];omega),h.len]
  exact h'.at_ _ t hi
theorem PX.take {lo:Nat} {W:World} {us:List Value} {l:List Tr} (h:PX lo W us l) (k:Nat):PX lo W (us.take k) (l.take k):=by
 refine ⟨by rw [List.length_take,List.length_take,h.len],fun i t hi=>?_⟩
 rw [List.getElem?_take] at hi ⊢
 split at hi
 ·next hk=>rw [if_pos hk];exact h.at_ i t hi
 ·cases hi
theorem PX.drop {lo:Nat} {W:World} {us:List Value} {l:List Tr} (h:PX lo W us l) (k:Nat):PX lo W (us.drop k) (l.drop k):=by
 refine ⟨by rw [List.length_drop,List.length_drop,h.len],fun i t hi=>?_⟩
 rw [List.getElem?_drop] at hi ⊢
 exact h.at_ _ t hi
theorem PX.one {lo:Nat} {W:World} {us:List Value} {l:List Tr} (h:PX lo W us l):∀ u ∈ us,u.oneCell'=true:=by
 intro u hu
 obtain ⟨i,hi,rfl⟩:=List.mem_iff_getElem.1 hu
 obtain ⟨v,e,hn,_⟩:=h.at_ i (l[i]'(by rw [← h.len];exact hi)) (List.getElem?_eq_getElem _)
 rw [List.getElem?_eq_getElem hi] at e
 rw [Option.some.inj e]
 obtain ⟨a,c,rfl⟩:=own_one hn
 rfl
theorem PX.map {lo:Nat} {W W':World} {us:List Value} {l:List Tr} (h:PX lo W us l) (f:∀ u x,NO lo W u x→NO lo W' u x):PX lo W' us l :=
 ⟨h.len,fun i t hi=>by obtain ⟨u,h1,h2,h3⟩:=h.at_ i t hi;exact ⟨u,h1,f u t h2,h3⟩⟩
theorem Prt.px {lo base:Nat} {W:World} {v:Value} {L:List Tr} (h:Prt lo W base v L):∃ us,PX lo W us L∧W.ownsRow base 22 1 v L.length us:=by
 obtain ⟨us,h1,h2,h3⟩:=h
 exact ⟨us,⟨h1,h3⟩,h2⟩
theorem prt_of {lo base:Nat} {W:World} {v:Value} {L:List Tr} {us:List Value} (h:PX lo W us L) (hr:W.ownsRow base 22 1 v L.length us):Prt lo W base v L:=⟨us,h.len,hr,h.at_⟩
theorem Prt.grown {lo base base':Nat} {W W':World} {v v2:Value} {L:List Tr} {n:Nat} {ys:List Value} (h:Prt lo W base v L) (hg:W.grownBy W' v2.ownBlock) (h2:W.ownsRow base' 22 1 v2 n ys) (hne:v.ownBlock=none∨v.ownBlock≠v2.ownBlock):Prt lo W' base v L:=by
 obtain ⟨us,hp,hr⟩:=h.px
 exact prt_of (hp.map fun u x hn=>own_apart2 hn hg h2 (by decide)) (hr.kept hg hne)
theorem Prt.below {lo base:Nat} {W W':World} {v:Value} {L:List Tr} (h:Prt lo W base v L) (hb:Below W.heap.size W W'):Prt lo W' base v L:=by
 obtain ⟨us,hp,hr⟩:=h.px
 exact prt_of (hp.map fun u x hn=>hn.below hb) (own_below hr hb)
theorem Prt.mono {lo base base':Nat} {W:World} {v:Value} {L:List Tr} (h:Prt lo W base v L) (hb:base'≤base):Prt lo W base' v L:=by
 obtain ⟨us,hp,hr⟩:=h.px
 exact prt_of hp (own_mono hr hb)

set_option maxHeartbeats 4000000 in
set_option maxRecDepth 100000 in
theorem insert_any {lo base:Nat} {w:World} {v:Value} {M:List Tr} (hv:Prt lo w base v M) {i:Nat} (hi:i≤M.length) {m:Tr} {u:Value} (hu:NO lo w u m) (hml:m.flat.length≤4000) {vb:Nat} (hvb:w.heap[vb]?=some (.cells #[u] 22 (0,0))) (hne:v.ownBlock≠some vb) (hM:M.length≤4001) (hb:base≤w.heap.size) :
  Calls Tryz.prog 95 #[v,.int .i64 i,.slice (some ⟨vb,0,none⟩) 1 1] w fun e w'=>∃ v',e=.returned v'∧Prt lo w' base v' (M.take i ++ m :: M.drop i)∧w.grownBy w' v.ownBlock∧∀ b,v'.ownBlock=some b→v.ownBlock=some b∨w.heap.size≤b:=by
 obtain ⟨us,hp,hrow⟩:=hv.px
 obtain ⟨ua,uc,rfl⟩:=own_one hu
 have hpn:=(hp.take i).append ((PX.single hu hml).append (hp.drop i))
 have hul:=hp.len
 have hlen:(M.take i ++ m :: M.drop i).length=M.length+1:=by simp;omega
 have h1:=hp.one
 by_cases hin : i = M.length
 ·subst hin
  obtain ⟨i0,hi0,hz0,hz1,hz2⟩:=info_parts Tryz.info_nodes
  have HF:Hid (∀ v' w',w'.ownsRow base 22 1 v' (M.length+1) (us ++ [.slice ua m.flat.length uc])→w.grownBy w' v.ownBlock→Prt lo w' base v' (M.take M.length ++ m :: M.drop M.length)):=fun v' w' h2 h3=>by
   refine prt_of (us:=us ++ [.slice ua m.flat.length uc]) ?_ (by rw [hlen];exact h2)
   have e:us.take M.length ++ ([.slice ua m.flat.length uc] ++ us.drop M.length)=us ++ [.slice ua m.flat.length uc]:=by rw [← hul];simp
   rw [← e]
   exact hpn.map fun u x hn=>own_apart2 hn h3 hrow (by decide)
  obtain ⟨va,vc,rfl⟩:=own_one hrow
  have HR:Hid (w.ownsRow base 22 1 (.slice va M.length vc) M.length us):=hrow
  have HVB:Hid (∀ j x,([.slice ua m.flat.length uc]:List Value)[j]?=some x→w.cell? ((⟨vb,0,none⟩:Addr).add j)=some x):=fun j x hj=>by
   cases j with
   | zero=>simp at hj;subst hj;rw [Addr.add_lit];simp [World.cell?,hvb]
   | succ j=>simp at hj
  obtain ⟨n,hn⟩:∃ n,M.length=n:=⟨_,rfl⟩
  rw [hn] at HF HR hM ⊢
  have hcp:n≤vc:=own_cap HR.out
  clear hp hrow hpn hul hlen h1 hu hvb hne hn hi
  go_enter Tryz.func95,Tryz.ntmps95
  rcases HR.out.2 with ⟨e,h0⟩ | ⟨g,cap,cur,e,hgb,hgg,hncap,_⟩
  ·simp only [Value.slice.injEq] at e
   obtain ⟨rfl,rfl,rfl⟩:=e
   go_wp2_with (at_builtin;refine wpList_append_lies _ rfl _ _ 56 rfl base 22 i0 (.slice none 0 0) 1 24 Tryz.underlying56 hi0 hz0 hz1 hz2 rfl (by decide) _ _ _ rfl HR.out ⟨vb,0,none⟩ 1 1 [.slice ua m.flat.length uc] rfl rfl HVB.out (by simp [Value.oneCell']) (by decide) (by unfold maxLen;omega) (by omega) hb _ rfl ?_;intro g9 c9 w9 ho9 hg9 hl9 _;have HL9:Hid _:=hl9;have HO9:Hid _:=ho9;have HG9:Hid _:=hg9;clear hl9 ho9 hg9)
   go_ret
   exact ⟨_,rfl,HF.out _ _ HO9.out HG9.out,HG9.out,fun b hb9=>by cases hb9;exact HL9.out.elim (fun h=>.inl h) (fun h=>.inr (by show _≤g9;omega))⟩
  ·simp only [Value.slice.injEq] at e
   obtain ⟨rfl,_,rfl⟩:=e
   clear hgg
   go_wp2_with (at_builtin;refine wpList_append_lies _ rfl _ _ 56 rfl base 22 i0 (.slice none 0 0) 1 24 Tryz.underlying56 hi0 hz0 hz1 hz2 rfl (by decide) _ _ _ rfl HR.out ⟨vb,0,none⟩ 1 1 [.slice ua m.flat.length uc] rfl rfl HVB.out (by simp [Value.oneCell']) (by decide) (by unfold maxLen;omega) (by omega) hb _ rfl ?_;intro g9 c9 w9 ho9 hg9 hl9 _;have HL9:Hid _:=hl9;have HO9:Hid _:=ho9;have HG9:Hid _:=hg9;clear hl9 ho9 hg9)
   all_goals go_ret
   all_goals exact ⟨_,rfl,HF.out _ _ HO9.out HG9.out,HG9.out,fun b hb9=>by cases hb9;exact HL9.out.elim (fun h=>.inl h) (fun h=>.inr (by show _≤g9;omega))⟩
 ·have hlt:i<M.length:=by omega
  rcases hrow.2 with ⟨_,h0⟩ | ⟨g,c,cur,rfl,hgb,hgg,hnc,hcm,hcs,htk⟩
  ·omega
  ·rw [Nat.mul_one] at htk hcs
   have hvg:vb≠g:=fun e=>hne (by rw [e];rfl)
   by_cases hroom : M.length + 1 ≤ c
   ·refine (insert_shift g M.length c i vb us (.slice ua m.flat.length uc) w cur hgg hcs htk hlt hroom hcm hvb hvg h1 rfl hM).mono ?_
    rintro e w' ⟨rfl,⟨cur2,k1,k2,k3⟩,hgr⟩
    refine ⟨_,rfl,prt_of (us:=us.take i ++ ([.slice ua m.flat.length uc] ++ us.drop i)) (hpn.map fun u x hn=>own_apart2 hn hgr hrow (by decide)) ?_,hgr,fun b hb=>.inl hb⟩
    rw [hlen]
    exact ⟨by simp [hul];omega,.inr ⟨g,c,cur2,rfl,hgb,k1,hroom,hcm,by omega,by rw [Nat.mul_one,k3];rfl⟩⟩
   ·refine (insert_grow g M.length c i vb us (.slice ua m.flat.length uc) w cur hgg htk hul hlt (by omega) hnc hvb h1 rfl hM).mono ?_
    rintro e w' ⟨G,rfl,⟨cur2,k1,k2,k3⟩,k4,k5,hgr⟩
    have hgr':w.grownBy w' (Value.ownBlock (.slice (some ⟨g,0,none⟩) M.length c)):=⟨hgr.os,hgr.tape,hgr.output,hgr.size,fun k hk _=>hgr.block k hk (by simp)⟩
    refine ⟨_,rfl,prt_of (us:=us.take i ++ ([.slice ua m.flat.length uc] ++ us.drop i)) (hpn.map fun u x hn=>own_apart2 hn hgr' hrow (by decide)) ?_,hgr',fun b hb=>.inr (by cases hb;exact Nat.le_refl _)⟩
    rw [hlen]
    exact ⟨by simp [hul];omega,.inr ⟨w.heap.size,G,cur2,rfl,hb,k1,k4,k5,by omega,by rw [Nat.mul_one,k3];rfl⟩⟩
end Go.Proofs.YtfdhaknecjcjoaaGreatDoor

namespace Go.Proofs.YtfdhaknecjcjoaaGreatDoor
open Go Go.RowKit Go.Lib
set_option linter.unusedVariables false

/-- What membersOf answers. -/
def MoQ (lo:Nat) (L:List Tr) (w:World) (e:Ending) (w':World):Prop:=∃ v',e=.returned v'∧Prt lo w' w.heap.size v' L∧Below w.heap.size w w'

set_option maxHeartbeats 4000000 in
set_option maxRecDepth 100000 in
theorem membersOf_any {k : Int} (hk : k = 5 ∨ k = 6) {lo : Nat} {w : World} {u vu : Value} {x : Tr} (ho : x.ok) (hn : NF x) (hl : x.flat.length ≤ 4000) (hu : NO lo w u x) (hvu : NReads w vu (unitK k).flat) (hP : PTab w) (hlo : lo ≤ w.heap.size) :
  Calls Tryz.prog 92 #[.int .i64 k,u,vu] w (MoQ lo (Mb k x) w):=by
 obtain ⟨ua,uc,rfl⟩:=own_one hu
 have hpos:=flat_pos x
 have HE:Hid (Calls Tryz.prog 30 #[.slice ua x.flat.length uc,vu] w fun e w'=>e=.returned (.bool (decide (x.flat=(unitK k).flat)))∧Below w.heap.size w w'):=sequal_any _ _ _ _ w hu.reads hvu (by omega)
 have HU:Hid (NO lo w (.slice ua x.flat.length uc) x):=hu
 have HLO:Hid (lo≤w.heap.size):=hlo
 have HL:Hid (x.flat.length≤4000):=hl
 by_cases cu : x = unitK k
 ·have hd:decide (x.flat=(unitK k).flat)=true:=by rw [cu];simp
  rw [hd] at HE
  rw [mb_nil.2 cu]
  clear cu hd hu hvu hP ho hn
  go_enter Tryz.func92,Tryz.ntmps92
  go_wp2_with fail
  refine HE.out.mono ?_
  rintro e w1 ⟨rfl,hb1⟩
  have HB:Hid _:=hb1
  clear hb1
  go_wp2_with fail
  go_ret
  exact ⟨_,rfl,prt_of (PX.nil _ _) (World.ownsRow_nil _ _ _ _),HB.out⟩
 ·have hd:decide (x.flat=(unitK k).flat)=false:=by
   simp only [decide_eq_false_iff_not]
   exact fun e=>cu (flat_inj ho (unit_ok k) e)
  rw [hd] at HE
  obtain ⟨a',c',e,hrd⟩:=id hu.reads
  cases e
  obtain ⟨g,o,rfl,hg,hk1,_⟩:=hrd (x.flat.length - 1) (by omega)
  rw [flat_last] at hk1
  have hI:IntKind.i64.wrap ((x.flat.length:Int) - 1)=((x.flat.length - 1:Nat):Int):=by rw [IntKind.wrap_i64];omega
  have HK:Hid (∀ w1,Below w.heap.size w w1→w1.cell? ⟨g,o+(x.flat.length - 1) * 2,none⟩=some (.int .i64 x.root.1)):=fun w1 hb=>by rw [below_cell hb hg];exact hk1
  by_cases cr : x.root.1 = k
  ·have HM:Hid (∀ w1,Below w.heap.size w w1→Calls Tryz.prog 119 #[.int .i64 k,.slice (some ⟨g,o,none⟩) x.flat.length uc] w1 (MQ 0 (Mb k x) w1)):=fun w1 hb=>by
    have hw:=ok_wrong ho hl
    have e:=nrm_nf ho hn
    rcases hk with rfl | rfl
    ·have:=members_good5 x ho _ _ w1 (hu.reads.stay hb) (hP.stay hb) hw
     rwa [e] at this
    ·have:=members_good6 x ho _ _ w1 (hu.reads.stay hb) (hP.stay hb) hw
     rwa [e] at this
   have HMB:Hid (∀ m ∈ Mb k x,m.flat.length≤4000):=fun m hm=>by
    have h1:=mb_len ho cu
    have h2:m.flat.length+1≤lens (Mb k x):=by
     have key:∀ (l:List Tr),m ∈ l→m.flat.length+1≤lens l:=by
      intro l
      induction l with
      | nil=>intro h;cases h
      | cons y l ih =>
       intro h
       rcases List.mem_cons.1 h with rfl | h
       ·simp [lens]
       ·have:=ih h;simp [lens] at this ⊢;omega
     exact key _ hm
    omega
   rw [cr] at HK
   obtain ⟨N,hN⟩:∃ N,x.flat.length=N:=⟨_,rfl⟩
   rw [hN] at hpos hl hI HK HM HE ⊢
   clear cu hd hu hvu hP ho hn hrd hk1 cr hN HU
   have hkk:(k != k)=false:=by simp
   go_enter Tryz.func92,Tryz.ntmps92
   go_wp2_with fail
   refine HE.out.mono ?_
   rintro e w1 ⟨rfl,hb1⟩
   have HB:Hid (Below w.heap.size w w1):=hb1
   have hc1:=HK.out w1 hb1
   clear hb1
   go_wp2_with fail
   refine (HM.out _ HB.out).mono ?_
   rintro e w2 ⟨v,vs,rfl,htd,hb2⟩
   have HB2:Hid (Below w.heap.size w w2):=go_on HB.out hb2
   have HT:Hid (Told3 w2 w1.heap.size v vs ((Mb k x).map Tr.flat)):=htd
   clear hb2 htd hc1
   go_wp2_with fail
   go_ret
   refine ⟨v,rfl,?_,HB2.out⟩
   have hls:=HT.out.list
   rw [List.length_map] at hls
   have hvl:vs.length=(Mb k x).length:=by have:=hls.1;omega
   refine prt_of ⟨hvl,fun i y hy=>?_⟩ (own_mono hls HB.out.size)
   have hi:i<(Mb k x).length:=(List.getElem?_eq_some_iff.1 hy).1
   have hr:=HT.out.rows i (by rw [List.length_map];exact hi)
   rw [show ((Mb k x).map Tr.flat).getD i []=y.flat by rw [List.getD_eq_getElem?_getD,List.getElem?_map,hy];rfl] at hr
   refine ⟨vs.getD i (.slice none 0 0),?_,own_mono hr (Nat.le_trans HLO.out HB.out.size),HMB.out y (List.mem_of_getElem? hy)⟩
   rw [List.getD_eq_getElem?_getD,List.getElem?_eq_getElem (by omega)]
   rfl
  ·have hkk:(x.root.1 != k)=true:=by simpa using cr
   have HSP:Hid (Mb k x=[x]):=by show _=_;unfold Mb;rw [if_neg cu,spine_other cr]
   obtain ⟨r,hr⟩:∃ r,x.root.1=r:=⟨_,rfl⟩
   rw [hr] at hkk HK
   obtain ⟨N,hN⟩:∃ N,x.flat.length=N:=⟨_,rfl⟩
   have HN:Hid (x.flat.length=N):=hN
   rw [hN] at hpos hl hI HK HE ⊢
   clear cu hd hu hvu hP ho hn hrd hk1 cr hN hr
   go_enter Tryz.func92,Tryz.ntmps92
   go_wp2_with fail
   refine HE.out.mono ?_
   rintro e w1 ⟨rfl,hb1⟩
   have HB:Hid (Below w.heap.size w w1):=hb1
   have hc1:=HK.out w1 hb1
   clear hb1
   go_wp2_with fail
   go_ret
   refine ⟨_,rfl,?_,HB.out.alloc HB.out.size _⟩
   rw [HSP.out]
   have hno:=(HU.out.below HB.out).below ((Below.refl w1.heap.size w1).alloc (Nat.le_refl _) (.cells #[.slice (some ⟨g,o,none⟩) N uc] 22))
   rw [HN.out] at hno
   exact prt_of (PX.single hno HL.out) ⟨rfl,.inr ⟨w1.heap.size,1,_,rfl,HB.out.size,heap_alloc_new w1 _,Nat.le_refl _,by decide,rfl,rfl⟩⟩
end Go.Proofs.YtfdhaknecjcjoaaGreatDoor
