/- Normal forms, as trees: the order of trees, rising lists, members, the rules, and what they keep. -/
import Derived.Test.YtfdhaknecjcjoaaGreatDoorPA
import Derived.Test.YtfdhaknecjcjoaaGreatDoorPTc
namespace Go.Proofs.YtfdhaknecjcjoaaGreatDoor
open Go Go.RowKit
set_option linter.unusedVariables false

theorem ci_anti (x y:Int):ci x y = - ci y x:=by unfold ci;split <;> split <;> (try split) <;> omega
theorem ci_zero {x y:Int}:ci x y=0↔x=y:=by unfold ci;split <;> (try split) <;> omega
theorem ci_trans {x y z:Int} (h1:ci x y≤0) (h2:ci y z≤0):ci x z≤0:=by
 unfold ci at *
 split at h1 <;> split at h2 <;> (try split at h1) <;> (try split at h2) <;> split <;> (try split) <;> omega
theorem lex_trans {f1 f2 f3 f1' f2' f3' g1 g2 g3 : Int} (a1 : f1 = - f1') (a2 : f2 = - f2') (a3 : f3 = - f3') (t1 : f1 ≤ 0 → f2 ≤ 0 → f3 ≤ 0) (t2 : f2 ≤ 0 → f3' ≤ 0 → f1' ≤ 0) (t3 : f3' ≤ 0 → f1 ≤ 0 → f2' ≤ 0)
  (tg:f1=0→f2=0→g1≤0→g2≤0→g3≤0) (h1:(if f1=0 then g1 else f1)≤0) (h2:(if f2=0 then g2 else f2)≤0):(if f3=0 then g3 else f3)≤0:=by
 have l1:f1≤0:=by split at h1 <;> omega
 have l2:f2≤0:=by split at h2 <;> omega
 have l3:=t1 l1 l2
 by_cases e3 : f3 = 0
 ·have k1:=t2 l2 (by omega)
  have k2:=t3 (by omega) l1
  have e1:f1=0:=by omega
  have e2:f2=0:=by omega
  rw [if_pos e3]
  rw [if_pos e1] at h1
  rw [if_pos e2] at h2
  exact tg e1 e2 h1 h2
 ·rw [if_neg e3];exact l3
theorem cn_anti (m n:Nd):cn m n = - cn n m:=by
 unfold cn
 rw [ci_anti m.1 n.1,ci_anti m.2 n.2]
 split <;> split <;> omega
theorem cn_zero {m n:Nd}:cn m n=0↔m=n:=by
 unfold cn
 constructor
 ·intro h
  split at h
  ·rename_i h1
   exact Prod.ext (ci_zero.1 h1) (ci_zero.1 h)
  ·omega
 ·rintro rfl
  rw [if_pos (ci_zero.2 rfl)]
  exact ci_zero.2 rfl
theorem cn_trans {m n o:Nd} (h1:cn m n≤0) (h2:cn n o≤0):cn m o≤0:=by
 unfold cn at *
 exact lex_trans (ci_anti _ _) (ci_anti _ _) (ci_anti _ _) (fun a b=>ci_trans a b) (fun a b=>ci_trans a b) (fun a b=>ci_trans a b) (fun _ _ a b=>ci_trans a b) h1 h2
theorem cl_anti:∀ a b:List Nd,cl a b = - cl b a
 | [],[]=>rfl
 | [],_ :: _=>rfl
 | _ :: _,[]=>rfl
 | m :: a,n :: b=>by
  unfold cl
  rw [cn_anti m n,cl_anti a b]
  split <;> split <;> omega
theorem cl_zero:∀ {a b:List Nd},a.length=b.length→(cl a b=0↔a=b)
 | [],[],_=>by simp [cl]
 | m :: a,n :: b,h=>by
  unfold cl
  have ih:=cl_zero (a:=a) (b:=b) (by simpa using h)
  constructor
  ·intro h0
   split at h0
   ·rename_i h1
    rw [cn_zero.1 h1,ih.1 h0]
   ·omega
  ·intro h0
   injection h0 with h1 h2
   rw [if_pos (cn_zero.2 h1)]
   exact ih.2 h2
theorem cl_trans:∀ {a b c:List Nd},a.length=b.length→b.length=c.length→cl a b≤0→cl b c≤0→cl a c≤0
 | [],[],[],_,_,_,_=>by simp [cl]
 | m :: a,n :: b,o :: c,h1,h2,g1,g2=>by
  unfold cl at *
  exact lex_trans (cn_anti _ _) (cn_anti _ _) (cn_anti _ _) (fun a b=>cn_trans a b) (fun a b=>cn_trans a b) (fun a b=>cn_trans a b) (fun _ _ x y=>cl_trans (by simpa using h1) (by simpa using h2) x y) g1 g2
theorem ct_anti (a b:List Nd):ct a b = - ct b a:=by
 unfold ct
 rw [ci_anti a.length b.length,cl_anti a b]
 split <;> split <;> omega
theorem ct_zero {a b:List Nd}:ct a b=0↔a=b:=by
 unfold ct
 constructor
 ·intro h
  split at h
  ·rename_i h1
   exact (cl_zero (by have:=ci_zero.1 h1;omega)).1 h
  ·omega
 ·rintro rfl
  rw [if_pos (ci_zero.2 rfl)]
  exact (cl_zero rfl).2 rfl
theorem ct_trans {a b c:List Nd} (h1:ct a b≤0) (h2:ct b c≤0):ct a c≤0:=by
 unfold ct at *
 refine lex_trans (ci_anti _ _) (ci_anti _ _) (ci_anti _ _) (fun a b=>ci_trans a b) (fun a b=>ci_trans a b) (fun a b=>ci_trans a b) (fun e1 e2 x y=>?_) h1 h2
 have e1:=ci_zero.1 e1
 have e2:=ci_zero.1 e2
 exact cl_trans (by omega) (by omega) x y
theorem cl_range:∀ a b:List Nd,cl a b = -1∨cl a b=0∨cl a b=1
 | [],[]=>by simp [cl]
 | [],_ :: _=>by simp [cl]
 | _ :: _,[]=>by simp [cl]
 | m :: a,n :: b=>by
  unfold cl
  split
  ·exact cl_range a b
  ·unfold cn ci
   repeat' split
   all_goals omega
theorem ct_range (a b:List Nd):ct a b = -1∨ct a b=0∨ct a b=1:=by
 unfold ct
 split
 ·exact cl_range a b
 ·unfold ci
  repeat' split
  all_goals omega
/-! ### The order of trees -/
def Lt (a b:Tr):Prop:=ct a.flat b.flat<0
instance (a b:Tr):Decidable (Lt a b):=inferInstanceAs (Decidable (_<_))
theorem flat_inj:∀ {a b:Tr},a.ok→b.ok→a.flat=b.flat→a=b
 | .zero n,.zero m,_,_,h=>by simp [Tr.flat] at h;rw [h]
 | .zero n,.one m b,ha,hb,h=>by
  have h1:=congrArg List.length h;have:=b.len_pos;simp only [Tr.flat,List.length_append,List.length_singleton] at h1;omega
 | .zero n,.two m b c,ha,hb,h=>by
  have h1:=congrArg List.length h;have:=b.len_pos;have:=c.len_pos;simp only [Tr.flat,List.length_append,List.length_singleton] at h1;omega
 | .one n a,.zero m,ha,hb,h=>by
  have h1:=congrArg List.length h;have:=a.len_pos;simp only [Tr.flat,List.length_append,List.length_singleton] at h1;omega
 | .two n a c,.zero m,ha,hb,h=>by
  have h1:=congrArg List.length h;have:=a.len_pos;have:=c.len_pos;simp only [Tr.flat,List.length_append,List.length_singleton] at h1;omega
 | .one n a,.one m b,ha,hb,h=>by
  simp only [Tr.flat] at h
  obtain ⟨h1,h2⟩:=List.append_inj' h rfl
  rw [flat_inj ha.2.2 hb.2.2 h1,List.singleton_inj.1 h2]
 | .one n a,.two m b c,ha,hb,h=>by
  simp only [Tr.flat] at h
  obtain ⟨h1,h2⟩:=List.append_inj' h rfl
  have e:=List.singleton_inj.1 h2
  have x:=ha.2.1
  have y:=hb.2.1
  rw [e,y] at x
  omega
 | .two n a c,.one m b,ha,hb,h=>by
  simp only [Tr.flat] at h
  obtain ⟨h1,h2⟩:=List.append_inj' h rfl
  have e:=List.singleton_inj.1 h2
  have x:=ha.2.1
  have y:=hb.2.1
  rw [e,y] at x
  omega
 | .two n a c,.two m b d,ha,hb,h=>by
  simp only [Tr.flat] at h
  obtain ⟨h1,h2⟩:=List.append_inj' h rfl
  have h3:=congrArg (fun l=>stk l []) h1
  simp only [stk_append] at h3
  rw [Tr.stk_flat a ha.2.2.1,Tr.stk_flat c ha.2.2.2,Tr.stk_flat b hb.2.2.1,Tr.stk_flat d hb.2.2.2] at h3
  simp at h3
  obtain ⟨h4,h5⟩:=List.append_inj' h1 h3.1
  rw [flat_inj ha.2.2.1 hb.2.2.1 h4,flat_inj ha.2.2.2 hb.2.2.2 h5,List.singleton_inj.1 h2]
theorem Lt.trans {a b c:Tr} (h:Lt a b) (k:Lt b c):Lt a c:=by
 unfold Lt at *
 have h1:=ct_trans (Int.le_of_lt h) (Int.le_of_lt k)
 rcases Int.lt_or_eq_of_le h1 with h2 | h2
 ·exact h2
 ·have e:=ct_zero.1 h2
  rw [e] at h
  have:=ct_anti b.flat c.flat
  omega
theorem Lt.irrefl (a:Tr):¬ Lt a a:=by
 unfold Lt
 have:=ct_anti a.flat a.flat
 omega
theorem Lt.asymm {a b:Tr} (h:Lt a b):¬ Lt b a:=fun k=>Lt.irrefl a (h.trans k)
theorem ct_eq {a b : Tr} (ha : a.ok) (hb : b.ok) : ct a.flat b.flat = 0 ↔ a = b :=
 ⟨fun h=>flat_inj ha hb (ct_zero.1 h),fun h=>ct_zero.2 (by rw [h])⟩
theorem ct_gt {a b:Tr} (h:0<ct a.flat b.flat):Lt b a:=by
 unfold Lt
 have:=ct_anti a.flat b.flat
 omega
/-! ### Rising lists -/
abbrev Ris (l:List Tr):Prop:=l.Pairwise Lt
abbrev Oks (l:List Tr):Prop:=∀ m ∈ l,m.ok
theorem ris_ext:∀ {a b:List Tr},Ris a→Ris b→(∀ m,m ∈ a↔m ∈ b)→a=b
 | [],[],_,_,_=>rfl
 | [],y :: b,_,_,h=>absurd ((h y).2 (by simp)) (by simp)
 | x :: a,[],_,_,h=>absurd ((h x).1 (by simp)) (by simp)
 | x :: a,y :: b,ha,hb,h=>by
  obtain ⟨ha1,ha2⟩:=List.pairwise_cons.1 ha
  obtain ⟨hb1,hb2⟩:=List.pairwise_cons.1 hb
  have exy:x=y:=by
   rcases List.mem_cons.1 ((h x).1 (by simp)) with e | e
   ·exact e
   ·rcases List.mem_cons.1 ((h y).2 (by simp)) with e' | e'
    ·exact e'.symm
    ·exact absurd (hb1 x e) (ha1 y e').asymm
  subst exy
  have:a=b:=ris_ext ha2 hb2 (fun m=>by
   have hm:=h m
   simp only [List.mem_cons] at hm
   constructor
   ·intro e
    rcases hm.1 (.inr e) with e' | e'
    ·subst e';exact absurd (ha1 m e) (Lt.irrefl m)
    ·exact e'
   ·intro e
    rcases hm.2 (.inr e) with e' | e'
    ·subst e';exact absurd (hb1 m e) (Lt.irrefl m)
    ·exact e')
  rw [this]
/-- Two lists as one: as the program goes. -/
def mrg : List Tr → List Tr → List Tr
 | [],b=>b
 | x :: a,[]=>x :: a
 | x :: a,y :: b=>if ct x.flat y.flat<0 then x :: mrg a (y :: b) else if ct x.flat y.flat=0 then x :: mrg a b else y :: mrg b (x :: a)
termination_by a b=>a.length+b.length
theorem mem_mrg:∀ (n:Nat) {a b:List Tr},a.length+b.length≤n→Oks a→Oks b→∀ m,m ∈ mrg a b↔m ∈ a∨m ∈ b
 | _,[],b,_,_,_,m=>by simp [mrg]
 | _,x :: a,[],_,_,_,m=>by simp [mrg]
 | 0,x :: a,y :: b,hn,_,_,m=>by simp at hn
 | n+1,x :: a,y :: b,hn,ha,hb,m=>by
  have ha':Oks a:=fun m h=>ha m (by simp [h])
  have hb':Oks b:=fun m h=>hb m (by simp [h])
  simp only [List.length_cons] at hn
  rw [mrg]
  split
  ·rw [List.mem_cons,mem_mrg n (by simp;omega) ha' hb]
   simp only [List.mem_cons]
   grind
  ·split
   ·next h0 =>
    have e:=(ct_eq (ha x (by simp)) (hb y (by simp))).1 h0
    rw [List.mem_cons,mem_mrg n (by omega) ha' hb']
    simp only [List.mem_cons]
    subst e
    grind
   ·rw [List.mem_cons,mem_mrg n (by simp;omega) hb' ha]
    simp only [List.mem_cons]
    grind
theorem ris_mrg:∀ (n:Nat) {a b:List Tr},a.length+b.length≤n→Oks a→Oks b→Ris a→Ris b→Ris (mrg a b)
 | _,[],b,_,_,_,_,h=>by simpa [mrg] using h
 | _,x :: a,[],_,_,_,h,_=>by simpa [mrg] using h
 | 0,x :: a,y :: b,hn,_,_,_,_=>by simp at hn
 | n+1,x :: a,y :: b,hn,ha,hb,ra,rb=>by
  have ha':Oks a:=fun m h=>ha m (by simp [h])
  have hb':Oks b:=fun m h=>hb m (by simp [h])
  obtain ⟨ra1,ra2⟩:=List.pairwise_cons.1 ra
  obtain ⟨rb1,rb2⟩:=List.pairwise_cons.1 rb
  simp only [List.length_cons] at hn
  rw [mrg]
  split
  ·next h0 =>
   refine List.pairwise_cons.2 ⟨fun m hm=>?_,ris_mrg n (by simp;omega) ha' hb ra2 rb⟩
   rcases (mem_mrg n (by simp;omega) ha' hb m).1 hm with h | h
   ·exact ra1 m h
   ·rcases List.mem_cons.1 h with rfl | h
    ·exact h0
    ·exact Lt.trans h0 (rb1 m h)
  ·split
   ·next h0 =>
    have e:=(ct_eq (ha x (by simp)) (hb y (by simp))).1 h0
    subst e
    refine List.pairwise_cons.2 ⟨fun m hm=>?_,ris_mrg n (by omega) ha' hb' ra2 rb2⟩
    rcases (mem_mrg n (by omega) ha' hb' m).1 hm with h | h
    ·exact ra1 m h
    ·exact rb1 m h
   ·next h0 h1 =>
    have hg:Lt y x:=ct_gt (by omega)
    refine List.pairwise_cons.2 ⟨fun m hm=>?_,ris_mrg n (by simp;omega) hb' ha rb2 ra⟩
    rcases (mem_mrg n (by simp;omega) hb' ha m).1 hm with h | h
    ·exact rb1 m h
    ·rcases List.mem_cons.1 h with rfl | h
     ·exact hg
     ·exact Lt.trans hg (ra1 m h)
/-- How many nodes they have. -/
def lens (l:List Tr):Nat:=(l.map fun t=>t.flat.length+1).sum
theorem lens_mrg:∀ (n:Nat) {a b:List Tr},a.length+b.length≤n→lens (mrg a b)≤lens a+lens b
 | _,[],b,_=>by simp [mrg,lens]
 | _,x :: a,[],_=>by simp [mrg,lens]
 | 0,x :: a,y :: b,hn=>by simp at hn
 | n+1,x :: a,y :: b,hn=>by
  simp only [List.length_cons] at hn
  rw [mrg]
  split
  ·have:=lens_mrg n (a:=a) (b:=y :: b) (by simp;omega)
   simp [lens] at *;omega
  ·split
   ·have:=lens_mrg n (a:=a) (b:=b) (by omega)
    simp [lens] at *;omega
   ·have:=lens_mrg n (a:=b) (b:=x :: a) (by simp;omega)
    simp [lens] at *;omega
theorem mrg_ne {a b:List Tr} (h:a≠[]):mrg a b≠[]:=by
 cases a with
 | nil=>exact absurd rfl h
 | cons x a =>
  cases b with
  | nil=>simp [mrg]
  | cons y b=>rw [mrg];split <;> (try split) <;> simp
/-! ### Members -/
def spine (k : Int) : Tr → List Tr
 | .zero n=>[.zero n]
 | .one n a=>[.one n a]
 | .two n a b=>if n.1=k then spine k a ++ [b] else [.two n a b]
def build (k : Int) : List Tr → Tr
 | []=>.zero (0,0)
 | x :: l=>l.foldl (fun acc m=>.two (k,0) acc m) x
theorem build_snoc {k:Int}:∀ {l:List Tr} (m:Tr),l≠[]→build k (l ++ [m])=.two (k,0) (build k l) m
 | [],m,h=>absurd rfl h
 | x :: l,m,h=>by simp [build,List.foldl_append]
theorem spine_ne (k:Int):∀ t,spine k t≠[]
 | .zero _=>by simp [spine]
 | .one _ _=>by simp [spine]
 | .two n a b=>by unfold spine;split <;> simp
theorem spine_other {k:Int}:∀ {t:Tr},t.root.1≠k→spine k t=[t]
 | .zero _,_=>rfl
 | .one _ _,_=>rfl
 | .two n a b,h=>by unfold spine;rw [if_neg (show ¬ n.1=k from h)]
theorem good_two {n:Nd} (h:good n=true) (h2:arity n.1=2):n=(n.1,0):=by
 obtain ⟨k,s⟩:=n
 simp only [good] at h
 simp only at h2
 split at h
 ·next h3=>rw [h3] at h2;simp [arity] at h2
 ·simp at h;rw [h.2.2]
theorem good_one {n:Nd} (h:good n=true) (h2:arity n.1=1):n=(n.1,0):=by
 obtain ⟨k,s⟩:=n
 simp only [good] at h
 simp only at h2
 split at h
 ·next h3=>rw [h3] at h2;simp [arity] at h2
 ·simp at h;rw [h.2.2]
theorem build_spine {k:Int}:∀ {t:Tr},t.ok→build k (spine k t)=t
 | .zero _,_=>rfl
 | .one _ _,_=>rfl
 | .two n a b,h=>by
  unfold spine
  split
  ·next e =>
   rw [build_snoc _ (spine_ne k a),build_spine h.2.2.1,good_two h.1 h.2.1,e]
  ·rfl
theorem spine_foldl {k:Int}:∀ (l:List Tr) (x:Tr),spine k (l.foldl (fun acc m=>.two (k,0) acc m) x)=spine k x ++ l
 | [],x=>by simp
 | y :: l,x=>by
  rw [List.foldl_cons,spine_foldl l]
  simp [spine]
theorem spine_build {k:Int} {l:List Tr} (h:l≠[]) (hk:∀ m ∈ l,m.root.1≠k):spine k (build k l)=l:=by
 cases l with
 | nil=>exact absurd rfl h
 | cons x l=>rw [build,spine_foldl,spine_other (hk x (by simp))];rfl
theorem len_build {k:Int}:∀ {l:List Tr},l≠[]→(build k l).flat.length+1=lens l:=by
 intro l h
 cases l with
 | nil=>exact absurd rfl h
 | cons x l =>
  have:∀ (l:List Tr) (x:Tr),(l.foldl (fun acc m=>.two (k,0) acc m) x).flat.length=x.flat.length+lens l:=by
   intro l
   induction l with
   | nil=>intro x;simp [lens]
   | cons y l ih =>
    intro x
    rw [List.foldl_cons,ih]
    simp [Tr.flat,lens]
    omega
  rw [build,this]
  simp [lens]
  omega
theorem build_ok {k:Int} (hk:k=5∨k=6) {l:List Tr} (h:l≠[]) (ho:Oks l):(build k l).ok:=by
 cases l with
 | nil=>exact absurd rfl h
 | cons x l =>
  have:∀ (l:List Tr) (x:Tr),x.ok→Oks l→(l.foldl (fun acc m=>.two (k,0) acc m) x).ok:=by
   intro l
   induction l with
   | nil=>intro x hx _;exact hx
   | cons y l ih =>
    intro x hx hl
    rw [List.foldl_cons]
    refine ih _ ⟨?_,?_,hx,hl y (by simp)⟩ (fun m hm=>hl m (by simp [hm]))
    ·rcases hk with rfl | rfl <;> rfl
    ·rcases hk with rfl | rfl <;> rfl
  exact this l x (ho x (by simp)) (fun m hm=>ho m (by simp [hm]))
theorem spine_ok {k:Int}:∀ {t:Tr},t.ok→Oks (spine k t)
 | .zero _,h=>by intro m hm;simp [spine] at hm;rw [hm];exact h
 | .one _ _,h=>by intro m hm;simp [spine] at hm;rw [hm];exact h
 | .two n a b,h=>by
  unfold spine
  split
  ·intro m hm
   rcases List.mem_append.1 hm with h1 | h1
   ·exact spine_ok h.2.2.1 m h1
   ·simp at h1;rw [h1];exact h.2.2.2
  ·intro m hm;simp at hm;rw [hm];exact h
/-! ### Normal forms and the rules -/
def tNone:Tr:=.zero (1,0)
def tEmpty:Tr:=.zero (2,0)
def tAny:Tr:=.zero (4,0)
def tAll:Tr:=.one (9,0) tNone
def unitK (k:Int):Tr:=if k=5 then tNone else tAll
def zeroK (k:Int):Tr:=if k=5 then tAll else tNone
deriving instance DecidableEq for Tr
theorem tAll_ok:tAll.ok:=⟨rfl,rfl,rfl,rfl⟩
theorem tNone_ok:tNone.ok:=⟨rfl,rfl⟩
theorem tEmpty_ok:tEmpty.ok:=⟨rfl,rfl⟩
theorem unit_ok (k:Int):(unitK k).ok:=by unfold unitK;split <;> first | exact tNone_ok | exact tAll_ok
theorem zero_ok (k:Int):(zeroK k).ok:=by unfold zeroK;split <;> first | exact tNone_ok | exact tAll_ok
theorem unit_zero (k:Int):unitK k≠zeroK k:=by unfold unitK zeroK;split <;> simp [tNone,tAll]
theorem unit_root {k:Int} (hk:k=5∨k=6):(unitK k).root.1≠k:=by rcases hk with rfl | rfl <;> simp [unitK,tNone,tAll,Tr.root]
theorem zero_root {k:Int} (hk:k=5∨k=6):(zeroK k).root.1≠k:=by rcases hk with rfl | rfl <;> simp [zeroK,tNone,tAll,Tr.root]
/-- What follows first. -/
def firstC : Tr → Tr
 | .two n a b=>if n.1=7 then a else .two n a b
 | t=>t
/-- The members of a Union or an Inter in normal form. -/
def Mem (k:Int) (l:List Tr):Prop:=Ris l∧∀ m ∈ l,m.root.1≠k∧m≠unitK k∧m≠zeroK k
def NF : Tr → Prop
 | .zero _=>True
 | .one n a=>NF a∧(n.1=8→a≠tNone∧a≠tEmpty∧a≠tAny∧a≠tAll∧a.root.1≠8)∧(n.1=9→a.root.1≠9)
 | .two n a b=>NF a∧NF b∧(n.1=7→a.root.1≠7∧(a≠tNone∧a≠tEmpty)∧(b≠tNone∧b≠tEmpty)∧¬ (a=tAll∧firstC b=tAll))∧(n.1≠7→Mem n.1 (spine n.1 a ++ [b]))
theorem tAll_nf:NF tAll:=⟨trivial,by simp [tAll],by simp [tNone,Tr.root]⟩
theorem unit_nf (k:Int):NF (unitK k):=by unfold unitK;split <;> first | exact tAll_nf | exact trivial
theorem zero_nf (k:Int):NF (zeroK k):=by unfold zeroK;split <;> first | exact tAll_nf | exact trivial
def Mb (k:Int) (x:Tr):List Tr:=if x=unitK k then [] else spine k x
theorem spine_nf {k:Int} (hk:k=5∨k=6):∀ {x:Tr},NF x→∀ m ∈ spine k x,NF m
 | .zero _,h,m,hm=>by simp [spine] at hm;rw [hm];exact h
 | .one _ _,h,m,hm=>by simp [spine] at hm;rw [hm];exact h
 | .two n a b,h,m,hm=>by
  unfold spine at hm
  split at hm
  ·rcases List.mem_append.1 hm with h1 | h1
   ·exact spine_nf hk h.1 m h1
   ·simp at h1;rw [h1];exact h.2.1
  ·simp at hm;rw [hm];exact h
theorem ok_root0 {k:Int} (hk:k=5∨k=6) {n:Nd} (h:(Tr.zero n).ok):n.1≠k:=by
 intro e
 have:=h.2
 rcases hk with rfl | rfl <;> rw [e] at this <;> simp [arity] at this
theorem ok_root1 {k:Int} (hk:k=5∨k=6) {n:Nd} {a:Tr} (h:(Tr.one n a).ok):n.1≠k:=by
 intro e
 have:=h.2.1
 rcases hk with rfl | rfl <;> rw [e] at this <;> simp [arity] at this
theorem spine_mem {k:Int} (hk:k=5∨k=6) {x:Tr} (ho:x.ok) (h:NF x):Ris (spine k x)∧∀ m ∈ spine k x,m.root.1≠k∧(m=unitK k→x=unitK k)∧(m=zeroK k→x=zeroK k):=by
 by_cases hr : x.root.1 = k
 ·match x,ho,h,hr with
  | .zero n,ho,h,hr=>exact absurd hr (ok_root0 hk ho)
  | .one n a,ho,h,hr=>exact absurd hr (ok_root1 hk ho)
  | .two n a b,ho,h,hr =>
   have hr:n.1=k:=hr
   have hM:=h.2.2.2 (by omega)
   rw [hr] at hM
   have e:spine k (.two n a b)=spine k a ++ [b]:=by rw [spine,if_pos hr]
   rw [e]
   exact ⟨hM.1,fun m hm=>⟨(hM.2 m hm).1,fun e=>absurd e (hM.2 m hm).2.1,fun e=>absurd e (hM.2 m hm).2.2⟩⟩
 ·rw [spine_other hr]
  refine ⟨by simp,fun m hm=>?_⟩
  simp at hm
  subst hm
  exact ⟨hr,id,id⟩
theorem mb_mem {k:Int} (hk:k=5∨k=6) {x:Tr} (ho:x.ok) (h:NF x):Ris (Mb k x)∧∀ m ∈ Mb k x,m.root.1≠k∧m≠unitK k∧(m=zeroK k→x=zeroK k)∧NF m∧m.ok:=by
 unfold Mb
 by_cases e : x = unitK k
 ·rw [if_pos e];simp
 ·rw [if_neg e]
  obtain ⟨h1,h2⟩:=spine_mem hk ho h
  exact ⟨h1,fun m hm=>⟨(h2 m hm).1,fun e'=>e ((h2 m hm).2.1 e'),(h2 m hm).2.2,spine_nf hk h m hm,spine_ok ho m hm⟩⟩
theorem mb_ext {k:Int} (hk:k=5∨k=6) {x y:Tr} (ho:x.ok) (h:NF x) (ho':y.ok) (h':NF y) (he:∀ m,m ∈ Mb k x↔m ∈ Mb k y):x=y:=by
 have e:=ris_ext (mb_mem hk ho h).1 (mb_mem hk ho' h').1 he
 unfold Mb at e
 by_cases e1 : x = unitK k
 ·by_cases e2 : y = unitK k
  ·rw [e1,e2]
  ·rw [if_pos e1,if_neg e2] at e;exact absurd e.symm (spine_ne k y)
 ·by_cases e2 : y = unitK k
  ·rw [if_neg e1,if_pos e2] at e;exact absurd e (spine_ne k x)
  ·rw [if_neg e1,if_neg e2] at e
   rw [← build_spine (k:=k) ho,e,build_spine ho']
/-- What is built of members is in normal form. -/
theorem build_nf {k:Int} (hk:k=5∨k=6):∀ (n:Nat) {l:List Tr},l.length≤n→l≠[]→(∀ m ∈ l,NF m)→(2≤l.length→Mem k l)→(∀ m ∈ l,m.root.1≠k)→NF (build k l)
 | 0,l,hn,h0,_,_,_=>absurd (List.eq_nil_of_length_eq_zero (by omega)) h0
 | n+1,l,hn,h0,hnf,hM,hr=>by
  rcases List.eq_nil_or_concat l with e | ⟨l',m,e⟩
  ·exact absurd e h0
  ·rw [List.concat_eq_append] at e
   subst e
   by_cases hl : l' = []
   ·subst hl
    exact hnf m (by simp)
   ·rw [build_snoc m hl]
    have hM':=hM (by have:=List.length_pos_iff.2 hl;simp;omega)
    have hr':∀ m ∈ l',m.root.1≠k:=fun m' h=>hr m' (by simp [h])
    refine ⟨build_nf hk n (by simp at hn;omega) hl (fun m' h=>hnf m' (by simp [h])) (fun _=>⟨(List.pairwise_append.1 hM'.1).1,fun m' h=>hM'.2 m' (by simp [h])⟩) hr',hnf m (by simp),fun e=>by simp only at e;omega,fun _=>?_⟩
    simp only
    rw [spine_build hl hr']
    exact hM'
/-- Greatest of a form's members. -/
def grt (k : Int) : Tr → Tr
 | .two n a b=>if n.1=k then b else .two n a b
 | t=>t
theorem spine_grt (k:Int) (x:Tr):∃ l,spine k x=l ++ [grt k x]:=by
 cases x with
 | zero n=>exact ⟨[],rfl⟩
 | one n a=>exact ⟨[],rfl⟩
 | two n a b =>
  by_cases h : n.1 = k
  ·exact ⟨spine k a,by simp [spine,grt,h]⟩
  ·exact ⟨[],by simp [spine,grt,h]⟩
/-- The rule of Union and Inter, as the program goes. -/
def R2 (k : Int) (x y : Tr) : Tr :=
 if x = zeroK k ∨ y = unitK k then x else if y = zeroK k ∨ x = unitK k then y
 else if y.root.1≠k∧Lt (grt k x) y then .two (k,0) x y else build k (mrg (spine k x) (spine k y))
theorem R2_fast {k:Int} (hk:k=5∨k=6) {x y:Tr} (hox:x.ok) (hx:NF x) (hoy:y.ok) (hr:y.root.1≠k) (hg:Lt (grt k x) y):.two (k,0) x y=build k (mrg (spine k x) (spine k y)):=by
 have h1:=spine_mem hk hox hx
 have ey:=spine_other hr
 obtain ⟨l,hl⟩:=spine_grt k x
 have hris:Ris (spine k x ++ [y]):=by
  refine List.pairwise_append.2 ⟨h1.1,by simp,fun a ha b hb=>?_⟩
  simp at hb
  subst hb
  rw [hl] at ha
  rcases List.mem_append.1 ha with h | h
  ·have:=h1.1
   rw [hl] at this
   exact Lt.trans ((List.pairwise_append.1 this).2.2 a h _ (by simp)) hg
  ·simp at h;rw [h];exact hg
 have hoy':Oks [y]:=fun m hm=>by simp at hm;rw [hm];exact hoy
 have:mrg (spine k x) (spine k y)=spine k x ++ [y]:=by
  rw [ey]
  refine ris_ext (ris_mrg _ (Nat.le_refl _) (spine_ok hox) hoy' h1.1 (by simp)) hris (fun m=>?_)
  rw [mem_mrg _ (Nat.le_refl _) (spine_ok hox) hoy',List.mem_append]
 rw [this,build_snoc y (spine_ne k x),build_spine hox]
theorem R2_eq {k:Int} (hk:k=5∨k=6) {x y:Tr} (hox:x.ok) (hx:NF x) (hoy:y.ok):R2 k x y=if x=zeroK k∨y=unitK k then x else if y=zeroK k∨x=unitK k then y else build k (mrg (spine k x) (spine k y)):=by
 unfold R2
 split
 ·rfl
 ·split
  ·rfl
  ·split
   ·next h=>exact R2_fast hk hox hx hoy h.1 h.2
   ·rfl
theorem R2_zero {k:Int} {x y:Tr} (h:x=zeroK k∨y=zeroK k):R2 k x y=zeroK k:=by
 unfold R2
 by_cases hx : x = zeroK k
 ·rw [if_pos (.inl hx)];exact hx
 ·have hy:y=zeroK k:=by rcases h with h | h;exact absurd h hx;exact h
  rw [if_neg (fun h=>by rcases h with h | h;exact hx h;exact unit_zero k (h.symm.trans hy)),if_pos (.inl hy)]
  exact hy
theorem R2_spec {k : Int} (hk : k = 5 ∨ k = 6) {x y : Tr} (hox : x.ok) (hx : NF x) (hoy : y.ok) (hy : NF y) (zx : x ≠ zeroK k) (zy : y ≠ zeroK k) :
  (R2 k x y).ok∧NF (R2 k x y)∧R2 k x y≠zeroK k∧∀ m,m ∈ Mb k (R2 k x y)↔m ∈ Mb k x∨m ∈ Mb k y:=by
 rw [R2_eq hk hox hx hoy]
 by_cases uy : y = unitK k
 ·rw [if_pos (.inr uy)]
  refine ⟨hox,hx,zx,fun m=>?_⟩
  rw [show Mb k y=[] by unfold Mb;rw [if_pos uy]]
  simp
 rw [if_neg (by simp [zx,uy])]
 by_cases ux : x = unitK k
 ·rw [if_pos (.inr ux)]
  refine ⟨hoy,hy,zy,fun m=>?_⟩
  rw [show Mb k x=[] by unfold Mb;rw [if_pos ux]]
  simp
 rw [if_neg (by simp [zy,ux])]
 have hX:=spine_mem hk hox hx
 have hY:=spine_mem hk hoy hy
 have ho1:=spine_ok (k:=k) hox
 have ho2:=spine_ok (k:=k) hoy
 have hmm:=mem_mrg _ (Nat.le_refl _) ho1 ho2
 have hne:=mrg_ne (b:=spine k y) (spine_ne k x)
 have hall:∀ m ∈ mrg (spine k x) (spine k y),m.root.1≠k∧m≠unitK k∧m≠zeroK k∧NF m∧m.ok:=fun m hm=>by
  rcases (hmm m).1 hm with h | h
  ·exact ⟨(hX.2 m h).1,fun e=>ux ((hX.2 m h).2.1 e),fun e=>zx ((hX.2 m h).2.2 e),spine_nf hk hx m h,ho1 m h⟩
  ·exact ⟨(hY.2 m h).1,fun e=>uy ((hY.2 m h).2.1 e),fun e=>zy ((hY.2 m h).2.2 e),spine_nf hk hy m h,ho2 m h⟩
 have hris:=ris_mrg _ (Nat.le_refl _) ho1 ho2 hX.1 hY.1
 have hsp:=spine_build hne (fun m hm=>(hall m hm).1)
 have hnu:∀ t:Tr,t.root.1≠k→(∀ m ∈ mrg (spine k x) (spine k y),m≠t)→build k (mrg (spine k x) (spine k y))≠t:=fun t ht hm e=>by
  rw [e,spine_other ht] at hsp
  exact hm t (by rw [← hsp];simp) rfl
 have hu:=hnu _ (unit_root hk) (fun m hm=>(hall m hm).2.1)
 refine ⟨build_ok hk hne (fun m hm=>(hall m hm).2.2.2.2),build_nf hk _ (Nat.le_refl _) hne (fun m hm=>(hall m hm).2.2.2.1) (fun _=>⟨hris,fun m hm=>⟨(hall m hm).1,(hall m hm).2.1,(hall m hm).2.2.1⟩⟩) (fun m hm=>(hall m hm).1),hnu _ (zero_root hk) (fun m hm=>(hall m hm).2.2.1),fun m=>?_⟩
 unfold Mb
 rw [if_neg hu,if_neg ux,if_neg uy,hsp,hmm]
theorem R2_ok {k:Int} (hk:k=5∨k=6) {x y:Tr} (hox:x.ok) (hx:NF x) (hoy:y.ok) (hy:NF y):(R2 k x y).ok∧NF (R2 k x y):=by
 by_cases hz : x = zeroK k ∨ y = zeroK k
 ·rw [R2_zero hz];exact ⟨zero_ok k,zero_nf k⟩
 ·have:=R2_spec hk hox hx hoy hy (fun h=>hz (.inl h)) (fun h=>hz (.inr h))
  exact ⟨this.1,this.2.1⟩
theorem R2_comm {k:Int} (hk:k=5∨k=6) {x y:Tr} (hox:x.ok) (hx:NF x) (hoy:y.ok) (hy:NF y):R2 k x y=R2 k y x:=by
 by_cases hz : x = zeroK k ∨ y = zeroK k
 ·rw [R2_zero hz,R2_zero hz.symm]
 ·have zx:x≠zeroK k:=fun h=>hz (.inl h)
  have zy:y≠zeroK k:=fun h=>hz (.inr h)
  have h1:=R2_spec hk hox hx hoy hy zx zy
  have h2:=R2_spec hk hoy hy hox hx zy zx
  exact mb_ext hk h1.1 h1.2.1 h2.1 h2.2.1 (fun m=>by rw [h1.2.2.2,h2.2.2.2];exact Or.comm)
theorem R2_len {k:Int} (hk:k=5∨k=6) {x y:Tr} (hox:x.ok) (hx:NF x) (hoy:y.ok):(R2 k x y).flat.length≤x.flat.length+y.flat.length+1:=by
 rw [R2_eq hk hox hx hoy]
 split
 ·omega
 ·split
  ·omega
  ·have h1:=len_build (k:=k) (mrg_ne (b:=spine k y) (spine_ne k x))
   have h2:=lens_mrg _ (Nat.le_refl _) (a:=spine k x) (b:=spine k y)
   have h3:=len_build (k:=k) (spine_ne k x)
   have h4:=len_build (k:=k) (spine_ne k y)
   rw [build_spine hox] at h3
   rw [build_spine hoy] at h4
   omega
/-! ### Concat, Star, Not -/
def conc : Tr → List Tr
 | .zero n=>[.zero n]
 | .one n a=>[.one n a]
 | .two n a b=>if n.1=7 then a :: conc b else [.two n a b]
def cj (p r:Tr):Tr:=if p=tAll∧firstC r=tAll then r else .two (7,0) p r
def RC (x y:Tr):Tr:=if x=tNone∨y=tEmpty then x else if y=tNone∨x=tEmpty then y else (conc x).foldr cj y
def RS (x:Tr):Tr:=if x=tNone∨x=tEmpty then tEmpty else if x=tAny then tAll else if x.root.1=8∨x=tAll then x else .one (8,0) x
def RN : Tr → Tr
 | .one n a=>if n.1=9 then a else .one (9,0) (.one n a)
 | t=>.one (9,0) t
/-- Parts of a concatenation. -/
def Pt (p:Tr):Prop:=p.ok∧NF p∧p.root.1≠7∧p≠tNone∧p≠tEmpty
theorem conc_other:∀ {t:Tr},t.root.1≠7→conc t=[t]
 | .zero _,_=>rfl
 | .one _ _,_=>rfl
 | .two n a b,h=>by unfold conc;rw [if_neg (show ¬ n.1=7 from h)]
theorem conc_ne:∀ t:Tr,conc t≠[]
 | .zero _=>by simp [conc]
 | .one _ _=>by simp [conc]
 | .two n a b=>by unfold conc;split <;> simp
theorem conc_pt:∀ {x:Tr},x.ok→NF x→x≠tNone→x≠tEmpty→∀ p ∈ conc x,Pt p
 | .zero n,ho,h,h1,h2,p,hp=>by
  simp [conc] at hp
  subst hp
  refine ⟨ho,h,fun e=>?_,h1,h2⟩
  have:=ho.2
  have e:n.1=7:=e
  rw [e] at this
  simp [arity] at this
 | .one n a,ho,h,h1,h2,p,hp=>by
  simp [conc] at hp
  subst hp
  refine ⟨ho,h,fun e=>?_,h1,h2⟩
  have:=ho.2.1
  have e:n.1=7:=e
  rw [e] at this
  simp [arity] at this
 | .two n a b,ho,h,h1,h2,p,hp=>by
  unfold conc at hp
  split at hp
  ·next e =>
   have h3:=h.2.2.1 e
   rcases List.mem_cons.1 hp with rfl | hp
   ·exact ⟨ho.2.2.1,h.1,h3.1,h3.2.1⟩
   ·exact conc_pt ho.2.2.2 h.2.1 h3.2.2.1.1 h3.2.2.1.2 p hp
  ·next e =>
   simp at hp
   subst hp
   exact ⟨ho,h,e,h1,h2⟩
def Fm (r:Tr):Prop:=r.ok∧NF r∧r≠tNone∧r≠tEmpty
theorem cj_fm {p r:Tr} (hp:Pt p) (hr:Fm r):Fm (cj p r):=by
 unfold cj
 split
 ·exact hr
 ·next h=>exact ⟨⟨rfl,rfl,hp.1,hr.1⟩,⟨hp.2.1,hr.2.1,fun _=>⟨hp.2.2.1,hp.2.2.2,hr.2.2,h⟩,fun e=>absurd rfl e⟩,by simp [tNone],by simp [tEmpty]⟩
theorem foldr_fm {r:Tr} (hr:Fm r):∀ {l:List Tr},(∀ p ∈ l,Pt p)→Fm (l.foldr cj r)
 | [],_=>hr
 | p :: l,h=>cj_fm (h p (by simp)) (foldr_fm hr (fun q hq=>h q (by simp [hq])))
theorem RC_ok {x y:Tr} (hox:x.ok) (hx:NF x) (hoy:y.ok) (hy:NF y):(RC x y).ok∧NF (RC x y):=by
 unfold RC
 split
 ·exact ⟨hox,hx⟩
 ·split
  ·exact ⟨hoy,hy⟩
  ·next h1 h2 =>
   have:=foldr_fm (r:=y) ⟨hoy,hy,fun e=>h2 (.inl e),fun e=>h1 (.inr e)⟩ (conc_pt hox hx (fun e=>h1 (.inl e)) (fun e=>h2 (.inr e)))
   exact ⟨this.1,this.2.1⟩
theorem first_all (r:Tr):firstC (cj tAll r)=tAll:=by
 unfold cj
 split
 ·next h=>exact h.2
 ·simp [firstC]
theorem first_fold {r z:Tr} (h:firstC r=tAll):firstC ((conc r).foldr cj z)=tAll:=by
 match r,h with
 | .zero n,h=>simp [firstC,tAll] at h
 | .one n a,h =>
  have h:Tr.one n a=tAll:=h
  rw [h]
  exact first_all _
 | .two n a b,h =>
  by_cases e : n.1 = 7
  ·have h:a=tAll:=by simpa [firstC,e] using h
   rw [conc,if_pos e,h]
   exact first_all _
  ·simp [firstC,e,tAll] at h
theorem fold_cj {p r z:Tr} (hp:p.root.1≠7):(conc (cj p r)).foldr cj z=cj p ((conc r).foldr cj z):=by
 by_cases h:p=tAll∧firstC r=tAll
 ·rw [show cj p r=r by unfold cj;rw [if_pos h]]
  rw [show cj p ((conc r).foldr cj z)=(conc r).foldr cj z by rw [cj,if_pos ⟨h.1,first_fold h.2⟩]]
 ·rw [show cj p r=.two (7,0) p r by unfold cj;rw [if_neg h]]
  simp [conc]
theorem fold_fold {r z:Tr}:∀ {l:List Tr},(∀ p ∈ l,Pt p)→(conc (l.foldr cj r)).foldr cj z=l.foldr cj ((conc r).foldr cj z)
 | [],_=>rfl
 | p :: l,h=>by
  rw [List.foldr_cons,fold_cj (h p (by simp)).2.2.1,fold_fold (fun q hq=>h q (by simp [hq]))]
  rfl
theorem RC_none_l (y:Tr):RC tNone y=tNone:=by unfold RC;rw [if_pos (.inl rfl)]
theorem RC_none_r (x:Tr):RC x tNone=tNone:=by
 unfold RC
 by_cases h : x = tNone
 ·rw [if_pos (.inl h)];exact h
 ·rw [if_neg (fun e=>by rcases e with e | e;exact h e;simp [tNone,tEmpty] at e),if_pos (.inl rfl)]
theorem RC_empty_r (x:Tr):RC x tEmpty=x:=by unfold RC;rw [if_pos (.inr rfl)]
theorem RC_empty_l (y:Tr):RC tEmpty y=y:=by
 unfold RC
 by_cases h : y = tEmpty
 ·rw [if_pos (.inr h)];exact h.symm
 ·rw [if_neg (fun e=>by rcases e with e | e;simp [tNone,tEmpty] at e;exact h e),if_pos (.inr rfl)]
theorem RC_main {x y:Tr} (h1:x≠tNone) (h2:x≠tEmpty) (h3:y≠tNone) (h4:y≠tEmpty):RC x y=(conc x).foldr cj y:=by
 unfold RC
 rw [if_neg (by simp [h1,h4]),if_neg (by simp [h2,h3])]
theorem RC_assoc {x y z:Tr} (hox:x.ok) (hx:NF x) (hoy:y.ok) (hy:NF y) (hoz:z.ok) (hz:NF z):RC (RC x y) z=RC x (RC y z):=by
 by_cases nx : x = tNone
 ·subst nx;simp only [RC_none_l]
 by_cases ex : x = tEmpty
 ·subst ex;simp only [RC_empty_l]
 by_cases ny : y = tNone
 ·subst ny;simp only [RC_none_l,RC_none_r]
 by_cases ey : y = tEmpty
 ·subst ey;simp only [RC_empty_l,RC_empty_r]
 by_cases nz : z = tNone
 ·subst nz;simp only [RC_none_r]
 by_cases ez : z = tEmpty
 ·subst ez;simp only [RC_empty_r]
 have p1:=conc_pt hox hx nx ex
 have p2:=conc_pt hoy hy ny ey
 have f1:=foldr_fm (r:=y) ⟨hoy,hy,ny,ey⟩ p1
 have f2:=foldr_fm (r:=z) ⟨hoz,hz,nz,ez⟩ p2
 rw [RC_main (x:=x) (y:=y) nx ex ny ey,RC_main (x:=y) (y:=z) ny ey nz ez,RC_main f1.2.2.1 f1.2.2.2 nz ez,RC_main nx ex f2.2.2.1 f2.2.2.2]
 exact fold_fold p1
theorem cj_len (p r:Tr):(cj p r).flat.length≤p.flat.length+r.flat.length+1:=by
 unfold cj
 split
 ·omega
 ·simp only [Tr.flat,List.length_append,List.length_singleton];omega
theorem fold_len (r:Tr):∀ (l:List Tr),(l.foldr cj r).flat.length≤lens l+r.flat.length
 | []=>by simp
 | p :: l=>by
  have h1:=cj_len p (l.foldr cj r)
  have h2:=fold_len r l
  simp only [List.foldr_cons,lens,List.map_cons,List.sum_cons] at *
  omega
theorem lens_conc:∀ x:Tr,lens (conc x)=x.flat.length+1
 | .zero n=>by simp [conc,lens]
 | .one n a=>by simp [conc,lens]
 | .two n a b=>by
  unfold conc
  split
  ·have:=lens_conc b
   simp [lens,Tr.flat] at *
   omega
  ·simp [lens]
theorem RC_len (x y:Tr):(RC x y).flat.length≤x.flat.length+y.flat.length+1:=by
 unfold RC
 split
 ·omega
 ·split
  ·omega
  ·have:=fold_len y (conc x)
   rw [lens_conc] at this
   omega
theorem RS_ok {x:Tr} (hox:x.ok) (hx:NF x):(RS x).ok∧NF (RS x):=by
 unfold RS
 split
 ·exact ⟨tEmpty_ok,trivial⟩
 ·split
  ·exact ⟨tAll_ok,tAll_nf⟩
  ·split
   ·exact ⟨hox,hx⟩
   ·next h1 h2 h3 =>
    exact ⟨⟨rfl,rfl,hox⟩,hx,fun _=>⟨fun e=>h1 (.inl e),fun e=>h1 (.inr e),h2,fun e=>h3 (.inr e),fun e=>h3 (.inl e)⟩,fun e=>by simp at e⟩
theorem RS_len (x:Tr):(RS x).flat.length≤x.flat.length+1:=by
 have:=x.len_pos
 unfold RS
 split
 ·simp [tEmpty,Tr.flat]
 ·split
  ·simp [tAll,tNone,Tr.flat];omega
  ·split
   ·omega
   ·simp [Tr.flat]
theorem RN_ok {x:Tr} (hox:x.ok) (hx:NF x):(RN x).ok∧NF (RN x):=by
 cases x with
 | zero n=>exact ⟨⟨rfl,rfl,hox⟩,hx,fun e=>by simp at e,fun _ e=>by
   have h:=hox.2
   have e:n.1=9:=e
   rw [e] at h
   simp [arity] at h⟩
 | two n a b=>exact ⟨⟨rfl,rfl,hox⟩,hx,fun e=>by simp at e,fun _ e=>by
   have h:=hox.2.1
   have e:n.1=9:=e
   rw [e] at h
   simp [arity] at h⟩
 | one n a =>
  by_cases h : n.1 = 9
  ·rw [RN,if_pos h];exact ⟨hox.2.2,hx.1⟩
  ·rw [RN,if_neg h];exact ⟨⟨rfl,rfl,hox⟩,hx,fun e=>by simp at e,fun _=>h⟩
theorem RN_len (x:Tr):(RN x).flat.length≤x.flat.length+1:=by
 cases x with
 | zero n=>simp [RN,Tr.flat]
 | two n a b=>simp only [RN,Tr.flat,List.length_append,List.length_singleton];omega
 | one n a =>
  by_cases h : n.1 = 9
  ·rw [RN,if_pos h];simp only [Tr.flat,List.length_append,List.length_singleton];omega
  ·rw [RN,if_neg h];simp only [Tr.flat,List.length_append,List.length_singleton];omega
/-! ### The normal form -/
def nrm : Tr → Tr
 | .zero n=>.zero n
 | .one n a=>if n.1=8 then RS (nrm a) else RN (nrm a)
 | .two n a b=>if n.1=7 then RC (nrm a) (nrm b) else R2 n.1 (nrm a) (nrm b)
theorem ar2 {k:Int} (h:arity k=2):k=5∨k=6∨k=7:=by
 unfold arity at h;split at h;· assumption
 ·split at h <;> omega
theorem ar1 {k:Int} (h:arity k=1):k=8∨k=9:=by
 unfold arity at h;split at h;· omega
 ·split at h;· assumption
  ·omega
theorem nrm_ok:∀ {t:Tr},t.ok→(nrm t).ok∧NF (nrm t)
 | .zero n,h=>⟨h,trivial⟩
 | .one n a,h=>by
  have ih:=nrm_ok h.2.2
  unfold nrm
  split
  ·exact RS_ok ih.1 ih.2
  ·exact RN_ok ih.1 ih.2
 | .two n a b,h=>by
  have i1:=nrm_ok h.2.2.1
  have i2:=nrm_ok h.2.2.2
  unfold nrm
  split
  ·exact RC_ok i1.1 i1.2 i2.1 i2.2
  ·exact R2_ok (by have:=ar2 h.2.1;omega) i1.1 i1.2 i2.1 i2.2
theorem nrm_len:∀ {t:Tr},t.ok→(nrm t).flat.length≤t.flat.length
 | .zero n,h=>Nat.le_refl _
 | .one n a,h=>by
  have ih:=nrm_len h.2.2
  have h1:=RS_len (nrm a)
  have h2:=RN_len (nrm a)
  unfold nrm
  split <;> simp only [Tr.flat,List.length_append,List.length_singleton] <;> omega
 | .two n a b,h=>by
  have i1:=nrm_len h.2.2.1
  have i2:=nrm_len h.2.2.2
  have j1:=nrm_ok h.2.2.1
  have j2:=nrm_ok h.2.2.2
  have h1:=RC_len (nrm a) (nrm b)
  unfold nrm
  split
  ·simp only [Tr.flat,List.length_append,List.length_singleton];omega
  ·have h2:=R2_len (k:=n.1) (by have:=ar2 h.2.1;omega) j1.1 j1.2 j2.1
   simp only [Tr.flat,List.length_append,List.length_singleton];omega
/-- A normal form is its own. -/
theorem nrm_nf:∀ {x:Tr},x.ok→NF x→nrm x=x
 | .zero n,_,_=>rfl
 | .one n a,ho,h=>by
  have ih:=nrm_nf ho.2.2 h.1
  have en:=good_one ho.1 ho.2.1
  unfold nrm
  rw [ih]
  split
  ·next e =>
   have h1:=h.2.1 e
   unfold RS
   rw [if_neg (by simp [h1.1,h1.2.1]),if_neg h1.2.2.1,if_neg (by simp [h1.2.2.2.1,h1.2.2.2.2]),en,e]
  ·next e =>
   have e9:n.1=9:=by have:=ar1 ho.2.1;omega
   have h1:=h.2.2 e9
   rw [en,e9]
   cases a with
   | zero m=>rfl
   | two m b c=>rfl
   | one m b =>
    have h1:m.1≠9:=h1
    rw [RN,if_neg h1]
 | .two n a b,ho,h=>by
  have i1:=nrm_nf ho.2.2.1 h.1
  have i2:=nrm_nf ho.2.2.2 h.2.1
  have en:=good_two ho.1 ho.2.1
  unfold nrm
  rw [i1,i2]
  split
  ·next e =>
   have h1:=h.2.2.1 e
   rw [RC_main h1.2.1.1 h1.2.1.2 h1.2.2.1.1 h1.2.2.1.2,conc_other h1.1,en,e]
   show cj a b = _
   rw [cj,if_neg h1.2.2.2]
  ·next e =>
   have hk:n.1=5∨n.1=6:=by have:=ar2 ho.2.1;omega
   have hM:=h.2.2.2 e
   generalize n.1 = k at *
   subst en
   have hb:=hM.2 b (by simp)
   have ha:a≠unitK k∧a≠zeroK k:=by
    by_cases hr : a.root.1 = k
    ·exact ⟨fun e=>unit_root hk (e ▸ hr),fun e=>zero_root hk (e ▸ hr)⟩
    ·have:=hM.2 a (by rw [spine_other hr];simp)
     exact this.2
   obtain ⟨l,hl⟩:=spine_grt k a
   have hg:Lt (grt k a) b:=(List.pairwise_append.1 hM.1).2.2 _ (by rw [hl];simp) b (by simp)
   unfold R2
   rw [if_neg (by simp [ha.2,hb.2.1]),if_neg (by simp [ha.1,hb.2.2]),if_pos ⟨hb.1,hg⟩]
end Go.Proofs.YtfdhaknecjcjoaaGreatDoor
