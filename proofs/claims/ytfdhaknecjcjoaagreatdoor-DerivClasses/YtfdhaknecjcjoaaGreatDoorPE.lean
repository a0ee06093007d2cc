/- Ix Ea Ei, in one text. -/
import Derived.Test.YtfdhaknecjcjoaaGreatDoorPXa
import Derived.Test.YtfdhaknecjcjoaaGreatDoorPZ
import Derived.Test.YtfdhaknecjcjoaaGreatDoorPZa
namespace Go.Proofs.YtfdhaknecjcjoaaGreatDoor
open Go Go.RowKit
set_option linter.unusedVariables false

/-- One more into a rising row, once. -/
def ins (t : Tr) : List Tr → List Tr
 | []=>[t]
 | x :: l=>if ct x.flat t.flat<0 then x :: ins t l else if ct x.flat t.flat=0 then x :: l else t :: x :: l
theorem ins_at {t:Tr}:∀ {l:List Tr} (k:Nat),k≤l.length→(∀ j,j<k→ct (l.getD j tNone).flat t.flat<0)→(k<l.length→¬ ct (l.getD k tNone).flat t.flat<0) →
  ins t l=if k<l.length∧ct (l.getD k tNone).flat t.flat=0 then l else l.take k ++ t :: l.drop k
 | [],k,hk,h1,h2=>by simp [ins]
 | x :: l,0,hk,h1,h2=>by
  have h2:¬ ct x.flat t.flat<0:=h2 (by simp)
  rw [ins,if_neg h2]
  show (if ct x.flat t.flat=0 then x :: l else t :: x :: l)=if 0<(x :: l).length∧ct x.flat t.flat=0 then x :: l else t :: x :: l
  by_cases e : ct x.flat t.flat = 0
  ·rw [if_pos e,if_pos ⟨by simp,e⟩]
  ·rw [if_neg e,if_neg (fun h=>e h.2)]
 | x :: l,k+1,hk,h1,h2=>by
  have h0:ct x.flat t.flat<0:=h1 0 (by omega)
  have ih:=ins_at (t:=t) (l:=l) k (by simpa using hk) (fun j hj=>h1 (j+1) (by omega)) (fun h=>h2 (by simpa using h))
  rw [ins,if_pos h0,ih]
  have e:((x :: l).getD (k+1) tNone)=l.getD k tNone:=rfl
  rw [e]
  by_cases c:k<l.length∧ct (l.getD k tNone).flat t.flat=0
  ·rw [if_pos c,if_pos ⟨by simpa using c.1,c.2⟩]
  ·rw [if_neg c,if_neg (fun h=>c ⟨by simpa using h.1,h.2⟩)]
   rfl
theorem mem_ins {t:Tr} (ht:t.ok):∀ {l:List Tr},Oks l→∀ m,m ∈ ins t l↔m ∈ l∨m=t
 | [],_,m=>by simp [ins]
 | x :: l,hl,m=>by
  have ih:=mem_ins ht (l:=l) (fun m h=>hl m (by simp [h])) m
  rw [ins]
  split
  ·rw [List.mem_cons,ih,List.mem_cons];grind
  ·split
   ·next e =>
    have e:=(ct_eq (hl x (by simp)) ht).1 e
    rw [List.mem_cons];grind
   ·rw [List.mem_cons];grind
theorem ris_ins {t:Tr} (ht:t.ok):∀ {l:List Tr},Oks l→Ris l→Ris (ins t l)
 | [],_,_=>by simp [ins]
 | x :: l,hl,hr=>by
  have hl':Oks l:=fun m h=>hl m (by simp [h])
  obtain ⟨r1,r2⟩:=List.pairwise_cons.1 hr
  have ih:=ris_ins ht hl' r2
  rw [ins]
  split
  ·next h0 =>
   refine List.pairwise_cons.2 ⟨fun m hm=>?_,ih⟩
   rcases (mem_ins ht hl' m).1 hm with h | rfl
   ·exact r1 m h
   ·exact h0
  ·split
   ·exact hr
   ·next h0 h1 =>
    have hg:Lt t x:=ct_gt (by omega)
    refine List.pairwise_cons.2 ⟨fun m hm=>?_,hr⟩
    rcases List.mem_cons.1 hm with rfl | h
    ·exact hg
    ·exact Lt.trans hg (r1 m h)
end Go.Proofs.YtfdhaknecjcjoaaGreatDoor

namespace Go.Proofs.YtfdhaknecjcjoaaGreatDoor
open Go Go.RowKit
set_option linter.unusedVariables false

/-- Says a tree the empty word? -/
noncomputable def nul (a:Tr):Bool:=@decide (Lg a []) (Classical.propDecidable _)
theorem nul_iff (a:Tr):nul a=true↔Lg a []:=by
 unfold nul
 exact @decide_eq_true_iff _ (Classical.propDecidable _)
/-- A tree by where it begins; its root's place. -/
def rt (q:Nat × Tr):Nat:=q.1+q.2.flat.length - 1
/-- Members, each with its place. -/
def spP (k : Int) : Nat → Tr → List (Nat × Tr)
 | p,.zero n=>[(p,.zero n)]
 | p,.one n a=>[(p,.one n a)]
 | p,.two n a b=>if n.1=k then spP k p a ++ [(p+a.flat.length,b)] else [(p,.two n a b)]
/-- Parts of a concatenation, from behind, without those behind one that does not say the empty word. -/
noncomputable def rwP : Nat → Tr → List (Nat × Tr)
 | p,.zero n=>[(p,.zero n)]
 | p,.one n a=>[(p,.one n a)]
 | p,.two n a b=>if n.1=7 then (if nul a=true then rwP (p+a.flat.length) b else []) ++ [(p,a)] else [(p,.two n a b)]
theorem spP_other {k:Int} {p:Nat} {x:Tr} (h:x.root.1≠k):spP k p x=[(p,x)]:=by
 cases x with
 | zero n=>rfl
 | one n a=>rfl
 | two n a b=>rw [spP,if_neg (show ¬ n.1=k from h)]
theorem rwP_other {p:Nat} {x:Tr} (h:x.root.1≠7):rwP p x=[(p,x)]:=by
 cases x with
 | zero n=>rfl
 | one n a=>rfl
 | two n a b=>rw [rwP,if_neg (show ¬ n.1=7 from h)]
/-- The trees whose derivatives a tree's own one names. -/
noncomputable def kids : Nat × Tr → List (Nat × Tr)
 | (_,.zero _)=>[]
 | (p,.one _ a)=>[(p,a)]
 | (p,.two n a b)=>if n.1=7 then rwP p (.two n a b) else spP n.1 p (.two n a b)
/-- The places of a tree's nodes. -/
def plc (q:Nat × Tr):List Nat:=List.range' q.1 q.2.flat.length
theorem plc_len (q:Nat × Tr):(plc q).length=q.2.flat.length:=by simp [plc]
theorem plc_two (p:Nat) (n:Nd) (a b:Tr):plc (p,.two n a b)=plc (p,a) ++ plc (p+a.flat.length,b) ++ [rt (p,.two n a b)]:=by
 have ha:=flat_pos a
 have e:rt (p,.two n a b)=p+a.flat.length+b.flat.length:=by simp [rt,Tr.flat];omega
 rw [e]
 simp only [plc,Tr.flat,List.length_append,List.length_singleton]
 rw [List.range'_concat,← List.range'_append_1]
 simp [Nat.add_assoc]
theorem spP_plc (k:Int):∀ (x:Tr) (p:Nat),((spP k p x).flatMap plc).Sublist (plc (p,x))
 | .zero n,p=>by simp [spP]
 | .one n a,p=>by simp [spP]
 | .two n a b,p=>by
  rw [spP]
  split
  ·rw [List.flatMap_append,plc_two]
   simp only [List.flatMap_cons,List.flatMap_nil,List.append_nil]
   exact ((spP_plc k a p).append (List.Sublist.refl _)).trans (List.sublist_append_left _ _)
  ·simp
theorem rwP_plc:∀ (x:Tr) (p:Nat),∃ l:List Nat,l.Perm ((rwP p x).flatMap plc)∧l.Sublist (plc (p,x))
 | .zero n,p=>⟨_,List.Perm.refl _,by simp [rwP]⟩
 | .one n a,p=>⟨_,List.Perm.refl _,by simp [rwP]⟩
 | .two n a b,p=>by
  rw [rwP]
  split
  ·obtain ⟨l,h1,h2⟩:=rwP_plc b (p+a.flat.length)
   split
   ·refine ⟨plc (p,a) ++ l,?_,?_⟩
    ·rw [List.flatMap_append]
     simp only [List.flatMap_cons,List.flatMap_nil,List.append_nil]
     exact (List.Perm.append_left _ h1).trans List.perm_append_comm
    ·rw [plc_two]
     exact ((List.Sublist.refl _).append h2).trans (List.sublist_append_left _ _)
   ·refine ⟨plc (p,a),by simp,?_⟩
    rw [plc_two,List.append_assoc]
    exact List.sublist_append_left _ _
  ·exact ⟨_,List.Perm.refl _,by simp⟩
theorem kids_plc (q:Nat × Tr):∃ l:List Nat,l.Perm (rt q :: (kids q).flatMap plc)∧l.Sublist (plc q):=by
 obtain ⟨p,x⟩:=q
 cases x with
 | zero n=>exact ⟨[p],by simp [rt,kids,Tr.flat],by simp [plc,Tr.flat]⟩
 | one n a =>
  refine ⟨List.range' p a.flat.length ++ [p+a.flat.length],?_,?_⟩
  ·have e:rt (p,.one n a)=p+a.flat.length:=by simp [rt,Tr.flat]
   rw [e]
   simp only [kids,List.flatMap_cons,List.flatMap_nil,List.append_nil,plc]
   exact List.perm_append_singleton _ _
  ·simp only [plc,Tr.flat,List.length_append,List.length_singleton]
   rw [List.range'_concat]
   simp
 | two n a b =>
  have key:∃ l:List Nat,l.Perm ((kids (p,.two n a b)).flatMap plc)∧l.Sublist (plc (p,a) ++ plc (p+a.flat.length,b)):=by
   rw [kids]
   split
   ·rename_i h7
    rw [rwP,if_pos h7]
    obtain ⟨l,h1,h2⟩:=rwP_plc b (p+a.flat.length)
    split
    ·refine ⟨plc (p,a) ++ l,?_,(List.Sublist.refl _).append h2⟩
     rw [List.flatMap_append]
     simp only [List.flatMap_cons,List.flatMap_nil,List.append_nil]
     exact (List.Perm.append_left _ h1).trans List.perm_append_comm
    ·exact ⟨plc (p,a),by simp,List.sublist_append_left _ _⟩
   ·rw [spP,if_pos rfl,List.flatMap_append]
    simp only [List.flatMap_cons,List.flatMap_nil,List.append_nil]
    exact ⟨_,List.Perm.refl _,(spP_plc n.1 a p).append (List.Sublist.refl _)⟩
  obtain ⟨l,h1,h2⟩:=key
  refine ⟨l ++ [rt (p,.two n a b)],?_,?_⟩
  ·exact (List.perm_append_singleton _ _).trans (List.Perm.cons _ h1)
  ·rw [plc_two]
   exact h2.append (List.Sublist.refl _)
theorem spP_sit {N:List Nd} {G:List Nat} (k:Int):∀ (x:Tr) (p:Nat),Sit N G p x→x.ok→∀ y ∈ spP k p x,Sit N G y.1 y.2∧y.2.ok
 | .zero n,p,h,ho,y,hy=>by simp only [spP,List.mem_singleton] at hy;subst hy;exact ⟨h,ho⟩
 | .one n a,p,h,ho,y,hy=>by simp only [spP,List.mem_singleton] at hy;subst hy;exact ⟨h,ho⟩
 | .two n a b,p,h,ho,y,hy=>by
  rw [spP] at hy
  split at hy
  ·rcases List.mem_append.1 hy with hy | hy
   ·exact spP_sit k a p h.left ho.2.2.1 y hy
   ·simp only [List.mem_singleton] at hy;subst hy;exact ⟨h.right,ho.2.2.2⟩
  ·simp only [List.mem_singleton] at hy;subst hy;exact ⟨h,ho⟩
theorem rwP_sit {N:List Nd} {G:List Nat}:∀ (x:Tr) (p:Nat),Sit N G p x→x.ok→∀ y ∈ rwP p x,Sit N G y.1 y.2∧y.2.ok
 | .zero n,p,h,ho,y,hy=>by simp only [rwP,List.mem_singleton] at hy;subst hy;exact ⟨h,ho⟩
 | .one n a,p,h,ho,y,hy=>by simp only [rwP,List.mem_singleton] at hy;subst hy;exact ⟨h,ho⟩
 | .two n a b,p,h,ho,y,hy=>by
  rw [rwP] at hy
  split at hy
  ·rcases List.mem_append.1 hy with hy | hy
   ·split at hy
    ·exact rwP_sit b _ h.right ho.2.2.2 y hy
    ·cases hy
   ·simp only [List.mem_singleton] at hy;subst hy;exact ⟨h.left,ho.2.2.1⟩
  ·simp only [List.mem_singleton] at hy;subst hy;exact ⟨h,ho⟩
theorem kids_sit {N:List Nd} {G:List Nat} {q:Nat × Tr} (h:Sit N G q.1 q.2) (ho:q.2.ok):∀ y ∈ kids q,Sit N G y.1 y.2∧y.2.ok:=by
 obtain ⟨p,x⟩:=q
 intro y hy
 cases x with
 | zero n=>simp [kids] at hy
 | one n a =>
  simp only [kids,List.mem_singleton] at hy
  subst hy
  exact ⟨h.part1,ho.2.2⟩
 | two n a b =>
  rw [kids] at hy
  split at hy
  ·exact rwP_sit _ _ h ho y hy
  ·exact spP_sit _ _ _ h ho y hy
theorem nf_spP {k:Int}:∀ (x:Tr) (p:Nat),NF x→∀ y ∈ spP k p x,NF y.2
 | .zero n,p,h,y,hy=>by simp only [spP,List.mem_singleton] at hy;subst hy;exact h
 | .one n a,p,h,y,hy=>by simp only [spP,List.mem_singleton] at hy;subst hy;exact h
 | .two n a b,p,h,y,hy=>by
  rw [spP] at hy
  split at hy
  ·rcases List.mem_append.1 hy with hy | hy
   ·exact nf_spP a p h.1 y hy
   ·simp only [List.mem_singleton] at hy;subst hy;exact h.2.1
  ·simp only [List.mem_singleton] at hy;subst hy;exact h
theorem nf_rwP:∀ (x:Tr) (p:Nat),NF x→∀ y ∈ rwP p x,NF y.2
 | .zero n,p,h,y,hy=>by simp only [rwP,List.mem_singleton] at hy;subst hy;exact h
 | .one n a,p,h,y,hy=>by simp only [rwP,List.mem_singleton] at hy;subst hy;exact h
 | .two n a b,p,h,y,hy=>by
  rw [rwP] at hy
  split at hy
  ·rcases List.mem_append.1 hy with hy | hy
   ·split at hy
    ·exact nf_rwP b _ h.2.1 y hy
    ·cases hy
   ·simp only [List.mem_singleton] at hy;subst hy;exact h.1
  ·simp only [List.mem_singleton] at hy;subst hy;exact h
theorem nf_kids {q:Nat × Tr} (h:NF q.2):∀ y ∈ kids q,NF y.2:=by
 obtain ⟨p,x⟩:=q
 intro y hy
 cases x with
 | zero n=>simp [kids] at hy
 | one n a =>
  simp only [kids,List.mem_singleton] at hy
  subst hy
  exact h.1
 | two n a b =>
  rw [kids] at hy
  split at hy
  ·exact nf_rwP _ _ h y hy
  ·exact nf_spP _ _ h y hy
/-- Places: the roots of the trees that are done, all nodes of the others. -/
def Zs (Q:List (Nat × Tr)) (i:Nat):List Nat:=(Q.take i).map rt ++ (Q.drop i).flatMap plc
theorem zs_step {Q:List (Nat × Tr)} {i:Nat} {q:Nat × Tr} (hq:Q[i]?=some q):∃ l:List Nat,l.Perm (Zs (Q ++ kids q) (i+1))∧l.Sublist (Zs Q i):=by
 obtain ⟨hi,hqe⟩:=List.getElem?_eq_some_iff.1 hq
 obtain ⟨l,h1,h2⟩:=kids_plc q
 refine ⟨(Q.take i).map rt ++ (l ++ (Q.drop (i+1)).flatMap plc),?_,?_⟩
 ·unfold Zs
  rw [List.take_append_of_le_length (by omega),List.drop_append_of_le_length (by omega),List.take_succ_eq_append_getElem hi,hqe,List.flatMap_append,List.map_append,List.append_assoc]
  refine List.Perm.append_left _ ?_
  simp only [List.map_cons,List.map_nil,List.cons_append,List.nil_append]
  refine (h1.append_right _).trans ?_
  simp only [List.cons_append]
  exact List.Perm.cons _ List.perm_append_comm
 ·unfold Zs
  rw [List.drop_eq_getElem_cons hi,hqe,List.flatMap_cons]
  exact (List.Sublist.refl _).append (h2.append (List.Sublist.refl _))
/-- The list of trees ahead of its round i. -/
structure Way (T : Tr) (Q : List (Nat × Tr)) (i : Nat) : Prop where
 head:Q=(0,T) :: (Q.take i).flatMap kids
 nodup : (Zs Q i).Nodup
 len : (Zs Q i).length ≤ T.flat.length
 sit:∀ q ∈ Q,Sit T.flat (T.bg 0) q.1 q.2∧q.2.ok
 nf:NF T→∀ q ∈ Q,NF q.2
 grd:∀ l,l<i→l<1+((Q.take l).flatMap kids).length
 le : i ≤ Q.length
theorem way_start {T:Tr} (ho:T.ok):Way T [(0,T)] 0:=by
 refine ⟨rfl,?_,?_,?_,?_,fun l hl=>by omega,Nat.zero_le _⟩
 ·simp [Zs,plc];exact List.nodup_range'
 ·simp [Zs,plc]
 ·intro q hq
  simp only [List.mem_singleton] at hq
  subst hq
  exact ⟨sit_self T,ho⟩
 ·intro h q hq
  simp only [List.mem_singleton] at hq
  subst hq
  exact h
theorem way_step {T:Tr} {Q:List (Nat × Tr)} {i:Nat} (h:Way T Q i) {q:Nat × Tr} (hq:Q[i]?=some q):Way T (Q ++ kids q) (i+1):=by
 obtain ⟨hi,hqe⟩:=List.getElem?_eq_some_iff.1 hq
 obtain ⟨l,h1,h2⟩:=zs_step hq
 refine ⟨?_,?_,?_,?_,?_,?_,by simp;omega⟩
 ·rw [List.take_append_of_le_length (by omega),List.take_succ_eq_append_getElem hi,hqe,List.flatMap_append]
  have:=h.head
  simp only [List.flatMap_cons,List.flatMap_nil,List.append_nil]
  rw [← List.cons_append,← this]
 ·exact h1.nodup_iff.1 (h2.nodup h.nodup)
 ·rw [← h1.length_eq];exact Nat.le_trans h2.length_le h.len
 ·intro y hy
  rcases List.mem_append.1 hy with hy | hy
  ·exact h.sit y hy
  ·have:=h.sit q (List.mem_of_getElem? hq)
   exact kids_sit this.1 this.2 y hy
 ·intro hT y hy
  rcases List.mem_append.1 hy with hy | hy
  ·exact h.nf hT y hy
  ·exact nf_kids (h.nf hT q (List.mem_of_getElem? hq)) y hy
 ·intro l hl
  rw [List.take_append_of_le_length (by omega)]
  by_cases c : l < i
  ·exact h.grd l c
  ·have e:l=i:=by omega
   subst e
   have:=congrArg List.length h.head
   simp only [List.length_cons] at this
   omega
theorem flatMap_ge {Q:List (Nat × Tr)}:Q.length≤(Q.flatMap plc).length:=by
 induction Q with
 | nil=>simp
 | cons q Q ih =>
  have:=flat_pos q.2
  simp only [List.flatMap_cons,List.length_append,List.length_cons,plc_len]
  omega
/-- No more trees than nodes. -/
theorem Way.size {T:Tr} {Q:List (Nat × Tr)} {i:Nat} (h:Way T Q i):Q.length≤T.flat.length:=by
 have h1:=h.len
 have h2:=flatMap_ge (Q:=Q.drop i)
 have h3:=h.le
 simp only [Zs,List.length_append,List.length_map,List.length_take,List.length_drop] at h1 h2
 omega
/-- At the end each root stands but once. -/
theorem Way.roots {T:Tr} {Q:List (Nat × Tr)} (h:Way T Q Q.length):(Q.map rt).Nodup:=by
 have:=h.nodup
 simpa [Zs] using this
end Go.Proofs.YtfdhaknecjcjoaaGreatDoor

namespace Go.Proofs.YtfdhaknecjcjoaaGreatDoor
open Go Go.RowKit
set_option linter.unusedVariables false

/-- Trees put into a rising row, one after the other. -/
def insL (M l:List Tr):List Tr:=l.foldl (fun a t=>ins t a) M
theorem insL_spec:∀ {l M:List Tr},Oks M→Ris M→Oks l→Oks (insL M l)∧Ris (insL M l)∧∀ m,m ∈ insL M l↔m ∈ M∨m ∈ l
 | [],M,hM,rM,_=>⟨hM,rM,fun m=>by simp [insL]⟩
 | t :: l,M,hM,rM,hl=>by
  have ht:t.ok:=hl t (by simp)
  have h1:=mem_ins ht hM
  have h2:Oks (ins t M):=fun m hm=>by
   rcases (h1 m).1 hm with h | h
   ·exact hM m h
   ·rw [h];exact ht
  obtain ⟨a,b,d⟩:=insL_spec (l:=l) (M:=ins t M) h2 (ris_ins ht hM rM) (fun m hm=>hl m (by simp [hm]))
  refine ⟨a,b,fun m=>?_⟩
  show m ∈ insL (ins t M) l ↔ _
  rw [d,h1,List.mem_cons,or_assoc]
theorem mb_oks {k:Int} {x:Tr} (h:x.ok):Oks (Mb k x):=fun m hm=>by
 unfold Mb at hm
 split at hm
 ·cases hm
 ·exact spine_ok h m hm
theorem mb_join {k:Int} (hk:k=5∨k=6) {x y:Tr} (hox:x.ok) (hx:NF x) (hoy:y.ok) (hy:NF y) (zx:x≠zeroK k) (zy:y≠zeroK k):Mb k (R2 k x y)=insL (Mb k x) (Mb k y):=by
 obtain ⟨h1,h2,h3,h4⟩:=R2_spec hk hox hx hoy hy zx zy
 obtain ⟨a,b,d⟩:=insL_spec (mb_oks (k:=k) hox) (mb_mem hk hox hx).1 (mb_oks (k:=k) hoy)
 exact ris_ext (mb_mem hk h1 h2).1 b (fun m=>by rw [h4,d])
theorem mb_nil {k:Int} {x:Tr}:Mb k x=[]↔x=unitK k:=by
 unfold Mb
 constructor
 ·intro h
  split at h
  ·assumption
  ·exact absurd h (spine_ne k x)
 ·intro h;rw [if_pos h]
theorem mb_len {k:Int} {x:Tr} (ho:x.ok) (hu:x≠unitK k):x.flat.length+1=lens (Mb k x)∧x=build k (Mb k x):=by
 have e:Mb k x=spine k x:=by unfold Mb;rw [if_neg hu]
 rw [e]
 have h1:=build_spine (k:=k) ho
 refine ⟨?_,h1.symm⟩
 have h2:=len_build (k:=k) (spine_ne k x)
 rw [h1] at h2
 exact h2
theorem R2_unit (k:Int) (y:Tr):R2 k (unitK k) y=y:=by
 unfold R2
 by_cases h : y = unitK k
 ·rw [if_pos (.inr h),h]
 ·rw [if_neg (fun hh=>hh.elim (unit_zero k) h),if_pos (.inr rfl)]
/-- Trees joined, one after the other. -/
def jF (k:Int) (l:List Tr):Tr:=l.foldl (R2 k) (unitK k)
theorem jF_snoc (k:Int) (l:List Tr) (x:Tr):jF k (l ++ [x])=R2 k (jF k l) x:=by simp [jF,List.foldl_append]
theorem jF_one (k:Int) (x:Tr):jF k [x]=x:=by show R2 k (unitK k) x=x;exact R2_unit k x
theorem jF_ok {k:Int} (hk:k=5∨k=6) {l:List Tr} (h:∀ x ∈ l,x.ok∧NF x):(jF k l).ok∧NF (jF k l):=by
 have key:∀ (l:List Tr) (u:Tr),u.ok→NF u→(∀ x ∈ l,x.ok∧NF x)→(l.foldl (R2 k) u).ok∧NF (l.foldl (R2 k) u):=by
  intro l
  induction l with
  | nil=>intro u h1 h2 _;exact ⟨h1,h2⟩
  | cons x l ih =>
   intro u h1 h2 h3
   have hx:=h3 x (by simp)
   have:=R2_ok hk h1 h2 hx.1 hx.2
   exact ih _ this.1 this.2 (fun y hy=>h3 y (by simp [hy]))
 exact key l _ (unit_ok k) (unit_nf k) h
theorem jF_after_zero {k:Int}:∀ (l:List Tr),l.foldl (R2 k) (zeroK k)=zeroK k
 | []=>rfl
 | x :: l=>by rw [List.foldl_cons,R2_zero (.inl rfl)];exact jF_after_zero l
theorem jF_zero {k:Int} {l:List Tr} {i:Nat} (h:l[i]?=some (zeroK k)) (j:Nat) (hj:i<j):jF k (l.take j)=zeroK k:=by
 have hi:i<l.length:=(List.getElem?_eq_some_iff.1 h).1
 have hz:l[i]=zeroK k:=(List.getElem?_eq_some_iff.1 h).2
 have e:l.take j=l.take i ++ zeroK k :: (l.take j).drop (i+1):=by
  have h1:=List.take_append_drop i (l.take j)
  rw [List.take_take,Nat.min_eq_left (by omega)] at h1
  have hlt:i<(l.take j).length:=by simp;omega
  rw [List.drop_eq_getElem_cons hlt] at h1
  rw [show (l.take j)[i]=zeroK k by rw [List.getElem_take];exact hz] at h1
  exact h1.symm
 rw [e]
 unfold jF
 rw [List.foldl_append,List.foldl_cons,R2_zero (.inr rfl)]
 exact jF_after_zero _
theorem jF_ne {k:Int} (hk:k=5∨k=6):∀ (l:List Tr),(∀ x ∈ l,x.ok∧NF x∧x≠zeroK k)→jF k l≠zeroK k:=by
 have key:∀ (l:List Tr) (u:Tr),u.ok→NF u→u≠zeroK k→(∀ x ∈ l,x.ok∧NF x∧x≠zeroK k)→l.foldl (R2 k) u≠zeroK k:=by
  intro l
  induction l with
  | nil=>intro u _ _ h _;exact h
  | cons x l ih =>
   intro u h1 h2 h3 h4
   have hx:=h4 x (by simp)
   obtain ⟨a,b,d,_⟩:=R2_spec hk h1 h2 hx.1 hx.2.1 h3 hx.2.2
   exact ih _ a b d (fun y hy=>h4 y (by simp [hy]))
 exact fun l h=>key l _ (unit_ok k) (unit_nf k) (unit_zero k) h
/-- All trees on the way of a join fit. -/
def jOK (k:Int) (l:List Tr):Prop:=∀ i,i≤l.length→(jF k (l.take i)).flat.length≤4000
theorem unit_len (k:Int):(unitK k).flat.length≤2:=by unfold unitK;split <;> simp [tNone,tAll,Tr.flat]
theorem zero_len (k:Int):(zeroK k).flat.length≤2:=by unfold zeroK;split <;> simp [tNone,tAll,Tr.flat]
theorem spP_snd (k:Int):∀ (x:Tr) (p:Nat),(spP k p x).map (·.2)=spine k x
 | .zero n,p=>rfl
 | .one n a,p=>rfl
 | .two n a b,p=>by
  rw [spP,spine]
  split
  ·rw [List.map_append,spP_snd k a p];rfl
  ·rfl
theorem drv_spine {k:Int} (hk:k=5∨k=6) (c:Int):∀ (x:Tr),jF k ((spine k x).map (drv c))=drv c x
 | .zero n=>jF_one k _
 | .one n a=>jF_one k _
 | .two n a b=>by
  rw [spine]
  split
  ·rename_i h
   rw [List.map_append,List.map_cons,List.map_nil,jF_snoc,drv_spine hk c a]
   show _ = drv c (.two n a b)
   rw [drv,if_neg (by omega),h]
  ·exact jF_one k _
/-- The derivatives that a concatenation's own one joins, from behind. -/
noncomputable def lnP (c : Int) : Tr → List Tr
 | .zero n=>[drv c (.zero n)]
 | .one n a=>[drv c (.one n a)]
 | .two n a b=>if n.1=7 then (if nul a=true then lnP c b else []) ++ [RC (drv c a) b] else [drv c (.two n a b)]
theorem drv_cat (c:Int) {n:Nd} {a b:Tr} (h7:n.1=7):drv c (.two n a b)=if nul a=true then R2 5 (RC (drv c a) b) (drv c b) else RC (drv c a) b:=by
 rw [drv,if_pos h7];rfl
theorem drv_lnP (c:Int):∀ (x:Tr),x.ok→NF x→jF 5 (lnP c x)=drv c x
 | .zero n,_,_=>jF_one 5 _
 | .one n a,_,_=>jF_one 5 _
 | .two n a b,ho,hn=>by
  have hoa:=drv_ok c (t:=a) ho.2.2.1 hn.1
  have hob:=drv_ok c (t:=b) ho.2.2.2 hn.2.1
  have hrc:=RC_ok hoa.1 hoa.2 ho.2.2.2 hn.2.1
  rw [lnP]
  split
  ·rename_i h7
   rw [jF_snoc]
   show _ = drv c (.two n a b)
   rw [drv_cat c h7]
   by_cases hz : nul a = true
   ·rw [if_pos hz,if_pos hz,drv_lnP c b ho.2.2.2 hn.2.1,R2_comm (.inl rfl) hob.1 hob.2 hrc.1 hrc.2]
   ·rw [if_neg hz,if_neg hz]
    exact R2_unit 5 _
  ·exact jF_one 5 _
/-- Fits what a step makes of the derivatives that it names? -/
noncomputable def loc (c : Int) : Tr → Prop
 | .zero _=>True
 | .one n a=>(drv c (.one n a)).flat.length≤4000
 | .two n a b=>if n.1=7 then (∀ z ∈ lnP c (.two n a b),z.flat.length≤4000)∧jOK 5 (lnP c (.two n a b)) else jOK n.1 ((spine n.1 (.two n a b)).map (drv c))
/-- Fit all trees on the way to a derivative? -/
noncomputable def fit (c : Int) : Tr → Prop
 | .zero _=>True
 | .one n a=>fit c a∧(drv c (.one n a)).flat.length≤4000
 | .two n a b=>if n.1=7 then fit c a∧(RC (drv c a) b).flat.length≤4000∧(nul a=true→fit c b∧(drv c (.two n a b)).flat.length≤4000) else fit c a∧fit c b∧(drv c (.two n a b)).flat.length≤4000
theorem fit_len (c:Int) {x:Tr} (h:fit c x):(drv c x).flat.length≤4000:=by
 cases x with
 | zero n=>rw [drv];split <;> simp [tEmpty,tNone,Tr.flat]
 | one n a=>exact h.2
 | two n a b =>
  rw [fit] at h
  split at h
  ·rename_i h7
   by_cases hz : nul a = true
   ·exact (h.2.2 hz).2
   ·rw [drv_cat c h7,if_neg hz];exact h.2.1
  ·exact h.2.2
theorem jOK_snoc {k:Int} {l:List Tr} {x:Tr}:jOK k (l ++ [x])↔jOK k l∧(jF k (l ++ [x])).flat.length≤4000:=by
 constructor
 ·intro h
  refine ⟨fun i hi=>?_,?_⟩
  ·have:=h i (by simp;omega)
   rwa [List.take_append_of_le_length hi] at this
  ·have:=h (l.length+1) (by simp)
   rwa [List.take_of_length_le (by simp)] at this
 ·rintro ⟨h1,h2⟩ i hi
  by_cases c : i ≤ l.length
  ·rw [List.take_append_of_le_length c];exact h1 i c
  ·rw [List.take_of_length_le (by simp at hi ⊢;omega)];exact h2
theorem jOK_nil (k:Int):jOK k []:=fun i hi=>by
 have:=unit_len k
 simp only [List.take_nil]
 show (unitK k).flat.length ≤ 4000
 omega
theorem jOK_one {k:Int} {x:Tr} (h:x.flat.length≤4000):jOK k [x]:=by
 have:=jOK_snoc (k:=k) (l:=[]) (x:=x)
 exact this.2 ⟨jOK_nil k,by rw [List.nil_append,jF_one];exact h⟩
theorem fit_spine {k:Int} (hk:k=5∨k=6) (c:Int):∀ (x:Tr),fit c x↔(∀ y ∈ spine k x,fit c y)∧jOK k ((spine k x).map (drv c))
 | .zero n=>by simp only [spine,List.mem_singleton,forall_eq,List.map_cons,List.map_nil];exact ⟨fun h=>⟨h,jOK_one (fit_len c h)⟩,fun h=>h.1⟩
 | .one n a=>by simp only [spine,List.mem_singleton,forall_eq,List.map_cons,List.map_nil];exact ⟨fun h=>⟨h,jOK_one (fit_len c h)⟩,fun h=>h.1⟩
 | .two n a b=>by
  rw [spine]
  split
  ·rename_i h
   have ih:=fit_spine hk c a
   have hd:=drv_spine hk c (.two n a b)
   rw [spine,if_pos h,List.map_append,List.map_cons,List.map_nil] at hd
   rw [List.map_append,List.map_cons,List.map_nil,jOK_snoc,hd,fit,if_neg (by omega),ih]
   constructor
   ·rintro ⟨⟨h1,h2⟩,h3,h4⟩
    refine ⟨fun y hy=>?_,h2,h4⟩
    rcases List.mem_append.1 hy with hy | hy
    ·exact h1 y hy
    ·simp only [List.mem_singleton] at hy;subst hy;exact h3
   ·rintro ⟨h1,h2,h4⟩
    exact ⟨⟨fun y hy=>h1 y (by simp [hy]),h2⟩,h1 b (by simp),h4⟩
  ·simp only [List.mem_singleton,forall_eq,List.map_cons,List.map_nil];exact ⟨fun h=>⟨h,jOK_one (fit_len c h)⟩,fun h=>h.1⟩
theorem fit_row (c:Int):∀ (x:Tr) (p:Nat),x.ok→NF x→(fit c x↔(∀ y ∈ rwP p x,fit c y.2)∧(∀ z ∈ lnP c x,z.flat.length≤4000)∧jOK 5 (lnP c x))
 | .zero n,p,_,_=>by simp only [rwP,lnP,List.mem_singleton,forall_eq];exact ⟨fun h=>⟨h,fit_len c h,jOK_one (fit_len c h)⟩,fun h=>h.1⟩
 | .one n a,p,_,_=>by simp only [rwP,lnP,List.mem_singleton,forall_eq];exact ⟨fun h=>⟨h,fit_len c h,jOK_one (fit_len c h)⟩,fun h=>h.1⟩
 | .two n a b,p,ho,hn=>by
  have hd:=drv_lnP c (.two n a b) ho hn
  rw [lnP] at hd
  rw [rwP,lnP]
  split
  ·rename_i h7
   rw [if_pos h7] at hd
   rw [fit,if_pos h7,jOK_snoc,hd]
   by_cases hz : nul a = true
   ·have ih:=fit_row c b (p+a.flat.length) ho.2.2.2 hn.2.1
    rw [if_pos hz,if_pos hz]
    constructor
    ·rintro ⟨h1,h2,h3⟩
     obtain ⟨h4,h5⟩:=h3 hz
     obtain ⟨i1,i2,i3⟩:=ih.1 h4
     refine ⟨fun y hy=>?_,fun z hz=>?_,i3,h5⟩
     ·rcases List.mem_append.1 hy with hy | hy
      ·exact i1 y hy
      ·simp only [List.mem_singleton] at hy;subst hy;exact h1
     ·rcases List.mem_append.1 hz with hz | hz
      ·exact i2 z hz
      ·simp only [List.mem_singleton] at hz;subst hz;exact h2
    ·rintro ⟨h1,h2,h3,h5⟩
     exact ⟨h1 (p,a) (by simp),h2 _ (by simp),fun _=>⟨ih.2 ⟨fun y hy=>h1 y (by simp [hy]),fun z hz=>h2 z (by simp [hz]),h3⟩,h5⟩⟩
   ·rw [if_neg hz,if_neg hz]
    have hd2:drv c (.two n a b)=RC (drv c a) b:=by rw [drv_cat c h7,if_neg hz]
    simp only [List.nil_append,List.mem_singleton,forall_eq]
    constructor
    ·rintro ⟨h1,h2,_⟩
     exact ⟨h1,h2,jOK_nil 5,by rw [hd2];exact h2⟩
    ·rintro ⟨h1,h2,_,_⟩
     exact ⟨h1,h2,fun h=>absurd h hz⟩
  ·simp only [List.mem_singleton,forall_eq]
   exact ⟨fun h=>⟨h,fit_len c h,jOK_one (fit_len c h)⟩,fun h=>h.1⟩
theorem fit_kids (c:Int) (q:Nat × Tr) (ho:q.2.ok) (hn:NF q.2):fit c q.2↔(∀ y ∈ kids q,fit c y.2)∧loc c q.2:=by
 obtain ⟨p,x⟩:=q
 simp only at ho hn ⊢
 cases x with
 | zero n=>simp [fit,kids,loc]
 | one n a=>simp [fit,kids,loc]
 | two n a b =>
  by_cases h7 : n.1 = 7
  ·rw [fit_row c _ p ho hn,kids,if_pos h7,loc,if_pos h7]
  ·have hk:n.1=5∨n.1=6:=by have:=ar2 ho.2.1;omega
   rw [fit_spine hk c,kids,if_neg h7,loc,if_neg h7,← spP_snd n.1 _ p]
   simp only [List.mem_map,forall_exists_index,and_imp,forall_apply_eq_imp_iff₂]
theorem loc_len (c:Int) {x:Tr} (ho:x.ok) (hn:NF x) (h:loc c x):(drv c x).flat.length≤4000:=by
 cases x with
 | zero n=>rw [drv];split <;> simp [tEmpty,tNone,Tr.flat]
 | one n a=>exact h
 | two n a b =>
  rw [loc] at h
  split at h
  ·have:=h.2 (lnP c (.two n a b)).length (Nat.le_refl _)
   rwa [List.take_length,drv_lnP c _ ho hn] at this
  ·rename_i h7
   have hk:n.1=5∨n.1=6:=by have:=ar2 ho.2.1;omega
   have:=h _ (Nat.le_refl _)
   rwa [List.take_length,drv_spine hk] at this
end Go.Proofs.YtfdhaknecjcjoaaGreatDoor
