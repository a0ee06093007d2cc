/- Zb Zc Zd, in one text. -/
import Derived.Test.YtfdhaknecjcjoaaGreatDoorPA
namespace Go.Proofs.YtfdhaknecjcjoaaGreatDoor
open Go Go.RowKit
set_option linter.unusedVariables false

/-- At each place where the tree begins whose root stands there, of a tree that begins at p. -/
def Tr.bg (p : Nat) : Tr → List Nat
 | .zero n=>[p]
 | .one n a=>a.bg p ++ [p]
 | .two n a b=>a.bg p ++ b.bg (p+a.flat.length) ++ [p]
theorem bg_len:∀ (t:Tr) (p:Nat),(t.bg p).length=t.flat.length
 | .zero n,p=>rfl
 | .one n a,p=>by simp [Tr.bg,Tr.flat,bg_len a]
 | .two n a b,p=>by simp [Tr.bg,Tr.flat,bg_len a,bg_len b]
/-- The tree x stands at place p among the nodes N, whose beginnings are G. -/
structure Sit (N : List Nd) (G : List Nat) (p : Nat) (x : Tr) : Prop where
 le : p + x.flat.length ≤ N.length
 nd:∀ i,i<x.flat.length→N.getD (p+i) (0,0)=x.flat.getD i (0,0)
 bg:∀ i,i<x.flat.length→G.getD (p+i) 0=(x.bg p).getD i 0
theorem sit_self (T:Tr):Sit T.flat (T.bg 0) 0 T:=⟨by omega,fun i _=>by rw [Nat.zero_add],fun i _=>by rw [Nat.zero_add]⟩
theorem flat_pos (t:Tr):1≤t.flat.length:=by cases t <;> simp [Tr.flat] <;> omega
theorem Sit.part1 {N:List Nd} {G:List Nat} {p:Nat} {n:Nd} {a:Tr} (h:Sit N G p (.one n a)):Sit N G p a:=by
 have l:=h.le
 simp only [Tr.flat,List.length_append,List.length_singleton] at l
 refine ⟨by omega,fun i hi=>?_,fun i hi=>?_⟩
 ·rw [h.nd i (by simp [Tr.flat];omega)];simp [Tr.flat,List.getD_eq_getElem?_getD,List.getElem?_append_left hi]
 ·rw [h.bg i (by simp [Tr.flat];omega)];simp [Tr.bg,List.getD_eq_getElem?_getD,List.getElem?_append_left (show i<(a.bg p).length by rw [bg_len];exact hi)]
theorem Sit.left {N:List Nd} {G:List Nat} {p:Nat} {n:Nd} {a b:Tr} (h:Sit N G p (.two n a b)):Sit N G p a:=by
 have l:=h.le
 simp only [Tr.flat,List.length_append,List.length_singleton] at l
 refine ⟨by omega,fun i hi=>?_,fun i hi=>?_⟩
 ·rw [h.nd i (by simp [Tr.flat];omega)];simp [Tr.flat,List.getD_eq_getElem?_getD,List.getElem?_append_left hi]
 ·rw [h.bg i (by simp [Tr.flat];omega)];simp [Tr.bg,List.getD_eq_getElem?_getD,List.getElem?_append_left (show i<(a.bg p).length by rw [bg_len];exact hi)]
theorem Sit.right {N:List Nd} {G:List Nat} {p:Nat} {n:Nd} {a b:Tr} (h:Sit N G p (.two n a b)):Sit N G (p+a.flat.length) b:=by
 have l:=h.le
 simp only [Tr.flat,List.length_append,List.length_singleton] at l
 refine ⟨by omega,fun i hi=>?_,fun i hi=>?_⟩
 ·have:=h.nd (a.flat.length+i) (by simp [Tr.flat];omega)
  rw [Nat.add_assoc,this]
  simp only [Tr.flat,List.append_assoc,List.getD_eq_getElem?_getD]
  rw [List.getElem?_append_right (by omega),Nat.add_sub_cancel_left,List.getElem?_append_left hi]
 ·have:=h.bg (a.flat.length+i) (by simp [Tr.flat];omega)
  rw [Nat.add_assoc,this]
  simp only [Tr.bg,List.append_assoc,List.getD_eq_getElem?_getD]
  rw [List.getElem?_append_right (by rw [bg_len];omega),bg_len,Nat.add_sub_cancel_left,List.getElem?_append_left (by rw [bg_len];exact hi)]
theorem flat_last (t:Tr):t.flat.getD (t.flat.length - 1) (0,0)=t.root:=by
 cases t with
 | zero n=>rfl
 | one n a=>simp [Tr.flat,Tr.root,List.getD_eq_getElem?_getD]
 | two n a b =>
  simp only [Tr.flat,Tr.root,List.getD_eq_getElem?_getD,List.length_append,List.length_singleton]
  rw [List.getElem?_append_right (by simp)];simp
theorem bg_last (t:Tr) (p:Nat):(t.bg p).getD (t.flat.length - 1) 0=p:=by
 cases t with
 | zero n=>rfl
 | one n a=>simp [Tr.flat,Tr.bg,List.getD_eq_getElem?_getD,bg_len]
 | two n a b =>
  simp only [Tr.flat,Tr.bg,List.getD_eq_getElem?_getD,List.length_append,List.length_singleton]
  rw [List.getElem?_append_right (by simp [bg_len])];simp [bg_len]
theorem Sit.root {N:List Nd} {G:List Nat} {p:Nat} {x:Tr} (h:Sit N G p x):N.getD (p+x.flat.length - 1) (0,0)=x.root∧G.getD (p+x.flat.length - 1) 0=p:=by
 have hp:=flat_pos x
 rw [show p + x.flat.length - 1 = p + (x.flat.length - 1) by omega]
 exact ⟨by rw [h.nd _ (by omega),flat_last],by rw [h.bg _ (by omega),bg_last]⟩
/-- How the beginning at a place comes of those ahead of it. -/
def BgR (N : List Nd) (G : List Nat) (i : Nat) : Prop :=
 G.getD i 0 ≤ i ∧
 (arity (N.getD i (0,0)).1=0→G.getD i 0=i) ∧
 (arity (N.getD i (0,0)).1=1→1≤i∧G.getD i 0=G.getD (i - 1) 0) ∧
 (arity (N.getD i (0,0)).1=2→1≤i∧1≤G.getD (i - 1) 0∧G.getD (i - 1) 0≤i - 1∧G.getD i 0=G.getD (G.getD (i - 1) 0 - 1) 0)
theorem sit_bgR {N:List Nd} {G:List Nat}:∀ (x:Tr) (p:Nat),x.ok→Sit N G p x→∀ i,p≤i→i<p+x.flat.length→BgR N G i
 | .zero n,p,ho,h,i,h1,h2=>by
  have hr:=h.root
  have e:i=p:=by simp [Tr.flat] at h2;omega
  subst e
  simp only [Tr.flat,List.length_singleton,Nat.add_sub_cancel,Tr.root] at hr
  refine ⟨by omega,fun _=>hr.2,fun h3=>?_,fun h3=>?_⟩ <;> rw [hr.1,ho.2] at h3 <;> omega
 | .one n a,p,ho,h,i,h1,h2=>by
  have hr:=h.root
  have ha:=flat_pos a
  have hl:(Tr.one n a).flat.length=a.flat.length+1:=by simp [Tr.flat]
  rw [hl] at h2 hr
  by_cases c : i < p + a.flat.length
  ·exact sit_bgR a p ho.2.2 h.part1 i h1 c
  ·have e:i=p+a.flat.length:=by omega
   subst e
   rw [show p + (a.flat.length + 1) - 1 = p + a.flat.length by omega] at hr
   have hs:=h.part1.root
   have har:arity n.1=1:=ho.2.1
   refine ⟨by rw [hr.2];omega,fun h3=>?_,fun h3=>⟨by omega,by rw [hr.2,hs.2]⟩,fun h3=>?_⟩ <;> (rw [hr.1] at h3;simp only [Tr.root] at h3;omega)
 | .two n a b,p,ho,h,i,h1,h2=>by
  have hr:=h.root
  have ha:=flat_pos a
  have hb:=flat_pos b
  have hl:(Tr.two n a b).flat.length=a.flat.length+b.flat.length+1:=by simp [Tr.flat];omega
  rw [hl] at h2 hr
  by_cases c : i < p + a.flat.length
  ·exact sit_bgR a p ho.2.2.1 h.left i h1 c
  by_cases c2 : i < p + a.flat.length + b.flat.length
  ·exact sit_bgR b _ ho.2.2.2 h.right i (by omega) (by omega)
  have e:i=p+a.flat.length+b.flat.length:=by omega
  subst e
  rw [show p + (a.flat.length + b.flat.length + 1) - 1 = p + a.flat.length + b.flat.length by omega] at hr
  have hs:=h.right.root
  have hs2:=h.left.root
  have har:arity n.1=2:=ho.2.1
  refine ⟨by rw [hr.2];omega,fun h3=>?_,fun h3=>?_,fun h3=>⟨by omega,by rw [hs.2];omega,by rw [hs.2];omega,by rw [hr.2,hs.2,hs2.2]⟩⟩ <;> (rw [hr.1] at h3;simp only [Tr.root] at h3;omega)
end Go.Proofs.YtfdhaknecjcjoaaGreatDoor

namespace Go.Proofs.YtfdhaknecjcjoaaGreatDoor
open Go Go.RowKit
set_option linter.unusedVariables false

set_option maxHeartbeats 4000000 in
set_option maxRecDepth 100000 in
theorem begins_any (v : Value) (T : Tr) (ho : T.ok) (w : World) (hv : NReads w v T.flat) (hm : T.flat.length ≤ 4000) :
  Calls Tryz.prog 36 #[v] w fun e w'=>e=.returned (.slice (some ⟨w.heap.size,0,none⟩) T.flat.length T.flat.length)∧IRow w' w.heap.size (T.bg 0)∧Below w.heap.size w w':=by
 obtain ⟨a,cap,rfl,hr⟩:=hv
 have HR:Hid _:=hr
 obtain ⟨ts,hts⟩:∃ ts,T.flat=ts:=⟨_,rfl⟩
 obtain ⟨G,hG⟩:∃ G,T.bg 0=G:=⟨_,rfl⟩
 have HGL:Hid (G.length=ts.length):=by show _=_;rw [← hG,← hts,bg_len]
 have HBG:Hid (∀ i,i<ts.length→BgR ts G i∧good (ts.getD i (0,0))=true):=by
  intro i hi
  refine ⟨?_,?_⟩
  ·have:=sit_bgR T 0 ho (sit_self T) i (Nat.zero_le _) (by rw [hts];omega)
   rw [hts,hG] at this;exact this
  ·have hf:=T.ok_free ho
   rw [hts] at hf
   exact (free_good hf hi).choose_spec.2.1
 rw [hts] at HR hm
 rw [hts,hG]
 clear hr hts hG ho T
 obtain ⟨i0,hi,hz0,hz1,hz2⟩:=info_parts Tryz.info_int
 have hmk:=fun w0=>run_make (P:=Tryz.prog) w0 66 3 i0 (.int .i64 0) Tryz.underlying66 hi hz0 .i64 .i64 (ts.length:Int) (ts.length:Int) (by omega) (by omega) (by rw [hz2];omega) (by omega)
 rw [hz1] at hmk
 simp only [Nat.mul_one] at hmk
 go_enter Tryz.func36,Tryz.ntmps36
 go_wp2_with fail
 have hI0:IRow (w.alloc (.cells (madeCells #[.int .i64 0] ts.length) 3)) w.heap.size (List.replicate ts.length 0):=by
  unfold IRow
  rw [← made_iA]
  exact heap_alloc_new w _
 have HI0:Hid _:=hI0
 have HB0:Hid (Below w.heap.size w (w.alloc (.cells (madeCells #[.int .i64 0] ts.length) 3))):=(Below.refl _ _).alloc (Nat.le_refl _) _
 clear hI0 hmk
 go_loopw [11] (fun vi wr=>∃ (i:Nat) (L:List Nat),i≤ts.length∧vi=.int .i64 i∧L.length=ts.length∧IRow wr w.heap.size L∧(∀ j,j<i→L[j]?=some (G.getD j 0))∧Below w.heap.size w wr) (fun vi _=>ts.length - (intOf vi).toNat)
 case atStart=>exact ⟨0,_,Nat.zero_le _,rfl,by simp,HI0.out,fun j hj=>by omega,HB0.out⟩
 case round =>
  obtain ⟨i,L,hile,rfl,hLl,hrow,hpre,hbel⟩:=hrel
  clear HI0 HB0
  by_cases hlt : i < ts.length
  ·have hiI:(i:Int)<ts.length:=by omega
   obtain ⟨g,o,rfl,hg,h1,h2⟩:=HR.out i hlt
   obtain ⟨⟨hbi,hb0,hb1,hb2⟩,hgood⟩:=HBG.out i hlt
   obtain ⟨⟨k,s⟩,hn⟩:∃ n,ts.getD i (0,0)=n:=⟨_,rfl⟩
   rw [hn] at h1 h2 hgood hb0 hb1 hb2
   have c1:wr.cell? ⟨g,o+i * 2,none⟩=some (.int .i64 k):=by rw [below_cell hbel hg];exact h1
   have c2:wr.cell? ⟨g,o+i * 2+1,none⟩=some (.int .u8 s):=by rw [below_cell hbel hg];exact h2
   obtain ⟨hk1,hk9⟩:=good_kind hgood
   simp only at hk1 hk9 hb0 hb1 hb2
   have hgl:=hrow.lt
   have hcg:=hrow.frozen i
   obtain ⟨old,hold⟩:∃ old,L[i]?=some old:=⟨_,List.getElem?_eq_getElem (by omega)⟩
   have hcc:=hrow.get hold
   have hcc2:∀ O,(wr.alloc O).cell? ⟨w.heap.size,i,none⟩=some (.int .i64 (old:Int)):=fun O=>by rw [below_cell ((Below.refl wr.heap.size wr).alloc (Nat.le_refl _) O) hgl];exact hcc
   have hcg2:∀ O,(wr.alloc O).frozen? ⟨w.heap.size,i,none⟩=false:=fun O=>(hrow.alloc O).frozen i
   have HROW:Hid (IRow wr w.heap.size L):=hrow
   have HPRE:Hid (∀ j,j<i→L[j]?=some (G.getD j 0)):=hpre
   have HBEL:Hid (Below w.heap.size w wr):=hbel
   clear hrow hpre hbel h1 h2 hgood hn
   have HR1:Hid (∀ O,IRow ((wr.setCell ⟨w.heap.size,i,none⟩ (.int .i64 (i:Int))).alloc O) w.heap.size (L.set i i)):=fun O=>(HROW.out.set (i:=i) (v:=i)).alloc O
   have HB1:Hid (∀ O,Below w.heap.size w ((wr.setCell ⟨w.heap.size,i,none⟩ (.int .i64 (i:Int))).alloc O)):=fun O =>
    (HBEL.out.setCell (p:=⟨w.heap.size,i,none⟩) (Nat.le_refl _) _).alloc (by have:=HBEL.out.size;simp;omega) _
   have HR2:Hid (∀ (d:Nat) O,IRow (((wr.setCell ⟨w.heap.size,i,none⟩ (.int .i64 (i:Int))).setCell ⟨w.heap.size,i,none⟩ (.int .i64 (d:Int))).alloc O) w.heap.size (L.set i d)∧Below w.heap.size w (((wr.setCell ⟨w.heap.size,i,none⟩ (.int .i64 (i:Int))).setCell ⟨w.heap.size,i,none⟩ (.int .i64 (d:Int))).alloc O)):=fun d O=>by
    refine ⟨?_,((HBEL.out.setCell (p:=⟨w.heap.size,i,none⟩) (Nat.le_refl _) _).setCell (p:=⟨w.heap.size,i,none⟩) (Nat.le_refl _) _).alloc (by have:=HBEL.out.size;simp;omega) _⟩
    have h:=((HROW.out.set (i:=i) (v:=i)).set (i:=i) (v:=d)).alloc O
    rw [List.set_set] at h
    exact h
   have HGX:Hid (∀ j,j<i→∀ O,((wr.setCell ⟨w.heap.size,i,none⟩ (.int .i64 (i:Int))).alloc O).cell? ⟨w.heap.size,j,none⟩=some (.int .i64 (G.getD j 0:Nat))):=fun j hj O =>
    (HR1.out O).get (by rw [List.getElem?_set_ne (by omega)];exact HPRE.out j hj)
   have HPN:Hid (∀ d,G.getD i 0=d→∀ j,j<i+1→(L.set i d)[j]?=some (G.getD j 0)):=by
    intro d hd j hj
    by_cases c : j = i
    ·subst c;rw [hd];simp [hLl,hlt]
    ·rw [List.getElem?_set_ne (by omega)];exact HPRE.out j (by omega)
   have hfz:∀ O,((wr.setCell ⟨w.heap.size,i,none⟩ (.int .i64 (i:Int))).alloc O).frozen? ⟨w.heap.size,i,none⟩=false:=fun O=>(HR1.out O).frozen i
   have hci:∀ O,((wr.setCell ⟨w.heap.size,i,none⟩ (.int .i64 (i:Int))).alloc O).cell? ⟨w.heap.size,i,none⟩=some (.int .i64 (i:Int)):=fun O=>(HR1.out O).get (by simp [hLl,hlt])
   have hk:k=1∨k=2∨k=3∨k=4∨k=5∨k=6∨k=7∨k=8∨k=9:=by omega
   clear HROW HBEL HPRE hold hbi
   rcases hk with rfl | rfl | rfl | rfl | rfl | rfl | rfl | rfl | rfl
   ·have hgi:=hb0 (by decide)
    clear hb0 hb1 hb2 HGX
    go_wp2_with fail
    go_roundw
    case rel=>exact ⟨i+1,L.set i i,by omega,by go_num,by simp [hLl],HR1.out _,HPN.out i hgi,HB1.out _⟩
    case measure=>simp [intOf];omega
   ·have hgi:=hb0 (by decide)
    clear hb0 hb1 hb2 HGX
    go_wp2_with fail
    go_roundw
    case rel=>exact ⟨i+1,L.set i i,by omega,by go_num,by simp [hLl],HR1.out _,HPN.out i hgi,HB1.out _⟩
    case measure=>simp [intOf];omega
   ·have hgi:=hb0 (by decide)
    clear hb0 hb1 hb2 HGX
    go_wp2_with fail
    go_roundw
    case rel=>exact ⟨i+1,L.set i i,by omega,by go_num,by simp [hLl],HR1.out _,HPN.out i hgi,HB1.out _⟩
    case measure=>simp [intOf];omega
   ·have hgi:=hb0 (by decide)
    clear hb0 hb1 hb2 HGX
    go_wp2_with fail
    go_roundw
    case rel=>exact ⟨i+1,L.set i i,by omega,by go_num,by simp [hLl],HR1.out _,HPN.out i hgi,HB1.out _⟩
    case measure=>simp [intOf];omega
   ·obtain ⟨hi1,ha1,ha2,hgi⟩:=hb2 (by decide)
    clear hb0 hb1 hb2
    obtain ⟨a,hd⟩:∃ a,G.getD (i - 1) 0=a:=⟨_,rfl⟩
    rw [hd] at hgi ha1 ha2
    obtain ⟨d,hd2⟩:∃ d,G.getD (a - 1) 0=d:=⟨_,rfl⟩
    rw [hd2] at hgi
    have hx:∀ O,((wr.setCell ⟨w.heap.size,i,none⟩ (.int .i64 (i:Int))).alloc O).cell? ⟨w.heap.size,i - 1,none⟩=some (.int .i64 (a:Int)):=fun O=>by rw [← hd];exact HGX.out _ (by omega) O
    have hy:∀ O,((wr.setCell ⟨w.heap.size,i,none⟩ (.int .i64 (i:Int))).alloc O).cell? ⟨w.heap.size,a - 1,none⟩=some (.int .i64 (d:Int)):=fun O=>by rw [← hd2];exact HGX.out _ (by omega) O
    clear HGX hd hd2
    go_wp2_with fail
    go_roundw
    case rel=>exact ⟨i+1,L.set i d,by omega,by go_num,by simp [hLl],(HR2.out d _).1,HPN.out d hgi,(HR2.out d _).2⟩
    case measure=>simp [intOf];omega
   ·obtain ⟨hi1,ha1,ha2,hgi⟩:=hb2 (by decide)
    clear hb0 hb1 hb2
    obtain ⟨a,hd⟩:∃ a,G.getD (i - 1) 0=a:=⟨_,rfl⟩
    rw [hd] at hgi ha1 ha2
    obtain ⟨d,hd2⟩:∃ d,G.getD (a - 1) 0=d:=⟨_,rfl⟩
    rw [hd2] at hgi
    have hx:∀ O,((wr.setCell ⟨w.heap.size,i,none⟩ (.int .i64 (i:Int))).alloc O).cell? ⟨w.heap.size,i - 1,none⟩=some (.int .i64 (a:Int)):=fun O=>by rw [← hd];exact HGX.out _ (by omega) O
    have hy:∀ O,((wr.setCell ⟨w.heap.size,i,none⟩ (.int .i64 (i:Int))).alloc O).cell? ⟨w.heap.size,a - 1,none⟩=some (.int .i64 (d:Int)):=fun O=>by rw [← hd2];exact HGX.out _ (by omega) O
    clear HGX hd hd2
    go_wp2_with fail
    go_roundw
    case rel=>exact ⟨i+1,L.set i d,by omega,by go_num,by simp [hLl],(HR2.out d _).1,HPN.out d hgi,(HR2.out d _).2⟩
    case measure=>simp [intOf];omega
   ·obtain ⟨hi1,ha1,ha2,hgi⟩:=hb2 (by decide)
    clear hb0 hb1 hb2
    obtain ⟨a,hd⟩:∃ a,G.getD (i - 1) 0=a:=⟨_,rfl⟩
    rw [hd] at hgi ha1 ha2
    obtain ⟨d,hd2⟩:∃ d,G.getD (a - 1) 0=d:=⟨_,rfl⟩
    rw [hd2] at hgi
    have hx:∀ O,((wr.setCell ⟨w.heap.size,i,none⟩ (.int .i64 (i:Int))).alloc O).cell? ⟨w.heap.size,i - 1,none⟩=some (.int .i64 (a:Int)):=fun O=>by rw [← hd];exact HGX.out _ (by omega) O
    have hy:∀ O,((wr.setCell ⟨w.heap.size,i,none⟩ (.int .i64 (i:Int))).alloc O).cell? ⟨w.heap.size,a - 1,none⟩=some (.int .i64 (d:Int)):=fun O=>by rw [← hd2];exact HGX.out _ (by omega) O
    clear HGX hd hd2
    go_wp2_with fail
    go_roundw
    case rel=>exact ⟨i+1,L.set i d,by omega,by go_num,by simp [hLl],(HR2.out d _).1,HPN.out d hgi,(HR2.out d _).2⟩
    case measure=>simp [intOf];omega
   ·obtain ⟨hi1,hgi⟩:=hb1 (by decide)
    clear hb0 hb1 hb2
    obtain ⟨d,hd⟩:∃ d,G.getD (i - 1) 0=d:=⟨_,rfl⟩
    rw [hd] at hgi
    have hx:∀ O,((wr.setCell ⟨w.heap.size,i,none⟩ (.int .i64 (i:Int))).alloc O).cell? ⟨w.heap.size,i - 1,none⟩=some (.int .i64 (d:Int)):=fun O=>by rw [← hd];exact HGX.out _ (by omega) O
    clear HGX hd
    go_wp2_with fail
    go_roundw
    case rel=>exact ⟨i+1,L.set i d,by omega,by go_num,by simp [hLl],(HR2.out d _).1,HPN.out d hgi,(HR2.out d _).2⟩
    case measure=>simp [intOf];omega
   ·obtain ⟨hi1,hgi⟩:=hb1 (by decide)
    clear hb0 hb1 hb2
    obtain ⟨d,hd⟩:∃ d,G.getD (i - 1) 0=d:=⟨_,rfl⟩
    rw [hd] at hgi
    have hx:∀ O,((wr.setCell ⟨w.heap.size,i,none⟩ (.int .i64 (i:Int))).alloc O).cell? ⟨w.heap.size,i - 1,none⟩=some (.int .i64 (d:Int)):=fun O=>by rw [← hd];exact HGX.out _ (by omega) O
    clear HGX hd
    go_wp2_with fail
    go_roundw
    case rel=>exact ⟨i+1,L.set i d,by omega,by go_num,by simp [hLl],(HR2.out d _).1,HPN.out d hgi,(HR2.out d _).2⟩
    case measure=>simp [intOf];omega
  ·have hiI:¬ (i:Int)<ts.length:=by omega
   obtain rfl:i=ts.length:=by omega
   have HROW:Hid (IRow wr w.heap.size L):=hrow
   have HBEL:Hid (Below w.heap.size w wr):=hbel
   have HPRE:Hid (∀ j,j<ts.length→L[j]?=some (G.getD j 0)):=hpre
   clear hlt hrow hbel hpre
   go_wp2_with fail
   go_ret
   refine ⟨rfl,?_,HBEL.out⟩
   have e:L=G:=by
    apply List.ext_getElem?
    intro j
    by_cases c : j < ts.length
    ·rw [HPRE.out j c,List.getD_eq_getElem?_getD,List.getElem?_eq_getElem (by rw [HGL.out];exact c),Option.getD_some]
    ·rw [List.getElem?_eq_none (by omega),List.getElem?_eq_none (by rw [HGL.out];omega)]
   rw [← e]
   exact HROW.out
end Go.Proofs.YtfdhaknecjcjoaaGreatDoor

namespace Go.Proofs.YtfdhaknecjcjoaaGreatDoor
open Go Go.RowKit
set_option linter.unusedVariables false

set_option maxHeartbeats 1000000 in
theorem disLetter_any (s : Int) (w : World) :
  Calls Tryz.prog 23 #[.int .i32 s] w fun e w'=>e=.returned (.bool (isLet s))∧w'=w:=by
 by_cases h1 : 97 ≤ s
 ·by_cases h2 : s ≤ 104
  ·have HC:Hid (isLet s=true):=by show _=_;simp [isLet];omega
   go_enter Tryz.func23,Tryz.ntmps23
   go_wp2
   go_ret
   exact ⟨ret_bool HC.out.symm,rfl⟩
  ·have HC:Hid (isLet s=false):=by show _=_;simp [isLet];omega
   go_enter Tryz.func23,Tryz.ntmps23
   go_wp2
   go_ret
   exact ⟨ret_bool HC.out.symm,rfl⟩
 ·have HC:Hid (isLet s=false):=by show _=_;simp [isLet];omega
  go_enter Tryz.func23,Tryz.ntmps23
  go_wp2
  go_ret
  exact ⟨ret_bool HC.out.symm,rfl⟩

/-- A form in memory: the nodes of T, and where its trees begin. -/
structure DForm (w : World) (T : Tr) (a : Option Addr) (cap gb : Nat) : Prop where
 ok : T.ok
 len : T.flat.length ≤ 4000
 rd : NReads w (.slice a T.flat.length cap) T.flat
 row : IRow w gb (T.bg 0)
 caps : T.flat.length ≤ cap
def dfV (T:Tr) (a:Option Addr) (cap gb:Nat):Value:=.agg #[.slice a T.flat.length cap,.slice (some ⟨gb,0,none⟩) T.flat.length T.flat.length]
theorem DForm.stay {w w' : World} {T : Tr} {a : Option Addr} {cap gb : Nat} (h : DForm w T a cap gb) (hb : Below w.heap.size w w') : DForm w' T a cap gb :=
 ⟨h.ok,h.len,h.rd.stay hb,h.row.keep hb,h.caps⟩
theorem DForm.bgR {w : World} {T : Tr} {a : Option Addr} {cap gb : Nat} (h : DForm w T a cap gb) {i : Nat} (hi : i < T.flat.length) : BgR T.flat (T.bg 0) i :=
 sit_bgR T 0 h.ok (sit_self T) i (Nat.zero_le _) (by omega)
theorem DForm.cell {w:World} {T:Tr} {a:Option Addr} {cap gb:Nat} (h:DForm w T a cap gb) {i:Nat} (hi:i<T.flat.length):w.cell? ⟨gb,i,none⟩=some (.int .i64 ((T.bg 0).getD i 0:Nat)):=by
 refine h.row.get ?_
 rw [List.getD_eq_getElem?_getD,List.getElem?_eq_getElem (by rw [bg_len];exact hi),Option.getD_some]

set_option maxHeartbeats 2000000 in
set_option maxRecDepth 100000 in
theorem first_any {w : World} {T : Tr} {a : Option Addr} {cap gb : Nat} (h : DForm w T a cap gb) (r : Nat) (hr : r < T.flat.length) (h1 : 1 ≤ r) (h2 : 1 ≤ (T.bg 0).getD (r - 1) 0) :
  Calls Tryz.prog 116 #[dfV T a cap gb,.int .i64 (r:Int)] w fun e w'=>e=.returned (.int .i64 (((T.bg 0).getD (r - 1) 0 - 1:Nat):Int))∧Below w.heap.size w w':=by
 have hc:=h.cell (i:=r - 1) (by omega)
 have hb:=(h.bgR (i:=r - 1) (by omega)).1
 have hl:=h.len
 have hgb:=h.row.lt
 unfold dfV
 obtain ⟨n,hn⟩:∃ n,T.flat.length=n:=⟨_,rfl⟩
 obtain ⟨d,hd⟩:∃ d,(T.bg 0).getD (r - 1) 0=d:=⟨_,rfl⟩
 rw [hd] at hc hb h2 ⊢
 rw [hn] at hr hl ⊢
 clear h hn hd
 have hc2:∀ O,(w.alloc O).cell? ⟨gb,r - 1,none⟩=some (.int .i64 (d:Int)):=fun O=>by rw [below_cell ((Below.refl w.heap.size w).alloc (Nat.le_refl _) O) hgb];exact hc
 have HD:Hid (IntKind.i64.wrap ((d:Int) - 1)=((d - 1:Nat):Int)):=by show _=_;rw [IntKind.wrap_i64];omega
 go_enter Tryz.func116,Tryz.ntmps116
 go_wp2_with fail
 go_ret
 refine ⟨?_,(Below.refl _ _).alloc (Nat.le_refl _) _⟩
 go_num

set_option maxHeartbeats 4000000 in
set_option maxRecDepth 100000 in
theorem dtree_any {w : World} {T : Tr} {a : Option Addr} {cap gb : Nat} (h : DForm w T a cap gb) (r : Nat) (hr : r < T.flat.length) :
  Calls Tryz.prog 60 #[dfV T a cap gb,.int .i64 (r:Int)] w fun e w'=>∃ v,e=.returned v∧NReads w' v ((T.flat.drop ((T.bg 0).getD r 0)).take (r+1 - (T.bg 0).getD r 0))∧(∃ a' c',v=.slice a' (r+1 - (T.bg 0).getD r 0) c')∧Below w.heap.size w w':=by
 have hc:=h.cell hr
 have hb:=(h.bgR hr).1
 have hl:=h.len
 have hgb:=h.row.lt
 have hcp:=h.caps
 obtain ⟨a',cap',e,hrd⟩:=h.rd
 cases e
 obtain ⟨g,o,rfl,hg,_,_⟩:=hrd r hr
 have HN:Hid (∀ i,i<T.flat.length→w.cell? ⟨g,o+i * 2,none⟩=some (.int .i64 (T.flat.getD i (0,0)).1)∧w.cell? ⟨g,o+i * 2+1,none⟩=some (.int .u8 (T.flat.getD i (0,0)).2)):=by
  intro i hi
  obtain ⟨g',o',e,_,k1,k2⟩:=hrd i hi
  cases e
  exact ⟨k1,k2⟩
 unfold dfV
 obtain ⟨d,hd⟩:∃ d,(T.bg 0).getD r 0=d:=⟨_,rfl⟩
 rw [hd] at hc hb ⊢
 obtain ⟨N,hN⟩:∃ N,T.flat=N:=⟨_,rfl⟩
 rw [hN] at hr hl hcp HN ⊢
 clear h hd hrd hN
 have hc2:∀ O,(w.alloc O).cell? ⟨gb,r,none⟩=some (.int .i64 (d:Int)):=fun O=>by rw [below_cell ((Below.refl w.heap.size w).alloc (Nat.le_refl _) O) hgb];exact hc
 have hI:(r:Int)<N.length:=by omega
 have hna:¬ cap=d:=by omega
 go_enter Tryz.func60,Tryz.ntmps60
 go_wp2_with fail
 go_region
 go_wp2_with fail
 go_ret
 have HB:Below w.heap.size w ((w.alloc (.cells #[.slice (some ⟨g,o,none⟩) N.length cap,.slice (some ⟨gb,0,none⟩) N.length N.length] 73)).drew):=((Below.refl _ _).alloc (Nat.le_refl _) _).drew
 have hl2:((N.drop d).take (r+1 - d)).length=r+1 - d:=by simp;omega
 refine ⟨.slice (some ⟨g,o+d * 2,none⟩) (r+1 - d) (cap - d),rfl,?_,⟨_,_,rfl⟩,HB⟩
 refine ⟨some ⟨g,o+d * 2,none⟩,cap - d,by rw [hl2],fun i hi=>⟨g,o+d * 2,rfl,by have:=HB.size;omega,?_,?_⟩⟩
 all_goals
  rw [hl2] at hi
  have e:((N.drop d).take (r+1 - d)).getD i (0,0)=N.getD (d+i) (0,0):=by
   rw [List.getD_eq_getElem?_getD,List.getD_eq_getElem?_getD,List.getElem?_take,if_pos hi,List.getElem?_drop]
  rw [e,World.cell?_of_block (HB.block g hg)]
 ·rw [show o+d * 2+i * 2=o+(d+i) * 2 by omega];exact (HN.out (d+i) (by omega)).1
 ·rw [show o+d * 2+i * 2+1=o+(d+i) * 2+1 by omega];exact (HN.out (d+i) (by omega)).2

theorem sit_take {N:List Nd} {G:List Nat} {p:Nat} {x:Tr} (h:Sit N G p x):(N.drop p).take x.flat.length=x.flat:=by
 apply List.ext_getElem?
 intro i
 by_cases c : i < x.flat.length
 ·have hl:=h.le
  have:=h.nd i c
  rw [List.getElem?_take,if_pos c,List.getElem?_drop]
  rw [List.getD_eq_getElem?_getD,List.getD_eq_getElem?_getD,List.getElem?_eq_getElem (show p+i<N.length by omega),List.getElem?_eq_getElem c,Option.getD_some,Option.getD_some] at this
  rw [List.getElem?_eq_getElem (show p+i<N.length by omega),List.getElem?_eq_getElem c,this]
 ·rw [List.getElem?_eq_none (by simp;omega),List.getElem?_eq_none (by omega)]

/-- The tree that stands at p, by the place of its root. -/
theorem dtreeT {w : World} {T : Tr} {a : Option Addr} {cap gb : Nat} (h : DForm w T a cap gb) {p : Nat} {x : Tr} (hx : Sit T.flat (T.bg 0) p x) :
  Calls Tryz.prog 60 #[dfV T a cap gb,.int .i64 ((p+x.flat.length - 1:Nat):Int)] w fun e w'=>∃ v,e=.returned v∧NReads w' v x.flat∧Below w.heap.size w w':=by
 have hp:=flat_pos x
 have hl:=hx.le
 refine (dtree_any h (p + x.flat.length - 1) (by omega)).mono ?_
 rintro e w' ⟨v,he,hv,_,hb⟩
 rw [hx.root.2,show p+x.flat.length - 1+1 - p=x.flat.length by omega,sit_take hx] at hv
 exact ⟨v,he,hv,hb⟩

set_option maxHeartbeats 1000000 in
theorem leaf_new (k : Int) (w : World) :
  Calls Tryz.prog 57 #[.int .i64 k] w fun e w'=>∃ u,e=.returned u∧w'.ownsRow w.heap.size 51 2 u 1 (ndC [(k,0)])∧Below w.heap.size w w':=by
 go_enter Tryz.func57,Tryz.ntmps57
 go_wp2_with fail
 go_ret
 exact ⟨_,rfl,⟨rfl,.inr ⟨_,1,_,rfl,Nat.le_refl _,heap_alloc_new w _,Nat.le_refl _,by decide,rfl,rfl⟩⟩,(Below.refl _ _).alloc (Nat.le_refl _) _⟩
end Go.Proofs.YtfdhaknecjcjoaaGreatDoor
