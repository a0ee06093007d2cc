/- Xc Xd, in one text. -/
import Derived.Test.YtfdhaknecjcjoaaGreatDoorPXa
import Derived.Test.YtfdhaknecjcjoaaGreatDoorPA
import Derived.Deep.RegionHeld3
import Derived.Deep.RegionLaw
import Derived.Test.YtfdhaknecjcjoaaGreatDoorPWs
import Derived.Deep.AppendLies
import Derived.Laws.IdiomCopy
import Derived.Lib.SliceRun
namespace Go.Proofs.YtfdhaknecjcjoaaGreatDoor
open Go Go.RowKit
set_option linter.unusedVariables false

/-! ### Trees at their places -/
def Tr.sz : Tr → List Nat
 | .zero _=>[1]
 | .one _ a=>a.sz ++ [a.flat.length+1]
 | .two _ a b=>a.sz ++ b.sz ++ [a.flat.length+b.flat.length+1]
abbrev Tr.len (t:Tr):Nat:=t.flat.length
theorem Tr.sz_len:∀ t:Tr,t.sz.length=t.flat.length
 | .zero _=>rfl
 | .one _ a=>by simp [Tr.sz,Tr.flat,Tr.sz_len a]
 | .two _ a b=>by simp [Tr.sz,Tr.flat,Tr.sz_len a,Tr.sz_len b]
theorem Tr.sz_last (t:Tr):∃ X,t.sz=X ++ [t.flat.length]:=by
 cases t with
 | zero n=>exact ⟨[],rfl⟩
 | one n a=>exact ⟨a.sz,by simp [Tr.sz,Tr.flat]⟩
 | two n a b=>exact ⟨a.sz ++ b.sz,by simp [Tr.sz,Tr.flat];omega⟩
def flatL (ts:List Tr):List Nd:=ts.flatMap Tr.flat
def szL (ts:List Tr):List Nat:=ts.flatMap Tr.sz
theorem flatL_append (a b:List Tr):flatL (a ++ b)=flatL a ++ flatL b:=List.flatMap_append
theorem szL_append (a b:List Tr):szL (a ++ b)=szL a ++ szL b:=List.flatMap_append
theorem szL_len (ts:List Tr):(szL ts).length=(flatL ts).length:=by
 induction ts with
 | nil=>rfl
 | cons t ts ih =>
  have e1:szL (t :: ts)=t.sz ++ szL ts:=rfl
  have e2:flatL (t :: ts)=t.flat ++ flatL ts:=rfl
  rw [e1,e2,List.length_append,List.length_append,ih,t.sz_len]
/-- A tree stands from one place up to another. -/
structure At (N : List Nd) (Z : List Nat) (p e : Nat) (t : Tr) : Prop where
 end_ : e = p + t.flat.length
 nod:∃ A C,N=A ++ t.flat ++ C∧A.length=p
 siz:∃ A C,Z=A ++ t.sz ++ C∧A.length=p
theorem At.le {N:List Nd} {Z:List Nat} {p e:Nat} {t:Tr} (h:At N Z p e t):p<e∧e≤N.length:=by
 obtain ⟨A,C,rfl,rfl⟩:=h.nod
 have:=h.end_
 have:=t.len_pos
 simp only [List.length_append];omega
theorem At.root {N:List Nd} {Z:List Nat} {p e:Nat} {t:Tr} (h:At N Z p e t):N.getD (e - 1) (0,0)=t.root:=by
 obtain ⟨A,C,e1,rfl⟩:=h.nod
 obtain ⟨X,hX⟩:=t.flat_root
 have hl:t.flat.length=X.length+1:=by rw [hX];simp
 rw [e1,h.end_,hl,hX,List.getD_eq_getElem?_getD,show A ++ (X ++ [t.root]) ++ C=(A ++ X) ++ (t.root :: C) by simp,List.getElem?_append_right (by rw [List.length_append];omega),List.length_append]
 rw [show A.length + (X.length + 1) - 1 - (A.length + X.length) = 0 by omega]
 rfl
theorem At.size {N:List Nd} {Z:List Nat} {p e:Nat} {t:Tr} (h:At N Z p e t):Z[e - 1]?=some t.flat.length:=by
 obtain ⟨A,C,e1,rfl⟩:=h.siz
 obtain ⟨X,hX⟩:=t.sz_last
 have hl:t.flat.length=X.length+1:=by have:=t.sz_len;rw [hX] at this;simp at this;omega
 rw [e1,h.end_,hX,show A ++ (X ++ [t.flat.length]) ++ C=(A ++ X) ++ (t.flat.length :: C) by simp,List.getElem?_append_right (by rw [List.length_append];omega),List.length_append,show A.length+t.flat.length - 1 - (A.length+X.length)=0 by omega]
 rfl
theorem At.take {N:List Nd} {Z:List Nat} {p e:Nat} {t:Tr} (h:At N Z p e t):(N.drop p).take (e - p)=t.flat:=by
 obtain ⟨A,C,rfl,rfl⟩:=h.nod
 rw [List.append_assoc,List.drop_left,h.end_,show A.length+t.flat.length - A.length=t.flat.length by omega,List.take_left]
theorem At.two {N:List Nd} {Z:List Nat} {p e:Nat} {n:Nd} {a b:Tr} (h:At N Z p e (.two n a b)):∃ q,At N Z p q a∧At N Z q (e - 1) b:=by
 obtain ⟨A,C,e1,rfl⟩:=h.nod
 obtain ⟨A',C',e2,e3⟩:=h.siz
 have e4:=h.end_
 simp only [Tr.flat,List.length_append,List.length_singleton] at e1 e4
 simp only [Tr.sz] at e2
 exact ⟨A.length+a.flat.length,⟨rfl,⟨A,b.flat ++ [n] ++ C,by rw [e1];simp,rfl⟩,⟨A',b.sz ++ [a.flat.length+b.flat.length+1] ++ C',by rw [e2];simp,e3⟩⟩,
  ⟨by omega,⟨A ++ a.flat,[n] ++ C,by rw [e1];simp,by simp⟩,⟨A' ++ a.sz,[a.flat.length+b.flat.length+1] ++ C',by rw [e2];simp,by simp [a.sz_len,e3]⟩⟩⟩
theorem At.one {N:List Nd} {Z:List Nat} {p e:Nat} {n:Nd} {a:Tr} (h:At N Z p e (.one n a)):At N Z p (e - 1) a:=by
 obtain ⟨A,C,e1,rfl⟩:=h.nod
 obtain ⟨A',C',e2,e3⟩:=h.siz
 have e4:=h.end_
 simp only [Tr.flat,List.length_append,List.length_singleton] at e1 e4
 simp only [Tr.sz] at e2
 exact ⟨by omega,⟨A,[n] ++ C,by rw [e1];simp,rfl⟩,⟨A',[a.flat.length+1] ++ C',by rw [e2];simp,e3⟩⟩
theorem At.more {N M:List Nd} {Z Y:List Nat} {p e:Nat} {t:Tr} (h:At N Z p e t):At (N ++ M) (Z ++ Y) p e t:=by
 obtain ⟨A,C,e1,rfl⟩:=h.nod
 obtain ⟨A',C',e2,e3⟩:=h.siz
 exact ⟨h.end_,⟨A,C ++ M,by rw [e1];simp,rfl⟩,⟨A',C' ++ Y,by rw [e2];simp,e3⟩⟩
theorem at_stack (pre post : List Tr) (t : Tr) : At (flatL (pre ++ t :: post)) (szL (pre ++ t :: post)) (flatL pre).length ((flatL pre).length + t.flat.length) t :=
 ⟨rfl,⟨flatL pre,flatL post,by rw [flatL_append];simp [flatL],rfl⟩,⟨szL pre,szL post,by rw [szL_append];simp [szL],szL_len pre⟩⟩
/-- The last one, the last two. -/
theorem at_last (pre:List Tr) (t:Tr):∃ p e,At (flatL (pre ++ [t])) (szL (pre ++ [t])) p e t∧e=(flatL (pre ++ [t])).length∧p=(flatL pre).length :=
 ⟨_,_,at_stack pre [] t,by rw [flatL_append];simp [flatL],rfl⟩
theorem at_last2 (pre:List Tr) (x y:Tr):∃ p q e,At (flatL (pre ++ [x,y])) (szL (pre ++ [x,y])) p q x∧At (flatL (pre ++ [x,y])) (szL (pre ++ [x,y])) q e y∧e=(flatL (pre ++ [x,y])).length∧p=(flatL pre).length:=by
 have h1:=at_stack pre [y] x
 have h2:=at_stack (pre ++ [x]) [] y
 rw [show pre ++ [x] ++ [y]=pre ++ [x,y] by simp] at h2
 have e1:(flatL (pre ++ [x])).length=(flatL pre).length+x.flat.length:=by rw [flatL_append];simp [flatL]
 rw [e1] at h2
 exact ⟨_,_,_,h1,h2,by rw [flatL_append];simp [flatL];omega,rfl⟩
/-! ### The forms in their block -/
def inC (Z:List Nat):List Value:=Z.map fun (n:Nat)=>Value.int .i64 (n:Int)
theorem inC_append (a b:List Nat):inC (a ++ b)=inC a ++ inC b:=by simp [inC]
theorem inC_length (a:List Nat):(inC a).length=a.length:=by simp [inC]
structure Fb where
 nb : Nat
 nc : Nat
 sb : Nat
 sc : Nat
structure FS (base : Nat) (w : World) (B : Nat) (N : List Nd) (Z : List Nat) (F : Fb) : Prop where
 blk:w.heap[B]?=some (.cells #[.slice (some ⟨F.nb,0,none⟩) N.length F.nc,.slice (some ⟨F.sb,0,none⟩) Z.length F.sc] 68 (0,0))
 nod:w.ownsRow base 51 2 (.slice (some ⟨F.nb,0,none⟩) N.length F.nc) N.length (ndC N)
 siz:w.ownsRow base 3 1 (.slice (some ⟨F.sb,0,none⟩) Z.length F.sc) Z.length (inC Z)
 from_ : base ≤ B
 len : Z.length = N.length
 small : N.length ≤ 100000
/-- All blocks stay but those of the forms. -/
structure FG (w w' : World) (B : Nat) (F F' : Fb) : Prop where
 os : w'.os = w.os
 tape : w'.tape = w.tape
 output : w'.output = w.output
 size : w.heap.size ≤ w'.heap.size
 block:∀ j,j<w.heap.size→j≠B→j≠F.nb→j≠F.sb→w'.heap[j]?=w.heap[j]?
 nb : F'.nb = F.nb ∨ w.heap.size ≤ F'.nb
 sb : F'.sb = F.sb ∨ w.heap.size ≤ F'.sb
theorem FG.trans {a b c:World} {B:Nat} {F G H:Fb} (h:FG a b B F G) (k:FG b c B G H):FG a c B F H:=by
 have hs:=h.size
 refine ⟨k.os.trans h.os,k.tape.trans h.tape,k.output.trans h.output,Nat.le_trans h.size k.size,fun j hj h1 h2 h3=>?_,?_,?_⟩
 ·refine (k.block j (by omega) h1 (fun e=>?_) (fun e=>?_)).trans (h.block j hj h1 h2 h3)
  ·rcases h.nb with h4 | h4 <;> omega
  ·rcases h.sb with h4 | h4 <;> omega
 ·rcases k.nb with h4 | h4
  ·rw [h4];exact h.nb
  ·right;omega
 ·rcases k.sb with h4 | h4
  ·rw [h4];exact h.sb
  ·right;omega
theorem FG.of {w w':World} {B:Nat} {F:Fb} (h:Below w.heap.size w w'):FG w w' B F F:=⟨h.os,h.tape,h.output,h.size,fun j hj _ _ _=>h.block j hj,.inl rfl,.inl rfl⟩
theorem FS.lt {base:Nat} {w:World} {B:Nat} {N:List Nd} {Z:List Nat} {F:Fb} (h:FS base w B N Z F):B<w.heap.size:=(Array.getElem?_eq_some_iff.1 h.blk).1
theorem FS.stay {base : Nat} {w w' : World} {B : Nat} {N : List Nd} {Z : List Nat} {F : Fb} (h : FS base w B N Z F) (hb : Below w.heap.size w w') : FS base w' B N Z F :=
 ⟨(hb.block B h.lt).trans h.blk,own_below h.nod hb,own_below h.siz hb,h.from_,h.len,h.small⟩
theorem FS.cells {base : Nat} {w : World} {B : Nat} {N : List Nd} {Z : List Nat} {F : Fb} (h : FS base w B N Z F) :
  w.cell? ⟨B,0,none⟩=some (.slice (some ⟨F.nb,0,none⟩) N.length F.nc)∧w.cell? ⟨B,1,none⟩=some (.slice (some ⟨F.sb,0,none⟩) Z.length F.sc):=by
 have hb:=h.blk
 refine ⟨?_,?_⟩ <;> simp [World.cell?,hb]
theorem FS.frozen {base:Nat} {w:World} {B:Nat} {N:List Nd} {Z:List Nat} {F:Fb} (h:FS base w B N Z F) (i:Nat):w.frozen? ⟨B,i,none⟩=false:=by
 have hb:=h.blk
 simp [World.frozen?,hb]
theorem FS.lts {base:Nat} {w:World} {B:Nat} {N:List Nd} {Z:List Nat} {F:Fb} (h:FS base w B N Z F):F.nb<w.heap.size∧F.sb<w.heap.size∧base≤F.nb∧base≤F.sb :=
 ⟨(h.nod.lt F.nb rfl).2,(h.siz.lt F.sb rfl).2,(h.nod.lt F.nb rfl).1,(h.siz.lt F.sb rfl).1⟩
theorem FS.caps {base:Nat} {w:World} {B:Nat} {N:List Nd} {Z:List Nat} {F:Fb} (h:FS base w B N Z F):N.length≤F.nc∧Z.length≤F.sc∧F.nc≤maxLen∧F.sc≤maxLen:=by
 obtain ⟨_,h1⟩:=h.nod
 obtain ⟨_,h2⟩:=h.siz
 rcases h1 with ⟨h1,_⟩ | ⟨g,cap,cur,e,r⟩
 ·cases h1
 rcases h2 with ⟨h2,_⟩ | ⟨g',cap',cur',e',r'⟩
 ·cases h2
 cases e
 cases e'
 exact ⟨r.2.2.1,r'.2.2.1,r.2.2.2.1,r'.2.2.2.1⟩
theorem FS.node {base:Nat} {w:World} {B:Nat} {N:List Nd} {Z:List Nat} {F:Fb} (h:FS base w B N Z F) (i:Nat) (hi:i<N.length):w.cell? ⟨F.nb,i * 2,none⟩=some (.int .i64 (N.getD i (0,0)).1)∧w.cell? ⟨F.nb,i * 2+1,none⟩=some (.int .u8 (N.getD i (0,0)).2):=by
 rw [h.nod.cellAt (i * 2) (by omega),h.nod.cellAt (i * 2+1) (by omega)]
 exact ⟨ndC_fst N i hi,ndC_snd N i hi⟩
theorem FS.at_ {base:Nat} {w:World} {B:Nat} {N:List Nd} {Z:List Nat} {F:Fb} (h:FS base w B N Z F) (i x:Nat) (hi:Z[i]?=some x):w.cell? ⟨F.sb,i,none⟩=some (.int .i64 (x:Int)):=by
 have hl:=(List.getElem?_eq_some_iff.1 hi).1
 rw [h.siz.cellAt i (by omega),inC,List.getElem?_map,hi]
 rfl
def spn (a b:Nat):Value:=.agg #[.int .i64 (a:Int),.int .i64 (b:Int)]
def fP (B:Nat):Value:=.pointer (some ⟨B,0,none⟩)

set_option maxHeartbeats 4000000 in
set_option maxRecDepth 100000 in
theorem root_any (base : Nat) (w : World) (B : Nat) (N : List Nd) (Z : List Nat) (F : Fb) (h : FS base w B N Z F) (a b : Nat) (h1 : 1 ≤ b) (hb : b ≤ N.length) :
  Calls Tryz.prog 105 #[.pointer (some ⟨B,0,none⟩),.agg #[.int .i64 (a:Int),.int .i64 (b:Int)]] w fun e w'=>e=.returned (.int .i64 (N.getD (b - 1) (0,0)).1)∧Below w.heap.size w w':=by
 have hlt:=h.lt
 have hsm:=h.small
 have hcp:=h.caps
 obtain ⟨hnb,_,_,_⟩:=h.lts
 obtain ⟨c0,_⟩:=h.cells
 have hn:=(h.node (b - 1) (by omega)).1
 clear h
 go_enter Tryz.func105,Tryz.ntmps105
 go_wp2_with fail
 have hwr:IntKind.i64.wrap ((b:Int) - 1)=((b - 1:Nat):Int):=by rw [IntKind.wrap_i64];omega
 go_region
 go_wp2_with fail
 go_ret
 exact ⟨by rw [List.getD_eq_getElem?_getD];rfl,((Below.refl _ _).alloc (Nat.le_refl _) _).drew⟩

set_option maxHeartbeats 4000000 in
set_option maxRecDepth 100000 in
theorem ending_any (base : Nat) (w : World) (B : Nat) (N : List Nd) (Z : List Nat) (F : Fb) (h : FS base w B N Z F) (b x : Nat) (h1 : 1 ≤ b) (hb : b ≤ N.length) (hx : Z[b - 1]? = some x) (hxb : x ≤ b) :
  Calls Tryz.prog 112 #[.pointer (some ⟨B,0,none⟩),.int .i64 (b:Int)] w fun e w'=>e=.returned (.agg #[.int .i64 ((b - x:Nat):Int),.int .i64 (b:Int)])∧Below w.heap.size w w':=by
 have hlt:=h.lt
 have hsm:=h.small
 have hcp:=h.caps
 have hln:=h.len
 obtain ⟨_,hsb,_,_⟩:=h.lts
 obtain ⟨_,c1⟩:=h.cells
 have hn:=h.at_ (b - 1) x hx
 clear h hx
 go_enter Tryz.func112,Tryz.ntmps112
 go_wp2_with fail
 have hwr:IntKind.i64.wrap ((b:Int) - 1)=((b - 1:Nat):Int):=by rw [IntKind.wrap_i64];omega
 have hwr2:IntKind.i64.wrap ((b:Int) - (x:Int))=((b - x:Nat):Int):=by rw [IntKind.wrap_i64];omega
 have hlI:((b - 1:Nat):Int)<(Z.length:Int):=by omega
 have hlN:b - 1<Z.length:=by omega
 go_wp2_with fail
 refine bodyPost_ret (v:=.agg #[.int .i64 ((b:Int) - x),.int .i64 (b:Int)]) (by simp [results,Tryz.results112,go_sem]) rfl ⟨?_,(Below.refl _ _).alloc (Nat.le_refl _) _⟩
 rw [show ((b - x : Nat) : Int) = (b : Int) - x by omega]

theorem rootT {base : Nat} {w : World} {B : Nat} {N : List Nd} {Z : List Nat} {F : Fb} (h : FS base w B N Z F) {p e : Nat} {t : Tr} (ht : At N Z p e t) :
  Calls Tryz.prog 105 #[.pointer (some ⟨B,0,none⟩),.agg #[.int .i64 (p:Int),.int .i64 (e:Int)]] w fun e w'=>e=.returned (.int .i64 t.root.1)∧Below w.heap.size w w':=by
 have h1:=ht.le
 have:=root_any base w B N Z F h p e (by omega) h1.2
 rw [ht.root] at this
 exact this
theorem endingT {base : Nat} {w : World} {B : Nat} {N : List Nd} {Z : List Nat} {F : Fb} (h : FS base w B N Z F) {p e : Nat} {t : Tr} (ht : At N Z p e t) :
  Calls Tryz.prog 112 #[.pointer (some ⟨B,0,none⟩),.int .i64 (e:Int)] w fun en w'=>en=.returned (.agg #[.int .i64 (p:Int),.int .i64 (e:Int)])∧Below w.heap.size w w':=by
 have h1:=ht.le
 have h2:=ht.end_
 have:=ending_any base w B N Z F h e t.flat.length (by omega) h1.2 ht.size (by omega)
 rw [show e - t.flat.length = p by omega] at this
 exact this
/-- A span in a box. -/
def Bx (w:World) (b:Nat) (x y:Value):Prop:=w.heap[b]?=some (.cells #[x,y] 123 (0,0))
theorem Bx.lt {w:World} {b:Nat} {x y:Value} (h:Bx w b x y):b<w.heap.size:=(Array.getElem?_eq_some_iff.1 h).1
theorem Bx.stay {w w':World} {b:Nat} {x y:Value} (h:Bx w b x y) (hb:Below w.heap.size w w'):Bx w' b x y:=(hb.block b h.lt).trans h
theorem Bx.new (w:World) (x y:Value):Bx (w.alloc (.cells #[x,y] 123)) w.heap.size x y:=heap_alloc_new w _
theorem Bx.cells {w:World} {b:Nat} {x y:Value} (h:Bx w b x y):w.cell? ⟨b,0,none⟩=some x∧w.cell? ⟨b,1,none⟩=some y∧(∀ i,w.frozen? ⟨b,i,none⟩=false):=by
 unfold Bx at h
 refine ⟨?_,?_,fun i=>?_⟩
 ·simp [World.cell?,h]
 ·simp [World.cell?,h]
 ·simp [World.frozen?,h]

theorem Tryz.info_span:(Tryz.prog.info? 123).map (·.size)=some 2:=by kernel_rfl
theorem results_sp2 {fn:Func} {p r:Tmp} (h:fn.results=#[.cell p 123,.cell r 123]) {tmps:Array Value} {b c:Nat} {x y u v:Value} {w:World} (hp:tmps.getD p undef=.pointer (some ⟨b,0,none⟩)) (hr:tmps.getD r undef=.pointer (some ⟨c,0,none⟩)) (hb:Bx w b x y) (hc:Bx w c u v) :
  (results fn tmps).run Tryz.prog w=.ok (.tuple #[.agg #[x,y],.agg #[u,v]]) w:=by
 have hp':tmps[p]?.getD undef=.pointer (some ⟨b,0,none⟩):=by simpa using hp
 have hr':tmps[r]?.getD undef=.pointer (some ⟨c,0,none⟩):=by simpa using hr
 simp [results,h,go_sem,hp',hr',hb.cells.1,hb.cells.2.1,hc.cells.1,hc.cells.2.1,Result.andThen]
theorem blk_set2 {w:World} {B i:Nat} {arr:Array Value} {t:TypeId} (h:w.heap[B]?=some (.cells arr t (0,0))) (u:Value):(w.setCell ⟨B,i,none⟩ u).heap[B]?=some (.cells (arr.setIfInBounds i u) t (0,0)):=by
 rw [setCell_eq_setRow w B i _ _ _ u h]
 exact setRow_heap w B _ _ _ _ h
theorem Bx.put {w:World} {b:Nat} {x y:Value} (h:Bx w b x y) (u v:Value):Bx ((w.setCell ⟨b,0,none⟩ u).setCell ⟨b,1,none⟩ v) b u v:=by
 have h1:=blk_set2 (i:=0) h u
 exact blk_set2 (i:=1) h1 v
theorem below_put {n b:Nat} {w w1:World} (h:Below n w w1) (hb:n≤b) (u v:Value):Below n w ((w1.setCell ⟨b,0,none⟩ u).setCell ⟨b,1,none⟩ v) :=
 (h.setCell (p:=⟨b,0,none⟩) hb _).setCell (p:=⟨b,1,none⟩) hb _
theorem Bx.off {w:World} {b c i:Nat} {x y u:Value} (h:Bx w b x y) (hc:b≠c):Bx (w.setCell ⟨c,i,none⟩ u) b x y:=(Below.heap_setCell _ _ _ _ hc).trans h

set_option maxHeartbeats 4000000 in
set_option maxRecDepth 100000 in
theorem pairT {base : Nat} {w : World} {B : Nat} {N : List Nd} {Z : List Nat} {F : Fb} (h : FS base w B N Z F) {p q e : Nat} {x y : Tr} (hx : At N Z p q x) (hy : At N Z q e y) :
  Calls Tryz.prog 113 #[.pointer (some ⟨B,0,none⟩),.int .i64 (e:Int)] w fun en w'=>en=.returned (.tuple #[.agg #[.int .i64 (p:Int),.int .i64 (q:Int)],.agg #[.int .i64 (q:Int),.int .i64 (e:Int)]])∧Below w.heap.size w w':=by
 have hlt:=h.lt
 have HF:Hid (FS base w B N Z F):=h
 have HX:Hid (At N Z p q x):=hx
 have HY:Hid (At N Z q e y):=hy
 clear h hx hy
 have hsz:((w.alloc (.cells #[.int .i64 0,.int .i64 0] 123)).alloc (.cells #[.int .i64 0,.int .i64 0] 123)).heap.size=w.heap.size+2:=by simp
 have HB0:Hid (Below w.heap.size w ((w.alloc (.cells #[.int .i64 0,.int .i64 0] 123)).alloc (.cells #[.int .i64 0,.int .i64 0] 123))):=((Below.refl _ _).alloc (Nat.le_refl _) _).alloc (by simp) _
 have R0:Hid (Bx ((w.alloc (.cells #[.int .i64 0,.int .i64 0] 123)).alloc (.cells #[.int .i64 0,.int .i64 0] 123)) w.heap.size (.int .i64 0) (.int .i64 0)):=(Bx.new w _ _).stay ((Below.refl _ _).alloc (Nat.le_refl _) _)
 have R1:Hid (Bx ((w.alloc (.cells #[.int .i64 0,.int .i64 0] 123)).alloc (.cells #[.int .i64 0,.int .i64 0] 123)) (w.heap.size+1) (.int .i64 0) (.int .i64 0)):=by
  have:=Bx.new (w.alloc (.cells #[.int .i64 0,.int .i64 0] 123)) (.int .i64 0) (.int .i64 0)
  rw [show (w.alloc (.cells #[.int .i64 0,.int .i64 0] 123)).heap.size=w.heap.size+1 by simp] at this
  exact this
 go_enter Tryz.func113,Tryz.ntmps113
 go_wp2_with fail
 generalize (w.alloc (.cells #[.int .i64 0,.int .i64 0] 123)).alloc (.cells #[.int .i64 0,.int .i64 0] 123)=w0 at hsz HB0 R0 R1 ⊢
 refine (endingT (HF.out.stay HB0.out) HY.out).mono ?_
 rintro en w1 ⟨rfl,hb1⟩
 have hs1:=hb1.size
 have HB1:Hid (Below w.heap.size w w1):=HB0.out.trans (hb1.mono (by omega))
 have R0:Hid (Bx w1 w.heap.size (.int .i64 0) (.int .i64 0)):=R0.out.stay hb1
 have R1:Hid (Bx w1 (w.heap.size+1) (.int .i64 0) (.int .i64 0)):=R1.out.stay hb1
 obtain ⟨d0,d1,f1⟩:=R1.out.cells
 clear hb1 HB0
 go_wp2_with fail
 have HB2:Hid (Below w.heap.size w ((w1.setCell ⟨w.heap.size+1,0,none⟩ (.int .i64 (q:Int))).setCell ⟨w.heap.size+1,1,none⟩ (.int .i64 (e:Int)))):=below_put HB1.out (by omega) _ _
 have S1:Hid (Bx ((w1.setCell ⟨w.heap.size+1,0,none⟩ (.int .i64 (q:Int))).setCell ⟨w.heap.size+1,1,none⟩ (.int .i64 (e:Int))) (w.heap.size+1) (.int .i64 (q:Int)) (.int .i64 (e:Int))):=R1.out.put _ _
 have S0:Hid (Bx ((w1.setCell ⟨w.heap.size+1,0,none⟩ (.int .i64 (q:Int))).setCell ⟨w.heap.size+1,1,none⟩ (.int .i64 (e:Int))) w.heap.size (.int .i64 0) (.int .i64 0)):=(R0.out.off (by omega)).off (by omega)
 generalize (w1.setCell ⟨w.heap.size+1,0,none⟩ (.int .i64 (q:Int))).setCell ⟨w.heap.size+1,1,none⟩ (.int .i64 (e:Int))=w2 at HB2 S0 S1 ⊢
 clear d0 d1 f1 R0 R1 HB1
 obtain ⟨c0,c1,f0⟩:=S0.out.cells
 obtain ⟨d0,d1,f1⟩:=S1.out.cells
 have g0:=S0.out.lt
 have g1:=S1.out.lt
 go_region_with (go_at_call 112;refine (endingT (HF.out.stay HB2.out.drew) HX.out).mono ?_;rintro en w3 ⟨rfl,hb3⟩;have T0:=(S0.out.stay (w:=w2.drew) hb3).cells;have T1:=(S1.out.stay (w:=w2.drew) hb3).cells)
 all_goals
  have hs2:=HB2.out.size
  have hs3:=hb3.size
  have HB3:Below w.heap.size w w3:=HB2.out.drew.trans (hb3.mono hs2)
  have T0':Bx w3 w.heap.size (.int .i64 0) (.int .i64 0):=S0.out.stay (w:=w2.drew) hb3
  have T1':Bx w3 (w.heap.size+1) (.int .i64 (q:Int)) (.int .i64 (e:Int)):=S1.out.stay (w:=w2.drew) hb3
  have HE:Hid (Below w.heap.size w ((((w3.setCell ⟨w.heap.size,0,none⟩ (.int .i64 (p:Int))).setCell ⟨w.heap.size,1,none⟩ (.int .i64 (q:Int))).setCell ⟨w.heap.size+1,0,none⟩ (.int .i64 (q:Int))).setCell ⟨w.heap.size+1,1,none⟩ (.int .i64 (e:Int)))) :=
   below_put (below_put HB3 (Nat.le_refl _) _ _) (by omega) _ _
  have U0:Hid (Bx ((((w3.setCell ⟨w.heap.size,0,none⟩ (.int .i64 (p:Int))).setCell ⟨w.heap.size,1,none⟩ (.int .i64 (q:Int))).setCell ⟨w.heap.size+1,0,none⟩ (.int .i64 (q:Int))).setCell ⟨w.heap.size+1,1,none⟩ (.int .i64 (e:Int))) w.heap.size (.int .i64 (p:Int)) (.int .i64 (q:Int))) :=
   ((T0'.put _ _).off (by omega)).off (by omega)
  have U1:Hid (Bx ((((w3.setCell ⟨w.heap.size,0,none⟩ (.int .i64 (p:Int))).setCell ⟨w.heap.size,1,none⟩ (.int .i64 (q:Int))).setCell ⟨w.heap.size+1,0,none⟩ (.int .i64 (q:Int))).setCell ⟨w.heap.size+1,1,none⟩ (.int .i64 (e:Int))) (w.heap.size+1) (.int .i64 (q:Int)) (.int .i64 (e:Int))) :=
   ((T1'.off (by omega)).off (by omega)).put _ _
  clear T0 T1 T0' T1' HB3 hb3 c0 c1 f0 d0 d1 f1
  go_wp2_with fail
  exact bodyPost_ret (results_sp2 rfl rfl rfl U0.out U1.out) rfl ⟨rfl,HE.out⟩

set_option maxHeartbeats 4000000 in
set_option maxRecDepth 100000 in
theorem partsT {base : Nat} {w : World} {B : Nat} {N : List Nd} {Z : List Nat} {F : Fb} (h : FS base w B N Z F) {p q e : Nat} {x y : Tr} (hx : At N Z p q x) (hy : At N Z q (e - 1) y) (he : q < e) (a : Nat) :
  Calls Tryz.prog 126 #[.pointer (some ⟨B,0,none⟩),.agg #[.int .i64 (a:Int),.int .i64 (e:Int)]] w fun en w'=>en=.returned (.tuple #[.agg #[.int .i64 (p:Int),.int .i64 (q:Int)],.agg #[.int .i64 (q:Int),.int .i64 ((e - 1:Nat):Int)]])∧Below w.heap.size w w':=by
 have hlt:=h.lt
 have hle:=hy.le
 have hsm:=h.small
 have HF:Hid (FS base w B N Z F):=h
 have HX:Hid (At N Z p q x):=hx
 have HY:Hid (At N Z q (e - 1) y):=hy
 clear h hx hy
 obtain ⟨r,hr⟩:∃ r,e - 1=r:=⟨_,rfl⟩
 rw [hr] at hle HY ⊢
 have hwr:IntKind.i64.wrap ((e:Int) - 1)=(r:Int):=by rw [IntKind.wrap_i64];omega
 have hwr':(e:Int) - 1=(r:Int):=by omega
 clear hr
 have hsz:(((w.alloc (.cells #[.int .i64 (a:Int),.int .i64 (e:Int)] 123)).alloc (.cells #[.int .i64 0,.int .i64 0] 123)).alloc (.cells #[.int .i64 0,.int .i64 0] 123)).heap.size=w.heap.size+3:=by simp
 have HB0:Hid (Below w.heap.size w (((w.alloc (.cells #[.int .i64 (a:Int),.int .i64 (e:Int)] 123)).alloc (.cells #[.int .i64 0,.int .i64 0] 123)).alloc (.cells #[.int .i64 0,.int .i64 0] 123))):=(((Below.refl _ _).alloc (Nat.le_refl _) _).alloc (by simp) _).alloc (by simp;omega) _
 have R1:Hid (Bx (((w.alloc (.cells #[.int .i64 (a:Int),.int .i64 (e:Int)] 123)).alloc (.cells #[.int .i64 0,.int .i64 0] 123)).alloc (.cells #[.int .i64 0,.int .i64 0] 123)) (w.heap.size+1) (.int .i64 0) (.int .i64 0)):=by
  have:=(Bx.new (w.alloc (.cells #[.int .i64 (a:Int),.int .i64 (e:Int)] 123)) (.int .i64 0) (.int .i64 0)).stay ((Below.refl _ _).alloc (Nat.le_refl _) (.cells #[.int .i64 0,.int .i64 0] 123))
  rw [show (w.alloc (.cells #[.int .i64 (a:Int),.int .i64 (e:Int)] 123)).heap.size=w.heap.size+1 by simp] at this
  exact this
 have R2:Hid (Bx (((w.alloc (.cells #[.int .i64 (a:Int),.int .i64 (e:Int)] 123)).alloc (.cells #[.int .i64 0,.int .i64 0] 123)).alloc (.cells #[.int .i64 0,.int .i64 0] 123)) (w.heap.size+1+1) (.int .i64 0) (.int .i64 0)):=by
  have:=Bx.new ((w.alloc (.cells #[.int .i64 (a:Int),.int .i64 (e:Int)] 123)).alloc (.cells #[.int .i64 0,.int .i64 0] 123)) (.int .i64 0) (.int .i64 0)
  rw [show ((w.alloc (.cells #[.int .i64 (a:Int),.int .i64 (e:Int)] 123)).alloc (.cells #[.int .i64 0,.int .i64 0] 123)).heap.size=w.heap.size+1+1 by simp] at this
  exact this
 go_enter Tryz.func126,Tryz.ntmps126
 go_wp2_with fail
 generalize ((w.alloc (.cells #[.int .i64 (a:Int),.int .i64 (e:Int)] 123)).alloc (.cells #[.int .i64 0,.int .i64 0] 123)).alloc (.cells #[.int .i64 0,.int .i64 0] 123)=w0 at hsz HB0 R1 R2 ⊢
 refine (pairT (HF.out.stay HB0.out) HX.out HY.out).mono ?_
 rintro en w1 ⟨rfl,hb1⟩
 have hs1:=hb1.size
 have HB1:Below w.heap.size w w1:=HB0.out.trans (hb1.mono (by omega))
 have S1:=R1.out.stay hb1
 have S2:=R2.out.stay hb1
 obtain ⟨c0,c1,f0⟩:=S1.cells
 obtain ⟨d0,d1,f1⟩:=S2.cells
 have HE:Hid (Below w.heap.size w ((((w1.setCell ⟨w.heap.size+1,0,none⟩ (.int .i64 (p:Int))).setCell ⟨w.heap.size+1,1,none⟩ (.int .i64 (q:Int))).setCell ⟨w.heap.size+1+1,0,none⟩ (.int .i64 (q:Int))).setCell ⟨w.heap.size+1+1,1,none⟩ (.int .i64 (r:Int)))) :=
  below_put (below_put HB1 (by omega) _ _) (by omega) _ _
 have U0:Hid (Bx ((((w1.setCell ⟨w.heap.size+1,0,none⟩ (.int .i64 (p:Int))).setCell ⟨w.heap.size+1,1,none⟩ (.int .i64 (q:Int))).setCell ⟨w.heap.size+1+1,0,none⟩ (.int .i64 (q:Int))).setCell ⟨w.heap.size+1+1,1,none⟩ (.int .i64 (r:Int))) (w.heap.size+1) (.int .i64 (p:Int)) (.int .i64 (q:Int))) :=
  ((S1.put _ _).off (by omega)).off (by omega)
 have U1:Hid (Bx ((((w1.setCell ⟨w.heap.size+1,0,none⟩ (.int .i64 (p:Int))).setCell ⟨w.heap.size+1,1,none⟩ (.int .i64 (q:Int))).setCell ⟨w.heap.size+1+1,0,none⟩ (.int .i64 (q:Int))).setCell ⟨w.heap.size+1+1,1,none⟩ (.int .i64 (r:Int))) (w.heap.size+1+1) (.int .i64 (q:Int)) (.int .i64 (r:Int))) :=
  ((S2.off (by omega)).off (by omega)).put _ _
 have g1:=S1.lt
 have g2:=S2.lt
 clear hb1 S1 S2 HB1
 go_wp2_with fail
 exact bodyPost_ret (results_sp2 rfl rfl rfl U0.out U1.out) rfl ⟨rfl,HE.out⟩

set_option maxHeartbeats 4000000 in
set_option maxRecDepth 100000 in
theorem lastT {base : Nat} {w : World} {B : Nat} {N : List Nd} {Z : List Nat} {F : Fb} (h : FS base w B N Z F) {p q e : Nat} {x y : Tr} (hx : At N Z p q x) (hy : At N Z q e y) (he : e = N.length) :
  Calls Tryz.prog 87 #[.pointer (some ⟨B,0,none⟩)] w fun en w'=>en=.returned (.tuple #[.agg #[.int .i64 (p:Int),.int .i64 (q:Int)],.agg #[.int .i64 (q:Int),.int .i64 (e:Int)]])∧Below w.heap.size w w':=by
 have hlt:=h.lt
 have HF:Hid (FS base w B N Z F):=h
 have HX:Hid (At N Z p q x):=hx
 have HY:Hid (At N Z q e y):=hy
 obtain ⟨b0,_⟩:=h.cells
 rw [← he] at b0
 clear h hx hy he
 have hsz:((w.alloc (.cells #[.int .i64 0,.int .i64 0] 123)).alloc (.cells #[.int .i64 0,.int .i64 0] 123)).heap.size=w.heap.size+2:=by simp
 have HB0:Hid (Below w.heap.size w ((w.alloc (.cells #[.int .i64 0,.int .i64 0] 123)).alloc (.cells #[.int .i64 0,.int .i64 0] 123))):=((Below.refl _ _).alloc (Nat.le_refl _) _).alloc (by simp) _
 have R0:Hid (Bx ((w.alloc (.cells #[.int .i64 0,.int .i64 0] 123)).alloc (.cells #[.int .i64 0,.int .i64 0] 123)) w.heap.size (.int .i64 0) (.int .i64 0)):=(Bx.new w _ _).stay ((Below.refl _ _).alloc (Nat.le_refl _) _)
 have R1:Hid (Bx ((w.alloc (.cells #[.int .i64 0,.int .i64 0] 123)).alloc (.cells #[.int .i64 0,.int .i64 0] 123)) (w.heap.size+1) (.int .i64 0) (.int .i64 0)):=by
  have:=Bx.new (w.alloc (.cells #[.int .i64 0,.int .i64 0] 123)) (.int .i64 0) (.int .i64 0)
  rw [show (w.alloc (.cells #[.int .i64 0,.int .i64 0] 123)).heap.size=w.heap.size+1 by simp] at this
  exact this
 go_enter Tryz.func87,Tryz.ntmps87
 go_wp2_with fail
 generalize (w.alloc (.cells #[.int .i64 0,.int .i64 0] 123)).alloc (.cells #[.int .i64 0,.int .i64 0] 123)=w0 at hsz HB0 R0 R1 ⊢
 refine (pairT (HF.out.stay HB0.out) HX.out HY.out).mono ?_
 rintro en w1 ⟨rfl,hb1⟩
 have hs1:=hb1.size
 have HB1:Below w.heap.size w w1:=HB0.out.trans (hb1.mono (by omega))
 have S1:=R0.out.stay hb1
 have S2:=R1.out.stay hb1
 obtain ⟨c0,c1,f0⟩:=S1.cells
 obtain ⟨d0,d1,f1⟩:=S2.cells
 have HE:Hid (Below w.heap.size w ((((w1.setCell ⟨w.heap.size,0,none⟩ (.int .i64 (p:Int))).setCell ⟨w.heap.size,1,none⟩ (.int .i64 (q:Int))).setCell ⟨w.heap.size+1,0,none⟩ (.int .i64 (q:Int))).setCell ⟨w.heap.size+1,1,none⟩ (.int .i64 (e:Int)))) :=
  below_put (below_put HB1 (by omega) _ _) (by omega) _ _
 have U0:Hid (Bx ((((w1.setCell ⟨w.heap.size,0,none⟩ (.int .i64 (p:Int))).setCell ⟨w.heap.size,1,none⟩ (.int .i64 (q:Int))).setCell ⟨w.heap.size+1,0,none⟩ (.int .i64 (q:Int))).setCell ⟨w.heap.size+1,1,none⟩ (.int .i64 (e:Int))) w.heap.size (.int .i64 (p:Int)) (.int .i64 (q:Int))) :=
  ((S1.put _ _).off (by omega)).off (by omega)
 have U1:Hid (Bx ((((w1.setCell ⟨w.heap.size,0,none⟩ (.int .i64 (p:Int))).setCell ⟨w.heap.size,1,none⟩ (.int .i64 (q:Int))).setCell ⟨w.heap.size+1,0,none⟩ (.int .i64 (q:Int))).setCell ⟨w.heap.size+1,1,none⟩ (.int .i64 (e:Int))) (w.heap.size+1) (.int .i64 (q:Int)) (.int .i64 (e:Int))) :=
  ((S2.off (by omega)).off (by omega)).put _ _
 have g1:=S1.lt
 have g2:=S2.lt
 clear hb1 S1 S2 HB1
 go_wp2_with fail
 exact bodyPost_ret (results_sp2 rfl rfl rfl U0.out U1.out) rfl ⟨rfl,HE.out⟩
end Go.Proofs.YtfdhaknecjcjoaaGreatDoor

namespace Go.Proofs.YtfdhaknecjcjoaaGreatDoor
open Go Go.RowKit
set_option linter.unusedVariables false

/-- What Delete leaves of a row of cells. -/
theorem deleted_row {size : Nat} (hs : 0 < size) {cur : Array Value} {n cap i j : Nat} {xs : List Value} (hij : i ≤ j) (hj : j ≤ n) (hn : n ≤ cap) (hc : cur.size = cap * size) (ht : cur.toList.take (n * size) = xs) (zs : List Value) (hz : zs.length = (j - i) * size) :
  (setL (setL cur (i * size) (xs.drop (j * size))) ((i + (n - j)) * size) zs).size = cap * size ∧
  (setL (setL cur (i * size) (xs.drop (j * size))) ((i+(n - j)) * size) zs).toList.take ((i+(n - j)) * size)=xs.take (i * size) ++ xs.drop (j * size):=by
 have hxl:xs.length=n * size:=by rw [← ht,List.length_take,Array.length_toList,hc];exact Nat.min_eq_left (Nat.mul_le_mul_right _ hn)
 have hdl:(xs.drop (j * size)).length=(n - j) * size:=by rw [List.length_drop,hxl,Nat.sub_mul]
 have m1:i * size+(n - j) * size=(i+(n - j)) * size:=by rw [Nat.add_mul]
 have m2:(i+(n - j)) * size+(j - i) * size=n * size:=by rw [← Nat.add_mul];congr 1;omega
 have m3:n * size≤cap * size:=Nat.mul_le_mul_right _ hn
 have m4:i * size≤j * size:=Nat.mul_le_mul_right _ hij
 have m5:j * size≤n * size:=Nat.mul_le_mul_right _ hj
 have s1:(setL cur (i * size) (xs.drop (j * size))).size=cap * size:=by rw [setL_size,hc]
 refine ⟨by rw [setL_size,s1],?_⟩
 apply List.ext_getElem?
 intro m
 rw [List.getElem?_take,List.getElem?_append]
 by_cases hm : m < (i + (n - j)) * size
 ·rw [if_pos hm,Array.getElem?_toList,setL_get _ _ _ _ (by rw [s1,hz];omega),if_neg (by omega),setL_get _ _ _ _ (by rw [hc,hdl];omega),hdl]
  by_cases h1 : m < i * size
  ·rw [if_neg (by omega),if_pos (by rw [List.length_take,hxl];omega),List.getElem?_take,if_pos h1,← ht,List.getElem?_take,if_pos (by omega),Array.getElem?_toList]
  ·rw [if_pos (by omega),if_neg (by rw [List.length_take,hxl];omega),List.length_take,hxl,Nat.min_eq_left (by omega)]
 ·rw [if_neg hm,if_neg (by rw [List.length_take,hxl];omega)]
  rw [List.getElem?_eq_none]
  rw [hdl,List.length_take,hxl,Nat.min_eq_left (by omega)]
  omega

theorem ndC_cut (N:List Nd) (i j:Nat) (hi:i≤N.length) (hj:j≤N.length):ndC (N.take i ++ N.drop j)=(ndC N).take (i * 2) ++ (ndC N).drop (j * 2):=by
 have h1:ndC N=ndC (N.take i) ++ ndC (N.drop i):=by rw [← ndC_append,List.take_append_drop]
 have h2:ndC N=ndC (N.take j) ++ ndC (N.drop j):=by rw [← ndC_append,List.take_append_drop]
 have l1:(ndC (N.take i)).length=i * 2:=by rw [ndC_length,List.length_take,Nat.min_eq_left hi]
 have l2:(ndC (N.take j)).length=j * 2:=by rw [ndC_length,List.length_take,Nat.min_eq_left hj]
 rw [ndC_append]
 congr 1
 ·rw [h1,← l1,List.take_left]
 ·rw [h2,← l2,List.drop_left]
theorem inC_cut (N:List Nat) (i j:Nat) (hi:i≤N.length) (hj:j≤N.length):inC (N.take i ++ N.drop j)=(inC N).take (i * 1) ++ (inC N).drop (j * 1):=by
 rw [inC_append,Nat.mul_one,Nat.mul_one]
 simp [inC]
theorem inC_one (N:List Nat):∀ u ∈ inC N,u.oneCell'=true:=fun u hu=>by
 simp only [inC,List.mem_map] at hu
 obtain ⟨n,_,rfl⟩:=hu
 rfl
theorem zero_one2 (n:Nat):∀ u ∈ (Builtin.zeroCells #[.int .i64 0,.int .u8 0] n).toList,u.oneCell'=true:=fun u hu=>by
 simp only [Builtin.zeroCells,Array.toList_map,List.mem_map] at hu
 obtain ⟨i,_,rfl⟩:=hu
 have h2:(#[Value.int .i64 0,Value.int .u8 0]:Array Value).size=2:=rfl
 rw [h2]
 have:i % 2=0∨i % 2=1:=by omega
 rcases this with h | h <;> rw [h] <;> rfl
theorem zero_one1 (n:Nat):∀ u ∈ (Builtin.zeroCells #[.int .i64 0] n).toList,u.oneCell'=true:=fun u hu=>by
 simp only [Builtin.zeroCells,Array.toList_map,List.mem_map] at hu
 obtain ⟨i,_,rfl⟩:=hu
 have h2:(#[Value.int .i64 0]:Array Value).size=1:=rfl
 rw [h2,Nat.mod_one]
 rfl

theorem delN_eq (g cap i n : Nat) (w : World) (hj : i ≤ n) (hN : n ≤ 1000000) (hc : cap ≤ 9223372036854775807) (hnc : n ≤ cap) :
  Calls Tryz.prog 114 #[.slice (some ⟨g,0,none⟩) n cap,.int .i64 (i:Int),.int .i64 (i:Int)] w fun e w'=>e=.returned (.slice (some ⟨g,0,none⟩) n cap)∧w'=w:=by
 by_cases hiN : n = i
 ·subst hiN
  go_enter Tryz.func114,Tryz.ntmps114
  go_wp2_with fail
  go_ret
  exact ⟨rfl,rfl⟩
 ·go_enter Tryz.func114,Tryz.ntmps114
  go_wp2_with fail
  go_ret
  exact ⟨rfl,rfl⟩

set_option maxHeartbeats 4000000 in
set_option maxRecDepth 100000 in
theorem delN (base g cap i j:Nat) (N:List Nd) (w:World) (h:w.ownsRow base 51 2 (.slice (some ⟨g,0,none⟩) N.length cap) N.length (ndC N)) (hij:i≤j) (hj:j≤N.length) (hN:N.length≤1000000) :
  Calls Tryz.prog 114 #[.slice (some ⟨g,0,none⟩) N.length cap,.int .i64 (i:Int),.int .i64 (j:Int)] w fun e w'=>e=.returned (.slice (some ⟨g,0,none⟩) (i+(N.length - j)) cap)∧w'.ownsRow base 51 2 (.slice (some ⟨g,0,none⟩) (i+(N.length - j)) cap) (i+(N.length - j)) (ndC (N.take i ++ N.drop j))∧w.grownBy w' (some g):=by
 obtain ⟨hxl,hh⟩:=id h
 rcases hh with ⟨hh,_⟩ | ⟨g',cap',cur,e,hb,hg,hnc,hcm,hcs,htk⟩
 ·cases hh
 simp only [Value.slice.injEq,Option.some.injEq,Addr.mk.injEq] at e
 obtain ⟨⟨rfl,_⟩,_,rfl⟩:=e
 have hcm':cap≤9223372036854775807:=by unfold maxLen at hcm;exact hcm
 by_cases heq : i = j
 ·subst heq
  refine (delN_eq g cap i N.length w hj hN hcm' hnc).mono ?_
  rintro e w' ⟨rfl,rfl⟩
  rw [List.take_append_drop,show i+(N.length - i)=N.length by omega]
  exact ⟨rfl,h,⟨rfl,rfl,rfl,Nat.le_refl _,fun _ _ _=>rfl⟩⟩
 ·have hlt:i<j:=by omega
  have hcell:∀ t,t<cap * 2→(w.cell? ⟨g,t,none⟩).isSome=true∧w.frozen? ⟨g,t,none⟩=false:=fun t ht=>⟨by simp [World.cell?,hg,hcs,ht],by simp [World.frozen?,hg]⟩
  have hat:∀ t u,(ndC N)[t]?=some u→w.cell? ⟨g,t,none⟩=some u:=fun t u hu=>by
   have:=h.cells (g:=g) rfl t u hu
   rw [Addr.add_lit] at this
   simpa using this
  obtain ⟨i0,hi0,hz0,hz1,hz2⟩:=info_parts Tryz.info_node
  have hv:∀ w,(zeroValue 51).run Tryz.prog w=.ok (.agg #[.int .i64 0,.int .u8 0]) w:=fun w=>by simp [zeroValue,typeInfo,hi0,hz0]
  obtain ⟨zs,hzs⟩:∃ zs,(Builtin.zeroCells #[.int .i64 0,.int .u8 0] (j - i)).toList=zs:=⟨_,rfl⟩
  have hzl:zs.length=(j - i) * 2:=by rw [← hzs];simp [Builtin.zeroCells]
  have hz1c:∀ u ∈ zs,u.oneCell'=true:=by rw [← hzs];exact zero_one2 _
  have hrow:=deleted_row (size:=2) (by decide) hij hj hnc hcs htk zs hzl
  have hEN:ndC (N.take i ++ N.drop j)=(ndC N).take (i * 2) ++ (ndC N).drop (j * 2):=ndC_cut N i j (by omega) hj
  rw [hEN]
  obtain ⟨xs,hxs⟩:∃ xs,ndC N=xs:=⟨_,rfl⟩
  have hx1:∀ u ∈ xs,u.oneCell'=true:=by rw [← hxs];exact ndC_one N
  rw [hxs] at hxl htk hat hrow ⊢
  obtain ⟨n,hn⟩:∃ n,N.length=n:=⟨_,rfl⟩
  rw [hn] at hj hN hnc hxl htk hrow ⊢
  obtain ⟨m,hm⟩:∃ m,i+(n - j)=m:=⟨_,rfl⟩
  rw [hm] at hrow ⊢
  clear h hxs hn hEN N
  obtain ⟨news,hnews⟩:∃ news,xs.drop (j * 2)=news:=⟨_,rfl⟩
  have hnl:news.length=(n - j) * 2:=by rw [← hnews,List.length_drop,hxl,Nat.sub_mul]
  have hn1:Hid (∀ u ∈ news,u.oneCell'=true):=fun u hu=>by rw [← hnews] at hu;exact hx1 u (List.mem_of_mem_drop hu)
  obtain ⟨A,hA,hsrc⟩:∃ A:Addr,(if cap=j then some (⟨g,0,none⟩:Addr) else some ⟨g,j * 2,none⟩)=some A∧Hid (∀ t u,news[t]?=some u→w.drew.cell? (A.add t)=some u):=by
   by_cases hcj : cap = j
   ·refine ⟨⟨g,0,none⟩,by simp [hcj],fun t u hu=>?_⟩
    have h0:news.length=0:=by rw [hnl];omega
    rw [List.length_eq_zero_iff.1 h0] at hu
    simp at hu
   ·refine ⟨⟨g,j * 2,none⟩,by simp [hcj],fun t u hu=>?_⟩
    rw [Addr.add_lit]
    exact hat _ u (by rw [← hu,← hnews,List.getElem?_drop])
  rw [hnews] at hrow ⊢
  have hsp:Hid (∀ t,t<news.length→(w.drew.cell? ⟨g,0+i * 2+t,none⟩).isSome=true∧w.drew.frozen? ⟨g,0+i * 2+t,none⟩=false):=fun t ht=>by
   rw [hnl] at ht
   exact hcell _ (by omega)
  have hW0:w.drew.heap[g]?=some (.cells cur 51 (0,0)):=hg
  have hW1:=setCells_blk news w.drew g (0+i * 2) cur 51 hW0
  have hG1:w.grownBy (w.drew.setCells g (0+i * 2) news) (some g):=grown_trans (b:=w.drew) ⟨rfl,rfl,rfl,Nat.le_refl _,fun _ _ _=>rfl⟩ (setCells_grown news w.drew g _)
  rw [Nat.zero_add] at hW1
  obtain ⟨W1,hWE⟩:∃ W1,w.drew.setCells g (0+i * 2) news=W1:=⟨_,rfl⟩
  have HWE:Hid (w.drew.setCells g (0+i * 2) news=W1):=hWE
  rw [hWE] at hG1
  rw [Nat.zero_add] at hWE
  rw [hWE] at hW1
  have hmn:n - m=j - i:=by omega
  have hcl:∀ ty,(Builtin.clear_ #[22] ty #[.slice (some ⟨g,m * 2,none⟩) (n - m) (cap - m)]).run Tryz.prog W1=.ok (.tuple #[]) (W1.setCells g (m * 2) zs):=fun ty =>
   run_clear_any W1 22 51 ty (.agg #[.int .i64 0,.int .u8 0]) Tryz.underlying22 hv g (m * 2) (n - m) (cap - m) (by omega) zs (by rw [hmn];exact hzs) hz1c
    (fun t ht=>by rw [hzl] at ht;simp only [World.cell?,hW1];simp [setL_size,hcs];omega) (fun t ht=>by simp [World.frozen?,hW1])
  have HOUT:Hid ((W1.setCells g (m * 2) zs).ownsRow base 51 2 (.slice (some ⟨g,0,none⟩) m cap) m (xs.take (i * 2) ++ news)∧w.grownBy (W1.setCells g (m * 2) zs) (some g)):=by
   refine ⟨⟨?_,.inr ⟨g,cap,_,rfl,hb,setCells_blk zs W1 g (m * 2) _ _ hW1,by omega,hcm,hrow.1,hrow.2⟩⟩,grown_trans hG1 (setCells_grown zs W1 g _)⟩
   rw [List.length_append,List.length_take,hxl,hnl,Nat.min_eq_left (Nat.mul_le_mul_right _ (by omega)),← Nat.add_mul,hm]
  have hmn2:m≤n:=by omega
  have hmc2:m≤cap:=by omega
  have hmc:¬ cap=m:=by omega
  have hic:i≤cap:=by omega
  have hjc:j≤cap:=by omega
  have hnl2:Hid (news.length=(n - j) * 2):=hnl
  have HML:Hid (i+(n - j)=m):=hm
  have HRM:Hid (i+(n - j)≤cap):=by show _≤_;omega
  clear hW1 hG1 hWE hrow hcell hat hzs hzl hz1c htk hcs hg hW0 hx1 hxl hnl hnews hb hcm hmn hv hm
  go_enter Tryz.func114,Tryz.ntmps114
  go_wp2_with fail
  go_region_law (refine step_append_room rfl (.tmp 22) (.tmp 25) 22 rfl 51 i0 2 Tryz.underlying22 hi0 hz1 g 0 i cap rfl A (n - j) (cap - j) news rfl hnl2.out hsrc.out hn1.out HRM.out hsp.out ?_;rw [HWE.out,HML.out])
  go_wp2
  go_ret
  exact ⟨rfl,HOUT.out.1,HOUT.out.2⟩
theorem delZ_eq (g cap i n : Nat) (w : World) (hj : i ≤ n) (hN : n ≤ 1000000) (hc : cap ≤ 9223372036854775807) (hnc : n ≤ cap) :
  Calls Tryz.prog 115 #[.slice (some ⟨g,0,none⟩) n cap,.int .i64 (i:Int),.int .i64 (i:Int)] w fun e w'=>e=.returned (.slice (some ⟨g,0,none⟩) n cap)∧w'=w:=by
 by_cases hiN : n = i
 ·subst hiN
  go_enter Tryz.func115,Tryz.ntmps115
  go_wp2_with fail
  go_ret
  exact ⟨rfl,rfl⟩
 ·go_enter Tryz.func115,Tryz.ntmps115
  go_wp2_with fail
  go_ret
  exact ⟨rfl,rfl⟩

set_option maxHeartbeats 4000000 in
set_option maxRecDepth 100000 in
theorem delZ (base g cap i j:Nat) (N:List Nat) (w:World) (h:w.ownsRow base 3 1 (.slice (some ⟨g,0,none⟩) N.length cap) N.length (inC N)) (hij:i≤j) (hj:j≤N.length) (hN:N.length≤1000000) :
  Calls Tryz.prog 115 #[.slice (some ⟨g,0,none⟩) N.length cap,.int .i64 (i:Int),.int .i64 (j:Int)] w fun e w'=>e=.returned (.slice (some ⟨g,0,none⟩) (i+(N.length - j)) cap)∧w'.ownsRow base 3 1 (.slice (some ⟨g,0,none⟩) (i+(N.length - j)) cap) (i+(N.length - j)) (inC (N.take i ++ N.drop j))∧w.grownBy w' (some g):=by
 obtain ⟨hxl,hh⟩:=id h
 rcases hh with ⟨hh,_⟩ | ⟨g',cap',cur,e,hb,hg,hnc,hcm,hcs,htk⟩
 ·cases hh
 simp only [Value.slice.injEq,Option.some.injEq,Addr.mk.injEq] at e
 obtain ⟨⟨rfl,_⟩,_,rfl⟩:=e
 have hcm':cap≤9223372036854775807:=by unfold maxLen at hcm;exact hcm
 by_cases heq : i = j
 ·subst heq
  refine (delZ_eq g cap i N.length w hj hN hcm' hnc).mono ?_
  rintro e w' ⟨rfl,rfl⟩
  rw [List.take_append_drop,show i+(N.length - i)=N.length by omega]
  exact ⟨rfl,h,⟨rfl,rfl,rfl,Nat.le_refl _,fun _ _ _=>rfl⟩⟩
 ·have hlt:i<j:=by omega
  have hcell:∀ t,t<cap * 1→(w.cell? ⟨g,t,none⟩).isSome=true∧w.frozen? ⟨g,t,none⟩=false:=fun t ht=>⟨by rw [Nat.mul_one] at ht;simp [World.cell?,hg,hcs,ht],by simp [World.frozen?,hg]⟩
  have hat:∀ t u,(inC N)[t]?=some u→w.cell? ⟨g,t,none⟩=some u:=fun t u hu=>by
   have:=h.cells (g:=g) rfl t u hu
   rw [Addr.add_lit] at this
   simpa using this
  obtain ⟨i0,hi0,hz0,hz1,hz2⟩:=info_parts Tryz.info_int
  have hv:∀ w,(zeroValue 3).run Tryz.prog w=.ok (.int .i64 0) w:=fun w=>by simp [zeroValue,typeInfo,hi0,hz0]
  obtain ⟨zs,hzs⟩:∃ zs,(Builtin.zeroCells #[.int .i64 0] (j - i)).toList=zs:=⟨_,rfl⟩
  have hzl:zs.length=(j - i) * 1:=by rw [← hzs];simp [Builtin.zeroCells]
  have hz1c:∀ u ∈ zs,u.oneCell'=true:=by rw [← hzs];exact zero_one1 _
  have hrow:=deleted_row (size:=1) (by decide) hij hj hnc hcs htk zs hzl
  have hEN:inC (N.take i ++ N.drop j)=(inC N).take (i * 1) ++ (inC N).drop (j * 1):=inC_cut N i j (by omega) hj
  rw [hEN]
  obtain ⟨xs,hxs⟩:∃ xs,inC N=xs:=⟨_,rfl⟩
  have hx1:∀ u ∈ xs,u.oneCell'=true:=by rw [← hxs];exact inC_one N
  rw [hxs] at hxl htk hat hrow ⊢
  obtain ⟨n,hn⟩:∃ n,N.length=n:=⟨_,rfl⟩
  rw [hn] at hj hN hnc hxl htk hrow ⊢
  obtain ⟨m,hm⟩:∃ m,i+(n - j)=m:=⟨_,rfl⟩
  rw [hm] at hrow ⊢
  clear h hxs hn hEN N
  obtain ⟨news,hnews⟩:∃ news,xs.drop (j * 1)=news:=⟨_,rfl⟩
  have hnl:news.length=(n - j) * 1:=by rw [← hnews,List.length_drop,hxl,Nat.sub_mul]
  have hn1:Hid (∀ u ∈ news,u.oneCell'=true):=fun u hu=>by rw [← hnews] at hu;exact hx1 u (List.mem_of_mem_drop hu)
  obtain ⟨A,hA,hsrc⟩:∃ A:Addr,(if cap=j then some (⟨g,0,none⟩:Addr) else some ⟨g,j * 1,none⟩)=some A∧Hid (∀ t u,news[t]?=some u→w.drew.cell? (A.add t)=some u):=by
   by_cases hcj : cap = j
   ·refine ⟨⟨g,0,none⟩,by simp [hcj],fun t u hu=>?_⟩
    have h0:news.length=0:=by rw [hnl];omega
    rw [List.length_eq_zero_iff.1 h0] at hu
    simp at hu
   ·refine ⟨⟨g,j * 1,none⟩,by simp [hcj],fun t u hu=>?_⟩
    rw [Addr.add_lit]
    exact hat _ u (by rw [← hu,← hnews,List.getElem?_drop])
  rw [hnews] at hrow ⊢
  have hsp:Hid (∀ t,t<news.length→(w.drew.cell? ⟨g,0+i * 1+t,none⟩).isSome=true∧w.drew.frozen? ⟨g,0+i * 1+t,none⟩=false):=fun t ht=>by
   rw [hnl] at ht
   exact hcell _ (by omega)
  have hW0:w.drew.heap[g]?=some (.cells cur 3 (0,0)):=hg
  have hW1:=setCells_blk news w.drew g (0+i * 1) cur 3 hW0
  have hG1:w.grownBy (w.drew.setCells g (0+i * 1) news) (some g):=grown_trans (b:=w.drew) ⟨rfl,rfl,rfl,Nat.le_refl _,fun _ _ _=>rfl⟩ (setCells_grown news w.drew g _)
  rw [Nat.zero_add] at hW1
  obtain ⟨W1,hWE⟩:∃ W1,w.drew.setCells g (0+i * 1) news=W1:=⟨_,rfl⟩
  have HWE:Hid (w.drew.setCells g (0+i * 1) news=W1):=hWE
  rw [hWE] at hG1
  rw [Nat.zero_add] at hWE
  rw [hWE] at hW1
  have hmn:n - m=j - i:=by omega
  have hcl:∀ ty,(Builtin.clear_ #[66] ty #[.slice (some ⟨g,m * 1,none⟩) (n - m) (cap - m)]).run Tryz.prog W1=.ok (.tuple #[]) (W1.setCells g (m * 1) zs):=fun ty =>
   run_clear_any W1 66 3 ty (.int .i64 0) Tryz.underlying66 hv g (m * 1) (n - m) (cap - m) (by omega) zs (by rw [hmn];exact hzs) hz1c
    (fun t ht=>by rw [hzl] at ht;simp only [World.cell?,hW1];simp [setL_size,hcs];omega) (fun t ht=>by simp [World.frozen?,hW1])
  have HOUT:Hid ((W1.setCells g (m * 1) zs).ownsRow base 3 1 (.slice (some ⟨g,0,none⟩) m cap) m (xs.take (i * 1) ++ news)∧w.grownBy (W1.setCells g (m * 1) zs) (some g)):=by
   refine ⟨⟨?_,.inr ⟨g,cap,_,rfl,hb,setCells_blk zs W1 g (m * 1) _ _ hW1,by omega,hcm,hrow.1,hrow.2⟩⟩,grown_trans hG1 (setCells_grown zs W1 g _)⟩
   rw [List.length_append,List.length_take,hxl,hnl,Nat.min_eq_left (Nat.mul_le_mul_right _ (by omega)),← Nat.add_mul,hm]
  simp only [Nat.mul_one] at hA hcl HOUT
  have hmn2:m≤n:=by omega
  have hmc2:m≤cap:=by omega
  have hmc:¬ cap=m:=by omega
  have hic:i≤cap:=by omega
  have hjc:j≤cap:=by omega
  have hnl2:Hid (news.length=(n - j) * 1):=hnl
  have HML:Hid (i+(n - j)=m):=hm
  have HRM:Hid (i+(n - j)≤cap):=by show _≤_;omega
  clear hW1 hG1 hWE hrow hcell hat hzs hzl hz1c htk hcs hg hW0 hx1 hxl hnl hnews hb hcm hmn hv hm
  go_enter Tryz.func115,Tryz.ntmps115
  go_wp2_with fail
  go_region_law (refine step_append_room rfl (.tmp 22) (.tmp 25) 66 rfl 3 i0 1 Tryz.underlying66 hi0 hz1 g 0 i cap rfl A (n - j) (cap - j) news rfl hnl2.out hsrc.out hn1.out HRM.out hsp.out ?_;rw [HWE.out,HML.out])
  go_wp2
  go_ret
  exact ⟨rfl,by rw [Nat.mul_one];exact HOUT.out.1,HOUT.out.2⟩
end Go.Proofs.YtfdhaknecjcjoaaGreatDoor
