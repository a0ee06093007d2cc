/- The program's forms: put, repeat, drop. -/
import Derived.Test.YtfdhaknecjcjoaaGreatDoorPL
import Derived.Deep.DeepCutAuto
namespace Go.Proofs.YtfdhaknecjcjoaaGreatDoor
open Go Go.RowKit
set_option linter.unusedVariables false

theorem own_ty2 {w:World} {base:Nat} {e:TypeId} {size n:Nat} {v:Value} {xs:List Value} (h:w.ownsRow base e size v n xs) (b:Nat) (hb:v.ownBlock=some b):∃ cur,w.heap[b]?=some (.cells cur e (0,0)):=by
 obtain ⟨_,h2⟩:=h
 rcases h2 with ⟨h2,_⟩ | ⟨g,cap,cur,e1,r,r2,r3⟩
 ·rw [h2] at hb;simp [Value.ownBlock] at hb
 ·rw [e1] at hb;simp only [Value.ownBlock,Option.some.injEq] at hb;subst hb;exact ⟨cur,r2⟩
theorem own_set_ne {w:World} {base:Nat} {e:TypeId} {size n:Nat} {v:Value} {xs:List Value} (h:w.ownsRow base e size v n xs) {b i:Nat} (u:Value) (hb:v.ownBlock≠some b):(w.setCell ⟨b,i,none⟩ u).ownsRow base e size v n xs:=by
 obtain ⟨a,h2⟩:=id h
 refine ⟨a,?_⟩
 rcases h2 with h2 | ⟨g,cap,cur,e1,r,r2,r3⟩
 ·exact .inl h2
 ·subst e1
  exact .inr ⟨g,cap,cur,rfl,r,(Below.heap_setCell _ _ _ _ (by show g≠b;intro e;exact hb (by rw [← e];rfl))).trans r2,r3⟩
/-- The forms' block and rows, whatever their lengths. -/
structure FR (base : Nat) (w : World) (B : Nat) (N : List Nd) (Z : List Nat) (F : Fb) : Prop where
 blk:w.heap[B]?=some (.cells #[.slice (some ⟨F.nb,0,none⟩) N.length F.nc,.slice (some ⟨F.sb,0,none⟩) Z.length F.sc] 68 (0,0))
 nod:w.ownsRow base 51 2 (.slice (some ⟨F.nb,0,none⟩) N.length F.nc) N.length (ndC N)
 siz:w.ownsRow base 3 1 (.slice (some ⟨F.sb,0,none⟩) Z.length F.sc) Z.length (inC Z)
 from_ : base ≤ B
theorem FS.raw {base:Nat} {w:World} {B:Nat} {N:List Nd} {Z:List Nat} {F:Fb} (h:FS base w B N Z F):FR base w B N Z F:=⟨h.blk,h.nod,h.siz,h.from_⟩
theorem FR.full {base:Nat} {w:World} {B:Nat} {N:List Nd} {Z:List Nat} {F:Fb} (h:FR base w B N Z F) (h1:Z.length=N.length) (h2:N.length≤100000):FS base w B N Z F:=⟨h.blk,h.nod,h.siz,h.from_,h1,h2⟩
theorem FR.lt {base:Nat} {w:World} {B:Nat} {N:List Nd} {Z:List Nat} {F:Fb} (h:FR base w B N Z F):B<w.heap.size:=(Array.getElem?_eq_some_iff.1 h.blk).1
theorem FR.stay {base : Nat} {w w' : World} {B : Nat} {N : List Nd} {Z : List Nat} {F : Fb} (h : FR base w B N Z F) (hb : Below w.heap.size w w') : FR base w' B N Z F :=
 ⟨(hb.block B h.lt).trans h.blk,own_below h.nod hb,own_below h.siz hb,h.from_⟩
theorem FR.cells {base : Nat} {w : World} {B : Nat} {N : List Nd} {Z : List Nat} {F : Fb} (h : FR base w B N Z F) :
  w.cell? ⟨B,0,none⟩=some (.slice (some ⟨F.nb,0,none⟩) N.length F.nc)∧w.cell? ⟨B,1,none⟩=some (.slice (some ⟨F.sb,0,none⟩) Z.length F.sc)∧∀ i,w.frozen? ⟨B,i,none⟩=false:=by
 have hb:=h.blk
 refine ⟨?_,?_,fun i=>?_⟩
 ·simp [World.cell?,hb]
 ·simp [World.cell?,hb]
 ·simp [World.frozen?,hb]
theorem FR.lts {base:Nat} {w:World} {B:Nat} {N:List Nd} {Z:List Nat} {F:Fb} (h:FR base w B N Z F):F.nb<w.heap.size∧F.sb<w.heap.size∧base≤F.nb∧base≤F.sb :=
 ⟨(h.nod.lt F.nb rfl).2,(h.siz.lt F.sb rfl).2,(h.nod.lt F.nb rfl).1,(h.siz.lt F.sb rfl).1⟩
theorem FR.ne {base:Nat} {w:World} {B:Nat} {N:List Nd} {Z:List Nat} {F:Fb} (h:FR base w B N Z F):B≠F.nb∧B≠F.sb∧F.nb≠F.sb:=by
 obtain ⟨c1,h1⟩:=own_ty2 h.nod F.nb rfl
 obtain ⟨c2,h2⟩:=own_ty2 h.siz F.sb rfl
 have h0:=h.blk
 refine ⟨fun e=>?_,fun e=>?_,fun e=>?_⟩
 ·rw [e,h1] at h0;simp at h0
 ·rw [e,h2] at h0;simp at h0
 ·rw [e,h2] at h1;simp at h1
/-- The nodes' row was written or made anew, and the block tells so. -/
theorem FR.nodes {base:Nat} {w w2:World} {B:Nat} {N N':List Nd} {Z:List Nat} {F:Fb} (h:FR base w B N Z F) {g c:Nat} (hg:w.grownBy w2 (some F.nb)) (ho:w2.ownsRow base 51 2 (.slice (some ⟨g,0,none⟩) N'.length c) N'.length (ndC N')) (hn:g=F.nb∨w.heap.size≤g) :
  FR base (w2.setCell ⟨B,0,none⟩ (.slice (some ⟨g,0,none⟩) N'.length c)) B N' Z ⟨g,c,F.sb,F.sc⟩∧FG w (w2.setCell ⟨B,0,none⟩ (.slice (some ⟨g,0,none⟩) N'.length c)) B F ⟨g,c,F.sb,F.sc⟩:=by
 obtain ⟨n1,n2,n3⟩:=h.ne
 obtain ⟨l1,l2,l3,l4⟩:=h.lts
 have hlt:=h.lt
 have hgs:=hg.size
 have hb2:w2.heap[B]?=some (.cells #[.slice (some ⟨F.nb,0,none⟩) N.length F.nc,.slice (some ⟨F.sb,0,none⟩) Z.length F.sc] 68 (0,0)) :=
  (hg.block B hlt (fun e=>n1 (by simpa using e))).trans h.blk
 have hs2:w2.ownsRow base 3 1 (.slice (some ⟨F.sb,0,none⟩) Z.length F.sc) Z.length (inC Z):=h.siz.kept hg (.inr (fun e=>n3 (by simpa [Value.ownBlock] using e.symm)))
 have hbw:Below 0 w2 (w2.setCell ⟨B,0,none⟩ (.slice (some ⟨g,0,none⟩) N'.length c)):=(Below.refl _ _).setCell (p:=⟨B,0,none⟩) (Nat.zero_le _) _
 refine ⟨⟨blk_set2 hb2 _,own_set_ne ho _ ?_,own_set_ne hs2 _ ?_,h.from_⟩,⟨hbw.os.trans hg.os,hbw.tape.trans hg.tape,hbw.output.trans hg.output,Nat.le_trans hg.size hbw.size,fun j hj h1 h2 h3=>?_,hn,.inl rfl⟩⟩
 ·intro e
  have e:g=B:=by simpa [Value.ownBlock] using e
  omega
 ·intro e
  have e:F.sb=B:=by simpa [Value.ownBlock] using e
  omega
 ·exact (Below.heap_setCell _ _ _ _ h1).trans (hg.block j hj (fun e=>h2 (by simpa using e)))
theorem FR.sizes {base:Nat} {w w2:World} {B:Nat} {N:List Nd} {Z Z':List Nat} {F:Fb} (h:FR base w B N Z F) {g c:Nat} (hg:w.grownBy w2 (some F.sb)) (ho:w2.ownsRow base 3 1 (.slice (some ⟨g,0,none⟩) Z'.length c) Z'.length (inC Z')) (hn:g=F.sb∨w.heap.size≤g) :
  FR base (w2.setCell ⟨B,1,none⟩ (.slice (some ⟨g,0,none⟩) Z'.length c)) B N Z' ⟨F.nb,F.nc,g,c⟩∧FG w (w2.setCell ⟨B,1,none⟩ (.slice (some ⟨g,0,none⟩) Z'.length c)) B F ⟨F.nb,F.nc,g,c⟩:=by
 obtain ⟨n1,n2,n3⟩:=h.ne
 obtain ⟨l1,l2,l3,l4⟩:=h.lts
 have hlt:=h.lt
 have hgs:=hg.size
 have hb2:w2.heap[B]?=some (.cells #[.slice (some ⟨F.nb,0,none⟩) N.length F.nc,.slice (some ⟨F.sb,0,none⟩) Z.length F.sc] 68 (0,0)) :=
  (hg.block B hlt (fun e=>n2 (by simpa using e))).trans h.blk
 have hs2:w2.ownsRow base 51 2 (.slice (some ⟨F.nb,0,none⟩) N.length F.nc) N.length (ndC N):=h.nod.kept hg (.inr (fun e=>n3 (by simpa [Value.ownBlock] using e)))
 have hbw:Below 0 w2 (w2.setCell ⟨B,1,none⟩ (.slice (some ⟨g,0,none⟩) Z'.length c)):=(Below.refl _ _).setCell (p:=⟨B,1,none⟩) (Nat.zero_le _) _
 refine ⟨⟨blk_set2 hb2 _,own_set_ne hs2 _ ?_,own_set_ne ho _ ?_,h.from_⟩,⟨hbw.os.trans hg.os,hbw.tape.trans hg.tape,hbw.output.trans hg.output,Nat.le_trans hg.size hbw.size,fun j hj h1 h2 h3=>?_,.inl rfl,hn⟩⟩
 ·intro e
  have e:F.nb=B:=by simpa [Value.ownBlock] using e
  omega
 ·intro e
  have e:g=B:=by simpa [Value.ownBlock] using e
  omega
 ·exact (Below.heap_setCell _ _ _ _ h1).trans (hg.block j hj (fun e=>h3 (by simpa using e)))
/-- What a call on the forms leaves. -/
def FE (base:Nat) (w:World) (B:Nat) (F:Fb) (N:List Nd) (Z:List Nat) (w':World):Prop:=∃ F',FS base w' B N Z F'∧FG w w' B F F'

/-- A span in a box stands through what is done to the forms. -/
theorem Bx.through {base:Nat} {w w':World} {B:Nat} {N:List Nd} {Z:List Nat} {F F':Fb} {b:Nat} {x y:Value} (h:Bx w b x y) (hr:FR base w B N Z F) (hg:FG w w' B F F'):Bx w' b x y:=by
 obtain ⟨t1,h1⟩:=own_ty2 hr.nod F.nb rfl
 obtain ⟨t2,h2⟩:=own_ty2 hr.siz F.sb rfl
 have hB:=hr.blk
 have h3:=h
 unfold Bx at h3
 refine (hg.block b h.lt (fun e=>?_) (fun e=>?_) (fun e=>?_)).trans h
 ·rw [e,hB] at h3;simp at h3
 ·rw [e,h1] at h3;simp at h3
 ·rw [e,h2] at h3;simp at h3
theorem drop_nodes {base : Nat} {w0 w3 : World} {B : Nat} {N : List Nd} {Z : List Nat} {F : Fb} {a b c : Nat} {x y : Value} (hs : FS base w0 B N Z F) (hx : Bx w0 c x y) (hab : a ≤ b) (hb : b ≤ N.length)
  (ho:w3.ownsRow base 51 2 (.slice (some ⟨F.nb,0,none⟩) (a+(N.length - b)) F.nc) (a+(N.length - b)) (ndC (N.take a ++ N.drop b))) (hg:w0.drew.grownBy w3 (some F.nb)) :
  FR base (w3.setCell ⟨B,0,none⟩ (.slice (some ⟨F.nb,0,none⟩) (a+(N.length - b)) F.nc)) B (N.take a ++ N.drop b) Z F∧FG w0 (w3.setCell ⟨B,0,none⟩ (.slice (some ⟨F.nb,0,none⟩) (a+(N.length - b)) F.nc)) B F F∧Bx (w3.setCell ⟨B,0,none⟩ (.slice (some ⟨F.nb,0,none⟩) (a+(N.length - b)) F.nc)) c x y:=by
 have hN':(N.take a ++ N.drop b).length=a+(N.length - b):=by rw [List.length_append,List.length_take,List.length_drop];omega
 have hg':w0.grownBy w3 (some F.nb):=grown_trans (b:=w0.drew) ⟨rfl,rfl,rfl,Nat.le_refl _,fun _ _ _=>rfl⟩ hg
 have X:=hs.raw.nodes (N':=N.take a ++ N.drop b) (g:=F.nb) (c:=F.nc) hg' (by rw [hN'];exact ho) (.inl rfl)
 rw [hN'] at X
 exact ⟨X.1,X.2,hx.through hs.raw X.2⟩
theorem drop_sizes {base : Nat} {w0 w3 : World} {B : Nat} {N : List Nd} {Z : List Nat} {F : Fb} {a b : Nat} (hs : FR base w0 B N Z F) (hab : a ≤ b) (hb : b ≤ Z.length)
  (ho:w3.ownsRow base 3 1 (.slice (some ⟨F.sb,0,none⟩) (a+(Z.length - b)) F.sc) (a+(Z.length - b)) (inC (Z.take a ++ Z.drop b))) (hg:w0.drew.grownBy w3 (some F.sb)) :
  FR base (w3.setCell ⟨B,1,none⟩ (.slice (some ⟨F.sb,0,none⟩) (a+(Z.length - b)) F.sc)) B N (Z.take a ++ Z.drop b) F∧FG w0 (w3.setCell ⟨B,1,none⟩ (.slice (some ⟨F.sb,0,none⟩) (a+(Z.length - b)) F.sc)) B F F:=by
 have hN':(Z.take a ++ Z.drop b).length=a+(Z.length - b):=by rw [List.length_append,List.length_take,List.length_drop];omega
 have hg':w0.grownBy w3 (some F.sb):=grown_trans (b:=w0.drew) ⟨rfl,rfl,rfl,Nat.le_refl _,fun _ _ _=>rfl⟩ hg
 have X:=hs.sizes (Z':=Z.take a ++ Z.drop b) (g:=F.sb) (c:=F.sc) hg' (by rw [hN'];exact ho) (.inl rfl)
 rw [hN'] at X
 exact X

set_option maxHeartbeats 4000000 in
set_option maxRecDepth 100000 in
theorem drop_any (base : Nat) (w : World) (B : Nat) (N : List Nd) (Z : List Nat) (F : Fb) (h : FS base w B N Z F) (a b : Nat) (hab : a ≤ b) (hb : b ≤ N.length) :
  Calls Tryz.prog 89 #[.pointer (some ⟨B,0,none⟩),.agg #[.int .i64 (a:Int),.int .i64 (b:Int)]] w fun e w'=>e=.returned (.tuple #[])∧FE base w B F (N.take a ++ N.drop b) (Z.take a ++ Z.drop b) w':=by
 have HS:Hid (FS base (w.alloc (.cells #[.int .i64 (a:Int),.int .i64 (b:Int)] 123)) B N Z F):=h.stay ((Below.refl _ _).alloc (Nat.le_refl _) _)
 have HG0:Hid (FG w (w.alloc (.cells #[.int .i64 (a:Int),.int .i64 (b:Int)] 123)) B F F):=FG.of ((Below.refl _ _).alloc (Nat.le_refl _) _)
 have R0:Hid (Bx (w.alloc (.cells #[.int .i64 (a:Int),.int .i64 (b:Int)] 123)) w.heap.size (.int .i64 (a:Int)) (.int .i64 (b:Int))):=Bx.new w _ _
 have HLN:Hid (Z.length=N.length):=h.len
 have hsm:=h.small
 have HbZ:Hid (b≤Z.length∧Z.length≤1000000):=by have:=HLN.out;exact ⟨by omega,by omega⟩
 clear h
 go_enter Tryz.func89,Tryz.ntmps89
 go_wp2_with fail
 generalize w.alloc (.cells #[.int .i64 (a:Int),.int .i64 (b:Int)] 123)=w0 at HS HG0 R0 ⊢
 obtain ⟨c0,c1,_⟩:=HS.out.raw.cells
 obtain ⟨r0,r1,_⟩:=R0.out.cells
 have hlt:=HS.out.lt
 go_cut [] (fun wx=>FR base wx B (N.take a ++ N.drop b) Z F∧FG w0 wx B F F∧Bx wx w.heap.size (.int .i64 (a:Int)) (.int .i64 (b:Int)))
 case first =>
  go_region_with (go_at_call 114;refine (delN base F.nb F.nc a b N _ (own_drew HS.out.nod) hab hb (by omega)).mono ?_;rintro en w3 ⟨rfl,ho3,hg3⟩;have HO3:Hid _:=ho3;have HG3:Hid _:=hg3;have K0:w3.heap[B]?=_:=(hg3.block B hlt (fun e=>HS.out.raw.ne.1 (by simpa using e))).trans HS.out.blk;have k0:w3.cell? ⟨B,0,none⟩=some (.slice (some ⟨F.nb,0,none⟩) N.length F.nc):=(by simp [World.cell?,K0]);have k1:w3.frozen? ⟨B,0,none⟩=false:=(by simp [World.frozen?,K0]);clear K0 ho3 hg3 c1)
  all_goals go_wp2_with fail
  all_goals go_meet
  all_goals exact drop_nodes HS.out R0.out hab hb HO3.out HG3.out
 case rest =>
  obtain ⟨hr,hg,hx⟩:=hcut
  have HR:Hid (FR base _ B (N.take a ++ N.drop b) Z F):=hr
  have HG:Hid (FG w0 _ B F F):=hg
  obtain ⟨d0,d1,_⟩:=hr.cells
  obtain ⟨s0,s1,_⟩:=hx.cells
  have hlt4:=hr.lt
  clear c0 c1 r0 r1 hr hg hx
  go_wp2_with fail
  go_region_with (go_at_call 115;refine (delZ base F.sb F.sc a b Z _ (own_drew HR.out.siz) hab HbZ.out.1 HbZ.out.2).mono ?_;rintro en w5 ⟨rfl,ho5,hg5⟩;have HO3:Hid _:=ho5;have HG3:Hid _:=hg5;have K0:w5.heap[B]?=_:=(hg5.block B hlt4 (fun e=>HR.out.ne.2.1 (by simpa using e))).trans HR.out.blk;have k0:w5.cell? ⟨B,1,none⟩=some (.slice (some ⟨F.sb,0,none⟩) Z.length F.sc):=(by simp [World.cell?,K0]);have k1:w5.frozen? ⟨B,1,none⟩=false:=(by simp [World.frozen?,K0]);clear K0 ho5 hg5 d0)
  all_goals go_wp2_with fail
  all_goals
   refine bodyPost_end (results_none rfl _ _ _) rfl ?_
   have X:=drop_sizes HR.out hab HbZ.out.1 HO3.out HG3.out
   have hln:=HLN.out
   exact ⟨rfl,F,X.1.full (by simp only [List.length_append,List.length_take,List.length_drop];omega) (by simp only [List.length_append,List.length_take,List.length_drop];omega),HG0.out.trans (HG.out.trans X.2)⟩
end Go.Proofs.YtfdhaknecjcjoaaGreatDoor
