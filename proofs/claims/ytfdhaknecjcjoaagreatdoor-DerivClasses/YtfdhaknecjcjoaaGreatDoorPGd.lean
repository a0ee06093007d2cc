/- The document's sets in chapter 6: put, has, join. The document's ends of one node. The document's ends of a star, a complement, and of two parts. The document's ends of a star. The document's ends of two parts. -/
import Derived.Test.YtfdhaknecjcjoaaGreatDoorPGc
import Derived.Test.YtfdhaknecjcjoaaGreatDoorPGa
namespace Go.Proofs.YtfdhaknecjcjoaaGreatDoor
open Go Go.RowKit
set_option linter.unusedVariables false

set_option maxHeartbeats 2000000 in
set_option maxRecDepth 100000 in
theorem rhas6_any (N m : Nat) (hm5 : m < 512) (w : World) :
  Calls Tryz.prog 101 #[setV N,.int .i64 (m:Int)] w fun e w'=>e=.returned (.bool (N.testBit m))∧Below w.heap.size w w':=by
 unfold setV
 have hk:m / 64<8:=by omega
 have hc:=(Cells8.last w (word N)).get hk
 have HB:Hid (((bits .and .u64 ((word N (m / 64):Nat) / 2 ^ (m % 64):Int) 1) == 1)=N.testBit m):=rhas_bit N m _ _ rfl rfl
 go_enter Tryz.func101,Tryz.ntmps101
 go_wp2_with fail
 go_ret
 exact ⟨ret_bool HB.out,(Below.refl _ _).alloc (Nat.le_refl _) _⟩

set_option maxHeartbeats 2000000 in
set_option maxRecDepth 100000 in
theorem rput6_any (N m : Nat) (hm5 : m < 512) (w : World) :
  Calls Tryz.prog 100 #[setV N,.int .i64 (m:Int)] w fun e w'=>e=.returned (setV (N ||| 2 ^ m))∧Below w.heap.size w w':=by
 have HA:Hid (ChAt w N ((w.alloc (.cells (cellsF (word N)) 61)).alloc (.cells #[.int .u64 0,.int .u64 0,.int .u64 0,.int .u64 0,.int .u64 0,.int .u64 0,.int .u64 0,.int .u64 0] 61))):=ChAt.start w N
 unfold setV
 have hk:m / 64<8:=by omega
 have hw2:IntKind.u64.wrap ((2:Int) ^ (m % 64))=2 ^ (m % 64):=by
  have:=wrap_nat (2 ^ (m % 64)) (two_pow_lt _ (by omega))
  simpa using this
 have hc:=HA.out.set.get hk
 have hf:=HA.out.set.frozen (m / 64)
 obtain ⟨X,hX⟩:∃ X,N ||| 2 ^ m=X:=⟨_,rfl⟩
 have hcb:(cellsF (word N)).setIfInBounds (m / 64) (.int .u64 (bits .or .u64 (word N (m / 64):Nat) (2 ^ (m % 64))))=cellsF (word X):=by
  rw [or_u64 (word N (m / 64)) (2 ^ (m % 64)) rfl (by simp) (word_lt _ _) (two_pow_lt _ (by omega)),cells_or_bit N hm5,hX]
 have HN:Hid (ChAt w X ((w.alloc (.cells (cellsF (word X)) 61)).alloc (.cells #[.int .u64 0,.int .u64 0,.int .u64 0,.int .u64 0,.int .u64 0,.int .u64 0,.int .u64 0,.int .u64 0] 61))):=ChAt.start w X
 obtain ⟨c0,c1,c2,c3,c4,c5,c6,c7⟩:=HN.out.set.gets
 obtain ⟨d0,d1,d2,d3,d4,d5,d6,d7⟩:=HN.out.res.gets
 have f0:=HN.out.res.frozen 0
 have f1:=HN.out.res.frozen 1
 have f2:=HN.out.res.frozen 2
 have f3:=HN.out.res.frozen 3
 have f4:=HN.out.res.frozen 4
 have f5:=HN.out.res.frozen 5
 have f6:=HN.out.res.frozen 6
 have f7:=HN.out.res.frozen 7
 rw [hX]
 clear hX HA
 go_enter Tryz.func100,Tryz.ntmps100
 go_wp2_with fail
 have h8:Cells8 ((w.alloc (.cells (cellsF (word X)) 61)).alloc (.cells (cellsF (word X)) 61)) (w.heap.size+1) (word X):=by
  have:=Cells8.last (w.alloc (.cells (cellsF (word X)) 61)) (word X)
  simpa using this
 exact bodyPost_ret (results_set rfl rfl h8) rfl ⟨rfl,((Below.refl _ _).alloc (Nat.le_refl _) _).alloc (by simp) _⟩

set_option maxHeartbeats 4000000 in
set_option maxRecDepth 100000 in
theorem rjoin6_any (A B : Nat) (w : World) :
  Calls Tryz.prog 102 #[setV A,setV B] w fun e w'=>e=.returned (setV (orN A B))∧Below w.heap.size w w':=by
 have H0:Hid (TwoAt w (fun k=>word A k) B _):=TwoAt.start w A B
 unfold setV
 go_enter Tryz.func102,Tryz.ntmps102
 go_wp2_with fail
 generalize hW:((w.alloc (.cells (cellsF (word A)) 61)).alloc (.cells (cellsF (word B)) 61)).alloc (.cells #[.int .u64 0,.int .u64 0,.int .u64 0,.int .u64 0,.int .u64 0,.int .u64 0,.int .u64 0,.int .u64 0] 61)=W at H0 ⊢
 clear hW
 go_loopw [5] (fun vc wr=>∃ c:Nat,vc=.int .i64 c∧c≤8∧TwoAt w (fun k=>if k<c then word (orN A B) k else word A k) B wr) (fun vc _=>8 - (intOf vc).toNat)
 case atStart=>exact ⟨0,rfl,by omega,H0.out.congr (fun k _=>by rw [if_neg (by omega)])⟩
 case round =>
  clear H0
  obtain ⟨c,rfl,hc,hat⟩:=hrel
  have HA:Hid _:=hat
  clear hat
  by_cases hlt : c < 8
  ·have hcI:(c:Int)<8:=by omega
   have ca:=HA.out.one.get hlt
   have fa:=HA.out.one.frozen c
   have cb:=HA.out.two.get hlt
   simp only [Nat.lt_irrefl,if_false] at ca
   go_wp2_with fail
   go_region
   rw [bits_or_u64_nat _ _ (word_lt A c) (word_lt B c)]
   generalize hW1:(wr.setCell ⟨w.heap.size,c,none⟩ _).drew=W1
   have H1:Hid (TwoAt w (fun k=>if k<c+1 then word (orN A B) k else word A k) B W1):=by
    show TwoAt _ _ _ _
    rw [← hW1]
    refine (HA.out.put hlt).congr ?_
    intro k hk
    by_cases k1 : k = c
    ·rw [if_pos k1,if_pos (by omega),k1,word_union]
    ·rw [if_neg k1]
     by_cases k2 : k < c
     ·rw [if_pos k2,if_pos (by omega)]
     ·rw [if_neg k2,if_neg (by omega)]
   clear hW1 ca fa cb HA
   go_wp2_with fail
   go_roundw
   case rel=>exact ⟨c+1,by go_num,by omega,H1.out⟩
   case measure=>simp [intOf];omega
  ·have hcI:¬ (c:Int)<8:=by omega
   obtain ⟨d0,d1,d2,d3,d4,d5,d6,d7⟩:=(HA.out.res).gets
   have f0:=(HA.out.res).frozen 0
   have f1:=(HA.out.res).frozen 1
   have f2:=(HA.out.res).frozen 2
   have f3:=(HA.out.res).frozen 3
   have f4:=(HA.out.res).frozen 4
   have f5:=(HA.out.res).frozen 5
   have f6:=(HA.out.res).frozen 6
   have f7:=(HA.out.res).frozen 7
   obtain ⟨c0,c1,c2,c3,c4,c5,c6,c7⟩:=(HA.out.one.congr (g:=word (orN A B)) (fun k hk=>by rw [if_pos (by omega)])).gets
   go_wp2_with fail
   obtain ⟨h8,hB⟩:=st8 HA.out.res HA.out.below (by omega) (word (orN A B)) rfl rfl rfl rfl rfl rfl rfl rfl
   exact bodyPost_ret (results_set rfl rfl h8) rfl ⟨rfl,hB⟩

end Go.Proofs.YtfdhaknecjcjoaaGreatDoor

namespace Go.Proofs.YtfdhaknecjcjoaaGreatDoor
open Go Go.RowKit
set_option linter.unusedVariables false

set_option maxHeartbeats 2000000 in
set_option maxRecDepth 100000 in
theorem rword6_any (s:ByteArray) (hsm:s.size≤9223372036854775806) (w:World):Calls Tryz.prog 49 #[.string s] w fun e w'=>e=.returned (.int .i64 (wordE s))∧Below w.heap.size w w':=by
 go_enter Tryz.func49,Tryz.ntmps49
 go_wp2_with fail
 go_loop [3] (fun i=>∃ n:Nat,n≤s.size∧i=.int .i64 n∧(∀ i (hi:i<s.size),i<n→letM s[i]=true)) (fun i=>s.size - (intOf i).toNat)
 case atStart=>exact ⟨0,Nat.zero_le _,rfl,fun i _ h=>by omega⟩
 case round =>
  obtain ⟨n,hn,rfl,hall⟩:=hrel
  have HA:Hid (∀ i (hi:i<s.size),i<n→letM s[i]=true):=hall
  clear hall
  by_cases hlt : n < s.size
  ·by_cases hl : (s[n].toNat : Int) < 97
   ·have HE:Hid (wordE s=21):=by
     show wordE s = 21
     unfold wordE
     rw [letM_not n hlt (by simp [letM];omega)]
     rfl
    go_wp2
    go_ret
    exact ⟨ret_int HE.out.symm,Below.refl _ _⟩
   by_cases hg : 104 < (s[n].toNat : Int)
   ·have HE:Hid (wordE s=21):=by
     show wordE s = 21
     unfold wordE
     rw [letM_not n hlt (by simp [letM];omega)]
     rfl
    go_wp2
    go_ret
    exact ⟨ret_int HE.out.symm,Below.refl _ _⟩
   ·go_wp2
    go_round
    case rel =>
     refine ⟨n+1,by omega,by go_num,fun i hi hlt=>?_⟩
     by_cases he : i = n
     ·subst he
      simp [letM];omega
     ·exact HA.out i hi (by omega)
    case measure=>simp [intOf];omega
  ·have HL:Hid (s.data.toList.all letM=true):=letM_all (fun i hi=>HA.out i hi (by omega))
   by_cases h5 : 511 < s.size
   ·have h5I:(511:Int)<s.size:=by omega
    have HE:Hid (wordE s=40):=by
     show wordE s = 40
     unfold wordE
     rw [HL.out,if_pos h5]
     rfl
    go_wp2
    go_ret
    exact ⟨ret_int HE.out.symm,Below.refl _ _⟩
   ·have h5I:¬ (511:Int)<s.size:=by omega
    have HE:Hid (wordE s=0):=by
     show wordE s = 0
     unfold wordE
     rw [HL.out,if_neg h5]
     rfl
    go_wp2
    go_ret
    exact ⟨ret_int HE.out.symm,Below.refl _ _⟩
/-- A list of sets of the call's own. -/
structure OwnR (base : Nat) (w : World) (v : Value) (r : List Nat) : Prop where
 own : w.ownsRow base 61 8 v r.length (rowC r)
theorem OwnR.stay {base:Nat} {w w':World} {v:Value} {r:List Nat} (h:OwnR base w v r) (hb:Below w.heap.size w w'):OwnR base w' v r:=⟨own_of_heapK h.own fun k _ hk=>hb.block k hk⟩
theorem OwnR.block {base:Nat} {w:World} {v:Value} {r:List Nat} (h:OwnR base w v r) (hr:0<r.length):∃ g c,v=.slice (some ⟨g,0,none⟩) r.length c∧base≤g∧g<w.heap.size:=by
 obtain ⟨_,hh⟩:=id h.own
 rcases hh with ⟨_,h0⟩ | ⟨g,c,cur,e,_⟩
 ·omega
 ·exact ⟨g,c,e,(h.own.lt g (by rw [e];rfl)).1,(h.own.lt g (by rw [e];rfl)).2⟩
/-- A new list's block. -/
def mkRow (n:Nat):Obj:=.cells (madeCells (setV 0).cells (n * 8)) 61
/-- A new list of empty sets. -/
theorem OwnR.made {base:Nat} {w:World} (n:Nat) (hb:base≤w.heap.size) (hn:n≤4096):OwnR base (w.alloc (mkRow n)) (.slice (some ⟨w.heap.size,0,none⟩) n n) (List.replicate n 0):=by
 refine ⟨by rw [rowC_len],.inr ⟨w.heap.size,n,_,by simp,hb,heap_alloc_new w _,by simp,by unfold maxLen;omega,by rw [size_madeCells],?_⟩⟩
 simp only [List.length_replicate]
 rw [made_rows,List.take_of_length_le (by rw [rowC_len];simp)]
theorem run_makeRow (n:Nat) (hn:n≤4096) (w0:World):(Instr.makeSlice 89 (.int .i64 (n:Int)) (.int .i64 (n:Int))).run Tryz.prog w0=.ok (.slice (some ⟨w0.heap.size,0,none⟩) n n) (w0.alloc (mkRow n)):=by
 obtain ⟨i1,hi1,hy0,hy1,hy2⟩:=info_parts Tryz.info_set3
 have:=run_make (P:=Tryz.prog) w0 89 61 i1 (setV 0) Tryz.underlying89 hi1 hy0 .i64 .i64 (n:Int) (n:Int) (by omega) (by omega) (by rw [hy2];omega) (by omega)
 rw [hy1,Int.toNat_natCast] at this
 exact this
/-- What the document's one puts at a place. -/
def oneN (n:Nd) (s:ByteArray) (p:Nat):Nat:=if n.1=2 then 2 ^ p else if p<s.size∧(n.1=4∨(n.1=3∧(wl s).getD p 0=n.2)) then 2 ^ (p+1) else 0

theorem OwnR.at8 {base:Nat} {w:World} {g N c:Nat} {r:List Nat} (h:OwnR base w (.slice (some ⟨g,0,none⟩) N c) r) (hl:r.length=N) (p:Nat) (hp:p<N):At8 w g (p * 8) (r.getD p 0)∧Fz8 w g (p * 8):=own_at8 (by have:=h.own;rw [hl] at this;exact this) hl p hp
theorem OwnR.put {base:Nat} {w:World} {g N c:Nat} {r:List Nat} (h:OwnR base w (.slice (some ⟨g,0,none⟩) N c) r) (hl:r.length=N) (p M:Nat) (hp:p<N):OwnR base (put8 w g (p * 8) M) (.slice (some ⟨g,0,none⟩) N c) (r.set p M):=by
 refine ⟨?_⟩
 have:=put8_own (by have:=h.own;rw [hl] at this;exact this) p M (by omega)
 rw [List.length_set,hl]
 exact this
theorem OwnR.low {base:Nat} {w:World} {g N c:Nat} {r:List Nat} (h:OwnR base w (.slice (some ⟨g,0,none⟩) N c) r):base≤g∧g<w.heap.size:=h.own.lt g rfl
theorem put8_belowB {base:Nat} {w wr:World} (h:Below base w wr) {g:Nat} (hg:base≤g) (o M:Nat):Below base w (put8 wr g o M):=by
 unfold put8
 exact (((((((h.setCell (p:=⟨g,o,none⟩) hg _).setCell (p:=⟨g,o+1,none⟩) hg _).setCell (p:=⟨g,o+2,none⟩) hg _).setCell (p:=⟨g,o+3,none⟩) hg _).setCell (p:=⟨g,o+4,none⟩) hg _).setCell (p:=⟨g,o+5,none⟩) hg _).setCell (p:=⟨g,o+6,none⟩) hg _).setCell (p:=⟨g,o+7,none⟩) hg _
/-- Where one stands. -/
structure OneAt (w : World) (k sg : Int) (s : ByteArray) (N : Nat) (i : Nat) (r : List Nat) (wr : World) : Prop where
 own:OwnR w.heap.size wr (.slice (some ⟨w.heap.size+1,0,none⟩) N N) r
 len : r.length = N
 row:∀ p,r.getD p 0=if p<i then oneN (k,sg) s p else 0
 below : Below w.heap.size w wr
 node:wr.heap[w.heap.size]?=some (.cells #[.int .i64 k,.int .u8 sg] 51 (0,0))
theorem OneAt.stay {w wr w3 : World} {k sg : Int} {s : ByteArray} {N i : Nat} {r : List Nat} (h : OneAt w k sg s N i r wr) (hb : Below wr.heap.size wr w3) : OneAt w k sg s N i r w3 :=
 ⟨h.own.stay hb,h.len,h.row,h.below.trans (hb.mono h.below.size),(hb.block _ (Array.getElem?_eq_some_iff.1 h.node).1).trans h.node⟩
theorem OneAt.put {w wr:World} {k sg:Int} {s:ByteArray} {N i:Nat} {r:List Nat} (h:OneAt w k sg s N i r wr) (hi:i<N) (X:Nat) (hX:X=oneN (k,sg) s i):OneAt w k sg s N (i+1) (r.set i X) (put8 wr (w.heap.size+1) (i * 8) X):=by
 refine ⟨h.own.put h.len i X hi,by rw [List.length_set];exact h.len,fun p=>?_,put8_belowB h.below (by omega) _ _,(put8_other _ _ _ _ _ (by omega)).trans h.node⟩
 rw [set_get r i p X (by have:=h.len;omega)]
 by_cases e : p = i
 ·rw [if_pos e,if_pos (by omega),e,hX]
 ·rw [if_neg e,h.row p]
  by_cases e2 : p < i
  ·rw [if_pos e2,if_pos (by omega)]
  ·rw [if_neg e2,if_neg (by omega)]
theorem OneAt.skip {w wr:World} {k sg:Int} {s:ByteArray} {N i:Nat} {r:List Nat} (h:OneAt w k sg s N i r wr) (hX:oneN (k,sg) s i=0):OneAt w k sg s N (i+1) r wr:=by
 refine ⟨h.own,h.len,fun p=>?_,h.below,h.node⟩
 rw [h.row p]
 by_cases e : p = i
 ·subst e;rw [if_neg (by omega),if_pos (by omega),hX]
 ·by_cases e2 : p < i
  ·rw [if_pos e2,if_pos (by omega)]
  ·rw [if_neg e2,if_neg (by omega)]
theorem OneAt.zero {w wr:World} {k sg:Int} {s:ByteArray} {N i:Nat} {r:List Nat} (h:OneAt w k sg s N i r wr):r.getD i 0=0:=by rw [h.row i,if_neg (by omega)]

set_option maxHeartbeats 4000000 in
set_option maxRecDepth 100000 in
theorem rone6_any (k sg:Int) (hk:1≤k∧k≤4) (s:ByteArray) (hs:s.size≤511) (w:World):Calls Tryz.prog 78 #[.agg #[.int .i64 k,.int .u8 sg],.string s] w fun e w'=>∃ v,e=.returned v∧∃ r,OwnR w.heap.size w' v r∧r.length=s.size+1∧(∀ p,p≤s.size→r.getD p 0=oneN (k,sg) s p)∧Below w.heap.size w w':=by
 obtain ⟨N,hN⟩:∃ N,s.size+1=N:=⟨_,rfl⟩
 have hmk:=run_makeRow N (by omega)
 have HNN:Hid (s.size+1=N):=hN
 have hw1:IntKind.i64.wrap ((s.size:Int)+1)=(N:Int):=by rw [IntKind.wrap_i64];omega
 have H0:Hid (OneAt w k sg s N 0 (List.replicate N 0) ((w.alloc (.cells #[.int .i64 k,.int .u8 sg] 51)).alloc (mkRow N))):=by
  refine ⟨?_,List.length_replicate,fun p=>by rw [rep_get,if_neg (by omega)],((Below.refl _ _).alloc (Nat.le_refl _) _).alloc (by simp) _,?_⟩
  ·have:=OwnR.made (base:=w.heap.size) (w:=w.alloc (.cells #[.int .i64 k,.int .u8 sg] 51)) N (by simp) (by omega)
   simpa using this
  ·rw [Below.heap_alloc _ _ _ (by simp)]
   exact heap_alloc_last w _
 clear hN
 go_enter Tryz.func78,Tryz.ntmps78
 go_wp2_with fail
 go_loopw [6] (fun vi wr=>∃ (i:Nat) (r:List Nat),i≤N∧vi=.int .i64 (i:Int)∧OneAt w k sg s N i r wr) (fun vi _=>N - (intOf vi).toNat)
 case atStart=>exact ⟨0,_,Nat.zero_le _,rfl,H0.out⟩
 case round =>
  clear H0 hmk hw1
  obtain ⟨i,r,hi,rfl,hat⟩:=hrel
  have HA:Hid (OneAt w k sg s N i r wr):=hat
  have hnl:=(Array.getElem?_eq_some_iff.1 hat.node).1
  have n0:wr.cell? ⟨w.heap.size,0,none⟩=some (.int .i64 k):=by simp [World.cell?,hat.node]
  have n1:wr.cell? ⟨w.heap.size,1,none⟩=some (.int .u8 sg):=by simp [World.cell?,hat.node]
  have hgl:=hat.own.low.2
  clear hat
  by_cases hlt : i < N
  ·have hiI:(i:Int)≤s.size:=by have:=HNN.out;omega
   have hiN:(i:Int)<N:=by omega
   obtain ⟨h8,z8⟩:=HA.out.own.at8 HA.out.len i hlt
   rw [HA.out.zero] at h8
   by_cases hk2 : k = 2
   ·subst hk2
    obtain ⟨c0,c1,c2,c3,c4,c5,c6,c7⟩:=h8
    go_wp2_with fail
    refine (rput6_any 0 i (by have:=HNN.out;omega) _).mono ?_
    rintro e w3 ⟨rfl,hb3⟩
    have HA3:Hid (OneAt w _ sg s N i r w3):=HA.out.stay hb3
    obtain ⟨⟨a0,a1,a2,a3,a4,a5,a6,a7⟩,⟨f0,f1,f2,f3,f4,f5,f6,f7⟩⟩:=HA3.out.own.at8 HA3.out.len i hlt
    have hgl3:=HA3.out.own.low.2
    obtain ⟨X,hX⟩:∃ X,0 ||| 2 ^ i=X:=⟨_,rfl⟩
    rw [hX]
    have HF:Hid (OneAt w _ sg s N (i+1) (r.set i X) (put8 w3 (w.heap.size+1) (i * 8) X)):=HA3.out.put hlt X (by rw [← hX,Nat.zero_or];rfl)
    have HI:Hid (i<N):=hlt
    clear hX hb3 HA HA3 c0 c1 c2 c3 c4 c5 c6 c7 n0 n1 hnl z8
    unfold setV cellsF
    go_wp2_with fail
    go_roundw
    case rel=>exact ⟨i+1,_,HI.out,by go_num,HF.out⟩
    case measure=>have:=HI.out;simp [intOf];omega
   by_cases hk4 : k = 4
   ·subst hk4
    by_cases hlS : i < s.size
    ·have HX4:Hid (oneN (4,sg) s i=2 ^ (i+1)):=by
      show oneN (4,sg) s i=_
      unfold oneN
      rw [if_neg (by simp),if_pos ⟨hlS,.inl rfl⟩]
     have hiS:(i:Int)<s.size:=by omega
     obtain ⟨j,hj⟩:∃ j,i+1=j:=⟨_,rfl⟩
     have hwj:IntKind.i64.wrap ((i:Int)+1)=(j:Int):=by rw [IntKind.wrap_i64];omega
     have hj5:j<512:=by omega
     have HJ:Hid (i+1=j):=hj
     clear hj
     obtain ⟨c0,c1,c2,c3,c4,c5,c6,c7⟩:=h8
     go_wp2_with fail
     refine (rput6_any 0 j hj5 _).mono ?_
     rintro e w3 ⟨rfl,hb3⟩
     have HA3:Hid (OneAt w _ sg s N i r w3):=HA.out.stay hb3
     obtain ⟨⟨a0,a1,a2,a3,a4,a5,a6,a7⟩,⟨f0,f1,f2,f3,f4,f5,f6,f7⟩⟩:=HA3.out.own.at8 HA3.out.len i hlt
     have hgl3:=HA3.out.own.low.2
     obtain ⟨X,hX⟩:∃ X,0 ||| 2 ^ j=X:=⟨_,rfl⟩
     rw [hX]
     have HF:Hid (OneAt w _ sg s N (i+1) (r.set i X) (put8 w3 (w.heap.size+1) (i * 8) X)):=HA3.out.put hlt X (by rw [← hX,Nat.zero_or];rw [← HJ.out];exact HX4.out.symm)
     have HI:Hid (i<N):=hlt
     clear hwj hX hb3 HA HA3 c0 c1 c2 c3 c4 c5 c6 c7 n0 n1 hnl z8
     unfold setV cellsF
     go_wp2_with fail
     go_roundw
     case rel=>exact ⟨i+1,_,HI.out,by go_num,HF.out⟩
     case measure=>have:=HI.out;simp [intOf];omega
    ·have hiS:¬ (i:Int)<s.size:=by omega
     have HF:Hid (OneAt w _ sg s N (i+1) r wr.drew):=(HA.out.stay ((Below.refl _ _).drew)).skip (by unfold oneN;rw [if_neg (by simp),if_neg (fun h=>hlS h.1)])
     have HI:Hid (i<N):=hlt
     clear HA h8 z8
     go_wp2_with fail
     go_region
     go_wp2_with fail
     go_roundw
     case rel=>exact ⟨i+1,_,HI.out,by go_num,HF.out⟩
     case measure=>have:=HI.out;simp [intOf];omega
   by_cases hk3 : k = 3
   ·subst hk3
    by_cases hlS : i < s.size
    ·have HW:Hid ((wl s).getD i 0=((s[i]'hlS).toNat:Int)):=wl_at s i hlS
     by_cases hc : ((s[i]'hlS).toNat : Int) = sg
     ·subst hc
      have HX4:Hid (oneN (3,((s[i]'hlS).toNat:Int)) s i=2 ^ (i+1)):=by
       show oneN _ s i = _
       unfold oneN
       rw [if_neg (by simp),if_pos ⟨hlS,.inr ⟨rfl,HW.out⟩⟩]
      have hiS:(i:Int)<s.size:=by omega
      obtain ⟨j,hj⟩:∃ j,i+1=j:=⟨_,rfl⟩
      have hwj:IntKind.i64.wrap ((i:Int)+1)=(j:Int):=by rw [IntKind.wrap_i64];omega
      have hj5:j<512:=by omega
      have HJ:Hid (i+1=j):=hj
      clear hj
      obtain ⟨c0,c1,c2,c3,c4,c5,c6,c7⟩:=h8
      go_wp2_with fail
      go_region
      go_wp2_with fail
      refine (rput6_any 0 j hj5 _).mono ?_
      rintro e w3 ⟨rfl,hb3⟩
      have HA3:Hid (OneAt w _ _ s N i r w3):=(HA.out.stay ((Below.refl _ _).drew)).stay hb3
      obtain ⟨⟨a0,a1,a2,a3,a4,a5,a6,a7⟩,⟨f0,f1,f2,f3,f4,f5,f6,f7⟩⟩:=HA3.out.own.at8 HA3.out.len i hlt
      have hgl3:=HA3.out.own.low.2
      obtain ⟨X,hX⟩:∃ X,0 ||| 2 ^ j=X:=⟨_,rfl⟩
      rw [hX]
      have HF:Hid (OneAt w _ _ s N (i+1) (r.set i X) (put8 w3 (w.heap.size+1) (i * 8) X)):=HA3.out.put hlt X (by rw [← hX,Nat.zero_or];rw [← HJ.out];exact HX4.out.symm)
      have HI:Hid (i<N):=hlt
      clear hwj hX hb3 HA HA3 c0 c1 c2 c3 c4 c5 c6 c7 n0 n1 hnl z8
      unfold setV cellsF
      go_wp2_with fail
      go_roundw
      case rel=>exact ⟨i+1,_,HI.out,by go_num,HF.out⟩
      case measure=>have:=HI.out;simp [intOf];omega
     ·have hiS:(i:Int)<s.size:=by omega
      have HF:Hid (OneAt w _ sg s N (i+1) r wr.drew):=(HA.out.stay ((Below.refl _ _).drew)).skip (by unfold oneN;rw [if_neg (by simp),if_neg (fun h=>by rcases h.2 with h | h;exact absurd h (by simp);exact hc (HW.out.symm.trans h.2))])
      have HI:Hid (i<N):=hlt
      clear HA h8 z8
      go_wp2_with fail
      go_region
      go_wp2_with fail
      go_roundw
      case rel=>exact ⟨i+1,_,HI.out,by go_num,HF.out⟩
      case measure=>have:=HI.out;simp [intOf];omega
    ·have hiS:¬ (i:Int)<s.size:=by omega
     have HF:Hid (OneAt w _ sg s N (i+1) r wr.drew):=(HA.out.stay ((Below.refl _ _).drew)).skip (by unfold oneN;rw [if_neg (by simp),if_neg (fun h=>hlS h.1)])
     have HI:Hid (i<N):=hlt
     clear HA h8 z8
     go_wp2_with fail
     go_region
     go_wp2_with fail
     go_roundw
     case rel=>exact ⟨i+1,_,HI.out,by go_num,HF.out⟩
     case measure=>have:=HI.out;simp [intOf];omega
   ·obtain rfl:k=1:=by omega
    have HF:Hid (OneAt w _ sg s N (i+1) r wr.drew):=(HA.out.stay ((Below.refl _ _).drew)).skip (by unfold oneN;rw [if_neg (by simp),if_neg (fun h=>by rcases h.2 with h | h;exact absurd h (by simp);exact absurd h.1 (by simp))])
    have HI:Hid (i<N):=hlt
    clear HA h8 z8
    go_wp2_with fail
    go_region
    go_wp2_with fail
    go_roundw
    case rel=>exact ⟨i+1,_,HI.out,by go_num,HF.out⟩
    case measure=>have:=HI.out;simp [intOf];omega
  ·obtain rfl:i=N:=by omega
   have hiI:¬ (i:Int)≤s.size:=by have:=HNN.out;omega
   clear n0 n1
   go_wp2_with fail
   go_ret
   exact ⟨_,rfl,r,HA.out.own,by rw [HA.out.len,HNN.out],fun p hp=>(HA.out.row p).trans (if_pos (by have:=HNN.out;omega)),HA.out.below⟩
end Go.Proofs.YtfdhaknecjcjoaaGreatDoor

namespace Go.Proofs.YtfdhaknecjcjoaaGreatDoor
open Go Go.RowKit
set_option linter.unusedVariables false

/-- A list of sets, as it is read. -/
structure RRow (w : World) (g : Nat) (r : List Nat) : Prop where
 at8:∀ p,p<r.length→At8 w g (p * 8) (r.getD p 0)
 lt : g < w.heap.size
theorem At8.of_heap {w w':World} {g o N:Nat} (h:At8 w g o N) (e:w'.heap[g]?=w.heap[g]?):At8 w' g o N:=by
 have hc:∀ k,w'.cell? ⟨g,k,none⟩=w.cell? ⟨g,k,none⟩:=fun k=>by simp only [World.cell?,e]
 exact ⟨(hc _).trans h.c0,(hc _).trans h.c1,(hc _).trans h.c2,(hc _).trans h.c3,(hc _).trans h.c4,(hc _).trans h.c5,(hc _).trans h.c6,(hc _).trans h.c7⟩
theorem RRow.below {w w' : World} {g : Nat} {r : List Nat} (h : RRow w g r) (hb : Below w.heap.size w w') : RRow w' g r :=
 ⟨fun p hp=>(h.at8 p hp).of_heap (hb.block g h.lt),Nat.lt_of_lt_of_le h.lt hb.size⟩
theorem OwnR.rrow {base:Nat} {w:World} {g N c:Nat} {r:List Nat} (h:OwnR base w (.slice (some ⟨g,0,none⟩) N c) r) (hl:r.length=N):RRow w g r:=⟨fun p hp=>(h.at8 hl p (by omega)).1,h.low.2⟩
/-- A list of sets in the making. -/
structure Mk (w : World) (G N : Nat) (r : List Nat) (wr : World) : Prop where
 own:OwnR w.heap.size wr (.slice (some ⟨G,0,none⟩) N N) r
 len : r.length = N
 below : Below w.heap.size w wr
theorem Mk.stay {w wr w3:World} {G N:Nat} {r:List Nat} (h:Mk w G N r wr) (hb:Below wr.heap.size wr w3):Mk w G N r w3:=⟨h.own.stay hb,h.len,h.below.trans (hb.mono h.below.size)⟩
theorem Mk.put {w wr : World} {G N : Nat} {r : List Nat} (h : Mk w G N r wr) (p X : Nat) (hp : p < N) : Mk w G N (r.set p X) (put8 wr G (p * 8) X) :=
 ⟨h.own.put h.len p X hp,by rw [List.length_set];exact h.len,put8_belowB h.below h.own.low.1 _ _⟩
theorem Mk.start {w : World} (N : Nat) (hN : N ≤ 4096) : Mk w w.heap.size N (List.replicate N 0) (w.alloc (mkRow N)) :=
 ⟨OwnR.made N (Nat.le_refl _) hN,List.length_replicate,(Below.refl _ _).alloc (Nat.le_refl _) _⟩

/-- Where the document's not stands: rows ahead of i are made. -/
structure NotAt (P : List Int → Prop) (W : List Int) (i : Nat) (r : List Nat) : Prop where
 done:∀ p,p<i→EndsOk P W p (r.getD p 0)
 rest:∀ p,i<p→r.getD p 0=0
theorem NotAt.set {P:List Int→Prop} {W:List Int} {i:Nat} {r:List Nat} (h:NotAt P W i r) (X:Nat) (hi:i<r.length):NotAt P W i (r.set i X):=by
 refine ⟨fun p hp=>?_,fun p hp=>?_⟩
 ·rw [set_get r i p X hi,if_neg (by omega)];exact h.done p hp
 ·rw [set_get r i p X hi,if_neg (by omega)];exact h.rest p hp
theorem NotAt.next {P:List Int→Prop} {W:List Int} {i:Nat} {r:List Nat} (h:NotAt P W i r) (he:EndsOk P W i (r.getD i 0)):(∀ p,p<i+1→EndsOk P W p (r.getD p 0))∧(∀ p,i+1≤p→r.getD p 0=0):=by
 refine ⟨fun p hp=>?_,fun p hp=>h.rest p (by omega)⟩
 by_cases e : p = i
 ·rw [e];exact he
 ·exact h.done p (by omega)

set_option maxHeartbeats 4000000 in
set_option maxRecDepth 100000 in
theorem rnot6_any {w : World} {g N c : Nat} {ra : List Nat} (ha : RRow w g ra) (hl : ra.length = N) (hN : N ≤ 512) (P : List Int → Prop) (W : List Int) (hP : RowOk P W ra) :
  Calls Tryz.prog 76 #[.slice (some ⟨g,0,none⟩) N c] w fun e w'=>∃ v,e=.returned v∧∃ r,OwnR w.heap.size w' v r∧r.length=N∧RowOk (fun u=>¬ P u) W r∧Below w.heap.size w w':=by
 have hmk:=run_makeRow N (by omega)
 have H0:Hid (Mk w w.heap.size N (List.replicate N 0) (w.alloc (mkRow N))):=Mk.start N (by omega)
 have HRA:Hid (RRow w g ra∧ra.length=N∧RowOk P W ra):=⟨ha,hl,hP⟩
 have HW:Hid (W.length+1=N):=hP.1.symm.trans hl
 clear ha hl hP
 go_enter Tryz.func76,Tryz.ntmps76
 go_wp2_with fail
 go_loopw [4] (fun vi wr=>∃ (i:Nat) (r:List Nat),i≤N∧vi=.int .i64 (i:Int)∧Mk w w.heap.size N r wr∧(∀ p,p<i→EndsOk (fun u=>¬ P u) W p (r.getD p 0))∧(∀ p,i≤p→r.getD p 0=0)) (fun vi _=>N - (intOf vi).toNat)
 case atStart=>exact ⟨0,_,Nat.zero_le _,rfl,H0.out,fun p hp=>by omega,fun p _=>rep_get N p⟩
 case round =>
  clear H0 hmk
  obtain ⟨i,r,hi,rfl,hmk,hdone,hrest⟩:=hrel
  have HM:Hid (Mk w w.heap.size N r wr):=hmk
  have HD:Hid ((∀ p,p<i→EndsOk (fun u=>¬ P u) W p (r.getD p 0))∧(∀ p,i≤p→r.getD p 0=0)):=⟨hdone,hrest⟩
  clear hmk hdone hrest
  by_cases hlt : i < N
  ·have hiI:(i:Int)<N:=by omega
   obtain ⟨A,hA⟩:∃ A,ra.getD i 0=A:=⟨_,rfl⟩
   have HAA:Hid (ra.getD i 0=A):=hA
   clear hA
   have HLT:Hid (i<N):=hlt
   go_wp2_with fail
   go_loopw [5] (fun vj wr=>∃ (j:Nat) (r:List Nat),i≤j∧j≤N∧vj=.int .i64 (j:Int)∧Mk w w.heap.size N r wr∧NotAt (fun u=>¬ P u) W i r∧(∀ q,(r.getD i 0).testBit q=(decide (i≤q∧q<j) && !A.testBit q))) (fun vj _=>N - (intOf vj).toNat)
   case atStart=>exact ⟨i,r,Nat.le_refl _,by omega,rfl,HM.out,⟨HD.out.1,fun p hp=>HD.out.2 p (by omega)⟩,fun q=>by rw [HD.out.2 i (Nat.le_refl _),decide_eq_false (by omega)];simp⟩
   case round =>
    clear HM HD
    obtain ⟨j,r,hij,hj,rfl,hmk,hat,hX⟩:=hrel
    have HM:Hid (Mk w w.heap.size N r wr):=hmk
    have HAT:Hid (NotAt (fun u=>¬ P u) W i r∧(∀ q,(r.getD i 0).testBit q=(decide (i≤q∧q<j) && !A.testBit q))):=⟨hat,hX⟩
    clear hmk hat hX
    have HIJ:Hid (i≤j):=hij
    by_cases hjl : j < N
    ·have hjI:(j:Int)<N:=by omega
     have hj5:j<512:=by omega
     have hra:=HRA.out.1.below HM.out.below
     have hgl:=hra.lt
     obtain ⟨c0,c1,c2,c3,c4,c5,c6,c7⟩:=hra.at8 i (by rw [HRA.out.2.1];exact hlt)
     rw [HAA.out] at c0 c1 c2 c3 c4 c5 c6 c7
     have HJL:Hid (j<N):=hjl
     clear hra
     go_wp2_with fail
     refine (rhas6_any A j hj5 _).mono ?_
     rintro e w3 ⟨rfl,hb3⟩
     have HM3:Hid (Mk w w.heap.size N r w3):=HM.out.stay hb3
     clear hb3 HM c0 c1 c2 c3 c4 c5 c6 c7 hgl
     cases hbit : A.testBit j with
     | true =>
      have HF:Hid (∀ q,(r.getD i 0).testBit q=(decide (i≤q∧q<j+1) && !A.testBit q)):=by
       intro q
       rw [HAT.out.2 q]
       by_cases e : q = j
       ·subst e;rw [hbit];simp
       ·congr 1;rw [decide_eq_decide];omega
      go_wp2_with fail
      go_roundw
      case rel=>exact ⟨j+1,r,by have:=HIJ.out;omega,HJL.out,by go_num,HM3.out,HAT.out.1,HF.out⟩
      case measure=>have:=HJL.out;simp [intOf];omega
     | false =>
      obtain ⟨⟨a0,a1,a2,a3,a4,a5,a6,a7⟩,_⟩:=HM3.out.own.at8 HM3.out.len i hlt
      have hgl:=HM3.out.own.low.2
      obtain ⟨Y,hY⟩:∃ Y,r.getD i 0=Y:=⟨_,rfl⟩
      rw [hY] at a0 a1 a2 a3 a4 a5 a6 a7
      have HY:Hid (r.getD i 0=Y):=hY
      clear hY
      go_wp2_with fail
      refine (rput6_any Y j hj5 _).mono ?_
      rintro e w4 ⟨rfl,hb4⟩
      have HM4:Hid (Mk w w.heap.size N r w4):=HM3.out.stay hb4
      obtain ⟨⟨b0,b1,b2,b3,b4,b5,b6,b7⟩,⟨f0,f1,f2,f3,f4,f5,f6,f7⟩⟩:=HM4.out.own.at8 HM4.out.len i hlt
      have hgl4:=HM4.out.own.low.2
      obtain ⟨X,hX⟩:∃ X,Y ||| 2 ^ j=X:=⟨_,rfl⟩
      rw [hX]
      have HF:Hid (Mk w w.heap.size N (r.set i X) (put8 w4 w.heap.size (i * 8) X)∧NotAt (fun u=>¬ P u) W i (r.set i X)∧∀ q,((r.set i X).getD i 0).testBit q=(decide (i≤q∧q<j+1) && !A.testBit q)):=by
       have hil:i<r.length:=by rw [HM4.out.len];exact hlt
       refine ⟨HM4.out.put i X hlt,HAT.out.1.set X hil,fun q=>?_⟩
       rw [set_get r i i X hil,if_pos rfl,← hX,Nat.testBit_or,← HY.out,HAT.out.2 q,Nat.testBit_two_pow]
       by_cases e : q = j
       ·subst e;rw [hbit];simp;exact HIJ.out
       ·have e':decide (j=q)=false:=decide_eq_false (fun h=>e h.symm)
        rw [e',Bool.or_false];congr 1;rw [decide_eq_decide];omega
      clear hX hb4 HM3 HM4 a0 a1 a2 a3 a4 a5 a6 a7 hgl
      unfold setV cellsF
      go_wp2_with fail
      go_roundw
      case rel=>exact ⟨j+1,_,by have:=HIJ.out;omega,HJL.out,by go_num,HF.out.1,HF.out.2.1,HF.out.2.2⟩
      case measure=>have:=HJL.out;simp [intOf];omega
    ·have hjI:¬ (j:Int)<N:=by omega
     have HF:Hid ((∀ p,p<i+1→EndsOk (fun u=>¬ P u) W p (r.getD p 0))∧(∀ p,i+1≤p→r.getD p 0=0)):=by
      refine HAT.out.1.next (ends_not (A:=A) (by rw [← HAA.out];exact HRA.out.2.2.2 i (by have:=HW.out;have:=HLT.out;omega)) (fun q=>?_))
      have:=HW.out
      rw [HAT.out.2 q,Bool.and_eq_true,decide_eq_true_eq,Bool.not_eq_true']
      constructor
      ·rintro ⟨⟨h1,h2⟩,h3⟩
       exact ⟨h1,by omega,h3⟩
      ·rintro ⟨h1,h2,h3⟩
       exact ⟨⟨h1,by omega⟩,h3⟩
     go_wp2_with fail
     go_roundw
     case rel=>exact ⟨i+1,r,HLT.out,by go_num,HM.out,HF.out.1,HF.out.2⟩
     case measure=>have:=HLT.out;simp [intOf];omega
  ·obtain rfl:i=N:=by omega
   have hiI:¬ (i:Int)<i:=by omega
   go_wp2_with fail
   go_ret
   exact ⟨_,rfl,r,HM.out.own,HM.out.len,⟨by rw [HM.out.len,HW.out],fun p hp=>HD.out.1 p (by have:=HW.out;omega)⟩,HM.out.below⟩

end Go.Proofs.YtfdhaknecjcjoaaGreatDoor

namespace Go.Proofs.YtfdhaknecjcjoaaGreatDoor
open Go Go.RowKit
set_option linter.unusedVariables false

/-- Where the document's star stands: rows behind i are made, rows ahead of it are not begun. -/
structure StAt (P : List Int → Prop) (W : List Int) (i : Nat) (r : List Nat) : Prop where
 done:∀ p,i<p→p≤W.length→EndsOk P W p (r.getD p 0)
 rest:∀ p,p<i→r.getD p 0=0
theorem StAt.set {P:List Int→Prop} {W:List Int} {i:Nat} {r:List Nat} (h:StAt P W i r) (X:Nat) (hi:i<r.length):StAt P W i (r.set i X):=by
 refine ⟨fun p hp hp'=>?_,fun p hp=>?_⟩
 ·rw [set_get r i p X hi,if_neg (by omega)];exact h.done p hp hp'
 ·rw [set_get r i p X hi,if_neg (by omega)];exact h.rest p hp
/-- What the inner loop has gathered. -/
def StGot (A i j:Nat) (r:List Nat):Prop:=∀ q,(r.getD i 0).testBit q=true↔q=i∨∃ m,i<m∧m<j∧A.testBit m=true∧(r.getD m 0).testBit q=true
theorem StGot.skip {A i j:Nat} {r:List Nat} (h:StGot A i j r) (hb:A.testBit j=false):StGot A i (j+1) r:=by
 intro q
 rw [h q]
 constructor
 ·rintro (e | ⟨m,h1,h2,h3,h4⟩)
  ·exact .inl e
  ·exact .inr ⟨m,h1,by omega,h3,h4⟩
 ·rintro (e | ⟨m,h1,h2,h3,h4⟩)
  ·exact .inl e
  ·have:m≠j:=fun e=>by rw [e,hb] at h3;cases h3
   exact .inr ⟨m,h1,by omega,h3,h4⟩
theorem StGot.join {A i j:Nat} {r:List Nat} (h:StGot A i j r) (hb:A.testBit j=true) (hij:i<j) (hi:i<r.length):StGot A i (j+1) (r.set i (orN (r.getD i 0) (r.getD j 0))):=by
 intro q
 rw [set_get r i i _ hi,if_pos rfl]
 unfold orN
 rw [Nat.testBit_or,Bool.or_eq_true,h q]
 have e:∀ m,i<m→(r.set i (r.getD i 0 ||| r.getD j 0)).getD m 0=r.getD m 0:=fun m hm=>by rw [set_get r i m _ hi,if_neg (by omega)]
 constructor
 ·rintro ((e1 | ⟨m,h1,h2,h3,h4⟩) | h4)
  ·exact .inl e1
  ·exact .inr ⟨m,h1,by omega,h3,by rw [e m h1];exact h4⟩
  ·exact .inr ⟨j,hij,by omega,hb,by rw [e j hij];exact h4⟩
 ·rintro (e1 | ⟨m,h1,h2,h3,h4⟩)
  ·exact .inl (.inl e1)
  ·rw [e m h1] at h4
   by_cases em : m = j
   ·subst em;exact .inr h4
   ·exact .inl (.inr ⟨m,h1,by omega,h3,h4⟩)

set_option maxHeartbeats 4000000 in
set_option maxRecDepth 100000 in
theorem rstar6_any {w : World} {g N c : Nat} {ra : List Nat} (ha : RRow w g ra) (hl : ra.length = N) (hN : N ≤ 512) (P : List Int → Prop) (W : List Int) (hP : RowOk P W ra) :
  Calls Tryz.prog 75 #[.slice (some ⟨g,0,none⟩) N c] w fun e w'=>∃ v,e=.returned v∧∃ r,OwnR w.heap.size w' v r∧r.length=N∧RowOk (StL P) W r∧Below w.heap.size w w':=by
 have hmk:=run_makeRow N (by omega)
 have H0:Hid (Mk w w.heap.size N (List.replicate N 0) (w.alloc (mkRow N))):=Mk.start N (by omega)
 have HRA:Hid (RRow w g ra∧ra.length=N∧RowOk P W ra):=⟨ha,hl,hP⟩
 have HW:Hid (W.length+1=N):=hP.1.symm.trans hl
 clear ha hl hP
 go_enter Tryz.func75,Tryz.ntmps75
 go_wp2_with fail
 go_loopw [4] (fun vi wr=>∃ (n:Nat) (r:List Nat),n≤N∧vi=.int .i64 ((n:Int) - 1)∧Mk w w.heap.size N r wr∧(∀ p,n≤p→p≤W.length→EndsOk (StL P) W p (r.getD p 0))∧(∀ p,p<n→r.getD p 0=0)) (fun vi _=>(intOf vi+1).toNat)
 case atStart=>exact ⟨N,_,Nat.le_refl _,rfl,H0.out,fun p hp hp'=>by have:=HW.out;omega,fun p _=>rep_get N p⟩
 case round =>
  clear H0 hmk
  obtain ⟨n,r,hn,hvi,hmk,hdone,hrest⟩:=hrel
  have HM:Hid (Mk w w.heap.size N r wr):=hmk
  cases n with
  | zero =>
   have e0:((0:Nat):Int) - 1 = -1:=by omega
   rw [e0] at hvi
   subst hvi
   have HD:Hid (∀ p,p≤W.length→EndsOk (StL P) W p (r.getD p 0)):=fun p hp=>hdone p (Nat.zero_le _) hp
   clear hmk hdone hrest
   go_wp2_with fail
   go_ret
   exact ⟨_,rfl,r,HM.out.own,HM.out.len,⟨by rw [HM.out.len,HW.out],fun p hp=>HD.out p hp⟩,HM.out.below⟩
  | succ i =>
   have e0:((i+1:Nat):Int) - 1=(i:Int):=by omega
   rw [e0] at hvi
   subst hvi
   have HD:Hid (StAt (StL P) W i r∧r.getD i 0=0):=⟨⟨fun p hp hp'=>hdone p (by omega) hp',fun p hp=>hrest p (by omega)⟩,hrest i (by omega)⟩
   have hlt:i<N:=by omega
   have hiI:(i:Int)<N:=by omega
   have hi5:i<512:=by omega
   have HLT:Hid (i<N):=hlt
   obtain ⟨A,hA⟩:∃ A,ra.getD i 0=A:=⟨_,rfl⟩
   have HAA:Hid (ra.getD i 0=A):=hA
   obtain ⟨⟨a0,a1,a2,a3,a4,a5,a6,a7⟩,_⟩:=HM.out.own.at8 HM.out.len i hlt
   rw [HD.out.2] at a0 a1 a2 a3 a4 a5 a6 a7
   have hgl:=HM.out.own.low.2
   have hwi:IntKind.i64.wrap ((i:Int)+1)=(i:Int)+1:=by rw [IntKind.wrap_i64];omega
   clear hA hmk hdone hrest hn e0
   go_wp2_with fail
   refine (rput6_any 0 i hi5 _).mono ?_
   rintro e w3 ⟨rfl,hb3⟩
   have HM3:Hid (Mk w w.heap.size N r w3):=HM.out.stay hb3
   obtain ⟨⟨b0,b1,b2,b3,b4,b5,b6,b7⟩,⟨f0,f1,f2,f3,f4,f5,f6,f7⟩⟩:=HM3.out.own.at8 HM3.out.len i hlt
   have hgl3:=HM3.out.own.low.2
   obtain ⟨X,hX⟩:∃ X,0 ||| 2 ^ i=X:=⟨_,rfl⟩
   rw [hX]
   have HF:Hid (Mk w w.heap.size N (r.set i X) (put8 w3 w.heap.size (i * 8) X)∧StAt (StL P) W i (r.set i X)∧StGot A i (i+1) (r.set i X)):=by
    have hil:i<r.length:=by rw [HM3.out.len];exact hlt
    refine ⟨HM3.out.put i X hlt,HD.out.1.set X hil,fun q=>?_⟩
    rw [set_get r i i X hil,if_pos rfl,← hX,Nat.zero_or,Nat.testBit_two_pow]
    constructor
    ·intro h;exact .inl (by have:i=q:=(by simpa using h);exact this.symm)
    ·rintro (e | ⟨m,h1,h2,_⟩)
     ·simp [e]
     ·omega
   clear hX hb3 HM HM3 HD a0 a1 a2 a3 a4 a5 a6 a7 hgl
   unfold setV cellsF
   go_wp2_with fail
   go_loopw [5] (fun vj wr=>∃ (j:Nat) (r:List Nat),i+1≤j∧j≤N∧vj=.int .i64 (j:Int)∧Mk w w.heap.size N r wr∧StAt (StL P) W i r∧StGot A i j r) (fun vj _=>N - (intOf vj).toNat)
   case atStart=>exact ⟨i+1,_,Nat.le_refl _,HLT.out,by go_num,HF.out.1,HF.out.2.1,HF.out.2.2⟩
   case round =>
    clear HF b0 b1 b2 b3 b4 b5 b6 b7 f0 f1 f2 f3 f4 f5 f6 f7 hgl3 hwi
    obtain ⟨j,r,hij,hj,rfl,hmk,hat,hX⟩:=hrel
    have HM:Hid (Mk w w.heap.size N r wr):=hmk
    have HAT:Hid (StAt (StL P) W i r∧StGot A i j r):=⟨hat,hX⟩
    clear hmk hat hX
    have HIJ:Hid (i+1≤j):=hij
    clear hij
    by_cases hjl : j < N
    ·have hjI:(j:Int)<N:=by omega
     have hj5:j<512:=by omega
     have hra:=HRA.out.1.below HM.out.below
     have hgl:=hra.lt
     obtain ⟨c0,c1,c2,c3,c4,c5,c6,c7⟩:=hra.at8 i (by rw [HRA.out.2.1];exact hlt)
     rw [HAA.out] at c0 c1 c2 c3 c4 c5 c6 c7
     have HJL:Hid (j<N):=hjl
     clear hra
     go_wp2_with fail
     refine (rhas6_any A j hj5 _).mono ?_
     rintro e w3 ⟨rfl,hb3⟩
     have HM3:Hid (Mk w w.heap.size N r w3):=HM.out.stay hb3
     clear hb3 HM c0 c1 c2 c3 c4 c5 c6 c7 hgl
     cases hbit : A.testBit j with
     | false =>
      have HF:Hid (StGot A i (j+1) r):=HAT.out.2.skip hbit
      go_wp2_with fail
      go_roundw
      case rel=>exact ⟨j+1,r,by have:=HIJ.out;omega,HJL.out,by go_num,HM3.out,HAT.out.1,HF.out⟩
      case measure=>have:=HJL.out;simp [intOf];omega
     | true =>
      obtain ⟨⟨a0,a1,a2,a3,a4,a5,a6,a7⟩,_⟩:=HM3.out.own.at8 HM3.out.len i hlt
      obtain ⟨⟨b0,b1,b2,b3,b4,b5,b6,b7⟩,_⟩:=HM3.out.own.at8 HM3.out.len j hjl
      have hgl:=HM3.out.own.low.2
      have HGOT:Hid (StGot A i (j+1) (r.set i (orN (r.getD i 0) (r.getD j 0)))):=HAT.out.2.join hbit (by have:=HIJ.out;omega) (by rw [HM3.out.len];exact hlt)
      obtain ⟨X,hX⟩:∃ X,r.getD i 0=X:=⟨_,rfl⟩
      obtain ⟨Y,hY⟩:∃ Y,r.getD j 0=Y:=⟨_,rfl⟩
      rw [hX] at a0 a1 a2 a3 a4 a5 a6 a7 HGOT
      rw [hY] at b0 b1 b2 b3 b4 b5 b6 b7 HGOT
      obtain ⟨Z,hZ⟩:∃ Z,orN X Y=Z:=⟨_,rfl⟩
      have HZ:Hid (orN X Y=Z):=hZ
      rw [hZ] at HGOT
      clear hX hY hZ
      go_wp2_with fail
      go_region_with (go_at_call 102;refine (rjoin6_any X Y _).mono ?_;rintro e w4 ⟨rfl,hb4'⟩;rw [HZ.out];have hb4:Below w3.heap.size w3 w4:=go_on (Below.refl _ _).drew hb4';have HM4:Hid (Mk w w.heap.size N r w4):=HM3.out.stay hb4;obtain ⟨⟨d0,d1,d2,d3,d4,d5,d6,d7⟩,⟨f0,f1,f2,f3,f4,f5,f6,f7⟩⟩:=HM4.out.own.at8 HM4.out.len i HLT.out;have hgl4:=HM4.out.own.low.2;unfold setV cellsF)
      all_goals (
       have HF:Hid (Mk w w.heap.size N (r.set i Z) (put8 w4 w.heap.size (i * 8) Z)∧StAt (StL P) W i (r.set i Z)):=⟨HM4.out.put i Z HLT.out,HAT.out.1.set Z (by rw [HM4.out.len];exact HLT.out)⟩
       clear hb4 hb4' HM4 d0 d1 d2 d3 d4 d5 d6 d7 f0 f1 f2 f3 f4 f5 f6 f7
       go_wp2_with fail
       go_roundw
       case rel=>exact ⟨j+1,_,by have:=HIJ.out;omega,HJL.out,by go_num,HF.out.1,HF.out.2,HGOT.out⟩
       case measure=>have:=HJL.out;simp [intOf];omega)
    ·have hjI:¬ (j:Int)<N:=by omega
     have HF:Hid (∀ p,i≤p→p≤W.length→EndsOk (StL P) W p (r.getD p 0)):=by
      intro p hp hp'
      by_cases e : p = i
      ·subst e
       refine ends_star (A:=A) (S:=fun m=>r.getD m 0) hp' (by rw [← HAA.out];exact HRA.out.2.2.2 p hp') (fun m h1 h2=>HAT.out.1.done m h1 h2) (fun q=>?_)
       rw [HAT.out.2 q]
       have:=HW.out
       constructor
       ·rintro (e | ⟨m,h1,h2,h3,h4⟩)
        ·exact .inl e
        ·exact .inr ⟨m,h1,h3,h4⟩
       ·rintro (e | ⟨m,h1,h3,h4⟩)
        ·exact .inl e
        ·have hm:=((HAA.out ▸ HRA.out.2.2.2 p hp') m).1 h3
         exact .inr ⟨m,h1,by omega,h3,h4⟩
      ·exact HAT.out.1.done p (by omega) hp'
     go_wp2_with fail
     go_roundw
     case rel=>exact ⟨i,r,by have:=HLT.out;omega,by go_num,HM.out,HF.out,HAT.out.1.rest⟩
     case measure=>simp [intOf]
end Go.Proofs.YtfdhaknecjcjoaaGreatDoor

namespace Go.Proofs.YtfdhaknecjcjoaaGreatDoor
open Go Go.RowKit
set_option linter.unusedVariables false

/-- What the inner loop has gathered, at the places from i on and ahead of j. -/
def TwGot (f:Bool→Bool→Bool) (A B i j X:Nat):Prop:=∀ q,X.testBit q=(decide (i≤q∧q<j) && f (A.testBit q) (B.testBit q))
theorem TwGot.skip {f:Bool→Bool→Bool} {A B i j X:Nat} (h:TwGot f A B i j X) (hb:f (A.testBit j) (B.testBit j)=false):TwGot f A B i (j+1) X:=by
 intro q
 rw [h q]
 by_cases e : q = j
 ·subst e;rw [hb];simp
 ·congr 1;rw [decide_eq_decide];omega
theorem TwGot.put {f:Bool→Bool→Bool} {A B i j X:Nat} (h:TwGot f A B i j X) (hb:f (A.testBit j) (B.testBit j)=true) (hij:i≤j):TwGot f A B i (j+1) (X ||| 2 ^ j):=by
 intro q
 rw [Nat.testBit_or,h q,Nat.testBit_two_pow]
 by_cases e : q = j
 ·subst e;rw [hb];simp;exact hij
 ·have e':decide (j=q)=false:=decide_eq_false (fun h=>e h.symm)
  rw [e',Bool.or_false];congr 1;rw [decide_eq_decide];omega
def CtGot (A:Nat) (rb:List Nat) (i j X:Nat):Prop:=∀ q,X.testBit q=true↔∃ m,i≤m∧m<j∧A.testBit m=true∧(rb.getD m 0).testBit q=true
theorem CtGot.skip {A:Nat} {rb:List Nat} {i j X:Nat} (h:CtGot A rb i j X) (hb:A.testBit j=false):CtGot A rb i (j+1) X:=by
 intro q
 rw [h q]
 constructor
 ·rintro ⟨m,h1,h2,h3,h4⟩
  exact ⟨m,h1,by omega,h3,h4⟩
 ·rintro ⟨m,h1,h2,h3,h4⟩
  have:m≠j:=fun e=>by rw [e,hb] at h3;cases h3
  exact ⟨m,h1,by omega,h3,h4⟩
theorem CtGot.join {A:Nat} {rb:List Nat} {i j X:Nat} (h:CtGot A rb i j X) (hb:A.testBit j=true) (hij:i≤j):CtGot A rb i (j+1) (orN X (rb.getD j 0)):=by
 intro q
 unfold orN
 rw [Nat.testBit_or,Bool.or_eq_true,h q]
 constructor
 ·rintro (⟨m,h1,h2,h3,h4⟩ | h4)
  ·exact ⟨m,h1,by omega,h3,h4⟩
  ·exact ⟨j,hij,by omega,hb,h4⟩
 ·rintro ⟨m,h1,h2,h3,h4⟩
  by_cases em : m = j
  ·subst em;exact .inr h4
  ·exact .inl ⟨m,h1,by omega,h3,h4⟩

set_option maxHeartbeats 8000000 in
set_option maxRecDepth 100000 in
theorem rtwo6_or {w : World} {g g' N c c' : Nat} {ra rb : List Nat} (ha : RRow w g ra) (hl : ra.length = N) (ha' : RRow w g' rb) (hl' : rb.length = N) (hN : N ≤ 512) (P Q : List Int → Prop) (W : List Int) (hP : RowOk P W ra) (hQ : RowOk Q W rb) :
  Calls Tryz.prog 77 #[.int .i64 5,.slice (some ⟨g,0,none⟩) N c,.slice (some ⟨g',0,none⟩) N c'] w fun e w'=>∃ v,e=.returned v∧∃ r,OwnR w.heap.size w' v r∧r.length=N∧RowOk (fun u=>P u∨Q u) W r∧Below w.heap.size w w':=by
 have hmk:=run_makeRow N (by omega)
 have H0:Hid (Mk w w.heap.size N (List.replicate N 0) (w.alloc (mkRow N))):=Mk.start N (by omega)
 have HRA:Hid (RRow w g ra∧ra.length=N∧RowOk P W ra):=⟨ha,hl,hP⟩
 have HRB:Hid (RRow w g' rb∧rb.length=N∧RowOk Q W rb):=⟨ha',hl',hQ⟩
 have HW:Hid (W.length+1=N):=hP.1.symm.trans hl
 clear ha hl hP ha' hl' hQ
 go_enter Tryz.func77,Tryz.ntmps77
 go_wp2_with fail
 go_loopw [8] (fun vi wr=>∃ (i:Nat) (r:List Nat),i≤N∧vi=.int .i64 (i:Int)∧Mk w w.heap.size N r wr∧(∀ p,p<i→EndsOk (fun u=>P u∨Q u) W p (r.getD p 0))∧(∀ p,i≤p→r.getD p 0=0)) (fun vi _=>N - (intOf vi).toNat)
 case atStart=>exact ⟨0,_,Nat.zero_le _,rfl,H0.out,fun p hp=>by omega,fun p _=>rep_get N p⟩
 case round =>
  clear H0 hmk
  obtain ⟨i,r,hi,rfl,hmk,hdone,hrest⟩:=hrel
  have HM:Hid (Mk w w.heap.size N r wr):=hmk
  have HD:Hid ((∀ p,p<i→EndsOk (fun u=>P u∨Q u) W p (r.getD p 0))∧(∀ p,i≤p→r.getD p 0=0)):=⟨hdone,hrest⟩
  clear hmk hdone hrest
  by_cases hlt : i < N
  ·have hiI:(i:Int)<N:=by omega
   obtain ⟨A,hA⟩:∃ A,ra.getD i 0=A:=⟨_,rfl⟩
   obtain ⟨B,hB⟩:∃ B,rb.getD i 0=B:=⟨_,rfl⟩
   have HAA:Hid (ra.getD i 0=A∧rb.getD i 0=B):=⟨hA,hB⟩
   clear hA hB
   have HLT:Hid (i<N):=hlt
   go_wp2_with fail
   go_loopw [9] (fun vj wr=>∃ (j:Nat) (r:List Nat),i≤j∧j≤N∧vj=.int .i64 (j:Int)∧Mk w w.heap.size N r wr∧NotAt (fun u=>P u∨Q u) W i r∧TwGot (fun x y=>x || y) A B i j (r.getD i 0)) (fun vj _=>N - (intOf vj).toNat)
   case atStart=>exact ⟨i,r,Nat.le_refl _,by omega,rfl,HM.out,⟨HD.out.1,fun p hp=>HD.out.2 p (by omega)⟩,fun q=>by rw [HD.out.2 i (Nat.le_refl _)];rw [decide_eq_false (by omega)];simp⟩
   case round =>
    clear HM HD
    obtain ⟨j,r,hij,hj,rfl,hmk,hat,hX⟩:=hrel
    have HM:Hid (Mk w w.heap.size N r wr):=hmk
    have HAT:Hid (NotAt (fun u=>P u∨Q u) W i r∧TwGot (fun x y=>x || y) A B i j (r.getD i 0)):=⟨hat,hX⟩
    clear hmk hat hX
    have HIJ:Hid (i≤j):=hij
    by_cases hjl : j < N
    ·have hjI:(j:Int)<N:=by omega
     have hj5:j<512:=by omega
     have hra:=HRA.out.1.below HM.out.below
     have hgl:=hra.lt
     obtain ⟨c0,c1,c2,c3,c4,c5,c6,c7⟩:=hra.at8 i (by rw [HRA.out.2.1];exact hlt)
     rw [HAA.out.1] at c0 c1 c2 c3 c4 c5 c6 c7
     have HJL:Hid (j<N):=hjl
     clear hra
     go_wp2_with fail
     refine (rhas6_any A j hj5 _).mono ?_
     rintro e w3 ⟨rfl,hb3⟩
     have HM3:Hid (Mk w w.heap.size N r w3):=HM.out.stay hb3
     clear hb3 HM c0 c1 c2 c3 c4 c5 c6 c7 hgl
     have hrb:=HRB.out.1.below HM3.out.below
     have hgl':=hrb.lt
     obtain ⟨c0,c1,c2,c3,c4,c5,c6,c7⟩:=hrb.at8 i (by rw [HRB.out.2.1];exact hlt)
     rw [HAA.out.2] at c0 c1 c2 c3 c4 c5 c6 c7
     clear hrb
     obtain ⟨x,hx⟩:∃ x,A.testBit j=x:=⟨_,rfl⟩
     rw [hx]
     go_wp2_with fail
     refine (rhas6_any B j hj5 _).mono ?_
     rintro e w4 ⟨rfl,hb4⟩
     have HM4:Hid (Mk w w.heap.size N r w4):=HM3.out.stay hb4
     clear hb4 HM3 c0 c1 c2 c3 c4 c5 c6 c7 hgl'
     obtain ⟨y,hy⟩:∃ y,B.testBit j=y:=⟨_,rfl⟩
     rw [hy]
     have HXY:Hid (A.testBit j=x∧B.testBit j=y):=⟨hx,hy⟩
     clear hx hy
     cases x <;> cases y
     ·have HF:Hid (TwGot (fun x y=>x || y) A B i (j+1) (r.getD i 0)):=HAT.out.2.skip (by rw [HXY.out.1,HXY.out.2];rfl)
      go_wp2_with fail
      go_roundw
      case rel=>exact ⟨j+1,r,by have:=HIJ.out;omega,HJL.out,by go_num,HM4.out,HAT.out.1,HF.out⟩
      case measure=>have:=HJL.out;simp [intOf];omega
     ·obtain ⟨⟨a0,a1,a2,a3,a4,a5,a6,a7⟩,_⟩:=HM4.out.own.at8 HM4.out.len i hlt
      have hgl:=HM4.out.own.low.2
      have HG:Hid (TwGot (fun x y=>x || y) A B i (j+1) (r.getD i 0 ||| 2 ^ j)):=HAT.out.2.put (by rw [HXY.out.1,HXY.out.2];rfl) HIJ.out
      obtain ⟨Y,hY⟩:∃ Y,r.getD i 0=Y:=⟨_,rfl⟩
      rw [hY] at a0 a1 a2 a3 a4 a5 a6 a7 HG
      clear hY
      go_wp2_with fail
      refine (rput6_any Y j hj5 _).mono ?_
      rintro e w5 ⟨rfl,hb5⟩
      have HM5:Hid (Mk w w.heap.size N r w5):=HM4.out.stay hb5
      obtain ⟨⟨b0,b1,b2,b3,b4,b5,b6,b7⟩,⟨f0,f1,f2,f3,f4,f5,f6,f7⟩⟩:=HM5.out.own.at8 HM5.out.len i hlt
      have hgl5:=HM5.out.own.low.2
      obtain ⟨X,hX⟩:∃ X,Y ||| 2 ^ j=X:=⟨_,rfl⟩
      rw [hX] at HG ⊢
      have HF:Hid (Mk w w.heap.size N (r.set i X) (put8 w5 w.heap.size (i * 8) X)∧NotAt (fun u=>P u∨Q u) W i (r.set i X)∧TwGot (fun x y=>x || y) A B i (j+1) ((r.set i X).getD i 0)):=by
       have hil:i<r.length:=by rw [HM5.out.len];exact hlt
       refine ⟨HM5.out.put i X hlt,HAT.out.1.set X hil,?_⟩
       rw [set_get r i i X hil,if_pos rfl]
       exact HG.out
      clear hX hb5 HM4 HM5 a0 a1 a2 a3 a4 a5 a6 a7 hgl
      unfold setV cellsF
      go_wp2_with fail
      go_roundw
      case rel=>exact ⟨j+1,_,by have:=HIJ.out;omega,HJL.out,by go_num,HF.out.1,HF.out.2.1,HF.out.2.2⟩
      case measure=>have:=HJL.out;simp [intOf];omega
     ·obtain ⟨⟨a0,a1,a2,a3,a4,a5,a6,a7⟩,_⟩:=HM4.out.own.at8 HM4.out.len i hlt
      have hgl:=HM4.out.own.low.2
      have HG:Hid (TwGot (fun x y=>x || y) A B i (j+1) (r.getD i 0 ||| 2 ^ j)):=HAT.out.2.put (by rw [HXY.out.1,HXY.out.2];rfl) HIJ.out
      obtain ⟨Y,hY⟩:∃ Y,r.getD i 0=Y:=⟨_,rfl⟩
      rw [hY] at a0 a1 a2 a3 a4 a5 a6 a7 HG
      clear hY
      go_wp2_with fail
      refine (rput6_any Y j hj5 _).mono ?_
      rintro e w5 ⟨rfl,hb5⟩
      have HM5:Hid (Mk w w.heap.size N r w5):=HM4.out.stay hb5
      obtain ⟨⟨b0,b1,b2,b3,b4,b5,b6,b7⟩,⟨f0,f1,f2,f3,f4,f5,f6,f7⟩⟩:=HM5.out.own.at8 HM5.out.len i hlt
      have hgl5:=HM5.out.own.low.2
      obtain ⟨X,hX⟩:∃ X,Y ||| 2 ^ j=X:=⟨_,rfl⟩
      rw [hX] at HG ⊢
      have HF:Hid (Mk w w.heap.size N (r.set i X) (put8 w5 w.heap.size (i * 8) X)∧NotAt (fun u=>P u∨Q u) W i (r.set i X)∧TwGot (fun x y=>x || y) A B i (j+1) ((r.set i X).getD i 0)):=by
       have hil:i<r.length:=by rw [HM5.out.len];exact hlt
       refine ⟨HM5.out.put i X hlt,HAT.out.1.set X hil,?_⟩
       rw [set_get r i i X hil,if_pos rfl]
       exact HG.out
      clear hX hb5 HM4 HM5 a0 a1 a2 a3 a4 a5 a6 a7 hgl
      unfold setV cellsF
      go_wp2_with fail
      go_roundw
      case rel=>exact ⟨j+1,_,by have:=HIJ.out;omega,HJL.out,by go_num,HF.out.1,HF.out.2.1,HF.out.2.2⟩
      case measure=>have:=HJL.out;simp [intOf];omega
     ·obtain ⟨⟨a0,a1,a2,a3,a4,a5,a6,a7⟩,_⟩:=HM4.out.own.at8 HM4.out.len i hlt
      have hgl:=HM4.out.own.low.2
      have HG:Hid (TwGot (fun x y=>x || y) A B i (j+1) (r.getD i 0 ||| 2 ^ j)):=HAT.out.2.put (by rw [HXY.out.1,HXY.out.2];rfl) HIJ.out
      obtain ⟨Y,hY⟩:∃ Y,r.getD i 0=Y:=⟨_,rfl⟩
      rw [hY] at a0 a1 a2 a3 a4 a5 a6 a7 HG
      clear hY
      go_wp2_with fail
      refine (rput6_any Y j hj5 _).mono ?_
      rintro e w5 ⟨rfl,hb5⟩
      have HM5:Hid (Mk w w.heap.size N r w5):=HM4.out.stay hb5
      obtain ⟨⟨b0,b1,b2,b3,b4,b5,b6,b7⟩,⟨f0,f1,f2,f3,f4,f5,f6,f7⟩⟩:=HM5.out.own.at8 HM5.out.len i hlt
      have hgl5:=HM5.out.own.low.2
      obtain ⟨X,hX⟩:∃ X,Y ||| 2 ^ j=X:=⟨_,rfl⟩
      rw [hX] at HG ⊢
      have HF:Hid (Mk w w.heap.size N (r.set i X) (put8 w5 w.heap.size (i * 8) X)∧NotAt (fun u=>P u∨Q u) W i (r.set i X)∧TwGot (fun x y=>x || y) A B i (j+1) ((r.set i X).getD i 0)):=by
       have hil:i<r.length:=by rw [HM5.out.len];exact hlt
       refine ⟨HM5.out.put i X hlt,HAT.out.1.set X hil,?_⟩
       rw [set_get r i i X hil,if_pos rfl]
       exact HG.out
      clear hX hb5 HM4 HM5 a0 a1 a2 a3 a4 a5 a6 a7 hgl
      unfold setV cellsF
      go_wp2_with fail
      go_roundw
      case rel=>exact ⟨j+1,_,by have:=HIJ.out;omega,HJL.out,by go_num,HF.out.1,HF.out.2.1,HF.out.2.2⟩
      case measure=>have:=HJL.out;simp [intOf];omega
    ·have hjI:¬ (j:Int)<N:=by omega
     have HF:Hid ((∀ p,p<i+1→EndsOk (fun u=>P u∨Q u) W p (r.getD p 0))∧(∀ p,i+1≤p→r.getD p 0=0)):=by
      have hil:i≤W.length:=by have:=HW.out;have:=HLT.out;omega
      have hAO:EndsOk P W i A:=by rw [← HAA.out.1];exact HRA.out.2.2.2 i hil
      have hBO:EndsOk Q W i B:=by rw [← HAA.out.2];exact HRB.out.2.2.2 i hil
      refine HAT.out.1.next ?_
      refine ends_or hAO hBO (fun q=>?_)
      rw [HAT.out.2 q]
      by_cases e:i≤q∧q<j
      ·rw [decide_eq_true e,Bool.true_and]
      ·have h1:A.testBit q=false:=by
        cases h : A.testBit q with
        | false=>rfl
        | true=>have:=(hAO q).1 h;have:=HW.out;omega
       have h2:B.testBit q=false:=by
        cases h : B.testBit q with
        | false=>rfl
        | true=>have:=(hBO q).1 h;have:=HW.out;omega
       rw [h1,h2]
       simp
     go_wp2_with fail
     go_roundw
     case rel=>exact ⟨i+1,r,HLT.out,by go_num,HM.out,HF.out.1,HF.out.2⟩
     case measure=>have:=HLT.out;simp [intOf];omega
  ·obtain rfl:i=N:=by omega
   have hiI:¬ (i:Int)<i:=by omega
   go_wp2_with fail
   go_ret
   exact ⟨_,rfl,r,HM.out.own,HM.out.len,⟨by rw [HM.out.len,HW.out],fun p hp=>HD.out.1 p (by have:=HW.out;omega)⟩,HM.out.below⟩

set_option maxHeartbeats 8000000 in
set_option maxRecDepth 100000 in
theorem rtwo6_and {w : World} {g g' N c c' : Nat} {ra rb : List Nat} (ha : RRow w g ra) (hl : ra.length = N) (ha' : RRow w g' rb) (hl' : rb.length = N) (hN : N ≤ 512) (P Q : List Int → Prop) (W : List Int) (hP : RowOk P W ra) (hQ : RowOk Q W rb) :
  Calls Tryz.prog 77 #[.int .i64 6,.slice (some ⟨g,0,none⟩) N c,.slice (some ⟨g',0,none⟩) N c'] w fun e w'=>∃ v,e=.returned v∧∃ r,OwnR w.heap.size w' v r∧r.length=N∧RowOk (fun u=>P u∧Q u) W r∧Below w.heap.size w w':=by
 have hmk:=run_makeRow N (by omega)
 have H0:Hid (Mk w w.heap.size N (List.replicate N 0) (w.alloc (mkRow N))):=Mk.start N (by omega)
 have HRA:Hid (RRow w g ra∧ra.length=N∧RowOk P W ra):=⟨ha,hl,hP⟩
 have HRB:Hid (RRow w g' rb∧rb.length=N∧RowOk Q W rb):=⟨ha',hl',hQ⟩
 have HW:Hid (W.length+1=N):=hP.1.symm.trans hl
 clear ha hl hP ha' hl' hQ
 go_enter Tryz.func77,Tryz.ntmps77
 go_wp2_with fail
 go_loopw [8] (fun vi wr=>∃ (i:Nat) (r:List Nat),i≤N∧vi=.int .i64 (i:Int)∧Mk w w.heap.size N r wr∧(∀ p,p<i→EndsOk (fun u=>P u∧Q u) W p (r.getD p 0))∧(∀ p,i≤p→r.getD p 0=0)) (fun vi _=>N - (intOf vi).toNat)
 case atStart=>exact ⟨0,_,Nat.zero_le _,rfl,H0.out,fun p hp=>by omega,fun p _=>rep_get N p⟩
 case round =>
  clear H0 hmk
  obtain ⟨i,r,hi,rfl,hmk,hdone,hrest⟩:=hrel
  have HM:Hid (Mk w w.heap.size N r wr):=hmk
  have HD:Hid ((∀ p,p<i→EndsOk (fun u=>P u∧Q u) W p (r.getD p 0))∧(∀ p,i≤p→r.getD p 0=0)):=⟨hdone,hrest⟩
  clear hmk hdone hrest
  by_cases hlt : i < N
  ·have hiI:(i:Int)<N:=by omega
   obtain ⟨A,hA⟩:∃ A,ra.getD i 0=A:=⟨_,rfl⟩
   obtain ⟨B,hB⟩:∃ B,rb.getD i 0=B:=⟨_,rfl⟩
   have HAA:Hid (ra.getD i 0=A∧rb.getD i 0=B):=⟨hA,hB⟩
   clear hA hB
   have HLT:Hid (i<N):=hlt
   go_wp2_with fail
   go_loopw [9] (fun vj wr=>∃ (j:Nat) (r:List Nat),i≤j∧j≤N∧vj=.int .i64 (j:Int)∧Mk w w.heap.size N r wr∧NotAt (fun u=>P u∧Q u) W i r∧TwGot (fun x y=>x && y) A B i j (r.getD i 0)) (fun vj _=>N - (intOf vj).toNat)
   case atStart=>exact ⟨i,r,Nat.le_refl _,by omega,rfl,HM.out,⟨HD.out.1,fun p hp=>HD.out.2 p (by omega)⟩,fun q=>by rw [HD.out.2 i (Nat.le_refl _)];rw [decide_eq_false (by omega)];simp⟩
   case round =>
    clear HM HD
    obtain ⟨j,r,hij,hj,rfl,hmk,hat,hX⟩:=hrel
    have HM:Hid (Mk w w.heap.size N r wr):=hmk
    have HAT:Hid (NotAt (fun u=>P u∧Q u) W i r∧TwGot (fun x y=>x && y) A B i j (r.getD i 0)):=⟨hat,hX⟩
    clear hmk hat hX
    have HIJ:Hid (i≤j):=hij
    by_cases hjl : j < N
    ·have hjI:(j:Int)<N:=by omega
     have hj5:j<512:=by omega
     have hra:=HRA.out.1.below HM.out.below
     have hgl:=hra.lt
     obtain ⟨c0,c1,c2,c3,c4,c5,c6,c7⟩:=hra.at8 i (by rw [HRA.out.2.1];exact hlt)
     rw [HAA.out.1] at c0 c1 c2 c3 c4 c5 c6 c7
     have HJL:Hid (j<N):=hjl
     clear hra
     go_wp2_with fail
     refine (rhas6_any A j hj5 _).mono ?_
     rintro e w3 ⟨rfl,hb3⟩
     have HM3:Hid (Mk w w.heap.size N r w3):=HM.out.stay hb3
     clear hb3 HM c0 c1 c2 c3 c4 c5 c6 c7 hgl
     have hrb:=HRB.out.1.below HM3.out.below
     have hgl':=hrb.lt
     obtain ⟨c0,c1,c2,c3,c4,c5,c6,c7⟩:=hrb.at8 i (by rw [HRB.out.2.1];exact hlt)
     rw [HAA.out.2] at c0 c1 c2 c3 c4 c5 c6 c7
     clear hrb
     obtain ⟨x,hx⟩:∃ x,A.testBit j=x:=⟨_,rfl⟩
     rw [hx]
     go_wp2_with fail
     refine (rhas6_any B j hj5 _).mono ?_
     rintro e w4 ⟨rfl,hb4⟩
     have HM4:Hid (Mk w w.heap.size N r w4):=HM3.out.stay hb4
     clear hb4 HM3 c0 c1 c2 c3 c4 c5 c6 c7 hgl'
     obtain ⟨y,hy⟩:∃ y,B.testBit j=y:=⟨_,rfl⟩
     rw [hy]
     have HXY:Hid (A.testBit j=x∧B.testBit j=y):=⟨hx,hy⟩
     clear hx hy
     cases x <;> cases y
     ·have HF:Hid (TwGot (fun x y=>x && y) A B i (j+1) (r.getD i 0)):=HAT.out.2.skip (by rw [HXY.out.1,HXY.out.2];rfl)
      go_wp2_with fail
      go_roundw
      case rel=>exact ⟨j+1,r,by have:=HIJ.out;omega,HJL.out,by go_num,HM4.out,HAT.out.1,HF.out⟩
      case measure=>have:=HJL.out;simp [intOf];omega
     ·have HF:Hid (TwGot (fun x y=>x && y) A B i (j+1) (r.getD i 0)):=HAT.out.2.skip (by rw [HXY.out.1,HXY.out.2];rfl)
      go_wp2_with fail
      go_roundw
      case rel=>exact ⟨j+1,r,by have:=HIJ.out;omega,HJL.out,by go_num,HM4.out,HAT.out.1,HF.out⟩
      case measure=>have:=HJL.out;simp [intOf];omega
     ·have HF:Hid (TwGot (fun x y=>x && y) A B i (j+1) (r.getD i 0)):=HAT.out.2.skip (by rw [HXY.out.1,HXY.out.2];rfl)
      go_wp2_with fail
      go_roundw
      case rel=>exact ⟨j+1,r,by have:=HIJ.out;omega,HJL.out,by go_num,HM4.out,HAT.out.1,HF.out⟩
      case measure=>have:=HJL.out;simp [intOf];omega
     ·obtain ⟨⟨a0,a1,a2,a3,a4,a5,a6,a7⟩,_⟩:=HM4.out.own.at8 HM4.out.len i hlt
      have hgl:=HM4.out.own.low.2
      have HG:Hid (TwGot (fun x y=>x && y) A B i (j+1) (r.getD i 0 ||| 2 ^ j)):=HAT.out.2.put (by rw [HXY.out.1,HXY.out.2];rfl) HIJ.out
      obtain ⟨Y,hY⟩:∃ Y,r.getD i 0=Y:=⟨_,rfl⟩
      rw [hY] at a0 a1 a2 a3 a4 a5 a6 a7 HG
      clear hY
      go_wp2_with fail
      refine (rput6_any Y j hj5 _).mono ?_
      rintro e w5 ⟨rfl,hb5⟩
      have HM5:Hid (Mk w w.heap.size N r w5):=HM4.out.stay hb5
      obtain ⟨⟨b0,b1,b2,b3,b4,b5,b6,b7⟩,⟨f0,f1,f2,f3,f4,f5,f6,f7⟩⟩:=HM5.out.own.at8 HM5.out.len i hlt
      have hgl5:=HM5.out.own.low.2
      obtain ⟨X,hX⟩:∃ X,Y ||| 2 ^ j=X:=⟨_,rfl⟩
      rw [hX] at HG ⊢
      have HF:Hid (Mk w w.heap.size N (r.set i X) (put8 w5 w.heap.size (i * 8) X)∧NotAt (fun u=>P u∧Q u) W i (r.set i X)∧TwGot (fun x y=>x && y) A B i (j+1) ((r.set i X).getD i 0)):=by
       have hil:i<r.length:=by rw [HM5.out.len];exact hlt
       refine ⟨HM5.out.put i X hlt,HAT.out.1.set X hil,?_⟩
       rw [set_get r i i X hil,if_pos rfl]
       exact HG.out
      clear hX hb5 HM4 HM5 a0 a1 a2 a3 a4 a5 a6 a7 hgl
      unfold setV cellsF
      go_wp2_with fail
      go_roundw
      case rel=>exact ⟨j+1,_,by have:=HIJ.out;omega,HJL.out,by go_num,HF.out.1,HF.out.2.1,HF.out.2.2⟩
      case measure=>have:=HJL.out;simp [intOf];omega
    ·have hjI:¬ (j:Int)<N:=by omega
     have HF:Hid ((∀ p,p<i+1→EndsOk (fun u=>P u∧Q u) W p (r.getD p 0))∧(∀ p,i+1≤p→r.getD p 0=0)):=by
      have hil:i≤W.length:=by have:=HW.out;have:=HLT.out;omega
      have hAO:EndsOk P W i A:=by rw [← HAA.out.1];exact HRA.out.2.2.2 i hil
      have hBO:EndsOk Q W i B:=by rw [← HAA.out.2];exact HRB.out.2.2.2 i hil
      refine HAT.out.1.next ?_
      refine ends_and hAO hBO (fun q=>?_)
      rw [HAT.out.2 q]
      by_cases e:i≤q∧q<j
      ·rw [decide_eq_true e,Bool.true_and]
      ·have h1:A.testBit q=false:=by
        cases h : A.testBit q with
        | false=>rfl
        | true=>have:=(hAO q).1 h;have:=HW.out;omega
       have h2:B.testBit q=false:=by
        cases h : B.testBit q with
        | false=>rfl
        | true=>have:=(hBO q).1 h;have:=HW.out;omega
       rw [h1,h2]
       simp
     go_wp2_with fail
     go_roundw
     case rel=>exact ⟨i+1,r,HLT.out,by go_num,HM.out,HF.out.1,HF.out.2⟩
     case measure=>have:=HLT.out;simp [intOf];omega
  ·obtain rfl:i=N:=by omega
   have hiI:¬ (i:Int)<i:=by omega
   go_wp2_with fail
   go_ret
   exact ⟨_,rfl,r,HM.out.own,HM.out.len,⟨by rw [HM.out.len,HW.out],fun p hp=>HD.out.1 p (by have:=HW.out;omega)⟩,HM.out.below⟩

set_option maxHeartbeats 8000000 in
set_option maxRecDepth 100000 in
theorem rtwo6_cat {w : World} {g g' N c c' : Nat} {ra rb : List Nat} (ha : RRow w g ra) (hl : ra.length = N) (ha' : RRow w g' rb) (hl' : rb.length = N) (hN : N ≤ 512) (P Q : List Int → Prop) (W : List Int) (hP : RowOk P W ra) (hQ : RowOk Q W rb) :
  Calls Tryz.prog 77 #[.int .i64 7,.slice (some ⟨g,0,none⟩) N c,.slice (some ⟨g',0,none⟩) N c'] w fun e w'=>∃ v,e=.returned v∧∃ r,OwnR w.heap.size w' v r∧r.length=N∧RowOk (fun u=>∃ x y,u=x ++ y∧P x∧Q y) W r∧Below w.heap.size w w':=by
 have hmk:=run_makeRow N (by omega)
 have H0:Hid (Mk w w.heap.size N (List.replicate N 0) (w.alloc (mkRow N))):=Mk.start N (by omega)
 have HRA:Hid (RRow w g ra∧ra.length=N∧RowOk P W ra):=⟨ha,hl,hP⟩
 have HRB:Hid (RRow w g' rb∧rb.length=N∧RowOk Q W rb):=⟨ha',hl',hQ⟩
 have HW:Hid (W.length+1=N):=hP.1.symm.trans hl
 clear ha hl hP ha' hl' hQ
 go_enter Tryz.func77,Tryz.ntmps77
 go_wp2_with fail
 go_loopw [8] (fun vi wr=>∃ (i:Nat) (r:List Nat),i≤N∧vi=.int .i64 (i:Int)∧Mk w w.heap.size N r wr∧(∀ p,p<i→EndsOk (fun u=>∃ x y,u=x ++ y∧P x∧Q y) W p (r.getD p 0))∧(∀ p,i≤p→r.getD p 0=0)) (fun vi _=>N - (intOf vi).toNat)
 case atStart=>exact ⟨0,_,Nat.zero_le _,rfl,H0.out,fun p hp=>by omega,fun p _=>rep_get N p⟩
 case round =>
  clear H0 hmk
  obtain ⟨i,r,hi,rfl,hmk,hdone,hrest⟩:=hrel
  have HM:Hid (Mk w w.heap.size N r wr):=hmk
  have HD:Hid ((∀ p,p<i→EndsOk (fun u=>∃ x y,u=x ++ y∧P x∧Q y) W p (r.getD p 0))∧(∀ p,i≤p→r.getD p 0=0)):=⟨hdone,hrest⟩
  clear hmk hdone hrest
  by_cases hlt : i < N
  ·have hiI:(i:Int)<N:=by omega
   obtain ⟨A,hA⟩:∃ A,ra.getD i 0=A:=⟨_,rfl⟩
   obtain ⟨B,hB⟩:∃ B,rb.getD i 0=B:=⟨_,rfl⟩
   have HAA:Hid (ra.getD i 0=A∧rb.getD i 0=B):=⟨hA,hB⟩
   clear hA hB
   have HLT:Hid (i<N):=hlt
   go_wp2_with fail
   go_loopw [9] (fun vj wr=>∃ (j:Nat) (r:List Nat),i≤j∧j≤N∧vj=.int .i64 (j:Int)∧Mk w w.heap.size N r wr∧NotAt (fun u=>∃ x y,u=x ++ y∧P x∧Q y) W i r∧CtGot A rb i j (r.getD i 0)) (fun vj _=>N - (intOf vj).toNat)
   case atStart=>exact ⟨i,r,Nat.le_refl _,by omega,rfl,HM.out,⟨HD.out.1,fun p hp=>HD.out.2 p (by omega)⟩,fun q=>by rw [HD.out.2 i (Nat.le_refl _)];simp;omega⟩
   case round =>
    clear HM HD
    obtain ⟨j,r,hij,hj,rfl,hmk,hat,hX⟩:=hrel
    have HM:Hid (Mk w w.heap.size N r wr):=hmk
    have HAT:Hid (NotAt (fun u=>∃ x y,u=x ++ y∧P x∧Q y) W i r∧CtGot A rb i j (r.getD i 0)):=⟨hat,hX⟩
    clear hmk hat hX
    have HIJ:Hid (i≤j):=hij
    by_cases hjl : j < N
    ·have hjI:(j:Int)<N:=by omega
     have hj5:j<512:=by omega
     have hra:=HRA.out.1.below HM.out.below
     have hgl:=hra.lt
     obtain ⟨c0,c1,c2,c3,c4,c5,c6,c7⟩:=hra.at8 i (by rw [HRA.out.2.1];exact hlt)
     rw [HAA.out.1] at c0 c1 c2 c3 c4 c5 c6 c7
     have HJL:Hid (j<N):=hjl
     clear hra
     go_wp2_with fail
     refine (rhas6_any A j hj5 _).mono ?_
     rintro e w3 ⟨rfl,hb3⟩
     have HM3:Hid (Mk w w.heap.size N r w3):=HM.out.stay hb3
     clear hb3 HM c0 c1 c2 c3 c4 c5 c6 c7 hgl
     have hrb:=HRB.out.1.below HM3.out.below
     have hgl':=hrb.lt
     obtain ⟨c0,c1,c2,c3,c4,c5,c6,c7⟩:=hrb.at8 i (by rw [HRB.out.2.1];exact hlt)
     rw [HAA.out.2] at c0 c1 c2 c3 c4 c5 c6 c7
     clear hrb
     obtain ⟨x,hx⟩:∃ x,A.testBit j=x:=⟨_,rfl⟩
     rw [hx]
     go_wp2_with fail
     refine (rhas6_any B j hj5 _).mono ?_
     rintro e w4 ⟨rfl,hb4⟩
     have HM4:Hid (Mk w w.heap.size N r w4):=HM3.out.stay hb4
     clear hb4 HM3 c0 c1 c2 c3 c4 c5 c6 c7 hgl'
     obtain ⟨y,hy⟩:∃ y,B.testBit j=y:=⟨_,rfl⟩
     rw [hy]
     have HXY:Hid (A.testBit j=x∧B.testBit j=y):=⟨hx,hy⟩
     clear hx hy
     cases x <;> cases y
     ·have HF:Hid (CtGot A rb i (j+1) (r.getD i 0)):=HAT.out.2.skip HXY.out.1
      go_wp2_with fail
      go_roundw
      case rel=>exact ⟨j+1,r,by have:=HIJ.out;omega,HJL.out,by go_num,HM4.out,HAT.out.1,HF.out⟩
      case measure=>have:=HJL.out;simp [intOf];omega
     ·have HF:Hid (CtGot A rb i (j+1) (r.getD i 0)):=HAT.out.2.skip HXY.out.1
      go_wp2_with fail
      go_roundw
      case rel=>exact ⟨j+1,r,by have:=HIJ.out;omega,HJL.out,by go_num,HM4.out,HAT.out.1,HF.out⟩
      case measure=>have:=HJL.out;simp [intOf];omega
     ·obtain ⟨⟨a0,a1,a2,a3,a4,a5,a6,a7⟩,_⟩:=HM4.out.own.at8 HM4.out.len i hlt
      have hgl:=HM4.out.own.low.2
      have hrb:=HRB.out.1.below HM4.out.below
      have hgl':=hrb.lt
      obtain ⟨b0,b1,b2,b3,b4,b5,b6,b7⟩:=hrb.at8 j (by rw [HRB.out.2.1];exact hjl)
      have HG:Hid (CtGot A rb i (j+1) (orN (r.getD i 0) (rb.getD j 0))):=HAT.out.2.join HXY.out.1 HIJ.out
      obtain ⟨X,hX⟩:∃ X,r.getD i 0=X:=⟨_,rfl⟩
      obtain ⟨Y,hY⟩:∃ Y,rb.getD j 0=Y:=⟨_,rfl⟩
      rw [hX] at a0 a1 a2 a3 a4 a5 a6 a7 HG
      rw [hY] at b0 b1 b2 b3 b4 b5 b6 b7 HG
      obtain ⟨Z,hZ⟩:∃ Z,orN X Y=Z:=⟨_,rfl⟩
      have HZ:Hid (orN X Y=Z):=hZ
      rw [hZ] at HG
      clear hX hY hZ hrb
      go_wp2_with fail
      go_region_with (go_at_call 102;refine (rjoin6_any X Y _).mono ?_;rintro e w5 ⟨rfl,hb5'⟩;rw [HZ.out];have hb5:Below w4.heap.size w4 w5:=go_on (Below.refl _ _).drew hb5';have HM5:Hid (Mk w w.heap.size N r w5):=HM4.out.stay hb5;obtain ⟨⟨d0,d1,d2,d3,d4,d5,d6,d7⟩,⟨f0,f1,f2,f3,f4,f5,f6,f7⟩⟩:=HM5.out.own.at8 HM5.out.len i HLT.out;have hgl5:=HM5.out.own.low.2;unfold setV cellsF)
      all_goals (
       have HF:Hid (Mk w w.heap.size N (r.set i Z) (put8 w5 w.heap.size (i * 8) Z)∧NotAt (fun u=>∃ x y,u=x ++ y∧P x∧Q y) W i (r.set i Z)∧CtGot A rb i (j+1) ((r.set i Z).getD i 0)):=by
        have hil:i<r.length:=by rw [HM5.out.len];exact HLT.out
        refine ⟨HM5.out.put i Z HLT.out,HAT.out.1.set Z hil,?_⟩
        rw [set_get r i i Z hil,if_pos rfl]
        exact HG.out
       clear hb5 hb5' HM5 d0 d1 d2 d3 d4 d5 d6 d7 f0 f1 f2 f3 f4 f5 f6 f7
       go_wp2_with fail
       go_roundw
       case rel=>exact ⟨j+1,_,by have:=HIJ.out;omega,HJL.out,by go_num,HF.out.1,HF.out.2.1,HF.out.2.2⟩
       case measure=>have:=HJL.out;simp [intOf];omega)
     ·obtain ⟨⟨a0,a1,a2,a3,a4,a5,a6,a7⟩,_⟩:=HM4.out.own.at8 HM4.out.len i hlt
      have hgl:=HM4.out.own.low.2
      have hrb:=HRB.out.1.below HM4.out.below
      have hgl':=hrb.lt
      obtain ⟨b0,b1,b2,b3,b4,b5,b6,b7⟩:=hrb.at8 j (by rw [HRB.out.2.1];exact hjl)
      have HG:Hid (CtGot A rb i (j+1) (orN (r.getD i 0) (rb.getD j 0))):=HAT.out.2.join HXY.out.1 HIJ.out
      obtain ⟨X,hX⟩:∃ X,r.getD i 0=X:=⟨_,rfl⟩
      obtain ⟨Y,hY⟩:∃ Y,rb.getD j 0=Y:=⟨_,rfl⟩
      rw [hX] at a0 a1 a2 a3 a4 a5 a6 a7 HG
      rw [hY] at b0 b1 b2 b3 b4 b5 b6 b7 HG
      obtain ⟨Z,hZ⟩:∃ Z,orN X Y=Z:=⟨_,rfl⟩
      have HZ:Hid (orN X Y=Z):=hZ
      rw [hZ] at HG
      clear hX hY hZ hrb
      go_wp2_with fail
      go_region_with (go_at_call 102;refine (rjoin6_any X Y _).mono ?_;rintro e w5 ⟨rfl,hb5'⟩;rw [HZ.out];have hb5:Below w4.heap.size w4 w5:=go_on (Below.refl _ _).drew hb5';have HM5:Hid (Mk w w.heap.size N r w5):=HM4.out.stay hb5;obtain ⟨⟨d0,d1,d2,d3,d4,d5,d6,d7⟩,⟨f0,f1,f2,f3,f4,f5,f6,f7⟩⟩:=HM5.out.own.at8 HM5.out.len i HLT.out;have hgl5:=HM5.out.own.low.2;unfold setV cellsF)
      all_goals (
       have HF:Hid (Mk w w.heap.size N (r.set i Z) (put8 w5 w.heap.size (i * 8) Z)∧NotAt (fun u=>∃ x y,u=x ++ y∧P x∧Q y) W i (r.set i Z)∧CtGot A rb i (j+1) ((r.set i Z).getD i 0)):=by
        have hil:i<r.length:=by rw [HM5.out.len];exact HLT.out
        refine ⟨HM5.out.put i Z HLT.out,HAT.out.1.set Z hil,?_⟩
        rw [set_get r i i Z hil,if_pos rfl]
        exact HG.out
       clear hb5 hb5' HM5 d0 d1 d2 d3 d4 d5 d6 d7 f0 f1 f2 f3 f4 f5 f6 f7
       go_wp2_with fail
       go_roundw
       case rel=>exact ⟨j+1,_,by have:=HIJ.out;omega,HJL.out,by go_num,HF.out.1,HF.out.2.1,HF.out.2.2⟩
       case measure=>have:=HJL.out;simp [intOf];omega)
    ·have hjI:¬ (j:Int)<N:=by omega
     have HF:Hid ((∀ p,p<i+1→EndsOk (fun u=>∃ x y,u=x ++ y∧P x∧Q y) W p (r.getD p 0))∧(∀ p,i+1≤p→r.getD p 0=0)):=by
      have hil:i≤W.length:=by have:=HW.out;have:=HLT.out;omega
      have hAO:EndsOk P W i A:=by rw [← HAA.out.1];exact HRA.out.2.2.2 i hil
      have hBO:EndsOk Q W i B:=by rw [← HAA.out.2];exact HRB.out.2.2.2 i hil
      refine HAT.out.1.next ?_
      refine ends_concat (B:=fun m=>rb.getD m 0) hil hAO (fun m hm=>HRB.out.2.2.2 m hm) (fun q=>?_)
      rw [HAT.out.2 q]
      constructor
      ·rintro ⟨m,h1,h2,h3,h4⟩
       exact ⟨m,h3,h4⟩
      ·rintro ⟨m,h3,h4⟩
       have:=(hAO m).1 h3
       have:=HW.out
       exact ⟨m,by omega,by omega,h3,h4⟩
     go_wp2_with fail
     go_roundw
     case rel=>exact ⟨i+1,r,HLT.out,by go_num,HM.out,HF.out.1,HF.out.2⟩
     case measure=>have:=HLT.out;simp [intOf];omega
  ·obtain rfl:i=N:=by omega
   have hiI:¬ (i:Int)<i:=by omega
   go_wp2_with fail
   go_ret
   exact ⟨_,rfl,r,HM.out.own,HM.out.len,⟨by rw [HM.out.len,HW.out],fun p hp=>HD.out.1 p (by have:=HW.out;omega)⟩,HM.out.below⟩
end Go.Proofs.YtfdhaknecjcjoaaGreatDoor
