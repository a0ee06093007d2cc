/- Dk Dr Dn Dx Dw Bu Bd, in one text. -/
import Derived.Test.YtfdhaknecjcjoaaGreatDoorPB
import Derived.BigQuiet
import Derived.Deep.DeepCutAuto
import Derived.BigRegion
namespace Go.Proofs.YtfdhaknecjcjoaaGreatDoor
open Go.RowKit Go.Lib

/-- A place, brought into 0 to 512. -/
def clampN (i:Int):Nat:=(max 0 (min i 512)).toNat
/-- What Rank answers. -/
def rankN (N:Nat) (i:Int):Nat:=cnt (clampN i) N
end Go.Proofs.YtfdhaknecjcjoaaGreatDoor

namespace Go.Proofs.YtfdhaknecjcjoaaGreatDoor
open Go.RowKit Go.Lib

/-- The table in its variable. -/
def TzTab (w:World):Prop:=∀ j,j<64→w.cell? ⟨1,j,none⟩=some (.int .u8 ((Lib.deBruijn64tab.getD j 0:Nat):Int))
theorem tz_key (x a : Nat) (hx : x < 18446744073709551616) (hx0 : x ≠ 0) (hlow : x &&& (18446744073709551616 - x) = a) :
  IntKind.u64.wrap (bits BinOp.and IntKind.u64 (x:Int) (IntKind.u64.wrap (-(x:Int))) * 285870213051353865) / 288230376151711744=((a * 285870213051353865 % 18446744073709551616 / 288230376151711744:Nat):Int):=by
 have e1:IntKind.u64.wrap (-(x:Int))=((18446744073709551616 - x:Nat):Int):=by rw [IntKind.wrap_u64];omega
 rw [e1,bits_and_u64_nat x _ hx (by omega),hlow,IntKind.wrap_u64]
 omega

set_option maxHeartbeats 1000000 in
theorem tz_core (x k idx : Nat) (w : World) (hx0 : ((x : Int) == 0) = false)
  (key : IntKind.u64.wrap (bits BinOp.and IntKind.u64 (x : Int) (IntKind.u64.wrap (-(x : Int))) * 285870213051353865) / 288230376151711744 = (idx : Int))
  (hi:idx<64) (hk:k<64) (hcell:w.cell? ⟨1,idx,none⟩=some (.int .u8 k)) :
  Calls Tryz.prog 168 #[.int .u64 x] w fun e w'=>e=.returned (.int .i64 k)∧w'=w:=by
 go_enter Tryz.func168,Tryz.ntmps168
 go_wp2_with (simp only [key])
 go_ret
 exact ⟨rfl,rfl⟩

theorem tz_any (x : Nat) (hx : x < 18446744073709551616) (hx0 : x ≠ 0) (w : World) (hT : TzTab w) :
  Calls Tryz.prog 168 #[.int .u64 x] w fun e w'=>e=.returned (.int .i64 (Lib.ctz 64 x:Nat))∧w'=w:=by
 obtain ⟨hlow,hk⟩:=Lib.lowest_bit 64 x hx0 hx
 obtain ⟨hi,htab⟩:=Lib.deBruijn64_at _ hk
 have hcell:=hT _ hi
 rw [htab] at hcell
 exact tz_core x _ _ w (by simp;omega) (tz_key x _ hx hx0 hlow) hi hk hcell

end Go.Proofs.YtfdhaknecjcjoaaGreatDoor

namespace Go.Proofs.YtfdhaknecjcjoaaGreatDoor
open Go.RowKit Go.Lib

/-- What Next answers. -/
def NextIs (N : Nat) (i n : Int) (ok : Bool) : Prop :=
 (ok=true∧∃ m:Nat,n=m∧i≤m∧N.testBit m=true∧∀ j:Nat,i≤j→j<m→N.testBit j=false)∨(ok=false∧n=0∧∀ j:Nat,i≤j→N.testBit j=false)
/-- How a call of Next ends. -/
def NextEnd (N:Nat) (i:Int) (e:Ending):Prop:=∃ n ok,e=.returned (.tuple #[.int .i64 n,.bool ok])∧NextIs N i n ok
theorem NextIs.one {N:Nat} {i n n':Int} {ok ok':Bool} (h:NextIs N i n ok) (h':NextIs N i n' ok'):n=n'∧ok=ok':=by
 rcases h with ⟨rfl,m,rfl,h1,h2,h3⟩ | ⟨rfl,rfl,h3⟩
 ·rcases h' with ⟨rfl,m',rfl,g1,g2,g3⟩ | ⟨rfl,rfl,g3⟩
  ·refine ⟨?_,rfl⟩
   by_cases e : m = m'
   ·rw [e]
   ·by_cases l : m < m'
    ·have:=g3 m h1 l;rw [h2] at this;simp at this
    ·have:=h3 m' g1 (by omega);rw [g2] at this;simp at this
  ·have:=g3 m h1;rw [h2] at this;simp at this
 ·rcases h' with ⟨rfl,m',rfl,g1,g2,g3⟩ | ⟨rfl,rfl,g3⟩
  ·have:=h3 m' g1;rw [g2] at this;simp at this
  ·exact ⟨rfl,rfl⟩
theorem ctz_bits (r:Nat) (h0:r≠0) (hr:r<18446744073709551616):Lib.ctz 64 r<64∧r.testBit (Lib.ctz 64 r)=true∧∀ j,j<Lib.ctz 64 r→r.testBit j=false:=by
 obtain ⟨m,hm,hk⟩:=Lib.ctzFrom_spec 64 r (by omega) hr
 have e:Lib.ctz 64 r=Lib.ctzFrom 64 r:=by simp [Lib.ctz,h0]
 rw [e]
 generalize Lib.ctzFrom 64 r = t at hm hk
 refine ⟨hk,?_,?_⟩
 ·rw [hm,Nat.mul_comm,Nat.testBit_mul_two_pow]
  simp [Nat.testBit_zero]
 ·intro j hj
  rw [hm,Nat.mul_comm,Nat.testBit_mul_two_pow,decide_eq_false (by omega),Bool.false_and]
theorem TzTab.stay {w w':World} (h:TzTab w) (hb:Below w.heap.size w w'):TzTab w':=by
 have h0:1<w.heap.size:=World.block_lt_of_cell? w _ (h 0 (by decide))
 intro j hj
 rw [below_cell hb h0]
 exact h j hj
theorem TzTab.alloc {w:World} (h:TzTab w) (O:Obj):TzTab (w.alloc O):=h.stay ((Below.refl _ _).alloc (Nat.le_refl _) _)
/-- What stands in the loop of Next: of word k the bits from m on; none of the set from m up to that word. -/
structure NextAt (N m k r : Nat) : Prop where
 le : m < 64 * (k + 1)
 lt : r < 18446744073709551616
 bit:∀ j,j<64→r.testBit j=(decide (m≤64 * k+j) && N.testBit (64 * k+j))
 none:∀ j,m≤j→j<64 * k→N.testBit j=false
theorem NextAt.found {N m k r:Nat} (h:NextAt N m k r) (h0:r≠0) {i:Int} (hi:∀ j:Nat,i≤j↔m≤j):NextIs N i ((64 * k+Lib.ctz 64 r:Nat):Int) true:=by
 obtain ⟨h1,h2,h3⟩:=ctz_bits r h0 h.lt
 have hb:=h.bit _ h1
 rw [h2] at hb
 have hb':=hb.symm
 rw [Bool.and_eq_true,decide_eq_true_iff] at hb'
 refine .inl ⟨rfl,_,rfl,(hi _).2 hb'.1,hb'.2,?_⟩
 intro j hij hj
 have hmj:=(hi j).1 hij
 by_cases hk : j < 64 * k
 ·exact h.none j hmj hk
 ·have:=h.bit (j - 64 * k) (by omega)
  rw [h3 _ (by omega),show 64 * k+(j - 64 * k)=j by omega,decide_eq_true hmj,Bool.true_and] at this
  exact this.symm
theorem NextAt.next {N m k:Nat} (h:NextAt N m k 0):NextAt N m (k+1) (word N (k+1)):=by
 have hn:∀ j,m≤j→j<64 * (k+1)→N.testBit j=false:=by
  intro j hm hj
  by_cases hk : j < 64 * k
  ·exact h.none j hm hk
  ·have:=h.bit (j - 64 * k) (by omega)
   rw [Nat.zero_testBit,show 64 * k+(j - 64 * k)=j by omega,decide_eq_true hm,Bool.true_and] at this
   exact this.symm
 refine ⟨by have:=h.le;omega,word_lt _ _,?_,hn⟩
 intro j hj
 rw [testBit_word,decide_eq_true hj,Bool.true_and]
 by_cases hm : m ≤ 64 * (k + 1) + j
 ·rw [decide_eq_true hm,Bool.true_and]
 ·have:=h.le
  omega

end Go.Proofs.YtfdhaknecjcjoaaGreatDoor

namespace Go.Proofs.YtfdhaknecjcjoaaGreatDoor
open Go.RowKit Go.Lib

theorem but_ones (N m k l:Nat) (hk:m / 64=k) (hl:m % 64=l):NextAt N m k (butN (word N k) (2 ^ l - 1)):=by
 refine ⟨by omega,but_lt (word_lt N k),?_,fun j h1 h2=>by omega⟩
 intro j hj
 rw [testBit_but,testBit_word,decide_eq_true hj,Bool.true_and,Nat.testBit_two_pow_sub_one]
 by_cases h : j < l
 ·rw [decide_eq_true h,decide_eq_false (by omega)]
  simp
 ·rw [decide_eq_false h,decide_eq_true (by omega)]
  simp
theorem rest_eq (x l:Nat) (hx:x<18446744073709551616) (hl:l<64):bits .andNot .u64 (x:Int) (IntKind.u64.wrap (((2 ^ l:Nat):Int) - 1))=((butN x (2 ^ l - 1):Nat):Int):=by
 have h1:=two_pow_lt l hl
 have h2:=Nat.two_pow_pos l
 have e:IntKind.u64.wrap (((2 ^ l:Nat):Int) - 1)=((2 ^ l - 1:Nat):Int):=by rw [IntKind.wrap_u64];omega
 rw [e,bits_andNot_u64_nat x _ hx (by omega)]
theorem NextAt.done {N m k:Nat} (h:NextAt N m k 0) (hN:Fits N) (hk:k=7) {i:Int} (hi:∀ j:Nat,i≤j↔m≤j):NextIs N i 0 false:=by
 refine .inr ⟨rfl,rfl,?_⟩
 intro j hij
 by_cases h5 : j < 512
 ·exact h.next.none j ((hi j).1 hij) (by omega)
 ·exact hN j (by omega)
theorem ret_next {a b:Int} {x y:Bool} (h:a=b) (g:x=y):Ending.returned (.tuple #[.int .i64 a,.bool x])=.returned (.tuple #[.int .i64 b,.bool y]):=by rw [h,g]
theorem TzTab.drewN {w:World} (h:TzTab w) (q:Nat):TzTab (w.drewN q):=h

set_option maxHeartbeats 4000000 in
set_option maxRecDepth 100000 in
theorem next_any (N : Nat) (hN : Fits N) (i : Int) (w : World) (hT : TzTab w) :
  Calls Tryz.prog 163 #[setV N,.int .i64 i] w fun e w'=>NextEnd N i e∧Below w.heap.size w w':=by
 unfold setV
 by_cases h5 : 512 ≤ i
 ·have HN:Hid (NextIs N i 0 false):=.inr ⟨rfl,rfl,fun j hj=>hN j (by omega)⟩
  go_enter Tryz.func163,Tryz.ntmps163
  go_wp2_with fail
  go_ret2
  exact ⟨⟨0,false,rfl,HN.out⟩,(Below.refl _ _).alloc (Nat.le_refl _) _⟩
 ·obtain ⟨m,HMd⟩:∃ m:Nat,Hid ((m:Int)=max i 0):=⟨(max i 0).toNat,by show _=_;omega⟩
  have HI:Hid (∀ j:Nat,i≤j↔m≤j):=fun j=>by have:=HMd.out;omega
  have hm5:m<512:=by have:=HMd.out;omega
  obtain ⟨k,hkd⟩:∃ k,m / 64=k:=⟨_,rfl⟩
  obtain ⟨l,hld⟩:∃ l,m % 64=l:=⟨_,rfl⟩
  have hk:k<8:=by omega
  have hkI:(k:Int)<8:=by omega
  have hl:l<64:=by omega
  have H0:Hid _:=but_ones N m k l hkd hld
  have HT:Hid (TzTab (w.alloc (.cells (cellsF (word N)) 61))):=hT.alloc _
  have HC:Hid (Cells8 (w.alloc (.cells (cellsF (word N)) 61)) w.heap.size (word N)):=Cells8.last w _
  have HB:Hid (Below w.heap.size w (w.alloc (.cells (cellsF (word N)) 61))):=(Below.refl _ _).alloc (Nat.le_refl _) _
  have HK:Hid (m / 64=k∧m % 64=l):=⟨hkd,hld⟩
  clear hT
  by_cases i0 : i < 0
  ·have hm0:m=0:=by have:=HMd.out;omega
   subst hm0
   have hk0:k=0:=by omega
   have hl0:l=0:=by omega
   subst hk0 hl0
   clear hkd hld
   go_enter Tryz.func163,Tryz.ntmps163
   go_wp2_with fail
   generalize hWd : w.alloc (.cells (cellsF (word N)) 61) = W at HT HC HB ⊢
   clear hWd
   have hc:=HC.out.get hk
   have HRe:Hid (bits .andNot .u64 (word N 0:Nat) 0=((butN (word N 0) (2 ^ 0 - 1):Nat):Int)):=bits_andNot_u64_nat (word N 0) 0 (word_lt N 0) (by decide)
   go_quiet ((go_at_call 143;exact Calls.quiet_of_same (bitOf_any 0 (by omega) _)))
   rw [HRe.out]
   have HT2:Hid (TzTab (W.drewN nq)):=HT.out
   have HC2:Hid (Cells8 (W.drewN nq) w.heap.size (word N)):=HC.out.drewN nq
   have HB2:Hid (Below w.heap.size w (W.drewN nq)):=⟨HB.out.os,HB.out.tape,HB.out.output,HB.out.size,HB.out.block⟩
   generalize W.drewN nq = V at HT2 HC2 HB2 ⊢
   clear HT HC HB hc
   go_wp2_with fail
   go_loop [6,7] (fun vk vr=>∃ k r:Nat,vk=.int .i64 k∧k<8∧vr=.int .u64 r∧NextAt N 0 k r) (fun vk _=>8 - (intOf vk).toNat)
   case atStart=>exact ⟨0,_,rfl,hk,rfl,H0.out⟩
   case round =>
    obtain ⟨j,r,rfl,hj,rfl,hat⟩:=hrel
    have HA:Hid (NextAt N 0 j r):=hat
    have hrl:=hat.lt
    clear hat
    by_cases hr0 : r = 0
    ·subst hr0
     by_cases hj7 : j + 1 = 8
     ·have hjI:(j:Int)+1=8:=by omega
      have HNo:Hid (NextIs N i 0 false):=HA.out.done hN (by omega) HI.out
      have hjb:((j:Int)+1 == 8)=true:=by rw [hjI];rfl
      go_wp2_with fail
      go_ret2
      exact ⟨⟨0,false,rfl,HNo.out⟩,HB2.out⟩
     ·have hj8:j+1<8:=by omega
      have hjb:((j:Int)+1 == 8)=false:=by rw [beq_eq_false_iff_ne];omega
      have hc:=HC2.out.get hj8
      have HN2:Hid (NextAt N 0 (j+1) (word N (j+1))):=HA.out.next
      go_wp2_with fail
      go_round
      case rel=>exact ⟨j+1,word N (j+1),by go_num,by omega,rfl,HN2.out⟩
      case measure=>simp [intOf];omega
    ·have hrb:((r:Int) == 0)=false:=by rw [beq_eq_false_iff_ne];omega
     have HF:Hid (NextIs N i ((64 * j+Lib.ctz 64 r:Nat):Int) true):=HA.out.found hr0 HI.out
     have hct:=(ctz_bits r hr0 hrl).1
     obtain ⟨t,Ht⟩:∃ t,Hid (Lib.ctz 64 r=t):=⟨_,rfl⟩
     rw [Ht.out] at hct HF
     go_wp2_with (go_at_call 168;refine (tz_any r hrl hr0 _ HT2.out).mono ?_;rintro e w1 ⟨rfl,rfl⟩;rw [Ht.out])
     go_ret2
     exact ⟨⟨((64 * j+t:Nat):Int),true,ret_next (by omega) rfl,HF.out⟩,HB2.out⟩
  ·have him:i=(m:Int):=by have:=HMd.out;omega
   subst him
   have hq:(m:Int) / 64=k:=by omega
   clear hkd hld
   go_enter Tryz.func163,Tryz.ntmps163
   go_wp2_with fail
   generalize hWd : w.alloc (.cells (cellsF (word N)) 61) = W at HT HC HB ⊢
   clear hWd
   have hc:=HC.out.get hk
   have HRe:Hid (bits .andNot .u64 (word N k:Nat) (IntKind.u64.wrap ((2:Int) ^ (m % 64) - 1))=((butN (word N k) (2 ^ l - 1):Nat):Int)):=by
    show _ = _
    rw [HK.out.2]
    have:=rest_eq (word N k) l (word_lt N k) hl
    simpa using this
   go_quiet ((go_at_call 143;exact Calls.quiet_of_same (bitOf_any m hm5 _)))
   rw [HRe.out]
   have HT2:Hid (TzTab (W.drewN nq)):=HT.out
   have HC2:Hid (Cells8 (W.drewN nq) w.heap.size (word N)):=HC.out.drewN nq
   have HB2:Hid (Below w.heap.size w (W.drewN nq)):=⟨HB.out.os,HB.out.tape,HB.out.output,HB.out.size,HB.out.block⟩
   generalize W.drewN nq = V at HT2 HC2 HB2 ⊢
   clear HT HC HB hc
   go_wp2_with fail
   go_loop [6,7] (fun vk vr=>∃ k r:Nat,vk=.int .i64 k∧k<8∧vr=.int .u64 r∧NextAt N m k r) (fun vk _=>8 - (intOf vk).toNat)
   case atStart=>exact ⟨k,_,rfl,hk,rfl,H0.out⟩
   case round =>
    obtain ⟨j,r,rfl,hj,rfl,hat⟩:=hrel
    have HA:Hid (NextAt N m j r):=hat
    have hrl:=hat.lt
    clear hat
    by_cases hr0 : r = 0
    ·subst hr0
     by_cases hj7 : j + 1 = 8
     ·have hjI:(j:Int)+1=8:=by omega
      have HNo:Hid (NextIs N m 0 false):=HA.out.done hN (by omega) (fun j=>by omega)
      have hjb:((j:Int)+1 == 8)=true:=by rw [hjI];rfl
      go_wp2_with fail
      go_ret2
      exact ⟨⟨0,false,rfl,HNo.out⟩,HB2.out⟩
     ·have hj8:j+1<8:=by omega
      have hjb:((j:Int)+1 == 8)=false:=by rw [beq_eq_false_iff_ne];omega
      have hc:=HC2.out.get hj8
      have HN2:Hid (NextAt N m (j+1) (word N (j+1))):=HA.out.next
      go_wp2_with fail
      go_round
      case rel=>exact ⟨j+1,word N (j+1),by go_num,by omega,rfl,HN2.out⟩
      case measure=>simp [intOf];omega
    ·have hrb:((r:Int) == 0)=false:=by rw [beq_eq_false_iff_ne];omega
     have HF:Hid (NextIs N m ((64 * j+Lib.ctz 64 r:Nat):Int) true):=HA.out.found hr0 (fun j=>by omega)
     have hct:=(ctz_bits r hr0 hrl).1
     obtain ⟨t,Ht⟩:∃ t,Hid (Lib.ctz 64 r=t):=⟨_,rfl⟩
     rw [Ht.out] at hct HF
     go_wp2_with (go_at_call 168;refine (tz_any r hrl hr0 _ HT2.out).mono ?_;rintro e w1 ⟨rfl,rfl⟩;rw [Ht.out])
     go_ret2
     exact ⟨⟨((64 * j+t:Nat):Int),true,ret_next (by omega) rfl,HF.out⟩,HB2.out⟩

end Go.Proofs.YtfdhaknecjcjoaaGreatDoor

namespace Go.Proofs.YtfdhaknecjcjoaaGreatDoor
open Go.RowKit Go.Lib

/-- What With answers. -/
def withN (N:Nat) (i:Int):Nat:=if 0≤i∧i<512 then N ||| 2 ^ i.toNat else 0
def withoutN (N:Nat) (i:Int):Nat:=if 0≤i∧i<512 then butN N (2 ^ i.toNat) else 0
def oneE (i:Int):Int:=if 0≤i∧i<512 then 0 else 11
theorem word_but_bit (N i k:Nat):word (butN N (2 ^ i)) k=if k=i / 64 then butN (word N k) (2 ^ (i % 64)) else word N k:=by
 by_cases h : k = i / 64
 ·rw [if_pos h]
  apply word_of_bits
  ·apply Nat.lt_pow_two_of_testBit (n:=64)
   intro j hj
   rw [testBit_but,small_testBit (word_lt N k) hj]
   rfl
  ·intro j hj
   rw [testBit_but,testBit_but,Nat.testBit_two_pow,Nat.testBit_two_pow,testBit_word]
   simp only [hj,decide_true,Bool.true_and]
   congr 2
   rw [decide_eq_decide]
   omega
 ·rw [if_neg h]
  apply word_of_bits (word_lt N k)
  intro j hj
  rw [testBit_but,Nat.testBit_two_pow,testBit_word]
  have:¬ i=64 * k+j:=by omega
  simp [this,hj]
/-- What stands behind the change of s. -/
structure ChAt (w : World) (X : Nat) (wx : World) : Prop where
 set : Cells8 wx w.heap.size (word X)
 res:Cells8 wx (w.heap.size+1) (fun _=>0)
 below : Below w.heap.size w wx
theorem ChAt.start (w:World) (N:Nat):ChAt w N ((w.alloc (.cells (cellsF (word N)) 61)).alloc (.cells (cellsF (fun _=>0)) 61)):=by
 refine ⟨(Cells8.last w _).alloc _,?_,((Below.refl _ _).alloc (Nat.le_refl _) _).alloc (by simp) _⟩
 have:=Cells8.last (w.alloc (.cells (cellsF (word N)) 61)) (fun _=>0)
 simpa using this
theorem ChAt.keep {w wx wy : World} {X : Nat} (h : ChAt w X wx) (hb : Below wx.heap.size wx wy) : ChAt w X wy :=
 ⟨h.set.of_heap (hb.block _ h.set.lt),h.res.of_heap (hb.block _ h.res.lt),go_on h.below hb⟩
theorem ChAt.put {w wx:World} {N X k:Nat} {v:Int} (h:ChAt w N wx) (hk:k<8) (hv:v=(word X k:Nat)) (ho:∀ j,j≠k→word X j=word N j):ChAt w X (wx.setCell ⟨w.heap.size,k,none⟩ (.int .u64 v)).drew:=by
 subst hv
 refine ⟨((h.set.set _ hk).congr ?_).drew,(h.res.other (by omega) _).drew,(h.below.setCell (p:=⟨w.heap.size,k,none⟩) (Nat.le_refl _) _).drew⟩
 intro j _
 by_cases e : j = k
 ·rw [if_pos e,e]
 ·rw [if_neg e,ho j e]

set_option maxHeartbeats 2000000 in
set_option maxRecDepth 100000 in
theorem with_any (N : Nat) (i : Int) (w : World) :
  Calls Tryz.prog 167 #[setV N,.int .i64 i] w fun e w'=>e=.returned (.tuple #[setV (withN N i),.int .i64 (oneE i)])∧Below w.heap.size w w':=by
 have HA:Hid (ChAt w N ((w.alloc (.cells (cellsF (word N)) 61)).alloc (.cells (cellsF (fun _=>0)) 61))):=ChAt.start w N
 by_cases hin:0≤i∧i<512
 ·obtain ⟨m,rfl⟩:∃ m:Nat,i=m:=⟨i.toNat,by omega⟩
  have hd:decide (0≤(m:Int)∧(m:Int)<512)=true:=by simpa using hin
  have hm5:m<512:=by omega
  have HX:Hid (withN N (m:Int)=N ||| 2 ^ m∧oneE (m:Int)=0):=by
   show _∧_
   unfold withN oneE
   rw [if_pos hin,if_pos hin,Int.toNat_natCast]
   exact ⟨rfl,rfl⟩
  clear hin
  unfold setV cellsF
  unfold cellsF at HA
  go_enter Tryz.func167,Tryz.ntmps167
  go_wp2_with (go_at_call 142;refine (isNumber_any _ _).mono ?_;rintro e w1 ⟨rfl,rfl⟩;rw [hd])
  generalize hW:(w.alloc (.cells #[.int .u64 (word N 0:Nat),.int .u64 (word N 1:Nat),.int .u64 (word N 2:Nat),.int .u64 (word N 3:Nat),.int .u64 (word N 4:Nat),.int .u64 (word N 5:Nat),.int .u64 (word N 6:Nat),.int .u64 (word N 7:Nat)] 61)).alloc (.cells #[.int .u64 0,.int .u64 0,.int .u64 0,.int .u64 0,.int .u64 0,.int .u64 0,.int .u64 0,.int .u64 0] 61)=W
  have HB:Hid (ChAt w N W):=by
   show ChAt w N W
   rw [← hW]
   exact HA.out
  clear hW HA
  obtain ⟨k,hkd⟩:∃ k,m / 64=k:=⟨_,rfl⟩
  have hk:k<8:=by omega
  have hkI:(k:Int)<8:=by omega
  have hq:(m:Int).tdiv 64=k:=by rw [Int.tdiv_eq_ediv_of_nonneg (by omega)];omega
  have hw:IntKind.i64.wrap (k:Int)=k:=IntWalk.i64_in _ (by omega)
  have hc:=HB.out.set.get hk
  have hf:=HB.out.set.frozen k
  have HN:Hid _:=HB.out.put (X:=N ||| 2 ^ m) hk (v:=bits .or .u64 (word N k:Nat) (2 ^ (m % 64)))
   (by rw [or_u64 (word N k) (2 ^ (m % 64)) rfl (by simp) (word_lt _ _) (two_pow_lt _ (by omega)),word_or_bit,if_pos hkd.symm]) (fun j hj=>by rw [word_or_bit,if_neg (by omega)])
  have HK:Hid (m / 64=k):=hkd
  clear hkd hd
  go_cut [17] (fun _ wx=>ChAt w (N ||| 2 ^ m) wx)
  case first =>
   go_region_with (go_at_call 143;refine (bitOf_any m hm5 _).mono ?_;rintro e w1 ⟨rfl,rfl⟩)
   all_goals (go_wp2_with fail;go_meet;exact HN.out)
  case rest =>
   have HC:Hid (ChAt w (N ||| 2 ^ m) wc):=hcut
   clear hcut hc hf
   obtain ⟨c0,c1,c2,c3,c4,c5,c6,c7⟩:=HC.out.set.gets
   obtain ⟨d0,d1,d2,d3,d4,d5,d6,d7⟩:=HC.out.res.gets
   have f0:=HC.out.res.frozen 0
   have f1:=HC.out.res.frozen 1
   have f2:=HC.out.res.frozen 2
   have f3:=HC.out.res.frozen 3
   have f4:=HC.out.res.frozen 4
   have f5:=HC.out.res.frozen 5
   have f6:=HC.out.res.frozen 6
   have f7:=HC.out.res.frozen 7
   obtain ⟨X,hXd⟩:∃ X,N ||| 2 ^ m=X:=⟨_,rfl⟩
   rw [hXd] at HX HC c0 c1 c2 c3 c4 c5 c6 c7
   clear hXd HN
   go_wp2_with fail
   obtain ⟨h8,hB⟩:=st8 HC.out.res HC.out.below (show w.heap.size≤w.heap.size+1 by omega) (word X) rfl rfl rfl rfl rfl rfl rfl rfl
   refine bodyPost_ret (results_set_tmp rfl rfl h8) rfl ⟨?_,hB⟩
   rw [HX.out.1,HX.out.2]
   rfl
 ·have hd:decide (0≤i∧i<512)=false:=by simpa using hin
  have HX:Hid (withN N i=0∧oneE i=11):=by
   show _∧_
   unfold withN oneE
   rw [if_neg hin,if_neg hin]
   exact ⟨rfl,rfl⟩
  clear hin
  unfold setV cellsF
  unfold cellsF at HA
  go_enter Tryz.func167,Tryz.ntmps167
  go_wp2_with (go_at_call 142;refine (isNumber_any _ _).mono ?_;rintro e w1 ⟨rfl,rfl⟩;rw [hd])
  refine bodyPost_ret (results_set_tmp rfl rfl (f:=fun _=>0) HA.out.res) rfl ⟨?_,HA.out.below⟩
  rw [HX.out.1,HX.out.2]
  exact ret_set (fun k _=>by simp [word])

set_option maxHeartbeats 2000000 in
set_option maxRecDepth 100000 in
theorem without_any (N : Nat) (i : Int) (w : World) :
  Calls Tryz.prog 166 #[setV N,.int .i64 i] w fun e w'=>e=.returned (.tuple #[setV (withoutN N i),.int .i64 (oneE i)])∧Below w.heap.size w w':=by
 have HA:Hid (ChAt w N ((w.alloc (.cells (cellsF (word N)) 61)).alloc (.cells (cellsF (fun _=>0)) 61))):=ChAt.start w N
 by_cases hin:0≤i∧i<512
 ·obtain ⟨m,rfl⟩:∃ m:Nat,i=m:=⟨i.toNat,by omega⟩
  have hd:decide (0≤(m:Int)∧(m:Int)<512)=true:=by simpa using hin
  have hm5:m<512:=by omega
  have HX:Hid (withoutN N (m:Int)=butN N (2 ^ m)∧oneE (m:Int)=0):=by
   show _∧_
   unfold withoutN oneE
   rw [if_pos hin,if_pos hin,Int.toNat_natCast]
   exact ⟨rfl,rfl⟩
  clear hin
  unfold setV cellsF
  unfold cellsF at HA
  go_enter Tryz.func166,Tryz.ntmps166
  go_wp2_with (go_at_call 142;refine (isNumber_any _ _).mono ?_;rintro e w1 ⟨rfl,rfl⟩;rw [hd])
  generalize hW:(w.alloc (.cells #[.int .u64 (word N 0:Nat),.int .u64 (word N 1:Nat),.int .u64 (word N 2:Nat),.int .u64 (word N 3:Nat),.int .u64 (word N 4:Nat),.int .u64 (word N 5:Nat),.int .u64 (word N 6:Nat),.int .u64 (word N 7:Nat)] 61)).alloc (.cells #[.int .u64 0,.int .u64 0,.int .u64 0,.int .u64 0,.int .u64 0,.int .u64 0,.int .u64 0,.int .u64 0] 61)=W
  have HB:Hid (ChAt w N W):=by
   show ChAt w N W
   rw [← hW]
   exact HA.out
  clear hW HA
  obtain ⟨k,hkd⟩:∃ k,m / 64=k:=⟨_,rfl⟩
  have hk:k<8:=by omega
  have hkI:(k:Int)<8:=by omega
  have hq:(m:Int).tdiv 64=k:=by rw [Int.tdiv_eq_ediv_of_nonneg (by omega)];omega
  have hw:IntKind.i64.wrap (k:Int)=k:=IntWalk.i64_in _ (by omega)
  have hc:=HB.out.set.get hk
  have hf:=HB.out.set.frozen k
  have HN:Hid _:=HB.out.put (X:=butN N (2 ^ m)) hk (v:=bits .andNot .u64 (word N k:Nat) (2 ^ (m % 64)))
   (by rw [show (2:Int) ^ (m % 64)=((2 ^ (m % 64):Nat):Int) by simp,bits_andNot_u64_nat _ _ (word_lt _ _) (two_pow_lt _ (by omega)),word_but_bit,if_pos hkd.symm]) (fun j hj=>by rw [word_but_bit,if_neg (by omega)])
  have HK:Hid (m / 64=k):=hkd
  clear hkd hd
  go_cut [17] (fun _ wx=>ChAt w (butN N (2 ^ m)) wx)
  case first =>
   go_region_with (go_at_call 143;refine (bitOf_any m hm5 _).mono ?_;rintro e w1 ⟨rfl,rfl⟩)
   all_goals (go_wp2_with fail;go_meet;exact HN.out)
  case rest =>
   have HC:Hid (ChAt w (butN N (2 ^ m)) wc):=hcut
   clear hcut hc hf
   obtain ⟨c0,c1,c2,c3,c4,c5,c6,c7⟩:=HC.out.set.gets
   obtain ⟨d0,d1,d2,d3,d4,d5,d6,d7⟩:=HC.out.res.gets
   have f0:=HC.out.res.frozen 0
   have f1:=HC.out.res.frozen 1
   have f2:=HC.out.res.frozen 2
   have f3:=HC.out.res.frozen 3
   have f4:=HC.out.res.frozen 4
   have f5:=HC.out.res.frozen 5
   have f6:=HC.out.res.frozen 6
   have f7:=HC.out.res.frozen 7
   obtain ⟨X,hXd⟩:∃ X,butN N (2 ^ m)=X:=⟨_,rfl⟩
   rw [hXd] at HX HC c0 c1 c2 c3 c4 c5 c6 c7
   clear hXd HN
   go_wp2_with fail
   obtain ⟨h8,hB⟩:=st8 HC.out.res HC.out.below (show w.heap.size≤w.heap.size+1 by omega) (word X) rfl rfl rfl rfl rfl rfl rfl rfl
   refine bodyPost_ret (results_set_tmp rfl rfl h8) rfl ⟨?_,hB⟩
   rw [HX.out.1,HX.out.2]
   rfl
 ·have hd:decide (0≤i∧i<512)=false:=by simpa using hin
  have HX:Hid (withoutN N i=0∧oneE i=11):=by
   show _∧_
   unfold withoutN oneE
   rw [if_neg hin,if_neg hin]
   exact ⟨rfl,rfl⟩
  clear hin
  unfold setV cellsF
  unfold cellsF at HA
  go_enter Tryz.func166,Tryz.ntmps166
  go_wp2_with (go_at_call 142;refine (isNumber_any _ _).mono ?_;rintro e w1 ⟨rfl,rfl⟩;rw [hd])
  refine bodyPost_ret (results_set_tmp rfl rfl (f:=fun _=>0) HA.out.res) rfl ⟨?_,HA.out.below⟩
  rw [HX.out.1,HX.out.2]
  exact ret_set (fun k _=>by simp [word])

end Go.Proofs.YtfdhaknecjcjoaaGreatDoor

namespace Go.Proofs.YtfdhaknecjcjoaaGreatDoor
open Go.RowKit

/-- The set with all numbers moved up, or down; what leaves the range falls out. -/
def upN (N n:Nat):Nat:=ofW (fun k=>word (N * 2 ^ n) k) 8
theorem testBit_up (N n i:Nat):(upN N n).testBit i=(decide (i<512) && (decide (n≤i) && N.testBit (i - n))):=by
 unfold upN
 rw [ofW_testBit _ (fun k=>word_lt _ k),← word_testBit,Nat.testBit_mul_two_pow]
def downN (N n:Nat):Nat:=N / 2 ^ n
theorem testBit_down (N n i:Nat):(downN N n).testBit i=N.testBit (i+n):=by unfold downN;rw [Nat.testBit_div_two_pow]
/-- Word k of the set moved up by ws words and r bits, when the first 'from_' words have been taken. -/
def upTo (N ws r from_ k:Nat):Nat:=(if ws≤k∧k<ws+from_ then word N (k - ws) * 2 ^ r % 18446744073709551616 else 0) ||| (if ws+1≤k∧k<ws+1+from_ then word N (k - ws - 1) / 2 ^ (64 - r) else 0)
theorem upTo_lt (N ws r c k:Nat):upTo N ws r c k<18446744073709551616:=by
 unfold upTo
 apply Nat.or_lt_two_pow (n:=64)
 ·split
  ·exact Nat.mod_lt _ (by decide)
  ·decide
 ·split
  ·exact shr_lt (word_lt _ _)
  ·decide
theorem upTo_low (N ws r c:Nat):upTo N ws r c (ws+c) ||| word N c * 2 ^ r % 18446744073709551616=upTo N ws r (c+1) (ws+c):=by
 unfold upTo
 rw [if_neg (by omega),if_pos (show ws≤ws+c∧ws+c<ws+(c+1) by omega),Nat.add_sub_cancel_left,Nat.zero_or,Nat.or_comm]
 congr 1
 by_cases h : 1 ≤ c
 ·rw [if_pos (by omega),if_pos (by omega)]
 ·rw [if_neg (by omega),if_neg (by omega)]
theorem upTo_high (N ws r c:Nat):upTo N ws r c (ws+c+1) ||| word N c / 2 ^ (64 - r)=upTo N ws r (c+1) (ws+c+1):=by
 unfold upTo
 rw [if_neg (by omega),if_neg (by omega),if_neg (by omega),if_pos (by omega)]
 simp only [Nat.zero_or]
 congr 2
 omega
theorem upTo_else (N ws r c k:Nat) (h1:k≠ws+c) (h2:k≠ws+c+1):upTo N ws r (c+1) k=upTo N ws r c k:=by
 unfold upTo
 have e1:(ws≤k∧k<ws+(c+1))=(ws≤k∧k<ws+c):=by apply propext;omega
 have e2:(ws+1≤k∧k<ws+1+(c+1))=(ws+1≤k∧k<ws+1+c):=by apply propext;omega
 simp only [e1,e2]
theorem upTo_zero (N ws r k:Nat):upTo N ws r 0 k=0:=by
 unfold upTo
 rw [if_neg (by omega),if_neg (by omega)]
 rfl
theorem upTo_end (N ws r:Nat) (hr:r<64) (k:Nat) (hk:k<8):upTo N ws r (8 - ws) k=word (upN N (64 * ws+r)) k:=by
 symm
 apply word_of_bits (upTo_lt _ _ _ _ _)
 intro j hj
 unfold upTo
 rw [testBit_up,decide_eq_true (by omega),Bool.true_and,Nat.testBit_or]
 have z:∀ i,(0:Nat).testBit i=false:=fun i=>Nat.zero_testBit i
 by_cases h1 : ws ≤ k
 ·rw [if_pos (by omega),testBit_shl _ _ _ hj,testBit_word]
  by_cases h2 : r ≤ j
  ·have e:64 * k+j - (64 * ws+r)=64 * (k - ws)+(j - r):=by omega
   rw [decide_eq_true (by omega),decide_eq_true h2,decide_eq_true (by omega),e]
   by_cases h3 : ws + 1 ≤ k
   ·rw [if_pos (by omega),Nat.testBit_div_two_pow,testBit_word,decide_eq_false (by omega)]
    simp
   ·rw [if_neg (by omega),z]
    simp
  ·rw [decide_eq_false h2]
   by_cases h3 : ws + 1 ≤ k
   ·have e:64 * k+j - (64 * ws+r)=64 * (k - ws - 1)+(j+(64 - r)):=by omega
    rw [if_pos (by omega),Nat.testBit_div_two_pow,testBit_word,decide_eq_true (show 64 * ws+r≤64 * k+j by omega),decide_eq_true (show j+(64 - r)<64 by omega),e]
    simp
   ·rw [if_neg (by omega),z,decide_eq_false (by omega)]
    simp
 ·rw [if_neg (by omega),if_neg (by omega),z,decide_eq_false (by omega)]
  simp

/-- What stands in the shifts' loops. -/
structure ShAt (w : World) (N : Nat) (f : Nat → Nat) (wr : World) : Prop where
 set : Cells8 wr w.heap.size (word N)
 res:Cells8 wr (w.heap.size+1) (fun _=>0)
 out : Cells8 wr (w.heap.size + 1 + 1) f
 below : Below w.heap.size w wr
theorem ShAt.start (w:World) (N:Nat):ShAt w N (fun _=>0) (((w.alloc (.cells (cellsF (word N)) 61)).alloc (.cells #[.int .u64 0,.int .u64 0,.int .u64 0,.int .u64 0,.int .u64 0,.int .u64 0,.int .u64 0,.int .u64 0] 61)).alloc (.cells #[.int .u64 0,.int .u64 0,.int .u64 0,.int .u64 0,.int .u64 0,.int .u64 0,.int .u64 0,.int .u64 0] 61)):=by
 have h:=PutAt.start w N
 refine ⟨h.set.alloc _,h.res.alloc _,?_,h.below.alloc h.below.size _⟩
 have:=Cells8.last ((w.alloc (.cells (cellsF (word N)) 61)).alloc (.cells #[.int .u64 0,.int .u64 0,.int .u64 0,.int .u64 0,.int .u64 0,.int .u64 0,.int .u64 0,.int .u64 0] 61)) (fun _=>0)
 simpa [cellsF] using this
theorem ShAt.put {w wr:World} {N k x:Nat} {f:Nat→Nat} (h:ShAt w N f wr) (hk:k<8):ShAt w N (fun j=>if j=k then x else f j) (wr.setCell ⟨w.heap.size+1+1,k,none⟩ (.int .u64 (x:Nat))).drew :=
 ⟨(h.set.other (by omega) _).drew,(h.res.other (by omega) _).drew,(h.out.set x hk).drew,(h.below.setCell (p:=⟨w.heap.size+1+1,k,none⟩) (by simp;omega) _).drew⟩
theorem ShAt.congr {w wr:World} {N:Nat} {f g:Nat→Nat} (h:ShAt w N f wr) (e:∀ k,k<8→f k=g k):ShAt w N g wr:=⟨h.set,h.res,h.out.congr e,h.below⟩
theorem or_shl (x y r:Nat) (hx:x<18446744073709551616):bits .or .u64 (x:Int) (IntKind.u64.wrap ((y:Int) * 2 ^ r))=((x ||| y * 2 ^ r % 18446744073709551616:Nat):Int):=or_u64 _ _ rfl (shl_cast y r) hx (Nat.mod_lt _ (by decide))
theorem or_shr (x y r:Nat) (hx:x<18446744073709551616) (hy:y<18446744073709551616):bits .or .u64 (x:Int) ((y:Int) / 2 ^ r)=((x ||| y / 2 ^ r:Nat):Int):=or_u64 _ _ rfl (shr_cast y r) hx (shr_lt hy)
theorem ret_one {f g:Nat→Nat} (h:∀ k,k<8→f k=g k):Ending.returned (.agg (cellsF f))=.returned (.agg (cellsF g)):=by rw [cellsF_congr h]

set_option maxHeartbeats 4000000 in
set_option maxRecDepth 100000 in
theorem shiftUp_any (N n : Nat) (hn : n < 512) (w : World) :
  Calls Tryz.prog 145 #[setV N,.int .i64 n] w fun e w'=>e=.returned (setV (upN N n))∧Below w.heap.size w w':=by
 obtain ⟨ws,hwsd⟩:∃ ws,n / 64=ws:=⟨_,rfl⟩
 obtain ⟨r,hrd⟩:∃ r,n % 64=r:=⟨_,rfl⟩
 have hws:ws<8:=by omega
 have hr64:r<64:=by omega
 have hq:(n:Int) / 64=ws:=by omega
 have hr:(n:Int) % 64=r:=by omega
 have HN:Hid (n=64 * ws+r):=by show n=64 * ws+r;omega
 obtain ⟨m,hmd⟩:∃ m,64 - r=m:=⟨_,rfl⟩
 have hmI:(64:Int) - (r:Int)=(m:Int):=by omega
 have hm64:m≤64:=by omega
 have HM:Hid (64 - r=m):=hmd
 clear hwsd hrd hmd
 have H0:Hid (ShAt w N (fun _=>0) _):=ShAt.start w N
 unfold setV
 go_enter Tryz.func145,Tryz.ntmps145
 go_wp2_with fail
 simp only [hr]
 generalize hW:((w.alloc (.cells (cellsF (word N)) 61)).alloc (.cells #[.int .u64 0,.int .u64 0,.int .u64 0,.int .u64 0,.int .u64 0,.int .u64 0,.int .u64 0,.int .u64 0] 61)).alloc (.cells #[.int .u64 0,.int .u64 0,.int .u64 0,.int .u64 0,.int .u64 0,.int .u64 0,.int .u64 0,.int .u64 0] 61)=W at H0 ⊢
 clear hW
 go_loopw [16,8,9] (fun vc _ _ wr=>∃ c:Nat,vc=.int .i64 c∧c+ws≤8∧ShAt w N (upTo N ws r c) wr) (fun vc _ _ _=>8 - (intOf vc).toNat)
 case atStart=>exact ⟨0,rfl,by omega,H0.out.congr (fun k _=>(upTo_zero N ws r k).symm)⟩
 case round =>
  clear H0
  obtain ⟨c,rfl,hc,hat⟩:=hrel
  have HA:Hid _:=hat
  clear hat
  by_cases hlt : c + ws < 8
  ·have hcI:(c:Int)<8 - ws:=by omega
   obtain ⟨t,htd⟩:∃ t,ws+c=t:=⟨_,rfl⟩
   have htI:(c:Int)+ws=(t:Int):=by omega
   have ht8:t<8:=by omega
   have ht8I:(t:Int)<8:=by omega
   have hc8:c<8:=by omega
   have hc8I:(c:Int)<8:=by omega
   have htw:IntKind.i64.wrap (t:Int)=t:=IntWalk.i64_in _ (by omega)
   have cs:=HA.out.set.get hc8
   have co:=HA.out.out.get ht8
   have fo:=HA.out.out.frozen t
   have HT:Hid (ws+c=t):=htd
   obtain ⟨x,hx⟩:∃ x,upTo N ws r c t=x:=⟨_,rfl⟩
   have hxl:=upTo_lt N ws r c t
   rw [hx] at co hxl
   have HX:Hid _:=hx
   clear htd hx
   go_wp2_with fail
   go_region
   rw [or_shl _ _ _ hxl]
   generalize hW1:(wr.setCell ⟨w.heap.size+1+1,t,none⟩ (.int .u64 (x ||| word N c * 2 ^ r % 18446744073709551616:Nat))).drew=W1
   have H1:Hid (ShAt w N (fun j=>if j=t then upTo N ws r (c+1) t else upTo N ws r c j) W1):=by
    show ShAt _ _ _ _
    rw [← hW1,← HX.out]
    have:=HA.out.put (x:=upTo N ws r c t ||| word N c * 2 ^ r % 18446744073709551616) ht8
    rw [← HT.out,upTo_low,HT.out] at this ⊢
    exact this
   clear hW1 cs co fo HA hxl
   by_cases h7 : t + 1 < 8
   ·obtain ⟨u,hud⟩:∃ u,t+1=u:=⟨_,rfl⟩
    have huI:(t:Int)+1=(u:Int):=by omega
    have hu8:u<8:=by omega
    have hu8I:(u:Int)<8:=by omega
    have huw:IntKind.i64.wrap (u:Int)=u:=IntWalk.i64_in _ (by omega)
    have HU:Hid (t+1=u):=hud
    have cs:=H1.out.set.get hc8
    have co:=H1.out.out.get hu8
    have fo:=H1.out.out.frozen u
    rw [if_neg (show ¬ u = t by omega)] at co
    obtain ⟨y,hy⟩:∃ y,upTo N ws r c u=y:=⟨_,rfl⟩
    have hyl:=upTo_lt N ws r c u
    rw [hy] at co hyl
    have HY:Hid _:=hy
    clear hud hy h7
    go_wp2_with fail
    go_region
    rw [or_shr _ _ _ hyl (word_lt N c)]
    generalize hW2:(W1.setCell ⟨w.heap.size+1+1,u,none⟩ (.int .u64 (y ||| word N c / 2 ^ m:Nat))).drew=W2
    have H2:Hid (ShAt w N (upTo N ws r (c+1)) W2):=by
     show ShAt _ _ _ _
     rw [← hW2,← HY.out,← HM.out]
     refine (H1.out.put (x:=upTo N ws r c u ||| word N c / 2 ^ (64 - r)) hu8).congr ?_
     intro k hk
     have e1:=HT.out
     have e2:=HU.out
     by_cases k1 : k = u
     ·rw [if_pos k1,k1,← e2,← e1,upTo_high]
     ·rw [if_neg k1]
      by_cases k2 : k = t
      ·rw [if_pos k2,k2]
      ·rw [if_neg k2,upTo_else _ _ _ _ _ (by omega) (by omega)]
    clear hW2 cs co fo H1 hyl
    go_wp2_with fail
    go_roundw
    case rel=>exact ⟨c+1,by go_num,by omega,H2.out⟩
    case measure=>simp [intOf];omega
   ·have h7I:¬ (t:Int)+1<8:=by omega
    have H2:Hid (ShAt w N (upTo N ws r (c+1)) W1):=by
     refine H1.out.congr ?_
     intro k hk
     have e1:=HT.out
     by_cases k2 : k = t
     ·rw [if_pos k2,k2]
     ·rw [if_neg k2,upTo_else _ _ _ _ _ (by omega) (by omega)]
    clear H1
    go_wp2_with fail
    go_roundw
    case rel=>exact ⟨c+1,by go_num,by omega,H2.out⟩
    case measure=>simp [intOf];omega
  ·have hcI:¬ (c:Int)<8 - ws:=by omega
   obtain ⟨d0,d1,d2,d3,d4,d5,d6,d7⟩:=(HA.out.res).gets
   have f0:=(HA.out.res).frozen 0
   have f1:=(HA.out.res).frozen 1
   have f2:=(HA.out.res).frozen 2
   have f3:=(HA.out.res).frozen 3
   have f4:=(HA.out.res).frozen 4
   have f5:=(HA.out.res).frozen 5
   have f6:=(HA.out.res).frozen 6
   have f7:=(HA.out.res).frozen 7
   obtain ⟨c0,c1,c2,c3,c4,c5,c6,c7⟩:=HA.out.out.gets
   go_wp2_with fail
   obtain ⟨h8,hB⟩:=st8 HA.out.res HA.out.below (by omega) (upTo N ws r c) rfl rfl rfl rfl rfl rfl rfl rfl
   refine bodyPost_ret (results_set rfl rfl h8) rfl ⟨?_,hB⟩
   refine ret_one fun k hk=>?_
   rw [show c=8 - ws by omega,HN.out]
   exact upTo_end N ws r hr64 k hk

end Go.Proofs.YtfdhaknecjcjoaaGreatDoor

namespace Go.Proofs.YtfdhaknecjcjoaaGreatDoor
open Go.RowKit

/-- Word k of the set moved down by ws words and r bits, when the first c words have been told. -/
def dnTo (N ws r c k:Nat):Nat:=(if k<c then word N (k+ws) / 2 ^ r else 0) ||| (if k+1<c then word N (k+1+ws) * 2 ^ (64 - r) % 18446744073709551616 else 0)
theorem dnTo_lt (N ws r c k:Nat):dnTo N ws r c k<18446744073709551616:=by
 unfold dnTo
 apply Nat.or_lt_two_pow (n:=64)
 ·split
  ·exact shr_lt (word_lt _ _)
  ·decide
 ·split
  ·exact Nat.mod_lt _ (by decide)
  ·decide
theorem dnTo_low (N ws r c:Nat):dnTo N ws r c c ||| word N (c+ws) / 2 ^ r=dnTo N ws r (c+1) c:=by
 unfold dnTo
 rw [if_neg (by omega),if_neg (by omega),if_pos (by omega),if_neg (by omega)]
 simp
theorem dnTo_high (N ws r c:Nat):dnTo N ws r (c+1) c ||| word N (c+1+ws) * 2 ^ (64 - r) % 18446744073709551616=dnTo N ws r (c+1+1) c:=by
 unfold dnTo
 rw [if_pos (by omega),if_neg (by omega),if_pos (by omega),if_pos (by omega)]
 simp
theorem dnTo_else (N ws r c k:Nat) (h1:k≠c) (h2:k+1≠c):dnTo N ws r (c+1) k=dnTo N ws r c k:=by
 unfold dnTo
 have e1:(k<c+1)=(k<c):=by apply propext;omega
 have e2:(k+1<c+1)=(k+1<c):=by apply propext;omega
 simp only [e1,e2]
theorem dnTo_zero (N ws r k:Nat):dnTo N ws r 0 k=0:=by
 unfold dnTo
 rw [if_neg (by omega),if_neg (by omega)]
 rfl
theorem dnTo_end (N ws r:Nat) (hN:Fits N) (hr:r<64) (hws:ws<8) (k:Nat):dnTo N ws r (8 - ws) k=word (downN N (64 * ws+r)) k:=by
 symm
 apply word_of_bits (dnTo_lt _ _ _ _ _)
 intro j hj
 unfold dnTo
 rw [testBit_down,Nat.testBit_or]
 have z:∀ i,(0:Nat).testBit i=false:=fun i=>Nat.zero_testBit i
 by_cases h1 : k < 8 - ws
 ·rw [if_pos h1,Nat.testBit_div_two_pow,testBit_word]
  by_cases h2 : j + r < 64
  ·have e:64 * k+j+(64 * ws+r)=64 * (k+ws)+(j+r):=by omega
   rw [decide_eq_true h2,e]
   by_cases h3 : k + 1 < 8 - ws
   ·rw [if_pos h3,testBit_shl _ _ _ hj,decide_eq_false (by omega)]
    simp
   ·rw [if_neg h3,z]
    simp
  ·rw [decide_eq_false h2]
   by_cases h3 : k + 1 < 8 - ws
   ·have e:64 * k+j+(64 * ws+r)=64 * (k+1+ws)+(j - (64 - r)):=by omega
    rw [if_pos h3,testBit_shl _ _ _ hj,testBit_word,decide_eq_true (show 64 - r≤j by omega),decide_eq_true (show j - (64 - r)<64 by omega),e]
    simp
   ·rw [if_neg h3,z,hN _ (by omega)]
    simp
 ·rw [if_neg h1,if_neg (by omega),z,hN _ (by omega)]
  simp

set_option maxHeartbeats 4000000 in
set_option maxRecDepth 100000 in
theorem shiftDown_any (N n : Nat) (hN : Fits N) (hn : n < 512) (w : World) :
  Calls Tryz.prog 144 #[setV N,.int .i64 n] w fun e w'=>e=.returned (setV (downN N n))∧Below w.heap.size w w':=by
 obtain ⟨ws,hwsd⟩:∃ ws,n / 64=ws:=⟨_,rfl⟩
 obtain ⟨r,hrd⟩:∃ r,n % 64=r:=⟨_,rfl⟩
 have hws:ws<8:=by omega
 have hr64:r<64:=by omega
 have hq:(n:Int) / 64=ws:=by omega
 have hr:(n:Int) % 64=r:=by omega
 have HN:Hid (n=64 * ws+r):=by show n=64 * ws+r;omega
 obtain ⟨m,hmd⟩:∃ m,64 - r=m:=⟨_,rfl⟩
 have hmI:(64:Int) - (r:Int)=(m:Int):=by omega
 have hm64:m≤64:=by omega
 have HM:Hid (64 - r=m):=hmd
 clear hwsd hrd hmd
 have H0:Hid (ShAt w N (fun _=>0) _):=ShAt.start w N
 unfold setV
 go_enter Tryz.func144,Tryz.ntmps144
 go_wp2_with fail
 simp only [hr]
 generalize hW:((w.alloc (.cells (cellsF (word N)) 61)).alloc (.cells #[.int .u64 0,.int .u64 0,.int .u64 0,.int .u64 0,.int .u64 0,.int .u64 0,.int .u64 0,.int .u64 0] 61)).alloc (.cells #[.int .u64 0,.int .u64 0,.int .u64 0,.int .u64 0,.int .u64 0,.int .u64 0,.int .u64 0,.int .u64 0] 61)=W at H0 ⊢
 clear hW
 go_loopw [16,8,9] (fun vc _ _ wr=>∃ c:Nat,vc=.int .i64 c∧c+ws≤8∧ShAt w N (dnTo N ws r c) wr) (fun vc _ _ _=>8 - (intOf vc).toNat)
 case atStart=>exact ⟨0,rfl,by omega,H0.out.congr (fun k _=>(dnTo_zero N ws r k).symm)⟩
 case round =>
  clear H0
  obtain ⟨c,rfl,hc,hat⟩:=hrel
  have HA:Hid _:=hat
  clear hat
  by_cases hlt : c + ws < 8
  ·have hcI:(c:Int)<8 - ws:=by omega
   obtain ⟨t,htd⟩:∃ t,c+ws=t:=⟨_,rfl⟩
   have htI:(c:Int)+ws=(t:Int):=by omega
   have ht8:t<8:=by omega
   have ht8I:(t:Int)<8:=by omega
   have hc8:c<8:=by omega
   have hc8I:(c:Int)<8:=by omega
   have htw:IntKind.i64.wrap (t:Int)=t:=IntWalk.i64_in _ (by omega)
   have cs:=HA.out.set.get ht8
   have co:=HA.out.out.get hc8
   have fo:=HA.out.out.frozen c
   have HT:Hid (c+ws=t):=htd
   obtain ⟨x,hx⟩:∃ x,dnTo N ws r c c=x:=⟨_,rfl⟩
   have hxl:=dnTo_lt N ws r c c
   rw [hx] at co hxl
   have HX:Hid _:=hx
   clear htd hx
   go_wp2_with fail
   go_region
   rw [or_shr _ _ _ hxl (word_lt N t)]
   generalize hW1:(wr.setCell ⟨w.heap.size+1+1,c,none⟩ (.int .u64 (x ||| word N t / 2 ^ r:Nat))).drew=W1
   have H1:Hid (ShAt w N (fun j=>if j=c then dnTo N ws r (c+1) c else dnTo N ws r c j) W1):=by
    show ShAt _ _ _ _
    rw [← hW1,← HX.out,← HT.out]
    have:=HA.out.put (x:=dnTo N ws r c c ||| word N (c+ws) / 2 ^ r) hc8
    rw [dnTo_low] at this ⊢
    exact this
   clear hW1 cs co fo HA hxl
   by_cases h7 : 0 < c
   ·obtain ⟨u,rfl⟩:∃ u,c=u+1:=⟨c - 1,by omega⟩
    have huI:((u+1:Nat):Int) - 1=(u:Int):=by omega
    have h7I:(0:Int)<((u+1:Nat):Int):=by omega
    have hu8:u<8:=by omega
    have hu8I:(u:Int)<8:=by omega
    have huw:IntKind.i64.wrap (u:Int)=u:=IntWalk.i64_in _ (by omega)
    have cs:=H1.out.set.get ht8
    have co:=H1.out.out.get hu8
    have fo:=H1.out.out.frozen u
    rw [if_neg (show ¬ u = u + 1 by omega)] at co
    obtain ⟨y,hy⟩:∃ y,dnTo N ws r (u+1) u=y:=⟨_,rfl⟩
    have hyl:=dnTo_lt N ws r (u+1) u
    rw [hy] at co hyl
    have HY:Hid _:=hy
    clear hy h7
    go_wp2_with fail
    go_region
    rw [or_shl _ _ _ hyl]
    generalize hW2:(W1.setCell ⟨w.heap.size+1+1,u,none⟩ (.int .u64 (y ||| word N t * 2 ^ m % 18446744073709551616:Nat))).drew=W2
    have H2:Hid (ShAt w N (dnTo N ws r (u+1+1)) W2):=by
     show ShAt _ _ _ _
     rw [← hW2,← HY.out,← HM.out,← HT.out]
     refine (H1.out.put (x:=dnTo N ws r (u+1) u ||| word N (u+1+ws) * 2 ^ (64 - r) % 18446744073709551616) hu8).congr ?_
     intro k hk
     by_cases k1 : k = u
     ·rw [if_pos k1,k1,dnTo_high]
     ·rw [if_neg k1]
      by_cases k2 : k = u + 1
      ·rw [if_pos k2,k2]
      ·rw [if_neg k2]
       exact (dnTo_else N ws r (u + 1) k (by omega) (by omega)).symm
    clear hW2 cs co fo H1 hyl
    go_wp2_with fail
    go_roundw
    case rel=>exact ⟨u+1+1,by go_num,by omega,H2.out⟩
    case measure=>simp [intOf];omega
   ·have hc0:c=0:=by omega
    have h7I:¬ (0:Int)<(c:Int):=by omega
    have H2:Hid (ShAt w N (dnTo N ws r (c+1)) W1):=by
     refine H1.out.congr ?_
     intro k hk
     by_cases k2 : k = c
     ·rw [if_pos k2,k2]
     ·rw [if_neg k2,dnTo_else _ _ _ _ _ (by omega) (by omega)]
    clear H1 hc0
    go_wp2_with fail
    go_roundw
    case rel=>exact ⟨c+1,by go_num,by omega,H2.out⟩
    case measure=>simp [intOf];omega
  ·have hcI:¬ (c:Int)<8 - ws:=by omega
   obtain ⟨d0,d1,d2,d3,d4,d5,d6,d7⟩:=(HA.out.res).gets
   have f0:=(HA.out.res).frozen 0
   have f1:=(HA.out.res).frozen 1
   have f2:=(HA.out.res).frozen 2
   have f3:=(HA.out.res).frozen 3
   have f4:=(HA.out.res).frozen 4
   have f5:=(HA.out.res).frozen 5
   have f6:=(HA.out.res).frozen 6
   have f7:=(HA.out.res).frozen 7
   obtain ⟨c0,c1,c2,c3,c4,c5,c6,c7⟩:=HA.out.out.gets
   go_wp2_with fail
   obtain ⟨h8,hB⟩:=st8 HA.out.res HA.out.below (by omega) (dnTo N ws r c) rfl rfl rfl rfl rfl rfl rfl rfl
   refine bodyPost_ret (results_set rfl rfl h8) rfl ⟨?_,hB⟩
   refine ret_one fun k _=>?_
   rw [show c=8 - ws by omega,HN.out]
   exact dnTo_end N ws r hN hr64 hws k

/-- What Shift answers. -/
def shiftN (N:Nat) (n:Int):Nat:=if 512≤n∨n ≤ -512 then 0 else if n<0 then downN N (-n).toNat else upN N n.toNat
set_option maxHeartbeats 4000000 in
set_option maxRecDepth 100000 in
theorem shift_any (N : Nat) (hN : Fits N) (n : Int) (w : World) :
  Calls Tryz.prog 140 #[setV N,.int .i64 n] w fun e w'=>e=.returned (setV (shiftN N n))∧Below w.heap.size w w':=by
 have H0:Hid (PutAt w (word N) ((w.alloc (.cells (cellsF (word N)) 61)).alloc (.cells #[.int .u64 0,.int .u64 0,.int .u64 0,.int .u64 0,.int .u64 0,.int .u64 0,.int .u64 0,.int .u64 0] 61))):=PutAt.start w N
 unfold setV cellsF
 unfold cellsF at H0
 by_cases hbig : 512 ≤ n ∨ n ≤ -512
 ·have HS:Hid (shiftN N n=0):=by show shiftN N n=0;rw [shiftN,if_pos hbig]
  by_cases h5 : 512 ≤ n
  all_goals
   first
    | (have h6:n ≤ -512:=by omega)
    | skip
   clear hbig
   go_enter Tryz.func140,Tryz.ntmps140
   go_wp2_with fail
   refine bodyPost_ret (results_set rfl rfl H0.out.res) rfl ⟨?_,H0.out.below⟩
   rw [HS.out]
   exact ret_one (fun k _=>by simp [word])
 ·have h5:¬ 512≤n:=by omega
  have h6:¬ n ≤ -512:=by omega
  clear hbig
  by_cases hneg : n < 0
  ·obtain ⟨m,hm⟩:∃ m:Nat,-n=m:=⟨(-n).toNat,by omega⟩
   have hm5:m<512:=by omega
   have HS:Hid (shiftN N n=downN N m):=by show shiftN N n=downN N m;rw [shiftN,if_neg (by omega),if_pos hneg,hm,Int.toNat_natCast]
   go_enter Tryz.func140,Tryz.ntmps140
   go_wp2_with fail
   try rw [hm]
   refine (shiftDown_any N m hN hm5 _).mono ?_
   rintro e W ⟨rfl,hb⟩
   have H1:Hid (PutAt w (word N) W):=H0.out.stay hb
   clear hb H0
   unfold setV cellsF
   obtain ⟨d0,d1,d2,d3,d4,d5,d6,d7⟩:=(H1.out.res).gets
   have f0:=(H1.out.res).frozen 0
   have f1:=(H1.out.res).frozen 1
   have f2:=(H1.out.res).frozen 2
   have f3:=(H1.out.res).frozen 3
   have f4:=(H1.out.res).frozen 4
   have f5:=(H1.out.res).frozen 5
   have f6:=(H1.out.res).frozen 6
   have f7:=(H1.out.res).frozen 7
   go_wp2_with fail
   obtain ⟨h8,hB⟩:=st8 H1.out.res H1.out.below (by omega) (word (downN N m)) rfl rfl rfl rfl rfl rfl rfl rfl
   refine bodyPost_ret (results_set rfl rfl h8) rfl ⟨?_,hB⟩
   rw [HS.out]
   rfl
  ·obtain ⟨m,rfl⟩:∃ m:Nat,n=m:=⟨n.toNat,by omega⟩
   have hm5:m<512:=by omega
   have HS:Hid (shiftN N m=upN N m):=by show shiftN N m=upN N m;rw [shiftN,if_neg (by omega),if_neg hneg,Int.toNat_natCast]
   go_enter Tryz.func140,Tryz.ntmps140
   go_wp2_with fail
   refine (shiftUp_any N m hm5 _).mono ?_
   rintro e W ⟨rfl,hb⟩
   have H1:Hid (PutAt w (word N) W):=H0.out.stay hb
   clear hb H0
   unfold setV cellsF
   obtain ⟨d0,d1,d2,d3,d4,d5,d6,d7⟩:=(H1.out.res).gets
   have f0:=(H1.out.res).frozen 0
   have f1:=(H1.out.res).frozen 1
   have f2:=(H1.out.res).frozen 2
   have f3:=(H1.out.res).frozen 3
   have f4:=(H1.out.res).frozen 4
   have f5:=(H1.out.res).frozen 5
   have f6:=(H1.out.res).frozen 6
   have f7:=(H1.out.res).frozen 7
   go_wp2_with fail
   obtain ⟨h8,hB⟩:=st8 H1.out.res H1.out.below (by omega) (word (upN N m)) rfl rfl rfl rfl rfl rfl rfl rfl
   refine bodyPost_ret (results_set rfl rfl h8) rfl ⟨?_,hB⟩
   rw [HS.out]
   rfl

end Go.Proofs.YtfdhaknecjcjoaaGreatDoor
