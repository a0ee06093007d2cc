/- Tr Ts Tt Tu, in one text. -/
import Derived.Test.YtfdhaknecjcjoaaGreatDoorPA
namespace Go.Proofs.YtfdhaknecjcjoaaGreatDoor
open Go.RowKit

set_option maxHeartbeats 1000000 in
theorem rarity_any (k : Int) (w : World) :
  Calls Tryz.prog 41 #[.int .i64 k] w fun e w'=>e=.returned (.int .i64 (arity k:Nat))∧w'=w:=by
 by_cases h5 : k = 5
 ·subst h5
  go_enter Tryz.func41,Tryz.ntmps41
  go_wp2
  go_ret
  exact ⟨rfl,rfl⟩
 by_cases h6 : k = 6
 ·subst h6
  go_enter Tryz.func41,Tryz.ntmps41
  go_wp2
  go_ret
  exact ⟨rfl,rfl⟩
 by_cases h7 : k = 7
 ·subst h7
  go_enter Tryz.func41,Tryz.ntmps41
  go_wp2
  go_ret
  exact ⟨rfl,rfl⟩
 by_cases h8 : k = 8
 ·subst h8
  go_enter Tryz.func41,Tryz.ntmps41
  go_wp2
  go_ret
  exact ⟨rfl,rfl⟩
 by_cases h9 : k = 9
 ·subst h9
  go_enter Tryz.func41,Tryz.ntmps41
  go_wp2
  go_ret
  exact ⟨rfl,rfl⟩
 have HA:Hid (arity k=0):=by show _=_;simp [arity,h5,h6,h7,h8,h9]
 rw [HA.out]
 have b5:(k == 5)=false:=by simpa using h5
 have b6:(k == 6)=false:=by simpa using h6
 have b7:(k == 7)=false:=by simpa using h7
 have b8:(k == 8)=false:=by simpa using h8
 have b9:(k == 9)=false:=by simpa using h9
 go_enter Tryz.func41,Tryz.ntmps41
 go_wp2
 go_ret
 exact ⟨rfl,rfl⟩

set_option maxHeartbeats 1000000 in
set_option maxRecDepth 100000 in
theorem rgood_any (n : Nd) (w : World) :
  Calls Tryz.prog 40 #[ndV n] w fun e w'=>e=.returned (.bool (good n))∧Below w.heap.size w w':=by
 obtain ⟨k,s⟩:=n
 unfold ndV
 have BB:=(Below.refl w.heap.size w).alloc (Nat.le_refl _) (.cells #[.int .i64 k,.int .u8 s] 51)
 have HB:Hid _:=BB
 clear BB
 by_cases h3 : k = 3
 ·have HC:Hid (good (k,s)=isLet s):=by show _=_;simp [good,h3]
  rw [HC.out]
  subst h3
  by_cases h1 : 97 ≤ s
  ·by_cases h2 : s ≤ 104
   ·have HL:Hid (isLet s=true):=by show _=_;simp [isLet];omega
    go_enter Tryz.func40,Tryz.ntmps40
    go_wp2_with fail
    go_ret
    exact ⟨ret_bool HL.out.symm,HB.out⟩
   ·have HL:Hid (isLet s=false):=by show _=_;simp [isLet];omega
    go_enter Tryz.func40,Tryz.ntmps40
    go_wp2_with fail
    go_ret
    exact ⟨ret_bool HL.out.symm,HB.out⟩
  ·have HL:Hid (isLet s=false):=by show _=_;simp [isLet];omega
   go_enter Tryz.func40,Tryz.ntmps40
   go_wp2_with fail
   go_ret
   exact ⟨ret_bool HL.out.symm,HB.out⟩
 ·have h3b:(k == 3)=false:=by simpa using h3
  by_cases h1 : 1 ≤ k
  ·by_cases h9 : k ≤ 9
   ·by_cases h0 : s = 0
    ·have HC:Hid (good (k,s)=true):=by show _=_;simp [good,h3];omega
     subst h0
     go_enter Tryz.func40,Tryz.ntmps40
     go_wp2_with fail
     go_ret
     exact ⟨ret_bool HC.out.symm,HB.out⟩
    ·have HC:Hid (good (k,s)=false):=by show _=_;simp [good,h3];omega
     have h0b:(s == 0)=false:=by simpa using h0
     go_enter Tryz.func40,Tryz.ntmps40
     go_wp2_with fail
     go_ret
     exact ⟨ret_bool HC.out.symm,HB.out⟩
   ·have HC:Hid (good (k,s)=false):=by show _=_;simp [good,h3];omega
    go_enter Tryz.func40,Tryz.ntmps40
    go_wp2_with fail
    go_ret
    exact ⟨ret_bool HC.out.symm,HB.out⟩
  ·have HC:Hid (good (k,s)=false):=by show _=_;simp [good,h3];omega
   go_enter Tryz.func40,Tryz.ntmps40
   go_wp2_with fail
   go_ret
   exact ⟨ret_bool HC.out.symm,HB.out⟩

set_option maxHeartbeats 2000000 in
set_option maxRecDepth 100000 in
theorem rwrong_any (v : Value) (ts : List Nd) (w : World) (hv : NReads w v ts) (hm : ts.length ≤ 9223372036854775806) :
  Calls Tryz.prog 25 #[v] w fun e w'=>e=.returned (.int .i64 (wrong ts))∧Below w.heap.size w w':=by
 obtain ⟨a,cap,rfl,hr⟩:=hv
 have HR:Hid _:=hr
 clear hr
 by_cases hbig : 4000 < ts.length
 ·have HW:Hid (wrong ts=6):=by show _=_;rw [wrong,if_pos hbig]
  have hbI:(4000:Int)<ts.length:=by omega
  go_enter Tryz.func25,Tryz.ntmps25
  go_wp2_with fail
  go_ret
  exact ⟨ret_int HW.out.symm,Below.refl _ _⟩
 ·have HW:Hid (wrong ts=if freeN ts=some 1 then 0 else 30):=by show _=_;rw [wrong,if_neg hbig]
  have hbI:¬ (4000:Int)<ts.length:=by omega
  go_enter Tryz.func25,Tryz.ntmps25
  go_wp2_with fail
  go_loopw [3,4] (fun vf vi wr=>∃ i f:Nat,i≤ts.length∧vi=.int .i64 i∧vf=.int .i64 f∧freeN (ts.take i)=some f∧Below w.heap.size w wr) (fun _ vi _=>ts.length - (intOf vi).toNat)
  case atStart=>exact ⟨0,0,Nat.zero_le _,rfl,rfl,rfl,Below.refl _ _⟩
  case round =>
   obtain ⟨i,f,hi,rfl,rfl,hf,hb⟩:=hrel
   have hfi:=free_le ts i hi f hf
   have HF:Hid (freeN (ts.take i)=some f):=hf
   have HB:Hid (Below w.heap.size w wr):=hb
   clear hf
   by_cases hlt : i < ts.length
   ·have hiI:(i:Int)<ts.length:=by omega
    obtain ⟨g,o,rfl,hg,h1,h2⟩:=HR.out i hlt
    have hst:=free_take hlt
    rw [HF.out,Option.bind_some] at hst
    obtain ⟨⟨k,s⟩,hn⟩:∃ n,ts.getD i (0,0)=n:=⟨_,rfl⟩
    rw [hn] at h1 h2 hst
    have c1:wr.cell? ⟨g,o+i * 2,none⟩=some (.int .i64 k):=by rw [below_cell hb hg];exact h1
    have c2:wr.cell? ⟨g,o+i * 2+1,none⟩=some (.int .u8 s):=by rw [below_cell hb hg];exact h2
    have HST:Hid _:=hst
    have hgw:g<wr.heap.size:=Nat.lt_of_lt_of_le hg hb.size
    clear hst hn h1 h2 hb
    by_cases hg3:good (k,s)=true
    ·have HG:Hid (good (k,s)=true):=hg3
     have hal:=arity_le k
     obtain ⟨r,HRd⟩:∃ r,Hid (arity k=r):=⟨_,rfl⟩
     rw [HRd.out] at hal
     have HST2:Hid (freeN (ts.take (i+1))=if good (k,s)=true∧arity k≤f then some (f - arity k+1) else none):=HST.out
     rw [HRd.out,HG.out] at HST2
     clear hg3 HST
     by_cases hrf : r ≤ f
     ·have HS3:Hid (freeN (ts.take (i+1))=some (f - r+1)):=by show _=_;rw [HST2.out,if_pos ⟨rfl,hrf⟩]
      have hrI:¬ (f:Int)<(r:Int):=by omega
      clear HST2
      go_wp2_with fail
      refine (rgood_any (k,s) _).mono ?_
      rintro e w1 ⟨rfl,hb1⟩
      rw [HG.out]
      have d1:w1.cell? ⟨g,o+i * 2,none⟩=some (.int .i64 k):=by rw [below_cell hb1 hgw];exact c1
      have HB1:Hid (Below w.heap.size w w1):=go_on HB.out hb1
      clear hb1 c1 c2
      go_wp2_with (go_at_call 41;refine (rarity_any k _).mono ?_;rintro e w2 ⟨rfl,rfl⟩;rw [HRd.out])
      go_roundw
      case rel=>exact ⟨i+1,f - r+1,by omega,by go_num,by go_num,HS3.out,HB1.out⟩
      case measure=>simp [intOf];omega
     ·have HS3:Hid (freeN ts=none):=free_stop (by rw [HST2.out,if_neg (by simp;omega)])
      have hrI:(f:Int)<(r:Int):=by omega
      clear HST2
      go_wp2_with fail
      refine (rgood_any (k,s) _).mono ?_
      rintro e w1 ⟨rfl,hb1⟩
      rw [HG.out]
      have d1:w1.cell? ⟨g,o+i * 2,none⟩=some (.int .i64 k):=by rw [below_cell hb1 hgw];exact c1
      have HB1:Hid (Below w.heap.size w w1):=go_on HB.out hb1
      clear hb1 c1 c2
      go_wp2_with (go_at_call 41;refine (rarity_any k _).mono ?_;rintro e w2 ⟨rfl,rfl⟩;rw [HRd.out])
      go_ret
      exact ⟨ret_int (by rw [HW.out,HS3.out];rfl),HB1.out⟩
    ·have hg4:good (k,s)=false:=by simpa using hg3
     have HS3:Hid (freeN ts=none):=free_stop (by rw [HST.out,if_neg (by simp [hg4])])
     have HG:Hid (good (k,s)=false):=hg4
     clear hg3 hg4 HST
     go_wp2_with fail
     refine (rgood_any (k,s) _).mono ?_
     rintro e w1 ⟨rfl,hb1⟩
     rw [HG.out]
     have HB1:Hid (Below w.heap.size w w1):=go_on HB.out hb1
     clear hb1 c1 c2
     go_wp2_with fail
     go_ret
     exact ⟨ret_int (by rw [HW.out,HS3.out];rfl),HB1.out⟩
   ·have hiI:¬ (i:Int)<ts.length:=by omega
    have HE:Hid (freeN ts=some f):=by show _=_;have:=HF.out;rwa [show i=ts.length by omega,List.take_length] at this
    by_cases hf1 : f = 1
    ·subst hf1
     clear hb
     go_wp2_with fail
     go_ret
     exact ⟨ret_int (by rw [HW.out,HE.out];rfl),HB.out⟩
    ·have hf1b:((f:Int) != 1)=true:=by simp;omega
     have HN:Hid (¬ f=1):=hf1
     clear hb hf1
     go_wp2_with fail
     go_ret
     exact ⟨ret_int (by rw [HW.out,HE.out,if_neg (by simp;exact HN.out)]),HB.out⟩

end Go.Proofs.YtfdhaknecjcjoaaGreatDoor

namespace Go.Proofs.YtfdhaknecjcjoaaGreatDoor
open Go.RowKit

/-- Stars' weight. -/
def wtS (n:Nd):Nat:=if n.1=8 then 1 else 0
set_option maxHeartbeats 1000000 in
set_option maxRecDepth 100000 in
theorem depth_bad (v : Value) (ts : List Nd) (w : World) (hv : NReads w v ts) (hm : ts.length ≤ 9223372036854775806) (hP : PTab w) (hbad : wrong ts ≠ 0) :
  Calls Tryz.prog 51 #[v] w fun e w'=>e=.returned (.tuple #[.int .i64 0,.int .i64 (wrong ts)])∧Below w.heap.size w w':=by
 have HV:Hid (NReads w v ts):=hv
 have HP:Hid (PTab w):=hP
 obtain ⟨x,HX⟩:∃ x,Hid (wrong ts=x):=⟨_,rfl⟩
 rw [HX.out] at hbad
 have hxb:(x != 0)=true:=by simpa using hbad
 clear hv hP hbad
 rw [HX.out]
 have HW:Hid (Calls Tryz.prog 79 #[v,.func (.func 80) #[] #[]] w fun e w'=>e=.returned (.tuple #[.int .i64 0,.int .i64 x])∧Below w.heap.size w w'):=by
  show Calls _ _ _ _ _
  go_enter Tryz.func79,Tryz.ntmps79
  go_wp2_with fail
  refine (treeError_any v ts _ HV.out hm HP.out).mono ?_
  rintro e w1 ⟨rfl,hb1⟩
  rw [HX.out]
  go_wp2_with fail
  go_ret2
  exact ⟨rfl,hb1⟩
 go_enter Tryz.func51,Tryz.ntmps51
 go_wp2_with fail
 refine Calls.mono HW.out ?_
 rintro e w1 ⟨rfl,hb1⟩
 go_wp2_with fail
 go_ret2
 exact ⟨rfl,hb1⟩

end Go.Proofs.YtfdhaknecjcjoaaGreatDoor

namespace Go.Proofs.YtfdhaknecjcjoaaGreatDoor
open Go.RowKit

/-- The weight that the document's depth counts. -/
def wtB (st:Bool) (n:Nd):Nat:=if st then wtS n else 1
end Go.Proofs.YtfdhaknecjcjoaaGreatDoor

namespace Go.Proofs.YtfdhaknecjcjoaaGreatDoor
open Go.RowKit

theorem wrong_zero {ts:List Nd} (h:wrong ts=0):ts.length≤4000∧freeN ts=some 1:=by
 unfold wrong at h
 split at h
 ·omega
 ·split at h
  ·rename_i h1 h2;exact ⟨by omega,h2⟩
  ·omega
theorem good_all {ts:List Nd} (hf:freeN ts=some 1) {i:Nat} (hi:i<ts.length):good (ts.getD i (0,0))=true:=by
 obtain ⟨_,_,hg,_⟩:=free_good hf hi
 exact hg
/-- A letter that is none of the first k. -/
def farL (k:Int) (n:Nd):Bool:=decide (n.1=3∧97+k≤n.2)
/-- What Check answers. -/
def checkV (k : Int) (ts : List Nd) : Int :=
 if k<1∨8<k then 20 else if wrong ts≠0 then wrong ts else if 128<(heavyN (fun _=>1) ts).getD 0 0 then 31 else if ts.any (farL k) then 21 else 0
end Go.Proofs.YtfdhaknecjcjoaaGreatDoor
