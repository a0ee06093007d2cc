/- Ta Tb Td Te Tf Tg Th Tw Tx Ty Tz Pa, in one text. -/
import Derived.Test.YtfdhaknecjcjoaaGreatDoorRows
import Derived.WalkKit
import Derived.IntWalk
import Derived.Lib.UnsafeStr
import Derived.Deep.RegionWith
import Derived.Deep.QuietTactic
import Derived.BigQuiet
import Derived.WalkLawsBesides
import Derived.Laws.ResultCell
import Derived.Maps.AppendAt
import Derived.Deep.DeepCutAuto
import Derived.Laws.AppendOwnNone
import Derived.Lib.SliceRun
import Derived.Deep.RegionHeld3
import Derived.Laws.OwnMore
import Derived.Laws.CopyOwn
namespace Go.Proofs.YtfdhaknecjcjoaaGreatDoor
open Go.RowKit

theorem ret_int {k:IntKind} {a b:Int} (h:a=b):Ending.returned (.int k a)=.returned (.int k b):=by rw [h]
theorem ret_bool {a b:Bool} (h:a=b):Ending.returned (.bool a)=.returned (.bool b):=by rw [h]
theorem go_on {w a b:World} (h:Below w.heap.size w a) (k:Below a.heap.size a b):Below w.heap.size w b:=h.trans (k.mono h.size)
theorem below_cell {w w':World} {B g o:Nat} (h:Below B w w') (hg:g<B):w'.cell? ⟨g,o,none⟩=w.cell? ⟨g,o,none⟩:=by
 simp only [World.cell?,h.block g hg]
theorem drewN_below (w:World) (q:Nat):Below w.heap.size w (w.drewN q):=⟨rfl,rfl,rfl,Nat.le_refl _,fun _ _=>rfl⟩
theorem below_drewN {B:Nat} {w W:World} (h:Below B w W) (q:Nat):Below B w (W.drewN q):=⟨h.os,h.tape,h.output,h.size,h.block⟩
/-- Block b holds the cells arr. -/
structure RowAt (w : World) (b : Nat) (arr : Array Value) : Prop where
 lt : b < w.heap.size
 cell:∀ o,w.cell? ⟨b,o,none⟩=arr[o]?
theorem RowAt.stay {w w' : World} {b : Nat} {arr : Array Value} (r : RowAt w b arr) (h : Below w.heap.size w w') : RowAt w' b arr :=
 ⟨Nat.lt_of_lt_of_le r.lt h.size,fun o=>by rw [h.cell (p:=⟨b,o,none⟩) r.lt,r.cell]⟩
theorem RowAt.alloc {w : World} {b : Nat} {arr : Array Value} (r : RowAt w b arr) (O : Obj) : RowAt (w.alloc O) b arr :=
 r.stay ((Below.refl _ _).alloc (Nat.le_refl _) O)
theorem RowAt.last (w : World) (arr : Array Value) (t : TypeId) : RowAt (w.alloc (.cells arr t)) w.heap.size arr :=
 ⟨by simp,fun o=>by simp only [World.cell?,heap_alloc_new];rfl⟩

/-! ### Nodes -/
/-- A node: its kind and its sign. -/
abbrev Nd:=Int × Int
def ndV (n:Nd):Value:=.agg #[.int .i64 n.1,.int .u8 n.2]
/-- What a node can be: its sign is a byte. -/
def Byt (n:Nd):Prop:=0≤n.2∧n.2≤255
/-- The list v reads as ts. -/
def NReads (w : World) (v : Value) (ts : List Nd) : Prop :=
 ∃ a cap,v=.slice a ts.length cap∧∀ i,i<ts.length→∃ g o,a=some ⟨g,o,none⟩∧g<w.heap.size ∧
  w.cell? ⟨g,o+i * 2,none⟩=some (.int .i64 (ts.getD i (0,0)).1)∧w.cell? ⟨g,o+i * 2+1,none⟩=some (.int .u8 (ts.getD i (0,0)).2)
theorem NReads.stay {w w':World} {v:Value} {ts:List Nd} (h:NReads w v ts) (hb:Below w.heap.size w w'):NReads w' v ts:=by
 obtain ⟨a,c,e,hr⟩:=h
 refine ⟨a,c,e,fun i hi=>?_⟩
 obtain ⟨g,o,e,hg,h1,h2⟩:=hr i hi
 exact ⟨g,o,e,Nat.lt_of_lt_of_le hg hb.size,by rw [below_cell hb hg];exact h1,by rw [below_cell hb hg];exact h2⟩
/-- How many parts a kind has. -/
def arity (k:Int):Nat:=if k=5∨k=6∨k=7 then 2 else if k=8∨k=9 then 1 else 0
theorem arity_le (k:Int):arity k≤2:=by unfold arity;split <;> (try split) <;> omega
def isLet (s:Int):Bool:=decide (97≤s∧s≤104)
/-- Is it a node? -/
def good (n:Nd):Bool:=if n.1=3 then isLet n.2 else decide (1≤n.1∧n.1≤9∧n.2=0)
theorem good_kind {n:Nd} (h:good n=true):1≤n.1∧n.1≤9:=by
 unfold good at h
 by_cases h3 : n.1 = 3
 ·omega
 ·rw [if_neg h3] at h;simp at h;omega
/-- The table of parts lies where the program lays it. -/
def PTab (w:World):Prop:=∀ j:Nat,j<10→w.cell? ⟨0,j,none⟩=some (.int .i64 (arity j:Nat))
theorem PTab.pos {w:World} (h:PTab w):0<w.heap.size:=World.block_lt_of_cell? w _ (h 0 (by decide))
theorem PTab.stay {w w':World} (h:PTab w) (hb:Below w.heap.size w w'):PTab w':=fun j hj=>(below_cell hb h.pos).trans (h j hj)
theorem PTab.below {n₀:Nat} {A B:World} (h:PTab A) (hb:Below n₀ A B) (h0:0<n₀):PTab B:=fun j hj=>(below_cell hb h0).trans (h j hj)

/-! ### The error of a list -/
/-- How many trees stand free behind the first nodes; none: it is no beginning of a tree. -/
def frees : List Nd → Option Nat → Option Nat
 | [],c=>c
 | n :: ts,c=>frees ts (c.bind fun h=>if good n∧arity n.1≤h then some (h - arity n.1+1) else none)
def freeN (ts:List Nd):Option Nat:=frees ts (some 0)
theorem frees_append (a b:List Nd) (c:Option Nat):frees (a ++ b) c=frees b (frees a c):=by
 induction a generalizing c with
 | nil=>rfl
 | cons n a ih=>simp only [List.cons_append,frees];rw [ih]
theorem frees_none (a:List Nd):frees a none=none:=by
 induction a with
 | nil=>rfl
 | cons n a ih=>simp only [frees,Option.bind_none];exact ih
theorem free_take {ts:List Nd} {i:Nat} (h:i<ts.length):freeN (ts.take (i+1))=(freeN (ts.take i)).bind fun h=>if good (ts.getD i (0,0))∧arity (ts.getD i (0,0)).1≤h then some (h - arity (ts.getD i (0,0)).1+1) else none:=by
 unfold freeN
 rw [List.take_add_one,frees_append]
 simp only [List.getElem?_eq_getElem h,Option.toList_some,frees,List.getD_eq_getElem?_getD,Option.getD_some]
theorem free_le (ts:List Nd):∀ i,i≤ts.length→∀ f,freeN (ts.take i)=some f→f≤i
 | 0,_,f,h=>by simp [freeN,frees] at h;omega
 | i+1,hi,f,h=>by
  rw [free_take (by omega)] at h
  cases hc : freeN (ts.take i) with
  | none=>rw [hc] at h;simp at h
  | some c =>
   have:=free_le ts i (by omega) c hc
   rw [hc] at h
   simp only [Option.bind_some] at h
   split at h
   ·simp at h;omega
   ·cases h
theorem free_stop {ts:List Nd} {i:Nat} (h:freeN (ts.take i)=none):freeN ts=none:=by
 have e:ts=ts.take i ++ ts.drop i:=(List.take_append_drop i ts).symm
 unfold freeN at h ⊢
 rw [e,frees_append,h,frees_none]
/-- The tree's error. -/
def wrong (ts:List Nd):Int:=if 4000<ts.length then 6 else if freeN ts=some 1 then 0 else 30

end Go.Proofs.YtfdhaknecjcjoaaGreatDoor

namespace Go.Proofs.YtfdhaknecjcjoaaGreatDoor
open Go.RowKit

set_option maxHeartbeats 1000000 in
theorem isLetter_any (s : Int) (w : World) :
  Calls Tryz.prog 133 #[.int .u8 s] w fun e w'=>e=.returned (.bool (isLet s))∧w'=w:=by
 by_cases h1 : 97 ≤ s
 ·by_cases h2 : s ≤ 104
  ·have HC:Hid (isLet s=true):=by show _=_;simp [isLet];omega
   go_enter Tryz.func133,Tryz.ntmps133
   go_wp2
   go_ret
   exact ⟨ret_bool HC.out.symm,rfl⟩
  ·have HC:Hid (isLet s=false):=by show _=_;simp [isLet];omega
   go_enter Tryz.func133,Tryz.ntmps133
   go_wp2
   go_ret
   exact ⟨ret_bool HC.out.symm,rfl⟩
 ·have HC:Hid (isLet s=false):=by show _=_;simp [isLet];omega
  go_enter Tryz.func133,Tryz.ntmps133
  go_wp2
  go_ret
  exact ⟨ret_bool HC.out.symm,rfl⟩

set_option maxHeartbeats 1000000 in
set_option maxRecDepth 100000 in
theorem isNode_any (n : Nd) (w : World) :
  Calls Tryz.prog 125 #[ndV n] w fun e w'=>e=.returned (.bool (good n))∧Below w.heap.size w w':=by
 obtain ⟨k,s⟩:=n
 unfold ndV
 have BB:=(Below.refl w.heap.size w).alloc (Nat.le_refl _) (.cells #[.int .i64 k,.int .u8 s] 51)
 have HB:Hid _:=BB
 clear BB
 by_cases h3 : k = 3
 ·have HC:Hid (good (k,s)=isLet s):=by show _=_;simp [good,h3]
  subst h3
  go_enter Tryz.func125,Tryz.ntmps125
  go_wp2_with (go_at_call 133;refine (isLetter_any s _).mono ?_;rintro e w1 ⟨rfl,rfl⟩)
  go_ret
  exact ⟨ret_bool HC.out.symm,HB.out⟩
 ·have h3b:(k == 3)=false:=by simpa using h3
  by_cases h1 : 1 ≤ k
  ·by_cases h9 : k ≤ 9
   ·by_cases h0 : s = 0
    ·have HC:Hid (good (k,s)=true):=by show _=_;simp [good,h3];omega
     subst h0
     go_enter Tryz.func125,Tryz.ntmps125
     go_wp2_with fail
     go_ret
     exact ⟨ret_bool HC.out.symm,HB.out⟩
    ·have HC:Hid (good (k,s)=false):=by show _=_;simp [good,h3];omega
     have h0b:(s == 0)=false:=by simpa using h0
     go_enter Tryz.func125,Tryz.ntmps125
     go_wp2_with fail
     go_ret
     exact ⟨ret_bool HC.out.symm,HB.out⟩
   ·have HC:Hid (good (k,s)=false):=by show _=_;simp [good,h3];omega
    go_enter Tryz.func125,Tryz.ntmps125
    go_wp2_with fail
    go_ret
    exact ⟨ret_bool HC.out.symm,HB.out⟩
  ·have HC:Hid (good (k,s)=false):=by show _=_;simp [good,h3];omega
   go_enter Tryz.func125,Tryz.ntmps125
   go_wp2_with fail
   go_ret
   exact ⟨ret_bool HC.out.symm,HB.out⟩

set_option maxHeartbeats 2000000 in
set_option maxRecDepth 100000 in
theorem treeError_any (v : Value) (ts : List Nd) (w : World) (hv : NReads w v ts) (hm : ts.length ≤ 9223372036854775806) (hP : PTab w) :
  Calls Tryz.prog 103 #[v] w fun e w'=>e=.returned (.int .i64 (wrong ts))∧Below w.heap.size w w':=by
 obtain ⟨a,cap,rfl,hr⟩:=hv
 have HR:Hid _:=hr
 have HP:Hid (PTab w):=hP
 clear hr hP
 by_cases hbig : 4000 < ts.length
 ·have HW:Hid (wrong ts=6):=by show _=_;rw [wrong,if_pos hbig]
  have hbI:(4000:Int)<ts.length:=by omega
  go_enter Tryz.func103,Tryz.ntmps103
  go_wp2_with fail
  go_ret
  exact ⟨ret_int HW.out.symm,Below.refl _ _⟩
 ·have HW:Hid (wrong ts=if freeN ts=some 1 then 0 else 30):=by show _=_;rw [wrong,if_neg hbig]
  have hbI:¬ (4000:Int)<ts.length:=by omega
  go_enter Tryz.func103,Tryz.ntmps103
  go_wp2_with fail
  go_loopw [3,11] (fun vf vi wr=>∃ i f:Nat,i≤ts.length∧vi=.int .i64 i∧vf=.int .i64 f∧freeN (ts.take i)=some f∧Below w.heap.size w wr) (fun _ vi _=>ts.length - (intOf vi).toNat)
  case atStart=>exact ⟨0,0,Nat.zero_le _,rfl,rfl,rfl,Below.refl _ _⟩
  case round =>
   obtain ⟨i,f,hi,rfl,rfl,hf,hb⟩:=hrel
   have hfi:=free_le ts i hi f hf
   have HF:Hid (freeN (ts.take i)=some f):=hf
   have HB:Hid (Below w.heap.size w wr):=hb
   clear hf
   by_cases hlt : i < ts.length
   ·have hiI:(i:Int)<ts.length:=by omega
    obtain ⟨g,o,rfl,hg,h1,h2⟩:=HR.out i hlt
    have hst:=free_take hlt
    rw [HF.out,Option.bind_some] at hst
    obtain ⟨⟨k,s⟩,hn⟩:∃ n,ts.getD i (0,0)=n:=⟨_,rfl⟩
    rw [hn] at h1 h2 hst
    have c1:wr.cell? ⟨g,o+i * 2,none⟩=some (.int .i64 k):=by rw [below_cell hb hg];exact h1
    have c2:wr.cell? ⟨g,o+i * 2+1,none⟩=some (.int .u8 s):=by rw [below_cell hb hg];exact h2
    have HST:Hid _:=hst
    clear hst hn h1 h2 hb
    by_cases hg3:good (k,s)=true
    ·obtain ⟨hk1,hk9⟩:=good_kind hg3
     simp only at hk1 hk9
     obtain ⟨j,rfl⟩:∃ j:Nat,k=j:=⟨k.toNat,by omega⟩
     have hj9:j<10:=by omega
     have hjI:(j:Int)<10:=by omega
     have hcp:=HP.out.below HB.out HP.out.pos j hj9
     have hw0:0<wr.heap.size:=Nat.lt_of_lt_of_le HP.out.pos HB.out.size
     have HG:Hid (good ((j:Int),s)=true):=hg3
     have hal:=arity_le (j:Int)
     obtain ⟨r,hrd⟩:∃ r,arity (j:Int)=r:=⟨_,rfl⟩
     rw [hrd] at hcp hal
     have HST2:Hid (freeN (ts.take (i+1))=if good ((j:Int),s)=true∧arity (j:Int)≤f then some (f - arity (j:Int)+1) else none):=HST.out
     rw [hrd,HG.out] at HST2
     clear hg3 hrd HST
     by_cases hrf : r ≤ f
     ·have HS3:Hid (freeN (ts.take (i+1))=some (f - r+1)):=by show _=_;rw [HST2.out,if_pos ⟨rfl,hrf⟩]
      have hrI:¬ (f:Int)<(r:Int):=by omega
      clear HST2
      go_wp2_with fail
      refine (isNode_any ((j:Int),s) _).mono ?_
      rintro e w1 ⟨rfl,hb1⟩
      rw [HG.out]
      have rn:=(RowAt.last wr #[.int .i64 (j:Int),.int .u8 s] 51).stay hb1
      have cn:=rn.cell
      have cp:w1.cell? ⟨0,j,none⟩=some (.int .i64 (r:Int)):=by rw [below_cell hb1 (by first | (simp;done) | (simp;omega)),below_cell ((Below.refl wr.heap.size wr).alloc (Nat.le_refl _) _) hw0];exact hcp
      have HB1:Hid (Below w.heap.size w w1):=go_on (HB.out.alloc HB.out.size _) hb1
      clear hb1 hcp c1 c2
      go_wp2_with fail
      go_roundw
      case rel=>exact ⟨i+1,f - r+1,by omega,by go_num,by go_num,HS3.out,HB1.out⟩
      case measure=>simp [intOf];omega
     ·have HS3:Hid (freeN ts=none):=free_stop (by rw [HST2.out,if_neg (by simp;omega)])
      have hrI:(f:Int)<(r:Int):=by omega
      clear HST2
      go_wp2_with fail
      refine (isNode_any ((j:Int),s) _).mono ?_
      rintro e w1 ⟨rfl,hb1⟩
      rw [HG.out]
      have rn:=(RowAt.last wr #[.int .i64 (j:Int),.int .u8 s] 51).stay hb1
      have cn:=rn.cell
      have cp:w1.cell? ⟨0,j,none⟩=some (.int .i64 (r:Int)):=by rw [below_cell hb1 (by first | (simp;done) | (simp;omega)),below_cell ((Below.refl wr.heap.size wr).alloc (Nat.le_refl _) _) hw0];exact hcp
      have HB1:Hid (Below w.heap.size w w1):=go_on (HB.out.alloc HB.out.size _) hb1
      clear hb1 hcp c1 c2
      go_wp2_with fail
      go_ret
      exact ⟨ret_int (by rw [HW.out,HS3.out];rfl),HB1.out⟩
    ·have hg4:good (k,s)=false:=by simpa using hg3
     have HS3:Hid (freeN ts=none):=free_stop (by rw [HST.out,if_neg (by simp [hg4])])
     have HG:Hid (good (k,s)=false):=hg4
     clear hg3 hg4 HST
     go_wp2_with fail
     refine (isNode_any (k,s) _).mono ?_
     rintro e w1 ⟨rfl,hb1⟩
     rw [HG.out]
     have HB1:Hid (Below w.heap.size w w1):=go_on (HB.out.alloc HB.out.size _) hb1
     clear hb1 c1 c2
     go_wp2_with fail
     go_ret
     exact ⟨ret_int (by rw [HW.out,HS3.out];rfl),HB1.out⟩
   ·have hiI:¬ (i:Int)<ts.length:=by omega
    have HE:Hid (freeN ts=some f):=by show _=_;have:=HF.out;rwa [show i=ts.length by omega,List.take_length] at this
    by_cases hf1 : f = 1
    ·subst hf1
     clear hb
     go_wp2_with fail
     go_ret
     exact ⟨ret_int (by rw [HW.out,HE.out];rfl),HB.out⟩
    ·have hf1b:((f:Int) != 1)=true:=by simp;omega
     have HN:Hid (¬ f=1):=hf1
     clear hb hf1
     go_wp2_with fail
     go_ret
     exact ⟨ret_int (by rw [HW.out,HE.out,if_neg (by simp;exact HN.out)]),HB.out⟩

end Go.Proofs.YtfdhaknecjcjoaaGreatDoor

namespace Go.Proofs.YtfdhaknecjcjoaaGreatDoor
open Go.RowKit

/-- Nodes as a row's cells. -/
def ndC : List Nd → List Value
 | []=>[]
 | n :: ts=>.int .i64 n.1 :: .int .u8 n.2 :: ndC ts
theorem ndC_append (a b:List Nd):ndC (a ++ b)=ndC a ++ ndC b:=by
 induction a with
 | nil=>rfl
 | cons n a ih=>simp [ndC,ih]
theorem ndC_length (ts:List Nd):(ndC ts).length=ts.length * 2:=by
 induction ts with
 | nil=>rfl
 | cons n a ih=>simp only [ndC,List.length_cons,ih];omega
theorem ndC_fst (ts:List Nd) (i:Nat) (h:i<ts.length):(ndC ts)[i * 2]?=some (.int .i64 (ts.getD i (0,0)).1):=by
 induction ts generalizing i with
 | nil=>simp at h
 | cons n a ih =>
  cases i with
  | zero=>simp [ndC]
  | succ i =>
   rw [show (i + 1) * 2 = i * 2 + 1 + 1 by omega]
   simp only [ndC,List.getElem?_cons_succ,List.getD_cons_succ]
   exact ih i (by simpa using h)
theorem ndC_snd (ts:List Nd) (i:Nat) (h:i<ts.length):(ndC ts)[i * 2+1]?=some (.int .u8 (ts.getD i (0,0)).2):=by
 induction ts generalizing i with
 | nil=>simp at h
 | cons n a ih =>
  cases i with
  | zero=>simp [ndC]
  | succ i =>
   rw [show (i + 1) * 2 + 1 = i * 2 + 1 + 1 + 1 by omega]
   simp only [ndC,List.getElem?_cons_succ,List.getD_cons_succ]
   exact ih i (by simpa using h)
theorem ndC_one (ts:List Nd):∀ u ∈ ndC ts,u.oneCell'=true:=by
 induction ts with
 | nil=>intro u hu;cases hu
 | cons n a ih =>
  intro u hu
  simp only [ndC,List.mem_cons] at hu
  rcases hu with rfl | rfl | hu
  ·rfl
  ·rfl
  ·exact ih u hu
theorem own_shape {w:World} {base:Nat} {e:TypeId} {size n:Nat} {v:Value} {xs:List Value} (h:w.ownsRow base e size v n xs):∃ a cap,v=.slice a n cap:=by
 obtain ⟨_,h⟩:=h
 rcases h with ⟨rfl,hn⟩ | ⟨g,cap,cur,rfl,_⟩
 ·exact ⟨none,0,by rw [hn]⟩
 ·exact ⟨_,_,rfl⟩
theorem own_mono {w:World} {base base':Nat} {e:TypeId} {size n:Nat} {v:Value} {xs:List Value} (h:w.ownsRow base e size v n xs) (hb:base'≤base):w.ownsRow base' e size v n xs:=by
 obtain ⟨a,b⟩:=h
 refine ⟨a,?_⟩
 rcases b with b | ⟨g,cap,cur,e,r,r2⟩
 ·exact .inl b
 ·exact .inr ⟨g,cap,cur,e,Nat.le_trans hb r,r2⟩
theorem own_below {w w':World} {base:Nat} {e:TypeId} {size n:Nat} {v:Value} {xs:List Value} (h:w.ownsRow base e size v n xs) (hb:Below w.heap.size w w'):w'.ownsRow base e size v n xs:=by
 obtain ⟨a,b⟩:=h
 refine ⟨a,?_⟩
 rcases b with b | ⟨g,cap,cur,e1,r,r2,r3⟩
 ·exact .inl b
 ·exact .inr ⟨g,cap,cur,e1,r,by rw [hb.block g (Array.getElem?_eq_some_iff.1 r2).1];exact r2,r3⟩
theorem own_nreads {w:World} {base:Nat} {v:Value} {ts:List Nd} (h:w.ownsRow base 51 2 v ts.length (ndC ts)):NReads w v ts:=by
 obtain ⟨h0,h1⟩:=h
 rcases h1 with ⟨rfl,hn⟩ | ⟨g,cap,cur,rfl,r⟩
 ·exact ⟨none,0,by rw [hn],fun i hi=>by omega⟩
 ·obtain ⟨_,r2,r3,_,r5,r6⟩:=r
  have hc:∀ j u,(ndC ts)[j]?=some u→w.cell? ⟨g,j,none⟩=some u:=by
   intro j u hj
   rw [← r6,List.getElem?_take] at hj
   split at hj
   ·simp only [World.cell?,r2]
    simpa using hj
   ·cases hj
  refine ⟨some ⟨g,0,none⟩,cap,rfl,fun i hi=>⟨g,0,rfl,(Array.getElem?_eq_some_iff.1 r2).1,?_,?_⟩⟩
  ·rw [Nat.zero_add];exact hc _ _ (ndC_fst ts i hi)
  ·rw [Nat.zero_add];exact hc _ _ (ndC_snd ts i hi)
/-- A list that reads as nodes gives its cells. -/
theorem nreads_cells {w:World} {ad:Addr} {n cap:Nat} {ts:List Nd} (h:NReads w (.slice (some ad) n cap) ts):∀ j u,(ndC ts)[j]?=some u→w.cell? (ad.add j)=some u:=by
 obtain ⟨a,c,e,hr⟩:=h
 simp only [Value.slice.injEq] at e
 obtain ⟨rfl,rfl,rfl⟩:=e
 intro j u hj
 have hjl:j<ts.length * 2:=by rw [← ndC_length];exact (List.getElem?_eq_some_iff.1 hj).1
 obtain ⟨g,o,e,_,c1,c2⟩:=hr (j / 2) (by omega)
 cases e
 rw [Addr.add_lit]
 by_cases hp : j % 2 = 0
 ·have ej:j / 2 * 2=j:=by omega
  rw [ej] at c1
  rw [c1,← hj,← ndC_fst ts (j / 2) (by omega),ej]
 ·have ej:j / 2 * 2+1=j:=by omega
  rw [Nat.add_assoc,ej] at c2
  rw [c2,← hj,← ndC_snd ts (j / 2) (by omega),ej]
theorem Tryz.info_node:(Tryz.prog.info? 51).map (fun i=>(i.zero,i.size,i.bytes))=some (some (.agg #[.int .i64 0,.int .u8 0]),2,16):=by kernel_rfl

set_option maxHeartbeats 2000000 in
set_option maxRecDepth 100000 in
theorem clone_any (ad : Addr) (cap : Nat) (ts : List Nd) (w : World) (hv : NReads w (.slice (some ad) ts.length cap) ts) (hm : ts.length * 16 ≤ 140737488355328) :
  Calls Tryz.prog 96 #[.slice (some ad) ts.length cap] w fun e w'=>∃ v,e=.returned v∧v≠.slice none 0 0∧w'.ownsRow w.heap.size 51 2 v ts.length (ndC ts)∧Below w.heap.size w w':=by
 obtain ⟨i0,hi,hz0,hz1,hz2⟩:=info_parts Tryz.info_node
 have hb0:Below w.heap.size w (w.alloc (.cells #[] 51)):=(Below.refl _ _).alloc (Nat.le_refl _) _
 have HN:Hid _:=nreads_cells (hv.stay hb0)
 have HO0:Hid ((w.alloc (.cells #[] 51)).ownsRow w.heap.size 51 2 (.slice (some ⟨w.heap.size,0,none⟩) 0 0) 0 []):=World.ownsRow_made w #[] 0 (Nat.le_refl _) (by unfold maxLen;omega) rfl
 have HB0:Hid (Below w.heap.size w (w.alloc (.cells #[] 51))):=hb0
 have hlc:=ndC_length ts
 have h1c:=ndC_one ts
 have hnil:=fun w0=>Lib.run_eql_slice_nil (P:=Tryz.prog) w0 22 51 (some ad) ts.length cap 0 0 Tryz.underlying22
 simp only [Option.isNone_some] at hnil
 clear hv hb0
 go_enter Tryz.func96,Tryz.ntmps96
 go_wp2_with (at_builtin;refine wpList_append_own _ rfl _ _ 22 rfl w.heap.size 51 i0 (.agg #[.int .i64 0,.int .u8 0]) 2 16 Tryz.underlying22 hi hz0 hz1 hz2 rfl (by decide) _ _ _ rfl HO0.out ad ts.length cap (ndC ts) rfl hlc HN.out h1c (by unfold maxLen;omega) (by omega) (by simp) ?_)
 intro v2 w2 ho2 hg2 hn2
 have hb2:Below w.heap.size w w2:=HB0.out.grown hg2 (by simp) (fun k hk=>(HO0.out.lt k hk).1)
 have hv2:v2≠.slice none 0 0:=hn2
 have HO2:Hid (w2.ownsRow w.heap.size 51 2 v2 ts.length (ndC ts)):=(by simpa using ho2:w2.ownsRow w.heap.size 51 2 v2 ts.length (ndC ts))
 clear ho2 hg2 hn2
 go_wp2_with fail
 go_ret
 exact ⟨_,rfl,hv2,HO2.out,hb2⟩

set_option maxHeartbeats 4000000 in
set_option maxRecDepth 100000 in
theorem eq2 (k s l t:Int) (w:World):(Op.equalIn 10000 51 (.agg #[.int .i64 k,.int .u8 s]) (.agg #[.int .i64 l,.int .u8 t])).run Tryz.prog w=.ok (k == l && s == t) w:=by
 have u3:=Tryz.underlying3
 have a3':=Tryz.isAgg3
 have z3:=Tryz.sizeOf3
 have u4:=Tryz.underlying5
 have a4':=Tryz.isAgg5
 have z4:=Tryz.sizeOf5
 rw [show (10000:Nat)=9999+1 from rfl,Op.equalIn]
 simp only [Sem.run_bind,run_underlying Tryz.underlying51,Result.andThen_ok]
 go_simp
 by_cases h0 : k = l
 ·by_cases h1 : s = t
  ·simp [h0,h1]
  ·simp [h0,h1]
 ·simp [h0]

set_option maxHeartbeats 2000000 in
set_option maxRecDepth 100000 in
theorem same_any (v1 v2 : Value) (a b : List Nd) (w : World) (h1 : NReads w v1 a) (h2 : NReads w v2 b) (hm : a.length ≤ 9223372036854775806) :
  Calls Tryz.prog 16 #[v1,v2] w fun e w'=>e=.returned (.bool (decide (a=b)))∧Below w.heap.size w w':=by
 obtain ⟨a1,c1,rfl,g1⟩:=h1
 obtain ⟨a2,c2,rfl,g2⟩:=h2
 have H1:Hid _:=g1
 have H2:Hid _:=g2
 clear g1 g2
 by_cases hl : a.length = b.length
 ·have hlb:((a.length:Int) != (b.length:Int))=false:=by rw [bne_eq_false_iff_eq];omega
  have HL:Hid (a.length=b.length):=hl
  clear hl
  go_enter Tryz.func16,Tryz.ntmps16
  go_wp2_with fail
  go_loopw [5] (fun vi wr=>∃ i q:Nat,i≤a.length∧vi=.int .i64 i∧(∀ j,j<i→a.getD j (0,0)=b.getD j (0,0))∧wr=w.drewN q) (fun vi _=>a.length - (intOf vi).toNat)
  case atStart=>exact ⟨0,0,Nat.zero_le _,rfl,fun j hj=>by omega,rfl⟩
  case round =>
   obtain ⟨i,q,hi,rfl,hall,rfl⟩:=hrel
   have HA:Hid (∀ j,j<i→a.getD j (0,0)=b.getD j (0,0)):=hall
   clear hall
   by_cases hlt : i < a.length
   ·have hiI:(i:Int)<a.length:=by omega
    have hlt2:i<b.length:=by have:=HL.out;omega
    have hiI2:(i:Int)<b.length:=by omega
    obtain ⟨ga,oa,rfl,hga,a11,a12⟩:=H1.out i hlt
    obtain ⟨gb,ob,rfl,hgb,b11,b12⟩:=H2.out i hlt2
    obtain ⟨⟨k,s⟩,hx⟩:∃ x,a.getD i (0,0)=x:=⟨_,rfl⟩
    obtain ⟨⟨l,t⟩,hy⟩:∃ y,b.getD i (0,0)=y:=⟨_,rfl⟩
    rw [hx] at a11 a12
    rw [hy] at b11 b12
    have HX:Hid (a.getD i (0,0)=(k,s)):=hx
    have HY:Hid (b.getD i (0,0)=(l,t)):=hy
    clear hx hy
    have e2:=eq2 k s l t
    by_cases hxy:k=l∧s=t
    ·obtain ⟨rfl,rfl⟩:=hxy
     have hbe:(k == k && s == s)=true:=by simp
     rw [hbe] at e2
     go_wp2_with fail
     go_region
     go_wp2_with fail
     go_roundw
     case rel=>exact ⟨i+1,_,by omega,by go_num,fun j hj=>by
      by_cases e : j = i
      ·rw [e,HX.out,HY.out]
      ·exact HA.out j (by omega),rfl⟩
     case measure=>simp [intOf];omega
    ·have hbe:(k == l && s == t)=false:=by simpa using hxy
     rw [hbe] at e2
     have HE:Hid (decide (a=b)=false):=by
      show decide (a = b) = false
      simp
      intro h
      apply hxy
      have h1:=HX.out
      rw [h,HY.out] at h1
      simp at h1
      exact ⟨h1.1.symm,h1.2.symm⟩
     clear hxy hbe
     go_wp2_with fail
     go_region
     go_wp2_with fail
     go_ret
     exact ⟨ret_bool HE.out.symm,drewN_below w _⟩
   ·have hiI:¬ (i:Int)<a.length:=by omega
    have HE:Hid (decide (a=b)=true):=by
     show decide (a = b) = true
     rw [decide_eq_true_iff]
     apply List.ext_getElem?
     intro j
     have hl:=HL.out
     by_cases hj : j < a.length
     ·have h1:=HA.out j (by omega)
      rw [List.getD_eq_getElem?_getD,List.getD_eq_getElem?_getD,List.getElem?_eq_getElem hj,List.getElem?_eq_getElem (by omega)] at h1
      rw [List.getElem?_eq_getElem hj,List.getElem?_eq_getElem (by omega)]
      simp only [Option.getD_some] at h1
      rw [h1]
     ·rw [List.getElem?_eq_none (by omega),List.getElem?_eq_none (by omega)]
    go_wp2_with fail
    go_ret
    exact ⟨ret_bool HE.out.symm,drewN_below w _⟩
 ·have hlb:((a.length:Int) != (b.length:Int))=true:=by rw [bne_iff_ne];omega
  have HE:Hid (decide (a=b)=false):=by
   show decide (a = b) = false
   simp
   intro h
   exact hl (by rw [h])
  clear hl
  go_enter Tryz.func16,Tryz.ntmps16
  go_wp2_with fail
  go_ret
  exact ⟨ret_bool HE.out.symm,Below.refl _ _⟩

end Go.Proofs.YtfdhaknecjcjoaaGreatDoor

namespace Go.Proofs.YtfdhaknecjcjoaaGreatDoor
open Go.RowKit

/-- The sizes of the trees that stand free, the last one first. -/
def stk : List Nd → List Nat → List Nat
 | [],s=>s
 | n :: ts,s=>stk ts (match arity n.1,s with
  | 0,s=>1 :: s
  | 1,a :: s=>(1+a) :: s
  | 2,a :: b :: s=>(1+a+b) :: s
  | _,s=>s)
def stkN (ts:List Nd):List Nat:=stk ts []
def push (n:Nd) (s:List Nat):List Nat:=match arity n.1,s with
  | 0,s=>1 :: s
  | 1,a :: s=>(1+a) :: s
  | 2,a :: b :: s=>(1+a+b) :: s
  | _,s=>s
theorem stk_append (a b:List Nd) (s:List Nat):stk (a ++ b) s=stk b (stk a s):=by
 induction a generalizing s with
 | nil=>rfl
 | cons n a ih=>simp only [List.cons_append,stk];rw [ih]
theorem stk_take {ts:List Nd} {i:Nat} (h:i<ts.length):stkN (ts.take (i+1))=push (ts.getD i (0,0)) (stkN (ts.take i)):=by
 unfold stkN
 rw [List.take_add_one,stk_append]
 simp only [List.getElem?_eq_getElem h,Option.toList_some,stk,List.getD_eq_getElem?_getD,Option.getD_some]
 rfl
/-- L tells, at the places where free trees end, their sizes. -/
def Ends (L : List Nat) : Nat → List Nat → Prop
 | p,[]=>p=0
 | p,s :: r=>1≤s∧s≤p∧L[p - 1]?=some s∧Ends L (p - s) r
theorem Ends.mono {L M:List Nat}:∀ {s:List Nat} {p:Nat},Ends L p s→(∀ j,j<p→M[j]?=L[j]?)→Ends M p s
 | [],_,h,_=>h
 | _ :: _,p,⟨h1,h2,h3,h4⟩,hm=>⟨h1,h2,by rw [hm (p - 1) (by omega)];exact h3,Ends.mono h4 (fun j hj=>hm j (by omega))⟩
/-! ### A row of numbers in a block of its own -/
def iA (L:List Nat):Array Value:=(L.map fun (n:Nat)=>Value.int .i64 (n:Int)).toArray
def IRow (w:World) (g:Nat) (L:List Nat):Prop:=w.heap[g]?=some (.cells (iA L) 3 (0,0))
theorem IRow.lt {w:World} {g:Nat} {L:List Nat} (h:IRow w g L):g<w.heap.size:=(Array.getElem?_eq_some_iff.1 h).1
theorem IRow.get {w:World} {g i x:Nat} {L:List Nat} (h:IRow w g L) (hi:L[i]?=some x):w.cell? ⟨g,i,none⟩=some (.int .i64 (x:Int)):=by
 have h':w.heap[g]?=some (.cells (iA L) 3 (0,0)):=h
 simp [World.cell?,h',iA,hi]
theorem IRow.frozen {w:World} {g:Nat} {L:List Nat} (h:IRow w g L) (i:Nat):w.frozen? ⟨g,i,none⟩=false:=by
 have h':w.heap[g]?=some (.cells (iA L) 3 (0,0)):=h
 simp [World.frozen?,h']
theorem IRow.set {w:World} {g i v:Nat} {L:List Nat} (h:IRow w g L):IRow (w.setCell ⟨g,i,none⟩ (.int .i64 (v:Int))) g (L.set i v):=by
 have h':w.heap[g]?=some (.cells (iA L) 3 (0,0)):=h
 unfold IRow
 simp only [World.setCell]
 rw [Array.getElem?_modify,if_pos rfl,h']
 simp [iA,List.map_set]
theorem IRow.keep {w w':World} {g:Nat} {L:List Nat} (h:IRow w g L) (hb:Below w.heap.size w w'):IRow w' g L:=(hb.block g h.lt).trans h
theorem IRow.alloc {w:World} {g:Nat} {L:List Nat} (h:IRow w g L) (o:Obj):IRow (w.alloc o) g L:=h.keep ((Below.refl _ _).alloc (Nat.le_refl _) o)
theorem IRow.drew {w:World} {g:Nat} {L:List Nat} (h:IRow w g L):IRow w.drew g L:=h
theorem made_iA (n:Nat):madeCells #[.int .i64 0] n=iA (List.replicate n 0):=by
 apply Array.ext_getElem?
 intro i
 unfold madeCells iA
 by_cases h : i < n
 ·simp [h,Nat.mod_one]
 ·simp [h]
theorem Tryz.info_int:(Tryz.prog.info? 3).map (fun i=>(i.zero,i.size,i.bytes))=some (some (.int .i64 0),1,8):=by kernel_rfl

/-- What stands ahead of round i of sizes. -/
structure SzAt (w : World) (g : Nat) (ts : List Nd) (i : Nat) (L : List Nat) (wr : World) : Prop where
 len : L.length = ts.length
 row : IRow wr g L
 ends:∀ j,j≤i→Ends L j (stkN (ts.take j))
 below : Below w.heap.size w wr

theorem free_good {ts:List Nd} {i f:Nat} (h:freeN ts=some f) (hi:i<ts.length):∃ c,freeN (ts.take i)=some c∧good (ts.getD i (0,0))=true∧arity (ts.getD i (0,0)).1≤c∧freeN (ts.take (i+1))=some (c - arity (ts.getD i (0,0)).1+1):=by
 have h1:freeN (ts.take (i+1))≠none:=fun h0=>by rw [free_stop h0] at h;cases h
 have h2:=free_take hi
 cases hc : freeN (ts.take i) with
 | none=>rw [hc] at h2;exact absurd h2 h1
 | some c =>
  rw [hc,Option.bind_some] at h2
  by_cases hg:good (ts.getD i (0,0))=true∧arity (ts.getD i (0,0)).1≤c
  ·rw [if_pos hg] at h2
   exact ⟨c,rfl,hg.1,hg.2,h2⟩
  ·rw [if_neg hg] at h2
   exact absurd h2 h1

/-- How the size at a node's place comes about, part by part. -/
theorem steps {n:Nd} {L:List Nat} {i v:Nat} (h:(arity n.1=0∧v=1)∨(arity n.1=1∧∃ a,L[i - 1]?=some a∧a+1≤i+1∧v=1+a∧1≤a)∨(arity n.1=2∧∃ a b,L[i - 1]?=some a∧1≤a∧1≤b∧L[i - 1 - a]?=some b∧v=1+a+b∧a+b≤i)) :
  ∃ pv:Nat→Nat,pv 0=1∧pv (arity n.1)=v∧∀ j,j<arity n.1→1≤pv j∧pv j≤i∧∃ d,L[i - pv j]?=some d∧pv (j+1)=pv j+d∧pv j+d≤i+1:=by
 rcases h with ⟨h0,rfl⟩ | ⟨h0,a,ha,hb,rfl,hc⟩ | ⟨h0,a,b,ha,h1,h2,hb,rfl,hc⟩
 ·exact ⟨fun _=>1,rfl,rfl,fun j hj=>by omega⟩
 ·refine ⟨fun j=>if j=0 then 1 else 1+a,rfl,by rw [h0];rfl,fun j hj=>?_⟩
  obtain rfl:j=0:=by omega
  exact ⟨by simp,by simp;omega,a,by simpa using ha,rfl,by simp;omega⟩
 ·refine ⟨fun j=>if j=0 then 1 else if j=1 then 1+a else 1+a+b,rfl,by rw [h0];rfl,fun j hj=>?_⟩
  have:j=0∨j=1:=by omega
  rcases this with rfl | rfl
  ·exact ⟨by simp,by simp;omega,a,by simpa using ha,rfl,by simp;omega⟩
  ·refine ⟨by simp,by simp;omega,b,?_,rfl,by simp;omega⟩
   simp only [Nat.one_ne_zero,if_false,if_true]
   rw [show i - (1 + a) = i - 1 - a by omega]
   exact hb

end Go.Proofs.YtfdhaknecjcjoaaGreatDoor

namespace Go.Proofs.YtfdhaknecjcjoaaGreatDoor
open Go.RowKit

theorem push_len {n:Nd} {s:List Nat} {f:Nat} (hs:s.length=f) (hf:arity n.1≤f):(push n s).length=f - arity n.1+1:=by
 have hal:=arity_le n.1
 have h3:arity n.1=0∨arity n.1=1∨arity n.1=2:=by omega
 rcases h3 with h0 | h0 | h0
 ·have e:push n s=1 :: s:=by unfold push;rw [h0];rfl
  rw [e,h0];simp [hs]
 ·match s,hs with
  | a :: r,hs =>
   have e:push n (a :: r)=(1+a) :: r:=by unfold push;rw [h0];rfl
   rw [e,h0];simp at hs ⊢;omega
  | [],hs=>simp at hs;omega
 ·match s,hs with
  | a :: b :: r,hs =>
   have e:push n (a :: b :: r)=(1+a+b) :: r:=by unfold push;rw [h0];rfl
   rw [e,h0];simp at hs ⊢;omega
  | [a],hs=>simp at hs;omega
  | [],hs=>simp at hs;omega
theorem stk_len {ts:List Nd}:∀ i,i≤ts.length→∀ c,freeN (ts.take i)=some c→(stkN (ts.take i)).length=c
 | 0,_,c,h=>by simp [freeN,frees] at h;simp [stkN,stk,← h]
 | i+1,hi,c,h=>by
  rw [free_take (by omega)] at h
  cases hc : freeN (ts.take i) with
  | none=>rw [hc] at h;simp at h
  | some f =>
   have ih:=stk_len i (by omega) f hc
   rw [hc,Option.bind_some] at h
   by_cases hg:good (ts.getD i (0,0))=true∧arity (ts.getD i (0,0)).1≤f
   ·rw [if_pos hg] at h
    rw [stk_take (by omega),push_len ih hg.2]
    simpa using h
   ·rw [if_neg hg] at h;cases h
/-- The parts of a tree's root. -/
def cutL (ts : List Nd) : List (List Nd) :=
 match arity (ts.getD (ts.length - 1) (0,0)).1,stkN (ts.take (ts.length - 1)) with
 | 1,_=>[ts.take (ts.length - 1)]
 | 2,_ :: b :: _=>[ts.take b,(ts.take (ts.length - 1)).drop b]
 | _,_=>[]
/-- What is known of a tree's end. -/
theorem tree_end {ts:List Nd} (h:freeN ts=some 1):0<ts.length∧good (ts.getD (ts.length - 1) (0,0))=true∧(stkN (ts.take (ts.length - 1))).length=arity (ts.getD (ts.length - 1) (0,0)).1:=by
 have h0:0<ts.length:=by
  cases ts with
  | nil=>simp [freeN,frees] at h
  | cons n t=>simp
 obtain ⟨c,hc,hg,ha,hn⟩:=free_good h (i:=ts.length - 1) (by omega)
 rw [show ts.length - 1+1=ts.length by omega,List.take_length,h] at hn
 simp only [Option.some.injEq] at hn
 exact ⟨h0,hg,by rw [stk_len _ (by omega) c hc];omega⟩

/-- A node in a block of its own. -/
def NB (w:World) (b:Nat) (k s:Int):Prop:=w.heap[b]?=some (.cells #[.int .i64 k,.int .u8 s] 51 (0,0))
theorem NB.lt {w:World} {b:Nat} {k s:Int} (h:NB w b k s):b<w.heap.size:=(Array.getElem?_eq_some_iff.1 h).1
theorem NB.fst {w:World} {b:Nat} {k s:Int} (h:NB w b k s):w.cell? ⟨b,0,none⟩=some (.int .i64 k):=by
 have h':w.heap[b]?=some (.cells #[.int .i64 k,.int .u8 s] 51 (0,0)):=h
 simp [World.cell?,h']
theorem NB.snd {w:World} {b:Nat} {k s:Int} (h:NB w b k s):w.cell? ⟨b,1,none⟩=some (.int .u8 s):=by
 have h':w.heap[b]?=some (.cells #[.int .i64 k,.int .u8 s] 51 (0,0)):=h
 simp [World.cell?,h']
theorem NB.frozen {w:World} {b:Nat} {k s:Int} (h:NB w b k s) (i:Nat):w.frozen? ⟨b,i,none⟩=false:=by
 have h':w.heap[b]?=some (.cells #[.int .i64 k,.int .u8 s] 51 (0,0)):=h
 simp [World.frozen?,h']
theorem NB.keep {w w':World} {b:Nat} {k s:Int} (h:NB w b k s) (hb:Below w.heap.size w w'):NB w' b k s:=(hb.block b h.lt).trans h
theorem NB.alloc {w:World} {b:Nat} {k s:Int} (h:NB w b k s) (o:Obj):NB (w.alloc o) b k s:=h.keep ((Below.refl _ _).alloc (Nat.le_refl _) o)
theorem NB.new (w:World) (k s:Int):NB (w.alloc (.cells #[.int .i64 k,.int .u8 s] 51)) w.heap.size k s:=heap_alloc_new w _
theorem NB.set {w:World} {b:Nat} {k s:Int} (h:NB w b k s) (k' s':Int):NB ((w.setCell ⟨b,0,none⟩ (.int .i64 k')).setCell ⟨b,1,none⟩ (.int .u8 s')) b k' s':=by
 have h':w.heap[b]?=some (.cells #[.int .i64 k,.int .u8 s] 51 (0,0)):=h
 unfold NB
 simp only [World.setCell]
 rw [Array.getElem?_modify,if_pos rfl,Array.getElem?_modify,if_pos rfl,h']
 rfl
theorem nreads_part {w : World} {a : Option Addr} {cap lo hi : Nat} {ts : List Nd} (h : NReads w (.slice a ts.length cap) ts) (h0 : lo < hi) (h1 : hi ≤ ts.length) :
  ∃ g o,a=some ⟨g,o,none⟩∧∀ c,NReads w (.slice (some ⟨g,o+lo * 2,none⟩) (hi - lo) c) ((ts.take hi).drop lo):=by
 obtain ⟨a',c',e,hr⟩:=h
 simp only [Value.slice.injEq] at e
 obtain ⟨rfl,_,rfl⟩:=e
 obtain ⟨g,o,rfl,_⟩:=hr 0 (by omega)
 have hl:((ts.take hi).drop lo).length=hi - lo:=by simp;omega
 refine ⟨g,o,rfl,fun c=>⟨_,c,by rw [hl],fun i hi'=>?_⟩⟩
 rw [hl] at hi'
 obtain ⟨g',o',e,hg,c1,c2⟩:=hr (lo+i) (by omega)
 cases e
 have eg:((ts.take hi).drop lo).getD i (0,0)=ts.getD (lo+i) (0,0):=by
  rw [List.getD_eq_getElem?_getD,List.getElem?_drop,List.getElem?_take,if_pos (by omega),← List.getD_eq_getElem?_getD]
 rw [eg]
 exact ⟨g,o+lo * 2,rfl,hg,by rw [show o+lo * 2+i * 2=o+(lo+i) * 2 by omega];exact c1,by rw [show o+lo * 2+i * 2+1=o+(lo+i) * 2+1 by omega];exact c2⟩

/-- A list of lists in a block of its own. -/
def PB (w:World) (b:Nat) (arr:Array Value):Prop:=w.heap[b]?=some (.cells arr 22 (0,0))
theorem PB.lt {w:World} {b:Nat} {arr:Array Value} (h:PB w b arr):b<w.heap.size:=(Array.getElem?_eq_some_iff.1 h).1
theorem PB.get {w:World} {b:Nat} {arr:Array Value} (h:PB w b arr) (i:Nat):w.cell? ⟨b,i,none⟩=arr[i]?:=by
 have h':w.heap[b]?=some (.cells arr 22 (0,0)):=h
 simp [World.cell?,h']
theorem PB.frozen {w:World} {b:Nat} {arr:Array Value} (h:PB w b arr) (i:Nat):w.frozen? ⟨b,i,none⟩=false:=by
 have h':w.heap[b]?=some (.cells arr 22 (0,0)):=h
 simp [World.frozen?,h']
theorem PB.keep {w w':World} {b:Nat} {arr:Array Value} (h:PB w b arr) (hb:Below w.heap.size w w'):PB w' b arr:=(hb.block b h.lt).trans h
theorem PB.set {w:World} {b:Nat} {arr:Array Value} (h:PB w b arr) (i:Nat) (v:Value):PB (w.setCell ⟨b,i,none⟩ v) b (arr.setIfInBounds i v):=by
 have h':w.heap[b]?=some (.cells arr 22 (0,0)):=h
 unfold PB
 simp only [World.setCell]
 rw [Array.getElem?_modify,if_pos rfl,h']
 rfl
theorem PB.new (w:World) (arr:Array Value):PB (w.alloc (.cells arr 22)) w.heap.size arr:=heap_alloc_new w _
theorem NB.other {w:World} {b:Nat} {k s:Int} (h:NB w b k s) {b' i:Nat} (u:Value) (hb:b≠b'):NB (w.setCell ⟨b',i,none⟩ u) b k s:=(Below.heap_setCell _ _ _ _ hb).trans h
theorem Tryz.info_nodes:(Tryz.prog.info? 22).map (fun i=>(i.zero,i.size,i.bytes))=some (some (.slice none 0 0),1,24):=by kernel_rfl

end Go.Proofs.YtfdhaknecjcjoaaGreatDoor

namespace Go.Proofs.YtfdhaknecjcjoaaGreatDoor
open Go.RowKit

/-- One node more, on the stack of the heaviest ways (the last one behind). -/
def hpush (wt:Nd→Nat) (n:Nd) (F:List Nat):List Nat:=F.take (F.length - arity n.1) ++ [(F.drop (F.length - arity n.1)).foldl max 0+wt n]
def heavy (wt : Nd → Nat) : List Nd → List Nat → List Nat
 | [],F=>F
 | n :: ts,F=>heavy wt ts (hpush wt n F)
def heavyN (wt:Nd→Nat) (ts:List Nd):List Nat:=heavy wt ts []
theorem heavy_append (wt:Nd→Nat) (a b:List Nd) (F:List Nat):heavy wt (a ++ b) F=heavy wt b (heavy wt a F):=by
 induction a generalizing F with
 | nil=>rfl
 | cons n a ih=>simp only [List.cons_append,heavy];rw [ih]
theorem heavy_take {wt:Nd→Nat} {ts:List Nd} {i:Nat} (h:i<ts.length):heavyN wt (ts.take (i+1))=hpush wt (ts.getD i (0,0)) (heavyN wt (ts.take i)):=by
 unfold heavyN
 rw [List.take_add_one,heavy_append]
 simp only [List.getElem?_eq_getElem h,Option.toList_some,heavy,List.getD_eq_getElem?_getD,Option.getD_some]
theorem fold_le {m:Nat}:∀ (l:List Nat) (x:Nat),x≤m→(∀ y ∈ l,y≤m)→l.foldl max x≤m
 | [],_,h,_=>h
 | a :: l,x,h,hl=>fold_le l (max x a) (by have:=hl a (by simp);omega) (fun y hy=>hl y (by simp [hy]))
theorem hpush_le {wt:Nd→Nat} {n:Nd} {F:List Nat} {i:Nat} (hw:wt n≤1) (h:∀ x ∈ F,x≤i):∀ x ∈ hpush wt n F,x≤i+1:=by
 intro x hx
 unfold hpush at hx
 rw [List.mem_append] at hx
 rcases hx with hx | hx
 ·have:=h x (List.mem_of_mem_take hx);omega
 ·simp at hx
  have:=fold_le (m:=i) (F.drop (F.length - arity n.1)) 0 (by omega) (fun y hy=>h y (List.mem_of_mem_drop hy))
  omega
theorem fold_take (l:List Nat) (t:Nat) (h:t<l.length):(l.take (t+1)).foldl max 0=max ((l.take t).foldl max 0) (l.getD t 0):=by
 rw [List.take_add_one,List.foldl_append]
 simp [List.getElem?_eq_getElem h]
/-- Numbers as cells. -/
def nC (l:List Nat):List Value:=l.map fun (n:Nat)=>Value.int .i64 (n:Int)
theorem nC_append (a b:List Nat):nC (a ++ b)=nC a ++ nC b:=by simp [nC]
theorem own_ncell {w:World} {base:Nat} {l:List Nat} {a:Option Addr} {n cap:Nat} (h:w.ownsRow base 3 1 (.slice a n cap) n (nC l)) (i:Nat) (hi:i<n):∃ g,a=some ⟨g,0,none⟩∧g<w.heap.size∧base≤g∧w.cell? ⟨g,i,none⟩=some (.int .i64 ((l.getD i 0:Nat):Int)):=by
 obtain ⟨h0,h1⟩:=h
 rcases h1 with ⟨_,hn⟩ | ⟨g,cp,cur,e,r1,r2,r3,r4,r5,r6⟩
 ·omega
 ·simp only [Value.slice.injEq] at e
  obtain ⟨rfl,_,rfl⟩:=e
  have hl:i<l.length:=by simp [nC] at h0;omega
  refine ⟨g,rfl,(Array.getElem?_eq_some_iff.1 r2).1,r1,?_⟩
  have hj:(nC l)[i]?=some (.int .i64 ((l.getD i 0:Nat):Int)):=by simp [nC,hl]
  rw [← r6,List.getElem?_take] at hj
  split at hj
  ·simp only [World.cell?,r2]
   simpa using hj
  ·cases hj
/-- The beginning of a row is one. -/
theorem own_cut {w:World} {base:Nat} {l:List Nat} {a:Option Addr} {n cap:Nat} (h:w.ownsRow base 3 1 (.slice a n cap) n (nC l)) (p:Nat) (hp:p≤n):w.ownsRow base 3 1 (.slice a p cap) p (nC (l.take p)):=by
 obtain ⟨h0,h1⟩:=h
 have hl:l.length=n:=by simpa [nC] using h0
 refine ⟨by simp [nC];omega,?_⟩
 rcases h1 with ⟨e,hn⟩ | ⟨g,cp,cur,e,r1,r2,r3,r4,r5,r6⟩
 ·simp only [Value.slice.injEq] at e
  obtain ⟨rfl,_,rfl⟩:=e
  exact .inl ⟨by rw [show p=0 by omega],by omega⟩
 ·simp only [Value.slice.injEq] at e
  obtain ⟨rfl,_,rfl⟩:=e
  refine .inr ⟨g,cap,cur,rfl,r1,r2,by omega,r4,r5,?_⟩
  have:nC (l.take p)=(nC l).take (p * 1):=by simp [nC,List.map_take]
  rw [this,← r6,List.take_take]
  congr 1
  omega

set_option maxHeartbeats 400000 in
theorem depth1_any (n:Nd) (w:World):Calls Tryz.prog 80 #[ndV n] w fun e w'=>e=.returned (.int .i64 1)∧Below w.heap.size w w':=by
 unfold ndV
 go_enter Tryz.func80,Tryz.ntmps80
 go_wp2
 go_ret
 exact ⟨rfl,by first | exact Below.refl _ _ | exact (Below.refl _ _).alloc (Nat.le_refl _) _⟩

/-- A block holds what it held; nothing that w had is written. -/
abbrev QS (w:World) (p:Nat) (l:Array Value) (w':World):Prop:=(∀ o,w'.cell? ⟨p,o,none⟩=l[o]?)∧p<w'.heap.size∧Below w.heap.size w w'
theorem qs_step {w : World} {p : Nat} {l : Array Value} {w1 w2 : World} (hb : Below w1.heap.size w1 w2) (h : QS w p l w1) : QS w p l w2 :=
 ⟨fun o=>by rw [below_cell hb h.2.1];exact h.1 o,Nat.lt_of_lt_of_le h.2.1 hb.size,go_on h.2.2 hb⟩
theorem qs_alloc {w:World} {p:Nat} {l:Array Value} {w1:World} (o:Obj) (h:QS w p l w1):QS w p l (w1.alloc o):=qs_step ((Below.refl _ _).alloc (Nat.le_refl _) o) h
theorem qs_grown {w:World} {p:Nat} {l:Array Value} {w1 w2:World} {row:Option Nat} (hg:w1.grownBy w2 row) (h:QS w p l w1) (h1:∀ k,row=some k→w.heap.size≤k∧k<p):QS w p l w2:=by
 have hb:w2.heap[p]?=w1.heap[p]?:=hg.block p h.2.1 (fun e=>by have:=(h1 p e.symm).2;omega)
 refine ⟨fun o=>?_,?_,h.2.2.grown hg h.2.2.size (fun k hk=>(h1 k hk).1)⟩
 ·rw [← h.1 o]
  simp only [World.cell?,hb]
 ·have:=(h.2.2.grown hg h.2.2.size (fun k hk=>(h1 k hk).1))
  rw [Array.getElem?_eq_getElem h.2.1] at hb
  exact (Array.getElem?_eq_some_iff.1 hb).1
theorem own_drew {w:World} {base:Nat} {e:TypeId} {size n:Nat} {v:Value} {xs:List Value} (h:w.ownsRow base e size v n xs):w.drew.ownsRow base e size v n xs:=h

set_option maxHeartbeats 4000000 in
set_option maxRecDepth 100000 in
theorem way_depth (v : Value) (ts : List Nd) (w : World) (hv : NReads w v ts) (hm : ts.length ≤ 4000) (hP : PTab w) (hok : wrong ts = 0) (hf : freeN ts = some 1) :
  Calls Tryz.prog 79 #[v,.func (.func 80) #[] #[]] w fun e w'=>e=.returned (.tuple #[.int .i64 (((heavyN (fun _=>1) ts).getD 0 0:Nat):Int),.int .i64 0])∧Below w.heap.size w w':=by
 have HV:Hid (NReads w v ts):=hv
 have HP:Hid (PTab w):=hP
 have HX:Hid (wrong ts=0):=hok
 have HFr:Hid (∀ i,i<ts.length→∃ c,freeN (ts.take i)=some c∧good (ts.getD i (0,0))=true∧arity (ts.getD i (0,0)).1≤c∧freeN (ts.take (i+1))=some (c - arity (ts.getD i (0,0)).1+1)):=fun i hi=>free_good hf hi
 have HF:Hid (freeN ts=some 1):=hf
 obtain ⟨i0,hi,hz0,hz1,hz2⟩:=info_parts Tryz.info_int
 obtain ⟨a,cap,rfl,hr⟩:=hv
 have HR:Hid _:=hr
 clear hr hP hok hf
 go_enter Tryz.func79,Tryz.ntmps79
 go_wp2_with fail
 refine (treeError_any _ ts _ HV.out (by omega) HP.out).mono ?_
 rintro e w1 ⟨rfl,hb1⟩
 rw [HX.out]
 have HB1:Hid (Below w.heap.size w w1):=hb1
 clear hb1
 go_wp2_with fail
 go_loopw [7,21] (fun vf vi wr=>∃ i:Nat,i≤ts.length∧vi=.int .i64 i∧wr.ownsRow w.heap.size 3 1 vf (heavyN (fun _=>1) (ts.take i)).length (nC (heavyN (fun _=>1) (ts.take i)))∧freeN (ts.take i)=some (heavyN (fun _=>1) (ts.take i)).length∧(∀ x ∈ heavyN (fun _=>1) (ts.take i),x≤i)∧Below w.heap.size w wr) (fun _ vi _=>ts.length - (intOf vi).toNat)
 case atStart=>exact ⟨0,Nat.zero_le _,rfl,by show World.ownsRow _ _ _ _ _ 0 [];exact World.ownsRow_nil _ _ _ _,rfl,fun x hx=>by simp [heavyN,heavy] at hx,HB1.out⟩
 case round =>
  obtain ⟨i,hile,rfl,hown,hfc,hbd,hb⟩:=hrel
  have hst:∀ h:i<ts.length,heavyN (fun _=>1) (ts.take (i+1))=hpush (fun _=>1) (ts.getD i (0,0)) (heavyN (fun _=>1) (ts.take i)):=fun h=>heavy_take h
  by_cases hlt : i < ts.length
  ·have hst2:=hst hlt
   have hiI:(i:Int)<ts.length:=by omega
   obtain ⟨g,o,rfl,hg,h1,h2⟩:=HR.out i hlt
   obtain ⟨c',hc',hgood,har,hnext⟩:=HFr.out i hlt
   obtain ⟨F,hF⟩:∃ F,heavyN (fun _=>1) (ts.take i)=F:=⟨_,rfl⟩
   rw [hF] at hown hfc hbd hst2
   obtain rfl:c'=F.length:=by rw [hfc] at hc';simpa using hc'.symm
   obtain ⟨⟨k,s⟩,hn⟩:∃ n,ts.getD i (0,0)=n:=⟨_,rfl⟩
   rw [hn] at h1 h2 hgood har hnext hst2
   have c1:wr.cell? ⟨g,o+i * 2,none⟩=some (.int .i64 k):=by rw [below_cell hb hg];exact h1
   have c2:wr.cell? ⟨g,o+i * 2+1,none⟩=some (.int .u8 s):=by rw [below_cell hb hg];exact h2
   obtain ⟨hk1,hk9⟩:=good_kind hgood
   simp only at hk1 hk9
   obtain ⟨j,rfl⟩:∃ j:Nat,k=j:=⟨k.toNat,by omega⟩
   have hj9:j<10:=by omega
   have hjI:(j:Int)<10:=by omega
   have hcp:=HP.out.below hb HP.out.pos j hj9
   have hw0:0<wr.heap.size:=Nat.lt_of_lt_of_le HP.out.pos hb.size
   have hcp2:∀ O,(wr.alloc O).cell? ⟨0,j,none⟩=some (.int .i64 (arity (j:Int):Nat)):=fun O=>by rw [below_cell ((Below.refl wr.heap.size wr).alloc (Nat.le_refl _) O) hw0];exact hcp
   have HNX:Hid (heavyN (fun _=>1) (ts.take (i+1))=F.take (F.length - arity (j:Int)) ++ [(F.drop (F.length - arity (j:Int))).foldl max 0+1]∧freeN (ts.take (i+1))=some (F.length - arity (j:Int)+1)):=⟨hst2,hnext⟩
   have HBD:Hid (∀ x ∈ heavyN (fun _=>1) (ts.take (i+1)),x≤i+1):=by
    show ∀ x ∈ _,_
    rw [hst2]
    exact hpush_le (Nat.le_refl _) hbd
   have HBF:Hid (∀ x ∈ F,x≤i):=hbd
   have hfl:=free_le ts i hile _ hfc
   obtain ⟨r,hrd⟩:∃ r,arity (j:Int)=r:=⟨_,rfl⟩
   rw [hrd] at hcp2 HNX har
   obtain ⟨p,hp⟩:∃ p,F.length - r=p:=⟨_,rfl⟩
   have hpI:(F.length:Int) - (r:Int)=p:=by omega
   have hpl:(p:Int)≤F.length:=by omega
   rw [hp] at HNX
   obtain ⟨fa,fc,rfl⟩:=own_shape hown
   have HOW:Hid (wr.ownsRow w.heap.size 3 1 (.slice fa F.length fc) F.length (nC F)):=hown
   have HB:Hid (Below w.heap.size w wr):=hb
   have hfc0:F.length≤fc:=by
    obtain ⟨_,h⟩:=hown
    rcases h with ⟨h,h'⟩ | ⟨g',cp,cur,h,_,_,hcp,_⟩
    ·omega
    ·simp at h;omega
   have hfcI:(F.length:Int)≤fc:=by omega
   have hpc:(p:Int)≤fc:=by omega
   clear hst hst2 hnext hgood hn h1 h2 hcp hfc hc' hbd hown hb hF
   by_cases hr0 : r = 0
   ·obtain rfl:p=F.length:=by omega
    subst hr0
    have HE:Hid (heavyN (fun _=>1) (ts.take (i+1))=F.take F.length ++ [1]):=by
     show _ = _
     rw [HNX.out.1]
     simp
    by_cases hfe : fc = F.length
    ·subst hfe
     go_wp2_with fail
     refine wp_loop_rounds 1 ?_
     rw [rounds_succ]
     go_wp2_with fail
     have HOC:Hid ((wr.alloc (.cells #[.int .i64 (j:Int),.int .u8 s] 51)).ownsRow w.heap.size 3 1 (.slice fa F.length F.length) F.length (nC (F.take F.length))):=own_cut (HOW.out.alloc _) F.length (by omega)
     have HLO:Hid (∀ k,(Value.slice fa F.length F.length).ownBlock=some k→w.heap.size≤k∧k<wr.heap.size):=fun k hk=>by
      have:=HOW.out.lt k (by cases fa <;> simp_all [Value.ownBlock])
      exact this
     have S0:QS w wr.heap.size #[.int .i64 (j:Int),.int .u8 s] (wr.alloc (.cells #[.int .i64 (j:Int),.int .u8 s] 51)).drew:=⟨(RowAt.last wr #[.int .i64 (j:Int),.int .u8 s] 51).cell,by simp,(HB.out.alloc HB.out.size _).drew⟩
     generalize hWg:wr.alloc (.cells #[.int .i64 (j:Int),.int .u8 s] 51)=W at HOC S0 ⊢
     clear hWg
     go_region_held3 (fun w'=>QS w wr.heap.size #[.int .i64 (j:Int),.int .u8 s] w') (first | exact S0 | assumption | exact qs_step (by assumption) (by assumption) | exact qs_alloc _ (by assumption) | exact qs_grown (by assumption) (by assumption) HLO.out) (first
      | (go_at_call 80;refine (depth1_any ((j:Int),s) _).mono ?_;rintro e y1 ⟨rfl,hy1⟩)
      | (rw [if_pos (by rfl)];refine wp_append_own _ _ _ 66 rfl w.heap.size 3 i0 (.int .i64 0) 1 8 Tryz.underlying66 hi hz0 hz1 hz2 rfl (by decide) _ _ _ rfl ((own_below (own_drew HOC.out) hy1).alloc _) ⟨y1.heap.size,0,none⟩ 1 1 [.int .i64 1] rfl rfl (cell_one_new _ _ _) (by intro u hu;simp at hu;subst hu;rfl) (by unfold maxLen;omega) (by omega) (by have:=S0.2.2.size;have:=hy1.size;simp at *;omega) ?_;intro v9 w9 ho9 hg9 _))
     all_goals go_wp2_with fail
     all_goals go_roundw
     case rel =>
      have hq:QS w wr.heap.size #[.int .i64 (j:Int),.int .u8 s] w9:=by assumption
      refine ⟨i+1,by omega,by go_num,?_,by rw [HNX.out.2,HE.out];simp <;> omega,HBD.out,hq.2.2⟩
      rw [HE.out,nC_append]
      have hl9:(F.take F.length ++ [1]).length=F.length+1:=by simp <;> omega
      rw [hl9]
      exact ho9
     case measure=>simp [intOf];omega
    ·have hfe2:(F.length:Int)<fc:=by omega
     go_wp2_with fail
     refine wp_loop_rounds 1 ?_
     rw [rounds_succ]
     go_wp2_with fail
     have HOC:Hid ((wr.alloc (.cells #[.int .i64 (j:Int),.int .u8 s] 51)).ownsRow w.heap.size 3 1 (.slice fa F.length fc) F.length (nC (F.take F.length))):=own_cut (HOW.out.alloc _) F.length (by omega)
     have HLO:Hid (∀ k,(Value.slice fa F.length fc).ownBlock=some k→w.heap.size≤k∧k<wr.heap.size):=fun k hk=>by
      have:=HOW.out.lt k (by cases fa <;> simp_all [Value.ownBlock])
      exact this
     have S0:QS w wr.heap.size #[.int .i64 (j:Int),.int .u8 s] (wr.alloc (.cells #[.int .i64 (j:Int),.int .u8 s] 51)).drew:=⟨(RowAt.last wr #[.int .i64 (j:Int),.int .u8 s] 51).cell,by simp,(HB.out.alloc HB.out.size _).drew⟩
     generalize hWg:wr.alloc (.cells #[.int .i64 (j:Int),.int .u8 s] 51)=W at HOC S0 ⊢
     clear hWg
     go_region_held3 (fun w'=>QS w wr.heap.size #[.int .i64 (j:Int),.int .u8 s] w') (first | exact S0 | assumption | exact qs_step (by assumption) (by assumption) | exact qs_alloc _ (by assumption) | exact qs_grown (by assumption) (by assumption) HLO.out) (first
      | (go_at_call 80;refine (depth1_any ((j:Int),s) _).mono ?_;rintro e y1 ⟨rfl,hy1⟩)
      | (rw [if_pos (by rfl)];refine wp_append_own _ _ _ 66 rfl w.heap.size 3 i0 (.int .i64 0) 1 8 Tryz.underlying66 hi hz0 hz1 hz2 rfl (by decide) _ _ _ rfl ((own_below (own_drew HOC.out) hy1).alloc _) ⟨y1.heap.size,0,none⟩ 1 1 [.int .i64 1] rfl rfl (cell_one_new _ _ _) (by intro u hu;simp at hu;subst hu;rfl) (by unfold maxLen;omega) (by omega) (by have:=S0.2.2.size;have:=hy1.size;simp at *;omega) ?_;intro v9 w9 ho9 hg9 _))
     all_goals go_wp2_with fail
     all_goals go_roundw
     case rel =>
      have hq:QS w wr.heap.size #[.int .i64 (j:Int),.int .u8 s] w9:=by assumption
      refine ⟨i+1,by omega,by go_num,?_,by rw [HNX.out.2,HE.out];simp <;> omega,HBD.out,hq.2.2⟩
      rw [HE.out,nC_append]
      have hl9:(F.take F.length ++ [1]).length=F.length+1:=by simp <;> omega
      rw [hl9]
      exact ho9
     case measure=>simp [intOf];omega
   ·have hpF:p<F.length:=by omega
    have hpc2:(p:Int)<fc:=by omega
    obtain ⟨fg,rfl,hfgl,hfgb,_⟩:=own_ncell HOW.out p hpF
    obtain ⟨q,hq⟩:∃ q,(F.drop p).foldl max 0=q:=⟨_,rfl⟩
    have hqi:q≤i:=by
     rw [← hq]
     exact fold_le (m:=i) (F.drop p) 0 (by omega) (fun y hy=>HBF.out y (List.mem_of_mem_drop hy))
    have HE:Hid (heavyN (fun _=>1) (ts.take (i+1))=F.take p ++ [q+1]):=by
     show _ = _
     rw [HNX.out.1,hq]
    have HQ:Hid ((F.drop p).foldl max 0=q):=hq
    have hqw:IntKind.i64.wrap ((q:Int)+1)=((q+1:Nat):Int):=by rw [IntKind.wrap_i64];omega
    clear hq
    have HFC:Hid (∀ t,t<F.length - p→(wr.alloc (.cells #[.int .i64 (j:Int),.int .u8 s] 51)).cell? ⟨fg,p+t,none⟩=some (.int .i64 (((F.drop p).getD t 0:Nat):Int))):=fun t ht=>by
     obtain ⟨g',e',_,_,hc⟩:=own_ncell (HOW.out.alloc (.cells #[.int .i64 (j:Int),.int .u8 s] 51)) (p+t) (by omega)
     cases e'
     rw [hc]
     simp [List.getD_eq_getElem?_getD,List.getElem?_drop]
    have HFL:Hid (∀ t,t<F.length - p→(F.drop p).getD t 0≤i):=fun t ht=>by
     refine HBF.out _ (List.mem_of_mem_drop (i:=p) ?_)
     rw [List.getD_eq_getElem?_getD,List.getElem?_eq_getElem (by simp;omega)]
     exact List.getElem_mem _
    have HFd:Hid ((F.drop p).length=F.length - p):=by show _=_;simp
    go_wp2_with fail
    go_loop [11,13,36] (fun vm _ vt=>∃ t:Nat,t≤F.length - p∧vt=.int .i64 t∧vm=.int .i64 ((((F.drop p).take t).foldl max 0:Nat):Int)) (fun _ _ vt=>(F.length - p) - (intOf vt).toNat)
    case atStart=>exact ⟨0,Nat.zero_le _,rfl,rfl⟩
    case round =>
     obtain ⟨t,htl,rfl,rfl⟩:=hrel
     by_cases ht : t < F.length - p
     ·have htI:(t:Int)<((F.length - p:Nat):Int):=by omega
      have hcell:=HFC.out t ht
      have hmax:=fold_take (F.drop p) t (by rw [HFd.out];omega)
      have hle1:=HFL.out t ht
      obtain ⟨x,hx⟩:∃ x,(F.drop p).getD t 0=x:=⟨_,rfl⟩
      obtain ⟨y,hy⟩:∃ y,((F.drop p).take t).foldl max 0=y:=⟨_,rfl⟩
      rw [hx] at hcell hmax hle1
      rw [hy] at hmax
      rw [hy]
      have HM:Hid (((F.drop p).take (t+1)).foldl max 0=max y x):=hmax
      clear hmax hx hy
      go_wp2_with fail
      go_round
      case rel=>exact ⟨t+1,by omega,by go_num,by rw [HM.out];congr 1;split <;> omega⟩
      case measure=>simp [intOf];omega
     ·have htI:¬ (t:Int)<((F.length - p:Nat):Int):=by omega
      obtain rfl:t=F.length - p:=by omega
      rw [List.take_of_length_le (by rw [HFd.out];omega),HQ.out]
      clear ht
      go_wp2_with fail
      have HOC:Hid ((wr.alloc (.cells #[.int .i64 (j:Int),.int .u8 s] 51)).ownsRow w.heap.size 3 1 (.slice (some ⟨fg,0,none⟩) p fc) p (nC (F.take p))):=own_cut (HOW.out.alloc _) p (by omega)
      have HLO:Hid (∀ k,(Value.slice (some ⟨fg,0,none⟩) p fc).ownBlock=some k→w.heap.size≤k∧k<wr.heap.size):=fun k hk=>by
       have:=HOW.out.lt k (by simpa [Value.ownBlock] using hk)
       exact this
      have S0:QS w wr.heap.size #[.int .i64 (j:Int),.int .u8 s] (wr.alloc (.cells #[.int .i64 (j:Int),.int .u8 s] 51)).drew:=⟨(RowAt.last wr #[.int .i64 (j:Int),.int .u8 s] 51).cell,by simp,(HB.out.alloc HB.out.size _).drew⟩
      generalize hWg:wr.alloc (.cells #[.int .i64 (j:Int),.int .u8 s] 51)=W at HOC S0 ⊢
      clear hWg
      go_region_held3 (fun w'=>QS w wr.heap.size #[.int .i64 (j:Int),.int .u8 s] w') (first | exact S0 | assumption | exact qs_step (by assumption) (by assumption) | exact qs_alloc _ (by assumption) | exact qs_grown (by assumption) (by assumption) HLO.out) (first
       | (go_at_call 80;refine (depth1_any ((j:Int),s) _).mono ?_;rintro e y1 ⟨rfl,hy1⟩)
       | (rw [if_pos (by rfl)];refine wp_append_own _ _ _ 66 rfl w.heap.size 3 i0 (.int .i64 0) 1 8 Tryz.underlying66 hi hz0 hz1 hz2 rfl (by decide) _ _ _ rfl ((own_below (own_drew HOC.out) hy1).alloc _) ⟨y1.heap.size,0,none⟩ 1 1 [.int .i64 ((q+1:Nat):Int)] rfl rfl (cell_one_new _ _ _) (by intro u hu;simp at hu;subst hu;rfl) (by unfold maxLen;omega) (by omega) (by have:=S0.2.2.size;have:=hy1.size;simp at *;omega) ?_;intro v9 w9 ho9 hg9 _))
      all_goals go_wp2_with fail
      all_goals go_roundw
      case rel =>
       have hq:QS w wr.heap.size #[.int .i64 (j:Int),.int .u8 s] w9:=by assumption
       refine ⟨i+1,by omega,by go_num,?_,by rw [HNX.out.2,HE.out];simp <;> omega,HBD.out,hq.2.2⟩
       rw [HE.out,nC_append]
       have hl9:(F.take p ++ [q+1]).length=p+1:=by simp <;> omega
       rw [hl9]
       exact ho9
      case measure=>simp [intOf];omega
  ·have hiI:¬ (i:Int)<ts.length:=by omega
   obtain rfl:i=ts.length:=by omega
   rw [List.take_length] at hown hfc hbd
   rw [HF.out] at hfc
   have hl1:(heavyN (fun _=>1) ts).length=1:=by simpa using hfc.symm
   obtain ⟨fa,fc,rfl⟩:=own_shape hown
   obtain ⟨fg,rfl,_,_,hc0⟩:=own_ncell hown 0 (by omega)
   rw [hl1]
   have HB:Hid (Below w.heap.size w wr):=hb
   clear hown hfc hbd hst hlt hb
   go_wp2_with fail
   go_ret2
   exact ⟨rfl,HB.out⟩

end Go.Proofs.YtfdhaknecjcjoaaGreatDoor

namespace Go.Proofs.YtfdhaknecjcjoaaGreatDoor
open Go.RowKit

set_option maxHeartbeats 1000000 in
theorem depth_any (v : Value) (ts : List Nd) (w : World) (hv : NReads w v ts) (hm : ts.length ≤ 4000) (hP : PTab w) (hok : wrong ts = 0) (hf : freeN ts = some 1) :
  Calls Tryz.prog 51 #[v] w fun e w'=>e=.returned (.tuple #[.int .i64 (((heavyN (fun _=>1) ts).getD 0 0:Nat):Int),.int .i64 0])∧Below w.heap.size w w':=by
 have HV:Hid (NReads w v ts):=hv
 have HP:Hid (PTab w):=hP
 have HX:Hid (wrong ts=0):=hok
 have HF:Hid (freeN ts=some 1):=hf
 clear hv hP hok hf
 go_enter Tryz.func51,Tryz.ntmps51
 go_wp2_with fail
 refine (way_depth v ts w HV.out hm HP.out HX.out HF.out).mono ?_
 rintro e w1 ⟨rfl,hb1⟩
 go_wp2_with fail
 go_ret2
 exact ⟨rfl,hb1⟩

/-- Two blocks hold what they hold; nothing below W's end is written. -/
abbrev M2 (W:World) (p1 p2:Nat) (l1 l2:Array Value) (w':World):Prop:=(∀ o,w'.cell? ⟨p1,o,none⟩=l1[o]?)∧(∀ o,w'.cell? ⟨p2,o,none⟩=l2[o]?)∧Below W.heap.size W w'
end Go.Proofs.YtfdhaknecjcjoaaGreatDoor

namespace Go.Proofs.YtfdhaknecjcjoaaGreatDoor
open Go.RowKit

theorem freeN_snoc (ts:List Nd) (n:Nd):freeN (ts ++ [n])=(freeN ts).bind fun h=>if good n∧arity n.1≤h then some (h - arity n.1+1) else none:=by
 unfold freeN;rw [frees_append];rfl
theorem stkN_snoc (ts:List Nd) (n:Nd):stkN (ts ++ [n])=push n (stkN ts):=by
 have h:=stk_take (ts:=ts ++ [n]) (i:=ts.length) (by simp)
 rw [List.take_of_length_le (by simp),List.take_left] at h
 simpa using h
/-- Induction from the list's end. -/
theorem snoc_ind {P:List Nd→Prop} (h0:P []) (h1:∀ ts n,P ts→P (ts ++ [n])):∀ ts,P ts:=by
 intro ts
 have h:∀ k,k≤ts.length→P (ts.take k):=by
  intro k
  induction k with
  | zero=>intro _;simpa using h0
  | succ k ih =>
   intro hk
   have e:ts.take (k+1)=ts.take k ++ [ts.getD k (0,0)]:=by
    rw [List.take_add_one,List.getElem?_eq_getElem (by omega)]
    simp [List.getD_eq_getElem?_getD,List.getElem?_eq_getElem (show k<ts.length by omega)]
   rw [e]
   exact h1 _ _ (ih (by omega))
 simpa using h ts.length (Nat.le_refl _)
/-- A list is read the same way above other trees. -/
theorem frees_over (v:List Nd):∀ c,freeN v=some c→∀ h,frees v (some h)=some (h+c):=by
 refine snoc_ind (P:=fun v=>∀ c,freeN v=some c→∀ h,frees v (some h)=some (h+c)) ?_ ?_ v
 ·intro c hc h
  simp only [freeN,frees,Option.some.injEq] at hc
  subst hc;rfl
 ·intro ts n ih c hc h
  rw [freeN_snoc] at hc
  cases hd : freeN ts with
  | none=>rw [hd] at hc;simp at hc
  | some d =>
   rw [hd] at hc
   simp only [Option.bind_some] at hc
   by_cases hg:good n=true∧arity n.1≤d
   ·rw [if_pos hg] at hc
    simp only [Option.some.injEq] at hc
    rw [frees_append,ih d hd h]
    simp only [frees,Option.bind_some]
    rw [if_pos ⟨hg.1,by omega⟩,Option.some.injEq]
    omega
   ·rw [if_neg hg] at hc;cases hc
/-- The trees that stand free, as pieces of the list, the last one first. -/
def Trees : List Nd → List Nat → Prop
 | ts,[]=>ts=[]
 | ts,a :: s=>∃ u v,ts=u ++ v∧v.length=a∧freeN v=some 1∧Trees u s
theorem trees_any (ts:List Nd):∀ c,freeN ts=some c→Trees ts (stkN ts):=by
 refine snoc_ind (P:=fun ts=>∀ c,freeN ts=some c→Trees ts (stkN ts)) ?_ ?_ ts
 ·intro c _;rfl
 ·intro ts n ih c hc
  rw [freeN_snoc] at hc
  cases hd : freeN ts with
  | none=>rw [hd] at hc;simp at hc
  | some d =>
   rw [hd] at hc
   simp only [Option.bind_some] at hc
   by_cases hg:good n=true∧arity n.1≤d
   ·have hT:=ih d hd
    have hl:(stkN ts).length=d:=by
     have:=stk_len (ts:=ts) ts.length (Nat.le_refl _) d (by rwa [List.take_length])
     rwa [List.take_length] at this
    rw [stkN_snoc]
    have ha:=arity_le n.1
    obtain ⟨k,hk⟩:∃ k,arity n.1=k:=⟨_,rfl⟩
    cases hs : stkN ts with
    | nil =>
     rw [hs] at hl hT
     have h0:arity n.1=0:=by simp at hl;omega
     simp only [push,h0]
     exact ⟨ts,[n],rfl,rfl,by simp [freeN,frees,hg.1,h0],hT⟩
    | cons a s =>
     rw [hs] at hl hT
     by_cases h0 : arity n.1 = 0
     ·simp only [push,h0]
      exact ⟨ts,[n],rfl,rfl,by simp [freeN,frees,hg.1,h0],hT⟩
     ·obtain ⟨u,v,e,hv,hf,hu⟩:=hT
      by_cases h1 : arity n.1 = 1
      ·simp only [push,h1]
       refine ⟨u,v ++ [n],by rw [e,List.append_assoc],by simp [hv];omega,?_,hu⟩
       rw [freeN_snoc,hf];simp [hg.1,h1]
      ·have h2:arity n.1=2:=by omega
       cases s with
       | nil=>simp at hl;omega
       | cons b s =>
        obtain ⟨u',v',e',hv',hf',hu'⟩:=hu
        simp only [push,h2]
        refine ⟨u',v' ++ v ++ [n],by rw [e,e'];simp,by simp [hv,hv'];omega,?_,hu'⟩
        rw [freeN_snoc,freeN,frees_append]
        rw [show frees v' (some 0)=some 1 from hf',frees_over v 1 hf 1]
        simp [hg.1,h2]
   ·rw [if_neg hg] at hc;cases hc
/-- A tree is what its root takes, and the root behind it. -/
theorem tree_last {ts:List Nd} (h:freeN ts=some 1) {k s:Int} (hn:ts.getD (ts.length - 1) (0,0)=(k,s)) :
  freeN (ts.take (ts.length - 1))=some (arity k)∧ts=ts.take (ts.length - 1) ++ [(k,s)]:=by
 have h0:=(tree_end h).1
 obtain ⟨c,hc,hg,ha,hx⟩:=free_good h (i:=ts.length - 1) (by omega)
 rw [show ts.length - 1+1=ts.length by omega,List.take_length,h,hn] at hx
 simp only [Option.some.injEq] at hx
 rw [hn] at ha
 refine ⟨by rw [hc,Option.some.injEq];simp only at ha;omega,?_⟩
 have e:ts.take (ts.length - 1+1)=ts.take (ts.length - 1) ++ [(k,s)]:=by
  rw [List.take_add_one]
  have:ts[ts.length - 1]?=some (k,s):=by
   rw [List.getElem?_eq_getElem (by omega)]
   rw [List.getD_eq_getElem?_getD,List.getElem?_eq_getElem (by omega)] at hn
   simpa using hn
  rw [this];rfl
 rwa [show ts.length - 1+1=ts.length by omega,List.take_length] at e
/-- The parts of a tree whose root has two. -/
theorem tree_two {ts:List Nd} (h:freeN ts=some 1) {k s:Int} (hn:ts.getD (ts.length - 1) (0,0)=(k,s)) {a b:Nat} (hstk:stkN (ts.take (ts.length - 1))=[a,b]) :
  ∃ p q,ts=p ++ q ++ [(k,s)]∧freeN p=some 1∧freeN q=some 1∧ts.take b=p∧(ts.take (ts.length - 1)).drop b=q:=by
 obtain ⟨hf,he⟩:=tree_last h hn
 have hT:=trees_any _ _ hf
 rw [hstk] at hT
 obtain ⟨u,v,e,hv,hfv,u',v',e',hv',hfv',hu'⟩:=hT
 have hu0:u'=[]:=hu'
 subst hu0
 simp only [List.nil_append] at e'
 subst e'
 refine ⟨u,v,by rw [← e];exact he,hfv',hfv,?_,by rw [e,← hv',List.drop_left]⟩
 rw [he,e,← hv',List.append_assoc,List.take_left]
theorem free_pos {ts:List Nd} (h:freeN ts=some 1):1≤ts.length:=(tree_end h).1
end Go.Proofs.YtfdhaknecjcjoaaGreatDoor

namespace Go.Proofs.YtfdhaknecjcjoaaGreatDoor
open Go Go.RowKit

theorem run_copy2 {P : Program} (w : World) (dT sT ty elem : TypeId) (g o dLen dCap : Nat) (a : Addr) (sLen sCap m : Nat) (cur : Array Value) (t : TypeId) (cs : List Value)
  (hu : P.underlying dT = some (.slice elem)) (hs : (P.info? elem).map (·.size) = some 2)
  (hg:w.heap[g]?=some (.cells cur t (0,0))) (hm:Nat.min sLen dLen=m) (hn:cs.length=m * 2)
  (hsrc:∀ j v,cs[j]?=some v→w.cell? (a.add j)=some v) (hfit:o+cs.length≤cur.size) (h1:∀ v ∈ cs,v.oneCell'=true) :
  (Builtin.copy_ #[dT,sT] ty #[.slice (some ⟨g,o,none⟩) dLen dCap,.slice (some a) sLen sCap]).run P w =
   .ok (goInt m) (w.setRow g (cur.toList.take o ++ cs ++ cur.toList.drop (o+cs.length)).toArray):=by
 have hl:=run_loadCells_list (P:=P) w a cs hsrc
 have hst:=run_storeCells_at P g o t cs 0 cur w hg (by simpa using hfit) h1
 rw [hn] at hl
 cases hq : P.info? elem with
 | none=>simp [hq] at hs
 | some i =>
  have hi:i.size=2:=by simpa [hq] using hs
  simp [Builtin.copy_,run_underlying hu,Builtin.lenOf,Builtin.firstCells,sizeOf,typeInfo,hq,hi,hm,hl,hst]

/-- A row of a block, whole. -/
def WB (w:World) (g:Nat) (L:List Value):Prop:=w.heap[g]?=some (.cells L.toArray 51 (0,0))
theorem WB.lt {w:World} {g:Nat} {L:List Value} (h:WB w g L):g<w.heap.size:=(Array.getElem?_eq_some_iff.1 h).1
theorem WB.keep {w w':World} {g:Nat} {L:List Value} (h:WB w g L) (hb:Below w.heap.size w w'):WB w' g L:=(hb.block g h.lt).trans h
theorem WB.get {w:World} {g:Nat} {L:List Value} (h:WB w g L) (i:Nat):w.cell? ⟨g,i,none⟩=L[i]?:=by
 unfold WB at h
 simp [World.cell?,h]
theorem WB.frozen {w:World} {g:Nat} {L:List Value} (h:WB w g L) (i:Nat):w.frozen? ⟨g,i,none⟩=false:=by
 unfold WB at h
 simp [World.frozen?,h]
theorem WB.set {w:World} {g:Nat} {L:List Value} (h:WB w g L) (i:Nat) (v:Value):WB (w.setCell ⟨g,i,none⟩ v) g (L.set i v):=by
 unfold WB at *
 rw [setCell_eq_setRow w g i _ _ _ v h,setRow_heap w g _ _ _ _ h]
 simp
theorem list_end {L A:List Value} {t:Nat} {x y:Value} (hl:L.length=t+2) (ht:L.take t=A):(L.set t x).set (t+1) y=A ++ [x,y]:=by
 subst ht
 apply List.ext_getElem?
 intro i
 by_cases h1 : i < t
 ·rw [List.getElem?_set_ne (by omega),List.getElem?_set_ne (by omega),List.getElem?_append_left (by simp;omega),List.getElem?_take_of_lt h1]
 ·rw [List.getElem?_append_right (by simp;omega)]
  have hlt:(List.take t L).length=t:=by simp;omega
  rw [hlt]
  by_cases h2 : i = t
  ·subst h2
   rw [List.getElem?_set_ne (by omega),List.getElem?_set_self (by omega)];simp
  ·by_cases h3 : i = t + 1
   ·subst h3
    rw [List.getElem?_set_self (by simp;omega),show t+1 - t=1 by omega];rfl
   ·rw [List.getElem?_eq_none (by simp;omega),List.getElem?_eq_none (by simp;omega)]
theorem take_splice {L A cs:List Value} {off:Nat} (hl:off+cs.length≤L.length) (hA:L.take off=A):(splice L off cs).take (off+cs.length)=A ++ cs:=by
 subst hA
 unfold splice
 rw [← List.append_assoc]
 exact List.take_left' (by simp;omega)
end Go.Proofs.YtfdhaknecjcjoaaGreatDoor

namespace Go.Proofs.YtfdhaknecjcjoaaGreatDoor
open Go Go.RowKit

/-- A list of lists of nodes, read. -/
def PReads (w : World) (v : Value) (ps : List (List Nd)) : Prop :=
 ∃ a cap,v=.slice a ps.length cap∧∀ i,i<ps.length→∃ g o u,a=some ⟨g,o,none⟩∧g<w.heap.size∧w.cell? ⟨g,o+i,none⟩=some u∧NReads w u (ps.getD i [])
theorem PReads.stay {w w':World} {v:Value} {ps:List (List Nd)} (h:PReads w v ps) (hb:Below w.heap.size w w'):PReads w' v ps:=by
 obtain ⟨a,c,e,hr⟩:=h
 refine ⟨a,c,e,fun i hi=>?_⟩
 obtain ⟨g,o,u,e,hg,h1,h2⟩:=hr i hi
 exact ⟨g,o,u,e,Nat.lt_of_lt_of_le hg hb.size,by rw [below_cell hb hg];exact h1,h2.stay hb⟩
/-- The first error of the parts. -/
def ferr : List (List Nd) → Int
 | []=>0
 | p :: ps=>if wrong p=0 then ferr ps else wrong p
def tot (ps:List (List Nd)):Nat:=ps.flatten.length
def joinE (n : Nd) (ps : List (List Nd)) : Int :=
 if good n = false then 30 else if ps.length ≠ arity n.1 then 1 else if ferr ps ≠ 0 then ferr ps else if 4000 < tot ps + 1 then 6 else 0
theorem wrong_len {ts:List Nd} (h:wrong ts=0):ts.length≤4000∧freeN ts=some 1:=by
 unfold wrong at h
 by_cases h0 : 4000 < ts.length
 ·rw [if_pos h0] at h;cases h
 ·rw [if_neg h0] at h
  by_cases h1 : freeN ts = some 1
  ·exact ⟨by omega,h1⟩
  ·rw [if_neg h1] at h;cases h
theorem take_next {ps:List (List Nd)} {i:Nat} (h:i<ps.length):ps.take (i+1)=ps.take i ++ [ps.getD i []]:=by
 rw [List.take_add_one,List.getElem?_eq_getElem h]
 simp [List.getD_eq_getElem?_getD,List.getElem?_eq_getElem h]
theorem tot_next {ps:List (List Nd)} {i:Nat} (h:i<ps.length):tot (ps.take (i+1))=tot (ps.take i)+(ps.getD i []).length:=by
 rw [take_next h];simp [tot]
theorem flat_next {ps:List (List Nd)} {i:Nat} (h:i<ps.length):(ps.take (i+1)).flatten=(ps.take i).flatten ++ ps.getD i []:=by
 rw [take_next h];simp
end Go.Proofs.YtfdhaknecjcjoaaGreatDoor

namespace Go.Proofs.YtfdhaknecjcjoaaGreatDoor
open Go Go.RowKit

end Go.Proofs.YtfdhaknecjcjoaaGreatDoor

namespace Go.Proofs.YtfdhaknecjcjoaaGreatDoor
open Go Go.RowKit

inductive Tr where
 | zero (n : Nd)
 | one (n : Nd) (a : Tr)
 | two (n : Nd) (a b : Tr)
def Tr.flat : Tr → List Nd
 | .zero n=>[n]
 | .one n a=>a.flat ++ [n]
 | .two n a b=>a.flat ++ b.flat ++ [n]
def Tr.ok : Tr → Prop
 | .zero n=>good n=true∧arity n.1=0
 | .one n a=>good n=true∧arity n.1=1∧a.ok
 | .two n a b=>good n=true∧arity n.1=2∧a.ok∧b.ok
def Tr.rev : Tr → Tr
 | .zero n=>.zero n
 | .one n a=>.one n a.rev
 | .two n a b=>if n.1=7 then .two n b.rev a.rev else .two n a.rev b.rev
def Tr.root : Tr → Nd
 | .zero n=>n
 | .one n _=>n
 | .two n _ _=>n
theorem Tr.ok_free:∀ t:Tr,t.ok→freeN t.flat=some 1
 | .zero n,h=>by simp [Tr.flat,freeN,frees,h.1,h.2]
 | .one n a,h=>by
  rw [Tr.flat,freeN_snoc,Tr.ok_free a h.2.2]
  simp [h.1,h.2.1]
 | .two n a b,h=>by
  rw [Tr.flat,freeN_snoc,freeN,frees_append,show frees a.flat (some 0)=some 1 from Tr.ok_free a h.2.2.1,frees_over _ 1 (Tr.ok_free b h.2.2.2) 1]
  simp [h.1,h.2.1]
theorem Tr.len_pos (t:Tr):1≤t.flat.length:=by
 cases t <;> simp [Tr.flat] <;> omega
theorem Tr.flat_root (t:Tr):∃ X,t.flat=X ++ [t.root]:=by
 cases t with
 | zero n=>exact ⟨[],rfl⟩
 | one n a=>exact ⟨_,rfl⟩
 | two n a b=>exact ⟨_,rfl⟩
theorem tr_of:∀ (m:Nat) (ts:List Nd),ts.length≤m→freeN ts=some 1→∃ t:Tr,t.ok∧t.flat=ts
 | 0,ts,hm,h=>by have:=free_pos h;omega
 | m+1,ts,hm,h=>by
  obtain ⟨h0,hg,hsl⟩:=tree_end h
  obtain ⟨⟨k,s⟩,hn⟩:∃ n,ts.getD (ts.length - 1) (0,0)=n:=⟨_,rfl⟩
  rw [hn] at hg hsl
  simp only at hsl
  have hal:=arity_le k
  obtain ⟨hft,hte⟩:=tree_last h hn
  have hc:arity k=0∨arity k=1∨arity k=2:=by omega
  rcases hc with hr | hr | hr
  ·rw [hr] at hsl hft
   have hT:=trees_any _ _ hft
   rw [List.eq_nil_of_length_eq_zero hsl] at hT
   have hT:ts.take (ts.length - 1)=[]:=hT
   rw [hT] at hte
   exact ⟨.zero (k,s),⟨hg,hr⟩,hte.symm⟩
  ·rw [hr] at hft
   obtain ⟨a,ha,he⟩:=tr_of m (ts.take (ts.length - 1)) (by simp;omega) hft
   exact ⟨.one (k,s) a,⟨hg,hr,ha⟩,by rw [Tr.flat,he];exact hte.symm⟩
  ·rw [hr] at hsl
   obtain ⟨x,b,hstk⟩:∃ a b,stkN (ts.take (ts.length - 1))=[a,b]:=by
    match hh:stkN (ts.take (ts.length - 1)),hsl with
    | [a,b],_=>exact ⟨a,b,rfl⟩
   obtain ⟨p,q,he,hfp,hfq,_,_⟩:=tree_two h hn hstk
   have hlen:=congrArg List.length he
   simp only [List.length_append,List.length_singleton] at hlen
   have hp1:=free_pos hfp
   have hq1:=free_pos hfq
   obtain ⟨a,ha,ea⟩:=tr_of m p (by omega) hfp
   obtain ⟨c,hc,ec⟩:=tr_of m q (by omega) hfq
   exact ⟨.two (k,s) a c,⟨hg,hr,ha,hc⟩,by rw [Tr.flat,ea,ec];exact he.symm⟩
/-- The sizes behind a tree. -/
theorem Tr.stk_flat:∀ t:Tr,t.ok→∀ s,stk t.flat s=t.flat.length :: s
 | .zero n,h,s=>by simp [Tr.flat,stk,h.2]
 | .one n a,h,s=>by
  rw [Tr.flat,stk_append,Tr.stk_flat a h.2.2]
  simp [stk,h.2.1];try omega
 | .two n a b,h,s=>by
  rw [Tr.flat,stk_append,stk_append,Tr.stk_flat a h.2.2.1,Tr.stk_flat b h.2.2.2]
  simp [stk,h.2.1];try omega
/-- The heaviest way of a tree. -/
def Tr.way (wt : Nd → Nat) : Tr → Nat
 | .zero n=>wt n
 | .one n a=>a.way wt+wt n
 | .two n a b=>max (a.way wt) (b.way wt)+wt n
end Go.Proofs.YtfdhaknecjcjoaaGreatDoor
