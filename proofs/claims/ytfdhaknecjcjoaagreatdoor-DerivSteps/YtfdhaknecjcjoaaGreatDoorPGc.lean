/- What is wrong with a tree, with a word: match's treeError, wordError. match.Ends, Member, Nullable. -/
import Derived.Test.YtfdhaknecjcjoaaGreatDoorPGa
import Derived.Test.YtfdhaknecjcjoaaGreatDoorPT
import Derived.Test.YtfdhaknecjcjoaaGreatDoorPA
import Derived.Test.YtfdhaknecjcjoaaGreatDoorPGb
namespace Go.Proofs.YtfdhaknecjcjoaaGreatDoor
open Go Go.RowKit
set_option linter.unusedVariables false

theorem mdepth_err (v : Value) (ts : List Nd) (w : World) (hv : NReads w v ts) (hm : ts.length ≤ 9223372036854775806) (hP : PTab w) :
  Calls Tryz.prog 51 #[v] w fun e w'=>∃ d:Int,e=.returned (.tuple #[.int .i64 d,.int .i64 (wrong ts)])∧Below w.heap.size w w':=by
 by_cases h0 : wrong ts = 0
 ·obtain ⟨hl,hf⟩:=wrong_zero h0
  rw [h0]
  exact (depth_any v ts w hv hl hP h0 hf).mono fun e w' ⟨h1,h2⟩=>⟨_,h1,h2⟩
 ·exact (depth_bad v ts w hv hm hP h0).mono fun e w' ⟨h1,h2⟩=>⟨_,h1,h2⟩

set_option maxHeartbeats 1000000 in
theorem mtreeErr_any (v : Value) (ts : List Nd) (w : World) (hv : NReads w v ts) (hm : ts.length ≤ 9223372036854775806) (hP : PTab w) :
  Calls Tryz.prog 138 #[v] w fun e w'=>e=.returned (.int .i64 (wrong ts))∧Below w.heap.size w w':=by
 have HD:Hid (Calls Tryz.prog 51 #[v] w fun e w'=>∃ d:Int,e=.returned (.tuple #[.int .i64 d,.int .i64 (wrong ts)])∧Below w.heap.size w w'):=mdepth_err v ts w hv hm hP
 obtain ⟨x,HX⟩:∃ x,Hid (wrong ts=x):=⟨_,rfl⟩
 rw [HX.out] at HD ⊢
 clear hv hm hP
 go_enter Tryz.func138,Tryz.ntmps138
 go_wp2_with fail
 refine HD.out.mono ?_
 rintro e w1 ⟨d,rfl,hb⟩
 go_wp2_with fail
 go_ret
 exact ⟨rfl,hb⟩

/-- A letter of the greatest alphabet. -/
def letM (b:UInt8):Bool:=decide (97≤b.toNat∧b.toNat≤104)
def wordE (s:ByteArray):Int:=if s.data.toList.all letM then (if 511<s.size then 40 else 0) else 21
theorem letM_all {s:ByteArray} (h:∀ i (hi:i<s.size),letM s[i]=true):s.data.toList.all letM=true:=by
 rw [List.all_eq_true]
 intro b hb
 obtain ⟨i,hi,rfl⟩:=List.getElem_of_mem hb
 exact h i hi
theorem letM_not {s:ByteArray} (i:Nat) (hi:i<s.size) (h:letM s[i]=false):s.data.toList.all letM=false:=by
 rw [Bool.eq_false_iff]
 intro hall
 rw [List.all_eq_true] at hall
 have hm:s[i] ∈ s.data.toList:=by
  have:s[i]=s.data[i]'hi:=rfl
  rw [this]
  exact Array.getElem_mem_toList _
 have:=hall _ hm
 rw [h] at this
 cases this

set_option maxHeartbeats 2000000 in
set_option maxRecDepth 100000 in
theorem mwordErr_any (s:ByteArray) (hsm:s.size≤9223372036854775806) (w:World):Calls Tryz.prog 139 #[.string s] w fun e w'=>e=.returned (.int .i64 (wordE s))∧Below w.heap.size w w':=by
 go_enter Tryz.func139,Tryz.ntmps139
 go_wp2_with fail
 go_loop [6] (fun i=>∃ n:Nat,n≤s.size∧i=.int .i64 n∧(∀ i (hi:i<s.size),i<n→letM s[i]=true)) (fun i=>s.size - (intOf i).toNat)
 case atStart=>exact ⟨0,Nat.zero_le _,rfl,fun i _ h=>by omega⟩
 case round =>
  obtain ⟨n,hn,rfl,hall⟩:=hrel
  have HA:Hid (∀ i (hi:i<s.size),i<n→letM s[i]=true):=hall
  clear hall
  by_cases hlt : n < s.size
  ·by_cases hl : (s[n].toNat : Int) < 97
   ·have HE:Hid (wordE s=21):=by
     show wordE s = 21
     unfold wordE
     rw [letM_not n hlt (by simp [letM];omega)]
     rfl
    go_wp2
    go_ret
    exact ⟨ret_int HE.out.symm,Below.refl _ _⟩
   by_cases hg : 104 < (s[n].toNat : Int)
   ·have HE:Hid (wordE s=21):=by
     show wordE s = 21
     unfold wordE
     rw [letM_not n hlt (by simp [letM];omega)]
     rfl
    go_wp2
    go_ret
    exact ⟨ret_int HE.out.symm,Below.refl _ _⟩
   ·go_wp2
    go_round
    case rel =>
     refine ⟨n+1,by omega,by go_num,fun i hi hlt=>?_⟩
     by_cases he : i = n
     ·subst he
      simp [letM];omega
     ·exact HA.out i hi (by omega)
    case measure=>simp [intOf];omega
  ·have HL:Hid (s.data.toList.all letM=true):=letM_all (fun i hi=>HA.out i hi (by omega))
   by_cases h5 : 511 < s.size
   ·have h5I:(511:Int)<s.size:=by omega
    have HE:Hid (wordE s=40):=by
     show wordE s = 40
     unfold wordE
     rw [HL.out,if_pos h5]
     rfl
    go_wp2
    go_ret
    exact ⟨ret_int HE.out.symm,Below.refl _ _⟩
   ·have h5I:¬ (511:Int)<s.size:=by omega
    have HE:Hid (wordE s=0):=by
     show wordE s = 0
     unfold wordE
     rw [HL.out,if_neg h5]
     rfl
    go_wp2
    go_ret
    exact ⟨ret_int HE.out.symm,Below.refl _ _⟩
end Go.Proofs.YtfdhaknecjcjoaaGreatDoor

namespace Go.Proofs.YtfdhaknecjcjoaaGreatDoor
open Go Go.RowKit
set_option linter.unusedVariables false

/-- What Ends answers as its error. -/
def endsE (ts:List Nd) (s:ByteArray) (i:Int):Int:=if wrong ts=0 then (if wordE s=0 then (if i<0∨(s.size:Int)<i then 11 else 0) else wordE s) else wrong ts
theorem tz_lt {w:World} (h:TzTab w):1<w.heap.size:=World.block_lt_of_cell? w _ (h 0 (by decide))
theorem wordE_zero {s:ByteArray} (h:wordE s=0):s.size≤511:=by
 unfold wordE at h
 split at h
 ·split at h
  ·omega
  ·omega
 ·omega
theorem wl_drop (s:ByteArray) (n:Nat) (hn:n≤s.size):wl (s.extract n s.size)=(wl s).drop n:=by
 have h1:s.data.size=s.size:=rfl
 have h2:(s.data.extract n s.data.size).toList=s.data.toList.drop n:=by
  rw [Array.toList_extract,List.extract_eq_take_drop,List.take_of_length_le (by simp)]
 simp only [wl]
 rw [← List.map_drop,← h2]
 congr 2
 simp [ByteArray.data_extract,h1]
/-- What is ahead of a place tells nothing of what begins there. -/
theorem ends_moved {P:List Int→Prop} {W:List Int} {n N M:Nat} (hn:n≤W.length) (h:EndsOk P (W.drop n) 0 N) (hM:∀ q,M.testBit q=(decide (n≤q) && N.testBit (q - n))):EndsOk P W n M:=by
 intro q
 rw [hM q,Bool.and_eq_true,decide_eq_true_eq,h (q - n),List.length_drop]
 have e:∀ q,n≤q→sub (W.drop n) 0 (q - n)=sub W n q:=fun q hq=>by
  unfold sub
  rw [List.drop_zero,Nat.sub_zero]
 constructor
 ·rintro ⟨h1,h2,h3,h4⟩
  rw [e q h1] at h4
  exact ⟨h1,by omega,h4⟩
 ·rintro ⟨h1,h2,h3⟩
  exact ⟨h1,by omega,by omega,by rw [e q h1];exact h3⟩
theorem ends_fits {P:List Int→Prop} {W:List Int} {p N:Nat} (h:EndsOk P W p N) (hW:W.length≤511):Fits N:=fun i hi=>h.small (by omega)
theorem shift_posM (N n:Nat) (h:n<512):shiftN N n=upN N n:=by unfold shiftN;rw [if_neg (by omega),if_neg (by omega),Int.toNat_natCast]
theorem shift_bits (N n:Nat) (hn:n<512) (h:∀ q,N.testBit q=true→q+n<512) (q:Nat):(shiftN N n).testBit q=(decide (n≤q) && N.testBit (q - n)):=by
 rw [shift_posM N n hn,testBit_up]
 by_cases h1 : n ≤ q
 ·cases h2 : N.testBit (q - n) with
  | false=>simp
  | true =>
   have:=h _ h2
   simp [h1]
   omega
 ·simp [h1]
theorem RD.start {base:Nat} {w:World} {B:Nat} {tv:Value} {s0 s:ByteArray} (hB:w.heap[B]?=some (.cells #[tv,.string s0,.slice none 0 0,.slice none 0 0] 168 (0,0))) (hb:base≤B):RD base (w.setCell ⟨B,1,none⟩ (.string s)) B tv s (.slice none 0 0) (.slice none 0 0) [] []:=by
 refine ⟨?_,hb,⟨rfl,.inl ⟨rfl,rfl⟩⟩,⟨rfl,.inl ⟨rfl,rfl⟩⟩,?_,?_,?_,?_⟩
 rotate_left
 ·intro b h;cases h
 ·intro x hx;simp at hx
 ·simp
 ·intro x hx;simp at hx
 rw [heap_setCell_eq w B 1 _ _ _ hB]
 rfl

set_option maxHeartbeats 4000000 in
set_option maxRecDepth 100000 in
theorem mEnds_any {w : World} {v : Value} {ts : List Nd} (s : ByteArray) (i : Int) (hv : NReads w v ts) (hm : ts.length ≤ 9223372036854775806) (hsm : s.size ≤ 9223372036854775806) (hP : PTab w) (hT : TzTab w) :
  Calls Tryz.prog 134 #[v,.string s,.int .i64 i] w fun e w'=>∃ M,e=.returned (.tuple #[setV M,.int .i64 (endsE ts s i)])∧Fits M∧(endsE ts s i≠0→M=0)∧(endsE ts s i=0→∀ t:Tr,t.ok→t.flat=ts→EndsOk (Lg t) (wl s) i.toNat M)∧Below w.heap.size w w':=by
 have HTE:Hid (∀ W,Below w.heap.size w W→Calls Tryz.prog 138 #[v] W fun e w'=>e=.returned (.int .i64 (wrong ts))∧Below W.heap.size W w'):=fun W hb=>mtreeErr_any v ts W (hv.stay hb) hm (hP.stay hb)
 have HWE:Hid (∀ W,Calls Tryz.prog 139 #[.string s] W fun e w'=>e=.returned (.int .i64 (wordE s))∧Below W.heap.size W w'):=fun W=>mwordErr_any s hsm W
 have HV:Hid (NReads w v ts):=hv
 obtain ⟨va,vcap,hva,_⟩:=hv
 subst hva
 have HLEN:Hid (ts.length≤9223372036854775806):=hm
 have HPT:Hid (PTab w∧TzTab w):=⟨hP,hT⟩
 obtain ⟨L,hL⟩:∃ L,ts.length=L:=⟨_,rfl⟩
 have HLL:Hid (ts.length=L):=hL
 rw [hL] at HV HTE ⊢
 clear hL hm hP hT
 have HB0:Hid (Below w.heap.size w (w.alloc (.cells #[.int .u64 0,.int .u64 0,.int .u64 0,.int .u64 0,.int .u64 0,.int .u64 0,.int .u64 0,.int .u64 0] 61))):=(Below.refl _ _).alloc (Nat.le_refl _) _
 have HC0:Hid (Cells8 (w.alloc (.cells #[.int .u64 0,.int .u64 0,.int .u64 0,.int .u64 0,.int .u64 0,.int .u64 0,.int .u64 0,.int .u64 0] 61)) w.heap.size (fun _=>0)):=Cells8.last w (fun _=>0)
 go_enter Tryz.func134,Tryz.ntmps134
 go_wp2_with fail
 refine (HTE.out _ HB0.out).mono ?_
 rintro e w1 ⟨rfl,hb1⟩
 have HC1:Hid (Cells8 w1 w.heap.size (fun _=>0)):=HC0.out.stay hb1
 have HB1:Hid (Below w.heap.size w w1):=go_on HB0.out hb1
 clear hb1 HC0 HB0
 obtain ⟨x,hx⟩:∃ x,wrong ts=x:=⟨_,rfl⟩
 rw [hx]
 have HX:Hid (wrong ts=x):=hx
 clear hx
 by_cases hx0 : x = 0
 rotate_left
 ·have HE:Hid (endsE ts s i=x):=by
   show endsE ts s i = x
   unfold endsE
   rw [HX.out,if_neg hx0]
  obtain ⟨d0,d1,d2,d3,d4,d5,d6,d7⟩:=HC1.out.gets
  have f0:=HC1.out.frozen 0
  have f1:=HC1.out.frozen 1
  have f2:=HC1.out.frozen 2
  have f3:=HC1.out.frozen 3
  have f4:=HC1.out.frozen 4
  have f5:=HC1.out.frozen 5
  have f6:=HC1.out.frozen 6
  have f7:=HC1.out.frozen 7
  go_wp2_with fail
  obtain ⟨h8,hB⟩:=st8 HC1.out HB1.out (Nat.le_refl _) (fun _=>0) rfl rfl rfl rfl rfl rfl rfl rfl
  refine bodyPost_ret (results_set_tmp rfl rfl h8) rfl ⟨0,?_,fun i _=>by simp,fun _=>rfl,fun h=>?_,hB⟩
  ·rw [HE.out]
   exact ret_set (fun k _=>by simp [word])
  ·exact absurd (HE.out.symm.trans h) hx0
 subst hx0
 go_wp2_with fail
 refine (HWE.out _).mono ?_
 rintro e w2 ⟨rfl,hb2⟩
 have HC2:Hid (Cells8 w2 w.heap.size (fun _=>0)):=HC1.out.stay hb2
 have HB2:Hid (Below w.heap.size w w2):=go_on HB1.out hb2
 clear hb2 HC1 HB1
 obtain ⟨x,hx⟩:∃ x,wordE s=x:=⟨_,rfl⟩
 rw [hx]
 have HY:Hid (wordE s=x):=hx
 clear hx
 by_cases hx0 : x = 0
 rotate_left
 ·have HE:Hid (endsE ts s i=x):=by
   show endsE ts s i = x
   unfold endsE
   rw [HX.out,if_pos rfl,HY.out,if_neg hx0]
  obtain ⟨d0,d1,d2,d3,d4,d5,d6,d7⟩:=HC2.out.gets
  have f0:=HC2.out.frozen 0
  have f1:=HC2.out.frozen 1
  have f2:=HC2.out.frozen 2
  have f3:=HC2.out.frozen 3
  have f4:=HC2.out.frozen 4
  have f5:=HC2.out.frozen 5
  have f6:=HC2.out.frozen 6
  have f7:=HC2.out.frozen 7
  go_wp2_with fail
  obtain ⟨h8,hB⟩:=st8 HC2.out HB2.out (Nat.le_refl _) (fun _=>0) rfl rfl rfl rfl rfl rfl rfl rfl
  refine bodyPost_ret (results_set_tmp rfl rfl h8) rfl ⟨0,?_,fun i _=>by simp,fun _=>rfl,fun h=>?_,hB⟩
  ·rw [HE.out]
   exact ret_set (fun k _=>by simp [word])
  ·exact absurd (HE.out.symm.trans h) hx0
 subst hx0
 by_cases hin : i < 0 ∨ (s.size : Int) < i
 ·have HE:Hid (endsE ts s i=11):=by
   show endsE ts s i = 11
   unfold endsE
   rw [HX.out,if_pos rfl,HY.out,if_pos rfl,if_pos hin]
  obtain ⟨d0,d1,d2,d3,d4,d5,d6,d7⟩:=HC2.out.gets
  have f0:=HC2.out.frozen 0
  have f1:=HC2.out.frozen 1
  have f2:=HC2.out.frozen 2
  have f3:=HC2.out.frozen 3
  have f4:=HC2.out.frozen 4
  have f5:=HC2.out.frozen 5
  have f6:=HC2.out.frozen 6
  have f7:=HC2.out.frozen 7
  by_cases hn : i < 0
  ·clear hin
   go_wp2_with fail
   obtain ⟨h8,hB⟩:=st8 HC2.out HB2.out (Nat.le_refl _) (fun _=>0) rfl rfl rfl rfl rfl rfl rfl rfl
   refine bodyPost_ret (results_set_tmp rfl rfl h8) rfl ⟨0,?_,fun i _=>by simp,fun _=>rfl,fun h=>?_,hB⟩
   ·rw [HE.out]
    exact ret_set (fun k _=>by simp [word])
   ·exact absurd (HE.out.symm.trans h) (by decide)
  ·have hg:(s.size:Int)<i:=by omega
   clear hin
   go_wp2_with fail
   obtain ⟨h8,hB⟩:=st8 HC2.out HB2.out (Nat.le_refl _) (fun _=>0) rfl rfl rfl rfl rfl rfl rfl rfl
   refine bodyPost_ret (results_set_tmp rfl rfl h8) rfl ⟨0,?_,fun i _=>by simp,fun _=>rfl,fun h=>?_,hB⟩
   ·rw [HE.out]
    exact ret_set (fun k _=>by simp [word])
   ·exact absurd (HE.out.symm.trans h) (by decide)
 ·obtain ⟨n,rfl⟩:∃ n:Nat,i=n:=⟨i.toNat,by omega⟩
  have hn:n≤s.size:=by omega
  have hnI:¬ (s.size:Int)<n:=by omega
  have HE:Hid (endsE ts s n=0):=by
   show endsE ts s n = 0
   unfold endsE
   rw [HX.out,if_pos rfl,HY.out,if_pos rfl,if_neg hin]
  clear hin
  obtain ⟨hl4,hfr⟩:=wrong_zero HX.out
  obtain ⟨t,ht,hfl⟩:=tr_of _ ts (Nat.le_refl _) hfr
  have hs5:=wordE_zero HY.out
  obtain ⟨s',hs'⟩:∃ s',s.extract n s.size=s':=⟨_,rfl⟩
  have hs'z:s'.size≤511:=by rw [← hs'];simp;omega
  have hwl:wl s'=(wl s).drop n:=by rw [← hs'];exact wl_drop s n hn
  have hblk:(w2.alloc (.cells #[.slice va L vcap,.string ⟨#[]⟩,.slice none 0 0,.slice none 0 0] 168)).heap[w2.heap.size]?=some (.cells #[.slice va L vcap,.string ⟨#[]⟩,.slice none 0 0,.slice none 0 0] 168 (0,0)):=heap_alloc_last w2 _
  have hT2:TzTab w2:=HPT.out.2.stay HB2.out
  have HEND:Hid (Calls Tryz.prog 141 #[.pointer (some ⟨w2.heap.size,0,none⟩),.string s'] (w2.alloc (.cells #[.slice va L vcap,.string ⟨#[]⟩,.slice none 0 0,.slice none 0 0] 168)) fun e w'=>∃ M,e=.returned (setV M)∧EndsOk (Lg t) (wl s') 0 M∧BK w2.heap.size (w2.alloc (.cells #[.slice va L vcap,.string ⟨#[]⟩,.slice none 0 0,.slice none 0 0] 168)) w'):=by
   refine mends_any hblk (RD.start hblk (Nat.le_refl _)) (hT2.alloc _) (tz_lt hT2) hs'z ht ?_ ?_ ?_
   ·intro x hx
    rw [hfl] at hx
    obtain ⟨j,hj,rfl⟩:=List.getElem_of_mem hx
    have:=good_all hfr hj
    rw [List.getD_eq_getElem?_getD,List.getElem?_eq_getElem hj] at this
    exact this
   ·rw [hfl];exact hl4
   ·intro w' hb'
    rw [hfl]
    exact (HV.out.stay HB2.out).stay (((Below.refl _ _).alloc (Nat.le_refl _) _).trans hb')
  have HSW:Hid (wl s'=(wl s).drop n∧s.size≤511∧n≤s.size):=⟨hwl,hs5,hn⟩
  have HTR:Hid (t.ok∧t.flat=ts):=⟨ht,hfl⟩
  clear hblk hT2 hwl hs'z hs5 hfl hfr hl4 HPT ht
  go_wp2_with fail
  refine HEND.out.mono ?_
  rintro e w3 ⟨M,rfl,hM,hb3⟩
  have hfit:Fits M:=ends_fits hM (by rw [HSW.out.1,List.length_drop,wl_len];have:=HSW.out.2.1;omega)
  have HB3:Hid (Below w2.heap.size w2 w3):=((Below.refl _ _).alloc (Nat.le_refl _) _).trans hb3.b
  have HM:Hid (EndsOk (Lg t) (wl s') 0 M):=hM
  clear hM hb3 hs' HEND
  go_wp2_with fail
  refine (shift_any M hfit _ _).mono ?_
  rintro e w4 ⟨rfl,hb4⟩
  have HC4:Hid (Cells8 w4 w.heap.size (fun _=>0)):=(HC2.out.stay HB3.out).stay hb4
  have HB4:Hid (Below w.heap.size w w4):=go_on (go_on HB2.out HB3.out) hb4
  obtain ⟨X,hX⟩:∃ X,shiftN M n=X:=⟨_,rfl⟩
  have HF:Hid (Fits X∧EndsOk (Lg t) (wl s) n X):=by
   have h1:EndsOk (Lg t) (wl s) n X:=by
    have hMo:=HM.out
    rw [HSW.out.1] at hMo
    refine ends_moved (by rw [wl_len];exact hn) hMo (fun q=>?_)
    rw [← hX]
    refine shift_bits M n (by have:=HSW.out.2.1;omega) (fun q hq=>?_) q
    have:=((hMo q).1 hq).2.1
    rw [List.length_drop,wl_len] at this
    have:=HSW.out.2.1
    omega
   exact ⟨ends_fits h1 (by rw [wl_len];exact HSW.out.2.1),h1⟩
  rw [hX]
  obtain ⟨d0,d1,d2,d3,d4,d5,d6,d7⟩:=HC4.out.gets
  have f0:=HC4.out.frozen 0
  have f1:=HC4.out.frozen 1
  have f2:=HC4.out.frozen 2
  have f3:=HC4.out.frozen 3
  have f4:=HC4.out.frozen 4
  have f5:=HC4.out.frozen 5
  have f6:=HC4.out.frozen 6
  have f7:=HC4.out.frozen 7
  clear hX hb4 HC2 HB2 HB3 hfit
  unfold setV cellsF
  go_wp2_with fail
  obtain ⟨h8,hB⟩:=st8 HC4.out HB4.out (Nat.le_refl _) (word X) rfl rfl rfl rfl rfl rfl rfl rfl
  refine bodyPost_ret (results_set_tmp rfl rfl h8) rfl ⟨X,?_,HF.out.1,fun h=>absurd HE.out h,fun _ t' ht' hf'=>?_,hB⟩
  ·rw [HE.out]
   rfl
  ·have e1:=run_flat t HTR.out.1 [] []
   have e2:=run_flat t' ht' [] []
   rw [List.append_nil,HTR.out.2] at e1
   rw [List.append_nil,hf',e1] at e2
   simp only [runR,Option.some.injEq,List.cons.injEq,and_true] at e2
   rw [← e2,Int.toNat_natCast]
   exact HF.out.2

theorem hasN_end (M n:Nat) (hn:n≤511):hasN M n=M.testBit n:=by
 rw [hasN,decide_eq_true (by omega),Bool.true_and,Int.toNat_natCast]
/-- What Member answers. -/
def memE (ts:List Nd) (s:ByteArray):Int:=endsE ts s 0
theorem sub_all (W:List Int):sub W 0 W.length=W:=by simp [sub]

set_option maxHeartbeats 2000000 in
set_option maxRecDepth 100000 in
theorem mMember_any {w : World} {v : Value} {ts : List Nd} (s : ByteArray) (hv : NReads w v ts) (hm : ts.length ≤ 9223372036854775806) (hsm : s.size ≤ 9223372036854775806) (hP : PTab w) (hT : TzTab w) :
  Calls Tryz.prog 128 #[v,.string s] w fun e w'=>∃ b:Bool,e=.returned (.tuple #[.bool b,.int .i64 (endsE ts s 0)])∧(endsE ts s 0≠0→b=false)∧(endsE ts s 0=0→∀ t:Tr,t.ok→t.flat=ts→(b=true↔Lg t (wl s)))∧Below w.heap.size w w':=by
 have HE:Hid (∀ W,Below w.heap.size w W→Calls Tryz.prog 134 #[v,.string s,.int .i64 0] W fun e w'=>∃ M,e=.returned (.tuple #[setV M,.int .i64 (endsE ts s 0)])∧Fits M∧(endsE ts s 0≠0→M=0)∧(endsE ts s 0=0→∀ t:Tr,t.ok→t.flat=ts→EndsOk (Lg t) (wl s) (0:Int).toNat M)∧Below W.heap.size W w'):=fun W hb=>mEnds_any s 0 (hv.stay hb) hm hsm (hP.stay hb) (hT.stay hb)
 have hsz:endsE ts s 0=0→s.size≤511:=fun h=>by
  unfold endsE at h
  by_cases h1 : wrong ts = 0
  ·rw [if_pos h1] at h
   by_cases h2 : wordE s = 0
   ·exact wordE_zero h2
   ·rw [if_neg h2] at h;exact absurd h h2
  ·rw [if_neg h1] at h;exact absurd h h1
 obtain ⟨x,hx⟩:∃ x,endsE ts s 0=x:=⟨_,rfl⟩
 rw [hx] at HE hsz ⊢
 have HSZ:Hid (x=0→s.size≤511):=hsz
 clear hv hm hP hT hx hsz
 go_enter Tryz.func128,Tryz.ntmps128
 go_wp2_with fail
 refine (HE.out _ (by first | exact Below.refl _ _ | exact (Below.refl _ _).alloc (Nat.le_refl _) _)).mono ?_
 rintro e w1 ⟨M,rfl,hf,h1,h2,hb1⟩
 have HF:Hid ((x≠0→M=0)∧(x=0→∀ t:Tr,t.ok→t.flat=ts→EndsOk (Lg t) (wl s) (0:Int).toNat M)):=⟨h1,h2⟩
 clear h1 h2
 have HHAS:Hid (∀ W,Calls Tryz.prog 135 #[.agg #[.int .u64 (word M 0:Nat),.int .u64 (word M 1:Nat),.int .u64 (word M 2:Nat),.int .u64 (word M 3:Nat),.int .u64 (word M 4:Nat),.int .u64 (word M 5:Nat),.int .u64 (word M 6:Nat),.int .u64 (word M 7:Nat)],.int .i64 (s.size:Int)] W fun e w'=>e=.returned (.bool (hasN M s.size))∧Below W.heap.size W w'):=fun W=>has_any M s.size W
 have HB1:Hid (Below w.heap.size w (w1.alloc (.cells #[.int .u64 (word M 0:Nat),.int .u64 (word M 1:Nat),.int .u64 (word M 2:Nat),.int .u64 (word M 3:Nat),.int .u64 (word M 4:Nat),.int .u64 (word M 5:Nat),.int .u64 (word M 6:Nat),.int .u64 (word M 7:Nat)] 61))):=hb1.alloc hb1.size _
 clear hb1
 unfold setV cellsF
 go_wp2_with fail
 refine (HHAS.out _).mono ?_
 rintro e w2 ⟨rfl,hb2⟩
 have HB2:Hid (Below w.heap.size w w2):=go_on HB1.out hb2
 obtain ⟨b,hb⟩:∃ b,hasN M s.size=b:=⟨_,rfl⟩
 have HBB:Hid (hasN M s.size=b):=hb
 rw [hb]
 clear hb hb2 HB1 HHAS
 go_wp2_with fail
 go_ret2
 refine ⟨b,rfl,fun h=>?_,fun h t ht hf=>?_,HB2.out⟩
 ·rw [← HBB.out,HF.out.1 h]
  simp [hasN]
 ·have hs:=HSZ.out h
  have h2:=HF.out.2 h t ht hf s.size
  have e0:(0:Int).toNat=0:=rfl
  rw [← HBB.out,hasN_end M _ hs,h2,wl_len,← wl_len,e0,sub_all]
  simp

theorem mNullable_any {w : World} {v : Value} {ts : List Nd} (hv : NReads w v ts) (hm : ts.length ≤ 9223372036854775806) (hP : PTab w) (hT : TzTab w) :
  Calls Tryz.prog 118 #[v] w fun e w'=>∃ b:Bool,e=.returned (.tuple #[.bool b,.int .i64 (wrong ts)])∧(wrong ts≠0→b=false)∧(wrong ts=0→∀ t:Tr,t.ok→t.flat=ts→(b=true↔Lg t []))∧Below w.heap.size w w':=by
 have hE:endsE ts ⟨#[]⟩ 0=wrong ts:=by
  unfold endsE
  have h1:wordE ⟨#[]⟩=0:=by decide
  rw [h1,if_pos rfl]
  by_cases h0 : wrong ts = 0
  ·rw [if_pos h0,h0];rfl
  ·rw [if_neg h0]
 have HE:Hid (Calls Tryz.prog 128 #[v,.string ⟨#[]⟩] w fun e w'=>∃ b:Bool,e=.returned (.tuple #[.bool b,.int .i64 (wrong ts)])∧(wrong ts≠0→b=false)∧(wrong ts=0→∀ t:Tr,t.ok→t.flat=ts→(b=true↔Lg t (wl ⟨#[]⟩)))∧Below w.heap.size w w'):=by
  have:=mMember_any (w:=w) (v:=v) ⟨#[]⟩ hv hm (by decide) hP hT
  rw [hE] at this
  exact this
 clear hv hm hP hT hE
 obtain ⟨x,hx⟩:∃ x,wrong ts=x:=⟨_,rfl⟩
 rw [hx] at HE ⊢
 clear hx
 go_enter Tryz.func118,Tryz.ntmps118
 go_wp2_with fail
 refine HE.out.mono ?_
 rintro e w1 ⟨b,rfl,h1,h2,hb1⟩
 have HF:Hid ((x≠0→b=false)∧(x=0→∀ t:Tr,t.ok→t.flat=ts→(b=true↔Lg t (wl ⟨#[]⟩)))):=⟨h1,h2⟩
 clear h1 h2
 go_wp2_with fail
 go_ret2
 exact ⟨b,rfl,HF.out.1,HF.out.2,hb1⟩
end Go.Proofs.YtfdhaknecjcjoaaGreatDoor
