/- Bm Bl Bs Bo Bf Bh Rh Br Rl Bp Be Bt Bw, in one text. -/
import Derived.Test.YtfdhaknecjcjoaaGreatDoorRows
import Derived.Test.YtfdhaknecjcjoaaGreatDoorPA
import Derived.WalkKit
import Derived.Laws.Bits64b
import Derived.Lib.TrailingZeros
import Derived.IntWalk
import Derived.Deep.WholeRow
import Derived.Deep.RegionWith
import Derived.WalkLawsBesides
import Derived.Laws.ResultCell
import Derived.BigQuiet
import Derived.BigRegion
import Derived.Lib.UnsafeStr
import Derived.Laws.IdiomStrings
import Derived.Maps.AppendAt
namespace Go.Proofs.YtfdhaknecjcjoaaGreatDoor
open Go.RowKit

/-- Word k of a number. -/
def word (N k:Nat):Nat:=N / 2 ^ (64 * k) % 18446744073709551616
theorem word_lt (N k:Nat):word N k<18446744073709551616:=Nat.mod_lt _ (by decide)
theorem testBit_word (N k j:Nat):(word N k).testBit j=(decide (j<64) && N.testBit (64 * k+j)):=by
 unfold word
 rw [show (18446744073709551616:Nat)=2 ^ 64 from rfl,Nat.testBit_mod_two_pow,Nat.testBit_div_two_pow,Nat.add_comm j]
theorem word_testBit (N i:Nat):N.testBit i=(word N (i / 64)).testBit (i % 64):=by
 have h:i % 64<64:=Nat.mod_lt _ (by decide)
 rw [testBit_word,Nat.div_add_mod]
 simp [h]
/-- A number of 512 bits. -/
def Fits (N:Nat):Prop:=∀ i,512≤i→N.testBit i=false
theorem small_testBit {x i : Nat} (hx : x < 18446744073709551616) (hi : 64 ≤ i) : x.testBit i = false :=
 Nat.testBit_lt_two_pow (Nat.lt_of_lt_of_le hx (Nat.pow_le_pow_right (n:=2) (by decide) hi))
theorem lt_of_bits {x n:Nat} (h:∀ i,n≤i→x.testBit i=false):x<2 ^ n:=Nat.lt_pow_two_of_testBit x h
/-- Words with the same bits are the same. -/
theorem word_ext {x y:Nat} (hx:x<18446744073709551616) (hy:y<18446744073709551616) (h:∀ j,j<64→x.testBit j=y.testBit j):x=y:=by
 apply Nat.eq_of_testBit_eq
 intro i
 by_cases hi : i < 64
 ·exact h i hi
 ·rw [small_testBit hx (by omega),small_testBit hy (by omega)]
theorem word_of_bits {N k x:Nat} (hx:x<18446744073709551616) (h:∀ j,j<64→N.testBit (64 * k+j)=x.testBit j):word N k=x:=by
 apply word_ext (word_lt N k) hx
 intro j hj
 rw [testBit_word,h j hj]
 simp [hj]

/-- Eight cells. -/
def cellsF (f:Nat→Nat):Array Value:=#[.int .u64 (f 0),.int .u64 (f 1),.int .u64 (f 2),.int .u64 (f 3),.int .u64 (f 4),.int .u64 (f 5),.int .u64 (f 6),.int .u64 (f 7)]
/-- The value of the set N. -/
def setV (N:Nat):Value:=.agg (cellsF (word N))
theorem cellsF_congr {f g:Nat→Nat} (h:∀ k,k<8→f k=g k):cellsF f=cellsF g:=by
 unfold cellsF
 rw [h 0 (by decide),h 1 (by decide),h 2 (by decide),h 3 (by decide),h 4 (by decide),h 5 (by decide),h 6 (by decide),h 7 (by decide)]
theorem eight_cases {k:Nat} (h:k<8):k=0∨k=1∨k=2∨k=3∨k=4∨k=5∨k=6∨k=7:=by omega
theorem cellsF_get (f:Nat→Nat) {k:Nat} (h:k<8):(cellsF f)[k]?=some (.int .u64 (f k)):=by
 rcases eight_cases h with rfl | rfl | rfl | rfl | rfl | rfl | rfl | rfl <;> rfl
theorem cellsF_set (f:Nat→Nat) {k:Nat} (v:Nat) (h:k<8):(cellsF f).setIfInBounds k (.int .u64 v)=cellsF (fun j=>if j=k then v else f j):=by
 rcases eight_cases h with rfl | rfl | rfl | rfl | rfl | rfl | rfl | rfl <;> rfl
/-- The number of the first n words. -/
def ofW (f : Nat → Nat) : Nat → Nat
 | 0=>0
 | n+1=>2 ^ (64 * n) * f n+ofW f n
theorem ofW_lt (f:Nat→Nat) (h:∀ k,f k<18446744073709551616) (n:Nat):ofW f n<2 ^ (64 * n):=by
 induction n with
 | zero=>simp [ofW]
 | succ n ih =>
  rw [ofW,Nat.mul_succ,Nat.pow_add]
  have h1:f n+1≤2 ^ 64:=h n
  have h2:=Nat.mul_le_mul_left (2 ^ (64 * n)) h1
  rw [Nat.mul_add,Nat.mul_one] at h2
  omega
theorem ofW_testBit (f:Nat→Nat) (h:∀ k,f k<18446744073709551616) (n i:Nat):(ofW f n).testBit i=(decide (i<64 * n) && (f (i / 64)).testBit (i % 64)):=by
 induction n with
 | zero=>simp [ofW]
 | succ n ih =>
  rw [ofW,Nat.testBit_two_pow_mul_add _ (ofW_lt f h n),ih]
  by_cases hi : i < 64 * n
  ·rw [if_pos hi]
   have:i<64 * (n+1):=by omega
   simp [hi,this]
  ·rw [if_neg hi]
   by_cases h2 : i < 64 * (n + 1)
   ·have e1:i / 64=n:=by omega
    have e2:i - 64 * n=i % 64:=by omega
    simp [h2,e1,e2]
   ·rw [small_testBit (h n) (by omega)]
    simp [h2]
/-! ### Bits of words -/
/-- a, but what b has. -/
def butN (a b:Nat):Nat:=a ^^^ (a &&& b)
theorem testBit_but (a b i:Nat):(butN a b).testBit i=(a.testBit i && !b.testBit i):=by
 unfold butN
 rw [Nat.testBit_xor,Nat.testBit_and]
 cases a.testBit i <;> cases b.testBit i <;> rfl
theorem bits_andNot_u64_nat (a b : Nat) (ha : a < 18446744073709551616) (hb : b < 18446744073709551616) :
  bits .andNot .u64 (a:Int) (b:Int)=((butN a b:Nat):Int):=by
 have hx:butN a b<2 ^ 64:=by
  apply lt_of_bits
  intro i hi
  rw [testBit_but,small_testBit ha hi]
  rfl
 have h1:(BitVec.ofInt 64 (a:Int)).toNat=a:=by
  rw [BitVec.ofInt_natCast,BitVec.toNat_ofNat];exact Nat.mod_eq_of_lt (by omega)
 have h2:(BitVec.ofInt 64 (b:Int)).toNat=b:=by
  rw [BitVec.ofInt_natCast,BitVec.toNat_ofNat];exact Nat.mod_eq_of_lt (by omega)
 show IntKind.u64.wrap ((BitVec.ofInt 64 (a : Int) &&& ~~~ BitVec.ofInt 64 (b : Int)).toNat : Int) = _
 rw [BitVec.toNat_and,BitVec.toNat_not,h1,h2,IntKind.wrap_u64]
 have e:a &&& (2 ^ 64 - 1 - b)=butN a b:=by
  apply Nat.eq_of_testBit_eq
  intro i
  rw [Nat.testBit_and,testBit_but,show 2 ^ 64 - 1 - b=2 ^ 64 - (b+1) by omega,Nat.testBit_two_pow_sub_succ (by omega)]
  by_cases hi : i < 64
  ·simp [hi]
  ·rw [small_testBit ha (by omega)]
   rfl
 rw [e]
 omega

/-! ### How many bits are 1 -/
def cnt (b N:Nat):Nat:=((List.range b).filter fun i=>N.testBit i).length
/-- How many bits are 1 in the first k words. -/
def sumW (N : Nat) : Nat → Nat
 | 0=>0
 | k+1=>sumW N k+cnt 64 (word N k)
/-! ### Counting in parallel -/
/-- The byte m, n times. -/
def rep (m : Nat) : Nat → Nat
 | 0=>0
 | n+1=>rep m n * 256+m
def s1 (n x:Nat):Nat:=((x / 2 ^ 1) &&& rep 85 n)+(x &&& rep 85 n)
def s2 (n x:Nat):Nat:=((x / 2 ^ 2) &&& rep 51 n)+(x &&& rep 51 n)
def s3 (n x:Nat):Nat:=(x / 16+x) &&& rep 15 n
end Go.Proofs.YtfdhaknecjcjoaaGreatDoor

namespace Go.Proofs.YtfdhaknecjcjoaaGreatDoor
open Go.RowKit


/-! ### What the model's operations are, in plain numbers -/
theorem and_u64 {A B:Int} (a b:Nat) (hA:A=a) (hB:B=b) (ha:a<18446744073709551616) (hb:b<18446744073709551616):bits .and .u64 A B=((a &&& b:Nat):Int):=by
 rw [hA,hB,bits_and_u64_nat a b ha hb]
theorem wrap_nat (a:Nat) (h:a<18446744073709551616):IntKind.u64.wrap (a:Int)=a:=by
 rw [IntKind.wrap_u64]
 omega
theorem two_pow_lt (j:Nat) (h:j<64):2 ^ j<18446744073709551616:=by
 have:2 ^ j<2 ^ 64:=Nat.pow_lt_pow_right (by decide) h
 exact this
theorem isNumber_any (i : Int) (w : World) :
  Calls Tryz.prog 142 #[.int .i64 i] w fun e w'=>e=.returned (.bool (decide (0≤i∧i<512)))∧w'=w:=by
 by_cases h0 : 0 ≤ i
 ·by_cases h1 : i < 512
  ·go_enter Tryz.func142,Tryz.ntmps142
   go_wp2
   go_ret
   exact ⟨ret_bool (by simp [h0,h1]),rfl⟩
  ·go_enter Tryz.func142,Tryz.ntmps142
   go_wp2
   go_ret
   exact ⟨ret_bool (by simp;omega),rfl⟩
 ·go_enter Tryz.func142,Tryz.ntmps142
  go_wp2
  go_ret
  exact ⟨ret_bool (by simp;omega),rfl⟩

theorem bitOf_any (i : Nat) (hi : i < 512) (w : World) :
  Calls Tryz.prog 143 #[.int .i64 i] w fun e w'=>e=.returned (.int .u64 (2 ^ (i % 64):Nat))∧w'=w:=by
 go_enter Tryz.func143,Tryz.ntmps143
 go_wp2
 go_ret
 refine ⟨ret_int ?_,rfl⟩
 have:=wrap_nat (2 ^ (i % 64)) (two_pow_lt _ (by omega))
 simpa using this

theorem low_div (m:Nat) (h:m≤64):(18446744073709551615:Int) / 2 ^ (64 - m)=((2 ^ m - 1:Nat):Int):=by
 have e:(18446744073709551615:Nat) / 2 ^ (64 - m)=2 ^ m - 1:=by
  apply Nat.eq_of_testBit_eq
  intro i
  rw [Nat.testBit_div_two_pow,Nat.testBit_two_pow_sub_one,show (18446744073709551615:Nat)=2 ^ 64 - 1 from rfl,Nat.testBit_two_pow_sub_one]
  rw [decide_eq_decide]
  omega
 rw [← e]
 simp

theorem lowOnes_any (n:Int) (hn : -512≤n∧n≤1024) (w:World) :
  Calls Tryz.prog 169 #[.int .i64 n] w fun e w'=>e=.returned (.int .u64 ((2 ^ (min n.toNat 64) - 1:Nat):Int))∧w'=w:=by
 by_cases h0 : n ≤ 0
 ·have e:min n.toNat 64=0:=by omega
  rw [e]
  have h1:¬ 64<n:=by omega
  go_enter Tryz.func169,Tryz.ntmps169
  go_wp2
  go_ret
  exact ⟨rfl,rfl⟩
 by_cases h1 : 64 < n
 ·have e:min n.toNat 64=64:=by omega
  rw [e]
  go_enter Tryz.func169,Tryz.ntmps169
  go_wp2
  go_ret
  exact ⟨rfl,rfl⟩
 ·obtain ⟨m,rfl⟩:∃ m:Nat,n=m:=⟨n.toNat,by omega⟩
  have e:min (m:Int).toNat 64=m:=by omega
  rw [e]
  have h2:(0:Int)<m:=by omega
  go_enter Tryz.func169,Tryz.ntmps169
  go_wp2
  go_ret
  refine ⟨ret_int ?_,rfl⟩
  exact low_div m (by omega)

end Go.Proofs.YtfdhaknecjcjoaaGreatDoor

namespace Go.Proofs.YtfdhaknecjcjoaaGreatDoor
open Go.RowKit

/-- The set's eight words lie in block b. -/
def Cells8 (w:World) (b:Nat) (f:Nat→Nat):Prop:=w.heap[b]?=some (.cells (cellsF f) 61 (0,0))
theorem Cells8.lt {w:World} {b:Nat} {f:Nat→Nat} (h:Cells8 w b f):b<w.heap.size:=(Array.getElem?_eq_some_iff.1 h).1
theorem Cells8.get {w:World} {b:Nat} {f:Nat→Nat} (h:Cells8 w b f) {k:Nat} (hk:k<8):w.cell? ⟨b,k,none⟩=some (.int .u64 (f k)):=by
 have h':w.heap[b]?=some (.cells (cellsF f) 61 (0,0)):=h
 simp only [World.cell?,h']
 exact cellsF_get f hk
theorem Cells8.frozen {w:World} {b:Nat} {f:Nat→Nat} (h:Cells8 w b f) (k:Nat):w.frozen? ⟨b,k,none⟩=false:=by
 have h':w.heap[b]?=some (.cells (cellsF f) 61 (0,0)):=h
 simp [World.frozen?,h']
theorem Cells8.congr {w:World} {b:Nat} {f g:Nat→Nat} (h:Cells8 w b f) (e:∀ k,k<8→f k=g k):Cells8 w b g:=by
 unfold Cells8 at h ⊢
 rw [h,cellsF_congr e]
theorem Cells8.of_heap {w w':World} {b:Nat} {f:Nat→Nat} (h:Cells8 w b f) (e:w'.heap[b]?=w.heap[b]?):Cells8 w' b f:=by
 unfold Cells8 at h ⊢
 rw [e,h]
theorem Cells8.other {w:World} {b:Nat} {f:Nat→Nat} (h:Cells8 w b f) {b' k:Nat} (hb:b'≠b) (u:Value):Cells8 (w.setCell ⟨b',k,none⟩ u) b f :=
 h.of_heap (Below.heap_setCell _ _ _ _ (fun e=>hb e.symm))
theorem Cells8.set {w:World} {b:Nat} {f:Nat→Nat} (h:Cells8 w b f) {k:Nat} (v:Nat) (hk:k<8):Cells8 (w.setCell ⟨b,k,none⟩ (.int .u64 v)) b (fun j=>if j=k then v else f j):=by
 have h':w.heap[b]?=some (.cells (cellsF f) 61 (0,0)):=h
 unfold Cells8
 rw [← cellsF_set f v hk]
 simp only [World.setCell]
 rw [Array.getElem?_modify,if_pos rfl,h']
 rfl
theorem Cells8.alloc {w:World} {b:Nat} {f:Nat→Nat} (h:Cells8 w b f) (o:Obj):Cells8 (w.alloc o) b f:=by
 apply h.of_heap
 simp only [World.alloc]
 rw [Array.getElem?_push_lt h.lt,Array.getElem?_eq_getElem h.lt]
theorem Cells8.last (w:World) (f:Nat→Nat):Cells8 (w.alloc (.cells (cellsF f) 61)) w.heap.size f:=heap_alloc_last w _
theorem Cells8.drewN {w:World} {b:Nat} {f:Nat→Nat} (h:Cells8 w b f) (q:Nat):Cells8 (w.drewN q) b f:=h.of_heap (by simp)
theorem Cells8.drew {w:World} {b:Nat} {f:Nat→Nat} (h:Cells8 w b f):Cells8 w.drew b f:=h.of_heap rfl
theorem Cells8.gets {w:World} {b:Nat} {f:Nat→Nat} (h:Cells8 w b f):w.cell? ⟨b,0,none⟩=some (.int .u64 (f 0))∧w.cell? ⟨b,1,none⟩=some (.int .u64 (f 1))∧w.cell? ⟨b,2,none⟩=some (.int .u64 (f 2))∧w.cell? ⟨b,3,none⟩=some (.int .u64 (f 3)) ∧
  w.cell? ⟨b,4,none⟩=some (.int .u64 (f 4))∧w.cell? ⟨b,5,none⟩=some (.int .u64 (f 5))∧w.cell? ⟨b,6,none⟩=some (.int .u64 (f 6))∧w.cell? ⟨b,7,none⟩=some (.int .u64 (f 7)) :=
 ⟨h.get (by decide),h.get (by decide),h.get (by decide),h.get (by decide),h.get (by decide),h.get (by decide),h.get (by decide),h.get (by decide)⟩

theorem Tryz.info_set:(Tryz.prog.info? 61).map (·.size)=some 8:=by kernel_rfl
theorem load_set {w:World} {b:Nat} {f:Nat→Nat} (h:Cells8 w b f):(loadVar 61 ⟨b,0,none⟩).run Tryz.prog w=.ok (.agg (cellsF f)) w :=
 run_loadVar_row _ _ 61 61 (cellsF f) (0,0) _ h Tryz.underlying61 rfl Tryz.info_set
theorem results_set {fn:Func} {p:Tmp} (h:fn.results=#[.cell p 61]) {tmps:Array Value} {b:Nat} {f:Nat→Nat} {w:World} (hp:tmps.getD p undef=.pointer (some ⟨b,0,none⟩)) (hc:Cells8 w b f) :
  (results fn tmps).run Tryz.prog w = .ok (.agg (cellsF f)) w :=
 results_cell_row h tmps w b 61 (cellsF f) (0,0) _ hp hc Tryz.underlying61 rfl Tryz.info_set
theorem results_set_tmp {fn:Func} {p u:Tmp} (h:fn.results=#[.cell p 61,.tmp u]) {tmps:Array Value} {b:Nat} {f:Nat→Nat} {w:World} (hp:tmps.getD p undef=.pointer (some ⟨b,0,none⟩)) (hc:Cells8 w b f) :
  (results fn tmps).run Tryz.prog w=.ok (.tuple #[.agg (cellsF f),tmps.getD u undef]) w:=by
 rw [results_cell_tmp h]
 simp [hp,asAddr,load_set hc,Result.andThen]
/-- Eight stores into a block of the call's own: it holds what was stored. -/
theorem st8 {B : Nat} {w wr : World} {b : Nat} {f : Nat → Nat} (h : Cells8 wr b f) (hbel : Below B w wr) (hb : B ≤ b) (g : Nat → Nat) {v0 v1 v2 v3 v4 v5 v6 v7 : Value} (e0 : v0 = .int .u64 (g 0)) (e1 : v1 = .int .u64 (g 1)) (e2 : v2 = .int .u64 (g 2)) (e3 : v3 = .int .u64 (g 3))
  (e4 : v4 = .int .u64 (g 4)) (e5 : v5 = .int .u64 (g 5)) (e6 : v6 = .int .u64 (g 6)) (e7 : v7 = .int .u64 (g 7)) :
  Cells8 ((((((((wr.setCell ⟨b,0,none⟩ v0).setCell ⟨b,1,none⟩ v1).setCell ⟨b,2,none⟩ v2).setCell ⟨b,3,none⟩ v3).setCell ⟨b,4,none⟩ v4).setCell ⟨b,5,none⟩ v5).setCell ⟨b,6,none⟩ v6).setCell ⟨b,7,none⟩ v7) b g ∧
  Below B w ((((((((wr.setCell ⟨b,0,none⟩ v0).setCell ⟨b,1,none⟩ v1).setCell ⟨b,2,none⟩ v2).setCell ⟨b,3,none⟩ v3).setCell ⟨b,4,none⟩ v4).setCell ⟨b,5,none⟩ v5).setCell ⟨b,6,none⟩ v6).setCell ⟨b,7,none⟩ v7):=by
 subst e0 e1 e2 e3 e4 e5 e6 e7
 refine ⟨?_,(((((((hbel.setCell (p:=⟨b,0,none⟩) hb _).setCell (p:=⟨b,1,none⟩) hb _).setCell (p:=⟨b,2,none⟩) hb _).setCell (p:=⟨b,3,none⟩) hb _).setCell (p:=⟨b,4,none⟩) hb _).setCell (p:=⟨b,5,none⟩) hb _).setCell (p:=⟨b,6,none⟩) hb _).setCell (p:=⟨b,7,none⟩) hb _⟩
 refine (((((((((h.set (g 0) (by decide : 0 < 8)).set (g 1) (by decide : 1 < 8)).set (g 2) (by decide : 2 < 8)).set (g 3) (by decide : 3 < 8)).set (g 4) (by decide : 4 < 8)).set (g 5) (by decide : 5 < 8)).set (g 6) (by decide : 6 < 8)).set (g 7) (by decide : 7 < 8)).congr ?_)
 intro k hk
 rcases eight_cases hk with rfl | rfl | rfl | rfl | rfl | rfl | rfl | rfl <;> rfl

end Go.Proofs.YtfdhaknecjcjoaaGreatDoor

namespace Go.Proofs.YtfdhaknecjcjoaaGreatDoor
open Go.RowKit

/-- A list of ints, as it lies in memory. -/
def Reads (w : World) (v : Value) (xs : List Int) : Prop :=
 ∃ a cap,v=.slice a xs.length cap∧∀ i,i<xs.length→∃ g o,a=some ⟨g,o,none⟩∧g<w.heap.size∧w.cell? ⟨g,o+i,none⟩=some (.int .i64 (xs.getD i 0))
/-- The set of a list's numbers. -/
def ofL (xs:List Int):Nat:=xs.foldl (fun N i=>N ||| 2 ^ i.toNat) 0
def inSet (i:Int):Bool:=decide (0≤i∧i<512)
/-- What Of answers. -/
def ofN (xs:List Int):Nat:=if xs.all inSet then ofL xs else 0
def ofE (xs:List Int):Int:=if xs.all inSet then 0 else 11
theorem ofL_take_succ (xs:List Int) (i:Nat) (h:i<xs.length):ofL (xs.take (i+1))=ofL (xs.take i) ||| 2 ^ (xs.getD i 0).toNat:=by
 unfold ofL
 rw [List.take_add_one,List.foldl_append]
 simp [h]
theorem word_or_bit (N i k:Nat):word (N ||| 2 ^ i) k=if k=i / 64 then word N k ||| 2 ^ (i % 64) else word N k:=by
 by_cases h : k = i / 64
 ·rw [if_pos h]
  apply word_of_bits (Nat.or_lt_two_pow (n:=64) (word_lt N k) (two_pow_lt _ (Nat.mod_lt _ (by decide))))
  intro j hj
  rw [Nat.testBit_or,Nat.testBit_or,Nat.testBit_two_pow,Nat.testBit_two_pow,testBit_word]
  simp only [hj,decide_true,Bool.true_and]
  congr 1
  rw [decide_eq_decide]
  omega
 ·rw [if_neg h]
  apply word_of_bits (word_lt N k)
  intro j hj
  rw [Nat.testBit_or,Nat.testBit_two_pow,testBit_word]
  have:¬ i=64 * k+j:=by omega
  simp [hj,this]
theorem cells_or_bit (N:Nat) {i:Nat} (h:i<512):(cellsF (word N)).setIfInBounds (i / 64) (.int .u64 (word N (i / 64) ||| 2 ^ (i % 64):Nat))=cellsF (word (N ||| 2 ^ i)):=by
 rw [cellsF_set _ _ (by omega)]
 apply cellsF_congr
 intro k _
 rw [word_or_bit]
 by_cases hk : k = i / 64
 ·rw [if_pos hk,if_pos hk,hk]
 ·rw [if_neg hk,if_neg hk]

theorem ret_set {f g:Nat→Nat} {e:Value} (h:∀ k,k<8→f k=g k):Ending.returned (.tuple #[.agg (cellsF f),e])=.returned (.tuple #[.agg (cellsF g),e]):=by rw [cellsF_congr h]
/-- What stands in the loop of Of. -/
structure OfAt (w : World) (xs : List Int) (i : Nat) (wr : World) : Prop where
 all:∀ j,j<i→inSet (xs.getD j 0)=true
 res:Cells8 wr w.heap.size (fun _=>0)
 out : Cells8 wr (w.heap.size + 1) (word (ofL (xs.take i)))
 below : Below w.heap.size w wr

theorem or_u64 {A B:Int} (a b:Nat) (hA:A=a) (hB:B=b) (ha:a<18446744073709551616) (hb:b<18446744073709551616):bits .or .u64 A B=((a ||| b:Nat):Int):=by
 rw [hA,hB,bits_or_u64_nat a b ha hb]
theorem OfAt.next {w wr : World} {xs : List Int} {i m k : Nat} (h : OfAt w xs i wr) (hlt : i < xs.length) (hx : xs.getD i 0 = (m : Int)) (hm : m < 512) (hk : m / 64 = k) :
  OfAt w xs (i+1) (wr.setCell ⟨w.heap.size+1,k,none⟩ (.int .u64 (bits .or .u64 (word (ofL (xs.take i)) k:Nat) (2 ^ (m % 64))))).drew:=by
 have e : bits .or .u64 (word (ofL (xs.take i)) k : Nat) (2 ^ (m % 64)) = ((word (ofL (xs.take i)) k ||| 2 ^ (m % 64) : Nat) : Int) :=
  or_u64 _ (2 ^ (m % 64)) rfl (by simp) (word_lt _ _) (two_pow_lt _ (by omega))
 rw [e]
 refine ⟨?_,?_,?_,?_⟩
 ·intro j hj
  by_cases hji : j = i
  ·rw [hji,hx]
   simp [inSet]
   omega
  ·exact h.all j (by omega)
 ·exact (h.res.other (by omega) _).drew
 ·refine ((h.out.set _ (by omega)).congr ?_).drew
  intro j _
  rw [ofL_take_succ xs i hlt,hx,word_or_bit,Int.toNat_natCast,hk]
  by_cases hj : j = k
  ·rw [if_pos hj,if_pos hj,hj]
  ·rw [if_neg hj,if_neg hj]
 ·exact (h.below.setCell (p:=⟨w.heap.size+1,k,none⟩) (by simp) _).drew

end Go.Proofs.YtfdhaknecjcjoaaGreatDoor

namespace Go.Proofs.YtfdhaknecjcjoaaGreatDoor
open Go.RowKit

/-- Is it a field? -/
def isF (a b:Int):Bool:=decide (1≤b∧b≤64∧0≤a∧a≤512 - b)
/-- What Field answers. -/
def fieldN (N:Nat) (a b:Int):Nat:=if isF a b then N / 2 ^ a.toNat % 2 ^ b.toNat else 0
def fieldE (a b:Int):Int:=if isF a b then 0 else 1

theorem shr_cast (x n:Nat):((x:Int) / 2 ^ n)=((x / 2 ^ n:Nat):Int):=by simp
theorem shl_cast (x n:Nat):IntKind.u64.wrap ((x:Int) * 2 ^ n)=((x * 2 ^ n % 18446744073709551616:Nat):Int):=by
 rw [IntKind.wrap_u64]
 simp
theorem shr_lt {x n:Nat} (h:x<18446744073709551616):x / 2 ^ n<18446744073709551616:=Nat.lt_of_le_of_lt (Nat.div_le_self _ _) h
theorem ones_lt {n:Nat} (h:n≤64):2 ^ n - 1<18446744073709551616:=by
 have:2 ^ n≤2 ^ 64:=Nat.pow_le_pow_right (by decide) h
 have:=Nat.two_pow_pos n
 omega
theorem testBit_shl (x n j:Nat) (hj:j<64):(x * 2 ^ n % 18446744073709551616).testBit j=(decide (n≤j) && x.testBit (j - n)):=by
 rw [show (18446744073709551616:Nat)=2 ^ 64 from rfl,Nat.testBit_mod_two_pow,Nat.testBit_mul_two_pow]
 simp [hj]
end Go.Proofs.YtfdhaknecjcjoaaGreatDoor

namespace Go.Proofs.YtfdhaknecjcjoaaGreatDoor
open Go.RowKit

/-- What Has answers. -/
def hasN (N:Nat) (i:Int):Bool:=decide (0≤i∧i<512) && N.testBit i.toNat
theorem has_bit (N m k l:Nat) (hk:m / 64=k) (hl:m % 64=l):((bits .and .u64 (word N k:Nat) ((2 ^ l:Nat):Int)) != 0)=N.testBit m:=by
 have h64:l<64:=by omega
 have e:64 * k+l=m:=by omega
 have hb:(word N k).testBit l=N.testBit m:=by rw [testBit_word,e,decide_eq_true h64,Bool.true_and]
 rw [and_u64 _ _ rfl rfl (word_lt N k) (two_pow_lt _ h64),← hb]
 cases hx : (word N k).testBit l with
 | true =>
  have:word N k &&& 2 ^ l≠0:=by
   intro h0
   have h1:(word N k &&& 2 ^ l).testBit l=true:=by rw [Nat.testBit_and,hx,Nat.testBit_two_pow_self];rfl
   rw [h0] at h1
   simp at h1
  simpa using this
 | false =>
  have:word N k &&& 2 ^ l=0:=by
   apply Nat.eq_of_testBit_eq
   intro i
   rw [Nat.testBit_and,Nat.testBit_two_pow,Nat.zero_testBit]
   by_cases hi : l = i
   ·rw [← hi,hx];rfl
   ·simp [hi]
  simp [this]
theorem isNumber_yes {i:Int} (h:decide (0≤i∧i<512)=true) (w:World):Calls Tryz.prog 142 #[.int .i64 i] w fun e w'=>e=.returned (.bool true)∧w'=w:=h ▸ isNumber_any i w
theorem isNumber_no {i:Int} (h:decide (0≤i∧i<512)=false) (w:World):Calls Tryz.prog 142 #[.int .i64 i] w fun e w'=>e=.returned (.bool false)∧w'=w:=h ▸ isNumber_any i w


set_option maxHeartbeats 2000000 in
set_option maxRecDepth 100000 in
theorem has_any (N : Nat) (i : Int) (w : World) :
  Calls Tryz.prog 135 #[setV N,.int .i64 i] w fun e w'=>e=.returned (.bool (hasN N i))∧Below w.heap.size w w':=by
 unfold setV
 by_cases hin:0≤i∧i<512
 ·obtain ⟨m,rfl⟩:∃ m:Nat,i=m:=⟨i.toNat,by omega⟩
  have hd:decide (0≤(m:Int)∧(m:Int)<512)=true:=by simpa using hin
  have hm5:m<512:=by omega
  obtain ⟨k,hkd⟩:∃ k,m / 64=k:=⟨_,rfl⟩
  have hk:k<8:=by omega
  have hkI:(k:Int)<8:=by omega
  have hq:(m:Int).tdiv 64=k:=by rw [Int.tdiv_eq_ediv_of_nonneg (by omega)];omega
  have hw:IntKind.i64.wrap (k:Int)=k:=IntWalk.i64_in _ (by omega)
  have H0:Hid (Cells8 (w.alloc (.cells (cellsF (word N)) 61)) w.heap.size (word N)):=Cells8.last w _
  have HB:Hid (((bits .and .u64 (word N k:Nat) ((2 ^ (m % 64):Nat):Int)) != 0)=hasN N m):=by
   show _ = hasN N m
   rw [has_bit N m k _ hkd rfl,hasN,hd,Bool.true_and,Int.toNat_natCast]
  clear hkd hin
  go_enter Tryz.func135,Tryz.ntmps135
  go_wp2_with fail
  generalize hW : w.alloc (.cells (cellsF (word N)) 61) = W at H0 ⊢
  have hc:=H0.out.get hk
  have hbel:Below w.heap.size w W:=by rw [← hW];exact (Below.refl _ _).alloc (Nat.le_refl _) _
  have HBel:Hid _:=hbel
  clear hW hbel
  go_quiet (first
   | (go_at_call 142;exact Calls.quiet_of_same (isNumber_yes hd _))
   | (go_at_call 143;exact Calls.quiet_of_same (bitOf_any m hm5 _)))
  go_wp2_with fail
  go_ret
  exact ⟨ret_bool (by rw [← HB.out];simp),below_drewN HBel.out nq⟩
 ·have hd:decide (0≤i∧i<512)=false:=by simpa using hin
  have HE:Hid (hasN N i=false):=by show hasN N i=false;rw [hasN,hd,Bool.false_and]
  go_enter Tryz.func135,Tryz.ntmps135
  go_wp2_with fail
  generalize hW : w.alloc (.cells (cellsF (word N)) 61) = W
  have hbel:Below w.heap.size w W:=by rw [← hW];exact (Below.refl _ _).alloc (Nat.le_refl _) _
  have HBel:Hid _:=hbel
  clear hW hbel
  go_quiet ((go_at_call 142;exact Calls.quiet_of_same (isNumber_no hd _)))
  go_wp2_with fail
  go_ret
  exact ⟨ret_bool HE.out.symm,below_drewN HBel.out nq⟩

end Go.Proofs.YtfdhaknecjcjoaaGreatDoor

namespace Go.Proofs.YtfdhaknecjcjoaaGreatDoor
open Go.RowKit

theorem rhas_bit (N m k l:Nat) (hk:m / 64=k) (hl:m % 64=l):((bits .and .u64 ((word N k:Nat) / 2 ^ l:Int) 1) == 1)=N.testBit m:=by
 have h64:l<64:=by omega
 have e:64 * k+l=m:=by omega
 have hb:(word N k).testBit l=N.testBit m:=by rw [testBit_word,e,decide_eq_true h64,Bool.true_and]
 have h1:bits .and .u64 ((word N k:Nat) / 2 ^ l:Int) 1=((word N k / 2 ^ l &&& 1:Nat):Int):=and_u64 _ 1 (shr_cast _ _) rfl (shr_lt (word_lt N k)) (by decide)
 rw [h1,← hb,Nat.testBit_eq_decide_div_mod_eq,Nat.and_one_is_mod,Bool.eq_iff_iff]
 simp only [beq_iff_eq,decide_eq_true_eq]
 omega

set_option maxHeartbeats 2000000 in
set_option maxRecDepth 100000 in
theorem rhas_any (N : Nat) (i : Int) (w : World) :
  Calls Tryz.prog 33 #[setV N,.int .i64 i] w fun e w'=>e=.returned (.bool (hasN N i))∧Below w.heap.size w w':=by
 unfold setV
 by_cases h0 : 0 ≤ i
 ·by_cases h5 : i < 512
  ·obtain ⟨m,rfl⟩:∃ m:Nat,i=m:=⟨i.toNat,by omega⟩
   have hm5:m<512:=by omega
   have hk:m / 64<8:=by omega
   have hc:=(Cells8.last w (word N)).get hk
   have HB:Hid (((bits .and .u64 ((word N (m / 64):Nat) / 2 ^ (m % 64):Int) 1) == 1)=hasN N m):=by
    show _ = hasN N m
    rw [rhas_bit N m _ _ rfl rfl,hasN,decide_eq_true (by omega),Bool.true_and,Int.toNat_natCast]
   go_enter Tryz.func33,Tryz.ntmps33
   go_wp2_with fail
   go_ret
   exact ⟨ret_bool HB.out,(Below.refl _ _).alloc (Nat.le_refl _) _⟩
  ·have HE:Hid (hasN N i=false):=by show hasN N i=false;rw [hasN,decide_eq_false (by omega),Bool.false_and]
   go_enter Tryz.func33,Tryz.ntmps33
   go_wp2_with fail
   go_ret
   exact ⟨ret_bool HE.out.symm,(Below.refl _ _).alloc (Nat.le_refl _) _⟩
 ·have HE:Hid (hasN N i=false):=by show hasN N i=false;rw [hasN,decide_eq_false (by omega),Bool.false_and]
  go_enter Tryz.func33,Tryz.ntmps33
  go_wp2_with fail
  go_ret
  exact ⟨ret_bool HE.out.symm,(Below.refl _ _).alloc (Nat.le_refl _) _⟩

end Go.Proofs.YtfdhaknecjcjoaaGreatDoor

namespace Go.Proofs.YtfdhaknecjcjoaaGreatDoor
open Go.RowKit

theorem RowAt.step {w w':World} {b:Nat} {arr:Array Value} {O:Obj} (r:RowAt w b arr) (h:Below (w.alloc O).heap.size (w.alloc O) w'):RowAt w' b arr:=(r.alloc O).stay h
theorem RowAt.new {w w':World} {arr:Array Value} {t:TypeId} (h:Below (w.alloc (.cells arr t)).heap.size (w.alloc (.cells arr t)) w'):RowAt w' w.heap.size arr:=(RowAt.last w arr t).stay h
end Go.Proofs.YtfdhaknecjcjoaaGreatDoor

namespace Go.Proofs.YtfdhaknecjcjoaaGreatDoor
open Go.RowKit Go.Lib

/-- Numbers as an int row's cells. -/
def zC (l:List Int):List Value:=l.map fun n=>Value.int .i64 n
/-- The numbers of N below b, rising. -/
def lst (N b:Nat):List Int:=((List.range b).filter fun j=>N.testBit j).map fun (j:Nat)=>(j:Int)
end Go.Proofs.YtfdhaknecjcjoaaGreatDoor

namespace Go.Proofs.YtfdhaknecjcjoaaGreatDoor
open Go.RowKit

/-- The set with another worth of a field. -/
def putV (N a b v:Nat):Nat:=butN N ((2 ^ b - 1) * 2 ^ a) ||| v * 2 ^ a
def putN (N:Nat) (a b:Int) (v:Nat):Nat:=if isF a b then (if v<2 ^ b.toNat then putV N a.toNat b.toNat v else 0) else 0
def putE (a b:Int) (v:Nat):Int:=if isF a b then (if v<2 ^ b.toNat then 0 else 11) else 1
/-- The field's lower word, and its upper one. -/
def lowW (x b l v:Nat):Nat:=butN x ((2 ^ b - 1) * 2 ^ l % 18446744073709551616) ||| v * 2 ^ l % 18446744073709551616
def highW (x b m v:Nat):Nat:=butN x ((2 ^ b - 1) / 2 ^ m) ||| v / 2 ^ m
theorem but_lt {a b:Nat} (h:a<18446744073709551616):butN a b<18446744073709551616:=by
 have:butN a b<2 ^ 64:=by
  apply lt_of_bits
  intro i hi
  rw [testBit_but,small_testBit h hi]
  rfl
 exact this
/-- What stands in Put: the set's words in one block, the result's in the next. -/
structure PutAt (w : World) (f : Nat → Nat) (wr : World) : Prop where
 set : Cells8 wr w.heap.size f
 res:Cells8 wr (w.heap.size+1) (fun _=>0)
 below : Below w.heap.size w wr
theorem PutAt.start (w:World) (N:Nat):PutAt w (word N) ((w.alloc (.cells (cellsF (word N)) 61)).alloc (.cells #[.int .u64 0,.int .u64 0,.int .u64 0,.int .u64 0,.int .u64 0,.int .u64 0,.int .u64 0,.int .u64 0] 61)) :=
 ⟨(Cells8.last w _).alloc _,by
  have:=Cells8.last (w.alloc (.cells (cellsF (word N)) 61)) (fun _=>0)
  simpa [cellsF] using this,((Below.refl _ _).alloc (Nat.le_refl _) _).alloc (by simp) _⟩

theorem PutAt.put {w wr:World} {f:Nat→Nat} {k x:Nat} (h:PutAt w f wr) (hk:k<8):PutAt w (fun j=>if j=k then x else f j) (wr.setCell ⟨w.heap.size,k,none⟩ (.int .u64 (x:Nat))).drew :=
 ⟨(h.set.set x hk).drew,(h.res.other (by omega) _).drew,(h.below.setCell (p:=⟨w.heap.size,k,none⟩) (Nat.le_refl _) _).drew⟩

theorem Cells8.stay {w w':World} {b:Nat} {f:Nat→Nat} (h:Cells8 w b f) (hb:Below w.heap.size w w'):Cells8 w' b f:=h.of_heap (hb.block b h.lt)
theorem PutAt.stay {w wr wr':World} {f:Nat→Nat} (h:PutAt w f wr) (hb:Below wr.heap.size wr wr'):PutAt w f wr':=⟨h.set.stay hb,h.res.stay hb,go_on h.below hb⟩
end Go.Proofs.YtfdhaknecjcjoaaGreatDoor

namespace Go.Proofs.YtfdhaknecjcjoaaGreatDoor
open Go.RowKit

theorem word_zero (k:Nat):word 0 k=0:=by unfold word;rw [Nat.zero_div,Nat.zero_mod]
end Go.Proofs.YtfdhaknecjcjoaaGreatDoor

namespace Go.Proofs.YtfdhaknecjcjoaaGreatDoor
open Go.RowKit

/-- Two sets and a result, as they lie in memory. -/
structure TwoAt (w : World) (f : Nat → Nat) (B : Nat) (wr : World) : Prop where
 one : Cells8 wr w.heap.size f
 two : Cells8 wr (w.heap.size + 1) (word B)
 res:Cells8 wr (w.heap.size+1+1) (fun _=>0)
 below : Below w.heap.size w wr
theorem TwoAt.start (w:World) (A B:Nat):TwoAt w (word A) B (((w.alloc (.cells (cellsF (word A)) 61)).alloc (.cells (cellsF (word B)) 61)).alloc (.cells #[.int .u64 0,.int .u64 0,.int .u64 0,.int .u64 0,.int .u64 0,.int .u64 0,.int .u64 0,.int .u64 0] 61)):=by
 refine ⟨((Cells8.last w _).alloc _).alloc _,?_,?_,(((Below.refl _ _).alloc (Nat.le_refl _) _).alloc (by simp) _).alloc (by simp;omega) _⟩
 ·have:=(Cells8.last (w.alloc (.cells (cellsF (word A)) 61)) (word B)).alloc (.cells #[.int .u64 0,.int .u64 0,.int .u64 0,.int .u64 0,.int .u64 0,.int .u64 0,.int .u64 0,.int .u64 0] 61)
  simpa using this
 ·have:=Cells8.last ((w.alloc (.cells (cellsF (word A)) 61)).alloc (.cells (cellsF (word B)) 61)) (fun _=>0)
  have e:(cellsF fun _=>0)=#[.int .u64 0,.int .u64 0,.int .u64 0,.int .u64 0,.int .u64 0,.int .u64 0,.int .u64 0,.int .u64 0]:=rfl
  rw [e] at this
  simpa using this
theorem TwoAt.put {w wr:World} {B k x:Nat} {f:Nat→Nat} (h:TwoAt w f B wr) (hk:k<8):TwoAt w (fun j=>if j=k then x else f j) B (wr.setCell ⟨w.heap.size,k,none⟩ (.int .u64 (x:Nat))).drew :=
 ⟨(h.one.set x hk).drew,(h.two.other (by omega) _).drew,(h.res.other (by omega) _).drew,(h.below.setCell (p:=⟨w.heap.size,k,none⟩) (Nat.le_refl _) _).drew⟩
theorem TwoAt.congr {w wr:World} {B:Nat} {f g:Nat→Nat} (h:TwoAt w f B wr) (e:∀ k,k<8→f k=g k):TwoAt w g B wr:=⟨h.one.congr e,h.two,h.res,h.below⟩
def orN (A B:Nat):Nat:=A ||| B
def andN (A B:Nat):Nat:=A &&& B
theorem word_union (A B k:Nat):word (orN A B) k=word A k ||| word B k:=by
 apply word_of_bits (Nat.or_lt_two_pow (n:=64) (word_lt A k) (word_lt B k))
 intro j hj
 unfold orN
 rw [Nat.testBit_or,Nat.testBit_or,testBit_word,testBit_word]
 simp [hj]
theorem word_inter (A B k:Nat):word (andN A B) k=word A k &&& word B k:=by
 apply word_of_bits (Nat.lt_of_le_of_lt Nat.and_le_left (word_lt A k))
 intro j hj
 unfold andN
 rw [Nat.testBit_and,Nat.testBit_and,testBit_word,testBit_word]
 simp [hj]
theorem word_minus (A B k:Nat):word (butN A B) k=butN (word A k) (word B k):=by
 apply word_of_bits (but_lt (word_lt A k))
 intro j hj
 rw [testBit_but,testBit_but,testBit_word,testBit_word]
 simp [hj]

set_option maxHeartbeats 4000000 in
set_option maxRecDepth 100000 in
theorem union_any (A B : Nat) (w : World) :
  Calls Tryz.prog 161 #[setV A,setV B] w fun e w'=>e=.returned (setV (orN A B))∧Below w.heap.size w w':=by
 have H0:Hid (TwoAt w (fun k=>word A k) B _):=TwoAt.start w A B
 unfold setV
 go_enter Tryz.func161,Tryz.ntmps161
 go_wp2_with fail
 generalize hW:((w.alloc (.cells (cellsF (word A)) 61)).alloc (.cells (cellsF (word B)) 61)).alloc (.cells #[.int .u64 0,.int .u64 0,.int .u64 0,.int .u64 0,.int .u64 0,.int .u64 0,.int .u64 0,.int .u64 0] 61)=W at H0 ⊢
 clear hW
 go_loopw [6,5] (fun vc _ wr=>∃ c:Nat,vc=.int .i64 c∧c≤8∧TwoAt w (fun k=>if k<c then word (orN A B) k else word A k) B wr) (fun vc _ _=>8 - (intOf vc).toNat)
 case atStart=>exact ⟨0,rfl,by omega,H0.out.congr (fun k _=>by rw [if_neg (by omega)])⟩
 case round =>
  clear H0
  obtain ⟨c,rfl,hc,hat⟩:=hrel
  have HA:Hid _:=hat
  clear hat
  by_cases hlt : c < 8
  ·have hcI:(c:Int)<8:=by omega
   have ca:=HA.out.one.get hlt
   have fa:=HA.out.one.frozen c
   have cb:=HA.out.two.get hlt
   simp only [Nat.lt_irrefl,if_false] at ca
   go_wp2_with fail
   go_region
   rw [bits_or_u64_nat _ _ (word_lt A c) (word_lt B c)]
   generalize hW1:(wr.setCell ⟨w.heap.size,c,none⟩ _).drew=W1
   have H1:Hid (TwoAt w (fun k=>if k<c+1 then word (orN A B) k else word A k) B W1):=by
    show TwoAt _ _ _ _
    rw [← hW1]
    refine (HA.out.put hlt).congr ?_
    intro k hk
    by_cases k1 : k = c
    ·rw [if_pos k1,if_pos (by omega),k1,word_union]
    ·rw [if_neg k1]
     by_cases k2 : k < c
     ·rw [if_pos k2,if_pos (by omega)]
     ·rw [if_neg k2,if_neg (by omega)]
   clear hW1 ca fa cb HA
   go_wp2_with fail
   go_roundw
   case rel=>exact ⟨c+1,by go_num,by omega,H1.out⟩
   case measure=>simp [intOf];omega
  ·have hcI:¬ (c:Int)<8:=by omega
   obtain ⟨d0,d1,d2,d3,d4,d5,d6,d7⟩:=(HA.out.res).gets
   have f0:=(HA.out.res).frozen 0
   have f1:=(HA.out.res).frozen 1
   have f2:=(HA.out.res).frozen 2
   have f3:=(HA.out.res).frozen 3
   have f4:=(HA.out.res).frozen 4
   have f5:=(HA.out.res).frozen 5
   have f6:=(HA.out.res).frozen 6
   have f7:=(HA.out.res).frozen 7
   obtain ⟨c0,c1,c2,c3,c4,c5,c6,c7⟩:=(HA.out.one.congr (g:=word (orN A B)) (fun k hk=>by rw [if_pos (by omega)])).gets
   go_wp2_with fail
   obtain ⟨h8,hB⟩:=st8 HA.out.res HA.out.below (by omega) (word (orN A B)) rfl rfl rfl rfl rfl rfl rfl rfl
   exact bodyPost_ret (results_set rfl rfl h8) rfl ⟨rfl,hB⟩

set_option maxHeartbeats 4000000 in
set_option maxRecDepth 100000 in
theorem inter_any (A B : Nat) (w : World) :
  Calls Tryz.prog 162 #[setV A,setV B] w fun e w'=>e=.returned (setV (andN A B))∧Below w.heap.size w w':=by
 have H0:Hid (TwoAt w (fun k=>word A k) B _):=TwoAt.start w A B
 unfold setV
 go_enter Tryz.func162,Tryz.ntmps162
 go_wp2_with fail
 generalize hW:((w.alloc (.cells (cellsF (word A)) 61)).alloc (.cells (cellsF (word B)) 61)).alloc (.cells #[.int .u64 0,.int .u64 0,.int .u64 0,.int .u64 0,.int .u64 0,.int .u64 0,.int .u64 0,.int .u64 0] 61)=W at H0 ⊢
 clear hW
 go_loopw [6,5] (fun vc _ wr=>∃ c:Nat,vc=.int .i64 c∧c≤8∧TwoAt w (fun k=>if k<c then word (andN A B) k else word A k) B wr) (fun vc _ _=>8 - (intOf vc).toNat)
 case atStart=>exact ⟨0,rfl,by omega,H0.out.congr (fun k _=>by rw [if_neg (by omega)])⟩
 case round =>
  clear H0
  obtain ⟨c,rfl,hc,hat⟩:=hrel
  have HA:Hid _:=hat
  clear hat
  by_cases hlt : c < 8
  ·have hcI:(c:Int)<8:=by omega
   have ca:=HA.out.one.get hlt
   have fa:=HA.out.one.frozen c
   have cb:=HA.out.two.get hlt
   simp only [Nat.lt_irrefl,if_false] at ca
   go_wp2_with fail
   go_region
   rw [bits_and_u64_nat _ _ (word_lt A c) (word_lt B c)]
   generalize hW1:(wr.setCell ⟨w.heap.size,c,none⟩ _).drew=W1
   have H1:Hid (TwoAt w (fun k=>if k<c+1 then word (andN A B) k else word A k) B W1):=by
    show TwoAt _ _ _ _
    rw [← hW1]
    refine (HA.out.put hlt).congr ?_
    intro k hk
    by_cases k1 : k = c
    ·rw [if_pos k1,if_pos (by omega),k1,word_inter]
    ·rw [if_neg k1]
     by_cases k2 : k < c
     ·rw [if_pos k2,if_pos (by omega)]
     ·rw [if_neg k2,if_neg (by omega)]
   clear hW1 ca fa cb HA
   go_wp2_with fail
   go_roundw
   case rel=>exact ⟨c+1,by go_num,by omega,H1.out⟩
   case measure=>simp [intOf];omega
  ·have hcI:¬ (c:Int)<8:=by omega
   obtain ⟨d0,d1,d2,d3,d4,d5,d6,d7⟩:=(HA.out.res).gets
   have f0:=(HA.out.res).frozen 0
   have f1:=(HA.out.res).frozen 1
   have f2:=(HA.out.res).frozen 2
   have f3:=(HA.out.res).frozen 3
   have f4:=(HA.out.res).frozen 4
   have f5:=(HA.out.res).frozen 5
   have f6:=(HA.out.res).frozen 6
   have f7:=(HA.out.res).frozen 7
   obtain ⟨c0,c1,c2,c3,c4,c5,c6,c7⟩:=(HA.out.one.congr (g:=word (andN A B)) (fun k hk=>by rw [if_pos (by omega)])).gets
   go_wp2_with fail
   obtain ⟨h8,hB⟩:=st8 HA.out.res HA.out.below (by omega) (word (andN A B)) rfl rfl rfl rfl rfl rfl rfl rfl
   exact bodyPost_ret (results_set rfl rfl h8) rfl ⟨rfl,hB⟩

set_option maxHeartbeats 4000000 in
set_option maxRecDepth 100000 in
theorem minus_any (A B : Nat) (w : World) :
  Calls Tryz.prog 164 #[setV A,setV B] w fun e w'=>e=.returned (setV (butN A B))∧Below w.heap.size w w':=by
 have H0:Hid (TwoAt w (fun k=>word A k) B _):=TwoAt.start w A B
 unfold setV
 go_enter Tryz.func164,Tryz.ntmps164
 go_wp2_with fail
 generalize hW:((w.alloc (.cells (cellsF (word A)) 61)).alloc (.cells (cellsF (word B)) 61)).alloc (.cells #[.int .u64 0,.int .u64 0,.int .u64 0,.int .u64 0,.int .u64 0,.int .u64 0,.int .u64 0,.int .u64 0] 61)=W at H0 ⊢
 clear hW
 go_loopw [6,5] (fun vc _ wr=>∃ c:Nat,vc=.int .i64 c∧c≤8∧TwoAt w (fun k=>if k<c then word (butN A B) k else word A k) B wr) (fun vc _ _=>8 - (intOf vc).toNat)
 case atStart=>exact ⟨0,rfl,by omega,H0.out.congr (fun k _=>by rw [if_neg (by omega)])⟩
 case round =>
  clear H0
  obtain ⟨c,rfl,hc,hat⟩:=hrel
  have HA:Hid _:=hat
  clear hat
  by_cases hlt : c < 8
  ·have hcI:(c:Int)<8:=by omega
   have ca:=HA.out.one.get hlt
   have fa:=HA.out.one.frozen c
   have cb:=HA.out.two.get hlt
   simp only [Nat.lt_irrefl,if_false] at ca
   go_wp2_with fail
   go_region
   rw [bits_andNot_u64_nat _ _ (word_lt A c) (word_lt B c)]
   generalize hW1:(wr.setCell ⟨w.heap.size,c,none⟩ _).drew=W1
   have H1:Hid (TwoAt w (fun k=>if k<c+1 then word (butN A B) k else word A k) B W1):=by
    show TwoAt _ _ _ _
    rw [← hW1]
    refine (HA.out.put hlt).congr ?_
    intro k hk
    by_cases k1 : k = c
    ·rw [if_pos k1,if_pos (by omega),k1,word_minus]
    ·rw [if_neg k1]
     by_cases k2 : k < c
     ·rw [if_pos k2,if_pos (by omega)]
     ·rw [if_neg k2,if_neg (by omega)]
   clear hW1 ca fa cb HA
   go_wp2_with fail
   go_roundw
   case rel=>exact ⟨c+1,by go_num,by omega,H1.out⟩
   case measure=>simp [intOf];omega
  ·have hcI:¬ (c:Int)<8:=by omega
   obtain ⟨d0,d1,d2,d3,d4,d5,d6,d7⟩:=(HA.out.res).gets
   have f0:=(HA.out.res).frozen 0
   have f1:=(HA.out.res).frozen 1
   have f2:=(HA.out.res).frozen 2
   have f3:=(HA.out.res).frozen 3
   have f4:=(HA.out.res).frozen 4
   have f5:=(HA.out.res).frozen 5
   have f6:=(HA.out.res).frozen 6
   have f7:=(HA.out.res).frozen 7
   obtain ⟨c0,c1,c2,c3,c4,c5,c6,c7⟩:=(HA.out.one.congr (g:=word (butN A B)) (fun k hk=>by rw [if_pos (by omega)])).gets
   go_wp2_with fail
   obtain ⟨h8,hB⟩:=st8 HA.out.res HA.out.below (by omega) (word (butN A B)) rfl rfl rfl rfl rfl rfl rfl rfl
   exact bodyPost_ret (results_set rfl rfl h8) rfl ⟨rfl,hB⟩

end Go.Proofs.YtfdhaknecjcjoaaGreatDoor

namespace Go.Proofs.YtfdhaknecjcjoaaGreatDoor
open Go.RowKit

/-- All numbers below n. -/
def allN (n:Nat):Nat:=2 ^ n - 1
theorem testBit_all (n i:Nat):(allN n).testBit i=decide (i<n):=Nat.testBit_two_pow_sub_one n i
def belowN (n:Int):Nat:=if n<0∨512<n then 0 else allN n.toNat
def belowE (n:Int):Int:=if n<0∨512<n then 11 else 0
theorem word_all (n k:Nat):word (allN n) k=2 ^ (min ((n:Int) - (k:Int) * 64).toNat 64) - 1:=by
 apply word_of_bits (ones_lt (by omega))
 intro j hj
 rw [testBit_all,Nat.testBit_two_pow_sub_one,decide_eq_decide]
 omega
/-- What stands in the loop of Below. -/
structure BeAt (w : World) (f : Nat → Nat) (wr : World) : Prop where
 res:Cells8 wr w.heap.size (fun _=>0)
 out : Cells8 wr (w.heap.size + 1) f
 below : Below w.heap.size w wr
theorem BeAt.start (w:World):BeAt w (fun _=>0) ((w.alloc (.cells #[.int .u64 0,.int .u64 0,.int .u64 0,.int .u64 0,.int .u64 0,.int .u64 0,.int .u64 0,.int .u64 0] 61)).alloc (.cells #[.int .u64 0,.int .u64 0,.int .u64 0,.int .u64 0,.int .u64 0,.int .u64 0,.int .u64 0,.int .u64 0] 61)):=by
 have e:(cellsF fun _=>0)=#[.int .u64 0,.int .u64 0,.int .u64 0,.int .u64 0,.int .u64 0,.int .u64 0,.int .u64 0,.int .u64 0]:=rfl
 rw [← e]
 refine ⟨(Cells8.last w _).alloc _,?_,((Below.refl _ _).alloc (Nat.le_refl _) _).alloc (by simp) _⟩
 have:=Cells8.last (w.alloc (.cells (cellsF fun _=>0) 61)) (fun _=>0)
 simpa using this
theorem BeAt.put {w wr:World} {k x:Nat} {f:Nat→Nat} (h:BeAt w f wr) (hk:k<8):BeAt w (fun j=>if j=k then x else f j) (wr.setCell ⟨w.heap.size+1,k,none⟩ (.int .u64 (x:Nat))) :=
 ⟨h.res.other (by omega) _,h.out.set x hk,h.below.setCell (p:=⟨w.heap.size+1,k,none⟩) (by simp) _⟩
theorem BeAt.congr {w wr:World} {f g:Nat→Nat} (h:BeAt w f wr) (e:∀ k,k<8→f k=g k):BeAt w g wr:=⟨h.res,h.out.congr e,h.below⟩
set_option maxHeartbeats 4000000 in
set_option maxRecDepth 100000 in
theorem below_any (n : Int) (w : World) :
  Calls Tryz.prog 165 #[.int .i64 n] w fun e w'=>e=.returned (.tuple #[setV (belowN n),.int .i64 (belowE n)])∧Below w.heap.size w w':=by
 by_cases hbad : n < 0 ∨ 512 < n
 ·have HE:Hid (belowN n=0∧belowE n=11):=⟨by rw [belowN,if_pos hbad],by rw [belowE,if_pos hbad]⟩
  have H8:Hid (Cells8 (w.alloc (.cells #[.int .u64 0,.int .u64 0,.int .u64 0,.int .u64 0,.int .u64 0,.int .u64 0,.int .u64 0,.int .u64 0] 61)) w.heap.size (fun _=>0)):=Cells8.last w (fun _=>0)
  by_cases h0 : n < 0
  all_goals
   first
    | (have h5:512<n:=by omega)
    | skip
   clear hbad
   go_enter Tryz.func165,Tryz.ntmps165
   go_wp2_with fail
   refine bodyPost_ret (results_set_tmp rfl rfl H8.out) rfl ⟨?_,(Below.refl _ _).alloc (Nat.le_refl _) _⟩
   rw [HE.out.1,HE.out.2]
   exact ret_set (fun k _=>by simp [word])
 ·obtain ⟨m,rfl⟩:∃ m:Nat,n=m:=⟨n.toNat,by omega⟩
  have h0:¬ (m:Int)<0:=by omega
  have h5:¬ (512:Int)<m:=by omega
  have h5N:m≤512:=by omega
  have HE:Hid (belowN m=allN m∧belowE m=0):=⟨by rw [belowN,if_neg hbad,Int.toNat_natCast],by rw [belowE,if_neg hbad]⟩
  have H0:Hid _:=BeAt.start w
  clear hbad
  go_enter Tryz.func165,Tryz.ntmps165
  go_wp2_with fail
  generalize hW:(w.alloc (.cells #[.int .u64 0,.int .u64 0,.int .u64 0,.int .u64 0,.int .u64 0,.int .u64 0,.int .u64 0,.int .u64 0] 61)).alloc (.cells #[.int .u64 0,.int .u64 0,.int .u64 0,.int .u64 0,.int .u64 0,.int .u64 0,.int .u64 0,.int .u64 0] 61)=W at H0 ⊢
  clear hW
  go_loopw [13,5] (fun vc _ wr=>∃ c:Nat,vc=.int .i64 c∧c≤8∧BeAt w (fun k=>if k<c then word (allN m) k else 0) wr) (fun vc _ _=>8 - (intOf vc).toNat)
  case atStart=>exact ⟨0,rfl,by omega,H0.out.congr (fun k _=>by rw [if_neg (by omega)])⟩
  case round =>
   clear H0
   obtain ⟨c,rfl,hc,hat⟩:=hrel
   have HA:Hid _:=hat
   clear hat
   by_cases hlt : c < 8
   ·have hcI:(c:Int)<8:=by omega
    have co:=HA.out.out.get hlt
    have fo:=HA.out.out.frozen c
    have HX:Hid (((2 ^ (min ((m:Int) - (c:Int) * 64).toNat 64) - 1:Nat):Int)=(word (allN m) c:Nat)):=by
     show _ = _
     rw [word_all]
    go_wp2_with (go_at_call 169;refine (lowOnes_any _ (by omega) _).mono ?_;rintro e w1 ⟨rfl,rfl⟩;rw [HX.out])
    go_roundw
    case rel=>exact ⟨c+1,by go_num,by omega,(HA.out.put hlt).congr (fun k hk=>by
     by_cases k1 : k = c
     ·rw [if_pos k1,if_pos (by omega),k1]
     ·rw [if_neg k1]
      by_cases k2 : k < c
      ·rw [if_pos k2,if_pos (by omega)]
      ·rw [if_neg k2,if_neg (by omega)])⟩
    case measure=>simp [intOf];omega
   ·have hcI:¬ (c:Int)<8:=by omega
    obtain ⟨d0,d1,d2,d3,d4,d5,d6,d7⟩:=(HA.out.res).gets
    have f0:=(HA.out.res).frozen 0
    have f1:=(HA.out.res).frozen 1
    have f2:=(HA.out.res).frozen 2
    have f3:=(HA.out.res).frozen 3
    have f4:=(HA.out.res).frozen 4
    have f5:=(HA.out.res).frozen 5
    have f6:=(HA.out.res).frozen 6
    have f7:=(HA.out.res).frozen 7
    obtain ⟨c0,c1,c2,c3,c4,c5,c6,c7⟩:=(HA.out.out.congr (g:=word (allN m)) (fun k hk=>by rw [if_pos (by omega)])).gets
    go_wp2_with fail
    obtain ⟨h8,hB⟩:=st8 HA.out.res HA.out.below (Nat.le_refl _) (word (allN m)) rfl rfl rfl rfl rfl rfl rfl rfl
    refine bodyPost_ret (results_set_tmp rfl rfl h8) rfl ⟨?_,hB⟩
    rw [HE.out.1,HE.out.2]
    rfl

end Go.Proofs.YtfdhaknecjcjoaaGreatDoor
