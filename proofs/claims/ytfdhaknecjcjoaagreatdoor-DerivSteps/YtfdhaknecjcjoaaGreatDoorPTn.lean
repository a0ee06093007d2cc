/- A list of nodes among a law's arguments: opened. -/
import Derived.Test.YtfdhaknecjcjoaaGreatDoorPA
import Derived.ProofKit
import Derived.OpenShut
import Derived.ShutString
import Derived.ChangeOld
import Derived.JoinedCond
import Derived.SizedLaws
import Derived.Carry
import Derived.Deep.SlicePairs
namespace Go.Proofs.YtfdhaknecjcjoaaGreatDoor
open Go.ChangeShapes Go.WideShapes Go.ChangeAt Go.RowKit

theorem Tryz.cells_int1:Tryz.prog.cellsOf 3=1:=by kernel_rfl
theorem Tryz.cells_u81:Tryz.prog.cellsOf 5=1:=by kernel_rfl
theorem Tryz.cells_node:Tryz.prog.cellsOf 51=2:=by kernel_rfl
theorem Tryz.bytes_node:Tryz.prog.bytesOf 51=16:=by kernel_rfl
theorem Tryz.laidOut:laidOutB Tryz.prog=true:=by kernel_rfl
set_option maxRecDepth 100000 in
theorem open_nodes {H : Type} {enc : TypeId × Value → H} {w : World} {base : Nat} {spare : Nat → Bool} {held : Bool} {r : Reach} {b0 : Nat} {v : Value} {d : DataW H} {ps : List MemPlace} (hval : Value.okWide Tryz.prog w r b0 22 v) (hd : DataW.Trod enc Tryz.prog w base spare held 22 v d ps) :
  ∃ ts:List Nd,NReads w v ts∧((∀ c,v=.slice none 0 c→c=0)∧∀ a n c,v=.slice a n c→n≤c)∧((d=.nil∧ts=[])∨∃ e s,d=.slice e s∧ts.length≤e.length+s.length):=by
 obtain ⟨a,len,cap,rfl⟩:=okWide_slice Tryz.underlying22 hval
 obtain ⟨fuel,hf⟩:=hd
 rcases Go.Deep.open_slice_pairs Tryz.underlying22 Tryz.underlying51 Tryz.cells_node rfl rfl Tryz.cells_int1 Tryz.cells_u81 hf with ⟨hcs,hx⟩ | ⟨a',len',cap',m,n,V0,V1,D0,D1,P0,P1,hcs,_,hl,_,hmm,hx,hcells⟩
 ·simp [Value.cells] at hcs
  obtain ⟨rfl,rfl,rfl⟩:=hcs
  simp only [Prod.mk.injEq] at hx
  exact ⟨[],⟨none,0,rfl,fun i hi=>by simp at hi⟩,⟨fun c h=>by simpa using h.symm,fun a n c h=>by cases h;exact Nat.le_refl _⟩,.inl ⟨hx.1,rfl⟩⟩
 ·simp [Value.cells] at hcs
  obtain ⟨rfl,rfl,rfl⟩:=hcs
  simp only [Prod.mk.injEq] at hx
  have hle:len≤m:=by
   rw [hmm]
   split <;> omega
  have hll:((List.range len).map fun i=>((intOf (V0 i),intOf (V1 i)):Nd)).length=len:=by simp
  refine ⟨(List.range len).map fun i=>(intOf (V0 i),intOf (V1 i)),⟨some a',cap,by rw [hll],fun i hi=>?_⟩,⟨fun c h=>by simp at h,fun a n c h=>by cases h;exact hl⟩,.inr ⟨_,_,hx.1,by simp⟩⟩
  rw [hll] at hi
  obtain ⟨h1,h2,h3,h4⟩:=hcells i (by omega)
  obtain ⟨k,ek,_,_⟩:=DataW.trod_int Tryz.underlying3 h3
  obtain ⟨s,es,_,_⟩:=DataW.trod_int Tryz.underlying5 h4
  simp at ek es
  obtain ⟨b,off,spot⟩:=a'
  have h0:=(hcells 0 (by omega)).1
  have hspot:spot=none:=by simpa [Addr.add] using World.cell?_spot h0
  subst hspot
  rw [Addr.add_lit] at h1 h2
  have eg:(((List.range len).map fun i=>((intOf (V0 i),intOf (V1 i)):Nd)).getD i (0,0))=(intOf (V0 i),intOf (V1 i)):=by simp [hi]
  rw [eg]
  refine ⟨b,off,rfl,World.block_lt_of_cell? w _ h1,?_,?_⟩
  ·rw [h1,ek];rfl
  ·rw [Nat.add_assoc,h2,es];rfl

end Go.Proofs.YtfdhaknecjcjoaaGreatDoor
