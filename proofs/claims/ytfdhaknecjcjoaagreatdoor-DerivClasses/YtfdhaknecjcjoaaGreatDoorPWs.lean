/- Rows that are written in place: many cells at once; clear of a slice. -/
import Derived.Test.YtfdhaknecjcjoaaGreatDoorPNa
import Derived.Laws.IdiomCopy
import Derived.Lib.SliceRun
namespace Go.Proofs.YtfdhaknecjcjoaaGreatDoor
open Go Go.RowKit
set_option linter.unusedVariables false

def setL : Array Value → Nat → List Value → Array Value
 | arr,_,[]=>arr
 | arr,o,v :: r=>setL (arr.setIfInBounds o v) (o+1) r
theorem setL_size:∀ (vs:List Value) (arr:Array Value) (o:Nat),(setL arr o vs).size=arr.size
 | [],_,_=>rfl
 | v :: r,arr,o=>by rw [setL,setL_size r];simp
theorem setL_get:∀ (vs:List Value) (arr:Array Value) (o j:Nat),o+vs.length≤arr.size→(setL arr o vs)[j]?=if o≤j∧j<o+vs.length then vs[j - o]? else arr[j]?
 | [],arr,o,j,h=>by rw [setL,if_neg (by simp)]
 | v :: r,arr,o,j,h=>by
  simp only [List.length_cons] at h
  rw [setL,setL_get r _ _ j (by simp;omega)]
  by_cases h1:o+1≤j∧j<o+1+r.length
  ·rw [if_pos h1,if_pos (by simp only [List.length_cons];omega),show j - o=(j - (o+1))+1 by omega,List.getElem?_cons_succ]
  ·rw [if_neg h1,Array.getElem?_setIfInBounds]
   by_cases h2 : o = j
   ·subst h2
    rw [if_pos rfl,if_pos (by omega),if_pos (by simp only [List.length_cons];omega),Nat.sub_self]
    rfl
   ·rw [if_neg h2,if_neg (by simp only [List.length_cons];omega)]
theorem setCells_blk:∀ (vs:List Value) (w:World) (b o:Nat) (arr:Array Value) (t:TypeId),w.heap[b]?=some (.cells arr t (0,0))→(w.setCells b o vs).heap[b]?=some (.cells (setL arr o vs) t (0,0))
 | [],w,b,o,arr,t,h=>h
 | v :: r,w,b,o,arr,t,h=>by
  rw [World.setCells,setL]
  exact setCells_blk r _ b (o + 1) _ t (heap_setCell_eq w b o v arr t h)
theorem setCells_other:∀ (vs:List Value) (w:World) (b o j:Nat),j≠b→(w.setCells b o vs).heap[j]?=w.heap[j]?
 | [],w,b,o,j,h=>rfl
 | v :: r,w,b,o,j,h=>by
  rw [World.setCells,setCells_other r _ b (o+1) j h]
  exact Below.heap_setCell _ _ _ _ h
theorem setCells_rest:∀ (vs:List Value) (w:World) (b o:Nat),(w.setCells b o vs).os=w.os∧(w.setCells b o vs).tape=w.tape∧(w.setCells b o vs).output=w.output∧(w.setCells b o vs).heap.size=w.heap.size
 | [],w,b,o=>⟨rfl,rfl,rfl,rfl⟩
 | v :: r,w,b,o=>by
  rw [World.setCells]
  obtain ⟨h1,h2,h3,h4⟩:=setCells_rest r (w.setCell ⟨b,o,none⟩ v) b (o+1)
  have hb:Below 0 w (w.setCell ⟨b,o,none⟩ v):=(Below.refl _ _).setCell (p:=⟨b,o,none⟩) (Nat.zero_le _) _
  exact ⟨h1.trans hb.os,h2.trans hb.tape,h3.trans hb.output,by rw [h4];simp⟩
theorem setCells_grown (vs:List Value) (w:World) (b o:Nat):w.grownBy (w.setCells b o vs) (some b):=by
 obtain ⟨h1,h2,h3,h4⟩:=setCells_rest vs w b o
 exact ⟨h1,h2,h3,by omega,fun k hk hne=>setCells_other vs w b o k (fun e=>hne (by rw [e]))⟩
theorem grown_trans {a b c : World} {r : Option Nat} (h : a.grownBy b r) (k : b.grownBy c r) : a.grownBy c r :=
 ⟨k.os.trans h.os,k.tape.trans h.tape,k.output.trans h.output,Nat.le_trans h.size k.size,fun j hj hne=>(k.block j (Nat.lt_of_lt_of_le hj h.size) hne).trans (h.block j hj hne)⟩
theorem run_clear_any {P:Program} (w:World) (t e ty:TypeId) (z:Value) (ht:P.underlying t=some (.slice e)) (hv:∀ w,(zeroValue e).run P w=.ok z w) (b o n c:Nat) (hn:0<n) (zs:List Value) (hz:(Builtin.zeroCells z.cells n).toList=zs) (h1:∀ u ∈ zs,u.oneCell'=true)
  (hc:∀ j,j<zs.length→(w.cell? ⟨b,o+j,none⟩).isSome=true) (hf:∀ j,j<zs.length→w.frozen? ⟨b,o+j,none⟩=false) :
  (Builtin.clear_ #[t] ty #[.slice (some ⟨b,o,none⟩) n c]).run P w=.ok (.tuple #[]) (w.setCells b o zs):=by
 have hst:=run_storeCells_cells (P:=P) b o zs 0 w (by simpa using hc) (by simpa using hf) h1
 simp only [Nat.add_zero] at hst
 obtain ⟨m,rfl⟩:∃ m,n=m+1:=⟨n - 1,by omega⟩
 simp [Builtin.clear_,run_underlying ht,hv,hz,hst]

end Go.Proofs.YtfdhaknecjcjoaaGreatDoor
