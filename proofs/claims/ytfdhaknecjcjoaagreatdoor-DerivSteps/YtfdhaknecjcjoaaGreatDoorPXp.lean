/- The table of rules; the normal form of a tree of any size. -/
import Derived.Test.YtfdhaknecjcjoaaGreatDoorPXo
namespace Go.Proofs.YtfdhaknecjcjoaaGreatDoor
open Go Go.RowKit
set_option linter.unusedVariables false

set_option maxHeartbeats 4000000 in
set_option maxRecDepth 100000 in
theorem settles_nil (B : Nat) (fv : Value) (w : World) :
  Calls Tryz.prog 54 #[.agg #[.slice none 0 0,.slice none 0 0,fv],.pointer (some ⟨B,0,none⟩)] w fun en w'=>en=.returned (.bool false)∧Below w.heap.size w w':=by
 have HB0:Hid (Below w.heap.size w (w.alloc (.cells #[.slice none 0 0,.slice none 0 0,fv] 96))):=(Below.refl _ _).alloc (Nat.le_refl _) _
 go_enter Tryz.func54,Tryz.ntmps54
 go_wp2_with fail
 go_ret
 exact ⟨rfl,HB0.out⟩

theorem Tryz.info_rules:(Tryz.prog.info? 97).map (·.size)=some 30:=by kernel_rfl
/-- The rows that the table's lists stand in. -/
structure Rls (w : World) (b : Nat) : Prop where
 none:w.heap[b]?=some (.cells #[.int .i64 1,.int .u8 0] 51 (0,0))
 empty:w.heap[b+1]?=some (.cells #[.int .i64 2,.int .u8 0] 51 (0,0))
 all:w.heap[b+2]?=some (.cells #[.int .i64 1,.int .u8 0,.int .i64 9,.int .u8 0] 51 (0,0))
def zero30:Array Value:=#[.slice Option.none 0 0,.slice Option.none 0 0,.nilFunc,.slice Option.none 0 0,.slice Option.none 0 0,.nilFunc,.slice Option.none 0 0,.slice Option.none 0 0,.nilFunc,.slice Option.none 0 0,.slice Option.none 0 0,.nilFunc,.slice Option.none 0 0,.slice Option.none 0 0,.nilFunc,.slice Option.none 0 0,.slice Option.none 0 0,.nilFunc,.slice Option.none 0 0,.slice Option.none 0 0,.nilFunc,.slice Option.none 0 0,.slice Option.none 0 0,.nilFunc,.slice Option.none 0 0,.slice Option.none 0 0,.nilFunc,.slice Option.none 0 0,.slice Option.none 0 0,.nilFunc]
def vNone (b:Nat):Value:=.slice (some ⟨b,0,Option.none⟩) 1 1
def vEmpty (b:Nat):Value:=.slice (some ⟨b+1,0,Option.none⟩) 1 1
def vAll (b:Nat):Value:=.slice (some ⟨b+2,0,Option.none⟩) 2 2
def fnV (n:Nat):Value:=.func (.func n) #[] #[]
/-- The table's cells. -/
def tabC (b:Nat):Array Value:=#[.slice Option.none 0 0,.slice Option.none 0 0,.nilFunc,.slice Option.none 0 0,.slice Option.none 0 0,.nilFunc,.slice Option.none 0 0,.slice Option.none 0 0,.nilFunc,.slice Option.none 0 0,.slice Option.none 0 0,.nilFunc,.slice Option.none 0 0,.slice Option.none 0 0,.nilFunc,
 vNone b,vAll b,fnV 81,vAll b,vNone b,fnV 83,vEmpty b,vNone b,fnV 84,.slice Option.none 0 0,.slice Option.none 0 0,fnV 85,.slice Option.none 0 0,.slice Option.none 0 0,fnV 86]

theorem tabC_one (b:Nat):(tabC b).all (·.oneCell')=true:=by
 simp [tabC,vNone,vAll,vEmpty,fnV,Value.oneCell']

set_option maxHeartbeats 4000000 in
set_option maxRecDepth 100000 in
theorem rules_any (w : World) :
  Calls Tryz.prog 52 #[] w fun en w'=>en=.returned (.agg (tabC (w.heap.size+1)))∧Rls w' (w.heap.size+1)∧Below w.heap.size w w':=by
 have HB:Hid (Below w.heap.size w ((((w.alloc (.cells #[.slice none 0 0,.slice none 0 0,.nilFunc,.slice none 0 0,.slice none 0 0,.nilFunc,.slice none 0 0,.slice none 0 0,.nilFunc,.slice none 0 0,.slice none 0 0,.nilFunc,.slice none 0 0,.slice none 0 0,.nilFunc,.slice none 0 0,.slice none 0 0,.nilFunc,.slice none 0 0,.slice none 0 0,.nilFunc,.slice none 0 0,.slice none 0 0,.nilFunc,.slice none 0 0,.slice none 0 0,.nilFunc,.slice none 0 0,.slice none 0 0,.nilFunc] 97)).alloc (.cells #[.int .i64 1,.int .u8 0] 51)).alloc (.cells #[.int .i64 2,.int .u8 0] 51)).alloc (.cells #[.int .i64 1,.int .u8 0,.int .i64 9,.int .u8 0] 51))):=(((Below.refl _ _).alloc (Nat.le_refl _) _).alloc (by simp) _ |>.alloc (by simp;omega) _).alloc (by simp;omega) _
 have HZ:Hid (((((w.alloc (.cells #[.slice none 0 0,.slice none 0 0,.nilFunc,.slice none 0 0,.slice none 0 0,.nilFunc,.slice none 0 0,.slice none 0 0,.nilFunc,.slice none 0 0,.slice none 0 0,.nilFunc,.slice none 0 0,.slice none 0 0,.nilFunc,.slice none 0 0,.slice none 0 0,.nilFunc,.slice none 0 0,.slice none 0 0,.nilFunc,.slice none 0 0,.slice none 0 0,.nilFunc,.slice none 0 0,.slice none 0 0,.nilFunc,.slice none 0 0,.slice none 0 0,.nilFunc] 97)).alloc (.cells #[.int .i64 1,.int .u8 0] 51)).alloc (.cells #[.int .i64 2,.int .u8 0] 51)).alloc (.cells #[.int .i64 1,.int .u8 0,.int .i64 9,.int .u8 0] 51)).heap[w.heap.size]?=some (.cells #[.slice none 0 0,.slice none 0 0,.nilFunc,.slice none 0 0,.slice none 0 0,.nilFunc,.slice none 0 0,.slice none 0 0,.nilFunc,.slice none 0 0,.slice none 0 0,.nilFunc,.slice none 0 0,.slice none 0 0,.nilFunc,.slice none 0 0,.slice none 0 0,.nilFunc,.slice none 0 0,.slice none 0 0,.nilFunc,.slice none 0 0,.slice none 0 0,.nilFunc,.slice none 0 0,.slice none 0 0,.nilFunc,.slice none 0 0,.slice none 0 0,.nilFunc] 97 (0,0))):=by
  show _ = _
  rw [heap_alloc_old (h:=by simp;omega),heap_alloc_old (h:=by simp;omega),heap_alloc_old (h:=by simp),heap_alloc_new]
 have HR:Hid (Rls ((((w.alloc (.cells #[.slice none 0 0,.slice none 0 0,.nilFunc,.slice none 0 0,.slice none 0 0,.nilFunc,.slice none 0 0,.slice none 0 0,.nilFunc,.slice none 0 0,.slice none 0 0,.nilFunc,.slice none 0 0,.slice none 0 0,.nilFunc,.slice none 0 0,.slice none 0 0,.nilFunc,.slice none 0 0,.slice none 0 0,.nilFunc,.slice none 0 0,.slice none 0 0,.nilFunc,.slice none 0 0,.slice none 0 0,.nilFunc,.slice none 0 0,.slice none 0 0,.nilFunc] 97)).alloc (.cells #[.int .i64 1,.int .u8 0] 51)).alloc (.cells #[.int .i64 2,.int .u8 0] 51)).alloc (.cells #[.int .i64 1,.int .u8 0,.int .i64 9,.int .u8 0] 51)) (w.heap.size+1)):=by
  refine ⟨?_,?_,?_⟩
  ·rw [heap_alloc_old (h:=by simp),heap_alloc_old (h:=by simp)]
   have:=heap_alloc_new (w.alloc (.cells #[.slice none 0 0,.slice none 0 0,.nilFunc,.slice none 0 0,.slice none 0 0,.nilFunc,.slice none 0 0,.slice none 0 0,.nilFunc,.slice none 0 0,.slice none 0 0,.nilFunc,.slice none 0 0,.slice none 0 0,.nilFunc,.slice none 0 0,.slice none 0 0,.nilFunc,.slice none 0 0,.slice none 0 0,.nilFunc,.slice none 0 0,.slice none 0 0,.nilFunc,.slice none 0 0,.slice none 0 0,.nilFunc,.slice none 0 0,.slice none 0 0,.nilFunc] 97)) (.cells #[.int .i64 1,.int .u8 0] 51)
   simpa using this
  ·rw [heap_alloc_old (h:=by simp)]
   have:=heap_alloc_new ((w.alloc (.cells #[.slice none 0 0,.slice none 0 0,.nilFunc,.slice none 0 0,.slice none 0 0,.nilFunc,.slice none 0 0,.slice none 0 0,.nilFunc,.slice none 0 0,.slice none 0 0,.nilFunc,.slice none 0 0,.slice none 0 0,.nilFunc,.slice none 0 0,.slice none 0 0,.nilFunc,.slice none 0 0,.slice none 0 0,.nilFunc,.slice none 0 0,.slice none 0 0,.nilFunc,.slice none 0 0,.slice none 0 0,.nilFunc,.slice none 0 0,.slice none 0 0,.nilFunc] 97)).alloc (.cells #[.int .i64 1,.int .u8 0] 51)) (.cells #[.int .i64 2,.int .u8 0] 51)
   simpa using this
  ·have:=heap_alloc_new (((w.alloc (.cells #[.slice none 0 0,.slice none 0 0,.nilFunc,.slice none 0 0,.slice none 0 0,.nilFunc,.slice none 0 0,.slice none 0 0,.nilFunc,.slice none 0 0,.slice none 0 0,.nilFunc,.slice none 0 0,.slice none 0 0,.nilFunc,.slice none 0 0,.slice none 0 0,.nilFunc,.slice none 0 0,.slice none 0 0,.nilFunc,.slice none 0 0,.slice none 0 0,.nilFunc,.slice none 0 0,.slice none 0 0,.nilFunc,.slice none 0 0,.slice none 0 0,.nilFunc] 97)).alloc (.cells #[.int .i64 1,.int .u8 0] 51)).alloc (.cells #[.int .i64 2,.int .u8 0] 51)) (.cells #[.int .i64 1,.int .u8 0,.int .i64 9,.int .u8 0] 51)
   simpa using this
 go_enter Tryz.func52,Tryz.ntmps52
 go_upto_region 4 with fail
 generalize ((((w.alloc (.cells #[.slice none 0 0,.slice none 0 0,.nilFunc,.slice none 0 0,.slice none 0 0,.nilFunc,.slice none 0 0,.slice none 0 0,.nilFunc,.slice none 0 0,.slice none 0 0,.nilFunc,.slice none 0 0,.slice none 0 0,.nilFunc,.slice none 0 0,.slice none 0 0,.nilFunc,.slice none 0 0,.slice none 0 0,.nilFunc,.slice none 0 0,.slice none 0 0,.nilFunc,.slice none 0 0,.slice none 0 0,.nilFunc,.slice none 0 0,.slice none 0 0,.nilFunc] 97)).alloc (.cells #[.int .i64 1,.int .u8 0] 51)).alloc (.cells #[.int .i64 2,.int .u8 0] 51)).alloc (.cells #[.int .i64 1,.int .u8 0,.int .i64 9,.int .u8 0] 51))=wZ at HB HZ HR ⊢
 apply wp_region_lit
 iterate 12
  refine wpList_plain rfl fun K hK=>?_
  go_simp
  refine hK _ _ ?_
  clear hK K
 refine wpList_store_row rfl 97 _ _ rfl w.heap.size (tabC (w.heap.size + 1)) rfl rfl _ _ HZ.out Tryz.info_rules rfl (tabC_one _) ?_
 have HF:Hid ((wZ.setRow w.heap.size (tabC (w.heap.size+1))).heap[w.heap.size]?=some (.cells (tabC (w.heap.size+1)) 97 (0,0))):=setRow_heap wZ w.heap.size _ _ _ _ HZ.out
 have HB2 : Hid (Below w.heap.size w (wZ.setRow w.heap.size (tabC (w.heap.size + 1)))) :=
  ⟨HB.out.os,HB.out.tape,HB.out.output,by rw [size_setRow];exact HB.out.size,fun j hj=>(setRow_other wZ w.heap.size j _ (by omega)).trans (HB.out.block j hj)⟩
 have HR2 : Hid (Rls (wZ.setRow w.heap.size (tabC (w.heap.size + 1))) (w.heap.size + 1)) :=
  ⟨(setRow_other wZ w.heap.size _ _ (by omega)).trans HR.out.none,(setRow_other wZ w.heap.size _ _ (by omega)).trans HR.out.empty,(setRow_other wZ w.heap.size _ _ (by omega)).trans HR.out.all⟩
 generalize wZ.setRow w.heap.size (tabC (w.heap.size + 1)) = wE at HF HB2 HR2 ⊢
 apply wpList_nil
 go_wp2_with fail
 exact bodyPost_ret (results_cell_row rfl _ wE w.heap.size 97 (tabC (w.heap.size+1)) (0,0) _ rfl HF.out Tryz.underlying97 rfl Tryz.info_rules) rfl ⟨rfl,HR2.out,HB2.out⟩
end Go.Proofs.YtfdhaknecjcjoaaGreatDoor
