/- Contract of the laws' ApartNodes at lists each in memory of its own: it answers true; nothing below the lists' own blocks is written. -/
import Derived.Test.YtfdhaknecjcjoaaGreatDoorPNa
namespace Go.Proofs.YtfdhaknecjcjoaaGreatDoor
open Go.RowKit

/-- What stands when the first i lists are marked. -/
structure Marked (N B G : Nat) (a : Nat → Option Addr) (n c : Nat → Nat) (X : Nat → List Nd) (w wr : World) (i : Nat) : Prop where
 list:wr.heap[G]?=some (.cells ((List.range N).map (vv a n c)).toArray 22 (0,0))
 rows:∀ j,j<N→wr.ownsRow B 51 2 (vv a n c j) (n j) (ndC (if j<i then List.replicate (n j) (mark (1000+j)) else X j))
 below : Below B w wr
/-- What stands when k numbers of list i are marked. -/
structure Marking (B : Nat) (V : Value) (n i : Nat) (X : List Nd) (w W0 wr : World) (k : Nat) : Prop where
 others:∀ b,V.ownBlock≠some b→wr.heap[b]?=W0.heap[b]?
 row : wr.ownsRow B 51 2 V n (ndC (markTo (1000 + i) X k))
 below : Below B w wr
theorem addr_at (g j:Nat):(⟨g,0,none⟩:Addr).add j=⟨g,j,none⟩:=by
 cases j with
 | zero=>simp [Addr.add]
 | succ j=>simp [Addr.add]
theorem cell_two_new (w:World) (a b:Value) (t:TypeId):∀ j u,[a,b][j]?=some u→(w.alloc (.cells #[a,b] t)).cell? ((⟨w.heap.size,0,none⟩:Addr).add j)=some u:=by
 intro j u hu
 rw [addr_at,(RowAt.last w #[a,b] t).cell]
 simpa using hu
theorem ndC_at (l:List Nd) (k:Nat) (h:k<l.length) (x:Nd) (hx:l.getD k (0,0)=x):(ndC l)[k * 2]?=some (.int .i64 x.1)∧(ndC l)[k * 2+1]?=some (.int .u8 x.2):=by
 subst hx;exact ⟨ndC_fst l k h,ndC_snd l k h⟩
end Go.Proofs.YtfdhaknecjcjoaaGreatDoor
