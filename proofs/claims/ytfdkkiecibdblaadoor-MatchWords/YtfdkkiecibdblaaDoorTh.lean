/- Contracts of tree.Depth (of a tree), of the law's num, Some and knows: it answers true. -/
import Derived.Test.YtfdkkiecibdblaaDoorTf
import Derived.Test.YtfdkkiecibdblaaDoorTg
import Derived.Deep.RegionHeld3
namespace Go.Proofs.YtfdkkiecibdblaaDoor
open Go.RowKit

set_option maxHeartbeats 1000000 in
theorem depth_any (v : Value) (ts : List Nd) (w : World) (hv : NReads w v ts) (hm : ts.length ≤ 4000) (hP : PTab w) (hok : wrong ts = 0) (hf : freeN ts = some 1) :
    Calls Tryd.prog 44 #[v] w fun e w' => e = .returned (.tuple #[.int .i64 (((heavyN (fun _ => 1) ts).getD 0 0 : Nat) : Int), .int .i64 0]) ∧ Below w.heap.size w w' := by
  have HV : Hid (NReads w v ts) := hv
  have HP : Hid (PTab w) := hP
  have HX : Hid (wrong ts = 0) := hok
  have HF : Hid (freeN ts = some 1) := hf
  clear hv hP hok hf
  go_enter Tryd.func44, Tryd.ntmps44
  go_wp2_with fail
  refine (way_depth v ts w HV.out hm HP.out HX.out HF.out).mono ?_
  rintro e w1 ⟨rfl, hb1⟩
  go_wp2_with fail
  go_ret2
  exact ⟨rfl, hb1⟩

/-- Two blocks hold what they hold; nothing below W's end is written. -/
abbrev M2 (W : World) (p1 p2 : Nat) (l1 l2 : Array Value) (w' : World) : Prop := (∀ o, w'.cell? ⟨p1, o, none⟩ = l1[o]?) ∧ (∀ o, w'.cell? ⟨p2, o, none⟩ = l2[o]?) ∧ Below W.heap.size W w'
theorem m2_of {W : World} {p1 p2 : Nat} {l1 l2 : Array Value} (r1 : RowAt W p1 l1) (r2 : RowAt W p2 l2) {w' : World} (h : Below W.heap.size W w') : M2 W p1 p2 l1 l2 w' := ⟨(r1.stay h).cell, (r2.stay h).cell, h⟩
theorem m2_below {W : World} {p1 p2 : Nat} {l1 l2 : Array Value} {w' : World} (h : M2 W p1 p2 l1 l2 w') : Below W.heap.size W w' := h.2.2
theorem m2_step {W : World} {p1 p2 : Nat} {l1 l2 : Array Value} (r1 : RowAt W p1 l1) (r2 : RowAt W p2 l2) {w1 w2 : World} (hb : Below w1.heap.size w1 w2) (h : M2 W p1 p2 l1 l2 w1) : M2 W p1 p2 l1 l2 w2 := m2_of r1 r2 (go_on h.2.2 hb)
theorem m2_alloc {W : World} {p1 p2 : Nat} {l1 l2 : Array Value} (r1 : RowAt W p1 l1) (r2 : RowAt W p2 l2) {w1 : World} (O : Obj) (h : M2 W p1 p2 l1 l2 w1) : M2 W p1 p2 l1 l2 (w1.alloc O) := m2_step r1 r2 ((Below.refl _ _).alloc (Nat.le_refl _) O) h

end Go.Proofs.YtfdkkiecibdblaaDoor
