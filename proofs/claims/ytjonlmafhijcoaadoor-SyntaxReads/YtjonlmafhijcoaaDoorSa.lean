/- The reader of a text: what stands in its block; contracts of its smallest methods. -/
import Derived.Test.YtjonlmafhijcoaaDoorTb
import Derived.Test.YtjonlmafhijcoaaDoorTd
import Derived.Test.YtjonlmafhijcoaaDoorTx
import Derived.Deep.RegionHeld3
import Derived.Deep.RegionLaw
namespace Go.Proofs.YtjonlmafhijcoaaDoor
open Go Go.RowKit

/-- What waits: a kind, and whether its part stands with a Not. -/
abbrev Wt := Int × Bool
def wtC : List Wt → List Value
  | [] => []
  | p :: l => .int .i64 p.1 :: .bool p.2 :: wtC l
theorem wtC_append (a b : List Wt) : wtC (a ++ b) = wtC a ++ wtC b := by
  induction a with
  | nil => rfl
  | cons p a ih => simp [wtC, ih]
theorem wtC_length (l : List Wt) : (wtC l).length = l.length * 2 := by
  induction l with
  | nil => rfl
  | cons p l ih => simp [wtC, ih]; omega
theorem wtC_at (l : List Wt) (i : Nat) (h : i < l.length) : (wtC l)[i * 2]? = some (.int .i64 (l.getD i (0, false)).1) ∧ (wtC l)[i * 2 + 1]? = some (.bool (l.getD i (0, false)).2) := by
  induction l generalizing i with
  | nil => simp at h
  | cons p l ih =>
    cases i with
    | zero => exact ⟨rfl, rfl⟩
    | succ i =>
      have := ih i (by simpa using h)
      rw [show (i + 1) * 2 = i * 2 + 1 + 1 by omega]
      simp only [wtC, List.getElem?_cons_succ, List.getD_cons_succ]
      exact this
/-- How tightly a kind holds. -/
def tight (k : Int) : Nat := if k = 5 then 1 else if k = 6 then 2 else if k = 7 then 3 else if k = 9 then 4 else if k = 0 then 0 else 5
def TTab (w : World) : Prop := ∀ j : Nat, j < 10 → w.cell? ⟨0, j, none⟩ = some (.int .i64 (tight j : Nat))
theorem TTab.pos {w : World} (h : TTab w) : 0 < w.heap.size := World.block_lt_of_cell? w _ (h 0 (by decide))
theorem TTab.stay {w w' : World} (h : TTab w) (hb : Below w.heap.size w w') : TTab w' := fun j hj => (below_cell hb h.pos).trans (h j hj)
theorem TTab.below {n₀ : Nat} {A B : World} (h : TTab A) (hb : Below n₀ A B) (h0 : 0 < n₀) : TTab B := fun j hj => (below_cell hb h0).trans (h j hj)

variable {tx : ByteArray} {ps : Nat}
/-- The reader in its block B, and behind it the walk over its text: all that it holds was made since. -/
structure RS (tx : ByteArray) (ps : Nat) (w0 w : World) (B : Nat) (k : Int) (due : Bool) (ns : List Nd) (ws : List Wt) (na : Option Addr) (nc : Nat) (wa : Option Addr) (wc : Nat) : Prop where
  blk : w.heap[B]? = some (.cells #[.int .i64 k, .bool due, .slice na ns.length nc, .slice wa ws.length wc] 43 (0, 0))
  nod : w.ownsRow (B + 1) 56 2 (.slice na ns.length nc) ns.length (ndC ns)
  wts : w.ownsRow (B + 1) 80 2 (.slice wa ws.length wc) ws.length (wtC ws)
  below : Below B w0 w
  iter : w.heap[B + 1]? = some (.stringIter tx ps)
def RSt (tx : ByteArray) (ps : Nat) (w0 w : World) (B : Nat) (k : Int) (due : Bool) (ns : List Nd) (ws : List Wt) : Prop := ∃ na nc wa wc, RS tx ps w0 w B k due ns ws na nc wa wc
theorem RS.lt {w0 w : World} {B : Nat} {k : Int} {due : Bool} {ns : List Nd} {ws : List Wt} {na wa : Option Addr} {nc wc : Nat} (h : RS tx ps w0 w B k due ns ws na nc wa wc) : B < w.heap.size := (Array.getElem?_eq_some_iff.1 h.blk).1
theorem RS.cells {w0 w : World} {B : Nat} {k : Int} {due : Bool} {ns : List Nd} {ws : List Wt} {na wa : Option Addr} {nc wc : Nat} (h : RS tx ps w0 w B k due ns ws na nc wa wc) :
    w.cell? ⟨B, 0, none⟩ = some (.int .i64 k) ∧ w.cell? ⟨B, 1, none⟩ = some (.bool due) ∧ w.cell? ⟨B, 2, none⟩ = some (.slice na ns.length nc) ∧ w.cell? ⟨B, 3, none⟩ = some (.slice wa ws.length wc) := by
  have hb := h.blk
  refine ⟨?_, ?_, ?_, ?_⟩ <;> simp [World.cell?, hb]
theorem RS.frozen {w0 w : World} {B : Nat} {k : Int} {due : Bool} {ns : List Nd} {ws : List Wt} {na wa : Option Addr} {nc wc : Nat} (h : RS tx ps w0 w B k due ns ws na nc wa wc) (i : Nat) : w.frozen? ⟨B, i, none⟩ = false := by
  have hb := h.blk
  simp [World.frozen?, hb]
theorem RS.alloc {w0 w : World} {B : Nat} {k : Int} {due : Bool} {ns : List Nd} {ws : List Wt} {na wa : Option Addr} {nc wc : Nat} (h : RS tx ps w0 w B k due ns ws na nc wa wc) (o : Obj) : RS tx ps w0 (w.alloc o) B k due ns ws na nc wa wc :=
  ⟨(Below.heap_alloc _ _ _ h.lt).trans h.blk, h.nod.alloc o, h.wts.alloc o, h.below.alloc (Nat.le_of_lt h.lt) o, (Below.heap_alloc _ _ _ (Array.getElem?_eq_some_iff.1 h.iter).1).trans h.iter⟩
theorem RS.drew {w0 w : World} {B : Nat} {k : Int} {due : Bool} {ns : List Nd} {ws : List Wt} {na wa : Option Addr} {nc wc : Nat} (h : RS tx ps w0 w B k due ns ws na nc wa wc) : RS tx ps w0 w.drew B k due ns ws na nc wa wc :=
  ⟨h.blk, h.nod, h.wts, h.below.drew, h.iter⟩
theorem own_ty {w : World} {base : Nat} {e : TypeId} {size n : Nat} {v : Value} {xs : List Value} (h : w.ownsRow base e size v n xs) (b : Nat) (hb : v.ownBlock = some b) : ∃ cur, w.heap[b]? = some (.cells cur e (0, 0)) := by
  obtain ⟨_, h2⟩ := h
  rcases h2 with ⟨h2, _⟩ | ⟨g, cap, cur, e1, r, r2, r3⟩
  · rw [h2] at hb; simp [Value.ownBlock] at hb
  · rw [e1] at hb; simp only [Value.ownBlock, Option.some.injEq] at hb; subst hb; exact ⟨cur, r2⟩
theorem iter_kept {w w2 : World} {B i base n size : Nat} {e : TypeId} {v u : Value} {xs : List Value} (h : w.heap[B + 1]? = some (.stringIter tx ps)) (ho : w.ownsRow base e size v n xs) (hg : w.grownBy w2 v.ownBlock) : (w2.setCell ⟨B, i, none⟩ u).heap[B + 1]? = some (.stringIter tx ps) := by
  rw [Below.heap_setCell _ _ _ _ (by show B + 1 ≠ B; omega), hg.block (B + 1) (Array.getElem?_eq_some_iff.1 h).1 (fun e => by
    obtain ⟨cur, hc⟩ := own_ty ho (B + 1) e.symm
    rw [h] at hc
    cases hc)]
  exact h
theorem own_set {w : World} {base : Nat} {e : TypeId} {size n : Nat} {v : Value} {xs : List Value} (h : w.ownsRow base e size v n xs) {b i : Nat} (u : Value) (hb : b < base) : (w.setCell ⟨b, i, none⟩ u).ownsRow base e size v n xs := by
  obtain ⟨a, h2⟩ := id h
  refine ⟨a, ?_⟩
  rcases h2 with h2 | ⟨g, cap, cur, e1, r, r2, r3⟩
  · exact .inl h2
  · exact .inr ⟨g, cap, cur, e1, r, (Below.heap_setCell _ _ _ _ (by show g ≠ b; omega)).trans r2, r3⟩
theorem blk_set {w : World} {B i : Nat} {arr : Array Value} {t : TypeId} (h : w.heap[B]? = some (.cells arr t (0, 0))) (u : Value) : (w.setCell ⟨B, i, none⟩ u).heap[B]? = some (.cells (arr.setIfInBounds i u) t (0, 0)) := by
  rw [setCell_eq_setRow w B i _ _ _ u h]
  exact setRow_heap w B _ _ _ _ h
theorem RS.setDue {w0 w : World} {B : Nat} {k : Int} {due : Bool} {ns : List Nd} {ws : List Wt} {na wa : Option Addr} {nc wc : Nat} (h : RS tx ps w0 w B k due ns ws na nc wa wc) (d : Bool) : RS tx ps w0 (w.setCell ⟨B, 1, none⟩ (.bool d)) B k d ns ws na nc wa wc :=
  ⟨blk_set h.blk _, own_set h.nod _ (by omega), own_set h.wts _ (by omega), h.below.setCell (p := ⟨B, 1, none⟩) (Nat.le_refl _) _, (Below.heap_setCell _ _ _ _ (by show B + 1 ≠ B; omega)).trans h.iter⟩
/-- The nodes' row was grown, and the reader tells so. -/
theorem RS.nodes {w0 w w2 : World} {B : Nat} {k : Int} {due : Bool} {ns ns' : List Nd} {ws : List Wt} {na wa na' : Option Addr} {nc wc nc' : Nat} (h : RS tx ps w0 w B k due ns ws na nc wa wc) (hg : w.grownBy w2 (Value.slice na ns.length nc).ownBlock)
    (ho : w2.ownsRow (B + 1) 56 2 (.slice na' ns'.length nc') ns'.length (ndC ns')) : RS tx ps w0 (w2.setCell ⟨B, 2, none⟩ (.slice na' ns'.length nc')) B k due ns' ws na' nc' wa wc := by
  have hB : w2.heap[B]? = some (.cells #[.int .i64 k, .bool due, .slice na ns.length nc, .slice wa ws.length wc] 43 (0, 0)) :=
    (hg.block B h.lt (fun e => by have := (h.nod.lt B e.symm).1; omega)).trans h.blk
  refine ⟨blk_set hB _, own_set ho _ (by omega), own_set ?_ _ (by omega), (h.below.grown hg (Nat.le_of_lt h.lt) (fun k' hk' => by have := (h.nod.lt k' hk').1; omega)).setCell (p := ⟨B, 2, none⟩) (Nat.le_refl _) _, iter_kept h.iter h.nod hg⟩
  refine h.wts.kept hg ?_
  cases hw : (Value.slice wa ws.length wc).ownBlock with
  | none => exact .inl rfl
  | some b =>
    refine .inr fun e => ?_
    obtain ⟨c1, hc1⟩ : ∃ cur, w.heap[b]? = some (.cells cur 80 (0, 0)) := by
      obtain ⟨_, h2⟩ := h.wts
      rcases h2 with ⟨h2, _⟩ | ⟨g, cap, cur, e1, r, r2, r3⟩
      · rw [h2] at hw; simp [Value.ownBlock] at hw
      · rw [e1] at hw; simp only [Value.ownBlock, Option.some.injEq] at hw; subst hw; exact ⟨cur, r2⟩
    obtain ⟨c2, hc2⟩ : ∃ cur, w.heap[b]? = some (.cells cur 56 (0, 0)) := by
      obtain ⟨_, h2⟩ := h.nod
      rcases h2 with ⟨h2, _⟩ | ⟨g, cap, cur, e1, r, r2, r3⟩
      · rw [h2] at e; simp [Value.ownBlock] at e
      · rw [e1] at e; simp only [Value.ownBlock, Option.some.injEq] at e; subst e; exact ⟨cur, r2⟩
    rw [hc1] at hc2
    simp at hc2
theorem RS.waits {w0 w w2 : World} {B : Nat} {k : Int} {due : Bool} {ns : List Nd} {ws ws' : List Wt} {na wa wa' : Option Addr} {nc wc wc' : Nat} (h : RS tx ps w0 w B k due ns ws na nc wa wc) (hg : w.grownBy w2 (Value.slice wa ws.length wc).ownBlock)
    (ho : w2.ownsRow (B + 1) 80 2 (.slice wa' ws'.length wc') ws'.length (wtC ws')) : RS tx ps w0 (w2.setCell ⟨B, 3, none⟩ (.slice wa' ws'.length wc')) B k due ns ws' na nc wa' wc' := by
  have hB : w2.heap[B]? = some (.cells #[.int .i64 k, .bool due, .slice na ns.length nc, .slice wa ws.length wc] 43 (0, 0)) :=
    (hg.block B h.lt (fun e => by have := (h.wts.lt B e.symm).1; omega)).trans h.blk
  refine ⟨blk_set hB _, own_set ?_ _ (by omega), own_set ho _ (by omega), (h.below.grown hg (Nat.le_of_lt h.lt) (fun k' hk' => by have := (h.wts.lt k' hk').1; omega)).setCell (p := ⟨B, 3, none⟩) (Nat.le_refl _) _, iter_kept h.iter h.wts hg⟩
  refine h.nod.kept hg ?_
  cases hw : (Value.slice na ns.length nc).ownBlock with
  | none => exact .inl rfl
  | some b =>
    refine .inr fun e => ?_
    obtain ⟨c1, hc1⟩ : ∃ cur, w.heap[b]? = some (.cells cur 56 (0, 0)) := by
      obtain ⟨_, h2⟩ := h.nod
      rcases h2 with ⟨h2, _⟩ | ⟨g, cap, cur, e1, r, r2, r3⟩
      · rw [h2] at hw; simp [Value.ownBlock] at hw
      · rw [e1] at hw; simp only [Value.ownBlock, Option.some.injEq] at hw; subst hw; exact ⟨cur, r2⟩
    obtain ⟨c2, hc2⟩ : ∃ cur, w.heap[b]? = some (.cells cur 80 (0, 0)) := by
      obtain ⟨_, h2⟩ := h.wts
      rcases h2 with ⟨h2, _⟩ | ⟨g, cap, cur, e1, r, r2, r3⟩
      · rw [h2] at e; simp [Value.ownBlock] at e
      · rw [e1] at e; simp only [Value.ownBlock, Option.some.injEq] at e; subst e; exact ⟨cur, r2⟩
    rw [hc1] at hc2
    simp at hc2
/-- What is neither the reader's block nor a row of nodes stays. -/
def Keeps (w w' : World) (B : Nat) : Prop := ∀ j arr t, w.heap[j]? = some (.cells arr t (0, 0)) → t ≠ 56 → j ≠ B → w'.heap[j]? = some (.cells arr t (0, 0))
theorem Keeps.trans {a b c : World} {B : Nat} (h : Keeps a b B) (h' : Keeps b c B) : Keeps a c B := fun j arr t hj ht hB => h' j arr t (h j arr t hj ht hB) ht hB
theorem keeps_grown {w w2 : World} {B base : Nat} {n : Nat} {v : Value} {xs : List Value} {o : Obj} (ho : w.ownsRow base 56 2 v n xs) (hg : (w.alloc o).grownBy w2 v.ownBlock) (u : Value) (i : Nat) : Keeps w (w2.setCell ⟨B, i, none⟩ u) B := by
  intro j arr t hj ht hB
  have hlt : j < w.heap.size := (Array.getElem?_eq_some_iff.1 hj).1
  rw [Below.heap_setCell _ _ _ _ hB, hg.block j (by simp; omega) (fun e => by
    obtain ⟨cur, hc⟩ := own_ty ho j e.symm
    rw [hj] at hc
    simp only [Option.some.injEq, Obj.cells.injEq] at hc
    exact ht hc.2.1), Below.heap_alloc _ _ _ hlt]
  exact hj
theorem two_new (w : World) (a b : Value) (t : TypeId) : ∀ j u, [a, b][j]? = some u → (w.alloc (.cells #[a, b] t)).cell? ((⟨w.heap.size, 0, none⟩ : Addr).add j) = some u := by
  intro j u hj
  rw [Addr.add_lit, (RowAt.last w #[a, b] t).cell, Nat.zero_add]
  simpa using hj
theorem Tryd.info_wait : (Tryd.prog.info? 80).map (fun i => (i.zero, i.size, i.bytes)) = some (some (.agg #[.int .i64 0, .bool false]), 2, 16) := by kernel_rfl

set_option maxHeartbeats 4000000 in
set_option maxRecDepth 100000 in
theorem put_any (w0 w : World) (B : Nat) (k : Int) (due : Bool) (ns : List Nd) (ws : List Wt) (h : RSt tx ps w0 w B k due ns ws) (hn : ns.length ≤ 100000) (kd : Int) :
    Calls Tryd.prog 45 #[.pointer (some ⟨B, 0, none⟩), .int .i64 kd] w fun e w' => e = .returned (.tuple #[]) ∧ RSt tx ps w0 w' B k due (ns ++ [(kd, 0)]) ws ∧ Keeps w w' B := by
  obtain ⟨na, nc, wa, wc, h⟩ := h
  obtain ⟨i0, hi0, hz0, hz1, hz2⟩ := info_parts Tryd.info_node
  have HR : Hid (RS tx ps w0 w B k due ns ws na nc wa wc) := h
  obtain ⟨c0, c1, c2, c3⟩ := h.cells
  have hlt := h.lt
  clear h
  go_enter Tryd.func45, Tryd.ntmps45
  go_wp2_with (at_builtin; refine wpList_append_own _ rfl _ _ 22 rfl (B + 1) 56 i0 (.agg #[.int .i64 0, .int .u8 0]) 2 16 Tryd.underlying22 hi0 hz0 hz1 hz2 rfl (by decide) _ _ _ rfl (HR.out.nod.alloc _) ⟨w.heap.size, 0, none⟩ 1 1 [.int .i64 kd, .int .u8 0] rfl rfl ?f1 ?f2 ?f3 ?f4 ?f5 ?_)
  case f1 => exact two_new w (.int .i64 kd) (.int .u8 0) 56
  case f2 => intro u hu; simp at hu; rcases hu with rfl | rfl <;> rfl
  case f3 => unfold maxLen; omega
  case f4 => omega
  case f5 => simp; omega
  intro v2 w2 ho2 hg2 _
  obtain ⟨na', nc', rfl⟩ := own_shape ho2
  have HR2 : Hid (RS tx ps w0 (w2.setCell ⟨B, 2, none⟩ (.slice na' (ns.length + 1) nc')) B k due (ns ++ [(kd, 0)]) ws na' nc' wa wc) := by
    have := (HR.out.alloc (.cells #[.int .i64 kd, .int .u8 0] 56)).nodes (ns' := ns ++ [(kd, 0)]) hg2 (na' := na') (nc' := nc') (by rw [ndC_append, List.length_append]; exact ho2)
    rw [List.length_append] at this
    exact this
  have HK2 : Hid (Keeps w (w2.setCell ⟨B, 2, none⟩ (.slice na' (ns.length + 1) nc')) B) := keeps_grown HR.out.nod hg2 _ _
  have hB2 : w2.heap[B]? = some (.cells #[.int .i64 k, .bool due, .slice na ns.length nc, .slice wa ws.length wc] 43 (0, 0)) :=
    (hg2.block B (by simp; omega) (fun e => by have := (HR.out.nod.lt B e.symm).1; omega)).trans (HR.out.alloc _).blk
  have d2 : w2.cell? ⟨B, 2, none⟩ = some (.slice na ns.length nc) := by simp [World.cell?, hB2]
  have f2 : w2.frozen? ⟨B, 2, none⟩ = false := by simp [World.frozen?, hB2]
  clear ho2 hg2 hB2 c0 c1 c2 c3
  go_wp2_with fail
  refine bodyPost_end (results_none rfl _ _ _) rfl ?_
  exact ⟨rfl, ⟨_, _, _, _, HR2.out⟩, HK2.out⟩

set_option maxHeartbeats 4000000 in
set_option maxRecDepth 100000 in
theorem leaf_any (w0 w : World) (B : Nat) (k : Int) (due : Bool) (ns : List Nd) (ws : List Wt) (h : RSt tx ps w0 w B k due ns ws) (hn : ns.length ≤ 100000) (kd sg : Int) :
    Calls Tryd.prog 44 #[.pointer (some ⟨B, 0, none⟩), .agg #[.int .i64 kd, .int .u8 sg]] w fun e w' => e = .returned (.tuple #[]) ∧ RSt tx ps w0 w' B k false (ns ++ [(kd, sg)]) ws := by
  obtain ⟨na, nc, wa, wc, h⟩ := h
  obtain ⟨i0, hi0, hz0, hz1, hz2⟩ := info_parts Tryd.info_node
  have HR : Hid (RS tx ps w0 (w.alloc (.cells #[.int .i64 kd, .int .u8 sg] 56)) B k due ns ws na nc wa wc) := h.alloc _
  obtain ⟨c0, c1, c2, c3⟩ := HR.out.cells
  have RN := (RowAt.last w #[.int .i64 kd, .int .u8 sg] 56).cell
  have hlt := h.lt
  clear h
  go_enter Tryd.func44, Tryd.ntmps44
  go_wp2_with fail
  generalize hWA : w.alloc (.cells #[.int .i64 kd, .int .u8 sg] 56) = wA at HR c0 c1 c2 c3 RN ⊢
  have hAs : wA.heap.size = w.heap.size + 1 := by rw [← hWA]; simp
  have e0 : wA.cell? ⟨w.heap.size, 0, none⟩ = some (.int .i64 kd) := RN 0
  have e1 : wA.cell? ⟨w.heap.size, 1, none⟩ = some (.int .u8 sg) := RN 1
  clear hWA RN
  have hnew : ∀ j u, [Value.int .i64 kd, Value.int .u8 sg][j]? = some u → (wA.alloc (.cells #[.int .i64 kd, .int .u8 sg] 56)).drew.cell? ((⟨w.heap.size + 1, 0, none⟩ : Addr).add j) = some u := by
    have := two_new wA (.int .i64 kd) (.int .u8 sg) 56
    rw [hAs] at this
    exact this
  have HNEW : Hid _ := hnew
  have HBK : Hid (∀ w9, (wA.alloc (.cells #[.int .i64 kd, .int .u8 sg] 56)).drew.grownBy w9 (Value.slice na ns.length nc).ownBlock → w9.heap[B]? = some (.cells #[.int .i64 k, .bool due, .slice na ns.length nc, .slice wa ws.length wc] 43 (0, 0))) := fun w9 hg =>
    (hg.block B (by show B < (wA.alloc _).heap.size; simp; omega) (fun e => by have := (HR.out.nod.lt B e.symm).1; omega)).trans (HR.out.alloc _).blk
  have hbs : B + 1 ≤ (wA.alloc (.cells #[.int .i64 kd, .int .u8 sg] 56)).drew.heap.size := by show _ ≤ (wA.alloc _).heap.size; simp; omega
  clear hnew
  go_region_law (rw [if_pos (by rfl)]; refine wp_append_own _ _ _ 22 rfl (B + 1) 56 i0 (.agg #[.int .i64 0, .int .u8 0]) 2 16 Tryd.underlying22 hi0 hz0 hz1 hz2 rfl (by decide) _ _ _ rfl (own_drew (HR.out.nod.alloc _)) ⟨w.heap.size + 1, 0, none⟩ 1 1 [.int .i64 kd, .int .u8 sg] rfl rfl HNEW.out (by intro u hu; simp at hu; rcases hu with rfl | rfl <;> rfl) (by unfold maxLen; omega) (by omega) hbs ?_; intro v9 w9 ho9 hg9 _; obtain ⟨na', nc', hv9⟩ := own_shape ho9; subst hv9; have d2 : w9.cell? ⟨B, 2, none⟩ = some (.slice na ns.length nc) := (by simp [World.cell?, HBK.out w9 hg9]); have f2 : w9.frozen? ⟨B, 2, none⟩ = false := (by simp [World.frozen?, HBK.out w9 hg9]); have HR9 : Hid (RS tx ps w0 (w9.setCell ⟨B, 2, none⟩ (.slice na' (ns.length + 1) nc')) B k due (ns ++ [(kd, sg)]) ws na' nc' wa wc) := (by have := (HR.out.alloc (.cells #[.int .i64 kd, .int .u8 sg] 56)).drew.nodes (ns' := ns ++ [(kd, sg)]) hg9 (na' := na') (nc' := nc') (by rw [ndC_append, List.length_append]; exact ho9); rw [List.length_append] at this; exact this); clear ho9 hg9)
  all_goals (
    generalize w9.setCell ⟨B, 2, none⟩ (.slice na' (ns.length + 1) nc') = wE at HR9 ⊢
    have q1 := HR9.out.cells.2.1
    have q2 := HR9.out.frozen 1
    clear d2 f2 c0 c1 c2 c3 e0 e1
    go_wp2_with fail
    refine bodyPost_end (results_none rfl _ _ _) rfl ?_
    exact ⟨rfl, _, _, _, _, HR9.out.setDue false⟩)

set_option maxHeartbeats 4000000 in
set_option maxRecDepth 100000 in
theorem wait_any (w0 w : World) (B : Nat) (k : Int) (due : Bool) (ns : List Nd) (ws : List Wt) (h : RSt tx ps w0 w B k due ns ws) (hn : ws.length ≤ 100000) (kd : Int) (sg : Bool) :
    Calls Tryd.prog 43 #[.pointer (some ⟨B, 0, none⟩), .agg #[.int .i64 kd, .bool sg]] w fun e w' => e = .returned (.tuple #[]) ∧ RSt tx ps w0 w' B k true ns (ws ++ [(kd, sg)]) := by
  obtain ⟨na, nc, wa, wc, h⟩ := h
  obtain ⟨i0, hi0, hz0, hz1, hz2⟩ := info_parts Tryd.info_wait
  have HR : Hid (RS tx ps w0 (w.alloc (.cells #[.int .i64 kd, .bool sg] 80)) B k due ns ws na nc wa wc) := h.alloc _
  obtain ⟨c0, c1, c2, c3⟩ := HR.out.cells
  have RN := (RowAt.last w #[.int .i64 kd, .bool sg] 80).cell
  have hlt := h.lt
  clear h
  go_enter Tryd.func43, Tryd.ntmps43
  go_wp2_with fail
  generalize hWA : w.alloc (.cells #[.int .i64 kd, .bool sg] 80) = wA at HR c0 c1 c2 c3 RN ⊢
  have hAs : wA.heap.size = w.heap.size + 1 := by rw [← hWA]; simp
  have e0 : wA.cell? ⟨w.heap.size, 0, none⟩ = some (.int .i64 kd) := RN 0
  have e1 : wA.cell? ⟨w.heap.size, 1, none⟩ = some (.bool sg) := RN 1
  clear hWA RN
  have hnew : ∀ j u, [Value.int .i64 kd, Value.bool sg][j]? = some u → (wA.alloc (.cells #[.int .i64 kd, .bool sg] 80)).drew.cell? ((⟨w.heap.size + 1, 0, none⟩ : Addr).add j) = some u := by
    have := two_new wA (.int .i64 kd) (.bool sg) 80
    rw [hAs] at this
    exact this
  have HNEW : Hid _ := hnew
  have HBK : Hid (∀ w9, (wA.alloc (.cells #[.int .i64 kd, .bool sg] 80)).drew.grownBy w9 (Value.slice wa ws.length wc).ownBlock → w9.heap[B]? = some (.cells #[.int .i64 k, .bool due, .slice na ns.length nc, .slice wa ws.length wc] 43 (0, 0))) := fun w9 hg =>
    (hg.block B (by show B < (wA.alloc _).heap.size; simp; omega) (fun e => by have := (HR.out.wts.lt B e.symm).1; omega)).trans (HR.out.alloc _).blk
  have hbs : B + 1 ≤ (wA.alloc (.cells #[.int .i64 kd, .bool sg] 80)).drew.heap.size := by show _ ≤ (wA.alloc _).heap.size; simp; omega
  clear hnew
  go_region_law (rw [if_pos (by rfl)]; refine wp_append_own _ _ _ 41 rfl (B + 1) 80 i0 (.agg #[.int .i64 0, .bool false]) 2 16 Tryd.underlying41 hi0 hz0 hz1 hz2 rfl (by decide) _ _ _ rfl (own_drew (HR.out.wts.alloc _)) ⟨w.heap.size + 1, 0, none⟩ 1 1 [.int .i64 kd, .bool sg] rfl rfl HNEW.out (by intro u hu; simp at hu; rcases hu with rfl | rfl <;> rfl) (by unfold maxLen; omega) (by omega) hbs ?_; intro v9 w9 ho9 hg9 _; obtain ⟨wa', wc', hv9⟩ := own_shape ho9; subst hv9; have d2 : w9.cell? ⟨B, 3, none⟩ = some (.slice wa ws.length wc) := (by simp [World.cell?, HBK.out w9 hg9]); have f2 : w9.frozen? ⟨B, 3, none⟩ = false := (by simp [World.frozen?, HBK.out w9 hg9]); have HR9 : Hid (RS tx ps w0 (w9.setCell ⟨B, 3, none⟩ (.slice wa' (ws.length + 1) wc')) B k due ns (ws ++ [(kd, sg)]) na nc wa' wc') := (by have := (HR.out.alloc (.cells #[.int .i64 kd, .bool sg] 80)).drew.waits (ws' := ws ++ [(kd, sg)]) hg9 (wa' := wa') (wc' := wc') (by rw [wtC_append, List.length_append]; exact ho9); rw [List.length_append] at this; exact this); clear ho9 hg9)
  all_goals (
    generalize w9.setCell ⟨B, 3, none⟩ (.slice wa' (ws.length + 1) wc') = wE at HR9 ⊢
    have q1 := HR9.out.cells.2.1
    have q2 := HR9.out.frozen 1
    clear d2 f2 c0 c1 c2 c3 e0 e1
    go_wp2_with fail
    refine bodyPost_end (results_none rfl _ _ _) rfl ?_
    exact ⟨rfl, _, _, _, _, HR9.out.setDue true⟩)
end Go.Proofs.YtjonlmafhijcoaaDoor
