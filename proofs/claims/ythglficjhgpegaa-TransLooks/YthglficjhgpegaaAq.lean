/- Rows of numbers in memory that are marked, grown and read again: what each step does to the rows; no walk. -/
import Derived.Test.YthglficjhgpegaaLi
import Derived.Deep.QuietTactic
import Derived.BigQuiet
import Derived.ArgAppend
import Derived.Deep.RegionHeld
namespace Go.Proofs.Ythglficjhgpegaa
open Go.RowKit

/-- Numbers as cells. -/
def intCells (l : List Nat) : List Value := l.map fun (n : Nat) => Value.int .i64 (n : Int)
theorem intCells_append (a b : List Nat) : intCells (a ++ b) = intCells a ++ intCells b := by simp [intCells]

/-- A row hangs on its own block alone. -/
theorem own_of_heap {w w' : World} {B : Nat} {e : TypeId} {size n : Nat} {v : Value} {xs : List Value} (h : w.ownsRow B e size v n xs) (hk : ∀ b, v.ownBlock = some b → w'.heap[b]? = w.heap[b]?) : w'.ownsRow B e size v n xs := by
  obtain ⟨a, b⟩ := h
  refine ⟨a, ?_⟩
  rcases b with b | ⟨g, cap, cur, e1, r, r2, r3⟩
  · exact .inl b
  · refine .inr ⟨g, cap, cur, e1, r, ?_, r3⟩
    rw [hk g (by rw [e1]; rfl)]
    exact r2
theorem own_type {w : World} {B : Nat} {e : TypeId} {size n : Nat} {v : Value} {xs : List Value} (h : w.ownsRow B e size v n xs) (b : Nat) (hb : v.ownBlock = some b) : ∃ cur, w.heap[b]? = some (.cells cur e (0, 0)) := by
  obtain ⟨_, h⟩ := h
  rcases h with ⟨rfl, _⟩ | ⟨g, cap, cur, rfl, _, r, _⟩
  · simp [Value.ownBlock] at hb
  · simp [Value.ownBlock] at hb
    subst hb
    exact ⟨cur, r⟩
/-- Rows of two kinds lie in two blocks. -/
theorem own_apart {w : World} {B B' : Nat} {e e' : TypeId} {size size' n n' : Nat} {v v' : Value} {xs xs' : List Value} (h : w.ownsRow B e size v n xs) (h' : w.ownsRow B' e' size' v' n' xs') (he : e ≠ e') (b : Nat) (hb : v.ownBlock = some b) : v'.ownBlock ≠ some b := by
  intro hb'
  obtain ⟨c, hc⟩ := own_type h b hb
  obtain ⟨c', hc'⟩ := own_type h' b hb'
  rw [hc] at hc'
  simp at hc'
  exact he hc'.2
theorem set_take (l : List Value) (n i : Nat) (u : Value) (h : n ≤ i) : (l.set i u).take n = l.take n := by
  apply List.ext_getElem?
  intro t
  by_cases ht : t < n
  · simp [ht, show ¬ i = t by omega]
  · rw [List.getElem?_eq_none (by simp; omega), List.getElem?_eq_none (by simp; omega)]
theorem heap_setCell_eq (w : World) (b i : Nat) (u : Value) (cur : Array Value) (e : TypeId) (h : w.heap[b]? = some (.cells cur e (0, 0))) : (w.setCell ⟨b, i, none⟩ u).heap[b]? = some (.cells (cur.setIfInBounds i u) e (0, 0)) := by
  simp [World.setCell, Array.getElem?_modify, h]
/-- A store behind a row's end leaves the row. -/
theorem own_high {w : World} {B : Nat} {e : TypeId} {n : Nat} {v : Value} {xs : List Value} (h : w.ownsRow B e 1 v n xs) (b i : Nat) (u : Value) (hi : v.ownBlock = some b → n ≤ i) : (w.setCell ⟨b, i, none⟩ u).ownsRow B e 1 v n xs := by
  by_cases hb : v.ownBlock = some b
  · obtain ⟨a, h⟩ := h
    refine ⟨a, ?_⟩
    rcases h with h | ⟨g, cap, cur, rfl, r, r2, r3, r4, r5, r6⟩
    · exact .inl h
    · simp [Value.ownBlock] at hb
      subst hb
      refine .inr ⟨g, cap, _, rfl, r, heap_setCell_eq w g i u cur e r2, r3, r4, by simpa using r5, ?_⟩
      rw [Array.toList_setIfInBounds, set_take _ _ _ _ (by have := hi rfl; omega)]
      exact r6
  · refine own_of_heap h (fun b' hb' => ?_)
    exact Below.heap_setCell w ⟨b, i, none⟩ u b' (fun e => hb (by rw [hb', e]))
/-- One cell more within the room. -/
theorem own_room {w : World} {B : Nat} {e : TypeId} {n cap b : Nat} {xs : List Value} (h : w.ownsRow B e 1 (.slice (some ⟨b, 0, none⟩) n cap) n xs) (hr : n + 1 ≤ cap) (u : Value) : (w.setCell ⟨b, n, none⟩ u).ownsRow B e 1 (.slice (some ⟨b, 0, none⟩) (n + 1) cap) (n + 1) (xs ++ [u]) := by
  obtain ⟨a, h⟩ := h
  refine ⟨by simp; omega, ?_⟩
  rcases h with ⟨h, _⟩ | ⟨g, cap', cur, hv, r, r2, r3, r4, r5, r6⟩
  · simp at h
  · simp at hv
    obtain ⟨rfl, rfl⟩ := hv
    refine .inr ⟨b, cap, _, rfl, r, heap_setCell_eq w b n u cur e r2, hr, r4, by simpa using r5, ?_⟩
    rw [Array.toList_setIfInBounds]
    have hl : cur.toList.length = cap := by simpa using r5
    rw [Nat.mul_one, List.take_succ_eq_append_getElem (by rw [List.length_set]; omega), set_take _ _ _ _ (Nat.le_refl _)]
    rw [Nat.mul_one] at r6
    rw [r6]
    simp
theorem intCells_len (l : List Nat) : (intCells l).length = l.length := by simp [intCells]
theorem intCells_set (l : List Nat) (i c : Nat) : (intCells l).set i (Value.int .i64 (c : Int)) = intCells (l.set i c) := by simp [intCells, List.map_set]
/-- Marked up to k. -/
def markTo (c : Nat) (xs : List Nat) (k : Nat) : List Nat := List.replicate k c ++ xs.drop k
theorem markTo_zero (c : Nat) (xs : List Nat) : markTo c xs 0 = xs := by simp [markTo]
theorem markTo_end (c n : Nat) (xs : List Nat) (h : xs.length = n) : markTo c xs n = List.replicate n c := by simp [markTo, ← h]
theorem markTo_set (c : Nat) (xs : List Nat) (k : Nat) (h : k < xs.length) : (markTo c xs k).set k c = markTo c xs (k + 1) := by
  unfold markTo
  rw [List.drop_eq_getElem_cons h, List.set_append_right _ _ (by simp), List.length_replicate, Nat.sub_self, List.set_cons_zero, List.replicate_succ', List.append_assoc]
  rfl

/-- What stands while a row V of n numbers c is copied and grown by numbers d: V itself; the copy g, with m numbers more; all other blocks of W0. -/
structure Grow (B : Nat) (w W0 : World) (V : Value) (n c d : Nat) (wr : World) (g : Value) (m : Nat) : Prop where
  others : ∀ k, k < W0.heap.size → V.ownBlock ≠ some k → wr.heap[k]? = W0.heap[k]?
  row : wr.ownsRow B 3 1 V n (intCells (List.replicate n c))
  copy : wr.ownsRow B 3 1 g (n + m) (intCells (List.replicate n c ++ List.replicate m d))
  place : g.ownBlock = V.ownBlock ∨ ∃ b, g.ownBlock = some b ∧ W0.heap.size ≤ b
  size : W0.heap.size ≤ wr.heap.size
  below : Below B w wr
theorem rep_more (n c m d : Nat) : intCells (List.replicate n c ++ List.replicate m d) ++ [Value.int .i64 (d : Int)] = intCells (List.replicate n c ++ List.replicate (m + 1) d) := by
  rw [List.replicate_succ', ← List.append_assoc, intCells_append (List.replicate n c ++ List.replicate m d)]
  rfl
/-- The next number is laid into the room behind the copy. -/
theorem Grow.room {B : Nat} {w W0 wr : World} {V : Value} {n c d m b cap : Nat} (h : Grow B w W0 V n c d wr (.slice (some ⟨b, 0, none⟩) (n + m) cap) m) (hr : n + m + 1 ≤ cap) (o : Obj) (hB : B ≤ W0.heap.size) :
    Grow B w W0 V n c d ((wr.alloc o).setCell ⟨b, n + m, none⟩ (.int .i64 (d : Int))) (.slice (some ⟨b, 0, none⟩) (n + m + 1) cap) (m + 1) := by
  have hbB : B ≤ b := (h.copy.lt b rfl).1
  have hbl : b < wr.heap.size := (h.copy.lt b rfl).2
  refine ⟨?_, ?_, ?_, ?_, ?_, ?_⟩
  · intro k hk hne
    have hkb : k ≠ b := by
      intro e
      subst e
      rcases h.place with hp | ⟨b', hp, hb'⟩
      · exact hne (by rw [← hp]; rfl)
      · simp [Value.ownBlock] at hp
        omega
    rw [Below.heap_setCell _ _ _ _ hkb, Below.heap_alloc _ _ _ (by have := h.size; omega)]
    exact h.others k hk hne
  · exact own_high (h.row.alloc o) b (n + m) _ (fun _ => by omega)
  · have := own_room (h.copy.alloc o) hr (.int .i64 (d : Int))
    rw [rep_more] at this
    exact this
  · rcases h.place with hp | ⟨b', hp, hb'⟩
    · exact .inl (by rw [← hp]; rfl)
    · exact .inr ⟨b', hp, hb'⟩
  · have := h.size
    simp [World.setCell]
    omega
  · exact (h.below.alloc (Nat.le_trans hB h.size) o).setCell (p := ⟨b, n + m, none⟩) hbB _
/-- The next number goes into a new row, with all that the copy held. -/
theorem Grow.fresh {B : Nat} {w W0 wr w2 : World} {V g g' : Value} {n c d m : Nat} (h : Grow B w W0 V n c d wr g m) (o : Obj) (hB : B ≤ W0.heap.size) (hown : w2.ownsRow (wr.heap.size + 1) 3 1 g' (n + m + 1) (intCells (List.replicate n c ++ List.replicate m d) ++ [Value.int .i64 (d : Int)])) (hg : (wr.alloc o).grownBy w2 none) :
    Grow B w W0 V n c d w2 g' (m + 1) := by
  have hsz : (wr.alloc o).heap.size = wr.heap.size + 1 := by simp
  have hs := h.size
  have hkeep : ∀ k, k < wr.heap.size → w2.heap[k]? = wr.heap[k]? := fun k hk => by
    rw [hg.block k (by omega) (by simp), Below.heap_alloc _ _ _ hk]
  refine ⟨?_, ?_, ?_, ?_, ?_, ?_⟩
  · intro k hk hne
    rw [hkeep k (by omega)]
    exact h.others k hk hne
  · exact own_of_heap h.row (fun b hb => hkeep b (h.row.lt b hb).2)
  · rw [rep_more] at hown
    exact own_mono hown (by omega)
  · have hne : g'.ownBlock ≠ none := by
      obtain ⟨_, hh⟩ := hown
      rcases hh with ⟨_, h0⟩ | ⟨b, cap, cur, rfl, _⟩
      · omega
      · simp [Value.ownBlock]
    obtain ⟨b, hb⟩ := Option.ne_none_iff_exists'.1 hne
    exact .inr ⟨b, hb, by have := (hown.lt b hb).1; omega⟩
  · have := hg.size
    omega
  · exact (h.below.alloc (Nat.le_trans hB hs) o).grown hg (by omega) (by simp)

/-- A told list's value. -/
def vv (a : Nat → Option Addr) (n c : Nat → Nat) (j : Nat) : Value := .slice (a j) (n j) (c j)
/-- What stands when i lists have been copied and grown. -/
structure Grown2 (B G : Nat) (a : Nat → Option Addr) (n c : Nat → Nat) (w wr : World) (vgr : Value) (i : Nat) (Gv : Nat → Value) : Prop where
  list : wr.heap[G]? = some (.cells #[vv a n c 0, vv a n c 1] 22 (0, 0))
  rows : ∀ j, j < 2 → wr.ownsRow B 3 1 (vv a n c j) (n j) (intCells (List.replicate (n j) (1000 + j)))
  grown : wr.ownsRow w.heap.size 22 1 vgr i ((List.range i).map Gv)
  copies : ∀ j, j < i → wr.ownsRow B 3 1 (Gv j) (n j + 40) (intCells (List.replicate (n j) (1000 + j) ++ List.replicate 40 (2000 + j)))
  apart : ∀ j, j < i → ∀ j', j' < 2 → j' ≠ j → ∀ b, (Gv j).ownBlock = some b → (vv a n c j').ownBlock ≠ some b
  below : Below B w wr
theorem list_apart {w : World} {B G : Nat} {v : Value} {n : Nat} {xs : List Value} {cs : Array Value} (hG : w.heap[G]? = some (.cells cs 22 (0, 0))) (h : w.ownsRow B 3 1 v n xs) : v.ownBlock ≠ some G := by
  intro hb
  obtain ⟨cur, hc⟩ := own_type h G hb
  rw [hG] at hc
  simp at hc
theorem Grown2.mid {B G : Nat} {a : Nat → Option Addr} {n c : Nat → Nat} {w wr w2 : World} {vgr g : Value} {i m : Nat} {Gv : Nat → Value} (h : Grown2 B G a n c w wr vgr i Gv) (hi : i < 2) (hg : Grow B w wr (vv a n c i) (n i) (1000 + i) (2000 + i) w2 g m) :
    w2.ownsRow w.heap.size 22 1 vgr i ((List.range i).map Gv) :=
  own_of_heap h.grown (fun b hb => hg.others b (h.grown.lt b hb).2 (own_apart h.grown (h.rows i hi) (by decide) b hb))
theorem Grown2.midList {B G : Nat} {a : Nat → Option Addr} {n c : Nat → Nat} {w wr w2 : World} {vgr g : Value} {i m : Nat} {Gv : Nat → Value} (h : Grown2 B G a n c w wr vgr i Gv) (hi : i < 2) (hg : Grow B w wr (vv a n c i) (n i) (1000 + i) (2000 + i) w2 g m) :
    w2.heap[G]? = some (.cells #[vv a n c 0, vv a n c 1] 22 (0, 0)) := by
  rw [hg.others G (Array.getElem?_eq_some_iff.1 h.list).1 (list_apart h.list (h.rows i hi))]
  exact h.list
theorem Grown2.step {B G : Nat} {a : Nat → Option Addr} {n c : Nat → Nat} {w wr w2 w3 : World} {vgr v' g : Value} {i : Nat} {Gv : Nat → Value} {o : Obj} (h : Grown2 B G a n c w wr vgr i Gv) (hi : i < 2) (hd : ∀ j j', j < 2 → j' < 2 → j ≠ j' → ∀ b, (vv a n c j).ownBlock = some b → (vv a n c j').ownBlock ≠ some b)
    (hg : Grow B w wr (vv a n c i) (n i) (1000 + i) (2000 + i) w2 g 40) (hB : B ≤ w.heap.size) (hown : w3.ownsRow w.heap.size 22 1 v' (i + 1) ((List.range i).map Gv ++ [g])) (hgr : (w2.alloc o).grownBy w3 vgr.ownBlock) (hGw : G < w.heap.size) :
    Grown2 B G a n c w w3 v' (i + 1) (fun j => if j = i then g else Gv j) := by
  have hmid := h.mid hi hg
  have hsz : (w2.alloc o).heap.size = w2.heap.size + 1 := by simp
  have hs := hg.size
  -- a row of numbers stands behind the append to the list of lists
  have keep : ∀ {v : Value} {k : Nat} {xs : List Value}, w2.ownsRow B 3 1 v k xs → w3.ownsRow B 3 1 v k xs := by
    intro v k xs hv
    refine own_of_heap hv (fun b hb => ?_)
    have hbl := (hv.lt b hb).2
    rw [hgr.block b (by omega) (fun e => own_apart hv hmid (by decide) b hb e.symm), Below.heap_alloc _ _ _ hbl]
  have rows2 : ∀ j, j < 2 → w2.ownsRow B 3 1 (vv a n c j) (n j) (intCells (List.replicate (n j) (1000 + j))) := by
    intro j hj
    by_cases e : j = i
    · subst e; exact hg.row
    · exact own_of_heap (h.rows j hj) (fun b hb => hg.others b ((h.rows j hj).lt b hb).2 (hd j i hj hi e b hb))
  refine ⟨?_, fun j hj => keep (rows2 j hj), ?_, ?_, ?_, ?_⟩
  · have hl := h.midList hi hg
    have hlt := (Array.getElem?_eq_some_iff.1 hl).1
    rw [hgr.block G (by omega) (fun e => by have := (hmid.lt G e.symm).1; omega), Below.heap_alloc _ _ _ hlt]
    exact hl
  · have e : (List.range (i + 1)).map (fun j => if j = i then g else Gv j) = (List.range i).map Gv ++ [g] := by
      rw [List.range_succ, List.map_append]
      congr 1
      · apply List.map_congr_left
        intro j hj
        rw [List.mem_range] at hj
        rw [if_neg (by omega)]
      · simp
    rw [e]
    exact hown
  · intro j hj
    by_cases e : j = i
    · subst e
      simp only [if_true]
      exact keep hg.copy
    · simp only [if_neg e]
      have hc := h.copies j (by omega)
      exact keep (own_of_heap hc (fun b hb => hg.others b (hc.lt b hb).2 (h.apart j (by omega) i hi (fun x => e x.symm) b hb)))
  · intro j hj j' hj' hne b hb
    by_cases e : j = i
    · subst e
      simp only [if_true] at hb
      rcases hg.place with hp | ⟨b', hp, hb'⟩
      · rw [hp] at hb
        exact hd j j' (by omega) hj' (fun x => hne x.symm) b hb
      · rw [hp] at hb
        simp only [Option.some.injEq] at hb
        subst hb
        intro hx
        have := ((h.rows j' hj').lt b' hx).2
        omega
    · simp only [if_neg e] at hb
      exact h.apart j (by omega) j' hj' hne b hb
  · exact (hg.below.alloc (by have := hg.below.size; omega) o).grown hgr (by have := hg.below.size; omega) (fun k hk => by have := (hmid.lt k hk).1; omega)

end Go.Proofs.Ythglficjhgpegaa
