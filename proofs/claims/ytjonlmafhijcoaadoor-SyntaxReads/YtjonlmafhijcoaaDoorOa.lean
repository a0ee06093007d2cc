/- Lists of lists of nodes that a call told: SpoilNodes, SameTrees, ApartNodes of them. -/
import Derived.Test.YtjonlmafhijcoaaDoorNb
import Derived.Deep.RegionHeld3
namespace Go.Proofs.YtjonlmafhijcoaaDoor
open Go Go.RowKit

/-- What a call told: a list of lists, each in memory of its own, all of it made since 'base'. -/
structure Told (w : World) (base G : Nat) (vs : List Value) (ps : List (List Nd)) : Prop where
  lenv : vs.length = ps.length
  list : w.heap[G]? = some (.cells vs.toArray 22 (0, 0))
  from_ : base ≤ G
  rows : ∀ j, j < ps.length → w.ownsRow base 56 2 (vs.getD j (.slice none 0 0)) (ps.getD j []).length (ndC (ps.getD j []))
  apart : ∀ j j', j < ps.length → j' < ps.length → j ≠ j' → ∀ b, (vs.getD j (.slice none 0 0)).ownBlock = some b → (vs.getD j' (.slice none 0 0)).ownBlock ≠ some b
theorem Told.lt {w : World} {base G : Nat} {vs : List Value} {ps : List (List Nd)} (h : Told w base G vs ps) : G < w.heap.size := (Array.getElem?_eq_some_iff.1 h.list).1
theorem Told.kept {w w' : World} {base G : Nat} {vs : List Value} {ps : List (List Nd)} (h : Told w base G vs ps) (hk : ∀ k, base ≤ k → k < w.heap.size → w'.heap[k]? = w.heap[k]?) : Told w' base G vs ps :=
  ⟨h.lenv, (hk G h.from_ h.lt).trans h.list, h.from_, fun j hj => own_of_heap (h.rows j hj) (fun b hb => hk b ((h.rows j hj).lt b hb).1 ((h.rows j hj).lt b hb).2), h.apart⟩
theorem Told.stay {w w' : World} {base G : Nat} {vs : List Value} {ps : List (List Nd)} (h : Told w base G vs ps) (hb : Below w.heap.size w w') : Told w' base G vs ps := h.kept fun k _ hk => hb.block k hk
theorem Told.reads {w : World} {base G : Nat} {vs : List Value} {ps : List (List Nd)} (h : Told w base G vs ps) (c : Nat) : PReads w (.slice (some ⟨G, 0, none⟩) ps.length c) ps := by
  refine ⟨_, c, rfl, fun i hi => ⟨G, 0, vs.getD i (.slice none 0 0), rfl, h.lt, ?_, own_nreads (h.rows i hi)⟩⟩
  rw [World.cell?]
  simp only [h.list]
  have : i < vs.length := by rw [h.lenv]; exact hi
  simp [List.getD_eq_getElem?_getD, List.getElem?_eq_getElem this]
def sA : Value → Option Addr
  | .slice a _ _ => a
  | _ => none
def sC : Value → Nat
  | .slice _ _ c => c
  | _ => 0
theorem apart_told {w : World} {base G : Nat} {vs : List Value} {ps : List (List Nd)} (h : Told w base G vs ps) (cp : Nat) (hB : base ≤ w.heap.size) (h0 : 0 < ps.length) (hN : ps.length ≤ 1048576) (hl : ∀ j, j < ps.length → (ps.getD j []).length ≤ 1048576) :
    Calls Tryd.prog 13 #[.slice (some ⟨G, 0, none⟩) ps.length cp] w fun e w' => e = .returned (.bool true) ∧ Below base w w' := by
  have hv : ∀ j, j < ps.length → vv (fun j => sA (vs.getD j (.slice none 0 0))) (fun j => (ps.getD j []).length) (fun j => sC (vs.getD j (.slice none 0 0))) j = vs.getD j (.slice none 0 0) := by
    intro j hj
    obtain ⟨a, c, e⟩ := own_shape (h.rows j hj)
    show Value.slice _ _ _ = _
    simp only [e, sA, sC]
  refine apart_any ps.length base G cp (fun j => sA (vs.getD j (.slice none 0 0))) (fun j => (ps.getD j []).length) (fun j => sC (vs.getD j (.slice none 0 0))) (fun j => ps.getD j []) w ?_ ?_ hl (fun _ _ => rfl) ?_ hB h0 hN
  · rw [h.list]
    congr 3
    apply List.ext_getElem?
    intro j
    by_cases hj : j < ps.length
    · have hj2 : j < vs.length := by rw [h.lenv]; exact hj
      have := hv j hj
      rw [List.getD_eq_getElem?_getD, List.getElem?_eq_getElem hj2] at this
      simp only [Option.getD_some] at this
      simp only [List.getElem?_map, List.getElem?_range hj, Option.map_some]
      rw [hv j hj, List.getD_eq_getElem?_getD, List.getElem?_eq_getElem hj2]
      rfl
    · rw [List.getElem?_eq_none (by rw [h.lenv]; omega), List.getElem?_eq_none (by simp; omega)]
  · intro j hj
    rw [hv j hj]
    exact h.rows j hj
  · intro j j' hj hj' hne
    rw [hv j hj, hv j' hj']
    exact h.apart j j' hj hj' hne
set_option maxHeartbeats 1000000 in
theorem apart_none (a : Option Addr) (c : Nat) (w : World) :
    Calls Tryd.prog 13 #[.slice a 0 c] w fun e w' => e = .returned (.bool true) ∧ Below w.heap.size w w' := by
  go_enter Tryd.func13, Tryd.ntmps13
  go_wp2_with fail
  refine wp_loop_rounds 1 ?_
  rw [rounds_succ]
  go_wp2_with fail
  refine wp_loop_rounds 1 ?_
  rw [rounds_succ]
  go_wp2_with fail
  refine wp_loop_rounds 1 ?_
  rw [rounds_succ]
  go_wp2_with fail
  go_ret
  exact ⟨rfl, Below.refl _ _⟩

abbrev S2 (W : World) (a1 a2 : Addr) (u1 u2 : Value) (w' : World) : Prop := w'.cell? a1 = some u1 ∧ w'.cell? a2 = some u2 ∧ Below W.heap.size W w'
theorem s2_step {W : World} {a1 a2 : Addr} {u1 u2 : Value} {w1 w2 : World} (h1 : a1.block < W.heap.size) (h2 : a2.block < W.heap.size) (hb : Below w1.heap.size w1 w2) (h : S2 W a1 a2 u1 u2 w1) : S2 W a1 a2 u1 u2 w2 := by
  have hs := h.2.2.size
  refine ⟨?_, ?_, go_on h.2.2 hb⟩
  · rw [World.cell?_of_block (hb.block _ (Nat.lt_of_lt_of_le h1 hs))]; exact h.1
  · rw [World.cell?_of_block (hb.block _ (Nat.lt_of_lt_of_le h2 hs))]; exact h.2.1

end Go.Proofs.YtjonlmafhijcoaaDoor
