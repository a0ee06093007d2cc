/- Lists of lent lists; Join's answers in one form. -/
import Derived.Test.YtchaggigabccaaaDoorOd
import Derived.Test.YtchaggigabccaaaDoorTl
namespace Go.Proofs.YtchaggigabccaaaDoor
open Go Go.RowKit

def joinT (n : Nd) (ps : List (List Nd)) : List Nd := if joinE n ps = 0 then ps.flatten ++ [n] else []
theorem joinT_len (n : Nd) (ps : List (List Nd)) : (joinT n ps).length ≤ 4000 := by
  unfold joinT
  by_cases h : joinE n ps = 0
  · rw [if_pos h]
    unfold joinE at h
    split at h
    · cases h
    · split at h
      · cases h
      · split at h
        · next h1 => exact absurd h h1
        · split at h
          · cases h
          · unfold tot at *; simp only [List.length_append, List.length_singleton]; omega
  · rw [if_neg h]; simp
theorem joinV (k s : Int) (v : Value) (ps : List (List Nd)) (w : World) (hv : PReads w v ps) (hm : ∀ i, (ps.getD i []).length ≤ 9223372036854775806) (hl : ps.length ≤ 9223372036854775806) (hP : PTab w) :
    Calls Tryd.prog 24 #[ndV (k, s), v] w fun e w' => ∃ u, e = .returned (.tuple #[u, .int .i64 (joinE (k, s) ps)]) ∧ w'.ownsRow w.heap.size 36 2 u (joinT (k, s) ps).length (ndC (joinT (k, s) ps)) ∧ Below w.heap.size w w' := by
  refine (join_any k s v ps w hv hm hl hP).mono ?_
  rintro e w' ⟨h, hb⟩
  rcases h with ⟨h, rfl⟩ | ⟨h, u, rfl, ho⟩
  · exact ⟨_, rfl, by rw [joinT, if_neg h]; exact World.ownsRow_nil _ _ _ _, hb⟩
  · exact ⟨u, by rw [h], by rw [joinT, if_pos h]; exact ho, hb⟩
theorem rjoinV (k s : Int) (v : Value) (ps : List (List Nd)) (w : World) (hv : PReads w v ps) (hm : ∀ i, (ps.getD i []).length ≤ 9223372036854775806) (hl : ps.length ≤ 9223372036854775806) :
    Calls Tryd.prog 25 #[ndV (k, s), v] w fun e w' => ∃ u, e = .returned (.tuple #[u, .int .i64 (joinE (k, s) ps)]) ∧ w'.ownsRow w.heap.size 36 2 u (joinT (k, s) ps).length (ndC (joinT (k, s) ps)) ∧ Below w.heap.size w w' := by
  refine (rjoin_any k s v ps w hv hm hl).mono ?_
  rintro e w' ⟨h, hb⟩
  rcases h with ⟨h, rfl⟩ | ⟨h, u, rfl, ho⟩
  · exact ⟨_, rfl, by rw [joinT, if_neg h]; exact World.ownsRow_nil _ _ _ _, hb⟩
  · exact ⟨u, by rw [h], by rw [joinT, if_pos h]; exact ho, hb⟩
/-- A list of lists that was handed in. -/
def PIn (w : World) (v : Value) (ps : List (List Nd)) : Prop :=
  ∃ a cap, v = .slice a ps.length cap ∧ ∀ i, i < ps.length → ∃ g o u, a = some ⟨g, o, none⟩ ∧ g < w.heap.size ∧ w.cell? ⟨g, o + i, none⟩ = some u ∧ NReads w u (ps.getD i []) ∧ ∀ c, u = .slice none 0 c → c = 0
theorem PIn.reads {w : World} {v : Value} {ps : List (List Nd)} (h : PIn w v ps) : PReads w v ps := by
  obtain ⟨a, c, e, hr⟩ := h
  exact ⟨a, c, e, fun i hi => by obtain ⟨g, o, u, h1, h2, h3, h4, _⟩ := hr i hi; exact ⟨g, o, u, h1, h2, h3, h4⟩⟩
/-- The lent lists so far: where they lie (g), their room (c). -/
def lv (g c : Nat → Nat) (ps : List (List Nd)) (j : Nat) : Value := .slice (some ⟨g j, 0, none⟩) (ps.getD j []).length (c j)
structure Lents (B : Nat) (w : World) (g c : Nat → Nat) (ps : List (List Nd)) (i : Nat) (vl : Value) : Prop where
  list : w.ownsRow B 22 1 vl i ((List.range i).map (lv g c ps))
  rows : ∀ j, j < i → w.ownsRow B 36 2 (.slice (some ⟨g j, 0, none⟩) ((ps.getD j []).length + 2) (c j)) ((ps.getD j []).length + 2) (ndC (ps.getD j [] ++ [(-7, 0), (-8, 0)]))
  apart : ∀ j j', j < i → j' < i → j ≠ j' → g j ≠ g j'
theorem Lents.below {B : Nat} {w w' : World} {g c : Nat → Nat} {ps : List (List Nd)} {i : Nat} {vl : Value} (h : Lents B w g c ps i vl) (hb : Below w.heap.size w w') : Lents B w' g c ps i vl :=
  ⟨own_below h.list hb, fun j hj => own_below (h.rows j hj) hb, h.apart⟩
theorem Lents.step {B : Nat} {w w2 w3 : World} {g c : Nat → Nat} {ps : List (List Nd)} {i gn cn : Nat} {vl v' : Value} {o : Obj} (h : Lents B w g c ps i vl) (hB : B ≤ w.heap.size) (hb : Below w.heap.size w w2)
    (hrow : w2.ownsRow w.heap.size 36 2 (.slice (some ⟨gn, 0, none⟩) ((ps.getD i []).length + 2) cn) ((ps.getD i []).length + 2) (ndC (ps.getD i [] ++ [(-7, 0), (-8, 0)])))
    (hown : w3.ownsRow B 22 1 v' (i + 1) ((List.range i).map (lv g c ps) ++ [.slice (some ⟨gn, 0, none⟩) (ps.getD i []).length cn])) (hgr : (w2.alloc o).grownBy w3 vl.ownBlock) :
    Lents B w3 (fun j => if j = i then gn else g j) (fun j => if j = i then cn else c j) ps (i + 1) v' := by
  have hl2 := own_below h.list hb
  have keep : ∀ {v : Value} {k : Nat} {xs : List Value}, w2.ownsRow B 36 2 v k xs → w3.ownsRow B 36 2 v k xs := by
    intro v k xs hv
    refine own_of_heap hv (fun b hb => ?_)
    have hbl := (hv.lt b hb).2
    rw [hgr.block b (by simp; omega) (fun e => own_apart hv hl2 (by decide) b hb e.symm), Below.heap_alloc _ _ _ hbl]
  refine ⟨?_, fun j hj => ?_, fun j j' hj hj' hne => ?_⟩
  · have e : (List.range (i + 1)).map (lv (fun j => if j = i then gn else g j) (fun j => if j = i then cn else c j) ps) = (List.range i).map (lv g c ps) ++ [.slice (some ⟨gn, 0, none⟩) (ps.getD i []).length cn] := by
      rw [List.range_succ, List.map_append]
      congr 1
      · apply List.map_congr_left
        intro j hj
        rw [List.mem_range] at hj
        simp only [lv]
        rw [if_neg (by omega), if_neg (by omega)]
      · simp [lv]
    rw [e]
    exact hown
  · by_cases e : j = i
    · subst e
      simp only [if_true]
      exact keep (own_mono hrow hB)
    · simp only [if_neg e]
      exact keep (own_below (h.rows j (by omega)) hb)
  · have old : ∀ j, j < i → g j < w.heap.size := fun j hj => ((h.rows j hj).lt (g j) rfl).2
    have new : w.heap.size ≤ gn := (hrow.lt gn rfl).1
    by_cases e : j = i
    · have := old j' (by omega)
      simp only [if_pos e, if_neg (show ¬ j' = i by omega)]
      omega
    · by_cases e' : j' = i
      · have := old j (by omega)
        simp only [if_neg e, if_pos e']
        omega
      · simp only [if_neg e, if_neg e']
        exact h.apart j j' (by omega) (by omega) hne
theorem Lents.cell {B : Nat} {w : World} {g c : Nat → Nat} {ps : List (List Nd)} {i : Nat} {vl : Value} (h : Lents B w g c ps i vl) (j : Nat) (hj : j < i) : ∃ G cap, vl = .slice (some ⟨G, 0, none⟩) i cap ∧ B ≤ G ∧ G < w.heap.size ∧ (∀ j, j < i → g j ≠ G) ∧ w.cell? ⟨G, j, none⟩ = some (lv g c ps j) := by
  have hl := h.list
  obtain ⟨_, h2⟩ := id hl
  rcases h2 with ⟨_, h0⟩ | ⟨G, cap, cur, rfl, hBG, hG, _⟩
  · omega
  · refine ⟨G, cap, rfl, hBG, (Array.getElem?_eq_some_iff.1 hG).1, fun j' hj' e => ?_, ?_⟩
    · obtain ⟨cur', hc⟩ := own_type (h.rows j' hj') (g j') rfl
      rw [e, hG] at hc
      simp at hc
    · rw [hl.cellAt j (by omega)]
      simp [hj]
theorem Lents.reads {B : Nat} {w : World} {g c : Nat → Nat} {ps : List (List Nd)} {vl : Value} (h : Lents B w g c ps ps.length vl) : PReads w vl ps := by
  obtain ⟨a, cap, e⟩ := own_shape h.list
  subst e
  refine ⟨a, cap, rfl, fun i hi => ?_⟩
  obtain ⟨G, cap', e, _, hG, _, hc⟩ := h.cell i hi
  simp only [Value.slice.injEq] at e
  exact ⟨G, 0, _, e.1, hG, by rw [Nat.zero_add]; exact hc, (lent_reads (h.rows i hi)).1⟩
end Go.Proofs.YtchaggigabccaaaDoor
