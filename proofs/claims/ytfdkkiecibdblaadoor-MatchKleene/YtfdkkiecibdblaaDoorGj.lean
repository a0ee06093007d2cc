/- The document's Made, of trees; in, of a tree. -/
import Derived.Test.YtfdkkiecibdblaaDoorGi
import Derived.Test.YtfdkkiecibdblaaDoorGf
namespace Go.Proofs.YtfdkkiecibdblaaDoor
open Go Go.RowKit
set_option linter.unusedVariables false

theorem pone {w : World} {v : Value} {p : List Nd} (h : NReads w v p) : PReads (w.alloc (.cells #[v] 22)) (.slice (some ⟨w.heap.size, 0, none⟩) 1 1) [p] := by
  refine ⟨_, _, rfl, fun i hi => ?_⟩
  have hi : i < 1 := hi
  obtain rfl : i = 0 := by omega
  refine ⟨w.heap.size, 0, v, rfl, by simp, ?_, h.stay ((Below.refl _ _).alloc (Nat.le_refl _) _)⟩
  have hh : (w.alloc (.cells #[v] 22)).heap[w.heap.size]? = some (.cells #[v] 22 (0, 0)) := heap_alloc_last w _
  simp only [World.cell?, hh]; rfl
theorem ptwo {w : World} {v v' : Value} {p q : List Nd} (h : NReads w v p) (h' : NReads w v' q) : PReads (w.alloc (.cells #[v, v'] 22)) (.slice (some ⟨w.heap.size, 0, none⟩) 2 2) [p, q] := by
  refine ⟨_, _, rfl, fun i hi => ?_⟩
  have hi : i < 2 := hi
  have hc : i = 0 ∨ i = 1 := by omega
  have hh : (w.alloc (.cells #[v, v'] 22)).heap[w.heap.size]? = some (.cells #[v, v'] 22 (0, 0)) := heap_alloc_last w _
  rcases hc with rfl | rfl
  · refine ⟨w.heap.size, 0, v, rfl, by simp, ?_, h.stay ((Below.refl _ _).alloc (Nat.le_refl _) _)⟩
    simp only [World.cell?, hh]; rfl
  · refine ⟨w.heap.size, 0, v', rfl, by simp, ?_, h'.stay ((Below.refl _ _).alloc (Nat.le_refl _) _)⟩
    simp only [World.cell?, hh]; rfl
theorem made1_any (k : Int) {w : World} {v : Value} {x : Tr} (h : NReads w v x.flat) (hl : x.flat.length + 1 ≤ 4000) :
    Calls Tryd.prog 25 #[.agg #[.int .i64 k, .int .u8 0], .slice (some ⟨w.heap.size, 0, none⟩) 1 1] (w.alloc (.cells #[v] 22)) fun e w' => ∃ u, e = .returned u ∧ NReads w' u (Tr.one (k, 0) x).flat ∧ Below w.heap.size w w' := by
  refine (made_any k 0 _ [x.flat] _ (pone h) ?_ (by simp [tot]; omega) (by simp)).mono ?_
  · intro i hi
    have hi : i < 1 := hi
    obtain rfl : i = 0 := by omega
    exact x.len_pos
  · rintro e w' ⟨u, h1, h2, h3⟩
    refine ⟨u, h1, ?_, ((Below.refl _ _).alloc (Nat.le_refl _) _).trans (h3.mono (by simp))⟩
    have := own_nreads h2
    simpa [Tr.flat] using this
theorem made2_any (k : Int) {w : World} {v v' : Value} {x y : Tr} (h : NReads w v x.flat) (h' : NReads w v' y.flat) (hl : x.flat.length + y.flat.length + 1 ≤ 4000) :
    Calls Tryd.prog 25 #[.agg #[.int .i64 k, .int .u8 0], .slice (some ⟨w.heap.size, 0, none⟩) 2 2] (w.alloc (.cells #[v, v'] 22)) fun e w' => ∃ u, e = .returned u ∧ NReads w' u (Tr.two (k, 0) x y).flat ∧ Below w.heap.size w w' := by
  refine (made_any k 0 _ [x.flat, y.flat] _ (ptwo h h') ?_ (by simp [tot]; omega) (by simp)).mono ?_
  · intro i hi
    have hi : i < 2 := hi
    have hc : i = 0 ∨ i = 1 := by omega
    rcases hc with rfl | rfl
    · exact x.len_pos
    · exact y.len_pos
  · rintro e w' ⟨u, h1, h2, h3⟩
    refine ⟨u, h1, ?_, ((Below.refl _ _).alloc (Nat.le_refl _) _).trans (h3.mono (by simp))⟩
    have := own_nreads h2
    simpa [Tr.flat] using this
theorem inT_any {w : World} {v : Value} {x : Tr} (s : ByteArray) (hv : NReads w v x.flat) (hx : x.ok) (hl : x.flat.length ≤ 4000) (hs : wordE s = 0) (hP : PTab w) (hT : TzTab w) :
    Calls Tryd.prog 23 #[v, .string s] w fun e w' => ∃ b : Bool, e = .returned (.bool b) ∧ (b = true ↔ Lg x (wl s)) ∧ Below w.heap.size w w' := by
  refine (in6_any s hv (by omega) (by have := wordE_zero hs; omega) hP hT (ends_ok0 (n := 0) (wrong_ok hx hl) hs (Nat.zero_le _))).mono ?_
  rintro e w' ⟨b, h1, h3, h4⟩
  exact ⟨b, h1, h3 x hx rfl, h4⟩
theorem ok_two {k : Int} {x y : Tr} (hx : x.ok) (hy : y.ok) (hk : k = 5 ∨ k = 6 ∨ k = 7) : (Tr.two (k, 0) x y).ok := by
  rcases hk with rfl | rfl | rfl <;> exact ⟨by decide, by decide, hx, hy⟩
theorem ok_one {k : Int} {x : Tr} (hx : x.ok) (hk : k = 8 ∨ k = 9) : (Tr.one (k, 0) x).ok := by
  rcases hk with rfl | rfl <;> exact ⟨by decide, by decide, hx⟩
theorem len_two (n : Nd) (x y : Tr) : (Tr.two n x y).flat.length = x.flat.length + y.flat.length + 1 := by simp [Tr.flat]; omega
theorem len_one (n : Nd) (x : Tr) : (Tr.one n x).flat.length = x.flat.length + 1 := by simp [Tr.flat]
end Go.Proofs.YtfdkkiecibdblaaDoor
