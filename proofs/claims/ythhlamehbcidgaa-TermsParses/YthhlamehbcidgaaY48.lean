/- The law's spoil; rows of one's own as sides. -/
import Derived.Test.YthhlamehbcidgaaY47
namespace Go.Proofs.Ythhlamehbcidgaa
open Go Go.RowKit Go.Lib
set_option linter.unusedVariables false

/-- A row that may be written. -/
def WR (w : World) (v : Value) (n : Nat) : Prop := ∃ a cap, v = .slice a n cap ∧ (n = 0 ∨ ∃ g arr, a = some ⟨g, 0, none⟩ ∧ w.heap[g]? = some (.cells arr 81 (0, 0)) ∧ n * 2 ≤ arr.size)
theorem WR.of {w : World} {base n : Nat} {v : Value} {xs : List Value} (h : w.ownsRow base 81 2 v n xs) : WR w v n := by
  obtain ⟨h0, h⟩ := h
  rcases h with ⟨rfl, hn⟩ | ⟨g, cap, cur, rfl, hb, h1, h2, h3, h4, h5⟩
  · exact ⟨none, 0, by rw [hn], .inl hn⟩
  · exact ⟨_, _, rfl, .inr ⟨g, cur, rfl, h1, by rw [h4]; omega⟩⟩
theorem WR.below {w w' : World} {v : Value} {n : Nat} (h : WR w v n) (hb : Below w.heap.size w w') : WR w' v n := by
  obtain ⟨a, cap, rfl, q | ⟨g, arr, rfl, h1, h2⟩⟩ := h
  · exact ⟨_, _, rfl, .inl q⟩
  · exact ⟨_, _, rfl, .inr ⟨g, arr, rfl, (hb.block _ (Array.getElem?_eq_some_iff.1 h1).1).trans h1, h2⟩⟩
theorem WR.set {w : World} {v u : Value} {n b j : Nat} {arr' : Array Value} (h : WR w v n) (hb : w.heap[b]? = some (.cells arr' 81 (0, 0))) : WR (w.setCell ⟨b, j, none⟩ u) v n := by
  obtain ⟨a, cap, rfl, q | ⟨g, arr, rfl, h1, h2⟩⟩ := h
  · exact ⟨_, _, rfl, .inl q⟩
  · by_cases e : g = b
    · subst e
      exact ⟨_, _, rfl, .inr ⟨g, _, rfl, heap_set h1, by rw [Array.size_setIfInBounds]; exact h2⟩⟩
    · exact ⟨_, _, rfl, .inr ⟨g, arr, rfl, (heap_set_other e).trans h1, h2⟩⟩
theorem own_sgc {w : World} {base : Nat} {v : Value} {L : List (Int × Nat)} (h : w.ownsRow base 81 2 v L.length (sgI L)) (hb : ∀ p ∈ L, p.2 < 256) : SgC w v L := by
  have h' := h
  obtain ⟨h0, h⟩ := h
  rcases h with ⟨rfl, hn⟩ | ⟨g, cap, cur, rfl, hbb, h1, h2, h3, h4, h5⟩
  · have e := List.eq_nil_of_length_eq_zero hn
    subst e
    exact ⟨⟨none, 0, rfl, fun i hi => by simp at hi⟩, fun a n c e => by simp only [Value.slice.injEq] at e; omega⟩
  · refine ⟨⟨_, _, rfl, fun i hi => ?_⟩, fun a n c e => by simp only [Value.slice.injEq] at e; omega⟩
    obtain ⟨q1, q2⟩ := sgI_at L i hi
    have z0 := World.ownsRow.cellAt h' (i * 2) (by omega)
    have z1 := World.ownsRow.cellAt h' (i * 2 + 1) (by omega)
    refine ⟨g, 0, rfl, (Array.getElem?_eq_some_iff.1 h1).1, by rw [Nat.zero_add, z0, q1], by rw [Nat.zero_add, z1, q2], hb _ ?_⟩
    rw [List.getD_eq_getElem?_getD, List.getElem?_eq_getElem hi]
    exact List.getElem_mem hi
theorem sgr_byt {w : World} {v : Value} {L : List (Int × Nat)} (h : SgR w v L) : ∀ p ∈ L, p.2 < 256 := fun p hp => by
  obtain ⟨i, hi, e⟩ := List.getElem_of_mem hp
  obtain ⟨a, cap, rfl, hr⟩ := h
  obtain ⟨g, o, _, _, _, _, h3⟩ := hr i hi
  rw [List.getD_eq_getElem?_getD, List.getElem?_eq_getElem hi, Option.getD_some, e] at h3
  exact h3
theorem turn_mem : ∀ (t : Tm) (p : Nat × Nat), p ∈ t.turn → p ∈ t.sg
  | .one, p, h => h
  | .var c, p, h => h
  | .om t, p, h => by
    have h1 : p ∈ t.turn ++ [(4, 0)] := h
    show p ∈ t.sg ++ [(4, 0)]
    rw [List.mem_append] at h1 ⊢
    exact h1.imp (turn_mem t p) id
  | .mul a b, p, h => by
    have h1 : p ∈ (b.turn ++ a.turn) ++ [(3, 0)] := h
    show p ∈ (a.sg ++ b.sg) ++ [(3, 0)]
    simp only [List.mem_append] at h1 ⊢
    rcases h1 with (h1 | h1) | h1
    · exact .inl (.inr (turn_mem b p h1))
    · exact .inl (.inl (turn_mem a p h1))
    · exact .inr h1

set_option maxHeartbeats 8000000 in
set_option maxRecDepth 100000 in
theorem spoil_any (vl vr : Value) (x : Bool) (nl nr : Nat) (w : World) (hl : WR w vl nl) (hr : WR w vr nr) (hL : nl ≤ 9223372036854775000) (hR : nr ≤ 9223372036854775000) :
    Calls Try.prog 13 #[.agg #[vl, vr, .bool x]] w fun e w' => e = .returned (.tuple #[]) ∧ Only (fun b => vl.ownBlock = some b ∨ vr.ownBlock = some b) w w' := by
  obtain ⟨w1, hw1⟩ : ∃ w1, w1 = w.alloc (.cells #[vl, vr, .bool x] 24) := ⟨_, rfl⟩
  have hb1 : Below w.heap.size w w1 := by rw [hw1]; exact below_new _ _
  have hi1 : w1.heap[w.heap.size]? = some (.cells #[vl, vr, .bool x] 24 (0, 0)) := by rw [hw1]; exact heap_last _ _
  have hl1 := hl.below hb1
  have hr1 := hr.below hb1
  obtain ⟨a1, c1, rfl, -⟩ := hl
  obtain ⟨a2, c2, rfl, -⟩ := hr
  have HW1 : Hid (w1 = w.alloc (.cells #[.slice a1 nl c1, .slice a2 nr c2, .bool x] 24)) := hw1
  have HI1 : Hid (w1.heap[w.heap.size]? = some (.cells #[.slice a1 nl c1, .slice a2 nr c2, .bool x] 24 (0, 0)) ∧ WR w1 (.slice a1 nl c1) nl ∧ WR w1 (.slice a2 nr c2) nr ∧ Only (fun b => (Value.slice a1 nl c1).ownBlock = some b ∨ (Value.slice a2 nr c2).ownBlock = some b) w w1) := ⟨hi1, hl1, hr1, Only.of hb1⟩
  clear hw1 hb1 hi1 hl1 hr1
  go_enter Try.func13, Try.ntmps13
  go_upto_region 1 with fail
  rw [← HW1.out]
  go_wp2_with fail
  go_loopw [2] (fun vi wr => ∃ i : Nat, vi = .int .i64 (i : Nat) ∧ i ≤ nl ∧ wr.heap[w.heap.size]? = some (.cells #[.slice a1 nl c1, .slice a2 nr c2, .bool x] 24 (0, 0)) ∧ WR wr (.slice a1 nl c1) nl ∧ WR wr (.slice a2 nr c2) nr ∧ Only (fun b => (Value.slice a1 nl c1).ownBlock = some b ∨ (Value.slice a2 nr c2).ownBlock = some b) w wr) (fun vi _ => nl - (Go.RowKit.intOf vi).toNat)
  case atStart => exact ⟨0, rfl, Nat.zero_le _, HI1.out⟩
  case round =>
    obtain ⟨i, rfl, hin, hi, hwl, hwr, hon⟩ := hrel
    have HI : Hid (wr.heap[w.heap.size]? = some (.cells #[.slice a1 nl c1, .slice a2 nr c2, .bool x] 24 (0, 0))) := hi
    have HWL : Hid (WR wr (.slice a1 nl c1) nl) := hwl
    have HWR : Hid (WR wr (.slice a2 nr c2) nr) := hwr
    have HON : Hid (Only (fun b => (Value.slice a1 nl c1).ownBlock = some b ∨ (Value.slice a2 nr c2).ownBlock = some b) w wr) := hon
    have k0 : wr.cell? ⟨w.heap.size, 0, none⟩ = some (.slice a1 nl c1) := cell_at hi rfl
    have k1 : wr.cell? ⟨w.heap.size, 1, none⟩ = some (.slice a2 nr c2) := cell_at hi rfl
    clear hi hwl hwr hon
    by_cases hlt : i < nl
    · have hiI : (i : Int) < nl := by omega
      have hid : decide ((i : Int) < nl) = true := decide_eq_true hiI
      obtain ⟨a0, cap0, e0, q0 | ⟨g, arr, e1, hg, hsz⟩⟩ := HWL.out
      · omega
      simp only [Value.slice.injEq] at e0
      obtain ⟨rfl, _, rfl⟩ := e0
      subst e1
      have hx0 : i * 2 < arr.size := by omega
      have hx1 : i * 2 + 1 < arr.size := by omega
      have x0 : wr.cell? ⟨g, i * 2, none⟩ = some arr[i * 2] := cell_at hg (Array.getElem?_eq_getElem hx0)
      have x1 : wr.cell? ⟨g, i * 2 + 1, none⟩ = some arr[i * 2 + 1] := cell_at hg (Array.getElem?_eq_getElem hx1)
      have xf : ∀ j, wr.frozen? ⟨g, j, none⟩ = false := fun j => froz_of hg
      have hw3 : IntKind.i64.wrap ((i : Int) + 1) = ((i + 1 : Nat) : Int) := by rw [IntKind.wrap_i64]; omega
      have HNX : Hid (∀ u1 u2, ((wr.setCell ⟨g, i * 2, none⟩ u1).setCell ⟨g, i * 2 + 1, none⟩ u2).heap[w.heap.size]? = some (.cells #[.slice (some ⟨g, 0, none⟩) nl c1, .slice a2 nr c2, .bool x] 24 (0, 0)) ∧ WR ((wr.setCell ⟨g, i * 2, none⟩ u1).setCell ⟨g, i * 2 + 1, none⟩ u2) (.slice (some ⟨g, 0, none⟩) nl c1) nl ∧ WR ((wr.setCell ⟨g, i * 2, none⟩ u1).setCell ⟨g, i * 2 + 1, none⟩ u2) (.slice a2 nr c2) nr ∧ Only (fun b => (Value.slice (some ⟨g, 0, none⟩) nl c1).ownBlock = some b ∨ (Value.slice a2 nr c2).ownBlock = some b) w ((wr.setCell ⟨g, i * 2, none⟩ u1).setCell ⟨g, i * 2 + 1, none⟩ u2)) := fun u1 u2 => by
        have hgI : g ≠ w.heap.size := fun e => by
          rw [e, HI.out] at hg
          injection hg with hg
          injection hg with _ hg _
          exact absurd hg (by decide)
        refine ⟨by rw [heap_set_other hgI.symm, heap_set_other hgI.symm]; exact HI.out, (HWL.out.set hg).set (heap_set hg), (HWR.out.set hg).set (heap_set hg), ?_⟩
        have hS : (fun b => (Value.slice (some ⟨g, 0, none⟩) nl c1).ownBlock = some b ∨ (Value.slice a2 nr c2).ownBlock = some b) g := .inl rfl
        exact (HON.out.set hS).set hS
      clear hg
      go_wp2_with fail
      go_roundw
      case rel => exact ⟨i + 1, rfl, hlt, HNX.out _ _⟩
      case measure => simp [Go.RowKit.intOf]; omega
    · have hiI : ¬ (i : Int) < nl := by omega
      have hid : decide ((i : Int) < nl) = false := decide_eq_false hiI
      go_wp2_with fail
      go_loopw [3] (fun vi wr => ∃ i : Nat, vi = .int .i64 (i : Nat) ∧ i ≤ nr ∧ wr.heap[w.heap.size]? = some (.cells #[.slice a1 nl c1, .slice a2 nr c2, .bool x] 24 (0, 0)) ∧ WR wr (.slice a1 nl c1) nl ∧ WR wr (.slice a2 nr c2) nr ∧ Only (fun b => (Value.slice a1 nl c1).ownBlock = some b ∨ (Value.slice a2 nr c2).ownBlock = some b) w wr) (fun vi _ => nr - (Go.RowKit.intOf vi).toNat)
      case atStart => exact ⟨0, rfl, Nat.zero_le _, HI.out, HWL.out, HWR.out, HON.out⟩
      case round =>
        obtain ⟨i, rfl, hin, hi, hwl, hwr, hon⟩ := hrel
        have HI : Hid (wr.heap[w.heap.size]? = some (.cells #[.slice a1 nl c1, .slice a2 nr c2, .bool x] 24 (0, 0))) := hi
        have HWL : Hid (WR wr (.slice a1 nl c1) nl) := hwl
        have HWR : Hid (WR wr (.slice a2 nr c2) nr) := hwr
        have HON : Hid (Only (fun b => (Value.slice a1 nl c1).ownBlock = some b ∨ (Value.slice a2 nr c2).ownBlock = some b) w wr) := hon
        have k0 : wr.cell? ⟨w.heap.size, 0, none⟩ = some (.slice a1 nl c1) := cell_at hi rfl
        have k1 : wr.cell? ⟨w.heap.size, 1, none⟩ = some (.slice a2 nr c2) := cell_at hi rfl
        clear hi hwl hwr hon
        by_cases hlt : i < nr
        · have hiI : (i : Int) < nr := by omega
          have hid : decide ((i : Int) < nr) = true := decide_eq_true hiI
          obtain ⟨a0, cap0, e0, q0 | ⟨g, arr, e1, hg, hsz⟩⟩ := HWR.out
          · omega
          simp only [Value.slice.injEq] at e0
          obtain ⟨rfl, _, rfl⟩ := e0
          subst e1
          have hx0 : i * 2 < arr.size := by omega
          have hx1 : i * 2 + 1 < arr.size := by omega
          have x0 : wr.cell? ⟨g, i * 2, none⟩ = some arr[i * 2] := cell_at hg (Array.getElem?_eq_getElem hx0)
          have x1 : wr.cell? ⟨g, i * 2 + 1, none⟩ = some arr[i * 2 + 1] := cell_at hg (Array.getElem?_eq_getElem hx1)
          have xf : ∀ j, wr.frozen? ⟨g, j, none⟩ = false := fun j => froz_of hg
          have hw3 : IntKind.i64.wrap ((i : Int) + 1) = ((i + 1 : Nat) : Int) := by rw [IntKind.wrap_i64]; omega
          have HNX : Hid (∀ u1 u2, ((wr.setCell ⟨g, i * 2, none⟩ u1).setCell ⟨g, i * 2 + 1, none⟩ u2).heap[w.heap.size]? = some (.cells #[.slice a1 nl c1, .slice (some ⟨g, 0, none⟩) nr c2, .bool x] 24 (0, 0)) ∧ WR ((wr.setCell ⟨g, i * 2, none⟩ u1).setCell ⟨g, i * 2 + 1, none⟩ u2) (.slice a1 nl c1) nl ∧ WR ((wr.setCell ⟨g, i * 2, none⟩ u1).setCell ⟨g, i * 2 + 1, none⟩ u2) (.slice (some ⟨g, 0, none⟩) nr c2) nr ∧ Only (fun b => (Value.slice a1 nl c1).ownBlock = some b ∨ (Value.slice (some ⟨g, 0, none⟩) nr c2).ownBlock = some b) w ((wr.setCell ⟨g, i * 2, none⟩ u1).setCell ⟨g, i * 2 + 1, none⟩ u2)) := fun u1 u2 => by
            have hgI : g ≠ w.heap.size := fun e => by
              rw [e, HI.out] at hg
              injection hg with hg
              injection hg with _ hg _
              exact absurd hg (by decide)
            refine ⟨by rw [heap_set_other hgI.symm, heap_set_other hgI.symm]; exact HI.out, (HWL.out.set hg).set (heap_set hg), (HWR.out.set hg).set (heap_set hg), ?_⟩
            have hS : (fun b => (Value.slice a1 nl c1).ownBlock = some b ∨ (Value.slice (some ⟨g, 0, none⟩) nr c2).ownBlock = some b) g := .inr rfl
            exact (HON.out.set hS).set hS
          clear hg
          go_wp2_with fail
          go_roundw
          case rel => exact ⟨i + 1, rfl, hlt, HNX.out _ _⟩
          case measure => simp [Go.RowKit.intOf]; omega
        · have hiI : ¬ (i : Int) < nr := by omega
          have hid : decide ((i : Int) < nr) = false := decide_eq_false hiI
          go_wp2_with fail
          first
            | go_end0
            | skip
          exact ⟨rfl, HON.out⟩
end Go.Proofs.Ythhlamehbcidgaa
