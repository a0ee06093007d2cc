/- What renaming and reversal keep (pure facts). -/
import Derived.Test.YtchaggigabccaabDoorPd
import Derived.Test.YtchaggigabccaabDoorTs
namespace Go.Proofs.YtchaggigabccaabDoor
open Go Go.RowKit

theorem Tr.star_lt : ∀ t : Tr, t.ok → t.way wtS + 1 ≤ t.way (fun _ => 1)
  | .zero n, h => by
    have : ¬ n.1 = 8 := by intro e; have := h.2; rw [e] at this; simp [arity] at this
    simp [Tr.way, wtS, this]
  | .one n a, h => by
    have := Tr.star_lt a h.2.2
    have := wtS_le n
    simp only [Tr.way]; omega
  | .two n a b, h => by
    have := Tr.star_lt a h.2.2.1
    have := Tr.star_lt b h.2.2.2
    have := wtS_le n
    simp only [Tr.way]
    have h1 := Nat.le_max_left (a.way (fun _ => 1)) (b.way (fun _ => 1))
    have h2 := Nat.le_max_right (a.way (fun _ => 1)) (b.way (fun _ => 1))
    have h3 : max (a.way wtS) (b.way wtS) + 1 ≤ max (a.way (fun _ => 1)) (b.way (fun _ => 1)) := by
      rcases Nat.le_total (a.way wtS) (b.way wtS) with hh | hh
      · rw [Nat.max_eq_right hh]; omega
      · rw [Nat.max_eq_left hh]; omega
    have h4 : ¬ (n.1 = 8) := by intro e; have := h.2.1; rw [e] at this; simp [arity] at this
    simp only [wtS, if_neg h4]
    omega
theorem letter_pos {n : Nd} (h : good n = true) (h3 : n.1 = 3) : 97 ≤ n.2 ∧ n.2 ≤ 104 := by
  simpa [good, h3, isLet] using h
theorem lets_at {s : ByteArray} (h : lets s = true) {i : Nat} (hi : i < s.size) : isLet (bAt s i) = true := by
  unfold lets at h
  rw [List.all_eq_true] at h
  exact h i (List.mem_range.2 hi)
theorem ren_kind (s : ByteArray) (n : Nd) : (ren s n).1 = n.1 := by
  unfold ren
  split
  · next h => rw [h]
  · rfl
theorem ren_good {s : ByteArray} (h8 : s.size = 8) (hl : lets s = true) {n : Nd} (h : good n = true) : good (ren s n) = true := by
  unfold ren
  by_cases h3 : n.1 = 3
  · rw [if_pos h3]
    have := letter_pos h h3
    simp only [good, if_true]
    exact lets_at hl (by omega)
  · rw [if_neg h3]; exact h
theorem free_ren {s : ByteArray} (h8 : s.size = 8) (hl : lets s = true) (ts : List Nd) : ∀ c, freeN ts = some c → freeN (ts.map (ren s)) = some c := by
  refine snoc_ind (P := fun ts => ∀ c, freeN ts = some c → freeN (ts.map (ren s)) = some c) (fun c h => h) (fun ts n ih c hc => ?_) ts
  rw [freeN_snoc] at hc
  cases hd : freeN ts with
  | none => rw [hd] at hc; simp at hc
  | some d =>
    rw [hd] at hc
    simp only [Option.bind_some] at hc
    by_cases hg : good n = true ∧ arity n.1 ≤ d
    · rw [if_pos hg] at hc
      rw [List.map_append, List.map_singleton, freeN_snoc, ih d hd, Option.bind_some, ren_kind, if_pos ⟨ren_good h8 hl hg.1, hg.2⟩]
      exact hc
    · rw [if_neg hg] at hc; cases hc
theorem wrong_ren {s : ByteArray} (h8 : s.size = 8) (hl : lets s = true) {ts : List Nd} (h : wrong ts = 0) : wrong (ts.map (ren s)) = 0 := by
  obtain ⟨h1, h2⟩ := wrong_len h
  rw [wrong, List.length_map, if_neg (by omega), if_pos (free_ren h8 hl ts 1 h2)]
theorem renE_zero {s : ByteArray} {ts : List Nd} (h : renE s ts = 0) : s.size = 8 ∧ lets s = true ∧ wrong ts = 0 := by
  unfold renE at h
  by_cases h0 : wrong ts = 0
  · rw [if_neg (by simpa using h0)] at h
    by_cases h8 : s.size = 8
    · rw [if_neg (by simpa using h8)] at h
      cases hl : lets s with
      | true => exact ⟨h8, rfl, h0⟩
      | false => rw [hl] at h; simp at h
    · rw [if_pos h8] at h; cases h
  · rw [if_pos h0] at h; exact absurd h h0
theorem renE_of {s : ByteArray} {ts : List Nd} (h8 : s.size = 8) (hl : lets s = true) (h : wrong ts = 0) : renE s ts = 0 := by
  unfold renE
  rw [if_neg (by simpa using h), if_neg (by simpa using h8), hl]
  rfl
/-- The text that renames by two, one behind the other. -/
def Both (a b c : ByteArray) (i : Nat) : Prop := c.size = i ∧ ∀ j, j < i → bAt c j = bAt b (bAt a j - 97).toNat
theorem let_place {s : ByteArray} (hl : lets s = true) {i : Nat} (hi : i < s.size) : ∃ q : Nat, bAt s i = 97 + (q : Int) ∧ q < 8 := by
  have := lets_at hl hi
  simp only [isLet, decide_eq_true_eq] at this
  exact ⟨(bAt s i - 97).toNat, by omega, by omega⟩
theorem both_lets {a b c : ByteArray} (h8 : a.size = 8) (ha : lets a = true) (hb8 : b.size = 8) (hb : lets b = true) (h : Both a b c 8) : lets c = true := by
  refine lets_all fun i hi => ?_
  rw [h.1] at hi
  rw [h.2 i hi]
  obtain ⟨q, hq, hq8⟩ := let_place ha (i := i) (by omega)
  rw [hq]
  exact lets_at hb (by omega)
theorem both_ren {a b c : ByteArray} (h : Both a b c 8) {n : Nd} (hg : good n = true) : ren c n = ren b (ren a n) := by
  unfold ren
  by_cases h3 : n.1 = 3
  · rw [if_pos h3, if_pos h3, if_pos rfl]
    have := letter_pos hg h3
    rw [h.2 _ (by omega)]
  · rw [if_neg h3, if_neg h3, if_neg h3]
theorem good_mem {ts : List Nd} (hf : freeN ts = some 1) {n : Nd} (hn : n ∈ ts) : good n = true := by
  obtain ⟨i, hi, rfl⟩ := List.mem_iff_getElem.1 hn
  obtain ⟨_, _, h, _⟩ := free_good hf hi
  rwa [List.getD_eq_getElem?_getD, List.getElem?_eq_getElem hi] at h
theorem both_map {a b c : ByteArray} (h : Both a b c 8) {ts : List Nd} (hf : freeN ts = some 1) : ts.map (ren c) = (ts.map (ren a)).map (ren b) := by
  rw [List.map_map]
  apply List.map_congr_left
  intro n hn
  exact both_ren h (good_mem hf hn)
end Go.Proofs.YtchaggigabccaabDoor
