/- Contract of slices.Reverse at []byte, over a row of bytes that the caller itself made: the row holds the bytes from behind; nothing below the caller's own blocks turns. -/
import Derived.Test.YtabkhoiccjkghaaRows
import Derived.WalkKit
import Derived.WalkSpells
import Derived.WalkLawsBesides
import Derived.Lib.UnsafeStr
import Derived.Deep.RegionWith
import Derived.Laws.IdiomStrings
namespace Go.Proofs.Ytabkhoiccjkghaa
open Go.RowKit Go.Lib

/-- The first i and the last i places changed about. -/
def revTo (l : List UInt8) (i : Nat) : List UInt8 := List.ofFn (n := l.length) fun t => if t.val < i ∨ l.length ≤ t.val + i then l.getD (l.length - 1 - t.val) 0 else l.getD t.val 0
theorem revTo_length (l : List UInt8) (i : Nat) : (revTo l i).length = l.length := by simp [revTo]
theorem revTo_get (l : List UInt8) (i t : Nat) (h : t < l.length) : (revTo l i)[t]? = some (if t < i ∨ l.length ≤ t + i then l.getD (l.length - 1 - t) 0 else l.getD t 0) := by
  simp [revTo, h]
theorem revTo_zero (l : List UInt8) : revTo l 0 = l := by
  apply List.ext_getElem?
  intro t
  by_cases h : t < l.length
  · rw [revTo_get l 0 t h, if_neg (by omega)]
    simp [h]
  · rw [List.getElem?_eq_none (by rw [revTo_length]; omega), List.getElem?_eq_none (by omega)]
theorem revTo_end (l : List UInt8) (i : Nat) (h : l.length ≤ 2 * i + 1) : revTo l i = l.reverse := by
  apply List.ext_getElem?
  intro t
  by_cases ht : t < l.length
  · rw [revTo_get l i t ht, List.getElem?_reverse ht]
    have e : ∀ x, x < l.length → l[x]? = some (l.getD x 0) := fun x hx => by simp [hx]
    by_cases hc : t < i ∨ l.length ≤ t + i
    · rw [if_pos hc, e _ (by omega)]
    · rw [if_neg hc]
      have : l.length - 1 - t = t := by omega
      rw [this, e t ht]
  · rw [List.getElem?_eq_none (by rw [revTo_length]; omega), List.getElem?_eq_none (by simp; omega)]
theorem revTo_step (l : List UInt8) (i : Nat) (h : 2 * i + 1 < l.length) :
    revTo l (i + 1) = ((revTo l i).set i (l.getD (l.length - 1 - i) 0)).set (l.length - 1 - i) (l.getD i 0) := by
  apply List.ext_getElem?
  intro t
  by_cases ht : t < l.length
  · rw [revTo_get l (i + 1) t ht]
    simp only [List.getElem?_set, List.length_set, revTo_length]
    by_cases h1 : l.length - 1 - i = t
    · rw [if_pos h1, if_pos (by omega), if_pos (by omega)]
      have : l.length - 1 - t = i := by omega
      rw [this]
    · rw [if_neg h1]
      by_cases h2 : i = t
      · rw [if_pos h2, if_pos (by omega), if_pos (by omega)]
        rw [h2]
      · rw [if_neg h2, revTo_get l i t ht]
        by_cases h3 : t < i ∨ l.length ≤ t + i
        · rw [if_pos (by omega), if_pos h3]
        · rw [if_neg (by omega), if_neg h3]
  · rw [List.getElem?_eq_none (by rw [revTo_length]; omega), List.getElem?_eq_none (by simp [revTo_length]; omega)]

theorem byteCells_set (l : List UInt8) (i : Nat) (c : UInt8) : (byteCells l).set i (Value.int .u8 c.toNat) = byteCells (l.set i c) := by
  simp [byteCells, List.map_set]
theorem byteCells_get (l : List UInt8) (i : Nat) (c : UInt8) (h : l[i]? = some c) : (byteCells l)[i]? = some (Value.int .u8 c.toNat) := by
  simp [byteCells, h]

theorem swap_row {wr : World} {base g cap : Nat} {e : TypeId} {l : List UInt8} {i : Nat} (hown : wr.ownsRow base e 1 (.slice (some ⟨g, 0, none⟩) l.length cap) l.length (byteCells (revTo l i))) (h : 2 * i + 1 < l.length) :
    ((wr.setCell ⟨g, i, none⟩ (.int .u8 (l.getD (l.length - 1 - i) 0).toNat)).setCell ⟨g, l.length - 1 - i, none⟩ (.int .u8 (l.getD i 0).toNat)).ownsRow base e 1 (.slice (some ⟨g, 0, none⟩) l.length cap) l.length (byteCells (revTo l (i + 1))) := by
  have s := ((hown.stored i (.int .u8 (l.getD (l.length - 1 - i) 0).toNat)).1.stored (l.length - 1 - i) (.int .u8 (l.getD i 0).toNat)).1
  rw [byteCells_set, byteCells_set, ← revTo_step l i h] at s
  exact s

/-- string(b) of an owned row of bytes. -/
theorem run_string_own (base : Nat) (v : Value) (l : List UInt8) (w : World) (hown : w.ownsRow base 5 1 v l.length (byteCells l)) :
    (convert 94 9 v).run Try.prog w = .ok (.string ⟨l.toArray⟩) w := by
  obtain ⟨h0, h⟩ := hown
  rcases h with ⟨rfl, hn⟩ | ⟨g, cap, cur, rfl, hb, h1, h2, h3, h4, h5⟩
  · have : l = [] := List.eq_nil_of_length_eq_zero hn
    subst this
    rw [run_convert_bytes_string w _ _ 5 none 0 0 Try.underlying94 Try.underlying5 Try.underlying9]
    rfl
  · refine run_convert_bytes_back w _ _ 5 ⟨g, 0, none⟩ cap l Try.underlying94 Try.underlying5 Try.underlying9 ?_
    intro j hj
    have hown : w.ownsRow base 5 1 (.slice (some ⟨g, 0, none⟩) l.length cap) l.length (byteCells l) := ⟨h0, .inr ⟨g, cap, cur, rfl, hb, h1, h2, h3, h4, h5⟩⟩
    exact hown.cells (g := g) rfl j _ (byteCells_get l j l[j] (by simp))

theorem digit_val (k q : Nat) (h1 : 1 ≤ k) (h8 : k ≤ 8) : (97 + (q : Int) % k) = ((UInt8.ofNat (97 + q % k)).toNat : Int) := by
  have : q % k < k := Nat.mod_lt _ (by omega)
  have e : (UInt8.ofNat (97 + q % k)).toNat = 97 + q % k := by
    rw [UInt8.toNat_ofNat']
    omega
  rw [e]
  omega
theorem own_snoc {w : World} {base n : Nat} {e : TypeId} {v : Value} {l : List UInt8} {c : UInt8} (h : w.ownsRow base e 1 v n (byteCells l ++ [Value.int .u8 (c.toNat : Int)])) : w.ownsRow base e 1 v n (byteCells (l ++ [c])) := by
  rw [byteCells_append]
  exact h

end Go.Proofs.Ytabkhoiccjkghaa
