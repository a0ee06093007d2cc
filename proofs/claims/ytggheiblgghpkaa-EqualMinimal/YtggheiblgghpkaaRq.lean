/- Contract of slices.Reverse at []byte, over a row of bytes that the caller itself made: the row holds the bytes from behind; nothing below the caller's own blocks turns. -/
import Derived.Test.YtggheiblgghpkaaRows
import Derived.WalkKit
import Derived.WalkSpells
import Derived.WalkLawsBesides
import Derived.Lib.UnsafeStr
import Derived.Deep.RegionWith
import Derived.Laws.IdiomStrings
namespace Go.Proofs.Ytggheiblgghpkaa
open Go.RowKit Go.Lib

/-- The first i and the last i places changed about. -/
def revTo (l : List UInt8) (i : Nat) : List UInt8 := List.ofFn (n := l.length) fun t => if t.val < i ∨ l.length ≤ t.val + i then l.getD (l.length - 1 - t.val) 0 else l.getD t.val 0
theorem revTo_length (l : List UInt8) (i : Nat) : (revTo l i).length = l.length := by simp [revTo]
theorem revTo_get (l : List UInt8) (i t : Nat) (h : t < l.length) : (revTo l i)[t]? = some (if t < i ∨ l.length ≤ t + i then l.getD (l.length - 1 - t) 0 else l.getD t 0) := by
  simp [revTo, h]
theorem revTo_zero (l : List UInt8) : revTo l 0 = l := by
  apply List.ext_getElem?
  intro t
  by_cases h : t < l.length
  · rw [revTo_get l 0 t h, if_neg (by omega)]
    simp [h]
  · rw [List.getElem?_eq_none (by rw [revTo_length]; omega), List.getElem?_eq_none (by omega)]
theorem revTo_end (l : List UInt8) (i : Nat) (h : l.length ≤ 2 * i + 1) : revTo l i = l.reverse := by
  apply List.ext_getElem?
  intro t
  by_cases ht : t < l.length
  · rw [revTo_get l i t ht, List.getElem?_reverse ht]
    have e : ∀ x, x < l.length → l[x]? = some (l.getD x 0) := fun x hx => by simp [hx]
    by_cases hc : t < i ∨ l.length ≤ t + i
    · rw [if_pos hc, e _ (by omega)]
    · rw [if_neg hc]
      have : l.length - 1 - t = t := by omega
      rw [this, e t ht]
  · rw [List.getElem?_eq_none (by rw [revTo_length]; omega), List.getElem?_eq_none (by simp; omega)]
theorem revTo_step (l : List UInt8) (i : Nat) (h : 2 * i + 1 < l.length) :
    revTo l (i + 1) = ((revTo l i).set i (l.getD (l.length - 1 - i) 0)).set (l.length - 1 - i) (l.getD i 0) := by
  apply List.ext_getElem?
  intro t
  by_cases ht : t < l.length
  · rw [revTo_get l (i + 1) t ht]
    simp only [List.getElem?_set, List.length_set, revTo_length]
    by_cases h1 : l.length - 1 - i = t
    · rw [if_pos h1, if_pos (by omega), if_pos (by omega)]
      have : l.length - 1 - t = i := by omega
      rw [this]
    · rw [if_neg h1]
      by_cases h2 : i = t
      · rw [if_pos h2, if_pos (by omega), if_pos (by omega)]
        rw [h2]
      · rw [if_neg h2, revTo_get l i t ht]
        by_cases h3 : t < i ∨ l.length ≤ t + i
        · rw [if_pos (by omega), if_pos h3]
        · rw [if_neg (by omega), if_neg h3]
  · rw [List.getElem?_eq_none (by rw [revTo_length]; omega), List.getElem?_eq_none (by simp [revTo_length]; omega)]

theorem byteCells_set (l : List UInt8) (i : Nat) (c : UInt8) : (byteCells l).set i (Value.int .u8 c.toNat) = byteCells (l.set i c) := by
  simp [byteCells, List.map_set]
theorem byteCells_get (l : List UInt8) (i : Nat) (c : UInt8) (h : l[i]? = some c) : (byteCells l)[i]? = some (Value.int .u8 c.toNat) := by
  simp [byteCells, h]

theorem swap_row {wr : World} {base g cap : Nat} {e : TypeId} {l : List UInt8} {i : Nat} (hown : wr.ownsRow base e 1 (.slice (some ⟨g, 0, none⟩) l.length cap) l.length (byteCells (revTo l i))) (h : 2 * i + 1 < l.length) :
    ((wr.setCell ⟨g, i, none⟩ (.int .u8 (l.getD (l.length - 1 - i) 0).toNat)).setCell ⟨g, l.length - 1 - i, none⟩ (.int .u8 (l.getD i 0).toNat)).ownsRow base e 1 (.slice (some ⟨g, 0, none⟩) l.length cap) l.length (byteCells (revTo l (i + 1))) := by
  have s := ((hown.stored i (.int .u8 (l.getD (l.length - 1 - i) 0).toNat)).1.stored (l.length - 1 - i) (.int .u8 (l.getD i 0).toNat)).1
  rw [byteCells_set, byteCells_set, ← revTo_step l i h] at s
  exact s

set_option maxHeartbeats 1000000 in
set_option maxRecDepth 100000 in
theorem slReverse_own (base g cap : Nat) (l : List UInt8) (w : World) (hown : w.ownsRow base 5 1 (.slice (some ⟨g, 0, none⟩) l.length cap) l.length (byteCells l)) (hl : l.length ≤ 9223372036854775807) (B : Nat) (hB : B ≤ g) :
    Calls Try.prog 67 #[.slice (some ⟨g, 0, none⟩) l.length cap] w fun e w' => e = .returned (.tuple #[]) ∧ w'.ownsRow base 5 1 (.slice (some ⟨g, 0, none⟩) l.length cap) l.length (byteCells l.reverse) ∧ Below B w w' := by
  go_enter Try.func67, Try.ntmps67
  go_wp2
  go_loopw [2, 3] (fun s2 s3 wr => ∃ (i : Nat), s2 = .int .i64 i ∧ s3 = .int .i64 ((l.length : Int) - 1 - i) ∧ 2 * i ≤ l.length + 1 ∧ wr.ownsRow base 5 1 (.slice (some ⟨g, 0, none⟩) l.length cap) l.length (byteCells (revTo l i)) ∧ Below B w wr)
    (fun s2 _ _ => l.length - (intOf s2).toNat)
  case atStart => exact ⟨0, rfl, by simp, by omega, by rw [revTo_zero]; exact hown, Below.refl _ _⟩
  case round =>
    obtain ⟨i, rfl, rfl, hi, hown, hb⟩ := hrel
    by_cases hlt : 2 * i + 1 < l.length
    · have ci := hown.cellAt i (by omega)
      have cj := hown.cellAt (l.length - 1 - i) (by omega)
      have fi := hown.frozenAt i
      have fj := hown.frozenAt (l.length - 1 - i)
      have R := swap_row hown hlt
      rw [byteCells_get _ _ _ (revTo_get l i i (by omega)), if_neg (by omega)] at ci
      rw [byteCells_get _ _ _ (revTo_get l i (l.length - 1 - i) (by omega)), if_neg (by omega)] at cj
      obtain ⟨j, hj⟩ : ∃ j, l.length - 1 - i = j := ⟨_, rfl⟩
      rw [hj] at cj fj R
      have ej : ((l.length : Int) - 1 - i) = (j : Int) := by omega
      have h1 : (i : Int) < j := by omega
      have h2 : j < l.length := by omega
      have h3 : i < l.length := by omega
      rw [ej]
      have HR : Hid _ := R
      have HJ : Hid (l.length - 1 - i = j) := hj
      clear R hj ej
      generalize l.getD i 0 = x at *
      generalize l.getD j 0 = y at *
      go_wp2_with fail
      go_region
      go_wp2
      go_roundw
      case rel =>
        have hJ := HJ.out
        exact ⟨i + 1, by go_num, congrArg (Value.int .i64) (by omega), by omega, World.ownsRow.drew HR.out, ((hb.setCell (p := ⟨g, i, none⟩) hB _).setCell (p := ⟨g, j, none⟩) hB _).drew⟩
      case measure => simp [intOf]; omega
    · have h1 : ¬ (i : Int) < (l.length : Int) - 1 - i := by omega
      go_wp2
      go_end0
      have he := revTo_end l i (by omega)
      exact ⟨rfl, by rw [← he]; exact hown, hb⟩

set_option maxHeartbeats 400000 in
/-- The same at a slice of no bytes. -/
theorem slReverse_none (a : Option Addr) (cap : Nat) (w : World) :
    Calls Try.prog 67 #[.slice a 0 cap] w fun e w' => e = .returned (.tuple #[]) ∧ w' = w := by
  go_enter Try.func67, Try.ntmps67
  go_wp2
  refine wp_loop_rounds 1 ?_
  rw [rounds_succ]
  go_wp2
  go_end0
  exact ⟨rfl, rfl⟩

theorem Try.info_u8 : (Try.prog.info? 5).map (fun i => (i.zero, i.size, i.bytes)) = some (some (.int .u8 0), 1, 1) := by kernel_rfl
theorem slReverse_any (base : Nat) (v : Value) (l : List UInt8) (w : World) (hown : w.ownsRow base 5 1 v l.length (byteCells l)) (hl : l.length ≤ 9223372036854775807) :
    Calls Try.prog 67 #[v] w fun e w' => e = .returned (.tuple #[]) ∧ w'.ownsRow base 5 1 v l.length (byteCells l.reverse) ∧ Below base w w' := by
  obtain ⟨h0, h⟩ := hown
  rcases h with ⟨rfl, hn⟩ | ⟨g, cap, cur, rfl, hb, h1, h2, h3, h4, h5⟩
  · have : l = [] := List.eq_nil_of_length_eq_zero hn
    subst this
    refine (slReverse_none none 0 w).mono ?_
    rintro e w1 ⟨rfl, rfl⟩
    exact ⟨rfl, World.ownsRow_nil _ _ _ _, Below.refl _ _⟩
  · exact slReverse_own base g cap l w ⟨h0, .inr ⟨g, cap, cur, rfl, hb, h1, h2, h3, h4, h5⟩⟩ hl base hb

/-- string(b) of an owned row of bytes. -/
theorem run_string_own (base : Nat) (v : Value) (l : List UInt8) (w : World) (hown : w.ownsRow base 5 1 v l.length (byteCells l)) :
    (convert 98 9 v).run Try.prog w = .ok (.string ⟨l.toArray⟩) w := by
  obtain ⟨h0, h⟩ := hown
  rcases h with ⟨rfl, hn⟩ | ⟨g, cap, cur, rfl, hb, h1, h2, h3, h4, h5⟩
  · have : l = [] := List.eq_nil_of_length_eq_zero hn
    subst this
    rw [run_convert_bytes_string w _ _ 5 none 0 0 Try.underlying98 Try.underlying5 Try.underlying9]
    rfl
  · refine run_convert_bytes_back w _ _ 5 ⟨g, 0, none⟩ cap l Try.underlying98 Try.underlying5 Try.underlying9 ?_
    intro j hj
    have hown : w.ownsRow base 5 1 (.slice (some ⟨g, 0, none⟩) l.length cap) l.length (byteCells l) := ⟨h0, .inr ⟨g, cap, cur, rfl, hb, h1, h2, h3, h4, h5⟩⟩
    exact hown.cells (g := g) rfl j _ (byteCells_get l j l[j] (by simp))

theorem digit_val (k q : Nat) (h1 : 1 ≤ k) (h8 : k ≤ 8) : (97 + (q : Int) % k) = ((UInt8.ofNat (97 + q % k)).toNat : Int) := by
  have : q % k < k := Nat.mod_lt _ (by omega)
  have e : (UInt8.ofNat (97 + q % k)).toNat = 97 + q % k := by
    rw [UInt8.toNat_ofNat']
    omega
  rw [e]
  omega
theorem own_snoc {w : World} {base n : Nat} {e : TypeId} {v : Value} {l : List UInt8} {c : UInt8} (h : w.ownsRow base e 1 v n (byteCells l ++ [Value.int .u8 (c.toNat : Int)])) : w.ownsRow base e 1 v n (byteCells (l ++ [c])) := by
  rw [byteCells_append]
  exact h

end Go.Proofs.Ytggheiblgghpkaa
