/- Contracts of word.Check, of the document's Check and Letters, and of the law's num: what each call answers, for every k and every string; no old memory is written. -/
import Derived.Test.YtihjhkbbpphocaaRows
import Derived.WalkKit
import Derived.WalkSpells
import Derived.WalkLawsBesides
namespace Go.Proofs.Ytihjhkbbpphocaa
open Go.RowKit

/-- The place i holds one of the first k letters. -/
def letterAt (k : Int) (c : UInt8) : Bool := decide (97 ≤ (c.toNat : Int) ∧ (c.toNat : Int) < 97 + k)
/-- What Check answers. -/
def chk (k : Int) (s : ByteArray) : Int := if k < 1 ∨ 8 < k then 20 else if s.data.toList.all (letterAt k) then 0 else 21

theorem chk_bad (k : Int) (s : ByteArray) (h : k < 1 ∨ 8 < k) : chk k s = 20 := by simp [chk, h]
theorem chk_ok (k : Int) (s : ByteArray) (h1 : 1 ≤ k) (h8 : k ≤ 8) (h : ∀ i (hi : i < s.size), letterAt k s[i] = true) : chk k s = 0 := by
  have e : s.data.toList.all (letterAt k) = true := by
    rw [List.all_eq_true]
    intro x hx
    obtain ⟨i, hi, rfl⟩ := List.mem_iff_getElem.1 hx
    exact h i (by simpa using hi)
  unfold chk
  rw [if_neg (by omega), if_pos e]
theorem chk_no (k : Int) (s : ByteArray) (h1 : 1 ≤ k) (h8 : k ≤ 8) (i : Nat) (hi : i < s.size) (h : letterAt k s[i] = false) : chk k s = 21 := by
  have e : ¬ s.data.toList.all (letterAt k) = true := by
    rw [List.all_eq_true]
    intro hx
    have := hx s[i] (by exact List.getElem_mem (l := s.data.toList) (by simpa using hi))
    rw [h] at this
    exact absurd this (by simp)
  unfold chk
  rw [if_neg (by omega), if_neg e]

/-- What Letters answers. -/
def lett (k : Int) : Int := if k < 1 ∨ 8 < k then 20 else 0
theorem lett_no (k : Int) (h : k < 1 ∨ 8 < k) : lett k = 20 := by simp [lett, h]
theorem lett_ok (k : Int) (h1 : 1 ≤ k) (h8 : k ≤ 8) : lett k = 0 := by unfold lett; rw [if_neg (by omega)]
theorem ret_intJ {k : IntKind} {a b : Int} (h : a = b) : Ending.returned (.int k a) = .returned (.int k b) := by rw [h]

set_option maxHeartbeats 400000 in
set_option maxRecDepth 100000 in
theorem check_any (k : Int) (s : ByteArray) (w : World) :
    Calls Try.prog 69 #[.int .i64 k, .string s] w fun e w' => e = .returned (.int .i64 (chk k s)) ∧ Below w.heap.size w w' := by
  by_cases hk1 : k < 1
  · go_enter Try.func69, Try.ntmps69
    go_wp2
    go_ret
    exact ⟨ret_intJ (chk_bad k s (.inl hk1)).symm, Below.refl _ _⟩
  by_cases hk8 : 8 < k
  · go_enter Try.func69, Try.ntmps69
    go_wp2
    go_ret
    exact ⟨ret_intJ (chk_bad k s (.inr hk8)).symm, Below.refl _ _⟩
  have h1 : 1 ≤ k := by omega
  have h8 : k ≤ 8 := by omega
  have hd1 : decide (k < 1) = false := by simpa using h1
  have hd8 : decide (8 < k) = false := by simpa using h8
  clear hk1 hk8
  go_enter Try.func69, Try.ntmps69
  go_wp2
  go_loopw [] (fun w' => ∃ (pos : Nat), w' = w.iter s pos ∧ (∀ i (hi : i < s.size), i < pos → letterAt k s[i] = true)) (fun w' => s.size - w'.iterPos w.heap.size)
  case atStart => exact ⟨0, rfl, fun i _ h => by omega⟩
  case round =>
    obtain ⟨pos, rfl, hall⟩ := hrel
    have HA : Hid (∀ i (hi : i < s.size), i < pos → letterAt k s[i] = true) := hall
    clear hall
    have hbel : ∀ p, Below w.heap.size w (w.iter s p) := fun p => (Below.refl _ _).alloc (Nat.le_refl _) _
    by_cases hp : pos < s.size
    · by_cases ha : (s[pos]'hp).toNat < 128
      · have hnx : ∀ ty, (Instr.next (.pointer (some ⟨w.heap.size, 0, none⟩)) true ty).run Try.prog (w.iter s pos) = _ := fun ty => run_next_ascii w s pos ty hp ha
        by_cases hl : (s[pos].toNat : Int) < 97
        · go_wp2
          go_ret
          exact ⟨ret_intJ (chk_no k s h1 h8 pos hp (by simp [letterAt]; omega)).symm, hbel _⟩
        by_cases hg : 97 + k ≤ (s[pos].toNat : Int)
        · go_wp2
          go_ret
          exact ⟨ret_intJ (chk_no k s h1 h8 pos hp (by simp [letterAt]; omega)).symm, hbel _⟩
        · go_wp2
          go_roundw
          case rel =>
            refine ⟨pos + 1, rfl, fun i hi hlt => ?_⟩
            by_cases he : i = pos
            · subst he
              simp [letterAt]; omega
            · exact HA.out i hi (by omega)
          case measure =>
            simp; omega
      · have hnx : ∀ ty, (Instr.next (.pointer (some ⟨w.heap.size, 0, none⟩)) true ty).run Try.prog (w.iter s pos) = _ := fun ty => run_next_any w s pos ty hp
        have hhi := (decode_high s pos hp (by omega)).1
        have hle := decode_le s pos
        have hl : ¬ ((Utf8.decode s pos).1 : Int) < 97 := by omega
        have hg : 97 + k ≤ ((Utf8.decode s pos).1 : Int) := by omega
        go_wp2
        go_ret
        exact ⟨ret_intJ (chk_no k s h1 h8 pos hp (by simp [letterAt]; omega)).symm, hbel _⟩
    · have hnx : ∀ ty, (Instr.next (.pointer (some ⟨w.heap.size, 0, none⟩)) true ty).run Try.prog (w.iter s pos) = _ := fun ty => run_next_end w s pos ty hp
      go_wp2
      go_ret
      exact ⟨ret_intJ (chk_ok k s h1 h8 (fun i hi => HA.out i hi (by omega))).symm, hbel _⟩

end Go.Proofs.Ytihjhkbbpphocaa
