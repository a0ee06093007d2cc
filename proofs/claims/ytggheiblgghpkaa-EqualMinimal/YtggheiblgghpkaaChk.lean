/- Contracts of word.Check, of the document's Check and Letters, and of the law's num: what each call answers, for every k and every string; no old memory is written. -/
import Derived.Test.YtggheiblgghpkaaRows
import Derived.WalkKit
import Derived.WalkSpells
import Derived.WalkLawsBesides
namespace Go.Proofs.Ytggheiblgghpkaa
open Go.RowKit

/-- The place i holds one of the first k letters. -/
def letterAt (k : Int) (c : UInt8) : Bool := decide (97 ≤ (c.toNat : Int) ∧ (c.toNat : Int) < 97 + k)
/-- What Check answers. -/
def chk (k : Int) (s : ByteArray) : Int := if k < 1 ∨ 8 < k then 20 else if s.data.toList.all (letterAt k) then 0 else 21

theorem chk_bad (k : Int) (s : ByteArray) (h : k < 1 ∨ 8 < k) : chk k s = 20 := by simp [chk, h]
theorem chk_ok (k : Int) (s : ByteArray) (h1 : 1 ≤ k) (h8 : k ≤ 8) (h : ∀ i (hi : i < s.size), letterAt k s[i] = true) : chk k s = 0 := by
  have e : s.data.toList.all (letterAt k) = true := by
    rw [List.all_eq_true]
    intro x hx
    obtain ⟨i, hi, rfl⟩ := List.mem_iff_getElem.1 hx
    exact h i (by simpa using hi)
  unfold chk
  rw [if_neg (by omega), if_pos e]
theorem chk_no (k : Int) (s : ByteArray) (h1 : 1 ≤ k) (h8 : k ≤ 8) (i : Nat) (hi : i < s.size) (h : letterAt k s[i] = false) : chk k s = 21 := by
  have e : ¬ s.data.toList.all (letterAt k) = true := by
    rw [List.all_eq_true]
    intro hx
    have := hx s[i] (by exact List.getElem_mem (l := s.data.toList) (by simpa using hi))
    rw [h] at this
    exact absurd this (by simp)
  unfold chk
  rw [if_neg (by omega), if_neg e]

/-- What Letters answers. -/
def lett (k : Int) : Int := if k < 1 ∨ 8 < k then 20 else 0
theorem lett_no (k : Int) (h : k < 1 ∨ 8 < k) : lett k = 20 := by simp [lett, h]
theorem lett_ok (k : Int) (h1 : 1 ≤ k) (h8 : k ≤ 8) : lett k = 0 := by unfold lett; rw [if_neg (by omega)]
theorem ret_int {k : IntKind} {a b : Int} (h : a = b) : Ending.returned (.int k a) = .returned (.int k b) := by rw [h]

set_option maxHeartbeats 400000 in
theorem letters_any (k : Int) (w : World) :
    Calls Try.prog 45 #[.int .i64 k] w fun e w' => e = .returned (.int .i64 (lett k)) ∧ w' = w := by
  by_cases hk1 : k < 1
  · go_enter Try.func45, Try.ntmps45
    go_wp2
    go_ret
    exact ⟨ret_int (lett_no k (.inl hk1)).symm, rfl⟩
  by_cases hk8 : 8 < k
  · go_enter Try.func45, Try.ntmps45
    go_wp2
    go_ret
    exact ⟨ret_int (lett_no k (.inr hk8)).symm, rfl⟩
  go_enter Try.func45, Try.ntmps45
  go_wp2
  go_ret
  exact ⟨ret_int (lett_ok k (by omega) (by omega)).symm, rfl⟩

set_option maxHeartbeats 400000 in
theorem rcheck_any (k : Int) (s : ByteArray) (w : World) (hs : s.size ≤ maxLen) :
    Calls Try.prog 26 #[.int .i64 k, .string s] w fun e w' => e = .returned (.int .i64 (chk k s)) ∧ Below w.heap.size w w' := by
  unfold maxLen at hs
  by_cases hk : k < 1 ∨ 8 < k
  · have hb := chk_bad k s hk
    have HB : Hid (chk k s = 20) := hb
    clear hb
    go_enter Try.func26, Try.ntmps26
    go_wp2_with (go_at_call 45; refine (letters_any k _).mono ?_; rintro e w1 ⟨rfl, rfl⟩; rw [lett_no k hk])
    go_ret
    exact ⟨ret_int HB.out.symm, Below.refl _ _⟩
  · have h1 : 1 ≤ k := by omega
    have h8 : k ≤ 8 := by omega
    clear hk
    go_enter Try.func26, Try.ntmps26
    go_wp2_with (go_at_call 45; refine (letters_any k _).mono ?_; rintro e w1 ⟨rfl, rfl⟩; rw [lett_ok k h1 h8])
    go_loop [6] (fun i => ∃ n : Nat, n ≤ s.size ∧ i = .int .i64 n ∧ (∀ i (hi : i < s.size), i < n → letterAt k s[i] = true)) (fun i => s.size - (intOf i).toNat)
    case atStart => exact ⟨0, Nat.zero_le _, rfl, fun i _ h => by omega⟩
    case round =>
      obtain ⟨n, hn, rfl, hall⟩ := hrel
      have HA : Hid (∀ i (hi : i < s.size), i < n → letterAt k s[i] = true) := hall
      clear hall
      by_cases hlt : n < s.size
      · by_cases hl : (s[n].toNat : Int) < 97
        · go_wp2
          go_ret
          exact ⟨ret_int (chk_no k s h1 h8 n hlt (by simp [letterAt]; omega)).symm, Below.refl _ _⟩
        have hb : s[n].toNat < 256 := s[n].toNat_lt
        by_cases hg : k ≤ ((s[n].toNat : Int) - 97) % 256
        · go_wp2
          go_ret
          exact ⟨ret_int (chk_no k s h1 h8 n hlt (by simp [letterAt]; omega)).symm, Below.refl _ _⟩
        · go_wp2
          go_round
          case rel =>
            refine ⟨n + 1, by omega, by go_num, fun i hi hlt => ?_⟩
            by_cases he : i = n
            · subst he
              simp [letterAt]; omega
            · exact HA.out i hi (by omega)
          case measure => simp [intOf]; omega
      · go_wp2
        go_ret
        exact ⟨ret_int (chk_ok k s h1 h8 (fun i hi => HA.out i hi (by omega))).symm, Below.refl _ _⟩

end Go.Proofs.Ytggheiblgghpkaa
