/- Contract of word.Root: ErrLetters, ErrLetter; of the empty word the empty word and 0; else the beginning whose length is the least period that divides the word's, and how often it stands there. -/
import Derived.Test.YtocdifclkopbcaaShf
import Derived.Deep.RegionWith
namespace Go.Proofs.Ytocdifclkopbcaa
open Go.RowKit Go.Lib

/-- p is a period of s that divides its length. -/
def divP (s : ByteArray) (p : Nat) : Bool := decide (s.size % p = 0) && perB s p
/-- p is the length of the root of s. -/
structure IsRoot (s : ByteArray) (p : Nat) : Prop where
  pos : 1 ≤ p
  le : p ≤ s.size
  div : divP s p = true
  least : ∀ q, 1 ≤ q → q < p → divP s q = false
theorem divP_all (s : ByteArray) : divP s s.size = true := by
  have h := (perB_iff s s.size (Nat.le_refl _)).2 (fun i hi => by omega)
  simp [divP, h]
theorem IsRoot.unique {s : ByteArray} {p q : Nat} (h : IsRoot s p) (g : IsRoot s q) : p = q := by
  rcases Nat.lt_trichotomy p q with e | e | e
  · have := g.least p h.pos e
    rw [h.div] at this
    exact absurd this (by simp)
  · exact e
  · have := h.least q g.pos e
    rw [g.div] at this
    exact absurd this (by simp)

theorem ret_thr {a : Value} {x x' : Int} (h : x = x') : Ending.returned (.tuple #[a, .int .i64 x, .int .i64 0]) = .returned (.tuple #[a, .int .i64 x', .int .i64 0]) := by rw [h]
theorem ret_three' {a b : Value} {x x' : Int} (h : x = x') : Ending.returned (.tuple #[a, b, .int .i64 x]) = .returned (.tuple #[a, b, .int .i64 x']) := by rw [h]
theorem below_more {w w' : World} {q : Nat} (h : Below (w.drewN q).heap.size (w.drewN q) w') : Below w.heap.size w w' := ⟨h.os, h.tape, h.output, h.size, h.block⟩
theorem ext_size (s : ByteArray) (a b : Nat) (h : s.size ≤ 281474976710656) : (s.extract a b).size ≤ 281474976710656 := by
  simp [ByteArray.size_extract]
  omega

set_option maxHeartbeats 1000000 in
set_option maxRecDepth 100000 in
theorem root_any (k : Int) (s : ByteArray) (w : World) (hs : s.size ≤ 17592186044416) (h : chk k s = 0) (h0 : 0 < s.size) :
    Calls Try.prog 26 #[.int .i64 k, .string s] w fun e w' => ∃ p, IsRoot s p ∧ e = .returned (.tuple #[.string (s.extract 0 p), .int .i64 ((s.size / p : Nat) : Int), .int .i64 0]) ∧ Below w.heap.size w w' := by
  have HH : Hid (chk k s = 0) := h
  clear h
  go_enter Try.func26, Try.ntmps26
  go_wp2_with fail
  refine (check_any k s _).mono ?_
  rintro e w1 ⟨rfl, b1⟩
  rw [HH.out]
  go_wp2_with fail
  refine (periodOf_any s _ hs).mono ?_
  rintro e w2 ⟨bo, bs, rfl, henv, b2⟩
  have HE : Hid (PerEnv s w1.heap.size bo bs w2) := henv
  clear henv
  go_wp2_with fail
  go_loopw [20] (fun vk wr => ∃ (k q : Nat), vk = .int .i64 k ∧ k < s.size ∧ (∀ p, 1 ≤ p → p ≤ k → divP s p = false) ∧ wr = w2.drewN q) (fun vk _ => s.size - (RowKit.intOf vk).toNat)
  case atStart => exact ⟨0, 0, rfl, h0, fun p h1 h2 => by omega, rfl⟩
  case round =>
    obtain ⟨k', q, rfl, hk, hall, rfl⟩ := hrel
    have HA : Hid _ := hall
    clear hall
    have hkI : (k' : Int) < s.size := by omega
    have hmodI : ((s.size : Int) % ((k' : Int) + 1)) = ((s.size % (k' + 1) : Nat) : Int) := by simp
    have HMI : Hid _ := hmodI
    clear hmodI
    by_cases hmod : s.size % (k' + 1) = 0
    · have hm : ((s.size : Int) % ((k' : Int) + 1) == 0) = true := by rw [HMI.out, beq_iff_eq]; omega
      by_cases hper : perB s (k' + 1) = true
      · have HRT : Hid (IsRoot s (k' + 1)) := ⟨by omega, by omega, by simp [divP, hmod, hper], fun p h1 h2 => HA.out p h1 (by omega)⟩
        clear hmod
        go_wp2_with fail
        refine (closure_any s _ (k' + 1) w1.heap.size bo bs _ hs (by omega) (by omega) (HE.out.drewN q)).mono ?_
        rintro e w3 ⟨rfl, q2, rfl⟩
        rw [hper]
        have hkI1 : (k' : Int) + 1 ≤ s.size := by omega
        have hq0 : ((k' : Int) + 1 == 0) = false := by rw [beq_eq_false_iff_ne]; omega
        have hd0 : 0 ≤ (s.size : Int) / ((k' : Int) + 1) := Int.ediv_nonneg (by omega) (by omega)
        have hd1 : (s.size : Int) / ((k' : Int) + 1) ≤ s.size := Int.ediv_le_self _ (by omega)
        go_wp2_with fail
        go_region_with (go_at_call 45; refine (sClone_any _ _ (ext_size s _ _ (by omega))).mono ?_; rintro e w4 ⟨rfl, b4⟩)
        all_goals go_wp2
        all_goals go_ret3
        all_goals exact ⟨k' + 1, HRT.out, ret_thr (by simp), go_on (go_on b1 b2) (below_more b4)⟩
      · have hper' : perB s (k' + 1) = false := by simpa using hper
        have hdv : divP s (k' + 1) = false := by simp [divP, hper']
        have hne : k' + 1 < s.size := by
          rcases Nat.lt_or_ge (k' + 1) s.size with h | h
          · exact h
          · have e : k' + 1 = s.size := by omega
            rw [e, divP_all] at hdv
            exact absurd hdv (by simp)
        have HD : Hid _ := hdv
        clear hdv hper
        go_wp2_with fail
        refine (closure_any s _ (k' + 1) w1.heap.size bo bs _ hs (by omega) (by omega) (HE.out.drewN q)).mono ?_
        rintro e w3 ⟨rfl, q2, rfl⟩
        rw [hper']
        go_wp2_with fail
        go_roundw
        case rel => exact ⟨k' + 1, _, by go_num, hne, fun p h1 h2 => by
          by_cases e : p = k' + 1
          · rw [e]; exact HD.out
          · exact HA.out p h1 (by omega), rfl⟩
        case measure => simp [RowKit.intOf]; omega
    · have hm : ((s.size : Int) % ((k' : Int) + 1) == 0) = false := by rw [HMI.out, beq_eq_false_iff_ne]; omega
      have hdv : divP s (k' + 1) = false := by simp [divP, hmod]
      have hne : k' + 1 < s.size := by
        rcases Nat.lt_or_ge (k' + 1) s.size with h | h
        · exact h
        · have e : k' + 1 = s.size := by omega
          rw [e, divP_all] at hdv
          exact absurd hdv (by simp)
      have HD : Hid _ := hdv
      clear hdv hmod
      go_wp2_with fail
      go_roundw
      case rel => exact ⟨k' + 1, _, by go_num, hne, fun p h1 h2 => by
        by_cases e : p = k' + 1
        · rw [e]; exact HD.out
        · exact HA.out p h1 (by omega), rfl⟩
      case measure => simp [RowKit.intOf]; omega

set_option maxHeartbeats 1000000 in
theorem root_none (k : Int) (s : ByteArray) (w : World) (hs : s.size ≤ 17592186044416) (h : chk k s ≠ 0 ∨ s.size = 0) :
    Calls Try.prog 26 #[.int .i64 k, .string s] w fun e w' => e = .returned (.tuple #[.string ⟨#[]⟩, .int .i64 0, .int .i64 (chk k s)]) ∧ Below w.heap.size w w' := by
  by_cases hc : chk k s = 0
  · have hz : s.size ≤ 0 := by rcases h with h | h <;> omega
    have HH : Hid (chk k s = 0) := hc
    clear hc h
    go_enter Try.func26, Try.ntmps26
    go_wp2_with fail
    refine (check_any k s _).mono ?_
    rintro e w1 ⟨rfl, b1⟩
    rw [HH.out]
    go_wp2_with fail
    refine (periodOf_any s _ hs).mono ?_
    rintro e w2 ⟨bo, bs, rfl, henv, b2⟩
    clear henv
    go_wp2_with fail
    refine wp_loop_rounds 1 ?_
    rw [rounds_succ]
    go_wp2
    go_ret3
    exact ⟨ret_three' HH.out.symm, go_on b1 b2⟩
  · have hg : (chk k s != 0) = true := by simpa using hc
    clear h hc
    go_enter Try.func26, Try.ntmps26
    go_wp2_with fail
    refine (check_any k s _).mono ?_
    rintro e w1 ⟨rfl, b1⟩
    go_wp2_with fail
    go_ret3
    exact ⟨rfl, b1⟩

end Go.Proofs.Ytocdifclkopbcaa
