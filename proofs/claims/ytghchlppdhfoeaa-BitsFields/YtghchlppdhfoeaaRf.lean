/- Contract of the document's Field. -/
import Derived.Test.YtghchlppdhfoeaaRl
namespace Go.Proofs.Ytghchlppdhfoeaa
open Go.RowKit Go.Lib

/-- The worth of the places from c on. -/
def upperF (N a b c : Nat) : Nat := N / 2 ^ (a + c) % 2 ^ (b - c)
theorem upperF_step (N a b c : Nat) (h : c + 1 ≤ b) : upperF N a b c = 2 * upperF N a b (c + 1) + if N.testBit (a + c) then 1 else 0 := by
  unfold upperF
  have e1 : b - c = (b - (c + 1)) + 1 := by omega
  have e2 : N / 2 ^ (a + (c + 1)) = N / 2 ^ (a + c) / 2 := by rw [← Nat.add_assoc, Nat.pow_succ, Nat.div_div_eq_div_mul]
  rw [e1, e2, Nat.pow_succ, Nat.mul_comm _ 2, Nat.mod_mul, Nat.testBit_eq_decide_div_mod_eq]
  by_cases h2 : N / 2 ^ (a + c) % 2 = 1
  · simp [h2]; omega
  · have : N / 2 ^ (a + c) % 2 = 0 := by omega
    simp [this]
theorem upperF_lt (N a b c : Nat) (h : b - c ≤ 63) : upperF N a b c < 9223372036854775808 := by
  have h1 : 2 ^ (b - c) ≤ 2 ^ 63 := Nat.pow_le_pow_right (by decide) h
  have h2 := Nat.mod_lt (N / 2 ^ (a + c)) (Nat.two_pow_pos (b - c))
  unfold upperF
  omega
theorem upperF_zero (N a b : Nat) : upperF N a b 0 = N / 2 ^ a % 2 ^ b := rfl
theorem upperF_end (N a b : Nat) : upperF N a b b = 0 := by unfold upperF; rw [Nat.sub_self, Nat.pow_zero, Nat.mod_one]

set_option maxHeartbeats 2000000 in
set_option maxRecDepth 100000 in
theorem rfield_any (N : Nat) (a b : Int) (w : World) (ha : -9223372036854775808 ≤ a ∧ a ≤ 9223372036854775807) (hb : -9223372036854775808 ≤ b ∧ b ≤ 9223372036854775807) :
    Calls Try.prog 23 #[setV N, .int .i64 a, .int .i64 b] w fun e w' => e = .returned (.tuple #[.int .u64 (fieldN N a b : Nat), .int .i64 (fieldE a b)]) ∧ Below w.heap.size w w' := by
  obtain ⟨ha1, ha2⟩ := ha
  obtain ⟨hb1, hb2⟩ := hb
  by_cases hF : isF a b = true
  · have hd2 : 1 ≤ b ∧ b ≤ 64 ∧ 0 ≤ a ∧ a ≤ 512 - b := of_decide_eq_true hF
    obtain ⟨at_, rfl⟩ : ∃ m : Nat, a = m := ⟨a.toNat, by omega⟩
    obtain ⟨wd, rfl⟩ : ∃ m : Nat, b = m := ⟨b.toNat, by omega⟩
    have h1 : 1 ≤ wd := by omega
    have h2 : wd ≤ 64 := by omega
    have h3 : at_ + wd ≤ 512 := by omega
    have i1 : ¬ (wd : Int) < 1 := by omega
    have i2 : ¬ (64 : Int) < wd := by omega
    have i3 : ¬ (at_ : Int) < 0 := by omega
    have i4 : ¬ (512 - (wd : Int)) < at_ := by omega
    have HF : Hid _ := hF
    clear hd2 hF ha1 ha2 hb1 hb2
    have H1 : Hid (RowAt (w.alloc (.cells (cellsF (word N)) 24)) w.heap.size (cellsF (word N))) := RowAt.last w _ _
    unfold setV cellsF
    unfold cellsF at H1
    go_enter Try.func23, Try.ntmps23
    go_wp2_with fail
    generalize hW : w.alloc (.cells #[.int .u64 (word N 0 : Nat), .int .u64 (word N 1 : Nat), .int .u64 (word N 2 : Nat), .int .u64 (word N 3 : Nat), .int .u64 (word N 4 : Nat), .int .u64 (word N 5 : Nat), .int .u64 (word N 6 : Nat), .int .u64 (word N 7 : Nat)] 24) = W at H1 ⊢
    have HW : Hid (Below w.heap.size w W ∧ w.heap.size ≤ W.heap.size) := by
      show Below w.heap.size w W ∧ w.heap.size ≤ W.heap.size
      rw [← hW]
      exact ⟨(Below.refl _ _).alloc (Nat.le_refl _) _, by simp⟩
    clear hW
    go_loopw [8, 9] (fun v vj wr => ∃ (c : Nat), vj = .int .i64 ((c : Int) - 1) ∧ c ≤ wd ∧ v = .int .u64 (upperF N at_ wd c : Nat) ∧ Below W.heap.size W wr) (fun _ vj _ => (intOf vj + 1).toNat)
    case atStart => exact ⟨wd, rfl, Nat.le_refl _, by rw [upperF_end]; rfl, Below.refl _ _⟩
    case round =>
      obtain ⟨c, rfl, hc, rfl, hb⟩ := hrel
      have cs := (H1.out.stay hb).cell
      by_cases h0 : c = 0
      · subst h0
        go_wp2_with fail
        go_ret2
        have e := field_good (N := N) HF.out
        exact ⟨by rw [e.1, e.2, ← upperF_zero]; rfl, HW.out.1.trans (hb.mono HW.out.2)⟩
      · obtain ⟨d, rfl⟩ : ∃ d, c = d + 1 := ⟨c - 1, by omega⟩
        have hst := upperF_step N at_ wd d (by omega)
        have hlt := upperF_lt N at_ wd (d + 1) (by omega)
        have hj : ((d + 1 : Nat) : Int) - 1 = (d : Int) := by omega
        have hh : hasN N ((at_ : Int) + (d : Int)) = N.testBit (at_ + d) := by rw [hasN, decide_eq_true (by omega), Bool.true_and]; congr 1
        obtain ⟨x, hx⟩ : ∃ x, upperF N at_ wd (d + 1) = x := ⟨_, rfl⟩
        rw [hx] at hst hlt
        rw [hx, hj]
        have hm : IntKind.u64.wrap (2 * (x : Int)) = 2 * x := by rw [IntKind.wrap_u64]; omega
        have hm1 : IntKind.u64.wrap (2 * (x : Int) + 1) = 2 * x + 1 := by rw [IntKind.wrap_u64]; omega
        have HS : Hid _ := hst
        have HX : Hid _ := hx
        clear hx hst h0 hj
        by_cases hbit : N.testBit (at_ + d) = true
        · rw [hbit] at hh
          have HH : Hid _ := hh
          have HBit : Hid _ := hbit
          clear hh hbit
          go_wp2_with (go_at_call 28; refine (rhas_any N _ _).mono ?_; rintro e w2 ⟨rfl, hb2⟩; rw [HH.out])
          go_roundw
          case rel => exact ⟨d, by go_num, by omega, by rw [HS.out, if_pos HBit.out]; go_num, hb.trans (hb2.mono hb.size)⟩
          case measure => simp [intOf]
        · have hbit' : N.testBit (at_ + d) = false := by simpa using hbit
          rw [hbit'] at hh
          have HH : Hid _ := hh
          have HBit : Hid _ := hbit
          clear hh hbit hbit'
          go_wp2_with (go_at_call 28; refine (rhas_any N _ _).mono ?_; rintro e w2 ⟨rfl, hb2⟩; rw [HH.out])
          go_roundw
          case rel => exact ⟨d, by go_num, by omega, by rw [HS.out, if_neg HBit.out]; go_num, hb.trans (hb2.mono hb.size)⟩
          case measure => simp [intOf]
  · have e1 : fieldN N a b = 0 ∧ fieldE a b = 1 := ⟨by rw [fieldN, if_neg hF], by rw [fieldE, if_neg hF]⟩
    have HE : Hid _ := e1
    have hno : ¬ (1 ≤ b ∧ b ≤ 64 ∧ 0 ≤ a ∧ a ≤ 512 - b) := fun h => hF (decide_eq_true h)
    clear e1 hF
    unfold setV cellsF
    by_cases j1 : b < 1
    · clear hno
      go_enter Try.func23, Try.ntmps23
      go_wp2_with fail
      go_ret2
      exact ⟨by rw [HE.out.1, HE.out.2]; rfl, (Below.refl _ _).alloc (Nat.le_refl _) _⟩
    by_cases j2 : 64 < b
    · clear hno
      go_enter Try.func23, Try.ntmps23
      go_wp2_with fail
      go_ret2
      exact ⟨by rw [HE.out.1, HE.out.2]; rfl, (Below.refl _ _).alloc (Nat.le_refl _) _⟩
    by_cases j3 : a < 0
    · clear hno
      go_enter Try.func23, Try.ntmps23
      go_wp2_with fail
      go_ret2
      exact ⟨by rw [HE.out.1, HE.out.2]; rfl, (Below.refl _ _).alloc (Nat.le_refl _) _⟩
    · have j4 : 512 - b < a := by omega
      clear hno
      go_enter Try.func23, Try.ntmps23
      go_wp2_with fail
      go_ret2
      exact ⟨by rw [HE.out.1, HE.out.2]; rfl, (Below.refl _ _).alloc (Nat.le_refl _) _⟩

end Go.Proofs.Ytghchlppdhfoeaa
