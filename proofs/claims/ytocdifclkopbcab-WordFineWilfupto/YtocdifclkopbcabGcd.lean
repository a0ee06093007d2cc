/- Contracts of the law's gcd and in. They only read. -/
import Derived.Test.YtocdifclkopbcabWrd
namespace Go.Proofs.Ytocdifclkopbcab
open Go.RowKit Go.Lib

set_option maxHeartbeats 1000000 in
theorem gcd_any (a b : Nat) (w : World) (ha : a ≤ 9223372036854775807) (hb : b ≤ 9223372036854775807) :
    Calls Try.prog 12 #[.int .i64 a, .int .i64 b] w fun e w' => e = .returned (.int .i64 (Nat.gcd a b : Nat)) ∧ ∃ n, w' = w.drewN n := by
  go_enter Try.func12, Try.ntmps12
  go_wp2
  go_loopw [0, 1] (fun x y wr => ∃ p q n : Nat, x = .int .i64 p ∧ y = .int .i64 q ∧ p ≤ 9223372036854775807 ∧ q ≤ 9223372036854775807 ∧ Nat.gcd p q = Nat.gcd a b ∧ wr = w.drewN n) (fun _ y _ => (intOf y).toNat)
  case atStart => exact ⟨a, b, 0, rfl, rfl, ha, hb, rfl, rfl⟩
  case round =>
    obtain ⟨p, q, n, rfl, rfl, hp, hq, hg, rfl⟩ := hrel
    have HG : Hid _ := hg
    clear hg
    by_cases h : 0 < q
    · have hm : p % q < q := Nat.mod_lt _ h
      have hq0 : ((q : Int) == 0) = false := by rw [beq_eq_false_iff_ne]; omega
      go_wp2_with fail
      go_quiet (fail)
      go_wp2
      go_roundw
      case rel => exact ⟨q, p % q, _, rfl, by go_num, hq, by omega, by rw [← HG.out, Nat.gcd_comm p q, Nat.gcd_rec q p, Nat.gcd_comm], drew_two w n nq⟩
      case measure => simp [intOf]; omega
    · have : q = 0 := by omega
      subst this
      go_wp2
      go_ret
      exact ⟨ret_int (by have := HG.out; rw [Nat.gcd_zero_right] at this; rw [this]), n, rfl⟩

set_option maxHeartbeats 1000000 in
theorem in_any (b1 : Nat) (v : Value) (xs : List Nat) (x : Nat) (w : World) (h1 : w.ownsRow b1 3 1 v xs.length (intCells xs)) (hm1 : xs.length ≤ 9223372036854775806) :
    Calls Try.prog 11 #[v, .int .i64 x] w fun e w' => e = .returned (.bool (decide (x ∈ xs))) ∧ w' = w := by
  obtain ⟨_, a1, c1, rfl, g1⟩ := own_cells h1
  have H1 : Hid _ := g1
  clear h1 g1
  go_enter Try.func11, Try.ntmps11
  go_wp2_with fail
  go_loop [5] (fun vi => ∃ i : Nat, vi = .int .i64 i ∧ i ≤ xs.length ∧ (∀ j, j < i → xs.getD j 0 ≠ x)) (fun vi => xs.length - (intOf vi).toNat)
  case atStart => exact ⟨0, rfl, Nat.zero_le _, fun j hj => by omega⟩
  case round =>
    obtain ⟨i, rfl, hi, hall⟩ := hrel
    have HA : Hid _ := hall
    clear hall
    by_cases hlt : i < xs.length
    · obtain ⟨ga, rfl, ca⟩ := H1.out i hlt
      obtain ⟨y, hy⟩ : ∃ y, xs.getD i 0 = y := ⟨_, rfl⟩
      rw [hy] at ca
      have HY : Hid (xs.getD i 0 = y) := hy
      clear hy
      by_cases he : y = x
      · have heb : ((y : Int) == (x : Int)) = true := by rw [beq_iff_eq]; omega
        have HE : Hid (decide (x ∈ xs) = true) := by
          show decide (x ∈ xs) = true
          rw [decide_eq_true_iff, ← he, ← HY.out]
          simp [hlt]
        clear he
        go_wp2
        go_ret
        exact ⟨ret_bool HE.out.symm, rfl⟩
      · have heb : ((y : Int) == (x : Int)) = false := by rw [beq_eq_false_iff_ne]; omega
        have HE : Hid (y ≠ x) := he
        clear he
        go_wp2
        go_round
        case rel => exact ⟨i + 1, by go_num, by omega, fun j hj => by
          by_cases e : j = i
          · rw [e, HY.out]; exact HE.out
          · exact HA.out j (by omega)⟩
        case measure => simp [intOf]; omega
    · have HE : Hid (decide (x ∈ xs) = false) := by
        show decide (x ∈ xs) = false
        rw [decide_eq_false_iff_not]
        intro h
        obtain ⟨j, hj, e⟩ := List.mem_iff_getElem.1 h
        exact HA.out j (by omega) (by simp [hj, e])
      go_wp2
      go_ret
      exact ⟨ret_bool HE.out.symm, rfl⟩

theorem quiet_add {P : Program} {f : FuncId} {args : Array Value} {w : World} {q x : Nat} {v : Value} (h : Calls P f args (w.drewN (q + x)) fun e w' => e = .returned v ∧ ∃ m, w' = (w.drewN (q + x)).drewN m) :
    Calls P f args (w.drewN (q + x)) fun e w'' => e = .returned v ∧ ∃ n, w'' = w.drewN (q + n) :=
  h.mono fun _ _ ⟨he, m, hm⟩ => ⟨he, x + m, by rw [hm, drew_two, Nat.add_assoc]⟩
theorem quiet_add_same {P : Program} {f : FuncId} {args : Array Value} {w : World} {q x : Nat} {v : Value} (h : Calls P f args (w.drewN (q + x)) fun e w' => e = .returned v ∧ w' = w.drewN (q + x)) :
    Calls P f args (w.drewN (q + x)) fun e w'' => e = .returned v ∧ ∃ n, w'' = w.drewN (q + n) :=
  h.mono fun _ _ ⟨he, hm⟩ => ⟨he, x, hm⟩
/-- A row that a call made stands behind a later call. -/
theorem own_below {w w' : World} {base : Nat} {e : TypeId} {size n : Nat} {v : Value} {xs : List Value} (h : w.ownsRow base e size v n xs) (hb : Below w.heap.size w w') : w'.ownsRow base e size v n xs := by
  obtain ⟨a, b⟩ := h
  refine ⟨a, ?_⟩
  rcases b with b | ⟨g, cap, cur, e1, r, r2, r3⟩
  · exact .inl b
  · exact .inr ⟨g, cap, cur, e1, r, by rw [hb.block g (Array.getElem?_eq_some_iff.1 r2).1]; exact r2, r3⟩

end Go.Proofs.Ytocdifclkopbcab
