/- Contracts of the document's Rank and of math/bits.TrailingZeros64 (where its table lies as its initialiser lays it). -/
import Derived.Test.YtfdkkiecibdblaaDoorDk
namespace Go.Proofs.YtfdkkiecibdblaaDoor
open Go.RowKit Go.Lib

theorem lst_below (N : Nat) (i : Int) : ∀ b, b ≤ 512 → ((lst N b).filter fun x => decide (x < i)).length = cnt (min b (clampN i)) N
  | 0, _ => by simp [lst_zero, cnt_zero]
  | b + 1, h => by
    rw [lst_succ, List.filter_append, List.length_append, lst_below N i b (by omega)]
    have hcl : (b < clampN i) = ((b : Int) < i) := by
      apply propext
      unfold clampN
      omega
    by_cases hb : (b : Int) < i
    · have h1 : b < clampN i := by rw [hcl]; exact hb
      rw [show min b (clampN i) = b by omega, show min (b + 1) (clampN i) = b + 1 by omega, cnt_succ]
      by_cases ht : N.testBit b = true
      · simp [ht, hb]
      · have ht' : N.testBit b = false := by simpa using ht
        simp [ht']
    · have h1 : ¬ b < clampN i := by rw [hcl]; exact hb
      rw [show min b (clampN i) = clampN i by omega, show min (b + 1) (clampN i) = clampN i by omega]
      by_cases ht : N.testBit b = true
      · simp [ht, hb]
      · have ht' : N.testBit b = false := by simpa using ht
        simp [ht']
theorem lst_rank (N : Nat) (i : Int) : ((lst N 512).filter fun x => decide (x < i)).length = rankN N i := by
  rw [lst_below N i 512 (Nat.le_refl _), rankN]
  congr 1
  have := clamp_le i
  omega
theorem filter_take_succ (xs : List Int) (i : Int) (c : Nat) (h : c < xs.length) : ((xs.take (c + 1)).filter fun x => decide (x < i)).length = ((xs.take c).filter fun x => decide (x < i)).length + if xs.getD c 0 < i then 1 else 0 := by
  rw [List.take_add_one, List.filter_append, List.length_append]
  congr 1
  simp only [List.getElem?_eq_getElem h, Option.toList_some, List.getD_eq_getElem?_getD, Option.getD_some]
  by_cases hs : xs[c] < i <;> simp [hs]

/-- The table in its variable. -/
def TzTab (w : World) : Prop := ∀ j, j < 64 → w.cell? ⟨2, j, none⟩ = some (.int .u8 ((Lib.deBruijn64tab.getD j 0 : Nat) : Int))
theorem tz_key (x a : Nat) (hx : x < 18446744073709551616) (hx0 : x ≠ 0) (hlow : x &&& (18446744073709551616 - x) = a) :
    IntKind.u64.wrap (bits BinOp.and IntKind.u64 (x : Int) (IntKind.u64.wrap (-(x : Int))) * 285870213051353865) / 288230376151711744 = ((a * 285870213051353865 % 18446744073709551616 / 288230376151711744 : Nat) : Int) := by
  have e1 : IntKind.u64.wrap (-(x : Int)) = ((18446744073709551616 - x : Nat) : Int) := by rw [IntKind.wrap_u64]; omega
  rw [e1, bits_and_u64_nat x _ hx (by omega), hlow, IntKind.wrap_u64]
  omega

set_option maxHeartbeats 1000000 in
theorem tz_core (x k idx : Nat) (w : World) (hx0 : ((x : Int) == 0) = false)
    (key : IntKind.u64.wrap (bits BinOp.and IntKind.u64 (x : Int) (IntKind.u64.wrap (-(x : Int))) * 285870213051353865) / 288230376151711744 = (idx : Int))
    (hi : idx < 64) (hk : k < 64) (hcell : w.cell? ⟨2, idx, none⟩ = some (.int .u8 k)) :
    Calls Tryd.prog 85 #[.int .u64 x] w fun e w' => e = .returned (.int .i64 k) ∧ w' = w := by
  go_enter Tryd.func85, Tryd.ntmps85
  go_wp2_with (simp only [key])
  go_ret
  exact ⟨rfl, rfl⟩

theorem tz_any (x : Nat) (hx : x < 18446744073709551616) (hx0 : x ≠ 0) (w : World) (hT : TzTab w) :
    Calls Tryd.prog 85 #[.int .u64 x] w fun e w' => e = .returned (.int .i64 (Lib.ctz 64 x : Nat)) ∧ w' = w := by
  obtain ⟨hlow, hk⟩ := Lib.lowest_bit 64 x hx0 hx
  obtain ⟨hi, htab⟩ := Lib.deBruijn64_at _ hk
  have hcell := hT _ hi
  rw [htab] at hcell
  exact tz_core x _ _ w (by simp; omega) (tz_key x _ hx hx0 hlow) hi hk hcell

end Go.Proofs.YtfdkkiecibdblaaDoor
