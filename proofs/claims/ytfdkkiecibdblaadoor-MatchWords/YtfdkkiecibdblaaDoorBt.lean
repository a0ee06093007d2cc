/- Contracts of bits.Union, bits.Inter, bits.Minus and bits.Subset. -/
import Derived.Test.YtfdkkiecibdblaaDoorBp
import Derived.Test.YtfdkkiecibdblaaDoorBe
import Derived.BigRegion
namespace Go.Proofs.YtfdkkiecibdblaaDoor
open Go.RowKit

/-- Two sets and a result, as they lie in memory. -/
structure TwoAt (w : World) (f : Nat → Nat) (B : Nat) (wr : World) : Prop where
  one : Cells8 wr w.heap.size f
  two : Cells8 wr (w.heap.size + 1) (word B)
  res : Cells8 wr (w.heap.size + 1 + 1) (fun _ => 0)
  below : Below w.heap.size w wr
theorem TwoAt.start (w : World) (A B : Nat) : TwoAt w (word A) B (((w.alloc (.cells (cellsF (word A)) 31)).alloc (.cells (cellsF (word B)) 31)).alloc (.cells #[.int .u64 0, .int .u64 0, .int .u64 0, .int .u64 0, .int .u64 0, .int .u64 0, .int .u64 0, .int .u64 0] 31)) := by
  refine ⟨((Cells8.last w _).alloc _).alloc _, ?_, ?_, (((Below.refl _ _).alloc (Nat.le_refl _) _).alloc (by simp) _).alloc (by simp; omega) _⟩
  · have := (Cells8.last (w.alloc (.cells (cellsF (word A)) 31)) (word B)).alloc (.cells #[.int .u64 0, .int .u64 0, .int .u64 0, .int .u64 0, .int .u64 0, .int .u64 0, .int .u64 0, .int .u64 0] 31)
    simpa using this
  · have := Cells8.last ((w.alloc (.cells (cellsF (word A)) 31)).alloc (.cells (cellsF (word B)) 31)) (fun _ => 0)
    have e : (cellsF fun _ => 0) = #[.int .u64 0, .int .u64 0, .int .u64 0, .int .u64 0, .int .u64 0, .int .u64 0, .int .u64 0, .int .u64 0] := rfl
    rw [e] at this
    simpa using this
theorem TwoAt.put {w wr : World} {B k x : Nat} {f : Nat → Nat} (h : TwoAt w f B wr) (hk : k < 8) : TwoAt w (fun j => if j = k then x else f j) B (wr.setCell ⟨w.heap.size, k, none⟩ (.int .u64 (x : Nat))).drew :=
  ⟨(h.one.set x hk).drew, (h.two.other (by omega) _).drew, (h.res.other (by omega) _).drew, (h.below.setCell (p := ⟨w.heap.size, k, none⟩) (Nat.le_refl _) _).drew⟩
theorem TwoAt.congr {w wr : World} {B : Nat} {f g : Nat → Nat} (h : TwoAt w f B wr) (e : ∀ k, k < 8 → f k = g k) : TwoAt w g B wr := ⟨h.one.congr e, h.two, h.res, h.below⟩
def orN (A B : Nat) : Nat := A ||| B
def andN (A B : Nat) : Nat := A &&& B
theorem word_union (A B k : Nat) : word (orN A B) k = word A k ||| word B k := by
  apply word_of_bits (Nat.or_lt_two_pow (n := 64) (word_lt A k) (word_lt B k))
  intro j hj
  unfold orN
  rw [Nat.testBit_or, Nat.testBit_or, testBit_word, testBit_word]
  simp [hj]
theorem word_inter (A B k : Nat) : word (andN A B) k = word A k &&& word B k := by
  apply word_of_bits (Nat.lt_of_le_of_lt Nat.and_le_left (word_lt A k))
  intro j hj
  unfold andN
  rw [Nat.testBit_and, Nat.testBit_and, testBit_word, testBit_word]
  simp [hj]
theorem word_minus (A B k : Nat) : word (butN A B) k = butN (word A k) (word B k) := by
  apply word_of_bits (but_lt (word_lt A k))
  intro j hj
  rw [testBit_but, testBit_but, testBit_word, testBit_word]
  simp [hj]

set_option maxHeartbeats 4000000 in
set_option maxRecDepth 100000 in
theorem union_any (A B : Nat) (w : World) :
    Calls Tryd.prog 77 #[setV A, setV B] w fun e w' => e = .returned (setV (orN A B)) ∧ Below w.heap.size w w' := by
  have H0 : Hid (TwoAt w (fun k => word A k) B _) := TwoAt.start w A B
  unfold setV
  go_enter Tryd.func77, Tryd.ntmps77
  go_wp2_with fail
  generalize hW : ((w.alloc (.cells (cellsF (word A)) 31)).alloc (.cells (cellsF (word B)) 31)).alloc (.cells #[.int .u64 0, .int .u64 0, .int .u64 0, .int .u64 0, .int .u64 0, .int .u64 0, .int .u64 0, .int .u64 0] 31) = W at H0 ⊢
  clear hW
  go_loopw [6, 5] (fun vc _ wr => ∃ c : Nat, vc = .int .i64 c ∧ c ≤ 8 ∧ TwoAt w (fun k => if k < c then word (orN A B) k else word A k) B wr) (fun vc _ _ => 8 - (intOf vc).toNat)
  case atStart => exact ⟨0, rfl, by omega, H0.out.congr (fun k _ => by rw [if_neg (by omega)])⟩
  case round =>
    clear H0
    obtain ⟨c, rfl, hc, hat⟩ := hrel
    have HA : Hid _ := hat
    clear hat
    by_cases hlt : c < 8
    · have hcI : (c : Int) < 8 := by omega
      have ca := HA.out.one.get hlt
      have fa := HA.out.one.frozen c
      have cb := HA.out.two.get hlt
      simp only [Nat.lt_irrefl, if_false] at ca
      go_wp2_with fail
      go_region
      rw [bits_or_u64_nat _ _ (word_lt A c) (word_lt B c)]
      generalize hW1 : (wr.setCell ⟨w.heap.size, c, none⟩ _).drew = W1
      have H1 : Hid (TwoAt w (fun k => if k < c + 1 then word (orN A B) k else word A k) B W1) := by
        show TwoAt _ _ _ _
        rw [← hW1]
        refine (HA.out.put hlt).congr ?_
        intro k hk
        by_cases k1 : k = c
        · rw [if_pos k1, if_pos (by omega), k1, word_union]
        · rw [if_neg k1]
          by_cases k2 : k < c
          · rw [if_pos k2, if_pos (by omega)]
          · rw [if_neg k2, if_neg (by omega)]
      clear hW1 ca fa cb HA
      go_wp2_with fail
      go_roundw
      case rel => exact ⟨c + 1, by go_num, by omega, H1.out⟩
      case measure => simp [intOf]; omega
    · have hcI : ¬ (c : Int) < 8 := by omega
      obtain ⟨d0, d1, d2, d3, d4, d5, d6, d7⟩ := (HA.out.res).gets
      have f0 := (HA.out.res).frozen 0
      have f1 := (HA.out.res).frozen 1
      have f2 := (HA.out.res).frozen 2
      have f3 := (HA.out.res).frozen 3
      have f4 := (HA.out.res).frozen 4
      have f5 := (HA.out.res).frozen 5
      have f6 := (HA.out.res).frozen 6
      have f7 := (HA.out.res).frozen 7
      obtain ⟨c0, c1, c2, c3, c4, c5, c6, c7⟩ := (HA.out.one.congr (g := word (orN A B)) (fun k hk => by rw [if_pos (by omega)])).gets
      go_wp2_with fail
      obtain ⟨h8, hB⟩ := st8 HA.out.res HA.out.below (by omega) (word (orN A B)) rfl rfl rfl rfl rfl rfl rfl rfl
      exact bodyPost_ret (results_set rfl rfl h8) rfl ⟨rfl, hB⟩

set_option maxHeartbeats 4000000 in
set_option maxRecDepth 100000 in
theorem inter_any (A B : Nat) (w : World) :
    Calls Tryd.prog 78 #[setV A, setV B] w fun e w' => e = .returned (setV (andN A B)) ∧ Below w.heap.size w w' := by
  have H0 : Hid (TwoAt w (fun k => word A k) B _) := TwoAt.start w A B
  unfold setV
  go_enter Tryd.func78, Tryd.ntmps78
  go_wp2_with fail
  generalize hW : ((w.alloc (.cells (cellsF (word A)) 31)).alloc (.cells (cellsF (word B)) 31)).alloc (.cells #[.int .u64 0, .int .u64 0, .int .u64 0, .int .u64 0, .int .u64 0, .int .u64 0, .int .u64 0, .int .u64 0] 31) = W at H0 ⊢
  clear hW
  go_loopw [6, 5] (fun vc _ wr => ∃ c : Nat, vc = .int .i64 c ∧ c ≤ 8 ∧ TwoAt w (fun k => if k < c then word (andN A B) k else word A k) B wr) (fun vc _ _ => 8 - (intOf vc).toNat)
  case atStart => exact ⟨0, rfl, by omega, H0.out.congr (fun k _ => by rw [if_neg (by omega)])⟩
  case round =>
    clear H0
    obtain ⟨c, rfl, hc, hat⟩ := hrel
    have HA : Hid _ := hat
    clear hat
    by_cases hlt : c < 8
    · have hcI : (c : Int) < 8 := by omega
      have ca := HA.out.one.get hlt
      have fa := HA.out.one.frozen c
      have cb := HA.out.two.get hlt
      simp only [Nat.lt_irrefl, if_false] at ca
      go_wp2_with fail
      go_region
      rw [bits_and_u64_nat _ _ (word_lt A c) (word_lt B c)]
      generalize hW1 : (wr.setCell ⟨w.heap.size, c, none⟩ _).drew = W1
      have H1 : Hid (TwoAt w (fun k => if k < c + 1 then word (andN A B) k else word A k) B W1) := by
        show TwoAt _ _ _ _
        rw [← hW1]
        refine (HA.out.put hlt).congr ?_
        intro k hk
        by_cases k1 : k = c
        · rw [if_pos k1, if_pos (by omega), k1, word_inter]
        · rw [if_neg k1]
          by_cases k2 : k < c
          · rw [if_pos k2, if_pos (by omega)]
          · rw [if_neg k2, if_neg (by omega)]
      clear hW1 ca fa cb HA
      go_wp2_with fail
      go_roundw
      case rel => exact ⟨c + 1, by go_num, by omega, H1.out⟩
      case measure => simp [intOf]; omega
    · have hcI : ¬ (c : Int) < 8 := by omega
      obtain ⟨d0, d1, d2, d3, d4, d5, d6, d7⟩ := (HA.out.res).gets
      have f0 := (HA.out.res).frozen 0
      have f1 := (HA.out.res).frozen 1
      have f2 := (HA.out.res).frozen 2
      have f3 := (HA.out.res).frozen 3
      have f4 := (HA.out.res).frozen 4
      have f5 := (HA.out.res).frozen 5
      have f6 := (HA.out.res).frozen 6
      have f7 := (HA.out.res).frozen 7
      obtain ⟨c0, c1, c2, c3, c4, c5, c6, c7⟩ := (HA.out.one.congr (g := word (andN A B)) (fun k hk => by rw [if_pos (by omega)])).gets
      go_wp2_with fail
      obtain ⟨h8, hB⟩ := st8 HA.out.res HA.out.below (by omega) (word (andN A B)) rfl rfl rfl rfl rfl rfl rfl rfl
      exact bodyPost_ret (results_set rfl rfl h8) rfl ⟨rfl, hB⟩

set_option maxHeartbeats 4000000 in
set_option maxRecDepth 100000 in
theorem minus_any (A B : Nat) (w : World) :
    Calls Tryd.prog 80 #[setV A, setV B] w fun e w' => e = .returned (setV (butN A B)) ∧ Below w.heap.size w w' := by
  have H0 : Hid (TwoAt w (fun k => word A k) B _) := TwoAt.start w A B
  unfold setV
  go_enter Tryd.func80, Tryd.ntmps80
  go_wp2_with fail
  generalize hW : ((w.alloc (.cells (cellsF (word A)) 31)).alloc (.cells (cellsF (word B)) 31)).alloc (.cells #[.int .u64 0, .int .u64 0, .int .u64 0, .int .u64 0, .int .u64 0, .int .u64 0, .int .u64 0, .int .u64 0] 31) = W at H0 ⊢
  clear hW
  go_loopw [6, 5] (fun vc _ wr => ∃ c : Nat, vc = .int .i64 c ∧ c ≤ 8 ∧ TwoAt w (fun k => if k < c then word (butN A B) k else word A k) B wr) (fun vc _ _ => 8 - (intOf vc).toNat)
  case atStart => exact ⟨0, rfl, by omega, H0.out.congr (fun k _ => by rw [if_neg (by omega)])⟩
  case round =>
    clear H0
    obtain ⟨c, rfl, hc, hat⟩ := hrel
    have HA : Hid _ := hat
    clear hat
    by_cases hlt : c < 8
    · have hcI : (c : Int) < 8 := by omega
      have ca := HA.out.one.get hlt
      have fa := HA.out.one.frozen c
      have cb := HA.out.two.get hlt
      simp only [Nat.lt_irrefl, if_false] at ca
      go_wp2_with fail
      go_region
      rw [bits_andNot_u64_nat _ _ (word_lt A c) (word_lt B c)]
      generalize hW1 : (wr.setCell ⟨w.heap.size, c, none⟩ _).drew = W1
      have H1 : Hid (TwoAt w (fun k => if k < c + 1 then word (butN A B) k else word A k) B W1) := by
        show TwoAt _ _ _ _
        rw [← hW1]
        refine (HA.out.put hlt).congr ?_
        intro k hk
        by_cases k1 : k = c
        · rw [if_pos k1, if_pos (by omega), k1, word_minus]
        · rw [if_neg k1]
          by_cases k2 : k < c
          · rw [if_pos k2, if_pos (by omega)]
          · rw [if_neg k2, if_neg (by omega)]
      clear hW1 ca fa cb HA
      go_wp2_with fail
      go_roundw
      case rel => exact ⟨c + 1, by go_num, by omega, H1.out⟩
      case measure => simp [intOf]; omega
    · have hcI : ¬ (c : Int) < 8 := by omega
      obtain ⟨d0, d1, d2, d3, d4, d5, d6, d7⟩ := (HA.out.res).gets
      have f0 := (HA.out.res).frozen 0
      have f1 := (HA.out.res).frozen 1
      have f2 := (HA.out.res).frozen 2
      have f3 := (HA.out.res).frozen 3
      have f4 := (HA.out.res).frozen 4
      have f5 := (HA.out.res).frozen 5
      have f6 := (HA.out.res).frozen 6
      have f7 := (HA.out.res).frozen 7
      obtain ⟨c0, c1, c2, c3, c4, c5, c6, c7⟩ := (HA.out.one.congr (g := word (butN A B)) (fun k hk => by rw [if_pos (by omega)])).gets
      go_wp2_with fail
      obtain ⟨h8, hB⟩ := st8 HA.out.res HA.out.below (by omega) (word (butN A B)) rfl rfl rfl rfl rfl rfl rfl rfl
      exact bodyPost_ret (results_set rfl rfl h8) rfl ⟨rfl, hB⟩

end Go.Proofs.YtfdkkiecibdblaaDoor
