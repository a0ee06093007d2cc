/- Contract of bits.Put over every place, width and worth: the set with the field put, or the error; no old memory is written. -/
import Derived.Test.YtghchlppdhfoeaaBf
import Derived.BigRegion
namespace Go.Proofs.Ytghchlppdhfoeaa
open Go.RowKit

/-- The set with another worth of a field. -/
def putV (N a b v : Nat) : Nat := butN N ((2 ^ b - 1) * 2 ^ a) ||| v * 2 ^ a
def putN (N : Nat) (a b : Int) (v : Nat) : Nat := if isF a b then (if v < 2 ^ b.toNat then putV N a.toNat b.toNat v else 0) else 0
def putE (a b : Int) (v : Nat) : Int := if isF a b then (if v < 2 ^ b.toNat then 0 else 11) else 1
theorem testBit_putV (N a b v i : Nat) (hv : v < 2 ^ b) : (putV N a b v).testBit i = if a ≤ i ∧ i < a + b then v.testBit (i - a) else N.testBit i := by
  unfold putV
  rw [Nat.testBit_or, testBit_but, Nat.testBit_mul_two_pow, Nat.testBit_mul_two_pow, Nat.testBit_two_pow_sub_one]
  by_cases h1 : a ≤ i
  · by_cases h2 : i < a + b
    · have h3 : i - a < b := by omega
      rw [if_pos ⟨h1, h2⟩]
      simp [h1, h3]
    · have h3 : ¬ i - a < b := by omega
      have h4 : v.testBit (i - a) = false := Nat.testBit_lt_two_pow (Nat.lt_of_lt_of_le hv (Nat.pow_le_pow_right (by decide) (by omega)))
      rw [if_neg (by omega), h4]
      simp [h3]
  · rw [if_neg (by omega)]
    simp [h1]

/-- The field's lower word, and its upper one. -/
def lowW (x b l v : Nat) : Nat := butN x ((2 ^ b - 1) * 2 ^ l % 18446744073709551616) ||| v * 2 ^ l % 18446744073709551616
def highW (x b m v : Nat) : Nat := butN x ((2 ^ b - 1) / 2 ^ m) ||| v / 2 ^ m
theorem but_lt {a b : Nat} (h : a < 18446744073709551616) : butN a b < 18446744073709551616 := by
  have : butN a b < 2 ^ 64 := by
    apply lt_of_bits
    intro i hi
    rw [testBit_but, small_testBit h hi]
    rfl
  exact this
theorem andNot_u64 {A B : Int} (a b : Nat) (hA : A = a) (hB : B = b) (ha : a < 18446744073709551616) (hb : b < 18446744073709551616) : bits .andNot .u64 A B = ((butN a b : Nat) : Int) := by
  rw [hA, hB, bits_andNot_u64_nat a b ha hb]
theorem low_eq (x b l v : Nat) (hx : x < 18446744073709551616) :
    bits .or .u64 (bits .andNot .u64 (x : Int) (IntKind.u64.wrap (((2 ^ b - 1 : Nat) : Int) * 2 ^ l))) (IntKind.u64.wrap ((v : Int) * 2 ^ l)) = ((lowW x b l v : Nat) : Int) := by
  have h1 := andNot_u64 x _ rfl (shl_cast (2 ^ b - 1) l) hx (Nat.mod_lt _ (by decide))
  rw [or_u64 _ _ h1 (shl_cast v l) (but_lt hx) (Nat.mod_lt _ (by decide))]
  rfl
theorem high_eq (x b m v : Nat) (hx : x < 18446744073709551616) (hb : b ≤ 64) (hv : v < 18446744073709551616) :
    bits .or .u64 (bits .andNot .u64 (x : Int) (((2 ^ b - 1 : Nat) : Int) / 2 ^ m)) ((v : Int) / 2 ^ m) = ((highW x b m v : Nat) : Int) := by
  have h1 := andNot_u64 x _ rfl (shr_cast (2 ^ b - 1) m) hx (shr_lt (ones_lt hb))
  rw [or_u64 _ _ h1 (shr_cast v m) (but_lt hx) (shr_lt hv)]
  rfl
theorem lowW_lt {x b l v : Nat} (hx : x < 18446744073709551616) : lowW x b l v < 18446744073709551616 := Nat.or_lt_two_pow (n := 64) (but_lt hx) (Nat.mod_lt _ (by decide))
theorem highW_lt {x b l v : Nat} (hx : x < 18446744073709551616) (hv : v < 18446744073709551616) : highW x b l v < 18446744073709551616 := Nat.or_lt_two_pow (n := 64) (but_lt hx) (shr_lt hv)
theorem word_putV (N a b v k : Nat) (hv : v < 2 ^ b) (hb : b ≤ 64) : word (putV N a b v) k =
    if k = a / 64 then lowW (word N k) b (a % 64) v else if k = a / 64 + 1 ∧ 64 < a % 64 + b then highW (word N k) b (64 - a % 64) v else word N k := by
  have hv64 : v < 18446744073709551616 := Nat.lt_of_lt_of_le hv (Nat.pow_le_pow_right (n := 2) (by decide) hb)
  have hbig : ∀ i, b ≤ i → v.testBit i = false := fun i hi => Nat.testBit_lt_two_pow (Nat.lt_of_lt_of_le hv (Nat.pow_le_pow_right (by decide) hi))
  have hw := word_lt N k
  by_cases h1 : k = a / 64
  · rw [if_pos h1]
    apply word_of_bits (lowW_lt hw)
    intro j hj
    unfold lowW
    rw [testBit_putV _ _ _ _ _ hv, Nat.testBit_or, testBit_but, testBit_shl _ _ _ hj, testBit_shl _ _ _ hj, testBit_word, Nat.testBit_two_pow_sub_one, decide_eq_true hj, Bool.true_and]
    by_cases h2 : a % 64 ≤ j
    · have e : 64 * k + j - a = j - a % 64 := by omega
      by_cases h3 : j - a % 64 < b
      · rw [if_pos (by omega), e, decide_eq_true h2, decide_eq_true h3]
        simp
      · rw [if_neg (by omega), decide_eq_true h2, decide_eq_false h3, hbig _ (by omega)]
        simp
    · rw [if_neg (by omega), decide_eq_false h2]
      simp
  · rw [if_neg h1]
    by_cases h2 : k = a / 64 + 1 ∧ 64 < a % 64 + b
    · rw [if_pos h2]
      apply word_of_bits (highW_lt hw hv64)
      intro j hj
      unfold highW
      rw [testBit_putV _ _ _ _ _ hv, Nat.testBit_or, testBit_but, Nat.testBit_div_two_pow, Nat.testBit_div_two_pow, testBit_word, Nat.testBit_two_pow_sub_one, decide_eq_true hj, Bool.true_and]
      have e : 64 * k + j - a = j + (64 - a % 64) := by omega
      by_cases h3 : j + (64 - a % 64) < b
      · rw [if_pos (by omega), e, decide_eq_true h3]
        simp
      · rw [if_neg (by omega), decide_eq_false h3, hbig _ (by omega)]
        simp
    · rw [if_neg h2]
      apply word_of_bits hw
      intro j hj
      rw [testBit_putV _ _ _ _ _ hv, if_neg (by omega), testBit_word, decide_eq_true hj, Bool.true_and]

/-- What stands in Put: the set's words in one block, the result's in the next. -/
structure PutAt (w : World) (f : Nat → Nat) (wr : World) : Prop where
  set : Cells8 wr w.heap.size f
  res : Cells8 wr (w.heap.size + 1) (fun _ => 0)
  below : Below w.heap.size w wr
theorem PutAt.start (w : World) (N : Nat) : PutAt w (word N) ((w.alloc (.cells (cellsF (word N)) 24)).alloc (.cells #[.int .u64 0, .int .u64 0, .int .u64 0, .int .u64 0, .int .u64 0, .int .u64 0, .int .u64 0, .int .u64 0] 24)) :=
  ⟨(Cells8.last w _).alloc _, by
    have := Cells8.last (w.alloc (.cells (cellsF (word N)) 24)) (fun _ => 0)
    simpa [cellsF] using this, ((Below.refl _ _).alloc (Nat.le_refl _) _).alloc (by simp) _⟩

theorem PutAt.put {w wr : World} {f : Nat → Nat} {k x : Nat} (h : PutAt w f wr) (hk : k < 8) : PutAt w (fun j => if j = k then x else f j) (wr.setCell ⟨w.heap.size, k, none⟩ (.int .u64 (x : Nat))).drew :=
  ⟨(h.set.set x hk).drew, (h.res.other (by omega) _).drew, (h.below.setCell (p := ⟨w.heap.size, k, none⟩) (Nat.le_refl _) _).drew⟩

theorem Cells8.stay {w w' : World} {b : Nat} {f : Nat → Nat} (h : Cells8 w b f) (hb : Below w.heap.size w w') : Cells8 w' b f := h.of_heap (hb.block b h.lt)
theorem PutAt.stay {w wr wr' : World} {f : Nat → Nat} (h : PutAt w f wr) (hb : Below wr.heap.size wr wr') : PutAt w f wr' := ⟨h.set.stay hb, h.res.stay hb, go_on h.below hb⟩
theorem put_good {N a b v : Nat} (h : isF (a : Int) (b : Int) = true) (hv : v < 2 ^ b) : putN N a b v = putV N a b v ∧ putE a b v = 0 := by
  constructor
  · rw [putN, if_pos h, Int.toNat_natCast, Int.toNat_natCast, if_pos hv]
  · rw [putE, if_pos h, Int.toNat_natCast, if_pos hv]
theorem put_big {N a b v : Nat} (h : isF (a : Int) (b : Int) = true) (hv : ¬ v < 2 ^ b) : putN N a b v = 0 ∧ putE a b v = 11 := by
  constructor
  · rw [putN, if_pos h, Int.toNat_natCast, Int.toNat_natCast, if_neg hv]
  · rw [putE, if_pos h, Int.toNat_natCast, if_neg hv]
theorem put_bad {N v : Nat} {a b : Int} (h : ¬ isF a b = true) : putN N a b v = 0 ∧ putE a b v = 1 := by
  constructor
  · rw [putN, if_neg h]
  · rw [putE, if_neg h]

set_option maxHeartbeats 4000000 in
set_option maxRecDepth 100000 in
theorem put_any (N : Nat) (a b : Int) (v : Nat) (hv : v < 18446744073709551616) (w : World) :
    Calls Try.prog 24 #[setV N, .int .i64 a, .int .i64 b, .int .u64 v] w fun e w' => e = .returned (.tuple #[setV (putN N a b v), .int .i64 (putE a b v)]) ∧ Below w.heap.size w w' := by
  by_cases hF : isF a b = true
  · have hd : decide (1 ≤ b ∧ b ≤ 64 ∧ 0 ≤ a ∧ a ≤ 512 - b) = true := hF
    have hd2 := of_decide_eq_true hd
    obtain ⟨at_, rfl⟩ : ∃ m : Nat, a = m := ⟨a.toNat, by omega⟩
    obtain ⟨wd, rfl⟩ : ∃ m : Nat, b = m := ⟨b.toNat, by omega⟩
    have h1 : 1 ≤ wd := by omega
    have h2 : wd ≤ 64 := by omega
    have h3 : at_ + wd ≤ 512 := by omega
    have H0 : Hid (PutAt w (word N) ((w.alloc (.cells (cellsF (word N)) 24)).alloc (.cells #[.int .u64 0, .int .u64 0, .int .u64 0, .int .u64 0, .int .u64 0, .int .u64 0, .int .u64 0, .int .u64 0] 24))) := PutAt.start w N
    have HF : Hid _ := hF
    clear hd2 hF
    obtain ⟨k, hkd⟩ : ∃ k, at_ / 64 = k := ⟨_, rfl⟩
    obtain ⟨l, hld⟩ : ∃ l, at_ % 64 = l := ⟨_, rfl⟩
    have hk : k < 8 := by omega
    have hkI : (k : Int) < 8 := by omega
    have hl : l < 64 := by omega
    have hq : (at_ : Int) / 64 = k := by omega
    have hr : (at_ : Int) % 64 = l := by omega
    have HK : Hid (at_ / 64 = k ∧ at_ % 64 = l) := ⟨hkd, hld⟩
    clear hkd hld
    by_cases hvv : v < 2 ^ wd
    · have hvI : ¬ ((2 ^ wd - 1 : Nat) : Int) < (v : Int) := by omega
      by_cases hx : (64 : Int) < (l : Int) + wd
      · have hk2 : k + 1 < 8 := by have := HK.out; omega
        go_enter Try.func24, Try.ntmps24
        unfold setV
        go_wp2_with (first
          | (go_at_call 33; refine (isField_any _ _ _).mono ?_; rintro e w1 ⟨rfl, rfl⟩; rw [hd])
          | (go_at_call 26; refine (lowOnes_any _ (by omega) _).mono ?_; rintro e w1 ⟨rfl, rfl⟩))
        generalize hW : (w.alloc (.cells (cellsF (word N)) 24)).alloc (.cells #[.int .u64 0, .int .u64 0, .int .u64 0, .int .u64 0, .int .u64 0, .int .u64 0, .int .u64 0, .int .u64 0] 24) = W at H0 ⊢
        clear hW
        have hc := H0.out.set.get hk
        have hf := H0.out.set.frozen k
        simp only [hr]
        go_region
        rw [low_eq _ _ _ _ (word_lt N k)]
        generalize hW2 : (W.setCell ⟨w.heap.size, k, none⟩ (.int .u64 (lowW (word N k) wd l v : Nat))).drew = W2
        have H2 : Hid (PutAt w (fun j => if j = k then lowW (word N k) wd l v else word N j) W2) := by rw [← hW2]; exact H0.out.put hk
        clear hW2 hc hf H0
        obtain ⟨j, hjd⟩ : ∃ j, k + 1 = j := ⟨_, rfl⟩
        have hjI : (k : Int) + 1 = (j : Int) := by omega
        have hj8 : j < 8 := by omega
        have hjI8 : (j : Int) < 8 := by omega
        have hjw : IntKind.i64.wrap (j : Int) = j := IntWalk.i64_in _ (by omega)
        obtain ⟨m, hmd⟩ : ∃ m, 64 - l = m := ⟨_, rfl⟩
        have hmI : (64 : Int) - (l : Int) = (m : Int) := by omega
        have hm64 : m ≤ 64 := by omega
        have HJ : Hid (k + 1 = j ∧ 64 - l = m) := ⟨hjd, hmd⟩
        clear hjd hmd hk2
        go_wp2_with fail
        have hc := H2.out.set.get hj8
        have hf := H2.out.set.frozen j
        simp only [show ¬ j = k from by have := HJ.out; omega, if_false] at hc
        go_region
        rw [high_eq _ _ _ _ (word_lt N j) h2 hv]
        generalize hW3 : (W2.setCell ⟨w.heap.size, j, none⟩ (.int .u64 (highW (word N j) wd m v : Nat))).drew = W3
        obtain ⟨g, H3, HG⟩ : ∃ g, Hid (PutAt w g W3) ∧ Hid (∀ i, i < 8 → g i = word (putV N at_ wd v) i) := by
          refine ⟨_, by rw [← hW3]; exact H2.out.put hj8, ?_⟩
          intro i hi
          have h4 := HK.out
          have h5 := HJ.out
          rw [word_putV N at_ wd v i hvv h2, h4.1, h4.2]
          by_cases e1 : i = j
          · rw [if_pos e1, if_neg (by omega), if_pos (by omega), e1, h5.2]
          · rw [if_neg e1]
            by_cases e2 : i = k
            · rw [if_pos e2, if_pos e2, e2]
            · rw [if_neg e2, if_neg e2, if_neg (by omega)]
        clear hW3 hc hf H2 hx
        obtain ⟨c0, c1, c2, c3, c4, c5, c6, c7⟩ := H3.out.set.gets
        have f0 := H3.out.res.frozen 0
        have f1 := H3.out.res.frozen 1
        have f2 := H3.out.res.frozen 2
        have f3 := H3.out.res.frozen 3
        have f4 := H3.out.res.frozen 4
        have f5 := H3.out.res.frozen 5
        have f6 := H3.out.res.frozen 6
        have f7 := H3.out.res.frozen 7
        obtain ⟨d0, d1, d2, d3, d4, d5, d6, d7⟩ := H3.out.res.gets
        go_wp2_with fail
        obtain ⟨h8, hB⟩ := st8 H3.out.res H3.out.below (by omega) g rfl rfl rfl rfl rfl rfl rfl rfl
        refine bodyPost_ret (results_set_tmp rfl rfl h8) rfl ⟨?_, hB⟩
        have e := put_good (N := N) HF.out hvv
        rw [e.1, e.2]
        exact ret_set HG.out
      · go_enter Try.func24, Try.ntmps24
        unfold setV
        go_wp2_with (first
          | (go_at_call 33; refine (isField_any _ _ _).mono ?_; rintro e w1 ⟨rfl, rfl⟩; rw [hd])
          | (go_at_call 26; refine (lowOnes_any _ (by omega) _).mono ?_; rintro e w1 ⟨rfl, rfl⟩))
        generalize hW : (w.alloc (.cells (cellsF (word N)) 24)).alloc (.cells #[.int .u64 0, .int .u64 0, .int .u64 0, .int .u64 0, .int .u64 0, .int .u64 0, .int .u64 0, .int .u64 0] 24) = W at H0 ⊢
        clear hW
        have hc := H0.out.set.get hk
        have hf := H0.out.set.frozen k
        simp only [hr]
        go_region
        rw [low_eq _ _ _ _ (word_lt N k)]
        generalize hW2 : (W.setCell ⟨w.heap.size, k, none⟩ (.int .u64 (lowW (word N k) wd l v : Nat))).drew = W2
        obtain ⟨g, H3, HG⟩ : ∃ g, Hid (PutAt w g W2) ∧ Hid (∀ i, i < 8 → g i = word (putV N at_ wd v) i) := by
          refine ⟨_, by rw [← hW2]; exact H0.out.put hk, ?_⟩
          intro i hi
          have h4 := HK.out
          rw [word_putV N at_ wd v i hvv h2, h4.1, h4.2]
          by_cases e2 : i = k
          · rw [if_pos e2, if_pos e2, e2]
          · rw [if_neg e2, if_neg e2, if_neg (by omega)]
        clear hW2 hc hf H0
        obtain ⟨c0, c1, c2, c3, c4, c5, c6, c7⟩ := H3.out.set.gets
        have f0 := H3.out.res.frozen 0
        have f1 := H3.out.res.frozen 1
        have f2 := H3.out.res.frozen 2
        have f3 := H3.out.res.frozen 3
        have f4 := H3.out.res.frozen 4
        have f5 := H3.out.res.frozen 5
        have f6 := H3.out.res.frozen 6
        have f7 := H3.out.res.frozen 7
        obtain ⟨d0, d1, d2, d3, d4, d5, d6, d7⟩ := H3.out.res.gets
        go_wp2_with fail
        obtain ⟨h8, hB⟩ := st8 H3.out.res H3.out.below (by omega) g rfl rfl rfl rfl rfl rfl rfl rfl
        refine bodyPost_ret (results_set_tmp rfl rfl h8) rfl ⟨?_, hB⟩
        have e := put_good (N := N) HF.out hvv
        rw [e.1, e.2]
        exact ret_set HG.out
    · have hvI : ((2 ^ wd - 1 : Nat) : Int) < (v : Int) := by have := Nat.two_pow_pos wd; omega
      go_enter Try.func24, Try.ntmps24
      unfold setV
      go_wp2_with (first
        | (go_at_call 33; refine (isField_any _ _ _).mono ?_; rintro e w1 ⟨rfl, rfl⟩; rw [hd])
        | (go_at_call 26; refine (lowOnes_any _ (by omega) _).mono ?_; rintro e w1 ⟨rfl, rfl⟩))
      refine bodyPost_ret (results_set_tmp rfl rfl H0.out.res) rfl ⟨?_, H0.out.below⟩
      rw [(put_big (N := N) HF.out hvv).1, (put_big (N := N) HF.out hvv).2]
      exact ret_set (fun k _ => by simp [word])
  · have hd : decide (1 ≤ b ∧ b ≤ 64 ∧ 0 ≤ a ∧ a ≤ 512 - b) = false := by simpa [isF] using hF
    have H0 : Hid (PutAt w (word N) ((w.alloc (.cells (cellsF (word N)) 24)).alloc (.cells #[.int .u64 0, .int .u64 0, .int .u64 0, .int .u64 0, .int .u64 0, .int .u64 0, .int .u64 0, .int .u64 0] 24))) := PutAt.start w N
    have HF : Hid _ := hF
    clear hF
    go_enter Try.func24, Try.ntmps24
    unfold setV
    go_wp2_with (go_at_call 33; refine (isField_any _ _ _).mono ?_; rintro e w1 ⟨rfl, rfl⟩; rw [hd])
    refine bodyPost_ret (results_set_tmp rfl rfl H0.out.res) rfl ⟨?_, H0.out.below⟩
    rw [(put_bad (N := N) (v := v) HF.out).1, (put_bad (N := N) (v := v) HF.out).2]
    exact ret_set (fun k _ => by simp [word])

end Go.Proofs.Ytghchlppdhfoeaa
