/- Contract of bits.Of over any list that can be read: the set of its numbers, or the error; no old memory is written. -/
import Derived.Test.YtihjhkbbpphocaaBs
namespace Go.Proofs.Ytihjhkbbpphocaa
open Go.RowKit

/-- A list of ints, as it lies in memory. -/
def Reads (w : World) (v : Value) (xs : List Int) : Prop :=
  ∃ a cap, v = .slice a xs.length cap ∧ ∀ i, i < xs.length → ∃ g o, a = some ⟨g, o, none⟩ ∧ g < w.heap.size ∧ w.cell? ⟨g, o + i, none⟩ = some (.int .i64 (xs.getD i 0))
/-- The set of a list's numbers. -/
def ofL (xs : List Int) : Nat := xs.foldl (fun N i => N ||| 2 ^ i.toNat) 0
def inSet (i : Int) : Bool := decide (0 ≤ i ∧ i < 512)
/-- What Of answers. -/
def ofN (xs : List Int) : Nat := if xs.all inSet then ofL xs else 0
def ofE (xs : List Int) : Int := if xs.all inSet then 0 else 11
theorem ofL_take_succ (xs : List Int) (i : Nat) (h : i < xs.length) : ofL (xs.take (i + 1)) = ofL (xs.take i) ||| 2 ^ (xs.getD i 0).toNat := by
  unfold ofL
  rw [List.take_add_one, List.foldl_append]
  simp [h]
theorem testBit_ofL_aux (xs : List Int) : ∀ (N j : Nat), (xs.foldl (fun N i => N ||| 2 ^ i.toNat) N).testBit j = (N.testBit j || decide (∃ x ∈ xs, x.toNat = j)) := by
  induction xs with
  | nil => simp
  | cons x xs ih =>
    intro N j
    rw [List.foldl_cons, ih, Nat.testBit_or, Nat.testBit_two_pow, Bool.or_assoc]
    congr 1
    rw [Bool.eq_iff_iff]
    simp
theorem testBit_ofL (xs : List Int) (j : Nat) : (ofL xs).testBit j = decide (∃ x ∈ xs, x.toNat = j) := by
  unfold ofL
  rw [testBit_ofL_aux]
  simp
theorem word_or_bit (N i k : Nat) : word (N ||| 2 ^ i) k = if k = i / 64 then word N k ||| 2 ^ (i % 64) else word N k := by
  by_cases h : k = i / 64
  · rw [if_pos h]
    apply word_of_bits (Nat.or_lt_two_pow (n := 64) (word_lt N k) (two_pow_lt _ (Nat.mod_lt _ (by decide))))
    intro j hj
    rw [Nat.testBit_or, Nat.testBit_or, Nat.testBit_two_pow, Nat.testBit_two_pow, testBit_word]
    simp only [hj, decide_true, Bool.true_and]
    congr 1
    rw [decide_eq_decide]
    omega
  · rw [if_neg h]
    apply word_of_bits (word_lt N k)
    intro j hj
    rw [Nat.testBit_or, Nat.testBit_two_pow, testBit_word]
    have : ¬ i = 64 * k + j := by omega
    simp [hj, this]
theorem cells_or_bit (N : Nat) {i : Nat} (h : i < 512) : (cellsF (word N)).setIfInBounds (i / 64) (.int .u64 (word N (i / 64) ||| 2 ^ (i % 64) : Nat)) = cellsF (word (N ||| 2 ^ i)) := by
  rw [cellsF_set _ _ (by omega)]
  apply cellsF_congr
  intro k _
  rw [word_or_bit]
  by_cases hk : k = i / 64
  · rw [if_pos hk, if_pos hk, hk]
  · rw [if_neg hk, if_neg hk]

theorem ret_set {f g : Nat → Nat} {e : Value} (h : ∀ k, k < 8 → f k = g k) : Ending.returned (.tuple #[.agg (cellsF f), e]) = .returned (.tuple #[.agg (cellsF g), e]) := by rw [cellsF_congr h]
theorem of_bad {xs : List Int} {i : Nat} {x : Int} (h : i < xs.length) (hx : xs.getD i 0 = x) (hin : ¬ (0 ≤ x ∧ x < 512)) : ofN xs = 0 ∧ ofE xs = 11 := by
  have e : ¬ xs.all inSet = true := by
    rw [List.all_eq_true]
    intro ha
    have := ha x (by rw [← hx]; simp [h])
    simp [inSet] at this
    omega
  exact ⟨by rw [ofN, if_neg e], by rw [ofE, if_neg e]⟩
theorem of_good {xs : List Int} {i : Nat} (h : i = xs.length) (ha : ∀ j, j < i → inSet (xs.getD j 0) = true) : ofN xs = ofL (xs.take i) ∧ ofE xs = 0 := by
  have e : xs.all inSet = true := by
    rw [List.all_eq_true]
    intro x hx
    obtain ⟨j, hj, rfl⟩ := List.mem_iff_getElem.1 hx
    have := ha j (by omega)
    simpa [hj] using this
  refine ⟨?_, by rw [ofE, if_pos e]⟩
  rw [ofN, if_pos e, h, List.take_length]

/-- What stands in the loop of Of. -/
structure OfAt (w : World) (xs : List Int) (i : Nat) (wr : World) : Prop where
  all : ∀ j, j < i → inSet (xs.getD j 0) = true
  res : Cells8 wr w.heap.size (fun _ => 0)
  out : Cells8 wr (w.heap.size + 1) (word (ofL (xs.take i)))
  below : Below w.heap.size w wr

theorem or_u64 {A B : Int} (a b : Nat) (hA : A = a) (hB : B = b) (ha : a < 18446744073709551616) (hb : b < 18446744073709551616) : bits .or .u64 A B = ((a ||| b : Nat) : Int) := by
  rw [hA, hB, bits_or_u64_nat a b ha hb]
theorem OfAt.next {w wr : World} {xs : List Int} {i m k : Nat} (h : OfAt w xs i wr) (hlt : i < xs.length) (hx : xs.getD i 0 = (m : Int)) (hm : m < 512) (hk : m / 64 = k) :
    OfAt w xs (i + 1) (wr.setCell ⟨w.heap.size + 1, k, none⟩ (.int .u64 (bits .or .u64 (word (ofL (xs.take i)) k : Nat) (2 ^ (m % 64))))).drew := by
  have e : bits .or .u64 (word (ofL (xs.take i)) k : Nat) (2 ^ (m % 64)) = ((word (ofL (xs.take i)) k ||| 2 ^ (m % 64) : Nat) : Int) :=
    or_u64 _ (2 ^ (m % 64)) rfl (by simp) (word_lt _ _) (two_pow_lt _ (by omega))
  rw [e]
  refine ⟨?_, ?_, ?_, ?_⟩
  · intro j hj
    by_cases hji : j = i
    · rw [hji, hx]
      simp [inSet]
      omega
    · exact h.all j (by omega)
  · exact (h.res.other (by omega) _).drew
  · refine ((h.out.set _ (by omega)).congr ?_).drew
    intro j _
    rw [ofL_take_succ xs i hlt, hx, word_or_bit, Int.toNat_natCast, hk]
    by_cases hj : j = k
    · rw [if_pos hj, if_pos hj, hj]
    · rw [if_neg hj, if_neg hj]
  · exact (h.below.setCell (p := ⟨w.heap.size + 1, k, none⟩) (by simp) _).drew

set_option maxHeartbeats 2000000 in
set_option maxRecDepth 100000 in
theorem of_any (v : Value) (xs : List Int) (w : World) (hv : Reads w v xs) (hm : xs.length ≤ 9223372036854775806) :
    Calls Try.prog 41 #[v] w fun e w' => e = .returned (.tuple #[setV (ofN xs), .int .i64 (ofE xs)]) ∧ Below w.heap.size w w' := by
  obtain ⟨a, cap, rfl, hr⟩ := hv
  have HR : Hid _ := hr
  clear hr
  have H0 : Hid (OfAt w xs 0 ((w.alloc (.cells (cellsF (fun _ => 0)) 44)).alloc (.cells (cellsF (fun _ => 0)) 44))) :=
    ⟨fun j hj => by omega, (Cells8.last w _).alloc _, by
      have := (Cells8.last (w.alloc (.cells (cellsF (fun _ => 0)) 44)) (fun _ => 0)).congr (g := word (ofL (xs.take 0))) (fun k _ => by simp [ofL, word])
      simpa using this, ((Below.refl _ _).alloc (Nat.le_refl _) _).alloc (by simp) _⟩
  unfold cellsF at H0
  go_enter Try.func41, Try.ntmps41
  go_wp2_with fail
  go_loopw [9] (fun vi wr => ∃ i : Nat, vi = .int .i64 i ∧ i ≤ xs.length ∧ OfAt w xs i wr) (fun vi _ => xs.length - (intOf vi).toNat)
  case atStart => exact ⟨0, rfl, Nat.zero_le _, H0.out⟩
  case round =>
    obtain ⟨i, rfl, hi, hat⟩ := hrel
    clear H0
    have HA : Hid (OfAt w xs i wr) := hat
    clear hat
    by_cases hlt : i < xs.length
    · obtain ⟨g, o, rfl, hg, hcell⟩ := HR.out i hlt
      obtain ⟨x, hx⟩ : ∃ x, xs.getD i 0 = x := ⟨_, rfl⟩
      rw [hx, ← below_cell HA.out.below hg] at hcell
      have HX : Hid (xs.getD i 0 = x) := hx
      clear hx
      have hiI : (i : Int) < xs.length := by omega
      by_cases hin : 0 ≤ x ∧ x < 512
      · obtain ⟨m, rfl⟩ : ∃ m : Nat, x = m := ⟨x.toNat, by omega⟩
        have hd : decide (0 ≤ (m : Int) ∧ (m : Int) < 512) = true := by simpa using hin
        go_wp2_with (go_at_call 63; refine (isNumber_any _ _).mono ?_; rintro e w1 ⟨rfl, rfl⟩; rw [hd])
        have hm5 : m < 512 := by omega
        obtain ⟨k, hkd⟩ : ∃ k, m / 64 = k := ⟨_, rfl⟩
        have hk : k < 8 := by omega
        have hkI : (k : Int) < 8 := by omega
        have hq : (m : Int).tdiv 64 = k := by rw [Int.tdiv_eq_ediv_of_nonneg (by omega)]; omega
        have hw : IntKind.i64.wrap (k : Int) = k := IntWalk.i64_in _ (by omega)
        clear hd hin
        have hc := HA.out.out.get hk
        have hf := HA.out.out.frozen k
        have HK : Hid (m / 64 = k) := hkd
        clear hkd
        have HN := HA.out.next hlt HX.out hm5 HK.out
        have HNH : Hid _ := HN
        clear HN
        go_region_with (go_at_call 64; refine (bitOf_any m hm5 _).mono ?_; rintro e w1 ⟨rfl, rfl⟩)
        all_goals go_wp2_with fail
        all_goals go_roundw
        all_goals first
          | exact ⟨i + 1, by go_num, by omega, HNH.out⟩
          | (simp [intOf]; omega)
      · have hd : decide (0 ≤ x ∧ x < 512) = false := by simpa using hin
        obtain ⟨c0, c1, c2, c3, c4, c5, c6, c7⟩ := HA.out.res.gets
        have f0 := HA.out.res.frozen 0
        have f1 := HA.out.res.frozen 1
        have f2 := HA.out.res.frozen 2
        have f3 := HA.out.res.frozen 3
        have f4 := HA.out.res.frozen 4
        have f5 := HA.out.res.frozen 5
        have f6 := HA.out.res.frozen 6
        have f7 := HA.out.res.frozen 7
        go_wp2_with (go_at_call 63; refine (isNumber_any _ _).mono ?_; rintro e w1 ⟨rfl, rfl⟩; rw [hd])
        have e1 : ofN xs = 0 ∧ ofE xs = 11 := of_bad hlt HX.out hin
        obtain ⟨h8, hB⟩ := st8 HA.out.res HA.out.below (Nat.le_refl _) (fun _ => 0) rfl rfl rfl rfl rfl rfl rfl rfl
        refine bodyPost_ret (results_set_tmp rfl rfl h8) rfl ⟨?_, hB⟩
        rw [e1.1, e1.2]
        exact ret_set (fun k _ => by simp [word])
    · have hiI : ¬ (i : Int) < xs.length := by omega
      obtain ⟨c0, c1, c2, c3, c4, c5, c6, c7⟩ := HA.out.res.gets
      have f0 := HA.out.res.frozen 0
      have f1 := HA.out.res.frozen 1
      have f2 := HA.out.res.frozen 2
      have f3 := HA.out.res.frozen 3
      have f4 := HA.out.res.frozen 4
      have f5 := HA.out.res.frozen 5
      have f6 := HA.out.res.frozen 6
      have f7 := HA.out.res.frozen 7
      obtain ⟨d0, d1, d2, d3, d4, d5, d6, d7⟩ := HA.out.out.gets
      go_wp2_with fail
      have hil : i = xs.length := by omega
      have e1 : ofN xs = ofL (xs.take i) ∧ ofE xs = 0 := of_good hil HA.out.all
      obtain ⟨h8, hB⟩ := st8 HA.out.res HA.out.below (Nat.le_refl _) (word (ofL (xs.take i))) rfl rfl rfl rfl rfl rfl rfl rfl
      refine bodyPost_ret (results_set_tmp rfl rfl h8) rfl ⟨?_, hB⟩
      rw [e1.1, e1.2]
      rfl

end Go.Proofs.Ytihjhkbbpphocaa
