/- Proved: eggboxlaw13.TransCycles answers true at every number n, list a and number less (P1304, P1308): of the transformation made of them the index i and the period p that Cycle tells are such that t^(i+p) is t^i, i is below the number of points, and both are the least ones; the period is 1 just where t leaves t^i as it is. No condition. -/
import Derived.Test.YthglficjhgpegabAw
namespace Go.Proofs.Ythglficjhgpegab.transCycles
open Go Go.ChangeShapes Go.WideShapes Go.ChangeAt Go.RowKit Go.Lib
open Go.ChangeMaps (open_string shut_string)
set_option linter.unusedVariables false

set_option maxHeartbeats 8000000 in
set_option maxRecDepth 100000 in
theorem walk (a0 : Int) (v1 : Value) (a1 : List Int) (a2 : Int) (W : World) (h0 : I64 a0) (r1 : Reads W v1 a1) (b1 : ∀ x ∈ a1, I64 x) (z1 : a1.length ≤ 17592186044414) (h2 : I64 a2) :
    Calls Try.prog 5 #[.int .i64 a0, v1, .int .i64 a2] W fun e w' => e = .returned (.bool true) ∧ Below W.heap.size W w' := by
  obtain ⟨n, hn1, hn2, y, z, he1, he2, he3, he4, he5, he6⟩ := mod64 a0 h0
  have HT : Hid (Tf (toL (mdL n a1))) := md_tf hn1 hn2 a1
  have HL : Hid ((toL (mdL n a1)).length = n) := md_len n a1
  have H2 : Hid (I64 a2) := h2
  have HB1 : Hid (∀ x ∈ a1, I64 x) := b1
  have HR1 : Hid (Reads W v1 a1) := r1
  clear h0 h2 b1 r1
  go_enter Try.func5, Try.ntmps5
  go_wp2_with fail
  clear he1 he2 he3 he4 he5 he6
  refine (made_any n hn1 hn2 v1 a1 HB1.out W HR1.out (by omega)).mono ?_
  rintro e w0 ⟨v0, rfl, hO, hB0⟩
  have HO : Hid (w0.ownsRow W.heap.size 3 1 v0 (mdL n a1).length (zC (mdL n a1))) := hO
  have HK0 : Hid (KP [] W w0) := ⟨fun p hp => by simp at hp, hB0⟩
  clear hO hB0 z1
  go_wp2_with fail
  have HMK := make_md n hn1 hn2 a1 v0 w0 HO.out
  obtain ⟨l, hl⟩ : ∃ l, toL (mdL n a1) = l := ⟨_, rfl⟩
  rw [hl] at HT HL HMK
  clear hl
  refine (HMK).mono ?_
  rintro e w1 ⟨rfl, hB⟩
  have HJ1 : Hid (KP [] W w1) := HK0.out.call hB
  clear hB
  have hst := st_trNew w1 l
  have hsz1 := tC_size l
  have HK1 : Hid (KP [(w1.heap.size, l)] W (w1.alloc (.cells (tC l) 26))) := HJ1.out.new _
  clear HK0 HJ1
  clear HMK HO
  go_wp2_with (first
    | (refine wl_load rfl rfl (HK1.out.get (b := w1.heap.size) (l := l) (by simp)) rfl ?_)
    | (refine wl_eq rfl rfl rfl rfl ?_)
    | (refine wl_ne rfl rfl rfl rfl ?_)
    | (go_at_call 12; refine (num13_any _ _).mono ?_; rintro e wn ⟨rfl, rfl⟩))
  refine (cycle_tC l HT.out _).mono ?_
  rintro e w2 ⟨x, p, hc, rfl, hB⟩
  have HC : Hid (Cyc l x p) := hc
  have hx1 : x < n := by have := hc.lt; rw [HL.out] at this; exact this
  have hp1 := hc.pos
  have hp2 := CY.small HT.out hc
  clear hc hst
  have g1 : ¬ ((x : Int) < 0) := by omega
  have g2 : ¬ ((n : Int) ≤ (x : Int)) := by omega
  have g3 : ¬ ((p : Int) < 1) := by omega
  have HK2 : Hid (KP [(w1.heap.size, l)] W w2) := HK1.out.call hB
  clear hB HK1
  go_wp2_with (first
    | (refine wl_load rfl rfl (HK2.out.get (b := w1.heap.size) (l := l) (by simp)) rfl ?_)
    | (refine wl_eq rfl rfl rfl rfl ?_)
    | (refine wl_ne rfl rfl rfl rfl ?_)
    | (go_at_call 12; refine (num13_any _ _).mono ?_; rintro e wn ⟨rfl, rfl⟩))
  refine (knows13_any _).mono ?_
  rintro e w3 ⟨rfl, hB⟩
  have HK3 : Hid (KP [(w1.heap.size, l)] W w3) := HK2.out.call hB
  clear hB HK2
  have u1 := u64w (a := x) (by omega)
  have u2 := u64w (a := p) (by omega)
  obtain ⟨q1, hq1⟩ : ∃ q1, x + p = q1 := ⟨_, rfl⟩
  have u3 := u64add hq1 (by omega)
  have hq1b : q1 < 18446744073709551616 := by omega
  have hs1 : sameL (pwr l x) (pwr l q1) = true := pwr_same HT.out (by rw [← hq1]; exact ((HC.out.pwr x p hp1).2 ⟨Nat.le_refl _, Nat.dvd_refl _⟩).symm)
  have HQ1 : Hid (x + p = q1) := hq1
  clear hq1
  go_wp2_with (first
    | (refine wl_load rfl rfl (HK3.out.get (b := w1.heap.size) (l := l) (by simp)) rfl ?_)
    | (refine wl_eq rfl rfl rfl rfl ?_)
    | (refine wl_ne rfl rfl rfl rfl ?_)
    | (go_at_call 12; refine (num13_any _ _).mono ?_; rintro e wn ⟨rfl, rfl⟩))
  refine (power_tC l HT.out x (by omega) _).mono ?_
  rintro e w4 ⟨rfl, hB⟩
  have HJ4 : Hid (KP [(w1.heap.size, l)] W w4) := HK3.out.call hB
  clear hB
  have hst := st_trNew w4 (pwr l x)
  have hsz4 := tC_size (pwr l x)
  have HK4 : Hid (KP [(w4.heap.size, pwr l x), (w1.heap.size, l)] W (w4.alloc (.cells (tC (pwr l x)) 26))) := HJ4.out.new _
  clear HK3 HJ4
  go_wp2_with (first
    | (refine wl_load rfl rfl (HK4.out.get (b := w4.heap.size) (l := pwr l x) (by simp)) rfl ?_)
    | (refine wl_load rfl rfl (HK4.out.get (b := w1.heap.size) (l := l) (by simp)) rfl ?_)
    | (refine wl_eq rfl rfl rfl rfl ?_)
    | (refine wl_ne rfl rfl rfl rfl ?_)
    | (go_at_call 12; refine (num13_any _ _).mono ?_; rintro e wn ⟨rfl, rfl⟩))
  clear hst
  refine (power_tC l HT.out q1 hq1b _).mono ?_
  rintro e w5 ⟨rfl, hB⟩
  have HJ5 : Hid (KP [(w4.heap.size, pwr l x), (w1.heap.size, l)] W w5) := HK4.out.call hB
  clear hB
  have hst := st_trNew w5 (pwr l q1)
  have hsz5 := tC_size (pwr l q1)
  have HK5 : Hid (KP [(w5.heap.size, pwr l q1), (w4.heap.size, pwr l x), (w1.heap.size, l)] W (w5.alloc (.cells (tC (pwr l q1)) 26))) := HJ5.out.new _
  clear HK4 HJ5
  by_cases hx0 : 0 < x
  · have g4 : (0 : Int) < x := by omega
    obtain ⟨x1, hx1'⟩ : ∃ x1, x - 1 = x1 := ⟨_, rfl⟩
    have g5 : IntKind.i64.wrap ((x : Int) - 1) = (x1 : Int) := by rw [IntWalk.i64_in _ (by omega)]; omega
    have u7 := u64w (a := x1) (by omega)
    obtain ⟨q2, hq2⟩ : ∃ q2, x1 + p = q2 := ⟨_, rfl⟩
    have u8 := u64add hq2 (by omega)
    have hx1b : x1 < 18446744073709551616 := by omega
    have hq2b : q2 < 18446744073709551616 := by omega
    have hs2 : sameL (pwr l x1) (pwr l q2) = false := pwr_differ HT.out (fun e => by
      rw [← hq2] at e
      have := ((HC.out.pwr x1 p hp1).1 e.symm).1
      omega)
    clear hq2 hx1'
    go_wp2_with (first
      | (refine wl_load rfl rfl (HK5.out.get (b := w5.heap.size) (l := pwr l q1) (by simp)) rfl ?_)
      | (refine wl_load rfl rfl (HK5.out.get (b := w4.heap.size) (l := pwr l x) (by simp)) rfl ?_)
      | (refine wl_load rfl rfl (HK5.out.get (b := w1.heap.size) (l := l) (by simp)) rfl ?_)
      | (refine wl_eq rfl rfl rfl rfl ?_)
      | (refine wl_ne rfl rfl rfl rfl ?_)
      | (go_at_call 12; refine (num13_any _ _).mono ?_; rintro e wn ⟨rfl, rfl⟩))
    clear hst
    refine (power_tC l HT.out x1 hx1b _).mono ?_
    rintro e w6 ⟨rfl, hB⟩
    have HJ6 : Hid (KP [(w5.heap.size, pwr l q1), (w4.heap.size, pwr l x), (w1.heap.size, l)] W w6) := HK5.out.call hB
    clear hB
    have hst := st_trNew w6 (pwr l x1)
    have hsz6 := tC_size (pwr l x1)
    have HK6 : Hid (KP [(w6.heap.size, pwr l x1), (w5.heap.size, pwr l q1), (w4.heap.size, pwr l x), (w1.heap.size, l)] W (w6.alloc (.cells (tC (pwr l x1)) 26))) := HJ6.out.new _
    clear HK5 HJ6
    go_wp2_with (first
      | (refine wl_load rfl rfl (HK6.out.get (b := w6.heap.size) (l := pwr l x1) (by simp)) rfl ?_)
      | (refine wl_load rfl rfl (HK6.out.get (b := w5.heap.size) (l := pwr l q1) (by simp)) rfl ?_)
      | (refine wl_load rfl rfl (HK6.out.get (b := w4.heap.size) (l := pwr l x) (by simp)) rfl ?_)
      | (refine wl_load rfl rfl (HK6.out.get (b := w1.heap.size) (l := l) (by simp)) rfl ?_)
      | (refine wl_eq rfl rfl rfl rfl ?_)
      | (refine wl_ne rfl rfl rfl rfl ?_)
      | (go_at_call 12; refine (num13_any _ _).mono ?_; rintro e wn ⟨rfl, rfl⟩))
    clear hst
    refine (power_tC l HT.out q2 hq2b _).mono ?_
    rintro e w7 ⟨rfl, hB⟩
    have HJ7 : Hid (KP [(w6.heap.size, pwr l x1), (w5.heap.size, pwr l q1), (w4.heap.size, pwr l x), (w1.heap.size, l)] W w7) := HK6.out.call hB
    clear hB
    have hst := st_trNew w7 (pwr l q2)
    have hsz7 := tC_size (pwr l q2)
    have HK7 : Hid (KP [(w7.heap.size, pwr l q2), (w6.heap.size, pwr l x1), (w5.heap.size, pwr l q1), (w4.heap.size, pwr l x), (w1.heap.size, l)] W (w7.alloc (.cells (tC (pwr l q2)) 26))) := HJ7.out.new _
    clear HK6 HJ7
    obtain ⟨q, hq1', hq2', yq, zq, me1, me2, me3, me4, me5, me6⟩ := modp a2 H2.out p hp1 hp2
    have hp0 : ((p : Int) == 0) = false := by rw [beq_eq_false_iff_ne]; omega
    have hp0' : ¬ (p : Int) = 0 := by omega
    have u5 := u64w (a := q) (by omega)
    obtain ⟨q3, hq3⟩ : ∃ q3, x + q = q3 := ⟨_, rfl⟩
    have u6 := u64add hq3 (by omega)
    have hq3b : q3 < 18446744073709551616 := by omega
    have hs3 : sameL (pwr l q3) (pwr l x) = ((q : Int) == (p : Int)) := by
      rw [sameL_dec (pwr_tf HT.out _) (pwr_tf HT.out _), Bool.eq_iff_iff, decide_eq_true_iff, beq_iff_eq, ← hq3, HC.out.pwr x q hq1']
      constructor
      · rintro ⟨_, hd⟩
        have := Nat.le_of_dvd (by omega) hd
        omega
      · intro e
        have : q = p := by omega
        exact ⟨Nat.le_refl _, by rw [this]; exact Nat.dvd_refl _⟩
    have hs4 : sameL (cmp (pwr l x) l) (pwr l x) = ((p : Int) == 1) := by
      have e : cmp (pwr l x) l = pwr l (x + 1) := rfl
      rw [e, sameL_dec (pwr_tf HT.out _) (pwr_tf HT.out _), Bool.eq_iff_iff, decide_eq_true_iff, beq_iff_eq, HC.out.pwr x 1 (by decide)]
      constructor
      · rintro ⟨_, hd⟩
        have := Nat.le_of_dvd (by decide) hd
        omega
      · intro e
        have : p = 1 := by omega
        exact ⟨Nat.le_refl _, by rw [this]; exact Nat.dvd_refl _⟩
    clear hq3
    go_wp2_with (first
      | (refine wl_load rfl rfl (HK7.out.get (b := w7.heap.size) (l := pwr l q2) (by simp)) rfl ?_)
      | (refine wl_load rfl rfl (HK7.out.get (b := w6.heap.size) (l := pwr l x1) (by simp)) rfl ?_)
      | (refine wl_load rfl rfl (HK7.out.get (b := w5.heap.size) (l := pwr l q1) (by simp)) rfl ?_)
      | (refine wl_load rfl rfl (HK7.out.get (b := w4.heap.size) (l := pwr l x) (by simp)) rfl ?_)
      | (refine wl_load rfl rfl (HK7.out.get (b := w1.heap.size) (l := l) (by simp)) rfl ?_)
      | (refine wl_eq rfl rfl rfl rfl ?_)
      | (refine wl_ne rfl rfl rfl rfl ?_)
      | (go_at_call 12; refine (num13_any _ _).mono ?_; rintro e wn ⟨rfl, rfl⟩))
    clear hst
    refine (power_tC l HT.out q3 hq3b _).mono ?_
    rintro e w8 ⟨rfl, hB⟩
    have HJ8 : Hid (KP [(w7.heap.size, pwr l q2), (w6.heap.size, pwr l x1), (w5.heap.size, pwr l q1), (w4.heap.size, pwr l x), (w1.heap.size, l)] W w8) := HK7.out.call hB
    clear hB
    have hst := st_trNew w8 (pwr l q3)
    have hsz8 := tC_size (pwr l q3)
    have HK8 : Hid (KP [(w8.heap.size, pwr l q3), (w7.heap.size, pwr l q2), (w6.heap.size, pwr l x1), (w5.heap.size, pwr l q1), (w4.heap.size, pwr l x), (w1.heap.size, l)] W (w8.alloc (.cells (tC (pwr l q3)) 26))) := HJ8.out.new _
    clear HK7 HJ8
    go_wp2_with (first
      | (refine wl_load rfl rfl (HK8.out.get (b := w8.heap.size) (l := pwr l q3) (by simp)) rfl ?_)
      | (refine wl_load rfl rfl (HK8.out.get (b := w7.heap.size) (l := pwr l q2) (by simp)) rfl ?_)
      | (refine wl_load rfl rfl (HK8.out.get (b := w6.heap.size) (l := pwr l x1) (by simp)) rfl ?_)
      | (refine wl_load rfl rfl (HK8.out.get (b := w5.heap.size) (l := pwr l q1) (by simp)) rfl ?_)
      | (refine wl_load rfl rfl (HK8.out.get (b := w4.heap.size) (l := pwr l x) (by simp)) rfl ?_)
      | (refine wl_load rfl rfl (HK8.out.get (b := w1.heap.size) (l := l) (by simp)) rfl ?_)
      | (refine wl_eq rfl rfl rfl rfl ?_)
      | (refine wl_ne rfl rfl rfl rfl ?_)
      | (go_at_call 12; refine (num13_any _ _).mono ?_; rintro e wn ⟨rfl, rfl⟩))
    clear hst
    refine (compose_tC (pwr l x) l (pwr_tf HT.out x) HT.out (pwr_len l x) _).mono ?_
    rintro e w9 ⟨rfl, hB⟩
    have HJ9 : Hid (KP [(w8.heap.size, pwr l q3), (w7.heap.size, pwr l q2), (w6.heap.size, pwr l x1), (w5.heap.size, pwr l q1), (w4.heap.size, pwr l x), (w1.heap.size, l)] W w9) := HK8.out.call hB
    clear hB
    have hst := st_trNew w9 (cmp (pwr l x) l)
    have hsz9 := tC_size (cmp (pwr l x) l)
    have HK9 : Hid (KP [(w9.heap.size, cmp (pwr l x) l), (w8.heap.size, pwr l q3), (w7.heap.size, pwr l q2), (w6.heap.size, pwr l x1), (w5.heap.size, pwr l q1), (w4.heap.size, pwr l x), (w1.heap.size, l)] W (w9.alloc (.cells (tC (cmp (pwr l x) l)) 26))) := HJ9.out.new _
    clear HK8 HJ9
    go_wp2_with (first
      | (refine wl_load rfl rfl (HK9.out.get (b := w9.heap.size) (l := cmp (pwr l x) l) (by simp)) rfl ?_)
      | (refine wl_load rfl rfl (HK9.out.get (b := w8.heap.size) (l := pwr l q3) (by simp)) rfl ?_)
      | (refine wl_load rfl rfl (HK9.out.get (b := w7.heap.size) (l := pwr l q2) (by simp)) rfl ?_)
      | (refine wl_load rfl rfl (HK9.out.get (b := w6.heap.size) (l := pwr l x1) (by simp)) rfl ?_)
      | (refine wl_load rfl rfl (HK9.out.get (b := w5.heap.size) (l := pwr l q1) (by simp)) rfl ?_)
      | (refine wl_load rfl rfl (HK9.out.get (b := w4.heap.size) (l := pwr l x) (by simp)) rfl ?_)
      | (refine wl_load rfl rfl (HK9.out.get (b := w1.heap.size) (l := l) (by simp)) rfl ?_)
      | (refine wl_eq rfl rfl rfl rfl ?_)
      | (refine wl_ne rfl rfl rfl rfl ?_)
      | (go_at_call 12; refine (num13_any _ _).mono ?_; rintro e wn ⟨rfl, rfl⟩))
    go_ret
    exact ⟨rfl, HK9.out.below⟩
  · have g4 : ¬ ((0 : Int) < x) := by omega
    obtain ⟨q, hq1', hq2', yq, zq, me1, me2, me3, me4, me5, me6⟩ := modp a2 H2.out p hp1 hp2
    have hp0 : ((p : Int) == 0) = false := by rw [beq_eq_false_iff_ne]; omega
    have hp0' : ¬ (p : Int) = 0 := by omega
    have u5 := u64w (a := q) (by omega)
    obtain ⟨q3, hq3⟩ : ∃ q3, x + q = q3 := ⟨_, rfl⟩
    have u6 := u64add hq3 (by omega)
    have hq3b : q3 < 18446744073709551616 := by omega
    have hs3 : sameL (pwr l q3) (pwr l x) = ((q : Int) == (p : Int)) := by
      rw [sameL_dec (pwr_tf HT.out _) (pwr_tf HT.out _), Bool.eq_iff_iff, decide_eq_true_iff, beq_iff_eq, ← hq3, HC.out.pwr x q hq1']
      constructor
      · rintro ⟨_, hd⟩
        have := Nat.le_of_dvd (by omega) hd
        omega
      · intro e
        have : q = p := by omega
        exact ⟨Nat.le_refl _, by rw [this]; exact Nat.dvd_refl _⟩
    have hs4 : sameL (cmp (pwr l x) l) (pwr l x) = ((p : Int) == 1) := by
      have e : cmp (pwr l x) l = pwr l (x + 1) := rfl
      rw [e, sameL_dec (pwr_tf HT.out _) (pwr_tf HT.out _), Bool.eq_iff_iff, decide_eq_true_iff, beq_iff_eq, HC.out.pwr x 1 (by decide)]
      constructor
      · rintro ⟨_, hd⟩
        have := Nat.le_of_dvd (by decide) hd
        omega
      · intro e
        have : p = 1 := by omega
        exact ⟨Nat.le_refl _, by rw [this]; exact Nat.dvd_refl _⟩
    clear hq3
    go_wp2_with (first
      | (refine wl_load rfl rfl (HK5.out.get (b := w5.heap.size) (l := pwr l q1) (by simp)) rfl ?_)
      | (refine wl_load rfl rfl (HK5.out.get (b := w4.heap.size) (l := pwr l x) (by simp)) rfl ?_)
      | (refine wl_load rfl rfl (HK5.out.get (b := w1.heap.size) (l := l) (by simp)) rfl ?_)
      | (refine wl_eq rfl rfl rfl rfl ?_)
      | (refine wl_ne rfl rfl rfl rfl ?_)
      | (go_at_call 12; refine (num13_any _ _).mono ?_; rintro e wn ⟨rfl, rfl⟩))
    clear hst
    refine (power_tC l HT.out q3 hq3b _).mono ?_
    rintro e w6 ⟨rfl, hB⟩
    have HJ6 : Hid (KP [(w5.heap.size, pwr l q1), (w4.heap.size, pwr l x), (w1.heap.size, l)] W w6) := HK5.out.call hB
    clear hB
    have hst := st_trNew w6 (pwr l q3)
    have hsz6 := tC_size (pwr l q3)
    have HK6 : Hid (KP [(w6.heap.size, pwr l q3), (w5.heap.size, pwr l q1), (w4.heap.size, pwr l x), (w1.heap.size, l)] W (w6.alloc (.cells (tC (pwr l q3)) 26))) := HJ6.out.new _
    clear HK5 HJ6
    go_wp2_with (first
      | (refine wl_load rfl rfl (HK6.out.get (b := w6.heap.size) (l := pwr l q3) (by simp)) rfl ?_)
      | (refine wl_load rfl rfl (HK6.out.get (b := w5.heap.size) (l := pwr l q1) (by simp)) rfl ?_)
      | (refine wl_load rfl rfl (HK6.out.get (b := w4.heap.size) (l := pwr l x) (by simp)) rfl ?_)
      | (refine wl_load rfl rfl (HK6.out.get (b := w1.heap.size) (l := l) (by simp)) rfl ?_)
      | (refine wl_eq rfl rfl rfl rfl ?_)
      | (refine wl_ne rfl rfl rfl rfl ?_)
      | (go_at_call 12; refine (num13_any _ _).mono ?_; rintro e wn ⟨rfl, rfl⟩))
    clear hst
    refine (compose_tC (pwr l x) l (pwr_tf HT.out x) HT.out (pwr_len l x) _).mono ?_
    rintro e w7 ⟨rfl, hB⟩
    have HJ7 : Hid (KP [(w6.heap.size, pwr l q3), (w5.heap.size, pwr l q1), (w4.heap.size, pwr l x), (w1.heap.size, l)] W w7) := HK6.out.call hB
    clear hB
    have hst := st_trNew w7 (cmp (pwr l x) l)
    have hsz7 := tC_size (cmp (pwr l x) l)
    have HK7 : Hid (KP [(w7.heap.size, cmp (pwr l x) l), (w6.heap.size, pwr l q3), (w5.heap.size, pwr l q1), (w4.heap.size, pwr l x), (w1.heap.size, l)] W (w7.alloc (.cells (tC (cmp (pwr l x) l)) 26))) := HJ7.out.new _
    clear HK6 HJ7
    go_wp2_with (first
      | (refine wl_load rfl rfl (HK7.out.get (b := w7.heap.size) (l := cmp (pwr l x) l) (by simp)) rfl ?_)
      | (refine wl_load rfl rfl (HK7.out.get (b := w6.heap.size) (l := pwr l q3) (by simp)) rfl ?_)
      | (refine wl_load rfl rfl (HK7.out.get (b := w5.heap.size) (l := pwr l q1) (by simp)) rfl ?_)
      | (refine wl_load rfl rfl (HK7.out.get (b := w4.heap.size) (l := pwr l x) (by simp)) rfl ?_)
      | (refine wl_load rfl rfl (HK7.out.get (b := w1.heap.size) (l := l) (by simp)) rfl ?_)
      | (refine wl_eq rfl rfl rfl rfl ?_)
      | (refine wl_ne rfl rfl rfl rfl ?_)
      | (go_at_call 12; refine (num13_any _ _).mono ?_; rintro e wn ⟨rfl, rfl⟩))
    go_ret
    exact ⟨rfl, HK7.out.below⟩

/-! ### The row's step -/
theorem own : ownKnob Try.prog.godebug = none := by kernel_rfl
set_option maxRecDepth 100000 in
theorem lifted (os : Os) (started : os.Started) (H : Type) (enc : TypeId × Value → H) :
    ReturnsInHanded {} Try.checked os 5 .any (Rows.transCyclesSpec.pre6 enc Try.prog Try.f5 Rows.transCyclesRow.domain false) (Rows.transCyclesSpec.post enc Try.prog Try.f5 false true false false) := by
  refine returnsInHanded_of_change_sized (C := Try.checked) own started (by kernel_rfl) Try.func5
    (ChangeSpec.witness6 (enc := enc) (C := Try.checked) false ⟨#[], #[.int .i64 0, .slice none 0 0, .int .i64 0], []⟩ 8 (by kernel_rfl) (by kernel_rfl) (by kernel_rfl) (by kernel_rfl)) ?_
  intro W base args ds gs before hval0 hW hcnd hsz0 _
  have hval : ∀ (j : Nat) t v, Try.f5.params[j]? = some t → args[j]? = some v → Value.okWide Try.prog W .any base t v := hval0
  clear hval0
  have hsz : (DataW.weightsEach Try.prog (Try.f5.params.toList ++ Rows.transCyclesSpec.plain.varTypes Try.prog) (ds ++ gs)).all (· ≤ reachBytes) = true := hsz0
  clear hsz0
  have hW' := hW
  obtain ⟨p, q, hA0, hV, rfl, hfz, hnd⟩ := hW
  have hA : DataW.TrodAll enc Try.prog W 0 (fun _ => true) true Try.f5.params.toList args.toList ds p := hA0
  rw [Try.params5] at hA hval hsz
  obtain ⟨v0, vs0, d0, ds0, p0, q0, hargs, rfl, rfl, h0, r0⟩ := trodAll_cons hA
  obtain ⟨v1, vs1, d1, ds1, p1, q1, rfl, rfl, rfl, h1, r1⟩ := trodAll_cons r0
  obtain ⟨v2, vs2, d2, ds2, p2, q2, rfl, rfl, rfl, h2, r2⟩ := trodAll_cons r1
  obtain ⟨rfl, rfl, rfl⟩ := trodAll_nil r2
  obtain rfl : args = #[v0, v1, v2] := by cases args; simp_all
  obtain ⟨rfl, rfl⟩ := trodVars_none hV
  obtain ⟨a0, rfl, rfl, rfl, w0⟩ := open_int Try.underlying3 (hval 0 3 v0 rfl rfl) h0
  obtain ⟨a1, w1, i1, x1, y1⟩ := open_listW (hval 1 22 v1 rfl rfl) h1
  have z1 : (a1.length + 2) * 8 ≤ 140737488355328 := by
    rcases y1 with ⟨_, rfl⟩ | ⟨e, s, rfl, hy⟩
    · decide
    · have := sized_slice hsz (j := 1) (t := 22) rfl rfl Try.underlying22
      rw [Try.bytes_int1] at this
      simp only [reachBytes] at this
      omega
  have g1 : ∀ x ∈ p1, x.block < W.heap.size := fun x hx => hW'.lt x (by simp [hx])
  obtain ⟨a2, rfl, rfl, rfl, w2⟩ := open_int Try.underlying3 (hval 2 3 v2 rfl rfl) h2
  clear hA0
  refine (walk a0 v1 a1 a2 W (i64_of w0) w1 i1 (by omega) (i64_of w2)).mono fun e W' ⟨he, bel⟩ => ?_
  subst he
  exact ⟨_, rfl, _, _, _, [], _, [], hW', trodAll_mk1 (shut_bool Try.underlying4 _), (trodAll_cons_mk (shut_int Try.underlying3 w0) (trodAll_cons_mk (Below.trod Try.laidOut (by kernel_rfl) (of_decide_eq_true (by kernel_rfl)) h1 bel g1) (trodAll_cons_mk (shut_int Try.underlying3 w2) trodAll_mk0))), rfl, bel.frame _, fun h => by cases h⟩

theorem over : Rows.transCyclesRow.holds Try.pinned (OpenSpec.ofChange Rows.transCyclesSpec) :=
  OpenClaim.holds_of_wide 5 Try.f5 rfl rfl rfl rfl rfl rfl rfl ⟨rfl, rfl, rfl, rfl, rfl⟩ rfl rfl rfl rfl rfl (by kernel_rfl) Try.func5 (by kernel_rfl)
    (of_decide_eq_true (by kernel_rfl)) (by unfold Func.isWrapper; first | (rw [if_pos (by decide +kernel)]; kernel_rfl) | (rw [if_neg (by decide +kernel)]; exact ⟨rfl, rfl⟩))
    (fun os started H enc _ => lifted os started H enc)

end Go.Proofs.Ythglficjhgpegab.transCycles
namespace Go.Proofs.Ythglficjhgpegab
/-- The given statement. -/
theorem transCycles_holds : Rows.TransCyclesSaid := transCycles.over
end Go.Proofs.Ythglficjhgpegab
