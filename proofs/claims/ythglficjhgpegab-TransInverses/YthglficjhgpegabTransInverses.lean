/- Proved: eggboxlaw13.TransInverses answers true at every number n and lists a and b (P1309): of the permutations made of the lists Inverse is there and leads back, Inverse of Inverse is the permutation, Inverse of s t is Inverse of t and then that of s, and the index that Cycle tells is 0. No condition. -/
import Derived.Test.YthglficjhgpegabAx
import Derived.Test.YthglficjhgpegabAz
namespace Go.Proofs.Ythglficjhgpegab.transInverses
open Go Go.ChangeShapes Go.WideShapes Go.ChangeAt Go.RowKit Go.Lib
open Go.ChangeMaps (open_string shut_string)
set_option linter.unusedVariables false

theorem inverse_tC (l : List Nat) (hl : Tf l) (hi : Inj l) (w : World) : Calls Try.prog 21 #[.agg (tC l)] w fun e w' => e = .returned (.tuple #[.agg (tC (inv l)), .int .i64 0]) ∧ Below w.heap.size w w' :=
  (inverse_any l hl w).mono (fun e w' ⟨v, hv, he, hb⟩ => by
    rcases hv with ⟨_, rfl⟩ | ⟨h, _⟩
    · exact ⟨he, hb⟩
    · exact absurd hi h)
set_option maxHeartbeats 16000000 in
set_option maxRecDepth 100000 in
theorem walk (a0 : Int) (v1 : Value) (a1 : List Int) (v2 : Value) (a2 : List Int) (W : World) (h0 : I64 a0) (r1 : Reads W v1 a1) (b1 : ∀ x ∈ a1, I64 x) (z1 : a1.length ≤ 17592186044414) (r2 : Reads W v2 a2) (b2 : ∀ x ∈ a2, I64 x) (z2 : a2.length ≤ 17592186044414) :
    Calls Try.prog 7 #[.int .i64 a0, v1, v2] W fun e w' => e = .returned (.bool true) ∧ Below W.heap.size W w' := by
  obtain ⟨n, hn1, hn2, y, z, he1, he2, he3, he4, he5, he6⟩ := mod64 a0 h0
  have HB1 : Hid (∀ x ∈ a1, I64 x) := b1
  have HR1 : Hid (Reads W v1 a1) := r1
  have HZ1 : Hid (a1.length ≤ 9223372036854775806) := by show a1.length ≤ _; omega
  clear b1 r1 z1
  have HB2 : Hid (∀ x ∈ a2, I64 x) := b2
  have HR2 : Hid (Reads W v2 a2) := r2
  have HZ2 : Hid (a2.length ≤ 9223372036854775806) := by show a2.length ≤ _; omega
  clear b2 r2 z2
  clear h0
  go_enter Try.func7, Try.ntmps7
  go_wp2_with fail
  clear he1 he2 he3 he4 he5 he6
  have HK1 : Hid (KP [] W W) := ⟨fun p hp => by simp at hp, Below.refl _ _⟩
  refine (shuffled_any n hn1 hn2 v1 a1 HB1.out _ (HR1.out.below HK1.out.below) HZ1.out).mono ?_
  rintro e wm1 ⟨u1, l1, hT, hJ, hL, rfl, hO, hB⟩
  have HT1 : Hid (Tf l1) := hT
  have HJ1' : Hid (Inj l1) := hJ
  have HL1 : Hid (l1.length = n) := hL
  have HM1 : Hid (Calls Try.prog 8 #[u1] wm1 fun e w' => e = .returned (.tuple #[.agg (tC l1), .int .i64 0]) ∧ Below wm1.heap.size wm1 w') := make_pI l1 hT u1 wm1 hL hO
  have HK2 : Hid (KP [] W wm1) := HK1.out.call hB
  clear hB hO hT hJ hL HK1
  go_wp2_with (first
    | (refine wl_eq rfl rfl rfl rfl ?_)
    | (refine wl_ne rfl rfl rfl rfl ?_)
    | (go_at_call 12; refine (num13_any _ _).mono ?_; rintro e wn ⟨rfl, rfl⟩))
  refine (HM1.out).mono ?_
  rintro e w3 ⟨rfl, hB⟩
  have HJ3 : Hid (KP [] W w3) := HK2.out.call hB
  clear hB
  have hst := st_trNew w3 l1
  have hsz3 := tC_size l1
  have HK3 : Hid (KP [(w3.heap.size, l1)] W (w3.alloc (.cells (tC l1) 26))) := HJ3.out.new _
  clear HK2 HJ3
  clear HM1
  go_wp2_with (first
    | (refine wl_load rfl rfl (HK3.out.get (b := w3.heap.size) (l := l1) (by simp)) rfl ?_)
    | (refine wl_eq rfl rfl rfl rfl ?_)
    | (refine wl_ne rfl rfl rfl rfl ?_)
    | (go_at_call 12; refine (num13_any _ _).mono ?_; rintro e wn ⟨rfl, rfl⟩))
  refine (shuffled_any n hn1 hn2 v2 a2 HB2.out _ (HR2.out.below HK3.out.below) HZ2.out).mono ?_
  rintro e wm2 ⟨u2, l2, hT, hJ, hL, rfl, hO, hB⟩
  have HT2 : Hid (Tf l2) := hT
  have HJ2' : Hid (Inj l2) := hJ
  have HL2 : Hid (l2.length = n) := hL
  have HM2 : Hid (Calls Try.prog 8 #[u2] wm2 fun e w' => e = .returned (.tuple #[.agg (tC l2), .int .i64 0]) ∧ Below wm2.heap.size wm2 w') := make_pI l2 hT u2 wm2 hL hO
  have HK4 : Hid (KP [(w3.heap.size, l1)] W wm2) := HK3.out.call hB
  clear hB hO hT hJ hL HK3
  go_wp2_with (first
    | (refine wl_load rfl rfl (HK4.out.get (b := w3.heap.size) (l := l1) (by simp)) rfl ?_)
    | (refine wl_eq rfl rfl rfl rfl ?_)
    | (refine wl_ne rfl rfl rfl rfl ?_)
    | (go_at_call 12; refine (num13_any _ _).mono ?_; rintro e wn ⟨rfl, rfl⟩))
  clear hst
  refine (HM2.out).mono ?_
  rintro e w5 ⟨rfl, hB⟩
  have HJ5 : Hid (KP [(w3.heap.size, l1)] W w5) := HK4.out.call hB
  clear hB
  have hst := st_trNew w5 l2
  have hsz5 := tC_size l2
  have HK5 : Hid (KP [(w5.heap.size, l2), (w3.heap.size, l1)] W (w5.alloc (.cells (tC l2) 26))) := HJ5.out.new _
  clear HK4 HJ5
  clear HM2
  go_wp2_with (first
    | (refine wl_load rfl rfl (HK5.out.get (b := w5.heap.size) (l := l2) (by simp)) rfl ?_)
    | (refine wl_load rfl rfl (HK5.out.get (b := w3.heap.size) (l := l1) (by simp)) rfl ?_)
    | (refine wl_eq rfl rfl rfl rfl ?_)
    | (refine wl_ne rfl rfl rfl rfl ?_)
    | (go_at_call 12; refine (num13_any _ _).mono ?_; rintro e wn ⟨rfl, rfl⟩))
  have HE : Hid (l1.length = l2.length) := by show _ = _; rw [HL1.out, HL2.out]
  have HC : Hid (Tf (cmp l1 l2)) := cmp_tf HT1.out HT2.out HE.out
  have HCJ : Hid (Inj (cmp l1 l2)) := cmp_inj HT1.out HE.out HJ1'.out HJ2'.out
  have HI1 : Hid (Tf (inv l1)) := inv_tf HT1.out
  have HI2 : Hid (Tf (inv l2)) := inv_tf HT2.out
  have hs1 : sameL (inv (cmp l1 l2)) (cmp (inv l2) (inv l1)) = true := cmp_same (inv_tf HC.out) (cmp_tf HI2.out HI1.out (by rw [inv_len, inv_len, HE.out])) (inv_cmp HT1.out HT2.out HE.out HJ1'.out HJ2'.out)
  have hs2 : sameL (inv (inv l1)) l1 = true := cmp_same (inv_tf HI1.out) HT1.out (inv_inv HJ1'.out HT1.out)
  have hs3 : sameL (cmp l1 (inv l1)) (stl n) = true := cmp_same (cmp_tf HT1.out HI1.out (by rw [inv_len])) (stl_tf hn1 hn2) (by rw [cmp_inv HT1.out HJ1'.out, HL1.out])
  clear hst
  refine (compose_tC l1 l2 HT1.out HT2.out HE.out _).mono ?_
  rintro e w6 ⟨rfl, hB⟩
  have HJ6 : Hid (KP [(w5.heap.size, l2), (w3.heap.size, l1)] W w6) := HK5.out.call hB
  clear hB
  have hst := st_trNew w6 (cmp l1 l2)
  have hsz6 := tC_size (cmp l1 l2)
  have HK6 : Hid (KP [(w6.heap.size, cmp l1 l2), (w5.heap.size, l2), (w3.heap.size, l1)] W (w6.alloc (.cells (tC (cmp l1 l2)) 26))) := HJ6.out.new _
  clear HK5 HJ6
  go_wp2_with (first
    | (refine wl_load rfl rfl (HK6.out.get (b := w6.heap.size) (l := cmp l1 l2) (by simp)) rfl ?_)
    | (refine wl_load rfl rfl (HK6.out.get (b := w5.heap.size) (l := l2) (by simp)) rfl ?_)
    | (refine wl_load rfl rfl (HK6.out.get (b := w3.heap.size) (l := l1) (by simp)) rfl ?_)
    | (refine wl_eq rfl rfl rfl rfl ?_)
    | (refine wl_ne rfl rfl rfl rfl ?_)
    | (go_at_call 12; refine (num13_any _ _).mono ?_; rintro e wn ⟨rfl, rfl⟩))
  clear hst
  refine (inverse_tC l1 HT1.out HJ1'.out _).mono ?_
  rintro e w7 ⟨rfl, hB⟩
  have HJ7 : Hid (KP [(w6.heap.size, cmp l1 l2), (w5.heap.size, l2), (w3.heap.size, l1)] W w7) := HK6.out.call hB
  clear hB
  have hst := st_trNew w7 (inv l1)
  have hsz7 := tC_size (inv l1)
  have HK7 : Hid (KP [(w7.heap.size, inv l1), (w6.heap.size, cmp l1 l2), (w5.heap.size, l2), (w3.heap.size, l1)] W (w7.alloc (.cells (tC (inv l1)) 26))) := HJ7.out.new _
  clear HK6 HJ7
  go_wp2_with (first
    | (refine wl_load rfl rfl (HK7.out.get (b := w7.heap.size) (l := inv l1) (by simp)) rfl ?_)
    | (refine wl_load rfl rfl (HK7.out.get (b := w6.heap.size) (l := cmp l1 l2) (by simp)) rfl ?_)
    | (refine wl_load rfl rfl (HK7.out.get (b := w5.heap.size) (l := l2) (by simp)) rfl ?_)
    | (refine wl_load rfl rfl (HK7.out.get (b := w3.heap.size) (l := l1) (by simp)) rfl ?_)
    | (refine wl_eq rfl rfl rfl rfl ?_)
    | (refine wl_ne rfl rfl rfl rfl ?_)
    | (go_at_call 12; refine (num13_any _ _).mono ?_; rintro e wn ⟨rfl, rfl⟩))
  clear hst
  refine (inverse_tC l2 HT2.out HJ2'.out _).mono ?_
  rintro e w8 ⟨rfl, hB⟩
  have HJ8 : Hid (KP [(w7.heap.size, inv l1), (w6.heap.size, cmp l1 l2), (w5.heap.size, l2), (w3.heap.size, l1)] W w8) := HK7.out.call hB
  clear hB
  have hst := st_trNew w8 (inv l2)
  have hsz8 := tC_size (inv l2)
  have HK8 : Hid (KP [(w8.heap.size, inv l2), (w7.heap.size, inv l1), (w6.heap.size, cmp l1 l2), (w5.heap.size, l2), (w3.heap.size, l1)] W (w8.alloc (.cells (tC (inv l2)) 26))) := HJ8.out.new _
  clear HK7 HJ8
  go_wp2_with (first
    | (refine wl_load rfl rfl (HK8.out.get (b := w8.heap.size) (l := inv l2) (by simp)) rfl ?_)
    | (refine wl_load rfl rfl (HK8.out.get (b := w7.heap.size) (l := inv l1) (by simp)) rfl ?_)
    | (refine wl_load rfl rfl (HK8.out.get (b := w6.heap.size) (l := cmp l1 l2) (by simp)) rfl ?_)
    | (refine wl_load rfl rfl (HK8.out.get (b := w5.heap.size) (l := l2) (by simp)) rfl ?_)
    | (refine wl_load rfl rfl (HK8.out.get (b := w3.heap.size) (l := l1) (by simp)) rfl ?_)
    | (refine wl_eq rfl rfl rfl rfl ?_)
    | (refine wl_ne rfl rfl rfl rfl ?_)
    | (go_at_call 12; refine (num13_any _ _).mono ?_; rintro e wn ⟨rfl, rfl⟩))
  clear hst
  refine (inverse_tC (cmp l1 l2) HC.out HCJ.out _).mono ?_
  rintro e w9 ⟨rfl, hB⟩
  have HJ9 : Hid (KP [(w8.heap.size, inv l2), (w7.heap.size, inv l1), (w6.heap.size, cmp l1 l2), (w5.heap.size, l2), (w3.heap.size, l1)] W w9) := HK8.out.call hB
  clear hB
  have hst := st_trNew w9 (inv (cmp l1 l2))
  have hsz9 := tC_size (inv (cmp l1 l2))
  have HK9 : Hid (KP [(w9.heap.size, inv (cmp l1 l2)), (w8.heap.size, inv l2), (w7.heap.size, inv l1), (w6.heap.size, cmp l1 l2), (w5.heap.size, l2), (w3.heap.size, l1)] W (w9.alloc (.cells (tC (inv (cmp l1 l2))) 26))) := HJ9.out.new _
  clear HK8 HJ9
  go_wp2_with (first
    | (refine wl_load rfl rfl (HK9.out.get (b := w9.heap.size) (l := inv (cmp l1 l2)) (by simp)) rfl ?_)
    | (refine wl_load rfl rfl (HK9.out.get (b := w8.heap.size) (l := inv l2) (by simp)) rfl ?_)
    | (refine wl_load rfl rfl (HK9.out.get (b := w7.heap.size) (l := inv l1) (by simp)) rfl ?_)
    | (refine wl_load rfl rfl (HK9.out.get (b := w6.heap.size) (l := cmp l1 l2) (by simp)) rfl ?_)
    | (refine wl_load rfl rfl (HK9.out.get (b := w5.heap.size) (l := l2) (by simp)) rfl ?_)
    | (refine wl_load rfl rfl (HK9.out.get (b := w3.heap.size) (l := l1) (by simp)) rfl ?_)
    | (refine wl_eq rfl rfl rfl rfl ?_)
    | (refine wl_ne rfl rfl rfl rfl ?_)
    | (go_at_call 12; refine (num13_any _ _).mono ?_; rintro e wn ⟨rfl, rfl⟩))
  clear hst
  refine (compose_tC (inv l2) (inv l1) HI2.out HI1.out (by rw [inv_len, inv_len, HE.out]) _).mono ?_
  rintro e w10 ⟨rfl, hB⟩
  have HJ10 : Hid (KP [(w9.heap.size, inv (cmp l1 l2)), (w8.heap.size, inv l2), (w7.heap.size, inv l1), (w6.heap.size, cmp l1 l2), (w5.heap.size, l2), (w3.heap.size, l1)] W w10) := HK9.out.call hB
  clear hB
  have hst := st_trNew w10 (cmp (inv l2) (inv l1))
  have hsz10 := tC_size (cmp (inv l2) (inv l1))
  have HK10 : Hid (KP [(w10.heap.size, cmp (inv l2) (inv l1)), (w9.heap.size, inv (cmp l1 l2)), (w8.heap.size, inv l2), (w7.heap.size, inv l1), (w6.heap.size, cmp l1 l2), (w5.heap.size, l2), (w3.heap.size, l1)] W (w10.alloc (.cells (tC (cmp (inv l2) (inv l1))) 26))) := HJ10.out.new _
  clear HK9 HJ10
  go_wp2_with (first
    | (refine wl_load rfl rfl (HK10.out.get (b := w10.heap.size) (l := cmp (inv l2) (inv l1)) (by simp)) rfl ?_)
    | (refine wl_load rfl rfl (HK10.out.get (b := w9.heap.size) (l := inv (cmp l1 l2)) (by simp)) rfl ?_)
    | (refine wl_load rfl rfl (HK10.out.get (b := w8.heap.size) (l := inv l2) (by simp)) rfl ?_)
    | (refine wl_load rfl rfl (HK10.out.get (b := w7.heap.size) (l := inv l1) (by simp)) rfl ?_)
    | (refine wl_load rfl rfl (HK10.out.get (b := w6.heap.size) (l := cmp l1 l2) (by simp)) rfl ?_)
    | (refine wl_load rfl rfl (HK10.out.get (b := w5.heap.size) (l := l2) (by simp)) rfl ?_)
    | (refine wl_load rfl rfl (HK10.out.get (b := w3.heap.size) (l := l1) (by simp)) rfl ?_)
    | (refine wl_eq rfl rfl rfl rfl ?_)
    | (refine wl_ne rfl rfl rfl rfl ?_)
    | (go_at_call 12; refine (num13_any _ _).mono ?_; rintro e wn ⟨rfl, rfl⟩))
  clear hst
  refine (inverse_tC (inv l1) HI1.out (inv_inj HJ1'.out HT1.out) _).mono ?_
  rintro e w11 ⟨rfl, hB⟩
  have HJ11 : Hid (KP [(w10.heap.size, cmp (inv l2) (inv l1)), (w9.heap.size, inv (cmp l1 l2)), (w8.heap.size, inv l2), (w7.heap.size, inv l1), (w6.heap.size, cmp l1 l2), (w5.heap.size, l2), (w3.heap.size, l1)] W w11) := HK10.out.call hB
  clear hB
  have hst := st_trNew w11 (inv (inv l1))
  have hsz11 := tC_size (inv (inv l1))
  have HK11 : Hid (KP [(w11.heap.size, inv (inv l1)), (w10.heap.size, cmp (inv l2) (inv l1)), (w9.heap.size, inv (cmp l1 l2)), (w8.heap.size, inv l2), (w7.heap.size, inv l1), (w6.heap.size, cmp l1 l2), (w5.heap.size, l2), (w3.heap.size, l1)] W (w11.alloc (.cells (tC (inv (inv l1))) 26))) := HJ11.out.new _
  clear HK10 HJ11
  go_wp2_with (first
    | (refine wl_load rfl rfl (HK11.out.get (b := w11.heap.size) (l := inv (inv l1)) (by simp)) rfl ?_)
    | (refine wl_load rfl rfl (HK11.out.get (b := w10.heap.size) (l := cmp (inv l2) (inv l1)) (by simp)) rfl ?_)
    | (refine wl_load rfl rfl (HK11.out.get (b := w9.heap.size) (l := inv (cmp l1 l2)) (by simp)) rfl ?_)
    | (refine wl_load rfl rfl (HK11.out.get (b := w8.heap.size) (l := inv l2) (by simp)) rfl ?_)
    | (refine wl_load rfl rfl (HK11.out.get (b := w7.heap.size) (l := inv l1) (by simp)) rfl ?_)
    | (refine wl_load rfl rfl (HK11.out.get (b := w6.heap.size) (l := cmp l1 l2) (by simp)) rfl ?_)
    | (refine wl_load rfl rfl (HK11.out.get (b := w5.heap.size) (l := l2) (by simp)) rfl ?_)
    | (refine wl_load rfl rfl (HK11.out.get (b := w3.heap.size) (l := l1) (by simp)) rfl ?_)
    | (refine wl_eq rfl rfl rfl rfl ?_)
    | (refine wl_ne rfl rfl rfl rfl ?_)
    | (go_at_call 12; refine (num13_any _ _).mono ?_; rintro e wn ⟨rfl, rfl⟩))
  clear hst
  refine (compose_tC l1 (inv l1) HT1.out HI1.out (by rw [inv_len]) _).mono ?_
  rintro e w12 ⟨rfl, hB⟩
  have HJ12 : Hid (KP [(w11.heap.size, inv (inv l1)), (w10.heap.size, cmp (inv l2) (inv l1)), (w9.heap.size, inv (cmp l1 l2)), (w8.heap.size, inv l2), (w7.heap.size, inv l1), (w6.heap.size, cmp l1 l2), (w5.heap.size, l2), (w3.heap.size, l1)] W w12) := HK11.out.call hB
  clear hB
  have hst := st_trNew w12 (cmp l1 (inv l1))
  have hsz12 := tC_size (cmp l1 (inv l1))
  have HK12 : Hid (KP [(w12.heap.size, cmp l1 (inv l1)), (w11.heap.size, inv (inv l1)), (w10.heap.size, cmp (inv l2) (inv l1)), (w9.heap.size, inv (cmp l1 l2)), (w8.heap.size, inv l2), (w7.heap.size, inv l1), (w6.heap.size, cmp l1 l2), (w5.heap.size, l2), (w3.heap.size, l1)] W (w12.alloc (.cells (tC (cmp l1 (inv l1))) 26))) := HJ12.out.new _
  clear HK11 HJ12
  go_wp2_with (first
    | (refine wl_load rfl rfl (HK12.out.get (b := w12.heap.size) (l := cmp l1 (inv l1)) (by simp)) rfl ?_)
    | (refine wl_load rfl rfl (HK12.out.get (b := w11.heap.size) (l := inv (inv l1)) (by simp)) rfl ?_)
    | (refine wl_load rfl rfl (HK12.out.get (b := w10.heap.size) (l := cmp (inv l2) (inv l1)) (by simp)) rfl ?_)
    | (refine wl_load rfl rfl (HK12.out.get (b := w9.heap.size) (l := inv (cmp l1 l2)) (by simp)) rfl ?_)
    | (refine wl_load rfl rfl (HK12.out.get (b := w8.heap.size) (l := inv l2) (by simp)) rfl ?_)
    | (refine wl_load rfl rfl (HK12.out.get (b := w7.heap.size) (l := inv l1) (by simp)) rfl ?_)
    | (refine wl_load rfl rfl (HK12.out.get (b := w6.heap.size) (l := cmp l1 l2) (by simp)) rfl ?_)
    | (refine wl_load rfl rfl (HK12.out.get (b := w5.heap.size) (l := l2) (by simp)) rfl ?_)
    | (refine wl_load rfl rfl (HK12.out.get (b := w3.heap.size) (l := l1) (by simp)) rfl ?_)
    | (refine wl_eq rfl rfl rfl rfl ?_)
    | (refine wl_ne rfl rfl rfl rfl ?_)
    | (go_at_call 12; refine (num13_any _ _).mono ?_; rintro e wn ⟨rfl, rfl⟩))
  clear hst
  refine (identity_tC n hn1 hn2 _).mono ?_
  rintro e w13 ⟨rfl, hB⟩
  have HJ13 : Hid (KP [(w12.heap.size, cmp l1 (inv l1)), (w11.heap.size, inv (inv l1)), (w10.heap.size, cmp (inv l2) (inv l1)), (w9.heap.size, inv (cmp l1 l2)), (w8.heap.size, inv l2), (w7.heap.size, inv l1), (w6.heap.size, cmp l1 l2), (w5.heap.size, l2), (w3.heap.size, l1)] W w13) := HK12.out.call hB
  clear hB
  have hst := st_trNew w13 (stl n)
  have hsz13 := tC_size (stl n)
  have HK13 : Hid (KP [(w13.heap.size, stl n), (w12.heap.size, cmp l1 (inv l1)), (w11.heap.size, inv (inv l1)), (w10.heap.size, cmp (inv l2) (inv l1)), (w9.heap.size, inv (cmp l1 l2)), (w8.heap.size, inv l2), (w7.heap.size, inv l1), (w6.heap.size, cmp l1 l2), (w5.heap.size, l2), (w3.heap.size, l1)] W (w13.alloc (.cells (tC (stl n)) 26))) := HJ13.out.new _
  clear HK12 HJ13
  go_wp2_with (first
    | (refine wl_load rfl rfl (HK13.out.get (b := w13.heap.size) (l := stl n) (by simp)) rfl ?_)
    | (refine wl_load rfl rfl (HK13.out.get (b := w12.heap.size) (l := cmp l1 (inv l1)) (by simp)) rfl ?_)
    | (refine wl_load rfl rfl (HK13.out.get (b := w11.heap.size) (l := inv (inv l1)) (by simp)) rfl ?_)
    | (refine wl_load rfl rfl (HK13.out.get (b := w10.heap.size) (l := cmp (inv l2) (inv l1)) (by simp)) rfl ?_)
    | (refine wl_load rfl rfl (HK13.out.get (b := w9.heap.size) (l := inv (cmp l1 l2)) (by simp)) rfl ?_)
    | (refine wl_load rfl rfl (HK13.out.get (b := w8.heap.size) (l := inv l2) (by simp)) rfl ?_)
    | (refine wl_load rfl rfl (HK13.out.get (b := w7.heap.size) (l := inv l1) (by simp)) rfl ?_)
    | (refine wl_load rfl rfl (HK13.out.get (b := w6.heap.size) (l := cmp l1 l2) (by simp)) rfl ?_)
    | (refine wl_load rfl rfl (HK13.out.get (b := w5.heap.size) (l := l2) (by simp)) rfl ?_)
    | (refine wl_load rfl rfl (HK13.out.get (b := w3.heap.size) (l := l1) (by simp)) rfl ?_)
    | (refine wl_eq rfl rfl rfl rfl ?_)
    | (refine wl_ne rfl rfl rfl rfl ?_)
    | (go_at_call 12; refine (num13_any _ _).mono ?_; rintro e wn ⟨rfl, rfl⟩))
  clear hst
  refine (cycle_tC l1 HT1.out _).mono ?_
  rintro e w14 ⟨x, p, hc, rfl, hB⟩
  obtain rfl := inj_cyc HT1.out HJ1'.out hc
  clear hc
  have HK14 : Hid (KP [(w13.heap.size, stl n), (w12.heap.size, cmp l1 (inv l1)), (w11.heap.size, inv (inv l1)), (w10.heap.size, cmp (inv l2) (inv l1)), (w9.heap.size, inv (cmp l1 l2)), (w8.heap.size, inv l2), (w7.heap.size, inv l1), (w6.heap.size, cmp l1 l2), (w5.heap.size, l2), (w3.heap.size, l1)] W w14) := HK13.out.call hB
  clear hB HK13
  go_wp2_with (first
    | (refine wl_load rfl rfl (HK14.out.get (b := w13.heap.size) (l := stl n) (by simp)) rfl ?_)
    | (refine wl_load rfl rfl (HK14.out.get (b := w12.heap.size) (l := cmp l1 (inv l1)) (by simp)) rfl ?_)
    | (refine wl_load rfl rfl (HK14.out.get (b := w11.heap.size) (l := inv (inv l1)) (by simp)) rfl ?_)
    | (refine wl_load rfl rfl (HK14.out.get (b := w10.heap.size) (l := cmp (inv l2) (inv l1)) (by simp)) rfl ?_)
    | (refine wl_load rfl rfl (HK14.out.get (b := w9.heap.size) (l := inv (cmp l1 l2)) (by simp)) rfl ?_)
    | (refine wl_load rfl rfl (HK14.out.get (b := w8.heap.size) (l := inv l2) (by simp)) rfl ?_)
    | (refine wl_load rfl rfl (HK14.out.get (b := w7.heap.size) (l := inv l1) (by simp)) rfl ?_)
    | (refine wl_load rfl rfl (HK14.out.get (b := w6.heap.size) (l := cmp l1 l2) (by simp)) rfl ?_)
    | (refine wl_load rfl rfl (HK14.out.get (b := w5.heap.size) (l := l2) (by simp)) rfl ?_)
    | (refine wl_load rfl rfl (HK14.out.get (b := w3.heap.size) (l := l1) (by simp)) rfl ?_)
    | (refine wl_eq rfl rfl rfl rfl ?_)
    | (refine wl_ne rfl rfl rfl rfl ?_)
    | (go_at_call 12; refine (num13_any _ _).mono ?_; rintro e wn ⟨rfl, rfl⟩))
  refine (knows13_any _).mono ?_
  rintro e w15 ⟨rfl, hB⟩
  have HK15 : Hid (KP [(w13.heap.size, stl n), (w12.heap.size, cmp l1 (inv l1)), (w11.heap.size, inv (inv l1)), (w10.heap.size, cmp (inv l2) (inv l1)), (w9.heap.size, inv (cmp l1 l2)), (w8.heap.size, inv l2), (w7.heap.size, inv l1), (w6.heap.size, cmp l1 l2), (w5.heap.size, l2), (w3.heap.size, l1)] W w15) := HK14.out.call hB
  clear hB HK14
  go_wp2_with (first
    | (refine wl_load rfl rfl (HK15.out.get (b := w13.heap.size) (l := stl n) (by simp)) rfl ?_)
    | (refine wl_load rfl rfl (HK15.out.get (b := w12.heap.size) (l := cmp l1 (inv l1)) (by simp)) rfl ?_)
    | (refine wl_load rfl rfl (HK15.out.get (b := w11.heap.size) (l := inv (inv l1)) (by simp)) rfl ?_)
    | (refine wl_load rfl rfl (HK15.out.get (b := w10.heap.size) (l := cmp (inv l2) (inv l1)) (by simp)) rfl ?_)
    | (refine wl_load rfl rfl (HK15.out.get (b := w9.heap.size) (l := inv (cmp l1 l2)) (by simp)) rfl ?_)
    | (refine wl_load rfl rfl (HK15.out.get (b := w8.heap.size) (l := inv l2) (by simp)) rfl ?_)
    | (refine wl_load rfl rfl (HK15.out.get (b := w7.heap.size) (l := inv l1) (by simp)) rfl ?_)
    | (refine wl_load rfl rfl (HK15.out.get (b := w6.heap.size) (l := cmp l1 l2) (by simp)) rfl ?_)
    | (refine wl_load rfl rfl (HK15.out.get (b := w5.heap.size) (l := l2) (by simp)) rfl ?_)
    | (refine wl_load rfl rfl (HK15.out.get (b := w3.heap.size) (l := l1) (by simp)) rfl ?_)
    | (refine wl_eq rfl rfl rfl rfl ?_)
    | (refine wl_ne rfl rfl rfl rfl ?_)
    | (go_at_call 12; refine (num13_any _ _).mono ?_; rintro e wn ⟨rfl, rfl⟩))
  go_ret
  exact ⟨rfl, HK15.out.below⟩

/-! ### The row's step -/
theorem own : ownKnob Try.prog.godebug = none := by kernel_rfl
set_option maxRecDepth 100000 in
theorem lifted (os : Os) (started : os.Started) (H : Type) (enc : TypeId × Value → H) :
    ReturnsInHanded {} Try.checked os 7 .any (Rows.transInversesSpec.pre6 enc Try.prog Try.f7 Rows.transInversesRow.domain false) (Rows.transInversesSpec.post enc Try.prog Try.f7 false true false false) := by
  refine returnsInHanded_of_change_sized (C := Try.checked) own started (by kernel_rfl) Try.func7
    (ChangeSpec.witness6 (enc := enc) (C := Try.checked) false ⟨#[], #[.int .i64 0, .slice none 0 0, .slice none 0 0], []⟩ 8 (by kernel_rfl) (by kernel_rfl) (by kernel_rfl) (by kernel_rfl)) ?_
  intro W base args ds gs before hval0 hW hcnd hsz0 _
  have hval : ∀ (j : Nat) t v, Try.f7.params[j]? = some t → args[j]? = some v → Value.okWide Try.prog W .any base t v := hval0
  clear hval0
  have hsz : (DataW.weightsEach Try.prog (Try.f7.params.toList ++ Rows.transInversesSpec.plain.varTypes Try.prog) (ds ++ gs)).all (· ≤ reachBytes) = true := hsz0
  clear hsz0
  have hW' := hW
  obtain ⟨p, q, hA0, hV, rfl, hfz, hnd⟩ := hW
  have hA : DataW.TrodAll enc Try.prog W 0 (fun _ => true) true Try.f7.params.toList args.toList ds p := hA0
  rw [Try.params7] at hA hval hsz
  obtain ⟨v0, vs0, d0, ds0, p0, q0, hargs, rfl, rfl, h0, r0⟩ := trodAll_cons hA
  obtain ⟨v1, vs1, d1, ds1, p1, q1, rfl, rfl, rfl, h1, r1⟩ := trodAll_cons r0
  obtain ⟨v2, vs2, d2, ds2, p2, q2, rfl, rfl, rfl, h2, r2⟩ := trodAll_cons r1
  obtain ⟨rfl, rfl, rfl⟩ := trodAll_nil r2
  obtain rfl : args = #[v0, v1, v2] := by cases args; simp_all
  obtain ⟨rfl, rfl⟩ := trodVars_none hV
  obtain ⟨a0, rfl, rfl, rfl, w0⟩ := open_int Try.underlying3 (hval 0 3 v0 rfl rfl) h0
  obtain ⟨a1, w1, i1, x1, y1⟩ := open_listW (hval 1 22 v1 rfl rfl) h1
  have z1 : (a1.length + 2) * 8 ≤ 140737488355328 := by
    rcases y1 with ⟨_, rfl⟩ | ⟨e, s, rfl, hy⟩
    · decide
    · have := sized_slice hsz (j := 1) (t := 22) rfl rfl Try.underlying22
      rw [Try.bytes_int1] at this
      simp only [reachBytes] at this
      omega
  have g1 : ∀ x ∈ p1, x.block < W.heap.size := fun x hx => hW'.lt x (by simp [hx])
  obtain ⟨a2, w2, i2, x2, y2⟩ := open_listW (hval 2 22 v2 rfl rfl) h2
  have z2 : (a2.length + 2) * 8 ≤ 140737488355328 := by
    rcases y2 with ⟨_, rfl⟩ | ⟨e, s, rfl, hy⟩
    · decide
    · have := sized_slice hsz (j := 2) (t := 22) rfl rfl Try.underlying22
      rw [Try.bytes_int1] at this
      simp only [reachBytes] at this
      omega
  have g2 : ∀ x ∈ p2, x.block < W.heap.size := fun x hx => hW'.lt x (by simp [hx])
  clear hA0
  refine (walk a0 v1 a1 v2 a2 W (i64_of w0) w1 i1 (by omega) w2 i2 (by omega)).mono fun e W' ⟨he, bel⟩ => ?_
  subst he
  exact ⟨_, rfl, _, _, _, [], _, [], hW', trodAll_mk1 (shut_bool Try.underlying4 _), (trodAll_cons_mk (shut_int Try.underlying3 w0) (trodAll_cons_mk (Below.trod Try.laidOut (by kernel_rfl) (of_decide_eq_true (by kernel_rfl)) h1 bel g1) (trodAll_cons_mk (Below.trod Try.laidOut (by kernel_rfl) (of_decide_eq_true (by kernel_rfl)) h2 bel g2) trodAll_mk0))), rfl, bel.frame _, fun h => by cases h⟩

theorem over : Rows.transInversesRow.holds Try.pinned (OpenSpec.ofChange Rows.transInversesSpec) :=
  OpenClaim.holds_of_wide 7 Try.f7 rfl rfl rfl rfl rfl rfl rfl ⟨rfl, rfl, rfl, rfl, rfl⟩ rfl rfl rfl rfl rfl (by kernel_rfl) Try.func7 (by kernel_rfl)
    (of_decide_eq_true (by kernel_rfl)) (by unfold Func.isWrapper; first | (rw [if_pos (by decide +kernel)]; kernel_rfl) | (rw [if_neg (by decide +kernel)]; exact ⟨rfl, rfl⟩))
    (fun os started H enc _ => lifted os started H enc)

end Go.Proofs.Ythglficjhgpegab.transInverses
namespace Go.Proofs.Ythglficjhgpegab
/-- The given statement. -/
theorem transInverses_holds : Rows.TransInversesSaid := transInverses.over
end Go.Proofs.Ythglficjhgpegab
