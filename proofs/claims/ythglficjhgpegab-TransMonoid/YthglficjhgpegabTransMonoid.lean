/- Proved: eggboxlaw13.TransMonoid answers true at every number n, lists a, b and c and numbers p and q (P1307): of the transformations made of the lists Compose associates, the identity changes nothing on either side, and where p + q is below 2^64 Power by p + q is Compose of both powers. No condition. -/
import Derived.Test.YthglficjhgpegabAx
namespace Go.Proofs.Ythglficjhgpegab.transMonoid
open Go Go.ChangeShapes Go.WideShapes Go.ChangeAt Go.RowKit Go.Lib
open Go.ChangeMaps (open_string shut_string)
set_option linter.unusedVariables false

set_option maxHeartbeats 16000000 in
set_option maxRecDepth 100000 in
theorem walk (a0 : Int) (v1 : Value) (a1 : List Int) (v2 : Value) (a2 : List Int) (v3 : Value) (a3 : List Int) (a4 a5 : Nat) (W : World) (h0 : I64 a0) (r1 : Reads W v1 a1) (b1 : ∀ x ∈ a1, I64 x) (z1 : a1.length ≤ 17592186044414) (r2 : Reads W v2 a2) (b2 : ∀ x ∈ a2, I64 x) (z2 : a2.length ≤ 17592186044414) (r3 : Reads W v3 a3) (b3 : ∀ x ∈ a3, I64 x) (z3 : a3.length ≤ 17592186044414) (h4 : a4 < 18446744073709551616) (h5 : a5 < 18446744073709551616) :
    Calls Try.prog 3 #[.int .i64 a0, v1, v2, v3, .int .u64 (a4 : Int), .int .u64 (a5 : Int)] W fun e w' => e = .returned (.bool true) ∧ Below W.heap.size W w' := by
  obtain ⟨n, hn1, hn2, y, z, he1, he2, he3, he4, he5, he6⟩ := mod64 a0 h0
  have HT1 : Hid (Tf (toL (mdL n a1))) := md_tf hn1 hn2 a1
  have HL1 : Hid ((toL (mdL n a1)).length = n) := md_len n a1
  have HB1 : Hid (∀ x ∈ a1, I64 x) := b1
  have HR1 : Hid (Reads W v1 a1) := r1
  have HZ1 : Hid (a1.length ≤ 9223372036854775806) := by show a1.length ≤ _; omega
  clear b1 r1 z1
  have HT2 : Hid (Tf (toL (mdL n a2))) := md_tf hn1 hn2 a2
  have HL2 : Hid ((toL (mdL n a2)).length = n) := md_len n a2
  have HB2 : Hid (∀ x ∈ a2, I64 x) := b2
  have HR2 : Hid (Reads W v2 a2) := r2
  have HZ2 : Hid (a2.length ≤ 9223372036854775806) := by show a2.length ≤ _; omega
  clear b2 r2 z2
  have HT3 : Hid (Tf (toL (mdL n a3))) := md_tf hn1 hn2 a3
  have HL3 : Hid ((toL (mdL n a3)).length = n) := md_len n a3
  have HB3 : Hid (∀ x ∈ a3, I64 x) := b3
  have HR3 : Hid (Reads W v3 a3) := r3
  have HZ3 : Hid (a3.length ≤ 9223372036854775806) := by show a3.length ≤ _; omega
  clear b3 r3 z3
  clear h0
  go_enter Try.func3, Try.ntmps3
  go_wp2_with fail
  clear he1 he2 he3 he4 he5 he6
  have HK1 : Hid (KP [] W W) := ⟨fun p hp => by simp at hp, Below.refl _ _⟩
  refine (made_any n hn1 hn2 v1 a1 HB1.out _ (HR1.out.below HK1.out.below) HZ1.out).mono ?_
  rintro e wm1 ⟨u1, rfl, hO, hB⟩
  have HO1 := make_md n hn1 hn2 a1 u1 wm1 hO
  obtain ⟨l1, hl1⟩ : ∃ l, toL (mdL n a1) = l := ⟨_, rfl⟩
  rw [hl1] at HT1 HL1 HO1
  have HM1 : Hid (Calls Try.prog 8 #[u1] wm1 fun e w' => e = .returned (.tuple #[.agg (tC l1), .int .i64 0]) ∧ Below wm1.heap.size wm1 w') := HO1
  have HK2 : Hid (KP [] W wm1) := HK1.out.call hB
  clear hB hO HO1 hl1 HK1
  go_wp2_with (first
    | (refine wl_eq rfl rfl rfl rfl ?_)
    | (refine wl_ne rfl rfl rfl rfl ?_)
    | (go_at_call 12; refine (num13_any _ _).mono ?_; rintro e wn ⟨rfl, rfl⟩))
  refine (HM1.out).mono ?_
  rintro e w3 ⟨rfl, hB⟩
  have HJ3 : Hid (KP [] W w3) := HK2.out.call hB
  clear hB
  have hst := st_trNew w3 l1
  have hsz3 := tC_size l1
  have HK3 : Hid (KP [(w3.heap.size, l1)] W (w3.alloc (.cells (tC l1) 26))) := HJ3.out.new _
  clear HK2 HJ3
  clear HM1
  go_wp2_with (first
    | (refine wl_load rfl rfl (HK3.out.get (b := w3.heap.size) (l := l1) (by simp)) rfl ?_)
    | (refine wl_eq rfl rfl rfl rfl ?_)
    | (refine wl_ne rfl rfl rfl rfl ?_)
    | (go_at_call 12; refine (num13_any _ _).mono ?_; rintro e wn ⟨rfl, rfl⟩))
  refine (made_any n hn1 hn2 v2 a2 HB2.out _ (HR2.out.below HK3.out.below) HZ2.out).mono ?_
  rintro e wm2 ⟨u2, rfl, hO, hB⟩
  have HO2 := make_md n hn1 hn2 a2 u2 wm2 hO
  obtain ⟨l2, hl2⟩ : ∃ l, toL (mdL n a2) = l := ⟨_, rfl⟩
  rw [hl2] at HT2 HL2 HO2
  have HM2 : Hid (Calls Try.prog 8 #[u2] wm2 fun e w' => e = .returned (.tuple #[.agg (tC l2), .int .i64 0]) ∧ Below wm2.heap.size wm2 w') := HO2
  have HK4 : Hid (KP [(w3.heap.size, l1)] W wm2) := HK3.out.call hB
  clear hB hO HO2 hl2 HK3
  go_wp2_with (first
    | (refine wl_load rfl rfl (HK4.out.get (b := w3.heap.size) (l := l1) (by simp)) rfl ?_)
    | (refine wl_eq rfl rfl rfl rfl ?_)
    | (refine wl_ne rfl rfl rfl rfl ?_)
    | (go_at_call 12; refine (num13_any _ _).mono ?_; rintro e wn ⟨rfl, rfl⟩))
  clear hst
  refine (HM2.out).mono ?_
  rintro e w5 ⟨rfl, hB⟩
  have HJ5 : Hid (KP [(w3.heap.size, l1)] W w5) := HK4.out.call hB
  clear hB
  have hst := st_trNew w5 l2
  have hsz5 := tC_size l2
  have HK5 : Hid (KP [(w5.heap.size, l2), (w3.heap.size, l1)] W (w5.alloc (.cells (tC l2) 26))) := HJ5.out.new _
  clear HK4 HJ5
  clear HM2
  go_wp2_with (first
    | (refine wl_load rfl rfl (HK5.out.get (b := w5.heap.size) (l := l2) (by simp)) rfl ?_)
    | (refine wl_load rfl rfl (HK5.out.get (b := w3.heap.size) (l := l1) (by simp)) rfl ?_)
    | (refine wl_eq rfl rfl rfl rfl ?_)
    | (refine wl_ne rfl rfl rfl rfl ?_)
    | (go_at_call 12; refine (num13_any _ _).mono ?_; rintro e wn ⟨rfl, rfl⟩))
  refine (made_any n hn1 hn2 v3 a3 HB3.out _ (HR3.out.below HK5.out.below) HZ3.out).mono ?_
  rintro e wm3 ⟨u3, rfl, hO, hB⟩
  have HO3 := make_md n hn1 hn2 a3 u3 wm3 hO
  obtain ⟨l3, hl3⟩ : ∃ l, toL (mdL n a3) = l := ⟨_, rfl⟩
  rw [hl3] at HT3 HL3 HO3
  have HM3 : Hid (Calls Try.prog 8 #[u3] wm3 fun e w' => e = .returned (.tuple #[.agg (tC l3), .int .i64 0]) ∧ Below wm3.heap.size wm3 w') := HO3
  have HK6 : Hid (KP [(w5.heap.size, l2), (w3.heap.size, l1)] W wm3) := HK5.out.call hB
  clear hB hO HO3 hl3 HK5
  go_wp2_with (first
    | (refine wl_load rfl rfl (HK6.out.get (b := w5.heap.size) (l := l2) (by simp)) rfl ?_)
    | (refine wl_load rfl rfl (HK6.out.get (b := w3.heap.size) (l := l1) (by simp)) rfl ?_)
    | (refine wl_eq rfl rfl rfl rfl ?_)
    | (refine wl_ne rfl rfl rfl rfl ?_)
    | (go_at_call 12; refine (num13_any _ _).mono ?_; rintro e wn ⟨rfl, rfl⟩))
  clear hst
  refine (HM3.out).mono ?_
  rintro e w7 ⟨rfl, hB⟩
  have HJ7 : Hid (KP [(w5.heap.size, l2), (w3.heap.size, l1)] W w7) := HK6.out.call hB
  clear hB
  have hst := st_trNew w7 l3
  have hsz7 := tC_size l3
  have HK7 : Hid (KP [(w7.heap.size, l3), (w5.heap.size, l2), (w3.heap.size, l1)] W (w7.alloc (.cells (tC l3) 26))) := HJ7.out.new _
  clear HK6 HJ7
  clear HM3
  go_wp2_with (first
    | (refine wl_load rfl rfl (HK7.out.get (b := w7.heap.size) (l := l3) (by simp)) rfl ?_)
    | (refine wl_load rfl rfl (HK7.out.get (b := w5.heap.size) (l := l2) (by simp)) rfl ?_)
    | (refine wl_load rfl rfl (HK7.out.get (b := w3.heap.size) (l := l1) (by simp)) rfl ?_)
    | (refine wl_eq rfl rfl rfl rfl ?_)
    | (refine wl_ne rfl rfl rfl rfl ?_)
    | (go_at_call 12; refine (num13_any _ _).mono ?_; rintro e wn ⟨rfl, rfl⟩))
  clear hst
  refine (identity_tC n hn1 hn2 _).mono ?_
  rintro e w8 ⟨rfl, hB⟩
  have HJ8 : Hid (KP [(w7.heap.size, l3), (w5.heap.size, l2), (w3.heap.size, l1)] W w8) := HK7.out.call hB
  clear hB
  have hst := st_trNew w8 (stl n)
  have hsz8 := tC_size (stl n)
  have HK8 : Hid (KP [(w8.heap.size, stl n), (w7.heap.size, l3), (w5.heap.size, l2), (w3.heap.size, l1)] W (w8.alloc (.cells (tC (stl n)) 26))) := HJ8.out.new _
  clear HK7 HJ8
  have c12 : Tf (cmp l1 l2) := cmp_tf HT1.out HT2.out (by rw [HL1.out, HL2.out])
  have c23 : Tf (cmp l2 l3) := cmp_tf HT2.out HT3.out (by rw [HL2.out, HL3.out])
  have HC12 : Hid (Tf (cmp l1 l2)) := c12
  have HC23 : Hid (Tf (cmp l2 l3)) := c23
  have HS0 : Hid (Tf (stl n)) := stl_tf hn1 hn2
  have hs1 : sameL (cmp (cmp l1 l2) l3) (cmp l1 (cmp l2 l3)) = true := cmp_same (cmp_tf c12 HT3.out (by rw [cmp_len, HL1.out, HL3.out])) (cmp_tf HT1.out c23 (by rw [cmp_len, HL1.out, HL2.out])) (cmp_assoc HT1.out (by rw [HL1.out, HL2.out]))
  have e1 : cmp (stl n) l1 = l1 := by have := stl_cmp (l := l1); rw [HL1.out] at this; exact this
  have e2 : cmp l1 (stl n) = l1 := cmp_stl HT1.out HL1.out
  have hs2 : sameL (cmp (stl n) l1) l1 = true := by rw [e1]; exact cmp_same HT1.out HT1.out rfl
  have hs3 : sameL (cmp l1 (stl n)) l1 = true := by rw [e2]; exact cmp_same HT1.out HT1.out rfl
  clear e1 e2 c12 c23
  go_wp2_with (first
    | (refine wl_load rfl rfl (HK8.out.get (b := w8.heap.size) (l := stl n) (by simp)) rfl ?_)
    | (refine wl_load rfl rfl (HK8.out.get (b := w7.heap.size) (l := l3) (by simp)) rfl ?_)
    | (refine wl_load rfl rfl (HK8.out.get (b := w5.heap.size) (l := l2) (by simp)) rfl ?_)
    | (refine wl_load rfl rfl (HK8.out.get (b := w3.heap.size) (l := l1) (by simp)) rfl ?_)
    | (refine wl_eq rfl rfl rfl rfl ?_)
    | (refine wl_ne rfl rfl rfl rfl ?_)
    | (go_at_call 12; refine (num13_any _ _).mono ?_; rintro e wn ⟨rfl, rfl⟩))
  clear hst
  refine (compose_tC l1 l2 HT1.out HT2.out (by rw [HL1.out, HL2.out]) _).mono ?_
  rintro e w9 ⟨rfl, hB⟩
  have HJ9 : Hid (KP [(w8.heap.size, stl n), (w7.heap.size, l3), (w5.heap.size, l2), (w3.heap.size, l1)] W w9) := HK8.out.call hB
  clear hB
  have hst := st_trNew w9 (cmp l1 l2)
  have hsz9 := tC_size (cmp l1 l2)
  have HK9 : Hid (KP [(w9.heap.size, cmp l1 l2), (w8.heap.size, stl n), (w7.heap.size, l3), (w5.heap.size, l2), (w3.heap.size, l1)] W (w9.alloc (.cells (tC (cmp l1 l2)) 26))) := HJ9.out.new _
  clear HK8 HJ9
  go_wp2_with (first
    | (refine wl_load rfl rfl (HK9.out.get (b := w9.heap.size) (l := cmp l1 l2) (by simp)) rfl ?_)
    | (refine wl_load rfl rfl (HK9.out.get (b := w8.heap.size) (l := stl n) (by simp)) rfl ?_)
    | (refine wl_load rfl rfl (HK9.out.get (b := w7.heap.size) (l := l3) (by simp)) rfl ?_)
    | (refine wl_load rfl rfl (HK9.out.get (b := w5.heap.size) (l := l2) (by simp)) rfl ?_)
    | (refine wl_load rfl rfl (HK9.out.get (b := w3.heap.size) (l := l1) (by simp)) rfl ?_)
    | (refine wl_eq rfl rfl rfl rfl ?_)
    | (refine wl_ne rfl rfl rfl rfl ?_)
    | (go_at_call 12; refine (num13_any _ _).mono ?_; rintro e wn ⟨rfl, rfl⟩))
  clear hst
  refine (compose_tC l2 l3 HT2.out HT3.out (by rw [HL2.out, HL3.out]) _).mono ?_
  rintro e w10 ⟨rfl, hB⟩
  have HJ10 : Hid (KP [(w9.heap.size, cmp l1 l2), (w8.heap.size, stl n), (w7.heap.size, l3), (w5.heap.size, l2), (w3.heap.size, l1)] W w10) := HK9.out.call hB
  clear hB
  have hst := st_trNew w10 (cmp l2 l3)
  have hsz10 := tC_size (cmp l2 l3)
  have HK10 : Hid (KP [(w10.heap.size, cmp l2 l3), (w9.heap.size, cmp l1 l2), (w8.heap.size, stl n), (w7.heap.size, l3), (w5.heap.size, l2), (w3.heap.size, l1)] W (w10.alloc (.cells (tC (cmp l2 l3)) 26))) := HJ10.out.new _
  clear HK9 HJ10
  go_wp2_with (first
    | (refine wl_load rfl rfl (HK10.out.get (b := w10.heap.size) (l := cmp l2 l3) (by simp)) rfl ?_)
    | (refine wl_load rfl rfl (HK10.out.get (b := w9.heap.size) (l := cmp l1 l2) (by simp)) rfl ?_)
    | (refine wl_load rfl rfl (HK10.out.get (b := w8.heap.size) (l := stl n) (by simp)) rfl ?_)
    | (refine wl_load rfl rfl (HK10.out.get (b := w7.heap.size) (l := l3) (by simp)) rfl ?_)
    | (refine wl_load rfl rfl (HK10.out.get (b := w5.heap.size) (l := l2) (by simp)) rfl ?_)
    | (refine wl_load rfl rfl (HK10.out.get (b := w3.heap.size) (l := l1) (by simp)) rfl ?_)
    | (refine wl_eq rfl rfl rfl rfl ?_)
    | (refine wl_ne rfl rfl rfl rfl ?_)
    | (go_at_call 12; refine (num13_any _ _).mono ?_; rintro e wn ⟨rfl, rfl⟩))
  clear hst
  refine (compose_tC (cmp l1 l2) l3 HC12.out HT3.out (by rw [cmp_len, HL1.out, HL3.out]) _).mono ?_
  rintro e w11 ⟨rfl, hB⟩
  have HJ11 : Hid (KP [(w10.heap.size, cmp l2 l3), (w9.heap.size, cmp l1 l2), (w8.heap.size, stl n), (w7.heap.size, l3), (w5.heap.size, l2), (w3.heap.size, l1)] W w11) := HK10.out.call hB
  clear hB
  have hst := st_trNew w11 (cmp (cmp l1 l2) l3)
  have hsz11 := tC_size (cmp (cmp l1 l2) l3)
  have HK11 : Hid (KP [(w11.heap.size, cmp (cmp l1 l2) l3), (w10.heap.size, cmp l2 l3), (w9.heap.size, cmp l1 l2), (w8.heap.size, stl n), (w7.heap.size, l3), (w5.heap.size, l2), (w3.heap.size, l1)] W (w11.alloc (.cells (tC (cmp (cmp l1 l2) l3)) 26))) := HJ11.out.new _
  clear HK10 HJ11
  go_wp2_with (first
    | (refine wl_load rfl rfl (HK11.out.get (b := w11.heap.size) (l := cmp (cmp l1 l2) l3) (by simp)) rfl ?_)
    | (refine wl_load rfl rfl (HK11.out.get (b := w10.heap.size) (l := cmp l2 l3) (by simp)) rfl ?_)
    | (refine wl_load rfl rfl (HK11.out.get (b := w9.heap.size) (l := cmp l1 l2) (by simp)) rfl ?_)
    | (refine wl_load rfl rfl (HK11.out.get (b := w8.heap.size) (l := stl n) (by simp)) rfl ?_)
    | (refine wl_load rfl rfl (HK11.out.get (b := w7.heap.size) (l := l3) (by simp)) rfl ?_)
    | (refine wl_load rfl rfl (HK11.out.get (b := w5.heap.size) (l := l2) (by simp)) rfl ?_)
    | (refine wl_load rfl rfl (HK11.out.get (b := w3.heap.size) (l := l1) (by simp)) rfl ?_)
    | (refine wl_eq rfl rfl rfl rfl ?_)
    | (refine wl_ne rfl rfl rfl rfl ?_)
    | (go_at_call 12; refine (num13_any _ _).mono ?_; rintro e wn ⟨rfl, rfl⟩))
  clear hst
  refine (compose_tC l1 (cmp l2 l3) HT1.out HC23.out (by rw [cmp_len, HL1.out, HL2.out]) _).mono ?_
  rintro e w12 ⟨rfl, hB⟩
  have HJ12 : Hid (KP [(w11.heap.size, cmp (cmp l1 l2) l3), (w10.heap.size, cmp l2 l3), (w9.heap.size, cmp l1 l2), (w8.heap.size, stl n), (w7.heap.size, l3), (w5.heap.size, l2), (w3.heap.size, l1)] W w12) := HK11.out.call hB
  clear hB
  have hst := st_trNew w12 (cmp l1 (cmp l2 l3))
  have hsz12 := tC_size (cmp l1 (cmp l2 l3))
  have HK12 : Hid (KP [(w12.heap.size, cmp l1 (cmp l2 l3)), (w11.heap.size, cmp (cmp l1 l2) l3), (w10.heap.size, cmp l2 l3), (w9.heap.size, cmp l1 l2), (w8.heap.size, stl n), (w7.heap.size, l3), (w5.heap.size, l2), (w3.heap.size, l1)] W (w12.alloc (.cells (tC (cmp l1 (cmp l2 l3))) 26))) := HJ12.out.new _
  clear HK11 HJ12
  go_wp2_with (first
    | (refine wl_load rfl rfl (HK12.out.get (b := w12.heap.size) (l := cmp l1 (cmp l2 l3)) (by simp)) rfl ?_)
    | (refine wl_load rfl rfl (HK12.out.get (b := w11.heap.size) (l := cmp (cmp l1 l2) l3) (by simp)) rfl ?_)
    | (refine wl_load rfl rfl (HK12.out.get (b := w10.heap.size) (l := cmp l2 l3) (by simp)) rfl ?_)
    | (refine wl_load rfl rfl (HK12.out.get (b := w9.heap.size) (l := cmp l1 l2) (by simp)) rfl ?_)
    | (refine wl_load rfl rfl (HK12.out.get (b := w8.heap.size) (l := stl n) (by simp)) rfl ?_)
    | (refine wl_load rfl rfl (HK12.out.get (b := w7.heap.size) (l := l3) (by simp)) rfl ?_)
    | (refine wl_load rfl rfl (HK12.out.get (b := w5.heap.size) (l := l2) (by simp)) rfl ?_)
    | (refine wl_load rfl rfl (HK12.out.get (b := w3.heap.size) (l := l1) (by simp)) rfl ?_)
    | (refine wl_eq rfl rfl rfl rfl ?_)
    | (refine wl_ne rfl rfl rfl rfl ?_)
    | (go_at_call 12; refine (num13_any _ _).mono ?_; rintro e wn ⟨rfl, rfl⟩))
  refine (knows13_any _).mono ?_
  rintro e w13 ⟨rfl, hB⟩
  have HK13 : Hid (KP [(w12.heap.size, cmp l1 (cmp l2 l3)), (w11.heap.size, cmp (cmp l1 l2) l3), (w10.heap.size, cmp l2 l3), (w9.heap.size, cmp l1 l2), (w8.heap.size, stl n), (w7.heap.size, l3), (w5.heap.size, l2), (w3.heap.size, l1)] W w13) := HK12.out.call hB
  clear hB HK12
  go_wp2_with (first
    | (refine wl_load rfl rfl (HK13.out.get (b := w12.heap.size) (l := cmp l1 (cmp l2 l3)) (by simp)) rfl ?_)
    | (refine wl_load rfl rfl (HK13.out.get (b := w11.heap.size) (l := cmp (cmp l1 l2) l3) (by simp)) rfl ?_)
    | (refine wl_load rfl rfl (HK13.out.get (b := w10.heap.size) (l := cmp l2 l3) (by simp)) rfl ?_)
    | (refine wl_load rfl rfl (HK13.out.get (b := w9.heap.size) (l := cmp l1 l2) (by simp)) rfl ?_)
    | (refine wl_load rfl rfl (HK13.out.get (b := w8.heap.size) (l := stl n) (by simp)) rfl ?_)
    | (refine wl_load rfl rfl (HK13.out.get (b := w7.heap.size) (l := l3) (by simp)) rfl ?_)
    | (refine wl_load rfl rfl (HK13.out.get (b := w5.heap.size) (l := l2) (by simp)) rfl ?_)
    | (refine wl_load rfl rfl (HK13.out.get (b := w3.heap.size) (l := l1) (by simp)) rfl ?_)
    | (refine wl_eq rfl rfl rfl rfl ?_)
    | (refine wl_ne rfl rfl rfl rfl ?_)
    | (go_at_call 12; refine (num13_any _ _).mono ?_; rintro e wn ⟨rfl, rfl⟩))
  clear hst
  refine (compose_tC (stl n) l1 HS0.out HT1.out (by rw [stl_len, HL1.out]) _).mono ?_
  rintro e w14 ⟨rfl, hB⟩
  have HJ14 : Hid (KP [(w12.heap.size, cmp l1 (cmp l2 l3)), (w11.heap.size, cmp (cmp l1 l2) l3), (w10.heap.size, cmp l2 l3), (w9.heap.size, cmp l1 l2), (w8.heap.size, stl n), (w7.heap.size, l3), (w5.heap.size, l2), (w3.heap.size, l1)] W w14) := HK13.out.call hB
  clear hB
  have hst := st_trNew w14 (cmp (stl n) l1)
  have hsz14 := tC_size (cmp (stl n) l1)
  have HK14 : Hid (KP [(w14.heap.size, cmp (stl n) l1), (w12.heap.size, cmp l1 (cmp l2 l3)), (w11.heap.size, cmp (cmp l1 l2) l3), (w10.heap.size, cmp l2 l3), (w9.heap.size, cmp l1 l2), (w8.heap.size, stl n), (w7.heap.size, l3), (w5.heap.size, l2), (w3.heap.size, l1)] W (w14.alloc (.cells (tC (cmp (stl n) l1)) 26))) := HJ14.out.new _
  clear HK13 HJ14
  go_wp2_with (first
    | (refine wl_load rfl rfl (HK14.out.get (b := w14.heap.size) (l := cmp (stl n) l1) (by simp)) rfl ?_)
    | (refine wl_load rfl rfl (HK14.out.get (b := w12.heap.size) (l := cmp l1 (cmp l2 l3)) (by simp)) rfl ?_)
    | (refine wl_load rfl rfl (HK14.out.get (b := w11.heap.size) (l := cmp (cmp l1 l2) l3) (by simp)) rfl ?_)
    | (refine wl_load rfl rfl (HK14.out.get (b := w10.heap.size) (l := cmp l2 l3) (by simp)) rfl ?_)
    | (refine wl_load rfl rfl (HK14.out.get (b := w9.heap.size) (l := cmp l1 l2) (by simp)) rfl ?_)
    | (refine wl_load rfl rfl (HK14.out.get (b := w8.heap.size) (l := stl n) (by simp)) rfl ?_)
    | (refine wl_load rfl rfl (HK14.out.get (b := w7.heap.size) (l := l3) (by simp)) rfl ?_)
    | (refine wl_load rfl rfl (HK14.out.get (b := w5.heap.size) (l := l2) (by simp)) rfl ?_)
    | (refine wl_load rfl rfl (HK14.out.get (b := w3.heap.size) (l := l1) (by simp)) rfl ?_)
    | (refine wl_eq rfl rfl rfl rfl ?_)
    | (refine wl_ne rfl rfl rfl rfl ?_)
    | (go_at_call 12; refine (num13_any _ _).mono ?_; rintro e wn ⟨rfl, rfl⟩))
  clear hst
  refine (compose_tC l1 (stl n) HT1.out HS0.out (by rw [stl_len, HL1.out]) _).mono ?_
  rintro e w15 ⟨rfl, hB⟩
  have HJ15 : Hid (KP [(w14.heap.size, cmp (stl n) l1), (w12.heap.size, cmp l1 (cmp l2 l3)), (w11.heap.size, cmp (cmp l1 l2) l3), (w10.heap.size, cmp l2 l3), (w9.heap.size, cmp l1 l2), (w8.heap.size, stl n), (w7.heap.size, l3), (w5.heap.size, l2), (w3.heap.size, l1)] W w15) := HK14.out.call hB
  clear hB
  have hst := st_trNew w15 (cmp l1 (stl n))
  have hsz15 := tC_size (cmp l1 (stl n))
  have HK15 : Hid (KP [(w15.heap.size, cmp l1 (stl n)), (w14.heap.size, cmp (stl n) l1), (w12.heap.size, cmp l1 (cmp l2 l3)), (w11.heap.size, cmp (cmp l1 l2) l3), (w10.heap.size, cmp l2 l3), (w9.heap.size, cmp l1 l2), (w8.heap.size, stl n), (w7.heap.size, l3), (w5.heap.size, l2), (w3.heap.size, l1)] W (w15.alloc (.cells (tC (cmp l1 (stl n))) 26))) := HJ15.out.new _
  clear HK14 HJ15
  by_cases hov : a4 + a5 < 18446744073709551616
  · obtain ⟨q, hq⟩ : ∃ q, a4 + a5 = q := ⟨_, rfl⟩
    have u1 := u64add hq (by omega)
    have g1 : ¬ ((q : Int) < (a4 : Int)) := by omega
    have hqb : q < 18446744073709551616 := by omega
    have hs4 : sameL (pwr l1 q) (cmp (pwr l1 a4) (pwr l1 a5)) = true := cmp_same (pwr_tf HT1.out _) (cmp_tf (pwr_tf HT1.out _) (pwr_tf HT1.out _) (by rw [pwr_len, pwr_len])) (by rw [← hq]; exact pwr_add HT1.out a4 a5)
    clear hq hov
    go_wp2_with (first
      | (refine wl_load rfl rfl (HK15.out.get (b := w15.heap.size) (l := cmp l1 (stl n)) (by simp)) rfl ?_)
      | (refine wl_load rfl rfl (HK15.out.get (b := w14.heap.size) (l := cmp (stl n) l1) (by simp)) rfl ?_)
      | (refine wl_load rfl rfl (HK15.out.get (b := w12.heap.size) (l := cmp l1 (cmp l2 l3)) (by simp)) rfl ?_)
      | (refine wl_load rfl rfl (HK15.out.get (b := w11.heap.size) (l := cmp (cmp l1 l2) l3) (by simp)) rfl ?_)
      | (refine wl_load rfl rfl (HK15.out.get (b := w10.heap.size) (l := cmp l2 l3) (by simp)) rfl ?_)
      | (refine wl_load rfl rfl (HK15.out.get (b := w9.heap.size) (l := cmp l1 l2) (by simp)) rfl ?_)
      | (refine wl_load rfl rfl (HK15.out.get (b := w8.heap.size) (l := stl n) (by simp)) rfl ?_)
      | (refine wl_load rfl rfl (HK15.out.get (b := w7.heap.size) (l := l3) (by simp)) rfl ?_)
      | (refine wl_load rfl rfl (HK15.out.get (b := w5.heap.size) (l := l2) (by simp)) rfl ?_)
      | (refine wl_load rfl rfl (HK15.out.get (b := w3.heap.size) (l := l1) (by simp)) rfl ?_)
      | (refine wl_eq rfl rfl rfl rfl ?_)
      | (refine wl_ne rfl rfl rfl rfl ?_)
      | (go_at_call 12; refine (num13_any _ _).mono ?_; rintro e wn ⟨rfl, rfl⟩))
    clear hst
    refine (power_tC l1 HT1.out a4 h4 _).mono ?_
    rintro e w16 ⟨rfl, hB⟩
    have HJ16 : Hid (KP [(w15.heap.size, cmp l1 (stl n)), (w14.heap.size, cmp (stl n) l1), (w12.heap.size, cmp l1 (cmp l2 l3)), (w11.heap.size, cmp (cmp l1 l2) l3), (w10.heap.size, cmp l2 l3), (w9.heap.size, cmp l1 l2), (w8.heap.size, stl n), (w7.heap.size, l3), (w5.heap.size, l2), (w3.heap.size, l1)] W w16) := HK15.out.call hB
    clear hB
    have hst := st_trNew w16 (pwr l1 a4)
    have hsz16 := tC_size (pwr l1 a4)
    have HK16 : Hid (KP [(w16.heap.size, pwr l1 a4), (w15.heap.size, cmp l1 (stl n)), (w14.heap.size, cmp (stl n) l1), (w12.heap.size, cmp l1 (cmp l2 l3)), (w11.heap.size, cmp (cmp l1 l2) l3), (w10.heap.size, cmp l2 l3), (w9.heap.size, cmp l1 l2), (w8.heap.size, stl n), (w7.heap.size, l3), (w5.heap.size, l2), (w3.heap.size, l1)] W (w16.alloc (.cells (tC (pwr l1 a4)) 26))) := HJ16.out.new _
    clear HK15 HJ16
    go_wp2_with (first
      | (refine wl_load rfl rfl (HK16.out.get (b := w16.heap.size) (l := pwr l1 a4) (by simp)) rfl ?_)
      | (refine wl_load rfl rfl (HK16.out.get (b := w15.heap.size) (l := cmp l1 (stl n)) (by simp)) rfl ?_)
      | (refine wl_load rfl rfl (HK16.out.get (b := w14.heap.size) (l := cmp (stl n) l1) (by simp)) rfl ?_)
      | (refine wl_load rfl rfl (HK16.out.get (b := w12.heap.size) (l := cmp l1 (cmp l2 l3)) (by simp)) rfl ?_)
      | (refine wl_load rfl rfl (HK16.out.get (b := w11.heap.size) (l := cmp (cmp l1 l2) l3) (by simp)) rfl ?_)
      | (refine wl_load rfl rfl (HK16.out.get (b := w10.heap.size) (l := cmp l2 l3) (by simp)) rfl ?_)
      | (refine wl_load rfl rfl (HK16.out.get (b := w9.heap.size) (l := cmp l1 l2) (by simp)) rfl ?_)
      | (refine wl_load rfl rfl (HK16.out.get (b := w8.heap.size) (l := stl n) (by simp)) rfl ?_)
      | (refine wl_load rfl rfl (HK16.out.get (b := w7.heap.size) (l := l3) (by simp)) rfl ?_)
      | (refine wl_load rfl rfl (HK16.out.get (b := w5.heap.size) (l := l2) (by simp)) rfl ?_)
      | (refine wl_load rfl rfl (HK16.out.get (b := w3.heap.size) (l := l1) (by simp)) rfl ?_)
      | (refine wl_eq rfl rfl rfl rfl ?_)
      | (refine wl_ne rfl rfl rfl rfl ?_)
      | (go_at_call 12; refine (num13_any _ _).mono ?_; rintro e wn ⟨rfl, rfl⟩))
    clear hst
    refine (power_tC l1 HT1.out a5 h5 _).mono ?_
    rintro e w17 ⟨rfl, hB⟩
    have HJ17 : Hid (KP [(w16.heap.size, pwr l1 a4), (w15.heap.size, cmp l1 (stl n)), (w14.heap.size, cmp (stl n) l1), (w12.heap.size, cmp l1 (cmp l2 l3)), (w11.heap.size, cmp (cmp l1 l2) l3), (w10.heap.size, cmp l2 l3), (w9.heap.size, cmp l1 l2), (w8.heap.size, stl n), (w7.heap.size, l3), (w5.heap.size, l2), (w3.heap.size, l1)] W w17) := HK16.out.call hB
    clear hB
    have hst := st_trNew w17 (pwr l1 a5)
    have hsz17 := tC_size (pwr l1 a5)
    have HK17 : Hid (KP [(w17.heap.size, pwr l1 a5), (w16.heap.size, pwr l1 a4), (w15.heap.size, cmp l1 (stl n)), (w14.heap.size, cmp (stl n) l1), (w12.heap.size, cmp l1 (cmp l2 l3)), (w11.heap.size, cmp (cmp l1 l2) l3), (w10.heap.size, cmp l2 l3), (w9.heap.size, cmp l1 l2), (w8.heap.size, stl n), (w7.heap.size, l3), (w5.heap.size, l2), (w3.heap.size, l1)] W (w17.alloc (.cells (tC (pwr l1 a5)) 26))) := HJ17.out.new _
    clear HK16 HJ17
    go_wp2_with (first
      | (refine wl_load rfl rfl (HK17.out.get (b := w17.heap.size) (l := pwr l1 a5) (by simp)) rfl ?_)
      | (refine wl_load rfl rfl (HK17.out.get (b := w16.heap.size) (l := pwr l1 a4) (by simp)) rfl ?_)
      | (refine wl_load rfl rfl (HK17.out.get (b := w15.heap.size) (l := cmp l1 (stl n)) (by simp)) rfl ?_)
      | (refine wl_load rfl rfl (HK17.out.get (b := w14.heap.size) (l := cmp (stl n) l1) (by simp)) rfl ?_)
      | (refine wl_load rfl rfl (HK17.out.get (b := w12.heap.size) (l := cmp l1 (cmp l2 l3)) (by simp)) rfl ?_)
      | (refine wl_load rfl rfl (HK17.out.get (b := w11.heap.size) (l := cmp (cmp l1 l2) l3) (by simp)) rfl ?_)
      | (refine wl_load rfl rfl (HK17.out.get (b := w10.heap.size) (l := cmp l2 l3) (by simp)) rfl ?_)
      | (refine wl_load rfl rfl (HK17.out.get (b := w9.heap.size) (l := cmp l1 l2) (by simp)) rfl ?_)
      | (refine wl_load rfl rfl (HK17.out.get (b := w8.heap.size) (l := stl n) (by simp)) rfl ?_)
      | (refine wl_load rfl rfl (HK17.out.get (b := w7.heap.size) (l := l3) (by simp)) rfl ?_)
      | (refine wl_load rfl rfl (HK17.out.get (b := w5.heap.size) (l := l2) (by simp)) rfl ?_)
      | (refine wl_load rfl rfl (HK17.out.get (b := w3.heap.size) (l := l1) (by simp)) rfl ?_)
      | (refine wl_eq rfl rfl rfl rfl ?_)
      | (refine wl_ne rfl rfl rfl rfl ?_)
      | (go_at_call 12; refine (num13_any _ _).mono ?_; rintro e wn ⟨rfl, rfl⟩))
    clear hst
    refine (power_tC l1 HT1.out q hqb _).mono ?_
    rintro e w18 ⟨rfl, hB⟩
    have HJ18 : Hid (KP [(w17.heap.size, pwr l1 a5), (w16.heap.size, pwr l1 a4), (w15.heap.size, cmp l1 (stl n)), (w14.heap.size, cmp (stl n) l1), (w12.heap.size, cmp l1 (cmp l2 l3)), (w11.heap.size, cmp (cmp l1 l2) l3), (w10.heap.size, cmp l2 l3), (w9.heap.size, cmp l1 l2), (w8.heap.size, stl n), (w7.heap.size, l3), (w5.heap.size, l2), (w3.heap.size, l1)] W w18) := HK17.out.call hB
    clear hB
    have hst := st_trNew w18 (pwr l1 q)
    have hsz18 := tC_size (pwr l1 q)
    have HK18 : Hid (KP [(w18.heap.size, pwr l1 q), (w17.heap.size, pwr l1 a5), (w16.heap.size, pwr l1 a4), (w15.heap.size, cmp l1 (stl n)), (w14.heap.size, cmp (stl n) l1), (w12.heap.size, cmp l1 (cmp l2 l3)), (w11.heap.size, cmp (cmp l1 l2) l3), (w10.heap.size, cmp l2 l3), (w9.heap.size, cmp l1 l2), (w8.heap.size, stl n), (w7.heap.size, l3), (w5.heap.size, l2), (w3.heap.size, l1)] W (w18.alloc (.cells (tC (pwr l1 q)) 26))) := HJ18.out.new _
    clear HK17 HJ18
    go_wp2_with (first
      | (refine wl_load rfl rfl (HK18.out.get (b := w18.heap.size) (l := pwr l1 q) (by simp)) rfl ?_)
      | (refine wl_load rfl rfl (HK18.out.get (b := w17.heap.size) (l := pwr l1 a5) (by simp)) rfl ?_)
      | (refine wl_load rfl rfl (HK18.out.get (b := w16.heap.size) (l := pwr l1 a4) (by simp)) rfl ?_)
      | (refine wl_load rfl rfl (HK18.out.get (b := w15.heap.size) (l := cmp l1 (stl n)) (by simp)) rfl ?_)
      | (refine wl_load rfl rfl (HK18.out.get (b := w14.heap.size) (l := cmp (stl n) l1) (by simp)) rfl ?_)
      | (refine wl_load rfl rfl (HK18.out.get (b := w12.heap.size) (l := cmp l1 (cmp l2 l3)) (by simp)) rfl ?_)
      | (refine wl_load rfl rfl (HK18.out.get (b := w11.heap.size) (l := cmp (cmp l1 l2) l3) (by simp)) rfl ?_)
      | (refine wl_load rfl rfl (HK18.out.get (b := w10.heap.size) (l := cmp l2 l3) (by simp)) rfl ?_)
      | (refine wl_load rfl rfl (HK18.out.get (b := w9.heap.size) (l := cmp l1 l2) (by simp)) rfl ?_)
      | (refine wl_load rfl rfl (HK18.out.get (b := w8.heap.size) (l := stl n) (by simp)) rfl ?_)
      | (refine wl_load rfl rfl (HK18.out.get (b := w7.heap.size) (l := l3) (by simp)) rfl ?_)
      | (refine wl_load rfl rfl (HK18.out.get (b := w5.heap.size) (l := l2) (by simp)) rfl ?_)
      | (refine wl_load rfl rfl (HK18.out.get (b := w3.heap.size) (l := l1) (by simp)) rfl ?_)
      | (refine wl_eq rfl rfl rfl rfl ?_)
      | (refine wl_ne rfl rfl rfl rfl ?_)
      | (go_at_call 12; refine (num13_any _ _).mono ?_; rintro e wn ⟨rfl, rfl⟩))
    clear hst
    refine (compose_tC (pwr l1 a4) (pwr l1 a5) (pwr_tf HT1.out _) (pwr_tf HT1.out _) (by rw [pwr_len, pwr_len]) _).mono ?_
    rintro e w19 ⟨rfl, hB⟩
    have HJ19 : Hid (KP [(w18.heap.size, pwr l1 q), (w17.heap.size, pwr l1 a5), (w16.heap.size, pwr l1 a4), (w15.heap.size, cmp l1 (stl n)), (w14.heap.size, cmp (stl n) l1), (w12.heap.size, cmp l1 (cmp l2 l3)), (w11.heap.size, cmp (cmp l1 l2) l3), (w10.heap.size, cmp l2 l3), (w9.heap.size, cmp l1 l2), (w8.heap.size, stl n), (w7.heap.size, l3), (w5.heap.size, l2), (w3.heap.size, l1)] W w19) := HK18.out.call hB
    clear hB
    have hst := st_trNew w19 (cmp (pwr l1 a4) (pwr l1 a5))
    have hsz19 := tC_size (cmp (pwr l1 a4) (pwr l1 a5))
    have HK19 : Hid (KP [(w19.heap.size, cmp (pwr l1 a4) (pwr l1 a5)), (w18.heap.size, pwr l1 q), (w17.heap.size, pwr l1 a5), (w16.heap.size, pwr l1 a4), (w15.heap.size, cmp l1 (stl n)), (w14.heap.size, cmp (stl n) l1), (w12.heap.size, cmp l1 (cmp l2 l3)), (w11.heap.size, cmp (cmp l1 l2) l3), (w10.heap.size, cmp l2 l3), (w9.heap.size, cmp l1 l2), (w8.heap.size, stl n), (w7.heap.size, l3), (w5.heap.size, l2), (w3.heap.size, l1)] W (w19.alloc (.cells (tC (cmp (pwr l1 a4) (pwr l1 a5))) 26))) := HJ19.out.new _
    clear HK18 HJ19
    go_wp2_with (first
      | (refine wl_load rfl rfl (HK19.out.get (b := w19.heap.size) (l := cmp (pwr l1 a4) (pwr l1 a5)) (by simp)) rfl ?_)
      | (refine wl_load rfl rfl (HK19.out.get (b := w18.heap.size) (l := pwr l1 q) (by simp)) rfl ?_)
      | (refine wl_load rfl rfl (HK19.out.get (b := w17.heap.size) (l := pwr l1 a5) (by simp)) rfl ?_)
      | (refine wl_load rfl rfl (HK19.out.get (b := w16.heap.size) (l := pwr l1 a4) (by simp)) rfl ?_)
      | (refine wl_load rfl rfl (HK19.out.get (b := w15.heap.size) (l := cmp l1 (stl n)) (by simp)) rfl ?_)
      | (refine wl_load rfl rfl (HK19.out.get (b := w14.heap.size) (l := cmp (stl n) l1) (by simp)) rfl ?_)
      | (refine wl_load rfl rfl (HK19.out.get (b := w12.heap.size) (l := cmp l1 (cmp l2 l3)) (by simp)) rfl ?_)
      | (refine wl_load rfl rfl (HK19.out.get (b := w11.heap.size) (l := cmp (cmp l1 l2) l3) (by simp)) rfl ?_)
      | (refine wl_load rfl rfl (HK19.out.get (b := w10.heap.size) (l := cmp l2 l3) (by simp)) rfl ?_)
      | (refine wl_load rfl rfl (HK19.out.get (b := w9.heap.size) (l := cmp l1 l2) (by simp)) rfl ?_)
      | (refine wl_load rfl rfl (HK19.out.get (b := w8.heap.size) (l := stl n) (by simp)) rfl ?_)
      | (refine wl_load rfl rfl (HK19.out.get (b := w7.heap.size) (l := l3) (by simp)) rfl ?_)
      | (refine wl_load rfl rfl (HK19.out.get (b := w5.heap.size) (l := l2) (by simp)) rfl ?_)
      | (refine wl_load rfl rfl (HK19.out.get (b := w3.heap.size) (l := l1) (by simp)) rfl ?_)
      | (refine wl_eq rfl rfl rfl rfl ?_)
      | (refine wl_ne rfl rfl rfl rfl ?_)
      | (go_at_call 12; refine (num13_any _ _).mono ?_; rintro e wn ⟨rfl, rfl⟩))
    go_ret
    exact ⟨rfl, HK19.out.below⟩
  · have u1 : IntKind.u64.wrap ((a4 : Int) + (a5 : Int)) = (a4 : Int) + (a5 : Int) - 18446744073709551616 := by rw [IntKind.wrap_u64]; omega
    obtain ⟨q, hq⟩ : ∃ q : Int, (a4 : Int) + (a5 : Int) - 18446744073709551616 = q := ⟨_, rfl⟩
    rw [hq] at u1
    have g1 : q < (a4 : Int) := by omega
    clear hq hov
    go_wp2_with (first
      | (refine wl_load rfl rfl (HK15.out.get (b := w15.heap.size) (l := cmp l1 (stl n)) (by simp)) rfl ?_)
      | (refine wl_load rfl rfl (HK15.out.get (b := w14.heap.size) (l := cmp (stl n) l1) (by simp)) rfl ?_)
      | (refine wl_load rfl rfl (HK15.out.get (b := w12.heap.size) (l := cmp l1 (cmp l2 l3)) (by simp)) rfl ?_)
      | (refine wl_load rfl rfl (HK15.out.get (b := w11.heap.size) (l := cmp (cmp l1 l2) l3) (by simp)) rfl ?_)
      | (refine wl_load rfl rfl (HK15.out.get (b := w10.heap.size) (l := cmp l2 l3) (by simp)) rfl ?_)
      | (refine wl_load rfl rfl (HK15.out.get (b := w9.heap.size) (l := cmp l1 l2) (by simp)) rfl ?_)
      | (refine wl_load rfl rfl (HK15.out.get (b := w8.heap.size) (l := stl n) (by simp)) rfl ?_)
      | (refine wl_load rfl rfl (HK15.out.get (b := w7.heap.size) (l := l3) (by simp)) rfl ?_)
      | (refine wl_load rfl rfl (HK15.out.get (b := w5.heap.size) (l := l2) (by simp)) rfl ?_)
      | (refine wl_load rfl rfl (HK15.out.get (b := w3.heap.size) (l := l1) (by simp)) rfl ?_)
      | (refine wl_eq rfl rfl rfl rfl ?_)
      | (refine wl_ne rfl rfl rfl rfl ?_)
      | (go_at_call 12; refine (num13_any _ _).mono ?_; rintro e wn ⟨rfl, rfl⟩))
    go_ret
    exact ⟨rfl, HK15.out.below⟩

/-! ### The row's step -/
theorem own : ownKnob Try.prog.godebug = none := by kernel_rfl
set_option maxRecDepth 100000 in
theorem lifted (os : Os) (started : os.Started) (H : Type) (enc : TypeId × Value → H) :
    ReturnsInHanded {} Try.checked os 3 .any (Rows.transMonoidSpec.pre6 enc Try.prog Try.f3 Rows.transMonoidRow.domain false) (Rows.transMonoidSpec.post enc Try.prog Try.f3 false true false false) := by
  refine returnsInHanded_of_change_sized (C := Try.checked) own started (by kernel_rfl) Try.func3
    (ChangeSpec.witness6 (enc := enc) (C := Try.checked) false ⟨#[], #[.int .i64 0, .slice none 0 0, .slice none 0 0, .slice none 0 0, .int .u64 0, .int .u64 0], []⟩ 8 (by kernel_rfl) (by kernel_rfl) (by kernel_rfl) (by kernel_rfl)) ?_
  intro W base args ds gs before hval0 hW hcnd hsz0 _
  have hval : ∀ (j : Nat) t v, Try.f3.params[j]? = some t → args[j]? = some v → Value.okWide Try.prog W .any base t v := hval0
  clear hval0
  have hsz : (DataW.weightsEach Try.prog (Try.f3.params.toList ++ Rows.transMonoidSpec.plain.varTypes Try.prog) (ds ++ gs)).all (· ≤ reachBytes) = true := hsz0
  clear hsz0
  have hW' := hW
  obtain ⟨p, q, hA0, hV, rfl, hfz, hnd⟩ := hW
  have hA : DataW.TrodAll enc Try.prog W 0 (fun _ => true) true Try.f3.params.toList args.toList ds p := hA0
  rw [Try.params3] at hA hval hsz
  obtain ⟨v0, vs0, d0, ds0, p0, q0, hargs, rfl, rfl, h0, r0⟩ := trodAll_cons hA
  obtain ⟨v1, vs1, d1, ds1, p1, q1, rfl, rfl, rfl, h1, r1⟩ := trodAll_cons r0
  obtain ⟨v2, vs2, d2, ds2, p2, q2, rfl, rfl, rfl, h2, r2⟩ := trodAll_cons r1
  obtain ⟨v3, vs3, d3, ds3, p3, q3, rfl, rfl, rfl, h3, r3⟩ := trodAll_cons r2
  obtain ⟨v4, vs4, d4, ds4, p4, q4, rfl, rfl, rfl, h4, r4⟩ := trodAll_cons r3
  obtain ⟨v5, vs5, d5, ds5, p5, q5, rfl, rfl, rfl, h5, r5⟩ := trodAll_cons r4
  obtain ⟨rfl, rfl, rfl⟩ := trodAll_nil r5
  obtain rfl : args = #[v0, v1, v2, v3, v4, v5] := by cases args; simp_all
  obtain ⟨rfl, rfl⟩ := trodVars_none hV
  obtain ⟨a0, rfl, rfl, rfl, w0⟩ := open_int Try.underlying3 (hval 0 3 v0 rfl rfl) h0
  obtain ⟨a1, w1, i1, x1, y1⟩ := open_listW (hval 1 22 v1 rfl rfl) h1
  have z1 : (a1.length + 2) * 8 ≤ 140737488355328 := by
    rcases y1 with ⟨_, rfl⟩ | ⟨e, s, rfl, hy⟩
    · decide
    · have := sized_slice hsz (j := 1) (t := 22) rfl rfl Try.underlying22
      rw [Try.bytes_int1] at this
      simp only [reachBytes] at this
      omega
  have g1 : ∀ x ∈ p1, x.block < W.heap.size := fun x hx => hW'.lt x (by simp [hx])
  obtain ⟨a2, w2, i2, x2, y2⟩ := open_listW (hval 2 22 v2 rfl rfl) h2
  have z2 : (a2.length + 2) * 8 ≤ 140737488355328 := by
    rcases y2 with ⟨_, rfl⟩ | ⟨e, s, rfl, hy⟩
    · decide
    · have := sized_slice hsz (j := 2) (t := 22) rfl rfl Try.underlying22
      rw [Try.bytes_int1] at this
      simp only [reachBytes] at this
      omega
  have g2 : ∀ x ∈ p2, x.block < W.heap.size := fun x hx => hW'.lt x (by simp [hx])
  obtain ⟨a3, w3, i3, x3, y3⟩ := open_listW (hval 3 22 v3 rfl rfl) h3
  have z3 : (a3.length + 2) * 8 ≤ 140737488355328 := by
    rcases y3 with ⟨_, rfl⟩ | ⟨e, s, rfl, hy⟩
    · decide
    · have := sized_slice hsz (j := 3) (t := 22) rfl rfl Try.underlying22
      rw [Try.bytes_int1] at this
      simp only [reachBytes] at this
      omega
  have g3 : ∀ x ∈ p3, x.block < W.heap.size := fun x hx => hW'.lt x (by simp [hx])
  obtain ⟨b4, rfl, rfl, rfl, w4⟩ := open_int Try.underlying23 (hval 4 23 v4 rfl rfl) h4
  obtain ⟨a4, rfl, x4⟩ := u64_of w4
  obtain ⟨b5, rfl, rfl, rfl, w5⟩ := open_int Try.underlying23 (hval 5 23 v5 rfl rfl) h5
  obtain ⟨a5, rfl, x5⟩ := u64_of w5
  clear hA0
  refine (walk a0 v1 a1 v2 a2 v3 a3 a4 a5 W (i64_of w0) w1 i1 (by omega) w2 i2 (by omega) w3 i3 (by omega) x4 x5).mono fun e W' ⟨he, bel⟩ => ?_
  subst he
  exact ⟨_, rfl, _, _, _, [], _, [], hW', trodAll_mk1 (shut_bool Try.underlying4 _), (trodAll_cons_mk (shut_int Try.underlying3 w0) (trodAll_cons_mk (Below.trod Try.laidOut (by kernel_rfl) (of_decide_eq_true (by kernel_rfl)) h1 bel g1) (trodAll_cons_mk (Below.trod Try.laidOut (by kernel_rfl) (of_decide_eq_true (by kernel_rfl)) h2 bel g2) (trodAll_cons_mk (Below.trod Try.laidOut (by kernel_rfl) (of_decide_eq_true (by kernel_rfl)) h3 bel g3) (trodAll_cons_mk (shut_int Try.underlying23 w4) (trodAll_cons_mk (shut_int Try.underlying23 w5) trodAll_mk0)))))), rfl, bel.frame _, fun h => by cases h⟩

theorem over : Rows.transMonoidRow.holds Try.pinned (OpenSpec.ofChange Rows.transMonoidSpec) :=
  OpenClaim.holds_of_wide 3 Try.f3 rfl rfl rfl rfl rfl rfl rfl ⟨rfl, rfl, rfl, rfl, rfl⟩ rfl rfl rfl rfl rfl (by kernel_rfl) Try.func3 (by kernel_rfl)
    (of_decide_eq_true (by kernel_rfl)) (by unfold Func.isWrapper; first | (rw [if_pos (by decide +kernel)]; kernel_rfl) | (rw [if_neg (by decide +kernel)]; exact ⟨rfl, rfl⟩))
    (fun os started H enc _ => lifted os started H enc)

end Go.Proofs.Ythglficjhgpegab.transMonoid
namespace Go.Proofs.Ythglficjhgpegab
/-- The given statement. -/
theorem transMonoid_holds : Rows.TransMonoidSaid := transMonoid.over
end Go.Proofs.Ythglficjhgpegab
