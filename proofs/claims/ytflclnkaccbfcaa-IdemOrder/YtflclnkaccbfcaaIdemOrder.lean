/- Proved: eggboxlaw16.IdemOrder answers true at every automaton's data a and all numbers i, j, k (P16.7): where Build makes a monoid, Below is an order of the idempotents (those that Omega finds), with 0 above all, and what is below an idempotent is just what Between has of it; and the law's own monoid is as the law names it. No condition. -/
import Derived.Test.YtflclnkaccbfcaaW3
import Derived.Test.YtflclnkaccbfcaaW4
import Derived.Test.YtflclnkaccbfcaaW5
import Derived.Test.YtflclnkaccbfcaaE26
import Derived.ProofKit
import Derived.OpenShut
import Derived.ShutString
import Derived.ChangeOld
import Derived.SizedLaws
namespace Go.Proofs.Ytflclnkaccbfcaa.idemOrder
open Go Go.ChangeShapes Go.WideShapes Go.ChangeAt Go.RowKit Go.Lib
open Go.ChangeMaps (open_string shut_string)
set_option linter.unusedVariables false
attribute [-instance] List.instBEq instBEqProd

set_option maxHeartbeats 8000000 in
set_option maxRecDepth 100000 in
theorem walk (va : Value) (A : Aut) (a1 : Int) (a2 : Int) (a3 : Int) (W : World) (ha : AR W va A) (hna : NilOk va) (hma : (A.nx.length + 2) * 8 ≤ 140737488355328) (hma2 : A.ac.length ≤ 140737488355328) (h1 : I64 a1) (h2 : I64 a2) (h3 : I64 a3) :
    Calls Try.prog 8 #[va, .int .i64 a1, .int .i64 a2, .int .i64 a3] W fun e w' => e = .returned (.bool true) ∧ Below W.heap.size W w' := by
  obtain ⟨an, cn, aa, ca, ea, _, _⟩ := ha.is
  have HAA : Hid (∀ y, Below W.heap.size W y → AR y va A) := fun y hy => ha.stay hy
  subst ea
  have HBD : Hid (∀ y, Below W.heap.size W y → Calls Try.prog 33 #[.agg #[.int .i64 A.k, .slice an A.nx.length cn, .slice aa A.ac.length ca]] y (BdA A y)) := fun y hy => build_all _ A y (HAA.out y hy) (by omega) (by omega)
  obtain ⟨w0, hw0⟩ : ∃ w0, w0 = W.alloc (.cells #[.int .i64 A.k, .slice an A.nx.length cn, .slice aa A.ac.length ca] 26) := ⟨_, rfl⟩
  have HB0 : Hid (Below W.heap.size W w0) := by show Below _ _ _; rw [hw0]; exact below_new _ _
  have HW0 : Hid (w0 = W.alloc (.cells #[.int .i64 A.k, .slice an A.nx.length cn, .slice aa A.ac.length ca] 26)) := hw0
  clear ha hna hma hma2 hw0
  go_enter Try.func8, Try.ntmps8
  go_wp2_with fail
  rw [← HW0.out]
  refine (HBD.out _ HB0.out).mono ?_
  rintro e w1 (⟨hne, rfl, hb⟩ | ⟨ob, M, N, rfl, G, h64, hE, hmo, hb⟩)
  · have HB1 : Hid (Below W.heap.size W w1) := go_on HB0.out hb
    obtain ⟨E, hEE⟩ : ∃ E, bdE A = E := ⟨_, rfl⟩
    rw [hEE] at hne ⊢
    have hq0 : (E != 0) = true := by rw [bne_iff_ne]; exact hne
    have hqd : decide (E = 0) = false := decide_eq_false hne
    clear hb hEE
    go_wp2_with (first | (go_at_call 21; refine (num16_any _ _).mono ?_; rintro e yn ⟨rfl, hyn⟩; subst yn) | (go_at_call 10; refine (live16_any _).mono ?_; rintro e w2 ⟨rfl, hb2⟩; have HB2 : Hid (Below W.heap.size W w2) := go_on HB1.out hb2; clear hb2))
    go_ret
    exact ⟨rfl, HB2.out⟩
  · have HB1 : Hid (Below W.heap.size W w1) := go_on HB0.out hb
    have HM1 : Hid (MO w1 ob A M N) := hmo
    have HMon : Hid (Mon A M N) := mon_of G h64 hE
    have hnl := HMon.out.pos
    have hn5 := HMon.out.most
    have hn1 : ¬ (M.length : Int) < 1 := by omega
    have hn1d : decide ((M.length : Int) < 1) = false := decide_eq_false hn1
    have heq := eq_Mnil ⟨ob, 0, none⟩
    clear hb hmo G h64 hE
    go_wp2_with (first | (go_at_call 21; refine (num16_any _ _).mono ?_; rintro e yn ⟨rfl, hyn⟩; subst yn) | (go_at_call 34; refine (mlen_any HM1.out).mono ?_; rintro e yn ⟨rfl, hyn⟩; subst yn))
    clear heq hn1 hn1d
    refine (at16_any HM1.out a1 h1).mono ?_
    rintro e w2 ⟨⟨i, hi, rfl⟩, hb⟩
    have HB2 : Hid (Below W.heap.size W w2) := go_on HB1.out hb
    have HM2 : Hid (MO w2 ob A M N) := HM1.out.below hb
    clear hb
    go_wp2_with fail
    refine (omega_any HM2.out i hi).mono ?_
    rintro e w3 ⟨⟨x, rfl, hom⟩, hb⟩
    have HB3 : Hid (Below W.heap.size W w3) := go_on HB2.out hb
    have HM3 : Hid (MO w3 ob A M N) := HM2.out.below hb
    have hx : x < M.length := HMon.out.om_lt hi hom
    have HX : Hid (pr A.k.toNat N x x = x) := by
      obtain ⟨_, _, _, q⟩ := hom
      exact q
    clear hom
    clear hb
    go_wp2_with fail
    refine (at16_any HM3.out a2 h2).mono ?_
    rintro e w4 ⟨⟨j, hj, rfl⟩, hb⟩
    have HB4 : Hid (Below W.heap.size W w4) := go_on HB3.out hb
    have HM4 : Hid (MO w4 ob A M N) := HM3.out.below hb
    clear hb
    go_wp2_with fail
    refine (omega_any HM4.out j hj).mono ?_
    rintro e w5 ⟨⟨y, rfl, hom⟩, hb⟩
    have HB5 : Hid (Below W.heap.size W w5) := go_on HB4.out hb
    have HM5 : Hid (MO w5 ob A M N) := HM4.out.below hb
    have hy : y < M.length := HMon.out.om_lt hj hom
    have HY : Hid (pr A.k.toNat N y y = y) := by
      obtain ⟨_, _, _, q⟩ := hom
      exact q
    clear hom
    clear hb
    go_wp2_with fail
    refine (at16_any HM5.out a3 h3).mono ?_
    rintro e w6 ⟨⟨k, hk, rfl⟩, hb⟩
    have HB6 : Hid (Below W.heap.size W w6) := go_on HB5.out hb
    have HM6 : Hid (MO w6 ob A M N) := HM5.out.below hb
    clear hb
    go_wp2_with fail
    refine (omega_any HM6.out k hk).mono ?_
    rintro e w7 ⟨⟨z, rfl, hom⟩, hb⟩
    have HB7 : Hid (Below W.heap.size W w7) := go_on HB6.out hb
    have HM7 : Hid (MO w7 ob A M N) := HM6.out.below hb
    have hz : z < M.length := HMon.out.om_lt hk hom
    have HZ : Hid (pr A.k.toNat N z z = z) := by
      obtain ⟨_, _, _, q⟩ := hom
      exact q
    clear hom
    clear hb
    go_wp2_with (first | (go_at_call 21; refine (num16_any _ _).mono ?_; rintro e yn ⟨rfl, hyn⟩; subst yn))
    have HLE : Hid (∀ u v, leE A.k.toNat N u v = true ↔ pr A.k.toNat N u v = u ∧ pr A.k.toNat N v u = u) := fun u v => decide_eq_true_iff
    obtain ⟨xy, hxy⟩ : ∃ b, leE A.k.toNat N x y = b := ⟨_, rfl⟩
    obtain ⟨yx, hyx⟩ : ∃ b, leE A.k.toNat N y x = b := ⟨_, rfl⟩
    obtain ⟨yz, hyz⟩ : ∃ b, leE A.k.toNat N y z = b := ⟨_, rfl⟩
    obtain ⟨xz, hxz⟩ : ∃ b, leE A.k.toNat N x z = b := ⟨_, rfl⟩
    have HXY : Hid (leE A.k.toNat N x y = xy) := hxy
    have HYX : Hid (leE A.k.toNat N y x = yx) := hyx
    have HYZ : Hid (leE A.k.toNat N y z = yz) := hyz
    have HXZ : Hid (leE A.k.toNat N x z = xz) := hxz
    have HSF : Hid (leE A.k.toNat N x x = true) := decide_eq_true ⟨HX.out, HX.out⟩
    have HTP : Hid (leE A.k.toNat N x 0 = true) := decide_eq_true ⟨pr_one _ _ _, HMon.out.one_pr hx⟩
    have HAS : Hid (xy = true → yx = true → x = y) := fun h1 h2 => by
      have q1 := (HLE.out x y).1 (hxy.trans h1)
      have q2 := (HLE.out y x).1 (hyx.trans h2)
      rw [← q1.1, q2.2]
    have HTR : Hid (xy = true → yz = true → xz = true) := fun h1 h2 => by
      have q1 := (HLE.out x y).1 (hxy.trans h1)
      have q2 := (HLE.out y z).1 (hyz.trans h2)
      rw [← hxz]
      refine (HLE.out x z).2 ⟨?_, ?_⟩
      · rw [← q1.1, HMon.out.assoc hx hy hz, q2.1]
      · rw [← q1.2, ← HMon.out.assoc hz hy hx, q2.2]
    have HBT : Hid (x ∈ thL M.length (btE A.k.toNat N y) ↔ xy = true) := by
      show _ ↔ _
      rw [mem_thL, ← hxy, HLE.out]
      constructor
      · rintro ⟨_, h2⟩
        have h3 := of_decide_eq_true h2
        have hyx := HMon.out.pr_lt hy hx
        refine ⟨?_, ?_⟩
        · have : pr A.k.toNat N (pr A.k.toNat N (pr A.k.toNat N y x) y) y = pr A.k.toNat N (pr A.k.toNat N y x) y := by rw [HMon.out.assoc hyx hy hy, HY.out]
          rw [h3] at this
          exact this
        · have : pr A.k.toNat N y (pr A.k.toNat N (pr A.k.toNat N y x) y) = pr A.k.toNat N (pr A.k.toNat N y x) y := by rw [← HMon.out.assoc hy hyx hy, ← HMon.out.assoc hy hy hx, HY.out]
          rw [h3] at this
          exact this
      · rintro ⟨h1, h2⟩
        exact ⟨hx, decide_eq_true (by rw [h2, h1])⟩
    clear hxy hyx hyz hxz
    have C1 : Hid (∀ u, MO u ob A M N → Calls Try.prog 29 #[.pointer (some ⟨ob, 0, none⟩), .int .i64 (x : Nat), .int .i64 (y : Nat)] u fun e w' => e = .returned (.tuple #[.bool xy, .int .i64 0]) ∧ Below u.heap.size u w') := fun u hu => by
      have := iBelow_ok hu x y hx hy HX.out HY.out
      rw [HXY.out] at this
      exact this
    have C2 : Hid (∀ u, MO u ob A M N → Calls Try.prog 29 #[.pointer (some ⟨ob, 0, none⟩), .int .i64 (y : Nat), .int .i64 (x : Nat)] u fun e w' => e = .returned (.tuple #[.bool yx, .int .i64 0]) ∧ Below u.heap.size u w') := fun u hu => by
      have := iBelow_ok hu y x hy hx HY.out HX.out
      rw [HYX.out] at this
      exact this
    have C3 : Hid (∀ u, MO u ob A M N → Calls Try.prog 29 #[.pointer (some ⟨ob, 0, none⟩), .int .i64 (y : Nat), .int .i64 (z : Nat)] u fun e w' => e = .returned (.tuple #[.bool yz, .int .i64 0]) ∧ Below u.heap.size u w') := fun u hu => by
      have := iBelow_ok hu y z hy hz HY.out HZ.out
      rw [HYZ.out] at this
      exact this
    have C4 : Hid (∀ u, MO u ob A M N → Calls Try.prog 29 #[.pointer (some ⟨ob, 0, none⟩), .int .i64 (x : Nat), .int .i64 (z : Nat)] u fun e w' => e = .returned (.tuple #[.bool xz, .int .i64 0]) ∧ Below u.heap.size u w') := fun u hu => by
      have := iBelow_ok hu x z hx hz HX.out HZ.out
      rw [HXZ.out] at this
      exact this
    have C5 : Hid (∀ u, MO u ob A M N → Calls Try.prog 29 #[.pointer (some ⟨ob, 0, none⟩), .int .i64 (x : Nat), .int .i64 (x : Nat)] u fun e w' => e = .returned (.tuple #[.bool true, .int .i64 0]) ∧ Below u.heap.size u w') := fun u hu => by
      have := iBelow_ok hu x x hx hx HX.out HX.out
      rw [HSF.out] at this
      exact this
    have C6 : Hid (∀ u, MO u ob A M N → Calls Try.prog 29 #[.pointer (some ⟨ob, 0, none⟩), .int .i64 (x : Nat), .int .i64 0] u fun e w' => e = .returned (.tuple #[.bool true, .int .i64 0]) ∧ Below u.heap.size u w') := fun u hu => by
      have := iBelow_ok hu x 0 hx hnl HX.out (HMon.out.one_pr hnl)
      rw [HTP.out] at this
      exact this
    refine (C1.out _ HM7.out).mono ?_
    rintro e w8 ⟨rfl, hb⟩
    have HB8 : Hid (Below W.heap.size W w8) := go_on HB7.out hb
    have HM8 : Hid (MO w8 ob A M N) := HM7.out.below hb
    clear hb
    go_wp2_with fail
    refine (C2.out _ HM8.out).mono ?_
    rintro e w9 ⟨rfl, hb⟩
    have HB9 : Hid (Below W.heap.size W w9) := go_on HB8.out hb
    have HM9 : Hid (MO w9 ob A M N) := HM8.out.below hb
    clear hb
    go_wp2_with fail
    refine (C3.out _ HM9.out).mono ?_
    rintro e w10 ⟨rfl, hb⟩
    have HB10 : Hid (Below W.heap.size W w10) := go_on HB9.out hb
    have HM10 : Hid (MO w10 ob A M N) := HM9.out.below hb
    clear hb
    go_wp2_with fail
    refine (C4.out _ HM10.out).mono ?_
    rintro e w11 ⟨rfl, hb⟩
    have HB11 : Hid (Below W.heap.size W w11) := go_on HB10.out hb
    have HM11 : Hid (MO w11 ob A M N) := HM10.out.below hb
    clear hb
    go_wp2_with fail
    refine (C5.out _ HM11.out).mono ?_
    rintro e w12 ⟨rfl, hb⟩
    have HB12 : Hid (Below W.heap.size W w12) := go_on HB11.out hb
    have HM12 : Hid (MO w12 ob A M N) := HM11.out.below hb
    clear hb
    go_wp2_with fail
    refine (C6.out _ HM12.out).mono ?_
    rintro e w13 ⟨rfl, hb⟩
    have HB13 : Hid (Below W.heap.size W w13) := go_on HB12.out hb
    have HM13 : Hid (MO w13 ob A M N) := HM12.out.below hb
    clear hb
    go_wp2_with fail
    refine (iBetween_ok HM13.out y hy HY.out).mono ?_
    rintro e w14 ⟨l, rfl, hl, hb⟩
    have HB14 : Hid (Below W.heap.size W w14) := go_on HB13.out hb
    have HM14 : Hid (MO w14 ob A M N) := HM13.out.below hb
    obtain ⟨la, lc, rfl⟩ := own_shape hl
    have HL : Hid (SR w14 la (nC (thL M.length (btE A.k.toNat N y)))) := own_sr hl
    clear hl
    clear hb
    have hll := thL_len M.length (btE A.k.toNat N y)
    obtain ⟨T, hT⟩ : ∃ T, thL M.length (btE A.k.toNat N y) = T := ⟨_, rfl⟩
    rw [hT] at HL HBT hll ⊢
    clear hT
    have HB : Hid (Below W.heap.size W w14) := HB14.out
    cases xy with
    | false =>
      -- no more to say
      have HXT : Hid (decide (x ∈ T) = false) := decide_eq_false (fun q => by have := HBT.out.1 q; cases this)
      go_wp2_with (first | (go_at_call 21; refine (num16_any _ _).mono ?_; rintro e yn ⟨rfl, hyn⟩; subst yn))
      go_loopw [27, 28] (fun vh vn wr => ∃ n : Nat, n ≤ T.length ∧ vn = .int .i64 (n : Nat) ∧ vh = .bool (decide (x ∈ T.take n)) ∧ wr = w14) (fun _ vn _ => T.length - (Go.Lib.intOf vn).toNat)
      case atStart => exact ⟨0, Nat.zero_le _, rfl, by simp, rfl⟩
      case round =>
        obtain ⟨n, hn, rfl, rfl, hwz⟩ := hrel
        subst hwz
        by_cases hlt : n < T.length
        · have hnI : (n : Int) < (T.length : Int) := by omega
          have HLT : Hid (n < T.length) := hlt
          obtain ⟨g, o, rfl, _, hcell⟩ := HL.out.nat hlt
          obtain ⟨v, hv⟩ : ∃ v, T.getD n 0 = v := ⟨_, rfl⟩
          have hvL : T[n]? = some v := by rw [List.getElem?_eq_getElem hlt, ← hv]; simp [hlt]
          rw [hv] at hcell
          have HTK : Hid (x ∈ T.take (n + 1) ↔ x ∈ T.take n ∨ x = v) := by
            show _ ↔ _
            rw [List.take_add_one, hvL]
            simp
          clear hv hvL hlt
          by_cases hm : x ∈ T.take n
          · have HE : Hid (decide (x ∈ T.take (n + 1)) = true) := decide_eq_true (HTK.out.2 (.inl hm))
            have e0 : decide (x ∈ T.take n) = true := decide_eq_true hm
            rw [e0]
            clear hm e0
            go_wp2_with fail
            go_roundw
            case rel => exact ⟨n + 1, HLT.out, by go_num, by rw [HE.out], by trivial⟩
            case measure => have := HLT.out; simp [Go.Lib.intOf]; omega
          · have e0 : decide (x ∈ T.take n) = false := decide_eq_false hm
            rw [e0]
            by_cases hvx : v = x
            · have HE : Hid (decide (x ∈ T.take (n + 1)) = true) := decide_eq_true (HTK.out.2 (.inr hvx.symm))
              have hvI : ((v : Int) == (x : Int)) = true := by rw [beq_iff_eq]; omega
              clear hm hvx e0
              go_wp2_with fail
              go_roundw
              case rel => exact ⟨n + 1, HLT.out, by go_num, by rw [HE.out], by trivial⟩
              case measure => have := HLT.out; simp [Go.Lib.intOf]; omega
            · have HE : Hid (decide (x ∈ T.take (n + 1)) = false) := decide_eq_false (fun q => by
                rcases HTK.out.1 q with q | q
                · exact hm q
                · exact hvx q.symm)
              have hvI : ((v : Int) == (x : Int)) = false := by rw [beq_eq_false_iff_ne]; omega
              clear hm hvx e0
              go_wp2_with fail
              go_roundw
              case rel => exact ⟨n + 1, HLT.out, by go_num, by rw [HE.out], by trivial⟩
              case measure => have := HLT.out; simp [Go.Lib.intOf]; omega
        · have hnI : ¬ (n : Int) < (T.length : Int) := by omega
          have e1 : T.take n = T := List.take_of_length_le (by omega)
          rw [e1, HXT.out]
          clear e1
          go_wp2_with (first | (go_at_call 10; refine (live16_any _).mono ?_; rintro e v3 ⟨rfl, hb⟩; have VB3 : Hid (Below W.heap.size W v3) := go_on HB.out hb; clear hb))
          go_ret
          exact ⟨rfl, VB3.out⟩
    | true =>
      cases yx with
      | false =>
        cases yz with
        | false =>
          -- no more to say
          have HXT : Hid (decide (x ∈ T) = true) := decide_eq_true (HBT.out.2 rfl)
          go_wp2_with (first | (go_at_call 21; refine (num16_any _ _).mono ?_; rintro e yn ⟨rfl, hyn⟩; subst yn))
          go_loopw [27, 28] (fun vh vn wr => ∃ n : Nat, n ≤ T.length ∧ vn = .int .i64 (n : Nat) ∧ vh = .bool (decide (x ∈ T.take n)) ∧ wr = w14) (fun _ vn _ => T.length - (Go.Lib.intOf vn).toNat)
          case atStart => exact ⟨0, Nat.zero_le _, rfl, by simp, rfl⟩
          case round =>
            obtain ⟨n, hn, rfl, rfl, hwz⟩ := hrel
            subst hwz
            by_cases hlt : n < T.length
            · have hnI : (n : Int) < (T.length : Int) := by omega
              have HLT : Hid (n < T.length) := hlt
              obtain ⟨g, o, rfl, _, hcell⟩ := HL.out.nat hlt
              obtain ⟨v, hv⟩ : ∃ v, T.getD n 0 = v := ⟨_, rfl⟩
              have hvL : T[n]? = some v := by rw [List.getElem?_eq_getElem hlt, ← hv]; simp [hlt]
              rw [hv] at hcell
              have HTK : Hid (x ∈ T.take (n + 1) ↔ x ∈ T.take n ∨ x = v) := by
                show _ ↔ _
                rw [List.take_add_one, hvL]
                simp
              clear hv hvL hlt
              by_cases hm : x ∈ T.take n
              · have HE : Hid (decide (x ∈ T.take (n + 1)) = true) := decide_eq_true (HTK.out.2 (.inl hm))
                have e0 : decide (x ∈ T.take n) = true := decide_eq_true hm
                rw [e0]
                clear hm e0
                go_wp2_with fail
                go_roundw
                case rel => exact ⟨n + 1, HLT.out, by go_num, by rw [HE.out], by trivial⟩
                case measure => have := HLT.out; simp [Go.Lib.intOf]; omega
              · have e0 : decide (x ∈ T.take n) = false := decide_eq_false hm
                rw [e0]
                by_cases hvx : v = x
                · have HE : Hid (decide (x ∈ T.take (n + 1)) = true) := decide_eq_true (HTK.out.2 (.inr hvx.symm))
                  have hvI : ((v : Int) == (x : Int)) = true := by rw [beq_iff_eq]; omega
                  clear hm hvx e0
                  go_wp2_with fail
                  go_roundw
                  case rel => exact ⟨n + 1, HLT.out, by go_num, by rw [HE.out], by trivial⟩
                  case measure => have := HLT.out; simp [Go.Lib.intOf]; omega
                · have HE : Hid (decide (x ∈ T.take (n + 1)) = false) := decide_eq_false (fun q => by
                    rcases HTK.out.1 q with q | q
                    · exact hm q
                    · exact hvx q.symm)
                  have hvI : ((v : Int) == (x : Int)) = false := by rw [beq_eq_false_iff_ne]; omega
                  clear hm hvx e0
                  go_wp2_with fail
                  go_roundw
                  case rel => exact ⟨n + 1, HLT.out, by go_num, by rw [HE.out], by trivial⟩
                  case measure => have := HLT.out; simp [Go.Lib.intOf]; omega
            · have hnI : ¬ (n : Int) < (T.length : Int) := by omega
              have e1 : T.take n = T := List.take_of_length_le (by omega)
              rw [e1, HXT.out]
              clear e1
              go_wp2_with (first | (go_at_call 10; refine (live16_any _).mono ?_; rintro e v3 ⟨rfl, hb⟩; have VB3 : Hid (Below W.heap.size W v3) := go_on HB.out hb; clear hb))
              go_ret
              exact ⟨rfl, VB3.out⟩
        | true =>
          have hxz1 := HTR.out rfl rfl
          subst hxz1
          -- no more to say
          have HXT : Hid (decide (x ∈ T) = true) := decide_eq_true (HBT.out.2 rfl)
          go_wp2_with (first | (go_at_call 21; refine (num16_any _ _).mono ?_; rintro e yn ⟨rfl, hyn⟩; subst yn))
          go_loopw [27, 28] (fun vh vn wr => ∃ n : Nat, n ≤ T.length ∧ vn = .int .i64 (n : Nat) ∧ vh = .bool (decide (x ∈ T.take n)) ∧ wr = w14) (fun _ vn _ => T.length - (Go.Lib.intOf vn).toNat)
          case atStart => exact ⟨0, Nat.zero_le _, rfl, by simp, rfl⟩
          case round =>
            obtain ⟨n, hn, rfl, rfl, hwz⟩ := hrel
            subst hwz
            by_cases hlt : n < T.length
            · have hnI : (n : Int) < (T.length : Int) := by omega
              have HLT : Hid (n < T.length) := hlt
              obtain ⟨g, o, rfl, _, hcell⟩ := HL.out.nat hlt
              obtain ⟨v, hv⟩ : ∃ v, T.getD n 0 = v := ⟨_, rfl⟩
              have hvL : T[n]? = some v := by rw [List.getElem?_eq_getElem hlt, ← hv]; simp [hlt]
              rw [hv] at hcell
              have HTK : Hid (x ∈ T.take (n + 1) ↔ x ∈ T.take n ∨ x = v) := by
                show _ ↔ _
                rw [List.take_add_one, hvL]
                simp
              clear hv hvL hlt
              by_cases hm : x ∈ T.take n
              · have HE : Hid (decide (x ∈ T.take (n + 1)) = true) := decide_eq_true (HTK.out.2 (.inl hm))
                have e0 : decide (x ∈ T.take n) = true := decide_eq_true hm
                rw [e0]
                clear hm e0
                go_wp2_with fail
                go_roundw
                case rel => exact ⟨n + 1, HLT.out, by go_num, by rw [HE.out], by trivial⟩
                case measure => have := HLT.out; simp [Go.Lib.intOf]; omega
              · have e0 : decide (x ∈ T.take n) = false := decide_eq_false hm
                rw [e0]
                by_cases hvx : v = x
                · have HE : Hid (decide (x ∈ T.take (n + 1)) = true) := decide_eq_true (HTK.out.2 (.inr hvx.symm))
                  have hvI : ((v : Int) == (x : Int)) = true := by rw [beq_iff_eq]; omega
                  clear hm hvx e0
                  go_wp2_with fail
                  go_roundw
                  case rel => exact ⟨n + 1, HLT.out, by go_num, by rw [HE.out], by trivial⟩
                  case measure => have := HLT.out; simp [Go.Lib.intOf]; omega
                · have HE : Hid (decide (x ∈ T.take (n + 1)) = false) := decide_eq_false (fun q => by
                    rcases HTK.out.1 q with q | q
                    · exact hm q
                    · exact hvx q.symm)
                  have hvI : ((v : Int) == (x : Int)) = false := by rw [beq_eq_false_iff_ne]; omega
                  clear hm hvx e0
                  go_wp2_with fail
                  go_roundw
                  case rel => exact ⟨n + 1, HLT.out, by go_num, by rw [HE.out], by trivial⟩
                  case measure => have := HLT.out; simp [Go.Lib.intOf]; omega
            · have hnI : ¬ (n : Int) < (T.length : Int) := by omega
              have e1 : T.take n = T := List.take_of_length_le (by omega)
              rw [e1, HXT.out]
              clear e1
              go_wp2_with (first | (go_at_call 10; refine (live16_any _).mono ?_; rintro e v3 ⟨rfl, hb⟩; have VB3 : Hid (Below W.heap.size W v3) := go_on HB.out hb; clear hb))
              go_ret
              exact ⟨rfl, VB3.out⟩
      | true =>
        cases yz with
        | false =>
          have hxe := HAS.out rfl rfl
          have hxyI : ((x : Int) != (y : Int)) = false := by rw [bne_eq_false_iff_eq]; omega
          clear hxe
          have HXT : Hid (decide (x ∈ T) = true) := decide_eq_true (HBT.out.2 rfl)
          go_wp2_with (first | (go_at_call 21; refine (num16_any _ _).mono ?_; rintro e yn ⟨rfl, hyn⟩; subst yn))
          go_loopw [27, 28] (fun vh vn wr => ∃ n : Nat, n ≤ T.length ∧ vn = .int .i64 (n : Nat) ∧ vh = .bool (decide (x ∈ T.take n)) ∧ wr = w14) (fun _ vn _ => T.length - (Go.Lib.intOf vn).toNat)
          case atStart => exact ⟨0, Nat.zero_le _, rfl, by simp, rfl⟩
          case round =>
            obtain ⟨n, hn, rfl, rfl, hwz⟩ := hrel
            subst hwz
            by_cases hlt : n < T.length
            · have hnI : (n : Int) < (T.length : Int) := by omega
              have HLT : Hid (n < T.length) := hlt
              obtain ⟨g, o, rfl, _, hcell⟩ := HL.out.nat hlt
              obtain ⟨v, hv⟩ : ∃ v, T.getD n 0 = v := ⟨_, rfl⟩
              have hvL : T[n]? = some v := by rw [List.getElem?_eq_getElem hlt, ← hv]; simp [hlt]
              rw [hv] at hcell
              have HTK : Hid (x ∈ T.take (n + 1) ↔ x ∈ T.take n ∨ x = v) := by
                show _ ↔ _
                rw [List.take_add_one, hvL]
                simp
              clear hv hvL hlt
              by_cases hm : x ∈ T.take n
              · have HE : Hid (decide (x ∈ T.take (n + 1)) = true) := decide_eq_true (HTK.out.2 (.inl hm))
                have e0 : decide (x ∈ T.take n) = true := decide_eq_true hm
                rw [e0]
                clear hm e0
                go_wp2_with fail
                go_roundw
                case rel => exact ⟨n + 1, HLT.out, by go_num, by rw [HE.out], by trivial⟩
                case measure => have := HLT.out; simp [Go.Lib.intOf]; omega
              · have e0 : decide (x ∈ T.take n) = false := decide_eq_false hm
                rw [e0]
                by_cases hvx : v = x
                · have HE : Hid (decide (x ∈ T.take (n + 1)) = true) := decide_eq_true (HTK.out.2 (.inr hvx.symm))
                  have hvI : ((v : Int) == (x : Int)) = true := by rw [beq_iff_eq]; omega
                  clear hm hvx e0
                  go_wp2_with fail
                  go_roundw
                  case rel => exact ⟨n + 1, HLT.out, by go_num, by rw [HE.out], by trivial⟩
                  case measure => have := HLT.out; simp [Go.Lib.intOf]; omega
                · have HE : Hid (decide (x ∈ T.take (n + 1)) = false) := decide_eq_false (fun q => by
                    rcases HTK.out.1 q with q | q
                    · exact hm q
                    · exact hvx q.symm)
                  have hvI : ((v : Int) == (x : Int)) = false := by rw [beq_eq_false_iff_ne]; omega
                  clear hm hvx e0
                  go_wp2_with fail
                  go_roundw
                  case rel => exact ⟨n + 1, HLT.out, by go_num, by rw [HE.out], by trivial⟩
                  case measure => have := HLT.out; simp [Go.Lib.intOf]; omega
            · have hnI : ¬ (n : Int) < (T.length : Int) := by omega
              have e1 : T.take n = T := List.take_of_length_le (by omega)
              rw [e1, HXT.out]
              clear e1
              go_wp2_with (first | (go_at_call 10; refine (live16_any _).mono ?_; rintro e v3 ⟨rfl, hb⟩; have VB3 : Hid (Below W.heap.size W v3) := go_on HB.out hb; clear hb))
              go_ret
              exact ⟨rfl, VB3.out⟩
        | true =>
          have hxz1 := HTR.out rfl rfl
          subst hxz1
          have hxe := HAS.out rfl rfl
          have hxyI : ((x : Int) != (y : Int)) = false := by rw [bne_eq_false_iff_eq]; omega
          clear hxe
          have HXT : Hid (decide (x ∈ T) = true) := decide_eq_true (HBT.out.2 rfl)
          go_wp2_with (first | (go_at_call 21; refine (num16_any _ _).mono ?_; rintro e yn ⟨rfl, hyn⟩; subst yn))
          go_loopw [27, 28] (fun vh vn wr => ∃ n : Nat, n ≤ T.length ∧ vn = .int .i64 (n : Nat) ∧ vh = .bool (decide (x ∈ T.take n)) ∧ wr = w14) (fun _ vn _ => T.length - (Go.Lib.intOf vn).toNat)
          case atStart => exact ⟨0, Nat.zero_le _, rfl, by simp, rfl⟩
          case round =>
            obtain ⟨n, hn, rfl, rfl, hwz⟩ := hrel
            subst hwz
            by_cases hlt : n < T.length
            · have hnI : (n : Int) < (T.length : Int) := by omega
              have HLT : Hid (n < T.length) := hlt
              obtain ⟨g, o, rfl, _, hcell⟩ := HL.out.nat hlt
              obtain ⟨v, hv⟩ : ∃ v, T.getD n 0 = v := ⟨_, rfl⟩
              have hvL : T[n]? = some v := by rw [List.getElem?_eq_getElem hlt, ← hv]; simp [hlt]
              rw [hv] at hcell
              have HTK : Hid (x ∈ T.take (n + 1) ↔ x ∈ T.take n ∨ x = v) := by
                show _ ↔ _
                rw [List.take_add_one, hvL]
                simp
              clear hv hvL hlt
              by_cases hm : x ∈ T.take n
              · have HE : Hid (decide (x ∈ T.take (n + 1)) = true) := decide_eq_true (HTK.out.2 (.inl hm))
                have e0 : decide (x ∈ T.take n) = true := decide_eq_true hm
                rw [e0]
                clear hm e0
                go_wp2_with fail
                go_roundw
                case rel => exact ⟨n + 1, HLT.out, by go_num, by rw [HE.out], by trivial⟩
                case measure => have := HLT.out; simp [Go.Lib.intOf]; omega
              · have e0 : decide (x ∈ T.take n) = false := decide_eq_false hm
                rw [e0]
                by_cases hvx : v = x
                · have HE : Hid (decide (x ∈ T.take (n + 1)) = true) := decide_eq_true (HTK.out.2 (.inr hvx.symm))
                  have hvI : ((v : Int) == (x : Int)) = true := by rw [beq_iff_eq]; omega
                  clear hm hvx e0
                  go_wp2_with fail
                  go_roundw
                  case rel => exact ⟨n + 1, HLT.out, by go_num, by rw [HE.out], by trivial⟩
                  case measure => have := HLT.out; simp [Go.Lib.intOf]; omega
                · have HE : Hid (decide (x ∈ T.take (n + 1)) = false) := decide_eq_false (fun q => by
                    rcases HTK.out.1 q with q | q
                    · exact hm q
                    · exact hvx q.symm)
                  have hvI : ((v : Int) == (x : Int)) = false := by rw [beq_eq_false_iff_ne]; omega
                  clear hm hvx e0
                  go_wp2_with fail
                  go_roundw
                  case rel => exact ⟨n + 1, HLT.out, by go_num, by rw [HE.out], by trivial⟩
                  case measure => have := HLT.out; simp [Go.Lib.intOf]; omega
            · have hnI : ¬ (n : Int) < (T.length : Int) := by omega
              have e1 : T.take n = T := List.take_of_length_le (by omega)
              rw [e1, HXT.out]
              clear e1
              go_wp2_with (first | (go_at_call 10; refine (live16_any _).mono ?_; rintro e v3 ⟨rfl, hb⟩; have VB3 : Hid (Below W.heap.size W v3) := go_on HB.out hb; clear hb))
              go_ret
              exact ⟨rfl, VB3.out⟩

/-! ### The row's step -/
theorem own : ownKnob Try.prog.godebug = none := by kernel_rfl
set_option maxRecDepth 100000 in
theorem lifted (os : Os) (started : os.Started) (H : Type) (enc : TypeId × Value → H) :
    ReturnsInHanded {} Try.checked os 8 .any (Rows.idemOrderSpec.pre6 enc Try.prog Try.f8 Rows.idemOrderRow.domain false) (Rows.idemOrderSpec.post enc Try.prog Try.f8 false true false false) := by
  refine returnsInHanded_of_change_sized (C := Try.checked) own started (by kernel_rfl) Try.func8
    (ChangeSpec.witness6 (enc := enc) (C := Try.checked) false ⟨#[], #[.agg #[.int .i64 0, .slice none 0 0, .slice none 0 0], .int .i64 0, .int .i64 0, .int .i64 0], []⟩ 8 (by kernel_rfl) (by kernel_rfl) (by kernel_rfl) (by kernel_rfl)) ?_
  intro W base args ds gs before hval0 hW hcnd hsz0 _
  have hval : ∀ (j : Nat) t v, Try.f8.params[j]? = some t → args[j]? = some v → Value.okWide Try.prog W .any base t v := hval0
  clear hval0
  have hsz : (DataW.weightsEach Try.prog (Try.f8.params.toList ++ Rows.idemOrderSpec.plain.varTypes Try.prog) (ds ++ gs)).all (· ≤ reachBytes) = true := hsz0
  clear hsz0
  have hW' := hW
  obtain ⟨p, q, hA0, hV, rfl, hfz, hnd⟩ := hW
  have hA : DataW.TrodAll enc Try.prog W 0 (fun _ => true) true Try.f8.params.toList args.toList ds p := hA0
  rw [Try.params8] at hA hval hsz
  obtain ⟨v0, vs0, d0, ds0, p0, q0, hargs, rfl, rfl, h0, r0⟩ := trodAll_cons hA
  obtain ⟨v1, vs1, d1, ds1, p1, q1, rfl, rfl, rfl, h1, r1⟩ := trodAll_cons r0
  obtain ⟨v2, vs2, d2, ds2, p2, q2, rfl, rfl, rfl, h2, r2⟩ := trodAll_cons r1
  obtain ⟨v3, vs3, d3, ds3, p3, q3, rfl, rfl, rfl, h3, r3⟩ := trodAll_cons r2
  obtain ⟨rfl, rfl, rfl⟩ := trodAll_nil r3
  obtain rfl : args = #[v0, v1, v2, v3] := by cases args; simp_all
  obtain ⟨rfl, rfl⟩ := trodVars_none hV
  obtain ⟨a0, x0, n0, w0, dk0, dn0, da0, e0, y0, z0⟩ := open_auto (hval 0 26 v0 rfl rfl) h0
  have b0 := auto_bounds hsz (j := 0) rfl (by rw [e0]; rfl) y0 z0
  have g0 : ∀ x ∈ p0, x.block < W.heap.size := fun x hx => hW'.lt x (by simp [hx])
  obtain ⟨a1, rfl, rfl, rfl, w1⟩ := open_int Try.underlying3 (hval 1 3 v1 rfl rfl) h1
  obtain ⟨a2, rfl, rfl, rfl, w2⟩ := open_int Try.underlying3 (hval 2 3 v2 rfl rfl) h2
  obtain ⟨a3, rfl, rfl, rfl, w3⟩ := open_int Try.underlying3 (hval 3 3 v3 rfl rfl) h3
  clear hA0
  refine (walk v0 a0 a1 a2 a3 W x0 n0 b0.1 b0.2 (i64_of w1) (i64_of w2) (i64_of w3)).mono fun e W' ⟨he, bel⟩ => ?_
  subst he
  exact ⟨_, rfl, _, _, _, [], _, [], hW', trodAll_mk1 (shut_bool Try.underlying4 _), (trodAll_cons_mk (Below.trod Try.laidOut (by kernel_rfl) (of_decide_eq_true (by kernel_rfl)) h0 bel g0) (trodAll_cons_mk (shut_int Try.underlying3 w1) (trodAll_cons_mk (shut_int Try.underlying3 w2) (trodAll_cons_mk (shut_int Try.underlying3 w3) trodAll_mk0)))), rfl, bel.frame _, fun h => by cases h⟩

theorem over : Rows.idemOrderRow.holds Try.pinned (OpenSpec.ofChange Rows.idemOrderSpec) :=
  OpenClaim.holds_of_wide 8 Try.f8 rfl rfl rfl rfl rfl rfl rfl ⟨rfl, rfl, rfl, rfl, rfl⟩ rfl rfl rfl rfl rfl (by kernel_rfl) Try.func8 (by kernel_rfl)
    (of_decide_eq_true (by kernel_rfl)) (by unfold Func.isWrapper; first | (rw [if_pos (by decide +kernel)]; kernel_rfl) | (rw [if_neg (by decide +kernel)]; exact ⟨rfl, rfl⟩))
    (fun os started H enc _ => lifted os started H enc)

end Go.Proofs.Ytflclnkaccbfcaa.idemOrder
namespace Go.Proofs.Ytflclnkaccbfcaa
/-- The given statement. -/
theorem idemOrder_holds : Rows.IdemOrderSaid := idemOrder.over
end Go.Proofs.Ytflclnkaccbfcaa
