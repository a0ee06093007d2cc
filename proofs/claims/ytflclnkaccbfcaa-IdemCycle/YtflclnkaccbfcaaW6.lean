/- E51 E52 E53, in one text. -/
import Derived.Test.YtflclnkaccbfcaaW1
import Derived.Test.YtflclnkaccbfcaaW4
import Derived.Deep.QuietTactic
import Derived.Test.YtflclnkaccbfcaaW3
import Derived.Deep.RegionHeld3
namespace Go.Proofs.Ytflclnkaccbfcaa
open Go Go.RowKit Go.Lib Go.Maps
set_option linter.unusedVariables false
attribute [-instance] List.instBEq instBEqProd

theorem num16_any (n : Int) (w : World) : Calls Try.prog 21 #[.int .i64 n] w fun e w' => e = .returned (.int .i64 n) ∧ w = w' := by
  go_enter Try.func21, Try.ntmps21
  go_wp2
  go_ret
  exact ⟨rfl, rfl⟩

theorem drew_twiceE (w : World) (q n : Nat) : (w.drewN q).drewN n = w.drewN (q + n) := by simp [World.drewN, Nat.add_assoc]

theorem drewN_belowE (w : World) (q : Nat) : Below w.heap.size w (w.drewN q) := ⟨rfl, rfl, rfl, Nat.le_refl _, fun _ _ => rfl⟩

set_option maxHeartbeats 1000000 in
set_option maxRecDepth 100000 in
theorem isame_any (a1 a2 : Option Addr) (c1 c2 : Nat) (xs : List Int) (w : World) (g1 : SR w a1 (zC xs)) (g2 : SR w a2 (zC xs)) (hm1 : xs.length ≤ 9223372036854775806) :
    Calls Try.prog 23 #[.slice a1 xs.length c1, .slice a2 xs.length c2] w fun e w' => e = .returned (.bool true) ∧ Below w.heap.size w w' := by
  have H1 : Hid (SR w a1 (zC xs)) := g1
  have H2 : Hid (SR w a2 (zC xs)) := g2
  clear g1 g2
  go_enter Try.func23, Try.ntmps23
  go_wp2_with fail
  go_loopw [5] (fun vi wr => ∃ i q : Nat, vi = .int .i64 i ∧ i ≤ xs.length ∧ wr = w.drewN q) (fun vi _ => xs.length - (Go.Lib.intOf vi).toNat)
  case atStart => exact ⟨0, 0, rfl, Nat.zero_le _, rfl⟩
  case round =>
    obtain ⟨i, q, rfl, hi, rfl⟩ := hrel
    by_cases hlt : i < xs.length
    · obtain ⟨ga, oa, rfl, _, ca⟩ := H1.out.int hlt
      obtain ⟨gb, ob, rfl, _, cb⟩ := H2.out.int hlt
      obtain ⟨x, hx⟩ : ∃ x, xs.getD i 0 = x := ⟨_, rfl⟩
      rw [hx] at ca cb
      clear hx
      go_wp2_with fail
      go_quiet (fail)
      go_wp2
      go_roundw
      case rel => exact ⟨i + 1, _, by go_num, by omega, rfl⟩
      case measure => simp [Go.Lib.intOf]; omega
    · have hiI : ¬ (i : Int) < xs.length := by omega
      go_wp2_with fail
      go_ret
      exact ⟨rfl, drewN_belowE w q⟩

set_option maxHeartbeats 1000000 in
set_option maxRecDepth 100000 in
theorem icheck_no (p : Option Addr) (a : Option Addr) (n c : Nat) (w : World) (h : NoM w (.pointer p)) : Calls Try.prog 43 #[.pointer p, .slice a n c] w fun e w' => e = .returned (.int .i64 1) ∧ w = w' := by
  have HX : Hid (NoM w (.pointer p)) := h
  clear h
  go_enter Try.func43, Try.ntmps43
  go_wp2_with fail
  refine (mlen_no _ _ HX.out).mono ?_
  rintro e w1 ⟨rfl, rfl⟩
  go_wp2_with fail
  go_ret
  exact ⟨rfl, rfl⟩

set_option maxHeartbeats 1000000 in
set_option maxRecDepth 100000 in
theorem icheckI_no (p : Option Addr) (a : Option Addr) (n c : Nat) (w : World) (h : NoM w (.pointer p)) : Calls Try.prog 57 #[.pointer p, .slice a n c] w fun e w' => e = .returned (.int .i64 1) ∧ w = w' := by
  have HX : Hid (NoM w (.pointer p)) := h
  clear h
  go_enter Try.func57, Try.ntmps57
  go_wp2_with fail
  refine (icheck_no _ _ _ _ _ HX.out).mono ?_
  rintro e w1 ⟨rfl, rfl⟩
  go_wp2_with fail
  go_ret
  exact ⟨rfl, rfl⟩

set_option maxHeartbeats 1000000 in
set_option maxRecDepth 100000 in
theorem iIdempotent_no (p : Option Addr) (w : World) (h : NoM w (.pointer p)) : Calls Try.prog 12 #[.pointer p, .int .i64 0] w fun e w' => e = .returned (.tuple #[.bool false, .int .i64 1]) ∧ Below w.heap.size w w' := by
  have HB : Hid (Below w.heap.size w (w.alloc (.cells #[.int .i64 0] 3))) := (go_on (Below.refl _ _) (below_new _ _))
  have HX : Hid (NoM (w.alloc (.cells #[.int .i64 0] 3)) (.pointer p)) := h.below HB.out
  clear h
  go_enter Try.func12, Try.ntmps12
  go_wp2_with fail
  refine (icheck_no _ _ _ _ _ HX.out).mono ?_
  rintro e w1 ⟨rfl, rfl⟩
  go_wp2_with fail
  go_ret2
  exact ⟨rfl, HB.out⟩

set_option maxHeartbeats 1000000 in
set_option maxRecDepth 100000 in
theorem iList_no (p : Option Addr) (w : World) (h : NoM w (.pointer p)) : Calls Try.prog 14 #[.pointer p] w fun e w' => e = .returned (.tuple #[.slice none 0 0, .int .i64 1]) ∧ Below w.heap.size w w' := by
  have HB : Hid (Below w.heap.size w (w.alloc (.cells #[.pointer p] 22))) := (go_on (Below.refl _ _) (below_new _ _))
  have HX : Hid (NoM (w.alloc (.cells #[.pointer p] 22)) (.pointer p)) := h.below HB.out
  clear h
  go_enter Try.func14, Try.ntmps14
  go_wp2_with fail
  refine (icheck_no _ _ _ _ _ HX.out).mono ?_
  rintro e w1 ⟨rfl, rfl⟩
  go_wp2_with fail
  go_ret2
  exact ⟨rfl, HB.out⟩

set_option maxHeartbeats 1000000 in
set_option maxRecDepth 100000 in
theorem iOmega_no (p : Option Addr) (w : World) (h : NoM w (.pointer p)) : Calls Try.prog 15 #[.pointer p, .int .i64 0] w fun e w' => e = .returned (.tuple #[.int .i64 0, .int .i64 1]) ∧ Below w.heap.size w w' := by
  have HB : Hid (Below w.heap.size w ((w.alloc (.cells #[.pointer p] 22)).alloc (.cells #[.int .i64 0] 3))) := (go_on ((go_on (Below.refl _ _) (below_new _ _))) (below_new _ _))
  have HX : Hid (NoM ((w.alloc (.cells #[.pointer p] 22)).alloc (.cells #[.int .i64 0] 3)) (.pointer p)) := h.below HB.out
  clear h
  go_enter Try.func15, Try.ntmps15
  go_wp2_with fail
  refine (icheck_no _ _ _ _ _ HX.out).mono ?_
  rintro e w1 ⟨rfl, rfl⟩
  go_wp2_with fail
  go_ret2
  exact ⟨rfl, HB.out⟩

set_option maxHeartbeats 1000000 in
set_option maxRecDepth 100000 in
theorem iCycle_no (p : Option Addr) (w : World) (h : NoM w (.pointer p)) : Calls Try.prog 17 #[.pointer p, .int .i64 0] w fun e w' => e = .returned (.tuple #[.int .i64 0, .int .i64 0, .int .i64 1]) ∧ Below w.heap.size w w' := by
  have HB : Hid (Below w.heap.size w (w.alloc (.cells #[.int .i64 0] 3))) := (go_on (Below.refl _ _) (below_new _ _))
  have HX : Hid (NoM (w.alloc (.cells #[.int .i64 0] 3)) (.pointer p)) := h.below HB.out
  clear h
  go_enter Try.func17, Try.ntmps17
  go_wp2_with fail
  refine (icheck_no _ _ _ _ _ HX.out).mono ?_
  rintro e w1 ⟨rfl, rfl⟩
  go_wp2_with fail
  go_ret3
  exact ⟨rfl, HB.out⟩

set_option maxHeartbeats 1000000 in
set_option maxRecDepth 100000 in
theorem iExponent_no (p : Option Addr) (w : World) (h : NoM w (.pointer p)) : Calls Try.prog 19 #[.pointer p] w fun e w' => e = .returned (.tuple #[.int .i64 0, .int .i64 1]) ∧ Below w.heap.size w w' := by
  have HB : Hid (Below w.heap.size w w) := Below.refl _ _
  have HX : Hid (NoM w (.pointer p)) := h.below HB.out
  clear h
  go_enter Try.func19, Try.ntmps19
  go_wp2_with fail
  refine (icheck_no _ _ _ _ _ HX.out).mono ?_
  rintro e w1 ⟨rfl, rfl⟩
  go_wp2_with fail
  go_ret2
  exact ⟨rfl, HB.out⟩

set_option maxHeartbeats 1000000 in
set_option maxRecDepth 100000 in
theorem iRegular_no (p : Option Addr) (w : World) (h : NoM w (.pointer p)) : Calls Try.prog 25 #[.pointer p, .int .i64 0] w fun e w' => e = .returned (.tuple #[.bool false, .int .i64 1]) ∧ Below w.heap.size w w' := by
  have HB : Hid (Below w.heap.size w (w.alloc (.cells #[.int .i64 0] 3))) := (go_on (Below.refl _ _) (below_new _ _))
  have HX : Hid (NoM (w.alloc (.cells #[.int .i64 0] 3)) (.pointer p)) := h.below HB.out
  clear h
  go_enter Try.func25, Try.ntmps25
  go_wp2_with fail
  refine (icheck_no _ _ _ _ _ HX.out).mono ?_
  rintro e w1 ⟨rfl, rfl⟩
  go_wp2_with fail
  go_ret2
  exact ⟨rfl, HB.out⟩

set_option maxHeartbeats 1000000 in
set_option maxRecDepth 100000 in
theorem iInverses_no (p : Option Addr) (w : World) (h : NoM w (.pointer p)) : Calls Try.prog 27 #[.pointer p, .int .i64 0] w fun e w' => e = .returned (.tuple #[.slice none 0 0, .int .i64 1]) ∧ Below w.heap.size w w' := by
  have HB : Hid (Below w.heap.size w (((w.alloc (.cells #[.pointer p] 22)).alloc (.cells #[.int .i64 0] 3)).alloc (.cells #[.int .i64 0] 3))) := (go_on ((go_on ((go_on (Below.refl _ _) (below_new _ _))) (below_new _ _))) (below_new _ _))
  have HX : Hid (NoM (((w.alloc (.cells #[.pointer p] 22)).alloc (.cells #[.int .i64 0] 3)).alloc (.cells #[.int .i64 0] 3)) (.pointer p)) := h.below HB.out
  clear h
  go_enter Try.func27, Try.ntmps27
  go_wp2_with fail
  refine (icheck_no _ _ _ _ _ HX.out).mono ?_
  rintro e w1 ⟨rfl, rfl⟩
  go_wp2_with fail
  go_ret2
  exact ⟨rfl, HB.out⟩

set_option maxHeartbeats 1000000 in
set_option maxRecDepth 100000 in
theorem iBelow_no (p : Option Addr) (w : World) (h : NoM w (.pointer p)) : Calls Try.prog 29 #[.pointer p, .int .i64 0, .int .i64 0] w fun e w' => e = .returned (.tuple #[.bool false, .int .i64 1]) ∧ Below w.heap.size w w' := by
  have HB : Hid (Below w.heap.size w (w.alloc (.cells #[.int .i64 0, .int .i64 0] 3))) := (go_on (Below.refl _ _) (below_new _ _))
  have HX : Hid (NoM (w.alloc (.cells #[.int .i64 0, .int .i64 0] 3)) (.pointer p)) := h.below HB.out
  clear h
  go_enter Try.func29, Try.ntmps29
  go_wp2_with fail
  refine (icheckI_no _ _ _ _ _ HX.out).mono ?_
  rintro e w1 ⟨rfl, rfl⟩
  go_wp2_with fail
  go_ret2
  exact ⟨rfl, HB.out⟩

set_option maxHeartbeats 1000000 in
set_option maxRecDepth 100000 in
theorem iBetween_no (p : Option Addr) (w : World) (h : NoM w (.pointer p)) : Calls Try.prog 31 #[.pointer p, .int .i64 0] w fun e w' => e = .returned (.tuple #[.slice none 0 0, .int .i64 1]) ∧ Below w.heap.size w w' := by
  have HB : Hid (Below w.heap.size w (((w.alloc (.cells #[.pointer p] 22)).alloc (.cells #[.int .i64 0] 3)).alloc (.cells #[.int .i64 0] 3))) := (go_on ((go_on ((go_on (Below.refl _ _) (below_new _ _))) (below_new _ _))) (below_new _ _))
  have HX : Hid (NoM (((w.alloc (.cells #[.pointer p] 22)).alloc (.cells #[.int .i64 0] 3)).alloc (.cells #[.int .i64 0] 3)) (.pointer p)) := h.below HB.out
  clear h
  go_enter Try.func31, Try.ntmps31
  go_wp2_with fail
  refine (icheckI_no _ _ _ _ _ HX.out).mono ?_
  rintro e w1 ⟨rfl, rfl⟩
  go_wp2_with fail
  go_ret2
  exact ⟨rfl, HB.out⟩

end Go.Proofs.Ytflclnkaccbfcaa

namespace Go.Proofs.Ytflclnkaccbfcaa
open Go Go.RowKit Go.Lib Go.Maps
set_option linter.unusedVariables false
attribute [-instance] List.instBEq instBEqProd

theorem pA_list : thL 6 (idE 2 pN) = [0, 3, 4, 5] := by decide +kernel

theorem pA_om {x : Nat} (h : OmQ 2 pN 1 x) : x = 3 := by
  have hm : Mon pA pM pN := mon_of pA_good (by decide) pA_el
  have h3 : OmQ pA.k.toNat pN 1 3 := ⟨2, by decide, by decide +kernel, by decide +kernel⟩
  exact hm.om_uniq (by decide) h h3

set_option maxHeartbeats 2000000 in
set_option maxRecDepth 100000 in
theorem live16_any (w : World) : Calls Try.prog 10 #[] w fun e w' => e = .returned (.bool true) ∧ Below w.heap.size w w' := by
  go_enter Try.func10, Try.ntmps10
  go_wp2_with fail
  refine (plain_any w).mono ?_
  rintro e w1 ⟨v, rfl, hAR, hB1⟩
  have HB1 : Hid (Below w.heap.size w w1) := hB1
  have HAR : Hid (AR w1 v pA) := hAR
  clear hB1 hAR
  go_wp2_with fail
  refine (build_any v pA w1 HAR.out pA_good (by decide)).mono ?_
  rintro e w2 (⟨hno, _⟩ | ⟨ob, M, N, rfl, hE, hMO, hB2⟩)
  · rw [pA_el] at hno
    cases hno
  rw [pA_el] at hE
  simp only [Option.some.injEq, Prod.mk.injEq] at hE
  obtain ⟨rfl, rfl⟩ := hE
  have HM : Hid (MO w2 ob pA pM pN) := hMO
  have HB2 : Hid (Below w.heap.size w w2) := go_on HB1.out hB2
  clear hMO hB2
  go_wp2_with fail
  refine (iList_any HM.out).mono ?_
  rintro e w3 ⟨l, rfl, hl, hB3⟩
  have el : thL pM.length (idE pA.k.toNat pN) = [0, 3, 4, 5] := pA_list
  rw [el] at hl
  obtain ⟨la, lc, rfl⟩ := own_shape hl
  have HL : Hid (SR w3 la (zC [0, 3, 4, 5])) := by
    show SR _ _ _
    have := own_sr hl
    rw [nC_zC] at this
    exact this
  have HM3 : Hid (MO w3 ob pA pM pN) := HM.out.below hB3
  have HB3 : Hid (Below w.heap.size w w3) := go_on HB2.out hB3
  clear hB3 hl el
  go_wp2_with fail
  refine (omega_any HM3.out 1 (by decide)).mono ?_
  rintro e w4 ⟨⟨x, rfl, hx⟩, hB4⟩
  obtain rfl := pA_om hx
  have HB4 : Hid (Below w.heap.size w w4) := go_on HB3.out hB4
  have HL4 : Hid (SR w4 la (zC [0, 3, 4, 5])) := HL.out.stay hB4
  clear hB4 hx
  have HSM : Hid (Calls Try.prog 23 #[.slice la 4 lc, .slice (some ⟨w4.heap.size, 0, none⟩) 4 4] (w4.alloc (.cells #[.int .i64 0, .int .i64 3, .int .i64 4, .int .i64 5] 3)) fun e w' => e = .returned (.bool true) ∧ Below (w4.alloc (.cells #[.int .i64 0, .int .i64 3, .int .i64 4, .int .i64 5] 3)).heap.size (w4.alloc (.cells #[.int .i64 0, .int .i64 3, .int .i64 4, .int .i64 5] 3)) w') :=
    isame_any la _ lc 4 [0, 3, 4, 5] _ (HL4.out.stay (below_new _ _)) (sr_newZ w4 [0, 3, 4, 5] 3) (by decide)
  go_wp2_with (first | (go_at_call 21; refine (num16_any _ _).mono ?_; rintro e yn ⟨rfl, hyn⟩; subst yn) | (go_at_call 23; refine HSM.out.mono ?_; rintro e w5 ⟨rfl, hB5⟩; have HB5 : Hid (Below w.heap.size w w5) := go_on (go_on HB4.out (below_new _ _)) hB5; clear hB5 HSM))
  go_ret
  exact ⟨rfl, HB5.out⟩

set_option maxHeartbeats 4000000 in
set_option maxRecDepth 100000 in
theorem none16_no (p : Option Addr) (w : World) (h : NoM w (.pointer p)) : Calls Try.prog 9 #[.pointer p] w fun e w' => e = .returned (.bool true) ∧ Below w.heap.size w w' := by
  have HX0 : Hid (NoM w (.pointer p)) := h
  have HB0 : Hid (Below w.heap.size w w) := Below.refl _ _
  clear h
  go_enter Try.func9, Try.ntmps9
  go_wp2_with fail
  refine (iIdempotent_no p w HX0.out).mono ?_
  rintro e w1 ⟨rfl, hb⟩
  have HB1 : Hid (Below w.heap.size w w1) := go_on HB0.out hb
  have HX1 : Hid (NoM w1 (.pointer p)) := HX0.out.below hb
  clear hb
  go_wp2_with fail
  refine (iList_no p w1 HX1.out).mono ?_
  rintro e w2 ⟨rfl, hb⟩
  have HB2 : Hid (Below w.heap.size w w2) := go_on HB1.out hb
  have HX2 : Hid (NoM w2 (.pointer p)) := HX1.out.below hb
  clear hb
  go_wp2_with fail
  refine (iOmega_no p w2 HX2.out).mono ?_
  rintro e w3 ⟨rfl, hb⟩
  have HB3 : Hid (Below w.heap.size w w3) := go_on HB2.out hb
  have HX3 : Hid (NoM w3 (.pointer p)) := HX2.out.below hb
  clear hb
  go_wp2_with fail
  refine (iCycle_no p w3 HX3.out).mono ?_
  rintro e w4 ⟨rfl, hb⟩
  have HB4 : Hid (Below w.heap.size w w4) := go_on HB3.out hb
  have HX4 : Hid (NoM w4 (.pointer p)) := HX3.out.below hb
  clear hb
  go_wp2_with fail
  refine (iExponent_no p w4 HX4.out).mono ?_
  rintro e w5 ⟨rfl, hb⟩
  have HB5 : Hid (Below w.heap.size w w5) := go_on HB4.out hb
  have HX5 : Hid (NoM w5 (.pointer p)) := HX4.out.below hb
  clear hb
  go_wp2_with fail
  refine (iRegular_no p w5 HX5.out).mono ?_
  rintro e w6 ⟨rfl, hb⟩
  have HB6 : Hid (Below w.heap.size w w6) := go_on HB5.out hb
  have HX6 : Hid (NoM w6 (.pointer p)) := HX5.out.below hb
  clear hb
  go_wp2_with fail
  refine (iInverses_no p w6 HX6.out).mono ?_
  rintro e w7 ⟨rfl, hb⟩
  have HB7 : Hid (Below w.heap.size w w7) := go_on HB6.out hb
  have HX7 : Hid (NoM w7 (.pointer p)) := HX6.out.below hb
  clear hb
  go_wp2_with fail
  refine (iBelow_no p w7 HX7.out).mono ?_
  rintro e w8 ⟨rfl, hb⟩
  have HB8 : Hid (Below w.heap.size w w8) := go_on HB7.out hb
  have HX8 : Hid (NoM w8 (.pointer p)) := HX7.out.below hb
  clear hb
  go_wp2_with fail
  refine (iBetween_no p w8 HX8.out).mono ?_
  rintro e w9 ⟨rfl, hb⟩
  have HB9 : Hid (Below w.heap.size w w9) := go_on HB8.out hb
  have HX9 : Hid (NoM w9 (.pointer p)) := HX8.out.below hb
  clear hb
  obtain ⟨v, hv⟩ : ∃ v, v = w9.alloc (.cells #[.int .i64 1, .int .i64 1, .int .i64 1, .int .i64 1, .int .i64 1, .int .i64 1, .int .i64 1, .int .i64 1, .int .i64 1] 41) := ⟨_, rfl⟩
  have HV : Hid (v = w9.alloc (.cells #[.int .i64 1, .int .i64 1, .int .i64 1, .int .i64 1, .int .i64 1, .int .i64 1, .int .i64 1, .int .i64 1, .int .i64 1] 41)) := hv
  have HL : Hid (v.heap[w9.heap.size]? = some (.cells #[.int .i64 1, .int .i64 1, .int .i64 1, .int .i64 1, .int .i64 1, .int .i64 1, .int .i64 1, .int .i64 1, .int .i64 1] 41 (0, 0))) := by show _ = _; rw [hv]; exact heap_last _ _
  have HB : Hid (Below w.heap.size w v) := by show Below _ _ _; rw [hv]; exact go_on HB9.out (below_new _ _)
  clear hv
  go_wp2_with fail
  rw [← HV.out]
  go_loopw [23] (fun vi wr => ∃ i : Nat, vi = .int .i64 i ∧ i ≤ 9 ∧ wr = v) (fun vi _ => 9 - (Go.Lib.intOf vi).toNat)
  case atStart => exact ⟨0, rfl, by omega, rfl⟩
  case round =>
    obtain ⟨i, rfl, hi8, rfl⟩ := hrel
    by_cases hi : i < 9
    · have hiI : (i : Int) < 9 := by omega
      have hc : wr.cell? ⟨w9.heap.size, i, none⟩ = some (.int .i64 1) := by
        rw [cell_of_row _ _ _ _ _ _ HL.out]
        have : i = 0 ∨ i = 1 ∨ i = 2 ∨ i = 3 ∨ i = 4 ∨ i = 5 ∨ i = 6 ∨ i = 7 ∨ i = 8 := by omega
        rcases this with rfl | rfl | rfl | rfl | rfl | rfl | rfl | rfl | rfl <;> rfl
      go_wp2_with fail
      refine (num16_any 1 wr).mono ?_
      rintro e wq ⟨rfl, rfl⟩
      go_wp2_with fail
      go_roundw
      case rel => exact ⟨i + 1, by go_num, by omega, by trivial⟩
      case measure => simp [Go.Lib.intOf]; omega
    · have hiI : ¬ (i : Int) < 9 := by omega
      go_wp2_with fail
      go_ret
      exact ⟨rfl, HB.out⟩

end Go.Proofs.Ytflclnkaccbfcaa

namespace Go.Proofs.Ytflclnkaccbfcaa
open Go Go.RowKit Go.Lib Go.Maps
set_option linter.unusedVariables false
attribute [-instance] List.instBEq instBEqProd

set_option maxHeartbeats 1000000 in
set_option maxRecDepth 100000 in
theorem at16_any {w : World} {ob : Nat} {A : Aut} {M : List (List Nat)} {N : List Nat} (h : MO w ob A M N) (i : Int) (hi : -9223372036854775808 ≤ i ∧ i ≤ 9223372036854775807) :
    Calls Try.prog 35 #[.pointer (some ⟨ob, 0, none⟩), .int .i64 i] w fun e w' => (∃ j : Nat, j < M.length ∧ e = .returned (.int .i64 (j : Nat))) ∧ Below w.heap.size w w' := by
  have hn1 := h.mon.pos
  have hn5 := h.mon.most
  have HM : Hid (MO w ob A M N) := h
  have HLT : Hid (∀ r : Int, 0 ≤ r → r < (M.length : Int) → ∃ j : Nat, j < M.length ∧ r = (j : Int)) := fun r h0 h1 => ⟨r.toNat, by omega, by omega⟩
  have HLN : Hid (∀ y, MO y ob A M N → Calls Try.prog 34 #[.pointer (some ⟨ob, 0, none⟩)] y fun e w' => e = .returned (.int .i64 (M.length : Nat)) ∧ y = w') := fun y hy => mlen_any hy
  obtain ⟨n, hn⟩ : ∃ n, M.length = n := ⟨_, rfl⟩
  rw [hn] at hn1 hn5 HLT HLN ⊢
  obtain ⟨r1, hr1⟩ : ∃ r1, i.tmod (n : Int) = r1 := ⟨_, rfl⟩
  have b1 : -(n : Int) < r1 ∧ r1 < (n : Int) := by
    rw [← hr1]
    have := Int.tmod_lt_of_pos i (show (0 : Int) < n by omega)
    have := Int.lt_tmod_of_pos i (show (0 : Int) < n by omega)
    exact ⟨by omega, by omega⟩
  obtain ⟨r2, hr2⟩ : ∃ r2, r1 + (n : Int) = r2 := ⟨_, rfl⟩
  obtain ⟨r3, hr3⟩ : ∃ r3, r2.tmod (n : Int) = r3 := ⟨_, rfl⟩
  have b3 : 0 ≤ r3 ∧ r3 < (n : Int) := by
    rw [← hr3]
    exact ⟨Int.tmod_nonneg _ (by omega), Int.tmod_lt_of_pos _ (by omega)⟩
  have HB3 : Hid (0 ≤ r3 ∧ r3 < (n : Int)) := b3
  have hw1 : IntKind.i64.wrap r1 = r1 := by rw [IntKind.wrap_i64]; omega
  have hw2 : IntKind.i64.wrap (r1 + (n : Int)) = r2 := by rw [IntKind.wrap_i64]; omega
  have hw3 : IntKind.i64.wrap r3 = r3 := by rw [IntKind.wrap_i64]; omega
  have hz : ¬ (n : Int) = 0 := by omega
  have hz1 : ((n : Int) == 0) = false := by rw [beq_eq_false_iff_ne]; omega
  have hz2 : ¬ n = 0 := by omega
  have hz3 : decide (n = 0) = false := decide_eq_false hz2
  have S0 : MO w.drew ob A M N := h.below (Below.refl _ _).drew
  clear h hn hr2 b1 b3 hi hn1 hn5
  go_enter Try.func35, Try.ntmps35
  go_wp2_with fail
  go_region_held3 (fun y => MO y ob A M N) (first | assumption | exact S0) (first
    | (go_at_call 34; refine (HLN.out _ (by assumption)).mono ?_; rintro e y1 ⟨rfl, rfl⟩))
  clear S0
  go_wp2_with fail
  go_ret
  obtain ⟨j, hj, rfl⟩ := HLT.out r3 HB3.out.1 HB3.out.2
  exact ⟨⟨j, hj, rfl⟩, (Below.refl _ _).drew⟩

set_option maxHeartbeats 1000000 in
set_option maxRecDepth 100000 in
theorem times16_any {w : World} {ob : Nat} {A : Aut} {M : List (List Nat)} {N : List Nat} (h : MO w ob A M N) (i j : Nat) (hi : i < M.length) (hj : j < M.length) :
    Calls Try.prog 36 #[.pointer (some ⟨ob, 0, none⟩), .int .i64 i, .int .i64 j] w fun e w' => e = .returned (.int .i64 (pr A.k.toNat N i j : Nat)) ∧ Below w.heap.size w w' := by
  have HP : Hid _ := mproduct_ok h i j hi hj
  clear h
  go_enter Try.func36, Try.ntmps36
  go_wp2_with fail
  refine Calls.mono HP.out ?_
  rintro e w1 ⟨rfl, hb⟩
  have HB : Hid (Below w.heap.size w w1) := hb
  clear hb
  go_wp2_with fail
  go_ret
  exact ⟨rfl, HB.out⟩

/-- An int's numbers. -/
def I64 (x : Int) : Prop := -9223372036854775808 ≤ x ∧ x ≤ 9223372036854775807

theorem i64_of {n : Int} (h : (Lit.int .i64 n).wf = true) : I64 n := by
  simp [Lit.wf, IntKind.min, IntKind.max, IntKind.signed, IntKind.bits] at h
  exact ⟨by omega, by omega⟩

theorem eq_Mnil (a : Addr) (w : World) : (binOp .eql 22 (.pointer (some a)) (.pointer none)).run Try.prog w = .ok (.bool false) w := by
  simp only [binOp]
  simp only [Op.equal, Op.maxDepth]
  rw [show (10000 : Nat) = 9999 + 1 from rfl, Op.equalIn]
  simp [Sem.run_bind, run_underlying Try.underlying22]

/-- Among the first powers up to the circle's end just one is idempotent: omega. -/
theorem Mon.cyc_one {A : Aut} {M : List (List Nat)} {N : List Nat} (h : Mon A M N) {i : Nat} (hi : i < M.length) {t r x : Nat} (R : TR (rm A.k.toNat N i) 0 t r) (hx : OmQ A.k.toNat N i x) :
    ∃ c, c < t + r ∧ pwN A.k.toNat N i c = x ∧ ∀ k, k < t + r → (((0 < k ∨ t = 0) ∧ Go.Proofs.Ytflclnkaccbfcaa.pr A.k.toNat N (pwN A.k.toNat N i k) (pwN A.k.toNat N i k) = pwN A.k.toNat N i k) ↔ k = c) := by
  have hr := R.pos
  by_cases ht : t = 0
  · subst ht
    refine ⟨0, by omega, ?_, fun k hk => ⟨fun hc => ?_, fun hc => ?_⟩⟩
    · refine h.om_uniq hi ⟨r, hr, ?_, ?_⟩ hx
      · have := R.back
        rw [Nat.zero_add] at this
        exact this
      · exact h.one_pr h.pos
    · by_cases k0 : k = 0
      · exact k0
      · have := (h.idem_iff hi R k (by omega)).1 hc.2
        have := Nat.le_of_dvd (by omega) this.2
        omega
    · subst hc
      exact ⟨.inr rfl, h.one_pr h.pos⟩
  · have e := Nat.mod_add_div (t + r - 1) r
    have hm := Nat.mod_lt (t + r - 1) hr
    refine ⟨r * ((t + r - 1) / r), by omega, ?_, fun k hk => ⟨fun hc => ?_, fun hc => ?_⟩⟩
    · exact h.om_uniq hi ⟨_, by omega, rfl, (h.idem_iff hi R _ (by omega)).2 ⟨by omega, Nat.dvd_mul_right _ _⟩⟩ hx
    · have hk0 : 0 < k := by omega
      obtain ⟨k1, d, rfl⟩ := (h.idem_iff hi R k (by omega)).1 hc.2
      congr 1
      rcases Nat.lt_trichotomy d ((t + r - 1) / r) with q | q | q
      · have := Nat.mul_le_mul_left r (show d + 1 ≤ (t + r - 1) / r from q)
        rw [Nat.mul_add] at this
        omega
      · exact q
      · have := Nat.mul_le_mul_left r (show (t + r - 1) / r + 1 ≤ d from q)
        rw [Nat.mul_add] at this
        omega
    · subst hc
      exact ⟨.inl (by omega), (h.idem_iff hi R _ (by omega)).2 ⟨by omega, Nat.dvd_mul_right _ _⟩⟩

/-- The exponent's power is omega. -/
theorem Mon.ex_om {A : Aut} {M : List (List Nat)} {N : List Nat} (h : Mon A M N) {i : Nat} (hi : i < M.length) {t r x E : Nat} (R : TR (rm A.k.toNat N i) 0 t r) (hx : OmQ A.k.toNat N i x) (h1 : 1 ≤ E) (h2 : t ≤ E) (h3 : r ∣ E) : pwN A.k.toNat N i E = x :=
  h.om_uniq hi ⟨E, h1, rfl, (h.idem_iff hi R E h1).2 ⟨h2, h3⟩⟩ hx
end Go.Proofs.Ytflclnkaccbfcaa
