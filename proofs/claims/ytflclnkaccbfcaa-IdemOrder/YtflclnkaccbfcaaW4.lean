/- E51 E52, in one text. -/
import Derived.Test.YtflclnkaccbfcaaW1
import Derived.Test.YtflclnkaccbfcaaW3
import Derived.Deep.QuietTactic
namespace Go.Proofs.Ytflclnkaccbfcaa
open Go Go.RowKit Go.Lib Go.Maps
set_option linter.unusedVariables false
attribute [-instance] List.instBEq instBEqProd

theorem num16_any (n : Int) (w : World) : Calls Try.prog 21 #[.int .i64 n] w fun e w' => e = .returned (.int .i64 n) ∧ w = w' := by
  go_enter Try.func21, Try.ntmps21
  go_wp2
  go_ret
  exact ⟨rfl, rfl⟩

theorem drew_twiceE (w : World) (q n : Nat) : (w.drewN q).drewN n = w.drewN (q + n) := by simp [World.drewN, Nat.add_assoc]

theorem drewN_belowE (w : World) (q : Nat) : Below w.heap.size w (w.drewN q) := ⟨rfl, rfl, rfl, Nat.le_refl _, fun _ _ => rfl⟩

set_option maxHeartbeats 1000000 in
set_option maxRecDepth 100000 in
theorem isame_any (a1 a2 : Option Addr) (c1 c2 : Nat) (xs : List Int) (w : World) (g1 : SR w a1 (zC xs)) (g2 : SR w a2 (zC xs)) (hm1 : xs.length ≤ 9223372036854775806) :
    Calls Try.prog 23 #[.slice a1 xs.length c1, .slice a2 xs.length c2] w fun e w' => e = .returned (.bool true) ∧ Below w.heap.size w w' := by
  have H1 : Hid (SR w a1 (zC xs)) := g1
  have H2 : Hid (SR w a2 (zC xs)) := g2
  clear g1 g2
  go_enter Try.func23, Try.ntmps23
  go_wp2_with fail
  go_loopw [5] (fun vi wr => ∃ i q : Nat, vi = .int .i64 i ∧ i ≤ xs.length ∧ wr = w.drewN q) (fun vi _ => xs.length - (Go.Lib.intOf vi).toNat)
  case atStart => exact ⟨0, 0, rfl, Nat.zero_le _, rfl⟩
  case round =>
    obtain ⟨i, q, rfl, hi, rfl⟩ := hrel
    by_cases hlt : i < xs.length
    · obtain ⟨ga, oa, rfl, _, ca⟩ := H1.out.int hlt
      obtain ⟨gb, ob, rfl, _, cb⟩ := H2.out.int hlt
      obtain ⟨x, hx⟩ : ∃ x, xs.getD i 0 = x := ⟨_, rfl⟩
      rw [hx] at ca cb
      clear hx
      go_wp2_with fail
      go_quiet (fail)
      go_wp2
      go_roundw
      case rel => exact ⟨i + 1, _, by go_num, by omega, rfl⟩
      case measure => simp [Go.Lib.intOf]; omega
    · have hiI : ¬ (i : Int) < xs.length := by omega
      go_wp2_with fail
      go_ret
      exact ⟨rfl, drewN_belowE w q⟩

set_option maxHeartbeats 1000000 in
set_option maxRecDepth 100000 in
theorem icheck_no (p : Option Addr) (a : Option Addr) (n c : Nat) (w : World) (h : NoM w (.pointer p)) : Calls Try.prog 43 #[.pointer p, .slice a n c] w fun e w' => e = .returned (.int .i64 1) ∧ w = w' := by
  have HX : Hid (NoM w (.pointer p)) := h
  clear h
  go_enter Try.func43, Try.ntmps43
  go_wp2_with fail
  refine (mlen_no _ _ HX.out).mono ?_
  rintro e w1 ⟨rfl, rfl⟩
  go_wp2_with fail
  go_ret
  exact ⟨rfl, rfl⟩

set_option maxHeartbeats 1000000 in
set_option maxRecDepth 100000 in
theorem icheckI_no (p : Option Addr) (a : Option Addr) (n c : Nat) (w : World) (h : NoM w (.pointer p)) : Calls Try.prog 57 #[.pointer p, .slice a n c] w fun e w' => e = .returned (.int .i64 1) ∧ w = w' := by
  have HX : Hid (NoM w (.pointer p)) := h
  clear h
  go_enter Try.func57, Try.ntmps57
  go_wp2_with fail
  refine (icheck_no _ _ _ _ _ HX.out).mono ?_
  rintro e w1 ⟨rfl, rfl⟩
  go_wp2_with fail
  go_ret
  exact ⟨rfl, rfl⟩

set_option maxHeartbeats 1000000 in
set_option maxRecDepth 100000 in
theorem iIdempotent_no (p : Option Addr) (w : World) (h : NoM w (.pointer p)) : Calls Try.prog 12 #[.pointer p, .int .i64 0] w fun e w' => e = .returned (.tuple #[.bool false, .int .i64 1]) ∧ Below w.heap.size w w' := by
  have HB : Hid (Below w.heap.size w (w.alloc (.cells #[.int .i64 0] 3))) := (go_on (Below.refl _ _) (below_new _ _))
  have HX : Hid (NoM (w.alloc (.cells #[.int .i64 0] 3)) (.pointer p)) := h.below HB.out
  clear h
  go_enter Try.func12, Try.ntmps12
  go_wp2_with fail
  refine (icheck_no _ _ _ _ _ HX.out).mono ?_
  rintro e w1 ⟨rfl, rfl⟩
  go_wp2_with fail
  go_ret2
  exact ⟨rfl, HB.out⟩

set_option maxHeartbeats 1000000 in
set_option maxRecDepth 100000 in
theorem iList_no (p : Option Addr) (w : World) (h : NoM w (.pointer p)) : Calls Try.prog 14 #[.pointer p] w fun e w' => e = .returned (.tuple #[.slice none 0 0, .int .i64 1]) ∧ Below w.heap.size w w' := by
  have HB : Hid (Below w.heap.size w (w.alloc (.cells #[.pointer p] 22))) := (go_on (Below.refl _ _) (below_new _ _))
  have HX : Hid (NoM (w.alloc (.cells #[.pointer p] 22)) (.pointer p)) := h.below HB.out
  clear h
  go_enter Try.func14, Try.ntmps14
  go_wp2_with fail
  refine (icheck_no _ _ _ _ _ HX.out).mono ?_
  rintro e w1 ⟨rfl, rfl⟩
  go_wp2_with fail
  go_ret2
  exact ⟨rfl, HB.out⟩

set_option maxHeartbeats 1000000 in
set_option maxRecDepth 100000 in
theorem iOmega_no (p : Option Addr) (w : World) (h : NoM w (.pointer p)) : Calls Try.prog 15 #[.pointer p, .int .i64 0] w fun e w' => e = .returned (.tuple #[.int .i64 0, .int .i64 1]) ∧ Below w.heap.size w w' := by
  have HB : Hid (Below w.heap.size w ((w.alloc (.cells #[.pointer p] 22)).alloc (.cells #[.int .i64 0] 3))) := (go_on ((go_on (Below.refl _ _) (below_new _ _))) (below_new _ _))
  have HX : Hid (NoM ((w.alloc (.cells #[.pointer p] 22)).alloc (.cells #[.int .i64 0] 3)) (.pointer p)) := h.below HB.out
  clear h
  go_enter Try.func15, Try.ntmps15
  go_wp2_with fail
  refine (icheck_no _ _ _ _ _ HX.out).mono ?_
  rintro e w1 ⟨rfl, rfl⟩
  go_wp2_with fail
  go_ret2
  exact ⟨rfl, HB.out⟩

set_option maxHeartbeats 1000000 in
set_option maxRecDepth 100000 in
theorem iCycle_no (p : Option Addr) (w : World) (h : NoM w (.pointer p)) : Calls Try.prog 17 #[.pointer p, .int .i64 0] w fun e w' => e = .returned (.tuple #[.int .i64 0, .int .i64 0, .int .i64 1]) ∧ Below w.heap.size w w' := by
  have HB : Hid (Below w.heap.size w (w.alloc (.cells #[.int .i64 0] 3))) := (go_on (Below.refl _ _) (below_new _ _))
  have HX : Hid (NoM (w.alloc (.cells #[.int .i64 0] 3)) (.pointer p)) := h.below HB.out
  clear h
  go_enter Try.func17, Try.ntmps17
  go_wp2_with fail
  refine (icheck_no _ _ _ _ _ HX.out).mono ?_
  rintro e w1 ⟨rfl, rfl⟩
  go_wp2_with fail
  go_ret3
  exact ⟨rfl, HB.out⟩

set_option maxHeartbeats 1000000 in
set_option maxRecDepth 100000 in
theorem iExponent_no (p : Option Addr) (w : World) (h : NoM w (.pointer p)) : Calls Try.prog 19 #[.pointer p] w fun e w' => e = .returned (.tuple #[.int .i64 0, .int .i64 1]) ∧ Below w.heap.size w w' := by
  have HB : Hid (Below w.heap.size w w) := Below.refl _ _
  have HX : Hid (NoM w (.pointer p)) := h.below HB.out
  clear h
  go_enter Try.func19, Try.ntmps19
  go_wp2_with fail
  refine (icheck_no _ _ _ _ _ HX.out).mono ?_
  rintro e w1 ⟨rfl, rfl⟩
  go_wp2_with fail
  go_ret2
  exact ⟨rfl, HB.out⟩

set_option maxHeartbeats 1000000 in
set_option maxRecDepth 100000 in
theorem iRegular_no (p : Option Addr) (w : World) (h : NoM w (.pointer p)) : Calls Try.prog 25 #[.pointer p, .int .i64 0] w fun e w' => e = .returned (.tuple #[.bool false, .int .i64 1]) ∧ Below w.heap.size w w' := by
  have HB : Hid (Below w.heap.size w (w.alloc (.cells #[.int .i64 0] 3))) := (go_on (Below.refl _ _) (below_new _ _))
  have HX : Hid (NoM (w.alloc (.cells #[.int .i64 0] 3)) (.pointer p)) := h.below HB.out
  clear h
  go_enter Try.func25, Try.ntmps25
  go_wp2_with fail
  refine (icheck_no _ _ _ _ _ HX.out).mono ?_
  rintro e w1 ⟨rfl, rfl⟩
  go_wp2_with fail
  go_ret2
  exact ⟨rfl, HB.out⟩

set_option maxHeartbeats 1000000 in
set_option maxRecDepth 100000 in
theorem iInverses_no (p : Option Addr) (w : World) (h : NoM w (.pointer p)) : Calls Try.prog 27 #[.pointer p, .int .i64 0] w fun e w' => e = .returned (.tuple #[.slice none 0 0, .int .i64 1]) ∧ Below w.heap.size w w' := by
  have HB : Hid (Below w.heap.size w (((w.alloc (.cells #[.pointer p] 22)).alloc (.cells #[.int .i64 0] 3)).alloc (.cells #[.int .i64 0] 3))) := (go_on ((go_on ((go_on (Below.refl _ _) (below_new _ _))) (below_new _ _))) (below_new _ _))
  have HX : Hid (NoM (((w.alloc (.cells #[.pointer p] 22)).alloc (.cells #[.int .i64 0] 3)).alloc (.cells #[.int .i64 0] 3)) (.pointer p)) := h.below HB.out
  clear h
  go_enter Try.func27, Try.ntmps27
  go_wp2_with fail
  refine (icheck_no _ _ _ _ _ HX.out).mono ?_
  rintro e w1 ⟨rfl, rfl⟩
  go_wp2_with fail
  go_ret2
  exact ⟨rfl, HB.out⟩

set_option maxHeartbeats 1000000 in
set_option maxRecDepth 100000 in
theorem iBelow_no (p : Option Addr) (w : World) (h : NoM w (.pointer p)) : Calls Try.prog 29 #[.pointer p, .int .i64 0, .int .i64 0] w fun e w' => e = .returned (.tuple #[.bool false, .int .i64 1]) ∧ Below w.heap.size w w' := by
  have HB : Hid (Below w.heap.size w (w.alloc (.cells #[.int .i64 0, .int .i64 0] 3))) := (go_on (Below.refl _ _) (below_new _ _))
  have HX : Hid (NoM (w.alloc (.cells #[.int .i64 0, .int .i64 0] 3)) (.pointer p)) := h.below HB.out
  clear h
  go_enter Try.func29, Try.ntmps29
  go_wp2_with fail
  refine (icheckI_no _ _ _ _ _ HX.out).mono ?_
  rintro e w1 ⟨rfl, rfl⟩
  go_wp2_with fail
  go_ret2
  exact ⟨rfl, HB.out⟩

set_option maxHeartbeats 1000000 in
set_option maxRecDepth 100000 in
theorem iBetween_no (p : Option Addr) (w : World) (h : NoM w (.pointer p)) : Calls Try.prog 31 #[.pointer p, .int .i64 0] w fun e w' => e = .returned (.tuple #[.slice none 0 0, .int .i64 1]) ∧ Below w.heap.size w w' := by
  have HB : Hid (Below w.heap.size w (((w.alloc (.cells #[.pointer p] 22)).alloc (.cells #[.int .i64 0] 3)).alloc (.cells #[.int .i64 0] 3))) := (go_on ((go_on ((go_on (Below.refl _ _) (below_new _ _))) (below_new _ _))) (below_new _ _))
  have HX : Hid (NoM (((w.alloc (.cells #[.pointer p] 22)).alloc (.cells #[.int .i64 0] 3)).alloc (.cells #[.int .i64 0] 3)) (.pointer p)) := h.below HB.out
  clear h
  go_enter Try.func31, Try.ntmps31
  go_wp2_with fail
  refine (icheckI_no _ _ _ _ _ HX.out).mono ?_
  rintro e w1 ⟨rfl, rfl⟩
  go_wp2_with fail
  go_ret2
  exact ⟨rfl, HB.out⟩

end Go.Proofs.Ytflclnkaccbfcaa

namespace Go.Proofs.Ytflclnkaccbfcaa
open Go Go.RowKit Go.Lib Go.Maps
set_option linter.unusedVariables false
attribute [-instance] List.instBEq instBEqProd

theorem pA_list : thL 6 (idE 2 pN) = [0, 3, 4, 5] := by decide +kernel

theorem pA_om {x : Nat} (h : OmQ 2 pN 1 x) : x = 3 := by
  have hm : Mon pA pM pN := mon_of pA_good (by decide) pA_el
  have h3 : OmQ pA.k.toNat pN 1 3 := ⟨2, by decide, by decide +kernel, by decide +kernel⟩
  exact hm.om_uniq (by decide) h h3

set_option maxHeartbeats 2000000 in
set_option maxRecDepth 100000 in
theorem live16_any (w : World) : Calls Try.prog 10 #[] w fun e w' => e = .returned (.bool true) ∧ Below w.heap.size w w' := by
  go_enter Try.func10, Try.ntmps10
  go_wp2_with fail
  refine (plain_any w).mono ?_
  rintro e w1 ⟨v, rfl, hAR, hB1⟩
  have HB1 : Hid (Below w.heap.size w w1) := hB1
  have HAR : Hid (AR w1 v pA) := hAR
  clear hB1 hAR
  go_wp2_with fail
  refine (build_any v pA w1 HAR.out pA_good (by decide)).mono ?_
  rintro e w2 (⟨hno, _⟩ | ⟨ob, M, N, rfl, hE, hMO, hB2⟩)
  · rw [pA_el] at hno
    cases hno
  rw [pA_el] at hE
  simp only [Option.some.injEq, Prod.mk.injEq] at hE
  obtain ⟨rfl, rfl⟩ := hE
  have HM : Hid (MO w2 ob pA pM pN) := hMO
  have HB2 : Hid (Below w.heap.size w w2) := go_on HB1.out hB2
  clear hMO hB2
  go_wp2_with fail
  refine (iList_any HM.out).mono ?_
  rintro e w3 ⟨l, rfl, hl, hB3⟩
  have el : thL pM.length (idE pA.k.toNat pN) = [0, 3, 4, 5] := pA_list
  rw [el] at hl
  obtain ⟨la, lc, rfl⟩ := own_shape hl
  have HL : Hid (SR w3 la (zC [0, 3, 4, 5])) := by
    show SR _ _ _
    have := own_sr hl
    rw [nC_zC] at this
    exact this
  have HM3 : Hid (MO w3 ob pA pM pN) := HM.out.below hB3
  have HB3 : Hid (Below w.heap.size w w3) := go_on HB2.out hB3
  clear hB3 hl el
  go_wp2_with fail
  refine (omega_any HM3.out 1 (by decide)).mono ?_
  rintro e w4 ⟨⟨x, rfl, hx⟩, hB4⟩
  obtain rfl := pA_om hx
  have HB4 : Hid (Below w.heap.size w w4) := go_on HB3.out hB4
  have HL4 : Hid (SR w4 la (zC [0, 3, 4, 5])) := HL.out.stay hB4
  clear hB4 hx
  have HSM : Hid (Calls Try.prog 23 #[.slice la 4 lc, .slice (some ⟨w4.heap.size, 0, none⟩) 4 4] (w4.alloc (.cells #[.int .i64 0, .int .i64 3, .int .i64 4, .int .i64 5] 3)) fun e w' => e = .returned (.bool true) ∧ Below (w4.alloc (.cells #[.int .i64 0, .int .i64 3, .int .i64 4, .int .i64 5] 3)).heap.size (w4.alloc (.cells #[.int .i64 0, .int .i64 3, .int .i64 4, .int .i64 5] 3)) w') :=
    isame_any la _ lc 4 [0, 3, 4, 5] _ (HL4.out.stay (below_new _ _)) (sr_newZ w4 [0, 3, 4, 5] 3) (by decide)
  go_wp2_with (first | (go_at_call 21; refine (num16_any _ _).mono ?_; rintro e yn ⟨rfl, hyn⟩; subst yn) | (go_at_call 23; refine HSM.out.mono ?_; rintro e w5 ⟨rfl, hB5⟩; have HB5 : Hid (Below w.heap.size w w5) := go_on (go_on HB4.out (below_new _ _)) hB5; clear hB5 HSM))
  go_ret
  exact ⟨rfl, HB5.out⟩

set_option maxHeartbeats 4000000 in
set_option maxRecDepth 100000 in
theorem none16_no (p : Option Addr) (w : World) (h : NoM w (.pointer p)) : Calls Try.prog 9 #[.pointer p] w fun e w' => e = .returned (.bool true) ∧ Below w.heap.size w w' := by
  have HX0 : Hid (NoM w (.pointer p)) := h
  have HB0 : Hid (Below w.heap.size w w) := Below.refl _ _
  clear h
  go_enter Try.func9, Try.ntmps9
  go_wp2_with fail
  refine (iIdempotent_no p w HX0.out).mono ?_
  rintro e w1 ⟨rfl, hb⟩
  have HB1 : Hid (Below w.heap.size w w1) := go_on HB0.out hb
  have HX1 : Hid (NoM w1 (.pointer p)) := HX0.out.below hb
  clear hb
  go_wp2_with fail
  refine (iList_no p w1 HX1.out).mono ?_
  rintro e w2 ⟨rfl, hb⟩
  have HB2 : Hid (Below w.heap.size w w2) := go_on HB1.out hb
  have HX2 : Hid (NoM w2 (.pointer p)) := HX1.out.below hb
  clear hb
  go_wp2_with fail
  refine (iOmega_no p w2 HX2.out).mono ?_
  rintro e w3 ⟨rfl, hb⟩
  have HB3 : Hid (Below w.heap.size w w3) := go_on HB2.out hb
  have HX3 : Hid (NoM w3 (.pointer p)) := HX2.out.below hb
  clear hb
  go_wp2_with fail
  refine (iCycle_no p w3 HX3.out).mono ?_
  rintro e w4 ⟨rfl, hb⟩
  have HB4 : Hid (Below w.heap.size w w4) := go_on HB3.out hb
  have HX4 : Hid (NoM w4 (.pointer p)) := HX3.out.below hb
  clear hb
  go_wp2_with fail
  refine (iExponent_no p w4 HX4.out).mono ?_
  rintro e w5 ⟨rfl, hb⟩
  have HB5 : Hid (Below w.heap.size w w5) := go_on HB4.out hb
  have HX5 : Hid (NoM w5 (.pointer p)) := HX4.out.below hb
  clear hb
  go_wp2_with fail
  refine (iRegular_no p w5 HX5.out).mono ?_
  rintro e w6 ⟨rfl, hb⟩
  have HB6 : Hid (Below w.heap.size w w6) := go_on HB5.out hb
  have HX6 : Hid (NoM w6 (.pointer p)) := HX5.out.below hb
  clear hb
  go_wp2_with fail
  refine (iInverses_no p w6 HX6.out).mono ?_
  rintro e w7 ⟨rfl, hb⟩
  have HB7 : Hid (Below w.heap.size w w7) := go_on HB6.out hb
  have HX7 : Hid (NoM w7 (.pointer p)) := HX6.out.below hb
  clear hb
  go_wp2_with fail
  refine (iBelow_no p w7 HX7.out).mono ?_
  rintro e w8 ⟨rfl, hb⟩
  have HB8 : Hid (Below w.heap.size w w8) := go_on HB7.out hb
  have HX8 : Hid (NoM w8 (.pointer p)) := HX7.out.below hb
  clear hb
  go_wp2_with fail
  refine (iBetween_no p w8 HX8.out).mono ?_
  rintro e w9 ⟨rfl, hb⟩
  have HB9 : Hid (Below w.heap.size w w9) := go_on HB8.out hb
  have HX9 : Hid (NoM w9 (.pointer p)) := HX8.out.below hb
  clear hb
  obtain ⟨v, hv⟩ : ∃ v, v = w9.alloc (.cells #[.int .i64 1, .int .i64 1, .int .i64 1, .int .i64 1, .int .i64 1, .int .i64 1, .int .i64 1, .int .i64 1, .int .i64 1] 41) := ⟨_, rfl⟩
  have HV : Hid (v = w9.alloc (.cells #[.int .i64 1, .int .i64 1, .int .i64 1, .int .i64 1, .int .i64 1, .int .i64 1, .int .i64 1, .int .i64 1, .int .i64 1] 41)) := hv
  have HL : Hid (v.heap[w9.heap.size]? = some (.cells #[.int .i64 1, .int .i64 1, .int .i64 1, .int .i64 1, .int .i64 1, .int .i64 1, .int .i64 1, .int .i64 1, .int .i64 1] 41 (0, 0))) := by show _ = _; rw [hv]; exact heap_last _ _
  have HB : Hid (Below w.heap.size w v) := by show Below _ _ _; rw [hv]; exact go_on HB9.out (below_new _ _)
  clear hv
  go_wp2_with fail
  rw [← HV.out]
  go_loopw [23] (fun vi wr => ∃ i : Nat, vi = .int .i64 i ∧ i ≤ 9 ∧ wr = v) (fun vi _ => 9 - (Go.Lib.intOf vi).toNat)
  case atStart => exact ⟨0, rfl, by omega, rfl⟩
  case round =>
    obtain ⟨i, rfl, hi8, rfl⟩ := hrel
    by_cases hi : i < 9
    · have hiI : (i : Int) < 9 := by omega
      have hc : wr.cell? ⟨w9.heap.size, i, none⟩ = some (.int .i64 1) := by
        rw [cell_of_row _ _ _ _ _ _ HL.out]
        have : i = 0 ∨ i = 1 ∨ i = 2 ∨ i = 3 ∨ i = 4 ∨ i = 5 ∨ i = 6 ∨ i = 7 ∨ i = 8 := by omega
        rcases this with rfl | rfl | rfl | rfl | rfl | rfl | rfl | rfl | rfl <;> rfl
      go_wp2_with fail
      refine (num16_any 1 wr).mono ?_
      rintro e wq ⟨rfl, rfl⟩
      go_wp2_with fail
      go_roundw
      case rel => exact ⟨i + 1, by go_num, by omega, by trivial⟩
      case measure => simp [Go.Lib.intOf]; omega
    · have hiI : ¬ (i : Int) < 9 := by omega
      go_wp2_with fail
      go_ret
      exact ⟨rfl, HB.out⟩

end Go.Proofs.Ytflclnkaccbfcaa
