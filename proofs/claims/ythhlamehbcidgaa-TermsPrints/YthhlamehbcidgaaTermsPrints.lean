/- Proved: eggboxlaw19.TermsPrints answers true (P19.2, P19.4, P19.5): Check, Print, Vars and Turn answer what the document's own answer, of any identity; what is handed in stays, and what Turn tells is the caller's own -/
import Derived.Test.YthhlamehbcidgaaY16
import Derived.Test.YthhlamehbcidgaaY48
import Derived.ChangeMaps5
namespace Go.Proofs.Ythhlamehbcidgaa.termsPrints
open Go Go.ChangeShapes Go.WideShapes Go.ChangeAt Go.RowKit Go.Lib
open Go.ChangeMaps (open_string shut_string)
set_option linter.unusedVariables false
set_option linter.unusedSimpArgs false

theorem Try.laidOut : laidOutB Try.prog = true := by kernel_rfl
theorem pn_form (L R : List (Int × Nat)) (x : Bool) : ∃ t er, pnV L R x = .tuple #[.string t, .int .i64 er] := by
  unfold pnV
  split
  · unfold prV
    split
    · exact ⟨_, _, rfl⟩
    · exact ⟨_, _, rfl⟩
  · exact ⟨_, _, rfl⟩
theorem va_form (L R : List (Int × Nat)) : ∃ t er, vaV L R = .tuple #[.string t, .int .i64 er] := by
  unfold vaV
  split
  · exact ⟨_, _, rfl⟩
  · exact ⟨_, _, rfl⟩
open Classical in
noncomputable def tnS (L R K : List (Int × Nat)) : Sg := if ck2 L R = 0 then (tmOf K).turn else []
def tnB (L R : List (Int × Nat)) (x : Bool) : Bool := if ck2 L R = 0 then x else false
/-- What both Turns tell, in one. -/
def TnU (L R : List (Int × Nat)) (x : Bool) (w : World) (e : Ending) (w' : World) : Prop := ∃ ul ur, e = .returned (.tuple #[.agg #[ul, ur, .bool (tnB L R x)], .int .i64 (ck2 L R)]) ∧ w'.ownsRow w.heap.size 81 2 ul (tnS L R L).length (sgC (tnS L R L)) ∧ w'.ownsRow w.heap.size 81 2 ur (tnS L R R).length (sgC (tnS L R R)) ∧ Below w.heap.size w w'
theorem tn_u {L R : List (Int × Nat)} {x : Bool} {w : World} {e : Ending} {w' : World} (h : TnQ L R x w e w') : TnU L R x w e w' := by
  obtain ⟨h | h, hb⟩ := h
  · obtain ⟨hk, ul, ur, he, h1, h2⟩ := h
    refine ⟨ul, ur, ?_, ?_, ?_, hb⟩
    · unfold tnB; rw [if_pos hk, hk]; exact he
    · unfold tnS; rw [if_pos hk]; exact h1
    · unfold tnS; rw [if_pos hk]; exact h2
  · obtain ⟨hk, he⟩ := h
    refine ⟨.slice none 0 0, .slice none 0 0, ?_, ?_, ?_, hb⟩
    · unfold tnB; rw [if_neg hk]; exact he
    · unfold tnS; rw [if_neg hk]; exact World.ownsRow_nil _ _ _ _
    · unfold tnS; rw [if_neg hk]; exact World.ownsRow_nil _ _ _ _
theorem tn_byt {L R : List (Int × Nat)} (h1 : ∀ p ∈ L, p.2 < 256) (h2 : ∀ p ∈ R, p.2 < 256) : (∀ p ∈ tnS L R L, p.2 < 256) ∧ (∀ p ∈ tnS L R R, p.2 < 256) ∧ (tnS L R L).length ≤ 400 ∧ (tnS L R R).length ≤ 400 := by
  unfold tnS
  by_cases hk : ck2 L R = 0
  · rw [if_pos hk, if_pos hk]
    obtain ⟨s1, s2, n1, n2⟩ := ck2_sides hk
    have q1 := tmOf_sg s1
    have q2 := tmOf_sg s2
    refine ⟨fun p hp => ?_, fun p hp => ?_, ?_, ?_⟩
    · have hm := turn_mem _ p hp
      have : ((p.1 : Int), p.2) ∈ L := by rw [q1]; exact List.mem_map_of_mem hm
      exact h1 _ this
    · have hm := turn_mem _ p hp
      have : ((p.1 : Int), p.2) ∈ R := by rw [q2]; exact List.mem_map_of_mem hm
      exact h2 _ this
    · rw [Tm.turn_len]; have := congrArg List.length q1; rw [intS_len] at this; omega
    · rw [Tm.turn_len]; have := congrArg List.length q2; rw [intS_len] at this; omega
  · rw [if_neg hk, if_neg hk]
    exact ⟨fun p hp => by simp at hp, fun p hp => by simp at hp, Nat.zero_le _, Nat.zero_le _⟩

set_option maxHeartbeats 16000000 in
set_option maxRecDepth 100000 in
theorem walk (vl vr : Value) (x : Bool) (L R : List (Int × Nat)) (W : World) (hl : SgC W vl L) (hr : SgC W vr R) (hnl : NoCap vl) (hnr : NoCap vr) (hL : L.length * 16 ≤ 140737488355328) (hR : R.length * 16 ≤ 140737488355328) : Calls Try.prog 4 #[.agg #[vl, vr, .bool x]] W fun e w' => e = .returned (.bool true) ∧ Below W.heap.size W w' := by
  obtain ⟨a1, c1, e1⟩ := hl.1.len
  obtain ⟨a2, c2, e2⟩ := hr.1.len
  subst e1 e2
  obtain ⟨w1, hw1⟩ : ∃ w1, w1 = W.alloc (.cells #[.slice a1 L.length c1, .slice a2 R.length c2, .bool x] 24) := ⟨_, rfl⟩
  have HW1 : Hid (w1 = W.alloc (.cells #[.slice a1 L.length c1, .slice a2 R.length c2, .bool x] 24)) := hw1
  have hb1 : Below W.heap.size W w1 := by rw [hw1]; exact below_new _ _
  have hi1 : w1.heap[W.heap.size]? = some (.cells #[.slice a1 L.length c1, .slice a2 R.length c2, .bool x] 24 (0, 0)) := by rw [hw1]; exact heap_last _ _
  have HB1 : Hid (Below W.heap.size W w1) := hb1
  have HI1 : Hid (w1.heap[W.heap.size]? = some (.cells #[.slice a1 L.length c1, .slice a2 R.length c2, .bool x] 24 (0, 0))) := hi1
  have hy1 := sgr_byt hl.1
  have hy2 := sgr_byt hr.1
  have HBY : Hid ((∀ p ∈ L, p.2 < 256) ∧ (∀ p ∈ R, p.2 < 256)) := ⟨hy1, hy2⟩
  have HLN : Hid (Calls Try.prog 14 #[.agg #[.slice a1 L.length c1, .slice a2 R.length c2, .bool x]] w1 (LnQ L R x w1)) := lent_any _ _ x L R w1 (hl.1.below hb1) (hr.1.below hb1) hnl hnr hL hR
  have HSA : Hid (SgC w1 (.slice a1 L.length c1) L ∧ SgC w1 (.slice a2 R.length c2) R) := ⟨hl.below hb1, hr.below hb1⟩
  have HSZ : Hid (L.length ≤ 9223372036854775000 ∧ R.length ≤ 9223372036854775000) := by show _ ∧ _; omega
  have k0 : w1.cell? ⟨W.heap.size, 0, none⟩ = some (.slice a1 L.length c1) := cell_at hi1 rfl
  have k1 : w1.cell? ⟨W.heap.size, 1, none⟩ = some (.slice a2 R.length c2) := cell_at hi1 rfl
  have k2 : w1.cell? ⟨W.heap.size, 2, none⟩ = some (.bool x) := cell_at hi1 rfl
  clear hl hr hnl hnr hw1 hb1 hi1 hy1 hy2
  obtain ⟨TL, hTL⟩ : ∃ T, tnS L R L = T := ⟨_, rfl⟩
  obtain ⟨TR, hTR⟩ : ∃ T, tnS L R R = T := ⟨_, rfl⟩
  obtain ⟨z, hz⟩ : ∃ z, tnB L R x = z := ⟨_, rfl⟩
  obtain ⟨er, her⟩ : ∃ er, ck2 L R = er := ⟨_, rfl⟩
  have HTT : Hid (tnS L R L = TL ∧ tnS L R R = TR ∧ tnB L R x = z ∧ ck2 L R = er) := ⟨hTL, hTR, hz, her⟩
  obtain ⟨pt, pe, hpn⟩ := pn_form L R x
  obtain ⟨vt, ve, hva⟩ := va_form L R
  have HPV : Hid (pnV L R x = .tuple #[.string pt, .int .i64 pe] ∧ vaV L R = .tuple #[.string vt, .int .i64 ve]) := ⟨hpn, hva⟩
  clear hTL hTR hz her hpn hva hL hR
  go_enter Try.func4, Try.ntmps4
  go_upto_region 1 with fail
  rw [← HW1.out]
  go_wp2_with fail
  refine Calls.mono HLN.out ?_
  rintro e w2 ⟨xl, xr, rfl, hol, hor, hb2⟩
  obtain ⟨b1, d1, rfl⟩ := own_shape hol
  obtain ⟨b2, d2, rfl⟩ := own_shape hor
  have HOX : Hid (w2.ownsRow w1.heap.size 81 2 (.slice b1 L.length d1) L.length (sgI L) ∧ w2.ownsRow w1.heap.size 81 2 (.slice b2 R.length d2) R.length (sgI R)) := ⟨hol, hor⟩
  obtain ⟨w3, hw3⟩ : ∃ w3, w3 = w2.alloc (.cells #[.slice b1 L.length d1, .slice b2 R.length d2, .bool x] 24) := ⟨_, rfl⟩
  have HW3 : Hid (w3 = w2.alloc (.cells #[.slice b1 L.length d1, .slice b2 R.length d2, .bool x] 24)) := hw3
  have hb3 : Below w2.heap.size w2 w3 := by rw [hw3]; exact below_new _ _
  have hx3 : w3.heap[w2.heap.size]? = some (.cells #[.slice b1 L.length d1, .slice b2 R.length d2, .bool x] 24 (0, 0)) := by rw [hw3]; exact heap_last _ _
  have HB13 : Hid (Below w1.heap.size w1 w3) := go_on hb2 hb3
  have HX3 : Hid (w3.heap[w2.heap.size]? = some (.cells #[.slice b1 L.length d1, .slice b2 R.length d2, .bool x] 24 (0, 0)) ∧ w3.heap[W.heap.size]? = some (.cells #[.slice a1 L.length c1, .slice a2 R.length c2, .bool x] 24 (0, 0))) := ⟨hx3, (HB13.out.block _ (Array.getElem?_eq_some_iff.1 HI1.out).1).trans HI1.out⟩
  have HFX3 : Hid (∀ y, Below w3.heap.size w3 y → y.heap[w2.heap.size]? = some (.cells #[.slice b1 L.length d1, .slice b2 R.length d2, .bool x] 24 (0, 0)) ∧ y.heap[W.heap.size]? = some (.cells #[.slice a1 L.length c1, .slice a2 R.length c2, .bool x] 24 (0, 0))) := fun y hy => ⟨(hy.block _ (Array.getElem?_eq_some_iff.1 HX3.out.1).1).trans HX3.out.1, (hy.block _ (Array.getElem?_eq_some_iff.1 HX3.out.2).1).trans HX3.out.2⟩
  have HSX : Hid (SgC w3 (.slice b1 L.length d1) L ∧ SgC w3 (.slice b2 R.length d2) R) := ⟨(own_sgc HOX.out.1 HBY.out.1).below hb3, (own_sgc HOX.out.2 HBY.out.2).below hb3⟩
  have HPR : Hid (Calls Try.prog 15 #[.agg #[.slice b1 L.length d1, .slice b2 R.length d2, .bool x]] w3 fun e w' => e = .returned (.tuple #[.string pt, .int .i64 pe]) ∧ Below w3.heap.size w3 w') := by
    have := print_pn _ _ x L R w3 HSX.out.1.1 HSX.out.2.1 (by have := HSZ.out; omega) (by have := HSZ.out; omega)
    rw [HPV.out.1] at this
    exact this
  have m0 : w3.cell? ⟨w2.heap.size, 0, none⟩ = some (.slice b1 L.length d1) := cell_at hx3 rfl
  have m1 : w3.cell? ⟨w2.heap.size, 1, none⟩ = some (.slice b2 R.length d2) := cell_at hx3 rfl
  have m2 : w3.cell? ⟨w2.heap.size, 2, none⟩ = some (.bool x) := cell_at hx3 rfl
  clear hol hor hb2 hb3 hx3 hw3 k0 k1 k2
  go_upto_region 2 with fail
  rw [← HW3.out]
  go_wp2_with fail
  refine Calls.mono HPR.out ?_
  rintro e w4 ⟨rfl, hb4⟩
  have HB4 : Hid (Below w3.heap.size w3 w4) := hb4
  have HVR : Hid (Calls Try.prog 16 #[.agg #[.slice b1 L.length d1, .slice b2 R.length d2, .bool x]] w4 fun e w' => e = .returned (.tuple #[.string vt, .int .i64 ve]) ∧ Below w4.heap.size w4 w') := by
    have := tVars_any _ _ x L R w4 (HSX.out.1.1.below hb4) (HSX.out.2.1.below hb4) HSZ.out.1 HSZ.out.2
    rw [HPV.out.2] at this
    exact this
  clear hb4 m0 m1 m2
  have m0 : w4.cell? ⟨w2.heap.size, 0, none⟩ = some (.slice b1 L.length d1) := cell_at (HFX3.out _ HB4.out).1 rfl
  have m1 : w4.cell? ⟨w2.heap.size, 1, none⟩ = some (.slice b2 R.length d2) := cell_at (HFX3.out _ HB4.out).1 rfl
  have m2 : w4.cell? ⟨w2.heap.size, 2, none⟩ = some (.bool x) := cell_at (HFX3.out _ HB4.out).1 rfl
  go_wp2_with fail
  refine Calls.mono HVR.out ?_
  rintro e w5 ⟨rfl, hb5⟩
  have HB5 : Hid (Below w3.heap.size w3 w5) := go_on HB4.out hb5
  have HTN : Hid (Calls Try.prog 17 #[.agg #[.slice b1 L.length d1, .slice b2 R.length d2, .bool x]] w5 (TnQ L R x w5)) := tTurn_any _ _ x L R w5 (HSX.out.1.below HB5.out) (HSX.out.2.below HB5.out) HSZ.out.1 HSZ.out.2
  clear hb5 m0 m1 m2
  have m0 : w5.cell? ⟨w2.heap.size, 0, none⟩ = some (.slice b1 L.length d1) := cell_at (HFX3.out _ HB5.out).1 rfl
  have m1 : w5.cell? ⟨w2.heap.size, 1, none⟩ = some (.slice b2 R.length d2) := cell_at (HFX3.out _ HB5.out).1 rfl
  have m2 : w5.cell? ⟨w2.heap.size, 2, none⟩ = some (.bool x) := cell_at (HFX3.out _ HB5.out).1 rfl
  go_wp2_with fail
  refine Calls.mono HTN.out ?_
  rintro e w6 htn
  obtain ⟨ul, ur, rfl, hul, hur, hb6⟩ := tn_u htn
  rw [HTT.out.1] at hul
  rw [HTT.out.2.1] at hur
  rw [HTT.out.2.2.1, HTT.out.2.2.2]
  obtain ⟨e1, f1, rfl⟩ := own_shape hul
  obtain ⟨e2, f2, rfl⟩ := own_shape hur
  have HB6 : Hid (Below w3.heap.size w3 w6) := go_on HB5.out hb6
  obtain ⟨w7, hw7⟩ : ∃ w7, w7 = w6.alloc (.cells #[.slice e1 TL.length f1, .slice e2 TR.length f2, .bool z] 24) := ⟨_, rfl⟩
  have HW7 : Hid (w7 = w6.alloc (.cells #[.slice e1 TL.length f1, .slice e2 TR.length f2, .bool z] 24)) := hw7
  have hb7 : Below w6.heap.size w6 w7 := by rw [hw7]; exact below_new _ _
  have HU7 : Hid (w7.heap[w6.heap.size]? = some (.cells #[.slice e1 TL.length f1, .slice e2 TR.length f2, .bool z] 24 (0, 0))) := by show _ = _; rw [hw7]; exact heap_last _ _
  have HOU : Hid (w7.ownsRow w5.heap.size 81 2 (.slice e1 TL.length f1) TL.length (sgC TL) ∧ w7.ownsRow w5.heap.size 81 2 (.slice e2 TR.length f2) TR.length (sgC TR)) := ⟨own_below hul hb7, own_below hur hb7⟩
  have HB7 : Hid (Below w3.heap.size w3 w7) := go_on HB6.out hb7
  have HRP : Hid (Calls Try.prog 18 #[.agg #[.slice a1 L.length c1, .slice a2 R.length c2, .bool x]] w7 fun e w' => e = .returned (.tuple #[.string pt, .int .i64 pe]) ∧ Below w7.heap.size w7 w') := by
    have := rPrint_any _ _ x L R w7 (HSA.out.1.below (go_on HB13.out HB7.out)) (HSA.out.2.below (go_on HB13.out HB7.out)) HSZ.out.1 HSZ.out.2
    rw [HPV.out.1] at this
    exact this
  clear htn hul hur hb6 hw7 hb7 m0 m1 m2
  have m0 : w7.cell? ⟨W.heap.size, 0, none⟩ = some (.slice a1 L.length c1) := cell_at (HFX3.out _ HB7.out).2 rfl
  have m1 : w7.cell? ⟨W.heap.size, 1, none⟩ = some (.slice a2 R.length c2) := cell_at (HFX3.out _ HB7.out).2 rfl
  have m2 : w7.cell? ⟨W.heap.size, 2, none⟩ = some (.bool x) := cell_at (HFX3.out _ HB7.out).2 rfl
  go_upto_region 5 with fail
  rw [← HW7.out]
  go_wp2_with fail
  refine Calls.mono HRP.out ?_
  rintro e w8 ⟨rfl, hb8⟩
  have HB78 : Hid (Below w7.heap.size w7 w8) := hb8
  have HB8 : Hid (Below w3.heap.size w3 w8) := go_on HB7.out hb8
  have HRV : Hid (Calls Try.prog 19 #[.agg #[.slice a1 L.length c1, .slice a2 R.length c2, .bool x]] w8 fun e w' => e = .returned (.tuple #[.string vt, .int .i64 ve]) ∧ Below w8.heap.size w8 w') := by
    have := rVars_any _ _ x L R w8 (HSA.out.1.1.below (go_on HB13.out HB8.out)) (HSA.out.2.1.below (go_on HB13.out HB8.out)) HSZ.out.1 HSZ.out.2
    rw [HPV.out.2] at this
    exact this
  clear hb8 m0 m1 m2
  have m0 : w8.cell? ⟨W.heap.size, 0, none⟩ = some (.slice a1 L.length c1) := cell_at (HFX3.out _ HB8.out).2 rfl
  have m1 : w8.cell? ⟨W.heap.size, 1, none⟩ = some (.slice a2 R.length c2) := cell_at (HFX3.out _ HB8.out).2 rfl
  have m2 : w8.cell? ⟨W.heap.size, 2, none⟩ = some (.bool x) := cell_at (HFX3.out _ HB8.out).2 rfl
  go_wp2_with fail
  refine Calls.mono HRV.out ?_
  rintro e w9 ⟨rfl, hb9⟩
  have HB79 : Hid (Below w7.heap.size w7 w9) := go_on HB78.out hb9
  have HB9 : Hid (Below w3.heap.size w3 w9) := go_on HB8.out hb9
  have HRT : Hid (Calls Try.prog 20 #[.agg #[.slice a1 L.length c1, .slice a2 R.length c2, .bool x]] w9 (TnQ L R x w9)) := rTurn_any _ _ x L R w9 (HSA.out.1.below (go_on HB13.out HB9.out)) (HSA.out.2.below (go_on HB13.out HB9.out)) HSZ.out.1 HSZ.out.2
  clear hb9 m0 m1 m2
  have m0 : w9.cell? ⟨W.heap.size, 0, none⟩ = some (.slice a1 L.length c1) := cell_at (HFX3.out _ HB9.out).2 rfl
  have m1 : w9.cell? ⟨W.heap.size, 1, none⟩ = some (.slice a2 R.length c2) := cell_at (HFX3.out _ HB9.out).2 rfl
  have m2 : w9.cell? ⟨W.heap.size, 2, none⟩ = some (.bool x) := cell_at (HFX3.out _ HB9.out).2 rfl
  go_wp2_with fail
  refine Calls.mono HRT.out ?_
  rintro e w10 htn
  obtain ⟨ul, ur, rfl, hul, hur, hb10⟩ := tn_u htn
  rw [HTT.out.1] at hul
  rw [HTT.out.2.1] at hur
  rw [HTT.out.2.2.1, HTT.out.2.2.2]
  obtain ⟨g1, h1, rfl⟩ := own_shape hul
  obtain ⟨g2, h2, rfl⟩ := own_shape hur
  obtain ⟨w11, hw11⟩ : ∃ w11, w11 = w10.alloc (.cells #[.slice g1 TL.length h1, .slice g2 TR.length h2, .bool z] 24) := ⟨_, rfl⟩
  have HW11 : Hid (w11 = w10.alloc (.cells #[.slice g1 TL.length h1, .slice g2 TR.length h2, .bool z] 24)) := hw11
  have hb11 : Below w10.heap.size w10 w11 := by rw [hw11]; exact below_new _ _
  have HV11 : Hid (w11.heap[w10.heap.size]? = some (.cells #[.slice g1 TL.length h1, .slice g2 TR.length h2, .bool z] 24 (0, 0))) := by show _ = _; rw [hw11]; exact heap_last _ _
  have HOV : Hid (w11.ownsRow w9.heap.size 81 2 (.slice g1 TL.length h1) TL.length (sgC TL) ∧ w11.ownsRow w9.heap.size 81 2 (.slice g2 TR.length h2) TR.length (sgC TR)) := ⟨own_below hul hb11, own_below hur hb11⟩
  have HB711 : Hid (Below w7.heap.size w7 w11) := go_on (go_on HB79.out hb10) hb11
  have HB11 : Hid (Below w3.heap.size w3 w11) := go_on HB7.out HB711.out
  clear htn hul hur hb10 hw11 hb11 m0 m1 m2
  have HFX : Hid (∀ y, Below w11.heap.size w11 y → y.cell? ⟨w2.heap.size, 0, none⟩ = some (.slice b1 L.length d1) ∧ y.cell? ⟨w2.heap.size, 1, none⟩ = some (.slice b2 R.length d2) ∧ y.cell? ⟨w2.heap.size, 2, none⟩ = some (.bool x)) := fun y hy => by
    have h := (HFX3.out y (go_on HB11.out hy)).1
    exact ⟨cell_at h rfl, cell_at h rfl, cell_at h rfl⟩
  have HFA : Hid (∀ y, Below w11.heap.size w11 y → y.cell? ⟨W.heap.size, 0, none⟩ = some (.slice a1 L.length c1) ∧ y.cell? ⟨W.heap.size, 1, none⟩ = some (.slice a2 R.length c2) ∧ y.cell? ⟨W.heap.size, 2, none⟩ = some (.bool x)) := fun y hy => by
    have h := (HFX3.out y (go_on HB11.out hy)).2
    exact ⟨cell_at h rfl, cell_at h rfl, cell_at h rfl⟩
  have HCP : Hid (∀ y, Below w11.heap.size w11 y → Calls Try.prog 21 #[.agg #[.slice b1 L.length d1, .slice b2 R.length d2, .bool x]] y fun e w' => e = .returned (.int .i64 er) ∧ Below y.heap.size y w') := fun y hy => by
    have := tCheck_any _ _ x L R y (HSX.out.1.1.below (go_on HB11.out hy)) (HSX.out.2.1.below (go_on HB11.out hy)) (by have := HSZ.out; omega) (by have := HSZ.out; omega)
    rw [HTT.out.2.2.2] at this
    exact this
  have HCR : Hid (∀ y, Below w11.heap.size w11 y → Calls Try.prog 22 #[.agg #[.slice a1 L.length c1, .slice a2 R.length c2, .bool x]] y fun e w' => e = .returned (.int .i64 er) ∧ Below y.heap.size y w') := fun y hy => by
    have hb := go_on HB13.out (go_on HB11.out hy)
    have := rcheck_any _ _ x L R y (HSA.out.1.1.below hb) (HSA.out.2.1.below hb) (by have := HSZ.out; omega) (by have := HSZ.out; omega)
    rw [HTT.out.2.2.2] at this
    exact this
  have HSM : Hid (∀ y, Below w11.heap.size w11 y → Calls Try.prog 10 #[.agg #[.slice b1 L.length d1, .slice b2 R.length d2, .bool x], .agg #[.slice a1 L.length c1, .slice a2 R.length c2, .bool x]] y fun e w' => e = .returned (.bool true) ∧ Below y.heap.size y w') := fun y hy => by
    have hb := go_on HB13.out (go_on HB11.out hy)
    exact same_same _ _ _ _ x L R y (HSX.out.1.1.below (go_on HB11.out hy)) (HSX.out.2.1.below (go_on HB11.out hy)) (HSA.out.1.1.below hb) (HSA.out.2.1.below hb) HSZ.out.1 HSZ.out.2
  go_upto_region 8 with fail
  rw [← HW11.out]
  refine wp_region_held_drew (S := fun y => Below w11.heap.size w11 y) (by kernel_rfl) (Below.refl _ _).drew (fun hH0 => ?_)
  generalize w11.drew = y0 at hH0 ⊢
  refine wpAnyH_take (i := 0) (oi := { dst := some 48, op := Go.Op.load 24 (Go.Operand.tmp 3), type := 24, pos := "law.go:78", after := #[], guard := none }) (v := .agg #[.slice b1 L.length d1, .slice b2 R.length d2, .bool x]) rfl (by kernel_rfl) (by kernel_rfl) (by kernel_rfl) (fun _ _ _ h => h) (Or.inl ⟨by rfl, ?_⟩) (by assumption) ?_
  · intro w' hS; have hz := HFX.out w' hS; obtain ⟨z0, z1, z2⟩ := hz; go_simp
  simp only [Act.put, List.setIfInBounds_toArray, List.set_cons_zero, List.set_cons_succ]
  refine wpAnyH_take (i := 3) (oi := { dst := some 51, op := Go.Op.load 24 (Go.Operand.tmp 1), type := 24, pos := "law.go:78", after := #[], guard := none }) (v := .agg #[.slice a1 L.length c1, .slice a2 R.length c2, .bool x]) rfl (by kernel_rfl) (by kernel_rfl) (by kernel_rfl) (fun _ _ _ h => h) (Or.inl ⟨by rfl, ?_⟩) (by assumption) ?_
  · intro w' hS; have hz := HFA.out w' hS; obtain ⟨z0, z1, z2⟩ := hz; go_simp
  simp only [Act.put, List.setIfInBounds_toArray, List.set_cons_zero, List.set_cons_succ]
  refine wpAnyH_ready (rs := [1]) (by kernel_rfl) (by simp) ?_
  refine AllReadyH.cons rfl (fun K hK => ?_) AllReadyH.nil
  go_simp
  refine (HCP.out _ hH0).mono ?_
  rintro e y1 ⟨rfl, hB⟩
  have hN : Below w11.heap.size w11 y1 := go_on hH0 hB
  clear hB
  go_wp2_with fail
  refine hK.out _ _ hN (fun hH1 => ?_)
  clear hN
  clear hK K
  refine wpAnyH_ready (rs := [2]) (by kernel_rfl) (by simp) ?_
  refine AllReadyH.cons rfl (fun K hK => ?_) AllReadyH.nil
  go_simp
  refine (num_any _ _).mono ?_
  rintro e yy ⟨rfl, rfl⟩
  go_wp2_with fail
  refine hK.out _ _ hH1 (fun hH1 => ?_)
  clear hK K
  refine wpAnyH_ready (rs := [4]) (by kernel_rfl) (by simp) ?_
  refine AllReadyH.cons rfl (fun K hK => ?_) AllReadyH.nil
  go_simp
  refine (HCR.out _ hH1).mono ?_
  rintro e y2 ⟨rfl, hB⟩
  have hN : Below w11.heap.size w11 y2 := go_on hH1 hB
  clear hB
  go_wp2_with fail
  refine hK.out _ _ hN (fun hH2 => ?_)
  clear hN
  clear hK K
  refine wpAnyH_take (i := 5) (oi := { dst := some 53, op := Go.Op.binOp Go.BinOp.neq 3 (Go.Operand.tmp 50) (Go.Operand.tmp 52) 3, type := 4, pos := "law.go:78", after := #[{ on := 2, ground := Go.Ground.data }, { on := 4, ground := Go.Ground.data }], guard := none }) (v := .bool false) rfl (by kernel_rfl) (by kernel_rfl) (by kernel_rfl) (fun _ _ _ h => h) (Or.inl ⟨by rfl, ?_⟩) (by assumption) ?_
  · intro w' hS; go_simp
  simp only [Act.put, List.setIfInBounds_toArray, List.set_cons_zero, List.set_cons_succ]
  refine wpAnyH_take (i := 6) (oi := { dst := some 54, op := Go.Op.move (Go.Operand.tmp 53), type := 4, pos := "law.go:78", after := #[{ on := 5, ground := Go.Ground.data }, { on := 4, ground := Go.Ground.chain }], guard := none }) (v := ?_) rfl (by kernel_rfl) (by kernel_rfl) (by kernel_rfl) (fun _ _ _ h => h) (Or.inl ⟨by rfl, ?_⟩) (by assumption) ?_
  rotate_left
  · intro w' hS; go_simp; (try with_reducible rfl)
  simp only [Act.put, List.setIfInBounds_toArray, List.set_cons_zero, List.set_cons_succ]
  refine wpAnyH_take (i := 7) (oi := { dst := some 55, op := Go.Op.move (Go.Operand.tmp 4), type := 9, pos := "law.go:78", after := #[{ on := 6, ground := Go.Ground.guard }], guard := some (6, false) }) (v := ?_) rfl (by kernel_rfl) (by kernel_rfl) (by kernel_rfl) (fun _ _ _ h => h) (Or.inl ⟨by rfl, ?_⟩) (by assumption) ?_
  rotate_left
  · intro w' hS; go_simp; (try with_reducible rfl)
  simp only [Act.put, List.setIfInBounds_toArray, List.set_cons_zero, List.set_cons_succ]
  refine wpAnyH_take (i := 8) (oi := { dst := some 56, op := Go.Op.move (Go.Operand.tmp 10), type := 9, pos := "law.go:78", after := #[{ on := 6, ground := Go.Ground.guard }], guard := some (6, false) }) (v := ?_) rfl (by kernel_rfl) (by kernel_rfl) (by kernel_rfl) (fun _ _ _ h => h) (Or.inl ⟨by rfl, ?_⟩) (by assumption) ?_
  rotate_left
  · intro w' hS; go_simp; (try with_reducible rfl)
  simp only [Act.put, List.setIfInBounds_toArray, List.set_cons_zero, List.set_cons_succ]
  refine wpAnyH_take (i := 9) (oi := { dst := some 57, op := Go.Op.binOp Go.BinOp.neq 9 (Go.Operand.tmp 55) (Go.Operand.tmp 56) 9, type := 4, pos := "law.go:78", after := #[{ on := 7, ground := Go.Ground.data }, { on := 8, ground := Go.Ground.data }, { on := 6, ground := Go.Ground.guard }], guard := some (6, false) }) (v := .bool false) rfl (by kernel_rfl) (by kernel_rfl) (by kernel_rfl) (fun _ _ _ h => h) (Or.inl ⟨by rfl, ?_⟩) (by assumption) ?_
  · intro w' hS; go_simp
  simp only [Act.put, List.setIfInBounds_toArray, List.set_cons_zero, List.set_cons_succ]
  refine wpAnyH_take (i := 10) (oi := { dst := some 58, op := Go.Op.pick (Go.Operand.tmp 54) (Go.Operand.const (Go.Value.bool true)) (Go.Operand.tmp 57), type := 4, pos := "law.go:78", after := #[{ on := 6, ground := Go.Ground.data }, { on := 9, ground := Go.Ground.data }], guard := none }) (v := .bool false) rfl (by kernel_rfl) (by kernel_rfl) (by kernel_rfl) (fun _ _ _ h => h) (Or.inl ⟨by rfl, ?_⟩) (by assumption) ?_
  · intro w' hS; go_simp
  simp only [Act.put, List.setIfInBounds_toArray, List.set_cons_zero, List.set_cons_succ]
  refine wpAnyH_take (i := 11) (oi := { dst := some 59, op := Go.Op.move (Go.Operand.tmp 58), type := 4, pos := "law.go:78", after := #[{ on := 10, ground := Go.Ground.data }, { on := 6, ground := Go.Ground.chain }], guard := none }) (v := ?_) rfl (by kernel_rfl) (by kernel_rfl) (by kernel_rfl) (fun _ _ _ h => h) (Or.inl ⟨by rfl, ?_⟩) (by assumption) ?_
  rotate_left
  · intro w' hS; go_simp; (try with_reducible rfl)
  simp only [Act.put, List.setIfInBounds_toArray, List.set_cons_zero, List.set_cons_succ]
  refine wpAnyH_take (i := 12) (oi := { dst := some 60, op := Go.Op.move (Go.Operand.tmp 5), type := 25, pos := "law.go:78", after := #[{ on := 11, ground := Go.Ground.guard }], guard := some (11, false) }) (v := ?_) rfl (by kernel_rfl) (by kernel_rfl) (by kernel_rfl) (fun _ _ _ h => h) (Or.inl ⟨by rfl, ?_⟩) (by assumption) ?_
  rotate_left
  · intro w' hS; go_simp; (try with_reducible rfl)
  simp only [Act.put, List.setIfInBounds_toArray, List.set_cons_zero, List.set_cons_succ]
  refine wpAnyH_take (i := 14) (oi := { dst := some 62, op := Go.Op.move (Go.Operand.tmp 11), type := 3, pos := "law.go:78", after := #[{ on := 11, ground := Go.Ground.guard }], guard := some (11, false) }) (v := ?_) rfl (by kernel_rfl) (by kernel_rfl) (by kernel_rfl) (fun _ _ _ h => h) (Or.inl ⟨by rfl, ?_⟩) (by assumption) ?_
  rotate_left
  · intro w' hS; go_simp; (try with_reducible rfl)
  simp only [Act.put, List.setIfInBounds_toArray, List.set_cons_zero, List.set_cons_succ]
  refine wpAnyH_ready (rs := [13]) (by kernel_rfl) (by simp) ?_
  refine AllReadyH.cons rfl (fun K hK => ?_) AllReadyH.nil
  go_simp
  refine (num_any _ _).mono ?_
  rintro e yy ⟨rfl, rfl⟩
  go_wp2_with fail
  refine hK.out _ _ hH2 (fun hH2 => ?_)
  clear hK K
  refine wpAnyH_take (i := 15) (oi := { dst := some 63, op := Go.Op.binOp Go.BinOp.neq 3 (Go.Operand.tmp 61) (Go.Operand.tmp 62) 3, type := 4, pos := "law.go:78", after := #[{ on := 13, ground := Go.Ground.data }, { on := 14, ground := Go.Ground.data }, { on := 11, ground := Go.Ground.guard }], guard := some (11, false) }) (v := .bool false) rfl (by kernel_rfl) (by kernel_rfl) (by kernel_rfl) (fun _ _ _ h => h) (Or.inl ⟨by rfl, ?_⟩) (by assumption) ?_
  · intro w' hS; go_simp
  simp only [Act.put, List.setIfInBounds_toArray, List.set_cons_zero, List.set_cons_succ]
  refine wpAnyH_take (i := 16) (oi := { dst := some 64, op := Go.Op.pick (Go.Operand.tmp 59) (Go.Operand.const (Go.Value.bool true)) (Go.Operand.tmp 63), type := 4, pos := "law.go:78", after := #[{ on := 11, ground := Go.Ground.data }, { on := 15, ground := Go.Ground.data }], guard := none }) (v := .bool false) rfl (by kernel_rfl) (by kernel_rfl) (by kernel_rfl) (fun _ _ _ h => h) (Or.inl ⟨by rfl, ?_⟩) (by assumption) ?_
  · intro w' hS; go_simp
  simp only [Act.put, List.setIfInBounds_toArray, List.set_cons_zero, List.set_cons_succ]
  refine wpAnyH_take (i := 17) (oi := { dst := some 65, op := Go.Op.move (Go.Operand.tmp 64), type := 4, pos := "law.go:78", after := #[{ on := 16, ground := Go.Ground.data }, { on := 13, ground := Go.Ground.chain }], guard := none }) (v := ?_) rfl (by kernel_rfl) (by kernel_rfl) (by kernel_rfl) (fun _ _ _ h => h) (Or.inl ⟨by rfl, ?_⟩) (by assumption) ?_
  rotate_left
  · intro w' hS; go_simp; (try with_reducible rfl)
  simp only [Act.put, List.setIfInBounds_toArray, List.set_cons_zero, List.set_cons_succ]
  refine wpAnyH_take (i := 18) (oi := { dst := some 66, op := Go.Op.move (Go.Operand.tmp 6), type := 9, pos := "law.go:78", after := #[{ on := 17, ground := Go.Ground.guard }], guard := some (17, false) }) (v := ?_) rfl (by kernel_rfl) (by kernel_rfl) (by kernel_rfl) (fun _ _ _ h => h) (Or.inl ⟨by rfl, ?_⟩) (by assumption) ?_
  rotate_left
  · intro w' hS; go_simp; (try with_reducible rfl)
  simp only [Act.put, List.setIfInBounds_toArray, List.set_cons_zero, List.set_cons_succ]
  refine wpAnyH_take (i := 19) (oi := { dst := some 67, op := Go.Op.move (Go.Operand.tmp 12), type := 9, pos := "law.go:78", after := #[{ on := 17, ground := Go.Ground.guard }], guard := some (17, false) }) (v := ?_) rfl (by kernel_rfl) (by kernel_rfl) (by kernel_rfl) (fun _ _ _ h => h) (Or.inl ⟨by rfl, ?_⟩) (by assumption) ?_
  rotate_left
  · intro w' hS; go_simp; (try with_reducible rfl)
  simp only [Act.put, List.setIfInBounds_toArray, List.set_cons_zero, List.set_cons_succ]
  refine wpAnyH_take (i := 20) (oi := { dst := some 68, op := Go.Op.binOp Go.BinOp.neq 9 (Go.Operand.tmp 66) (Go.Operand.tmp 67) 9, type := 4, pos := "law.go:78", after := #[{ on := 18, ground := Go.Ground.data }, { on := 19, ground := Go.Ground.data }, { on := 17, ground := Go.Ground.guard }], guard := some (17, false) }) (v := .bool false) rfl (by kernel_rfl) (by kernel_rfl) (by kernel_rfl) (fun _ _ _ h => h) (Or.inl ⟨by rfl, ?_⟩) (by assumption) ?_
  · intro w' hS; go_simp
  simp only [Act.put, List.setIfInBounds_toArray, List.set_cons_zero, List.set_cons_succ]
  refine wpAnyH_take (i := 21) (oi := { dst := some 69, op := Go.Op.pick (Go.Operand.tmp 65) (Go.Operand.const (Go.Value.bool true)) (Go.Operand.tmp 68), type := 4, pos := "law.go:78", after := #[{ on := 17, ground := Go.Ground.data }, { on := 20, ground := Go.Ground.data }], guard := none }) (v := .bool false) rfl (by kernel_rfl) (by kernel_rfl) (by kernel_rfl) (fun _ _ _ h => h) (Or.inl ⟨by rfl, ?_⟩) (by assumption) ?_
  · intro w' hS; go_simp
  simp only [Act.put, List.setIfInBounds_toArray, List.set_cons_zero, List.set_cons_succ]
  refine wpAnyH_take (i := 22) (oi := { dst := some 70, op := Go.Op.move (Go.Operand.tmp 69), type := 4, pos := "law.go:78", after := #[{ on := 21, ground := Go.Ground.data }, { on := 17, ground := Go.Ground.chain }], guard := none }) (v := ?_) rfl (by kernel_rfl) (by kernel_rfl) (by kernel_rfl) (fun _ _ _ h => h) (Or.inl ⟨by rfl, ?_⟩) (by assumption) ?_
  rotate_left
  · intro w' hS; go_simp; (try with_reducible rfl)
  simp only [Act.put, List.setIfInBounds_toArray, List.set_cons_zero, List.set_cons_succ]
  refine wpAnyH_take (i := 23) (oi := { dst := some 71, op := Go.Op.move (Go.Operand.tmp 7), type := 25, pos := "law.go:78", after := #[{ on := 22, ground := Go.Ground.guard }], guard := some (22, false) }) (v := ?_) rfl (by kernel_rfl) (by kernel_rfl) (by kernel_rfl) (fun _ _ _ h => h) (Or.inl ⟨by rfl, ?_⟩) (by assumption) ?_
  rotate_left
  · intro w' hS; go_simp; (try with_reducible rfl)
  simp only [Act.put, List.setIfInBounds_toArray, List.set_cons_zero, List.set_cons_succ]
  refine wpAnyH_take (i := 25) (oi := { dst := some 73, op := Go.Op.move (Go.Operand.tmp 13), type := 3, pos := "law.go:78", after := #[{ on := 22, ground := Go.Ground.guard }], guard := some (22, false) }) (v := ?_) rfl (by kernel_rfl) (by kernel_rfl) (by kernel_rfl) (fun _ _ _ h => h) (Or.inl ⟨by rfl, ?_⟩) (by assumption) ?_
  rotate_left
  · intro w' hS; go_simp; (try with_reducible rfl)
  simp only [Act.put, List.setIfInBounds_toArray, List.set_cons_zero, List.set_cons_succ]
  refine wpAnyH_ready (rs := [24]) (by kernel_rfl) (by simp) ?_
  refine AllReadyH.cons rfl (fun K hK => ?_) AllReadyH.nil
  go_simp
  refine (num_any _ _).mono ?_
  rintro e yy ⟨rfl, rfl⟩
  go_wp2_with fail
  refine hK.out _ _ hH2 (fun hH2 => ?_)
  clear hK K
  refine wpAnyH_take (i := 26) (oi := { dst := some 74, op := Go.Op.binOp Go.BinOp.neq 3 (Go.Operand.tmp 72) (Go.Operand.tmp 73) 3, type := 4, pos := "law.go:78", after := #[{ on := 24, ground := Go.Ground.data }, { on := 25, ground := Go.Ground.data }, { on := 22, ground := Go.Ground.guard }], guard := some (22, false) }) (v := .bool false) rfl (by kernel_rfl) (by kernel_rfl) (by kernel_rfl) (fun _ _ _ h => h) (Or.inl ⟨by rfl, ?_⟩) (by assumption) ?_
  · intro w' hS; go_simp
  simp only [Act.put, List.setIfInBounds_toArray, List.set_cons_zero, List.set_cons_succ]
  refine wpAnyH_take (i := 27) (oi := { dst := some 75, op := Go.Op.pick (Go.Operand.tmp 70) (Go.Operand.const (Go.Value.bool true)) (Go.Operand.tmp 74), type := 4, pos := "law.go:78", after := #[{ on := 22, ground := Go.Ground.data }, { on := 26, ground := Go.Ground.data }], guard := none }) (v := .bool false) rfl (by kernel_rfl) (by kernel_rfl) (by kernel_rfl) (fun _ _ _ h => h) (Or.inl ⟨by rfl, ?_⟩) (by assumption) ?_
  · intro w' hS; go_simp
  simp only [Act.put, List.setIfInBounds_toArray, List.set_cons_zero, List.set_cons_succ]
  refine wpAnyH_take (i := 28) (oi := { dst := some 76, op := Go.Op.move (Go.Operand.tmp 75), type := 4, pos := "law.go:78", after := #[{ on := 27, ground := Go.Ground.data }, { on := 24, ground := Go.Ground.chain }], guard := none }) (v := ?_) rfl (by kernel_rfl) (by kernel_rfl) (by kernel_rfl) (fun _ _ _ h => h) (Or.inl ⟨by rfl, ?_⟩) (by assumption) ?_
  rotate_left
  · intro w' hS; go_simp; (try with_reducible rfl)
  simp only [Act.put, List.setIfInBounds_toArray, List.set_cons_zero, List.set_cons_succ]
  refine wpAnyH_take (i := 29) (oi := { dst := some 77, op := Go.Op.move (Go.Operand.tmp 9), type := 25, pos := "law.go:78", after := #[{ on := 28, ground := Go.Ground.guard }], guard := some (28, false) }) (v := ?_) rfl (by kernel_rfl) (by kernel_rfl) (by kernel_rfl) (fun _ _ _ h => h) (Or.inl ⟨by rfl, ?_⟩) (by assumption) ?_
  rotate_left
  · intro w' hS; go_simp; (try with_reducible rfl)
  simp only [Act.put, List.setIfInBounds_toArray, List.set_cons_zero, List.set_cons_succ]
  refine wpAnyH_take (i := 31) (oi := { dst := some 79, op := Go.Op.move (Go.Operand.tmp 15), type := 3, pos := "law.go:78", after := #[{ on := 28, ground := Go.Ground.guard }], guard := some (28, false) }) (v := ?_) rfl (by kernel_rfl) (by kernel_rfl) (by kernel_rfl) (fun _ _ _ h => h) (Or.inl ⟨by rfl, ?_⟩) (by assumption) ?_
  rotate_left
  · intro w' hS; go_simp; (try with_reducible rfl)
  simp only [Act.put, List.setIfInBounds_toArray, List.set_cons_zero, List.set_cons_succ]
  refine wpAnyH_ready (rs := [30]) (by kernel_rfl) (by simp) ?_
  refine AllReadyH.cons rfl (fun K hK => ?_) AllReadyH.nil
  go_simp
  refine (num_any _ _).mono ?_
  rintro e yy ⟨rfl, rfl⟩
  go_wp2_with fail
  refine hK.out _ _ hH2 (fun hH2 => ?_)
  clear hK K
  refine wpAnyH_take (i := 32) (oi := { dst := some 80, op := Go.Op.binOp Go.BinOp.neq 3 (Go.Operand.tmp 78) (Go.Operand.tmp 79) 3, type := 4, pos := "law.go:78", after := #[{ on := 30, ground := Go.Ground.data }, { on := 31, ground := Go.Ground.data }, { on := 28, ground := Go.Ground.guard }], guard := some (28, false) }) (v := .bool false) rfl (by kernel_rfl) (by kernel_rfl) (by kernel_rfl) (fun _ _ _ h => h) (Or.inl ⟨by rfl, ?_⟩) (by assumption) ?_
  · intro w' hS; go_simp
  simp only [Act.put, List.setIfInBounds_toArray, List.set_cons_zero, List.set_cons_succ]
  refine wpAnyH_take (i := 33) (oi := { dst := some 81, op := Go.Op.pick (Go.Operand.tmp 76) (Go.Operand.const (Go.Value.bool true)) (Go.Operand.tmp 80), type := 4, pos := "law.go:78", after := #[{ on := 28, ground := Go.Ground.data }, { on := 32, ground := Go.Ground.data }], guard := none }) (v := .bool false) rfl (by kernel_rfl) (by kernel_rfl) (by kernel_rfl) (fun _ _ _ h => h) (Or.inl ⟨by rfl, ?_⟩) (by assumption) ?_
  · intro w' hS; go_simp
  simp only [Act.put, List.setIfInBounds_toArray, List.set_cons_zero, List.set_cons_succ]
  refine wpAnyH_take (i := 34) (oi := { dst := some 82, op := Go.Op.move (Go.Operand.tmp 81), type := 4, pos := "law.go:78", after := #[{ on := 33, ground := Go.Ground.data }, { on := 30, ground := Go.Ground.chain }], guard := none }) (v := ?_) rfl (by kernel_rfl) (by kernel_rfl) (by kernel_rfl) (fun _ _ _ h => h) (Or.inl ⟨by rfl, ?_⟩) (by assumption) ?_
  rotate_left
  · intro w' hS; go_simp; (try with_reducible rfl)
  simp only [Act.put, List.setIfInBounds_toArray, List.set_cons_zero, List.set_cons_succ]
  refine wpAnyH_take (i := 35) (oi := { dst := some 83, op := Go.Op.load 24 (Go.Operand.tmp 3), type := 24, pos := "law.go:78", after := #[{ on := 34, ground := Go.Ground.guard }], guard := some (34, false) }) (v := .agg #[.slice b1 L.length d1, .slice b2 R.length d2, .bool x]) rfl (by kernel_rfl) (by kernel_rfl) (by kernel_rfl) (fun _ _ _ h => h) (Or.inl ⟨by rfl, ?_⟩) (by assumption) ?_
  · intro w' hS; have hz := HFX.out w' hS; obtain ⟨z0, z1, z2⟩ := hz; go_simp
  simp only [Act.put, List.setIfInBounds_toArray, List.set_cons_zero, List.set_cons_succ]
  refine wpAnyH_take (i := 36) (oi := { dst := some 84, op := Go.Op.load 24 (Go.Operand.tmp 1), type := 24, pos := "law.go:78", after := #[{ on := 34, ground := Go.Ground.guard }], guard := some (34, false) }) (v := .agg #[.slice a1 L.length c1, .slice a2 R.length c2, .bool x]) rfl (by kernel_rfl) (by kernel_rfl) (by kernel_rfl) (fun _ _ _ h => h) (Or.inl ⟨by rfl, ?_⟩) (by assumption) ?_
  · intro w' hS; have hz := HFA.out w' hS; obtain ⟨z0, z1, z2⟩ := hz; go_simp
  simp only [Act.put, List.setIfInBounds_toArray, List.set_cons_zero, List.set_cons_succ]
  refine wpAnyH_ready (rs := [37]) (by kernel_rfl) (by simp) ?_
  refine AllReadyH.cons rfl (fun K hK => ?_) AllReadyH.nil
  go_simp
  refine (HSM.out _ hH2).mono ?_
  rintro e y3 ⟨rfl, hB⟩
  have hN : Below w11.heap.size w11 y3 := go_on hH2 hB
  clear hB
  go_wp2_with fail
  refine hK.out _ _ hN (fun hH3 => ?_)
  clear hN
  clear hK K
  refine wpAnyH_take (i := 38) (oi := { dst := some 86, op := Go.Op.unOp Go.UnOp.not 4 (Go.Operand.tmp 85), type := 4, pos := "law.go:78", after := #[{ on := 37, ground := Go.Ground.data }, { on := 34, ground := Go.Ground.guard }], guard := some (34, false) }) (v := .bool false) rfl (by kernel_rfl) (by kernel_rfl) (by kernel_rfl) (fun _ _ _ h => h) (Or.inl ⟨by rfl, ?_⟩) (by assumption) ?_
  · intro w' hS; go_simp
  simp only [Act.put, List.setIfInBounds_toArray, List.set_cons_zero, List.set_cons_succ]
  refine wpAnyH_take (i := 39) (oi := { dst := some 87, op := Go.Op.pick (Go.Operand.tmp 82) (Go.Operand.const (Go.Value.bool true)) (Go.Operand.tmp 86), type := 4, pos := "law.go:78", after := #[{ on := 34, ground := Go.Ground.data }, { on := 38, ground := Go.Ground.data }], guard := none }) (v := .bool false) rfl (by kernel_rfl) (by kernel_rfl) (by kernel_rfl) (fun _ _ _ h => h) (Or.inl ⟨by rfl, ?_⟩) (by assumption) ?_
  · intro w' hS; go_simp
  simp only [Act.put, List.setIfInBounds_toArray, List.set_cons_zero, List.set_cons_succ]
  refine wpAnyH_take (i := 40) (oi := { dst := some 88, op := Go.Op.move (Go.Operand.tmp 87), type := 4, pos := "law.go:78", after := #[{ on := 39, ground := Go.Ground.data }, { on := 37, ground := Go.Ground.chain }], guard := none }) (v := ?_) rfl (by kernel_rfl) (by kernel_rfl) (by kernel_rfl) (fun _ _ _ h => h) (Or.inl ⟨by rfl, ?_⟩) (by assumption) ?_
  rotate_left
  · intro w' hS; go_simp; (try with_reducible rfl)
  simp only [Act.put, List.setIfInBounds_toArray, List.set_cons_zero, List.set_cons_succ]
  refine wpAnyH_ready (rs := [41]) (by kernel_rfl) (by simp) ?_
  refine AllReadyH.cons rfl (fun K hK => ?_) AllReadyH.nil
  go_simp
  refine (knows19_any _).mono ?_
  rintro e y4 ⟨rfl, hB⟩
  have hN : Below w11.heap.size w11 y4 := go_on hH3 hB
  clear hB
  go_wp2_with fail
  refine hK.out _ _ hN (fun hH4 => ?_)
  clear hN
  clear hK K
  refine wpAnyH_take (i := 42) (oi := { dst := some 90, op := Go.Op.unOp Go.UnOp.not 4 (Go.Operand.tmp 89), type := 4, pos := "law.go:78", after := #[{ on := 41, ground := Go.Ground.data }, { on := 40, ground := Go.Ground.guard }], guard := some (40, false) }) (v := .bool false) rfl (by kernel_rfl) (by kernel_rfl) (by kernel_rfl) (fun _ _ _ h => h) (Or.inl ⟨by rfl, ?_⟩) (by assumption) ?_
  · intro w' hS; go_simp
  simp only [Act.put, List.setIfInBounds_toArray, List.set_cons_zero, List.set_cons_succ]
  refine wpAnyH_take (i := 43) (oi := { dst := some 91, op := Go.Op.pick (Go.Operand.tmp 88) (Go.Operand.const (Go.Value.bool true)) (Go.Operand.tmp 90), type := 4, pos := "law.go:78", after := #[{ on := 40, ground := Go.Ground.data }, { on := 42, ground := Go.Ground.data }], guard := none }) (v := .bool false) rfl (by kernel_rfl) (by kernel_rfl) (by kernel_rfl) (fun _ _ _ h => h) (Or.inl ⟨by rfl, ?_⟩) (by assumption) ?_
  · intro w' hS; go_simp
  simp only [Act.put, List.setIfInBounds_toArray, List.set_cons_zero, List.set_cons_succ]
  refine wpAnyH_done (by kernel_rfl) ?_ _
  have HB14 : Hid (Below w3.heap.size w3 y4) := go_on HB11.out hH4
  have HBX : Hid (Below w11.heap.size w11 y4) := hH4
  have hf := HFX.out y4 hH4
  obtain ⟨m0, m1, m2⟩ := hf
  have HSP : Hid (Calls Try.prog 13 #[.agg #[.slice b1 L.length d1, .slice b2 R.length d2, .bool x]] y4 fun e w' => e = .returned (.tuple #[]) ∧ Only (fun b => (Value.slice b1 L.length d1).ownBlock = some b ∨ (Value.slice b2 R.length d2).ownBlock = some b) y4 w') := by
    have hbb : Below w2.heap.size w2 y4 := go_on (by rw [HW3.out]; exact below_new _ _) HB14.out
    exact spoil_any _ _ x L.length R.length y4 ((WR.of HOX.out.1).below hbb) ((WR.of HOX.out.2).below hbb) HSZ.out.1 HSZ.out.2
  clear hH0 hH1 hH2 hH3 hH4
  go_wp2_with fail
  refine Calls.mono HSP.out ?_
  rintro e w12 ⟨rfl, ho⟩
  have HO12 : Hid (Only (fun b => (Value.slice b1 L.length d1).ownBlock = some b ∨ (Value.slice b2 R.length d2).ownBlock = some b) y4 w12) := ho
  have HSB : Hid (∀ b, ((Value.slice b1 L.length d1).ownBlock = some b ∨ (Value.slice b2 R.length d2).ownBlock = some b) → w1.heap.size ≤ b ∧ b < w2.heap.size) := fun b hb => by
    rcases hb with hb | hb
    · exact HOX.out.1.lt b hb
    · exact HOX.out.2.lt b hb
  have hs23 : w2.heap.size ≤ w3.heap.size := by rw [HW3.out]; exact (below_new _ _).size
  have hs5 := HB5.out.size
  have hs6 := HB6.out.size
  have hs9 := HB9.out.size
  have hs1 : W.heap.size ≤ w1.heap.size := HB1.out.size
  have HUB : Hid (w12.heap[w6.heap.size]? = some (.cells #[.slice e1 TL.length f1, .slice e2 TR.length f2, .bool z] 24 (0, 0))) := by
    have h1 : y4.heap[w6.heap.size]? = some (.cells #[.slice e1 TL.length f1, .slice e2 TR.length f2, .bool z] 24 (0, 0)) := ((go_on HB711.out HBX.out).block _ (Array.getElem?_eq_some_iff.1 HU7.out).1).trans HU7.out
    exact (HO12.out.block _ (Array.getElem?_eq_some_iff.1 h1).1 (fun q => by have := HSB.out _ q; omega)).trans h1
  have hs10 : w9.heap.size ≤ w10.heap.size ∨ True := .inr trivial
  have HVB : Hid (w12.heap[w10.heap.size]? = some (.cells #[.slice g1 TL.length h1, .slice g2 TR.length h2, .bool z] 24 (0, 0))) := by
    have h1 : y4.heap[w10.heap.size]? = some (.cells #[.slice g1 TL.length h1, .slice g2 TR.length h2, .bool z] 24 (0, 0)) := (HBX.out.block _ (Array.getElem?_eq_some_iff.1 HV11.out).1).trans HV11.out
    refine (HO12.out.block _ (Array.getElem?_eq_some_iff.1 h1).1 (fun q => ?_)).trans h1
    obtain ⟨q1, q2⟩ := HSB.out _ q
    have h3 : w7.heap.size ≤ w11.heap.size := HB711.out.size
    have h4 : w11.heap.size = w10.heap.size + 1 := by rw [HW11.out, World.size_alloc]
    have h5 : w7.heap.size = w6.heap.size + 1 := by rw [HW7.out, World.size_alloc]
    omega
  obtain ⟨t1, t2, t3, t4⟩ := tn_byt HBY.out.1 HBY.out.2
  rw [HTT.out.1] at t1 t3
  rw [HTT.out.2.1] at t2 t4
  have HSAM : Hid (Calls Try.prog 10 #[.agg #[.slice e1 TL.length f1, .slice e2 TR.length f2, .bool z], .agg #[.slice g1 TL.length h1, .slice g2 TR.length h2, .bool z]] w12 fun e w' => e = .returned (.bool true) ∧ Below w12.heap.size w12 w') := by
    have hbu := go_on HB711.out HBX.out
    have u1 := own_only (own_below HOU.out.1 hbu) HO12.out (fun b hb q => by have h1 := HSB.out b q; have h2 := (HOU.out.1.lt b hb).1; omega)
    have u2 := own_only (own_below HOU.out.2 hbu) HO12.out (fun b hb q => by have h1 := HSB.out b q; have h2 := (HOU.out.2.lt b hb).1; omega)
    have v1 := own_only (own_below HOV.out.1 HBX.out) HO12.out (fun b hb q => by have h1 := HSB.out b q; have h2 := (HOV.out.1.lt b hb).1; omega)
    have v2 := own_only (own_below HOV.out.2 HBX.out) HO12.out (fun b hb q => by have h1 := HSB.out b q; have h2 := (HOV.out.2.lt b hb).1; omega)
    have h := same_same (.slice e1 TL.length f1) (.slice e2 TR.length f2) (.slice g1 TL.length h1) (.slice g2 TR.length h2) z (intS TL) (intS TR) w12 (row_sgr u1 t1) (row_sgr u2 t2) (row_sgr v1 t1) (row_sgr v2 t2) (by rw [intS_len]; omega) (by rw [intS_len]; omega)
    exact h
  have HBW : Hid (Below W.heap.size W w12) := HO12.out.below (go_on HB1.out (go_on HB13.out HB14.out)) (Nat.le_refl _) (fun b q => by have := HSB.out b q; omega)
  clear ho m0 m1 m2 hs23 hs5 hs6 hs9 hs1 hs10 t1 t2 t3 t4
  have m0 : w12.cell? ⟨w6.heap.size, 0, none⟩ = some (.slice e1 TL.length f1) := cell_at HUB.out rfl
  have m1 : w12.cell? ⟨w6.heap.size, 1, none⟩ = some (.slice e2 TR.length f2) := cell_at HUB.out rfl
  have m2 : w12.cell? ⟨w6.heap.size, 2, none⟩ = some (.bool z) := cell_at HUB.out rfl
  have n0 : w12.cell? ⟨w10.heap.size, 0, none⟩ = some (.slice g1 TL.length h1) := cell_at HVB.out rfl
  have n1 : w12.cell? ⟨w10.heap.size, 1, none⟩ = some (.slice g2 TR.length h2) := cell_at HVB.out rfl
  have n2 : w12.cell? ⟨w10.heap.size, 2, none⟩ = some (.bool z) := cell_at HVB.out rfl
  go_wp2_with fail
  refine Calls.mono HSAM.out ?_
  rintro e w13 ⟨rfl, hb13⟩
  have HB13' : Hid (Below W.heap.size W w13) := go_on HBW.out hb13
  clear hb13 m0 m1 m2 n0 n1 n2
  go_wp2_with fail
  go_ret
  exact ⟨rfl, HB13'.out⟩

/-! ### The row's step -/
theorem own : ownKnob Try.prog.godebug = none := by kernel_rfl
set_option maxRecDepth 100000 in
theorem lifted (os : Os) (started : os.Started) (H : Type) (enc : TypeId × Value → H) :
    ReturnsInHanded {} Try.checked os 4 .any (Rows.termsPrintsSpec.pre6 enc Try.prog Try.f4 Rows.termsPrintsRow.domain false) (Rows.termsPrintsSpec.post enc Try.prog Try.f4 false true false false) := by
  refine returnsInHanded_of_change_sized (C := Try.checked) own started (by kernel_rfl) Try.func4
    (ChangeSpec.witness6 (enc := enc) (C := Try.checked) false ⟨#[], #[.agg #[.slice none 0 0, .slice none 0 0, .bool false]], []⟩ 8 (by kernel_rfl) (by kernel_rfl) (by kernel_rfl) (by kernel_rfl)) ?_
  intro W base args ds gs before hval0 hW hcnd hsz0 _
  have hval : ∀ (j : Nat) t v, Try.f4.params[j]? = some t → args[j]? = some v → Value.okWide Try.prog W .any base t v := hval0
  clear hval0
  have hsz : (DataW.weightsEach Try.prog (Try.f4.params.toList ++ Rows.termsPrintsSpec.plain.varTypes Try.prog) (ds ++ gs)).all (· ≤ reachBytes) = true := hsz0
  clear hsz0
  have hW' := hW
  obtain ⟨p, q, hA0, hV, rfl, hfz, hnd⟩ := hW
  have hA : DataW.TrodAll enc Try.prog W 0 (fun _ => true) true Try.f4.params.toList args.toList ds p := hA0
  rw [Try.params4] at hA hval hsz
  obtain ⟨v0, vs0, d0, ds0, p0, q0, hargs, rfl, rfl, h0, r0⟩ := trodAll_cons hA
  obtain ⟨rfl, rfl, rfl⟩ := trodAll_nil r0
  obtain rfl : args = #[v0] := by cases args; simp_all
  obtain ⟨rfl, rfl⟩ := trodVars_none hV
  obtain ⟨vl0, vr0, xx0, L0, R0, rfl, x0, y0, n0, m0, _, _, dd00, dd01, dd02, e0, lx0, ly0⟩ := open_identE (hval 0 24 v0 rfl rfl) h0
  have b0 := ident_bounds hsz (j := 0) rfl (by rw [e0]; rfl) lx0 ly0
  have g0 : ∀ x ∈ p0, x.block < W.heap.size := fun x hx => hW'.lt x (by simp [hx])
  clear hA0
  refine (walk vl0 vr0 xx0 L0 R0 W x0 y0 n0 m0 b0.1 b0.2).mono fun e W' ⟨he, bel⟩ => ?_
  subst he
  exact ⟨_, rfl, _, _, _, [], _, [], hW', trodAll_mk1 (shut_bool Try.underlying4 _), (trodAll_cons_mk (Below.trod Try.laidOut (by kernel_rfl) (of_decide_eq_true (by kernel_rfl)) h0 bel g0) trodAll_mk0), rfl, bel.frame _, fun h => by cases h⟩

theorem over : Rows.termsPrintsRow.holds Try.pinned (OpenSpec.ofChange Rows.termsPrintsSpec) :=
  OpenClaim.holds_of_wide 4 Try.f4 rfl rfl rfl rfl rfl rfl rfl ⟨rfl, rfl, rfl, rfl, rfl⟩ rfl rfl rfl rfl rfl (by kernel_rfl) Try.func4 (by kernel_rfl)
    (of_decide_eq_true (by kernel_rfl)) (by unfold Func.isWrapper; first | (rw [if_pos (by decide +kernel)]; kernel_rfl) | (rw [if_neg (by decide +kernel)]; exact ⟨rfl, rfl⟩))
    (fun os started H enc _ => lifted os started H enc)

end Go.Proofs.Ythhlamehbcidgaa.termsPrints
namespace Go.Proofs.Ythhlamehbcidgaa
/-- The given statement. -/
theorem termsPrints_holds : Rows.TermsPrintsSaid := termsPrints.over
end Go.Proofs.Ythhlamehbcidgaa
