/- Proved: eggboxlaw19.TermsBack answers true (P19.8): what Print writes of an identity is parsed as it was; what was parsed is printed, and parsed as it was, and printed the same -/
import Derived.Test.YtaleljpejgnecaaY16
import Derived.Test.YtaleljpejgnecaaY30
import Derived.Test.YtaleljpejgnecaaY31
import Derived.ChangeMaps5
namespace Go.Proofs.Ytaleljpejgnecaa.termsBack
open Go Go.ChangeShapes Go.WideShapes Go.ChangeAt Go.RowKit Go.Lib
open Go.ChangeMaps (open_string shut_string)
set_option linter.unusedVariables false

theorem Try.laidOut : laidOutB Try.prog = true := by kernel_rfl
theorem byt_of {w : World} {v : Value} {A : Sg} (h : SgR w v (intS A)) : Byt A := fun p hp => by
  obtain ⟨i, hi, e⟩ := List.getElem_of_mem hp
  obtain ⟨a, cap, rfl, hr⟩ := h
  obtain ⟨g, o, _, _, _, _, h3⟩ := hr i (by simpa [intS] using hi)
  have : (intS A).getD i (0, 0) = ((A[i].1 : Int), A[i].2) := by simp [List.getD_eq_getElem?_getD, intS, hi]
  rw [this] at h3
  rw [← e]
  exact h3
theorem print_rt (A B : Sg) (x : Bool) (h : ck2 (intS A) (intS B) = 0) (vl vr : Value) (w : World) (hl : SgR w vl (intS A)) (hr : SgR w vr (intS B)) :
    Calls Try.prog 15 #[.agg #[vl, vr, .bool x]] w fun e w' => e = .returned (prV ((wrB A ++ btw x) ++ wrB B)) ∧ Below w.heap.size w w' := by
  obtain ⟨s1, s2, -, -⟩ := ck2_sides h
  obtain ⟨p, m, hp, ep⟩ := side_written s1
  obtain ⟨q, k, hq, eq⟩ := side_written s2
  have h0 := print_ok A B x h _ _ p q m k hp hq vl vr w hl hr
  rw [ep, eq] at h0
  exact h0
/-- Print's answer, told apart by its error. -/
def PtQ (L R : List (Int × Nat)) (x : Bool) (w : World) (e : Ending) (w' : World) : Prop :=
  ((∃ A B : Sg, ∃ O, L = intS A ∧ R = intS B ∧ ck2 L R = 0 ∧ O = (wrB A ++ btw x) ++ wrB B ∧ O.size ≤ 1000 ∧ e = .returned (.tuple #[.string O, .int .i64 0])) ∨ (∃ er : Int, er ≠ 0 ∧ e = .returned (.tuple #[.string ⟨#[]⟩, .int .i64 er]))) ∧ Below w.heap.size w w'
theorem print_pt (vl vr : Value) (x : Bool) (L R : List (Int × Nat)) (w : World) (hl : SgR w vl L) (hr : SgR w vr R) (hL : L.length ≤ 9223372036854775807) (hR : R.length ≤ 9223372036854775807) : Calls Try.prog 15 #[.agg #[vl, vr, .bool x]] w (PtQ L R x w) :=
  (print_any vl vr x L R w hl hr hL hR).mono fun e w' h => by
    refine ⟨?_, h.2⟩
    rcases h.1 with ⟨A, B, h1, h2, h3, h4⟩ | ⟨h1, h2⟩
    · by_cases hs : ((wrB A ++ btw x) ++ wrB B).size ≤ 1000
      · exact .inl ⟨A, B, _, h1, h2, h3, rfl, hs, by rw [h4]; unfold prV; rw [if_pos hs]⟩
      · exact .inr ⟨6, by decide, by rw [h4]; unfold prV; rw [if_neg hs]⟩
    · exact .inr ⟨_, h1, h2⟩

set_option maxHeartbeats 8000000 in
set_option maxRecDepth 100000 in
theorem walk (vl vr : Value) (x : Bool) (L R : List (Int × Nat)) (text : ByteArray) (W : World) (hl : SgR W vl L) (hr : SgR W vr R) (hL : L.length ≤ maxLen) (hR : R.length ≤ maxLen) (_ : text.size ≤ 140737488355327) : Calls Try.prog 7 #[.agg #[vl, vr, .bool x], .string text] W fun e w' => e = .returned (.bool true) ∧ Below W.heap.size W w' := by
  have hml : maxLen = 9223372036854775807 := by decide
  rw [hml] at hL hR
  obtain ⟨a1, c1, e1⟩ := hl.len
  obtain ⟨a2, c2, e2⟩ := hr.len
  obtain ⟨w1, hw1⟩ : ∃ w1, w1 = W.alloc (.cells #[vl, vr, .bool x] 24) := ⟨_, rfl⟩
  have hb1 : Below W.heap.size W w1 := by rw [hw1]; exact below_new _ _
  have HPT : Hid (Calls Try.prog 15 #[.agg #[vl, vr, .bool x]] w1 (PtQ L R x w1)) := print_pt vl vr x L R w1 (hl.below hb1) (hr.below hb1) hL hR
  subst e1 e2
  have HW1 : Hid (w1 = W.alloc (.cells #[.slice a1 L.length c1, .slice a2 R.length c2, .bool x] 24)) := hw1
  have HI1 : Hid (w1.heap[W.heap.size]? = some (.cells #[.slice a1 L.length c1, .slice a2 R.length c2, .bool x] 24 (0, 0)) ∧ Below W.heap.size W w1) := by
    show _ ∧ _
    rw [hw1]
    exact ⟨heap_last _ _, below_new _ _⟩
  have HS : Hid (SgR W (.slice a1 L.length c1) L ∧ SgR W (.slice a2 R.length c2) R) := ⟨hl, hr⟩
  clear hl hr hw1 hb1 hml hL hR
  go_enter Try.func7, Try.ntmps7
  go_wp2_with fail
  rw [← HW1.out]
  refine Calls.mono HPT.out ?_
  rintro e w2 ⟨⟨A, B, O, rfl, rfl, hck, hO, hsz, rfl⟩ | ⟨er, her, rfl⟩, hb2⟩
  · have HB2 : Hid (Below W.heap.size W w2) := go_on HI1.out.2 hb2
    have HI2 : Hid (w2.heap[W.heap.size]? = some (.cells #[.slice a1 (intS A).length c1, .slice a2 (intS B).length c2, .bool x] 24 (0, 0))) := (hb2.block _ (Array.getElem?_eq_some_iff.1 HI1.out.1).1).trans HI1.out.1
    have HPA : Hid (Calls Try.prog 8 #[.string O] w2 (PaQ A B x w2)) := by
      have b1 := byt_of HS.out.1
      have b2 := byt_of HS.out.2
      obtain ⟨s1, s2, -, -⟩ := ck2_sides hck
      have hid := id_back (x := x) s1 s2 b1 b2
      rw [← hO] at hid
      exact parse_ok hsz hid b1 b2 hck w2
    have HBY : Hid (Byt A ∧ Byt B ∧ (intS A).length ≤ 400 ∧ (intS B).length ≤ 400) := ⟨byt_of HS.out.1, byt_of HS.out.2, (ck2_sides hck).2.2⟩
    clear hck hO hsz hb2
    go_wp2_with fail
    refine (num_any 0 _).mono ?_
    rintro e w3 ⟨rfl, rfl⟩
    go_wp2_with fail
    refine Calls.mono HPA.out ?_
    rintro e w3 ⟨ul, ur, rfl, gl, gr, hb3, -⟩
    obtain ⟨a7, c7, rfl⟩ := own_shape gl
    obtain ⟨a8, c8, rfl⟩ := own_shape gr
    have HG3 : Hid (SgR w3 (.slice a7 A.length c7) (intS A) ∧ SgR w3 (.slice a8 B.length c8) (intS B)) := ⟨row_sgr gl HBY.out.1, row_sgr gr HBY.out.2.1⟩
    have HB3 : Hid (Below W.heap.size W w3) := go_on HB2.out hb3
    have HI3 : Hid (w3.heap[W.heap.size]? = some (.cells #[.slice a1 (intS A).length c1, .slice a2 (intS B).length c2, .bool x] 24 (0, 0))) := (hb3.block _ (Array.getElem?_eq_some_iff.1 HI2.out).1).trans HI2.out
    obtain ⟨wb, hwb⟩ : ∃ wb, wb = w3.alloc (.cells #[.slice a7 A.length c7, .slice a8 B.length c8, .bool x] 24) := ⟨_, rfl⟩
    have HWB : Hid (wb = w3.alloc (.cells #[.slice a7 A.length c7, .slice a8 B.length c8, .bool x] 24)) := hwb
    have hbb : Below w3.heap.size w3 wb := by rw [hwb]; exact below_new _ _
    have HBB : Hid (Below W.heap.size W wb) := go_on HB3.out hbb
    have hJ : wb.heap[w3.heap.size]? = some (.cells #[.slice a7 A.length c7, .slice a8 B.length c8, .bool x] 24 (0, 0)) := by rw [hwb]; exact heap_last _ _
    have hI : wb.heap[W.heap.size]? = some (.cells #[.slice a1 (intS A).length c1, .slice a2 (intS B).length c2, .bool x] 24 (0, 0)) := (hbb.block _ (Array.getElem?_eq_some_iff.1 HI3.out).1).trans HI3.out
    have HSM : Hid (Calls Try.prog 10 #[.agg #[.slice a7 A.length c7, .slice a8 B.length c8, .bool x], .agg #[.slice a1 (intS A).length c1, .slice a2 (intS B).length c2, .bool x]] wb fun e w' => e = .returned (.bool true) ∧ Below wb.heap.size wb w') := by
      have q1 := HBY.out.2.2
      exact same_same _ _ _ _ x (intS A) (intS B) wb (HG3.out.1.below hbb) (HG3.out.2.below hbb) (HS.out.1.below HBB.out) (HS.out.2.below HBB.out) (by omega) (by omega)
    have k0 : wb.cell? ⟨w3.heap.size, 0, none⟩ = some (.slice a7 A.length c7) := cell_at hJ rfl
    have k1 : wb.cell? ⟨w3.heap.size, 1, none⟩ = some (.slice a8 B.length c8) := cell_at hJ rfl
    have k2 : wb.cell? ⟨w3.heap.size, 2, none⟩ = some (.bool x) := cell_at hJ rfl
    have m0 : wb.cell? ⟨W.heap.size, 0, none⟩ = some (.slice a1 (intS A).length c1) := cell_at hI rfl
    have m1 : wb.cell? ⟨W.heap.size, 1, none⟩ = some (.slice a2 (intS B).length c2) := cell_at hI rfl
    have m2 : wb.cell? ⟨W.heap.size, 2, none⟩ = some (.bool x) := cell_at hI rfl
    clear gl gr hb3 hwb hbb hJ hI
    go_upto_region 4 with fail
    rw [← HWB.out]
    go_wp2_with fail
    refine (num_any 0 _).mono ?_
    rintro e w4 ⟨rfl, rfl⟩
    go_wp2_with fail
    clear k0 k1 k2 m0 m1 m2
    refine Calls.mono HSM.out ?_
    rintro e w5 ⟨rfl, hb5⟩
    have HB5 : Hid (Below W.heap.size W w5) := go_on HBB.out hb5
    clear hb5
    go_wp2_with fail
    refine (parse_any text w5).mono ?_
    rintro e wp (⟨L2, R2, x2, hs2, hi2, hk2, vl2, vr2, rfl, hl2, hr2, hb2, -⟩ | ⟨pl, er, her, rfl, hb2⟩)
    rotate_left
    · have HE : Hid (er ≠ 0) := her
      have hneb : (er != 0) = true := by rw [bne_iff_ne]; exact her
      have hned : decide (er ≠ 0) = true := decide_eq_true her
      have HBP : Hid (Below W.heap.size W wp) := go_on HB5.out hb2
      have HBQ : Hid (Below wp.heap.size wp (wp.alloc (.cells #[.slice none 0 0, .slice none 0 0, .bool false] 24))) := below_new _ _
      clear hb2
      go_wp2_with fail
      refine (num_any er _).mono ?_
      rintro e w4 ⟨rfl, rfl⟩
      go_wp2_with fail
      refine (knows19_any _).mono ?_
      rintro e w5 ⟨rfl, hb5⟩
      have HB5 : Hid (Below W.heap.size W w5) := go_on (go_on HBP.out HBQ.out) hb5
      clear hb5
      go_wp2_with fail
      go_ret
      exact ⟨rfl, HB5.out⟩
    obtain ⟨a3, c3, rfl⟩ := own_shape hl2
    obtain ⟨a4, c4, rfl⟩ := own_shape hr2
    obtain ⟨y2, y3, y4, y5⟩ := id_byt hi2
    obtain ⟨z2, z3, z4, z5⟩ := ck2_sides hk2
    have HBP : Hid (Below W.heap.size W wp) := go_on HB5.out hb2
    have HLP : Hid (SgR wp (.slice a3 L2.length c3) (intS L2) ∧ SgR wp (.slice a4 R2.length c4) (intS R2)) := ⟨row_sgr hl2 y2, row_sgr hr2 y3⟩
    have HQ : Hid (Byt L2 ∧ Byt R2 ∧ sideB (intS L2) = true ∧ sideB (intS R2) = true ∧ ck2 (intS L2) (intS R2) = 0 ∧ L2.length ≤ 400 ∧ R2.length ≤ 400) := ⟨y2, y3, z2, z3, hk2, by simpa [intS] using z4, by simpa [intS] using z5⟩
    obtain ⟨wa, hwa⟩ : ∃ wa, wa = wp.alloc (.cells #[.slice a3 L2.length c3, .slice a4 R2.length c4, .bool x2] 24) := ⟨_, rfl⟩
    have HWA : Hid (wa = wp.alloc (.cells #[.slice a3 L2.length c3, .slice a4 R2.length c4, .bool x2] 24)) := hwa
    have HIA : Hid (wa.heap[wp.heap.size]? = some (.cells #[.slice a3 L2.length c3, .slice a4 R2.length c4, .bool x2] 24 (0, 0)) ∧ Below wp.heap.size wp wa) := by
      show _ ∧ _
      rw [hwa]
      exact ⟨heap_last _ _, below_new _ _⟩
    clear hl2 hr2 hb2 hi2 hk2 hs2 y2 y3 y4 y5 z2 z3 z4 z5 hwa
    go_upto_region 7 with fail
    rw [← HWA.out]
    go_wp2_with fail
    refine (num_any 0 _).mono ?_
    rintro e w4 ⟨rfl, rfl⟩
    go_wp2_with fail
    refine (knows19_any _).mono ?_
    rintro e wk ⟨rfl, hbk⟩
    have HBK : Hid (Below wp.heap.size wp wk) := go_on HIA.out.2 hbk
    have hIK : wk.heap[wp.heap.size]? = some (.cells #[.slice a3 L2.length c3, .slice a4 R2.length c4, .bool x2] 24 (0, 0)) := (hbk.block _ (Array.getElem?_eq_some_iff.1 HIA.out.1).1).trans HIA.out.1
    have HIK : Hid (wk.heap[wp.heap.size]? = some (.cells #[.slice a3 L2.length c3, .slice a4 R2.length c4, .bool x2] 24 (0, 0))) := hIK
    have k0 : wk.cell? ⟨wp.heap.size, 0, none⟩ = some (.slice a3 L2.length c3) := cell_at hIK rfl
    have k1 : wk.cell? ⟨wp.heap.size, 1, none⟩ = some (.slice a4 R2.length c4) := cell_at hIK rfl
    have k2 : wk.cell? ⟨wp.heap.size, 2, none⟩ = some (.bool x2) := cell_at hIK rfl
    clear hbk hIK
    go_wp2_with fail
    clear k0 k1 k2
    obtain ⟨O, hO⟩ : ∃ O, ((wrB L2 ++ btw x2) ++ wrB R2) = O := ⟨_, rfl⟩
    have HO : Hid (idP O = some (L2, R2, x2)) := by
      show _ = _
      rw [← hO]
      exact id_back HQ.out.2.2.1 HQ.out.2.2.2.1 HQ.out.1 HQ.out.2.1
    have HPR : Hid (∀ (w : World) (v1 v2 : Value), SgR w v1 (intS L2) → SgR w v2 (intS R2) → Calls Try.prog 15 #[.agg #[v1, v2, .bool x2]] w fun e w' => e = .returned (prV O) ∧ Below w.heap.size w w') := fun w v1 v2 h1 h2 => by
      have := print_rt L2 R2 x2 HQ.out.2.2.2.2.1 v1 v2 w h1 h2
      rw [hO] at this
      exact this
    clear hO
    refine Calls.mono (HPR.out wk _ _ (HLP.out.1.below HBK.out) (HLP.out.2.below HBK.out)) ?_
    rintro e w6 ⟨rfl, hb6⟩
    have HB6 : Hid (Below wp.heap.size wp w6) := go_on HBK.out hb6
    have HI6 : Hid (w6.heap[wp.heap.size]? = some (.cells #[.slice a3 L2.length c3, .slice a4 R2.length c4, .bool x2] 24 (0, 0))) := (hb6.block _ (Array.getElem?_eq_some_iff.1 HIK.out).1).trans HIK.out
    clear hb6
    by_cases hsz : O.size ≤ 1000
    rotate_left
    · have hv : prV O = .tuple #[.string ⟨#[]⟩, .int .i64 6] := by unfold prV; rw [if_neg hsz]
      rw [hv]
      clear hv
      go_wp2_with fail
      refine (num_any 6 _).mono ?_
      rintro e w7 ⟨rfl, rfl⟩
      go_wp2_with fail
      refine (num_any 6 _).mono ?_
      rintro e w7 ⟨rfl, rfl⟩
      go_wp2_with fail
      go_ret
      exact ⟨rfl, go_on HBP.out HB6.out⟩
    have HV : Hid (prV O = .tuple #[.string O, .int .i64 0]) := by show _ = _; unfold prV; rw [if_pos hsz]
    rw [HV.out]
    have HPP : Hid (∀ w, Calls Try.prog 8 #[.string O] w (PaQ L2 R2 x2 w)) := fun w => parse_ok hsz HO.out HQ.out.1 HQ.out.2.1 HQ.out.2.2.2.2.1 w
    clear hsz
    go_wp2_with fail
    refine (num_any 0 _).mono ?_
    rintro e w7 ⟨rfl, rfl⟩
    go_wp2_with fail
    refine Calls.mono (HPP.out w6) ?_
    rintro e w8 ⟨vl5, vr5, rfl, hl5, hr5, hb8, -⟩
    obtain ⟨a5, c5, rfl⟩ := own_shape hl5
    obtain ⟨a6, c6, rfl⟩ := own_shape hr5
    have HB8 : Hid (Below wp.heap.size wp w8) := go_on HB6.out hb8
    have HL8 : Hid (SgR w8 (.slice a5 L2.length c5) (intS L2) ∧ SgR w8 (.slice a6 R2.length c6) (intS R2)) := ⟨row_sgr hl5 HQ.out.1, row_sgr hr5 HQ.out.2.1⟩
    have HI8 : Hid (w8.heap[wp.heap.size]? = some (.cells #[.slice a3 L2.length c3, .slice a4 R2.length c4, .bool x2] 24 (0, 0))) := (hb8.block _ (Array.getElem?_eq_some_iff.1 HI6.out).1).trans HI6.out
    obtain ⟨wc, hwc⟩ : ∃ wc, wc = w8.alloc (.cells #[.slice a5 L2.length c5, .slice a6 R2.length c6, .bool x2] 24) := ⟨_, rfl⟩
    have HWC : Hid (wc = w8.alloc (.cells #[.slice a5 L2.length c5, .slice a6 R2.length c6, .bool x2] 24)) := hwc
    have HIC : Hid (wc.heap[w8.heap.size]? = some (.cells #[.slice a5 L2.length c5, .slice a6 R2.length c6, .bool x2] 24 (0, 0)) ∧ Below w8.heap.size w8 wc) := by
      show _ ∧ _
      rw [hwc]
      exact ⟨heap_last _ _, below_new _ _⟩
    clear hl5 hr5 hb8 hwc
    have k0 : wc.cell? ⟨w8.heap.size, 0, none⟩ = some (.slice a5 L2.length c5) := cell_at HIC.out.1 rfl
    have k1 : wc.cell? ⟨w8.heap.size, 1, none⟩ = some (.slice a6 R2.length c6) := cell_at HIC.out.1 rfl
    have k2 : wc.cell? ⟨w8.heap.size, 2, none⟩ = some (.bool x2) := cell_at HIC.out.1 rfl
    go_upto_region 13 with fail
    rw [← HWC.out]
    go_wp2_with fail
    clear k0 k1 k2
    refine Calls.mono (HPR.out wc _ _ (HL8.out.1.below HIC.out.2) (HL8.out.2.below HIC.out.2)) ?_
    rintro e w9 ⟨rfl, hb9⟩
    rw [HV.out]
    have HB9 : Hid (Below w8.heap.size w8 w9) := go_on HIC.out.2 hb9
    have hI9 : w9.heap[wp.heap.size]? = some (.cells #[.slice a3 L2.length c3, .slice a4 R2.length c4, .bool x2] 24 (0, 0)) := (HB9.out.block _ (Array.getElem?_eq_some_iff.1 HI8.out).1).trans HI8.out
    have hJ9 : w9.heap[w8.heap.size]? = some (.cells #[.slice a5 L2.length c5, .slice a6 R2.length c6, .bool x2] 24 (0, 0)) := (hb9.block _ (Array.getElem?_eq_some_iff.1 HIC.out.1).1).trans HIC.out.1
    have k0 : w9.cell? ⟨w8.heap.size, 0, none⟩ = some (.slice a5 L2.length c5) := cell_at hJ9 rfl
    have k1 : w9.cell? ⟨w8.heap.size, 1, none⟩ = some (.slice a6 R2.length c6) := cell_at hJ9 rfl
    have k2 : w9.cell? ⟨w8.heap.size, 2, none⟩ = some (.bool x2) := cell_at hJ9 rfl
    have m0 : w9.cell? ⟨wp.heap.size, 0, none⟩ = some (.slice a3 L2.length c3) := cell_at hI9 rfl
    have m1 : w9.cell? ⟨wp.heap.size, 1, none⟩ = some (.slice a4 R2.length c4) := cell_at hI9 rfl
    have m2 : w9.cell? ⟨wp.heap.size, 2, none⟩ = some (.bool x2) := cell_at hI9 rfl
    have HSM : Hid (Calls Try.prog 10 #[.agg #[.slice a5 L2.length c5, .slice a6 R2.length c6, .bool x2], .agg #[.slice a3 L2.length c3, .slice a4 R2.length c4, .bool x2]] w9 fun e w' => e = .returned (.bool true) ∧ Below w9.heap.size w9 w') := by
      have q1 := HQ.out.2.2.2.2.2
      exact same_same _ _ _ _ x2 (intS L2) (intS R2) w9 (HL8.out.1.below HB9.out) (HL8.out.2.below HB9.out) (HLP.out.1.below (go_on HB8.out HB9.out)) (HLP.out.2.below (go_on HB8.out HB9.out)) (by simp [intS]; omega) (by simp [intS]; omega)
    clear hb9 hI9 hJ9
    go_wp2_with fail
    refine (num_any 0 _).mono ?_
    rintro e w10 ⟨rfl, rfl⟩
    go_wp2_with fail
    refine (num_any 0 _).mono ?_
    rintro e w10 ⟨rfl, rfl⟩
    go_wp2_with fail
    refine Calls.mono HSM.out ?_
    rintro e w11 ⟨rfl, hb11⟩
    have HB11 : Hid (Below W.heap.size W w11) := go_on HBP.out (go_on HB8.out (go_on HB9.out hb11))
    clear hb11 k0 k1 k2 m0 m1 m2
    go_wp2_with fail
    go_ret
    exact ⟨by simp, HB11.out⟩
  · have HB2 : Hid (Below W.heap.size W w2) := go_on HI1.out.2 hb2
    have hneb0 : (er == 0) = false := by rw [beq_eq_false_iff_ne]; exact her
    have hned0 : decide (er = 0) = false := decide_eq_false her
    clear hb2
    go_wp2_with fail
    refine (num_any er _).mono ?_
    rintro e w3 ⟨rfl, rfl⟩
    go_wp2_with fail
    clear hneb0 hned0 her
    refine (parse_any text w2).mono ?_
    rintro e wp (⟨L2, R2, x2, hs2, hi2, hk2, vl2, vr2, rfl, hl2, hr2, hb2, -⟩ | ⟨pl, er, her, rfl, hb2⟩)
    rotate_left
    · have HE : Hid (er ≠ 0) := her
      have hneb : (er != 0) = true := by rw [bne_iff_ne]; exact her
      have hned : decide (er ≠ 0) = true := decide_eq_true her
      have HBP : Hid (Below W.heap.size W wp) := go_on HB2.out hb2
      have HBQ : Hid (Below wp.heap.size wp (wp.alloc (.cells #[.slice none 0 0, .slice none 0 0, .bool false] 24))) := below_new _ _
      clear hb2
      go_wp2_with fail
      refine (num_any er _).mono ?_
      rintro e w4 ⟨rfl, rfl⟩
      go_wp2_with fail
      refine (knows19_any _).mono ?_
      rintro e w5 ⟨rfl, hb5⟩
      have HB5 : Hid (Below W.heap.size W w5) := go_on (go_on HBP.out HBQ.out) hb5
      clear hb5
      go_wp2_with fail
      go_ret
      exact ⟨rfl, HB5.out⟩
    obtain ⟨a3, c3, rfl⟩ := own_shape hl2
    obtain ⟨a4, c4, rfl⟩ := own_shape hr2
    obtain ⟨y2, y3, y4, y5⟩ := id_byt hi2
    obtain ⟨z2, z3, z4, z5⟩ := ck2_sides hk2
    have HBP : Hid (Below W.heap.size W wp) := go_on HB2.out hb2
    have HLP : Hid (SgR wp (.slice a3 L2.length c3) (intS L2) ∧ SgR wp (.slice a4 R2.length c4) (intS R2)) := ⟨row_sgr hl2 y2, row_sgr hr2 y3⟩
    have HQ : Hid (Byt L2 ∧ Byt R2 ∧ sideB (intS L2) = true ∧ sideB (intS R2) = true ∧ ck2 (intS L2) (intS R2) = 0 ∧ L2.length ≤ 400 ∧ R2.length ≤ 400) := ⟨y2, y3, z2, z3, hk2, by simpa [intS] using z4, by simpa [intS] using z5⟩
    obtain ⟨wa, hwa⟩ : ∃ wa, wa = wp.alloc (.cells #[.slice a3 L2.length c3, .slice a4 R2.length c4, .bool x2] 24) := ⟨_, rfl⟩
    have HWA : Hid (wa = wp.alloc (.cells #[.slice a3 L2.length c3, .slice a4 R2.length c4, .bool x2] 24)) := hwa
    have HIA : Hid (wa.heap[wp.heap.size]? = some (.cells #[.slice a3 L2.length c3, .slice a4 R2.length c4, .bool x2] 24 (0, 0)) ∧ Below wp.heap.size wp wa) := by
      show _ ∧ _
      rw [hwa]
      exact ⟨heap_last _ _, below_new _ _⟩
    clear hl2 hr2 hb2 hi2 hk2 hs2 y2 y3 y4 y5 z2 z3 z4 z5 hwa
    go_upto_region 7 with fail
    rw [← HWA.out]
    go_wp2_with fail
    refine (num_any 0 _).mono ?_
    rintro e w4 ⟨rfl, rfl⟩
    go_wp2_with fail
    refine (knows19_any _).mono ?_
    rintro e wk ⟨rfl, hbk⟩
    have HBK : Hid (Below wp.heap.size wp wk) := go_on HIA.out.2 hbk
    have hIK : wk.heap[wp.heap.size]? = some (.cells #[.slice a3 L2.length c3, .slice a4 R2.length c4, .bool x2] 24 (0, 0)) := (hbk.block _ (Array.getElem?_eq_some_iff.1 HIA.out.1).1).trans HIA.out.1
    have HIK : Hid (wk.heap[wp.heap.size]? = some (.cells #[.slice a3 L2.length c3, .slice a4 R2.length c4, .bool x2] 24 (0, 0))) := hIK
    have k0 : wk.cell? ⟨wp.heap.size, 0, none⟩ = some (.slice a3 L2.length c3) := cell_at hIK rfl
    have k1 : wk.cell? ⟨wp.heap.size, 1, none⟩ = some (.slice a4 R2.length c4) := cell_at hIK rfl
    have k2 : wk.cell? ⟨wp.heap.size, 2, none⟩ = some (.bool x2) := cell_at hIK rfl
    clear hbk hIK
    go_wp2_with fail
    clear k0 k1 k2
    obtain ⟨O, hO⟩ : ∃ O, ((wrB L2 ++ btw x2) ++ wrB R2) = O := ⟨_, rfl⟩
    have HO : Hid (idP O = some (L2, R2, x2)) := by
      show _ = _
      rw [← hO]
      exact id_back HQ.out.2.2.1 HQ.out.2.2.2.1 HQ.out.1 HQ.out.2.1
    have HPR : Hid (∀ (w : World) (v1 v2 : Value), SgR w v1 (intS L2) → SgR w v2 (intS R2) → Calls Try.prog 15 #[.agg #[v1, v2, .bool x2]] w fun e w' => e = .returned (prV O) ∧ Below w.heap.size w w') := fun w v1 v2 h1 h2 => by
      have := print_rt L2 R2 x2 HQ.out.2.2.2.2.1 v1 v2 w h1 h2
      rw [hO] at this
      exact this
    clear hO
    refine Calls.mono (HPR.out wk _ _ (HLP.out.1.below HBK.out) (HLP.out.2.below HBK.out)) ?_
    rintro e w6 ⟨rfl, hb6⟩
    have HB6 : Hid (Below wp.heap.size wp w6) := go_on HBK.out hb6
    have HI6 : Hid (w6.heap[wp.heap.size]? = some (.cells #[.slice a3 L2.length c3, .slice a4 R2.length c4, .bool x2] 24 (0, 0))) := (hb6.block _ (Array.getElem?_eq_some_iff.1 HIK.out).1).trans HIK.out
    clear hb6
    by_cases hsz : O.size ≤ 1000
    rotate_left
    · have hv : prV O = .tuple #[.string ⟨#[]⟩, .int .i64 6] := by unfold prV; rw [if_neg hsz]
      rw [hv]
      clear hv
      go_wp2_with fail
      refine (num_any 6 _).mono ?_
      rintro e w7 ⟨rfl, rfl⟩
      go_wp2_with fail
      refine (num_any 6 _).mono ?_
      rintro e w7 ⟨rfl, rfl⟩
      go_wp2_with fail
      go_ret
      exact ⟨rfl, go_on HBP.out HB6.out⟩
    have HV : Hid (prV O = .tuple #[.string O, .int .i64 0]) := by show _ = _; unfold prV; rw [if_pos hsz]
    rw [HV.out]
    have HPP : Hid (∀ w, Calls Try.prog 8 #[.string O] w (PaQ L2 R2 x2 w)) := fun w => parse_ok hsz HO.out HQ.out.1 HQ.out.2.1 HQ.out.2.2.2.2.1 w
    clear hsz
    go_wp2_with fail
    refine (num_any 0 _).mono ?_
    rintro e w7 ⟨rfl, rfl⟩
    go_wp2_with fail
    refine Calls.mono (HPP.out w6) ?_
    rintro e w8 ⟨vl5, vr5, rfl, hl5, hr5, hb8, -⟩
    obtain ⟨a5, c5, rfl⟩ := own_shape hl5
    obtain ⟨a6, c6, rfl⟩ := own_shape hr5
    have HB8 : Hid (Below wp.heap.size wp w8) := go_on HB6.out hb8
    have HL8 : Hid (SgR w8 (.slice a5 L2.length c5) (intS L2) ∧ SgR w8 (.slice a6 R2.length c6) (intS R2)) := ⟨row_sgr hl5 HQ.out.1, row_sgr hr5 HQ.out.2.1⟩
    have HI8 : Hid (w8.heap[wp.heap.size]? = some (.cells #[.slice a3 L2.length c3, .slice a4 R2.length c4, .bool x2] 24 (0, 0))) := (hb8.block _ (Array.getElem?_eq_some_iff.1 HI6.out).1).trans HI6.out
    obtain ⟨wc, hwc⟩ : ∃ wc, wc = w8.alloc (.cells #[.slice a5 L2.length c5, .slice a6 R2.length c6, .bool x2] 24) := ⟨_, rfl⟩
    have HWC : Hid (wc = w8.alloc (.cells #[.slice a5 L2.length c5, .slice a6 R2.length c6, .bool x2] 24)) := hwc
    have HIC : Hid (wc.heap[w8.heap.size]? = some (.cells #[.slice a5 L2.length c5, .slice a6 R2.length c6, .bool x2] 24 (0, 0)) ∧ Below w8.heap.size w8 wc) := by
      show _ ∧ _
      rw [hwc]
      exact ⟨heap_last _ _, below_new _ _⟩
    clear hl5 hr5 hb8 hwc
    have k0 : wc.cell? ⟨w8.heap.size, 0, none⟩ = some (.slice a5 L2.length c5) := cell_at HIC.out.1 rfl
    have k1 : wc.cell? ⟨w8.heap.size, 1, none⟩ = some (.slice a6 R2.length c6) := cell_at HIC.out.1 rfl
    have k2 : wc.cell? ⟨w8.heap.size, 2, none⟩ = some (.bool x2) := cell_at HIC.out.1 rfl
    go_upto_region 13 with fail
    rw [← HWC.out]
    go_wp2_with fail
    clear k0 k1 k2
    refine Calls.mono (HPR.out wc _ _ (HL8.out.1.below HIC.out.2) (HL8.out.2.below HIC.out.2)) ?_
    rintro e w9 ⟨rfl, hb9⟩
    rw [HV.out]
    have HB9 : Hid (Below w8.heap.size w8 w9) := go_on HIC.out.2 hb9
    have hI9 : w9.heap[wp.heap.size]? = some (.cells #[.slice a3 L2.length c3, .slice a4 R2.length c4, .bool x2] 24 (0, 0)) := (HB9.out.block _ (Array.getElem?_eq_some_iff.1 HI8.out).1).trans HI8.out
    have hJ9 : w9.heap[w8.heap.size]? = some (.cells #[.slice a5 L2.length c5, .slice a6 R2.length c6, .bool x2] 24 (0, 0)) := (hb9.block _ (Array.getElem?_eq_some_iff.1 HIC.out.1).1).trans HIC.out.1
    have k0 : w9.cell? ⟨w8.heap.size, 0, none⟩ = some (.slice a5 L2.length c5) := cell_at hJ9 rfl
    have k1 : w9.cell? ⟨w8.heap.size, 1, none⟩ = some (.slice a6 R2.length c6) := cell_at hJ9 rfl
    have k2 : w9.cell? ⟨w8.heap.size, 2, none⟩ = some (.bool x2) := cell_at hJ9 rfl
    have m0 : w9.cell? ⟨wp.heap.size, 0, none⟩ = some (.slice a3 L2.length c3) := cell_at hI9 rfl
    have m1 : w9.cell? ⟨wp.heap.size, 1, none⟩ = some (.slice a4 R2.length c4) := cell_at hI9 rfl
    have m2 : w9.cell? ⟨wp.heap.size, 2, none⟩ = some (.bool x2) := cell_at hI9 rfl
    have HSM : Hid (Calls Try.prog 10 #[.agg #[.slice a5 L2.length c5, .slice a6 R2.length c6, .bool x2], .agg #[.slice a3 L2.length c3, .slice a4 R2.length c4, .bool x2]] w9 fun e w' => e = .returned (.bool true) ∧ Below w9.heap.size w9 w') := by
      have q1 := HQ.out.2.2.2.2.2
      exact same_same _ _ _ _ x2 (intS L2) (intS R2) w9 (HL8.out.1.below HB9.out) (HL8.out.2.below HB9.out) (HLP.out.1.below (go_on HB8.out HB9.out)) (HLP.out.2.below (go_on HB8.out HB9.out)) (by simp [intS]; omega) (by simp [intS]; omega)
    clear hb9 hI9 hJ9
    go_wp2_with fail
    refine (num_any 0 _).mono ?_
    rintro e w10 ⟨rfl, rfl⟩
    go_wp2_with fail
    refine (num_any 0 _).mono ?_
    rintro e w10 ⟨rfl, rfl⟩
    go_wp2_with fail
    refine Calls.mono HSM.out ?_
    rintro e w11 ⟨rfl, hb11⟩
    have HB11 : Hid (Below W.heap.size W w11) := go_on HBP.out (go_on HB8.out (go_on HB9.out hb11))
    clear hb11 k0 k1 k2 m0 m1 m2
    go_wp2_with fail
    go_ret
    exact ⟨by simp, HB11.out⟩

/-! ### The row's step -/
theorem own : ownKnob Try.prog.godebug = none := by kernel_rfl
set_option maxRecDepth 100000 in
theorem lifted (os : Os) (started : os.Started) (H : Type) (enc : TypeId × Value → H) :
    ReturnsInHanded {} Try.checked os 7 .any (Rows.termsBackSpec.pre6 enc Try.prog Try.f7 Rows.termsBackRow.domain false) (Rows.termsBackSpec.post enc Try.prog Try.f7 false true false false) := by
  refine returnsInHanded_of_change_sized (C := Try.checked) own started (by kernel_rfl) Try.func7
    (ChangeSpec.witness6 (enc := enc) (C := Try.checked) false ⟨#[], #[.agg #[.slice none 0 0, .slice none 0 0, .bool false], .string ByteArray.empty], []⟩ 8 (by kernel_rfl) (by kernel_rfl) (by kernel_rfl) (by kernel_rfl)) ?_
  intro W base args ds gs before hval0 hW hcnd hsz0 _
  have hval : ∀ (j : Nat) t v, Try.f7.params[j]? = some t → args[j]? = some v → Value.okWide Try.prog W .any base t v := hval0
  clear hval0
  have hsz : (DataW.weightsEach Try.prog (Try.f7.params.toList ++ Rows.termsBackSpec.plain.varTypes Try.prog) (ds ++ gs)).all (· ≤ reachBytes) = true := hsz0
  clear hsz0
  have hW' := hW
  obtain ⟨p, q, hA0, hV, rfl, hfz, hnd⟩ := hW
  have hA : DataW.TrodAll enc Try.prog W 0 (fun _ => true) true Try.f7.params.toList args.toList ds p := hA0
  rw [Try.params7] at hA hval hsz
  obtain ⟨v0, vs0, d0, ds0, p0, q0, hargs, rfl, rfl, h0, r0⟩ := trodAll_cons hA
  obtain ⟨v1, vs1, d1, ds1, p1, q1, rfl, rfl, rfl, h1, r1⟩ := trodAll_cons r0
  obtain ⟨rfl, rfl, rfl⟩ := trodAll_nil r1
  obtain rfl : args = #[v0, v1] := by cases args; simp_all
  obtain ⟨rfl, rfl⟩ := trodVars_none hV
  obtain ⟨vl0, vr0, xx0, L0, R0, rfl, x0, y0, lx0, ly0⟩ := open_ident (hval 0 24 v0 rfl rfl) h0
  have g0 : ∀ x ∈ p0, x.block < W.heap.size := fun x hx => hW'.lt x (by simp [hx])
  obtain ⟨a1, rfl, rfl, rfl, w1⟩ := open_string Try.underlying9 (hval 1 9 v1 rfl rfl) h1
  have u1 : a1.size ≤ 140737488355327 := by
    have := sized_string hsz (j := 1) (t := 9) rfl rfl
    have e : a1.data.toList.length = a1.size := rfl
    simp only [reachBytes] at this
    omega
  clear hA0
  refine (walk vl0 vr0 xx0 L0 R0 a1 W x0 y0 lx0 ly0 u1).mono fun e W' ⟨he, bel⟩ => ?_
  subst he
  exact ⟨_, rfl, _, _, _, [], _, [], hW', trodAll_mk1 (shut_bool Try.underlying4 _), (trodAll_cons_mk (Below.trod Try.laidOut (by kernel_rfl) (of_decide_eq_true (by kernel_rfl)) h0 bel g0) (trodAll_cons_mk (shut_string Try.underlying9 w1) trodAll_mk0)), rfl, bel.frame _, fun h => by cases h⟩

theorem over : Rows.termsBackRow.holds Try.pinned (OpenSpec.ofChange Rows.termsBackSpec) :=
  OpenClaim.holds_of_wide 7 Try.f7 rfl rfl rfl rfl rfl rfl rfl ⟨rfl, rfl, rfl, rfl, rfl⟩ rfl rfl rfl rfl rfl (by kernel_rfl) Try.func7 (by kernel_rfl)
    (of_decide_eq_true (by kernel_rfl)) (by unfold Func.isWrapper; first | (rw [if_pos (by decide +kernel)]; kernel_rfl) | (rw [if_neg (by decide +kernel)]; exact ⟨rfl, rfl⟩))
    (fun os started H enc _ => lifted os started H enc)

end Go.Proofs.Ytaleljpejgnecaa.termsBack
namespace Go.Proofs.Ytaleljpejgnecaa
/-- The given statement. -/
theorem termsBack_holds : Rows.TermsBackSaid := termsBack.over
end Go.Proofs.Ytaleljpejgnecaa
