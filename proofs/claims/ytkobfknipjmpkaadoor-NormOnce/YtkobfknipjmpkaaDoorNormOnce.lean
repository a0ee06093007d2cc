/- Proved: the card of eggboxlaw05.NormOnce: it answers true at every list of nodes (P505), with tree.partsOf as the program's text lays it: of a list that is a tree norm.Normal's answer is its own normal form, norm.Is says so, its Union and its Inter with the tree are it again, and the complement of its complement is it, wherever the complement is not too large (it is only where the normal form has 4000 nodes); of any other list nothing is answered. -/
import Derived.Test.YtkobfknipjmpkaaDoorXu
import Derived.Test.YtkobfknipjmpkaaDoorTm
import Derived.LaidMore
import Derived.Stop.Joined
import Derived.Lib.LaidTab
import Derived.SevenTiedAt
import Derived.ShutString
import Derived.ChangeMaps5
import Derived.Test.YtkobfknipjmpkaaDoorTie
import Derived.Test.YtkobfknipjmpkaaDoorCards
namespace Go.Proofs.YtkobfknipjmpkaaDoor.normOnce
open Go.ChangeShapes Go.WideShapes Go.ChangeAt Go.RowKit
open Go.ChangeMaps (open_string shut_string)
set_option linter.unusedVariables false

theorem wrong_tr {T : Tr} (ho : T.ok) (hl : T.flat.length ≤ 4000) : wrong T.flat = 0 := by
  unfold wrong
  rw [if_neg (by omega), if_pos (Tr.ok_free T ho)]
theorem nrm5 (A C : Tr) : nrm (.two (5, 0) A C) = R2 5 (nrm A) (nrm C) := by simp [nrm]
theorem nrm6 (A C : Tr) : nrm (.two (6, 0) A C) = R2 6 (nrm A) (nrm C) := by simp [nrm]
theorem nrm9 (A : Tr) : nrm (.one (9, 0) A) = RN (nrm A) := by simp [nrm]

set_option maxHeartbeats 16000000 in
set_option maxRecDepth 100000 in
theorem walk (v : Value) (ts : List Nd) (w : World) (hv : NReads w v ts) (hn : ∀ c, v = .slice none 0 c → c = 0) (hl : (ts.length + 2) * 16 ≤ 140737488355328) (hP : PTab w) :
    Calls Tryd.prog 7 #[v] w fun e w' => e = .returned (.bool true) ∧ Below w.heap.size w w' := by
  have HV : Hid (NReads w v ts) := hv
  have HP : Hid (PTab w) := hP
  have HL : Hid (ts.length ≤ 9223372036854775806) := by show _ ≤ _; omega
  by_cases h0 : wrong ts = 0
  · obtain ⟨T, ho, hT⟩ := nfL_of h0
    subst hT
    obtain ⟨hl4, _⟩ := wrong_zero h0
    obtain ⟨a, cap, hve, _⟩ := id hv
    subst hve
    have HW : Hid (wrong T.flat = 0) := h0
    have HO : Hid T.ok := ho
    obtain ⟨hno, hnf⟩ := nrm_ok ho
    have hnl := nrm_len ho
    have HNO : Hid ((nrm T).ok ∧ NF (nrm T)) := ⟨hno, hnf⟩
    have HWN : Hid (wrong (nrm T).flat = 0) := wrong_tr hno (by omega)
    have HNN : Hid (nrm (nrm T) = nrm T) := nrm_nf hno hnf
    have HLN : Hid ((nrm T).flat.length ≤ 4000) := by show _ ≤ _; omega
    have HU5 : Hid (nrm (.two (5, 0) T (nrm T)) = nrm T) := by show _ = _; rw [nrm5, nrm_nf hno hnf, R2_self (.inl rfl) hno hnf]
    have HI6 : Hid (nrm (.two (6, 0) (nrm T) T) = nrm T) := by show _ = _; rw [nrm6, nrm_nf hno hnf, R2_self (.inr rfl) hno hnf]
    obtain ⟨hro, hrf⟩ := RN_ok hno hnf
    have HN9 : Hid (nrm (.one (9, 0) T) = RN (nrm T)) := nrm9 T
    have HRN : Hid ((RN (nrm T)).ok) := hro
    have HR9 : Hid (nrm (.one (9, 0) (RN (nrm T))) = nrm T) := by show _ = _; rw [nrm9, nrm_nf hro hrf, RN_self hno hnf]
    have HRL : Hid (4000 < (RN (nrm T)).flat.length → (nrm T).flat.length = 4000) := fun h => by
      have := RN_len (nrm T)
      omega
    obtain ⟨Rt, hRt⟩ : ∃ Rt, nrm T = Rt := ⟨_, rfl⟩
    have HC1 := normal_good T ho a cap w hv hP h0
    clear hv hn hl hP h0 hl4 ho hno hnf hnl hro hrf
    go_enter Tryd.func7, Tryd.ntmps7
    go_wp2_with fail
    refine HC1.mono ?_
    rintro e w1 ⟨u1, rfl, ho1, hb1⟩
    rw [hRt] at ho1 HNO HWN HNN HLN HU5 HI6 HN9 HRN HR9 HRL
    clear HC1 hRt
    obtain ⟨ua, uc, rfl⟩ := own_shape ho1
    have HB1 : Hid (Below w.heap.size w w1) := hb1
    have HN1 : Hid (NReads w1 (.slice ua Rt.flat.length uc) Rt.flat) := own_nreads ho1
    clear ho1 hb1
    go_wp2_with fail
    refine (num5_any _ _).mono ?_
    rintro e w1' ⟨rfl, rfl⟩
    go_wp2_with fail
    refine (knows5_any _ (HP.out.stay HB1.out)).mono ?_
    rintro e w2 ⟨rfl, hb2⟩
    have HB2 : Hid (Below w.heap.size w w2) := go_on HB1.out hb2
    have HN2 : Hid (NReads w2 (.slice ua Rt.flat.length uc) Rt.flat) := HN1.out.stay hb2
    clear hb2 HN1 HB1
    go_wp2_with fail
    refine (normal_good Rt HNO.out.1 ua uc _ HN2.out (HP.out.stay HB2.out) HWN.out).mono ?_
    rintro e w3 ⟨u3, rfl, ho3, hb3⟩
    rw [HNN.out] at ho3
    obtain ⟨ma, mc, rfl⟩ := own_shape ho3
    have HB3 : Hid (Below w.heap.size w w3) := go_on HB2.out hb3
    have HN3 : Hid (NReads w3 (.slice ua Rt.flat.length uc) Rt.flat) := HN2.out.stay hb3
    have HM3 : Hid (NReads w3 (.slice ma Rt.flat.length mc) Rt.flat) := own_nreads ho3
    clear hb3 ho3 HN2 HB2
    go_wp2_with fail
    refine (is_good Rt HNO.out.1 ua uc _ HN3.out (HP.out.stay HB3.out) HWN.out).mono ?_
    rintro e w4 ⟨rfl, hb4⟩
    rw [HNN.out, decide_eq_true rfl]
    have HB4 : Hid (Below w.heap.size w w4) := go_on HB3.out hb4
    have HN4 : Hid (NReads w4 (.slice ua Rt.flat.length uc) Rt.flat) := HN3.out.stay hb4
    have HM4 : Hid (NReads w4 (.slice ma Rt.flat.length mc) Rt.flat) := HM3.out.stay hb4
    clear hb4 HN3 HM3 HB3
    go_wp2_with fail
    refine (union_good T Rt HO.out HNO.out.1 _ _ _ (HV.out.stay HB4.out) HN4.out (HP.out.stay HB4.out) HW.out HWN.out).mono ?_
    rintro e w5 h5
    rcases h5 with ⟨h5, _, _⟩ | ⟨_, u5, rfl, ho5, hb5⟩
    · rw [HU5.out] at h5; exact absurd HLN.out (by omega)
    rw [HU5.out] at ho5
    obtain ⟨pa, pc, rfl⟩ := own_shape ho5
    have HB5 : Hid (Below w.heap.size w w5) := go_on HB4.out hb5
    have HN5 : Hid (NReads w5 (.slice ua Rt.flat.length uc) Rt.flat) := HN4.out.stay hb5
    have HM5 : Hid (NReads w5 (.slice ma Rt.flat.length mc) Rt.flat) := HM4.out.stay hb5
    have HQ5 : Hid (NReads w5 (.slice pa Rt.flat.length pc) Rt.flat) := own_nreads ho5
    clear hb5 ho5 HN4 HM4 HB4
    go_wp2_with fail
    refine (inter_good Rt T HNO.out.1 HO.out _ _ _ HN5.out (HV.out.stay HB5.out) (HP.out.stay HB5.out) HWN.out HW.out).mono ?_
    rintro e w6 h6
    rcases h6 with ⟨h6, _, _⟩ | ⟨_, u6, rfl, ho6, hb6⟩
    · rw [HI6.out] at h6; exact absurd HLN.out (by omega)
    rw [HI6.out] at ho6
    obtain ⟨qa, qc, rfl⟩ := own_shape ho6
    have HB6 : Hid (Below w.heap.size w w6) := go_on HB5.out hb6
    have HN6 : Hid (NReads w6 (.slice ua Rt.flat.length uc) Rt.flat) := HN5.out.stay hb6
    have HM6 : Hid (NReads w6 (.slice ma Rt.flat.length mc) Rt.flat) := HM5.out.stay hb6
    have HQ6 : Hid (NReads w6 (.slice pa Rt.flat.length pc) Rt.flat) := HQ5.out.stay hb6
    have HS6 : Hid (NReads w6 (.slice qa Rt.flat.length qc) Rt.flat) := own_nreads ho6
    clear hb6 ho6 HN5 HM5 HQ5 HB5
    have HC := notN_good T HO.out _ w6 (HV.out.stay HB6.out) (HP.out.stay HB6.out) HW.out
    obtain ⟨m, hm⟩ : ∃ m, Rt.flat.length = m := ⟨_, rfl⟩
    have HMM : Hid (Rt.flat.length = m) := hm
    have hmb : m ≤ 4000 := by rw [← hm]; exact HLN.out
    have HSM : Hid (∀ (w' : World) (x y : Value), NReads w' x Rt.flat → NReads w' y Rt.flat → Calls Tryd.prog 18 #[x, y] w' fun e w'' => e = .returned (.bool true) ∧ Below w'.heap.size w' w'') := fun w' x y h1 h2 => by
      have := same_any x y _ _ w' h1 h2 (by omega)
      rw [decide_eq_true rfl] at this
      exact this
    rw [hm] at HN6 HM6 HQ6 HS6 ⊢
    clear hm
    go_wp2_with fail
    refine HC.mono ?_
    rintro e w7 h7
    rcases h7 with ⟨h7, rfl, hb7⟩ | ⟨h7, u7, rfl, ho7, hb7⟩
    · rw [HN9.out] at h7
      have hm4 : m = 4000 := by rw [← HMM.out]; exact HRL.out h7
      have HB7 : Hid (Below w.heap.size w w7) := go_on HB6.out hb7
      have HN7 : Hid (NReads w7 (.slice ua m uc) Rt.flat) := HN6.out.stay hb7
      have HM7 : Hid (NReads w7 (.slice ma m mc) Rt.flat) := HM6.out.stay hb7
      have HQ7 : Hid (NReads w7 (.slice pa m pc) Rt.flat) := HQ6.out.stay hb7
      have HS7 : Hid (NReads w7 (.slice qa m qc) Rt.flat) := HS6.out.stay hb7
      have HM4 : Hid (m = 4000) := hm4
      clear h7 hb7 HC HN6 HM6 HQ6 HS6 hm4
      go_wp2_with (first
        | (go_at_call 14; refine (num5_any _ _).mono ?_; rintro e wn ⟨rfl, rfl⟩)
        | fail)
      refine (HSM.out _ _ _ HM7.out HN7.out).mono ?_
      rintro e w8 ⟨rfl, hb8⟩
      have HB8 : Hid (Below w.heap.size w w8) := go_on HB7.out hb8
      have HN8 : Hid (NReads w8 (.slice ua m uc) Rt.flat) := HN7.out.stay hb8
      have HQ8 : Hid (NReads w8 (.slice pa m pc) Rt.flat) := HQ7.out.stay hb8
      have HS8 : Hid (NReads w8 (.slice qa m qc) Rt.flat) := HS7.out.stay hb8
      clear hb8 HB7 HN7 HQ7 HS7
      go_wp2_with (first
        | (go_at_call 14; refine (num5_any _ _).mono ?_; rintro e wn ⟨rfl, rfl⟩)
        | fail)
      refine (HSM.out _ _ _ HQ8.out HN8.out).mono ?_
      rintro e w9 ⟨rfl, hb9⟩
      have HB9 : Hid (Below w.heap.size w w9) := go_on HB8.out hb9
      have HN9 : Hid (NReads w9 (.slice ua m uc) Rt.flat) := HN8.out.stay hb9
      have HS9 : Hid (NReads w9 (.slice qa m qc) Rt.flat) := HS8.out.stay hb9
      clear hb9 HB8 HN8 HS8
      go_wp2_with (first
        | (go_at_call 14; refine (num5_any _ _).mono ?_; rintro e wn ⟨rfl, rfl⟩)
        | fail)
      refine (HSM.out _ _ _ HS9.out HN9.out).mono ?_
      rintro e w10 ⟨rfl, hb10⟩
      have HB10 : Hid (Below w.heap.size w w10) := go_on HB9.out hb10
      have HN10 : Hid (NReads w10 (.slice ua m uc) Rt.flat) := HN9.out.stay hb10
      clear hb10 HB9 HN9
      have hm4b : ((m : Int) == 4000) = true := by rw [beq_iff_eq, HM4.out]; rfl
      go_wp2_with (first
        | (go_at_call 14; refine (num5_any _ _).mono ?_; rintro e wn ⟨rfl, rfl⟩)
        | fail)
      go_ret
      exact ⟨rfl, HB10.out⟩
    · rw [HN9.out] at h7 ho7
      obtain ⟨ra, rc, rfl⟩ := own_shape ho7
      obtain ⟨r, hr⟩ : ∃ r, (RN Rt).flat.length = r := ⟨_, rfl⟩
      have HA7' := own_nreads ho7
      rw [hr] at HA7' ⊢
      have HA7 : Hid (NReads w7 (.slice ra r rc) (RN Rt).flat) := HA7'
      have HWR : Hid (wrong (RN Rt).flat = 0) := wrong_tr HRN.out h7
      have HB7 : Hid (Below w.heap.size w w7) := go_on HB6.out hb7
      have HN7 : Hid (NReads w7 (.slice ua m uc) Rt.flat) := HN6.out.stay hb7
      have HM7 : Hid (NReads w7 (.slice ma m mc) Rt.flat) := HM6.out.stay hb7
      have HQ7 : Hid (NReads w7 (.slice pa m pc) Rt.flat) := HQ6.out.stay hb7
      have HS7 : Hid (NReads w7 (.slice qa m qc) Rt.flat) := HS6.out.stay hb7
      clear h7 ho7 hb7 HC HN6 HM6 HQ6 HS6 HA7' hr
      go_wp2_with (first
        | (go_at_call 14; refine (num5_any _ _).mono ?_; rintro e wn ⟨rfl, rfl⟩)
        | fail)
      refine (HSM.out _ _ _ HM7.out HN7.out).mono ?_
      rintro e w8 ⟨rfl, hb8⟩
      have HB8 : Hid (Below w.heap.size w w8) := go_on HB7.out hb8
      have HN8 : Hid (NReads w8 (.slice ua m uc) Rt.flat) := HN7.out.stay hb8
      have HQ8 : Hid (NReads w8 (.slice pa m pc) Rt.flat) := HQ7.out.stay hb8
      have HS8 : Hid (NReads w8 (.slice qa m qc) Rt.flat) := HS7.out.stay hb8
      have HA8 : Hid (NReads w8 (.slice ra r rc) (RN Rt).flat) := HA7.out.stay hb8
      clear hb8 HB7 HN7 HQ7 HS7 HA7
      go_wp2_with (first
        | (go_at_call 14; refine (num5_any _ _).mono ?_; rintro e wn ⟨rfl, rfl⟩)
        | fail)
      refine (HSM.out _ _ _ HQ8.out HN8.out).mono ?_
      rintro e w9 ⟨rfl, hb9⟩
      have HB9 : Hid (Below w.heap.size w w9) := go_on HB8.out hb9
      have HN9 : Hid (NReads w9 (.slice ua m uc) Rt.flat) := HN8.out.stay hb9
      have HS9 : Hid (NReads w9 (.slice qa m qc) Rt.flat) := HS8.out.stay hb9
      have HA9 : Hid (NReads w9 (.slice ra r rc) (RN Rt).flat) := HA8.out.stay hb9
      clear hb9 HB8 HN8 HS8 HA8
      go_wp2_with (first
        | (go_at_call 14; refine (num5_any _ _).mono ?_; rintro e wn ⟨rfl, rfl⟩)
        | fail)
      refine (HSM.out _ _ _ HS9.out HN9.out).mono ?_
      rintro e w10 ⟨rfl, hb10⟩
      have HB10 : Hid (Below w.heap.size w w10) := go_on HB9.out hb10
      have HN10 : Hid (NReads w10 (.slice ua m uc) Rt.flat) := HN9.out.stay hb10
      have HA10 : Hid (NReads w10 (.slice ra r rc) (RN Rt).flat) := HA9.out.stay hb10
      clear hb10 HB9 HN9 HA9
      go_wp2_with (first
        | (go_at_call 14; refine (num5_any _ _).mono ?_; rintro e wn ⟨rfl, rfl⟩)
        | fail)
      refine (notN_good (RN Rt) HRN.out _ _ HA10.out (HP.out.stay HB10.out) HWR.out).mono ?_
      rintro e w11 h11
      rcases h11 with ⟨h11, _, _⟩ | ⟨_, u11, rfl, ho11, hb11⟩
      · rw [HR9.out] at h11; exact absurd HLN.out (by omega)
      rw [HR9.out] at ho11
      have HX11 : Hid (NReads w11 u11 Rt.flat) := own_nreads ho11
      have HB11 : Hid (Below w.heap.size w w11) := go_on HB10.out hb11
      have HN11 : Hid (NReads w11 (.slice ua m uc) Rt.flat) := HN10.out.stay hb11
      clear hb11 ho11 HN10 HA10 HB10
      go_wp2_with (first
        | (go_at_call 14; refine (num5_any _ _).mono ?_; rintro e wn ⟨rfl, rfl⟩)
        | fail)
      refine (HSM.out _ _ _ HX11.out HN11.out).mono ?_
      rintro e w12 ⟨rfl, hb12⟩
      have HB12 : Hid (Below w.heap.size w w12) := go_on HB11.out hb12
      clear hb12
      go_wp2_with fail
      go_ret
      exact ⟨rfl, HB12.out⟩
  · have HC1 := normal_bad v ts w hv HL.out hP h0
    obtain ⟨x, hx⟩ : ∃ x, wrong ts = x := ⟨_, rfl⟩
    rw [hx] at HC1 h0
    have hxb : (x != 0) = true := by simpa using h0
    clear hx h0 hv hn hl hP
    go_enter Tryd.func7, Tryd.ntmps7
    go_wp2_with fail
    refine HC1.mono ?_
    rintro e w1 ⟨rfl, hb1⟩
    have HB1 : Hid (Below w.heap.size w w1) := hb1
    clear hb1 HC1
    go_wp2_with fail
    refine (num5_any _ _).mono ?_
    rintro e w1' ⟨rfl, rfl⟩
    go_wp2_with fail
    refine (knows5_any _ (HP.out.stay HB1.out)).mono ?_
    rintro e w2 ⟨rfl, hb2⟩
    have HB2 : Hid (Below w.heap.size w w2) := go_on HB1.out hb2
    clear hb2
    go_wp2_with fail
    go_ret
    exact ⟨rfl, HB2.out⟩
/-! ### The row's step -/
theorem own : ownKnob Tryd.prog.godebug = none := by kernel_rfl
def laid1 : List (String × DataW Unit) := [("eggbox/tree.partsOf", Rows.laid_eggbox_tree_partsOf)]
def tabZ : List Int := [0, 0, 0, 0, 0, 2, 2, 2, 1, 1]
theorem gTab : Tryd.prog.globalNamed "eggbox/tree.partsOf" = some 0 := by kernel_rfl
theorem tTab : (Tryd.prog.globals[0]?).map (·.type) = some 104 := by kernel_rfl
theorem of_laid {W : World} (h : laidMetH Tryd.prog laid1 W) : PTab W := by
  rw [MakeChecks.laidMetH_plain _ _ _ (by kernel_rfl)] at h
  have ht : Lib.TabIs Tryd.prog W "eggbox/tree.partsOf" .i64 tabZ :=
    Lib.tabIs_of_head (rest := []) gTab tTab Tryd.underlying104 Tryd.underlying3 (by kernel_rfl) (by kernel_rfl) h
  intro j hj
  have := ht.cell gTab j hj
  rw [this]
  have hc : j = 0 ∨ j = 1 ∨ j = 2 ∨ j = 3 ∨ j = 4 ∨ j = 5 ∨ j = 6 ∨ j = 7 ∨ j = 8 ∨ j = 9 := by omega
  rcases hc with rfl | rfl | rfl | rfl | rfl | rfl | rfl | rfl | rfl | rfl <;> rfl
/-- The door's own heap meets the condition. -/
theorem door_met (os : Os) (args : Array Value) : laidMetH Tryd.prog laid1 ((World.doorLaid Tryd.prog 400 os).forCall (fun _ _ => 0) ⟨#[], args, []⟩).memory :=
  laidMetH_of_parts3 (fuel := 8) (laidMet_of_run' 8 (by kernel_rfl) (by kernel_rfl)) (by kernel_rfl) (by kernel_rfl)

set_option maxRecDepth 100000 in
theorem lifted (os : Os) (started : os.Started) (H : Type) (enc : TypeId × Value → H) :
    ReturnsInHanded {} Tryd.checked os 7 .any (fun w args => (Rows.normOnceSpec.pre enc Tryd.prog Tryd.f7 [] false w args ∧ laidMetH Tryd.prog laid1 w) ∧ sizedMet enc Tryd.prog Tryd.f7 (OpenSpec.ofChange Rows.normOnceSpec) false w args)
      (Rows.normOnceSpec.post enc Tryd.prog Tryd.f7 false true false false) := by
  refine returnsInHanded_of_change_and (C := Tryd.checked) (X := fun w _ => laidMetH Tryd.prog laid1 w) (fun _ _ _ hh h => h.of_heap hh) own started (by kernel_rfl) Tryd.func7
    (ChangeSpec.witness_shaped (enc := enc) (C := Tryd.checked) (os := os) (X := fun w _ => laidMetH Tryd.prog laid1 w) false (World.doorLaid Tryd.prog 400 os) #[.slice none 0 0] 8 rfl (World.shaped_of_RefB (by kernel_rfl) (by kernel_rfl)) (by kernel_rfl) (by kernel_rfl) (by kernel_rfl) (door_met os _)) ?_
  intro W base args ds gs before hval0 hW _ hsz0 hL _
  have hval : ∀ (j : Nat) t v, Tryd.f7.params[j]? = some t → args[j]? = some v → Value.okWide Tryd.prog W .any base t v := hval0
  have hW' := hW
  obtain ⟨p, q, hA0, hV, rfl, hfz, hnd⟩ := hW
  have hA : DataW.TrodAll enc Tryd.prog W 0 (fun _ => true) true Tryd.f7.params.toList args.toList ds p := hA0
  have hsz : (DataW.weightsEach Tryd.prog (Tryd.f7.params.toList ++ Rows.normOnceSpec.plain.varTypes Tryd.prog) (ds ++ gs)).all (· ≤ reachBytes) = true := hsz0
  rw [Tryd.params7] at hA hval hsz
  obtain ⟨v0, vs0, d0, ds0, p0, q0, hargs, rfl, rfl, h0, r0⟩ := trodAll_cons hA
  obtain ⟨rfl, rfl, rfl⟩ := trodAll_nil r0
  obtain rfl : args = #[v0] := by cases args; simp_all
  obtain ⟨rfl, rfl⟩ := trodVars_none hV
  obtain ⟨a0, w0, x0, y0⟩ := open_nodes (hval 0 22 v0 rfl rfl) h0
  have s0 : (a0.length + 2) * 16 ≤ 140737488355328 := by
    rcases y0 with ⟨_, rfl⟩ | ⟨e, s, rfl, hy⟩
    · decide
    · have := sized_slice hsz (j := 0) (t := 22) rfl rfl Tryd.underlying22
      rw [Tryd.bytes_node] at this
      simp only [reachBytes] at this
      omega
  have z0 : a0.length ≤ 9223372036854775806 := by omega
  have g0 : ∀ x ∈ p0, x.block < W.heap.size := fun x hx => hW'.lt x (by simp [hx])
  have hTz := of_laid hL
  clear hA0 hval0
  refine (walk v0 a0 W w0 x0 s0 hTz).mono fun e W' ⟨he, bel⟩ => ?_
  subst he
  exact ⟨_, rfl, _, _, _, [], _, [], hW', trodAll_mk1 (shut_bool Tryd.underlying4 _), (trodAll_cons_mk (Below.trod Tryd.laidOut (by kernel_rfl) (of_decide_eq_true (by kernel_rfl)) h0 bel g0) trodAll_mk0), rfl, bel.frame _, fun h => by cases h⟩

theorem over : Rows.NormOnceSaid :=
  OpenClaim.holds_of_wide 7 Tryd.f7 rfl rfl rfl rfl rfl rfl rfl ⟨rfl, rfl, rfl, rfl, rfl⟩ rfl rfl rfl rfl rfl (by kernel_rfl) Tryd.func7 (by kernel_rfl)
    (of_decide_eq_true (by kernel_rfl)) (by unfold Func.isWrapper; first | (rw [if_pos (by decide +kernel)]; kernel_rfl) | (rw [if_neg (by decide +kernel)]; exact ⟨rfl, rfl⟩))
    (fun os started H enc _ => lifted os started H enc)

theorem card : Rows.NormOnceCardSaid :=
  Claim7.holds_tied_plain_at .later [] [.data] true (true, "b414daad54b9d0b08494abd64e408f62d117ebfe8175e1cfde69e226fd2cc268") false
    over (fun _ h => by cases h) (by kernel_rfl) (fun _ h => by cases h) normOnce_row_tie rfl ⟨rfl, rfl⟩ (by kernel_rfl) rfl
    (fun f fn hf hfn => by
      obtain rfl : f = 7 := Option.some.inj ((show Tryd.prog.funcNamed "eggbox/eggboxlaw05.NormOnce" = some 7 by kernel_rfl).symm.trans hf) |>.symm
      obtain rfl : fn = Tryd.f7 := (Option.some.inj (Tryd.func7.symm.trans hfn)).symm
      exact ⟨by kernel_rfl, fun j t ht => by
        rw [Tryd.params7] at ht
        have hm : t ∈ [22] := by simpa using Array.mem_of_getElem? ht
        have hall : ([22].all fun u => !Tryd.prog.wantsStandIn u) = true := by kernel_rfl
        exact (show Tryd.prog.wantsStandIn t = false by simpa using List.all_eq_true.1 hall t hm)⟩)
    (by kernel_rfl)

end Go.Proofs.YtkobfknipjmpkaaDoor.normOnce
namespace Go.Proofs.YtkobfknipjmpkaaDoor
/-- The given statement. -/
theorem normOnce_holds : Rows.NormOnceCardSaid := normOnce.card
end Go.Proofs.YtkobfknipjmpkaaDoor
