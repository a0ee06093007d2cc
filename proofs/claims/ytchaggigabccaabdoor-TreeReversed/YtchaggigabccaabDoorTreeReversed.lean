/- Proved: the card of eggboxlaw03.TreeReversed: it answers true at every list of nodes and every two texts (P307), with tree.partsOf as the program's text lays it: a tree reversed twice is itself, reversal keeps its length, its depth and how deep its stars stand, which is less than the depth; renaming by two texts, one behind the other, is renaming by one text made of both. -/
import Derived.Test.YtchaggigabccaabDoorPe
import Derived.Test.YtchaggigabccaabDoorTn
import Derived.LaidMore
import Derived.Laws.DeepStrings4
import Derived.Laws.Concat
import Derived.Stop.Joined
import Derived.Lib.LaidTab
import Derived.SevenTiedAt
import Derived.ShutString
import Derived.ChangeMaps5
import Derived.Test.YtchaggigabccaabDoorTie
import Derived.Test.YtchaggigabccaabDoorCards
namespace Go.Proofs.YtchaggigabccaabDoor.treeReversed
open Go.ChangeShapes Go.WideShapes Go.ChangeAt Go.RowKit
open Go.ChangeMaps (open_string shut_string)
set_option linter.unusedVariables false

theorem slice_u8 (s : ByteArray) (q : Nat) (h : q + 1 ≤ s.size) (w : World) :
    (Instr.slice 9 (.string s) (some (.int .u8 (q : Int))) (some (.int .u8 ((q : Int) + 1))) none).run Tryd.prog w = .ok (.string (s.extract q (q + 1))) w := by
  rw [run_slice_string_if _ _ _ _ _ _ _ Tryd.underlying9, if_pos (by omega), if_pos (by omega), show ((q : Int) + 1).toNat = q + 1 by omega, show ((q : Int)).toNat = q by omega]
theorem bAt_append (a b : ByteArray) (j : Nat) : bAt (a ++ b) j = if j < a.size then bAt a j else bAt b (j - a.size) := by
  unfold bAt
  by_cases h : j < a.size
  · rw [if_pos h, dif_pos h, dif_pos (by simp; omega), ByteArray.getElem_append_left h]
  · rw [if_neg h]
    by_cases h2 : j - a.size < b.size
    · rw [dif_pos h2, dif_pos (by simp; omega), ByteArray.getElem_append_right (by omega)]
    · rw [dif_neg h2, dif_neg (by simp; omega)]
theorem both_next {nm more bb : ByteArray} {i q : Nat} (h : Both nm more bb i) (hq : bAt nm i = 97 + (q : Int)) (hm : q + 1 ≤ more.size) : Both nm more (bb ++ more.extract q (q + 1)) (i + 1) := by
  have hs : (more.extract q (q + 1)).size = 1 := by simp; omega
  refine ⟨by rw [ByteArray.size_append, h.1, hs], fun j hj => ?_⟩
  rw [bAt_append, h.1]
  by_cases hji : j < i
  · rw [if_pos hji]; exact h.2 j hji
  · obtain rfl : j = i := by omega
    rw [if_neg hji, Nat.sub_self, hq, show (97 + (q : Int) - 97).toNat = q by omega]
    rw [bAt_get _ 0 (by omega), bAt_get _ q (by omega), ByteArray.getElem_extract]
    simp only [Nat.add_zero]

set_option maxHeartbeats 16000000 in
set_option maxRecDepth 100000 in
theorem walk (v : Value) (ts : List Nd) (nm more : ByteArray) (w : World) (hv : NReads w v ts) (hcap : ∀ a n c, v = .slice a n c → n ≤ c) (hm : ts.length ≤ 9223372036854775806) (hto : nm.size ≤ maxLen) (hmo : more.size ≤ maxLen) (hP : PTab w) :
    Calls Tryd.prog 3 #[v, .string nm, .string more] w fun e w' => e = .returned (.bool true) ∧ Below w.heap.size w w' := by
  have HV : Hid (NReads w v ts) := hv
  have HP : Hid (PTab w) := hP
  obtain ⟨av, cv, rfl, _⟩ := hv
  clear hP hcap
  by_cases h0 : wrong ts = 0
  · have HX : Hid (wrong ts = 0) := h0
    obtain ⟨h4, hf⟩ := wrong_len h0
    obtain ⟨t, hok, hts⟩ := tr_of ts.length ts (Nat.le_refl _) hf
    have HF : Hid (freeN ts = some 1) := hf
    have HT : Hid (t.ok ∧ t.flat = ts) := ⟨hok, hts⟩
    obtain ⟨R, hR⟩ : ∃ R, t.rev.flat = R := ⟨_, rfl⟩
    have hRl : R.length = ts.length := by rw [← hR, Tr.rev_len, hts]
    have HRl : Hid (R.length = ts.length) := hRl
    have hR4 : R.length ≤ 4000 := by omega
    have HRf : Hid (t.rev.flat = R ∧ freeN R = some 1 ∧ wrong R = 0 ∧ t.rev.rev.flat = ts) := by
      have h1 : freeN R = some 1 := by rw [← hR]; exact Tr.ok_free _ (Tr.rev_ok t hok)
      exact ⟨hR, h1, by rw [wrong, if_neg (by omega), if_pos h1], by rw [Tr.rev_rev, hts]⟩
    have HD : Hid ((heavyN (fun _ => 1) ts).getD 0 0 = t.way (fun _ => 1) ∧ (heavyN (fun _ => 1) R).getD 0 0 = t.way (fun _ => 1) ∧ (heavyN wtS ts).getD 0 0 = t.way wtS ∧ (heavyN wtS R).getD 0 0 = t.way wtS) := by
      refine ⟨by rw [← hts, Tr.way_flat _ _ hok], by rw [← hR, Tr.way_flat _ _ (Tr.rev_ok t hok), Tr.way_rev], by rw [← hts, Tr.way_flat _ _ hok], by rw [← hR, Tr.way_flat _ _ (Tr.rev_ok t hok), Tr.way_rev]⟩
    have hlt := Tr.star_lt t hok
    obtain ⟨d, hd⟩ : ∃ d, t.way (fun _ => 1) = d := ⟨_, rfl⟩
    obtain ⟨sd, hsd⟩ : ∃ sd, t.way wtS = sd := ⟨_, rfl⟩
    rw [hd, hsd] at HD
    rw [hd, hsd] at hlt
    have hsdI : ¬ (d : Int) ≤ (sd : Int) := by omega
    clear h0 hf hok hts hR hd hsd hRl
    go_enter Tryd.func3, Tryd.ntmps3
    go_wp2_with fail
    refine (reverse_good _ ts _ HV.out HP.out t HT.out.1 HT.out.2 h4).mono ?_
    rintro e w1 ⟨a, rfl, ho1, hb1⟩
    rw [HRf.out.1, ← HRl.out] at ho1
    obtain ⟨aa, ac, rfl⟩ := own_shape ho1
    have HA1 : Hid (w1.ownsRow w.heap.size 39 2 (.slice aa R.length ac) R.length (ndC R)) := ho1
    have HB1 : Hid (Below w.heap.size w w1) := hb1
    clear ho1 hb1
    go_wp2_with fail
    refine (num_any _ _).mono ?_
    rintro e w2 ⟨rfl, rfl⟩
    go_wp2_with fail
    refine (knows_any _ (HP.out.stay HB1.out)).mono ?_
    rintro e w3 ⟨rfl, hb3⟩
    have HA3 : Hid (NReads w3 (.slice aa R.length ac) R) := (own_nreads HA1.out).stay hb3
    have HB3 : Hid (Below w.heap.size w w3) := go_on HB1.out hb3
    clear hb3 HA1 HB1
    go_wp2_with fail
    refine (reverse_good _ R _ HA3.out (HP.out.stay HB3.out) t.rev (Tr.rev_ok t HT.out.1) HRf.out.1 hR4).mono ?_
    rintro e w4 ⟨b, rfl, ho4, hb4⟩
    rw [HRf.out.2.2.2, HRl.out] at ho4
    obtain ⟨ba, bc, rfl⟩ := own_shape ho4
    have HBB4 : Hid (NReads w4 (.slice ba ts.length bc) ts) := own_nreads ho4
    have HA4 : Hid (NReads w4 (.slice aa R.length ac) R) := HA3.out.stay hb4
    have HB4 : Hid (Below w.heap.size w w4) := go_on HB3.out hb4
    clear ho4 hb4 HA3 HB3
    go_wp2_with fail
    refine (depth_any _ ts _ (HV.out.stay HB4.out) h4 (HP.out.stay HB4.out) HX.out HF.out).mono ?_
    rintro e w5 ⟨rfl, hb5⟩
    rw [HD.out.1]
    have HBB5 : Hid (NReads w5 (.slice ba ts.length bc) ts) := HBB4.out.stay hb5
    have HA5 : Hid (NReads w5 (.slice aa R.length ac) R) := HA4.out.stay hb5
    have HB5 : Hid (Below w.heap.size w w5) := go_on HB4.out hb5
    clear hb5 HBB4 HA4 HB4
    go_wp2_with fail
    refine (depth_any _ R _ HA5.out hR4 (HP.out.stay HB5.out) HRf.out.2.2.1 HRf.out.2.1).mono ?_
    rintro e w6 ⟨rfl, hb6⟩
    rw [HD.out.2.1]
    have HBB6 : Hid (NReads w6 (.slice ba ts.length bc) ts) := HBB5.out.stay hb6
    have HA6 : Hid (NReads w6 (.slice aa R.length ac) R) := HA5.out.stay hb6
    have HB6 : Hid (Below w.heap.size w w6) := go_on HB5.out hb6
    clear hb6 HBB5 HA5 HB5
    go_wp2_with fail
    refine (stars_any _ ts _ (HV.out.stay HB6.out) h4 (HP.out.stay HB6.out) HX.out HF.out).mono ?_
    rintro e w7 ⟨rfl, hb7⟩
    rw [HD.out.2.2.1]
    have HBB7 : Hid (NReads w7 (.slice ba ts.length bc) ts) := HBB6.out.stay hb7
    have HA7 : Hid (NReads w7 (.slice aa R.length ac) R) := HA6.out.stay hb7
    have HB7 : Hid (Below w.heap.size w w7) := go_on HB6.out hb7
    clear hb7 HBB6 HA6 HB6
    go_wp2_with fail
    refine (stars_any _ R _ HA7.out hR4 (HP.out.stay HB7.out) HRf.out.2.2.1 HRf.out.2.1).mono ?_
    rintro e w8 ⟨rfl, hb8⟩
    rw [HD.out.2.2.2]
    have HBB8 : Hid (NReads w8 (.slice ba ts.length bc) ts) := HBB7.out.stay hb8
    have HB8 : Hid (Below w.heap.size w w8) := go_on HB7.out hb8
    clear hb8 HBB7 HA7 HB7
    go_wp2_with fail
    refine (num_any _ _).mono ?_
    rintro e w20 ⟨rfl, rfl⟩
    go_wp2_with fail
    refine (num_any _ _).mono ?_
    rintro e w21 ⟨rfl, rfl⟩
    go_wp2_with fail
    refine (num_any _ _).mono ?_
    rintro e w22 ⟨rfl, rfl⟩
    go_wp2_with fail
    refine (num_any _ _).mono ?_
    rintro e w23 ⟨rfl, rfl⟩
    go_wp2_with fail
    refine (num_any _ _).mono ?_
    rintro e w24 ⟨rfl, rfl⟩
    go_wp2_with fail
    refine (same_any _ _ ts ts _ HBB8.out (HV.out.stay HB8.out) (by omega)).mono ?_
    rintro e w9 ⟨rfl, hb9⟩
    rw [decide_eq_true (Eq.refl ts)]
    have HB9 : Hid (Below w.heap.size w w9) := go_on HB8.out hb9
    clear hb9 HBB8 HB8
    have hRlb : ((R.length : Int) != (ts.length : Int)) = false := by rw [HRl.out]; simp
    go_wp2_with fail
    clear hRlb
    refine (rename_any _ ts nm _ (HV.out.stay HB9.out) (by omega) (HP.out.stay HB9.out)).mono ?_
    rintro e w10 ⟨c, rfl, ho10, hb10⟩
    have HB10 : Hid (Below w.heap.size w w10) := go_on HB9.out hb10
    obtain ⟨ca, cc, rfl⟩ := own_shape ho10
    obtain ⟨C, hC⟩ : ∃ C, renT nm ts = C := ⟨_, rfl⟩
    rw [hC] at ho10 ⊢
    have HC10 : Hid (NReads w10 (.slice ca C.length cc) C) := own_nreads ho10
    obtain ⟨x, hx⟩ : ∃ x, renE nm ts = x := ⟨_, rfl⟩
    have HCX : Hid (renT nm ts = C ∧ renE nm ts = x) := ⟨hC, hx⟩
    rw [hx]
    clear hb10 ho10 HB9 hC hx
    by_cases hx0 : x = 0
    · subst hx0
      obtain ⟨h8, hl8, _⟩ := renE_zero HCX.out.2
      have hCe : C = ts.map (ren nm) := by rw [← HCX.out.1, renT, if_pos HCX.out.2]
      have HCw : Hid (wrong C = 0) := by show _ = _; rw [hCe]; exact wrong_ren h8 hl8 HX.out
      have HCl : Hid (C.length = ts.length) := by show _ = _; rw [hCe, List.length_map]
      have hC4 : C.length ≤ 4000 := by rw [HCl.out]; exact h4
      have HCE : Hid (C = ts.map (ren nm)) := hCe
      have HNM : Hid (nm.size = 8 ∧ lets nm = true) := ⟨h8, hl8⟩
      clear h8 hl8 hCe
      go_wp2_with fail
      refine (num_any _ _).mono ?_
      rintro e w30 ⟨rfl, rfl⟩
      go_wp2_with fail
      refine (rename_any _ C more _ HC10.out (by omega) (HP.out.stay HB10.out)).mono ?_
      rintro e w11 ⟨u, rfl, ho11, hb11⟩
      have HB11 : Hid (Below w.heap.size w w11) := go_on HB10.out hb11
      obtain ⟨ua, uc, rfl⟩ := own_shape ho11
      obtain ⟨U, hU⟩ : ∃ U, renT more C = U := ⟨_, rfl⟩
      rw [hU] at ho11 ⊢
      have HU11 : Hid (NReads w11 (.slice ua U.length uc) U) := own_nreads ho11
      obtain ⟨y, hy⟩ : ∃ y, renE more C = y := ⟨_, rfl⟩
      have HUY : Hid (renT more C = U ∧ renE more C = y) := ⟨hU, hy⟩
      rw [hy]
      clear hb11 ho11 HB10 hU hy
      by_cases hy0 : y = 0
      · subst hy0
        obtain ⟨m8, ml8, _⟩ := renE_zero HUY.out.2
        have hUe : U = (ts.map (ren nm)).map (ren more) := by rw [← HUY.out.1, renT, if_pos HUY.out.2, HCE.out]
        have HUl : Hid (U.length = ts.length) := by show _ = _; rw [hUe, List.length_map, List.length_map]
        have HUE : Hid (U = (ts.map (ren nm)).map (ren more)) := hUe
        have HMO : Hid (more.size = 8 ∧ lets more = true) := ⟨m8, ml8⟩
        clear m8 ml8 hUe
        go_wp2_with fail
        refine (num_any _ _).mono ?_
        rintro e w31 ⟨rfl, rfl⟩
        go_wp2_with fail
        go_loopw [23, 24] (fun vb vi wr => ∃ (i : Nat) (bb : ByteArray), i ≤ nm.size ∧ vi = .int .i64 i ∧ vb = .string bb ∧ Both nm more bb i ∧ Below w31.heap.size w31 wr) (fun _ vi _ => nm.size - (intOf vi).toNat)
        case atStart => exact ⟨0, _, Nat.zero_le _, rfl, rfl, ⟨rfl, fun j hj => by omega⟩, Below.refl _ _⟩
        case round =>
          obtain ⟨i, bb, hi, rfl, rfl, hbo, hb⟩ := hrel
          have hn8 : nm.size ≤ 8 := by have := HNM.out.1; omega
          have HBO : Hid (Both nm more bb i) := hbo
          have HB : Hid (Below w31.heap.size w31 wr) := hb
          clear hbo hb
          by_cases hlt : i < nm.size
          · have hiI : (i : Int) < nm.size := by omega
            obtain ⟨q, hq, hq8⟩ := let_place HNM.out.2 hlt
            have hbt := bAt_get nm i hlt
            rw [hq] at hbt
            have hms := HMO.out.1
            have hbt2 : (nm[i].toNat : Int) = 97 + (q : Int) := hbt.symm
            have hw1 : IntKind.u8.wrap (q : Int) = (q : Int) := by simp [IntKind.wrap, IntKind.signed, IntKind.bits]; omega
            have hw2 : IntKind.u8.wrap ((q : Int) + 1) = (q : Int) + 1 := by simp [IntKind.wrap, IntKind.signed, IntKind.bits]; omega
            have hq1 : (q : Int) + 1 ≤ more.size := by omega
            have hz : (97 + (q : Int) - 97) = (q : Int) := by omega
            have hsl := slice_u8 more q (by omega)
            have HBN : Hid (Both nm more (bb ++ more.extract q (q + 1)) (i + 1)) := both_next HBO.out hq (by omega)
            have hbs : bb.size ≤ 8 := by rw [HBO.out.1]; have := HNM.out.1; omega
            have hcat := fun W => run_string_add_sum (P := Tryd.prog) W bb (more.extract q (q + 1)) (by simp; omega)
            clear hbt hq
            go_wp2_with fail
            go_region
            all_goals go_wp2_with fail
            all_goals go_roundw
            all_goals first
              | (case rel => exact ⟨i + 1, _, by omega, by go_num, rfl, HBN.out, HB.out.drew⟩)
              | (case measure => simp [intOf]; omega)
          · have hiI : ¬ (i : Int) < nm.size := by omega
            obtain rfl : i = nm.size := by omega
            have hB8 : Both nm more bb 8 := by have := HBO.out; rwa [HNM.out.1] at this
            have hbl : lets bb = true := both_lets HNM.out.1 HNM.out.2 HMO.out.1 HMO.out.2 hB8
            have HVE : Hid (renE bb ts = 0) := renE_of hB8.1 hbl HX.out
            have HVT : Hid (renT bb ts = U) := by show _ = _; rw [renT, if_pos HVE.out, HUE.out]; exact both_map hB8 HF.out
            have HBt : Hid (Below w.heap.size w wr) := go_on HB11.out HB.out
            have HUr : Hid (NReads wr (.slice ua U.length uc) U) := HU11.out.stay HB.out
            clear hB8 hbl
            go_wp2_with fail
            refine (rename_any _ ts bb _ (HV.out.stay HBt.out) (by omega) (HP.out.stay HBt.out)).mono ?_
            rintro e w12 ⟨v, rfl, ho12, hb12⟩
            rw [HVT.out] at ho12
            rw [HVE.out]
            obtain ⟨va, vc, rfl⟩ := own_shape ho12
            have HV12 : Hid (NReads w12 (.slice va U.length vc) U) := own_nreads ho12
            have HU12 : Hid (NReads w12 (.slice ua U.length uc) U) := HUr.out.stay hb12
            have HB12 : Hid (Below w.heap.size w w12) := go_on HBt.out hb12
            clear ho12 hb12 HUr HBt
            go_wp2_with fail
            refine (num_any _ _).mono ?_
            rintro e w32 ⟨rfl, rfl⟩
            go_wp2_with fail
            refine (same_any _ _ U U _ HU12.out HV12.out (by rw [HUl.out]; omega)).mono ?_
            rintro e w13 ⟨rfl, hb13⟩
            rw [decide_eq_true (Eq.refl U)]
            have HB13 : Hid (Below w.heap.size w w13) := go_on HB12.out hb13
            have hub : ((U.length : Int) == (ts.length : Int)) = true := by rw [HUl.out]; simp
            clear hb13
            go_wp2_with fail
            go_ret
            exact ⟨rfl, HB13.out⟩
      · have hyb : (y != 0) = true := by simpa using hy0
        have hU0 : U = [] := by rw [← HUY.out.1, renT_no HUY.out.2 hy0]
        subst hU0
        clear hy0
        go_wp2_with fail
        refine (num_any _ _).mono ?_
        rintro e w31 ⟨rfl, rfl⟩
        go_wp2_with fail
        go_ret
        exact ⟨rfl, HB11.out⟩
    · have hxb : (x != 0) = true := by simpa using hx0
      have hC0 : C = [] := by rw [← HCX.out.1, renT_no HCX.out.2 hx0]
      subst hC0
      clear hx0
      go_wp2_with fail
      refine (num_any _ _).mono ?_
      rintro e w30 ⟨rfl, rfl⟩
      go_wp2_with fail
      go_ret
      exact ⟨rfl, HB10.out⟩
  · obtain ⟨x, hx⟩ : ∃ x, wrong ts = x := ⟨_, rfl⟩
    have hxb : (x != 0) = true := by rw [← hx]; simpa using h0
    have HX : Hid (wrong ts = x ∧ wrong ts ≠ 0) := ⟨hx, h0⟩
    clear hx h0
    go_enter Tryd.func3, Tryd.ntmps3
    go_wp2_with fail
    refine (reverse_bad _ ts _ HV.out hm HP.out HX.out.2).mono ?_
    rintro e w1 ⟨rfl, hb1⟩
    rw [HX.out.1]
    have HB1 : Hid (Below w.heap.size w w1) := hb1
    clear hb1
    go_wp2_with fail
    refine (num_any _ _).mono ?_
    rintro e w2 ⟨rfl, rfl⟩
    go_wp2_with fail
    refine (knows_any _ (HP.out.stay HB1.out)).mono ?_
    rintro e w3 ⟨rfl, hb3⟩
    have HB3 : Hid (Below w.heap.size w w3) := go_on HB1.out hb3
    clear hb3
    go_wp2_with fail
    go_ret
    exact ⟨rfl, HB3.out⟩
/-! ### The row's step -/
theorem own : ownKnob Tryd.prog.godebug = none := by kernel_rfl
def laid1 : List (String × DataW Unit) := [("eggbox/tree.partsOf", Rows.laid_eggbox_tree_partsOf)]
def tabZ : List Int := [0, 0, 0, 0, 0, 2, 2, 2, 1, 1]
theorem gTab : Tryd.prog.globalNamed "eggbox/tree.partsOf" = some 0 := by kernel_rfl
theorem tTab : (Tryd.prog.globals[0]?).map (·.type) = some 40 := by kernel_rfl
theorem of_laid {W : World} (h : laidMetH Tryd.prog laid1 W) : PTab W := by
  rw [MakeChecks.laidMetH_plain _ _ _ (by kernel_rfl)] at h
  have ht : Lib.TabIs Tryd.prog W "eggbox/tree.partsOf" .i64 tabZ :=
    Lib.tabIs_of_head (rest := []) gTab tTab Tryd.underlying40 Tryd.underlying3 (by kernel_rfl) (by kernel_rfl) h
  intro j hj
  have := ht.cell gTab j hj
  rw [this]
  have hc : j = 0 ∨ j = 1 ∨ j = 2 ∨ j = 3 ∨ j = 4 ∨ j = 5 ∨ j = 6 ∨ j = 7 ∨ j = 8 ∨ j = 9 := by omega
  rcases hc with rfl | rfl | rfl | rfl | rfl | rfl | rfl | rfl | rfl | rfl <;> rfl
/-- The door's own heap meets the condition. -/
theorem door_met (os : Os) (args : Array Value) : laidMetH Tryd.prog laid1 ((World.doorLaid Tryd.prog 400 os).forCall (fun _ _ => 0) ⟨#[], args, []⟩).memory :=
  laidMetH_of_parts3 (fuel := 8) (laidMet_of_run' 8 (by kernel_rfl) (by kernel_rfl)) (by kernel_rfl) (by kernel_rfl)

set_option maxRecDepth 100000 in
theorem lifted (os : Os) (started : os.Started) (H : Type) (enc : TypeId × Value → H) :
    ReturnsInHanded {} Tryd.checked os 3 .any (fun w args => (Rows.treeReversedSpec.pre enc Tryd.prog Tryd.f3 [] false w args ∧ laidMetH Tryd.prog laid1 w) ∧ sizedMet enc Tryd.prog Tryd.f3 (OpenSpec.ofChange Rows.treeReversedSpec) false w args)
      (Rows.treeReversedSpec.post enc Tryd.prog Tryd.f3 false true false false) := by
  refine returnsInHanded_of_change_and (C := Tryd.checked) (X := fun w _ => laidMetH Tryd.prog laid1 w) (fun _ _ _ hh h => h.of_heap hh) own started (by kernel_rfl) Tryd.func3
    (ChangeSpec.witness_shaped (enc := enc) (C := Tryd.checked) (os := os) (X := fun w _ => laidMetH Tryd.prog laid1 w) false (World.doorLaid Tryd.prog 400 os) #[.slice none 0 0, .string ByteArray.empty, .string ByteArray.empty] 8 rfl (World.shaped_of_RefB (by kernel_rfl) (by kernel_rfl)) (by kernel_rfl) (by kernel_rfl) (by kernel_rfl) (door_met os _)) ?_
  intro W base args ds gs before hval0 hW _ hsz0 hL _
  have hval : ∀ (j : Nat) t v, Tryd.f3.params[j]? = some t → args[j]? = some v → Value.okWide Tryd.prog W .any base t v := hval0
  have hW' := hW
  obtain ⟨p, q, hA0, hV, rfl, hfz, hnd⟩ := hW
  have hA : DataW.TrodAll enc Tryd.prog W 0 (fun _ => true) true Tryd.f3.params.toList args.toList ds p := hA0
  have hsz : (DataW.weightsEach Tryd.prog (Tryd.f3.params.toList ++ Rows.treeReversedSpec.plain.varTypes Tryd.prog) (ds ++ gs)).all (· ≤ reachBytes) = true := hsz0
  rw [Tryd.params3] at hA hval hsz
  obtain ⟨v0, vs0, d0, ds0, p0, q0, hargs, rfl, rfl, h0, r0⟩ := trodAll_cons hA
  obtain ⟨v1, vs1, d1, ds1, p1, q1, rfl, rfl, rfl, h1, r1⟩ := trodAll_cons r0
  obtain ⟨v2, vs2, d2, ds2, p2, q2, rfl, rfl, rfl, h2, r2⟩ := trodAll_cons r1
  obtain ⟨rfl, rfl, rfl⟩ := trodAll_nil r2
  obtain rfl : args = #[v0, v1, v2] := by cases args; simp_all
  obtain ⟨rfl, rfl⟩ := trodVars_none hV
  obtain ⟨a0, w0, x0, y0⟩ := open_nodes (hval 0 22 v0 rfl rfl) h0
  have s0 : (a0.length + 2) * 16 ≤ 140737488355328 := by
    rcases y0 with ⟨_, rfl⟩ | ⟨e, s, rfl, hy⟩
    · decide
    · have := sized_slice hsz (j := 0) (t := 22) rfl rfl Tryd.underlying22
      rw [Tryd.bytes_node] at this
      simp only [reachBytes] at this
      omega
  have z0 : a0.length ≤ 9223372036854775806 := by omega
  have g0 : ∀ x ∈ p0, x.block < W.heap.size := fun x hx => hW'.lt x (by simp [hx])
  obtain ⟨a1, rfl, rfl, rfl, w1⟩ := open_string Tryd.underlying9 (hval 1 9 v1 rfl rfl) h1
  obtain ⟨a2, rfl, rfl, rfl, w2⟩ := open_string Tryd.underlying9 (hval 2 9 v2 rfl rfl) h2
  have hTz := of_laid hL
  clear hA0 hval0
  refine (walk v0 a0 a1 a2 W w0 x0.2 z0 w1 w2 hTz).mono fun e W' ⟨he, bel⟩ => ?_
  subst he
  exact ⟨_, rfl, _, _, _, [], _, [], hW', trodAll_mk1 (shut_bool Tryd.underlying4 _), (trodAll_cons_mk (Below.trod Tryd.laidOut (by kernel_rfl) (of_decide_eq_true (by kernel_rfl)) h0 bel g0) (trodAll_cons_mk (shut_string Tryd.underlying9 w1) (trodAll_cons_mk (shut_string Tryd.underlying9 w2) trodAll_mk0))), rfl, bel.frame _, fun h => by cases h⟩

theorem over : Rows.TreeReversedSaid :=
  OpenClaim.holds_of_wide 3 Tryd.f3 rfl rfl rfl rfl rfl rfl rfl ⟨rfl, rfl, rfl, rfl, rfl⟩ rfl rfl rfl rfl rfl (by kernel_rfl) Tryd.func3 (by kernel_rfl)
    (of_decide_eq_true (by kernel_rfl)) (by unfold Func.isWrapper; first | (rw [if_pos (by decide +kernel)]; kernel_rfl) | (rw [if_neg (by decide +kernel)]; exact ⟨rfl, rfl⟩))
    (fun os started H enc _ => lifted os started H enc)

theorem card : Rows.TreeReversedCardSaid :=
  Claim7.holds_tied_plain_at .later [] [.data] true (true, "f4da79c01b06a6c8651d62745831bc69100b35b514a3fa88da8ccbeb262f2b52") false
    over (fun _ h => by cases h) (by kernel_rfl) (fun _ h => by cases h) treeReversed_row_tie rfl ⟨rfl, rfl⟩ (by kernel_rfl) rfl
    (fun f fn hf hfn => by
      obtain rfl : f = 3 := Option.some.inj ((show Tryd.prog.funcNamed "eggbox/eggboxlaw03.TreeReversed" = some 3 by kernel_rfl).symm.trans hf) |>.symm
      obtain rfl : fn = Tryd.f3 := (Option.some.inj (Tryd.func3.symm.trans hfn)).symm
      exact ⟨by kernel_rfl, fun j t ht => by
        rw [Tryd.params3] at ht
        have hm : t ∈ [22, 9, 9] := by simpa using Array.mem_of_getElem? ht
        have hall : ([22, 9, 9].all fun u => !Tryd.prog.wantsStandIn u) = true := by kernel_rfl
        exact (show Tryd.prog.wantsStandIn t = false by simpa using List.all_eq_true.1 hall t hm)⟩)
    (by kernel_rfl)

end Go.Proofs.YtchaggigabccaabDoor.treeReversed
namespace Go.Proofs.YtchaggigabccaabDoor
/-- The given statement. -/
theorem treeReversed_holds : Rows.TreeReversedCardSaid := treeReversed.card
end Go.Proofs.YtchaggigabccaabDoor
