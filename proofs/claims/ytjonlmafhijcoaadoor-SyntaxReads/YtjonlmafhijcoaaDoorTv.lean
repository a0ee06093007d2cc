/- Contracts of tree.Check and of the document's Check. -/
import Derived.Test.YtjonlmafhijcoaaDoorTu
namespace Go.Proofs.YtjonlmafhijcoaaDoor
open Go.RowKit

set_option maxHeartbeats 2000000 in
set_option maxRecDepth 100000 in
theorem check_any (k : Int) (hk : -9223372036854775808 ≤ k ∧ k ≤ 9223372036854775807) (v : Value) (ts : List Nd) (w : World) (hv : NReads w v ts) (hm : ts.length ≤ 9223372036854775806) (hP : PTab w) :
    Calls Tryd.prog 21 #[.int .i64 k, v] w fun e w' => e = .returned (.int .i64 (checkV k ts)) ∧ Below w.heap.size w w' := by
  have HV : Hid (NReads w v ts) := hv
  have HP : Hid (PTab w) := hP
  obtain ⟨a, cap, rfl, hrd⟩ := hv
  have HR : Hid _ := hrd
  clear hrd hP
  by_cases k1 : k < 1
  · have HC : Hid (checkV k ts = 20) := by show _ = _; unfold checkV; rw [if_pos (.inl k1)]
    go_enter Tryd.func21, Tryd.ntmps21
    go_wp2_with fail
    go_ret
    exact ⟨ret_int HC.out.symm, Below.refl _ _⟩
  by_cases k8 : 8 < k
  · have HC : Hid (checkV k ts = 20) := by show _ = _; unfold checkV; rw [if_pos (.inr k8)]
    go_enter Tryd.func21, Tryd.ntmps21
    go_wp2_with fail
    go_ret
    exact ⟨ret_int HC.out.symm, Below.refl _ _⟩
  have HK : Hid (checkV k ts = if wrong ts ≠ 0 then wrong ts else if 128 < (heavyN (fun _ => 1) ts).getD 0 0 then 31 else if ts.any (farL k) then 21 else 0) := by show _ = _; unfold checkV; rw [if_neg (by omega)]
  by_cases h0 : wrong ts = 0
  · obtain ⟨hl, hf⟩ := wrong_zero h0
    have HX : Hid (wrong ts = 0) := h0
    have HF : Hid (freeN ts = some 1) := hf
    have HD : Hid (∀ w, NReads w (.slice a ts.length cap) ts → Calls Tryd.prog 39 #[.slice a ts.length cap, .bool false] w fun e w' => e = .returned (.int .i64 (((heavyN (fun _ => 1) ts).getD 0 0 : Nat) : Int)) ∧ Below w.heap.size w w') := fun w hw => rdepth_any false _ ts w hw hl HF.out
    have HK2 : Hid (checkV k ts = if 128 < (heavyN (fun _ => 1) ts).getD 0 0 then 31 else if ts.any (farL k) then 21 else 0) := by show _ = _; rw [HK.out, if_neg (by simp [h0])]
    have HGo : Hid (∀ i, i < ts.length → good (ts.getD i (0, 0)) = true) := fun i hi => good_all hf hi
    obtain ⟨d, HDd⟩ : ∃ d, Hid ((heavyN (fun _ => 1) ts).getD 0 0 = d) := ⟨_, rfl⟩
    rw [HDd.out] at HD HK2
    clear h0 hf HK
    go_enter Tryd.func21, Tryd.ntmps21
    go_wp2_with fail
    refine (depth_any _ ts _ HV.out hl HP.out HX.out HF.out).mono ?_
    rintro e w2 ⟨rfl, hb2⟩
    rw [HDd.out]
    have HB2 : Hid (Below w.heap.size w w2) := hb2
    clear hb2
    by_cases hd : 128 < d
    · have hdI : (128 : Int) < d := by omega
      have HC : Hid (checkV k ts = 31) := by show _ = _; rw [HK2.out, if_pos hd]
      clear hd
      go_wp2_with fail
      go_ret
      exact ⟨ret_int HC.out.symm, HB2.out⟩
    have hdI : ¬ (128 : Int) < d := by omega
    have HK3 : Hid (checkV k ts = if ts.any (farL k) then 21 else 0) := by show _ = _; rw [HK2.out, if_neg hd]
    clear hd HK2
    go_wp2_with fail
    go_loopw [27] (fun vi wr => ∃ i : Nat, i ≤ ts.length ∧ vi = .int .i64 i ∧ (∀ j, j < i → farL k (ts.getD j (0, 0)) = false) ∧ Below w.heap.size w wr) (fun vi _ => ts.length - (intOf vi).toNat)
    case atStart => exact ⟨0, Nat.zero_le _, rfl, fun j hj => by omega, HB2.out⟩
    case round =>
      obtain ⟨i, hi, rfl, hall, hb⟩ := hrel
      have HA : Hid (∀ j, j < i → farL k (ts.getD j (0, 0)) = false) := hall
      have HB : Hid (Below w.heap.size w wr) := hb
      clear hall
      by_cases hlt : i < ts.length
      · have hiI : (i : Int) < ts.length := by omega
        obtain ⟨g, o, rfl, hg, h1, h2⟩ := HR.out i hlt
        obtain ⟨⟨m, s⟩, hn⟩ : ∃ n, ts.getD i (0, 0) = n := ⟨_, rfl⟩
        rw [hn] at h1 h2
        have c1 : wr.cell? ⟨g, o + i * 2, none⟩ = some (.int .i64 m) := by rw [below_cell hb hg]; exact h1
        have c2 : wr.cell? ⟨g, o + i * 2 + 1, none⟩ = some (.int .u8 s) := by rw [below_cell hb hg]; exact h2
        have HNn : Hid (ts.getD i (0, 0) = (m, s)) := hn
        clear h1 h2 hb
        by_cases hm3 : m = 3
        · subst hm3
          have hs8 : (97 : Int) ≤ s ∧ s ≤ 104 := by
            have := HGo.out i hlt
            rw [hn] at this
            simpa [good, isLet] using this
          obtain ⟨s1, s2⟩ := hs8
          clear hn
          by_cases hfar : 97 + k ≤ s
          · have HC : Hid (checkV k ts = 21) := by show _ = _; rw [HK3.out, if_pos (any_at hlt (by rw [HNn.out]; simp [farL, hfar]))]
            go_wp2_with fail
            go_ret
            exact ⟨ret_int HC.out.symm, HB.out.alloc HB.out.size _⟩
          · have HC : Hid (farL k (ts.getD i (0, 0)) = false) := by show _ = _; rw [HNn.out]; simp [farL, hfar]
            go_wp2_with fail
            go_roundw
            case rel => exact ⟨i + 1, by omega, by go_num, fun j hj => by
              by_cases e : j = i
              · rw [e]; exact HC.out
              · exact HA.out j (by omega), HB.out.alloc HB.out.size _⟩
            case measure => simp [intOf]; omega
        · have hm3b : (m == 3) = false := by simpa using hm3
          have HC : Hid (farL k (ts.getD i (0, 0)) = false) := by show _ = _; rw [HNn.out]; simp [farL, hm3]
          clear hn
          go_wp2_with fail
          go_roundw
          case rel => exact ⟨i + 1, by omega, by go_num, fun j hj => by
            by_cases e : j = i
            · rw [e]; exact HC.out
            · exact HA.out j (by omega), HB.out.alloc HB.out.size _⟩
          case measure => simp [intOf]; omega
      · have hiI : ¬ (i : Int) < ts.length := by omega
        have HC : Hid (checkV k ts = 0) := by show _ = _; rw [HK3.out, any_none (fun j hj => HA.out j (by omega))]; rfl
        clear hb
        go_wp2_with fail
        go_ret
        exact ⟨ret_int HC.out.symm, HB.out⟩
  · obtain ⟨x, HX⟩ : ∃ x, Hid (wrong ts = x) := ⟨_, rfl⟩
    have HC : Hid (checkV k ts = x) := by show _ = _; rw [HK.out, if_pos h0, HX.out]
    rw [HC.out]
    have HN : Hid (wrong ts ≠ 0) := h0
    rw [HX.out] at h0
    have hxb : (x != 0) = true := by simpa using h0
    clear h0 HK
    go_enter Tryd.func21, Tryd.ntmps21
    go_wp2_with fail
    refine (depth_bad _ ts _ HV.out hm HP.out HN.out).mono ?_
    rintro e w1 ⟨rfl, hb1⟩
    rw [HX.out]
    go_wp2_with fail
    go_ret
    exact ⟨rfl, hb1⟩

set_option maxHeartbeats 2000000 in
set_option maxRecDepth 100000 in
theorem rcheck_any (k : Int) (hk : -9223372036854775808 ≤ k ∧ k ≤ 9223372036854775807) (v : Value) (ts : List Nd) (w : World) (hv : NReads w v ts) (hm : ts.length ≤ 9223372036854775806) (hP : PTab w) :
    Calls Tryd.prog 29 #[.int .i64 k, v] w fun e w' => e = .returned (.int .i64 (checkV k ts)) ∧ Below w.heap.size w w' := by
  have HV : Hid (NReads w v ts) := hv
  have HP : Hid (PTab w) := hP
  obtain ⟨a, cap, rfl, hrd⟩ := hv
  have HR : Hid _ := hrd
  clear hrd hP
  by_cases k1 : k < 1
  · have HC : Hid (checkV k ts = 20) := by show _ = _; unfold checkV; rw [if_pos (.inl k1)]
    go_enter Tryd.func29, Tryd.ntmps29
    go_wp2_with fail
    go_ret
    exact ⟨ret_int HC.out.symm, Below.refl _ _⟩
  by_cases k8 : 8 < k
  · have HC : Hid (checkV k ts = 20) := by show _ = _; unfold checkV; rw [if_pos (.inr k8)]
    go_enter Tryd.func29, Tryd.ntmps29
    go_wp2_with fail
    go_ret
    exact ⟨ret_int HC.out.symm, Below.refl _ _⟩
  have HK : Hid (checkV k ts = if wrong ts ≠ 0 then wrong ts else if 128 < (heavyN (fun _ => 1) ts).getD 0 0 then 31 else if ts.any (farL k) then 21 else 0) := by show _ = _; unfold checkV; rw [if_neg (by omega)]
  by_cases h0 : wrong ts = 0
  · obtain ⟨hl, hf⟩ := wrong_zero h0
    have HX : Hid (wrong ts = 0) := h0
    have HF : Hid (freeN ts = some 1) := hf
    have HD : Hid (∀ w, NReads w (.slice a ts.length cap) ts → Calls Tryd.prog 39 #[.slice a ts.length cap, .bool false] w fun e w' => e = .returned (.int .i64 (((heavyN (fun _ => 1) ts).getD 0 0 : Nat) : Int)) ∧ Below w.heap.size w w') := fun w hw => rdepth_any false _ ts w hw hl HF.out
    have HK2 : Hid (checkV k ts = if 128 < (heavyN (fun _ => 1) ts).getD 0 0 then 31 else if ts.any (farL k) then 21 else 0) := by show _ = _; rw [HK.out, if_neg (by simp [h0])]
    have HGo : Hid (∀ i, i < ts.length → good (ts.getD i (0, 0)) = true) := fun i hi => good_all hf hi
    obtain ⟨d, HDd⟩ : ∃ d, Hid ((heavyN (fun _ => 1) ts).getD 0 0 = d) := ⟨_, rfl⟩
    rw [HDd.out] at HD HK2
    clear h0 hf HK
    go_enter Tryd.func29, Tryd.ntmps29
    go_wp2_with fail
    refine (rwrong_any _ ts _ HV.out hm).mono ?_
    rintro e w1 ⟨rfl, hb1⟩
    rw [HX.out]
    have HB1 : Hid (Below w.heap.size w w1) := hb1
    clear hb1
    go_wp2_with fail
    refine (HD.out _ (HV.out.stay HB1.out)).mono ?_
    rintro e w2 ⟨rfl, hb2⟩
    have HB2 : Hid (Below w.heap.size w w2) := go_on HB1.out hb2
    clear hb2
    by_cases hd : 128 < d
    · have hdI : (128 : Int) < d := by omega
      have HC : Hid (checkV k ts = 31) := by show _ = _; rw [HK2.out, if_pos hd]
      clear hd
      go_wp2_with fail
      go_ret
      exact ⟨ret_int HC.out.symm, HB2.out⟩
    have hdI : ¬ (128 : Int) < d := by omega
    have HK3 : Hid (checkV k ts = if ts.any (farL k) then 21 else 0) := by show _ = _; rw [HK2.out, if_neg hd]
    clear hd HK2
    go_wp2_with fail
    go_loopw [6] (fun vi wr => ∃ i : Nat, i ≤ ts.length ∧ vi = .int .i64 i ∧ (∀ j, j < i → farL k (ts.getD j (0, 0)) = false) ∧ Below w.heap.size w wr) (fun vi _ => ts.length - (intOf vi).toNat)
    case atStart => exact ⟨0, Nat.zero_le _, rfl, fun j hj => by omega, HB2.out⟩
    case round =>
      obtain ⟨i, hi, rfl, hall, hb⟩ := hrel
      have HA : Hid (∀ j, j < i → farL k (ts.getD j (0, 0)) = false) := hall
      have HB : Hid (Below w.heap.size w wr) := hb
      clear hall
      by_cases hlt : i < ts.length
      · have hiI : (i : Int) < ts.length := by omega
        obtain ⟨g, o, rfl, hg, h1, h2⟩ := HR.out i hlt
        obtain ⟨⟨m, s⟩, hn⟩ : ∃ n, ts.getD i (0, 0) = n := ⟨_, rfl⟩
        rw [hn] at h1 h2
        have c1 : wr.cell? ⟨g, o + i * 2, none⟩ = some (.int .i64 m) := by rw [below_cell hb hg]; exact h1
        have c2 : wr.cell? ⟨g, o + i * 2 + 1, none⟩ = some (.int .u8 s) := by rw [below_cell hb hg]; exact h2
        have HNn : Hid (ts.getD i (0, 0) = (m, s)) := hn
        clear h1 h2 hb
        by_cases hm3 : m = 3
        · subst hm3
          have hs8 : (97 : Int) ≤ s ∧ s ≤ 104 := by
            have := HGo.out i hlt
            rw [hn] at this
            simpa [good, isLet] using this
          obtain ⟨s1, s2⟩ := hs8
          clear hn
          by_cases hfar : 97 + k ≤ s
          · have HC : Hid (checkV k ts = 21) := by show _ = _; rw [HK3.out, if_pos (any_at hlt (by rw [HNn.out]; simp [farL, hfar]))]
            go_wp2_with fail
            go_ret
            exact ⟨ret_int HC.out.symm, HB.out⟩
          · have HC : Hid (farL k (ts.getD i (0, 0)) = false) := by show _ = _; rw [HNn.out]; simp [farL, hfar]
            go_wp2_with fail
            go_roundw
            case rel => exact ⟨i + 1, by omega, by go_num, fun j hj => by
              by_cases e : j = i
              · rw [e]; exact HC.out
              · exact HA.out j (by omega), HB.out⟩
            case measure => simp [intOf]; omega
        · have hm3b : (m == 3) = false := by simpa using hm3
          have HC : Hid (farL k (ts.getD i (0, 0)) = false) := by show _ = _; rw [HNn.out]; simp [farL, hm3]
          clear hn
          go_wp2_with fail
          go_roundw
          case rel => exact ⟨i + 1, by omega, by go_num, fun j hj => by
            by_cases e : j = i
            · rw [e]; exact HC.out
            · exact HA.out j (by omega), HB.out⟩
          case measure => simp [intOf]; omega
      · have hiI : ¬ (i : Int) < ts.length := by omega
        have HC : Hid (checkV k ts = 0) := by show _ = _; rw [HK3.out, any_none (fun j hj => HA.out j (by omega))]; rfl
        clear hb
        go_wp2_with fail
        go_ret
        exact ⟨ret_int HC.out.symm, HB.out⟩
  · obtain ⟨x, HX⟩ : ∃ x, Hid (wrong ts = x) := ⟨_, rfl⟩
    have HC : Hid (checkV k ts = x) := by show _ = _; rw [HK.out, if_pos h0, HX.out]
    rw [HC.out]
    have HN : Hid (wrong ts ≠ 0) := h0
    rw [HX.out] at h0
    have hxb : (x != 0) = true := by simpa using h0
    clear h0 HK
    go_enter Tryd.func29, Tryd.ntmps29
    go_wp2_with fail
    refine (rwrong_any _ ts _ HV.out hm).mono ?_
    rintro e w1 ⟨rfl, hb1⟩
    rw [HX.out]
    go_wp2_with fail
    go_ret
    exact ⟨rfl, hb1⟩

end Go.Proofs.YtjonlmafhijcoaaDoor
