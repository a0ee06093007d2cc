/- Y65 Y66, in one text. -/
import Derived.Test.YthhlamehbcidgaaW2
import Derived.Test.YthhlamehbcidgaaY47
import Derived.Test.YthhlamehbcidgaaY30
import Derived.Deep.Strs
namespace Go.Proofs.Ythhlamehbcidgaa
open Go Go.RowKit Go.Lib
set_option linter.unusedVariables false

def xc (j : Nat) : Nat := (xyz4.getD j 0).toNat
theorem pl_xc : ∀ j : Fin 4, plN (xyz4.getD j.val 0) = j.val := by decide +kernel
theorem mem_vbs {L : List (Int × Nat)} {b : UInt8} (h : b ∈ vbs [L] 4) : ∃ j, j < 4 ∧ b = xyz4.getD j 0 ∧ occ L (xc j) = true := by
  unfold vbs at h
  rw [List.mem_filter] at h
  obtain ⟨h1, h2⟩ := h
  have h3 : occ L b.toNat = true := by simpa using h2
  have h4 : b ∈ xyz4 := List.mem_of_mem_take h1
  have h5 : b = 120 ∨ b = 121 ∨ b = 122 ∨ b = 116 := by
    have h6 : b ∈ ([120, 121, 122, 116] : List UInt8) := h4
    simp only [List.mem_cons, List.not_mem_nil, or_false] at h6
    exact h6
  rcases h5 with rfl | rfl | rfl | rfl
  · exact ⟨0, by decide, rfl, h3⟩
  · exact ⟨1, by decide, rfl, h3⟩
  · exact ⟨2, by decide, rfl, h3⟩
  · exact ⟨3, by decide, rfl, h3⟩
theorem vbs_mem' {L : List (Int × Nat)} {j : Nat} (hj : j < 4) (h : occ L (xc j) = true) : xyz4.getD j 0 ∈ vbs [L] 4 := by
  unfold vbs
  rw [List.mem_filter]
  refine ⟨?_, by unfold xc at h; simp only [List.any_cons, List.any_nil, Bool.or_false]; exact h⟩
  have : j = 0 ∨ j = 1 ∨ j = 2 ∨ j = 3 := by omega
  rcases this with rfl | rfl | rfl | rfl <;> decide
theorem cv_miss {L : List (Int × Nat)} {n j : Nat} {mv : Nat → Int} (hj : j < 4) (ho : occ L (xc j) = true) (hn : n ≤ j) : cvE (vbs [L] 4) n mv = 3 := by
  unfold cvE
  rw [if_pos]
  rw [List.any_eq_true]
  exact ⟨_, vbs_mem' hj ho, decide_eq_true (by have := pl_xc ⟨j, hj⟩; simp only at this; omega)⟩
theorem cv_inn {L : List (Int × Nat)} {n : Nat} {mv : Nat → Int} (hin : ∀ j, j < 4 → occ L (xc j) = true → j < n) : cvE (vbs [L] 4) n mv = (((vbs [L] 4).map fun b => mv (plN b)).find? fun e => e != 0).getD 0 := by
  unfold cvE
  rw [if_neg]
  rw [List.any_eq_true]
  rintro ⟨b, hb, hq⟩
  obtain ⟨j, hj, rfl, ho⟩ := mem_vbs hb
  have h1 := pl_xc ⟨j, hj⟩
  simp only at h1
  have h2 := of_decide_eq_true hq
  have h3 := hin j hj ho
  omega
theorem cv_bad {L : List (Int × Nat)} {n j : Nat} {mv : Nat → Int} (hin : ∀ j, j < 4 → occ L (xc j) = true → j < n) (hj : j < 4) (ho : occ L (xc j) = true) (h : mv j ≠ 0) (h21 : ∀ p, mv p = 0 ∨ mv p = 21) : cvE (vbs [L] 4) n mv = 21 := by
  rw [cv_inn hin]
  cases hf : ((vbs [L] 4).map fun b => mv (plN b)).find? fun e => e != 0 with
  | none =>
    rw [List.find?_eq_none] at hf
    have := hf _ (List.mem_map.2 ⟨_, vbs_mem' hj ho, rfl⟩)
    have h1 := pl_xc ⟨j, hj⟩
    simp only at h1
    rw [h1] at this
    exact absurd (by simpa using this) h
  | some e =>
    have h1 := List.find?_some hf
    obtain ⟨b, _, rfl⟩ := List.mem_map.1 (List.mem_of_find?_eq_some hf)
    rcases h21 (plN b) with h2 | h2
    · rw [h2] at h1
      simp at h1
    · rw [h2]
      rfl
theorem cv_good {L : List (Int × Nat)} {n : Nat} {mv : Nat → Int} (hin : ∀ j, j < 4 → occ L (xc j) = true → j < n) (h : ∀ j, j < 4 → occ L (xc j) = true → mv j = 0) : cvE (vbs [L] 4) n mv = 0 := by
  rw [cv_inn hin]
  have : ((vbs [L] 4).map fun b => mv (plN b)).find? (fun e => e != 0) = none := by
    rw [List.find?_eq_none]
    intro e he
    obtain ⟨b, hb, rfl⟩ := List.mem_map.1 he
    obtain ⟨j, hj, rfl, ho⟩ := mem_vbs hb
    have h1 := pl_xc ⟨j, hj⟩
    simp only at h1
    rw [h1, h j hj ho]
    simp
  rw [this]
  rfl
theorem chk_two (k : Int) (x : ByteArray) (h1 : 1 ≤ k) (h8 : k ≤ 8) : chk k x = 0 ∨ chk k x = 21 := by
  unfold chk
  rw [if_neg (by omega)]
  split
  · exact .inl rfl
  · exact .inr rfl

set_option maxHeartbeats 16000000 in
set_option maxRecDepth 100000 in
theorem rWord_any (k om : Int) (v vx : Value) (L : List (Int × Nat)) (Ws : List ByteArray) (w : World) (hv : SgR w v L) (hL : L.length ≤ 9223372036854775000) (hx : StR w vx Ws) (hW : Ws.length ≤ 9223372036854775000) (hz : ∀ j, j < Ws.length → (Ws.getD j ⟨#[]⟩).size ≤ maxLen) :
    Calls Try.prog 24 #[.int .i64 k, v, vx, .int .i64 om] w (WdQ k L Ws om w) := by
  obtain ⟨a1, c1, e1⟩ := hv.len
  obtain ⟨a2, c2, e2⟩ := hx.len
  subst e1 e2
  have HSG : Hid (SgR w (.slice a1 L.length c1) L) := hv
  have HSX : Hid (StR w (.slice a2 Ws.length c2) Ws) := hx
  have HXR : Hid (∀ p, p < Ws.length → ∃ gx ox, a2 = some ⟨gx, ox, none⟩ ∧ gx < w.heap.size ∧ w.cell? ⟨gx, ox + p, none⟩ = some (.string (Ws.getD p ⟨#[]⟩))) := fun p hp => by
    obtain ⟨ax, cx, ex, hrx⟩ := hx
    simp only [Value.slice.injEq] at ex
    obtain ⟨rfl, -, rfl⟩ := ex
    exact hrx p hp
  have HZ : Hid (∀ j, j < Ws.length → (Ws.getD j ⟨#[]⟩).size ≤ maxLen) := hz
  have HB0 : Hid (Below w.heap.size w w) := Below.refl _ _
  clear hv hx hz
  by_cases hk : k < 1 ∨ 8 < k
  · have HE : Hid (wdE k L Ws om = 20) := by show _ = _; unfold wdE; rw [if_pos hk]
    have HL : Hid (∀ y, Calls Try.prog 46 #[.int .i64 k] y fun e w' => e = .returned (.int .i64 20) ∧ y = w') := fun y => by have := letters_any k y; rw [lett_no k hk] at this; exact this.mono (fun e w' h => ⟨h.1, h.2.symm⟩)
    clear hk
    go_enter Try.func24, Try.ntmps24
    go_wp2_with fail
    refine Calls.mono (HL.out _) ?_
    rintro e w1 ⟨rfl, rfl⟩
    go_wp2_with fail
    go_ret2
    exact WdQ.err HE.out (by decide) HB0.out
  have hk1 : 1 ≤ k := by omega
  have hk8 : k ≤ 8 := by omega
  have HL : Hid (∀ y, Calls Try.prog 46 #[.int .i64 k] y fun e w' => e = .returned (.int .i64 0) ∧ y = w') := fun y => by have := letters_any k y; rw [lett_ok k hk1 hk8] at this; exact this.mono (fun e w' h => ⟨h.1, h.2.symm⟩)
  have HCC : Hid (∀ y, Below w.heap.size w y → Calls Try.prog 47 #[.slice a1 L.length c1] y fun e w' => e = .returned (.int .i64 (ck1 L)) ∧ Below y.heap.size y w') := fun y hy => rSide_any _ L y (HSG.out.below hy) (by omega)
  by_cases hc : ck1 L = 0
  rotate_left
  · have HE : Hid (wdE k L Ws om = ck1 L) := by show _ = _; unfold wdE; rw [if_neg hk, if_pos hc]
    obtain ⟨er, her⟩ : ∃ er, ck1 L = er := ⟨_, rfl⟩
    rw [her] at HE hc HCC
    have HER : Hid (er ≠ 0) := hc
    have hneb : (er != 0) = true := by rw [bne_iff_ne]; exact hc
    have hned : decide (er ≠ 0) = true := decide_eq_true hc
    clear her hk hk1 hk8
    go_enter Try.func24, Try.ntmps24
    go_wp2_with fail
    refine Calls.mono (HL.out _) ?_
    rintro e w1 ⟨rfl, rfl⟩
    go_wp2_with fail
    refine Calls.mono (HCC.out _ HB0.out) ?_
    rintro e w2 ⟨rfl, hb2⟩
    have HB2 : Hid (Below w.heap.size w w2) := hb2
    clear hb2
    go_wp2_with fail
    go_ret2
    exact WdQ.err HE.out HER.out HB2.out
  rw [hc] at HCC
  by_cases ho : om < 1
  · have HE : Hid (wdE k L Ws om = 1) := by show _ = _; unfold wdE; rw [if_neg hk, if_neg (by rw [hc]; decide), if_pos ho]
    have hod : decide (om < 1) = true := decide_eq_true ho
    clear hk hk1 hk8 hc
    go_enter Try.func24, Try.ntmps24
    go_wp2_with fail
    refine Calls.mono (HL.out _) ?_
    rintro e w1 ⟨rfl, rfl⟩
    go_wp2_with fail
    refine Calls.mono (HCC.out _ HB0.out) ?_
    rintro e w2 ⟨rfl, hb2⟩
    have HB2 : Hid (Below w.heap.size w w2) := hb2
    clear hb2
    go_wp2_with fail
    go_ret2
    exact WdQ.err HE.out (by decide) HB2.out
  have hod : decide (om < 1) = false := decide_eq_false ho
  have HWE : Hid (∀ er, (cvE (vbs [L] 4) Ws.length (fun p => chk k (Ws.getD p ⟨#[]⟩))) = er → er ≠ 0 → wdE k L Ws om = er) := fun er h1 h2 => by
    unfold wdE
    rw [if_neg hk, if_neg (by rw [hc]; decide), if_neg ho, h1, if_pos h2]
  have hck : ¬ 400 < L.length ∧ sideB L = true := by
    unfold ck1 at hc
    split at hc
    · omega
    · rename_i h4
      split at hc
      · rename_i h5; exact ⟨h4, h5⟩
      · omega
  have HCKD : Hid (¬ 400 < L.length ∧ sideB L = true) := hck
  have HW0 : Hid ((cvE (vbs [L] 4) Ws.length (fun p => chk k (Ws.getD p ⟨#[]⟩))) = 0 → wdE k L Ws om = if spO Ws om (tmOf L) = true then 0 else 6) := fun h1 => by
    unfold wdE
    rw [if_neg hk, if_neg (by rw [hc]; decide), if_neg ho, if_neg (by rw [h1]; decide)]
  clear hc hk hck
  go_enter Try.func24, Try.ntmps24
  go_wp2_with fail
  refine Calls.mono (HL.out _) ?_
  rintro e w1 ⟨rfl, rfl⟩
  go_wp2_with fail
  refine Calls.mono (HCC.out _ HB0.out) ?_
  rintro e w2 ⟨rfl, hb2⟩
  have HB2 : Hid (Below w.heap.size w w2) := hb2
  clear hb2
  go_wp2_with fail
  go_loopw [11] (fun vi wr => ∃ i : Nat, vi = .int .i64 (i : Nat) ∧ i ≤ 4 ∧ (∀ j, j < i → occ L (xc j) = true → j < Ws.length) ∧ Below w.heap.size w wr) (fun vi _ => 4 - (Go.RowKit.intOf vi).toNat)
  case atStart => exact ⟨0, rfl, by omega, fun j hj => by omega, HB2.out⟩
  case round =>
    obtain ⟨i, rfl, hin, hj, hb⟩ := hrel
    have HB : Hid (Below w.heap.size w wr) := hb
    have HJ : Hid (∀ j, j < i → occ L (xc j) = true → j < Ws.length) := hj
    clear hb hj
    by_cases hlt : i < 4
    · have h4 : i = 0 ∨ i = 1 ∨ i = 2 ∨ i = 3 := by omega
      rcases h4 with rfl | rfl | rfl | rfl
      · clear hlt hin
        have HI : Hid (∀ y, Below w.heap.size w y → Calls Try.prog 37 #[.slice a1 L.length c1, .int .u8 120] y fun e w' => e = .returned (.bool (occ L 120)) ∧ Below y.heap.size y w') := fun y hy => rin_any _ L 120 y (HSG.out.below hy) hL
        cases q1 : occ L 120 with
        | false =>
          have HQ : Hid (occ L 120 = false) := q1
          rw [q1] at HI
          clear q1
          go_wp2_with fail
          refine Calls.mono (HI.out _ HB.out) ?_
          rintro e y1 ⟨rfl, hb⟩
          have HB2 : Hid (Below w.heap.size w y1) := go_on HB.out hb
          clear hb
          go_wp2_with fail
          go_roundw
          case rel => exact ⟨1, rfl, by omega, fun j hj ho => by
            by_cases e : j = 0
            · subst e
              exact absurd (ho.symm.trans HQ.out) (by decide)
            · exact HJ.out j (by omega) ho, HB2.out⟩
          case measure => simp [Go.RowKit.intOf]
        | true =>
          have HQ : Hid (occ L 120 = true) := q1
          rw [q1] at HI
          clear q1
          by_cases hn : 0 < Ws.length
          · have hnd : decide ((Ws.length : Int) ≤ 0) = false := decide_eq_false (by omega)
            have HNN : Hid (0 < Ws.length) := hn
            have hni : ¬ (Ws.length : Int) ≤ 0 := by omega
            have hnx : decide (Ws = []) = false := decide_eq_false (fun h => by rw [h] at hn; exact absurd hn (by decide))
            clear hn
            go_wp2_with fail
            refine Calls.mono (HI.out _ HB.out) ?_
            rintro e y1 ⟨rfl, hb⟩
            have HB2 : Hid (Below w.heap.size w y1) := go_on HB.out hb
            clear hb
            go_wp2_with fail
            go_roundw
            case rel => exact ⟨1, rfl, by omega, fun j hj ho => by
              by_cases e : j = 0
              · subst e
                exact HNN.out
              · exact HJ.out j (by omega) ho, HB2.out⟩
            case measure => simp [Go.RowKit.intOf]
          · have hni : (Ws.length : Int) ≤ 0 := by omega
            have hnd : decide ((Ws.length : Int) ≤ 0) = true := decide_eq_true hni
            have hnx : decide (Ws = []) = true := decide_eq_true (List.eq_nil_of_length_eq_zero (by omega))
            have HE : Hid (wdE k L Ws om = 3) := HWE.out 3 (cv_miss (j := 0) (by decide) HQ.out (by omega)) (by decide)
            clear hn
            go_wp2_with fail
            refine Calls.mono (HI.out _ HB.out) ?_
            rintro e y1 ⟨rfl, hb⟩
            have HB2 : Hid (Below w.heap.size w y1) := go_on HB.out hb
            clear hb
            go_wp2_with fail
            go_ret2
            exact WdQ.err HE.out (by decide) HB2.out
      · clear hlt hin
        have HI : Hid (∀ y, Below w.heap.size w y → Calls Try.prog 37 #[.slice a1 L.length c1, .int .u8 121] y fun e w' => e = .returned (.bool (occ L 121)) ∧ Below y.heap.size y w') := fun y hy => rin_any _ L 121 y (HSG.out.below hy) hL
        cases q1 : occ L 121 with
        | false =>
          have HQ : Hid (occ L 121 = false) := q1
          rw [q1] at HI
          clear q1
          go_wp2_with fail
          refine Calls.mono (HI.out _ HB.out) ?_
          rintro e y1 ⟨rfl, hb⟩
          have HB2 : Hid (Below w.heap.size w y1) := go_on HB.out hb
          clear hb
          go_wp2_with fail
          go_roundw
          case rel => exact ⟨2, rfl, by omega, fun j hj ho => by
            by_cases e : j = 1
            · subst e
              exact absurd (ho.symm.trans HQ.out) (by decide)
            · exact HJ.out j (by omega) ho, HB2.out⟩
          case measure => simp [Go.RowKit.intOf]
        | true =>
          have HQ : Hid (occ L 121 = true) := q1
          rw [q1] at HI
          clear q1
          by_cases hn : 1 < Ws.length
          · have hnd : decide ((Ws.length : Int) ≤ 1) = false := decide_eq_false (by omega)
            have HNN : Hid (1 < Ws.length) := hn
            have hni : ¬ (Ws.length : Int) ≤ 1 := by omega

            clear hn
            go_wp2_with fail
            refine Calls.mono (HI.out _ HB.out) ?_
            rintro e y1 ⟨rfl, hb⟩
            have HB2 : Hid (Below w.heap.size w y1) := go_on HB.out hb
            clear hb
            go_wp2_with fail
            go_roundw
            case rel => exact ⟨2, rfl, by omega, fun j hj ho => by
              by_cases e : j = 1
              · subst e
                exact HNN.out
              · exact HJ.out j (by omega) ho, HB2.out⟩
            case measure => simp [Go.RowKit.intOf]
          · have hni : (Ws.length : Int) ≤ 1 := by omega
            have hnd : decide ((Ws.length : Int) ≤ 1) = true := decide_eq_true hni

            have HE : Hid (wdE k L Ws om = 3) := HWE.out 3 (cv_miss (j := 1) (by decide) HQ.out (by omega)) (by decide)
            clear hn
            go_wp2_with fail
            refine Calls.mono (HI.out _ HB.out) ?_
            rintro e y1 ⟨rfl, hb⟩
            have HB2 : Hid (Below w.heap.size w y1) := go_on HB.out hb
            clear hb
            go_wp2_with fail
            go_ret2
            exact WdQ.err HE.out (by decide) HB2.out
      · clear hlt hin
        have HI : Hid (∀ y, Below w.heap.size w y → Calls Try.prog 37 #[.slice a1 L.length c1, .int .u8 122] y fun e w' => e = .returned (.bool (occ L 122)) ∧ Below y.heap.size y w') := fun y hy => rin_any _ L 122 y (HSG.out.below hy) hL
        cases q1 : occ L 122 with
        | false =>
          have HQ : Hid (occ L 122 = false) := q1
          rw [q1] at HI
          clear q1
          go_wp2_with fail
          refine Calls.mono (HI.out _ HB.out) ?_
          rintro e y1 ⟨rfl, hb⟩
          have HB2 : Hid (Below w.heap.size w y1) := go_on HB.out hb
          clear hb
          go_wp2_with fail
          go_roundw
          case rel => exact ⟨3, rfl, by omega, fun j hj ho => by
            by_cases e : j = 2
            · subst e
              exact absurd (ho.symm.trans HQ.out) (by decide)
            · exact HJ.out j (by omega) ho, HB2.out⟩
          case measure => simp [Go.RowKit.intOf]
        | true =>
          have HQ : Hid (occ L 122 = true) := q1
          rw [q1] at HI
          clear q1
          by_cases hn : 2 < Ws.length
          · have hnd : decide ((Ws.length : Int) ≤ 2) = false := decide_eq_false (by omega)
            have HNN : Hid (2 < Ws.length) := hn
            have hni : ¬ (Ws.length : Int) ≤ 2 := by omega

            clear hn
            go_wp2_with fail
            refine Calls.mono (HI.out _ HB.out) ?_
            rintro e y1 ⟨rfl, hb⟩
            have HB2 : Hid (Below w.heap.size w y1) := go_on HB.out hb
            clear hb
            go_wp2_with fail
            go_roundw
            case rel => exact ⟨3, rfl, by omega, fun j hj ho => by
              by_cases e : j = 2
              · subst e
                exact HNN.out
              · exact HJ.out j (by omega) ho, HB2.out⟩
            case measure => simp [Go.RowKit.intOf]
          · have hni : (Ws.length : Int) ≤ 2 := by omega
            have hnd : decide ((Ws.length : Int) ≤ 2) = true := decide_eq_true hni

            have HE : Hid (wdE k L Ws om = 3) := HWE.out 3 (cv_miss (j := 2) (by decide) HQ.out (by omega)) (by decide)
            clear hn
            go_wp2_with fail
            refine Calls.mono (HI.out _ HB.out) ?_
            rintro e y1 ⟨rfl, hb⟩
            have HB2 : Hid (Below w.heap.size w y1) := go_on HB.out hb
            clear hb
            go_wp2_with fail
            go_ret2
            exact WdQ.err HE.out (by decide) HB2.out
      · clear hlt hin
        have HI : Hid (∀ y, Below w.heap.size w y → Calls Try.prog 37 #[.slice a1 L.length c1, .int .u8 116] y fun e w' => e = .returned (.bool (occ L 116)) ∧ Below y.heap.size y w') := fun y hy => rin_any _ L 116 y (HSG.out.below hy) hL
        cases q1 : occ L 116 with
        | false =>
          have HQ : Hid (occ L 116 = false) := q1
          rw [q1] at HI
          clear q1
          go_wp2_with fail
          refine Calls.mono (HI.out _ HB.out) ?_
          rintro e y1 ⟨rfl, hb⟩
          have HB2 : Hid (Below w.heap.size w y1) := go_on HB.out hb
          clear hb
          go_wp2_with fail
          go_roundw
          case rel => exact ⟨4, rfl, by omega, fun j hj ho => by
            by_cases e : j = 3
            · subst e
              exact absurd (ho.symm.trans HQ.out) (by decide)
            · exact HJ.out j (by omega) ho, HB2.out⟩
          case measure => simp [Go.RowKit.intOf]
        | true =>
          have HQ : Hid (occ L 116 = true) := q1
          rw [q1] at HI
          clear q1
          by_cases hn : 3 < Ws.length
          · have hnd : decide ((Ws.length : Int) ≤ 3) = false := decide_eq_false (by omega)
            have HNN : Hid (3 < Ws.length) := hn
            have hni : ¬ (Ws.length : Int) ≤ 3 := by omega

            clear hn
            go_wp2_with fail
            refine Calls.mono (HI.out _ HB.out) ?_
            rintro e y1 ⟨rfl, hb⟩
            have HB2 : Hid (Below w.heap.size w y1) := go_on HB.out hb
            clear hb
            go_wp2_with fail
            go_roundw
            case rel => exact ⟨4, rfl, by omega, fun j hj ho => by
              by_cases e : j = 3
              · subst e
                exact HNN.out
              · exact HJ.out j (by omega) ho, HB2.out⟩
            case measure => simp [Go.RowKit.intOf]
          · have hni : (Ws.length : Int) ≤ 3 := by omega
            have hnd : decide ((Ws.length : Int) ≤ 3) = true := decide_eq_true hni

            have HE : Hid (wdE k L Ws om = 3) := HWE.out 3 (cv_miss (j := 3) (by decide) HQ.out (by omega)) (by decide)
            clear hn
            go_wp2_with fail
            refine Calls.mono (HI.out _ HB.out) ?_
            rintro e y1 ⟨rfl, hb⟩
            have HB2 : Hid (Below w.heap.size w y1) := go_on HB.out hb
            clear hb
            go_wp2_with fail
            go_ret2
            exact WdQ.err HE.out (by decide) HB2.out
    · have e4 : i = 4 := by omega
      subst e4
      have HIN : Hid (∀ j, j < 4 → occ L (xc j) = true → j < Ws.length) := HJ.out
      clear HJ hlt hin
      go_wp2_with fail
      go_loopw [12] (fun vi wr => ∃ i : Nat, vi = .int .i64 (i : Nat) ∧ i ≤ 4 ∧ (∀ j, j < i → occ L (xc j) = true → chk k (Ws.getD j ⟨#[]⟩) = 0) ∧ Below w.heap.size w wr) (fun vi _ => 4 - (Go.RowKit.intOf vi).toNat)
      case atStart => exact ⟨0, rfl, by omega, fun j hj => by omega, HB.out⟩
      case round =>
        clear HB
        obtain ⟨i, rfl, hin, hj, hb⟩ := hrel
        have HB : Hid (Below w.heap.size w wr) := hb
        have HJ : Hid (∀ j, j < i → occ L (xc j) = true → chk k (Ws.getD j ⟨#[]⟩) = 0) := hj
        clear hb hj
        by_cases hlt : i < 4
        · have h4 : i = 0 ∨ i = 1 ∨ i = 2 ∨ i = 3 := by omega
          rcases h4 with rfl | rfl | rfl | rfl
          · clear hlt hin
            have HI : Hid (∀ y, Below w.heap.size w y → Calls Try.prog 37 #[.slice a1 L.length c1, .int .u8 120] y fun e w' => e = .returned (.bool (occ L 120)) ∧ Below y.heap.size y w') := fun y hy => rin_any _ L 120 y (HSG.out.below hy) hL
            cases q1 : occ L 120 with
            | false =>
              have HQ : Hid (occ L 120 = false) := q1
              rw [q1] at HI
              clear q1
              go_wp2_with fail
              refine Calls.mono (HI.out _ HB.out) ?_
              rintro e y1 ⟨rfl, hb⟩
              have HB2 : Hid (Below w.heap.size w y1) := go_on HB.out hb
              clear hb
              have HB3 : Hid (Below w.heap.size w y1) := HB2.out
              go_wp2_with fail
              go_roundw
              case rel => (repeat apply Exists.intro); exact ⟨⟨1, rfl, by omega, fun j hj ho => by
                by_cases e : j = 0
                · subst e
                  exact absurd (ho.symm.trans HQ.out) (by decide)
                · exact HJ.out j (by omega) ho, HB3.out⟩, rfl⟩
              case measure => simp [Go.RowKit.intOf]
            | true =>
              have HQ : Hid (occ L 120 = true) := q1
              rw [q1] at HI
              clear q1
              have hn : 0 < Ws.length := HIN.out 0 (by decide) HQ.out
              have hnI : (0 : Int) < Ws.length := by omega
              obtain ⟨x, hx⟩ : ∃ x, Ws.getD 0 ⟨#[]⟩ = x := ⟨_, rfl⟩
              obtain ⟨gx, ox, hax, hgx, hcx⟩ := HXR.out 0 hn
              subst hax
              rw [hx] at hcx
              have HXC : Hid (∀ y, Below w.heap.size w y → y.cell? ⟨gx, ox, none⟩ = some (.string x)) := fun y hy => by rw [below_cell hy hgx]; exact hcx
              have hxz : x.size ≤ maxLen := by rw [← hx]; exact HZ.out 0 hn
              have hck0 : ∀ y, Calls Try.prog 48 #[.int .i64 k, .string x] y fun e w' => e = .returned (.int .i64 (chk k x)) ∧ Below y.heap.size y w' := fun y => rword_any k x y hxz
              have h21 := chk_two k x hk1 hk8
              have HMV : Hid (chk k (Ws.getD 0 ⟨#[]⟩) = chk k x) := by show _ = _; rw [hx]
              clear hcx hgx hx hn
              rcases h21 with hc0 | hc0
              · have HCK : Hid (∀ y, Calls Try.prog 48 #[.int .i64 k, .string x] y fun e w' => e = .returned (.int .i64 0) ∧ Below y.heap.size y w') := fun y => by have := hck0 y; rw [hc0] at this; exact this
                have HM0 : Hid (chk k (Ws.getD 0 ⟨#[]⟩) = 0) := by show _ = _; rw [HMV.out]; exact hc0
                clear hck0 hc0
                go_wp2_with fail
                refine Calls.mono (HI.out _ HB.out) ?_
                rintro e y1 ⟨rfl, hb⟩
                have HB2 : Hid (Below w.heap.size w y1) := go_on HB.out hb
                clear hb
                have xc := HXC.out y1 HB2.out
                go_wp2_with fail
                refine Calls.mono (HCK.out _) ?_
                rintro e y2 ⟨rfl, hb⟩
                have HB3 : Hid (Below w.heap.size w y2) := go_on HB2.out hb
                clear hb xc
                go_wp2_with fail
                go_roundw
                case rel => (repeat apply Exists.intro); exact ⟨⟨1, rfl, by omega, fun j hj ho => by
                  by_cases e : j = 0
                  · subst e
                    exact HM0.out
                  · exact HJ.out j (by omega) ho, HB3.out⟩, rfl⟩
                case measure => simp [Go.RowKit.intOf]
              · have HCK : Hid (∀ y, Calls Try.prog 48 #[.int .i64 k, .string x] y fun e w' => e = .returned (.int .i64 21) ∧ Below y.heap.size y w') := fun y => by have := hck0 y; rw [hc0] at this; exact this
                have HE : Hid (wdE k L Ws om = 21) := HWE.out 21 (cv_bad HIN.out (j := 0) (by decide) HQ.out (by rw [HMV.out, hc0]; decide) (fun p => chk_two k _ hk1 hk8)) (by decide)
                clear hck0 hc0
                go_wp2_with fail
                refine Calls.mono (HI.out _ HB.out) ?_
                rintro e y1 ⟨rfl, hb⟩
                have HB2 : Hid (Below w.heap.size w y1) := go_on HB.out hb
                clear hb
                have xc := HXC.out y1 HB2.out
                go_wp2_with fail
                refine Calls.mono (HCK.out _) ?_
                rintro e y2 ⟨rfl, hb⟩
                have HB3 : Hid (Below w.heap.size w y2) := go_on HB2.out hb
                clear hb xc
                go_wp2_with fail
                go_ret2
                exact WdQ.err HE.out (by decide) HB3.out
          · clear hlt hin
            have HI : Hid (∀ y, Below w.heap.size w y → Calls Try.prog 37 #[.slice a1 L.length c1, .int .u8 121] y fun e w' => e = .returned (.bool (occ L 121)) ∧ Below y.heap.size y w') := fun y hy => rin_any _ L 121 y (HSG.out.below hy) hL
            cases q1 : occ L 121 with
            | false =>
              have HQ : Hid (occ L 121 = false) := q1
              rw [q1] at HI
              clear q1
              go_wp2_with fail
              refine Calls.mono (HI.out _ HB.out) ?_
              rintro e y1 ⟨rfl, hb⟩
              have HB2 : Hid (Below w.heap.size w y1) := go_on HB.out hb
              clear hb
              have HB3 : Hid (Below w.heap.size w y1) := HB2.out
              go_wp2_with fail
              go_roundw
              case rel => (repeat apply Exists.intro); exact ⟨⟨2, rfl, by omega, fun j hj ho => by
                by_cases e : j = 1
                · subst e
                  exact absurd (ho.symm.trans HQ.out) (by decide)
                · exact HJ.out j (by omega) ho, HB3.out⟩, rfl⟩
              case measure => simp [Go.RowKit.intOf]
            | true =>
              have HQ : Hid (occ L 121 = true) := q1
              rw [q1] at HI
              clear q1
              have hn : 1 < Ws.length := HIN.out 1 (by decide) HQ.out
              have hnI : (1 : Int) < Ws.length := by omega
              obtain ⟨x, hx⟩ : ∃ x, Ws.getD 1 ⟨#[]⟩ = x := ⟨_, rfl⟩
              obtain ⟨gx, ox, hax, hgx, hcx⟩ := HXR.out 1 hn
              subst hax
              rw [hx] at hcx
              have HXC : Hid (∀ y, Below w.heap.size w y → y.cell? ⟨gx, ox + 1, none⟩ = some (.string x)) := fun y hy => by rw [below_cell hy hgx]; exact hcx
              have hxz : x.size ≤ maxLen := by rw [← hx]; exact HZ.out 1 hn
              have hck0 : ∀ y, Calls Try.prog 48 #[.int .i64 k, .string x] y fun e w' => e = .returned (.int .i64 (chk k x)) ∧ Below y.heap.size y w' := fun y => rword_any k x y hxz
              have h21 := chk_two k x hk1 hk8
              have HMV : Hid (chk k (Ws.getD 1 ⟨#[]⟩) = chk k x) := by show _ = _; rw [hx]
              clear hcx hgx hx hn
              rcases h21 with hc0 | hc0
              · have HCK : Hid (∀ y, Calls Try.prog 48 #[.int .i64 k, .string x] y fun e w' => e = .returned (.int .i64 0) ∧ Below y.heap.size y w') := fun y => by have := hck0 y; rw [hc0] at this; exact this
                have HM0 : Hid (chk k (Ws.getD 1 ⟨#[]⟩) = 0) := by show _ = _; rw [HMV.out]; exact hc0
                clear hck0 hc0
                go_wp2_with fail
                refine Calls.mono (HI.out _ HB.out) ?_
                rintro e y1 ⟨rfl, hb⟩
                have HB2 : Hid (Below w.heap.size w y1) := go_on HB.out hb
                clear hb
                have xc := HXC.out y1 HB2.out
                go_wp2_with fail
                refine Calls.mono (HCK.out _) ?_
                rintro e y2 ⟨rfl, hb⟩
                have HB3 : Hid (Below w.heap.size w y2) := go_on HB2.out hb
                clear hb xc
                go_wp2_with fail
                go_roundw
                case rel => (repeat apply Exists.intro); exact ⟨⟨2, rfl, by omega, fun j hj ho => by
                  by_cases e : j = 1
                  · subst e
                    exact HM0.out
                  · exact HJ.out j (by omega) ho, HB3.out⟩, rfl⟩
                case measure => simp [Go.RowKit.intOf]
              · have HCK : Hid (∀ y, Calls Try.prog 48 #[.int .i64 k, .string x] y fun e w' => e = .returned (.int .i64 21) ∧ Below y.heap.size y w') := fun y => by have := hck0 y; rw [hc0] at this; exact this
                have HE : Hid (wdE k L Ws om = 21) := HWE.out 21 (cv_bad HIN.out (j := 1) (by decide) HQ.out (by rw [HMV.out, hc0]; decide) (fun p => chk_two k _ hk1 hk8)) (by decide)
                clear hck0 hc0
                go_wp2_with fail
                refine Calls.mono (HI.out _ HB.out) ?_
                rintro e y1 ⟨rfl, hb⟩
                have HB2 : Hid (Below w.heap.size w y1) := go_on HB.out hb
                clear hb
                have xc := HXC.out y1 HB2.out
                go_wp2_with fail
                refine Calls.mono (HCK.out _) ?_
                rintro e y2 ⟨rfl, hb⟩
                have HB3 : Hid (Below w.heap.size w y2) := go_on HB2.out hb
                clear hb xc
                go_wp2_with fail
                go_ret2
                exact WdQ.err HE.out (by decide) HB3.out
          · clear hlt hin
            have HI : Hid (∀ y, Below w.heap.size w y → Calls Try.prog 37 #[.slice a1 L.length c1, .int .u8 122] y fun e w' => e = .returned (.bool (occ L 122)) ∧ Below y.heap.size y w') := fun y hy => rin_any _ L 122 y (HSG.out.below hy) hL
            cases q1 : occ L 122 with
            | false =>
              have HQ : Hid (occ L 122 = false) := q1
              rw [q1] at HI
              clear q1
              go_wp2_with fail
              refine Calls.mono (HI.out _ HB.out) ?_
              rintro e y1 ⟨rfl, hb⟩
              have HB2 : Hid (Below w.heap.size w y1) := go_on HB.out hb
              clear hb
              have HB3 : Hid (Below w.heap.size w y1) := HB2.out
              go_wp2_with fail
              go_roundw
              case rel => (repeat apply Exists.intro); exact ⟨⟨3, rfl, by omega, fun j hj ho => by
                by_cases e : j = 2
                · subst e
                  exact absurd (ho.symm.trans HQ.out) (by decide)
                · exact HJ.out j (by omega) ho, HB3.out⟩, rfl⟩
              case measure => simp [Go.RowKit.intOf]
            | true =>
              have HQ : Hid (occ L 122 = true) := q1
              rw [q1] at HI
              clear q1
              have hn : 2 < Ws.length := HIN.out 2 (by decide) HQ.out
              have hnI : (2 : Int) < Ws.length := by omega
              obtain ⟨x, hx⟩ : ∃ x, Ws.getD 2 ⟨#[]⟩ = x := ⟨_, rfl⟩
              obtain ⟨gx, ox, hax, hgx, hcx⟩ := HXR.out 2 hn
              subst hax
              rw [hx] at hcx
              have HXC : Hid (∀ y, Below w.heap.size w y → y.cell? ⟨gx, ox + 2, none⟩ = some (.string x)) := fun y hy => by rw [below_cell hy hgx]; exact hcx
              have hxz : x.size ≤ maxLen := by rw [← hx]; exact HZ.out 2 hn
              have hck0 : ∀ y, Calls Try.prog 48 #[.int .i64 k, .string x] y fun e w' => e = .returned (.int .i64 (chk k x)) ∧ Below y.heap.size y w' := fun y => rword_any k x y hxz
              have h21 := chk_two k x hk1 hk8
              have HMV : Hid (chk k (Ws.getD 2 ⟨#[]⟩) = chk k x) := by show _ = _; rw [hx]
              clear hcx hgx hx hn
              rcases h21 with hc0 | hc0
              · have HCK : Hid (∀ y, Calls Try.prog 48 #[.int .i64 k, .string x] y fun e w' => e = .returned (.int .i64 0) ∧ Below y.heap.size y w') := fun y => by have := hck0 y; rw [hc0] at this; exact this
                have HM0 : Hid (chk k (Ws.getD 2 ⟨#[]⟩) = 0) := by show _ = _; rw [HMV.out]; exact hc0
                clear hck0 hc0
                go_wp2_with fail
                refine Calls.mono (HI.out _ HB.out) ?_
                rintro e y1 ⟨rfl, hb⟩
                have HB2 : Hid (Below w.heap.size w y1) := go_on HB.out hb
                clear hb
                have xc := HXC.out y1 HB2.out
                go_wp2_with fail
                refine Calls.mono (HCK.out _) ?_
                rintro e y2 ⟨rfl, hb⟩
                have HB3 : Hid (Below w.heap.size w y2) := go_on HB2.out hb
                clear hb xc
                go_wp2_with fail
                go_roundw
                case rel => (repeat apply Exists.intro); exact ⟨⟨3, rfl, by omega, fun j hj ho => by
                  by_cases e : j = 2
                  · subst e
                    exact HM0.out
                  · exact HJ.out j (by omega) ho, HB3.out⟩, rfl⟩
                case measure => simp [Go.RowKit.intOf]
              · have HCK : Hid (∀ y, Calls Try.prog 48 #[.int .i64 k, .string x] y fun e w' => e = .returned (.int .i64 21) ∧ Below y.heap.size y w') := fun y => by have := hck0 y; rw [hc0] at this; exact this
                have HE : Hid (wdE k L Ws om = 21) := HWE.out 21 (cv_bad HIN.out (j := 2) (by decide) HQ.out (by rw [HMV.out, hc0]; decide) (fun p => chk_two k _ hk1 hk8)) (by decide)
                clear hck0 hc0
                go_wp2_with fail
                refine Calls.mono (HI.out _ HB.out) ?_
                rintro e y1 ⟨rfl, hb⟩
                have HB2 : Hid (Below w.heap.size w y1) := go_on HB.out hb
                clear hb
                have xc := HXC.out y1 HB2.out
                go_wp2_with fail
                refine Calls.mono (HCK.out _) ?_
                rintro e y2 ⟨rfl, hb⟩
                have HB3 : Hid (Below w.heap.size w y2) := go_on HB2.out hb
                clear hb xc
                go_wp2_with fail
                go_ret2
                exact WdQ.err HE.out (by decide) HB3.out
          · clear hlt hin
            have HI : Hid (∀ y, Below w.heap.size w y → Calls Try.prog 37 #[.slice a1 L.length c1, .int .u8 116] y fun e w' => e = .returned (.bool (occ L 116)) ∧ Below y.heap.size y w') := fun y hy => rin_any _ L 116 y (HSG.out.below hy) hL
            cases q1 : occ L 116 with
            | false =>
              have HQ : Hid (occ L 116 = false) := q1
              rw [q1] at HI
              clear q1
              go_wp2_with fail
              refine Calls.mono (HI.out _ HB.out) ?_
              rintro e y1 ⟨rfl, hb⟩
              have HB2 : Hid (Below w.heap.size w y1) := go_on HB.out hb
              clear hb
              have HB3 : Hid (Below w.heap.size w y1) := HB2.out
              go_wp2_with fail
              go_roundw
              case rel => (repeat apply Exists.intro); exact ⟨⟨4, rfl, by omega, fun j hj ho => by
                by_cases e : j = 3
                · subst e
                  exact absurd (ho.symm.trans HQ.out) (by decide)
                · exact HJ.out j (by omega) ho, HB3.out⟩, rfl⟩
              case measure => simp [Go.RowKit.intOf]
            | true =>
              have HQ : Hid (occ L 116 = true) := q1
              rw [q1] at HI
              clear q1
              have hn : 3 < Ws.length := HIN.out 3 (by decide) HQ.out
              have hnI : (3 : Int) < Ws.length := by omega
              obtain ⟨x, hx⟩ : ∃ x, Ws.getD 3 ⟨#[]⟩ = x := ⟨_, rfl⟩
              obtain ⟨gx, ox, hax, hgx, hcx⟩ := HXR.out 3 hn
              subst hax
              rw [hx] at hcx
              have HXC : Hid (∀ y, Below w.heap.size w y → y.cell? ⟨gx, ox + 3, none⟩ = some (.string x)) := fun y hy => by rw [below_cell hy hgx]; exact hcx
              have hxz : x.size ≤ maxLen := by rw [← hx]; exact HZ.out 3 hn
              have hck0 : ∀ y, Calls Try.prog 48 #[.int .i64 k, .string x] y fun e w' => e = .returned (.int .i64 (chk k x)) ∧ Below y.heap.size y w' := fun y => rword_any k x y hxz
              have h21 := chk_two k x hk1 hk8
              have HMV : Hid (chk k (Ws.getD 3 ⟨#[]⟩) = chk k x) := by show _ = _; rw [hx]
              clear hcx hgx hx hn
              rcases h21 with hc0 | hc0
              · have HCK : Hid (∀ y, Calls Try.prog 48 #[.int .i64 k, .string x] y fun e w' => e = .returned (.int .i64 0) ∧ Below y.heap.size y w') := fun y => by have := hck0 y; rw [hc0] at this; exact this
                have HM0 : Hid (chk k (Ws.getD 3 ⟨#[]⟩) = 0) := by show _ = _; rw [HMV.out]; exact hc0
                clear hck0 hc0
                go_wp2_with fail
                refine Calls.mono (HI.out _ HB.out) ?_
                rintro e y1 ⟨rfl, hb⟩
                have HB2 : Hid (Below w.heap.size w y1) := go_on HB.out hb
                clear hb
                have xc := HXC.out y1 HB2.out
                go_wp2_with fail
                refine Calls.mono (HCK.out _) ?_
                rintro e y2 ⟨rfl, hb⟩
                have HB3 : Hid (Below w.heap.size w y2) := go_on HB2.out hb
                clear hb xc
                go_wp2_with fail
                go_roundw
                case rel => (repeat apply Exists.intro); exact ⟨⟨4, rfl, by omega, fun j hj ho => by
                  by_cases e : j = 3
                  · subst e
                    exact HM0.out
                  · exact HJ.out j (by omega) ho, HB3.out⟩, rfl⟩
                case measure => simp [Go.RowKit.intOf]
              · have HCK : Hid (∀ y, Calls Try.prog 48 #[.int .i64 k, .string x] y fun e w' => e = .returned (.int .i64 21) ∧ Below y.heap.size y w') := fun y => by have := hck0 y; rw [hc0] at this; exact this
                have HE : Hid (wdE k L Ws om = 21) := HWE.out 21 (cv_bad HIN.out (j := 3) (by decide) HQ.out (by rw [HMV.out, hc0]; decide) (fun p => chk_two k _ hk1 hk8)) (by decide)
                clear hck0 hc0
                go_wp2_with fail
                refine Calls.mono (HI.out _ HB.out) ?_
                rintro e y1 ⟨rfl, hb⟩
                have HB2 : Hid (Below w.heap.size w y1) := go_on HB.out hb
                clear hb
                have xc := HXC.out y1 HB2.out
                go_wp2_with fail
                refine Calls.mono (HCK.out _) ?_
                rintro e y2 ⟨rfl, hb⟩
                have HB3 : Hid (Below w.heap.size w y2) := go_on HB2.out hb
                clear hb xc
                go_wp2_with fail
                go_ret2
                exact WdQ.err HE.out (by decide) HB3.out
        · have e4 : i = 4 := by omega
          subst e4
          have hcv : (cvE (vbs [L] 4) Ws.length (fun p => chk k (Ws.getD p ⟨#[]⟩))) = 0 := cv_good HIN.out HJ.out
          have hVOK := vok_of hk1 hk8 HCKD.out.2 HSG.out.lt hcv
          have es := tmOf_sg HCKD.out.2
          have hl : (tmOf L).sg.length = L.length := by have := congrArg List.length es; rw [intS_len] at this; omega
          have hE0 := HW0.out hcv
          have HSP : Hid (∀ y, Below w.heap.size w y → Calls Try.prog 49 #[.slice a1 L.length c1, .slice a2 Ws.length c2, .int .i64 om] y (RsQ (tmOf L) Ws om y)) := fun y hy =>
            rspelt_any (tmOf L) (by have := HCKD.out.1; omega) k om _ _ Ws y (by omega) hVOK (es ▸ (HSG.out.below hy)) (HSX.out.below hy) hW
          clear hcv hVOK es hl hlt hin
          cases hb : spO Ws om (tmOf L) with
          | false =>
            have HE : Hid (wdE k L Ws om = 6) := by show _ = _; rw [hE0, hb]; rfl
            have HSP2 : Hid (∀ y, Below w.heap.size w y → Calls Try.prog 49 #[.slice a1 L.length c1, .slice a2 Ws.length c2, .int .i64 om] y fun e w' => e = .returned (.tuple #[.string ⟨#[]⟩, .bool false]) ∧ Below y.heap.size y w') := fun y hy => by
              refine (HSP.out y hy).mono ?_
              rintro e w' ⟨he, hb2⟩
              rw [hb] at he
              exact ⟨he, hb2⟩
            clear hE0 hb HSP
            go_wp2_with fail
            refine Calls.mono (HSP2.out _ HB.out) ?_
            rintro e w5 ⟨rfl, hb5⟩
            have HB5 : Hid (Below w.heap.size w w5) := go_on HB.out hb5
            clear hb5
            go_wp2_with fail
            go_ret2
            exact WdQ.err HE.out (by decide) HB5.out
          | true =>
            obtain ⟨U, hU⟩ : ∃ U, spW Ws om (tmOf L) = U := ⟨_, rfl⟩
            have HE : Hid (wdU k L Ws om = U ∧ wdE k L Ws om = 0) := by
              have h0 : wdE k L Ws om = 0 := by rw [hE0, hb]; rfl
              refine ⟨?_, h0⟩
              unfold wdU
              rw [if_pos h0, hU]
            have HSP2 : Hid (∀ y, Below w.heap.size w y → Calls Try.prog 49 #[.slice a1 L.length c1, .slice a2 Ws.length c2, .int .i64 om] y fun e w' => e = .returned (.tuple #[.string (str U), .bool true]) ∧ Below y.heap.size y w') := fun y hy => by
              refine (HSP.out y hy).mono ?_
              rintro e w' ⟨he, hb2⟩
              rw [hb, if_pos rfl, hU] at he
              exact ⟨he, hb2⟩
            clear hE0 hb HSP hU
            go_wp2_with fail
            refine Calls.mono (HSP2.out _ HB.out) ?_
            rintro e w5 ⟨rfl, hb5⟩
            have HB5 : Hid (Below w.heap.size w w5) := go_on HB.out hb5
            clear hb5
            go_wp2_with fail
            go_ret2
            exact ⟨by rw [HE.out.1, HE.out.2]; rfl, HB5.out⟩
end Go.Proofs.Ythhlamehbcidgaa

namespace Go.Proofs.Ythhlamehbcidgaa
open Go Go.ChangeShapes Go.WideShapes Go.ChangeAt Go.RowKit Go.Lib
set_option linter.unusedVariables false
set_option linter.unusedSimpArgs false

theorem Try.cells_str1 : Try.prog.cellsOf 9 = 1 := by kernel_rfl
theorem Try.bytes_str1 : Try.prog.bytesOf 9 = 16 := by kernel_rfl
set_option maxRecDepth 100000 in
theorem open_words {H : Type} {enc : TypeId × Value → H} {w : World} {held : Bool} {r : Reach} {b0 : Nat} {v : Value} {d : DataW H} {ps : List MemPlace} (hval : Value.okWide Try.prog w r b0 47 v) (hd : DataW.Trod enc Try.prog w 0 (fun _ => true) held 47 v d ps) :
    ∃ Ws : List ByteArray, StR w v Ws ∧ NoCap v ∧ Ws.length ≤ maxLen ∧ (∀ j, j < Ws.length → (Ws.getD j ⟨#[]⟩).size ≤ maxLen) ∧ ((d = .nil ∧ Ws = []) ∨ ∃ e s, d = .slice e s ∧ Ws.length ≤ e.length + s.length) := by
  obtain ⟨a, len, cap, rfl⟩ := okWide_slice Try.underlying47 hval
  obtain ⟨fuel, hf⟩ := hd
  rcases Go.Deep.open_strs Try.underlying47 Try.underlying9 Try.cells_str1 hf with ⟨hcs, hx⟩ | ⟨a', len', cap', m, Sx, hcs, _, hl, hm, hmm, hx, hel⟩
  · simp [Value.cells] at hcs
    obtain ⟨rfl, rfl, rfl⟩ := hcs
    simp only [Prod.mk.injEq] at hx
    exact ⟨[], ⟨none, 0, rfl, fun i hi => by simp at hi⟩, fun n c e => by simp only [Value.slice.injEq] at e; omega, Nat.zero_le _, fun j hj => by simp at hj, .inl ⟨hx.1, rfl⟩⟩
  · simp [Value.cells] at hcs
    obtain ⟨rfl, rfl, rfl⟩ := hcs
    simp only [Prod.mk.injEq] at hx
    have hle : len ≤ m := by
      rw [hmm]
      split <;> omega
    have hln : ((List.range len).map Sx).length = len := by simp
    have hgd : ∀ i, i < len → ((List.range len).map Sx).getD i ⟨#[]⟩ = Sx i := fun i hi => by simp [List.getD_eq_getElem?_getD, hi]
    refine ⟨(List.range len).map Sx, ⟨some a', cap, by rw [hln], fun i hi => ?_⟩, (fun n c e => by simp at e), by omega, fun j hj => ?_, .inr ⟨_, _, hx.1, by simp⟩⟩
    · rw [hln] at hi
      obtain ⟨h1, h2⟩ := hel i (by omega)
      obtain ⟨b, off, spot⟩ := a'
      have hspot : spot = none := by
        have := World.cell?_spot (hel 0 (by omega)).1
        simpa [Addr.add] using this
      subst hspot
      rw [Addr.add_lit] at h1
      rw [hgd i hi]
      exact ⟨b, off, rfl, World.block_lt_of_cell? w _ h1, h1⟩
    · rw [hln] at hj
      rw [hgd j hj]
      exact (hel j (by omega)).2
set_option maxRecDepth 100000 in
theorem open_side {H : Type} {enc : TypeId × Value → H} {w : World} {held : Bool} {r : Reach} {b0 : Nat} {v : Value} {d : DataW H} {ps : List MemPlace} (hval : Value.okWide Try.prog w r b0 22 v) (hd : DataW.Trod enc Try.prog w 0 (fun _ => true) held 22 v d ps) :
    ∃ L, SgC w v L ∧ NoCap v ∧ L.length ≤ maxLen ∧ ((d = .nil ∧ L = []) ∨ ∃ e s, d = .slice e s ∧ L.length ≤ e.length + s.length) := by
  obtain ⟨a, len, cap, rfl⟩ := okWide_slice Try.underlying22 hval
  obtain ⟨fuel, hf⟩ := hd
  obtain ⟨L, h1, h2, h3, h4⟩ := open_signsE hf
  exact ⟨L, h1, h2, h3, h4⟩
/-- Strings, cell by cell. -/
def stI (Ws : List ByteArray) : List Value := Ws.map .string
theorem stI_len (Ws : List ByteArray) : (stI Ws).length = Ws.length := by simp [stI]
theorem stI_one (Ws : List ByteArray) (u : Value) (hu : u ∈ stI Ws) : u.oneCell' = true := by
  obtain ⟨x, _, rfl⟩ := List.mem_map.1 hu
  rfl
theorem stI_at (Ws : List ByteArray) (i : Nat) (hi : i < Ws.length) : (stI Ws)[i]? = some (.string (Ws.getD i ⟨#[]⟩)) := by
  simp [stI, List.getD_eq_getElem?_getD, hi]
theorem str_cells {w : World} {a : Addr} {cap : Nat} {Ws : List ByteArray} (h : StR w (.slice (some a) Ws.length cap) Ws) : ∀ j u, (stI Ws)[j]? = some u → w.cell? (a.add j) = some u := fun j u hj => by
  have hjl := (List.getElem?_eq_some_iff.1 hj).1
  rw [stI_len] at hjl
  obtain ⟨a', cap', e, hr⟩ := h
  simp only [Value.slice.injEq] at e
  obtain ⟨rfl, _, rfl⟩ := e
  obtain ⟨g, o, e, hg, h1⟩ := hr j hjl
  simp only [Option.some.injEq] at e
  subst e
  rw [Addr.add_lit, h1, ← hj, stI_at _ _ hjl]
theorem own_str {w : World} {b : Nat} {e : TypeId} {v : Value} {Ws : List ByteArray} (h : w.ownsRow b e 1 v Ws.length (stI Ws)) : StR w v Ws := by
  obtain ⟨a, c, rfl⟩ := own_shape h
  refine ⟨a, c, rfl, fun i hi => ?_⟩
  obtain ⟨g, cc, ev, -, -⟩ := World.ownsRow.form h (by omega)
  simp only [Value.slice.injEq] at ev
  obtain ⟨rfl, -, rfl⟩ := ev
  have hc := h.cellAt i (by omega)
  rw [stI_at _ _ hi] at hc
  exact ⟨g, 0, rfl, (h.lt g rfl).2, by rw [Nat.zero_add]; exact hc⟩
/-- append(v, xs...) of strings where v is an empty row of the call's own. -/
theorem wp_append_st {P : Program} {w : World} {o : Oper} {a : Act} {K : Act → World → Prop} {Q : Exit → Act → World → Prop} (s x : Operand) (t : TypeId)
    (ho : o.op = .call { callee := .builtin .append, args := #[s, x], argTypes := #[t, t] })
    (base : Nat) (e : TypeId) (i : TypeInfo) (z : Value) (bytes : Nat) (ht : P.underlying t = some (.slice e)) (hi : P.info? e = some i) (hz : i.zero = some z)
    (hsize : i.size = 1) (hby : i.bytes = bytes) (hzs : z.cells.size = 1)
    (v : Value) (hs : a.eval s = v) (hown : w.ownsRow base e 1 v 0 []) (vx : Value) (hx : a.eval x = vx) (L : List ByteArray) (hsr : StR w vx L) (hn : NoCap vx)
    (hbytes : L.length * bytes ≤ 140737488355328 ∧ L.length ≤ 9223372036854775000) (hbase : base ≤ w.heap.size)
    (h : ∀ v' w', w'.ownsRow base e 1 v' L.length (stI L) → w.grownBy w' v.ownBlock → (v'.ownBlock = v.ownBlock ∨ v'.ownBlock = some w.heap.size) → K (a.put o.dst v') w') : o.wp P a w K Q := by
  obtain ⟨src, c, rfl⟩ := hsr.len
  cases src with
  | none =>
    have hu : L = [] := by
      cases L with
      | nil => rfl
      | cons u us =>
        obtain ⟨a', cap', e', hr⟩ := hsr
        obtain ⟨g, o, e2, _⟩ := hr 0 (by simp)
        simp only [Value.slice.injEq] at e'
        rw [← e'.1] at e2
        cases e2
    subst hu
    have hc := hn _ _ rfl
    subst hc
    have hrun := run_append_owned_none (P := P) (w := w) base t o.type e i 1 ht hi v 0 [] hown
    unfold Oper.wp
    simp only [List.length_nil] at hx
    simp [execOp, ho, resolve, invoke, builtin, hs, hx, hrun, Result.andThen]
    exact h v w hown ⟨rfl, rfl, rfl, Nat.le_refl _, fun _ _ _ => rfl⟩ (.inl rfl)
  | some ad =>
    obtain ⟨v', w', hr, h2, h3, _, h5⟩ := run_append_own_at (P := P) w base t o.type e i z 1 bytes ht hi hz hsize hby hzs (by decide) v 0 [] hown ad L.length c (stI L) (by rw [stI_len]; omega) (str_cells hsr) (stI_one L) (by unfold maxLen; have := hbytes.2; omega) (by simpa using hbytes.1) hbase
    unfold Oper.wp execOp
    simp only [ho, resolve, invoke, builtin, Sem.run_bind, Sem.run_pure, Result.andThen_ok, List.map_toArray, List.map_cons, List.map_nil, hs, hx, hr]
    exact h v' w' (by simpa using h2) h3 h5

set_option maxHeartbeats 4000000 in
set_option maxRecDepth 100000 in
theorem words_same (va vb : Value) (Ws : List ByteArray) (w : World) (ha : StR w va Ws) (hb : StR w vb Ws) (hL : Ws.length ≤ 9223372036854775000) :
    Calls Try.prog 26 #[va, vb] w fun e w' => e = .returned (.bool true) ∧ Below w.heap.size w w' := by
  obtain ⟨a1, c1, e1⟩ := ha.len
  obtain ⟨a2, c2, e2⟩ := hb.len
  subst e1 e2
  have HA : Hid (StR w (.slice a1 Ws.length c1) Ws) := ha
  have HB : Hid (StR w (.slice a2 Ws.length c2) Ws) := hb
  clear ha hb
  go_enter Try.func26, Try.ntmps26
  go_wp2_with fail
  go_loopw [5] (fun vi wr => ∃ i : Nat, vi = .int .i64 i ∧ i ≤ Ws.length ∧ Below w.heap.size w wr) (fun vi _ => Ws.length - (Go.RowKit.intOf vi).toNat)
  case atStart => exact ⟨0, rfl, Nat.zero_le _, Below.refl _ _⟩
  case round =>
    obtain ⟨i, rfl, hin, hbr⟩ := hrel
    have HBR : Hid (Below w.heap.size w wr) := hbr
    by_cases hlt : i < Ws.length
    · have hiI : (i : Int) < Ws.length := by omega
      have hid : decide ((i : Int) < Ws.length) = true := decide_eq_true hiI
      have HLT : Hid (i < Ws.length) := hlt
      have hw1 : IntKind.i64.wrap ((i : Int) + 1) = ((i + 1 : Nat) : Int) := by rw [IntKind.wrap_i64]; omega
      obtain ⟨a1', cap1, e1, hr1⟩ := HA.out.below hbr
      obtain ⟨a2', cap2, e2, hr2⟩ := HB.out.below hbr
      simp only [Value.slice.injEq] at e1 e2
      obtain ⟨rfl, _, rfl⟩ := e1
      obtain ⟨rfl, _, rfl⟩ := e2
      obtain ⟨g1, o1, rfl, hg1, x1⟩ := hr1 i hlt
      obtain ⟨g2, o2, rfl, hg2, x2⟩ := hr2 i hlt
      obtain ⟨x, hx⟩ : ∃ x, Ws.getD i ⟨#[]⟩ = x := ⟨_, rfl⟩
      rw [hx] at x1 x2
      have S0 : wr.drew.cell? ⟨g1, o1 + i, none⟩ = some (.string x) ∧ wr.drew.cell? ⟨g2, o2 + i, none⟩ = some (.string x) := ⟨x1, x2⟩
      clear hr1 hr2 hbr hx hlt x1 x2
      go_upto_region 6 with fail
      refine wp_region_held_drew (S := fun y => y.cell? ⟨g1, o1 + i, none⟩ = some (.string x) ∧ y.cell? ⟨g2, o2 + i, none⟩ = some (.string x)) (by kernel_rfl) S0 (fun hH0 => ?_)
      clear S0
      refine wpAnyH_take (i := 0) (oi := { dst := some 17, op := Go.Op.move (Go.Operand.tmp 0), type := 47, pos := "keep.go:72", after := #[], guard := none }) (v := ?_) rfl (by kernel_rfl) (by kernel_rfl) (by kernel_rfl) (fun _ _ _ h => h) (Or.inl ⟨by rfl, ?_⟩) (by assumption) ?_
      rotate_left
      · intro w' hS; go_simp; (try with_reducible rfl)
      simp only [Act.put, List.setIfInBounds_toArray, List.set_cons_zero, List.set_cons_succ]
      refine wpAnyH_take (i := 1) (oi := { dst := some 18, op := Go.Op.move (Go.Operand.tmp 5), type := 3, pos := "keep.go:72", after := #[], guard := none }) (v := ?_) rfl (by kernel_rfl) (by kernel_rfl) (by kernel_rfl) (fun _ _ _ h => h) (Or.inl ⟨by rfl, ?_⟩) (by assumption) ?_
      rotate_left
      · intro w' hS; go_simp; (try with_reducible rfl)
      simp only [Act.put, List.setIfInBounds_toArray, List.set_cons_zero, List.set_cons_succ]
      refine wpAnyH_take (i := 2) (oi := { dst := some 19, op := Go.Op.indexAddr 47 (Go.Operand.tmp 17) (Go.Operand.tmp 18), type := 0, pos := "keep.go:72", after := #[{ on := 0, ground := Go.Ground.data }, { on := 1, ground := Go.Ground.data }], guard := none }) (v := ?_) rfl (by kernel_rfl) (by kernel_rfl) (by kernel_rfl) (fun _ _ _ h => h) (Or.inl ⟨by rfl, ?_⟩) (by assumption) ?_
      rotate_left
      · intro w' hS; go_simp; (try with_reducible rfl)
      simp only [Act.put, List.setIfInBounds_toArray, List.set_cons_zero, List.set_cons_succ]
      refine wpAnyH_take (i := 3) (oi := { dst := some 20, op := Go.Op.load 9 (Go.Operand.tmp 19), type := 9, pos := "keep.go:72", after := #[{ on := 2, ground := Go.Ground.data }], guard := none }) (v := .string x) rfl (by kernel_rfl) (by kernel_rfl) (by kernel_rfl) (fun _ _ _ h => h) (Or.inl ⟨by rfl, ?_⟩) (by assumption) ?_
      · intro w' hS; obtain ⟨z0, z1⟩ := hS; go_simp
      simp only [Act.put, List.setIfInBounds_toArray, List.set_cons_zero, List.set_cons_succ]
      refine wpAnyH_take (i := 4) (oi := { dst := some 21, op := Go.Op.move (Go.Operand.tmp 1), type := 47, pos := "keep.go:72", after := #[], guard := none }) (v := ?_) rfl (by kernel_rfl) (by kernel_rfl) (by kernel_rfl) (fun _ _ _ h => h) (Or.inl ⟨by rfl, ?_⟩) (by assumption) ?_
      rotate_left
      · intro w' hS; go_simp; (try with_reducible rfl)
      simp only [Act.put, List.setIfInBounds_toArray, List.set_cons_zero, List.set_cons_succ]
      refine wpAnyH_take (i := 5) (oi := { dst := some 22, op := Go.Op.move (Go.Operand.tmp 5), type := 3, pos := "keep.go:72", after := #[], guard := none }) (v := ?_) rfl (by kernel_rfl) (by kernel_rfl) (by kernel_rfl) (fun _ _ _ h => h) (Or.inl ⟨by rfl, ?_⟩) (by assumption) ?_
      rotate_left
      · intro w' hS; go_simp; (try with_reducible rfl)
      simp only [Act.put, List.setIfInBounds_toArray, List.set_cons_zero, List.set_cons_succ]
      refine wpAnyH_take (i := 6) (oi := { dst := some 23, op := Go.Op.indexAddr 47 (Go.Operand.tmp 21) (Go.Operand.tmp 22), type := 0, pos := "keep.go:72", after := #[{ on := 4, ground := Go.Ground.data }, { on := 5, ground := Go.Ground.data }], guard := none }) (v := ?_) rfl (by kernel_rfl) (by kernel_rfl) (by kernel_rfl) (fun _ _ _ h => h) (Or.inl ⟨by rfl, ?_⟩) (by assumption) ?_
      rotate_left
      · intro w' hS; go_simp; (try with_reducible rfl)
      simp only [Act.put, List.setIfInBounds_toArray, List.set_cons_zero, List.set_cons_succ]
      refine wpAnyH_take (i := 7) (oi := { dst := some 24, op := Go.Op.load 9 (Go.Operand.tmp 23), type := 9, pos := "keep.go:72", after := #[{ on := 6, ground := Go.Ground.data }], guard := none }) (v := .string x) rfl (by kernel_rfl) (by kernel_rfl) (by kernel_rfl) (fun _ _ _ h => h) (Or.inl ⟨by rfl, ?_⟩) (by assumption) ?_
      · intro w' hS; obtain ⟨z0, z1⟩ := hS; go_simp
      simp only [Act.put, List.setIfInBounds_toArray, List.set_cons_zero, List.set_cons_succ]
      refine wpAnyH_take (i := 8) (oi := { dst := some 25, op := Go.Op.binOp Go.BinOp.neq 9 (Go.Operand.tmp 20) (Go.Operand.tmp 24) 9, type := 4, pos := "keep.go:72", after := #[{ on := 3, ground := Go.Ground.data }, { on := 7, ground := Go.Ground.data }], guard := none }) (v := .bool false) rfl (by kernel_rfl) (by kernel_rfl) (by kernel_rfl) (fun _ _ _ h => h) (Or.inl ⟨by rfl, ?_⟩) (by assumption) ?_
      · intro w' hS; go_simp
      simp only [Act.put, List.setIfInBounds_toArray, List.set_cons_zero, List.set_cons_succ]
      refine wpAnyH_done (by kernel_rfl) ?_ _
      go_wp2_with fail
      go_roundw
      case rel => exact ⟨i + 1, rfl, HLT.out, HBR.out.drew⟩
      case measure => have := HLT.out; simp [Go.RowKit.intOf]; omega
    · have hiI : ¬ (i : Int) < Ws.length := by omega
      clear hbr
      go_wp2_with fail
      go_ret
      exact ⟨rfl, HBR.out⟩
end Go.Proofs.Ythhlamehbcidgaa
