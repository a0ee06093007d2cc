/- terms: check of any sides; the document's Side. -/
import Derived.Test.YthhlamehbcidgaaY37
namespace Go.Proofs.Ythhlamehbcidgaa
open Go Go.RowKit Go.Lib
set_option linter.unusedVariables false

def ckN (Ls : List (List (Int × Nat))) : Int := if (Ls.any fun L => decide (400 < L.length)) = true then 6 else if (Ls.all sideB) = true then 0 else 190
/-- check of one side. -/
def ck1 (L : List (Int × Nat)) : Int := if 400 < L.length then 6 else if sideB L = true then 0 else 190
theorem ckN_one (L : List (Int × Nat)) : ckN [L] = ck1 L := by
  unfold ckN ck1
  simp
theorem ckN_big {Ls : List (List (Int × Nat))} {i : Nat} (hi : i < Ls.length) (h : 400 < (Ls.getD i []).length) : ckN Ls = 6 := by
  unfold ckN
  rw [if_pos]
  rw [List.any_eq_true]
  rw [List.getD_eq_getElem?_getD, List.getElem?_eq_getElem hi, Option.getD_some] at h
  exact ⟨_, List.getElem_mem hi, decide_eq_true h⟩
theorem ckN_small {Ls : List (List (Int × Nat))} (h : ∀ i, i < Ls.length → ¬ 400 < (Ls.getD i []).length) : ckN Ls = if (Ls.all sideB) = true then 0 else 190 := by
  unfold ckN
  rw [if_neg]
  rw [List.any_eq_true]
  rintro ⟨L, hL, hq⟩
  obtain ⟨i, hi, e⟩ := List.getElem_of_mem hL
  have := h i hi
  rw [List.getD_eq_getElem?_getD, List.getElem?_eq_getElem hi, Option.getD_some, e] at this
  exact this (of_decide_eq_true hq)
theorem all_no {Ls : List (List (Int × Nat))} {i : Nat} (hi : i < Ls.length) (h : sideB (Ls.getD i []) = false) : ¬ (Ls.all sideB) = true := by
  intro ha
  rw [List.all_eq_true] at ha
  rw [List.getD_eq_getElem?_getD, List.getElem?_eq_getElem hi, Option.getD_some] at h
  rw [ha _ (List.getElem_mem hi)] at h
  cases h
theorem all_yes {Ls : List (List (Int × Nat))} (h : ∀ i, i < Ls.length → sideB (Ls.getD i []) = true) : (Ls.all sideB) = true := by
  rw [List.all_eq_true]
  intro L hL
  obtain ⟨i, hi, e⟩ := List.getElem_of_mem hL
  have := h i hi
  rw [List.getD_eq_getElem?_getD, List.getElem?_eq_getElem hi, Option.getD_some, e] at this
  exact this

set_option maxHeartbeats 4000000 in
set_option maxRecDepth 100000 in
theorem checkN_any (G : Nat) (vs : List Value) (Ls : List (List (Int × Nat))) (cap : Nat) (w : World) (h : SR w G vs Ls) (hL : Ls.length ≤ 40000) :
    Calls Try.prog 39 #[.slice (some ⟨G, 0, none⟩) Ls.length cap] w fun e w' => e = .returned (.int .i64 (ckN Ls)) ∧ Below w.heap.size w w' := by
  have HS : Hid (SR w G vs Ls) := h
  have HB0 : Hid (Below w.heap.size w w) := Below.refl _ _
  clear h
  go_enter Try.func39, Try.ntmps39
  go_wp2_with fail
  go_loopw [9, 2, 4] (fun vi v2 _ wr => ∃ i : Nat, vi = .int .i64 i ∧ v2 = .int .i64 0 ∧ i ≤ Ls.length ∧ (∀ j, j < i → ¬ 400 < (Ls.getD j []).length) ∧ Below w.heap.size w wr) (fun vi _ _ _ => Ls.length - (Go.RowKit.intOf vi).toNat)
  case atStart => exact ⟨0, rfl, rfl, Nat.zero_le _, fun j hj => by omega, HB0.out⟩
  case round =>
    obtain ⟨i, rfl, rfl, hi, hj, hb⟩ := hrel
    have HB : Hid (Below w.heap.size w wr) := hb
    have HJ : Hid (∀ j, j < i → ¬ 400 < (Ls.getD j []).length) := hj
    clear hb hj
    by_cases hlt : i < Ls.length
    · have hiI : (i : Int) < Ls.length := by omega
      have hid : decide ((i : Int) < Ls.length) = true := decide_eq_true hiI
      have hc := (HS.out.below HB.out).cell hlt
      obtain ⟨a1, c1, e1⟩ := ((HS.out.below HB.out).r i hlt).1.len
      rw [e1] at hc
      obtain ⟨n, hn⟩ : ∃ n, (Ls.getD i []).length = n := ⟨_, rfl⟩
      have HN : Hid ((Ls.getD i []).length = n ∧ i < Ls.length) := ⟨hn, hlt⟩
      rw [hn] at hc
      have hw3 : IntKind.i64.wrap ((i : Int) + 1) = ((i + 1 : Nat) : Int) := by rw [IntKind.wrap_i64]; omega
      clear e1 hn hlt
      by_cases hbig : 400 < n
      · have hbI : (400 : Int) < n := by omega
        have hbd : decide ((400 : Int) < n) = true := decide_eq_true hbI
        have HE : Hid (ckN Ls = 6) := ckN_big HN.out.2 (by rw [HN.out.1]; exact hbig)
        go_wp2_with fail
        go_ret
        exact ⟨by rw [HE.out]; rfl, HB.out⟩
      · have hbI : ¬ (400 : Int) < n := by omega
        have hbd : decide ((400 : Int) < n) = false := decide_eq_false hbI
        have HNB : Hid (¬ 400 < n) := hbig
        go_wp2_with fail
        go_roundw
        case rel => exact ⟨i + 1, rfl, rfl, HN.out.2, fun j hj => by
          by_cases e : j = i
          · subst e; rw [HN.out.1]; exact HNB.out
          · exact HJ.out j (by omega), HB.out⟩
        case measure => have := HN.out.2; simp [Go.RowKit.intOf]; omega
    · have hiN : ¬ (i : Int) < Ls.length := by omega
      have hiD : decide ((i : Int) < Ls.length) = false := decide_eq_false hiN
      have HSM : Hid (∀ j, j < Ls.length → ¬ 400 < (Ls.getD j []).length) := fun j hj => HJ.out j (by omega)
      have HE : Hid (ckN Ls = if (Ls.all sideB) = true then 0 else 190) := ckN_small HSM.out
      go_wp2_with fail
      go_loopw [19, 2, 6] (fun vi v2 _ wr => ∃ i : Nat, vi = .int .i64 i ∧ v2 = .int .i64 0 ∧ i ≤ Ls.length ∧ (∀ j, j < i → sideB (Ls.getD j []) = true) ∧ Below w.heap.size w wr) (fun vi _ _ _ => Ls.length - (Go.RowKit.intOf vi).toNat)
      case atStart => exact ⟨0, rfl, rfl, Nat.zero_le _, fun j hj => by omega, HB.out⟩
      case round =>
        clear HB HJ
        obtain ⟨i, rfl, rfl, hi, hj, hb⟩ := hrel
        have HB : Hid (Below w.heap.size w wr) := hb
        have HJ : Hid (∀ j, j < i → sideB (Ls.getD j []) = true) := hj
        have HII : Hid (i ≤ Ls.length) := hi
        clear hb hj
        by_cases hlt : i < Ls.length
        · have hiI : (i : Int) < Ls.length := by omega
          have hid : decide ((i : Int) < Ls.length) = true := decide_eq_true hiI
          have hc := (HS.out.below HB.out).cell hlt
          have hn4 := HSM.out i hlt
          have HSL : Hid (Calls Try.prog 77 #[vs.getD i (.slice none 0 0)] wr fun e w' => e = .returned (.bool (sideB (Ls.getD i []))) ∧ Below wr.heap.size wr w') := isSide_any _ _ wr ((HS.out.below HB.out).r i hlt).1 (by omega)
          obtain ⟨a1, c1, e1⟩ := ((HS.out.below HB.out).r i hlt).1.len
          rw [e1] at hc HSL
          have HLT : Hid (i < Ls.length) := hlt
          have hw3 : IntKind.i64.wrap ((i : Int) + 1) = ((i + 1 : Nat) : Int) := by rw [IntKind.wrap_i64]; omega
          clear e1 hn4 hlt
          cases hq : sideB (Ls.getD i []) with
          | true =>
            have HT : Hid (sideB (Ls.getD i []) = true) := hq
            rw [hq] at HSL
            clear hq
            go_wp2_with fail
            refine Calls.mono HSL.out ?_
            rintro e w2 ⟨rfl, hb⟩
            have HB2 : Hid (Below w.heap.size w w2) := go_on HB.out hb
            clear hb hc
            go_wp2_with fail
            go_roundw
            case rel => exact ⟨i + 1, rfl, rfl, HLT.out, fun j hj => by
              by_cases e : j = i
              · subst e; exact HT.out
              · exact HJ.out j (by omega), HB2.out⟩
            case measure => have := HLT.out; simp [Go.RowKit.intOf]; omega
          | false =>
            have HT : Hid (ckN Ls = 190) := by show _ = _; rw [HE.out, if_neg (all_no HLT.out hq)]
            rw [hq] at HSL
            clear hq
            go_wp2_with fail
            refine Calls.mono HSL.out ?_
            rintro e w2 ⟨rfl, hb⟩
            have HB2 : Hid (Below w.heap.size w w2) := go_on HB.out hb
            clear hb hc
            go_wp2_with fail
            go_ret
            exact ⟨by rw [HT.out]; rfl, HB2.out⟩
        · have hiN : ¬ (i : Int) < Ls.length := by omega
          have hiD : decide ((i : Int) < Ls.length) = false := decide_eq_false hiN
          have HT : Hid (ckN Ls = 0) := by show _ = _; rw [HE.out, if_pos (all_yes (fun j hj => HJ.out j (by have := HII.out; omega)))]
          go_wp2_with fail
          go_ret
          exact ⟨by rw [HT.out]; rfl, HB.out⟩

set_option maxHeartbeats 2000000 in
set_option maxRecDepth 100000 in
theorem rSide_any (v : Value) (L : List (Int × Nat)) (w : World) (h : SgR w v L) (hL : L.length ≤ 9223372036854775807) : Calls Try.prog 47 #[v] w fun e w' => e = .returned (.int .i64 (ck1 L)) ∧ Below w.heap.size w w' := by
  obtain ⟨a1, c1, e1⟩ := h.len
  subst e1
  have HA : Hid (SgR w (.slice a1 L.length c1) L) := h
  clear h
  by_cases hbig : 400 < L.length
  · have hbI : (400 : Int) < L.length := by omega
    have hbd : decide ((400 : Int) < L.length) = true := decide_eq_true hbI
    have HE : Hid (ck1 L = 6) := by show _ = _; unfold ck1; rw [if_pos hbig]
    go_enter Try.func47, Try.ntmps47
    go_wp2_with fail
    go_ret
    exact ⟨by rw [HE.out]; rfl, Below.refl _ _⟩
  · have hbI : ¬ (400 : Int) < L.length := by omega
    have hbd : decide ((400 : Int) < L.length) = false := decide_eq_false hbI
    have HT : Hid (Calls Try.prog 40 #[.slice a1 L.length c1] w fun e w' => e = .returned (.bool (sideB L)) ∧ Below w.heap.size w w') := rterm_any _ L w HA.out (by omega)
    have HE : Hid (ck1 L = if sideB L = true then 0 else 190) := by show _ = _; unfold ck1; rw [if_neg hbig]
    clear hbig
    cases hq : sideB L with
    | true =>
      rw [hq] at HT HE
      clear hq
      go_enter Try.func47, Try.ntmps47
      go_wp2_with fail
      refine Calls.mono HT.out ?_
      rintro e w2 ⟨rfl, hb⟩
      have HB : Hid (Below w.heap.size w w2) := hb
      clear hb
      go_wp2_with fail
      go_ret
      exact ⟨by rw [HE.out]; rfl, HB.out⟩
    | false =>
      rw [hq] at HT HE
      clear hq
      go_enter Try.func47, Try.ntmps47
      go_wp2_with fail
      refine Calls.mono HT.out ?_
      rintro e w2 ⟨rfl, hb⟩
      have HB : Hid (Below w.heap.size w w2) := hb
      clear hb
      go_wp2_with fail
      go_ret
      exact ⟨by rw [HE.out]; rfl, HB.out⟩
end Go.Proofs.Ythhlamehbcidgaa
