/- terms: check, Check. -/
import Derived.Test.YthhlamehbcidgaaY9
namespace Go.Proofs.Ythhlamehbcidgaa
open Go Go.RowKit Go.Lib
set_option linter.unusedVariables false

/-- What check answers of two sides. -/
def ck2 (L R : List (Int × Nat)) : Int := if 400 < L.length ∨ 400 < R.length then 6 else if sideB L = true ∧ sideB R = true then 0 else 190
def two {α : Type} (x y : α) : Nat → α := fun j => if j = 0 then x else y
theorem SgR.len {w : World} {v : Value} {L : List (Int × Nat)} (h : SgR w v L) : ∃ a cap, v = .slice a L.length cap := by
  obtain ⟨a, cap, e, _⟩ := h
  exact ⟨a, cap, e⟩

set_option maxHeartbeats 4000000 in
set_option maxRecDepth 100000 in
theorem check2_any (vl vr : Value) (L R : List (Int × Nat)) (G : Nat) (w : World) (hl : SgR w vl L) (hr : SgR w vr R) (hg : w.heap[G]? = some (.cells #[vl, vr] 22 (0, 0))) (hL : L.length ≤ 9223372036854775807) (hR : R.length ≤ 9223372036854775807) :
    Calls Try.prog 39 #[.slice (some ⟨G, 0, none⟩) 2 2] w fun e w' => e = .returned (.int .i64 (ck2 L R)) ∧ Below w.heap.size w w' := by
  have HL : Hid (∀ y, Below w.heap.size w y → SgR y vl L) := fun y hy => hl.below hy
  have HR : Hid (∀ y, Below w.heap.size w y → SgR y vr R) := fun y hy => hr.below hy
  obtain ⟨al, cl, rfl⟩ := hl.len
  obtain ⟨ar, cr, rfl⟩ := hr.len
  have hG := (Array.getElem?_eq_some_iff.1 hg).1
  have HC : Hid (∀ y, Below w.heap.size w y → y.cell? ⟨G, 0, none⟩ = some (.slice al L.length cl) ∧ y.cell? ⟨G, 1, none⟩ = some (.slice ar R.length cr)) := fun y hy => by
    rw [below_cell hy hG, below_cell hy hG]
    exact ⟨cell_at hg rfl, cell_at hg rfl⟩
  have HB0 : Hid (Below w.heap.size w w) := Below.refl _ _
  clear hl hr hg
  go_enter Try.func39, Try.ntmps39
  go_wp2_with fail
  have HCK : Hid (∀ x, (400 < L.length ∨ 400 < R.length → x = 6) → (¬ (400 < L.length ∨ 400 < R.length) → (sideB L = true ∧ sideB R = true → x = 0) ∧ (¬ (sideB L = true ∧ sideB R = true) → x = 190)) → x = ck2 L R) := fun x h1 h2 => by
    unfold ck2
    by_cases c : 400 < L.length ∨ 400 < R.length
    · rw [if_pos c]; exact h1 c
    · rw [if_neg c]
      by_cases d : sideB L = true ∧ sideB R = true
      · rw [if_pos d]; exact (h2 c).1 d
      · rw [if_neg d]; exact (h2 c).2 d
  go_loopw [9, 2, 4] (fun vi v2 _ wr => ∃ i : Nat, vi = .int .i64 i ∧ v2 = .int .i64 0 ∧ i ≤ 2 ∧ (0 < i → L.length ≤ 400) ∧ (1 < i → R.length ≤ 400) ∧ Below w.heap.size w wr) (fun vi _ _ _ => 2 - (Go.RowKit.intOf vi).toNat)
  case atStart => exact ⟨0, rfl, rfl, by omega, by omega, by omega, HB0.out⟩
  case round =>
    obtain ⟨i, rfl, rfl, hi, h1, h2, hb⟩ := hrel
    have HB : Hid (Below w.heap.size w wr) := hb
    obtain ⟨c0, c1⟩ := HC.out wr hb
    clear hb
    have hcase : i = 0 ∨ i = 1 ∨ i = 2 := by omega
    rcases hcase with rfl | rfl | hi2
    · by_cases hbig : 400 < L.length
      · have hbI : (400 : Int) < L.length := by omega
        have hbd : decide ((400 : Int) < L.length) = true := decide_eq_true hbI
        have HE : Hid (6 = ck2 L R) := HCK.out 6 (fun _ => rfl) (fun c => absurd (.inl hbig) c)
        go_wp2_with fail
        go_ret
        exact ⟨by rw [← HE.out]; rfl, HB.out⟩
      · have hbI : ¬ (400 : Int) < L.length := by omega
        have hbd : decide ((400 : Int) < L.length) = false := decide_eq_false hbI
        go_wp2_with fail
        go_roundw
        case rel => exact ⟨1, rfl, rfl, by omega, by omega, by omega, HB.out⟩
        case measure => simp [Go.RowKit.intOf]
    · have hl400 := h1 (by omega)
      by_cases hbig : 400 < R.length
      · have hbI : (400 : Int) < R.length := by omega
        have hbd : decide ((400 : Int) < R.length) = true := decide_eq_true hbI
        have HE : Hid (6 = ck2 L R) := HCK.out 6 (fun _ => rfl) (fun c => absurd (.inr hbig) c)
        go_wp2_with fail
        go_ret
        exact ⟨by rw [← HE.out]; rfl, HB.out⟩
      · have hbI : ¬ (400 : Int) < R.length := by omega
        have hbd : decide ((400 : Int) < R.length) = false := decide_eq_false hbI
        go_wp2_with fail
        go_roundw
        case rel => exact ⟨2, rfl, rfl, by omega, by omega, by omega, HB.out⟩
        case measure => simp [Go.RowKit.intOf]
    · have hl400 := h1 (by omega)
      have hr400 := h2 (by omega)
      have hiN : ¬ (i : Int) < 2 := by omega
      have hiD : decide ((i : Int) < 2) = false := decide_eq_false hiN
      have hno : ¬ (400 < L.length ∨ 400 < R.length) := by omega
      have HNO : Hid (¬ (400 < L.length ∨ 400 < R.length)) := hno
      clear c0 c1
      go_wp2_with fail
      go_loopw [19, 2, 6] (fun vi v2 _ wr => ∃ i : Nat, vi = .int .i64 i ∧ v2 = .int .i64 0 ∧ i ≤ 2 ∧ (0 < i → sideB L = true) ∧ (1 < i → sideB R = true) ∧ Below w.heap.size w wr) (fun vi _ _ _ => 2 - (Go.RowKit.intOf vi).toNat)
      case atStart => exact ⟨0, rfl, rfl, by omega, by omega, by omega, HB.out⟩
      case round =>
        clear HB
        obtain ⟨i, rfl, rfl, hi, h1, h2, hb⟩ := hrel
        have HB : Hid (Below w.heap.size w wr) := hb
        obtain ⟨c0, c1⟩ := HC.out wr hb
        have HSL : Hid (Calls Try.prog 77 #[.slice al L.length cl] wr fun e w' => e = .returned (.bool (sideB L)) ∧ Below wr.heap.size wr w') := isSide_any _ L wr (HL.out wr hb) hl400
        have HSR : Hid (Calls Try.prog 77 #[.slice ar R.length cr] wr fun e w' => e = .returned (.bool (sideB R)) ∧ Below wr.heap.size wr w') := isSide_any _ R wr (HR.out wr hb) hr400
        clear hb
        have hcase : i = 0 ∨ i = 1 ∨ i = 2 := by omega
        rcases hcase with rfl | rfl | rfl
        · go_wp2_with fail
          refine HSL.out.mono ?_
          rintro e w2 ⟨rfl, hb⟩
          have HB2 : Hid (Below w.heap.size w w2) := go_on HB.out hb
          clear hb
          obtain ⟨q, hq⟩ : ∃ q, sideB L = q := ⟨_, rfl⟩
          have HQ : Hid (sideB L = q) := hq
          rw [hq]
          cases q with
          | true =>
            have HT : Hid (sideB L = true) := hq
            clear hq
            go_wp2_with fail
            go_roundw
            case rel => exact ⟨1, rfl, rfl, by omega, fun _ => HT.out, by omega, HB2.out⟩
            case measure => simp [Go.RowKit.intOf]
          | false =>
            have HE : Hid (190 = ck2 L R) := HCK.out 190 (fun c => absurd c HNO.out) (fun _ => ⟨fun d => (by rw [hq] at d; exact absurd d.1 (by decide)), fun _ => rfl⟩)
            clear hq
            go_wp2_with fail
            go_ret
            exact ⟨by rw [← HE.out]; rfl, HB2.out⟩
        · have HT1 : Hid (sideB L = true) := h1 (by omega)
          go_wp2_with fail
          refine HSR.out.mono ?_
          rintro e w2 ⟨rfl, hb⟩
          have HB2 : Hid (Below w.heap.size w w2) := go_on HB.out hb
          clear hb
          obtain ⟨q, hq⟩ : ∃ q, sideB R = q := ⟨_, rfl⟩
          rw [hq]
          cases q with
          | true =>
            have HT : Hid (sideB R = true) := hq
            clear hq
            go_wp2_with fail
            go_roundw
            case rel => exact ⟨2, rfl, rfl, by omega, fun _ => HT1.out, fun _ => HT.out, HB2.out⟩
            case measure => simp [Go.RowKit.intOf]
          | false =>
            have HE : Hid (190 = ck2 L R) := HCK.out 190 (fun c => absurd c HNO.out) (fun _ => ⟨fun d => (by rw [hq] at d; exact absurd d.2 (by decide)), fun _ => rfl⟩)
            clear hq
            go_wp2_with fail
            go_ret
            exact ⟨by rw [← HE.out]; rfl, HB2.out⟩
        · have HE : Hid (0 = ck2 L R) := HCK.out 0 (fun c => absurd c HNO.out) (fun _ => ⟨fun _ => rfl, fun d => absurd ⟨h1 (by omega), h2 (by omega)⟩ d⟩)
          go_wp2_with fail
          go_ret
          exact ⟨by rw [← HE.out]; rfl, HB.out⟩

set_option maxHeartbeats 2000000 in
set_option maxRecDepth 100000 in
theorem tCheck_any (vl vr : Value) (x : Bool) (L R : List (Int × Nat)) (w : World) (hl : SgR w vl L) (hr : SgR w vr R) (hL : L.length ≤ 9223372036854775807) (hR : R.length ≤ 9223372036854775807) :
    Calls Try.prog 21 #[.agg #[vl, vr, .bool x]] w fun e w' => e = .returned (.int .i64 (ck2 L R)) ∧ Below w.heap.size w w' := by
  obtain ⟨al, cl, el⟩ := hl.len
  obtain ⟨ar, cr, er⟩ := hr.len
  have hb2 : Below w.heap.size w ((w.alloc (.cells #[vl, vr, .bool x] 24)).alloc (.cells #[vl, vr] 22)) := go_on (below_new _ _) (below_new _ _)
  have hlast : ((w.alloc (.cells #[vl, vr, .bool x] 24)).alloc (.cells #[vl, vr] 22)).heap[w.heap.size + 1]? = some (.cells #[vl, vr] 22 (0, 0)) := by
    have := heap_last (w.alloc (.cells #[vl, vr, .bool x] 24)) (.cells #[vl, vr] 22)
    rw [World.size_alloc] at this
    exact this
  have HCC : Hid (Calls Try.prog 39 #[.slice (some ⟨w.heap.size + 1, 0, none⟩) 2 2] ((w.alloc (.cells #[vl, vr, .bool x] 24)).alloc (.cells #[vl, vr] 22)) fun e w' => e = .returned (.int .i64 (ck2 L R)) ∧ Below ((w.alloc (.cells #[vl, vr, .bool x] 24)).alloc (.cells #[vl, vr] 22)).heap.size ((w.alloc (.cells #[vl, vr, .bool x] 24)).alloc (.cells #[vl, vr] 22)) w') := check2_any vl vr L R (w.heap.size + 1) _ (hl.below hb2) (hr.below hb2) hlast hL hR
  have HB2 : Hid (Below w.heap.size w ((w.alloc (.cells #[vl, vr, .bool x] 24)).alloc (.cells #[vl, vr] 22))) := hb2
  subst el er
  clear hl hr hb2 hlast
  go_enter Try.func21, Try.ntmps21
  go_wp2_with fail
  refine Calls.mono HCC.out ?_
  rintro e w2 ⟨rfl, hb⟩
  have HB : Hid (Below w.heap.size w w2) := go_on HB2.out hb
  clear hb
  go_wp2_with fail
  go_ret
  exact ⟨rfl, HB.out⟩
end Go.Proofs.Ythhlamehbcidgaa
