/- terms: place, partsOf, isSign, isSide, check, Check. -/
import Derived.Test.YthhlamehbcidgaaY8
namespace Go.Proofs.Ythhlamehbcidgaa
open Go Go.RowKit Go.Lib
set_option linter.unusedVariables false

def arN (k : Int) : Int := if k = 3 then 2 else if k = 4 then 1 else 0
def plI (n : Nat) : Int := Lib.indexByte bXYZ.data.toList n.toUInt8
def gdS (k : Int) (n : Nat) : Bool := if k = 2 then decide (0 ≤ plI n) else decide (1 ≤ k) && decide (k ≤ 4) && decide (n = 0)
/-- How many sides wait for a sign. -/
def runS : Int → List (Int × Nat) → Option Int
  | q, [] => some q
  | q, (k, n) :: L => if gdS k n = true ∧ arN k ≤ q then runS (q + 1 - arN k) L else none
def sideB (L : List (Int × Nat)) : Bool := match runS 0 L with
  | some q => q == 1
  | none => false
/-- Signs as they lie in memory. -/
def SgR (w : World) (v : Value) (L : List (Int × Nat)) : Prop :=
  ∃ a cap, v = .slice a L.length cap ∧ ∀ i, i < L.length → ∃ g o, a = some ⟨g, o, none⟩ ∧ g < w.heap.size ∧ w.cell? ⟨g, o + i * 2, none⟩ = some (.int .i64 (L.getD i (0, 0)).1) ∧ w.cell? ⟨g, o + i * 2 + 1, none⟩ = some (.int .u8 ((L.getD i (0, 0)).2 : Nat)) ∧ (L.getD i (0, 0)).2 < 256
theorem SgR.below {w w' : World} {v : Value} {L : List (Int × Nat)} (h : SgR w v L) (hb : Below w.heap.size w w') : SgR w' v L := by
  obtain ⟨a, cap, rfl, hr⟩ := h
  refine ⟨a, cap, rfl, fun i hi => ?_⟩
  obtain ⟨g, o, e, hg, h1, h2, h3⟩ := hr i hi
  exact ⟨g, o, e, Nat.lt_of_lt_of_le hg hb.size, by rw [below_cell hb hg]; exact h1, by rw [below_cell hb hg]; exact h2, h3⟩

set_option maxHeartbeats 1000000 in
set_option maxRecDepth 100000 in
theorem place_any (n : Nat) (hn : n < 256) (w : World) : Calls Try.prog 80 #[.int .u8 (n : Nat)] w fun e w' => e = .returned (.int .i64 (plI n)) ∧ w = w' := by
  have HI : Hid (Calls Try.prog 100 #[.string bXYZ, .int .u8 (n : Nat)] w fun e w' => e = .returned (.int .i64 (plI n)) ∧ w = w') := by
    have := indexByte_any bXYZ (n : Int) w
    exact this
  go_enter Try.func80, Try.ntmps80
  go_wp2_with (go_at_call 100; refine HI.out.mono ?_; rintro e w1 ⟨rfl, rfl⟩)
  go_ret
  exact ⟨rfl, rfl⟩
set_option maxHeartbeats 1000000 in
set_option maxRecDepth 100000 in
theorem partsOf_any (k : Int) (w : World) : Calls Try.prog 105 #[.int .i64 k] w fun e w' => e = .returned (.int .i64 (arN k)) ∧ w = w' := by
  by_cases h3 : k = 3
  · subst h3
    go_enter Try.func105, Try.ntmps105
    go_wp2_with fail
    go_ret
    exact ⟨rfl, rfl⟩
  by_cases h4 : k = 4
  · subst h4
    go_enter Try.func105, Try.ntmps105
    go_wp2_with fail
    go_ret
    exact ⟨rfl, rfl⟩
  · have e : Hid (arN k = 0) := by show _ = _; unfold arN; rw [if_neg h3, if_neg h4]
    have b3 : (k == 3) = false := by rw [beq_eq_false_iff_ne]; exact h3
    have b4 : (k == 4) = false := by rw [beq_eq_false_iff_ne]; exact h4
    go_enter Try.func105, Try.ntmps105
    go_wp2_with fail
    go_ret
    exact ⟨by rw [e.out]; rfl, rfl⟩

set_option maxHeartbeats 2000000 in
set_option maxRecDepth 100000 in
theorem isSign_any (k : Int) (n : Nat) (hn : n < 256) (w : World) : Calls Try.prog 106 #[.agg #[.int .i64 k, .int .u8 (n : Nat)]] w fun e w' => e = .returned (.bool (gdS k n)) ∧ Below w.heap.size w w' := by
  obtain ⟨w0, hw0⟩ : ∃ w0, w0 = w.alloc (.cells #[.int .i64 k, .int .u8 (n : Nat)] 81) := ⟨_, rfl⟩
  have HB : Hid (Below w.heap.size w (w.alloc (.cells #[.int .i64 k, .int .u8 (n : Nat)] 81))) := below_new _ _
  clear hw0
  by_cases h2 : k = 2
  · subst h2
    have hg : gdS 2 n = decide (0 ≤ plI n) := by unfold gdS; rw [if_pos rfl]
    rw [hg]
    have HP : Hid (∀ y, Calls Try.prog 80 #[.int .u8 (n : Nat)] y fun e w' => e = .returned (.int .i64 (plI n)) ∧ y = w') := fun y => place_any n hn y
    obtain ⟨x, hx⟩ : ∃ x, plI n = x := ⟨_, rfl⟩
    rw [hx] at HP ⊢
    go_enter Try.func106, Try.ntmps106
    go_wp2_with (go_at_call 80; refine (HP.out _).mono ?_; rintro e w1 ⟨rfl, rfl⟩)
    go_ret
    exact ⟨rfl, HB.out⟩
  · have b2 : (k == 2) = false := by rw [beq_eq_false_iff_ne]; exact h2
    have hg : gdS k n = (decide (1 ≤ k) && decide (k ≤ 4) && decide (n = 0)) := by unfold gdS; rw [if_neg h2]
    have HG : Hid _ := hg
    by_cases c1 : 1 ≤ k
    · have d1 : decide (1 ≤ k) = true := decide_eq_true c1
      by_cases c2 : k ≤ 4
      · have d2 : decide (k ≤ 4) = true := decide_eq_true c2
        have hcmp : ((n : Int) == 0) = decide (n = 0) := by
          by_cases z : n = 0
          · subst z; simp
          · have : ((n : Int) == 0) = false := by rw [beq_eq_false_iff_ne]; omega
            rw [this, decide_eq_false z]
        clear hg
        go_enter Try.func106, Try.ntmps106
        go_wp2_with fail
        go_ret
        refine ⟨?_, HB.out⟩
        rw [HG.out, d1, d2]
        simp
      · have d2 : decide (k ≤ 4) = false := decide_eq_false c2
        clear hg
        go_enter Try.func106, Try.ntmps106
        go_wp2_with fail
        go_ret
        refine ⟨?_, HB.out⟩
        rw [HG.out, d1, d2]
        simp
    · have d1 : decide (1 ≤ k) = false := decide_eq_false c1
      clear hg
      go_enter Try.func106, Try.ntmps106
      go_wp2_with fail
      go_ret
      refine ⟨?_, HB.out⟩
      rw [HG.out, d1]
      simp

theorem runS_none {q : Int} {k : Int} {n : Nat} {L : List (Int × Nat)} (h : ¬ (gdS k n = true ∧ arN k ≤ q)) : runS q ((k, n) :: L) = none := by rw [runS, if_neg h]
theorem runS_some {q : Int} {k : Int} {n : Nat} {L : List (Int × Nat)} (h : gdS k n = true ∧ arN k ≤ q) : runS q ((k, n) :: L) = runS (q + 1 - arN k) L := by rw [runS, if_pos h]
theorem arN_le (k : Int) : 0 ≤ arN k ∧ arN k ≤ 2 := by unfold arN; split; omega; split <;> omega

set_option maxHeartbeats 4000000 in
set_option maxRecDepth 100000 in
theorem isSide_any (v : Value) (L : List (Int × Nat)) (w : World) (h : SgR w v L) (hL : L.length ≤ 400) : Calls Try.prog 77 #[v] w fun e w' => e = .returned (.bool (sideB L)) ∧ Below w.heap.size w w' := by
  have HR : Hid (∀ y, Below w.heap.size w y → SgR y v L) := fun y hy => h.below hy
  obtain ⟨a, cap, rfl, _⟩ := h
  go_enter Try.func77, Try.ntmps77
  go_wp2_with fail
  go_loopw [9, 3, 5, 6] (fun vi vq _ _ wr => ∃ (i : Nat) (q : Int), vi = .int .i64 i ∧ vq = .int .i64 q ∧ i ≤ L.length ∧ 0 ≤ q ∧ q ≤ i ∧ runS 0 L = runS q (L.drop i) ∧ Below w.heap.size w wr) (fun vi _ _ _ _ => L.length - (Go.RowKit.intOf vi).toNat)
  case atStart => exact ⟨0, 0, rfl, rfl, Nat.zero_le _, by omega, by omega, rfl, Below.refl _ _⟩
  case round =>
    obtain ⟨i, q, rfl, rfl, hin, hq0, hqi, hrun, hb⟩ := hrel
    have HRUN : Hid (runS 0 L = runS q (L.drop i)) := hrun
    have HB : Hid (Below w.heap.size w wr) := hb
    obtain ⟨a', cap', e', hr⟩ := HR.out wr hb
    simp only [Value.slice.injEq] at e'
    obtain ⟨rfl, _, rfl⟩ := e'
    clear hrun hb
    by_cases hlt : i < L.length
    · have hiI : (i : Int) < L.length := by omega
      have hid : decide ((i : Int) < L.length) = true := decide_eq_true hiI
      obtain ⟨g, o, rfl, hg, h1, h2, h3⟩ := hr i hlt
      obtain ⟨k, hk⟩ : ∃ k, (L.getD i (0, 0)).1 = k := ⟨_, rfl⟩
      obtain ⟨n, hn⟩ : ∃ n, (L.getD i (0, 0)).2 = n := ⟨_, rfl⟩
      have HD : Hid (L.drop i = (k, n) :: L.drop (i + 1)) := by
        show _ = _
        rw [List.drop_eq_getElem_cons hlt]
        congr 1
        have : L.getD i (0, 0) = L[i] := by rw [List.getD_eq_getElem?_getD, List.getElem?_eq_getElem hlt]; rfl
        rw [← hk, ← hn, this]
      rw [hk] at h1
      rw [hn] at h2 h3
      have HN : Hid (n < 256) := h3
      have har := arN_le k
      have HSG : Hid (∀ y, Calls Try.prog 106 #[.agg #[.int .i64 k, .int .u8 (n : Nat)]] y fun e w' => e = .returned (.bool (gdS k n)) ∧ Below y.heap.size y w') := fun y => isSign_any k n HN.out y
      have HPO : Hid (∀ y, Calls Try.prog 105 #[.int .i64 k] y fun e w' => e = .returned (.int .i64 (arN k)) ∧ y = w') := fun y => partsOf_any k y
      obtain ⟨G, hG⟩ : ∃ G, gdS k n = G := ⟨_, rfl⟩
      obtain ⟨p, hp⟩ : ∃ p, arN k = p := ⟨_, rfl⟩
      rw [hG] at HSG
      rw [hp] at HPO har
      have HGP : Hid (gdS k n = G ∧ arN k = p) := ⟨hG, hp⟩
      clear hr hk hn h3 hG hp
      have hw1 : IntKind.i64.wrap (1 - p) = 1 - p := by rw [IntKind.wrap_i64]; omega
      have hw2 : IntKind.i64.wrap (q + (1 - p)) = q + (1 - p) := by rw [IntKind.wrap_i64]; omega
      have hw3 : IntKind.i64.wrap ((i : Int) + 1) = ((i + 1 : Nat) : Int) := by rw [IntKind.wrap_i64]; omega
      cases G with
      | false =>
        have HE : Hid (sideB L = false) := by
          show _ = _
          unfold sideB
          rw [HRUN.out, HD.out, runS_none (fun hh => by rw [HGP.out.1] at hh; cases hh.1)]
        go_wp2_with (first
          | (go_at_call 105; refine (HPO.out _).mono ?_; rintro e w1 ⟨rfl, rfl⟩)
          | (go_at_call 106; refine (HSG.out _).mono ?_; rintro e w2 ⟨rfl, hb2⟩; have HB2 : Hid (Below w.heap.size w w2) := go_on (go_on HB.out (below_new _ _)) hb2; clear hb2))
        go_ret
        exact ⟨by rw [HE.out]; rfl, HB2.out⟩
      | true =>
        by_cases hqp : q < p
        · have hqd : decide (q < p) = true := decide_eq_true hqp
          have HE : Hid (sideB L = false) := by
            show _ = _
            unfold sideB
            rw [HRUN.out, HD.out, runS_none (fun hh => by have := hh.2; rw [HGP.out.2] at this; omega)]
          go_wp2_with (first
            | (go_at_call 105; refine (HPO.out _).mono ?_; rintro e w1 ⟨rfl, rfl⟩)
            | (go_at_call 106; refine (HSG.out _).mono ?_; rintro e w2 ⟨rfl, hb2⟩; have HB2 : Hid (Below w.heap.size w w2) := go_on (go_on HB.out (below_new _ _)) hb2; clear hb2))
          go_ret
          exact ⟨by rw [HE.out]; rfl, HB2.out⟩
        · have hqd : decide (q < p) = false := decide_eq_false hqp
          have HE : Hid (runS 0 L = runS (q + (1 - p)) (L.drop (i + 1))) := by
            show _ = _
            rw [HRUN.out, HD.out, runS_some ⟨HGP.out.1, by rw [HGP.out.2]; omega⟩, HGP.out.2]
            congr 1
            omega
          go_wp2_with (first
            | (go_at_call 105; refine (HPO.out _).mono ?_; rintro e w1 ⟨rfl, rfl⟩)
            | (go_at_call 106; refine (HSG.out _).mono ?_; rintro e w2 ⟨rfl, hb2⟩; have HB2 : Hid (Below w.heap.size w w2) := go_on (go_on HB.out (below_new _ _)) hb2; clear hb2))
          go_roundw
          case rel => exact ⟨i + 1, q + (1 - p), by go_num, rfl, by omega, by omega, by omega, HE.out, HB2.out⟩
          case measure => simp [Go.RowKit.intOf]; omega
    · have hiI : ¬ (i : Int) < L.length := by omega
      have hid : decide ((i : Int) < L.length) = false := decide_eq_false hiI
      have HE : Hid (sideB L = (q == 1)) := by
        show _ = _
        unfold sideB
        rw [HRUN.out, List.drop_of_length_le (by omega), runS]
      go_wp2_with fail
      go_ret
      exact ⟨by rw [HE.out]; rfl, HB.out⟩
end Go.Proofs.Ythhlamehbcidgaa
