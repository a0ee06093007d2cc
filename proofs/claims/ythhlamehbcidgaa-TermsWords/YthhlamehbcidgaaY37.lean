/- The document's Place, arity, good, term, Check, in; terms.Vars. -/
import Derived.Test.YthhlamehbcidgaaY36
namespace Go.Proofs.Ythhlamehbcidgaa
open Go Go.RowKit Go.Lib
set_option linter.unusedVariables false

set_option maxHeartbeats 1000000 in
set_option maxRecDepth 100000 in
theorem rplace_any (n : Nat) (hn : n < 256) (w : World) : Calls Try.prog 89 #[.int .u8 (n : Nat)] w fun e w' => e = .returned (.int .i64 (plI n)) ∧ w = w' := by
  have HI : Hid (Calls Try.prog 100 #[.string bXYZ, .int .u8 (n : Nat)] w fun e w' => e = .returned (.int .i64 (plI n)) ∧ w = w') := by
    have := indexByte_any bXYZ (n : Int) w
    exact this
  go_enter Try.func89, Try.ntmps89
  go_wp2_with (go_at_call 100; refine HI.out.mono ?_; rintro e w1 ⟨rfl, rfl⟩)
  go_ret
  exact ⟨rfl, rfl⟩

set_option maxHeartbeats 1000000 in
set_option maxRecDepth 100000 in
theorem rarity_any (k : Int) (w : World) : Calls Try.prog 79 #[.int .i64 k] w fun e w' => e = .returned (.int .i64 (arN k)) ∧ w = w' := by
  by_cases h3 : k = 3
  · subst h3
    go_enter Try.func79, Try.ntmps79
    go_wp2_with fail
    go_ret
    exact ⟨rfl, rfl⟩
  by_cases h4 : k = 4
  · subst h4
    go_enter Try.func79, Try.ntmps79
    go_wp2_with fail
    go_ret
    exact ⟨rfl, rfl⟩
  · have e : Hid (arN k = 0) := by show _ = _; unfold arN; rw [if_neg h3, if_neg h4]
    have b3 : (k == 3) = false := by rw [beq_eq_false_iff_ne]; exact h3
    have b4 : (k == 4) = false := by rw [beq_eq_false_iff_ne]; exact h4
    go_enter Try.func79, Try.ntmps79
    go_wp2_with fail
    go_ret
    exact ⟨by rw [e.out]; rfl, rfl⟩

set_option maxHeartbeats 2000000 in
set_option maxRecDepth 100000 in
theorem rgood_any (k : Int) (n : Nat) (hn : n < 256) (w : World) : Calls Try.prog 78 #[.agg #[.int .i64 k, .int .u8 (n : Nat)]] w fun e w' => e = .returned (.bool (gdS k n)) ∧ Below w.heap.size w w' := by
  obtain ⟨w0, hw0⟩ : ∃ w0, w0 = w.alloc (.cells #[.int .i64 k, .int .u8 (n : Nat)] 81) := ⟨_, rfl⟩
  have HB : Hid (Below w.heap.size w (w.alloc (.cells #[.int .i64 k, .int .u8 (n : Nat)] 81))) := below_new _ _
  clear hw0
  by_cases h2 : k = 2
  · subst h2
    have hg : gdS 2 n = decide (0 ≤ plI n) := by unfold gdS; rw [if_pos rfl]
    rw [hg]
    have HP : Hid (∀ y, Calls Try.prog 89 #[.int .u8 (n : Nat)] y fun e w' => e = .returned (.int .i64 (plI n)) ∧ y = w') := fun y => rplace_any n hn y
    obtain ⟨x, hx⟩ : ∃ x, plI n = x := ⟨_, rfl⟩
    rw [hx] at HP ⊢
    go_enter Try.func78, Try.ntmps78
    go_wp2_with (go_at_call 89; refine (HP.out _).mono ?_; rintro e w1 ⟨rfl, rfl⟩)
    go_ret
    exact ⟨rfl, HB.out⟩
  · have b2 : (k == 2) = false := by rw [beq_eq_false_iff_ne]; exact h2
    have hg : gdS k n = (decide (1 ≤ k) && decide (k ≤ 4) && decide (n = 0)) := by unfold gdS; rw [if_neg h2]
    have HG : Hid _ := hg
    by_cases c1 : 1 ≤ k
    · have d1 : decide (1 ≤ k) = true := decide_eq_true c1
      by_cases c2 : k ≤ 4
      · have d2 : decide (k ≤ 4) = true := decide_eq_true c2
        have hcmp : ((n : Int) == 0) = decide (n = 0) := by
          by_cases z : n = 0
          · subst z; simp
          · have : ((n : Int) == 0) = false := by rw [beq_eq_false_iff_ne]; omega
            rw [this, decide_eq_false z]
        clear hg
        go_enter Try.func78, Try.ntmps78
        go_wp2_with fail
        go_ret
        refine ⟨?_, HB.out⟩
        rw [HG.out, d1, d2]
        simp
      · have d2 : decide (k ≤ 4) = false := decide_eq_false c2
        clear hg
        go_enter Try.func78, Try.ntmps78
        go_wp2_with fail
        go_ret
        refine ⟨?_, HB.out⟩
        rw [HG.out, d1, d2]
        simp
    · have d1 : decide (1 ≤ k) = false := decide_eq_false c1
      clear hg
      go_enter Try.func78, Try.ntmps78
      go_wp2_with fail
      go_ret
      refine ⟨?_, HB.out⟩
      rw [HG.out, d1]
      simp

set_option maxHeartbeats 4000000 in
set_option maxRecDepth 100000 in
theorem rterm_any (v : Value) (L : List (Int × Nat)) (w : World) (h : SgR w v L) (hL : L.length ≤ 400) : Calls Try.prog 40 #[v] w fun e w' => e = .returned (.bool (sideB L)) ∧ Below w.heap.size w w' := by
  have HR : Hid (∀ y, Below w.heap.size w y → SgR y v L) := fun y hy => h.below hy
  obtain ⟨a, cap, rfl, _⟩ := h
  go_enter Try.func40, Try.ntmps40
  go_wp2_with fail
  go_loopw [3, 4] (fun vq vi wr => ∃ (i : Nat) (q : Int), vi = .int .i64 i ∧ vq = .int .i64 q ∧ i ≤ L.length ∧ 0 ≤ q ∧ q ≤ i ∧ runS 0 L = runS q (L.drop i) ∧ Below w.heap.size w wr) (fun _ vi _ => L.length - (Go.RowKit.intOf vi).toNat)
  case atStart => exact ⟨0, 0, rfl, rfl, Nat.zero_le _, by omega, by omega, rfl, Below.refl _ _⟩
  case round =>
    obtain ⟨i, q, rfl, rfl, hin, hq0, hqi, hrun, hb⟩ := hrel
    have HRUN : Hid (runS 0 L = runS q (L.drop i)) := hrun
    have HB : Hid (Below w.heap.size w wr) := hb
    obtain ⟨a', cap', e', hr⟩ := HR.out wr hb
    simp only [Value.slice.injEq] at e'
    obtain ⟨rfl, _, rfl⟩ := e'
    clear hrun hb
    by_cases hlt : i < L.length
    · have hiI : (i : Int) < L.length := by omega
      have hid : decide ((i : Int) < L.length) = true := decide_eq_true hiI
      obtain ⟨g, o, rfl, hg, h1, h2, h3⟩ := hr i hlt
      obtain ⟨k, hk⟩ : ∃ k, (L.getD i (0, 0)).1 = k := ⟨_, rfl⟩
      obtain ⟨n, hn⟩ : ∃ n, (L.getD i (0, 0)).2 = n := ⟨_, rfl⟩
      have HD : Hid (L.drop i = (k, n) :: L.drop (i + 1)) := by
        show _ = _
        rw [List.drop_eq_getElem_cons hlt]
        rw [List.getD_eq_getElem?_getD, List.getElem?_eq_getElem hlt, Option.getD_some] at hk hn
        rw [← hk, ← hn]
      rw [hk] at h1
      rw [hn] at h2 h3
      have HG : Hid (Calls Try.prog 78 #[.agg #[.int .i64 k, .int .u8 (n : Nat)]] wr fun e w' => e = .returned (.bool (gdS k n)) ∧ Below wr.heap.size wr w') := rgood_any k n h3 wr
      have HAR : Hid (∀ y, Calls Try.prog 79 #[.int .i64 k] y fun e w' => e = .returned (.int .i64 (arN k)) ∧ y = w') := fun y => rarity_any k y
      have hal := arN_le k
      obtain ⟨m, hm⟩ : ∃ m, arN k = m := ⟨_, rfl⟩
      have HM : Hid (arN k = m) := hm
      rw [hm] at HAR hal
      have HGL : Hid (g < wr.heap.size) := hg
      have HC1 : Hid (wr.cell? ⟨g, o + i * 2, none⟩ = some (.int .i64 k)) := h1
      clear hr hk hn h3 hm
      cases hgd : gdS k n with
      | false =>
        rw [hgd] at HG
        have HGD : Hid (gdS k n = false) := hgd
        clear hgd
        go_upto_region 5 with fail
        go_wp2_with fail
        refine Calls.mono HG.out ?_
        rintro e w2 ⟨rfl, hb2⟩
        have HB2 : Hid (Below w.heap.size w w2) := go_on HB.out hb2
        clear hb2 h1 h2
        go_wp2_with fail
        go_ret
        refine ⟨?_, HB2.out⟩
        have : sideB L = false := by
          unfold sideB
          rw [HRUN.out, HD.out, runS_none (by rw [HGD.out]; simp)]
        rw [this]
        rfl
      | true =>
        rw [hgd] at HG
        have HGD : Hid (gdS k n = true) := hgd
        clear hgd
        by_cases hqm : q < m
        · have hqd : decide (q < m) = true := decide_eq_true hqm
          have HQM : Hid (q < m) := hqm
          go_wp2_with fail
          refine Calls.mono HG.out ?_
          rintro e w2 ⟨rfl, hb2⟩
          have HB2 : Hid (Below w.heap.size w w2) := go_on HB.out hb2
          have h1' : w2.cell? ⟨g, o + i * 2, none⟩ = some (.int .i64 k) := by rw [below_cell hb2 HGL.out]; exact HC1.out
          clear hb2 h1 h2
          go_wp2_with fail
          refine (HAR.out _).mono ?_
          rintro e w3 ⟨rfl, rfl⟩
          go_wp2_with fail
          go_ret
          refine ⟨?_, HB2.out⟩
          have : sideB L = false := by
            unfold sideB
            rw [HRUN.out, HD.out, runS_none (by rw [HM.out]; have := HQM.out; omega)]
          rw [this]
          rfl
        · have hqd : decide (q < m) = false := decide_eq_false hqm
          have HQM : Hid (m ≤ q) := by show _ ≤ _; omega
          have hwa : IntKind.i64.wrap (q - m) = q - m := by rw [IntKind.wrap_i64]; omega
          have hwb : IntKind.i64.wrap (q - m + 1) = q - m + 1 := by rw [IntKind.wrap_i64]; omega
          have hwi : IntKind.i64.wrap ((i : Int) + 1) = ((i + 1 : Nat) : Int) := by rw [IntKind.wrap_i64]; omega
          have HS : Hid (runS 0 L = runS (q - m + 1) (L.drop (i + 1))) := by
            show _ = _
            rw [HRUN.out, HD.out, runS_some ⟨HGD.out, by rw [HM.out]; exact HQM.out⟩, HM.out]
            congr 1
            omega
          go_wp2_with fail
          refine Calls.mono HG.out ?_
          rintro e w2 ⟨rfl, hb2⟩
          have HB2 : Hid (Below w.heap.size w w2) := go_on HB.out hb2
          have h1' : w2.cell? ⟨g, o + i * 2, none⟩ = some (.int .i64 k) := by rw [below_cell hb2 HGL.out]; exact HC1.out
          clear hb2 h1 h2
          go_wp2_with fail
          refine (HAR.out _).mono ?_
          rintro e w3 ⟨rfl, rfl⟩
          go_wp2_with fail
          refine (HAR.out _).mono ?_
          rintro e w3 ⟨rfl, rfl⟩
          go_wp2_with fail
          go_roundw
          case rel => exact ⟨i + 1, q - m + 1, rfl, rfl, by omega, by omega, by omega, HS.out, HB2.out⟩
          case measure => simp [Go.RowKit.intOf]; omega
    · have hiI : ¬ (i : Int) < L.length := by omega
      have hid : decide ((i : Int) < L.length) = false := decide_eq_false hiI
      have HE : Hid (sideB L = (q == 1)) := by
        show _ = _
        unfold sideB
        rw [HRUN.out, List.drop_eq_nil_of_le (by omega)]
        rfl
      go_wp2_with fail
      go_ret
      exact ⟨by rw [HE.out]; rfl, HB.out⟩

set_option maxHeartbeats 4000000 in
set_option maxRecDepth 100000 in
theorem rcheck_any (vl vr : Value) (x : Bool) (L R : List (Int × Nat)) (w : World) (hl : SgR w vl L) (hr : SgR w vr R) (hL : L.length ≤ 9223372036854775807) (hR : R.length ≤ 9223372036854775807) :
    Calls Try.prog 22 #[.agg #[vl, vr, .bool x]] w fun e w' => e = .returned (.int .i64 (ck2 L R)) ∧ Below w.heap.size w w' := by
  obtain ⟨a1, c1, e1⟩ := hl.len
  obtain ⟨a2, c2, e2⟩ := hr.len
  subst e1 e2
  obtain ⟨w1, hw1⟩ : ∃ w1, w1 = w.alloc (.cells #[.slice a1 L.length c1, .slice a2 R.length c2, .bool x] 24) := ⟨_, rfl⟩
  have HW1 : Hid (w1 = w.alloc (.cells #[.slice a1 L.length c1, .slice a2 R.length c2, .bool x] 24)) := hw1
  have hb1 : Below w.heap.size w w1 := by rw [hw1]; exact below_new _ _
  have HI1 : Hid (w1.heap[w.heap.size]? = some (.cells #[.slice a1 L.length c1, .slice a2 R.length c2, .bool x] 24 (0, 0))) := by show _ = _; rw [hw1]; exact heap_last _ _
  have k0 : w1.cell? ⟨w.heap.size, 0, none⟩ = some (.slice a1 L.length c1) := cell_at HI1.out rfl
  have k1 : w1.cell? ⟨w.heap.size, 1, none⟩ = some (.slice a2 R.length c2) := cell_at HI1.out rfl
  have HB1 : Hid (Below w.heap.size w w1) := hb1
  have HSL : Hid (SgR w1 (.slice a1 L.length c1) L) := hl.below hb1
  have HSR : Hid (SgR w1 (.slice a2 R.length c2) R) := hr.below hb1
  clear hl hr hw1 hb1
  by_cases h1 : 400 < L.length
  · have h1I : (400 : Int) < L.length := by omega
    have hid : decide ((400 : Int) < L.length) = true := decide_eq_true h1I
    have e : ck2 L R = 6 := by unfold ck2; rw [if_pos (.inl h1)]
    rw [e]
    go_enter Try.func22, Try.ntmps22
    go_upto_region 1 with fail
    rw [← HW1.out]
    go_wp2_with fail
    go_ret
    exact ⟨rfl, HB1.out⟩
  by_cases h2 : 400 < R.length
  · have h1I : ¬ (400 : Int) < L.length := by omega
    have hid1 : decide ((400 : Int) < L.length) = false := decide_eq_false h1I
    have h2I : (400 : Int) < R.length := by omega
    have hid : decide ((400 : Int) < R.length) = true := decide_eq_true h2I
    have e : ck2 L R = 6 := by unfold ck2; rw [if_pos (.inr h2)]
    rw [e]
    go_enter Try.func22, Try.ntmps22
    go_upto_region 1 with fail
    rw [← HW1.out]
    go_wp2_with fail
    go_ret
    exact ⟨rfl, HB1.out⟩
  · have h1I : ¬ (400 : Int) < L.length := by omega
    have hid1 : decide ((400 : Int) < L.length) = false := decide_eq_false h1I
    have h2I : ¬ (400 : Int) < R.length := by omega
    have hid : decide ((400 : Int) < R.length) = false := decide_eq_false h2I
    have HT1 : Hid (Calls Try.prog 40 #[.slice a1 L.length c1] w1 fun e w' => e = .returned (.bool (sideB L)) ∧ Below w1.heap.size w1 w') := rterm_any _ L w1 HSL.out (by omega)
    have HT2 : Hid (∀ y, Below w1.heap.size w1 y → Calls Try.prog 40 #[.slice a2 R.length c2] y fun e w' => e = .returned (.bool (sideB R)) ∧ Below y.heap.size y w') := fun y hy => rterm_any _ R y (HSR.out.below hy) (by omega)
    have HE : Hid (ck2 L R = if sideB L = true ∧ sideB R = true then 0 else 190) := by show _ = _; unfold ck2; rw [if_neg (by omega)]
    cases q1 : sideB L with
    | false =>
      have e : ck2 L R = 190 := by rw [HE.out, if_neg (by rw [q1]; simp)]
      rw [e]
      rw [q1] at HT1
      clear q1 h1 h2
      go_enter Try.func22, Try.ntmps22
      go_upto_region 1 with fail
      rw [← HW1.out]
      go_wp2_with fail
      refine Calls.mono HT1.out ?_
      rintro e w2 ⟨rfl, hb2⟩
      have HB2 : Hid (Below w.heap.size w w2) := go_on HB1.out hb2
      clear hb2 k0 k1
      go_wp2_with fail
      go_ret
      exact ⟨rfl, HB2.out⟩
    | true =>
      rw [q1] at HT1
      have Q1 : Hid (sideB L = true) := q1
      clear q1 h1 h2
      obtain ⟨z, hz⟩ : ∃ z, sideB R = z := ⟨_, rfl⟩
      have HZ : Hid (sideB R = z) := hz
      rw [hz] at HT2
      clear hz
      go_enter Try.func22, Try.ntmps22
      go_upto_region 1 with fail
      rw [← HW1.out]
      go_wp2_with fail
      refine Calls.mono HT1.out ?_
      rintro e w2 ⟨rfl, hb2⟩
      have HB2 : Hid (Below w.heap.size w w2) := go_on HB1.out hb2
      have HT3 : Hid (Calls Try.prog 40 #[.slice a2 R.length c2] w2 fun e w' => e = .returned (.bool z) ∧ Below w2.heap.size w2 w') := HT2.out w2 hb2
      have k1' : w2.cell? ⟨w.heap.size, 1, none⟩ = some (.slice a2 R.length c2) := by rw [below_cell hb2 (Array.getElem?_eq_some_iff.1 HI1.out).1]; exact k1
      clear hb2 k0 k1
      go_wp2_with fail
      refine Calls.mono HT3.out ?_
      rintro e w3 ⟨rfl, hb3⟩
      have HB3 : Hid (Below w.heap.size w w3) := go_on HB2.out hb3
      clear hb3 k1'
      cases z with
      | true =>
        go_wp2_with fail
        go_ret
        refine ⟨?_, HB3.out⟩
        rw [HE.out, if_pos ⟨Q1.out, HZ.out⟩]
        rfl
      | false =>
        go_wp2_with fail
        go_ret
        refine ⟨?_, HB3.out⟩
        rw [HE.out, if_neg (by rw [HZ.out]; simp)]
        rfl

set_option maxHeartbeats 4000000 in
set_option maxRecDepth 100000 in
theorem rin_any (v : Value) (L : List (Int × Nat)) (c : Nat) (w : World) (h : SgR w v L) (hL : L.length ≤ 9223372036854775000) :
    Calls Try.prog 37 #[v, .int .u8 (c : Nat)] w fun e w' => e = .returned (.bool (occ L c)) ∧ Below w.heap.size w w' := by
  obtain ⟨a1, c1, e1⟩ := h.len
  subst e1
  have HA : Hid (SgR w (.slice a1 L.length c1) L) := h
  clear h
  go_enter Try.func37, Try.ntmps37
  go_wp2_with fail
  go_loopw [5] (fun vi wr => ∃ i : Nat, vi = .int .i64 i ∧ i ≤ L.length ∧ (∀ j, j < i → (2 == (L.getD j (0, 0)).1 && c == (L.getD j (0, 0)).2) = false) ∧ Below w.heap.size w wr) (fun vi _ => L.length - (Go.RowKit.intOf vi).toNat)
  case atStart => exact ⟨0, rfl, Nat.zero_le _, fun j hj => by omega, Below.refl _ _⟩
  case round =>
    obtain ⟨i, rfl, hin, hno, hbr⟩ := hrel
    have HBR : Hid (Below w.heap.size w wr) := hbr
    have HNO : Hid (∀ j, j < i → (2 == (L.getD j (0, 0)).1 && c == (L.getD j (0, 0)).2) = false) := hno
    have HIN : Hid (i ≤ L.length) := hin
    clear hno
    by_cases hlt : i < L.length
    · have hiI : (i : Int) < L.length := by omega
      have hid : decide ((i : Int) < L.length) = true := decide_eq_true hiI
      obtain ⟨a1', cap1, e1, hr1⟩ := HA.out.below hbr
      simp only [Value.slice.injEq] at e1
      obtain ⟨rfl, _, rfl⟩ := e1
      obtain ⟨g1, o1, rfl, hg1, x1, y1, z1⟩ := hr1 i hlt
      obtain ⟨k, hk⟩ : ∃ k, (L.getD i (0, 0)).1 = k := ⟨_, rfl⟩
      obtain ⟨n, hn⟩ : ∃ n, (L.getD i (0, 0)).2 = n := ⟨_, rfl⟩
      have HKN : Hid ((L.getD i (0, 0)).1 = k ∧ (L.getD i (0, 0)).2 = n) := ⟨hk, hn⟩
      rw [hk] at x1
      rw [hn] at y1
      have HLT : Hid (i < L.length) := hlt
      have hw3 : IntKind.i64.wrap ((i : Int) + 1) = ((i + 1 : Nat) : Int) := by rw [IntKind.wrap_i64]; omega
      clear hr1 hbr z1 hk hn
      by_cases q1 : k = 2
      · subst q1
        by_cases q2 : n = c
        · subst q2
          have HYES : Hid (occ L n = true) := occ_yes HLT.out (by rw [HKN.out.1, HKN.out.2]; simp)
          go_wp2_with fail
          go_ret
          exact ⟨by rw [HYES.out]; rfl, HBR.out⟩
        · have q2I : ¬ (n : Int) = (c : Int) := by omega
          have q2b : ((n : Int) == (c : Int)) = false := beq_eq_false_iff_ne.2 q2I
          have HNEQ : Hid ((2 == (L.getD i (0, 0)).1 && c == (L.getD i (0, 0)).2) = false) := by show _ = _; rw [HKN.out.1, HKN.out.2, beq_eq_false_iff_ne.2 (Ne.symm q2)]; simp
          go_wp2_with fail
          go_roundw
          case rel => exact ⟨i + 1, rfl, HLT.out, fun j hj => by
            by_cases e : j = i
            · subst e; exact HNEQ.out
            · exact HNO.out j (by omega), HBR.out⟩
          case measure => simp [Go.RowKit.intOf]; omega
      · have q1b : (k == 2) = false := beq_eq_false_iff_ne.2 q1
        have HNEQ : Hid ((2 == (L.getD i (0, 0)).1 && c == (L.getD i (0, 0)).2) = false) := by show _ = _; rw [HKN.out.1, beq_eq_false_iff_ne.2 (Ne.symm q1)]; simp
        go_wp2_with fail
        go_roundw
        case rel => exact ⟨i + 1, rfl, HLT.out, fun j hj => by
          by_cases e : j = i
          · subst e; exact HNEQ.out
          · exact HNO.out j (by omega), HBR.out⟩
        case measure => simp [Go.RowKit.intOf]; omega
    · have hiI : ¬ (i : Int) < L.length := by omega
      have hid : decide ((i : Int) < L.length) = false := decide_eq_false hiI
      have HNN : Hid (occ L c = false) := occ_no (fun j hj => HNO.out j (by omega))
      clear hbr
      go_wp2_with fail
      go_ret
      exact ⟨by rw [HNN.out]; rfl, HBR.out⟩
end Go.Proofs.Ythhlamehbcidgaa
