/- Contracts of the document's Subset and Compare. -/
import Derived.Test.YtghchlppdhfoeaaRl
import Derived.Test.YtghchlppdhfoeaaBc
import Derived.Test.YtghchlppdhfoeaaBv
namespace Go.Proofs.Ytghchlppdhfoeaa
open Go.RowKit Go.Lib

theorem has_at (N i : Nat) (h : i < 512) : hasN N (i : Int) = N.testBit i := by rw [hasN, decide_eq_true (by omega), Bool.true_and, Int.toNat_natCast]
theorem sub_yes {A B : Nat} (hA : Fits A) (h : ∀ i, i < 512 → A.testBit i = true → B.testBit i = true) : subN A B = true := by
  unfold subN
  rw [decide_eq_true_iff]
  unfold orN
  apply Nat.eq_of_testBit_eq
  intro i
  rw [Nat.testBit_or]
  by_cases hi : i < 512
  · have := h i hi
    cases ha : A.testBit i
    · rfl
    · rw [this ha]; rfl
  · rw [hA i (by omega), Bool.false_or]
theorem sub_no {A B i : Nat} (ha : A.testBit i = true) (hb : B.testBit i = false) : subN A B = false := by
  unfold subN
  rw [decide_eq_false_iff_not]
  intro h
  have e : (orN A B).testBit i = B.testBit i := by rw [h]
  unfold orN at e
  rw [Nat.testBit_or, ha, hb] at e
  simp at e

set_option maxHeartbeats 4000000 in
set_option maxRecDepth 100000 in
theorem rsubset_any (A B : Nat) (hA : Fits A) (w : World) :
    Calls Try.prog 16 #[setV A, setV B] w fun e w' => e = .returned (.bool (subN A B)) ∧ Below w.heap.size w w' := by
  have r0 : RowAt ((w.alloc (.cells (cellsF (word A)) 24)).alloc (.cells (cellsF (word B)) 24)) w.heap.size (cellsF (word A)) := (RowAt.last w _ _).alloc _
  have s0 : RowAt ((w.alloc (.cells (cellsF (word A)) 24)).alloc (.cells (cellsF (word B)) 24)) (w.heap.size + 1) (cellsF (word B)) := by
    have := RowAt.last (w.alloc (.cells (cellsF (word A)) 24)) (cellsF (word B)) 24
    simpa using this
  have HW : Hid (Below w.heap.size w ((w.alloc (.cells (cellsF (word A)) 24)).alloc (.cells (cellsF (word B)) 24))) := ((Below.refl _ _).alloc (Nat.le_refl _) _).alloc (by simp) _
  have HR : Hid _ := r0
  have HS : Hid _ := s0
  clear r0 s0
  unfold setV cellsF
  unfold cellsF at HR HS HW
  go_enter Try.func16, Try.ntmps16
  go_wp2_with fail
  generalize hWd : (w.alloc (.cells #[.int .u64 (word A 0 : Nat), .int .u64 (word A 1 : Nat), .int .u64 (word A 2 : Nat), .int .u64 (word A 3 : Nat), .int .u64 (word A 4 : Nat), .int .u64 (word A 5 : Nat), .int .u64 (word A 6 : Nat), .int .u64 (word A 7 : Nat)] 24)).alloc (.cells #[.int .u64 (word B 0 : Nat), .int .u64 (word B 1 : Nat), .int .u64 (word B 2 : Nat), .int .u64 (word B 3 : Nat), .int .u64 (word B 4 : Nat), .int .u64 (word B 5 : Nat), .int .u64 (word B 6 : Nat), .int .u64 (word B 7 : Nat)] 24) = W at HR HS HW ⊢
  clear hWd
  go_loopw [5] (fun vi wr => ∃ i : Nat, vi = .int .i64 i ∧ i ≤ 512 ∧ (∀ j, j < i → A.testBit j = true → B.testBit j = true) ∧ Below W.heap.size W wr) (fun vi _ => 512 - (intOf vi).toNat)
  case atStart => exact ⟨0, rfl, by omega, fun j hj => by omega, Below.refl _ _⟩
  case round =>
    obtain ⟨i, rfl, hi5, hall, hb⟩ := hrel
    have HA : Hid _ := hall
    clear hall
    have rs := HR.out.stay hb
    have ss := HS.out.stay hb
    have cs := RowAt.cell rs; have ds := RowAt.cell ss
    by_cases hlt : i < 512
    · have hiI : (i : Int) < 512 := by omega
      have HHa : Hid _ := has_at A i hlt
      have HHb : Hid _ := has_at B i hlt
      obtain ⟨x, HX⟩ : ∃ x, Hid (A.testBit i = x) := ⟨_, rfl⟩
      obtain ⟨y, HY⟩ : ∃ y, Hid (B.testBit i = y) := ⟨_, rfl⟩
      rw [HX.out] at HHa
      rw [HY.out] at HHb
      cases x
      · go_wp2_with (go_at_call 28; refine (rhas_any A _ _).mono ?_; rintro e w2 ⟨rfl, hb2⟩; rw [HHa.out])
        go_roundw
        case rel => exact ⟨i + 1, by go_num, by omega, fun j hj ha => by
          by_cases e : j = i
          · rw [e, HX.out] at ha; simp at ha
          · exact HA.out j (by omega) ha, hb.trans (hb2.mono hb.size)⟩
        case measure => simp [intOf]; omega
      · cases y
        · go_wp2_with (first
            | (go_at_call_of 28 (Value.int IntKind.u64 ((word A 0 : Nat) : Int)); refine (rhas_any A _ _).mono ?_; rintro e w2 ⟨rfl, hb2⟩; rw [HHa.out]; have ss := RowAt.stay ss hb2; have ds := RowAt.cell ss)
            | (go_at_call_of 28 (Value.int IntKind.u64 ((word B 0 : Nat) : Int)); refine (rhas_any B _ _).mono ?_; rintro e w3 ⟨rfl, hb3⟩; rw [HHb.out]))
          go_ret
          exact ⟨ret_bool (sub_no HX.out HY.out).symm, go_on (HW.out.trans ((hb.trans (hb2.mono hb.size)).mono HW.out.size)) hb3⟩
        · go_wp2_with (first
            | (go_at_call_of 28 (Value.int IntKind.u64 ((word A 0 : Nat) : Int)); refine (rhas_any A _ _).mono ?_; rintro e w2 ⟨rfl, hb2⟩; rw [HHa.out]; have ss := RowAt.stay ss hb2; have ds := RowAt.cell ss)
            | (go_at_call_of 28 (Value.int IntKind.u64 ((word B 0 : Nat) : Int)); refine (rhas_any B _ _).mono ?_; rintro e w3 ⟨rfl, hb3⟩; rw [HHb.out]))
          go_roundw
          case rel => exact ⟨i + 1, by go_num, by omega, fun j hj ha => by
            by_cases e : j = i
            · rw [e]; exact HY.out
            · exact HA.out j (by omega) ha, go_on (hb.trans (hb2.mono hb.size)) hb3⟩
          case measure => simp [intOf]; omega
    · have hiI : ¬ (i : Int) < 512 := by omega
      go_wp2_with fail
      go_ret
      exact ⟨ret_bool (sub_yes hA (fun j hj ha => HA.out j (by omega) ha)).symm, HW.out.trans (hb.mono HW.out.size)⟩

/-- The same from place c on. -/
def TopB (A B c : Nat) : Prop := A / 2 ^ c = B / 2 ^ c
theorem TopB.start {A B : Nat} (hA : Fits A) (hB : Fits B) (c : Nat) (hc : 512 ≤ c) : TopB A B c := by
  have z : ∀ X, Fits X → X / 2 ^ c = 0 := by
    intro X hX
    apply Nat.eq_of_testBit_eq
    intro i
    rw [Nat.testBit_div_two_pow, hX _ (by omega), Nat.zero_testBit]
  unfold TopB
  rw [z A hA, z B hB]
theorem half_bit (X i : Nat) : X / 2 ^ i = 2 * (X / 2 ^ (i + 1)) + if X.testBit i then 1 else 0 := by
  rw [Nat.pow_succ, ← Nat.div_div_eq_div_mul, Nat.testBit_eq_decide_div_mod_eq]
  by_cases h : X / 2 ^ i % 2 = 1
  · simp [h]; omega
  · simp [h]; omega
theorem TopB.next {A B i : Nat} (h : TopB A B (i + 1)) (hb : A.testBit i = B.testBit i) : TopB A B i := by
  unfold TopB at h ⊢
  rw [half_bit A, half_bit B, h, hb]
theorem TopB.less {A B i : Nat} (h : TopB A B (i + 1)) (ha : A.testBit i = false) (hb : B.testBit i = true) : A < B := by
  unfold TopB at h
  apply Nat.lt_of_not_le
  intro hle
  have := Nat.div_le_div_right (c := 2 ^ i) hle
  rw [half_bit A, half_bit B, h, ha, hb] at this
  simp at this
  omega
theorem TopB.last {A B : Nat} (h : TopB A B 0) : A = B := by
  unfold TopB at h
  rw [Nat.pow_zero, Nat.div_one, Nat.div_one] at h
  exact h

set_option maxHeartbeats 4000000 in
set_option maxRecDepth 100000 in
theorem rcompare_any (A B : Nat) (hA : Fits A) (hB : Fits B) (w : World) :
    Calls Try.prog 18 #[setV A, setV B] w fun e w' => e = .returned (.int .i64 (cmpN A B)) ∧ Below w.heap.size w w' := by
  have r0 : RowAt ((w.alloc (.cells (cellsF (word A)) 24)).alloc (.cells (cellsF (word B)) 24)) w.heap.size (cellsF (word A)) := (RowAt.last w _ _).alloc _
  have s0 : RowAt ((w.alloc (.cells (cellsF (word A)) 24)).alloc (.cells (cellsF (word B)) 24)) (w.heap.size + 1) (cellsF (word B)) := by
    have := RowAt.last (w.alloc (.cells (cellsF (word A)) 24)) (cellsF (word B)) 24
    simpa using this
  have HW : Hid (Below w.heap.size w ((w.alloc (.cells (cellsF (word A)) 24)).alloc (.cells (cellsF (word B)) 24))) := ((Below.refl _ _).alloc (Nat.le_refl _) _).alloc (by simp) _
  have HR : Hid _ := r0
  have HS : Hid _ := s0
  clear r0 s0
  unfold setV cellsF
  unfold cellsF at HR HS HW
  go_enter Try.func18, Try.ntmps18
  go_wp2_with fail
  generalize hWd : (w.alloc (.cells #[.int .u64 (word A 0 : Nat), .int .u64 (word A 1 : Nat), .int .u64 (word A 2 : Nat), .int .u64 (word A 3 : Nat), .int .u64 (word A 4 : Nat), .int .u64 (word A 5 : Nat), .int .u64 (word A 6 : Nat), .int .u64 (word A 7 : Nat)] 24)).alloc (.cells #[.int .u64 (word B 0 : Nat), .int .u64 (word B 1 : Nat), .int .u64 (word B 2 : Nat), .int .u64 (word B 3 : Nat), .int .u64 (word B 4 : Nat), .int .u64 (word B 5 : Nat), .int .u64 (word B 6 : Nat), .int .u64 (word B 7 : Nat)] 24) = W at HR HS HW ⊢
  clear hWd
  go_loopw [5, 6, 7] (fun vi _ _ wr => ∃ c : Nat, vi = .int .i64 ((c : Int) - 1) ∧ c ≤ 512 ∧ TopB A B c ∧ Below W.heap.size W wr) (fun vi _ _ _ => (intOf vi + 1).toNat)
  case atStart => exact ⟨512, rfl, by omega, TopB.start hA hB 512 (Nat.le_refl _), Below.refl _ _⟩
  case round =>
    obtain ⟨c, rfl, hc5, htop, hb⟩ := hrel
    have HT : Hid (TopB A B c) := htop
    clear htop
    have rs := HR.out.stay hb
    have ss := HS.out.stay hb
    have cs := RowAt.cell rs; have ds := RowAt.cell ss
    by_cases h0 : c = 0
    · subst h0
      have HC : Hid (cmpN A B = 0) := by show _ = _; rw [cmpN, if_pos (TopB.last HT.out)]
      go_wp2_with fail
      go_ret
      exact ⟨ret_int HC.out.symm, HW.out.trans (hb.mono HW.out.size)⟩
    · obtain ⟨i, rfl⟩ : ∃ i, c = i + 1 := ⟨c - 1, by omega⟩
      have hlt : i < 512 := by omega
      have hj : ((i + 1 : Nat) : Int) - 1 = (i : Int) := by omega
      rw [hj]
      have HHa : Hid _ := has_at A i hlt
      have HHb : Hid _ := has_at B i hlt
      obtain ⟨x, HX⟩ : ∃ x, Hid (A.testBit i = x) := ⟨_, rfl⟩
      obtain ⟨y, HY⟩ : ∃ y, Hid (B.testBit i = y) := ⟨_, rfl⟩
      rw [HX.out] at HHa
      rw [HY.out] at HHb
      clear h0 hj
      cases x
      · cases y
        · go_wp2_with (first
            | (go_at_call_of 28 (Value.int IntKind.u64 ((word A 0 : Nat) : Int)); refine (rhas_any A _ _).mono ?_; rintro e w2 ⟨rfl, hb2⟩; rw [HHa.out]; have ss := RowAt.stay ss hb2; have ds := RowAt.cell ss)
            | (go_at_call_of 28 (Value.int IntKind.u64 ((word B 0 : Nat) : Int)); refine (rhas_any B _ _).mono ?_; rintro e w3 ⟨rfl, hb3⟩; rw [HHb.out]))
          go_roundw
          case rel => exact ⟨i, by go_num, by omega, TopB.next HT.out (by rw [HX.out, HY.out]), go_on (hb.trans (hb2.mono hb.size)) hb3⟩
          case measure => simp [intOf]
        · have HC : Hid (cmpN A B = -1) := by
            show _ = _
            have := TopB.less HT.out HX.out HY.out
            rw [cmpN, if_neg (by omega), if_pos this]
          go_wp2_with (first
            | (go_at_call_of 28 (Value.int IntKind.u64 ((word A 0 : Nat) : Int)); refine (rhas_any A _ _).mono ?_; rintro e w2 ⟨rfl, hb2⟩; rw [HHa.out]; have ss := RowAt.stay ss hb2; have ds := RowAt.cell ss)
            | (go_at_call_of 28 (Value.int IntKind.u64 ((word B 0 : Nat) : Int)); refine (rhas_any B _ _).mono ?_; rintro e w3 ⟨rfl, hb3⟩; rw [HHb.out]))
          go_ret
          exact ⟨ret_int HC.out.symm, go_on (HW.out.trans ((hb.trans (hb2.mono hb.size)).mono HW.out.size)) hb3⟩
      · cases y
        · have HC : Hid (cmpN A B = 1) := by
            show _ = _
            have := TopB.less (A := B) (B := A) (Eq.symm HT.out) HY.out HX.out
            rw [cmpN, if_neg (by omega), if_neg (by omega)]
          go_wp2_with (first
            | (go_at_call_of 28 (Value.int IntKind.u64 ((word A 0 : Nat) : Int)); refine (rhas_any A _ _).mono ?_; rintro e w2 ⟨rfl, hb2⟩; rw [HHa.out]; have ss := RowAt.stay ss hb2; have ds := RowAt.cell ss)
            | (go_at_call_of 28 (Value.int IntKind.u64 ((word B 0 : Nat) : Int)); refine (rhas_any B _ _).mono ?_; rintro e w3 ⟨rfl, hb3⟩; rw [HHb.out]))
          go_ret
          exact ⟨ret_int HC.out.symm, go_on (HW.out.trans ((hb.trans (hb2.mono hb.size)).mono HW.out.size)) hb3⟩
        · go_wp2_with (first
            | (go_at_call_of 28 (Value.int IntKind.u64 ((word A 0 : Nat) : Int)); refine (rhas_any A _ _).mono ?_; rintro e w2 ⟨rfl, hb2⟩; rw [HHa.out]; have ss := RowAt.stay ss hb2; have ds := RowAt.cell ss)
            | (go_at_call_of 28 (Value.int IntKind.u64 ((word B 0 : Nat) : Int)); refine (rhas_any B _ _).mono ?_; rintro e w3 ⟨rfl, hb3⟩; rw [HHb.out]))
          go_roundw
          case rel => exact ⟨i, by go_num, by omega, TopB.next HT.out (by rw [HX.out, HY.out]), go_on (hb.trans (hb2.mono hb.size)) hb3⟩
          case measure => simp [intOf]

end Go.Proofs.Ytghchlppdhfoeaa
