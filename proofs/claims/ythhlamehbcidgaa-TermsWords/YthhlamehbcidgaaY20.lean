/- terms' reader where the text is wrong: power, powers. -/
import Derived.Test.YthhlamehbcidgaaY19
namespace Go.Proofs.Ythhlamehbcidgaa
open Go Go.RowKit Go.Lib
set_option linter.unusedVariables false

set_option maxHeartbeats 4000000 in
set_option maxRecDepth 100000 in
theorem power_bad {base rb : Nat} {s : ByteArray} (hs : s.size ≤ 1000) {pows : Nat → Sg → Option (Nat × Sg)} {bad : Nat → Sg → Option Nat} (hp : ∀ i L j M, i ≤ s.size → pows i L = some (j, M) → PG s i L j M) (hc : RdC base rb s 99 pows) (hd : BdC base rb s 99 bad) : BdC base rb s 120 (powE s pows bad) := by
  intro w v i L pl h hL hr
  have HS : Hid (s.size ≤ 1000) := hs
  unfold powE at hr
  split at hr
  · have HB : Hid _ := atom_bad hs hp hc hd w v i L pl h hL hr
    clear h hc hd hp hr
    go_enter Try.func120, Try.ntmps120
    go_wp2_with fail
    refine Calls.mono HB.out ?_
    rintro e w1 ⟨rfl, M, hst⟩
    exact ⟨rfl, rfl, M, hst⟩
  rename_i j1 M1 ha
  have hpg := atomP_pg hp h.le ha
  have HA : Hid (Calls Try.prog 130 #[.pointer (some ⟨rb, 0, none⟩)] w fun e w' => e = .returned (.tuple #[]) ∧ ST base rb s v w j1 M1 w') := atom_ok hs hp hc w v i L j1 M1 h hL ha
  have HR : Hid (omE s (s.size + 1) (skip s j1) = some pl) := hr
  have HLN : Hid (M1.length ≤ 2 * skip s j1) := by
    have := skip_le (s := s) _ j1 rfl hpg.2.1
    have := hpg.2.2
    show _ ≤ _
    omega
  clear h hc hd hp hr ha hpg
  go_enter Try.func120, Try.ntmps120
  go_wp2_with fail
  refine HA.out.mono ?_
  rintro e w1 ⟨rfl, h1⟩
  obtain ⟨v1, hr1, ho1, hv1⟩ := h1
  have HR1 : Hid (RD base w1 rb s j1 v1 M1) := hr1
  have HO1 : Hid (Only (RS rb v) w w1 ∧ (v1.ownBlock = v.ownBlock ∨ ∃ x, v1.ownBlock = some x ∧ w.heap.size ≤ x)) := ⟨ho1, hv1⟩
  clear hr1 ho1 hv1 HA
  go_wp2_with fail
  refine (blanks_any HR1.out HS.out).mono ?_
  rintro e w2 ⟨rfl, hr2, ho2⟩
  have HS2 : Hid (ST base rb s v w (skip s j1) M1 w2) := ST.only HO1.out.1 HO1.out.2 hr2 ho2
  clear hr2 ho2
  go_wp2_with fail
  go_loopw [] (fun wr => ∃ (n k : Nat) (K : Sg), ST base rb s v w k K wr ∧ omE s n k = some pl ∧ K.length ≤ 2 * k) (fun wr => s.size - (match wr.cell? ⟨rb, 1, none⟩ with | some (.int _ x) => x.toNat | _ => 0))
  case atStart => exact ⟨_, _, _, HS2.out, HR.out, HLN.out⟩
  case round =>
    clear HS2 HR HLN
    obtain ⟨n, k, K, hst, hom, hkl⟩ := hrel
    have HST : Hid (ST base rb s v w k K wr) := hst
    have HKL : Hid (K.length ≤ 2 * k) := hkl
    obtain ⟨v3, hr3, ho3, hv3⟩ := hst
    have HR3 : Hid (RD base wr rb s k v3 K) := hr3
    have HO3 : Hid (Only (RS rb v) w wr ∧ (v3.ownBlock = v.ownBlock ∨ ∃ x, v3.ownBlock = some x ∧ w.heap.size ≤ x)) := ⟨ho3, hv3⟩
    clear hkl hr3 ho3 hv3
    cases n with
    | zero => simp [omE] at hom
    | succ n =>
      rw [omE] at hom
      go_wp2_with fail
      refine (sees_any HR3.out ⟨#[94]⟩ HS.out).mono ?_
      rintro e w4 ⟨rfl, hb⟩
      have HR4 : Hid (RD base w4 rb s k v3 K) := HR3.out.below hb
      have HO4 : Hid (Only (RS rb v) w w4) := HO3.out.1.trans (Only.of hb)
      clear hb
      by_cases hx : seesB s ⟨#[94]⟩ k = true
      · rw [if_pos hx] at hom
        split at hom
        · rename_i hw
          obtain ⟨hlt2, hcl⟩ := isB_at hw
          have hlt := seesB_le hx
          rw [hx]
          have HOM : Hid (omE s n (skip s (k + 2)) = some pl) := hom
          have t1 : w4.cell? ⟨rb, 1, none⟩ = some (.int .i64 (k : Nat)) := cell_at HR4.out.box rfl
          have tf : ∀ j, w4.frozen? ⟨rb, j, none⟩ = false := fun j => froz_of HR4.out.box
          have hw1 : IntKind.i64.wrap ((k : Int) + 1) = ((k + 1 : Nat) : Int) := by rw [IntKind.wrap_i64]; omega
          obtain ⟨w5, hw5⟩ : ∃ w5, w5 = w4.setCell ⟨rb, 1, none⟩ (.int .i64 ((k + 1 : Nat) : Int)) := ⟨_, rfl⟩
          have HR5 : Hid (RD base w5 rb s (k + 1) v3 K) := by show RD _ _ _ _ _ _ _; rw [hw5]; exact HR4.out.move (by omega)
          have HO5 : Hid (Only (RS rb v3) w4 w5) := by show Only _ _ _; rw [hw5]; exact HR4.out.only_set _ _
          have HW5 : Hid (w5 = w4.setCell ⟨rb, 1, none⟩ (.int .i64 ((k : Int) + 1))) := hw5
          have HS5 : Hid (ST base rb s v w (k + 1) K w5) := ST.only HO4.out HO3.out.2 HR5.out HO5.out
          clear hw5 hom hx hw
          go_wp2_with fail
          rw [← HW5.out]
          clear t1 tf HW5
          refine (take_ok HR5.out HS.out 119 hlt2 hcl).mono ?_
          rintro e w6 ⟨rfl, hr6, ho6⟩
          have HR6 : Hid (RD base w6 rb s (k + 2) v3 K) := hr6
          have HO6 : Hid (Only (RS rb v3) w4 w6) := HO5.out.trans ho6
          clear hr6 ho6
          go_wp2_with fail
          refine (put_any HR6.out 4 0 (by have := HKL.out; omega)).mono ?_
          rintro e w7 ⟨rfl, v7, hr7, ho7, hv7⟩
          have HR7 : Hid (RD base w7 rb s (k + 2) v7 (K ++ [(4, 0)])) := hr7
          have HS7 : Hid (ST base rb s v w (k + 2) (K ++ [(4, 0)]) w7) := by
            have h6 : ST base rb s v3 w4 (k + 2) (K ++ [(4, 0)]) w7 := ST.comp HO6.out (.inl rfl) ⟨v7, hr7, ho7, hv7⟩
            exact ST.comp HO4.out HO3.out.2 h6
          clear hr7 ho7 hv7
          go_wp2_with fail
          refine (blanks_any HR7.out HS.out).mono ?_
          rintro e w8 ⟨rfl, hr8, ho8⟩
          have HS8 : Hid (ST base rb s v w (skip s (k + 2)) (K ++ [(4, 0)]) w8) := by
            obtain ⟨v9, a1, a2, a3⟩ := HS7.out
            have e9 : v7 = v9 := by
              have h1 := HR7.out.box
              rw [a1.box] at h1
              simp only [Option.some.injEq, Obj.cells.injEq, Array.mk.injEq, List.cons.injEq, and_true, true_and] at h1
              exact h1.symm
            subst e9
            exact ST.only a2 a3 hr8 ho8
          clear hr8 ho8
          have HLN : Hid ((K ++ [(4, 0)]).length ≤ 2 * skip s (k + 2)) := by
            have h1 := HKL.out
            have h2 := (skip_le (s := s) _ (k + 2) rfl (by omega)).1
            show _ ≤ _
            rw [List.length_append]
            simp
            omega
          go_wp2_with fail
          go_roundw
          case rel => exact ⟨n, _, _, HS8.out, HOM.out, HLN.out⟩
          case measure =>
            have m1 := place_at HS8.out
            have m0 := place_at HST.out
            have e1 : ((skip s (k + 2) : Nat) : Int).toNat = skip s (k + 2) := by omega
            have e0 : ((k : Nat) : Int).toNat = k := by omega
            have h2 := (skip_le (s := s) _ (k + 2) rfl (by omega)).1
            have h3 := ST.le HS8.out
            simp only [m0, m1, e0, e1]
            exact Nat.sub_lt_sub_left (by omega) (by omega)
        · rename_i hw
          have hcl : isB s 119 (k + 1) = false := by simpa using hw
          simp only [Option.some.injEq] at hom
          subst hom
          have hlt := seesB_le hx
          rw [hx]
          have t1 : w4.cell? ⟨rb, 1, none⟩ = some (.int .i64 (k : Nat)) := cell_at HR4.out.box rfl
          have tf : ∀ j, w4.frozen? ⟨rb, j, none⟩ = false := fun j => froz_of HR4.out.box
          have hw1 : IntKind.i64.wrap ((k : Int) + 1) = ((k + 1 : Nat) : Int) := by rw [IntKind.wrap_i64]; omega
          obtain ⟨w5, hw5⟩ : ∃ w5, w5 = w4.setCell ⟨rb, 1, none⟩ (.int .i64 ((k + 1 : Nat) : Int)) := ⟨_, rfl⟩
          have HR5 : Hid (RD base w5 rb s (k + 1) v3 K) := by show RD _ _ _ _ _ _ _; rw [hw5]; exact HR4.out.move (by omega)
          have HO5 : Hid (Only (RS rb v3) w4 w5) := by show Only _ _ _; rw [hw5]; exact HR4.out.only_set _ _
          have HW5 : Hid (w5 = w4.setCell ⟨rb, 1, none⟩ (.int .i64 ((k : Int) + 1))) := hw5
          have HS5 : Hid (ST base rb s v w (k + 1) K w5) := ST.only HO4.out HO3.out.2 HR5.out HO5.out
          clear hw5 hx hw
          go_wp2_with fail
          rw [← HW5.out]
          clear t1 tf HW5
          refine (take_bad HR5.out 119 HS.out hcl).mono ?_
          rintro e w6 ⟨rfl, hb⟩
          exact ⟨rfl, rfl, K, HS5.out.after HR5.out hb⟩
      · rw [if_neg hx] at hom
        cases hom

set_option maxHeartbeats 4000000 in
set_option maxRecDepth 100000 in
theorem powers_bad {base rb : Nat} {s : ByteArray} (hs : s.size ≤ 1000) : ∀ f : Nat, BdC base rb s 99 (pwsE s f)
  | 0 => fun w v i L pl h hL hr => by simp [pwsE] at hr
  | f + 1 => by
    have HW : Hid (RdC base rb s 120 (powP s (pwsP s f))) := power_ok hs (pwsP_pg f) (powers_ok hs f)
    have HBW : Hid (BdC base rb s 120 (powE s (pwsP s f) (pwsE s f))) := power_bad hs (pwsP_pg f) (powers_ok hs f) (powers_bad hs f)
    intro w v i L pl h hL hr
    have HS : Hid (s.size ≤ 1000) := hs
    rw [pwsE] at hr
    split at hr
    · have HB : Hid _ := HBW.out w v i L pl h hL hr
      clear h hr
      go_enter Try.func99, Try.ntmps99
      go_wp2_with fail
      refine Calls.mono HB.out ?_
      rintro e w1 ⟨rfl, M, hst⟩
      exact ⟨rfl, rfl, M, hst⟩
    rename_i j1 M1 ha
    have hpg := powP_pg (pwsP_pg f) h.le ha
    have HA : Hid (Calls Try.prog 120 #[.pointer (some ⟨rb, 0, none⟩)] w fun e w' => e = .returned (.tuple #[]) ∧ ST base rb s v w j1 M1 w') := HW.out w v i L j1 M1 h hL ha
    have HR : Hid (lpE s (pwsP s f) (pwsE s f) (s.size + 1) j1 M1 = some pl) := hr
    have HLN : Hid (M1.length ≤ 2 * j1) := by
      have := hpg.2.2
      show _ ≤ _
      omega
    clear h hr ha hpg
    go_enter Try.func99, Try.ntmps99
    go_wp2_with fail
    refine HA.out.mono ?_
    rintro e w1 ⟨rfl, h1⟩
    have HS1 : Hid (ST base rb s v w j1 M1 w1) := h1
    clear h1 HA
    go_wp2_with fail
    go_loopw [] (fun wr => ∃ (n k : Nat) (K : Sg), ST base rb s v w k K wr ∧ lpE s (pwsP s f) (pwsE s f) n k K = some pl ∧ K.length ≤ 2 * k) (fun wr => s.size - (match wr.cell? ⟨rb, 1, none⟩ with | some (.int _ x) => x.toNat | _ => 0))
    case atStart => exact ⟨_, _, _, HS1.out, HR.out, HLN.out⟩
    case round =>
      clear HS1 HR HLN
      obtain ⟨n, k, K, hst, hom, hkl⟩ := hrel
      have HST : Hid (ST base rb s v w k K wr) := hst
      have HKL : Hid (K.length ≤ 2 * k) := hkl
      obtain ⟨v3, hr3, ho3, hv3⟩ := hst
      have HR3 : Hid (RD base wr rb s k v3 K) := hr3
      have HO3 : Hid (Only (RS rb v) w wr ∧ (v3.ownBlock = v.ownBlock ∨ ∃ x, v3.ownBlock = some x ∧ w.heap.size ≤ x)) := ⟨ho3, hv3⟩
      clear hkl hr3 ho3 hv3
      cases n with
      | zero => simp [lpE] at hom
      | succ n =>
        rw [lpE] at hom
        go_wp2_with fail
        refine (sees_any HR3.out bBEG HS.out).mono ?_
        rintro e w4 ⟨rfl, hb⟩
        have HR4 : Hid (RD base w4 rb s k v3 K) := HR3.out.below hb
        have HO4 : Hid (Only (RS rb v) w w4) := HO3.out.1.trans (Only.of hb)
        clear hb
        by_cases hx : seesB s bBEG k = true
        · rw [if_pos hx] at hom
          split at hom
          · rename_i hno
            rw [hx]
            clear hx
            go_wp2_with fail
            refine (HBW.out w4 v3 k K pl HR4.out HKL.out hom).mono ?_
            rintro e w5 ⟨rfl, M, h5⟩
            exact ⟨rfl, rfl, M, ST.comp HO4.out HO3.out.2 h5⟩
          rename_i k2 K2 hk2
          have hpg := powP_pg (pwsP_pg f) HR4.out.le hk2
          have HOM : Hid (lpE s (pwsP s f) (pwsE s f) n k2 (K2 ++ [(3, 0)]) = some pl) := hom
          rw [hx]
          clear hom hx
          go_wp2_with fail
          refine (HW.out w4 v3 k K k2 K2 HR4.out HKL.out hk2).mono ?_
          rintro e w5 ⟨rfl, h5⟩
          obtain ⟨v5, hr5, ho5, hv5⟩ := h5
          have HR5 : Hid (RD base w5 rb s k2 v5 K2) := hr5
          have HO5 : Hid (Only (RS rb v3) w4 w5 ∧ (v5.ownBlock = v3.ownBlock ∨ ∃ x, v5.ownBlock = some x ∧ w4.heap.size ≤ x)) := ⟨ho5, hv5⟩
          clear hr5 ho5 hv5
          have hkl2 : K2.length + 1 ≤ 2 * k2 := by have := HKL.out; have := hpg.2.2; omega
          have hks : k2 ≤ s.size := hpg.2.1
          go_wp2_with fail
          refine (put_any HR5.out 3 0 (by omega)).mono ?_
          rintro e w6 ⟨rfl, hq⟩
          have HS6 : Hid (ST base rb s v w k2 (K2 ++ [(3, 0)]) w6) := ST.comp HO4.out HO3.out.2 (ST.comp HO5.out.1 HO5.out.2 hq)
          clear hq
          have HLN : Hid ((K2 ++ [(3, 0)]).length ≤ 2 * k2) := by
            show _ ≤ _
            rw [List.length_append]
            simp
            omega
          have HLT : Hid (k < k2) := hpg.1
          go_wp2_with fail
          go_roundw
          case rel => exact ⟨n, _, _, HS6.out, HOM.out, HLN.out⟩
          case measure =>
            have m1 := place_at HS6.out
            have m0 := place_at HST.out
            have e1 : ((k2 : Nat) : Int).toNat = k2 := by omega
            have e0 : ((k : Nat) : Int).toNat = k := by omega
            have h3 := HLT.out
            simp only [m0, m1, e0, e1]
            exact Nat.sub_lt_sub_left (by omega) h3
        · rw [if_neg hx] at hom
          cases hom
end Go.Proofs.Ythhlamehbcidgaa
