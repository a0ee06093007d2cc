/- terms' reader: powers, side, where what is read is right. -/
import Derived.Test.YthhlamehbcidgaaY6
namespace Go.Proofs.Ythhlamehbcidgaa
open Go Go.RowKit Go.Lib
set_option linter.unusedVariables false

set_option maxHeartbeats 4000000 in
set_option maxRecDepth 100000 in
theorem powers_ok {base rb : Nat} {s : ByteArray} (hs : s.size ≤ 1000) : ∀ f : Nat, RdC base rb s 99 (pwsP s f)
  | 0 => fun w v i L j M h hL hr => by simp [pwsP] at hr
  | f + 1 => by
    have HW : Hid (RdC base rb s 120 (powP s (pwsP s f))) := power_ok hs (pwsP_pg f) (powers_ok hs f)
    intro w v i L j M h hL hr
    have HS : Hid (s.size ≤ 1000) := hs
    rw [pwsP] at hr
    split at hr
    · cases hr
    rename_i j1 M1 ha
    have hpg := powP_pg (pwsP_pg f) h.le ha
    have HA : Hid (Calls Try.prog 120 #[.pointer (some ⟨rb, 0, none⟩)] w fun e w' => e = .returned (.tuple #[]) ∧ ST base rb s v w j1 M1 w') := HW.out w v i L j1 M1 h hL ha
    have HR : Hid (lpP s (pwsP s f) (s.size + 1) j1 M1 = some (j, M)) := hr
    have HLN : Hid (M1.length ≤ 2 * j1) := by
      have := hpg.2.2
      show _ ≤ _
      omega
    clear h hr ha hpg
    go_enter Try.func99, Try.ntmps99
    go_wp2_with fail
    refine HA.out.mono ?_
    rintro e w1 ⟨rfl, h1⟩
    have HS1 : Hid (ST base rb s v w j1 M1 w1) := h1
    clear h1 HA
    go_wp2_with fail
    go_loopw [] (fun wr => ∃ (n k : Nat) (K : Sg), ST base rb s v w k K wr ∧ lpP s (pwsP s f) n k K = some (j, M) ∧ K.length ≤ 2 * k) (fun wr => s.size - (match wr.cell? ⟨rb, 1, none⟩ with | some (.int _ x) => x.toNat | _ => 0))
    case atStart => exact ⟨_, _, _, HS1.out, HR.out, HLN.out⟩
    case round =>
      clear HS1 HR HLN
      obtain ⟨n, k, K, hst, hom, hkl⟩ := hrel
      have HST : Hid (ST base rb s v w k K wr) := hst
      have HKL : Hid (K.length ≤ 2 * k) := hkl
      obtain ⟨v3, hr3, ho3, hv3⟩ := hst
      have HR3 : Hid (RD base wr rb s k v3 K) := hr3
      have HO3 : Hid (Only (RS rb v) w wr ∧ (v3.ownBlock = v.ownBlock ∨ ∃ x, v3.ownBlock = some x ∧ w.heap.size ≤ x)) := ⟨ho3, hv3⟩
      clear hkl hr3 ho3 hv3
      cases n with
      | zero => simp [lpP] at hom
      | succ n =>
        rw [lpP] at hom
        go_wp2_with fail
        refine (sees_any HR3.out bBEG HS.out).mono ?_
        rintro e w4 ⟨rfl, hb⟩
        have HR4 : Hid (RD base w4 rb s k v3 K) := HR3.out.below hb
        have HO4 : Hid (Only (RS rb v) w w4) := HO3.out.1.trans (Only.of hb)
        clear hb
        by_cases hx : seesB s bBEG k = true
        · rw [if_pos hx] at hom
          split at hom
          · cases hom
          rename_i k2 K2 hk2
          have hpg := powP_pg (pwsP_pg f) HR4.out.le hk2
          have HOM : Hid (lpP s (pwsP s f) n k2 (K2 ++ [(3, 0)]) = some (j, M)) := hom
          rw [hx]
          clear hom hx
          go_wp2_with fail
          refine (HW.out w4 v3 k K k2 K2 HR4.out HKL.out hk2).mono ?_
          rintro e w5 ⟨rfl, h5⟩
          obtain ⟨v5, hr5, ho5, hv5⟩ := h5
          have HR5 : Hid (RD base w5 rb s k2 v5 K2) := hr5
          have HO5 : Hid (Only (RS rb v3) w4 w5 ∧ (v5.ownBlock = v3.ownBlock ∨ ∃ x, v5.ownBlock = some x ∧ w4.heap.size ≤ x)) := ⟨ho5, hv5⟩
          clear hr5 ho5 hv5
          have hkl2 : K2.length + 1 ≤ 2 * k2 := by have := HKL.out; have := hpg.2.2; omega
          have hks : k2 ≤ s.size := hpg.2.1
          go_wp2_with fail
          refine (put_any HR5.out 3 0 (by omega)).mono ?_
          rintro e w6 ⟨rfl, hq⟩
          have HS6 : Hid (ST base rb s v w k2 (K2 ++ [(3, 0)]) w6) := ST.comp HO4.out HO3.out.2 (ST.comp HO5.out.1 HO5.out.2 hq)
          clear hq
          have HLN : Hid ((K2 ++ [(3, 0)]).length ≤ 2 * k2) := by
            show _ ≤ _
            rw [List.length_append]
            simp
            omega
          have HLT : Hid (k < k2) := hpg.1
          go_wp2_with fail
          go_roundw
          case rel => exact ⟨n, _, _, HS6.out, HOM.out, HLN.out⟩
          case measure =>
            have m1 := place_at HS6.out
            have m0 := place_at HST.out
            have e1 : ((k2 : Nat) : Int).toNat = k2 := by omega
            have e0 : ((k : Nat) : Int).toNat = k := by omega
            have h3 := HLT.out
            simp only [m0, m1, e0, e1]
            exact Nat.sub_lt_sub_left (by omega) h3
        · have hx' : seesB s bBEG k = false := by simpa using hx
          rw [if_neg hx] at hom
          simp only [Option.some.injEq, Prod.mk.injEq] at hom
          obtain ⟨rfl, rfl⟩ := hom
          rw [hx']
          have HFIN : Hid (ST base rb s v w k K w4) := ST.comp HO4.out HO3.out.2 (ST.start HR4.out)
          go_wp2_with fail
          first
            | go_end0
            | skip
          exact ⟨rfl, HFIN.out⟩

set_option maxHeartbeats 2000000 in
set_option maxRecDepth 100000 in
theorem side_ok {base rb : Nat} {s : ByteArray} (hs : s.size ≤ 1000) {w : World} {v : Value} {i : Nat} {L : Sg} (h : RD base w rb s i v L) {f j : Nat} {M : Sg} (hr : pwsP s f i [] = some (j, M)) :
    Calls Try.prog 54 #[.pointer (some ⟨rb, 0, none⟩)] w fun e w' => ∃ v', e = .returned v' ∧ RD base w' rb s j v' M ∧ Only (fun b => b = rb) w w' ∧ (v'.ownBlock = none ∨ ∃ x, v'.ownBlock = some x ∧ w.heap.size ≤ x) := by
  have t2 : w.cell? ⟨rb, 2, none⟩ = some v := cell_at h.box rfl
  have tf : ∀ j, w.frozen? ⟨rb, j, none⟩ = false := fun j => froz_of h.box
  obtain ⟨w1, hw1⟩ : ∃ w1, w1 = w.setCell ⟨rb, 2, none⟩ (.slice none 0 0) := ⟨_, rfl⟩
  have HW1 : Hid (w1 = w.setCell ⟨rb, 2, none⟩ (.slice none 0 0)) := hw1
  have HR1 : Hid (RD base w1 rb s i (.slice none 0 0) []) := by
    show RD _ _ _ _ _ _ _
    rw [hw1]
    exact ⟨heap_set h.box, World.ownsRow_nil _ _ _ _, h.lob, h.le⟩
  have HO1 : Hid (Only (fun b => b = rb) w w1) := by
    show Only _ _ _
    rw [hw1]
    exact (Only.of (Below.refl _ _)).set rfl
  have HP : Hid (Calls Try.prog 99 #[.pointer (some ⟨rb, 0, none⟩)] w1 fun e w' => e = .returned (.tuple #[]) ∧ ST base rb s (.slice none 0 0) w1 j M w') := powers_ok hs f w1 (.slice none 0 0) i [] j M HR1.out (by simp) hr
  clear h hw1 hr
  go_enter Try.func54, Try.ntmps54
  go_wp2_with fail
  rw [← HW1.out]
  refine HP.out.mono ?_
  rintro e w2 ⟨rfl, v2, hr2, ho2, hv2⟩
  have HR2 : Hid (RD base w2 rb s j v2 M) := hr2
  have HO2 : Hid (Only (fun b => b = rb) w w2 ∧ (v2.ownBlock = none ∨ ∃ x, v2.ownBlock = some x ∧ w.heap.size ≤ x)) := by
    refine ⟨HO1.out.trans (ho2.mono (fun j _ hj => ?_)), ?_⟩
    · rcases hj with e | e
      · exact e
      · cases e
    · rcases hv2 with e | ⟨x, e, hx⟩
      · exact .inl e
      · have := HO1.out.size
        exact .inr ⟨x, e, by omega⟩
  have t2 : w2.cell? ⟨rb, 2, none⟩ = some v2 := cell_at hr2.box rfl
  clear hr2 ho2 hv2
  go_wp2_with fail
  go_ret
  exact ⟨v2, rfl, HR2.out, HO2.out.1, HO2.out.2⟩

/-- What an identity's text says: its sides, and whether it is "<=". -/
def idP (s : ByteArray) : Option (Sg × Sg × Bool) :=
  match pwsP s (s.size + 1) 0 [] with
  | none => none
  | some (j, L) =>
    let j1 := if seesB s ⟨#[60]⟩ j = true then j + 1 else j
    if isB s 61 j1 = true then (match pwsP s (s.size + 1) (j1 + 1) [] with
      | none => none
      | some (k, R) => if k = s.size then some (L, R, seesB s ⟨#[60]⟩ j) else none) else none
end Go.Proofs.Ythhlamehbcidgaa
