/- terms' reader: atom, power, powers, side, where what is read is right. -/
import Derived.Test.YthhlamehbcidgaaY4
namespace Go.Proofs.Ythhlamehbcidgaa
open Go Go.RowKit Go.Lib
set_option linter.unusedVariables false

/-- What a call that reads leaves. -/
def RdC (base rb : Nat) (s : ByteArray) (f : FuncId) (p : Nat → Sg → Option (Nat × Sg)) : Prop :=
  ∀ (w : World) (v : Value) (i : Nat) (L : Sg) (j : Nat) (M : Sg), RD base w rb s i v L → L.length ≤ 2 * i → p i L = some (j, M) → Calls Try.prog f #[.pointer (some ⟨rb, 0, none⟩)] w fun e w' => e = .returned (.tuple #[]) ∧ ST base rb s v w j M w'

theorem drew_rd {base rb : Nat} {s : ByteArray} {w : World} {i : Nat} {v : Value} {L : Sg} (h : RD base w rb s i v L) : RD base w.drew rb s i v L := h.below (Below.refl _ _).drew

set_option maxHeartbeats 4000000 in
set_option maxRecDepth 100000 in
theorem atom_ok {base rb : Nat} {s : ByteArray} (hs : s.size ≤ 1000) {pows : Nat → Sg → Option (Nat × Sg)} (hp : ∀ i L j M, i ≤ s.size → pows i L = some (j, M) → PG s i L j M) (hc : RdC base rb s 99 pows) : RdC base rb s 130 (atomP s pows) := by
  intro w v i L j M h hL hr
  have HS : Hid (s.size ≤ 1000) := hs
  have HC : Hid _ := hc
  have HP : Hid (∀ i L j M, i ≤ s.size → pows i L = some (j, M) → PG s i L j M) := hp
  have hsk := skip_le (s := s) _ i rfl h.le
  obtain ⟨i1, hi1⟩ : ∃ i1, skip s i = i1 := ⟨_, rfl⟩
  have HB : Hid (Calls Try.prog 131 #[.pointer (some ⟨rb, 0, none⟩)] w fun e w' => e = .returned (.tuple #[]) ∧ RD base w' rb s i1 v L ∧ Only (RS rb v) w w') := by
    have := blanks_any h hs
    rw [hi1] at this
    exact this
  unfold atomP at hr
  rw [hi1] at hr hsk
  have HL : Hid (L.length ≤ 2 * i1 ∧ L.length ≤ 1000000) := by have := h.le; show _ ∧ _; omega
  clear h hc hp hi1
  go_enter Try.func130, Try.ntmps130
  go_wp2_with fail
  refine HB.out.mono ?_
  rintro e w1 ⟨rfl, hr1, ho1⟩
  have HR1 : Hid (RD base w1 rb s i1 v L) := hr1
  have HO1 : Hid (Only (RS rb v) w w1) := ho1
  clear hr1 ho1 HB
  go_wp2_with fail
  refine (sees_any HR1.out bXYZ HS.out).mono ?_
  rintro e w2 ⟨rfl, hb⟩
  have HR2 : Hid (RD base w2 rb s i1 v L) := HR1.out.below hb
  have HO2 : Hid (Only (RS rb v) w w2) := HO1.out.trans (Only.of hb)
  clear hb HR1 HO1
  by_cases hx : seesB s bXYZ i1 = true
  · rw [if_pos hx] at hr
    simp only [Option.some.injEq, Prod.mk.injEq] at hr
    obtain ⟨rfl, rfl⟩ := hr
    have hlt := seesB_le hx
    have hltI : (i1 : Int) < s.size := by omega
    obtain ⟨x, hxx⟩ : ∃ x, s[i1].toNat = x := ⟨_, rfl⟩
    have HBN : Hid (byteN s i1 = x) := by show _ = _; rw [byteN_at hlt, hxx]
    have HRD : Hid (RD base w2.drew rb s i1 v L) := drew_rd HR2.out
    have HPUT : Hid (Calls Try.prog 121 #[.pointer (some ⟨rb, 0, none⟩), .int .i64 2, .int .u8 (x : Nat)] w2.drew (PutQ base rb s i1 v (L ++ [(2, x)]) w2.drew)) := put_any HRD.out 2 x HL.out.2
    have S0 : w2.drew.cell? ⟨rb, 0, none⟩ = some (.string s) ∧ w2.drew.cell? ⟨rb, 1, none⟩ = some (.int .i64 (i1 : Nat)) := ⟨cell_at HRD.out.box rfl, cell_at HRD.out.box rfl⟩
    rw [hx]
    go_wp2_with fail
    go_region_held3 (fun y => y.cell? ⟨rb, 0, none⟩ = some (.string s) ∧ y.cell? ⟨rb, 1, none⟩ = some (.int .i64 (i1 : Nat))) (first | exact S0 | assumption) (first
      | (go_at_call 121; refine (Calls.mono HPUT.out ?_); rintro e w3 ⟨rfl, v3, hr3, ho3, hv3⟩; have S3 : w3.cell? ⟨rb, 0, none⟩ = some (.string s) ∧ w3.cell? ⟨rb, 1, none⟩ = some (.int .i64 (i1 : Nat)) := ⟨cell_at hr3.box rfl, cell_at hr3.box rfl⟩))
    have HR3 : Hid (RD base w3 rb s i1 v3 (L ++ [(2, x)])) := hr3
    have HO3 : Hid (Only (RS rb v) w w3 ∧ (v3.ownBlock = v.ownBlock ∨ ∃ x, v3.ownBlock = some x ∧ w.heap.size ≤ x)) := by
      refine ⟨(HO2.out.trans (Only.of (Below.refl _ _).drew)).trans ho3, ?_⟩
      rcases hv3 with q | ⟨x, q, hx⟩
      · exact .inl q
      · have := HO2.out.size
        exact .inr ⟨x, q, by simp at hx; omega⟩
    have t1 : w3.cell? ⟨rb, 1, none⟩ = some (.int .i64 (i1 : Nat)) := S3.2
    have tf : ∀ j, w3.frozen? ⟨rb, j, none⟩ = false := fun j => froz_of hr3.box
    have hw1 : IntKind.i64.wrap ((i1 : Int) + 1) = ((i1 + 1 : Nat) : Int) := by rw [IntKind.wrap_i64]; omega
    clear hr3 ho3 hv3 S0 S3
    have HFIN : Hid (ST base rb s v w (i1 + 1) (L ++ [(2, byteN s i1)]) (w3.setCell ⟨rb, 1, none⟩ (.int .i64 ((i1 + 1 : Nat) : Int)))) := by
      show ST _ _ _ _ _ _ _ _
      rw [HBN.out]
      exact ST.only HO3.out.1 HO3.out.2 (HR3.out.move (by omega)) (HR3.out.only_set _ _)
    go_wp2_with fail
    first
      | go_end0
      | skip
    exact ⟨rfl, HFIN.out⟩
  · have hx' : seesB s bXYZ i1 = false := by simpa using hx
    rw [if_neg hx] at hr
    rw [hx']
    clear hx hx'
    go_wp2_with fail
    refine (sees_any HR2.out ⟨#[40]⟩ HS.out).mono ?_
    rintro e w3 ⟨rfl, hb⟩
    have HR3 : Hid (RD base w3 rb s i1 v L) := HR2.out.below hb
    have HO3 : Hid (Only (RS rb v) w w3) := HO2.out.trans (Only.of hb)
    clear hb HR2 HO2
    by_cases hx : seesB s ⟨#[40]⟩ i1 = true
    · rw [if_pos hx] at hr
      have hlt := seesB_le hx
      rw [hx]
      split at hr
      · cases hr
      · rename_i k K hk
        split at hr
        · rename_i hclose
          simp only [Option.some.injEq, Prod.mk.injEq] at hr
          obtain ⟨rfl, rfl⟩ := hr
          obtain ⟨hlt2, hcl⟩ := isB_at hclose
          have hpg := HP.out _ _ _ _ (by omega) hk
          have t1 : w3.cell? ⟨rb, 1, none⟩ = some (.int .i64 (i1 : Nat)) := cell_at HR3.out.box rfl
          have tf : ∀ j, w3.frozen? ⟨rb, j, none⟩ = false := fun j => froz_of HR3.out.box
          have hw1 : IntKind.i64.wrap ((i1 : Int) + 1) = ((i1 + 1 : Nat) : Int) := by rw [IntKind.wrap_i64]; omega
          obtain ⟨w4, hw4⟩ : ∃ w4, w4 = w3.setCell ⟨rb, 1, none⟩ (.int .i64 ((i1 + 1 : Nat) : Int)) := ⟨_, rfl⟩
          have HR4 : Hid (RD base w4 rb s (i1 + 1) v L) := by show RD _ _ _ _ _ _ _; rw [hw4]; exact HR3.out.move (by omega)
          have HO4 : Hid (Only (RS rb v) w w4) := by show Only _ _ _; rw [hw4]; exact HO3.out.trans (HR3.out.only_set _ _)
          have HW4 : Hid (w4 = w3.setCell ⟨rb, 1, none⟩ (.int .i64 ((i1 : Int) + 1))) := hw4
          clear hw4
          go_wp2_with fail
          rw [← HW4.out]
          refine (HC.out w4 v (i1 + 1) L k K HR4.out (by have := HL.out.1; omega) hk).mono ?_
          rintro e w5 ⟨rfl, v5, hr5, ho5, hv5⟩
          have HR5 : Hid (RD base w5 rb s k v5 K) := hr5
          have HS5 : Hid (ST base rb s v w k K w5) := ST.comp HO4.out (.inl rfl) ⟨v5, hr5, ho5, hv5⟩
          clear hr5 ho5 hv5 t1 tf
          go_wp2_with fail
          refine (take_ok HR5.out HS.out 41 hlt2 hcl).mono ?_
          rintro e w6 ⟨rfl, hr6, ho6⟩
          have HFIN : Hid (ST base rb s v w (k + 1) K w6) := by
            obtain ⟨v7, a1, a2, a3⟩ := HS5.out
            have e7 : v5 = v7 := by
              have h1 := HR5.out.box
              rw [a1.box] at h1
              simp only [Option.some.injEq, Obj.cells.injEq, Array.mk.injEq, List.cons.injEq, and_true, true_and] at h1
              exact h1.symm
            subst e7
            exact ST.only a2 a3 hr6 ho6
          clear hr6 ho6
          go_wp2_with fail
          first
            | go_end0
            | skip
          exact ⟨rfl, HFIN.out⟩
        · cases hr
    · have hx' : seesB s ⟨#[40]⟩ i1 = false := by simpa using hx
      rw [if_neg hx] at hr
      rw [hx']
      split at hr
      · rename_i hone
        simp only [Option.some.injEq, Prod.mk.injEq] at hr
        obtain ⟨rfl, rfl⟩ := hr
        obtain ⟨hlt2, hcl⟩ := isB_at hone
        clear hx hx'
        go_wp2_with fail
        refine (take_ok HR3.out HS.out 49 hlt2 hcl).mono ?_
        rintro e w4 ⟨rfl, hr4, ho4⟩
        have HR4 : Hid (RD base w4 rb s (i1 + 1) v L) := hr4
        have HO4 : Hid (Only (RS rb v) w w4) := HO3.out.trans ho4
        clear hr4 ho4
        go_wp2_with fail
        refine (put_any HR4.out 1 0 HL.out.2).mono ?_
        rintro e w5 ⟨rfl, hq⟩
        have HFIN : Hid (ST base rb s v w (i1 + 1) (L ++ [(1, 0)]) w5) := ST.comp HO4.out (.inl rfl) hq
        clear hq
        go_wp2_with fail
        first
          | go_end0
          | skip
        exact ⟨rfl, HFIN.out⟩
      · cases hr
end Go.Proofs.Ythhlamehbcidgaa
