/- terms' reader where the text is wrong: where it gives up (pure); atom. -/
import Derived.Test.YthhlamehbcidgaaY18
namespace Go.Proofs.Ythhlamehbcidgaa
open Go Go.RowKit Go.Lib
set_option linter.unusedVariables false

/-- Where it gives up. -/
def omE (s : ByteArray) : Nat → Nat → Option Nat
  | 0, _ => none
  | n + 1, j => if seesB s ⟨#[94]⟩ j = true then (if isB s 119 (j + 1) = true then omE s n (skip s (j + 2)) else some (j + 1)) else none
def atomE (s : ByteArray) (pows : Nat → Sg → Option (Nat × Sg)) (bad : Nat → Sg → Option Nat) (i : Nat) (L : Sg) : Option Nat :=
  if seesB s bXYZ (skip s i) = true then none
  else if seesB s ⟨#[40]⟩ (skip s i) = true then
    (match pows (skip s i + 1) L with
    | none => bad (skip s i + 1) L
    | some (k, _) => if isB s 41 k = true then none else some k)
  else if isB s 49 (skip s i) = true then none else some (skip s i)
def powE (s : ByteArray) (pows : Nat → Sg → Option (Nat × Sg)) (bad : Nat → Sg → Option Nat) (i : Nat) (L : Sg) : Option Nat :=
  match atomP s pows i L with
  | none => atomE s pows bad i L
  | some (j, _) => omE s (s.size + 1) (skip s j)
def lpE (s : ByteArray) (pows : Nat → Sg → Option (Nat × Sg)) (bad : Nat → Sg → Option Nat) : Nat → Nat → Sg → Option Nat
  | 0, _, _ => none
  | n + 1, j, L => if seesB s bBEG j = true then (match powP s pows j L with
    | none => powE s pows bad j L
    | some (k, M) => lpE s pows bad n k (M ++ [(3, 0)])) else none
def pwsE (s : ByteArray) : Nat → Nat → Sg → Option Nat
  | 0, _, _ => none
  | f + 1, i, L => match powP s (pwsP s f) i L with
    | none => powE s (pwsP s f) (pwsE s f) i L
    | some (j, M) => lpE s (pwsP s f) (pwsE s f) (s.size + 1) j M

/-- What a call that gives up leaves. -/
def BdC (base rb : Nat) (s : ByteArray) (f : FuncId) (p : Nat → Sg → Option Nat) : Prop :=
  ∀ (w : World) (v : Value) (i : Nat) (L : Sg) (pl : Nat), RD base w rb s i v L → L.length ≤ 2 * i → p i L = some pl → Calls Try.prog f #[.pointer (some ⟨rb, 0, none⟩)] w fun e w' => e = .panicked gaveUp ∧ ∃ M, ST base rb s v w pl M w'

theorem ST.after {base rb : Nat} {s : ByteArray} {v v5 : Value} {w w5 w6 : World} {k : Nat} {K : Sg} (h : ST base rb s v w k K w5) (h5 : RD base w5 rb s k v5 K) (hb : Below w5.heap.size w5 w6) : ST base rb s v w k K w6 := by
  obtain ⟨v7, a1, a2, a3⟩ := h
  exact ⟨v7, a1.below hb, a2.trans (Only.of hb), a3⟩

set_option maxHeartbeats 4000000 in
set_option maxRecDepth 100000 in
theorem atom_bad {base rb : Nat} {s : ByteArray} (hs : s.size ≤ 1000) {pows : Nat → Sg → Option (Nat × Sg)} {bad : Nat → Sg → Option Nat} (hp : ∀ i L j M, i ≤ s.size → pows i L = some (j, M) → PG s i L j M) (hc : RdC base rb s 99 pows) (hd : BdC base rb s 99 bad) : BdC base rb s 130 (atomE s pows bad) := by
  intro w v i L pl h hL hr
  have HS : Hid (s.size ≤ 1000) := hs
  have HC : Hid _ := hc
  have HD : Hid _ := hd
  have hsk := skip_le (s := s) _ i rfl h.le
  obtain ⟨i1, hi1⟩ : ∃ i1, skip s i = i1 := ⟨_, rfl⟩
  have HB : Hid (Calls Try.prog 131 #[.pointer (some ⟨rb, 0, none⟩)] w fun e w' => e = .returned (.tuple #[]) ∧ RD base w' rb s i1 v L ∧ Only (RS rb v) w w') := by
    have := blanks_any h hs
    rw [hi1] at this
    exact this
  unfold atomE at hr
  rw [hi1] at hr hsk
  have HL : Hid (L.length ≤ 2 * i1 ∧ L.length ≤ 1000000) := by have := h.le; show _ ∧ _; omega
  clear h hc hd hp hi1
  go_enter Try.func130, Try.ntmps130
  go_wp2_with fail
  refine HB.out.mono ?_
  rintro e w1 ⟨rfl, hr1, ho1⟩
  have HR1 : Hid (RD base w1 rb s i1 v L) := hr1
  have HO1 : Hid (Only (RS rb v) w w1) := ho1
  clear hr1 ho1 HB
  go_wp2_with fail
  refine (sees_any HR1.out bXYZ HS.out).mono ?_
  rintro e w2 ⟨rfl, hb⟩
  have HR2 : Hid (RD base w2 rb s i1 v L) := HR1.out.below hb
  have HO2 : Hid (Only (RS rb v) w w2) := HO1.out.trans (Only.of hb)
  clear hb HR1 HO1
  by_cases hx : seesB s bXYZ i1 = true
  · rw [if_pos hx] at hr
    cases hr
  · have hx' : seesB s bXYZ i1 = false := by simpa using hx
    rw [if_neg hx] at hr
    rw [hx']
    clear hx hx'
    go_wp2_with fail
    refine (sees_any HR2.out ⟨#[40]⟩ HS.out).mono ?_
    rintro e w3 ⟨rfl, hb⟩
    have HR3 : Hid (RD base w3 rb s i1 v L) := HR2.out.below hb
    have HO3 : Hid (Only (RS rb v) w w3) := HO2.out.trans (Only.of hb)
    clear hb HR2 HO2
    by_cases hx : seesB s ⟨#[40]⟩ i1 = true
    · rw [if_pos hx] at hr
      have hlt := seesB_le hx
      rw [hx]
      have HLT : Hid (i1 < s.size) := hlt
      have t1 : w3.cell? ⟨rb, 1, none⟩ = some (.int .i64 (i1 : Nat)) := cell_at HR3.out.box rfl
      have tf : ∀ j, w3.frozen? ⟨rb, j, none⟩ = false := fun j => froz_of HR3.out.box
      have hw1 : IntKind.i64.wrap ((i1 : Int) + 1) = ((i1 + 1 : Nat) : Int) := by rw [IntKind.wrap_i64]; omega
      obtain ⟨w4, hw4⟩ : ∃ w4, w4 = w3.setCell ⟨rb, 1, none⟩ (.int .i64 ((i1 + 1 : Nat) : Int)) := ⟨_, rfl⟩
      have HR4 : Hid (RD base w4 rb s (i1 + 1) v L) := by show RD _ _ _ _ _ _ _; rw [hw4]; exact HR3.out.move (by omega)
      have HO4 : Hid (Only (RS rb v) w w4) := by show Only _ _ _; rw [hw4]; exact HO3.out.trans (HR3.out.only_set _ _)
      have HW4 : Hid (w4 = w3.setCell ⟨rb, 1, none⟩ (.int .i64 ((i1 : Int) + 1))) := hw4
      have HRR : Hid _ := hr
      clear hw4 hr hx
      go_wp2_with fail
      rw [← HW4.out]
      clear t1 tf
      have hr := HRR.out
      split at hr
      · refine (HD.out w4 v (i1 + 1) L pl HR4.out (by have := HL.out.1; omega) hr).mono ?_
        rintro e w5 ⟨rfl, M, hst⟩
        exact ⟨rfl, rfl, M, ST.comp HO4.out (.inl rfl) hst⟩
      · rename_i k K hk
        split at hr
        · cases hr
        rename_i hclose
        simp only [Option.some.injEq] at hr
        subst hr
        have hcl : isB s 41 k = false := by simpa using hclose
        refine (HC.out w4 v (i1 + 1) L k K HR4.out (by have := HL.out.1; omega) hk).mono ?_
        rintro e w5 ⟨rfl, v5, hr5, ho5, hv5⟩
        have HR5 : Hid (RD base w5 rb s k v5 K) := hr5
        have HS5 : Hid (ST base rb s v w k K w5) := ST.comp HO4.out (.inl rfl) ⟨v5, hr5, ho5, hv5⟩
        clear hr5 ho5 hv5 HRR
        go_wp2_with fail
        refine (take_bad HR5.out 41 HS.out hcl).mono ?_
        rintro e w6 ⟨rfl, hb⟩
        exact ⟨rfl, rfl, K, HS5.out.after HR5.out hb⟩
    · have hx' : seesB s ⟨#[40]⟩ i1 = false := by simpa using hx
      rw [if_neg hx] at hr
      rw [hx']
      split at hr
      · cases hr
      · rename_i hone
        simp only [Option.some.injEq] at hr
        subst hr
        have hcl : isB s 49 i1 = false := by simpa using hone
        clear hx hx'
        go_wp2_with fail
        refine (take_bad HR3.out 49 HS.out hcl).mono ?_
        rintro e w4 ⟨rfl, hb⟩
        exact ⟨rfl, rfl, L, (ST.comp HO3.out (.inl rfl) (ST.start HR3.out)).after HR3.out hb⟩
end Go.Proofs.Ythhlamehbcidgaa
