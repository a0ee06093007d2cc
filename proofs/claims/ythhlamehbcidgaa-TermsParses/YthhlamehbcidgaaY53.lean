/- Parse's answer as one value; what is read are sides. -/
import Derived.Test.YthhlamehbcidgaaY52
import Derived.Test.YthhlamehbcidgaaY32
namespace Go.Proofs.Ythhlamehbcidgaa
open Go Go.RowKit Go.Lib
set_option linter.unusedVariables false

/-- Its variables are some. -/
def Tm.gd : Tm → Prop
  | .one => True
  | .var c => 0 ≤ plI c
  | .om t => t.gd
  | .mul a b => a.gd ∧ b.gd
theorem tm_run : ∀ (t : Tm) (q : Int), t.gd → 0 ≤ q → runS q (intS t.sg) = some (q + 1)
  | .one, q, _, hq => by
    show runS q [((1 : Int), 0)] = _
    rw [runS_some ⟨rfl, by show 0 ≤ q; exact hq⟩]
    show some (q + 1 - 0) = _
    rw [Int.sub_zero]
  | .var c, q, h, hq => by
    show runS q [((2 : Int), c)] = _
    rw [runS_some ⟨by unfold gdS; rw [if_pos rfl]; exact decide_eq_true h, by show 0 ≤ q; exact hq⟩]
    show some (q + 1 - 0) = _
    rw [Int.sub_zero]
  | .om t, q, h, hq => by
    show runS q (intS (t.sg ++ [(4, 0)])) = _
    rw [intS_app, runS_append, tm_run t q h hq]
    show runS (q + 1) [((4 : Int), 0)] = _
    rw [runS_some ⟨rfl, by show 1 ≤ q + 1; omega⟩]
    show some (q + 1 + 1 - 1) = _
    congr 1
    omega
  | .mul a b, q, h, hq => by
    show runS q (intS ((a.sg ++ b.sg) ++ [(3, 0)])) = _
    rw [intS_app, intS_app, runS_append, runS_append, tm_run a q h.1 hq]
    show (runS (q + 1) (intS b.sg)).bind _ = _
    rw [tm_run b (q + 1) h.2 (by omega)]
    show runS (q + 1 + 1) [((3 : Int), 0)] = _
    rw [runS_some ⟨rfl, by show 2 ≤ q + 1 + 1; omega⟩]
    show some (q + 1 + 1 + 1 - 2) = _
    congr 1
    omega
theorem tm_side {t : Tm} (h : t.gd) : sideB (intS t.sg) = true := by
  unfold sideB
  rw [tm_run t 0 h (Int.le_refl 0)]
  rfl
def TmP (P : Nat → Sg → Option (Nat × Sg)) : Prop := ∀ i j M, P i [] = some (j, M) → ∃ t : Tm, M = t.sg ∧ t.gd
theorem om_tm {s : ByteArray} : ∀ (n j : Nat) (t : Tm) (k : Nat) (M : Sg), t.gd → omP s n j t.sg = some (k, M) → ∃ u : Tm, M = u.sg ∧ u.gd
  | 0, j, t, k, M, _, h => by simp [omP] at h
  | n + 1, j, t, k, M, hg, h => by
    rw [omP] at h
    split at h
    · split at h
      · exact om_tm n _ (.om t) k M hg h
      · cases h
    · simp only [Option.some.injEq, Prod.mk.injEq] at h
      obtain ⟨_, rfl⟩ := h
      exact ⟨t, rfl, hg⟩
theorem seesB_plI {s : ByteArray} {i : Nat} (h : seesB s bXYZ i = true) : 0 ≤ plI (byteN s i) := by
  have hl := seesB_le h
  rw [sees_at hl] at h
  have := xyz_all ⟨_, UInt8.toNat_lt s[i]⟩
  rw [this] at h
  rw [byteN_at hl]
  exact of_decide_eq_true h
theorem atom_tm {s : ByteArray} {P : Nat → Sg → Option (Nat × Sg)} (hP : TmP P) : TmP (atomP s P) := fun i j M h => by
  unfold atomP at h
  split at h
  · rename_i h1
    simp only [Option.some.injEq, Prod.mk.injEq] at h
    obtain ⟨_, rfl⟩ := h
    exact ⟨.var _, rfl, seesB_plI h1⟩
  · split at h
    · split at h
      · cases h
      · rename_i k K hk
        split at h
        · simp only [Option.some.injEq, Prod.mk.injEq] at h
          obtain ⟨_, rfl⟩ := h
          exact hP _ _ _ hk
        · cases h
    · split at h
      · simp only [Option.some.injEq, Prod.mk.injEq] at h
        obtain ⟨_, rfl⟩ := h
        exact ⟨.one, rfl, trivial⟩
      · cases h
theorem pow_tm {s : ByteArray} {P : Nat → Sg → Option (Nat × Sg)} (hP : TmP P) : TmP (powP s P) := fun i j M h => by
  unfold powP at h
  split at h
  · cases h
  · rename_i k K hk
    obtain ⟨t, rfl, hg⟩ := atom_tm hP _ _ _ hk
    exact om_tm _ _ t _ _ hg h
theorem lp_tm {s : ByteArray} {P : Nat → Sg → Option (Nat × Sg)} (hA : AppP P) (hP : TmP P) : ∀ (n j : Nat) (t : Tm) (k : Nat) (M : Sg), t.gd → lpP s P n j t.sg = some (k, M) → ∃ u : Tm, M = u.sg ∧ u.gd
  | 0, j, t, k, M, _, h => by simp [lpP] at h
  | n + 1, j, t, k, M, hg, h => by
    rw [lpP] at h
    split at h
    · rw [pow_app hA j t.sg] at h
      cases hq : powP s P j [] with
      | none => rw [hq] at h; cases h
      | some q =>
        obtain ⟨k1, K⟩ := q
        obtain ⟨u, rfl, hu⟩ := pow_tm hP _ _ _ hq
        rw [hq] at h
        exact lp_tm hA hP n k1 (.mul t u) k M ⟨hg, hu⟩ h
    · simp only [Option.some.injEq, Prod.mk.injEq] at h
      obtain ⟨_, rfl⟩ := h
      exact ⟨t, rfl, hg⟩
theorem pws_tm {s : ByteArray} : ∀ f, TmP (pwsP s f)
  | 0, i, j, M, h => by simp [pwsP] at h
  | f + 1, i, j, M, h => by
    rw [pwsP] at h
    split at h
    · cases h
    · rename_i q k K hq
      obtain ⟨t, rfl, hg⟩ := pow_tm (pws_tm f) _ _ _ hq
      exact lp_tm (pws_app f) (pws_tm f) _ _ t _ _ hg h
theorem id_sides {s : ByteArray} {L R : Sg} {x : Bool} (h : idP s = some (L, R, x)) : sideB (intS L) = true ∧ sideB (intS R) = true := by
  unfold idP at h
  split at h
  · cases h
  · rename_i j K hK
    dsimp only at h
    generalize (if seesB s ⟨#[60]⟩ j = true then j + 1 else j) = j1 at h
    split at h
    · split at h
      · cases h
      · rename_i k Q hQ
        split at h
        · simp only [Option.some.injEq, Prod.mk.injEq] at h
          obtain ⟨rfl, rfl, _⟩ := h
          obtain ⟨t, rfl, ht⟩ := pws_tm _ _ _ _ hK
          obtain ⟨u, rfl, hu⟩ := pws_tm _ _ _ _ hQ
          exact ⟨tm_side ht, tm_side hu⟩
        · cases h
    · cases h
/-- What Parse tells of a text: the sides, is it an order, the place, the error. -/
def prS (s : ByteArray) : Sg × Sg × Bool × Nat × Int :=
  if 1000 < s.size then ([], [], false, 0, 40) else match idP s with
  | some (L, R, x) => if 400 < L.length ∨ 400 < R.length then ([], [], false, 0, 6) else (L, R, x, 0, 0)
  | none => ([], [], false, (match idE s with
    | some pl => pl
    | none => 0), 41)
def PrQ (s : ByteArray) (w : World) (e : Ending) (w' : World) : Prop := ∃ vl vr, e = .returned (.tuple #[.agg #[vl, vr, .bool (prS s).2.2.1], .int .i64 ((prS s).2.2.2.1 : Nat), .int .i64 (prS s).2.2.2.2]) ∧ w'.ownsRow w.heap.size 81 2 vl (prS s).1.length (sgC (prS s).1) ∧ w'.ownsRow w.heap.size 81 2 vr (prS s).2.1.length (sgC (prS s).2.1) ∧ Below w.heap.size w w'
theorem pb_pr {s : ByteArray} {pl : Nat} {er : Int} {w : World} {e : Ending} {w' : World} (h : PbQ pl er w e w') (hp : prS s = ([], [], false, pl, er)) : PrQ s w e w' := by
  unfold PrQ
  rw [hp]
  exact ⟨.slice none 0 0, .slice none 0 0, h.1, World.ownsRow_nil _ _ _ _, World.ownsRow_nil _ _ _ _, h.2⟩
theorem parse_pr (s : ByteArray) (w : World) : Calls Try.prog 8 #[.string s] w (PrQ s w) := by
  by_cases hs : s.size ≤ 1000
  · have hn : ¬ 1000 < s.size := by omega
    cases hi : idP s with
    | none =>
      obtain ⟨pl, hpl⟩ := id_E hi
      exact (parse_bad hs hpl w).mono fun e w' h => pb_pr h (by unfold prS; rw [if_neg hn, hi, hpl])
    | some q =>
      obtain ⟨L, R, x⟩ := q
      obtain ⟨b1, b2, b3, b4⟩ := id_byt hi
      obtain ⟨s1, s2⟩ := id_sides hi
      have hll : (intS L).length ≤ 9223372036854775807 ∧ (intS R).length ≤ 9223372036854775807 := by simp [intS]; omega
      by_cases h4 : 400 < L.length ∨ 400 < R.length
      · have hc : ck2 (intS L) (intS R) = 6 := by unfold ck2; rw [if_pos (by rw [intS_len, intS_len]; exact h4)]
        exact (parse_size hs hi b1 b2 hll hc (by decide) w).mono fun e w' h => pb_pr (pl := 0) h (by unfold prS; rw [if_neg hn, hi]; simp only; rw [if_pos h4])
      · have hc : ck2 (intS L) (intS R) = 0 := by unfold ck2; rw [if_neg (by rw [intS_len, intS_len]; exact h4), if_pos ⟨s1, s2⟩]
        refine (parse_ok hs hi b1 b2 hc w).mono fun e w' h => ?_
        have hp : prS s = (L, R, x, 0, 0) := by unfold prS; rw [if_neg hn, hi]; simp only; rw [if_neg h4]
        obtain ⟨vl, vr, h1, h2, h3, h5, _⟩ := h
        unfold PrQ
        rw [hp]
        exact ⟨vl, vr, h1, h2, h3, h5⟩
  · exact (parse_long (by omega) w).mono fun e w' h => pb_pr (pl := 0) h (by unfold prS; rw [if_pos (by omega)])
theorem pr_byt (s : ByteArray) : (∀ p ∈ (prS s).1, p.2 < 256) ∧ (∀ p ∈ (prS s).2.1, p.2 < 256) ∧ (prS s).1.length ≤ 400 ∧ (prS s).2.1.length ≤ 400 := by
  have nil : (∀ p ∈ ([] : Sg), p.2 < 256) ∧ (∀ p ∈ ([] : Sg), p.2 < 256) ∧ ([] : Sg).length ≤ 400 ∧ ([] : Sg).length ≤ 400 := ⟨fun p hp => by simp at hp, fun p hp => by simp at hp, Nat.zero_le _, Nat.zero_le _⟩
  unfold prS
  split
  · exact nil
  · split
    · rename_i L R x hi
      obtain ⟨b1, b2, b3, b4⟩ := id_byt hi
      split
      · exact nil
      · rename_i h
        exact ⟨b1, b2, by show L.length ≤ 400; omega, by show R.length ≤ 400; omega⟩
    · exact nil
end Go.Proofs.Ythhlamehbcidgaa
