/- syntax.Parse at every input; with more letters the same tree is read (pure). -/
import Derived.Test.YtjonlmafhijcoaaDoorSm
namespace Go.Proofs.YtjonlmafhijcoaaDoor
open Go Go.RowKit
set_option linter.unusedVariables false

theorem begin_more {k sg : Int} {ns : List Nd} {T : List Wt} {x : St} (h : beginS k sg ns T = some x) : beginS (k + 1) sg ns T = some x := by
  unfold beginS at h ⊢
  split
  · next h1 => rwa [if_pos h1] at h
  next h1 =>
  rw [if_neg h1] at h
  split
  · next h1 => rwa [if_pos h1] at h
  next h2 =>
  rw [if_neg h2] at h
  split
  · next h1 => rwa [if_pos h1] at h
  next h3 =>
  rw [if_neg h3] at h
  split
  · next h1 => rwa [if_pos h1] at h
  next h4 =>
  rw [if_neg h4] at h
  split
  · next h1 => rwa [if_pos h1] at h
  next h5 =>
  rw [if_neg h5] at h
  by_cases h6 : 97 ≤ sg ∧ sg < 97 + k
  · rw [if_pos h6] at h
    rw [if_pos (by omega)]; exact h
  · rw [if_neg h6] at h; cases h
theorem follow_more {k sg : Int} {ns : List Nd} {T : List Wt} {x : St} (h : followS k sg ns T = some x) : followS (k + 1) sg ns T = some x := by
  unfold followS at h ⊢
  by_cases h1 : sg = 63
  · rwa [if_pos h1] at h ⊢
  rw [if_neg h1] at h ⊢
  by_cases h2 : sg = 42
  · rwa [if_pos h2] at h ⊢
  rw [if_neg h2] at h ⊢
  by_cases h3 : sg = 45
  · rwa [if_pos h3] at h ⊢
  rw [if_neg h3] at h ⊢
  by_cases h4 : sg = 38
  · rwa [if_pos h4] at h ⊢
  rw [if_neg h4] at h ⊢
  by_cases h5 : sg = 124
  · rwa [if_pos h5] at h ⊢
  rw [if_neg h5] at h ⊢
  by_cases h6 : sg = 41
  · rwa [if_pos h6] at h ⊢
  rw [if_neg h6] at h ⊢
  exact begin_more h
theorem step_more {k sg : Int} {s x : St} (h : stepS k sg s = some x) : stepS (k + 1) sg s = some x := by
  unfold stepS at h ⊢
  split
  · next h1 => rw [if_pos h1] at h; exact begin_more h
  · next h1 => rw [if_neg h1] at h; exact follow_more h
theorem run_more {k : Int} : ∀ (l : List UInt8) (pos : Nat) (s x : St), runP k l pos s = .inr x → runP (k + 1) l pos s = .inr x
  | [], pos, s, x, h => h
  | b :: l, pos, s, x, h => by
    simp only [runP] at h ⊢
    by_cases h1 : b.toNat = 32
    · rw [if_pos h1] at h ⊢
      exact run_more l _ _ _ h
    · rw [if_neg h1] at h ⊢
      cases hs : stepS k b.toNat s with
      | none => rw [hs] at h; cases h
      | some s' =>
        rw [hs] at h
        rw [step_more hs]
        exact run_more l _ _ _ h
theorem parse_more {k : Int} {tx : ByteArray} {ns : List Nd} (h : parseS k tx = .inr ns) : parseS (k + 1) tx = .inr ns := by
  unfold parseS at h ⊢
  cases hr : runP k tx.data.toList 0 (true, [], []) with
  | inl p => rw [hr] at h; cases h
  | inr s => rw [hr] at h; rw [run_more _ _ _ _ hr]; exact h
theorem check_more {k : Int} {ns : List Nd} (hk : 1 ≤ k ∧ k < 8) (h : checkV k ns = 0) : checkV (k + 1) ns = 0 := by
  unfold checkV at h ⊢
  rw [if_neg (by omega)] at h ⊢
  by_cases h1 : wrong ns ≠ 0
  · rw [if_pos h1] at h; exact absurd h h1
  rw [if_neg h1] at h ⊢
  by_cases h2 : 128 < (heavyN (fun _ => 1) ns).getD 0 0
  · rw [if_pos h2] at h; cases h
  rw [if_neg h2] at h ⊢
  by_cases h3 : ns.any (farL k) = true
  · rw [if_pos h3] at h; cases h
  · rw [if_neg]
    intro h4
    apply h3
    rw [List.any_eq_true] at h4 ⊢
    obtain ⟨n, hn, hf⟩ := h4
    refine ⟨n, hn, ?_⟩
    simp only [farL, decide_eq_true_eq] at hf ⊢
    omega
theorem check_ne {k : Int} {ns : List Nd} (hk : 1 ≤ k ∧ k ≤ 8) : checkV k ns ≠ 20 := by
  unfold checkV wrong
  rw [if_neg (by omega)]
  repeat' split
  all_goals first | decide | (intro h; omega)
/-- What Parse answers: the error's number, and the nodes. -/
def pcode (k : Int) (tx : ByteArray) : Int × List Nd :=
  if k < 1 ∨ 8 < k then (20, []) else if 1000 < tx.size then (40, []) else match parseS k tx with
    | .inl _ => (41, [])
    | .inr ns => if checkV k ns = 0 then (0, ns) else (checkV k ns, [])
theorem pcode_more {k : Int} {tx : ByteArray} (hk : 1 ≤ k ∧ k < 8) (h : (pcode k tx).1 = 0) : pcode (k + 1) tx = pcode k tx := by
  unfold pcode at h ⊢
  rw [if_neg (by omega)] at h
  rw [if_neg (by omega), if_neg (show ¬ (k < 1 ∨ 8 < k) by omega)]
  by_cases hs : 1000 < tx.size
  · rw [if_pos hs] at h; cases h
  rw [if_neg hs] at h
  rw [if_neg hs, if_neg hs]
  cases hp : parseS k tx with
  | inl p => rw [hp] at h; cases h
  | inr ns =>
    rw [hp] at h
    rw [parse_more hp]
    by_cases hc : checkV k ns = 0
    · simp only [hc, check_more hk hc, if_true]
    · simp only [if_neg hc] at h; exact absurd h hc
def PP (k : Int) (tx : ByteArray) (w : World) (e : Ending) (w' : World) : Prop := ∃ u p, e = .returned (.tuple #[u, .int .i64 p, .int .i64 (pcode k tx).1]) ∧ w'.ownsRow w.heap.size 56 2 u (pcode k tx).2.length (ndC (pcode k tx).2) ∧ Below w.heap.size w w'

set_option maxHeartbeats 4000000 in
set_option maxRecDepth 100000 in
theorem parse_full (k : Int) (tx : ByteArray) (hx : tx.size ≤ 9223372036854775807) (w : World) (hT : TTab w) (hP : PTab w) :
    Calls Tryd.prog 9 #[.int .i64 k, .string tx] w fun e w' => PP k tx w e w' := by
  by_cases hk : k < 1 ∨ 8 < k
  · have HE : Hid (pcode k tx = (20, [])) := by show _ = _; rw [pcode, if_pos hk]
    rcases hk with hk | hk
    · go_enter Tryd.func9, Tryd.ntmps9
      go_wp2_with fail
      go_ret3
      exact ⟨.slice none 0 0, 0, by rw [HE.out]; rfl, by rw [HE.out]; exact World.ownsRow_nil _ _ _ _, Below.refl _ _⟩
    · have hk1 : ¬ k < 1 := by omega
      go_enter Tryd.func9, Tryd.ntmps9
      go_wp2_with fail
      go_ret3
      exact ⟨.slice none 0 0, 0, by rw [HE.out]; rfl, by rw [HE.out]; exact World.ownsRow_nil _ _ _ _, Below.refl _ _⟩
  · by_cases hs : 1000 < tx.size
    · have HE : Hid (pcode k tx = (40, [])) := by show _ = _; rw [pcode, if_neg hk, if_pos hs]
      have hk1 : ¬ k < 1 := by omega
      have hk8 : ¬ 8 < k := by omega
      have hsI : (1000 : Int) < tx.size := by omega
      clear hk
      go_enter Tryd.func9, Tryd.ntmps9
      go_wp2_with fail
      go_ret3
      exact ⟨.slice none 0 0, 0, by rw [HE.out]; rfl, by rw [HE.out]; exact World.ownsRow_nil _ _ _ _, Below.refl _ _⟩
    · refine (parse_any (tx := tx) k (by omega) w (by omega) hT hP).mono ?_
      rintro e w' ⟨h, hb⟩
      unfold ParseEnd at h
      unfold PP
      rw [pcode, if_neg hk, if_neg hs]
      cases hp : parseS k tx with
      | inl p =>
        rw [hp] at h
        exact ⟨_, _, h, World.ownsRow_nil _ _ _ _, hb⟩
      | inr ns =>
        rw [hp] at h
        simp only at h ⊢
        by_cases hc : checkV k ns = 0
        · rw [if_pos hc] at h ⊢
          obtain ⟨u, he, ho⟩ := h
          exact ⟨u, _, he, ho, hb⟩
        · rw [if_neg hc] at h ⊢
          exact ⟨_, _, h, World.ownsRow_nil _ _ _ _, hb⟩
theorem pcode_len (k : Int) (tx : ByteArray) : (pcode k tx).2.length ≤ 4000 := by
  unfold pcode
  split
  · simp
  split
  · simp
  split
  · simp
  split
  · next h => exact (wrong_zero (check_zero h)).1
  · simp
theorem pcode_out {k : Int} {tx : ByteArray} (hk : ¬ (1 ≤ k ∧ k < 8)) : (pcode k tx).1 = 20 ↔ k ≠ 8 := by
  unfold pcode
  by_cases h8 : k = 8
  · subst h8
    rw [if_neg (by omega)]
    constructor
    · intro h
      exfalso
      split at h
      · cases h
      split at h
      · cases h
      split at h
      · cases h
      · exact check_ne (k := 8) (by decide) h
    · intro h; exact absurd rfl h
  · rw [if_pos (by omega)]
    exact ⟨fun _ => h8, fun _ => rfl⟩
end Go.Proofs.YtjonlmafhijcoaaDoor
