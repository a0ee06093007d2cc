/- What the document's Print answers is what Print answers. -/
import Derived.Test.YtogcnopmgfpojaaDoorVf
namespace Go.Proofs.YtogcnopmgfpojaaDoor
open Go Go.RowKit
set_option linter.unusedVariables false

theorem runW_runL : ∀ (ts : List Nd) (ws : List Wr), runW ts ws = runL 1000 ts ws
  | [], ws => rfl
  | n :: ts, ws => by
    unfold runW runL
    split
    · rfl
    · exact runW_runL ts _
theorem ba_size (e : Ex) : e.ba.size = e.tx.length := by
  show e.tx.toArray.size = _
  rw [List.size_toArray]
theorem runL_cons {L : Nat} {n : Nd} {rest : List Nd} {ws : List Wr} {b : ByteArray} (hb : textF n ws = b) : runL L ([n] ++ rest) ws = if L < b.size then none else runL L rest (ws.take (ws.length - arity n.1) ++ [(b, tight n.1)]) := by
  simp only [List.singleton_append, runL, hb, pstep]
theorem wl_len (l : List UInt8) (t m : Nat) : l.length ≤ (wl l t m).length := by
  unfold wl
  split
  · simp; omega
  · exact Nat.le_refl _
theorem runL_ex {L : Nat} : ∀ (e : Ex) (rest : List Nd) (ws : List Wr), runL L (e.flat ++ rest) ws = if L < e.tx.length then none else runL L rest (ws ++ [(e.ba, e.lev)])
  | .none, rest, ws => by
    have := runL_cons (L := L) (rest := rest) (ws := ws) (n := (1, 0)) (b := Ex.none.ba) rfl
    rw [ba_size] at this
    simpa [arity, tight, Ex.lev, Ex.flat] using this
  | .empty, rest, ws => by
    have := runL_cons (L := L) (rest := rest) (ws := ws) (n := (2, 0)) (b := Ex.empty.ba) rfl
    rw [ba_size] at this
    simpa [arity, tight, Ex.lev, Ex.flat] using this
  | .any, rest, ws => by
    have := runL_cons (L := L) (rest := rest) (ws := ws) (n := (4, 0)) (b := Ex.any.ba) rfl
    rw [ba_size] at this
    simpa [arity, tight, Ex.lev, Ex.flat] using this
  | .letter s, rest, ws => by
    have := runL_cons (L := L) (rest := rest) (ws := ws) (n := (3, s)) (b := (Ex.letter s).ba) rfl
    rw [ba_size] at this
    simpa [arity, tight, Ex.lev, Ex.flat] using this
  | .star a, rest, ws => by
    have hl : a.tx.length ≤ (Ex.star a).tx.length := by
      have := wl_len a.tx a.lev 5
      simp only [Ex.tx, List.length_append]; omega
    rw [Ex.flat, List.append_assoc, runL_ex a]
    by_cases h : L < a.tx.length
    · rw [if_pos h, if_pos (by omega)]
    · rw [if_neg h, runL_cons (b := (Ex.star a).ba) (by
        show wth (lastW _).1 (lastW _).2 5 ++ _ = _
        rw [lastW_snoc, Ex.ba, wth_ba]
        apply ByteArray.ext
        simp [Ex.ba, Ex.tx, ByteArray.data_append]), ba_size]
      simp [arity, tight, Ex.lev]
  | .not a, rest, ws => by
    have hl : a.tx.length ≤ (Ex.not a).tx.length := by
      have := wl_len a.tx a.lev 4
      simp only [Ex.tx, List.length_cons]; omega
    rw [Ex.flat, List.append_assoc, runL_ex a]
    by_cases h : L < a.tx.length
    · rw [if_pos h, if_pos (by omega)]
    · rw [if_neg h, runL_cons (b := (Ex.not a).ba) (by
        show _ ++ wth (lastW _).1 (lastW _).2 4 = _
        rw [lastW_snoc, Ex.ba, wth_ba]
        apply ByteArray.ext
        simp [Ex.ba, Ex.tx, ByteArray.data_append]), ba_size]
      simp [arity, tight, Ex.lev]
  | .bin o a b, rest, ws => by
    have hl : a.tx.length ≤ (Ex.bin o a b).tx.length := by
      have := wl_len a.tx a.lev o.lev
      simp only [Ex.tx, List.length_append]; omega
    have hl2 : b.tx.length ≤ (Ex.bin o a b).tx.length := by
      have := wl_len b.tx b.lev (o.lev + 1)
      simp only [Ex.tx, List.length_append]; omega
    rw [Ex.flat, List.append_assoc, List.append_assoc, runL_ex a]
    by_cases h : L < a.tx.length
    · rw [if_pos h, if_pos (by omega)]
    rw [if_neg h, runL_ex b]
    by_cases h2 : L < b.tx.length
    · rw [if_pos h2, if_pos (by omega)]
    · rw [if_neg h2, runL_cons (b := (Ex.bin o a b).ba) (by
        cases o
        all_goals
          show pairT (prevW _).1 (lastW _).1 (prevW _).2 (lastW _).2 _ _ = _
          rw [lastW_snoc, prevW_snoc]
          simp only [pairT, Ex.ba, wth_ba]
          apply ByteArray.ext
          simp [Ex.tx, ByteArray.data_append, Bo.lev, Bo.mark]), ba_size]
      cases o
      all_goals simp [arity, tight, Ex.lev, Bo.kind, Bo.lev]
theorem check_ex {k : Int} {ts : List Nd} (hc : checkV k ts = 0) : ∃ e : Ex, e.okk k ∧ e.flat = ts := by
  have hk : ¬ (k < 1 ∨ 8 < k) := by
    intro hk
    rw [checkV, if_pos hk] at hc
    cases hc
  obtain ⟨h4, hf⟩ := wrong_zero (check_zero hc)
  have hfar : ∀ n ∈ ts, farL k n = false := by
    unfold checkV at hc
    rw [if_neg hk] at hc
    split at hc
    · next h1 => exact absurd hc h1
    split at hc
    · cases hc
    split at hc
    · cases hc
    · next h1 =>
      intro n hn
      have h2 : ts.any (farL k) = false := by simpa using h1
      have := List.any_eq_false.1 h2 n hn
      simpa using this
  exact ex_of (k := k) (by omega) _ ts (Nat.le_refl _) hf hfar
theorem rprint_eq (k : Int) (ts : List Nd) : rprintV k ts = printV k ts := by
  unfold rprintV printV
  by_cases hc : checkV k ts = 0
  · rw [if_neg (by simpa using hc), if_neg (by simpa using hc)]
    obtain ⟨e, _, rfl⟩ := check_ex hc
    have h1 := runL_ex (L := 2000) e [] []
    have h2 := runL_ex (L := 1000) e [] []
    rw [List.append_nil] at h1 h2
    rw [runW_runL, h1, h2]
    have hs := ba_size e
    by_cases ha : 1000 < e.tx.length
    · rw [if_pos ha]
      by_cases hb : 2000 < e.tx.length
      · rw [if_pos hb]
      · rw [if_neg hb]
        simp [runL, hs, ha]
    · rw [if_neg ha, if_neg (by omega)]
      simp [runL, hs, ha]
  · rw [if_pos hc, if_pos hc]
end Go.Proofs.YtogcnopmgfpojaaDoor
