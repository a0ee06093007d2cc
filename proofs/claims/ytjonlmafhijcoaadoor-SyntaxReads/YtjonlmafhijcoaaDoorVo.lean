/- What is read is the nodes of an expression over k letters; the document's Parse. -/
import Derived.Test.YtjonlmafhijcoaaDoorVn
namespace Go.Proofs.YtjonlmafhijcoaaDoor
open Go Go.RowKit
set_option linter.unusedVariables false

/-- What waits, with what was read of it. -/
inductive Gr where
  | br | nt
  | bn (o : Bo) (mi : Bool) (a : Ex)
def Gr.wt : Gr → Wt
  | .br => (0, false) | .nt => (9, false) | .bn o mi _ => (o.kind, mi)
def flatG : List Gr → List Nd
  | [] => []
  | .bn _ _ a :: F => flatG F ++ a.flat
  | _ :: F => flatG F
def okG (k : Int) : List Gr → Prop
  | [] => True
  | .bn _ _ a :: F => a.okk k ∧ okG k F
  | _ :: F => okG k F
def waitG (F : List Gr) : List Wt := F.map Gr.wt
theorem settle_g {k : Int} {m : Nat} (hm : 1 ≤ m) : ∀ (F : List Gr) (x : Ex), okG k F → x.okk k → ∃ (F' : List Gr) (x' : Ex), settleR m (flatG F ++ x.flat) (waitG F) = (flatG F' ++ x'.flat, waitG F') ∧ okG k F' ∧ x'.okk k ∧ hdT (waitG F') < m
  | [], x, hF, hx => ⟨[], x, rfl, trivial, hx, hm⟩
  | .br :: F, x, hF, hx => ⟨.br :: F, x, settle_stay (T := (0, false) :: waitG F) hm, hF, hx, hm⟩
  | .nt :: F, x, hF, hx => by
    by_cases ht : 4 < m
    · exact ⟨.nt :: F, x, settle_stay (T := (9, false) :: waitG F) ht, hF, hx, ht⟩
    · obtain ⟨F', x', e, r⟩ := settle_g hm F (.not x) hF hx
      refine ⟨F', x', ?_, r⟩
      rw [← e]
      show settleR m (flatG F ++ x.flat) ((9, false) :: waitG F) = _
      rw [settle_pop (show m ≤ 4 by omega), List.append_assoc]
      rfl
  | .bn o mi y :: F, x, hF, hx => by
    have hk := o.tight_kind
    by_cases ht : o.lev < m
    · have ht' : hdT ((o.kind, mi) :: waitG F) < m := by show tight o.kind < m; omega
      exact ⟨.bn o mi y :: F, x, settle_stay (T := (o.kind, mi) :: waitG F) ht', hF, hx, ht'⟩
    · cases mi with
      | false =>
        obtain ⟨F', x', e, r⟩ := settle_g hm F (.bin o y x) hF.2 ⟨hF.1, hx⟩
        refine ⟨F', x', ?_, r⟩
        rw [← e]
        show settleR m (flatG F ++ y.flat ++ x.flat) ((o.kind, false) :: waitG F) = _
        rw [settle_pop (by rw [hk]; omega)]
        simp only [Ex.flat, List.append_assoc]
      | true =>
        obtain ⟨F', x', e, r⟩ := settle_g hm F (.bin o y (.not x)) hF.2 ⟨hF.1, hx⟩
        refine ⟨F', x', ?_, r⟩
        rw [← e]
        show settleR m (flatG F ++ y.flat ++ x.flat) ((o.kind, true) :: waitG F) = _
        rw [settleR, if_neg (by show ¬ tight o.kind < m; omega)]
        simp [Ex.flat, List.append_assoc]
def Wf (k : Int) : St → Prop
  | (true, ns, T) => ∃ F, okG k F ∧ ns = flatG F ∧ T = waitG F
  | (false, ns, T) => ∃ (F : List Gr) (x : Ex), okG k F ∧ x.okk k ∧ ns = flatG F ++ x.flat ∧ T = waitG F
theorem wf_begin {k sg : Int} {ns : List Nd} {T : List Wt} {s : St} (h : Wf k (true, ns, T)) (hb : beginS k sg ns T = some s) : Wf k s := by
  obtain ⟨F, hc, rfl, rfl⟩ := h
  have leaf : ∀ x : Ex, x.okk k → Wf k (false, flatG F ++ x.flat, waitG F) := fun x hx => ⟨F, x, hc, hx, rfl, rfl⟩
  unfold beginS at hb
  split at hb
  · cases hb; exact ⟨.br :: F, hc, rfl, rfl⟩
  split at hb
  · cases hb; exact ⟨.nt :: F, hc, rfl, rfl⟩
  split at hb
  · cases hb; exact leaf .none trivial
  split at hb
  · cases hb; exact leaf .empty trivial
  split at hb
  · cases hb; exact leaf .any trivial
  split at hb
  · next h => cases hb; exact leaf (.letter sg) h
  · cases hb
theorem wf_join {k : Int} {ns : List Nd} {T : List Wt} (h : Wf k (false, ns, T)) (o : Bo) (mi : Bool) (j : Nat) (hj : (j : Int) = o.kind) (ht : tight j = o.lev) : Wf k (joinS j mi ns T) := by
  obtain ⟨F, x, hc, hx, rfl, rfl⟩ := h
  obtain ⟨F', x', e, hc', hx', hd⟩ := settle_g (m := o.lev) o.lev_pos F x hc hx
  refine ⟨.bn o mi x' :: F', ⟨hx', hc'⟩, ?_, ?_⟩
  · rw [ht, e]; rfl
  · rw [ht, e, hj]; rfl
theorem wf_follow {k sg : Int} {ns : List Nd} {T : List Wt} {s : St} (h : Wf k (false, ns, T)) (hb : followS k sg ns T = some s) : Wf k s := by
  have hj := wf_join h
  unfold followS at hb
  split at hb
  · cases hb
    obtain ⟨F, x, hc, hx, rfl, rfl⟩ := h
    exact ⟨F, .bin .un x .empty, hc, ⟨hx, trivial⟩, by simp [Ex.flat, Bo.kind, List.append_assoc], rfl⟩
  split at hb
  · cases hb
    obtain ⟨F, x, hc, hx, rfl, rfl⟩ := h
    exact ⟨F, .star x, hc, hx, List.append_assoc _ _ _, rfl⟩
  split at hb
  · cases hb; exact hj .it true 6 rfl rfl
  split at hb
  · cases hb; exact hj .it false 6 rfl rfl
  split at hb
  · cases hb; exact hj .un false 5 rfl rfl
  split at hb
  · obtain ⟨F, x, hc, hx, rfl, rfl⟩ := h
    obtain ⟨F', x', e, hc', hx', hd⟩ := settle_g (m := 1) (Nat.le_refl _) F x hc hx
    rw [e] at hb
    cases F' with
    | nil => simp [waitG] at hb
    | cons f F' =>
      cases f with
      | br =>
        simp [waitG] at hb
        cases hb
        exact ⟨F', x', hc', hx', rfl, rfl⟩
      | nt => exact absurd hd (show ¬ (4 : Nat) < 1 by decide)
      | bn o' mi' a =>
        have hd : tight o'.kind < 1 := hd
        rw [o'.tight_kind] at hd
        have := o'.lev_pos
        omega
  · exact wf_begin (hj .cc false 7 rfl rfl) hb
theorem wf_run {k : Int} : ∀ (l : List UInt8) (pos : Nat) (s s' : St), Wf k s → runP k l pos s = .inr s' → Wf k s'
  | [], pos, s, s', h, hr => by cases hr; exact h
  | c :: l, pos, s, s', h, hr => by
    rw [runP] at hr
    split at hr
    · exact wf_run l _ s s' h hr
    · cases hs : stepS k c.toNat s with
      | none => rw [hs] at hr; cases hr
      | some s1 =>
        rw [hs] at hr
        refine wf_run l _ s1 s' ?_ hr
        match s, h, hs with
        | (true, ns, T), h, hs => exact wf_begin h hs
        | (false, ns, T), h, hs => exact wf_follow h hs
theorem parse_ex {k : Int} {tx : ByteArray} {ns : List Nd} (h : parseS k tx = .inr ns) : ∃ e : Ex, e.okk k ∧ e.flat = ns := by
  unfold parseS at h
  cases hr : runP k tx.data.toList 0 (true, [], []) with
  | inl p => rw [hr] at h; cases h
  | inr s =>
    rw [hr] at h
    have ho := wf_run _ 0 _ s (show Wf k (true, [], []) from ⟨[], trivial, rfl, rfl⟩) hr
    match s, ho, h with
    | (true, ms, T), ho, h => simp [endS] at h
    | (false, ms, T), ho, h =>
      obtain ⟨F, x, hc, hx, rfl, rfl⟩ := ho
      obtain ⟨F', x', e, hc', hx', hd⟩ := settle_g (m := 1) (Nat.le_refl _) F x hc hx
      simp only [endS, e] at h
      rw [if_neg (by simp)] at h
      split at h
      · next hE =>
        have hF : F' = [] := by
          cases F' with
          | nil => rfl
          | cons f F' => simp [waitG] at hE
        subst hF
        exact ⟨x', hx', by simpa [flatG] using h⟩
      · cases h
theorem good_letter {k s : Int} (hk : k ≤ 8) (h : 97 ≤ s ∧ s < 97 + k) : good (3, s) = true := by
  show isLet s = true
  unfold isLet
  rw [decide_eq_true]
  omega
theorem ex_free {k : Int} (hk : k ≤ 8) : ∀ e : Ex, e.okk k → freeN e.flat = some 1
  | .none, h => rfl
  | .empty, h => rfl
  | .any, h => rfl
  | .letter s, h => by
    have := good_letter hk h
    simp [Ex.flat, freeN, frees, this, arity]
  | .star a, h => by
    rw [Ex.flat, freeN_snoc, ex_free hk a h]
    rfl
  | .not a, h => by
    rw [Ex.flat, freeN_snoc, ex_free hk a h]
    rfl
  | .bin o a b, h => by
    rw [Ex.flat, freeN_snoc, freeN, frees_append, show frees a.flat (some 0) = some 1 from ex_free hk a h.1, frees_over _ 1 (ex_free hk b h.2) 1]
    cases o <;> rfl
theorem ex_far {k : Int} : ∀ e : Ex, e.okk k → ∀ n ∈ e.flat, farL k n = false
  | .none, h, n, hn => by simp [Ex.flat] at hn; subst hn; rfl
  | .empty, h, n, hn => by simp [Ex.flat] at hn; subst hn; rfl
  | .any, h, n, hn => by simp [Ex.flat] at hn; subst hn; rfl
  | .letter s, h, n, hn => by
    simp [Ex.flat] at hn
    subst hn
    have h' : 97 ≤ s ∧ s < 97 + k := h
    unfold farL
    rw [decide_eq_false]
    simp only
    omega
  | .star a, h, n, hn => by
    simp [Ex.flat] at hn
    rcases hn with hn | rfl
    · exact ex_far a h n hn
    · rfl
  | .not a, h, n, hn => by
    simp [Ex.flat] at hn
    rcases hn with hn | rfl
    · exact ex_far a h n hn
    · rfl
  | .bin o a b, h, n, hn => by
    simp [Ex.flat] at hn
    rcases hn with hn | hn | rfl
    · exact ex_far a h.1 n hn
    · exact ex_far b h.2 n hn
    · cases o <;> rfl
theorem check_read {k : Int} (hk : 1 ≤ k ∧ k ≤ 8) {tx : ByteArray} {ns : List Nd} (h : parseS k tx = .inr ns) (hl : ns.length ≤ 4000) : wrong ns = 0 ∧ checkV k ns = if 128 < (heavyN (fun _ => 1) ns).getD 0 0 then 31 else 0 := by
  obtain ⟨e, he, rfl⟩ := parse_ex h
  have hw : wrong e.flat = 0 := by
    unfold wrong
    rw [if_neg (by omega), if_pos (ex_free hk.2 e he)]
  refine ⟨hw, ?_⟩
  unfold checkV
  rw [if_neg (by omega), if_neg (by rw [hw]; simp)]
  split
  · rfl
  · rw [if_neg]
    have : e.flat.any (farL k) = false := List.any_eq_false.2 (fun n hn => by rw [ex_far e he n hn]; simp)
    rw [this]
    simp
end Go.Proofs.YtjonlmafhijcoaaDoor
