/- What is printed is read as it was. -/
import Derived.Test.YtjonlmafhijcoaaDoorVb
namespace Go.Proofs.YtjonlmafhijcoaaDoor
open Go Go.RowKit
set_option linter.unusedVariables false

/-- How tightly the last one that waits holds. -/
def hdT : List Wt → Nat
  | [] => 0
  | p :: _ => tight p.1
theorem settle_stay {m : Nat} {ns : List Nd} : ∀ {T : List Wt}, hdT T < m → settleR m ns T = (ns, T)
  | [], h => rfl
  | p :: T, h => by unfold settleR; rw [if_pos (show tight p.1 < m from h)]
theorem settle_pop {m : Nat} {ns : List Nd} {T : List Wt} {kd : Int} (h : m ≤ tight kd) : settleR m ns ((kd, false) :: T) = settleR m (ns ++ [(kd, 0)]) T := by
  rw [settleR, if_neg (by show ¬ tight kd < m; omega)]
  simp
/-- One sign. -/
theorem run_sign {k : Int} {c : UInt8} {l : List UInt8} {pos : Nat} {s s' : St} (h32 : c.toNat ≠ 32) (h : stepS k c.toNat s = some s') : runP k (c :: l) pos s = runP k l (pos + 1) s' := by
  rw [runP, if_neg h32, h]
/-- A part's first sign. -/
abbrev Starts (c : UInt8) : Prop := c.toNat ≠ 63 ∧ c.toNat ≠ 42 ∧ c.toNat ≠ 45 ∧ c.toNat ≠ 38 ∧ c.toNat ≠ 124 ∧ c.toNat ≠ 41 ∧ c.toNat ≠ 32
theorem starts_joins {k : Int} {c : UInt8} (h : Starts c) (l : List UInt8) (pos : Nat) (ns : List Nd) (T : List Wt) : runP k (c :: l) pos (false, ns, T) = runP k (c :: l) pos (joinS 7 false ns T) := by
  obtain ⟨h1, h2, h3, h4, h5, h6, h7⟩ := h
  have e : stepS k c.toNat (false, ns, T) = stepS k c.toNat (joinS 7 false ns T) := by
    unfold stepS
    rw [if_neg (by simp), if_pos (show (joinS 7 false ns T).1 = true from rfl)]
    simp only [followS]
    rw [if_neg (by omega), if_neg (by omega), if_neg (by omega), if_neg (by omega), if_neg (by omega), if_neg (by omega)]
  rw [runP, if_neg h7, runP, if_neg h7, e]
theorem letter_nat {k s : Int} (hk : k ≤ 8) (h : 97 ≤ s ∧ s < 97 + k) : (UInt8.ofNat s.toNat).toNat = s.toNat := by
  rw [UInt8.toNat_ofNat']
  omega
theorem tx_starts {k : Int} (hk : k ≤ 8) : ∀ (e : Ex), e.okk k → ∃ c l, e.tx = c :: l ∧ Starts c
  | .none, h => ⟨_, _, rfl, by decide⟩
  | .empty, h => ⟨_, _, rfl, by decide⟩
  | .any, h => ⟨_, _, rfl, by decide⟩
  | .letter s, h => ⟨_, _, rfl, by
    have := letter_nat hk h
    have h' : 97 ≤ s ∧ s < 97 + k := h
    unfold Starts
    rw [this]
    omega⟩
  | .star a, h => by
    obtain ⟨c, l, e, hs⟩ := tx_starts hk a h
    unfold Ex.tx wl
    split
    · exact ⟨_, _, rfl, by decide⟩
    · rw [e]; exact ⟨_, _, rfl, hs⟩
  | .not a, h => ⟨_, _, rfl, by decide⟩
  | .bin o a b, h => by
    obtain ⟨c, l, e, hs⟩ := tx_starts hk a h.1
    unfold Ex.tx wl
    split
    · exact ⟨_, _, rfl, by decide⟩
    · rw [e]; exact ⟨_, _, rfl, hs⟩
theorem wl_starts {k : Int} (hk : k ≤ 8) (e : Ex) (h : e.okk k) (m : Nat) : ∃ c l, wl e.tx e.lev m = c :: l ∧ Starts c := by
  obtain ⟨c, l, h1, h2⟩ := tx_starts hk e h
  unfold wl
  split
  · exact ⟨_, _, rfl, by decide⟩
  · exact ⟨c, l, h1, h2⟩
/-- From a state where a part is due, over a text, to a state that settles as the nodes do. -/
def Leads (k : Int) (x : List UInt8) (fl : List Nd) (m0 : Nat) (ns : List Nd) (T : List Wt) : Prop :=
  ∃ ns1 T1, (∀ l pos, runP k (x ++ l) pos (true, ns, T) = runP k l (pos + x.length) (false, ns1, T1)) ∧ (∀ m, m ≤ 4 → m ≤ m0 → settleR m ns1 T1 = settleR m (ns ++ fl) T) ∧ (m0 = 5 → ns1 = ns ++ fl ∧ T1 = T)
theorem leads_wl {k : Int} {e : Ex} (ih : ∀ ns T, (e.lev ≤ 3 → hdT T < e.lev) → Leads k e.tx e.flat e.lev ns T) (least : Nat) (hl : least ≤ 5) (ns : List Nd) (T : List Wt) (h : least ≤ 3 → hdT T < least) : Leads k (wl e.tx e.lev least) e.flat least ns T := by
  by_cases hc : e.lev < least
  · obtain ⟨ns1, T1, hr, hs, _⟩ := ih ns ((0, false) :: T) (fun _ => e.lev_pos)
    have h1 := hs 1 (by decide) e.lev_pos
    rw [settle_stay (T := (0, false) :: T) (show (0 : Nat) < 1 by decide)] at h1
    refine ⟨ns ++ e.flat, T, fun l pos => ?_, fun _ _ _ => rfl, fun _ => ⟨rfl, rfl⟩⟩
    rw [wl, if_pos hc, List.cons_append, List.append_assoc, run_sign (s' := (true, ns, (0, false) :: T)) (by decide) rfl, hr, List.singleton_append, run_sign (s' := (false, ns ++ e.flat, T)) (by decide) ?_]
    · rw [List.length_cons, List.length_append, List.length_singleton]
      congr 1
      omega
    · show followS k 41 ns1 T1 = _
      simp [followS, h1]
  · obtain ⟨ns1, T1, hr, hs, hx⟩ := ih ns T (fun h3 => Nat.lt_of_lt_of_le (h (by omega)) (by omega))
    refine ⟨ns1, T1, ?_, fun m h4 hm => hs m h4 (by omega), fun h5 => hx ?_⟩
    · rw [wl, if_neg hc]; exact hr
    · have : e.lev ≤ 5 := by cases e <;> simp [Ex.lev] <;> exact Nat.le_trans (Bo.lev_le _) (by decide)
      omega
theorem leads_leaf {k : Int} {c : UInt8} {n : Nd} {ns : List Nd} {T : List Wt} (h32 : c.toNat ≠ 32) (h : beginS k c.toNat ns T = some (false, ns ++ [n], T)) : Leads k [c] [n] 5 ns T :=
  ⟨_, _, fun l pos => run_sign h32 h, fun _ _ _ => rfl, fun _ => ⟨rfl, rfl⟩⟩
theorem leads_tx {k : Int} (hk : k ≤ 8) : ∀ (e : Ex), e.okk k → ∀ ns T, (e.lev ≤ 3 → hdT T < e.lev) → Leads k e.tx e.flat e.lev ns T
  | .none, h, ns, T, hT => leads_leaf (by decide) rfl
  | .empty, h, ns, T, hT => leads_leaf (by decide) rfl
  | .any, h, ns, T, hT => leads_leaf (by decide) rfl
  | .letter s, h, ns, T, hT => by
    have e := letter_nat hk h
    have h' : 97 ≤ s ∧ s < 97 + k := h
    refine leads_leaf (by rw [e]; omega) ?_
    rw [e]
    have e2 : ((s.toNat : Nat) : Int) = s := by omega
    rw [e2]
    unfold beginS
    rw [if_neg (by omega), if_neg (by omega), if_neg (by omega), if_neg (by omega), if_neg (by omega), if_pos (by omega)]
  | .star a, h, ns, T, hT => by
    obtain ⟨ns1, T1, hr, hs, hx⟩ := leads_wl (fun ns T hT => leads_tx hk a h ns T hT) 5 (by decide) ns T (fun h => absurd h (by decide))
    obtain ⟨rfl, rfl⟩ := hx rfl
    refine ⟨ns ++ a.flat ++ [(8, 0)], T1, fun l pos => ?_, fun m _ _ => by rw [Ex.flat, List.append_assoc], fun _ => ⟨by rw [Ex.flat, List.append_assoc], rfl⟩⟩
    rw [Ex.tx, List.append_assoc, hr, List.singleton_append, run_sign (s' := (false, ns ++ a.flat ++ [(8, 0)], T1)) (by decide) rfl]
    rw [List.length_append, List.length_singleton, Nat.add_assoc]
  | .not a, h, ns, T, hT => by
    obtain ⟨ns1, T1, hr, hs, hx⟩ := leads_wl (fun ns T hT => leads_tx hk a h ns T hT) 4 (by decide) ns ((9, false) :: T) (fun h => absurd h (by decide))
    refine ⟨ns1, T1, fun l pos => ?_, fun m h4 _ => ?_, fun h5 => absurd h5 (show ¬ (4 : Nat) = 5 by decide)⟩
    · rw [Ex.tx, List.cons_append, run_sign (s' := (true, ns, (9, false) :: T)) (by decide) rfl, hr, List.length_cons]
      congr 1
      omega
    · rw [hs m h4 h4, settle_pop h4, Ex.flat, List.append_assoc]
  | .bin o a b, h, ns, T, hT => by
    have hlo := o.lev_le
    have hh : hdT T < o.lev := hT hlo
    obtain ⟨ns1, T1, hr, hs, _⟩ := leads_wl (fun ns T hT => leads_tx hk a h.1 ns T hT) o.lev (by omega) ns T (fun _ => hh)
    have h1 := hs o.lev (by omega) (Nat.le_refl _)
    rw [settle_stay hh] at h1
    obtain ⟨ns2, T2, hr2, hs2, _⟩ := leads_wl (fun ns T hT => leads_tx hk b h.2 ns T hT) (o.lev + 1) (by omega) (ns ++ a.flat) ((o.kind, false) :: T) (fun _ => by show tight o.kind < _; rw [o.tight_kind]; omega)
    have hmid : ∀ l pos, runP k (o.mark ++ (wl b.tx b.lev (o.lev + 1) ++ l)) pos (false, ns1, T1) = runP k (wl b.tx b.lev (o.lev + 1) ++ l) (pos + o.mark.length) (true, ns ++ a.flat, (o.kind, false) :: T) := by
      intro l pos
      have hj : ∀ j : Nat, (j : Int) = o.kind → tight j = o.lev → joinS j false ns1 T1 = (true, ns ++ a.flat, (o.kind, false) :: T) := by
        intro j ej et
        unfold joinS
        rw [et, h1, ej]
      cases o with
      | un => exact run_sign (by decide) (congrArg some (hj 5 rfl rfl))
      | it => exact run_sign (by decide) (congrArg some (hj 6 rfl rfl))
      | cc =>
        obtain ⟨c, l', e, hst⟩ := wl_starts hk b h.2 4
        show runP k (wl b.tx b.lev 4 ++ l) pos _ = runP k (wl b.tx b.lev 4 ++ l) pos _
        rw [e, List.cons_append, starts_joins hst, hj 7 rfl rfl]
    refine ⟨ns2, T2, fun l pos => ?_, fun m h4 hm => ?_, fun h5 => ?_⟩
    · rw [Ex.tx, List.append_assoc, hr, List.append_assoc, hmid, hr2]
      congr 1
      simp only [List.length_append]
      omega
    · have hm : m ≤ o.lev := hm
      rw [hs2 m h4 (by omega), settle_pop (by rw [o.tight_kind]; exact hm), Ex.flat, List.append_assoc, List.append_assoc, List.append_assoc]
    · have : o.lev = 5 := h5
      omega
/-- What is printed is read as it was. -/
theorem parse_tx {k : Int} (hk : k ≤ 8) (e : Ex) (h : e.okk k) : parseS k e.ba = .inr e.flat := by
  obtain ⟨ns1, T1, hr, hs, _⟩ := leads_tx hk e h [] [] (fun _ => e.lev_pos)
  have h1 := hs 1 (by decide) e.lev_pos
  have h2 := hr [] 0
  rw [List.append_nil] at h2
  unfold parseS
  show endS _ (runP k e.tx 0 (true, [], [])) = _
  rw [h2]
  simp only [runP, endS, h1]
  simp [settleR]
theorem pcode_print {k : Int} {ts : List Nd} {s : ByteArray} (h : printV k ts = (s, 0)) : pcode k s = (0, ts) ∧ (∀ e : Ex, e.flat = ts → s = e.ba) ∧ s.size ≤ 1000 ∧ (∃ e : Ex, e.okk k ∧ e.flat = ts) := by
  have hc : checkV k ts = 0 := by
    unfold printV at h
    split at h
    · next hc => exact absurd (congrArg Prod.snd h) hc
    · next hc => simpa using hc
  have hk : ¬ (k < 1 ∨ 8 < k) := by
    intro hk
    rw [checkV, if_pos hk] at hc
    cases hc
  obtain ⟨h4, hf⟩ := wrong_zero (check_zero hc)
  have hfar : ∀ n ∈ ts, farL k n = false := by
    unfold checkV at hc
    rw [if_neg hk] at hc
    split at hc
    · next h1 => exact absurd hc h1
    split at hc
    · cases hc
    split at hc
    · cases hc
    · next h1 =>
      intro n hn
      have h2 : ts.any (farL k) = false := by simpa using h1
      have := List.any_eq_false.1 h2 n hn
      simpa using this
  obtain ⟨e, ho, rfl⟩ := ex_of (k := k) (by omega) _ ts (Nat.le_refl _) hf hfar
  obtain ⟨rfl, hsz⟩ := print_ex h
  refine ⟨?_, fun e' he' => ?_, hsz, e, ho, rfl⟩
  · unfold pcode
    rw [if_neg hk, if_neg (by omega), parse_tx (by omega) e ho]
    simp only [hc, if_true]
  · rw [← he'] at h
    exact (print_ex h).1
end Go.Proofs.YtjonlmafhijcoaaDoor
