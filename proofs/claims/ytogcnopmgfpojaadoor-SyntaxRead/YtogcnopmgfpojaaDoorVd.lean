/- No text without ? and - is shorter than the print of what it is read as. -/
import Derived.Test.YtogcnopmgfpojaaDoorVc
namespace Go.Proofs.YtogcnopmgfpojaaDoor
open Go Go.RowKit
set_option linter.unusedVariables false

/-- What waits, with what was read of it: an open bracket, a complement, a first part. -/
inductive Fr where
  | br | nt
  | bn (o : Bo) (a : Ex)
def Fr.wt : Fr → Wt
  | .br => (0, false) | .nt => (9, false) | .bn o _ => (o.kind, false)
def Fr.need : Fr → Nat
  | .br => 0 | .nt => 4 | .bn o _ => o.lev + 1
def Fr.lev : Fr → Nat
  | .br => 5 | .nt => 4 | .bn o _ => o.lev
def wid (e : Ex) (m : Nat) : Nat := (wl e.tx e.lev m).length
def Fr.cost : Fr → Nat
  | .br => 1 | .nt => 1 | .bn o a => wid a o.lev + o.mark.length
def flatF : List Fr → List Nd
  | [] => []
  | .bn _ a :: F => flatF F ++ a.flat
  | _ :: F => flatF F
def waitF (F : List Fr) : List Wt := F.map Fr.wt
def costF : List Fr → Nat
  | [] => 0
  | f :: F => f.cost + costF F
def needH : List Fr → Nat
  | [] => 0
  | f :: _ => f.need
def Chain : List Fr → Prop
  | [] => True
  | f :: F => needH F ≤ f.lev ∧ Chain F
theorem need_le (F : List Fr) : needH F ≤ 4 := by
  cases F with
  | nil => simp [needH]
  | cons f F =>
    cases f with
    | br => simp [needH, Fr.need]
    | nt => simp [needH, Fr.need]
    | bn o a => have := o.lev_le; simp [needH, Fr.need]; omega
theorem wid_mono (e : Ex) {m m' : Nat} (h : m ≤ m') : wid e m ≤ wid e m' := by
  unfold wid wl
  split
  · rw [if_pos (by omega)]; exact Nat.le_refl _
  · split
    · simp; omega
    · exact Nat.le_refl _
theorem wid_self (e : Ex) {m : Nat} (h : m ≤ e.lev) : wid e m = e.tx.length := by
  unfold wid wl
  rw [if_neg (by omega)]
theorem wid_le (e : Ex) (m : Nat) : wid e m ≤ e.tx.length + 2 := by
  unfold wid wl
  split
  · simp
  · omega
theorem wid_not (e : Ex) : wid (.not e) 4 = 1 + wid e 4 := by
  rw [wid_self _ (show 4 ≤ (Ex.not e).lev from Nat.le_refl _)]
  show (33 :: wl e.tx e.lev 4).length = _
  rw [List.length_cons]
  unfold wid
  omega
theorem wid_bin (o : Bo) (a b : Ex) : wid (.bin o a b) o.lev = wid a o.lev + o.mark.length + wid b (o.lev + 1) := by
  rw [wid_self _ (show o.lev ≤ (Ex.bin o a b).lev from Nat.le_refl _)]
  show (wl a.tx a.lev o.lev ++ (o.mark ++ wl b.tx b.lev (o.lev + 1))).length = _
  rw [List.length_append, List.length_append]
  unfold wid
  omega
theorem wid_star (e : Ex) : wid (.star e) 5 = wid e 5 + 1 := by
  rw [wid_self _ (show 5 ≤ (Ex.star e).lev from Nat.le_refl _)]
  show (wl e.tx e.lev 5 ++ [42]).length = _
  rw [List.length_append]
  rfl
theorem flat_snoc (F : List Fr) (x : Ex) (n : Nd) : flatF F ++ x.flat ++ [n] = flatF F ++ (x.flat ++ [n]) := List.append_assoc _ _ _
theorem settle_frames {n : Nat} : ∀ (F : List Fr) (x : Ex) (m0 m : Nat), Chain F → needH F ≤ m0 → m ≤ m0 → 1 ≤ m → costF F + wid x m0 ≤ n →
    ∃ F' x', settleR m (flatF F ++ x.flat) (waitF F) = (flatF F' ++ x'.flat, waitF F') ∧ Chain F' ∧ costF F' + wid x' m ≤ n ∧ hdT (waitF F') < m
  | [], x, m0, m, hc, hn, hm, h1, hco => ⟨[], x, rfl, trivial, Nat.le_trans (Nat.add_le_add_left (wid_mono x hm) _) hco, h1⟩
  | .br :: F, x, m0, m, hc, hn, hm, h1, hco => by
    refine ⟨.br :: F, x, ?_, hc, Nat.le_trans (Nat.add_le_add_left (wid_mono x hm) _) hco, h1⟩
    exact settle_stay (T := (0, false) :: waitF F) h1
  | .nt :: F, x, m0, m, hc, hn, hm, h1, hco => by
    by_cases ht : 4 < m
    · refine ⟨.nt :: F, x, ?_, hc, Nat.le_trans (Nat.add_le_add_left (wid_mono x hm) _) hco, ht⟩
      exact settle_stay (T := (9, false) :: waitF F) ht
    · have hw := wid_mono x (show 4 ≤ m0 from hn)
      have hco' : 1 + costF F + wid x m0 ≤ n := hco
      obtain ⟨F', x', e, r⟩   := settle_frames (n := n) F (.not x) 4 m hc.2 hc.1 (by omega) h1 (by rw [wid_not]; omega)
      refine ⟨F', x', ?_, r⟩
      rw [← e]
      show settleR m (flatF F ++ x.flat) ((9, false) :: waitF F) = _
      rw [settle_pop (show m ≤ 4 by omega), List.append_assoc]
      rfl
  | .bn o y :: F, x, m0, m, hc, hn, hm, h1, hco => by
    have hk := o.tight_kind
    by_cases ht : o.lev < m
    · have ht' : hdT ((o.kind, false) :: waitF F) < m := by show tight o.kind < m; omega
      refine ⟨.bn o y :: F, x, ?_, hc, Nat.le_trans (Nat.add_le_add_left (wid_mono x hm) _) hco, ht'⟩
      exact settle_stay (T := (o.kind, false) :: waitF F) ht'
    · have hw := wid_mono x (show o.lev + 1 ≤ m0 from hn)
      have hco' : wid y o.lev + o.mark.length + costF F + wid x m0 ≤ n := hco
      obtain ⟨F', x', e, r⟩   := settle_frames (n := n) F (.bin o y x) o.lev m hc.2 hc.1 (by omega) h1 (by rw [wid_bin]; omega)
      refine ⟨F', x', ?_, r⟩
      rw [← e]
      show settleR m (flatF F ++ y.flat ++ x.flat) ((o.kind, false) :: waitF F) = _
      rw [settle_pop (by rw [hk]; omega)]
      simp only [Ex.flat, List.append_assoc]
/-- The reader's state behind n signs, with the expressions that were read. -/
def Owes (n : Nat) : St → Prop
  | (true, ns, T) => ∃ F, Chain F ∧ ns = flatF F ∧ T = waitF F ∧ costF F ≤ n
  | (false, ns, T) => ∃ F x, Chain F ∧ ns = flatF F ++ x.flat ∧ T = waitF F ∧ costF F + wid x 5 ≤ n
theorem owes_more {n m : Nat} (h : n ≤ m) : ∀ {s : St}, Owes n s → Owes m s
  | (true, ns, T), ⟨F, h1, h2, h3, h4⟩ => ⟨F, h1, h2, h3, by omega⟩
  | (false, ns, T), ⟨F, x, h1, h2, h3, h4⟩ => ⟨F, x, h1, h2, h3, by omega⟩
theorem owes_begin {k sg : Int} {n : Nat} {ns : List Nd} {T : List Wt} {s : St} (h : Owes n (true, ns, T)) (hb : beginS k sg ns T = some s) : Owes (n + 1) s := by
  obtain ⟨F, hc, rfl, rfl, hco⟩ := h
  have h4 := need_le F
  have leaf : ∀ x : Ex, wid x 5 = 1 → Owes (n + 1) (false, flatF F ++ x.flat, waitF F) := fun x hx => ⟨F, x, hc, rfl, rfl, by omega⟩
  unfold beginS at hb
  split at hb
  · cases hb
    exact ⟨.br :: F, ⟨by show _ ≤ 5; omega, hc⟩, rfl, rfl, by show 1 + costF F ≤ _; omega⟩
  split at hb
  · cases hb
    exact ⟨.nt :: F, ⟨h4, hc⟩, rfl, rfl, by show 1 + costF F ≤ _; omega⟩
  split at hb
  · cases hb; exact leaf .none rfl
  split at hb
  · cases hb; exact leaf .empty rfl
  split at hb
  · cases hb; exact leaf .any rfl
  split at hb
  · cases hb; exact leaf (.letter sg) rfl
  · cases hb
theorem chain_push {F : List Fr} {o : Bo} {x : Ex} (hc : Chain F) (h : hdT (waitF F) < o.lev) : Chain (.bn o x :: F) := by
  refine ⟨?_, hc⟩
  show needH F ≤ o.lev
  have hl := o.lev_le
  cases F with
  | nil => simp [needH]
  | cons f F =>
    cases f with
    | br => simp [needH, Fr.need]
    | nt =>
      have : tight 9 < o.lev := h
      have e : tight 9 = 4 := rfl
      omega
    | bn o' a =>
      have : tight o'.kind < o.lev := h
      rw [o'.tight_kind] at this
      exact this
theorem owes_join {n : Nat} {ns : List Nd} {T : List Wt} (h : Owes n (false, ns, T)) (o : Bo) (j : Nat) (hj : (j : Int) = o.kind) (ht : tight j = o.lev) : Owes (n + o.mark.length) (joinS j false ns T) := by
  obtain ⟨F, x, hc, rfl, rfl, hco⟩ := h
  have h4 := need_le F
  have hl := o.lev_le
  obtain ⟨F', x', e, hc', hco', hd⟩ := settle_frames F x 5 o.lev hc (by omega) (by omega) o.lev_pos hco
  refine ⟨.bn o x' :: F', chain_push hc' hd, ?_, ?_, ?_⟩
  · rw [ht, e]; rfl
  · rw [ht, e, hj]; rfl
  · show wid x' o.lev + o.mark.length + costF F' ≤ _
    omega
theorem owes_follow {k sg : Int} {n : Nat} {ns : List Nd} {T : List Wt} {s : St} (h : Owes n (false, ns, T)) (hb : followS k sg ns T = some s) (h63 : sg ≠ 63) (h45 : sg ≠ 45) : Owes (n + 1) s := by
  have hj := owes_join h
  unfold followS at hb
  rw [if_neg h63] at hb
  split at hb
  · cases hb
    obtain ⟨F, x, hc, rfl, rfl, hco⟩ := h
    exact ⟨F, .star x, hc, List.append_assoc _ _ _, rfl, by rw [wid_star]; omega⟩
  split at hb
  · cases hb; exact hj .it 6 rfl rfl
  split at hb
  · cases hb; exact hj .un 5 rfl rfl
  split at hb
  · obtain ⟨F, x, hc, rfl, rfl, hco⟩ := h
    have h4 := need_le F
    obtain ⟨F', x', e, hc', hco', hd⟩ := settle_frames F x 5 1 hc (by omega) (by omega) (Nat.le_refl _) hco
    rw [e] at hb
    cases F' with
    | nil => simp [waitF] at hb
    | cons f F' =>
      cases f with
      | br =>
        simp [waitF] at hb
        cases hb
        have hw := wid_le x' 5
        rw [wid_self x' x'.lev_pos] at hco'
        have hco' : 1 + costF F' + x'.tx.length ≤ n := hco'
        exact ⟨F', x', hc'.2, rfl, rfl, by omega⟩
      | nt => exact absurd hd (show ¬ (4 : Nat) < 1 by decide)
      | bn o' a =>
        have hd : tight o'.kind < 1 := hd
        rw [o'.tight_kind] at hd
        have := o'.lev_pos
        omega
  · exact owes_begin (hj .cc 7 rfl rfl) hb
theorem owes_run {k : Int} : ∀ (l : List UInt8) (pos n : Nat) (s s' : St), (∀ c ∈ l, c.toNat ≠ 63 ∧ c.toNat ≠ 45) → Owes n s → runP k l pos s = .inr s' → Owes (n + l.length) s'
  | [], pos, n, s, s', hl, h, hr => by cases hr; exact h
  | c :: l, pos, n, s, s', hl, h, hr => by
    have hl' : ∀ c ∈ l, c.toNat ≠ 63 ∧ c.toNat ≠ 45 := fun x hx => hl x (List.mem_cons_of_mem _ hx)
    have hc := hl c (List.mem_cons_self ..)
    rw [List.length_cons, show n + (l.length + 1) = n + 1 + l.length by omega]
    rw [runP] at hr
    split at hr
    · exact owes_run l _ (n + 1) s s' hl' (owes_more (by omega) h) hr
    · cases hs : stepS k c.toNat s with
      | none => rw [hs] at hr; cases hr
      | some s1 =>
        rw [hs] at hr
        refine owes_run l _ (n + 1) s1 s' hl' ?_ hr
        match s, h, hs with
        | (true, ns, T), h, hs => exact owes_begin h hs
        | (false, ns, T), h, hs => exact owes_follow h hs (by omega) (by omega)
/-- What is read is an expression whose text is no longer. -/
theorem read_short {k : Int} {tx : ByteArray} {ns : List Nd} (h : parseS k tx = .inr ns) (hl : ∀ c ∈ tx.data.toList, c.toNat ≠ 63 ∧ c.toNat ≠ 45) : ∃ e : Ex, e.flat = ns ∧ e.tx.length ≤ tx.size := by
  unfold parseS at h
  cases hr : runP k tx.data.toList 0 (true, [], []) with
  | inl p => rw [hr] at h; cases h
  | inr s =>
    rw [hr] at h
    have ho := owes_run _ 0 0 _ s hl (show Owes 0 (true, [], []) from ⟨[], trivial, rfl, rfl, Nat.le_refl _⟩) hr
    rw [Nat.zero_add, show tx.data.toList.length = tx.size by simp] at ho
    match s, ho, h with
    | (true, ms, T), ho, h => simp [endS] at h
    | (false, ms, T), ho, h =>
      obtain ⟨F, x, hc, rfl, rfl, hco⟩ := ho
      have h4 := need_le F
      obtain ⟨F', x', e, hc', hco', hd⟩ := settle_frames F x 5 1 hc (by omega) (by omega) (Nat.le_refl _) hco
      simp only [endS, e] at h
      rw [if_neg (by simp)] at h
      split at h
      · next hE =>
        have hF : F' = [] := by
          cases F' with
          | nil => rfl
          | cons f F' => simp [waitF] at hE
        subst hF
        rw [wid_self x' x'.lev_pos] at hco'
        exact ⟨x', by simpa [flatF] using h, by simpa [costF] using hco'⟩
      · cases h
end Go.Proofs.YtogcnopmgfpojaaDoor
