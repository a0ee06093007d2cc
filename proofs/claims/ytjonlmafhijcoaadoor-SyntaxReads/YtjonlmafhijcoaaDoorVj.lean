/- The document's rules against the reader that keeps what waits in a list: what a rule's answer says. -/
import Derived.Test.YtjonlmafhijcoaaDoorVi
namespace Go.Proofs.YtjonlmafhijcoaaDoor
open Go Go.RowKit
set_option linter.unusedVariables false

/-- What becomes of the text from a place on. -/
def FF (k : Int) (tx : ByteArray) (p : Nat) (s : St) : Nat ⊕ List Nd := endS tx.size (runP k (tx.data.toList.drop p) p s)
theorem FF_here {k : Int} {tx : ByteArray} {p : Nat} (h : p < tx.size) (s : St) : FF k tx p s = if (tx[p]).toNat = 32 then FF k tx (p + 1) s else match stepS k (tx[p]).toNat s with
    | none => .inl p
    | some s' => FF k tx (p + 1) s' := by
  unfold FF
  rw [run_here h]
  split
  · rfl
  · cases stepS k (tx[p]).toNat s <;> rfl
theorem FF_end {k : Int} {tx : ByteArray} (s : St) : FF k tx tx.size s = endS tx.size (.inr s) := by
  unfold FF
  rw [List.drop_eq_nil_of_le (by simp)]
  rfl
theorem FF_blank {k : Int} {tx : ByteArray} {p : Nat} (s : St) : ∀ n, p + n ≤ tx.size → Blank tx p (p + n) → FF k tx p s = FF k tx (p + n) s
  | 0, _, _ => rfl
  | n + 1, hn, hb => by
    have hb' : Blank tx p (p + n) := fun j hj h1 h2 => hb j hj h1 (by omega)
    have h3 := hb (p + n) (by omega) (by omega) (by omega)
    rw [FF_blank s n (by omega) hb', FF_here (by omega), if_pos h3]
    rfl
theorem FF_skip {k : Int} {tx : ByteArray} {p q : Nat} (h : Skips tx p q) (s : St) : FF k tx p s = FF k tx q s := by
  obtain ⟨h1, h2, h3, _⟩ := h
  have := FF_blank (k := k) (tx := tx) (p := p) s (q - p) (by omega) (by rw [show p + (q - p) = q by omega]; exact h3)
  rw [show p + (q - p) = q by omega] at this
  exact this
theorem Skips.refl' {tx : ByteArray} {p q : Nat} (h : Skips tx p q) : Skips tx q q := ⟨Nat.le_refl _, h.2.1, fun j hj h1 h2 => by omega, h.2.2.2⟩
theorem Skips.only {tx : ByteArray} {p q : Nat} (h : Skips tx p p) (h' : Skips tx p q) : q = p := by
  rcases Nat.lt_or_ge p q with hl | hl
  · exact absurd (h'.2.2.1 p (by have := h'.2.1; omega) (Nat.le_refl _) hl) (h.2.2.2 (by have := h'.2.1; omega))
  · have := h'.1; omega
theorem sgn_lt {tx : ByteArray} {q : Nat} (h : sgn tx q ≠ 0) : q < tx.size := by
  unfold sgn at h
  by_cases hq : q < tx.size
  · exact hq
  · rw [dif_neg hq] at h; exact absurd rfl h
theorem sgn_byte (tx : ByteArray) (q : Nat) : 0 ≤ sgn tx q ∧ sgn tx q ≤ 255 := by
  unfold sgn
  split
  · next h => have := (tx[q]).toNat_lt; omega
  · omega
/-- A sign is read. -/
theorem FF_sign {k : Int} {tx : ByteArray} {q : Nat} (h : Skips tx q q) (hq : q < tx.size) {s s' : St} (hs : stepS k (sgn tx q) s = some s') : FF k tx q s = FF k tx (q + 1) s' := by
  rw [FF_here hq, if_neg (h.2.2.2 hq)]
  rw [sgn, dif_pos hq] at hs
  rw [hs]
theorem FF_stuck {k : Int} {tx : ByteArray} {q : Nat} (h : Skips tx q q) (hq : q < tx.size) {s : St} (hs : stepS k (sgn tx q) s = none) : FF k tx q s = .inl q := by
  rw [FF_here hq, if_neg (h.2.2.2 hq)]
  rw [sgn, dif_pos hq] at hs
  rw [hs]
theorem begin_none {k c : Int} (h : begB k c = false) (ns : List Nd) (T : List Wt) : beginS k c ns T = none := by
  unfold begB isL at h
  simp only [Bool.or_eq_false_iff, decide_eq_false_iff_not, beq_eq_false_iff_ne] at h
  obtain ⟨⟨⟨⟨⟨h1, h2⟩, h3⟩, h4⟩, h5⟩, h6⟩ := h
  unfold beginS
  rw [if_neg h5, if_neg h6, if_neg h2, if_neg h3, if_neg h4, if_neg h1]
/-- Where a rule of that level stops. -/
def Stop (k : Int) (lv : Nat) (c : Int) : Prop := (c ≠ 42 ∧ c ≠ 63) ∧ (lv ≤ 3 → begB k c = false) ∧ (lv ≤ 2 → c ≠ 38 ∧ c ≠ 45) ∧ (lv ≤ 1 → c ≠ 124)
/-- What a rule that was kept says: it leads from a place to a place. -/
def Fine (k : Int) (tx : ByteArray) (lv p : Nat) (ns : List Nd) (q : Nat) : Prop := ∀ N T, (lv ≤ 3 → hdT T < lv) →
  ∃ N1 T1, FF k tx p (true, N, T) = FF k tx q (false, N1, T1) ∧ (∀ m, m ≤ 4 → m ≤ lv → settleR m N1 T1 = settleR m (N ++ ns) T) ∧ (lv = 5 → N1 = N ++ ns ∧ T1 = T)
/-- What a rule that was broken says. -/
def Bads (k : Int) (tx : ByteArray) (lv p : Nat) (z : Nat) : Prop := ∀ N T, (lv ≤ 3 → hdT T < lv) → FF k tx p (true, N, T) = .inl z
/-- What a rule's call leaves. -/
def Left (k : Int) (tx : ByteArray) (lv : Nat) (st : Bool) (p : Nat) (ns : List Nd) (q : Nat) (bad : Int) : Prop :=
  p ≤ q ∧ q ≤ tx.size ∧ ((bad = -1 ∧ ns.length + 1 ≤ 3 * (q - p) ∧ Fine k tx lv p ns q ∧ (st = true → Skips tx q q ∧ Stop k lv (sgn tx q))) ∨ (∃ z : Nat, bad = z ∧ ns.length ≤ 3 * (q - p) ∧ Bads k tx lv p z))
def REnd (k : Int) (tx : ByteArray) (lv : Nat) (st : Bool) (p : Nat) (w : World) (B : Nat) (e : Ending) (w' : World) : Prop := ∃ u ns q bad, e = .returned u ∧ RD w' B k tx q bad ∧ RK B w w' ∧ w'.ownsRow w.heap.size 56 2 u ns.length (ndC ns) ∧ Left k tx lv st p ns q bad
def Ruled (k : Int) (tx : ByteArray) (f : Nat) (lv : Nat) (st : Bool) (p : Nat) : Prop := ∀ (w : World) (B : Nat), RD w B k tx p (-1) →
  Calls Tryd.prog f #[.pointer (some ⟨B, 0, none⟩)] w fun e w' => REnd k tx lv st p w B e w'

/-! ### Post -/
theorem fine_star {k : Int} {tx : ByteArray} {p q r : Nat} {ns : List Nd} (h : Fine k tx 5 p ns q) (hs : Skips tx q r) (hc : sgn tx r = 42) : Fine k tx 5 p (ns ++ [(8, 0)]) (r + 1) := by
  intro N T hT
  obtain ⟨N1, T1, e, _, hx⟩ := h N T hT
  obtain ⟨rfl, rfl⟩ := hx rfl
  refine ⟨N ++ ns ++ [(8, 0)], T1, ?_, fun m _ _ => by rw [List.append_assoc], fun _ => ⟨by rw [List.append_assoc], rfl⟩⟩
  rw [e, FF_skip hs]
  exact FF_sign hs.refl' (sgn_lt (by rw [hc]; decide)) (by rw [hc]; rfl)
theorem fine_opt {k : Int} {tx : ByteArray} {p q r : Nat} {ns : List Nd} (h : Fine k tx 5 p ns q) (hs : Skips tx q r) (hc : sgn tx r = 63) : Fine k tx 5 p (ns ++ [(2, 0)] ++ [(5, 0)]) (r + 1) := by
  intro N T hT
  obtain ⟨N1, T1, e, _, hx⟩ := h N T hT
  obtain ⟨rfl, rfl⟩ := hx rfl
  refine ⟨N ++ ns ++ [(2, 0)] ++ [(5, 0)], T1, ?_, fun m _ _ => by simp [List.append_assoc], fun _ => ⟨by simp [List.append_assoc], rfl⟩⟩
  rw [e, FF_skip hs]
  exact FF_sign hs.refl' (sgn_lt (by rw [hc]; decide)) (by rw [hc]; rfl)
theorem fine_skip {k : Int} {tx : ByteArray} {lv p q r : Nat} {ns : List Nd} (h : Fine k tx lv p ns q) (hs : Skips tx q r) : Fine k tx lv p ns r := by
  intro N T hT
  obtain ⟨N1, T1, e, r1, r2⟩ := h N T hT
  exact ⟨N1, T1, by rw [e, FF_skip hs], r1, r2⟩
/-! ### Two parts -/
theorem fine_down {k : Int} {tx : ByteArray} {lv lv' p q : Nat} {ns : List Nd} (h : Fine k tx lv p ns q) (hl : lv' ≤ lv) (h3 : lv' ≤ 3) (h4 : lv ≤ 3 → lv' = lv - 1 ∨ lv' = lv) : Fine k tx lv' p ns q := by
  intro N T hT
  have h' := hT h3
  obtain ⟨N1, T1, e, r1, r2⟩ := h N T (fun h5 => by omega)
  exact ⟨N1, T1, e, fun m hm hm' => r1 m hm (by omega), fun h5 => by omega⟩
theorem bads_down {k : Int} {tx : ByteArray} {lv lv' p z : Nat} (h : Bads k tx lv p z) (hl : lv' ≤ lv) (h3 : lv' ≤ 3) : Bads k tx lv' p z := by
  intro N T hT
  have h' := hT h3
  exact h N T (fun h5 => by omega)
/-- Behind a first part and a mark: a second part is due. -/
def Due (k : Int) (tx : ByteArray) (lv p : Nat) (ns : List Nd) (kd : Int) (mi : Bool) (q : Nat) : Prop := ∀ N T, hdT T < lv → FF k tx p (true, N, T) = FF k tx q (true, N ++ ns, (kd, mi) :: T)
theorem due_of {k : Int} {tx : ByteArray} {lv p q : Nat} {ns : List Nd} (h : Fine k tx lv p ns q) (hlv : lv ≤ 3) (hs : Skips tx q q) (hq : q < tx.size) (j : Nat) (mi : Bool) (hj : tight j = lv)
    (hc : ∀ N T, stepS k (sgn tx q) (false, N, T) = some (joinS j mi N T)) : Due k tx lv p ns j mi (q + 1) := by
  intro N T hT
  obtain ⟨N1, T1, e, r1, _⟩ := h N T (fun _ => hT)
  rw [e, FF_sign hs hq (hc N1 T1)]
  unfold joinS
  rw [hj, r1 lv (by omega) (Nat.le_refl _), settle_stay hT]
theorem due_cat {k : Int} {tx : ByteArray} {p q : Nat} {ns : List Nd} (h : Fine k tx 3 p ns q) (hs : Skips tx q q) (hb : begB k (sgn tx q) = true) (hk : k ≤ 8) : Due k tx 3 p ns 7 false q := by
  intro N T hT
  obtain ⟨N1, T1, e, r1, _⟩ := h N T (fun _ => hT)
  have hcs : 97 ≤ sgn tx q ∧ sgn tx q < 97 + k ∨ sgn tx q = 48 ∨ sgn tx q = 49 ∨ sgn tx q = 46 ∨ sgn tx q = 40 ∨ sgn tx q = 33 := by
    unfold begB isL at hb
    simp only [Bool.or_eq_true, decide_eq_true_eq, beq_iff_eq] at hb
    omega
  have hq : q < tx.size := sgn_lt (by omega)
  have e2 : ∀ s : St, stepS k (sgn tx q) (false, N1, T1) = stepS k (sgn tx q) (joinS 7 false N1 T1) := by
    intro s
    unfold stepS
    rw [if_neg (by simp), if_pos (show (joinS 7 false N1 T1).1 = true from rfl)]
    simp only [followS]
    rw [if_neg (by omega), if_neg (by omega), if_neg (by omega), if_neg (by omega), if_neg (by omega), if_neg (by omega)]
  have e3 : FF k tx q (false, N1, T1) = FF k tx q (joinS 7 false N1 T1) := by
    rw [FF_here hq, if_neg (hs.2.2.2 hq), FF_here hq, if_neg (hs.2.2.2 hq)]
    have := e2 (true, [], [])
    rw [sgn, dif_pos hq] at this
    rw [this]
  rw [e, e3]
  have h4 := r1 3 (by omega) (Nat.le_refl _)
  rw [settle_stay hT] at h4
  show FF k tx q (true, (settleR 3 N1 T1).1, (7, false) :: (settleR 3 N1 T1).2) = _
  rw [h4]
theorem fine_join {k : Int} {tx : ByteArray} {lv p q r : Nat} {ns ms : List Nd} {kd : Int} {mi : Bool} (hd : Due k tx lv p ns kd mi q) (hlv : lv ≤ 3) (hk : tight kd = lv) (h : Fine k tx (lv + 1) q ms r) : Fine k tx lv p (ns ++ (ms ++ (if mi then [(9, 0)] else [])) ++ [(kd, 0)]) r := by
  intro N T hT
  have h' := hT hlv
  obtain ⟨N1, T1, e, r1, _⟩ := h (N ++ ns) ((kd, mi) :: T) (fun _ => by show tight kd < _; omega)
  refine ⟨N1, T1, by rw [hd N T h', e], fun m hm hm' => ?_, fun h5 => by omega⟩
  rw [r1 m hm (by omega), settleR, if_neg (by show ¬ tight kd < m; omega)]
  congr 1
  simp only [List.append_assoc]
theorem bads_join {k : Int} {tx : ByteArray} {lv p q z : Nat} {ns : List Nd} {kd : Int} {mi : Bool} (hd : Due k tx lv p ns kd mi q) (hlv : lv ≤ 3) (hk : tight kd = lv) (h : Bads k tx (lv + 1) q z) : Bads k tx lv p z := by
  intro N T hT
  rw [hd N T (hT hlv)]
  exact h _ _ (fun _ => by show tight kd < _; omega)
/-! ### Prefix -/
theorem nots_lead {k : Int} {tx : ByteArray} {p q : Nat} (n : Nat) (N : List Nd) (T : List Wt) (h : FF k tx p (true, N, T) = FF k tx q (true, N, List.replicate n (9, false) ++ T)) {r : Nat} (hs : Skips tx q r) (hc : sgn tx r = 33) : FF k tx p (true, N, T) = FF k tx (r + 1) (true, N, List.replicate (n + 1) (9, false) ++ T) := by
  rw [h, FF_skip hs]
  exact FF_sign hs.refl' (sgn_lt (by rw [hc]; decide)) (by rw [hc]; rfl)
theorem settle_nots {m : Nat} (hm : m ≤ 4) : ∀ (n : Nat) (N : List Nd) (T : List Wt), settleR m N (List.replicate n (9, false) ++ T) = settleR m (N ++ List.replicate n (9, 0)) T
  | 0, N, T => by simp
  | n + 1, N, T => by
    rw [List.replicate_succ, List.cons_append, settle_pop hm, settle_nots hm n, List.append_assoc]
    rfl
theorem fine_nots {k : Int} {tx : ByteArray} {p q r n : Nat} {ns : List Nd} (h : ∀ N T, FF k tx p (true, N, T) = FF k tx q (true, N, List.replicate n (9, false) ++ T)) (hf : Fine k tx 5 q ns r) : Fine k tx 4 p (ns ++ List.replicate n (9, 0)) r := by
  intro N T hT
  obtain ⟨N1, T1, e, _, hx⟩ := hf N (List.replicate n (9, false) ++ T) (fun h => absurd h (by decide))
  obtain ⟨rfl, rfl⟩ := hx rfl
  refine ⟨_, _, by rw [h, e], fun m hm _ => by rw [settle_nots hm, List.append_assoc], fun h5 => absurd h5 (by decide)⟩
theorem bads_nots {k : Int} {tx : ByteArray} {p q n z : Nat} (h : ∀ N T, FF k tx p (true, N, T) = FF k tx q (true, N, List.replicate n (9, false) ++ T)) (hf : Bads k tx 5 q z) : Bads k tx 4 p z := fun N T hT => by
  rw [h]; exact hf _ _ (fun h => absurd h (by decide))
/-! ### Atom -/
theorem atom_bad {k : Int} {tx : ByteArray} {q : Nat} (hs : Skips tx q q) (hb : begB k (sgn tx q) = false) : Bads k tx 5 q q := by
  intro N T _
  rcases Nat.lt_or_ge q tx.size with hq | hq
  · exact FF_stuck hs hq (begin_none hb N T)
  · obtain rfl : q = tx.size := by have := hs.2.1; omega
    rw [FF_end]
    rfl
theorem atom_leaf {k : Int} {tx : ByteArray} {q : Nat} (hs : Skips tx q q) (hq : q < tx.size) (n : Nd) (h : ∀ N T, beginS k (sgn tx q) N T = some (false, N ++ [n], T)) : Fine k tx 5 q [n] (q + 1) := fun N T _ =>
  ⟨_, _, FF_sign hs hq (h N T), fun _ _ _ => rfl, fun _ => ⟨rfl, rfl⟩⟩
theorem open_lead {k : Int} {tx : ByteArray} {q : Nat} (hs : Skips tx q q) (hc : sgn tx q = 40) (N : List Nd) (T : List Wt) : FF k tx q (true, N, T) = FF k tx (q + 1) (true, N, (0, false) :: T) :=
  FF_sign hs (sgn_lt (by rw [hc]; decide)) (by rw [hc]; rfl)
theorem atom_open {k : Int} {tx : ByteArray} {q r : Nat} {ns : List Nd} (hs : Skips tx q q) (hc : sgn tx q = 40) (hf : Fine k tx 1 (q + 1) ns r) (hr : Skips tx r r) (hcr : sgn tx r = 41) : Fine k tx 5 q ns (r + 1) := by
  intro N T _
  obtain ⟨N1, T1, e, r1, _⟩ := hf N ((0, false) :: T) (fun _ => by show (0 : Nat) < 1; decide)
  have h1 := r1 1 (by decide) (Nat.le_refl _)
  rw [settle_stay (T := (0, false) :: T) (show (0 : Nat) < 1 by decide)] at h1
  refine ⟨N ++ ns, T, ?_, fun _ _ _ => rfl, fun _ => ⟨rfl, rfl⟩⟩
  rw [open_lead hs hc, e]
  refine FF_sign hr (sgn_lt (by rw [hcr]; decide)) ?_
  rw [hcr]
  show followS k 41 N1 T1 = _
  simp [followS, h1]
theorem stop_none {k c : Int} (h : Stop k 1 c) (h41 : c ≠ 41) (N : List Nd) (T : List Wt) : stepS k c (false, N, T) = none := by
  obtain ⟨⟨h1, h2⟩, h3, h4, h5⟩ := h
  have h3 := h3 (by decide)
  have h4 := h4 (by decide)
  have h5 := h5 (by decide)
  unfold stepS
  rw [if_neg (by simp)]
  simp only [followS]
  rw [if_neg h2, if_neg h1, if_neg h4.2, if_neg h4.1, if_neg h5, if_neg h41]
  exact begin_none h3 _ _
theorem atom_shut {k : Int} {tx : ByteArray} {q r : Nat} {ns : List Nd} (hs : Skips tx q q) (hc : sgn tx q = 40) (hf : Fine k tx 1 (q + 1) ns r) (hr : Skips tx r r) (hst : Stop k 1 (sgn tx r)) (hcr : sgn tx r ≠ 41) : Bads k tx 5 q r := by
  intro N T _
  obtain ⟨N1, T1, e, r1, _⟩ := hf N ((0, false) :: T) (fun _ => by show (0 : Nat) < 1; decide)
  have h1 := r1 1 (by decide) (Nat.le_refl _)
  rw [settle_stay (T := (0, false) :: T) (show (0 : Nat) < 1 by decide)] at h1
  rw [open_lead hs hc, e]
  rcases Nat.lt_or_ge r tx.size with hq | hq
  · exact FF_stuck hr hq (stop_none hst hcr _ _)
  · obtain rfl : r = tx.size := by have := hr.2.1; omega
    rw [FF_end]
    simp [endS, h1]
theorem atom_within {k : Int} {tx : ByteArray} {q z : Nat} (hs : Skips tx q q) (hc : sgn tx q = 40) (hf : Bads k tx 1 (q + 1) z) : Bads k tx 5 q z := fun N T _ => by
  rw [open_lead hs hc]; exact hf _ _ (fun _ => by show (0 : Nat) < 1; decide)
end Go.Proofs.YtjonlmafhijcoaaDoor
