/- terms, pure: a side as a term; what Print writes of it; from behind; where it is cut. -/
import Derived.Test.YthhlamehbcidgaaY30
namespace Go.Proofs.Ythhlamehbcidgaa
open Go Go.RowKit Go.Lib
set_option linter.unusedVariables false

/-- A side as a term. -/
inductive Tm where
  | one : Tm
  | var : Nat → Tm
  | om : Tm → Tm
  | mul : Tm → Tm → Tm
def Tm.sg : Tm → Sg
  | .one => [(1, 0)]
  | .var c => [(2, c)]
  | .om t => t.sg ++ [(4, 0)]
  | .mul a b => (a.sg ++ b.sg) ++ [(3, 0)]
def Tm.root : Tm → Nat × Nat
  | .one => (1, 0)
  | .var c => (2, c)
  | .om _ => (4, 0)
  | .mul _ _ => (3, 0)
def Tm.kids : Tm → List Tm
  | .one => []
  | .var _ => []
  | .om t => [t]
  | .mul a b => [a, b]
/-- Sides, one behind the other. -/
def Fo : List Tm → Sg
  | [] => []
  | t :: ts => t.sg ++ Fo ts
theorem Fo_app : ∀ a b : List Tm, Fo (a ++ b) = Fo a ++ Fo b
  | [], b => rfl
  | t :: a, b => by
    rw [List.cons_append]
    show t.sg ++ Fo (a ++ b) = (t.sg ++ Fo a) ++ Fo b
    rw [Fo_app a b, List.append_assoc]
theorem Fo_one (t : Tm) : Fo [t] = t.sg := List.append_nil _
theorem Tm.sg_eq (t : Tm) : t.sg = Fo t.kids ++ [t.root] := by
  cases t with
  | one => rfl
  | var c => rfl
  | om t => show t.sg ++ _ = Fo [t] ++ _; rw [Fo_one]; rfl
  | mul a b => show (a.sg ++ b.sg) ++ _ = (a.sg ++ (b.sg ++ [])) ++ _; rw [List.append_nil]; rfl
theorem Tm.sg_pos (t : Tm) : 0 < t.sg.length := by rw [Tm.sg_eq, List.length_append]; simp
theorem Tm.ar (t : Tm) : arN (t.root.1 : Int) = (t.kids.length : Nat) := by cases t <;> rfl
theorem Fo_len : ∀ ts : List Tm, ts.length ≤ (Fo ts).length
  | [] => Nat.le_refl 0
  | t :: ts => by
    have h1 := Fo_len ts
    have h2 := t.sg_pos
    show ts.length + 1 ≤ (t.sg ++ Fo ts).length
    rw [List.length_append]
    omega
theorem intS_app (a b : Sg) : intS (a ++ b) = intS a ++ intS b := by simp [intS]
theorem nil_or_snoc {α : Type} (A : List α) : A = [] ∨ ∃ B x, A = B ++ [x] := by
  rcases List.eq_nil_or_concat A with h | ⟨B, x, h⟩
  · exact .inl h
  · exact .inr ⟨B, x, by rw [h, List.concat_eq_append]⟩
theorem forest_of : ∀ (n : Nat) (A : List (Int × Nat)) (d : Int), A.length = n → runS 0 A = some d → ∃ ts : List Tm, A = intS (Fo ts) ∧ d = (ts.length : Nat)
  | n, A, d, hn, h => by
    rcases nil_or_snoc A with rfl | ⟨B, ⟨k, c⟩, rfl⟩
    · simp only [runS, Option.some.injEq] at h
      exact ⟨[], rfl, h.symm⟩
    · rw [List.length_append] at hn
      obtain ⟨d', h1, h2, h3, h4⟩ := runS_snoc h
      obtain ⟨ts, e1, e2⟩ := forest_of (n - 1) B d' (by simp at hn; omega) h1
      have mk : ∀ (us : List Tm) (t : Tm), ts = us ++ t.kids → (k, c) = ((t.root.1 : Int), t.root.2) → arN k = (t.kids.length : Nat) → ∃ ts : List Tm, B ++ [(k, c)] = intS (Fo ts) ∧ d = (ts.length : Nat) := fun us t q1 q2 q3 => by
        refine ⟨us ++ [t], ?_, ?_⟩
        · rw [Fo_app, Fo_one, t.sg_eq, e1, q1, Fo_app, q2, ← List.append_assoc, intS_app (Fo us ++ Fo t.kids)]
          rfl
        · rw [h4, e2, q1, q3]
          simp
          omega
      have hk : k = 1 ∨ k = 2 ∨ k = 3 ∨ k = 4 := by
        unfold gdS at h2
        split at h2
        · omega
        · simp at h2
          omega
      have hc : k ≠ 2 → c = 0 := fun hne => by
        unfold gdS at h2
        rw [if_neg hne] at h2
        simp at h2
        exact h2.2
      rcases hk with rfl | rfl | rfl | rfl
      · exact mk ts .one (by simp [Tm.kids]) (by rw [hc (by decide)]; rfl) rfl
      · exact mk ts (.var c) (by simp [Tm.kids]) rfl rfl
      · have h3' : (2 : Int) ≤ d' := h3
        rcases nil_or_snoc ts with rfl | ⟨us, b, rfl⟩
        · simp at e2; omega
        rcases nil_or_snoc us with rfl | ⟨vs, a, rfl⟩
        · simp at e2; omega
        exact mk vs (.mul a b) (by simp [Tm.kids]) (by rw [hc (by decide)]; rfl) rfl
      · have h3' : (1 : Int) ≤ d' := h3
        rcases nil_or_snoc ts with rfl | ⟨us, b, rfl⟩
        · simp at e2; omega
        exact mk us (.om b) (by simp [Tm.kids]) (by rw [hc (by decide)]; rfl) rfl
termination_by n A => n
decreasing_by simp at hn; omega
theorem side_tm {A : List (Int × Nat)} (h : sideB A = true) : ∃ t : Tm, A = intS t.sg := by
  unfold sideB at h
  split at h
  · rename_i q hq
    obtain ⟨ts, e1, e2⟩ := forest_of _ A q rfl hq
    rw [beq_iff_eq] at h
    match ts, e1, e2 with
    | [], _, e2 => simp at e2; omega
    | [t], e1, _ => exact ⟨t, by rw [e1, Fo_one]⟩
    | _ :: _ :: _, _, e2 => simp at e2; omega
  · cases h
def Tm.pc : Tm → Pc
  | .one => (⟨#[49]⟩, 1)
  | .var c => (⟨#[UInt8.ofNat c]⟩, 2)
  | .om t => (brP t.pc ++ bOm, 4)
  | .mul a b => (a.pc.1 ++ brP b.pc, 3)
/-- From behind. -/
def Tm.turn : Tm → Sg
  | .one => [(1, 0)]
  | .var c => [(2, c)]
  | .om t => t.turn ++ [(4, 0)]
  | .mul a b => (b.turn ++ a.turn) ++ [(3, 0)]
theorem Tm.turn_len : ∀ t : Tm, t.turn.length = t.sg.length
  | .one => rfl
  | .var _ => rfl
  | .om t => by
    show (t.turn ++ _).length = (t.sg ++ _).length
    rw [List.length_append, List.length_append, t.turn_len]
  | .mul a b => by
    show ((b.turn ++ a.turn) ++ _).length = ((a.sg ++ b.sg) ++ _).length
    simp only [List.length_append, a.turn_len, b.turn_len]
    omega
theorem Tm.pc_kind (t : Tm) : t.pc.2 = t.root.1 := by cases t <;> rfl
theorem root_at (t : Tm) (X Y : Sg) : ((X ++ t.sg) ++ Y).getD (X.length + t.sg.length - 1) (0, 0) = t.root := by
  have h1 : X.length + t.sg.length - 1 = (X ++ Fo t.kids).length := by rw [t.sg_eq]; simp
  rw [h1, t.sg_eq, ← List.append_assoc X, List.append_assoc (X ++ Fo t.kids), List.getD_eq_getElem?_getD, List.getElem?_append_right (Nat.le_refl _)]
  simp
theorem om_at (t : Tm) (X Y : Sg) : (X ++ (Tm.om t).sg) ++ Y = (X ++ t.sg) ++ ((4, 0) :: Y) := by
  show (X ++ (t.sg ++ [(4, 0)])) ++ Y = _
  simp
theorem mul_at (a b : Tm) (X Y : Sg) : (X ++ (Tm.mul a b).sg) ++ Y = ((X ++ a.sg) ++ b.sg) ++ ((3, 0) :: Y) := by
  show (X ++ ((a.sg ++ b.sg) ++ [(3, 0)])) ++ Y = _
  simp
theorem mul_at' (a b : Tm) (X Y : Sg) : (X ++ (Tm.mul a b).sg) ++ Y = (X ++ a.sg) ++ (b.sg ++ ((3, 0) :: Y)) := by
  rw [mul_at, List.append_assoc (X ++ a.sg)]
theorem om_len (t : Tm) : (Tm.om t).sg.length = t.sg.length + 1 := by show (t.sg ++ _).length = _; simp
theorem mul_len (a b : Tm) : (Tm.mul a b).sg.length = a.sg.length + b.sg.length + 1 := by show ((a.sg ++ b.sg) ++ [(3, 0)]).length = _; rw [List.length_append, List.length_append]; rfl
theorem nx_tm : ∀ (t : Tm) (X Y : Sg) (f : Nat), t.sg.length ≤ f → nxP ((X ++ t.sg) ++ Y) f (X.length + t.sg.length) = some (t.pc, X.length)
  | .one, X, Y, f, hf => by
    have h1 := root_at .one X Y
    rw [show Tm.one.root = (1, 0) from rfl] at h1
    have hl : (Tm.one).sg.length = 1 := rfl
    rw [hl] at hf h1 ⊢
    obtain ⟨f, rfl⟩ : ∃ g, f = g + 1 := ⟨f - 1, by omega⟩
    rw [nxP, if_neg (by omega), h1, if_pos rfl]
    rfl
  | .var c, X, Y, f, hf => by
    have h1 := root_at (.var c) X Y
    rw [show (Tm.var c).root = (2, c) from rfl] at h1
    have hl : (Tm.var c).sg.length = 1 := rfl
    rw [hl] at hf h1 ⊢
    obtain ⟨f, rfl⟩ : ∃ g, f = g + 1 := ⟨f - 1, by omega⟩
    rw [nxP, if_neg (by omega), h1, if_neg (by show ¬ 2 = 1; decide), if_pos rfl]
    rfl
  | .om t, X, Y, f, hf => by
    have h1 := root_at (.om t) X Y
    rw [show (Tm.om t).root = (4, 0) from rfl] at h1
    have hi := nx_tm t X ((4, 0) :: Y) (f - 1) (by rw [om_len] at hf; omega)
    rw [om_len] at hf h1 ⊢
    rw [om_at] at h1 ⊢
    obtain ⟨f, rfl⟩ : ∃ g, f = g + 1 := ⟨f - 1, by omega⟩
    rw [nxP, if_neg (by omega), h1, if_neg (by show ¬ 4 = 1; decide), if_neg (by show ¬ 4 = 2; decide), if_pos rfl]
    rw [show X.length + (t.sg.length + 1) - 1 = X.length + t.sg.length by omega]
    simp only [Nat.add_sub_cancel] at hi
    rw [hi]
    rfl
  | .mul a b, X, Y, f, hf => by
    have h1 := root_at (.mul a b) X Y
    rw [show (Tm.mul a b).root = (3, 0) from rfl] at h1
    have hb := nx_tm b (X ++ a.sg) ((3, 0) :: Y) (f - 1) (by rw [mul_len] at hf; omega)
    have ha := nx_tm a X (b.sg ++ ((3, 0) :: Y)) (f - 1) (by rw [mul_len] at hf; omega)
    rw [← mul_at'] at ha
    rw [← mul_at] at hb
    rw [mul_len] at hf h1 ⊢
    obtain ⟨f, rfl⟩ : ∃ g, f = g + 1 := ⟨f - 1, by omega⟩
    rw [nxP, if_neg (by omega), h1, if_neg (by show ¬ 3 = 1; decide), if_neg (by show ¬ 3 = 2; decide), if_neg (by show ¬ 3 = 4; decide)]
    rw [show X.length + (a.sg.length + b.sg.length + 1) - 1 = (X ++ a.sg).length + b.sg.length by rw [List.length_append]; omega]
    simp only [Nat.add_sub_cancel] at ha hb
    rw [hb]
    simp only
    rw [List.length_append, ha]
    rfl
theorem wrB_tm (t : Tm) : wrB t.sg = t.pc.1 := by
  have h := nx_tm t [] [] t.sg.length (Nat.le_refl _)
  simp only [List.nil_append, List.append_nil, List.length_nil, Nat.zero_add] at h
  unfold wrB
  rw [h]
theorem take_len_app (A B : Sg) : (A ++ B).take A.length = A := by simp
theorem cut_step {l A : Sg} {us : List Tm} {t : Tm} {i : Nat} (h : l.take (i + 1) = A ++ Fo (us ++ [t])) (hi : i < l.length) : l.getD i (0, 0) = t.root ∧ l.take i = A ++ Fo (us ++ t.kids) ∧ i = (A ++ Fo (us ++ t.kids)).length := by
  have e : l.take (i + 1) = (A ++ Fo (us ++ t.kids)) ++ [t.root] := by rw [h, Fo_app, Fo_one, t.sg_eq, Fo_app, List.append_assoc, List.append_assoc]
  have hl : (l.take (i + 1)).length = i + 1 := by rw [List.length_take]; omega
  rw [e, List.length_append] at hl
  have hl2 : i = (A ++ Fo (us ++ t.kids)).length := by simp only [List.length_singleton] at hl; omega
  have e2 : l.take i = A ++ Fo (us ++ t.kids) := by
    have : l.take i = (l.take (i + 1)).take i := by rw [List.take_take]; congr 1; omega
    rw [this, e]
    conv => lhs; rw [hl2]
    exact take_len_app _ _
  refine ⟨?_, e2, hl2⟩
  have h3 : (l.take (i + 1)).getD i (0, 0) = l.getD i (0, 0) := by
    rw [List.getD_eq_getElem?_getD, List.getD_eq_getElem?_getD, List.getElem?_take]
    simp
  rw [← h3, e, List.getD_eq_getElem?_getD, List.getElem?_append_right (by omega)]
  have : i - (A ++ Fo (us ++ t.kids)).length = 0 := by omega
  rw [this]
  rfl
theorem cut_start (a b : Tm) : (Tm.mul a b).sg.take ((Tm.mul a b).sg.length - 1) = a.sg ++ Fo [b] := by
  rw [mul_len, Fo_one]
  show List.take _ ((a.sg ++ b.sg) ++ [(3, 0)]) = _
  rw [Nat.add_sub_cancel, ← List.length_append]
  exact take_len_app _ _
theorem Fo_nil {ts : List Tm} (h : ts.length = 0) : ts = [] := List.eq_nil_of_length_eq_zero h
theorem last_root (t : Tm) : t.sg.getD (t.sg.length - 1) (0, 0) = t.root := by
  have := root_at t [] []
  simpa using this
end Go.Proofs.Ythhlamehbcidgaa
