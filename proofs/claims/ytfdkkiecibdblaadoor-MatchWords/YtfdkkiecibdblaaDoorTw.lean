/- A tree's parts are trees; the heaviest way of a tree, by its parts (pure facts of lists of nodes). -/
import Derived.Test.YtfdkkiecibdblaaDoorTh
namespace Go.Proofs.YtfdkkiecibdblaaDoor
open Go.RowKit

theorem freeN_snoc (ts : List Nd) (n : Nd) : freeN (ts ++ [n]) = (freeN ts).bind fun h => if good n ∧ arity n.1 ≤ h then some (h - arity n.1 + 1) else none := by
  unfold freeN; rw [frees_append]; rfl
theorem stkN_snoc (ts : List Nd) (n : Nd) : stkN (ts ++ [n]) = push n (stkN ts) := by
  have h := stk_take (ts := ts ++ [n]) (i := ts.length) (by simp)
  rw [List.take_of_length_le (by simp), List.take_left] at h
  simpa using h
theorem heavyN_snoc (wt : Nd → Nat) (ts : List Nd) (n : Nd) : heavyN wt (ts ++ [n]) = hpush wt n (heavyN wt ts) := by
  have h := heavy_take (wt := wt) (ts := ts ++ [n]) (i := ts.length) (by simp)
  rw [List.take_of_length_le (by simp), List.take_left] at h
  simpa using h
/-- Induction from the list's end. -/
theorem snoc_ind {P : List Nd → Prop} (h0 : P []) (h1 : ∀ ts n, P ts → P (ts ++ [n])) : ∀ ts, P ts := by
  intro ts
  have h : ∀ k, k ≤ ts.length → P (ts.take k) := by
    intro k
    induction k with
    | zero => intro _; simpa using h0
    | succ k ih =>
      intro hk
      have e : ts.take (k + 1) = ts.take k ++ [ts.getD k (0, 0)] := by
        rw [List.take_add_one, List.getElem?_eq_getElem (by omega)]
        simp [List.getD_eq_getElem?_getD, List.getElem?_eq_getElem (show k < ts.length by omega)]
      rw [e]
      exact h1 _ _ (ih (by omega))
  simpa using h ts.length (Nat.le_refl _)
/-- A list is read the same way above other trees. -/
theorem frees_over (v : List Nd) : ∀ c, freeN v = some c → ∀ h, frees v (some h) = some (h + c) := by
  refine snoc_ind (P := fun v => ∀ c, freeN v = some c → ∀ h, frees v (some h) = some (h + c)) ?_ ?_ v
  · intro c hc h
    simp only [freeN, frees, Option.some.injEq] at hc
    subst hc; rfl
  · intro ts n ih c hc h
    rw [freeN_snoc] at hc
    cases hd : freeN ts with
    | none => rw [hd] at hc; simp at hc
    | some d =>
      rw [hd] at hc
      simp only [Option.bind_some] at hc
      by_cases hg : good n = true ∧ arity n.1 ≤ d
      · rw [if_pos hg] at hc
        simp only [Option.some.injEq] at hc
        rw [frees_append, ih d hd h]
        simp only [frees, Option.bind_some]
        rw [if_pos ⟨hg.1, by omega⟩, Option.some.injEq]
        omega
      · rw [if_neg hg] at hc; cases hc
theorem heavy_over (wt : Nd → Nat) (v : List Nd) : ∀ c, freeN v = some c → (heavyN wt v).length = c ∧ ∀ F, heavy wt v F = F ++ heavyN wt v := by
  refine snoc_ind (P := fun v => ∀ c, freeN v = some c → (heavyN wt v).length = c ∧ ∀ F, heavy wt v F = F ++ heavyN wt v) ?_ ?_ v
  · intro c hc
    simp only [freeN, frees, Option.some.injEq] at hc
    subst hc
    exact ⟨rfl, fun F => by simp [heavy, heavyN]⟩
  · intro ts n ih c hc
    rw [freeN_snoc] at hc
    cases hd : freeN ts with
    | none => rw [hd] at hc; simp at hc
    | some d =>
      rw [hd] at hc
      simp only [Option.bind_some] at hc
      by_cases hg : good n = true ∧ arity n.1 ≤ d
      · rw [if_pos hg] at hc
        simp only [Option.some.injEq] at hc
        obtain ⟨hl, ho⟩ := ih d hd
        refine ⟨by rw [heavyN_snoc, hpush_len]; omega, fun F => ?_⟩
        rw [heavy_append, ho F, heavyN_snoc]
        show hpush wt n (F ++ heavyN wt ts) = _
        unfold hpush
        have e1 : (F ++ heavyN wt ts).length - arity n.1 = F.length + ((heavyN wt ts).length - arity n.1) := by rw [List.length_append]; omega
        rw [e1, List.take_length_add_append, List.drop_length_add_append, List.append_assoc]
      · rw [if_neg hg] at hc; cases hc
/-- The trees that stand free, as pieces of the list, the last one first. -/
def Trees : List Nd → List Nat → Prop
  | ts, [] => ts = []
  | ts, a :: s => ∃ u v, ts = u ++ v ∧ v.length = a ∧ freeN v = some 1 ∧ Trees u s
theorem trees_any (ts : List Nd) : ∀ c, freeN ts = some c → Trees ts (stkN ts) := by
  refine snoc_ind (P := fun ts => ∀ c, freeN ts = some c → Trees ts (stkN ts)) ?_ ?_ ts
  · intro c _; rfl
  · intro ts n ih c hc
    rw [freeN_snoc] at hc
    cases hd : freeN ts with
    | none => rw [hd] at hc; simp at hc
    | some d =>
      rw [hd] at hc
      simp only [Option.bind_some] at hc
      by_cases hg : good n = true ∧ arity n.1 ≤ d
      · have hT := ih d hd
        have hl : (stkN ts).length = d := by
          have := stk_len (ts := ts) ts.length (Nat.le_refl _) d (by rwa [List.take_length])
          rwa [List.take_length] at this
        rw [stkN_snoc]
        have ha := arity_le n.1
        obtain ⟨k, hk⟩ : ∃ k, arity n.1 = k := ⟨_, rfl⟩
        cases hs : stkN ts with
        | nil =>
          rw [hs] at hl hT
          have h0 : arity n.1 = 0 := by simp at hl; omega
          simp only [push, h0]
          exact ⟨ts, [n], rfl, rfl, by simp [freeN, frees, hg.1, h0], hT⟩
        | cons a s =>
          rw [hs] at hl hT
          by_cases h0 : arity n.1 = 0
          · simp only [push, h0]
            exact ⟨ts, [n], rfl, rfl, by simp [freeN, frees, hg.1, h0], hT⟩
          · obtain ⟨u, v, e, hv, hf, hu⟩ := hT
            by_cases h1 : arity n.1 = 1
            · simp only [push, h1]
              refine ⟨u, v ++ [n], by rw [e, List.append_assoc], by simp [hv]; omega, ?_, hu⟩
              rw [freeN_snoc, hf]; simp [hg.1, h1]
            · have h2 : arity n.1 = 2 := by omega
              cases s with
              | nil => simp at hl; omega
              | cons b s =>
                obtain ⟨u', v', e', hv', hf', hu'⟩ := hu
                simp only [push, h2]
                refine ⟨u', v' ++ v ++ [n], by rw [e, e']; simp, by simp [hv, hv']; omega, ?_, hu'⟩
                rw [freeN_snoc, freeN, frees_append]
                rw [show frees v' (some 0) = some 1 from hf', frees_over v 1 hf 1]
                simp [hg.1, h2]
      · rw [if_neg hg] at hc; cases hc
/-- A tree is what its root takes, and the root behind it. -/
theorem tree_last {ts : List Nd} (h : freeN ts = some 1) {k s : Int} (hn : ts.getD (ts.length - 1) (0, 0) = (k, s)) :
    freeN (ts.take (ts.length - 1)) = some (arity k) ∧ ts = ts.take (ts.length - 1) ++ [(k, s)] := by
  have h0 := (tree_end h).1
  obtain ⟨c, hc, hg, ha, hx⟩ := free_good h (i := ts.length - 1) (by omega)
  rw [show ts.length - 1 + 1 = ts.length by omega, List.take_length, h, hn] at hx
  simp only [Option.some.injEq] at hx
  rw [hn] at ha
  refine ⟨by rw [hc, Option.some.injEq]; simp only at ha; omega, ?_⟩
  have e : ts.take (ts.length - 1 + 1) = ts.take (ts.length - 1) ++ [(k, s)] := by
    rw [List.take_add_one]
    have : ts[ts.length - 1]? = some (k, s) := by
      rw [List.getElem?_eq_getElem (by omega)]
      rw [List.getD_eq_getElem?_getD, List.getElem?_eq_getElem (by omega)] at hn
      simpa using hn
    rw [this]; rfl
  rwa [show ts.length - 1 + 1 = ts.length by omega, List.take_length] at e
/-- The parts of a tree whose root has two. -/
theorem tree_two {ts : List Nd} (h : freeN ts = some 1) {k s : Int} (hn : ts.getD (ts.length - 1) (0, 0) = (k, s)) {a b : Nat} (hstk : stkN (ts.take (ts.length - 1)) = [a, b]) :
    ∃ p q, ts = p ++ q ++ [(k, s)] ∧ freeN p = some 1 ∧ freeN q = some 1 ∧ ts.take b = p ∧ (ts.take (ts.length - 1)).drop b = q := by
  obtain ⟨hf, he⟩ := tree_last h hn
  have hT := trees_any _ _ hf
  rw [hstk] at hT
  obtain ⟨u, v, e, hv, hfv, u', v', e', hv', hfv', hu'⟩ := hT
  have hu0 : u' = [] := hu'
  subst hu0
  simp only [List.nil_append] at e'
  subst e'
  refine ⟨u, v, by rw [← e]; exact he, hfv', hfv, ?_, by rw [e, ← hv', List.drop_left]⟩
  rw [he, e, ← hv', List.append_assoc, List.take_left]
theorem free_pos {ts : List Nd} (h : freeN ts = some 1) : 1 ≤ ts.length := (tree_end h).1
/-- A single list. -/
theorem heavy_one {wt : Nd → Nat} {ts : List Nd} (h : freeN ts = some 1) : heavyN wt ts = [(heavyN wt ts).getD 0 0] := by
  have hl := (heavy_over wt ts 1 h).1
  match hh : heavyN wt ts, hl with
  | [x], _ => rfl
theorem way_zero {wt : Nd → Nat} {ts : List Nd} (h : freeN ts = some 1) {k s : Int} (hn : ts.getD (ts.length - 1) (0, 0) = (k, s)) (hr : arity k = 0) : (heavyN wt ts).getD 0 0 = wt (k, s) := by
  obtain ⟨hf, he⟩ := tree_last h hn
  have hl := (heavy_over wt _ _ hf).1
  rw [hr] at hl
  rw [he, heavyN_snoc, List.eq_nil_of_length_eq_zero hl]
  simp [hpush, hr]
theorem way_one {wt : Nd → Nat} {ts : List Nd} (h : freeN ts = some 1) {k s : Int} (hn : ts.getD (ts.length - 1) (0, 0) = (k, s)) (hr : arity k = 1) : (heavyN wt ts).getD 0 0 = (heavyN wt (ts.take (ts.length - 1))).getD 0 0 + wt (k, s) := by
  obtain ⟨hf, he⟩ := tree_last h hn
  rw [hr] at hf
  generalize hg : ts.take (ts.length - 1) = p at *
  rw [he, heavyN_snoc, heavy_one hf]
  simp [hpush, hr]
theorem way_two {wt : Nd → Nat} {p q : List Nd} {k s : Int} (hp : freeN p = some 1) (hq : freeN q = some 1) (hr : arity k = 2) : (heavyN wt (p ++ q ++ [(k, s)])).getD 0 0 = max ((heavyN wt p).getD 0 0) ((heavyN wt q).getD 0 0) + wt (k, s) := by
  rw [heavyN_snoc, heavyN, heavy_append, (heavy_over wt q 1 hq).2]
  rw [show heavy wt p [] = heavyN wt p from rfl, heavy_one hp, heavy_one hq]
  simp [hpush, hr]
theorem way_pos {ts : List Nd} (h : freeN ts = some 1) : 1 ≤ (heavyN (fun _ => 1) ts).getD 0 0 := by
  obtain ⟨c, hc, hg, ha, hx⟩ := free_good h (i := ts.length - 1) (by have := (tree_end h).1; omega)
  have he := (tree_last h (k := (ts.getD (ts.length - 1) (0, 0)).1) (s := (ts.getD (ts.length - 1) (0, 0)).2) rfl).2
  have hh := heavy_one (wt := fun _ => 1) h
  rw [he, heavyN_snoc] at hh ⊢
  generalize heavyN (fun _ => 1) (ts.take (ts.length - 1)) = F at *
  unfold hpush at hh ⊢
  generalize List.take _ F = A at *
  generalize List.foldl _ _ _ = m at *
  cases A with
  | nil => simp
  | cons x A => simp at hh
end Go.Proofs.YtfdkkiecibdblaaDoor
