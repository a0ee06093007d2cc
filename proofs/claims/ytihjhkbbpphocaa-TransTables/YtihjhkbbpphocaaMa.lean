/- Pure: Moore's rounds: for each state the least one that is alike. -/
import Derived.Test.YtihjhkbbpphocaaJd
namespace Go.Proofs.Ytihjhkbbpphocaa
set_option linter.unusedVariables false

/-- For each place the first one of the same mark. -/
def lst {T : Type} [DecidableEq T] (f : Nat → T) (n : Nat) : List Nat := (List.range n).map fun s => ((List.range n).map f).idxOf (f s)
theorem lst_len {T : Type} [DecidableEq T] (f : Nat → T) (n : Nat) : (lst f n).length = n := by simp [lst]
theorem lst_at {T : Type} [DecidableEq T] (f : Nat → T) {n s : Nat} (h : s < n) : (lst f n)[s]? = some (((List.range n).map f).idxOf (f s)) := by simp [lst, h]
theorem lst_get {T : Type} [DecidableEq T] (f : Nat → T) {n s : Nat} (h : s < n) : (lst f n).getD s 0 = ((List.range n).map f).idxOf (f s) := by rw [List.getD_eq_getElem?_getD, lst_at f h]; rfl
theorem idxOf_ahead {T : Type} [DecidableEq T] {a : T} : ∀ {l : List T} {t : Nat}, l[t]? = some a → t < l.idxOf a → False := by
  intro l
  induction l with
  | nil => intro t h; simp at h
  | cons x l ih =>
    intro t h ht
    rw [List.idxOf_cons] at ht
    cases t with
    | zero =>
      simp at h
      subst h
      simp at ht
    | succ t =>
      by_cases e : x = a
      · subst e; simp at ht
      · have b : (x == a) = false := by simpa using e
        rw [b] at ht
        exact ih (by simpa using h) (by simp at ht; omega)
theorem idx_facts {T : Type} [DecidableEq T] (f : Nat → T) {n s : Nat} (h : s < n) : ((List.range n).map f).idxOf (f s) ≤ s ∧ f (((List.range n).map f).idxOf (f s)) = f s ∧ ∀ t, t < ((List.range n).map f).idxOf (f s) → f t ≠ f s := by
  have hm : f s ∈ (List.range n).map f := List.mem_map.2 ⟨s, List.mem_range.2 h, rfl⟩
  have hl := List.idxOf_lt_length_of_mem hm
  have hl' : ((List.range n).map f).idxOf (f s) < n := by simpa using hl
  have hg := List.getElem_idxOf hl
  have hg2 : f (((List.range n).map f).idxOf (f s)) = f s := by
    have q := List.getElem?_eq_getElem hl
    rw [hg, List.getElem?_map, List.getElem?_range hl', Option.map_some] at q
    exact Option.some.inj q
  have hb : ∀ t, t < ((List.range n).map f).idxOf (f s) → f t ≠ f s := by
    intro t ht e
    have q : ((List.range n).map f)[t]? = some (f s) := by rw [List.getElem?_map, List.getElem?_range (by omega), Option.map_some, e]
    exact idxOf_ahead q ht
  refine ⟨?_, hg2, hb⟩
  apply Nat.le_of_not_lt
  intro q
  exact hb s q rfl
theorem idx_of {T : Type} [DecidableEq T] (f : Nat → T) {n s r : Nat} (h : s < n) (hr : f r = f s) (hrs : r ≤ s) (hmin : ∀ t, t < r → f t ≠ f s) : ((List.range n).map f).idxOf (f s) = r := by
  obtain ⟨a, b, c⟩ := idx_facts f h
  rcases Nat.lt_trichotomy (((List.range n).map f).idxOf (f s)) r with q | q | q
  · exact absurd b (hmin _ q)
  · exact q
  · exact absurd hr (c r q)
/-- Two places have the same least one just where their marks are the same. -/
theorem lst_eq {T : Type} [DecidableEq T] (f : Nat → T) {n s t : Nat} (hs : s < n) (ht : t < n) : (lst f n).getD s 0 = (lst f n).getD t 0 ↔ f s = f t := by
  rw [lst_get f hs, lst_get f ht]
  constructor
  · intro e
    rw [← (idx_facts f hs).2.1, e, (idx_facts f ht).2.1]
  · intro e
    rw [e]
theorem lst_congr {T U : Type} [DecidableEq T] [DecidableEq U] {f : Nat → T} {g : Nat → U} {n : Nat} (h : ∀ s t, s < n → t < n → (f s = f t ↔ g s = g t)) : lst f n = lst g n := by
  unfold lst
  refine List.map_congr_left fun s hs => ?_
  have hs := List.mem_range.1 hs
  obtain ⟨a, b, c⟩ := idx_facts g hs
  exact idx_of f hs ((h _ _ (by omega) hs).2 b) a (fun t ht q => c t ht ((h _ _ (by omega) hs).1 q))
/-- What parts two states in the next round. -/
def sg (A : Aut) (l : List Nat) (s : Nat) : Nat × List Nat := (l.getD s 0, (List.range A.k.toNat).map fun c => l.getD (dN A s c) 0)
/-- The classes by words of at most so many letters. -/
def lvl (A : Aut) : Nat → List Nat
  | 0 => lst (aN A) A.ac.length
  | n + 1 => lst (sg A (lvl A n)) A.ac.length
theorem lvl_len (A : Aut) (n : Nat) : (lvl A n).length = A.ac.length := by cases n <;> exact lst_len _ _
/-- A list of classes: each place's least one. -/
structure Cls (n : Nat) (l : List Nat) : Prop where
  len : l.length = n
  le : ∀ s, s < n → l.getD s 0 ≤ s
  idem : ∀ s, s < n → l.getD (l.getD s 0) 0 = l.getD s 0
theorem lst_cls {T : Type} [DecidableEq T] (f : Nat → T) (n : Nat) : Cls n (lst f n) := by
  refine ⟨lst_len f n, fun s hs => ?_, fun s hs => ?_⟩
  · rw [lst_get f hs]; exact (idx_facts f hs).1
  · have h := (idx_facts f hs).1
    rw [lst_get f hs, lst_get f (by omega), (idx_facts f hs).2.1]
theorem lvl_cls (A : Aut) (n : Nat) : Cls A.ac.length (lvl A n) := by cases n <;> exact lst_cls _ _
theorem lvl_finer (A : Aut) (n : Nat) {s t : Nat} (hs : s < A.ac.length) (ht : t < A.ac.length) (h : (lvl A (n + 1)).getD s 0 = (lvl A (n + 1)).getD t 0) : (lvl A n).getD s 0 = (lvl A n).getD t 0 := by
  have := (lst_eq (sg A (lvl A n)) hs ht).1 h
  unfold sg at this
  simp only [Prod.mk.injEq] at this
  exact this.1
theorem lvl_stable (A : Aut) {n : Nat} (h : lvl A (n + 1) = lvl A n) : ∀ m, lvl A (n + m) = lvl A n := by
  intro m
  induction m with
  | zero => rfl
  | succ m ih =>
    show lst (sg A (lvl A (n + m))) A.ac.length = lvl A n
    rw [ih]
    exact h
theorem lvl_stable' (A : Aut) {n m : Nat} (h : lvl A (n + 1) = lvl A n) (hm : n ≤ m) : lvl A m = lvl A n := by
  obtain ⟨k, rfl⟩ : ∃ k, m = n + k := ⟨m - n, by omega⟩
  exact lvl_stable A h k
/-- How many least ones there are. -/
def reps (n : Nat) (l : List Nat) : Nat := ((List.range n).filter fun s => l.getD s 0 = s).length
theorem reps_le (n : Nat) (l : List Nat) : reps n l ≤ n := by
  unfold reps
  have := List.length_filter_le (fun s => decide (l.getD s 0 = s)) (List.range n)
  simpa using this
theorem filter_mono {p q : Nat → Bool} (h : ∀ s, p s = true → q s = true) : ∀ (l : List Nat), (l.filter p).length ≤ (l.filter q).length := by
  intro l
  induction l with
  | nil => simp
  | cons a l ih =>
    rw [List.filter_cons, List.filter_cons]
    by_cases hp : p a = true
    · rw [if_pos hp, if_pos (h a hp)]
      simp only [List.length_cons]
      omega
    · rw [if_neg hp]
      split
      · simp only [List.length_cons]; omega
      · exact ih
theorem filter_strict {p q : Nat → Bool} (h : ∀ s, p s = true → q s = true) : ∀ (l : List Nat) (x : Nat), x ∈ l → p x = false → q x = true → (l.filter p).length < (l.filter q).length := by
  intro l
  induction l with
  | nil => intro x hx; simp at hx
  | cons a l ih =>
    intro x hx hp hq
    have hm := filter_mono h l
    rw [List.filter_cons, List.filter_cons]
    rcases List.mem_cons.1 hx with e | hx
    · subst e
      rw [if_neg (by rw [hp]; decide), if_pos hq]
      simp only [List.length_cons]
      omega
    · have := ih x hx hp hq
      by_cases hpa : p a = true
      · rw [if_pos hpa, if_pos (h a hpa)]
        simp only [List.length_cons]
        omega
      · rw [if_neg hpa]
        split
        · simp only [List.length_cons]; omega
        · exact this
/-- A round that parts makes more classes. -/
theorem reps_more (A : Aut) (n : Nat) (h : lvl A (n + 1) ≠ lvl A n) : reps A.ac.length (lvl A n) < reps A.ac.length (lvl A (n + 1)) := by
  have c1 := lvl_cls A n
  have c2 := lvl_cls A (n + 1)
  have keep : ∀ s, s < A.ac.length → (lvl A n).getD s 0 = s → (lvl A (n + 1)).getD s 0 = s := by
    intro s hs e
    have h1 := c2.le s hs
    have h2 := lvl_finer A n (s := (lvl A (n + 1)).getD s 0) (by omega) hs (c2.idem s hs)
    rw [e] at h2
    have h3 := c1.le ((lvl A (n + 1)).getD s 0) (by omega)
    omega
  obtain ⟨s, hs, hne⟩ : ∃ s, s < A.ac.length ∧ (lvl A (n + 1)).getD s 0 ≠ (lvl A n).getD s 0 := by
    apply Classical.byContradiction
    intro q
    apply h
    apply List.ext_getElem?
    intro i
    by_cases hi : i < A.ac.length
    · have e : (lvl A (n + 1)).getD i 0 = (lvl A n).getD i 0 := Classical.byContradiction fun z => q ⟨i, hi, z⟩
      rw [List.getD_eq_getElem?_getD, List.getD_eq_getElem?_getD, List.getElem?_eq_getElem (by rw [c2.len]; exact hi), List.getElem?_eq_getElem (by rw [c1.len]; exact hi)] at e
      rw [List.getElem?_eq_getElem (by rw [c2.len]; exact hi), List.getElem?_eq_getElem (by rw [c1.len]; exact hi)]
      exact congrArg some e
    · rw [List.getElem?_eq_none (by rw [c2.len]; omega), List.getElem?_eq_none (by rw [c1.len]; omega)]
  have hr1 := c2.le s hs
  have hfin := lvl_finer A n (s := (lvl A (n + 1)).getD s 0) (by omega) hs (c2.idem s hs)
  unfold reps
  have hstep : ∀ x, x < A.ac.length → decide ((lvl A n).getD x 0 = x) = true → decide ((lvl A (n + 1)).getD x 0 = x) = true := fun x hx e => by simpa using keep x hx (by simpa using e)
  have key : ∀ x, (decide (x < A.ac.length) && decide ((lvl A n).getD x 0 = x)) = true → (decide (x < A.ac.length) && decide ((lvl A (n + 1)).getD x 0 = x)) = true := by
    intro x e
    simp only [Bool.and_eq_true, decide_eq_true_eq] at e ⊢
    exact ⟨e.1, keep x e.1 e.2⟩
  have eq1 : ∀ l : List Nat, (List.range A.ac.length).filter (fun x => decide (l.getD x 0 = x)) = (List.range A.ac.length).filter (fun x => decide (x < A.ac.length) && decide (l.getD x 0 = x)) := by
    intro l
    refine List.filter_congr fun x hx => ?_
    rw [decide_eq_true (List.mem_range.1 hx)]
    simp
  rw [eq1, eq1]
  refine filter_strict key _ ((lvl A (n + 1)).getD s 0) (List.mem_range.2 (by omega)) ?_ ?_
  · have : (lvl A n).getD ((lvl A (n + 1)).getD s 0) 0 ≠ (lvl A (n + 1)).getD s 0 := by
      rw [hfin]
      exact fun e => hne e.symm
    rw [decide_eq_false this, Bool.and_false]
  · have := c2.idem s hs
    simp only [Bool.and_eq_true, decide_eq_true_eq]
    exact ⟨by omega, this⟩
theorem reps_grow (A : Aut) : ∀ n, (∀ i, i < n → lvl A (i + 1) ≠ lvl A i) → reps A.ac.length (lvl A 0) + n ≤ reps A.ac.length (lvl A n) := by
  intro n
  induction n with
  | zero => intro _; omega
  | succ n ih =>
    intro h
    have h1 := ih (fun i hi => h i (by omega))
    have h2 := reps_more A n (h n (by omega))
    omega
theorem lvl_fix (A : Aut) {N : Nat} (h : A.ac.length ≤ reps A.ac.length (lvl A 0) + N) : lvl A (N + 1) = lvl A N := by
  apply Classical.byContradiction
  intro q
  have hall : ∀ i, i < N + 1 → lvl A (i + 1) ≠ lvl A i := by
    intro i hi e
    apply q
    rw [lvl_stable' A e (show i ≤ N + 1 by omega), lvl_stable' A e (show i ≤ N by omega)]
  have h1 := reps_grow A (N + 1) hall
  have h2 := reps_le A.ac.length (lvl A (N + 1))
  omega
/-- From as many rounds on as there are states nothing is parted any more. -/
theorem lvl_end (A : Aut) {m : Nat} (hm : A.ac.length ≤ m) : lvl A m = lvl A A.ac.length := lvl_stable' A (lvl_fix A (by omega)) hm
end Go.Proofs.Ytihjhkbbpphocaa
