/- Pure: a search for the least word that shows something; words in the order of their length, then of their letters. -/
import Derived.Test.YtihjhkbbpphocaaMa
namespace Go.Proofs.Ytihjhkbbpphocaa
set_option linter.unusedVariables false

/-- Where a word leads. -/
def wrun {S : Type} (d : S → Nat → S) (s : S) (w : List Nat) : S := w.foldl d s
theorem wrun_nil {S : Type} (d : S → Nat → S) (s : S) : wrun d s [] = s := rfl
theorem wrun_cons {S : Type} (d : S → Nat → S) (s : S) (c : Nat) (w : List Nat) : wrun d s (c :: w) = wrun d (d s c) w := rfl
theorem wrun_app {S : Type} (d : S → Nat → S) (s : S) (u v : List Nat) : wrun d s (u ++ v) = wrun d (wrun d s u) v := List.foldl_append
/-- Letter by letter, of words of one length. -/
def lxl : List Nat → List Nat → Prop
  | a :: u, b :: v => a < b ∨ (a = b ∧ lxl u v)
  | _, _ => True
theorem lxl_refl : ∀ u : List Nat, lxl u u
  | [] => trivial
  | a :: u => .inr ⟨rfl, lxl_refl u⟩
theorem lxl_trans : ∀ {u v w : List Nat}, u.length = v.length → v.length = w.length → lxl u v → lxl v w → lxl u w
  | [], _, _, _, _, _, _ => by unfold lxl; trivial
  | a :: u, [], _, h, _, _, _ => by simp at h
  | a :: u, b :: v, [], _, h, _, _ => by simp at h
  | a :: u, b :: v, c :: w, h1, h2, h3, h4 => by
    simp only [List.length_cons, Nat.add_right_cancel_iff] at h1 h2
    rcases h3 with q | ⟨rfl, q⟩
    · rcases h4 with p | ⟨rfl, p⟩
      · exact .inl (by omega)
      · exact .inl q
    · rcases h4 with p | ⟨rfl, p⟩
      · exact .inl p
      · exact .inr ⟨rfl, lxl_trans h1 h2 q p⟩
theorem lxl_anti : ∀ {u v : List Nat}, u.length = v.length → lxl u v → lxl v u → u = v
  | [], [], _, _, _ => rfl
  | [], _ :: _, h, _, _ => by simp at h
  | _ :: _, [], h, _, _ => by simp at h
  | a :: u, b :: v, h, h1, h2 => by
    simp only [List.length_cons, Nat.add_right_cancel_iff] at h
    rcases h1 with q | ⟨rfl, q⟩
    · rcases h2 with p | ⟨rfl, p⟩
      · omega
      · omega
    · rcases h2 with p | ⟨_, p⟩
      · omega
      · rw [lxl_anti h q p]
theorem lxl_app : ∀ {u v : List Nat} (x y : List Nat), u.length = v.length → lxl u v → (u = v → lxl x y) → lxl (u ++ x) (v ++ y)
  | [], [], x, y, _, _, h => h rfl
  | [], _ :: _, _, _, h, _, _ => by simp at h
  | _ :: _, [], _, _, h, _, _ => by simp at h
  | a :: u, b :: v, x, y, h, h1, h2 => by
    simp only [List.length_cons, Nat.add_right_cancel_iff] at h
    rcases h1 with q | ⟨rfl, q⟩
    · exact .inl q
    · exact .inr ⟨rfl, lxl_app x y h q (fun e => h2 (by rw [e]))⟩
theorem lxl_total : ∀ {u v : List Nat}, u.length = v.length → lxl u v ∨ lxl v u
  | [], [], _ => .inl trivial
  | [], _ :: _, h => by simp at h
  | _ :: _, [], h => by simp at h
  | a :: u, b :: v, h => by
    simp only [List.length_cons, Nat.add_right_cancel_iff] at h
    rcases Nat.lt_trichotomy a b with q | q | q
    · exact .inl (.inl q)
    · subst q
      rcases lxl_total h with p | p
      · exact .inl (.inr ⟨rfl, p⟩)
      · exact .inr (.inr ⟨rfl, p⟩)
    · exact .inr (.inl q)
/-- At most, by length and then by letters. -/
def sle (u v : List Nat) : Prop := u.length < v.length ∨ (u.length = v.length ∧ lxl u v)
theorem sle_refl (u : List Nat) : sle u u := .inr ⟨rfl, lxl_refl u⟩
theorem sle_trans {u v w : List Nat} (h : sle u v) (g : sle v w) : sle u w := by
  rcases h with h | ⟨h, h'⟩ <;> rcases g with g | ⟨g, g'⟩
  · exact .inl (by omega)
  · exact .inl (by omega)
  · exact .inl (by omega)
  · exact .inr ⟨by omega, lxl_trans h g h' g'⟩
theorem sle_anti {u v : List Nat} (h : sle u v) (g : sle v u) : u = v := by
  rcases h with h | ⟨h, h'⟩ <;> rcases g with g | ⟨g, g'⟩
  · omega
  · omega
  · omega
  · exact lxl_anti h h' g'
theorem sle_total (u v : List Nat) : sle u v ∨ sle v u := by
  rcases Nat.lt_trichotomy u.length v.length with q | q | q
  · exact .inl (.inl q)
  · rcases lxl_total q with p | p
    · exact .inl (.inr ⟨q, p⟩)
    · exact .inr (.inr ⟨q.symm, p⟩)
  · exact .inr (.inl q)
theorem sle_app {u v : List Nat} (h : sle u v) (x : List Nat) : sle (u ++ x) (v ++ x) := by
  rcases h with h | ⟨h, h'⟩
  · exact .inl (by simp; omega)
  · exact .inr ⟨by simp; omega, lxl_app x x h h' (fun _ => lxl_refl x)⟩
theorem sle_more (u x : List Nat) : sle u (u ++ x) := by
  cases x with
  | nil => rw [List.append_nil]; exact sle_refl u
  | cons a x => exact .inl (by simp)
theorem sle_nil (u : List Nat) : sle [] u := sle_more [] u
/-- Less. -/
def slt (u v : List Nat) : Prop := sle u v ∧ u ≠ v
theorem slt_snoc {u v : List Nat} (h : slt u v) (a b : Nat) : slt (u ++ [a]) (v ++ [b]) := by
  obtain ⟨h, hne⟩ := h
  refine ⟨?_, fun e => hne (List.append_inj_left' e rfl)⟩
  rcases h with h | ⟨h, h'⟩
  · exact .inl (by simp; omega)
  · exact .inr ⟨by simp; omega, lxl_app _ _ h h' (fun e => absurd e hne)⟩
theorem slt_letter (u : List Nat) {a b : Nat} (h : a < b) : slt (u ++ [a]) (u ++ [b]) := by
  refine ⟨.inr ⟨by simp, lxl_app _ _ rfl (lxl_refl u) (fun _ => .inl h)⟩, fun e => ?_⟩
  have := List.append_cancel_left e
  simp at this
  omega
theorem slt_nil (u : List Nat) (a : Nat) : slt [] (u ++ [a]) := ⟨sle_nil _, by simp⟩
/-- A node of the search: a state, by which node and letter it was met, and the word that leads to it. -/
structure Nod (S : Type) where
  p : S
  u : Nat
  c : Nat
  w : List Nat
/-- What the search knows: nodes Q; all letters of the nodes ahead of i were gone through, and of i those below c. -/
structure QI {S : Type} (d : S → Nat → S) (k : Nat) (sh : S → Bool) (x : S) (Q : List (Nod S)) (i c : Nat) : Prop where
  ne : ∃ n : Nod S, Q[0]? = some n ∧ n.p = x ∧ n.w = []
  up : ∀ (j : Nat) (n : Nod S), Q[j]? = some n → 0 < j → ∃ m : Nod S, Q[n.u]? = some m ∧ n.u < j ∧ n.w = m.w ++ [n.c] ∧ n.p = d m.p n.c ∧ n.c < k ∧ (n.u < i ∨ (n.u = i ∧ n.c < c))
  ord : ∀ (j j' : Nat) (n n' : Nod S), j < j' → Q[j]? = some n → Q[j']? = some n' → slt n.w n'.w
  cov : ∀ (j : Nat) (n : Nod S) (a : Nat), Q[j]? = some n → a < k → (j < i ∨ (j = i ∧ a < c)) → ∀ v, sh (wrun d (d n.p a) v) = true → ∃ (j' : Nat) (n' : Nod S), Q[j']? = some n' ∧ sle n'.w (n.w ++ [a]) ∧ sh (wrun d n'.p v) = true
theorem QI.start {S : Type} (d : S → Nat → S) (k : Nat) (sh : S → Bool) (x : S) (a b : Nat) : QI d k sh x [⟨x, a, b, []⟩] 0 0 := by
  refine ⟨⟨_, rfl, rfl, rfl⟩, fun j n h h0 => ?_, fun j j' n n' h h1 h2 => ?_, fun j n a h _ hl => ?_⟩
  · have := (List.getElem?_eq_some_iff.1 h).1; simp at this; omega
  · have := (List.getElem?_eq_some_iff.1 h2).1; simp at this; omega
  · omega
/-- All words that were met stand ahead of the next one. -/
theorem QI.ahead {S : Type} {d : S → Nat → S} {k : Nat} {sh : S → Bool} {x : S} {Q : List (Nod S)} {i c : Nat} (h : QI d k sh x Q i c) {n : Nod S} (hi : Q[i]? = some n) {j : Nat} {m : Nod S} (hj : Q[j]? = some m) : slt m.w (n.w ++ [c]) := by
  by_cases h0 : 0 < j
  · obtain ⟨m', h1, h2, h3, h4, h5, h6⟩ := h.up j m hj h0
    rw [h3]
    rcases h6 with h6 | ⟨h6, h7⟩
    · exact slt_snoc (h.ord _ _ _ _ h6 h1 hi) _ _
    · rw [h6, hi, Option.some.injEq] at h1
      rw [← h1]
      exact slt_letter _ h7
  · obtain ⟨n0, q1, q2, q3⟩ := h.ne
    have : j = 0 := by omega
    subst this
    rw [hj, Option.some.injEq] at q1
    rw [q1, q3]
    exact slt_nil _ _
theorem QI.old {S : Type} {d : S → Nat → S} {k : Nat} {sh : S → Bool} {x : S} {Q : List (Nod S)} {i c : Nat} (h : QI d k sh x Q i c) {n : Nod S} (hi : Q[i]? = some n) (hc : ∀ v, sh (wrun d (d n.p c) v) = true → ∃ m ∈ Q, sh (wrun d m.p v) = true) : QI d k sh x Q i (c + 1) := by
  refine ⟨h.ne, fun j m hj h0 => ?_, h.ord, fun j m a hj ha hl v hv => ?_⟩
  · obtain ⟨m', h1, h2, h3, h4, h5, h6⟩ := h.up j m hj h0
    exact ⟨m', h1, h2, h3, h4, h5, by omega⟩
  · by_cases hl' : j < i ∨ (j = i ∧ a < c)
    · exact h.cov j m a hj ha hl' v hv
    · have e1 : j = i := by omega
      have e2 : a = c := by omega
      subst e1 e2
      rw [hi, Option.some.injEq] at hj
      subst hj
      obtain ⟨m', hm, hs⟩ := hc v hv
      obtain ⟨j', hj'⟩ := List.getElem?_of_mem hm
      exact ⟨j', m', hj', (h.ahead hi hj').1, hs⟩
theorem nod_snoc {α : Type} {l : List α} {a : α} {i : Nat} {b : α} (h : (l ++ [a])[i]? = some b) : l[i]? = some b ∨ (i = l.length ∧ b = a) := by
  rcases Nat.lt_trichotomy i l.length with q | q | q
  · rw [List.getElem?_append_left q] at h; exact .inl h
  · subst q; rw [List.getElem?_concat_length] at h; exact .inr ⟨rfl, (Option.some.inj h).symm⟩
  · rw [List.getElem?_eq_none (by simp; omega)] at h; cases h
theorem QI.new {S : Type} {d : S → Nat → S} {k : Nat} {sh : S → Bool} {x : S} {Q : List (Nod S)} {i c : Nat} (h : QI d k sh x Q i c) {n : Nod S} (hi : Q[i]? = some n) (hk : c < k) : QI d k sh x (Q ++ [⟨d n.p c, i, c, n.w ++ [c]⟩]) i (c + 1) := by
  have hil := (List.getElem?_eq_some_iff.1 hi).1
  have lf : ∀ {j m}, Q[j]? = some m → (Q ++ [(⟨d n.p c, i, c, n.w ++ [c]⟩ : Nod S)])[j]? = some m := fun {j m} hj => by
    rw [List.getElem?_append_left (List.getElem?_eq_some_iff.1 hj).1]; exact hj
  have lst : (Q ++ [(⟨d n.p c, i, c, n.w ++ [c]⟩ : Nod S)])[Q.length]? = some ⟨d n.p c, i, c, n.w ++ [c]⟩ := List.getElem?_concat_length
  refine ⟨?_, fun j m hj h0 => ?_, fun j j' m m' hjj hj hj' => ?_, fun j m a hj ha hl v hv => ?_⟩
  · obtain ⟨n0, q1, q2⟩ := h.ne
    exact ⟨n0, lf q1, q2⟩
  · rcases nod_snoc hj with hj | ⟨rfl, rfl⟩
    · obtain ⟨m', h1, h2, h3, h4, h5, h6⟩ := h.up j m hj h0
      exact ⟨m', lf h1, h2, h3, h4, h5, by omega⟩
    · exact ⟨n, lf hi, hil, rfl, rfl, hk, .inr ⟨rfl, Nat.lt_succ_self _⟩⟩
  · rcases nod_snoc hj' with hj' | ⟨rfl, rfl⟩
    · rcases nod_snoc hj with hj | ⟨rfl, rfl⟩
      · exact h.ord _ _ _ _ hjj hj hj'
      · have := (List.getElem?_eq_some_iff.1 hj').1; omega
    · rcases nod_snoc hj with hj | ⟨rfl, rfl⟩
      · exact h.ahead hi hj
      · omega
  · rcases nod_snoc hj with hj | ⟨rfl, rfl⟩
    · by_cases hl' : j < i ∨ (j = i ∧ a < c)
      · obtain ⟨j', m', h1, h2, h3⟩ := h.cov j m a hj ha hl' v hv
        exact ⟨j', m', lf h1, h2, h3⟩
      · have e1 : j = i := by omega
        have e2 : a = c := by omega
        subst e1 e2
        have e3 : n = m := Option.some.inj (hi.symm.trans (by assumption))
        subst e3
        exact ⟨Q.length, _, lst, sle_refl _, hv⟩
    · omega
theorem QI.next {S : Type} {d : S → Nat → S} {k : Nat} {sh : S → Bool} {x : S} {Q : List (Nod S)} {i : Nat} (h : QI d k sh x Q i k) : QI d k sh x Q (i + 1) 0 := by
  refine ⟨h.ne, fun j m hj h0 => ?_, h.ord, fun j m a hj ha hl v hv => h.cov j m a hj ha (by omega) v hv⟩
  obtain ⟨m', h1, h2, h3, h4, h5, h6⟩ := h.up j m hj h0
  exact ⟨m', h1, h2, h3, h4, h5, by omega⟩
/-- Its word leads to each node, and has letters below k. -/
theorem QI.leads {S : Type} {d : S → Nat → S} {k : Nat} {sh : S → Bool} {x : S} {Q : List (Nod S)} {i c : Nat} (h : QI d k sh x Q i c) : ∀ (j : Nat) (n : Nod S), Q[j]? = some n → wrun d x n.w = n.p ∧ (∀ a ∈ n.w, a < k) ∧ n.w.length ≤ j := by
  intro j
  induction j using Nat.strongRecOn with
  | ind j ih =>
    intro n hj
    by_cases h0 : 0 < j
    · obtain ⟨m, h1, h2, h3, h4, h5, h6⟩ := h.up j n hj h0
      obtain ⟨i1, i2, i3⟩ := ih n.u h2 m h1
      rw [h3, h4]
      refine ⟨by rw [wrun_app, i1]; rfl, fun a ha => ?_, by simp; omega⟩
      rcases List.mem_append.1 ha with q | q
      · exact i2 a q
      · simp at q; omega
    · obtain ⟨n0, q1, q2, q3⟩ := h.ne
      have : j = 0 := by omega
      subst this
      rw [hj, Option.some.injEq] at q1
      rw [q1, q3, ← q2]
      exact ⟨rfl, by simp, by simp⟩
/-- The least word that shows it. -/
def Lsh {S : Type} (d : S → Nat → S) (k : Nat) (sh : S → Bool) (x : S) (w : List Nat) : Prop := (∀ a ∈ w, a < k) ∧ sh (wrun d x w) = true ∧ ∀ v, (∀ a ∈ v, a < k) → sh (wrun d x v) = true → sle w v
theorem Lsh.uniq {S : Type} {d : S → Nat → S} {k : Nat} {sh : S → Bool} {x : S} {w v : List Nat} (h : Lsh d k sh x w) (g : Lsh d k sh x v) : w = v := sle_anti (h.2.2 v g.1 g.2.1) (g.2.2 w h.1 h.2.1)
/-- A node that shows it first, where all that is not gone through yet stands behind it. -/
theorem QI.found {S : Type} {d : S → Nat → S} {k : Nat} {sh : S → Bool} {x : S} {Q : List (Nod S)} {i c t : Nat} (h : QI d k sh x Q i c) {n : Nod S} (ht : Q[t]? = some n) (hs : sh n.p = true) (hf : ∀ j m, j < t → Q[j]? = some m → sh m.p = false) (hb : ∀ j m a, Q[j]? = some m → ¬ (j < i ∨ (j = i ∧ a < c)) → sle n.w (m.w ++ [a])) : Lsh d k sh x n.w := by
  obtain ⟨l1, l2, _⟩ := h.leads t n ht
  refine ⟨l2, by rw [l1]; exact hs, fun v hv hsv => ?_⟩
  have key : ∀ (v : List Nat), (∀ a ∈ v, a < k) → ∀ (j : Nat) (m : Nod S), Q[j]? = some m → sh (wrun d m.p v) = true → sle n.w (m.w ++ v) := by
    intro v
    induction v with
    | nil =>
      intro _ j m hj hm
      rw [List.append_nil]
      by_cases hjt : j < t
      · rw [wrun_nil, hf j m hjt hj] at hm; cases hm
      · by_cases e : j = t
        · rw [e, ht, Option.some.injEq] at hj; rw [hj]; exact sle_refl _
        · exact (h.ord t j n m (by omega) ht hj).1
    | cons a v ih =>
      intro hv j m hj hm
      have e : m.w ++ a :: v = (m.w ++ [a]) ++ v := by simp
      rw [e]
      by_cases hp : j < i ∨ (j = i ∧ a < c)
      · obtain ⟨j', m', q1, q2, q3⟩ := h.cov j m a hj (hv a (by simp)) hp v hm
        exact sle_trans (ih (fun b hb => hv b (by simp [hb])) j' m' q1 q3) (sle_app q2 v)
      · exact sle_trans (hb j m a hj hp) (sle_more _ _)
  obtain ⟨n0, q1, q2, q3⟩ := h.ne
  have := key v hv 0 n0 q1 (by rw [q2]; exact hsv)
  rw [q3] at this
  exact this
/-- All was gone through, and none shows it. -/
theorem QI.none {S : Type} {d : S → Nat → S} {k : Nat} {sh : S → Bool} {x : S} {Q : List (Nod S)} {i : Nat} (h : QI d k sh x Q i 0) (hi : Q.length ≤ i) (hf : ∀ m ∈ Q, sh m.p = false) : ∀ v, (∀ a ∈ v, a < k) → sh (wrun d x v) = false := by
  have key : ∀ (v : List Nat), (∀ a ∈ v, a < k) → ∀ m ∈ Q, sh (wrun d m.p v) = false := by
    intro v
    induction v with
    | nil => intro _ m hm; exact hf m hm
    | cons a v ih =>
      intro hv m hm
      cases hs : sh (wrun d m.p (a :: v)) with
      | false => rfl
      | true =>
        obtain ⟨j, hj⟩ := List.getElem?_of_mem hm
        obtain ⟨j', m', q1, q2, q3⟩ := h.cov j m a hj (hv a (by simp)) (.inl (by have := (List.getElem?_eq_some_iff.1 hj).1; omega)) v hs
        rw [ih (fun b hb => hv b (by simp [hb])) m' (List.mem_of_getElem? q1)] at q3
        cases q3
  intro v hv
  obtain ⟨n0, q1, q2, q3⟩ := h.ne
  have := key v hv n0 (List.mem_of_getElem? q1)
  rw [q2] at this
  exact this
open Classical in
/-- The least word that shows it, if there is one. -/
noncomputable def lsh {S : Type} (d : S → Nat → S) (k : Nat) (sh : S → Bool) (x : S) : Option (List Nat) := if h : ∃ w, Lsh d k sh x w then some h.choose else none
theorem lsh_some {S : Type} {d : S → Nat → S} {k : Nat} {sh : S → Bool} {x : S} {w : List Nat} (h : Lsh d k sh x w) : lsh d k sh x = some w := by
  unfold lsh
  rw [dif_pos ⟨w, h⟩]
  exact congrArg some ((Exists.choose_spec (⟨w, h⟩ : ∃ w, Lsh d k sh x w)).uniq h)
theorem lsh_none {S : Type} {d : S → Nat → S} {k : Nat} {sh : S → Bool} {x : S} (h : ∀ v, (∀ a ∈ v, a < k) → sh (wrun d x v) = false) : lsh d k sh x = none := by
  unfold lsh
  rw [dif_neg]
  rintro ⟨w, h1, h2, _⟩
  rw [h w h1] at h2
  cases h2
end Go.Proofs.Ytihjhkbbpphocaa
