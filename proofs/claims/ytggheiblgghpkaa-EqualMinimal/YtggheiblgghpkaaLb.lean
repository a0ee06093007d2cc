/- Pure: a forest whose trees are joined; what hangs together is told by what was met. -/
import Derived.Test.YtggheiblgghpkaaLa
namespace Go.Proofs.Ytggheiblgghpkaa
set_option linter.unusedVariables false

theorem getD_set {f : List Nat} {x y v : Nat} (h : x < f.length) : (f.set x v).getD y 0 = if x = y then v else f.getD y 0 := by
  rw [List.getD_eq_getElem?_getD, List.getElem?_set]
  by_cases e : x = y
  · subst e; simp [h]
  · simp [e, List.getD_eq_getElem?_getD]
/-- A forest f of N: r is each one's root, e falls on the way up. -/
structure UF (N : Nat) (f : List Nat) (r e : Nat → Nat) : Prop where
  len : f.length = N
  lt : ∀ x, x < N → f.getD x 0 < N
  fix : ∀ x, x < N → (f.getD x 0 = x ↔ r x = x)
  inv : ∀ x, x < N → r (f.getD x 0) = r x
  dec : ∀ x, x < N → f.getD x 0 ≠ x → e (f.getD x 0) < e x
theorem UF.root' {N : Nat} {f : List Nat} {r e : Nat → Nat} (h : UF N f r e) : ∀ m x, e x ≤ m → x < N → r x < N ∧ r (r x) = r x := by
  intro m
  induction m with
  | zero =>
    intro x he hx
    by_cases q : f.getD x 0 = x
    · have := (h.fix x hx).1 q
      rw [this]; exact ⟨hx, this⟩
    · have := h.dec x hx q; omega
  | succ m ih =>
    intro x he hx
    by_cases q : f.getD x 0 = x
    · have := (h.fix x hx).1 q
      rw [this]; exact ⟨hx, this⟩
    · have h1 := h.dec x hx q
      have h2 := ih (f.getD x 0) (by omega) (h.lt x hx)
      rw [h.inv x hx] at h2
      exact h2
theorem UF.root {N : Nat} {f : List Nat} {r e : Nat → Nat} (h : UF N f r e) {x : Nat} (hx : x < N) : r x < N ∧ r (r x) = r x := h.root' (e x) x (Nat.le_refl _) hx
theorem UF.halve {N : Nat} {f : List Nat} {r e : Nat → Nat} (h : UF N f r e) {x : Nat} (hx : x < N) (hn : f.getD x 0 ≠ x) : UF N (f.set x (f.getD (f.getD x 0) 0)) r e := by
  have hl : x < f.length := by rw [h.len]; exact hx
  have h1 := h.lt x hx
  have d1 := h.dec x hx hn
  have d2 : e (f.getD (f.getD x 0) 0) ≤ e (f.getD x 0) := by
    by_cases q : f.getD (f.getD x 0) 0 = f.getD x 0
    · rw [q]; exact Nat.le_refl _
    · exact Nat.le_of_lt (h.dec _ h1 q)
  refine ⟨by simp [h.len], fun y hy => ?_, fun y hy => ?_, fun y hy => ?_, fun y hy => ?_⟩ <;> rw [getD_set hl]
  · split
    · exact h.lt _ h1
    · exact h.lt y hy
  · split
    · rename_i q
      subst q
      constructor
      · intro q; rw [q] at d2; omega
      · intro q; exact absurd ((h.fix x hx).2 q) hn
    · exact h.fix y hy
  · split
    · rename_i q
      subst q
      rw [h.inv _ h1, h.inv _ hx]
    · exact h.inv y hy
  · split
    · rename_i q
      subst q
      intro _; omega
    · exact h.dec y hy
/-- How many trees there are. -/
def rts (N : Nat) (r : Nat → Nat) : Nat := ((List.range N).filter fun x => r x = x).length
/-- The root of each one, behind the joining of s and t. -/
def jn (r : Nat → Nat) (s t : Nat) : Nat → Nat := fun x => if r x = r s then r t else r x
theorem UF.link {N : Nat} {f : List Nat} {r e : Nat → Nat} (h : UF N f r e) {s t : Nat} (hs : s < N) (ht : t < N) (hne : r s ≠ r t) : ∃ e', UF N (f.set (r s) (r t)) (jn r s t) e' := by
  obtain ⟨s1, s2⟩ := h.root hs
  obtain ⟨t1, t2⟩ := h.root ht
  have hl : r s < f.length := by rw [h.len]; exact s1
  refine ⟨fun x => if r x = r s then e x + e (r t) + 1 else e x, by simp [h.len], fun y hy => ?_, fun y hy => ?_, fun y hy => ?_, fun y hy => ?_⟩ <;> rw [getD_set hl]
  · split
    · exact t1
    · exact h.lt y hy
  · unfold jn
    split
    · rename_i q
      subst q
      rw [if_pos s2]
    · rename_i q
      split
      · rename_i p
        constructor
        · intro z
          have := (h.fix y hy).1 z
          rw [p] at this
          exact absurd this q
        · intro z
          rw [← z, t2] at p
          exact absurd p.symm hne
      · exact h.fix y hy
  · unfold jn
    split
    · rename_i q
      subst q
      rw [if_neg (by rw [t2]; exact fun z => hne z.symm), if_pos s2, t2]
    · rw [h.inv y hy]
  · split
    · rename_i q
      subst q
      intro _
      simp only [if_neg (show ¬ r (r t) = r s by rw [t2]; exact fun z => hne z.symm), if_pos s2]
      omega
    · intro z
      have := h.dec y hy z
      simp only [h.inv y hy]
      split <;> omega
theorem UF.stay {N : Nat} {f : List Nat} {r e : Nat → Nat} (h : UF N f r e) {s : Nat} (hs : s < N) : f.set (r s) (r s) = f := by
  obtain ⟨s1, s2⟩ := h.root hs
  have h1 := (h.fix _ s1).2 s2
  apply List.ext_getElem?
  intro j
  rw [List.getElem?_set]
  split
  · rename_i q
    subst q
    have hl : r s < f.length := by rw [h.len]; exact s1
    rw [if_pos hl, List.getElem?_eq_getElem hl]
    rw [List.getD_eq_getElem?_getD, List.getElem?_eq_getElem hl] at h1
    exact congrArg some h1.symm
  · rfl
theorem UF.id (N : Nat) : UF N (List.range N) (fun x => x) (fun _ => 0) := by
  have : ∀ x, x < N → (List.range N).getD x 0 = x := fun x hx => by rw [List.getD_eq_getElem?_getD, List.getElem?_range hx]; rfl
  exact ⟨by simp, fun x hx => by rw [this x hx]; exact hx, fun x hx => by rw [this x hx], fun x hx => by rw [this x hx], fun x hx q => absurd (this x hx) q⟩
theorem rts_less {N : Nat} {f : List Nat} {r e : Nat → Nat} (h : UF N f r e) {s t : Nat} (hs : s < N) (ht : t < N) (hne : r s ≠ r t) : rts N (jn r s t) < rts N r := by
  obtain ⟨s1, s2⟩ := h.root hs
  obtain ⟨t1, t2⟩ := h.root ht
  unfold rts
  refine filter_strict (fun x hx => ?_) (List.range N) (r s) (by simp; exact s1) ?_ ?_
  · simp only [decide_eq_true_eq] at hx ⊢
    unfold jn at hx
    split at hx
    · rw [← hx, t2]
    · exact hx
  · simp only [decide_eq_false_iff_not]
    unfold jn
    rw [if_pos s2]
    exact fun z => hne z.symm
  · simpa using s2
theorem rts_pos {N : Nat} {f : List Nat} {r e : Nat → Nat} (h : UF N f r e) {s : Nat} (hs : s < N) : 0 < rts N r := by
  obtain ⟨s1, s2⟩ := h.root hs
  unfold rts
  exact List.length_pos_of_mem (List.mem_filter.2 ⟨List.mem_range.2 s1, by simpa using s2⟩)
theorem rts_le (N : Nat) (r : Nat → Nat) : rts N r ≤ N := by
  have := List.length_filter_le (fun x => decide (r x = x)) (List.range N)
  simpa [rts] using this
/-- What tells two apart that hang together tells apart one of the pairs that were met. -/
def UC {S : Type} (acc : Nat → List Nat → Bool) (d : S → Nat → S) (sh : S → Bool) (N : Nat) (r : Nat → Nat) (Q : List (Nod S)) : Prop := ∀ x y, x < N → y < N → r x = r y → ∀ v, acc x v ≠ acc y v → ∃ m ∈ Q, sh (wrun d m.p v) = true
theorem UC.start {S : Type} (acc : Nat → List Nat → Bool) (d : S → Nat → S) (sh : S → Bool) (N : Nat) (Q : List (Nod S)) : UC acc d sh N (fun x => x) Q := fun x y _ _ h v hv => absurd (by rw [show x = y from h]) hv
theorem UC.join {S : Type} {acc : Nat → List Nat → Bool} {d : S → Nat → S} {sh : S → Bool} {N : Nat} {r : Nat → Nat} {Q : List (Nod S)} (h : UC acc d sh N r Q) {s t : Nat} (hs : s < N) (ht : t < N) (n : Nod S) (hn : ∀ v, acc s v ≠ acc t v → sh (wrun d n.p v) = true) : UC acc d sh N (jn r s t) (Q ++ [n]) := by
  intro x y hx hy hr v hv
  have key : (∃ m ∈ Q, sh (wrun d m.p v) = true) ∨ acc s v ≠ acc t v := by
    unfold jn at hr
    by_cases q : r x = r s <;> by_cases p : r y = r s
    · exact .inl (h x y hx hy (q.trans p.symm) v hv)
    · rw [if_pos q, if_neg p] at hr
      by_cases z1 : acc x v = acc s v
      · by_cases z2 : acc s v = acc t v
        · exact .inl (h t y ht hy hr v (fun z => hv (z1.trans (z2.trans z))))
        · exact .inr z2
      · exact .inl (h x s hx hs q v z1)
    · rw [if_neg q, if_pos p] at hr
      by_cases z1 : acc y v = acc s v
      · by_cases z2 : acc s v = acc t v
        · exact .inl (h x t hx ht hr v (fun z => hv (z.trans (z2.symm.trans z1.symm))))
        · exact .inr z2
      · exact .inl (h y s hy hs p v z1)
    · rw [if_neg q, if_neg p] at hr
      exact .inl (h x y hx hy hr v hv)
  rcases key with ⟨m, hm, hsm⟩ | key
  · exact ⟨m, List.mem_append_left _ hm, hsm⟩
  · exact ⟨n, by simp, hn v key⟩
end Go.Proofs.Ytggheiblgghpkaa
