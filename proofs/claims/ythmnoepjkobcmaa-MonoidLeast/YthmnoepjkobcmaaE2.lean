/- Pure: least words of a monoid's elements rise, are least, and so are their pieces. -/
import Derived.Test.YthmnoepjkobcmaaE1
namespace Go.Proofs.Ythmnoepjkobcmaa
set_option linter.unusedVariables false

/-- First places rise. -/
theorem Mon.first {A : Aut} {M : List (List Nat)} {N : List Nat} (h : Mon A M N) {j : Nat} (h0 : 0 < j) (hj : j < M.length) : N[N.idxOf j]? = some j ∧ N.idxOf j / A.k.toNat < j ∧ ∀ q i, q < N.idxOf j → N[q]? = some i → i < j := by
  obtain ⟨p, hp, hq, hr⟩ := h.bi.fresh j h0 hj
  have e := idxOf_first hp (fun q hqp e => by have := hr q j hqp e; omega)
  rw [e]
  exact ⟨hp, hq, hr⟩
theorem slt_trans {u v w : List Nat} (h : slt u v) (g : slt v w) : slt u w := by
  refine ⟨sle_trans h.1 g.1, fun e => ?_⟩
  subst e
  exact h.2 (sle_anti h.1 g.1)
theorem slt_le {u v w : List Nat} (h : slt u v) (g : sle v w) : slt u w := by
  refine ⟨sle_trans h.1 g, fun e => ?_⟩
  subst e
  exact h.2 (sle_anti h.1 g)
theorem Mon.rise {A : Aut} {M : List (List Nat)} {N : List Nat} (h : Mon A M N) : ∀ j, j < M.length → ∀ i, i < j → slt (Go.Proofs.Ythmnoepjkobcmaa.lw A.k.toNat N i) (Go.Proofs.Ythmnoepjkobcmaa.lw A.k.toNat N j) := by
  intro j
  induction j using Nat.strongRecOn with
  | _ j ih =>
    intro hj i hij
    obtain ⟨a1, a2, a3⟩ := h.first (by omega) hj
    rw [lw_step h.fst (s := j) (by omega) hj]
    by_cases e : i = 0
    · subst e
      rw [lw_zero]
      exact slt_nil _ _
    · obtain ⟨b1, b2, b3⟩ := h.first (j := i) (by omega) (by omega)
      have hlt : N.idxOf i < N.idxOf j := by
        by_cases q : N.idxOf i < N.idxOf j
        · exact q
        · by_cases q2 : N.idxOf i = N.idxOf j
          · rw [q2, a1] at b1; simp at b1; omega
          · have := b3 _ _ (show N.idxOf j < N.idxOf i by omega) a1
            omega
      rw [lw_step h.fst (s := i) (by omega) (by omega)]
      have hd : N.idxOf i / A.k.toNat ≤ N.idxOf j / A.k.toNat := Nat.div_le_div_right (Nat.le_of_lt hlt)
      by_cases c : N.idxOf i / A.k.toNat = N.idxOf j / A.k.toNat
      · rw [c]
        apply slt_letter
        have e1 := Nat.div_add_mod (N.idxOf i) A.k.toNat
        have e2 := Nat.div_add_mod (N.idxOf j) A.k.toNat
        rw [c] at e1
        omega
      · exact slt_snoc (ih _ a2 (by omega) _ (by omega)) _ _
/-- A letter behind an element: no later word. -/
theorem Mon.step_le {A : Aut} {M : List (List Nat)} {N : List Nat} (h : Mon A M N) {x c : Nat} (hx : x < M.length) (hc : c < A.k.toNat) : sle (Go.Proofs.Ythmnoepjkobcmaa.lw A.k.toNat N (N.getD (x * A.k.toNat + c) 0)) (Go.Proofs.Ythmnoepjkobcmaa.lw A.k.toNat N x ++ [c]) := by
  obtain ⟨l, _, h2, hp⟩ := h.at hx hc
  obtain ⟨j, hj⟩ : ∃ j, N.getD (x * A.k.toNat + c) 0 = j := ⟨_, rfl⟩
  rw [hj] at h2 ⊢
  have hjl := (List.getElem?_eq_some_iff.1 h2).1
  by_cases e : j = 0
  · subst e; rw [lw_zero]; exact sle_nil _
  · obtain ⟨a1, a2, a3⟩ := h.first (j := j) (by omega) hjl
    have hle : N.idxOf j ≤ x * A.k.toNat + c := by
      by_cases q : N.idxOf j ≤ x * A.k.toNat + c
      · exact q
      · have hn : N[x * A.k.toNat + c]? = some j := by rw [← hj, List.getElem?_eq_getElem hp, getD_of (List.getElem?_eq_getElem hp)]
        have := a3 _ _ (by omega) hn
        omega
    rw [lw_step h.fst (s := j) (by omega) hjl]
    have e1 : (x * A.k.toNat + c) / A.k.toNat = x := by rw [Nat.mul_comm, Nat.mul_add_div (by omega), Nat.div_eq_of_lt hc]; rfl
    have e2 : (x * A.k.toNat + c) % A.k.toNat = c := by rw [Nat.mul_comm, Nat.mul_add_mod, Nat.mod_eq_of_lt hc]
    have hd : N.idxOf j / A.k.toNat ≤ x := by rw [← e1]; exact Nat.div_le_div_right hle
    by_cases q : N.idxOf j / A.k.toNat = x
    · rw [q]
      have e3 := Nat.div_add_mod (N.idxOf j) A.k.toNat
      rw [q] at e3
      by_cases q2 : N.idxOf j % A.k.toNat = c
      · rw [q2]; exact sle_refl _
      · refine (slt_letter _ ?_).1
        have : A.k.toNat * x = x * A.k.toNat := Nat.mul_comm _ _
        omega
    · exact (slt_snoc (h.rise x hx _ (by omega)) _ _).1
theorem snoc_ind {p : List Nat → Prop} (h0 : p []) (h1 : ∀ u c, p u → p (u ++ [c])) : ∀ u, p u := by
  intro u
  have : ∀ n u, u.length = n → p u := by
    intro n
    induction n with
    | zero => intro u hu; rw [List.length_eq_zero_iff.1 hu]; exact h0
    | succ n ih =>
      intro u hu
      have hne : u ≠ [] := by intro e; rw [e] at hu; simp at hu
      rw [← List.dropLast_concat_getLast hne]
      exact h1 _ _ (ih _ (by simp; omega))
  exact this _ u rfl
/-- No word ahead of an element's least word has that element. -/
theorem Mon.least {A : Aut} {M : List (List Nat)} {N : List Nat} (h : Mon A M N) : ∀ u, Lt A.k.toNat u → sle (Go.Proofs.Ythmnoepjkobcmaa.lw A.k.toNat N (mr A.k.toNat N 0 u)) u := by
  apply snoc_ind
  · intro _
    rw [mr_nil, lw_zero]
    exact sle_refl _
  · intro u c ih hu
    have := ih hu.left
    rw [mr_app, mr_one]
    exact sle_trans (h.step_le (h.lt hu.left h.pos) (hu.right c (by simp))) (sle_app this _)
theorem lxl_pre (a : List Nat) : ∀ {u v : List Nat}, lxl u v → lxl (a ++ u) (a ++ v) := by
  intro u v h
  exact lxl_app u v rfl (lxl_refl a) (fun _ => h)
theorem sle_pre (a : List Nat) {u v : List Nat} (h : sle u v) : sle (a ++ u) (a ++ v) := by
  rcases h with h | ⟨h, g⟩
  · exact .inl (by simp; omega)
  · exact .inr ⟨by simp; omega, lxl_pre a g⟩
/-- Pieces of least words are least words. -/
theorem Mon.piece {A : Aut} {M : List (List Nat)} {N : List Nat} (h : Mon A M N) {x : Nat} (hx : x < M.length) {a b c : List Nat} (e : Go.Proofs.Ythmnoepjkobcmaa.lw A.k.toNat N x = a ++ b ++ c) : Go.Proofs.Ythmnoepjkobcmaa.lw A.k.toNat N (mr A.k.toNat N 0 b) = b := by
  obtain ⟨hl, hw⟩ := h.lw x hx
  rw [e] at hl hw
  have hb : Lt A.k.toNat b := hl.left.right
  have hv := h.least b hb
  obtain ⟨hvl, hvw⟩ := h.lw _ (h.lt hb h.pos)
  obtain ⟨v, hvE⟩ : ∃ v, Go.Proofs.Ythmnoepjkobcmaa.lw A.k.toNat N (mr A.k.toNat N 0 b) = v := ⟨_, rfl⟩
  rw [hvE] at hv hvl hvw ⊢
  have hs : mr A.k.toNat N 0 (a ++ v ++ c) = x := by
    rw [mr_app, mr_app, ← hw, mr_app, mr_app]
    congr 1
    rw [← h.mr_pr (h.lt hl.left.left h.pos) hvl, ← h.mr_pr (h.lt hl.left.left h.pos) hb, hvw]
  have h1 := h.least (a ++ v ++ c) ((hl.left.left.app hvl).app hl.right)
  rw [hs, e] at h1
  have h2 : sle (a ++ v ++ c) (a ++ b ++ c) := sle_app (sle_pre a hv) c
  have := sle_anti h2 h1
  rw [List.append_left_inj, List.append_right_inj] at this
  exact this
end Go.Proofs.Ythmnoepjkobcmaa
