/- Pure: two states, told apart by the least word; how far minim.apart's search has come. -/
import Derived.Test.YtggheiblgghpkaaLg
namespace Go.Proofs.Ytggheiblgghpkaa
open Go Go.RowKit Go.Lib
set_option linter.unusedVariables false

/-- Pairs of states of two automata. -/
def dd (A B : Aut) (p : Nat × Nat) (c : Nat) : Nat × Nat := (dN A p.1 c, dN B p.2 c)
/-- Just one of both is accepted. -/
def sx (A B : Aut) (p : Nat × Nat) : Bool := aN A p.1 != aN B p.2
theorem wrun_dd (A B : Aut) : ∀ (v : List Nat) (p : Nat × Nat), wrun (dd A B) p v = (wrun (dN A) p.1 v, wrun (dN B) p.2 v)
  | [], p => rfl
  | c :: v, p => by rw [wrun_cons, wrun_dd A B v]; rfl
/-- Is a word accepted from a state? -/
def acW (A : Aut) (x : Nat) (v : List Nat) : Bool := aN A (wrun (dN A) x v)
theorem sx_ac (A B : Aut) (p : Nat × Nat) (v : List Nat) : sx A B (wrun (dd A B) p v) = true ↔ acW A p.1 v ≠ acW B p.2 v := by
  rw [wrun_dd]
  unfold sx acW
  simp
/-- How far the search has come: its queue, its forest. -/
structure AP (A : Aut) (K s t : Nat) (Q : List (Nod (Nat × Nat))) (i c : Nat) (f : List Nat) (r e : Nat → Nat) : Prop where
  qi : QI (dd A A) K (sx A A) (s, t) Q i c
  uf : UF A.ac.length f r e
  uc : UC (acW A) (dd A A) (sx A A) A.ac.length r Q
  cnt : Q.length + rts A.ac.length r ≤ A.ac.length
  oks : ∀ m ∈ Q, m.p.1 < A.ac.length ∧ m.p.2 < A.ac.length
theorem AP.start {A : Aut} {K s t : Nat} {f : List Nat} {e : Nat → Nat} (hs : s < A.ac.length) (ht : t < A.ac.length) (hne : s ≠ t) (hu : UF A.ac.length f (jn (fun x => x) s t) e) : AP A K s t [⟨(s, t), 0, 0, []⟩] 0 0 f (jn (fun x => x) s t) e := by
  refine ⟨QI.start _ _ _ _ _ _, hu, ?_, ?_, fun m hm => ?_⟩
  · exact (UC.start (acW A) (dd A A) (sx A A) A.ac.length []).join hs ht ⟨(s, t), 0, 0, []⟩ (fun v hv => (sx_ac A A (s, t) v).2 hv)
  · have h1 := rts_less (UF.id A.ac.length) hs ht hne
    have h2 := rts_le A.ac.length (fun x => x)
    simp only [List.length_cons, List.length_nil]
    omega
  · simp at hm
    subst hm
    exact ⟨hs, ht⟩
theorem AP.len {A : Aut} {K s t : Nat} {Q : List (Nod (Nat × Nat))} {i c : Nat} {f : List Nat} {r e : Nat → Nat} (h : AP A K s t Q i c f r e) (hs : s < A.ac.length) : Q.length + 1 ≤ A.ac.length := by
  have h1 := rts_pos h.uf hs
  have h2 := h.cnt
  omega
theorem AP.old {A : Aut} {K s t : Nat} {Q : List (Nod (Nat × Nat))} {i c : Nat} {f f' : List Nat} {r e e' : Nat → Nat} (h : AP A K s t Q i c f r e) {n : Nod (Nat × Nat)} (hi : Q[i]? = some n) (hx : dN A n.p.1 c < A.ac.length) (hy : dN A n.p.2 c < A.ac.length) (hr : r (dN A n.p.1 c) = r (dN A n.p.2 c)) (hu : UF A.ac.length f' r e') : AP A K s t Q i (c + 1) f' r e' :=
  ⟨h.qi.old hi (fun v hv => h.uc _ _ hx hy hr v ((sx_ac A A (dd A A n.p c) v).1 hv)), hu, h.uc, h.cnt, h.oks⟩
theorem AP.new {A : Aut} {K s t : Nat} {Q : List (Nod (Nat × Nat))} {i c : Nat} {f f' : List Nat} {r e e' : Nat → Nat} (h : AP A K s t Q i c f r e) {n : Nod (Nat × Nat)} (hi : Q[i]? = some n) (hc : c < K) (hx : dN A n.p.1 c < A.ac.length) (hy : dN A n.p.2 c < A.ac.length) (hr : r (dN A n.p.1 c) ≠ r (dN A n.p.2 c)) (hu : UF A.ac.length f' (jn r (dN A n.p.1 c) (dN A n.p.2 c)) e') : AP A K s t (Q ++ [⟨dd A A n.p c, i, c, n.w ++ [c]⟩]) i (c + 1) f' (jn r (dN A n.p.1 c) (dN A n.p.2 c)) e' := by
  refine ⟨h.qi.new hi hc, hu, h.uc.join hx hy _ (fun v hv => (sx_ac A A (dd A A n.p c) v).2 hv), ?_, fun m hm => ?_⟩
  · have h1 := rts_less h.uf hx hy hr
    have h2 := h.cnt
    simp only [List.length_append, List.length_cons, List.length_nil]
    omega
  · rcases List.mem_append.1 hm with q | q
    · exact h.oks m q
    · simp at q
      subst q
      exact ⟨hx, hy⟩
theorem AP.next {A : Aut} {K s t : Nat} {Q : List (Nod (Nat × Nat))} {i : Nat} {f : List Nat} {r e : Nat → Nat} (h : AP A K s t Q i K f r e) : AP A K s t Q (i + 1) 0 f r e := ⟨h.qi.next, h.uf, h.uc, h.cnt, h.oks⟩
/-- A node that is gone through and shows it, where none ahead does. -/
theorem QI.first {S : Type} {d : S → Nat → S} {k : Nat} {sh : S → Bool} {x : S} {Q : List (Nod S)} {i : Nat} (h : QI d k sh x Q i 0) {n : Nod S} (hi : Q[i]? = some n) (hs : sh n.p = true) (hf : ∀ (j : Nat) (m : Nod S), j < i → Q[j]? = some m → sh m.p = false) : lsh d k sh x = some n.w := by
  refine lsh_some (h.found hi hs hf (fun j m a hj hp => ?_))
  by_cases e : j = i
  · subst e
    rw [hi, Option.some.injEq] at hj
    subst hj
    exact sle_more _ _
  · exact sle_trans (h.ord i j n m (by omega) hi hj).1 (sle_more _ _)
/-- What is answered. -/
def apS (o : Option (List Nat)) : ByteArray := match o with | some w => ⟨(lB w).toArray⟩ | none => ByteArray.empty
def apF (o : Option (List Nat)) : Bool := o.isSome
/-- The least word that tells two states apart. -/
noncomputable def apO (A : Aut) (s t : Nat) : Option (List Nat) := lsh (dd A A) A.k.toNat (sx A A) (s, t)
theorem apO_same (A : Aut) (s : Nat) : apO A s s = none := by
  unfold apO
  refine lsh_none (fun v _ => ?_)
  cases h : sx A A (wrun (dd A A) (s, s) v) with
  | false => rfl
  | true => exact absurd rfl ((sx_ac A A (s, s) v).1 h)
end Go.Proofs.Ytggheiblgghpkaa
