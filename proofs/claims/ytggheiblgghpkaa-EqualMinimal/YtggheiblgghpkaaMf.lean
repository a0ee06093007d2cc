/- minim: byLetters: what its map knows. -/
import Derived.Test.YtggheiblgghpkaaMe
namespace Go.Proofs.Ytggheiblgghpkaa
open Go Go.RowKit Go.Lib Go.Maps
set_option linter.unusedVariables false
attribute [-instance] instBEqProd

/-- For each state the first one of its signature. -/
def fi (A : Aut) (l : List Nat) (s : Nat) : Nat := ((List.range A.ac.length).map (sg A l)).idxOf (sg A l s)
theorem fi_facts {A : Aut} {l : List Nat} {s : Nat} (h : s < A.ac.length) : fi A l s ≤ s ∧ sg A l (fi A l s) = sg A l s ∧ ∀ t, t < fi A l s → sg A l t ≠ sg A l s := idx_facts (sg A l) h
theorem fi_same {A : Aut} {l : List Nat} {s t : Nat} (e : sg A l s = sg A l t) : fi A l s = fi A l t := by unfold fi; rw [e]
theorem fi_fi {A : Aut} {l : List Nat} {s : Nat} (h : s < A.ac.length) : fi A l (fi A l s) = fi A l s := fi_same (fi_facts h).2.1
theorem sg_class {A : Aut} {l : List Nat} {s t : Nat} (e : sg A l s = sg A l t) : l.getD s 0 = l.getD t 0 := by
  unfold sg at e
  simp only [Prod.mk.injEq] at e
  exact e.1
/-- Signatures as cells tell just what they tell. -/
theorem sq_sg {A : Aut} {l : List Nat} {s t : Nat} : (∀ j, j < 9 → sq A l s A.k.toNat j = sq A l t A.k.toNat j) → A.k.toNat ≤ 8 → sg A l s = sg A l t := by
  intro h hk
  unfold sg
  refine Prod.ext ?_ ?_
  · have := h 0 (by decide)
    simpa [sq] using this
  · refine List.map_congr_left fun c hc => ?_
    have hc := List.mem_range.1 hc
    have := h (c + 1) (by omega)
    unfold sq at this
    simpa [hc] using this
theorem sg_sq {A : Aut} {l : List Nat} {s t : Nat} (e : sg A l s = sg A l t) : sq A l s A.k.toNat = sq A l t A.k.toNat := by
  funext j
  unfold sq
  have h1 := sg_class e
  unfold sg at e
  simp only [Prod.mk.injEq] at e
  split
  · exact h1
  · split
    · rename_i _ hj
      have := congrArg (fun (L : List Nat) => L[j - 1]?) e.2
      simpa [List.getElem?_range hj] using this
    · rfl
theorem Try.und_mapS : Try.prog.underlying 112 = some (.map 115 3) := by kernel_rfl
theorem Try.laidM : laidOutB Try.prog = true := by kernel_rfl
theorem Try.keyT_sig : Try.prog.keyType 115 = true := by kernel_rfl
theorem Try.size_sig : Try.prog.cellsOf 115 = 9 := by kernel_rfl
theorem Try.size_a8 : Try.prog.cellsOf 113 = 8 := by kernel_rfl
theorem Try.size_u16 : Try.prog.cellsOf 75 = 1 := by kernel_rfl
theorem Try.und_u16 : Try.prog.underlying 75 = some (.int .u16) := by kernel_rfl
theorem Try.tsizeM : ∃ n, Try.prog.types.size = n + 2 := ⟨Try.prog.types.size - 2, by have : 1 < Try.prog.types.size := of_decide_eq_true (by kernel_rfl); omega⟩
theorem keyS : Keyed Try.prog 115 := Keyed.of_law (deep_law_laid Try.laidM (m := 3) (by omega) (of_decide_eq_true (by kernel_rfl)) (by kernel_rfl) (by rw [Try.underlying115]))
theorem sgK_of {q : Nat → Nat} (hq : ∀ j, q j ≤ 65535) : keyOf Try.prog 115 (sgV q) = some (sgK q) := by
  obtain ⟨n, hn⟩ := Try.tsizeM
  exact keyOf_sig Try.underlying115 (by decide) (by decide) rfl rfl rfl rfl Try.underlying113 Try.und_u16 Try.size_sig Try.size_a8 Try.size_u16 Try.keyT_sig hn hq
theorem sgK_inj {q r : Nat → Nat} (hq : ∀ j, q j ≤ 65535) (hr : ∀ j, r j ≤ 65535) (h : sgK q = sgK r) : ∀ j, j < 9 → q j = r j := by
  have := keyS.inj (sgK_of hq) (h ▸ sgK_of hr)
  simp only [sgV, Value.agg.injEq] at this
  intro j hj
  have h2 := sgC_at q hj
  rw [this, sgC_at r hj] at h2
  simp at h2
  omega
/-- A state's key. -/
def kap (A : Aut) (l : List Nat) (s : Nat) : Lit := sgK (sq A l s A.k.toNat)
theorem kap_eq {A : Aut} (G : Good A) {l : List Nat} (hl : ∀ s, l.getD s 0 ≤ 65535) {s t : Nat} : kap A l s = kap A l t ↔ sg A l s = sg A l t := by
  constructor
  · intro h
    exact sq_sg (sgK_inj (fun j => sq_le hl s _ j) (fun j => sq_le hl t _ j) h) G.kn.2.1
  · intro h
    unfold kap
    rw [sg_sq h]
/-- More than one state has this one's class. -/
def ns (l : List Nat) (n s : Nat) : Prop := cnt l n (l.getD s 0) ≠ 1
theorem ns_sg {A : Aut} {l : List Nat} {n s t : Nat} (e : sg A l s = sg A l t) (h : ns l n t) : ns l n s := by unfold ns at h ⊢; rw [sg_class e]; exact h
theorem count_one {l : List Nat} {s t : Nat} (hs : s < l.length) (ht : t < l.length) (hne : s ≠ t) (e : l.getD s 0 = l.getD t 0) : cnt l l.length (l.getD s 0) ≠ 1 := by
  have hg : ∀ i, i < l.length → l[i]? = some (l.getD i 0) := fun i hi => by rw [List.getElem?_eq_getElem hi, List.getD_eq_getElem?_getD, List.getElem?_eq_getElem hi]; rfl
  have key : ∀ m a b, a < b → b < m → m ≤ l.length → l.getD a 0 = l.getD s 0 → l.getD b 0 = l.getD s 0 → 2 ≤ cnt l m (l.getD s 0) := by
    intro m
    induction m with
    | zero => intro a b _ hb; omega
    | succ m ih =>
      intro a b hab hbm hm ha hb
      rw [cnt_step (hg m (by omega))]
      by_cases q : b = m
      · subst q
        rw [if_pos hb.symm]
        have : 1 ≤ cnt l b (l.getD s 0) := by
          unfold cnt
          apply List.one_le_count_iff.2
          rw [← ha]
          exact List.mem_iff_getElem?.2 ⟨a, by rw [List.getElem?_take, if_pos hab]; exact hg a (by omega)⟩
        omega
      · have := ih a b hab (by omega) (by omega) ha hb
        omega
  rcases Nat.lt_or_ge s t with q | q
  · have := key l.length s t q ht (Nat.le_refl _) rfl e.symm; omega
  · have := key l.length t s (by omega) hs (Nat.le_refl _) e.symm rfl; omega
theorem fi_single {A : Aut} {l : List Nat} (hn : l.length = A.ac.length) {s : Nat} (hs : s < A.ac.length) (h : ¬ ns l l.length s) : fi A l s = s := by
  obtain ⟨a, b, _⟩ := fi_facts (A := A) (l := l) hs
  apply Classical.byContradiction
  intro q
  apply h
  have := count_one (l := l) (s := s) (t := fi A l s) (by omega) (by omega) (fun e => q e.symm) (sg_class b).symm
  exact this
/-- What the map knows once i states were gone through. -/
structure MS (A : Aut) (l : List Nat) (i : Nat) (D : DataW Unit) : Prop where
  has : ∀ t, t < A.ac.length → ns l l.length t → Maps.has D (kap A l t) = decide (fi A l t < i)
  num : ∀ t, t < A.ac.length → ns l l.length t → fi A l t < i → ∀ z, D.atKey (kap A l t) z = .lit (.int .i64 (fi A l t : Nat))
theorem MS.empty (A : Aut) (l : List Nat) : MS A l 0 (.map []) := ⟨fun t _ _ => by simp [Maps.has], fun t _ _ h => by omega⟩
theorem MS.skip {A : Aut} {l : List Nat} {i : Nat} {D : DataW Unit} (h : MS A l i D) (hi : i < A.ac.length) (hs : ¬ (ns l l.length i ∧ fi A l i = i)) : MS A l (i + 1) D := by
  have key : ∀ t, t < A.ac.length → ns l l.length t → (fi A l t < i + 1 ↔ fi A l t < i) := by
    intro t ht hn
    constructor
    · intro q
      by_cases e : fi A l t = i
      · exfalso
        apply hs
        have e2 := (fi_facts (A := A) (l := l) ht).2.1
        rw [e] at e2
        refine ⟨ns_sg e2 hn, ?_⟩
        have := fi_fi (A := A) (l := l) ht
        rw [e] at this
        exact this
      · omega
    · intro q; omega
  refine ⟨fun t ht hn => ?_, fun t ht hn q => h.num t ht hn ((key t ht hn).1 q)⟩
  rw [h.has t ht hn]
  exact decide_eq_decide.2 (key t ht hn).symm
theorem MS.put {A : Aut} (G : Good A) {l : List Nat} (hl : ∀ s, l.getD s 0 ≤ 65535) {i : Nat} {D : DataW Unit} (h : MS A l i D) (hD : IsMap D) (hi : i < A.ac.length) (hn : ns l l.length i) (hf : fi A l i = i) : MS A l (i + 1) (D.put (kap A l i) (.lit (.int .i64 (i : Nat)))) := by
  have hk : ∀ t, WideAt.IsKeyLit (kap A l t) := fun t => trivial
  constructor
  · intro t ht hnt
    by_cases e : kap A l t = kap A l i
    · rw [e, has_put_same hD (hk i), fi_same ((kap_eq G hl).1 e), hf]
      simp
    · rw [has_put_other e, h.has t ht hnt]
      refine decide_eq_decide.2 ⟨fun q => by omega, fun q => ?_⟩
      by_cases c : fi A l t = i
      · exfalso
        apply e
        refine (kap_eq G hl).2 ?_
        rw [← (fi_facts (A := A) (l := l) ht).2.1, c]
      · omega
  · intro t ht hnt q z
    by_cases e : kap A l t = kap A l i
    · rw [e, atKey_put_same hD (hk i), fi_same ((kap_eq G hl).1 e), hf]
    · rw [atKey_put_other e]
      refine h.num t ht hnt ?_ z
      by_cases c : fi A l t = i
      · exfalso
        apply e
        refine (kap_eq G hl).2 ?_
        rw [← (fi_facts (A := A) (l := l) ht).2.1, c]
      · omega
end Go.Proofs.Ytggheiblgghpkaa
