/- What normal forms and derivatives say (stage 7, pure). -/
import Derived.Test.YtdgpajdlomihaaaGreatDoorQXa
import Derived.Test.YtdgpajdlomihaaaGreatDoorQGa
namespace Go.Proofs.YtdgpajdlomihaaaGreatDoor
open Go Go.RowKit
set_option linter.unusedVariables false

theorem lg_none (u : List Int) : Lg tNone u ↔ False := by simp [tNone, Lg]
theorem lg_empty (u : List Int) : Lg tEmpty u ↔ u = [] := by simp [tEmpty, Lg]
theorem lg_all (u : List Int) : Lg tAll u ↔ True := by simp [tAll, Lg, lg_none]
theorem lg_any (u : List Int) : Lg tAny u ↔ u.length = 1 := by simp [tAny, Lg]
/-- What members say together. -/
def LgK (k : Int) (l : List Tr) (u : List Int) : Prop := if k = 5 then ∃ m ∈ l, Lg m u else ∀ m ∈ l, Lg m u
theorem lgK_cons {k : Int} (hk : k = 5 ∨ k = 6) (x : Tr) (l : List Tr) (u : List Int) : LgK k (x :: l) u ↔ if k = 5 then Lg x u ∨ LgK k l u else Lg x u ∧ LgK k l u := by
  rcases hk with rfl | rfl <;> simp [LgK]
theorem lgK_append {k : Int} (hk : k = 5 ∨ k = 6) (a b : List Tr) (u : List Int) : LgK k (a ++ b) u ↔ if k = 5 then LgK k a u ∨ LgK k b u else LgK k a u ∧ LgK k b u := by
  rcases hk with rfl | rfl
  · simp only [LgK, if_true, List.mem_append]
    constructor
    · rintro ⟨m, h | h, h2⟩
      · exact .inl ⟨m, h, h2⟩
      · exact .inr ⟨m, h, h2⟩
    · rintro (⟨m, h, h2⟩ | ⟨m, h, h2⟩)
      · exact ⟨m, .inl h, h2⟩
      · exact ⟨m, .inr h, h2⟩
  · have h65 : ¬ ((6 : Int) = 5) := by decide
    simp only [LgK, h65, if_false, List.mem_append]
    constructor
    · intro h
      exact ⟨fun m hm => h m (.inl hm), fun m hm => h m (.inr hm)⟩
    · rintro ⟨h1, h2⟩ m (hm | hm)
      · exact h1 m hm
      · exact h2 m hm
theorem lg_two {k : Int} (hk : k = 5 ∨ k = 6) (s : Int) (a b : Tr) (u : List Int) : Lg (.two (k, s) a b) u ↔ if k = 5 then Lg a u ∨ Lg b u else Lg a u ∧ Lg b u := by
  rcases hk with rfl | rfl <;> simp [Lg]
theorem fold_lg {k : Int} (hk : k = 5 ∨ k = 6) (u : List Int) : ∀ (l : List Tr) (x : Tr), Lg (l.foldl (fun acc m => .two (k, 0) acc m) x) u ↔ if k = 5 then Lg x u ∨ LgK k l u else Lg x u ∧ LgK k l u
  | [], x => by rcases hk with rfl | rfl <;> simp [LgK]
  | y :: l, x => by
    rw [List.foldl_cons, fold_lg hk u l, lg_two hk]
    have := lgK_cons hk y l u
    rcases hk with rfl | rfl
    · simp only [if_true] at this ⊢
      rw [this, or_assoc]
    · have h65 : ¬ ((6 : Int) = 5) := by decide
      simp only [h65, if_false] at this ⊢
      rw [this, and_assoc]
theorem build_lg {k : Int} (hk : k = 5 ∨ k = 6) {l : List Tr} (hl : l ≠ []) (u : List Int) : Lg (build k l) u ↔ LgK k l u := by
  cases l with
  | nil => exact absurd rfl hl
  | cons x l => rw [build, fold_lg hk u l x, lgK_cons hk]
theorem spine_lg {k : Int} (hk : k = 5 ∨ k = 6) (u : List Int) : ∀ x : Tr, LgK k (spine k x) u ↔ Lg x u
  | .zero n => by rcases hk with rfl | rfl <;> simp [LgK, spine]
  | .one n a => by rcases hk with rfl | rfl <;> simp [LgK, spine]
  | .two n a b => by
    unfold spine
    by_cases h : n.1 = k
    · rw [if_pos h, lgK_append hk]
      have ih := spine_lg hk u a
      obtain ⟨k', s'⟩ := n
      simp only at h
      subst h
      rw [lg_two hk, ih]
      rcases hk with rfl | rfl <;> simp [LgK]
    · rw [if_neg h]
      rcases hk with rfl | rfl <;> simp [LgK]
theorem spine_oks {k : Int} {x : Tr} (h : x.ok) : Oks (spine k x) := fun m hm => spine_ok h m hm
theorem lgK_congr {k : Int} {a b : List Tr} (h : ∀ m, m ∈ a ↔ m ∈ b) (u : List Int) : LgK k a u ↔ LgK k b u := by
  unfold LgK
  split
  · constructor
    · rintro ⟨m, h1, h2⟩; exact ⟨m, (h m).1 h1, h2⟩
    · rintro ⟨m, h1, h2⟩; exact ⟨m, (h m).2 h1, h2⟩
  · constructor
    · intro q m hm; exact q m ((h m).2 hm)
    · intro q m hm; exact q m ((h m).1 hm)
theorem R2_lg {k : Int} (hk : k = 5 ∨ k = 6) {x y : Tr} (hx : x.ok) (hy : y.ok) (u : List Int) : Lg (R2 k x y) u ↔ if k = 5 then Lg x u ∨ Lg y u else Lg x u ∧ Lg y u := by
  unfold R2
  have hz : Lg (zeroK k) u ↔ (k = 5) := by rcases hk with rfl | rfl <;> simp [zeroK, lg_all, lg_none]
  have hu : Lg (unitK k) u ↔ (k = 6) := by rcases hk with rfl | rfl <;> simp [unitK, lg_all, lg_none]
  by_cases c1 : x = zeroK k ∨ y = unitK k
  · rw [if_pos c1]
    rcases c1 with rfl | rfl
    · rw [hz]; rcases hk with rfl | rfl <;> simp
    · rw [hu]; rcases hk with rfl | rfl <;> simp
  rw [if_neg c1]
  by_cases c2 : y = zeroK k ∨ x = unitK k
  · rw [if_pos c2]
    rcases c2 with rfl | rfl
    · rw [hz]; rcases hk with rfl | rfl <;> simp
    · rw [hu]; rcases hk with rfl | rfl <;> simp
  rw [if_neg c2]
  by_cases c3 : y.root.1 ≠ k ∧ Lt (grt k x) y
  · rw [if_pos c3, lg_two hk]
  · rw [if_neg c3]
    have hne : mrg (spine k x) (spine k y) ≠ [] := fun e => by
      obtain ⟨l, hl⟩ := spine_grt k x
      have hm := (mem_mrg _ (Nat.le_refl _) (spine_oks (k := k) hx) (spine_oks (k := k) hy) (grt k x)).2 (.inl (by rw [hl]; simp))
      rw [e] at hm
      cases hm
    rw [build_lg hk hne, lgK_congr (b := spine k x ++ spine k y) (fun m => by rw [mem_mrg _ (Nat.le_refl _) (spine_oks hx) (spine_oks hy), List.mem_append]), lgK_append hk, spine_lg hk, spine_lg hk]
/-- One language behind another. -/
def LCat (P Q : List Int → Prop) (u : List Int) : Prop := ∃ a b, u = a ++ b ∧ P a ∧ Q b
theorem lg_cat (s : Int) (a b : Tr) (u : List Int) : Lg (.two (7, s) a b) u ↔ LCat (Lg a) (Lg b) u := by simp [Lg, LCat]
theorem lcat_congr {P P' Q Q' : List Int → Prop} (h1 : ∀ u, P u ↔ P' u) (h2 : ∀ u, Q u ↔ Q' u) (u : List Int) : LCat P Q u ↔ LCat P' Q' u := by
  constructor
  · rintro ⟨a, b, e, p, q⟩; exact ⟨a, b, e, (h1 a).1 p, (h2 b).1 q⟩
  · rintro ⟨a, b, e, p, q⟩; exact ⟨a, b, e, (h1 a).2 p, (h2 b).2 q⟩
theorem lcat_assoc (P Q R : List Int → Prop) (u : List Int) : LCat (LCat P Q) R u ↔ LCat P (LCat Q R) u := by
  constructor
  · rintro ⟨ab, c, rfl, ⟨a, b, rfl, p, q⟩, r⟩
    exact ⟨a, b ++ c, by rw [List.append_assoc], p, b, c, rfl, q, r⟩
  · rintro ⟨a, bc, rfl, p, ⟨b, c, rfl, q, r⟩⟩
    exact ⟨a ++ b, c, by rw [List.append_assoc], ⟨a, b, rfl, p, q⟩, r⟩
theorem cj_lg (p r : Tr) (u : List Int) : Lg (cj p r) u ↔ LCat (Lg p) (Lg r) u := by
  unfold cj
  by_cases c : p = tAll ∧ firstC r = tAll
  · rw [if_pos c]
    obtain ⟨rfl, hr⟩ := c
    constructor
    · intro h; exact ⟨[], u, rfl, (lg_all _).2 trivial, h⟩
    · rintro ⟨a, b, rfl, _, hb⟩
      cases r with
      | zero n => simp [firstC, tAll] at hr
      | one n x =>
        simp only [firstC] at hr
        rw [hr]; exact (lg_all _).2 trivial
      | two n x y =>
        simp only [firstC] at hr
        by_cases h7 : n.1 = 7
        · rw [if_pos h7] at hr
          obtain ⟨k', s'⟩ := n
          simp only at h7
          subst h7
          subst hr
          rw [lg_cat] at hb ⊢
          obtain ⟨b1, b2, rfl, _, h2⟩ := hb
          exact ⟨a ++ b1, b2, by rw [List.append_assoc], (lg_all _).2 trivial, h2⟩
        · rw [if_neg h7] at hr
          simp [tAll] at hr
  · rw [if_neg c, lg_cat]
theorem conc_lg (y : Tr) : ∀ (x : Tr) (u : List Int), Lg ((conc x).foldr cj y) u ↔ LCat (Lg x) (Lg y) u
  | .zero n, u => by simp only [conc, List.foldr_cons, List.foldr_nil]; exact cj_lg _ _ u
  | .one n a, u => by simp only [conc, List.foldr_cons, List.foldr_nil]; exact cj_lg _ _ u
  | .two n a b, u => by
    unfold conc
    by_cases h7 : n.1 = 7
    · rw [if_pos h7, List.foldr_cons, cj_lg, lcat_congr (fun _ => Iff.rfl) (fun v => conc_lg y b v)]
      obtain ⟨k', s'⟩ := n
      simp only at h7
      subst h7
      rw [← lcat_assoc]
      exact (lcat_congr (fun v => lg_cat s' a b v) (fun _ => Iff.rfl) u).symm
    · rw [if_neg h7, List.foldr_cons, List.foldr_nil]
      exact cj_lg _ _ u
theorem RC_lg (x y : Tr) (u : List Int) : Lg (RC x y) u ↔ LCat (Lg x) (Lg y) u := by
  unfold RC
  by_cases c1 : x = tNone ∨ y = tEmpty
  · rw [if_pos c1]
    rcases c1 with rfl | rfl
    · constructor
      · intro h; exact absurd h (by rw [lg_none]; exact id)
      · rintro ⟨a, b, _, h, _⟩; exact absurd h (by rw [lg_none]; exact id)
    · constructor
      · intro h; exact ⟨u, [], by simp, h, (lg_empty _).2 rfl⟩
      · rintro ⟨a, b, rfl, h, hb⟩
        rw [lg_empty] at hb
        subst hb
        simpa using h
  rw [if_neg c1]
  by_cases c2 : y = tNone ∨ x = tEmpty
  · rw [if_pos c2]
    rcases c2 with rfl | rfl
    · constructor
      · intro h; exact absurd h (by rw [lg_none]; exact id)
      · rintro ⟨a, b, _, _, h⟩; exact absurd h (by rw [lg_none]; exact id)
    · constructor
      · intro h; exact ⟨[], u, rfl, (lg_empty _).2 rfl, h⟩
      · rintro ⟨a, b, rfl, h, hb⟩
        rw [lg_empty] at h
        subst h
        exact hb
  rw [if_neg c2]
  exact conc_lg y x u
theorem stl_congr {P Q : List Int → Prop} (h : ∀ u, P u ↔ Q u) {u : List Int} (hs : StL P u) : StL Q u := by
  induction hs with
  | nil => exact .nil
  | cons x y h1 h2 _ ih => exact .cons x y h1 ((h x).1 h2) ih
theorem stl_append {P : List Int → Prop} {a b : List Int} (ha : StL P a) (hb : StL P b) : StL P (a ++ b) := by
  induction ha with
  | nil => exact hb
  | cons x y h1 h2 _ ih => rw [List.append_assoc]; exact .cons x (y ++ b) h1 h2 ih
theorem stl_stl {P : List Int → Prop} {u : List Int} (h : StL (StL P) u) : StL P u := by
  induction h with
  | nil => exact .nil
  | cons x y _ h2 _ ih => exact stl_append h2 ih
theorem stl_one {P : List Int → Prop} {u : List Int} (h : P u) : StL P u := by
  by_cases e : u = []
  · rw [e]; exact .nil
  · have := StL.cons u [] e h .nil
    simpa using this
theorem RS_lg {x : Tr} (hx : x.ok) (u : List Int) : Lg (RS x) u ↔ StL (Lg x) u := by
  unfold RS
  by_cases c1 : x = tNone ∨ x = tEmpty
  · rw [if_pos c1, lg_empty]
    constructor
    · rintro rfl; exact .nil
    · intro h
      rcases (stl_iff _ _).1 h with e | ⟨a, b, h1, _, h2, _⟩
      · exact e
      · rcases c1 with rfl | rfl
        · exact absurd h2 (by rw [lg_none]; exact id)
        · exact absurd ((lg_empty _).1 h2) h1
  rw [if_neg c1]
  by_cases c2 : x = tAny
  · rw [if_pos c2, lg_all]
    subst c2
    refine ⟨fun _ => ?_, fun _ => trivial⟩
    induction u with
    | nil => exact .nil
    | cons c u ih => exact StL.cons [c] u (by simp) ((lg_any _).2 rfl) ih
  rw [if_neg c2]
  by_cases c3 : x.root.1 = 8 ∨ x = tAll
  · rw [if_pos c3]
    rcases c3 with c3 | rfl
    · cases x with
      | zero n => exact absurd hx.2 (by simp only [Tr.root] at c3; rw [c3]; decide)
      | two n a b => exact absurd hx.2.1 (by simp only [Tr.root] at c3; rw [c3]; decide)
      | one n a =>
        obtain ⟨k', s'⟩ := n
        simp only [Tr.root] at c3
        subst c3
        have e : ∀ v, Lg (.one (8, s') a) v ↔ StL (Lg a) v := fun v => by simp [Lg]
        rw [e]
        exact ⟨fun h => stl_one ((e u).2 h), fun h => stl_stl (stl_congr e h)⟩
    · rw [lg_all]
      exact ⟨fun _ => stl_one ((lg_all _).2 trivial), fun _ => trivial⟩
  · rw [if_neg c3]
    simp [Lg]
theorem RN_lg {x : Tr} (hx : x.ok) (u : List Int) : Lg (RN x) u ↔ ¬ Lg x u := by
  cases x with
  | zero n => simp [RN, Lg]
  | two n a b => simp only [RN]; simp [Lg]
  | one n a =>
    simp only [RN]
    by_cases h : n.1 = 9
    · rw [if_pos h]
      obtain ⟨k', s'⟩ := n
      simp only at h
      subst h
      simp [Lg]
    · rw [if_neg h]
      simp [Lg]
/-- A normal form says what the tree says. -/
theorem nrm_lg : ∀ {t : Tr}, t.ok → ∀ u, Lg (nrm t) u ↔ Lg t u
  | .zero n, h, u => Iff.rfl
  | .one n a, h, u => by
    have ih := fun v => nrm_lg (t := a) h.2.2 v
    have hok := (nrm_ok (t := a) h.2.2).1
    unfold nrm
    by_cases h8 : n.1 = 8
    · rw [if_pos h8, RS_lg hok]
      have e : Lg (.one n a) u ↔ StL (Lg a) u := by simp [Lg, h8]
      rw [e]
      exact ⟨fun q => stl_congr ih q, fun q => stl_congr (fun v => (ih v).symm) q⟩
    · rw [if_neg h8, RN_lg hok, ih]
      simp [Lg, h8]
  | .two n a b, h, u => by
    have iha := fun v => nrm_lg (t := a) h.2.2.1 v
    have ihb := fun v => nrm_lg (t := b) h.2.2.2 v
    have hoa := (nrm_ok (t := a) h.2.2.1).1
    have hob := (nrm_ok (t := b) h.2.2.2).1
    unfold nrm
    obtain ⟨k', s'⟩ := n
    have hc := ar2 h.2.1
    simp only at hc ⊢
    by_cases h7 : k' = 7
    · subst h7
      rw [if_pos rfl, RC_lg, lg_cat]
      exact lcat_congr iha ihb u
    · rw [if_neg h7]
      have hk : k' = 5 ∨ k' = 6 := by omega
      rw [R2_lg hk hoa hob, lg_two hk, iha, ihb]
/-- The derivative of a normal form by a letter. -/
noncomputable def drv (c : Int) : Tr → Tr
  | .zero n => if n.1 = 4 ∨ (n.1 = 3 ∧ n.2 = c) then tEmpty else tNone
  | .one n a => if n.1 = 8 then RC (drv c a) (.one n a) else RN (drv c a)
  | .two n a b => if n.1 = 7 then (if @decide (Lg a []) (Classical.propDecidable _) = true then R2 5 (RC (drv c a) b) (drv c b) else RC (drv c a) b) else R2 n.1 (drv c a) (drv c b)
theorem drv_ok (c : Int) : ∀ {t : Tr}, t.ok → NF t → (drv c t).ok ∧ NF (drv c t)
  | .zero n, h, _ => by
    unfold drv
    split
    · exact ⟨tEmpty_ok, trivial⟩
    · exact ⟨tNone_ok, trivial⟩
  | .one n a, h, hn => by
    have ih := drv_ok c (t := a) h.2.2 hn.1
    unfold drv
    split
    · exact RC_ok ih.1 ih.2 h hn
    · exact RN_ok ih.1 ih.2
  | .two n a b, h, hn => by
    have iha := drv_ok c (t := a) h.2.2.1 hn.1
    have ihb := drv_ok c (t := b) h.2.2.2 hn.2.1
    have hc := ar2 h.2.1
    have h1 := RC_ok iha.1 iha.2 h.2.2.2 hn.2.1
    unfold drv
    split
    · split
      · exact R2_ok (.inl rfl) h1.1 h1.2 ihb.1 ihb.2
      · exact h1
    · exact R2_ok (by omega) iha.1 iha.2 ihb.1 ihb.2
/-- Brzozowski. -/
theorem drv_lg (c : Int) : ∀ {t : Tr}, t.ok → NF t → ∀ u, Lg (drv c t) u ↔ Lg t (c :: u)
  | .zero n, h, _, u => by
    unfold drv
    by_cases h4 : n.1 = 4 ∨ (n.1 = 3 ∧ n.2 = c)
    · rw [if_pos h4, lg_empty]
      rcases h4 with h4 | ⟨h3, h5⟩
      · simp [Lg, h4]
      · simp [Lg, h3, h5]
    · rw [if_neg h4, lg_none]
      simp only [Lg, false_iff]
      rintro (⟨_, h⟩ | ⟨h1, h2⟩ | ⟨h1, _⟩)
      · cases h
      · simp at h2
        exact h4 (.inr ⟨h1, h2.1.symm⟩)
      · exact h4 (.inl h1)
  | .one n a, h, hn, u => by
    have ih := fun v => drv_lg c (t := a) h.2.2 hn.1 v
    have hok := (drv_ok c (t := a) h.2.2 hn.1).1
    unfold drv
    by_cases h8 : n.1 = 8
    · rw [if_pos h8, RC_lg]
      have e : ∀ v, Lg (.one n a) v ↔ StL (Lg a) v := fun v => by simp [Lg, h8]
      rw [e, stl_iff]
      constructor
      · rintro ⟨p, q, rfl, h1, h2⟩
        exact .inr ⟨c :: p, q, by simp, rfl, (ih p).1 h1, (e q).1 h2⟩
      · rintro (h0 | ⟨x, y, h1, h2, h3, h4⟩)
        · cases h0
        · cases x with
          | nil => exact absurd rfl h1
          | cons d x =>
            rw [List.cons_append] at h2
            injection h2 with e1 e2
            subst e1
            exact ⟨x, y, e2, (ih x).2 h3, (e y).2 h4⟩
    · rw [if_neg h8, RN_lg hok, ih]
      simp [Lg, h8]
  | .two n a b, h, hn, u => by
    have iha := fun v => drv_lg c (t := a) h.2.2.1 hn.1 v
    have ihb := fun v => drv_lg c (t := b) h.2.2.2 hn.2.1 v
    have hoa := (drv_ok c (t := a) h.2.2.1 hn.1).1
    have hob := (drv_ok c (t := b) h.2.2.2 hn.2.1).1
    obtain ⟨k', s'⟩ := n
    have hc := ar2 h.2.1
    simp only at hc
    unfold drv
    simp only
    by_cases h7 : k' = 7
    · subst h7
      rw [if_pos rfl, lg_cat]
      have hcat : ∀ v, Lg (RC (drv c a) b) v ↔ ∃ p q, v = p ++ q ∧ Lg a (c :: p) ∧ Lg b q := fun v => by
        rw [RC_lg]
        constructor
        · rintro ⟨p, q, e, h1, h2⟩; exact ⟨p, q, e, (iha p).1 h1, h2⟩
        · rintro ⟨p, q, e, h1, h2⟩; exact ⟨p, q, e, (iha p).2 h1, h2⟩
      have hall : LCat (Lg a) (Lg b) (c :: u) ↔ (∃ p q, u = p ++ q ∧ Lg a (c :: p) ∧ Lg b q) ∨ (Lg a [] ∧ Lg b (c :: u)) := by
        constructor
        · rintro ⟨p, q, e, h1, h2⟩
          cases p with
          | nil => exact .inr ⟨h1, by rw [List.nil_append] at e; rw [e]; exact h2⟩
          | cons d p =>
            rw [List.cons_append] at e
            injection e with e1 e2
            subst e1
            exact .inl ⟨p, q, e2, h1, h2⟩
        · rintro (⟨p, q, e, h1, h2⟩ | ⟨h1, h2⟩)
          · exact ⟨c :: p, q, by rw [e]; rfl, h1, h2⟩
          · exact ⟨[], c :: u, rfl, h1, h2⟩
      rw [hall]
      by_cases hnul : Lg a []
      · rw [if_pos (by exact @decide_eq_true _ (Classical.propDecidable _) hnul)]
        have hok7 : (RC (drv c a) b).ok := (RC_ok hoa (drv_ok c (t := a) h.2.2.1 hn.1).2 h.2.2.2 hn.2.1).1
        rw [R2_lg (.inl rfl) hok7 hob, if_pos rfl, hcat, ihb]
        constructor
        · rintro (h1 | h1)
          · exact .inl h1
          · exact .inr ⟨hnul, h1⟩
        · rintro (h1 | ⟨_, h1⟩)
          · exact .inl h1
          · exact .inr h1
      · rw [if_neg (fun e => hnul (@of_decide_eq_true _ (Classical.propDecidable _) e)), hcat]
        constructor
        · intro h1; exact .inl h1
        · rintro (h1 | ⟨h1, _⟩)
          · exact h1
          · exact absurd h1 hnul
    · rw [if_neg h7]
      have hk : k' = 5 ∨ k' = 6 := by omega
      rw [R2_lg hk hoa hob, lg_two hk, iha, ihb]
end Go.Proofs.YtdgpajdlomihaaaGreatDoor
