/- E2 Lb Jj Jk Jl Qu Qw Jm, in one text. -/
import Derived.Test.YthmnoepjkobcmabE1
import Derived.Test.YthmnoepjkobcmabLa
import Derived.Test.YthmnoepjkobcmabJi
import Derived.Deep.DeepCutAuto
import Derived.Deep.RegionLaw
import Derived.Test.YthmnoepjkobcmabRg
namespace Go.Proofs.Ythmnoepjkobcmab
set_option linter.unusedVariables false

/-- First places rise. -/
theorem Mon.first {A : Aut} {M : List (List Nat)} {N : List Nat} (h : Mon A M N) {j : Nat} (h0 : 0 < j) (hj : j < M.length) : N[N.idxOf j]? = some j ∧ N.idxOf j / A.k.toNat < j ∧ ∀ q i, q < N.idxOf j → N[q]? = some i → i < j := by
  obtain ⟨p, hp, hq, hr⟩ := h.bi.fresh j h0 hj
  have e := idxOf_first hp (fun q hqp e => by have := hr q j hqp e; omega)
  rw [e]
  exact ⟨hp, hq, hr⟩
theorem slt_trans {u v w : List Nat} (h : slt u v) (g : slt v w) : slt u w := by
  refine ⟨sle_trans h.1 g.1, fun e => ?_⟩
  subst e
  exact h.2 (sle_anti h.1 g.1)
theorem slt_le {u v w : List Nat} (h : slt u v) (g : sle v w) : slt u w := by
  refine ⟨sle_trans h.1 g, fun e => ?_⟩
  subst e
  exact h.2 (sle_anti h.1 g)
theorem Mon.rise {A : Aut} {M : List (List Nat)} {N : List Nat} (h : Mon A M N) : ∀ j, j < M.length → ∀ i, i < j → slt (Go.Proofs.Ythmnoepjkobcmab.lw A.k.toNat N i) (Go.Proofs.Ythmnoepjkobcmab.lw A.k.toNat N j) := by
  intro j
  induction j using Nat.strongRecOn with
  | _ j ih =>
    intro hj i hij
    obtain ⟨a1, a2, a3⟩ := h.first (by omega) hj
    rw [lw_step h.fst (s := j) (by omega) hj]
    by_cases e : i = 0
    · subst e
      rw [lw_zero]
      exact slt_nil _ _
    · obtain ⟨b1, b2, b3⟩ := h.first (j := i) (by omega) (by omega)
      have hlt : N.idxOf i < N.idxOf j := by
        by_cases q : N.idxOf i < N.idxOf j
        · exact q
        · by_cases q2 : N.idxOf i = N.idxOf j
          · rw [q2, a1] at b1; simp at b1; omega
          · have := b3 _ _ (show N.idxOf j < N.idxOf i by omega) a1
            omega
      rw [lw_step h.fst (s := i) (by omega) (by omega)]
      have hd : N.idxOf i / A.k.toNat ≤ N.idxOf j / A.k.toNat := Nat.div_le_div_right (Nat.le_of_lt hlt)
      by_cases c : N.idxOf i / A.k.toNat = N.idxOf j / A.k.toNat
      · rw [c]
        apply slt_letter
        have e1 := Nat.div_add_mod (N.idxOf i) A.k.toNat
        have e2 := Nat.div_add_mod (N.idxOf j) A.k.toNat
        rw [c] at e1
        omega
      · exact slt_snoc (ih _ a2 (by omega) _ (by omega)) _ _
/-- A letter behind an element: no later word. -/
theorem Mon.step_le {A : Aut} {M : List (List Nat)} {N : List Nat} (h : Mon A M N) {x c : Nat} (hx : x < M.length) (hc : c < A.k.toNat) : sle (Go.Proofs.Ythmnoepjkobcmab.lw A.k.toNat N (N.getD (x * A.k.toNat + c) 0)) (Go.Proofs.Ythmnoepjkobcmab.lw A.k.toNat N x ++ [c]) := by
  obtain ⟨l, _, h2, hp⟩ := h.at hx hc
  obtain ⟨j, hj⟩ : ∃ j, N.getD (x * A.k.toNat + c) 0 = j := ⟨_, rfl⟩
  rw [hj] at h2 ⊢
  have hjl := (List.getElem?_eq_some_iff.1 h2).1
  by_cases e : j = 0
  · subst e; rw [lw_zero]; exact sle_nil _
  · obtain ⟨a1, a2, a3⟩ := h.first (j := j) (by omega) hjl
    have hle : N.idxOf j ≤ x * A.k.toNat + c := by
      by_cases q : N.idxOf j ≤ x * A.k.toNat + c
      · exact q
      · have hn : N[x * A.k.toNat + c]? = some j := by rw [← hj, List.getElem?_eq_getElem hp, getD_of (List.getElem?_eq_getElem hp)]
        have := a3 _ _ (by omega) hn
        omega
    rw [lw_step h.fst (s := j) (by omega) hjl]
    have e1 : (x * A.k.toNat + c) / A.k.toNat = x := by rw [Nat.mul_comm, Nat.mul_add_div (by omega), Nat.div_eq_of_lt hc]; rfl
    have e2 : (x * A.k.toNat + c) % A.k.toNat = c := by rw [Nat.mul_comm, Nat.mul_add_mod, Nat.mod_eq_of_lt hc]
    have hd : N.idxOf j / A.k.toNat ≤ x := by rw [← e1]; exact Nat.div_le_div_right hle
    by_cases q : N.idxOf j / A.k.toNat = x
    · rw [q]
      have e3 := Nat.div_add_mod (N.idxOf j) A.k.toNat
      rw [q] at e3
      by_cases q2 : N.idxOf j % A.k.toNat = c
      · rw [q2]; exact sle_refl _
      · refine (slt_letter _ ?_).1
        have : A.k.toNat * x = x * A.k.toNat := Nat.mul_comm _ _
        omega
    · exact (slt_snoc (h.rise x hx _ (by omega)) _ _).1
theorem snoc_ind {p : List Nat → Prop} (h0 : p []) (h1 : ∀ u c, p u → p (u ++ [c])) : ∀ u, p u := by
  intro u
  have : ∀ n u, u.length = n → p u := by
    intro n
    induction n with
    | zero => intro u hu; rw [List.length_eq_zero_iff.1 hu]; exact h0
    | succ n ih =>
      intro u hu
      have hne : u ≠ [] := by intro e; rw [e] at hu; simp at hu
      rw [← List.dropLast_concat_getLast hne]
      exact h1 _ _ (ih _ (by simp; omega))
  exact this _ u rfl
/-- No word ahead of an element's least word has that element. -/
theorem Mon.least {A : Aut} {M : List (List Nat)} {N : List Nat} (h : Mon A M N) : ∀ u, Lt A.k.toNat u → sle (Go.Proofs.Ythmnoepjkobcmab.lw A.k.toNat N (mr A.k.toNat N 0 u)) u := by
  apply snoc_ind
  · intro _
    rw [mr_nil, lw_zero]
    exact sle_refl _
  · intro u c ih hu
    have := ih hu.left
    rw [mr_app, mr_one]
    exact sle_trans (h.step_le (h.lt hu.left h.pos) (hu.right c (by simp))) (sle_app this _)
theorem lxl_pre (a : List Nat) : ∀ {u v : List Nat}, lxl u v → lxl (a ++ u) (a ++ v) := by
  intro u v h
  exact lxl_app u v rfl (lxl_refl a) (fun _ => h)
theorem sle_pre (a : List Nat) {u v : List Nat} (h : sle u v) : sle (a ++ u) (a ++ v) := by
  rcases h with h | ⟨h, g⟩
  · exact .inl (by simp; omega)
  · exact .inr ⟨by simp; omega, lxl_pre a g⟩
/-- Pieces of least words are least words. -/
theorem Mon.piece {A : Aut} {M : List (List Nat)} {N : List Nat} (h : Mon A M N) {x : Nat} (hx : x < M.length) {a b c : List Nat} (e : Go.Proofs.Ythmnoepjkobcmab.lw A.k.toNat N x = a ++ b ++ c) : Go.Proofs.Ythmnoepjkobcmab.lw A.k.toNat N (mr A.k.toNat N 0 b) = b := by
  obtain ⟨hl, hw⟩ := h.lw x hx
  rw [e] at hl hw
  have hb : Lt A.k.toNat b := hl.left.right
  have hv := h.least b hb
  obtain ⟨hvl, hvw⟩ := h.lw _ (h.lt hb h.pos)
  obtain ⟨v, hvE⟩ : ∃ v, Go.Proofs.Ythmnoepjkobcmab.lw A.k.toNat N (mr A.k.toNat N 0 b) = v := ⟨_, rfl⟩
  rw [hvE] at hv hvl hvw ⊢
  have hs : mr A.k.toNat N 0 (a ++ v ++ c) = x := by
    rw [mr_app, mr_app, ← hw, mr_app, mr_app]
    congr 1
    rw [← h.mr_pr (h.lt hl.left.left h.pos) hvl, ← h.mr_pr (h.lt hl.left.left h.pos) hb, hvw]
  have h1 := h.least (a ++ v ++ c) ((hl.left.left.app hvl).app hl.right)
  rw [hs, e] at h1
  have h2 : sle (a ++ v ++ c) (a ++ b ++ c) := sle_app (sle_pre a hv) c
  have := sle_anti h2 h1
  rw [List.append_left_inj, List.append_right_inj] at this
  exact this
end Go.Proofs.Ythmnoepjkobcmab

namespace Go.Proofs.Ythmnoepjkobcmab
set_option linter.unusedVariables false

theorem getD_set {f : List Nat} {x y v : Nat} (h : x < f.length) : (f.set x v).getD y 0 = if x = y then v else f.getD y 0 := by
  rw [List.getD_eq_getElem?_getD, List.getElem?_set]
  by_cases e : x = y
  · subst e; simp [h]
  · simp [e, List.getD_eq_getElem?_getD]
/-- A forest f of N: r is each one's root, e falls on the way up. -/
structure UF (N : Nat) (f : List Nat) (r e : Nat → Nat) : Prop where
  len : f.length = N
  lt : ∀ x, x < N → f.getD x 0 < N
  fix : ∀ x, x < N → (f.getD x 0 = x ↔ r x = x)
  inv : ∀ x, x < N → r (f.getD x 0) = r x
  dec : ∀ x, x < N → f.getD x 0 ≠ x → e (f.getD x 0) < e x
theorem UF.root' {N : Nat} {f : List Nat} {r e : Nat → Nat} (h : UF N f r e) : ∀ m x, e x ≤ m → x < N → r x < N ∧ r (r x) = r x := by
  intro m
  induction m with
  | zero =>
    intro x he hx
    by_cases q : f.getD x 0 = x
    · have := (h.fix x hx).1 q
      rw [this]; exact ⟨hx, this⟩
    · have := h.dec x hx q; omega
  | succ m ih =>
    intro x he hx
    by_cases q : f.getD x 0 = x
    · have := (h.fix x hx).1 q
      rw [this]; exact ⟨hx, this⟩
    · have h1 := h.dec x hx q
      have h2 := ih (f.getD x 0) (by omega) (h.lt x hx)
      rw [h.inv x hx] at h2
      exact h2
theorem UF.root {N : Nat} {f : List Nat} {r e : Nat → Nat} (h : UF N f r e) {x : Nat} (hx : x < N) : r x < N ∧ r (r x) = r x := h.root' (e x) x (Nat.le_refl _) hx
theorem UF.halve {N : Nat} {f : List Nat} {r e : Nat → Nat} (h : UF N f r e) {x : Nat} (hx : x < N) (hn : f.getD x 0 ≠ x) : UF N (f.set x (f.getD (f.getD x 0) 0)) r e := by
  have hl : x < f.length := by rw [h.len]; exact hx
  have h1 := h.lt x hx
  have d1 := h.dec x hx hn
  have d2 : e (f.getD (f.getD x 0) 0) ≤ e (f.getD x 0) := by
    by_cases q : f.getD (f.getD x 0) 0 = f.getD x 0
    · rw [q]; exact Nat.le_refl _
    · exact Nat.le_of_lt (h.dec _ h1 q)
  refine ⟨by simp [h.len], fun y hy => ?_, fun y hy => ?_, fun y hy => ?_, fun y hy => ?_⟩ <;> rw [getD_set hl]
  · split
    · exact h.lt _ h1
    · exact h.lt y hy
  · split
    · rename_i q
      subst q
      constructor
      · intro q; rw [q] at d2; omega
      · intro q; exact absurd ((h.fix x hx).2 q) hn
    · exact h.fix y hy
  · split
    · rename_i q
      subst q
      rw [h.inv _ h1, h.inv _ hx]
    · exact h.inv y hy
  · split
    · rename_i q
      subst q
      intro _; omega
    · exact h.dec y hy
/-- How many trees there are. -/
def rts (N : Nat) (r : Nat → Nat) : Nat := ((List.range N).filter fun x => r x = x).length
/-- The root of each one, behind the joining of s and t. -/
def jn (r : Nat → Nat) (s t : Nat) : Nat → Nat := fun x => if r x = r s then r t else r x
theorem UF.link {N : Nat} {f : List Nat} {r e : Nat → Nat} (h : UF N f r e) {s t : Nat} (hs : s < N) (ht : t < N) (hne : r s ≠ r t) : ∃ e', UF N (f.set (r s) (r t)) (jn r s t) e' := by
  obtain ⟨s1, s2⟩ := h.root hs
  obtain ⟨t1, t2⟩ := h.root ht
  have hl : r s < f.length := by rw [h.len]; exact s1
  refine ⟨fun x => if r x = r s then e x + e (r t) + 1 else e x, by simp [h.len], fun y hy => ?_, fun y hy => ?_, fun y hy => ?_, fun y hy => ?_⟩ <;> rw [getD_set hl]
  · split
    · exact t1
    · exact h.lt y hy
  · unfold jn
    split
    · rename_i q
      subst q
      rw [if_pos s2]
    · rename_i q
      split
      · rename_i p
        constructor
        · intro z
          have := (h.fix y hy).1 z
          rw [p] at this
          exact absurd this q
        · intro z
          rw [← z, t2] at p
          exact absurd p.symm hne
      · exact h.fix y hy
  · unfold jn
    split
    · rename_i q
      subst q
      rw [if_neg (by rw [t2]; exact fun z => hne z.symm), if_pos s2, t2]
    · rw [h.inv y hy]
  · split
    · rename_i q
      subst q
      intro _
      simp only [if_neg (show ¬ r (r t) = r s by rw [t2]; exact fun z => hne z.symm), if_pos s2]
      omega
    · intro z
      have := h.dec y hy z
      simp only [h.inv y hy]
      split <;> omega
theorem UF.stay {N : Nat} {f : List Nat} {r e : Nat → Nat} (h : UF N f r e) {s : Nat} (hs : s < N) : f.set (r s) (r s) = f := by
  obtain ⟨s1, s2⟩ := h.root hs
  have h1 := (h.fix _ s1).2 s2
  apply List.ext_getElem?
  intro j
  rw [List.getElem?_set]
  split
  · rename_i q
    subst q
    have hl : r s < f.length := by rw [h.len]; exact s1
    rw [if_pos hl, List.getElem?_eq_getElem hl]
    rw [List.getD_eq_getElem?_getD, List.getElem?_eq_getElem hl] at h1
    exact congrArg some h1.symm
  · rfl
theorem UF.id (N : Nat) : UF N (List.range N) (fun x => x) (fun _ => 0) := by
  have : ∀ x, x < N → (List.range N).getD x 0 = x := fun x hx => by rw [List.getD_eq_getElem?_getD, List.getElem?_range hx]; rfl
  exact ⟨by simp, fun x hx => by rw [this x hx]; exact hx, fun x hx => by rw [this x hx], fun x hx => by rw [this x hx], fun x hx q => absurd (this x hx) q⟩
theorem rts_less {N : Nat} {f : List Nat} {r e : Nat → Nat} (h : UF N f r e) {s t : Nat} (hs : s < N) (ht : t < N) (hne : r s ≠ r t) : rts N (jn r s t) < rts N r := by
  obtain ⟨s1, s2⟩ := h.root hs
  obtain ⟨t1, t2⟩ := h.root ht
  unfold rts
  refine filter_strict (fun x hx => ?_) (List.range N) (r s) (by simp; exact s1) ?_ ?_
  · simp only [decide_eq_true_eq] at hx ⊢
    unfold jn at hx
    split at hx
    · rw [← hx, t2]
    · exact hx
  · simp only [decide_eq_false_iff_not]
    unfold jn
    rw [if_pos s2]
    exact fun z => hne z.symm
  · simpa using s2
theorem rts_pos {N : Nat} {f : List Nat} {r e : Nat → Nat} (h : UF N f r e) {s : Nat} (hs : s < N) : 0 < rts N r := by
  obtain ⟨s1, s2⟩ := h.root hs
  unfold rts
  exact List.length_pos_of_mem (List.mem_filter.2 ⟨List.mem_range.2 s1, by simpa using s2⟩)
theorem rts_le (N : Nat) (r : Nat → Nat) : rts N r ≤ N := by
  have := List.length_filter_le (fun x => decide (r x = x)) (List.range N)
  simpa [rts] using this
/-- What tells two apart that hang together tells apart one of the pairs that were met. -/
def UC {S : Type} (acc : Nat → List Nat → Bool) (d : S → Nat → S) (sh : S → Bool) (N : Nat) (r : Nat → Nat) (Q : List (Nod S)) : Prop := ∀ x y, x < N → y < N → r x = r y → ∀ v, acc x v ≠ acc y v → ∃ m ∈ Q, sh (wrun d m.p v) = true
theorem UC.start {S : Type} (acc : Nat → List Nat → Bool) (d : S → Nat → S) (sh : S → Bool) (N : Nat) (Q : List (Nod S)) : UC acc d sh N (fun x => x) Q := fun x y _ _ h v hv => absurd (by rw [show x = y from h]) hv
theorem UC.join {S : Type} {acc : Nat → List Nat → Bool} {d : S → Nat → S} {sh : S → Bool} {N : Nat} {r : Nat → Nat} {Q : List (Nod S)} (h : UC acc d sh N r Q) {s t : Nat} (hs : s < N) (ht : t < N) (n : Nod S) (hn : ∀ v, acc s v ≠ acc t v → sh (wrun d n.p v) = true) : UC acc d sh N (jn r s t) (Q ++ [n]) := by
  intro x y hx hy hr v hv
  have key : (∃ m ∈ Q, sh (wrun d m.p v) = true) ∨ acc s v ≠ acc t v := by
    unfold jn at hr
    by_cases q : r x = r s <;> by_cases p : r y = r s
    · exact .inl (h x y hx hy (q.trans p.symm) v hv)
    · rw [if_pos q, if_neg p] at hr
      by_cases z1 : acc x v = acc s v
      · by_cases z2 : acc s v = acc t v
        · exact .inl (h t y ht hy hr v (fun z => hv (z1.trans (z2.trans z))))
        · exact .inr z2
      · exact .inl (h x s hx hs q v z1)
    · rw [if_neg q, if_pos p] at hr
      by_cases z1 : acc y v = acc s v
      · by_cases z2 : acc s v = acc t v
        · exact .inl (h x t hx ht hr v (fun z => hv (z.trans (z2.symm.trans z1.symm))))
        · exact .inr z2
      · exact .inl (h y s hy hs p v z1)
    · rw [if_neg q, if_neg p] at hr
      exact .inl (h x y hx hy hr v hv)
  rcases key with ⟨m, hm, hsm⟩ | key
  · exact ⟨m, List.mem_append_left _ hm, hsm⟩
  · exact ⟨n, by simp, hn v key⟩
end Go.Proofs.Ythmnoepjkobcmab

namespace Go.Proofs.Ythmnoepjkobcmab
open Go Go.RowKit Go.Lib Go.Maps
set_option linter.unusedVariables false

theorem Try.info_auto : (Try.prog.info? 25).map (·.size) = some 3 := by kernel_rfl
theorem results_auto {fn : Func} {p u : Tmp} (h : fn.results = #[.cell p 25, .tmp u]) {tmps : Array Value} {b : Nat} {arr : Array Value} {w : World} (hp : tmps.getD p undef = .pointer (some ⟨b, 0, none⟩)) (hc : w.heap[b]? = some (.cells arr 25 (0, 0))) (hs : arr.size = 3) :
    (results fn tmps).run Try.prog w = .ok (.tuple #[.agg arr, tmps.getD u undef]) w := by
  rw [results_cell_tmp h]
  have := run_loadVar_row w b 25 25 arr (0, 0) _ hc Try.underlying25 rfl (by rw [Try.info_auto, hs])
  simp [hp, asAddr, this, Result.andThen]
abbrev ceI (s : Nat) : List Value := [.int .i64 (s : Int)]
abbrev klI (s : Nat) : Lit := .int .i64 (s : Int)
abbrev OI (w : World) (ok : Nat → Prop) (d : Nat → Nat → Nat) (K x : Nat) (acc : Nat → Bool) (i c : Nat) (m n : List Nat) (vm vn va : Value) (D : DataW Unit) (f : Nat) (wr : World) : Prop := OS w 3 1 ceI klI ok d K x acc i c m n vm vn va D f wr
theorem wfN {s : Nat} (h : s ≤ 9223372036854775807) : (Lit.int .i64 (s : Int)).wf = true := WalkArith.wf_i64 (by omega)

theorem flat_ceI (m : List Nat) : m.flatMap ceI = nC m := by
  induction m with
  | nil => rfl
  | cons a m ih => rw [List.flatMap_cons, ih]; rfl
theorem met_cell {w : World} {base : Nat} {a : Option Addr} {c : Nat} {m : List Nat} {i s : Nat} (h : w.ownsRow base 3 1 (.slice a m.length c) m.length (m.flatMap ceI)) (hi : m[i]? = some s) : ∃ g, a = some ⟨g, 0, none⟩ ∧ w.cell? ⟨g, i, none⟩ = some (.int .i64 (s : Int)) := by
  rw [flat_ceI] at h
  have hil := (List.getElem?_eq_some_iff.1 hi).1
  have h2 := h
  rcases h.2 with ⟨h1, h0⟩ | ⟨g, cap, cur, h1, _⟩
  · omega
  · simp only [Value.slice.injEq] at h1
    obtain ⟨rfl, _, rfl⟩ := h1
    refine ⟨g, rfl, ?_⟩
    rw [h2.cellAt i (by omega)]
    simp [nC, hi]
/-- The block out, behind an append to a row. -/
theorem SH.outN {S : Type} {w : World} {tS z : Nat} {ce : S → List Value} {K : Nat} {acc : S → Bool} {m : List S} {n : List Nat} {i : Nat} {vm vn va : Value} {wr w2 : World} {o : Obj} (h : SH w tS z ce K acc m n i vm vn va wr) {v : Value} {e : TypeId} {size k : Nat} {xs : List Value} (hv : wr.ownsRow w.heap.size e size v k xs) (he : e ≠ 25) (hg : (wr.alloc o).grownBy w2 v.ownBlock) :
    w2.heap[w.heap.size + 1]? = some (.cells #[.int .i64 K, vn, va] 25 (0, 0)) := by
  have hbig := h.big
  rw [hg.block _ (by simp; omega) (fun e1 => by
    obtain ⟨_, cur, hc⟩ := own_blk hv e1.symm
    have := h.out
    rw [hc] at this
    injection this with this
    injection this with _ this _
    exact he this), (below_new wr o).block _ (by omega)]
  exact h.out
theorem cell_of {w : World} {b j : Nat} {arr : Array Value} {t : TypeId} (h : w.heap[b]? = some (.cells arr t (0, 0))) : w.cell? ⟨b, j, none⟩ = arr[j]? := by simp [World.cell?, h]
theorem froz_of {w : World} {b j : Nat} {arr : Array Value} {t : TypeId} (h : w.heap[b]? = some (.cells arr t (0, 0))) : w.frozen? ⟨b, j, none⟩ = false := by simp [World.frozen?, h]
theorem oi_start {w w1 : World} {ok : Nat → Prop} {d : Nat → Nat → Nat} {K x : Nat} {acc : Nat → Bool} (hok : ok x)
    (hmo : w1.ownsMap Try.prog 3 (plainElem Try.prog 3) (w.heap.size + 3) 1 ((DataW.map [] : DataW Unit).put (klI x) (.lit (.int .i64 0))))
    (hmg : ((((w.alloc (.cells #[.int .i64 0, .slice none 0 0, .slice none 0 0] 25)).alloc (.cells #[.int .i64 K, .slice none 0 0, .slice none 0 0] 25)).alloc (.cells #[.int .i64 x] 3)).alloc (.map #[] 0)).grownBy w1 (some (w.heap.size + 3)))
    (hinj : ∀ a b, ok a → ok b → klI a = klI b → a = b) :
    OI w ok d K x acc 0 0 [x] [] (.slice (some ⟨w.heap.size + 2, 0, none⟩) 1 1) (.slice none 0 0) (.slice none 0 0) ((DataW.map [] : DataW Unit).put (klI x) (.lit (.int .i64 0))) 32768 w1 := by
  have k : ∀ b, b < w.heap.size + 3 → w1.heap[b]? = ((((w.alloc (.cells #[.int .i64 0, .slice none 0 0, .slice none 0 0] 25)).alloc (.cells #[.int .i64 K, .slice none 0 0, .slice none 0 0] 25)).alloc (.cells #[.int .i64 x] 3)).alloc (.map #[] 0)).heap[b]? := fun b hb => hmg.block b (by simp; omega) (by simp; omega)
  have kb : Below w.heap.size w ((((w.alloc (.cells #[.int .i64 0, .slice none 0 0, .slice none 0 0] 25)).alloc (.cells #[.int .i64 K, .slice none 0 0, .slice none 0 0] 25)).alloc (.cells #[.int .i64 x] 3)).alloc (.map #[] 0)) := ((((Below.refl _ w).alloc (Nat.le_refl _) _).alloc (by simp) _).alloc (by simp; omega) _).alloc (by simp; omega) _
  have e0 : w1.heap[w.heap.size]? = some (.cells #[.int .i64 0, .slice none 0 0, .slice none 0 0] 25 (0, 0)) := by
    rw [k _ (by omega), (below_new _ _).block _ (by simp; omega), (below_new _ _).block _ (by simp; omega), (below_new _ _).block _ (by simp)]
    exact heap_alloc_last _ _
  have e1 : w1.heap[w.heap.size + 1]? = some (.cells #[.int .i64 K, .slice none 0 0, .slice none 0 0] 25 (0, 0)) := by
    rw [k _ (by omega), (below_new _ _).block _ (by simp), (below_new _ _).block _ (by simp)]
    have := heap_alloc_last (w.alloc (.cells #[.int .i64 0, .slice none 0 0, .slice none 0 0] 25)) (.cells #[.int .i64 K, .slice none 0 0, .slice none 0 0] 25)
    simpa using this
  have e2 : w1.heap[w.heap.size + 2]? = some (.cells #[.int .i64 x] 3 (0, 0)) := by
    rw [k _ (by omega), (below_new _ _).block _ (by simp)]
    have := heap_alloc_last ((w.alloc (.cells #[.int .i64 0, .slice none 0 0, .slice none 0 0] 25)).alloc (.cells #[.int .i64 K, .slice none 0 0, .slice none 0 0] 25)) (.cells #[.int .i64 x] 3)
    simpa using this
  refine ⟨⟨e0, e1, map_blk hmo, ?_, World.ownsRow_nil _ _ _ _, World.ownsRow_nil _ _ _ _, ?_, by simp, kb.grown hmg (by simp; omega) (fun b hb => by simp at hb; omega)⟩, hmo, ?_, BI.start d K x, rfl, rfl, by simp, by simpa using hok⟩
  · exact ⟨rfl, .inr ⟨w.heap.size + 2, 1, #[.int .i64 x], rfl, by omega, e2, Nat.le_refl _, by unfold maxLen; omega, rfl, rfl⟩⟩
  · intro b _ h2; simp [Value.ownBlock] at h2
  · have := (MI.empty klI ok).put hinj isMap_empty (t := x) trivial hok (by simp)
    simpa using this

end Go.Proofs.Ythmnoepjkobcmab

namespace Go.Proofs.Ythmnoepjkobcmab
open Go Go.RowKit Go.Lib Go.Maps
set_option linter.unusedVariables false

theorem nodup_small : ∀ (N : Nat) (l : List Nat), l.Nodup → (∀ x ∈ l, x < N) → l.length ≤ N := by
  intro N
  induction N with
  | zero =>
    intro l _ h
    cases l with
    | nil => simp
    | cons a l => exact absurd (h a (by simp)) (by omega)
  | succ N ih =>
    intro l hn h
    have h1 := ih (l.erase N) (hn.erase N) (fun x hx => by
      have h2 := (List.Nodup.mem_erase_iff hn).1 hx
      have := h x h2.2
      have := h2.1
      omega)
    have h2 := List.length_erase (a := N) (l := l)
    split at h2 <;> omega
theorem bgo_total {d : Nat → Nat → Nat} {K N x : Nat} (hk : 1 ≤ K ∧ K ≤ 8) (hN : N ≤ 4096) (hd : ∀ s c, s < N → c < K → d s c < N) : ∀ (f : Nat) (m n : List Nat), BI d K x m n → (∀ s ∈ m, s < N) → ∃ M R, bgo d K f m n = some (M, R) ∧ ∀ s ∈ M, s < N := by
  intro f
  induction f with
  | zero => intro m n _ hm; exact ⟨m, n, rfl, hm⟩
  | succ f ih =>
    intro m n h hm
    by_cases c : n.length = m.length * K
    · exact ⟨m, n, bgo_end c, hm⟩
    · have hlt : n.length / K < m.length := by
        rw [Nat.div_lt_iff_lt_mul (by omega)]
        have := h.len
        omega
      have hi := List.getElem?_eq_getElem hlt
      have hn : n.length = n.length / K * K + n.length % K := by rw [Nat.mul_comm, Nat.div_add_mod]
      have hc : n.length % K < K := Nat.mod_lt _ (by omega)
      have hdN := hd m[n.length / K] (n.length % K) (hm _ (List.getElem_mem _)) hc
      by_cases ht : d m[n.length / K] (n.length % K) ∈ m
      · rw [bgo_old hc hn hi ht]
        exact ih _ _ (h.old hc hn hi ht) hm
      · have h4 : m.length ≠ 4096 := fun e => by
          have := nodup_small N (d m[n.length / K] (n.length % K) :: m) (List.nodup_cons.2 ⟨ht, h.nodup⟩) (fun y hy => by
            rcases List.mem_cons.1 hy with rfl | hy
            · exact hdN
            · exact hm y hy)
          simp at this
          omega
        rw [bgo_new hc hn hi ht h4]
        refine ih _ _ (h.new hc hn hi ht h4) (fun y hy => ?_)
        rcases List.mem_append.1 hy with hy | hy
        · exact hm y hy
        · simp at hy; subst hy; exact hdN
theorem Good.kn {A : Aut} (h : Good A) : 1 ≤ A.k.toNat ∧ A.k.toNat ≤ 8 ∧ ((A.k.toNat : Nat) : Int) = A.k := by
  have := h.k1
  have := h.k8
  omega
/-- The search over an automaton's own states has an end. -/
theorem bfs_some {A : Aut} (G : Good A) {s : Nat} (hs : s < A.ac.length) : ∃ m n, bfs (dN A) A.k.toNat s = some (m, n) ∧ ∀ x ∈ m, x < A.ac.length :=
  bgo_total ⟨G.kn.1, G.kn.2.1⟩ G.n2 (fun x c hx hc => (G.at hx (by have := G.kn.2.2; omega)).2.2) _ _ _ (BI.start _ _ s) (fun x hx => by simp at hx; subst hx; exact hs)
/-- The automaton in order of what is met from s. -/
def rch (A : Aut) (s : Nat) (acc : Nat → Bool) : Aut := match bfs (dN A) A.k.toNat s with
  | some (m, n) => ⟨A.k, n.map fun (x : Nat) => (x : Int), m.map acc⟩
  | none => ⟨0, [], []⟩
def zAut : Aut := ⟨0, [], []⟩
/-- An automaton in memory of the call's own. -/
def AO (base : Nat) (w : World) (v : Value) (B : Aut) : Prop := ∃ an cn aa ca, v = .agg #[.int .i64 B.k, .slice an B.nx.length cn, .slice aa B.ac.length ca] ∧ w.ownsRow base 3 1 (.slice an B.nx.length cn) B.nx.length (zC B.nx) ∧ w.ownsRow base 4 1 (.slice aa B.ac.length ca) B.ac.length (bC B.ac)
theorem AO.ar {base : Nat} {w : World} {v : Value} {B : Aut} (h : AO base w v B) : AR w v B := by
  obtain ⟨an, cn, aa, ca, e, h1, h2⟩ := h
  exact ⟨an, cn, aa, ca, e, own_sr h1, own_sr h2⟩
theorem AO.below {base : Nat} {w w' : World} {v : Value} {B : Aut} (h : AO base w v B) (hb : Below w.heap.size w w') : AO base w' v B := by
  obtain ⟨an, cn, aa, ca, e, h1, h2⟩ := h
  exact ⟨an, cn, aa, ca, e, own_below h1 hb, own_below h2 hb⟩
theorem AO.mono {base base' : Nat} {w : World} {v : Value} {B : Aut} (h : AO base w v B) (hb : base' ≤ base) : AO base' w v B := by
  obtain ⟨an, cn, aa, ca, e, h1, h2⟩ := h
  exact ⟨an, cn, aa, ca, e, own_mono h1 hb, own_mono h2 hb⟩
theorem AO.keep {base : Nat} {w w' : World} {v : Value} {B : Aut} (h : AO base w v B) (hk : ∀ (b : Nat) (cur : Array Value) (e : TypeId), e ≠ 25 → w.heap[b]? = some (.cells cur e (0, 0)) → w'.heap[b]? = w.heap[b]?) : AO base w' v B := by
  obtain ⟨an, cn, aa, ca, e, h1, h2⟩ := h
  exact ⟨an, cn, aa, ca, e, own_keep h1 (fun b cur _ hc => hk b cur _ (by decide) hc), own_keep h2 (fun b cur _ hc => hk b cur _ (by decide) hc)⟩
theorem AO.zero (base : Nat) (w : World) : AO base w (.agg #[.int .i64 0, .slice none 0 0, .slice none 0 0]) zAut := ⟨none, 0, none, 0, rfl, World.ownsRow_nil _ _ _ _, World.ownsRow_nil _ _ _ _⟩
/-- What a call that makes an automaton answers. -/
def FQ (B : Aut) (E : Int) (w : World) (e : Ending) (w' : World) : Prop := ∃ v', e = .returned (.tuple #[v', .int .i64 E]) ∧ AO w.heap.size w' v' B ∧ Below w.heap.size w w'
theorem sq_fq {A : Aut} (G : Good A) {s : Nat} (hs : s < A.ac.length) {acc : Nat → Bool} {w : World} {e : Ending} {w' : World} (h : SQ (bfs (dN A) A.k.toNat s) A.k.toNat acc w e w') : FQ (rch A s acc) 0 w e w' := by
  obtain ⟨m, n, hb, _⟩ := bfs_some G hs
  have hr : rch A s acc = ⟨A.k, n.map fun (x : Nat) => (x : Int), m.map acc⟩ := by unfold rch; rw [hb]
  rcases h with ⟨h, _⟩ | ⟨m', n', vn, va, h, he, h1, h2, h3⟩
  · rw [hb] at h; cases h
  · rw [hb] at h
    simp only [Option.some.injEq, Prod.mk.injEq] at h
    obtain ⟨rfl, rfl⟩ := h
    obtain ⟨an, cn, rfl⟩ := own_shape h1
    obtain ⟨aa, ca, rfl⟩ := own_shape h2
    rw [G.kn.2.2] at he
    refine ⟨_, he, ?_, h3⟩
    rw [hr]
    refine ⟨an, cn, aa, ca, ?_, ?_, ?_⟩
    · simp
    · simpa [nC_zC] using h1
    · simpa using h2

end Go.Proofs.Ythmnoepjkobcmab

namespace Go.Proofs.Ythmnoepjkobcmab
open Go Go.RowKit Go.Lib Go.Maps
set_option linter.unusedVariables false

/-- The answer's block is written. -/
theorem res_done {base b : Nat} {w0 w1 : World} {B : Aut} {x0 x1 x2 : Value} (hres : w1.heap[b]? = some (.cells #[.int .i64 0, .slice none 0 0, .slice none 0 0] 25 (0, 0))) (hao : AO base w1 (.agg #[x0, x1, x2]) B) (hb : Below base w0 w1) (hbb : base ≤ b) :
    (((w1.setCell ⟨b, 0, none⟩ x0).setCell ⟨b, 1, none⟩ x1).setCell ⟨b, 2, none⟩ x2).heap[b]? = some (.cells #[x0, x1, x2] 25 (0, 0)) ∧
    AO base (((w1.setCell ⟨b, 0, none⟩ x0).setCell ⟨b, 1, none⟩ x1).setCell ⟨b, 2, none⟩ x2) (.agg #[x0, x1, x2]) B ∧ Below base w0 (((w1.setCell ⟨b, 0, none⟩ x0).setCell ⟨b, 1, none⟩ x1).setCell ⟨b, 2, none⟩ x2) := by
  refine ⟨heap_set (heap_set (heap_set hres)), hao.keep (fun c cur e hne hc => ?_), ((hb.setCell (p := ⟨b, 0, none⟩) hbb _).setCell (p := ⟨b, 1, none⟩) hbb _).setCell (p := ⟨b, 2, none⟩) hbb _⟩
  have hne2 : c ≠ b := fun e2 => by
    rw [e2, hres] at hc
    injection hc with hc
    injection hc with _ hc _
    exact hne hc.symm
  rw [heap_set_other hne2, heap_set_other hne2, heap_set_other hne2]
/-- A block's cells and all below stay where another block is written. -/
theorem sb_set {W w1 : World} {b c j : Nat} {arr : Array Value} {x : Value} (h : SB W b arr w1) (hbc : b ≠ c) (hc : W.heap.size ≤ c) : SB W b arr (w1.setCell ⟨c, j, none⟩ x) := by
  refine ⟨fun o => ?_, h.2.setCell (p := ⟨c, j, none⟩) hc x⟩
  rw [World.cell?_of_block (heap_set_other hbc)]
  exact h.1 o
/-- What Ahead answers. -/
noncomputable def ahA (A : Aut) (b : ByteArray) : Aut := if cwE A b = 0 then rch A (goN A 0 (lets b)) (aN A) else zAut
noncomputable def notA (A : Aut) : Aut := if chkA A = 0 then rch A 0 (fun s => !aN A s) else zAut

noncomputable def reA (A : Aut) : Aut := if chkA A = 0 then rch A 0 (aN A) else zAut
theorem chk_emptyJ {k : Int} (h1 : 1 ≤ k) (h8 : k ≤ 8) : chk k ByteArray.empty = 0 := chk_ok k _ h1 h8 (fun i hi => by simp at hi)
theorem cwE_empty (A : Aut) : cwE A ByteArray.empty = chkA A := by
  unfold cwE
  rcases chkA_cases A with ⟨hG, hc⟩ | ⟨hG, hc⟩
  · rw [if_pos hc, hc, chk_emptyJ hG.k1 hG.k8]
  · rw [if_neg (by rw [hc]; decide), hc]
theorem ahA_empty (A : Aut) : ahA A ByteArray.empty = reA A := by
  unfold ahA reA
  rw [cwE_empty]
  rfl

end Go.Proofs.Ythmnoepjkobcmab

namespace Go.Proofs.Ythmnoepjkobcmab
set_option linter.unusedVariables false

theorem idxOf_map_on {S T : Type} [DecidableEq S] [DecidableEq T] {φ : T → S} {a : T} : ∀ {m : List T}, (∀ b ∈ m, φ b = φ a → b = a) → (m.map φ).idxOf (φ a) = m.idxOf a := by
  intro m
  induction m with
  | nil => intro _; rfl
  | cons x m ih =>
    intro h
    have h1 := ih (fun b hb => h b (List.mem_cons_of_mem _ hb))
    rw [List.map_cons, List.idxOf_cons, List.idxOf_cons, h1]
    by_cases e : x = a
    · subst e; simp
    · have e2 : ¬ φ x = φ a := fun q => e (h x (by simp) q)
      have b1 : (φ x == φ a) = false := by simpa using e2
      have b2 : (x == a) = false := by simpa using e
      rw [b1, b2]
/-- The same search, by other names. -/
theorem bgo_map {S T : Type} [DecidableEq S] [DecidableEq T] {d : S → Nat → S} {e : T → Nat → T} {k : Nat} (hk : 1 ≤ k) (φ : T → S) (P : T → Prop) (hP : ∀ t c, P t → c < k → P (e t c)) (hinj : ∀ a b, P a → P b → φ a = φ b → a = b) (hφ : ∀ t c, P t → c < k → φ (e t c) = d (φ t) c) :
    ∀ (f : Nat) (m : List T) (n : List Nat), (∀ t ∈ m, P t) → bgo d k f (m.map φ) n = (bgo e k f m n).map fun r => (r.1.map φ, r.2) := by
  intro f
  induction f with
  | zero => intro m n _; rfl
  | succ f ih =>
    intro m n hm
    by_cases c : n.length = m.length * k
    · rw [bgo_end c, bgo_end (by simpa using c)]; rfl
    · have c' : ¬ n.length = (m.map φ).length * k := by simpa using c
      rw [bgo, bgo, if_neg c, if_neg c', List.getElem?_map]
      cases hs : m[n.length / k]? with
      | none => rfl
      | some s =>
        have hsm : s ∈ m := List.mem_iff_getElem?.2 ⟨_, hs⟩
        have hc : n.length % k < k := Nat.mod_lt _ (by omega)
        have hPt := hP s _ (hm s hsm) hc
        have hf := hφ s _ (hm s hsm) hc
        simp only [Option.map_some]
        rw [← hf]
        have hix : (m.map φ).idxOf (φ (e s (n.length % k))) = m.idxOf (e s (n.length % k)) := idxOf_map_on fun b hb q => hinj b _ (hm b hb) hPt q
        by_cases ht : e s (n.length % k) ∈ m
        · rw [if_pos ht, if_pos (List.mem_map.2 ⟨_, ht, rfl⟩), hix]
          exact ih _ _ hm
        · have ht' : ¬ φ (e s (n.length % k)) ∈ m.map φ := by
            intro q
            obtain ⟨b, hb, q⟩ := List.mem_map.1 q
            have := hinj b _ (hm b hb) hPt q
            subst this
            exact ht hb
          rw [if_neg ht, if_neg ht', List.length_map]
          by_cases h4 : m.length = 4096
          · rw [if_pos h4, if_pos h4]; rfl
          · rw [if_neg h4, if_neg h4]
            have := ih (m ++ [e s (n.length % k)]) (n ++ [m.length]) (fun t q => by
              rcases List.mem_append.1 q with q | q
              · exact hm t q
              · simp at q; rw [q]; exact hPt)
            rw [List.map_append] at this
            exact this
theorem bgo_all {T : Type} [DecidableEq T] {e : T → Nat → T} {k : Nat} (hk : 1 ≤ k) (P : T → Prop) (hP : ∀ t c, P t → c < k → P (e t c)) : ∀ (f : Nat) (m : List T) (n : List Nat) (M : List T) (N : List Nat), (∀ t ∈ m, P t) → bgo e k f m n = some (M, N) → ∀ t ∈ M, P t := by
  intro f
  induction f with
  | zero => intro m n M N hm he; simp only [bgo, Option.some.injEq, Prod.mk.injEq] at he; obtain ⟨rfl, rfl⟩ := he; exact hm
  | succ f ih =>
    intro m n M N hm he
    by_cases c : n.length = m.length * k
    · rw [bgo_end c] at he
      simp only [Option.some.injEq, Prod.mk.injEq] at he; obtain ⟨rfl, rfl⟩ := he; exact hm
    · rw [bgo, if_neg c] at he
      cases hs : m[n.length / k]? with
      | none => rw [hs] at he; cases he
      | some s =>
        rw [hs] at he
        simp only at he
        have hsm : s ∈ m := List.mem_iff_getElem?.2 ⟨_, hs⟩
        have hc : n.length % k < k := Nat.mod_lt _ (by omega)
        have hPt := hP s _ (hm s hsm) hc
        by_cases ht : e s (n.length % k) ∈ m
        · rw [if_pos ht] at he; exact ih _ _ _ _ hm he
        · rw [if_neg ht] at he
          by_cases h4 : m.length = 4096
          · rw [if_pos h4] at he; cases he
          · rw [if_neg h4] at he
            exact ih _ _ _ _ (fun t q => by
              rcases List.mem_append.1 q with q | q
              · exact hm t q
              · simp at q; rw [q]; exact hPt) he
theorem bfs_map {S T : Type} [DecidableEq S] [DecidableEq T] {d : S → Nat → S} {e : T → Nat → T} {k : Nat} (hk : 1 ≤ k) (φ : T → S) (P : T → Prop) (hP : ∀ t c, P t → c < k → P (e t c)) (hinj : ∀ a b, P a → P b → φ a = φ b → a = b) (hφ : ∀ t c, P t → c < k → φ (e t c) = d (φ t) c) {x : S} {y : T} (hy : P y) (hx : φ y = x) :
    bfs d k x = (bfs e k y).map fun r => (r.1.map φ, r.2) := by
  have := bgo_map hk φ P hP hinj hφ 32768 [y] [] (fun t q => by simp at q; rw [q]; exact hy)
  rw [List.map_cons, hx] at this
  exact this
/-- An automaton by where letters lead, in order. -/
def oA (k : Int) (N : List Nat) (l : List Bool) : Aut := ⟨k, N.map fun (x : Nat) => (x : Int), l⟩
theorem oA_d {k : Nat} {N : List Nat} {l : List Bool} (i c : Nat) : dN (oA k N l) i c = N.getD (i * k + c) 0 := by
  unfold dN oA
  simp only [Int.toNat_natCast, List.getD_eq_getElem?_getD, List.getElem?_map]
  cases N[i * k + c]? <;> simp
theorem BI.at {S : Type} [DecidableEq S] {d : S → Nat → S} {k : Nat} {x : S} {M : List S} {N : List Nat} (h : BI d k x M N) (hl : N.length = M.length * k) {i c : Nat} (hi : i < M.length) (hc : c < k) : ∃ s, M[i]? = some s ∧ M[N.getD (i * k + c) 0]? = some (d s c) := by
  have hp : i * k + c < N.length := by
    have := Nat.mul_le_mul_right k (show i + 1 ≤ M.length from hi)
    rw [Nat.add_mul] at this
    omega
  have h1 : (i * k + c) / k = i := by rw [Nat.mul_comm, Nat.mul_add_div (by omega), Nat.div_eq_of_lt hc]; rfl
  have h2 : (i * k + c) % k = c := by rw [Nat.mul_comm, Nat.mul_add_mod, Nat.mod_eq_of_lt hc]
  obtain ⟨s, a, b⟩ := h.step (i * k + c) _ (List.getElem?_eq_getElem hp)
  rw [h1] at a
  rw [h2] at b
  refine ⟨s, a, ?_⟩
  rw [List.getD_eq_getElem?_getD, List.getElem?_eq_getElem hp]
  exact b
theorem BI.inj {S : Type} {d : S → Nat → S} {k : Nat} {x : S} {M : List S} {N : List Nat} (h : BI d k x M N) {i j : Nat} {s : S} (hi : M[i]? = some s) (hj : M[j]? = some s) : i = j := by
  obtain ⟨hil, e1⟩ := List.getElem?_eq_some_iff.1 hi
  obtain ⟨hjl, e2⟩ := List.getElem?_eq_some_iff.1 hj
  exact (List.getElem?_inj hil h.nodup).1 (hi.trans hj.symm)
/-- What was met, searched again. -/
theorem bfs_order {S : Type} [DecidableEq S] {d : S → Nat → S} {k : Nat} (hk : 1 ≤ k ∧ k ≤ 8) {x : S} {M : List S} {N : List Nat} (h : bfs d k x = some (M, N)) (l : List Bool) : bfs (dN (oA k N l)) k 0 = some (List.range M.length, N) := by
  obtain ⟨hB, hl⟩ := bfs_sure hk h
  have h0 : 0 < M.length := (List.getElem?_eq_some_iff.1 hB.first).1
  have hat : ∀ i c, i < M.length → c < k → dN (oA k N l) i c < M.length ∧ M.getD (dN (oA k N l) i c) x = d (M.getD i x) c := by
    intro i c hi hc
    obtain ⟨s, a, b⟩ := hB.at hl hi hc
    rw [oA_d]
    refine ⟨(List.getElem?_eq_some_iff.1 b).1, ?_⟩
    rw [List.getD_eq_getElem?_getD (l := M), List.getD_eq_getElem?_getD (l := M), a, b]
    rfl
  have hinj : ∀ a b, a < M.length → b < M.length → M.getD a x = M.getD b x → a = b := by
    intro a b ha hb e
    rw [List.getD_eq_getElem?_getD, List.getD_eq_getElem?_getD, List.getElem?_eq_getElem ha, List.getElem?_eq_getElem hb] at e
    exact (List.getElem?_inj ha hB.nodup).1 (by rw [List.getElem?_eq_getElem ha, List.getElem?_eq_getElem hb]; exact congrArg some e)
  have hm := bfs_map (d := d) (e := dN (oA k N l)) hk.1 (fun i => M.getD i x) (fun i => i < M.length) (fun t c ht hc => (hat t c ht hc).1) hinj (fun t c ht hc => (hat t c ht hc).2) (x := x) (y := 0) h0 (by have := hB.first; rw [List.getD_eq_getElem?_getD, this]; rfl)
  rw [h] at hm
  cases hb : bfs (dN (oA k N l)) k 0 with
  | none => rw [hb] at hm; cases hm
  | some r =>
    obtain ⟨M', N'⟩ := r
    rw [hb] at hm
    simp only [Option.map_some, Option.some.injEq, Prod.mk.injEq] at hm
    obtain ⟨e1, rfl⟩ := hm
    have hall := bgo_all (e := dN (oA k N l)) hk.1 (fun i => i < M.length) (fun t c ht hc => (hat t c ht hc).1) 32768 [0] [] M' N (fun t q => by simp at q; rw [q]; exact h0) hb
    have hlen : M.length = M'.length := by rw [e1, List.length_map]
    have : M' = List.range M.length := by
      apply List.ext_getElem?
      intro i
      by_cases hi : i < M'.length
      · rw [List.getElem?_eq_getElem hi, List.getElem?_range (by omega)]
        have q := congrArg (fun (L : List S) => L[i]?) e1
        simp only [List.getElem?_map, List.getElem?_eq_getElem hi, Option.map_some] at q
        have hiM : i < M.length := by omega
        have g := hinj (M'[i]) i (hall _ (List.getElem_mem hi)) hiM (by
          rw [List.getD_eq_getElem?_getD (i := i), q]; rfl)
        rw [g]
      · rw [List.getElem?_eq_none (by omega), List.getElem?_eq_none (by simp; omega)]
    rw [this]
theorem ord_good {S : Type} [DecidableEq S] {d : S → Nat → S} {k : Nat} (hk : 1 ≤ k ∧ k ≤ 8) {x : S} {M : List S} {N : List Nat} (h : bfs d k x = some (M, N)) {l : List Bool} (hl : l.length = M.length) : Good (oA k N l) := by
  obtain ⟨hB, hn⟩ := bfs_sure hk h
  have h0 : 0 < M.length := (List.getElem?_eq_some_iff.1 hB.first).1
  have hall : ∀ i, i < N.length → N.getD i 0 < M.length := by
    intro i hi
    obtain ⟨s, _, b⟩ := hB.step i _ (List.getElem?_eq_getElem hi)
    have := (List.getElem?_eq_some_iff.1 b).1
    rw [List.getD_eq_getElem?_getD, List.getElem?_eq_getElem hi]
    exact this
  have hg : ∀ i, i < N.length → (N.map fun (x : Nat) => (x : Int)).getD i 0 = (N.getD i 0 : Nat) := by
    intro i hi
    rw [List.getD_eq_getElem?_getD, List.getD_eq_getElem?_getD, List.getElem?_map, List.getElem?_eq_getElem hi]
    rfl
  refine ⟨by show (1 : Int) ≤ (k : Int); omega, by show (k : Int) ≤ 8; omega, by show 1 ≤ l.length; omega, by have := hB.most; show l.length ≤ 4096; omega, ?_, ?_, ?_⟩
  · show ((N.map fun (x : Nat) => (x : Int)).length : Int) = l.length * (k : Int)
    rw [List.length_map, hn, hl]
    push_cast
    rfl
  · intro i hi
    have hi' : i < N.length := by simpa [oA] using hi
    show 0 ≤ (N.map fun (x : Nat) => (x : Int)).getD i 0
    rw [hg i hi']; omega
  · intro i hi
    have hi' : i < N.length := by simpa [oA] using hi
    show (N.map fun (x : Nat) => (x : Int)).getD i 0 < l.length
    have := hall i hi'
    rw [hg i hi', hl]; omega
theorem range_map_get {l : List Bool} : (List.range l.length).map (fun i => l.getD i false) = l := by
  apply List.ext_getElem?
  intro i
  rw [List.getElem?_map]
  by_cases h : i < l.length
  · rw [List.getElem?_range h, List.getElem?_eq_getElem h]; simp [List.getD_eq_getElem?_getD, h]
  · rw [List.getElem?_eq_none (by simp; omega), List.getElem?_eq_none (by omega)]; rfl
theorem ord_rch {S : Type} [DecidableEq S] {d : S → Nat → S} {k : Nat} (hk : 1 ≤ k ∧ k ≤ 8) {x : S} {M : List S} {N : List Nat} (h : bfs d k x = some (M, N)) (l : List Bool) (acc : Nat → Bool) : rch (oA k N l) 0 acc = oA k N ((List.range M.length).map acc) := by
  unfold rch
  rw [show (oA k N l).k.toNat = k by simp [oA], bfs_order hk h l]
  rfl
theorem ord_re {S : Type} [DecidableEq S] {d : S → Nat → S} {k : Nat} (hk : 1 ≤ k ∧ k ≤ 8) {x : S} {M : List S} {N : List Nat} (h : bfs d k x = some (M, N)) {l : List Bool} (hl : l.length = M.length) : reA (oA k N l) = oA k N l := by
  unfold reA
  rw [if_pos (chkA_ok (ord_good hk h hl)), ord_rch hk h, ← hl]
  congr 1
  exact range_map_get
theorem ord_not {S : Type} [DecidableEq S] {d : S → Nat → S} {k : Nat} (hk : 1 ≤ k ∧ k ≤ 8) {x : S} {M : List S} {N : List Nat} (h : bfs d k x = some (M, N)) {l : List Bool} (hl : l.length = M.length) : notA (oA k N l) = oA k N (l.map (!·)) := by
  unfold notA
  rw [if_pos (chkA_ok (ord_good hk h hl)), ord_rch hk h, ← hl]
  congr 1
  have := congrArg (List.map (!·)) (range_map_get (l := l))
  rw [List.map_map] at this
  exact this
/-- An automaton's own search. -/
theorem rch_oA {A : Aut} (G : Good A) {s : Nat} (hs : s < A.ac.length) (acc : Nat → Bool) : ∃ M N, bfs (dN A) A.k.toNat s = some (M, N) ∧ (∀ x ∈ M, x < A.ac.length) ∧ rch A s acc = oA A.k.toNat N (M.map acc) := by
  obtain ⟨M, N, h, ha⟩ := bfs_some G hs
  refine ⟨M, N, h, ha, ?_⟩
  unfold rch oA
  rw [h, G.kn.2.2]
theorem good_re {A : Aut} (G : Good A) : reA (reA A) = reA A ∧ notA (notA A) = reA A ∧ Good (reA A) ∧ Good (notA A) := by
  have hk := G.kn
  have h0 : 0 < A.ac.length := G.n1
  obtain ⟨M, N, h, _, h1⟩ := rch_oA G h0 (aN A)
  obtain ⟨M2, N2, h', _, h2⟩ := rch_oA G h0 (fun s => !aN A s)
  rw [h] at h'
  simp only [Option.some.injEq, Prod.mk.injEq] at h'
  obtain ⟨rfl, rfl⟩ := h'
  have e1 : reA A = oA A.k.toNat N (M.map (aN A)) := by unfold reA; rw [if_pos (chkA_ok G), h1]
  have e2 : notA A = oA A.k.toNat N (M.map (fun s => !aN A s)) := by unfold notA; rw [if_pos (chkA_ok G), h2]
  rw [e1, e2, ord_re ⟨hk.1, hk.2.1⟩ h (by simp), ord_not ⟨hk.1, hk.2.1⟩ h (by simp)]
  refine ⟨rfl, ?_, ord_good ⟨hk.1, hk.2.1⟩ h (by simp), ord_good ⟨hk.1, hk.2.1⟩ h (by simp)⟩
  congr 1
  rw [List.map_map]
  congr 1
  funext s
  simp
end Go.Proofs.Ythmnoepjkobcmab

namespace Go.Proofs.Ythmnoepjkobcmab
set_option linter.unusedVariables false

theorem getD_has {S : Type} {l : List S} {i : Nat} {x s : S} (h : l[i]? = some s) : l.getD i x = s := by
  rw [List.getD_eq_getElem?_getD, h]; rfl
theorem oA_to {S : Type} [DecidableEq S] {d : S → Nat → S} {k : Nat} (hk : 1 ≤ k ∧ k ≤ 8) {x : S} {M : List S} {N : List Nat} (h : bfs d k x = some (M, N)) (l : List Bool) (z : S) {i c : Nat} (hi : i < M.length) (hc : c < k) : dN (oA k N l) i c < M.length ∧ M.getD (dN (oA k N l) i c) z = d (M.getD i z) c := by
  obtain ⟨hB, hl⟩ := bfs_sure hk h
  obtain ⟨s, a, b⟩ := hB.at hl hi hc
  rw [oA_d, getD_has a, getD_has b]
  exact ⟨(List.getElem?_eq_some_iff.1 b).1, rfl⟩
theorem oA_go {S : Type} [DecidableEq S] {d : S → Nat → S} {k : Nat} (hk : 1 ≤ k ∧ k ≤ 8) {x : S} {M : List S} {N : List Nat} (h : bfs d k x = some (M, N)) (l : List Bool) (z : S) : ∀ (u : List Nat) (i : Nat), (∀ c ∈ u, c < k) → i < M.length → goN (oA k N l) i u < M.length ∧ M.getD (goN (oA k N l) i u) z = u.foldl d (M.getD i z) := by
  intro u
  induction u with
  | nil => intro i _ hi; exact ⟨hi, rfl⟩
  | cons c u ih =>
    intro i hc hi
    obtain ⟨a, b⟩ := oA_to hk h l z hi (hc c (by simp))
    obtain ⟨a2, b2⟩ := ih (dN (oA k N l) i c) (fun c' h' => hc c' (by simp [h'])) a
    refine ⟨a2, ?_⟩
    show M.getD (goN (oA k N l) (dN (oA k N l) i c) u) z = u.foldl d (d (M.getD i z) c)
    rw [b2, b]
theorem oA_acc {k : Int} {N : List Nat} {M : List Nat} {acc : Nat → Bool} {i : Nat} (hi : i < M.length) : aN (oA k N (M.map acc)) i = acc (M.getD i 0) := by
  unfold aN oA
  simp [List.getD_eq_getElem?_getD, List.getElem?_map, List.getElem?_eq_getElem hi]
theorem goN_appJ (A : Aut) (s : Nat) (u v : List Nat) : goN A s (u ++ v) = goN A (goN A s u) v := by unfold goN; rw [List.foldl_append]
theorem lets_appJ (u v : ByteArray) : lets (u ++ v) = lets u ++ lets v := by
  unfold lets
  rw [← List.map_append]
  congr 1
/-- What Behind answers. -/
noncomputable def bhA (A : Aut) (b : ByteArray) : Aut := if cwE A b = 0 then rch A 0 (fun s => aN A (goN A s (lets b))) else zAut
theorem cwE_letters {A : Aut} (G : Good A) {b : ByteArray} (h : cwE A b = 0) : ∀ c ∈ lets b, c < A.k.toNat := by
  intro c hc
  have := (cwE_good h).2.lt_all c hc
  have := G.kn.2.2
  omega
theorem map_getD {S T : Type} (M : List S) (z : S) (f : S → T) : (List.range M.length).map (fun i => f (M.getD i z)) = M.map f := by
  apply List.ext_getElem?
  intro i
  rw [List.getElem?_map, List.getElem?_map]
  by_cases h : i < M.length
  · rw [List.getElem?_range h, List.getElem?_eq_getElem h]; simp [List.getD_eq_getElem?_getD, h]
  · rw [List.getElem?_eq_none (by simp; omega), List.getElem?_eq_none (by omega)]; rfl
/-- From where words of an automaton in order lead to accepted states. -/
def abv (R : Aut) (l : List Nat) : List Bool := (List.range R.ac.length).map fun s => aN R (goN R s l)
theorem abv_nil (R : Aut) : abv R [] = R.ac := range_map_get
theorem abv_len (R : Aut) (l : List Nat) : (abv R l).length = R.ac.length := by simp [abv]
theorem abv_cons (R : Aut) (G : Good R) {c : Nat} (hc : (c : Int) < R.k) (l : List Nat) : (List.range R.ac.length).map (fun s => aN ⟨R.k, R.nx, abv R l⟩ (dN R s c)) = abv R (c :: l) := by
  unfold abv
  refine List.map_congr_left fun s hs => ?_
  have h := (G.at (List.mem_range.1 hs) hc).2.2
  show ((List.range R.ac.length).map fun s => aN R (goN R s l)).getD (dN R s c) false = aN R (goN R (dN R s c) l)
  rw [List.getD_eq_getElem?_getD, List.getElem?_map, List.getElem?_range h]
  rfl
theorem bh_abv {A : Aut} (G : Good A) {b : ByteArray} (h : cwE A b = 0) : (⟨(reA A).k, (reA A).nx, abv (reA A) (lets b)⟩ : Aut) = bhA A b := by
  have K : 1 ≤ A.k.toNat ∧ A.k.toNat ≤ 8 := ⟨G.kn.1, G.kn.2.1⟩
  obtain ⟨M, N, hb, hall, e1⟩ := rch_oA G (show 0 < A.ac.length from G.n1) (aN A)
  obtain ⟨M2, N2, hb2, _, e2⟩ := rch_oA G (show 0 < A.ac.length from G.n1) (fun s => aN A (goN A s (lets b)))
  rw [hb] at hb2
  simp only [Option.some.injEq, Prod.mk.injEq] at hb2
  obtain ⟨rfl, rfl⟩ := hb2
  unfold bhA reA
  rw [if_pos h, if_pos (chkA_ok G), e1, e2]
  show oA (A.k.toNat : Int) N (abv (oA A.k.toNat N (M.map (aN A))) (lets b)) = _
  congr 1
  unfold abv
  rw [show (oA A.k.toNat N (M.map (aN A))).ac.length = M.length by simp [oA], ← map_getD M 0 (fun s => aN A (goN A s (lets b)))]
  refine List.map_congr_left fun i hi => ?_
  have hi' := List.mem_range.1 hi
  obtain ⟨q1, q2⟩ := oA_go K hb (M.map (aN A)) 0 (lets b) i (cwE_letters G h) hi'
  rw [oA_acc q1, q2]
  rfl
theorem chk_appJ {k : Int} {u v : ByteArray} (hu : chk k u = 0) (hv : chk k v = 0) : chk k (u ++ v) = 0 := by
  unfold chk at hu hv ⊢
  by_cases h : k < 1 ∨ 8 < k
  · rw [if_pos h] at hu; cases hu
  · rw [if_neg h] at hu hv ⊢
    by_cases h1 : u.data.toList.all (letterAt k) = true
    · by_cases h2 : v.data.toList.all (letterAt k) = true
      · rw [if_pos]
        simp only [ByteArray.data_append, Array.toList_append, List.all_append, h1, h2]
        rfl
      · rw [if_neg h2] at hv; cases hv
    · rw [if_neg h1] at hu; cases hu
theorem cwE_eq {A : Aut} (G : Good A) (b : ByteArray) : cwE A b = chk A.k b := by unfold cwE; rw [if_pos (chkA_ok G)]
theorem oA_k (k : Int) (N : List Nat) (l : List Bool) : (oA k N l).k = k := rfl
theorem quot {A : Aut} (G : Good A) {u v : ByteArray} (hu : cwE A u = 0) (hv : cwE A v = 0) : Good (ahA A u) ∧ Good (bhA A v) ∧ cwE A (u ++ v) = 0 ∧ cwE (ahA A u) v = 0 ∧ cwE (bhA A v) u = 0 ∧ ahA (ahA A u) v = ahA A (u ++ v) ∧ bhA (bhA A v) u = bhA A (u ++ v) := by
  have K : 1 ≤ A.k.toNat ∧ A.k.toNat ≤ 8 := ⟨G.kn.1, G.kn.2.1⟩
  have kI := G.kn.2.2
  have h0 : 0 < A.ac.length := G.n1
  have cu := cwE_letters G hu
  have cv := cwE_letters G hv
  have su : goN A 0 (lets u) < A.ac.length := goN_lt G h0 _ ((cwE_good hu).2.lt_all)
  obtain ⟨M, N, hb, hall, e1⟩ := rch_oA G su (aN A)
  obtain ⟨M0, N0, hb0, hall0, e2⟩ := rch_oA G h0 (fun s => aN A (goN A s (lets v)))
  have eP : ahA A u = oA A.k.toNat N (M.map (aN A)) := by unfold ahA; rw [if_pos hu, e1]
  have eR : bhA A v = oA A.k.toNat N0 (M0.map fun s => aN A (goN A s (lets v))) := by unfold bhA; rw [if_pos hv, e2]
  have GP : Good (ahA A u) := by rw [eP]; exact ord_good K hb (by simp)
  have GR : Good (bhA A v) := by rw [eR]; exact ord_good K hb0 (by simp)
  have cuv : cwE A (u ++ v) = 0 := by rw [cwE_eq G] at hu hv ⊢; exact chk_appJ hu hv
  have cpv : cwE (ahA A u) v = 0 := by rw [cwE_eq GP, eP, oA_k, kI, ← cwE_eq G]; exact hv
  have cru : cwE (bhA A v) u = 0 := by rw [cwE_eq GR, eR, oA_k, kI, ← cwE_eq G]; exact hu
  refine ⟨GP, GR, cuv, cpv, cru, ?_, ?_⟩
  · have e3 : ahA (ahA A u) v = rch (ahA A u) (goN (ahA A u) 0 (lets v)) (aN (ahA A u)) := by rw [ahA, if_pos cpv]
    rw [e3]
    rw [eP]
    obtain ⟨hB, hl⟩ := bfs_sure K hb
    have hM0 : 0 < M.length := (List.getElem?_eq_some_iff.1 hB.first).1
    obtain ⟨q1, q2⟩ := oA_go K hb (M.map (aN A)) 0 (lets v) 0 cv hM0
    rw [getD_has hB.first] at q2
    obtain ⟨j, hj⟩ : ∃ j, goN (oA A.k.toNat N (M.map (aN A))) 0 (lets v) = j := ⟨_, rfl⟩
    rw [hj] at q1 q2 ⊢
    have hm := bfs_map (d := dN A) (e := dN (oA A.k.toNat N (M.map (aN A)))) K.1 (fun i => M.getD i 0) (fun i => i < M.length) (fun t c ht hc => (oA_to K hb _ 0 ht hc).1)
      (fun a b ha hb' e => by
        rw [List.getD_eq_getElem?_getD, List.getD_eq_getElem?_getD, List.getElem?_eq_getElem ha, List.getElem?_eq_getElem hb'] at e
        exact (List.getElem?_inj ha hB.nodup).1 (by rw [List.getElem?_eq_getElem ha, List.getElem?_eq_getElem hb']; exact congrArg some e))
      (fun t c ht hc => (oA_to K hb _ 0 ht hc).2) (x := goN A 0 (lets (u ++ v))) (y := j) q1 (by
        rw [lets_appJ, goN_appJ]
        exact q2)
    unfold ahA rch
    rw [if_pos cuv, hm, show (oA A.k.toNat N (M.map (aN A))).k.toNat = A.k.toNat from Int.toNat_natCast _]
    cases hr : bfs (dN (oA A.k.toNat N (M.map (aN A)))) A.k.toNat j with
    | none => rfl
    | some r =>
      obtain ⟨M', N'⟩ := r
      have hall' := bgo_all (e := dN (oA A.k.toNat N (M.map (aN A)))) K.1 (fun i => i < M.length) (fun t c ht hc => (oA_to K hb _ 0 ht hc).1) 32768 [j] [] M' N' (fun t q => by simp at q; rw [q]; exact q1) hr
      simp only [Option.map_some]
      rw [oA_k, kI, List.map_map]
      congr 1
      refine List.map_congr_left fun i hi => ?_
      exact oA_acc (hall' i hi)
  · have e3 : bhA (bhA A v) u = rch (bhA A v) 0 (fun s => aN (bhA A v) (goN (bhA A v) s (lets u))) := by rw [bhA, if_pos cru]
    rw [e3]
    rw [eR, ord_rch K hb0]
    obtain ⟨M1, N1, hb1, _, e4⟩ := rch_oA G h0 (fun s => aN A (goN A s (lets (u ++ v))))
    rw [hb0] at hb1
    simp only [Option.some.injEq, Prod.mk.injEq] at hb1
    obtain ⟨rfl, rfl⟩ := hb1
    have e5 : bhA A (u ++ v) = oA A.k.toNat N0 (M0.map fun s => aN A (goN A s (lets (u ++ v)))) := by unfold bhA; rw [if_pos cuv, e4]
    rw [e5]
    congr 1
    rw [← map_getD M0 0 (fun s => aN A (goN A s (lets (u ++ v))))]
    refine List.map_congr_left fun i hi => ?_
    obtain ⟨q1, q2⟩ := oA_go K hb0 (M0.map fun s => aN A (goN A s (lets v))) 0 (lets u) i cu (List.mem_range.1 hi)
    rw [oA_acc q1, q2, lets_appJ, goN_appJ]
    rfl
end Go.Proofs.Ythmnoepjkobcmab

namespace Go.Proofs.Ythmnoepjkobcmab
open Go Go.RowKit Go.Shelf Go.Lib
set_option linter.unusedVariables false

attribute [local go_sem] Oper.semAt_some

/-- What Index answers of true. -/
def ixB (bs : List Bool) : Int := if true ∈ bs then (bs.idxOf true : Int) else -1

set_option maxHeartbeats 1000000 in
set_option maxRecDepth 100000 in
theorem index_any (a : Option Addr) (cap : Nat) (bs : List Bool) (w : World) (h : SR w a (bC bs)) (hm : bs.length ≤ 9223372036854775806) :
    Calls Try.prog 80 #[.slice a bs.length cap, .bool true] w fun e w' => e = .returned (.int .i64 (ixB bs)) ∧ w' = w := by
  have H : Hid (SR w a (bC bs)) := h
  clear h
  go_enter Try.func80, Try.ntmps80
  go_wp2_with fail
  go_loopw [8] (fun vi wr => ∃ i : Nat, vi = .int .i64 i ∧ i ≤ bs.length ∧ (∀ t, t < i → bs[t]? = some false) ∧ wr = w) (fun vi _ => bs.length - (intOf vi).toNat)
  case atStart => exact ⟨0, rfl, Nat.zero_le _, fun t ht => by omega, rfl⟩
  case round =>
    obtain ⟨i, rfl, hi, hall, rfl⟩ := hrel
    have HA : Hid (∀ t, t < i → bs[t]? = some false) := hall
    clear hall
    by_cases hlt : i < bs.length
    · have hiI : (i : Int) < bs.length := by omega
      obtain ⟨g, o, rfl, hg, hc⟩ := H.out.bool hlt
      obtain ⟨d, hd⟩ : ∃ d, bs.getD i false = d := ⟨_, rfl⟩
      rw [hd] at hc
      have HD : Hid (bs[i]? = some d) := by
        show _ = _
        rw [List.getElem?_eq_getElem hlt]
        rw [List.getD_eq_getElem?_getD, List.getElem?_eq_getElem hlt, Option.getD_some] at hd
        rw [hd]
      clear hd
      cases d with
      | true =>
        have HE : Hid (ixB bs = (i : Int)) := by
          show _ = _
          unfold ixB
          rw [if_pos (List.mem_of_getElem? HD.out)]
          congr 1
          have hmem := List.mem_of_getElem? HD.out
          have h1 := List.idxOf_lt_length_of_mem hmem
          have h2 : bs[bs.idxOf true]? = some true := idxOf_get hmem
          by_cases c : bs.idxOf true < i
          · rw [HA.out _ c] at h2; cases h2
          · by_cases c2 : i < bs.idxOf true
            · have h3 := List.not_of_lt_findIdx (p := (· == true)) (xs := bs) (i := i) (by exact c2)
              have h4 := HD.out
              rw [List.getElem?_eq_getElem hlt, Option.some.injEq] at h4
              rw [h4] at h3
              simp at h3
            · omega
        go_wp2_with fail
        go_ret
        exact ⟨ret_intJ HE.out.symm, rfl⟩
      | false =>
        go_wp2_with fail
        go_roundw
        case rel =>
          refine ⟨i + 1, by go_num, by omega, fun t ht => ?_, trivial⟩
          by_cases e : t = i
          · rw [e]; exact HD.out
          · exact HA.out t (by omega)
        case measure => simp [intOf]; omega
    · have hiI : ¬ (i : Int) < bs.length := by omega
      have HE : Hid (ixB bs = -1) := by
        show _ = _
        unfold ixB
        rw [if_neg (fun hm => ?_)]
        obtain ⟨t, ht, e⟩ := List.mem_iff_getElem.1 hm
        have := HA.out t (by omega)
        rw [List.getElem?_eq_getElem ht, e] at this
        cases this
      go_wp2_with fail
      go_ret
      exact ⟨ret_intJ HE.out.symm, rfl⟩

/-- The values of round j. -/
def bwI (L : List Int) (j : Nat) : Array Value := #[.int .i64 ((L.length - 1 - j : Nat) : Int), .int .i64 (L.getD (L.length - 1 - j) 0)]

end Go.Proofs.Ythmnoepjkobcmab
