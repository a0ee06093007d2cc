/- Pure: Moore's classes by words; the minimal automaton's states by words (Myhill and Nerode). -/
import Derived.Test.YtggheiblgghpkaaLh
import Derived.Test.YtggheiblgghpkaaMm
import Derived.Test.YtggheiblgghpkaaMo
import Derived.Test.YtggheiblgghpkaaQu
namespace Go.Proofs.Ytggheiblgghpkaa
set_option linter.unusedVariables false

theorem least_nat (p : Nat → Prop) : ∀ n, p n → ∃ m, p m ∧ ∀ q, p q → m ≤ q := by
  intro n
  induction n using Nat.strongRecOn with
  | ind n ih =>
    intro h
    by_cases q : ∃ m, m < n ∧ p m
    · obtain ⟨m, h1, h2⟩ := q
      exact ih m h1 h2
    · exact ⟨n, h, fun m hm => by
        by_cases z : n ≤ m
        · exact z
        · exact absurd ⟨m, by omega, hm⟩ q⟩
theorem lex_min : ∀ (L : Nat) (p : List Nat → Prop), (∃ v, v.length = L ∧ p v) → ∃ w, w.length = L ∧ p w ∧ ∀ v, v.length = L → p v → lxl w v := by
  intro L
  induction L with
  | zero =>
    rintro p ⟨v, hv, h⟩
    exact ⟨v, hv, h, fun v' hv' _ => by
      rw [List.length_eq_zero_iff.1 hv, List.length_eq_zero_iff.1 hv']
      exact lxl_refl _⟩
  | succ L ih =>
    rintro p ⟨v, hv, h⟩
    obtain ⟨a, v0, rfl⟩ : ∃ a v0, v = a :: v0 := by
      cases v with
      | nil => simp at hv
      | cons a v0 => exact ⟨a, v0, rfl⟩
    obtain ⟨c, ⟨v1, h1, h2⟩, hm⟩ := least_nat (fun c => ∃ v', v'.length = L ∧ p (c :: v')) a ⟨v0, by simpa using hv, h⟩
    obtain ⟨w, w1, w2, w3⟩ := ih (fun v' => p (c :: v')) ⟨v1, h1, h2⟩
    refine ⟨c :: w, by simp [w1], w2, fun v' hv' hp => ?_⟩
    cases v' with
    | nil => simp at hv'
    | cons b v' =>
      have hb := hm b ⟨v', by simpa using hv', hp⟩
      by_cases e : c = b
      · subst e
        exact .inr ⟨rfl, w3 v' (by simpa using hv') hp⟩
      · exact .inl (by omega)
theorem sle_min (p : List Nat → Prop) {v : List Nat} (h : p v) : ∃ w, p w ∧ ∀ u, p u → sle w u := by
  obtain ⟨L, ⟨v1, h1, h2⟩, hm⟩ := least_nat (fun L => ∃ v', v'.length = L ∧ p v') v.length ⟨v, rfl, h⟩
  obtain ⟨w, w1, w2, w3⟩ := lex_min L p ⟨v1, h1, h2⟩
  refine ⟨w, w2, fun u hu => ?_⟩
  have := hm u.length ⟨u, rfl, hu⟩
  by_cases e : L = u.length
  · exact .inr ⟨by omega, w3 u e.symm hu⟩
  · exact .inl (by omega)
theorem lsh_ex {S : Type} {d : S → Nat → S} {k : Nat} {sh : S → Bool} {x : S} (v : List Nat) (hv : ∀ a ∈ v, a < k) (h : sh (wrun d x v) = true) : ∃ w, Lsh d k sh x w := by
  obtain ⟨w, ⟨w1, w2⟩, w3⟩ := sle_min (fun v => (∀ a ∈ v, a < k) ∧ sh (wrun d x v) = true) ⟨hv, h⟩
  exact ⟨w, w1, w2, fun u hu hs => w3 u ⟨hu, hs⟩⟩
theorem lsh_is {S : Type} {d : S → Nat → S} {k : Nat} {sh : S → Bool} {x : S} {w : List Nat} (h : lsh d k sh x = some w) : Lsh d k sh x w := by
  unfold lsh at h
  split at h
  · rename_i q
    rw [Option.some.injEq] at h
    rw [← h]
    exact q.choose_spec
  · cases h
theorem lsh_no {S : Type} {d : S → Nat → S} {k : Nat} {sh : S → Bool} {x : S} (h : lsh d k sh x = none) (v : List Nat) (hv : ∀ a ∈ v, a < k) : sh (wrun d x v) = false := by
  cases q : sh (wrun d x v) with
  | false => rfl
  | true =>
    obtain ⟨w, hw⟩ := lsh_ex v hv q
    rw [lsh_some hw] at h
    cases h
/-- Letters below k. -/
def Lk (k : Nat) (v : List Nat) : Prop := ∀ a ∈ v, a < k
theorem Lk.nil (k : Nat) : Lk k [] := fun a h => by simp at h
theorem Lk.cons {k c : Nat} {v : List Nat} (h : Lk k (c :: v)) : c < k ∧ Lk k v := ⟨h c (by simp), fun a ha => h a (by simp [ha])⟩
theorem Lk.mk {k c : Nat} {v : List Nat} (hc : c < k) (h : Lk k v) : Lk k (c :: v) := fun a ha => by
  rcases List.mem_cons.1 ha with q | q
  · rw [q]; exact hc
  · exact h a q
theorem Lk.app {k : Nat} {u v : List Nat} (h : Lk k u) (g : Lk k v) : Lk k (u ++ v) := fun a ha => by
  rcases List.mem_append.1 ha with q | q
  · exact h a q
  · exact g a q
theorem Lk.snoc {k c : Nat} {u : List Nat} (h : Lk k u) (hc : c < k) : Lk k (u ++ [c]) := h.app (Lk.mk hc (Lk.nil k))
theorem acW_nil (A : Aut) (s : Nat) : acW A s [] = aN A s := rfl
theorem acW_cons (A : Aut) (s c : Nat) (v : List Nat) : acW A s (c :: v) = acW A (dN A s c) v := rfl
theorem acW_app (A : Aut) (s : Nat) (u v : List Nat) : acW A s (u ++ v) = acW A (wrun (dN A) s u) v := by unfold acW; rw [wrun_app]
theorem wrun_lt {A : Aut} (G : Good A) {s : Nat} (hs : s < A.ac.length) {u : List Nat} (h : Lk A.k.toNat u) : wrun (dN A) s u < A.ac.length :=
  goN_lt G hs u (fun c hc => by have := h c hc; have := G.kn; omega)
theorem dN_lt {A : Aut} (G : Good A) {s c : Nat} (hs : s < A.ac.length) (hc : c < A.k.toNat) : dN A s c < A.ac.length := (G.at hs (by have := G.kn; omega)).2.2
/-- Classes by words of at most n letters. -/
theorem lvl_word {A : Aut} (G : Good A) : ∀ (n : Nat) {s t : Nat}, s < A.ac.length → t < A.ac.length → ((lvl A n).getD s 0 = (lvl A n).getD t 0 ↔ ∀ v, Lk A.k.toNat v → v.length ≤ n → acW A s v = acW A t v) := by
  intro n
  induction n with
  | zero =>
    intro s t hs ht
    show (lst (aN A) A.ac.length).getD s 0 = (lst (aN A) A.ac.length).getD t 0 ↔ _
    rw [lst_eq (aN A) hs ht]
    constructor
    · intro h v _ hv
      have : v = [] := List.length_eq_zero_iff.1 (by omega)
      rw [this]; exact h
    · intro h
      exact h [] (Lk.nil _) (by simp)
  | succ n ih =>
    intro s t hs ht
    show (lst (sg A (lvl A n)) A.ac.length).getD s 0 = (lst (sg A (lvl A n)) A.ac.length).getD t 0 ↔ _
    rw [lst_eq (sg A (lvl A n)) hs ht]
    unfold sg
    simp only [Prod.mk.injEq]
    constructor
    · rintro ⟨h1, h2⟩ v hv hl
      cases v with
      | nil => exact (ih hs ht).1 h1 [] (Lk.nil _) (by simp)
      | cons c v =>
        obtain ⟨hc, hv⟩ := hv.cons
        have h3 := List.map_inj_left.1 h2 c (List.mem_range.2 hc)
        rw [acW_cons, acW_cons]
        exact (ih (dN_lt G hs hc) (dN_lt G ht hc)).1 h3 v hv (by simp at hl; omega)
    · intro h
      refine ⟨(ih hs ht).2 (fun v hv hl => h v hv (by omega)), List.map_inj_left.2 (fun c hc => ?_)⟩
      have hc := List.mem_range.1 hc
      refine (ih (dN_lt G hs hc) (dN_lt G ht hc)).2 (fun v hv hl => ?_)
      have := h (c :: v) (Lk.mk hc hv) (by simp; omega)
      rw [acW_cons, acW_cons] at this
      exact this
/-- A state's class. -/
def cl (A : Aut) (s : Nat) : Nat := (lvl A A.ac.length).getD s 0
theorem cl_lt {A : Aut} {s : Nat} (hs : s < A.ac.length) : cl A s < A.ac.length := by
  have := lvl_lt (A := A) A.ac.length (s := s) (by rw [lvl_len]; exact hs)
  rw [lvl_len] at this
  exact this
theorem cl_word {A : Aut} (G : Good A) {s t : Nat} (hs : s < A.ac.length) (ht : t < A.ac.length) : cl A s = cl A t ↔ ∀ v, Lk A.k.toNat v → acW A s v = acW A t v := by
  constructor
  · intro h v hv
    have h1 : (lvl A (A.ac.length + v.length)).getD s 0 = (lvl A (A.ac.length + v.length)).getD t 0 := by
      rw [lvl_end A (by omega : A.ac.length ≤ A.ac.length + v.length)]
      exact h
    exact (lvl_word G _ hs ht).1 h1 v hv (by omega)
  · intro h
    exact (lvl_word G A.ac.length hs ht).2 (fun v hv _ => h v hv)
theorem cl_cl {A : Aut} {s : Nat} (hs : s < A.ac.length) : cl A (cl A s) = cl A s := (lvl_cls A A.ac.length).idem s hs
theorem cl_zero {A : Aut} (h : 0 < A.ac.length) : cl A 0 = 0 := by have := (lvl_cls A A.ac.length).le 0 h; exact Nat.le_zero.1 this
theorem cl_d {A : Aut} (G : Good A) {s t c : Nat} (hs : s < A.ac.length) (ht : t < A.ac.length) (hc : c < A.k.toNat) (h : cl A s = cl A t) : cl A (dN A s c) = cl A (dN A t c) :=
  (cl_word G (dN_lt G hs hc) (dN_lt G ht hc)).2 (fun v hv => by rw [← acW_cons, ← acW_cons]; exact (cl_word G hs ht).1 h (c :: v) (Lk.mk hc hv))
theorem dC_cl {A : Aut} (s c : Nat) : dC A (lvl A A.ac.length) s c = cl A (dN A s c) := rfl
/-- The classes' search goes with the words. -/
theorem cl_run {A : Aut} (G : Good A) : ∀ (u : List Nat) {s t : Nat}, s < A.ac.length → t < A.ac.length → cl A t = t → cl A s = t → Lk A.k.toNat u → wrun (dC A (lvl A A.ac.length)) t u = cl A (wrun (dN A) s u) := by
  intro u
  induction u with
  | nil => intro s t hs ht h1 h2 _; exact h2.symm
  | cons c u ih =>
    intro s t hs ht h1 h2 hu
    obtain ⟨hc, hu⟩ := hu.cons
    rw [wrun_cons, wrun_cons, dC_cl]
    have d1 := dN_lt G hs hc
    have d2 := dN_lt G ht hc
    refine ih d1 (cl_lt d2) (cl_cl d2) ?_ hu
    exact cl_d G hs ht hc (h2.trans h1.symm)
/-- Where a word leads in what a search made. -/
theorem BI.run {S : Type} [DecidableEq S] {d : S → Nat → S} {k : Nat} {x : S} {M : List S} {N : List Nat} (h : BI d k x M N) (hl : N.length = M.length * k) (l : List Bool) : ∀ (u : List Nat) {i : Nat} {s : S}, M[i]? = some s → Lk k u → M[wrun (dN (oA k N l)) i u]? = some (wrun d s u) := by
  intro u
  induction u with
  | nil => intro i s hi _; exact hi
  | cons c u ih =>
    intro i s hi hu
    obtain ⟨hc, hu⟩ := hu.cons
    obtain ⟨s', h1, h2⟩ := h.at hl (List.getElem?_eq_some_iff.1 hi).1 hc
    rw [hi, Option.some.injEq] at h1
    subst h1
    rw [wrun_cons, wrun_cons, oA_d]
    exact ih h2 hu
/-- What Minimal is made of. -/
theorem mn_parts {A : Aut} (G : Good A) : ∃ M R, bfs (dC A (lvl A A.ac.length)) A.k.toNat 0 = some (M, R) ∧ BI (dC A (lvl A A.ac.length)) A.k.toNat 0 M R ∧ R.length = M.length * A.k.toNat ∧ (∀ s ∈ M, s < A.ac.length) ∧ mnA A = oA A.k.toNat R (M.map (aN A)) ∧ mnT A = (List.range A.ac.length).map fun s => nmI M (cl A s) := by
  have hk := G.kn
  obtain ⟨M, R, hb, ha⟩ := bgo_total (d := dC A (lvl A A.ac.length)) (K := A.k.toNat) (N := A.ac.length) (x := 0) ⟨hk.1, hk.2.1⟩ G.n2 (fun s c hs hc => by rw [dC_cl]; exact cl_lt (dN_lt G hs hc)) 32768 [0] [] (BI.start _ _ _) (fun s hs => by simp at hs; have := G.n1; omega)
  have hb' : bfs (dC A (lvl A A.ac.length)) A.k.toNat 0 = some (M, R) := hb
  obtain ⟨b1, b2⟩ := bfs_sure ⟨hk.1, hk.2.1⟩ hb'
  refine ⟨M, R, hb', b1, b2, ha, ?_, ?_⟩
  · unfold mnA
    rw [if_pos (chkA_ok G)]
    unfold ioA oA
    rw [hb', hk.2.2]
  · unfold mnT ioM
    rw [if_pos (chkA_ok G), hb']
    rfl
theorem good_mn {A : Aut} (G : Good A) : Good (mnA A) ∧ (mnA A).k = A.k ∧ (mnA A).ac.length ≤ A.ac.length := by
  obtain ⟨M, R, hb, b1, b2, ha, e, _⟩ := mn_parts G
  have hk := G.kn
  rw [e]
  refine ⟨ord_good ⟨hk.1, hk.2.1⟩ hb (by simp), hk.2.2, ?_⟩
  show (M.map (aN A)).length ≤ _
  rw [List.length_map]
  exact nodup_small _ _ b1.nodup ha
/-- The minimal automaton's states by words. -/
theorem mn_run {A : Aut} (G : Good A) {u : List Nat} (hu : Lk A.k.toNat u) : ∃ M R, mnA A = oA A.k.toNat R (M.map (aN A)) ∧ M.Nodup ∧ (mnT A = (List.range A.ac.length).map fun s => nmI M (cl A s)) ∧ M[wrun (dN (mnA A)) 0 u]? = some (cl A (wrun (dN A) 0 u)) := by
  obtain ⟨M, R, hb, b1, b2, ha, e, et⟩ := mn_parts G
  have h0 := G.n1
  refine ⟨M, R, e, b1.nodup, et, ?_⟩
  rw [e, b1.run b2 _ u b1.first hu, cl_run G u (s := 0) (t := 0) (by omega) (by omega) (cl_zero (by omega)) (cl_zero (by omega)) hu]
theorem idx_nodup {l : List Nat} (h : l.Nodup) {i a : Nat} (hi : l[i]? = some a) : l.idxOf a = i := by
  refine idxOf_first hi (fun q hq hh => ?_)
  obtain ⟨q1, e1⟩ := List.getElem?_eq_some_iff.1 hi
  obtain ⟨q2, e2⟩ := List.getElem?_eq_some_iff.1 hh
  have := (List.getElem_inj h (i := q) (j := i)).1 (e2.trans e1.symm)
  omega
theorem mn_to {A : Aut} (G : Good A) {u : List Nat} (hu : Lk A.k.toNat u) : (mnT A).getD (wrun (dN A) 0 u) 0 = (wrun (dN (mnA A)) 0 u : Nat) ∧ aN (mnA A) (wrun (dN (mnA A)) 0 u) = aN A (wrun (dN A) 0 u) := by
  obtain ⟨M, R, e, hnd, et, hr⟩ := mn_run G hu
  have h0 := G.n1
  have hl := wrun_lt G (s := 0) (by omega) hu
  constructor
  · rw [et, List.getD_eq_getElem?_getD, List.getElem?_map, List.getElem?_range hl]
    simp only [Option.map_some, Option.getD_some]
    unfold nmI
    rw [if_pos (List.mem_of_getElem? hr), idx_nodup hnd hr]
  · have e2 : aN (mnA A) (wrun (dN (mnA A)) 0 u) = aN A (cl A (wrun (dN A) 0 u)) := by
      obtain ⟨i, hi⟩ : ∃ i, wrun (dN (mnA A)) 0 u = i := ⟨_, rfl⟩
      rw [hi] at hr ⊢
      rw [e]
      unfold aN oA
      simp [List.getD_eq_getElem?_getD, hr]
    rw [e2]
    exact (cl_word G (cl_lt hl) hl).1 (cl_cl hl) [] (Lk.nil _)
theorem mn_lang {A : Aut} (G : Good A) {u : List Nat} (hu : Lk A.k.toNat u) : acW (mnA A) 0 u = acW A 0 u := (mn_to G hu).2
theorem mn_same {A : Aut} (G : Good A) {u v : List Nat} (hu : Lk A.k.toNat u) (hv : Lk A.k.toNat v) : wrun (dN (mnA A)) 0 u = wrun (dN (mnA A)) 0 v ↔ cl A (wrun (dN A) 0 u) = cl A (wrun (dN A) 0 v) := by
  obtain ⟨M, R, e, hnd, et, hr⟩ := mn_run G hu
  obtain ⟨M', R', e', hnd', et', hr'⟩ := mn_run G hv
  obtain ⟨M0, R0, hb, b1, b2, ha, e0, et0⟩ := mn_parts G
  have h0 := G.n1
  have r1 := b1.run b2 (M0.map (aN A)) u b1.first hu
  have r2 := b1.run b2 (M0.map (aN A)) v b1.first hv
  rw [← e0, cl_run G u (s := 0) (t := 0) (by omega) (by omega) (cl_zero (by omega)) (cl_zero (by omega)) hu] at r1
  rw [← e0, cl_run G v (s := 0) (t := 0) (by omega) (by omega) (cl_zero (by omega)) (cl_zero (by omega)) hv] at r2
  constructor
  · intro h
    rw [h, r2, Option.some.injEq] at r1
    exact r1.symm
  · intro h
    rw [h] at r1
    exact b1.inj r1 r2
/-- A word that tells two states apart is found just where their classes are unlike. -/
theorem apO_cl {A : Aut} (G : Good A) {s t : Nat} (hs : s < A.ac.length) (ht : t < A.ac.length) : (apO A s t = none ↔ cl A s = cl A t) := by
  unfold apO
  constructor
  · intro h
    refine (cl_word G hs ht).2 (fun v hv => ?_)
    by_cases q : acW A s v = acW A t v
    · exact q
    · exfalso
      have hw : ∃ w, Lsh (dd A A) A.k.toNat (sx A A) (s, t) w := lsh_ex v hv ((sx_ac A A (s, t) v).2 q)
      obtain ⟨w, hw⟩ := hw
      rw [lsh_some hw] at h
      cases h
  · intro h
    refine lsh_none (fun v hv => ?_)
    cases q : sx A A (wrun (dd A A) (s, t) v) with
    | false => rfl
    | true => exact absurd ((cl_word G hs ht).1 h v hv) ((sx_ac A A (s, t) v).1 q)
end Go.Proofs.Ytggheiblgghpkaa
