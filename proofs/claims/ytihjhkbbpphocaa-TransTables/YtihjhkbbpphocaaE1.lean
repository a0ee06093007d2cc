/- Pure: the elements of an automaton's monoid: the search that meets them, and what is sure of them. -/
import Derived.Test.YtihjhkbbpphocaaJe
import Derived.Test.YtihjhkbbpphocaaAa
import Derived.Test.YtihjhkbbpphocaaLa
namespace Go.Proofs.Ytihjhkbbpphocaa
set_option linter.unusedVariables false

/-- The search: m the states met so far, n where the letters gone through so far lead. -/
def mgo {S : Type} [DecidableEq S] (d : S → Nat → S) (k : Nat) : Nat → List S → List Nat → Option (List S × List Nat)
  | 0, m, n => some (m, n)
  | f + 1, m, n =>
    if n.length = m.length * k then some (m, n) else
    match m[n.length / k]? with
    | none => none
    | some s =>
      if d s (n.length % k) ∈ m then mgo d k f m (n ++ [m.idxOf (d s (n.length % k))])
      else if m.length = 512 then none
      else mgo d k f (m ++ [d s (n.length % k)]) (n ++ [m.length])
/-- The whole search: fuel for all letters of all states. -/
def mfs {S : Type} [DecidableEq S] (d : S → Nat → S) (k : Nat) (x : S) : Option (List S × List Nat) := mgo d k 4096 [x] []

theorem mgo_end {S : Type} [DecidableEq S] {d : S → Nat → S} {k f : Nat} {m : List S} {n : List Nat} (h : n.length = m.length * k) : mgo d k f m n = some (m, n) := by
  cases f with
  | zero => rfl
  | succ f => unfold mgo; rw [if_pos h]
theorem mgo_old {S : Type} [DecidableEq S] {d : S → Nat → S} {k f : Nat} {m : List S} {n : List Nat} {i c : Nat} {s : S} (hk : c < k) (hn : n.length = i * k + c) (hi : m[i]? = some s) (ht : d s c ∈ m) : mgo d k (f + 1) m n = mgo d k f m (n ++ [m.idxOf (d s c)]) := by
  have hil : i < m.length := (List.getElem?_eq_some_iff.1 hi).1
  have h1 : n.length / k = i := by rw [hn, Nat.mul_comm, Nat.mul_add_div (by omega), Nat.div_eq_of_lt hk]; rfl
  have h2 : n.length % k = c := by rw [hn, Nat.mul_comm, Nat.mul_add_mod, Nat.mod_eq_of_lt hk]
  have h3 : ¬ n.length = m.length * k := by
    have := Nat.mul_le_mul_right k (show i + 1 ≤ m.length from hil)
    rw [Nat.add_mul] at this
    omega
  rw [mgo, if_neg h3, h1, h2, hi]
  simp only
  rw [if_pos ht]
theorem mgo_new {S : Type} [DecidableEq S] {d : S → Nat → S} {k f : Nat} {m : List S} {n : List Nat} {i c : Nat} {s : S} (hk : c < k) (hn : n.length = i * k + c) (hi : m[i]? = some s) (ht : ¬ d s c ∈ m) (hm : m.length ≠ 512) : mgo d k (f + 1) m n = mgo d k f (m ++ [d s c]) (n ++ [m.length]) := by
  have hil : i < m.length := (List.getElem?_eq_some_iff.1 hi).1
  have h1 : n.length / k = i := by rw [hn, Nat.mul_comm, Nat.mul_add_div (by omega), Nat.div_eq_of_lt hk]; rfl
  have h2 : n.length % k = c := by rw [hn, Nat.mul_comm, Nat.mul_add_mod, Nat.mod_eq_of_lt hk]
  have h3 : ¬ n.length = m.length * k := by
    have := Nat.mul_le_mul_right k (show i + 1 ≤ m.length from hil)
    rw [Nat.add_mul] at this
    omega
  rw [mgo, if_neg h3, h1, h2, hi]
  simp only
  rw [if_neg ht, if_neg hm]
theorem mgo_full {S : Type} [DecidableEq S] {d : S → Nat → S} {k f : Nat} {m : List S} {n : List Nat} {i c : Nat} {s : S} (hk : c < k) (hn : n.length = i * k + c) (hi : m[i]? = some s) (ht : ¬ d s c ∈ m) (hm : m.length = 512) : mgo d k (f + 1) m n = none := by
  have hil : i < m.length := (List.getElem?_eq_some_iff.1 hi).1
  have h1 : n.length / k = i := by rw [hn, Nat.mul_comm, Nat.mul_add_div (by omega), Nat.div_eq_of_lt hk]; rfl
  have h2 : n.length % k = c := by rw [hn, Nat.mul_comm, Nat.mul_add_mod, Nat.mod_eq_of_lt hk]
  have h3 : ¬ n.length = m.length * k := by
    have := Nat.mul_le_mul_right k (show i + 1 ≤ m.length from hil)
    rw [Nat.add_mul] at this
    omega
  rw [mgo, if_neg h3, h1, h2, hi]
  simp only
  rw [if_neg ht, if_pos hm]

/-- What the search answers is in order, and nothing is left. -/
theorem mgo_sure {S : Type} [DecidableEq S] {d : S → Nat → S} {k : Nat} {x : S} (hk : 1 ≤ k ∧ k ≤ 8) : ∀ (f : Nat) (m : List S) (n : List Nat), BI d k x m n → m.length ≤ 512 → 4096 ≤ f + n.length → ∀ M N, mgo d k f m n = some (M, N) → BI d k x M N ∧ M.length ≤ 512 ∧ N.length = M.length * k ∧ ∃ r, M = m ++ r := by
  intro f
  induction f with
  | zero =>
    intro m n h h5 hf M N he
    simp only [mgo, Option.some.injEq, Prod.mk.injEq] at he
    obtain ⟨rfl, rfl⟩ := he
    refine ⟨h, h5, ?_, [], by simp⟩
    have h1 := h.len
    have h2 := Nat.mul_le_mul h5 hk.2
    omega
  | succ f ih =>
    intro m n h h5 hf M N he
    by_cases c : n.length = m.length * k
    · rw [mgo_end c] at he
      simp only [Option.some.injEq, Prod.mk.injEq] at he
      obtain ⟨rfl, rfl⟩ := he
      exact ⟨h, h5, c, [], by simp⟩
    · have hlt : n.length / k < m.length := by
        rw [Nat.div_lt_iff_lt_mul (by omega)]
        have := h.len
        omega
      have hi := List.getElem?_eq_getElem hlt
      have hn : n.length = n.length / k * k + n.length % k := by rw [Nat.mul_comm, Nat.div_add_mod]
      have hc : n.length % k < k := Nat.mod_lt _ (by omega)
      by_cases ht : d m[n.length / k] (n.length % k) ∈ m
      · rw [mgo_old hc hn hi ht] at he
        exact ih _ _ (h.old hc hn hi ht) h5 (by simp; omega) M N he
      · by_cases hm : m.length = 512
        · rw [mgo_full hc hn hi ht hm] at he; cases he
        · rw [mgo_new hc hn hi ht hm] at he
          obtain ⟨a1, a0, a2, r, a3⟩ := ih _ _ (h.new hc hn hi ht (by omega)) (by simp; omega) (by simp; omega) M N he
          exact ⟨a1, a0, a2, _, by rw [a3, List.append_assoc]⟩
theorem mfs_sure {S : Type} [DecidableEq S] {d : S → Nat → S} {k : Nat} {x : S} (hk : 1 ≤ k ∧ k ≤ 8) {M : List S} {N : List Nat} (h : mfs d k x = some (M, N)) : BI d k x M N ∧ M.length ≤ 512 ∧ N.length = M.length * k := by
  obtain ⟨a, b, c, _⟩ := mgo_sure hk _ _ _ (BI.start d k x) (by simp) (by simp) M N h
  exact ⟨a, b, c⟩

/-- Where a letter behind a transformation leads. -/
def mD (A : Aut) (l : List Nat) (c : Nat) : List Nat := l.map fun s => dN A s c
/-- The elements and where letters behind them lead; none: there are too many. -/
def mEl (A : Aut) : Option (List (List Nat) × List Nat) := mfs (mD A) A.k.toNat (stl A.ac.length)
/-- From an element by letters. -/
def mr (K : Nat) (N : List Nat) (i : Nat) (u : List Nat) : Nat := u.foldl (fun i c => N.getD (i * K + c) 0) i
theorem mr_nil (K : Nat) (N : List Nat) (i : Nat) : mr K N i [] = i := rfl
theorem mr_cons (K : Nat) (N : List Nat) (i c : Nat) (u : List Nat) : mr K N i (c :: u) = mr K N (N.getD (i * K + c) 0) u := rfl
theorem mr_app (K : Nat) (N : List Nat) (i : Nat) (u v : List Nat) : mr K N i (u ++ v) = mr K N (mr K N i u) v := List.foldl_append
theorem mr_one (K : Nat) (N : List Nat) (i c : Nat) : mr K N i [c] = N.getD (i * K + c) 0 := rfl
/-- Letters below k. -/
def Lt (k : Nat) (v : List Nat) : Prop := ∀ a ∈ v, a < k
theorem Lt.nil (k : Nat) : Lt k [] := fun a h => by simp at h
theorem Lt.cons {k c : Nat} {v : List Nat} (h : Lt k (c :: v)) : c < k ∧ Lt k v := ⟨h c (by simp), fun a ha => h a (by simp [ha])⟩
theorem Lt.app {k : Nat} {u v : List Nat} (h : Lt k u) (g : Lt k v) : Lt k (u ++ v) := fun a ha => by
  rcases List.mem_append.1 ha with ha | ha
  · exact h a ha
  · exact g a ha
theorem Lt.one {k c : Nat} (h : c < k) : Lt k [c] := fun a ha => by simp at ha; omega
theorem Lt.left {k : Nat} {u v : List Nat} (h : Lt k (u ++ v)) : Lt k u := fun a ha => h a (by simp [ha])
theorem Lt.right {k : Nat} {u v : List Nat} (h : Lt k (u ++ v)) : Lt k v := fun a ha => h a (by simp [ha])
/-- What a word does to the states. -/
def act (A : Aut) (u : List Nat) : List Nat := tb (fun s => goN A s u) A.ac.length
theorem act_len (A : Aut) (u : List Nat) : (act A u).length = A.ac.length := tb_len _ _
theorem act_im (A : Aut) (u : List Nat) {s : Nat} (h : s < A.ac.length) : im (act A u) s = goN A s u := tb_im _ h
theorem act_nil (A : Aut) : act A [] = stl A.ac.length := by
  apply im_ext (by rw [act_len, stl_len])
  intro i hi
  rw [act_len] at hi
  rw [act_im A [] hi, stl_im hi]
  rfl
theorem goN_app (A : Aut) (s : Nat) (u v : List Nat) : goN A s (u ++ v) = goN A (goN A s u) v := List.foldl_append
/-- An automaton's monoid: its elements, and where letters behind them lead. -/
structure Mon (A : Aut) (M : List (List Nat)) (N : List Nat) : Prop where
  G : Good A
  n64 : A.ac.length ≤ 64
  bi : BI (mD A) A.k.toNat (stl A.ac.length) M N
  len : N.length = M.length * A.k.toNat
  most : M.length ≤ 512
theorem Good.ks {A : Aut} (h : Good A) : 1 ≤ A.k.toNat ∧ A.k.toNat ≤ 8 ∧ ((A.k.toNat : Nat) : Int) = A.k := by
  have := h.k1
  have := h.k8
  omega
theorem mon_of {A : Aut} (G : Good A) (h : A.ac.length ≤ 64) {M : List (List Nat)} {N : List Nat} (e : mEl A = some (M, N)) : Mon A M N := by
  obtain ⟨a, b, c⟩ := mfs_sure ⟨G.ks.1, G.ks.2.1⟩ e
  exact ⟨G, h, a, c, b⟩
theorem Mon.pos {A : Aut} {M : List (List Nat)} {N : List Nat} (h : Mon A M N) : 0 < M.length := (List.getElem?_eq_some_iff.1 h.bi.first).1
theorem Mon.inj {A : Aut} {M : List (List Nat)} {N : List Nat} (h : Mon A M N) {i j : Nat} {s : List Nat} (hi : M[i]? = some s) (hj : M[j]? = some s) : i = j := by
  exact (List.getElem?_inj (List.getElem?_eq_some_iff.1 hi).1 h.bi.nodup).1 (hi.trans hj.symm)
theorem getD_of {α : Type} {l : List α} {i : Nat} {a z : α} (h : l[i]? = some a) : l.getD i z = a := by simp [List.getD_eq_getElem?_getD, h]
theorem Mon.at {A : Aut} {M : List (List Nat)} {N : List Nat} (h : Mon A M N) {i c : Nat} (hi : i < M.length) (hc : c < A.k.toNat) : ∃ l, M[i]? = some l ∧ M[N.getD (i * A.k.toNat + c) 0]? = some (mD A l c) ∧ i * A.k.toNat + c < N.length := by
  have hp : i * A.k.toNat + c < N.length := by
    rw [h.len]
    have := Nat.mul_le_mul_right A.k.toNat (show i + 1 ≤ M.length from hi)
    rw [Nat.add_mul] at this
    omega
  obtain ⟨s, h1, h2⟩ := h.bi.step _ _ (List.getElem?_eq_getElem hp)
  have e1 : (i * A.k.toNat + c) / A.k.toNat = i := by rw [Nat.mul_comm, Nat.mul_add_div (by omega), Nat.div_eq_of_lt hc]; rfl
  have e2 : (i * A.k.toNat + c) % A.k.toNat = c := by rw [Nat.mul_comm, Nat.mul_add_mod, Nat.mod_eq_of_lt hc]
  rw [e1] at h1
  rw [e2] at h2
  exact ⟨s, h1, by rw [getD_of (List.getElem?_eq_getElem hp)]; exact h2, hp⟩
theorem Mon.run {A : Aut} {M : List (List Nat)} {N : List Nat} (h : Mon A M N) : ∀ (u : List Nat) {i : Nat} {l : List Nat}, M[i]? = some l → Lt A.k.toNat u → M[mr A.k.toNat N i u]? = some (l.map fun s => goN A s u)
  | [], i, l, hi, _ => by rw [mr_nil, hi]; simp [goN]
  | c :: u, i, l, hi, hu => by
    obtain ⟨l', h1, h2, _⟩ := h.at (List.getElem?_eq_some_iff.1 hi).1 hu.cons.1
    rw [hi, Option.some.injEq] at h1
    subst h1
    rw [mr_cons, h.run u h2 hu.cons.2]
    simp [mD, goN]
theorem Mon.word {A : Aut} {M : List (List Nat)} {N : List Nat} (h : Mon A M N) {u : List Nat} (hu : Lt A.k.toNat u) : M[mr A.k.toNat N 0 u]? = some (act A u) := h.run u h.bi.first hu
theorem Mon.lt {A : Aut} {M : List (List Nat)} {N : List Nat} (h : Mon A M N) {u : List Nat} (hu : Lt A.k.toNat u) {i : Nat} (hi : i < M.length) : mr A.k.toNat N i u < M.length :=
  (List.getElem?_eq_some_iff.1 (h.run u (List.getElem?_eq_getElem hi) hu)).1
theorem Mon.fst {A : Aut} {M : List (List Nat)} {N : List Nat} (h : Mon A M N) : Fst A.k.toNat M.length N := h.bi.fst
theorem idx_at {l : List Nat} {a : Nat} (h : a ∈ l) : l[l.idxOf a]? = some a := by
  have hl := List.idxOf_lt_length_of_mem h
  rw [List.getElem?_eq_getElem hl, List.getElem_idxOf hl]
/-- The least word's letters, and that it leads to its element. -/
theorem Mon.lw {A : Aut} {M : List (List Nat)} {N : List Nat} (h : Mon A M N) : ∀ j, j < M.length → Lt A.k.toNat (lw A.k.toNat N j) ∧ mr A.k.toNat N 0 (lw A.k.toNat N j) = j := by
  intro j
  induction j using Nat.strongRecOn with
  | _ j ih =>
    intro hj
    by_cases e : j = 0
    · subst e
      exact ⟨by rw [lw_zero]; exact Lt.nil _, by rw [lw_zero, mr_nil]⟩
    · obtain ⟨hm, hq⟩ := h.fst j (by omega) hj
      obtain ⟨a, b⟩ := ih _ hq (by omega)
      rw [lw_step h.fst (by omega) hj]
      refine ⟨a.app (Lt.one (Nat.mod_lt _ (by have := h.G.ks; omega))), ?_⟩
      rw [mr_app, b, mr_one, Nat.mul_comm, Nat.div_add_mod, getD_of (idx_at hm)]
theorem Mon.el {A : Aut} {M : List (List Nat)} {N : List Nat} (h : Mon A M N) {j : Nat} (hj : j < M.length) : M[j]? = some (act A (Go.Proofs.Ytihjhkbbpphocaa.lw A.k.toNat N j)) := by
  obtain ⟨a, b⟩ := h.lw j hj
  have := h.word a
  rwa [b] at this
theorem act_tf {A : Aut} (G : Good A) (h : A.ac.length ≤ 64) {u : List Nat} (hu : Lt A.k.toNat u) : Tf (act A u) := by
  refine ⟨by rw [act_len]; exact G.n1, by rw [act_len]; exact h, ?_⟩
  intro i hi
  rw [act_len] at hi ⊢
  rw [act_im A u hi]
  exact goN_lt G hi u (fun c hc => by have := hu c hc; have := G.ks; omega)
theorem Mon.tf {A : Aut} {M : List (List Nat)} {N : List Nat} (h : Mon A M N) {j : Nat} {l : List Nat} (hj : M[j]? = some l) : Tf l ∧ l.length = A.ac.length := by
  have hl := (List.getElem?_eq_some_iff.1 hj).1
  have := h.el hl
  rw [hj, Option.some.injEq] at this
  subst this
  exact ⟨act_tf h.G h.n64 (h.lw j hl).1, act_len _ _⟩
theorem cmp_act {A : Aut} {l : List Nat} (hl : Tf l) (e : l.length = A.ac.length) (u : List Nat) : cmp l (act A u) = l.map fun s => goN A s u := by
  apply im_ext (by rw [cmp_len]; simp)
  intro i hi
  rw [cmp_len] at hi
  rw [cmp_im _ _ hi, act_im A u (e ▸ hl.lt i hi)]
  simp [im, hi]
theorem act_app {A : Aut} (G : Good A) (h : A.ac.length ≤ 64) {u : List Nat} (hu : Lt A.k.toNat u) (v : List Nat) : act A (u ++ v) = cmp (act A u) (act A v) := by
  rw [cmp_act (act_tf G h hu) (act_len A u)]
  apply im_ext (by rw [act_len]; simp [act_len])
  intro i hi
  rw [act_len] at hi
  rw [act_im A _ hi, goN_app]
  have : i < (act A u).length := by rw [act_len]; exact hi
  simp only [im, List.getD_eq_getElem?_getD, List.getElem?_map, List.getElem?_eq_getElem this, Option.map_some, Option.getD_some]
  rw [← im_lt this, act_im A u hi]
/-- The product of two elements. -/
def pr (K : Nat) (N : List Nat) (i j : Nat) : Nat := mr K N i (lw K N j)
theorem Mon.pr {A : Aut} {M : List (List Nat)} {N : List Nat} (h : Mon A M N) {i j : Nat} {l m : List Nat} (hi : M[i]? = some l) (hj : M[j]? = some m) : M[Go.Proofs.Ytihjhkbbpphocaa.pr A.k.toNat N i j]? = some (cmp l m) := by
  have hjl := (List.getElem?_eq_some_iff.1 hj).1
  have e := h.el hjl
  rw [hj, Option.some.injEq] at e
  subst e
  unfold Go.Proofs.Ytihjhkbbpphocaa.pr
  rw [h.run _ hi (h.lw j hjl).1, cmp_act (h.tf hi).1 (h.tf hi).2]
theorem Mon.pr_lt {A : Aut} {M : List (List Nat)} {N : List Nat} (h : Mon A M N) {i j : Nat} (hi : i < M.length) (hj : j < M.length) : Go.Proofs.Ytihjhkbbpphocaa.pr A.k.toNat N i j < M.length :=
  (List.getElem?_eq_some_iff.1 (h.pr (List.getElem?_eq_getElem hi) (List.getElem?_eq_getElem hj))).1
/-- A word behind an element is the product with the word's element. -/
theorem Mon.mr_pr {A : Aut} {M : List (List Nat)} {N : List Nat} (h : Mon A M N) {i : Nat} (hi : i < M.length) {u : List Nat} (hu : Lt A.k.toNat u) : Go.Proofs.Ytihjhkbbpphocaa.pr A.k.toNat N i (mr A.k.toNat N 0 u) = mr A.k.toNat N i u := by
  have hl := List.getElem?_eq_getElem hi
  refine h.inj (h.pr hl (h.word hu)) ?_
  rw [h.run u hl hu, cmp_act (h.tf hl).1 (h.tf hl).2]
theorem Mon.pr_app {A : Aut} {M : List (List Nat)} {N : List Nat} (h : Mon A M N) {u v : List Nat} (hu : Lt A.k.toNat u) (hv : Lt A.k.toNat v) : Go.Proofs.Ytihjhkbbpphocaa.pr A.k.toNat N (mr A.k.toNat N 0 u) (mr A.k.toNat N 0 v) = mr A.k.toNat N 0 (u ++ v) := by
  rw [h.mr_pr (h.lt hu h.pos) hv, mr_app]
theorem Mon.assoc {A : Aut} {M : List (List Nat)} {N : List Nat} (h : Mon A M N) {i j k : Nat} (hi : i < M.length) (hj : j < M.length) (hk : k < M.length) : Go.Proofs.Ytihjhkbbpphocaa.pr A.k.toNat N (Go.Proofs.Ytihjhkbbpphocaa.pr A.k.toNat N i j) k = Go.Proofs.Ytihjhkbbpphocaa.pr A.k.toNat N i (Go.Proofs.Ytihjhkbbpphocaa.pr A.k.toNat N j k) := by
  have a := List.getElem?_eq_getElem hi
  have b := List.getElem?_eq_getElem hj
  have c := List.getElem?_eq_getElem hk
  refine h.inj (h.pr (h.pr a b) c) ?_
  rw [h.pr a (h.pr b c), cmp_assoc (h.tf a).1 ((h.tf a).2.trans (h.tf b).2.symm)]
theorem Mon.one_pr {A : Aut} {M : List (List Nat)} {N : List Nat} (h : Mon A M N) {i : Nat} (hi : i < M.length) : Go.Proofs.Ytihjhkbbpphocaa.pr A.k.toNat N 0 i = i := (h.lw i hi).2
theorem pr_one (K : Nat) (N : List Nat) (i : Nat) : pr K N i 0 = i := rfl
/-- Two words have one element just where they do the same. -/
theorem Mon.same {A : Aut} {M : List (List Nat)} {N : List Nat} (h : Mon A M N) {u v : List Nat} (hu : Lt A.k.toNat u) (hv : Lt A.k.toNat v) : mr A.k.toNat N 0 u = mr A.k.toNat N 0 v ↔ act A u = act A v := by
  constructor
  · intro e
    have := h.word hu
    rw [e, h.word hv, Option.some.injEq] at this
    exact this.symm
  · intro e
    exact h.inj (h.word hu) (e ▸ h.word hv)
end Go.Proofs.Ytihjhkbbpphocaa
