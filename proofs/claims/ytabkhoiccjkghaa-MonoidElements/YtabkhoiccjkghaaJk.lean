/- The states of an automaton that are met from one of them: auto.from, Ahead, Reach, Not. -/
import Derived.Test.YtabkhoiccjkghaaJj
namespace Go.Proofs.Ytabkhoiccjkghaa
open Go Go.RowKit Go.Lib Go.Maps
set_option linter.unusedVariables false

theorem nodup_small : ∀ (N : Nat) (l : List Nat), l.Nodup → (∀ x ∈ l, x < N) → l.length ≤ N := by
  intro N
  induction N with
  | zero =>
    intro l _ h
    cases l with
    | nil => simp
    | cons a l => exact absurd (h a (by simp)) (by omega)
  | succ N ih =>
    intro l hn h
    have h1 := ih (l.erase N) (hn.erase N) (fun x hx => by
      have h2 := (List.Nodup.mem_erase_iff hn).1 hx
      have := h x h2.2
      have := h2.1
      omega)
    have h2 := List.length_erase (a := N) (l := l)
    split at h2 <;> omega
theorem bgo_total {d : Nat → Nat → Nat} {K N x : Nat} (hk : 1 ≤ K ∧ K ≤ 8) (hN : N ≤ 4096) (hd : ∀ s c, s < N → c < K → d s c < N) : ∀ (f : Nat) (m n : List Nat), BI d K x m n → (∀ s ∈ m, s < N) → ∃ M R, bgo d K f m n = some (M, R) ∧ ∀ s ∈ M, s < N := by
  intro f
  induction f with
  | zero => intro m n _ hm; exact ⟨m, n, rfl, hm⟩
  | succ f ih =>
    intro m n h hm
    by_cases c : n.length = m.length * K
    · exact ⟨m, n, bgo_end c, hm⟩
    · have hlt : n.length / K < m.length := by
        rw [Nat.div_lt_iff_lt_mul (by omega)]
        have := h.len
        omega
      have hi := List.getElem?_eq_getElem hlt
      have hn : n.length = n.length / K * K + n.length % K := by rw [Nat.mul_comm, Nat.div_add_mod]
      have hc : n.length % K < K := Nat.mod_lt _ (by omega)
      have hdN := hd m[n.length / K] (n.length % K) (hm _ (List.getElem_mem _)) hc
      by_cases ht : d m[n.length / K] (n.length % K) ∈ m
      · rw [bgo_old hc hn hi ht]
        exact ih _ _ (h.old hc hn hi ht) hm
      · have h4 : m.length ≠ 4096 := fun e => by
          have := nodup_small N (d m[n.length / K] (n.length % K) :: m) (List.nodup_cons.2 ⟨ht, h.nodup⟩) (fun y hy => by
            rcases List.mem_cons.1 hy with rfl | hy
            · exact hdN
            · exact hm y hy)
          simp at this
          omega
        rw [bgo_new hc hn hi ht h4]
        refine ih _ _ (h.new hc hn hi ht h4) (fun y hy => ?_)
        rcases List.mem_append.1 hy with hy | hy
        · exact hm y hy
        · simp at hy; subst hy; exact hdN
theorem Good.kn {A : Aut} (h : Good A) : 1 ≤ A.k.toNat ∧ A.k.toNat ≤ 8 ∧ ((A.k.toNat : Nat) : Int) = A.k := by
  have := h.k1
  have := h.k8
  omega
/-- The search over an automaton's own states has an end. -/
theorem bfs_some {A : Aut} (G : Good A) {s : Nat} (hs : s < A.ac.length) : ∃ m n, bfs (dN A) A.k.toNat s = some (m, n) ∧ ∀ x ∈ m, x < A.ac.length :=
  bgo_total ⟨G.kn.1, G.kn.2.1⟩ G.n2 (fun x c hx hc => (G.at hx (by have := G.kn.2.2; omega)).2.2) _ _ _ (BI.start _ _ s) (fun x hx => by simp at hx; subst hx; exact hs)
/-- The automaton in order of what is met from s. -/
def rch (A : Aut) (s : Nat) (acc : Nat → Bool) : Aut := match bfs (dN A) A.k.toNat s with
  | some (m, n) => ⟨A.k, n.map fun (x : Nat) => (x : Int), m.map acc⟩
  | none => ⟨0, [], []⟩
def zAut : Aut := ⟨0, [], []⟩
/-- An automaton in memory of the call's own. -/
def AO (base : Nat) (w : World) (v : Value) (B : Aut) : Prop := ∃ an cn aa ca, v = .agg #[.int .i64 B.k, .slice an B.nx.length cn, .slice aa B.ac.length ca] ∧ w.ownsRow base 3 1 (.slice an B.nx.length cn) B.nx.length (zC B.nx) ∧ w.ownsRow base 4 1 (.slice aa B.ac.length ca) B.ac.length (bC B.ac)
theorem AO.ar {base : Nat} {w : World} {v : Value} {B : Aut} (h : AO base w v B) : AR w v B := by
  obtain ⟨an, cn, aa, ca, e, h1, h2⟩ := h
  exact ⟨an, cn, aa, ca, e, own_sr h1, own_sr h2⟩
theorem AO.below {base : Nat} {w w' : World} {v : Value} {B : Aut} (h : AO base w v B) (hb : Below w.heap.size w w') : AO base w' v B := by
  obtain ⟨an, cn, aa, ca, e, h1, h2⟩ := h
  exact ⟨an, cn, aa, ca, e, own_below h1 hb, own_below h2 hb⟩
theorem AO.mono {base base' : Nat} {w : World} {v : Value} {B : Aut} (h : AO base w v B) (hb : base' ≤ base) : AO base' w v B := by
  obtain ⟨an, cn, aa, ca, e, h1, h2⟩ := h
  exact ⟨an, cn, aa, ca, e, own_mono h1 hb, own_mono h2 hb⟩
theorem AO.keep {base : Nat} {w w' : World} {v : Value} {B : Aut} (h : AO base w v B) (hk : ∀ (b : Nat) (cur : Array Value) (e : TypeId), e ≠ 25 → w.heap[b]? = some (.cells cur e (0, 0)) → w'.heap[b]? = w.heap[b]?) : AO base w' v B := by
  obtain ⟨an, cn, aa, ca, e, h1, h2⟩ := h
  exact ⟨an, cn, aa, ca, e, own_keep h1 (fun b cur _ hc => hk b cur _ (by decide) hc), own_keep h2 (fun b cur _ hc => hk b cur _ (by decide) hc)⟩
theorem AO.zero (base : Nat) (w : World) : AO base w (.agg #[.int .i64 0, .slice none 0 0, .slice none 0 0]) zAut := ⟨none, 0, none, 0, rfl, World.ownsRow_nil _ _ _ _, World.ownsRow_nil _ _ _ _⟩
/-- What a call that makes an automaton answers. -/
def FQ (B : Aut) (E : Int) (w : World) (e : Ending) (w' : World) : Prop := ∃ v', e = .returned (.tuple #[v', .int .i64 E]) ∧ AO w.heap.size w' v' B ∧ Below w.heap.size w w'
theorem sq_fq {A : Aut} (G : Good A) {s : Nat} (hs : s < A.ac.length) {acc : Nat → Bool} {w : World} {e : Ending} {w' : World} (h : SQ (bfs (dN A) A.k.toNat s) A.k.toNat acc w e w') : FQ (rch A s acc) 0 w e w' := by
  obtain ⟨m, n, hb, _⟩ := bfs_some G hs
  have hr : rch A s acc = ⟨A.k, n.map fun (x : Nat) => (x : Int), m.map acc⟩ := by unfold rch; rw [hb]
  rcases h with ⟨h, _⟩ | ⟨m', n', vn, va, h, he, h1, h2, h3⟩
  · rw [hb] at h; cases h
  · rw [hb] at h
    simp only [Option.some.injEq, Prod.mk.injEq] at h
    obtain ⟨rfl, rfl⟩ := h
    obtain ⟨an, cn, rfl⟩ := own_shape h1
    obtain ⟨aa, ca, rfl⟩ := own_shape h2
    rw [G.kn.2.2] at he
    refine ⟨_, he, ?_, h3⟩
    rw [hr]
    refine ⟨an, cn, aa, ca, ?_, ?_, ?_⟩
    · simp
    · simpa [nC_zC] using h1
    · simpa using h2

end Go.Proofs.Ytabkhoiccjkghaa
