/- Pure: least words while the search goes on. -/
import Derived.Test.YtpaadopmmpdodaaJp
namespace Go.Proofs.Ytpaadopmmpdodaa
set_option linter.unusedVariables false

theorem Fst.app {K M : Nat} {n : List Nat} (h : Fst K M n) (r : List Nat) : Fst K M (n ++ r) := by
  intro s h0 hs
  obtain ⟨h1, h2⟩ := h s h0 hs
  refine ⟨List.mem_append_left _ h1, ?_⟩
  rw [List.idxOf_append, if_pos h1]
  exact h2
theorem lw_app {K M : Nat} {n : List Nat} (h : Fst K M n) (r : List Nat) : ∀ s, s < M → lw K (n ++ r) s = lw K n s := by
  intro s
  induction s using Nat.strongRecOn with
  | _ s ih =>
    intro hs
    by_cases e : s = 0
    · subst e; rfl
    · obtain ⟨h1, h2⟩ := h s (by omega) hs
      rw [lw_step (h.app r) (by omega) hs, lw_step h (by omega) hs, List.idxOf_append, if_pos h1, ih _ h2 (by omega)]
theorem lw_new {d : Nat → Nat → Nat} {K x : Nat} {m n : List Nat} (h : BI d K x m n) {i c s : Nat} (hK : c < K) (hn : n.length = i * K + c) (hi : m[i]? = some s) (ht : ¬ d s c ∈ m) (hm : m.length ≠ 4096) : lw K (n ++ [m.length]) m.length = lw K n i ++ [c] := by
  have hil : i < m.length := (List.getElem?_eq_some_iff.1 hi).1
  have hb := h.new hK hn hi ht hm
  have hf := hb.fst
  have h1 : n.length / K = i := by rw [hn, Nat.mul_comm, Nat.mul_add_div (by omega), Nat.div_eq_of_lt hK]; rfl
  have h2 : n.length % K = c := by rw [hn, Nat.mul_comm, Nat.mul_add_mod, Nat.mod_eq_of_lt hK]
  have hnot : m.length ∉ n := fun hx => by
    obtain ⟨p, hp⟩ := List.mem_iff_getElem?.1 hx
    obtain ⟨_, _, ht⟩ := h.step p _ hp
    have := (List.getElem?_eq_some_iff.1 ht).1
    omega
  have hidx : (n ++ [m.length]).idxOf m.length = n.length := by
    rw [List.idxOf_append, if_neg hnot]
    simp
  rw [lw_step hf (by omega) (by simp), hidx, h1, h2, lw_app h.fst _ i hil]
theorem bgo_pre {S : Type} [DecidableEq S] {d : S → Nat → S} {k : Nat} : ∀ (f : Nat) (m : List S) (n : List Nat) (M : List S) (N : List Nat), bgo d k f m n = some (M, N) → ∃ r q, M = m ++ r ∧ N = n ++ q := by
  intro f
  induction f with
  | zero =>
    intro m n M N he
    simp only [bgo, Option.some.injEq, Prod.mk.injEq] at he
    obtain ⟨rfl, rfl⟩ := he
    exact ⟨[], [], by simp, by simp⟩
  | succ f ih =>
    intro m n M N he
    unfold bgo at he
    split at he
    · simp only [Option.some.injEq, Prod.mk.injEq] at he
      obtain ⟨rfl, rfl⟩ := he
      exact ⟨[], [], by simp, by simp⟩
    · split at he
      · cases he
      · split at he
        · obtain ⟨r, q, h1, h2⟩ := ih _ _ _ _ he
          exact ⟨r, _, h1, by rw [h2, List.append_assoc]⟩
        · split at he
          · cases he
          · obtain ⟨r, q, h1, h2⟩ := ih _ _ _ _ he
            exact ⟨_, _, by rw [h1, List.append_assoc], by rw [h2, List.append_assoc]⟩
theorem idx_true {l : List Bool} {i : Nat} (hi : l[i]? = some true) (hb : ∀ j, j < i → l[j]? = some false) : true ∈ l ∧ l.idxOf true = i := by
  have hmem := List.mem_of_getElem? hi
  refine ⟨hmem, ?_⟩
  have h2 := idxOf_get hmem
  have hlt := (List.getElem?_eq_some_iff.1 hi).1
  by_cases c : l.idxOf true < i
  · rw [hb _ c] at h2; cases h2
  · by_cases c2 : i < l.idxOf true
    · have h3 := List.not_of_lt_findIdx (p := (· == true)) (xs := l) (i := i) c2
      rw [List.getElem?_eq_getElem hlt, Option.some.injEq] at hi
      rw [hi] at h3
      simp at h3
    · omega
/-- The first accepted state was found. -/
theorem least_found {A : Aut} (G : Good A) {m n : List Nat} {f i s : Nat} (hbi : BI (dN A) A.k.toNat 0 m n) (hgo : bgo (dN A) A.k.toNat f m n = bfs (dN A) A.k.toNat 0) (hi : m[i]? = some s) (ha : aN A s = true) (hb : ∀ (j t : Nat), j < i → m[j]? = some t → aN A t = false) :
    lsW A = ⟨(lB (lw A.k.toNat n i)).toArray⟩ ∧ lsF A = true := by
  obtain ⟨M, N, R⟩ := rch_of G (s := 0) (by have := G.n1; omega) (aN A)
  rw [R.bfs] at hgo
  obtain ⟨r, q, rfl, rfl⟩ := bgo_pre _ _ _ _ _ hgo
  have hre : reA A = ⟨A.k, (n ++ q).map fun (x : Nat) => (x : Int), (m ++ r).map (aN A)⟩ := by unfold reA; rw [if_pos (chkA_ok G), R.is]
  have hil := (List.getElem?_eq_some_iff.1 hi).1
  obtain ⟨h1, h2⟩ := idx_true (l := (m ++ r).map (aN A)) (i := i) (by rw [List.getElem?_map, List.getElem?_append_left hil, hi]; simp [ha]) (fun j hj => by
    rw [List.getElem?_map, List.getElem?_append_left (by omega), List.getElem?_eq_getElem (by omega)]
    simp only [Option.map_some, Option.some.injEq]
    exact hb j _ hj (List.getElem?_eq_getElem (by omega)))
  unfold lsW lsF lsN
  rw [hre]
  simp only
  rw [if_pos h1, h2, toNat_cast, lw_app hbi.fst q i hil]
  exact ⟨rfl, decide_eq_true h1⟩
theorem least_none {A : Aut} (G : Good A) {m n : List Nat} {f : Nat} (hgo : bgo (dN A) A.k.toNat f m n = bfs (dN A) A.k.toNat 0) (hn : n.length = m.length * A.k.toNat) (hb : ∀ (j t : Nat), m[j]? = some t → aN A t = false) :
    lsW A = ByteArray.empty ∧ lsF A = false := by
  rw [bgo_end hn] at hgo
  have hre : reA A = ⟨A.k, n.map fun (x : Nat) => (x : Int), m.map (aN A)⟩ := by unfold reA; rw [if_pos (chkA_ok G)]; unfold rch; rw [← hgo]
  have hno : true ∉ m.map (aN A) := fun h => by
    obtain ⟨t, ht, e⟩ := List.mem_map.1 h
    obtain ⟨j, hj⟩ := List.mem_iff_getElem?.1 ht
    rw [hb j t hj] at e
    cases e
  unfold lsW lsF
  rw [hre]
  simp only
  rw [if_neg hno]
  exact ⟨rfl, decide_eq_false hno⟩
end Go.Proofs.Ytpaadopmmpdodaa
