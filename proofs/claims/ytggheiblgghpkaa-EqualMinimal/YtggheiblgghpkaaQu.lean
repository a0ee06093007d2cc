/- Pure: two searches that go alike under an injective renaming; what a search makes is in order. -/
import Derived.Test.YtggheiblgghpkaaJl
namespace Go.Proofs.Ytggheiblgghpkaa
set_option linter.unusedVariables false

theorem idxOf_map_on {S T : Type} [DecidableEq S] [DecidableEq T] {φ : T → S} {a : T} : ∀ {m : List T}, (∀ b ∈ m, φ b = φ a → b = a) → (m.map φ).idxOf (φ a) = m.idxOf a := by
  intro m
  induction m with
  | nil => intro _; rfl
  | cons x m ih =>
    intro h
    have h1 := ih (fun b hb => h b (List.mem_cons_of_mem _ hb))
    rw [List.map_cons, List.idxOf_cons, List.idxOf_cons, h1]
    by_cases e : x = a
    · subst e; simp
    · have e2 : ¬ φ x = φ a := fun q => e (h x (by simp) q)
      have b1 : (φ x == φ a) = false := by simpa using e2
      have b2 : (x == a) = false := by simpa using e
      rw [b1, b2]
/-- The same search, by other names. -/
theorem bgo_map {S T : Type} [DecidableEq S] [DecidableEq T] {d : S → Nat → S} {e : T → Nat → T} {k : Nat} (hk : 1 ≤ k) (φ : T → S) (P : T → Prop) (hP : ∀ t c, P t → c < k → P (e t c)) (hinj : ∀ a b, P a → P b → φ a = φ b → a = b) (hφ : ∀ t c, P t → c < k → φ (e t c) = d (φ t) c) :
    ∀ (f : Nat) (m : List T) (n : List Nat), (∀ t ∈ m, P t) → bgo d k f (m.map φ) n = (bgo e k f m n).map fun r => (r.1.map φ, r.2) := by
  intro f
  induction f with
  | zero => intro m n _; rfl
  | succ f ih =>
    intro m n hm
    by_cases c : n.length = m.length * k
    · rw [bgo_end c, bgo_end (by simpa using c)]; rfl
    · have c' : ¬ n.length = (m.map φ).length * k := by simpa using c
      rw [bgo, bgo, if_neg c, if_neg c', List.getElem?_map]
      cases hs : m[n.length / k]? with
      | none => rfl
      | some s =>
        have hsm : s ∈ m := List.mem_iff_getElem?.2 ⟨_, hs⟩
        have hc : n.length % k < k := Nat.mod_lt _ (by omega)
        have hPt := hP s _ (hm s hsm) hc
        have hf := hφ s _ (hm s hsm) hc
        simp only [Option.map_some]
        rw [← hf]
        have hix : (m.map φ).idxOf (φ (e s (n.length % k))) = m.idxOf (e s (n.length % k)) := idxOf_map_on fun b hb q => hinj b _ (hm b hb) hPt q
        by_cases ht : e s (n.length % k) ∈ m
        · rw [if_pos ht, if_pos (List.mem_map.2 ⟨_, ht, rfl⟩), hix]
          exact ih _ _ hm
        · have ht' : ¬ φ (e s (n.length % k)) ∈ m.map φ := by
            intro q
            obtain ⟨b, hb, q⟩ := List.mem_map.1 q
            have := hinj b _ (hm b hb) hPt q
            subst this
            exact ht hb
          rw [if_neg ht, if_neg ht', List.length_map]
          by_cases h4 : m.length = 4096
          · rw [if_pos h4, if_pos h4]; rfl
          · rw [if_neg h4, if_neg h4]
            have := ih (m ++ [e s (n.length % k)]) (n ++ [m.length]) (fun t q => by
              rcases List.mem_append.1 q with q | q
              · exact hm t q
              · simp at q; rw [q]; exact hPt)
            rw [List.map_append] at this
            exact this
theorem bgo_all {T : Type} [DecidableEq T] {e : T → Nat → T} {k : Nat} (hk : 1 ≤ k) (P : T → Prop) (hP : ∀ t c, P t → c < k → P (e t c)) : ∀ (f : Nat) (m : List T) (n : List Nat) (M : List T) (N : List Nat), (∀ t ∈ m, P t) → bgo e k f m n = some (M, N) → ∀ t ∈ M, P t := by
  intro f
  induction f with
  | zero => intro m n M N hm he; simp only [bgo, Option.some.injEq, Prod.mk.injEq] at he; obtain ⟨rfl, rfl⟩ := he; exact hm
  | succ f ih =>
    intro m n M N hm he
    by_cases c : n.length = m.length * k
    · rw [bgo_end c] at he
      simp only [Option.some.injEq, Prod.mk.injEq] at he; obtain ⟨rfl, rfl⟩ := he; exact hm
    · rw [bgo, if_neg c] at he
      cases hs : m[n.length / k]? with
      | none => rw [hs] at he; cases he
      | some s =>
        rw [hs] at he
        simp only at he
        have hsm : s ∈ m := List.mem_iff_getElem?.2 ⟨_, hs⟩
        have hc : n.length % k < k := Nat.mod_lt _ (by omega)
        have hPt := hP s _ (hm s hsm) hc
        by_cases ht : e s (n.length % k) ∈ m
        · rw [if_pos ht] at he; exact ih _ _ _ _ hm he
        · rw [if_neg ht] at he
          by_cases h4 : m.length = 4096
          · rw [if_pos h4] at he; cases he
          · rw [if_neg h4] at he
            exact ih _ _ _ _ (fun t q => by
              rcases List.mem_append.1 q with q | q
              · exact hm t q
              · simp at q; rw [q]; exact hPt) he
theorem bfs_map {S T : Type} [DecidableEq S] [DecidableEq T] {d : S → Nat → S} {e : T → Nat → T} {k : Nat} (hk : 1 ≤ k) (φ : T → S) (P : T → Prop) (hP : ∀ t c, P t → c < k → P (e t c)) (hinj : ∀ a b, P a → P b → φ a = φ b → a = b) (hφ : ∀ t c, P t → c < k → φ (e t c) = d (φ t) c) {x : S} {y : T} (hy : P y) (hx : φ y = x) :
    bfs d k x = (bfs e k y).map fun r => (r.1.map φ, r.2) := by
  have := bgo_map hk φ P hP hinj hφ 32768 [y] [] (fun t q => by simp at q; rw [q]; exact hy)
  rw [List.map_cons, hx] at this
  exact this
/-- An automaton by where letters lead, in order. -/
def oA (k : Int) (N : List Nat) (l : List Bool) : Aut := ⟨k, N.map fun (x : Nat) => (x : Int), l⟩
theorem oA_d {k : Nat} {N : List Nat} {l : List Bool} (i c : Nat) : dN (oA k N l) i c = N.getD (i * k + c) 0 := by
  unfold dN oA
  simp only [Int.toNat_natCast, List.getD_eq_getElem?_getD, List.getElem?_map]
  cases N[i * k + c]? <;> simp
theorem BI.at {S : Type} [DecidableEq S] {d : S → Nat → S} {k : Nat} {x : S} {M : List S} {N : List Nat} (h : BI d k x M N) (hl : N.length = M.length * k) {i c : Nat} (hi : i < M.length) (hc : c < k) : ∃ s, M[i]? = some s ∧ M[N.getD (i * k + c) 0]? = some (d s c) := by
  have hp : i * k + c < N.length := by
    have := Nat.mul_le_mul_right k (show i + 1 ≤ M.length from hi)
    rw [Nat.add_mul] at this
    omega
  have h1 : (i * k + c) / k = i := by rw [Nat.mul_comm, Nat.mul_add_div (by omega), Nat.div_eq_of_lt hc]; rfl
  have h2 : (i * k + c) % k = c := by rw [Nat.mul_comm, Nat.mul_add_mod, Nat.mod_eq_of_lt hc]
  obtain ⟨s, a, b⟩ := h.step (i * k + c) _ (List.getElem?_eq_getElem hp)
  rw [h1] at a
  rw [h2] at b
  refine ⟨s, a, ?_⟩
  rw [List.getD_eq_getElem?_getD, List.getElem?_eq_getElem hp]
  exact b
theorem BI.inj {S : Type} {d : S → Nat → S} {k : Nat} {x : S} {M : List S} {N : List Nat} (h : BI d k x M N) {i j : Nat} {s : S} (hi : M[i]? = some s) (hj : M[j]? = some s) : i = j := by
  obtain ⟨hil, e1⟩ := List.getElem?_eq_some_iff.1 hi
  obtain ⟨hjl, e2⟩ := List.getElem?_eq_some_iff.1 hj
  exact (List.getElem?_inj hil h.nodup).1 (hi.trans hj.symm)
/-- What was met, searched again. -/
theorem bfs_order {S : Type} [DecidableEq S] {d : S → Nat → S} {k : Nat} (hk : 1 ≤ k ∧ k ≤ 8) {x : S} {M : List S} {N : List Nat} (h : bfs d k x = some (M, N)) (l : List Bool) : bfs (dN (oA k N l)) k 0 = some (List.range M.length, N) := by
  obtain ⟨hB, hl⟩ := bfs_sure hk h
  have h0 : 0 < M.length := (List.getElem?_eq_some_iff.1 hB.first).1
  have hat : ∀ i c, i < M.length → c < k → dN (oA k N l) i c < M.length ∧ M.getD (dN (oA k N l) i c) x = d (M.getD i x) c := by
    intro i c hi hc
    obtain ⟨s, a, b⟩ := hB.at hl hi hc
    rw [oA_d]
    refine ⟨(List.getElem?_eq_some_iff.1 b).1, ?_⟩
    rw [List.getD_eq_getElem?_getD (l := M), List.getD_eq_getElem?_getD (l := M), a, b]
    rfl
  have hinj : ∀ a b, a < M.length → b < M.length → M.getD a x = M.getD b x → a = b := by
    intro a b ha hb e
    rw [List.getD_eq_getElem?_getD, List.getD_eq_getElem?_getD, List.getElem?_eq_getElem ha, List.getElem?_eq_getElem hb] at e
    exact (List.getElem?_inj ha hB.nodup).1 (by rw [List.getElem?_eq_getElem ha, List.getElem?_eq_getElem hb]; exact congrArg some e)
  have hm := bfs_map (d := d) (e := dN (oA k N l)) hk.1 (fun i => M.getD i x) (fun i => i < M.length) (fun t c ht hc => (hat t c ht hc).1) hinj (fun t c ht hc => (hat t c ht hc).2) (x := x) (y := 0) h0 (by have := hB.first; rw [List.getD_eq_getElem?_getD, this]; rfl)
  rw [h] at hm
  cases hb : bfs (dN (oA k N l)) k 0 with
  | none => rw [hb] at hm; cases hm
  | some r =>
    obtain ⟨M', N'⟩ := r
    rw [hb] at hm
    simp only [Option.map_some, Option.some.injEq, Prod.mk.injEq] at hm
    obtain ⟨e1, rfl⟩ := hm
    have hall := bgo_all (e := dN (oA k N l)) hk.1 (fun i => i < M.length) (fun t c ht hc => (hat t c ht hc).1) 32768 [0] [] M' N (fun t q => by simp at q; rw [q]; exact h0) hb
    have hlen : M.length = M'.length := by rw [e1, List.length_map]
    have : M' = List.range M.length := by
      apply List.ext_getElem?
      intro i
      by_cases hi : i < M'.length
      · rw [List.getElem?_eq_getElem hi, List.getElem?_range (by omega)]
        have q := congrArg (fun (L : List S) => L[i]?) e1
        simp only [List.getElem?_map, List.getElem?_eq_getElem hi, Option.map_some] at q
        have hiM : i < M.length := by omega
        have g := hinj (M'[i]) i (hall _ (List.getElem_mem hi)) hiM (by
          rw [List.getD_eq_getElem?_getD (i := i), q]; rfl)
        rw [g]
      · rw [List.getElem?_eq_none (by omega), List.getElem?_eq_none (by simp; omega)]
    rw [this]
theorem ord_good {S : Type} [DecidableEq S] {d : S → Nat → S} {k : Nat} (hk : 1 ≤ k ∧ k ≤ 8) {x : S} {M : List S} {N : List Nat} (h : bfs d k x = some (M, N)) {l : List Bool} (hl : l.length = M.length) : Good (oA k N l) := by
  obtain ⟨hB, hn⟩ := bfs_sure hk h
  have h0 : 0 < M.length := (List.getElem?_eq_some_iff.1 hB.first).1
  have hall : ∀ i, i < N.length → N.getD i 0 < M.length := by
    intro i hi
    obtain ⟨s, _, b⟩ := hB.step i _ (List.getElem?_eq_getElem hi)
    have := (List.getElem?_eq_some_iff.1 b).1
    rw [List.getD_eq_getElem?_getD, List.getElem?_eq_getElem hi]
    exact this
  have hg : ∀ i, i < N.length → (N.map fun (x : Nat) => (x : Int)).getD i 0 = (N.getD i 0 : Nat) := by
    intro i hi
    rw [List.getD_eq_getElem?_getD, List.getD_eq_getElem?_getD, List.getElem?_map, List.getElem?_eq_getElem hi]
    rfl
  refine ⟨by show (1 : Int) ≤ (k : Int); omega, by show (k : Int) ≤ 8; omega, by show 1 ≤ l.length; omega, by have := hB.most; show l.length ≤ 4096; omega, ?_, ?_, ?_⟩
  · show ((N.map fun (x : Nat) => (x : Int)).length : Int) = l.length * (k : Int)
    rw [List.length_map, hn, hl]
    push_cast
    rfl
  · intro i hi
    have hi' : i < N.length := by simpa [oA] using hi
    show 0 ≤ (N.map fun (x : Nat) => (x : Int)).getD i 0
    rw [hg i hi']; omega
  · intro i hi
    have hi' : i < N.length := by simpa [oA] using hi
    show (N.map fun (x : Nat) => (x : Int)).getD i 0 < l.length
    have := hall i hi'
    rw [hg i hi', hl]; omega
theorem range_map_get {l : List Bool} : (List.range l.length).map (fun i => l.getD i false) = l := by
  apply List.ext_getElem?
  intro i
  rw [List.getElem?_map]
  by_cases h : i < l.length
  · rw [List.getElem?_range h, List.getElem?_eq_getElem h]; simp [List.getD_eq_getElem?_getD, h]
  · rw [List.getElem?_eq_none (by simp; omega), List.getElem?_eq_none (by omega)]; rfl
theorem ord_rch {S : Type} [DecidableEq S] {d : S → Nat → S} {k : Nat} (hk : 1 ≤ k ∧ k ≤ 8) {x : S} {M : List S} {N : List Nat} (h : bfs d k x = some (M, N)) (l : List Bool) (acc : Nat → Bool) : rch (oA k N l) 0 acc = oA k N ((List.range M.length).map acc) := by
  unfold rch
  rw [show (oA k N l).k.toNat = k by simp [oA], bfs_order hk h l]
  rfl
theorem ord_re {S : Type} [DecidableEq S] {d : S → Nat → S} {k : Nat} (hk : 1 ≤ k ∧ k ≤ 8) {x : S} {M : List S} {N : List Nat} (h : bfs d k x = some (M, N)) {l : List Bool} (hl : l.length = M.length) : reA (oA k N l) = oA k N l := by
  unfold reA
  rw [if_pos (chkA_ok (ord_good hk h hl)), ord_rch hk h, ← hl]
  congr 1
  exact range_map_get
theorem ord_not {S : Type} [DecidableEq S] {d : S → Nat → S} {k : Nat} (hk : 1 ≤ k ∧ k ≤ 8) {x : S} {M : List S} {N : List Nat} (h : bfs d k x = some (M, N)) {l : List Bool} (hl : l.length = M.length) : notA (oA k N l) = oA k N (l.map (!·)) := by
  unfold notA
  rw [if_pos (chkA_ok (ord_good hk h hl)), ord_rch hk h, ← hl]
  congr 1
  have := congrArg (List.map (!·)) (range_map_get (l := l))
  rw [List.map_map] at this
  exact this
/-- An automaton's own search. -/
theorem rch_oA {A : Aut} (G : Good A) {s : Nat} (hs : s < A.ac.length) (acc : Nat → Bool) : ∃ M N, bfs (dN A) A.k.toNat s = some (M, N) ∧ (∀ x ∈ M, x < A.ac.length) ∧ rch A s acc = oA A.k.toNat N (M.map acc) := by
  obtain ⟨M, N, h, ha⟩ := bfs_some G hs
  refine ⟨M, N, h, ha, ?_⟩
  unfold rch oA
  rw [h, G.kn.2.2]
theorem good_re {A : Aut} (G : Good A) : reA (reA A) = reA A ∧ notA (notA A) = reA A ∧ Good (reA A) ∧ Good (notA A) := by
  have hk := G.kn
  have h0 : 0 < A.ac.length := G.n1
  obtain ⟨M, N, h, _, h1⟩ := rch_oA G h0 (aN A)
  obtain ⟨M2, N2, h', _, h2⟩ := rch_oA G h0 (fun s => !aN A s)
  rw [h] at h'
  simp only [Option.some.injEq, Prod.mk.injEq] at h'
  obtain ⟨rfl, rfl⟩ := h'
  have e1 : reA A = oA A.k.toNat N (M.map (aN A)) := by unfold reA; rw [if_pos (chkA_ok G), h1]
  have e2 : notA A = oA A.k.toNat N (M.map (fun s => !aN A s)) := by unfold notA; rw [if_pos (chkA_ok G), h2]
  rw [e1, e2, ord_re ⟨hk.1, hk.2.1⟩ h (by simp), ord_not ⟨hk.1, hk.2.1⟩ h (by simp)]
  refine ⟨rfl, ?_, ord_good ⟨hk.1, hk.2.1⟩ h (by simp), ord_good ⟨hk.1, hk.2.1⟩ h (by simp)⟩
  congr 1
  rw [List.map_map]
  congr 1
  funext s
  simp
end Go.Proofs.Ytggheiblgghpkaa
