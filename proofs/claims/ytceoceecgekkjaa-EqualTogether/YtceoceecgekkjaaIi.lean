/- equal: the two functions that tell which pairs are fresh keep to what least wants; what they cover, how many pairs they let in (pure). -/
import Derived.Test.YtceoceecgekkjaaIh
namespace Go.Proofs.Ytceoceecgekkjaa
open Go Go.RowKit Go.Lib Go.Maps
set_option linter.unusedVariables false
attribute [-instance] instBEqProd

theorem FP.frs (ab g tb jb xb n m : Nat) (hn : n ≤ 4096) (hm : m ≤ 4096) (k an : Value) (sa : Option Addr) (sc : Nat) : Frs 57 (.pointer (some ⟨jb, 0, none⟩)) (.pointer (some ⟨xb, 0, none⟩)) n m (dP n) (fun P O w => FP ab g tb jb xb (n + m) n #[k, an, .slice sa n sc] P O w) := by
  refine ⟨fun P O w w' h hk => ?_, fun P O w b h hb => ?_, fun P O w x y h hx hy => ?_⟩
  · obtain ⟨f, e, U, hX, rfl⟩ := h
    exact ⟨f, e, U, hX.keep hk, rfl⟩
  · obtain ⟨f, e, U, hX, rfl⟩ := h
    exact hX.lt hb
  · exact parted1_any ab g tb jb xb n m hn hm k an k k k 0 sa sc P O w h x y hx hy
def dU (P : List (Nat × Nat)) (p : Nat × Nat) : Bool := decide (p ∉ P)
theorem FU.frs (mb mo tb n m : Nat) (hn : n ≤ 4096) (hm : m ≤ 4096) : Frs 58 (.pointer (some ⟨mb, 0, none⟩)) (.pointer (some ⟨tb, 0, none⟩)) n m dU (fun P O w => FU mb mo tb P O w) := by
  refine ⟨fun P O w w' h hk => ?_, fun P O w b h hb => ?_, fun P O w x y h hx hy => ?_⟩
  · obtain ⟨C, T, D, vt, hU, hX, rfl⟩ := h
    exact ⟨C, T, D, vt, hU, hX.keep hk, rfl⟩
  · obtain ⟨C, T, D, vt, hU, hX, rfl⟩ := h
    rcases hb with rfl | rfl | rfl | q
    · exact (Array.getElem?_eq_some_iff.1 hX.m).1
    · exact hX.mp.lt
    · exact (Array.getElem?_eq_some_iff.1 hX.t).1
    · exact (hX.row.lt b q).2
  · exact unmet1_any mb mo tb P O w h x y (by omega) (by omega)

/-- Is a word accepted from a state of the one or, behind its n states, of the other? -/
def acE (A B : Aut) (z : Nat) (v : List Nat) : Bool := if z < A.ac.length then acW A z v else acW B (z - A.ac.length) v
theorem vld_parted {A B : Aut} {P : List (Nat × Nat)} (h : Vld (dP A.ac.length) A.ac.length B.ac.length P) : ∀ k, k ≤ P.length → ∃ f e Q, UF (A.ac.length + B.ac.length) f (rP A.ac.length (P.take k)) e ∧ Q.map Nod.p = P.take k ∧ UC (acE A B) (dd A B) (sx A B) (A.ac.length + B.ac.length) (rP A.ac.length (P.take k)) Q ∧ k + rts (A.ac.length + B.ac.length) (rP A.ac.length (P.take k)) ≤ A.ac.length + B.ac.length := by
  intro k
  induction k with
  | zero =>
    intro _
    rw [List.take_zero]
    exact ⟨_, _, [], UF.id _, rfl, UC.start _ _ _ _ _, by rw [Nat.zero_add]; exact rts_le _ _⟩
  | succ k ih =>
    intro hk
    obtain ⟨f, e, Q, hu, hq, hc, hr⟩ := ih (by omega)
    obtain ⟨p, hp⟩ : ∃ p, P[k]? = some p := ⟨P[k], List.getElem?_eq_getElem (by omega)⟩
    obtain ⟨hd, h1, h2⟩ := h k p hp
    have et : P.take (k + 1) = P.take k ++ [p] := by rw [List.take_add_one, hp]; rfl
    have hne : rP A.ac.length (P.take k) p.1 ≠ rP A.ac.length (P.take k) (A.ac.length + p.2) := of_decide_eq_true hd
    obtain ⟨e', hu'⟩ := hu.link (s := p.1) (t := A.ac.length + p.2) (by omega) (by omega) hne
    have hl := rts_less hu (s := p.1) (t := A.ac.length + p.2) (by omega) (by omega) hne
    rw [et, rP_snoc]
    refine ⟨_, e', Q ++ [⟨p, 0, 0, []⟩], hu', by rw [List.map_append, hq]; rfl, hc.join (by omega) (by omega) ⟨p, 0, 0, []⟩ (fun v hv => (sx_ac A B p v).2 ?_), by omega⟩
    unfold acE at hv
    rw [if_pos h1, if_neg (by omega), Nat.add_sub_cancel_left] at hv
    exact hv
theorem parted_cov {A B : Aut} (P : List (Nat × Nat)) (p : Nat × Nat) (h : Vld (dP A.ac.length) A.ac.length B.ac.length P) (h1 : p.1 < A.ac.length) (h2 : p.2 < B.ac.length) (hd : dP A.ac.length P p = false) (v : List Nat) (hv : sx A B (wrun (dd A B) p v) = true) : ∃ q ∈ P, sx A B (wrun (dd A B) q v) = true := by
  obtain ⟨f, e, Q, hu, hq, hc, hr⟩ := vld_parted h P.length (Nat.le_refl _)
  rw [List.take_length] at hu hq hc hr
  have he : rP A.ac.length P p.1 = rP A.ac.length P (A.ac.length + p.2) := by simpa [dP] using hd
  obtain ⟨m, hm, hs⟩ := hc p.1 (A.ac.length + p.2) (by omega) (by omega) he v (by
    unfold acE
    rw [if_pos h1, if_neg (by omega), Nat.add_sub_cancel_left]
    exact (sx_ac A B p v).1 hv)
  exact ⟨m.p, by rw [← hq]; exact List.mem_map_of_mem hm, hs⟩
theorem parted_len {A B : Aut} (P : List (Nat × Nat)) (h : Vld (dP A.ac.length) A.ac.length B.ac.length P) (hn : 1 ≤ A.ac.length) : P.length < A.ac.length + B.ac.length := by
  obtain ⟨f, e, Q, hu, hq, hc, hr⟩ := vld_parted h P.length (Nat.le_refl _)
  rw [List.take_length] at hu hr
  have := rts_pos hu (s := 0) (by omega)
  omega
theorem unmet_cov {A B : Aut} {sh : Nat × Nat → Bool} {n m : Nat} (P : List (Nat × Nat)) (p : Nat × Nat) (h : Vld dU n m P) (h1 : p.1 < n) (h2 : p.2 < m) (hd : dU P p = false) (v : List Nat) (hv : sh (wrun (dd A B) p v) = true) : ∃ q ∈ P, sh (wrun (dd A B) q v) = true := ⟨p, by simpa [dU] using hd, hv⟩
theorem vld_nodup {n m : Nat} {P : List (Nat × Nat)} (h : Vld dU n m P) : ∀ k, k ≤ P.length → (P.take k).Nodup := by
  intro k
  induction k with
  | zero => intro _; rw [List.take_zero]; exact List.nodup_nil
  | succ k ih =>
    intro hk
    obtain ⟨p, hp⟩ : ∃ p, P[k]? = some p := ⟨P[k], List.getElem?_eq_getElem (by omega)⟩
    obtain ⟨hd, h1, h2⟩ := h k p hp
    have et : P.take (k + 1) = P.take k ++ [p] := by rw [List.take_add_one, hp]; rfl
    have hn : p ∉ P.take k := of_decide_eq_true hd
    rw [et, List.nodup_append]
    refine ⟨ih (by omega), by simp, fun a ha b hb e => ?_⟩
    rw [List.mem_singleton] at hb
    rw [e, hb] at ha
    exact hn ha
theorem unmet_len {n m : Nat} (P : List (Nat × Nat)) (h : Vld dU n m P) : P.length ≤ n * m := by
  have hN := vld_nodup h P.length (Nat.le_refl _)
  rw [List.take_length] at hN
  have hb : ∀ c ∈ P, c.1 < n ∧ c.2 < m := fun c hc => by
    obtain ⟨i, hi⟩ := List.getElem?_of_mem hc
    exact (h i c hi).2
  have := nodup_small (n * m) (P.map fun c => c.1 * m + c.2) (by
    rw [List.Nodup, List.pairwise_map]
    refine List.Pairwise.imp_of_mem (fun {a b} ha hb' hne e => ?_) hN
    have h1 := (hb a ha).2
    have h2 := (hb b hb').2
    have hm : 0 < m := by omega
    have d1 : (a.1 * m + a.2) / m = a.1 := by rw [Nat.add_comm, Nat.add_mul_div_right _ _ hm, Nat.div_eq_of_lt h1, Nat.zero_add]
    have d2 : (b.1 * m + b.2) / m = b.1 := by rw [Nat.add_comm, Nat.add_mul_div_right _ _ hm, Nat.div_eq_of_lt h2, Nat.zero_add]
    have e1 : a.1 = b.1 := by rw [← d1, ← d2, e]
    rw [e1] at e
    exact hne (Prod.ext e1 (by omega))) (fun z hz => by
    obtain ⟨c, hc, rfl⟩ := List.mem_map.1 hz
    have h1 := hb c hc
    have : (c.1 + 1) * m ≤ n * m := Nat.mul_le_mul_right m h1.1
    rw [Nat.add_mul] at this
    omega)
  simpa using this

set_option maxHeartbeats 4000000 in
set_option maxRecDepth 100000 in
theorem unmet_any (w : World) :
    Calls Try.prog 39 #[] w fun e w' => ∃ mb mo tb O, e = .returned (.func (.func 58) #[] #[.pointer (some ⟨mb, 0, none⟩), .pointer (some ⟨tb, 0, none⟩)]) ∧ FU mb mo tb [] O w' ∧ (∀ b, O b → w.heap.size ≤ b) ∧ Below w.heap.size w w' := by
  have hmm := @run_makeMap Try.prog
  go_enter Try.func39, Try.ntmps39
  go_wp2_with fail
  clear hmm
  go_ret
  have hm0 := World.ownsMap_made (H := Unit) w Try.prog 77 (plainElem Try.prog 3)
  have q1 := heap_alloc_last (w.alloc (.map #[] 0)) (.cells #[.map (some w.heap.size)] 86)
  have q2 := heap_alloc_last ((w.alloc (.map #[] 0)).alloc (.cells #[.map (some w.heap.size)] 86)) (.cells #[.slice none 0 0] 87)
  simp only [World.size_alloc] at q1 q2
  refine ⟨w.heap.size + 1, w.heap.size, w.heap.size + 1 + 1, _, rfl, ⟨[], [], .map [], .slice none 0 0, UM.start, ⟨MI.empty _ _, ((below_new _ _).block _ (by simp)).trans q1, q2, ?_, World.ownsRow_nil _ _ _ _⟩, rfl⟩, fun b hb => ?_, go_on (go_on (below_new _ _) (below_new _ _)) (below_new _ _)⟩
  · exact map_keep hm0 (((below_new _ _).block _ (by simp; omega)).trans ((below_new _ _).block _ (by simp)))
  · rcases hb with rfl | rfl | rfl | q
    · omega
    · omega
    · omega
    · simp [Value.ownBlock] at q
end Go.Proofs.Ytceoceecgekkjaa
