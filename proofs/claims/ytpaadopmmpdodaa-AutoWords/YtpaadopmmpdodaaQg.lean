/- Pure: the automaton of one word, and the search over it (program and document alike). Contract of auto.Word. -/
import Derived.Test.YtpaadopmmpdodaaQf
namespace Go.Proofs.Ytpaadopmmpdodaa
open Go Go.RowKit Go.Lib Go.Maps
set_option linter.unusedVariables false

theorem bgo_congr {d e : Nat → Nat → Nat} {K N : Nat} (hK : 1 ≤ K) (hd : ∀ s c, s < N → c < K → d s c = e s c) (hN : ∀ s c, s < N → c < K → d s c < N) : ∀ (f : Nat) (m n : List Nat), (∀ s ∈ m, s < N) → bgo d K f m n = bgo e K f m n := by
  intro f
  induction f with
  | zero => intro m n _; rfl
  | succ f ih =>
    intro m n hm
    unfold bgo
    by_cases c : n.length = m.length * K
    · rw [if_pos c, if_pos c]
    · rw [if_neg c, if_neg c]
      cases hs : m[n.length / K]? with
      | none => rfl
      | some s =>
        have hsm := hm s (List.mem_of_getElem? hs)
        have hcK : n.length % K < K := Nat.mod_lt _ (by omega)
        have e1 := hd s _ hsm hcK
        have e2 := hN s _ hsm hcK
        simp only
        rw [← e1]
        rw [ih m _ hm, ih (m ++ [d s (n.length % K)]) _ (fun x hx => by
          rcases List.mem_append.1 hx with hx | hx
          · exact hm x hx
          · simp at hx; subst hx; exact e2)]
theorem sq_congr {S : Type} {R : Option (List S × List Nat)} {K : Nat} {acc acc' : S → Bool} {w : World} {e : Ending} {w' : World} (h : SQ R K acc w e w') (ha : ∀ m n, R = some (m, n) → m.map acc = m.map acc') : SQ R K acc' w e w' := by
  rcases h with h | ⟨m, n, vn, va, h, he, h1, h2, h3⟩
  · exact .inl h
  · exact .inr ⟨m, n, vn, va, h, he, h1, by rw [← ha m n h]; exact h2, h3⟩
/-- Where letters lead among a word's beginnings. -/
def wD (b : ByteArray) (s c : Nat) : Nat := if (lets b)[s]? = some c then s + 1 else b.size + 1
/-- The automaton of one word. -/
def wAut (K : Nat) (b : ByteArray) : Aut := ⟨K, (List.range ((b.size + 2) * K)).map fun p => ((wD b (p / K) (p % K) : Nat) : Int), (List.range (b.size + 2)).map fun s => decide (s = b.size)⟩
theorem wD_lt (b : ByteArray) (s c : Nat) : wD b s c < b.size + 2 := by
  unfold wD
  split
  · rename_i h
    have := (List.getElem?_eq_some_iff.1 h).1
    rw [lets_len] at this
    omega
  · omega
theorem wAut_good {K : Nat} {b : ByteArray} (hK : 1 ≤ K ∧ K ≤ 8) (hb : b.size ≤ 4094) : Good (wAut K b) := by
  refine ⟨by simp [wAut]; omega, by simp [wAut]; omega, by simp [wAut], by simp [wAut]; omega, by simp [wAut], ?_, ?_⟩
  · intro i hi
    simp [wAut] at hi
    simp [wAut, List.getD_eq_getElem?_getD, hi]
  · intro i hi
    simp [wAut] at hi
    simp [wAut, List.getD_eq_getElem?_getD, hi]
    have := wD_lt b (i / K) (i % K)
    omega
theorem wAut_d {K : Nat} {b : ByteArray} (hK : 1 ≤ K) {s c : Nat} (hs : s < b.size + 2) (hc : c < K) : dN (wAut K b) s c = wD b s c := by
  have h1 : s * K + c < (b.size + 2) * K := by
    have := Nat.mul_le_mul_right K (show s + 1 ≤ b.size + 2 from hs)
    rw [Nat.add_mul] at this
    omega
  have h2 : (s * K + c) / K = s := by rw [Nat.mul_comm, Nat.mul_add_div (by omega), Nat.div_eq_of_lt hc]; rfl
  have h3 : (s * K + c) % K = c := by rw [Nat.mul_comm, Nat.mul_add_mod, Nat.mod_eq_of_lt hc]
  simp [dN, wAut, List.getD_eq_getElem?_getD, h1, h2, h3]
theorem wAut_a {K : Nat} {b : ByteArray} {s : Nat} (hs : s < b.size + 2) : aN (wAut K b) s = decide (s = b.size) := by
  simp [aN, wAut, List.getD_eq_getElem?_getD, hs]
theorem wAut_bfs {K : Nat} {b : ByteArray} (hK : 1 ≤ K ∧ K ≤ 8) (hb : b.size ≤ 4094) : bfs (wD b) K 0 = bfs (dN (wAut K b)) (wAut K b).k.toNat 0 := by
  have e : (wAut K b).k.toNat = K := by simp [wAut]
  rw [e]
  exact bgo_congr (N := b.size + 2) hK.1 (fun s c hs hc => (wAut_d hK.1 hs hc).symm) (fun s c _ _ => wD_lt b s c) _ _ _ (fun x hx => by simp at hx; omega)
/-- What Word answers. -/
noncomputable def wrE (k : Int) (b : ByteArray) : Int := if chk k b = 0 then if 4094 < b.size then 6 else 0 else chk k b
noncomputable def wrA (k : Int) (b : ByteArray) : Aut := if wrE k b = 0 then rch (wAut k.toNat b) 0 (aN (wAut k.toNat b)) else zAut
theorem chk_k {k : Int} {b : ByteArray} (h : chk k b = 0) : 1 ≤ k ∧ k ≤ 8 := by
  by_cases c : k < 1 ∨ 8 < k
  · rw [chk_bad k b c] at h; cases h
  · omega
/-- The search over a word's beginnings, as the call that makes an automaton answers. -/
theorem word_fq {K : Nat} {b : ByteArray} (hK : 1 ≤ K ∧ K ≤ 8) (hb : b.size ≤ 4094) {w : World} {e : Ending} {w' : World} (h : SQ (bfs (wD b) K 0) K (fun s => decide (s = b.size)) w e w') : FQ (rch (wAut K b) 0 (aN (wAut K b))) 0 w e w' := by
  have hg := wAut_good hK hb
  have hk : (wAut K b).k.toNat = K := by simp [wAut]
  have hl : (wAut K b).ac.length = b.size + 2 := by simp [wAut]
  rw [wAut_bfs hK hb] at h
  obtain ⟨m, n, hm, hmlt⟩ := bfs_some hg (s := 0) (by rw [hl]; omega)
  refine sq_fq hg (by rw [hl]; omega) ?_
  rw [hk]
  rw [hk] at h hm
  refine sq_congr h (fun m' n' h' => ?_)
  rw [hm] at h'
  simp only [Option.some.injEq, Prod.mk.injEq] at h'
  obtain ⟨rfl, rfl⟩ := h'
  refine List.map_congr_left (fun s hs => ?_)
  rw [wAut_a (by have := hmlt s hs; rw [hl] at this; exact this)]

set_option maxHeartbeats 2000000 in
set_option maxRecDepth 100000 in
theorem word1_any (K : Nat) (b : ByteArray) (w : World) (p q : Nat) (hp : w.cell? ⟨p, 0, none⟩ = some (.string b)) (hq : w.cell? ⟨q, 0, none⟩ = some (.int .i64 ((b.size + 1 : Nat) : Int))) (hb : b.size ≤ 4094) (hL : Lts K b) (s c : Nat) (hs : s < b.size + 2) (hc : c < K) (hK8 : K ≤ 8) :
    Calls Try.prog 47 #[.int .i64 s, .int .i64 c, .pointer (some ⟨p, 0, none⟩), .pointer (some ⟨q, 0, none⟩)] w fun e w' => e = .returned (.int .i64 (wD b s c : Nat)) ∧ Below w.heap.size w w' := by
  by_cases hlt : s < b.size
  · have hsI : (s : Int) < b.size := by omega
    obtain ⟨l1, l2⟩ := hL s hlt
    obtain ⟨x, hx⟩ : ∃ x, b[s].toNat - 97 = x := ⟨_, rfl⟩
    have hlx := lets_at b s hlt
    rw [hx] at hlx
    have hcv : IntKind.u8.wrap ((b[s].toNat : Int) - 97) = (x : Int) := by rw [IntKind.wrap_u8]; omega
    have hcv2 : IntKind.i64.wrap (x : Int) = (x : Int) := by rw [IntKind.wrap_i64]; omega
    by_cases e : x = c
    · have HE : Hid (wD b s c = s + 1) := by show _ = _; unfold wD; rw [hlx, e, if_pos rfl]
      have hw : IntKind.i64.wrap ((s : Int) + 1) = ((s + 1 : Nat) : Int) := by rw [IntKind.wrap_i64]; omega
      subst e
      clear hlx l1 l2 hx hL
      go_enter Try.func47, Try.ntmps47
      go_wp2_with fail
      go_ret
      exact ⟨ret_int (by rw [HE.out]; first | done | rfl | simp), Below.refl _ _⟩
    · have HE : Hid (wD b s c = b.size + 1) := by show _ = _; unfold wD; rw [hlx, if_neg (by simpa using e)]
      have heI : ¬ (x : Int) = c := by omega
      have hd2 : decide ((x : Int) = c) = false := decide_eq_false heI
      clear hlx l1 l2 hx hL
      go_enter Try.func47, Try.ntmps47
      go_wp2_with fail
      go_ret
      exact ⟨ret_int (by rw [HE.out]; first | done | rfl | simp), Below.refl _ _⟩
  · have hsI : ¬ (s : Int) < b.size := by omega
    have hdI : decide ((s : Int) < b.size) = false := decide_eq_false hsI
    have HE : Hid (wD b s c = b.size + 1) := by
      show _ = _
      unfold wD
      rw [List.getElem?_eq_none (by rw [lets_len]; omega), if_neg (by simp)]
    clear hL
    go_enter Try.func47, Try.ntmps47
    go_wp2_with fail
    go_ret
    exact ⟨ret_int (by rw [HE.out]; first | done | rfl | simp), Below.refl _ _⟩

set_option maxHeartbeats 1000000 in
set_option maxRecDepth 100000 in
theorem word2_any (b : ByteArray) (w : World) (p : Nat) (hp : w.cell? ⟨p, 0, none⟩ = some (.string b)) (hb : b.size ≤ 4094) (s : Nat) :
    Calls Try.prog 49 #[.int .i64 s, .pointer (some ⟨p, 0, none⟩)] w fun e w' => e = .returned (.bool (decide (s = b.size))) ∧ Below w.heap.size w w' := by
  by_cases e : s = b.size
  · have HE : Hid (decide (s = b.size) = true) := decide_eq_true e
    have eI : (s : Int) = b.size := by omega
    clear e
    go_enter Try.func49, Try.ntmps49
    go_wp2_with fail
    go_ret
    exact ⟨by rw [HE.out]; first | done | rfl | simp [eI], Below.refl _ _⟩
  · have HE : Hid (decide (s = b.size) = false) := decide_eq_false e
    have eI : ¬ (s : Int) = b.size := by omega
    clear e
    go_enter Try.func49, Try.ntmps49
    go_wp2_with fail
    go_ret
    exact ⟨by rw [HE.out]; first | done | rfl | simp [eI], Below.refl _ _⟩
end Go.Proofs.Ytpaadopmmpdodaa
