/- minim: wordOf. -/
import Derived.Test.YthjenemmhlljfabLf
import Derived.Test.YthjenemmhlljfabJo
namespace Go.Proofs.Ythjenemmhlljfab
open Go Go.RowKit Go.Lib
set_option linter.unusedVariables false

theorem flat_get {α : Type} {f : α → List Value} {k : Nat} (hf : ∀ a, (f a).length = k) : ∀ (Q : List α) (i : Nat) (n : α) (j : Nat), Q[i]? = some n → j < k → (Q.flatMap f)[i * k + j]? = (f n)[j]?
  | [], _, _, _, h, _ => by simp at h
  | a :: Q, 0, n, j, h, hj => by
    simp at h
    subst h
    rw [List.flatMap_cons, Nat.zero_mul, Nat.zero_add, List.getElem?_append_left (by rw [hf]; exact hj)]
  | a :: Q, i + 1, n, j, h, hj => by
    simp only [List.getElem?_cons_succ] at h
    rw [List.flatMap_cons, List.getElem?_append_right (by rw [hf, Nat.add_mul]; omega), hf, show (i + 1) * k + j - k = i * k + j by rw [Nat.add_mul]; omega]
    exact flat_get hf Q i n j h hj
theorem flat_len {α : Type} {f : α → List Value} {k : Nat} (hf : ∀ a, (f a).length = k) : ∀ (Q : List α), (Q.flatMap f).length = Q.length * k
  | [] => by simp
  | a :: Q => by rw [List.flatMap_cons, List.length_append, hf, flat_len hf Q, List.length_cons, Nat.add_mul]; omega
/-- The letter's byte of a node. -/
def lb (n : Nod (Nat × Nat)) : Int := if n.w = [] then 0 else 97 + (n.c : Int)
/-- A meeting's cells. -/
def mtC (n : Nod (Nat × Nat)) : List Value := [.int .i64 (n.p.1 : Nat), .int .i64 (n.p.2 : Nat), .int .i64 (n.u : Nat), .int .u8 (lb n)]
theorem mtC_len (n : Nod (Nat × Nat)) : (mtC n).length = 4 := rfl
/-- A queue's nodes in a row. -/
theorem que_cell {w : World} {base g cap : Nat} {e : TypeId} {Q : List (Nod (Nat × Nat))} (h : w.ownsRow base e 4 (.slice (some ⟨g, 0, none⟩) Q.length cap) Q.length (Q.flatMap mtC)) {i : Nat} {n : Nod (Nat × Nat)} (hi : Q[i]? = some n) {j : Nat} (hj : j < 4) : w.cell? ⟨g, i * 4 + j, none⟩ = (mtC n)[j]? := by
  have hl := (List.getElem?_eq_some_iff.1 hi).1
  rw [h.cellAt (i * 4 + j) (by omega), flat_get mtC_len Q i n j hi hj]
/-- By which node each one was met. -/
def Ups (k : Nat) (Q : List (Nod (Nat × Nat))) : Prop := (∀ n, Q[0]? = some n → n.w = []) ∧ ∀ (j : Nat) (n : Nod (Nat × Nat)), Q[j]? = some n → 0 < j → ∃ m, Q[n.u]? = some m ∧ n.u < j ∧ n.w = m.w ++ [n.c] ∧ n.c < k
theorem QI.ups {d : Nat × Nat → Nat → Nat × Nat} {k : Nat} {sh : Nat × Nat → Bool} {x : Nat × Nat} {Q : List (Nod (Nat × Nat))} {i c : Nat} (h : QI d k sh x Q i c) : Ups k Q := by
  refine ⟨fun n hn => ?_, fun j n hj h0 => ?_⟩
  · obtain ⟨n0, q1, q2, q3⟩ := h.ne
    rw [hn, Option.some.injEq] at q1
    rw [q1, q3]
  · obtain ⟨m, h1, h2, h3, h4, h5, h6⟩ := h.up j n hj h0
    exact ⟨m, h1, h2, h3, h5⟩

set_option maxHeartbeats 4000000 in
set_option maxRecDepth 100000 in
theorem wordOf_any (base g cap : Nat) (Q : List (Nod (Nat × Nat))) (k : Nat) (hk : k ≤ 8) (hQ : Q.length ≤ 4096) (hU : Ups k Q) (at0 : Nat) (n0 : Nod (Nat × Nat)) (h0 : Q[at0]? = some n0) (w : World) (h : w.ownsRow base 64 4 (.slice (some ⟨g, 0, none⟩) Q.length cap) Q.length (Q.flatMap mtC)) :
    Calls Try.prog 36 #[.slice (some ⟨g, 0, none⟩) Q.length cap, .int .i64 at0] w fun e w' => e = .returned (.string ⟨(lB n0.w).toArray⟩) ∧ Below w.heap.size w w' := by
  obtain ⟨i0, hi, hz0, hz1, hz2⟩ := info_parts Try.info_u8
  have HU : Hid (Ups k Q) := hU
  have HQC : Hid (∀ y, Below w.heap.size w y → ∀ (i : Nat) (n : Nod (Nat × Nat)), Q[i]? = some n → y.cell? ⟨g, i * 4 + 2, none⟩ = some (.int .i64 (n.u : Nat)) ∧ y.cell? ⟨g, i * 4 + 3, none⟩ = some (.int .u8 (lb n))) := fun y hy i n hin => ⟨que_cell (own_below h hy) hin (j := 2) (by omega), que_cell (own_below h hy) hin (j := 3) (by omega)⟩
  have HL0 : Hid (n0.w.length ≤ 4096) := by
    have key : ∀ (j : Nat) (n : Nod (Nat × Nat)), Q[j]? = some n → n.w.length ≤ j := by
      intro j
      induction j using Nat.strongRecOn with
      | ind j ih =>
        intro n hj
        by_cases z : 0 < j
        · obtain ⟨m, q1, q2, q3, q4⟩ := hU.2 j n hj z
          have := ih n.u q2 m q1
          rw [q3]; simp; omega
        · have : j = 0 := by omega
          subst this
          rw [hU.1 n hj]; simp
    have h1 := key at0 n0 h0
    have h2 := (List.getElem?_eq_some_iff.1 h0).1
    show _ ≤ _
    omega
  clear h hU
  go_enter Try.func36, Try.ntmps36
  go_wp2_with fail
  go_loopw [1, 5] (fun vs vo wr => ∃ (t : Nat) (n : Nod (Nat × Nat)) (l : List UInt8), vs = .int .i64 t ∧ Q[t]? = some n ∧ wr.ownsRow w.heap.size 5 1 vo l.length (byteCells l) ∧ lB n0.w = lB n.w ++ l.reverse ∧ Below w.heap.size w wr) (fun vs _ _ => (intOf vs).toNat)
  case atStart => exact ⟨at0, n0, [], rfl, h0, World.ownsRow_nil _ _ _ _, by simp, Below.refl _ _⟩
  case round =>
    obtain ⟨t, n, l, rfl, ht, ho, hlw, hb⟩ := hrel
    obtain ⟨va, vc, rfl⟩ := own_shape ho
    have HO : Hid (wr.ownsRow w.heap.size 5 1 (.slice va l.length vc) l.length (byteCells l)) := ho
    have HLW : Hid (lB n0.w = lB n.w ++ l.reverse) := hlw
    have HB : Hid (Below w.heap.size w wr) := hb
    have htQ := (List.getElem?_eq_some_iff.1 ht).1
    have hll : l.length ≤ 4096 := by
      have h1 := congrArg List.length hlw
      have h2 := HL0.out
      simp [lB_len] at h1
      omega
    have hws := hb.size
    by_cases ht0 : t = 0
    · subst ht0
      have HE : Hid (l.reverse = lB n0.w) := by show _ = _; rw [HLW.out, HU.out.1 n ht]; simp [lB]
      clear ho hlw hb
      go_wp2_with fail
      refine (slReverse_any w.heap.size _ l _ HO.out (by omega)).mono ?_
      rintro e w2 ⟨rfl, ho2, hb2⟩
      have hbb : Below w.heap.size w w2 := HB.out.trans hb2
      have hcv := run_string_own w.heap.size (.slice va l.length vc) l.reverse w2 (by rw [List.length_reverse]; exact ho2)
      rw [HE.out] at hcv
      clear ho2 hb2
      go_wp2_with fail
      go_ret
      exact ⟨rfl, hbb⟩
    · obtain ⟨m, m1, m2, m3, m4⟩ := HU.out.2 t n ht (by omega)
      have ht0I : ¬ (t : Int) = 0 := by omega
      have htI : (t : Int) < Q.length := by omega
      obtain ⟨q1, q2⟩ := HQC.out wr hb t n ht
      have hlbe : lb n = 97 + (n.c : Int) := by unfold lb; rw [if_neg (by rw [m3]; simp)]
      obtain ⟨c, hc⟩ : ∃ c, UInt8.ofNat (97 + n.c) = c := ⟨_, rfl⟩
      have hcn : c.toNat = 97 + n.c := by rw [← hc, UInt8.toNat_ofNat']; omega
      have hlc : lb n = (c.toNat : Int) := by rw [hlbe, hcn]; omega
      rw [hlc] at q2
      obtain ⟨u, hu⟩ : ∃ u, n.u = u := ⟨_, rfl⟩
      rw [hu] at q1 m1 m2
      have HNX : Hid (lB n0.w = lB m.w ++ (l ++ [c]).reverse) := by
        show _ = _
        have e : lB [n.c] = [c] := by show [UInt8.ofNat (97 + n.c)] = [c]; rw [hc]
        rw [HLW.out, m3, lB_append, e]
        simp
      have HQU : Hid (Q[t]? = some n ∧ n.u = u) := ⟨ht, hu⟩
      have HM1 : Hid (Q[u]? = some m) := m1
      clear ho hlw hb hc hcn hlbe hlc hu m3 m1 ht
      go_wp2_with (at_builtin; refine wpList_append_own _ rfl _ _ 75 rfl w.heap.size 5 i0 (.int .u8 0) 1 1 Try.underlying75 hi hz0 hz1 hz2 rfl (by decide) _ _ _ rfl (HO.out.alloc _) ⟨wr.heap.size, 0, none⟩ 1 1 [.int .u8 (c.toNat : Int)] rfl rfl (cell_one_new _ _ _) (by intro u hu; simp at hu; subst hu; rfl) (by unfold maxLen; omega) (by omega) (by simp; omega) ?_; intro v9 w9 ho9 hg9 _; have HO9 : Hid (w9.ownsRow w.heap.size 5 1 v9 (l ++ [c]).length (byteCells (l ++ [c]))) := (by show World.ownsRow _ _ _ _ _ _ _; rw [List.length_append]; exact own_snoc ho9); obtain ⟨va9, vc9, rfl⟩ := own_shape ho9; have hb9 : Below w.heap.size w w9 := (HB.out.alloc HB.out.size _).grown hg9 (by simp; omega) (fun g hg => (HO.out.lt g hg).1); have HB9 : Hid (Below w.heap.size w w9) := hb9; have qq := (HQC.out w9 hb9 t n HQU.out.1).1; rw [HQU.out.2] at qq; clear ho9 hg9 hb9)
      go_roundw
      case rel => exact ⟨u, m, l ++ [c], by go_num, HM1.out, HO9.out, HNX.out, HB9.out⟩
      case measure => simp [intOf]; omega
end Go.Proofs.Ythjenemmhlljfab
