/- minim: Level, Classes. -/
import Derived.Test.YtggheiblgghpkaaMh
namespace Go.Proofs.Ytggheiblgghpkaa
open Go Go.RowKit Go.Lib Go.Maps
set_option linter.unusedVariables false
attribute [-instance] instBEqProd

/-- What Level answers. -/
noncomputable def lvE (A : Aut) (n : Int) : Int := if chkA A = 0 then if n < 0 then 11 else 0 else 80
noncomputable def lvL (A : Aut) (n : Int) : List Nat := if lvE A n = 0 then lvl A n.toNat else []
def NQ (L : List Nat) (E : Int) (w : World) (e : Ending) (w' : World) : Prop := ∃ vs, e = .returned (.tuple #[vs, .int .i64 E]) ∧ w'.ownsRow w.heap.size 3 1 vs L.length (nC L) ∧ Below w.heap.size w w'
theorem lvE_ok {A : Aut} (G : Good A) {n : Int} (h : ¬ n < 0) : lvE A n = 0 ∧ lvL A n = lvl A n.toNat := by
  have e : lvE A n = 0 := by unfold lvE; rw [if_pos (chkA_ok G), if_neg h]
  exact ⟨e, by unfold lvL; rw [if_pos e]⟩
theorem lvE_neg {A : Aut} (G : Good A) {n : Int} (h : n < 0) : lvE A n = 11 ∧ lvL A n = [] := by
  have e : lvE A n = 11 := by unfold lvE; rw [if_pos (chkA_ok G), if_pos h]
  exact ⟨e, by unfold lvL; rw [if_neg (by rw [e]; decide)]⟩
theorem lvE_bad {A : Aut} (h : ¬ Good A) (n : Int) : lvE A n = 80 ∧ lvL A n = [] := by
  have e : lvE A n = 80 := by unfold lvE; rw [if_neg (by rw [chkA_no h]; decide)]
  exact ⟨e, by unfold lvL; rw [if_neg (by rw [e]; decide)]⟩

set_option maxHeartbeats 2000000 in
set_option maxRecDepth 100000 in
theorem level_any (v : Value) (A : Aut) (w : World) (h : AR w v A) (hm : A.nx.length ≤ 9223372036854775806) (hm2 : A.ac.length ≤ 9223372036854775806) (n : Int) (hn : n ≤ 9223372036854775807) :
    Calls Try.prog 64 #[v, .int .i64 n] w (NQ (lvL A n) (lvE A n) w) := by
  obtain ⟨an, cn, aa, ca, e, h1, h2⟩ := h.is
  have HAR : Hid (∀ y, Below w.heap.size w y → AR y v A) := fun y hy => h.stay hy
  subst e
  clear h h1 h2
  go_enter Try.func64, Try.ntmps64
  go_wp2_with fail
  refine (acheck_any _ A _ (HAR.out _ (below_new _ _)) hm hm2).mono ?_
  rintro e w1 ⟨rfl, hb1⟩
  have HB1 : Hid (Below w.heap.size w w1) := go_on (below_new _ _) hb1
  have cs := (RowAt.new hb1).cell
  clear hb1
  rcases chkA_cases A with ⟨G, hc⟩ | ⟨G, hc⟩
  · rw [hc]
    have HG : Hid (Good A) := G
    clear hc G
    by_cases h0 : n < 0
    · have HE : Hid (lvE A n = 11 ∧ lvL A n = []) := lvE_neg HG.out h0
      go_wp2_with fail
      go_ret2
      refine ⟨.slice none 0 0, ?_, ?_, HB1.out⟩
      · rw [HE.out.1]; rfl
      · rw [HE.out.2]; exact World.ownsRow_nil _ _ _ _
    · have HE : Hid (lvE A n = 0 ∧ lvL A n = lvl A n.toNat) := lvE_ok HG.out h0
      obtain ⟨k, rfl⟩ : ∃ k : Nat, n = k := ⟨n.toNat, by omega⟩
      have hk : k ≤ 9223372036854775807 := by omega
      go_wp2_with fail
      refine (refined_any _ A _ (HAR.out _ HB1.out) HG.out k hk).mono ?_
      rintro e w2 ⟨g, rfl, ho, hb2⟩
      have HO : Hid (w2.ownsRow w.heap.size 3 1 (.slice (some ⟨g, 0, none⟩) A.ac.length A.ac.length) A.ac.length (nC (lvl A k))) := own_mono ho HB1.out.size
      have HB2 : Hid (Below w.heap.size w w2) := go_on HB1.out hb2
      clear ho hb2 cs
      go_wp2_with fail
      go_ret2
      refine ⟨.slice (some ⟨g, 0, none⟩) A.ac.length A.ac.length, ?_, ?_, HB2.out⟩
      · rw [HE.out.1]; rfl
      · rw [HE.out.2, Int.toNat_natCast, lvl_len]; exact HO.out
  · rw [hc]
    have HE : Hid (lvE A n = 80 ∧ lvL A n = []) := lvE_bad G n
    clear hc
    go_wp2_with fail
    go_ret2
    refine ⟨.slice none 0 0, ?_, ?_, HB1.out⟩
    · rw [HE.out.1]; rfl
    · rw [HE.out.2]; exact World.ownsRow_nil _ _ _ _
noncomputable def clL (A : Aut) : List Nat := if chkA A = 0 then lvl A A.ac.length else []
theorem clL_lv (A : Aut) : lvL A 9223372036854775807 = clL A ∧ lvE A 9223372036854775807 = chkA A := by
  rcases chkA_cases A with ⟨G, hc⟩ | ⟨G, hc⟩
  · obtain ⟨e1, e2⟩ := lvE_ok G (n := 9223372036854775807) (by omega)
    have := G.n2
    refine ⟨?_, by rw [e1, hc]⟩
    rw [e2]
    unfold clL
    rw [if_pos hc]
    exact lvl_end A (by show A.ac.length ≤ 9223372036854775807; omega)
  · obtain ⟨e1, e2⟩ := lvE_bad G 9223372036854775807
    refine ⟨?_, by rw [e1, hc]⟩
    rw [e2]
    unfold clL
    rw [if_neg (by rw [hc]; decide)]

set_option maxHeartbeats 2000000 in
set_option maxRecDepth 100000 in
theorem classes_any (v : Value) (A : Aut) (w : World) (h : AR w v A) (hm : A.nx.length ≤ 9223372036854775806) (hm2 : A.ac.length ≤ 9223372036854775806) :
    Calls Try.prog 49 #[v] w (NQ (clL A) (chkA A) w) := by
  obtain ⟨an, cn, aa, ca, e, h1, h2⟩ := h.is
  have HL : Hid (∀ y, Below w.heap.size w y → Calls Try.prog 64 #[v, .int .i64 9223372036854775807] y (NQ (clL A) (chkA A) y)) := fun y hy => by
    have := level_any v A y (h.stay hy) hm hm2 9223372036854775807 (by omega)
    rwa [(clL_lv A).1, (clL_lv A).2] at this
  subst e
  clear h h1 h2
  go_enter Try.func49, Try.ntmps49
  go_wp2_with fail
  refine (HL.out _ (below_new _ _)).mono ?_
  rintro e w1 ⟨vs, rfl, ho, hb⟩
  have HO : Hid (w1.ownsRow w.heap.size 3 1 vs (clL A).length (nC (clL A))) := own_mono ho (below_new _ _).size
  have HB : Hid (Below w.heap.size w w1) := go_on (below_new _ _) hb
  clear ho hb
  go_wp2_with fail
  go_ret2
  exact ⟨_, rfl, HO.out, HB.out⟩
end Go.Proofs.Ytggheiblgghpkaa
