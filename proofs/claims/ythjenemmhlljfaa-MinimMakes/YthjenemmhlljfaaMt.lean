/- The document's Level and Classes. -/
import Derived.Test.YthjenemmhlljfaaMs
namespace Go.Proofs.Ythjenemmhlljfaa
open Go Go.RowKit Go.Lib
set_option linter.unusedVariables false
attribute [-instance] instBEqProd

theorem rnd_any (v : Value) (A : Aut) (w : World) (h : AR w v A) (G : Good A) (a : Option Addr) (cap i : Nat) (hL : SR w a (nC (lvl A i))) :
    Calls Try.prog 35 #[v, .slice a A.ac.length cap] w fun e w' => ∃ g, e = .returned (.slice (some ⟨g, 0, none⟩) A.ac.length A.ac.length) ∧ w'.ownsRow w.heap.size 3 1 (.slice (some ⟨g, 0, none⟩) A.ac.length A.ac.length) A.ac.length (nC (lvl A (i + 1))) ∧ Below w.heap.size w w' :=
  rround_any v A w h G a cap (lvl A i) hL (lvl_len A i)

set_option maxHeartbeats 4000000 in
set_option maxRecDepth 100000 in
theorem rlevel_any (v : Value) (A : Aut) (w : World) (h : AR w v A) (hm : A.nx.length ≤ 9223372036854775806) (hm2 : A.ac.length ≤ 9223372036854775806) (n : Int) (hn : n ≤ 9223372036854775807) :
    Calls Try.prog 13 #[v, .int .i64 n] w (NQ (lvL A n) (lvE A n) w) := by
  obtain ⟨an, cn, aa, ca, e, h1, h2⟩ := h.is
  have HAR : Hid (∀ y, Below w.heap.size w y → AR y v A) := fun y hy => h.stay hy
  subst e
  clear h h1 h2
  go_enter Try.func13, Try.ntmps13
  go_wp2_with fail
  refine (racheck_any _ A _ (HAR.out _ (below_new _ _)) hm hm2).mono ?_
  rintro e w1 ⟨rfl, hb1⟩
  have HB1 : Hid (Below w.heap.size w w1) := go_on (below_new _ _) hb1
  have HR1 : Hid (RowAt w1 w.heap.size #[.int .i64 A.k, .slice an A.nx.length cn, .slice aa A.ac.length ca]) := RowAt.new hb1
  have cs := HR1.out.cell
  clear hb1
  rcases chkA_cases A with ⟨G, hc⟩ | ⟨G, hc⟩
  · rw [hc]
    have HG : Hid (Good A) := G
    have hn2 := G.n2
    clear hc G
    by_cases h0 : n < 0
    · have HE : Hid (lvE A n = 11 ∧ lvL A n = []) := lvE_neg HG.out h0
      go_wp2_with fail
      go_ret2
      refine ⟨.slice none 0 0, ?_, ?_, HB1.out⟩
      · rw [HE.out.1]; rfl
      · rw [HE.out.2]; exact World.ownsRow_nil _ _ _ _
    · have HE : Hid (lvE A n = 0 ∧ lvL A n = lvl A n.toNat) := lvE_ok HG.out h0
      obtain ⟨k, rfl⟩ : ∃ k : Nat, n = k := ⟨n.toNat, by omega⟩
      have hk : k ≤ 9223372036854775807 := by omega
      go_wp2_with fail
      refine (rfirst_any _ A _ (HAR.out _ HB1.out) HG.out).mono ?_
      rintro e w2 ⟨g, rfl, ho, hb2⟩
      have HO0 : Hid (RowAt w2 w.heap.size #[.int .i64 A.k, .slice an A.nx.length cn, .slice aa A.ac.length ca] ∧ w2.ownsRow w.heap.size 3 1 (.slice (some ⟨g, 0, none⟩) A.ac.length A.ac.length) A.ac.length (nC (lvl A 0)) ∧ Below w.heap.size w w2) := ⟨HR1.out.stay hb2, own_mono ho HB1.out.size, go_on HB1.out hb2⟩
      clear ho hb2 cs
      go_wp2_with fail
      go_loopw [8, 7] (fun vi vc wr => ∃ (i g : Nat), vi = .int .i64 i ∧ vc = (.slice (some ⟨g, 0, none⟩) A.ac.length A.ac.length) ∧ i ≤ k ∧ RowAt wr w.heap.size #[.int .i64 A.k, .slice an A.nx.length cn, .slice aa A.ac.length ca] ∧ wr.ownsRow w.heap.size 3 1 (.slice (some ⟨g, 0, none⟩) A.ac.length A.ac.length) A.ac.length (nC (lvl A i)) ∧ Below w.heap.size w wr) (fun vi _ _ => k - (intOf vi).toNat)
      case atStart => exact ⟨0, g, rfl, rfl, Nat.zero_le _, HO0.out⟩
      case round =>
        clear HO0
        obtain ⟨i, g, rfl, rfl, hin, q1, q2, q3⟩ := hrel
        have HB : Hid (Below w.heap.size w wr) := q3
        have HQ : Hid (wr.ownsRow w.heap.size 3 1 (.slice (some ⟨g, 0, none⟩) A.ac.length A.ac.length) A.ac.length (nC (lvl A i))) := q2
        have HR : Hid (RowAt wr w.heap.size #[.int .i64 A.k, .slice an A.nx.length cn, .slice aa A.ac.length ca]) := q1
        have cs := q1.cell
        clear q1 q2 q3
        by_cases hlt : i < k
        · have hiI : (i : Int) < k := by omega
          go_wp2_with fail
          refine (rnd_any _ A _ (HAR.out _ HB.out) HG.out _ _ i (own_sr HQ.out)).mono ?_
          rintro e w3 ⟨g2, rfl, ho2, hb2⟩
          have HQ2 : Hid (w3.ownsRow w.heap.size 3 1 (.slice (some ⟨g2, 0, none⟩) A.ac.length A.ac.length) A.ac.length (nC (lvl A (i + 1)))) := own_mono ho2 HB.out.size
          have HQ1 : Hid (w3.ownsRow w.heap.size 3 1 (.slice (some ⟨g, 0, none⟩) A.ac.length A.ac.length) A.ac.length (nC (lvl A i))) := own_below HQ.out hb2
          have HB2 : Hid (Below w.heap.size w w3) := go_on HB.out hb2
          have HR2 : Hid (RowAt w3 w.heap.size #[.int .i64 A.k, .slice an A.nx.length cn, .slice aa A.ac.length ca]) := HR.out.stay hb2
          clear ho2 hb2 cs HB HQ HR
          have HSM : Hid (Calls Try.prog 36 #[(.slice (some ⟨g, 0, none⟩) A.ac.length A.ac.length), (.slice (some ⟨g2, 0, none⟩) A.ac.length A.ac.length)] w3 fun e w' => e = .returned (.bool (decide (lvl A i = lvl A (i + 1)))) ∧ Below w3.heap.size w3 w') := rsame_any _ _ _ _ A.ac.length (lvl A i) (lvl A (i + 1)) w3 (own_sr HQ1.out) (own_sr HQ2.out) (lvl_len A i) (lvl_len A _) hn2
          by_cases he : lvl A i = lvl A (i + 1)
          · rw [decide_eq_true he] at HSM
            have HST : Hid (lvl A k = lvl A i) := lvl_stable' A he.symm (by omega)
            clear he
            go_wp2_with fail
            refine HSM.out.mono ?_
            rintro e w4 ⟨rfl, hb4⟩
            have HQ4 : Hid (w4.ownsRow w.heap.size 3 1 (.slice (some ⟨g, 0, none⟩) A.ac.length A.ac.length) A.ac.length (nC (lvl A i))) := own_below HQ1.out hb4
            have HB4 : Hid (Below w.heap.size w w4) := go_on HB2.out hb4
            clear hb4
            go_wp2_with fail
            go_ret2
            refine ⟨(.slice (some ⟨g, 0, none⟩) A.ac.length A.ac.length), ?_, ?_, HB4.out⟩
            · rw [HE.out.1]; rfl
            · rw [HE.out.2, Int.toNat_natCast, lvl_len, HST.out]; exact HQ4.out
          · rw [decide_eq_false he] at HSM
            clear he
            go_wp2_with fail
            refine HSM.out.mono ?_
            rintro e w4 ⟨rfl, hb4⟩
            have HQ4 : Hid (w4.ownsRow w.heap.size 3 1 (.slice (some ⟨g2, 0, none⟩) A.ac.length A.ac.length) A.ac.length (nC (lvl A (i + 1)))) := own_below HQ2.out hb4
            have HB4 : Hid (Below w.heap.size w w4) := go_on HB2.out hb4
            have HR4 : Hid (RowAt w4 w.heap.size #[.int .i64 A.k, .slice an A.nx.length cn, .slice aa A.ac.length ca]) := HR2.out.stay hb4
            clear hb4
            go_wp2_with fail
            go_roundw
            case rel => exact ⟨i + 1, g2, by go_num, rfl, by omega, HR4.out, HQ4.out, HB4.out⟩
            case measure => simp [intOf]; omega
        · have hiI : ¬ (i : Int) < k := by omega
          have HEQ : Hid (i = k) := by show _ = _; omega
          go_wp2_with fail
          go_ret2
          refine ⟨(.slice (some ⟨g, 0, none⟩) A.ac.length A.ac.length), ?_, ?_, HB.out⟩
          · rw [HE.out.1]; rfl
          · rw [HE.out.2, Int.toNat_natCast, lvl_len, ← HEQ.out]; exact HQ.out
  · rw [hc]
    have HE : Hid (lvE A n = 80 ∧ lvL A n = []) := lvE_bad G n
    clear hc
    go_wp2_with fail
    go_ret2
    refine ⟨.slice none 0 0, ?_, ?_, HB1.out⟩
    · rw [HE.out.1]; rfl
    · rw [HE.out.2]; exact World.ownsRow_nil _ _ _ _

set_option maxHeartbeats 2000000 in
set_option maxRecDepth 100000 in
theorem rclasses_any (v : Value) (A : Aut) (w : World) (h : AR w v A) (hm : A.nx.length ≤ 9223372036854775806) (hm2 : A.ac.length ≤ 9223372036854775806) :
    Calls Try.prog 11 #[v] w (NQ (clL A) (chkA A) w) := by
  obtain ⟨an, cn, aa, ca, e, h1, h2⟩ := h.is
  have HL : Hid (∀ y, Below w.heap.size w y → Calls Try.prog 13 #[v, .int .i64 (A.ac.length : Int)] y (NQ (clL A) (chkA A) y)) := fun y hy => by
    have := rlevel_any v A y (h.stay hy) hm hm2 (A.ac.length : Int) (by omega)
    have e : lvL A (A.ac.length : Int) = clL A ∧ lvE A (A.ac.length : Int) = chkA A := by
      rcases chkA_cases A with ⟨G, hc⟩ | ⟨G, hc⟩
      · obtain ⟨e1, e2⟩ := lvE_ok G (n := (A.ac.length : Int)) (by omega)
        refine ⟨?_, by rw [e1, hc]⟩
        rw [e2, Int.toNat_natCast]
        unfold clL
        rw [if_pos hc]
      · obtain ⟨e1, e2⟩ := lvE_bad G (A.ac.length : Int)
        refine ⟨?_, by rw [e1, hc]⟩
        rw [e2]
        unfold clL
        rw [if_neg (by rw [hc]; decide)]
    rwa [e.1, e.2] at this
  subst e
  clear h h1 h2
  go_enter Try.func11, Try.ntmps11
  go_wp2_with fail
  refine (HL.out _ (below_new _ _)).mono ?_
  rintro e w1 ⟨vs, rfl, ho, hb⟩
  have HO : Hid (w1.ownsRow w.heap.size 3 1 vs (clL A).length (nC (clL A))) := own_mono ho (below_new _ _).size
  have HB : Hid (Below w.heap.size w w1) := go_on (below_new _ _) hb
  clear ho hb
  go_wp2_with fail
  go_ret2
  exact ⟨_, rfl, HO.out, HB.out⟩
end Go.Proofs.Ythjenemmhlljfaa
