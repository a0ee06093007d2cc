/- minim: refined, Level, Classes. -/
import Derived.Test.YtggheiblgghpkaaMg
import Derived.WalkMore
namespace Go.Proofs.Ytggheiblgghpkaa
open Go Go.RowKit Go.Lib Go.Maps
set_option linter.unusedVariables false
attribute [-instance] instBEqProd

theorem lvl_lt {A : Aut} (n : Nat) {s : Nat} (hs : s < (lvl A n).length) : (lvl A n).getD s 0 < (lvl A n).length := by
  have c := lvl_cls A n
  rw [c.len] at hs ⊢
  have := c.le s hs
  omega
theorem byL_any (v : Value) (A : Aut) (w : World) (h : AR w v A) (G : Good A) (a : Option Addr) (cap i : Nat) (hL : SR w a (nC (lvl A i))) :
    Calls Try.prog 74 #[v, .slice a A.ac.length cap] w fun e w' => ∃ g, e = .returned (.slice (some ⟨g, 0, none⟩) A.ac.length A.ac.length) ∧ w'.ownsRow w.heap.size 3 1 (.slice (some ⟨g, 0, none⟩) A.ac.length A.ac.length) A.ac.length (nC (lvl A (i + 1))) ∧ Below w.heap.size w w' := by
  have := byLetters_any v A w h G a cap (lvl A i) hL (lvl_len A i) (fun s hs => lvl_lt i hs)
  rw [lvl_len] at this
  exact this
theorem nC_at {l : List Nat} {i : Nat} (h : i < l.length) : (nC l)[i]? = some (.int .i64 (l.getD i 0 : Nat)) := by simp [nC, List.getD_eq_getElem?_getD, h]
theorem list_eq_of {l m : List Nat} (h : l.length = m.length) (h2 : ∀ i, i < l.length → l.getD i 0 = m.getD i 0) : l = m := by
  apply List.ext_getElem?
  intro i
  by_cases hi : i < l.length
  · have e := h2 i hi
    rw [List.getD_eq_getElem?_getD, List.getD_eq_getElem?_getD, List.getElem?_eq_getElem hi, List.getElem?_eq_getElem (by omega)] at e
    rw [List.getElem?_eq_getElem hi, List.getElem?_eq_getElem (by omega)]
    exact congrArg some e
  · rw [List.getElem?_eq_none (by omega), List.getElem?_eq_none (by omega)]

set_option maxHeartbeats 4000000 in
set_option maxRecDepth 100000 in
theorem refined_any (v : Value) (A : Aut) (w : World) (h : AR w v A) (G : Good A) (n : Nat) (hn : n ≤ 9223372036854775807) :
    Calls Try.prog 71 #[v, .int .i64 n] w fun e w' => ∃ g, e = .returned (.slice (some ⟨g, 0, none⟩) A.ac.length A.ac.length) ∧ w'.ownsRow w.heap.size 3 1 (.slice (some ⟨g, 0, none⟩) A.ac.length A.ac.length) A.ac.length (nC (lvl A n)) ∧ Below w.heap.size w w' := by
  obtain ⟨an, cn, aa, ca, e, h1, h2⟩ := h.is
  have hn2 := G.n2
  have HAR : Hid (∀ y, Below w.heap.size w y → AR y v A) := fun y hy => h.stay hy
  have HG : Hid (Good A) := G
  subst e
  clear h h1 h2 G
  go_enter Try.func71, Try.ntmps71
  go_wp2_with fail
  go_step3
  go_wp2_with fail
  refine (byAccept_any _ A _ (HAR.out _ (below_new _ _)) HG.out).mono ?_
  rintro e w1 ⟨g1, rfl, ho1, hb1⟩
  have HO0 : Hid (RowAt w1 w.heap.size #[.int .i64 A.k, .slice an A.nx.length cn, .slice aa A.ac.length ca] ∧ w1.ownsRow w.heap.size 3 1 (.slice (some ⟨g1, 0, none⟩) A.ac.length A.ac.length) A.ac.length (nC (lvl A 0)) ∧ Below w.heap.size w w1) := ⟨RowAt.new hb1, own_mono ho1 (by simp), go_on (below_new _ _) hb1⟩
  clear ho1 hb1
  go_wp2_with fail
  go_step3
  go_wp2_with fail
  go_loopw [11, 5] (fun vi vc wr => ∃ (i g : Nat), vi = .int .i64 i ∧ vc = (.slice (some ⟨g, 0, none⟩) A.ac.length A.ac.length) ∧ i ≤ n ∧ RowAt wr w.heap.size #[.int .i64 A.k, .slice an A.nx.length cn, .slice aa A.ac.length ca] ∧ wr.ownsRow w.heap.size 3 1 (.slice (some ⟨g, 0, none⟩) A.ac.length A.ac.length) A.ac.length (nC (lvl A i)) ∧ Below w.heap.size w wr) (fun vi _ _ => n - (intOf vi).toNat)
  case atStart => exact ⟨0, g1, rfl, rfl, Nat.zero_le _, HO0.out⟩
  case round =>
    clear HO0
    obtain ⟨i, g, rfl, rfl, hin, q1, q2, q3⟩ := hrel
    have HB : Hid (Below w.heap.size w wr) := q3
    have HQ : Hid (wr.ownsRow w.heap.size 3 1 (.slice (some ⟨g, 0, none⟩) A.ac.length A.ac.length) A.ac.length (nC (lvl A i))) := q2
    have HR : Hid (RowAt wr w.heap.size #[.int .i64 A.k, .slice an A.nx.length cn, .slice aa A.ac.length ca]) := q1
    have cs := q1.cell
    clear q1 q2 q3
    by_cases hlt : i < n
    · have hiI : (i : Int) < n := by omega
      go_wp2_with fail
      refine (byL_any _ A _ (HAR.out _ HB.out) HG.out _ _ i (own_sr HQ.out)).mono ?_
      rintro e w2 ⟨g2, rfl, ho2, hb2⟩
      have HQ2 : Hid (w2.ownsRow w.heap.size 3 1 (.slice (some ⟨g2, 0, none⟩) A.ac.length A.ac.length) A.ac.length (nC (lvl A (i + 1)))) := own_mono ho2 HB.out.size
      have HQ1 : Hid (w2.ownsRow w.heap.size 3 1 (.slice (some ⟨g, 0, none⟩) A.ac.length A.ac.length) A.ac.length (nC (lvl A i))) := own_below HQ.out hb2
      have HB2 : Hid (Below w.heap.size w w2) := go_on HB.out hb2
      have HR2 : Hid (RowAt w2 w.heap.size #[.int .i64 A.k, .slice an A.nx.length cn, .slice aa A.ac.length ca]) := HR.out.stay hb2
      clear ho2 hb2 cs HB HQ HR
      go_wp2_with fail
      go_loopw [18, 5] (fun vs vc wr => ∃ s : Nat, vs = .int .i64 s ∧ vc = (.slice (some ⟨g, 0, none⟩) A.ac.length A.ac.length) ∧ s ≤ A.ac.length ∧ (∀ t, t < s → (lvl A (i + 1)).getD t 0 = (lvl A i).getD t 0) ∧ w2.drewN 0 = w2 ∧ ∃ q, wr = w2.drewN q) (fun vs _ _ => A.ac.length - (intOf vs).toNat)
      case atStart => exact ⟨0, rfl, rfl, Nat.zero_le _, fun t ht => by omega, rfl, 0, rfl⟩
      case round =>
        obtain ⟨s, rfl, rfl, hsn, hall, _, q, rfl⟩ := hrel
        have HALL : Hid (∀ t, t < s → (lvl A (i + 1)).getD t 0 = (lvl A i).getD t 0) := hall
        clear hall
        by_cases hs : s < A.ac.length
        · have hsI : (s : Int) < A.ac.length := by omega
          have c1 := (HQ1.out.cellAt s (by omega)).trans (nC_at (l := lvl A i) (by rw [lvl_len]; exact hs))
          have c2 := (HQ2.out.cellAt s (by omega)).trans (nC_at (l := lvl A (i + 1)) (by rw [lvl_len]; exact hs))
          obtain ⟨x, hx⟩ : ∃ x, (lvl A i).getD s 0 = x := ⟨_, rfl⟩
          obtain ⟨y, hy⟩ : ∃ y, (lvl A (i + 1)).getD s 0 = y := ⟨_, rfl⟩
          rw [hx] at c1
          rw [hy] at c2
          have S0 : (w2.drewN q).drew.cell? ⟨g, s, none⟩ = some (.int .i64 (x : Int)) ∧ (w2.drewN q).drew.cell? ⟨g2, s, none⟩ = some (.int .i64 (y : Int)) := ⟨c1, c2⟩
          have HXY : Hid ((lvl A i).getD s 0 = x ∧ (lvl A (i + 1)).getD s 0 = y) := ⟨hx, hy⟩
          clear c1 c2 hx hy
          by_cases e : y = x
          · subst e
            go_wp2_with fail
            go_region_held3 (fun z => z.cell? ⟨g, s, none⟩ = some (.int .i64 (y : Int)) ∧ z.cell? ⟨g2, s, none⟩ = some (.int .i64 (y : Int))) (first | exact S0 | assumption) (fail)
            go_wp2_with fail
            go_roundw
            case rel =>
              refine ⟨s + 1, by go_num, rfl, by omega, fun t ht => ?_, rfl, q + 1, rfl⟩
              by_cases et : t = s
              · rw [et, HXY.out.1, HXY.out.2]
              · exact HALL.out t (by omega)
            case measure => simp [intOf]; omega
          · have eI : ¬ (y : Int) = x := by omega
            have hd : decide ((y : Int) = x) = false := decide_eq_false eI
            go_wp2_with fail
            go_region_held3 (fun z => z.cell? ⟨g, s, none⟩ = some (.int .i64 (x : Int)) ∧ z.cell? ⟨g2, s, none⟩ = some (.int .i64 (y : Int))) (first | exact S0 | assumption) (fail)
            go_wp2_with fail
            go_roundw
            case rel => exact ⟨i + 1, g2, by go_num, rfl, by omega, ⟨HR2.out.lt, HR2.out.cell⟩, HQ2.out, below_drewN HB2.out _⟩
            case measure => simp [intOf]; omega
        · have hsI : ¬ (s : Int) < A.ac.length := by omega
          have HST : Hid (lvl A n = lvl A i) := by
            show _ = _
            refine lvl_stable' A (list_eq_of (by rw [lvl_len, lvl_len]) fun t ht => ?_) (by omega)
            rw [lvl_len] at ht
            exact HALL.out t (by omega)
          go_wp2_with fail
          go_ret
          refine ⟨g, rfl, ?_, below_drewN HB2.out _⟩
          rw [HST.out]
          exact HQ1.out
    · have hiI : ¬ (i : Int) < n := by omega
      have HE : Hid (i = n) := by show _ = _; omega
      go_wp2_with fail
      go_ret
      refine ⟨g, rfl, ?_, HB.out⟩
      rw [← HE.out]
      exact HQ.out
end Go.Proofs.Ytggheiblgghpkaa
