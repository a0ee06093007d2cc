/- The document's Same. -/
import Derived.Test.YthjenemmhlljfaaMw
import Derived.Test.YthjenemmhlljfaaMv
namespace Go.Proofs.Ythjenemmhlljfaa
open Go Go.RowKit Go.Lib
set_option linter.unusedVariables false

/-- What Same answers. -/
def smV (A B : Aut) : Bool := decide (A.k = B.k ∧ A.nx = B.nx ∧ A.ac = B.ac)
theorem list_eq_ofB {l m : List Bool} (h : l.length = m.length) (h2 : ∀ i, i < l.length → l.getD i false = m.getD i false) : l = m := by
  apply List.ext_getElem?
  intro i
  by_cases hi : i < l.length
  · have e := h2 i hi
    rw [List.getD_eq_getElem?_getD, List.getD_eq_getElem?_getD, List.getElem?_eq_getElem hi, List.getElem?_eq_getElem (by omega)] at e
    rw [List.getElem?_eq_getElem hi, List.getElem?_eq_getElem (by omega)]
    exact congrArg some e
  · rw [List.getElem?_eq_none (by omega), List.getElem?_eq_none (by omega)]

set_option maxHeartbeats 4000000 in
set_option maxRecDepth 100000 in
theorem rSame_any (u v : Value) (A B : Aut) (w : World) (hu : AR w u A) (hv : AR w v B) (hm : A.nx.length ≤ 9223372036854775806) (hm2 : A.ac.length ≤ 9223372036854775806) (gm : B.nx.length ≤ 9223372036854775806) (gm2 : B.ac.length ≤ 9223372036854775806) :
    Calls Try.prog 40 #[u, v] w fun e w' => e = .returned (.bool (smV A B)) ∧ Below w.heap.size w w' := by
  obtain ⟨an, cn, aa, ca, rfl, h1, h2⟩ := hu.is
  obtain ⟨bn, dn, ba, da, rfl, k1, k2⟩ := hv.is
  have HBW : Hid (∀ O O', Below w.heap.size w ((w.alloc O).alloc O')) := fun O O' => go_on (below_new _ _) (below_new _ _)
  by_cases c0 : A.k = B.k ∧ A.nx.length = B.nx.length ∧ A.ac.length = B.ac.length
  case neg =>
    have HF : Hid (smV A B = false) := decide_eq_false fun q => c0 ⟨q.1, by rw [q.2.1], by rw [q.2.2]⟩
    have H3 : ¬ A.k = B.k ∨ (A.k = B.k ∧ ¬ (A.nx.length : Int) = B.nx.length) ∨ (A.k = B.k ∧ (A.nx.length : Int) = B.nx.length ∧ ¬ (A.ac.length : Int) = B.ac.length) := by omega
    clear hu hv h1 h2 k1 k2 c0
    rcases H3 with q | ⟨q, q1⟩ | ⟨q, q1, q2⟩
    · have d := decide_eq_false q
      go_enter Try.func40, Try.ntmps40
      go_wp2_with fail
      go_ret
      exact ⟨by rw [HF.out]; rfl, HBW.out _ _⟩
    · have d := decide_eq_true q
      have d1 := decide_eq_false q1
      go_enter Try.func40, Try.ntmps40
      go_wp2_with fail
      go_ret
      exact ⟨by rw [HF.out]; rfl, HBW.out _ _⟩
    · have d := decide_eq_true q
      have d1 := decide_eq_true q1
      have d2 := decide_eq_false q2
      go_enter Try.func40, Try.ntmps40
      go_wp2_with fail
      go_ret
      exact ⟨by rw [HF.out]; rfl, HBW.out _ _⟩
  case pos =>
    obtain ⟨e0, e1, e2⟩ := c0
    obtain ⟨n, hn⟩ : ∃ n, A.nx.length = n := ⟨_, rfl⟩
    obtain ⟨m, hmm⟩ : ∃ m, A.ac.length = m := ⟨_, rfl⟩
    obtain ⟨k, hk⟩ : ∃ k, A.k = k := ⟨_, rfl⟩
    have HX : Hid (A.nx.length = n ∧ B.nx.length = n ∧ A.ac.length = m ∧ B.ac.length = m ∧ A.k = B.k) := ⟨hn, by omega, hmm, by omega, e0⟩
    have HSA : Hid (∀ y, Below w.heap.size w y → Calls Try.prog 36 #[.slice an n cn, .slice bn n dn] y fun e w' => e = .returned (.bool (decide (A.nx = B.nx))) ∧ Below y.heap.size y w') := fun y hy => rsameI_any an bn cn dn n A.nx B.nx y (h1.stay hy) (k1.stay hy) hn (by omega) (by omega)
    have H2 : Hid (SR w aa (bC A.ac)) := h2
    have K2 : Hid (SR w ba (bC B.ac)) := k2
    rw [← e0, ← e1, ← e2, hn, hmm, hk]
    rw [hn] at hm
    rw [hmm] at hm2
    clear gm gm2 e0 e1 e2 hn hmm hk
    have R1 : RowAt (w.alloc (.cells #[.int .i64 k, .slice an n cn, .slice aa m ca] 25)) w.heap.size #[.int .i64 k, .slice an n cn, .slice aa m ca] := RowAt.last _ _ _
    have R2 := R1.alloc (.cells #[.int .i64 k, .slice bn n dn, .slice ba m da] 25)
    have R3 := RowAt.last (w.alloc (.cells #[.int .i64 k, .slice an n cn, .slice aa m ca] 25)) #[.int .i64 k, .slice bn n dn, .slice ba m da] 25
    rw [World.size_alloc] at R3
    obtain ⟨y1, hy1⟩ : ∃ y1, ((w.alloc (.cells #[.int .i64 k, .slice an n cn, .slice aa m ca] 25)).alloc (.cells #[.int .i64 k, .slice bn n dn, .slice ba m da] 25)) = y1 := ⟨_, rfl⟩
    have HA1 : Hid (RowAt y1 w.heap.size #[.int .i64 k, .slice an n cn, .slice aa m ca]) := by rw [← hy1]; exact R2
    have HA2 : Hid (RowAt y1 (w.heap.size + 1) #[.int .i64 k, .slice bn n dn, .slice ba m da]) := by rw [← hy1]; exact R3
    have HY : Hid (Below w.heap.size w y1) := by rw [← hy1]; exact HBW.out _ _
    have HYE : Hid (((w.alloc (.cells #[.int .i64 k, .slice an n cn, .slice aa m ca] 25)).alloc (.cells #[.int .i64 k, .slice bn n dn, .slice ba m da] 25)) = y1) := hy1
    clear hu hv h1 h2 k1 k2 R1 R2 R3 hy1
    go_enter Try.func40, Try.ntmps40
    go_wp2_with fail
    go_loopw [5] (fun vi wr => ∃ i : Nat, vi = .int .i64 i ∧ i ≤ m ∧ (∀ t, t < i → A.ac.getD t false = B.ac.getD t false) ∧ Below y1.heap.size y1 wr) (fun vi _ => m - (intOf vi).toNat)
    case atStart => exact ⟨0, rfl, Nat.zero_le _, fun t ht => by omega, by rw [← HYE.out]; exact Below.refl _ _⟩
    case round =>
      obtain ⟨i, rfl, hi, hall, hb⟩ := hrel
      have HALL : Hid (∀ t, t < i → A.ac.getD t false = B.ac.getD t false) := hall
      clear hall
      have HB : Hid (Below y1.heap.size y1 wr) := hb
      have cs1 := (HA1.out.stay hb).cell
      have cs2 := (HA2.out.stay hb).cell
      have hbw : Below w.heap.size w wr := go_on HY.out hb
      by_cases hlt : i < m
      · have hiI : (i : Int) < m := by omega
        obtain ⟨ga, oa, rfl, _, c1⟩ := (H2.out.stay hbw).bool (i := i) (by rw [HX.out.2.2.1]; exact hlt)
        obtain ⟨gb, ob, rfl, _, c2⟩ := (K2.out.stay hbw).bool (i := i) (by rw [HX.out.2.2.2.1]; exact hlt)
        obtain ⟨x, hx⟩ : ∃ x, A.ac.getD i false = x := ⟨_, rfl⟩
        obtain ⟨y, hy⟩ : ∃ y, B.ac.getD i false = y := ⟨_, rfl⟩
        rw [hx] at c1
        rw [hy] at c2
        have HXY : Hid (A.ac.getD i false = x ∧ B.ac.getD i false = y) := ⟨hx, hy⟩
        have HF : ¬ x = y → Hid (smV A B = false) := fun e => decide_eq_false fun q => e (by rw [← HXY.out.1, ← HXY.out.2, q.2.2])
        have HE : Hid (∀ z, wr.drew = z → Below w.heap.size w z) := fun z hz => by rw [← hz]; exact go_on HY.out HB.out.drew
        have S0 : (∀ o, wr.drew.cell? ⟨w.heap.size, o, none⟩ = (#[.int .i64 k, .slice an n cn, .slice (some ⟨ga, oa, none⟩) m ca] : Array Value)[o]?) ∧ (∀ o, wr.drew.cell? ⟨w.heap.size + 1, o, none⟩ = (#[.int .i64 k, .slice bn n dn, .slice (some ⟨gb, ob, none⟩) m da] : Array Value)[o]?) ∧ wr.drew.cell? ⟨ga, oa + i, none⟩ = some (.bool x) ∧ wr.drew.cell? ⟨gb, ob + i, none⟩ = some (.bool y) := ⟨cs1, cs2, c1, c2⟩
        clear hx hy hb hbw
        by_cases e : x = y
        · clear HF
          subst e
          go_wp2_with fail
          clear cs1 cs2 c1 c2
          go_region_held3 (fun y => (∀ o, y.cell? ⟨w.heap.size, o, none⟩ = (#[.int .i64 k, .slice an n cn, .slice (some ⟨ga, oa, none⟩) m ca] : Array Value)[o]?) ∧ (∀ o, y.cell? ⟨w.heap.size + 1, o, none⟩ = (#[.int .i64 k, .slice bn n dn, .slice (some ⟨gb, ob, none⟩) m da] : Array Value)[o]?) ∧ y.cell? ⟨ga, oa + i, none⟩ = some (.bool x) ∧ y.cell? ⟨gb, ob + i, none⟩ = some (.bool x)) (first | exact S0 | assumption) (fail)
          all_goals (
            clear S0
            go_wp2_with fail
            go_roundw
            case rel =>
              refine ⟨i + 1, by go_num, by omega, fun t ht => ?_, HB.out.drew⟩
              by_cases et : t = i
              · rw [et, HXY.out.1, HXY.out.2]
              · exact HALL.out t (by omega)
            case measure => simp [intOf]; omega)
        · have HF1 := HF e
          clear HF
          cases x <;> cases y <;> first | exact absurd rfl e | skip
          all_goals (
            clear e
            go_wp2_with fail
            clear cs1 cs2 c1 c2)
          · go_region_held3 (fun y => (∀ o, y.cell? ⟨w.heap.size, o, none⟩ = (#[.int .i64 k, .slice an n cn, .slice (some ⟨ga, oa, none⟩) m ca] : Array Value)[o]?) ∧ (∀ o, y.cell? ⟨w.heap.size + 1, o, none⟩ = (#[.int .i64 k, .slice bn n dn, .slice (some ⟨gb, ob, none⟩) m da] : Array Value)[o]?) ∧ y.cell? ⟨ga, oa + i, none⟩ = some (.bool false) ∧ y.cell? ⟨gb, ob + i, none⟩ = some (.bool true)) (first | exact S0 | assumption) (fail)
            all_goals (
              clear S0
              go_wp2_with fail
              go_ret
              exact ⟨by rw [HF1.out]; rfl, HE.out _ rfl⟩)
          · go_region_held3 (fun y => (∀ o, y.cell? ⟨w.heap.size, o, none⟩ = (#[.int .i64 k, .slice an n cn, .slice (some ⟨ga, oa, none⟩) m ca] : Array Value)[o]?) ∧ (∀ o, y.cell? ⟨w.heap.size + 1, o, none⟩ = (#[.int .i64 k, .slice bn n dn, .slice (some ⟨gb, ob, none⟩) m da] : Array Value)[o]?) ∧ y.cell? ⟨ga, oa + i, none⟩ = some (.bool true) ∧ y.cell? ⟨gb, ob + i, none⟩ = some (.bool false)) (first | exact S0 | assumption) (fail)
            all_goals (
              clear S0
              go_wp2_with fail
              go_ret
              exact ⟨by rw [HF1.out]; rfl, HE.out _ rfl⟩)
      · have hiI : ¬ (i : Int) < m := by omega
        have HT : Hid (decide (A.nx = B.nx) = smV A B) := by
          have e := list_eq_ofB (l := A.ac) (m := B.ac) (by rw [HX.out.2.2.1, HX.out.2.2.2.1]) (fun t ht => HALL.out t (by have := HX.out.2.2.1; omega))
          show _ = decide _
          exact decide_eq_decide.mpr ⟨fun q => ⟨HX.out.2.2.2.2, q, e⟩, fun q => q.2.1⟩
        have HBW2 : Hid (Below w.heap.size w wr) := hbw
        clear hb hbw
        go_wp2_with (first
          | (go_at_call 36; refine (HSA.out _ HBW2.out).mono ?_; rintro e y2 ⟨rfl, hy2⟩))
        go_ret
        exact ⟨by rw [← HT.out]; rfl, go_on HBW2.out hy2⟩
end Go.Proofs.Ythjenemmhlljfaa
