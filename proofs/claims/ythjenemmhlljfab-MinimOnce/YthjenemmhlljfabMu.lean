/- The laws' SameAuto (as in Qf, for a seat that has no Reach of the document); slices.Equal of ints and of bools. -/
import Derived.Test.YthjenemmhlljfabMp
import Derived.Test.YthjenemmhlljfabJt
import Derived.Deep.RegionHeld3
namespace Go.Proofs.Ythjenemmhlljfab
open Go Go.RowKit Go.Lib
set_option linter.unusedVariables false

set_option maxHeartbeats 4000000 in
set_option maxRecDepth 100000 in
theorem sameAuto_any (u v : Value) (A : Aut) (w : World) (hu : AR w u A) (hv : AR w v A) (hm : A.nx.length ≤ 9223372036854775806) (hm2 : A.ac.length ≤ 9223372036854775806) :
    Calls Try.prog 10 #[u, v] w fun e w' => e = .returned (.bool true) ∧ Below w.heap.size w w' := by
  obtain ⟨an, cn, aa, ca, rfl, h1, h2⟩ := hu.is
  obtain ⟨bn, dn, ba, da, rfl, k1, k2⟩ := hv.is
  have HSA : Hid (∀ y, Below w.heap.size w y → Calls Try.prog 11 #[.slice an A.nx.length cn, .slice bn A.nx.length dn] y fun e w' => e = .returned (.bool true) ∧ Below y.heap.size y w') := fun y hy => same_any an bn cn dn A.nx y (h1.stay hy) (k1.stay hy) hm
  have H2 : Hid (SR w aa (bC A.ac)) := h2
  have K2 : Hid (SR w ba (bC A.ac)) := k2
  have R1 : RowAt (w.alloc (.cells #[.int .i64 A.k, .slice an A.nx.length cn, .slice aa A.ac.length ca] 25)) w.heap.size #[.int .i64 A.k, .slice an A.nx.length cn, .slice aa A.ac.length ca] := RowAt.last _ _ _
  have R2 := R1.alloc (.cells #[.int .i64 A.k, .slice bn A.nx.length dn, .slice ba A.ac.length da] 25)
  have R3 := RowAt.last (w.alloc (.cells #[.int .i64 A.k, .slice an A.nx.length cn, .slice aa A.ac.length ca] 25)) #[.int .i64 A.k, .slice bn A.nx.length dn, .slice ba A.ac.length da] 25
  rw [World.size_alloc] at R3
  have HR2 : Hid (RowAt ((w.alloc (.cells #[.int .i64 A.k, .slice an A.nx.length cn, .slice aa A.ac.length ca] 25)).alloc (.cells #[.int .i64 A.k, .slice bn A.nx.length dn, .slice ba A.ac.length da] 25)) w.heap.size #[.int .i64 A.k, .slice an A.nx.length cn, .slice aa A.ac.length ca]) := R2
  have HR3 : Hid (RowAt ((w.alloc (.cells #[.int .i64 A.k, .slice an A.nx.length cn, .slice aa A.ac.length ca] 25)).alloc (.cells #[.int .i64 A.k, .slice bn A.nx.length dn, .slice ba A.ac.length da] 25)) (w.heap.size + 1) #[.int .i64 A.k, .slice bn A.nx.length dn, .slice ba A.ac.length da]) := R3
  have HBW : Hid (∀ O O', Below w.heap.size w ((w.alloc O).alloc O')) := fun O O' => go_on (below_new _ _) (below_new _ _)
  clear hu hv h1 h2 k1 k2 R1 R2 R3
  go_enter Try.func10, Try.ntmps10
  go_wp2_with (first
    | (go_at_call 11; refine (HSA.out _ (HBW.out _ _)).mono ?_; rintro e y1 ⟨rfl, hy1⟩; have HA1 : Hid (RowAt y1 w.heap.size #[.int .i64 A.k, .slice an A.nx.length cn, .slice aa A.ac.length ca]) := RowAt.stay HR2.out hy1; have HA2 : Hid (RowAt y1 (w.heap.size + 1) #[.int .i64 A.k, .slice bn A.nx.length dn, .slice ba A.ac.length da]) := RowAt.stay HR3.out hy1; have cs1 := HA1.out.cell; have cs2 := HA2.out.cell; have HY : Hid (Below w.heap.size w y1) := go_on (HBW.out _ _) hy1; clear hy1))
  clear cs1 cs2
  go_loopw [5] (fun vi wr => ∃ i : Nat, vi = .int .i64 i ∧ i ≤ A.ac.length ∧ Below y1.heap.size y1 wr) (fun vi _ => A.ac.length - (intOf vi).toNat)
  case atStart => exact ⟨0, rfl, Nat.zero_le _, Below.refl _ _⟩
  case round =>
    obtain ⟨i, rfl, hi, hb⟩ := hrel
    have HB : Hid (Below y1.heap.size y1 wr) := hb
    have cs1 := (HA1.out.stay hb).cell
    have cs2 := (HA2.out.stay hb).cell
    by_cases hlt : i < A.ac.length
    · have hiI : (i : Int) < A.ac.length := by omega
      have hbw : Below w.heap.size w wr := go_on HY.out hb
      obtain ⟨ga, oa, rfl, _, c1⟩ := (H2.out.stay hbw).bool hlt
      obtain ⟨gb, ob, rfl, _, c2⟩ := (K2.out.stay hbw).bool hlt
      obtain ⟨x, hx⟩ : ∃ x, A.ac.getD i false = x := ⟨_, rfl⟩
      rw [hx] at c1 c2
      have S0 : (∀ o, wr.drew.cell? ⟨w.heap.size, o, none⟩ = (#[.int .i64 A.k, .slice an A.nx.length cn, .slice (some ⟨ga, oa, none⟩) A.ac.length ca] : Array Value)[o]?) ∧ (∀ o, wr.drew.cell? ⟨w.heap.size + 1, o, none⟩ = (#[.int .i64 A.k, .slice bn A.nx.length dn, .slice (some ⟨gb, ob, none⟩) A.ac.length da] : Array Value)[o]?) ∧ wr.drew.cell? ⟨ga, oa + i, none⟩ = some (.bool x) ∧ wr.drew.cell? ⟨gb, ob + i, none⟩ = some (.bool x) := ⟨cs1, cs2, c1, c2⟩
      clear hx hb hbw
      go_wp2_with fail
      clear cs1 cs2 c1 c2
      go_region_held3 (fun y => (∀ o, y.cell? ⟨w.heap.size, o, none⟩ = (#[.int .i64 A.k, .slice an A.nx.length cn, .slice (some ⟨ga, oa, none⟩) A.ac.length ca] : Array Value)[o]?) ∧ (∀ o, y.cell? ⟨w.heap.size + 1, o, none⟩ = (#[.int .i64 A.k, .slice bn A.nx.length dn, .slice (some ⟨gb, ob, none⟩) A.ac.length da] : Array Value)[o]?) ∧ y.cell? ⟨ga, oa + i, none⟩ = some (.bool x) ∧ y.cell? ⟨gb, ob + i, none⟩ = some (.bool x)) (first | exact S0 | assumption) (fail)
      all_goals (
        clear S0
        go_wp2_with fail
        go_roundw
        case rel => exact ⟨i + 1, by go_num, by omega, HB.out.drew⟩
        case measure => simp [intOf]; omega)
    · have hiI : ¬ (i : Int) < A.ac.length := by omega
      clear hb
      go_wp2_with fail
      go_ret
      exact ⟨rfl, go_on HY.out HB.out⟩

set_option maxHeartbeats 2000000 in
set_option maxRecDepth 100000 in
theorem equalI_any (a1 a2 : Option Addr) (c1 c2 : Nat) (xs ys : List Int) (w : World) (g1 : SR w a1 (zC xs)) (g2 : SR w a2 (zC ys)) (hx : xs.length ≤ 9223372036854775806) (hy : ys.length ≤ 9223372036854775806) :
    Calls Try.prog 18 #[.slice a1 xs.length c1, .slice a2 ys.length c2] w fun e w' => e = .returned (.bool (decide (xs = ys))) ∧ Below w.heap.size w w' := by
  have H1 : Hid (SR w a1 (zC xs)) := g1
  have H2 : Hid (SR w a2 (zC ys)) := g2
  clear g1 g2
  by_cases hl : xs.length = ys.length
  case neg =>
    have hlI : ¬ (xs.length : Int) = ys.length := by omega
    have hd : decide ((xs.length : Int) = ys.length) = false := decide_eq_false hlI
    have HF : Hid (decide (xs = ys) = false) := decide_eq_false fun q => hl (by rw [q])
    clear hl
    go_enter Try.func18, Try.ntmps18
    go_wp2_with fail
    go_ret
    exact ⟨by rw [HF.out]; rfl, Below.refl _ _⟩
  case pos =>
    obtain ⟨n, hn⟩ : ∃ n, xs.length = n := ⟨_, rfl⟩
    have hn2 : ys.length = n := by omega
    have HX : Hid (xs.length = n ∧ ys.length = n) := ⟨hn, hn2⟩
    rw [hn, hn2]
    rw [hn] at hx
    clear hl hn hn2 hy
    go_enter Try.func18, Try.ntmps18
    go_wp2_with fail
    go_loopw [13] (fun vi wr => ∃ i q : Nat, vi = .int .i64 i ∧ i ≤ n ∧ (∀ t, t < i → xs.getD t 0 = ys.getD t 0) ∧ wr = w.drewN q) (fun vi _ => n - (intOf vi).toNat)
    case atStart => exact ⟨0, 0, rfl, Nat.zero_le _, fun t ht => by omega, rfl⟩
    case round =>
      obtain ⟨i, q, rfl, hi, hall, rfl⟩ := hrel
      have HALL : Hid (∀ t, t < i → xs.getD t 0 = ys.getD t 0) := hall
      clear hall
      by_cases hlt : i < n
      · have hiI : (i : Int) < n := by omega
        obtain ⟨ga, oa, rfl, _, ca⟩ := H1.out.int (i := i) (by rw [HX.out.1]; exact hlt)
        obtain ⟨gb, ob, rfl, _, cb⟩ := H2.out.int (i := i) (by rw [HX.out.2]; exact hlt)
        obtain ⟨x, hx⟩ : ∃ x, xs.getD i 0 = x := ⟨_, rfl⟩
        obtain ⟨y, hy⟩ : ∃ y, ys.getD i 0 = y := ⟨_, rfl⟩
        rw [hx] at ca
        rw [hy] at cb
        have HXY : Hid (xs.getD i 0 = x ∧ ys.getD i 0 = y) := ⟨hx, hy⟩
        clear hx hy
        by_cases e : x = y
        · subst e
          go_wp2_with fail
          go_quiet (fail)
          go_wp2
          go_roundw
          case rel =>
            refine ⟨i + 1, _, by go_num, by omega, fun t ht => ?_, rfl⟩
            by_cases et : t = i
            · rw [et, HXY.out.1, HXY.out.2]
            · exact HALL.out t (by omega)
          case measure => simp [intOf]; omega
        · have HF : Hid (decide (xs = ys) = false) := decide_eq_false fun q => e (by rw [← HXY.out.1, ← HXY.out.2, q])
          have hd : (x == y) = false := by simpa using e
          have hd2 : decide (x = y) = false := decide_eq_false e
          go_wp2_with fail
          go_quiet (fail)
          go_wp2
          go_ret
          exact ⟨by rw [HF.out]; rfl, ⟨rfl, rfl, rfl, Nat.le_refl _, fun _ _ => rfl⟩⟩
      · have hiI : ¬ (i : Int) < n := by omega
        have HT : Hid (decide (xs = ys) = true) := decide_eq_true (by
          apply List.ext_getElem?
          intro j
          by_cases hj : j < n
          · have := HALL.out j (by omega)
            rw [List.getD_eq_getElem?_getD, List.getD_eq_getElem?_getD, List.getElem?_eq_getElem (by rw [HX.out.1]; exact hj), List.getElem?_eq_getElem (by rw [HX.out.2]; exact hj)] at this
            rw [List.getElem?_eq_getElem (by rw [HX.out.1]; exact hj), List.getElem?_eq_getElem (by rw [HX.out.2]; exact hj)]
            exact congrArg some this
          · rw [List.getElem?_eq_none (by rw [HX.out.1]; omega), List.getElem?_eq_none (by rw [HX.out.2]; omega)])
        go_wp2_with fail
        go_ret
        exact ⟨by rw [HT.out]; rfl, ⟨rfl, rfl, rfl, Nat.le_refl _, fun _ _ => rfl⟩⟩

set_option maxHeartbeats 2000000 in
set_option maxRecDepth 100000 in
theorem equalB_any (a1 a2 : Option Addr) (c1 c2 : Nat) (xs ys : List Bool) (w : World) (g1 : SR w a1 (bC xs)) (g2 : SR w a2 (bC ys)) (hx : xs.length ≤ 9223372036854775806) (hy : ys.length ≤ 9223372036854775806) :
    Calls Try.prog 19 #[.slice a1 xs.length c1, .slice a2 ys.length c2] w fun e w' => e = .returned (.bool (decide (xs = ys))) ∧ Below w.heap.size w w' := by
  have H1 : Hid (SR w a1 (bC xs)) := g1
  have H2 : Hid (SR w a2 (bC ys)) := g2
  clear g1 g2
  by_cases hl : xs.length = ys.length
  case neg =>
    have hlI : ¬ (xs.length : Int) = ys.length := by omega
    have hd : decide ((xs.length : Int) = ys.length) = false := decide_eq_false hlI
    have HF : Hid (decide (xs = ys) = false) := decide_eq_false fun q => hl (by rw [q])
    clear hl
    go_enter Try.func19, Try.ntmps19
    go_wp2_with fail
    go_ret
    exact ⟨by rw [HF.out]; rfl, Below.refl _ _⟩
  case pos =>
    obtain ⟨n, hn⟩ : ∃ n, xs.length = n := ⟨_, rfl⟩
    have hn2 : ys.length = n := by omega
    have HX : Hid (xs.length = n ∧ ys.length = n) := ⟨hn, hn2⟩
    rw [hn, hn2]
    rw [hn] at hx
    clear hl hn hn2 hy
    go_enter Try.func19, Try.ntmps19
    go_wp2_with fail
    go_loopw [13] (fun vi wr => ∃ i q : Nat, vi = .int .i64 i ∧ i ≤ n ∧ (∀ t, t < i → xs.getD t false = ys.getD t false) ∧ wr = w.drewN q) (fun vi _ => n - (intOf vi).toNat)
    case atStart => exact ⟨0, 0, rfl, Nat.zero_le _, fun t ht => by omega, rfl⟩
    case round =>
      obtain ⟨i, q, rfl, hi, hall, rfl⟩ := hrel
      have HALL : Hid (∀ t, t < i → xs.getD t false = ys.getD t false) := hall
      clear hall
      by_cases hlt : i < n
      · have hiI : (i : Int) < n := by omega
        obtain ⟨ga, oa, rfl, _, ca⟩ := H1.out.bool (i := i) (by rw [HX.out.1]; exact hlt)
        obtain ⟨gb, ob, rfl, _, cb⟩ := H2.out.bool (i := i) (by rw [HX.out.2]; exact hlt)
        obtain ⟨x, hx⟩ : ∃ x, xs.getD i false = x := ⟨_, rfl⟩
        obtain ⟨y, hy⟩ : ∃ y, ys.getD i false = y := ⟨_, rfl⟩
        rw [hx] at ca
        rw [hy] at cb
        have HXY : Hid (xs.getD i false = x ∧ ys.getD i false = y) := ⟨hx, hy⟩
        clear hx hy
        by_cases e : x = y
        · subst e
          go_wp2_with fail
          go_quiet (fail)
          go_wp2
          go_roundw
          case rel =>
            refine ⟨i + 1, _, by go_num, by omega, fun t ht => ?_, rfl⟩
            by_cases et : t = i
            · rw [et, HXY.out.1, HXY.out.2]
            · exact HALL.out t (by omega)
          case measure => simp [intOf]; omega
        · have HF : Hid (decide (xs = ys) = false) := decide_eq_false fun q => e (by rw [← HXY.out.1, ← HXY.out.2, q])
          cases x <;> cases y <;> first | exact absurd rfl e | skip
          all_goals (
            clear e
            go_wp2_with fail
            go_quiet (fail)
            go_wp2
            go_ret
            exact ⟨by rw [HF.out]; rfl, ⟨rfl, rfl, rfl, Nat.le_refl _, fun _ _ => rfl⟩⟩)
      · have hiI : ¬ (i : Int) < n := by omega
        have HT : Hid (decide (xs = ys) = true) := decide_eq_true (by
          apply List.ext_getElem?
          intro j
          by_cases hj : j < n
          · have := HALL.out j (by omega)
            rw [List.getD_eq_getElem?_getD, List.getD_eq_getElem?_getD, List.getElem?_eq_getElem (by rw [HX.out.1]; exact hj), List.getElem?_eq_getElem (by rw [HX.out.2]; exact hj)] at this
            rw [List.getElem?_eq_getElem (by rw [HX.out.1]; exact hj), List.getElem?_eq_getElem (by rw [HX.out.2]; exact hj)]
            exact congrArg some this
          · rw [List.getElem?_eq_none (by rw [HX.out.1]; omega), List.getElem?_eq_none (by rw [HX.out.2]; omega)])
        go_wp2_with fail
        go_ret
        exact ⟨by rw [HT.out]; rfl, ⟨rfl, rfl, rfl, Nat.le_refl _, fun _ _ => rfl⟩⟩
end Go.Proofs.Ythjenemmhlljfab
