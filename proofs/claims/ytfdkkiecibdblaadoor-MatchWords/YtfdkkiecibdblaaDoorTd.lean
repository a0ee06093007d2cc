/- Contracts of the laws' SameNodes and of slices.Clone over nodes; rows of nodes that a call made. -/
import Derived.Test.YtfdkkiecibdblaaDoorTa
import Derived.Laws.AppendOwnNone
import Derived.Lib.SliceRun
import Derived.Deep.RegionHeld3
namespace Go.Proofs.YtfdkkiecibdblaaDoor
open Go.RowKit

/-- Nodes as a row's cells. -/
def ndC : List Nd → List Value
  | [] => []
  | n :: ts => .int .i64 n.1 :: .int .u8 n.2 :: ndC ts
theorem ndC_append (a b : List Nd) : ndC (a ++ b) = ndC a ++ ndC b := by
  induction a with
  | nil => rfl
  | cons n a ih => simp [ndC, ih]
theorem ndC_length (ts : List Nd) : (ndC ts).length = ts.length * 2 := by
  induction ts with
  | nil => rfl
  | cons n a ih => simp only [ndC, List.length_cons, ih]; omega
theorem ndC_fst (ts : List Nd) (i : Nat) (h : i < ts.length) : (ndC ts)[i * 2]? = some (.int .i64 (ts.getD i (0, 0)).1) := by
  induction ts generalizing i with
  | nil => simp at h
  | cons n a ih =>
    cases i with
    | zero => simp [ndC]
    | succ i =>
      rw [show (i + 1) * 2 = i * 2 + 1 + 1 by omega]
      simp only [ndC, List.getElem?_cons_succ, List.getD_cons_succ]
      exact ih i (by simpa using h)
theorem ndC_snd (ts : List Nd) (i : Nat) (h : i < ts.length) : (ndC ts)[i * 2 + 1]? = some (.int .u8 (ts.getD i (0, 0)).2) := by
  induction ts generalizing i with
  | nil => simp at h
  | cons n a ih =>
    cases i with
    | zero => simp [ndC]
    | succ i =>
      rw [show (i + 1) * 2 + 1 = i * 2 + 1 + 1 + 1 by omega]
      simp only [ndC, List.getElem?_cons_succ, List.getD_cons_succ]
      exact ih i (by simpa using h)
theorem ndC_one (ts : List Nd) : ∀ u ∈ ndC ts, u.oneCell' = true := by
  induction ts with
  | nil => intro u hu; cases hu
  | cons n a ih =>
    intro u hu
    simp only [ndC, List.mem_cons] at hu
    rcases hu with rfl | rfl | hu
    · rfl
    · rfl
    · exact ih u hu
theorem own_shape {w : World} {base : Nat} {e : TypeId} {size n : Nat} {v : Value} {xs : List Value} (h : w.ownsRow base e size v n xs) : ∃ a cap, v = .slice a n cap := by
  obtain ⟨_, h⟩ := h
  rcases h with ⟨rfl, hn⟩ | ⟨g, cap, cur, rfl, _⟩
  · exact ⟨none, 0, by rw [hn]⟩
  · exact ⟨_, _, rfl⟩
theorem own_mono {w : World} {base base' : Nat} {e : TypeId} {size n : Nat} {v : Value} {xs : List Value} (h : w.ownsRow base e size v n xs) (hb : base' ≤ base) : w.ownsRow base' e size v n xs := by
  obtain ⟨a, b⟩ := h
  refine ⟨a, ?_⟩
  rcases b with b | ⟨g, cap, cur, e, r, r2⟩
  · exact .inl b
  · exact .inr ⟨g, cap, cur, e, Nat.le_trans hb r, r2⟩
theorem own_below {w w' : World} {base : Nat} {e : TypeId} {size n : Nat} {v : Value} {xs : List Value} (h : w.ownsRow base e size v n xs) (hb : Below w.heap.size w w') : w'.ownsRow base e size v n xs := by
  obtain ⟨a, b⟩ := h
  refine ⟨a, ?_⟩
  rcases b with b | ⟨g, cap, cur, e1, r, r2, r3⟩
  · exact .inl b
  · exact .inr ⟨g, cap, cur, e1, r, by rw [hb.block g (Array.getElem?_eq_some_iff.1 r2).1]; exact r2, r3⟩
theorem own_nreads {w : World} {base : Nat} {v : Value} {ts : List Nd} (h : w.ownsRow base 55 2 v ts.length (ndC ts)) : NReads w v ts := by
  obtain ⟨h0, h1⟩ := h
  rcases h1 with ⟨rfl, hn⟩ | ⟨g, cap, cur, rfl, r⟩
  · exact ⟨none, 0, by rw [hn], fun i hi => by omega⟩
  · obtain ⟨_, r2, r3, _, r5, r6⟩ := r
    have hc : ∀ j u, (ndC ts)[j]? = some u → w.cell? ⟨g, j, none⟩ = some u := by
      intro j u hj
      rw [← r6, List.getElem?_take] at hj
      split at hj
      · simp only [World.cell?, r2]
        simpa using hj
      · cases hj
    refine ⟨some ⟨g, 0, none⟩, cap, rfl, fun i hi => ⟨g, 0, rfl, (Array.getElem?_eq_some_iff.1 r2).1, ?_, ?_⟩⟩
    · rw [Nat.zero_add]; exact hc _ _ (ndC_fst ts i hi)
    · rw [Nat.zero_add]; exact hc _ _ (ndC_snd ts i hi)
/-- A list that reads as nodes gives its cells. -/
theorem nreads_cells {w : World} {ad : Addr} {n cap : Nat} {ts : List Nd} (h : NReads w (.slice (some ad) n cap) ts) : ∀ j u, (ndC ts)[j]? = some u → w.cell? (ad.add j) = some u := by
  obtain ⟨a, c, e, hr⟩ := h
  simp only [Value.slice.injEq] at e
  obtain ⟨rfl, rfl, rfl⟩ := e
  intro j u hj
  have hjl : j < ts.length * 2 := by rw [← ndC_length]; exact (List.getElem?_eq_some_iff.1 hj).1
  obtain ⟨g, o, e, _, c1, c2⟩ := hr (j / 2) (by omega)
  cases e
  rw [Addr.add_lit]
  by_cases hp : j % 2 = 0
  · have ej : j / 2 * 2 = j := by omega
    rw [ej] at c1
    rw [c1, ← hj, ← ndC_fst ts (j / 2) (by omega), ej]
  · have ej : j / 2 * 2 + 1 = j := by omega
    rw [Nat.add_assoc, ej] at c2
    rw [c2, ← hj, ← ndC_snd ts (j / 2) (by omega), ej]
theorem Tryd.info_node : (Tryd.prog.info? 55).map (fun i => (i.zero, i.size, i.bytes)) = some (some (.agg #[.int .i64 0, .int .u8 0]), 2, 16) := by kernel_rfl

set_option maxHeartbeats 4000000 in
set_option maxRecDepth 100000 in
theorem eq2 (k s l t : Int) (w : World) : (Op.equalIn 10000 55 (.agg #[.int .i64 k, .int .u8 s]) (.agg #[.int .i64 l, .int .u8 t])).run Tryd.prog w = .ok (k == l && s == t) w := by
  have u3 := Tryd.underlying3
  have a3' := Tryd.isAgg3
  have z3 := Tryd.sizeOf3
  have u4 := Tryd.underlying5
  have a4' := Tryd.isAgg5
  have z4 := Tryd.sizeOf5
  rw [show (10000 : Nat) = 9999 + 1 from rfl, Op.equalIn]
  simp only [Sem.run_bind, run_underlying Tryd.underlying55, Result.andThen_ok]
  go_simp
  by_cases h0 : k = l
  · by_cases h1 : s = t
    · simp [h0, h1]
    · simp [h0, h1]
  · simp [h0]

set_option maxHeartbeats 2000000 in
set_option maxRecDepth 100000 in
theorem same_any (v1 v2 : Value) (a b : List Nd) (w : World) (h1 : NReads w v1 a) (h2 : NReads w v2 b) (hm : a.length ≤ 9223372036854775806) :
    Calls Tryd.prog 33 #[v1, v2] w fun e w' => e = .returned (.bool (decide (a = b))) ∧ Below w.heap.size w w' := by
  obtain ⟨a1, c1, rfl, g1⟩ := h1
  obtain ⟨a2, c2, rfl, g2⟩ := h2
  have H1 : Hid _ := g1
  have H2 : Hid _ := g2
  clear g1 g2
  by_cases hl : a.length = b.length
  · have hlb : ((a.length : Int) != (b.length : Int)) = false := by rw [bne_eq_false_iff_eq]; omega
    have HL : Hid (a.length = b.length) := hl
    clear hl
    go_enter Tryd.func33, Tryd.ntmps33
    go_wp2_with fail
    go_loopw [5] (fun vi wr => ∃ i q : Nat, i ≤ a.length ∧ vi = .int .i64 i ∧ (∀ j, j < i → a.getD j (0, 0) = b.getD j (0, 0)) ∧ wr = w.drewN q) (fun vi _ => a.length - (intOf vi).toNat)
    case atStart => exact ⟨0, 0, Nat.zero_le _, rfl, fun j hj => by omega, rfl⟩
    case round =>
      obtain ⟨i, q, hi, rfl, hall, rfl⟩ := hrel
      have HA : Hid (∀ j, j < i → a.getD j (0, 0) = b.getD j (0, 0)) := hall
      clear hall
      by_cases hlt : i < a.length
      · have hiI : (i : Int) < a.length := by omega
        have hlt2 : i < b.length := by have := HL.out; omega
        have hiI2 : (i : Int) < b.length := by omega
        obtain ⟨ga, oa, rfl, hga, a11, a12⟩ := H1.out i hlt
        obtain ⟨gb, ob, rfl, hgb, b11, b12⟩ := H2.out i hlt2
        obtain ⟨⟨k, s⟩, hx⟩ : ∃ x, a.getD i (0, 0) = x := ⟨_, rfl⟩
        obtain ⟨⟨l, t⟩, hy⟩ : ∃ y, b.getD i (0, 0) = y := ⟨_, rfl⟩
        rw [hx] at a11 a12
        rw [hy] at b11 b12
        have HX : Hid (a.getD i (0, 0) = (k, s)) := hx
        have HY : Hid (b.getD i (0, 0) = (l, t)) := hy
        clear hx hy
        have e2 := eq2 k s l t
        by_cases hxy : k = l ∧ s = t
        · obtain ⟨rfl, rfl⟩ := hxy
          have hbe : (k == k && s == s) = true := by simp
          rw [hbe] at e2
          go_wp2_with fail
          go_region
          go_wp2_with fail
          go_roundw
          case rel => exact ⟨i + 1, _, by omega, by go_num, fun j hj => by
            by_cases e : j = i
            · rw [e, HX.out, HY.out]
            · exact HA.out j (by omega), rfl⟩
          case measure => simp [intOf]; omega
        · have hbe : (k == l && s == t) = false := by simpa using hxy
          rw [hbe] at e2
          have HE : Hid (decide (a = b) = false) := by
            show decide (a = b) = false
            simp
            intro h
            apply hxy
            have h1 := HX.out
            rw [h, HY.out] at h1
            simp at h1
            exact ⟨h1.1.symm, h1.2.symm⟩
          clear hxy hbe
          go_wp2_with fail
          go_region
          go_wp2_with fail
          go_ret
          exact ⟨ret_bool HE.out.symm, drewN_below w _⟩
      · have hiI : ¬ (i : Int) < a.length := by omega
        have HE : Hid (decide (a = b) = true) := by
          show decide (a = b) = true
          rw [decide_eq_true_iff]
          apply List.ext_getElem?
          intro j
          have hl := HL.out
          by_cases hj : j < a.length
          · have h1 := HA.out j (by omega)
            rw [List.getD_eq_getElem?_getD, List.getD_eq_getElem?_getD, List.getElem?_eq_getElem hj, List.getElem?_eq_getElem (by omega)] at h1
            rw [List.getElem?_eq_getElem hj, List.getElem?_eq_getElem (by omega)]
            simp only [Option.getD_some] at h1
            rw [h1]
          · rw [List.getElem?_eq_none (by omega), List.getElem?_eq_none (by omega)]
        go_wp2_with fail
        go_ret
        exact ⟨ret_bool HE.out.symm, drewN_below w _⟩
  · have hlb : ((a.length : Int) != (b.length : Int)) = true := by rw [bne_iff_ne]; omega
    have HE : Hid (decide (a = b) = false) := by
      show decide (a = b) = false
      simp
      intro h
      exact hl (by rw [h])
    clear hl
    go_enter Tryd.func33, Tryd.ntmps33
    go_wp2_with fail
    go_ret
    exact ⟨ret_bool HE.out.symm, Below.refl _ _⟩

end Go.Proofs.YtfdkkiecibdblaaDoor
