/- The document's side of norm: its smallest calls. The document's Same and isAll. Contracts of the document's begin and Cut, of up to 9000 nodes. The document's Made, of up to 9000 nodes; parts of trees. -/
import Derived.Test.YtdmjcfecahcdnaaDoorXa
import Derived.Test.YtdmjcfecahcdnaaDoorOa
import Derived.Test.YtdmjcfecahcdnaaDoorTr
import Derived.Deep.RegionWith
namespace Go.Proofs.YtdmjcfecahcdnaaDoor
open Go Go.RowKit
set_option linter.unusedVariables false

theorem results_nd1 {fn : Func} {p : Tmp} (h : fn.results = #[.cell p 52]) {tmps : Array Value} {b : Nat} {x y : Value} {w : World} (hp : tmps.getD p undef = .pointer (some ⟨b, 0, none⟩)) (h0 : w.cell? ⟨b, 0, none⟩ = some x) (h1 : w.cell? ⟨b, 1, none⟩ = some y) :
    (results fn tmps).run Tryd.prog w = .ok (.agg #[x, y]) w := by
  have hp' : tmps[p]?.getD undef = .pointer (some ⟨b, 0, none⟩) := by simpa using hp
  simp [results, h, go_sem, hp', h0, h1, Result.andThen]
set_option maxHeartbeats 1000000 in
theorem rnode_any (k : Int) (w : World) : Calls Tryd.prog 61 #[.int .i64 k] w fun e w' => e = .returned (.agg #[.int .i64 k, .int .u8 0]) ∧ Below w.heap.size w w' := by
  have HB : Hid (Below w.heap.size w (w.alloc (.cells #[.int .i64 k, .int .u8 0] 52))) := (Below.refl _ _).alloc (Nat.le_refl _) _
  have hR := (RowAt.last w #[.int .i64 k, .int .u8 0] 52).cell
  go_enter Tryd.func61, Tryd.ntmps61
  go_wp2_with fail
  exact bodyPost_ret (results_nd1 rfl rfl (hR 0) (hR 1)) rfl ⟨rfl, HB.out⟩

set_option maxHeartbeats 1000000 in
theorem ris_any (v : Value) (ts : List Nd) (n : Nat) (k0 s0 : Int) (k : Int) (w : World) (hv : NReads w v ts) (hn : ts.length = n + 1) (hs : n ≤ 9223372036854775800) (hl : ts[n]? = some (k0, s0)) :
    Calls Tryd.prog 57 #[v, .int .i64 k] w fun e w' => e = .returned (.bool (k0 == k)) ∧ w' = w := by
  obtain ⟨a, cap, rfl, h⟩ := hv
  obtain ⟨g, o, rfl, hg, h1, h2⟩ := h n (by omega)
  have hk : (ts.getD n (0, 0)).1 = k0 := by rw [List.getD_eq_getElem?_getD, hl]; rfl
  rw [hk] at h1
  rw [hn]
  have hnI : IntKind.i64.wrap (((n + 1 : Nat) : Int) - 1) = (n : Int) := by rw [IntKind.wrap_i64]; omega
  obtain ⟨m, hm⟩ : ∃ m, n + 1 = m := ⟨_, rfl⟩
  rw [hm] at hnI ⊢
  have hlt : (n : Int) < m := by omega
  have hlt2 : n < m := by omega
  clear h2 h hl hk hn
  have HM : Hid (n + 1 = m) := hm
  clear hm
  go_enter Tryd.func57, Tryd.ntmps57
  go_wp2_with fail
  go_ret
  exact ⟨rfl, rfl⟩

/-- A row that was laid just now is the call's own. -/
theorem own_laid {base : Nat} (w : World) (N : List Nd) (hb : base ≤ w.heap.size) (hl : N.length ≤ 4000) : (w.alloc (.cells (ndC N).toArray 52)).ownsRow base 52 2 (.slice (some ⟨w.heap.size, 0, none⟩) N.length N.length) N.length (ndC N) :=
  ⟨by have := ndC_length N; simpa using this, .inr ⟨w.heap.size, N.length, _, rfl, hb, heap_alloc_new w _, Nat.le_refl _, by unfold maxLen; omega, by have := ndC_length N; simpa using this, by have := ndC_length N; show List.take (N.length * 2) (ndC N) = ndC N; rw [← this, List.take_length]⟩⟩

set_option maxHeartbeats 1000000 in
theorem rnone_any (w : World) : Calls Tryd.prog 58 #[] w fun e w' => ∃ u, e = .returned u ∧ w'.ownsRow w.heap.size 52 2 u tNone.flat.length (ndC tNone.flat) ∧ Below w.heap.size w w' := by
  go_enter Tryd.func58, Tryd.ntmps58
  go_wp2_with fail
  refine (rnode_any _ _).mono ?_
  rintro e w1 ⟨rfl, hb1⟩
  have HB1 : Hid (Below w.heap.size w w1) := hb1
  clear hb1
  go_wp2_with fail
  go_ret
  exact ⟨_, rfl, own_laid w1 tNone.flat HB1.out.size (by decide), HB1.out.alloc HB1.out.size _⟩

set_option maxHeartbeats 1000000 in
theorem rempty_any (w : World) : Calls Tryd.prog 65 #[] w fun e w' => ∃ u, e = .returned u ∧ w'.ownsRow w.heap.size 52 2 u tEmpty.flat.length (ndC tEmpty.flat) ∧ Below w.heap.size w w' := by
  go_enter Tryd.func65, Tryd.ntmps65
  go_wp2_with fail
  refine (rnode_any _ _).mono ?_
  rintro e w1 ⟨rfl, hb1⟩
  have HB1 : Hid (Below w.heap.size w w1) := hb1
  clear hb1
  go_wp2_with fail
  go_ret
  exact ⟨_, rfl, own_laid w1 tEmpty.flat HB1.out.size (by decide), HB1.out.alloc HB1.out.size _⟩

set_option maxHeartbeats 1000000 in
theorem rall_any (w : World) : Calls Tryd.prog 64 #[] w fun e w' => ∃ u, e = .returned u ∧ w'.ownsRow w.heap.size 52 2 u tAll.flat.length (ndC tAll.flat) ∧ Below w.heap.size w w' := by
  go_enter Tryd.func64, Tryd.ntmps64
  go_wp2_with fail
  refine (rnode_any _ _).mono ?_
  rintro e w1 ⟨rfl, hb1⟩
  have HB1 : Hid (Below w.heap.size w w1) := hb1
  clear hb1
  go_wp2_with fail
  refine (rnode_any _ _).mono ?_
  rintro e w2 ⟨rfl, hb2⟩
  have HB2 : Hid (Below w.heap.size w w2) := go_on HB1.out hb2
  clear hb2
  go_wp2_with fail
  go_ret
  exact ⟨_, rfl, own_laid w2 tAll.flat HB2.out.size (by decide), HB2.out.alloc HB2.out.size _⟩
end Go.Proofs.YtdmjcfecahcdnaaDoor

namespace Go.Proofs.YtdmjcfecahcdnaaDoor
open Go Go.RowKit
set_option linter.unusedVariables false

set_option maxHeartbeats 2000000 in
set_option maxRecDepth 100000 in
theorem rsame_any (v1 v2 : Value) (a b : List Nd) (w : World) (h1 : NReads w v1 a) (h2 : NReads w v2 b) (hm : a.length ≤ 9223372036854775806) :
    Calls Tryd.prog 36 #[v1, v2] w fun e w' => e = .returned (.bool (decide (a = b))) ∧ Below w.heap.size w w' := by
  obtain ⟨a1, c1, rfl, g1⟩ := h1
  obtain ⟨a2, c2, rfl, g2⟩ := h2
  have H1 : Hid _ := g1
  have H2 : Hid _ := g2
  clear g1 g2
  by_cases hl : a.length = b.length
  · have hlb : ((a.length : Int) != (b.length : Int)) = false := by rw [bne_eq_false_iff_eq]; omega
    have HL : Hid (a.length = b.length) := hl
    clear hl
    go_enter Tryd.func36, Tryd.ntmps36
    go_wp2_with fail
    go_loopw [5] (fun vi wr => ∃ i q : Nat, i ≤ a.length ∧ vi = .int .i64 i ∧ (∀ j, j < i → a.getD j (0, 0) = b.getD j (0, 0)) ∧ wr = w.drewN q) (fun vi _ => a.length - (intOf vi).toNat)
    case atStart => exact ⟨0, 0, Nat.zero_le _, rfl, fun j hj => by omega, rfl⟩
    case round =>
      obtain ⟨i, q, hi, rfl, hall, rfl⟩ := hrel
      have HA : Hid (∀ j, j < i → a.getD j (0, 0) = b.getD j (0, 0)) := hall
      clear hall
      by_cases hlt : i < a.length
      · have hiI : (i : Int) < a.length := by omega
        have hlt2 : i < b.length := by have := HL.out; omega
        have hiI2 : (i : Int) < b.length := by omega
        obtain ⟨ga, oa, rfl, hga, a11, a12⟩ := H1.out i hlt
        obtain ⟨gb, ob, rfl, hgb, b11, b12⟩ := H2.out i hlt2
        obtain ⟨⟨k, s⟩, hx⟩ : ∃ x, a.getD i (0, 0) = x := ⟨_, rfl⟩
        obtain ⟨⟨l, t⟩, hy⟩ : ∃ y, b.getD i (0, 0) = y := ⟨_, rfl⟩
        rw [hx] at a11 a12
        rw [hy] at b11 b12
        have HX : Hid (a.getD i (0, 0) = (k, s)) := hx
        have HY : Hid (b.getD i (0, 0) = (l, t)) := hy
        clear hx hy
        have e2 := eq2 k s l t
        by_cases hxy : k = l ∧ s = t
        · obtain ⟨rfl, rfl⟩ := hxy
          have hbe : (k == k && s == s) = true := by simp
          rw [hbe] at e2
          go_wp2_with fail
          go_region
          go_wp2_with fail
          go_roundw
          case rel => exact ⟨i + 1, _, by omega, by go_num, fun j hj => by
            by_cases e : j = i
            · rw [e, HX.out, HY.out]
            · exact HA.out j (by omega), rfl⟩
          case measure => simp [intOf]; omega
        · have hbe : (k == l && s == t) = false := by simpa using hxy
          rw [hbe] at e2
          have HE : Hid (decide (a = b) = false) := by
            show decide (a = b) = false
            simp
            intro h
            apply hxy
            have h1 := HX.out
            rw [h, HY.out] at h1
            simp at h1
            exact ⟨h1.1.symm, h1.2.symm⟩
          clear hxy hbe
          go_wp2_with fail
          go_region
          go_wp2_with fail
          go_ret
          exact ⟨ret_bool HE.out.symm, drewN_below w _⟩
      · have hiI : ¬ (i : Int) < a.length := by omega
        have HE : Hid (decide (a = b) = true) := by
          show decide (a = b) = true
          rw [decide_eq_true_iff]
          apply List.ext_getElem?
          intro j
          have hl := HL.out
          by_cases hj : j < a.length
          · have h1 := HA.out j (by omega)
            rw [List.getD_eq_getElem?_getD, List.getD_eq_getElem?_getD, List.getElem?_eq_getElem hj, List.getElem?_eq_getElem (by omega)] at h1
            rw [List.getElem?_eq_getElem hj, List.getElem?_eq_getElem (by omega)]
            simp only [Option.getD_some] at h1
            rw [h1]
          · rw [List.getElem?_eq_none (by omega), List.getElem?_eq_none (by omega)]
        go_wp2_with fail
        go_ret
        exact ⟨ret_bool HE.out.symm, drewN_below w _⟩
  · have hlb : ((a.length : Int) != (b.length : Int)) = true := by rw [bne_iff_ne]; omega
    have HE : Hid (decide (a = b) = false) := by
      show decide (a = b) = false
      simp
      intro h
      exact hl (by rw [h])
    clear hl
    go_enter Tryd.func36, Tryd.ntmps36
    go_wp2_with fail
    go_ret
    exact ⟨ret_bool HE.out.symm, Below.refl _ _⟩


set_option maxHeartbeats 1000000 in
theorem risAll_any (T : Tr) (hT : T.ok) (v : Value) (w : World) (hv : NReads w v T.flat) (hm : T.flat.length ≤ 9223372036854775806) : Calls Tryd.prog 59 #[v] w fun e w' => e = .returned (.bool (decide (T = tAll))) ∧ Below w.heap.size w w' := by
  have HV : Hid (NReads w v T.flat) := hv
  have hd : decide (T.flat = tAll.flat) = decide (T = tAll) := decide_eq_decide.2 ⟨fun h => flat_inj hT ⟨rfl, rfl, rfl, rfl⟩ h, fun h => by rw [h]⟩
  have HC : Hid (∀ (w' : World) (u : Value), NReads w' v T.flat → NReads w' u tAll.flat → Calls Tryd.prog 36 #[v, u] w' fun e w'' => e = .returned (.bool (decide (T = tAll))) ∧ Below w'.heap.size w' w'') := fun w' u h1 h2 => by
    have := rsame_any v u _ _ w' h1 h2 hm
    rw [hd] at this
    exact this
  obtain ⟨D, hD⟩ : ∃ D, decide (T = tAll) = D := ⟨_, rfl⟩
  rw [hD] at HC ⊢
  clear hv hd hD
  go_enter Tryd.func59, Tryd.ntmps59
  go_wp2_with fail
  refine (rall_any _).mono ?_
  rintro e w1 ⟨u, rfl, ho1, hb1⟩
  have HU : Hid (NReads w1 u tAll.flat) := own_nreads ho1
  have HB1 : Hid (Below w.heap.size w w1) := hb1
  clear ho1 hb1
  go_wp2_with fail
  refine (HC.out _ _ (HV.out.stay HB1.out) HU.out).mono ?_
  rintro e w2 ⟨rfl, hb2⟩
  have HB2 : Hid (Below w.heap.size w w2) := go_on HB1.out hb2
  clear hb2
  go_wp2_with fail
  go_ret
  exact ⟨rfl, HB2.out⟩
end Go.Proofs.YtdmjcfecahcdnaaDoor

namespace Go.Proofs.YtdmjcfecahcdnaaDoor
open Go Go.RowKit

theorem free_prefix {q : List Nd} {m c : Nat} (hm : m < q.length) (h : freeN (q.take (m + 1)) = some c) : 1 ≤ c := by
  rw [free_take hm] at h
  cases hx : freeN (q.take m) with
  | none => rw [hx] at h; simp at h
  | some d =>
    rw [hx, Option.bind_some] at h
    split at h
    · simp only [Option.some.injEq] at h; omega
    · cases h
theorem free_prev {q : List Nd} {m c : Nat} (hm : m < q.length) (h : freeN (q.take (m + 1)) = some c) : ∃ d, freeN (q.take m) = some d ∧ arity (q.getD m (0, 0)).1 ≤ d ∧ c = d - arity (q.getD m (0, 0)).1 + 1 := by
  rw [free_take hm] at h
  cases hx : freeN (q.take m) with
  | none => rw [hx] at h; simp at h
  | some d =>
    rw [hx, Option.bind_some] at h
    split at h
    · next hg => simp only [Option.some.injEq] at h; exact ⟨d, rfl, hg.2, h.symm⟩
    · cases h

set_option maxHeartbeats 2000000 in
set_option maxRecDepth 100000 in
theorem begin_any (v : Value) (p q r : List Nd) (w : World) (hv : NReads w v (p ++ q ++ r)) (hm : p.length + q.length ≤ 9000) (hf : freeN q = some 1) (i0 : Nat) (hi0 : i0 + 1 = p.length + q.length) :
    Calls Tryd.prog 79 #[v, .int .i64 (i0 : Int)] w fun e w' => e = .returned (.int .i64 (p.length : Int)) ∧ Below w.heap.size w w' := by
  have hq := free_pos hf
  obtain ⟨a, cap, rfl, hr⟩ := hv
  have HR : Hid _ := hr
  have HF : Hid (freeN q = some 1) := hf
  clear hr hf
  go_enter Tryd.func79, Tryd.ntmps79
  go_wp2_with fail
  go_loopw [1, 5] (fun vi vw wr => ∃ m c i : Nat, 1 ≤ m ∧ m ≤ q.length ∧ i + 1 = p.length + m ∧ vi = .int .i64 i ∧ vw = .int .i64 c ∧ 1 ≤ c ∧ c ≤ 9000 ∧ freeN (q.take m) = some c ∧ Below w.heap.size w wr) (fun vi _ _ => (intOf vi).toNat)
  case atStart => exact ⟨q.length, 1, i0, hq, Nat.le_refl _, by omega, rfl, rfl, by omega, by omega, by rw [List.take_length]; exact HF.out, Below.refl _ _⟩
  case round =>
    obtain ⟨m, c, i, h1, h2, hi, rfl, rfl, hc1, hc4, hfc, hb⟩ := hrel
    have HB : Hid (Below w.heap.size w wr) := hb
    obtain ⟨m, rfl⟩ : ∃ m', m = m' + 1 := ⟨m - 1, by omega⟩
    obtain ⟨d, hd, had, hcd⟩ := free_prev (by omega) hfc
    have HD : Hid (freeN (q.take m) = some d) := hd
    obtain ⟨g, o, rfl, hg, hc, _⟩ := HR.out i (by simp; omega)
    have hget : (p ++ q ++ r).getD i (0, 0) = q.getD m (0, 0) := by
      rw [List.getD_eq_getElem?_getD, List.getD_eq_getElem?_getD, List.getElem?_append_left (by simp; omega), List.getElem?_append_right (by omega), show i - p.length = m by omega]
    rw [hget] at hc
    obtain ⟨⟨k, s⟩, hks⟩ : ∃ n, q.getD m (0, 0) = n := ⟨_, rfl⟩
    rw [hks] at hc had hcd
    have hal := arity_le k
    obtain ⟨ar, har⟩ : ∃ ar, arity k = ar := ⟨_, rfl⟩
    simp only at had hcd
    rw [har] at had hcd hal
    have HAR : Hid (arity k = ar) := har
    have cc : wr.cell? ⟨g, o + i * 2, none⟩ = some (.int .i64 k) := by rw [below_cell hb hg]; exact hc
    have hil : (i : Int) < ((p ++ q ++ r).length : Nat) := by simp; omega
    have hlen : p.length + (q.length + r.length) = (p ++ q ++ r).length := by simp
    have hdle : d ≤ 9000 := by
      have := free_le q m (by omega) d hd
      omega
    generalize (p ++ q ++ r).length = len at *
    clear hget hks har hc hb hd hfc
    go_wp2_with fail
    refine (rarity_any k _).mono ?_
    rintro e w2 ⟨rfl, rfl⟩
    rw [HAR.out]
    have hsum : (↑(d - ar) : Int) + (ar : Int) = (d : Int) := by omega
    by_cases hm0 : m = 0
    · subst hm0
      have hd0 : d = 0 := by
        have := HD.out
        simp only [List.take_zero, freeN, frees, Option.some.injEq] at this
        omega
      subst hd0
      obtain rfl : ar = 0 := by omega
      obtain rfl : i = p.length := by omega
      clear hcd hil
      go_wp2_with fail
      go_ret
      exact ⟨rfl, HB.out⟩
    · have hd1 : 1 ≤ d := by
        have hD := HD.out
        rw [show m = (m - 1) + 1 by omega] at hD
        exact free_prefix (by omega) hD
      have hdb : ((d : Int) == 0) = false := by rw [beq_eq_false_iff_ne]; omega
      have hc' : (c : Int) - 1 + ar = d := by omega
      clear hcd hil
      go_wp2_with fail
      go_roundw
      case rel => exact ⟨m, d, i - 1, by omega, by omega, by omega, by go_num, by go_num, hd1, hdle, HD.out, HB.out⟩
      case measure => simp [intOf]; omega
/-- Lists read, each no longer than its room. -/
def PRC (w : World) (v : Value) (ps : List (List Nd)) : Prop :=
  ∃ a cap, v = .slice a ps.length cap ∧ ∀ i, i < ps.length → ∃ g o u, a = some ⟨g, o, none⟩ ∧ g < w.heap.size ∧ w.cell? ⟨g, o + i, none⟩ = some u ∧ NReads w u (ps.getD i []) ∧ ∀ a n c, u = .slice a n c → n ≤ c
theorem PRC.reads {w : World} {v : Value} {ps : List (List Nd)} (h : PRC w v ps) : PReads w v ps := by
  obtain ⟨a, c, e, hr⟩ := h
  exact ⟨a, c, e, fun i hi => by obtain ⟨g, o, u, h1, h2, h3, h4, _⟩ := hr i hi; exact ⟨g, o, u, h1, h2, h3, h4⟩⟩
theorem PRC.stay {w w' : World} {v : Value} {ps : List (List Nd)} (h : PRC w v ps) (hb : Below w.heap.size w w') : PRC w' v ps := by
  obtain ⟨a, c, e, hr⟩ := h
  refine ⟨a, c, e, fun i hi => ?_⟩
  obtain ⟨g, o, u, e, hg, h1, h2, h3⟩ := hr i hi
  exact ⟨g, o, u, e, Nat.lt_of_lt_of_le hg hb.size, by rw [below_cell hb hg]; exact h1, h2.stay hb, h3⟩
theorem pb_reads1 {w : World} {G : Nat} {v1 : Value} {p : List Nd} (h : PB w G #[v1]) (h1 : NReads w v1 p) (k1 : ∀ a n c, v1 = .slice a n c → n ≤ c) (c : Nat) : PRC w (.slice (some ⟨G, 0, none⟩) 1 c) [p] := by
  refine ⟨some ⟨G, 0, none⟩, c, rfl, fun i hi => ?_⟩
  have hi : i < 1 := hi
  obtain rfl : i = 0 := by omega
  exact ⟨G, 0, v1, rfl, h.lt, by rw [h.get]; rfl, h1, k1⟩
theorem pb_reads2 {w : World} {G : Nat} {v1 v2 : Value} {p q : List Nd} (h : PB w G #[v1, v2]) (h1 : NReads w v1 p) (h2 : NReads w v2 q) (k1 : ∀ a n c, v1 = .slice a n c → n ≤ c) (k2 : ∀ a n c, v2 = .slice a n c → n ≤ c) (c : Nat) : PRC w (.slice (some ⟨G, 0, none⟩) 2 c) [p, q] := by
  refine ⟨some ⟨G, 0, none⟩, c, rfl, fun i hi => ?_⟩
  have hi : i < 2 := hi
  have hc : i = 0 ∨ i = 1 := by omega
  rcases hc with rfl | rfl
  · exact ⟨G, 0, v1, rfl, h.lt, by rw [h.get]; rfl, h1, k1⟩
  · exact ⟨G, 0, v2, rfl, h.lt, by rw [h.get]; rfl, h2, k2⟩
/-- A list is read from one block alone. -/
theorem NReads.of_block {w w' : World} {g o n c : Nat} {ts : List Nd} (h : NReads w (.slice (some ⟨g, o, none⟩) n c) ts) (hk : w'.heap[g]? = w.heap[g]?) : NReads w' (.slice (some ⟨g, o, none⟩) n c) ts := by
  obtain ⟨a, c', e, hr⟩ := h
  refine ⟨a, c', e, fun i hi => ?_⟩
  obtain ⟨g', o', e2, hg, h1, h2⟩ := hr i hi
  simp only [Value.slice.injEq] at e
  rw [e2, Option.some.injEq, Addr.mk.injEq] at e
  obtain ⟨⟨rfl, rfl, _⟩, _, _⟩ := e
  refine ⟨g, o, e2, ?_, by rw [World.cell?_of_block (a := ⟨g, o + i * 2, none⟩) hk]; exact h1, by rw [World.cell?_of_block (a := ⟨g, o + i * 2 + 1, none⟩) hk]; exact h2⟩
  have : w'.heap[g]?.isSome = true := by rw [hk, Array.getElem?_eq_getElem hg]; rfl
  simpa using this
theorem PB.of_block {w w' : World} {G : Nat} {arr : Array Value} (h : PB w G arr) (hk : w'.heap[G]? = w.heap[G]?) : PB w' G arr := hk.trans h
theorem cut_zero {ts : List Nd} {k s : Int} (hn : ts.getD (ts.length - 1) (0, 0) = (k, s)) (hr : arity k = 0) : cutL ts = [] := by
  unfold cutL; rw [hn]; simp only [hr]
theorem cut_one {ts : List Nd} {k s : Int} (hn : ts.getD (ts.length - 1) (0, 0) = (k, s)) (hr : arity k = 1) : cutL ts = [ts.take (ts.length - 1)] := by
  unfold cutL; rw [hn]; simp only [hr]
theorem cut_two {ts : List Nd} {k s : Int} (hn : ts.getD (ts.length - 1) (0, 0) = (k, s)) (hr : arity k = 2) {a b : Nat} (hstk : stkN (ts.take (ts.length - 1)) = [a, b]) : cutL ts = [ts.take b, (ts.take (ts.length - 1)).drop b] := by
  unfold cutL; rw [hn]; simp only [hr, hstk]

set_option maxHeartbeats 4000000 in
set_option maxRecDepth 100000 in
theorem cut_any (v : Value) (ts : List Nd) (w : World) (hv : NReads w v ts) (h4 : ts.length ≤ 9000) (hf : freeN ts = some 1) (hcap : ∀ a n c, v = .slice a n c → n ≤ c) :
    Calls Tryd.prog 56 #[v] w fun e w' => ∃ u, e = .returned u ∧ (∀ w'', (∀ k, k < w'.heap.size → v.ownBlock = some k ∨ w.heap.size ≤ k → w''.heap[k]? = w'.heap[k]?) → PRC w'' u (cutL ts)) ∧ Below w.heap.size w w' := by
  obtain ⟨h0, hg, hsl⟩ := tree_end hf
  obtain ⟨⟨k, s⟩, hn⟩ : ∃ n, ts.getD (ts.length - 1) (0, 0) = n := ⟨_, rfl⟩
  rw [hn] at hsl
  simp only at hsl
  have HV : Hid (NReads w v ts) := hv
  obtain ⟨av, cv, rfl, hrd⟩ := hv
  have hcv := hcap _ _ _ rfl
  clear hcap
  obtain ⟨g, o, rfl, hgl, hc1, hc2⟩ := hrd (ts.length - 1) (by omega)
  rw [hn] at hc1 hc2
  obtain ⟨n, hnd⟩ : ∃ n, ts.length - 1 = n := ⟨_, rfl⟩
  have hnI : (ts.length : Int) - 1 = n := by omega
  have hnl : (n : Int) < ts.length := by omega
  have hnc : (n : Int) ≤ cv := by omega
  have hal := arity_le k
  have HN : Hid (ts.getD (ts.length - 1) (0, 0) = (k, s)) := hn
  have HF : Hid (freeN ts = some 1) := hf
  rw [hnd] at hc1 hc2
  clear hrd hn hf hg
  have hc : arity k = 0 ∨ arity k = 1 ∨ arity k = 2 := by omega
  rcases hc with hr | hr | hr
  · have HAR : Hid (arity k = 0) := hr
    clear hr hsl
    go_enter Tryd.func56, Tryd.ntmps56
    go_wp2_with fail
    refine (rarity_any k _).mono ?_
    rintro e w2 ⟨rfl, rfl⟩
    rw [HAR.out]
    go_wp2_with fail
    go_ret
    exact ⟨_, rfl, fun w'' _ => by rw [cut_zero HN.out HAR.out]; exact ⟨_, _, rfl, fun i hi => absurd hi (by simp)⟩, Below.refl _ _⟩
  · have HAR : Hid (arity k = 1) := hr
    have HT : Hid (∀ w', Below w.heap.size w w' → NReads w' (.slice (some ⟨g, o, none⟩) n cv) (ts.take n)) := fun w' hb => by
      have hn1 : 0 < n := by
        have hx := (tree_last HF.out HN.out).1
        rw [HAR.out, hnd] at hx
        have := free_pos hx
        simp at this
        omega
      obtain ⟨g', o', e, h⟩ := nreads_part (HV.out.stay hb) (lo := 0) (hi := n) hn1 (by omega)
      cases e
      have := h cv
      simpa using this
    clear hr hsl
    go_enter Tryd.func56, Tryd.ntmps56
    go_wp2_with fail
    refine (rarity_any k _).mono ?_
    rintro e w2 ⟨rfl, rfl⟩
    rw [HAR.out]
    go_wp2_with fail
    go_ret
    have hb2 : Below w2.heap.size w2 (w2.alloc (.cells #[.slice (some ⟨g, o, none⟩) n cv] 22)) := (Below.refl _ _).alloc (Nat.le_refl _) _
    refine ⟨_, rfl, fun w'' hk => ?_, hb2⟩
    rw [cut_one HN.out HAR.out, hnd]
    exact pb_reads1 ((PB.new w2 #[.slice (some ⟨g, o, none⟩) n cv]).of_block (hk _ (by simp) (.inr (Nat.le_refl _)))) ((HT.out _ hb2).of_block (hk g (Nat.lt_of_lt_of_le hgl hb2.size) (.inl rfl))) (fun a n c h => by cases h; omega) 1
  · have HAR : Hid (arity k = 2) := hr
    rw [hr, hnd] at hsl
    obtain ⟨a, b, hstk⟩ : ∃ a b, stkN (ts.take n) = [a, b] := by
      match hh : stkN (ts.take n), hsl with
      | [a, b], _ => exact ⟨a, b, rfl⟩
    obtain ⟨p, q, he, hfp, hfq, e1, e2⟩ := tree_two HF.out HN.out (by rw [hnd]; exact hstk)
    have HC : Hid (cutL ts = [p, q]) := by show _ = _; rw [cut_two HN.out HAR.out (by rw [hnd]; exact hstk), e1, e2]
    have hbp : p.length = b := by
      have := congrArg List.length e1
      have h2 := congrArg List.length e2
      simp only [List.length_take, List.length_drop] at this h2
      have := free_pos hfq
      omega
    have hpq : p.length + q.length = n := by
      have := congrArg List.length he
      simp only [List.length_append, List.length_singleton] at this
      omega
    have hp1 := free_pos hfp
    have hq1 := free_pos hfq
    rw [hnd] at e2
    have HT : Hid (∀ w', Below w.heap.size w w' → NReads w' (.slice (some ⟨g, o, none⟩) b cv) p ∧ NReads w' (.slice (some ⟨g, o + b * 2, none⟩) (n - b) (cv - b)) q) := fun w' hb => by
      obtain ⟨g', o', e, h⟩ := nreads_part (HV.out.stay hb) (lo := 0) (hi := b) (by omega) (by omega)
      cases e
      have hx := h cv
      rw [List.drop_zero, e1] at hx
      obtain ⟨g', o', e, h⟩ := nreads_part (HV.out.stay hb) (lo := b) (hi := n) (by omega) (by omega)
      cases e
      have hy := h (cv - b)
      rw [e2] at hy
      exact ⟨by simpa using hx, hy⟩
    have HVp : Hid (NReads w (.slice (some ⟨g, o, none⟩) ts.length cv) (p ++ q ++ [(k, s)])) := by
      have := HV.out
      show NReads _ _ _
      rw [← he]; exact this
    obtain ⟨m, hm⟩ : ∃ m, n - 1 = m := ⟨_, rfl⟩
    have hmI : (n : Int) - 1 = m := by omega
    have hbn : (b : Int) ≤ n := by omega
    have hbc : (b : Int) ≤ cv := by omega
    have HBP : Hid (p.length = b ∧ m + 1 = p.length + q.length ∧ p.length + q.length ≤ 9000 ∧ freeN q = some 1) := ⟨hbp, by omega, by omega, hfq⟩
    have hbcv : ¬ b = cv := by omega
    clear hr hsl hstk he e1 e2 hfp hfq hpq
    go_enter Tryd.func56, Tryd.ntmps56
    go_wp2_with fail
    refine (rarity_any k _).mono ?_
    rintro e w2 ⟨rfl, rfl⟩
    rw [HAR.out]
    go_wp2_with fail
    refine (begin_any _ p q [(k, s)] _ HVp.out HBP.out.2.2.1 HBP.out.2.2.2 m HBP.out.2.1).mono ?_
    rintro e w3 ⟨rfl, hb3⟩
    rw [HBP.out.1]
    have HB3 : Hid (Below w2.heap.size w2 w3) := hb3
    clear hb3 hbp
    go_wp2_with fail
    go_region
    all_goals go_wp2_with fail
    all_goals go_ret
    have hb4 : Below w2.heap.size w2 (w3.alloc (.cells #[.slice (some ⟨g, o, none⟩) b cv, .slice (some ⟨g, o + b * 2, none⟩) (n - b) (cv - b)] 22)).drew := (HB3.out.alloc HB3.out.size _).drew
    refine ⟨_, rfl, fun w'' hk => ?_, hb4⟩
    rw [HC.out]
    exact pb_reads2 ((show PB (w3.alloc (.cells #[.slice (some ⟨g, o, none⟩) b cv, .slice (some ⟨g, o + b * 2, none⟩) (n - b) (cv - b)] 22)).drew w3.heap.size _ from PB.new w3 _).of_block (hk _ (by show w3.heap.size < (w3.alloc _).heap.size; simp) (.inr HB3.out.size))) ((HT.out _ hb4).1.of_block (hk g (Nat.lt_of_lt_of_le hgl hb4.size) (.inl rfl))) ((HT.out _ hb4).2.of_block (hk g (Nat.lt_of_lt_of_le hgl hb4.size) (.inl rfl))) (fun a n c h => by cases h; omega) (fun a n c h => by cases h; omega) 2

end Go.Proofs.YtdmjcfecahcdnaaDoor

namespace Go.Proofs.YtdmjcfecahcdnaaDoor
open Go Go.RowKit

theorem tot_le {ps : List (List Nd)} (i : Nat) : tot (ps.take i) ≤ tot ps := by
  unfold tot
  conv => rhs; rw [← List.take_append_drop i ps, List.flatten_append]
  simp
theorem NB.grown {w w' : World} {b : Nat} {k s : Int} {row : Option Nat} (h : NB w b k s) (hg : w.grownBy w' row) (hne : row ≠ some b) : NB w' b k s :=
  (hg.block b h.lt (fun e => hne e.symm)).trans h

set_option maxHeartbeats 4000000 in
set_option maxRecDepth 100000 in
theorem made_any (k s : Int) (v : Value) (ps : List (List Nd)) (w : World) (hv : PReads w v ps) (hne : ∀ i, i < ps.length → 1 ≤ (ps.getD i []).length) (ht : tot ps + 1 ≤ 9000) (hl : ps.length ≤ 9000) :
    Calls Tryd.prog 60 #[ndV (k, s), v] w fun e w' => ∃ u, e = .returned u ∧ w'.ownsRow w.heap.size 52 2 u (ps.flatten ++ [(k, s)]).length (ndC (ps.flatten ++ [(k, s)])) ∧ Below w.heap.size w w' := by
  obtain ⟨i0, hi0, hz0, hz1, hz2⟩ := info_parts Tryd.info_node
  have HV : Hid (PReads w v ps) := hv
  obtain ⟨a, cap, rfl, hr⟩ := hv
  have HR : Hid _ := hr
  have HNE : Hid (∀ i, i < ps.length → 1 ≤ (ps.getD i []).length) := hne
  have BA : Hid (Below w.heap.size w (w.alloc (.cells #[.int .i64 k, .int .u8 s] 52))) := (Below.refl _ _).alloc (Nat.le_refl _) _
  have RN : Hid (NB (w.alloc (.cells #[.int .i64 k, .int .u8 s] 52)) w.heap.size k s) := NB.new w k s
  show Calls Tryd.prog 60 #[.agg #[.int .i64 k, .int .u8 s], .slice a ps.length cap] w _
  clear hr hne
  go_enter Tryd.func60, Tryd.ntmps60
  go_wp2_with fail
  go_loopw [5, 6] (fun vo vi wr => ∃ i : Nat, i ≤ ps.length ∧ vi = .int .i64 i ∧ wr.ownsRow (w.heap.size + 1) 52 2 vo (ps.take i).flatten.length (ndC (ps.take i).flatten) ∧ NB wr w.heap.size k s ∧ Below w.heap.size w wr) (fun _ vi _ => ps.length - (intOf vi).toNat)
  case atStart => exact ⟨0, Nat.zero_le _, rfl, World.ownsRow_nil _ _ _ _, RN.out, BA.out⟩
  case round =>
    clear RN BA
    obtain ⟨i, hi, rfl, ho, hnb, hb⟩ := hrel
    obtain ⟨X, hX⟩ : ∃ X, (ps.take i).flatten = X := ⟨_, rfl⟩
    rw [hX] at ho
    have hXl : X.length ≤ 9000 := by
      have := tot_le (ps := ps) i
      unfold tot at this
      rw [hX] at this
      unfold tot at ht
      omega
    have HX : Hid ((ps.take i).flatten = X) := hX
    obtain ⟨oa, oc, rfl⟩ := own_shape ho
    have HO : Hid (wr.ownsRow (w.heap.size + 1) 52 2 (.slice oa X.length oc) X.length (ndC X)) := ho
    have HNB : Hid (NB wr w.heap.size k s) := hnb
    have HB : Hid (Below w.heap.size w wr) := hb
    have hws : w.heap.size + 1 ≤ wr.heap.size := hnb.lt
    clear ho hnb hb hX
    by_cases hlt : i < ps.length
    · have hiI : (i : Int) < ps.length := by omega
      obtain ⟨g, o, u, rfl, hgl, hc, hu⟩ := HR.out i hlt
      have cc : wr.cell? ⟨g, o + i, none⟩ = some u := by rw [below_cell HB.out hgl]; exact hc
      obtain ⟨p, hp⟩ : ∃ p, ps.getD i [] = p := ⟨_, rfl⟩
      have hp1 := HNE.out i hlt
      have hpt := tot_next hlt
      have htl := tot_le (ps := ps) (i + 1)
      rw [hp] at hu hp1 hpt
      have hsum : X.length + p.length ≤ 9000 := by
        have e : tot (ps.take i) = X.length := by unfold tot; rw [HX.out]
        omega
      have HU : Hid (NReads wr u p) := hu.stay HB.out
      obtain ⟨au, cu, rfl, hx⟩ := hu
      obtain ⟨g2, o2, rfl, _⟩ := hx 0 (by omega)
      have HCS : Hid (∀ j u, (ndC p)[j]? = some u → wr.cell? ((⟨g2, o2, none⟩ : Addr).add j) = some u) := nreads_cells HU.out
      have hcl := ndC_length p
      have hc1 := ndC_one p
      have HF : Hid ((ps.take (i + 1)).flatten = X ++ p) := by show _ = _; rw [flat_next hlt, HX.out, hp]
      clear hx hc hp hpt htl
      go_wp2_with (at_builtin; refine wpList_append_own _ rfl _ _ 22 rfl (w.heap.size + 1) 52 i0 (.agg #[.int .i64 0, .int .u8 0]) 2 16 Tryd.underlying22 hi0 hz0 hz1 hz2 rfl (by decide) _ _ _ rfl HO.out ⟨g2, o2, none⟩ p.length cu (ndC p) rfl hcl HCS.out hc1 (by unfold maxLen; omega) (by omega) hws ?_)
      intro v2 w2 ho2 hg2 _
      have HO2 : Hid (w2.ownsRow (w.heap.size + 1) 52 2 v2 (X ++ p).length (ndC (X ++ p))) := by
        show World.ownsRow _ _ _ _ _ _ _
        rw [ndC_append, List.length_append]
        exact ho2
      have HNB2 : Hid (NB w2 w.heap.size k s) := HNB.out.grown hg2 (fun e => by have := (HO.out.lt _ e).1; omega)
      have HB2 : Hid (Below w.heap.size w w2) := HB.out.grown hg2 HB.out.size (fun k' hk' => by have := (HO.out.lt _ hk').1; omega)
      clear ho2 hg2
      go_wp2_with fail
      go_roundw
      case rel => exact ⟨i + 1, by omega, by go_num, by rw [HF.out]; exact HO2.out, HNB2.out, HB2.out⟩
      case measure => simp [intOf]; omega
    · have hiI : ¬ (i : Int) < ps.length := by omega
      obtain rfl : i = ps.length := by omega
      rw [List.take_length] at HX
      have c0 := HNB.out.fst
      have c1 := HNB.out.snd
      go_wp2_with (at_builtin; refine wpList_append_own _ rfl _ _ 22 rfl (w.heap.size + 1) 52 i0 (.agg #[.int .i64 0, .int .u8 0]) 2 16 Tryd.underlying22 hi0 hz0 hz1 hz2 rfl (by decide) _ _ _ rfl (HO.out.alloc _) ⟨wr.heap.size, 0, none⟩ 1 1 [.int .i64 k, .int .u8 s] rfl rfl ?f1 ?f2 ?f3 ?f4 ?f5 ?_)
      case f2 => exact ⟨rfl, rfl⟩
      case f3 => unfold maxLen; omega
      case f4 => omega
      case f5 => first | omega | (simp; omega)
      intro v2 w2 ho2 hg2 _
      have HO2 : Hid (w2.ownsRow w.heap.size 52 2 v2 (X ++ [(k, s)]).length (ndC (X ++ [(k, s)]))) := by
        show World.ownsRow _ _ _ _ _ _ _
        rw [ndC_append, List.length_append]
        exact own_mono ho2 (by omega)
      have HB2 : Hid (Below w.heap.size w w2) := (HB.out.alloc HB.out.size _).grown hg2 (by have := HB.out.size; simp; omega) (fun k' hk' => by have := (HO.out.lt _ hk').1; omega)
      clear ho2 hg2
      go_wp2_with fail
      go_ret
      refine ⟨_, rfl, ?_, HB2.out⟩
      rw [HX.out]
      exact HO2.out

theorem cut_flat_one {n : Nd} {a : Tr} (h : (Tr.one n a).ok) : cutL (Tr.one n a).flat = [a.flat] := by
  have hl : (Tr.one n a).flat.length - 1 = a.flat.length := by simp [Tr.flat]
  have hn : (Tr.one n a).flat.getD ((Tr.one n a).flat.length - 1) (0, 0) = (n.1, n.2) := by
    rw [hl, Tr.flat, List.getD_eq_getElem?_getD, List.getElem?_append_right (Nat.le_refl _)]; simp
  rw [cut_one hn h.2.1, hl, Tr.flat, List.take_left]
theorem cut_flat_two {n : Nd} {a b : Tr} (h : (Tr.two n a b).ok) : cutL (Tr.two n a b).flat = [a.flat, b.flat] := by
  have hl : (Tr.two n a b).flat.length - 1 = (a.flat ++ b.flat).length := by simp [Tr.flat]
  have hn : (Tr.two n a b).flat.getD ((Tr.two n a b).flat.length - 1) (0, 0) = (n.1, n.2) := by
    rw [hl, Tr.flat, List.getD_eq_getElem?_getD, List.getElem?_append_right (Nat.le_refl _)]; simp
  have ht : (Tr.two n a b).flat.take ((Tr.two n a b).flat.length - 1) = a.flat ++ b.flat := by rw [hl, Tr.flat, List.take_left]
  have hstk : stkN ((Tr.two n a b).flat.take ((Tr.two n a b).flat.length - 1)) = [b.flat.length, a.flat.length] := by
    rw [ht, stkN, stk_append, Tr.stk_flat a h.2.2.1, Tr.stk_flat b h.2.2.2]
  rw [cut_two hn h.2.1 hstk, ht, List.drop_left]
  rw [Tr.flat, List.append_assoc, List.take_left]
theorem cut_flat_zero {n : Nd} (h : (Tr.zero n).ok) : cutL (Tr.zero n).flat = [] :=
  cut_zero (k := n.1) (s := n.2) rfl h.2
theorem flat_last (t : Tr) : t.flat.getD (t.flat.length - 1) (0, 0) = t.root := by
  obtain ⟨X, hX⟩ := t.flat_root
  rw [hX, List.getD_eq_getElem?_getD, List.getElem?_append_right (by simp)]
  simp

abbrev S3 (W : World) (B : Nat) (k s : Int) (ad : Addr) (u : Value) (w' : World) : Prop := w'.cell? ⟨B, 0, none⟩ = some (.int .i64 k) ∧ w'.cell? ⟨B, 1, none⟩ = some (.int .u8 s) ∧ w'.cell? ad = some u ∧ Below W.heap.size W w'
theorem s3_step {W : World} {B : Nat} {k s : Int} {ad : Addr} {u : Value} {w1 w2 : World} (h1 : B < W.heap.size) (h2 : ad.block < W.heap.size) (hb : Below w1.heap.size w1 w2) (h : S3 W B k s ad u w1) : S3 W B k s ad u w2 := by
  have hs := h.2.2.2.size
  refine ⟨?_, ?_, ?_, go_on h.2.2.2 hb⟩
  · rw [below_cell hb (by omega)]; exact h.1
  · rw [below_cell hb (by omega)]; exact h.2.1
  · rw [World.cell?_of_block (hb.block _ (Nat.lt_of_lt_of_le h2 hs))]; exact h.2.2.1
theorem s3_alloc {W : World} {B : Nat} {k s : Int} {ad : Addr} {u : Value} {w1 : World} (h1 : B < W.heap.size) (h2 : ad.block < W.heap.size) (O : Obj) (h : S3 W B k s ad u w1) : S3 W B k s ad u (w1.alloc O) := s3_step h1 h2 ((Below.refl _ _).alloc (Nat.le_refl _) O) h

theorem one_pos {p : List Nd} (h : 1 ≤ p.length) : ∀ i, i < [p].length → 1 ≤ ([p].getD i []).length := fun i hi => by
  have hi : i < 1 := hi
  obtain rfl : i = 0 := by omega
  exact h
theorem two_pos {p q : List Nd} (h : 1 ≤ p.length) (h' : 1 ≤ q.length) : ∀ i, i < [p, q].length → 1 ≤ ([p, q].getD i []).length := fun i hi => by
  have hi : i < 2 := hi
  have hc : i = 0 ∨ i = 1 := by omega
  rcases hc with rfl | rfl
  · exact h
  · exact h'
theorem tot_one (p : List Nd) : tot [p] = p.length := by simp [tot]
theorem tot_two (p q : List Nd) : tot [p, q] = p.length + q.length := by simp [tot]
end Go.Proofs.YtdmjcfecahcdnaaDoor
