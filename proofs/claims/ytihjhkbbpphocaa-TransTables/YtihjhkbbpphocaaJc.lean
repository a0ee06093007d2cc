/- Automata in memory; contracts of auto.Check and of the document's. -/
import Derived.Test.YtihjhkbbpphocaaJb
import Derived.Test.YtihjhkbbpphocaaChk
import Derived.Lib.UnsafeStr
import Derived.Deep.RegionWith
import Derived.Maps.AppendAt
namespace Go.Proofs.Ytihjhkbbpphocaa
open Go Go.RowKit Go.Lib
set_option linter.unusedVariables false

theorem below_cellJ {w w' : World} {B g o : Nat} (h : Below B w w') (hg : g < B) : w'.cell? ⟨g, o, none⟩ = w.cell? ⟨g, o, none⟩ := by
  have := h.cell (p := ⟨g, o, none⟩) hg
  exact this
theorem go_on {w a b : World} (h : Below w.heap.size w a) (k : Below a.heap.size a b) : Below w.heap.size w b := h.trans (k.mono h.size)
theorem below_drewN {B : Nat} {w W : World} (h : Below B w W) (q : Nat) : Below B w (W.drewN q) := ⟨h.os, h.tape, h.output, h.size, h.block⟩
theorem below_new (w : World) (o : Obj) : Below w.heap.size w (w.alloc o) := (Below.refl _ _).alloc (Nat.le_refl _) _
def zC (l : List Int) : List Value := l.map fun n => Value.int .i64 n
def bC (l : List Bool) : List Value := l.map fun b => Value.bool b
theorem zC_append (a b : List Int) : zC (a ++ b) = zC a ++ zC b := by simp [zC]
theorem bC_append (a b : List Bool) : bC (a ++ b) = bC a ++ bC b := by simp [bC]
theorem zC_len (a : List Int) : (zC a).length = a.length := by simp [zC]
theorem bC_len (a : List Bool) : (bC a).length = a.length := by simp [bC]
/-- A slice reads as these one-cell values. -/
def SR (w : World) (a : Option Addr) (us : List Value) : Prop := ∀ i u, us[i]? = some u → ∃ g o, a = some ⟨g, o, none⟩ ∧ g < w.heap.size ∧ w.cell? ⟨g, o + i, none⟩ = some u
theorem SR.stay {w w' : World} {a : Option Addr} {us : List Value} (h : SR w a us) (hb : Below w.heap.size w w') : SR w' a us := by
  intro i u hi
  obtain ⟨g, o, e, hg, hc⟩ := h i u hi
  exact ⟨g, o, e, Nat.lt_of_lt_of_le hg hb.size, by rw [below_cellJ hb hg]; exact hc⟩
theorem SR.nil (w : World) (a : Option Addr) : SR w a [] := fun i u h => by simp at h
theorem SR.int {w : World} {a : Option Addr} {xs : List Int} (h : SR w a (zC xs)) {i : Nat} (hi : i < xs.length) : ∃ g o, a = some ⟨g, o, none⟩ ∧ g < w.heap.size ∧ w.cell? ⟨g, o + i, none⟩ = some (.int .i64 (xs.getD i 0)) :=
  h i _ (by simp [zC, List.getD_eq_getElem?_getD, hi])
theorem SR.bool {w : World} {a : Option Addr} {xs : List Bool} (h : SR w a (bC xs)) {i : Nat} (hi : i < xs.length) : ∃ g o, a = some ⟨g, o, none⟩ ∧ g < w.heap.size ∧ w.cell? ⟨g, o + i, none⟩ = some (.bool (xs.getD i false)) :=
  h i _ (by simp [bC, List.getD_eq_getElem?_getD, hi])
theorem own_shape {w : World} {base : Nat} {e : TypeId} {size n : Nat} {v : Value} {xs : List Value} (h : w.ownsRow base e size v n xs) : ∃ a cap, v = .slice a n cap := by
  obtain ⟨_, h⟩ := h
  rcases h with ⟨rfl, hn⟩ | ⟨g, cap, cur, rfl, _⟩
  · exact ⟨none, 0, by rw [hn]⟩
  · exact ⟨_, _, rfl⟩
theorem own_sr {w : World} {base : Nat} {e : TypeId} {a : Option Addr} {n cap : Nat} {us : List Value} (h : w.ownsRow base e 1 (.slice a n cap) n us) : SR w a us := by
  intro i u hi
  have hown := h
  obtain ⟨h0, h1⟩ := h
  have hil := (List.getElem?_eq_some_iff.1 hi).1
  rcases h1 with ⟨h1, hn⟩ | ⟨g, cap', cur, h1, r⟩
  · omega
  · simp only [Value.slice.injEq] at h1
    obtain ⟨rfl, _, rfl⟩ := h1
    refine ⟨g, 0, rfl, (Array.getElem?_eq_some_iff.1 r.2.1).1, ?_⟩
    rw [Nat.zero_add, hown.cellAt i (by omega)]
    exact hi
theorem own_mono {w : World} {base base' : Nat} {e : TypeId} {size n : Nat} {v : Value} {xs : List Value} (h : w.ownsRow base e size v n xs) (hb : base' ≤ base) : w.ownsRow base' e size v n xs := by
  obtain ⟨a, b⟩ := h
  refine ⟨a, ?_⟩
  rcases b with b | ⟨g, cap, cur, e, r, r2⟩
  · exact .inl b
  · exact .inr ⟨g, cap, cur, e, Nat.le_trans hb r, r2⟩
theorem own_below {w w' : World} {base : Nat} {e : TypeId} {size n : Nat} {v : Value} {xs : List Value} (h : w.ownsRow base e size v n xs) (hb : Below w.heap.size w w') : w'.ownsRow base e size v n xs := by
  obtain ⟨a, b⟩ := h
  refine ⟨a, ?_⟩
  rcases b with b | ⟨g, cap, cur, e1, r, r2, r3⟩
  · exact .inl b
  · exact .inr ⟨g, cap, cur, e1, r, by rw [hb.block g (Array.getElem?_eq_some_iff.1 r2).1]; exact r2, r3⟩
theorem Try.info_int : (Try.prog.info? 3).map (fun i => (i.zero, i.size, i.bytes)) = some (some (.int .i64 0), 1, 8) := by kernel_rfl
theorem Try.info_bool : (Try.prog.info? 4).map (fun i => (i.zero, i.size, i.bytes)) = some (some (.bool false), 1, 1) := by kernel_rfl

/-- An automaton's data. -/
structure Aut where
  k : Int
  nx : List Int
  ac : List Bool
/-- What is an automaton. -/
structure Good (A : Aut) : Prop where
  k1 : 1 ≤ A.k
  k8 : A.k ≤ 8
  n1 : 1 ≤ A.ac.length
  n2 : A.ac.length ≤ 4096
  len : (A.nx.length : Int) = A.ac.length * A.k
  lo : ∀ i, i < A.nx.length → 0 ≤ A.nx.getD i 0
  hi : ∀ i, i < A.nx.length → A.nx.getD i 0 < A.ac.length
open Classical in
/-- What Check answers. -/
noncomputable def chkA (A : Aut) : Int := if Good A then 0 else 80
theorem chkA_ok {A : Aut} (h : Good A) : chkA A = 0 := by unfold chkA; exact if_pos h
theorem chkA_no {A : Aut} (h : ¬ Good A) : chkA A = 80 := by unfold chkA; exact if_neg h
/-- An automaton's value, and what its lists read as. -/
structure AR (w : World) (v : Value) (A : Aut) : Prop where
  is : ∃ an cn aa ca, v = .agg #[.int .i64 A.k, .slice an A.nx.length cn, .slice aa A.ac.length ca] ∧ SR w an (zC A.nx) ∧ SR w aa (bC A.ac)
theorem AR.stay {w w' : World} {v : Value} {A : Aut} (h : AR w v A) (hb : Below w.heap.size w w') : AR w' v A := by
  obtain ⟨an, cn, aa, ca, e, h1, h2⟩ := h.is
  exact ⟨an, cn, aa, ca, e, h1.stay hb, h2.stay hb⟩

set_option maxHeartbeats 1000000 in
set_option maxRecDepth 100000 in
theorem acheck_any (v : Value) (A : Aut) (w : World) (h : AR w v A) (hm : A.nx.length ≤ 9223372036854775806) (hm2 : A.ac.length ≤ 9223372036854775806) :
    Calls Try.prog 48 #[v] w fun e w' => e = .returned (.int .i64 (chkA A)) ∧ Below w.heap.size w w' := by
  obtain ⟨an, cn, aa, ca, rfl, h1, h2⟩ := h.is
  have H1 : Hid (SR w an (zC A.nx)) := h1
  clear h h1 h2
  obtain ⟨k, nx, ac⟩ := A
  simp only at H1 hm hm2 ⊢
  by_cases c1 : k < 1
  · have HE := chkA_no (A := ⟨k, nx, ac⟩) (fun g => by have := g.k1; simp at this; omega)
    rw [HE]
    clear HE
    go_enter Try.func48, Try.ntmps48
    go_wp2_with fail
    go_ret
    exact ⟨rfl, below_new _ _⟩
  by_cases c2 : 8 < k
  · have HE := chkA_no (A := ⟨k, nx, ac⟩) (fun g => by have := g.k8; simp at this; omega)
    rw [HE]
    clear HE
    go_enter Try.func48, Try.ntmps48
    go_wp2_with fail
    go_ret
    exact ⟨rfl, below_new _ _⟩
  have c1' : 1 ≤ k := by omega
  have c2' : k ≤ 8 := by omega
  have hd1 : decide (k < 1) = false := by simpa using c1'
  have hd8 : decide (8 < k) = false := by simpa using c2'
  clear c1 c2
  by_cases c3 : ac.length < 1
  · have HE := chkA_no (A := ⟨k, nx, ac⟩) (fun g => by have := g.n1; simp at this; omega)
    rw [HE]
    clear HE
    have c3' : (ac.length : Int) < 1 := by omega
    go_enter Try.func48, Try.ntmps48
    go_wp2_with fail
    go_ret
    exact ⟨rfl, below_new _ _⟩
  by_cases c4 : 4096 < ac.length
  · have HE := chkA_no (A := ⟨k, nx, ac⟩) (fun g => by have := g.n2; simp at this; omega)
    rw [HE]
    clear HE
    have c4' : (4096 : Int) < ac.length := by omega
    have c3' : ¬ (ac.length : Int) < 1 := by omega
    go_enter Try.func48, Try.ntmps48
    go_wp2_with fail
    go_ret
    exact ⟨rfl, below_new _ _⟩
  have c3' : ¬ (ac.length : Int) < 1 := by omega
  have c4' : ¬ (4096 : Int) < ac.length := by omega
  have hmul : (ac.length : Int) * k ≤ 4096 * 8 := Int.mul_le_mul (by omega) c2' (by omega) (by omega)
  have hmul0 : 0 ≤ (ac.length : Int) * k := Int.mul_nonneg (by omega) (by omega)
  obtain ⟨P, hP⟩ : ∃ P : Int, (ac.length : Int) * k = P := ⟨_, rfl⟩
  have hw : IntKind.i64.wrap ((ac.length : Int) * k) = P := by rw [hP, IntKind.wrap_i64]; omega
  by_cases c5 : (nx.length : Int) = P
  · have hw2 : IntKind.i64.wrap ((ac.length : Int) * k) = nx.length := by rw [hw, c5]
    have HP : Hid ((nx.length : Int) = ac.length * k) := by show (nx.length : Int) = ac.length * k; omega
    have HC : Hid (1 ≤ k ∧ k ≤ 8 ∧ 1 ≤ ac.length ∧ ac.length ≤ 4096) := by show 1 ≤ k ∧ k ≤ 8 ∧ 1 ≤ ac.length ∧ ac.length ≤ 4096; omega
    have HNB : Hid (nx.length ≤ 32768) := by show nx.length ≤ 32768; omega
    clear hP hmul hmul0 hw c5
    go_enter Try.func48, Try.ntmps48
    go_wp2_with fail
    clear hw2
    go_loopw [38] (fun vi wr => ∃ i : Nat, vi = .int .i64 i ∧ i ≤ nx.length ∧ (∀ t, t < i → 0 ≤ nx.getD t 0 ∧ nx.getD t 0 < ac.length) ∧ wr = w.alloc (.cells #[.int .i64 k, .slice an nx.length cn, .slice aa ac.length ca] 58)) (fun vi _ => nx.length - (intOf vi).toNat)
    case atStart => exact ⟨0, rfl, Nat.zero_le _, fun t ht => by omega, rfl⟩
    case round =>
      obtain ⟨i, rfl, hin, hall, rfl⟩ := hrel
      have HA : Hid (∀ t, t < i → 0 ≤ nx.getD t 0 ∧ nx.getD t 0 < ac.length) := hall
      have hnb := HNB.out
      clear hall
      by_cases hlt : i < nx.length
      · have hltI : (i : Int) < nx.length := by omega
        obtain ⟨g, o, rfl, hg, hc⟩ := H1.out.int hlt
        obtain ⟨x, hx⟩ : ∃ x, nx.getD i 0 = x := ⟨_, rfl⟩
        rw [hx] at hc
        have HX : Hid (nx.getD i 0 = x) := hx
        have hc' : (w.alloc (.cells #[.int .i64 k, .slice (some ⟨g, o, none⟩) nx.length cn, .slice aa ac.length ca] 58)).cell? ⟨g, o + i, none⟩ = some (.int .i64 x) := by rw [below_cellJ (below_new _ _) hg]; exact hc
        clear hx hc
        by_cases d1 : x < 0
        · have HE : Hid (chkA ⟨k, nx, ac⟩ = 80) := chkA_no (fun G => by have := G.lo i hlt; rw [HX.out] at this; omega)
          go_wp2_with fail
          go_ret
          exact ⟨ret_intJ HE.out.symm, below_new _ _⟩
        · by_cases d2 : (ac.length : Int) ≤ x
          · have HE : Hid (chkA ⟨k, nx, ac⟩ = 80) := chkA_no (fun G => by have := G.hi i hlt; rw [HX.out] at this; simp at this; omega)
            go_wp2_with fail
            go_ret
            exact ⟨ret_intJ HE.out.symm, below_new _ _⟩
          · go_wp2_with fail
            go_roundw
            case rel =>
              refine ⟨i + 1, by go_num, by omega, fun t ht => ?_, trivial⟩
              by_cases e : t = i
              · subst e; rw [HX.out]; omega
              · exact HA.out t (by omega)
            case measure => simp [intOf]; omega
      · have hltI : ¬ (i : Int) < nx.length := by omega
        have HE : Hid (chkA ⟨k, nx, ac⟩ = 0) := chkA_ok ⟨HC.out.1, HC.out.2.1, HC.out.2.2.1, HC.out.2.2.2, HP.out, fun t ht => (HA.out t (by simp at ht; omega)).1, fun t ht => (HA.out t (by simp at ht; omega)).2⟩
        go_wp2_with fail
        go_ret
        exact ⟨ret_intJ HE.out.symm, below_new _ _⟩
  · rw [chkA_no (A := ⟨k, nx, ac⟩) (fun g => by have := g.len; simp at this; omega)]
    clear hP hmul hmul0
    go_enter Try.func48, Try.ntmps48
    go_wp2_with fail
    go_ret
    exact ⟨rfl, below_new _ _⟩
end Go.Proofs.Ytihjhkbbpphocaa
