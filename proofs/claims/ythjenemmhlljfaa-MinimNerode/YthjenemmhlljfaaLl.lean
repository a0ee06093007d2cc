/- minim: Differ. -/
import Derived.Test.YthjenemmhlljfaaLj
import Derived.OwnWalk
namespace Go.Proofs.Ythjenemmhlljfaa
open Go Go.RowKit Go.Lib
set_option linter.unusedVariables false

/-- Is it a state? -/
def stO (A : Aut) (s : Int) : Prop := 0 ≤ s ∧ s < A.ac.length
instance (A : Aut) (s : Int) : Decidable (stO A s) := by unfold stO; infer_instance
/-- What Differ answers. -/
noncomputable def dfE (A : Aut) (s t : Int) : Int := if chkA A = 0 then (if stO A s ∧ stO A t then 0 else 11) else 80
noncomputable def dfO (A : Aut) (s t : Int) : Option (List Nat) := if dfE A s t = 0 then apO A s.toNat t.toNat else none
def DfQ (A : Aut) (s t : Int) (w : World) (e : Ending) (w' : World) : Prop := e = .returned (.tuple #[.string (apS (dfO A s t)), .bool (apF (dfO A s t)), .int .i64 (dfE A s t)]) ∧ (∀ u, dfO A s t = some u → u.length < A.ac.length) ∧ Below w.heap.size w w'
theorem dfE_ok {A : Aut} {s t : Int} (h : chkA A = 0) (hs : stO A s) (ht : stO A t) : dfE A s t = 0 ∧ dfO A s t = apO A s.toNat t.toNat := by
  have : dfE A s t = 0 := by unfold dfE; rw [if_pos h, if_pos ⟨hs, ht⟩]
  refine ⟨this, ?_⟩
  unfold dfO
  rw [if_pos this]
theorem dfE_range {A : Aut} {s t : Int} (h : chkA A = 0) (hs : ¬ (stO A s ∧ stO A t)) : dfE A s t = 11 ∧ dfO A s t = none := by
  have : dfE A s t = 11 := by unfold dfE; rw [if_pos h, if_neg hs]
  refine ⟨this, ?_⟩
  unfold dfO
  rw [if_neg (by rw [this]; decide)]
theorem dfE_bad {A : Aut} (s t : Int) (h : chkA A = 80) : dfE A s t = 80 ∧ dfO A s t = none := by
  have : dfE A s t = 80 := by unfold dfE; rw [if_neg (by rw [h]; decide)]
  refine ⟨this, ?_⟩
  unfold dfO
  rw [if_neg (by rw [this]; decide)]

set_option maxHeartbeats 2000000 in
set_option maxRecDepth 100000 in
theorem isState_any (v : Value) (A : Aut) (w : World) (h : AR w v A) (s : Int) (b : Bool) (hb : decide (stO A s) = b) :
    Calls Try.prog 41 #[v, .int .i64 s] w fun e w' => e = .returned (.bool b) ∧ Below w.heap.size w w' := by
  obtain ⟨an, cn, aa, ca, rfl, _, _⟩ := h.is
  have HB : Hid (decide (stO A s) = b) := hb
  clear h hb
  by_cases h0 : 0 ≤ s
  · by_cases h1 : s < A.ac.length
    · have HT : Hid (b = true) := by show _ = _; rw [← HB.out]; exact decide_eq_true ⟨h0, h1⟩
      have d0 : decide (0 ≤ s) = true := decide_eq_true h0
      have d1 : decide (s < (A.ac.length : Int)) = true := decide_eq_true h1
      clear HB
      go_enter Try.func41, Try.ntmps41
      go_wp2_with fail
      go_ret
      exact ⟨by rw [HT.out]; rfl, below_new _ _⟩
    · have HT : Hid (b = false) := by show _ = _; rw [← HB.out]; exact decide_eq_false fun q => h1 q.2
      have d0 : decide (0 ≤ s) = true := decide_eq_true h0
      have d1 : decide (s < (A.ac.length : Int)) = false := decide_eq_false h1
      clear HB
      go_enter Try.func41, Try.ntmps41
      go_wp2_with fail
      go_ret
      exact ⟨by rw [HT.out]; rfl, below_new _ _⟩
  · have HT : Hid (b = false) := by show _ = _; rw [← HB.out]; exact decide_eq_false fun q => h0 q.1
    have d0 : decide (0 ≤ s) = false := decide_eq_false h0
    clear HB
    go_enter Try.func41, Try.ntmps41
    go_wp2_with fail
    go_ret
    exact ⟨by rw [HT.out]; rfl, below_new _ _⟩

set_option maxHeartbeats 4000000 in
set_option maxRecDepth 100000 in
theorem mdiffer_any (v : Value) (A : Aut) (w : World) (h : AR w v A) (hm : A.nx.length ≤ 9223372036854775806) (hm2 : A.ac.length ≤ 9223372036854775806) (s t : Int) :
    Calls Try.prog 24 #[v, .int .i64 s, .int .i64 t] w (DfQ A s t w) := by
  obtain ⟨an, cn, aa, ca, e, k1, k2⟩ := h.is
  have HAR : Hid (∀ y, Below w.heap.size w y → AR y v A) := fun y hy => h.stay hy
  subst e
  clear h k1 k2
  have HRV : Hid (RowAt (w.alloc (.cells #[.int .i64 A.k, .slice an A.nx.length cn, .slice aa A.ac.length ca] 25)) w.heap.size #[.int .i64 A.k, .slice an A.nx.length cn, .slice aa A.ac.length ca]) := RowAt.last _ _ _
  go_enter Try.func24, Try.ntmps24
  go_wp2_with fail
  refine (acheck_any _ A _ (HAR.out _ (below_new _ _)) hm hm2).mono ?_
  rintro e w1 ⟨rfl, hb1⟩
  have HB1 : Hid (Below w.heap.size w w1) := go_on (below_new _ _) hb1
  have HR1 : Hid (RowAt w1 w.heap.size #[.int .i64 A.k, .slice an A.nx.length cn, .slice aa A.ac.length ca]) := HRV.out.stay hb1
  have cs := HR1.out.cell
  clear hb1
  rcases chkA_cases A with ⟨G, hc⟩ | ⟨G, hc⟩
  · rw [hc]
    have HC : Hid (chkA A = 0) := hc
    have HG : Hid (Good A) := G
    clear hc G
    by_cases p : stO A s
    · by_cases q : stO A t
      · obtain ⟨e1, e2⟩ := dfE_ok HC.out p q
        have HE : Hid (dfE A s t = 0 ∧ dfO A s t = apO A s.toNat t.toNat) := ⟨e1, e2⟩
        obtain ⟨p1, p2⟩ := p
        obtain ⟨q1, q2⟩ := q
        obtain ⟨x, rfl⟩ : ∃ x : Nat, s = x := ⟨s.toNat, by omega⟩
        obtain ⟨y, rfl⟩ : ∃ y : Nat, t = y := ⟨t.toNat, by omega⟩
        have I1 : Hid (∀ z, Below w.heap.size w z → Calls Try.prog 41 #[.agg #[.int .i64 A.k, .slice an A.nx.length cn, .slice aa A.ac.length ca], .int .i64 (x : Int)] z fun e w' => e = .returned (.bool true) ∧ Below z.heap.size z w') := fun z hz => isState_any _ A z (HAR.out z hz) _ _ (decide_eq_true ⟨p1, p2⟩)
        have I2 : Hid (∀ z, Below w.heap.size w z → Calls Try.prog 41 #[.agg #[.int .i64 A.k, .slice an A.nx.length cn, .slice aa A.ac.length ca], .int .i64 (y : Int)] z fun e w' => e = .returned (.bool true) ∧ Below z.heap.size z w') := fun z hz => isState_any _ A z (HAR.out z hz) _ _ (decide_eq_true ⟨q1, q2⟩)
        have hxl : x < A.ac.length := by omega
        have hyl : y < A.ac.length := by omega
        clear e1 e2 p1 p2 q1 q2
        go_wp2_with fail
        refine (I1.out w1 HB1.out).mono ?_
        rintro e w2 ⟨rfl, hb2⟩
        have HB2 : Hid (Below w.heap.size w w2) := go_on HB1.out hb2
        have HR2 : Hid (RowAt w2 w.heap.size #[.int .i64 A.k, .slice an A.nx.length cn, .slice aa A.ac.length ca]) := HR1.out.stay hb2
        have cs2 := HR2.out.cell
        clear hb2 cs
        go_wp2_with fail
        refine (I2.out w2 HB2.out).mono ?_
        rintro e w3 ⟨rfl, hb3⟩
        have HB3 : Hid (Below w.heap.size w w3) := go_on HB2.out hb3
        have cs3 := (HR2.out.stay hb3).cell
        clear hb3 cs2
        go_wp2_with fail
        refine (mapart_any _ A w3 (HAR.out w3 HB3.out) HG.out x y hxl hyl).mono ?_
        rintro e w4 ⟨rfl, hl4, hb4⟩
        have HB4 : Hid (Below w.heap.size w w4) := go_on HB3.out hb4
        have HL4 : Hid (∀ u, apO A x y = some u → u.length < A.ac.length) := hl4
        clear hb4 hl4 cs3
        go_wp2_with fail
        go_ret3
        refine ⟨?_, ?_, HB4.out⟩
        · rw [HE.out.1, HE.out.2]; rfl
        · rw [HE.out.2]; exact HL4.out
      · have HE : Hid (dfE A s t = 11 ∧ dfO A s t = none) := dfE_range HC.out (fun z => q z.2)
        have I1 : Hid (∀ z, Below w.heap.size w z → Calls Try.prog 41 #[.agg #[.int .i64 A.k, .slice an A.nx.length cn, .slice aa A.ac.length ca], .int .i64 s] z fun e w' => e = .returned (.bool true) ∧ Below z.heap.size z w') := fun z hz => isState_any _ A z (HAR.out z hz) _ _ (decide_eq_true p)
        have I2 : Hid (∀ z, Below w.heap.size w z → Calls Try.prog 41 #[.agg #[.int .i64 A.k, .slice an A.nx.length cn, .slice aa A.ac.length ca], .int .i64 t] z fun e w' => e = .returned (.bool false) ∧ Below z.heap.size z w') := fun z hz => isState_any _ A z (HAR.out z hz) _ _ (decide_eq_false q)
        clear p q
        go_wp2_with fail
        refine (I1.out w1 HB1.out).mono ?_
        rintro e w2 ⟨rfl, hb2⟩
        have HB2 : Hid (Below w.heap.size w w2) := go_on HB1.out hb2
        have cs2 := (HR1.out.stay hb2).cell
        clear hb2 cs
        go_wp2_with fail
        refine (I2.out w2 HB2.out).mono ?_
        rintro e w3 ⟨rfl, hb3⟩
        have HB3 : Hid (Below w.heap.size w w3) := go_on HB2.out hb3
        clear hb3 cs2
        go_wp2_with fail
        go_ret3
        exact ⟨by rw [HE.out.1, HE.out.2]; rfl, fun u hu => (by rw [HE.out.2] at hu; cases hu), HB3.out⟩
    · have HE : Hid (dfE A s t = 11 ∧ dfO A s t = none) := dfE_range HC.out (fun z => p z.1)
      have I1 : Hid (∀ z, Below w.heap.size w z → Calls Try.prog 41 #[.agg #[.int .i64 A.k, .slice an A.nx.length cn, .slice aa A.ac.length ca], .int .i64 s] z fun e w' => e = .returned (.bool false) ∧ Below z.heap.size z w') := fun z hz => isState_any _ A z (HAR.out z hz) _ _ (decide_eq_false p)
      clear p
      go_wp2_with fail
      refine (I1.out w1 HB1.out).mono ?_
      rintro e w2 ⟨rfl, hb2⟩
      have HB2 : Hid (Below w.heap.size w w2) := go_on HB1.out hb2
      clear hb2 cs
      go_wp2_with fail
      go_ret3
      exact ⟨by rw [HE.out.1, HE.out.2]; rfl, fun u hu => (by rw [HE.out.2] at hu; cases hu), HB2.out⟩
  · rw [hc]
    have HE : Hid (dfE A s t = 80 ∧ dfO A s t = none) := dfE_bad s t hc
    clear hc G
    go_wp2_with fail
    go_ret3
    exact ⟨by rw [HE.out.1, HE.out.2]; rfl, fun u hu => (by rw [HE.out.2] at hu; cases hu), HB1.out⟩
end Go.Proofs.Ythjenemmhlljfaa
