/- E48 E49 E43 E50 E64 E23 E51 Qkd Qld E65 E52, in one text. -/
import Derived.Test.YtafcejipoioigaaW2
import Derived.RangeFuncCalls
import Derived.RegionIn
import Derived.Test.YtafcejipoioigaaW1
import Derived.Deep.QuietTactic
import Derived.Test.YtafcejipoioigaaJs
import Derived.BigQuiet
import Derived.ArgAppend
import Derived.Deep.RegionHeld
namespace Go.Proofs.Ytafcejipoioigaa
open Go Go.RowKit Go.Shelf Go.Lib
set_option linter.unusedVariables false
attribute [-instance] List.instBEq instBEqProd

attribute [local go_sem] Oper.semAt_some

set_option maxHeartbeats 1000000 in
set_option maxRecDepth 100000 in
theorem omega_not {w : World} {ob : Nat} {A : Aut} {M : List (List Nat)} {N : List Nat} (h : MO w ob A M N) (i : Int) (hi : ¬ hasE M.length i = true) :
    Calls Try.prog 15 #[.pointer (some ⟨ob, 0, none⟩), .int .i64 i] w fun e w' => e = .returned (.tuple #[.int .i64 0, .int .i64 11]) ∧ Below w.heap.size w w' := by
  obtain ⟨w0, hw0⟩ : ∃ w0, w0 = w.alloc (.cells #[.pointer (some ⟨ob, 0, none⟩)] 22) := ⟨_, rfl⟩
  have HB0 : Hid (Below w.heap.size w w0) := by show Below _ _ _; rw [hw0]; exact below_new _ _
  have HM : Hid (MO w0 ob A M N) := h.below HB0.out
  have HW0 : Hid (w0 = w.alloc (.cells #[.pointer (some ⟨ob, 0, none⟩)] 22)) := hw0
  have HC0 : Hid (w0.cell? ⟨w.heap.size, 0, none⟩ = some (.pointer (some ⟨ob, 0, none⟩))) := by show _ = _; rw [hw0, cell_of_row _ _ _ _ _ _ (heap_last w _)]; rfl
  have HZ0 : Hid (w0.heap.size = w.heap.size + 1) := by show _ = _; rw [hw0]; simp
  have HC : Hid _ := icheck_one HM.out i
  rw [if_neg hi, HZ0.out] at HC
  have HB1 : Hid (Below w.heap.size w (w0.alloc (.cells #[.int .i64 i] 3))) := go_on HB0.out (below_new _ _)
  clear h hw0 hi
  go_enter Try.func15, Try.ntmps15
  go_wp2_with fail
  rw [← HW0.out]
  refine Calls.mono HC.out ?_
  rintro e w1 ⟨rfl, rfl⟩
  go_wp2_with fail
  go_ret2
  exact ⟨rfl, HB1.out⟩

theorem frz_at {w : World} {b o : Nat} {cs : Array Value} {t : TypeId} (h : w.heap[b]? = some (.cells cs t (0, 0))) : w.frozen? ⟨b, o, none⟩ = false := by
  simp [World.frozen?, h]

theorem KS.grown {S : Nat → Prop} {W W1 W2 : World} {row : Option Nat} (h : KS S W W1) (hg : W1.grownBy W2 row) (hr : ∀ k, row = some k → ¬ S k) (hl : ∀ b, S b → b < W1.heap.size) : KS S W W2 :=
  ⟨hg.os.trans h.os, hg.tape.trans h.tape, hg.output.trans h.output, Nat.le_trans h.size hg.size, fun b hb => (hg.block b (hl b hb) (fun e => hr b e.symm hb)).trans (h.block b hb)⟩

theorem KS.set {S : Nat → Prop} {W W1 : World} {m o : Nat} {v : Value} (h : KS S W W1) (hp : ¬ S m) : KS S W (W1.setCell ⟨m, o, none⟩ v) :=
  ⟨h.os, h.tape, h.output, by simpa [World.setCell] using h.size, fun b hb => (heap_set_other (fun e => by subst e; exact hp hb)).trans (h.block b hb)⟩

theorem KS.base {S : Nat → Prop} {w U W : World} (h : KS S U W) (hb : Below w.heap.size w U) (hS : ∀ b, b < w.heap.size → S b) : Below w.heap.size w W :=
  ⟨h.os.trans hb.os, h.tape.trans hb.tape, h.output.trans hb.output, Nat.le_trans hb.size h.size, fun b hlt => (h.block b (hS b hlt)).trans (hb.block b hlt)⟩

set_option maxRecDepth 100000 in
set_option maxHeartbeats 4000000 in
theorem omega_in (n : Nat) (hn : 3 ≤ n) {w : World} {ob : Nat} {A : Aut} {M : List (List Nat)} {N : List Nat} (h : MO w ob A M N) (i : Nat) (hi : i < M.length) :
    CallsIn Fence.wide n Try.prog 15 #[.pointer (some ⟨ob, 0, none⟩), .int .i64 i] w fun e w' => (∃ x, e = .returned (.tuple #[.int .i64 (x : Nat), .int .i64 0]) ∧ OmQ A.k.toNat N i x) ∧ Below w.heap.size w w' := by
  have h1 : 1 ≤ n := by omega
  obtain ⟨w0, hw0⟩ : ∃ w0, w0 = w.alloc (.cells #[.pointer (some ⟨ob, 0, none⟩)] 22) := ⟨_, rfl⟩
  have HB0 : Hid (Below w.heap.size w w0) := by show Below _ _ _; rw [hw0]; exact below_new _ _
  have HM0 : Hid (MO w ob A M N) := h
  have HM : Hid (MO w0 ob A M N) := h.below HB0.out
  have HMon : Hid (Mon A M N) := h.mon
  have HW0 : Hid (w0 = w.alloc (.cells #[.pointer (some ⟨ob, 0, none⟩)] 22)) := hw0
  have HC0 : Hid (w0.cell? ⟨w.heap.size, 0, none⟩ = some (.pointer (some ⟨ob, 0, none⟩))) := by show _ = _; rw [hw0, cell_of_row _ _ _ _ _ _ (heap_last w _)]; rfl
  have HZ0 : Hid (w0.heap.size = w.heap.size + 1) := by show _ = _; rw [hw0]; simp
  have HC : Hid _ := icheck_one HM.out i
  rw [if_pos (show hasE M.length (i : Int) = true from decide_eq_true ⟨by omega, by omega⟩), HZ0.out] at HC
  have HB1 : Hid (Below w.heap.size w (w0.alloc (.cells #[.int .i64 i] 3))) := go_on HB0.out (below_new _ _)
  clear h hw0
  refine callsIn_of_wp_marks Try.func15 rfl trivial ?_ rfl
  simp only [Try.ntmps15, List.size_toArray, List.length_cons, List.length_nil, Nat.reduceAdd, Nat.reduceSub, Array.replicate_succ, Array.replicate_zero, List.push_toArray, List.append_toArray, List.nil_append, List.cons_append]
  gi_wp2
  rw [← HW0.out]
  refine ⟨trivial, ?_⟩
  refine (callsIn_wide.2 HC.out).mono ?_
  rintro e w1 ⟨rfl, rfl⟩
  obtain ⟨w1, hw1⟩ : ∃ w1, w1 = w0.alloc (.cells #[.int .i64 (i : Int)] 3) := ⟨_, rfl⟩
  rw [← hw1] at HB1 ⊢
  have hz1 : w1.heap.size = w.heap.size + 2 := by rw [hw1, World.size_alloc, HZ0.out]
  have hc1 : w1.cell? ⟨w.heap.size, 0, none⟩ = some (.pointer (some ⟨ob, 0, none⟩)) := by rw [hw1, below_cellJ (below_new w0 _) (by rw [HZ0.out]; omega)]; exact HC0.out
  have hcA : (w1.alloc (.cells #[.int .i64 0] 3)).cell? ⟨w.heap.size, 0, none⟩ = some (.pointer (some ⟨ob, 0, none⟩)) := by rw [below_cellJ (below_new w1 _) (by rw [hz1]; omega)]; exact hc1
  have HZ1 : Hid (w1.heap.size = w.heap.size + 2) := hz1
  have HC1 : Hid (w1.cell? ⟨w.heap.size, 0, none⟩ = some (.pointer (some ⟨ob, 0, none⟩))) := hc1
  clear hw1 hz1 hc1
  gi_wp2
  refine ⟨trivial, ?_⟩
  refine (callsIn_wide.2 (powers_any _ _ _)).mono ?_
  rintro e w3 ⟨rfl, rfl⟩
  clear hcA
  gi_wp2
  obtain ⟨q, hq⟩ : ∃ q, w1.heap.size = q := ⟨_, rfl⟩
  have hz1 := HZ1.out
  obtain ⟨U, hU⟩ : ∃ U, U = ((w1.alloc (.cells #[.int .i64 0] 3)).alloc (.cells #[.pointer (some ⟨ob, 0, none⟩)] 22)).alloc (.cells #[.int .i64 (i : Int)] 3) := ⟨_, rfl⟩
  have hUs : U.heap.size = q + 3 := by rw [hU]; simp [hq]
  have hBU : Below w.heap.size w U := by
    rw [hU]
    exact go_on (go_on (go_on HB1.out (below_new _ _)) (below_new _ _)) (below_new _ _)
  have HU0 : Hid (U.heap[q]? = some (.cells #[.int .i64 0] 3 (0, 0))) := by
    show _ = _
    rw [hU, heap_allo (by simp; omega), heap_allo (by simp; omega), ← hq]
    exact heap_last _ _
  have HU1 : Hid (U.cell? ⟨q + 1, 0, none⟩ = some (.pointer (some ⟨ob, 0, none⟩))) := by
    show _ = _
    have e : U.heap[q + 1]? = some (.cells #[.pointer (some ⟨ob, 0, none⟩)] 22 (0, 0)) := by
      rw [hU, heap_allo (by simp; omega)]
      have := heap_last (w1.alloc (.cells #[.int .i64 0] 3)) (.cells #[.pointer (some ⟨ob, 0, none⟩)] 22)
      rwa [World.size_alloc, hq] at this
    exact cell_at e rfl
  have HU2 : Hid (U.cell? ⟨q + 2, 0, none⟩ = some (.int .i64 (i : Nat))) := by
    show _ = _
    have e : U.heap[q + 2]? = some (.cells #[.int .i64 (i : Nat)] 3 (0, 0)) := by
      rw [hU]
      have := heap_last ((w1.alloc (.cells #[.int .i64 0] 3)).alloc (.cells #[.pointer (some ⟨ob, 0, none⟩)] 22)) (.cells #[.int .i64 (i : Int)] 3)
      rwa [World.size_alloc, World.size_alloc, hq] at this
    exact cell_at e rfl
  have HU3 : Hid (U.cell? ⟨w.heap.size, 0, none⟩ = some (.pointer (some ⟨ob, 0, none⟩))) := by
    show _ = _
    have hb : Below w1.heap.size w1 U := by rw [hU]; exact go_on (go_on (below_new _ _) (below_new _ _)) (below_new _ _)
    rw [below_cellJ hb (by omega)]
    exact HC1.out
  have HBU : Hid (Below w.heap.size w U) := hBU
  rw [← hU]
  rw [hq]
  have hwq : w.heap.size + 2 = q := by omega
  clear hU hBU hz1 hq HZ1 HC1 HB1 HC HC0 HW0 HM HZ0
  refine rangeFunc_brk rfl h1 (gf := 73) (lb := #[.pointer (some ⟨q + 1, 0, none⟩), .pointer (some ⟨q + 2, 0, none⟩)]) rfl trivial (enters_of Try.func73 (by kernel_rfl) rfl)
    (val := pwV A.k.toNat N i) (S := fun b => b < q + 3 ∧ b ≠ q) (N := M.length + 1) (w0 := U) (fun b hb => by omega)
    (powers_at (n - 1) (by omega) (q + 1) (q + 2) ob i A M N _ U (fun W hk => HM0.out.below (hk.base HBU.out (fun b hb => ⟨by omega, by omega⟩))) hi HU1.out HU2.out ⟨by omega, by omega⟩ ⟨by omega, by omega⟩ (fun b hb => by omega)) (KS.refl _ _) (fun _ => rfl) 0
    (fun j W => KS (fun b => b < q + 3 ∧ b ≠ q) U W ∧ W.heap[q]? = some (.cells #[.int .i64 0] 3 (0, 0)) ∧ ∀ k, 1 ≤ k → k < j → ¬ pr A.k.toNat N (pwN A.k.toNat N i k) (pwN A.k.toNat N i k) = pwN A.k.toNat N i k)
    (fun _ W => KS (fun b => b < q + 3 ∧ b ≠ q) U W ∧ ∃ x : Nat, W.heap[q]? = some (.cells #[.int .i64 (x : Int)] 3 (0, 0)) ∧ OmQ A.k.toNat N i x)
    ?own1 ?own2 ?bel ?start (fun j a' W => (KS (fun b => b < q + 3 ∧ b ≠ q) U W ∧ W.heap[q]? = some (.cells #[.int .i64 0] 3 (0, 0)) ∧ ∀ k, 1 ≤ k → k < j → ¬ pr A.k.toNat N (pwN A.k.toNat N i k) (pwN A.k.toNat N i k) = pwN A.k.toNat N i k) ∧ a' = { tmps := #[.pointer (some ⟨ob, 0, none⟩), .int .i64 (i : Nat), .pointer (some ⟨w.heap.size, 0, none⟩), undef, .int .i64 0, .int .i64 0, .int .i64 0, .pointer (some ⟨q, 0, none⟩), .int .i64 (j : Nat), .int .i64 (pwN A.k.toNat N i j : Nat), .pointer (some ⟨ob, 0, none⟩), .int .i64 (i : Nat), .slice (some ⟨w.heap.size + 1, 0, none⟩) 1 1, .int .i64 0, .int .i64 0, .bool false, undef, .pointer (some ⟨ob, 0, none⟩), .int .i64 (i : Nat), .func (.func 73) #[] #[.pointer (some ⟨q + 1, 0, none⟩), .pointer (some ⟨q + 1 + 1, 0, none⟩)], .int .i64 (j : Nat), .int .i64 (pwN A.k.toNat N i j : Nat), undef, undef, undef, undef, undef, undef, undef, undef, undef], defers := [] }) ?own3 ?assign ?body ?done ?stop
  case own1 =>
    rintro j W W' row ⟨hk, hb, hno⟩ hg hr
    have hz := hk.size
    refine ⟨hk.grown hg (fun k e => by have := (hr k e).1; omega) (fun b hb => by omega), ?_, hno⟩
    rw [hg.block q (by omega) (fun e => by have := (hr q e.symm).1; omega)]
    exact hb
  case own2 =>
    rintro j W W' row ⟨hk, x, hb, hx⟩ hg hr
    have hz := hk.size
    refine ⟨hk.grown hg (fun k e => by have := (hr k e).1; omega) (fun b hb => by omega), x, ?_, hx⟩
    rw [hg.block q (by omega) (fun e => by have := (hr q e.symm).1; omega)]
    exact hb
  case bel =>
    rintro j W1 W' hz ⟨hk, hb, hno⟩ hbl
    refine ⟨hk.trans (KS.below (fun b hb => by omega) hbl), ?_, hno⟩
    rw [hbl.block q (by omega)]
    exact hb
  case start => exact ⟨KS.refl _ _, HU0.out, fun k h1 h2 => by omega⟩
  case own3 =>
    rintro j a' _ W W' row ⟨⟨hk, hb, hno⟩, e⟩ hg hr
    have hz := hk.size
    refine ⟨⟨hk.grown hg (fun k e => by have := (hr k e).1; omega) (fun b hb => by omega), ?_, hno⟩, e⟩
    rw [hg.block q (by omega) (fun e => by have := (hr q e.symm).1; omega)]
    exact hb
  case assign =>
    intro l j W K hj hI hks hK
    have HK : Hid _ := hK
    have HI : Hid _ := hI
    unfold pwV
    clear hK hI hks hj
    gi_wp2
    exact HK.out _ _ ⟨Nat.le_refl _, fun k o _ hk ho => hk⟩ (KS.refl _ _) ⟨HI.out, rfl⟩
  case body =>
    rintro l j a' W hj ⟨⟨hk, hb, hno⟩, rfl⟩ hks
    have hz := hk.size
    have HK : Hid (KS (fun b => b < q + 3 ∧ b ≠ q) U W) := hk
    have HBX : Hid (W.heap[q]? = some (.cells #[.int .i64 0] 3 (0, 0))) := hb
    have HNO : Hid (∀ k, 1 ≤ k → k < j → ¬ pr A.k.toNat N (pwN A.k.toNat N i k) (pwN A.k.toNat N i k) = pwN A.k.toNat N i k) := hno
    have HMW : Hid (MO W ob A M N) := HM0.out.below (hk.base HBU.out (fun b hb => ⟨by omega, by omega⟩))
    have hc : W.cell? ⟨w.heap.size, 0, none⟩ = some (.pointer (some ⟨ob, 0, none⟩)) := by
      rw [World.cell?_of_block (a := ⟨w.heap.size, 0, none⟩) (hk.block w.heap.size ⟨by omega, by omega⟩)]; exact HU3.out
    have HLT : Hid (j < M.length + 1) := hj
    clear hk hb hno hks
    by_cases hj0 : j = 0
    · subst hj0
      gi_wp2
      refine ⟨trivial, ?_⟩
      gi_wp2
      refine ⟨⟨Nat.le_refl _, fun k o _ hk ho => hk⟩, KS.refl _ _, HK.out, HBX.out, fun k h1 h2 => by omega⟩
    · have hjI : (0 : Int) < (j : Int) := by omega
      have hjd : decide ((0 : Int) < (j : Int)) = true := decide_eq_true hjI
      obtain ⟨p, hp⟩ : ∃ p, pwN A.k.toNat N i j = p := ⟨_, rfl⟩
      have HP : Hid (pwN A.k.toNat N i j = p) := hp
      have hpl : p < M.length := by rw [← hp]; exact HMon.out.pw_lt hi j
      have HJ1 : Hid (1 ≤ j) := by show 1 ≤ j; omega
      rw [hp]
      clear hp
      gi_wp2
      refine ⟨trivial, fun _ => by omega, ?_⟩
      refine (CallsIn.inRound l (callsIn_wide.2 (isIdem_any HMW.out p hpl))).mono ?_
      rintro e W3 ⟨rfl, hb3⟩
      have HK3 : Hid (KS (fun b => b < q + 3 ∧ b ≠ q) W W3) := KS.below (fun b hb => by omega) hb3
      have HKF : Hid (KeepsFrom U.heap.size W W3) := ⟨hb3.size, fun k o _ hk ho => (hb3.block k (Array.getElem?_eq_some_iff.1 hk).1).trans hk⟩
      have HBX3 : Hid (W3.heap[q]? = some (.cells #[.int .i64 0] 3 (0, 0))) := by show _ = _; rw [hb3.block q (by omega)]; exact HBX.out
      clear hb3 hc
      by_cases hid : pr A.k.toNat N p p = p
      · have hE : idE A.k.toNat N p = true := decide_eq_true hid
        have HOM : Hid (OmQ A.k.toNat N i p) := ⟨j, HJ1.out, HP.out, hid⟩
        rw [hE]
        have hcq : W3.cell? ⟨q, 0, none⟩ = some (.int .i64 0) := cell_at HBX3.out rfl
        have hfq : W3.frozen? ⟨q, 0, none⟩ = false := frz_at HBX3.out
        clear hid hE
        gi_wp2
        refine ⟨rfl, ?_, ?_⟩
        · refine ⟨Nat.le_trans HKF.out.1 (by simp [World.setCell]), fun k o hk1 hk ho => ?_⟩
          rw [heap_set_other (fun e => by omega)]
          exact HKF.out.2 k o hk1 hk ho
        · exact ⟨(HK.out.trans HK3.out).set (by omega), p, heap_set HBX3.out, HOM.out⟩
      · have hE : idE A.k.toNat N p = false := decide_eq_false hid
        have HNI : Hid (¬ pr A.k.toNat N p p = p) := hid
        rw [hE]
        clear hid hE
        gi_wp2
        refine ⟨HKF.out, HK3.out, HK.out.trans HK3.out, HBX3.out, fun k h1 h2 => ?_⟩
        by_cases e : k = j
        · rw [e, HP.out]; exact HNI.out
        · exact HNO.out k h1 (by omega)
  case done =>
    rintro D W hD ⟨hk, hb, hno⟩ hK
    exfalso
    obtain ⟨m, m1, m2, m3⟩ := HMon.out.om_ex hi
    exact hno m m1 (by omega) m3
  case stop =>
    rintro D W hD ⟨hk, x, hb, hx⟩ hKD
    have hz := hk.size
    have HK : Hid (KS (fun b => b < q + 3 ∧ b ≠ q) U W) := hk
    have HX : Hid (OmQ A.k.toNat N i x) := hx
    have HKD : Hid (W.heap[D]? = some (.deferred (some []))) := hKD
    have hcq : W.cell? ⟨q, 0, none⟩ = some (.int .i64 (x : Int)) := cell_at hb rfl
    clear hk hb hx hKD
    gi_wp2
    refine ⟨by simp, .inl ⟨_, _, rfl, run_takeDeferred HKD.out, ?_⟩⟩
    refine ⟨_, results_tmp2 rfl _ _ _, ⟨x, rfl, HX.out⟩, ?_⟩
    exact (HK.out.base HBU.out (fun b hb => ⟨by omega, by omega⟩)).grown (grownBy_putObj' W D _) (by omega) (fun k e => by cases e; omega)

theorem omega_any {w : World} {ob : Nat} {A : Aut} {M : List (List Nat)} {N : List Nat} (h : MO w ob A M N) (i : Nat) (hi : i < M.length) :
    Calls Try.prog 15 #[.pointer (some ⟨ob, 0, none⟩), .int .i64 i] w fun e w' => (∃ x, e = .returned (.tuple #[.int .i64 (x : Nat), .int .i64 0]) ∧ OmQ A.k.toNat N i x) ∧ Below w.heap.size w w' :=
  callsIn_wide.1 (omega_in 3 (by omega) h i hi)
end Go.Proofs.Ytafcejipoioigaa

namespace Go.Proofs.Ytafcejipoioigaa
open Go Go.RowKit Go.Shelf Go.Lib
set_option linter.unusedVariables false
attribute [-instance] List.instBEq instBEqProd

attribute [local go_sem] Oper.semAt_some

/-- What met knows when j powers were gone through. -/
structure Met (K : Nat) (N : List Nat) (i n j : Nat) (cs : List Nat) : Prop where
  len : cs.length = n
  old : ∀ k, k < j → cs[pwN K N i k]? = some (k + 1)
  new : ∀ x v : Nat, cs[x]? = some v → v ≠ 0 → ∃ k, k < j ∧ pwN K N i k = x ∧ v = k + 1
  apart : ∀ a b, a < b → b < j → pwN K N i a ≠ pwN K N i b

theorem Met.start (K : Nat) (N : List Nat) (i n : Nat) : Met K N i n 0 (List.replicate n 0) :=
  ⟨by simp, fun k h => by omega, fun x v hx hv => (by
    rw [List.getElem?_replicate] at hx
    split at hx
    · injection hx with hx
      exact absurd hx.symm hv
    · exact absurd hx (by simp)), fun a b h1 h2 => by omega⟩

theorem Met.next {K : Nat} {N : List Nat} {i n j : Nat} {cs : List Nat} (h : Met K N i n j cs) (hp : pwN K N i j < n) (h0 : cs[pwN K N i j]? = some 0) : Met K N i n (j + 1) (cs.set (pwN K N i j) (j + 1)) := by
  have hne : ∀ k, k < j → pwN K N i k ≠ pwN K N i j := fun k hk e => by
    have := h.old k hk
    rw [e, h0] at this
    cases this
  refine ⟨by rw [List.length_set]; exact h.len, fun k hk => ?_, fun x v hx hv => ?_, fun a b hab hb => ?_⟩
  · rw [List.getElem?_set]
    by_cases e : k = j
    · subst e
      rw [if_pos rfl, if_pos (by rw [h.len]; exact hp)]
    · rw [if_neg (fun q => hne k (by omega) q.symm)]
      exact h.old k (by omega)
  · rw [List.getElem?_set] at hx
    split at hx
    · rename_i e
      split at hx
      · cases hx
        exact ⟨j, by omega, e, rfl⟩
      · cases hx
    · obtain ⟨k, k1, k2, k3⟩ := h.new x v hx hv
      exact ⟨k, by omega, k2, k3⟩
  · by_cases e : b = j
    · subst e
      exact hne a hab
    · exact h.apart a b hab (by omega)

theorem Met.found {K : Nat} {N : List Nat} {i n j : Nat} {cs : List Nat} (h : Met K N i n j cs) {v : Nat} (h0 : cs[pwN K N i j]? = some v) (hv : v ≠ 0) : v ≤ j ∧ 1 ≤ v ∧ TR (rm K N i) 0 (v - 1) (j - (v - 1)) := by
  obtain ⟨k, k1, k2, k3⟩ := h.new _ _ h0 hv
  subst k3
  refine ⟨by omega, by omega, ?_, ?_, by omega⟩
  · intro a b hab hb
    exact h.apart a b hab (by omega)
  · show pwN K N i _ = pwN K N i _
    rw [show k + 1 - 1 + (j - (k + 1 - 1)) = j by omega, show k + 1 - 1 = k by omega, k2]

theorem Met.done {A : Aut} {M : List (List Nat)} {N : List Nat} (hm : Mon A M N) {i : Nat} (hi : i < M.length) {cs : List Nat} (h : Met A.k.toNat N i M.length (M.length + 1) cs) : False := by
  have := nodup_le M.length ((List.range (M.length + 1)).map (pwN A.k.toNat N i)) (map_nodup (fun a b hab hb => h.apart a b hab hb)) (fun x hx => by
    obtain ⟨k, _, rfl⟩ := List.mem_map.1 hx
    exact hm.pw_lt hi k)
  simp at this
  omega

theorem made_nC (n : Nat) : madeCells #[Value.int .i64 0] n = (nC (List.replicate n 0)).toArray := by
  apply Array.ext'
  apply List.ext_getElem?
  intro j
  by_cases hj : j < n
  · simp [madeCells, nC, hj, Nat.mod_one]
  · simp [madeCells, nC, hj]

theorem results_int2 {fn : Func} {p r : Tmp} (h : fn.results = #[.cell p 3, .cell r 3]) {tmps : Array Value} {b c : Nat} {x y : Int} {w : World} (hp : tmps.getD p undef = .pointer (some ⟨b, 0, none⟩)) (hr : tmps.getD r undef = .pointer (some ⟨c, 0, none⟩)) (hb : w.cell? ⟨b, 0, none⟩ = some (.int .i64 x)) (hc : w.cell? ⟨c, 0, none⟩ = some (.int .i64 y)) :
    (results fn tmps).run Try.prog w = .ok (.tuple #[.int .i64 x, .int .i64 y]) w := by
  have hp' : tmps[p]?.getD undef = .pointer (some ⟨b, 0, none⟩) := by simpa using hp
  have hr' : tmps[r]?.getD undef = .pointer (some ⟨c, 0, none⟩) := by simpa using hr
  simp [results, h, go_sem, hp', hr', hb, hc, Result.andThen]

set_option maxRecDepth 100000 in
set_option maxHeartbeats 4000000 in
theorem cycle_in (n : Nat) (hn : 3 ≤ n) {w : World} {ob : Nat} {A : Aut} {M : List (List Nat)} {N : List Nat} (h : MO w ob A M N) (i : Nat) (hi : i < M.length) :
    CallsIn Fence.wide n Try.prog 51 #[.pointer (some ⟨ob, 0, none⟩), .int .i64 i] w fun e w' => (∃ t r : Nat, e = .returned (.tuple #[.int .i64 (t : Nat), .int .i64 (r : Nat)]) ∧ TR (rm A.k.toNat N i) 0 t r) ∧ Below w.heap.size w w' := by
  have h1 : 1 ≤ n := by omega
  have HM0 : Hid (MO w ob A M N) := h
  have HMon : Hid (Mon A M N) := h.mon
  obtain ⟨i0, hi0, hz0, hz1, hz2⟩ := info_parts Try.info_int
  have hms := h.mon.most
  obtain ⟨m, hm⟩ : ∃ m, M.length = m := ⟨_, rfl⟩
  rw [hm] at hms hi
  have hmk := fun w0 => run_make (P := Try.prog) w0 23 3 i0 (.int .i64 0) Try.underlying23 hi0 hz0 .i64 .i64 (m : Int) (m : Int) (by omega) (by omega) (by rw [hz2]; omega) (by omega)
  rw [hz1] at hmk
  simp only [Nat.mul_one] at hmk
  have HMM : Hid (M.length = m) := hm
  obtain ⟨w2, hw2⟩ : ∃ w2, w2 = (w.alloc (.cells #[.int .i64 0] 3)).alloc (.cells #[.int .i64 0] 3) := ⟨_, rfl⟩
  have HB2 : Hid (Below w.heap.size w w2) := by show Below _ _ _; rw [hw2]; exact go_on (below_new _ _) (below_new _ _)
  have HW2 : Hid (w2 = (w.alloc (.cells #[.int .i64 0] 3)).alloc (.cells #[.int .i64 0] 3)) := hw2
  have HLN : Hid (Calls Try.prog 34 #[.pointer (some ⟨ob, 0, none⟩)] w2 fun e w' => e = .returned (.int .i64 (m : Nat)) ∧ w2 = w') := by
    have := mlen_any (h.below HB2.out)
    rw [hm] at this
    exact this
  clear h hw2 hm
  refine callsIn_of_wp_marks Try.func51 rfl trivial ?_ rfl
  simp only [Try.ntmps51, List.size_toArray, List.length_cons, List.length_nil, Nat.reduceAdd, Nat.reduceSub, Array.replicate_succ, Array.replicate_zero, List.push_toArray, List.append_toArray, List.nil_append, List.cons_append]
  gi_wp2
  rw [← HW2.out]
  refine ⟨trivial, ?_⟩
  refine (callsIn_wide.2 HLN.out).mono ?_
  rintro e w1 ⟨rfl, rfl⟩
  gi_wp2
  refine ⟨trivial, ?_⟩
  refine (callsIn_wide.2 (powers_any _ _ _)).mono ?_
  rintro e w3 ⟨rfl, rfl⟩
  clear hmk
  gi_wp2
  obtain ⟨q, hq⟩ : ∃ q, w2.heap.size = q := ⟨_, rfl⟩
  have hqw1 : q ≤ w.heap.size + 2 := by rw [← hq, HW2.out]; simp
  have hqw2 : w.heap.size + 2 ≤ q := by rw [← hq, HW2.out]; simp
  obtain ⟨U, hU⟩ : ∃ U, U = (((w2.alloc (.cells (madeCells #[.int .i64 0] m) 3)).alloc (.cells #[.slice (some ⟨w2.heap.size, 0, none⟩) m m] 23)).alloc (.cells #[.pointer (some ⟨ob, 0, none⟩)] 22)).alloc (.cells #[.int .i64 (i : Int)] 3) := ⟨_, rfl⟩
  have hUs : U.heap.size = q + 4 := by rw [hU]; simp [hq]
  have hB2U : Below w2.heap.size w2 U := by
    rw [hU]
    exact go_on (go_on (go_on (below_new _ _) (below_new _ _)) (below_new _ _)) (below_new _ _)
  have HBU : Hid (Below w.heap.size w U) := go_on HB2.out hB2U
  have HUa : Hid (U.heap[w.heap.size]? = some (.cells #[.int .i64 0] 3 (0, 0))) := by
    show _ = _
    rw [hB2U.block _ (by omega), HW2.out, heap_allo (by simp)]
    exact heap_last _ _
  have HUb : Hid (U.heap[w.heap.size + 1]? = some (.cells #[.int .i64 0] 3 (0, 0))) := by
    show _ = _
    rw [hB2U.block _ (by omega), HW2.out]
    have := heap_last (w.alloc (.cells #[.int .i64 0] 3)) (.cells #[.int .i64 0] 3)
    rwa [World.size_alloc] at this
  have HU0 : Hid (U.heap[q]? = some (.cells (nC (List.replicate m 0)).toArray 3 (0, 0))) := by
    show _ = _
    rw [hU, heap_allo (by simp <;> omega), heap_allo (by simp <;> omega), heap_allo (by simp <;> omega), ← hq, ← made_nC]
    exact heap_last _ _
  have HU1 : Hid (U.cell? ⟨q + 1, 0, none⟩ = some (.slice (some ⟨q, 0, none⟩) m m)) := by
    show _ = _
    have e : U.heap[q + 1]? = some (.cells #[.slice (some ⟨q, 0, none⟩) m m] 23 (0, 0)) := by
      subst hq
      rw [hU, heap_allo (by simp <;> omega), heap_allo (by simp <;> omega)]
      have := heap_last (w2.alloc (.cells (madeCells #[.int .i64 0] m) 3)) (.cells #[.slice (some ⟨w2.heap.size, 0, none⟩) m m] 23)
      rwa [World.size_alloc] at this
    exact cell_at e rfl
  have HU2 : Hid (U.cell? ⟨q + 1 + 1, 0, none⟩ = some (.pointer (some ⟨ob, 0, none⟩))) := by
    show _ = _
    have e : U.heap[q + 1 + 1]? = some (.cells #[.pointer (some ⟨ob, 0, none⟩)] 22 (0, 0)) := by
      subst hq
      rw [hU, heap_allo (by simp <;> omega)]
      have := heap_last ((w2.alloc (.cells (madeCells #[.int .i64 0] m) 3)).alloc (.cells #[.slice (some ⟨w2.heap.size, 0, none⟩) m m] 23)) (.cells #[.pointer (some ⟨ob, 0, none⟩)] 22)
      rwa [World.size_alloc, World.size_alloc] at this
    exact cell_at e rfl
  have HU3 : Hid (U.cell? ⟨q + 1 + 1 + 1, 0, none⟩ = some (.int .i64 (i : Nat))) := by
    show _ = _
    have e : U.heap[q + 1 + 1 + 1]? = some (.cells #[.int .i64 (i : Nat)] 3 (0, 0)) := by
      subst hq
      rw [hU]
      have := heap_last (((w2.alloc (.cells (madeCells #[.int .i64 0] m) 3)).alloc (.cells #[.slice (some ⟨w2.heap.size, 0, none⟩) m m] 23)).alloc (.cells #[.pointer (some ⟨ob, 0, none⟩)] 22)) (.cells #[.int .i64 (i : Int)] 3)
      rwa [World.size_alloc, World.size_alloc, World.size_alloc] at this
    exact cell_at e rfl
  rw [← hU]
  rw [hq]
  have hML := HMM.out
  have HHI : Hid (i < M.length) := by show _ < _; rw [hML]; exact hi
  clear hU hB2U hq HLN HW2 HB2
  refine rangeFunc_brk rfl h1 (gf := 73) (lb := #[.pointer (some ⟨q + 1 + 1, 0, none⟩), .pointer (some ⟨q + 1 + 1 + 1, 0, none⟩)]) rfl trivial (enters_of Try.func73 (by kernel_rfl) rfl)
    (val := pwV A.k.toNat N i) (S := (fun b => b < q + 4 ∧ b ≠ q ∧ b ≠ w.heap.size ∧ b ≠ w.heap.size + 1)) (N := M.length + 1) (w0 := U) (fun b hb => by omega)
    (powers_at (n - 1) (by omega) (q + 1 + 1) (q + 1 + 1 + 1) ob i A M N _ U (fun W hk => HM0.out.below (hk.base HBU.out (fun b hb => ⟨by omega, by omega, by omega, by omega⟩))) HHI.out HU2.out HU3.out ⟨by omega, by omega, by omega, by omega⟩ ⟨by omega, by omega, by omega, by omega⟩ (fun b hb => by omega)) (KS.refl _ _) (fun _ => rfl) 0
    (fun j W => KS (fun b => b < q + 4 ∧ b ≠ q ∧ b ≠ w.heap.size ∧ b ≠ w.heap.size + 1) U W ∧ W.heap[w.heap.size]? = some (.cells #[.int .i64 0] 3 (0, 0)) ∧ W.heap[w.heap.size + 1]? = some (.cells #[.int .i64 0] 3 (0, 0)) ∧ ∃ cs : List Nat, W.heap[q]? = some (.cells (nC cs).toArray 3 (0, 0)) ∧ Met A.k.toNat N i m j cs)
    (fun _ W => KS (fun b => b < q + 4 ∧ b ≠ q ∧ b ≠ w.heap.size ∧ b ≠ w.heap.size + 1) U W ∧ ∃ t r : Nat, W.heap[w.heap.size]? = some (.cells #[.int .i64 (t : Int)] 3 (0, 0)) ∧ W.heap[w.heap.size + 1]? = some (.cells #[.int .i64 (r : Int)] 3 (0, 0)) ∧ TR (rm A.k.toNat N i) 0 t r ∧ t < 1000 ∧ r < 1000)
    ?own1 ?own2 ?bel ?start (fun j a' W => (KS (fun b => b < q + 4 ∧ b ≠ q ∧ b ≠ w.heap.size ∧ b ≠ w.heap.size + 1) U W ∧ W.heap[w.heap.size]? = some (.cells #[.int .i64 0] 3 (0, 0)) ∧ W.heap[w.heap.size + 1]? = some (.cells #[.int .i64 0] 3 (0, 0)) ∧ ∃ cs : List Nat, W.heap[q]? = some (.cells (nC cs).toArray 3 (0, 0)) ∧ Met A.k.toNat N i m j cs) ∧ a' = { tmps := #[.pointer (some ⟨ob, 0, none⟩), .int .i64 (i : Nat), undef, undef, .pointer (some ⟨w.heap.size, 0, none⟩), .pointer (some ⟨w.heap.size + 1, 0, none⟩), .pointer (some ⟨q + 1, 0, none⟩), .int .i64 (j : Nat), .int .i64 (pwN A.k.toNat N i j : Nat), .pointer (some ⟨ob, 0, none⟩), .int .i64 (m : Nat), .slice (some ⟨q, 0, none⟩) m m, .pointer (some ⟨ob, 0, none⟩), .int .i64 (i : Nat), .func (.func 73) #[] #[.pointer (some ⟨q + 1 + 1, 0, none⟩), .pointer (some ⟨q + 1 + 1 + 1, 0, none⟩)], .int .i64 (j : Nat), .int .i64 (pwN A.k.toNat N i j : Nat), undef, undef, undef, undef, undef, undef, undef, undef, undef, undef, undef, undef, undef, undef, undef, undef, undef, undef, undef, undef], defers := [] }) ?own3 ?assign ?body ?done ?stop
  case own1 =>
    rintro j W W' row ⟨hk, hb1, hb2, cs, hcs, hm⟩ hg hr
    have hz := hk.size
    have hg' : ∀ b, b < q + 2 → W'.heap[b]? = W.heap[b]? := fun b hb => hg.block b (by omega) (fun e => by have := (hr b e.symm).1; omega)
    exact ⟨hk.grown hg (fun k e => by have := (hr k e).1; omega) (fun b hb => by omega), (hg' _ (by omega)).trans hb1, (hg' _ (by omega)).trans hb2, cs, (hg' _ (by omega)).trans hcs, hm⟩
  case own2 =>
    rintro j W W' row ⟨hk, t, r, hb1, hb2, hR⟩ hg hr
    have hz := hk.size
    have hg' : ∀ b, b < q + 2 → W'.heap[b]? = W.heap[b]? := fun b hb => hg.block b (by omega) (fun e => by have := (hr b e.symm).1; omega)
    exact ⟨hk.grown hg (fun k e => by have := (hr k e).1; omega) (fun b hb => by omega), t, r, (hg' _ (by omega)).trans hb1, (hg' _ (by omega)).trans hb2, hR⟩
  case bel =>
    rintro j W1 W' hz ⟨hk, hb1, hb2, cs, hcs, hm⟩ hbl
    exact ⟨hk.trans (KS.below (fun b hb => by omega) hbl), (hbl.block _ (by omega)).trans hb1, (hbl.block _ (by omega)).trans hb2, cs, (hbl.block _ (by omega)).trans hcs, hm⟩
  case start => exact ⟨KS.refl _ _, HUa.out, HUb.out, _, HU0.out, Met.start _ _ _ _⟩
  case own3 =>
    rintro j a' _ W W' row ⟨⟨hk, hb1, hb2, cs, hcs, hm⟩, e⟩ hg hr
    have hz := hk.size
    have hg' : ∀ b, b < q + 2 → W'.heap[b]? = W.heap[b]? := fun b hb => hg.block b (by omega) (fun e => by have := (hr b e.symm).1; omega)
    exact ⟨⟨hk.grown hg (fun k e => by have := (hr k e).1; omega) (fun b hb => by omega), (hg' _ (by omega)).trans hb1, (hg' _ (by omega)).trans hb2, cs, (hg' _ (by omega)).trans hcs, hm⟩, e⟩
  case assign =>
    intro l j W K hj hI hks hK
    have HK : Hid _ := hK
    have HI : Hid _ := hI
    unfold pwV
    clear hK hI hks hj
    gi_wp2
    exact HK.out _ _ ⟨Nat.le_refl _, fun k o _ hk ho => hk⟩ (KS.refl _ _) ⟨HI.out, rfl⟩
  case body =>
    rintro l j a' W hj ⟨⟨hk, hb1, hb2, cs, hcs, hmet⟩, rfl⟩ hks
    have hz := hk.size
    have HK : Hid (KS (fun b => b < q + 4 ∧ b ≠ q ∧ b ≠ w.heap.size ∧ b ≠ w.heap.size + 1) U W) := hk
    have HA : Hid (W.heap[w.heap.size]? = some (.cells #[.int .i64 0] 3 (0, 0))) := hb1
    have HB : Hid (W.heap[w.heap.size + 1]? = some (.cells #[.int .i64 0] 3 (0, 0))) := hb2
    have HCS : Hid (W.heap[q]? = some (.cells (nC cs).toArray 3 (0, 0))) := hcs
    have HMT : Hid (Met A.k.toNat N i m j cs) := hmet
    have hc6 : W.cell? ⟨q + 1, 0, none⟩ = some (.slice (some ⟨q, 0, none⟩) m m) := by
      rw [World.cell?_of_block (a := ⟨q + 1, 0, none⟩) (hk.block (q + 1) ⟨by omega, by omega, by omega, by omega⟩)]; exact HU1.out
    have HLT : Hid (j < M.length + 1) := hj
    obtain ⟨p, hp⟩ : ∃ p, pwN A.k.toNat N i j = p := ⟨_, rfl⟩
    have HP : Hid (pwN A.k.toNat N i j = p) := hp
    have hpl : p < m := by rw [← hp, ← hML]; exact HMon.out.pw_lt HHI.out j
    have hpI : (p : Int) < (m : Int) := by omega
    have hjm : j ≤ 512 := by omega
    obtain ⟨v, hv⟩ : ∃ v, cs[p]? = some v := ⟨_, List.getElem?_eq_getElem (by rw [hmet.len]; exact hpl)⟩
    have hcv : W.cell? ⟨q, p, none⟩ = some (.int .i64 (v : Nat)) := by
      rw [cell_of_row _ _ _ _ _ _ hcs]
      simp [nC, hv]
    have HV : Hid (cs[p]? = some v) := hv
    rw [hp]
    clear hk hb1 hb2 hcs hks hv hp hmet
    by_cases hv0 : v = 0
    · subst hv0
      have hwj : IntKind.i64.wrap ((j : Int) + 1) = ((j + 1 : Nat) : Int) := by rw [IntKind.wrap_i64]; omega
      have hfq : W.frozen? ⟨q, p, none⟩ = false := frz_at HCS.out
      have HST : Hid ((W.setCell ⟨q, p, none⟩ (.int .i64 ((j + 1 : Nat) : Int))).heap[q]? = some (.cells (nC (cs.set p (j + 1))).toArray 3 (0, 0))) := by
        show _ = _
        have e : (nC (cs.set p (j + 1))).toArray = (nC cs).toArray.setIfInBounds p (.int .i64 ((j + 1 : Nat) : Int)) := by
          apply Array.ext'
          simp [nC, List.map_set]
        rw [e]
        exact heap_set HCS.out
      obtain ⟨j1, hj1⟩ : ∃ j1, j + 1 = j1 := ⟨_, rfl⟩
      have HJ1 : Hid (j + 1 = j1) := hj1
      rw [hj1] at hwj HST
      clear hj1
      gi_wp2
      refine ⟨⟨by simp [World.setCell], fun k o hk1 hk ho => ?_⟩, (KS.refl _ _).set (by omega), HK.out.set (by omega), ?_, ?_, _, HST.out, ?_⟩
      · rw [heap_set_other (fun e => by omega)]
        exact hk
      · rw [heap_set_other (fun e => by omega)]; exact HA.out
      · rw [heap_set_other (fun e => by omega)]; exact HB.out
      · have q1 := HMT.out
        have q2 := q1.next (by rw [HP.out]; exact hpl) (by rw [HP.out]; exact HV.out)
        rw [HP.out, HJ1.out] at q2
        rw [HJ1.out]
        exact q2
    · have F := HMT.out.found (v := v) (by rw [HP.out]; exact HV.out) hv0
      have HTR : Hid (TR (rm A.k.toNat N i) 0 (v - 1) (j - (v - 1))) := F.2.2
      have hvj := F.1
      have hv1 := F.2.1
      have hvI : (0 : Int) < (v : Int) := by omega
      have hvd : decide ((0 : Int) < (v : Int)) = true := decide_eq_true hvI
      obtain ⟨t, ht⟩ : ∃ t, v - 1 = t := ⟨_, rfl⟩
      obtain ⟨r, hr⟩ : ∃ r, j - t = r := ⟨_, rfl⟩
      rw [ht, hr] at HTR
      have hw1 : IntKind.i64.wrap ((v : Int) - 1) = (t : Int) := by rw [IntKind.wrap_i64]; omega
      have hw2 : IntKind.i64.wrap ((j : Int) - (t : Int)) = (r : Int) := by rw [IntKind.wrap_i64]; omega
      have hca : W.cell? ⟨w.heap.size, 0, none⟩ = some (.int .i64 0) := cell_at HA.out rfl
      have hfa : W.frozen? ⟨w.heap.size, 0, none⟩ = false := frz_at HA.out
      have HA1 : Hid ((W.setCell ⟨w.heap.size, 0, none⟩ (.int .i64 (t : Int))).heap[w.heap.size]? = some (.cells #[.int .i64 (t : Int)] 3 (0, 0))) := heap_set HA.out
      have HB1 : Hid ((W.setCell ⟨w.heap.size, 0, none⟩ (.int .i64 (t : Int))).heap[w.heap.size + 1]? = some (.cells #[.int .i64 0] 3 (0, 0))) := by show _ = _; rw [heap_set_other (fun e => by omega)]; exact HB.out
      have hcb : (W.setCell ⟨w.heap.size, 0, none⟩ (.int .i64 (t : Int))).cell? ⟨w.heap.size + 1, 0, none⟩ = some (.int .i64 0) := cell_at HB1.out rfl
      have hfb : (W.setCell ⟨w.heap.size, 0, none⟩ (.int .i64 (t : Int))).frozen? ⟨w.heap.size + 1, 0, none⟩ = false := frz_at HB1.out
      have hca1 : (W.setCell ⟨w.heap.size, 0, none⟩ (.int .i64 (t : Int))).cell? ⟨w.heap.size, 0, none⟩ = some (.int .i64 (t : Int)) := cell_at HA1.out rfl
      have HTR2 : Hid (t < 1000 ∧ r < 1000) := by show _ ∧ _; omega
      clear F ht hr
      gi_wp2
      refine ⟨rfl, ⟨by simp [World.setCell], fun k o hk1 hk ho => ?_⟩, (HK.out.set (by omega)).set (by omega), t, r, ?_, heap_set HB1.out, HTR.out, HTR2.out⟩
      · rw [heap_set_other (fun e => by omega), heap_set_other (fun e => by omega)]
        exact hk
      · rw [heap_set_other (fun e => by omega)]; exact HA1.out
  case done =>
    rintro D W hD ⟨hk, hb1, hb2, cs, hcs, hmet⟩ hK
    rw [← hML] at hmet
    exact (hmet.done HMon.out HHI.out).elim
  case stop =>
    rintro D W hD ⟨hk, t, r, hb1, hb2, hR, hsm⟩ hKD
    have hz := hk.size
    have HK : Hid (KS (fun b => b < q + 4 ∧ b ≠ q ∧ b ≠ w.heap.size ∧ b ≠ w.heap.size + 1) U W) := hk
    have HX : Hid (TR (rm A.k.toNat N i) 0 t r) := hR
    have HKD : Hid (W.heap[D]? = some (.deferred (some []))) := hKD
    have HA : Hid (W.heap[w.heap.size]? = some (.cells #[.int .i64 (t : Int)] 3 (0, 0))) := hb1
    have HB : Hid (W.heap[w.heap.size + 1]? = some (.cells #[.int .i64 (r : Int)] 3 (0, 0))) := hb2
    have hca : W.cell? ⟨w.heap.size, 0, none⟩ = some (.int .i64 (t : Int)) := cell_at hb1 rfl
    have hcb : W.cell? ⟨w.heap.size + 1, 0, none⟩ = some (.int .i64 (r : Int)) := cell_at hb2 rfl
    have HA1 : Hid ((W.setCell ⟨w.heap.size, 0, none⟩ (.int .i64 (t : Int))).drew.heap[w.heap.size]? = some (.cells #[.int .i64 (t : Int)] 3 (0, 0))) := heap_set HA.out
    have HB1 : Hid ((W.setCell ⟨w.heap.size, 0, none⟩ (.int .i64 (t : Int))).drew.heap[w.heap.size + 1]? = some (.cells #[.int .i64 (r : Int)] 3 (0, 0))) := by show (W.setCell ⟨w.heap.size, 0, none⟩ (.int .i64 (t : Int))).heap[w.heap.size + 1]? = _; rw [heap_set_other (fun e => by omega)]; exact HB.out
    have d1 : W.drew.cell? ⟨w.heap.size, 0, none⟩ = some (.int .i64 (t : Int)) := hca
    have d2 : W.drew.cell? ⟨w.heap.size + 1, 0, none⟩ = some (.int .i64 (r : Int)) := hcb
    have d3 : W.drew.frozen? ⟨w.heap.size, 0, none⟩ = false := frz_at (w := W.drew) HA.out
    have d4 : (W.setCell ⟨w.heap.size, 0, none⟩ (.int .i64 (t : Int))).drew.cell? ⟨w.heap.size + 1, 0, none⟩ = some (.int .i64 (r : Int)) := cell_at HB1.out rfl
    have d5 : (W.setCell ⟨w.heap.size, 0, none⟩ (.int .i64 (t : Int))).drew.frozen? ⟨w.heap.size + 1, 0, none⟩ = false := frz_at HB1.out
    clear hk hb1 hb2 hR hKD hca hcb
    gi_wp2
    gi_region
    gi_wp2
    obtain ⟨Z, hZ⟩ : ∃ Z, ((W.setCell ⟨w.heap.size, 0, none⟩ (.int .i64 (t : Int))).setCell ⟨w.heap.size + 1, 0, none⟩ (.int .i64 (r : Int))).drew = Z := ⟨_, rfl⟩
    have hZD : Z.heap[D]? = some (.deferred (some [])) := by
      rw [← hZ]
      show ((W.setCell ⟨w.heap.size, 0, none⟩ (.int .i64 (t : Int))).setCell ⟨w.heap.size + 1, 0, none⟩ (.int .i64 (r : Int))).heap[D]? = _
      rw [heap_set_other (fun e => by omega), heap_set_other (fun e => by omega)]
      exact HKD.out
    have hZa : Z.cell? ⟨w.heap.size, 0, none⟩ = some (.int .i64 (t : Int)) := by
      rw [← hZ]
      have e : ((W.setCell ⟨w.heap.size, 0, none⟩ (.int .i64 (t : Int))).setCell ⟨w.heap.size + 1, 0, none⟩ (.int .i64 (r : Int))).drew.heap[w.heap.size]? = some (.cells #[.int .i64 (t : Int)] 3 (0, 0)) := by
        show ((W.setCell ⟨w.heap.size, 0, none⟩ (.int .i64 (t : Int))).setCell ⟨w.heap.size + 1, 0, none⟩ (.int .i64 (r : Int))).heap[w.heap.size]? = _
        rw [heap_set_other (fun e => by omega)]
        exact HA1.out
      exact cell_at e rfl
    have hZb : Z.cell? ⟨w.heap.size + 1, 0, none⟩ = some (.int .i64 (r : Int)) := by
      rw [← hZ]
      have e : ((W.setCell ⟨w.heap.size, 0, none⟩ (.int .i64 (t : Int))).setCell ⟨w.heap.size + 1, 0, none⟩ (.int .i64 (r : Int))).drew.heap[w.heap.size + 1]? = some (.cells #[.int .i64 (r : Int)] 3 (0, 0)) := heap_set (w := W.setCell ⟨w.heap.size, 0, none⟩ (.int .i64 (t : Int))) HB1.out
      exact cell_at e rfl
    have hBZ : Below w.heap.size w Z := by
      have b0 := HK.out.base HBU.out (fun b hb => ⟨by omega, by omega, by omega, by omega⟩)
      have b1 := (b0.setCell (p := ⟨w.heap.size, 0, none⟩) (Nat.le_refl _) (.int .i64 (t : Int))).setCell (p := ⟨w.heap.size + 1, 0, none⟩) (by show w.heap.size ≤ w.heap.size + 1; omega) (.int .i64 (r : Int))
      rw [← hZ]
      exact b1.drew
    rw [hZ]
    refine ⟨by simp, .inl ⟨_, _, rfl, run_takeDeferred hZD, ?_⟩⟩
    have hP : ∀ b, b ≠ D → (Z.putObj D (.deferred none)).heap[b]? = Z.heap[b]? := fun b hb => World.putObj_heap_other hb
    refine ⟨_, results_int2 rfl rfl rfl (by rw [World.cell?_of_block (hP _ (by show w.heap.size ≠ D; omega))]; exact hZa) (by rw [World.cell?_of_block (hP _ (by show w.heap.size + 1 ≠ D; omega))]; exact hZb), ⟨t, r, rfl, HX.out⟩, ?_⟩
    exact hBZ.grown (grownBy_putObj' Z D _) (by have := hBZ.size; omega) (fun k e => by cases e; omega)

theorem cycle_any {w : World} {ob : Nat} {A : Aut} {M : List (List Nat)} {N : List Nat} (h : MO w ob A M N) (i : Nat) (hi : i < M.length) :
    Calls Try.prog 51 #[.pointer (some ⟨ob, 0, none⟩), .int .i64 i] w fun e w' => (∃ t r : Nat, e = .returned (.tuple #[.int .i64 (t : Nat), .int .i64 (r : Nat)]) ∧ TR (rm A.k.toNat N i) 0 t r) ∧ Below w.heap.size w w' :=
  callsIn_wide.1 (cycle_in 3 (by omega) h i hi)

set_option maxHeartbeats 1000000 in
set_option maxRecDepth 100000 in
theorem iCycle_any {w : World} {ob : Nat} {A : Aut} {M : List (List Nat)} {N : List Nat} (h : MO w ob A M N) (i : Nat) (hi : i < M.length) :
    Calls Try.prog 17 #[.pointer (some ⟨ob, 0, none⟩), .int .i64 i] w fun e w' => (∃ t r : Nat, e = .returned (.tuple #[.int .i64 (t : Nat), .int .i64 (r : Nat), .int .i64 0]) ∧ TR (rm A.k.toNat N i) 0 t r) ∧ Below w.heap.size w w' := by
  have HC : Hid _ := icheck_one h i
  rw [if_pos (show hasE M.length (i : Int) = true from decide_eq_true ⟨by omega, by omega⟩)] at HC
  have HB1 : Hid (Below w.heap.size w (w.alloc (.cells #[.int .i64 (i : Int)] 3))) := below_new _ _
  have HY : Hid _ := cycle_any (h.below HB1.out) i hi
  clear h
  go_enter Try.func17, Try.ntmps17
  go_wp2_with fail
  refine Calls.mono HC.out ?_
  rintro e w1 ⟨rfl, rfl⟩
  go_wp2_with fail
  refine Calls.mono HY.out ?_
  rintro e w2 ⟨⟨t, r, rfl, hR⟩, hb⟩
  have HR : Hid (TR (rm A.k.toNat N i) 0 t r) := hR
  have HB : Hid (Below w.heap.size w w2) := go_on HB1.out hb
  clear hb hR
  go_wp2_with fail
  go_ret3
  exact ⟨⟨t, r, rfl, HR.out⟩, HB.out⟩

set_option maxHeartbeats 1000000 in
set_option maxRecDepth 100000 in
theorem iCycle_not {w : World} {ob : Nat} {A : Aut} {M : List (List Nat)} {N : List Nat} (h : MO w ob A M N) (i : Int) (hi : ¬ hasE M.length i = true) :
    Calls Try.prog 17 #[.pointer (some ⟨ob, 0, none⟩), .int .i64 i] w fun e w' => e = .returned (.tuple #[.int .i64 0, .int .i64 0, .int .i64 11]) ∧ Below w.heap.size w w' := by
  have HC : Hid _ := icheck_one h i
  rw [if_neg hi] at HC
  have HB1 : Hid (Below w.heap.size w (w.alloc (.cells #[.int .i64 i] 3))) := below_new _ _
  clear h
  go_enter Try.func17, Try.ntmps17
  go_wp2_with fail
  refine Calls.mono HC.out ?_
  rintro e w1 ⟨rfl, rfl⟩
  go_wp2_with fail
  go_ret3
  exact ⟨rfl, HB1.out⟩
end Go.Proofs.Ytafcejipoioigaa

namespace Go.Proofs.Ytafcejipoioigaa
set_option linter.unusedVariables false

/-- The primes from 23 to 61. -/
def bigP : List Nat := [23, 29, 31, 37, 41, 43, 47, 53, 59, 61]
theorem bigP_dvd : ∀ q ∈ bigP, ∀ r, r ∣ q → r = 1 ∨ r = q := by
  have k : ∀ q ∈ bigP, ∀ r ∈ List.range 62, r ∣ q → r = 1 ∨ r = q := by decide +kernel
  have k2 : ∀ q ∈ bigP, 0 < q ∧ q ≤ 61 := by decide
  intro q hq r hr
  have := Nat.le_of_dvd (k2 q hq).1 hr
  exact k q hq r (List.mem_range.2 (by have := (k2 q hq).2; omega)) hr
theorem bigP_le : ∀ q ∈ bigP, 23 ≤ q ∧ q ≤ 61 := by decide
theorem bigP_two : ∀ p ∈ bigP, ∀ q ∈ bigP, p ≠ q → 512 < p * q := by decide +kernel
theorem bigP_three : ∀ p ∈ bigP, ∀ q ∈ bigP, ∀ r ∈ bigP, p ≠ q → p ≠ r → q ≠ r → 83 ≤ p + q + r := by decide +kernel
theorem ring_big : ∀ r ∈ List.range 65, 1 ≤ r → r ∣ 97772875200 ∨ ∃ q ∈ bigP, q ∣ r ∧ r ∣ 97772875200 * q := by decide +kernel
theorem bigP_cop {p e : Nat} (hp : p ∈ bigP) (h : ¬ p ∣ e) : Nat.gcd e p = 1 := by
  rcases bigP_dvd p hp _ (Nat.gcd_dvd_right e p) with c | c
  · exact c
  · exact absurd (c ▸ Nat.gcd_dvd_left e p) h
/-- Periods of a sequence: their greatest common divisor is one. -/
theorem per_gcd {α : Type} (f : Nat → α) : ∀ (a b : Nat), (∀ k, f (k + a) = f k) → (∀ k, f (k + b) = f k) → ∀ k, f (k + Nat.gcd a b) = f k := by
  intro a b
  induction a, b using Nat.gcd.induction with
  | H0 n => intro _ h k; rw [Nat.gcd_zero_left]; exact h k
  | H1 m n hm ih =>
    intro h1 h2 k
    have hmul : ∀ c k, f (k + m * c) = f k := by
      intro c
      induction c with
      | zero => intro k; rfl
      | succ c ihc => intro k; rw [Nat.mul_succ, ← Nat.add_assoc, h1, ihc]
    rw [Nat.gcd_rec]
    refine ih (fun k => ?_) h1 k
    have e := Nat.mod_add_div n m
    have := hmul (n / m) (k + n % m)
    rw [Nat.add_assoc, e, h2] at this
    exact this.symm
theorem per_one {α : Type} (f : Nat → α) (h : ∀ k, f (k + 1) = f k) : ∀ k, f k = f 0
  | 0 => rfl
  | k + 1 => by rw [h, per_one f h k]
theorem orb_comm (f : Nat → Nat) (i a b : Nat) : orb f (orb f i a) b = orb f (orb f i b) a := by
  rw [← orb_add, ← orb_add, Nat.add_comm]
theorem TR.ring {f : Nat → Nat} {s p : Nat} (h : TR f s 0 p) (k m : Nat) : orb f s (k + p * m) = orb f s k := h.shifts (Nat.zero_le _) m
/-- Two rings of unlike prime lengths that share two points: products of powers are unlike. -/
theorem two_rings {f g : Nat → Nat} {s t p q : Nat} (hp : p ∈ bigP) (hq : q ∈ bigP) (hne : p ≠ q) (F : TR f s 0 p) (G : TR g t 0 q) {a1 a2 b1 b2 : Nat} (e1 : orb f s a1 = orb g t b1) (e2 : orb f s a2 = orb g t b2) (hu : orb f s a1 ≠ orb f s a2)
    {i i' j j' : Nat} (hi : i < p) (hi' : i' < p) (hj : j < q) (hj' : j' < q) (H : ∀ k, orb g (orb f (orb f s k) i) j = orb g (orb f (orb f s k) i') j') : i = i' ∧ j = j' := by
  obtain ⟨e, he⟩ : ∃ e, e = p - i + i' := ⟨_, rfl⟩
  have S : ∀ k, orb g (orb f s k) j = orb g (orb f s (k + e)) j' := fun k => by
    have := H (k + (p - i))
    rw [← orb_add, ← orb_add] at this
    rw [show k + (p - i) + i = k + p * 1 by omega, F.ring, show k + (p - i) + i' = k + e by omega] at this
    exact this
  have I : ∀ m k, orb g (orb f s k) (m * j) = orb g (orb f s (k + m * e)) (m * j') := by
    intro m
    induction m with
    | zero => intro k; simp
    | succ m ih =>
      intro k
      rw [Nat.succ_mul, orb_add, ih k, orb_comm, S, orb_comm, ← orb_add, Nat.succ_mul, Nat.succ_mul, Nat.add_assoc]
  have hcop : Nat.gcd q p = 1 := bigP_cop hp (fun hd => by
    rcases bigP_dvd q hq p hd with c | c
    · have := bigP_le p hp; omega
    · exact hne c)
  have hjj : j = j' := by
    have h1 := I p a1
    rw [F.ring, e1, ← orb_add, ← orb_add] at h1
    have key : ∀ x y, x < q → y < q → x ≤ y → orb g t (b1 + p * x) = orb g t (b1 + p * y) → x = y := fun x y hx hy hxy hh => by
      by_cases c : x = y
      · exact c
      · have h2 : p * x + p * (y - x) = p * y := by rw [← Nat.mul_add]; congr 1; omega
        have hpp := (bigP_le p hp).1
        have h3 : 1 ≤ p * (y - x) := Nat.mul_pos (by omega) (by omega)
        have h4 := (G.iff (b1 + p * x) (p * (y - x)) h3).1 (by rw [Nat.add_assoc, h2, hh])
        have h5 : q ∣ y - x := Nat.Coprime.dvd_of_dvd_mul_left (k := q) (m := p) (n := y - x) hcop h4.2
        have := Nat.le_of_dvd (by omega) h5
        omega
    rcases Nat.le_total j j' with c | c
    · exact key j j' hj hj' c h1
    · exact (key j' j hj' hj c h1.symm).symm
  subst hjj
  refine ⟨?_, rfl⟩
  apply Classical.byContradiction
  intro hii
  have hnd : ¬ p ∣ e := fun hd => by
    have h2 : e < p + p := by omega
    obtain ⟨c, hc⟩ := hd
    have : c = 1 := by
      rcases Nat.lt_or_ge c 2 with k | k
      · have : c ≠ 0 := fun c0 => by rw [c0] at hc; omega
        omega
      · have := Nat.mul_le_mul_left p k
        omega
    rw [this] at hc
    omega
  have hg := bigP_cop hp hnd
  have P1 := per_gcd (fun k => orb g (orb f s k) j) e p (fun k => (S k).symm) (fun k => by
    have := F.ring k 1
    rw [Nat.mul_one] at this
    rw [this])
  rw [hg] at P1
  have hc := (per_one (fun k => orb g (orb f s k) j) P1 a1).trans (per_one (fun k => orb g (orb f s k) j) P1 a2).symm
  replace hc : orb g (orb f s a1) j = orb g (orb f s a2) j := hc
  rw [e1, e2, ← orb_add, ← orb_add] at hc
  have hb : b1 % q ≠ b2 % q := fun hb => by
    apply hu
    rw [e1, e2]
    have k1 := G.ring (b1 % q) (b1 / q)
    have k2 := G.ring (b2 % q) (b2 / q)
    rw [Nat.mod_add_div] at k1 k2
    rw [k1, k2, hb]
  have key : ∀ x y, x ≤ y → orb g t (x + j) = orb g t (y + j) → x % q = y % q := fun x y hxy hh => by
    by_cases c : x = y
    · rw [c]
    · have h4 := (G.iff (x + j) (y - x) (by omega)).1 (by rw [show x + j + (y - x) = y + j by omega, hh])
      obtain ⟨z, hz⟩ := h4.2
      rw [show y = x + q * z by omega, Nat.add_mul_mod_self_left]
  rcases Nat.le_total b1 b2 with c | c
  · exact hb (key _ _ c hc)
  · exact hb (key _ _ c hc.symm).symm
theorem filter_one {l : List Nat} {P : Nat → Bool} (hn : l.Nodup) (h : ∀ u ∈ l, ∀ v ∈ l, P u = true → P v = true → u = v) : l.length ≤ (l.filter (fun x => !P x)).length + 1 := by
  induction l with
  | nil => simp
  | cons y l ih =>
    rw [List.nodup_cons] at hn
    by_cases hy : P y = true
    · have e : l.filter (fun x => !P x) = l := by
        rw [List.filter_eq_self]
        intro x hx
        cases hP : P x with
        | false => rfl
        | true => exact absurd (h y (by simp) x (by simp [hx]) hy hP ▸ hx) hn.1
      rw [List.filter_cons, if_neg (by simp [hy]), e, List.length_cons]
      exact Nat.le_refl _
    · have := ih hn.2 (fun u hu v hv => h u (by simp [hu]) v (by simp [hv]))
      rw [List.filter_cons, if_pos (by simp [hy]), List.length_cons, List.length_cons]
      omega
/-- The points of a ring. -/
def rgL (f : Nat → Nat) (s p : Nat) : List Nat := (List.range p).map (orb f s)
theorem TR.nodup {f : Nat → Nat} {s p : Nat} (h : TR f s 0 p) : (rgL f s p).Nodup := map_nodup (fun a b hab hb => h.apart a b hab (by omega))
theorem mem_rgL {f : Nat → Nat} {s p x : Nat} (h : x ∈ rgL f s p) : ∃ k, k < p ∧ orb f s k = x := by
  obtain ⟨k, hk, rfl⟩ := List.mem_map.1 h
  exact ⟨k, List.mem_range.1 hk, rfl⟩
/-- Three rings that share at most one point each two. -/
theorem three_rings {L1 L2 L3 : List Nat} {n : Nat} (d1 : L1.Nodup) (d2 : L2.Nodup) (d3 : L3.Nodup) (n1 : ∀ x ∈ L1, x < n) (n2 : ∀ x ∈ L2, x < n) (n3 : ∀ x ∈ L3, x < n)
    (h12 : ∀ u ∈ L2, ∀ v ∈ L2, u ∈ L1 → v ∈ L1 → u = v) (h13 : ∀ u ∈ L3, ∀ v ∈ L3, u ∈ L1 → v ∈ L1 → u = v) (h23 : ∀ u ∈ L3, ∀ v ∈ L3, u ∈ L2 → v ∈ L2 → u = v) : L1.length + L2.length + L3.length ≤ n + 3 := by
  have c2 := filter_one (l := L2) (P := fun x => decide (x ∈ L1)) d2 (fun u hu v hv a b => h12 u hu v hv (of_decide_eq_true a) (of_decide_eq_true b))
  have c3 := filter_one (l := L3) (P := fun x => decide (x ∈ L1)) d3 (fun u hu v hv a b => h13 u hu v hv (of_decide_eq_true a) (of_decide_eq_true b))
  have d3' := d3.filter (fun x => !decide (x ∈ L1))
  have c4 := filter_one (l := L3.filter (fun x => !decide (x ∈ L1))) (P := fun x => decide (x ∈ L2)) d3' (fun u hu v hv a b => h23 u (List.mem_filter.1 hu).1 v (List.mem_filter.1 hv).1 (of_decide_eq_true a) (of_decide_eq_true b))
  have := nodup_le n (L1 ++ (L2.filter (fun x => !decide (x ∈ L1)) ++ (L3.filter (fun x => !decide (x ∈ L1))).filter (fun x => !decide (x ∈ L2)))) (by
    rw [List.nodup_append]
    refine ⟨d1, ?_, ?_⟩
    · rw [List.nodup_append]
      refine ⟨d2.filter _, d3'.filter _, ?_⟩
      intro a ha b hb e
      subst e
      simp only [List.mem_filter, Bool.not_eq_true', decide_eq_false_iff_not] at ha hb
      exact hb.2 ha.1
    · intro a ha b hb e
      subst e
      simp only [List.mem_append, List.mem_filter, Bool.not_eq_true', decide_eq_false_iff_not] at hb
      rcases hb with hb | hb
      · exact hb.2 ha
      · exact hb.1.2 ha) (fun x hx => by
    simp only [List.mem_append, List.mem_filter] at hx
    rcases hx with hx | hx | hx
    · exact n1 x hx
    · exact n2 x hx.1
    · exact n3 x hx.1.1)
  simp only [List.length_append] at this
  omega
/-- The transformation of a power. -/
theorem Mon.pw_at {A : Aut} {M : List (List Nat)} {N : List Nat} (h : Mon A M N) {i : Nat} {l : List Nat} (hi : M[i]? = some l) : ∀ n, M[pwN A.k.toNat N i n]? = some (pwr l n)
  | 0 => by rw [pwN_zero, h.bi.first, ← (h.tf hi).2]; rfl
  | n + 1 => by rw [pwN_succ, h.pr (h.pw_at hi n) hi]; rfl
/-- A ring of prime length q is met. -/
def Ring (A : Aut) (M : List (List Nat)) (q : Nat) : Prop := ∃ (i : Nat) (l : List Nat) (s : Nat), M[i]? = some l ∧ s < A.ac.length ∧ TR (im l) s 0 q
theorem Mon.im_lt {A : Aut} {M : List (List Nat)} {N : List Nat} (h : Mon A M N) {i : Nat} {l : List Nat} (hi : M[i]? = some l) : ∀ s, s < A.ac.length → im l s < A.ac.length := fun s hs => by
  have := (h.tf hi).1.lt s (by rw [(h.tf hi).2]; exact hs)
  rwa [(h.tf hi).2] at this
theorem pwr_orb {l : List Nat} (hl : ∀ s, s < l.length → im l s < l.length) (c : Nat) {s : Nat} (hs : s < l.length) : ∀ k, orb (im (pwr l c)) s k = orb (im l) s (c * k)
  | 0 => rfl
  | k + 1 => by
    show im (pwr l c) (orb (im (pwr l c)) s k) = _
    rw [pwr_orb hl c hs k, im_pwr (orb_lt hl hs _), ← orb_add, Nat.mul_succ]
theorem Mon.ring_of {A : Aut} {M : List (List Nat)} {N : List Nat} (h : Mon A M N) {i : Nat} {l : List Nat} (hi : M[i]? = some l) {s t r : Nat} (hs : s < A.ac.length) (R : TR (im l) s t r) {q : Nat} (hq : q ∈ bigP) (hd : q ∣ r) : Ring A M q := by
  obtain ⟨c, rfl⟩ := hd
  have hlen := (h.tf hi).2
  have hlt : ∀ s, s < l.length → im l s < l.length := (h.tf hi).1.lt
  have hs0 : orb (im l) s t < l.length := orb_lt hlt (by rw [hlen]; exact hs) t
  have hq1 := (bigP_le q hq).1
  have hc1 : 1 ≤ c := by
    rcases Nat.eq_zero_or_pos c with e | e
    · have := R.pos; rw [e] at this; omega
    · exact e
  refine ⟨pwN A.k.toNat N i c, pwr l c, orb (im l) s t, h.pw_at hi c, by rw [← hlen]; exact hs0, ?_⟩
  obtain ⟨t', r', R'⟩ := tr_ex (h.im_lt (h.pw_at hi c)) (by rw [← hlen]; exact hs0)
  have e1 : orb (im (pwr l c)) (orb (im l) s t) (0 + q) = orb (im (pwr l c)) (orb (im l) s t) 0 := by
    rw [pwr_orb hlt c hs0, pwr_orb hlt c hs0, ← orb_add, ← orb_add]
    have := R.shifts (Nat.le_refl t) 1
    rw [Nat.mul_one] at this
    rw [show t + c * (0 + q) = t + q * c by rw [Nat.zero_add, Nat.mul_comm], this]
    rfl
  have k1 := (R'.iff 0 q (by omega)).1 e1
  have ht : t' = 0 := by omega
  subst ht
  rcases bigP_dvd q hq r' k1.2 with e | e
  · exfalso
    rw [e] at R'
    have e2 : orb (im (pwr l c)) (orb (im l) s t) (0 + 1) = orb (im (pwr l c)) (orb (im l) s t) 0 := R'.back
    rw [pwr_orb hlt c hs0, pwr_orb hlt c hs0, ← orb_add, ← orb_add] at e2
    have k2 := (R.iff t c hc1).1 (by
      rw [show t + c * (0 + 1) = t + c by omega] at e2
      exact e2)
    have k3 := Nat.le_of_dvd hc1 k2.2
    have k4 := Nat.mul_le_mul_right c hq1
    omega
  · rw [e] at R'
    exact R'
theorem Mon.ring_two {A : Aut} {M : List (List Nat)} {N : List Nat} (h : Mon A M N) {p q i j s t : Nat} {l m : List Nat} (hp : p ∈ bigP) (hq : q ∈ bigP) (hne : p ≠ q) (hi : M[i]? = some l) (hj : M[j]? = some m) (hs : s < A.ac.length) (ht : t < A.ac.length) (F : TR (im l) s 0 p) (G : TR (im m) t 0 q) :
    ∀ u ∈ rgL (im m) t q, ∀ v ∈ rgL (im m) t q, u ∈ rgL (im l) s p → v ∈ rgL (im l) s p → u = v := by
  intro u hu v hv hu' hv'
  obtain ⟨b1, _, e1⟩ := mem_rgL hu
  obtain ⟨b2, _, e2⟩ := mem_rgL hv
  obtain ⟨a1, _, f1⟩ := mem_rgL hu'
  obtain ⟨a2, _, f2⟩ := mem_rgL hv'
  apply Classical.byContradiction
  intro huv
  have hll := (h.tf hi).2
  have hml := (h.tf hj).2
  have hil := (List.getElem?_eq_some_iff.1 hi).1
  have hjl := (List.getElem?_eq_some_iff.1 hj).1
  have hq0 : 0 < q := by have := bigP_le q hq; omega
  have hz : ∀ a b, M[Go.Proofs.Ytafcejipoioigaa.pr A.k.toNat N (pwN A.k.toNat N i a) (pwN A.k.toNat N j b)]? = some (cmp (pwr l a) (pwr m b)) := fun a b => h.pr (h.pw_at hi a) (h.pw_at hj b)
  have := nodup_le M.length ((List.range (p * q)).map fun k => Go.Proofs.Ytafcejipoioigaa.pr A.k.toNat N (pwN A.k.toNat N i (k / q)) (pwN A.k.toNat N j (k % q))) (map_nodup (fun a b hab hb e => by
      have ha : a / q < p := by rw [Nat.div_lt_iff_lt_mul hq0]; omega
      have hb' : b / q < p := by rw [Nat.div_lt_iff_lt_mul hq0]; omega
      have k1 := hz (a / q) (a % q)
      rw [e, hz, Option.some.injEq] at k1
      have k2 := two_rings hp hq hne F G (f1.trans e1.symm) (f2.trans e2.symm) (by rw [f1, f2]; exact huv) ha hb' (Nat.mod_lt a hq0) (Nat.mod_lt b hq0) (fun k => by
        have hk : orb (im l) s k < A.ac.length := orb_lt (h.im_lt hi) hs k
        have w1 : ∀ x y, im (cmp (pwr l x) (pwr m y)) (orb (im l) s k) = orb (im m) (orb (im l) (orb (im l) s k) x) y := fun x y => by
          rw [cmp_im _ _ (by rw [pwr_len, hll]; exact hk), im_pwr (l := l) (by rw [hll]; exact hk), im_pwr (l := m) (by rw [hml]; exact orb_lt (h.im_lt hi) hk x)]
        rw [← w1, ← w1, k1])
      have m1 := Nat.mod_add_div a q
      have m2 := Nat.mod_add_div b q
      rw [k2.1, k2.2] at m1
      omega)) (fun x hx => by
    obtain ⟨k, _, rfl⟩ := List.mem_map.1 hx
    exact h.pr_lt (h.pw_lt hil _) (h.pw_lt hjl _))
  rw [List.length_map, List.length_range] at this
  have := bigP_two p hp q hq hne
  have := h.most
  omega
theorem Mon.ring_three {A : Aut} {M : List (List Nat)} {N : List Nat} (h : Mon A M N) {p q r : Nat} (hp : p ∈ bigP) (hq : q ∈ bigP) (hr : r ∈ bigP) (Rp : Ring A M p) (Rq : Ring A M q) (Rr : Ring A M r) : p = q ∨ p = r ∨ q = r := by
  apply Classical.byContradiction
  intro hc
  have n1 : p ≠ q := fun e => hc (.inl e)
  have n2 : p ≠ r := fun e => hc (.inr (.inl e))
  have n3 : q ≠ r := fun e => hc (.inr (.inr e))
  obtain ⟨i, l, s, hi, hs, F⟩ := Rp
  obtain ⟨j, m, t, hj, ht, G⟩ := Rq
  obtain ⟨k, n, u, hk, hu, H⟩ := Rr
  have lt : ∀ {i l s p}, M[i]? = some l → s < A.ac.length → ∀ x ∈ rgL (im l) s p, x < A.ac.length := fun {i l s p} hi hs x hx => by
    obtain ⟨k, _, rfl⟩ := mem_rgL hx
    exact orb_lt (h.im_lt hi) hs k
  have := three_rings F.nodup G.nodup H.nodup (lt hi hs) (lt hj ht) (lt hk hu) (h.ring_two hp hq n1 hi hj hs ht F G) (h.ring_two hp hr n2 hi hk hs hu F H) (h.ring_two hq hr n3 hj hk ht hu G H)
  simp only [rgL, List.length_map, List.length_range] at this
  have := bigP_three p hp q hq r hr n1 n2 n3
  have := h.n64
  omega
/-- All periods divide one number that is not great. -/
theorem Mon.per_all {A : Aut} {M : List (List Nat)} {N : List Nat} (h : Mon A M N) : ∃ D, 1 ≤ D ∧ D ≤ 363812868619200 ∧ ∀ i t r, i < M.length → TR (rm A.k.toNat N i) 0 t r → r ∣ D := by
  obtain ⟨a, b, ha, hb, hab⟩ : ∃ a b, a ∈ bigP ∧ b ∈ bigP ∧ ∀ q ∈ bigP, Ring A M q → q = a ∨ q = b := by
    by_cases c : ∃ a, a ∈ bigP ∧ Ring A M a
    · obtain ⟨a, ha, Ra⟩ := c
      by_cases c2 : ∃ b, b ∈ bigP ∧ Ring A M b ∧ a ≠ b
      · obtain ⟨b, hb, Rb, hne⟩ := c2
        refine ⟨a, b, ha, hb, fun q hq Rq => ?_⟩
        rcases h.ring_three ha hb hq Ra Rb Rq with e | e | e
        · exact absurd e hne
        · exact .inl e.symm
        · exact .inr e.symm
      · refine ⟨a, a, ha, ha, fun q hq Rq => .inl ?_⟩
        apply Classical.byContradiction
        intro hne
        exact c2 ⟨q, hq, Rq, fun e => hne e.symm⟩
    · exact ⟨23, 23, by decide, by decide, fun q hq Rq => absurd ⟨q, hq, Rq⟩ c⟩
  have la := bigP_le a ha
  have lb := bigP_le b hb
  have hab2 : 1 * 1 ≤ a * b := Nat.mul_le_mul (by omega) (by omega)
  have hab3 : a * b ≤ 61 * 61 := Nat.mul_le_mul (by omega) (by omega)
  obtain ⟨D, hD⟩ : ∃ D, D = 97772875200 * (a * b) := ⟨_, rfl⟩
  have hDq : ∀ r' ∈ List.range 65, 1 ≤ r' → r' ∣ D ∨ ∃ q ∈ bigP, q ∣ r' ∧ (q = a ∨ q = b → r' ∣ D) := fun r' hr' h1 => by
    rcases ring_big r' hr' h1 with c | ⟨q, hq, hd, c⟩
    · exact .inl (by rw [hD]; exact Nat.dvd_trans c (Nat.dvd_mul_right _ _))
    · refine .inr ⟨q, hq, hd, fun e => ?_⟩
      rw [hD]
      refine Nat.dvd_trans c (Nat.mul_dvd_mul_left _ ?_)
      rcases e with e | e
      · rw [e]; exact Nat.dvd_mul_right _ _
      · rw [e]; exact Nat.dvd_mul_left _ _
  have hD1 : 1 ≤ D := by omega
  refine ⟨D, hD1, by omega, ?_⟩
  clear hD hab2 hab3
  intro i t r hi R
  have hl := List.getElem?_eq_getElem hi
  obtain ⟨l, hle⟩ : ∃ l, M[i] = l := ⟨_, rfl⟩
  rw [hle] at hl
  have hlen := (h.tf hl).2
  obtain ⟨X, hX⟩ : ∃ X, X = 64 := ⟨_, rfl⟩
  have kp : pwr l (X + D) = pwr l X := by
    rw [pwr_eq_iff]
    intro s hs
    obtain ⟨t', r', R'⟩ := tr_ex (f := im l) (n := A.ac.length) (h.im_lt hl) (i := s) (by rw [← hlen]; exact hs)
    have hle := R'.le (h.im_lt hl) (by rw [← hlen]; exact hs)
    have h64 := h.n64
    have hr1 := R'.pos
    refine (R'.iff X D hD1).2 ⟨by omega, ?_⟩
    rcases hDq r' (List.mem_range.2 (by omega)) hr1 with c | ⟨q, hq, hd, c⟩
    · exact c
    · exact c (hab q hq (h.ring_of hl (by rw [← hlen]; exact hs) R' hq hd))
  have key : pwN A.k.toNat N i (X + D) = pwN A.k.toNat N i X := by
    refine h.inj (h.pw_at hl _) ?_
    rw [h.pw_at hl, kp]
  exact ((R.iff X D hD1).1 key).2
end Go.Proofs.Ytafcejipoioigaa

namespace Go.Proofs.Ytafcejipoioigaa
open Go Go.RowKit Go.Lib
set_option linter.unusedVariables false
attribute [-instance] List.instBEq instBEqProd

set_option maxHeartbeats 1000000 in
set_option maxRecDepth 100000 in
theorem idivisor_any (a b : Nat) (w : World) (ha : a ≤ 9223372036854775807) (hb : b ≤ 9223372036854775807) :
    Calls Try.prog 75 #[.int .i64 a, .int .i64 b] w fun e w' => e = .returned (.int .i64 (Nat.gcd a b : Nat)) ∧ Below w.heap.size w w' := by
  go_enter Try.func75, Try.ntmps75
  go_wp2
  go_loopw [0, 1] (fun x y wr => ∃ p q : Nat, x = .int .i64 p ∧ y = .int .i64 q ∧ p ≤ 9223372036854775807 ∧ q ≤ 9223372036854775807 ∧ Nat.gcd p q = Nat.gcd a b ∧ Below w.heap.size w wr) (fun _ y _ => (Go.Lib.intOf y).toNat)
  case atStart => exact ⟨a, b, rfl, rfl, ha, hb, rfl, Below.refl _ _⟩
  case round =>
    obtain ⟨p, q, rfl, rfl, hp, hq, hg, hB⟩ := hrel
    have HG : Hid (Nat.gcd p q = Nat.gcd a b) := hg
    have HB : Hid (Below w.heap.size w wr) := hB
    have HB2 : Hid (Below w.heap.size w wr.drew) := hB.drew
    clear hg hB
    by_cases h : 0 < q
    · have hm : p % q < q := Nat.mod_lt _ h
      have hq0 : ((q : Int) == 0) = false := by rw [beq_eq_false_iff_ne]; omega
      have hq1 : ((q : Int) != 0) = true := by rw [bne_iff_ne]; omega
      have hq2 : ¬ (q : Int) = 0 := by omega
      have hq3 : (0 : Int) < (q : Int) := by omega
      have htm : (p : Int).tmod q = ((p % q : Nat) : Int) := by rw [Int.tmod_eq_emod_of_nonneg (by omega)]; omega
      have hwm : IntKind.i64.wrap ((p % q : Nat) : Int) = ((p % q : Nat) : Int) := by rw [IntKind.wrap_i64]; omega
      obtain ⟨z, hzE⟩ : ∃ z, p % q = z := ⟨_, rfl⟩
      have HZE : Hid (p % q = z) := hzE
      rw [hzE] at htm hwm hm
      clear hzE
      go_wp2_with fail
      go_region
      all_goals go_wp2_with fail
      all_goals go_roundw
      all_goals first
        | exact ⟨q, z, rfl, rfl, hq, by omega, by rw [← HG.out, ← HZE.out, Nat.gcd_comm p q, Nat.gcd_rec q p, Nat.gcd_comm], HB2.out⟩
        | (simp [Go.Lib.intOf]; omega)
    · have : q = 0 := by omega
      subst this
      go_wp2
      go_ret
      exact ⟨by have := HG.out; rw [Nat.gcd_zero_right] at this; rw [this]; rfl, HB.out⟩

set_option maxHeartbeats 1000000 in
set_option maxRecDepth 100000 in
theorem imultiple_any (a b : Nat) (w : World) (ha : 1 ≤ a) (ha2 : a ≤ 9223372036854775807) (hb : b ≤ 9223372036854775807) (hl : Nat.lcm a b ≤ 9223372036854775807) :
    Calls Try.prog 53 #[.int .i64 a, .int .i64 b] w fun e w' => e = .returned (.int .i64 (Nat.lcm a b : Nat)) ∧ Below w.heap.size w w' := by
  have HD : Hid _ := idivisor_any a b w ha2 hb
  have hg1 : 1 ≤ Nat.gcd a b := Nat.gcd_pos_of_pos_left b ha
  have hle := lcm_eq a b
  obtain ⟨g, hg⟩ : ∃ g, Nat.gcd a b = g := ⟨_, rfl⟩
  rw [hg] at HD hg1 hle
  obtain ⟨m, hm⟩ : ∃ m, Nat.lcm a b = m := ⟨_, rfl⟩
  rw [hm] at hle hl ⊢
  obtain ⟨d, hd⟩ : ∃ d, a / g = d := ⟨_, rfl⟩
  rw [hd] at hle
  have hda : d ≤ a := by rw [← hd]; exact Nat.div_le_self _ _
  have hg2 : ¬ (g : Int) = 0 := by omega
  have hg0 : ((g : Int) == 0) = false := by rw [beq_eq_false_iff_ne]; omega
  have hq : (a : Int).tdiv g = (d : Int) := by rw [Int.tdiv_eq_ediv_of_nonneg (by omega), ← hd]; rfl
  have hwd : IntKind.i64.wrap (d : Int) = (d : Int) := by rw [IntKind.wrap_i64]; omega
  have hmu : (d : Int) * (b : Int) = (m : Int) := by rw [← hle]; push_cast; rfl
  have hwm : IntKind.i64.wrap (m : Int) = (m : Int) := by rw [IntKind.wrap_i64]; omega
  clear hg hm hd hle
  go_enter Try.func53, Try.ntmps53
  go_wp2_with fail
  refine Calls.mono HD.out ?_
  rintro e w1 ⟨rfl, hb1⟩
  have HB : Hid (Below w.heap.size w w1) := hb1
  clear hb1
  go_wp2_with fail
  go_ret
  exact ⟨rfl, HB.out⟩

/-- The least common multiple of the first i elements' periods, and their greatest index (at least 1). -/
structure ExI (K : Nat) (N : List Nat) (i s l : Nat) : Prop where
  dvd : ∀ E, s ∣ E ↔ ∀ k, k < i → ∀ t r, TR (rm K N k) 0 t r → r ∣ E
  max : ∀ b, l ≤ b ↔ 1 ≤ b ∧ ∀ k, k < i → ∀ t r, TR (rm K N k) 0 t r → t ≤ b

theorem ExI.start (K : Nat) (N : List Nat) : ExI K N 0 1 1 := ⟨fun E => ⟨fun _ k h => by omega, fun _ => Nat.one_dvd _⟩, fun b => ⟨fun h => ⟨h, fun k h => by omega⟩, fun h => h.1⟩⟩

theorem ExI.next {K : Nat} {N : List Nat} {i s l t r : Nat} (h : ExI K N i s l) (R : TR (rm K N i) 0 t r) : ExI K N (i + 1) (Nat.lcm s r) (Nat.max l t) := by
  refine ⟨fun E => ?_, fun b => ?_⟩
  · rw [lcm_dvd_iff, h.dvd]
    constructor
    · rintro ⟨h1, h2⟩ k hk t' r' R'
      by_cases e : k = i
      · subst e
        rw [(R'.uniq R).2]; exact h2
      · exact h1 k (by omega) t' r' R'
    · intro H
      exact ⟨fun k hk => H k (by omega), H i (by omega) t r R⟩
  · have e : Nat.max l t ≤ b ↔ l ≤ b ∧ t ≤ b := Nat.max_le
    rw [e, h.max]
    constructor
    · rintro ⟨⟨h0, h1⟩, h2⟩
      refine ⟨h0, fun k hk t' r' R' => ?_⟩
      by_cases e : k = i
      · subst e
        rw [(R'.uniq R).1]; exact h2
      · exact h1 k (by omega) t' r' R'
    · rintro ⟨h0, H⟩
      exact ⟨⟨h0, fun k hk => H k (by omega)⟩, H i (by omega) t r R⟩

theorem ExI.uniq {K : Nat} {N : List Nat} {i s l s' l' : Nat} (h : ExI K N i s l) (g : ExI K N i s' l') : s = s' ∧ l = l' :=
  ⟨Nat.dvd_antisymm ((h.dvd _).2 ((g.dvd _).1 (Nat.dvd_refl _))) ((g.dvd _).2 ((h.dvd _).1 (Nat.dvd_refl _))), Nat.le_antisymm ((h.max _).2 ((g.max _).1 (Nat.le_refl _))) ((g.max _).2 ((h.max _).1 (Nat.le_refl _)))⟩

theorem ExI.small {A : Aut} {M : List (List Nat)} {N : List Nat} (hm : Mon A M N) {i s l : Nat} (h : ExI A.k.toNat N i s l) (hi : i ≤ M.length) : 1 ≤ s ∧ s ≤ 363812868619200 ∧ 1 ≤ l ∧ l ≤ 512 := by
  obtain ⟨D, d1, d2, d3⟩ := hm.per_all
  have hd := (h.dvd D).2 (fun k hk t r R => d3 k t r (by omega) R)
  have hs := Nat.le_of_dvd (by omega) hd
  refine ⟨Nat.pos_of_dvd_of_pos hd (by omega), by omega, ((h.max l).1 (Nat.le_refl _)).1, (h.max 512).2 ⟨by omega, fun k hk t r R => ?_⟩⟩
  have := R.le (hm.rm_lt (by omega)) hm.pos
  have := hm.most
  omega

/-- The least multiple of s that is no less than l. -/
def exV (s l : Nat) : Nat := (l + s - 1) / s * s

theorem exV_facts {s l : Nat} (hs : 1 ≤ s) (hl : 1 ≤ l) : l ≤ exV s l ∧ 1 ≤ exV s l ∧ exV s l ≤ l + s ∧ s ∣ exV s l := by
  unfold exV
  have h1 := Nat.mod_add_div (l + s - 1) s
  have h2 := Nat.mod_lt (l + s - 1) hs
  rw [Nat.mul_comm] at h1
  exact ⟨by omega, by omega, by omega, Nat.dvd_mul_left _ _⟩

set_option maxHeartbeats 4000000 in
set_option maxRecDepth 100000 in
theorem iExponent_any {w : World} {ob : Nat} {A : Aut} {M : List (List Nat)} {N : List Nat} (h : MO w ob A M N) :
    Calls Try.prog 19 #[.pointer (some ⟨ob, 0, none⟩)] w fun e w' => (∃ s l, ExI A.k.toNat N M.length s l ∧ e = .returned (.tuple #[.int .i64 (exV s l : Nat), .int .i64 0])) ∧ Below w.heap.size w w' := by
  have HM : Hid (MO w ob A M N) := h
  have HMon : Hid (Mon A M N) := h.mon
  have hms := h.mon.most
  clear h
  go_enter Try.func19, Try.ntmps19
  go_wp2_with fail
  refine (icheck_none HM.out).mono ?_
  rintro e w1 ⟨rfl, rfl⟩
  go_wp2_with fail
  refine (mlen_any HM.out).mono ?_
  rintro e w1 ⟨rfl, rfl⟩
  go_wp2_with fail
  go_loopw [5, 6, 17] (fun vs vl vi wr => ∃ i s l : Nat, i ≤ M.length ∧ vi = .int .i64 (i : Nat) ∧ vs = .int .i64 (s : Nat) ∧ vl = .int .i64 (l : Nat) ∧ ExI A.k.toNat N i s l ∧ Below w.heap.size w wr) (fun _ _ vi _ => M.length - (Go.Lib.intOf vi).toNat)
  case atStart => exact ⟨0, 1, 1, Nat.zero_le _, rfl, rfl, rfl, ExI.start _ _, Below.refl _ _⟩
  case round =>
    obtain ⟨i, s, l, hi, rfl, rfl, rfl, hx, hb⟩ := hrel
    have HX : Hid (ExI A.k.toNat N i s l) := hx
    have HB : Hid (Below w.heap.size w wr) := hb
    have hsm := hx.small HMon.out hi
    clear hx hb
    by_cases hlt : i < M.length
    · have hiI : (i : Int) < M.length := by omega
      have HLT : Hid (i < M.length) := hlt
      go_wp2_with fail
      refine (cycle_any (HM.out.below HB.out) i HLT.out).mono ?_
      rintro e w2 ⟨⟨t, r, rfl, hR⟩, hb⟩
      have HB2 : Hid (Below w.heap.size w w2) := go_on HB.out hb
      have hX2 := HX.out.next hR
      have hsm2 := hX2.small HMon.out (show i + 1 ≤ M.length from hlt)
      have hle := hR.le (HMon.out.rm_lt hlt) HMon.out.pos
      have HX2 : Hid (ExI A.k.toNat N (i + 1) (Nat.lcm s r) (Nat.max l t)) := hX2
      have HMU : Hid (Calls Try.prog 53 #[.int .i64 (s : Nat), .int .i64 (r : Nat)] w2 fun e w' => e = .returned (.int .i64 (Nat.lcm s r : Nat)) ∧ Below w2.heap.size w2 w') := imultiple_any s r w2 (by omega) (by omega) (by omega) (by omega)
      have hmx : max (l : Int) (t : Int) = ((Nat.max l t : Nat) : Int) := by show _ = ((max l t : Nat) : Int); omega
      obtain ⟨l2, hl2⟩ : ∃ l2, Nat.max l t = l2 := ⟨_, rfl⟩
      obtain ⟨s2, hs2⟩ : ∃ s2, Nat.lcm s r = s2 := ⟨_, rfl⟩
      rw [hl2] at HX2 hmx
      rw [hs2] at HX2 HMU
      clear hb hR hX2 hsm2 hle hlt hl2 hs2 hsm
      go_wp2_with fail
      refine HMU.out.mono ?_
      rintro e w3 ⟨rfl, hb⟩
      have HB3 : Hid (Below w.heap.size w w3) := go_on HB2.out hb
      clear hb
      go_wp2_with fail
      go_roundw
      case rel => exact ⟨i + 1, s2, l2, HLT.out, by go_num, rfl, rfl, HX2.out, HB3.out⟩
      case measure => have := HLT.out; simp [Go.Lib.intOf]; omega
    · have hiI : ¬ (i : Int) < M.length := by omega
      have e : i = M.length := by omega
      have HX' : Hid (ExI A.k.toNat N M.length s l) := by show ExI _ _ _ _ _; rw [← e]; exact HX.out
      have hf := exV_facts hsm.1 hsm.2.2.1
      have hw1 : IntKind.i64.wrap ((l : Int) + (s : Int)) = ((l + s : Nat) : Int) := by rw [IntKind.wrap_i64]; omega
      have hw2 : IntKind.i64.wrap (((l + s : Nat) : Int) - 1) = ((l + s - 1 : Nat) : Int) := by rw [IntKind.wrap_i64]; omega
      obtain ⟨a, ha⟩ : ∃ a, l + s - 1 = a := ⟨_, rfl⟩
      obtain ⟨b, hb2⟩ : ∃ b, l + s = b := ⟨_, rfl⟩
      obtain ⟨c, hc⟩ : ∃ c, a / s = c := ⟨_, rfl⟩
      obtain ⟨d, hd⟩ : ∃ d, exV s l = d := ⟨_, rfl⟩
      have HD : Hid (exV s l = d) := hd
      have hcs : c * s = d := by rw [← hd, ← hc, ← ha]; rfl
      have hca : c ≤ a := by rw [← hc]; exact Nat.div_le_self _ _
      rw [hd] at hf
      have hq : (a : Int).tdiv s = (c : Int) := by rw [Int.tdiv_eq_ediv_of_nonneg (by omega), ← hc]; rfl
      have hs0 : ¬ (s : Int) = 0 := by omega
      have hs1 : ((s : Int) == 0) = false := by rw [beq_eq_false_iff_ne]; omega
      have hwc : IntKind.i64.wrap (c : Int) = (c : Int) := by rw [IntKind.wrap_i64]; omega
      have hmu : (c : Int) * (s : Int) = (d : Int) := by rw [← hcs]; push_cast; rfl
      have hwd : IntKind.i64.wrap (d : Int) = (d : Int) := by rw [IntKind.wrap_i64]; omega
      rw [ha] at hw2
      rw [hb2] at hw1 hw2
      clear e hf ha hb2 hc hd hcs hca hsm
      go_wp2_with fail
      go_ret2
      exact ⟨⟨s, l, HX'.out, by rw [HD.out]; rfl⟩, HB.out⟩
end Go.Proofs.Ytafcejipoioigaa

namespace Go.Proofs.Ytafcejipoioigaa
open Go Go.RowKit Go.Lib Go.Maps
set_option linter.unusedVariables false
attribute [-instance] List.instBEq instBEqProd

/-- The first m powers of i. -/
def pwL (K : Nat) (N : List Nat) (i m : Nat) : List Nat := (List.range m).map (pwN K N i)

theorem pwL_len (K : Nat) (N : List Nat) (i m : Nat) : (pwL K N i m).length = m := by simp [pwL]

theorem pwL_succ (K : Nat) (N : List Nat) (i m : Nat) : pwL K N i (m + 1) = pwL K N i m ++ [pwN K N i m] := by simp [pwL, List.range_succ]

theorem pwL_at {K : Nat} {N : List Nat} {i m a : Nat} (h : a < m) : (nC (pwL K N i m))[a]? = some (.int .i64 ((pwN K N i a : Nat) : Int)) := by
  unfold nC pwL
  simp [h]

/-- How many a slice has. -/
def lenV : Value → Nat
  | .slice _ n _ => n
  | _ => 0

set_option maxHeartbeats 4000000 in
set_option maxRecDepth 100000 in
theorem rcycle_any {w : World} {rb : Nat} {A : Aut} {M : List (List Nat)} {N : List Nat} (h : RF w rb A M N) (i : Nat) (hi : i < M.length) :
    Calls Try.prog 18 #[.pointer (some ⟨rb, 0, none⟩), .int .i64 (i : Nat)] w fun e w' => (∃ t r : Nat, e = .returned (.tuple #[.int .i64 (t : Nat), .int .i64 (r : Nat), .int .i64 0]) ∧ TR (rm A.k.toNat N i) 0 t r) ∧ Below w.heap.size w w' := by
  have C0 : Hid (Calls Try.prog 45 #[.pointer (some ⟨rb, 0, none⟩), .int .i64 (i : Nat)] w fun e w' => e = .returned (.bool true) ∧ w = w') := by have := rhas_any h i; rw [hasE_yes hi] at this; exact this
  have HM : Hid (∀ y, Below w.heap.size w y → RF y rb A M N) := fun y hy => h.below hy
  have HMon : Hid (Mon A M N) := h.mon
  have HI : Hid (i < M.length) := hi
  obtain ⟨T, R, hTR⟩ := tr_ex (h.mon.rm_lt hi) h.mon.pos
  have hTR5 : T + R ≤ 512 := by have := hTR.le (h.mon.rm_lt hi) h.mon.pos; have := h.mon.most; omega
  have HTR : Hid (TR (rm A.k.toNat N i) 0 T R) := hTR
  have HPZ : Hid (pwL A.k.toNat N i 1 = [0]) := rfl
  obtain ⟨i0, hi0, hz0, hz1, hz2⟩ := info_parts Try.info_int
  have HST : Hid ((w.alloc (.cells #[.int .i64 0] 3)).ownsRow w.heap.size 3 1 (.slice (some ⟨w.heap.size, 0, none⟩) 1 1) 1 (nC (pwL A.k.toNat N i 1))) := cells_own (heap_last w _) (Nat.le_refl _) rfl
  have HBN : Hid (Below w.heap.size w (w.alloc (.cells #[.int .i64 0] 3))) := below_new _ _
  clear h hi hTR
  go_enter Try.func18, Try.ntmps18
  go_wp2_with fail
  refine C0.out.mono ?_
  rintro e w1 ⟨rfl, rfl⟩
  go_wp2_with fail
  go_loopw [7, 8, 9] (fun vl _ _ wr => ∃ (m : Nat) (la : Option Addr) (lc : Nat), 1 ≤ m ∧ vl = .slice la m lc ∧ wr.ownsRow w.heap.size 3 1 (.slice la m lc) m (nC (pwL A.k.toNat N i m)) ∧ (∀ a b, a < b → b < m → pwN A.k.toNat N i a ≠ pwN A.k.toNat N i b) ∧ Below w.heap.size w wr) (fun vl _ _ _ => T + R + 1 - lenV vl)
  case atStart => exact ⟨1, _, _, Nat.le_refl _, rfl, HST.out, fun a b h1 h2 => by omega, HBN.out⟩
  case round =>
    clear HST HBN
    obtain ⟨m, la, lc, hm1, rfl, ho, hap, hb⟩ := hrel
    obtain ⟨w2, hw2⟩ : ∃ z, z = wr := ⟨_, rfl⟩
    subst hw2
    have HB : Hid (Below w.heap.size w w2) := hb
    have HO : Hid (w2.ownsRow w.heap.size 3 1 (.slice la m lc) m (nC (pwL A.k.toNat N i m))) := ho
    have HAP : Hid (∀ a b, a < b → b < m → pwN A.k.toNat N i a ≠ pwN A.k.toNat N i b) := hap
    have hmTR : m ≤ T + R := by
      rcases Nat.lt_or_ge (T + R) m with q | q
      · exact absurd (show pwN A.k.toNat N i T = pwN A.k.toNat N i (T + R) from HTR.out.back.symm) (hap T (T + R) (by have := HTR.out.pos; omega) q)
      · exact q
    obtain ⟨g, o, e, hg, hc⟩ := own_sr ho (m - 1) _ (pwL_at (show m - 1 < m by omega))
    subst e
    obtain ⟨z, hz⟩ : ∃ z, pwN A.k.toNat N i (m - 1) = z := ⟨_, rfl⟩
    have hzl : z < M.length := by rw [← hz]; exact HMon.out.pw_lt HI.out _
    rw [hz] at hc
    have HX : Hid (pr A.k.toNat N z i = pwN A.k.toNat N i m) := by
      show _ = _
      rw [← hz, ← pwN_succ, show m - 1 + 1 = m by omega]
    have hmI : IntKind.i64.wrap ((m : Int) - 1) = ((m - 1 : Nat) : Int) := by rw [IntKind.wrap_i64]; omega
    have hmlt : ((m - 1 : Nat) : Int) < (m : Int) := by omega
    have HTM : Hid (Calls Try.prog 52 #[.pointer (some ⟨rb, 0, none⟩), .int .i64 (z : Nat), .int .i64 (i : Nat)] w2 fun e w' => e = .returned (.int .i64 (pr A.k.toNat N z i : Nat)) ∧ Below w2.heap.size w2 w') := rtimes_any (HM.out _ hb) z i hzl HI.out
    have HM1 : Hid (1 ≤ m) := hm1
    obtain ⟨q, hq⟩ : ∃ q, m - 1 = q := ⟨_, rfl⟩
    rw [hq] at hc hmI hmlt
    clear ho hap hb hz hzl hm1 hq
    go_wp2_with fail
    refine HTM.out.mono ?_
    rintro e w3 ⟨rfl, hb⟩
    rw [HX.out]
    obtain ⟨x, hx⟩ : ∃ x, pwN A.k.toNat N i m = x := ⟨_, rfl⟩
    have HXX : Hid (pwN A.k.toNat N i m = x) := hx
    have HB3 : Hid (Below w.heap.size w w3) := go_on HB.out hb
    have HO3 : Hid (w3.ownsRow w.heap.size 3 1 (.slice (some ⟨g, o, none⟩) m lc) m (nC (pwL A.k.toNat N i m))) := own_below HO.out hb
    rw [hx]
    clear hb hx hc hmI hmlt HTM HX HO HB hg
    go_wp2_with fail
    go_loopw [9] (fun vk wr => ∃ k : Nat, vk = .int .i64 k ∧ k ≤ m ∧ (∀ a, a < k → pwN A.k.toNat N i a ≠ x) ∧ wr = w3) (fun vk _ => m - (Go.RowKit.intOf vk).toNat)
    case atStart => exact ⟨0, rfl, Nat.zero_le _, fun a ha => by omega, rfl⟩
    case round =>
      obtain ⟨k, rfl, hkm, hall, rfl⟩ := hrel
      have HA : Hid (∀ a, a < k → pwN A.k.toNat N i a ≠ x) := hall
      clear hall
      by_cases hlt : k < m
      · have hkI : (k : Int) < m := by omega
        have hkd : decide ((k : Int) < m) = true := decide_eq_true hkI
        obtain ⟨g', o', e, hg', hc⟩ := own_sr HO3.out k _ (pwL_at hlt)
        simp only [Option.some.injEq, Addr.mk.injEq, and_true] at e
        obtain ⟨rfl, rfl⟩ := e
        obtain ⟨y, hy⟩ : ∃ y, pwN A.k.toNat N i k = y := ⟨_, rfl⟩
        have HY : Hid (pwN A.k.toNat N i k = y) := hy
        rw [hy] at hc
        by_cases hyx : y = x
        · have hbe : ((y : Int) == (x : Int)) = true := by rw [beq_iff_eq, hyx]
          have HT : Hid (TR (rm A.k.toNat N i) 0 k (m - k)) := ⟨fun a b h1 h2 => HAP.out a b h1 (by omega), by
            show pwN A.k.toNat N i (k + (m - k)) = pwN A.k.toNat N i k
            rw [show k + (m - k) = m by omega, HXX.out, HY.out, hyx], by omega⟩
          have hsb : IntKind.i64.wrap ((m : Int) - (k : Int)) = ((m - k : Nat) : Int) := by rw [IntKind.wrap_i64]; omega
          obtain ⟨d, hd⟩ : ∃ d, m - k = d := ⟨_, rfl⟩
          rw [hd] at HT hsb
          clear hy hyx hd hg'
          go_wp2_with fail
          go_ret3
          exact ⟨⟨k, d, rfl, HT.out⟩, HB3.out⟩
        · have hbe : ((y : Int) == (x : Int)) = false := by rw [beq_eq_false_iff_ne]; omega
          have HN : Hid (∀ a, a < k + 1 → pwN A.k.toNat N i a ≠ x) := fun a ha => by
            by_cases e : a = k
            · subst e; rw [HY.out]; exact hyx
            · exact HA.out a (by omega)
          clear hy hyx hg'
          go_wp2_with fail
          go_roundw
          case rel => exact ⟨k + 1, by go_num, by omega, HN.out, by trivial⟩
          case measure => simp [Go.RowKit.intOf]; omega
      · have hkI : ¬ (k : Int) < m := by omega
        have hkd : decide ((k : Int) < m) = false := decide_eq_false hkI
        have hke : k = m := by omega
        have HNW : Hid (∀ a b, a < b → b < m + 1 → pwN A.k.toNat N i a ≠ pwN A.k.toNat N i b) := fun a b h1 h2 => by
          by_cases e : b = m
          · subst e; rw [HXX.out]; exact HA.out a (by omega)
          · exact HAP.out a b h1 (by omega)
        have HLL : Hid (nC (pwL A.k.toNat N i (m + 1)) = nC (pwL A.k.toNat N i m) ++ [.int .i64 (x : Int)]) := by
          show _ = _
          rw [pwL_succ, nC_append, HXX.out]
          rfl
        have hs3 := HB3.out.size
        clear hke
        go_wp2_with (first
          | (at_builtin; refine wpList_append_own_at _ rfl _ _ 23 rfl w.heap.size 3 i0 (.int .i64 0) 1 8 Try.underlying23 hi0 hz0 hz1 hz2 rfl (by decide) _ _ _ rfl (World.ownsRow.alloc HO3.out _) ⟨wr.heap.size, 0, none⟩ 1 1 [.int .i64 (x : Int)] rfl rfl (cell_one_new _ _ _) (by intro u hu; simp at hu; subst hu; rfl) (by unfold maxLen; omega) (by omega) (by simp; omega) ?_; intro v' w5 hown' hgrow _ hloc))
        have HB5 : Hid (Below w.heap.size w w5) := (go_on HB3.out (below_new _ _)).grown hgrow (by simp; omega) (fun k hk => (own_blk HO3.out hk).1)
        obtain ⟨oa4, oc4, hsh⟩ := own_shape hown'
        have HSH : Hid (v' = .slice oa4 (m + 1) oc4) := hsh
        have HO5 : Hid (w5.ownsRow w.heap.size 3 1 (.slice oa4 (m + 1) oc4) (m + 1) (nC (pwL A.k.toNat N i (m + 1)))) := by
          show World.ownsRow _ _ _ _ _ _ _
          rw [HLL.out, ← hsh]
          exact hown'
        clear hown' hgrow hloc hsh
        go_roundw
        case rel => exact ⟨m + 1, oa4, oc4, by omega, HSH.out, HO5.out, HNW.out, HB5.out⟩
        case measure => rw [HSH.out]; simp only [lenV]; omega

set_option maxHeartbeats 1000000 in
set_option maxRecDepth 100000 in
theorem rcycle_not {w : World} {rb : Nat} {A : Aut} {M : List (List Nat)} {N : List Nat} (h : RF w rb A M N) (i : Int) (hi : ¬ hasE M.length i = true) :
    Calls Try.prog 18 #[.pointer (some ⟨rb, 0, none⟩), .int .i64 i] w fun e w' => e = .returned (.tuple #[.int .i64 0, .int .i64 0, .int .i64 11]) ∧ Below w.heap.size w w' := by
  have C0 : Hid (Calls Try.prog 45 #[.pointer (some ⟨rb, 0, none⟩), .int .i64 i] w fun e w' => e = .returned (.bool false) ∧ w = w') := by have := rhas_any h i; rw [Bool.eq_false_iff.2 hi] at this; exact this
  clear h hi
  go_enter Try.func18, Try.ntmps18
  go_wp2_with fail
  refine C0.out.mono ?_
  rintro e w1 ⟨rfl, rfl⟩
  go_wp2_with fail
  go_ret3
  exact ⟨rfl, Below.refl _ _⟩

set_option maxHeartbeats 4000000 in
set_option maxRecDepth 100000 in
theorem rexponent_any {w : World} {rb : Nat} {A : Aut} {M : List (List Nat)} {N : List Nat} (h : RF w rb A M N) :
    Calls Try.prog 22 #[.pointer (some ⟨rb, 0, none⟩)] w fun e w' => (∃ s l, ExI A.k.toNat N M.length s l ∧ e = .returned (.int .i64 (exV s l : Nat))) ∧ Below w.heap.size w w' := by
  have HM : Hid (∀ y, Below w.heap.size w y → RF y rb A M N) := fun y hy => h.below hy
  have HMon : Hid (Mon A M N) := h.mon
  have hms := h.mon.most
  clear h
  go_enter Try.func22, Try.ntmps22
  go_wp2_with fail
  go_loopw [3, 4, 5, 6, 7, 8, 9] (fun vs vl vi _ _ _ _ wr => ∃ i s l : Nat, i ≤ M.length ∧ vi = .int .i64 (i : Nat) ∧ vs = .int .i64 (s : Nat) ∧ vl = .int .i64 (l : Nat) ∧ ExI A.k.toNat N i s l ∧ Below w.heap.size w wr) (fun _ _ vi _ _ _ _ _ => M.length - (Go.RowKit.intOf vi).toNat)
  case atStart => exact ⟨0, 1, 1, Nat.zero_le _, rfl, rfl, rfl, ExI.start _ _, Below.refl _ _⟩
  case round =>
    obtain ⟨i, s, l, hi, rfl, rfl, rfl, hx, hb⟩ := hrel
    have HX : Hid (ExI A.k.toNat N i s l) := hx
    have HB : Hid (Below w.heap.size w wr) := hb
    have hsm := hx.small HMon.out hi
    clear hx hb
    by_cases hlt : i < M.length
    · have hiI : (i : Int) < M.length := by omega
      have HLT : Hid (i < M.length) := hlt
      go_wp2_with fail
      refine (rlen_any (HM.out _ HB.out)).mono ?_
      rintro e w1 ⟨rfl, rfl⟩
      go_wp2_with fail
      refine (rcycle_any (HM.out _ HB.out) i HLT.out).mono ?_
      rintro e w2 ⟨⟨t, r, rfl, hR⟩, hb⟩
      have HB2 : Hid (Below w.heap.size w w2) := go_on HB.out hb
      have hX2 := HX.out.next hR
      have hsm2 := hX2.small HMon.out (show i + 1 ≤ M.length from hlt)
      have hle := hR.le (HMon.out.rm_lt hlt) HMon.out.pos
      have hr1 := hR.pos
      have HX2 : Hid (ExI A.k.toNat N (i + 1) (Nat.lcm s r) (Nat.max l t)) := hX2
      obtain ⟨s2, hs2⟩ : ∃ s2, Nat.lcm s r = s2 := ⟨_, rfl⟩
      have HS2 : Hid (Nat.lcm s r = s2) := hs2
      have hd1 : s ∣ s2 := by rw [← hs2]; exact Nat.dvd_lcm_left s r
      have hd2 : r ∣ s2 := by rw [← hs2]; exact Nat.dvd_lcm_right s r
      rw [hs2] at HX2 hsm2
      have HD : Hid (s ∣ s2 ∧ r ∣ s2) := ⟨hd1, hd2⟩
      have hs2s : s ≤ s2 := Nat.le_of_dvd (by omega) hd1
      clear hb hR hX2 hs2 hd1 hd2
      go_wp2_with fail
      go_loopw [9] (fun vn wr => ∃ n : Nat, vn = .int .i64 n ∧ 1 ≤ n ∧ n ≤ s2 ∧ s ∣ n ∧ wr = w2) (fun vn _ => s2 - (Go.RowKit.intOf vn).toNat)
      case atStart => exact ⟨s, rfl, hsm.1, hs2s, Nat.dvd_refl _, rfl⟩
      case round =>
        obtain ⟨n, rfl, hn1, hn2, hn3, rfl⟩ := hrel
        have HN3 : Hid (s ∣ n) := hn3
        have hr0 : ¬ (r : Int) = 0 := by omega
        have hr0b : ((r : Int) == 0) = false := by rw [beq_eq_false_iff_ne]; omega
        have hr0c : (0 : Int) < r := by omega
        have htm : (n : Int).tmod r = ((n % r : Nat) : Int) := by rw [Int.tmod_eq_emod_of_nonneg (by omega)]; omega
        obtain ⟨z, hz⟩ : ∃ z, n % r = z := ⟨_, rfl⟩
        have HZ : Hid (n % r = z) := hz
        have hzl : z < r := by rw [← hz]; exact Nat.mod_lt _ (by omega)
        have hwz : IntKind.i64.wrap (z : Int) = (z : Int) := by rw [IntKind.wrap_i64]; omega
        rw [hz] at htm
        clear hz hn3
        by_cases hz0 : z = 0
        · have HE : Hid (n = s2) := by
            have h1 : r ∣ n := Nat.dvd_of_mod_eq_zero (by rw [HZ.out, hz0])
            have h2 : s2 ∣ n := by rw [← HS2.out]; exact Nat.lcm_dvd HN3.out h1
            exact Nat.le_antisymm hn2 (Nat.le_of_dvd (by omega) h2)
          have hz1 : ((z : Int) == 0) = true := by rw [beq_iff_eq]; omega
          have hz2 : ((z : Int) != 0) = false := by rw [bne_eq_false_iff_eq]; omega
          have hz3 : (z : Int) = 0 := by omega
          by_cases hlt2 : l < t
          · have hl1 : (l : Int) < (t : Int) := by omega
            have hl2 : decide ((l : Int) < (t : Int)) = true := decide_eq_true hl1
            have HMX : Hid (Nat.max l t = t) := Nat.max_eq_right (by omega)
            clear hz0 hlt2
            go_wp2_with fail
            go_roundw
            case rel => exact ⟨i + 1, s2, t, HLT.out, by go_num, by rw [HE.out], rfl, by have := HX2.out; rw [HMX.out] at this; exact this, HB2.out⟩
            case measure => have := HLT.out; simp [Go.RowKit.intOf]; omega
          · have hl1 : ¬ (l : Int) < (t : Int) := by omega
            have hl2 : decide ((l : Int) < (t : Int)) = false := decide_eq_false hl1
            have HMX : Hid (Nat.max l t = l) := Nat.max_eq_left (by omega)
            clear hz0 hlt2
            go_wp2_with fail
            go_roundw
            case rel => exact ⟨i + 1, s2, l, HLT.out, by go_num, by rw [HE.out], rfl, by have := HX2.out; rw [HMX.out] at this; exact this, HB2.out⟩
            case measure => have := HLT.out; simp [Go.RowKit.intOf]; omega
        · have hz1 : ((z : Int) == 0) = false := by rw [beq_eq_false_iff_ne]; omega
          have hz2 : ((z : Int) != 0) = true := by rw [bne_iff_ne]; omega
          have hz3 : ¬ (z : Int) = 0 := by omega
          have hne : n ≠ s2 := fun e => by
            have h1 := Nat.mod_eq_zero_of_dvd HD.out.2
            rw [← e, HZ.out] at h1
            exact hz0 h1
          have hns : n + s ≤ s2 := by
            obtain ⟨a, ha⟩ := HN3.out
            obtain ⟨b, hb⟩ := HD.out.1
            have hab : a < b := by
              rcases Nat.lt_or_ge a b with q | q
              · exact q
              · have := Nat.mul_le_mul_left s q
                omega
            have := Nat.mul_le_mul_left s hab
            rw [Nat.mul_succ] at this
            omega
          have HNX : Hid (s ∣ n + s ∧ n + s ≤ s2 ∧ 1 ≤ s) := ⟨Nat.dvd_add HN3.out (Nat.dvd_refl _), hns, hsm.1⟩
          have hwn : IntKind.i64.wrap ((n : Int) + (s : Int)) = ((n + s : Nat) : Int) := by rw [IntKind.wrap_i64]; omega
          obtain ⟨q, hq⟩ : ∃ q, n + s = q := ⟨_, rfl⟩
          have HQ : Hid (n + s = q) := hq
          rw [hq] at hwn
          clear hz0 hne hns hq
          go_wp2_with fail
          go_roundw
          case rel => exact ⟨q, rfl, by have := HQ.out; omega, by have := HQ.out; have := HNX.out; omega, by have := HNX.out.1; rw [HQ.out] at this; exact this, by trivial⟩
          case measure => have := HQ.out; have := HNX.out; simp [Go.RowKit.intOf]; omega
    · have hiI : ¬ (i : Int) < M.length := by omega
      have e : i = M.length := by omega
      have HX' : Hid (ExI A.k.toNat N M.length s l) := by show ExI _ _ _ _ _; rw [← e]; exact HX.out
      have hf := exV_facts hsm.1 hsm.2.2.1
      have hw1 : IntKind.i64.wrap ((l : Int) + (s : Int)) = ((l + s : Nat) : Int) := by rw [IntKind.wrap_i64]; omega
      have hw2 : IntKind.i64.wrap (((l + s : Nat) : Int) - 1) = ((l + s - 1 : Nat) : Int) := by rw [IntKind.wrap_i64]; omega
      obtain ⟨a, ha⟩ : ∃ a, l + s - 1 = a := ⟨_, rfl⟩
      obtain ⟨b, hb2⟩ : ∃ b, l + s = b := ⟨_, rfl⟩
      obtain ⟨c, hc⟩ : ∃ c, a / s = c := ⟨_, rfl⟩
      obtain ⟨d, hd⟩ : ∃ d, exV s l = d := ⟨_, rfl⟩
      have HD : Hid (exV s l = d) := hd
      have hcs : c * s = d := by rw [← hd, ← hc, ← ha]; rfl
      have hca : c ≤ a := by rw [← hc]; exact Nat.div_le_self _ _
      rw [hd] at hf
      have hq : (a : Int).tdiv s = (c : Int) := by rw [Int.tdiv_eq_ediv_of_nonneg (by omega), ← hc]; rfl
      have hs0 : ¬ (s : Int) = 0 := by omega
      have hs1 : ((s : Int) == 0) = false := by rw [beq_eq_false_iff_ne]; omega
      have hwc : IntKind.i64.wrap (c : Int) = (c : Int) := by rw [IntKind.wrap_i64]; omega
      have hmu : (c : Int) * (s : Int) = (d : Int) := by rw [← hcs]; push_cast; rfl
      have hwd : IntKind.i64.wrap (d : Int) = (d : Int) := by rw [IntKind.wrap_i64]; omega
      rw [ha] at hw2
      rw [hb2] at hw1 hw2
      clear e hf ha hb2 hc hd hcs hca hsm
      go_wp2_with fail
      refine (rlen_any (HM.out _ HB.out)).mono ?_
      rintro e w1 ⟨rfl, rfl⟩
      go_wp2_with fail
      go_ret
      exact ⟨⟨s, l, HX'.out, by rw [HD.out]; rfl⟩, HB.out⟩

end Go.Proofs.Ytafcejipoioigaa

namespace Go.Proofs.Ytafcejipoioigaa
open Go Go.RowKit Go.Lib Go.Maps
set_option linter.unusedVariables false

/-- No monoid, or one whose mark is nil. -/
def NoM (w : World) (x : Value) : Prop := x = .pointer none ∨ ∃ b, x = .pointer (some ⟨b, 0, none⟩) ∧ b < w.heap.size ∧ w.cell? ⟨b, 0, none⟩ = some (.pointer none)

theorem NoM.below {w w' : World} {x : Value} (h : NoM w x) (hb : Below w.heap.size w w') : NoM w' x := by
  rcases h with h | ⟨b, h1, h2, h3⟩
  · exact .inl h
  · exact .inr ⟨b, h1, Nat.lt_of_lt_of_le h2 hb.size, by rw [below_cellJ hb h2]; exact h3⟩

theorem eq_nilM (a : Addr) (w : World) : (binOp .eql 22 (.pointer none) (.pointer (some a))).run Try.prog w = .ok (.bool false) w := by
  simp only [binOp]
  simp only [Op.equal, Op.maxDepth]
  rw [show (10000 : Nat) = 9999 + 1 from rfl, Op.equalIn]
  simp [Sem.run_bind, run_underlying Try.underlying22]

set_option maxHeartbeats 1000000 in
set_option maxRecDepth 100000 in
theorem mmade_no (x : Value) (w : World) (h : NoM w x) : Calls Try.prog 64 #[x] w fun e w' => e = .returned (.bool false) ∧ w = w' := by
  rcases h with rfl | ⟨b, rfl, hb, hc⟩
  · go_enter Try.func64, Try.ntmps64
    go_wp2_with fail
    go_ret
    exact ⟨rfl, rfl⟩
  · have heq := eq_nilM ⟨b, 0, none⟩ w
    go_enter Try.func64, Try.ntmps64
    go_wp2_with fail
    go_ret
    exact ⟨rfl, rfl⟩

set_option maxHeartbeats 1000000 in
set_option maxRecDepth 100000 in
theorem mlen_no (x : Value) (w : World) (h : NoM w x) : Calls Try.prog 34 #[x] w fun e w' => e = .returned (.int .i64 0) ∧ w = w' := by
  have HX : Hid (NoM w x) := h
  clear h
  go_enter Try.func34, Try.ntmps34
  go_wp2_with (go_at_call 64; refine (mmade_no _ _ HX.out).mono ?_; rintro e w1 ⟨rfl, rfl⟩)
  go_ret
  exact ⟨rfl, rfl⟩

set_option maxHeartbeats 1000000 in
set_option maxRecDepth 100000 in
theorem mcheck_no (x : Value) (i : Int) (w : World) (h : NoM w x) : Calls Try.prog 66 #[x, .int .i64 i] w fun e w' => e = .returned (.int .i64 1) ∧ w = w' := by
  have HX : Hid (NoM w x) := h
  clear h
  go_enter Try.func66, Try.ntmps66
  go_wp2_with (go_at_call 64; refine (mmade_no _ _ HX.out).mono ?_; rintro e w1 ⟨rfl, rfl⟩)
  go_ret
  exact ⟨rfl, rfl⟩

set_option maxHeartbeats 1000000 in
set_option maxRecDepth 100000 in
theorem mProduct_no (x : Value) (i j : Int) (w : World) (h : NoM w x) : Calls Try.prog 65 #[x, .int .i64 i, .int .i64 j] w fun e w' => e = .returned (.tuple #[.int .i64 0, .int .i64 1]) ∧ w = w' := by
  have HX : Hid (NoM w x) := h
  clear h
  go_enter Try.func65, Try.ntmps65
  go_wp2_with (go_at_call 66; refine (mcheck_no _ _ _ HX.out).mono ?_; rintro e w1 ⟨rfl, rfl⟩)
  go_ret2
  exact ⟨rfl, rfl⟩

set_option maxHeartbeats 1000000 in
set_option maxRecDepth 100000 in
theorem mPower_no (x : Value) (i k : Int) (w : World) (h : NoM w x) : Calls Try.prog 37 #[x, .int .i64 i, .int .u64 k] w fun e w' => e = .returned (.tuple #[.int .i64 0, .int .i64 1]) ∧ w = w' := by
  have HX : Hid (NoM w x) := h
  clear h
  go_enter Try.func37, Try.ntmps37
  go_wp2_with (go_at_call 66; refine (mcheck_no _ _ _ HX.out).mono ?_; rintro e w1 ⟨rfl, rfl⟩)
  go_ret2
  exact ⟨rfl, rfl⟩

end Go.Proofs.Ytafcejipoioigaa

namespace Go.Proofs.Ytafcejipoioigaa
open Go Go.RowKit Go.Lib Go.Maps
set_option linter.unusedVariables false
attribute [-instance] List.instBEq instBEqProd

theorem num16_any (n : Int) (w : World) : Calls Try.prog 21 #[.int .i64 n] w fun e w' => e = .returned (.int .i64 n) ∧ w = w' := by
  go_enter Try.func21, Try.ntmps21
  go_wp2
  go_ret
  exact ⟨rfl, rfl⟩

theorem drew_twiceE (w : World) (q n : Nat) : (w.drewN q).drewN n = w.drewN (q + n) := by simp [World.drewN, Nat.add_assoc]

theorem drewN_belowE (w : World) (q : Nat) : Below w.heap.size w (w.drewN q) := ⟨rfl, rfl, rfl, Nat.le_refl _, fun _ _ => rfl⟩

set_option maxHeartbeats 1000000 in
set_option maxRecDepth 100000 in
theorem isame_any (a1 a2 : Option Addr) (c1 c2 : Nat) (xs : List Int) (w : World) (g1 : SR w a1 (zC xs)) (g2 : SR w a2 (zC xs)) (hm1 : xs.length ≤ 9223372036854775806) :
    Calls Try.prog 23 #[.slice a1 xs.length c1, .slice a2 xs.length c2] w fun e w' => e = .returned (.bool true) ∧ Below w.heap.size w w' := by
  have H1 : Hid (SR w a1 (zC xs)) := g1
  have H2 : Hid (SR w a2 (zC xs)) := g2
  clear g1 g2
  go_enter Try.func23, Try.ntmps23
  go_wp2_with fail
  go_loopw [5] (fun vi wr => ∃ i q : Nat, vi = .int .i64 i ∧ i ≤ xs.length ∧ wr = w.drewN q) (fun vi _ => xs.length - (Go.Lib.intOf vi).toNat)
  case atStart => exact ⟨0, 0, rfl, Nat.zero_le _, rfl⟩
  case round =>
    obtain ⟨i, q, rfl, hi, rfl⟩ := hrel
    by_cases hlt : i < xs.length
    · obtain ⟨ga, oa, rfl, _, ca⟩ := H1.out.int hlt
      obtain ⟨gb, ob, rfl, _, cb⟩ := H2.out.int hlt
      obtain ⟨x, hx⟩ : ∃ x, xs.getD i 0 = x := ⟨_, rfl⟩
      rw [hx] at ca cb
      clear hx
      go_wp2_with fail
      go_quiet (fail)
      go_wp2
      go_roundw
      case rel => exact ⟨i + 1, _, by go_num, by omega, rfl⟩
      case measure => simp [Go.Lib.intOf]; omega
    · have hiI : ¬ (i : Int) < xs.length := by omega
      go_wp2_with fail
      go_ret
      exact ⟨rfl, drewN_belowE w q⟩

set_option maxHeartbeats 1000000 in
set_option maxRecDepth 100000 in
theorem icheck_no (p : Option Addr) (a : Option Addr) (n c : Nat) (w : World) (h : NoM w (.pointer p)) : Calls Try.prog 43 #[.pointer p, .slice a n c] w fun e w' => e = .returned (.int .i64 1) ∧ w = w' := by
  have HX : Hid (NoM w (.pointer p)) := h
  clear h
  go_enter Try.func43, Try.ntmps43
  go_wp2_with fail
  refine (mlen_no _ _ HX.out).mono ?_
  rintro e w1 ⟨rfl, rfl⟩
  go_wp2_with fail
  go_ret
  exact ⟨rfl, rfl⟩

set_option maxHeartbeats 1000000 in
set_option maxRecDepth 100000 in
theorem icheckI_no (p : Option Addr) (a : Option Addr) (n c : Nat) (w : World) (h : NoM w (.pointer p)) : Calls Try.prog 57 #[.pointer p, .slice a n c] w fun e w' => e = .returned (.int .i64 1) ∧ w = w' := by
  have HX : Hid (NoM w (.pointer p)) := h
  clear h
  go_enter Try.func57, Try.ntmps57
  go_wp2_with fail
  refine (icheck_no _ _ _ _ _ HX.out).mono ?_
  rintro e w1 ⟨rfl, rfl⟩
  go_wp2_with fail
  go_ret
  exact ⟨rfl, rfl⟩

set_option maxHeartbeats 1000000 in
set_option maxRecDepth 100000 in
theorem iIdempotent_no (p : Option Addr) (w : World) (h : NoM w (.pointer p)) : Calls Try.prog 12 #[.pointer p, .int .i64 0] w fun e w' => e = .returned (.tuple #[.bool false, .int .i64 1]) ∧ Below w.heap.size w w' := by
  have HB : Hid (Below w.heap.size w (w.alloc (.cells #[.int .i64 0] 3))) := (go_on (Below.refl _ _) (below_new _ _))
  have HX : Hid (NoM (w.alloc (.cells #[.int .i64 0] 3)) (.pointer p)) := h.below HB.out
  clear h
  go_enter Try.func12, Try.ntmps12
  go_wp2_with fail
  refine (icheck_no _ _ _ _ _ HX.out).mono ?_
  rintro e w1 ⟨rfl, rfl⟩
  go_wp2_with fail
  go_ret2
  exact ⟨rfl, HB.out⟩

set_option maxHeartbeats 1000000 in
set_option maxRecDepth 100000 in
theorem iList_no (p : Option Addr) (w : World) (h : NoM w (.pointer p)) : Calls Try.prog 14 #[.pointer p] w fun e w' => e = .returned (.tuple #[.slice none 0 0, .int .i64 1]) ∧ Below w.heap.size w w' := by
  have HB : Hid (Below w.heap.size w (w.alloc (.cells #[.pointer p] 22))) := (go_on (Below.refl _ _) (below_new _ _))
  have HX : Hid (NoM (w.alloc (.cells #[.pointer p] 22)) (.pointer p)) := h.below HB.out
  clear h
  go_enter Try.func14, Try.ntmps14
  go_wp2_with fail
  refine (icheck_no _ _ _ _ _ HX.out).mono ?_
  rintro e w1 ⟨rfl, rfl⟩
  go_wp2_with fail
  go_ret2
  exact ⟨rfl, HB.out⟩

set_option maxHeartbeats 1000000 in
set_option maxRecDepth 100000 in
theorem iOmega_no (p : Option Addr) (w : World) (h : NoM w (.pointer p)) : Calls Try.prog 15 #[.pointer p, .int .i64 0] w fun e w' => e = .returned (.tuple #[.int .i64 0, .int .i64 1]) ∧ Below w.heap.size w w' := by
  have HB : Hid (Below w.heap.size w ((w.alloc (.cells #[.pointer p] 22)).alloc (.cells #[.int .i64 0] 3))) := (go_on ((go_on (Below.refl _ _) (below_new _ _))) (below_new _ _))
  have HX : Hid (NoM ((w.alloc (.cells #[.pointer p] 22)).alloc (.cells #[.int .i64 0] 3)) (.pointer p)) := h.below HB.out
  clear h
  go_enter Try.func15, Try.ntmps15
  go_wp2_with fail
  refine (icheck_no _ _ _ _ _ HX.out).mono ?_
  rintro e w1 ⟨rfl, rfl⟩
  go_wp2_with fail
  go_ret2
  exact ⟨rfl, HB.out⟩

set_option maxHeartbeats 1000000 in
set_option maxRecDepth 100000 in
theorem iCycle_no (p : Option Addr) (w : World) (h : NoM w (.pointer p)) : Calls Try.prog 17 #[.pointer p, .int .i64 0] w fun e w' => e = .returned (.tuple #[.int .i64 0, .int .i64 0, .int .i64 1]) ∧ Below w.heap.size w w' := by
  have HB : Hid (Below w.heap.size w (w.alloc (.cells #[.int .i64 0] 3))) := (go_on (Below.refl _ _) (below_new _ _))
  have HX : Hid (NoM (w.alloc (.cells #[.int .i64 0] 3)) (.pointer p)) := h.below HB.out
  clear h
  go_enter Try.func17, Try.ntmps17
  go_wp2_with fail
  refine (icheck_no _ _ _ _ _ HX.out).mono ?_
  rintro e w1 ⟨rfl, rfl⟩
  go_wp2_with fail
  go_ret3
  exact ⟨rfl, HB.out⟩

set_option maxHeartbeats 1000000 in
set_option maxRecDepth 100000 in
theorem iExponent_no (p : Option Addr) (w : World) (h : NoM w (.pointer p)) : Calls Try.prog 19 #[.pointer p] w fun e w' => e = .returned (.tuple #[.int .i64 0, .int .i64 1]) ∧ Below w.heap.size w w' := by
  have HB : Hid (Below w.heap.size w w) := Below.refl _ _
  have HX : Hid (NoM w (.pointer p)) := h.below HB.out
  clear h
  go_enter Try.func19, Try.ntmps19
  go_wp2_with fail
  refine (icheck_no _ _ _ _ _ HX.out).mono ?_
  rintro e w1 ⟨rfl, rfl⟩
  go_wp2_with fail
  go_ret2
  exact ⟨rfl, HB.out⟩

set_option maxHeartbeats 1000000 in
set_option maxRecDepth 100000 in
theorem iRegular_no (p : Option Addr) (w : World) (h : NoM w (.pointer p)) : Calls Try.prog 25 #[.pointer p, .int .i64 0] w fun e w' => e = .returned (.tuple #[.bool false, .int .i64 1]) ∧ Below w.heap.size w w' := by
  have HB : Hid (Below w.heap.size w (w.alloc (.cells #[.int .i64 0] 3))) := (go_on (Below.refl _ _) (below_new _ _))
  have HX : Hid (NoM (w.alloc (.cells #[.int .i64 0] 3)) (.pointer p)) := h.below HB.out
  clear h
  go_enter Try.func25, Try.ntmps25
  go_wp2_with fail
  refine (icheck_no _ _ _ _ _ HX.out).mono ?_
  rintro e w1 ⟨rfl, rfl⟩
  go_wp2_with fail
  go_ret2
  exact ⟨rfl, HB.out⟩

set_option maxHeartbeats 1000000 in
set_option maxRecDepth 100000 in
theorem iInverses_no (p : Option Addr) (w : World) (h : NoM w (.pointer p)) : Calls Try.prog 27 #[.pointer p, .int .i64 0] w fun e w' => e = .returned (.tuple #[.slice none 0 0, .int .i64 1]) ∧ Below w.heap.size w w' := by
  have HB : Hid (Below w.heap.size w (((w.alloc (.cells #[.pointer p] 22)).alloc (.cells #[.int .i64 0] 3)).alloc (.cells #[.int .i64 0] 3))) := (go_on ((go_on ((go_on (Below.refl _ _) (below_new _ _))) (below_new _ _))) (below_new _ _))
  have HX : Hid (NoM (((w.alloc (.cells #[.pointer p] 22)).alloc (.cells #[.int .i64 0] 3)).alloc (.cells #[.int .i64 0] 3)) (.pointer p)) := h.below HB.out
  clear h
  go_enter Try.func27, Try.ntmps27
  go_wp2_with fail
  refine (icheck_no _ _ _ _ _ HX.out).mono ?_
  rintro e w1 ⟨rfl, rfl⟩
  go_wp2_with fail
  go_ret2
  exact ⟨rfl, HB.out⟩

set_option maxHeartbeats 1000000 in
set_option maxRecDepth 100000 in
theorem iBelow_no (p : Option Addr) (w : World) (h : NoM w (.pointer p)) : Calls Try.prog 29 #[.pointer p, .int .i64 0, .int .i64 0] w fun e w' => e = .returned (.tuple #[.bool false, .int .i64 1]) ∧ Below w.heap.size w w' := by
  have HB : Hid (Below w.heap.size w (w.alloc (.cells #[.int .i64 0, .int .i64 0] 3))) := (go_on (Below.refl _ _) (below_new _ _))
  have HX : Hid (NoM (w.alloc (.cells #[.int .i64 0, .int .i64 0] 3)) (.pointer p)) := h.below HB.out
  clear h
  go_enter Try.func29, Try.ntmps29
  go_wp2_with fail
  refine (icheckI_no _ _ _ _ _ HX.out).mono ?_
  rintro e w1 ⟨rfl, rfl⟩
  go_wp2_with fail
  go_ret2
  exact ⟨rfl, HB.out⟩

set_option maxHeartbeats 1000000 in
set_option maxRecDepth 100000 in
theorem iBetween_no (p : Option Addr) (w : World) (h : NoM w (.pointer p)) : Calls Try.prog 31 #[.pointer p, .int .i64 0] w fun e w' => e = .returned (.tuple #[.slice none 0 0, .int .i64 1]) ∧ Below w.heap.size w w' := by
  have HB : Hid (Below w.heap.size w (((w.alloc (.cells #[.pointer p] 22)).alloc (.cells #[.int .i64 0] 3)).alloc (.cells #[.int .i64 0] 3))) := (go_on ((go_on ((go_on (Below.refl _ _) (below_new _ _))) (below_new _ _))) (below_new _ _))
  have HX : Hid (NoM (((w.alloc (.cells #[.pointer p] 22)).alloc (.cells #[.int .i64 0] 3)).alloc (.cells #[.int .i64 0] 3)) (.pointer p)) := h.below HB.out
  clear h
  go_enter Try.func31, Try.ntmps31
  go_wp2_with fail
  refine (icheckI_no _ _ _ _ _ HX.out).mono ?_
  rintro e w1 ⟨rfl, rfl⟩
  go_wp2_with fail
  go_ret2
  exact ⟨rfl, HB.out⟩

end Go.Proofs.Ytafcejipoioigaa

namespace Go.Proofs.Ytafcejipoioigaa
open Go Go.RowKit Go.Lib
set_option linter.unusedVariables false

/-- Numbers as cells. -/
def intCells (l : List Nat) : List Value := l.map fun (n : Nat) => Value.int .i64 (n : Int)
theorem intCells_append (a b : List Nat) : intCells (a ++ b) = intCells a ++ intCells b := by simp [intCells]

/-- A row hangs on its own block alone. -/
theorem own_of_heap {w w' : World} {B : Nat} {e : TypeId} {size n : Nat} {v : Value} {xs : List Value} (h : w.ownsRow B e size v n xs) (hk : ∀ b, v.ownBlock = some b → w'.heap[b]? = w.heap[b]?) : w'.ownsRow B e size v n xs := by
  obtain ⟨a, b⟩ := h
  refine ⟨a, ?_⟩
  rcases b with b | ⟨g, cap, cur, e1, r, r2, r3⟩
  · exact .inl b
  · refine .inr ⟨g, cap, cur, e1, r, ?_, r3⟩
    rw [hk g (by rw [e1]; rfl)]
    exact r2
theorem own_type {w : World} {B : Nat} {e : TypeId} {size n : Nat} {v : Value} {xs : List Value} (h : w.ownsRow B e size v n xs) (b : Nat) (hb : v.ownBlock = some b) : ∃ cur, w.heap[b]? = some (.cells cur e (0, 0)) := by
  obtain ⟨_, h⟩ := h
  rcases h with ⟨rfl, _⟩ | ⟨g, cap, cur, rfl, _, r, _⟩
  · simp [Value.ownBlock] at hb
  · simp [Value.ownBlock] at hb
    subst hb
    exact ⟨cur, r⟩
/-- Rows of two kinds lie in two blocks. -/
theorem own_apart {w : World} {B B' : Nat} {e e' : TypeId} {size size' n n' : Nat} {v v' : Value} {xs xs' : List Value} (h : w.ownsRow B e size v n xs) (h' : w.ownsRow B' e' size' v' n' xs') (he : e ≠ e') (b : Nat) (hb : v.ownBlock = some b) : v'.ownBlock ≠ some b := by
  intro hb'
  obtain ⟨c, hc⟩ := own_type h b hb
  obtain ⟨c', hc'⟩ := own_type h' b hb'
  rw [hc] at hc'
  simp at hc'
  exact he hc'.2
theorem set_take (l : List Value) (n i : Nat) (u : Value) (h : n ≤ i) : (l.set i u).take n = l.take n := by
  apply List.ext_getElem?
  intro t
  by_cases ht : t < n
  · simp [ht, show ¬ i = t by omega]
  · rw [List.getElem?_eq_none (by simp; omega), List.getElem?_eq_none (by simp; omega)]
theorem heap_setCell_eq (w : World) (b i : Nat) (u : Value) (cur : Array Value) (e : TypeId) (h : w.heap[b]? = some (.cells cur e (0, 0))) : (w.setCell ⟨b, i, none⟩ u).heap[b]? = some (.cells (cur.setIfInBounds i u) e (0, 0)) := by
  simp [World.setCell, Array.getElem?_modify, h]
/-- A store behind a row's end leaves the row. -/
theorem own_high {w : World} {B : Nat} {e : TypeId} {n : Nat} {v : Value} {xs : List Value} (h : w.ownsRow B e 1 v n xs) (b i : Nat) (u : Value) (hi : v.ownBlock = some b → n ≤ i) : (w.setCell ⟨b, i, none⟩ u).ownsRow B e 1 v n xs := by
  by_cases hb : v.ownBlock = some b
  · obtain ⟨a, h⟩ := h
    refine ⟨a, ?_⟩
    rcases h with h | ⟨g, cap, cur, rfl, r, r2, r3, r4, r5, r6⟩
    · exact .inl h
    · simp [Value.ownBlock] at hb
      subst hb
      refine .inr ⟨g, cap, _, rfl, r, heap_setCell_eq w g i u cur e r2, r3, r4, by simpa using r5, ?_⟩
      rw [Array.toList_setIfInBounds, set_take _ _ _ _ (by have := hi rfl; omega)]
      exact r6
  · refine own_of_heap h (fun b' hb' => ?_)
    exact Below.heap_setCell w ⟨b, i, none⟩ u b' (fun e => hb (by rw [hb', e]))
/-- One cell more within the room. -/
theorem own_room {w : World} {B : Nat} {e : TypeId} {n cap b : Nat} {xs : List Value} (h : w.ownsRow B e 1 (.slice (some ⟨b, 0, none⟩) n cap) n xs) (hr : n + 1 ≤ cap) (u : Value) : (w.setCell ⟨b, n, none⟩ u).ownsRow B e 1 (.slice (some ⟨b, 0, none⟩) (n + 1) cap) (n + 1) (xs ++ [u]) := by
  obtain ⟨a, h⟩ := h
  refine ⟨by simp; omega, ?_⟩
  rcases h with ⟨h, _⟩ | ⟨g, cap', cur, hv, r, r2, r3, r4, r5, r6⟩
  · simp at h
  · simp at hv
    obtain ⟨rfl, rfl⟩ := hv
    refine .inr ⟨b, cap, _, rfl, r, heap_setCell_eq w b n u cur e r2, hr, r4, by simpa using r5, ?_⟩
    rw [Array.toList_setIfInBounds]
    have hl : cur.toList.length = cap := by simpa using r5
    rw [Nat.mul_one, List.take_succ_eq_append_getElem (by rw [List.length_set]; omega), set_take _ _ _ _ (Nat.le_refl _)]
    rw [Nat.mul_one] at r6
    rw [r6]
    simp
theorem intCells_len (l : List Nat) : (intCells l).length = l.length := by simp [intCells]
theorem intCells_set4 (l : List Nat) (i c : Nat) : (intCells l).set i (Value.int .i64 (c : Int)) = intCells (l.set i c) := by simp [intCells, List.map_set]
/-- Marked up to k. -/
def markV (c : Nat) (xs : List Value) (k : Nat) : List Value := intCells (List.replicate k c) ++ xs.drop k
theorem markV_zero (c : Nat) (xs : List Value) : markV c xs 0 = xs := by simp [markV, intCells]
theorem markV_end (c n : Nat) (xs : List Value) (h : xs.length = n) : markV c xs n = intCells (List.replicate n c) := by simp [markV, ← h]
theorem markV_len (c : Nat) (xs : List Value) (k : Nat) (h : k ≤ xs.length) : (markV c xs k).length = xs.length := by simp [markV, intCells]; omega
theorem markV_set (c : Nat) (xs : List Value) (k : Nat) (h : k < xs.length) : (markV c xs k).set k (.int .i64 (c : Int)) = markV c xs (k + 1) := by
  unfold markV
  rw [List.drop_eq_getElem_cons h, List.set_append_right _ _ (by simp [intCells]), intCells_len, List.length_replicate, Nat.sub_self, List.set_cons_zero, List.replicate_succ', intCells_append, List.append_assoc]
  rfl
/-- What stands while a row V of n numbers c is copied and grown by numbers d: V itself; the copy g, with m numbers more; all other blocks of W0. -/
structure Grow (B : Nat) (w W0 : World) (V : Value) (n c d : Nat) (wr : World) (g : Value) (m : Nat) : Prop where
  others : ∀ k, k < W0.heap.size → V.ownBlock ≠ some k → wr.heap[k]? = W0.heap[k]?
  row : wr.ownsRow B 3 1 V n (intCells (List.replicate n c))
  copy : wr.ownsRow B 3 1 g (n + m) (intCells (List.replicate n c ++ List.replicate m d))
  place : g.ownBlock = V.ownBlock ∨ ∃ b, g.ownBlock = some b ∧ W0.heap.size ≤ b
  size : W0.heap.size ≤ wr.heap.size
  below : Below B w wr
theorem rep_more (n c m d : Nat) : intCells (List.replicate n c ++ List.replicate m d) ++ [Value.int .i64 (d : Int)] = intCells (List.replicate n c ++ List.replicate (m + 1) d) := by
  rw [List.replicate_succ', ← List.append_assoc, intCells_append (List.replicate n c ++ List.replicate m d)]
  rfl
/-- The next number is laid into the room behind the copy. -/
theorem Grow.room {B : Nat} {w W0 wr : World} {V : Value} {n c d m b cap : Nat} (h : Grow B w W0 V n c d wr (.slice (some ⟨b, 0, none⟩) (n + m) cap) m) (hr : n + m + 1 ≤ cap) (o : Obj) (hB : B ≤ W0.heap.size) :
    Grow B w W0 V n c d ((wr.alloc o).setCell ⟨b, n + m, none⟩ (.int .i64 (d : Int))) (.slice (some ⟨b, 0, none⟩) (n + m + 1) cap) (m + 1) := by
  have hbB : B ≤ b := (h.copy.lt b rfl).1
  have hbl : b < wr.heap.size := (h.copy.lt b rfl).2
  refine ⟨?_, ?_, ?_, ?_, ?_, ?_⟩
  · intro k hk hne
    have hkb : k ≠ b := by
      intro e
      subst e
      rcases h.place with hp | ⟨b', hp, hb'⟩
      · exact hne (by rw [← hp]; rfl)
      · simp [Value.ownBlock] at hp
        omega
    rw [Below.heap_setCell _ _ _ _ hkb, Below.heap_alloc _ _ _ (by have := h.size; omega)]
    exact h.others k hk hne
  · exact own_high (h.row.alloc o) b (n + m) _ (fun _ => by omega)
  · have := own_room (h.copy.alloc o) hr (.int .i64 (d : Int))
    rw [rep_more] at this
    exact this
  · rcases h.place with hp | ⟨b', hp, hb'⟩
    · exact .inl (by rw [← hp]; rfl)
    · exact .inr ⟨b', hp, hb'⟩
  · have := h.size
    simp [World.setCell]
    omega
  · exact (h.below.alloc (Nat.le_trans hB h.size) o).setCell (p := ⟨b, n + m, none⟩) hbB _
/-- The next number goes into a new row, with all that the copy held. -/
theorem Grow.fresh {B : Nat} {w W0 wr w2 : World} {V g g' : Value} {n c d m : Nat} (h : Grow B w W0 V n c d wr g m) (o : Obj) (hB : B ≤ W0.heap.size) (hown : w2.ownsRow (wr.heap.size + 1) 3 1 g' (n + m + 1) (intCells (List.replicate n c ++ List.replicate m d) ++ [Value.int .i64 (d : Int)])) (hg : (wr.alloc o).grownBy w2 none) :
    Grow B w W0 V n c d w2 g' (m + 1) := by
  have hsz : (wr.alloc o).heap.size = wr.heap.size + 1 := by simp
  have hs := h.size
  have hkeep : ∀ k, k < wr.heap.size → w2.heap[k]? = wr.heap[k]? := fun k hk => by
    rw [hg.block k (by omega) (by simp), Below.heap_alloc _ _ _ hk]
  refine ⟨?_, ?_, ?_, ?_, ?_, ?_⟩
  · intro k hk hne
    rw [hkeep k (by omega)]
    exact h.others k hk hne
  · exact own_of_heap h.row (fun b hb => hkeep b (h.row.lt b hb).2)
  · rw [rep_more] at hown
    exact own_mono hown (by omega)
  · have hne : g'.ownBlock ≠ none := by
      obtain ⟨_, hh⟩ := hown
      rcases hh with ⟨_, h0⟩ | ⟨b, cap, cur, rfl, _⟩
      · omega
      · simp [Value.ownBlock]
    obtain ⟨b, hb⟩ := Option.ne_none_iff_exists'.1 hne
    exact .inr ⟨b, hb, by have := (hown.lt b hb).1; omega⟩
  · have := hg.size
    omega
  · exact (h.below.alloc (Nat.le_trans hB hs) o).grown hg (by omega) (by simp)

/-- A told list's value. -/
def vv (a : Nat → Option Addr) (n c : Nat → Nat) (j : Nat) : Value := .slice (a j) (n j) (c j)
/-- What stands when i lists have been copied and grown. -/
structure Grown2 (B G : Nat) (a : Nat → Option Addr) (n c : Nat → Nat) (w wr : World) (vgr : Value) (i : Nat) (Gv : Nat → Value) : Prop where
  list : wr.heap[G]? = some (.cells #[vv a n c 0, vv a n c 1] 23 (0, 0))
  rows : ∀ j, j < 2 → wr.ownsRow B 3 1 (vv a n c j) (n j) (intCells (List.replicate (n j) (1000 + j)))
  grown : wr.ownsRow w.heap.size 23 1 vgr i ((List.range i).map Gv)
  copies : ∀ j, j < i → wr.ownsRow B 3 1 (Gv j) (n j + 40) (intCells (List.replicate (n j) (1000 + j) ++ List.replicate 40 (2000 + j)))
  apart : ∀ j, j < i → ∀ j', j' < 2 → j' ≠ j → ∀ b, (Gv j).ownBlock = some b → (vv a n c j').ownBlock ≠ some b
  below : Below B w wr
theorem list_apart {w : World} {B G : Nat} {v : Value} {n : Nat} {xs : List Value} {cs : Array Value} (hG : w.heap[G]? = some (.cells cs 23 (0, 0))) (h : w.ownsRow B 3 1 v n xs) : v.ownBlock ≠ some G := by
  intro hb
  obtain ⟨cur, hc⟩ := own_type h G hb
  rw [hG] at hc
  simp at hc
theorem Grown2.mid {B G : Nat} {a : Nat → Option Addr} {n c : Nat → Nat} {w wr w2 : World} {vgr g : Value} {i m : Nat} {Gv : Nat → Value} (h : Grown2 B G a n c w wr vgr i Gv) (hi : i < 2) (hg : Grow B w wr (vv a n c i) (n i) (1000 + i) (2000 + i) w2 g m) :
    w2.ownsRow w.heap.size 23 1 vgr i ((List.range i).map Gv) :=
  own_of_heap h.grown (fun b hb => hg.others b (h.grown.lt b hb).2 (own_apart h.grown (h.rows i hi) (by decide) b hb))
theorem Grown2.midList {B G : Nat} {a : Nat → Option Addr} {n c : Nat → Nat} {w wr w2 : World} {vgr g : Value} {i m : Nat} {Gv : Nat → Value} (h : Grown2 B G a n c w wr vgr i Gv) (hi : i < 2) (hg : Grow B w wr (vv a n c i) (n i) (1000 + i) (2000 + i) w2 g m) :
    w2.heap[G]? = some (.cells #[vv a n c 0, vv a n c 1] 23 (0, 0)) := by
  rw [hg.others G (Array.getElem?_eq_some_iff.1 h.list).1 (list_apart h.list (h.rows i hi))]
  exact h.list
theorem Grown2.step {B G : Nat} {a : Nat → Option Addr} {n c : Nat → Nat} {w wr w2 w3 : World} {vgr v' g : Value} {i : Nat} {Gv : Nat → Value} {o : Obj} (h : Grown2 B G a n c w wr vgr i Gv) (hi : i < 2) (hd : ∀ j j', j < 2 → j' < 2 → j ≠ j' → ∀ b, (vv a n c j).ownBlock = some b → (vv a n c j').ownBlock ≠ some b)
    (hg : Grow B w wr (vv a n c i) (n i) (1000 + i) (2000 + i) w2 g 40) (hB : B ≤ w.heap.size) (hown : w3.ownsRow w.heap.size 23 1 v' (i + 1) ((List.range i).map Gv ++ [g])) (hgr : (w2.alloc o).grownBy w3 vgr.ownBlock) (hGw : G < w.heap.size) :
    Grown2 B G a n c w w3 v' (i + 1) (fun j => if j = i then g else Gv j) := by
  have hmid := h.mid hi hg
  have hsz : (w2.alloc o).heap.size = w2.heap.size + 1 := by simp
  have hs := hg.size
  -- a row of numbers stands behind the append to the list of lists
  have keep : ∀ {v : Value} {k : Nat} {xs : List Value}, w2.ownsRow B 3 1 v k xs → w3.ownsRow B 3 1 v k xs := by
    intro v k xs hv
    refine own_of_heap hv (fun b hb => ?_)
    have hbl := (hv.lt b hb).2
    rw [hgr.block b (by omega) (fun e => own_apart hv hmid (by decide) b hb e.symm), Below.heap_alloc _ _ _ hbl]
  have rows2 : ∀ j, j < 2 → w2.ownsRow B 3 1 (vv a n c j) (n j) (intCells (List.replicate (n j) (1000 + j))) := by
    intro j hj
    by_cases e : j = i
    · subst e; exact hg.row
    · exact own_of_heap (h.rows j hj) (fun b hb => hg.others b ((h.rows j hj).lt b hb).2 (hd j i hj hi e b hb))
  refine ⟨?_, fun j hj => keep (rows2 j hj), ?_, ?_, ?_, ?_⟩
  · have hl := h.midList hi hg
    have hlt := (Array.getElem?_eq_some_iff.1 hl).1
    rw [hgr.block G (by omega) (fun e => by have := (hmid.lt G e.symm).1; omega), Below.heap_alloc _ _ _ hlt]
    exact hl
  · have e : (List.range (i + 1)).map (fun j => if j = i then g else Gv j) = (List.range i).map Gv ++ [g] := by
      rw [List.range_succ, List.map_append]
      congr 1
      · apply List.map_congr_left
        intro j hj
        rw [List.mem_range] at hj
        rw [if_neg (by omega)]
      · simp
    rw [e]
    exact hown
  · intro j hj
    by_cases e : j = i
    · subst e
      simp only [if_true]
      exact keep hg.copy
    · simp only [if_neg e]
      have hc := h.copies j (by omega)
      exact keep (own_of_heap hc (fun b hb => hg.others b (hc.lt b hb).2 (h.apart j (by omega) i hi (fun x => e x.symm) b hb)))
  · intro j hj j' hj' hne b hb
    by_cases e : j = i
    · subst e
      simp only [if_true] at hb
      rcases hg.place with hp | ⟨b', hp, hb'⟩
      · rw [hp] at hb
        exact hd j j' (by omega) hj' (fun x => hne x.symm) b hb
      · rw [hp] at hb
        simp only [Option.some.injEq] at hb
        subst hb
        intro hx
        have := ((h.rows j' hj').lt b' hx).2
        omega
    · simp only [if_neg e] at hb
      exact h.apart j (by omega) j' hj' hne b hb
  · exact (hg.below.alloc (by have := hg.below.size; omega) o).grown hgr (by have := hg.below.size; omega) (fun k hk => by have := (hmid.lt k hk).1; omega)

end Go.Proofs.Ytafcejipoioigaa

namespace Go.Proofs.Ytafcejipoioigaa
open Go Go.RowKit Go.Lib
set_option linter.unusedVariables false

theorem Try.info_ints : (Try.prog.info? 23).map (fun i => (i.zero, i.size, i.bytes)) = some (some (.slice none 0 0), 1, 24) := by kernel_rfl
/-- What stands when the first i lists are marked. -/
structure Marked (B G : Nat) (a : Nat → Option Addr) (n c : Nat → Nat) (X : Nat → List Value) (w wr : World) (i : Nat) : Prop where
  list : wr.heap[G]? = some (.cells #[vv a n c 0, vv a n c 1] 23 (0, 0))
  rows : ∀ j, j < 2 → wr.ownsRow B 3 1 (vv a n c j) (n j) (if j < i then intCells (List.replicate (n j) (1000 + j)) else X j)
  below : Below B w wr
/-- What stands when k numbers of list i are marked. -/
structure Marking (B : Nat) (V : Value) (n i : Nat) (X : List Value) (w W0 wr : World) (k : Nat) : Prop where
  others : ∀ b, V.ownBlock ≠ some b → wr.heap[b]? = W0.heap[b]?
  row : wr.ownsRow B 3 1 V n (markV (1000 + i) X k)
  below : Below B w wr
theorem cell_list {w : World} {G : Nat} {a : Nat → Option Addr} {n c : Nat → Nat} (h : w.heap[G]? = some (.cells #[vv a n c 0, vv a n c 1] 23 (0, 0))) (i : Nat) (hi : i < 2) : w.cell? ⟨G, i, none⟩ = some (.slice (a i) (n i) (c i)) := by
  have : i = 0 ∨ i = 1 := by omega
  rcases this with rfl | rfl
  · simp [World.cell?, h, vv]
  · simp [World.cell?, h, vv]
theorem own_addr {w : World} {B : Nat} {a : Option Addr} {n c : Nat} {xs : List Value} (h : w.ownsRow B 3 1 (.slice a n c) n xs) (hn : 0 < n) : ∃ g, a = some ⟨g, 0, none⟩ := by
  obtain ⟨_, h⟩ := h
  rcases h with ⟨_, h0⟩ | ⟨g, cap, cur, hv, _⟩
  · omega
  · simp at hv
    exact ⟨g, hv.1⟩

theorem cells_one (w : World) (b i : Nat) (u : Value) : w.setCells b i [u] = w.setCell ⟨b, i, none⟩ u := by simp [World.setCells]
theorem addr_at (g j : Nat) : (⟨g, 0, none⟩ : Addr).add j = ⟨g, j, none⟩ := by
  cases j with
  | zero => simp [Addr.add]
  | succ j => simp [Addr.add]
theorem own_spare {w : World} {B b n cap : Nat} {e : TypeId} {xs : List Value} (h : w.ownsRow B e 1 (.slice (some ⟨b, 0, none⟩) n cap) n xs) (i : Nat) (hi : i < cap) : (w.cell? ⟨b, i, none⟩).isSome = true ∧ w.frozen? ⟨b, i, none⟩ = false := by
  obtain ⟨_, h⟩ := h
  rcases h with ⟨h, _⟩ | ⟨g, cap', cur, hv, _, r, _, _, r5, _⟩
  · simp at h
  · simp at hv
    obtain ⟨rfl, rfl⟩ := hv
    constructor
    · simp [World.cell?, r]
      omega
    · simp [World.frozen?, r]

set_option maxHeartbeats 4000000 in
set_option maxRecDepth 100000 in
theorem apart_any (B G : Nat) (a : Nat → Option Addr) (n c : Nat → Nat) (X : Nat → List Value) (w : World) (hG : w.heap[G]? = some (.cells #[vv a n c 0, vv a n c 1] 23 (0, 0)))
    (hrow : ∀ j, j < 2 → w.ownsRow B 3 1 (vv a n c j) (n j) (X j)) (hlen : ∀ j, j < 2 → n j ≤ 17592186044000) (hX : ∀ j, j < 2 → (X j).length = n j)
    (hd : ∀ j j', j < 2 → j' < 2 → j ≠ j' → ∀ b, (vv a n c j).ownBlock = some b → (vv a n c j').ownBlock ≠ some b) (hB : B ≤ w.heap.size) :
    Calls Try.prog 24 #[.slice (some ⟨G, 0, none⟩) 2 2] w fun e w' => e = .returned (.bool true) ∧ Below B w w' := by
  have HX : Hid _ := hX
  have HD : Hid _ := hd
  have HL : Hid (∀ j, j < 2 → n j ≤ 17592186044000) := hlen
  have hGw : G < w.heap.size := (Array.getElem?_eq_some_iff.1 hG).1
  have HM0 : Hid (Marked B G a n c X w w 0) := ⟨hG, fun j hj => by rw [if_neg (by omega)]; exact hrow j hj, Below.refl _ _⟩
  clear hX hd hlen hG hrow
  go_enter Try.func24, Try.ntmps24
  go_wp2_with fail
  go_loopw [4] (fun vi wr => ∃ i : Nat, vi = .int .i64 i ∧ i ≤ 2 ∧ Marked B G a n c X w wr i) (fun vi _ => 2 - (Go.RowKit.intOf vi).toNat)
  case atStart => exact ⟨0, rfl, by omega, HM0.out⟩
  case round =>
    obtain ⟨i, rfl, hi, hM⟩ := hrel
    obtain ⟨W0, hW0⟩ : ∃ W0, W0 = wr := ⟨_, rfl⟩
    subst hW0
    have HM : Hid (Marked B G a n c X w W0 i) := hM
    clear hM
    by_cases hi2 : i < 2
    · have hcG := cell_list HM.out.list i hi2
      have hiI : (i : Int) < 2 := by omega
      have hni := HL.out i hi2
      go_wp2_with fail
      go_loopw [5] (fun vk w2 => ∃ k : Nat, vk = .int .i64 k ∧ k ≤ n i ∧ Marking B (vv a n c i) (n i) i (X i) w W0 w2 k) (fun vk _ => n i - (Go.RowKit.intOf vk).toNat)
      case atStart => exact ⟨0, rfl, Nat.zero_le _, fun _ _ => rfl, by
        have := HM.out.rows i hi2
        rw [if_neg (by omega)] at this
        rw [markV_zero]
        exact this, HM.out.below⟩
      case round =>
        obtain ⟨k, rfl, hk, hMk⟩ := hrel
        have HMk : Hid (Marking B (vv a n c i) (n i) i (X i) w W0 wr k) := hMk
        clear hMk hcG
        have hcG := cell_list (by rw [HMk.out.others G (list_apart HM.out.list (HM.out.rows i hi2))]; exact HM.out.list) i hi2
        by_cases hlt : k < n i
        · obtain ⟨g, hg⟩ := own_addr (show wr.ownsRow B 3 1 (.slice (a i) (n i) (c i)) (n i) _ from HMk.out.row) (by omega)
          have hrow2 : wr.ownsRow B 3 1 (.slice (some ⟨g, 0, none⟩) (n i) (c i)) (n i) (markV (1000 + i) (X i) k) := by
            have := HMk.out.row
            unfold vv at this
            rw [hg] at this
            exact this
          have hck := hrow2.cellAt k (by omega)
          have hfk := hrow2.frozenAt k
          have hlm : (markV (1000 + i) (X i) k).length = n i := by
            have := HX.out i hi2
            rw [markV_len _ _ _ (by omega)]
            exact this
          have hsome : ∃ z : Value, (markV (1000 + i) (X i) k)[k]? = some z := ⟨(markV (1000 + i) (X i) k)[k]'(by omega), by simp [hlm, hlt]⟩
          obtain ⟨z, hz⟩ := hsome
          rw [hz] at hck
          have HR2 : Hid (Marking B (vv a n c i) (n i) i (X i) w W0 (wr.setCell ⟨g, k, none⟩ (.int .i64 (1000 + (i : Int)))) (k + 1)) := by
            refine ⟨?_, ?_, ?_⟩
            · intro b hb
              rw [Below.heap_setCell _ _ _ _ (fun e => hb (by unfold vv; rw [hg, e]; rfl))]
              exact HMk.out.others b hb
            · have r := (hrow2.stored k (.int .i64 ((1000 + i : Nat) : Int))).1
              rw [markV_set _ _ _ (by rw [HX.out i hi2]; exact hlt)] at r
              unfold vv
              rw [hg]
              have e : ((1000 + i : Nat) : Int) = 1000 + (i : Int) := by omega
              rw [e] at r
              exact r
            · exact HMk.out.below.setCell (p := ⟨g, k, none⟩) (hrow2.lt g rfl).1 _
          rw [hg] at hcG
          clear hrow2 hz hlm hg
          go_wp2_with fail
          go_roundw
          case rel => exact ⟨k + 1, by go_num, by omega, HR2.out⟩
          case measure => simp [Go.RowKit.intOf]; omega
        · have HE : Hid (k = n i) := by show k = n i; omega
          have HMn : Hid (Marked B G a n c X w wr (i + 1)) := by
            refine ⟨?_, ?_, HMk.out.below⟩
            · rw [HMk.out.others G (list_apart HM.out.list (HM.out.rows i hi2))]
              exact HM.out.list
            · intro j hj
              by_cases e : j = i
              · subst e
                rw [if_pos (by omega)]
                have := HMk.out.row
                rw [HE.out, markV_end _ _ _ (HX.out j hj)] at this
                exact this
              · have hr := HM.out.rows j hj
                have e2 : (j < i + 1) = (j < i) := by
                  apply propext
                  omega
                simp only [e2]
                exact own_of_heap hr (fun b hb => HMk.out.others b (HD.out j i hj hi2 e b hb))
          go_wp2_with fail
          go_roundw
          case rel => exact ⟨i + 1, by go_num, by omega, HMn.out⟩
          case measure => simp [Go.RowKit.intOf]; omega
    · have HI : Hid (i = 2) := by show i = 2; omega
      have HG0 : Hid (Grown2 B G a n c w W0 (.slice none 0 0) 0 (fun _ => .slice none 0 0)) := by
        refine ⟨HM.out.list, ?_, World.ownsRow_nil _ _ _ _, fun j hj => by omega, fun j hj => by omega, HM.out.below⟩
        intro j hj
        have := HM.out.rows j hj
        rw [if_pos (by have := HI.out; omega)] at this
        exact this
      have hdi : decide ((i : Int) < 2) = false := by rw [decide_eq_false_iff_not]; have := HI.out; omega
      clear HM
      obtain ⟨ti, hti, hz0, hz1, hz2⟩ := info_parts Try.info_int
      obtain ⟨tl, htl, hy0, hy1, hy2⟩ := info_parts Try.info_ints
      go_wp2_with fail
      clear hdi
      go_loopw [3, 6] (fun vgr vj wr => ∃ (j : Nat) (Gv : Nat → Value), vj = .int .i64 j ∧ j ≤ 2 ∧ Grown2 B G a n c w wr vgr j Gv) (fun _ vj _ => 2 - (Go.RowKit.intOf vj).toNat)
      case atStart => exact ⟨0, _, rfl, by omega, HG0.out⟩
      case round =>
        obtain ⟨j, Gv, rfl, hj, hGr⟩ := hrel
        obtain ⟨W1, hW1⟩ : ∃ W1, W1 = wr := ⟨_, rfl⟩
        subst hW1
        obtain ⟨va, vcap, rfl⟩ := own_shape hGr.grown
        have HGr : Hid (Grown2 B G a n c w W1 (.slice va j vcap) j Gv) := hGr
        clear hGr HG0
        by_cases hj2 : j < 2
        · have hcG := cell_list HGr.out.list j hj2
          have hjI : (j : Int) < 2 := by omega
          have hnj := HL.out j hj2
          go_wp2_with fail
          go_loopw [7, 8] (fun g vm w2 => ∃ m : Nat, vm = .int .i64 m ∧ m ≤ 40 ∧ Grow B w W1 (vv a n c j) (n j) (1000 + j) (2000 + j) w2 g m) (fun _ vm _ => 40 - (Go.RowKit.intOf vm).toNat)
          case atStart => exact ⟨0, rfl, by omega, fun _ _ _ => rfl, HGr.out.rows j hj2, by
            have := HGr.out.rows j hj2
            simpa [vv] using this, .inl rfl, Nat.le_refl _, HGr.out.below⟩
          case round =>
            obtain ⟨m, rfl, hm, hgrow⟩ := hrel
            obtain ⟨ga, gcap, rfl⟩ := own_shape hgrow.copy
            have HGm : Hid (Grow B w W1 (vv a n c j) (n j) (1000 + j) (2000 + j) wr (.slice ga (n j + m) gcap) m) := hgrow
            clear hgrow
            have hBW : B ≤ W1.heap.size := Nat.le_trans hB HGr.out.below.size
            have ed : ((2000 + j : Nat) : Int) = 2000 + (j : Int) := by omega
            by_cases hm40 : m < 40
            · have hcells : ∀ ad : Addr, ga = some ad → ∀ t u, (intCells (List.replicate (n j) (1000 + j) ++ List.replicate m (2000 + j)))[t]? = some u → (wr.alloc (.cells #[.int .i64 (2000 + (j : Int))] 3)).cell? (ad.add t) = some u := by
                intro ad had t u hu
                subst had
                have ho := HGm.out.copy.alloc (.cells #[.int .i64 (2000 + (j : Int))] 3)
                obtain ⟨_, hh⟩ := ho
                rcases hh with ⟨hv, _⟩ | ⟨g', cap', cur, hv, _⟩
                · simp at hv
                · simp at hv
                  obtain ⟨rfl, rfl⟩ := hv
                  exact (HGm.out.copy.alloc (.cells #[.int .i64 (2000 + (j : Int))] 3)).cells (g := g') rfl t u hu
              have HCe : Hid _ := hcells
              clear hcells
              have hlenc : (intCells (List.replicate (n j) (1000 + j) ++ List.replicate m (2000 + j))).length = (n j + m) * 1 := by simp [intCells]
              have HLc : Hid _ := hlenc
              clear hlenc
              by_cases hroom : n j + m + 1 ≤ gcap
              · obtain ⟨b, hb⟩ : ∃ b, ga = some ⟨b, 0, none⟩ := by
                  obtain ⟨_, hh⟩ := HGm.out.copy
                  rcases hh with ⟨hv, _⟩ | ⟨g', cap', cur, hv, _⟩
                  · simp at hv; omega
                  · simp at hv
                    exact ⟨g', hv.1⟩
                subst hb
                have HN : Hid _ := HGm.out.room hroom (.cells #[.int .i64 (2000 + (j : Int))] 3) hBW
                have hcopy := HGm.out.copy.alloc (.cells #[.int .i64 (2000 + (j : Int))] 3)
                have HCp : Hid _ := hcopy
                clear hcopy
                go_wp2_with (at_builtin; refine wpList_append_arg _ rfl _ _ 23 rfl 3 ti (.int .i64 0) 1 8 Try.underlying23 hti hz0 hz1 hz2 rfl (by decide) b 0 (n j + m) gcap (intCells (List.replicate (n j) (1000 + j) ++ List.replicate m (2000 + j))) rfl ?c0 ?c1 ⟨wr.heap.size, 0, none⟩ 1 1 [.int .i64 (2000 + (j : Int))] rfl rfl ?c2 ?c3 ?c4 ?c5 ?c6 ?c7 ?c8)
                case c0 => exact HLc.out
                case c1 =>
                  intro t u hu
                  have := HCe.out ⟨b, 0, none⟩ rfl t u hu
                  rw [addr_at] at this
                  rw [Nat.zero_add]
                  exact this
                case c2 => exact cell_one_new _ _ _
                case c3 => intro u hu; simp at hu; subst hu; rfl
                case c4 =>
                  intro _ t ht
                  simp at ht
                  subst ht
                  have e : 0 + (n j + m) * 1 + 0 = n j + m := by omega
                  rw [e]
                  exact own_spare HCp.out (n j + m) (by omega)
                case c5 => unfold maxLen; omega
                case c6 => omega
                case roundEnd =>
                  have HN2 : Hid (Grow B w W1 (vv a n c j) (n j) (1000 + j) (2000 + j) ((wr.alloc (.cells #[.int .i64 (2000 + (j : Int))] 3)).setCells b (n j + m) [.int .i64 (2000 + (j : Int))]) (.slice (some ⟨b, 0, none⟩) (n j + m + 1) gcap) (m + 1)) := by
                    have h := HN.out
                    rw [ed] at h
                    rw [cells_one]
                    exact h
                  clear HN HCp HCe HLc hcG
                  go_roundw
                  case rel => exact ⟨m + 1, by go_num, by omega, HN2.out⟩
                  case measure => simp [Go.RowKit.intOf]; omega
                case c8 => intro h; omega
              · go_wp2_with (at_builtin; refine wpList_append_grows _ rfl _ _ 23 rfl 3 ti (.int .i64 0) 1 8 Try.underlying23 hti hz0 hz1 hz2 rfl (by decide) ga (n j + m) gcap (intCells (List.replicate (n j) (1000 + j) ++ List.replicate m (2000 + j))) rfl ?e0 ?e1 ?e2 ⟨wr.heap.size, 0, none⟩ 1 1 [.int .i64 (2000 + (j : Int))] rfl rfl ?e3 ?e4 ?e5 ?e6 ?e7 ?e8)
                case e0 =>
                  intro hna
                  obtain ⟨_, hh⟩ := HGm.out.copy
                  rcases hh with ⟨hv, h0⟩ | ⟨g', cap', cur, hv, _⟩
                  · simp at hv
                    exact ⟨h0, hv.2.2⟩
                  · simp [hna] at hv
                case e1 => exact HLc.out
                case e2 => exact HCe.out
                case e3 => exact cell_one_new _ _ _
                case e4 => intro u hu; simp at hu; subst hu; rfl
                case e5 => omega
                case e6 => unfold maxLen; omega
                case e7 => omega
                case e8 =>
                  intro v' w2 hown hgr
                  have HN2 : Hid (Grow B w W1 (vv a n c j) (n j) (1000 + j) (2000 + j) w2 v' (m + 1)) := by
                    refine HGm.out.fresh (.cells #[.int .i64 (2000 + (j : Int))] 3) hBW ?_ hgr
                    rw [ed]
                    simpa using hown
                  clear hown hgr HCe HLc hcG
                  go_wp2_with fail
                  go_roundw
                  case rel => exact ⟨m + 1, by go_num, by omega, HN2.out⟩
                  case measure => simp [Go.RowKit.intOf]; omega
            · have hm4 : m = 40 := by omega
              subst hm4
              have HMid : Hid (wr.ownsRow w.heap.size 23 1 (.slice va j vcap) j ((List.range j).map Gv)) := HGr.out.mid hj2 HGm.out
              have hsz1 := HGm.out.below.size
              go_wp2_with (at_builtin; refine wpList_append_own _ rfl _ _ 94 rfl w.heap.size 23 tl (.slice none 0 0) 1 24 Try.underlying94 htl hy0 hy1 hy2 rfl (by decide) _ _ _ rfl (HMid.out.alloc _) ⟨wr.heap.size, 0, none⟩ 1 1 [.slice ga (n j + 40) gcap] rfl rfl ?f1 ?f2 ?f3 ?f4 ?f5 ?_)
              case f1 => exact cell_one_new _ _ _
              case f2 => intro u hu; simp at hu; subst hu; rfl
              case f3 => unfold maxLen; omega
              case f4 => omega
              case f5 => simp; omega
              intro v' w3 hown hgr _
              have HN3 : Hid (Grown2 B G a n c w w3 v' (j + 1) (fun t => if t = j then .slice ga (n j + 40) gcap else Gv t)) := HGr.out.step hj2 HD.out HGm.out hB hown hgr hGw
              clear hown hgr hcG
              go_wp2_with fail
              go_roundw
              case rel => exact ⟨j + 1, _, by go_num, by omega, HN3.out⟩
              case measure => simp [Go.RowKit.intOf]; omega
        · have HJ : Hid (j = 2) := by show j = 2; omega
          obtain ⟨vb, hvb⟩ : ∃ vb, va = some ⟨vb, 0, none⟩ := by
            obtain ⟨_, hh⟩ := HGr.out.grown
            rcases hh with ⟨_, h0⟩ | ⟨g', cap', cur, hv, _⟩
            · have := HJ.out; omega
            · simp at hv
              exact ⟨g', hv.1⟩
          subst hvb
          have hdj : decide ((j : Int) < 2) = false := by rw [decide_eq_false_iff_not]; have := HJ.out; omega
          have HCells : Hid (∀ t, t < 2 → W1.cell? ⟨vb, t, none⟩ = some (Gv t)) := by
            intro t ht
            rw [HGr.out.grown.cellAt t (by have := HJ.out; omega)]
            simp [show t < j by have := HJ.out; omega]
          have HCop : Hid (∀ t, t < 2 → ∃ gb gc, Gv t = .slice (some ⟨gb, 0, none⟩) (n t + 40) gc ∧ (∀ k, k < n t → W1.cell? ⟨gb, k, none⟩ = some (.int .i64 ((1000 + t : Nat) : Int))) ∧ (∀ k, n t ≤ k → k < n t + 40 → W1.cell? ⟨gb, k, none⟩ = some (.int .i64 ((2000 + t : Nat) : Int)))) := by
            intro t ht
            have hc := HGr.out.copies t (by have := HJ.out; omega)
            obtain ⟨_, hh⟩ := id hc
            rcases hh with ⟨_, h0⟩ | ⟨gb, gc, cur, hv, _⟩
            · omega
            · rw [hv] at hc
              refine ⟨gb, gc, hv, fun k hk => ?_, fun k hk1 hk2 => ?_⟩
              · rw [hc.cellAt k (by omega)]
                simp [intCells, List.getElem?_append_left, hk]
              · rw [hc.cellAt k (by omega)]
                have e : (intCells (List.replicate (n t) (1000 + t) ++ List.replicate 40 (2000 + t)))[k]? = some (Value.int .i64 ((2000 + t : Nat) : Int)) := by
                  unfold intCells
                  rw [List.getElem?_map, List.getElem?_append_right (by rw [List.length_replicate]; exact hk1), List.length_replicate, List.getElem?_replicate, if_pos (by omega)]
                  rfl
                exact e
          have HRow : Hid (∀ t, t < 2 → 0 < n t → ∃ rb, a t = some ⟨rb, 0, none⟩ ∧ ∀ k, k < n t → W1.cell? ⟨rb, k, none⟩ = some (.int .i64 ((1000 + t : Nat) : Int))) := by
            intro t ht hn0
            have hr : W1.ownsRow B 3 1 (.slice (a t) (n t) (c t)) (n t) _ := HGr.out.rows t ht
            obtain ⟨rb, hrb⟩ := own_addr hr hn0
            rw [hrb] at hr
            refine ⟨rb, hrb, fun k hk => ?_⟩
            rw [hr.cellAt k (by omega)]
            simp [intCells, hk]
          have HLst : Hid (∀ t, t < 2 → W1.cell? ⟨G, t, none⟩ = some (.slice (a t) (n t) (c t))) := fun t ht => cell_list HGr.out.list t ht
          have HBe : Hid (Below B w W1) := HGr.out.below
          clear HGr
          have hjge : 2 ≤ j := by have := HJ.out; omega
          go_wp2_with fail
          clear hdj
          go_loop [9] (fun vt => ∃ t : Nat, vt = .int .i64 t ∧ t ≤ 2) (fun vt => 2 - (Go.RowKit.intOf vt).toNat)
          case atStart => exact ⟨0, rfl, by omega⟩
          case round =>
            obtain ⟨t, rfl, ht⟩ := hrel
            by_cases ht2 : t < 2
            · have hcl := HLst.out t ht2
              have hcg := HCells.out t ht2
              obtain ⟨gb, gc, hgv, hlow, hhigh⟩ := HCop.out t ht2
              rw [hgv] at hcg
              have HLow : Hid _ := hlow
              have HHigh : Hid _ := hhigh
              have htI : (t : Int) < 2 := by omega
              have htj : (t : Int) < j := by omega
              have hnt := HL.out t ht2
              clear hgv hlow hhigh
              go_wp2_with fail
              go_loop [10] (fun vk => ∃ k : Nat, vk = .int .i64 k ∧ k ≤ n t + 40) (fun vk => n t + 40 - (Go.RowKit.intOf vk).toNat)
              case atStart => exact ⟨0, rfl, by omega⟩
              case round =>
                obtain ⟨k, rfl, hk⟩ := hrel
                by_cases hk40 : k < n t + 40
                · by_cases hkn : k < n t
                  · obtain ⟨rb, hrb, hrc⟩ := HRow.out t ht2 (by omega)
                    have hc1 := hrc k hkn
                    have hc2 := HLow.out k hkn
                    rw [hrb] at hcl
                    have e1 : ((1000 + t : Nat) : Int) = 1000 + (t : Int) := by omega
                    rw [e1] at hc1 hc2
                    have hkI : (k : Int) < (n t : Int) := by omega
                    clear hrc hrb e1
                    go_wp2_with fail
                    go_round
                    case rel => exact ⟨k + 1, by go_num, by omega⟩
                    case measure => simp [Go.RowKit.intOf]; omega
                  · have hc2 := HHigh.out k (by omega) hk40
                    have e1 : ((2000 + t : Nat) : Int) = 2000 + (t : Int) := by omega
                    rw [e1] at hc2
                    have hkI : decide ((k : Int) < (n t : Int)) = false := by rw [decide_eq_false_iff_not]; omega
                    have hkI2 : (n t : Int) ≤ (k : Int) := by omega
                    clear e1
                    go_wp2_with fail
                    go_round
                    case rel => exact ⟨k + 1, by go_num, by omega⟩
                    case measure => simp [Go.RowKit.intOf]; omega
                · go_wp2_with fail
                  go_round
                  case rel => exact ⟨t + 1, by go_num, by omega⟩
                  case measure => simp [Go.RowKit.intOf]; omega
            · go_wp2_with fail
              go_ret
              exact ⟨rfl, HBe.out⟩

end Go.Proofs.Ytafcejipoioigaa

namespace Go.Proofs.Ytafcejipoioigaa
open Go Go.RowKit Go.Lib Go.Maps
set_option linter.unusedVariables false
attribute [-instance] List.instBEq instBEqProd

/-- What Omega answers. -/
def OmU (K n : Nat) (N : List Nat) (i x e : Int) : Prop := (∃ k y : Nat, i = k ∧ k < n ∧ x = y ∧ e = 0 ∧ OmQ K N k y) ∨ (¬ hasE n i = true ∧ x = 0 ∧ e = 11)

theorem OmU.uniq {A : Aut} {M : List (List Nat)} {N : List Nat} (hm : Mon A M N) {i x e x' e' : Int} (h : OmU A.k.toNat M.length N i x e) (g : OmU A.k.toNat M.length N i x' e') : x = x' ∧ e = e' := by
  rcases h with ⟨k, y, rfl, hk, rfl, rfl, h⟩ | ⟨h1, rfl, rfl⟩
  · rcases g with ⟨k', y', e, hk', rfl, rfl, g⟩ | ⟨g1, _, _⟩
    · obtain rfl : k = k' := by omega
      rw [hm.om_uniq hk h g]
      exact ⟨rfl, rfl⟩
    · exact absurd (hasE_yes hk) g1
  · rcases g with ⟨k', y', rfl, hk', rfl, rfl, g⟩ | ⟨g1, rfl, rfl⟩
    · exact absurd (hasE_yes hk') h1
    · exact ⟨rfl, rfl⟩

theorem omega_all {w : World} {ob : Nat} {A : Aut} {M : List (List Nat)} {N : List Nat} (h : MO w ob A M N) (i : Int) :
    Calls Try.prog 15 #[.pointer (some ⟨ob, 0, none⟩), .int .i64 i] w fun e w' => (∃ x z, e = .returned (.tuple #[.int .i64 x, .int .i64 z]) ∧ OmU A.k.toNat M.length N i x z) ∧ Below w.heap.size w w' := by
  by_cases hi : hasE M.length i = true
  · obtain ⟨k, rfl, hk⟩ := hasE_of hi
    refine (omega_any h k hk).mono ?_
    rintro e w' ⟨⟨x, rfl, hx⟩, hb⟩
    exact ⟨⟨_, _, rfl, .inl ⟨k, x, rfl, hk, rfl, rfl, hx⟩⟩, hb⟩
  · refine (omega_not h i hi).mono ?_
    rintro e w' ⟨rfl, hb⟩
    exact ⟨⟨_, _, rfl, .inr ⟨hi, rfl, rfl⟩⟩, hb⟩

theorem romega_all {w : World} {rb : Nat} {A : Aut} {M : List (List Nat)} {N : List Nat} (h : RF w rb A M N) (i : Int) :
    Calls Try.prog 16 #[.pointer (some ⟨rb, 0, none⟩), .int .i64 i] w fun e w' => (∃ x z, e = .returned (.tuple #[.int .i64 x, .int .i64 z]) ∧ OmU A.k.toNat M.length N i x z) ∧ Below w.heap.size w w' := by
  by_cases hi : hasE M.length i = true
  · obtain ⟨k, rfl, hk⟩ := hasE_of hi
    refine (romega_any h k hk).mono ?_
    rintro e w' ⟨⟨x, rfl, hx⟩, hb⟩
    exact ⟨⟨_, _, rfl, .inl ⟨k, x, rfl, hk, rfl, rfl, hx⟩⟩, hb⟩
  · refine (romega_not h i hi).mono ?_
    rintro e w' ⟨rfl, hb⟩
    exact ⟨⟨_, _, rfl, .inr ⟨hi, rfl, rfl⟩⟩, hb⟩

/-- What Cycle answers. -/
def CyU (K n : Nat) (N : List Nat) (i x y e : Int) : Prop := (∃ k t r : Nat, i = k ∧ k < n ∧ x = t ∧ y = r ∧ e = 0 ∧ TR (rm K N k) 0 t r) ∨ (¬ hasE n i = true ∧ x = 0 ∧ y = 0 ∧ e = 11)

theorem CyU.uniq {K n : Nat} {N : List Nat} {i x y e x' y' e' : Int} (h : CyU K n N i x y e) (g : CyU K n N i x' y' e') : x = x' ∧ y = y' ∧ e = e' := by
  rcases h with ⟨k, t, r, rfl, hk, rfl, rfl, rfl, h⟩ | ⟨h1, rfl, rfl, rfl⟩
  · rcases g with ⟨k', t', r', e, hk', rfl, rfl, rfl, g⟩ | ⟨g1, _, _, _⟩
    · obtain rfl : k = k' := by omega
      obtain ⟨rfl, rfl⟩ := h.uniq g
      exact ⟨rfl, rfl, rfl⟩
    · exact absurd (hasE_yes hk) g1
  · rcases g with ⟨k', t', r', rfl, hk', rfl, rfl, rfl, g⟩ | ⟨g1, rfl, rfl, rfl⟩
    · exact absurd (hasE_yes hk') h1
    · exact ⟨rfl, rfl, rfl⟩

theorem cycle_all {w : World} {ob : Nat} {A : Aut} {M : List (List Nat)} {N : List Nat} (h : MO w ob A M N) (i : Int) :
    Calls Try.prog 17 #[.pointer (some ⟨ob, 0, none⟩), .int .i64 i] w fun e w' => (∃ x y z, e = .returned (.tuple #[.int .i64 x, .int .i64 y, .int .i64 z]) ∧ CyU A.k.toNat M.length N i x y z) ∧ Below w.heap.size w w' := by
  by_cases hi : hasE M.length i = true
  · obtain ⟨k, rfl, hk⟩ := hasE_of hi
    refine (iCycle_any h k hk).mono ?_
    rintro e w' ⟨⟨t, r, rfl, hx⟩, hb⟩
    exact ⟨⟨_, _, _, rfl, .inl ⟨k, t, r, rfl, hk, rfl, rfl, rfl, hx⟩⟩, hb⟩
  · refine (iCycle_not h i hi).mono ?_
    rintro e w' ⟨rfl, hb⟩
    exact ⟨⟨_, _, _, rfl, .inr ⟨hi, rfl, rfl, rfl⟩⟩, hb⟩

theorem rcycle_all {w : World} {rb : Nat} {A : Aut} {M : List (List Nat)} {N : List Nat} (h : RF w rb A M N) (i : Int) :
    Calls Try.prog 18 #[.pointer (some ⟨rb, 0, none⟩), .int .i64 i] w fun e w' => (∃ x y z, e = .returned (.tuple #[.int .i64 x, .int .i64 y, .int .i64 z]) ∧ CyU A.k.toNat M.length N i x y z) ∧ Below w.heap.size w w' := by
  by_cases hi : hasE M.length i = true
  · obtain ⟨k, rfl, hk⟩ := hasE_of hi
    refine (rcycle_any h k hk).mono ?_
    rintro e w' ⟨⟨t, r, rfl, hx⟩, hb⟩
    exact ⟨⟨_, _, _, rfl, .inl ⟨k, t, r, rfl, hk, rfl, rfl, rfl, hx⟩⟩, hb⟩
  · refine (rcycle_not h i hi).mono ?_
    rintro e w' ⟨rfl, hb⟩
    exact ⟨⟨_, _, _, rfl, .inr ⟨hi, rfl, rfl, rfl⟩⟩, hb⟩

/-- Two lists of the same elements are the same. -/
theorem isameN {w : World} {b1 b2 : Nat} {L : List Nat} {a1 a2 : Option Addr} {c1 c2 : Nat} (h1 : OwnN w b1 (.slice a1 L.length c1) L) (h2 : OwnN w b2 (.slice a2 L.length c2) L) (hm : L.length ≤ 512) :
    Calls Try.prog 23 #[.slice a1 L.length c1, .slice a2 L.length c2] w fun e w' => e = .returned (.bool true) ∧ Below w.heap.size w w' := by
  have g1 := own_sr h1
  have g2 := own_sr h2
  rw [nC_zC] at g1 g2
  have := isame_any a1 a2 c1 c2 (L.map fun (n : Nat) => (n : Int)) w g1 g2 (by rw [List.length_map]; omega)
  rw [List.length_map] at this
  exact this

def pk2 {α : Type} (x y : α) : Nat → α := fun j => if j = 0 then x else y

theorem two' {P : Nat → Prop} (h0 : P 0) (h1 : P 1) : ∀ j, j < 2 → P j := fun j hj => by
  have : j = 0 ∨ j = 1 := by omega
  rcases this with rfl | rfl
  · exact h0
  · exact h1

/-- Two lists that lie apart stay apart. -/
theorem apartN {y : World} {B b1 b2 : Nat} {L1 L2 : List Nat} {a1 a2 : Option Addr} {c1 c2 : Nat} (h1 : OwnN y b1 (.slice a1 L1.length c1) L1) (h2 : OwnN y b2 (.slice a2 L2.length c2) L2) (hd : ∀ b, (Value.slice a1 L1.length c1).ownBlock = some b → (Value.slice a2 L2.length c2).ownBlock ≠ some b) (k1 : B ≤ b1) (k2 : B ≤ b2) (kB : B ≤ y.heap.size) (m1 : L1.length ≤ 512) (m2 : L2.length ≤ 512) :
    Calls Try.prog 24 #[.slice (some ⟨y.heap.size, 0, none⟩) 2 2] (y.alloc (.cells #[.slice a1 L1.length c1, .slice a2 L2.length c2] 23)) fun e w' => e = .returned (.bool true) ∧ Below B (y.alloc (.cells #[.slice a1 L1.length c1, .slice a2 L2.length c2] 23)) w' := by
  refine apart_any B y.heap.size (pk2 a1 a2) (pk2 L1.length L2.length) (pk2 c1 c2) (pk2 (nC L1) (nC L2)) _ (heap_last y _) (two' ?_ ?_) (two' ?_ ?_) (two' ?_ ?_) ?_ (by simp; omega)
  · exact own_mono (h1.alloc _) k1
  · exact own_mono (h2.alloc _) k2
  · show L1.length ≤ _; omega
  · show L2.length ≤ _; omega
  · show (nC L1).length = L1.length; unfold nC; rw [List.length_map]
  · show (nC L2).length = L2.length; unfold nC; rw [List.length_map]
  · intro j j' hj hj' hne b hb
    have e1 : j = 0 ∨ j = 1 := by omega
    have e2 : j' = 0 ∨ j' = 1 := by omega
    rcases e1 with rfl | rfl <;> rcases e2 with rfl | rfl
    · omega
    · exact hd b hb
    · exact fun q => hd b q hb
    · omega

end Go.Proofs.Ytafcejipoioigaa

namespace Go.Proofs.Ytafcejipoioigaa
open Go Go.RowKit Go.Lib Go.Maps
set_option linter.unusedVariables false
attribute [-instance] List.instBEq instBEqProd

theorem pA_list : thL 6 (idE 2 pN) = [0, 3, 4, 5] := by decide +kernel

theorem pA_om {x : Nat} (h : OmQ 2 pN 1 x) : x = 3 := by
  have hm : Mon pA pM pN := mon_of pA_good (by decide) pA_el
  have h3 : OmQ pA.k.toNat pN 1 3 := ⟨2, by decide, by decide +kernel, by decide +kernel⟩
  exact hm.om_uniq (by decide) h h3

set_option maxHeartbeats 2000000 in
set_option maxRecDepth 100000 in
theorem live16_any (w : World) : Calls Try.prog 10 #[] w fun e w' => e = .returned (.bool true) ∧ Below w.heap.size w w' := by
  go_enter Try.func10, Try.ntmps10
  go_wp2_with fail
  refine (plain_any w).mono ?_
  rintro e w1 ⟨v, rfl, hAR, hB1⟩
  have HB1 : Hid (Below w.heap.size w w1) := hB1
  have HAR : Hid (AR w1 v pA) := hAR
  clear hB1 hAR
  go_wp2_with fail
  refine (build_any v pA w1 HAR.out pA_good (by decide)).mono ?_
  rintro e w2 (⟨hno, _⟩ | ⟨ob, M, N, rfl, hE, hMO, hB2⟩)
  · rw [pA_el] at hno
    cases hno
  rw [pA_el] at hE
  simp only [Option.some.injEq, Prod.mk.injEq] at hE
  obtain ⟨rfl, rfl⟩ := hE
  have HM : Hid (MO w2 ob pA pM pN) := hMO
  have HB2 : Hid (Below w.heap.size w w2) := go_on HB1.out hB2
  clear hMO hB2
  go_wp2_with fail
  refine (iList_any HM.out).mono ?_
  rintro e w3 ⟨l, rfl, hl, hB3⟩
  have el : thL pM.length (idE pA.k.toNat pN) = [0, 3, 4, 5] := pA_list
  rw [el] at hl
  obtain ⟨la, lc, rfl⟩ := own_shape hl
  have HL : Hid (SR w3 la (zC [0, 3, 4, 5])) := by
    show SR _ _ _
    have := own_sr hl
    rw [nC_zC] at this
    exact this
  have HM3 : Hid (MO w3 ob pA pM pN) := HM.out.below hB3
  have HB3 : Hid (Below w.heap.size w w3) := go_on HB2.out hB3
  clear hB3 hl el
  go_wp2_with fail
  refine (omega_any HM3.out 1 (by decide)).mono ?_
  rintro e w4 ⟨⟨x, rfl, hx⟩, hB4⟩
  obtain rfl := pA_om hx
  have HB4 : Hid (Below w.heap.size w w4) := go_on HB3.out hB4
  have HL4 : Hid (SR w4 la (zC [0, 3, 4, 5])) := HL.out.stay hB4
  clear hB4 hx
  have HSM : Hid (Calls Try.prog 23 #[.slice la 4 lc, .slice (some ⟨w4.heap.size, 0, none⟩) 4 4] (w4.alloc (.cells #[.int .i64 0, .int .i64 3, .int .i64 4, .int .i64 5] 3)) fun e w' => e = .returned (.bool true) ∧ Below (w4.alloc (.cells #[.int .i64 0, .int .i64 3, .int .i64 4, .int .i64 5] 3)).heap.size (w4.alloc (.cells #[.int .i64 0, .int .i64 3, .int .i64 4, .int .i64 5] 3)) w') :=
    isame_any la _ lc 4 [0, 3, 4, 5] _ (HL4.out.stay (below_new _ _)) (sr_newZ w4 [0, 3, 4, 5] 3) (by decide)
  go_wp2_with (first | (go_at_call 21; refine (num16_any _ _).mono ?_; rintro e yn ⟨rfl, hyn⟩; subst yn) | (go_at_call 23; refine HSM.out.mono ?_; rintro e w5 ⟨rfl, hB5⟩; have HB5 : Hid (Below w.heap.size w w5) := go_on (go_on HB4.out (below_new _ _)) hB5; clear hB5 HSM))
  go_ret
  exact ⟨rfl, HB5.out⟩

set_option maxHeartbeats 4000000 in
set_option maxRecDepth 100000 in
theorem none16_no (p : Option Addr) (w : World) (h : NoM w (.pointer p)) : Calls Try.prog 9 #[.pointer p] w fun e w' => e = .returned (.bool true) ∧ Below w.heap.size w w' := by
  have HX0 : Hid (NoM w (.pointer p)) := h
  have HB0 : Hid (Below w.heap.size w w) := Below.refl _ _
  clear h
  go_enter Try.func9, Try.ntmps9
  go_wp2_with fail
  refine (iIdempotent_no p w HX0.out).mono ?_
  rintro e w1 ⟨rfl, hb⟩
  have HB1 : Hid (Below w.heap.size w w1) := go_on HB0.out hb
  have HX1 : Hid (NoM w1 (.pointer p)) := HX0.out.below hb
  clear hb
  go_wp2_with fail
  refine (iList_no p w1 HX1.out).mono ?_
  rintro e w2 ⟨rfl, hb⟩
  have HB2 : Hid (Below w.heap.size w w2) := go_on HB1.out hb
  have HX2 : Hid (NoM w2 (.pointer p)) := HX1.out.below hb
  clear hb
  go_wp2_with fail
  refine (iOmega_no p w2 HX2.out).mono ?_
  rintro e w3 ⟨rfl, hb⟩
  have HB3 : Hid (Below w.heap.size w w3) := go_on HB2.out hb
  have HX3 : Hid (NoM w3 (.pointer p)) := HX2.out.below hb
  clear hb
  go_wp2_with fail
  refine (iCycle_no p w3 HX3.out).mono ?_
  rintro e w4 ⟨rfl, hb⟩
  have HB4 : Hid (Below w.heap.size w w4) := go_on HB3.out hb
  have HX4 : Hid (NoM w4 (.pointer p)) := HX3.out.below hb
  clear hb
  go_wp2_with fail
  refine (iExponent_no p w4 HX4.out).mono ?_
  rintro e w5 ⟨rfl, hb⟩
  have HB5 : Hid (Below w.heap.size w w5) := go_on HB4.out hb
  have HX5 : Hid (NoM w5 (.pointer p)) := HX4.out.below hb
  clear hb
  go_wp2_with fail
  refine (iRegular_no p w5 HX5.out).mono ?_
  rintro e w6 ⟨rfl, hb⟩
  have HB6 : Hid (Below w.heap.size w w6) := go_on HB5.out hb
  have HX6 : Hid (NoM w6 (.pointer p)) := HX5.out.below hb
  clear hb
  go_wp2_with fail
  refine (iInverses_no p w6 HX6.out).mono ?_
  rintro e w7 ⟨rfl, hb⟩
  have HB7 : Hid (Below w.heap.size w w7) := go_on HB6.out hb
  have HX7 : Hid (NoM w7 (.pointer p)) := HX6.out.below hb
  clear hb
  go_wp2_with fail
  refine (iBelow_no p w7 HX7.out).mono ?_
  rintro e w8 ⟨rfl, hb⟩
  have HB8 : Hid (Below w.heap.size w w8) := go_on HB7.out hb
  have HX8 : Hid (NoM w8 (.pointer p)) := HX7.out.below hb
  clear hb
  go_wp2_with fail
  refine (iBetween_no p w8 HX8.out).mono ?_
  rintro e w9 ⟨rfl, hb⟩
  have HB9 : Hid (Below w.heap.size w w9) := go_on HB8.out hb
  have HX9 : Hid (NoM w9 (.pointer p)) := HX8.out.below hb
  clear hb
  obtain ⟨v, hv⟩ : ∃ v, v = w9.alloc (.cells #[.int .i64 1, .int .i64 1, .int .i64 1, .int .i64 1, .int .i64 1, .int .i64 1, .int .i64 1, .int .i64 1, .int .i64 1] 41) := ⟨_, rfl⟩
  have HV : Hid (v = w9.alloc (.cells #[.int .i64 1, .int .i64 1, .int .i64 1, .int .i64 1, .int .i64 1, .int .i64 1, .int .i64 1, .int .i64 1, .int .i64 1] 41)) := hv
  have HL : Hid (v.heap[w9.heap.size]? = some (.cells #[.int .i64 1, .int .i64 1, .int .i64 1, .int .i64 1, .int .i64 1, .int .i64 1, .int .i64 1, .int .i64 1, .int .i64 1] 41 (0, 0))) := by show _ = _; rw [hv]; exact heap_last _ _
  have HB : Hid (Below w.heap.size w v) := by show Below _ _ _; rw [hv]; exact go_on HB9.out (below_new _ _)
  clear hv
  go_wp2_with fail
  rw [← HV.out]
  go_loopw [23] (fun vi wr => ∃ i : Nat, vi = .int .i64 i ∧ i ≤ 9 ∧ wr = v) (fun vi _ => 9 - (Go.Lib.intOf vi).toNat)
  case atStart => exact ⟨0, rfl, by omega, rfl⟩
  case round =>
    obtain ⟨i, rfl, hi8, rfl⟩ := hrel
    by_cases hi : i < 9
    · have hiI : (i : Int) < 9 := by omega
      have hc : wr.cell? ⟨w9.heap.size, i, none⟩ = some (.int .i64 1) := by
        rw [cell_of_row _ _ _ _ _ _ HL.out]
        have : i = 0 ∨ i = 1 ∨ i = 2 ∨ i = 3 ∨ i = 4 ∨ i = 5 ∨ i = 6 ∨ i = 7 ∨ i = 8 := by omega
        rcases this with rfl | rfl | rfl | rfl | rfl | rfl | rfl | rfl | rfl <;> rfl
      go_wp2_with fail
      refine (num16_any 1 wr).mono ?_
      rintro e wq ⟨rfl, rfl⟩
      go_wp2_with fail
      go_roundw
      case rel => exact ⟨i + 1, by go_num, by omega, by trivial⟩
      case measure => simp [Go.Lib.intOf]; omega
    · have hiI : ¬ (i : Int) < 9 := by omega
      go_wp2_with fail
      go_ret
      exact ⟨rfl, HB.out⟩

end Go.Proofs.Ytafcejipoioigaa
