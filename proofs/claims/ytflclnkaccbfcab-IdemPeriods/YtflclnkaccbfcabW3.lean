/- E48 E49, in one text. -/
import Derived.Test.YtflclnkaccbfcabW2
import Derived.RangeFuncCalls
import Derived.RegionIn
namespace Go.Proofs.Ytflclnkaccbfcab
open Go Go.RowKit Go.Shelf Go.Lib
set_option linter.unusedVariables false
attribute [-instance] List.instBEq instBEqProd

attribute [local go_sem] Oper.semAt_some

set_option maxHeartbeats 1000000 in
set_option maxRecDepth 100000 in
theorem omega_not {w : World} {ob : Nat} {A : Aut} {M : List (List Nat)} {N : List Nat} (h : MO w ob A M N) (i : Int) (hi : ¬ hasE M.length i = true) :
    Calls Try.prog 19 #[.pointer (some ⟨ob, 0, none⟩), .int .i64 i] w fun e w' => e = .returned (.tuple #[.int .i64 0, .int .i64 11]) ∧ Below w.heap.size w w' := by
  obtain ⟨w0, hw0⟩ : ∃ w0, w0 = w.alloc (.cells #[.pointer (some ⟨ob, 0, none⟩)] 26) := ⟨_, rfl⟩
  have HB0 : Hid (Below w.heap.size w w0) := by show Below _ _ _; rw [hw0]; exact below_new _ _
  have HM : Hid (MO w0 ob A M N) := h.below HB0.out
  have HW0 : Hid (w0 = w.alloc (.cells #[.pointer (some ⟨ob, 0, none⟩)] 26)) := hw0
  have HC0 : Hid (w0.cell? ⟨w.heap.size, 0, none⟩ = some (.pointer (some ⟨ob, 0, none⟩))) := by show _ = _; rw [hw0, cell_of_row _ _ _ _ _ _ (heap_last w _)]; rfl
  have HZ0 : Hid (w0.heap.size = w.heap.size + 1) := by show _ = _; rw [hw0]; simp
  have HC : Hid _ := icheck_one HM.out i
  rw [if_neg hi, HZ0.out] at HC
  have HB1 : Hid (Below w.heap.size w (w0.alloc (.cells #[.int .i64 i] 3))) := go_on HB0.out (below_new _ _)
  clear h hw0 hi
  go_enter Try.func19, Try.ntmps19
  go_wp2_with fail
  rw [← HW0.out]
  refine Calls.mono HC.out ?_
  rintro e w1 ⟨rfl, rfl⟩
  go_wp2_with fail
  go_ret2
  exact ⟨rfl, HB1.out⟩

theorem frz_at {w : World} {b o : Nat} {cs : Array Value} {t : TypeId} (h : w.heap[b]? = some (.cells cs t (0, 0))) : w.frozen? ⟨b, o, none⟩ = false := by
  simp [World.frozen?, h]

theorem KS.grown {S : Nat → Prop} {W W1 W2 : World} {row : Option Nat} (h : KS S W W1) (hg : W1.grownBy W2 row) (hr : ∀ k, row = some k → ¬ S k) (hl : ∀ b, S b → b < W1.heap.size) : KS S W W2 :=
  ⟨hg.os.trans h.os, hg.tape.trans h.tape, hg.output.trans h.output, Nat.le_trans h.size hg.size, fun b hb => (hg.block b (hl b hb) (fun e => hr b e.symm hb)).trans (h.block b hb)⟩

theorem KS.set {S : Nat → Prop} {W W1 : World} {m o : Nat} {v : Value} (h : KS S W W1) (hp : ¬ S m) : KS S W (W1.setCell ⟨m, o, none⟩ v) :=
  ⟨h.os, h.tape, h.output, by simpa [World.setCell] using h.size, fun b hb => (heap_set_other (fun e => by subst e; exact hp hb)).trans (h.block b hb)⟩

theorem KS.base {S : Nat → Prop} {w U W : World} (h : KS S U W) (hb : Below w.heap.size w U) (hS : ∀ b, b < w.heap.size → S b) : Below w.heap.size w W :=
  ⟨h.os.trans hb.os, h.tape.trans hb.tape, h.output.trans hb.output, Nat.le_trans hb.size h.size, fun b hlt => (h.block b (hS b hlt)).trans (hb.block b hlt)⟩

set_option maxRecDepth 100000 in
set_option maxHeartbeats 4000000 in
theorem omega_in (n : Nat) (hn : 3 ≤ n) {w : World} {ob : Nat} {A : Aut} {M : List (List Nat)} {N : List Nat} (h : MO w ob A M N) (i : Nat) (hi : i < M.length) :
    CallsIn Fence.wide n Try.prog 19 #[.pointer (some ⟨ob, 0, none⟩), .int .i64 i] w fun e w' => (∃ x, e = .returned (.tuple #[.int .i64 (x : Nat), .int .i64 0]) ∧ OmQ A.k.toNat N i x) ∧ Below w.heap.size w w' := by
  have h1 : 1 ≤ n := by omega
  obtain ⟨w0, hw0⟩ : ∃ w0, w0 = w.alloc (.cells #[.pointer (some ⟨ob, 0, none⟩)] 26) := ⟨_, rfl⟩
  have HB0 : Hid (Below w.heap.size w w0) := by show Below _ _ _; rw [hw0]; exact below_new _ _
  have HM0 : Hid (MO w ob A M N) := h
  have HM : Hid (MO w0 ob A M N) := h.below HB0.out
  have HMon : Hid (Mon A M N) := h.mon
  have HW0 : Hid (w0 = w.alloc (.cells #[.pointer (some ⟨ob, 0, none⟩)] 26)) := hw0
  have HC0 : Hid (w0.cell? ⟨w.heap.size, 0, none⟩ = some (.pointer (some ⟨ob, 0, none⟩))) := by show _ = _; rw [hw0, cell_of_row _ _ _ _ _ _ (heap_last w _)]; rfl
  have HZ0 : Hid (w0.heap.size = w.heap.size + 1) := by show _ = _; rw [hw0]; simp
  have HC : Hid _ := icheck_one HM.out i
  rw [if_pos (show hasE M.length (i : Int) = true from decide_eq_true ⟨by omega, by omega⟩), HZ0.out] at HC
  have HB1 : Hid (Below w.heap.size w (w0.alloc (.cells #[.int .i64 i] 3))) := go_on HB0.out (below_new _ _)
  clear h hw0
  refine callsIn_of_wp_marks Try.func19 rfl trivial ?_ rfl
  simp only [Try.ntmps19, List.size_toArray, List.length_cons, List.length_nil, Nat.reduceAdd, Nat.reduceSub, Array.replicate_succ, Array.replicate_zero, List.push_toArray, List.append_toArray, List.nil_append, List.cons_append]
  gi_wp2
  rw [← HW0.out]
  refine ⟨trivial, ?_⟩
  refine (callsIn_wide.2 HC.out).mono ?_
  rintro e w1 ⟨rfl, rfl⟩
  obtain ⟨w1, hw1⟩ : ∃ w1, w1 = w0.alloc (.cells #[.int .i64 (i : Int)] 3) := ⟨_, rfl⟩
  rw [← hw1] at HB1 ⊢
  have hz1 : w1.heap.size = w.heap.size + 2 := by rw [hw1, World.size_alloc, HZ0.out]
  have hc1 : w1.cell? ⟨w.heap.size, 0, none⟩ = some (.pointer (some ⟨ob, 0, none⟩)) := by rw [hw1, below_cellJ (below_new w0 _) (by rw [HZ0.out]; omega)]; exact HC0.out
  have hcA : (w1.alloc (.cells #[.int .i64 0] 3)).cell? ⟨w.heap.size, 0, none⟩ = some (.pointer (some ⟨ob, 0, none⟩)) := by rw [below_cellJ (below_new w1 _) (by rw [hz1]; omega)]; exact hc1
  have HZ1 : Hid (w1.heap.size = w.heap.size + 2) := hz1
  have HC1 : Hid (w1.cell? ⟨w.heap.size, 0, none⟩ = some (.pointer (some ⟨ob, 0, none⟩))) := hc1
  clear hw1 hz1 hc1
  gi_wp2
  refine ⟨trivial, ?_⟩
  refine (callsIn_wide.2 (powers_any _ _ _)).mono ?_
  rintro e w3 ⟨rfl, rfl⟩
  clear hcA
  gi_wp2
  obtain ⟨q, hq⟩ : ∃ q, w1.heap.size = q := ⟨_, rfl⟩
  have hz1 := HZ1.out
  obtain ⟨U, hU⟩ : ∃ U, U = ((w1.alloc (.cells #[.int .i64 0] 3)).alloc (.cells #[.pointer (some ⟨ob, 0, none⟩)] 26)).alloc (.cells #[.int .i64 (i : Int)] 3) := ⟨_, rfl⟩
  have hUs : U.heap.size = q + 3 := by rw [hU]; simp [hq]
  have hBU : Below w.heap.size w U := by
    rw [hU]
    exact go_on (go_on (go_on HB1.out (below_new _ _)) (below_new _ _)) (below_new _ _)
  have HU0 : Hid (U.heap[q]? = some (.cells #[.int .i64 0] 3 (0, 0))) := by
    show _ = _
    rw [hU, heap_allo (by simp; omega), heap_allo (by simp; omega), ← hq]
    exact heap_last _ _
  have HU1 : Hid (U.cell? ⟨q + 1, 0, none⟩ = some (.pointer (some ⟨ob, 0, none⟩))) := by
    show _ = _
    have e : U.heap[q + 1]? = some (.cells #[.pointer (some ⟨ob, 0, none⟩)] 26 (0, 0)) := by
      rw [hU, heap_allo (by simp; omega)]
      have := heap_last (w1.alloc (.cells #[.int .i64 0] 3)) (.cells #[.pointer (some ⟨ob, 0, none⟩)] 26)
      rwa [World.size_alloc, hq] at this
    exact cell_at e rfl
  have HU2 : Hid (U.cell? ⟨q + 2, 0, none⟩ = some (.int .i64 (i : Nat))) := by
    show _ = _
    have e : U.heap[q + 2]? = some (.cells #[.int .i64 (i : Nat)] 3 (0, 0)) := by
      rw [hU]
      have := heap_last ((w1.alloc (.cells #[.int .i64 0] 3)).alloc (.cells #[.pointer (some ⟨ob, 0, none⟩)] 26)) (.cells #[.int .i64 (i : Int)] 3)
      rwa [World.size_alloc, World.size_alloc, hq] at this
    exact cell_at e rfl
  have HU3 : Hid (U.cell? ⟨w.heap.size, 0, none⟩ = some (.pointer (some ⟨ob, 0, none⟩))) := by
    show _ = _
    have hb : Below w1.heap.size w1 U := by rw [hU]; exact go_on (go_on (below_new _ _) (below_new _ _)) (below_new _ _)
    rw [below_cellJ hb (by omega)]
    exact HC1.out
  have HBU : Hid (Below w.heap.size w U) := hBU
  rw [← hU]
  rw [hq]
  have hwq : w.heap.size + 2 = q := by omega
  clear hU hBU hz1 hq HZ1 HC1 HB1 HC HC0 HW0 HM HZ0
  refine rangeFunc_brk rfl h1 (gf := 53) (lb := #[.pointer (some ⟨q + 1, 0, none⟩), .pointer (some ⟨q + 2, 0, none⟩)]) rfl trivial (enters_of Try.func53 (by kernel_rfl) rfl)
    (val := pwV A.k.toNat N i) (S := fun b => b < q + 3 ∧ b ≠ q) (N := M.length + 1) (w0 := U) (fun b hb => by omega)
    (powers_at (n - 1) (by omega) (q + 1) (q + 2) ob i A M N _ U (fun W hk => HM0.out.below (hk.base HBU.out (fun b hb => ⟨by omega, by omega⟩))) hi HU1.out HU2.out ⟨by omega, by omega⟩ ⟨by omega, by omega⟩ (fun b hb => by omega)) (KS.refl _ _) (fun _ => rfl) 0
    (fun j W => KS (fun b => b < q + 3 ∧ b ≠ q) U W ∧ W.heap[q]? = some (.cells #[.int .i64 0] 3 (0, 0)) ∧ ∀ k, 1 ≤ k → k < j → ¬ pr A.k.toNat N (pwN A.k.toNat N i k) (pwN A.k.toNat N i k) = pwN A.k.toNat N i k)
    (fun _ W => KS (fun b => b < q + 3 ∧ b ≠ q) U W ∧ ∃ x : Nat, W.heap[q]? = some (.cells #[.int .i64 (x : Int)] 3 (0, 0)) ∧ OmQ A.k.toNat N i x)
    ?own1 ?own2 ?bel ?start (fun j a' W => (KS (fun b => b < q + 3 ∧ b ≠ q) U W ∧ W.heap[q]? = some (.cells #[.int .i64 0] 3 (0, 0)) ∧ ∀ k, 1 ≤ k → k < j → ¬ pr A.k.toNat N (pwN A.k.toNat N i k) (pwN A.k.toNat N i k) = pwN A.k.toNat N i k) ∧ a' = { tmps := #[.pointer (some ⟨ob, 0, none⟩), .int .i64 (i : Nat), .pointer (some ⟨w.heap.size, 0, none⟩), undef, .int .i64 0, .int .i64 0, .int .i64 0, .pointer (some ⟨q, 0, none⟩), .int .i64 (j : Nat), .int .i64 (pwN A.k.toNat N i j : Nat), .pointer (some ⟨ob, 0, none⟩), .int .i64 (i : Nat), .slice (some ⟨w.heap.size + 1, 0, none⟩) 1 1, .int .i64 0, .int .i64 0, .bool false, undef, .pointer (some ⟨ob, 0, none⟩), .int .i64 (i : Nat), .func (.func 53) #[] #[.pointer (some ⟨q + 1, 0, none⟩), .pointer (some ⟨q + 1 + 1, 0, none⟩)], .int .i64 (j : Nat), .int .i64 (pwN A.k.toNat N i j : Nat), undef, undef, undef, undef, undef, undef, undef, undef, undef], defers := [] }) ?own3 ?assign ?body ?done ?stop
  case own1 =>
    rintro j W W' row ⟨hk, hb, hno⟩ hg hr
    have hz := hk.size
    refine ⟨hk.grown hg (fun k e => by have := (hr k e).1; omega) (fun b hb => by omega), ?_, hno⟩
    rw [hg.block q (by omega) (fun e => by have := (hr q e.symm).1; omega)]
    exact hb
  case own2 =>
    rintro j W W' row ⟨hk, x, hb, hx⟩ hg hr
    have hz := hk.size
    refine ⟨hk.grown hg (fun k e => by have := (hr k e).1; omega) (fun b hb => by omega), x, ?_, hx⟩
    rw [hg.block q (by omega) (fun e => by have := (hr q e.symm).1; omega)]
    exact hb
  case bel =>
    rintro j W1 W' hz ⟨hk, hb, hno⟩ hbl
    refine ⟨hk.trans (KS.below (fun b hb => by omega) hbl), ?_, hno⟩
    rw [hbl.block q (by omega)]
    exact hb
  case start => exact ⟨KS.refl _ _, HU0.out, fun k h1 h2 => by omega⟩
  case own3 =>
    rintro j a' _ W W' row ⟨⟨hk, hb, hno⟩, e⟩ hg hr
    have hz := hk.size
    refine ⟨⟨hk.grown hg (fun k e => by have := (hr k e).1; omega) (fun b hb => by omega), ?_, hno⟩, e⟩
    rw [hg.block q (by omega) (fun e => by have := (hr q e.symm).1; omega)]
    exact hb
  case assign =>
    intro l j W K hj hI hks hK
    have HK : Hid _ := hK
    have HI : Hid _ := hI
    unfold pwV
    clear hK hI hks hj
    gi_wp2
    exact HK.out _ _ ⟨Nat.le_refl _, fun k o _ hk ho => hk⟩ (KS.refl _ _) ⟨HI.out, rfl⟩
  case body =>
    rintro l j a' W hj ⟨⟨hk, hb, hno⟩, rfl⟩ hks
    have hz := hk.size
    have HK : Hid (KS (fun b => b < q + 3 ∧ b ≠ q) U W) := hk
    have HBX : Hid (W.heap[q]? = some (.cells #[.int .i64 0] 3 (0, 0))) := hb
    have HNO : Hid (∀ k, 1 ≤ k → k < j → ¬ pr A.k.toNat N (pwN A.k.toNat N i k) (pwN A.k.toNat N i k) = pwN A.k.toNat N i k) := hno
    have HMW : Hid (MO W ob A M N) := HM0.out.below (hk.base HBU.out (fun b hb => ⟨by omega, by omega⟩))
    have hc : W.cell? ⟨w.heap.size, 0, none⟩ = some (.pointer (some ⟨ob, 0, none⟩)) := by
      rw [World.cell?_of_block (a := ⟨w.heap.size, 0, none⟩) (hk.block w.heap.size ⟨by omega, by omega⟩)]; exact HU3.out
    have HLT : Hid (j < M.length + 1) := hj
    clear hk hb hno hks
    by_cases hj0 : j = 0
    · subst hj0
      gi_wp2
      refine ⟨trivial, ?_⟩
      gi_wp2
      refine ⟨⟨Nat.le_refl _, fun k o _ hk ho => hk⟩, KS.refl _ _, HK.out, HBX.out, fun k h1 h2 => by omega⟩
    · have hjI : (0 : Int) < (j : Int) := by omega
      have hjd : decide ((0 : Int) < (j : Int)) = true := decide_eq_true hjI
      obtain ⟨p, hp⟩ : ∃ p, pwN A.k.toNat N i j = p := ⟨_, rfl⟩
      have HP : Hid (pwN A.k.toNat N i j = p) := hp
      have hpl : p < M.length := by rw [← hp]; exact HMon.out.pw_lt hi j
      have HJ1 : Hid (1 ≤ j) := by show 1 ≤ j; omega
      rw [hp]
      clear hp
      gi_wp2
      refine ⟨trivial, fun _ => by omega, ?_⟩
      refine (CallsIn.inRound l (callsIn_wide.2 (isIdem_any HMW.out p hpl))).mono ?_
      rintro e W3 ⟨rfl, hb3⟩
      have HK3 : Hid (KS (fun b => b < q + 3 ∧ b ≠ q) W W3) := KS.below (fun b hb => by omega) hb3
      have HKF : Hid (KeepsFrom U.heap.size W W3) := ⟨hb3.size, fun k o _ hk ho => (hb3.block k (Array.getElem?_eq_some_iff.1 hk).1).trans hk⟩
      have HBX3 : Hid (W3.heap[q]? = some (.cells #[.int .i64 0] 3 (0, 0))) := by show _ = _; rw [hb3.block q (by omega)]; exact HBX.out
      clear hb3 hc
      by_cases hid : pr A.k.toNat N p p = p
      · have hE : idE A.k.toNat N p = true := decide_eq_true hid
        have HOM : Hid (OmQ A.k.toNat N i p) := ⟨j, HJ1.out, HP.out, hid⟩
        rw [hE]
        have hcq : W3.cell? ⟨q, 0, none⟩ = some (.int .i64 0) := cell_at HBX3.out rfl
        have hfq : W3.frozen? ⟨q, 0, none⟩ = false := frz_at HBX3.out
        clear hid hE
        gi_wp2
        refine ⟨rfl, ?_, ?_⟩
        · refine ⟨Nat.le_trans HKF.out.1 (by simp [World.setCell]), fun k o hk1 hk ho => ?_⟩
          rw [heap_set_other (fun e => by omega)]
          exact HKF.out.2 k o hk1 hk ho
        · exact ⟨(HK.out.trans HK3.out).set (by omega), p, heap_set HBX3.out, HOM.out⟩
      · have hE : idE A.k.toNat N p = false := decide_eq_false hid
        have HNI : Hid (¬ pr A.k.toNat N p p = p) := hid
        rw [hE]
        clear hid hE
        gi_wp2
        refine ⟨HKF.out, HK3.out, HK.out.trans HK3.out, HBX3.out, fun k h1 h2 => ?_⟩
        by_cases e : k = j
        · rw [e, HP.out]; exact HNI.out
        · exact HNO.out k h1 (by omega)
  case done =>
    rintro D W hD ⟨hk, hb, hno⟩ hK
    exfalso
    obtain ⟨m, m1, m2, m3⟩ := HMon.out.om_ex hi
    exact hno m m1 (by omega) m3
  case stop =>
    rintro D W hD ⟨hk, x, hb, hx⟩ hKD
    have hz := hk.size
    have HK : Hid (KS (fun b => b < q + 3 ∧ b ≠ q) U W) := hk
    have HX : Hid (OmQ A.k.toNat N i x) := hx
    have HKD : Hid (W.heap[D]? = some (.deferred (some []))) := hKD
    have hcq : W.cell? ⟨q, 0, none⟩ = some (.int .i64 (x : Int)) := cell_at hb rfl
    clear hk hb hx hKD
    gi_wp2
    refine ⟨by simp, .inl ⟨_, _, rfl, run_takeDeferred HKD.out, ?_⟩⟩
    refine ⟨_, results_tmp2 rfl _ _ _, ⟨x, rfl, HX.out⟩, ?_⟩
    exact (HK.out.base HBU.out (fun b hb => ⟨by omega, by omega⟩)).grown (grownBy_putObj' W D _) (by omega) (fun k e => by cases e; omega)

theorem omega_any {w : World} {ob : Nat} {A : Aut} {M : List (List Nat)} {N : List Nat} (h : MO w ob A M N) (i : Nat) (hi : i < M.length) :
    Calls Try.prog 19 #[.pointer (some ⟨ob, 0, none⟩), .int .i64 i] w fun e w' => (∃ x, e = .returned (.tuple #[.int .i64 (x : Nat), .int .i64 0]) ∧ OmQ A.k.toNat N i x) ∧ Below w.heap.size w w' :=
  callsIn_wide.1 (omega_in 3 (by omega) h i hi)
end Go.Proofs.Ytflclnkaccbfcab

namespace Go.Proofs.Ytflclnkaccbfcab
open Go Go.RowKit Go.Shelf Go.Lib
set_option linter.unusedVariables false
attribute [-instance] List.instBEq instBEqProd

attribute [local go_sem] Oper.semAt_some

/-- What met knows when j powers were gone through. -/
structure Met (K : Nat) (N : List Nat) (i n j : Nat) (cs : List Nat) : Prop where
  len : cs.length = n
  old : ∀ k, k < j → cs[pwN K N i k]? = some (k + 1)
  new : ∀ x v : Nat, cs[x]? = some v → v ≠ 0 → ∃ k, k < j ∧ pwN K N i k = x ∧ v = k + 1
  apart : ∀ a b, a < b → b < j → pwN K N i a ≠ pwN K N i b

theorem Met.start (K : Nat) (N : List Nat) (i n : Nat) : Met K N i n 0 (List.replicate n 0) :=
  ⟨by simp, fun k h => by omega, fun x v hx hv => (by
    rw [List.getElem?_replicate] at hx
    split at hx
    · injection hx with hx
      exact absurd hx.symm hv
    · exact absurd hx (by simp)), fun a b h1 h2 => by omega⟩

theorem Met.next {K : Nat} {N : List Nat} {i n j : Nat} {cs : List Nat} (h : Met K N i n j cs) (hp : pwN K N i j < n) (h0 : cs[pwN K N i j]? = some 0) : Met K N i n (j + 1) (cs.set (pwN K N i j) (j + 1)) := by
  have hne : ∀ k, k < j → pwN K N i k ≠ pwN K N i j := fun k hk e => by
    have := h.old k hk
    rw [e, h0] at this
    cases this
  refine ⟨by rw [List.length_set]; exact h.len, fun k hk => ?_, fun x v hx hv => ?_, fun a b hab hb => ?_⟩
  · rw [List.getElem?_set]
    by_cases e : k = j
    · subst e
      rw [if_pos rfl, if_pos (by rw [h.len]; exact hp)]
    · rw [if_neg (fun q => hne k (by omega) q.symm)]
      exact h.old k (by omega)
  · rw [List.getElem?_set] at hx
    split at hx
    · rename_i e
      split at hx
      · cases hx
        exact ⟨j, by omega, e, rfl⟩
      · cases hx
    · obtain ⟨k, k1, k2, k3⟩ := h.new x v hx hv
      exact ⟨k, by omega, k2, k3⟩
  · by_cases e : b = j
    · subst e
      exact hne a hab
    · exact h.apart a b hab (by omega)

theorem Met.found {K : Nat} {N : List Nat} {i n j : Nat} {cs : List Nat} (h : Met K N i n j cs) {v : Nat} (h0 : cs[pwN K N i j]? = some v) (hv : v ≠ 0) : v ≤ j ∧ 1 ≤ v ∧ TR (rm K N i) 0 (v - 1) (j - (v - 1)) := by
  obtain ⟨k, k1, k2, k3⟩ := h.new _ _ h0 hv
  subst k3
  refine ⟨by omega, by omega, ?_, ?_, by omega⟩
  · intro a b hab hb
    exact h.apart a b hab (by omega)
  · show pwN K N i _ = pwN K N i _
    rw [show k + 1 - 1 + (j - (k + 1 - 1)) = j by omega, show k + 1 - 1 = k by omega, k2]

theorem Met.done {A : Aut} {M : List (List Nat)} {N : List Nat} (hm : Mon A M N) {i : Nat} (hi : i < M.length) {cs : List Nat} (h : Met A.k.toNat N i M.length (M.length + 1) cs) : False := by
  have := nodup_le M.length ((List.range (M.length + 1)).map (pwN A.k.toNat N i)) (map_nodup (fun a b hab hb => h.apart a b hab hb)) (fun x hx => by
    obtain ⟨k, _, rfl⟩ := List.mem_map.1 hx
    exact hm.pw_lt hi k)
  simp at this
  omega

theorem made_nC (n : Nat) : madeCells #[Value.int .i64 0] n = (nC (List.replicate n 0)).toArray := by
  apply Array.ext'
  apply List.ext_getElem?
  intro j
  by_cases hj : j < n
  · simp [madeCells, nC, hj, Nat.mod_one]
  · simp [madeCells, nC, hj]

theorem results_int2 {fn : Func} {p r : Tmp} (h : fn.results = #[.cell p 3, .cell r 3]) {tmps : Array Value} {b c : Nat} {x y : Int} {w : World} (hp : tmps.getD p undef = .pointer (some ⟨b, 0, none⟩)) (hr : tmps.getD r undef = .pointer (some ⟨c, 0, none⟩)) (hb : w.cell? ⟨b, 0, none⟩ = some (.int .i64 x)) (hc : w.cell? ⟨c, 0, none⟩ = some (.int .i64 y)) :
    (results fn tmps).run Try.prog w = .ok (.tuple #[.int .i64 x, .int .i64 y]) w := by
  have hp' : tmps[p]?.getD undef = .pointer (some ⟨b, 0, none⟩) := by simpa using hp
  have hr' : tmps[r]?.getD undef = .pointer (some ⟨c, 0, none⟩) := by simpa using hr
  simp [results, h, go_sem, hp', hr', hb, hc, Result.andThen]

set_option maxRecDepth 100000 in
set_option maxHeartbeats 4000000 in
theorem cycle_in (n : Nat) (hn : 3 ≤ n) {w : World} {ob : Nat} {A : Aut} {M : List (List Nat)} {N : List Nat} (h : MO w ob A M N) (i : Nat) (hi : i < M.length) :
    CallsIn Fence.wide n Try.prog 22 #[.pointer (some ⟨ob, 0, none⟩), .int .i64 i] w fun e w' => (∃ t r : Nat, e = .returned (.tuple #[.int .i64 (t : Nat), .int .i64 (r : Nat)]) ∧ TR (rm A.k.toNat N i) 0 t r) ∧ Below w.heap.size w w' := by
  have h1 : 1 ≤ n := by omega
  have HM0 : Hid (MO w ob A M N) := h
  have HMon : Hid (Mon A M N) := h.mon
  obtain ⟨i0, hi0, hz0, hz1, hz2⟩ := info_parts Try.info_int
  have hms := h.mon.most
  obtain ⟨m, hm⟩ : ∃ m, M.length = m := ⟨_, rfl⟩
  rw [hm] at hms hi
  have hmk := fun w0 => run_make (P := Try.prog) w0 22 3 i0 (.int .i64 0) Try.underlying22 hi0 hz0 .i64 .i64 (m : Int) (m : Int) (by omega) (by omega) (by rw [hz2]; omega) (by omega)
  rw [hz1] at hmk
  simp only [Nat.mul_one] at hmk
  have HMM : Hid (M.length = m) := hm
  obtain ⟨w2, hw2⟩ : ∃ w2, w2 = (w.alloc (.cells #[.int .i64 0] 3)).alloc (.cells #[.int .i64 0] 3) := ⟨_, rfl⟩
  have HB2 : Hid (Below w.heap.size w w2) := by show Below _ _ _; rw [hw2]; exact go_on (below_new _ _) (below_new _ _)
  have HW2 : Hid (w2 = (w.alloc (.cells #[.int .i64 0] 3)).alloc (.cells #[.int .i64 0] 3)) := hw2
  have HLN : Hid (Calls Try.prog 6 #[.pointer (some ⟨ob, 0, none⟩)] w2 fun e w' => e = .returned (.int .i64 (m : Nat)) ∧ w2 = w') := by
    have := mlen_any (h.below HB2.out)
    rw [hm] at this
    exact this
  clear h hw2 hm
  refine callsIn_of_wp_marks Try.func22 rfl trivial ?_ rfl
  simp only [Try.ntmps22, List.size_toArray, List.length_cons, List.length_nil, Nat.reduceAdd, Nat.reduceSub, Array.replicate_succ, Array.replicate_zero, List.push_toArray, List.append_toArray, List.nil_append, List.cons_append]
  gi_wp2
  rw [← HW2.out]
  refine ⟨trivial, ?_⟩
  refine (callsIn_wide.2 HLN.out).mono ?_
  rintro e w1 ⟨rfl, rfl⟩
  gi_wp2
  refine ⟨trivial, ?_⟩
  refine (callsIn_wide.2 (powers_any _ _ _)).mono ?_
  rintro e w3 ⟨rfl, rfl⟩
  clear hmk
  gi_wp2
  obtain ⟨q, hq⟩ : ∃ q, w2.heap.size = q := ⟨_, rfl⟩
  have hqw1 : q ≤ w.heap.size + 2 := by rw [← hq, HW2.out]; simp
  have hqw2 : w.heap.size + 2 ≤ q := by rw [← hq, HW2.out]; simp
  obtain ⟨U, hU⟩ : ∃ U, U = (((w2.alloc (.cells (madeCells #[.int .i64 0] m) 3)).alloc (.cells #[.slice (some ⟨w2.heap.size, 0, none⟩) m m] 22)).alloc (.cells #[.pointer (some ⟨ob, 0, none⟩)] 26)).alloc (.cells #[.int .i64 (i : Int)] 3) := ⟨_, rfl⟩
  have hUs : U.heap.size = q + 4 := by rw [hU]; simp [hq]
  have hB2U : Below w2.heap.size w2 U := by
    rw [hU]
    exact go_on (go_on (go_on (below_new _ _) (below_new _ _)) (below_new _ _)) (below_new _ _)
  have HBU : Hid (Below w.heap.size w U) := go_on HB2.out hB2U
  have HUa : Hid (U.heap[w.heap.size]? = some (.cells #[.int .i64 0] 3 (0, 0))) := by
    show _ = _
    rw [hB2U.block _ (by omega), HW2.out, heap_allo (by simp)]
    exact heap_last _ _
  have HUb : Hid (U.heap[w.heap.size + 1]? = some (.cells #[.int .i64 0] 3 (0, 0))) := by
    show _ = _
    rw [hB2U.block _ (by omega), HW2.out]
    have := heap_last (w.alloc (.cells #[.int .i64 0] 3)) (.cells #[.int .i64 0] 3)
    rwa [World.size_alloc] at this
  have HU0 : Hid (U.heap[q]? = some (.cells (nC (List.replicate m 0)).toArray 3 (0, 0))) := by
    show _ = _
    rw [hU, heap_allo (by simp <;> omega), heap_allo (by simp <;> omega), heap_allo (by simp <;> omega), ← hq, ← made_nC]
    exact heap_last _ _
  have HU1 : Hid (U.cell? ⟨q + 1, 0, none⟩ = some (.slice (some ⟨q, 0, none⟩) m m)) := by
    show _ = _
    have e : U.heap[q + 1]? = some (.cells #[.slice (some ⟨q, 0, none⟩) m m] 22 (0, 0)) := by
      subst hq
      rw [hU, heap_allo (by simp <;> omega), heap_allo (by simp <;> omega)]
      have := heap_last (w2.alloc (.cells (madeCells #[.int .i64 0] m) 3)) (.cells #[.slice (some ⟨w2.heap.size, 0, none⟩) m m] 22)
      rwa [World.size_alloc] at this
    exact cell_at e rfl
  have HU2 : Hid (U.cell? ⟨q + 1 + 1, 0, none⟩ = some (.pointer (some ⟨ob, 0, none⟩))) := by
    show _ = _
    have e : U.heap[q + 1 + 1]? = some (.cells #[.pointer (some ⟨ob, 0, none⟩)] 26 (0, 0)) := by
      subst hq
      rw [hU, heap_allo (by simp <;> omega)]
      have := heap_last ((w2.alloc (.cells (madeCells #[.int .i64 0] m) 3)).alloc (.cells #[.slice (some ⟨w2.heap.size, 0, none⟩) m m] 22)) (.cells #[.pointer (some ⟨ob, 0, none⟩)] 26)
      rwa [World.size_alloc, World.size_alloc] at this
    exact cell_at e rfl
  have HU3 : Hid (U.cell? ⟨q + 1 + 1 + 1, 0, none⟩ = some (.int .i64 (i : Nat))) := by
    show _ = _
    have e : U.heap[q + 1 + 1 + 1]? = some (.cells #[.int .i64 (i : Nat)] 3 (0, 0)) := by
      subst hq
      rw [hU]
      have := heap_last (((w2.alloc (.cells (madeCells #[.int .i64 0] m) 3)).alloc (.cells #[.slice (some ⟨w2.heap.size, 0, none⟩) m m] 22)).alloc (.cells #[.pointer (some ⟨ob, 0, none⟩)] 26)) (.cells #[.int .i64 (i : Int)] 3)
      rwa [World.size_alloc, World.size_alloc, World.size_alloc] at this
    exact cell_at e rfl
  rw [← hU]
  rw [hq]
  have hML := HMM.out
  have HHI : Hid (i < M.length) := by show _ < _; rw [hML]; exact hi
  clear hU hB2U hq HLN HW2 HB2
  refine rangeFunc_brk rfl h1 (gf := 53) (lb := #[.pointer (some ⟨q + 1 + 1, 0, none⟩), .pointer (some ⟨q + 1 + 1 + 1, 0, none⟩)]) rfl trivial (enters_of Try.func53 (by kernel_rfl) rfl)
    (val := pwV A.k.toNat N i) (S := (fun b => b < q + 4 ∧ b ≠ q ∧ b ≠ w.heap.size ∧ b ≠ w.heap.size + 1)) (N := M.length + 1) (w0 := U) (fun b hb => by omega)
    (powers_at (n - 1) (by omega) (q + 1 + 1) (q + 1 + 1 + 1) ob i A M N _ U (fun W hk => HM0.out.below (hk.base HBU.out (fun b hb => ⟨by omega, by omega, by omega, by omega⟩))) HHI.out HU2.out HU3.out ⟨by omega, by omega, by omega, by omega⟩ ⟨by omega, by omega, by omega, by omega⟩ (fun b hb => by omega)) (KS.refl _ _) (fun _ => rfl) 0
    (fun j W => KS (fun b => b < q + 4 ∧ b ≠ q ∧ b ≠ w.heap.size ∧ b ≠ w.heap.size + 1) U W ∧ W.heap[w.heap.size]? = some (.cells #[.int .i64 0] 3 (0, 0)) ∧ W.heap[w.heap.size + 1]? = some (.cells #[.int .i64 0] 3 (0, 0)) ∧ ∃ cs : List Nat, W.heap[q]? = some (.cells (nC cs).toArray 3 (0, 0)) ∧ Met A.k.toNat N i m j cs)
    (fun _ W => KS (fun b => b < q + 4 ∧ b ≠ q ∧ b ≠ w.heap.size ∧ b ≠ w.heap.size + 1) U W ∧ ∃ t r : Nat, W.heap[w.heap.size]? = some (.cells #[.int .i64 (t : Int)] 3 (0, 0)) ∧ W.heap[w.heap.size + 1]? = some (.cells #[.int .i64 (r : Int)] 3 (0, 0)) ∧ TR (rm A.k.toNat N i) 0 t r ∧ t < 1000 ∧ r < 1000)
    ?own1 ?own2 ?bel ?start (fun j a' W => (KS (fun b => b < q + 4 ∧ b ≠ q ∧ b ≠ w.heap.size ∧ b ≠ w.heap.size + 1) U W ∧ W.heap[w.heap.size]? = some (.cells #[.int .i64 0] 3 (0, 0)) ∧ W.heap[w.heap.size + 1]? = some (.cells #[.int .i64 0] 3 (0, 0)) ∧ ∃ cs : List Nat, W.heap[q]? = some (.cells (nC cs).toArray 3 (0, 0)) ∧ Met A.k.toNat N i m j cs) ∧ a' = { tmps := #[.pointer (some ⟨ob, 0, none⟩), .int .i64 (i : Nat), undef, undef, .pointer (some ⟨w.heap.size, 0, none⟩), .pointer (some ⟨w.heap.size + 1, 0, none⟩), .pointer (some ⟨q + 1, 0, none⟩), .int .i64 (j : Nat), .int .i64 (pwN A.k.toNat N i j : Nat), .pointer (some ⟨ob, 0, none⟩), .int .i64 (m : Nat), .slice (some ⟨q, 0, none⟩) m m, .pointer (some ⟨ob, 0, none⟩), .int .i64 (i : Nat), .func (.func 53) #[] #[.pointer (some ⟨q + 1 + 1, 0, none⟩), .pointer (some ⟨q + 1 + 1 + 1, 0, none⟩)], .int .i64 (j : Nat), .int .i64 (pwN A.k.toNat N i j : Nat), undef, undef, undef, undef, undef, undef, undef, undef, undef, undef, undef, undef, undef, undef, undef, undef, undef, undef, undef, undef], defers := [] }) ?own3 ?assign ?body ?done ?stop
  case own1 =>
    rintro j W W' row ⟨hk, hb1, hb2, cs, hcs, hm⟩ hg hr
    have hz := hk.size
    have hg' : ∀ b, b < q + 2 → W'.heap[b]? = W.heap[b]? := fun b hb => hg.block b (by omega) (fun e => by have := (hr b e.symm).1; omega)
    exact ⟨hk.grown hg (fun k e => by have := (hr k e).1; omega) (fun b hb => by omega), (hg' _ (by omega)).trans hb1, (hg' _ (by omega)).trans hb2, cs, (hg' _ (by omega)).trans hcs, hm⟩
  case own2 =>
    rintro j W W' row ⟨hk, t, r, hb1, hb2, hR⟩ hg hr
    have hz := hk.size
    have hg' : ∀ b, b < q + 2 → W'.heap[b]? = W.heap[b]? := fun b hb => hg.block b (by omega) (fun e => by have := (hr b e.symm).1; omega)
    exact ⟨hk.grown hg (fun k e => by have := (hr k e).1; omega) (fun b hb => by omega), t, r, (hg' _ (by omega)).trans hb1, (hg' _ (by omega)).trans hb2, hR⟩
  case bel =>
    rintro j W1 W' hz ⟨hk, hb1, hb2, cs, hcs, hm⟩ hbl
    exact ⟨hk.trans (KS.below (fun b hb => by omega) hbl), (hbl.block _ (by omega)).trans hb1, (hbl.block _ (by omega)).trans hb2, cs, (hbl.block _ (by omega)).trans hcs, hm⟩
  case start => exact ⟨KS.refl _ _, HUa.out, HUb.out, _, HU0.out, Met.start _ _ _ _⟩
  case own3 =>
    rintro j a' _ W W' row ⟨⟨hk, hb1, hb2, cs, hcs, hm⟩, e⟩ hg hr
    have hz := hk.size
    have hg' : ∀ b, b < q + 2 → W'.heap[b]? = W.heap[b]? := fun b hb => hg.block b (by omega) (fun e => by have := (hr b e.symm).1; omega)
    exact ⟨⟨hk.grown hg (fun k e => by have := (hr k e).1; omega) (fun b hb => by omega), (hg' _ (by omega)).trans hb1, (hg' _ (by omega)).trans hb2, cs, (hg' _ (by omega)).trans hcs, hm⟩, e⟩
  case assign =>
    intro l j W K hj hI hks hK
    have HK : Hid _ := hK
    have HI : Hid _ := hI
    unfold pwV
    clear hK hI hks hj
    gi_wp2
    exact HK.out _ _ ⟨Nat.le_refl _, fun k o _ hk ho => hk⟩ (KS.refl _ _) ⟨HI.out, rfl⟩
  case body =>
    rintro l j a' W hj ⟨⟨hk, hb1, hb2, cs, hcs, hmet⟩, rfl⟩ hks
    have hz := hk.size
    have HK : Hid (KS (fun b => b < q + 4 ∧ b ≠ q ∧ b ≠ w.heap.size ∧ b ≠ w.heap.size + 1) U W) := hk
    have HA : Hid (W.heap[w.heap.size]? = some (.cells #[.int .i64 0] 3 (0, 0))) := hb1
    have HB : Hid (W.heap[w.heap.size + 1]? = some (.cells #[.int .i64 0] 3 (0, 0))) := hb2
    have HCS : Hid (W.heap[q]? = some (.cells (nC cs).toArray 3 (0, 0))) := hcs
    have HMT : Hid (Met A.k.toNat N i m j cs) := hmet
    have hc6 : W.cell? ⟨q + 1, 0, none⟩ = some (.slice (some ⟨q, 0, none⟩) m m) := by
      rw [World.cell?_of_block (a := ⟨q + 1, 0, none⟩) (hk.block (q + 1) ⟨by omega, by omega, by omega, by omega⟩)]; exact HU1.out
    have HLT : Hid (j < M.length + 1) := hj
    obtain ⟨p, hp⟩ : ∃ p, pwN A.k.toNat N i j = p := ⟨_, rfl⟩
    have HP : Hid (pwN A.k.toNat N i j = p) := hp
    have hpl : p < m := by rw [← hp, ← hML]; exact HMon.out.pw_lt HHI.out j
    have hpI : (p : Int) < (m : Int) := by omega
    have hjm : j ≤ 512 := by omega
    obtain ⟨v, hv⟩ : ∃ v, cs[p]? = some v := ⟨_, List.getElem?_eq_getElem (by rw [hmet.len]; exact hpl)⟩
    have hcv : W.cell? ⟨q, p, none⟩ = some (.int .i64 (v : Nat)) := by
      rw [cell_of_row _ _ _ _ _ _ hcs]
      simp [nC, hv]
    have HV : Hid (cs[p]? = some v) := hv
    rw [hp]
    clear hk hb1 hb2 hcs hks hv hp hmet
    by_cases hv0 : v = 0
    · subst hv0
      have hwj : IntKind.i64.wrap ((j : Int) + 1) = ((j + 1 : Nat) : Int) := by rw [IntKind.wrap_i64]; omega
      have hfq : W.frozen? ⟨q, p, none⟩ = false := frz_at HCS.out
      have HST : Hid ((W.setCell ⟨q, p, none⟩ (.int .i64 ((j + 1 : Nat) : Int))).heap[q]? = some (.cells (nC (cs.set p (j + 1))).toArray 3 (0, 0))) := by
        show _ = _
        have e : (nC (cs.set p (j + 1))).toArray = (nC cs).toArray.setIfInBounds p (.int .i64 ((j + 1 : Nat) : Int)) := by
          apply Array.ext'
          simp [nC, List.map_set]
        rw [e]
        exact heap_set HCS.out
      obtain ⟨j1, hj1⟩ : ∃ j1, j + 1 = j1 := ⟨_, rfl⟩
      have HJ1 : Hid (j + 1 = j1) := hj1
      rw [hj1] at hwj HST
      clear hj1
      gi_wp2
      refine ⟨⟨by simp [World.setCell], fun k o hk1 hk ho => ?_⟩, (KS.refl _ _).set (by omega), HK.out.set (by omega), ?_, ?_, _, HST.out, ?_⟩
      · rw [heap_set_other (fun e => by omega)]
        exact hk
      · rw [heap_set_other (fun e => by omega)]; exact HA.out
      · rw [heap_set_other (fun e => by omega)]; exact HB.out
      · have q1 := HMT.out
        have q2 := q1.next (by rw [HP.out]; exact hpl) (by rw [HP.out]; exact HV.out)
        rw [HP.out, HJ1.out] at q2
        rw [HJ1.out]
        exact q2
    · have F := HMT.out.found (v := v) (by rw [HP.out]; exact HV.out) hv0
      have HTR : Hid (TR (rm A.k.toNat N i) 0 (v - 1) (j - (v - 1))) := F.2.2
      have hvj := F.1
      have hv1 := F.2.1
      have hvI : (0 : Int) < (v : Int) := by omega
      have hvd : decide ((0 : Int) < (v : Int)) = true := decide_eq_true hvI
      obtain ⟨t, ht⟩ : ∃ t, v - 1 = t := ⟨_, rfl⟩
      obtain ⟨r, hr⟩ : ∃ r, j - t = r := ⟨_, rfl⟩
      rw [ht, hr] at HTR
      have hw1 : IntKind.i64.wrap ((v : Int) - 1) = (t : Int) := by rw [IntKind.wrap_i64]; omega
      have hw2 : IntKind.i64.wrap ((j : Int) - (t : Int)) = (r : Int) := by rw [IntKind.wrap_i64]; omega
      have hca : W.cell? ⟨w.heap.size, 0, none⟩ = some (.int .i64 0) := cell_at HA.out rfl
      have hfa : W.frozen? ⟨w.heap.size, 0, none⟩ = false := frz_at HA.out
      have HA1 : Hid ((W.setCell ⟨w.heap.size, 0, none⟩ (.int .i64 (t : Int))).heap[w.heap.size]? = some (.cells #[.int .i64 (t : Int)] 3 (0, 0))) := heap_set HA.out
      have HB1 : Hid ((W.setCell ⟨w.heap.size, 0, none⟩ (.int .i64 (t : Int))).heap[w.heap.size + 1]? = some (.cells #[.int .i64 0] 3 (0, 0))) := by show _ = _; rw [heap_set_other (fun e => by omega)]; exact HB.out
      have hcb : (W.setCell ⟨w.heap.size, 0, none⟩ (.int .i64 (t : Int))).cell? ⟨w.heap.size + 1, 0, none⟩ = some (.int .i64 0) := cell_at HB1.out rfl
      have hfb : (W.setCell ⟨w.heap.size, 0, none⟩ (.int .i64 (t : Int))).frozen? ⟨w.heap.size + 1, 0, none⟩ = false := frz_at HB1.out
      have hca1 : (W.setCell ⟨w.heap.size, 0, none⟩ (.int .i64 (t : Int))).cell? ⟨w.heap.size, 0, none⟩ = some (.int .i64 (t : Int)) := cell_at HA1.out rfl
      have HTR2 : Hid (t < 1000 ∧ r < 1000) := by show _ ∧ _; omega
      clear F ht hr
      gi_wp2
      refine ⟨rfl, ⟨by simp [World.setCell], fun k o hk1 hk ho => ?_⟩, (HK.out.set (by omega)).set (by omega), t, r, ?_, heap_set HB1.out, HTR.out, HTR2.out⟩
      · rw [heap_set_other (fun e => by omega), heap_set_other (fun e => by omega)]
        exact hk
      · rw [heap_set_other (fun e => by omega)]; exact HA1.out
  case done =>
    rintro D W hD ⟨hk, hb1, hb2, cs, hcs, hmet⟩ hK
    rw [← hML] at hmet
    exact (hmet.done HMon.out HHI.out).elim
  case stop =>
    rintro D W hD ⟨hk, t, r, hb1, hb2, hR, hsm⟩ hKD
    have hz := hk.size
    have HK : Hid (KS (fun b => b < q + 4 ∧ b ≠ q ∧ b ≠ w.heap.size ∧ b ≠ w.heap.size + 1) U W) := hk
    have HX : Hid (TR (rm A.k.toNat N i) 0 t r) := hR
    have HKD : Hid (W.heap[D]? = some (.deferred (some []))) := hKD
    have HA : Hid (W.heap[w.heap.size]? = some (.cells #[.int .i64 (t : Int)] 3 (0, 0))) := hb1
    have HB : Hid (W.heap[w.heap.size + 1]? = some (.cells #[.int .i64 (r : Int)] 3 (0, 0))) := hb2
    have hca : W.cell? ⟨w.heap.size, 0, none⟩ = some (.int .i64 (t : Int)) := cell_at hb1 rfl
    have hcb : W.cell? ⟨w.heap.size + 1, 0, none⟩ = some (.int .i64 (r : Int)) := cell_at hb2 rfl
    have HA1 : Hid ((W.setCell ⟨w.heap.size, 0, none⟩ (.int .i64 (t : Int))).drew.heap[w.heap.size]? = some (.cells #[.int .i64 (t : Int)] 3 (0, 0))) := heap_set HA.out
    have HB1 : Hid ((W.setCell ⟨w.heap.size, 0, none⟩ (.int .i64 (t : Int))).drew.heap[w.heap.size + 1]? = some (.cells #[.int .i64 (r : Int)] 3 (0, 0))) := by show (W.setCell ⟨w.heap.size, 0, none⟩ (.int .i64 (t : Int))).heap[w.heap.size + 1]? = _; rw [heap_set_other (fun e => by omega)]; exact HB.out
    have d1 : W.drew.cell? ⟨w.heap.size, 0, none⟩ = some (.int .i64 (t : Int)) := hca
    have d2 : W.drew.cell? ⟨w.heap.size + 1, 0, none⟩ = some (.int .i64 (r : Int)) := hcb
    have d3 : W.drew.frozen? ⟨w.heap.size, 0, none⟩ = false := frz_at (w := W.drew) HA.out
    have d4 : (W.setCell ⟨w.heap.size, 0, none⟩ (.int .i64 (t : Int))).drew.cell? ⟨w.heap.size + 1, 0, none⟩ = some (.int .i64 (r : Int)) := cell_at HB1.out rfl
    have d5 : (W.setCell ⟨w.heap.size, 0, none⟩ (.int .i64 (t : Int))).drew.frozen? ⟨w.heap.size + 1, 0, none⟩ = false := frz_at HB1.out
    clear hk hb1 hb2 hR hKD hca hcb
    gi_wp2
    gi_region
    gi_wp2
    obtain ⟨Z, hZ⟩ : ∃ Z, ((W.setCell ⟨w.heap.size, 0, none⟩ (.int .i64 (t : Int))).setCell ⟨w.heap.size + 1, 0, none⟩ (.int .i64 (r : Int))).drew = Z := ⟨_, rfl⟩
    have hZD : Z.heap[D]? = some (.deferred (some [])) := by
      rw [← hZ]
      show ((W.setCell ⟨w.heap.size, 0, none⟩ (.int .i64 (t : Int))).setCell ⟨w.heap.size + 1, 0, none⟩ (.int .i64 (r : Int))).heap[D]? = _
      rw [heap_set_other (fun e => by omega), heap_set_other (fun e => by omega)]
      exact HKD.out
    have hZa : Z.cell? ⟨w.heap.size, 0, none⟩ = some (.int .i64 (t : Int)) := by
      rw [← hZ]
      have e : ((W.setCell ⟨w.heap.size, 0, none⟩ (.int .i64 (t : Int))).setCell ⟨w.heap.size + 1, 0, none⟩ (.int .i64 (r : Int))).drew.heap[w.heap.size]? = some (.cells #[.int .i64 (t : Int)] 3 (0, 0)) := by
        show ((W.setCell ⟨w.heap.size, 0, none⟩ (.int .i64 (t : Int))).setCell ⟨w.heap.size + 1, 0, none⟩ (.int .i64 (r : Int))).heap[w.heap.size]? = _
        rw [heap_set_other (fun e => by omega)]
        exact HA1.out
      exact cell_at e rfl
    have hZb : Z.cell? ⟨w.heap.size + 1, 0, none⟩ = some (.int .i64 (r : Int)) := by
      rw [← hZ]
      have e : ((W.setCell ⟨w.heap.size, 0, none⟩ (.int .i64 (t : Int))).setCell ⟨w.heap.size + 1, 0, none⟩ (.int .i64 (r : Int))).drew.heap[w.heap.size + 1]? = some (.cells #[.int .i64 (r : Int)] 3 (0, 0)) := heap_set (w := W.setCell ⟨w.heap.size, 0, none⟩ (.int .i64 (t : Int))) HB1.out
      exact cell_at e rfl
    have hBZ : Below w.heap.size w Z := by
      have b0 := HK.out.base HBU.out (fun b hb => ⟨by omega, by omega, by omega, by omega⟩)
      have b1 := (b0.setCell (p := ⟨w.heap.size, 0, none⟩) (Nat.le_refl _) (.int .i64 (t : Int))).setCell (p := ⟨w.heap.size + 1, 0, none⟩) (by show w.heap.size ≤ w.heap.size + 1; omega) (.int .i64 (r : Int))
      rw [← hZ]
      exact b1.drew
    rw [hZ]
    refine ⟨by simp, .inl ⟨_, _, rfl, run_takeDeferred hZD, ?_⟩⟩
    have hP : ∀ b, b ≠ D → (Z.putObj D (.deferred none)).heap[b]? = Z.heap[b]? := fun b hb => World.putObj_heap_other hb
    refine ⟨_, results_int2 rfl rfl rfl (by rw [World.cell?_of_block (hP _ (by show w.heap.size ≠ D; omega))]; exact hZa) (by rw [World.cell?_of_block (hP _ (by show w.heap.size + 1 ≠ D; omega))]; exact hZb), ⟨t, r, rfl, HX.out⟩, ?_⟩
    exact hBZ.grown (grownBy_putObj' Z D _) (by have := hBZ.size; omega) (fun k e => by cases e; omega)

theorem cycle_any {w : World} {ob : Nat} {A : Aut} {M : List (List Nat)} {N : List Nat} (h : MO w ob A M N) (i : Nat) (hi : i < M.length) :
    Calls Try.prog 22 #[.pointer (some ⟨ob, 0, none⟩), .int .i64 i] w fun e w' => (∃ t r : Nat, e = .returned (.tuple #[.int .i64 (t : Nat), .int .i64 (r : Nat)]) ∧ TR (rm A.k.toNat N i) 0 t r) ∧ Below w.heap.size w w' :=
  callsIn_wide.1 (cycle_in 3 (by omega) h i hi)

set_option maxHeartbeats 1000000 in
set_option maxRecDepth 100000 in
theorem iCycle_any {w : World} {ob : Nat} {A : Aut} {M : List (List Nat)} {N : List Nat} (h : MO w ob A M N) (i : Nat) (hi : i < M.length) :
    Calls Try.prog 9 #[.pointer (some ⟨ob, 0, none⟩), .int .i64 i] w fun e w' => (∃ t r : Nat, e = .returned (.tuple #[.int .i64 (t : Nat), .int .i64 (r : Nat), .int .i64 0]) ∧ TR (rm A.k.toNat N i) 0 t r) ∧ Below w.heap.size w w' := by
  have HC : Hid _ := icheck_one h i
  rw [if_pos (show hasE M.length (i : Int) = true from decide_eq_true ⟨by omega, by omega⟩)] at HC
  have HB1 : Hid (Below w.heap.size w (w.alloc (.cells #[.int .i64 (i : Int)] 3))) := below_new _ _
  have HY : Hid _ := cycle_any (h.below HB1.out) i hi
  clear h
  go_enter Try.func9, Try.ntmps9
  go_wp2_with fail
  refine Calls.mono HC.out ?_
  rintro e w1 ⟨rfl, rfl⟩
  go_wp2_with fail
  refine Calls.mono HY.out ?_
  rintro e w2 ⟨⟨t, r, rfl, hR⟩, hb⟩
  have HR : Hid (TR (rm A.k.toNat N i) 0 t r) := hR
  have HB : Hid (Below w.heap.size w w2) := go_on HB1.out hb
  clear hb hR
  go_wp2_with fail
  go_ret3
  exact ⟨⟨t, r, rfl, HR.out⟩, HB.out⟩

set_option maxHeartbeats 1000000 in
set_option maxRecDepth 100000 in
theorem iCycle_not {w : World} {ob : Nat} {A : Aut} {M : List (List Nat)} {N : List Nat} (h : MO w ob A M N) (i : Int) (hi : ¬ hasE M.length i = true) :
    Calls Try.prog 9 #[.pointer (some ⟨ob, 0, none⟩), .int .i64 i] w fun e w' => e = .returned (.tuple #[.int .i64 0, .int .i64 0, .int .i64 11]) ∧ Below w.heap.size w w' := by
  have HC : Hid _ := icheck_one h i
  rw [if_neg hi] at HC
  have HB1 : Hid (Below w.heap.size w (w.alloc (.cells #[.int .i64 i] 3))) := below_new _ _
  clear h
  go_enter Try.func9, Try.ntmps9
  go_wp2_with fail
  refine Calls.mono HC.out ?_
  rintro e w1 ⟨rfl, rfl⟩
  go_wp2_with fail
  go_ret3
  exact ⟨rfl, HB1.out⟩
end Go.Proofs.Ytflclnkaccbfcab
