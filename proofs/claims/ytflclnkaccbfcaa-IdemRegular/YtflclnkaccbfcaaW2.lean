/- E46 E47 E48 E51, in one text. -/
import Derived.Test.YtflclnkaccbfcaaW1
import Derived.Test.YtflclnkaccbfcaaJi
import Derived.Laws.EntriesVeiled
import Derived.Test.YtflclnkaccbfcaaRk
import Derived.RangeFuncCalls
import Derived.Deep.QuietTactic
namespace Go.Proofs.Ytflclnkaccbfcaa
open Go Go.RowKit Go.Lib Go.Maps
set_option linter.unusedVariables false
attribute [-instance] List.instBEq instBEqProd

/-- The elements of which something is so. -/
def thL (n : Nat) (P : Nat → Bool) : List Nat := (List.range n).filter P

theorem thL_succ (n : Nat) (P : Nat → Bool) : thL (n + 1) P = if P n = true then thL n P ++ [n] else thL n P := by
  unfold thL
  rw [List.range_succ, List.filter_append]
  split <;> simp_all

theorem thL_len (n : Nat) (P : Nat → Bool) : (thL n P).length ≤ n := by
  have := List.length_filter_le P (List.range n)
  simpa [thL] using this

theorem mem_thL {n i : Nat} {P : Nat → Bool} : i ∈ thL n P ↔ i < n ∧ P i = true := by simp [thL]

/-- A list of elements that is the caller's own. -/
def OwnN (w : World) (base : Nat) (v : Value) (L : List Nat) : Prop := w.ownsRow base 3 1 v L.length (nC L)

set_option maxHeartbeats 2000000 in
set_option maxRecDepth 100000 in
theorem those_any {w : World} {ob : Nat} {A : Aut} {M : List (List Nat)} {N : List Nat} (h : MO w ob A M N) (nf : Nat) (fc : Array Value) (P : Nat → Bool)
    (eN : ∀ args w, (callFunc nf args).run Try.prog w = .ok (.enter nf args) w)
    (hN : ∀ y i, Below w.heap.size w y → i < M.length → Calls Try.prog nf (#[.int .i64 (i : Nat)] ++ fc) y fun e y' => e = .returned (.bool (P i)) ∧ Below y.heap.size y y') :
    Calls Try.prog 47 #[.pointer (some ⟨ob, 0, none⟩), .func (.func nf) #[] fc] w fun e w' => ∃ v, e = .returned v ∧ OwnN w' w.heap.size v (thL M.length P) ∧ Below w.heap.size w w' := by
  have HM : Hid (MO w ob A M N) := h
  have HN : Hid (∀ y i, Below w.heap.size w y → i < M.length → Calls Try.prog nf (#[.int .i64 (i : Nat)] ++ fc) y fun e y' => e = .returned (.bool (P i)) ∧ Below y.heap.size y y') := hN
  have hn5 := h.mon.most
  obtain ⟨i0, hi0, hz0, hz1, hz2⟩ := info_parts Try.info_int
  clear h hN
  go_enter Try.func47, Try.ntmps47
  go_wp2_with fail
  refine (mlen_any HM.out).mono ?_
  rintro e w1 ⟨rfl, rfl⟩
  go_wp2_with fail
  go_loopw [5, 9] (fun vo vi wr => ∃ (i : Nat) (oa : Option Addr) (oc : Nat), i ≤ M.length ∧ vi = .int .i64 i ∧ vo = .slice oa (thL i P).length oc ∧ OwnN wr w.heap.size (.slice oa (thL i P).length oc) (thL i P) ∧ Below w.heap.size w wr) (fun _ vi _ => M.length - (Go.Lib.intOf vi).toNat)
  case atStart => exact ⟨0, none, 0, Nat.zero_le _, rfl, rfl, World.ownsRow_nil _ _ _ _, Below.refl _ _⟩
  case round =>
    obtain ⟨i, oa, oc, hi, rfl, rfl, ho, hb⟩ := hrel
    have HO : Hid (OwnN wr w.heap.size (.slice oa (thL i P).length oc) (thL i P)) := ho
    have HB : Hid (Below w.heap.size w wr) := hb
    have hll := thL_len i P
    clear hb ho
    by_cases hlt : i < M.length
    · have hiI : (i : Int) < M.length := by omega
      have HLT : Hid (i < M.length) := hlt
      clear hlt
      go_wp2_with fail
      refine (HN.out wr i HB.out HLT.out).mono ?_
      rintro e w2 ⟨rfl, hb2⟩
      have HB2 : Hid (Below w.heap.size w w2) := go_on HB.out hb2
      have HO2 : Hid (OwnN w2 w.heap.size (.slice oa (thL i P).length oc) (thL i P)) := own_below HO.out hb2
      have hs2 := HB2.out.size
      clear hb2
      cases hP : P i with
      | false =>
        have HT : Hid (thL (i + 1) P = thL i P) := by show _ = _; rw [thL_succ, hP]; rfl
        clear hP
        go_wp2_with fail
        go_roundw
        case rel => exact ⟨i + 1, oa, oc, HLT.out, by go_num, by rw [HT.out], by rw [HT.out]; exact HO2.out, HB2.out⟩
        case measure => have := HLT.out; simp [Go.Lib.intOf]; omega
      | true =>
        have HT : Hid (thL (i + 1) P = thL i P ++ [i]) := by show _ = _; rw [thL_succ, hP]; rfl
        clear hP
        go_wp2_with (first
          | (at_builtin; refine wpList_append_own_at _ rfl _ _ 23 rfl w.heap.size 3 i0 (.int .i64 0) 1 8 Try.underlying23 hi0 hz0 hz1 hz2 rfl (by decide) _ _ _ rfl (World.ownsRow.alloc HO2.out _) ⟨w2.heap.size, 0, none⟩ 1 1 [.int .i64 (i : Int)] rfl rfl (cell_one_new _ _ _) (by intro u hu; simp at hu; subst hu; rfl) (by unfold maxLen; omega) (by omega) (by simp; omega) ?_; intro v' w4 hown' hgrow _ hloc))
        have HB4 : Hid (Below w.heap.size w w4) := (go_on HB2.out (below_new _ _)).grown hgrow (by simp; omega) (fun k hk => (own_blk HO2.out hk).1)
        obtain ⟨oa4, oc4, hsh⟩ := own_shape hown'
        have HO4 : Hid (OwnN w4 w.heap.size v' (thL (i + 1) P)) := by
          show OwnN _ _ _ _
          rw [HT.out]
          unfold OwnN
          rw [nC_append, List.length_append]
          exact hown'
        have HSH : Hid (v' = .slice oa4 (thL (i + 1) P).length oc4) := by show _ = _; rw [HT.out, List.length_append]; exact hsh
        clear hown' hgrow hloc hsh
        go_roundw
        case rel => exact ⟨i + 1, oa4, oc4, HLT.out, by go_num, HSH.out, by have q := HO4.out; rw [HSH.out] at q; exact q, HB4.out⟩
        case measure => have := HLT.out; simp [Go.Lib.intOf]; omega
    · have hiI : ¬ (i : Int) < M.length := by omega
      have e : i = M.length := by omega
      have HE : Hid (i = M.length) := e
      clear e
      go_wp2_with fail
      go_ret
      exact ⟨_, rfl, by rw [← HE.out]; exact HO.out, HB.out⟩

set_option maxHeartbeats 1000000 in
set_option maxRecDepth 100000 in
theorem list1_any {w : World} {ob : Nat} {A : Aut} {M : List (List Nat)} {N : List Nat} (h : MO w ob A M N) (b : Nat) (hc : w.cell? ⟨b, 0, none⟩ = some (.pointer (some ⟨ob, 0, none⟩))) (i : Nat) (hi : i < M.length) :
    Calls Try.prog 48 #[.int .i64 (i : Nat), .pointer (some ⟨b, 0, none⟩)] w fun e w' => e = .returned (.bool (idE A.k.toNat N i)) ∧ Below w.heap.size w w' := by
  have HI : Hid _ := isIdem_any h i hi
  clear h
  go_enter Try.func48, Try.ntmps48
  go_wp2_with fail
  refine Calls.mono HI.out ?_
  rintro e w1 ⟨rfl, hb⟩
  have HB : Hid (Below w.heap.size w w1) := hb
  clear hb
  go_wp2_with fail
  go_ret
  exact ⟨rfl, HB.out⟩

/-- What List answers. -/
def LsQ (L : List Nat) (w : World) (e : Ending) (w' : World) : Prop := ∃ v, e = .returned (.tuple #[v, .int .i64 0]) ∧ OwnN w' w.heap.size v L ∧ Below w.heap.size w w'

set_option maxHeartbeats 1000000 in
set_option maxRecDepth 100000 in
theorem iList_any {w : World} {ob : Nat} {A : Aut} {M : List (List Nat)} {N : List Nat} (h : MO w ob A M N) :
    Calls Try.prog 14 #[.pointer (some ⟨ob, 0, none⟩)] w (LsQ (thL M.length (idE A.k.toNat N)) w) := by
  obtain ⟨w0, hw0⟩ : ∃ w0, w0 = w.alloc (.cells #[.pointer (some ⟨ob, 0, none⟩)] 22) := ⟨_, rfl⟩
  have HB0 : Hid (Below w.heap.size w w0) := by show Below _ _ _; rw [hw0]; exact below_new _ _
  have HM : Hid (MO w0 ob A M N) := h.below HB0.out
  have hc0 : w0.cell? ⟨w.heap.size, 0, none⟩ = some (.pointer (some ⟨ob, 0, none⟩)) := by rw [hw0, cell_of_row _ _ _ _ _ _ (heap_last w _)]; rfl
  have HC0 : Hid (w0.cell? ⟨w.heap.size, 0, none⟩ = some (.pointer (some ⟨ob, 0, none⟩))) := hc0
  have HW0 : Hid (w0 = w.alloc (.cells #[.pointer (some ⟨ob, 0, none⟩)] 22)) := hw0
  have hlt0 : w.heap.size < w0.heap.size := by rw [hw0]; simp
  have HT : Hid (Calls Try.prog 47 #[.pointer (some ⟨ob, 0, none⟩), .func (.func 48) #[] #[.pointer (some ⟨w.heap.size, 0, none⟩)]] w0 fun e w' => ∃ v, e = .returned v ∧ OwnN w' w0.heap.size v (thL M.length (idE A.k.toNat N)) ∧ Below w0.heap.size w0 w') :=
    those_any HM.out 48 _ _ (enters_of Try.func48 (by kernel_rfl) rfl) (fun y i hy hi => list1_any (HM.out.below hy) w.heap.size (by rw [below_cellJ hy hlt0]; exact HC0.out) i hi)
  clear h hw0 hc0
  go_enter Try.func14, Try.ntmps14
  go_wp2_with fail
  rw [← HW0.out]
  have hc0 := HC0.out
  go_wp2_with fail
  refine (icheck_none HM.out).mono ?_
  rintro e w1 ⟨rfl, rfl⟩
  go_wp2_with fail
  refine HT.out.mono ?_
  rintro e w1 ⟨v, rfl, ho, hb⟩
  have HO : Hid (OwnN w1 w.heap.size v (thL M.length (idE A.k.toNat N))) := own_mono ho (by omega)
  have HB : Hid (Below w.heap.size w w1) := go_on HB0.out hb
  clear ho hb hc0
  go_wp2_with fail
  go_ret2
  exact ⟨_, rfl, HO.out, HB.out⟩

/-- What Idempotent answers. -/
def ipV (K n : Nat) (N : List Nat) (i : Int) : Value := if hasE n i = true then .tuple #[.bool (idE K N i.toNat), .int .i64 0] else .tuple #[.bool false, .int .i64 11]

set_option maxHeartbeats 1000000 in
set_option maxRecDepth 100000 in
theorem iIdem_any {w : World} {ob : Nat} {A : Aut} {M : List (List Nat)} {N : List Nat} (h : MO w ob A M N) (i : Int) :
    Calls Try.prog 12 #[.pointer (some ⟨ob, 0, none⟩), .int .i64 i] w fun e w' => e = .returned (ipV A.k.toNat M.length N i) ∧ Below w.heap.size w w' := by
  have HM : Hid (MO w ob A M N) := h
  have HC : Hid _ := icheck_one h i
  have HB1 : Hid (Below w.heap.size w (w.alloc (.cells #[.int .i64 i] 3))) := below_new _ _
  unfold ipV
  by_cases hh : hasE M.length i = true
  · obtain ⟨j, rfl⟩ : ∃ j : Nat, i = (j : Int) := ⟨i.toNat, by have := of_decide_eq_true hh; omega⟩
    have hj : j < M.length := by have := of_decide_eq_true hh; omega
    have HI : Hid _ := isIdem_any (h.below (below_new w (.cells #[.int .i64 (j : Int)] 3))) j hj
    rw [if_pos hh] at HC ⊢
    rw [show ((j : Int)).toNat = j by omega]
    clear h hh
    go_enter Try.func12, Try.ntmps12
    go_wp2_with fail
    refine Calls.mono HC.out ?_
    rintro e w1 ⟨rfl, rfl⟩
    go_wp2_with fail
    refine Calls.mono HI.out ?_
    rintro e w2 ⟨rfl, hb⟩
    have HB : Hid (Below w.heap.size w w2) := go_on HB1.out hb
    clear hb
    go_wp2_with fail
    go_ret2
    exact ⟨rfl, HB.out⟩
  · rw [if_neg hh] at HC ⊢
    clear h hh
    go_enter Try.func12, Try.ntmps12
    go_wp2_with fail
    refine Calls.mono HC.out ?_
    rintro e w1 ⟨rfl, rfl⟩
    go_wp2_with fail
    go_ret2
    exact ⟨rfl, HB1.out⟩
end Go.Proofs.Ytflclnkaccbfcaa

namespace Go.Proofs.Ytflclnkaccbfcaa
open Go Go.RowKit Go.Shelf Go.Lib
set_option linter.unusedVariables false
attribute [-instance] List.instBEq instBEqProd

attribute [local go_sem] Oper.semAt_some

/-- The values of round j. -/
def pwV (K : Nat) (N : List Nat) (i j : Nat) : Array Value := #[.int .i64 (j : Nat), .int .i64 (pwN K N i j : Nat)]

theorem powers_any (ob : Nat) (i : Int) (w : World) : Calls Try.prog 49 #[.pointer (some ⟨ob, 0, none⟩), .int .i64 i] w fun e w' => e = .returned (.func (.func 73) #[] #[.pointer (some ⟨w.heap.size, 0, none⟩), .pointer (some ⟨w.heap.size + 1, 0, none⟩)]) ∧ w' = (w.alloc (.cells #[.pointer (some ⟨ob, 0, none⟩)] 22)).alloc (.cells #[.int .i64 i] 3) := by
  go_enter Try.func49, Try.ntmps49
  go_wp2_with fail
  go_ret
  exact ⟨rfl, rfl⟩

set_option maxRecDepth 100000 in
set_option maxHeartbeats 2000000 in
theorem powers_at (n : Nat) (hn : 1 ≤ n) (b1 b2 ob i : Nat) (A : Aut) (M : List (List Nat)) (N : List Nat) (S : Nat → Prop) (w : World) (hMO : ∀ W, KS S w W → MO W ob A M N) (hi : i < M.length) (h1 : w.cell? ⟨b1, 0, none⟩ = some (.pointer (some ⟨ob, 0, none⟩))) (h2 : w.cell? ⟨b2, 0, none⟩ = some (.int .i64 (i : Nat))) (s1 : S b1) (s2 : S b2) (hS : ∀ b, S b → b < w.heap.size) :
    IterS Fence.wide n Try.prog 73 #[.pointer (some ⟨b1, 0, none⟩), .pointer (some ⟨b2, 0, none⟩)] (pwV A.k.toNat N i) S (M.length + 1) w := by
  intro l J Jx W hW hY hJ h0
  have HM : Hid (∀ W, KS S w W → MO W ob A M N) := hMO
  have hmon := (hMO w (KS.refl _ _)).mon
  have hms := hmon.most
  have HMon : Hid (Mon A M N) := hmon
  have HS : Hid (∀ b, S b → b < w.heap.size) := hS
  have HC : Hid (∀ W', KS S w W' → W'.cell? ⟨b1, 0, none⟩ = some (.pointer (some ⟨ob, 0, none⟩)) ∧ W'.cell? ⟨b2, 0, none⟩ = some (.int .i64 (i : Nat))) := fun W' hk => by
    exact ⟨by rw [World.cell?_of_block (a := ⟨b1, 0, none⟩) (hk.block b1 s1)]; exact h1, by rw [World.cell?_of_block (a := ⟨b2, 0, none⟩) (hk.block b2 s2)]; exact h2⟩
  have HY : Hid _ := hY
  have HJ : Hid (∀ j W1 W', J j W1 → Below W1.heap.size W1 W' → J j W') := hJ
  have H0 : Hid (J 0 W) := h0
  have HW : Hid (KS S w W) := hW
  have hx0 := (HC.out W hW).1
  clear hY h0 h1 h2 hW hJ hMO hmon hS s1 s2
  refine callsIn_of_wp Try.func73 rfl trivial ?_ rfl
  simp only [Try.ntmps73, List.size_toArray, List.length_cons, List.length_nil, Nat.reduceAdd, Nat.reduceSub, Array.replicate_succ, Array.replicate_zero, List.push_toArray, List.append_toArray, List.nil_append, List.cons_append]
  gi_wp2
  refine ⟨trivial, ?_⟩
  refine (callsIn_wide.2 (mlen_any (HM.out W HW.out))).mono ?_
  rintro e w1 ⟨rfl, rfl⟩
  have hwr : IntKind.i64.wrap ((M.length : Int) + 1) = (M.length : Int) + 1 := by rw [IntKind.wrap_i64]; omega
  clear hx0
  gi_wp2
  gi_loopw [4, 9] (fun vp vi wr => ∃ j : Nat, j ≤ M.length + 1 ∧ vi = .int .i64 (j : Nat) ∧ vp = .int .i64 (pwN A.k.toNat N i j : Nat) ∧ J j wr ∧ KS S w wr) (fun _ vi _ => M.length + 1 - (Go.Lib.intOf vi).toNat)
  case atStart => exact ⟨0, Nat.zero_le _, rfl, rfl, H0.out, HW.out⟩
  case round =>
    obtain ⟨j, hj, rfl, rfl, hJj, hK⟩ := hrel
    have HJj : Hid (J j wr) := hJj
    have HK : Hid (KS S w wr) := hK
    clear hJj hK
    by_cases hlt : j < M.length + 1
    · have hjI : (j : Int) < (M.length : Int) + 1 := by omega
      obtain ⟨fn, tmps, assign, body, hy, hR⟩ := HY.out j wr hlt HJj.out HK.out
      unfold pwV at hy
      obtain ⟨p, hp⟩ : ∃ p, pwN A.k.toNat N i j = p := ⟨_, rfl⟩
      have HP : Hid (pr A.k.toNat N p i = pwN A.k.toNat N i (j + 1)) := by show _ = _; rw [pwN_succ, hp]
      have hpl : p < M.length := by rw [← hp]; exact HMon.out.pw_lt hi j
      rw [hp] at hy ⊢
      have HR : Hid (RoundIn Fence.wide (n - 1) Try.prog l fn tmps assign body wr _) := hR
      have HLT : Hid (j < M.length + 1) := hlt
      clear hR hp hlt
      gi_wp2
      refine HR.out.mono ?_
      clear HR hy
      rintro e W3 (⟨rfl, hJ3, hk3⟩ | ⟨rfl, hJx3⟩)
      · have HJ3 : Hid (J (j + 1) W3) := hJ3
        have HK3 : Hid (KS S w W3) := HK.out.trans hk3
        have hc := HC.out W3 HK3.out
        have hc1 := hc.1
        have hc2 := hc.2
        clear hJ3 hk3 hc
        gi_wp2
        refine ⟨trivial, ?_⟩
        refine (callsIn_wide.2 (iprod_two (HM.out W3 HK3.out) p i hpl hi)).mono ?_
        rintro e W4 ⟨rfl, hb4⟩
        rw [HP.out]
        have HJ4 : Hid (J (j + 1) W4) := HJ.out _ _ _ HJ3.out hb4
        have HK4 : Hid (KS S w W4) := HK3.out.trans (KS.below (fun b hb => Nat.lt_of_lt_of_le (HS.out b hb) HK3.out.size) hb4)
        clear hb4 hc1 hc2
        gi_wp2
        go_roundw
        case rel => exact ⟨j + 1, HLT.out, by go_num, rfl, HJ4.out, HK4.out⟩
        case measure => have := HLT.out; simp [Go.Lib.intOf]; omega
      · have HJx3 : Hid _ := hJx3
        clear hJx3
        gi_wp2
        refine bodyPost_ret (results_none rfl _ _ _) rfl ?_
        exact ⟨⟨_, rfl⟩, .inr HJx3.out⟩
    · have hjI : ¬ (j : Int) < (M.length : Int) + 1 := by omega
      have HE : Hid (j = M.length + 1) := by show _ = _; omega
      gi_wp2
      go_end0
      refine ⟨⟨_, rfl⟩, .inl ?_⟩
      rw [← HE.out]
      exact HJj.out
end Go.Proofs.Ytflclnkaccbfcaa

namespace Go.Proofs.Ytflclnkaccbfcaa
open Go Go.RowKit Go.Shelf Go.Lib
set_option linter.unusedVariables false
attribute [-instance] List.instBEq instBEqProd

attribute [local go_sem] Oper.semAt_some

set_option maxHeartbeats 1000000 in
set_option maxRecDepth 100000 in
theorem omega_not {w : World} {ob : Nat} {A : Aut} {M : List (List Nat)} {N : List Nat} (h : MO w ob A M N) (i : Int) (hi : ¬ hasE M.length i = true) :
    Calls Try.prog 15 #[.pointer (some ⟨ob, 0, none⟩), .int .i64 i] w fun e w' => e = .returned (.tuple #[.int .i64 0, .int .i64 11]) ∧ Below w.heap.size w w' := by
  obtain ⟨w0, hw0⟩ : ∃ w0, w0 = w.alloc (.cells #[.pointer (some ⟨ob, 0, none⟩)] 22) := ⟨_, rfl⟩
  have HB0 : Hid (Below w.heap.size w w0) := by show Below _ _ _; rw [hw0]; exact below_new _ _
  have HM : Hid (MO w0 ob A M N) := h.below HB0.out
  have HW0 : Hid (w0 = w.alloc (.cells #[.pointer (some ⟨ob, 0, none⟩)] 22)) := hw0
  have HC0 : Hid (w0.cell? ⟨w.heap.size, 0, none⟩ = some (.pointer (some ⟨ob, 0, none⟩))) := by show _ = _; rw [hw0, cell_of_row _ _ _ _ _ _ (heap_last w _)]; rfl
  have HZ0 : Hid (w0.heap.size = w.heap.size + 1) := by show _ = _; rw [hw0]; simp
  have HC : Hid _ := icheck_one HM.out i
  rw [if_neg hi, HZ0.out] at HC
  have HB1 : Hid (Below w.heap.size w (w0.alloc (.cells #[.int .i64 i] 3))) := go_on HB0.out (below_new _ _)
  clear h hw0 hi
  go_enter Try.func15, Try.ntmps15
  go_wp2_with fail
  rw [← HW0.out]
  refine Calls.mono HC.out ?_
  rintro e w1 ⟨rfl, rfl⟩
  go_wp2_with fail
  go_ret2
  exact ⟨rfl, HB1.out⟩

theorem frz_at {w : World} {b o : Nat} {cs : Array Value} {t : TypeId} (h : w.heap[b]? = some (.cells cs t (0, 0))) : w.frozen? ⟨b, o, none⟩ = false := by
  simp [World.frozen?, h]

theorem KS.grown {S : Nat → Prop} {W W1 W2 : World} {row : Option Nat} (h : KS S W W1) (hg : W1.grownBy W2 row) (hr : ∀ k, row = some k → ¬ S k) (hl : ∀ b, S b → b < W1.heap.size) : KS S W W2 :=
  ⟨hg.os.trans h.os, hg.tape.trans h.tape, hg.output.trans h.output, Nat.le_trans h.size hg.size, fun b hb => (hg.block b (hl b hb) (fun e => hr b e.symm hb)).trans (h.block b hb)⟩

theorem KS.set {S : Nat → Prop} {W W1 : World} {m o : Nat} {v : Value} (h : KS S W W1) (hp : ¬ S m) : KS S W (W1.setCell ⟨m, o, none⟩ v) :=
  ⟨h.os, h.tape, h.output, by simpa [World.setCell] using h.size, fun b hb => (heap_set_other (fun e => by subst e; exact hp hb)).trans (h.block b hb)⟩

theorem KS.base {S : Nat → Prop} {w U W : World} (h : KS S U W) (hb : Below w.heap.size w U) (hS : ∀ b, b < w.heap.size → S b) : Below w.heap.size w W :=
  ⟨h.os.trans hb.os, h.tape.trans hb.tape, h.output.trans hb.output, Nat.le_trans hb.size h.size, fun b hlt => (h.block b (hS b hlt)).trans (hb.block b hlt)⟩

set_option maxRecDepth 100000 in
set_option maxHeartbeats 4000000 in
theorem omega_in (n : Nat) (hn : 3 ≤ n) {w : World} {ob : Nat} {A : Aut} {M : List (List Nat)} {N : List Nat} (h : MO w ob A M N) (i : Nat) (hi : i < M.length) :
    CallsIn Fence.wide n Try.prog 15 #[.pointer (some ⟨ob, 0, none⟩), .int .i64 i] w fun e w' => (∃ x, e = .returned (.tuple #[.int .i64 (x : Nat), .int .i64 0]) ∧ OmQ A.k.toNat N i x) ∧ Below w.heap.size w w' := by
  have h1 : 1 ≤ n := by omega
  obtain ⟨w0, hw0⟩ : ∃ w0, w0 = w.alloc (.cells #[.pointer (some ⟨ob, 0, none⟩)] 22) := ⟨_, rfl⟩
  have HB0 : Hid (Below w.heap.size w w0) := by show Below _ _ _; rw [hw0]; exact below_new _ _
  have HM0 : Hid (MO w ob A M N) := h
  have HM : Hid (MO w0 ob A M N) := h.below HB0.out
  have HMon : Hid (Mon A M N) := h.mon
  have HW0 : Hid (w0 = w.alloc (.cells #[.pointer (some ⟨ob, 0, none⟩)] 22)) := hw0
  have HC0 : Hid (w0.cell? ⟨w.heap.size, 0, none⟩ = some (.pointer (some ⟨ob, 0, none⟩))) := by show _ = _; rw [hw0, cell_of_row _ _ _ _ _ _ (heap_last w _)]; rfl
  have HZ0 : Hid (w0.heap.size = w.heap.size + 1) := by show _ = _; rw [hw0]; simp
  have HC : Hid _ := icheck_one HM.out i
  rw [if_pos (show hasE M.length (i : Int) = true from decide_eq_true ⟨by omega, by omega⟩), HZ0.out] at HC
  have HB1 : Hid (Below w.heap.size w (w0.alloc (.cells #[.int .i64 i] 3))) := go_on HB0.out (below_new _ _)
  clear h hw0
  refine callsIn_of_wp_marks Try.func15 rfl trivial ?_ rfl
  simp only [Try.ntmps15, List.size_toArray, List.length_cons, List.length_nil, Nat.reduceAdd, Nat.reduceSub, Array.replicate_succ, Array.replicate_zero, List.push_toArray, List.append_toArray, List.nil_append, List.cons_append]
  gi_wp2
  rw [← HW0.out]
  refine ⟨trivial, ?_⟩
  refine (callsIn_wide.2 HC.out).mono ?_
  rintro e w1 ⟨rfl, rfl⟩
  obtain ⟨w1, hw1⟩ : ∃ w1, w1 = w0.alloc (.cells #[.int .i64 (i : Int)] 3) := ⟨_, rfl⟩
  rw [← hw1] at HB1 ⊢
  have hz1 : w1.heap.size = w.heap.size + 2 := by rw [hw1, World.size_alloc, HZ0.out]
  have hc1 : w1.cell? ⟨w.heap.size, 0, none⟩ = some (.pointer (some ⟨ob, 0, none⟩)) := by rw [hw1, below_cellJ (below_new w0 _) (by rw [HZ0.out]; omega)]; exact HC0.out
  have hcA : (w1.alloc (.cells #[.int .i64 0] 3)).cell? ⟨w.heap.size, 0, none⟩ = some (.pointer (some ⟨ob, 0, none⟩)) := by rw [below_cellJ (below_new w1 _) (by rw [hz1]; omega)]; exact hc1
  have HZ1 : Hid (w1.heap.size = w.heap.size + 2) := hz1
  have HC1 : Hid (w1.cell? ⟨w.heap.size, 0, none⟩ = some (.pointer (some ⟨ob, 0, none⟩))) := hc1
  clear hw1 hz1 hc1
  gi_wp2
  refine ⟨trivial, ?_⟩
  refine (callsIn_wide.2 (powers_any _ _ _)).mono ?_
  rintro e w3 ⟨rfl, rfl⟩
  clear hcA
  gi_wp2
  obtain ⟨q, hq⟩ : ∃ q, w1.heap.size = q := ⟨_, rfl⟩
  have hz1 := HZ1.out
  obtain ⟨U, hU⟩ : ∃ U, U = ((w1.alloc (.cells #[.int .i64 0] 3)).alloc (.cells #[.pointer (some ⟨ob, 0, none⟩)] 22)).alloc (.cells #[.int .i64 (i : Int)] 3) := ⟨_, rfl⟩
  have hUs : U.heap.size = q + 3 := by rw [hU]; simp [hq]
  have hBU : Below w.heap.size w U := by
    rw [hU]
    exact go_on (go_on (go_on HB1.out (below_new _ _)) (below_new _ _)) (below_new _ _)
  have HU0 : Hid (U.heap[q]? = some (.cells #[.int .i64 0] 3 (0, 0))) := by
    show _ = _
    rw [hU, heap_allo (by simp; omega), heap_allo (by simp; omega), ← hq]
    exact heap_last _ _
  have HU1 : Hid (U.cell? ⟨q + 1, 0, none⟩ = some (.pointer (some ⟨ob, 0, none⟩))) := by
    show _ = _
    have e : U.heap[q + 1]? = some (.cells #[.pointer (some ⟨ob, 0, none⟩)] 22 (0, 0)) := by
      rw [hU, heap_allo (by simp; omega)]
      have := heap_last (w1.alloc (.cells #[.int .i64 0] 3)) (.cells #[.pointer (some ⟨ob, 0, none⟩)] 22)
      rwa [World.size_alloc, hq] at this
    exact cell_at e rfl
  have HU2 : Hid (U.cell? ⟨q + 2, 0, none⟩ = some (.int .i64 (i : Nat))) := by
    show _ = _
    have e : U.heap[q + 2]? = some (.cells #[.int .i64 (i : Nat)] 3 (0, 0)) := by
      rw [hU]
      have := heap_last ((w1.alloc (.cells #[.int .i64 0] 3)).alloc (.cells #[.pointer (some ⟨ob, 0, none⟩)] 22)) (.cells #[.int .i64 (i : Int)] 3)
      rwa [World.size_alloc, World.size_alloc, hq] at this
    exact cell_at e rfl
  have HU3 : Hid (U.cell? ⟨w.heap.size, 0, none⟩ = some (.pointer (some ⟨ob, 0, none⟩))) := by
    show _ = _
    have hb : Below w1.heap.size w1 U := by rw [hU]; exact go_on (go_on (below_new _ _) (below_new _ _)) (below_new _ _)
    rw [below_cellJ hb (by omega)]
    exact HC1.out
  have HBU : Hid (Below w.heap.size w U) := hBU
  rw [← hU]
  rw [hq]
  have hwq : w.heap.size + 2 = q := by omega
  clear hU hBU hz1 hq HZ1 HC1 HB1 HC HC0 HW0 HM HZ0
  refine rangeFunc_brk rfl h1 (gf := 73) (lb := #[.pointer (some ⟨q + 1, 0, none⟩), .pointer (some ⟨q + 2, 0, none⟩)]) rfl trivial (enters_of Try.func73 (by kernel_rfl) rfl)
    (val := pwV A.k.toNat N i) (S := fun b => b < q + 3 ∧ b ≠ q) (N := M.length + 1) (w0 := U) (fun b hb => by omega)
    (powers_at (n - 1) (by omega) (q + 1) (q + 2) ob i A M N _ U (fun W hk => HM0.out.below (hk.base HBU.out (fun b hb => ⟨by omega, by omega⟩))) hi HU1.out HU2.out ⟨by omega, by omega⟩ ⟨by omega, by omega⟩ (fun b hb => by omega)) (KS.refl _ _) (fun _ => rfl) 0
    (fun j W => KS (fun b => b < q + 3 ∧ b ≠ q) U W ∧ W.heap[q]? = some (.cells #[.int .i64 0] 3 (0, 0)) ∧ ∀ k, 1 ≤ k → k < j → ¬ pr A.k.toNat N (pwN A.k.toNat N i k) (pwN A.k.toNat N i k) = pwN A.k.toNat N i k)
    (fun _ W => KS (fun b => b < q + 3 ∧ b ≠ q) U W ∧ ∃ x : Nat, W.heap[q]? = some (.cells #[.int .i64 (x : Int)] 3 (0, 0)) ∧ OmQ A.k.toNat N i x)
    ?own1 ?own2 ?bel ?start (fun j a' W => (KS (fun b => b < q + 3 ∧ b ≠ q) U W ∧ W.heap[q]? = some (.cells #[.int .i64 0] 3 (0, 0)) ∧ ∀ k, 1 ≤ k → k < j → ¬ pr A.k.toNat N (pwN A.k.toNat N i k) (pwN A.k.toNat N i k) = pwN A.k.toNat N i k) ∧ a' = { tmps := #[.pointer (some ⟨ob, 0, none⟩), .int .i64 (i : Nat), .pointer (some ⟨w.heap.size, 0, none⟩), undef, .int .i64 0, .int .i64 0, .int .i64 0, .pointer (some ⟨q, 0, none⟩), .int .i64 (j : Nat), .int .i64 (pwN A.k.toNat N i j : Nat), .pointer (some ⟨ob, 0, none⟩), .int .i64 (i : Nat), .slice (some ⟨w.heap.size + 1, 0, none⟩) 1 1, .int .i64 0, .int .i64 0, .bool false, undef, .pointer (some ⟨ob, 0, none⟩), .int .i64 (i : Nat), .func (.func 73) #[] #[.pointer (some ⟨q + 1, 0, none⟩), .pointer (some ⟨q + 1 + 1, 0, none⟩)], .int .i64 (j : Nat), .int .i64 (pwN A.k.toNat N i j : Nat), undef, undef, undef, undef, undef, undef, undef, undef, undef], defers := [] }) ?own3 ?assign ?body ?done ?stop
  case own1 =>
    rintro j W W' row ⟨hk, hb, hno⟩ hg hr
    have hz := hk.size
    refine ⟨hk.grown hg (fun k e => by have := (hr k e).1; omega) (fun b hb => by omega), ?_, hno⟩
    rw [hg.block q (by omega) (fun e => by have := (hr q e.symm).1; omega)]
    exact hb
  case own2 =>
    rintro j W W' row ⟨hk, x, hb, hx⟩ hg hr
    have hz := hk.size
    refine ⟨hk.grown hg (fun k e => by have := (hr k e).1; omega) (fun b hb => by omega), x, ?_, hx⟩
    rw [hg.block q (by omega) (fun e => by have := (hr q e.symm).1; omega)]
    exact hb
  case bel =>
    rintro j W1 W' hz ⟨hk, hb, hno⟩ hbl
    refine ⟨hk.trans (KS.below (fun b hb => by omega) hbl), ?_, hno⟩
    rw [hbl.block q (by omega)]
    exact hb
  case start => exact ⟨KS.refl _ _, HU0.out, fun k h1 h2 => by omega⟩
  case own3 =>
    rintro j a' _ W W' row ⟨⟨hk, hb, hno⟩, e⟩ hg hr
    have hz := hk.size
    refine ⟨⟨hk.grown hg (fun k e => by have := (hr k e).1; omega) (fun b hb => by omega), ?_, hno⟩, e⟩
    rw [hg.block q (by omega) (fun e => by have := (hr q e.symm).1; omega)]
    exact hb
  case assign =>
    intro l j W K hj hI hks hK
    have HK : Hid _ := hK
    have HI : Hid _ := hI
    unfold pwV
    clear hK hI hks hj
    gi_wp2
    exact HK.out _ _ ⟨Nat.le_refl _, fun k o _ hk ho => hk⟩ (KS.refl _ _) ⟨HI.out, rfl⟩
  case body =>
    rintro l j a' W hj ⟨⟨hk, hb, hno⟩, rfl⟩ hks
    have hz := hk.size
    have HK : Hid (KS (fun b => b < q + 3 ∧ b ≠ q) U W) := hk
    have HBX : Hid (W.heap[q]? = some (.cells #[.int .i64 0] 3 (0, 0))) := hb
    have HNO : Hid (∀ k, 1 ≤ k → k < j → ¬ pr A.k.toNat N (pwN A.k.toNat N i k) (pwN A.k.toNat N i k) = pwN A.k.toNat N i k) := hno
    have HMW : Hid (MO W ob A M N) := HM0.out.below (hk.base HBU.out (fun b hb => ⟨by omega, by omega⟩))
    have hc : W.cell? ⟨w.heap.size, 0, none⟩ = some (.pointer (some ⟨ob, 0, none⟩)) := by
      rw [World.cell?_of_block (a := ⟨w.heap.size, 0, none⟩) (hk.block w.heap.size ⟨by omega, by omega⟩)]; exact HU3.out
    have HLT : Hid (j < M.length + 1) := hj
    clear hk hb hno hks
    by_cases hj0 : j = 0
    · subst hj0
      gi_wp2
      refine ⟨trivial, ?_⟩
      gi_wp2
      refine ⟨⟨Nat.le_refl _, fun k o _ hk ho => hk⟩, KS.refl _ _, HK.out, HBX.out, fun k h1 h2 => by omega⟩
    · have hjI : (0 : Int) < (j : Int) := by omega
      have hjd : decide ((0 : Int) < (j : Int)) = true := decide_eq_true hjI
      obtain ⟨p, hp⟩ : ∃ p, pwN A.k.toNat N i j = p := ⟨_, rfl⟩
      have HP : Hid (pwN A.k.toNat N i j = p) := hp
      have hpl : p < M.length := by rw [← hp]; exact HMon.out.pw_lt hi j
      have HJ1 : Hid (1 ≤ j) := by show 1 ≤ j; omega
      rw [hp]
      clear hp
      gi_wp2
      refine ⟨trivial, fun _ => by omega, ?_⟩
      refine (CallsIn.inRound l (callsIn_wide.2 (isIdem_any HMW.out p hpl))).mono ?_
      rintro e W3 ⟨rfl, hb3⟩
      have HK3 : Hid (KS (fun b => b < q + 3 ∧ b ≠ q) W W3) := KS.below (fun b hb => by omega) hb3
      have HKF : Hid (KeepsFrom U.heap.size W W3) := ⟨hb3.size, fun k o _ hk ho => (hb3.block k (Array.getElem?_eq_some_iff.1 hk).1).trans hk⟩
      have HBX3 : Hid (W3.heap[q]? = some (.cells #[.int .i64 0] 3 (0, 0))) := by show _ = _; rw [hb3.block q (by omega)]; exact HBX.out
      clear hb3 hc
      by_cases hid : pr A.k.toNat N p p = p
      · have hE : idE A.k.toNat N p = true := decide_eq_true hid
        have HOM : Hid (OmQ A.k.toNat N i p) := ⟨j, HJ1.out, HP.out, hid⟩
        rw [hE]
        have hcq : W3.cell? ⟨q, 0, none⟩ = some (.int .i64 0) := cell_at HBX3.out rfl
        have hfq : W3.frozen? ⟨q, 0, none⟩ = false := frz_at HBX3.out
        clear hid hE
        gi_wp2
        refine ⟨rfl, ?_, ?_⟩
        · refine ⟨Nat.le_trans HKF.out.1 (by simp [World.setCell]), fun k o hk1 hk ho => ?_⟩
          rw [heap_set_other (fun e => by omega)]
          exact HKF.out.2 k o hk1 hk ho
        · exact ⟨(HK.out.trans HK3.out).set (by omega), p, heap_set HBX3.out, HOM.out⟩
      · have hE : idE A.k.toNat N p = false := decide_eq_false hid
        have HNI : Hid (¬ pr A.k.toNat N p p = p) := hid
        rw [hE]
        clear hid hE
        gi_wp2
        refine ⟨HKF.out, HK3.out, HK.out.trans HK3.out, HBX3.out, fun k h1 h2 => ?_⟩
        by_cases e : k = j
        · rw [e, HP.out]; exact HNI.out
        · exact HNO.out k h1 (by omega)
  case done =>
    rintro D W hD ⟨hk, hb, hno⟩ hK
    exfalso
    obtain ⟨m, m1, m2, m3⟩ := HMon.out.om_ex hi
    exact hno m m1 (by omega) m3
  case stop =>
    rintro D W hD ⟨hk, x, hb, hx⟩ hKD
    have hz := hk.size
    have HK : Hid (KS (fun b => b < q + 3 ∧ b ≠ q) U W) := hk
    have HX : Hid (OmQ A.k.toNat N i x) := hx
    have HKD : Hid (W.heap[D]? = some (.deferred (some []))) := hKD
    have hcq : W.cell? ⟨q, 0, none⟩ = some (.int .i64 (x : Int)) := cell_at hb rfl
    clear hk hb hx hKD
    gi_wp2
    refine ⟨by simp, .inl ⟨_, _, rfl, run_takeDeferred HKD.out, ?_⟩⟩
    refine ⟨_, results_tmp2 rfl _ _ _, ⟨x, rfl, HX.out⟩, ?_⟩
    exact (HK.out.base HBU.out (fun b hb => ⟨by omega, by omega⟩)).grown (grownBy_putObj' W D _) (by omega) (fun k e => by cases e; omega)

theorem omega_any {w : World} {ob : Nat} {A : Aut} {M : List (List Nat)} {N : List Nat} (h : MO w ob A M N) (i : Nat) (hi : i < M.length) :
    Calls Try.prog 15 #[.pointer (some ⟨ob, 0, none⟩), .int .i64 i] w fun e w' => (∃ x, e = .returned (.tuple #[.int .i64 (x : Nat), .int .i64 0]) ∧ OmQ A.k.toNat N i x) ∧ Below w.heap.size w w' :=
  callsIn_wide.1 (omega_in 3 (by omega) h i hi)
end Go.Proofs.Ytflclnkaccbfcaa

namespace Go.Proofs.Ytflclnkaccbfcaa
open Go Go.RowKit Go.Lib Go.Maps
set_option linter.unusedVariables false
attribute [-instance] List.instBEq instBEqProd

theorem num16_any (n : Int) (w : World) : Calls Try.prog 21 #[.int .i64 n] w fun e w' => e = .returned (.int .i64 n) ∧ w = w' := by
  go_enter Try.func21, Try.ntmps21
  go_wp2
  go_ret
  exact ⟨rfl, rfl⟩

theorem drew_twiceE (w : World) (q n : Nat) : (w.drewN q).drewN n = w.drewN (q + n) := by simp [World.drewN, Nat.add_assoc]

theorem drewN_belowE (w : World) (q : Nat) : Below w.heap.size w (w.drewN q) := ⟨rfl, rfl, rfl, Nat.le_refl _, fun _ _ => rfl⟩

set_option maxHeartbeats 1000000 in
set_option maxRecDepth 100000 in
theorem isame_any (a1 a2 : Option Addr) (c1 c2 : Nat) (xs : List Int) (w : World) (g1 : SR w a1 (zC xs)) (g2 : SR w a2 (zC xs)) (hm1 : xs.length ≤ 9223372036854775806) :
    Calls Try.prog 23 #[.slice a1 xs.length c1, .slice a2 xs.length c2] w fun e w' => e = .returned (.bool true) ∧ Below w.heap.size w w' := by
  have H1 : Hid (SR w a1 (zC xs)) := g1
  have H2 : Hid (SR w a2 (zC xs)) := g2
  clear g1 g2
  go_enter Try.func23, Try.ntmps23
  go_wp2_with fail
  go_loopw [5] (fun vi wr => ∃ i q : Nat, vi = .int .i64 i ∧ i ≤ xs.length ∧ wr = w.drewN q) (fun vi _ => xs.length - (Go.Lib.intOf vi).toNat)
  case atStart => exact ⟨0, 0, rfl, Nat.zero_le _, rfl⟩
  case round =>
    obtain ⟨i, q, rfl, hi, rfl⟩ := hrel
    by_cases hlt : i < xs.length
    · obtain ⟨ga, oa, rfl, _, ca⟩ := H1.out.int hlt
      obtain ⟨gb, ob, rfl, _, cb⟩ := H2.out.int hlt
      obtain ⟨x, hx⟩ : ∃ x, xs.getD i 0 = x := ⟨_, rfl⟩
      rw [hx] at ca cb
      clear hx
      go_wp2_with fail
      go_quiet (fail)
      go_wp2
      go_roundw
      case rel => exact ⟨i + 1, _, by go_num, by omega, rfl⟩
      case measure => simp [Go.Lib.intOf]; omega
    · have hiI : ¬ (i : Int) < xs.length := by omega
      go_wp2_with fail
      go_ret
      exact ⟨rfl, drewN_belowE w q⟩

set_option maxHeartbeats 1000000 in
set_option maxRecDepth 100000 in
theorem icheck_no (p : Option Addr) (a : Option Addr) (n c : Nat) (w : World) (h : NoM w (.pointer p)) : Calls Try.prog 43 #[.pointer p, .slice a n c] w fun e w' => e = .returned (.int .i64 1) ∧ w = w' := by
  have HX : Hid (NoM w (.pointer p)) := h
  clear h
  go_enter Try.func43, Try.ntmps43
  go_wp2_with fail
  refine (mlen_no _ _ HX.out).mono ?_
  rintro e w1 ⟨rfl, rfl⟩
  go_wp2_with fail
  go_ret
  exact ⟨rfl, rfl⟩

set_option maxHeartbeats 1000000 in
set_option maxRecDepth 100000 in
theorem icheckI_no (p : Option Addr) (a : Option Addr) (n c : Nat) (w : World) (h : NoM w (.pointer p)) : Calls Try.prog 57 #[.pointer p, .slice a n c] w fun e w' => e = .returned (.int .i64 1) ∧ w = w' := by
  have HX : Hid (NoM w (.pointer p)) := h
  clear h
  go_enter Try.func57, Try.ntmps57
  go_wp2_with fail
  refine (icheck_no _ _ _ _ _ HX.out).mono ?_
  rintro e w1 ⟨rfl, rfl⟩
  go_wp2_with fail
  go_ret
  exact ⟨rfl, rfl⟩

set_option maxHeartbeats 1000000 in
set_option maxRecDepth 100000 in
theorem iIdempotent_no (p : Option Addr) (w : World) (h : NoM w (.pointer p)) : Calls Try.prog 12 #[.pointer p, .int .i64 0] w fun e w' => e = .returned (.tuple #[.bool false, .int .i64 1]) ∧ Below w.heap.size w w' := by
  have HB : Hid (Below w.heap.size w (w.alloc (.cells #[.int .i64 0] 3))) := (go_on (Below.refl _ _) (below_new _ _))
  have HX : Hid (NoM (w.alloc (.cells #[.int .i64 0] 3)) (.pointer p)) := h.below HB.out
  clear h
  go_enter Try.func12, Try.ntmps12
  go_wp2_with fail
  refine (icheck_no _ _ _ _ _ HX.out).mono ?_
  rintro e w1 ⟨rfl, rfl⟩
  go_wp2_with fail
  go_ret2
  exact ⟨rfl, HB.out⟩

set_option maxHeartbeats 1000000 in
set_option maxRecDepth 100000 in
theorem iList_no (p : Option Addr) (w : World) (h : NoM w (.pointer p)) : Calls Try.prog 14 #[.pointer p] w fun e w' => e = .returned (.tuple #[.slice none 0 0, .int .i64 1]) ∧ Below w.heap.size w w' := by
  have HB : Hid (Below w.heap.size w (w.alloc (.cells #[.pointer p] 22))) := (go_on (Below.refl _ _) (below_new _ _))
  have HX : Hid (NoM (w.alloc (.cells #[.pointer p] 22)) (.pointer p)) := h.below HB.out
  clear h
  go_enter Try.func14, Try.ntmps14
  go_wp2_with fail
  refine (icheck_no _ _ _ _ _ HX.out).mono ?_
  rintro e w1 ⟨rfl, rfl⟩
  go_wp2_with fail
  go_ret2
  exact ⟨rfl, HB.out⟩

set_option maxHeartbeats 1000000 in
set_option maxRecDepth 100000 in
theorem iOmega_no (p : Option Addr) (w : World) (h : NoM w (.pointer p)) : Calls Try.prog 15 #[.pointer p, .int .i64 0] w fun e w' => e = .returned (.tuple #[.int .i64 0, .int .i64 1]) ∧ Below w.heap.size w w' := by
  have HB : Hid (Below w.heap.size w ((w.alloc (.cells #[.pointer p] 22)).alloc (.cells #[.int .i64 0] 3))) := (go_on ((go_on (Below.refl _ _) (below_new _ _))) (below_new _ _))
  have HX : Hid (NoM ((w.alloc (.cells #[.pointer p] 22)).alloc (.cells #[.int .i64 0] 3)) (.pointer p)) := h.below HB.out
  clear h
  go_enter Try.func15, Try.ntmps15
  go_wp2_with fail
  refine (icheck_no _ _ _ _ _ HX.out).mono ?_
  rintro e w1 ⟨rfl, rfl⟩
  go_wp2_with fail
  go_ret2
  exact ⟨rfl, HB.out⟩

set_option maxHeartbeats 1000000 in
set_option maxRecDepth 100000 in
theorem iCycle_no (p : Option Addr) (w : World) (h : NoM w (.pointer p)) : Calls Try.prog 17 #[.pointer p, .int .i64 0] w fun e w' => e = .returned (.tuple #[.int .i64 0, .int .i64 0, .int .i64 1]) ∧ Below w.heap.size w w' := by
  have HB : Hid (Below w.heap.size w (w.alloc (.cells #[.int .i64 0] 3))) := (go_on (Below.refl _ _) (below_new _ _))
  have HX : Hid (NoM (w.alloc (.cells #[.int .i64 0] 3)) (.pointer p)) := h.below HB.out
  clear h
  go_enter Try.func17, Try.ntmps17
  go_wp2_with fail
  refine (icheck_no _ _ _ _ _ HX.out).mono ?_
  rintro e w1 ⟨rfl, rfl⟩
  go_wp2_with fail
  go_ret3
  exact ⟨rfl, HB.out⟩

set_option maxHeartbeats 1000000 in
set_option maxRecDepth 100000 in
theorem iExponent_no (p : Option Addr) (w : World) (h : NoM w (.pointer p)) : Calls Try.prog 19 #[.pointer p] w fun e w' => e = .returned (.tuple #[.int .i64 0, .int .i64 1]) ∧ Below w.heap.size w w' := by
  have HB : Hid (Below w.heap.size w w) := Below.refl _ _
  have HX : Hid (NoM w (.pointer p)) := h.below HB.out
  clear h
  go_enter Try.func19, Try.ntmps19
  go_wp2_with fail
  refine (icheck_no _ _ _ _ _ HX.out).mono ?_
  rintro e w1 ⟨rfl, rfl⟩
  go_wp2_with fail
  go_ret2
  exact ⟨rfl, HB.out⟩

set_option maxHeartbeats 1000000 in
set_option maxRecDepth 100000 in
theorem iRegular_no (p : Option Addr) (w : World) (h : NoM w (.pointer p)) : Calls Try.prog 25 #[.pointer p, .int .i64 0] w fun e w' => e = .returned (.tuple #[.bool false, .int .i64 1]) ∧ Below w.heap.size w w' := by
  have HB : Hid (Below w.heap.size w (w.alloc (.cells #[.int .i64 0] 3))) := (go_on (Below.refl _ _) (below_new _ _))
  have HX : Hid (NoM (w.alloc (.cells #[.int .i64 0] 3)) (.pointer p)) := h.below HB.out
  clear h
  go_enter Try.func25, Try.ntmps25
  go_wp2_with fail
  refine (icheck_no _ _ _ _ _ HX.out).mono ?_
  rintro e w1 ⟨rfl, rfl⟩
  go_wp2_with fail
  go_ret2
  exact ⟨rfl, HB.out⟩

set_option maxHeartbeats 1000000 in
set_option maxRecDepth 100000 in
theorem iInverses_no (p : Option Addr) (w : World) (h : NoM w (.pointer p)) : Calls Try.prog 27 #[.pointer p, .int .i64 0] w fun e w' => e = .returned (.tuple #[.slice none 0 0, .int .i64 1]) ∧ Below w.heap.size w w' := by
  have HB : Hid (Below w.heap.size w (((w.alloc (.cells #[.pointer p] 22)).alloc (.cells #[.int .i64 0] 3)).alloc (.cells #[.int .i64 0] 3))) := (go_on ((go_on ((go_on (Below.refl _ _) (below_new _ _))) (below_new _ _))) (below_new _ _))
  have HX : Hid (NoM (((w.alloc (.cells #[.pointer p] 22)).alloc (.cells #[.int .i64 0] 3)).alloc (.cells #[.int .i64 0] 3)) (.pointer p)) := h.below HB.out
  clear h
  go_enter Try.func27, Try.ntmps27
  go_wp2_with fail
  refine (icheck_no _ _ _ _ _ HX.out).mono ?_
  rintro e w1 ⟨rfl, rfl⟩
  go_wp2_with fail
  go_ret2
  exact ⟨rfl, HB.out⟩

set_option maxHeartbeats 1000000 in
set_option maxRecDepth 100000 in
theorem iBelow_no (p : Option Addr) (w : World) (h : NoM w (.pointer p)) : Calls Try.prog 29 #[.pointer p, .int .i64 0, .int .i64 0] w fun e w' => e = .returned (.tuple #[.bool false, .int .i64 1]) ∧ Below w.heap.size w w' := by
  have HB : Hid (Below w.heap.size w (w.alloc (.cells #[.int .i64 0, .int .i64 0] 3))) := (go_on (Below.refl _ _) (below_new _ _))
  have HX : Hid (NoM (w.alloc (.cells #[.int .i64 0, .int .i64 0] 3)) (.pointer p)) := h.below HB.out
  clear h
  go_enter Try.func29, Try.ntmps29
  go_wp2_with fail
  refine (icheckI_no _ _ _ _ _ HX.out).mono ?_
  rintro e w1 ⟨rfl, rfl⟩
  go_wp2_with fail
  go_ret2
  exact ⟨rfl, HB.out⟩

set_option maxHeartbeats 1000000 in
set_option maxRecDepth 100000 in
theorem iBetween_no (p : Option Addr) (w : World) (h : NoM w (.pointer p)) : Calls Try.prog 31 #[.pointer p, .int .i64 0] w fun e w' => e = .returned (.tuple #[.slice none 0 0, .int .i64 1]) ∧ Below w.heap.size w w' := by
  have HB : Hid (Below w.heap.size w (((w.alloc (.cells #[.pointer p] 22)).alloc (.cells #[.int .i64 0] 3)).alloc (.cells #[.int .i64 0] 3))) := (go_on ((go_on ((go_on (Below.refl _ _) (below_new _ _))) (below_new _ _))) (below_new _ _))
  have HX : Hid (NoM (((w.alloc (.cells #[.pointer p] 22)).alloc (.cells #[.int .i64 0] 3)).alloc (.cells #[.int .i64 0] 3)) (.pointer p)) := h.below HB.out
  clear h
  go_enter Try.func31, Try.ntmps31
  go_wp2_with fail
  refine (icheckI_no _ _ _ _ _ HX.out).mono ?_
  rintro e w1 ⟨rfl, rfl⟩
  go_wp2_with fail
  go_ret2
  exact ⟨rfl, HB.out⟩

end Go.Proofs.Ytflclnkaccbfcaa
