/- terms.variablesOf: which variables occur. -/
import Derived.Test.YthhlamehbcidgaaY32
namespace Go.Proofs.Ythhlamehbcidgaa
open Go Go.RowKit Go.Lib
set_option linter.unusedVariables false

/-- Does the variable occur? -/
def occ (L : List (Int × Nat)) (c : Nat) : Bool := L.any fun p => p.1 == 2 && p.2 == c
theorem eqg_sg (k k' : Int) (c c' : Nat) (w : World) : (Op.equalIn 10000 81 (.agg #[.int .i64 k, .int .u8 (c : Nat)]) (.agg #[.int .i64 k', .int .u8 (c' : Nat)])).run Try.prog w = .ok (k == k' && c == c') w := by
  rw [show (10000 : Nat) = 9999 + 1 from rfl, run_equalIn_struct w 9999 81 _ _ Try.struct_sg (by kernel_rfl)]
  have hl := Try.fieldsSg
  generalize (Try.prog.fieldsOf 81).toList = fs at hl
  obtain ⟨f1, f2, rfl⟩ : ∃ f1 f2, fs = [f1, f2] := by
    match fs, congrArg List.length hl with
    | [f1, f2], _ => exact ⟨f1, f2, rfl⟩
  simp only [List.map_cons, List.map_nil, List.cons.injEq, Prod.mk.injEq, and_true] at hl
  obtain ⟨⟨q1, q2, q3⟩, q4, q5, q6⟩ := hl
  have p1 : ∀ (x : Int) (y : Nat), (part 3 #[.int .i64 x, .int .u8 (y : Nat)] 0).run Try.prog w = .ok (.int .i64 x) w := fun x y => by simp [part, Sem.run_bind, Try.isAgg3]
  have p2 : ∀ (x : Int) (y : Nat), (part 5 #[.int .i64 x, .int .u8 (y : Nat)] 1).run Try.prog w = .ok (.int .u8 (y : Nat)) w := fun x y => by simp [part, Sem.run_bind, Try.isAgg5]
  have e1 := run_equalIn_int (P := Try.prog) w 9998 3 .i64 .i64 k k' Try.underlying3
  have e2 := run_equalIn_int (P := Try.prog) w 9998 5 .u8 .u8 (c : Nat) (c' : Nat) Try.underlying5
  have e3 : ((c : Int) == (c' : Int)) = (c == c') := by
    by_cases h : c = c'
    · subst h; simp
    · rw [beq_eq_false_iff_ne.2 h, beq_eq_false_iff_ne.2 (by omega)]
  rw [e3] at e2
  cases hk : (k == k') with
  | true =>
    rw [hk] at e1
    simp [Op.eqFields, q1, q2, q3, q4, q5, q6, Sem.run_bind, p1, p2, Result.andThen_ok, e1, e2]
    by_cases h : c = c'
    · subst h; simp
    · rw [if_neg h, beq_eq_false_iff_ne.2 h]
  | false => rw [hk] at e1; simp [Op.eqFields, q1, q2, q3, q4, q5, q6, Sem.run_bind, p1, Result.andThen_ok, e1]
theorem eql_sg (k k' : Int) (c c' : Nat) (w : World) : (binOp .eql 81 (.agg #[.int .i64 k, .int .u8 (c : Nat)]) (.agg #[.int .i64 k', .int .u8 (c' : Nat)])).run Try.prog w = .ok (.bool (k == k' && c == c')) w := by
  simp only [run_eql_struct, eqg_sg, Result.andThen_ok]

/-- What Index leaves. -/
def IxS (L : List (Int × Nat)) (c : Nat) (w : World) (e : Ending) (w' : World) : Prop := (∃ r : Int, e = .returned (.int .i64 r) ∧ decide (0 ≤ r) = occ L c ∧ -1 ≤ r) ∧ Below w.heap.size w w'
theorem occ_no {L : List (Int × Nat)} {c : Nat} (h : ∀ j, j < L.length → (2 == (L.getD j (0, 0)).1 && c == (L.getD j (0, 0)).2) = false) : occ L c = false := by
  unfold occ
  rw [List.any_eq_false]
  intro p hp hq
  obtain ⟨j, hj, e⟩ := List.getElem_of_mem hp
  have h1 := h j hj
  rw [List.getD_eq_getElem?_getD, List.getElem?_eq_getElem hj, Option.getD_some, e] at h1
  simp only [Bool.and_eq_true, beq_iff_eq] at hq
  rw [hq.1, hq.2] at h1
  simp at h1
theorem occ_yes {L : List (Int × Nat)} {c j : Nat} (hj : j < L.length) (h : (2 == (L.getD j (0, 0)).1 && c == (L.getD j (0, 0)).2) = true) : occ L c = true := by
  unfold occ
  rw [List.any_eq_true]
  rw [List.getD_eq_getElem?_getD, List.getElem?_eq_getElem hj, Option.getD_some] at h
  simp only [Bool.and_eq_true, beq_iff_eq] at h
  exact ⟨_, List.getElem_mem hj, by simp only [Bool.and_eq_true, beq_iff_eq]; exact ⟨h.1.symm, h.2.symm⟩⟩

set_option maxHeartbeats 4000000 in
set_option maxRecDepth 100000 in
theorem indexS_any (v : Value) (L : List (Int × Nat)) (c : Nat) (w : World) (h : SgR w v L) (hL : L.length ≤ 9223372036854775000) :
    Calls Try.prog 103 #[v, .agg #[.int .i64 2, .int .u8 (c : Nat)]] w (IxS L c w) := by
  obtain ⟨a1, c1, e1⟩ := h.len
  subst e1
  obtain ⟨w1, hw1⟩ : ∃ w1, w1 = w.alloc (.cells #[.int .i64 2, .int .u8 (c : Nat)] 81) := ⟨_, rfl⟩
  have HW1 : Hid (w1 = w.alloc (.cells #[.int .i64 2, .int .u8 (c : Nat)] 81)) := hw1
  have hb1 : Below w.heap.size w w1 := by rw [hw1]; exact below_new _ _
  have HX1 : Hid (w1.heap[w.heap.size]? = some (.cells #[.int .i64 2, .int .u8 (c : Nat)] 81 (0, 0))) := by show _ = _; rw [hw1]; exact heap_last _ _
  have HXL : Hid (w.heap.size < w1.heap.size) := (Array.getElem?_eq_some_iff.1 HX1.out).1
  have HB1 : Hid (Below w.heap.size w w1) := hb1
  have HA : Hid (SgR w1 (.slice a1 L.length c1) L) := h.below hb1
  clear h hw1 hb1
  go_enter Try.func103, Try.ntmps103
  go_wp2_with fail
  rw [← HW1.out]
  go_loopw [8] (fun vi wr => ∃ i : Nat, vi = .int .i64 i ∧ i ≤ L.length ∧ (∀ j, j < i → (2 == (L.getD j (0, 0)).1 && c == (L.getD j (0, 0)).2) = false) ∧ Below w1.heap.size w1 wr) (fun vi _ => L.length - (Go.RowKit.intOf vi).toNat)
  case atStart => exact ⟨0, rfl, Nat.zero_le _, fun j hj => by omega, Below.refl _ _⟩
  case round =>
    obtain ⟨i, rfl, hin, hno, hbr⟩ := hrel
    have HBR : Hid (Below w1.heap.size w1 wr) := hbr
    have HNO : Hid (∀ j, j < i → (2 == (L.getD j (0, 0)).1 && c == (L.getD j (0, 0)).2) = false) := hno
    have HIN : Hid (i ≤ L.length) := hin
    clear hno
    by_cases hlt : i < L.length
    · have hiI : (i : Int) < L.length := by omega
      have hid : decide ((i : Int) < L.length) = true := decide_eq_true hiI
      obtain ⟨a1', cap1, e1, hr1⟩ := HA.out.below hbr
      simp only [Value.slice.injEq] at e1
      obtain ⟨rfl, _, rfl⟩ := e1
      obtain ⟨g1, o1, rfl, hg1, x1, y1, z1⟩ := hr1 i hlt
      have hX : wr.heap[w.heap.size]? = some (.cells #[.int .i64 2, .int .u8 (c : Nat)] 81 (0, 0)) := (hbr.block _ HXL.out).trans HX1.out
      have x0 : wr.cell? ⟨w.heap.size, 0, none⟩ = some (.int .i64 2) := cell_at hX rfl
      have y0 : wr.cell? ⟨w.heap.size, 1, none⟩ = some (.int .u8 (c : Nat)) := cell_at hX rfl
      obtain ⟨k, hk⟩ : ∃ k, (L.getD i (0, 0)).1 = k := ⟨_, rfl⟩
      obtain ⟨n, hn⟩ : ∃ n, (L.getD i (0, 0)).2 = n := ⟨_, rfl⟩
      have HKN : Hid ((L.getD i (0, 0)).1 = k ∧ (L.getD i (0, 0)).2 = n) := ⟨hk, hn⟩
      rw [hk] at x1
      rw [hn] at y1
      have HLT : Hid (i < L.length) := hlt
      clear hr1 hbr z1 hk hn hX
      have hne := eql_sg 2 k c n
      have hw3 : IntKind.i64.wrap ((i : Int) + 1) = ((i + 1 : Nat) : Int) := by rw [IntKind.wrap_i64]; omega
      have HDR : Hid (∀ nq, Below w1.heap.size w1 (wr.drewN nq)) := fun nq => by
        have hb : Below wr.heap.size wr (wr.drewN nq) := ⟨(Below.refl _ _ : Below wr.heap.size wr wr).os, (Below.refl _ _ : Below wr.heap.size wr wr).tape, (Below.refl _ _ : Below wr.heap.size wr wr).output, (Below.refl _ _ : Below wr.heap.size wr wr).size, (Below.refl _ _ : Below wr.heap.size wr wr).block⟩
        exact go_on HBR.out hb
      cases hq : (2 == k && c == n) with
      | true =>
        rw [hq] at hne
        have HQ : Hid ((2 == k && c == n) = true) := hq
        clear hq hlt hin
        go_upto_region 4 with fail
        go_quiet (fail)
        go_wp2_with fail
        go_ret
        refine ⟨⟨i, rfl, ?_, by omega⟩, go_on HB1.out (HDR.out _)⟩
        rw [occ_yes HLT.out (by rw [HKN.out.1, HKN.out.2]; exact HQ.out)]
        exact decide_eq_true (by omega)
      | false =>
        rw [hq] at hne
        have HQ : Hid ((2 == k && c == n) = false) := hq
        clear hq
        go_upto_region 4 with fail
        go_quiet (fail)
        go_wp2_with fail
        go_roundw
        case rel => exact ⟨i + 1, rfl, by omega, fun j hj => by
          by_cases e : j = i
          · subst e; rw [HKN.out.1, HKN.out.2]; exact HQ.out
          · exact HNO.out j (by omega), HDR.out _⟩
        case measure => simp [Go.RowKit.intOf]; omega
    · have hiI : ¬ (i : Int) < L.length := by omega
      have hid : decide ((i : Int) < L.length) = false := decide_eq_false hiI
      clear hbr
      go_wp2_with fail
      go_ret
      refine ⟨⟨-1, rfl, ?_, by omega⟩, go_on HB1.out HBR.out⟩
      rw [occ_no (fun j hj => HNO.out j (by have := HIN.out; omega))]
      rfl

set_option maxHeartbeats 2000000 in
set_option maxRecDepth 100000 in
theorem containsS_any (v : Value) (L : List (Int × Nat)) (c : Nat) (w : World) (h : SgR w v L) (hL : L.length ≤ 9223372036854775000) :
    Calls Try.prog 69 #[v, .agg #[.int .i64 2, .int .u8 (c : Nat)]] w fun e w' => e = .returned (.bool (occ L c)) ∧ Below w.heap.size w w' := by
  obtain ⟨w1, hw1⟩ : ∃ w1, w1 = w.alloc (.cells #[.int .i64 2, .int .u8 (c : Nat)] 81) := ⟨_, rfl⟩
  have HW1 : Hid (w1 = w.alloc (.cells #[.int .i64 2, .int .u8 (c : Nat)] 81)) := hw1
  have hb1 : Below w.heap.size w w1 := by rw [hw1]; exact below_new _ _
  have HB1 : Hid (Below w.heap.size w w1) := hb1
  have hX : w1.heap[w.heap.size]? = some (.cells #[.int .i64 2, .int .u8 (c : Nat)] 81 (0, 0)) := by rw [hw1]; exact heap_last _ _
  have x0 : w1.cell? ⟨w.heap.size, 0, none⟩ = some (.int .i64 2) := cell_at hX rfl
  have y0 : w1.cell? ⟨w.heap.size, 1, none⟩ = some (.int .u8 (c : Nat)) := cell_at hX rfl
  have HI : Hid (Calls Try.prog 103 #[v, .agg #[.int .i64 2, .int .u8 (c : Nat)]] w1 (IxS L c w1)) := indexS_any v L c w1 (h.below hb1) hL
  obtain ⟨a1, c1, e1⟩ := h.len
  subst e1
  clear h hw1 hb1 hX
  go_enter Try.func69, Try.ntmps69
  go_upto_region 1 with fail
  rw [← HW1.out]
  go_wp2_with fail
  refine Calls.mono HI.out ?_
  rintro e w2 ⟨⟨r, rfl, hr, hr1⟩, hb2⟩
  have HR : Hid (decide (0 ≤ r) = occ L c) := hr
  have HB2 : Hid (Below w.heap.size w w2) := go_on HB1.out hb2
  clear hr hb2 x0 y0
  go_wp2_with fail
  go_ret
  exact ⟨by rw [← HR.out]; rfl, HB2.out⟩
end Go.Proofs.Ythhlamehbcidgaa
