/- Proved: eggboxlaw13.TransTables answers true at every int n and every two lists of calls' data (P1306): two tables, called by turns, answer what the document's two tables answer, each as if it were alone; a size that is none is refused by both. No condition. -/
import Derived.Test.YtihjhkbbpphocaaW3
import Derived.Test.YtihjhkbbpphocaaAn
import Derived.SizedLaws
namespace Go.Proofs.Ytihjhkbbpphocaa.transTables
open Go Go.ChangeShapes Go.WideShapes Go.ChangeAt Go.RowKit Go.Lib
open Go.ChangeMaps (open_string shut_string)
set_option linter.unusedVariables false
attribute [-instance] List.instBEq

theorem eq_tn (a : Addr) (w : World) : (binOp .eql 65 (.pointer (some a)) (.pointer none)).run Try.prog w = .ok (.bool false) w := by
  simp only [binOp]
  simp only [Op.equal, Op.maxDepth]
  rw [show (10000 : Nat) = 9999 + 1 from rfl, Op.equalIn]
  simp [Sem.run_bind, run_underlying Try.underlying65]
theorem eq_tnn (w : World) : (binOp .eql 65 (.pointer none) (.pointer none)).run Try.prog w = .ok (.bool true) w := by
  simp only [binOp]
  simp only [Op.equal, Op.maxDepth]
  rw [show (10000 : Nat) = 9999 + 1 from rfl, Op.equalIn]
  simp [Sem.run_bind, run_underlying Try.underlying65]
theorem eq_rnn (w : World) : (binOp .eql 68 (.pointer none) (.pointer none)).run Try.prog w = .ok (.bool true) w := by
  simp only [binOp]
  simp only [Op.equal, Op.maxDepth]
  rw [show (10000 : Nat) = 9999 + 1 from rfl, Op.equalIn]
  simp [Sem.run_bind, run_underlying Try.underlying68]

theorem tb_lower {B base : Nat} {w : World} {b mb n : Nat} {vl : Value} {M : List (List Nat)} {D : DataW Unit} (h : TB base w b mb n vl M D) (hB : B ≤ base) : TB B w b mb n vl M D :=
  ⟨h.box, h.mp, h.mi, own_monoB h.row hB, Nat.le_trans hB h.lob, Nat.le_trans hB h.lom, h.all, h.most⟩
theorem rt_lower {B base : Nat} {w : World} {rb n : Nat} {vd : Value} {M : List (List Nat)} (h : RT base w rb n vd M) (hB : B ≤ base) : RT B w rb n vd M :=
  ⟨h.box, own_monoB h.row hB, Nat.le_trans hB h.lob, h.all, h.most⟩

set_option maxHeartbeats 16000000 in
set_option maxRecDepth 100000 in
theorem walk (n : Int) (v1 : Value) (n1 : Nat) (v2 : Value) (n2 : Nat) (W : World) (r1 : OR2 W v1 n1) (m1 : n1 ≤ maxLen) (r2 : OR2 W v2 n2) (m2 : n2 ≤ maxLen) :
    Calls Try.prog 6 #[.int .i64 n, v1, v2] W fun e W' => e = .returned (.bool true) ∧ Below W.heap.size W W' := by
  have hm1 : n1 ≤ 9223372036854775807 := Nat.le_trans m1 (by decide)
  have hm2 : n2 ≤ 9223372036854775807 := Nat.le_trans m2 (by decide)
  obtain ⟨a1, cap1, rfl, hr1⟩ := r1
  obtain ⟨a2, cap2, rfl, hr2⟩ := r2
  have HR1 : Hid (∀ i, i < n1 → ∃ g o k N t, ∃ f : Nat → Nat, a1 = some ⟨g, o, none⟩ ∧ g < W.heap.size ∧ (Lit.int .i64 N).wf = true ∧ W64 f ∧ ∀ j, j < 10 → W.cell? ⟨g, o + i * 10 + j, none⟩ = (opG k N f t)[j]?) := hr1
  have HR2 : Hid (∀ i, i < n2 → ∃ g o k N t, ∃ f : Nat → Nat, a2 = some ⟨g, o, none⟩ ∧ g < W.heap.size ∧ (Lit.int .i64 N).wf = true ∧ W64 f ∧ ∀ j, j < 10 → W.cell? ⟨g, o + i * 10 + j, none⟩ = (opG k N f t)[j]?) := hr2
  clear hr1 hr2 m1 m2
  by_cases hn : 1 ≤ n ∧ n ≤ 64
  · obtain ⟨m, rfl⟩ : ∃ m : Nat, n = m := ⟨n.toNat, by omega⟩
    go_enter Try.func6, Try.ntmps6
    go_wp2_with fail
    refine (tnew_any m (by omega) (by omega) W).mono ?_
    rintro e w1 ⟨rfl, hb1, ht1⟩
    have HB1 : Hid (Below W.heap.size W w1) := hb1
    have HT1 : Hid (TB W.heap.size w1 (W.heap.size + 1) W.heap.size m (.slice none 0 0) [] (.map [])) := ht1
    clear hb1 ht1
    go_wp2_with fail
    refine (tnew_any 3 (by omega) (by omega) w1).mono ?_
    rintro e w2 ⟨rfl, hb2, ht2⟩
    have HB2 : Hid (Below w1.heap.size w1 w2) := hb2
    have HT2 : Hid (TB w1.heap.size w2 (w1.heap.size + 1) w1.heap.size 3 (.slice none 0 0) [] (.map [])) := ht2
    clear hb2 ht2
    go_wp2_with fail
    refine (rnew_any m (by omega) (by omega) w2).mono ?_
    rintro e w3 ⟨rfl, hb3, ht3⟩
    have HB3 : Hid (Below w2.heap.size w2 w3) := hb3
    have HT3 : Hid (RT w2.heap.size w3 w2.heap.size m (.slice none 0 0) []) := ht3
    clear hb3 ht3
    go_wp2_with fail
    refine (rnew_any 3 (by omega) (by omega) w3).mono ?_
    rintro e w4 ⟨rfl, hb4, ht4⟩
    have HB4 : Hid (Below w3.heap.size w3 w4) := hb4
    have HT4 : Hid (RT w3.heap.size w4 w3.heap.size 3 (.slice none 0 0) []) := ht4
    clear hb4 ht4
    have he1 := fun w => eq_tn ⟨W.heap.size + 1, 0, none⟩ w
    have he2 := fun w => eq_rnil ⟨w2.heap.size, 0, none⟩ w
    go_wp2_with (first
    | (go_at_call 10; refine (num13_any _ _).mono ?_; rintro e wn ⟨rfl, rfl⟩)
    | (go_at_call 14; refine (knows13_any _).mono ?_; rintro e w5 ⟨rfl, hb⟩; have HB5 : Hid (Below w4.heap.size w4 w5) := hb; clear hb))
    have HW5 : Hid (Below W.heap.size W w5) := go_on' HB1.out (go_on' HB2.out (go_on' HB3.out (go_on' HB4.out HB5.out)))
    have H1 : Hid (Below w1.heap.size w1 w5) := go_on' HB2.out (go_on' HB3.out (go_on' HB4.out HB5.out))
    have H2 : Hid (Below w2.heap.size w2 w5) := go_on' HB3.out (go_on' HB4.out HB5.out)
    have H3 : Hid (Below w3.heap.size w3 w5) := go_on' HB4.out HB5.out
    have z1 := HT1.out.ts (j := W.heap.size + 1) (.inl rfl)
    have z2 := HT2.out.ts (j := w1.heap.size + 1) (.inl rfl)
    have z3 := HT3.out.ds (j := w2.heap.size) (.inl rfl)
    have z4 := HT4.out.ds (j := w3.heap.size) (.inl rfl)
    have hno : ∀ j, (Value.slice none 0 0).ownBlock ≠ some j := fun j h => by cases h
    obtain ⟨S1, S2, hq1, hq2, hdj⟩ : ∃ S1 S2 : Nat → Prop, QP W.heap.size w5 (.pointer (some ⟨W.heap.size + 1, 0, none⟩)) (.pointer (some ⟨w2.heap.size, 0, none⟩)) S1 ∧ QP W.heap.size w5 (.pointer (some ⟨w1.heap.size + 1, 0, none⟩)) (.pointer (some ⟨w3.heap.size, 0, none⟩)) S2 ∧ ∀ j, S1 j → ¬ S2 j := by
      refine ⟨PS (W.heap.size + 1) W.heap.size w2.heap.size (.slice none 0 0) (.slice none 0 0), PS (w1.heap.size + 1) w1.heap.size w3.heap.size (.slice none 0 0) (.slice none 0 0), .inr ⟨_, _, _, m, _, _, _, _, rfl, rfl, ⟨HT1.out.below H1.out, rt_lower (HT3.out.below H3.out) (by omega), NK.empty, ?_⟩, fun j => Iff.rfl⟩, .inr ⟨_, _, _, 3, _, _, _, _, rfl, rfl, ⟨tb_lower (HT2.out.below H2.out) (by omega), rt_lower (HT4.out.below HB5.out) (by omega), NK.empty, ?_⟩, fun j => Iff.rfl⟩, ?_⟩
      · intro j hj hd
        rcases hj with e | e | e <;> rcases hd with c | c
        all_goals first | exact hno _ e | exact hno _ c | omega
      · intro j hj hd
        rcases hj with e | e | e <;> rcases hd with c | c
        all_goals first | exact hno _ e | exact hno _ c | omega
      · intro j hj hd
        rcases hj with (e | e | e) | (e | e) <;> rcases hd with (c | c | c) | (c | c)
        all_goals first | exact hno _ e | exact hno _ c | omega
    have HQ1 : Hid _ := hq1
    have HQ2 : Hid _ := hq2
    have HDJ : Hid _ := hdj
    clear hq1 hq2 hdj z1 z2 z3 z4 hno HT1 HT2 HT3 HT4 HB1 HB2 HB3 HB4 HB5 H1 H2 H3 he1 he2
    go_loopw [15] (fun vi wr => ∃ (i : Nat) (S1 S2 : Nat → Prop), vi = .int .i64 i ∧ i ≤ max n1 n2 ∧ QP W.heap.size wr (.pointer (some ⟨W.heap.size + 1, 0, none⟩)) (.pointer (some ⟨w2.heap.size, 0, none⟩)) S1 ∧ QP W.heap.size wr (.pointer (some ⟨w1.heap.size + 1, 0, none⟩)) (.pointer (some ⟨w3.heap.size, 0, none⟩)) S2 ∧ (∀ j, S1 j → ¬ S2 j) ∧ Below W.heap.size W wr) (fun vi _ => max n1 n2 - (intOf vi).toNat)
    case atStart => exact ⟨0, S1, S2, rfl, Nat.zero_le _, HQ1.out, HQ2.out, HDJ.out, HW5.out⟩
    case round =>
      clear HQ1 HQ2 HDJ
      obtain ⟨i, T1, T2, rfl, hin, hq1, hq2, hdj, hb⟩ := hrel
      have HQ1 : Hid (QP W.heap.size wr (.pointer (some ⟨W.heap.size + 1, 0, none⟩)) (.pointer (some ⟨w2.heap.size, 0, none⟩)) T1) := hq1
      have HQ2 : Hid (QP W.heap.size wr (.pointer (some ⟨w1.heap.size + 1, 0, none⟩)) (.pointer (some ⟨w3.heap.size, 0, none⟩)) T2) := hq2
      have HDJ : Hid (∀ j, T1 j → ¬ T2 j) := hdj
      have HB : Hid (Below W.heap.size W wr) := hb
      have hbs := hb.size
      clear hq1 hq2 hdj hb
      by_cases ha1 : i < n1
      · have hi1 : (i : Int) < n1 := by omega
        have hd1 : decide ((i : Int) < n1) = true := decide_eq_true hi1
        obtain ⟨g1, o1, k1, N1, t1, f1, rfl, hg1, hN1, hf1, hc1⟩ := HR1.out i ha1
        have HG1 : Hid (g1 < W.heap.size) := hg1
        have HC1 : Hid (∀ j, j < 10 → W.cell? ⟨g1, o1 + i * 10 + j, none⟩ = (opG k1 N1 f1 t1)[j]?) := hc1
        have HO1 : Hid ((Lit.int .i64 N1).wf = true ∧ W64 f1) := ⟨hN1, hf1⟩
        clear hg1 hN1 hf1 hc1
        have e0 : wr.cell? ⟨g1, o1 + i * 10, none⟩ = some (.int .i64 k1) := by rw [below_cell HB.out HG1.out]; exact HC1.out 0 (by decide)
        have e1 : wr.cell? ⟨g1, o1 + i * 10 + 1, none⟩ = some (.int .i64 N1) := by rw [below_cell HB.out HG1.out]; exact HC1.out 1 (by decide)
        have e2 : wr.cell? ⟨g1, o1 + i * 10 + 2, none⟩ = some (.int .u64 (f1 0 : Nat)) := by rw [below_cell HB.out HG1.out]; exact HC1.out 2 (by decide)
        have e3 : wr.cell? ⟨g1, o1 + i * 10 + 3, none⟩ = some (.int .u64 (f1 1 : Nat)) := by rw [below_cell HB.out HG1.out]; exact HC1.out 3 (by decide)
        have e4 : wr.cell? ⟨g1, o1 + i * 10 + 4, none⟩ = some (.int .u64 (f1 2 : Nat)) := by rw [below_cell HB.out HG1.out]; exact HC1.out 4 (by decide)
        have e5 : wr.cell? ⟨g1, o1 + i * 10 + 5, none⟩ = some (.int .u64 (f1 3 : Nat)) := by rw [below_cell HB.out HG1.out]; exact HC1.out 5 (by decide)
        have e6 : wr.cell? ⟨g1, o1 + i * 10 + 6, none⟩ = some (.int .u64 (f1 4 : Nat)) := by rw [below_cell HB.out HG1.out]; exact HC1.out 6 (by decide)
        have e7 : wr.cell? ⟨g1, o1 + i * 10 + 7, none⟩ = some (.int .u64 (f1 5 : Nat)) := by rw [below_cell HB.out HG1.out]; exact HC1.out 7 (by decide)
        have e8 : wr.cell? ⟨g1, o1 + i * 10 + 8, none⟩ = some (.int .u64 (f1 6 : Nat)) := by rw [below_cell HB.out HG1.out]; exact HC1.out 8 (by decide)
        have e9 : wr.cell? ⟨g1, o1 + i * 10 + 9, none⟩ = some (.int .i64 t1) := by rw [below_cell HB.out HG1.out]; exact HC1.out 9 (by decide)
        by_cases ha2 : i < n2
        · have hi2 : (i : Int) < n2 := by omega
          have hd2 : decide ((i : Int) < n2) = true := decide_eq_true hi2
          obtain ⟨g2, o2, k2, N2, t2, f2, rfl, hg2, hN2, hf2, hc2⟩ := HR2.out i ha2
          have HG2 : Hid (g2 < W.heap.size) := hg2
          have HC2 : Hid (∀ j, j < 10 → W.cell? ⟨g2, o2 + i * 10 + j, none⟩ = (opG k2 N2 f2 t2)[j]?) := hc2
          have HO2 : Hid ((Lit.int .i64 N2).wf = true ∧ W64 f2) := ⟨hN2, hf2⟩
          clear hg2 hN2 hf2 hc2
          go_wp2_with fail
          refine (asks_any HQ1.out hbs k1 N1 f1 t1 HO1.out.1 HO1.out.2).mono ?_
          rintro e y1 ⟨rfl, U1, hu1, hO1, hn1⟩
          have HU1 : Hid (QP W.heap.size y1 (.pointer (some ⟨W.heap.size + 1, 0, none⟩)) (.pointer (some ⟨w2.heap.size, 0, none⟩)) U1) := hu1
          have HV1 : Hid (QP W.heap.size y1 (.pointer (some ⟨w1.heap.size + 1, 0, none⟩)) (.pointer (some ⟨w3.heap.size, 0, none⟩)) T2) := HQ2.out.only hO1 (fun j hj h => HDJ.out j h hj)
          have HE1 : Hid (∀ j, U1 j → ¬ T2 j) := fun j hj h => by
            rcases hn1 j hj with c | c
            · exact HDJ.out j c h
            · have := (HQ2.out.lt h).2; omega
          have HY1 : Hid (Below W.heap.size W y1) := hO1.below HB.out (Nat.le_refl _) (fun j hj => (HQ1.out.lt hj).1)
          have hbs1 := HY1.out.size
          clear hu1 hO1 hn1
          clear e0 e1 e2 e3 e4 e5 e6 e7 e8 e9
          have e0 : y1.cell? ⟨g2, o2 + i * 10, none⟩ = some (.int .i64 k2) := by rw [below_cell HY1.out HG2.out]; exact HC2.out 0 (by decide)
          have e1 : y1.cell? ⟨g2, o2 + i * 10 + 1, none⟩ = some (.int .i64 N2) := by rw [below_cell HY1.out HG2.out]; exact HC2.out 1 (by decide)
          have e2 : y1.cell? ⟨g2, o2 + i * 10 + 2, none⟩ = some (.int .u64 (f2 0 : Nat)) := by rw [below_cell HY1.out HG2.out]; exact HC2.out 2 (by decide)
          have e3 : y1.cell? ⟨g2, o2 + i * 10 + 3, none⟩ = some (.int .u64 (f2 1 : Nat)) := by rw [below_cell HY1.out HG2.out]; exact HC2.out 3 (by decide)
          have e4 : y1.cell? ⟨g2, o2 + i * 10 + 4, none⟩ = some (.int .u64 (f2 2 : Nat)) := by rw [below_cell HY1.out HG2.out]; exact HC2.out 4 (by decide)
          have e5 : y1.cell? ⟨g2, o2 + i * 10 + 5, none⟩ = some (.int .u64 (f2 3 : Nat)) := by rw [below_cell HY1.out HG2.out]; exact HC2.out 5 (by decide)
          have e6 : y1.cell? ⟨g2, o2 + i * 10 + 6, none⟩ = some (.int .u64 (f2 4 : Nat)) := by rw [below_cell HY1.out HG2.out]; exact HC2.out 6 (by decide)
          have e7 : y1.cell? ⟨g2, o2 + i * 10 + 7, none⟩ = some (.int .u64 (f2 5 : Nat)) := by rw [below_cell HY1.out HG2.out]; exact HC2.out 7 (by decide)
          have e8 : y1.cell? ⟨g2, o2 + i * 10 + 8, none⟩ = some (.int .u64 (f2 6 : Nat)) := by rw [below_cell HY1.out HG2.out]; exact HC2.out 8 (by decide)
          have e9 : y1.cell? ⟨g2, o2 + i * 10 + 9, none⟩ = some (.int .i64 t2) := by rw [below_cell HY1.out HG2.out]; exact HC2.out 9 (by decide)
          go_wp2_with fail
          refine (asks_any HV1.out hbs1 k2 N2 f2 t2 HO2.out.1 HO2.out.2).mono ?_
          rintro e y2 ⟨rfl, U2, hu2, hO2, hn2⟩
          have HU2 : Hid (QP W.heap.size y2 (.pointer (some ⟨w1.heap.size + 1, 0, none⟩)) (.pointer (some ⟨w3.heap.size, 0, none⟩)) U2) := hu2
          have HV2 : Hid (QP W.heap.size y2 (.pointer (some ⟨W.heap.size + 1, 0, none⟩)) (.pointer (some ⟨w2.heap.size, 0, none⟩)) U1) := HU1.out.only hO2 (fun j hj h => HE1.out j hj h)
          have HE2 : Hid (∀ j, U1 j → ¬ U2 j) := fun j hj h => by
            rcases hn2 j h with c | c
            · exact HE1.out j hj c
            · have := (HU1.out.lt hj).2; omega
          have HY2 : Hid (Below W.heap.size W y2) := hO2.below HY1.out (Nat.le_refl _) (fun j hj => (HV1.out.lt hj).1)
          clear hu2 hO2 hn2
          clear e0 e1 e2 e3 e4 e5 e6 e7 e8 e9
          go_wp2_with fail
          go_roundw
          case rel => exact ⟨i + 1, U1, U2, by go_num, by omega, HV2.out, HU2.out, HE2.out, HY2.out⟩
          case measure => simp [intOf]; omega
        · have hi2 : ¬ (i : Int) < n2 := by omega
          have hd2 : decide ((i : Int) < n2) = false := decide_eq_false hi2
          go_wp2_with fail
          refine (asks_any HQ1.out hbs k1 N1 f1 t1 HO1.out.1 HO1.out.2).mono ?_
          rintro e y1 ⟨rfl, U1, hu1, hO1, hn1⟩
          have HU1 : Hid (QP W.heap.size y1 (.pointer (some ⟨W.heap.size + 1, 0, none⟩)) (.pointer (some ⟨w2.heap.size, 0, none⟩)) U1) := hu1
          have HV1 : Hid (QP W.heap.size y1 (.pointer (some ⟨w1.heap.size + 1, 0, none⟩)) (.pointer (some ⟨w3.heap.size, 0, none⟩)) T2) := HQ2.out.only hO1 (fun j hj h => HDJ.out j h hj)
          have HE1 : Hid (∀ j, U1 j → ¬ T2 j) := fun j hj h => by
            rcases hn1 j hj with c | c
            · exact HDJ.out j c h
            · have := (HQ2.out.lt h).2; omega
          have HY1 : Hid (Below W.heap.size W y1) := hO1.below HB.out (Nat.le_refl _) (fun j hj => (HQ1.out.lt hj).1)
          have hbs1 := HY1.out.size
          clear hu1 hO1 hn1
          clear e0 e1 e2 e3 e4 e5 e6 e7 e8 e9
          go_wp2_with fail
          go_roundw
          case rel => exact ⟨i + 1, U1, T2, by go_num, by omega, HU1.out, HV1.out, HE1.out, HY1.out⟩
          case measure => simp [intOf]; omega
      · have hi1 : ¬ (i : Int) < n1 := by omega
        have hd1 : decide ((i : Int) < n1) = false := decide_eq_false hi1
        by_cases ha2 : i < n2
        · have hi2 : (i : Int) < n2 := by omega
          have hd2 : decide ((i : Int) < n2) = true := decide_eq_true hi2
          obtain ⟨g2, o2, k2, N2, t2, f2, rfl, hg2, hN2, hf2, hc2⟩ := HR2.out i ha2
          have HG2 : Hid (g2 < W.heap.size) := hg2
          have HC2 : Hid (∀ j, j < 10 → W.cell? ⟨g2, o2 + i * 10 + j, none⟩ = (opG k2 N2 f2 t2)[j]?) := hc2
          have HO2 : Hid ((Lit.int .i64 N2).wf = true ∧ W64 f2) := ⟨hN2, hf2⟩
          clear hg2 hN2 hf2 hc2
          have e0 : wr.cell? ⟨g2, o2 + i * 10, none⟩ = some (.int .i64 k2) := by rw [below_cell HB.out HG2.out]; exact HC2.out 0 (by decide)
          have e1 : wr.cell? ⟨g2, o2 + i * 10 + 1, none⟩ = some (.int .i64 N2) := by rw [below_cell HB.out HG2.out]; exact HC2.out 1 (by decide)
          have e2 : wr.cell? ⟨g2, o2 + i * 10 + 2, none⟩ = some (.int .u64 (f2 0 : Nat)) := by rw [below_cell HB.out HG2.out]; exact HC2.out 2 (by decide)
          have e3 : wr.cell? ⟨g2, o2 + i * 10 + 3, none⟩ = some (.int .u64 (f2 1 : Nat)) := by rw [below_cell HB.out HG2.out]; exact HC2.out 3 (by decide)
          have e4 : wr.cell? ⟨g2, o2 + i * 10 + 4, none⟩ = some (.int .u64 (f2 2 : Nat)) := by rw [below_cell HB.out HG2.out]; exact HC2.out 4 (by decide)
          have e5 : wr.cell? ⟨g2, o2 + i * 10 + 5, none⟩ = some (.int .u64 (f2 3 : Nat)) := by rw [below_cell HB.out HG2.out]; exact HC2.out 5 (by decide)
          have e6 : wr.cell? ⟨g2, o2 + i * 10 + 6, none⟩ = some (.int .u64 (f2 4 : Nat)) := by rw [below_cell HB.out HG2.out]; exact HC2.out 6 (by decide)
          have e7 : wr.cell? ⟨g2, o2 + i * 10 + 7, none⟩ = some (.int .u64 (f2 5 : Nat)) := by rw [below_cell HB.out HG2.out]; exact HC2.out 7 (by decide)
          have e8 : wr.cell? ⟨g2, o2 + i * 10 + 8, none⟩ = some (.int .u64 (f2 6 : Nat)) := by rw [below_cell HB.out HG2.out]; exact HC2.out 8 (by decide)
          have e9 : wr.cell? ⟨g2, o2 + i * 10 + 9, none⟩ = some (.int .i64 t2) := by rw [below_cell HB.out HG2.out]; exact HC2.out 9 (by decide)
          go_wp2_with fail
          refine (asks_any HQ2.out hbs k2 N2 f2 t2 HO2.out.1 HO2.out.2).mono ?_
          rintro e y2 ⟨rfl, U2, hu2, hO2, hn2⟩
          have HU2 : Hid (QP W.heap.size y2 (.pointer (some ⟨w1.heap.size + 1, 0, none⟩)) (.pointer (some ⟨w3.heap.size, 0, none⟩)) U2) := hu2
          have HV2 : Hid (QP W.heap.size y2 (.pointer (some ⟨W.heap.size + 1, 0, none⟩)) (.pointer (some ⟨w2.heap.size, 0, none⟩)) T1) := HQ1.out.only hO2 (fun j hj h => HDJ.out j hj h)
          have HE2 : Hid (∀ j, T1 j → ¬ U2 j) := fun j hj h => by
            rcases hn2 j h with c | c
            · exact HDJ.out j hj c
            · have := (HQ1.out.lt hj).2; omega
          have HY2 : Hid (Below W.heap.size W y2) := hO2.below HB.out (Nat.le_refl _) (fun j hj => (HQ2.out.lt hj).1)
          clear hu2 hO2 hn2
          clear e0 e1 e2 e3 e4 e5 e6 e7 e8 e9
          go_wp2_with fail
          go_roundw
          case rel => exact ⟨i + 1, T1, U2, by go_num, by omega, HV2.out, HU2.out, HE2.out, HY2.out⟩
          case measure => simp [intOf]; omega
        · have hi2 : ¬ (i : Int) < n2 := by omega
          have hd2 : decide ((i : Int) < n2) = false := decide_eq_false hi2
          obtain ⟨l1, hl1, hl2⟩ := lens_any HQ1.out
          obtain ⟨l2, hl3, hl4⟩ := lens_any HQ2.out
          have HL1 : Hid _ := hl1
          have HL2 : Hid _ := hl2
          have HL3 : Hid _ := hl3
          have HL4 : Hid _ := hl4
          clear hl1 hl2 hl3 hl4
          go_wp2_with fail
          refine Calls.mono HL1.out ?_
          rintro e ya ⟨rfl, rfl⟩
          go_wp2_with fail
          refine Calls.mono HL2.out ?_
          rintro e yb ⟨rfl, rfl⟩
          go_wp2_with fail
          refine Calls.mono HL3.out ?_
          rintro e yc ⟨rfl, rfl⟩
          go_wp2_with fail
          refine Calls.mono HL4.out ?_
          rintro e yd ⟨rfl, rfl⟩
          go_wp2_with fail
          go_ret
          exact ⟨rfl, HB.out⟩
  · go_enter Try.func6, Try.ntmps6
    go_wp2_with fail
    refine (tnew_bad n hn W).mono ?_
    rintro e w1 ⟨rfl, rfl⟩
    go_wp2_with fail
    refine (tnew_any 3 (by omega) (by omega) W).mono ?_
    rintro e w2 ⟨rfl, hb2, ht2⟩
    have HB2 : Hid (Below W.heap.size W w2) := hb2
    have HT2 : Hid (TB W.heap.size w2 (W.heap.size + 1) W.heap.size 3 (.slice none 0 0) [] (.map [])) := ht2
    clear hb2 ht2
    go_wp2_with fail
    refine (rnew_bad n hn w2).mono ?_
    rintro e w3 ⟨rfl, rfl⟩
    go_wp2_with fail
    refine (rnew_any 3 (by omega) (by omega) w2).mono ?_
    rintro e w4 ⟨rfl, hb4, ht4⟩
    have HB4 : Hid (Below w2.heap.size w2 w4) := hb4
    have HT4 : Hid (RT w2.heap.size w4 w2.heap.size 3 (.slice none 0 0) []) := ht4
    clear hb4 ht4
    have he1 := fun w => eq_tnn w
    have he2 := fun w => eq_rnn w
    go_wp2_with (first
    | (go_at_call 10; refine (num13_any _ _).mono ?_; rintro e wn ⟨rfl, rfl⟩)
    | (go_at_call 14; refine (knows13_any _).mono ?_; rintro e w5 ⟨rfl, hb⟩; have HB5 : Hid (Below w4.heap.size w4 w5) := hb; clear hb))
    have HW5 : Hid (Below W.heap.size W w5) := go_on' HB2.out (go_on' HB4.out HB5.out)
    have H2 : Hid (Below w2.heap.size w2 w5) := go_on' HB4.out HB5.out
    have z2 := HT2.out.ts (j := W.heap.size + 1) (.inl rfl)
    have z4 := HT4.out.ds (j := w2.heap.size) (.inl rfl)
    have hno : ∀ j, (Value.slice none 0 0).ownBlock ≠ some j := fun j h => by cases h
    obtain ⟨S1, S2, hq1, hq2, hdj⟩ : ∃ S1 S2 : Nat → Prop, QP W.heap.size w5 (.pointer none) (.pointer none) S1 ∧ QP W.heap.size w5 (.pointer (some ⟨W.heap.size + 1, 0, none⟩)) (.pointer (some ⟨w2.heap.size, 0, none⟩)) S2 ∧ ∀ j, S1 j → ¬ S2 j := by
      refine ⟨fun _ => False, PS (W.heap.size + 1) W.heap.size w2.heap.size (.slice none 0 0) (.slice none 0 0), .inl ⟨rfl, rfl, fun j h => h⟩, .inr ⟨_, _, _, 3, _, _, _, _, rfl, rfl, ⟨HT2.out.below H2.out, rt_lower (HT4.out.below HB5.out) (by omega), NK.empty, ?_⟩, fun j => Iff.rfl⟩, fun j h => h.elim⟩
      intro j hj hd
      rcases hj with e | e | e <;> rcases hd with c | c
      all_goals first | exact hno _ e | exact hno _ c | omega
    have HQ1 : Hid _ := hq1
    have HQ2 : Hid _ := hq2
    have HDJ : Hid _ := hdj
    clear hq1 hq2 hdj z2 z4 hno HT2 HT4 HB2 HB4 HB5 H2 he1 he2
    go_loopw [15] (fun vi wr => ∃ (i : Nat) (S1 S2 : Nat → Prop), vi = .int .i64 i ∧ i ≤ max n1 n2 ∧ QP W.heap.size wr (.pointer none) (.pointer none) S1 ∧ QP W.heap.size wr (.pointer (some ⟨W.heap.size + 1, 0, none⟩)) (.pointer (some ⟨w2.heap.size, 0, none⟩)) S2 ∧ (∀ j, S1 j → ¬ S2 j) ∧ Below W.heap.size W wr) (fun vi _ => max n1 n2 - (intOf vi).toNat)
    case atStart => exact ⟨0, S1, S2, rfl, Nat.zero_le _, HQ1.out, HQ2.out, HDJ.out, HW5.out⟩
    case round =>
      clear HQ1 HQ2 HDJ
      obtain ⟨i, T1, T2, rfl, hin, hq1, hq2, hdj, hb⟩ := hrel
      have HQ1 : Hid (QP W.heap.size wr (.pointer none) (.pointer none) T1) := hq1
      have HQ2 : Hid (QP W.heap.size wr (.pointer (some ⟨W.heap.size + 1, 0, none⟩)) (.pointer (some ⟨w2.heap.size, 0, none⟩)) T2) := hq2
      have HDJ : Hid (∀ j, T1 j → ¬ T2 j) := hdj
      have HB : Hid (Below W.heap.size W wr) := hb
      have hbs := hb.size
      clear hq1 hq2 hdj hb
      by_cases ha1 : i < n1
      · have hi1 : (i : Int) < n1 := by omega
        have hd1 : decide ((i : Int) < n1) = true := decide_eq_true hi1
        obtain ⟨g1, o1, k1, N1, t1, f1, rfl, hg1, hN1, hf1, hc1⟩ := HR1.out i ha1
        have HG1 : Hid (g1 < W.heap.size) := hg1
        have HC1 : Hid (∀ j, j < 10 → W.cell? ⟨g1, o1 + i * 10 + j, none⟩ = (opG k1 N1 f1 t1)[j]?) := hc1
        have HO1 : Hid ((Lit.int .i64 N1).wf = true ∧ W64 f1) := ⟨hN1, hf1⟩
        clear hg1 hN1 hf1 hc1
        have e0 : wr.cell? ⟨g1, o1 + i * 10, none⟩ = some (.int .i64 k1) := by rw [below_cell HB.out HG1.out]; exact HC1.out 0 (by decide)
        have e1 : wr.cell? ⟨g1, o1 + i * 10 + 1, none⟩ = some (.int .i64 N1) := by rw [below_cell HB.out HG1.out]; exact HC1.out 1 (by decide)
        have e2 : wr.cell? ⟨g1, o1 + i * 10 + 2, none⟩ = some (.int .u64 (f1 0 : Nat)) := by rw [below_cell HB.out HG1.out]; exact HC1.out 2 (by decide)
        have e3 : wr.cell? ⟨g1, o1 + i * 10 + 3, none⟩ = some (.int .u64 (f1 1 : Nat)) := by rw [below_cell HB.out HG1.out]; exact HC1.out 3 (by decide)
        have e4 : wr.cell? ⟨g1, o1 + i * 10 + 4, none⟩ = some (.int .u64 (f1 2 : Nat)) := by rw [below_cell HB.out HG1.out]; exact HC1.out 4 (by decide)
        have e5 : wr.cell? ⟨g1, o1 + i * 10 + 5, none⟩ = some (.int .u64 (f1 3 : Nat)) := by rw [below_cell HB.out HG1.out]; exact HC1.out 5 (by decide)
        have e6 : wr.cell? ⟨g1, o1 + i * 10 + 6, none⟩ = some (.int .u64 (f1 4 : Nat)) := by rw [below_cell HB.out HG1.out]; exact HC1.out 6 (by decide)
        have e7 : wr.cell? ⟨g1, o1 + i * 10 + 7, none⟩ = some (.int .u64 (f1 5 : Nat)) := by rw [below_cell HB.out HG1.out]; exact HC1.out 7 (by decide)
        have e8 : wr.cell? ⟨g1, o1 + i * 10 + 8, none⟩ = some (.int .u64 (f1 6 : Nat)) := by rw [below_cell HB.out HG1.out]; exact HC1.out 8 (by decide)
        have e9 : wr.cell? ⟨g1, o1 + i * 10 + 9, none⟩ = some (.int .i64 t1) := by rw [below_cell HB.out HG1.out]; exact HC1.out 9 (by decide)
        by_cases ha2 : i < n2
        · have hi2 : (i : Int) < n2 := by omega
          have hd2 : decide ((i : Int) < n2) = true := decide_eq_true hi2
          obtain ⟨g2, o2, k2, N2, t2, f2, rfl, hg2, hN2, hf2, hc2⟩ := HR2.out i ha2
          have HG2 : Hid (g2 < W.heap.size) := hg2
          have HC2 : Hid (∀ j, j < 10 → W.cell? ⟨g2, o2 + i * 10 + j, none⟩ = (opG k2 N2 f2 t2)[j]?) := hc2
          have HO2 : Hid ((Lit.int .i64 N2).wf = true ∧ W64 f2) := ⟨hN2, hf2⟩
          clear hg2 hN2 hf2 hc2
          go_wp2_with fail
          refine (asks_any HQ1.out hbs k1 N1 f1 t1 HO1.out.1 HO1.out.2).mono ?_
          rintro e y1 ⟨rfl, U1, hu1, hO1, hn1⟩
          have HU1 : Hid (QP W.heap.size y1 (.pointer none) (.pointer none) U1) := hu1
          have HV1 : Hid (QP W.heap.size y1 (.pointer (some ⟨W.heap.size + 1, 0, none⟩)) (.pointer (some ⟨w2.heap.size, 0, none⟩)) T2) := HQ2.out.only hO1 (fun j hj h => HDJ.out j h hj)
          have HE1 : Hid (∀ j, U1 j → ¬ T2 j) := fun j hj h => by
            rcases hn1 j hj with c | c
            · exact HDJ.out j c h
            · have := (HQ2.out.lt h).2; omega
          have HY1 : Hid (Below W.heap.size W y1) := hO1.below HB.out (Nat.le_refl _) (fun j hj => (HQ1.out.lt hj).1)
          have hbs1 := HY1.out.size
          clear hu1 hO1 hn1
          clear e0 e1 e2 e3 e4 e5 e6 e7 e8 e9
          have e0 : y1.cell? ⟨g2, o2 + i * 10, none⟩ = some (.int .i64 k2) := by rw [below_cell HY1.out HG2.out]; exact HC2.out 0 (by decide)
          have e1 : y1.cell? ⟨g2, o2 + i * 10 + 1, none⟩ = some (.int .i64 N2) := by rw [below_cell HY1.out HG2.out]; exact HC2.out 1 (by decide)
          have e2 : y1.cell? ⟨g2, o2 + i * 10 + 2, none⟩ = some (.int .u64 (f2 0 : Nat)) := by rw [below_cell HY1.out HG2.out]; exact HC2.out 2 (by decide)
          have e3 : y1.cell? ⟨g2, o2 + i * 10 + 3, none⟩ = some (.int .u64 (f2 1 : Nat)) := by rw [below_cell HY1.out HG2.out]; exact HC2.out 3 (by decide)
          have e4 : y1.cell? ⟨g2, o2 + i * 10 + 4, none⟩ = some (.int .u64 (f2 2 : Nat)) := by rw [below_cell HY1.out HG2.out]; exact HC2.out 4 (by decide)
          have e5 : y1.cell? ⟨g2, o2 + i * 10 + 5, none⟩ = some (.int .u64 (f2 3 : Nat)) := by rw [below_cell HY1.out HG2.out]; exact HC2.out 5 (by decide)
          have e6 : y1.cell? ⟨g2, o2 + i * 10 + 6, none⟩ = some (.int .u64 (f2 4 : Nat)) := by rw [below_cell HY1.out HG2.out]; exact HC2.out 6 (by decide)
          have e7 : y1.cell? ⟨g2, o2 + i * 10 + 7, none⟩ = some (.int .u64 (f2 5 : Nat)) := by rw [below_cell HY1.out HG2.out]; exact HC2.out 7 (by decide)
          have e8 : y1.cell? ⟨g2, o2 + i * 10 + 8, none⟩ = some (.int .u64 (f2 6 : Nat)) := by rw [below_cell HY1.out HG2.out]; exact HC2.out 8 (by decide)
          have e9 : y1.cell? ⟨g2, o2 + i * 10 + 9, none⟩ = some (.int .i64 t2) := by rw [below_cell HY1.out HG2.out]; exact HC2.out 9 (by decide)
          go_wp2_with fail
          refine (asks_any HV1.out hbs1 k2 N2 f2 t2 HO2.out.1 HO2.out.2).mono ?_
          rintro e y2 ⟨rfl, U2, hu2, hO2, hn2⟩
          have HU2 : Hid (QP W.heap.size y2 (.pointer (some ⟨W.heap.size + 1, 0, none⟩)) (.pointer (some ⟨w2.heap.size, 0, none⟩)) U2) := hu2
          have HV2 : Hid (QP W.heap.size y2 (.pointer none) (.pointer none) U1) := HU1.out.only hO2 (fun j hj h => HE1.out j hj h)
          have HE2 : Hid (∀ j, U1 j → ¬ U2 j) := fun j hj h => by
            rcases hn2 j h with c | c
            · exact HE1.out j hj c
            · have := (HU1.out.lt hj).2; omega
          have HY2 : Hid (Below W.heap.size W y2) := hO2.below HY1.out (Nat.le_refl _) (fun j hj => (HV1.out.lt hj).1)
          clear hu2 hO2 hn2
          clear e0 e1 e2 e3 e4 e5 e6 e7 e8 e9
          go_wp2_with fail
          go_roundw
          case rel => exact ⟨i + 1, U1, U2, by go_num, by omega, HV2.out, HU2.out, HE2.out, HY2.out⟩
          case measure => simp [intOf]; omega
        · have hi2 : ¬ (i : Int) < n2 := by omega
          have hd2 : decide ((i : Int) < n2) = false := decide_eq_false hi2
          go_wp2_with fail
          refine (asks_any HQ1.out hbs k1 N1 f1 t1 HO1.out.1 HO1.out.2).mono ?_
          rintro e y1 ⟨rfl, U1, hu1, hO1, hn1⟩
          have HU1 : Hid (QP W.heap.size y1 (.pointer none) (.pointer none) U1) := hu1
          have HV1 : Hid (QP W.heap.size y1 (.pointer (some ⟨W.heap.size + 1, 0, none⟩)) (.pointer (some ⟨w2.heap.size, 0, none⟩)) T2) := HQ2.out.only hO1 (fun j hj h => HDJ.out j h hj)
          have HE1 : Hid (∀ j, U1 j → ¬ T2 j) := fun j hj h => by
            rcases hn1 j hj with c | c
            · exact HDJ.out j c h
            · have := (HQ2.out.lt h).2; omega
          have HY1 : Hid (Below W.heap.size W y1) := hO1.below HB.out (Nat.le_refl _) (fun j hj => (HQ1.out.lt hj).1)
          have hbs1 := HY1.out.size
          clear hu1 hO1 hn1
          clear e0 e1 e2 e3 e4 e5 e6 e7 e8 e9
          go_wp2_with fail
          go_roundw
          case rel => exact ⟨i + 1, U1, T2, by go_num, by omega, HU1.out, HV1.out, HE1.out, HY1.out⟩
          case measure => simp [intOf]; omega
      · have hi1 : ¬ (i : Int) < n1 := by omega
        have hd1 : decide ((i : Int) < n1) = false := decide_eq_false hi1
        by_cases ha2 : i < n2
        · have hi2 : (i : Int) < n2 := by omega
          have hd2 : decide ((i : Int) < n2) = true := decide_eq_true hi2
          obtain ⟨g2, o2, k2, N2, t2, f2, rfl, hg2, hN2, hf2, hc2⟩ := HR2.out i ha2
          have HG2 : Hid (g2 < W.heap.size) := hg2
          have HC2 : Hid (∀ j, j < 10 → W.cell? ⟨g2, o2 + i * 10 + j, none⟩ = (opG k2 N2 f2 t2)[j]?) := hc2
          have HO2 : Hid ((Lit.int .i64 N2).wf = true ∧ W64 f2) := ⟨hN2, hf2⟩
          clear hg2 hN2 hf2 hc2
          have e0 : wr.cell? ⟨g2, o2 + i * 10, none⟩ = some (.int .i64 k2) := by rw [below_cell HB.out HG2.out]; exact HC2.out 0 (by decide)
          have e1 : wr.cell? ⟨g2, o2 + i * 10 + 1, none⟩ = some (.int .i64 N2) := by rw [below_cell HB.out HG2.out]; exact HC2.out 1 (by decide)
          have e2 : wr.cell? ⟨g2, o2 + i * 10 + 2, none⟩ = some (.int .u64 (f2 0 : Nat)) := by rw [below_cell HB.out HG2.out]; exact HC2.out 2 (by decide)
          have e3 : wr.cell? ⟨g2, o2 + i * 10 + 3, none⟩ = some (.int .u64 (f2 1 : Nat)) := by rw [below_cell HB.out HG2.out]; exact HC2.out 3 (by decide)
          have e4 : wr.cell? ⟨g2, o2 + i * 10 + 4, none⟩ = some (.int .u64 (f2 2 : Nat)) := by rw [below_cell HB.out HG2.out]; exact HC2.out 4 (by decide)
          have e5 : wr.cell? ⟨g2, o2 + i * 10 + 5, none⟩ = some (.int .u64 (f2 3 : Nat)) := by rw [below_cell HB.out HG2.out]; exact HC2.out 5 (by decide)
          have e6 : wr.cell? ⟨g2, o2 + i * 10 + 6, none⟩ = some (.int .u64 (f2 4 : Nat)) := by rw [below_cell HB.out HG2.out]; exact HC2.out 6 (by decide)
          have e7 : wr.cell? ⟨g2, o2 + i * 10 + 7, none⟩ = some (.int .u64 (f2 5 : Nat)) := by rw [below_cell HB.out HG2.out]; exact HC2.out 7 (by decide)
          have e8 : wr.cell? ⟨g2, o2 + i * 10 + 8, none⟩ = some (.int .u64 (f2 6 : Nat)) := by rw [below_cell HB.out HG2.out]; exact HC2.out 8 (by decide)
          have e9 : wr.cell? ⟨g2, o2 + i * 10 + 9, none⟩ = some (.int .i64 t2) := by rw [below_cell HB.out HG2.out]; exact HC2.out 9 (by decide)
          go_wp2_with fail
          refine (asks_any HQ2.out hbs k2 N2 f2 t2 HO2.out.1 HO2.out.2).mono ?_
          rintro e y2 ⟨rfl, U2, hu2, hO2, hn2⟩
          have HU2 : Hid (QP W.heap.size y2 (.pointer (some ⟨W.heap.size + 1, 0, none⟩)) (.pointer (some ⟨w2.heap.size, 0, none⟩)) U2) := hu2
          have HV2 : Hid (QP W.heap.size y2 (.pointer none) (.pointer none) T1) := HQ1.out.only hO2 (fun j hj h => HDJ.out j hj h)
          have HE2 : Hid (∀ j, T1 j → ¬ U2 j) := fun j hj h => by
            rcases hn2 j h with c | c
            · exact HDJ.out j hj c
            · have := (HQ1.out.lt hj).2; omega
          have HY2 : Hid (Below W.heap.size W y2) := hO2.below HB.out (Nat.le_refl _) (fun j hj => (HQ2.out.lt hj).1)
          clear hu2 hO2 hn2
          clear e0 e1 e2 e3 e4 e5 e6 e7 e8 e9
          go_wp2_with fail
          go_roundw
          case rel => exact ⟨i + 1, T1, U2, by go_num, by omega, HV2.out, HU2.out, HE2.out, HY2.out⟩
          case measure => simp [intOf]; omega
        · have hi2 : ¬ (i : Int) < n2 := by omega
          have hd2 : decide ((i : Int) < n2) = false := decide_eq_false hi2
          obtain ⟨l1, hl1, hl2⟩ := lens_any HQ1.out
          obtain ⟨l2, hl3, hl4⟩ := lens_any HQ2.out
          have HL1 : Hid _ := hl1
          have HL2 : Hid _ := hl2
          have HL3 : Hid _ := hl3
          have HL4 : Hid _ := hl4
          clear hl1 hl2 hl3 hl4
          go_wp2_with fail
          refine Calls.mono HL1.out ?_
          rintro e ya ⟨rfl, rfl⟩
          go_wp2_with fail
          refine Calls.mono HL2.out ?_
          rintro e yb ⟨rfl, rfl⟩
          go_wp2_with fail
          refine Calls.mono HL3.out ?_
          rintro e yc ⟨rfl, rfl⟩
          go_wp2_with fail
          refine Calls.mono HL4.out ?_
          rintro e yd ⟨rfl, rfl⟩
          go_wp2_with fail
          go_ret
          exact ⟨rfl, HB.out⟩

/-! ### The row's step -/
theorem own : ownKnob Try.prog.godebug = none := by kernel_rfl
set_option maxRecDepth 100000 in
theorem lifted (os : Os) (started : os.Started) (H : Type) (enc : TypeId × Value → H) :
    ReturnsInHanded {} Try.checked os 6 .any (Rows.transTablesSpec.pre6 enc Try.prog Try.f6 Rows.transTablesRow.domain false) (Rows.transTablesSpec.post enc Try.prog Try.f6 false true false false) := by
  refine returnsInHanded_of_change_sized (C := Try.checked) own started (by kernel_rfl) Try.func6
    (ChangeSpec.witness6 (enc := enc) (C := Try.checked) false ⟨#[], #[.int .i64 0, .slice none 0 0, .slice none 0 0], []⟩ 8 (by kernel_rfl) (by kernel_rfl) (by kernel_rfl) (by kernel_rfl)) ?_
  intro W base args ds gs before hval0 hW hcnd hsz0 _
  have hval : ∀ (j : Nat) t v, Try.f6.params[j]? = some t → args[j]? = some v → Value.okWide Try.prog W .any base t v := hval0
  clear hval0
  have hsz : (DataW.weightsEach Try.prog (Try.f6.params.toList ++ Rows.transTablesSpec.plain.varTypes Try.prog) (ds ++ gs)).all (· ≤ reachBytes) = true := hsz0
  clear hsz0
  have hW' := hW
  obtain ⟨p, q, hA0, hV, rfl, hfz, hnd⟩ := hW
  have hA : DataW.TrodAll enc Try.prog W 0 (fun _ => true) true Try.f6.params.toList args.toList ds p := hA0
  rw [Try.params6] at hA hval hsz
  obtain ⟨v0, vs0, d0, ds0, p0, q0, hargs, rfl, rfl, h0, r0⟩ := trodAll_cons hA
  obtain ⟨v1, vs1, d1, ds1, p1, q1, rfl, rfl, rfl, h1, r1⟩ := trodAll_cons r0
  obtain ⟨v2, vs2, d2, ds2, p2, q2, rfl, rfl, rfl, h2, r2⟩ := trodAll_cons r1
  obtain ⟨rfl, rfl, rfl⟩ := trodAll_nil r2
  obtain rfl : args = #[v0, v1, v2] := by cases args; simp_all
  obtain ⟨rfl, rfl⟩ := trodVars_none hV
  obtain ⟨a0, rfl, rfl, rfl, w0⟩ := open_int Try.underlying3 (hval 0 3 v0 rfl rfl) h0
  obtain ⟨a1, w1, x1⟩ := open_ops2 (hval 1 64 v1 rfl rfl) h1
  have g1 : ∀ x ∈ p1, x.block < W.heap.size := fun x hx => hW'.lt x (by simp [hx])
  obtain ⟨a2, w2, x2⟩ := open_ops2 (hval 2 64 v2 rfl rfl) h2
  have g2 : ∀ x ∈ p2, x.block < W.heap.size := fun x hx => hW'.lt x (by simp [hx])
  clear hA0
  refine (walk a0 v1 a1 v2 a2 W w1 x1 w2 x2).mono fun e W' ⟨he, bel⟩ => ?_
  subst he
  exact ⟨_, rfl, _, _, _, [], _, [], hW', trodAll_mk1 (shut_bool Try.underlying4 _), (trodAll_cons_mk (shut_int Try.underlying3 w0) (trodAll_cons_mk (Below.trod Try.laidOutQ (by kernel_rfl) (of_decide_eq_true (by kernel_rfl)) h1 bel g1) (trodAll_cons_mk (Below.trod Try.laidOutQ (by kernel_rfl) (of_decide_eq_true (by kernel_rfl)) h2 bel g2) trodAll_mk0))), rfl, bel.frame _, fun h => by cases h⟩

theorem over : Rows.transTablesRow.holds Try.pinned (OpenSpec.ofChange Rows.transTablesSpec) :=
  OpenClaim.holds_of_wide 6 Try.f6 rfl rfl rfl rfl rfl rfl rfl ⟨rfl, rfl, rfl, rfl, rfl⟩ rfl rfl rfl rfl rfl (by kernel_rfl) Try.func6 (by kernel_rfl)
    (of_decide_eq_true (by kernel_rfl)) (by unfold Func.isWrapper; first | (rw [if_pos (by decide +kernel)]; kernel_rfl) | (rw [if_neg (by decide +kernel)]; exact ⟨rfl, rfl⟩))
    (fun os started H enc _ => lifted os started H enc)

end Go.Proofs.Ytihjhkbbpphocaa.transTables
namespace Go.Proofs.Ytihjhkbbpphocaa
/-- The given statement. -/
theorem transTables_holds : Rows.TransTablesSaid := transTables.over
end Go.Proofs.Ytihjhkbbpphocaa
