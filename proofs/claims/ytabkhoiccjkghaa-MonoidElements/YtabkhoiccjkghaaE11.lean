/- monoid: find. -/
import Derived.Test.YtabkhoiccjkghaaE10
namespace Go.Proofs.Ytabkhoiccjkghaa
open Go Go.RowKit Go.Lib Go.Maps
set_option linter.unusedVariables false
attribute [-instance] List.instBEq instBEqProd

/-- What find answers of an automaton of at most 64 states. -/
def FdQ (A : Aut) (w : World) (e : Ending) (w' : World) : Prop :=
  (mEl A = none ∧ e = .returned (.tuple #[.pointer none, .int .i64 140]) ∧ Below w.heap.size w w') ∨
  ∃ (base fb b mb : Nat) (vl vw vr : Value) (M : List (List Nat)) (W : List (Nat × Nat)) (N : List Nat) (D : DataW Unit), e = .returned (.tuple #[.pointer (some ⟨fb, 0, none⟩), .int .i64 0]) ∧ mEl A = some (M, N) ∧ WyO A.k.toNat M W N ∧ FN base w' fb b mb A.k.toNat A.ac.length vl vw vr M W N D ∧ w.heap.size ≤ base ∧ Below w.heap.size w w'
theorem lets_empty : lets ByteArray.empty = [] := rfl
theorem chk_empty {A : Aut} (G : Good A) : chk A.k ByteArray.empty = 0 := chk_ok _ _ G.k1 G.k8 (fun i hi => by simp at hi)

set_option maxHeartbeats 8000000 in
set_option maxRecDepth 100000 in
theorem find_any (v : Value) (A : Aut) (w : World) (h : AR w v A) (G : Good A) (h64 : A.ac.length ≤ 64) :
    Calls Try.prog 41 #[v] w (FdQ A w) := by
  have hks := G.ks
  have hn1 := G.n1
  obtain ⟨an, cn, aa, ca, e, h1, h2⟩ := h.is
  have HA : Hid (∀ w', Below w.heap.size w w' → AR w' v A) := fun w' hb => h.stay hb
  clear h h1 h2
  subst e
  have HGd : Hid (Good A) := G
  obtain ⟨w0, hw0⟩ : ∃ w0, w0 = w.alloc (.cells #[.int .i64 A.k, .slice an A.nx.length cn, .slice aa A.ac.length ca] 25) := ⟨_, rfl⟩
  have HB0 : Hid (Below w.heap.size w w0) := by show Below _ _ _; rw [hw0]; exact below_new _ _
  have HR0 : Hid (RowAt w0 w.heap.size #[.int .i64 A.k, .slice an A.nx.length cn, .slice aa A.ac.length ca]) := by show RowAt _ _ _; rw [hw0]; exact RowAt.last _ _ _
  have HOW : Hid (∀ y, Below w.heap.size w y → Calls Try.prog 55 #[.agg #[.int .i64 A.k, .slice an A.nx.length cn, .slice aa A.ac.length ca], .string ByteArray.empty] y fun e w' => e = .returned (.tuple #[.agg (tC (stl A.ac.length)), .int .i64 0]) ∧ Below y.heap.size y w') := fun y hy => by
    have := ofWord_ok (HA.out y hy) HGd.out h64 ByteArray.empty (chk_empty HGd.out) (by show 0 ≤ _; omega)
    rw [lets_empty, act_nil] at this
    exact this
  have HW0 : Hid (w0 = w.alloc (.cells #[.int .i64 A.k, .slice an A.nx.length cn, .slice aa A.ac.length ca] 25)) := hw0
  have HST : Hid (Tf (stl A.ac.length) ∧ (stl A.ac.length).length = A.ac.length) := ⟨stl_tf hn1 h64, stl_len _⟩
  clear hw0 G
  go_enter Try.func41, Try.ntmps41
  go_wp2_with fail
  rw [← HW0.out]
  refine (HOW.out _ HB0.out).mono ?_
  rintro e w1 ⟨rfl, hB1⟩
  have hst := st_trNew w1 (stl A.ac.length)
  obtain ⟨w2, hw2⟩ : ∃ w2, w2 = w1.alloc (.cells (tC (stl A.ac.length)) 42) := ⟨_, rfl⟩
  have HB1 : Hid (Below w0.heap.size w0 w1) := hB1
  have HB2 : Hid (Below w0.heap.size w0 w2) := by show Below _ _ _; rw [hw2]; exact go_on hB1 (below_new _ _)
  have HT2 : Hid (TL w2 w1.heap.size (stl A.ac.length)) := by show TL _ _ _; rw [hw2]; exact heap_last _ _
  have HW2 : Hid (w2 = w1.alloc (.cells (tC (stl A.ac.length)) 42)) := hw2
  have hc2 : (w1.alloc (.cells (tC (stl A.ac.length)) 42)).cell? ⟨w1.heap.size, 0, none⟩ = some (.int .i64 A.ac.length) := by
    refine cell_at (heap_last _ _) ?_
    show some (Value.int .i64 ((stl A.ac.length).length : Nat)) = _
    rw [stl_len]
  clear hB1 hw2
  go_wp2_with fail
  rw [← HW2.out]
  refine (tnew_any A.ac.length hn1 h64 w2).mono ?_
  rintro e w3 ⟨rfl, hB3, hT3⟩
  have HB3 : Hid (Below w0.heap.size w0 w3) := go_on HB2.out hB3
  have HT3 : Hid (TB w2.heap.size w3 (w2.heap.size + 1) w2.heap.size A.ac.length (.slice none 0 0) [] (.map [])) := hT3
  have HTL3 : Hid (TL w3 w1.heap.size (stl A.ac.length)) := (hB3.block _ HT2.out.lt).trans HT2.out
  have hs23 : w2.heap.size ≤ w3.heap.size := hB3.size
  have hbx := (HR0.out.stay HB3.out).cell
  clear hB3 hT3 hst hc2 HW2
  obtain ⟨w4, hw4⟩ : ∃ w4, w4 = w3.alloc (.cells #[.int .i64 A.k, .pointer (some ⟨w2.heap.size + 1, 0, none⟩), .slice none 0 0, .slice none 0 0] 89) := ⟨_, rfl⟩
  have HW4 : Hid (w4 = w3.alloc (.cells #[.int .i64 A.k, .pointer (some ⟨w2.heap.size + 1, 0, none⟩), .slice none 0 0, .slice none 0 0] 89)) := hw4
  have HTL4 : Hid (TL (w3.alloc (.cells #[.int .i64 A.k, .pointer (some ⟨w2.heap.size + 1, 0, none⟩), .slice none 0 0, .slice none 0 0] 89)) w1.heap.size (stl A.ac.length)) := (heap_allo HTL3.out.lt _).trans HTL3.out
  have HF4 : Hid (FN w2.heap.size w4 w3.heap.size (w2.heap.size + 1) w2.heap.size A.k.toNat A.ac.length (.slice none 0 0) (.slice none 0 0) (.slice none 0 0) [] [] [] (.map [])) := by
    rw [hw4]
    refine ⟨HT3.out.below (below_new _ _), ?_, World.ownsRow_nil _ _ _ _, World.ownsRow_nil _ _ _ _, hs23⟩
    rw [hks.2.2]
    exact heap_last _ _
  have HB4 : Hid (Below w0.heap.size w0 w4) := by show Below _ _ _; rw [hw4]; exact go_on HB3.out (below_new _ _)
  clear hw4
  go_wp2_with (refine wl_load rfl rfl HTL4.out rfl ?_)
  rw [← HW4.out]
  refine (fput_new HF4.out HST.out.1 HST.out.2 0 0 (by simp) (by simp) (by simp)).mono ?_
  rintro e w5 ⟨vl5, vw5, rfl, hF5, hR5⟩
  obtain ⟨base, hbase⟩ : ∃ base, w2.heap.size = base := ⟨_, rfl⟩
  obtain ⟨b, hb⟩ : ∃ b, base + 1 = b := ⟨_, rfl⟩
  obtain ⟨mb, hmb⟩ : ∃ mb, w2.heap.size = mb := ⟨_, rfl⟩
  obtain ⟨fb, hfb⟩ : ∃ fb, w3.heap.size = fb := ⟨_, rfl⟩
  have HF5 : Hid (FN base w5 fb b base A.k.toNat A.ac.length vl5 vw5 (.slice none 0 0) [stl A.ac.length] [(0, 0)] [] ((DataW.map []).put (klT (stl A.ac.length)) (.lit (.int .i64 0)))) := by
    subst hb hfb
    rw [← hbase]
    exact hF5
  have h02 : w0.heap.size ≤ w2.heap.size := HB2.out.size
  have HB5 : Hid (Below w0.heap.size w0 w5) := by
    refine hR5.below HB4.out (Nat.le_refl _) (fun j hj => ?_)
    have := (HF4.out.fs hj).1
    omega
  have hbx := (HR0.out.stay HB5.out).cell
  have hw00 : w.heap.size ≤ w0.heap.size := HB0.out.size
  have hbb : w.heap.size ≤ base := by omega
  rw [hfb, hbase, hb]
  clear hF5 hR5 HF4 HB4 HTL4 HW4 HTL3 HT3 HB3 HT2 HB2 HB1 hfb hb hmb hs23 hbase
  go_wp2_with fail
  refine (letterSteps_any _ A w5 (HA.out _ (go_on HB0.out HB5.out)) HGd.out h64).mono ?_
  rintro e w6 ⟨g, rfl, hB6, hg5, hSP⟩
  have HF6 : Hid (FN base w6 fb b base A.k.toNat A.ac.length vl5 vw5 (.slice none 0 0) [stl A.ac.length] [(0, 0)] [] ((DataW.map []).put (klT (stl A.ac.length)) (.lit (.int .i64 0)))) := HF5.out.below hB6
  have HSP : Hid (SP w6 g A A.k.toNat) := hSP
  have HNG : Hid (¬ FS fb b base vl5 vw5 (.slice none 0 0) g) := fun q => by have := (HF5.out.fs q).2; omega
  have HB6 : Hid (Below w.heap.size w w6) := go_on HB0.out (go_on HB5.out hB6)
  clear hB6 hSP hbx HF5 HB5 hg5
  go_wp2_with fail
  go_loopw [10] (fun vi wr => ∃ (i : Nat) (vl vw vr : Value) (M : List (List Nat)) (W : List (Nat × Nat)) (N : List Nat) (D : DataW Unit) (f : Nat), vi = .int .i64 i ∧ i ≤ M.length ∧ FN base wr fb b base A.k.toNat A.ac.length vl vw vr M W N D ∧ MSs A i 0 M W N f ∧ SP wr g A A.k.toNat ∧ ¬ FS fb b base vl vw vr g ∧ Below w.heap.size w wr) (fun vi _ => 512 - (intOf vi).toNat)
  case atStart => exact ⟨0, vl5, vw5, _, _, _, _, _, 4096, rfl, by simp, HF6.out, MSs.start A, HSP.out, HNG.out, HB6.out⟩
  case round =>
    clear HF6 HSP HNG HB6 HR0 HW0
    obtain ⟨i, vl, vw, vr, M, W, N, D, f, rfl, hiM, hF, hMS, hSP, hNG, hB⟩ := hrel
    have HF : Hid (FN base wr fb b base A.k.toNat A.ac.length vl vw vr M W N D) := hF
    have HM : Hid (MSs A i 0 M W N f) := hMS
    have HSP : Hid (SP wr g A A.k.toNat) := hSP
    have HNG : Hid (¬ FS fb b base vl vw vr g) := hNG
    have HB : Hid (Below w.heap.size w wr) := hB
    have hmo := hMS.most
    clear hF hMS hSP hNG hB
    go_wp2_with fail
    refine (tlen_any HF.out.tb).mono ?_
    rintro e y1 ⟨rfl, rfl⟩
    by_cases hlt : i < M.length
    · have hiI : (i : Int) < M.length := by omega
      go_wp2_with fail
      refine (extend_any HGd.out h64 HF.out HM.out (List.getElem?_eq_getElem hlt) HSP.out HNG.out i rfl).mono ?_
      rintro e y1 (⟨hno, rfl, ho⟩ | ⟨vl2, vw2, vr2, M2, W2, N2, D2, f2, rfl, hF2, hM2, hR2⟩)
      · have HNO : Hid (mEl A = none) := hno
        have HBN : Hid (Below w.heap.size w y1) := ho.below HB.out (Nat.le_refl _) (fun j hj => by have := (HF.out.fs hj).1; omega)
        clear hno ho
        go_wp2_with fail
        go_ret2
        exact .inl ⟨HNO.out, rfl, HBN.out⟩
      · have HF2 : Hid (FN base y1 fb b base A.k.toNat A.ac.length vl2 vw2 vr2 M2 W2 N2 D2) := hF2
        have HM2 : Hid (MSs A (i + 1) 0 M2 W2 N2 f2) := hM2.next
        have HB2 : Hid (Below w.heap.size w y1) := hR2.below HB.out (Nat.le_refl _) (fun j hj => by have := (HF.out.fs hj).1; omega)
        have HSP2 : Hid (SP y1 g A A.k.toNat) := HSP.out.keep (hR2.only.block g HSP.out.lt HNG.out)
        have HNG2 : Hid (¬ FS fb b base vl2 vw2 vr2 g) := fun q => by
          rcases hR2.grow g q with q | q
          · exact HNG.out q
          · have := HSP.out.lt; omega
        have HLT : Hid (i + 1 ≤ M2.length) := by
          show _ ≤ _
          have h1 := hM2.nl
          have h2 := hM2.bi.len
          have h3 : (i + 1) * A.k.toNat ≤ M2.length * A.k.toNat := by rw [Nat.add_mul]; omega
          exact Nat.le_of_mul_le_mul_right h3 (by omega)
        clear hF2 hM2 hR2
        go_wp2_with fail
        go_roundw
        case rel => exact ⟨i + 1, vl2, vw2, vr2, M2, W2, N2, D2, f2, by go_num, HLT.out, HF2.out, HM2.out, HSP2.out, HNG2.out, HB2.out⟩
        case measure => simp [intOf]; omega
    · have hiI : ¬ (i : Int) < M.length := by omega
      have HE : Hid (mEl A = some (M, N)) := HM.out.done (by omega)
      have HWY : Hid (WyO A.k.toNat M W N) := HM.out.wy
      go_wp2_with fail
      go_ret2
      exact .inr ⟨base, fb, b, base, vl, vw, vr, M, W, N, D, rfl, HE.out, HWY.out, HF.out, hbb, HB.out⟩
end Go.Proofs.Ytabkhoiccjkghaa
