/- Proved: eggboxlaw13.TransKernels answers true at every number n and lists a and b (P1308): of the transformations s and t made of the lists Image of s t is within Image of t, and Kernel of s t joins what Kernel of s joins. No condition. -/
import Derived.Test.YthglficjhgpegabCh
namespace Go.Proofs.Ythglficjhgpegab.transKernels
open Go Go.ChangeShapes Go.WideShapes Go.ChangeAt Go.RowKit Go.Lib
open Go.ChangeMaps (open_string shut_string)
set_option linter.unusedVariables false

theorem st_setNew (w : World) (g : Nat → Nat) : (storeCells ⟨w.heap.size, 0, none⟩ (cellsF g).toList 0).run Try.prog (w.alloc (.cells #[.int .u64 0, .int .u64 0, .int .u64 0, .int .u64 0, .int .u64 0, .int .u64 0, .int .u64 0, .int .u64 0] 47)) = .ok () (w.alloc (.cells (cellsF g) 47)) := by
  have h := st_row (cs := cellsF g) (heap_alloc_new w (.cells #[.int .u64 0, .int .u64 0, .int .u64 0, .int .u64 0, .int .u64 0, .int .u64 0, .int .u64 0, .int .u64 0] 47)) rfl (cellsF_one g)
  rw [World.setRow_alloc_new] at h
  exact h
theorem within {s t : List Nat} (hs : Tf s) (e : s.length = t.length) (k : Nat) : bits .andNot .u64 ((word (imN (cmp s t)) k : Nat) : Int) ((word (imN t) k : Nat) : Int) = 0 := by
  rw [bits_andNot_u64_nat _ _ (word_lt _ _) (word_lt _ _)]
  have : butN (word (imN (cmp s t)) k) (word (imN t) k) = 0 := by
    apply Nat.eq_of_testBit_eq
    intro i
    rw [testBit_but, testBit_word, testBit_word, Nat.zero_testBit]
    by_cases q : (imN (cmp s t)).testBit (64 * k + i) = true
    · obtain ⟨j, hj, he⟩ := imN_bit _ |>.1 q
      rw [cmp_len] at hj
      rw [cmp_im _ _ hj] at he
      have h2 : (imN t).testBit (64 * k + i) = true := (imN_bit _).2 ⟨im s j, e ▸ hs.lt j hj, he⟩
      rw [q, h2]
      cases decide (i < 64) <;> rfl
    · have q' : (imN (cmp s t)).testBit (64 * k + i) = false := by simpa using q
      rw [q']
      simp
  rw [this]
  rfl
theorem joins {s t : List Nat} {x y : Nat} (hx : x < s.length) (hy : y < s.length) (h : im (krL s) x = im (krL s) y) : im (krL (cmp s t)) x = im (krL (cmp s t)) y := by
  unfold krL at h ⊢
  rw [tb_im _ hx, tb_im _ hy, kr_same] at h
  rw [cmp_len, tb_im _ hx, tb_im _ hy, kr_same, cmp_im _ _ hx, cmp_im _ _ hy, h]
theorem ex_idx {ev : Operand → Value} {o : Oper} {x y : Operand} {g n cap i : Nat} (ho : o.op = .indexAddr 22 x y) (hx : ev x = .slice (some ⟨g, 0, none⟩) n cap) (hy : ev y = .int .i64 (i : Int)) (hi : i < n) (w : World) : (execOp ev o).run Try.prog w = .ok (.value (.pointer (some ⟨g, i, none⟩))) w := by
  unfold execOp
  have h1 : (i : Int) < n := by omega
  simp only [ho, hx, hy]
  go_simp
theorem ex_ldi {ev : Operand → Value} {o : Oper} {x : Operand} {a : Addr} {v : Value} {w : World} (ho : o.op = .load 3 x) (hx : ev x = .pointer (some a)) (hc : w.cell? a = some v) : (execOp ev o).run Try.prog w = .ok (.value v) w := by
  unfold execOp
  simp only [ho, hx]
  go_simp
theorem ex_eqi {ev : Operand → Value} {o : Oper} {x y : Operand} {a b : Int} {ty : TypeId} (ho : o.op = .binOp .eql 3 x y ty) (hx : ev x = .int .i64 a) (hy : ev y = .int .i64 b) (w : World) : (execOp ev o).run Try.prog w = .ok (.value (.bool (a == b))) w := by
  unfold execOp
  simp only [ho, hx, hy]
  go_simp
theorem ex_nei {ev : Operand → Value} {o : Oper} {x y : Operand} {a b : Int} {ty : TypeId} (ho : o.op = .binOp .neq 3 x y ty) (hx : ev x = .int .i64 a) (hy : ev y = .int .i64 b) (w : World) : (execOp ev o).run Try.prog w = .ok (.value (.bool (a != b))) w := by
  unfold execOp
  simp only [ho, hx, hy]
  go_simp
/-- What stands in the law's loops. -/
structure FK (W wr : World) (b1 b2 g1 g2 n : Nat) (s t : List Nat) : Prop where
  i1 : Cells8 wr b1 (word (imN (cmp s t)))
  i2 : Cells8 wr b2 (word (imN t))
  k1 : wr.ownsRow W.heap.size 3 1 (.slice (some ⟨g1, 0, none⟩) n n) n (zC (pI (krL s)))
  k2 : wr.ownsRow W.heap.size 3 1 (.slice (some ⟨g2, 0, none⟩) n n) n (zC (pI (krL (cmp s t))))
  below : Below W.heap.size W wr
theorem FK.call {W w y : World} {b1 b2 g1 g2 n : Nat} {s t : List Nat} (h : FK W w b1 b2 g1 g2 n s t) (hb : Below w.heap.size w y) : FK W y b1 b2 g1 g2 n s t :=
  ⟨h.i1.of_heap (hb.block _ h.i1.lt), h.i2.of_heap (hb.block _ h.i2.lt), own_below h.k1 hb, own_below h.k2 hb, h.below.trans (hb.mono h.below.size)⟩
theorem FK.drew {W w : World} {b1 b2 g1 g2 n : Nat} {s t : List Nat} (h : FK W w b1 b2 g1 g2 n s t) : FK W w.drew b1 b2 g1 g2 n s t := h.call (Below.refl _ _).drew

set_option maxHeartbeats 16000000 in
set_option maxRecDepth 100000 in
theorem walk (a0 : Int) (v1 : Value) (a1 : List Int) (v2 : Value) (a2 : List Int) (W : World) (h0 : I64 a0) (r1 : Reads W v1 a1) (b1 : ∀ x ∈ a1, I64 x) (z1 : a1.length ≤ 17592186044414) (r2 : Reads W v2 a2) (b2 : ∀ x ∈ a2, I64 x) (z2 : a2.length ≤ 17592186044414) :
    Calls Try.prog 6 #[.int .i64 a0, v1, v2] W fun e w' => e = .returned (.bool true) ∧ Below W.heap.size W w' := by
  obtain ⟨n, hn1, hn2, y, z, he1, he2, he3, he4, he5, he6⟩ := mod64 a0 h0
  have HT1 : Hid (Tf (toL (mdL n a1))) := md_tf hn1 hn2 a1
  have HL1 : Hid ((toL (mdL n a1)).length = n) := md_len n a1
  have HB1 : Hid (∀ x ∈ a1, I64 x) := b1
  have HR1 : Hid (Reads W v1 a1) := r1
  have HZ1 : Hid (a1.length ≤ 9223372036854775806) := by show a1.length ≤ _; omega
  clear b1 r1 z1
  have HT2 : Hid (Tf (toL (mdL n a2))) := md_tf hn1 hn2 a2
  have HL2 : Hid ((toL (mdL n a2)).length = n) := md_len n a2
  have HB2 : Hid (∀ x ∈ a2, I64 x) := b2
  have HR2 : Hid (Reads W v2 a2) := r2
  have HZ2 : Hid (a2.length ≤ 9223372036854775806) := by show a2.length ≤ _; omega
  clear b2 r2 z2
  clear h0
  go_enter Try.func6, Try.ntmps6
  go_wp2_with fail
  clear he1 he2 he3 he4 he5 he6
  have HK1 : Hid (KP [] W W) := ⟨fun p hp => by simp at hp, Below.refl _ _⟩
  refine (made_any n hn1 hn2 v1 a1 HB1.out _ (HR1.out.below HK1.out.below) HZ1.out).mono ?_
  rintro e wm1 ⟨u1, rfl, hO, hB⟩
  have HO1 := make_md n hn1 hn2 a1 u1 wm1 hO
  obtain ⟨l1, hl1⟩ : ∃ l, toL (mdL n a1) = l := ⟨_, rfl⟩
  rw [hl1] at HT1 HL1 HO1
  have HM1 : Hid (Calls Try.prog 8 #[u1] wm1 fun e w' => e = .returned (.tuple #[.agg (tC l1), .int .i64 0]) ∧ Below wm1.heap.size wm1 w') := HO1
  have HK2 : Hid (KP [] W wm1) := HK1.out.call hB
  clear hB hO HO1 hl1 HK1
  go_wp2_with (first
    | (refine wl_eq rfl rfl rfl rfl ?_)
    | (refine wl_ne rfl rfl rfl rfl ?_)
    | (go_at_call 12; refine (num13_any _ _).mono ?_; rintro e wn ⟨rfl, rfl⟩))
  refine (HM1.out).mono ?_
  rintro e w3 ⟨rfl, hB⟩
  have HJ3 : Hid (KP [] W w3) := HK2.out.call hB
  clear hB
  have hst := st_trNew w3 l1
  have hsz3 := tC_size l1
  have HK3 : Hid (KP [(w3.heap.size, l1)] W (w3.alloc (.cells (tC l1) 26))) := HJ3.out.new _
  clear HK2 HJ3
  clear HM1
  go_wp2_with (first
    | (refine wl_load rfl rfl (HK3.out.get (b := w3.heap.size) (l := l1) (by simp)) rfl ?_)
    | (refine wl_eq rfl rfl rfl rfl ?_)
    | (refine wl_ne rfl rfl rfl rfl ?_)
    | (go_at_call 12; refine (num13_any _ _).mono ?_; rintro e wn ⟨rfl, rfl⟩))
  refine (made_any n hn1 hn2 v2 a2 HB2.out _ (HR2.out.below HK3.out.below) HZ2.out).mono ?_
  rintro e wm2 ⟨u2, rfl, hO, hB⟩
  have HO2 := make_md n hn1 hn2 a2 u2 wm2 hO
  obtain ⟨l2, hl2⟩ : ∃ l, toL (mdL n a2) = l := ⟨_, rfl⟩
  rw [hl2] at HT2 HL2 HO2
  have HM2 : Hid (Calls Try.prog 8 #[u2] wm2 fun e w' => e = .returned (.tuple #[.agg (tC l2), .int .i64 0]) ∧ Below wm2.heap.size wm2 w') := HO2
  have HK4 : Hid (KP [(w3.heap.size, l1)] W wm2) := HK3.out.call hB
  clear hB hO HO2 hl2 HK3
  go_wp2_with (first
    | (refine wl_load rfl rfl (HK4.out.get (b := w3.heap.size) (l := l1) (by simp)) rfl ?_)
    | (refine wl_eq rfl rfl rfl rfl ?_)
    | (refine wl_ne rfl rfl rfl rfl ?_)
    | (go_at_call 12; refine (num13_any _ _).mono ?_; rintro e wn ⟨rfl, rfl⟩))
  clear hst
  refine (HM2.out).mono ?_
  rintro e w5 ⟨rfl, hB⟩
  have HJ5 : Hid (KP [(w3.heap.size, l1)] W w5) := HK4.out.call hB
  clear hB
  have hst := st_trNew w5 l2
  have hsz5 := tC_size l2
  have HK5 : Hid (KP [(w5.heap.size, l2), (w3.heap.size, l1)] W (w5.alloc (.cells (tC l2) 26))) := HJ5.out.new _
  clear HK4 HJ5
  clear HM2
  go_wp2_with (first
    | (refine wl_load rfl rfl (HK5.out.get (b := w5.heap.size) (l := l2) (by simp)) rfl ?_)
    | (refine wl_load rfl rfl (HK5.out.get (b := w3.heap.size) (l := l1) (by simp)) rfl ?_)
    | (refine wl_eq rfl rfl rfl rfl ?_)
    | (refine wl_ne rfl rfl rfl rfl ?_)
    | (go_at_call 12; refine (num13_any _ _).mono ?_; rintro e wn ⟨rfl, rfl⟩))
  have HE : Hid (l1.length = l2.length) := by show _ = _; rw [HL1.out, HL2.out]
  have HC : Hid (Tf (cmp l1 l2)) := cmp_tf HT1.out HT2.out HE.out
  have HLC : Hid ((cmp l1 l2).length = n) := by show _ = _; rw [cmp_len, HL1.out]
  clear hst
  refine (compose_tC l1 l2 HT1.out HT2.out HE.out _).mono ?_
  rintro e w6 ⟨rfl, hB⟩
  have HJ6 : Hid (KP [(w5.heap.size, l2), (w3.heap.size, l1)] W w6) := HK5.out.call hB
  clear hB
  have hst := st_trNew w6 (cmp l1 l2)
  have hsz6 := tC_size (cmp l1 l2)
  have HK6 : Hid (KP [(w6.heap.size, cmp l1 l2), (w5.heap.size, l2), (w3.heap.size, l1)] W (w6.alloc (.cells (tC (cmp l1 l2)) 26))) := HJ6.out.new _
  clear HK5 HJ6
  go_wp2_with (first
    | (refine wl_load rfl rfl (HK6.out.get (b := w6.heap.size) (l := cmp l1 l2) (by simp)) rfl ?_)
    | (refine wl_load rfl rfl (HK6.out.get (b := w5.heap.size) (l := l2) (by simp)) rfl ?_)
    | (refine wl_load rfl rfl (HK6.out.get (b := w3.heap.size) (l := l1) (by simp)) rfl ?_)
    | (refine wl_eq rfl rfl rfl rfl ?_)
    | (refine wl_ne rfl rfl rfl rfl ?_)
    | (go_at_call 12; refine (num13_any _ _).mono ?_; rintro e wn ⟨rfl, rfl⟩))
  clear hst
  refine (image_ok (cmp l1 l2) HC.out _).mono ?_
  rintro e wa ⟨rfl, hB⟩
  have HKa : Hid (KP [(w6.heap.size, cmp l1 l2), (w5.heap.size, l2), (w3.heap.size, l1)] W wa) := HK6.out.call hB
  clear hB HK6
  have hst := st_setNew wa (word (imN (cmp l1 l2)))
  have hszA := cellsF_size (word (imN (cmp l1 l2)))
  have HKb : Hid (KP [(w6.heap.size, cmp l1 l2), (w5.heap.size, l2), (w3.heap.size, l1)] W (wa.alloc (.cells (cellsF (word (imN (cmp l1 l2)))) 47))) := HKa.out.call ((Below.refl _ _).alloc (Nat.le_refl _) _)
  have HA : Hid (Cells8 (wa.alloc (.cells (cellsF (word (imN (cmp l1 l2)))) 47)) wa.heap.size (word (imN (cmp l1 l2)))) := Cells8.last _ _
  clear HKa
  go_wp2_with (first
    | (refine wl_load rfl rfl (HKb.out.get (b := w6.heap.size) (l := cmp l1 l2) (by simp)) rfl ?_)
    | (refine wl_load rfl rfl (HKb.out.get (b := w5.heap.size) (l := l2) (by simp)) rfl ?_)
    | (refine wl_load rfl rfl (HKb.out.get (b := w3.heap.size) (l := l1) (by simp)) rfl ?_)
    | (refine wl_eq rfl rfl rfl rfl ?_)
    | (refine wl_ne rfl rfl rfl rfl ?_)
    | (go_at_call 12; refine (num13_any _ _).mono ?_; rintro e wn ⟨rfl, rfl⟩))
  clear hst
  refine (image_ok l2 HT2.out _).mono ?_
  rintro e wb ⟨rfl, hB⟩
  have HKc : Hid (KP [(w6.heap.size, cmp l1 l2), (w5.heap.size, l2), (w3.heap.size, l1)] W wb) := HKb.out.call hB
  have HA2 : Hid (Cells8 wb wa.heap.size (word (imN (cmp l1 l2)))) := HA.out.of_heap (hB.block _ HA.out.lt)
  clear hB HKb HA
  have hst := st_setNew wb (word (imN l2))
  have hszB := cellsF_size (word (imN l2))
  have HKd : Hid (KP [(w6.heap.size, cmp l1 l2), (w5.heap.size, l2), (w3.heap.size, l1)] W (wb.alloc (.cells (cellsF (word (imN l2))) 47))) := HKc.out.call ((Below.refl _ _).alloc (Nat.le_refl _) _)
  have HA3 : Hid (Cells8 (wb.alloc (.cells (cellsF (word (imN l2))) 47)) wa.heap.size (word (imN (cmp l1 l2)))) := HA2.out.alloc _
  have HBB : Hid (Cells8 (wb.alloc (.cells (cellsF (word (imN l2))) 47)) wb.heap.size (word (imN l2))) := Cells8.last _ _
  clear HKc HA2
  go_wp2_with (first
    | (refine wl_load rfl rfl (HKd.out.get (b := w6.heap.size) (l := cmp l1 l2) (by simp)) rfl ?_)
    | (refine wl_load rfl rfl (HKd.out.get (b := w5.heap.size) (l := l2) (by simp)) rfl ?_)
    | (refine wl_load rfl rfl (HKd.out.get (b := w3.heap.size) (l := l1) (by simp)) rfl ?_)
    | (refine wl_eq rfl rfl rfl rfl ?_)
    | (refine wl_ne rfl rfl rfl rfl ?_)
    | (go_at_call 12; refine (num13_any _ _).mono ?_; rintro e wn ⟨rfl, rfl⟩))
  clear hst
  refine (kernel_ok l1 HT1.out _).mono ?_
  rintro e wc ⟨g1, rfl, hO, hB⟩
  have HKe : Hid (KP [(w6.heap.size, cmp l1 l2), (w5.heap.size, l2), (w3.heap.size, l1)] W wc) := HKd.out.call hB
  have HA4 : Hid (Cells8 wc wa.heap.size (word (imN (cmp l1 l2)))) := HA3.out.of_heap (hB.block _ HA3.out.lt)
  have HB4 : Hid (Cells8 wc wb.heap.size (word (imN l2))) := HBB.out.of_heap (hB.block _ HBB.out.lt)
  have HO1 : Hid (wc.ownsRow W.heap.size 3 1 (.slice (some ⟨g1, 0, none⟩) n n) n (zC (pI (krL l1)))) := by
    have := own_mono hO HKd.out.below.size
    rw [HL1.out] at this
    exact this
  clear hB hO HKd HA3 HBB
  rw [show l1.length = n from HL1.out]
  go_wp2_with (first
    | (refine wl_load rfl rfl (HKe.out.get (b := w6.heap.size) (l := cmp l1 l2) (by simp)) rfl ?_)
    | (refine wl_load rfl rfl (HKe.out.get (b := w5.heap.size) (l := l2) (by simp)) rfl ?_)
    | (refine wl_load rfl rfl (HKe.out.get (b := w3.heap.size) (l := l1) (by simp)) rfl ?_)
    | (refine wl_eq rfl rfl rfl rfl ?_)
    | (refine wl_ne rfl rfl rfl rfl ?_)
    | (go_at_call 12; refine (num13_any _ _).mono ?_; rintro e wn ⟨rfl, rfl⟩))
  refine (kernel_ok (cmp l1 l2) HC.out _).mono ?_
  rintro e wd ⟨g2, rfl, hO, hB⟩
  have HF0 : Hid (FK W wd wa.heap.size wb.heap.size g1 g2 n l1 l2) := by
    refine ⟨HA4.out.of_heap (hB.block _ HA4.out.lt), HB4.out.of_heap (hB.block _ HB4.out.lt), own_below HO1.out hB, ?_, HKe.out.below.trans (hB.mono HKe.out.below.size)⟩
    have := own_mono hO HKe.out.below.size
    rw [HLC.out] at this
    exact this
  clear hB hO HKe HA4 HB4 HO1
  rw [show (cmp l1 l2).length = n from HLC.out]
  go_wp2_with (go_at_call 12; refine (num13_any _ _).mono ?_; rintro e wn ⟨rfl, rfl⟩)
  refine (knows13_any _).mono ?_
  rintro e we ⟨rfl, hB⟩
  have HF1 : Hid (FK W we wa.heap.size wb.heap.size g1 g2 n l1 l2) := HF0.out.call hB
  clear hB HF0
  go_wp2_with fail
  obtain ⟨bA, hbA⟩ : ∃ b, wa.heap.size = b := ⟨_, rfl⟩
  obtain ⟨bB, hbB⟩ : ∃ b, wb.heap.size = b := ⟨_, rfl⟩
  rw [hbA, hbB] at HF1
  rw [hbA, hbB]
  clear hbA hbB
  go_loopw [21] (fun vi wr => ∃ i : Nat, vi = .int .i64 i ∧ i ≤ 8 ∧ FK W wr bA bB g1 g2 n l1 l2) (fun vi _ => 8 - (intOf vi).toNat)
  case atStart => exact ⟨0, rfl, Nat.zero_le _, HF1.out⟩
  case round =>
    clear HF1
    obtain ⟨i, rfl, hin, hF⟩ := hrel
    have HF : Hid (FK W wr bA bB g1 g2 n l1 l2) := hF
    by_cases hlt : i < 8
    · have hiI : (i : Int) < 8 := by omega
      have hc1 := hF.i1.get hlt
      have hc2 := hF.i2.get hlt
      have hwi := within HT1.out HE.out i
      obtain ⟨A, hA⟩ : ∃ A, word (imN (cmp l1 l2)) i = A := ⟨_, rfl⟩
      obtain ⟨B, hB⟩ : ∃ B, word (imN l2) i = B := ⟨_, rfl⟩
      rw [hA] at hc1 hwi
      rw [hB] at hc2 hwi
      clear hF hA hB
      go_wp2_with fail
      go_region
      all_goals go_wp2_with fail
      all_goals go_roundw
      all_goals first
        | exact ⟨i + 1, by go_num, by omega, HF.out.drew⟩
        | (simp [intOf]; omega)
    · have hiI : ¬ (i : Int) < 8 := by omega
      clear hF
      go_wp2_with fail
      rename_i wr1
      go_loopw [22, 23] (fun vi _ wr => ∃ i : Nat, vi = .int .i64 i ∧ i ≤ n ∧ FK W wr bA bB g1 g2 n l1 l2) (fun vi _ _ => n - (intOf vi).toNat)
      case atStart => exact ⟨0, rfl, Nat.zero_le _, HF.out⟩
      case round =>
        clear HF
        obtain ⟨x, rfl, hxn, hF⟩ := hrel
        have HF : Hid (FK W wr bA bB g1 g2 n l1 l2) := hF
        clear hF
        by_cases hx : x < n
        · have hxI : (x : Int) < n := by omega
          go_wp2_with fail
          rename_i wr2 _
          go_loopw [23] (fun vi wr => ∃ i : Nat, vi = .int .i64 i ∧ i ≤ n ∧ FK W wr bA bB g1 g2 n l1 l2) (fun vi _ => n - (intOf vi).toNat)
          case atStart => exact ⟨0, rfl, Nat.zero_le _, HF.out⟩
          case round =>
            clear HF
            obtain ⟨y, rfl, hyn, hF⟩ := hrel
            have HF : Hid (FK W wr bA bB g1 g2 n l1 l2) := hF
            clear hF
            by_cases hy : y < n
            · have hyI : (y : Int) < n := by omega
              have HC1 : Hid (∀ w', FK W w' bA bB g1 g2 n l1 l2 → w'.cell? ⟨g1, x, none⟩ = some (.int .i64 (im (krL l1) x : Nat)) ∧ w'.cell? ⟨g1, y, none⟩ = some (.int .i64 (im (krL l1) y : Nat)) ∧ w'.cell? ⟨g2, x, none⟩ = some (.int .i64 (im (krL (cmp l1 l2)) x : Nat)) ∧ w'.cell? ⟨g2, y, none⟩ = some (.int .i64 (im (krL (cmp l1 l2)) y : Nat))) := fun w' h =>
                ⟨(h.k1.cellAt x (by omega)).trans (pZ_get (by rw [krL_len, HL1.out]; exact hx)), (h.k1.cellAt y (by omega)).trans (pZ_get (by rw [krL_len, HL1.out]; exact hy)), (h.k2.cellAt x (by omega)).trans (pZ_get (by rw [krL_len, HLC.out]; exact hx)), (h.k2.cellAt y (by omega)).trans (pZ_get (by rw [krL_len, HLC.out]; exact hy))⟩
              have HJ : Hid (im (krL l1) x = im (krL l1) y → im (krL (cmp l1 l2)) x = im (krL (cmp l1 l2)) y) := joins (by rw [HL1.out]; exact hx) (by rw [HL1.out]; exact hy)
              obtain ⟨A, hA⟩ : ∃ A, im (krL l1) x = A := ⟨_, rfl⟩
              obtain ⟨B, hB⟩ : ∃ B, im (krL l1) y = B := ⟨_, rfl⟩
              obtain ⟨C, hC⟩ : ∃ C, im (krL (cmp l1 l2)) x = C := ⟨_, rfl⟩
              obtain ⟨D, hD⟩ : ∃ D, im (krL (cmp l1 l2)) y = D := ⟨_, rfl⟩
              rw [hA, hB, hC, hD] at HC1 HJ
              clear hA hB hC hD
              go_wp2_with fail
              by_cases hAB : A = B
              · have hCD := HJ.out hAB
                subst hAB
                subst hCD
                have hcc : ((C : Int) != (C : Int)) = false := by simp
                refine wp_region_held_drew (S := fun w' => FK W w' bA bB g1 g2 n l1 l2) (by kernel_rfl) HF.out.drew (fun hHeld => ?_)
                refine wpAnyH_take (i := 0) (oi := { dst := some 128, op := Go.Op.move (Go.Operand.tmp 17), type := 22, pos := "law.go:229", after := #[], guard := none }) (v := .slice (some ⟨g1, 0, none⟩) n n) rfl (by kernel_rfl) (by kernel_rfl) (by kernel_rfl) (fun _ _ _ h => h) (Or.inl ⟨by rfl, ?_⟩) (by assumption) ?_
                · intro w' hS; rfl
                simp only [Act.put, List.setIfInBounds_toArray, List.set_cons_zero, List.set_cons_succ]
                refine wpAnyH_take (i := 1) (oi := { dst := some 129, op := Go.Op.move (Go.Operand.tmp 22), type := 3, pos := "law.go:229", after := #[], guard := none }) (v := .int .i64 (x : Int)) rfl (by kernel_rfl) (by kernel_rfl) (by kernel_rfl) (fun _ _ _ h => h) (Or.inl ⟨by rfl, ?_⟩) (by assumption) ?_
                · intro w' hS; rfl
                simp only [Act.put, List.setIfInBounds_toArray, List.set_cons_zero, List.set_cons_succ]
                refine wpAnyH_take (i := 2) (oi := { dst := some 130, op := Go.Op.indexAddr 22 (Go.Operand.tmp 128) (Go.Operand.tmp 129), type := 0, pos := "law.go:229", after := #[{ on := 0, ground := Go.Ground.data }, { on := 1, ground := Go.Ground.data }], guard := none }) (v := .pointer (some ⟨g1, x, none⟩)) rfl (by kernel_rfl) (by kernel_rfl) (by kernel_rfl) (fun _ _ _ h => h) (Or.inl ⟨by rfl, ?_⟩) (by assumption) ?_
                · intro w' hS; exact ex_idx rfl rfl rfl hx w'
                simp only [Act.put, List.setIfInBounds_toArray, List.set_cons_zero, List.set_cons_succ]
                refine wpAnyH_take (i := 3) (oi := { dst := some 131, op := Go.Op.load 3 (Go.Operand.tmp 130), type := 3, pos := "law.go:229", after := #[{ on := 2, ground := Go.Ground.data }], guard := none }) (v := .int .i64 ((A : Nat) : Int)) rfl (by kernel_rfl) (by kernel_rfl) (by kernel_rfl) (fun _ _ _ h => h) (Or.inl ⟨by rfl, ?_⟩) (by assumption) ?_
                · intro w' hS; exact ex_ldi rfl rfl (HC1.out w' hS).1
                simp only [Act.put, List.setIfInBounds_toArray, List.set_cons_zero, List.set_cons_succ]
                refine wpAnyH_take (i := 4) (oi := { dst := some 132, op := Go.Op.move (Go.Operand.tmp 17), type := 22, pos := "law.go:229", after := #[], guard := none }) (v := .slice (some ⟨g1, 0, none⟩) n n) rfl (by kernel_rfl) (by kernel_rfl) (by kernel_rfl) (fun _ _ _ h => h) (Or.inl ⟨by rfl, ?_⟩) (by assumption) ?_
                · intro w' hS; rfl
                simp only [Act.put, List.setIfInBounds_toArray, List.set_cons_zero, List.set_cons_succ]
                refine wpAnyH_take (i := 5) (oi := { dst := some 133, op := Go.Op.move (Go.Operand.tmp 23), type := 3, pos := "law.go:229", after := #[], guard := none }) (v := .int .i64 (y : Int)) rfl (by kernel_rfl) (by kernel_rfl) (by kernel_rfl) (fun _ _ _ h => h) (Or.inl ⟨by rfl, ?_⟩) (by assumption) ?_
                · intro w' hS; rfl
                simp only [Act.put, List.setIfInBounds_toArray, List.set_cons_zero, List.set_cons_succ]
                refine wpAnyH_take (i := 6) (oi := { dst := some 134, op := Go.Op.indexAddr 22 (Go.Operand.tmp 132) (Go.Operand.tmp 133), type := 0, pos := "law.go:229", after := #[{ on := 4, ground := Go.Ground.data }, { on := 5, ground := Go.Ground.data }], guard := none }) (v := .pointer (some ⟨g1, y, none⟩)) rfl (by kernel_rfl) (by kernel_rfl) (by kernel_rfl) (fun _ _ _ h => h) (Or.inl ⟨by rfl, ?_⟩) (by assumption) ?_
                · intro w' hS; exact ex_idx rfl rfl rfl hy w'
                simp only [Act.put, List.setIfInBounds_toArray, List.set_cons_zero, List.set_cons_succ]
                refine wpAnyH_take (i := 7) (oi := { dst := some 135, op := Go.Op.load 3 (Go.Operand.tmp 134), type := 3, pos := "law.go:229", after := #[{ on := 6, ground := Go.Ground.data }], guard := none }) (v := .int .i64 ((A : Nat) : Int)) rfl (by kernel_rfl) (by kernel_rfl) (by kernel_rfl) (fun _ _ _ h => h) (Or.inl ⟨by rfl, ?_⟩) (by assumption) ?_
                · intro w' hS; exact ex_ldi rfl rfl (HC1.out w' hS).2.1
                simp only [Act.put, List.setIfInBounds_toArray, List.set_cons_zero, List.set_cons_succ]
                refine wpAnyH_take (i := 8) (oi := { dst := some 136, op := Go.Op.binOp Go.BinOp.eql 3 (Go.Operand.tmp 131) (Go.Operand.tmp 135) 3, type := 4, pos := "law.go:229", after := #[{ on := 3, ground := Go.Ground.data }, { on := 7, ground := Go.Ground.data }], guard := none }) (v := .bool true) rfl (by kernel_rfl) (by kernel_rfl) (by kernel_rfl) (fun _ _ _ h => h) (Or.inl ⟨by rfl, ?_⟩) (by assumption) ?_
                · intro w' hS; exact (ex_eqi (a := (A : Int)) (b := (A : Int)) rfl rfl rfl w').trans (by simp)
                simp only [Act.put, List.setIfInBounds_toArray, List.set_cons_zero, List.set_cons_succ]
                refine wpAnyH_take (i := 9) (oi := { dst := some 137, op := Go.Op.move (Go.Operand.tmp 136), type := 4, pos := "law.go:229", after := #[{ on := 8, ground := Go.Ground.data }], guard := none }) (v := .bool true) rfl (by kernel_rfl) (by kernel_rfl) (by kernel_rfl) (fun _ _ _ h => h) (Or.inl ⟨by rfl, ?_⟩) (by assumption) ?_
                · intro w' hS; rfl
                simp only [Act.put, List.setIfInBounds_toArray, List.set_cons_zero, List.set_cons_succ]
                refine wpAnyH_take (i := 10) (oi := { dst := some 138, op := Go.Op.move (Go.Operand.tmp 19), type := 22, pos := "law.go:229", after := #[{ on := 9, ground := Go.Ground.guard }], guard := some (9, true) }) (v := .slice (some ⟨g2, 0, none⟩) n n) rfl (by kernel_rfl) (by kernel_rfl) (by kernel_rfl) (fun _ _ _ h => h) (Or.inl ⟨by rfl, ?_⟩) (by assumption) ?_
                · intro w' hS; rfl
                simp only [Act.put, List.setIfInBounds_toArray, List.set_cons_zero, List.set_cons_succ]
                refine wpAnyH_take (i := 11) (oi := { dst := some 139, op := Go.Op.move (Go.Operand.tmp 22), type := 3, pos := "law.go:229", after := #[{ on := 9, ground := Go.Ground.guard }], guard := some (9, true) }) (v := .int .i64 (x : Int)) rfl (by kernel_rfl) (by kernel_rfl) (by kernel_rfl) (fun _ _ _ h => h) (Or.inl ⟨by rfl, ?_⟩) (by assumption) ?_
                · intro w' hS; rfl
                simp only [Act.put, List.setIfInBounds_toArray, List.set_cons_zero, List.set_cons_succ]
                refine wpAnyH_take (i := 12) (oi := { dst := some 140, op := Go.Op.indexAddr 22 (Go.Operand.tmp 138) (Go.Operand.tmp 139), type := 0, pos := "law.go:229", after := #[{ on := 10, ground := Go.Ground.data }, { on := 11, ground := Go.Ground.data }, { on := 9, ground := Go.Ground.guard }], guard := some (9, true) }) (v := .pointer (some ⟨g2, x, none⟩)) rfl (by kernel_rfl) (by kernel_rfl) (by kernel_rfl) (fun _ _ _ h => h) (Or.inl ⟨by rfl, ?_⟩) (by assumption) ?_
                · intro w' hS; exact ex_idx rfl rfl rfl hx w'
                simp only [Act.put, List.setIfInBounds_toArray, List.set_cons_zero, List.set_cons_succ]
                refine wpAnyH_take (i := 13) (oi := { dst := some 141, op := Go.Op.load 3 (Go.Operand.tmp 140), type := 3, pos := "law.go:229", after := #[{ on := 12, ground := Go.Ground.data }, { on := 9, ground := Go.Ground.guard }], guard := some (9, true) }) (v := .int .i64 ((C : Nat) : Int)) rfl (by kernel_rfl) (by kernel_rfl) (by kernel_rfl) (fun _ _ _ h => h) (Or.inl ⟨by rfl, ?_⟩) (by assumption) ?_
                · intro w' hS; exact ex_ldi rfl rfl (HC1.out w' hS).2.2.1
                simp only [Act.put, List.setIfInBounds_toArray, List.set_cons_zero, List.set_cons_succ]
                refine wpAnyH_take (i := 14) (oi := { dst := some 142, op := Go.Op.move (Go.Operand.tmp 19), type := 22, pos := "law.go:229", after := #[{ on := 9, ground := Go.Ground.guard }], guard := some (9, true) }) (v := .slice (some ⟨g2, 0, none⟩) n n) rfl (by kernel_rfl) (by kernel_rfl) (by kernel_rfl) (fun _ _ _ h => h) (Or.inl ⟨by rfl, ?_⟩) (by assumption) ?_
                · intro w' hS; rfl
                simp only [Act.put, List.setIfInBounds_toArray, List.set_cons_zero, List.set_cons_succ]
                refine wpAnyH_take (i := 15) (oi := { dst := some 143, op := Go.Op.move (Go.Operand.tmp 23), type := 3, pos := "law.go:229", after := #[{ on := 9, ground := Go.Ground.guard }], guard := some (9, true) }) (v := .int .i64 (y : Int)) rfl (by kernel_rfl) (by kernel_rfl) (by kernel_rfl) (fun _ _ _ h => h) (Or.inl ⟨by rfl, ?_⟩) (by assumption) ?_
                · intro w' hS; rfl
                simp only [Act.put, List.setIfInBounds_toArray, List.set_cons_zero, List.set_cons_succ]
                refine wpAnyH_take (i := 16) (oi := { dst := some 144, op := Go.Op.indexAddr 22 (Go.Operand.tmp 142) (Go.Operand.tmp 143), type := 0, pos := "law.go:229", after := #[{ on := 14, ground := Go.Ground.data }, { on := 15, ground := Go.Ground.data }, { on := 9, ground := Go.Ground.guard }], guard := some (9, true) }) (v := .pointer (some ⟨g2, y, none⟩)) rfl (by kernel_rfl) (by kernel_rfl) (by kernel_rfl) (fun _ _ _ h => h) (Or.inl ⟨by rfl, ?_⟩) (by assumption) ?_
                · intro w' hS; exact ex_idx rfl rfl rfl hy w'
                simp only [Act.put, List.setIfInBounds_toArray, List.set_cons_zero, List.set_cons_succ]
                refine wpAnyH_take (i := 17) (oi := { dst := some 145, op := Go.Op.load 3 (Go.Operand.tmp 144), type := 3, pos := "law.go:229", after := #[{ on := 16, ground := Go.Ground.data }, { on := 9, ground := Go.Ground.guard }], guard := some (9, true) }) (v := .int .i64 ((C : Nat) : Int)) rfl (by kernel_rfl) (by kernel_rfl) (by kernel_rfl) (fun _ _ _ h => h) (Or.inl ⟨by rfl, ?_⟩) (by assumption) ?_
                · intro w' hS; exact ex_ldi rfl rfl (HC1.out w' hS).2.2.2
                simp only [Act.put, List.setIfInBounds_toArray, List.set_cons_zero, List.set_cons_succ]
                refine wpAnyH_take (i := 18) (oi := { dst := some 146, op := Go.Op.binOp Go.BinOp.neq 3 (Go.Operand.tmp 141) (Go.Operand.tmp 145) 3, type := 4, pos := "law.go:229", after := #[{ on := 13, ground := Go.Ground.data }, { on := 17, ground := Go.Ground.data }, { on := 9, ground := Go.Ground.guard }], guard := some (9, true) }) (v := .bool false) rfl (by kernel_rfl) (by kernel_rfl) (by kernel_rfl) (fun _ _ _ h => h) (Or.inl ⟨by rfl, ?_⟩) (by assumption) ?_
                · intro w' hS; exact (ex_nei (a := (C : Int)) (b := (C : Int)) rfl rfl rfl w').trans (by simp)
                simp only [Act.put, List.setIfInBounds_toArray, List.set_cons_zero, List.set_cons_succ]
                refine wpAnyH_take (i := 19) (oi := { dst := some 147, op := Go.Op.pick (Go.Operand.tmp 137) (Go.Operand.tmp 146) (Go.Operand.const (Go.Value.bool false)), type := 4, pos := "law.go:229", after := #[{ on := 9, ground := Go.Ground.data }, { on := 18, ground := Go.Ground.data }], guard := none }) (v := .bool false) rfl (by kernel_rfl) (by kernel_rfl) (by kernel_rfl) (fun _ _ _ h => h) (Or.inl ⟨by rfl, ?_⟩) (by assumption) ?_
                · intro w' hS; rfl
                simp only [Act.put, List.setIfInBounds_toArray, List.set_cons_zero, List.set_cons_succ]
                refine wpAnyH_done (by kernel_rfl) ?_ _
                go_wp2_with fail
                go_roundw
                case rel => exact ⟨y + 1, by go_num, by omega, HF.out.drew⟩
                case measure => simp [intOf]; omega
              · have hABf : ((A : Int) == (B : Int)) = false := by rw [beq_eq_false_iff_ne]; omega
                have hABn : ¬ (A : Int) = (B : Int) := by omega
                refine wp_region_held_drew (S := fun w' => FK W w' bA bB g1 g2 n l1 l2) (by kernel_rfl) HF.out.drew (fun hHeld => ?_)
                refine wpAnyH_take (i := 0) (oi := { dst := some 128, op := Go.Op.move (Go.Operand.tmp 17), type := 22, pos := "law.go:229", after := #[], guard := none }) (v := .slice (some ⟨g1, 0, none⟩) n n) rfl (by kernel_rfl) (by kernel_rfl) (by kernel_rfl) (fun _ _ _ h => h) (Or.inl ⟨by rfl, ?_⟩) (by assumption) ?_
                · intro w' hS; rfl
                simp only [Act.put, List.setIfInBounds_toArray, List.set_cons_zero, List.set_cons_succ]
                refine wpAnyH_take (i := 1) (oi := { dst := some 129, op := Go.Op.move (Go.Operand.tmp 22), type := 3, pos := "law.go:229", after := #[], guard := none }) (v := .int .i64 (x : Int)) rfl (by kernel_rfl) (by kernel_rfl) (by kernel_rfl) (fun _ _ _ h => h) (Or.inl ⟨by rfl, ?_⟩) (by assumption) ?_
                · intro w' hS; rfl
                simp only [Act.put, List.setIfInBounds_toArray, List.set_cons_zero, List.set_cons_succ]
                refine wpAnyH_take (i := 2) (oi := { dst := some 130, op := Go.Op.indexAddr 22 (Go.Operand.tmp 128) (Go.Operand.tmp 129), type := 0, pos := "law.go:229", after := #[{ on := 0, ground := Go.Ground.data }, { on := 1, ground := Go.Ground.data }], guard := none }) (v := .pointer (some ⟨g1, x, none⟩)) rfl (by kernel_rfl) (by kernel_rfl) (by kernel_rfl) (fun _ _ _ h => h) (Or.inl ⟨by rfl, ?_⟩) (by assumption) ?_
                · intro w' hS; exact ex_idx rfl rfl rfl hx w'
                simp only [Act.put, List.setIfInBounds_toArray, List.set_cons_zero, List.set_cons_succ]
                refine wpAnyH_take (i := 3) (oi := { dst := some 131, op := Go.Op.load 3 (Go.Operand.tmp 130), type := 3, pos := "law.go:229", after := #[{ on := 2, ground := Go.Ground.data }], guard := none }) (v := .int .i64 ((A : Nat) : Int)) rfl (by kernel_rfl) (by kernel_rfl) (by kernel_rfl) (fun _ _ _ h => h) (Or.inl ⟨by rfl, ?_⟩) (by assumption) ?_
                · intro w' hS; exact ex_ldi rfl rfl (HC1.out w' hS).1
                simp only [Act.put, List.setIfInBounds_toArray, List.set_cons_zero, List.set_cons_succ]
                refine wpAnyH_take (i := 4) (oi := { dst := some 132, op := Go.Op.move (Go.Operand.tmp 17), type := 22, pos := "law.go:229", after := #[], guard := none }) (v := .slice (some ⟨g1, 0, none⟩) n n) rfl (by kernel_rfl) (by kernel_rfl) (by kernel_rfl) (fun _ _ _ h => h) (Or.inl ⟨by rfl, ?_⟩) (by assumption) ?_
                · intro w' hS; rfl
                simp only [Act.put, List.setIfInBounds_toArray, List.set_cons_zero, List.set_cons_succ]
                refine wpAnyH_take (i := 5) (oi := { dst := some 133, op := Go.Op.move (Go.Operand.tmp 23), type := 3, pos := "law.go:229", after := #[], guard := none }) (v := .int .i64 (y : Int)) rfl (by kernel_rfl) (by kernel_rfl) (by kernel_rfl) (fun _ _ _ h => h) (Or.inl ⟨by rfl, ?_⟩) (by assumption) ?_
                · intro w' hS; rfl
                simp only [Act.put, List.setIfInBounds_toArray, List.set_cons_zero, List.set_cons_succ]
                refine wpAnyH_take (i := 6) (oi := { dst := some 134, op := Go.Op.indexAddr 22 (Go.Operand.tmp 132) (Go.Operand.tmp 133), type := 0, pos := "law.go:229", after := #[{ on := 4, ground := Go.Ground.data }, { on := 5, ground := Go.Ground.data }], guard := none }) (v := .pointer (some ⟨g1, y, none⟩)) rfl (by kernel_rfl) (by kernel_rfl) (by kernel_rfl) (fun _ _ _ h => h) (Or.inl ⟨by rfl, ?_⟩) (by assumption) ?_
                · intro w' hS; exact ex_idx rfl rfl rfl hy w'
                simp only [Act.put, List.setIfInBounds_toArray, List.set_cons_zero, List.set_cons_succ]
                refine wpAnyH_take (i := 7) (oi := { dst := some 135, op := Go.Op.load 3 (Go.Operand.tmp 134), type := 3, pos := "law.go:229", after := #[{ on := 6, ground := Go.Ground.data }], guard := none }) (v := .int .i64 ((B : Nat) : Int)) rfl (by kernel_rfl) (by kernel_rfl) (by kernel_rfl) (fun _ _ _ h => h) (Or.inl ⟨by rfl, ?_⟩) (by assumption) ?_
                · intro w' hS; exact ex_ldi rfl rfl (HC1.out w' hS).2.1
                simp only [Act.put, List.setIfInBounds_toArray, List.set_cons_zero, List.set_cons_succ]
                refine wpAnyH_take (i := 8) (oi := { dst := some 136, op := Go.Op.binOp Go.BinOp.eql 3 (Go.Operand.tmp 131) (Go.Operand.tmp 135) 3, type := 4, pos := "law.go:229", after := #[{ on := 3, ground := Go.Ground.data }, { on := 7, ground := Go.Ground.data }], guard := none }) (v := .bool false) rfl (by kernel_rfl) (by kernel_rfl) (by kernel_rfl) (fun _ _ _ h => h) (Or.inl ⟨by rfl, ?_⟩) (by assumption) ?_
                · intro w' hS; exact (ex_eqi (a := (A : Int)) (b := (B : Int)) rfl rfl rfl w').trans (by rw [hABf])
                simp only [Act.put, List.setIfInBounds_toArray, List.set_cons_zero, List.set_cons_succ]
                refine wpAnyH_take (i := 9) (oi := { dst := some 137, op := Go.Op.move (Go.Operand.tmp 136), type := 4, pos := "law.go:229", after := #[{ on := 8, ground := Go.Ground.data }], guard := none }) (v := .bool false) rfl (by kernel_rfl) (by kernel_rfl) (by kernel_rfl) (fun _ _ _ h => h) (Or.inl ⟨by rfl, ?_⟩) (by assumption) ?_
                · intro w' hS; rfl
                simp only [Act.put, List.setIfInBounds_toArray, List.set_cons_zero, List.set_cons_succ]
                refine wpAnyH_take (i := 10) (oi := { dst := some 138, op := Go.Op.move (Go.Operand.tmp 19), type := 22, pos := "law.go:229", after := #[{ on := 9, ground := Go.Ground.guard }], guard := some (9, true) }) (v := undef) rfl (by kernel_rfl) (by kernel_rfl) (by kernel_rfl) (fun _ _ _ h => h) (Or.inr ⟨by rfl, rfl⟩) (by assumption) ?_
                simp only [Act.put, List.setIfInBounds_toArray, List.set_cons_zero, List.set_cons_succ]
                refine wpAnyH_take (i := 11) (oi := { dst := some 139, op := Go.Op.move (Go.Operand.tmp 22), type := 3, pos := "law.go:229", after := #[{ on := 9, ground := Go.Ground.guard }], guard := some (9, true) }) (v := undef) rfl (by kernel_rfl) (by kernel_rfl) (by kernel_rfl) (fun _ _ _ h => h) (Or.inr ⟨by rfl, rfl⟩) (by assumption) ?_
                simp only [Act.put, List.setIfInBounds_toArray, List.set_cons_zero, List.set_cons_succ]
                refine wpAnyH_take (i := 12) (oi := { dst := some 140, op := Go.Op.indexAddr 22 (Go.Operand.tmp 138) (Go.Operand.tmp 139), type := 0, pos := "law.go:229", after := #[{ on := 10, ground := Go.Ground.data }, { on := 11, ground := Go.Ground.data }, { on := 9, ground := Go.Ground.guard }], guard := some (9, true) }) (v := undef) rfl (by kernel_rfl) (by kernel_rfl) (by kernel_rfl) (fun _ _ _ h => h) (Or.inr ⟨by rfl, rfl⟩) (by assumption) ?_
                simp only [Act.put, List.setIfInBounds_toArray, List.set_cons_zero, List.set_cons_succ]
                refine wpAnyH_take (i := 13) (oi := { dst := some 141, op := Go.Op.load 3 (Go.Operand.tmp 140), type := 3, pos := "law.go:229", after := #[{ on := 12, ground := Go.Ground.data }, { on := 9, ground := Go.Ground.guard }], guard := some (9, true) }) (v := undef) rfl (by kernel_rfl) (by kernel_rfl) (by kernel_rfl) (fun _ _ _ h => h) (Or.inr ⟨by rfl, rfl⟩) (by assumption) ?_
                simp only [Act.put, List.setIfInBounds_toArray, List.set_cons_zero, List.set_cons_succ]
                refine wpAnyH_take (i := 14) (oi := { dst := some 142, op := Go.Op.move (Go.Operand.tmp 19), type := 22, pos := "law.go:229", after := #[{ on := 9, ground := Go.Ground.guard }], guard := some (9, true) }) (v := undef) rfl (by kernel_rfl) (by kernel_rfl) (by kernel_rfl) (fun _ _ _ h => h) (Or.inr ⟨by rfl, rfl⟩) (by assumption) ?_
                simp only [Act.put, List.setIfInBounds_toArray, List.set_cons_zero, List.set_cons_succ]
                refine wpAnyH_take (i := 15) (oi := { dst := some 143, op := Go.Op.move (Go.Operand.tmp 23), type := 3, pos := "law.go:229", after := #[{ on := 9, ground := Go.Ground.guard }], guard := some (9, true) }) (v := undef) rfl (by kernel_rfl) (by kernel_rfl) (by kernel_rfl) (fun _ _ _ h => h) (Or.inr ⟨by rfl, rfl⟩) (by assumption) ?_
                simp only [Act.put, List.setIfInBounds_toArray, List.set_cons_zero, List.set_cons_succ]
                refine wpAnyH_take (i := 16) (oi := { dst := some 144, op := Go.Op.indexAddr 22 (Go.Operand.tmp 142) (Go.Operand.tmp 143), type := 0, pos := "law.go:229", after := #[{ on := 14, ground := Go.Ground.data }, { on := 15, ground := Go.Ground.data }, { on := 9, ground := Go.Ground.guard }], guard := some (9, true) }) (v := undef) rfl (by kernel_rfl) (by kernel_rfl) (by kernel_rfl) (fun _ _ _ h => h) (Or.inr ⟨by rfl, rfl⟩) (by assumption) ?_
                simp only [Act.put, List.setIfInBounds_toArray, List.set_cons_zero, List.set_cons_succ]
                refine wpAnyH_take (i := 17) (oi := { dst := some 145, op := Go.Op.load 3 (Go.Operand.tmp 144), type := 3, pos := "law.go:229", after := #[{ on := 16, ground := Go.Ground.data }, { on := 9, ground := Go.Ground.guard }], guard := some (9, true) }) (v := undef) rfl (by kernel_rfl) (by kernel_rfl) (by kernel_rfl) (fun _ _ _ h => h) (Or.inr ⟨by rfl, rfl⟩) (by assumption) ?_
                simp only [Act.put, List.setIfInBounds_toArray, List.set_cons_zero, List.set_cons_succ]
                refine wpAnyH_take (i := 18) (oi := { dst := some 146, op := Go.Op.binOp Go.BinOp.neq 3 (Go.Operand.tmp 141) (Go.Operand.tmp 145) 3, type := 4, pos := "law.go:229", after := #[{ on := 13, ground := Go.Ground.data }, { on := 17, ground := Go.Ground.data }, { on := 9, ground := Go.Ground.guard }], guard := some (9, true) }) (v := undef) rfl (by kernel_rfl) (by kernel_rfl) (by kernel_rfl) (fun _ _ _ h => h) (Or.inr ⟨by rfl, rfl⟩) (by assumption) ?_
                simp only [Act.put, List.setIfInBounds_toArray, List.set_cons_zero, List.set_cons_succ]
                refine wpAnyH_take (i := 19) (oi := { dst := some 147, op := Go.Op.pick (Go.Operand.tmp 137) (Go.Operand.tmp 146) (Go.Operand.const (Go.Value.bool false)), type := 4, pos := "law.go:229", after := #[{ on := 9, ground := Go.Ground.data }, { on := 18, ground := Go.Ground.data }], guard := none }) (v := .bool false) rfl (by kernel_rfl) (by kernel_rfl) (by kernel_rfl) (fun _ _ _ h => h) (Or.inl ⟨by rfl, ?_⟩) (by assumption) ?_
                · intro w' hS; rfl
                simp only [Act.put, List.setIfInBounds_toArray, List.set_cons_zero, List.set_cons_succ]
                refine wpAnyH_done (by kernel_rfl) ?_ _
                go_wp2_with fail
                go_roundw
                case rel => exact ⟨y + 1, by go_num, by omega, HF.out.drew⟩
                case measure => simp [intOf]; omega
            · have hyI : ¬ (y : Int) < n := by omega
              go_wp2_with fail
              go_roundw
              case rel => exact ⟨x + 1, by go_num, by omega, HF.out⟩
              case measure => simp [intOf]; omega
        · have hxI : ¬ (x : Int) < n := by omega
          go_wp2_with fail
          go_ret
          exact ⟨rfl, HF.out.below⟩

/-! ### The row's step -/
theorem own : ownKnob Try.prog.godebug = none := by kernel_rfl
set_option maxRecDepth 100000 in
theorem lifted (os : Os) (started : os.Started) (H : Type) (enc : TypeId × Value → H) :
    ReturnsInHanded {} Try.checked os 6 .any (Rows.transKernelsSpec.pre6 enc Try.prog Try.f6 Rows.transKernelsRow.domain false) (Rows.transKernelsSpec.post enc Try.prog Try.f6 false true false false) := by
  refine returnsInHanded_of_change_sized (C := Try.checked) own started (by kernel_rfl) Try.func6
    (ChangeSpec.witness6 (enc := enc) (C := Try.checked) false ⟨#[], #[.int .i64 0, .slice none 0 0, .slice none 0 0], []⟩ 8 (by kernel_rfl) (by kernel_rfl) (by kernel_rfl) (by kernel_rfl)) ?_
  intro W base args ds gs before hval0 hW hcnd hsz0 _
  have hval : ∀ (j : Nat) t v, Try.f6.params[j]? = some t → args[j]? = some v → Value.okWide Try.prog W .any base t v := hval0
  clear hval0
  have hsz : (DataW.weightsEach Try.prog (Try.f6.params.toList ++ Rows.transKernelsSpec.plain.varTypes Try.prog) (ds ++ gs)).all (· ≤ reachBytes) = true := hsz0
  clear hsz0
  have hW' := hW
  obtain ⟨p, q, hA0, hV, rfl, hfz, hnd⟩ := hW
  have hA : DataW.TrodAll enc Try.prog W 0 (fun _ => true) true Try.f6.params.toList args.toList ds p := hA0
  rw [Try.params6] at hA hval hsz
  obtain ⟨v0, vs0, d0, ds0, p0, q0, hargs, rfl, rfl, h0, r0⟩ := trodAll_cons hA
  obtain ⟨v1, vs1, d1, ds1, p1, q1, rfl, rfl, rfl, h1, r1⟩ := trodAll_cons r0
  obtain ⟨v2, vs2, d2, ds2, p2, q2, rfl, rfl, rfl, h2, r2⟩ := trodAll_cons r1
  obtain ⟨rfl, rfl, rfl⟩ := trodAll_nil r2
  obtain rfl : args = #[v0, v1, v2] := by cases args; simp_all
  obtain ⟨rfl, rfl⟩ := trodVars_none hV
  obtain ⟨a0, rfl, rfl, rfl, w0⟩ := open_int Try.underlying3 (hval 0 3 v0 rfl rfl) h0
  obtain ⟨a1, w1, i1, x1, y1⟩ := open_listW (hval 1 22 v1 rfl rfl) h1
  have z1 : (a1.length + 2) * 8 ≤ 140737488355328 := by
    rcases y1 with ⟨_, rfl⟩ | ⟨e, s, rfl, hy⟩
    · decide
    · have := sized_slice hsz (j := 1) (t := 22) rfl rfl Try.underlying22
      rw [Try.bytes_int1] at this
      simp only [reachBytes] at this
      omega
  have g1 : ∀ x ∈ p1, x.block < W.heap.size := fun x hx => hW'.lt x (by simp [hx])
  obtain ⟨a2, w2, i2, x2, y2⟩ := open_listW (hval 2 22 v2 rfl rfl) h2
  have z2 : (a2.length + 2) * 8 ≤ 140737488355328 := by
    rcases y2 with ⟨_, rfl⟩ | ⟨e, s, rfl, hy⟩
    · decide
    · have := sized_slice hsz (j := 2) (t := 22) rfl rfl Try.underlying22
      rw [Try.bytes_int1] at this
      simp only [reachBytes] at this
      omega
  have g2 : ∀ x ∈ p2, x.block < W.heap.size := fun x hx => hW'.lt x (by simp [hx])
  clear hA0
  refine (walk a0 v1 a1 v2 a2 W (i64_of w0) w1 i1 (by omega) w2 i2 (by omega)).mono fun e W' ⟨he, bel⟩ => ?_
  subst he
  exact ⟨_, rfl, _, _, _, [], _, [], hW', trodAll_mk1 (shut_bool Try.underlying4 _), (trodAll_cons_mk (shut_int Try.underlying3 w0) (trodAll_cons_mk (Below.trod Try.laidOut (by kernel_rfl) (of_decide_eq_true (by kernel_rfl)) h1 bel g1) (trodAll_cons_mk (Below.trod Try.laidOut (by kernel_rfl) (of_decide_eq_true (by kernel_rfl)) h2 bel g2) trodAll_mk0))), rfl, bel.frame _, fun h => by cases h⟩

theorem over : Rows.transKernelsRow.holds Try.pinned (OpenSpec.ofChange Rows.transKernelsSpec) :=
  OpenClaim.holds_of_wide 6 Try.f6 rfl rfl rfl rfl rfl rfl rfl ⟨rfl, rfl, rfl, rfl, rfl⟩ rfl rfl rfl rfl rfl (by kernel_rfl) Try.func6 (by kernel_rfl)
    (of_decide_eq_true (by kernel_rfl)) (by unfold Func.isWrapper; first | (rw [if_pos (by decide +kernel)]; kernel_rfl) | (rw [if_neg (by decide +kernel)]; exact ⟨rfl, rfl⟩))
    (fun os started H enc _ => lifted os started H enc)

end Go.Proofs.Ythglficjhgpegab.transKernels
namespace Go.Proofs.Ythglficjhgpegab
/-- The given statement. -/
theorem transKernels_holds : Rows.TransKernelsSaid := transKernels.over
end Go.Proofs.Ythglficjhgpegab
