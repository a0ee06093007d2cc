/- No table, and one that nobody made: each call answers nothing; the document's of none too. -/
import Derived.Test.YtihjhkbbpphocaaCe
namespace Go.Proofs.Ytihjhkbbpphocaa
open Go Go.RowKit Go.Lib
set_option linter.unusedVariables false

/-- No table, or one whose mark is nil. -/
def NoT (w : World) (x : Value) : Prop := x = .pointer none ∨ ∃ b, x = .pointer (some ⟨b, 0, none⟩) ∧ b < w.heap.size ∧ w.cell? ⟨b, 0, none⟩ = some (.pointer none)
theorem NoT.below {w w' : World} {x : Value} (h : NoT w x) (hb : Below w.heap.size w w') : NoT w' x := by
  rcases h with h | ⟨b, h1, h2, h3⟩
  · exact .inl h
  · exact .inr ⟨b, h1, Nat.lt_of_lt_of_le h2 hb.size, by rw [below_cell hb h2]; exact h3⟩
theorem eq_nil (a : Addr) (w : World) : (binOp .eql 65 (.pointer none) (.pointer (some a))).run Try.prog w = .ok (.bool false) w := by
  simp only [binOp]
  simp only [Op.equal, Op.maxDepth]
  rw [show (10000 : Nat) = 9999 + 1 from rfl, Op.equalIn]
  simp [Sem.run_bind, run_underlying Try.underlying65]
set_option maxHeartbeats 1000000 in
set_option maxRecDepth 100000 in
theorem isMade_no (x : Value) (w : World) (h : NoT w x) : Calls Try.prog 58 #[x] w fun e w' => e = .returned (.bool false) ∧ w = w' := by
  rcases h with rfl | ⟨b, rfl, hb, hc⟩
  · go_enter Try.func58, Try.ntmps58
    go_wp2_with fail
    go_ret
    exact ⟨rfl, rfl⟩
  · have heq := eq_nil ⟨b, 0, none⟩ w
    go_enter Try.func58, Try.ntmps58
    go_wp2_with fail
    go_ret
    exact ⟨rfl, rfl⟩
set_option maxHeartbeats 1000000 in
set_option maxRecDepth 100000 in
theorem len_no (x : Value) (w : World) (h : NoT w x) : Calls Try.prog 33 #[x] w fun e w' => e = .returned (.int .i64 0) ∧ w = w' := by
  have HX : Hid (NoT w x) := h
  clear h
  go_enter Try.func33, Try.ntmps33
  go_wp2_with (go_at_call 58; refine (isMade_no _ _ HX.out).mono ?_; rintro e w1 ⟨rfl, rfl⟩)
  go_ret
  exact ⟨rfl, rfl⟩
set_option maxHeartbeats 1000000 in
set_option maxRecDepth 100000 in
theorem put_no (x : Value) (T : Array Value) (w : World) (h : NoT w x) : Calls Try.prog 52 #[x, .agg T] w fun e w' => e = .returned (.tuple #[.int .i64 0, .bool false, .int .i64 1]) ∧ Below w.heap.size w w' := by
  have HX : Hid (NoT (w.alloc (.cells T 26)) x) := h.below ((Below.refl _ _).alloc (Nat.le_refl _) _)
  have HB : Hid (Below w.heap.size w (w.alloc (.cells T 26))) := (Below.refl _ _).alloc (Nat.le_refl _) _
  clear h
  go_enter Try.func52, Try.ntmps52
  go_wp2_with (go_at_call 58; refine (isMade_no _ _ HX.out).mono ?_; rintro e w1 ⟨rfl, rfl⟩)
  go_ret3
  exact ⟨rfl, HB.out⟩
set_option maxHeartbeats 1000000 in
set_option maxRecDepth 100000 in
theorem find_no (x : Value) (T : Array Value) (w : World) (h : NoT w x) : Calls Try.prog 54 #[x, .agg T] w fun e w' => e = .returned (.tuple #[.int .i64 0, .bool false]) ∧ Below w.heap.size w w' := by
  have HX : Hid (NoT (w.alloc (.cells T 26)) x) := h.below ((Below.refl _ _).alloc (Nat.le_refl _) _)
  have HB : Hid (Below w.heap.size w (w.alloc (.cells T 26))) := (Below.refl _ _).alloc (Nat.le_refl _) _
  clear h
  go_enter Try.func54, Try.ntmps54
  go_wp2_with (go_at_call 58; refine (isMade_no _ _ HX.out).mono ?_; rintro e w1 ⟨rfl, rfl⟩)
  go_ret2
  exact ⟨rfl, HB.out⟩
set_option maxHeartbeats 1000000 in
set_option maxRecDepth 100000 in
theorem at_no (x : Value) (n : Value) (w : World) (h : NoT w x) : Calls Try.prog 56 #[x, n] w fun e w' => e = .returned (.tuple #[trZ, .bool false]) ∧ Below w.heap.size w w' := by
  have HZ : Hid (TrAt (w.alloc (.cells #[.int .i64 0, .int .u64 0, .int .u64 0, .int .u64 0, .int .u64 0, .int .u64 0, .int .u64 0, .int .u64 0] 26)) w.heap.size 0 (fun _ => 0)) := tr_z w
  have HX : Hid (NoT (w.alloc (.cells #[.int .i64 0, .int .u64 0, .int .u64 0, .int .u64 0, .int .u64 0, .int .u64 0, .int .u64 0, .int .u64 0] 26)) x) := h.below ((Below.refl _ _).alloc (Nat.le_refl _) _)
  have HB : Hid (Below w.heap.size w (w.alloc (.cells #[.int .i64 0, .int .u64 0, .int .u64 0, .int .u64 0, .int .u64 0, .int .u64 0, .int .u64 0, .int .u64 0] 26))) := (Below.refl _ _).alloc (Nat.le_refl _) _
  clear h
  go_enter Try.func56, Try.ntmps56
  go_wp2_with (go_at_call 58; refine (isMade_no _ _ HX.out).mono ?_; rintro e w1 ⟨rfl, rfl⟩)
  exact bodyPost_ret (results_tr_tmp rfl rfl HZ.out) rfl ⟨rfl, HB.out⟩
set_option maxHeartbeats 1000000 in
set_option maxRecDepth 100000 in
theorem rlen_no (w : World) : Calls Try.prog 34 #[.pointer none] w fun e w' => e = .returned (.int .i64 0) ∧ w = w' := by
  go_enter Try.func34, Try.ntmps34
  go_wp2_with fail
  go_ret
  exact ⟨rfl, rfl⟩
set_option maxHeartbeats 1000000 in
set_option maxRecDepth 100000 in
theorem rput_no (T : Array Value) (w : World) : Calls Try.prog 53 #[.pointer none, .agg T] w fun e w' => e = .returned (.tuple #[.int .i64 0, .bool false, .int .i64 1]) ∧ Below w.heap.size w w' := by
  have HB : Hid (Below w.heap.size w (w.alloc (.cells T 26))) := (Below.refl _ _).alloc (Nat.le_refl _) _
  go_enter Try.func53, Try.ntmps53
  go_wp2_with fail
  go_ret3
  exact ⟨rfl, HB.out⟩
set_option maxHeartbeats 1000000 in
set_option maxRecDepth 100000 in
theorem rfind_no (T : Array Value) (w : World) : Calls Try.prog 55 #[.pointer none, .agg T] w fun e w' => e = .returned (.tuple #[.int .i64 0, .bool false]) ∧ Below w.heap.size w w' := by
  have HB : Hid (Below w.heap.size w (w.alloc (.cells T 26))) := (Below.refl _ _).alloc (Nat.le_refl _) _
  go_enter Try.func55, Try.ntmps55
  go_wp2_with fail
  go_ret2
  exact ⟨rfl, HB.out⟩
set_option maxHeartbeats 1000000 in
set_option maxRecDepth 100000 in
theorem rat_no (n : Value) (w : World) : Calls Try.prog 57 #[.pointer none, n] w fun e w' => e = .returned (.tuple #[trZ, .bool false]) ∧ Below w.heap.size w w' := by
  have HZ : Hid (TrAt (w.alloc (.cells #[.int .i64 0, .int .u64 0, .int .u64 0, .int .u64 0, .int .u64 0, .int .u64 0, .int .u64 0, .int .u64 0] 26)) w.heap.size 0 (fun _ => 0)) := tr_z w
  have HB : Hid (Below w.heap.size w (w.alloc (.cells #[.int .i64 0, .int .u64 0, .int .u64 0, .int .u64 0, .int .u64 0, .int .u64 0, .int .u64 0, .int .u64 0] 26))) := (Below.refl _ _).alloc (Nat.le_refl _) _
  go_enter Try.func57, Try.ntmps57
  go_wp2_with fail
  exact bodyPost_ret (results_tr_tmp rfl rfl HZ.out) rfl ⟨rfl, HB.out⟩

/-- The cells of a call's data: its kind, the transformation's eight cells, a number. -/
def opC (k : Int) (c1 c2 c3 c4 c5 c6 c7 c8 c9 : Value) : Array Value := #[.int .i64 k, c1, c2, c3, c4, c5, c6, c7, c8, c9]
set_option maxHeartbeats 4000000 in
set_option maxRecDepth 100000 in
theorem asks_no (x : Value) (k : Int) (c1 c2 c3 c4 c5 c6 c7 c8 c9 : Value) (w : World) (h : NoT w x) :
    Calls Try.prog 32 #[x, .pointer none, .agg #[.int .i64 k, c1, c2, c3, c4, c5, c6, c7, c8, c9]] w fun e w' => e = .returned (.bool true) ∧ Below w.heap.size w w' := by
  obtain ⟨w0, hw0⟩ : ∃ w0, w0 = w.alloc (.cells #[.int .i64 k, c1, c2, c3, c4, c5, c6, c7, c8, c9] 73) := ⟨_, rfl⟩
  have HW0 : Hid (w0 = w.alloc (.cells #[.int .i64 k, c1, c2, c3, c4, c5, c6, c7, c8, c9] 73)) := hw0
  have HB0 : Hid (Below w.heap.size w w0) := by show Below _ _ _; rw [hw0]; exact (Below.refl _ _).alloc (Nat.le_refl _) _
  have HX0 : Hid (NoT w0 x) := h.below (by rw [hw0]; exact (Below.refl _ _).alloc (Nat.le_refl _) _)
  have HC0 : Hid (w0.heap[w.heap.size]? = some (.cells #[.int .i64 k, c1, c2, c3, c4, c5, c6, c7, c8, c9] 73 (0, 0))) := by show _ = _; rw [hw0]; exact heap_last _ _
  have HCS : Hid (∀ y, Below w0.heap.size w0 y → ∀ o, y.cell? ⟨w.heap.size, o, none⟩ = (#[.int .i64 k, c1, c2, c3, c4, c5, c6, c7, c8, c9] : Array Value)[o]?) := fun y hy o => by
    rw [below_cell hy (Array.getElem?_eq_some_iff.1 HC0.out).1]
    exact cell_of_row _ _ _ _ _ _ HC0.out
  clear h hw0
  by_cases k1 : k = 1
  · subst k1
    go_enter Try.func32, Try.ntmps32
    go_wp2_with fail
    rw [← HW0.out]
    refine (put_no x _ w0 HX0.out).mono ?_
    rintro e w1 ⟨rfl, hB1⟩
    have HB1 : Hid (Below w0.heap.size w0 w1) := hB1
    have cx := HCS.out _ hB1
    clear hB1
    go_wp2_with fail
    clear cx
    refine (rput_no _ w1).mono ?_
    rintro e w2 ⟨rfl, hB2⟩
    have HB2 : Hid (Below w.heap.size w w2) := go_on' HB0.out (go_on' HB1.out hB2)
    clear hB2
    go_wp2_with (go_at_call 10; refine (num13_any _ _).mono ?_; rintro e wn ⟨rfl, rfl⟩)
    go_ret
    exact ⟨rfl, HB2.out⟩
  by_cases k2 : k = 2
  · subst k2
    go_enter Try.func32, Try.ntmps32
    go_wp2_with fail
    rw [← HW0.out]
    refine (find_no x _ w0 HX0.out).mono ?_
    rintro e w1 ⟨rfl, hB1⟩
    have HB1 : Hid (Below w0.heap.size w0 w1) := hB1
    have cx := HCS.out _ hB1
    clear hB1
    go_wp2_with fail
    clear cx
    refine (rfind_no _ w1).mono ?_
    rintro e w2 ⟨rfl, hB2⟩
    have HB2 : Hid (Below w.heap.size w w2) := go_on' HB0.out (go_on' HB1.out hB2)
    clear hB2
    go_wp2_with fail
    go_ret
    exact ⟨rfl, HB2.out⟩
  by_cases k3 : k = 3
  · subst k3
    go_enter Try.func32, Try.ntmps32
    go_wp2_with fail
    rw [← HW0.out]
    refine (at_no x _ w0 HX0.out).mono ?_
    rintro e w1 ⟨rfl, hB1⟩
    have HB1 : Hid (Below w0.heap.size w0 (w1.alloc (.cells (trC 0 (fun _ => 0)) 26))) := hB1.alloc hB1.size _
    have cx := HCS.out _ HB1.out
    have hst := st_trNewG w1 0 (fun _ => 0)
    have HK : Hid (KG [(w1.heap.size, 0, fun _ => 0)] w (w1.alloc (.cells (trC 0 (fun _ => 0)) 26))) := KG.new (L := []) ⟨fun p hp => by simp at hp, go_on' HB0.out hB1⟩ _ _
    clear hB1
    unfold trZ trV
    go_wp2_with fail
    clear cx
    refine (rat_no _ _).mono ?_
    rintro e w2 ⟨rfl, hB2⟩
    have HK2 : Hid (KG [(w2.heap.size, 0, fun _ => 0), (w1.heap.size, 0, fun _ => 0)] w (w2.alloc (.cells (trC 0 (fun _ => 0)) 26))) := (HK.out.call hB2).new _ _
    clear hB2 hst
    have hst := st_trNewG w2 0 (fun _ => 0)
    have hs1 := same2_refl 7 0 (fun _ => 0)
    unfold trZ trV
    go_wp2_with (first
      | (refine wg_load rfl rfl (HK2.out.get (b := w2.heap.size) (N := 0) (g := fun _ => 0) (by simp)) rfl ?_)
      | (refine wg_load rfl rfl (HK2.out.get (b := w1.heap.size) (N := 0) (g := fun _ => 0) (by simp)) rfl ?_)
      | (refine wg_eq rfl rfl rfl rfl ?_))
    go_ret
    exact ⟨rfl, HK2.out.below⟩
  · have h1 : (k == 1) = false := by rw [beq_eq_false_iff_ne]; exact k1
    have h2 : (k == 2) = false := by rw [beq_eq_false_iff_ne]; exact k2
    have h3 : (k == 3) = false := by rw [beq_eq_false_iff_ne]; exact k3
    go_enter Try.func32, Try.ntmps32
    go_wp2_with fail
    rw [← HW0.out]
    refine (len_no x w0 HX0.out).mono ?_
    rintro e w1 ⟨rfl, rfl⟩
    go_wp2_with fail
    refine (rlen_no w0).mono ?_
    rintro e w1 ⟨rfl, rfl⟩
    go_wp2_with fail
    go_ret
    exact ⟨rfl, HB0.out⟩
end Go.Proofs.Ytihjhkbbpphocaa
