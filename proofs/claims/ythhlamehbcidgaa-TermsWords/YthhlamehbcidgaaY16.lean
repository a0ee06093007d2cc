/- The law's own identity; no monoid. -/
import Derived.Test.YthhlamehbcidgaaY15
namespace Go.Proofs.Ythhlamehbcidgaa
open Go Go.RowKit Go.Lib
set_option linter.unusedVariables false

def NoM (w : World) (x : Value) : Prop := x = .pointer none ∨ ∃ b, x = .pointer (some ⟨b, 0, none⟩) ∧ b < w.heap.size ∧ w.cell? ⟨b, 0, none⟩ = some (.pointer none)

theorem NoM.below {w w' : World} {x : Value} (h : NoM w x) (hb : Below w.heap.size w w') : NoM w' x := by
  rcases h with h | ⟨b, h1, h2, h3⟩
  · exact .inl h
  · exact .inr ⟨b, h1, Nat.lt_of_lt_of_le h2 hb.size, by rw [below_cell hb h2]; exact h3⟩

theorem eq_nilM (a : Addr) (w : World) : (binOp .eql 56 (.pointer none) (.pointer (some a))).run Try.prog w = .ok (.bool false) w := by
  simp only [binOp]
  simp only [Op.equal, Op.maxDepth]
  rw [show (10000 : Nat) = 9999 + 1 from rfl, Op.equalIn]
  simp [Sem.run_bind, run_underlying Try.underlying56]

set_option maxHeartbeats 1000000 in
set_option maxRecDepth 100000 in
theorem mmade_no (x : Value) (w : World) (h : NoM w x) : Calls Try.prog 91 #[x] w fun e w' => e = .returned (.bool false) ∧ w = w' := by
  rcases h with rfl | ⟨b, rfl, hb, hc⟩
  · go_enter Try.func91, Try.ntmps91
    go_wp2_with fail
    go_ret
    exact ⟨rfl, rfl⟩
  · have heq := eq_nilM ⟨b, 0, none⟩ w
    go_enter Try.func91, Try.ntmps91
    go_wp2_with fail
    go_ret
    exact ⟨rfl, rfl⟩

set_option maxHeartbeats 1000000 in
set_option maxRecDepth 100000 in
theorem mlen_no (x : Value) (w : World) (h : NoM w x) : Calls Try.prog 50 #[x] w fun e w' => e = .returned (.int .i64 0) ∧ w = w' := by
  have HX : Hid (NoM w x) := h
  clear h
  go_enter Try.func50, Try.ntmps50
  go_wp2_with (go_at_call 91; refine (mmade_no _ _ HX.out).mono ?_; rintro e w1 ⟨rfl, rfl⟩)
  go_ret
  exact ⟨rfl, rfl⟩

set_option maxHeartbeats 1000000 in
set_option maxRecDepth 100000 in
theorem value_no (x v0 v1 : Value) (w : World) (h : NoM w x) : Calls Try.prog 27 #[x, v0, v1] w fun e w' => e = .returned (.tuple #[.int .i64 0, .int .i64 1]) ∧ Below w.heap.size w w' := by
  have HX : Hid (NoM w x) := h
  have HB : Hid (Below w.heap.size w (w.alloc (.cells #[.int .i64 0] 3))) := below_new _ _
  clear h
  go_enter Try.func27, Try.ntmps27
  go_wp2_with (go_at_call 50; refine (mlen_no _ _ HX.out).mono ?_; rintro e w1 ⟨rfl, rfl⟩)
  go_ret2
  exact ⟨rfl, HB.out⟩

set_option maxHeartbeats 1000000 in
set_option maxRecDepth 100000 in
theorem num_any (k : Int) (w : World) : Calls Try.prog 11 #[.int .i64 k] w fun e w' => e = .returned (.int .i64 k) ∧ w = w' := by
  go_enter Try.func11, Try.ntmps11
  go_wp2_with fail
  go_ret
  exact ⟨rfl, rfl⟩

def kL : Sg := [(2, 120), (2, 121), (3, 0)]
def kR : Sg := [(2, 121), (4, 0)]
theorem k_read : idP ⟨#[32, 120, 32, 121, 32, 60, 61, 32, 40, 121, 41, 94, 119, 32]⟩ = some (kL, kR, true) := by kernel_rfl
theorem k_ck : ck2 (intS kL) (intS kR) = 0 := by decide
theorem k_l : nxP kL 9 kL.length = some ((⟨#[120, 121]⟩, 3), 0) := by kernel_rfl
theorem k_r : nxP kR 9 kR.length = some ((⟨#[121, 94, 119]⟩, 4), 0) := by kernel_rfl
theorem k_out : prV (((⟨#[120, 121]⟩ : ByteArray) ++ btw true) ++ (⟨#[121, 94, 119]⟩ : ByteArray)) = .tuple #[.string ⟨#[120, 121, 32, 60, 61, 32, 121, 94, 119]⟩, .int .i64 0] := by kernel_rfl

set_option maxHeartbeats 4000000 in
set_option maxRecDepth 100000 in
theorem knows19_any (w : World) : Calls Try.prog 12 #[] w fun e w' => e = .returned (.bool true) ∧ Below w.heap.size w w' := by
  have HP : Hid (Calls Try.prog 8 #[.string ⟨#[32, 120, 32, 121, 32, 60, 61, 32, 40, 121, 41, 94, 119, 32]⟩] w (PaQ kL kR true w)) := parse_ok (by decide) k_read (by decide) (by decide) k_ck w
  go_enter Try.func12, Try.ntmps12
  go_wp2_with fail
  refine Calls.mono HP.out ?_
  rintro e w1 ⟨vl, vr, rfl, hl, hr, hb, -⟩
  obtain ⟨a1, c1, rfl⟩ := own_shape hl
  obtain ⟨a2, c2, rfl⟩ := own_shape hr
  obtain ⟨w2, hw2⟩ : ∃ w2, w2 = w1.alloc (.cells #[.slice a1 kL.length c1, .slice a2 kR.length c2, .bool true] 24) := ⟨_, rfl⟩
  have HW2 : Hid (w2 = w1.alloc (.cells #[.slice a1 kL.length c1, .slice a2 kR.length c2, .bool true] 24)) := hw2
  have hb2 : Below w1.heap.size w1 w2 := by rw [hw2]; exact below_new _ _
  have HI : Hid (w2.heap[w1.heap.size]? = some (.cells #[.slice a1 kL.length c1, .slice a2 kR.length c2, .bool true] 24 (0, 0))) := by
    show _ = _
    rw [hw2]
    exact heap_last _ _
  have hil : w1.heap.size < w2.heap.size := (Array.getElem?_eq_some_iff.1 HI.out).1
  have HB2 : Hid (Below w.heap.size w w2) := go_on hb hb2
  have HPR : Hid (Calls Try.prog 15 #[.agg #[.slice a1 kL.length c1, .slice a2 kR.length c2, .bool true]] w2 fun e w' => e = .returned (.tuple #[.string ⟨#[120, 121, 32, 60, 61, 32, 121, 94, 119]⟩, .int .i64 0]) ∧ Below w2.heap.size w2 w') := by
    have h0 := print_ok kL kR true k_ck 9 9 _ _ 0 0 k_l k_r (.slice a1 kL.length c1) (.slice a2 kR.length c2) w2 ((row_sgr hl (by decide)).below hb2) ((row_sgr hr (by decide)).below hb2)
    rw [k_out] at h0
    exact h0
  have HIL : Hid (w1.heap.size < w2.heap.size) := hil
  clear hl hr hb hw2 hb2 hil
  go_wp2_with fail
  rw [← HW2.out]
  refine Calls.mono HPR.out ?_
  rintro e w3 ⟨rfl, hb3⟩
  have hI3 : w3.heap[w1.heap.size]? = some (.cells #[.slice a1 kL.length c1, .slice a2 kR.length c2, .bool true] 24 (0, 0)) := (hb3.block _ HIL.out).trans HI.out
  have HB3 : Hid (Below w.heap.size w w3) := go_on HB2.out hb3
  have i0 : w3.cell? ⟨w1.heap.size, 0, none⟩ = some (.slice a1 kL.length c1) := cell_at hI3 rfl
  have i2 : w3.cell? ⟨w1.heap.size, 2, none⟩ = some (.bool true) := cell_at hI3 rfl
  have hk3 : kL.length = 3 := rfl
  rw [hk3] at i0
  clear hI3 hb3
  go_wp2_with fail
  refine (num_any 0 _).mono ?_
  rintro e w4 ⟨rfl, rfl⟩
  go_wp2_with fail
  refine (num_any 0 _).mono ?_
  rintro e w4 ⟨rfl, rfl⟩
  go_wp2_with fail
  go_ret
  exact ⟨rfl, HB3.out⟩
end Go.Proofs.Ythhlamehbcidgaa
