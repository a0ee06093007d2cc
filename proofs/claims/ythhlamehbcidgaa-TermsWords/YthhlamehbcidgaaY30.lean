/- The law's Same of two identities that are the same. -/
import Derived.Test.YthhlamehbcidgaaY29
import Derived.Laws.StructEq
namespace Go.Proofs.Ythhlamehbcidgaa
open Go Go.RowKit Go.Lib
set_option linter.unusedVariables false

theorem Try.fieldsSg : (Try.prog.fieldsOf 81).toList.map (fun f => (f.name, f.type, f.offset)) = [("Kind", 3, 0), ("Name", 5, 1)] := by kernel_rfl
theorem Try.struct_sg : Try.prog.underlying 81 = some (.struct (Try.prog.fieldsOf 81)) := by kernel_rfl
theorem eq_sg (k : Int) (c : Nat) (w : World) : (Op.equalIn 10000 81 (.agg #[.int .i64 k, .int .u8 (c : Nat)]) (.agg #[.int .i64 k, .int .u8 (c : Nat)])).run Try.prog w = .ok true w := by
  rw [show (10000 : Nat) = 9999 + 1 from rfl, run_equalIn_struct w 9999 81 _ _ Try.struct_sg (by kernel_rfl)]
  have hl := Try.fieldsSg
  generalize (Try.prog.fieldsOf 81).toList = fs at hl
  obtain ⟨f1, f2, rfl⟩ : ∃ f1 f2, fs = [f1, f2] := by
    match fs, congrArg List.length hl with
    | [f1, f2], _ => exact ⟨f1, f2, rfl⟩
  simp only [List.map_cons, List.map_nil, List.cons.injEq, Prod.mk.injEq, and_true] at hl
  obtain ⟨⟨q1, q2, q3⟩, q4, q5, q6⟩ := hl
  have p1 : (part 3 #[.int .i64 k, .int .u8 (c : Nat)] 0).run Try.prog w = .ok (.int .i64 k) w := by simp [part, Sem.run_bind, Try.isAgg3]
  have p2 : (part 5 #[.int .i64 k, .int .u8 (c : Nat)] 1).run Try.prog w = .ok (.int .u8 (c : Nat)) w := by simp [part, Sem.run_bind, Try.isAgg5]
  have e1 := run_equalIn_int (P := Try.prog) w 9998 3 .i64 .i64 k k Try.underlying3
  have e2 := run_equalIn_int (P := Try.prog) w 9998 5 .u8 .u8 (c : Nat) (c : Nat) Try.underlying5
  simp [Op.eqFields, q1, q2, q3, q4, q5, q6, Sem.run_bind, p1, p2, Result.andThen_ok, e1, e2]
theorem neq_sg (k : Int) (c : Nat) (w : World) : (binOp .neq 81 (.agg #[.int .i64 k, .int .u8 (c : Nat)]) (.agg #[.int .i64 k, .int .u8 (c : Nat)])).run Try.prog w = .ok (.bool false) w := by
  simp only [run_neq_struct, eq_sg, Result.andThen_ok]
  rfl

set_option maxHeartbeats 4000000 in
set_option maxRecDepth 100000 in
theorem sides_same (va vb : Value) (L : List (Int × Nat)) (w : World) (ha : SgR w va L) (hb : SgR w vb L) (hL : L.length ≤ 9223372036854775000) :
    Calls Try.prog 25 #[va, vb] w fun e w' => e = .returned (.bool true) ∧ Below w.heap.size w w' := by
  obtain ⟨a1, c1, e1⟩ := ha.len
  obtain ⟨a2, c2, e2⟩ := hb.len
  subst e1 e2
  have HA : Hid (SgR w (.slice a1 L.length c1) L) := ha
  have HB : Hid (SgR w (.slice a2 L.length c2) L) := hb
  clear ha hb
  go_enter Try.func25, Try.ntmps25
  go_wp2_with fail
  go_loopw [5] (fun vi wr => ∃ i : Nat, vi = .int .i64 i ∧ i ≤ L.length ∧ Below w.heap.size w wr) (fun vi _ => L.length - (Go.RowKit.intOf vi).toNat)
  case atStart => exact ⟨0, rfl, Nat.zero_le _, Below.refl _ _⟩
  case round =>
    obtain ⟨i, rfl, hin, hbr⟩ := hrel
    have HBR : Hid (Below w.heap.size w wr) := hbr
    by_cases hlt : i < L.length
    · have hiI : (i : Int) < L.length := by omega
      have hid : decide ((i : Int) < L.length) = true := decide_eq_true hiI
      obtain ⟨a1', cap1, e1, hr1⟩ := HA.out.below hbr
      obtain ⟨a2', cap2, e2, hr2⟩ := HB.out.below hbr
      simp only [Value.slice.injEq] at e1 e2
      obtain ⟨rfl, _, rfl⟩ := e1
      obtain ⟨rfl, _, rfl⟩ := e2
      obtain ⟨g1, o1, rfl, hg1, x1, y1, z1⟩ := hr1 i hlt
      obtain ⟨g2, o2, rfl, hg2, x2, y2, z2⟩ := hr2 i hlt
      obtain ⟨k, hk⟩ : ∃ k, (L.getD i (0, 0)).1 = k := ⟨_, rfl⟩
      obtain ⟨c, hc⟩ : ∃ c, (L.getD i (0, 0)).2 = c := ⟨_, rfl⟩
      rw [hk] at x1 x2
      rw [hc] at y1 y2
      clear hr1 hr2 hbr z1 z2 hk hc
      have hne := neq_sg k c
      have hw3 : IntKind.i64.wrap ((i : Int) + 1) = ((i + 1 : Nat) : Int) := by rw [IntKind.wrap_i64]; omega
      have HDR : Hid (∀ nq, Below w.heap.size w (wr.drewN nq)) := fun nq => by
        have hb : Below wr.heap.size wr (wr.drewN nq) := ⟨(Below.refl _ _ : Below wr.heap.size wr wr).os, (Below.refl _ _ : Below wr.heap.size wr wr).tape, (Below.refl _ _ : Below wr.heap.size wr wr).output, (Below.refl _ _ : Below wr.heap.size wr wr).size, (Below.refl _ _ : Below wr.heap.size wr wr).block⟩
        exact go_on HBR.out hb
      go_upto_region 6 with fail
      go_quiet (fail)
      go_wp2_with fail
      go_roundw
      case rel => exact ⟨i + 1, rfl, by omega, HDR.out _⟩
      case measure => simp [Go.RowKit.intOf]; omega
    · have hiI : ¬ (i : Int) < L.length := by omega
      have hid : decide ((i : Int) < L.length) = false := decide_eq_false hiI
      go_wp2_with fail
      go_ret
      exact ⟨rfl, HBR.out⟩

theorem two_new (w : World) (c0 c1 : Obj) (W : World) (hW : W = (w.alloc c0).alloc c1) : W.heap[w.heap.size]? = some c0 ∧ W.heap[w.heap.size + 1]? = some c1 ∧ Below w.heap.size w W := by
  subst hW
  refine ⟨(heap_allo (by simp) _).trans (heap_last w c0), ?_, go_on (below_new _ _) (below_new _ _)⟩
  have := heap_last (w.alloc c0) c1
  rwa [World.size_alloc] at this

set_option maxHeartbeats 4000000 in
set_option maxRecDepth 100000 in
theorem same_same (vl vr ul ur : Value) (x : Bool) (L R : List (Int × Nat)) (w : World) (h1 : SgR w vl L) (h2 : SgR w vr R) (h3 : SgR w ul L) (h4 : SgR w ur R) (hL : L.length ≤ 9223372036854775000) (hR : R.length ≤ 9223372036854775000) :
    Calls Try.prog 10 #[.agg #[vl, vr, .bool x], .agg #[ul, ur, .bool x]] w fun e w' => e = .returned (.bool true) ∧ Below w.heap.size w w' := by
  obtain ⟨a1, c1, e1⟩ := h1.len
  obtain ⟨a2, c2, e2⟩ := h2.len
  obtain ⟨a3, c3, e3⟩ := h3.len
  obtain ⟨a4, c4, e4⟩ := h4.len
  obtain ⟨W, hW⟩ : ∃ W, W = (w.alloc (.cells #[vl, vr, .bool x] 24)).alloc (.cells #[ul, ur, .bool x] 24) := ⟨_, rfl⟩
  have HW : Hid (W = (w.alloc (.cells #[vl, vr, .bool x] 24)).alloc (.cells #[ul, ur, .bool x] 24)) := hW
  obtain ⟨b1, b2, b3⟩ := two_new _ _ _ _ hW
  have HB1 : Hid (W.heap[w.heap.size]? = some (.cells #[vl, vr, .bool x] 24 (0, 0)) ∧ W.heap[w.heap.size + 1]? = some (.cells #[ul, ur, .bool x] 24 (0, 0)) ∧ Below w.heap.size w W) := ⟨b1, b2, b3⟩
  have HS1 : Hid (Calls Try.prog 25 #[vl, ul] W fun e w' => e = .returned (.bool true) ∧ Below W.heap.size W w') := sides_same vl ul L W (h1.below b3) (h3.below b3) hL
  have HS2 : Hid (∀ y, Below W.heap.size W y → Calls Try.prog 25 #[vr, ur] y fun e w' => e = .returned (.bool true) ∧ Below y.heap.size y w') := fun y hy => sides_same vr ur R y ((h2.below b3).below hy) ((h4.below b3).below hy) hR
  subst e1 e2 e3 e4
  have l1 := (Array.getElem?_eq_some_iff.1 b1).1
  have l2 := (Array.getElem?_eq_some_iff.1 b2).1
  have HLL : Hid (w.heap.size < W.heap.size ∧ w.heap.size + 1 < W.heap.size) := ⟨l1, l2⟩
  have p0 : W.cell? ⟨w.heap.size, 0, none⟩ = some (.slice a1 L.length c1) := cell_at b1 rfl
  have q0 : W.cell? ⟨w.heap.size + 1, 0, none⟩ = some (.slice a3 L.length c3) := cell_at b2 rfl
  clear h1 h2 h3 h4 hW b1 b2 b3 l1 l2
  go_enter Try.func10, Try.ntmps10
  go_upto_region 1 with fail
  rw [← HW.out]
  go_wp2_with fail
  refine Calls.mono HS1.out ?_
  rintro e y1 ⟨rfl, hb⟩
  have HY1 : Hid (Below W.heap.size W y1) := hb
  have p1 : y1.cell? ⟨w.heap.size, 1, none⟩ = some (.slice a2 R.length c2) := by rw [below_cell hb HLL.out.1]; exact cell_at HB1.out.1 rfl
  have q1 : y1.cell? ⟨w.heap.size + 1, 1, none⟩ = some (.slice a4 R.length c4) := by rw [below_cell hb HLL.out.2]; exact cell_at HB1.out.2.1 rfl
  clear hb p0 q0
  go_wp2_with fail
  refine Calls.mono (HS2.out _ HY1.out) ?_
  rintro e y2 ⟨rfl, hb⟩
  have hb2 : Below W.heap.size W y2 := go_on HY1.out hb
  have HY2 : Hid (Below W.heap.size W y2) := hb2
  have p2 : y2.cell? ⟨w.heap.size, 2, none⟩ = some (.bool x) := by rw [below_cell hb2 HLL.out.1]; exact cell_at HB1.out.1 rfl
  have q2 : y2.cell? ⟨w.heap.size + 1, 2, none⟩ = some (.bool x) := by rw [below_cell hb2 HLL.out.2]; exact cell_at HB1.out.2.1 rfl
  clear hb hb2 p1 q1
  cases x
  · go_wp2_with fail
    go_ret
    exact ⟨rfl, HB1.out.2.2.trans (HY2.out.mono HB1.out.2.2.size)⟩
  · go_wp2_with fail
    go_ret
    exact ⟨rfl, HB1.out.2.2.trans (HY2.out.mono HB1.out.2.2.size)⟩
end Go.Proofs.Ythhlamehbcidgaa
