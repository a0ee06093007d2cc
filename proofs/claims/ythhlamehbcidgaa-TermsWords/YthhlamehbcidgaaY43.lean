/- terms: what a side's walker leans on; the closures of turned. -/
import Derived.Test.YthhlamehbcidgaaY42
import Derived.Test.YthhlamehbcidgaaY14
namespace Go.Proofs.Ythhlamehbcidgaa
open Go Go.RowKit Go.Lib
set_option linter.unusedVariables false

/-- What the walker leans on: its place, the side, the meanings, itself, and what these lean on (E). -/
structure NT (w0 w : World) (F SB MB NX : Nat) (m0 m1 m2 m3 clo v : Value) (L : Sg) (n : Nat) (E : World → Prop) : Prop where
  f : w.heap[F]? = some (.cells #[.int .i64 (n : Nat)] 3 (0, 0))
  sc : w.cell? ⟨SB, 0, none⟩ = some v
  c0 : w.cell? ⟨MB, 0, none⟩ = some m0
  c1 : w.cell? ⟨MB, 1, none⟩ = some m1
  c2 : w.cell? ⟨MB, 2, none⟩ = some m2
  c3 : w.cell? ⟨MB, 3, none⟩ = some m3
  xc : w.cell? ⟨NX, 0, none⟩ = some clo
  sl : SB < w.heap.size
  ml : MB < w.heap.size
  xl : NX < w.heap.size
  ne : SB ≠ F ∧ MB ≠ F ∧ NX ≠ F
  b : Below w0.heap.size w0 w
  lo : w0.heap.size ≤ F
  r : SgR w0 v (intS L)
  le : n ≤ L.length
  ex : E w
def Est (F : Nat) (E : World → Prop) : Prop := ∀ x y, E x → F < x.heap.size → Only (fun b => b = F) x y → E y
theorem NT.fl {w0 w : World} {F SB MB NX : Nat} {m0 m1 m2 m3 clo v : Value} {L : Sg} {n : Nat} {E : World → Prop} (h : NT w0 w F SB MB NX m0 m1 m2 m3 clo v L n E) : F < w.heap.size := (Array.getElem?_eq_some_iff.1 h.f).1
/-- Its place alone has changed. -/
theorem NT.only {w0 w w' : World} {F SB MB NX : Nat} {m0 m1 m2 m3 clo v : Value} {L : Sg} {n m : Nat} {E : World → Prop} (hE : Est F E) (h : NT w0 w F SB MB NX m0 m1 m2 m3 clo v L n E) (ho : Only (fun b => b = F) w w') (hf : w'.heap[F]? = some (.cells #[.int .i64 (m : Nat)] 3 (0, 0))) (hm : m ≤ L.length) : NT w0 w' F SB MB NX m0 m1 m2 m3 clo v L m E := by
  have hc : ∀ c o, c < w.heap.size → c ≠ F → w'.cell? ⟨c, o, none⟩ = w.cell? ⟨c, o, none⟩ := fun c o h1 h2 => World.cell?_of_block (ho.block c h1 h2)
  have hs := ho.size
  exact ⟨hf, by rw [hc _ _ h.sl h.ne.1]; exact h.sc, by rw [hc _ _ h.ml h.ne.2.1]; exact h.c0, by rw [hc _ _ h.ml h.ne.2.1]; exact h.c1, by rw [hc _ _ h.ml h.ne.2.1]; exact h.c2, by rw [hc _ _ h.ml h.ne.2.1]; exact h.c3, by rw [hc _ _ h.xl h.ne.2.2]; exact h.xc, Nat.lt_of_lt_of_le h.sl hs, Nat.lt_of_lt_of_le h.ml hs, Nat.lt_of_lt_of_le h.xl hs, h.ne, ho.below h.b (Nat.le_refl _) (fun j e => by rw [e]; exact h.lo), h.lo, h.r, hm, hE _ _ h.ex h.fl ho⟩
theorem NT.call {w0 w w' : World} {F SB MB NX : Nat} {m0 m1 m2 m3 clo v : Value} {L : Sg} {n : Nat} {E : World → Prop} (hE : Est F E) (h : NT w0 w F SB MB NX m0 m1 m2 m3 clo v L n E) (hb : Below w.heap.size w w') : NT w0 w' F SB MB NX m0 m1 m2 m3 clo v L n E :=
  h.only hE (Only.of hb) ((hb.block _ h.fl).trans h.f) h.le
theorem NT.step {w0 w : World} {F SB MB NX : Nat} {m0 m1 m2 m3 clo v : Value} {L : Sg} {n m : Nat} {E : World → Prop} (hE : Est F E) (h : NT w0 w F SB MB NX m0 m1 m2 m3 clo v L n E) (hm : m ≤ L.length) : NT w0 (w.setCell ⟨F, 0, none⟩ (.int .i64 (m : Nat))) F SB MB NX m0 m1 m2 m3 clo v L m E :=
  h.only hE ((Only.of (S := fun b => b = F) (Below.refl w.heap.size w)).set rfl) (heap_set h.f) hm

/-- The row of a side turned. -/
def VL (b : Nat) (u : Value) (w : World) (t : Tm) : Prop := w.ownsRow b 81 2 u t.turn.length (sgC t.turn)
theorem VL.only {b F : Nat} {u : Value} {w w' : World} {t : Tm} (h : VL b u w t) (hF : F < b) (ho : Only (fun b => b = F) w w') : VL b u w' t := own_only h ho (fun j hj e => by
  have := (own_blk h hj).1
  omega)
/-- The box of leaf. -/
def LfE (LB : Nat) (w : World) : Prop := w.cell? ⟨LB, 0, none⟩ = some (.func (Fn.func 70) #[] #[]) ∧ LB < w.heap.size
theorem LfE.est {LB F : Nat} (h : LB ≠ F) : Est F (LfE LB) := fun x y hx _ ho => ⟨by rw [World.cell?_of_block (ho.block LB hx.2 h)]; exact hx.1, Nat.lt_of_lt_of_le hx.2 ho.size⟩

set_option maxHeartbeats 1000000 in
set_option maxRecDepth 100000 in
theorem tu1_any (k c : Nat) (w : World) : Calls Try.prog 70 #[.int .i64 (k : Nat), .int .u8 (c : Nat)] w fun e w' => ∃ u, e = .returned u ∧ w'.ownsRow w.heap.size 81 2 u 1 [.int .i64 (k : Nat), .int .u8 (c : Nat)] ∧ Below w.heap.size w w' := by
  have HO : Hid ((w.alloc (.cells #[.int .i64 (k : Nat), .int .u8 (c : Nat)] 81)).ownsRow w.heap.size 81 2 (.slice (some ⟨w.heap.size, 0, none⟩) 1 1) 1 [.int .i64 (k : Nat), .int .u8 (c : Nat)]) := by
    exact World.ownsRow_lit w #[.int .i64 (k : Nat), .int .u8 (c : Nat)] 1 (Nat.le_refl _) (by decide) rfl
  go_enter Try.func70, Try.ntmps70
  go_wp2_with fail
  go_ret
  exact ⟨_, rfl, HO.out, below_new _ _⟩

set_option maxHeartbeats 1000000 in
set_option maxRecDepth 100000 in
theorem tu2_any (LB : Nat) (w : World) (h : LfE LB w) : Calls Try.prog 71 #[.pointer (some ⟨LB, 0, none⟩)] w fun e w' => ∃ u, e = .returned u ∧ VL w.heap.size u w' .one ∧ Below w.heap.size w w' := by
  have hl := h.1
  have HT : Hid (Calls Try.prog 70 #[.int .i64 1, .int .u8 0] w fun e w' => ∃ u, e = .returned u ∧ w'.ownsRow w.heap.size 81 2 u 1 [.int .i64 1, .int .u8 0] ∧ Below w.heap.size w w') := tu1_any 1 0 w
  clear h
  go_enter Try.func71, Try.ntmps71
  go_wp2_with fail
  refine Calls.mono HT.out ?_
  rintro e w2 ⟨u, rfl, ho, hb⟩
  obtain ⟨a, c, rfl⟩ := own_shape ho
  have HO : Hid _ := ho
  have HB : Hid _ := hb
  clear ho hb hl
  go_wp2_with fail
  go_ret
  exact ⟨_, rfl, HO.out, HB.out⟩

set_option maxHeartbeats 1000000 in
set_option maxRecDepth 100000 in
theorem tu3_any (LB c : Nat) (w : World) (h : LfE LB w) : Calls Try.prog 72 #[.int .u8 (c : Nat), .pointer (some ⟨LB, 0, none⟩)] w fun e w' => ∃ u, e = .returned u ∧ VL w.heap.size u w' (.var c) ∧ Below w.heap.size w w' := by
  have hl := h.1
  have HT : Hid (Calls Try.prog 70 #[.int .i64 2, .int .u8 (c : Nat)] w fun e w' => ∃ u, e = .returned u ∧ w'.ownsRow w.heap.size 81 2 u 1 [.int .i64 2, .int .u8 (c : Nat)] ∧ Below w.heap.size w w') := tu1_any 2 c w
  clear h
  go_enter Try.func72, Try.ntmps72
  go_wp2_with fail
  refine Calls.mono HT.out ?_
  rintro e w2 ⟨u, rfl, ho, hb⟩
  obtain ⟨a, cc, rfl⟩ := own_shape ho
  have HO : Hid _ := ho
  have HB : Hid _ := hb
  clear ho hb hl
  go_wp2_with fail
  go_ret
  exact ⟨_, rfl, HO.out, HB.out⟩

set_option maxHeartbeats 2000000 in
set_option maxRecDepth 100000 in
theorem tu5_any (t : Tm) (b : Nat) (u : Value) (w : World) (h : VL b u w t) (hb : b ≤ w.heap.size) (hL : t.sg.length ≤ 400) : Calls Try.prog 74 #[u] w fun e w' => ∃ u, e = .returned u ∧ VL b u w' (.om t) ∧ Below b w w' := by
  obtain ⟨va, vc, rfl⟩ := own_shape h
  have HO : Hid (w.ownsRow b 81 2 (.slice va t.turn.length vc) t.turn.length (sgC t.turn)) := h
  obtain ⟨i0, hi, hz0, hz1, hz2⟩ := info_parts Try.info_sign
  have hl : t.turn.length ≤ 400 := by rw [Tm.turn_len]; exact hL
  have HBB : Hid (b ≤ w.heap.size) := hb
  clear h
  go_enter Try.func74, Try.ntmps74
  go_wp2_with (at_builtin; refine wpList_append_lies _ rfl _ _ 22 rfl b 81 i0 (.agg #[.int .i64 0, .int .u8 0]) 2 16 Try.underlying22 hi hz0 hz1 hz2 rfl (by decide) _ _ _ rfl (HO.out.alloc _) ⟨w.heap.size, 0, none⟩ 1 1 [.int .i64 4, .int .u8 0] rfl rfl (World.news_of_block (heap_last w _)) (by intro u hu; simp at hu; rcases hu with rfl | rfl <;> rfl) (by decide) (by unfold maxLen; omega) (by omega) (by have := HBB.out; simp; omega) (w.alloc (.cells #[.int .i64 4, .int .u8 0] 81)).heap.size rfl ?_; intro g7 c7 w7 ho7 hg7 hl7 _; have hb7 : Below b w w7 := ((Below.refl b w).alloc HBB.out _).grown hg7 (by have := HBB.out; simp; omega) (fun g hg => (HO.out.lt g hg).1); have HO7 : Hid (VL b (.slice (some ⟨g7, 0, none⟩) (t.turn.length + 1) c7) w7 (.om t)) := (by show World.ownsRow _ _ _ _ _ _ _; show World.ownsRow _ _ _ _ _ (t.turn ++ [(4, 0)]).length (sgC (t.turn ++ [(4, 0)])); rw [sgC_snoc, List.length_append]; exact ho7); have HB7 : Hid _ := hb7; clear ho7 hg7 hl7 hb7)
  go_ret
  exact ⟨_, rfl, HO7.out, HB7.out⟩

set_option maxHeartbeats 2000000 in
set_option maxRecDepth 100000 in
theorem tu4_any (s t : Tm) (b b1 : Nat) (u1 u : Value) (w : World) (h1 : VL b1 u1 w s) (h : VL b u w t) (hb : b ≤ w.heap.size) (hL : t.sg.length + s.sg.length ≤ 400) : Calls Try.prog 73 #[u1, u] w fun e w' => ∃ u, e = .returned u ∧ VL b u w' (.mul s t) ∧ Below b w w' := by
  obtain ⟨va, vc, rfl⟩ := own_shape h
  have hp1 : 0 < s.turn.length := by rw [Tm.turn_len]; exact s.sg_pos
  obtain ⟨g1, c1, rfl, -, -⟩ := World.ownsRow.form h1 hp1
  have HO : Hid (w.ownsRow b 81 2 (.slice va t.turn.length vc) t.turn.length (sgC t.turn)) := h
  have HO1 : Hid (w.ownsRow b1 81 2 (.slice (some ⟨g1, 0, none⟩) s.turn.length c1) s.turn.length (sgC s.turn)) := h1
  obtain ⟨i0, hi, hz0, hz1, hz2⟩ := info_parts Try.info_sign
  have hl : t.turn.length + s.turn.length ≤ 400 := by rw [Tm.turn_len, Tm.turn_len]; exact hL
  have HBB : Hid (b ≤ w.heap.size) := hb
  clear h h1
  go_enter Try.func73, Try.ntmps73
  go_wp2_with (first | (at_builtin; refine wpList_append_lies _ rfl _ _ 22 rfl b 81 i0 (.agg #[.int .i64 0, .int .u8 0]) 2 16 Try.underlying22 hi hz0 hz1 hz2 rfl (by decide) _ _ _ rfl HO.out ⟨g1, 0, none⟩ s.turn.length c1 (sgC s.turn) rfl (by rw [sgC_len]) (fun j u hu => HO1.out.cells (g := g1) rfl j u hu) (sgC_one _) hp1 (by unfold maxLen; omega) (by omega) HBB.out w.heap.size rfl ?_; intro g6 c6 w6 ho6 hg6 hl6 _; have hb6 : Below b w w6 := (Below.refl b w).grown hg6 HBB.out (fun g hg => (HO.out.lt g hg).1); have HO6 : Hid (w6.ownsRow b 81 2 (.slice (some ⟨g6, 0, none⟩) (t.turn.length + s.turn.length) c6) (t.turn.length + s.turn.length) (sgC (t.turn ++ s.turn))) := (by show World.ownsRow _ _ _ _ _ _ _; rw [sgC_app]; exact ho6); have HB6 : Hid _ := hb6; have HS6 : Hid (b ≤ w6.heap.size) := (Nat.le_trans HBB.out hb6.size); clear ho6 hg6 hl6 hb6) | (at_builtin; refine wpList_append_lies _ rfl _ _ 22 rfl b 81 i0 (.agg #[.int .i64 0, .int .u8 0]) 2 16 Try.underlying22 hi hz0 hz1 hz2 rfl (by decide) _ _ _ rfl (HO6.out.alloc _) ⟨w6.heap.size, 0, none⟩ 1 1 [.int .i64 3, .int .u8 0] rfl rfl (World.news_of_block (heap_last w6 _)) (by intro u hu; simp at hu; rcases hu with rfl | rfl <;> rfl) (by decide) (by unfold maxLen; omega) (by omega) (by have := HS6.out; simp; omega) (w6.alloc (.cells #[.int .i64 3, .int .u8 0] 81)).heap.size rfl ?_; intro g7 c7 w7 ho7 hg7 hl7 _; have hb7 : Below b w w7 := (HB6.out.alloc HS6.out _).grown hg7 (by have := HS6.out; simp; omega) (fun g hg => (HO6.out.lt g hg).1); have HO7 : Hid (VL b (.slice (some ⟨g7, 0, none⟩) (t.turn.length + s.turn.length + 1) c7) w7 (.mul s t)) := (by show World.ownsRow _ _ _ _ _ ((t.turn ++ s.turn) ++ [(3, 0)]).length (sgC ((t.turn ++ s.turn) ++ [(3, 0)])); rw [sgC_snoc, List.length_append, List.length_append]; exact ho7); have HB7 : Hid _ := hb7; clear ho7 hg7 hl7 hb7))
  go_ret
  exact ⟨_, rfl, HO7.out, HB7.out⟩
end Go.Proofs.Ythhlamehbcidgaa
