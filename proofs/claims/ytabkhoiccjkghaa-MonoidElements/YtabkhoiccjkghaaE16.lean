/- monoid: finding.lay. -/
import Derived.Test.YtabkhoiccjkghaaE15
import Derived.Laws.EntriesVeiled
namespace Go.Proofs.Ytabkhoiccjkghaa
open Go Go.RowKit Go.Lib Go.Maps
set_option linter.unusedVariables false
attribute [-instance] List.instBEq instBEqProd

/-- What lay has laid ahead of the cuts: its blocks. -/
structure LY (w : World) (n T nb rb R : Nat) (y : World) : Prop where
  below : Below w.heap.size w y
  nbx : y.heap[nb]? = some (.cells #[.int .i64 n] 3 (0, 0))
  rbx : y.heap[rb]? = some (.cells #[.slice (some ⟨R, 0, none⟩) T T] 68 (0, 0))
  rest : ∃ cur : Array Value, y.heap[R]? = some (.cells cur 97 (0, 0)) ∧ cur.size = T
  res : y.heap[w.heap.size]? = some (.cells #[.int .i64 0, .slice none 0 0, .int .i64 0, .slice none 0 0, .int .i64 0, .slice none 0 0] 72 (0, 0))
  lo : w.heap.size < nb ∧ w.heap.size < rb ∧ w.heap.size < R
/-- Something that is so of a world, laid aside. -/
structure Bx (p : World → Prop) (y : World) : Prop where
  out : p y
/-- Tables that nothing was put into. -/
def Zb (y : World) (A : Nat) : Prop := y.heap[A]? = some (.cells #[.int .i64 0, .slice none 0 0, .int .i64 0, .slice none 0 0, .int .i64 0, .slice none 0 0] 72 (0, 0))
theorem zb_new {y z : World} {rb : Nat} (hO : Only (fun j => j = rb) (y.alloc (.cells #[.int .i64 0, .slice none 0 0, .int .i64 0, .slice none 0 0, .int .i64 0, .slice none 0 0] 72)) z) (hne : y.heap.size ≠ rb) : Zb z y.heap.size := (hO.block y.heap.size (by simp) hne).trans (heap_last y _)
theorem zb_newd {y z : World} {rb : Nat} (hO : Only (fun j => j = rb) (y.alloc (.cells #[.int .i64 0, .slice none 0 0, .int .i64 0, .slice none 0 0, .int .i64 0, .slice none 0 0] 72)).drew z) (hne : y.heap.size ≠ rb) : Zb z y.heap.size := (hO.block y.heap.size (by show _ < (y.alloc _).heap.size; simp) hne).trans (heap_last y _)
theorem zb_of {y : World} {A : Nat} (h : y.heap[A]? = some (.cells #[.int .i64 0, .slice none 0 0, .int .i64 0, .slice none 0 0, .int .i64 0, .slice none 0 0] 72 (0, 0))) : Zb y A := h
theorem zb_keep {y z : World} {rb A : Nat} (hO : Only (fun j => j = rb) y z) (h : Zb y A) (hne : A ≠ rb) : Zb z A := (hO.block A (Array.getElem?_eq_some_iff.1 h).1 hne).trans h
theorem zb_cells {y : World} {A : Nat} (h : Zb y A) : y.cell? ⟨A, 0, none⟩ = some (.int .i64 0) ∧ y.cell? ⟨A, 1, none⟩ = some (.slice none 0 0) ∧ y.cell? ⟨A, 2, none⟩ = some (.int .i64 0) ∧ y.cell? ⟨A, 3, none⟩ = some (.slice none 0 0) ∧ y.cell? ⟨A, 4, none⟩ = some (.int .i64 0) ∧ y.cell? ⟨A, 5, none⟩ = some (.slice none 0 0) ∧ y.frozen? ⟨A, 0, none⟩ = false ∧ y.frozen? ⟨A, 1, none⟩ = false ∧ y.frozen? ⟨A, 2, none⟩ = false ∧ y.frozen? ⟨A, 3, none⟩ = false ∧ y.frozen? ⟨A, 4, none⟩ = false ∧ y.frozen? ⟨A, 5, none⟩ = false :=
  ⟨cell_at h rfl, cell_at h rfl, cell_at h rfl, cell_at h rfl, cell_at h rfl, cell_at h rfl, frozen_blk h 0, frozen_blk h 1, frozen_blk h 2, frozen_blk h 3, frozen_blk h 4, frozen_blk h 5⟩
/-- What lay has laid behind the cuts. -/
structure LZ (w : World) (n K a c d nb rb R A : Nat) (wx y : World) : Prop where
  only : Only (fun j => j = rb) wx y
  tab : y.heap[A]? = some (.cells #[.int .i64 K, .slice (some ⟨R, 0, none⟩) a a, .int .i64 K, .slice (some ⟨R, a, none⟩) a a, .int .i64 n, .slice (some ⟨R, d, none⟩) c c] 72 (0, 0))
  lo : wx.heap.size ≤ A

theorem cell_set_blk {y : World} {A o p q : Nat} {v : Value} (h : p ≠ A) : (y.setCell ⟨A, o, none⟩ v).cell? ⟨p, q, none⟩ = y.cell? ⟨p, q, none⟩ := World.cell?_of_block (heap_set_other h)
theorem Only.above {S : Nat → Prop} {w y : World} (h : Only S w y) {A o : Nat} {v : Value} (hA : w.heap.size ≤ A) : Only S w (y.setCell ⟨A, o, none⟩ v) :=
  ⟨h.zero.setCell (p := ⟨A, o, none⟩) (Nat.zero_le _) v, fun j hj hs => (heap_set_other (by omega)).trans (h.block j hj hs)⟩
theorem lz_chain {w wx y : World} {n K a c d nb rb R A : Nat} (hO : Only (fun j => j = rb) wx y) (z : Zb y A) (hA : wx.heap.size ≤ A) : LZ w n K a c d nb rb R A wx ((((((y.setCell ⟨A, 0, none⟩ (.int .i64 (K : Int))).setCell ⟨A, 1, none⟩ (.slice (some ⟨R, 0, none⟩) a a)).setCell ⟨A, 2, none⟩ (.int .i64 (K : Int))).setCell ⟨A, 3, none⟩ (.slice (some ⟨R, a, none⟩) a a)).setCell ⟨A, 4, none⟩ (.int .i64 (n : Int))).setCell ⟨A, 5, none⟩ (.slice (some ⟨R, d, none⟩) c c)) :=
  ⟨(((((hO.above hA).above hA).above hA).above hA).above hA).above hA, heap_set (heap_set (heap_set (heap_set (heap_set (heap_set z))))), hA⟩
theorem lz_new {w wx y : World} {n K a c d nb rb R : Nat} (hO : Only (fun j => j = rb) wx y) : LZ w n K a c d nb rb R y.heap.size wx (y.alloc (.cells #[.int .i64 (K : Int), .slice (some ⟨R, 0, none⟩) a a, .int .i64 (K : Int), .slice (some ⟨R, a, none⟩) a a, .int .i64 (n : Int), .slice (some ⟨R, d, none⟩) c c] 72)) :=
  ⟨hO.trans (Only.of (below_new _ _)), heap_last _ _, hO.size⟩
theorem Try.info_tbl : (Try.prog.info? 72).map (·.size) = some 6 := by kernel_rfl
/-- What lay answers. -/
def LyQ (M : List (List Nat)) (K : Nat) (N : List Nat) (w : World) (e : Ending) (w' : World) : Prop := ∃ R n a c d, M.length = n ∧ n * K = a ∧ n * n = c ∧ a + a = d ∧ e = .returned (.agg #[.int .i64 (K : Int), .slice (some ⟨R, 0, none⟩) a a, .int .i64 (K : Int), .slice (some ⟨R, a, none⟩) a a, .int .i64 (n : Int), .slice (some ⟨R, d, none⟩) c c]) ∧ Below w.heap.size w w' ∧ w.heap.size < R ∧ RT w' R n K N (fun _ _ => True) (fun _ _ => True)
theorem Try.size_u16c : (Try.prog.info? 97).map (·.size) = some 1 := by kernel_rfl
set_option maxHeartbeats 8000000 in
set_option maxRecDepth 100000 in
theorem lay_any {base : Nat} {w : World} {fb b mb K n0 : Nat} {vl vw vr : Value} {M : List (List Nat)} {W : List (Nat × Nat)} {N : List Nat} {D : DataW Unit} (h : FN base w fb b mb K n0 vl vw vr M W N D) (wy : WyO K M W N) (fst : Fst K M.length N) (hk : 1 ≤ K ∧ K ≤ 8) (hM : 0 < M.length) (hN : N.length = M.length * K) (hpr : ∀ a b, a < M.length → b < M.length → pr K N a b < M.length) (hNl : ∀ p, p < N.length → N.getD p 0 < M.length) :
    Calls Try.prog 44 #[.pointer (some ⟨fb, 0, none⟩)] w (LyQ M K N w) := by
  have hmo := h.tb.most
  obtain ⟨n, hn⟩ : ∃ n, M.length = n := ⟨_, rfl⟩
  obtain ⟨wa, wc, hvw⟩ := own_shape h.ways
  rw [wy.len, hn] at hvw
  subst hvw
  rw [hn] at hmo
  have hn2 : n * n ≤ 512 * 512 := Nat.mul_le_mul hmo hmo
  have hnk2 : n * K ≤ 512 * 8 := Nat.mul_le_mul hmo hk.2
  have hfbl : fb < w.heap.size := (Array.getElem?_eq_some_iff.1 h.box).1
  have HF : Hid (FN base w fb b mb K n0 vl (.slice wa n wc) vr M W N D) := h
  have HMn : Hid (M.length = n) := hn
  obtain ⟨T, hT⟩ : ∃ T, n * (2 * K + n) = T := ⟨_, rfl⟩
  have hTe : T = n * K + n * K + n * n := by rw [← hT, Nat.mul_add, Nat.two_mul, Nat.mul_add]
  have HT : Hid (T = n * K + n * K + n * n) := hTe
  have hT1 : T ≤ 1000000 := by omega
  have a1 : IntKind.i64.wrap (2 * (K : Int)) = 2 * (K : Int) := by rw [IntKind.wrap_i64]; omega
  have a2 : IntKind.i64.wrap (2 * (K : Int) + (n : Int)) = 2 * (K : Int) + (n : Int) := by rw [IntKind.wrap_i64]; omega
  have a3 : IntKind.i64.wrap ((n : Int) * (2 * (K : Int) + (n : Int))) = (T : Int) := by
    have e : ((n * (2 * K + n) : Nat) : Int) = (n : Int) * (2 * (K : Int) + n) := by simp
    rw [← e, hT, IntKind.wrap_i64]
    omega
  obtain ⟨i0, hi, hz0, hz1, hz2⟩ := info_parts Try.info_u16
  obtain ⟨w1, hw1⟩ : ∃ w1, w1 = w.alloc (.cells #[.int .i64 0, .slice none 0 0, .int .i64 0, .slice none 0 0, .int .i64 0, .slice none 0 0] 72) := ⟨_, rfl⟩
  have HW1 : Hid (w1 = w.alloc (.cells #[.int .i64 0, .slice none 0 0, .int .i64 0, .slice none 0 0, .int .i64 0, .slice none 0 0] 72)) := hw1
  have hs1 : w1.heap.size = w.heap.size + 1 := by rw [hw1]; simp
  have hb1 : Below w.heap.size w w1 := by rw [hw1]; exact below_new _ _
  obtain ⟨w2, hw2⟩ : ∃ w2, w2 = w1.alloc (.cells #[.int .i64 n] 3) := ⟨_, rfl⟩
  have HW2 : Hid (w2 = w1.alloc (.cells #[.int .i64 n] 3)) := hw2
  have hs2 : w2.heap.size = w1.heap.size + 1 := by rw [hw2]; simp
  have hb2 : Below w.heap.size w w2 := by rw [hw2]; exact go_on hb1 (below_new _ _)
  have hnb : w2.heap[w1.heap.size]? = some (.cells #[.int .i64 n] 3 (0, 0)) := by rw [hw2]; exact heap_last _ _
  have hres : w2.heap[w.heap.size]? = some (.cells #[.int .i64 0, .slice none 0 0, .int .i64 0, .slice none 0 0, .int .i64 0, .slice none 0 0] 72 (0, 0)) := by
    rw [hw2, heap_allo (by omega), hw1]
    exact heap_last _ _
  have t2 : w1.cell? ⟨fb, 2, none⟩ = some (.slice wa n wc) := by
    rw [World.cell?_of_block (hb1.block fb hfbl)]
    exact cell_at h.box rfl
  have c0 : w2.drew.cell? ⟨fb, 0, none⟩ = some (.int .i64 K) := by
    rw [World.cell?_of_block (hb2.drew.block fb hfbl)]
    exact cell_at h.box rfl
  have c0a : ∀ O, (w2.alloc O).drew.cell? ⟨fb, 0, none⟩ = some (.int .i64 K) := fun O => (World.cell?_of_block (heap_allo (w := w2) (b := fb) (by omega) O)).trans c0
  have c1 : w2.drew.cell? ⟨w1.heap.size, 0, none⟩ = some (.int .i64 n) := cell_at hnb rfl
  have c1a : ∀ O, (w2.alloc O).drew.cell? ⟨w1.heap.size, 0, none⟩ = some (.int .i64 n) := fun O => (World.cell?_of_block (heap_allo (w := w2) (b := w1.heap.size) (by omega) O)).trans c1
  obtain ⟨wA, hmA, hoA, hgA⟩ := run_make_full (P := Try.prog) w2.drew w.heap.size 68 97 i0 (.int .u16 0) 1 Try.underlying68 hi hz0 hz1 .i64 .i64 T (by rw [hz2]; omega) (by unfold maxLen; omega) (by show w.heap.size ≤ w2.heap.size; omega)
  obtain ⟨wB, hmB, hoB, hgB⟩ := run_make_full (P := Try.prog) (w2.alloc (.cells #[.slice none 0 0] 68)).drew w.heap.size 68 97 i0 (.int .u16 0) 1 Try.underlying68 hi hz0 hz1 .i64 .i64 T (by rw [hz2]; omega) (by unfold maxLen; omega) (by show w.heap.size ≤ (w2.alloc _).heap.size; simp; omega)
  obtain ⟨nb, hnbE⟩ : ∃ nb, w1.heap.size = nb := ⟨_, rfl⟩
  have HLA : Hid (LY w n T nb wA.heap.size w2.heap.size (wA.alloc (.cells #[.slice (some ⟨w2.heap.size, 0, none⟩) T T] 68))) := by
    have hsA : w2.heap.size < wA.heap.size := by
      have := hoA.lt w2.heap.size rfl
      exact this.2
    have kb : ∀ j, j < w2.heap.size → wA.heap[j]? = w2.heap[j]? := fun j hj => hgA.block j hj (by simp)
    have hbA : Below w.heap.size w wA := hb2.drew.grown hgA (by show w.heap.size ≤ w2.heap.size; omega) (fun b hb => by cases hb)
    refine ⟨go_on hbA (below_new _ _), ?_, heap_last _ _, ?_, ?_, by omega⟩
    · rw [heap_allo (by omega), kb _ (by omega), ← hnbE]; exact hnb
    · rcases hoA.2 with ⟨q, _⟩ | ⟨g', cap, cur, q, r1, r2, r3, r4, r5, r6⟩
      · cases q
      · simp only [Value.slice.injEq, Option.some.injEq, Addr.mk.injEq] at q
        obtain ⟨⟨rfl, _⟩, _, rfl⟩ := q
        exact ⟨cur, by rw [heap_allo hsA]; exact r2, by omega⟩
    · rw [heap_allo (by omega), kb _ (by omega)]; exact hres
  have HLB : Hid (LY w n T nb w2.heap.size (w2.heap.size + 1) (wB.setCell ⟨w2.heap.size, 0, none⟩ (.slice (some ⟨w2.heap.size + 1, 0, none⟩) T T))) := by
    have hE : (w2.alloc (.cells #[.slice none 0 0] 68)).drew.heap.size = w2.heap.size + 1 := by show (w2.alloc _).heap.size = _; simp
    have hsB : w2.heap.size + 1 < wB.heap.size := by
      have := hoB.lt _ rfl
      rw [hE] at this
      exact this.2
    have kb : ∀ j, j < w2.heap.size → wB.heap[j]? = w2.heap[j]? := fun j hj => by
      rw [hgB.block j (by rw [hE]; omega) (by simp)]
      exact heap_allo hj _
    have hbB : Below w.heap.size w wB := ((hb2.alloc hb2.size (.cells #[.slice none 0 0] 68)).drew).grown hgB (by rw [hE]; omega) (fun b hb => by cases hb)
    have hrb : wB.heap[w2.heap.size]? = some (.cells #[.slice none 0 0] 68 (0, 0)) := by
      rw [hgB.block _ (by rw [hE]; omega) (by simp)]
      exact heap_last w2 _
    refine ⟨hbB.setCell (p := ⟨w2.heap.size, 0, none⟩) (by show w.heap.size ≤ w2.heap.size; omega) _, ?_, heap_set hrb, ?_, ?_, by omega⟩
    · rw [heap_set_other (by omega), kb _ (by omega), ← hnbE]; exact hnb
    · rcases hoB.2 with ⟨q, _⟩ | ⟨g', cap, cur, q, r1, r2, r3, r4, r5, r6⟩
      · cases q
      · simp only [Value.slice.injEq, Option.some.injEq, Addr.mk.injEq] at q
        obtain ⟨⟨q1, _⟩, _, rfl⟩ := q
        rw [hE] at q1
        subst q1
        exact ⟨cur, by rw [heap_set_other (by omega)]; exact r2, by omega⟩
    · rw [heap_set_other (by omega), kb _ (by omega)]; exact hres
  have e0 : wB.cell? ⟨w2.heap.size, 0, none⟩ = some (.slice none 0 0) := by
    have hE : (w2.alloc (.cells #[.slice none 0 0] 68)).drew.heap.size = w2.heap.size + 1 := by show (w2.alloc _).heap.size = _; simp
    rw [World.cell?_of_block (hgB.block w2.heap.size (by rw [hE]; omega) (by simp))]
    exact cell_at (heap_last w2 _) rfl
  have e1 : wB.frozen? ⟨w2.heap.size, 0, none⟩ = false := by
    have hE : (w2.alloc (.cells #[.slice none 0 0] 68)).drew.heap.size = w2.heap.size + 1 := by show (w2.alloc _).heap.size = _; simp
    rw [frozen_blk' (hgB.block w2.heap.size (by rw [hE]; omega) (by simp))]
    exact frozen_blk (heap_last w2 _) 0
  have hmA' : (Instr.makeSlice 68 (.int .i64 (T : Int)) (.int .i64 (T : Int))).run Try.prog w2.drew = .ok (.slice (some ⟨w2.heap.size, 0, none⟩) T T) wA := hmA
  have hmB' : (Instr.makeSlice 68 (.int .i64 (T : Int)) (.int .i64 (T : Int))).run Try.prog (w2.alloc (.cells #[.slice none 0 0] 68)).drew = .ok (.slice (some ⟨w2.heap.size + 1, 0, none⟩) T T) wB := by
    have hE : (w2.alloc (.cells #[.slice none 0 0] 68)).drew.heap.size = w2.heap.size + 1 := by show (w2.alloc _).heap.size = _; simp
    rw [hmB, hE]
  rw [hnbE] at c1 c1a
  have HNB : Hid (w1.heap.size = nb) := hnbE
  have hnbw : w.heap.size < nb := by omega
  clear hmA hmB hoA hoB hgA hgB hs1 hs2 hb1 hb2 hnb hres hw1 hw2 hnbE h hT hTe
  go_enter Try.func44, Try.ntmps44
  go_upto_region 1 with fail
  rw [← HW1.out]
  go_upto_region 2 with fail
  rw [← HW2.out, HNB.out]
  go_cut [4] (fun v4 wz => ∃ (rb R : Nat) (wx : World), wx = wz ∧ v4 = .pointer (some ⟨rb, 0, none⟩) ∧ LY w n T nb rb R wx)
  case first =>
    go_region
    all_goals go_wp2_with fail
    all_goals go_meet
    all_goals first | exact ⟨_, _, _, rfl, rfl, HLA.out⟩ | exact ⟨_, _, _, rfl, rfl, HLB.out⟩
  case rest =>
    obtain ⟨rb, R, wx, rfl, rfl, hLY⟩ := hcut
    have HLY : Hid (LY w n T nb rb R wx) := hLY
    clear hLY HLA HLB c0 c0a c1 c1a t2 hmA' hmB' e0 e1 HW1 HW2 HNB a1 a2 a3
    have hlo := HLY.out.lo
    have hrbl : rb < wx.heap.size := (Array.getElem?_eq_some_iff.1 HLY.out.rbx).1
    have hnbl : nb < wx.heap.size := (Array.getElem?_eq_some_iff.1 HLY.out.nbx).1
    have hRl : R < wx.heap.size := by obtain ⟨cur, q, _⟩ := HLY.out.rest; exact (Array.getElem?_eq_some_iff.1 q).1
    have hfbx : fb < wx.heap.size := by have := HLY.out.below.size; omega
    have hnr : nb ≠ rb := blk_ne HLY.out.nbx HLY.out.rbx (by decide)
    have hfr : fb ≠ rb := by omega
    have hwle : w.heap.size ≤ wx.heap.size := HLY.out.below.size
    have h0 : 0 < n * K := Nat.mul_pos (by omega) (by omega)
    have h0n : 0 < n * n := Nat.mul_pos (by omega) (by omega)
    have hTE := HT.out
    obtain ⟨a, ha⟩ : ∃ a, n * K = a := ⟨_, rfl⟩
    obtain ⟨c, hc⟩ : ∃ c, n * n = c := ⟨_, rfl⟩
    obtain ⟨d, hd⟩ : ∃ d, a + a = d := ⟨_, rfl⟩
    obtain ⟨t1, ht1⟩ : ∃ t1, a + c = t1 := ⟨_, rfl⟩
    have HLET : Hid (n * K = a ∧ n * n = c ∧ a + a = d ∧ a + c = t1 ∧ T = d + c) := ⟨ha, hc, hd, ht1, by rw [hTE, ha, hc]; omega⟩
    have hTl : T = d + c := HLET.out.2.2.2.2
    rw [ha] at h0
    rw [hc] at h0n
    have HC1 : Hid (∀ z, z.heap[rb]? = some (.cells #[.slice (some ⟨R, 0, none⟩) T T] 68 (0, 0)) → z.heap[nb]? = some (.cells #[.int .i64 n] 3 (0, 0)) → Calls Try.prog 63 #[.int .i64 (K : Int), .pointer (some ⟨rb, 0, none⟩), .pointer (some ⟨nb, 0, none⟩)] z fun e y' => e = .returned (.agg #[.int .i64 (K : Int), .slice (some ⟨R, 0, none⟩) a a]) ∧ Only (fun j => j = rb) z y' ∧ y'.heap[nb]? = some (.cells #[.int .i64 n] 3 (0, 0)) ∧ y'.heap[rb]? = some (.cells #[.slice (some ⟨R, a, none⟩) t1 t1] 68 (0, 0))) := fun z h1 h2 => by
      refine (cut_any rb nb R 0 T T n K z h1 h2 (by omega) (by omega) (Nat.le_refl _) (by omega)).mono ?_
      rintro e y' ⟨q1, q2, x, q3, q4⟩
      rw [ha] at q1 q4
      rw [q4 (by omega), show 0 + a = a by omega, show T - a = t1 by omega] at q3
      exact ⟨q1, q2, (q2.block nb (Array.getElem?_eq_some_iff.1 h2).1 hnr).trans h2, q3⟩
    have HC2 : Hid (∀ z, z.heap[rb]? = some (.cells #[.slice (some ⟨R, a, none⟩) t1 t1] 68 (0, 0)) → z.heap[nb]? = some (.cells #[.int .i64 n] 3 (0, 0)) → Calls Try.prog 63 #[.int .i64 (K : Int), .pointer (some ⟨rb, 0, none⟩), .pointer (some ⟨nb, 0, none⟩)] z fun e y' => e = .returned (.agg #[.int .i64 (K : Int), .slice (some ⟨R, a, none⟩) a a]) ∧ Only (fun j => j = rb) z y' ∧ y'.heap[nb]? = some (.cells #[.int .i64 n] 3 (0, 0)) ∧ y'.heap[rb]? = some (.cells #[.slice (some ⟨R, d, none⟩) c c] 68 (0, 0))) := fun z h1 h2 => by
      refine (cut_any rb nb R a t1 t1 n K z h1 h2 (by omega) (by omega) (Nat.le_refl _) (by omega)).mono ?_
      rintro e y' ⟨q1, q2, x, q3, q4⟩
      rw [ha] at q1 q4
      rw [q4 (by omega), show a + a = d by omega, show t1 - a = c by omega] at q3
      exact ⟨q1, q2, (q2.block nb (Array.getElem?_eq_some_iff.1 h2).1 hnr).trans h2, q3⟩
    have HC3 : Hid (∀ z, z.heap[rb]? = some (.cells #[.slice (some ⟨R, d, none⟩) c c] 68 (0, 0)) → z.heap[nb]? = some (.cells #[.int .i64 n] 3 (0, 0)) → Calls Try.prog 63 #[.int .i64 (n : Int), .pointer (some ⟨rb, 0, none⟩), .pointer (some ⟨nb, 0, none⟩)] z fun e y' => e = .returned (.agg #[.int .i64 (n : Int), .slice (some ⟨R, d, none⟩) c c]) ∧ Only (fun j => j = rb) z y' ∧ y'.heap[nb]? = some (.cells #[.int .i64 n] 3 (0, 0))) := fun z h1 h2 => by
      refine (cut_any rb nb R d c c n n z h1 h2 (by omega) (by omega) (Nat.le_refl _) (by omega)).mono ?_
      rintro e y' ⟨q1, q2, x, q3, q4⟩
      rw [hc] at q1 q4
      skip
      exact ⟨q1, q2, (q2.block nb (Array.getElem?_eq_some_iff.1 h2).1 hnr).trans h2⟩
    have HK : Hid (∀ (y z : World) (A : Nat) (O : Obj), Below y.heap.size y z → y.heap[A]? = some O → z.heap[A]? = some O) := fun y z A O hb h => (hb.block A (Array.getElem?_eq_some_iff.1 h).1).trans h
    have HST : Hid (∀ (y : World) (A : Nat) (x0 x1 x2 x3 x4 x5 : Value), wx.heap.size ≤ A → (y.cell? ⟨fb, 0, none⟩ = some (.int .i64 (K : Int)) ∧ y.cell? ⟨nb, 0, none⟩ = some (.int .i64 (n : Int))) → (((((((y.setCell ⟨A, 0, none⟩ x0).setCell ⟨A, 1, none⟩ x1).setCell ⟨A, 2, none⟩ x2).setCell ⟨A, 3, none⟩ x3).setCell ⟨A, 4, none⟩ x4).setCell ⟨A, 5, none⟩ x5).cell? ⟨fb, 0, none⟩ = some (.int .i64 (K : Int)) ∧ ((((((y.setCell ⟨A, 0, none⟩ x0).setCell ⟨A, 1, none⟩ x1).setCell ⟨A, 2, none⟩ x2).setCell ⟨A, 3, none⟩ x3).setCell ⟨A, 4, none⟩ x4).setCell ⟨A, 5, none⟩ x5).cell? ⟨nb, 0, none⟩ = some (.int .i64 (n : Int)))) := fun y A x0 x1 x2 x3 x4 x5 hA hy => by
      have k1 : fb ≠ A := by omega
      have k2 : nb ≠ A := by omega
      refine ⟨?_, ?_⟩
      · rw [cell_set_blk k1, cell_set_blk k1, cell_set_blk k1, cell_set_blk k1, cell_set_blk k1, cell_set_blk k1]; exact hy.1
      · rw [cell_set_blk k2, cell_set_blk k2, cell_set_blk k2, cell_set_blk k2, cell_set_blk k2, cell_set_blk k2]; exact hy.2
    have HB1 : Hid (Below wx.heap.size wx wx.drew) := (Below.refl _ _).drew
    have HB2 : Hid (∀ o, Below wx.heap.size wx (wx.alloc o).drew) := fun o => (below_new wx o).drew
    have HNW : Hid (∀ (y : World) (o : Obj), Below y.heap.size y (y.alloc o)) := fun y o => below_new y o
    have HRF : Hid (∀ (y : World), Below y.heap.size y y) := fun y => Below.refl _ _
    have HRB : Hid (wx.heap[rb]? = some (.cells #[.slice (some ⟨R, 0, none⟩) T T] 68 (0, 0))) := HLY.out.rbx
    clear ha hc hd ht1 hTl hnk2 hn2
    have HSK : Hid (∀ y y' : World, (y.cell? ⟨fb, 0, none⟩ = some (.int .i64 (K : Int)) ∧ y.cell? ⟨nb, 0, none⟩ = some (.int .i64 (n : Int))) → Only (fun j => j = rb) y y' → (y'.cell? ⟨fb, 0, none⟩ = some (.int .i64 (K : Int)) ∧ y'.cell? ⟨nb, 0, none⟩ = some (.int .i64 (n : Int)))) := fun y y' hy hb => by
      have k1 : fb < y.heap.size := World.block_lt_of_cell? y ⟨fb, 0, none⟩ hy.1
      have k2 : nb < y.heap.size := World.block_lt_of_cell? y ⟨nb, 0, none⟩ hy.2
      exact ⟨by rw [World.cell?_of_block (hb.block fb k1 hfr)]; exact hy.1, by rw [World.cell?_of_block (hb.block nb k2 hnr)]; exact hy.2⟩
    have HAL : Hid (∀ (y : World) (o : Obj), (y.cell? ⟨fb, 0, none⟩ = some (.int .i64 (K : Int)) ∧ y.cell? ⟨nb, 0, none⟩ = some (.int .i64 (n : Int))) → ((y.alloc o).cell? ⟨fb, 0, none⟩ = some (.int .i64 (K : Int)) ∧ (y.alloc o).cell? ⟨nb, 0, none⟩ = some (.int .i64 (n : Int)))) := fun y o hy => by
      have k1 : fb < y.heap.size := World.block_lt_of_cell? y ⟨fb, 0, none⟩ hy.1
      have k2 : nb < y.heap.size := World.block_lt_of_cell? y ⟨nb, 0, none⟩ hy.2
      exact ⟨by rw [World.cell?_of_block (heap_allo k1 o)]; exact hy.1, by rw [World.cell?_of_block (heap_allo k2 o)]; exact hy.2⟩
    have S0 : ((wx.drew).cell? ⟨fb, 0, none⟩ = some (.int .i64 (K : Int)) ∧ (wx.drew).cell? ⟨nb, 0, none⟩ = some (.int .i64 (n : Int))) := by
      refine ⟨?_, cell_at HLY.out.nbx rfl⟩
      rw [World.cell?_of_block (HLY.out.below.drew.block fb hfbl)]
      exact cell_at HF.out.box rfl
    have HSY : Hid (∀ y : World, Only (fun j => j = rb) wx y → (y.cell? ⟨fb, 0, none⟩ = some (.int .i64 (K : Int)) ∧ y.cell? ⟨nb, 0, none⟩ = some (.int .i64 (n : Int)))) := fun y hy => ⟨(World.cell?_of_block (hy.block fb hfbx hfr)).trans S0.1, (World.cell?_of_block (hy.block nb hnbl hnr)).trans S0.2⟩
    have HALD : Hid (∀ o : Obj, (((wx.alloc o).drew).cell? ⟨fb, 0, none⟩ = some (.int .i64 (K : Int)) ∧ ((wx.alloc o).drew).cell? ⟨nb, 0, none⟩ = some (.int .i64 (n : Int)))) := fun o => ⟨(World.cell?_of_block (heap_allo (w := wx) (b := fb) hfbx o)).trans S0.1, (World.cell?_of_block (heap_allo (w := wx) (b := nb) hnbl o)).trans S0.2⟩
    have HN0 : Hid (wx.heap[nb]? = some (.cells #[.int .i64 n] 3 (0, 0))) := HLY.out.nbx
    clear hTE
    go_upto_region 4 with fail
    go_cut [6] (fun v6 wz => ∃ (A : Nat) (wv : World), wv = wz ∧ v6 = .pointer (some ⟨A, 0, none⟩) ∧ LZ w n K a c d nb rb R A wx wv)
    case first =>
      go_region_held3 (fun y => (y.cell? ⟨fb, 0, none⟩ = some (.int .i64 (K : Int)) ∧ y.cell? ⟨nb, 0, none⟩ = some (.int .i64 (n : Int)))) (first | with_reducible assumption | with_reducible exact S0 | with_reducible exact HSK.out _ _ (by with_reducible assumption) (by with_reducible assumption) | with_reducible exact HAL.out _ _ (by with_reducible assumption) | with_reducible exact HALD.out _ | with_reducible exact HAL.out _ _ (HSY.out _ HT3.out) | with_reducible exact HAL.out _ _ (HSK.out _ _ (by with_reducible assumption) (by with_reducible assumption)) | with_reducible exact HST.out _ _ _ _ _ _ _ _ (by first | with_reducible exact Nat.le_refl _ | with_reducible exact HZ1.out | with_reducible exact HZ2.out) (by with_reducible assumption)) (first
        | (go_at_call 63; have q := K2f; refine (HC3.out _ ?_ ?_).mono ?_; exact HK.out y2 _ _ _ (by first | with_reducible exact HRF.out y2 | with_reducible exact HNW.out y2 _) K2f.out.2; exact HK.out y2 _ _ _ (by first | with_reducible exact HRF.out y2 | with_reducible exact HNW.out y2 _) K2f.out.1; rintro e y3 ⟨rfl, hO3, hn3⟩; have HT3 : Hid (Only (fun j => j = rb) wx y3) := HT2.out.trans (Only.trans (Only.of (by first | with_reducible exact HRF.out y2 | with_reducible exact HNW.out y2 _)) hO3); (first | (guard_hyp hO3 : Only (fun j => j = rb) (y2.alloc (.cells #[.int .i64 0, .slice none 0 0, .int .i64 0, .slice none 0 0, .int .i64 0, .slice none 0 0] 72)) y3; have zC : Zb y3 y2.heap.size := zb_new hO3 (Nat.ne_of_gt (Array.getElem?_eq_some_iff.1 K2f.out.2).1); obtain ⟨u0, u1, u2, u3, u4, u5, v0, v1, v2, v3, v4, v5⟩ := zb_cells zC; have HZC : Hid _ := zC; clear zC) | (guard_hyp hO3 : Only (fun j => j = rb) y2 y3; have zC := zb_keep hO3 zB (blk_ne zB K2f.out.2 (by decide)); obtain ⟨u0, u1, u2, u3, u4, u5, v0, v1, v2, v3, v4, v5⟩ := zb_cells zC; have HZC : Hid _ := zC; clear zC) | skip); clear hn3)
        | (go_at_call 63; have q := K1f; refine (HC2.out _ ?_ ?_).mono ?_; exact HK.out y1 _ _ _ (by first | with_reducible exact HRF.out y1 | with_reducible exact HNW.out y1 _) K1f.out.2; exact HK.out y1 _ _ _ (by first | with_reducible exact HRF.out y1 | with_reducible exact HNW.out y1 _) K1f.out.1; rintro e y2 ⟨rfl, hO2, hn2, hr2⟩; have K2f : Hid (y2.heap[nb]? = some (.cells #[.int .i64 n] 3 (0, 0)) ∧ y2.heap[rb]? = some (.cells #[.slice (some ⟨R, d, none⟩) c c] 68 (0, 0))) := ⟨hn2, hr2⟩; have HT2 : Hid (Only (fun j => j = rb) wx y2) := HT1.out.trans (Only.trans (Only.of (by first | with_reducible exact HRF.out y1 | with_reducible exact HNW.out y1 _)) hO2); have HZ2 : Hid (wx.heap.size ≤ y2.heap.size) := HT2.out.size; (first | (guard_hyp hO2 : Only (fun j => j = rb) (y1.alloc (.cells #[.int .i64 0, .slice none 0 0, .int .i64 0, .slice none 0 0, .int .i64 0, .slice none 0 0] 72)) y2; have zB : Zb y2 y1.heap.size := zb_new hO2 (Nat.ne_of_gt (Array.getElem?_eq_some_iff.1 K1f.out.2).1)) | (guard_hyp hO2 : Only (fun j => j = rb) y1 y2; have zB := zb_keep hO2 zA (blk_ne zA K1f.out.2 (by decide))) | skip); clear hn2 hr2)
        | (go_at_call 63; refine (HC1.out _ ?_ ?_).mono ?_; exact HK.out wx _ _ _ (by first | with_reducible exact HB1.out | with_reducible exact HB2.out _) HRB.out; exact HK.out wx _ _ _ (by first | with_reducible exact HB1.out | with_reducible exact HB2.out _) HN0.out; rintro e y1 ⟨rfl, hO1, hn1, hr1⟩; have K1f : Hid (y1.heap[nb]? = some (.cells #[.int .i64 n] 3 (0, 0)) ∧ y1.heap[rb]? = some (.cells #[.slice (some ⟨R, a, none⟩) t1 t1] 68 (0, 0))) := ⟨hn1, hr1⟩; have HT1 : Hid (Only (fun j => j = rb) wx y1) := Only.trans (Only.of (by first | with_reducible exact HB1.out | with_reducible exact HB2.out _)) hO1; have HZ1 : Hid (wx.heap.size ≤ y1.heap.size) := HT1.out.size; (first | (guard_hyp hO1 : Only (fun j => j = rb) (wx.alloc (.cells #[.int .i64 0, .slice none 0 0, .int .i64 0, .slice none 0 0, .int .i64 0, .slice none 0 0] 72)).drew y1; have zA : Zb y1 wx.heap.size := zb_newd hO1 (Nat.ne_of_gt hrbl)) | skip); clear hn1 hr1))
      all_goals go_wp2_with fail
      all_goals go_meet
      all_goals first | with_reducible exact ⟨_, _, rfl, rfl, lz_new HT3.out⟩ | with_reducible exact ⟨_, _, rfl, rfl, lz_chain HT3.out (zb_of HZC.out) (by first | with_reducible exact Nat.le_refl _ | with_reducible exact HZ1.out | with_reducible exact HZ2.out)⟩
    case rest =>
      obtain ⟨A, wv, rfl, rfl, hLZ⟩ := hcut
      have HLZ : Hid (LZ w n K a c d nb rb R A wx wv) := hLZ
      clear hLZ S0 HSK HAL HST HC1 HC2 HC3 HK HB1 HB2 HNW HRF HRB HN0
      have hrw : w.heap.size ≤ rb := by omega
      have HBy : Hid (Below w.heap.size w wv) := HLZ.out.only.below HLY.out.below (Nat.le_refl _) (fun j hj => by rw [hj]; omega)
      have hRrb : R ≠ rb := by
        obtain ⟨cur, q, _⟩ := HLY.out.rest
        exact blk_ne q HLY.out.rbx (by decide)
      have hA := HLZ.out.lo
      have hAl : A < wv.heap.size := (Array.getElem?_eq_some_iff.1 HLZ.out.tab).1
      have HNBy : Hid (wv.heap[nb]? = some (.cells #[.int .i64 n] 3 (0, 0))) := (HLZ.out.only.block nb hnbl hnr).trans HLY.out.nbx
      obtain ⟨cur, hcur, hcs⟩ : ∃ cur : Array Value, wv.heap[R]? = some (.cells cur 97 (0, 0)) ∧ cur.size = T := by
        obtain ⟨cur, q, q2⟩ := HLY.out.rest
        exact ⟨cur, (HLZ.out.only.block R hRl hRrb).trans q, q2⟩
      have HRes : Hid (wv.heap[w.heap.size]? = some (.cells #[.int .i64 0, .slice none 0 0, .int .i64 0, .slice none 0 0, .int .i64 0, .slice none 0 0] 72 (0, 0))) := (HLZ.out.only.block w.heap.size (by omega) (by omega)).trans HLY.out.res
      have HFy : Hid (FN base wv fb b mb K n0 vl (.slice wa n wc) vr M W N D) := HF.out.below HBy.out
      obtain ⟨va, rc, hvr⟩ := own_shape HFy.out.right
      rw [hN, HMn.out, HLET.out.1] at hvr
      subst hvr
      obtain ⟨gr, rfl⟩ : ∃ gr, va = some ⟨gr, 0, none⟩ := by
        rcases HFy.out.right.2 with ⟨_, h0⟩ | ⟨g', cap', cur, hv, _⟩
        · rw [hN, HMn.out, HLET.out.1] at h0; omega
        · simp only [Value.slice.injEq] at hv
          exact ⟨g', hv.1⟩
      have hrow := HFy.out.right
      rw [hN, HMn.out, HLET.out.1] at hrow
      have hcopy : (Builtin.copy_ #[68, 68] 3 #[.slice (some ⟨R, 0, none⟩) a a, .slice (some ⟨gr, 0, none⟩) a rc]).run Try.prog wv.drew = .ok (.int .i64 (a : Int)) (wv.drew.setRow R (uC N ++ cur.toList.drop a).toArray) := by
        have hl : (uC N).length = a := by rw [uC_len, hN, HMn.out, HLET.out.1]
        have := run_copy_row (P := Try.prog) wv.drew 68 68 3 97 R 0 a a ⟨gr, 0, none⟩ a rc cur 97 (uC N) Try.underlying68 Try.size_u16c hcur (by rw [hl]; simp) (fun j v hv => by
          have hadd : (⟨gr, 0, none⟩ : Addr).add j = ⟨gr, j, none⟩ := by unfold Addr.add; split <;> simp_all
          have hj := (List.getElem?_eq_some_iff.1 hv).1
          rw [hadd]
          show wv.cell? ⟨gr, j, none⟩ = some v
          rw [hrow.cellAt j (by rw [hl] at hj; omega)]
          exact hv) (by have := HLET.out; rw [hl]; omega) (fun v hv => by
          unfold uC at hv
          obtain ⟨x, _, rfl⟩ := List.mem_map.1 hv
          rfl)
        rw [hl] at this
        simpa [goInt] using this
      have HRT : Hid (RT (wv.drew.setRow R (uC N ++ cur.toList.drop a).toArray) R n K N (fun _ _ => False) (fun _ _ => False)) := by
        have hl : (uC N).length = a := by rw [uC_len, hN, HMn.out, HLET.out.1]
        have hTE := HLET.out
        refine ⟨_, setRow_heap _ _ _ _ _ _ hcur, ?_, fun p hp => ?_, fun _ _ _ _ q => q.elim, fun _ _ _ _ q => q.elim⟩
        · rw [hTE.1, hTE.2.1]; simp [hl]; omega
        · rw [List.getElem?_toArray, List.getElem?_append_left (by rw [hl, ← hTE.1]; exact hp)]
          have hpN : p < N.length := by rw [hN, HMn.out]; exact hp
          have e := List.getElem?_eq_getElem hpN
          rw [uC_at e, getD_of e]
      obtain ⟨w5, hw5⟩ : ∃ w5, w5 = wv.drew.setRow R (uC N ++ cur.toList.drop a).toArray := ⟨_, rfl⟩
      rw [← hw5] at hcopy HRT
      have HO5 : Hid (Only (fun j => j = R) wv w5) := by
        rw [hw5]
        exact ⟨below_row ((Below.refl 0 wv).drew) (Nat.zero_le _), fun j hj hne => setRow_other _ _ _ _ hne⟩
      have tb1 : wv.drew.cell? ⟨A, 1, none⟩ = some (.slice (some ⟨R, 0, none⟩) a a) := cell_at HLZ.out.tab rfl
      have tf3 : wv.drew.cell? ⟨fb, 3, none⟩ = some (.slice (some ⟨gr, 0, none⟩) a rc) := cell_at HFy.out.box rfl
      have hAR : A ≠ R := by omega
      have hnR : nb ≠ R := by
        obtain ⟨cur', q, _⟩ := HLY.out.rest
        exact blk_ne HLY.out.nbx q (by decide)
      have HT5 : Hid (w5.heap[A]? = some (.cells #[.int .i64 (K : Int), .slice (some ⟨R, 0, none⟩) a a, .int .i64 (K : Int), .slice (some ⟨R, a, none⟩) a a, .int .i64 (n : Int), .slice (some ⟨R, d, none⟩) c c] 72 (0, 0))) := (HO5.out.block A hAl hAR).trans HLZ.out.tab
      have HN5 : Hid (w5.heap[nb]? = some (.cells #[.int .i64 n] 3 (0, 0))) := (HO5.out.block nb (by have := HLZ.out.only.size; omega) hnR).trans HNBy.out
      have HRes5 : Hid (w5.heap[w.heap.size]? = some (.cells #[.int .i64 0, .slice none 0 0, .int .i64 0, .slice none 0 0, .int .i64 0, .slice none 0 0] 72 (0, 0))) := (HO5.out.block w.heap.size (by have := HBy.out.size; have := HLZ.out.only.size; omega) (by omega)).trans HRes.out
      have HB5 : Hid (Below w.heap.size w w5) := HO5.out.below HBy.out (Nat.le_refl _) (fun j hj => by rw [hj]; omega)
      have HF5 : Hid (FN base w5 fb b mb K n0 vl (.slice wa n wc) (.slice (some ⟨gr, 0, none⟩) a rc) M W N D) := HFy.out.keep (fun j hj _ => HO5.out.block j (HFy.out.fs hj).2 (by have := (HF.out.fs hj).2; omega))
      clear hw5 hrow hcur hcs
      go_wp2_with fail
      go_region
      have tn : w5.cell? ⟨nb, 0, none⟩ = some (.int .i64 n) := cell_at HN5.out rfl
      clear tb1 tf3 hcopy
      go_wp2_with fail
      clear tn
      have HMU : Hid (∀ (y : World) (P : Nat → Nat → Prop) (i r : Nat), i < n → i * n = r → FN base y fb b mb K n0 vl (.slice wa n wc) (.slice (some ⟨gr, 0, none⟩) a rc) M W N D → RT y R n K N P (fun _ _ => False) → Calls Try.prog 64 #[.pointer (some ⟨fb, 0, none⟩), .int .i64 i, .agg #[.int .i64 (K : Int), .slice (some ⟨R, 0, none⟩) a a], .slice (some ⟨R, d + r, none⟩) n n] y fun e w' => e = .returned (.tuple #[]) ∧ Only (fun j => j = R) y w' ∧ RT w' R n K N (fun a b => P a b ∨ a = i) (fun _ _ => False)) := fun y P i r hi hir hf hr => by
        have hLT := HLET.out
        have q := multiply_any hf wy fst hk (i := i) (by rw [HMn.out]; exact hi) (R := R) (P := P) (L := fun _ _ => False) (by rw [HMn.out]; exact hr) hpr (d + r) a (by rw [HMn.out, hir, hLT.1]; omega) (by rw [HMn.out, hLT.1])
        rw [HMn.out] at q
        exact q
      have HFO : Hid (∀ y, Only (fun j => j = R) w5 y → FN base y fb b mb K n0 vl (.slice wa n wc) (.slice (some ⟨gr, 0, none⟩) a rc) M W N D) := fun y hy => HF5.out.keep (fun j hj hl => hy.block j hl (by have := (HF.out.fs hj).2; omega))
      have HTO : Hid (∀ y, Only (fun j => j = R) w5 y → ∀ o, y.cell? ⟨A, o, none⟩ = (#[.int .i64 (K : Int), .slice (some ⟨R, 0, none⟩) a a, .int .i64 (K : Int), .slice (some ⟨R, a, none⟩) a a, .int .i64 (n : Int), .slice (some ⟨R, d, none⟩) c c] : Array Value)[o]?) := fun y hy o => (World.cell?_of_block (hy.block A (Array.getElem?_eq_some_iff.1 HT5.out).1 hAR)).trans (cell_of_row _ _ _ _ _ _ HT5.out)
      go_loopw [52, 7] (fun vi _ wr => ∃ i : Nat, vi = .int .i64 i ∧ i ≤ n ∧ RT wr R n K N (fun a _ => a < i) (fun _ _ => False) ∧ Only (fun j => j = R) w5 wr) (fun vi _ _ => n - (intOf vi).toNat)
      case atStart => exact ⟨0, rfl, Nat.zero_le _, HRT.out.mono (fun _ _ _ _ q => by omega) (fun _ _ _ _ q => q), Only.of (Below.refl _ _)⟩
      case round =>
        clear HRT
        obtain ⟨i, rfl, hin, hR, hO⟩ := hrel
        have HR : Hid (RT wr R n K N (fun a _ => a < i) (fun _ _ => False)) := hR
        have HO : Hid (Only (fun j => j = R) w5 wr) := hO
        clear hR hO
        by_cases hlt : i < n
        · have hiI : (i : Int) < n := by omega
          have hidx := idx_lt (m := n) hlt (show n - 1 < n by omega)
          have hLT := HLET.out
          obtain ⟨r, hr⟩ : ∃ r, i * n = r := ⟨_, rfl⟩
          have HIR : Hid (i * n = r) := hr
          have HGR : Hid (∀ y, Calls Try.prog 65 #[.agg #[.int .i64 (n : Int), .slice (some ⟨R, d, none⟩) c c], .int .i64 i] y fun e w' => e = .returned (.slice (some ⟨R, d + r, none⟩) n n) ∧ Below y.heap.size y w') := fun y => grow_any R d n i c c r hr (by omega) (by omega) (Nat.le_refl _) (by omega) y
          have HMK : Hid (∀ y, Only (fun j => j = R) w5 y → RT y R n K N (fun a _ => a < i) (fun _ _ => False) → ((∀ o, y.cell? ⟨A, o, none⟩ = (#[.int .i64 (K : Int), .slice (some ⟨R, 0, none⟩) a a, .int .i64 (K : Int), .slice (some ⟨R, a, none⟩) a a, .int .i64 (n : Int), .slice (some ⟨R, d, none⟩) c c] : Array Value)[o]?) ∧ Bx (fun y => FN base y fb b mb K n0 vl (.slice wa n wc) (.slice (some ⟨gr, 0, none⟩) a rc) M W N D ∧ RT y R n K N (fun a _ => a < i) (fun _ _ => False) ∧ Only (fun j => j = R) w5 y) y)) := fun y hy hr => ⟨HTO.out y hy, Bx.mk ⟨HFO.out y hy, hr, hy⟩⟩
          have HSK : Hid (∀ y y' : World, ((∀ o, y.cell? ⟨A, o, none⟩ = (#[.int .i64 (K : Int), .slice (some ⟨R, 0, none⟩) a a, .int .i64 (K : Int), .slice (some ⟨R, a, none⟩) a a, .int .i64 (n : Int), .slice (some ⟨R, d, none⟩) c c] : Array Value)[o]?) ∧ Bx (fun y => FN base y fb b mb K n0 vl (.slice wa n wc) (.slice (some ⟨gr, 0, none⟩) a rc) M W N D ∧ RT y R n K N (fun a _ => a < i) (fun _ _ => False) ∧ Only (fun j => j = R) w5 y) y) → Below y.heap.size y y' → ((∀ o, y'.cell? ⟨A, o, none⟩ = (#[.int .i64 (K : Int), .slice (some ⟨R, 0, none⟩) a a, .int .i64 (K : Int), .slice (some ⟨R, a, none⟩) a a, .int .i64 (n : Int), .slice (some ⟨R, d, none⟩) c c] : Array Value)[o]?) ∧ Bx (fun y => FN base y fb b mb K n0 vl (.slice wa n wc) (.slice (some ⟨gr, 0, none⟩) a rc) M W N D ∧ RT y R n K N (fun a _ => a < i) (fun _ _ => False) ∧ Only (fun j => j = R) w5 y) y')) := fun y y' hy hb => by
            obtain ⟨q1, q2, q3⟩ := Bx.out hy.2
            exact HMK.out y' (q3.trans (Only.of hb)) (q2.keep (hb.block _ q2.lt))
          have S0 : ((∀ o, (wr.drew).cell? ⟨A, o, none⟩ = (#[.int .i64 (K : Int), .slice (some ⟨R, 0, none⟩) a a, .int .i64 (K : Int), .slice (some ⟨R, a, none⟩) a a, .int .i64 (n : Int), .slice (some ⟨R, d, none⟩) c c] : Array Value)[o]?) ∧ Bx (fun y => FN base y fb b mb K n0 vl (.slice wa n wc) (.slice (some ⟨gr, 0, none⟩) a rc) M W N D ∧ RT y R n K N (fun a _ => a < i) (fun _ _ => False) ∧ Only (fun j => j = R) w5 y) (wr.drew)) := HMK.out _ (HO.out.trans (Only.of (Below.refl _ _).drew)) HR.out
          clear hidx hLT hr
          go_wp2_with fail
          go_region_held3 (fun y => ((∀ o, y.cell? ⟨A, o, none⟩ = (#[.int .i64 (K : Int), .slice (some ⟨R, 0, none⟩) a a, .int .i64 (K : Int), .slice (some ⟨R, a, none⟩) a a, .int .i64 (n : Int), .slice (some ⟨R, d, none⟩) c c] : Array Value)[o]?) ∧ Bx (fun y => FN base y fb b mb K n0 vl (.slice wa n wc) (.slice (some ⟨gr, 0, none⟩) a rc) M W N D ∧ RT y R n K N (fun a _ => a < i) (fun _ _ => False) ∧ Only (fun j => j = R) w5 y) y)) (first | assumption | exact S0 | exact HSK.out _ _ (by assumption) (by assumption)) (first
            | (go_at_call 65; refine (HGR.out _).mono ?_; rintro e y1 ⟨rfl, hy1⟩; have K1 : Hid (Only (fun j => j = R) w5 y1 ∧ RT y1 R n K N (fun a _ => a < i) (fun _ _ => False)) := ⟨(HO.out.trans (Only.of (Below.refl _ _).drew)).trans (Only.of hy1), HR.out.keep (hy1.block _ HR.out.lt)⟩)
            | (go_at_call 64; refine (HMU.out _ _ i r hlt HIR.out (HFO.out _ K1.out.1) K1.out.2).mono ?_; rintro e y2 ⟨rfl, hO2, hR2⟩; have S2 : ((∀ o, y2.cell? ⟨A, o, none⟩ = (#[.int .i64 (K : Int), .slice (some ⟨R, 0, none⟩) a a, .int .i64 (K : Int), .slice (some ⟨R, a, none⟩) a a, .int .i64 (n : Int), .slice (some ⟨R, d, none⟩) c c] : Array Value)[o]?) ∧ Bx (fun y => FN base y fb b mb K n0 vl (.slice wa n wc) (.slice (some ⟨gr, 0, none⟩) a rc) M W N D ∧ RT y R n K N (fun a _ => a < i) (fun _ _ => False) ∧ Only (fun j => j = R) w5 y) y2) := HMK.out _ (K1.out.1.trans hO2) (hR2.mono (fun _ _ _ _ q => .inl q) (fun _ _ _ _ q => q)); have K2 : Hid (Only (fun j => j = R) w5 y2 ∧ RT y2 R n K N (fun a b => a < i ∨ a = i) (fun _ _ => False)) := ⟨K1.out.1.trans hO2, hR2⟩; clear hO2 hR2))
          clear S0
          go_wp2_with fail
          go_roundw
          case rel => exact ⟨i + 1, by go_num, by omega, K2.out.2.mono (fun a _ _ _ q => by omega) (fun _ _ _ _ q => q), K2.out.1⟩
          case measure => simp [intOf]; omega
        · have hiI : ¬ (i : Int) < n := by omega
          have HR6 : Hid (RT wr R n K N (fun _ _ => True) (fun _ _ => False)) := HR.out.mono (fun a _ ha _ _ => by omega) (fun _ _ _ _ q => q)
          have tn : wr.cell? ⟨nb, 0, none⟩ = some (.int .i64 n) := by
            rw [World.cell?_of_block (HO.out.block nb (Array.getElem?_eq_some_iff.1 HN5.out).1 hnR)]
            exact cell_at HN5.out rfl
          clear HR
          obtain ⟨w6, hw6⟩ : ∃ w6, wr = w6 := ⟨_, rfl⟩
          subst hw6
          go_wp2_with fail
          clear tn
          have HO0 : Hid (Only (fun j => j = R) w5 wr) := HO.out
          go_loopw [66, 8, 9, 10] (fun vi _ _ _ wr => ∃ i : Nat, vi = .int .i64 i ∧ i ≤ n ∧ RT wr R n K N (fun _ _ => True) (fun u _ => u < i) ∧ Only (fun j => j = R) w5 wr) (fun vi _ _ _ _ => n - (intOf vi).toNat)
          case atStart => exact ⟨0, rfl, Nat.zero_le _, HR6.out.mono (fun _ _ _ _ q => q) (fun _ _ _ _ q => by omega), HO0.out⟩
          case round =>
            clear HR6 HO0 HO
            clear hin hlt hiI
            obtain ⟨i, rfl, hin, hR, hO⟩ := hrel
            have HR : Hid (RT wr R n K N (fun _ _ => True) (fun u _ => u < i)) := hR
            have HO : Hid (Only (fun j => j = R) w5 wr) := hO
            clear hR hO
            by_cases hlt : i < n
            · have hiI : (i : Int) < n := by omega
              have hLT := HLET.out
              obtain ⟨r, hr⟩ : ∃ r, i * K = r := ⟨_, rfl⟩
              obtain ⟨e, he⟩ : ∃ e, a + r = e := ⟨_, rfl⟩
              have hrK : r + K ≤ a := by
                have := Nat.mul_le_mul_right K (show i + 1 ≤ n from hlt)
                rw [Nat.add_mul, hr, Nat.one_mul, hLT.1] at this
                exact this
              have HGL : Hid (∀ y, Calls Try.prog 65 #[.agg #[.int .i64 (K : Int), .slice (some ⟨R, a, none⟩) a a], .int .i64 i] y fun x w' => x = .returned (.slice (some ⟨R, e, none⟩) K K) ∧ Below y.heap.size y w') := fun y => by
                have q := grow_any R a K i a a r hr hk.1 hrK (Nat.le_refl _) (by omega) y
                rw [he] at q
                exact q
              have HIE : Hid (i * K = r ∧ a + r = e ∧ r + K ≤ a) := ⟨hr, he, hrK⟩
              have g2 := HTO.out wr HO.out 2
              have g3 := HTO.out wr HO.out 3
              clear hLT hr he hrK
              go_wp2_with fail
              refine (HGL.out _).mono ?_
              rintro x y1 ⟨rfl, hy1⟩
              have HR1 : Hid (RT y1 R n K N (fun _ _ => True) (fun u _ => u < i)) := HR.out.keep (hy1.block _ HR.out.lt)
              have HO1 : Hid (Only (fun j => j = R) w5 y1) := HO.out.trans (Only.of hy1)
              clear hy1 g2 g3 HR HO
              go_wp2_with fail
              go_loopw [75, 10] (fun vi _ wr => ∃ l : Nat, vi = .int .i64 l ∧ l ≤ K ∧ RT wr R n K N (fun _ _ => True) (fun u v => u < i ∨ (u = i ∧ v < l)) ∧ Only (fun j => j = R) w5 wr) (fun vi _ _ => K - (intOf vi).toNat)
              case atStart => exact ⟨0, rfl, Nat.zero_le _, HR1.out.mono (fun _ _ _ _ q => q) (fun _ _ _ _ q => by omega), HO1.out⟩
              case round =>
                clear HR1 HO1
                obtain ⟨l, rfl, hlK, hR, hO⟩ := hrel
                have HR : Hid (RT wr R n K N (fun _ _ => True) (fun u v => u < i ∨ (u = i ∧ v < l))) := hR
                have HO : Hid (Only (fun j => j = R) w5 wr) := hO
                clear hR hO
                by_cases hll : l < K
                · have hlI : (l : Int) < K := by omega
                  have hLT := HLET.out
                  have hIE := HIE.out
                  obtain ⟨x, hx⟩ : ∃ x, N.getD l 0 = x := ⟨_, rfl⟩
                  have hxn : x < n := by rw [← hx, ← HMn.out]; exact hNl l (by rw [hN, HMn.out, hLT.1]; omega)
                  obtain ⟨qx, hqx⟩ : ∃ qx, x * n = qx := ⟨_, rfl⟩
                  obtain ⟨v, hv⟩ : ∃ v, pr K N x i = v := ⟨_, rfl⟩
                  have hvn : v < n := by rw [← hv, ← HMn.out]; exact hpr x i (by rw [HMn.out]; exact hxn) (by rw [HMn.out]; exact hlt)
                  have hqlt : qx + i < c := by rw [← hqx, ← hLT.2.1]; exact idx_lt hxn hlt
                  have HA1 : Hid (∀ y, RT y R n K N (fun _ _ => True) (fun u v => u < i ∨ (u = i ∧ v < l)) → Calls Try.prog 33 #[.agg #[.int .i64 (K : Int), .slice (some ⟨R, 0, none⟩) a a], .int .i64 0, .int .i64 l] y fun e w' => e = .returned (.int .i64 x) ∧ Below y.heap.size y w') := fun y hy => by
                    have q := gat_any R 0 K 0 l a a 0 x (by simp) (by omega) (by omega) (by omega) y (by have := hy.right (p := l) (by rw [hLT.1]; omega); rw [hx] at this; rw [Nat.zero_add, Nat.zero_add]; exact this) hy.lt
                    exact q
                  have HA2 : Hid (∀ y, RT y R n K N (fun _ _ => True) (fun u v => u < i ∨ (u = i ∧ v < l)) → Calls Try.prog 33 #[.agg #[.int .i64 (n : Int), .slice (some ⟨R, d, none⟩) c c], .int .i64 x, .int .i64 i] y fun e w' => e = .returned (.int .i64 v) ∧ Below y.heap.size y w') := fun y hy => by
                    refine gat_any R d n x i c c qx v hqx hqlt (by omega) (by omega) y ?_ hy.lt
                    have := hy.prod hxn hlt trivial
                    rw [hv, hLT.1, hLT.2.2.1, hqx] at this
                    exact this
                  have HMK : Hid (∀ y, Only (fun j => j = R) w5 y → RT y R n K N (fun _ _ => True) (fun u v => u < i ∨ (u = i ∧ v < l)) → ((∀ o, y.cell? ⟨A, o, none⟩ = (#[.int .i64 (K : Int), .slice (some ⟨R, 0, none⟩) a a, .int .i64 (K : Int), .slice (some ⟨R, a, none⟩) a a, .int .i64 (n : Int), .slice (some ⟨R, d, none⟩) c c] : Array Value)[o]?) ∧ y.cell? ⟨R, e + l, none⟩ = some (pvS y R (e + l)) ∧ y.frozen? ⟨R, e + l, none⟩ = false ∧ Bx (fun y => RT y R n K N (fun _ _ => True) (fun u v => u < i ∨ (u = i ∧ v < l)) ∧ Only (fun j => j = R) w5 y) y)) := fun y hy hr => ⟨HTO.out y hy, (hr.here (by rw [hLT.1, hLT.2.1]; omega)).1, (hr.here (by rw [hLT.1, hLT.2.1]; omega)).2, Bx.mk ⟨hr, hy⟩⟩
                  have HSK : Hid (∀ y y' : World, ((∀ o, y.cell? ⟨A, o, none⟩ = (#[.int .i64 (K : Int), .slice (some ⟨R, 0, none⟩) a a, .int .i64 (K : Int), .slice (some ⟨R, a, none⟩) a a, .int .i64 (n : Int), .slice (some ⟨R, d, none⟩) c c] : Array Value)[o]?) ∧ y.cell? ⟨R, e + l, none⟩ = some (pvS y R (e + l)) ∧ y.frozen? ⟨R, e + l, none⟩ = false ∧ Bx (fun y => RT y R n K N (fun _ _ => True) (fun u v => u < i ∨ (u = i ∧ v < l)) ∧ Only (fun j => j = R) w5 y) y) → Below y.heap.size y y' → ((∀ o, y'.cell? ⟨A, o, none⟩ = (#[.int .i64 (K : Int), .slice (some ⟨R, 0, none⟩) a a, .int .i64 (K : Int), .slice (some ⟨R, a, none⟩) a a, .int .i64 (n : Int), .slice (some ⟨R, d, none⟩) c c] : Array Value)[o]?) ∧ y'.cell? ⟨R, e + l, none⟩ = some (pvS y' R (e + l)) ∧ y'.frozen? ⟨R, e + l, none⟩ = false ∧ Bx (fun y => RT y R n K N (fun _ _ => True) (fun u v => u < i ∨ (u = i ∧ v < l)) ∧ Only (fun j => j = R) w5 y) y')) := fun y y' hy hb => by
                    obtain ⟨q2, q3⟩ := Bx.out hy.2.2.2
                    exact HMK.out y' (q3.trans (Only.of hb)) (q2.keep (hb.block _ q2.lt))
                  have HPL : Hid (∀ y, RT y R n K N (fun _ _ => True) (fun u v => u < i ∨ (u = i ∧ v < l)) → RT (y.setCell ⟨R, e + l, none⟩ (.int .u16 (v : Int))) R n K N (fun _ _ => True) (fun u v => u < i ∨ (u = i ∧ v < l + 1))) := fun y hy => by
                    have q := hy.putL hlt hll
                    rw [hx, hv, hLT.1, hIE.1, ← Nat.add_assoc, hIE.2.1] at q
                    exact q.mono (fun _ _ _ _ q => q) (fun u v _ _ q => by omega)
                  have HST : Hid (∀ y : World, ((∀ o, y.cell? ⟨A, o, none⟩ = (#[.int .i64 (K : Int), .slice (some ⟨R, 0, none⟩) a a, .int .i64 (K : Int), .slice (some ⟨R, a, none⟩) a a, .int .i64 (n : Int), .slice (some ⟨R, d, none⟩) c c] : Array Value)[o]?) ∧ y.cell? ⟨R, e + l, none⟩ = some (pvS y R (e + l)) ∧ y.frozen? ⟨R, e + l, none⟩ = false ∧ Bx (fun y => RT y R n K N (fun _ _ => True) (fun u v => u < i ∨ (u = i ∧ v < l)) ∧ Only (fun j => j = R) w5 y) y) → ((∀ o, (y.setCell ⟨R, e + l, none⟩ (.int .u16 (v : Int))).cell? ⟨A, o, none⟩ = (#[.int .i64 (K : Int), .slice (some ⟨R, 0, none⟩) a a, .int .i64 (K : Int), .slice (some ⟨R, a, none⟩) a a, .int .i64 (n : Int), .slice (some ⟨R, d, none⟩) c c] : Array Value)[o]?) ∧ (y.setCell ⟨R, e + l, none⟩ (.int .u16 (v : Int))).cell? ⟨R, e + l, none⟩ = some (pvS (y.setCell ⟨R, e + l, none⟩ (.int .u16 (v : Int))) R (e + l)) ∧ (y.setCell ⟨R, e + l, none⟩ (.int .u16 (v : Int))).frozen? ⟨R, e + l, none⟩ = false ∧ Bx (fun y => RT y R n K N (fun _ _ => True) (fun u v => u < i ∨ (u = i ∧ v < l)) ∧ Only (fun j => j = R) w5 y) (y.setCell ⟨R, e + l, none⟩ (.int .u16 (v : Int))))) := fun y hy => by
                    obtain ⟨q2, q3⟩ := Bx.out hy.2.2.2
                    exact HMK.out _ (q3.set rfl) ((HPL.out y q2).mono (fun _ _ _ _ q => q) (fun u v _ _ q => by omega))
                  have S0 : ((∀ o, (wr.drew).cell? ⟨A, o, none⟩ = (#[.int .i64 (K : Int), .slice (some ⟨R, 0, none⟩) a a, .int .i64 (K : Int), .slice (some ⟨R, a, none⟩) a a, .int .i64 (n : Int), .slice (some ⟨R, d, none⟩) c c] : Array Value)[o]?) ∧ (wr.drew).cell? ⟨R, e + l, none⟩ = some (pvS (wr.drew) R (e + l)) ∧ (wr.drew).frozen? ⟨R, e + l, none⟩ = false ∧ Bx (fun y => RT y R n K N (fun _ _ => True) (fun u v => u < i ∨ (u = i ∧ v < l)) ∧ Only (fun j => j = R) w5 y) (wr.drew)) := HMK.out _ (HO.out.trans (Only.of (Below.refl _ _).drew)) HR.out
                  have hwv : IntKind.u16.wrap (v : Int) = (v : Int) := by rw [IntKind.wrap_u16]; omega
                  have K0 : Hid (RT wr.drew R n K N (fun _ _ => True) (fun u v => u < i ∨ (u = i ∧ v < l))) := HR.out
                  clear hLT hIE hx hqx hv hqlt
                  go_wp2_with fail
                  go_region_held3 (fun y => ((∀ o, y.cell? ⟨A, o, none⟩ = (#[.int .i64 (K : Int), .slice (some ⟨R, 0, none⟩) a a, .int .i64 (K : Int), .slice (some ⟨R, a, none⟩) a a, .int .i64 (n : Int), .slice (some ⟨R, d, none⟩) c c] : Array Value)[o]?) ∧ y.cell? ⟨R, e + l, none⟩ = some (pvS y R (e + l)) ∧ y.frozen? ⟨R, e + l, none⟩ = false ∧ Bx (fun y => RT y R n K N (fun _ _ => True) (fun u v => u < i ∨ (u = i ∧ v < l)) ∧ Only (fun j => j = R) w5 y) y)) (first | assumption | exact S0 | exact HSK.out _ _ (by assumption) (by assumption) | exact HST.out _ (by assumption)) (first
                    | (go_at_call 33; have q := K1; refine (HA2.out _ K1.out.2).mono ?_; rintro x2 y2 ⟨rfl, hy2⟩; have K2 : Hid (Only (fun j => j = R) w5 y2 ∧ RT y2 R n K N (fun _ _ => True) (fun u v => u < i ∨ (u = i ∧ v < l))) := ⟨K1.out.1.trans (Only.of hy2), K1.out.2.keep (hy2.block _ K1.out.2.lt)⟩)
                    | (go_at_call 33; refine (HA1.out _ K0.out).mono ?_; rintro x1 y1 ⟨rfl, hy1⟩; have K1 : Hid (Only (fun j => j = R) w5 y1 ∧ RT y1 R n K N (fun _ _ => True) (fun u v => u < i ∨ (u = i ∧ v < l))) := ⟨(HO.out.trans (Only.of (Below.refl _ _).drew)).trans (Only.of hy1), K0.out.keep (hy1.block _ K0.out.lt)⟩))
                  have HRN : Hid _ := HPL.out y2 K2.out.2
                  have HON : Hid (Only (fun j => j = R) w5 (y2.setCell ⟨R, e + l, none⟩ (.int .u16 (v : Int)))) := K2.out.1.set rfl
                  clear S0
                  go_wp2_with fail
                  go_roundw
                  case rel => exact ⟨l + 1, by go_num, by omega, HRN.out, HON.out⟩
                  case measure => simp [intOf]; omega
                · have hlI : ¬ (l : Int) < K := by omega
                  have HRE : Hid (RT wr R n K N (fun _ _ => True) (fun u _ => u < i + 1)) := HR.out.mono (fun _ _ _ _ q => q) (fun u v _ hv q => by omega)
                  go_wp2_with fail
                  go_roundw
                  case rel => exact ⟨i + 1, by go_num, by omega, HRE.out, HO.out⟩
                  case measure => simp [intOf]; omega
            · have hiI : ¬ (i : Int) < n := by omega
              have HRF : Hid (RT wr R n K N (fun _ _ => True) (fun _ _ => True)) := HR.out.mono (fun _ _ _ _ q => q) (fun u _ hu _ _ => by omega)
              have g0 : wr.cell? ⟨A, 0, none⟩ = some (.int .i64 (K : Int)) := HTO.out wr HO.out 0
              have g1 : wr.cell? ⟨A, 1, none⟩ = some (.slice (some ⟨R, 0, none⟩) a a) := HTO.out wr HO.out 1
              have g2 : wr.cell? ⟨A, 2, none⟩ = some (.int .i64 (K : Int)) := HTO.out wr HO.out 2
              have g3 : wr.cell? ⟨A, 3, none⟩ = some (.slice (some ⟨R, a, none⟩) a a) := HTO.out wr HO.out 3
              have g4 : wr.cell? ⟨A, 4, none⟩ = some (.int .i64 (n : Int)) := HTO.out wr HO.out 4
              have g5 : wr.cell? ⟨A, 5, none⟩ = some (.slice (some ⟨R, d, none⟩) c c) := HTO.out wr HO.out 5
              have hwR : w.heap.size ≠ R := by omega
              have hz : Zb wr w.heap.size := (HO.out.block w.heap.size (Array.getElem?_eq_some_iff.1 HRes5.out).1 hwR).trans HRes5.out
              obtain ⟨u0, u1, u2, u3, u4, u5, v0, v1, v2, v3, v4, v5⟩ := zb_cells hz
              have HFin : Hid (((((((wr.setCell ⟨w.heap.size, 0, none⟩ (.int .i64 (K : Int))).setCell ⟨w.heap.size, 1, none⟩ (.slice (some ⟨R, 0, none⟩) a a)).setCell ⟨w.heap.size, 2, none⟩ (.int .i64 (K : Int))).setCell ⟨w.heap.size, 3, none⟩ (.slice (some ⟨R, a, none⟩) a a)).setCell ⟨w.heap.size, 4, none⟩ (.int .i64 (n : Int))).setCell ⟨w.heap.size, 5, none⟩ (.slice (some ⟨R, d, none⟩) c c)).heap[w.heap.size]? = some (.cells #[.int .i64 (K : Int), .slice (some ⟨R, 0, none⟩) a a, .int .i64 (K : Int), .slice (some ⟨R, a, none⟩) a a, .int .i64 (n : Int), .slice (some ⟨R, d, none⟩) c c] 72 (0, 0))) := heap_set (heap_set (heap_set (heap_set (heap_set (heap_set hz)))))
              have HBF : Hid (Below w.heap.size w ((((((wr.setCell ⟨w.heap.size, 0, none⟩ (.int .i64 (K : Int))).setCell ⟨w.heap.size, 1, none⟩ (.slice (some ⟨R, 0, none⟩) a a)).setCell ⟨w.heap.size, 2, none⟩ (.int .i64 (K : Int))).setCell ⟨w.heap.size, 3, none⟩ (.slice (some ⟨R, a, none⟩) a a)).setCell ⟨w.heap.size, 4, none⟩ (.int .i64 (n : Int))).setCell ⟨w.heap.size, 5, none⟩ (.slice (some ⟨R, d, none⟩) c c))) := by
                have q := HO.out.below HB5.out (Nat.le_refl _) (fun j hj => by rw [hj]; omega)
                exact (((((q.setCell (p := ⟨w.heap.size, 0, none⟩) (Nat.le_refl _) _).setCell (p := ⟨w.heap.size, 1, none⟩) (Nat.le_refl _) _).setCell (p := ⟨w.heap.size, 2, none⟩) (Nat.le_refl _) _).setCell (p := ⟨w.heap.size, 3, none⟩) (Nat.le_refl _) _).setCell (p := ⟨w.heap.size, 4, none⟩) (Nat.le_refl _) _).setCell (p := ⟨w.heap.size, 5, none⟩) (Nat.le_refl _) _
              have HRR : Hid (RT ((((((wr.setCell ⟨w.heap.size, 0, none⟩ (.int .i64 (K : Int))).setCell ⟨w.heap.size, 1, none⟩ (.slice (some ⟨R, 0, none⟩) a a)).setCell ⟨w.heap.size, 2, none⟩ (.int .i64 (K : Int))).setCell ⟨w.heap.size, 3, none⟩ (.slice (some ⟨R, a, none⟩) a a)).setCell ⟨w.heap.size, 4, none⟩ (.int .i64 (n : Int))).setCell ⟨w.heap.size, 5, none⟩ (.slice (some ⟨R, d, none⟩) c c)) R n K N (fun _ _ => True) (fun _ _ => True)) := by
                refine HRF.out.keep ?_
                have k := fun (y : World) (o : Nat) (v : Value) => heap_set_other (w := y) (b := w.heap.size) (c := R) (j := o) (v := v) (fun e => hwR e.symm)
                rw [k, k, k, k, k, k]
              have hRw2 : w.heap.size < R := by omega
              have hLT := HLET.out
              have HLE : Hid (n * K = a ∧ n * n = c ∧ a + a = d ∧ w.heap.size < R) := ⟨hLT.1, hLT.2.1, hLT.2.2.1, hRw2⟩
              clear hLT HRF hz
              go_wp2_with fail
              exact bodyPost_ret (results_cell_row rfl _ _ w.heap.size 72 _ (0, 0) _ rfl HFin.out Try.underlying72 rfl (by rw [Try.info_tbl]; rfl)) rfl ⟨R, n, a, c, d, HMn.out, HLE.out.1, HLE.out.2.1, HLE.out.2.2.1, rfl, HBF.out, HLE.out.2.2.2, HRR.out⟩
end Go.Proofs.Ytabkhoiccjkghaa
