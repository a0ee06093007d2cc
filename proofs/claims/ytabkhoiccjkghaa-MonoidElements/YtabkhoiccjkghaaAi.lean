/- trans: Identity, Compose, Power, Check. -/
import Derived.Test.YtabkhoiccjkghaaAg
namespace Go.Proofs.Ytabkhoiccjkghaa
open Go Go.RowKit Go.Lib
set_option linter.unusedVariables false

theorem im_tb (f : Nat → Nat) (n : Nat) : im (tb f n) = upto f n := by
  funext j
  unfold upto
  by_cases h : j < n
  · rw [if_pos h, tb_im f h]
  · rw [if_neg h, im_ge (by rw [tb_len]; omega)]
/-- The images of packed words. -/
def dgl (N : Int) (g : Nat → Nat) : List Nat := tb (dg g) N.toNat
theorem mv_dgl (N : Int) (g : Nat → Nat) : mvV N.toNat (upto (dg g) N.toNat) = mvL (dgl N g) := by
  unfold mvL dgl
  rw [im_tb, tb_len]
theorem dgl_len (N : Int) (g : Nat → Nat) : (dgl N g).length = N.toNat := tb_len _ _
theorem dgl_tf {N : Int} {g : Nat → Nat} (h : okT N g) : Tf (dgl N g) := by
  obtain ⟨h1, h2, h3, h4⟩ := h
  refine ⟨by rw [dgl_len]; omega, by rw [dgl_len]; omega, ?_⟩
  intro i hi
  rw [dgl_len] at hi ⊢
  unfold dgl
  rw [tb_im _ hi]
  exact h3 i hi
theorem dgl_tr {N : Int} {g : Nat → Nat} (h : okT N g) : trV N g = trL (dgl N g) := by
  unfold trL trV
  rw [dgl_len]
  have e : ((N.toNat : Nat) : Int) = N := by have := h.1; omega
  rw [e]
  congr 1
  apply trC_congr
  intro k hk
  rw [← h.2.2.2 k hk]
  exact pk_congr (fun i hi => by unfold dgl; rw [tb_im _ hi]) k
theorem dgl_of {l : List Nat} (h : Tf l) : dgl l.length (pk (im l) l.length) = l := by
  apply im_ext (by rw [dgl_len, Int.toNat_natCast])
  intro i hi
  rw [dgl_len, Int.toNat_natCast] at hi
  unfold dgl
  rw [Int.toNat_natCast, tb_im _ hi, dg_pk h.lt64 hi]
theorem opV_ok {N : Int} {g : Nat → Nat} (h : okT N g) : opV N g = .tuple #[mvL (dgl N g), .int .i64 0] := by unfold opV; rw [if_pos h, mv_dgl]
theorem opV_bad {N : Int} {g : Nat → Nat} (h : ¬ okT N g) : opV N g = .tuple #[mvV 0 (fun _ => 0), .int .i64 130] := by unfold opV; rw [if_neg h]
/-- What seven words are. -/
def W64 (g : Nat → Nat) : Prop := ∀ k, k < 7 → g k < 18446744073709551616
theorem pk_w64 {l : List Nat} (h : Tf l) : W64 (pk (im l) l.length) := fun k _ => Nat.lt_trans (pk_lt (fun i hi => Nat.lt_trans (h.lt64 i hi) (by decide)) k) (by decide)
abbrev trZ : Value := trV 0 (fun _ => 0)

theorem TrAt.gets {w : World} {b : Nat} {N : Int} {g : Nat → Nat} (h : TrAt w b N g) : w.cell? ⟨b, 0, none⟩ = some (.int .i64 N) ∧ w.cell? ⟨b, 1, none⟩ = some (.int .u64 (g 0 : Nat)) ∧ w.cell? ⟨b, 2, none⟩ = some (.int .u64 (g 1 : Nat)) ∧ w.cell? ⟨b, 3, none⟩ = some (.int .u64 (g 2 : Nat)) ∧ w.cell? ⟨b, 4, none⟩ = some (.int .u64 (g 3 : Nat)) ∧ w.cell? ⟨b, 5, none⟩ = some (.int .u64 (g 4 : Nat)) ∧ w.cell? ⟨b, 6, none⟩ = some (.int .u64 (g 5 : Nat)) ∧ w.cell? ⟨b, 7, none⟩ = some (.int .u64 (g 6 : Nat)) :=
  ⟨h.cellN, h.cell (k := 0) (by decide), h.cell (k := 1) (by decide), h.cell (k := 2) (by decide), h.cell (k := 3) (by decide), h.cell (k := 4) (by decide), h.cell (k := 5) (by decide), h.cell (k := 6) (by decide)⟩
/-- Eight noughts are stored into a block. -/
def put8 (w : World) (b : Nat) : World := (((((((w.setCell ⟨b, 0, none⟩ (.int .i64 0)).setCell ⟨b, 1, none⟩ (.int .u64 0)).setCell ⟨b, 2, none⟩ (.int .u64 0)).setCell ⟨b, 3, none⟩ (.int .u64 0)).setCell ⟨b, 4, none⟩ (.int .u64 0)).setCell ⟨b, 5, none⟩ (.int .u64 0)).setCell ⟨b, 6, none⟩ (.int .u64 0)).setCell ⟨b, 7, none⟩ (.int .u64 0)
theorem put8_at {w : World} {b : Nat} {N : Int} {g : Nat → Nat} (h : TrAt w b N g) : TrAt (put8 w b) b 0 (fun _ => 0) := by
  unfold put8
  have h0 : TrAt (w.setCell ⟨b, 0, none⟩ (.int .i64 0)) b 0 g := heap_set_same h
  refine (((((((h0.set (k := 0) 0 (by decide)).set (k := 1) 0 (by decide)).set (k := 2) 0 (by decide)).set (k := 3) 0 (by decide)).set (k := 4) 0 (by decide)).set (k := 5) 0 (by decide)).set (k := 6) 0 (by decide)).congr ?_
  intro k hk
  rcases seven_cases hk with rfl | rfl | rfl | rfl | rfl | rfl | rfl <;> rfl
theorem put8_below {B b : Nat} {w w' : World} (h : Below B w w') (hb : B ≤ b) : Below B w (put8 w' b) :=
  (((((((h.setCell (p := ⟨b, 0, none⟩) hb _).setCell (p := ⟨b, 1, none⟩) hb _).setCell (p := ⟨b, 2, none⟩) hb _).setCell (p := ⟨b, 3, none⟩) hb _).setCell (p := ⟨b, 4, none⟩) hb _).setCell (p := ⟨b, 5, none⟩) hb _).setCell (p := ⟨b, 6, none⟩) hb _).setCell (p := ⟨b, 7, none⟩) hb _
theorem results_tr_tmp {fn : Func} {p u : Tmp} (h : fn.results = #[.cell p 42, .tmp u]) {tmps : Array Value} {b : Nat} {N : Int} {g : Nat → Nat} {w : World} (hp : tmps.getD p undef = .pointer (some ⟨b, 0, none⟩)) (hc : TrAt w b N g) :
    (results fn tmps).run Try.prog w = .ok (.tuple #[trV N g, tmps.getD u undef]) w := by
  rw [results_cell_tmp h]
  simp [hp, asAddr, lv_tr hc, Result.andThen, trV]
theorem tr_last (w : World) (N : Int) (g : Nat → Nat) : TrAt (w.alloc (.cells (trC N g) 42)) w.heap.size N g := heap_last _ _
theorem tr_z (w : World) : TrAt (w.alloc (.cells #[.int .i64 0, .int .u64 0, .int .u64 0, .int .u64 0, .int .u64 0, .int .u64 0, .int .u64 0, .int .u64 0] 42)) w.heap.size 0 (fun _ => 0) := heap_last _ _
theorem tr_z2 (w : World) (o : Obj) : TrAt ((w.alloc o).alloc (.cells #[.int .i64 0, .int .u64 0, .int .u64 0, .int .u64 0, .int .u64 0, .int .u64 0, .int .u64 0, .int .u64 0] 42)) (w.heap.size + 1) 0 (fun _ => 0) := by
  have := tr_z (w.alloc o)
  rwa [World.size_alloc] at this
theorem tr_z3 (w : World) (o o' : Obj) : TrAt (((w.alloc o).alloc o').alloc (.cells #[.int .i64 0, .int .u64 0, .int .u64 0, .int .u64 0, .int .u64 0, .int .u64 0, .int .u64 0, .int .u64 0] 42)) (w.heap.size + 1 + 1) 0 (fun _ => 0) := by
  have := tr_z2 (w.alloc o) o'
  rwa [World.size_alloc] at this

theorem open_ok (l : List Nat) (h : Tf l) (w : World) : Calls Try.prog 72 #[.agg (trC (l.length : Int) (pk (im l) l.length))] w fun e w' => e = .returned (.tuple #[.agg (mvC l.length (im l)), .int .i64 0]) ∧ Below w.heap.size w w' := by
  have := open_any l.length (pk (im l) l.length) (pk_w64 h) w
  rw [opV_ok h.okT, dgl_of h] at this
  exact this
theorem open_bad (N : Int) (g : Nat → Nat) (hg : W64 g) (h : ¬ okT N g) (w : World) : Calls Try.prog 72 #[.agg (trC N g)] w fun e w' => e = .returned (.tuple #[.agg (mvC 0 fun _ => 0), .int .i64 130]) ∧ Below w.heap.size w w' := by
  have := open_any N g hg w
  rw [opV_bad h] at this
  exact this
theorem mvz_st (w : World) : (storeCells ⟨w.heap.size, 0, none⟩ (mvC 0 fun _ => 0).toList 0).run Try.prog (w.alloc (.cells (mvC 0 fun _ => 0) 122)) = .ok () (w.alloc (.cells (mvC 0 fun _ => 0) 122)) := st_mvNew2 w 0 _
/-- What Compose answers. -/
def cmV (N : Int) (f : Nat → Nat) (M : Int) (g : Nat → Nat) : Value := if okT N f ∧ okT M g then (if N = M then .tuple #[trL (cmp (dgl N f) (dgl M g)), .int .i64 0] else .tuple #[trZ, .int .i64 1]) else .tuple #[trZ, .int .i64 130]
theorem go_on' {a b c : World} (h : Below a.heap.size a b) (k : Below b.heap.size b c) : Below a.heap.size a c := h.trans (k.mono h.size)

set_option maxHeartbeats 2000000 in
set_option maxRecDepth 100000 in
theorem compose_a (N : Int) (f : Nat → Nat) (hf : W64 f) (h : ¬ okT N f) (M : Int) (g : Nat → Nat) (w : World) :
    Calls Try.prog 71 #[.agg (trC N f), .agg (trC M g)] w fun e w' => e = .returned (.tuple #[trZ, .int .i64 130]) ∧ Below w.heap.size w w' := by
  have HZ : Hid (TrAt (((w.alloc (.cells (trC N f) 42)).alloc (.cells (trC M g) 42)).alloc (.cells #[.int .i64 0, .int .u64 0, .int .u64 0, .int .u64 0, .int .u64 0, .int .u64 0, .int .u64 0, .int .u64 0] 42)) (w.heap.size + 1 + 1) 0 (fun _ => 0)) := tr_z3 _ _ _
  have H1 : Hid ((((w.alloc (.cells (trC N f) 42)).alloc (.cells (trC M g) 42)).alloc (.cells #[.int .i64 0, .int .u64 0, .int .u64 0, .int .u64 0, .int .u64 0, .int .u64 0, .int .u64 0, .int .u64 0] 42)).heap[w.heap.size]? = some (.cells (trC N f) 42 (0, 0))) := by
    show _ = _
    rw [heap_allo (by simp <;> omega), heap_allo (by simp)]; exact heap_last _ _
  have H2 : Hid ((((w.alloc (.cells (trC N f) 42)).alloc (.cells (trC M g) 42)).alloc (.cells #[.int .i64 0, .int .u64 0, .int .u64 0, .int .u64 0, .int .u64 0, .int .u64 0, .int .u64 0, .int .u64 0] 42)).heap[w.heap.size + 1]? = some (.cells (trC M g) 42 (0, 0))) := by
    show _ = _
    rw [heap_allo (by simp)]
    have := heap_last (w.alloc (.cells (trC N f) 42)) (.cells (trC M g) 42)
    rwa [World.size_alloc] at this
  have HB0 : Hid (Below w.heap.size w (((w.alloc (.cells (trC N f) 42)).alloc (.cells (trC M g) 42)).alloc (.cells #[.int .i64 0, .int .u64 0, .int .u64 0, .int .u64 0, .int .u64 0, .int .u64 0, .int .u64 0, .int .u64 0] 42))) := (((Below.refl _ _).alloc (Nat.le_refl _) _).alloc (by simp) _).alloc (by simp <;> omega) _
  have HS0 : Hid ((((w.alloc (.cells (trC N f) 42)).alloc (.cells (trC M g) 42)).alloc (.cells #[.int .i64 0, .int .u64 0, .int .u64 0, .int .u64 0, .int .u64 0, .int .u64 0, .int .u64 0, .int .u64 0] 42)).heap.size = w.heap.size + 3) := by show _ = _; simp
  have hz := Try.zero_mv
  have hne := mvC_ne 0 fun _ => 0
  have hsz := mvC_size 0 fun _ => 0
  go_enter Try.func71, Try.ntmps71
  go_wp2_with (refine wpList_load_row rfl 42 _ rfl (w.heap.size) rfl 42 (trC N f) (0, 0) _ (H1.out) Try.underlying42 rfl (rfl) ?_)
  refine (open_bad N f hf h _).mono ?_
  rintro e w1 ⟨rfl, hB1⟩
  have HB1 : Hid (Below w.heap.size w w1) := HB0.out.trans (hB1.mono (by rw [HS0.out]; omega))
  have HZ1 : Hid (TrAt w1 (w.heap.size + 1 + 1) 0 (fun _ => 0)) := HZ.out.of (hB1.block _ (by rw [HS0.out]; omega))
  have H21 : Hid (w1.heap[w.heap.size + 1]? = some (.cells (trC M g) 42 (0, 0))) := (hB1.block _ (by rw [HS0.out]; omega)).trans H2.out
  have HS1 : Hid (w.heap.size + 3 ≤ w1.heap.size) := by have := hB1.size; rw [HS0.out] at this; exact this
  clear hB1
  have hst := mvz_st w1
  have HZ2 : Hid (TrAt (w1.alloc (.cells (mvC 0 fun _ => 0) 122)) (w.heap.size + 1 + 1) 0 (fun _ => 0)) := HZ1.out.of (heap_allo (by have := HS1.out; omega) _)
  obtain ⟨c0, c1, c2, c3, c4, c5, c6, c7⟩ := (HZ2.out).gets
  have f0 := (HZ2.out).frozen 0
  have f1 := (HZ2.out).frozen 1
  have f2 := (HZ2.out).frozen 2
  have f3 := (HZ2.out).frozen 3
  have f4 := (HZ2.out).frozen 4
  have f5 := (HZ2.out).frozen 5
  have f6 := (HZ2.out).frozen 6
  have f7 := (HZ2.out).frozen 7
  go_wp2_with fail
  exact bodyPost_ret (results_tr_tmp rfl rfl (put8_at HZ2.out)) rfl ⟨rfl, put8_below (HB1.out.alloc HB1.out.size _) (by omega)⟩

set_option maxHeartbeats 2000000 in
set_option maxRecDepth 100000 in
theorem compose_b (l : List Nat) (hl : Tf l) (M : Int) (g : Nat → Nat) (hg : W64 g) (h : ¬ okT M g) (w : World) :
    Calls Try.prog 71 #[.agg (trC l.length (pk (im l) l.length)), .agg (trC M g)] w fun e w' => e = .returned (.tuple #[trZ, .int .i64 130]) ∧ Below w.heap.size w w' := by
  have HZ : Hid (TrAt (((w.alloc (.cells (trC l.length (pk (im l) l.length)) 42)).alloc (.cells (trC M g) 42)).alloc (.cells #[.int .i64 0, .int .u64 0, .int .u64 0, .int .u64 0, .int .u64 0, .int .u64 0, .int .u64 0, .int .u64 0] 42)) (w.heap.size + 1 + 1) 0 (fun _ => 0)) := tr_z3 _ _ _
  have H1 : Hid ((((w.alloc (.cells (trC l.length (pk (im l) l.length)) 42)).alloc (.cells (trC M g) 42)).alloc (.cells #[.int .i64 0, .int .u64 0, .int .u64 0, .int .u64 0, .int .u64 0, .int .u64 0, .int .u64 0, .int .u64 0] 42)).heap[w.heap.size]? = some (.cells (trC l.length (pk (im l) l.length)) 42 (0, 0))) := by
    show _ = _
    rw [heap_allo (by simp <;> omega), heap_allo (by simp)]; exact heap_last _ _
  have H2 : Hid ((((w.alloc (.cells (trC l.length (pk (im l) l.length)) 42)).alloc (.cells (trC M g) 42)).alloc (.cells #[.int .i64 0, .int .u64 0, .int .u64 0, .int .u64 0, .int .u64 0, .int .u64 0, .int .u64 0, .int .u64 0] 42)).heap[w.heap.size + 1]? = some (.cells (trC M g) 42 (0, 0))) := by
    show _ = _
    rw [heap_allo (by simp)]
    have := heap_last (w.alloc (.cells (trC l.length (pk (im l) l.length)) 42)) (.cells (trC M g) 42)
    rwa [World.size_alloc] at this
  have HB0 : Hid (Below w.heap.size w (((w.alloc (.cells (trC l.length (pk (im l) l.length)) 42)).alloc (.cells (trC M g) 42)).alloc (.cells #[.int .i64 0, .int .u64 0, .int .u64 0, .int .u64 0, .int .u64 0, .int .u64 0, .int .u64 0, .int .u64 0] 42))) := (((Below.refl _ _).alloc (Nat.le_refl _) _).alloc (by simp) _).alloc (by simp <;> omega) _
  have HS0 : Hid ((((w.alloc (.cells (trC l.length (pk (im l) l.length)) 42)).alloc (.cells (trC M g) 42)).alloc (.cells #[.int .i64 0, .int .u64 0, .int .u64 0, .int .u64 0, .int .u64 0, .int .u64 0, .int .u64 0, .int .u64 0] 42)).heap.size = w.heap.size + 3) := by show _ = _; simp
  have hz := Try.zero_mv
  have hne := mvC_ne 0 fun _ => 0
  have hsz := mvC_size 0 fun _ => 0
  go_enter Try.func71, Try.ntmps71
  go_wp2_with (refine wpList_load_row rfl 42 _ rfl (w.heap.size) rfl 42 (trC l.length (pk (im l) l.length)) (0, 0) _ (H1.out) Try.underlying42 rfl (rfl) ?_)
  refine (open_ok l hl _).mono ?_
  rintro e w1 ⟨rfl, hB1⟩
  have HB1 : Hid (Below w.heap.size w w1) := HB0.out.trans (hB1.mono (by rw [HS0.out]; omega))
  have HZ1 : Hid (TrAt w1 (w.heap.size + 1 + 1) 0 (fun _ => 0)) := HZ.out.of (hB1.block _ (by rw [HS0.out]; omega))
  have H21 : Hid (w1.heap[w.heap.size + 1]? = some (.cells (trC M g) 42 (0, 0))) := (hB1.block _ (by rw [HS0.out]; omega)).trans H2.out
  have HS1 : Hid (w.heap.size + 3 ≤ w1.heap.size) := by have := hB1.size; rw [HS0.out] at this; exact this
  clear hB1
  have hst := st_mvNew2 w1 l.length (im l)
  have hszl := mvC_size l.length (im l)
  have HZ2 : Hid (TrAt (w1.alloc (.cells (mvC l.length (im l)) 122)) (w.heap.size + 1 + 1) 0 (fun _ => 0)) := HZ1.out.of (heap_allo (by have := HS1.out; omega) _)
  have H22 : Hid ((w1.alloc (.cells (mvC l.length (im l)) 122)).heap[w.heap.size + 1]? = some (.cells (trC M (g)) 42 (0, 0))) := (heap_allo (by have := HS1.out; omega) _).trans H21.out
  have HM1 : Hid (MvAt (w1.alloc (.cells (mvC l.length (im l)) 122)) w1.heap.size l.length (im l)) := mv_last _ _ _
  have HB2 : Hid (Below w.heap.size w (w1.alloc (.cells (mvC l.length (im l)) 122))) := HB1.out.alloc HB1.out.size _
  go_wp2_with (refine wpList_load_row rfl 42 _ rfl (w.heap.size + 1) rfl 42 (trC M (g)) (0, 0) _ (H22.out) Try.underlying42 rfl (rfl) ?_)
  refine (open_bad M g hg h _).mono ?_
  rintro e w2 ⟨rfl, hB2⟩
  have HB3 : Hid (Below w.heap.size w w2) := HB2.out.trans (hB2.mono HB2.out.size)
  have HZ3 : Hid (TrAt w2 (w.heap.size + 1 + 1) 0 (fun _ => 0)) := HZ2.out.of (hB2.block _ HZ2.out.lt)
  have HM2 : Hid (MvAt w2 w1.heap.size l.length (im l)) := HM1.out.of (hB2.block _ HM1.out.lt)
  have HS2 : Hid (w1.heap.size < w2.heap.size) := Nat.lt_of_lt_of_le HM1.out.lt hB2.size
  clear hB2 hst
  have hst := mvz_st w2
  have HZ4 : Hid (TrAt (w2.alloc (.cells (mvC 0 fun _ => 0) 122)) (w.heap.size + 1 + 1) 0 (fun _ => 0)) := HZ3.out.of (heap_allo HZ3.out.lt _)
  obtain ⟨c0, c1, c2, c3, c4, c5, c6, c7⟩ := (HZ4.out).gets
  have f0 := (HZ4.out).frozen 0
  have f1 := (HZ4.out).frozen 1
  have f2 := (HZ4.out).frozen 2
  have f3 := (HZ4.out).frozen 3
  have f4 := (HZ4.out).frozen 4
  have f5 := (HZ4.out).frozen 5
  have f6 := (HZ4.out).frozen 6
  have f7 := (HZ4.out).frozen 7
  go_wp2_with fail
  exact bodyPost_ret (results_tr_tmp rfl rfl (put8_at HZ4.out)) rfl ⟨rfl, put8_below (HB3.out.alloc HB3.out.size _) (by omega)⟩

set_option maxHeartbeats 2000000 in
set_option maxRecDepth 100000 in
theorem compose_c (l m : List Nat) (hl : Tf l) (hm : Tf m) (h : l.length ≠ m.length) (w : World) :
    Calls Try.prog 71 #[.agg (trC l.length (pk (im l) l.length)), .agg (trC m.length (pk (im m) m.length))] w fun e w' => e = .returned (.tuple #[trZ, .int .i64 1]) ∧ Below w.heap.size w w' := by
  have HE : Hid (l.length ≠ m.length) := h
  clear h
  have HZ : Hid (TrAt (((w.alloc (.cells (trC l.length (pk (im l) l.length)) 42)).alloc (.cells (trC m.length (pk (im m) m.length)) 42)).alloc (.cells #[.int .i64 0, .int .u64 0, .int .u64 0, .int .u64 0, .int .u64 0, .int .u64 0, .int .u64 0, .int .u64 0] 42)) (w.heap.size + 1 + 1) 0 (fun _ => 0)) := tr_z3 _ _ _
  have H1 : Hid ((((w.alloc (.cells (trC l.length (pk (im l) l.length)) 42)).alloc (.cells (trC m.length (pk (im m) m.length)) 42)).alloc (.cells #[.int .i64 0, .int .u64 0, .int .u64 0, .int .u64 0, .int .u64 0, .int .u64 0, .int .u64 0, .int .u64 0] 42)).heap[w.heap.size]? = some (.cells (trC l.length (pk (im l) l.length)) 42 (0, 0))) := by
    show _ = _
    rw [heap_allo (by simp <;> omega), heap_allo (by simp)]; exact heap_last _ _
  have H2 : Hid ((((w.alloc (.cells (trC l.length (pk (im l) l.length)) 42)).alloc (.cells (trC m.length (pk (im m) m.length)) 42)).alloc (.cells #[.int .i64 0, .int .u64 0, .int .u64 0, .int .u64 0, .int .u64 0, .int .u64 0, .int .u64 0, .int .u64 0] 42)).heap[w.heap.size + 1]? = some (.cells (trC m.length (pk (im m) m.length)) 42 (0, 0))) := by
    show _ = _
    rw [heap_allo (by simp)]
    have := heap_last (w.alloc (.cells (trC l.length (pk (im l) l.length)) 42)) (.cells (trC m.length (pk (im m) m.length)) 42)
    rwa [World.size_alloc] at this
  have HB0 : Hid (Below w.heap.size w (((w.alloc (.cells (trC l.length (pk (im l) l.length)) 42)).alloc (.cells (trC m.length (pk (im m) m.length)) 42)).alloc (.cells #[.int .i64 0, .int .u64 0, .int .u64 0, .int .u64 0, .int .u64 0, .int .u64 0, .int .u64 0, .int .u64 0] 42))) := (((Below.refl _ _).alloc (Nat.le_refl _) _).alloc (by simp) _).alloc (by simp <;> omega) _
  have HS0 : Hid ((((w.alloc (.cells (trC l.length (pk (im l) l.length)) 42)).alloc (.cells (trC m.length (pk (im m) m.length)) 42)).alloc (.cells #[.int .i64 0, .int .u64 0, .int .u64 0, .int .u64 0, .int .u64 0, .int .u64 0, .int .u64 0, .int .u64 0] 42)).heap.size = w.heap.size + 3) := by show _ = _; simp
  have hz := Try.zero_mv
  have hne := mvC_ne 0 fun _ => 0
  have hsz := mvC_size 0 fun _ => 0
  go_enter Try.func71, Try.ntmps71
  go_wp2_with (refine wpList_load_row rfl 42 _ rfl (w.heap.size) rfl 42 (trC l.length (pk (im l) l.length)) (0, 0) _ (H1.out) Try.underlying42 rfl (rfl) ?_)
  refine (open_ok l hl _).mono ?_
  rintro e w1 ⟨rfl, hB1⟩
  have HB1 : Hid (Below w.heap.size w w1) := HB0.out.trans (hB1.mono (by rw [HS0.out]; omega))
  have HZ1 : Hid (TrAt w1 (w.heap.size + 1 + 1) 0 (fun _ => 0)) := HZ.out.of (hB1.block _ (by rw [HS0.out]; omega))
  have H21 : Hid (w1.heap[w.heap.size + 1]? = some (.cells (trC m.length (pk (im m) m.length)) 42 (0, 0))) := (hB1.block _ (by rw [HS0.out]; omega)).trans H2.out
  have HS1 : Hid (w.heap.size + 3 ≤ w1.heap.size) := by have := hB1.size; rw [HS0.out] at this; exact this
  clear hB1
  have hst := st_mvNew2 w1 l.length (im l)
  have hszl := mvC_size l.length (im l)
  have HZ2 : Hid (TrAt (w1.alloc (.cells (mvC l.length (im l)) 122)) (w.heap.size + 1 + 1) 0 (fun _ => 0)) := HZ1.out.of (heap_allo (by have := HS1.out; omega) _)
  have H22 : Hid ((w1.alloc (.cells (mvC l.length (im l)) 122)).heap[w.heap.size + 1]? = some (.cells (trC m.length (pk (im m) m.length)) 42 (0, 0))) := (heap_allo (by have := HS1.out; omega) _).trans H21.out
  have HM1 : Hid (MvAt (w1.alloc (.cells (mvC l.length (im l)) 122)) w1.heap.size l.length (im l)) := mv_last _ _ _
  have HB2 : Hid (Below w.heap.size w (w1.alloc (.cells (mvC l.length (im l)) 122))) := HB1.out.alloc HB1.out.size _
  go_wp2_with (refine wpList_load_row rfl 42 _ rfl (w.heap.size + 1) rfl 42 (trC m.length (pk (im m) m.length)) (0, 0) _ (H22.out) Try.underlying42 rfl (rfl) ?_)
  refine (open_ok m hm _).mono ?_
  rintro e w2 ⟨rfl, hB2⟩
  have HB3 : Hid (Below w.heap.size w w2) := HB2.out.trans (hB2.mono HB2.out.size)
  have HZ3 : Hid (TrAt w2 (w.heap.size + 1 + 1) 0 (fun _ => 0)) := HZ2.out.of (hB2.block _ HZ2.out.lt)
  have HM2 : Hid (MvAt w2 w1.heap.size l.length (im l)) := HM1.out.of (hB2.block _ HM1.out.lt)
  have HS2 : Hid (w1.heap.size < w2.heap.size) := Nat.lt_of_lt_of_le HM1.out.lt hB2.size
  clear hB2 hst
  have hst := st_mvNew2 w2 m.length (im m)
  have hszm := mvC_size m.length (im m)
  have hmn := mvC_n' m.length (im m)
  have HZ4 : Hid (TrAt (w2.alloc (.cells (mvC m.length (im m)) 122)) (w.heap.size + 1 + 1) 0 (fun _ => 0)) := HZ3.out.of (heap_allo HZ3.out.lt _)
  have HM3 : Hid (MvAt (w2.alloc (.cells (mvC m.length (im m)) 122)) w1.heap.size l.length (im l)) := HM2.out.of (heap_allo HM2.out.lt _)
  have HM4 : Hid (MvAt (w2.alloc (.cells (mvC m.length (im m)) 122)) w2.heap.size m.length (im m)) := mv_last _ _ _
  have HB4 : Hid (Below w.heap.size w (w2.alloc (.cells (mvC m.length (im m)) 122))) := HB3.out.alloc HB3.out.size _
  have hc1 := HM3.out.cellN
  have hc2 := HM4.out.cellN
  obtain ⟨c0, c1, c2, c3, c4, c5, c6, c7⟩ := (HZ4.out).gets
  have f0 := (HZ4.out).frozen 0
  have f1 := (HZ4.out).frozen 1
  have f2 := (HZ4.out).frozen 2
  have f3 := (HZ4.out).frozen 3
  have f4 := (HZ4.out).frozen 4
  have f5 := (HZ4.out).frozen 5
  have f6 := (HZ4.out).frozen 6
  have f7 := (HZ4.out).frozen 7
  have hI : ((l.length : Int) != (m.length : Int)) = true := by have := HE.out; rw [bne_iff_ne]; omega
  have hI2 : ¬ ((l.length : Int) = (m.length : Int)) := by have := HE.out; omega
  go_wp2_with fail
  exact bodyPost_ret (results_tr_tmp rfl rfl (put8_at HZ4.out)) rfl ⟨rfl, put8_below HB4.out (by omega)⟩

set_option maxHeartbeats 2000000 in
set_option maxRecDepth 100000 in
theorem compose_d (l m : List Nat) (hl : Tf l) (hm : Tf m) (h : l.length = m.length) (w : World) :
    Calls Try.prog 71 #[.agg (trC l.length (pk (im l) l.length)), .agg (trC m.length (pk (im m) m.length))] w fun e w' => e = .returned (.tuple #[trL (cmp l m), .int .i64 0]) ∧ Below w.heap.size w w' := by
  have HE : Hid (l.length = m.length) := h
  clear h
  have HZ : Hid (TrAt (((w.alloc (.cells (trC l.length (pk (im l) l.length)) 42)).alloc (.cells (trC m.length (pk (im m) m.length)) 42)).alloc (.cells #[.int .i64 0, .int .u64 0, .int .u64 0, .int .u64 0, .int .u64 0, .int .u64 0, .int .u64 0, .int .u64 0] 42)) (w.heap.size + 1 + 1) 0 (fun _ => 0)) := tr_z3 _ _ _
  have H1 : Hid ((((w.alloc (.cells (trC l.length (pk (im l) l.length)) 42)).alloc (.cells (trC m.length (pk (im m) m.length)) 42)).alloc (.cells #[.int .i64 0, .int .u64 0, .int .u64 0, .int .u64 0, .int .u64 0, .int .u64 0, .int .u64 0, .int .u64 0] 42)).heap[w.heap.size]? = some (.cells (trC l.length (pk (im l) l.length)) 42 (0, 0))) := by
    show _ = _
    rw [heap_allo (by simp <;> omega), heap_allo (by simp)]; exact heap_last _ _
  have H2 : Hid ((((w.alloc (.cells (trC l.length (pk (im l) l.length)) 42)).alloc (.cells (trC m.length (pk (im m) m.length)) 42)).alloc (.cells #[.int .i64 0, .int .u64 0, .int .u64 0, .int .u64 0, .int .u64 0, .int .u64 0, .int .u64 0, .int .u64 0] 42)).heap[w.heap.size + 1]? = some (.cells (trC m.length (pk (im m) m.length)) 42 (0, 0))) := by
    show _ = _
    rw [heap_allo (by simp)]
    have := heap_last (w.alloc (.cells (trC l.length (pk (im l) l.length)) 42)) (.cells (trC m.length (pk (im m) m.length)) 42)
    rwa [World.size_alloc] at this
  have HB0 : Hid (Below w.heap.size w (((w.alloc (.cells (trC l.length (pk (im l) l.length)) 42)).alloc (.cells (trC m.length (pk (im m) m.length)) 42)).alloc (.cells #[.int .i64 0, .int .u64 0, .int .u64 0, .int .u64 0, .int .u64 0, .int .u64 0, .int .u64 0, .int .u64 0] 42))) := (((Below.refl _ _).alloc (Nat.le_refl _) _).alloc (by simp) _).alloc (by simp <;> omega) _
  have HS0 : Hid ((((w.alloc (.cells (trC l.length (pk (im l) l.length)) 42)).alloc (.cells (trC m.length (pk (im m) m.length)) 42)).alloc (.cells #[.int .i64 0, .int .u64 0, .int .u64 0, .int .u64 0, .int .u64 0, .int .u64 0, .int .u64 0, .int .u64 0] 42)).heap.size = w.heap.size + 3) := by show _ = _; simp
  have hz := Try.zero_mv
  have hne := mvC_ne 0 fun _ => 0
  have hsz := mvC_size 0 fun _ => 0
  go_enter Try.func71, Try.ntmps71
  go_wp2_with (refine wpList_load_row rfl 42 _ rfl (w.heap.size) rfl 42 (trC l.length (pk (im l) l.length)) (0, 0) _ (H1.out) Try.underlying42 rfl (rfl) ?_)
  refine (open_ok l hl _).mono ?_
  rintro e w1 ⟨rfl, hB1⟩
  have HB1 : Hid (Below w.heap.size w w1) := HB0.out.trans (hB1.mono (by rw [HS0.out]; omega))
  have HZ1 : Hid (TrAt w1 (w.heap.size + 1 + 1) 0 (fun _ => 0)) := HZ.out.of (hB1.block _ (by rw [HS0.out]; omega))
  have H21 : Hid (w1.heap[w.heap.size + 1]? = some (.cells (trC m.length (pk (im m) m.length)) 42 (0, 0))) := (hB1.block _ (by rw [HS0.out]; omega)).trans H2.out
  have HS1 : Hid (w.heap.size + 3 ≤ w1.heap.size) := by have := hB1.size; rw [HS0.out] at this; exact this
  clear hB1
  have hst := st_mvNew2 w1 l.length (im l)
  have hszl := mvC_size l.length (im l)
  have HZ2 : Hid (TrAt (w1.alloc (.cells (mvC l.length (im l)) 122)) (w.heap.size + 1 + 1) 0 (fun _ => 0)) := HZ1.out.of (heap_allo (by have := HS1.out; omega) _)
  have H22 : Hid ((w1.alloc (.cells (mvC l.length (im l)) 122)).heap[w.heap.size + 1]? = some (.cells (trC m.length (pk (im m) m.length)) 42 (0, 0))) := (heap_allo (by have := HS1.out; omega) _).trans H21.out
  have HM1 : Hid (MvAt (w1.alloc (.cells (mvC l.length (im l)) 122)) w1.heap.size l.length (im l)) := mv_last _ _ _
  have HB2 : Hid (Below w.heap.size w (w1.alloc (.cells (mvC l.length (im l)) 122))) := HB1.out.alloc HB1.out.size _
  go_wp2_with (refine wpList_load_row rfl 42 _ rfl (w.heap.size + 1) rfl 42 (trC m.length (pk (im m) m.length)) (0, 0) _ (H22.out) Try.underlying42 rfl (rfl) ?_)
  refine (open_ok m hm _).mono ?_
  rintro e w2 ⟨rfl, hB2⟩
  have HB3 : Hid (Below w.heap.size w w2) := HB2.out.trans (hB2.mono HB2.out.size)
  have HZ3 : Hid (TrAt w2 (w.heap.size + 1 + 1) 0 (fun _ => 0)) := HZ2.out.of (hB2.block _ HZ2.out.lt)
  have HM2 : Hid (MvAt w2 w1.heap.size l.length (im l)) := HM1.out.of (hB2.block _ HM1.out.lt)
  have HS2 : Hid (w1.heap.size < w2.heap.size) := Nat.lt_of_lt_of_le HM1.out.lt hB2.size
  clear hB2 hst
  have hst := st_mvNew2 w2 m.length (im m)
  have hszm := mvC_size m.length (im m)
  have hmn := mvC_n' m.length (im m)
  have HZ4 : Hid (TrAt (w2.alloc (.cells (mvC m.length (im m)) 122)) (w.heap.size + 1 + 1) 0 (fun _ => 0)) := HZ3.out.of (heap_allo HZ3.out.lt _)
  have HM3 : Hid (MvAt (w2.alloc (.cells (mvC m.length (im m)) 122)) w1.heap.size l.length (im l)) := HM2.out.of (heap_allo HM2.out.lt _)
  have HM4 : Hid (MvAt (w2.alloc (.cells (mvC m.length (im m)) 122)) w2.heap.size m.length (im m)) := mv_last _ _ _
  have HB4 : Hid (Below w.heap.size w (w2.alloc (.cells (mvC m.length (im m)) 122))) := HB3.out.alloc HB3.out.size _
  have hc1 := HM3.out.cellN
  have hc2 := HM4.out.cellN
  have hI : ((l.length : Int) != (m.length : Int)) = false := by have := HE.out; rw [bne_eq_false_iff_eq]; omega
  go_wp2_with (first
    | refine wpList_load_row rfl 122 _ rfl (w1.heap.size) rfl 122 (mvC l.length (im l)) (0, 0) _ (HM3.out) Try.underlying122 rfl (inf_mv _ _) ?_
    | refine wpList_load_row rfl 122 _ rfl (w2.heap.size) rfl 122 (mvC m.length (im m)) (0, 0) _ (HM4.out) Try.underlying122 rfl (inf_mv _ _) ?_)
  refine (then_any l.length m.length (im l) (im m) hl.le hl.lt64 _).mono ?_
  rintro e w3 ⟨rfl, hB3⟩
  have HB5 : Hid (Below w.heap.size w w3) := HB4.out.trans (hB3.mono HB4.out.size)
  have HZ5 : Hid (TrAt w3 (w.heap.size + 1 + 1) 0 (fun _ => 0)) := HZ4.out.of (hB3.block _ HZ4.out.lt)
  clear hB3
  go_wp2_with fail
  refine (pack_any l.length (upto (fun i => im m (im l i)) l.length) hl.le (fun i hi => by
    unfold upto
    rw [if_pos hi]
    exact hm.lt64 _ (HE.out ▸ hl.lt i hi)) w3).mono ?_
  rintro e w4 ⟨rfl, hB4⟩
  have HB6 : Hid (Below w.heap.size w w4) := HB5.out.trans (hB4.mono HB5.out.size)
  have HZ6 : Hid (TrAt w4 (w.heap.size + 1 + 1) 0 (fun _ => 0)) := HZ5.out.of (hB4.block _ HZ5.out.lt)
  have hs := st_tr (M := (l.length : Int)) (g := pk (upto (fun i => im m (im l i)) l.length) l.length) HZ6.out
  clear hB4
  unfold trV
  go_wp2_with fail
  refine bodyPost_ret (results_tr_tmp rfl rfl HZ6.out.row) rfl ⟨?_, below_row HB6.out (by omega)⟩
  have e : trV l.length (pk (upto (fun i => im m (im l i)) l.length) l.length) = trL (cmp l m) := by
    unfold trL trV
    rw [cmp_len]
    refine congrArg Value.agg (trC_congr ?_)
    intro k _
    apply pk_congr
    intro i hi
    unfold upto
    rw [if_pos hi, cmp_im _ _ hi]
  rw [← e]
  rfl

theorem compose_any (N : Int) (f : Nat → Nat) (hf : W64 f) (M : Int) (g : Nat → Nat) (hg : W64 g) (w : World) :
    Calls Try.prog 71 #[trV N f, trV M g] w fun e w' => e = .returned (cmV N f M g) ∧ Below w.heap.size w w' := by
  by_cases h1 : okT N f
  · have t1 := dgl_tf h1
    have n1 := dgl_len N f
    rw [dgl_tr h1]
    by_cases h2 : okT M g
    · have t2 := dgl_tf h2
      have n2 := dgl_len M g
      rw [dgl_tr h2]
      have p1 := h1.1
      have p2 := h2.1
      by_cases h3 : N = M
      · have e : cmV N f M g = .tuple #[trL (cmp (dgl N f) (dgl M g)), .int .i64 0] := by unfold cmV; rw [if_pos ⟨h1, h2⟩, if_pos h3]
        rw [e]
        exact compose_d _ _ t1 t2 (by rw [n1, n2, h3]) w
      · have e : cmV N f M g = .tuple #[trZ, .int .i64 1] := by unfold cmV; rw [if_pos ⟨h1, h2⟩, if_neg h3]
        rw [e]
        exact compose_c _ _ t1 t2 (by rw [n1, n2]; omega) w
    · have e : cmV N f M g = .tuple #[trZ, .int .i64 130] := by unfold cmV; rw [if_neg (fun q => h2 q.2)]
      rw [e]
      exact compose_b _ t1 M g hg h2 w
  · have e : cmV N f M g = .tuple #[trZ, .int .i64 130] := by unfold cmV; rw [if_neg (fun q => h1 q.1)]
    rw [e]
    exact compose_a N f hf h1 M g w

end Go.Proofs.Ytabkhoiccjkghaa
