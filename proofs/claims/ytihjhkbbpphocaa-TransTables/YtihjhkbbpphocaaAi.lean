/- trans: Identity, Compose, Power, Check. -/
import Derived.Test.YtihjhkbbpphocaaAg
namespace Go.Proofs.Ytihjhkbbpphocaa
open Go Go.RowKit Go.Lib
set_option linter.unusedVariables false

theorem im_tb (f : Nat → Nat) (n : Nat) : im (tb f n) = upto f n := by
  funext j
  unfold upto
  by_cases h : j < n
  · rw [if_pos h, tb_im f h]
  · rw [if_neg h, im_ge (by rw [tb_len]; omega)]
/-- The images of packed words. -/
def dgl (N : Int) (g : Nat → Nat) : List Nat := tb (dg g) N.toNat
theorem mv_dgl (N : Int) (g : Nat → Nat) : mvV N.toNat (upto (dg g) N.toNat) = mvL (dgl N g) := by
  unfold mvL dgl
  rw [im_tb, tb_len]
theorem dgl_len (N : Int) (g : Nat → Nat) : (dgl N g).length = N.toNat := tb_len _ _
theorem dgl_tf {N : Int} {g : Nat → Nat} (h : okT N g) : Tf (dgl N g) := by
  obtain ⟨h1, h2, h3, h4⟩ := h
  refine ⟨by rw [dgl_len]; omega, by rw [dgl_len]; omega, ?_⟩
  intro i hi
  rw [dgl_len] at hi ⊢
  unfold dgl
  rw [tb_im _ hi]
  exact h3 i hi
theorem dgl_tr {N : Int} {g : Nat → Nat} (h : okT N g) : trV N g = trL (dgl N g) := by
  unfold trL trV
  rw [dgl_len]
  have e : ((N.toNat : Nat) : Int) = N := by have := h.1; omega
  rw [e]
  congr 1
  apply trC_congr
  intro k hk
  rw [← h.2.2.2 k hk]
  exact pk_congr (fun i hi => by unfold dgl; rw [tb_im _ hi]) k
theorem dgl_of {l : List Nat} (h : Tf l) : dgl l.length (pk (im l) l.length) = l := by
  apply im_ext (by rw [dgl_len, Int.toNat_natCast])
  intro i hi
  rw [dgl_len, Int.toNat_natCast] at hi
  unfold dgl
  rw [Int.toNat_natCast, tb_im _ hi, dg_pk h.lt64 hi]
theorem opV_ok {N : Int} {g : Nat → Nat} (h : okT N g) : opV N g = .tuple #[mvL (dgl N g), .int .i64 0] := by unfold opV; rw [if_pos h, mv_dgl]
theorem opV_bad {N : Int} {g : Nat → Nat} (h : ¬ okT N g) : opV N g = .tuple #[mvV 0 (fun _ => 0), .int .i64 130] := by unfold opV; rw [if_neg h]
/-- What seven words are. -/
def W64 (g : Nat → Nat) : Prop := ∀ k, k < 7 → g k < 18446744073709551616
theorem pk_w64 {l : List Nat} (h : Tf l) : W64 (pk (im l) l.length) := fun k _ => Nat.lt_trans (pk_lt (fun i hi => Nat.lt_trans (h.lt64 i hi) (by decide)) k) (by decide)
abbrev trZ : Value := trV 0 (fun _ => 0)

theorem TrAt.gets {w : World} {b : Nat} {N : Int} {g : Nat → Nat} (h : TrAt w b N g) : w.cell? ⟨b, 0, none⟩ = some (.int .i64 N) ∧ w.cell? ⟨b, 1, none⟩ = some (.int .u64 (g 0 : Nat)) ∧ w.cell? ⟨b, 2, none⟩ = some (.int .u64 (g 1 : Nat)) ∧ w.cell? ⟨b, 3, none⟩ = some (.int .u64 (g 2 : Nat)) ∧ w.cell? ⟨b, 4, none⟩ = some (.int .u64 (g 3 : Nat)) ∧ w.cell? ⟨b, 5, none⟩ = some (.int .u64 (g 4 : Nat)) ∧ w.cell? ⟨b, 6, none⟩ = some (.int .u64 (g 5 : Nat)) ∧ w.cell? ⟨b, 7, none⟩ = some (.int .u64 (g 6 : Nat)) :=
  ⟨h.cellN, h.cell (k := 0) (by decide), h.cell (k := 1) (by decide), h.cell (k := 2) (by decide), h.cell (k := 3) (by decide), h.cell (k := 4) (by decide), h.cell (k := 5) (by decide), h.cell (k := 6) (by decide)⟩
/-- Eight noughts are stored into a block. -/
def put8 (w : World) (b : Nat) : World := (((((((w.setCell ⟨b, 0, none⟩ (.int .i64 0)).setCell ⟨b, 1, none⟩ (.int .u64 0)).setCell ⟨b, 2, none⟩ (.int .u64 0)).setCell ⟨b, 3, none⟩ (.int .u64 0)).setCell ⟨b, 4, none⟩ (.int .u64 0)).setCell ⟨b, 5, none⟩ (.int .u64 0)).setCell ⟨b, 6, none⟩ (.int .u64 0)).setCell ⟨b, 7, none⟩ (.int .u64 0)
theorem put8_at {w : World} {b : Nat} {N : Int} {g : Nat → Nat} (h : TrAt w b N g) : TrAt (put8 w b) b 0 (fun _ => 0) := by
  unfold put8
  have h0 : TrAt (w.setCell ⟨b, 0, none⟩ (.int .i64 0)) b 0 g := heap_set_same h
  refine (((((((h0.set (k := 0) 0 (by decide)).set (k := 1) 0 (by decide)).set (k := 2) 0 (by decide)).set (k := 3) 0 (by decide)).set (k := 4) 0 (by decide)).set (k := 5) 0 (by decide)).set (k := 6) 0 (by decide)).congr ?_
  intro k hk
  rcases seven_cases hk with rfl | rfl | rfl | rfl | rfl | rfl | rfl <;> rfl
theorem put8_below {B b : Nat} {w w' : World} (h : Below B w w') (hb : B ≤ b) : Below B w (put8 w' b) :=
  (((((((h.setCell (p := ⟨b, 0, none⟩) hb _).setCell (p := ⟨b, 1, none⟩) hb _).setCell (p := ⟨b, 2, none⟩) hb _).setCell (p := ⟨b, 3, none⟩) hb _).setCell (p := ⟨b, 4, none⟩) hb _).setCell (p := ⟨b, 5, none⟩) hb _).setCell (p := ⟨b, 6, none⟩) hb _).setCell (p := ⟨b, 7, none⟩) hb _
theorem results_tr_tmp {fn : Func} {p u : Tmp} (h : fn.results = #[.cell p 26, .tmp u]) {tmps : Array Value} {b : Nat} {N : Int} {g : Nat → Nat} {w : World} (hp : tmps.getD p undef = .pointer (some ⟨b, 0, none⟩)) (hc : TrAt w b N g) :
    (results fn tmps).run Try.prog w = .ok (.tuple #[trV N g, tmps.getD u undef]) w := by
  rw [results_cell_tmp h]
  simp [hp, asAddr, lv_tr hc, Result.andThen, trV]
theorem tr_last (w : World) (N : Int) (g : Nat → Nat) : TrAt (w.alloc (.cells (trC N g) 26)) w.heap.size N g := heap_last _ _
theorem tr_z (w : World) : TrAt (w.alloc (.cells #[.int .i64 0, .int .u64 0, .int .u64 0, .int .u64 0, .int .u64 0, .int .u64 0, .int .u64 0, .int .u64 0] 26)) w.heap.size 0 (fun _ => 0) := heap_last _ _
theorem tr_z2 (w : World) (o : Obj) : TrAt ((w.alloc o).alloc (.cells #[.int .i64 0, .int .u64 0, .int .u64 0, .int .u64 0, .int .u64 0, .int .u64 0, .int .u64 0, .int .u64 0] 26)) (w.heap.size + 1) 0 (fun _ => 0) := by
  have := tr_z (w.alloc o)
  rwa [World.size_alloc] at this
theorem tr_z3 (w : World) (o o' : Obj) : TrAt (((w.alloc o).alloc o').alloc (.cells #[.int .i64 0, .int .u64 0, .int .u64 0, .int .u64 0, .int .u64 0, .int .u64 0, .int .u64 0, .int .u64 0] 26)) (w.heap.size + 1 + 1) 0 (fun _ => 0) := by
  have := tr_z2 (w.alloc o) o'
  rwa [World.size_alloc] at this

theorem open_ok (l : List Nat) (h : Tf l) (w : World) : Calls Try.prog 38 #[.agg (trC (l.length : Int) (pk (im l) l.length))] w fun e w' => e = .returned (.tuple #[.agg (mvC l.length (im l)), .int .i64 0]) ∧ Below w.heap.size w w' := by
  have := open_any l.length (pk (im l) l.length) (pk_w64 h) w
  rw [opV_ok h.okT, dgl_of h] at this
  exact this
theorem open_bad (N : Int) (g : Nat → Nat) (hg : W64 g) (h : ¬ okT N g) (w : World) : Calls Try.prog 38 #[.agg (trC N g)] w fun e w' => e = .returned (.tuple #[.agg (mvC 0 fun _ => 0), .int .i64 130]) ∧ Below w.heap.size w w' := by
  have := open_any N g hg w
  rw [opV_bad h] at this
  exact this
theorem mvz_st (w : World) : (storeCells ⟨w.heap.size, 0, none⟩ (mvC 0 fun _ => 0).toList 0).run Try.prog (w.alloc (.cells (mvC 0 fun _ => 0) 79)) = .ok () (w.alloc (.cells (mvC 0 fun _ => 0) 79)) := st_mvNew2 w 0 _
/-- What Compose answers. -/
def cmV (N : Int) (f : Nat → Nat) (M : Int) (g : Nat → Nat) : Value := if okT N f ∧ okT M g then (if N = M then .tuple #[trL (cmp (dgl N f) (dgl M g)), .int .i64 0] else .tuple #[trZ, .int .i64 1]) else .tuple #[trZ, .int .i64 130]
theorem go_on' {a b c : World} (h : Below a.heap.size a b) (k : Below b.heap.size b c) : Below a.heap.size a c := h.trans (k.mono h.size)

end Go.Proofs.Ytihjhkbbpphocaa
