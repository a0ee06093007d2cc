/- trans: transformations of lists in blocks of their own; Check, At, Compose of them; their keys. -/
import Derived.Test.YtabkhoiccjkghaaCj
import Derived.Test.YtabkhoiccjkghaaJi
import Derived.DeepKeys4
namespace Go.Proofs.Ytabkhoiccjkghaa
open Go Go.RowKit Go.Lib Go.Maps
set_option linter.unusedVariables false

/-- The cells of a list's transformation. -/
def tC (l : List Nat) : Array Value := trC l.length (pk (im l) l.length)
theorem tC_size (l : List Nat) : (tC l).size = 8 := rfl
theorem tC_one (l : List Nat) : (tC l).all (·.oneCell') = true := trC_one _ _
theorem trL_tC (l : List Nat) : trL l = .agg (tC l) := rfl
/-- Whether two transformations' cells are the same. -/
def sameL (l m : List Nat) : Bool := same2 7 l.length m.length (pk (im l) l.length) (pk (im m) m.length)
theorem sameL_iff {l m : List Nat} (hl : Tf l) (hm : Tf m) : sameL l m = true ↔ l = m := by
  unfold sameL
  rw [same2_iff]
  constructor
  · rintro ⟨h1, h2⟩
    exact pk_inj hl hm (by omega) h2
  · rintro rfl
    exact ⟨rfl, fun _ _ => rfl⟩
theorem sameL_dec {l m : List Nat} (hl : Tf l) (hm : Tf m) : sameL l m = decide (l = m) := by
  rw [Bool.eq_iff_iff, sameL_iff hl hm, decide_eq_true_iff]
/-- A transformation in a block of its own. -/
def TL (w : World) (b : Nat) (l : List Nat) : Prop := w.heap[b]? = some (.cells (tC l) 42 (0, 0))
theorem TL.lt {w : World} {b : Nat} {l : List Nat} (h : TL w b l) : b < w.heap.size := (Array.getElem?_eq_some_iff.1 h).1
/-- What a law's walk keeps. -/
structure KP (L : List (Nat × List Nat)) (w0 w : World) : Prop where
  all : ∀ p ∈ L, TL w p.1 p.2
  below : Below w0.heap.size w0 w
theorem KP.call {L : List (Nat × List Nat)} {w0 w w' : World} (h : KP L w0 w) (hb : Below w.heap.size w w') : KP L w0 w' :=
  ⟨fun p hp => (hb.block _ (h.all p hp).lt).trans (h.all p hp), h.below.trans (hb.mono h.below.size)⟩
theorem KP.new {L : List (Nat × List Nat)} {w0 w : World} (h : KP L w0 w) (l : List Nat) : KP ((w.heap.size, l) :: L) w0 (w.alloc (.cells (tC l) 42)) := by
  refine ⟨fun p hp => ?_, h.below.alloc h.below.size _⟩
  rcases List.mem_cons.1 hp with rfl | hp
  · exact heap_last _ _
  · exact (heap_allo (h.all p hp).lt _).trans (h.all p hp)
theorem KP.get {L : List (Nat × List Nat)} {w0 w : World} (h : KP L w0 w) {b : Nat} {l : List Nat} (hm : (b, l) ∈ L) : TL w b l := h.all _ hm
theorem st_trNew (w : World) (l : List Nat) : (storeCells ⟨w.heap.size, 0, none⟩ (tC l).toList 0).run Try.prog (w.alloc (.cells #[.int .i64 0, .int .u64 0, .int .u64 0, .int .u64 0, .int .u64 0, .int .u64 0, .int .u64 0, .int .u64 0] 42)) = .ok () (w.alloc (.cells (tC l) 42)) := by
  have h := st_row (cs := tC l) (heap_alloc_new w (.cells #[.int .i64 0, .int .u64 0, .int .u64 0, .int .u64 0, .int .u64 0, .int .u64 0, .int .u64 0, .int .u64 0] 42)) rfl (tC_one l)
  rw [World.setRow_alloc_new] at h
  exact h
section
variable {ops : Array Oper} {rest : List Oper} {o : Oper} {a : Act} {w : World} {Q : Exit → Act → World → Prop}
theorem wl_yield {v : Value} (hx : (execOp a.eval o).run Try.prog w = .ok (.value v) w) (hw : Region.wanted o (yielded ops a.tmps) = true) (h : wpList Try.prog ops Q rest (a.put o.dst v) w) : wpList Try.prog ops Q (o :: rest) a w :=
  wpList_step fun K hK => by
    rw [if_pos hw]
    unfold Oper.wp
    rw [hx]
    exact hK _ _ h
theorem wl_load {x : Operand} {b : Nat} {l : List Nat} (ho : o.op = .load 42 x) (hx : a.eval x = .pointer (some ⟨b, 0, none⟩)) (hg : TL w b l) (hw : Region.wanted o (yielded ops a.tmps) = true) (h : wpList Try.prog ops Q rest (a.put o.dst (.agg (tC l))) w) : wpList Try.prog ops Q (o :: rest) a w :=
  wl_yield (ex_load_row ho hx (lv_tr hg)) hw h
theorem ex_eql_tr {ev : Operand → Value} {ty : TypeId} {x y : Operand} {l m : List Nat} (ho : o.op = .binOp .eql 42 x y ty) (hx : ev x = .agg (tC l)) (hy : ev y = .agg (tC m)) (w : World) : (execOp ev o).run Try.prog w = .ok (.value (.bool (sameL l m))) w := by
  unfold execOp
  have e := eq_tr l.length m.length (pk (im l) l.length) (pk (im m) m.length) w
  unfold tC at hx hy
  simp only [ho, hx, hy, Sem.run_bind, run_eqGuard_agg w .eql 42 x y _ _ Try.eqGuardType42, Result.andThen_ok, run_eql_struct, e, Sem.run_pure]
  rfl
theorem wl_eq {ty : TypeId} {x y : Operand} {l m : List Nat} (ho : o.op = .binOp .eql 42 x y ty) (hx : a.eval x = .agg (tC l)) (hy : a.eval y = .agg (tC m)) (hw : Region.wanted o (yielded ops a.tmps) = true) (h : wpList Try.prog ops Q rest (a.put o.dst (.bool (sameL l m))) w) : wpList Try.prog ops Q (o :: rest) a w :=
  wl_yield (ex_eql_tr ho hx hy w) hw h
theorem wl_ne {ty : TypeId} {x y : Operand} {l m : List Nat} (ho : o.op = .binOp .neq 42 x y ty) (hx : a.eval x = .agg (tC l)) (hy : a.eval y = .agg (tC m)) (hw : Region.wanted o (yielded ops a.tmps) = true) (h : wpList Try.prog ops Q rest (a.put o.dst (.bool (!sameL l m))) w) : wpList Try.prog ops Q (o :: rest) a w :=
  wl_yield (ex_neq_tr ho hx hy w) hw h
end

theorem compose_tC (l m : List Nat) (hl : Tf l) (hm : Tf m) (h : l.length = m.length) (w : World) :
    Calls Try.prog 71 #[.agg (tC l), .agg (tC m)] w fun e w' => e = .returned (.tuple #[.agg (tC (cmp l m)), .int .i64 0]) ∧ Below w.heap.size w w' := compose_d l m hl hm h w

/-- What At answers of a transformation. -/
def atV (l : List Nat) (i : Int) : Value := if 0 ≤ i ∧ i < l.length then .tuple #[.int .i64 ((im l i.toNat : Nat) : Int), .int .i64 0] else .tuple #[.int .i64 0, .int .i64 3]
set_option maxHeartbeats 2000000 in
set_option maxRecDepth 100000 in
theorem tat_ok (l : List Nat) (hl : Tf l) (i : Int) (w : World) :
    Calls Try.prog 62 #[.agg (tC l), .int .i64 i] w fun e w' => e = .returned (atV l i) ∧ Below w.heap.size w w' := by
  have H1 : Hid (TL (w.alloc (.cells (tC l) 42)) w.heap.size l) := heap_last _ _
  have HB0 : Hid (Below w.heap.size w (w.alloc (.cells (tC l) 42))) := (Below.refl _ _).alloc (Nat.le_refl _) _
  have hz := Try.zero_mv
  have hne := mvC_ne 0 fun _ => 0
  have hsz := mvC_size 0 fun _ => 0
  have hle := hl.le
  have hlt := hl.lt64
  unfold atV
  by_cases h0 : 0 ≤ i
  · by_cases h1 : i < l.length
    · obtain ⟨k, rfl⟩ : ∃ k : Nat, i = k := ⟨i.toNat, by omega⟩
      rw [if_pos ⟨h0, h1⟩, Int.toNat_natCast]
      have hk64 : (k : Int) < 64 := by omega
      have hd64 := hlt k (by omega)
      have hwd : IntKind.i64.wrap ((im l k : Nat) : Int) = ((im l k : Nat) : Int) := IntWalk.i64_in _ (by omega)
      go_enter Try.func62, Try.ntmps62
      go_wp2_with (refine wl_load rfl rfl (H1.out) rfl ?_)
      refine (open_ok l hl _).mono ?_
      rintro e w1 ⟨rfl, hB1⟩
      have HB1 : Hid (Below w.heap.size w w1) := HB0.out.trans (hB1.mono (by simp))
      clear hB1
      have hst := st_mvNew2 w1 l.length (im l)
      have hszl := mvC_size l.length (im l)
      have hmn := mvC_n' l.length (im l)
      have hc1 := (mv_last w1 l.length (im l)).cell' (i := k) (by omega)
      go_wp2_with fail
      go_ret2
      exact ⟨rfl, HB1.out.alloc HB1.out.size _⟩
    · rw [if_neg (fun h => h1 h.2)]
      go_enter Try.func62, Try.ntmps62
      go_wp2_with (refine wl_load rfl rfl (H1.out) rfl ?_)
      refine (open_ok l hl _).mono ?_
      rintro e w1 ⟨rfl, hB1⟩
      have HB1 : Hid (Below w.heap.size w w1) := HB0.out.trans (hB1.mono (by simp))
      clear hB1
      have hst := st_mvNew2 w1 l.length (im l)
      have hszl := mvC_size l.length (im l)
      have hmn := mvC_n' l.length (im l)
      go_wp2_with fail
      go_ret2
      exact ⟨rfl, HB1.out.alloc HB1.out.size _⟩
  · rw [if_neg (fun h => h0 h.1)]
    go_enter Try.func62, Try.ntmps62
    go_wp2_with (refine wl_load rfl rfl (H1.out) rfl ?_)
    refine (open_ok l hl _).mono ?_
    rintro e w1 ⟨rfl, hB1⟩
    have HB1 : Hid (Below w.heap.size w w1) := HB0.out.trans (hB1.mono (by simp))
    clear hB1
    have hst := st_mvNew2 w1 l.length (im l)
    have hszl := mvC_size l.length (im l)
    have hmn := mvC_n' l.length (im l)
    go_wp2_with fail
    go_ret2
    exact ⟨rfl, HB1.out.alloc HB1.out.size _⟩

set_option maxHeartbeats 2000000 in
set_option maxRecDepth 100000 in
theorem tcheck_ok (l : List Nat) (hl : Tf l) (w : World) :
    Calls Try.prog 75 #[.agg (tC l)] w fun e w' => e = .returned (.int .i64 0) ∧ Below w.heap.size w w' := by
  have H1 : Hid (TL (w.alloc (.cells (tC l) 42)) w.heap.size l) := heap_last _ _
  have HB0 : Hid (Below w.heap.size w (w.alloc (.cells (tC l) 42))) := (Below.refl _ _).alloc (Nat.le_refl _) _
  have hz := Try.zero_mv
  have hne := mvC_ne 0 fun _ => 0
  have hsz := mvC_size 0 fun _ => 0
  go_enter Try.func75, Try.ntmps75
  go_wp2_with (refine wl_load rfl rfl (H1.out) rfl ?_)
  refine (open_ok l hl _).mono ?_
  rintro e w1 ⟨rfl, hB1⟩
  have HB1 : Hid (Below w.heap.size w w1) := HB0.out.trans (hB1.mono (by simp))
  clear hB1
  have hst := st_mvNew2 w1 l.length (im l)
  have hszl := mvC_size l.length (im l)
  go_wp2_with fail
  go_ret
  exact ⟨rfl, HB1.out.alloc HB1.out.size _⟩

/-- A transformation's key. -/
def klG (N : Int) (g : Nat → Nat) : Lit := .string (keyBytes [.int .i64 N, .int .u64 (g 0 : Nat), .int .u64 (g 1 : Nat), .int .u64 (g 2 : Nat), .int .u64 (g 3 : Nat), .int .u64 (g 4 : Nat), .int .u64 (g 5 : Nat), .int .u64 (g 6 : Nat)])
theorem keyOf_tr {P : Program} {k t e i : TypeId} {f1 f2 : Field} (hk : P.underlying k = some (.struct #[f1, f2])) (n1 : f1.name ≠ "_") (n2 : f2.name ≠ "_") (o1 : f1.offset = 0) (o2 : f2.offset = 1) (t1 : f1.type = i) (t2 : f2.type = t)
    (ht : P.underlying t = some (.array 7 e)) (he : P.underlying e = some (.int .u64)) (hi : P.underlying i = some (.int .i64)) (ck : P.cellsOf k = 8) (ct : P.cellsOf t = 7) (ce : P.cellsOf e = 1) (ci : P.cellsOf i = 1) (hy : P.keyType k = true) {n : Nat} (hn : P.types.size = n + 2) {N : Int} {g : Nat → Nat} (hN : (Lit.int .i64 N).wf = true) (hg : ∀ j, j < 7 → (Lit.int .u64 (g j : Nat)).wf = true) :
    keyOf P k (.agg (trC N g)) = some (klG N g) := by
  have w0 := hg 0 (by decide)
  have w1 := hg 1 (by decide)
  have w2 := hg 2 (by decide)
  have w3 := hg 3 (by decide)
  have w4 := hg 4 (by decide)
  have w5 := hg 5 (by decide)
  have w6 := hg 6 (by decide)
  simp [keyOf, hk, hy, Value.formed, Value.cells, ck, hn, Program.keyLits, n1, n2, o1, o2, t1, t2, ct, ce, ci, ht, he, hi, hN, w0, w1, w2, w3, w4, w5, w6, klG, trC, List.range_succ, List.range_zero]
theorem Try.und_mapT : Try.prog.underlying 98 = some (.map 42 3) := by kernel_rfl
theorem Try.laidT : laidOutB Try.prog = true := by kernel_rfl
theorem Try.keyT_tr : Try.prog.keyType 42 = true := by kernel_rfl
theorem Try.size_trK : Try.prog.cellsOf 42 = 8 := by kernel_rfl
theorem Try.size_a7 : Try.prog.cellsOf 40 = 7 := by kernel_rfl
theorem Try.size_u64K : Try.prog.cellsOf 26 = 1 := by kernel_rfl
theorem Try.size_intK : Try.prog.cellsOf 3 = 1 := by kernel_rfl
theorem Try.und_u64K : Try.prog.underlying 26 = some (.int .u64) := by kernel_rfl
theorem Try.und_a7 : Try.prog.underlying 40 = some (.array 7 26) := by kernel_rfl
theorem Try.tsizeT : ∃ n, Try.prog.types.size = n + 2 := ⟨Try.prog.types.size - 2, by have : 1 < Try.prog.types.size := of_decide_eq_true (by kernel_rfl); omega⟩
theorem keyT : Keyed Try.prog 42 := Keyed.of_law (deep_law_laid Try.laidT (m := 3) (by omega) (of_decide_eq_true (by kernel_rfl)) (by kernel_rfl) (by rw [Try.underlying42]))
def klT (l : List Nat) : Lit := klG l.length (pk (im l) l.length)
theorem klT_of {l : List Nat} (hl : Tf l) : keyOf Try.prog 42 (.agg (tC l)) = some (klT l) := by
  obtain ⟨n, hn⟩ := Try.tsizeT
  have := hl.le
  exact keyOf_tr Try.underlying42 (by decide) (by decide) rfl rfl rfl rfl Try.und_a7 Try.und_u64K Try.und_int Try.size_trK Try.size_a7 Try.size_u64K Try.size_intK Try.keyT_tr hn (WalkArith.wf_i64 (by omega)) (fun j hj => WalkArith.wf_u64 (by have := pk_w64 hl j hj; omega))
theorem klT_inj {l m : List Nat} (hl : Tf l) (hm : Tf m) (h : klT l = klT m) : l = m := by
  have := keyT.inj (klT_of hl) (h ▸ klT_of hm)
  simp only [Value.agg.injEq] at this
  obtain ⟨a, b⟩ := trC_inj this
  exact pk_inj hl hm (by omega) b
theorem klT_key (l : List Nat) : WideAt.IsKeyLit (klT l) := trivial
end Go.Proofs.Ytabkhoiccjkghaa
