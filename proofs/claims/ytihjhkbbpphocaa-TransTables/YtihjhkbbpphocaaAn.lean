/- What the laws of layer 13 keep: transformations in blocks of their own; ==; num, knows. -/
import Derived.Test.YtihjhkbbpphocaaAk
import Derived.Test.YtihjhkbbpphocaaAm
namespace Go.Proofs.Ytihjhkbbpphocaa
open Go Go.RowKit Go.Lib
set_option linter.unusedVariables false

/-- The cells of a list's transformation. -/
def tC (l : List Nat) : Array Value := trC l.length (pk (im l) l.length)
theorem tC_size (l : List Nat) : (tC l).size = 8 := rfl
theorem tC_one (l : List Nat) : (tC l).all (·.oneCell') = true := trC_one _ _
theorem trL_tC (l : List Nat) : trL l = .agg (tC l) := rfl
/-- Whether two transformations' cells are the same. -/
def sameL (l m : List Nat) : Bool := same2 7 l.length m.length (pk (im l) l.length) (pk (im m) m.length)
theorem sameL_iff {l m : List Nat} (hl : Tf l) (hm : Tf m) : sameL l m = true ↔ l = m := by
  unfold sameL
  rw [same2_iff]
  constructor
  · rintro ⟨h1, h2⟩
    exact pk_inj hl hm (by omega) h2
  · rintro rfl
    exact ⟨rfl, fun _ _ => rfl⟩
theorem sameL_dec {l m : List Nat} (hl : Tf l) (hm : Tf m) : sameL l m = decide (l = m) := by
  rw [Bool.eq_iff_iff, sameL_iff hl hm, decide_eq_true_iff]
/-- A transformation in a block of its own. -/
def TL (w : World) (b : Nat) (l : List Nat) : Prop := w.heap[b]? = some (.cells (tC l) 26 (0, 0))
theorem TL.lt {w : World} {b : Nat} {l : List Nat} (h : TL w b l) : b < w.heap.size := (Array.getElem?_eq_some_iff.1 h).1
/-- What a law's walk keeps. -/
structure KP (L : List (Nat × List Nat)) (w0 w : World) : Prop where
  all : ∀ p ∈ L, TL w p.1 p.2
  below : Below w0.heap.size w0 w
theorem KP.call {L : List (Nat × List Nat)} {w0 w w' : World} (h : KP L w0 w) (hb : Below w.heap.size w w') : KP L w0 w' :=
  ⟨fun p hp => (hb.block _ (h.all p hp).lt).trans (h.all p hp), h.below.trans (hb.mono h.below.size)⟩
theorem KP.new {L : List (Nat × List Nat)} {w0 w : World} (h : KP L w0 w) (l : List Nat) : KP ((w.heap.size, l) :: L) w0 (w.alloc (.cells (tC l) 26)) := by
  refine ⟨fun p hp => ?_, h.below.alloc h.below.size _⟩
  rcases List.mem_cons.1 hp with rfl | hp
  · exact heap_last _ _
  · exact (heap_allo (h.all p hp).lt _).trans (h.all p hp)
theorem KP.get {L : List (Nat × List Nat)} {w0 w : World} (h : KP L w0 w) {b : Nat} {l : List Nat} (hm : (b, l) ∈ L) : TL w b l := h.all _ hm
theorem st_trNew (w : World) (l : List Nat) : (storeCells ⟨w.heap.size, 0, none⟩ (tC l).toList 0).run Try.prog (w.alloc (.cells #[.int .i64 0, .int .u64 0, .int .u64 0, .int .u64 0, .int .u64 0, .int .u64 0, .int .u64 0, .int .u64 0] 26)) = .ok () (w.alloc (.cells (tC l) 26)) := by
  have h := st_row (cs := tC l) (heap_alloc_new w (.cells #[.int .i64 0, .int .u64 0, .int .u64 0, .int .u64 0, .int .u64 0, .int .u64 0, .int .u64 0, .int .u64 0] 26)) rfl (tC_one l)
  rw [World.setRow_alloc_new] at h
  exact h
section
variable {ops : Array Oper} {rest : List Oper} {o : Oper} {a : Act} {w : World} {Q : Exit → Act → World → Prop}
theorem wl_yield {v : Value} (hx : (execOp a.eval o).run Try.prog w = .ok (.value v) w) (hw : Region.wanted o (yielded ops a.tmps) = true) (h : wpList Try.prog ops Q rest (a.put o.dst v) w) : wpList Try.prog ops Q (o :: rest) a w :=
  wpList_step fun K hK => by
    rw [if_pos hw]
    unfold Oper.wp
    rw [hx]
    exact hK _ _ h
theorem wl_load {x : Operand} {b : Nat} {l : List Nat} (ho : o.op = .load 26 x) (hx : a.eval x = .pointer (some ⟨b, 0, none⟩)) (hg : TL w b l) (hw : Region.wanted o (yielded ops a.tmps) = true) (h : wpList Try.prog ops Q rest (a.put o.dst (.agg (tC l))) w) : wpList Try.prog ops Q (o :: rest) a w :=
  wl_yield (ex_load_row ho hx (lv_tr hg)) hw h
theorem ex_eql_tr {ev : Operand → Value} {ty : TypeId} {x y : Operand} {l m : List Nat} (ho : o.op = .binOp .eql 26 x y ty) (hx : ev x = .agg (tC l)) (hy : ev y = .agg (tC m)) (w : World) : (execOp ev o).run Try.prog w = .ok (.value (.bool (sameL l m))) w := by
  unfold execOp
  have e := eq_tr l.length m.length (pk (im l) l.length) (pk (im m) m.length) w
  unfold tC at hx hy
  simp only [ho, hx, hy, Sem.run_bind, run_eqGuard_agg w .eql 26 x y _ _ Try.eqGuardType26, Result.andThen_ok, run_eql_struct, e, Sem.run_pure]
  rfl
theorem wl_eq {ty : TypeId} {x y : Operand} {l m : List Nat} (ho : o.op = .binOp .eql 26 x y ty) (hx : a.eval x = .agg (tC l)) (hy : a.eval y = .agg (tC m)) (hw : Region.wanted o (yielded ops a.tmps) = true) (h : wpList Try.prog ops Q rest (a.put o.dst (.bool (sameL l m))) w) : wpList Try.prog ops Q (o :: rest) a w :=
  wl_yield (ex_eql_tr ho hx hy w) hw h
theorem wl_ne {ty : TypeId} {x y : Operand} {l m : List Nat} (ho : o.op = .binOp .neq 26 x y ty) (hx : a.eval x = .agg (tC l)) (hy : a.eval y = .agg (tC m)) (hw : Region.wanted o (yielded ops a.tmps) = true) (h : wpList Try.prog ops Q rest (a.put o.dst (.bool (!sameL l m))) w) : wpList Try.prog ops Q (o :: rest) a w :=
  wl_yield (ex_neq_tr ho hx hy w) hw h
end
theorem num13_any (n : Int) (w : World) : Calls Try.prog 10 #[.int .i64 n] w fun e w' => e = .returned (.int .i64 n) ∧ w = w' := by
  go_enter Try.func10, Try.ntmps10
  go_wp2
  go_ret
  exact ⟨rfl, rfl⟩
theorem known_cyc {x p : Nat} (h : Cyc [1, 2, 0, 3] x p) : x = 0 ∧ p = 3 := by
  have h3 := (h.pwr 0 3 (by decide)).1 (by decide)
  have h1 := (h.pwr 0 1 (by decide))
  have hx : x = 0 := by omega
  refine ⟨hx, ?_⟩
  have hp : p ∣ 3 := h3.2
  have hle := Nat.le_of_dvd (by decide) hp
  have hpos := h.pos
  have hne1 : p ≠ 1 := by
    rintro rfl
    have := h1.2 ⟨by omega, Nat.one_dvd _⟩
    revert this
    decide
  have hne2 : p ≠ 2 := by
    rintro rfl
    revert hp
    decide
  omega
theorem known_tf : Tf [1, 2, 0, 3] := okL_tf (xs := [1, 2, 0, 3]) (by decide)
theorem known_mk : mkV [1, 2, 0, 3] = .tuple #[.agg (tC [1, 2, 0, 3]), .int .i64 0] := by
  unfold mkV
  rw [if_pos (by decide), if_pos (by decide)]
  rfl

theorem known_word : (tC [1, 2, 0, 3])[1]? = some (.int .u64 786561) := by
  have h : pk (im [1, 2, 0, 3]) 4 0 = 786561 := by decide +kernel
  have e : (tC [1, 2, 0, 3])[1]? = some (.int .u64 ((pk (im [1, 2, 0, 3]) 4 0 : Nat) : Int)) := rfl
  rw [e, h]
  rfl

set_option maxHeartbeats 4000000 in
set_option maxRecDepth 100000 in
theorem knows13_any (w : World) : Calls Try.prog 14 #[] w fun e w' => e = .returned (.bool true) ∧ Below w.heap.size w w' := by
  go_enter Try.func14, Try.ntmps14
  go_wp2_with fail
  refine (make_any _ [1, 2, 0, 3] _ ⟨_, _, rfl, ?_⟩ (by decide)).mono ?_
  · intro i hi
    refine ⟨_, _, rfl, by simp, ?_⟩
    rw [cell_of_row _ _ _ _ _ _ (heap_alloc_new w _)]
    have hi4 : i < 4 := hi
    have : i = 0 ∨ i = 1 ∨ i = 2 ∨ i = 3 := by omega
    rcases this with rfl | rfl | rfl | rfl <;> rfl
  rw [known_mk]
  rintro e w1 ⟨rfl, hB1⟩
  have HK1 : Hid (KP [] w w1) := ⟨fun p hp => by simp at hp, ((Below.refl _ _).alloc (Nat.le_refl _) _).trans (hB1.mono (by simp))⟩
  clear hB1
  have hst := st_trNew w1 [1, 2, 0, 3]
  have hsz := tC_size [1, 2, 0, 3]
  have HK2 : Hid (KP [(w1.heap.size, [1, 2, 0, 3])] w (w1.alloc (.cells (tC [1, 2, 0, 3]) 26))) := HK1.out.new _
  go_wp2_with (refine wl_load rfl rfl (HK2.out.get (b := w1.heap.size) (l := [1, 2, 0, 3]) (by simp)) rfl ?_)
  refine (cycle_ok [1, 2, 0, 3] known_tf _).mono ?_
  rintro e w2 ⟨x, p, hc, rfl, hB2⟩
  obtain ⟨rfl, rfl⟩ := known_cyc hc
  have HK3 : Hid (KP [(w1.heap.size, [1, 2, 0, 3])] w w2) := HK2.out.call hB2
  clear hB2 hst hc
  have hT : TL w2 w1.heap.size [1, 2, 0, 3] := HK3.out.get (by simp)
  have hc0 : w2.cell? ⟨w1.heap.size, 0, none⟩ = some (.int .i64 4) := (cell_of_row _ _ _ _ _ _ hT).trans rfl
  have hc1 : w2.cell? ⟨w1.heap.size, 1, none⟩ = some (.int .u64 786561) := (cell_of_row _ _ _ _ _ _ hT).trans known_word
  clear hT
  go_wp2_with (go_at_call 10; refine (num13_any _ _).mono ?_; rintro e wn ⟨rfl, rfl⟩)
  go_ret
  exact ⟨rfl, HK3.out.below⟩
end Go.Proofs.Ytihjhkbbpphocaa
