/- Any packed words in blocks of a law's own; arguments that are transformations, opened and shut. -/
import Derived.Test.YtihjhkbbpphocaaAx
import Derived.Lib.SmallJoins
namespace Go.Proofs.Ytihjhkbbpphocaa
open Go Go.ChangeShapes Go.WideShapes Go.ChangeAt Go.RowKit Go.Lib
set_option linter.unusedVariables false

/-- What a law's walk keeps. -/
structure KG (L : List (Nat × Int × (Nat → Nat))) (w0 w : World) : Prop where
  all : ∀ p ∈ L, TrAt w p.1 p.2.1 p.2.2
  below : Below w0.heap.size w0 w
theorem KG.call {L : List (Nat × Int × (Nat → Nat))} {w0 w w' : World} (h : KG L w0 w) (hb : Below w.heap.size w w') : KG L w0 w' :=
  ⟨fun p hp => (h.all p hp).of (hb.block _ (h.all p hp).lt), h.below.trans (hb.mono h.below.size)⟩
theorem KG.new {L : List (Nat × Int × (Nat → Nat))} {w0 w : World} (h : KG L w0 w) (N : Int) (g : Nat → Nat) : KG ((w.heap.size, N, g) :: L) w0 (w.alloc (.cells (trC N g) 26)) := by
  refine ⟨fun p hp => ?_, h.below.alloc h.below.size _⟩
  rcases List.mem_cons.1 hp with rfl | hp
  · exact heap_last _ _
  · exact (h.all p hp).of (heap_allo (h.all p hp).lt _)
theorem KG.get {L : List (Nat × Int × (Nat → Nat))} {w0 w : World} (h : KG L w0 w) {b : Nat} {N : Int} {g : Nat → Nat} (hm : (b, N, g) ∈ L) : TrAt w b N g := h.all _ hm
theorem st_trNewG (w : World) (N : Int) (g : Nat → Nat) : (storeCells ⟨w.heap.size, 0, none⟩ (trC N g).toList 0).run Try.prog (w.alloc (.cells #[.int .i64 0, .int .u64 0, .int .u64 0, .int .u64 0, .int .u64 0, .int .u64 0, .int .u64 0, .int .u64 0] 26)) = .ok () (w.alloc (.cells (trC N g) 26)) := by
  have h := st_row (cs := trC N g) (heap_alloc_new w (.cells #[.int .i64 0, .int .u64 0, .int .u64 0, .int .u64 0, .int .u64 0, .int .u64 0, .int .u64 0, .int .u64 0] 26)) rfl (trC_one N g)
  rw [World.setRow_alloc_new] at h
  exact h
section
variable {ops : Array Oper} {rest : List Oper} {o : Oper} {a : Act} {w : World} {Q : Exit → Act → World → Prop}
theorem wg_load {x : Operand} {b : Nat} {N : Int} {g : Nat → Nat} (ho : o.op = .load 26 x) (hx : a.eval x = .pointer (some ⟨b, 0, none⟩)) (hg : TrAt w b N g) (hw : Region.wanted o (yielded ops a.tmps) = true) (h : wpList Try.prog ops Q rest (a.put o.dst (.agg (trC N g))) w) : wpList Try.prog ops Q (o :: rest) a w :=
  wl_yield (ex_load_row ho hx (lv_tr hg)) hw h
theorem ex_eql_trG {ev : Operand → Value} {ty : TypeId} {x y : Operand} {N M : Int} {f g : Nat → Nat} (ho : o.op = .binOp .eql 26 x y ty) (hx : ev x = .agg (trC N f)) (hy : ev y = .agg (trC M g)) (w : World) : (execOp ev o).run Try.prog w = .ok (.value (.bool (same2 7 N M f g))) w := by
  unfold execOp
  have e := eq_tr N M f g w
  simp only [ho, hx, hy, Sem.run_bind, run_eqGuard_agg w .eql 26 x y _ _ Try.eqGuardType26, Result.andThen_ok, run_eql_struct, e, Sem.run_pure]
theorem wg_eq {ty : TypeId} {x y : Operand} {N M : Int} {f g : Nat → Nat} (ho : o.op = .binOp .eql 26 x y ty) (hx : a.eval x = .agg (trC N f)) (hy : a.eval y = .agg (trC M g)) (hw : Region.wanted o (yielded ops a.tmps) = true) (h : wpList Try.prog ops Q rest (a.put o.dst (.bool (same2 7 N M f g))) w) : wpList Try.prog ops Q (o :: rest) a w :=
  wl_yield (ex_eql_trG ho hx hy w) hw h
end
theorem same2_refl (n : Nat) (a : Int) (f : Nat → Nat) : same2 n a a f f = true := same2_iff.2 ⟨rfl, fun _ _ => rfl⟩
theorem Try.cells_tr : Try.prog.cellsOf 26 = 8 := by kernel_rfl
theorem Try.cells_a7 : Try.prog.cellsOf 24 = 7 := by kernel_rfl
theorem Try.cells_u64' : Try.prog.cellsOf 23 = 1 := by kernel_rfl
variable {H : Type} {enc : TypeId × Value → H}
def trD (H : Type) (N : Int) (g : Nat → Nat) : DataW H := .agg [.lit (.int .i64 N), .agg [.lit (.int .u64 (g 0 : Nat)), .lit (.int .u64 (g 1 : Nat)), .lit (.int .u64 (g 2 : Nat)), .lit (.int .u64 (g 3 : Nat)), .lit (.int .u64 (g 4 : Nat)), .lit (.int .u64 (g 5 : Nat)), .lit (.int .u64 (g 6 : Nat))]]
theorem Try.und_tr : ∃ f0 f1 : Field, Try.prog.underlying 26 = some (.struct #[f0, f1]) ∧ f0.type = 3 ∧ f0.offset = 0 ∧ f1.type = 24 ∧ f1.offset = 1 := ⟨_, _, Try.underlying26, rfl, rfl, rfl, rfl⟩
set_option maxRecDepth 100000 in
theorem shut_tr {w : World} {base : Nat} {spare : Nat → Bool} {held : Bool} {N : Int} {g : Nat → Nat} (hN : (Lit.int .i64 N).wf = true) (hg : W64 g) : DataW.Trod enc Try.prog w base spare held 26 (.agg (trC N g)) (trD H N g) [] := by
  obtain ⟨f0, f1, hu, t0, o0, t1, o1⟩ := Try.und_tr
  refine ⟨3, ?_⟩
  have r7 : List.range 7 = [0, 1, 2, 3, 4, 5, 6] := rfl
  have h := fun k hk => of_u64 (hg k hk)
  have h0 : DataW.trod enc Try.prog w base spare held 2 3 [.int .i64 N] = some (.lit (.int .i64 N), []) := trod_int_mk 1 Try.underlying3 hN
  have h1 : DataW.trod enc Try.prog w base spare held 2 24 [.int .u64 (g 0 : Nat), .int .u64 (g 1 : Nat), .int .u64 (g 2 : Nat), .int .u64 (g 3 : Nat), .int .u64 (g 4 : Nat), .int .u64 (g 5 : Nat), .int .u64 (g 6 : Nat)] = some (.agg [.lit (.int .u64 (g 0 : Nat)), .lit (.int .u64 (g 1 : Nat)), .lit (.int .u64 (g 2 : Nat)), .lit (.int .u64 (g 3 : Nat)), .lit (.int .u64 (g 4 : Nat)), .lit (.int .u64 (g 5 : Nat)), .lit (.int .u64 (g 6 : Nat))], []) := by
    simp [DataW.trod, Try.underlying24, Try.underlying23, Try.cells_a7, Try.cells_u64', r7, h 0 (by decide), h 1 (by decide), h 2 (by decide), h 3 (by decide), h 4 (by decide), h 5 (by decide), h 6 (by decide)]
  have hl : (Value.agg (trC N g)).cells.toList.length = Try.prog.cellsOf 26 := by rw [Try.cells_tr]; rfl
  have := trod_struct2_mk (enc := enc) (w := w) (base := base) (spare := spare) (held := held) (n := 2) (y0 := (.lit (.int .i64 N), [])) (y1 := (.agg [.lit (.int .u64 (g 0 : Nat)), .lit (.int .u64 (g 1 : Nat)), .lit (.int .u64 (g 2 : Nat)), .lit (.int .u64 (g 3 : Nat)), .lit (.int .u64 (g 4 : Nat)), .lit (.int .u64 (g 5 : Nat)), .lit (.int .u64 (g 6 : Nat))], [])) hu hl (by rw [t0, o0, Try.cells_int1B]; exact h0) (by rw [t1, o1, Try.cells_a7]; exact h1)
  exact this
set_option maxRecDepth 100000 in
theorem open_tr {w : World} {base : Nat} {spare : Nat → Bool} {held : Bool} {r : Reach} {b0 : Nat} {v : Value} {d : DataW H} {ps : List MemPlace} (hval : Value.okWide Try.prog w r b0 26 v) (hd : DataW.Trod enc Try.prog w base spare held 26 v d ps) :
    ∃ N g, v = .agg (trC N g) ∧ d = trD H N g ∧ ps = [] ∧ (Lit.int .i64 N).wf = true ∧ W64 g := by
  obtain ⟨f0, f1, hu, t0, o0, t1, o1⟩ := Try.und_tr
  obtain ⟨cs, rfl, hsz⟩ := okWide_struct hu hval
  rw [Try.cells_tr] at hsz
  obtain ⟨fuel, hf⟩ := hd
  obtain ⟨y0, y1, n, hx, _, h0, h1⟩ := trod_struct2 hu hf
  rw [t0, o0, Try.cells_int1B] at h0
  rw [t1, o1, Try.cells_a7] at h1
  obtain ⟨N, e0, e1, hN⟩ := DataW.trod_int Try.underlying3 h0
  obtain ⟨xs, m, _, hx1, hl, hlen, hel⟩ := DataW.trod_array Try.underlying24 h1
  have key : ∀ i, ∃ n : Nat, i < 7 → cs[i + 1]? = some (.int .u64 (n : Int)) ∧ n < 18446744073709551616 ∧ xs[i]? = some (.lit (.int .u64 (n : Int)), []) := by
    intro i
    by_cases hi : i < 7
    · have he := hel i hi
      rw [Try.cells_u64', Nat.mul_one] at he
      have hx0 : xs[i]? = some (xs[i]'(by omega)) := List.getElem?_eq_getElem (by omega)
      rw [hx0] at he
      obtain ⟨n', k1, k2, k3⟩ := DataW.trod_int Try.underlying23 he
      obtain ⟨m', rfl, hm⟩ := u64_of k3
      refine ⟨m', fun _ => ⟨?_, hm, ?_⟩⟩
      · have hc : cs[i + 1]? = some (cs[i + 1]'(by omega)) := Array.getElem?_eq_getElem (by omega)
        have k1' : (((((cs.toList).drop 1).take 7).drop i).take 1) = [.int .u64 (m' : Int)] := k1
        rw [List.drop_take, List.drop_drop, List.take_take, Nat.min_eq_left (by omega), Nat.add_comm 1 i, List.drop_eq_getElem_cons (by simp; omega)] at k1'
        simp at k1'
        rw [hc, k1']
      · rw [hx0, k2]
    · exact ⟨0, fun h => absurd h hi⟩
  obtain ⟨g, hgk⟩ := Classical.axiomOfChoice key
  have c0 : cs[0]? = some (.int .i64 N) := by
    have hc : cs[0]? = some (cs[0]'(by omega)) := Array.getElem?_eq_getElem (by omega)
    have e0' : ((cs.toList.drop 0).take 1) = [.int .i64 N] := e0
    rw [List.drop_eq_getElem_cons (by simp; omega)] at e0'
    simp at e0'
    rw [hc, e0']
  have hcs : cs = trC N g := by
    apply Array.ext_getElem?
    intro i
    cases i with
    | zero => rw [c0, trC_n]
    | succ i =>
      by_cases hi : i < 7
      · rw [(hgk i hi).1, trC_get _ _ hi]
      · rw [Array.getElem?_eq_none (by omega), Array.getElem?_eq_none (by rw [trC_size]; omega)]
  have hxs : xs = [(.lit (.int .u64 (g 0 : Nat)), []), (.lit (.int .u64 (g 1 : Nat)), []), (.lit (.int .u64 (g 2 : Nat)), []), (.lit (.int .u64 (g 3 : Nat)), []), (.lit (.int .u64 (g 4 : Nat)), []), (.lit (.int .u64 (g 5 : Nat)), []), (.lit (.int .u64 (g 6 : Nat)), [])] := by
    apply List.ext_getElem?
    intro i
    by_cases hi : i < 7
    · rw [(hgk i hi).2.2]
      rcases seven_cases hi with rfl | rfl | rfl | rfl | rfl | rfl | rfl <;> rfl
    · rw [List.getElem?_eq_none (by omega), List.getElem?_eq_none (by simp; omega)]
  simp only [Prod.mk.injEq] at hx
  refine ⟨N, g, by rw [hcs], ?_, ?_, hN, fun k hk => (hgk k hk).2.1⟩
  · rw [hx.1, e1, hx1, hxs]
    rfl
  · rw [hx.2, e1, hx1, hxs]
    rfl
end Go.Proofs.Ytihjhkbbpphocaa
