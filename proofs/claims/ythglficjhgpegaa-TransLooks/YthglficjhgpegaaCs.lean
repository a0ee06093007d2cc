/- Sets in blocks of a law's own; the law's turns. -/
import Derived.Test.YthglficjhgpegaaCr
import Derived.Test.YthglficjhgpegaaCe
import Derived.Test.YthglficjhgpegaaBe
namespace Go.Proofs.Ythglficjhgpegaa
open Go Go.RowKit Go.Lib
set_option linter.unusedVariables false

theorem lv_set {w : World} {b : Nat} {f : Nat → Nat} (h : Cells8 w b f) : (loadVar 44 ⟨b, 0, none⟩).run Try.prog w = .ok (.agg (cellsF f)) w := run_loadVar_row w b 44 44 _ (0, 0) _ h Try.underlying44 rfl Try.info_set
section
variable {ops : Array Oper} {rest : List Oper} {o : Oper} {a : Act} {w : World} {Q : Exit → Act → World → Prop}
theorem ws_load {x : Operand} {b : Nat} {f : Nat → Nat} (ho : o.op = .load 44 x) (hx : a.eval x = .pointer (some ⟨b, 0, none⟩)) (hg : Cells8 w b f) (hw : Region.wanted o (yielded ops a.tmps) = true) (h : wpList Try.prog ops Q rest (a.put o.dst (.agg (cellsF f))) w) : wpList Try.prog ops Q (o :: rest) a w :=
  wl_yield (ex_load_row ho hx (lv_set hg)) hw h
theorem ex_eql_set {ev : Operand → Value} {ty : TypeId} {x y : Operand} {f : Nat → Nat} (ho : o.op = .binOp .eql 44 x y ty) (hx : ev x = .agg (cellsF f)) (hy : ev y = .agg (cellsF f)) (w : World) : (execOp ev o).run Try.prog w = .ok (.value (.bool true)) w := by
  unfold execOp
  have e := eq_same f w
  simp only [ho, hx, hy, Sem.run_bind, run_eqGuard_agg w .eql 44 x y _ _ Try.eqGuardType44, Result.andThen_ok, run_eql_struct, e, Sem.run_pure]
theorem ws_eq {ty : TypeId} {x y : Operand} {f : Nat → Nat} (ho : o.op = .binOp .eql 44 x y ty) (hx : a.eval x = .agg (cellsF f)) (hy : a.eval y = .agg (cellsF f)) (hw : Region.wanted o (yielded ops a.tmps) = true) (h : wpList Try.prog ops Q rest (a.put o.dst (.bool true)) w) : wpList Try.prog ops Q (o :: rest) a w :=
  wl_yield (ex_eql_set ho hx hy w) hw h
end
theorem st_setNew (w : World) (f : Nat → Nat) : (storeCells ⟨w.heap.size, 0, none⟩ (cellsF f).toList 0).run Try.prog (w.alloc (.cells #[.int .u64 0, .int .u64 0, .int .u64 0, .int .u64 0, .int .u64 0, .int .u64 0, .int .u64 0, .int .u64 0] 44)) = .ok () (w.alloc (.cells (cellsF f) 44)) := by
  have h := st_row (cs := cellsF f) (heap_alloc_new w (.cells #[.int .u64 0, .int .u64 0, .int .u64 0, .int .u64 0, .int .u64 0, .int .u64 0, .int .u64 0, .int .u64 0] 44)) rfl (cellsF_one f)
  rw [World.setRow_alloc_new] at h
  exact h
/-- What the walk of a law keeps: transformations, sets. -/
structure KS (L : List (Nat × Int × (Nat → Nat))) (S : List (Nat × (Nat → Nat))) (w0 w : World) : Prop where
  tr : KG L w0 w
  st : ∀ p ∈ S, Cells8 w p.1 p.2
theorem KS.call {L : List (Nat × Int × (Nat → Nat))} {S : List (Nat × (Nat → Nat))} {w0 w w' : World} (h : KS L S w0 w) (hb : Below w.heap.size w w') : KS L S w0 w' :=
  ⟨h.tr.call hb, fun p hp => (h.st p hp).of_heap (hb.block _ (h.st p hp).lt)⟩
theorem KS.newT {L : List (Nat × Int × (Nat → Nat))} {S : List (Nat × (Nat → Nat))} {w0 w : World} (h : KS L S w0 w) (N : Int) (g : Nat → Nat) : KS ((w.heap.size, N, g) :: L) S w0 (w.alloc (.cells (trC N g) 26)) :=
  ⟨h.tr.new N g, fun p hp => (h.st p hp).alloc _⟩
theorem KS.newS {L : List (Nat × Int × (Nat → Nat))} {S : List (Nat × (Nat → Nat))} {w0 w : World} (h : KS L S w0 w) (f : Nat → Nat) : KS L ((w.heap.size, f) :: S) w0 (w.alloc (.cells (cellsF f) 44)) := by
  refine ⟨⟨fun p hp => (h.tr.all p hp).of (heap_allo (h.tr.all p hp).lt _), h.tr.below.alloc h.tr.below.size _⟩, fun p hp => ?_⟩
  rcases List.mem_cons.1 hp with rfl | hp
  · exact Cells8.last _ _
  · exact (h.st p hp).alloc _
theorem KS.get {L : List (Nat × Int × (Nat → Nat))} {S : List (Nat × (Nat → Nat))} {w0 w : World} (h : KS L S w0 w) {b : Nat} {N : Int} {g : Nat → Nat} (hm : (b, N, g) ∈ L) : TrAt w b N g := h.tr.all _ hm
theorem KS.getS {L : List (Nat × Int × (Nat → Nat))} {S : List (Nat × (Nat → Nat))} {w0 w : World} (h : KS L S w0 w) {b : Nat} {f : Nat → Nat} (hm : (b, f) ∈ S) : Cells8 w b f := h.st (b, f) hm

set_option maxHeartbeats 8000000 in
set_option maxRecDepth 100000 in
theorem turns_gen (N : Int) (g : Nat → Nat) (F : Nat → Nat) (eF : Int) (P : Int → Int → Prop) (hu : ∀ a b c d, P a b → P c d → a = c ∧ b = d) (eC : Int) (M : Int) (f : Nat → Nat) (eI : Int)
    (hF : ∀ w, Calls Try.prog 51 #[.agg (trC N g)] w fun e w' => e = .returned (.tuple #[.agg (cellsF F), .int .i64 eF]) ∧ Below w.heap.size w w')
    (hC : ∀ w, Calls Try.prog 48 #[.agg (trC N g)] w fun e w' => (∃ x p, P x p ∧ e = .returned (.tuple #[.int .i64 x, .int .i64 p, .int .i64 eC])) ∧ Below w.heap.size w w')
    (hI : ∀ w, Calls Try.prog 52 #[.agg (trC N g)] w fun e w' => e = .returned (.tuple #[.agg (trC M f), .int .i64 eI]) ∧ Below w.heap.size w w')
    (kF : ∀ w, Calls Try.prog 53 #[.agg (trC N g)] w fun e w' => e = .returned (.tuple #[.agg (cellsF F), .int .i64 eF]) ∧ Below w.heap.size w w')
    (kC : ∀ w, Calls Try.prog 54 #[.agg (trC N g)] w fun e w' => (∃ x p, P x p ∧ e = .returned (.tuple #[.int .i64 x, .int .i64 p, .int .i64 eC])) ∧ Below w.heap.size w w')
    (kI : ∀ w, Calls Try.prog 55 #[.agg (trC N g)] w fun e w' => e = .returned (.tuple #[.agg (trC M f), .int .i64 eI]) ∧ Below w.heap.size w w') (W : World) :
    Calls Try.prog 26 #[.agg (trC N g)] W fun e w' => e = .returned (.bool true) ∧ Below W.heap.size W w' := by
  have HF : Hid _ := hF
  have HC : Hid _ := hC
  have HI : Hid _ := hI
  have LF : Hid _ := kF
  have LC : Hid _ := kC
  have LI : Hid _ := kI
  have HU : Hid (∀ a b c d, P a b → P c d → a = c ∧ b = d) := hu
  clear hF hC hI kF kC kI hu
  have s1 := same2_refl 7 M f
  have hszF := cellsF_size F
  have HK1 : Hid (KS [(W.heap.size, N, g)] [] W (W.alloc (.cells (trC N g) 26))) := ⟨KG.new (L := []) ⟨fun p hp => by simp at hp, Below.refl _ _⟩ N g, fun p hp => by simp at hp⟩
  go_enter Try.func26, Try.ntmps26
  go_wp2_with (first
    | (refine wg_load rfl rfl (HK1.out.get (b := W.heap.size) (N := N) (g := g) (by simp)) rfl ?_)
    | (refine wg_eq rfl rfl rfl rfl ?_)
    | (refine ws_eq rfl rfl rfl rfl ?_)
    | (go_at_call 12; refine (num13_any _ _).mono ?_; rintro e wn ⟨rfl, rfl⟩))
  refine (HF.out _).mono ?_
  rintro e w2 ⟨rfl, hB⟩
  have HJ2 : Hid (KS [(W.heap.size, N, g)] [] W w2) := HK1.out.call hB
  clear hB HK1
  have hst := st_setNew w2 F
  have HK2 : Hid (KS [(W.heap.size, N, g)] [(w2.heap.size, F)] W (w2.alloc (.cells (cellsF F) 44))) := HJ2.out.newS _
  clear HJ2
  go_wp2_with (first
    | (refine wg_load rfl rfl (HK2.out.get (b := W.heap.size) (N := N) (g := g) (by simp)) rfl ?_)
    | (refine ws_load rfl rfl (HK2.out.getS (b := w2.heap.size) (f := F) (by simp)) rfl ?_)
    | (refine wg_eq rfl rfl rfl rfl ?_)
    | (refine ws_eq rfl rfl rfl rfl ?_)
    | (go_at_call 12; refine (num13_any _ _).mono ?_; rintro e wn ⟨rfl, rfl⟩))
  try clear hst
  refine (HC.out _).mono ?_
  rintro e w3 ⟨⟨x, p, hP, rfl⟩, hB⟩
  have HP : Hid (P x p) := hP
  clear hP
  have HJ3 : Hid (KS [(W.heap.size, N, g)] [(w2.heap.size, F)] W w3) := HK2.out.call hB
  clear hB HK2
  go_wp2_with (first
    | (refine wg_load rfl rfl (HJ3.out.get (b := W.heap.size) (N := N) (g := g) (by simp)) rfl ?_)
    | (refine ws_load rfl rfl (HJ3.out.getS (b := w2.heap.size) (f := F) (by simp)) rfl ?_)
    | (refine wg_eq rfl rfl rfl rfl ?_)
    | (refine ws_eq rfl rfl rfl rfl ?_)
    | (go_at_call 12; refine (num13_any _ _).mono ?_; rintro e wn ⟨rfl, rfl⟩))
  try clear hst
  refine (HI.out _).mono ?_
  rintro e w4 ⟨rfl, hB⟩
  have HJ4 : Hid (KS [(W.heap.size, N, g)] [(w2.heap.size, F)] W w4) := HJ3.out.call hB
  clear hB HJ3
  have hst := st_trNewG w4 M f
  have HK4 : Hid (KS [(w4.heap.size, M, f), (W.heap.size, N, g)] [(w2.heap.size, F)] W (w4.alloc (.cells (trC M f) 26))) := HJ4.out.newT _ _
  clear HJ4
  go_wp2_with (first
    | (refine wg_load rfl rfl (HK4.out.get (b := w4.heap.size) (N := M) (g := f) (by simp)) rfl ?_)
    | (refine wg_load rfl rfl (HK4.out.get (b := W.heap.size) (N := N) (g := g) (by simp)) rfl ?_)
    | (refine ws_load rfl rfl (HK4.out.getS (b := w2.heap.size) (f := F) (by simp)) rfl ?_)
    | (refine wg_eq rfl rfl rfl rfl ?_)
    | (refine ws_eq rfl rfl rfl rfl ?_)
    | (go_at_call 12; refine (num13_any _ _).mono ?_; rintro e wn ⟨rfl, rfl⟩))
  try clear hst
  refine (LF.out _).mono ?_
  rintro e w5 ⟨rfl, hB⟩
  have HJ5 : Hid (KS [(w4.heap.size, M, f), (W.heap.size, N, g)] [(w2.heap.size, F)] W w5) := HK4.out.call hB
  clear hB HK4
  have hst := st_setNew w5 F
  have HK5 : Hid (KS [(w4.heap.size, M, f), (W.heap.size, N, g)] [(w5.heap.size, F), (w2.heap.size, F)] W (w5.alloc (.cells (cellsF F) 44))) := HJ5.out.newS _
  clear HJ5
  go_wp2_with (first
    | (refine wg_load rfl rfl (HK5.out.get (b := w4.heap.size) (N := M) (g := f) (by simp)) rfl ?_)
    | (refine wg_load rfl rfl (HK5.out.get (b := W.heap.size) (N := N) (g := g) (by simp)) rfl ?_)
    | (refine ws_load rfl rfl (HK5.out.getS (b := w5.heap.size) (f := F) (by simp)) rfl ?_)
    | (refine ws_load rfl rfl (HK5.out.getS (b := w2.heap.size) (f := F) (by simp)) rfl ?_)
    | (refine wg_eq rfl rfl rfl rfl ?_)
    | (refine ws_eq rfl rfl rfl rfl ?_)
    | (go_at_call 12; refine (num13_any _ _).mono ?_; rintro e wn ⟨rfl, rfl⟩))
  try clear hst
  refine (LC.out _).mono ?_
  rintro e w6 ⟨⟨x2, p2, hP2, rfl⟩, hB⟩
  obtain ⟨rfl, rfl⟩ := HU.out _ _ _ _ HP.out hP2
  clear hP2
  have HJ6 : Hid (KS [(w4.heap.size, M, f), (W.heap.size, N, g)] [(w5.heap.size, F), (w2.heap.size, F)] W w6) := HK5.out.call hB
  clear hB HK5
  go_wp2_with (first
    | (refine wg_load rfl rfl (HJ6.out.get (b := w4.heap.size) (N := M) (g := f) (by simp)) rfl ?_)
    | (refine wg_load rfl rfl (HJ6.out.get (b := W.heap.size) (N := N) (g := g) (by simp)) rfl ?_)
    | (refine ws_load rfl rfl (HJ6.out.getS (b := w5.heap.size) (f := F) (by simp)) rfl ?_)
    | (refine ws_load rfl rfl (HJ6.out.getS (b := w2.heap.size) (f := F) (by simp)) rfl ?_)
    | (refine wg_eq rfl rfl rfl rfl ?_)
    | (refine ws_eq rfl rfl rfl rfl ?_)
    | (go_at_call 12; refine (num13_any _ _).mono ?_; rintro e wn ⟨rfl, rfl⟩))
  try clear hst
  refine (LI.out _).mono ?_
  rintro e w7 ⟨rfl, hB⟩
  have HJ7 : Hid (KS [(w4.heap.size, M, f), (W.heap.size, N, g)] [(w5.heap.size, F), (w2.heap.size, F)] W w7) := HJ6.out.call hB
  clear hB HJ6
  have hst := st_trNewG w7 M f
  have HK7 : Hid (KS [(w7.heap.size, M, f), (w4.heap.size, M, f), (W.heap.size, N, g)] [(w5.heap.size, F), (w2.heap.size, F)] W (w7.alloc (.cells (trC M f) 26))) := HJ7.out.newT _ _
  clear HJ7
  go_wp2_with (first
    | (refine wg_load rfl rfl (HK7.out.get (b := w7.heap.size) (N := M) (g := f) (by simp)) rfl ?_)
    | (refine wg_load rfl rfl (HK7.out.get (b := w4.heap.size) (N := M) (g := f) (by simp)) rfl ?_)
    | (refine wg_load rfl rfl (HK7.out.get (b := W.heap.size) (N := N) (g := g) (by simp)) rfl ?_)
    | (refine ws_load rfl rfl (HK7.out.getS (b := w5.heap.size) (f := F) (by simp)) rfl ?_)
    | (refine ws_load rfl rfl (HK7.out.getS (b := w2.heap.size) (f := F) (by simp)) rfl ?_)
    | (refine wg_eq rfl rfl rfl rfl ?_)
    | (refine ws_eq rfl rfl rfl rfl ?_)
    | (go_at_call 12; refine (num13_any _ _).mono ?_; rintro e wn ⟨rfl, rfl⟩))
  go_ret
  exact ⟨rfl, HK7.out.tr.below⟩
end Go.Proofs.Ythglficjhgpegaa
