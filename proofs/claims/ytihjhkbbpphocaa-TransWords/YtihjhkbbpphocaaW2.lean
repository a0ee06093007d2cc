/- Js Jt Ju Ct, in one text. -/
import Derived.Test.YtihjhkbbpphocaaW1
import Derived.OpenShut
import Derived.ProofKit
import Derived.ShutString
import Derived.ChangeOld
import Derived.JoinedCond
import Derived.SizedLaws
import Derived.Carry
import Derived.Deep.Strs
import Derived.Deep.Grids
import Derived.Test.YtihjhkbbpphocaaCc
import Derived.Test.YtihjhkbbpphocaaCj
import Derived.Test.YtihjhkbbpphocaaRz
import Derived.Deep.Cut
import Derived.BigQuiet
namespace Go.Proofs.Ytihjhkbbpphocaa
open Go Go.RowKit Go.Lib
set_option linter.unusedVariables false

/-- A block's cells stay; nothing of the caller's is written; there are no fewer blocks. -/
abbrev ST (w W : World) (arr : Array Value) (y : World) : Prop := (∀ o, y.cell? ⟨w.heap.size, o, none⟩ = arr[o]?) ∧ Below w.heap.size w y ∧ W.heap.size ≤ y.heap.size
theorem st_step {w W y1 y2 : World} {arr : Array Value} (hW : w.heap.size < W.heap.size) (hb : Below y1.heap.size y1 y2) (h : ST w W arr y1) : ST w W arr y2 :=
  ⟨fun o => by rw [below_cellJ hb (by have := h.2.2; omega)]; exact h.1 o, go_on h.2.1 hb, Nat.le_trans h.2.2 hb.size⟩
theorem st_alloc {w W y1 : World} {arr : Array Value} (hW : w.heap.size < W.heap.size) (o : Obj) (h : ST w W arr y1) : ST w W arr (y1.alloc o) := st_step hW (below_new _ _) h
theorem st_grown {w W y1 y2 : World} {arr : Array Value} {b : Nat} (hW : w.heap.size < W.heap.size) (hb : W.heap.size ≤ b) (hg : y1.grownBy y2 (some b)) (h : ST w W arr y1) : ST w W arr y2 :=
  ⟨fun o => by rw [World.cell?_of_block (hg.block _ (by show w.heap.size < _; have := h.2.2; omega) (by simp; omega))]; exact h.1 o, h.2.1.grown hg (by have := h.2.2; omega) (fun k hk => by simp at hk; omega), Nat.le_trans h.2.2 hg.size⟩
theorem st_set {w W y1 : World} {arr : Array Value} {j : Nat} {v : Value} (h : ST w W arr y1) : ST w W arr (y1.setCell ⟨w.heap.size + 1, j, none⟩ v) :=
  ⟨fun o => by rw [World.cell?_of_block (heap_set_other (by show w.heap.size ≠ _; omega))]; exact h.1 o, h.2.1.setCell (p := ⟨w.heap.size + 1, j, none⟩) (by simp) v, by have := h.2.2; simpa [World.setCell] using this⟩
theorem res_call {W y1 y2 : World} {r : Nat} {z : Option Obj} (hr : r < W.heap.size) (hb : Below y1.heap.size y1 y2) (hs : W.heap.size ≤ y1.heap.size) (h : y1.heap[r]? = z) : y2.heap[r]? = z := (hb.block r (Nat.lt_of_lt_of_le hr hs)).trans h
theorem res_grown {W y1 y2 : World} {r b : Nat} {z : Option Obj} (hr : r < W.heap.size) (hg : y1.grownBy y2 (Value.slice (some ⟨b, 0, none⟩) 0 0).ownBlock) (hb : W.heap.size ≤ b) (hs : W.heap.size ≤ y1.heap.size) (h : y1.heap[r]? = z) : y2.heap[r]? = z :=
  (hg.block r (Nat.lt_of_lt_of_le hr hs) (fun e => by simp only [Value.ownBlock, Option.some.injEq] at e; omega)).trans h
/-- What LentAuto answers: an automaton in memory of its own, marked room behind its Next. -/
def LQ (A : Aut) (w : World) (e : Ending) (w' : World) : Prop := ∃ g gc ba bc, e = .returned (.agg #[.int .i64 A.k, .slice (some ⟨g, 0, none⟩) A.nx.length gc, .slice ba A.ac.length bc]) ∧
  w'.ownsRow w.heap.size 3 1 (.slice (some ⟨g, 0, none⟩) (A.nx.length + 2) gc) (A.nx.length + 2) (zC (A.nx ++ [-77, -78])) ∧ w'.ownsRow w.heap.size 4 1 (.slice ba A.ac.length bc) A.ac.length (bC A.ac) ∧ Below w.heap.size w w'
theorem lq_done {A : Aut} {w Y : World} {g gc vc n : Nat} {va : Option Addr} (hn : A.nx.length + 2 = n)
    (h : Y.ownsRow w.heap.size 3 1 (.slice (some ⟨g, 0, none⟩) n gc) n (zC (A.nx ++ [-77, -78])) ∧ Y.ownsRow w.heap.size 4 1 (.slice va (bC A.ac).length vc) (bC A.ac).length (bC A.ac) ∧ Y.heap[w.heap.size + 1]? = some (.cells #[.int .i64 0, .slice none 0 0, .slice none 0 0] 58 (0, 0)) ∧ Below w.heap.size w Y) :
    (((Y.setCell ⟨w.heap.size + 1, 0, none⟩ (.int .i64 A.k)).setCell ⟨w.heap.size + 1, 1, none⟩ (.slice (some ⟨g, 0, none⟩) A.nx.length gc)).setCell ⟨w.heap.size + 1, 2, none⟩ (.slice va (bC A.ac).length vc)).heap[w.heap.size + 1]? = some (.cells #[.int .i64 A.k, .slice (some ⟨g, 0, none⟩) A.nx.length gc, .slice va (bC A.ac).length vc] 58 (0, 0)) ∧
    LQ A w (.returned (.agg #[.int .i64 A.k, .slice (some ⟨g, 0, none⟩) A.nx.length gc, .slice va (bC A.ac).length vc])) (((Y.setCell ⟨w.heap.size + 1, 0, none⟩ (.int .i64 A.k)).setCell ⟨w.heap.size + 1, 1, none⟩ (.slice (some ⟨g, 0, none⟩) A.nx.length gc)).setCell ⟨w.heap.size + 1, 2, none⟩ (.slice va (bC A.ac).length vc)) := by
  obtain ⟨h1, h2, h3, h4⟩ := h
  subst hn
  have k : ∀ (b : Nat) (cur : Array Value) (e : TypeId), e ≠ 58 → Y.heap[b]? = some (.cells cur e (0, 0)) → (((Y.setCell ⟨w.heap.size + 1, 0, none⟩ (.int .i64 A.k)).setCell ⟨w.heap.size + 1, 1, none⟩ (.slice (some ⟨g, 0, none⟩) A.nx.length gc)).setCell ⟨w.heap.size + 1, 2, none⟩ (.slice va (bC A.ac).length vc)).heap[b]? = Y.heap[b]? := fun b cur e hne hc => by
    have hne2 : b ≠ w.heap.size + 1 := fun e2 => by
      rw [e2, h3] at hc
      injection hc with hc
      injection hc with _ hc _
      exact hne hc.symm
    rw [heap_set_other hne2, heap_set_other hne2, heap_set_other hne2]
  refine ⟨heap_set (heap_set (heap_set h3)), g, gc, va, vc, ?_, own_keep h1 (fun b cur _ hc => k b cur _ (by decide) hc), ?_, ((h4.setCell (p := ⟨w.heap.size + 1, 0, none⟩) (by simp) _).setCell (p := ⟨w.heap.size + 1, 1, none⟩) (by simp) _).setCell (p := ⟨w.heap.size + 1, 2, none⟩) (by simp) _⟩
  · rw [bC_len]
  · have := own_keep h2 (fun b cur _ hc => k b cur _ (by decide) hc)
    rw [bC_len] at this ⊢
    exact this
/-- A nil list has no room. -/
def NilOk (v : Value) : Prop := ∀ k an n cn aa m ca, v = .agg #[k, .slice an n cn, .slice aa m ca] → (an = none → cn = 0) ∧ (aa = none → ca = 0)

set_option maxHeartbeats 4000000 in
set_option maxRecDepth 100000 in
theorem lentAuto_any (v : Value) (A : Aut) (w : World) (h : AR w v A) (hn : NilOk v) (hm : (A.nx.length + 2) * 8 ≤ 140737488355328) (hm2 : A.ac.length ≤ 140737488355328) :
    Calls Try.prog 26 #[v] w (LQ A w) := by
  obtain ⟨an, cn, aa, ca, e, h1, h2⟩ := h.is
  obtain ⟨hn1, hn2⟩ := hn _ _ _ _ _ _ _ e
  subst e
  obtain ⟨i1, hj, hq0, hq1, hq2⟩ := info_parts Try.info_bool
  obtain ⟨W, hW⟩ : ∃ W, W = (w.alloc (.cells #[.int .i64 A.k, .slice an A.nx.length cn, .slice aa A.ac.length ca] 58)).alloc (.cells #[.int .i64 0, .slice none 0 0, .slice none 0 0] 58) := ⟨_, rfl⟩
  have HR2 : Hid (RowAt W w.heap.size #[.int .i64 A.k, .slice an A.nx.length cn, .slice aa A.ac.length ca]) := by
    show RowAt W w.heap.size _
    rw [hW]
    exact (RowAt.last _ _ _).alloc _
  have HB2 : Hid (Below w.heap.size w W) := by
    show Below w.heap.size w W
    rw [hW]
    exact go_on (below_new _ _) (below_new _ _)
  have HRES : Hid (W.heap[w.heap.size + 1]? = some (.cells #[.int .i64 0, .slice none 0 0, .slice none 0 0] 58 (0, 0))) := by
    show W.heap[w.heap.size + 1]? = _
    rw [hW]
    have := heap_alloc_last (w.alloc (.cells #[.int .i64 A.k, .slice an A.nx.length cn, .slice aa A.ac.length ca] 58)) (.cells #[.int .i64 0, .slice none 0 0, .slice none 0 0] 58)
    simpa using this
  have HWE : Hid (W = (w.alloc (.cells #[.int .i64 A.k, .slice an A.nx.length cn, .slice aa A.ac.length ca] 58)).alloc (.cells #[.int .i64 0, .slice none 0 0, .slice none 0 0] 58)) := hW
  have HL : Hid (∀ y, Below w.heap.size w y → Calls Try.prog 7 #[.slice an A.nx.length cn] y fun e w' => ∃ g cap, e = .returned (.slice (some ⟨g, 0, none⟩) A.nx.length cap) ∧
      w'.ownsRow y.heap.size 3 1 (.slice (some ⟨g, 0, none⟩) (A.nx.length + 2) cap) (A.nx.length + 2) (zC (A.nx ++ [-77, -78])) ∧ Below y.heap.size y w') := fun y hy => lent_any an cn A.nx y (h1.stay hy) hn1 hm
  have HS2 : Hid (∀ y, Below w.heap.size w y → SR y aa (bC A.ac)) := fun y hy => h2.stay hy
  have HN2 : Hid (aa = none → ca = 0) := hn2
  have HOC : Hid (∀ u ∈ bC A.ac, u.oneCell' = true) := fun u hu => by
    obtain ⟨z, _, rfl⟩ := List.mem_map.1 hu
    rfl
  have HBL : Hid ((bC A.ac).length = A.ac.length) := bC_len A.ac
  have hlt1 : w.heap.size + 1 < W.heap.size := (Array.getElem?_eq_some_iff.1 HRES.out).1
  have hlt0 : w.heap.size < W.heap.size := by omega
  have HE : Hid (∀ y : World, W.heap.size ≤ y.heap.size → (y.alloc (.cells #[] 4)).ownsRow w.heap.size 4 1 (.slice (some ⟨y.heap.size, 0, none⟩) 0 0) 0 []) := fun y hy => World.ownsRow_made y #[] 0 (by have := HB2.out.size; omega) (by unfold maxLen; omega) rfl
  obtain ⟨n, hnn⟩ : ∃ n, A.nx.length + 2 = n := ⟨_, rfl⟩
  have HNN : Hid (A.nx.length + 2 = n) := hnn
  rw [hnn] at HL
  clear hW h h1 h2 hn hn1 hn2 hnn
  go_enter Try.func26, Try.ntmps26
  go_wp2_with fail
  rw [← HWE.out]
  have S0 : ST w W #[.int .i64 A.k, .slice an A.nx.length cn, .slice aa A.ac.length ca] W.drew := ⟨HR2.out.cell, HB2.out.drew, Nat.le_refl _⟩
  have h0 : W.drew.heap[w.heap.size + 1]? = some (.cells #[.int .i64 0, .slice none 0 0, .slice none 0 0] 58 (0, 0)) := HRES.out
  have H0 : Hid _ := h0
  have ha : ∀ (y : World) (o : Obj), W.heap.size ≤ y.heap.size → y.heap[w.heap.size + 1]? = some (.cells #[.int .i64 0, .slice none 0 0, .slice none 0 0] 58 (0, 0)) → (y.alloc o).heap[w.heap.size + 1]? = some (.cells #[.int .i64 0, .slice none 0 0, .slice none 0 0] 58 (0, 0)) := fun y o hs hy => ((below_new y o).block _ (by omega)).trans hy
  have HA : Hid _ := ha
  clear h0 ha HWE
  go_region_held3 (fun y => ST w W #[.int .i64 A.k, .slice an A.nx.length cn, .slice aa A.ac.length ca] y) (first | exact S0 | assumption | exact st_step hlt0 (by assumption) (by assumption) | exact st_alloc hlt0 _ (by assumption) | exact st_set (st_set (st_set (by assumption)))) (first
    | (go_at_call 7; refine (HL.out _ (And.left (And.right (by assumption)))).mono ?_; rintro e y2 ⟨g, gc, rfl, hrow, hy2⟩
       have S2 : ST w W #[.int .i64 A.k, .slice an A.nx.length cn, .slice aa A.ac.length ca] y2 := st_step hlt0 hy2 (by assumption)
       have hres2 : y2.heap[w.heap.size + 1]? = some (.cells #[.int .i64 0, .slice none 0 0, .slice none 0 0] 58 (0, 0)) := res_call hlt1 hy2 (And.right (And.right (by assumption : ST w W #[.int .i64 A.k, .slice an A.nx.length cn, .slice aa A.ac.length ca] _))) (by first | exact H0.out | exact HA.out W.drew _ (Nat.le_refl _) H0.out | exact hres9)
       have HI2 : Hid (y2.ownsRow w.heap.size 3 1 (.slice (some ⟨g, 0, none⟩) n gc) n (zC (A.nx ++ [-77, -78]))) := own_mono hrow (And.left (And.right (by assumption : ST w W #[.int .i64 A.k, .slice an A.nx.length cn, .slice aa A.ac.length ca] _))).size
       have hr0 : y2.cell? ⟨w.heap.size + 1, 0, none⟩ = some (.int .i64 0) := cell_of hres2
       have hr1 : y2.cell? ⟨w.heap.size + 1, 1, none⟩ = some (.slice none 0 0) := cell_of hres2
       have hr2 : y2.cell? ⟨w.heap.size + 1, 2, none⟩ = some (.slice none 0 0) := cell_of hres2
       have hf : ∀ j, y2.frozen? ⟨w.heap.size + 1, j, none⟩ = false := fun j => froz_of hres2
       clear hrow)
    | (rw [if_pos (by rfl)]; refine wp_append_sr _ _ 56 rfl w.heap.size 4 i1 (.bool false) 1 Try.underlying56 hj hq0 hq1 hq2 rfl _ rfl (by first | exact HE.out W.drew (Nat.le_refl _) | exact own_below (HE.out W.drew (Nat.le_refl _)) hy2 | exact HE.out _ S2.2.2) aa ca (bC A.ac) (by rw [HBL.out]; rfl) (HS2.out _ (And.left (And.right (by assumption)))) HN2.out HOC.out (by rw [HBL.out]; unfold maxLen; omega) (by rw [HBL.out]; omega) (by exact Nat.le_trans (Nat.le_of_lt hlt0) (And.right (And.right (by assumption : ST w W #[.int .i64 A.k, .slice an A.nx.length cn, .slice aa A.ac.length ca] _)))) ?_; intro v9 w9 ho9 hg9
       obtain ⟨va9, vc9, rfl⟩ := own_shape ho9
       have S9 : ST w W #[.int .i64 A.k, .slice an A.nx.length cn, .slice aa A.ac.length ca] w9 := by
         first
           | exact st_grown hlt0 (Nat.le_refl _) hg9 (by assumption)
           | exact st_grown hlt0 S2.2.2 hg9 (by assumption)
       have hres9 : w9.heap[w.heap.size + 1]? = some (.cells #[.int .i64 0, .slice none 0 0, .slice none 0 0] 58 (0, 0)) := by
         first
           | exact res_grown hlt1 hg9 (Nat.le_refl _) (And.right (And.right (by assumption : ST w W #[.int .i64 A.k, .slice an A.nx.length cn, .slice aa A.ac.length ca] _))) hres2
           | exact res_grown hlt1 hg9 S2.2.2 (And.right (And.right (by assumption : ST w W #[.int .i64 A.k, .slice an A.nx.length cn, .slice aa A.ac.length ca] _))) (HA.out y2 _ S2.2.2 hres2)
           | exact res_grown hlt1 hg9 (Nat.le_refl _) (And.right (And.right (by assumption : ST w W #[.int .i64 A.k, .slice an A.nx.length cn, .slice aa A.ac.length ca] _))) (HA.out W.drew _ (Nat.le_refl _) H0.out)
       have hs0 : w9.cell? ⟨w.heap.size + 1, 0, none⟩ = some (.int .i64 0) := cell_of hres9
       have hs1 : w9.cell? ⟨w.heap.size + 1, 1, none⟩ = some (.slice none 0 0) := cell_of hres9
       have hs2 : w9.cell? ⟨w.heap.size + 1, 2, none⟩ = some (.slice none 0 0) := cell_of hres9
       have hsf : ∀ j, w9.frozen? ⟨w.heap.size + 1, j, none⟩ = false := fun j => froz_of hres9
       have HO9 : Hid (w9.ownsRow w.heap.size 4 1 (.slice va9 (bC A.ac).length vc9) (bC A.ac).length (bC A.ac)) := ho9
       try (have HI9 : Hid (w9.ownsRow w.heap.size 3 1 (.slice (some ⟨g, 0, none⟩) n gc) n (zC (A.nx ++ [-77, -78]))) := by
              show World.ownsRow _ _ _ _ _ _ _
              first
                | exact HI2.out.kept hg9 (.inr (fun e => by
                    obtain ⟨_, cur, hc⟩ := own_blk HI2.out (b := g) rfl
                    obtain ⟨_, cur', hc'⟩ := own_blk (own_below (HE.out W.drew (Nat.le_refl _)) hy2) (b := g) e.symm
                    rw [hc] at hc'
                    cases hc'))
                | exact (HI2.out.alloc _).kept hg9 (.inr (fun e => by
                    have h1 := (HI2.out.lt g rfl).2
                    have e2 : some g = some y2.heap.size := e
                    simp at e2
                    omega)))
       clear ho9 hg9))
  all_goals (
    first
    | (have H9 : Hid (w9.ownsRow w.heap.size 3 1 (.slice (some ⟨g, 0, none⟩) n gc) n (zC (A.nx ++ [-77, -78])) ∧ w9.ownsRow w.heap.size 4 1 (.slice va9 (bC A.ac).length vc9) (bC A.ac).length (bC A.ac) ∧ w9.heap[w.heap.size + 1]? = some (.cells #[.int .i64 0, .slice none 0 0, .slice none 0 0] 58 (0, 0)) ∧ Below w.heap.size w w9) := ⟨HI9.out, HO9.out, hres9, S9.2.1⟩)
    | (have H9 : Hid (y2.ownsRow w.heap.size 3 1 (.slice (some ⟨g, 0, none⟩) n gc) n (zC (A.nx ++ [-77, -78])) ∧ y2.ownsRow w.heap.size 4 1 (.slice va9 (bC A.ac).length vc9) (bC A.ac).length (bC A.ac) ∧ y2.heap[w.heap.size + 1]? = some (.cells #[.int .i64 0, .slice none 0 0, .slice none 0 0] 58 (0, 0)) ∧ Below w.heap.size w y2) := ⟨HI2.out, own_below HO9.out hy2, hres2, S2.2.1⟩))
  all_goals (
    obtain ⟨f1, f2⟩ := lq_done HNN.out H9.out
    have F1 : Hid _ := f1
    have F2 : Hid _ := f2
    clear f1 f2
    go_wp2_with fail
    exact bodyPost_ret (results_auto1 rfl rfl F1.out rfl) rfl F2.out)
end Go.Proofs.Ytihjhkbbpphocaa

namespace Go.Proofs.Ytihjhkbbpphocaa
open Go Go.RowKit Go.Lib
set_option linter.unusedVariables false

/-- Two blocks' cells, and all below W, stay. -/
abbrev SB2 (W : World) (b c : Nat) (arr brr : Array Value) (w' : World) : Prop := (∀ o, w'.cell? ⟨b, o, none⟩ = arr[o]?) ∧ (∀ o, w'.cell? ⟨c, o, none⟩ = brr[o]?) ∧ Below W.heap.size W w'
theorem sb2_of {W w' : World} {b c : Nat} {arr brr : Array Value} (r : RowAt W b arr) (s : RowAt W c brr) (h : Below W.heap.size W w') : SB2 W b c arr brr w' := ⟨(r.stay h).cell, (s.stay h).cell, h⟩
theorem sb2_step {W w1 w2 : World} {b c : Nat} {arr brr : Array Value} (r : RowAt W b arr) (s : RowAt W c brr) (hb : Below w1.heap.size w1 w2) (h : SB2 W b c arr brr w1) : SB2 W b c arr brr w2 := sb2_of r s (go_on h.2.2 hb)

end Go.Proofs.Ytihjhkbbpphocaa

namespace Go.Proofs.Ytihjhkbbpphocaa
open Go Go.ChangeShapes Go.WideShapes Go.ChangeAt Go.RowKit Go.Deep
set_option linter.unusedVariables false

theorem Try.cells_int1 : Try.prog.cellsOf 3 = 1 := by kernel_rfl
theorem Try.cells_bool1 : Try.prog.cellsOf 4 = 1 := by kernel_rfl
theorem Try.cells_ints1 : Try.prog.cellsOf 22 = 1 := by kernel_rfl
theorem Try.cells_bools1 : Try.prog.cellsOf 56 = 1 := by kernel_rfl
theorem Try.cells_auto : Try.prog.cellsOf 58 = 3 := by kernel_rfl
theorem Try.bytes_int1 : Try.prog.bytesOf 3 = 8 := by kernel_rfl
theorem Try.bytes_bool1 : Try.prog.bytesOf 4 = 1 := by kernel_rfl
theorem Try.laidOut : laidOutB Try.prog = true := by kernel_rfl
theorem vals_at {w : World} {a : Addr} {n : Nat} {f : Nat → Value} (h : ∀ i, i < n → w.cell? (a.add i) = some (f i)) (hp : 0 < n) : ∃ b off, a = ⟨b, off, none⟩ ∧ ∀ j, j < n → w.cell? ⟨b, off + j, none⟩ = some (f j) := by
  obtain ⟨b, off, spot⟩ := a
  have hspot : spot = none := by simpa [Addr.add] using World.cell?_spot (h 0 hp)
  subst hspot
  exact ⟨b, off, rfl, fun j hj => by rw [← Go.WideShapes.add_plain]; exact h j hj⟩

set_option maxRecDepth 100000 in
theorem open_auto {H : Type} {enc : TypeId × Value → H} {w : World} {held : Bool} {r : Reach} {b0 : Nat} {v : Value} {d : DataW H} {ps : List MemPlace} (hval : Value.okWide Try.prog w r b0 58 v) (hd : DataW.Trod enc Try.prog w 0 (fun _ => true) held 58 v d ps) :
    ∃ A : Aut, AR w v A ∧ NilOk v ∧ (Lit.int .i64 A.k).wf = true ∧ ∃ dk dn da, d = .agg [dk, dn, da] ∧ ((dn = .nil ∧ A.nx = []) ∨ ∃ e s, dn = .slice e s ∧ A.nx.length ≤ e.length + s.length) ∧ ((da = .nil ∧ A.ac = []) ∨ ∃ e s, da = .slice e s ∧ A.ac.length ≤ e.length + s.length) := by
  simp only [Value.okWide, Try.underlying58] at hval
  obtain ⟨cs, rfl, hsz, _⟩ := hval
  rw [Try.cells_auto] at hsz
  obtain ⟨fuel, hf⟩ := hd
  obtain ⟨y0, y1, y2, m, hx, _, h0, h1, h2⟩ := trod_struct3 Try.underlying58 hf
  obtain ⟨c0, c1, c2, hcs⟩ : ∃ c0 c1 c2, cs = #[c0, c1, c2] := ⟨cs[0], cs[1], cs[2], by
    apply Array.ext_getElem?
    intro i
    have : i = 0 ∨ i = 1 ∨ i = 2 ∨ 3 ≤ i := by omega
    rcases this with rfl | rfl | rfl | hi
    · simp [hsz]
    · simp [hsz]
    · simp [hsz]
    · rw [Array.getElem?_eq_none (by omega), Array.getElem?_eq_none (by simp; omega)]⟩
  subst hcs
  simp only [Try.cells_int1, Try.cells_ints1, Try.cells_bools1, Value.cells] at h0 h1 h2
  obtain ⟨k, ek, xk, wk⟩ := DataW.trod_int Try.underlying3 h0
  simp at ek
  subst ek
  simp only [Prod.mk.injEq] at hx
  obtain ⟨nx, an, cn, e1, s1, n1, d1⟩ : ∃ (nx : List Int) (an : Option Addr) (cn : Nat), c1 = .slice an nx.length cn ∧ SR w an (zC nx) ∧ (an = none → cn = 0) ∧ ((y1.1 = .nil ∧ nx = []) ∨ ∃ e s, y1.1 = .slice e s ∧ nx.length ≤ e.length + s.length) := by
    rcases open_ints Try.underlying22 Try.underlying3 Try.cells_int1 h1 with ⟨hc, hx1⟩ | ⟨a', len', cap', zs, hc, _, hl, _, hzl, hx1, hcells, _⟩
    · simp at hc
      subst hc
      exact ⟨[], none, 0, rfl, SR.nil _ _, fun _ => rfl, .inl ⟨by rw [hx1], rfl⟩⟩
    · simp at hc
      subst hc
      have hle : len' ≤ zs.length := by
        rw [hzl]
        split <;> omega
      refine ⟨zs.take len', some a', cap', by rw [List.length_take, Nat.min_eq_left hle], ?_, (fun h => by cases h), .inr ⟨_, _, by rw [hx1], ?_⟩⟩
      · intro i u hi
        have hi' : i < len' := by
          have := (List.getElem?_eq_some_iff.1 hi).1
          simp [zC] at this
          omega
        obtain ⟨b, off, rfl, hc⟩ := ints_at hcells (by omega)
        have hh := hc i (by omega)
        refine ⟨b, off, rfl, World.block_lt_of_cell? w _ hh, ?_⟩
        rw [hh, ← hi]
        simp [zC, List.getD_eq_getElem?_getD, hi', List.getElem?_eq_getElem (show i < zs.length by omega)]
      · simp [lits]
  obtain ⟨ac, aa, ca, e2, s2, n2, d2⟩ : ∃ (ac : List Bool) (aa : Option Addr) (ca : Nat), c2 = .slice aa ac.length ca ∧ SR w aa (bC ac) ∧ (aa = none → ca = 0) ∧ ((y2.1 = .nil ∧ ac = []) ∨ ∃ e s, y2.1 = .slice e s ∧ ac.length ≤ e.length + s.length) := by
    rcases open_bools Try.underlying56 Try.underlying4 Try.cells_bool1 h2 with ⟨hc, hx1⟩ | ⟨a', len', cap', B, hc, _, hl, _, hx1, hcells⟩
    · simp at hc
      subst hc
      exact ⟨[], none, 0, rfl, SR.nil _ _, fun _ => rfl, .inl ⟨by rw [hx1], rfl⟩⟩
    · simp at hc
      subst hc
      refine ⟨(List.range len').map B, some a', cap', by simp, ?_, (fun h => by cases h), .inr ⟨_, _, by rw [hx1]; rfl, by simp⟩⟩
      intro i u hi
      have hi' : i < len' := by
        have := (List.getElem?_eq_some_iff.1 hi).1
        simp [bC] at this
        omega
      obtain ⟨b, off, rfl, hc⟩ := vals_at (n := cap') (f := fun i => .bool (B i)) hcells (by omega)
      have hh := hc i (by omega)
      refine ⟨b, off, rfl, World.block_lt_of_cell? w _ hh, ?_⟩
      rw [hh, ← hi]
      simp [bC, hi']
  subst e1 e2
  exact ⟨⟨k, nx, ac⟩, ⟨an, cn, aa, ca, rfl, s1, s2⟩, fun k' an' n' cn' aa' m' ca' e => by simp at e; obtain ⟨_, ⟨rfl, _, rfl⟩, rfl, _, rfl⟩ := e; exact ⟨n1, n2⟩, wk, _, _, _, hx.1, d1, d2⟩
theorem sized_auto {H : Type} {ts : List TypeId} {ds : List (DataW H)} (h : (DataW.weightsEach Try.prog ts ds).all (· ≤ reachBytes) = true) {j : Nat} {dk dn da : DataW H} (ht : ts[j]? = some 58) (hd : ds[j]? = some (.agg [dk, dn, da])) :
    (∀ e s, dn = .slice e s → (e.length + s.length) * 8 ≤ reachBytes) ∧ (∀ e s, da = .slice e s → e.length + s.length ≤ reachBytes) := by
  constructor
  · intro e s he
    subst he
    have := List.all_eq_true.1 h _ (DataW.weights_mem_each ht hd ((e.length + s.length) * 8) (by simp [DataW.weights, DataW.weightsEach, Try.underlying58, Try.underlying22, Try.bytes_int1]))
    simpa using this
  · intro e s he
    subst he
    have := List.all_eq_true.1 h _ (DataW.weights_mem_each ht hd ((e.length + s.length) * 1) (by simp [DataW.weights, DataW.weightsEach, Try.underlying58, Try.underlying56, Try.bytes_bool1]))
    simpa using this
/-- The lists' lengths, by the form's own reach. -/
theorem auto_bounds {H : Type} {ts : List TypeId} {ds : List (DataW H)} (h : (DataW.weightsEach Try.prog ts ds).all (· ≤ reachBytes) = true) {j : Nat} {dk dn da : DataW H} (ht : ts[j]? = some 58) (hd : ds[j]? = some (.agg [dk, dn, da])) {A : Aut}
    (h1 : (dn = .nil ∧ A.nx = []) ∨ ∃ e s, dn = .slice e s ∧ A.nx.length ≤ e.length + s.length) (h2 : (da = .nil ∧ A.ac = []) ∨ ∃ e s, da = .slice e s ∧ A.ac.length ≤ e.length + s.length) :
    (A.nx.length + 2) * 8 ≤ 140737488355328 ∧ A.ac.length ≤ 140737488355328 := by
  obtain ⟨b1, b2⟩ := sized_auto h ht hd
  constructor
  · rcases h1 with ⟨_, e⟩ | ⟨e, s, he, hl⟩
    · rw [e]; decide
    · have := b1 e s he
      simp only [reachBytes] at this
      omega
  · rcases h2 with ⟨_, e⟩ | ⟨e, s, he, hl⟩
    · rw [e]; decide
    · have := b2 e s he
      simp only [reachBytes] at this
      omega
end Go.Proofs.Ytihjhkbbpphocaa

namespace Go.Proofs.Ytihjhkbbpphocaa
open Go Go.RowKit Go.Lib
set_option linter.unusedVariables false

/-- n ints of one's own, in block g. -/
def FR (w : World) (g n : Nat) (f : Nat → Nat) : Prop := ∃ cur : Array Value, w.heap[g]? = some (.cells cur 3 (0, 0)) ∧ n ≤ cur.size ∧ ∀ j, j < n → cur[j]? = some (.int .i64 ((f j : Nat) : Int))
theorem FR.lt {w : World} {g n : Nat} {f : Nat → Nat} (h : FR w g n f) : g < w.heap.size := by
  obtain ⟨cur, h1, h2, h3⟩ := h
  exact (Array.getElem?_eq_some_iff.1 h1).1
theorem FR.keep {w w' : World} {g n : Nat} {f : Nat → Nat} (h : FR w g n f) (e : w'.heap[g]? = w.heap[g]?) : FR w' g n f := by
  obtain ⟨cur, h1, h2, h3⟩ := h
  exact ⟨cur, e.trans h1, h2, h3⟩
theorem FR.congr {w : World} {g n : Nat} {f f' : Nat → Nat} (h : FR w g n f) (e : ∀ j, j < n → f j = f' j) : FR w g n f' := by
  obtain ⟨cur, h1, h2, h3⟩ := h
  exact ⟨cur, h1, h2, fun j hj => by rw [← e j hj]; exact h3 j hj⟩
theorem FR.at {w : World} {g n : Nat} {f : Nat → Nat} (h : FR w g n f) {j : Nat} (hj : j < n) : w.cell? ⟨g, j, none⟩ = some (.int .i64 ((f j : Nat) : Int)) ∧ w.frozen? ⟨g, j, none⟩ = false := by
  obtain ⟨cur, h1, h2, h3⟩ := h
  refine ⟨?_, ?_⟩
  · have := h3 j hj
    simp [World.cell?, h1, this]
  · simp [World.frozen?, h1]
theorem FR.put {w : World} {g n : Nat} {f : Nat → Nat} (h : FR w g n f) {i : Nat} (x : Nat) (hi : i < n) : FR (w.setCell ⟨g, i, none⟩ (.int .i64 (x : Int))) g n (fun j => if j = i then x else f j) := by
  obtain ⟨cur, h1, h2, h3⟩ := h
  refine ⟨_, heap_set h1, by simpa using h2, fun j hj => ?_⟩
  rw [Array.getElem?_setIfInBounds]
  by_cases e : i = j
  · subst e
    rw [if_pos rfl, if_pos (by omega)]
    simp
  · rw [if_neg e, h3 j hj]
    show _ = some (Value.int .i64 (((if j = i then x else f j) : Nat) : Int))
    rw [if_neg (fun q => e q.symm)]
theorem own_fr {w : World} {base n : Nat} {v : Value} {l : List Nat} (h1 : 1 ≤ n) (hl : l.length = n) (h : w.ownsRow base 3 1 v n (zC (pI l))) : ∃ g c, v = .slice (some ⟨g, 0, none⟩) n c ∧ base ≤ g ∧ FR w g n (fun j => l.getD j 0) := by
  rcases h.2 with ⟨_, q⟩ | ⟨g, cap, cur, e, hb, hc, q1, q2, q3, q4⟩
  · omega
  · refine ⟨g, cap, e, hb, cur, hc, by omega, fun j hj => ?_⟩
    have : (cur.toList.take (n * 1))[j]? = (zC (pI l))[j]? := by rw [q4]
    rw [List.getElem?_take, if_pos (by omega)] at this
    rw [← Array.getElem?_toList, this]
    simp [zC, pI, List.getD_eq_getElem?_getD, List.getElem?_eq_getElem (by omega : j < l.length)]
theorem FR.reads {w : World} {g n c : Nat} {f : Nat → Nat} {l : List Nat} (h : FR w g n f) (hl : l.length = n) (e : ∀ j, j < n → f j = im l j) : Reads w (.slice (some ⟨g, 0, none⟩) n c) (pI l) := by
  refine ⟨some ⟨g, 0, none⟩, c, by rw [pI_len, hl], fun i hi => ⟨g, 0, rfl, h.lt, ?_⟩⟩
  rw [pI_len, hl] at hi
  rw [pI_get (by omega), Nat.zero_add, (h.at hi).1, e i hi]

set_option maxHeartbeats 8000000 in
set_option maxRecDepth 100000 in
theorem rdoes_any (v : Value) (A : Aut) (w : World) (h : AR w v A) (G : Good A) (h64 : A.ac.length ≤ 64) (b : ByteArray) (hb : Lts A.k b) (hz : b.size ≤ 9223372036854775807) :
    Calls Try.prog 51 #[v, .string b] w fun e w' => ∃ g c, e = .returned (.slice (some ⟨g, 0, none⟩) A.ac.length c) ∧ FR w' g A.ac.length (fun s => goN A s (lets b)) ∧ w.heap.size ≤ g ∧ Below w.heap.size w w' := by
  obtain ⟨an, cn, aa, ca, e, h1, h2⟩ := h.is
  have hn1 := G.n1
  have hn0 : 0 < A.nx.length := by
    have := (G.at (s := 0) (c := 0) (by omega) (by have := G.k1; omega)).1
    omega
  obtain ⟨gn, on, hgn, _, _⟩ := h1.int hn0
  subst hgn
  have CN : Hid (∀ y p, Below w.heap.size w y → p < A.nx.length → y.cell? ⟨gn, on + p, none⟩ = some (.int .i64 (A.nx.getD p 0))) := fun y p hy hp => by
    obtain ⟨g', o', e', hg', hc'⟩ := h1.int hp
    simp only [Option.some.injEq, Addr.mk.injEq] at e'
    obtain ⟨rfl, rfl, _⟩ := e'
    rw [below_cell hy hg']
    exact hc'
  have HGN : Hid (gn < w.heap.size) := by
    obtain ⟨g', o', e', hg', hc'⟩ := h1.int hn0
    simp only [Option.some.injEq, Addr.mk.injEq] at e'
    obtain ⟨rfl, rfl, _⟩ := e'
    exact hg'
  have HG : Hid (Good A) := G
  have HL : Hid (Lts A.k b) := hb
  have HR : Hid (∀ s, s < A.ac.length → ∀ i, goN A s ((lets b).take i) < A.ac.length) := fun s hs i => run_lt G hs hb i
  have HT : Hid (∀ s i (hi : i < b.size), goN A s ((lets b).take (i + 1)) = dN A (goN A s ((lets b).take i)) (b[i].toNat - 97)) := fun s => goN_take A s b
  have H64 : Hid (A.ac.length ≤ 64) := h64
  have hnz : A.ac.length ≤ 64 := h64
  clear h h1 h2 G hb hn0
  subst e
  obtain ⟨W, hW⟩ : ∃ W, W = w.alloc (.cells #[.int .i64 A.k, .slice (some ⟨gn, on, none⟩) A.nx.length cn, .slice aa A.ac.length ca] 58) := ⟨_, rfl⟩
  have HW : Hid (Below w.heap.size w W) := by show Below w.heap.size w W; rw [hW]; exact below_new _ _
  have HX : Hid (W.heap[w.heap.size]? = some (.cells #[.int .i64 A.k, .slice (some ⟨gn, on, none⟩) A.nx.length cn, .slice aa A.ac.length ca] 58 (0, 0))) := by show _ = _; rw [hW]; exact heap_last _ _
  have HWE : Hid (W = w.alloc (.cells #[.int .i64 A.k, .slice (some ⟨gn, on, none⟩) A.nx.length cn, .slice aa A.ac.length ca] 58)) := hW
  clear hW
  go_enter Try.func51, Try.ntmps51
  go_wp2_with fail
  rw [← HWE.out]
  refine (rest_any A.ac.length H64.out _).mono ?_
  rintro e w1 ⟨v1, rfl, hO, hB1⟩
  obtain ⟨g, c, rfl, hg, hF⟩ := own_fr hn1 (stl_len _) hO
  have HF1 : Hid (FR w1 g A.ac.length (fun s => goN A s ((lets b).take 0))) := hF.congr (fun j hj => by rw [List.take_zero]; exact stl_im hj)
  have HB1 : Hid (Below W.heap.size W w1) := hB1
  have HGW : Hid (W.heap.size ≤ g) := hg
  have HX1 : Hid (w.heap.size < W.heap.size) := (Array.getElem?_eq_some_iff.1 HX.out).1
  clear hO hF hB1 hg HWE
  go_wp2_with fail
  go_loopw [6, 7] (fun vi _ wr => ∃ i : Nat, vi = .int .i64 i ∧ i ≤ b.size ∧ FR wr g A.ac.length (fun s => goN A s ((lets b).take i)) ∧ Below W.heap.size W wr) (fun vi _ _ => b.size - (intOf vi).toNat)
  case atStart => exact ⟨0, rfl, Nat.zero_le _, HF1.out, HB1.out⟩
  case round =>
    clear HF1 HB1
    obtain ⟨i, rfl, hin, hF, hB⟩ := hrel
    have HF : Hid (FR wr g A.ac.length (fun s => goN A s ((lets b).take i))) := hF
    have HB : Hid (Below W.heap.size W wr) := hB
    clear hF hB
    obtain ⟨wr3, h3⟩ : ∃ z, z = wr := ⟨_, rfl⟩
    subst h3
    by_cases hlt : i < b.size
    · have hiI : (i : Int) < b.size := by omega
      have hid : decide ((i : Int) < b.size) = true := decide_eq_true hiI
      go_wp2_with fail
      go_loopw [7] (fun vs wr => ∃ s : Nat, vs = .int .i64 s ∧ s ≤ A.ac.length ∧ FR wr g A.ac.length (fun j => if j < s then goN A j ((lets b).take (i + 1)) else goN A j ((lets b).take i)) ∧ Below W.heap.size W wr) (fun vs _ => A.ac.length - (intOf vs).toNat)
      case atStart => exact ⟨0, rfl, Nat.zero_le _, HF.out.congr (fun j _ => by rw [if_neg (by omega)]), HB.out⟩
      case round =>
        clear HF HB
        obtain ⟨s, rfl, hsn, hF, hB⟩ := hrel
        obtain ⟨wr5, h5⟩ : ∃ z, z = wr := ⟨_, rfl⟩
        subst h5
        have HF : Hid (FR wr5 g A.ac.length (fun j => if j < s then goN A j ((lets b).take (i + 1)) else goN A j ((lets b).take i))) := hF
        have HB : Hid (Below W.heap.size W wr5) := hB
        by_cases hls : s < A.ac.length
        · have hsI : (s : Int) < A.ac.length := by omega
          have hsd : decide ((s : Int) < A.ac.length) = true := decide_eq_true hsI
          obtain ⟨q, hq⟩ : ∃ q, goN A s ((lets b).take i) = q := ⟨_, rfl⟩
          have hqn : q < A.ac.length := by rw [← hq]; exact HR.out s hls i
          obtain ⟨l1, l2⟩ := HL.out i hlt
          obtain ⟨c7, hc7⟩ : ∃ c7, b[i].toNat - 97 = c7 := ⟨_, rfl⟩
          have hk8 := HG.out.k8
          have hk1 := HG.out.k1
          have hcv : IntKind.u8.wrap ((b[i].toNat : Int) - 97) = (c7 : Int) := by rw [IntKind.wrap_u8]; omega
          have hcv2 : IntKind.i64.wrap (c7 : Int) = (c7 : Int) := by rw [IntKind.wrap_i64]; omega
          have hck : (c7 : Int) < A.k := by omega
          obtain ⟨h1p, h2p, h3p⟩ := HG.out.at hqn hck
          obtain ⟨d, hd⟩ : ∃ d, dN A q c7 = d := ⟨_, rfl⟩
          rw [hd] at h2p h3p
          have HD : Hid (goN A s ((lets b).take (i + 1)) = d) := by show _ = _; rw [HT.out s i hlt, hq, hc7, hd]
          have hcx : wr5.cell? ⟨gn, on + (q * A.k.toNat + c7), none⟩ = some (.int .i64 (d : Int)) := by rw [CN.out wr5 _ (HW.out.trans (hB.mono HW.out.size)) h1p, h2p]
          have hp1 : (q : Int) * A.k = ((q * A.k.toNat : Nat) : Int) := by rw [Int.natCast_mul]; congr 1; omega
          have hp2 : q * A.k.toNat ≤ 64 * 8 := Nat.mul_le_mul (by omega) (by omega)
          obtain ⟨p0, hp0⟩ : ∃ p0, q * A.k.toNat = p0 := ⟨_, rfl⟩
          rw [hp0] at hp1 hp2 hcx h1p
          have hw1 : IntKind.i64.wrap ((q : Int) * A.k) = (p0 : Int) := by rw [hp1, IntKind.wrap_i64]; omega
          obtain ⟨p, hpp⟩ : ∃ p, p0 + c7 = p := ⟨_, rfl⟩
          have hw2 : IntKind.i64.wrap ((p0 : Int) + c7) = (p : Int) := by rw [IntKind.wrap_i64]; omega
          have hpI : (p : Int) < A.nx.length := by omega
          rw [hpp] at hcx
          obtain ⟨hcg, hfg⟩ := hF.at hls
          simp only [Nat.lt_irrefl, if_false] at hcg
          rw [hq] at hcg
          have hbx : wr5.heap[w.heap.size]? = some (.cells #[.int .i64 A.k, .slice (some ⟨gn, on, none⟩) A.nx.length cn, .slice aa A.ac.length ca] 58 (0, 0)) := (hB.block _ HX1.out).trans HX.out
          have q0 : wr5.cell? ⟨w.heap.size, 0, none⟩ = some (.int .i64 A.k) := cell_of hbx
          have q1 : wr5.cell? ⟨w.heap.size, 1, none⟩ = some (.slice (some ⟨gn, on, none⟩) A.nx.length cn) := cell_of hbx
          have HFN : Hid (FR (wr5.drew.setCell ⟨g, s, none⟩ (.int .i64 (d : Int))) g A.ac.length (fun j => if j < s + 1 then goN A j ((lets b).take (i + 1)) else goN A j ((lets b).take i))) := by
            have := (hF.keep (w' := wr5.drew) rfl).put d hls
            refine this.congr (fun j hj => ?_)
            by_cases e : j = s
            · subst e
              rw [if_pos rfl, if_pos (by omega), HD.out]
            · rw [if_neg e]
              by_cases e2 : j < s
              · rw [if_pos e2, if_pos (by omega)]
              · rw [if_neg e2, if_neg (by omega)]
          have HBN : Hid (Below W.heap.size W (wr5.drew.setCell ⟨g, s, none⟩ (.int .i64 (d : Int)))) := hB.drew.setCell (p := ⟨g, s, none⟩) HGW.out _
          clear hq hqn h1p h2p h3p hd hp1 hp2 hp0 hpp hbx hF hB hc7 l1 l2 hk8 hk1
          go_upto_region 8 with fail
          obtain ⟨y0, hy0⟩ : ∃ z, z = wr5.drew := ⟨_, rfl⟩
          have hS0 : (y0.cell? ⟨w.heap.size, 0, none⟩ = some (.int .i64 A.k) ∧ y0.cell? ⟨w.heap.size, 1, none⟩ = some (.slice (some ⟨gn, on, none⟩) A.nx.length cn) ∧ y0.cell? ⟨gn, on + p, none⟩ = some (.int .i64 (d : Int)) ∧ y0.cell? ⟨g, s, none⟩ = some (.int .i64 (q : Int)) ∧ y0.frozen? ⟨g, s, none⟩ = false) := by rw [hy0]; exact ⟨q0, q1, hcx, hcg, hfg⟩
          refine wp_region_L 20 (fun y => (y.cell? ⟨w.heap.size, 0, none⟩ = some (.int .i64 A.k) ∧ y.cell? ⟨w.heap.size, 1, none⟩ = some (.slice (some ⟨gn, on, none⟩) A.nx.length cn) ∧ y.cell? ⟨gn, on + p, none⟩ = some (.int .i64 (d : Int)) ∧ y.cell? ⟨g, s, none⟩ = some (.int .i64 (q : Int)) ∧ y.frozen? ⟨g, s, none⟩ = false)) (by kernel_rfl) (by rw [← hy0]; exact hS0) (fun hH0 => ?_)
          rw [← hy0] at hH0 ⊢
          clear hS0
          refine wpAnyL_take (i := 0) (oi := { dst := some 24, op := Go.Op.move (Go.Operand.tmp 5), type := 22, pos := "ref.go:254", after := #[], guard := none }) (v := ?_) rfl (by kernel_rfl) (by kernel_rfl) (by decide) (by kernel_rfl) (by kernel_rfl) (by kernel_rfl) (fun _ _ _ h => h) (Or.inl ⟨by rfl, ?_⟩) (by assumption) ?_
          rotate_left
          · intro w' hS; go_simp; (try with_reducible rfl)
          simp only [Act.put, List.setIfInBounds_toArray, List.set_cons_zero, List.set_cons_succ]
          refine wpAnyL_take (i := 1) (oi := { dst := some 25, op := Go.Op.move (Go.Operand.tmp 7), type := 3, pos := "ref.go:254", after := #[], guard := none }) (v := ?_) rfl (by kernel_rfl) (by kernel_rfl) (by decide) (by kernel_rfl) (by kernel_rfl) (by kernel_rfl) (fun _ _ _ h => h) (Or.inl ⟨by rfl, ?_⟩) (by assumption) ?_
          rotate_left
          · intro w' hS; go_simp; (try with_reducible rfl)
          simp only [Act.put, List.setIfInBounds_toArray, List.set_cons_zero, List.set_cons_succ]
          refine wpAnyL_take (i := 2) (oi := { dst := some 26, op := Go.Op.fieldAddr 58 (Go.Operand.tmp 2) 1, type := 0, pos := "ref.go:254", after := #[], guard := none }) (v := ?_) rfl (by kernel_rfl) (by kernel_rfl) (by decide) (by kernel_rfl) (by kernel_rfl) (by kernel_rfl) (fun _ _ _ h => h) (Or.inl ⟨by rfl, ?_⟩) (by assumption) ?_
          rotate_left
          · intro w' hS; go_simp; (try with_reducible rfl)
          simp only [Act.put, List.setIfInBounds_toArray, List.set_cons_zero, List.set_cons_succ]
          refine wpAnyL_take (i := 3) (oi := { dst := some 27, op := Go.Op.load 22 (Go.Operand.tmp 26), type := 22, pos := "ref.go:254", after := #[{ on := 2, ground := Go.Ground.data }], guard := none }) (v := .slice (some ⟨gn, on, none⟩) A.nx.length cn) rfl (by kernel_rfl) (by kernel_rfl) (by decide) (by kernel_rfl) (by kernel_rfl) (by kernel_rfl) (fun _ _ _ h => h) (Or.inl ⟨by rfl, ?_⟩) (by assumption) ?_
          · intro w' hS; obtain ⟨z0, z1, z2, z3, z4⟩ := hS; go_simp
          simp only [Act.put, List.setIfInBounds_toArray, List.set_cons_zero, List.set_cons_succ]
          refine wpAnyL_take (i := 4) (oi := { dst := some 28, op := Go.Op.move (Go.Operand.tmp 5), type := 22, pos := "ref.go:254", after := #[], guard := none }) (v := ?_) rfl (by kernel_rfl) (by kernel_rfl) (by decide) (by kernel_rfl) (by kernel_rfl) (by kernel_rfl) (fun _ _ _ h => h) (Or.inl ⟨by rfl, ?_⟩) (by assumption) ?_
          rotate_left
          · intro w' hS; go_simp; (try with_reducible rfl)
          simp only [Act.put, List.setIfInBounds_toArray, List.set_cons_zero, List.set_cons_succ]
          refine wpAnyL_take (i := 5) (oi := { dst := some 29, op := Go.Op.move (Go.Operand.tmp 7), type := 3, pos := "ref.go:254", after := #[], guard := none }) (v := ?_) rfl (by kernel_rfl) (by kernel_rfl) (by decide) (by kernel_rfl) (by kernel_rfl) (by kernel_rfl) (fun _ _ _ h => h) (Or.inl ⟨by rfl, ?_⟩) (by assumption) ?_
          rotate_left
          · intro w' hS; go_simp; (try with_reducible rfl)
          simp only [Act.put, List.setIfInBounds_toArray, List.set_cons_zero, List.set_cons_succ]
          refine wpAnyL_take (i := 6) (oi := { dst := some 30, op := Go.Op.indexAddr 22 (Go.Operand.tmp 28) (Go.Operand.tmp 29), type := 0, pos := "ref.go:254", after := #[{ on := 4, ground := Go.Ground.data }, { on := 5, ground := Go.Ground.data }], guard := none }) (v := ?_) rfl (by kernel_rfl) (by kernel_rfl) (by decide) (by kernel_rfl) (by kernel_rfl) (by kernel_rfl) (fun _ _ _ h => h) (Or.inl ⟨by rfl, ?_⟩) (by assumption) ?_
          rotate_left
          · intro w' hS; go_simp; (try with_reducible rfl)
          simp only [Act.put, List.setIfInBounds_toArray, List.set_cons_zero, List.set_cons_succ]
          refine wpAnyL_take (i := 7) (oi := { dst := some 31, op := Go.Op.load 3 (Go.Operand.tmp 30), type := 3, pos := "ref.go:254", after := #[{ on := 6, ground := Go.Ground.data }], guard := none }) (v := .int .i64 (q : Int)) rfl (by kernel_rfl) (by kernel_rfl) (by decide) (by kernel_rfl) (by kernel_rfl) (by kernel_rfl) (fun _ _ _ h => h) (Or.inl ⟨by rfl, ?_⟩) (by assumption) ?_
          · intro w' hS; obtain ⟨z0, z1, z2, z3, z4⟩ := hS; go_simp
          simp only [Act.put, List.setIfInBounds_toArray, List.set_cons_zero, List.set_cons_succ]
          refine wpAnyL_take (i := 8) (oi := { dst := some 32, op := Go.Op.fieldAddr 58 (Go.Operand.tmp 2) 0, type := 0, pos := "ref.go:254", after := #[], guard := none }) (v := ?_) rfl (by kernel_rfl) (by kernel_rfl) (by decide) (by kernel_rfl) (by kernel_rfl) (by kernel_rfl) (fun _ _ _ h => h) (Or.inl ⟨by rfl, ?_⟩) (by assumption) ?_
          rotate_left
          · intro w' hS; go_simp; (try with_reducible rfl)
          simp only [Act.put, List.setIfInBounds_toArray, List.set_cons_zero, List.set_cons_succ]
          refine wpAnyL_take (i := 9) (oi := { dst := some 33, op := Go.Op.load 3 (Go.Operand.tmp 32), type := 3, pos := "ref.go:254", after := #[{ on := 8, ground := Go.Ground.data }], guard := none }) (v := .int .i64 A.k) rfl (by kernel_rfl) (by kernel_rfl) (by decide) (by kernel_rfl) (by kernel_rfl) (by kernel_rfl) (fun _ _ _ h => h) (Or.inl ⟨by rfl, ?_⟩) (by assumption) ?_
          · intro w' hS; obtain ⟨z0, z1, z2, z3, z4⟩ := hS; go_simp
          simp only [Act.put, List.setIfInBounds_toArray, List.set_cons_zero, List.set_cons_succ]
          refine wpAnyL_take (i := 10) (oi := { dst := some 34, op := Go.Op.binOp Go.BinOp.mul 3 (Go.Operand.tmp 31) (Go.Operand.tmp 33) 3, type := 3, pos := "ref.go:254", after := #[{ on := 7, ground := Go.Ground.data }, { on := 9, ground := Go.Ground.data }], guard := none }) (v := ?_) rfl (by kernel_rfl) (by kernel_rfl) (by decide) (by kernel_rfl) (by kernel_rfl) (by kernel_rfl) (fun _ _ _ h => h) (Or.inl ⟨by rfl, ?_⟩) (by assumption) ?_
          rotate_left
          · intro w' hS; go_simp; (try with_reducible rfl)
          simp only [Act.put, List.setIfInBounds_toArray, List.set_cons_zero, List.set_cons_succ]
          refine wpAnyL_take (i := 11) (oi := { dst := some 35, op := Go.Op.move (Go.Operand.tmp 1), type := 9, pos := "ref.go:254", after := #[], guard := none }) (v := ?_) rfl (by kernel_rfl) (by kernel_rfl) (by decide) (by kernel_rfl) (by kernel_rfl) (by kernel_rfl) (fun _ _ _ h => h) (Or.inl ⟨by rfl, ?_⟩) (by assumption) ?_
          rotate_left
          · intro w' hS; go_simp; (try with_reducible rfl)
          simp only [Act.put, List.setIfInBounds_toArray, List.set_cons_zero, List.set_cons_succ]
          refine wpAnyL_take (i := 12) (oi := { dst := some 36, op := Go.Op.move (Go.Operand.tmp 6), type := 3, pos := "ref.go:254", after := #[], guard := none }) (v := ?_) rfl (by kernel_rfl) (by kernel_rfl) (by decide) (by kernel_rfl) (by kernel_rfl) (by kernel_rfl) (fun _ _ _ h => h) (Or.inl ⟨by rfl, ?_⟩) (by assumption) ?_
          rotate_left
          · intro w' hS; go_simp; (try with_reducible rfl)
          simp only [Act.put, List.setIfInBounds_toArray, List.set_cons_zero, List.set_cons_succ]
          refine wpAnyL_take (i := 13) (oi := { dst := some 37, op := Go.Op.index 9 (Go.Operand.tmp 35) (Go.Operand.tmp 36), type := 5, pos := "ref.go:254", after := #[{ on := 11, ground := Go.Ground.data }, { on := 12, ground := Go.Ground.data }], guard := none }) (v := ?_) rfl (by kernel_rfl) (by kernel_rfl) (by decide) (by kernel_rfl) (by kernel_rfl) (by kernel_rfl) (fun _ _ _ h => h) (Or.inl ⟨by rfl, ?_⟩) (by assumption) ?_
          rotate_left
          · intro w' hS; go_simp; (try with_reducible rfl)
          simp only [Act.put, List.setIfInBounds_toArray, List.set_cons_zero, List.set_cons_succ]
          refine wpAnyL_take (i := 14) (oi := { dst := some 38, op := Go.Op.binOp Go.BinOp.sub 5 (Go.Operand.tmp 37) (Go.Operand.const (Go.Value.int Go.IntKind.u8 97)) 5, type := 5, pos := "ref.go:254", after := #[{ on := 13, ground := Go.Ground.data }], guard := none }) (v := ?_) rfl (by kernel_rfl) (by kernel_rfl) (by decide) (by kernel_rfl) (by kernel_rfl) (by kernel_rfl) (fun _ _ _ h => h) (Or.inl ⟨by rfl, ?_⟩) (by assumption) ?_
          rotate_left
          · intro w' hS; go_simp; (try with_reducible rfl)
          simp only [Act.put, List.setIfInBounds_toArray, List.set_cons_zero, List.set_cons_succ]
          refine wpAnyL_take (i := 15) (oi := { dst := some 39, op := Go.Op.convert 5 3 (Go.Operand.tmp 38), type := 3, pos := "ref.go:254", after := #[{ on := 14, ground := Go.Ground.data }], guard := none }) (v := ?_) rfl (by kernel_rfl) (by kernel_rfl) (by decide) (by kernel_rfl) (by kernel_rfl) (by kernel_rfl) (fun _ _ _ h => h) (Or.inl ⟨by rfl, ?_⟩) (by assumption) ?_
          rotate_left
          · intro w' hS; go_simp; (try with_reducible rfl)
          simp only [Act.put, List.setIfInBounds_toArray, List.set_cons_zero, List.set_cons_succ]
          refine wpAnyL_take (i := 16) (oi := { dst := some 40, op := Go.Op.binOp Go.BinOp.add 3 (Go.Operand.tmp 34) (Go.Operand.tmp 39) 3, type := 3, pos := "ref.go:254", after := #[{ on := 10, ground := Go.Ground.data }, { on := 15, ground := Go.Ground.data }], guard := none }) (v := ?_) rfl (by kernel_rfl) (by kernel_rfl) (by decide) (by kernel_rfl) (by kernel_rfl) (by kernel_rfl) (fun _ _ _ h => h) (Or.inl ⟨by rfl, ?_⟩) (by assumption) ?_
          rotate_left
          · intro w' hS; go_simp; (try with_reducible rfl)
          simp only [Act.put, List.setIfInBounds_toArray, List.set_cons_zero, List.set_cons_succ]
          refine wpAnyL_take (i := 17) (oi := { dst := some 41, op := Go.Op.indexAddr 22 (Go.Operand.tmp 27) (Go.Operand.tmp 40), type := 0, pos := "ref.go:254", after := #[{ on := 3, ground := Go.Ground.data }, { on := 16, ground := Go.Ground.data }], guard := none }) (v := ?_) rfl (by kernel_rfl) (by kernel_rfl) (by decide) (by kernel_rfl) (by kernel_rfl) (by kernel_rfl) (fun _ _ _ h => h) (Or.inl ⟨by rfl, ?_⟩) (by assumption) ?_
          rotate_left
          · intro w' hS; go_simp; (try with_reducible rfl)
          simp only [Act.put, List.setIfInBounds_toArray, List.set_cons_zero, List.set_cons_succ]
          refine wpAnyL_take (i := 18) (oi := { dst := some 42, op := Go.Op.load 3 (Go.Operand.tmp 41), type := 3, pos := "ref.go:254", after := #[{ on := 17, ground := Go.Ground.data }], guard := none }) (v := .int .i64 (d : Int)) rfl (by kernel_rfl) (by kernel_rfl) (by decide) (by kernel_rfl) (by kernel_rfl) (by kernel_rfl) (fun _ _ _ h => h) (Or.inl ⟨by rfl, ?_⟩) (by assumption) ?_
          · intro w' hS; obtain ⟨z0, z1, z2, z3, z4⟩ := hS; go_simp
          simp only [Act.put, List.setIfInBounds_toArray, List.set_cons_zero, List.set_cons_succ]
          refine wpAnyL_take (i := 19) (oi := { dst := some 43, op := Go.Op.indexAddr 22 (Go.Operand.tmp 24) (Go.Operand.tmp 25), type := 0, pos := "ref.go:254", after := #[{ on := 0, ground := Go.Ground.data }, { on := 1, ground := Go.Ground.data }, { on := 0, ground := Go.Ground.phase }, { on := 1, ground := Go.Ground.phase }, { on := 2, ground := Go.Ground.phase }, { on := 3, ground := Go.Ground.phase }, { on := 4, ground := Go.Ground.phase }, { on := 5, ground := Go.Ground.phase }, { on := 6, ground := Go.Ground.phase }, { on := 7, ground := Go.Ground.phase }, { on := 8, ground := Go.Ground.phase }, { on := 9, ground := Go.Ground.phase }, { on := 10, ground := Go.Ground.phase }, { on := 11, ground := Go.Ground.phase }, { on := 12, ground := Go.Ground.phase }, { on := 13, ground := Go.Ground.phase }, { on := 14, ground := Go.Ground.phase }, { on := 15, ground := Go.Ground.phase }, { on := 16, ground := Go.Ground.phase }, { on := 17, ground := Go.Ground.phase }, { on := 18, ground := Go.Ground.phase }], guard := none }) (v := ?_) rfl (by kernel_rfl) (by kernel_rfl) (by decide) (by kernel_rfl) (by kernel_rfl) (by kernel_rfl) (fun _ _ _ h => h) (Or.inl ⟨by rfl, ?_⟩) (by assumption) ?_
          rotate_left
          · intro w' hS; go_simp; (try with_reducible rfl)
          simp only [Act.put, List.setIfInBounds_toArray, List.set_cons_zero, List.set_cons_succ]
          refine wpAnyL_ready (rs := [20]) (by kernel_rfl) (by simp) ?_
          refine AllReadyL.last rfl (fun KQ hK => ?_)
          obtain ⟨z0, z1, z2, z3, z4⟩ := hH0
          go_simp
          refine hK.out _ _ ?_
          clear hK KQ
          refine wpAnyL_done (by kernel_rfl) ?_ _
          go_wp2_with fail
          go_roundw
          case rel => exact ⟨s + 1, by go_num, by omega, HFN.out, HBN.out⟩
          case measure => simp [intOf]; omega
        · have hsI : ¬ (s : Int) < A.ac.length := by omega
          have hsd : decide ((s : Int) < A.ac.length) = false := decide_eq_false hsI
          have hse : s = A.ac.length := by omega
          have HFE : Hid (FR wr5 g A.ac.length (fun j => goN A j ((lets b).take (i + 1)))) := hF.congr (fun j hj => by rw [if_pos (by omega)])
          clear hF hB HF
          go_wp2_with fail
          go_roundw
          case rel => exact ⟨i + 1, by go_num, by omega, HFE.out, HB.out⟩
          case measure => simp [intOf]; omega
    · have hiI : ¬ (i : Int) < b.size := by omega
      have hid : decide ((i : Int) < b.size) = false := decide_eq_false hiI
      have HFE : Hid (FR wr3 g A.ac.length (fun j => goN A j (lets b))) := HF.out.congr (fun j hj => by rw [List.take_of_length_le (by rw [lets_len]; omega)])
      go_wp2_with fail
      go_ret
      exact ⟨g, ⟨c, rfl⟩, HFE.out, Nat.le_trans HW.out.size HGW.out, HW.out.trans (HB.out.mono HW.out.size)⟩

theorem chk_scan {k : Int} (h1 : 1 ≤ k) (h8 : k ≤ 8) (b : ByteArray) (i : Nat) (hi : i < b.size) (h : b[i].toNat < 97 ∨ k ≤ (b[i].toNat : Int) - 97) : chk k b = 21 := by
  rcases chk_cases (b := b) h1 h8 with e | e
  · have := chk_all e i hi
    omega
  · exact e
theorem chk_zero {k : Int} (h1 : 1 ≤ k) (h8 : k ≤ 8) (b : ByteArray) (h : Lts k b) : chk k b = 0 := by
  unfold chk
  rw [if_neg (by omega), if_pos]
  rw [List.all_eq_true]
  intro x hx
  obtain ⟨j, hj, rfl⟩ := List.mem_iff_getElem.1 hx
  have hj' : j < b.size := by simpa using hj
  have := h j hj'
  simp only [letterAt, decide_eq_true_eq]
  have e : b[j] = b.data.toList[j] := rfl
  rw [← e]
  omega

set_option maxHeartbeats 8000000 in
set_option maxRecDepth 100000 in
theorem rofWord_any (v : Value) (A : Aut) (w : World) (h : AR w v A) (hm : A.nx.length ≤ 9223372036854775806) (hm2 : A.ac.length ≤ 9223372036854775806) (b : ByteArray) (hz : b.size ≤ 9223372036854775807) :
    Calls Try.prog 28 #[v, .string b] w fun e w' => e = .returned (owV A b) ∧ Below w.heap.size w w' := by
  obtain ⟨an, cn, aa, ca, e, h1, h2⟩ := h.is
  have HA : Hid (∀ w', Below w.heap.size w w' → AR w' v A) := fun w' hb => h.stay hb
  clear h h1 h2
  subst e
  have HR0 : Hid (RowAt ((w.alloc (.cells #[.int .i64 A.k, .slice an A.nx.length cn, .slice aa A.ac.length ca] 58)).alloc (.cells #[.int .i64 0, .int .u64 0, .int .u64 0, .int .u64 0, .int .u64 0, .int .u64 0, .int .u64 0, .int .u64 0] 26)) w.heap.size #[.int .i64 A.k, .slice an A.nx.length cn, .slice aa A.ac.length ca]) := (RowAt.last _ _ _).stay (below_new _ _)
  have HZ0 : Hid (TrAt ((w.alloc (.cells #[.int .i64 A.k, .slice an A.nx.length cn, .slice aa A.ac.length ca] 58)).alloc (.cells #[.int .i64 0, .int .u64 0, .int .u64 0, .int .u64 0, .int .u64 0, .int .u64 0, .int .u64 0, .int .u64 0] 26)) (w.heap.size + 1) 0 (fun _ => 0)) := tr_z2 _ _
  have HB0 : Hid (Below w.heap.size w ((w.alloc (.cells #[.int .i64 A.k, .slice an A.nx.length cn, .slice aa A.ac.length ca] 58)).alloc (.cells #[.int .i64 0, .int .u64 0, .int .u64 0, .int .u64 0, .int .u64 0, .int .u64 0, .int .u64 0, .int .u64 0] 26))) := ((Below.refl _ _).alloc (Nat.le_refl _) _).alloc (by simp) _
  go_enter Try.func28, Try.ntmps28
  go_wp2_with fail
  refine (racheck_any _ A _ (HA.out _ HB0.out) hm hm2).mono ?_
  rintro e w1 ⟨rfl, hB1⟩
  have HR1 : Hid (RowAt w1 w.heap.size #[.int .i64 A.k, .slice an A.nx.length cn, .slice aa A.ac.length ca]) := HR0.out.stay hB1
  have HZ1 : Hid (TrAt w1 (w.heap.size + 1) 0 (fun _ => 0)) := HZ0.out.of (hB1.block _ HZ0.out.lt)
  have HB1 : Hid (Below w.heap.size w w1) := HB0.out.trans (hB1.mono (by simp <;> omega))
  clear hB1 HR0 HZ0 HB0
  by_cases hG : Good A
  · have hck : chkA A = 0 := by unfold chkA; rw [if_pos hG]
    have HCK : Hid (chkA A = 0) := hck
    rw [hck]
    clear hck
    have hbx := HR1.out.cell
    by_cases hbig : 64 < A.ac.length
    · have HE : Hid (owV A b = .tuple #[trZ, .int .i64 81]) := by
        show owV A b = _
        have e : owE A b = 81 := by unfold owE; rw [if_pos HCK.out, if_pos hbig]
        unfold owV
        rw [e, if_neg (by decide)]
      have hI : (64 : Int) < A.ac.length := by omega
      obtain ⟨c0, c1, c2, c3, c4, c5, c6, c7⟩ := (HZ1.out).gets
      have f0 := (HZ1.out).frozen 0
      have f1 := (HZ1.out).frozen 1
      have f2 := (HZ1.out).frozen 2
      have f3 := (HZ1.out).frozen 3
      have f4 := (HZ1.out).frozen 4
      have f5 := (HZ1.out).frozen 5
      have f6 := (HZ1.out).frozen 6
      have f7 := (HZ1.out).frozen 7
      go_wp2_with fail
      rw [HE.out]
      exact bodyPost_ret (results_tr_tmp rfl rfl (put8_at HZ1.out)) rfl ⟨rfl, put8_below HB1.out (by omega)⟩
    · have hI : ¬ (64 : Int) < A.ac.length := by omega
      have HGd : Hid (Good A) := hG
      have H64 : Hid (A.ac.length ≤ 64) := by show _ ≤ _; omega
      have HZQ : Hid (∀ q, TrAt (w1.drewN q) (w.heap.size + 1) 0 (fun _ => 0)) := fun q => HZ1.out.of rfl
      have HBQ : Hid (∀ q, Below w.heap.size w (w1.drewN q)) := fun q => HB1.out.trans ((below_drewN (Below.refl _ _) q).mono HB1.out.size)
      go_wp2_with fail
      clear hbx
      go_loopw [7] (fun vi wr => ∃ i q : Nat, vi = .int .i64 i ∧ i ≤ b.size ∧ (∀ j (hj : j < b.size), j < i → 97 ≤ b[j].toNat ∧ (b[j].toNat : Int) < 97 + A.k) ∧ wr = w1.drewN q) (fun vi _ => b.size - (intOf vi).toNat)
      case atStart => exact ⟨0, 0, rfl, Nat.zero_le _, fun j hj h => by omega, rfl⟩
      case round =>
        obtain ⟨i, q, rfl, hin, hall, rfl⟩ := hrel
        have HALL : Hid (∀ j (hj : j < b.size), j < i → 97 ≤ b[j].toNat ∧ (b[j].toNat : Int) < 97 + A.k) := hall
        clear hall
        have hbx : ∀ o, (w1.drewN q).cell? ⟨w.heap.size, o, none⟩ = (#[.int .i64 A.k, .slice an A.nx.length cn, .slice aa A.ac.length ca] : Array Value)[o]? := HR1.out.cell
        have q0 : w1.cell? ⟨w.heap.size, 0, none⟩ = some (.int .i64 A.k) := hbx 0
        clear hbx
        have hG2 := HGd.out
        by_cases hlt : i < b.size
        · have hiI : (i : Int) < b.size := by omega
          have hid : decide ((i : Int) < b.size) = true := decide_eq_true hiI
          obtain ⟨x, hx⟩ : ∃ x, b[i].toNat = x := ⟨_, rfl⟩
          have hx256 : x < 256 := by rw [← hx]; exact b[i].toNat_lt
          have HX : Hid (b[i].toNat = x) := hx
          have hk1 := hG2.k1
          have hk8 := hG2.k8
          clear hG2
          by_cases hlow : x < 97
          · have hl1 : (x : Int) < 97 := by omega
            have hl2 : decide ((x : Int) < 97) = true := decide_eq_true hl1
            have hl3 : decide (x < 97) = true := decide_eq_true hlow
            have HE : Hid (owV A b = .tuple #[trZ, .int .i64 21]) := by
              show owV A b = _
              have e : owE A b = 21 := by unfold owE; rw [if_pos HCK.out, if_neg hbig]; exact chk_scan hk1 hk8 b i hlt (by omega)
              unfold owV
              rw [e, if_neg (by decide)]
            go_wp2_with fail
            go_quiet (fail)
            obtain ⟨c0, c1, c2, c3, c4, c5, c6, c7⟩ := (HZQ.out (q + nq)).gets
            have f0 := (HZQ.out (q + nq)).frozen 0
            have f1 := (HZQ.out (q + nq)).frozen 1
            have f2 := (HZQ.out (q + nq)).frozen 2
            have f3 := (HZQ.out (q + nq)).frozen 3
            have f4 := (HZQ.out (q + nq)).frozen 4
            have f5 := (HZQ.out (q + nq)).frozen 5
            have f6 := (HZQ.out (q + nq)).frozen 6
            have f7 := (HZQ.out (q + nq)).frozen 7
            go_wp2_with fail
            rw [HE.out]
            exact bodyPost_ret (results_tr_tmp rfl rfl (put8_at (HZQ.out (q + nq)))) rfl ⟨rfl, put8_below (HBQ.out (q + nq)) (by omega)⟩
          · have hl1 : ¬ (x : Int) < 97 := by omega
            have hl2 : decide ((x : Int) < 97) = false := decide_eq_false hl1
            have hl3 : decide (x < 97) = false := decide_eq_false hlow
            obtain ⟨c9, hc9⟩ : ∃ c9, x - 97 = c9 := ⟨_, rfl⟩
            have hcv : IntKind.u8.wrap ((x : Int) - 97) = (c9 : Int) := by rw [IntKind.wrap_u8]; omega
            have hcv2 : IntKind.i64.wrap (c9 : Int) = (c9 : Int) := by rw [IntKind.wrap_i64]; omega
            by_cases hge : A.k ≤ (c9 : Int)
            · have hg2 : decide (A.k ≤ (c9 : Int)) = true := decide_eq_true hge
              have HE : Hid (owV A b = .tuple #[trZ, .int .i64 21]) := by
                show owV A b = _
                have e : owE A b = 21 := by unfold owE; rw [if_pos HCK.out, if_neg hbig]; exact chk_scan hk1 hk8 b i hlt (by omega)
                unfold owV
                rw [e, if_neg (by decide)]
              go_wp2_with fail
              go_quiet (fail)
              obtain ⟨c0, c1, c2, c3, c4, c5, c6, c7⟩ := (HZQ.out (q + nq)).gets
              have f0 := (HZQ.out (q + nq)).frozen 0
              have f1 := (HZQ.out (q + nq)).frozen 1
              have f2 := (HZQ.out (q + nq)).frozen 2
              have f3 := (HZQ.out (q + nq)).frozen 3
              have f4 := (HZQ.out (q + nq)).frozen 4
              have f5 := (HZQ.out (q + nq)).frozen 5
              have f6 := (HZQ.out (q + nq)).frozen 6
              have f7 := (HZQ.out (q + nq)).frozen 7
              go_wp2_with fail
              rw [HE.out]
              exact bodyPost_ret (results_tr_tmp rfl rfl (put8_at (HZQ.out (q + nq)))) rfl ⟨rfl, put8_below (HBQ.out (q + nq)) (by omega)⟩
            · have hg1 : ¬ A.k ≤ (c9 : Int) := hge
              have hg2 : decide (A.k ≤ (c9 : Int)) = false := decide_eq_false hge
              have HN : Hid (∀ j (hj : j < b.size), j < i + 1 → 97 ≤ b[j].toNat ∧ (b[j].toNat : Int) < 97 + A.k) := fun j hj h => by
                by_cases e : j = i
                · subst e
                  omega
                · exact HALL.out j hj (by omega)
              go_wp2_with fail
              go_quiet (fail)
              go_wp2_with fail
              go_roundw
              case rel => exact ⟨i + 1, q + nq, by go_num, by omega, HN.out, rfl⟩
              case measure => simp [intOf]; omega
        · have hiI : ¬ (i : Int) < b.size := by omega
          have hid : decide ((i : Int) < b.size) = false := decide_eq_false hiI
          have HL : Hid (Lts A.k b) := fun j hj => HALL.out j hj (by omega)
          have HE : Hid (owV A b = .tuple #[.agg (tC (doW A b)), .int .i64 0]) := by
            show owV A b = _
            have e : owE A b = 0 := by unfold owE; rw [if_pos HCK.out, if_neg hbig]; exact chk_zero hG2.k1 hG2.k8 b HL.out
            unfold owV
            rw [if_pos e]
            rfl
          have q1 : w1.cell? ⟨w.heap.size, 1, none⟩ = some (.slice an A.nx.length cn) := HR1.out.cell 1
          have q2 : w1.cell? ⟨w.heap.size, 2, none⟩ = some (.slice aa A.ac.length ca) := HR1.out.cell 2
          have HLT : Hid (∀ s, s < A.ac.length → goN A s (lets b) < A.ac.length) := fun s hs => goN_lt HGd.out hs _ HL.out.lt_all
          clear hG2
          go_wp2_with fail
          refine (rdoes_any _ A _ (HA.out _ (HBQ.out q)) HGd.out H64.out b HL.out hz).mono ?_
          rintro e w2 ⟨g, c, rfl, hF, hg, hB⟩
          have HB2 : Hid (Below w.heap.size w w2) := (HBQ.out q).trans (hB.mono (HBQ.out q).size)
          have HZ2 : Hid (TrAt w2 (w.heap.size + 1) 0 (fun _ => 0)) := (HZQ.out q).of (hB.block _ (HZQ.out q).lt)
          have HRD : Hid (Reads w2 (.slice (some ⟨g, 0, none⟩) A.ac.length c) (pI (doW A b))) := hF.reads (doW_len A b) (fun j hj => by unfold doW; rw [tb_im _ hj])
          clear hF hg hB
          go_wp2_with fail
          refine (packed_any _ (doW A b) w2 HRD.out (by rw [doW_len]; exact H64.out) (fun i hi => by rw [doW_len] at hi; unfold doW; rw [tb_im _ hi]; have := HLT.out i hi; have := H64.out; omega)).mono ?_
          rintro e w3 ⟨rfl, hB⟩
          have HB3 : Hid (Below w.heap.size w w3) := HB2.out.trans (hB.mono HB2.out.size)
          have HZ3 : Hid (TrAt w3 (w.heap.size + 1) 0 (fun _ => 0)) := HZ2.out.of (hB.block _ HZ2.out.lt)
          have hs := st_row (cs := tC (doW A b)) HZ3.out rfl (tC_one _)
          have hsz := tC_size (doW A b)
          clear hB
          go_wp2_with fail
          rw [HE.out]
          exact bodyPost_ret (results_tr_tmp rfl rfl (TrAt.row (M := ((doW A b).length : Int)) (g := pk (im (doW A b)) (doW A b).length) HZ3.out)) rfl ⟨rfl, below_row HB3.out (by omega)⟩
  · have hck : chkA A = 80 := chkA_no hG
    have HE : Hid (owV A b = .tuple #[trZ, .int .i64 80]) := by
      show owV A b = _
      have e : owE A b = 80 := by unfold owE; rw [if_neg (by rw [hck]; decide)]
      unfold owV
      rw [e, if_neg (by decide)]
    rw [hck]
    clear hck hG
    obtain ⟨c0, c1, c2, c3, c4, c5, c6, c7⟩ := (HZ1.out).gets
    have f0 := (HZ1.out).frozen 0
    have f1 := (HZ1.out).frozen 1
    have f2 := (HZ1.out).frozen 2
    have f3 := (HZ1.out).frozen 3
    have f4 := (HZ1.out).frozen 4
    have f5 := (HZ1.out).frozen 5
    have f6 := (HZ1.out).frozen 6
    have f7 := (HZ1.out).frozen 7
    go_wp2_with fail
    rw [HE.out]
    exact bodyPost_ret (results_tr_tmp rfl rfl (put8_at HZ1.out)) rfl ⟨rfl, put8_below HB1.out (by omega)⟩
end Go.Proofs.Ytihjhkbbpphocaa
