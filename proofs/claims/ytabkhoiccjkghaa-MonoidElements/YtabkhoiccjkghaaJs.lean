/- An automaton that is lent and must stay: the laws' LentAuto and Stay. -/
import Derived.Test.YtabkhoiccjkghaaJr
import Derived.Test.YtabkhoiccjkghaaJsa
namespace Go.Proofs.Ytabkhoiccjkghaa
open Go Go.RowKit Go.Lib
set_option linter.unusedVariables false

/-- A block's cells stay; nothing of the caller's is written; there are no fewer blocks. -/
abbrev ST (w W : World) (arr : Array Value) (y : World) : Prop := (∀ o, y.cell? ⟨w.heap.size, o, none⟩ = arr[o]?) ∧ Below w.heap.size w y ∧ W.heap.size ≤ y.heap.size
theorem st_step {w W y1 y2 : World} {arr : Array Value} (hW : w.heap.size < W.heap.size) (hb : Below y1.heap.size y1 y2) (h : ST w W arr y1) : ST w W arr y2 :=
  ⟨fun o => by rw [below_cellJ hb (by have := h.2.2; omega)]; exact h.1 o, go_on h.2.1 hb, Nat.le_trans h.2.2 hb.size⟩
theorem st_alloc {w W y1 : World} {arr : Array Value} (hW : w.heap.size < W.heap.size) (o : Obj) (h : ST w W arr y1) : ST w W arr (y1.alloc o) := st_step hW (below_new _ _) h
theorem st_grown {w W y1 y2 : World} {arr : Array Value} {b : Nat} (hW : w.heap.size < W.heap.size) (hb : W.heap.size ≤ b) (hg : y1.grownBy y2 (some b)) (h : ST w W arr y1) : ST w W arr y2 :=
  ⟨fun o => by rw [World.cell?_of_block (hg.block _ (by show w.heap.size < _; have := h.2.2; omega) (by simp; omega))]; exact h.1 o, h.2.1.grown hg (by have := h.2.2; omega) (fun k hk => by simp at hk; omega), Nat.le_trans h.2.2 hg.size⟩
theorem st_set {w W y1 : World} {arr : Array Value} {j : Nat} {v : Value} (h : ST w W arr y1) : ST w W arr (y1.setCell ⟨w.heap.size + 1, j, none⟩ v) :=
  ⟨fun o => by rw [World.cell?_of_block (heap_set_other (by show w.heap.size ≠ _; omega))]; exact h.1 o, h.2.1.setCell (p := ⟨w.heap.size + 1, j, none⟩) (by simp) v, by have := h.2.2; simpa [World.setCell] using this⟩
theorem res_call {W y1 y2 : World} {r : Nat} {z : Option Obj} (hr : r < W.heap.size) (hb : Below y1.heap.size y1 y2) (hs : W.heap.size ≤ y1.heap.size) (h : y1.heap[r]? = z) : y2.heap[r]? = z := (hb.block r (Nat.lt_of_lt_of_le hr hs)).trans h
theorem res_grown {W y1 y2 : World} {r b : Nat} {z : Option Obj} (hr : r < W.heap.size) (hg : y1.grownBy y2 (Value.slice (some ⟨b, 0, none⟩) 0 0).ownBlock) (hb : W.heap.size ≤ b) (hs : W.heap.size ≤ y1.heap.size) (h : y1.heap[r]? = z) : y2.heap[r]? = z :=
  (hg.block r (Nat.lt_of_lt_of_le hr hs) (fun e => by simp only [Value.ownBlock, Option.some.injEq] at e; omega)).trans h
/-- What LentAuto answers: an automaton in memory of its own, marked room behind its Next. -/
def LQ (A : Aut) (w : World) (e : Ending) (w' : World) : Prop := ∃ g gc ba bc, e = .returned (.agg #[.int .i64 A.k, .slice (some ⟨g, 0, none⟩) A.nx.length gc, .slice ba A.ac.length bc]) ∧
  w'.ownsRow w.heap.size 3 1 (.slice (some ⟨g, 0, none⟩) (A.nx.length + 2) gc) (A.nx.length + 2) (zC (A.nx ++ [-77, -78])) ∧ w'.ownsRow w.heap.size 4 1 (.slice ba A.ac.length bc) A.ac.length (bC A.ac) ∧ Below w.heap.size w w'
theorem lq_done {A : Aut} {w Y : World} {g gc vc n : Nat} {va : Option Addr} (hn : A.nx.length + 2 = n)
    (h : Y.ownsRow w.heap.size 3 1 (.slice (some ⟨g, 0, none⟩) n gc) n (zC (A.nx ++ [-77, -78])) ∧ Y.ownsRow w.heap.size 4 1 (.slice va (bC A.ac).length vc) (bC A.ac).length (bC A.ac) ∧ Y.heap[w.heap.size + 1]? = some (.cells #[.int .i64 0, .slice none 0 0, .slice none 0 0] 25 (0, 0)) ∧ Below w.heap.size w Y) :
    (((Y.setCell ⟨w.heap.size + 1, 0, none⟩ (.int .i64 A.k)).setCell ⟨w.heap.size + 1, 1, none⟩ (.slice (some ⟨g, 0, none⟩) A.nx.length gc)).setCell ⟨w.heap.size + 1, 2, none⟩ (.slice va (bC A.ac).length vc)).heap[w.heap.size + 1]? = some (.cells #[.int .i64 A.k, .slice (some ⟨g, 0, none⟩) A.nx.length gc, .slice va (bC A.ac).length vc] 25 (0, 0)) ∧
    LQ A w (.returned (.agg #[.int .i64 A.k, .slice (some ⟨g, 0, none⟩) A.nx.length gc, .slice va (bC A.ac).length vc])) (((Y.setCell ⟨w.heap.size + 1, 0, none⟩ (.int .i64 A.k)).setCell ⟨w.heap.size + 1, 1, none⟩ (.slice (some ⟨g, 0, none⟩) A.nx.length gc)).setCell ⟨w.heap.size + 1, 2, none⟩ (.slice va (bC A.ac).length vc)) := by
  obtain ⟨h1, h2, h3, h4⟩ := h
  subst hn
  have k : ∀ (b : Nat) (cur : Array Value) (e : TypeId), e ≠ 25 → Y.heap[b]? = some (.cells cur e (0, 0)) → (((Y.setCell ⟨w.heap.size + 1, 0, none⟩ (.int .i64 A.k)).setCell ⟨w.heap.size + 1, 1, none⟩ (.slice (some ⟨g, 0, none⟩) A.nx.length gc)).setCell ⟨w.heap.size + 1, 2, none⟩ (.slice va (bC A.ac).length vc)).heap[b]? = Y.heap[b]? := fun b cur e hne hc => by
    have hne2 : b ≠ w.heap.size + 1 := fun e2 => by
      rw [e2, h3] at hc
      injection hc with hc
      injection hc with _ hc _
      exact hne hc.symm
    rw [heap_set_other hne2, heap_set_other hne2, heap_set_other hne2]
  refine ⟨heap_set (heap_set (heap_set h3)), g, gc, va, vc, ?_, own_keep h1 (fun b cur _ hc => k b cur _ (by decide) hc), ?_, ((h4.setCell (p := ⟨w.heap.size + 1, 0, none⟩) (by simp) _).setCell (p := ⟨w.heap.size + 1, 1, none⟩) (by simp) _).setCell (p := ⟨w.heap.size + 1, 2, none⟩) (by simp) _⟩
  · rw [bC_len]
  · have := own_keep h2 (fun b cur _ hc => k b cur _ (by decide) hc)
    rw [bC_len] at this ⊢
    exact this
/-- A nil list has no room. -/
def NilOk (v : Value) : Prop := ∀ k an n cn aa m ca, v = .agg #[k, .slice an n cn, .slice aa m ca] → (an = none → cn = 0) ∧ (aa = none → ca = 0)

set_option maxHeartbeats 4000000 in
set_option maxRecDepth 100000 in
theorem lentAuto_any (v : Value) (A : Aut) (w : World) (h : AR w v A) (hn : NilOk v) (hm : (A.nx.length + 2) * 8 ≤ 140737488355328) (hm2 : A.ac.length ≤ 140737488355328) :
    Calls Try.prog 22 #[v] w (LQ A w) := by
  obtain ⟨an, cn, aa, ca, e, h1, h2⟩ := h.is
  obtain ⟨hn1, hn2⟩ := hn _ _ _ _ _ _ _ e
  subst e
  obtain ⟨i1, hj, hq0, hq1, hq2⟩ := info_parts Try.info_bool
  obtain ⟨W, hW⟩ : ∃ W, W = (w.alloc (.cells #[.int .i64 A.k, .slice an A.nx.length cn, .slice aa A.ac.length ca] 25)).alloc (.cells #[.int .i64 0, .slice none 0 0, .slice none 0 0] 25) := ⟨_, rfl⟩
  have HR2 : Hid (RowAt W w.heap.size #[.int .i64 A.k, .slice an A.nx.length cn, .slice aa A.ac.length ca]) := by
    show RowAt W w.heap.size _
    rw [hW]
    exact (RowAt.last _ _ _).alloc _
  have HB2 : Hid (Below w.heap.size w W) := by
    show Below w.heap.size w W
    rw [hW]
    exact go_on (below_new _ _) (below_new _ _)
  have HRES : Hid (W.heap[w.heap.size + 1]? = some (.cells #[.int .i64 0, .slice none 0 0, .slice none 0 0] 25 (0, 0))) := by
    show W.heap[w.heap.size + 1]? = _
    rw [hW]
    have := heap_alloc_last (w.alloc (.cells #[.int .i64 A.k, .slice an A.nx.length cn, .slice aa A.ac.length ca] 25)) (.cells #[.int .i64 0, .slice none 0 0, .slice none 0 0] 25)
    simpa using this
  have HWE : Hid (W = (w.alloc (.cells #[.int .i64 A.k, .slice an A.nx.length cn, .slice aa A.ac.length ca] 25)).alloc (.cells #[.int .i64 0, .slice none 0 0, .slice none 0 0] 25)) := hW
  have HL : Hid (∀ y, Below w.heap.size w y → Calls Try.prog 40 #[.slice an A.nx.length cn] y fun e w' => ∃ g cap, e = .returned (.slice (some ⟨g, 0, none⟩) A.nx.length cap) ∧
      w'.ownsRow y.heap.size 3 1 (.slice (some ⟨g, 0, none⟩) (A.nx.length + 2) cap) (A.nx.length + 2) (zC (A.nx ++ [-77, -78])) ∧ Below y.heap.size y w') := fun y hy => lent_any an cn A.nx y (h1.stay hy) hn1 hm
  have HS2 : Hid (∀ y, Below w.heap.size w y → SR y aa (bC A.ac)) := fun y hy => h2.stay hy
  have HN2 : Hid (aa = none → ca = 0) := hn2
  have HOC : Hid (∀ u ∈ bC A.ac, u.oneCell' = true) := fun u hu => by
    obtain ⟨z, _, rfl⟩ := List.mem_map.1 hu
    rfl
  have HBL : Hid ((bC A.ac).length = A.ac.length) := bC_len A.ac
  have hlt1 : w.heap.size + 1 < W.heap.size := (Array.getElem?_eq_some_iff.1 HRES.out).1
  have hlt0 : w.heap.size < W.heap.size := by omega
  have HE : Hid (∀ y : World, W.heap.size ≤ y.heap.size → (y.alloc (.cells #[] 4)).ownsRow w.heap.size 4 1 (.slice (some ⟨y.heap.size, 0, none⟩) 0 0) 0 []) := fun y hy => World.ownsRow_made y #[] 0 (by have := HB2.out.size; omega) (by unfold maxLen; omega) rfl
  obtain ⟨n, hnn⟩ : ∃ n, A.nx.length + 2 = n := ⟨_, rfl⟩
  have HNN : Hid (A.nx.length + 2 = n) := hnn
  rw [hnn] at HL
  clear hW h h1 h2 hn hn1 hn2 hnn
  go_enter Try.func22, Try.ntmps22
  go_wp2_with fail
  rw [← HWE.out]
  have S0 : ST w W #[.int .i64 A.k, .slice an A.nx.length cn, .slice aa A.ac.length ca] W.drew := ⟨HR2.out.cell, HB2.out.drew, Nat.le_refl _⟩
  have h0 : W.drew.heap[w.heap.size + 1]? = some (.cells #[.int .i64 0, .slice none 0 0, .slice none 0 0] 25 (0, 0)) := HRES.out
  have H0 : Hid _ := h0
  have ha : ∀ (y : World) (o : Obj), W.heap.size ≤ y.heap.size → y.heap[w.heap.size + 1]? = some (.cells #[.int .i64 0, .slice none 0 0, .slice none 0 0] 25 (0, 0)) → (y.alloc o).heap[w.heap.size + 1]? = some (.cells #[.int .i64 0, .slice none 0 0, .slice none 0 0] 25 (0, 0)) := fun y o hs hy => ((below_new y o).block _ (by omega)).trans hy
  have HA : Hid _ := ha
  clear h0 ha HWE
  go_region_held3 (fun y => ST w W #[.int .i64 A.k, .slice an A.nx.length cn, .slice aa A.ac.length ca] y) (first | exact S0 | assumption | exact st_step hlt0 (by assumption) (by assumption) | exact st_alloc hlt0 _ (by assumption) | exact st_set (st_set (st_set (by assumption)))) (first
    | (go_at_call 40; refine (HL.out _ (And.left (And.right (by assumption)))).mono ?_; rintro e y2 ⟨g, gc, rfl, hrow, hy2⟩
       have S2 : ST w W #[.int .i64 A.k, .slice an A.nx.length cn, .slice aa A.ac.length ca] y2 := st_step hlt0 hy2 (by assumption)
       have hres2 : y2.heap[w.heap.size + 1]? = some (.cells #[.int .i64 0, .slice none 0 0, .slice none 0 0] 25 (0, 0)) := res_call hlt1 hy2 (And.right (And.right (by assumption : ST w W #[.int .i64 A.k, .slice an A.nx.length cn, .slice aa A.ac.length ca] _))) (by first | exact H0.out | exact HA.out W.drew _ (Nat.le_refl _) H0.out | exact hres9)
       have HI2 : Hid (y2.ownsRow w.heap.size 3 1 (.slice (some ⟨g, 0, none⟩) n gc) n (zC (A.nx ++ [-77, -78]))) := own_mono hrow (And.left (And.right (by assumption : ST w W #[.int .i64 A.k, .slice an A.nx.length cn, .slice aa A.ac.length ca] _))).size
       have hr0 : y2.cell? ⟨w.heap.size + 1, 0, none⟩ = some (.int .i64 0) := cell_of hres2
       have hr1 : y2.cell? ⟨w.heap.size + 1, 1, none⟩ = some (.slice none 0 0) := cell_of hres2
       have hr2 : y2.cell? ⟨w.heap.size + 1, 2, none⟩ = some (.slice none 0 0) := cell_of hres2
       have hf : ∀ j, y2.frozen? ⟨w.heap.size + 1, j, none⟩ = false := fun j => froz_of hres2
       clear hrow)
    | (rw [if_pos (by rfl)]; refine wp_append_sr _ _ 23 rfl w.heap.size 4 i1 (.bool false) 1 Try.underlying23 hj hq0 hq1 hq2 rfl _ rfl (by first | exact HE.out W.drew (Nat.le_refl _) | exact own_below (HE.out W.drew (Nat.le_refl _)) hy2 | exact HE.out _ S2.2.2) aa ca (bC A.ac) (by rw [HBL.out]; rfl) (HS2.out _ (And.left (And.right (by assumption)))) HN2.out HOC.out (by rw [HBL.out]; unfold maxLen; omega) (by rw [HBL.out]; omega) (by exact Nat.le_trans (Nat.le_of_lt hlt0) (And.right (And.right (by assumption : ST w W #[.int .i64 A.k, .slice an A.nx.length cn, .slice aa A.ac.length ca] _)))) ?_; intro v9 w9 ho9 hg9
       obtain ⟨va9, vc9, rfl⟩ := own_shape ho9
       have S9 : ST w W #[.int .i64 A.k, .slice an A.nx.length cn, .slice aa A.ac.length ca] w9 := by
         first
           | exact st_grown hlt0 (Nat.le_refl _) hg9 (by assumption)
           | exact st_grown hlt0 S2.2.2 hg9 (by assumption)
       have hres9 : w9.heap[w.heap.size + 1]? = some (.cells #[.int .i64 0, .slice none 0 0, .slice none 0 0] 25 (0, 0)) := by
         first
           | exact res_grown hlt1 hg9 (Nat.le_refl _) (And.right (And.right (by assumption : ST w W #[.int .i64 A.k, .slice an A.nx.length cn, .slice aa A.ac.length ca] _))) hres2
           | exact res_grown hlt1 hg9 S2.2.2 (And.right (And.right (by assumption : ST w W #[.int .i64 A.k, .slice an A.nx.length cn, .slice aa A.ac.length ca] _))) (HA.out y2 _ S2.2.2 hres2)
           | exact res_grown hlt1 hg9 (Nat.le_refl _) (And.right (And.right (by assumption : ST w W #[.int .i64 A.k, .slice an A.nx.length cn, .slice aa A.ac.length ca] _))) (HA.out W.drew _ (Nat.le_refl _) H0.out)
       have hs0 : w9.cell? ⟨w.heap.size + 1, 0, none⟩ = some (.int .i64 0) := cell_of hres9
       have hs1 : w9.cell? ⟨w.heap.size + 1, 1, none⟩ = some (.slice none 0 0) := cell_of hres9
       have hs2 : w9.cell? ⟨w.heap.size + 1, 2, none⟩ = some (.slice none 0 0) := cell_of hres9
       have hsf : ∀ j, w9.frozen? ⟨w.heap.size + 1, j, none⟩ = false := fun j => froz_of hres9
       have HO9 : Hid (w9.ownsRow w.heap.size 4 1 (.slice va9 (bC A.ac).length vc9) (bC A.ac).length (bC A.ac)) := ho9
       try (have HI9 : Hid (w9.ownsRow w.heap.size 3 1 (.slice (some ⟨g, 0, none⟩) n gc) n (zC (A.nx ++ [-77, -78]))) := by
              show World.ownsRow _ _ _ _ _ _ _
              first
                | exact HI2.out.kept hg9 (.inr (fun e => by
                    obtain ⟨_, cur, hc⟩ := own_blk HI2.out (b := g) rfl
                    obtain ⟨_, cur', hc'⟩ := own_blk (own_below (HE.out W.drew (Nat.le_refl _)) hy2) (b := g) e.symm
                    rw [hc] at hc'
                    cases hc'))
                | exact (HI2.out.alloc _).kept hg9 (.inr (fun e => by
                    have h1 := (HI2.out.lt g rfl).2
                    have e2 : some g = some y2.heap.size := e
                    simp at e2
                    omega)))
       clear ho9 hg9))
  all_goals (
    first
    | (have H9 : Hid (w9.ownsRow w.heap.size 3 1 (.slice (some ⟨g, 0, none⟩) n gc) n (zC (A.nx ++ [-77, -78])) ∧ w9.ownsRow w.heap.size 4 1 (.slice va9 (bC A.ac).length vc9) (bC A.ac).length (bC A.ac) ∧ w9.heap[w.heap.size + 1]? = some (.cells #[.int .i64 0, .slice none 0 0, .slice none 0 0] 25 (0, 0)) ∧ Below w.heap.size w w9) := ⟨HI9.out, HO9.out, hres9, S9.2.1⟩)
    | (have H9 : Hid (y2.ownsRow w.heap.size 3 1 (.slice (some ⟨g, 0, none⟩) n gc) n (zC (A.nx ++ [-77, -78])) ∧ y2.ownsRow w.heap.size 4 1 (.slice va9 (bC A.ac).length vc9) (bC A.ac).length (bC A.ac) ∧ y2.heap[w.heap.size + 1]? = some (.cells #[.int .i64 0, .slice none 0 0, .slice none 0 0] 25 (0, 0)) ∧ Below w.heap.size w y2) := ⟨HI2.out, own_below HO9.out hy2, hres2, S2.2.1⟩))
  all_goals (
    obtain ⟨f1, f2⟩ := lq_done HNN.out H9.out
    have F1 : Hid _ := f1
    have F2 : Hid _ := f2
    clear f1 f2
    go_wp2_with fail
    exact bodyPost_ret (results_auto1 rfl rfl F1.out rfl) rfl F2.out)
end Go.Proofs.Ytabkhoiccjkghaa
