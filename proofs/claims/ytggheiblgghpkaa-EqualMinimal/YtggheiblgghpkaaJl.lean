/- Contracts of auto.Ahead, Reach and Not. -/
import Derived.Test.YtggheiblgghpkaaJk
namespace Go.Proofs.Ytggheiblgghpkaa
open Go Go.RowKit Go.Lib Go.Maps
set_option linter.unusedVariables false

/-- The answer's block is written. -/
theorem res_done {base b : Nat} {w0 w1 : World} {B : Aut} {x0 x1 x2 : Value} (hres : w1.heap[b]? = some (.cells #[.int .i64 0, .slice none 0 0, .slice none 0 0] 25 (0, 0))) (hao : AO base w1 (.agg #[x0, x1, x2]) B) (hb : Below base w0 w1) (hbb : base ≤ b) :
    (((w1.setCell ⟨b, 0, none⟩ x0).setCell ⟨b, 1, none⟩ x1).setCell ⟨b, 2, none⟩ x2).heap[b]? = some (.cells #[x0, x1, x2] 25 (0, 0)) ∧
    AO base (((w1.setCell ⟨b, 0, none⟩ x0).setCell ⟨b, 1, none⟩ x1).setCell ⟨b, 2, none⟩ x2) (.agg #[x0, x1, x2]) B ∧ Below base w0 (((w1.setCell ⟨b, 0, none⟩ x0).setCell ⟨b, 1, none⟩ x1).setCell ⟨b, 2, none⟩ x2) := by
  refine ⟨heap_set (heap_set (heap_set hres)), hao.keep (fun c cur e hne hc => ?_), ((hb.setCell (p := ⟨b, 0, none⟩) hbb _).setCell (p := ⟨b, 1, none⟩) hbb _).setCell (p := ⟨b, 2, none⟩) hbb _⟩
  have hne2 : c ≠ b := fun e2 => by
    rw [e2, hres] at hc
    injection hc with hc
    injection hc with _ hc _
    exact hne hc.symm
  rw [heap_set_other hne2, heap_set_other hne2, heap_set_other hne2]
/-- A block's cells and all below stay where another block is written. -/
theorem sb_set {W w1 : World} {b c j : Nat} {arr : Array Value} {x : Value} (h : SB W b arr w1) (hbc : b ≠ c) (hc : W.heap.size ≤ c) : SB W b arr (w1.setCell ⟨c, j, none⟩ x) := by
  refine ⟨fun o => ?_, h.2.setCell (p := ⟨c, j, none⟩) hc x⟩
  rw [World.cell?_of_block (heap_set_other hbc)]
  exact h.1 o
/-- What Ahead answers. -/
noncomputable def ahA (A : Aut) (b : ByteArray) : Aut := if cwE A b = 0 then rch A (goN A 0 (lets b)) (aN A) else zAut
noncomputable def notA (A : Aut) : Aut := if chkA A = 0 then rch A 0 (fun s => !aN A s) else zAut

set_option maxHeartbeats 2000000 in
set_option maxRecDepth 100000 in
theorem not_any (v : Value) (A : Aut) (w : World) (h : AR w v A) (hm : A.nx.length ≤ 9223372036854775806) (hm2 : A.ac.length ≤ 9223372036854775806) :
    Calls Try.prog 27 #[v] w (FQ (notA A) (chkA A) w) := by
  obtain ⟨an, cn, aa, ca, e, h1, h2⟩ := h.is
  have HAR : Hid (∀ w', Below w.heap.size w w' → AR w' v A) := fun w' hb => h.stay hb
  clear h h1 h2
  subst e
  obtain ⟨arr, harr⟩ : ∃ arr : Array Value, arr = #[.int .i64 A.k, .slice an A.nx.length cn, .slice aa A.ac.length ca] := ⟨_, rfl⟩
  obtain ⟨W, hW⟩ : ∃ W, W = (w.alloc (.cells arr 25)).alloc (.cells #[.int .i64 0, .slice none 0 0, .slice none 0 0] 25) := ⟨_, rfl⟩
  have HR2 : Hid (RowAt W w.heap.size arr) := by
    show RowAt W w.heap.size arr
    rw [hW]
    exact (RowAt.last _ _ _).alloc _
  have HB2 : Hid (Below w.heap.size w W) := by
    show Below w.heap.size w W
    rw [hW]
    exact go_on (below_new _ _) (below_new _ _)
  have HRES : Hid (W.heap[w.heap.size + 1]? = some (.cells #[.int .i64 0, .slice none 0 0, .slice none 0 0] 25 (0, 0))) := by
    show W.heap[w.heap.size + 1]? = _
    rw [hW]
    have := heap_alloc_last (w.alloc (.cells arr 25)) (.cells #[.int .i64 0, .slice none 0 0, .slice none 0 0] 25)
    simpa using this
  have HWE : Hid (W = (w.alloc (.cells arr 25)).alloc (.cells #[.int .i64 0, .slice none 0 0, .slice none 0 0] 25)) := hW
  clear hW
  have HFR : Hid (∀ w1, Below W.heap.size W w1 → Good A → Calls Try.prog 47 #[.agg arr, .int .i64 (0 : Nat), .func (.func 48) #[] #[.pointer (some ⟨w.heap.size, 0, none⟩)]] w1 (FQ (rch A 0 (fun s => !aN A s)) 0 w1)) := by
    intro w1 hb1 G
    refine from_any _ A w1 (harr ▸ HAR.out w1 (go_on HB2.out hb1)) G 0 (by have := G.n1; omega) 48 _ (fun s => !aN A s) (fun _ _ => rfl) ?_
    intro w2 t hb2 ht
    exact not1_any _ A w2 w.heap.size (harr ▸ HAR.out w2 (go_on (go_on HB2.out hb1) hb2)) arr rfl ((HR2.out.stay hb1).stay hb2) t ht
  subst harr
  go_enter Try.func27, Try.ntmps27
  go_wp2_with fail
  rw [← HWE.out]
  refine (acheck_any _ A _ (HAR.out _ HB2.out) hm hm2).mono ?_
  rintro e w1 ⟨rfl, hb1⟩
  have cs := (HR2.out.stay hb1).cell
  have hres1 : w1.heap[w.heap.size + 1]? = some (.cells #[.int .i64 0, .slice none 0 0, .slice none 0 0] 25 (0, 0)) := (hb1.block _ (Array.getElem?_eq_some_iff.1 HRES.out).1).trans HRES.out
  have HB1 : Hid (Below w.heap.size w w1) := go_on HB2.out hb1
  have HBW : Hid (Below W.heap.size W w1) := hb1
  have HR1 : Hid (w1.heap[w.heap.size + 1]? = some (.cells #[.int .i64 0, .slice none 0 0, .slice none 0 0] 25 (0, 0))) := hres1
  have hlt1 : w.heap.size + 1 < w1.heap.size := (Array.getElem?_eq_some_iff.1 hres1).1
  clear hb1
  rcases chkA_cases A with ⟨hG, hc⟩ | ⟨hG, hc⟩
  · rw [hc]
    have HA0 : Hid (notA A = rch A 0 (fun s => !aN A s)) := by show _ = _; unfold notA; rw [if_pos hc]
    have HC : Hid (chkA A = 0) := hc
    have HFG : Hid (Calls Try.prog 47 #[.agg #[.int .i64 A.k, .slice an A.nx.length cn, .slice aa A.ac.length ca], .int .i64 0, .func (.func 48) #[] #[.pointer (some ⟨w.heap.size, 0, none⟩)]] w1 (FQ (rch A 0 (fun s => !aN A s)) 0 w1)) := HFR.out w1 HBW.out hG
    clear hc hG hres1
    go_wp2_with fail
    refine HFG.out.mono ?_
    rintro e w3 ⟨v', rfl, hao, hb3⟩
    have hres3 := (hb3.block _ hlt1).trans HR1.out
    obtain ⟨rn, rcn, ra, rca, rfl, o1, o2⟩ := hao
    rw [← HA0.out] at o1 o2 ⊢
    obtain ⟨f1, f2, f3⟩ := res_done (B := notA A) (base := w.heap.size) (w0 := w) (x0 := .int .i64 (notA A).k) (x1 := .slice rn (notA A).nx.length rcn) (x2 := .slice ra (notA A).ac.length rca) hres3 ⟨rn, rcn, ra, rca, rfl, own_mono o1 HB1.out.size, own_mono o2 HB1.out.size⟩ (go_on HB1.out hb3) (by omega)
    have hr0 : w3.cell? ⟨w.heap.size + 1, 0, none⟩ = some (.int .i64 0) := cell_of hres3
    have hr1 : w3.cell? ⟨w.heap.size + 1, 1, none⟩ = some (.slice none 0 0) := cell_of hres3
    have hr2 : w3.cell? ⟨w.heap.size + 1, 2, none⟩ = some (.slice none 0 0) := cell_of hres3
    have hf : ∀ j, w3.frozen? ⟨w.heap.size + 1, j, none⟩ = false := fun j => froz_of hres3
    have F1 : Hid _ := f1
    have F2 : Hid _ := f2
    have F3 : Hid _ := f3
    clear o1 o2 hb3 hres3 cs f1 f2 f3
    go_wp2_with fail
    refine bodyPost_ret (results_auto rfl rfl F1.out rfl) rfl ⟨_, ?_, F2.out, F3.out⟩
    rw [HC.out]
    rfl
  · rw [hc]
    have HA0 : Hid (notA A = zAut) := by show _ = _; unfold notA; rw [if_neg (by rw [hc]; decide)]
    have HC : Hid (chkA A = 80) := hc
    have hr0 : w1.cell? ⟨w.heap.size + 1, 0, none⟩ = some (.int .i64 0) := cell_of hres1
    have hr1 : w1.cell? ⟨w.heap.size + 1, 1, none⟩ = some (.slice none 0 0) := cell_of hres1
    have hr2 : w1.cell? ⟨w.heap.size + 1, 2, none⟩ = some (.slice none 0 0) := cell_of hres1
    have hf : ∀ j, w1.frozen? ⟨w.heap.size + 1, j, none⟩ = false := fun j => froz_of hres1
    obtain ⟨f1, f2, f3⟩ := res_done (B := zAut) (base := w.heap.size) (w0 := w) hres1 (AO.zero _ _) HB1.out (by omega)
    have F1 : Hid _ := f1
    have F2 : Hid _ := f2
    have F3 : Hid _ := f3
    clear hc hG hres1 f1 f2 f3
    go_wp2_with fail
    refine bodyPost_ret (results_auto rfl rfl F1.out rfl) rfl ⟨.agg #[.int .i64 0, .slice none 0 0, .slice none 0 0], ?_, ?_, F3.out⟩
    · rw [HC.out]; rfl
    · rw [HA0.out]; exact F2.out

noncomputable def reA (A : Aut) : Aut := if chkA A = 0 then rch A 0 (aN A) else zAut
theorem chk_empty {k : Int} (h1 : 1 ≤ k) (h8 : k ≤ 8) : chk k ByteArray.empty = 0 := chk_ok k _ h1 h8 (fun i hi => by simp at hi)
theorem cwE_empty (A : Aut) : cwE A ByteArray.empty = chkA A := by
  unfold cwE
  rcases chkA_cases A with ⟨hG, hc⟩ | ⟨hG, hc⟩
  · rw [if_pos hc, hc, chk_empty hG.k1 hG.k8]
  · rw [if_neg (by rw [hc]; decide), hc]
theorem ahA_empty (A : Aut) : ahA A ByteArray.empty = reA A := by
  unfold ahA reA
  rw [cwE_empty]
  rfl

end Go.Proofs.Ytggheiblgghpkaa
