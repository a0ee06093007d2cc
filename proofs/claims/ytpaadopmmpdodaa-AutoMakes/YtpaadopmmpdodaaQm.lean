/- Contract of the document's Not. -/
import Derived.Test.YtpaadopmmpdodaaQj
import Derived.Test.YtpaadopmmpdodaaJl
namespace Go.Proofs.Ytpaadopmmpdodaa
open Go Go.RowKit Go.Lib Go.Maps
set_option linter.unusedVariables false

/-- The first i turned round. -/
def flp (i : Nat) (l : List Bool) : List Bool := (l.take i).map (!·) ++ l.drop i
theorem flp_len (i : Nat) (l : List Bool) : (flp i l).length = l.length := by simp [flp]; omega
theorem flp_zero (l : List Bool) : flp 0 l = l := by simp [flp]
theorem flp_end (l : List Bool) : flp l.length l = l.map (!·) := by simp [flp]
theorem flp_at {i : Nat} {l : List Bool} (h : i < l.length) : (flp i l)[i]? = some l[i] := by
  unfold flp
  rw [List.getElem?_append_right (by simp; omega)]
  simp [Nat.min_eq_left (Nat.le_of_lt h)]
theorem flp_set {i : Nat} {l : List Bool} (h : i < l.length) : (flp i l).set i (!l[i]) = flp (i + 1) l := by
  apply List.ext_getElem?
  intro j
  unfold flp
  rw [List.getElem?_set]
  by_cases e : i = j
  · subst e
    rw [if_pos rfl, if_pos (by simp; omega), List.getElem?_append_left (by simp; omega)]
    simp [h]
  · rw [if_neg e]
    by_cases hj : j < i
    · rw [List.getElem?_append_left (by simp; omega), List.getElem?_append_left (by simp; omega)]
      simp [hj, show j < i + 1 by omega]
    · rw [List.getElem?_append_right (by simp; omega), List.getElem?_append_right (by simp; omega)]
      simp [show min i l.length = i by omega, show min (i + 1) l.length = i + 1 by omega, show i + (j - i) = j by omega, show i + 1 + (j - (i + 1)) = j by omega]
theorem notA_eq (A : Aut) : (⟨(reA A).k, (reA A).nx, (reA A).ac.map (!·)⟩ : Aut) = notA A := by
  unfold reA notA
  rcases chkA_cases A with ⟨hG, hc⟩ | ⟨hG, hc⟩
  · rw [if_pos hc, if_pos hc]
    obtain ⟨m, n, hb, _⟩ := bfs_some hG (show 0 < A.ac.length by have := hG.n1; omega)
    unfold rch
    rw [hb]
    simp
  · rw [if_neg (by rw [hc]; decide), if_neg (by rw [hc]; decide)]
    simp [zAut]

/-- What stands in memory while the answers are turned round. -/
structure LN (w : World) (r : Nat) (B : Aut) (rn : Option Addr) (rcn : Nat) (ra : Option Addr) (rca i : Nat) (wr : World) : Prop where
  bx : wr.heap[r]? = some (.cells #[.int .i64 B.k, .slice rn B.nx.length rcn, .slice ra B.ac.length rca] 25 (0, 0))
  res : wr.heap[w.heap.size + 1]? = some (.cells #[.int .i64 0, .slice none 0 0, .slice none 0 0] 25 (0, 0))
  nx : wr.ownsRow w.heap.size 3 1 (.slice rn B.nx.length rcn) B.nx.length (zC B.nx)
  ac : wr.ownsRow w.heap.size 4 1 (.slice ra B.ac.length rca) B.ac.length (bC (flp i B.ac))
  below : Below w.heap.size w wr
theorem LN.next {w : World} {r : Nat} {B : Aut} {rn : Option Addr} {rcn g rca i : Nat} {wr : World} (h : LN w r B rn rcn (some ⟨g, 0, none⟩) rca i wr) (hi : i < B.ac.length) : LN w r B rn rcn (some ⟨g, 0, none⟩) rca (i + 1) (wr.setCell ⟨g, i, none⟩ (.bool (!B.ac[i]))) := by
  obtain ⟨hlo, cur, hg⟩ := own_blk h.ac (b := g) rfl
  have so : ∀ (b : Nat) (O : Obj), wr.heap[b]? = some O → (∀ cur : Array Value, O ≠ Obj.cells cur 4 (0, 0)) → (wr.setCell ⟨g, i, none⟩ (.bool (!B.ac[i]))).heap[b]? = wr.heap[b]? := fun b O hb hne => heap_set_other (fun e => by
    rw [e, hg, Option.some.injEq] at hb
    exact hne _ hb.symm)
  refine ⟨(so _ _ h.bx (fun cur e => by injection e with _ e _; cases e)).trans h.bx, (so _ _ h.res (fun cur e => by injection e with _ e _; cases e)).trans h.res, own_keep h.nx (fun b cur hb hc => so b _ hc (fun cur' e => by injection e with _ e _; cases e)), ?_, h.below.setCell (p := ⟨g, i, none⟩) hlo _⟩
  have := (h.ac.stored i (.bool (!B.ac[i]))).1
  rw [← flp_set hi]
  simpa [bC, List.map_set] using this

set_option maxHeartbeats 4000000 in
set_option maxRecDepth 100000 in
theorem rnot_any (v : Value) (A : Aut) (w : World) (h : AR w v A) (hm : A.nx.length ≤ 9223372036854775806) (hm2 : A.ac.length ≤ 9223372036854775806) :
    Calls Try.prog 22 #[v] w (FQ (notA A) (chkA A) w) := by
  obtain ⟨an, cn, aa, ca, e, h1, h2⟩ := h.is
  have HAR : Hid (∀ w', Below w.heap.size w w' → AR w' v A) := fun w' hb => h.stay hb
  clear h h1 h2
  subst e
  obtain ⟨W, hW⟩ : ∃ W, W = (w.alloc (.cells #[.int .i64 A.k, .slice an A.nx.length cn, .slice aa A.ac.length ca] 25)).alloc (.cells #[.int .i64 0, .slice none 0 0, .slice none 0 0] 25) := ⟨_, rfl⟩
  have HB2 : Hid (Below w.heap.size w W) := by
    show Below w.heap.size w W
    rw [hW]
    exact go_on (below_new _ _) (below_new _ _)
  have HRES : Hid (W.heap[w.heap.size + 1]? = some (.cells #[.int .i64 0, .slice none 0 0, .slice none 0 0] 25 (0, 0))) := by
    show W.heap[w.heap.size + 1]? = _
    rw [hW]
    have := heap_alloc_last (w.alloc (.cells #[.int .i64 A.k, .slice an A.nx.length cn, .slice aa A.ac.length ca] 25)) (.cells #[.int .i64 0, .slice none 0 0, .slice none 0 0] 25)
    simpa using this
  have HWE : Hid (W = (w.alloc (.cells #[.int .i64 A.k, .slice an A.nx.length cn, .slice aa A.ac.length ca] 25)).alloc (.cells #[.int .i64 0, .slice none 0 0, .slice none 0 0] 25)) := hW
  clear hW
  obtain ⟨B, hB⟩ : ∃ B, reA A = B := ⟨_, rfl⟩
  have HRE : Hid (Calls Try.prog 20 #[.agg #[.int .i64 A.k, .slice an A.nx.length cn, .slice aa A.ac.length ca]] W (FQ B (chkA A) W)) := by rw [← hB]; exact rreach_any _ A W (HAR.out _ HB2.out) hm hm2
  have HNB : Hid ((⟨B.k, B.nx, B.ac.map (!·)⟩ : Aut) = notA A) := by rw [← hB]; exact notA_eq A
  clear hB
  go_enter Try.func22, Try.ntmps22
  go_wp2_with fail
  rw [← HWE.out]
  refine HRE.out.mono ?_
  rintro e w3 ⟨v', rfl, hao, hb3⟩
  have hres3 := (hb3.block _ (Array.getElem?_eq_some_iff.1 HRES.out).1).trans HRES.out
  obtain ⟨rn, rcn, ra, rca, rfl, o1, o2⟩ := hao
  have hsz := HB2.out.size
  have HL0 : Hid (LN w w3.heap.size B rn rcn ra rca 0 (w3.alloc (.cells #[.int .i64 B.k, .slice rn B.nx.length rcn, .slice ra B.ac.length rca] 25))) := by
    refine ⟨heap_alloc_last _ _, ?_, own_mono (o1.alloc _) hsz, ?_, go_on (go_on HB2.out hb3) (below_new _ _)⟩
    · rw [(below_new _ _).block _ (Array.getElem?_eq_some_iff.1 hres3).1]; exact hres3
    · rw [flp_zero]; exact own_mono (o2.alloc _) hsz
  have hbl : B.ac.length ≤ maxLen := by
    rcases o2.2 with ⟨_, h0⟩ | ⟨_, _, _, _, _, _, h1, h2, _⟩
    · omega
    · omega
  have HBL : Hid (B.ac.length ≤ maxLen) := hbl
  have hbl2 : B.ac.length ≤ 9223372036854775807 := by unfold maxLen at hbl; exact hbl
  clear o1 o2 hb3 hres3 HWE hsz HRE hbl
  go_wp2_with fail
  go_loopw [6] (fun vi wr => ∃ i : Nat, vi = .int .i64 i ∧ i ≤ B.ac.length ∧ LN w w3.heap.size B rn rcn ra rca i wr) (fun vi _ => B.ac.length - (intOf vi).toNat)
  case atStart => exact ⟨0, rfl, Nat.zero_le _, HL0.out⟩
  case round =>
    clear HL0
    obtain ⟨i, rfl, hi, hL⟩ := hrel
    have HL : Hid (LN w w3.heap.size B rn rcn ra rca i wr) := hL
    have cs : ∀ o, wr.cell? ⟨w3.heap.size, o, none⟩ = (#[.int .i64 B.k, .slice rn B.nx.length rcn, .slice ra B.ac.length rca] : Array Value)[o]? := fun o => cell_of hL.bx
    by_cases hlt : i < B.ac.length
    · obtain ⟨g, rfl⟩ : ∃ g, ra = some ⟨g, 0, none⟩ := by
        rcases hL.ac.2 with ⟨_, h0⟩ | ⟨g, cap, cur, hv, _⟩
        · omega
        · simp at hv
          exact ⟨g, hv.1⟩
      have hiI : (i : Int) < B.ac.length := by omega
      obtain ⟨d, hd⟩ : ∃ d, B.ac[i] = d := ⟨_, rfl⟩
      have csd : ∀ o, wr.drew.cell? ⟨w3.heap.size, o, none⟩ = (#[.int .i64 B.k, .slice rn B.nx.length rcn, .slice (some ⟨g, 0, none⟩) B.ac.length rca] : Array Value)[o]? := cs
      have hcd : wr.drew.cell? ⟨g, i, none⟩ = some (.bool d) := by
        have := hL.ac.cellAt i (by omega)
        rw [show (bC (flp i B.ac))[i]? = some (.bool d) by simp [bC, flp_at hlt, hd]] at this
        exact this
      have hfd : wr.drew.frozen? ⟨g, i, none⟩ = false := hL.ac.frozenAt i
      have HN : Hid (LN w w3.heap.size B rn rcn (some ⟨g, 0, none⟩) rca (i + 1) (wr.setCell ⟨g, i, none⟩ (.bool (!d))).drew) := by
        have := hL.next hlt
        rw [hd] at this
        exact ⟨this.bx, this.res, this.nx, this.ac, this.below.drew⟩
      clear hL HL hd
      go_wp2_with fail
      go_region_law (fail)
      all_goals (
        go_wp2_with fail
        go_roundw
        case rel => exact ⟨i + 1, by go_num, by omega, HN.out⟩
        case measure => simp [intOf]; omega)
    · have HE : Hid (i = B.ac.length) := by show _ = _; omega
      have hiI : ¬ (i : Int) < B.ac.length := by omega
      have hE : (i : Int) = B.ac.length := by omega
      have hac : wr.ownsRow w.heap.size 4 1 (.slice ra (B.ac.map (!·)).length rca) (B.ac.map (!·)).length (bC (B.ac.map (!·))) := by
        have := hL.ac
        rw [HE.out, flp_end] at this
        simpa using this
      obtain ⟨f1, f2, f3⟩ := res_done (B := ⟨B.k, B.nx, B.ac.map (!·)⟩) (base := w.heap.size) (w0 := w) (x0 := .int .i64 B.k) (x1 := .slice rn B.nx.length rcn) (x2 := .slice ra B.ac.length rca) hL.res ⟨rn, rcn, ra, rca, by simp, hL.nx, hac⟩ hL.below (by omega)
      rw [HNB.out] at f2
      have hr0 : wr.cell? ⟨w.heap.size + 1, 0, none⟩ = some (.int .i64 0) := cell_of hL.res
      have hr1 : wr.cell? ⟨w.heap.size + 1, 1, none⟩ = some (.slice none 0 0) := cell_of hL.res
      have hr2 : wr.cell? ⟨w.heap.size + 1, 2, none⟩ = some (.slice none 0 0) := cell_of hL.res
      have hf : ∀ j, wr.frozen? ⟨w.heap.size + 1, j, none⟩ = false := fun j => froz_of hL.res
      have F1 : Hid _ := f1
      have F2 : Hid _ := f2
      have F3 : Hid _ := f3
      clear f1 f2 f3 hL HL hac hE
      go_wp2_with fail
      exact bodyPost_ret (results_auto rfl rfl F1.out rfl) rfl ⟨_, rfl, F2.out, F3.out⟩
end Go.Proofs.Ytpaadopmmpdodaa
