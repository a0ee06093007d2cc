/- The document's Reach; the laws' SameAuto; an automaton that is built list by list. -/
import Derived.Test.YtbfoamidnekoaabQe
import Derived.Test.YtbfoamidnekoaabJr
namespace Go.Proofs.Ytbfoamidnekoaab
open Go Go.RowKit Go.Lib Go.Maps
set_option linter.unusedVariables false

set_option maxHeartbeats 4000000 in
set_option maxRecDepth 100000 in
theorem rreach_any (v : Value) (A : Aut) (w : World) (h : AR w v A) (hm : A.nx.length ≤ 9223372036854775806) (hm2 : A.ac.length ≤ 9223372036854775806) :
    Calls Try.prog 25 #[v] w (FQ (reA A) (chkA A) w) := by
  obtain ⟨an, cn, aa, ca, e, h1, h2⟩ := h.is
  have HAR : Hid (∀ w', Below w.heap.size w w' → AR w' v A) := fun w' hb => h.stay hb
  have HS1 : Hid (∀ y, Below w.heap.size w y → SR y an (zC A.nx)) := fun y hy => h1.stay hy
  have HS2 : Hid (∀ y, Below w.heap.size w y → SR y aa (bC A.ac)) := fun y hy => h2.stay hy
  clear h h1 h2
  subst e
  obtain ⟨W, hW⟩ : ∃ W, W = (w.alloc (.cells #[.int .i64 A.k, .slice an A.nx.length cn, .slice aa A.ac.length ca] 25)).alloc (.cells #[.int .i64 0, .slice none 0 0, .slice none 0 0] 25) := ⟨_, rfl⟩
  have HR2 : Hid (RowAt W w.heap.size #[.int .i64 A.k, .slice an A.nx.length cn, .slice aa A.ac.length ca]) := by
    show RowAt W w.heap.size _
    rw [hW]
    exact (RowAt.last _ _ _).alloc _
  have HB2 : Hid (Below w.heap.size w W) := by
    show Below w.heap.size w W
    rw [hW]
    exact go_on (below_new _ _) (below_new _ _)
  have HRES : Hid (W.heap[w.heap.size + 1]? = some (.cells #[.int .i64 0, .slice none 0 0, .slice none 0 0] 25 (0, 0))) := by
    show W.heap[w.heap.size + 1]? = _
    rw [hW]
    have := heap_alloc_last (w.alloc (.cells #[.int .i64 A.k, .slice an A.nx.length cn, .slice aa A.ac.length ca] 25)) (.cells #[.int .i64 0, .slice none 0 0, .slice none 0 0] 25)
    simpa using this
  have HWE : Hid (W = (w.alloc (.cells #[.int .i64 A.k, .slice an A.nx.length cn, .slice aa A.ac.length ca] 25)).alloc (.cells #[.int .i64 0, .slice none 0 0, .slice none 0 0] 25)) := hW
  clear hW
  go_enter Try.func25, Try.ntmps25
  go_wp2_with fail
  rw [← HWE.out]
  refine (racheck_any _ A _ (HAR.out _ HB2.out) hm hm2).mono ?_
  rintro e w1 ⟨rfl, hb1⟩
  have cs := (HR2.out.stay hb1).cell
  have hres1 : w1.heap[w.heap.size + 1]? = some (.cells #[.int .i64 0, .slice none 0 0, .slice none 0 0] 25 (0, 0)) := (hb1.block _ (Array.getElem?_eq_some_iff.1 HRES.out).1).trans HRES.out
  have HB1 : Hid (Below w.heap.size w w1) := go_on HB2.out hb1
  have HR1 : Hid (w1.heap[w.heap.size + 1]? = some (.cells #[.int .i64 0, .slice none 0 0, .slice none 0 0] 25 (0, 0))) := hres1
  have hlt1 : w.heap.size + 1 < w1.heap.size := (Array.getElem?_eq_some_iff.1 hres1).1
  clear hb1
  rcases chkA_cases A with ⟨hG, hc⟩ | ⟨hG, hc⟩
  · rw [hc]
    have HA0 : Hid (reA A = rch A 0 (aN A)) := by show _ = _; unfold reA; rw [if_pos hc]
    have HC : Hid (chkA A = 0) := hc
    have HG : Hid (Good A) := hG
    have HFG : Hid (∀ y, Below w1.heap.size w1 y → Calls Try.prog 43 #[.agg #[.int .i64 1, .int .i64 A.k, .slice an A.nx.length cn, .slice aa A.ac.length ca, .int .i64 0, .slice none 0 0, .slice none 0 0], .int .i64 0] y (FQ (rch A 0 (aN A)) 0 y)) := fun y hy => by
      have hkn := hG.kn
      have hn1 := hG.n1
      rw [← hkn.2.2]
      refine (rsearch_any y 1 0 A.k.toNat (.slice an A.nx.length cn) (.slice aa A.ac.length ca) (.int .i64 0) (.slice none 0 0) (.slice none 0 0) ⟨hkn.1, hkn.2.1⟩ nB (fun t => t < A.ac.length) (dN A) 0 (aN A) (fun a b ha hb => nB_inj (by have := hG.n2; omega) (by have := hG.n2; omega)) (by omega) (fun s c hs hc => (hG.at hs (by omega)).2.2) (fun w' _ => start1_any _ _ _ _ _ _ w') ?_ ?_).mono ?_
      · intro w' s c hb hs hc
        rw [hkn.2.2]
        exact step1_any A hG an aa cn ca _ _ _ w' (HS1.out w' (go_on (go_on HB1.out hy) hb)) s c hs (by omega)
      · intro w' s hb hs
        rw [hkn.2.2]
        exact good1_any A hG an aa cn ca _ _ _ w' (HS2.out w' (go_on (go_on HB1.out hy) hb)) s 0 hs
      · intro e w' hq
        exact sq_fq hG (by omega) hq
    clear hc hG hres1
    go_wp2_with fail
    refine (HFG.out _ (below_new _ _)).mono ?_
    rintro e w3 ⟨v', rfl, hao, hb3⟩
    have hb13 : Below w1.heap.size w1 w3 := go_on (below_new _ _) hb3
    have hres3 := (hb13.block _ hlt1).trans HR1.out
    obtain ⟨rn, rcn, ra, rca, rfl, o1, o2⟩ := hao
    rw [← HA0.out] at o1 o2 ⊢
    obtain ⟨f1, f2, f3⟩ := res_done (B := reA A) (base := w.heap.size) (w0 := w) (x0 := .int .i64 (reA A).k) (x1 := .slice rn (reA A).nx.length rcn) (x2 := .slice ra (reA A).ac.length rca) hres3 ⟨rn, rcn, ra, rca, rfl, own_mono o1 (by have := HB1.out.size; simp; omega), own_mono o2 (by have := HB1.out.size; simp; omega)⟩ (go_on HB1.out hb13) (by omega)
    have hr0 : w3.cell? ⟨w.heap.size + 1, 0, none⟩ = some (.int .i64 0) := cell_of hres3
    have hr1 : w3.cell? ⟨w.heap.size + 1, 1, none⟩ = some (.slice none 0 0) := cell_of hres3
    have hr2 : w3.cell? ⟨w.heap.size + 1, 2, none⟩ = some (.slice none 0 0) := cell_of hres3
    have hf : ∀ j, w3.frozen? ⟨w.heap.size + 1, j, none⟩ = false := fun j => froz_of hres3
    have F1 : Hid _ := f1
    have F2 : Hid _ := f2
    have F3 : Hid _ := f3
    clear o1 o2 hb3 hres3 cs f1 f2 f3 hb13
    go_wp2_with fail
    refine bodyPost_ret (results_auto rfl rfl F1.out rfl) rfl ⟨_, ?_, F2.out, F3.out⟩
    rw [HC.out]
    rfl
  · rw [hc]
    have HA0 : Hid (reA A = zAut) := by show _ = _; unfold reA; rw [if_neg (by rw [hc]; decide)]
    have HC : Hid (chkA A = 80) := hc
    have hr0 : w1.cell? ⟨w.heap.size + 1, 0, none⟩ = some (.int .i64 0) := cell_of hres1
    have hr1 : w1.cell? ⟨w.heap.size + 1, 1, none⟩ = some (.slice none 0 0) := cell_of hres1
    have hr2 : w1.cell? ⟨w.heap.size + 1, 2, none⟩ = some (.slice none 0 0) := cell_of hres1
    have hf : ∀ j, w1.frozen? ⟨w.heap.size + 1, j, none⟩ = false := fun j => froz_of hres1
    obtain ⟨f1, f2, f3⟩ := res_done (B := zAut) (base := w.heap.size) (w0 := w) hres1 (AO.zero _ _) HB1.out (by omega)
    have F1 : Hid _ := f1
    have F2 : Hid _ := f2
    have F3 : Hid _ := f3
    clear hc hG hres1 f1 f2 f3
    go_wp2_with fail
    refine bodyPost_ret (results_auto rfl rfl F1.out rfl) rfl ⟨.agg #[.int .i64 0, .slice none 0 0, .slice none 0 0], ?_, ?_, F3.out⟩
    · rw [HC.out]; rfl
    · rw [HA0.out]; exact F2.out

set_option maxHeartbeats 4000000 in
set_option maxRecDepth 100000 in
theorem sameAuto_any (u v : Value) (A : Aut) (w : World) (hu : AR w u A) (hv : AR w v A) (hm : A.nx.length ≤ 9223372036854775806) (hm2 : A.ac.length ≤ 9223372036854775806) :
    Calls Try.prog 10 #[u, v] w fun e w' => e = .returned (.bool true) ∧ Below w.heap.size w w' := by
  obtain ⟨an, cn, aa, ca, rfl, h1, h2⟩ := hu.is
  obtain ⟨bn, dn, ba, da, rfl, k1, k2⟩ := hv.is
  have HSA : Hid (∀ y, Below w.heap.size w y → Calls Try.prog 28 #[.slice an A.nx.length cn, .slice bn A.nx.length dn] y fun e w' => e = .returned (.bool true) ∧ Below y.heap.size y w') := fun y hy => same_any an bn cn dn A.nx y (h1.stay hy) (k1.stay hy) hm
  have H2 : Hid (SR w aa (bC A.ac)) := h2
  have K2 : Hid (SR w ba (bC A.ac)) := k2
  have R1 : RowAt (w.alloc (.cells #[.int .i64 A.k, .slice an A.nx.length cn, .slice aa A.ac.length ca] 25)) w.heap.size #[.int .i64 A.k, .slice an A.nx.length cn, .slice aa A.ac.length ca] := RowAt.last _ _ _
  have R2 := R1.alloc (.cells #[.int .i64 A.k, .slice bn A.nx.length dn, .slice ba A.ac.length da] 25)
  have R3 := RowAt.last (w.alloc (.cells #[.int .i64 A.k, .slice an A.nx.length cn, .slice aa A.ac.length ca] 25)) #[.int .i64 A.k, .slice bn A.nx.length dn, .slice ba A.ac.length da] 25
  rw [World.size_alloc] at R3
  have HR2 : Hid (RowAt ((w.alloc (.cells #[.int .i64 A.k, .slice an A.nx.length cn, .slice aa A.ac.length ca] 25)).alloc (.cells #[.int .i64 A.k, .slice bn A.nx.length dn, .slice ba A.ac.length da] 25)) w.heap.size #[.int .i64 A.k, .slice an A.nx.length cn, .slice aa A.ac.length ca]) := R2
  have HR3 : Hid (RowAt ((w.alloc (.cells #[.int .i64 A.k, .slice an A.nx.length cn, .slice aa A.ac.length ca] 25)).alloc (.cells #[.int .i64 A.k, .slice bn A.nx.length dn, .slice ba A.ac.length da] 25)) (w.heap.size + 1) #[.int .i64 A.k, .slice bn A.nx.length dn, .slice ba A.ac.length da]) := R3
  have HBW : Hid (∀ O O', Below w.heap.size w ((w.alloc O).alloc O')) := fun O O' => go_on (below_new _ _) (below_new _ _)
  clear hu hv h1 h2 k1 k2 R1 R2 R3
  go_enter Try.func10, Try.ntmps10
  go_wp2_with (first
    | (go_at_call 28; refine (HSA.out _ (HBW.out _ _)).mono ?_; rintro e y1 ⟨rfl, hy1⟩; have HA1 : Hid (RowAt y1 w.heap.size #[.int .i64 A.k, .slice an A.nx.length cn, .slice aa A.ac.length ca]) := RowAt.stay HR2.out hy1; have HA2 : Hid (RowAt y1 (w.heap.size + 1) #[.int .i64 A.k, .slice bn A.nx.length dn, .slice ba A.ac.length da]) := RowAt.stay HR3.out hy1; have cs1 := HA1.out.cell; have cs2 := HA2.out.cell; have HY : Hid (Below w.heap.size w y1) := go_on (HBW.out _ _) hy1; clear hy1))
  clear cs1 cs2
  go_loopw [5] (fun vi wr => ∃ i : Nat, vi = .int .i64 i ∧ i ≤ A.ac.length ∧ Below y1.heap.size y1 wr) (fun vi _ => A.ac.length - (intOf vi).toNat)
  case atStart => exact ⟨0, rfl, Nat.zero_le _, Below.refl _ _⟩
  case round =>
    obtain ⟨i, rfl, hi, hb⟩ := hrel
    have HB : Hid (Below y1.heap.size y1 wr) := hb
    have cs1 := (HA1.out.stay hb).cell
    have cs2 := (HA2.out.stay hb).cell
    by_cases hlt : i < A.ac.length
    · have hiI : (i : Int) < A.ac.length := by omega
      have hbw : Below w.heap.size w wr := go_on HY.out hb
      obtain ⟨ga, oa, rfl, _, c1⟩ := (H2.out.stay hbw).bool hlt
      obtain ⟨gb, ob, rfl, _, c2⟩ := (K2.out.stay hbw).bool hlt
      obtain ⟨x, hx⟩ : ∃ x, A.ac.getD i false = x := ⟨_, rfl⟩
      rw [hx] at c1 c2
      have S0 : (∀ o, wr.drew.cell? ⟨w.heap.size, o, none⟩ = (#[.int .i64 A.k, .slice an A.nx.length cn, .slice (some ⟨ga, oa, none⟩) A.ac.length ca] : Array Value)[o]?) ∧ (∀ o, wr.drew.cell? ⟨w.heap.size + 1, o, none⟩ = (#[.int .i64 A.k, .slice bn A.nx.length dn, .slice (some ⟨gb, ob, none⟩) A.ac.length da] : Array Value)[o]?) ∧ wr.drew.cell? ⟨ga, oa + i, none⟩ = some (.bool x) ∧ wr.drew.cell? ⟨gb, ob + i, none⟩ = some (.bool x) := ⟨cs1, cs2, c1, c2⟩
      clear hx hb hbw
      go_wp2_with fail
      clear cs1 cs2 c1 c2
      go_region_held3 (fun y => (∀ o, y.cell? ⟨w.heap.size, o, none⟩ = (#[.int .i64 A.k, .slice an A.nx.length cn, .slice (some ⟨ga, oa, none⟩) A.ac.length ca] : Array Value)[o]?) ∧ (∀ o, y.cell? ⟨w.heap.size + 1, o, none⟩ = (#[.int .i64 A.k, .slice bn A.nx.length dn, .slice (some ⟨gb, ob, none⟩) A.ac.length da] : Array Value)[o]?) ∧ y.cell? ⟨ga, oa + i, none⟩ = some (.bool x) ∧ y.cell? ⟨gb, ob + i, none⟩ = some (.bool x)) (first | exact S0 | assumption) (fail)
      all_goals (
        clear S0
        go_wp2_with fail
        go_roundw
        case rel => exact ⟨i + 1, by go_num, by omega, HB.out.drew⟩
        case measure => simp [intOf]; omega)
    · have hiI : ¬ (i : Int) < A.ac.length := by omega
      clear hb
      go_wp2_with fail
      go_ret
      exact ⟨rfl, go_on HY.out HB.out⟩

/-- An automaton that is built: the answer's block, the automaton's, its lists. -/
structure BA (w : World) (rb ob : Nat) (K : Int) (n : List Int) (a : List Bool) (vn va : Value) (wr : World) : Prop where
  res : wr.heap[rb]? = some (.cells #[.int .i64 0, .slice none 0 0, .slice none 0 0] 25 (0, 0))
  out : wr.heap[ob]? = some (.cells #[.int .i64 K, vn, va] 25 (0, 0))
  nxt : wr.ownsRow w.heap.size 3 1 vn n.length (zC n)
  acp : wr.ownsRow w.heap.size 4 1 va a.length (bC a)
  below : Below w.heap.size w wr
  olo : w.heap.size ≤ ob
  ne : rb ≠ ob
theorem BA.call {w : World} {rb ob : Nat} {K : Int} {n : List Int} {a : List Bool} {vn va : Value} {wr w2 : World} (h : BA w rb ob K n a vn va wr) (hb : Below wr.heap.size wr w2) : BA w rb ob K n a vn va w2 :=
  ⟨(hb.block _ (Array.getElem?_eq_some_iff.1 h.res).1).trans h.res, (hb.block _ (Array.getElem?_eq_some_iff.1 h.out).1).trans h.out, own_below h.nxt hb, own_below h.acp hb, go_on h.below hb, h.olo, h.ne⟩
theorem BA.nxtd {w : World} {rb ob : Nat} {K : Int} {n : List Int} {a : List Bool} {vn va vn' : Value} {wr w2 : World} {o : Obj} {p : Int} (h : BA w rb ob K n a vn va wr)
    (hg : (wr.alloc o).grownBy w2 vn.ownBlock) (ho : w2.ownsRow w.heap.size 3 1 vn' (n.length + 1) (zC n ++ [.int .i64 p])) : BA w rb ob K (n ++ [p]) a vn' va (w2.setCell ⟨ob, 1, none⟩ vn') := by
  have kt := fun b O hb hne => grown_other h.nxt hg b O hb hne
  have hout := (kt _ _ h.out (fun cur e => by injection e with _ e _; cases e)).trans h.out
  have hres := (kt _ _ h.res (fun cur e => by injection e with _ e _; cases e)).trans h.res
  have so : ∀ (b : Nat) (O : Obj), w2.heap[b]? = some O → (∀ cur : Array Value, O ≠ Obj.cells cur 25 (0, 0)) → (w2.setCell ⟨ob, 1, none⟩ vn').heap[b]? = w2.heap[b]? := fun b O hb hne => heap_set_other (fun e => by
    rw [e, hout, Option.some.injEq] at hb
    exact hne _ hb.symm)
  refine ⟨(heap_set_other h.ne).trans hres, heap_set hout, ?_, ?_, ?_, h.olo, h.ne⟩
  · refine own_keep ?_ (fun b cur hb hc => so b _ hc (fun cur' e => by injection e with _ e _; cases e))
    rw [List.length_append, zC_append]
    exact ho
  · exact own_keep (own_keep h.acp (fun b cur hb hc => kt b _ hc (fun cur' e => by injection e with _ e _; cases e))) (fun b cur hb hc => so b _ hc (fun cur' e => by injection e with _ e _; cases e))
  · exact ((h.below.alloc (by have := h.below.size; omega) o).grown hg (by have := h.below.size; simp; omega) (fun b hb => (h.nxt.lt b hb).1)).setCell (p := ⟨ob, 1, none⟩) h.olo _
theorem BA.acpd {w : World} {rb ob : Nat} {K : Int} {n : List Int} {a : List Bool} {vn va va' : Value} {wr w2 : World} {o : Obj} {p : Bool} (h : BA w rb ob K n a vn va wr)
    (hg : (wr.alloc o).grownBy w2 va.ownBlock) (ho : w2.ownsRow w.heap.size 4 1 va' (a.length + 1) (bC a ++ [.bool p])) : BA w rb ob K n (a ++ [p]) vn va' (w2.setCell ⟨ob, 2, none⟩ va') := by
  have kt := fun b O hb hne => grown_other h.acp hg b O hb hne
  have hout := (kt _ _ h.out (fun cur e => by injection e with _ e _; cases e)).trans h.out
  have hres := (kt _ _ h.res (fun cur e => by injection e with _ e _; cases e)).trans h.res
  have so : ∀ (b : Nat) (O : Obj), w2.heap[b]? = some O → (∀ cur : Array Value, O ≠ Obj.cells cur 25 (0, 0)) → (w2.setCell ⟨ob, 2, none⟩ va').heap[b]? = w2.heap[b]? := fun b O hb hne => heap_set_other (fun e => by
    rw [e, hout, Option.some.injEq] at hb
    exact hne _ hb.symm)
  refine ⟨(heap_set_other h.ne).trans hres, heap_set hout, ?_, ?_, ?_, h.olo, h.ne⟩
  · exact own_keep (own_keep h.nxt (fun b cur hb hc => kt b _ hc (fun cur' e => by injection e with _ e _; cases e))) (fun b cur hb hc => so b _ hc (fun cur' e => by injection e with _ e _; cases e))
  · refine own_keep ?_ (fun b cur hb hc => so b _ hc (fun cur' e => by injection e with _ e _; cases e))
    rw [List.length_append, bC_append]
    exact ho
  · exact ((h.below.alloc (by have := h.below.size; omega) o).grown hg (by have := h.below.size; simp; omega) (fun b hb => (h.acp.lt b hb).1)).setCell (p := ⟨ob, 2, none⟩) h.olo _
theorem BA.outN {w : World} {rb ob : Nat} {K : Int} {n : List Int} {a : List Bool} {vn va : Value} {wr w2 : World} {o : Obj} (h : BA w rb ob K n a vn va wr) {v : Value} {e : TypeId} {size k : Nat} {xs : List Value} (hv : wr.ownsRow w.heap.size e size v k xs) (he : e ≠ 25) (hg : (wr.alloc o).grownBy w2 v.ownBlock) :
    w2.heap[ob]? = some (.cells #[.int .i64 K, vn, va] 25 (0, 0)) := (grown_other hv hg _ _ h.out (fun cur e1 => by injection e1 with _ e1 _; exact he e1.symm)).trans h.out
theorem BA.ar {w : World} {rb ob : Nat} {K : Int} {n : List Int} {a : List Bool} {an aa : Option Addr} {cn ca : Nat} {wr : World} (h : BA w rb ob K n a (.slice an n.length cn) (.slice aa a.length ca) wr) : AR wr (.agg #[.int .i64 K, .slice an n.length cn, .slice aa a.length ca]) ⟨K, n, a⟩ :=
  ⟨an, cn, aa, ca, rfl, own_sr h.nxt, own_sr h.acp⟩
end Go.Proofs.Ytbfoamidnekoaab
