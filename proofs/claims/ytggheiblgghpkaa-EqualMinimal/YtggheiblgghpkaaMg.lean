/- minim: byLetters. -/
import Derived.Test.YtggheiblgghpkaaMf
namespace Go.Proofs.Ytggheiblgghpkaa
open Go Go.RowKit Go.Lib Go.Maps
set_option linter.unusedVariables false
attribute [-instance] instBEqProd

/-- What lies in memory while byLetters goes on. -/
structure BLt (A : Aut) (l : List Nat) (w : World) (arr : Array Value) (vm : Value) (mb i m : Nat) (D : DataW Unit) (r : List Value) (wr : World) : Prop where
  box : RowAt wr w.heap.size arr
  out : wr.ownsRow w.heap.size 3 1 (.slice (some ⟨w.heap.size + 1, 0, none⟩) l.length l.length) l.length r
  mem : wr.ownsRow (w.heap.size + 2) 3 1 vm l.length (nC (cntL l l.length l.length))
  mp : wr.ownsMap Try.prog 115 (plainElem Try.prog 3) mb m D
  ml : w.heap.size + 2 ≤ mb
  ms : MS A l i D
  mi : m ≤ i
  below : Below w.heap.size w wr
theorem BLt.call {A : Aut} {l : List Nat} {w : World} {arr : Array Value} {vm : Value} {mb i m : Nat} {D : DataW Unit} {r : List Value} {wr w2 : World} (h : BLt A l w arr vm mb i m D r wr) (hb : Below wr.heap.size wr w2) : BLt A l w arr vm mb i m D r w2 :=
  ⟨h.box.stay hb, own_below h.out hb, own_below h.mem hb, map_keep h.mp (hb.block _ h.mp.lt), h.ml, h.ms, h.mi, go_on h.below hb⟩
/-- A state's place is written. -/
theorem BLt.set {A : Aut} {l : List Nat} {w : World} {arr : Array Value} {vm : Value} {mb i m : Nat} {D : DataW Unit} {r : List Value} {wr : World} (h : BLt A l w arr vm mb i m D r wr) (j : Nat) (x : Value) : BLt A l w arr vm mb i m D (r.set j x) (wr.setCell ⟨w.heap.size + 1, j, none⟩ x) := by
  have hml := h.ml
  refine ⟨⟨by simp [World.setCell]; exact h.box.lt, fun o => ?_⟩, (h.out.stored j x).1, own_keep h.mem (fun b cur hb hc => heap_set_other ?_), map_keep h.mp (heap_set_other (by omega)), h.ml, h.ms, h.mi, h.below.setCell (p := ⟨w.heap.size + 1, j, none⟩) (by show _ ≤ w.heap.size + 1; omega) _⟩
  · rw [World.cell?_of_block (heap_set_other (show w.heap.size ≠ w.heap.size + 1 by omega))]
    exact h.box.cell o
  · have := (own_blk h.mem hb).1
    omega
theorem BLt.next {A : Aut} {l : List Nat} {w : World} {arr : Array Value} {vm : Value} {mb i m : Nat} {D : DataW Unit} {r r' : List Value} {wr : World} (h : BLt A l w arr vm mb i m D r wr) (hi : i < A.ac.length) (hs : ¬ (ns l l.length i ∧ fi A l i = i)) (hr : r = r') : BLt A l w arr vm mb (i + 1) m D r' wr :=
  ⟨h.box, hr ▸ h.out, h.mem, h.mp, h.ml, h.ms.skip hi hs, by have := h.mi; omega, h.below⟩
theorem BLt.put {A : Aut} (G : Good A) {l : List Nat} (hl : ∀ s, l.getD s 0 ≤ 65535) {w : World} {arr : Array Value} {vm : Value} {mb i m : Nat} {D : DataW Unit} {r r' : List Value} {wr w2 : World} (h : BLt A l w arr vm mb i m D r wr) (hi : i < A.ac.length) (hn : ns l l.length i) (hf : fi A l i = i) (hr : r = r')
    (hmo : w2.ownsMap Try.prog 115 (plainElem Try.prog 3) mb (m + 1) (D.put (kap A l i) (.lit (.int .i64 (i : Nat))))) (hg : wr.grownBy w2 (some mb)) : BLt A l w arr vm mb (i + 1) (m + 1) (D.put (kap A l i) (.lit (.int .i64 (i : Nat)))) r' w2 := by
  obtain ⟨es, clock, hmb⟩ := map_blk h.mp
  have hml := h.ml
  have kc : ∀ (b : Nat) (cur : Array Value) (e : TypeId), wr.heap[b]? = some (Obj.cells cur e (0, 0)) → w2.heap[b]? = wr.heap[b]? := fun b cur e hb => hg.block b (Array.getElem?_eq_some_iff.1 hb).1 (fun e1 => by simp at e1; rw [e1, hmb] at hb; cases hb)
  refine ⟨⟨Nat.lt_of_lt_of_le h.box.lt hg.size, fun o => ?_⟩, hr ▸ own_keep h.out (fun b cur _ hb => kc b cur _ hb), own_keep h.mem (fun b cur _ hb => kc b cur _ hb), hmo, h.ml, h.ms.put G hl h.mp.isMap hi hn hf, by have := h.mi; omega, h.below.grown hg h.below.size (fun b hb => by simp at hb; omega)⟩
  rw [World.cell?_of_block (hg.block _ h.box.lt (by simp; omega))]
  exact h.box.cell o

set_option maxHeartbeats 4000000 in
set_option maxRecDepth 100000 in
theorem byLetters_any (v : Value) (A : Aut) (w : World) (h : AR w v A) (G : Good A) (a : Option Addr) (cap : Nat) (l : List Nat) (hL : SR w a (nC l)) (hn : l.length = A.ac.length) (hl : ∀ s, s < l.length → l.getD s 0 < l.length) :
    Calls Try.prog 74 #[v, .slice a l.length cap] w fun e w' => ∃ g, e = .returned (.slice (some ⟨g, 0, none⟩) l.length l.length) ∧ w'.ownsRow w.heap.size 3 1 (.slice (some ⟨g, 0, none⟩) l.length l.length) l.length (nC (lst (sg A l) A.ac.length)) ∧ Below w.heap.size w w' := by
  obtain ⟨an, cn, aa, ca, e, h1, h2⟩ := h.is
  have hn1 := G.n1
  have hn2 := G.n2
  obtain ⟨g0, o0, rfl, hg0, hc0⟩ := hL.nat (i := 0) (by omega)
  have HAR : Hid (∀ y, Below w.heap.size w y → AR y v A) := fun y hy => h.stay hy
  have HSL : Hid (∀ y, Below w.heap.size w y → SR y (some ⟨g0, o0, none⟩) (nC l)) := fun y hy => hL.stay hy
  have CL : Hid (∀ y i, Below w.heap.size w y → i < l.length → y.cell? ⟨g0, o0 + i, none⟩ = some (.int .i64 (l.getD i 0 : Nat))) := fun y i hy hi => by
    obtain ⟨g', o', e', _, hc'⟩ := (hL.stay hy).nat hi
    simp only [Option.some.injEq, Addr.mk.injEq] at e'
    obtain ⟨rfl, rfl, _⟩ := e'
    exact hc'
  obtain ⟨i0, hi, hz0, hz1, hz2⟩ := info_parts Try.info_int
  have hmk := fun w0 => run_make (P := Try.prog) w0 22 3 i0 (.int .i64 0) Try.underlying22 hi hz0 .i64 .i64 (l.length : Int) (l.length : Int) (by omega) (by omega) (by rw [hz2]; omega) (by omega)
  rw [hz1] at hmk
  simp only [Nat.mul_one] at hmk
  have HG : Hid (Good A) := G
  have HL : Hid (∀ s, s < l.length → l.getD s 0 < l.length) := hl
  have HL6 : Hid (∀ s, l.getD s 0 ≤ 65535) := fun s => by
    by_cases q : s < l.length
    · have := hl s q; omega
    · rw [List.getD_eq_getElem?_getD, List.getElem?_eq_none (by omega)]; simp
  have HN : Hid (l.length = A.ac.length) := hn
  have hmm := @run_makeMap Try.prog
  subst e
  have hl4 : l.length ≤ 4096 := by omega
  have hl1 : 1 ≤ l.length := by omega
  clear h h1 h2 G hl hL hc0 hg0 hn hn1 hn2
  go_enter Try.func74, Try.ntmps74
  go_wp2_with fail
  refine (sizes_any _ _ l _ (HSL.out _ (go_on (below_new _ _) (below_new _ _))) HL.out (by omega)).mono ?_
  rintro e w1 ⟨gm, rfl, hom, hb1⟩
  have HO0 : Hid (BLt A l w #[.int .i64 A.k, .slice an A.nx.length cn, .slice aa A.ac.length ca] (.slice (some ⟨gm, 0, none⟩) l.length l.length) w1.heap.size 0 0 (.map []) (nC (filN (fi A l) l.length 0)) (w1.alloc (.map #[] 0))) := by
    have hbU : Below w.heap.size w ((w.alloc (.cells #[.int .i64 A.k, .slice an A.nx.length cn, .slice aa A.ac.length ca] 25)).alloc (.cells (madeCells #[.int .i64 0] l.length) 3)) := go_on (below_new _ _) (below_new _ _)
    have hsz := hb1.size
    rw [World.size_alloc, World.size_alloc] at hsz
    have q1 : RowAt ((w.alloc (.cells #[.int .i64 A.k, .slice an A.nx.length cn, .slice aa A.ac.length ca] 25)).alloc (.cells (madeCells #[.int .i64 0] l.length) 3)) w.heap.size #[.int .i64 A.k, .slice an A.nx.length cn, .slice aa A.ac.length ca] := (RowAt.last _ _ _).alloc _
    have q2 := made_row (w.alloc (.cells #[.int .i64 A.k, .slice an A.nx.length cn, .slice aa A.ac.length ca] 25)) (fi A l) (n := l.length) (base := w.heap.size) (by omega) (by simp)
    rw [World.size_alloc] at q2
    rw [World.size_alloc, World.size_alloc] at hom
    refine ⟨(q1.stay hb1).alloc _, (own_below q2 hb1).alloc _, hom.alloc _, World.ownsMap_made (H := Unit) w1 Try.prog 115 (plainElem Try.prog 3), by omega, MS.empty A l, Nat.le_refl _, go_on (go_on hbU hb1) (below_new _ _)⟩
  clear hom hb1 hmk
  go_wp2_with fail
  clear hmm
  go_loopw [21] (fun vi wr => ∃ (i m : Nat) (D : DataW Unit), vi = .int .i64 i ∧ i ≤ l.length ∧ BLt A l w #[.int .i64 A.k, .slice an A.nx.length cn, .slice aa A.ac.length ca] (.slice (some ⟨gm, 0, none⟩) l.length l.length) w1.heap.size i m D (nC (filN (fi A l) l.length i)) wr) (fun vi _ => l.length - (intOf vi).toNat)
  case atStart => exact ⟨0, 0, _, rfl, Nat.zero_le _, HO0.out⟩
  case round =>
    clear HO0
    obtain ⟨i, m, D, rfl, hil, hO⟩ := hrel
    by_cases hlt : i < l.length
    · have hiI : (i : Int) < l.length := by omega
      have hiA : i < A.ac.length := by rw [← HN.out]; exact hlt
      have hcell := CL.out wr i hO.below hlt
      have hxl := HL.out i hlt
      obtain ⟨x, hxe⟩ : ∃ x, l.getD i 0 = x := ⟨_, rfl⟩
      rw [hxe] at hcell hxl
      have hxI : (x : Int) < l.length := by omega
      have hfz : wr.frozen? ⟨w.heap.size + 1, i, none⟩ = false := hO.out.frozenAt i
      have hcl : wr.cell? ⟨w.heap.size + 1, i, none⟩ = some (.int .i64 0) := (hO.out.cellAt i (by omega)).trans (filN_cell _ hlt)
      have hO1 := hO.set i (.int .i64 (i : Int))
      have HO1 : Hid (BLt A l w #[.int .i64 A.k, .slice an A.nx.length cn, .slice aa A.ac.length ca] (.slice (some ⟨gm, 0, none⟩) l.length l.length) w1.heap.size i m D ((nC (filN (fi A l) l.length i)).set i (.int .i64 (i : Int))) (wr.setCell ⟨w.heap.size + 1, i, none⟩ (.int .i64 (i : Int)))) := hO1
      have hmc := (hO1.mem.cellAt x (by omega)).trans (cntL_at (l := l) (i := l.length) hxl)
      have hcb := cnt_le l l.length x
      obtain ⟨c, hc⟩ : ∃ c, cnt l l.length x = c := ⟨_, rfl⟩
      rw [hc] at hmc hcb
      have HNS : Hid (ns l l.length i ↔ c ≠ 1) := by show _ ↔ _; unfold ns; rw [hxe, hc]
      have cs := hO1.box.cell
      clear hO hO1 hxe hc
      by_cases e1 : c = 1
      · subst e1
        have HN1 : Hid (BLt A l w #[.int .i64 A.k, .slice an A.nx.length cn, .slice aa A.ac.length ca] (.slice (some ⟨gm, 0, none⟩) l.length l.length) w1.heap.size (i + 1) m D (nC (filN (fi A l) l.length (i + 1))) (wr.setCell ⟨w.heap.size + 1, i, none⟩ (.int .i64 (i : Int)))) := by
          have hsing : ¬ ns l l.length i := fun q => HNS.out.1 q rfl
          refine HO1.out.next hiA (fun q => hsing q.1) ?_
          rw [← filN_set (fi A l) hlt, nC_set, fi_single HN.out hiA hsing]
        clear cs
        go_wp2_with fail
        go_roundw
        case rel => exact ⟨i + 1, m, D, by go_num, by omega, HN1.out⟩
        case measure => simp [intOf]; omega
      · have e1I : ¬ (c : Int) = 1 := by omega
        have hd1 : ((c : Int) == 1) = false := by simpa using e1I
        have HNT : Hid (ns l l.length i) := HNS.out.2 e1
        go_wp2_with fail
        refine (signed_any _ A _ (HAR.out _ HO1.out.below) HG.out _ _ l (HSL.out _ HO1.out.below) HN.out HL.out i hiA).mono ?_
        rintro e y1 ⟨rfl, hb1⟩
        have hO2 := (HO1.out.call hb1).call (below_new y1 (.cells (sgC (sq A l i A.k.toNat)) 115))
        obtain ⟨Q, hQ⟩ : ∃ Q, sq A l i A.k.toNat = Q := ⟨_, rfl⟩
        have hkey : keyOf Try.prog 115 (sgV Q) = some (sgK Q) := by rw [← hQ]; exact sgK_of (fun j => sq_le HL6.out i _ j)
        have HQK : Hid (kap A l i = sgK Q) := by show _ = _; unfold kap; rw [hQ]
        rw [hQ] at hO2 ⊢
        have HO2 : Hid (BLt A l w #[.int .i64 A.k, .slice an A.nx.length cn, .slice aa A.ac.length ca] (.slice (some ⟨gm, 0, none⟩) l.length l.length) w1.heap.size i m D ((nC (filN (fi A l) l.length i)).set i (.int .i64 (i : Int))) (y1.alloc (.cells (sgC Q) 115))) := hO2
        have hml := hO2.mp.lt
        have hmm1 := hO2.mi
        have hhas := hO2.ms.has i hiA HNT.out
        have hnum := hO2.ms.num i hiA HNT.out
        rw [HQK.out] at hhas hnum
        obtain ⟨F, hF⟩ : ∃ F, fi A l i = F := ⟨_, rfl⟩
        rw [hF] at hhas hnum
        have HF : Hid (fi A l i = F ∧ F ≤ i) := ⟨hF, by rw [← hF]; exact (fi_facts hiA).1⟩
        have hfz2 : (y1.alloc (.cells (sgC Q) 115)).frozen? ⟨w.heap.size + 1, i, none⟩ = false := hO2.out.frozenAt i
        have hcl2 : (y1.alloc (.cells (sgC Q) 115)).cell? ⟨w.heap.size + 1, i, none⟩ = some (.int .i64 (i : Int)) := by
          rw [hO2.out.cellAt i (by omega)]
          simp [nC, filN, hlt]
        clear hb1 hO2 hQ hF cs hfz hcl hcell hmc
        by_cases hk : F < i
        · rw [decide_eq_true hk] at hhas
          have hnum2 := hnum hk (.lit (.int .i64 0))
          have HN1 : Hid (BLt A l w #[.int .i64 A.k, .slice an A.nx.length cn, .slice aa A.ac.length ca] (.slice (some ⟨gm, 0, none⟩) l.length l.length) w1.heap.size (i + 1) m D (nC (filN (fi A l) l.length (i + 1))) ((y1.alloc (.cells (sgC Q) 115)).setCell ⟨w.heap.size + 1, i, none⟩ (.int .i64 (F : Int)))) := by
            refine (HO2.out.set i (.int .i64 (F : Int))).next hiA (fun q => ?_) ?_
            · have := HF.out.1; omega
            · rw [List.set_set, ← filN_set (fi A l) hlt, nC_set, HF.out.1]
          clear hnum
          go_wp2_with (first
            | (at_lookup; refine wpList_lookup_own_ok_int _ rfl _ _ 112 rfl 115 3 .i64 keyS Try.und_mapS Try.und_int (Try.zero_int _) w1.heap.size m D rfl HO2.out.mp _ _ rfl hkey ?_; intro c0 hat hwc; rw [hnum2] at hat; injection hat with hat; injection hat with _ hat; subst hat; rw [hhas]; clear hwc))
          go_roundw
          case rel => exact ⟨i + 1, m, D, by go_num, by omega, HN1.out⟩
          case measure => simp [intOf]; omega
        · rw [decide_eq_false hk] at hhas
          go_wp2_with (first
            | (at_lookup; refine wpList_lookup_own_ok_int _ rfl _ _ 112 rfl 115 3 .i64 keyS Try.und_mapS Try.und_int (Try.zero_int _) w1.heap.size m D rfl HO2.out.mp _ _ rfl hkey ?_; intro c0 hat hwc; rw [hhas]; clear hwc hat)
            | (at_mapUpdate; refine wpList_mapUpdate_own _ rfl _ _ _ 112 rfl 115 3 keyS Try.und_mapS _ w1.heap.size m D rfl HO2.out.mp (by unfold maxLen; omega) _ _ _ rfl rfl hkey _ [] (plainElem_int Try.und_int (wfN (by omega))) ?_; intro w5 hmo hmg
               rw [← HQK.out] at hmo
               have HN1 : Hid (BLt A l w #[.int .i64 A.k, .slice an A.nx.length cn, .slice aa A.ac.length ca] (.slice (some ⟨gm, 0, none⟩) l.length l.length) w1.heap.size (i + 1) (m + 1) (D.put (kap A l i) (.lit (.int .i64 (i : Nat)))) (nC (filN (fi A l) l.length (i + 1))) w5) := by
                 have hfe : fi A l i = i := by have := HF.out; omega
                 refine HO2.out.put HG.out HL6.out hiA HNT.out hfe ?_ hmo hmg
                 rw [← filN_set (fi A l) hlt, nC_set, hfe]
               clear hmo hmg))
          go_roundw
          case rel => exact ⟨i + 1, m + 1, _, by go_num, by omega, HN1.out⟩
          case measure => simp [intOf]; omega
    · have hiI : ¬ (i : Int) < l.length := by omega
      have e : i = l.length := by omega
      have hr : nC (filN (fi A l) l.length i) = nC (lst (sg A l) A.ac.length) := by rw [e, filN_end, HN.out]; rfl
      have hq := hO.out
      rw [hr] at hq
      have HQ : Hid (wr.ownsRow w.heap.size 3 1 (.slice (some ⟨w.heap.size + 1, 0, none⟩) l.length l.length) l.length (nC (lst (sg A l) A.ac.length))) := hq
      have HB : Hid (Below w.heap.size w wr) := hO.below
      clear e hr hq hO
      go_wp2_with fail
      go_ret
      exact ⟨_, rfl, HQ.out, HB.out⟩
end Go.Proofs.Ytggheiblgghpkaa
