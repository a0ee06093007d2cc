/- Mf Mg Mh Mi Mj Mk, in one text. -/
import Derived.Test.YthmnoepjkobcmabW2
import Derived.WalkMore
import Derived.Laws.CopyOwn
import Derived.Deep.RegionWith
namespace Go.Proofs.Ythmnoepjkobcmab
open Go Go.RowKit Go.Lib Go.Maps
set_option linter.unusedVariables false
attribute [-instance] instBEqProd

/-- For each state the first one of its signature. -/
def fi (A : Aut) (l : List Nat) (s : Nat) : Nat := ((List.range A.ac.length).map (sg A l)).idxOf (sg A l s)
theorem fi_facts {A : Aut} {l : List Nat} {s : Nat} (h : s < A.ac.length) : fi A l s ≤ s ∧ sg A l (fi A l s) = sg A l s ∧ ∀ t, t < fi A l s → sg A l t ≠ sg A l s := idx_facts (sg A l) h
theorem fi_same {A : Aut} {l : List Nat} {s t : Nat} (e : sg A l s = sg A l t) : fi A l s = fi A l t := by unfold fi; rw [e]
theorem fi_fi {A : Aut} {l : List Nat} {s : Nat} (h : s < A.ac.length) : fi A l (fi A l s) = fi A l s := fi_same (fi_facts h).2.1
theorem sg_class {A : Aut} {l : List Nat} {s t : Nat} (e : sg A l s = sg A l t) : l.getD s 0 = l.getD t 0 := by
  unfold sg at e
  simp only [Prod.mk.injEq] at e
  exact e.1
/-- Signatures as cells tell just what they tell. -/
theorem sq_sg {A : Aut} {l : List Nat} {s t : Nat} : (∀ j, j < 9 → sq A l s A.k.toNat j = sq A l t A.k.toNat j) → A.k.toNat ≤ 8 → sg A l s = sg A l t := by
  intro h hk
  unfold sg
  refine Prod.ext ?_ ?_
  · have := h 0 (by decide)
    simpa [sq] using this
  · refine List.map_congr_left fun c hc => ?_
    have hc := List.mem_range.1 hc
    have := h (c + 1) (by omega)
    unfold sq at this
    simpa [hc] using this
theorem sg_sq {A : Aut} {l : List Nat} {s t : Nat} (e : sg A l s = sg A l t) : sq A l s A.k.toNat = sq A l t A.k.toNat := by
  funext j
  unfold sq
  have h1 := sg_class e
  unfold sg at e
  simp only [Prod.mk.injEq] at e
  split
  · exact h1
  · split
    · rename_i _ hj
      have := congrArg (fun (L : List Nat) => L[j - 1]?) e.2
      simpa [List.getElem?_range hj] using this
    · rfl
theorem Try.und_mapS : Try.prog.underlying 156 = some (.map 159 3) := by kernel_rfl
theorem Try.laidM : laidOutB Try.prog = true := by kernel_rfl
theorem Try.keyT_sig : Try.prog.keyType 159 = true := by kernel_rfl
theorem Try.size_sig : Try.prog.cellsOf 159 = 9 := by kernel_rfl
theorem Try.size_a8 : Try.prog.cellsOf 157 = 8 := by kernel_rfl
theorem Try.size_u16 : Try.prog.cellsOf 101 = 1 := by kernel_rfl
theorem Try.und_u16 : Try.prog.underlying 101 = some (.int .u16) := by kernel_rfl
theorem Try.tsizeM : ∃ n, Try.prog.types.size = n + 2 := ⟨Try.prog.types.size - 2, by have : 1 < Try.prog.types.size := of_decide_eq_true (by kernel_rfl); omega⟩
theorem keyS : Keyed Try.prog 159 := Keyed.of_law (deep_law_laid Try.laidM (m := 3) (by omega) (of_decide_eq_true (by kernel_rfl)) (by kernel_rfl) (by rw [Try.underlying159]))
theorem sgK_of {q : Nat → Nat} (hq : ∀ j, q j ≤ 65535) : keyOf Try.prog 159 (sgV q) = some (sgK q) := by
  obtain ⟨n, hn⟩ := Try.tsizeM
  exact keyOf_sig Try.underlying159 (by decide) (by decide) rfl rfl rfl rfl Try.underlying157 Try.und_u16 Try.size_sig Try.size_a8 Try.size_u16 Try.keyT_sig hn hq
theorem sgK_inj {q r : Nat → Nat} (hq : ∀ j, q j ≤ 65535) (hr : ∀ j, r j ≤ 65535) (h : sgK q = sgK r) : ∀ j, j < 9 → q j = r j := by
  have := keyS.inj (sgK_of hq) (h ▸ sgK_of hr)
  simp only [sgV, Value.agg.injEq] at this
  intro j hj
  have h2 := sgC_at q hj
  rw [this, sgC_at r hj] at h2
  simp at h2
  omega
/-- A state's key. -/
def kap (A : Aut) (l : List Nat) (s : Nat) : Lit := sgK (sq A l s A.k.toNat)
theorem kap_eq {A : Aut} (G : Good A) {l : List Nat} (hl : ∀ s, l.getD s 0 ≤ 65535) {s t : Nat} : kap A l s = kap A l t ↔ sg A l s = sg A l t := by
  constructor
  · intro h
    exact sq_sg (sgK_inj (fun j => sq_le hl s _ j) (fun j => sq_le hl t _ j) h) G.kn.2.1
  · intro h
    unfold kap
    rw [sg_sq h]
/-- More than one state has this one's class. -/
def ns (l : List Nat) (n s : Nat) : Prop := cnt l n (l.getD s 0) ≠ 1
theorem ns_sg {A : Aut} {l : List Nat} {n s t : Nat} (e : sg A l s = sg A l t) (h : ns l n t) : ns l n s := by unfold ns at h ⊢; rw [sg_class e]; exact h
theorem count_one {l : List Nat} {s t : Nat} (hs : s < l.length) (ht : t < l.length) (hne : s ≠ t) (e : l.getD s 0 = l.getD t 0) : cnt l l.length (l.getD s 0) ≠ 1 := by
  have hg : ∀ i, i < l.length → l[i]? = some (l.getD i 0) := fun i hi => by rw [List.getElem?_eq_getElem hi, List.getD_eq_getElem?_getD, List.getElem?_eq_getElem hi]; rfl
  have key : ∀ m a b, a < b → b < m → m ≤ l.length → l.getD a 0 = l.getD s 0 → l.getD b 0 = l.getD s 0 → 2 ≤ cnt l m (l.getD s 0) := by
    intro m
    induction m with
    | zero => intro a b _ hb; omega
    | succ m ih =>
      intro a b hab hbm hm ha hb
      rw [cnt_step (hg m (by omega))]
      by_cases q : b = m
      · subst q
        rw [if_pos hb.symm]
        have : 1 ≤ cnt l b (l.getD s 0) := by
          unfold cnt
          apply List.one_le_count_iff.2
          rw [← ha]
          exact List.mem_iff_getElem?.2 ⟨a, by rw [List.getElem?_take, if_pos hab]; exact hg a (by omega)⟩
        omega
      · have := ih a b hab (by omega) (by omega) ha hb
        omega
  rcases Nat.lt_or_ge s t with q | q
  · have := key l.length s t q ht (Nat.le_refl _) rfl e.symm; omega
  · have := key l.length t s (by omega) hs (Nat.le_refl _) e.symm rfl; omega
theorem fi_single {A : Aut} {l : List Nat} (hn : l.length = A.ac.length) {s : Nat} (hs : s < A.ac.length) (h : ¬ ns l l.length s) : fi A l s = s := by
  obtain ⟨a, b, _⟩ := fi_facts (A := A) (l := l) hs
  apply Classical.byContradiction
  intro q
  apply h
  have := count_one (l := l) (s := s) (t := fi A l s) (by omega) (by omega) (fun e => q e.symm) (sg_class b).symm
  exact this
/-- What the map knows once i states were gone through. -/
structure MS (A : Aut) (l : List Nat) (i : Nat) (D : DataW Unit) : Prop where
  has : ∀ t, t < A.ac.length → ns l l.length t → Maps.has D (kap A l t) = decide (fi A l t < i)
  num : ∀ t, t < A.ac.length → ns l l.length t → fi A l t < i → ∀ z, D.atKey (kap A l t) z = .lit (.int .i64 (fi A l t : Nat))
theorem MS.empty (A : Aut) (l : List Nat) : MS A l 0 (.map []) := ⟨fun t _ _ => by simp [Maps.has], fun t _ _ h => by omega⟩
theorem MS.skip {A : Aut} {l : List Nat} {i : Nat} {D : DataW Unit} (h : MS A l i D) (hi : i < A.ac.length) (hs : ¬ (ns l l.length i ∧ fi A l i = i)) : MS A l (i + 1) D := by
  have key : ∀ t, t < A.ac.length → ns l l.length t → (fi A l t < i + 1 ↔ fi A l t < i) := by
    intro t ht hn
    constructor
    · intro q
      by_cases e : fi A l t = i
      · exfalso
        apply hs
        have e2 := (fi_facts (A := A) (l := l) ht).2.1
        rw [e] at e2
        refine ⟨ns_sg e2 hn, ?_⟩
        have := fi_fi (A := A) (l := l) ht
        rw [e] at this
        exact this
      · omega
    · intro q; omega
  refine ⟨fun t ht hn => ?_, fun t ht hn q => h.num t ht hn ((key t ht hn).1 q)⟩
  rw [h.has t ht hn]
  exact decide_eq_decide.2 (key t ht hn).symm
theorem MS.put {A : Aut} (G : Good A) {l : List Nat} (hl : ∀ s, l.getD s 0 ≤ 65535) {i : Nat} {D : DataW Unit} (h : MS A l i D) (hD : IsMap D) (hi : i < A.ac.length) (hn : ns l l.length i) (hf : fi A l i = i) : MS A l (i + 1) (D.put (kap A l i) (.lit (.int .i64 (i : Nat)))) := by
  have hk : ∀ t, WideAt.IsKeyLit (kap A l t) := fun t => trivial
  constructor
  · intro t ht hnt
    by_cases e : kap A l t = kap A l i
    · rw [e, has_put_same hD (hk i), fi_same ((kap_eq G hl).1 e), hf]
      simp
    · rw [has_put_other e, h.has t ht hnt]
      refine decide_eq_decide.2 ⟨fun q => by omega, fun q => ?_⟩
      by_cases c : fi A l t = i
      · exfalso
        apply e
        refine (kap_eq G hl).2 ?_
        rw [← (fi_facts (A := A) (l := l) ht).2.1, c]
      · omega
  · intro t ht hnt q z
    by_cases e : kap A l t = kap A l i
    · rw [e, atKey_put_same hD (hk i), fi_same ((kap_eq G hl).1 e), hf]
    · rw [atKey_put_other e]
      refine h.num t ht hnt ?_ z
      by_cases c : fi A l t = i
      · exfalso
        apply e
        refine (kap_eq G hl).2 ?_
        rw [← (fi_facts (A := A) (l := l) ht).2.1, c]
      · omega
end Go.Proofs.Ythmnoepjkobcmab

namespace Go.Proofs.Ythmnoepjkobcmab
open Go Go.RowKit Go.Lib Go.Maps
set_option linter.unusedVariables false
attribute [-instance] instBEqProd

/-- What lies in memory while byLetters goes on. -/
structure BLt (A : Aut) (l : List Nat) (w : World) (arr : Array Value) (vm : Value) (mb i m : Nat) (D : DataW Unit) (r : List Value) (wr : World) : Prop where
  box : RowAt wr w.heap.size arr
  out : wr.ownsRow w.heap.size 3 1 (.slice (some ⟨w.heap.size + 1, 0, none⟩) l.length l.length) l.length r
  mem : wr.ownsRow (w.heap.size + 2) 3 1 vm l.length (nC (cntL l l.length l.length))
  mp : wr.ownsMap Try.prog 159 (plainElem Try.prog 3) mb m D
  ml : w.heap.size + 2 ≤ mb
  ms : MS A l i D
  mi : m ≤ i
  below : Below w.heap.size w wr
theorem BLt.call {A : Aut} {l : List Nat} {w : World} {arr : Array Value} {vm : Value} {mb i m : Nat} {D : DataW Unit} {r : List Value} {wr w2 : World} (h : BLt A l w arr vm mb i m D r wr) (hb : Below wr.heap.size wr w2) : BLt A l w arr vm mb i m D r w2 :=
  ⟨h.box.stay hb, own_below h.out hb, own_below h.mem hb, map_keep h.mp (hb.block _ h.mp.lt), h.ml, h.ms, h.mi, go_on h.below hb⟩
/-- A state's place is written. -/
theorem BLt.set {A : Aut} {l : List Nat} {w : World} {arr : Array Value} {vm : Value} {mb i m : Nat} {D : DataW Unit} {r : List Value} {wr : World} (h : BLt A l w arr vm mb i m D r wr) (j : Nat) (x : Value) : BLt A l w arr vm mb i m D (r.set j x) (wr.setCell ⟨w.heap.size + 1, j, none⟩ x) := by
  have hml := h.ml
  refine ⟨⟨by simp [World.setCell]; exact h.box.lt, fun o => ?_⟩, (h.out.stored j x).1, own_keep h.mem (fun b cur hb hc => heap_set_other ?_), map_keep h.mp (heap_set_other (by omega)), h.ml, h.ms, h.mi, h.below.setCell (p := ⟨w.heap.size + 1, j, none⟩) (by show _ ≤ w.heap.size + 1; omega) _⟩
  · rw [World.cell?_of_block (heap_set_other (show w.heap.size ≠ w.heap.size + 1 by omega))]
    exact h.box.cell o
  · have := (own_blk h.mem hb).1
    omega
theorem BLt.next {A : Aut} {l : List Nat} {w : World} {arr : Array Value} {vm : Value} {mb i m : Nat} {D : DataW Unit} {r r' : List Value} {wr : World} (h : BLt A l w arr vm mb i m D r wr) (hi : i < A.ac.length) (hs : ¬ (ns l l.length i ∧ fi A l i = i)) (hr : r = r') : BLt A l w arr vm mb (i + 1) m D r' wr :=
  ⟨h.box, hr ▸ h.out, h.mem, h.mp, h.ml, h.ms.skip hi hs, by have := h.mi; omega, h.below⟩
theorem BLt.put {A : Aut} (G : Good A) {l : List Nat} (hl : ∀ s, l.getD s 0 ≤ 65535) {w : World} {arr : Array Value} {vm : Value} {mb i m : Nat} {D : DataW Unit} {r r' : List Value} {wr w2 : World} (h : BLt A l w arr vm mb i m D r wr) (hi : i < A.ac.length) (hn : ns l l.length i) (hf : fi A l i = i) (hr : r = r')
    (hmo : w2.ownsMap Try.prog 159 (plainElem Try.prog 3) mb (m + 1) (D.put (kap A l i) (.lit (.int .i64 (i : Nat))))) (hg : wr.grownBy w2 (some mb)) : BLt A l w arr vm mb (i + 1) (m + 1) (D.put (kap A l i) (.lit (.int .i64 (i : Nat)))) r' w2 := by
  obtain ⟨es, clock, hmb⟩ := map_blk h.mp
  have hml := h.ml
  have kc : ∀ (b : Nat) (cur : Array Value) (e : TypeId), wr.heap[b]? = some (Obj.cells cur e (0, 0)) → w2.heap[b]? = wr.heap[b]? := fun b cur e hb => hg.block b (Array.getElem?_eq_some_iff.1 hb).1 (fun e1 => by simp at e1; rw [e1, hmb] at hb; cases hb)
  refine ⟨⟨Nat.lt_of_lt_of_le h.box.lt hg.size, fun o => ?_⟩, hr ▸ own_keep h.out (fun b cur _ hb => kc b cur _ hb), own_keep h.mem (fun b cur _ hb => kc b cur _ hb), hmo, h.ml, h.ms.put G hl h.mp.isMap hi hn hf, by have := h.mi; omega, h.below.grown hg h.below.size (fun b hb => by simp at hb; omega)⟩
  rw [World.cell?_of_block (hg.block _ h.box.lt (by simp; omega))]
  exact h.box.cell o

set_option maxHeartbeats 4000000 in
set_option maxRecDepth 100000 in
theorem byLetters_any (v : Value) (A : Aut) (w : World) (h : AR w v A) (G : Good A) (a : Option Addr) (cap : Nat) (l : List Nat) (hL : SR w a (nC l)) (hn : l.length = A.ac.length) (hl : ∀ s, s < l.length → l.getD s 0 < l.length) :
    Calls Try.prog 75 #[v, .slice a l.length cap] w fun e w' => ∃ g, e = .returned (.slice (some ⟨g, 0, none⟩) l.length l.length) ∧ w'.ownsRow w.heap.size 3 1 (.slice (some ⟨g, 0, none⟩) l.length l.length) l.length (nC (lst (sg A l) A.ac.length)) ∧ Below w.heap.size w w' := by
  obtain ⟨an, cn, aa, ca, e, h1, h2⟩ := h.is
  have hn1 := G.n1
  have hn2 := G.n2
  obtain ⟨g0, o0, rfl, hg0, hc0⟩ := hL.nat (i := 0) (by omega)
  have HAR : Hid (∀ y, Below w.heap.size w y → AR y v A) := fun y hy => h.stay hy
  have HSL : Hid (∀ y, Below w.heap.size w y → SR y (some ⟨g0, o0, none⟩) (nC l)) := fun y hy => hL.stay hy
  have CL : Hid (∀ y i, Below w.heap.size w y → i < l.length → y.cell? ⟨g0, o0 + i, none⟩ = some (.int .i64 (l.getD i 0 : Nat))) := fun y i hy hi => by
    obtain ⟨g', o', e', _, hc'⟩ := (hL.stay hy).nat hi
    simp only [Option.some.injEq, Addr.mk.injEq] at e'
    obtain ⟨rfl, rfl, _⟩ := e'
    exact hc'
  obtain ⟨i0, hi, hz0, hz1, hz2⟩ := info_parts Try.info_int
  have hmk := fun w0 => run_make (P := Try.prog) w0 22 3 i0 (.int .i64 0) Try.underlying22 hi hz0 .i64 .i64 (l.length : Int) (l.length : Int) (by omega) (by omega) (by rw [hz2]; omega) (by omega)
  rw [hz1] at hmk
  simp only [Nat.mul_one] at hmk
  have HG : Hid (Good A) := G
  have HL : Hid (∀ s, s < l.length → l.getD s 0 < l.length) := hl
  have HL6 : Hid (∀ s, l.getD s 0 ≤ 65535) := fun s => by
    by_cases q : s < l.length
    · have := hl s q; omega
    · rw [List.getD_eq_getElem?_getD, List.getElem?_eq_none (by omega)]; simp
  have HN : Hid (l.length = A.ac.length) := hn
  have hmm := @run_makeMap Try.prog
  subst e
  have hl4 : l.length ≤ 4096 := by omega
  have hl1 : 1 ≤ l.length := by omega
  clear h h1 h2 G hl hL hc0 hg0 hn hn1 hn2
  go_enter Try.func75, Try.ntmps75
  go_wp2_with fail
  refine (sizes_any _ _ l _ (HSL.out _ (go_on (below_new _ _) (below_new _ _))) HL.out (by omega)).mono ?_
  rintro e w1 ⟨gm, rfl, hom, hb1⟩
  have HO0 : Hid (BLt A l w #[.int .i64 A.k, .slice an A.nx.length cn, .slice aa A.ac.length ca] (.slice (some ⟨gm, 0, none⟩) l.length l.length) w1.heap.size 0 0 (.map []) (nC (filN (fi A l) l.length 0)) (w1.alloc (.map #[] 0))) := by
    have hbU : Below w.heap.size w ((w.alloc (.cells #[.int .i64 A.k, .slice an A.nx.length cn, .slice aa A.ac.length ca] 25)).alloc (.cells (madeCells #[.int .i64 0] l.length) 3)) := go_on (below_new _ _) (below_new _ _)
    have hsz := hb1.size
    rw [World.size_alloc, World.size_alloc] at hsz
    have q1 : RowAt ((w.alloc (.cells #[.int .i64 A.k, .slice an A.nx.length cn, .slice aa A.ac.length ca] 25)).alloc (.cells (madeCells #[.int .i64 0] l.length) 3)) w.heap.size #[.int .i64 A.k, .slice an A.nx.length cn, .slice aa A.ac.length ca] := (RowAt.last _ _ _).alloc _
    have q2 := made_row (w.alloc (.cells #[.int .i64 A.k, .slice an A.nx.length cn, .slice aa A.ac.length ca] 25)) (fi A l) (n := l.length) (base := w.heap.size) (by omega) (by simp)
    rw [World.size_alloc] at q2
    rw [World.size_alloc, World.size_alloc] at hom
    refine ⟨(q1.stay hb1).alloc _, (own_below q2 hb1).alloc _, hom.alloc _, World.ownsMap_made (H := Unit) w1 Try.prog 159 (plainElem Try.prog 3), by omega, MS.empty A l, Nat.le_refl _, go_on (go_on hbU hb1) (below_new _ _)⟩
  clear hom hb1 hmk
  go_wp2_with fail
  clear hmm
  go_loopw [21] (fun vi wr => ∃ (i m : Nat) (D : DataW Unit), vi = .int .i64 i ∧ i ≤ l.length ∧ BLt A l w #[.int .i64 A.k, .slice an A.nx.length cn, .slice aa A.ac.length ca] (.slice (some ⟨gm, 0, none⟩) l.length l.length) w1.heap.size i m D (nC (filN (fi A l) l.length i)) wr) (fun vi _ => l.length - (intOf vi).toNat)
  case atStart => exact ⟨0, 0, _, rfl, Nat.zero_le _, HO0.out⟩
  case round =>
    clear HO0
    obtain ⟨i, m, D, rfl, hil, hO⟩ := hrel
    by_cases hlt : i < l.length
    · have hiI : (i : Int) < l.length := by omega
      have hiA : i < A.ac.length := by rw [← HN.out]; exact hlt
      have hcell := CL.out wr i hO.below hlt
      have hxl := HL.out i hlt
      obtain ⟨x, hxe⟩ : ∃ x, l.getD i 0 = x := ⟨_, rfl⟩
      rw [hxe] at hcell hxl
      have hxI : (x : Int) < l.length := by omega
      have hfz : wr.frozen? ⟨w.heap.size + 1, i, none⟩ = false := hO.out.frozenAt i
      have hcl : wr.cell? ⟨w.heap.size + 1, i, none⟩ = some (.int .i64 0) := (hO.out.cellAt i (by omega)).trans (filN_cell _ hlt)
      have hO1 := hO.set i (.int .i64 (i : Int))
      have HO1 : Hid (BLt A l w #[.int .i64 A.k, .slice an A.nx.length cn, .slice aa A.ac.length ca] (.slice (some ⟨gm, 0, none⟩) l.length l.length) w1.heap.size i m D ((nC (filN (fi A l) l.length i)).set i (.int .i64 (i : Int))) (wr.setCell ⟨w.heap.size + 1, i, none⟩ (.int .i64 (i : Int)))) := hO1
      have hmc := (hO1.mem.cellAt x (by omega)).trans (cntL_at (l := l) (i := l.length) hxl)
      have hcb := cnt_le l l.length x
      obtain ⟨c, hc⟩ : ∃ c, cnt l l.length x = c := ⟨_, rfl⟩
      rw [hc] at hmc hcb
      have HNS : Hid (ns l l.length i ↔ c ≠ 1) := by show _ ↔ _; unfold ns; rw [hxe, hc]
      have cs := hO1.box.cell
      clear hO hO1 hxe hc
      by_cases e1 : c = 1
      · subst e1
        have HN1 : Hid (BLt A l w #[.int .i64 A.k, .slice an A.nx.length cn, .slice aa A.ac.length ca] (.slice (some ⟨gm, 0, none⟩) l.length l.length) w1.heap.size (i + 1) m D (nC (filN (fi A l) l.length (i + 1))) (wr.setCell ⟨w.heap.size + 1, i, none⟩ (.int .i64 (i : Int)))) := by
          have hsing : ¬ ns l l.length i := fun q => HNS.out.1 q rfl
          refine HO1.out.next hiA (fun q => hsing q.1) ?_
          rw [← filN_set (fi A l) hlt, nC_set, fi_single HN.out hiA hsing]
        clear cs
        go_wp2_with fail
        go_roundw
        case rel => exact ⟨i + 1, m, D, by go_num, by omega, HN1.out⟩
        case measure => simp [intOf]; omega
      · have e1I : ¬ (c : Int) = 1 := by omega
        have hd1 : ((c : Int) == 1) = false := by simpa using e1I
        have HNT : Hid (ns l l.length i) := HNS.out.2 e1
        go_wp2_with fail
        refine (signed_any _ A _ (HAR.out _ HO1.out.below) HG.out _ _ l (HSL.out _ HO1.out.below) HN.out HL.out i hiA).mono ?_
        rintro e y1 ⟨rfl, hb1⟩
        have hO2 := (HO1.out.call hb1).call (below_new y1 (.cells (sgC (sq A l i A.k.toNat)) 159))
        obtain ⟨Q, hQ⟩ : ∃ Q, sq A l i A.k.toNat = Q := ⟨_, rfl⟩
        have hkey : keyOf Try.prog 159 (sgV Q) = some (sgK Q) := by rw [← hQ]; exact sgK_of (fun j => sq_le HL6.out i _ j)
        have HQK : Hid (kap A l i = sgK Q) := by show _ = _; unfold kap; rw [hQ]
        rw [hQ] at hO2 ⊢
        have HO2 : Hid (BLt A l w #[.int .i64 A.k, .slice an A.nx.length cn, .slice aa A.ac.length ca] (.slice (some ⟨gm, 0, none⟩) l.length l.length) w1.heap.size i m D ((nC (filN (fi A l) l.length i)).set i (.int .i64 (i : Int))) (y1.alloc (.cells (sgC Q) 159))) := hO2
        have hml := hO2.mp.lt
        have hmm1 := hO2.mi
        have hhas := hO2.ms.has i hiA HNT.out
        have hnum := hO2.ms.num i hiA HNT.out
        rw [HQK.out] at hhas hnum
        obtain ⟨F, hF⟩ : ∃ F, fi A l i = F := ⟨_, rfl⟩
        rw [hF] at hhas hnum
        have HF : Hid (fi A l i = F ∧ F ≤ i) := ⟨hF, by rw [← hF]; exact (fi_facts hiA).1⟩
        have hfz2 : (y1.alloc (.cells (sgC Q) 159)).frozen? ⟨w.heap.size + 1, i, none⟩ = false := hO2.out.frozenAt i
        have hcl2 : (y1.alloc (.cells (sgC Q) 159)).cell? ⟨w.heap.size + 1, i, none⟩ = some (.int .i64 (i : Int)) := by
          rw [hO2.out.cellAt i (by omega)]
          simp [nC, filN, hlt]
        clear hb1 hO2 hQ hF cs hfz hcl hcell hmc
        by_cases hk : F < i
        · rw [decide_eq_true hk] at hhas
          have hnum2 := hnum hk (.lit (.int .i64 0))
          have HN1 : Hid (BLt A l w #[.int .i64 A.k, .slice an A.nx.length cn, .slice aa A.ac.length ca] (.slice (some ⟨gm, 0, none⟩) l.length l.length) w1.heap.size (i + 1) m D (nC (filN (fi A l) l.length (i + 1))) ((y1.alloc (.cells (sgC Q) 159)).setCell ⟨w.heap.size + 1, i, none⟩ (.int .i64 (F : Int)))) := by
            refine (HO2.out.set i (.int .i64 (F : Int))).next hiA (fun q => ?_) ?_
            · have := HF.out.1; omega
            · rw [List.set_set, ← filN_set (fi A l) hlt, nC_set, HF.out.1]
          clear hnum
          go_wp2_with (first
            | (at_lookup; refine wpList_lookup_own_ok_int _ rfl _ _ 156 rfl 159 3 .i64 keyS Try.und_mapS Try.und_int (Try.zero_int _) w1.heap.size m D rfl HO2.out.mp _ _ rfl hkey ?_; intro c0 hat hwc; rw [hnum2] at hat; injection hat with hat; injection hat with _ hat; subst hat; rw [hhas]; clear hwc))
          go_roundw
          case rel => exact ⟨i + 1, m, D, by go_num, by omega, HN1.out⟩
          case measure => simp [intOf]; omega
        · rw [decide_eq_false hk] at hhas
          go_wp2_with (first
            | (at_lookup; refine wpList_lookup_own_ok_int _ rfl _ _ 156 rfl 159 3 .i64 keyS Try.und_mapS Try.und_int (Try.zero_int _) w1.heap.size m D rfl HO2.out.mp _ _ rfl hkey ?_; intro c0 hat hwc; rw [hhas]; clear hwc hat)
            | (at_mapUpdate; refine wpList_mapUpdate_own _ rfl _ _ _ 156 rfl 159 3 keyS Try.und_mapS _ w1.heap.size m D rfl HO2.out.mp (by unfold maxLen; omega) _ _ _ rfl rfl hkey _ [] (plainElem_int Try.und_int (wfN (by omega))) ?_; intro w5 hmo hmg
               rw [← HQK.out] at hmo
               have HN1 : Hid (BLt A l w #[.int .i64 A.k, .slice an A.nx.length cn, .slice aa A.ac.length ca] (.slice (some ⟨gm, 0, none⟩) l.length l.length) w1.heap.size (i + 1) (m + 1) (D.put (kap A l i) (.lit (.int .i64 (i : Nat)))) (nC (filN (fi A l) l.length (i + 1))) w5) := by
                 have hfe : fi A l i = i := by have := HF.out; omega
                 refine HO2.out.put HG.out HL6.out hiA HNT.out hfe ?_ hmo hmg
                 rw [← filN_set (fi A l) hlt, nC_set, hfe]
               clear hmo hmg))
          go_roundw
          case rel => exact ⟨i + 1, m + 1, _, by go_num, by omega, HN1.out⟩
          case measure => simp [intOf]; omega
    · have hiI : ¬ (i : Int) < l.length := by omega
      have e : i = l.length := by omega
      have hr : nC (filN (fi A l) l.length i) = nC (lst (sg A l) A.ac.length) := by rw [e, filN_end, HN.out]; rfl
      have hq := hO.out
      rw [hr] at hq
      have HQ : Hid (wr.ownsRow w.heap.size 3 1 (.slice (some ⟨w.heap.size + 1, 0, none⟩) l.length l.length) l.length (nC (lst (sg A l) A.ac.length))) := hq
      have HB : Hid (Below w.heap.size w wr) := hO.below
      clear e hr hq hO
      go_wp2_with fail
      go_ret
      exact ⟨_, rfl, HQ.out, HB.out⟩
end Go.Proofs.Ythmnoepjkobcmab

namespace Go.Proofs.Ythmnoepjkobcmab
open Go Go.RowKit Go.Lib Go.Maps
set_option linter.unusedVariables false
attribute [-instance] instBEqProd

theorem lvl_lt {A : Aut} (n : Nat) {s : Nat} (hs : s < (lvl A n).length) : (lvl A n).getD s 0 < (lvl A n).length := by
  have c := lvl_cls A n
  rw [c.len] at hs ⊢
  have := c.le s hs
  omega
theorem byL_any (v : Value) (A : Aut) (w : World) (h : AR w v A) (G : Good A) (a : Option Addr) (cap i : Nat) (hL : SR w a (nC (lvl A i))) :
    Calls Try.prog 75 #[v, .slice a A.ac.length cap] w fun e w' => ∃ g, e = .returned (.slice (some ⟨g, 0, none⟩) A.ac.length A.ac.length) ∧ w'.ownsRow w.heap.size 3 1 (.slice (some ⟨g, 0, none⟩) A.ac.length A.ac.length) A.ac.length (nC (lvl A (i + 1))) ∧ Below w.heap.size w w' := by
  have := byLetters_any v A w h G a cap (lvl A i) hL (lvl_len A i) (fun s hs => lvl_lt i hs)
  rw [lvl_len] at this
  exact this
theorem nC_at {l : List Nat} {i : Nat} (h : i < l.length) : (nC l)[i]? = some (.int .i64 (l.getD i 0 : Nat)) := by simp [nC, List.getD_eq_getElem?_getD, h]
theorem list_eq_of {l m : List Nat} (h : l.length = m.length) (h2 : ∀ i, i < l.length → l.getD i 0 = m.getD i 0) : l = m := by
  apply List.ext_getElem?
  intro i
  by_cases hi : i < l.length
  · have e := h2 i hi
    rw [List.getD_eq_getElem?_getD, List.getD_eq_getElem?_getD, List.getElem?_eq_getElem hi, List.getElem?_eq_getElem (by omega)] at e
    rw [List.getElem?_eq_getElem hi, List.getElem?_eq_getElem (by omega)]
    exact congrArg some e
  · rw [List.getElem?_eq_none (by omega), List.getElem?_eq_none (by omega)]

set_option maxHeartbeats 4000000 in
set_option maxRecDepth 100000 in
theorem refined_any (v : Value) (A : Aut) (w : World) (h : AR w v A) (G : Good A) (n : Nat) (hn : n ≤ 9223372036854775807) :
    Calls Try.prog 68 #[v, .int .i64 n] w fun e w' => ∃ g, e = .returned (.slice (some ⟨g, 0, none⟩) A.ac.length A.ac.length) ∧ w'.ownsRow w.heap.size 3 1 (.slice (some ⟨g, 0, none⟩) A.ac.length A.ac.length) A.ac.length (nC (lvl A n)) ∧ Below w.heap.size w w' := by
  obtain ⟨an, cn, aa, ca, e, h1, h2⟩ := h.is
  have hn2 := G.n2
  have HAR : Hid (∀ y, Below w.heap.size w y → AR y v A) := fun y hy => h.stay hy
  have HG : Hid (Good A) := G
  subst e
  clear h h1 h2 G
  go_enter Try.func68, Try.ntmps68
  go_wp2_with fail
  go_step3
  go_wp2_with fail
  refine (byAccept_any _ A _ (HAR.out _ (below_new _ _)) HG.out).mono ?_
  rintro e w1 ⟨g1, rfl, ho1, hb1⟩
  have HO0 : Hid (RowAt w1 w.heap.size #[.int .i64 A.k, .slice an A.nx.length cn, .slice aa A.ac.length ca] ∧ w1.ownsRow w.heap.size 3 1 (.slice (some ⟨g1, 0, none⟩) A.ac.length A.ac.length) A.ac.length (nC (lvl A 0)) ∧ Below w.heap.size w w1) := ⟨RowAt.new hb1, own_mono ho1 (by simp), go_on (below_new _ _) hb1⟩
  clear ho1 hb1
  go_wp2_with fail
  go_step3
  go_wp2_with fail
  go_loopw [11, 5] (fun vi vc wr => ∃ (i g : Nat), vi = .int .i64 i ∧ vc = (.slice (some ⟨g, 0, none⟩) A.ac.length A.ac.length) ∧ i ≤ n ∧ RowAt wr w.heap.size #[.int .i64 A.k, .slice an A.nx.length cn, .slice aa A.ac.length ca] ∧ wr.ownsRow w.heap.size 3 1 (.slice (some ⟨g, 0, none⟩) A.ac.length A.ac.length) A.ac.length (nC (lvl A i)) ∧ Below w.heap.size w wr) (fun vi _ _ => n - (intOf vi).toNat)
  case atStart => exact ⟨0, g1, rfl, rfl, Nat.zero_le _, HO0.out⟩
  case round =>
    clear HO0
    obtain ⟨i, g, rfl, rfl, hin, q1, q2, q3⟩ := hrel
    have HB : Hid (Below w.heap.size w wr) := q3
    have HQ : Hid (wr.ownsRow w.heap.size 3 1 (.slice (some ⟨g, 0, none⟩) A.ac.length A.ac.length) A.ac.length (nC (lvl A i))) := q2
    have HR : Hid (RowAt wr w.heap.size #[.int .i64 A.k, .slice an A.nx.length cn, .slice aa A.ac.length ca]) := q1
    have cs := q1.cell
    clear q1 q2 q3
    by_cases hlt : i < n
    · have hiI : (i : Int) < n := by omega
      go_wp2_with fail
      refine (byL_any _ A _ (HAR.out _ HB.out) HG.out _ _ i (own_sr HQ.out)).mono ?_
      rintro e w2 ⟨g2, rfl, ho2, hb2⟩
      have HQ2 : Hid (w2.ownsRow w.heap.size 3 1 (.slice (some ⟨g2, 0, none⟩) A.ac.length A.ac.length) A.ac.length (nC (lvl A (i + 1)))) := own_mono ho2 HB.out.size
      have HQ1 : Hid (w2.ownsRow w.heap.size 3 1 (.slice (some ⟨g, 0, none⟩) A.ac.length A.ac.length) A.ac.length (nC (lvl A i))) := own_below HQ.out hb2
      have HB2 : Hid (Below w.heap.size w w2) := go_on HB.out hb2
      have HR2 : Hid (RowAt w2 w.heap.size #[.int .i64 A.k, .slice an A.nx.length cn, .slice aa A.ac.length ca]) := HR.out.stay hb2
      clear ho2 hb2 cs HB HQ HR
      go_wp2_with fail
      go_loopw [18, 5] (fun vs vc wr => ∃ s : Nat, vs = .int .i64 s ∧ vc = (.slice (some ⟨g, 0, none⟩) A.ac.length A.ac.length) ∧ s ≤ A.ac.length ∧ (∀ t, t < s → (lvl A (i + 1)).getD t 0 = (lvl A i).getD t 0) ∧ w2.drewN 0 = w2 ∧ ∃ q, wr = w2.drewN q) (fun vs _ _ => A.ac.length - (intOf vs).toNat)
      case atStart => exact ⟨0, rfl, rfl, Nat.zero_le _, fun t ht => by omega, rfl, 0, rfl⟩
      case round =>
        obtain ⟨s, rfl, rfl, hsn, hall, _, q, rfl⟩ := hrel
        have HALL : Hid (∀ t, t < s → (lvl A (i + 1)).getD t 0 = (lvl A i).getD t 0) := hall
        clear hall
        by_cases hs : s < A.ac.length
        · have hsI : (s : Int) < A.ac.length := by omega
          have c1 := (HQ1.out.cellAt s (by omega)).trans (nC_at (l := lvl A i) (by rw [lvl_len]; exact hs))
          have c2 := (HQ2.out.cellAt s (by omega)).trans (nC_at (l := lvl A (i + 1)) (by rw [lvl_len]; exact hs))
          obtain ⟨x, hx⟩ : ∃ x, (lvl A i).getD s 0 = x := ⟨_, rfl⟩
          obtain ⟨y, hy⟩ : ∃ y, (lvl A (i + 1)).getD s 0 = y := ⟨_, rfl⟩
          rw [hx] at c1
          rw [hy] at c2
          have S0 : (w2.drewN q).drew.cell? ⟨g, s, none⟩ = some (.int .i64 (x : Int)) ∧ (w2.drewN q).drew.cell? ⟨g2, s, none⟩ = some (.int .i64 (y : Int)) := ⟨c1, c2⟩
          have HXY : Hid ((lvl A i).getD s 0 = x ∧ (lvl A (i + 1)).getD s 0 = y) := ⟨hx, hy⟩
          clear c1 c2 hx hy
          by_cases e : y = x
          · subst e
            go_wp2_with fail
            go_region_held3 (fun z => z.cell? ⟨g, s, none⟩ = some (.int .i64 (y : Int)) ∧ z.cell? ⟨g2, s, none⟩ = some (.int .i64 (y : Int))) (first | exact S0 | assumption) (fail)
            go_wp2_with fail
            go_roundw
            case rel =>
              refine ⟨s + 1, by go_num, rfl, by omega, fun t ht => ?_, rfl, q + 1, rfl⟩
              by_cases et : t = s
              · rw [et, HXY.out.1, HXY.out.2]
              · exact HALL.out t (by omega)
            case measure => simp [intOf]; omega
          · have eI : ¬ (y : Int) = x := by omega
            have hd : decide ((y : Int) = x) = false := decide_eq_false eI
            go_wp2_with fail
            go_region_held3 (fun z => z.cell? ⟨g, s, none⟩ = some (.int .i64 (x : Int)) ∧ z.cell? ⟨g2, s, none⟩ = some (.int .i64 (y : Int))) (first | exact S0 | assumption) (fail)
            go_wp2_with fail
            go_roundw
            case rel => exact ⟨i + 1, g2, by go_num, rfl, by omega, ⟨HR2.out.lt, HR2.out.cell⟩, HQ2.out, below_drewN HB2.out _⟩
            case measure => simp [intOf]; omega
        · have hsI : ¬ (s : Int) < A.ac.length := by omega
          have HST : Hid (lvl A n = lvl A i) := by
            show _ = _
            refine lvl_stable' A (list_eq_of (by rw [lvl_len, lvl_len]) fun t ht => ?_) (by omega)
            rw [lvl_len] at ht
            exact HALL.out t (by omega)
          go_wp2_with fail
          go_ret
          refine ⟨g, rfl, ?_, below_drewN HB2.out _⟩
          rw [HST.out]
          exact HQ1.out
    · have hiI : ¬ (i : Int) < n := by omega
      have HE : Hid (i = n) := by show _ = _; omega
      go_wp2_with fail
      go_ret
      refine ⟨g, rfl, ?_, HB.out⟩
      rw [← HE.out]
      exact HQ.out
end Go.Proofs.Ythmnoepjkobcmab

namespace Go.Proofs.Ythmnoepjkobcmab
open Go Go.RowKit Go.Lib Go.Maps
set_option linter.unusedVariables false
attribute [-instance] instBEqProd

/-- What Level answers. -/
noncomputable def lvE (A : Aut) (n : Int) : Int := if chkA A = 0 then if n < 0 then 11 else 0 else 80
noncomputable def lvL (A : Aut) (n : Int) : List Nat := if lvE A n = 0 then lvl A n.toNat else []
def NQ (L : List Nat) (E : Int) (w : World) (e : Ending) (w' : World) : Prop := ∃ vs, e = .returned (.tuple #[vs, .int .i64 E]) ∧ w'.ownsRow w.heap.size 3 1 vs L.length (nC L) ∧ Below w.heap.size w w'
theorem lvE_ok {A : Aut} (G : Good A) {n : Int} (h : ¬ n < 0) : lvE A n = 0 ∧ lvL A n = lvl A n.toNat := by
  have e : lvE A n = 0 := by unfold lvE; rw [if_pos (chkA_ok G), if_neg h]
  exact ⟨e, by unfold lvL; rw [if_pos e]⟩
theorem lvE_neg {A : Aut} (G : Good A) {n : Int} (h : n < 0) : lvE A n = 11 ∧ lvL A n = [] := by
  have e : lvE A n = 11 := by unfold lvE; rw [if_pos (chkA_ok G), if_pos h]
  exact ⟨e, by unfold lvL; rw [if_neg (by rw [e]; decide)]⟩
theorem lvE_bad {A : Aut} (h : ¬ Good A) (n : Int) : lvE A n = 80 ∧ lvL A n = [] := by
  have e : lvE A n = 80 := by unfold lvE; rw [if_neg (by rw [chkA_no h]; decide)]
  exact ⟨e, by unfold lvL; rw [if_neg (by rw [e]; decide)]⟩

set_option maxHeartbeats 2000000 in
set_option maxRecDepth 100000 in
theorem level_any (v : Value) (A : Aut) (w : World) (h : AR w v A) (hm : A.nx.length ≤ 9223372036854775806) (hm2 : A.ac.length ≤ 9223372036854775806) (n : Int) (hn : n ≤ 9223372036854775807) :
    Calls Try.prog 47 #[v, .int .i64 n] w (NQ (lvL A n) (lvE A n) w) := by
  obtain ⟨an, cn, aa, ca, e, h1, h2⟩ := h.is
  have HAR : Hid (∀ y, Below w.heap.size w y → AR y v A) := fun y hy => h.stay hy
  subst e
  clear h h1 h2
  go_enter Try.func47, Try.ntmps47
  go_wp2_with fail
  refine (acheck_any _ A _ (HAR.out _ (below_new _ _)) hm hm2).mono ?_
  rintro e w1 ⟨rfl, hb1⟩
  have HB1 : Hid (Below w.heap.size w w1) := go_on (below_new _ _) hb1
  have cs := (RowAt.new hb1).cell
  clear hb1
  rcases chkA_cases A with ⟨G, hc⟩ | ⟨G, hc⟩
  · rw [hc]
    have HG : Hid (Good A) := G
    clear hc G
    by_cases h0 : n < 0
    · have HE : Hid (lvE A n = 11 ∧ lvL A n = []) := lvE_neg HG.out h0
      go_wp2_with fail
      go_ret2
      refine ⟨.slice none 0 0, ?_, ?_, HB1.out⟩
      · rw [HE.out.1]; rfl
      · rw [HE.out.2]; exact World.ownsRow_nil _ _ _ _
    · have HE : Hid (lvE A n = 0 ∧ lvL A n = lvl A n.toNat) := lvE_ok HG.out h0
      obtain ⟨k, rfl⟩ : ∃ k : Nat, n = k := ⟨n.toNat, by omega⟩
      have hk : k ≤ 9223372036854775807 := by omega
      go_wp2_with fail
      refine (refined_any _ A _ (HAR.out _ HB1.out) HG.out k hk).mono ?_
      rintro e w2 ⟨g, rfl, ho, hb2⟩
      have HO : Hid (w2.ownsRow w.heap.size 3 1 (.slice (some ⟨g, 0, none⟩) A.ac.length A.ac.length) A.ac.length (nC (lvl A k))) := own_mono ho HB1.out.size
      have HB2 : Hid (Below w.heap.size w w2) := go_on HB1.out hb2
      clear ho hb2 cs
      go_wp2_with fail
      go_ret2
      refine ⟨.slice (some ⟨g, 0, none⟩) A.ac.length A.ac.length, ?_, ?_, HB2.out⟩
      · rw [HE.out.1]; rfl
      · rw [HE.out.2, Int.toNat_natCast, lvl_len]; exact HO.out
  · rw [hc]
    have HE : Hid (lvE A n = 80 ∧ lvL A n = []) := lvE_bad G n
    clear hc
    go_wp2_with fail
    go_ret2
    refine ⟨.slice none 0 0, ?_, ?_, HB1.out⟩
    · rw [HE.out.1]; rfl
    · rw [HE.out.2]; exact World.ownsRow_nil _ _ _ _
noncomputable def clL (A : Aut) : List Nat := if chkA A = 0 then lvl A A.ac.length else []
theorem clL_lv (A : Aut) : lvL A 9223372036854775807 = clL A ∧ lvE A 9223372036854775807 = chkA A := by
  rcases chkA_cases A with ⟨G, hc⟩ | ⟨G, hc⟩
  · obtain ⟨e1, e2⟩ := lvE_ok G (n := 9223372036854775807) (by omega)
    have := G.n2
    refine ⟨?_, by rw [e1, hc]⟩
    rw [e2]
    unfold clL
    rw [if_pos hc]
    exact lvl_end A (by show A.ac.length ≤ 9223372036854775807; omega)
  · obtain ⟨e1, e2⟩ := lvE_bad G 9223372036854775807
    refine ⟨?_, by rw [e1, hc]⟩
    rw [e2]
    unfold clL
    rw [if_neg (by rw [hc]; decide)]

set_option maxHeartbeats 2000000 in
set_option maxRecDepth 100000 in
theorem classes_any (v : Value) (A : Aut) (w : World) (h : AR w v A) (hm : A.nx.length ≤ 9223372036854775806) (hm2 : A.ac.length ≤ 9223372036854775806) :
    Calls Try.prog 31 #[v] w (NQ (clL A) (chkA A) w) := by
  obtain ⟨an, cn, aa, ca, e, h1, h2⟩ := h.is
  have HL : Hid (∀ y, Below w.heap.size w y → Calls Try.prog 47 #[v, .int .i64 9223372036854775807] y (NQ (clL A) (chkA A) y)) := fun y hy => by
    have := level_any v A y (h.stay hy) hm hm2 9223372036854775807 (by omega)
    rwa [(clL_lv A).1, (clL_lv A).2] at this
  subst e
  clear h h1 h2
  go_enter Try.func31, Try.ntmps31
  go_wp2_with fail
  refine (HL.out _ (below_new _ _)).mono ?_
  rintro e w1 ⟨vs, rfl, ho, hb⟩
  have HO : Hid (w1.ownsRow w.heap.size 3 1 vs (clL A).length (nC (clL A))) := own_mono ho (below_new _ _).size
  have HB : Hid (Below w.heap.size w w1) := go_on (below_new _ _) hb
  clear ho hb
  go_wp2_with fail
  go_ret2
  exact ⟨_, rfl, HO.out, HB.out⟩
end Go.Proofs.Ythmnoepjkobcmab

namespace Go.Proofs.Ythmnoepjkobcmab
open Go Go.RowKit Go.Lib
set_option linter.unusedVariables false

theorem and_u64 {A B : Int} (a b : Nat) (hA : A = a) (hB : B = b) (ha : a < 18446744073709551616) (hb : b < 18446744073709551616) : bits .and .u64 A B = ((a &&& b : Nat) : Int) := by
  rw [hA, hB, bits_and_u64_nat a b ha hb]

theorem and_mask10 (n : Nat) (hn : n ≤ 4096) : bits .and .u64 (n : Int) 4294967295 = (n : Int) := by
  have := and_u64 (A := (n : Int)) (B := 4294967295) n 4294967295 rfl rfl (by omega) (by decide)
  rw [this, show (4294967295 : Nat) = 2 ^ 32 - 1 from rfl, Nat.and_two_pow_sub_one_eq_mod, Nat.mod_eq_of_lt (by omega)]

set_option maxHeartbeats 2000000 in
set_option maxRecDepth 100000 in
theorem mul64_ten (n : Nat) (hn : n ≤ 4096) (w : World) : Calls Try.prog 77 #[.int .u64 1, .int .u64 (n : Int)] w fun e w' => e = .returned (.tuple #[.int .u64 0, .int .u64 (n : Int)]) ∧ w = w' := by
  have h1 : bits .and .u64 1 4294967295 = 1 := and_mask10 1 (by omega)
  have h0 : bits .and .u64 0 4294967295 = 0 := and_mask10 0 (by omega)
  have h2 := and_mask10 n hn
  have hd : (n : Int) / 4294967296 = 0 := by omega
  have hw : IntKind.u64.wrap (n : Int) = n := by rw [IntKind.wrap_u64]; omega
  go_enter Try.func77, Try.ntmps77
  go_wp2
  go_ret2
  exact ⟨rfl, rfl⟩
set_option maxHeartbeats 2000000 in
theorem mul_ten (n : Nat) (hn : n ≤ 4096) (w : World) : Calls Try.prog 69 #[.int .u64 1, .int .u64 (n : Int)] w fun e w' => e = .returned (.tuple #[.int .u64 0, .int .u64 (n : Int)]) ∧ w = w' := by
  go_enter Try.func69, Try.ntmps69
  go_wp2_with fail
  refine (mul64_ten n hn _).mono ?_
  rintro e w1 ⟨rfl, rfl⟩
  go_wp2_with fail
  go_ret2
  exact ⟨rfl, rfl⟩

theorem Try.size_intc : (Try.prog.info? 3).map (·.size) = some 1 := by kernel_rfl
/-- The row: b of its numbers are laid. -/
structure RepI (w : World) (n C b : Nat) (L : List Value) (wr : World) : Prop where
  blk : wr.heap[w.heap.size]? = some (.cells L.toArray 3 (0, 0))
  len : L.length = C
  take : L.take b = List.replicate b (.int .i64 (-1))
  below : Below w.heap.size w wr

theorem repI_copy {w wr : World} {n C b : Nat} {L : List Value} (h : RepI w n C b L wr) (dLen dCap : Nat) (a : Addr) (sLen sCap m : Nat) (hm : m = Nat.min sLen dLen) (hbm : b + m ≤ C) (hsrc : ∀ j, j < m → wr.cell? (a.add j) = some (.int .i64 (-1))) :
    ∃ wr' L', (Builtin.copy_ #[22, 22] 3 #[.slice (some ⟨w.heap.size, b, none⟩) dLen dCap, .slice (some a) sLen sCap]).run Try.prog wr = .ok (.int .i64 (m : Int)) wr' ∧ RepI w n C (b + m) L' wr' := by
  have hbL : b ≤ L.length := by have := h.len; omega
  have hr := run_copy_row (P := Try.prog) wr 22 22 3 3 w.heap.size b dLen dCap a sLen sCap L.toArray 3 (List.replicate m (.int .i64 (-1))) Try.underlying22 Try.size_intc h.blk (by simp [hm])
    (fun j v hj => by
      rw [List.getElem?_replicate] at hj
      split at hj
      · rename_i hjm
        cases hj
        exact hsrc j hjm
      · cases hj) (by simp; have := h.len; omega) (fun v hv => by rw [List.mem_replicate] at hv; rw [hv.2]; rfl)
  refine ⟨wr.setRow w.heap.size (L.take b ++ List.replicate m (Value.int .i64 (-1)) ++ L.drop (b + m)).toArray, L.take b ++ List.replicate m (Value.int .i64 (-1)) ++ L.drop (b + m), ?_, ?_, ?_, ?_, ?_⟩
  · rw [hr]
    simp [goInt]
  · have := setRow_heap wr w.heap.size _ (L.take b ++ List.replicate m (Value.int .i64 (-1)) ++ L.drop (b + m)).toArray 3 _ h.blk
    simpa using this
  · have := h.len
    simp
    omega
  · rw [List.take_append_of_le_length (by simp; omega), List.take_of_length_le (by simp; omega), h.take, List.replicate_append_replicate]
  · exact below_setRow h.below (Nat.le_refl _) _

set_option maxHeartbeats 2000000 in
set_option maxRecDepth 100000 in
theorem repeatI_any (n : Nat) (hn : n ≤ 4096) (hn1 : 1 ≤ n) (w : World) (g : Nat) (hc : w.cell? ⟨g, 0, none⟩ = some (.int .i64 (-1))) : Calls Try.prog 48 #[.slice (some ⟨g, 0, none⟩) 1 1, .int .i64 (n : Int)] w fun e w' => e = .returned (.slice (some ⟨w.heap.size, 0, none⟩) n n) ∧ w'.ownsRow w.heap.size 3 1 (.slice (some ⟨w.heap.size, 0, none⟩) n n) n (List.replicate n (.int .i64 (-1))) ∧ Below w.heap.size w w' := by
  have HCELL : Hid (w.cell? ⟨g, 0, none⟩ = some (.int .i64 (-1))) := hc
  obtain ⟨i0, hi, hz0, hz1, hz2⟩ := info_parts Try.info_int
  have hmk := fun w0 => run_make (P := Try.prog) w0 22 3 i0 (.int .i64 0) Try.underlying22 hi hz0 .i64 .i64 (n : Int) (n : Int) (by omega) (by omega) (by rw [hz2]; omega) (by omega)
  rw [hz1] at hmk
  simp only [Nat.mul_one] at hmk
  have h0J : ¬ (n : Int) < 0 := by omega
  have hwn : IntKind.u64.wrap (n : Int) = n := by rw [IntKind.wrap_u64]; omega
  have hwi : IntKind.i64.wrap (n : Int) = n := by rw [IntKind.wrap_i64]; omega
  go_enter Try.func48, Try.ntmps48
  go_wp2_with fail
  refine (mul_ten n hn _).mono ?_
  rintro e w1 ⟨rfl, rfl⟩
  obtain ⟨W, hW⟩ : ∃ W, w.alloc (.cells (madeCells #[.int .i64 0] n) 3) = W := ⟨_, rfl⟩
  have hb0 : Below w.heap.size w W := by rw [← hW]; exact below_new _ _
  have hms : (madeCells #[.int .i64 0] n).size = n := by simp [madeCells]
  have hR0 : RepI w n n 0 (madeCells #[.int .i64 0] n).toList W := ⟨by rw [← hW]; exact heap_alloc_last _ _, by simpa using hms, rfl, hb0⟩
  obtain ⟨W1, L1, hcp, hR1⟩ := repI_copy hR0 n n ⟨g, 0, none⟩ 1 1 1 (by show 1 = min 1 n; omega) (by omega) (fun j hj => by
    obtain rfl : j = 0 := by omega
    have e : (⟨g, 0, none⟩ : Addr).add 0 = ⟨g, 0, none⟩ := rfl
    rw [e, below_cellJ hb0 (World.block_lt_of_cell? w _ HCELL.out)]
    exact HCELL.out)
  rw [← hW] at hcp
  have HR1 : Hid (RepI w n n 1 L1 W1) := hR1
  have HN : Hid (1 ≤ n) := hn1
  clear hW hR0 hR1 hb0 hms hc
  go_wp2_with fail
  go_loopw [8] (fun vb wr => ∃ (b : Nat) (L : List Value), 1 ≤ b ∧ b ≤ n ∧ vb = .int .i64 (b : Int) ∧ RepI w n n b L wr) (fun vb _ => n - (intOf vb).toNat)
  case atStart => exact ⟨1, L1, Nat.le_refl _, HN.out, rfl, HR1.out⟩
  case round =>
    clear HR1 hcp hmk
    obtain ⟨b, L, hb1, hbn, rfl, hrep⟩ := hrel
    have HR : Hid (RepI w n n b L wr) := hrep
    by_cases hlt : b < n
    · have hbI : (b : Int) < n := by omega
      obtain ⟨m, hm⟩ : ∃ m, min b (n - b) = m := ⟨_, rfl⟩
      have hrepD : RepI w n n b L wr.drew := ⟨hrep.blk, hrep.len, hrep.take, hrep.below.drew⟩
      obtain ⟨W2, L2, hcp2, hR2⟩ := repI_copy hrepD (n - b) (n - b) ⟨w.heap.size, 0, none⟩ b n m (by first | exact hm.symm | (rw [← hm])) (by omega) (fun j hj => by
        have hjb : j < b := by omega
        have e : (⟨w.heap.size, 0, none⟩ : Addr).add j = ⟨w.heap.size, j, none⟩ := by rw [Addr.add_lit, Nat.zero_add]
        rw [e]
        simp only [World.cell?, hrepD.blk]
        have h1 : (L.take b)[j]? = some (.int .i64 (-1)) := by rw [hrep.take, List.getElem?_replicate, if_pos hjb]
        rw [List.getElem?_take, if_pos hjb] at h1
        simpa using h1)
      have HR2 : Hid (RepI w n n (b + m) L2 W2) := hR2
      have HM : Hid (min b (n - b) = m ∧ b < n ∧ 1 ≤ b) := ⟨hm, hlt, hb1⟩
      have hbc : (b : Int) ≤ n := by omega
      obtain ⟨q, hq⟩ : ∃ q, b + m = q := ⟨_, rfl⟩
      have hwq : IntKind.i64.wrap ((b : Int) + m) = (q : Int) := by rw [IntKind.wrap_i64]; omega
      have HQ : Hid (b + m = q) := hq
      have HME : Hid (n - q < n - b) := by have := HM.out; show n - q < n - b; omega
      have HQL : Hid (1 ≤ q ∧ q ≤ n) := by have := HM.out; show _ ∧ _; omega
      clear hq
      clear hrep hR2 hm hrepD
      go_wp2_with fail
      go_region
      all_goals (
        go_wp2_with fail
        go_roundw
        case rel => exact ⟨q, L2, HQL.out.1, HQL.out.2, rfl, by have := HR2.out; rw [HQ.out] at this; exact this⟩
        case measure => exact HME.out)
    · obtain rfl : b = n := by omega
      have hbI : ¬ (b : Int) < b := by omega
      clear hrep
      go_wp2_with fail
      go_ret
      refine ⟨rfl, ⟨by simp, .inr ⟨w.heap.size, b, L.toArray, rfl, Nat.le_refl _, HR.out.blk, Nat.le_refl _, by unfold maxLen; omega, by simpa using HR.out.len, ?_⟩⟩, HR.out.below⟩
      have h1 := HR.out.take
      rw [List.take_of_length_le (by rw [HR.out.len]; omega)] at h1
      rw [← h1]
      simp
      exact List.take_of_length_le (by rw [HR.out.len]; omega)
end Go.Proofs.Ythmnoepjkobcmab

namespace Go.Proofs.Ythmnoepjkobcmab
open Go Go.RowKit Go.Lib
set_option linter.unusedVariables false

structure IM (V : World) (rb ob gn N : Nat) (k : Int) (vm vn va : Value) (r mL nL aL : List Value) (wr : World) : Prop where
  res : wr.heap[rb]? = some (.cells #[.int .i64 0, .slice none 0 0, .slice none 0 0] 25 (0, 0))
  out : wr.heap[ob]? = some (.cells #[.int .i64 k, vn, va] 25 (0, 0))
  nums : wr.ownsRow V.heap.size 3 1 (.slice (some ⟨gn, 0, none⟩) N N) N r
  met : wr.ownsRow V.heap.size 3 1 vm mL.length mL
  nxt : wr.ownsRow V.heap.size 3 1 vn nL.length nL
  acp : wr.ownsRow V.heap.size 4 1 va aL.length aL
  a1 : vm.ownBlock ≠ some gn
  a2 : vn.ownBlock ≠ some gn
  a3 : ∀ b, vm.ownBlock = some b → vn.ownBlock ≠ some b
  below : Below V.heap.size V wr
  ol : V.heap.size ≤ ob
  rl : V.heap.size ≤ rb
  ne : rb ≠ ob
theorem IM.call {V : World} {rb ob gn N : Nat} {k : Int} {vm vn va : Value} {r mL nL aL : List Value} {wr w2 : World} (h : IM V rb ob gn N k vm vn va r mL nL aL wr) (hb : Below wr.heap.size wr w2) : IM V rb ob gn N k vm vn va r mL nL aL w2 :=
  ⟨(hb.block _ (Array.getElem?_eq_some_iff.1 h.res).1).trans h.res, (hb.block _ (Array.getElem?_eq_some_iff.1 h.out).1).trans h.out, own_below h.nums hb, own_below h.met hb, own_below h.nxt hb, own_below h.acp hb, h.a1, h.a2, h.a3, go_on h.below hb, h.ol, h.rl, h.ne⟩
theorem IM.numBlk {V : World} {rb ob gn N : Nat} {k : Int} {vm vn va : Value} {r mL nL aL : List Value} {wr : World} (h : IM V rb ob gn N k vm vn va r mL nL aL wr) : V.heap.size ≤ gn ∧ ∃ cur, wr.heap[gn]? = some (.cells cur 3 (0, 0)) := own_blk h.nums rfl
theorem IM.num {V : World} {rb ob gn N : Nat} {k : Int} {vm vn va : Value} {r mL nL aL : List Value} {wr : World} (h : IM V rb ob gn N k vm vn va r mL nL aL wr) (j : Nat) (x : Value) : IM V rb ob gn N k vm vn va (r.set j x) mL nL aL (wr.setCell ⟨gn, j, none⟩ x) := by
  obtain ⟨hlo, cur, hg⟩ := h.numBlk
  have so : ∀ (b : Nat) (O : Obj), wr.heap[b]? = some O → (∀ cur : Array Value, O ≠ Obj.cells cur 3 (0, 0)) → (wr.setCell ⟨gn, j, none⟩ x).heap[b]? = wr.heap[b]? := fun b O hb hne => heap_set_other (fun e => by
    rw [e, hg, Option.some.injEq] at hb
    exact hne _ hb.symm)
  refine ⟨(so _ _ h.res (fun cur e => by injection e with _ e _; cases e)).trans h.res, (so _ _ h.out (fun cur e => by injection e with _ e _; cases e)).trans h.out, (h.nums.stored j x).1, own_keep h.met (fun b cur hb _ => heap_set_other (fun e => h.a1 (e ▸ hb))), own_keep h.nxt (fun b cur hb _ => heap_set_other (fun e => h.a2 (e ▸ hb))), own_keep h.acp (fun b cur hb hc => so b _ hc (fun cur' e => by injection e with _ e _; cases e)), h.a1, h.a2, h.a3, h.below.setCell (p := ⟨gn, j, none⟩) hlo _, h.ol, h.rl, h.ne⟩
theorem IM.metd {V : World} {rb ob gn N : Nat} {k : Int} {vm vn va vm' : Value} {r mL nL aL : List Value} {wr w2 : World} {o : Obj} {x : Value} (h : IM V rb ob gn N k vm vn va r mL nL aL wr) (hg : (wr.alloc o).grownBy w2 vm.ownBlock) (ho : w2.ownsRow V.heap.size 3 1 vm' (mL.length + 1) (mL ++ [x])) (hl : vm'.ownBlock = vm.ownBlock ∨ vm'.ownBlock = some (wr.alloc o).heap.size) :
    IM V rb ob gn N k vm' vn va r (mL ++ [x]) nL aL w2 := by
  obtain ⟨hlo, cur, hgn⟩ := h.numBlk
  have hgl := (Array.getElem?_eq_some_iff.1 hgn).1
  have k' : ∀ b, b < wr.heap.size → vm.ownBlock ≠ some b → w2.heap[b]? = wr.heap[b]? := fun b hlt hne => by
    rw [hg.block b (by simp; omega) (fun e => hne e.symm)]
    exact (below_new wr o).block b hlt
  have kt : ∀ (b : Nat) (O : Obj), wr.heap[b]? = some O → (∀ cur : Array Value, O ≠ Obj.cells cur 3 (0, 0)) → w2.heap[b]? = wr.heap[b]? := fun b O hb hne => k' b (Array.getElem?_eq_some_iff.1 hb).1 (fun e => by
    obtain ⟨_, cur, hc⟩ := own_blk h.met e
    rw [hc, Option.some.injEq] at hb
    exact hne cur hb.symm)
  refine ⟨(kt _ _ h.res (fun cur e => by injection e with _ e _; cases e)).trans h.res, (kt _ _ h.out (fun cur e => by injection e with _ e _; cases e)).trans h.out, own_keep h.nums (fun b cur hb hc => k' b (Array.getElem?_eq_some_iff.1 hc).1 (fun e => h.a1 (by simp only [Value.ownBlock, Option.some.injEq] at hb; rw [hb]; exact e))), by simpa using ho, own_keep h.nxt (fun b cur hb hc => k' b (Array.getElem?_eq_some_iff.1 hc).1 (fun e => h.a3 b e hb)), own_keep h.acp (fun b cur hb hc => kt b _ hc (fun cur' e => by injection e with _ e _; cases e)), ?_, h.a2, ?_, ?_, h.ol, h.rl, h.ne⟩
  · rcases hl with hl | hl
    · rw [hl]; exact h.a1
    · rw [hl]; simp; omega
  · intro b hb hn
    rcases hl with hl | hl
    · exact h.a3 b (hl ▸ hb) hn
    · rw [hl] at hb
      have := (h.nxt.lt b hn).2
      simp at hb
      omega
  · exact (h.below.alloc (by have := h.below.size; omega) o).grown hg (by have := h.below.size; simp; omega) (fun b hb => (h.met.lt b hb).1)
theorem IM.nxtd {V : World} {rb ob gn N : Nat} {k : Int} {vm vn va vn' : Value} {r mL nL aL : List Value} {wr w2 : World} {o : Obj} {x : Value} (h : IM V rb ob gn N k vm vn va r mL nL aL wr) (hg : (wr.alloc o).grownBy w2 vn.ownBlock) (ho : w2.ownsRow V.heap.size 3 1 vn' (nL.length + 1) (nL ++ [x])) (hl : vn'.ownBlock = vn.ownBlock ∨ vn'.ownBlock = some (wr.alloc o).heap.size) :
    w2.heap[ob]? = some (.cells #[.int .i64 k, vn, va] 25 (0, 0)) ∧ IM V rb ob gn N k vm vn' va r mL (nL ++ [x]) aL (w2.setCell ⟨ob, 1, none⟩ vn') := by
  obtain ⟨hlo, cur, hgn⟩ := h.numBlk
  have hgl := (Array.getElem?_eq_some_iff.1 hgn).1
  have k' : ∀ b, b < wr.heap.size → vn.ownBlock ≠ some b → w2.heap[b]? = wr.heap[b]? := fun b hlt hne => by
    rw [hg.block b (by simp; omega) (fun e => hne e.symm)]
    exact (below_new wr o).block b hlt
  have kt : ∀ (b : Nat) (O : Obj), wr.heap[b]? = some O → (∀ cur : Array Value, O ≠ Obj.cells cur 3 (0, 0)) → w2.heap[b]? = wr.heap[b]? := fun b O hb hne => k' b (Array.getElem?_eq_some_iff.1 hb).1 (fun e => by
    obtain ⟨_, cur, hc⟩ := own_blk h.nxt e
    rw [hc, Option.some.injEq] at hb
    exact hne cur hb.symm)
  have hob := (kt _ _ h.out (fun cur e => by injection e with _ e _; cases e)).trans h.out
  have so : ∀ (b : Nat) (cur : Array Value) (e : TypeId), w2.heap[b]? = some (.cells cur e (0, 0)) → e ≠ 25 → (w2.setCell ⟨ob, 1, none⟩ vn').heap[b]? = w2.heap[b]? := fun b cur e hb hne => heap_set_other (fun q => by rw [q, hob] at hb; simp at hb; exact hne hb.2.symm)
  have n1 : w2.ownsRow V.heap.size 3 1 (.slice (some ⟨gn, 0, none⟩) N N) N r := own_keep h.nums (fun b cur hb hc => k' b (Array.getElem?_eq_some_iff.1 hc).1 (fun e => h.a2 (by simp only [Value.ownBlock, Option.some.injEq] at hb; rw [hb]; exact e)))
  have n2 : w2.ownsRow V.heap.size 3 1 vm mL.length mL := own_keep h.met (fun b cur hb hc => k' b (Array.getElem?_eq_some_iff.1 hc).1 (fun e => h.a3 b hb e))
  have n3 : w2.ownsRow V.heap.size 4 1 va aL.length aL := own_keep h.acp (fun b cur hb hc => kt b _ hc (fun cur' e => by injection e with _ e _; cases e))
  refine ⟨hob, ?_, heap_set hob, own_keep n1 (fun b cur _ hc => so b cur _ hc (by decide)), own_keep n2 (fun b cur _ hc => so b cur _ hc (by decide)), ?_, own_keep n3 (fun b cur _ hc => so b cur _ hc (by decide)), h.a1, ?_, ?_, ?_, h.ol, h.rl, h.ne⟩
  · rw [heap_set_other h.ne]
    exact (kt _ _ h.res (fun cur e => by injection e with _ e _; cases e)).trans h.res
  · have := own_keep (w' := w2.setCell ⟨ob, 1, none⟩ vn') ho (fun b cur _ hc => so b cur _ hc (by decide))
    simpa using this
  · rcases hl with hl | hl
    · rw [hl]; exact h.a2
    · rw [hl]; simp; omega
  · intro b hb hn
    rcases hl with hl | hl
    · exact h.a3 b hb (hl ▸ hn)
    · rw [hl] at hn
      have := (h.met.lt b hb).2
      simp at hn
      omega
  · exact ((h.below.alloc (by have := h.below.size; omega) o).grown hg (by have := h.below.size; simp; omega) (fun b hb => (h.nxt.lt b hb).1)).setCell (p := ⟨ob, 1, none⟩) h.ol _
theorem IM.acpd {V : World} {rb ob gn N : Nat} {k : Int} {vm vn va va' : Value} {r mL nL aL : List Value} {wr w2 : World} {o : Obj} {x : Value} (h : IM V rb ob gn N k vm vn va r mL nL aL wr) (hg : (wr.alloc o).grownBy w2 va.ownBlock) (ho : w2.ownsRow V.heap.size 4 1 va' (aL.length + 1) (aL ++ [x])) :
    w2.heap[ob]? = some (.cells #[.int .i64 k, vn, va] 25 (0, 0)) ∧ IM V rb ob gn N k vm vn va' r mL nL (aL ++ [x]) (w2.setCell ⟨ob, 2, none⟩ va') := by
  have k' : ∀ b, b < wr.heap.size → va.ownBlock ≠ some b → w2.heap[b]? = wr.heap[b]? := fun b hlt hne => by
    rw [hg.block b (by simp; omega) (fun e => hne e.symm)]
    exact (below_new wr o).block b hlt
  have kt : ∀ (b : Nat) (O : Obj), wr.heap[b]? = some O → (∀ cur : Array Value, O ≠ Obj.cells cur 4 (0, 0)) → w2.heap[b]? = wr.heap[b]? := fun b O hb hne => k' b (Array.getElem?_eq_some_iff.1 hb).1 (fun e => by
    obtain ⟨_, cur, hc⟩ := own_blk h.acp e
    rw [hc, Option.some.injEq] at hb
    exact hne cur hb.symm)
  have hob := (kt _ _ h.out (fun cur e => by injection e with _ e _; cases e)).trans h.out
  have so : ∀ (b : Nat) (cur : Array Value) (e : TypeId), w2.heap[b]? = some (.cells cur e (0, 0)) → e ≠ 25 → (w2.setCell ⟨ob, 2, none⟩ va').heap[b]? = w2.heap[b]? := fun b cur e hb hne => heap_set_other (fun q => by rw [q, hob] at hb; simp at hb; exact hne hb.2.symm)
  have ki : ∀ (v : Value) (n : Nat) (L : List Value), wr.ownsRow V.heap.size 3 1 v n L → (w2.setCell ⟨ob, 2, none⟩ va').ownsRow V.heap.size 3 1 v n L := fun v n L hv => own_keep (own_keep (w' := w2) hv (fun b cur hb hc => kt b _ hc (fun cur' e => by injection e with _ e _; cases e))) (fun b cur _ hc => so b cur _ hc (by decide))
  refine ⟨hob, ?_, heap_set hob, ki _ _ _ h.nums, ki _ _ _ h.met, ki _ _ _ h.nxt, ?_, h.a1, h.a2, h.a3, ?_, h.ol, h.rl, h.ne⟩
  · rw [heap_set_other h.ne]
    exact (kt _ _ h.res (fun cur e => by injection e with _ e _; cases e)).trans h.res
  · have := own_keep (w' := w2.setCell ⟨ob, 2, none⟩ va') ho (fun b cur _ hc => so b cur _ hc (by decide))
    simpa using this
  · exact ((h.below.alloc (by have := h.below.size; omega) o).grown hg (by have := h.below.size; simp; omega) (fun b hb => (h.acp.lt b hb).1)).setCell (p := ⟨ob, 2, none⟩) h.ol _
/-- The numbers of the classes that were met. -/
def nmI (m : List Nat) (t : Nat) : Int := if t ∈ m then (m.idxOf t : Int) else -1
def nmC (m : List Nat) (N : Nat) : List Value := (List.range N).map fun t => .int .i64 (nmI m t)
theorem nmC_at {m : List Nat} {N t : Nat} (h : t < N) : (nmC m N)[t]? = some (.int .i64 (nmI m t)) := by simp [nmC, h]
theorem nmC_set {m : List Nat} {N t : Nat} (h : t < N) (hm : t ∉ m) : (nmC m N).set t (.int .i64 (m.length : Nat)) = nmC (m ++ [t]) N := by
  apply List.ext_getElem?
  intro j
  rw [List.getElem?_set]
  by_cases e : t = j
  · subst e
    rw [if_pos rfl, if_pos (by simpa [nmC] using h), nmC_at h]
    unfold nmI
    rw [if_pos (by simp), List.idxOf_append, if_neg hm]
    simp
  · rw [if_neg e]
    by_cases hj : j < N
    · rw [nmC_at hj, nmC_at hj]
      unfold nmI
      by_cases q : j ∈ m
      · rw [if_pos q, if_pos (by simp [q]), List.idxOf_append, if_pos q]
      · rw [if_neg q, if_neg (by simp [q]; exact fun x => e x.symm)]
    · rw [List.getElem?_eq_none (by simp [nmC]; omega), List.getElem?_eq_none (by simp [nmC]; omega)]
theorem nmC_first {N : Nat} (h : 0 < N) : (List.replicate N (Value.int .i64 (-1))).set 0 (.int .i64 0) = nmC [0] N := by
  apply List.ext_getElem?
  intro j
  rw [List.getElem?_set]
  by_cases e : 0 = j
  · subst e
    rw [if_pos rfl, if_pos (by simpa using h), nmC_at h]
    rfl
  · rw [if_neg e]
    by_cases hj : j < N
    · rw [nmC_at hj, List.getElem?_replicate, if_pos hj]
      unfold nmI
      rw [if_neg (by simp; omega)]
    · rw [List.getElem?_eq_none (by simp; omega), List.getElem?_eq_none (by simp [nmC]; omega)]
/-- Where a letter leads among the classes. -/
def dC (A : Aut) (l : List Nat) (s c : Nat) : Nat := l.getD (dN A s c) 0
/-- How far the search has come. -/
structure IP (A : Aut) (l : List Nat) (K i c : Nat) (m n : List Nat) (f : Nat) : Prop where
  bi : BI (dC A l) K 0 m n
  go : bgo (dC A l) K f m n = bfs (dC A l) K 0
  fu : f + n.length = 32768
  nl : n.length = i * K + c
  oks : ∀ s ∈ m, s < A.ac.length
theorem IP.start (A : Aut) (l : List Nat) (K : Nat) (h : 0 < A.ac.length) : IP A l K 0 0 [0] [] 32768 := ⟨BI.start _ _ _, rfl, rfl, by simp, fun s hs => by simp at hs; omega⟩
theorem IP.fuel {A : Aut} {l : List Nat} {K i c : Nat} {m n : List Nat} {f : Nat} (h : IP A l K i c m n f) (hK : c < K) (hk8 : K ≤ 8) (hi : i < m.length) : ∃ f', f = f' + 1 := by
  cases f with
  | succ f => exact ⟨f, rfl⟩
  | zero =>
    have h1 := h.fu
    have h2 := h.nl
    have h3 := h.bi.most
    have h4 := Nat.mul_le_mul_right K (show i + 1 ≤ 4096 by omega)
    have h5 := Nat.mul_le_mul_left 4096 hk8
    rw [Nat.add_mul] at h4
    omega
theorem IP.old {A : Aut} {l : List Nat} {K i c : Nat} {m n : List Nat} {f s : Nat} (h : IP A l K i c m n f) (hK : c < K) (hk8 : K ≤ 8) (hs : m[i]? = some s) (ht : dC A l s c ∈ m) : ∃ f', IP A l K i (c + 1) m (n ++ [m.idxOf (dC A l s c)]) f' := by
  obtain ⟨f', rfl⟩ := h.fuel hK hk8 (List.getElem?_eq_some_iff.1 hs).1
  exact ⟨f', h.bi.old hK h.nl hs ht, by rw [← h.go, bgo_old hK h.nl hs ht], by have := h.fu; simp; omega, by have := h.nl; simp; omega, h.oks⟩
theorem nodup_lt (N : Nat) : ∀ (m : List Nat), m.Nodup → (∀ s ∈ m, s < N) → m.length ≤ N := fun m h1 h2 => nodup_small N m h1 h2
theorem IP.new {A : Aut} {l : List Nat} {K i c : Nat} {m n : List Nat} {f s : Nat} (h : IP A l K i c m n f) (hK : c < K) (hk8 : K ≤ 8) (hN : A.ac.length ≤ 4096) (hs : m[i]? = some s) (ht : ¬ dC A l s c ∈ m) (hl : dC A l s c < A.ac.length) : ∃ f', IP A l K i (c + 1) (m ++ [dC A l s c]) (n ++ [m.length]) f' := by
  obtain ⟨f', rfl⟩ := h.fuel hK hk8 (List.getElem?_eq_some_iff.1 hs).1
  have hm : m.length ≠ 4096 := by
    have h1 : (m ++ [dC A l s c]).length ≤ A.ac.length := nodup_lt _ _ (by
      rw [List.nodup_append]
      refine ⟨h.bi.nodup, by simp, fun a ha b hb e => ?_⟩
      simp at hb
      subst hb
      subst e
      exact ht ha) (fun x hx => by
        rcases List.mem_append.1 hx with q | q
        · exact h.oks x q
        · simp at q; rw [q]; exact hl)
    simp at h1
    omega
  refine ⟨f', h.bi.new hK h.nl hs ht hm, by rw [← h.go, bgo_new hK h.nl hs ht hm], by have := h.fu; simp; omega, by have := h.nl; simp; omega, fun x hx => ?_⟩
  rcases List.mem_append.1 hx with q | q
  · exact h.oks x q
  · simp at q; rw [q]; exact hl
theorem IP.next {A : Aut} {l : List Nat} {K i : Nat} {m n : List Nat} {f : Nat} (h : IP A l K i K m n f) : IP A l K (i + 1) 0 m n f := ⟨h.bi, h.go, h.fu, by rw [h.nl, Nat.add_mul]; omega, h.oks⟩
end Go.Proofs.Ythmnoepjkobcmab
