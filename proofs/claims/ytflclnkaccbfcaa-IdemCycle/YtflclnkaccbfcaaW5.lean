/- E49 E50, in one text. -/
import Derived.Test.YtflclnkaccbfcaaW4
import Derived.RegionIn
import Derived.Test.YtflclnkaccbfcaaW3
namespace Go.Proofs.Ytflclnkaccbfcaa
open Go Go.RowKit Go.Shelf Go.Lib
set_option linter.unusedVariables false
attribute [-instance] List.instBEq instBEqProd

attribute [local go_sem] Oper.semAt_some

/-- What met knows when j powers were gone through. -/
structure Met (K : Nat) (N : List Nat) (i n j : Nat) (cs : List Nat) : Prop where
  len : cs.length = n
  old : ∀ k, k < j → cs[pwN K N i k]? = some (k + 1)
  new : ∀ x v : Nat, cs[x]? = some v → v ≠ 0 → ∃ k, k < j ∧ pwN K N i k = x ∧ v = k + 1
  apart : ∀ a b, a < b → b < j → pwN K N i a ≠ pwN K N i b

theorem Met.start (K : Nat) (N : List Nat) (i n : Nat) : Met K N i n 0 (List.replicate n 0) :=
  ⟨by simp, fun k h => by omega, fun x v hx hv => (by
    rw [List.getElem?_replicate] at hx
    split at hx
    · injection hx with hx
      exact absurd hx.symm hv
    · exact absurd hx (by simp)), fun a b h1 h2 => by omega⟩

theorem Met.next {K : Nat} {N : List Nat} {i n j : Nat} {cs : List Nat} (h : Met K N i n j cs) (hp : pwN K N i j < n) (h0 : cs[pwN K N i j]? = some 0) : Met K N i n (j + 1) (cs.set (pwN K N i j) (j + 1)) := by
  have hne : ∀ k, k < j → pwN K N i k ≠ pwN K N i j := fun k hk e => by
    have := h.old k hk
    rw [e, h0] at this
    cases this
  refine ⟨by rw [List.length_set]; exact h.len, fun k hk => ?_, fun x v hx hv => ?_, fun a b hab hb => ?_⟩
  · rw [List.getElem?_set]
    by_cases e : k = j
    · subst e
      rw [if_pos rfl, if_pos (by rw [h.len]; exact hp)]
    · rw [if_neg (fun q => hne k (by omega) q.symm)]
      exact h.old k (by omega)
  · rw [List.getElem?_set] at hx
    split at hx
    · rename_i e
      split at hx
      · cases hx
        exact ⟨j, by omega, e, rfl⟩
      · cases hx
    · obtain ⟨k, k1, k2, k3⟩ := h.new x v hx hv
      exact ⟨k, by omega, k2, k3⟩
  · by_cases e : b = j
    · subst e
      exact hne a hab
    · exact h.apart a b hab (by omega)

theorem Met.found {K : Nat} {N : List Nat} {i n j : Nat} {cs : List Nat} (h : Met K N i n j cs) {v : Nat} (h0 : cs[pwN K N i j]? = some v) (hv : v ≠ 0) : v ≤ j ∧ 1 ≤ v ∧ TR (rm K N i) 0 (v - 1) (j - (v - 1)) := by
  obtain ⟨k, k1, k2, k3⟩ := h.new _ _ h0 hv
  subst k3
  refine ⟨by omega, by omega, ?_, ?_, by omega⟩
  · intro a b hab hb
    exact h.apart a b hab (by omega)
  · show pwN K N i _ = pwN K N i _
    rw [show k + 1 - 1 + (j - (k + 1 - 1)) = j by omega, show k + 1 - 1 = k by omega, k2]

theorem Met.done {A : Aut} {M : List (List Nat)} {N : List Nat} (hm : Mon A M N) {i : Nat} (hi : i < M.length) {cs : List Nat} (h : Met A.k.toNat N i M.length (M.length + 1) cs) : False := by
  have := nodup_le M.length ((List.range (M.length + 1)).map (pwN A.k.toNat N i)) (map_nodup (fun a b hab hb => h.apart a b hab hb)) (fun x hx => by
    obtain ⟨k, _, rfl⟩ := List.mem_map.1 hx
    exact hm.pw_lt hi k)
  simp at this
  omega

theorem made_nC (n : Nat) : madeCells #[Value.int .i64 0] n = (nC (List.replicate n 0)).toArray := by
  apply Array.ext'
  apply List.ext_getElem?
  intro j
  by_cases hj : j < n
  · simp [madeCells, nC, hj, Nat.mod_one]
  · simp [madeCells, nC, hj]

theorem results_int2 {fn : Func} {p r : Tmp} (h : fn.results = #[.cell p 3, .cell r 3]) {tmps : Array Value} {b c : Nat} {x y : Int} {w : World} (hp : tmps.getD p undef = .pointer (some ⟨b, 0, none⟩)) (hr : tmps.getD r undef = .pointer (some ⟨c, 0, none⟩)) (hb : w.cell? ⟨b, 0, none⟩ = some (.int .i64 x)) (hc : w.cell? ⟨c, 0, none⟩ = some (.int .i64 y)) :
    (results fn tmps).run Try.prog w = .ok (.tuple #[.int .i64 x, .int .i64 y]) w := by
  have hp' : tmps[p]?.getD undef = .pointer (some ⟨b, 0, none⟩) := by simpa using hp
  have hr' : tmps[r]?.getD undef = .pointer (some ⟨c, 0, none⟩) := by simpa using hr
  simp [results, h, go_sem, hp', hr', hb, hc, Result.andThen]

set_option maxRecDepth 100000 in
set_option maxHeartbeats 4000000 in
theorem cycle_in (n : Nat) (hn : 3 ≤ n) {w : World} {ob : Nat} {A : Aut} {M : List (List Nat)} {N : List Nat} (h : MO w ob A M N) (i : Nat) (hi : i < M.length) :
    CallsIn Fence.wide n Try.prog 51 #[.pointer (some ⟨ob, 0, none⟩), .int .i64 i] w fun e w' => (∃ t r : Nat, e = .returned (.tuple #[.int .i64 (t : Nat), .int .i64 (r : Nat)]) ∧ TR (rm A.k.toNat N i) 0 t r) ∧ Below w.heap.size w w' := by
  have h1 : 1 ≤ n := by omega
  have HM0 : Hid (MO w ob A M N) := h
  have HMon : Hid (Mon A M N) := h.mon
  obtain ⟨i0, hi0, hz0, hz1, hz2⟩ := info_parts Try.info_int
  have hms := h.mon.most
  obtain ⟨m, hm⟩ : ∃ m, M.length = m := ⟨_, rfl⟩
  rw [hm] at hms hi
  have hmk := fun w0 => run_make (P := Try.prog) w0 23 3 i0 (.int .i64 0) Try.underlying23 hi0 hz0 .i64 .i64 (m : Int) (m : Int) (by omega) (by omega) (by rw [hz2]; omega) (by omega)
  rw [hz1] at hmk
  simp only [Nat.mul_one] at hmk
  have HMM : Hid (M.length = m) := hm
  obtain ⟨w2, hw2⟩ : ∃ w2, w2 = (w.alloc (.cells #[.int .i64 0] 3)).alloc (.cells #[.int .i64 0] 3) := ⟨_, rfl⟩
  have HB2 : Hid (Below w.heap.size w w2) := by show Below _ _ _; rw [hw2]; exact go_on (below_new _ _) (below_new _ _)
  have HW2 : Hid (w2 = (w.alloc (.cells #[.int .i64 0] 3)).alloc (.cells #[.int .i64 0] 3)) := hw2
  have HLN : Hid (Calls Try.prog 34 #[.pointer (some ⟨ob, 0, none⟩)] w2 fun e w' => e = .returned (.int .i64 (m : Nat)) ∧ w2 = w') := by
    have := mlen_any (h.below HB2.out)
    rw [hm] at this
    exact this
  clear h hw2 hm
  refine callsIn_of_wp_marks Try.func51 rfl trivial ?_ rfl
  simp only [Try.ntmps51, List.size_toArray, List.length_cons, List.length_nil, Nat.reduceAdd, Nat.reduceSub, Array.replicate_succ, Array.replicate_zero, List.push_toArray, List.append_toArray, List.nil_append, List.cons_append]
  gi_wp2
  rw [← HW2.out]
  refine ⟨trivial, ?_⟩
  refine (callsIn_wide.2 HLN.out).mono ?_
  rintro e w1 ⟨rfl, rfl⟩
  gi_wp2
  refine ⟨trivial, ?_⟩
  refine (callsIn_wide.2 (powers_any _ _ _)).mono ?_
  rintro e w3 ⟨rfl, rfl⟩
  clear hmk
  gi_wp2
  obtain ⟨q, hq⟩ : ∃ q, w2.heap.size = q := ⟨_, rfl⟩
  have hqw1 : q ≤ w.heap.size + 2 := by rw [← hq, HW2.out]; simp
  have hqw2 : w.heap.size + 2 ≤ q := by rw [← hq, HW2.out]; simp
  obtain ⟨U, hU⟩ : ∃ U, U = (((w2.alloc (.cells (madeCells #[.int .i64 0] m) 3)).alloc (.cells #[.slice (some ⟨w2.heap.size, 0, none⟩) m m] 23)).alloc (.cells #[.pointer (some ⟨ob, 0, none⟩)] 22)).alloc (.cells #[.int .i64 (i : Int)] 3) := ⟨_, rfl⟩
  have hUs : U.heap.size = q + 4 := by rw [hU]; simp [hq]
  have hB2U : Below w2.heap.size w2 U := by
    rw [hU]
    exact go_on (go_on (go_on (below_new _ _) (below_new _ _)) (below_new _ _)) (below_new _ _)
  have HBU : Hid (Below w.heap.size w U) := go_on HB2.out hB2U
  have HUa : Hid (U.heap[w.heap.size]? = some (.cells #[.int .i64 0] 3 (0, 0))) := by
    show _ = _
    rw [hB2U.block _ (by omega), HW2.out, heap_allo (by simp)]
    exact heap_last _ _
  have HUb : Hid (U.heap[w.heap.size + 1]? = some (.cells #[.int .i64 0] 3 (0, 0))) := by
    show _ = _
    rw [hB2U.block _ (by omega), HW2.out]
    have := heap_last (w.alloc (.cells #[.int .i64 0] 3)) (.cells #[.int .i64 0] 3)
    rwa [World.size_alloc] at this
  have HU0 : Hid (U.heap[q]? = some (.cells (nC (List.replicate m 0)).toArray 3 (0, 0))) := by
    show _ = _
    rw [hU, heap_allo (by simp <;> omega), heap_allo (by simp <;> omega), heap_allo (by simp <;> omega), ← hq, ← made_nC]
    exact heap_last _ _
  have HU1 : Hid (U.cell? ⟨q + 1, 0, none⟩ = some (.slice (some ⟨q, 0, none⟩) m m)) := by
    show _ = _
    have e : U.heap[q + 1]? = some (.cells #[.slice (some ⟨q, 0, none⟩) m m] 23 (0, 0)) := by
      subst hq
      rw [hU, heap_allo (by simp <;> omega), heap_allo (by simp <;> omega)]
      have := heap_last (w2.alloc (.cells (madeCells #[.int .i64 0] m) 3)) (.cells #[.slice (some ⟨w2.heap.size, 0, none⟩) m m] 23)
      rwa [World.size_alloc] at this
    exact cell_at e rfl
  have HU2 : Hid (U.cell? ⟨q + 1 + 1, 0, none⟩ = some (.pointer (some ⟨ob, 0, none⟩))) := by
    show _ = _
    have e : U.heap[q + 1 + 1]? = some (.cells #[.pointer (some ⟨ob, 0, none⟩)] 22 (0, 0)) := by
      subst hq
      rw [hU, heap_allo (by simp <;> omega)]
      have := heap_last ((w2.alloc (.cells (madeCells #[.int .i64 0] m) 3)).alloc (.cells #[.slice (some ⟨w2.heap.size, 0, none⟩) m m] 23)) (.cells #[.pointer (some ⟨ob, 0, none⟩)] 22)
      rwa [World.size_alloc, World.size_alloc] at this
    exact cell_at e rfl
  have HU3 : Hid (U.cell? ⟨q + 1 + 1 + 1, 0, none⟩ = some (.int .i64 (i : Nat))) := by
    show _ = _
    have e : U.heap[q + 1 + 1 + 1]? = some (.cells #[.int .i64 (i : Nat)] 3 (0, 0)) := by
      subst hq
      rw [hU]
      have := heap_last (((w2.alloc (.cells (madeCells #[.int .i64 0] m) 3)).alloc (.cells #[.slice (some ⟨w2.heap.size, 0, none⟩) m m] 23)).alloc (.cells #[.pointer (some ⟨ob, 0, none⟩)] 22)) (.cells #[.int .i64 (i : Int)] 3)
      rwa [World.size_alloc, World.size_alloc, World.size_alloc] at this
    exact cell_at e rfl
  rw [← hU]
  rw [hq]
  have hML := HMM.out
  have HHI : Hid (i < M.length) := by show _ < _; rw [hML]; exact hi
  clear hU hB2U hq HLN HW2 HB2
  refine rangeFunc_brk rfl h1 (gf := 73) (lb := #[.pointer (some ⟨q + 1 + 1, 0, none⟩), .pointer (some ⟨q + 1 + 1 + 1, 0, none⟩)]) rfl trivial (enters_of Try.func73 (by kernel_rfl) rfl)
    (val := pwV A.k.toNat N i) (S := (fun b => b < q + 4 ∧ b ≠ q ∧ b ≠ w.heap.size ∧ b ≠ w.heap.size + 1)) (N := M.length + 1) (w0 := U) (fun b hb => by omega)
    (powers_at (n - 1) (by omega) (q + 1 + 1) (q + 1 + 1 + 1) ob i A M N _ U (fun W hk => HM0.out.below (hk.base HBU.out (fun b hb => ⟨by omega, by omega, by omega, by omega⟩))) HHI.out HU2.out HU3.out ⟨by omega, by omega, by omega, by omega⟩ ⟨by omega, by omega, by omega, by omega⟩ (fun b hb => by omega)) (KS.refl _ _) (fun _ => rfl) 0
    (fun j W => KS (fun b => b < q + 4 ∧ b ≠ q ∧ b ≠ w.heap.size ∧ b ≠ w.heap.size + 1) U W ∧ W.heap[w.heap.size]? = some (.cells #[.int .i64 0] 3 (0, 0)) ∧ W.heap[w.heap.size + 1]? = some (.cells #[.int .i64 0] 3 (0, 0)) ∧ ∃ cs : List Nat, W.heap[q]? = some (.cells (nC cs).toArray 3 (0, 0)) ∧ Met A.k.toNat N i m j cs)
    (fun _ W => KS (fun b => b < q + 4 ∧ b ≠ q ∧ b ≠ w.heap.size ∧ b ≠ w.heap.size + 1) U W ∧ ∃ t r : Nat, W.heap[w.heap.size]? = some (.cells #[.int .i64 (t : Int)] 3 (0, 0)) ∧ W.heap[w.heap.size + 1]? = some (.cells #[.int .i64 (r : Int)] 3 (0, 0)) ∧ TR (rm A.k.toNat N i) 0 t r ∧ t < 1000 ∧ r < 1000)
    ?own1 ?own2 ?bel ?start (fun j a' W => (KS (fun b => b < q + 4 ∧ b ≠ q ∧ b ≠ w.heap.size ∧ b ≠ w.heap.size + 1) U W ∧ W.heap[w.heap.size]? = some (.cells #[.int .i64 0] 3 (0, 0)) ∧ W.heap[w.heap.size + 1]? = some (.cells #[.int .i64 0] 3 (0, 0)) ∧ ∃ cs : List Nat, W.heap[q]? = some (.cells (nC cs).toArray 3 (0, 0)) ∧ Met A.k.toNat N i m j cs) ∧ a' = { tmps := #[.pointer (some ⟨ob, 0, none⟩), .int .i64 (i : Nat), undef, undef, .pointer (some ⟨w.heap.size, 0, none⟩), .pointer (some ⟨w.heap.size + 1, 0, none⟩), .pointer (some ⟨q + 1, 0, none⟩), .int .i64 (j : Nat), .int .i64 (pwN A.k.toNat N i j : Nat), .pointer (some ⟨ob, 0, none⟩), .int .i64 (m : Nat), .slice (some ⟨q, 0, none⟩) m m, .pointer (some ⟨ob, 0, none⟩), .int .i64 (i : Nat), .func (.func 73) #[] #[.pointer (some ⟨q + 1 + 1, 0, none⟩), .pointer (some ⟨q + 1 + 1 + 1, 0, none⟩)], .int .i64 (j : Nat), .int .i64 (pwN A.k.toNat N i j : Nat), undef, undef, undef, undef, undef, undef, undef, undef, undef, undef, undef, undef, undef, undef, undef, undef, undef, undef, undef, undef], defers := [] }) ?own3 ?assign ?body ?done ?stop
  case own1 =>
    rintro j W W' row ⟨hk, hb1, hb2, cs, hcs, hm⟩ hg hr
    have hz := hk.size
    have hg' : ∀ b, b < q + 2 → W'.heap[b]? = W.heap[b]? := fun b hb => hg.block b (by omega) (fun e => by have := (hr b e.symm).1; omega)
    exact ⟨hk.grown hg (fun k e => by have := (hr k e).1; omega) (fun b hb => by omega), (hg' _ (by omega)).trans hb1, (hg' _ (by omega)).trans hb2, cs, (hg' _ (by omega)).trans hcs, hm⟩
  case own2 =>
    rintro j W W' row ⟨hk, t, r, hb1, hb2, hR⟩ hg hr
    have hz := hk.size
    have hg' : ∀ b, b < q + 2 → W'.heap[b]? = W.heap[b]? := fun b hb => hg.block b (by omega) (fun e => by have := (hr b e.symm).1; omega)
    exact ⟨hk.grown hg (fun k e => by have := (hr k e).1; omega) (fun b hb => by omega), t, r, (hg' _ (by omega)).trans hb1, (hg' _ (by omega)).trans hb2, hR⟩
  case bel =>
    rintro j W1 W' hz ⟨hk, hb1, hb2, cs, hcs, hm⟩ hbl
    exact ⟨hk.trans (KS.below (fun b hb => by omega) hbl), (hbl.block _ (by omega)).trans hb1, (hbl.block _ (by omega)).trans hb2, cs, (hbl.block _ (by omega)).trans hcs, hm⟩
  case start => exact ⟨KS.refl _ _, HUa.out, HUb.out, _, HU0.out, Met.start _ _ _ _⟩
  case own3 =>
    rintro j a' _ W W' row ⟨⟨hk, hb1, hb2, cs, hcs, hm⟩, e⟩ hg hr
    have hz := hk.size
    have hg' : ∀ b, b < q + 2 → W'.heap[b]? = W.heap[b]? := fun b hb => hg.block b (by omega) (fun e => by have := (hr b e.symm).1; omega)
    exact ⟨⟨hk.grown hg (fun k e => by have := (hr k e).1; omega) (fun b hb => by omega), (hg' _ (by omega)).trans hb1, (hg' _ (by omega)).trans hb2, cs, (hg' _ (by omega)).trans hcs, hm⟩, e⟩
  case assign =>
    intro l j W K hj hI hks hK
    have HK : Hid _ := hK
    have HI : Hid _ := hI
    unfold pwV
    clear hK hI hks hj
    gi_wp2
    exact HK.out _ _ ⟨Nat.le_refl _, fun k o _ hk ho => hk⟩ (KS.refl _ _) ⟨HI.out, rfl⟩
  case body =>
    rintro l j a' W hj ⟨⟨hk, hb1, hb2, cs, hcs, hmet⟩, rfl⟩ hks
    have hz := hk.size
    have HK : Hid (KS (fun b => b < q + 4 ∧ b ≠ q ∧ b ≠ w.heap.size ∧ b ≠ w.heap.size + 1) U W) := hk
    have HA : Hid (W.heap[w.heap.size]? = some (.cells #[.int .i64 0] 3 (0, 0))) := hb1
    have HB : Hid (W.heap[w.heap.size + 1]? = some (.cells #[.int .i64 0] 3 (0, 0))) := hb2
    have HCS : Hid (W.heap[q]? = some (.cells (nC cs).toArray 3 (0, 0))) := hcs
    have HMT : Hid (Met A.k.toNat N i m j cs) := hmet
    have hc6 : W.cell? ⟨q + 1, 0, none⟩ = some (.slice (some ⟨q, 0, none⟩) m m) := by
      rw [World.cell?_of_block (a := ⟨q + 1, 0, none⟩) (hk.block (q + 1) ⟨by omega, by omega, by omega, by omega⟩)]; exact HU1.out
    have HLT : Hid (j < M.length + 1) := hj
    obtain ⟨p, hp⟩ : ∃ p, pwN A.k.toNat N i j = p := ⟨_, rfl⟩
    have HP : Hid (pwN A.k.toNat N i j = p) := hp
    have hpl : p < m := by rw [← hp, ← hML]; exact HMon.out.pw_lt HHI.out j
    have hpI : (p : Int) < (m : Int) := by omega
    have hjm : j ≤ 512 := by omega
    obtain ⟨v, hv⟩ : ∃ v, cs[p]? = some v := ⟨_, List.getElem?_eq_getElem (by rw [hmet.len]; exact hpl)⟩
    have hcv : W.cell? ⟨q, p, none⟩ = some (.int .i64 (v : Nat)) := by
      rw [cell_of_row _ _ _ _ _ _ hcs]
      simp [nC, hv]
    have HV : Hid (cs[p]? = some v) := hv
    rw [hp]
    clear hk hb1 hb2 hcs hks hv hp hmet
    by_cases hv0 : v = 0
    · subst hv0
      have hwj : IntKind.i64.wrap ((j : Int) + 1) = ((j + 1 : Nat) : Int) := by rw [IntKind.wrap_i64]; omega
      have hfq : W.frozen? ⟨q, p, none⟩ = false := frz_at HCS.out
      have HST : Hid ((W.setCell ⟨q, p, none⟩ (.int .i64 ((j + 1 : Nat) : Int))).heap[q]? = some (.cells (nC (cs.set p (j + 1))).toArray 3 (0, 0))) := by
        show _ = _
        have e : (nC (cs.set p (j + 1))).toArray = (nC cs).toArray.setIfInBounds p (.int .i64 ((j + 1 : Nat) : Int)) := by
          apply Array.ext'
          simp [nC, List.map_set]
        rw [e]
        exact heap_set HCS.out
      obtain ⟨j1, hj1⟩ : ∃ j1, j + 1 = j1 := ⟨_, rfl⟩
      have HJ1 : Hid (j + 1 = j1) := hj1
      rw [hj1] at hwj HST
      clear hj1
      gi_wp2
      refine ⟨⟨by simp [World.setCell], fun k o hk1 hk ho => ?_⟩, (KS.refl _ _).set (by omega), HK.out.set (by omega), ?_, ?_, _, HST.out, ?_⟩
      · rw [heap_set_other (fun e => by omega)]
        exact hk
      · rw [heap_set_other (fun e => by omega)]; exact HA.out
      · rw [heap_set_other (fun e => by omega)]; exact HB.out
      · have q1 := HMT.out
        have q2 := q1.next (by rw [HP.out]; exact hpl) (by rw [HP.out]; exact HV.out)
        rw [HP.out, HJ1.out] at q2
        rw [HJ1.out]
        exact q2
    · have F := HMT.out.found (v := v) (by rw [HP.out]; exact HV.out) hv0
      have HTR : Hid (TR (rm A.k.toNat N i) 0 (v - 1) (j - (v - 1))) := F.2.2
      have hvj := F.1
      have hv1 := F.2.1
      have hvI : (0 : Int) < (v : Int) := by omega
      have hvd : decide ((0 : Int) < (v : Int)) = true := decide_eq_true hvI
      obtain ⟨t, ht⟩ : ∃ t, v - 1 = t := ⟨_, rfl⟩
      obtain ⟨r, hr⟩ : ∃ r, j - t = r := ⟨_, rfl⟩
      rw [ht, hr] at HTR
      have hw1 : IntKind.i64.wrap ((v : Int) - 1) = (t : Int) := by rw [IntKind.wrap_i64]; omega
      have hw2 : IntKind.i64.wrap ((j : Int) - (t : Int)) = (r : Int) := by rw [IntKind.wrap_i64]; omega
      have hca : W.cell? ⟨w.heap.size, 0, none⟩ = some (.int .i64 0) := cell_at HA.out rfl
      have hfa : W.frozen? ⟨w.heap.size, 0, none⟩ = false := frz_at HA.out
      have HA1 : Hid ((W.setCell ⟨w.heap.size, 0, none⟩ (.int .i64 (t : Int))).heap[w.heap.size]? = some (.cells #[.int .i64 (t : Int)] 3 (0, 0))) := heap_set HA.out
      have HB1 : Hid ((W.setCell ⟨w.heap.size, 0, none⟩ (.int .i64 (t : Int))).heap[w.heap.size + 1]? = some (.cells #[.int .i64 0] 3 (0, 0))) := by show _ = _; rw [heap_set_other (fun e => by omega)]; exact HB.out
      have hcb : (W.setCell ⟨w.heap.size, 0, none⟩ (.int .i64 (t : Int))).cell? ⟨w.heap.size + 1, 0, none⟩ = some (.int .i64 0) := cell_at HB1.out rfl
      have hfb : (W.setCell ⟨w.heap.size, 0, none⟩ (.int .i64 (t : Int))).frozen? ⟨w.heap.size + 1, 0, none⟩ = false := frz_at HB1.out
      have hca1 : (W.setCell ⟨w.heap.size, 0, none⟩ (.int .i64 (t : Int))).cell? ⟨w.heap.size, 0, none⟩ = some (.int .i64 (t : Int)) := cell_at HA1.out rfl
      have HTR2 : Hid (t < 1000 ∧ r < 1000) := by show _ ∧ _; omega
      clear F ht hr
      gi_wp2
      refine ⟨rfl, ⟨by simp [World.setCell], fun k o hk1 hk ho => ?_⟩, (HK.out.set (by omega)).set (by omega), t, r, ?_, heap_set HB1.out, HTR.out, HTR2.out⟩
      · rw [heap_set_other (fun e => by omega), heap_set_other (fun e => by omega)]
        exact hk
      · rw [heap_set_other (fun e => by omega)]; exact HA1.out
  case done =>
    rintro D W hD ⟨hk, hb1, hb2, cs, hcs, hmet⟩ hK
    rw [← hML] at hmet
    exact (hmet.done HMon.out HHI.out).elim
  case stop =>
    rintro D W hD ⟨hk, t, r, hb1, hb2, hR, hsm⟩ hKD
    have hz := hk.size
    have HK : Hid (KS (fun b => b < q + 4 ∧ b ≠ q ∧ b ≠ w.heap.size ∧ b ≠ w.heap.size + 1) U W) := hk
    have HX : Hid (TR (rm A.k.toNat N i) 0 t r) := hR
    have HKD : Hid (W.heap[D]? = some (.deferred (some []))) := hKD
    have HA : Hid (W.heap[w.heap.size]? = some (.cells #[.int .i64 (t : Int)] 3 (0, 0))) := hb1
    have HB : Hid (W.heap[w.heap.size + 1]? = some (.cells #[.int .i64 (r : Int)] 3 (0, 0))) := hb2
    have hca : W.cell? ⟨w.heap.size, 0, none⟩ = some (.int .i64 (t : Int)) := cell_at hb1 rfl
    have hcb : W.cell? ⟨w.heap.size + 1, 0, none⟩ = some (.int .i64 (r : Int)) := cell_at hb2 rfl
    have HA1 : Hid ((W.setCell ⟨w.heap.size, 0, none⟩ (.int .i64 (t : Int))).drew.heap[w.heap.size]? = some (.cells #[.int .i64 (t : Int)] 3 (0, 0))) := heap_set HA.out
    have HB1 : Hid ((W.setCell ⟨w.heap.size, 0, none⟩ (.int .i64 (t : Int))).drew.heap[w.heap.size + 1]? = some (.cells #[.int .i64 (r : Int)] 3 (0, 0))) := by show (W.setCell ⟨w.heap.size, 0, none⟩ (.int .i64 (t : Int))).heap[w.heap.size + 1]? = _; rw [heap_set_other (fun e => by omega)]; exact HB.out
    have d1 : W.drew.cell? ⟨w.heap.size, 0, none⟩ = some (.int .i64 (t : Int)) := hca
    have d2 : W.drew.cell? ⟨w.heap.size + 1, 0, none⟩ = some (.int .i64 (r : Int)) := hcb
    have d3 : W.drew.frozen? ⟨w.heap.size, 0, none⟩ = false := frz_at (w := W.drew) HA.out
    have d4 : (W.setCell ⟨w.heap.size, 0, none⟩ (.int .i64 (t : Int))).drew.cell? ⟨w.heap.size + 1, 0, none⟩ = some (.int .i64 (r : Int)) := cell_at HB1.out rfl
    have d5 : (W.setCell ⟨w.heap.size, 0, none⟩ (.int .i64 (t : Int))).drew.frozen? ⟨w.heap.size + 1, 0, none⟩ = false := frz_at HB1.out
    clear hk hb1 hb2 hR hKD hca hcb
    gi_wp2
    gi_region
    gi_wp2
    obtain ⟨Z, hZ⟩ : ∃ Z, ((W.setCell ⟨w.heap.size, 0, none⟩ (.int .i64 (t : Int))).setCell ⟨w.heap.size + 1, 0, none⟩ (.int .i64 (r : Int))).drew = Z := ⟨_, rfl⟩
    have hZD : Z.heap[D]? = some (.deferred (some [])) := by
      rw [← hZ]
      show ((W.setCell ⟨w.heap.size, 0, none⟩ (.int .i64 (t : Int))).setCell ⟨w.heap.size + 1, 0, none⟩ (.int .i64 (r : Int))).heap[D]? = _
      rw [heap_set_other (fun e => by omega), heap_set_other (fun e => by omega)]
      exact HKD.out
    have hZa : Z.cell? ⟨w.heap.size, 0, none⟩ = some (.int .i64 (t : Int)) := by
      rw [← hZ]
      have e : ((W.setCell ⟨w.heap.size, 0, none⟩ (.int .i64 (t : Int))).setCell ⟨w.heap.size + 1, 0, none⟩ (.int .i64 (r : Int))).drew.heap[w.heap.size]? = some (.cells #[.int .i64 (t : Int)] 3 (0, 0)) := by
        show ((W.setCell ⟨w.heap.size, 0, none⟩ (.int .i64 (t : Int))).setCell ⟨w.heap.size + 1, 0, none⟩ (.int .i64 (r : Int))).heap[w.heap.size]? = _
        rw [heap_set_other (fun e => by omega)]
        exact HA1.out
      exact cell_at e rfl
    have hZb : Z.cell? ⟨w.heap.size + 1, 0, none⟩ = some (.int .i64 (r : Int)) := by
      rw [← hZ]
      have e : ((W.setCell ⟨w.heap.size, 0, none⟩ (.int .i64 (t : Int))).setCell ⟨w.heap.size + 1, 0, none⟩ (.int .i64 (r : Int))).drew.heap[w.heap.size + 1]? = some (.cells #[.int .i64 (r : Int)] 3 (0, 0)) := heap_set (w := W.setCell ⟨w.heap.size, 0, none⟩ (.int .i64 (t : Int))) HB1.out
      exact cell_at e rfl
    have hBZ : Below w.heap.size w Z := by
      have b0 := HK.out.base HBU.out (fun b hb => ⟨by omega, by omega, by omega, by omega⟩)
      have b1 := (b0.setCell (p := ⟨w.heap.size, 0, none⟩) (Nat.le_refl _) (.int .i64 (t : Int))).setCell (p := ⟨w.heap.size + 1, 0, none⟩) (by show w.heap.size ≤ w.heap.size + 1; omega) (.int .i64 (r : Int))
      rw [← hZ]
      exact b1.drew
    rw [hZ]
    refine ⟨by simp, .inl ⟨_, _, rfl, run_takeDeferred hZD, ?_⟩⟩
    have hP : ∀ b, b ≠ D → (Z.putObj D (.deferred none)).heap[b]? = Z.heap[b]? := fun b hb => World.putObj_heap_other hb
    refine ⟨_, results_int2 rfl rfl rfl (by rw [World.cell?_of_block (hP _ (by show w.heap.size ≠ D; omega))]; exact hZa) (by rw [World.cell?_of_block (hP _ (by show w.heap.size + 1 ≠ D; omega))]; exact hZb), ⟨t, r, rfl, HX.out⟩, ?_⟩
    exact hBZ.grown (grownBy_putObj' Z D _) (by have := hBZ.size; omega) (fun k e => by cases e; omega)

theorem cycle_any {w : World} {ob : Nat} {A : Aut} {M : List (List Nat)} {N : List Nat} (h : MO w ob A M N) (i : Nat) (hi : i < M.length) :
    Calls Try.prog 51 #[.pointer (some ⟨ob, 0, none⟩), .int .i64 i] w fun e w' => (∃ t r : Nat, e = .returned (.tuple #[.int .i64 (t : Nat), .int .i64 (r : Nat)]) ∧ TR (rm A.k.toNat N i) 0 t r) ∧ Below w.heap.size w w' :=
  callsIn_wide.1 (cycle_in 3 (by omega) h i hi)

set_option maxHeartbeats 1000000 in
set_option maxRecDepth 100000 in
theorem iCycle_any {w : World} {ob : Nat} {A : Aut} {M : List (List Nat)} {N : List Nat} (h : MO w ob A M N) (i : Nat) (hi : i < M.length) :
    Calls Try.prog 17 #[.pointer (some ⟨ob, 0, none⟩), .int .i64 i] w fun e w' => (∃ t r : Nat, e = .returned (.tuple #[.int .i64 (t : Nat), .int .i64 (r : Nat), .int .i64 0]) ∧ TR (rm A.k.toNat N i) 0 t r) ∧ Below w.heap.size w w' := by
  have HC : Hid _ := icheck_one h i
  rw [if_pos (show hasE M.length (i : Int) = true from decide_eq_true ⟨by omega, by omega⟩)] at HC
  have HB1 : Hid (Below w.heap.size w (w.alloc (.cells #[.int .i64 (i : Int)] 3))) := below_new _ _
  have HY : Hid _ := cycle_any (h.below HB1.out) i hi
  clear h
  go_enter Try.func17, Try.ntmps17
  go_wp2_with fail
  refine Calls.mono HC.out ?_
  rintro e w1 ⟨rfl, rfl⟩
  go_wp2_with fail
  refine Calls.mono HY.out ?_
  rintro e w2 ⟨⟨t, r, rfl, hR⟩, hb⟩
  have HR : Hid (TR (rm A.k.toNat N i) 0 t r) := hR
  have HB : Hid (Below w.heap.size w w2) := go_on HB1.out hb
  clear hb hR
  go_wp2_with fail
  go_ret3
  exact ⟨⟨t, r, rfl, HR.out⟩, HB.out⟩

set_option maxHeartbeats 1000000 in
set_option maxRecDepth 100000 in
theorem iCycle_not {w : World} {ob : Nat} {A : Aut} {M : List (List Nat)} {N : List Nat} (h : MO w ob A M N) (i : Int) (hi : ¬ hasE M.length i = true) :
    Calls Try.prog 17 #[.pointer (some ⟨ob, 0, none⟩), .int .i64 i] w fun e w' => e = .returned (.tuple #[.int .i64 0, .int .i64 0, .int .i64 11]) ∧ Below w.heap.size w w' := by
  have HC : Hid _ := icheck_one h i
  rw [if_neg hi] at HC
  have HB1 : Hid (Below w.heap.size w (w.alloc (.cells #[.int .i64 i] 3))) := below_new _ _
  clear h
  go_enter Try.func17, Try.ntmps17
  go_wp2_with fail
  refine Calls.mono HC.out ?_
  rintro e w1 ⟨rfl, rfl⟩
  go_wp2_with fail
  go_ret3
  exact ⟨rfl, HB1.out⟩
end Go.Proofs.Ytflclnkaccbfcaa

namespace Go.Proofs.Ytflclnkaccbfcaa
open Go Go.RowKit Go.Lib
set_option linter.unusedVariables false
attribute [-instance] List.instBEq instBEqProd

set_option maxHeartbeats 1000000 in
set_option maxRecDepth 100000 in
theorem idivisor_any (a b : Nat) (w : World) (ha : a ≤ 9223372036854775807) (hb : b ≤ 9223372036854775807) :
    Calls Try.prog 75 #[.int .i64 a, .int .i64 b] w fun e w' => e = .returned (.int .i64 (Nat.gcd a b : Nat)) ∧ Below w.heap.size w w' := by
  go_enter Try.func75, Try.ntmps75
  go_wp2
  go_loopw [0, 1] (fun x y wr => ∃ p q : Nat, x = .int .i64 p ∧ y = .int .i64 q ∧ p ≤ 9223372036854775807 ∧ q ≤ 9223372036854775807 ∧ Nat.gcd p q = Nat.gcd a b ∧ Below w.heap.size w wr) (fun _ y _ => (Go.Lib.intOf y).toNat)
  case atStart => exact ⟨a, b, rfl, rfl, ha, hb, rfl, Below.refl _ _⟩
  case round =>
    obtain ⟨p, q, rfl, rfl, hp, hq, hg, hB⟩ := hrel
    have HG : Hid (Nat.gcd p q = Nat.gcd a b) := hg
    have HB : Hid (Below w.heap.size w wr) := hB
    have HB2 : Hid (Below w.heap.size w wr.drew) := hB.drew
    clear hg hB
    by_cases h : 0 < q
    · have hm : p % q < q := Nat.mod_lt _ h
      have hq0 : ((q : Int) == 0) = false := by rw [beq_eq_false_iff_ne]; omega
      have hq1 : ((q : Int) != 0) = true := by rw [bne_iff_ne]; omega
      have hq2 : ¬ (q : Int) = 0 := by omega
      have hq3 : (0 : Int) < (q : Int) := by omega
      have htm : (p : Int).tmod q = ((p % q : Nat) : Int) := by rw [Int.tmod_eq_emod_of_nonneg (by omega)]; omega
      have hwm : IntKind.i64.wrap ((p % q : Nat) : Int) = ((p % q : Nat) : Int) := by rw [IntKind.wrap_i64]; omega
      obtain ⟨z, hzE⟩ : ∃ z, p % q = z := ⟨_, rfl⟩
      have HZE : Hid (p % q = z) := hzE
      rw [hzE] at htm hwm hm
      clear hzE
      go_wp2_with fail
      go_region
      all_goals go_wp2_with fail
      all_goals go_roundw
      all_goals first
        | exact ⟨q, z, rfl, rfl, hq, by omega, by rw [← HG.out, ← HZE.out, Nat.gcd_comm p q, Nat.gcd_rec q p, Nat.gcd_comm], HB2.out⟩
        | (simp [Go.Lib.intOf]; omega)
    · have : q = 0 := by omega
      subst this
      go_wp2
      go_ret
      exact ⟨by have := HG.out; rw [Nat.gcd_zero_right] at this; rw [this]; rfl, HB.out⟩

set_option maxHeartbeats 1000000 in
set_option maxRecDepth 100000 in
theorem imultiple_any (a b : Nat) (w : World) (ha : 1 ≤ a) (ha2 : a ≤ 9223372036854775807) (hb : b ≤ 9223372036854775807) (hl : Nat.lcm a b ≤ 9223372036854775807) :
    Calls Try.prog 53 #[.int .i64 a, .int .i64 b] w fun e w' => e = .returned (.int .i64 (Nat.lcm a b : Nat)) ∧ Below w.heap.size w w' := by
  have HD : Hid _ := idivisor_any a b w ha2 hb
  have hg1 : 1 ≤ Nat.gcd a b := Nat.gcd_pos_of_pos_left b ha
  have hle := lcm_eq a b
  obtain ⟨g, hg⟩ : ∃ g, Nat.gcd a b = g := ⟨_, rfl⟩
  rw [hg] at HD hg1 hle
  obtain ⟨m, hm⟩ : ∃ m, Nat.lcm a b = m := ⟨_, rfl⟩
  rw [hm] at hle hl ⊢
  obtain ⟨d, hd⟩ : ∃ d, a / g = d := ⟨_, rfl⟩
  rw [hd] at hle
  have hda : d ≤ a := by rw [← hd]; exact Nat.div_le_self _ _
  have hg2 : ¬ (g : Int) = 0 := by omega
  have hg0 : ((g : Int) == 0) = false := by rw [beq_eq_false_iff_ne]; omega
  have hq : (a : Int).tdiv g = (d : Int) := by rw [Int.tdiv_eq_ediv_of_nonneg (by omega), ← hd]; rfl
  have hwd : IntKind.i64.wrap (d : Int) = (d : Int) := by rw [IntKind.wrap_i64]; omega
  have hmu : (d : Int) * (b : Int) = (m : Int) := by rw [← hle]; push_cast; rfl
  have hwm : IntKind.i64.wrap (m : Int) = (m : Int) := by rw [IntKind.wrap_i64]; omega
  clear hg hm hd hle
  go_enter Try.func53, Try.ntmps53
  go_wp2_with fail
  refine Calls.mono HD.out ?_
  rintro e w1 ⟨rfl, hb1⟩
  have HB : Hid (Below w.heap.size w w1) := hb1
  clear hb1
  go_wp2_with fail
  go_ret
  exact ⟨rfl, HB.out⟩

/-- The least common multiple of the first i elements' periods, and their greatest index (at least 1). -/
structure ExI (K : Nat) (N : List Nat) (i s l : Nat) : Prop where
  dvd : ∀ E, s ∣ E ↔ ∀ k, k < i → ∀ t r, TR (rm K N k) 0 t r → r ∣ E
  max : ∀ b, l ≤ b ↔ 1 ≤ b ∧ ∀ k, k < i → ∀ t r, TR (rm K N k) 0 t r → t ≤ b

theorem ExI.start (K : Nat) (N : List Nat) : ExI K N 0 1 1 := ⟨fun E => ⟨fun _ k h => by omega, fun _ => Nat.one_dvd _⟩, fun b => ⟨fun h => ⟨h, fun k h => by omega⟩, fun h => h.1⟩⟩

theorem ExI.next {K : Nat} {N : List Nat} {i s l t r : Nat} (h : ExI K N i s l) (R : TR (rm K N i) 0 t r) : ExI K N (i + 1) (Nat.lcm s r) (Nat.max l t) := by
  refine ⟨fun E => ?_, fun b => ?_⟩
  · rw [lcm_dvd_iff, h.dvd]
    constructor
    · rintro ⟨h1, h2⟩ k hk t' r' R'
      by_cases e : k = i
      · subst e
        rw [(R'.uniq R).2]; exact h2
      · exact h1 k (by omega) t' r' R'
    · intro H
      exact ⟨fun k hk => H k (by omega), H i (by omega) t r R⟩
  · have e : Nat.max l t ≤ b ↔ l ≤ b ∧ t ≤ b := Nat.max_le
    rw [e, h.max]
    constructor
    · rintro ⟨⟨h0, h1⟩, h2⟩
      refine ⟨h0, fun k hk t' r' R' => ?_⟩
      by_cases e : k = i
      · subst e
        rw [(R'.uniq R).1]; exact h2
      · exact h1 k (by omega) t' r' R'
    · rintro ⟨h0, H⟩
      exact ⟨⟨h0, fun k hk => H k (by omega)⟩, H i (by omega) t r R⟩

theorem ExI.uniq {K : Nat} {N : List Nat} {i s l s' l' : Nat} (h : ExI K N i s l) (g : ExI K N i s' l') : s = s' ∧ l = l' :=
  ⟨Nat.dvd_antisymm ((h.dvd _).2 ((g.dvd _).1 (Nat.dvd_refl _))) ((g.dvd _).2 ((h.dvd _).1 (Nat.dvd_refl _))), Nat.le_antisymm ((h.max _).2 ((g.max _).1 (Nat.le_refl _))) ((g.max _).2 ((h.max _).1 (Nat.le_refl _)))⟩

theorem ExI.small {A : Aut} {M : List (List Nat)} {N : List Nat} (hm : Mon A M N) {i s l : Nat} (h : ExI A.k.toNat N i s l) (hi : i ≤ M.length) : 1 ≤ s ∧ s ≤ 363812868619200 ∧ 1 ≤ l ∧ l ≤ 512 := by
  obtain ⟨D, d1, d2, d3⟩ := hm.per_all
  have hd := (h.dvd D).2 (fun k hk t r R => d3 k t r (by omega) R)
  have hs := Nat.le_of_dvd (by omega) hd
  refine ⟨Nat.pos_of_dvd_of_pos hd (by omega), by omega, ((h.max l).1 (Nat.le_refl _)).1, (h.max 512).2 ⟨by omega, fun k hk t r R => ?_⟩⟩
  have := R.le (hm.rm_lt (by omega)) hm.pos
  have := hm.most
  omega

/-- The least multiple of s that is no less than l. -/
def exV (s l : Nat) : Nat := (l + s - 1) / s * s

theorem exV_facts {s l : Nat} (hs : 1 ≤ s) (hl : 1 ≤ l) : l ≤ exV s l ∧ 1 ≤ exV s l ∧ exV s l ≤ l + s ∧ s ∣ exV s l := by
  unfold exV
  have h1 := Nat.mod_add_div (l + s - 1) s
  have h2 := Nat.mod_lt (l + s - 1) hs
  rw [Nat.mul_comm] at h1
  exact ⟨by omega, by omega, by omega, Nat.dvd_mul_left _ _⟩

set_option maxHeartbeats 4000000 in
set_option maxRecDepth 100000 in
theorem iExponent_any {w : World} {ob : Nat} {A : Aut} {M : List (List Nat)} {N : List Nat} (h : MO w ob A M N) :
    Calls Try.prog 19 #[.pointer (some ⟨ob, 0, none⟩)] w fun e w' => (∃ s l, ExI A.k.toNat N M.length s l ∧ e = .returned (.tuple #[.int .i64 (exV s l : Nat), .int .i64 0])) ∧ Below w.heap.size w w' := by
  have HM : Hid (MO w ob A M N) := h
  have HMon : Hid (Mon A M N) := h.mon
  have hms := h.mon.most
  clear h
  go_enter Try.func19, Try.ntmps19
  go_wp2_with fail
  refine (icheck_none HM.out).mono ?_
  rintro e w1 ⟨rfl, rfl⟩
  go_wp2_with fail
  refine (mlen_any HM.out).mono ?_
  rintro e w1 ⟨rfl, rfl⟩
  go_wp2_with fail
  go_loopw [5, 6, 17] (fun vs vl vi wr => ∃ i s l : Nat, i ≤ M.length ∧ vi = .int .i64 (i : Nat) ∧ vs = .int .i64 (s : Nat) ∧ vl = .int .i64 (l : Nat) ∧ ExI A.k.toNat N i s l ∧ Below w.heap.size w wr) (fun _ _ vi _ => M.length - (Go.Lib.intOf vi).toNat)
  case atStart => exact ⟨0, 1, 1, Nat.zero_le _, rfl, rfl, rfl, ExI.start _ _, Below.refl _ _⟩
  case round =>
    obtain ⟨i, s, l, hi, rfl, rfl, rfl, hx, hb⟩ := hrel
    have HX : Hid (ExI A.k.toNat N i s l) := hx
    have HB : Hid (Below w.heap.size w wr) := hb
    have hsm := hx.small HMon.out hi
    clear hx hb
    by_cases hlt : i < M.length
    · have hiI : (i : Int) < M.length := by omega
      have HLT : Hid (i < M.length) := hlt
      go_wp2_with fail
      refine (cycle_any (HM.out.below HB.out) i HLT.out).mono ?_
      rintro e w2 ⟨⟨t, r, rfl, hR⟩, hb⟩
      have HB2 : Hid (Below w.heap.size w w2) := go_on HB.out hb
      have hX2 := HX.out.next hR
      have hsm2 := hX2.small HMon.out (show i + 1 ≤ M.length from hlt)
      have hle := hR.le (HMon.out.rm_lt hlt) HMon.out.pos
      have HX2 : Hid (ExI A.k.toNat N (i + 1) (Nat.lcm s r) (Nat.max l t)) := hX2
      have HMU : Hid (Calls Try.prog 53 #[.int .i64 (s : Nat), .int .i64 (r : Nat)] w2 fun e w' => e = .returned (.int .i64 (Nat.lcm s r : Nat)) ∧ Below w2.heap.size w2 w') := imultiple_any s r w2 (by omega) (by omega) (by omega) (by omega)
      have hmx : max (l : Int) (t : Int) = ((Nat.max l t : Nat) : Int) := by show _ = ((max l t : Nat) : Int); omega
      obtain ⟨l2, hl2⟩ : ∃ l2, Nat.max l t = l2 := ⟨_, rfl⟩
      obtain ⟨s2, hs2⟩ : ∃ s2, Nat.lcm s r = s2 := ⟨_, rfl⟩
      rw [hl2] at HX2 hmx
      rw [hs2] at HX2 HMU
      clear hb hR hX2 hsm2 hle hlt hl2 hs2 hsm
      go_wp2_with fail
      refine HMU.out.mono ?_
      rintro e w3 ⟨rfl, hb⟩
      have HB3 : Hid (Below w.heap.size w w3) := go_on HB2.out hb
      clear hb
      go_wp2_with fail
      go_roundw
      case rel => exact ⟨i + 1, s2, l2, HLT.out, by go_num, rfl, rfl, HX2.out, HB3.out⟩
      case measure => have := HLT.out; simp [Go.Lib.intOf]; omega
    · have hiI : ¬ (i : Int) < M.length := by omega
      have e : i = M.length := by omega
      have HX' : Hid (ExI A.k.toNat N M.length s l) := by show ExI _ _ _ _ _; rw [← e]; exact HX.out
      have hf := exV_facts hsm.1 hsm.2.2.1
      have hw1 : IntKind.i64.wrap ((l : Int) + (s : Int)) = ((l + s : Nat) : Int) := by rw [IntKind.wrap_i64]; omega
      have hw2 : IntKind.i64.wrap (((l + s : Nat) : Int) - 1) = ((l + s - 1 : Nat) : Int) := by rw [IntKind.wrap_i64]; omega
      obtain ⟨a, ha⟩ : ∃ a, l + s - 1 = a := ⟨_, rfl⟩
      obtain ⟨b, hb2⟩ : ∃ b, l + s = b := ⟨_, rfl⟩
      obtain ⟨c, hc⟩ : ∃ c, a / s = c := ⟨_, rfl⟩
      obtain ⟨d, hd⟩ : ∃ d, exV s l = d := ⟨_, rfl⟩
      have HD : Hid (exV s l = d) := hd
      have hcs : c * s = d := by rw [← hd, ← hc, ← ha]; rfl
      have hca : c ≤ a := by rw [← hc]; exact Nat.div_le_self _ _
      rw [hd] at hf
      have hq : (a : Int).tdiv s = (c : Int) := by rw [Int.tdiv_eq_ediv_of_nonneg (by omega), ← hc]; rfl
      have hs0 : ¬ (s : Int) = 0 := by omega
      have hs1 : ((s : Int) == 0) = false := by rw [beq_eq_false_iff_ne]; omega
      have hwc : IntKind.i64.wrap (c : Int) = (c : Int) := by rw [IntKind.wrap_i64]; omega
      have hmu : (c : Int) * (s : Int) = (d : Int) := by rw [← hcs]; push_cast; rfl
      have hwd : IntKind.i64.wrap (d : Int) = (d : Int) := by rw [IntKind.wrap_i64]; omega
      rw [ha] at hw2
      rw [hb2] at hw1 hw2
      clear e hf ha hb2 hc hd hcs hca hsm
      go_wp2_with fail
      go_ret2
      exact ⟨⟨s, l, HX'.out, by rw [HD.out]; rfl⟩, HB.out⟩
end Go.Proofs.Ytflclnkaccbfcaa
