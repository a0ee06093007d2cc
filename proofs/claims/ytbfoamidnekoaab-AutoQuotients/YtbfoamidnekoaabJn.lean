/- auto.firstWays: for each state the first place of Next where it stands. -/
import Derived.Test.YtbfoamidnekoaabJm
namespace Go.Proofs.Ytbfoamidnekoaab
open Go Go.RowKit Go.Shelf Go.Lib
set_option linter.unusedVariables false

attribute [local go_sem] Oper.semAt_some

/-- First places from p on. -/
def fwL (N : Nat) (n : List Nat) (p : Nat) : List Nat := (List.range N).map fun s => if s ∈ n.drop p then p + (n.drop p).idxOf s else 0
theorem fwL_len (N : Nat) (n : List Nat) (p : Nat) : (fwL N n p).length = N := by simp [fwL]
theorem fwL_start (N : Nat) (n : List Nat) : fwL N n n.length = List.replicate N 0 := by
  unfold fwL
  rw [List.drop_length]
  apply List.ext_getElem?
  intro i
  by_cases h : i < N
  · simp [h]
  · simp [h]
theorem fwL_step (N : Nat) (n : List Nat) (p x : Nat) (hp : n[p]? = some x) (hx : x < N) : fwL N n p = (fwL N n (p + 1)).set x p := by
  have hl := (List.getElem?_eq_some_iff.1 hp).1
  have e : n.drop p = x :: n.drop (p + 1) := by
    rw [List.drop_eq_getElem_cons hl]
    rw [List.getElem?_eq_getElem hl, Option.some.injEq] at hp
    rw [hp]
  apply List.ext_getElem?
  intro i
  rw [List.getElem?_set]
  unfold fwL
  by_cases h : i < N
  · simp only [List.getElem?_map, List.getElem?_range h, Option.map_some, List.length_map, List.length_range]
    by_cases c : x = i
    · subst c
      rw [if_pos rfl, if_pos h, e]
      simp
    · rw [if_neg c, e]
      congr 1
      by_cases c2 : i ∈ n.drop (p + 1)
      · rw [if_pos (List.mem_cons_of_mem _ c2), if_pos c2, List.idxOf_cons]
        have : (x == i) = false := by simpa using c
        rw [this]
        simp only [cond_false]
        omega
      · rw [if_neg (fun h2 => ?_), if_neg c2]
        rcases List.mem_cons.1 h2 with h2 | h2
        · exact c h2.symm
        · exact c2 h2
  · rw [List.getElem?_eq_none (by simp; omega)]
    by_cases c : x = i
    · omega
    · rw [if_neg c, List.getElem?_eq_none (by simp; omega)]
theorem fwL_at (N : Nat) (n : List Nat) (s : Nat) (hs : s < N) (hm : s ∈ n) : (fwL N n 0)[s]? = some (n.idxOf s) := by
  unfold fwL
  simp [hs, hm]
/-- Where W' differs from W is at block M alone, and above. -/
structure Ex1 (M : Nat) (W W' : World) : Prop where
  os : W'.os = W.os
  tape : W'.tape = W.tape
  output : W'.output = W.output
  size : W.heap.size ≤ W'.heap.size
  block : ∀ b, b < W.heap.size → b ≠ M → W'.heap[b]? = W.heap[b]?
theorem Ex1.refl (M : Nat) (W : World) : Ex1 M W W := ⟨rfl, rfl, rfl, Nat.le_refl _, fun _ _ _ => rfl⟩
theorem Ex1.grown {M : Nat} {W W1 W2 : World} {row : Option Nat} (h : Ex1 M W W1) (hg : W1.grownBy W2 row) (hr : ∀ k, row = some k → W.heap.size ≤ k) : Ex1 M W W2 :=
  ⟨hg.os.trans h.os, hg.tape.trans h.tape, hg.output.trans h.output, Nat.le_trans h.size hg.size, fun b hb hne => (hg.block b (Nat.lt_of_lt_of_le hb h.size) (fun e => by have := hr b e.symm; omega)).trans (h.block b hb hne)⟩
theorem Ex1.set {M j : Nat} {W W1 : World} (h : Ex1 M W W1) (v : Value) : Ex1 M W (W1.setCell ⟨M, j, none⟩ v) :=
  ⟨h.os, h.tape, h.output, by simpa [World.setCell] using h.size, fun b hb hne => (heap_set_other hne).trans (h.block b hb hne)⟩
theorem Ex1.below {M B : Nat} {w W W1 : World} (h : Ex1 M W W1) (hb : Below B w W) (hM : B ≤ M) (hB : B ≤ W.heap.size) : Below B w W1 :=
  ⟨h.os.trans hb.os, h.tape.trans hb.tape, h.output.trans hb.output, Nat.le_trans hb.size h.size, fun b hlt => (h.block b (by have := hb.size; omega) (by omega)).trans (hb.block b hlt)⟩

set_option maxRecDepth 100000 in
set_option maxHeartbeats 4000000 in
theorem firstWays_in (n : Nat) (hn : 3 ≤ n) (v : Value) (A : Aut) (ns : List Nat) (w : World) (h : AR w v A) (hns : A.nx = ns.map fun (x : Nat) => (x : Int)) (hlt : ∀ x ∈ ns, x < A.ac.length) (hl : ns.length ≤ 32768) (hp : 0 < ns.length) (hN : A.ac.length ≤ 4096) :
    CallsIn Fence.wide n Try.prog 55 #[v] w fun e w' => e = .returned (.slice (some ⟨w.heap.size + 1, 0, none⟩) A.ac.length A.ac.length) ∧ w'.ownsRow w.heap.size 3 1 (.slice (some ⟨w.heap.size + 1, 0, none⟩) A.ac.length A.ac.length) A.ac.length (nC (fwL A.ac.length ns 0)) ∧ Below w.heap.size w w' := by
  have h1 : 1 ≤ n := by omega
  obtain ⟨an, cn, aa, ca, e, hS, _⟩ := h.is
  subst e
  obtain ⟨i0, hi, hz0, hz1, hz2⟩ := info_parts Try.info_int
  have hmk := fun w0 => run_make (P := Try.prog) w0 22 3 i0 (.int .i64 0) Try.underlying22 hi hz0 .i64 .i64 (A.ac.length : Int) (A.ac.length : Int) (by omega) (by omega) (by rw [hz2]; omega) (by omega)
  rw [hz1] at hmk
  simp only [Nat.mul_one] at hmk
  have hlen : A.nx.length = ns.length := by rw [hns]; simp
  obtain ⟨g, o, rfl, hg, _⟩ := hS.int (i := 0) (by omega)
  have HLEN : Hid (A.nx.length = ns.length) := hlen
  have HNS : Hid (∀ p, A.nx.getD p 0 = ((ns.getD p 0 : Nat) : Int)) := fun p => by rw [hns]; simp [List.getD_eq_getElem?_getD, List.getElem?_map]; cases ns[p]? <;> rfl
  have HSR : Hid (SR w (some ⟨g, o, none⟩) (zC A.nx)) := hS
  have HLT : Hid (∀ x ∈ ns, x < A.ac.length) := hlt
  clear hlen hns hS h hlt
  refine callsIn_of_wp_marks Try.func55 rfl trivial ?_ rfl
  simp only [Try.ntmps55, List.size_toArray, List.length_cons, List.length_nil, Nat.reduceAdd, Nat.reduceSub, Array.replicate_succ, Array.replicate_zero, List.push_toArray, List.append_toArray, List.nil_append, List.cons_append]
  gi_wp2
  refine ⟨trivial, ?_⟩
  refine (callsIn_wide.2 (backwardI_any _ _ _ _)).mono ?_
  rintro e w3 ⟨rfl, rfl⟩
  clear hmk
  gi_wp2
  obtain ⟨U, hU⟩ : ∃ U, (((w.alloc (.cells #[.int .i64 A.k, .slice (some ⟨g, o, none⟩) A.nx.length cn, .slice aa A.ac.length ca] 25)).alloc (.cells (madeCells #[.int .i64 0] A.ac.length) 3)).alloc (.cells #[.slice (some ⟨w.heap.size + 1, 0, none⟩) A.ac.length A.ac.length] 22)).alloc (.cells #[.slice (some ⟨g, o, none⟩) A.nx.length cn] 22) = U := ⟨_, rfl⟩
  have hUs : U.heap.size = w.heap.size + 4 := by rw [← hU]; simp
  have HBU : Hid (Below w.heap.size w U) := by
    show Below w.heap.size w U
    rw [← hU]
    exact (((below_new _ _).alloc (by simp) _).alloc (by simp; omega) _).alloc (by simp; omega) _
  have uM : U.ownsRow w.heap.size 3 1 (.slice (some ⟨w.heap.size + 1, 0, none⟩) A.ac.length A.ac.length) A.ac.length (nC (fwL A.ac.length ns ns.length)) := by
    rw [← hU]
    refine World.ownsRow.alloc (World.ownsRow.alloc ?_ _) _
    rw [fwL_start]
    refine ⟨by simp [nC], .inr ⟨w.heap.size + 1, A.ac.length, madeCells #[.int .i64 0] A.ac.length, rfl, by omega, ?_, Nat.le_refl _, by unfold maxLen; omega, ?_, ?_⟩⟩
    · have := heap_alloc_last (w.alloc (.cells #[.int .i64 A.k, .slice (some ⟨g, o, none⟩) A.nx.length cn, .slice aa A.ac.length ca] 25)) (.cells (madeCells #[.int .i64 0] A.ac.length) 3)
      simpa using this
    · simp [madeCells]
    · apply List.ext_getElem?
      intro j
      by_cases hj : j < A.ac.length
      · simp [madeCells, nC, hj, Nat.mod_one]
      · simp [madeCells, nC, hj]
  have uO : Boxed U (w.heap.size + 2) 22 (.slice (some ⟨w.heap.size + 1, 0, none⟩) A.ac.length A.ac.length) := by
    rw [← hU]
    refine Boxed.alloc ?_ _
    have := Boxed.new ((w.alloc (.cells #[.int .i64 A.k, .slice (some ⟨g, o, none⟩) A.nx.length cn, .slice aa A.ac.length ca] 25)).alloc (.cells (madeCells #[.int .i64 0] A.ac.length) 3)) 22 (.slice (some ⟨w.heap.size + 1, 0, none⟩) A.ac.length A.ac.length)
    simp only [World.size_alloc] at this
    exact this
  have uX : Boxed U (w.heap.size + 3) 22 (.slice (some ⟨g, o, none⟩) A.nx.length cn) := by
    rw [← hU]
    have := Boxed.new (((w.alloc (.cells #[.int .i64 A.k, .slice (some ⟨g, o, none⟩) A.nx.length cn, .slice aa A.ac.length ca] 25)).alloc (.cells (madeCells #[.int .i64 0] A.ac.length) 3)).alloc (.cells #[.slice (some ⟨w.heap.size + 1, 0, none⟩) A.ac.length A.ac.length] 22)) 22 (.slice (some ⟨g, o, none⟩) A.nx.length cn)
    simp only [World.size_alloc] at this
    exact this
  rw [hU]
  clear hU
  have hL := HLEN.out
  refine rangeFunc_at rfl h1 (gf := 63) (lb := #[.pointer (some ⟨w.heap.size + 3, 0, none⟩)]) rfl trivial (enters_of Try.func63 (by kernel_rfl) rfl)
    (val := bwI A.nx) (Bs := [w.heap.size + 3, g]) (N := A.nx.length) (w0 := U) (by intro b hb; simp at hb; rcases hb with rfl | rfl <;> omega)
    (backwardI_at (n - 1) (by omega) (w.heap.size + 3) (some ⟨g, o, none⟩) cn A.nx U uX.cell (HSR.out.stay HBU.out) _ (by simp) (fun g' o' e => by simp at e; simp [e.1]) (by omega)) (Below.refl _ _) (fun _ => rfl)
    (fun j W => Ex1 (w.heap.size + 1) U W ∧ W.ownsRow w.heap.size 3 1 (.slice (some ⟨w.heap.size + 1, 0, none⟩) A.ac.length A.ac.length) A.ac.length (nC (fwL A.ac.length ns (ns.length - j))))
    (fun _ W => False)
    ?own1 ?own2 ?start
    (fun j a' W => (Ex1 (w.heap.size + 1) U W ∧ W.ownsRow w.heap.size 3 1 (.slice (some ⟨w.heap.size + 1, 0, none⟩) A.ac.length A.ac.length) A.ac.length (nC (fwL A.ac.length ns (ns.length - j)))) ∧
      a' = { tmps := #[.agg #[.int .i64 A.k, .slice (some ⟨g, o, none⟩) A.nx.length cn, .slice aa A.ac.length ca], .pointer (some ⟨w.heap.size, 0, none⟩), .slice none 0 0, .pointer (some ⟨w.heap.size + 1 + 1, 0, none⟩), .int .i64 ((A.nx.length - 1 - j : Nat) : Int), .int .i64 (A.nx.getD (A.nx.length - 1 - j) 0),
        .pointer (some ⟨w.heap.size, 2, none⟩), .slice aa A.ac.length ca, .int .i64 A.ac.length, .slice (some ⟨w.heap.size + 1, 0, none⟩) A.ac.length A.ac.length, .pointer (some ⟨w.heap.size, 1, none⟩), .slice (some ⟨g, o, none⟩) A.nx.length cn, .func (.func 63) #[] #[.pointer (some ⟨w.heap.size + 1 + 1 + 1, 0, none⟩)],
        .int .i64 ((A.nx.length - 1 - j : Nat) : Int), .int .i64 (A.nx.getD (A.nx.length - 1 - j) 0), undef, undef, undef, undef, undef], defers := [] })
    ?own3 ?assign ?body ?done ?stop
  case own1 =>
    rintro j W W' row ⟨hex, ho⟩ hg hr
    exact ⟨hex.grown hg (fun k e => (hr k e).1), ho.kept hg (by
      right
      intro e
      obtain ⟨_, ob, hob, hc⟩ := hr (w.heap.size + 1) e.symm
      obtain ⟨_, cur, hcur⟩ := own_blk ho (b := w.heap.size + 1) rfl
      rw [hcur] at hob
      cases hob
      cases hc)⟩
  case own2 => rintro j W W' row h; exact h.elim
  case start =>
    rw [Nat.sub_zero]
    exact ⟨Ex1.refl _ _, uM⟩
  case own3 =>
    rintro j a' _ W W' row ⟨⟨hex, ho⟩, e⟩ hg hr
    refine ⟨⟨hex.grown hg (fun k e => (hr k e).1), ho.kept hg ?_⟩, e⟩
    right
    intro e
    obtain ⟨_, ob, hob, hc⟩ := hr (w.heap.size + 1) e.symm
    obtain ⟨_, cur, hcur⟩ := own_blk ho (b := w.heap.size + 1) rfl
    rw [hcur] at hob
    cases hob
    cases hc
  case assign =>
    intro l j W K hj hI hK
    have HK : Hid _ := hK
    have HI : Hid _ := hI
    unfold bwI
    obtain ⟨i, hie⟩ : ∃ i, A.nx.length - 1 - j = i := ⟨_, rfl⟩
    rw [hie]
    rw [hie] at HK
    obtain ⟨y, hy⟩ : ∃ y, A.nx.getD i 0 = y := ⟨_, rfl⟩
    rw [hy]
    rw [hy] at HK
    clear hK hI hie hy uM uO uX hj hL
    gi_wp2
    exact HK.out _ _ ⟨Nat.le_refl _, fun k o _ hk ho => hk⟩ (Kept.refl _ _) ⟨HI.out, rfl⟩
  case body =>
    rintro l j a' W hj ⟨⟨hex, ho⟩, rfl⟩
    have hjn : j < ns.length := by omega
    rw [HNS.out]
    obtain ⟨x, hx⟩ : ∃ x, ns.getD (A.nx.length - 1 - j) 0 = x := ⟨_, rfl⟩
    rw [hx]
    have hxg : ns[ns.length - 1 - j]? = some x := by
      rw [hL] at hx
      rw [List.getD_eq_getElem?_getD, List.getElem?_eq_getElem (by omega), Option.getD_some] at hx
      rw [List.getElem?_eq_getElem (by omega), hx]
    have hxl : x < A.ac.length := HLT.out x (List.mem_of_getElem? hxg)
    have hxI : (x : Int) < A.ac.length := by omega
    obtain ⟨i, hie⟩ : ∃ i, A.nx.length - 1 - j = i := ⟨_, rfl⟩
    rw [hie]
    rw [show ns.length - 1 - j = i by omega] at hxg
    have hst := ho.stored x (.int .i64 (i : Int))
    have hcell := ho.cellAt x (by omega)
    have hfz := ho.frozenAt x
    have hO : W.cell? ⟨w.heap.size + 1 + 1, 0, none⟩ = some (.slice (some ⟨w.heap.size + 1, 0, none⟩) A.ac.length A.ac.length) := by
      rw [World.cell?_of_block (hex.block _ (by show w.heap.size + 1 + 1 < U.heap.size; omega) (by show w.heap.size + 1 + 1 ≠ _; omega))]
      exact uO.cell
    obtain ⟨q, hq⟩ : ∃ q : Nat, (nC (fwL A.ac.length ns (ns.length - j)))[x]? = some (.int .i64 (q : Int)) := ⟨(fwL A.ac.length ns (ns.length - j))[x]'(by rw [fwL_len]; exact hxl), by rw [List.getElem?_eq_getElem (by rw [nC_len, fwL_len]; exact hxl)]; simp only [nC, List.getElem_map]⟩
    rw [hq] at hcell
    have HI : Hid (Ex1 (w.heap.size + 1) U (W.setCell ⟨w.heap.size + 1, x, none⟩ (.int .i64 (i : Int))) ∧ (W.setCell ⟨w.heap.size + 1, x, none⟩ (.int .i64 (i : Int))).ownsRow w.heap.size 3 1 (.slice (some ⟨w.heap.size + 1, 0, none⟩) A.ac.length A.ac.length) A.ac.length (nC (fwL A.ac.length ns (ns.length - (j + 1))))) := by
      refine ⟨hex.set _, ?_⟩
      rw [show ns.length - (j + 1) = i by omega, fwL_step A.ac.length ns i x hxg hxl, show i + 1 = ns.length - j by omega]
      have := hst.1
      simpa [nC, List.map_set] using this
    have HOC : Hid (∃ cur, W.heap[w.heap.size + 1]? = some (.cells cur 3 (0, 0))) := (own_blk ho rfl).2
    have HBL : Hid (∀ b ∈ [w.heap.size + 3, g], b ≠ w.heap.size + 1) := fun b hb => by simp at hb; rcases hb with rfl | rfl <;> omega
    clear hst ho hq uM uO uX hex hx hxg hL hie hjn
    gi_wp2
    refine ⟨⟨by simp [World.setCell], fun k ob _ hk hob => ?_⟩, fun b hb => ?_, HI.out⟩
    · obtain ⟨cur, hcur⟩ := HOC.out
      rw [heap_set_other (fun e => by rw [e, hcur] at hk; cases hk; cases hob)]
      exact hk
    · exact heap_set_other (HBL.out b hb)
  case done =>
    rintro D W hD ⟨hex, ho⟩ hK
    rw [hL, Nat.sub_self] at ho
    have hO : W.cell? ⟨w.heap.size + 1 + 1, 0, none⟩ = some (.slice (some ⟨w.heap.size + 1, 0, none⟩) A.ac.length A.ac.length) := by
      rw [World.cell?_of_block (hex.block _ (by show w.heap.size + 1 + 1 < U.heap.size; omega) (by show w.heap.size + 1 + 1 ≠ _; omega))]
      exact uO.cell
    have HEX : Hid (Ex1 (w.heap.size + 1) U W) := hex
    have HO : Hid (W.ownsRow w.heap.size 3 1 (.slice (some ⟨w.heap.size + 1, 0, none⟩) A.ac.length A.ac.length) A.ac.length (nC (fwL A.ac.length ns 0))) := ho
    have HKD : Hid (W.heap[D]? = some (.deferred (some []))) := hK
    clear hex ho hK uM uO uX hL
    gi_wp2
    refine ⟨by simp, .inl ⟨_, _, rfl, run_takeDeferred HKD.out, ?_⟩⟩
    refine ⟨_, results_tmp rfl _ _ _, rfl, ?_, ?_⟩
    · refine own_keep HO.out (fun b cur hb hc => World.putObj_heap_other (fun e => ?_))
      rw [e, HKD.out] at hc
      cases hc
    · exact (HEX.out.below HBU.out (by omega) (by omega)).grown (grownBy_putObj' W D _) (by have := HEX.out.size; omega) (fun k e => by cases e; omega)
  case stop => rintro D W hD h; exact h.elim
theorem firstWays_any (v : Value) (A : Aut) (ns : List Nat) (w : World) (h : AR w v A) (hns : A.nx = ns.map fun (x : Nat) => (x : Int)) (hlt : ∀ x ∈ ns, x < A.ac.length) (hl : ns.length ≤ 32768) (hp : 0 < ns.length) (hN : A.ac.length ≤ 4096) :
    Calls Try.prog 55 #[v] w fun e w' => e = .returned (.slice (some ⟨w.heap.size + 1, 0, none⟩) A.ac.length A.ac.length) ∧ w'.ownsRow w.heap.size 3 1 (.slice (some ⟨w.heap.size + 1, 0, none⟩) A.ac.length A.ac.length) A.ac.length (nC (fwL A.ac.length ns 0)) ∧ Below w.heap.size w w' :=
  callsIn_wide.1 (firstWays_in 3 (by omega) v A ns w h hns hlt hl hp hN)
end Go.Proofs.Ytbfoamidnekoaab
