/- minim: signed. -/
import Derived.Test.YtggheiblgghpkaaMd
namespace Go.Proofs.Ytggheiblgghpkaa
open Go Go.RowKit Go.Lib Go.Maps
set_option linter.unusedVariables false

/-- A state's signature, the first i letters gone through. -/
def sq (A : Aut) (l : List Nat) (s i j : Nat) : Nat := if j = 0 then l.getD s 0 else if j - 1 < i then l.getD (dN A s (j - 1)) 0 else 0
theorem sq_zero (A : Aut) (l : List Nat) (s : Nat) {j : Nat} (h : 0 < j) : sq A l s 0 j = 0 := by unfold sq; rw [if_neg (by omega), if_neg (by omega)]
theorem sq_next (A : Aut) (l : List Nat) (s i j : Nat) : sq A l s (i + 1) j = if j = i + 1 then l.getD (dN A s i) 0 else sq A l s i j := by
  unfold sq
  by_cases h : j = i + 1
  · subst h; simp
  · rw [if_neg h]
    by_cases h0 : j = 0
    · rw [if_pos h0, if_pos h0]
    · rw [if_neg h0, if_neg h0]
      by_cases h1 : j - 1 < i
      · rw [if_pos (by omega), if_pos h1]
      · rw [if_neg (by omega), if_neg h1]
theorem sq_le {A : Aut} {l : List Nat} (hl : ∀ s, l.getD s 0 ≤ 65535) (s i j : Nat) : sq A l s i j ≤ 65535 := by
  unfold sq
  split
  · exact hl _
  · split
    · exact hl _
    · omega
theorem sgC_set {q q' : Nat → Nat} {j : Nat} (h : ∀ i, q' i = if i = j then q' j else q i) (hj : j < 9) : (sgC q).setIfInBounds j (.int .u16 (q' j : Nat)) = sgC q' := by
  apply Array.ext_getElem?
  intro i
  rw [Array.getElem?_setIfInBounds]
  by_cases e : j = i
  · subst e
    rw [if_pos rfl, if_pos (by simpa [sgC] using hj), sgC_at q' hj]
  · rw [if_neg e]
    by_cases hi : i < 9
    · rw [sgC_at q hi, sgC_at q' hi, h i, if_neg (fun x => e x.symm)]
    · rw [sgC_none q hi, sgC_none q' hi]
theorem Try.info_sig : (Try.prog.info? 115).map (·.size) = some 9 := by kernel_rfl
theorem results_sig {fn : Func} {p : Tmp} (h : fn.results = #[.cell p 115]) {tmps : Array Value} {b : Nat} {arr : Array Value} {w : World} (hp : tmps.getD p undef = .pointer (some ⟨b, 0, none⟩)) (hc : w.heap[b]? = some (.cells arr 115 (0, 0))) (hs : arr.size = 9) :
    (results fn tmps).run Try.prog w = .ok (.agg arr) w :=
  results_cell_row h tmps w b 115 arr (0, 0) _ hp hc Try.underlying115 rfl (by rw [Try.info_sig, hs])
theorem sig_done {w0 w1 : World} {base b : Nat} {z : Nat → Nat} {x0 x1 x2 x3 x4 x5 x6 x7 x8 : Value} (h : w1.heap[b]? = some (.cells (sgC z) 115 (0, 0))) (hB : Below base w0 w1) (hb : base ≤ b) :
    (((((((((w1.setCell ⟨b, 0, none⟩ x0).setCell ⟨b, 1, none⟩ x1).setCell ⟨b, 2, none⟩ x2).setCell ⟨b, 3, none⟩ x3).setCell ⟨b, 4, none⟩ x4).setCell ⟨b, 5, none⟩ x5).setCell ⟨b, 6, none⟩ x6).setCell ⟨b, 7, none⟩ x7).setCell ⟨b, 8, none⟩ x8).heap[b]? = some (.cells #[x0, x1, x2, x3, x4, x5, x6, x7, x8] 115 (0, 0)) ∧
    Below base w0 (((((((((w1.setCell ⟨b, 0, none⟩ x0).setCell ⟨b, 1, none⟩ x1).setCell ⟨b, 2, none⟩ x2).setCell ⟨b, 3, none⟩ x3).setCell ⟨b, 4, none⟩ x4).setCell ⟨b, 5, none⟩ x5).setCell ⟨b, 6, none⟩ x6).setCell ⟨b, 7, none⟩ x7).setCell ⟨b, 8, none⟩ x8) := by
  refine ⟨?_, ?_⟩
  · have h0 : (w1.setCell ⟨b, 0, none⟩ x0).heap[b]? = some (.cells #[x0, (.int .u16 (z 1 : Nat)), (.int .u16 (z 2 : Nat)), (.int .u16 (z 3 : Nat)), (.int .u16 (z 4 : Nat)), (.int .u16 (z 5 : Nat)), (.int .u16 (z 6 : Nat)), (.int .u16 (z 7 : Nat)), (.int .u16 (z 8 : Nat))] 115 (0, 0)) := by rw [heap_set h]; rfl
    have h1 : ((w1.setCell ⟨b, 0, none⟩ x0).setCell ⟨b, 1, none⟩ x1).heap[b]? = some (.cells #[x0, x1, (.int .u16 (z 2 : Nat)), (.int .u16 (z 3 : Nat)), (.int .u16 (z 4 : Nat)), (.int .u16 (z 5 : Nat)), (.int .u16 (z 6 : Nat)), (.int .u16 (z 7 : Nat)), (.int .u16 (z 8 : Nat))] 115 (0, 0)) := by rw [heap_set h0]; rfl
    have h2 : (((w1.setCell ⟨b, 0, none⟩ x0).setCell ⟨b, 1, none⟩ x1).setCell ⟨b, 2, none⟩ x2).heap[b]? = some (.cells #[x0, x1, x2, (.int .u16 (z 3 : Nat)), (.int .u16 (z 4 : Nat)), (.int .u16 (z 5 : Nat)), (.int .u16 (z 6 : Nat)), (.int .u16 (z 7 : Nat)), (.int .u16 (z 8 : Nat))] 115 (0, 0)) := by rw [heap_set h1]; rfl
    have h3 : ((((w1.setCell ⟨b, 0, none⟩ x0).setCell ⟨b, 1, none⟩ x1).setCell ⟨b, 2, none⟩ x2).setCell ⟨b, 3, none⟩ x3).heap[b]? = some (.cells #[x0, x1, x2, x3, (.int .u16 (z 4 : Nat)), (.int .u16 (z 5 : Nat)), (.int .u16 (z 6 : Nat)), (.int .u16 (z 7 : Nat)), (.int .u16 (z 8 : Nat))] 115 (0, 0)) := by rw [heap_set h2]; rfl
    have h4 : (((((w1.setCell ⟨b, 0, none⟩ x0).setCell ⟨b, 1, none⟩ x1).setCell ⟨b, 2, none⟩ x2).setCell ⟨b, 3, none⟩ x3).setCell ⟨b, 4, none⟩ x4).heap[b]? = some (.cells #[x0, x1, x2, x3, x4, (.int .u16 (z 5 : Nat)), (.int .u16 (z 6 : Nat)), (.int .u16 (z 7 : Nat)), (.int .u16 (z 8 : Nat))] 115 (0, 0)) := by rw [heap_set h3]; rfl
    have h5 : ((((((w1.setCell ⟨b, 0, none⟩ x0).setCell ⟨b, 1, none⟩ x1).setCell ⟨b, 2, none⟩ x2).setCell ⟨b, 3, none⟩ x3).setCell ⟨b, 4, none⟩ x4).setCell ⟨b, 5, none⟩ x5).heap[b]? = some (.cells #[x0, x1, x2, x3, x4, x5, (.int .u16 (z 6 : Nat)), (.int .u16 (z 7 : Nat)), (.int .u16 (z 8 : Nat))] 115 (0, 0)) := by rw [heap_set h4]; rfl
    have h6 : (((((((w1.setCell ⟨b, 0, none⟩ x0).setCell ⟨b, 1, none⟩ x1).setCell ⟨b, 2, none⟩ x2).setCell ⟨b, 3, none⟩ x3).setCell ⟨b, 4, none⟩ x4).setCell ⟨b, 5, none⟩ x5).setCell ⟨b, 6, none⟩ x6).heap[b]? = some (.cells #[x0, x1, x2, x3, x4, x5, x6, (.int .u16 (z 7 : Nat)), (.int .u16 (z 8 : Nat))] 115 (0, 0)) := by rw [heap_set h5]; rfl
    have h7 : ((((((((w1.setCell ⟨b, 0, none⟩ x0).setCell ⟨b, 1, none⟩ x1).setCell ⟨b, 2, none⟩ x2).setCell ⟨b, 3, none⟩ x3).setCell ⟨b, 4, none⟩ x4).setCell ⟨b, 5, none⟩ x5).setCell ⟨b, 6, none⟩ x6).setCell ⟨b, 7, none⟩ x7).heap[b]? = some (.cells #[x0, x1, x2, x3, x4, x5, x6, x7, (.int .u16 (z 8 : Nat))] 115 (0, 0)) := by rw [heap_set h6]; rfl
    have h8 : (((((((((w1.setCell ⟨b, 0, none⟩ x0).setCell ⟨b, 1, none⟩ x1).setCell ⟨b, 2, none⟩ x2).setCell ⟨b, 3, none⟩ x3).setCell ⟨b, 4, none⟩ x4).setCell ⟨b, 5, none⟩ x5).setCell ⟨b, 6, none⟩ x6).setCell ⟨b, 7, none⟩ x7).setCell ⟨b, 8, none⟩ x8).heap[b]? = some (.cells #[x0, x1, x2, x3, x4, x5, x6, x7, x8] 115 (0, 0)) := by rw [heap_set h7]; rfl
    exact h8
  · have f : ∀ (y : World) (j : Nat) (x : Value), Below base w0 y → Below base w0 (y.setCell ⟨b, j, none⟩ x) := fun y j x hy => hy.setCell (p := ⟨b, j, none⟩) hb _
    exact f _ _ _ (f _ _ _ (f _ _ _ (f _ _ _ (f _ _ _ (f _ _ _ (f _ _ _ (f _ _ _ (f _ _ _ hB))))))))

set_option maxHeartbeats 2000000 in
set_option maxRecDepth 100000 in
theorem mstep_any (v : Value) (A : Aut) (w : World) (h : AR w v A) (G : Good A) (s c : Nat) (hs : s < A.ac.length) (hc : (c : Int) < A.k) :
    Calls Try.prog 66 #[v, .int .i64 s, .int .i64 c] w fun e w' => e = .returned (.int .i64 (dN A s c)) ∧ Below w.heap.size w w' := by
  obtain ⟨an, cn, aa, ca, rfl, h1, h2⟩ := h.is
  obtain ⟨g1, g2, g3⟩ := G.at hs hc
  obtain ⟨g, o, rfl, hg, hcell⟩ := h1.int g1
  rw [g2] at hcell
  obtain ⟨D, hD⟩ : ∃ D, dN A s c = D := ⟨_, rfl⟩
  rw [hD] at hcell ⊢
  have hk1 := G.k1
  have hk8 := G.k8
  have hn2 := G.n2
  have hsI : (s : Int) ≤ 4095 := by omega
  have hp : (s : Int) * A.k = ((s * A.k.toNat : Nat) : Int) := by rw [Int.natCast_mul]; congr 1; omega
  have hq : s * A.k.toNat ≤ 4095 * 8 := Nat.mul_le_mul (by omega) (by omega)
  obtain ⟨p, hpp⟩ : ∃ p, s * A.k.toNat = p := ⟨_, rfl⟩
  rw [hpp] at hp hq hcell g1
  have hw1 : IntKind.i64.wrap ((s : Int) * A.k) = (p : Int) := by rw [hp, IntKind.wrap_i64]; omega
  have hw2 : IntKind.i64.wrap ((p : Int) + c) = ((p + c : Nat) : Int) := by rw [IntKind.wrap_i64]; omega
  have hgl : ((p + c : Nat) : Int) < A.nx.length := by omega
  have hcell' : (w.alloc (.cells #[.int .i64 A.k, .slice (some ⟨g, o, none⟩) A.nx.length cn, .slice aa A.ac.length ca] 25)).cell? ⟨g, o + (p + c), none⟩ = some (.int .i64 (D : Int)) := by rw [below_cell (below_new _ _) hg]; exact hcell
  obtain ⟨q, hqq⟩ : ∃ q, p + c = q := ⟨_, rfl⟩
  rw [hqq] at hw2 hgl hcell'
  obtain ⟨k, nx, ac⟩ := A
  simp only at hw1 hgl hcell' ⊢
  clear h h1 h2 g1 g2 g3 G hcell hD hp hq hpp hqq hs hc hk1 hk8 hn2 hsI
  go_enter Try.func66, Try.ntmps66
  go_wp2_with fail
  go_ret
  exact ⟨rfl, below_new _ _⟩
set_option maxHeartbeats 4000000 in
set_option maxRecDepth 100000 in
theorem signed_any (v : Value) (A : Aut) (w : World) (h : AR w v A) (G : Good A) (a : Option Addr) (cap : Nat) (l : List Nat) (hL : SR w a (nC l)) (hn : l.length = A.ac.length) (hl : ∀ s, s < l.length → l.getD s 0 < l.length) (s : Nat) (hs : s < A.ac.length) :
    Calls Try.prog 79 #[v, .slice a l.length cap, .int .i64 s] w fun e w' => e = .returned (sgV (sq A l s A.k.toNat)) ∧ Below w.heap.size w w' := by
  obtain ⟨an, cn, aa, ca, e, h1, h2⟩ := h.is
  have hn2 := G.n2
  obtain ⟨g0, o0, rfl, hg0, hc0⟩ := hL.nat (i := s) (by omega)
  have HAR : Hid (∀ y, Below w.heap.size w y → AR y v A) := fun y hy => h.stay hy
  have CL : Hid (∀ y i, Below w.heap.size w y → i < l.length → y.cell? ⟨g0, o0 + i, none⟩ = some (.int .i64 (l.getD i 0 : Nat))) := fun y i hy hi => by
    obtain ⟨g', o', e', _, hc'⟩ := (hL.stay hy).nat hi
    simp only [Option.some.injEq, Addr.mk.injEq] at e'
    obtain ⟨rfl, rfl, _⟩ := e'
    exact hc'
  have HG : Hid (Good A) := G
  have HL : Hid (∀ s, s < l.length → l.getD s 0 < l.length) := hl
  have HN : Hid (l.length = A.ac.length) := hn
  have hsl : (s : Int) < l.length := by omega
  have hx := hl s (by omega)
  obtain ⟨x, hxe⟩ : ∃ x, l.getD s 0 = x := ⟨_, rfl⟩
  rw [hxe] at hc0 hx
  have hw0 : IntKind.u16.wrap (x : Int) = (x : Int) := by rw [IntKind.wrap_u16]; omega
  have hcx := (below_cell (o := o0 + s) (below_new w (.cells #[.int .i64 A.k, .slice an A.nx.length cn, .slice aa A.ac.length ca] 25)) hg0).trans hc0
  subst e
  clear h h1 h2 G hl hL hn
  go_enter Try.func79, Try.ntmps79
  go_wp2_with fail
  obtain ⟨K, hK⟩ : ∃ K : Nat, A.k.toNat = K := ⟨_, rfl⟩
  have HK : Hid (A.k = (K : Int) ∧ 1 ≤ K ∧ K ≤ 8 ∧ A.k.toNat = K) := ⟨by have := HG.out.kn; omega, by have := HG.out.kn; omega, by have := HG.out.kn; omega, hK⟩
  have hX : sgC (sq A l s 0) = #[.int .u16 (x : Int), .int .u16 0, .int .u16 0, .int .u16 0, .int .u16 0, .int .u16 0, .int .u16 0, .int .u16 0, .int .u16 0] := by
    unfold sgC
    rw [sq_zero A l s (show 0 < 1 by decide), sq_zero A l s (show 0 < 2 by decide), sq_zero A l s (show 0 < 3 by decide), sq_zero A l s (show 0 < 4 by decide), sq_zero A l s (show 0 < 5 by decide), sq_zero A l s (show 0 < 6 by decide), sq_zero A l s (show 0 < 7 by decide), sq_zero A l s (show 0 < 8 by decide)]
    rw [show sq A l s 0 0 = x by unfold sq; rw [if_pos rfl, hxe]]
    rfl
  have hst : ∃ i : Nat, i = 0 ∧ RowAt (((w.alloc (.cells #[.int .i64 A.k, .slice an A.nx.length cn, .slice aa A.ac.length ca] 25)).alloc (.cells #[.int .u16 0, .int .u16 0, .int .u16 0, .int .u16 0, .int .u16 0, .int .u16 0, .int .u16 0, .int .u16 0, .int .u16 0] 115)).alloc (.cells #[.int .u16 (x : Int), .int .u16 0, .int .u16 0, .int .u16 0, .int .u16 0, .int .u16 0, .int .u16 0, .int .u16 0, .int .u16 0] 115)) w.heap.size #[.int .i64 A.k, .slice an A.nx.length cn, .slice aa A.ac.length ca] ∧ (((w.alloc (.cells #[.int .i64 A.k, .slice an A.nx.length cn, .slice aa A.ac.length ca] 25)).alloc (.cells #[.int .u16 0, .int .u16 0, .int .u16 0, .int .u16 0, .int .u16 0, .int .u16 0, .int .u16 0, .int .u16 0, .int .u16 0] 115)).alloc (.cells #[.int .u16 (x : Int), .int .u16 0, .int .u16 0, .int .u16 0, .int .u16 0, .int .u16 0, .int .u16 0, .int .u16 0, .int .u16 0] 115)).heap[w.heap.size + 1]? = some (.cells (sgC fun _ => 0) 115 (0, 0)) ∧ (((w.alloc (.cells #[.int .i64 A.k, .slice an A.nx.length cn, .slice aa A.ac.length ca] 25)).alloc (.cells #[.int .u16 0, .int .u16 0, .int .u16 0, .int .u16 0, .int .u16 0, .int .u16 0, .int .u16 0, .int .u16 0, .int .u16 0] 115)).alloc (.cells #[.int .u16 (x : Int), .int .u16 0, .int .u16 0, .int .u16 0, .int .u16 0, .int .u16 0, .int .u16 0, .int .u16 0, .int .u16 0] 115)).heap[w.heap.size + 2]? = some (.cells (sgC (sq A l s i)) 115 (0, 0)) ∧ Below w.heap.size w (((w.alloc (.cells #[.int .i64 A.k, .slice an A.nx.length cn, .slice aa A.ac.length ca] 25)).alloc (.cells #[.int .u16 0, .int .u16 0, .int .u16 0, .int .u16 0, .int .u16 0, .int .u16 0, .int .u16 0, .int .u16 0, .int .u16 0] 115)).alloc (.cells #[.int .u16 (x : Int), .int .u16 0, .int .u16 0, .int .u16 0, .int .u16 0, .int .u16 0, .int .u16 0, .int .u16 0, .int .u16 0] 115)) := by
    refine ⟨0, rfl, ((RowAt.last _ _ _).alloc _).alloc _, ?_, ?_, go_on (go_on (below_new _ _) (below_new _ _)) (below_new _ _)⟩
    · have := heap_alloc_last (w.alloc (.cells #[.int .i64 A.k, .slice an A.nx.length cn, .slice aa A.ac.length ca] 25)) (.cells #[.int .u16 0, .int .u16 0, .int .u16 0, .int .u16 0, .int .u16 0, .int .u16 0, .int .u16 0, .int .u16 0, .int .u16 0] 115)
      rw [World.size_alloc] at this
      exact ((below_new _ _).block _ (by simp)).trans this
    · have := heap_alloc_last ((w.alloc (.cells #[.int .i64 A.k, .slice an A.nx.length cn, .slice aa A.ac.length ca] 25)).alloc (.cells #[.int .u16 0, .int .u16 0, .int .u16 0, .int .u16 0, .int .u16 0, .int .u16 0, .int .u16 0, .int .u16 0, .int .u16 0] 115)) (.cells #[.int .u16 (x : Int), .int .u16 0, .int .u16 0, .int .u16 0, .int .u16 0, .int .u16 0, .int .u16 0, .int .u16 0, .int .u16 0] 115)
      rw [World.size_alloc, World.size_alloc] at this
      rw [hX]
      exact this
  have HST : Hid _ := hst
  clear hst hX hK hxe hcx hc0 hw0
  go_loopw [17] (fun vi wr => ∃ i : Nat, vi = .int .i64 i ∧ i ≤ K ∧ RowAt wr w.heap.size #[.int .i64 A.k, .slice an A.nx.length cn, .slice aa A.ac.length ca] ∧ wr.heap[w.heap.size + 1]? = some (.cells (sgC fun _ => 0) 115 (0, 0)) ∧ wr.heap[w.heap.size + 2]? = some (.cells (sgC (sq A l s i)) 115 (0, 0)) ∧ Below w.heap.size w wr) (fun vi _ => K - (intOf vi).toNat)
  case atStart =>
    obtain ⟨i, rfl, q1, q2, q3, q4⟩ := HST.out
    exact ⟨0, rfl, Nat.zero_le _, q1, q2, q3, q4⟩
  case round =>
    clear HST
    obtain ⟨i, rfl, hiK, q1, q2, q3, q4⟩ := hrel
    have cs := q1.cell
    by_cases hlt : i < K
    · have hiI : (i : Int) < A.k := by have := HK.out.1; omega
      have hi8 : i < 8 := by have := HK.out.2.2.1; omega
      have hi8I : (i : Int) < 8 := by omega
      have HB : Hid (Below w.heap.size w wr) := q4
      have H1 : Hid (wr.heap[w.heap.size + 1]? = some (.cells (sgC fun _ => 0) 115 (0, 0))) := q2
      have H2 : Hid (wr.heap[w.heap.size + 2]? = some (.cells (sgC (sq A l s i)) 115 (0, 0))) := q3
      have HQ1 : Hid (RowAt wr w.heap.size #[.int .i64 A.k, .slice an A.nx.length cn, .slice aa A.ac.length ca]) := q1
      clear q1 q2 q3 q4
      go_wp2_with fail
      refine (mstep_any _ A _ (HAR.out _ HB.out) HG.out s i hs hiI).mono ?_
      rintro e w1 ⟨rfl, hb1⟩
      have hdl := (HG.out.at hs hiI).2.2
      obtain ⟨D, hD⟩ : ∃ D, dN A s i = D := ⟨_, rfl⟩
      rw [hD] at hdl ⊢
      have hDl : D < l.length := by rw [HN.out]; exact hdl
      have hDI : (D : Int) < l.length := by omega
      have hcell := CL.out w1 D (go_on HB.out hb1) hDl
      have hyl := HL.out D hDl
      obtain ⟨y, hye⟩ : ∃ y, l.getD D 0 = y := ⟨_, rfl⟩
      rw [hye] at hcell hyl
      have hwy : IntKind.u16.wrap (y : Int) = (y : Int) := by have := HN.out; rw [IntKind.wrap_u16]; omega
      have p1 := (hb1.block _ (Array.getElem?_eq_some_iff.1 H1.out).1).trans H1.out
      have p2 := (hb1.block _ (Array.getElem?_eq_some_iff.1 H2.out).1).trans H2.out
      have hcl : w1.cell? ⟨w.heap.size + 2, 1 + i, none⟩ = some (.int .u16 (sq A l s i (1 + i) : Nat)) := (cell_of p2).trans (sgC_at _ (by omega))
      have hfz : w1.frozen? ⟨w.heap.size + 2, 1 + i, none⟩ = false := froz_of p2
      have HN1 : Hid (RowAt (w1.setCell ⟨w.heap.size + 2, 1 + i, none⟩ (.int .u16 (y : Int))) w.heap.size #[.int .i64 A.k, .slice an A.nx.length cn, .slice aa A.ac.length ca]) := by
        have := HQ1.out.stay hb1
        refine ⟨by simp [World.setCell]; exact this.lt, fun o => ?_⟩
        rw [World.cell?_of_block (heap_set_other (show w.heap.size ≠ w.heap.size + 2 by omega))]
        exact this.cell o
      have HN2 : Hid ((w1.setCell ⟨w.heap.size + 2, 1 + i, none⟩ (.int .u16 (y : Int))).heap[w.heap.size + 1]? = some (.cells (sgC fun _ => 0) 115 (0, 0))) := by
        show (w1.setCell ⟨w.heap.size + 2, 1 + i, none⟩ (.int .u16 (y : Int))).heap[w.heap.size + 1]? = _
        rw [heap_set_other (by omega)]; exact p1
      have HN3 : Hid ((w1.setCell ⟨w.heap.size + 2, 1 + i, none⟩ (.int .u16 (y : Int))).heap[w.heap.size + 2]? = some (.cells (sgC (sq A l s (i + 1))) 115 (0, 0))) := by
        show (w1.setCell ⟨w.heap.size + 2, 1 + i, none⟩ (.int .u16 (y : Int))).heap[w.heap.size + 2]? = _
        rw [heap_set p2]
        have e1 : sq A l s (i + 1) (1 + i) = y := by rw [sq_next, if_pos (by omega), hD, hye]
        have e2 := sgC_set (q := sq A l s i) (q' := sq A l s (i + 1)) (j := 1 + i) (fun z => by rw [e1, sq_next, hD, hye, Nat.add_comm 1 i]) (by omega)
        rw [e1] at e2
        rw [e2]
      have HN4 : Hid (Below w.heap.size w (w1.setCell ⟨w.heap.size + 2, 1 + i, none⟩ (.int .u16 (y : Int)))) := (go_on HB.out hb1).setCell (p := ⟨w.heap.size + 2, 1 + i, none⟩) (by show _ ≤ w.heap.size + 2; omega) _
      clear p1 p2 hb1 hye hD cs
      go_wp2_with fail
      go_roundw
      case rel => exact ⟨i + 1, by go_num, by omega, HN1.out, HN2.out, HN3.out, HN4.out⟩
      case measure => simp [intOf]; omega
    · have hiI : ¬ (i : Int) < A.k := by have := HK.out.1; omega
      have e : i = A.k.toNat := by have := HK.out.2.2.2; omega
      rw [e] at q3
      have ho : ∀ j, wr.cell? ⟨w.heap.size + 2, j, none⟩ = (sgC (sq A l s A.k.toNat))[j]? := fun j => cell_of q3
      have hr : ∀ j, wr.cell? ⟨w.heap.size + 1, j, none⟩ = (sgC fun _ => 0)[j]? := fun j => cell_of q2
      have hf : ∀ j, wr.frozen? ⟨w.heap.size + 1, j, none⟩ = false := fun j => froz_of q2
      obtain ⟨f1, f2⟩ := sig_done (x0 := .int .u16 (sq A l s A.k.toNat 0 : Nat)) (x1 := .int .u16 (sq A l s A.k.toNat 1 : Nat)) (x2 := .int .u16 (sq A l s A.k.toNat 2 : Nat)) (x3 := .int .u16 (sq A l s A.k.toNat 3 : Nat)) (x4 := .int .u16 (sq A l s A.k.toNat 4 : Nat)) (x5 := .int .u16 (sq A l s A.k.toNat 5 : Nat)) (x6 := .int .u16 (sq A l s A.k.toNat 6 : Nat)) (x7 := .int .u16 (sq A l s A.k.toNat 7 : Nat)) (x8 := .int .u16 (sq A l s A.k.toNat 8 : Nat)) q2 q4 (by omega)
      have F1 : Hid _ := f1
      have F2 : Hid _ := f2
      obtain ⟨Q, hQ⟩ : ∃ Q : Nat → Nat, sq A l s A.k.toNat = Q := ⟨_, rfl⟩
      have HQ : Hid (sq A l s A.k.toNat = Q) := hQ
      rw [hQ] at ho F1 F2
      clear f1 f2 q1 q2 q3 q4 e hQ
      go_wp2_with fail
      exact bodyPost_ret (results_sig rfl rfl F1.out rfl) rfl ⟨by rw [HQ.out], F2.out⟩
end Go.Proofs.Ytggheiblgghpkaa
