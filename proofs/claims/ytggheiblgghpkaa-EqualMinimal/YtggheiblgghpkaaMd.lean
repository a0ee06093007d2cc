/- minim: sizes, signatures as values and keys, signed. -/
import Derived.Test.YtggheiblgghpkaaMc
import Derived.DeepKeys4
namespace Go.Proofs.Ytggheiblgghpkaa
open Go Go.RowKit Go.Lib Go.Maps
set_option linter.unusedVariables false

/-- How often each class stands among the first i. -/
def cnt (l : List Nat) (i c : Nat) : Nat := (l.take i).count c
theorem cnt_le (l : List Nat) (i c : Nat) : cnt l i c ≤ i := Nat.le_trans List.count_le_length (by simp; omega)
theorem cnt_step {l : List Nat} {i x : Nat} (h : l[i]? = some x) (c : Nat) : cnt l (i + 1) c = cnt l i c + if c = x then 1 else 0 := by
  obtain ⟨hi, e⟩ := List.getElem?_eq_some_iff.1 h
  unfold cnt
  rw [List.take_add_one, h, List.count_append]
  congr 1
  by_cases q : c = x
  · subst q; simp
  · rw [if_neg q]
    exact List.count_eq_zero_of_not_mem (by simpa using q)
def cntL (l : List Nat) (n i : Nat) : List Nat := (List.range n).map fun c => cnt l i c
theorem cntL_len (l : List Nat) (n i : Nat) : (cntL l n i).length = n := by simp [cntL]
theorem cntL_zero (l : List Nat) (n : Nat) (f : Nat → Nat) : cntL l n 0 = filN f n 0 := by
  unfold cntL filN
  refine List.map_congr_left fun c _ => ?_
  simp [cnt]
theorem cntL_at {l : List Nat} {n i x : Nat} (h : x < n) : (nC (cntL l n i))[x]? = some (.int .i64 (cnt l i x : Nat)) := by simp [nC, cntL, h]
theorem cntL_set {l : List Nat} {n i x : Nat} (h : l[i]? = some x) (hx : x < n) : (cntL l n i).set x (cnt l i x + 1) = cntL l n (i + 1) := by
  apply List.ext_getElem?
  intro j
  rw [List.getElem?_set]
  by_cases e : x = j
  · subst e
    rw [if_pos rfl, cntL_len, if_pos hx]
    simp [cntL, hx, cnt_step h]
  · rw [if_neg e]
    by_cases hj : j < n
    · simp only [cntL, List.getElem?_map, List.getElem?_range hj, Option.map_some]
      rw [cnt_step h, if_neg (fun q => e q.symm)]
      rfl
    · rw [List.getElem?_eq_none (by rw [cntL_len]; omega), List.getElem?_eq_none (by rw [cntL_len]; omega)]
theorem SR.nat {w : World} {a : Option Addr} {l : List Nat} (h : SR w a (nC l)) {i : Nat} (hi : i < l.length) : ∃ g o, a = some ⟨g, o, none⟩ ∧ g < w.heap.size ∧ w.cell? ⟨g, o + i, none⟩ = some (.int .i64 (l.getD i 0 : Nat)) :=
  h i _ (by simp [nC, List.getD_eq_getElem?_getD, hi])

set_option maxHeartbeats 2000000 in
set_option maxRecDepth 100000 in
theorem sizes_any (a : Option Addr) (cap : Nat) (l : List Nat) (w : World) (h : SR w a (nC l)) (hl : ∀ s, s < l.length → l.getD s 0 < l.length) (hn : l.length ≤ 4096) :
    Calls Try.prog 78 #[.slice a l.length cap] w fun e w' => ∃ g, e = .returned (.slice (some ⟨g, 0, none⟩) l.length l.length) ∧ w'.ownsRow w.heap.size 3 1 (.slice (some ⟨g, 0, none⟩) l.length l.length) l.length (nC (cntL l l.length l.length)) ∧ Below w.heap.size w w' := by
  obtain ⟨i0, hi, hz0, hz1, hz2⟩ := info_parts Try.info_int
  have hmk := fun w0 => run_make (P := Try.prog) w0 22 3 i0 (.int .i64 0) Try.underlying22 hi hz0 .i64 .i64 (l.length : Int) (l.length : Int) (by omega) (by omega) (by rw [hz2]; omega) (by omega)
  rw [hz1] at hmk
  simp only [Nat.mul_one] at hmk
  have H : Hid (∀ y, Below w.heap.size w y → SR y a (nC l)) := fun y hy => h.stay hy
  have HL : Hid (∀ s, s < l.length → l.getD s 0 < l.length) := hl
  have HO0 : Hid ((w.alloc (.cells (madeCells #[.int .i64 0] l.length) 3)).ownsRow w.heap.size 3 1 (.slice (some ⟨w.heap.size, 0, none⟩) l.length l.length) l.length (nC (cntL l l.length 0))) := by
    rw [cntL_zero l l.length id]
    exact made_row w id (by omega) (Nat.le_refl _)
  clear h hl
  go_enter Try.func78, Try.ntmps78
  go_wp2_with fail
  clear hmk
  go_loopw [11] (fun vi wr => ∃ i : Nat, vi = .int .i64 i ∧ i ≤ l.length ∧ wr.ownsRow w.heap.size 3 1 (.slice (some ⟨w.heap.size, 0, none⟩) l.length l.length) l.length (nC (cntL l l.length i)) ∧ Below w.heap.size w wr) (fun vi _ => l.length - (intOf vi).toNat)
  case atStart => exact ⟨0, rfl, Nat.zero_le _, HO0.out, below_new _ _⟩
  case round =>
    clear HO0
    obtain ⟨i, rfl, hin, hO, hB⟩ := hrel
    by_cases hlt : i < l.length
    · have hiI : (i : Int) < l.length := by omega
      have hx := HL.out i hlt
      obtain ⟨g, o, rfl, hg, hcell⟩ := (H.out _ hB).nat hlt
      obtain ⟨x, hxe⟩ : ∃ x, l.getD i 0 = x := ⟨_, rfl⟩
      rw [hxe] at hx hcell
      have hxl : l[i]? = some x := by
        rw [List.getElem?_eq_getElem hlt]
        rw [List.getD_eq_getElem?_getD, List.getElem?_eq_getElem hlt] at hxe
        exact congrArg some hxe
      have hxI : (x : Int) < l.length := by omega
      have hfz : wr.frozen? ⟨w.heap.size, x, none⟩ = false := hO.frozenAt x
      have hcl := (hO.cellAt x (by omega)).trans (cntL_at hx)
      have hb := cnt_le l i x
      obtain ⟨c, hc⟩ : ∃ c, cnt l i x = c := ⟨_, rfl⟩
      rw [hc] at hcl hb
      have hst := (hO.stored x (.int .i64 ((c + 1 : Nat) : Int))).1
      have hw : IntKind.i64.wrap ((c : Int) + 1) = ((c + 1 : Nat) : Int) := by rw [IntKind.wrap_i64]; omega
      have HN : Hid ((wr.setCell ⟨w.heap.size, x, none⟩ (.int .i64 ((c + 1 : Nat) : Int))).ownsRow w.heap.size 3 1 (.slice (some ⟨w.heap.size, 0, none⟩) l.length l.length) l.length (nC (cntL l l.length (i + 1)))) := by
        rw [← cntL_set hxl hx, hc, nC_set]
        exact hst
      have HB : Hid (Below w.heap.size w (wr.setCell ⟨w.heap.size, x, none⟩ (.int .i64 ((c + 1 : Nat) : Int)))) := hB.setCell (p := ⟨w.heap.size, x, none⟩) (Nat.le_refl _) _
      obtain ⟨d, hd⟩ : ∃ d : Nat, c + 1 = d := ⟨_, rfl⟩
      rw [hd] at hw HN HB
      clear hst hxe hxl hc hO hB hg hd
      go_wp2_with fail
      go_roundw
      case rel => exact ⟨i + 1, by go_num, by omega, HN.out, HB.out⟩
      case measure => simp [intOf]; omega
    · have hiI : ¬ (i : Int) < l.length := by omega
      have e : i = l.length := by omega
      rw [e] at hO
      have HO : Hid (wr.ownsRow w.heap.size 3 1 (.slice (some ⟨w.heap.size, 0, none⟩) l.length l.length) l.length (nC (cntL l l.length l.length))) := hO
      have HB : Hid (Below w.heap.size w wr) := hB
      clear e hO hB
      go_wp2_with fail
      go_ret
      exact ⟨_, rfl, HO.out, HB.out⟩
/-- A signature's cells. -/
abbrev sgC (q : Nat → Nat) : Array Value := #[.int .u16 (q 0 : Nat), .int .u16 (q 1 : Nat), .int .u16 (q 2 : Nat), .int .u16 (q 3 : Nat), .int .u16 (q 4 : Nat), .int .u16 (q 5 : Nat), .int .u16 (q 6 : Nat), .int .u16 (q 7 : Nat), .int .u16 (q 8 : Nat)]
abbrev sgV (q : Nat → Nat) : Value := .agg (sgC q)
theorem sgC_at (q : Nat → Nat) {j : Nat} (h : j < 9) : (sgC q)[j]? = some (.int .u16 (q j : Nat)) := by
  match j, h with
  | 0, _ => rfl
  | 1, _ => rfl
  | 2, _ => rfl
  | 3, _ => rfl
  | 4, _ => rfl
  | 5, _ => rfl
  | 6, _ => rfl
  | 7, _ => rfl
  | 8, _ => rfl
theorem sgC_none (q : Nat → Nat) {j : Nat} (h : ¬ j < 9) : (sgC q)[j]? = none := by simp [sgC]; omega
def sgK (q : Nat → Nat) : Lit := .string (keyBytes [.int .u16 (q 0 : Nat), .int .u16 (q 1 : Nat), .int .u16 (q 2 : Nat), .int .u16 (q 3 : Nat), .int .u16 (q 4 : Nat), .int .u16 (q 5 : Nat), .int .u16 (q 6 : Nat), .int .u16 (q 7 : Nat), .int .u16 (q 8 : Nat)])
theorem wfU {s : Nat} (h : s ≤ 65535) : (Lit.int .u16 (s : Int)).wf = true := WalkArith.wf_u16 (by omega)
theorem keyOf_sig {P : Program} {k t e : TypeId} {f1 f2 : Field} (hk : P.underlying k = some (.struct #[f1, f2])) (n1 : f1.name ≠ "_") (n2 : f2.name ≠ "_") (o1 : f1.offset = 0) (o2 : f2.offset = 1) (t1 : f1.type = e) (t2 : f2.type = t)
    (ht : P.underlying t = some (.array 8 e)) (he : P.underlying e = some (.int .u16)) (ck : P.cellsOf k = 9) (ct : P.cellsOf t = 8) (ce : P.cellsOf e = 1) (hy : P.keyType k = true) {n : Nat} (hn : P.types.size = n + 2) {q : Nat → Nat} (hq : ∀ j, q j ≤ 65535) :
    keyOf P k (sgV q) = some (sgK q) := by
  have w := fun j => wfU (hq j)
  simp [keyOf, hk, hy, Value.formed, Value.cells, ck, hn, Program.keyLits, n1, n2, o1, o2, t1, t2, ct, ce, ht, he, w, sgK, sgC, List.range_succ, List.range_zero]
end Go.Proofs.Ytggheiblgghpkaa
