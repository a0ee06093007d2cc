/- The document's Way. -/
import Derived.Test.YtggheiblgghpkaaLh
namespace Go.Proofs.Ytggheiblgghpkaa
open Go Go.RowKit Go.Lib
set_option linter.unusedVariables false

/-- By which one it was met; the first by none. -/
def upI (n : Nod (Nat × Nat)) : Int := if n.w = [] then -1 else (n.u : Int)
/-- A pair's cells. -/
def pcC (n : Nod (Nat × Nat)) : List Value := [.int .i64 (n.p.1 : Nat), .int .i64 (n.p.2 : Nat), .int .i64 (upI n), .int .u8 (lb n)]
theorem pcC_len (n : Nod (Nat × Nat)) : (pcC n).length = 4 := rfl
theorem pc_cell {w : World} {base g cap : Nat} {e : TypeId} {Q : List (Nod (Nat × Nat))} (h : w.ownsRow base e 4 (.slice (some ⟨g, 0, none⟩) Q.length cap) Q.length (Q.flatMap pcC)) {i : Nat} {n : Nod (Nat × Nat)} (hi : Q[i]? = some n) {j : Nat} (hj : j < 4) : w.cell? ⟨g, i * 4 + j, none⟩ = (pcC n)[j]? := by
  have hl := (List.getElem?_eq_some_iff.1 hi).1
  rw [h.cellAt (i * 4 + j) (by omega), flat_get pcC_len Q i n j hi hj]
theorem Ups.len {k : Nat} {Q : List (Nod (Nat × Nat))} (hU : Ups k Q) : ∀ (j : Nat) (n : Nod (Nat × Nat)), Q[j]? = some n → n.w.length ≤ j := by
  intro j
  induction j using Nat.strongRecOn with
  | ind j ih =>
    intro n hj
    by_cases z : 0 < j
    · obtain ⟨m, q1, q2, q3, q4⟩ := hU.2 j n hj z
      have := ih n.u q2 m q1
      rw [q3]; simp; omega
    · have : j = 0 := by omega
      subst this
      rw [hU.1 n hj]; simp

set_option maxHeartbeats 4000000 in
set_option maxRecDepth 100000 in
theorem rway_any (base g cap : Nat) (Q : List (Nod (Nat × Nat))) (k : Nat) (hk : k ≤ 8) (hQ : Q.length ≤ 16777216) (hU : Ups k Q) (at0 : Nat) (n0 : Nod (Nat × Nat)) (h0 : Q[at0]? = some n0) (w : World) (h : w.ownsRow base 71 4 (.slice (some ⟨g, 0, none⟩) Q.length cap) Q.length (Q.flatMap pcC)) :
    Calls Try.prog 52 #[.slice (some ⟨g, 0, none⟩) Q.length cap, .int .i64 at0] w fun e w' => e = .returned (.string ⟨(lB n0.w).toArray⟩) ∧ Below w.heap.size w w' := by
  obtain ⟨i0, hi, hz0, hz1, hz2⟩ := info_parts Try.info_u8
  have HU : Hid (Ups k Q) := hU
  have HQC : Hid (∀ y, Below w.heap.size w y → ∀ (i : Nat) (n : Nod (Nat × Nat)), Q[i]? = some n → y.cell? ⟨g, i * 4 + 2, none⟩ = some (.int .i64 (upI n)) ∧ y.cell? ⟨g, i * 4 + 3, none⟩ = some (.int .u8 (lb n))) := fun y hy i n hin => ⟨pc_cell (own_below h hy) hin (j := 2) (by omega), pc_cell (own_below h hy) hin (j := 3) (by omega)⟩
  have HL0 : Hid (n0.w.length ≤ 16777216) := by
    have h1 := hU.len at0 n0 h0
    have h2 := (List.getElem?_eq_some_iff.1 h0).1
    show _ ≤ _
    omega
  clear h hU
  go_enter Try.func52, Try.ntmps52
  go_wp2_with fail
  go_loopw [1, 5] (fun vs vo wr => ∃ (t : Nat) (n : Nod (Nat × Nat)) (l : List UInt8), vs = .int .i64 t ∧ Q[t]? = some n ∧ wr.ownsRow w.heap.size 5 1 vo l.length (byteCells l) ∧ lB n0.w = lB n.w ++ l.reverse ∧ Below w.heap.size w wr) (fun vs _ _ => (intOf vs).toNat)
  case atStart => exact ⟨at0, n0, [], rfl, h0, World.ownsRow_nil _ _ _ _, by simp, Below.refl _ _⟩
  case round =>
    obtain ⟨t, n, l, rfl, ht, ho, hlw, hb⟩ := hrel
    obtain ⟨va, vc, rfl⟩ := own_shape ho
    have HO : Hid (wr.ownsRow w.heap.size 5 1 (.slice va l.length vc) l.length (byteCells l)) := ho
    have HLW : Hid (lB n0.w = lB n.w ++ l.reverse) := hlw
    have HB : Hid (Below w.heap.size w wr) := hb
    have htQ := (List.getElem?_eq_some_iff.1 ht).1
    have htI : (t : Int) < Q.length := by omega
    have hll : l.length ≤ 16777216 := by
      have h1 := congrArg List.length hlw
      have h2 := HL0.out
      simp [lB_len] at h1
      omega
    have hws := hb.size
    obtain ⟨q1, q2⟩ := HQC.out wr hb t n ht
    by_cases ht0 : t = 0
    · subst ht0
      have HE : Hid (l.reverse = lB n0.w) := by show _ = _; rw [HLW.out, HU.out.1 n ht]; simp [lB]
      have hup : upI n = -1 := by unfold upI; rw [if_pos (HU.out.1 n ht)]
      rw [hup] at q1
      obtain ⟨L, hL⟩ : ∃ L, l.length = L := ⟨_, rfl⟩
      have HLL : Hid (l.length = L) := hL
      have HO' : Hid (wr.ownsRow w.heap.size 5 1 (.slice va L vc) L (byteCells l)) := by have := HO.out; rw [hL] at this; exact this
      rw [hL]
      rw [hL] at hll
      have hw1 : IntKind.i64.wrap ((L : Int) - 1) = (L : Int) - 1 := by rw [IntKind.wrap_i64]; omega
      clear ho hlw hb hup hL q2
      obtain ⟨wq, hwq⟩ : ∃ wq, wq = wr := ⟨_, rfl⟩
      subst hwq
      go_wp2_with fail
      go_loopw [6, 7, 8] (fun s2 s3 _ wr => ∃ (i : Nat), s2 = .int .i64 i ∧ s3 = .int .i64 ((L : Int) - 1 - i) ∧ 2 * i ≤ L + 1 ∧ wr.ownsRow w.heap.size 5 1 (.slice va L vc) L (byteCells (revTo l i)) ∧ Below w.heap.size w wr) (fun s2 _ _ _ => L - (intOf s2).toNat)
      case atStart => exact ⟨0, rfl, by simp, by omega, by rw [revTo_zero]; exact HO'.out, HB.out⟩
      case round =>
        clear q1 HO HO'
        obtain ⟨i, rfl, rfl, hi, hown, hb⟩ := hrel
        by_cases hlt : 2 * i + 1 < L
        · obtain ⟨gv, rfl⟩ : ∃ gv, va = some ⟨gv, 0, none⟩ := by
            rcases hown.2 with ⟨_, h0⟩ | ⟨g', cap', cur, hv, _⟩
            · omega
            · simp only [Value.slice.injEq] at hv
              exact ⟨g', hv.1⟩
          have hgl := (hown.lt gv rfl).1
          have ci := hown.cellAt i (by omega)
          have cj := hown.cellAt (L - 1 - i) (by omega)
          have fi := hown.frozenAt i
          have R := swap_row (l := l) (i := i) (by rw [HLL.out]; exact hown) (by rw [HLL.out]; exact hlt)
          rw [byteCells_get _ _ _ (revTo_get l i i (by rw [HLL.out]; omega)), if_neg (by rw [HLL.out]; omega)] at ci
          rw [byteCells_get _ _ _ (revTo_get l i (L - 1 - i) (by rw [HLL.out]; omega)), if_neg (by rw [HLL.out]; omega)] at cj
          rw [HLL.out] at R
          have e1 : L - 1 - (L - 1 - i) = i := by omega
          obtain ⟨j, hj⟩ : ∃ j, L - 1 - i = j := ⟨_, rfl⟩
          rw [hj] at cj R
          have ej : ((L : Int) - 1 - i) = (j : Int) := by omega
          have h1 : (i : Int) < j := by omega
          have h2 : (j : Int) < L := by omega
          have h3 : (i : Int) < L := by omega
          rw [ej]
          obtain ⟨x, hx⟩ : ∃ x : Int, (((l.getD i 0).toNat : Nat) : Int) = x := ⟨_, rfl⟩
          obtain ⟨y, hy⟩ : ∃ y : Int, (((l.getD j 0).toNat : Nat) : Int) = y := ⟨_, rfl⟩
          rw [hx] at R ci
          rw [hy] at R cj
          have hsti := (hown.stored i (.int .u8 y)).1
          have cj2 : (wr.setCell ⟨gv, i, none⟩ (.int .u8 y)).cell? ⟨gv, j, none⟩ = some (.int .u8 y) := by
            rw [hsti.cellAt j (by omega), List.getElem?_set, if_neg (by omega)]
            have := hown.cellAt j (by omega)
            rw [cj] at this
            exact this.symm
          have fj2 : (wr.setCell ⟨gv, i, none⟩ (.int .u8 y)).frozen? ⟨gv, j, none⟩ = false := hsti.frozenAt j
          have hwj : IntKind.i64.wrap ((j : Int) - 1) = (j : Int) - 1 := by rw [IntKind.wrap_i64]; omega
          have HR : Hid (((wr.setCell ⟨gv, i, none⟩ (.int .u8 y)).setCell ⟨gv, j, none⟩ (.int .u8 x)).ownsRow w.heap.size 5 1 (.slice (some ⟨gv, 0, none⟩) L vc) L (byteCells (revTo l (i + 1)))) := R
          have HBB : Hid (Below w.heap.size w ((wr.setCell ⟨gv, i, none⟩ (.int .u8 y)).setCell ⟨gv, j, none⟩ (.int .u8 x))) := (hb.setCell (p := ⟨gv, i, none⟩) hgl _).setCell (p := ⟨gv, j, none⟩) hgl _
          have HJ : Hid (L - 1 - i = j) := hj
          clear R hj ej hown hb hsti hx hy e1
          go_wp2_with fail
          go_roundw
          case rel =>
            have hJ := HJ.out
            exact ⟨i + 1, by go_num, congrArg (Value.int .i64) (by omega), by omega, HR.out, HBB.out⟩
          case measure => simp [intOf]; omega
        · have h1 : ¬ (i : Int) < (L : Int) - 1 - i := by omega
          have he := revTo_end l i (by rw [HLL.out]; omega)
          rw [he, HE.out] at hown
          have hcv := run_string_own w.heap.size (.slice va L vc) (lB n0.w) wr (by have e : (lB n0.w).length = L := (by rw [← HE.out, List.length_reverse, HLL.out]); rw [e]; exact hown)
          have HBB : Hid (Below w.heap.size w wr) := hb
          clear he hown hb
          go_wp2_with fail
          go_ret
          exact ⟨rfl, HBB.out⟩
    · obtain ⟨m, m1, m2, m3, m4⟩ := HU.out.2 t n ht (by omega)
      have hlbe : lb n = 97 + (n.c : Int) := by unfold lb; rw [if_neg (by rw [m3]; simp)]
      have hupe : upI n = (n.u : Int) := by unfold upI; rw [if_neg (by rw [m3]; simp)]
      obtain ⟨c, hc⟩ : ∃ c, UInt8.ofNat (97 + n.c) = c := ⟨_, rfl⟩
      have hcn : c.toNat = 97 + n.c := by rw [← hc, UInt8.toNat_ofNat']; omega
      have hlc : lb n = (c.toNat : Int) := by rw [hlbe, hcn]; omega
      rw [hlc] at q2
      obtain ⟨u, hu⟩ : ∃ u, n.u = u := ⟨_, rfl⟩
      rw [hupe, hu] at q1
      rw [hu] at m1 m2
      have hu0 : ¬ (u : Int) < 0 := by omega
      have hu1 : (0 : Int) ≤ u := by omega
      have HNX : Hid (lB n0.w = lB m.w ++ (l ++ [c]).reverse) := by
        show _ = _
        have e : lB [n.c] = [c] := by show [UInt8.ofNat (97 + n.c)] = [c]; rw [hc]
        rw [HLW.out, m3, lB_append, e]
        simp
      have HQU : Hid (Q[t]? = some n ∧ upI n = (u : Int)) := ⟨ht, by rw [hupe, hu]⟩
      have HM1 : Hid (Q[u]? = some m) := m1
      clear ho hlw hb hc hcn hlbe hlc hu m3 m1 ht hupe
      go_wp2_with (at_builtin; refine wpList_append_own _ rfl _ _ 98 rfl w.heap.size 5 i0 (.int .u8 0) 1 1 Try.underlying98 hi hz0 hz1 hz2 rfl (by decide) _ _ _ rfl (HO.out.alloc _) ⟨wr.heap.size, 0, none⟩ 1 1 [.int .u8 (c.toNat : Int)] rfl rfl (cell_one_new _ _ _) (by intro u hu; simp at hu; subst hu; rfl) (by unfold maxLen; omega) (by omega) (by simp; omega) ?_; intro v9 w9 ho9 hg9 _; have HO9 : Hid (w9.ownsRow w.heap.size 5 1 v9 (l ++ [c]).length (byteCells (l ++ [c]))) := (by show World.ownsRow _ _ _ _ _ _ _; rw [List.length_append]; exact own_snoc ho9); obtain ⟨va9, vc9, rfl⟩ := own_shape ho9; have hb9 : Below w.heap.size w w9 := (HB.out.alloc HB.out.size _).grown hg9 (by simp; omega) (fun g hg => (HO.out.lt g hg).1); have HB9 : Hid (Below w.heap.size w w9) := hb9; have qq := (HQC.out w9 hb9 t n HQU.out.1).1; rw [HQU.out.2] at qq; clear ho9 hg9 hb9)
      go_roundw
      case rel => exact ⟨u, m, l ++ [c], by go_num, HM1.out, HO9.out, HNX.out, HB9.out⟩
      case measure => simp [intOf]; omega
end Go.Proofs.Ytggheiblgghpkaa
