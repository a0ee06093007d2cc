/- E19 E20 E21 E22 E23 E25 E28 E29 E32h E32, in one text. -/
import Derived.Test.YtflclnkaccbfcaaE18
import Derived.Shelf.LaysM
import Derived.Shelf.Strconv.Clone
import Derived.Test.YtflclnkaccbfcaaChk
import Derived.Lib.OthersKept
import Derived.Test.YtflclnkaccbfcaaE12
import Derived.Test.YtflclnkaccbfcaaJe
import Derived.Laws.IdiomStrings
import Derived.Test.YtflclnkaccbfcaaJd
import Derived.Test.YtflclnkaccbfcaaJf
namespace Go.Proofs.Ytflclnkaccbfcaa
open Go Go.RowKit Go.Lib Go.Maps
set_option linter.unusedVariables false
attribute [-instance] List.instBEq instBEqProd

theorem eq_ptrM (a : Addr) (w : World) : (binOp .eql 22 (.pointer (some a)) (.pointer (some a))).run Try.prog w = .ok (.bool true) w := by
  simp only [binOp]
  simp only [Op.equal, Op.maxDepth]
  rw [show (10000 : Nat) = 9999 + 1 from rfl, Op.equalIn]
  simp [Sem.run_bind, run_underlying Try.underlying22, sameAddr]

set_option maxHeartbeats 1000000 in
set_option maxRecDepth 100000 in
theorem mmade_any {w : World} {ob : Nat} {A : Aut} {M : List (List Nat)} {N : List Nat} (h : MO w ob A M N) : Calls Try.prog 64 #[.pointer (some ⟨ob, 0, none⟩)] w fun e w' => e = .returned (.bool true) ∧ w = w' := by
  obtain ⟨base, bt, b, mb, gw, ga, R, n, a, c, d, vl, D, an, cn, aa, ca, h⟩ := h
  have h0 : w.cell? ⟨ob, 0, none⟩ = some (.pointer (some ⟨ob, 0, none⟩)) := cell_at h.box rfl
  have he := eq_ptrM ⟨ob, 0, none⟩ w
  clear h
  go_enter Try.func64, Try.ntmps64
  go_wp2_with fail
  go_ret
  exact ⟨rfl, rfl⟩

set_option maxHeartbeats 1000000 in
set_option maxRecDepth 100000 in
theorem mlen_any {w : World} {ob : Nat} {A : Aut} {M : List (List Nat)} {N : List Nat} (h : MO w ob A M N) : Calls Try.prog 34 #[.pointer (some ⟨ob, 0, none⟩)] w fun e w' => e = .returned (.int .i64 (M.length : Nat)) ∧ w = w' := by
  have H : Hid (MO w ob A M N) := h
  obtain ⟨base, bt, b, mb, gw, ga, R, n, a, c, d, vl, D, an, cn, aa, ca, h⟩ := h
  have h5 : w.cell? ⟨ob, 5, none⟩ = some (.slice (some ⟨gw, 0, none⟩) n n) := cell_at h.box rfl
  have HN : Hid (M.length = n) := h.num.1
  clear h
  go_enter Try.func34, Try.ntmps34
  go_wp2_with fail
  refine (mmade_any H.out).mono ?_
  rintro e w1 ⟨rfl, rfl⟩
  go_wp2_with fail
  go_ret
  exact ⟨by rw [HN.out]; rfl, rfl⟩

/-- What check answers. -/
def mck (n : Nat) (i : Int) : Int := if 0 ≤ i ∧ i < n then 0 else 11

set_option maxHeartbeats 1000000 in
set_option maxRecDepth 100000 in
theorem mcheck_any {w : World} {ob : Nat} {A : Aut} {M : List (List Nat)} {N : List Nat} (h : MO w ob A M N) (i : Int) : Calls Try.prog 66 #[.pointer (some ⟨ob, 0, none⟩), .int .i64 i] w fun e w' => e = .returned (.int .i64 (mck M.length i)) ∧ w = w' := by
  have H : Hid (MO w ob A M N) := h
  obtain ⟨base, bt, b, mb, gw, ga, R, n, a, c, d, vl, D, an, cn, aa, ca, h⟩ := h
  have h5 : w.cell? ⟨ob, 5, none⟩ = some (.slice (some ⟨gw, 0, none⟩) n n) := cell_at h.box rfl
  have HN : Hid (M.length = n) := h.num.1
  rw [h.num.1]
  clear h
  by_cases h0 : 0 ≤ i
  · by_cases h1 : i < n
    · have HE : Hid (mck n i = 0) := by show mck n i = 0; unfold mck; rw [if_pos ⟨h0, h1⟩]
      have h0' : decide (i < 0) = false := by simpa using h0
      have h1' : ¬ (n : Int) ≤ i := by omega
      have h1d : decide ((n : Int) ≤ i) = false := by simpa using h1
      go_enter Try.func66, Try.ntmps66
      go_wp2_with fail
      refine (mmade_any H.out).mono ?_
      rintro e w1 ⟨rfl, rfl⟩
      go_wp2_with fail
      go_ret
      exact ⟨ret_intJ HE.out.symm, rfl⟩
    · have HE : Hid (mck n i = 11) := by show mck n i = 11; unfold mck; rw [if_neg (fun q => h1 q.2)]
      have h0' : decide (i < 0) = false := by simpa using h0
      have h1' : (n : Int) ≤ i := by omega
      have h1d : decide ((n : Int) ≤ i) = true := by simpa using h1'
      go_enter Try.func66, Try.ntmps66
      go_wp2_with fail
      refine (mmade_any H.out).mono ?_
      rintro e w1 ⟨rfl, rfl⟩
      go_wp2_with fail
      go_ret
      exact ⟨ret_intJ HE.out.symm, rfl⟩
  · have HE : Hid (mck n i = 11) := by show mck n i = 11; unfold mck; rw [if_neg (fun q => h0 q.1)]
    have h0' : i < 0 := by omega
    have h0d : decide (i < 0) = true := by simpa using h0'
    go_enter Try.func66, Try.ntmps66
    go_wp2_with fail
    refine (mmade_any H.out).mono ?_
    rintro e w1 ⟨rfl, rfl⟩
    go_wp2_with fail
    go_ret
    exact ⟨ret_intJ HE.out.symm, rfl⟩

set_option maxHeartbeats 1000000 in
set_option maxRecDepth 100000 in
theorem mproduct_ok {w : World} {ob : Nat} {A : Aut} {M : List (List Nat)} {N : List Nat} (h : MO w ob A M N) (i j : Nat) (hi : i < M.length) (hj : j < M.length) : Calls Try.prog 65 #[.pointer (some ⟨ob, 0, none⟩), .int .i64 i, .int .i64 j] w fun e w' => e = .returned (.tuple #[.int .i64 (pr A.k.toNat N i j : Nat), .int .i64 0]) ∧ Below w.heap.size w w' := by
  have H : Hid (MO w ob A M N) := h
  have hmo := h
  obtain ⟨base, bt, b, mb, gw, ga, R, n, a, c, d, vl, D, an, cn, aa, ca, h⟩ := h
  have HP : Hid (pr A.k.toNat N i j < M.length) := h.mon.pr_lt hi hj
  have hnm := h.num
  have hms := h.mon.most
  have c11 : w.cell? ⟨ob, 11, none⟩ = some (.int .i64 (n : Int)) := cell_at h.box rfl
  have c12 : w.cell? ⟨ob, 12, none⟩ = some (.slice (some ⟨R, d, none⟩) c c) := cell_at h.box rfl
  have HCI : Hid (mck M.length i = 0) := by show mck _ _ = 0; unfold mck; rw [if_pos ⟨by omega, by omega⟩]
  have HCJ : Hid (mck M.length j = 0) := by show mck _ _ = 0; unfold mck; rw [if_pos ⟨by omega, by omega⟩]
  obtain ⟨q, hq⟩ : ∃ q, i * n = q := ⟨_, rfl⟩
  obtain ⟨v, hv⟩ : ∃ v, pr A.k.toNat N i j = v := ⟨_, rfl⟩
  have hn2 : n * n ≤ 512 * 512 := Nat.mul_le_mul (by omega) (by omega)
  have hqlt : q + j < c := by rw [← hq, ← hnm.2.2.1]; exact idx_lt (by omega) (by omega)
  have hcell := h.rt.prod (i := i) (j := j) (by omega) (by omega) trivial
  rw [hv, hnm.2.1, hnm.2.2.2, hq] at hcell
  rw [hv] at HP
  rw [hv]
  have HG : Hid (Calls Try.prog 67 #[.agg #[.int .i64 (n : Int), .slice (some ⟨R, d, none⟩) c c], .int .i64 i, .int .i64 j] w fun e w' => e = .returned (.int .i64 v) ∧ Below w.heap.size w w') := gat_any R d n i j c c q v hq hqlt (by have := HP.out; omega) (by omega) w hcell h.rt.lt
  clear h hmo hnm hcell hn2 hq hqlt hv
  go_enter Try.func65, Try.ntmps65
  go_wp2_with fail
  refine (mcheck_any H.out i).mono ?_
  rintro e w1 ⟨rfl, rfl⟩
  rw [HCI.out]
  go_wp2_with fail
  refine (mcheck_any H.out j).mono ?_
  rintro e w1 ⟨rfl, rfl⟩
  rw [HCJ.out]
  go_wp2_with fail
  refine HG.out.mono ?_
  rintro e w1 ⟨rfl, hb⟩
  go_wp2_with fail
  go_ret2
  exact ⟨rfl, hb⟩

end Go.Proofs.Ytflclnkaccbfcaa

namespace Go.Proofs.Ytflclnkaccbfcaa
open Go.RowKit Go.Lib Go.Shelf

end Go.Proofs.Ytflclnkaccbfcaa

namespace Go.Proofs.Ytflclnkaccbfcaa
open Go Go.RowKit Go.Lib Go.Maps
set_option linter.unusedVariables false
attribute [-instance] List.instBEq instBEqProd

def itP (w : World) (k : Nat) : Nat := match w.heap[k]? with | some (.stringIter _ p) => p | _ => 0

theorem itP_eq {w : World} {k : Nat} {s : ByteArray} {p : Nat} (h : w.heap[k]? = some (.stringIter s p)) : itP w k = p := by unfold itP; rw [h]

theorem it_below {n k : Nat} {w w1 : World} {s : ByteArray} {p : Nat} (h : Below n w w1) (hk : n ≤ k) : Below n w (w1.iterAt k s p) :=
  h.trans ⟨rfl, rfl, rfl, by simp [World.iterAt], fun j hj => iterAt_other _ _ _ _ _ (by omega)⟩

end Go.Proofs.Ytflclnkaccbfcaa

namespace Go.Proofs.Ytflclnkaccbfcaa
open Go Go.RowKit Go.Lib Go.Maps
set_option linter.unusedVariables false
attribute [-instance] List.instBEq instBEqProd

theorem num14_any (n : Int) (w : World) : Calls Try.prog 41 #[.int .i64 n] w fun e w' => e = .returned (.int .i64 n) ∧ w = w' := by
  go_enter Try.func41, Try.ntmps41
  go_wp2
  go_ret
  exact ⟨rfl, rfl⟩

/-- The automaton of (ab)*. -/
def pA : Aut := ⟨2, [1, 2, 2, 0, 2, 2], [true, false, false]⟩

theorem pA_good : Good pA := by
  refine ⟨by decide, by decide, by decide, by decide, by decide, ?_, ?_⟩
  · decide
  · decide

def pM : List (List Nat) := [[0, 1, 2], [1, 2, 2], [2, 0, 2], [2, 2, 2], [0, 2, 2], [2, 1, 2]]

def pN : List Nat := [1, 2, 3, 4, 5, 3, 3, 3, 1, 3, 3, 2]

theorem pA_el : mEl pA = some (pM, pN) := by decide +kernel

theorem pA_facts : pr 2 pN 4 1 = 1 ∧ mr 2 pN 0 [1, 1] = 3 ∧ lw 2 pN 3 = [0, 0] := by decide +kernel

/-- What Element answers. -/
def elV (A : Aut) (N : List Nat) (s : ByteArray) : Value := if chk A.k s = 0 then .tuple #[.int .i64 (mr A.k.toNat N 0 (lets s) : Nat), .int .i64 0] else .tuple #[.int .i64 0, .int .i64 (chk A.k s)]

set_option maxHeartbeats 1000000 in
set_option maxRecDepth 100000 in
theorem plain_any (w : World) : Calls Try.prog 38 #[] w fun e w' => ∃ v, e = .returned v ∧ AR w' v pA ∧ Below w.heap.size w w' := by
  obtain ⟨w3, hw3⟩ : ∃ w3, w3 = (((w.alloc (.cells #[.int .i64 2, .slice (some ⟨w.heap.size + 1, 0, none⟩) 6 6, .slice (some ⟨w.heap.size + 1 + 1, 0, none⟩) 3 3] 26)).alloc (.cells #[.int .i64 1, .int .i64 2, .int .i64 2, .int .i64 0, .int .i64 2, .int .i64 2] 3)).alloc (.cells #[.bool true, .bool false, .bool false] 4)) := ⟨_, rfl⟩
  have HW3 : Hid (w3 = (((w.alloc (.cells #[.int .i64 2, .slice (some ⟨w.heap.size + 1, 0, none⟩) 6 6, .slice (some ⟨w.heap.size + 1 + 1, 0, none⟩) 3 3] 26)).alloc (.cells #[.int .i64 1, .int .i64 2, .int .i64 2, .int .i64 0, .int .i64 2, .int .i64 2] 3)).alloc (.cells #[.bool true, .bool false, .bool false] 4))) := hw3
  have H0 : Hid (w3.heap[w.heap.size]? = some (.cells #[.int .i64 2, .slice (some ⟨w.heap.size + 1, 0, none⟩) 6 6, .slice (some ⟨w.heap.size + 1 + 1, 0, none⟩) 3 3] 26 (0, 0))) := by
    show _ = _
    rw [hw3, heap_allo (by simp; omega), heap_allo (by simp)]
    exact heap_last _ _
  have H1 : Hid (w3.heap[w.heap.size + 1]? = some (.cells #[.int .i64 1, .int .i64 2, .int .i64 2, .int .i64 0, .int .i64 2, .int .i64 2] 3 (0, 0))) := by
    show _ = _
    rw [hw3, heap_allo (by simp)]
    have := heap_last (w.alloc (.cells #[.int .i64 2, .slice (some ⟨w.heap.size + 1, 0, none⟩) 6 6, .slice (some ⟨w.heap.size + 1 + 1, 0, none⟩) 3 3] 26)) (.cells #[.int .i64 1, .int .i64 2, .int .i64 2, .int .i64 0, .int .i64 2, .int .i64 2] 3)
    rwa [World.size_alloc] at this
  have H2 : Hid (w3.heap[w.heap.size + 1 + 1]? = some (.cells #[.bool true, .bool false, .bool false] 4 (0, 0))) := by
    show _ = _
    rw [hw3]
    have := heap_last ((w.alloc (.cells #[.int .i64 2, .slice (some ⟨w.heap.size + 1, 0, none⟩) 6 6, .slice (some ⟨w.heap.size + 1 + 1, 0, none⟩) 3 3] 26)).alloc (.cells #[.int .i64 1, .int .i64 2, .int .i64 2, .int .i64 0, .int .i64 2, .int .i64 2] 3)) (.cells #[.bool true, .bool false, .bool false] 4)
    rwa [World.size_alloc, World.size_alloc] at this
  have HB : Hid (Below w.heap.size w w3) := by show Below _ _ _; rw [hw3]; exact go_on (go_on (below_new _ _) (below_new _ _)) (below_new _ _)
  clear hw3
  go_enter Try.func38, Try.ntmps38
  go_wp2_with fail
  rw [← HW3.out]
  refine bodyPost_ret (results_cell_row rfl _ _ w.heap.size 26 _ (0, 0) _ rfl H0.out Try.underlying26 rfl (by rw [Try.info_au]; rfl)) rfl ⟨_, rfl, ⟨_, _, _, _, rfl, ?_, ?_⟩, HB.out⟩
  · intro j u hj
    refine ⟨_, _, rfl, (Array.getElem?_eq_some_iff.1 H1.out).1, ?_⟩
    rw [Nat.zero_add, cell_of_row _ _ _ _ _ _ H1.out]
    rw [← hj]
    simp [pA, zC]
  · intro j u hj
    refine ⟨_, _, rfl, (Array.getElem?_eq_some_iff.1 H2.out).1, ?_⟩
    rw [Nat.zero_add, cell_of_row _ _ _ _ _ _ H2.out]
    rw [← hj]
    simp [pA, bC]

end Go.Proofs.Ytflclnkaccbfcaa

namespace Go.Proofs.Ytflclnkaccbfcaa
open Go Go.RowKit Go.Lib Go.Maps
set_option linter.unusedVariables false

/-- No monoid, or one whose mark is nil. -/
def NoM (w : World) (x : Value) : Prop := x = .pointer none ∨ ∃ b, x = .pointer (some ⟨b, 0, none⟩) ∧ b < w.heap.size ∧ w.cell? ⟨b, 0, none⟩ = some (.pointer none)

theorem NoM.below {w w' : World} {x : Value} (h : NoM w x) (hb : Below w.heap.size w w') : NoM w' x := by
  rcases h with h | ⟨b, h1, h2, h3⟩
  · exact .inl h
  · exact .inr ⟨b, h1, Nat.lt_of_lt_of_le h2 hb.size, by rw [below_cellJ hb h2]; exact h3⟩

theorem eq_nilM (a : Addr) (w : World) : (binOp .eql 22 (.pointer none) (.pointer (some a))).run Try.prog w = .ok (.bool false) w := by
  simp only [binOp]
  simp only [Op.equal, Op.maxDepth]
  rw [show (10000 : Nat) = 9999 + 1 from rfl, Op.equalIn]
  simp [Sem.run_bind, run_underlying Try.underlying22]

set_option maxHeartbeats 1000000 in
set_option maxRecDepth 100000 in
theorem mmade_no (x : Value) (w : World) (h : NoM w x) : Calls Try.prog 64 #[x] w fun e w' => e = .returned (.bool false) ∧ w = w' := by
  rcases h with rfl | ⟨b, rfl, hb, hc⟩
  · go_enter Try.func64, Try.ntmps64
    go_wp2_with fail
    go_ret
    exact ⟨rfl, rfl⟩
  · have heq := eq_nilM ⟨b, 0, none⟩ w
    go_enter Try.func64, Try.ntmps64
    go_wp2_with fail
    go_ret
    exact ⟨rfl, rfl⟩

set_option maxHeartbeats 1000000 in
set_option maxRecDepth 100000 in
theorem mlen_no (x : Value) (w : World) (h : NoM w x) : Calls Try.prog 34 #[x] w fun e w' => e = .returned (.int .i64 0) ∧ w = w' := by
  have HX : Hid (NoM w x) := h
  clear h
  go_enter Try.func34, Try.ntmps34
  go_wp2_with (go_at_call 64; refine (mmade_no _ _ HX.out).mono ?_; rintro e w1 ⟨rfl, rfl⟩)
  go_ret
  exact ⟨rfl, rfl⟩

set_option maxHeartbeats 1000000 in
set_option maxRecDepth 100000 in
theorem mcheck_no (x : Value) (i : Int) (w : World) (h : NoM w x) : Calls Try.prog 66 #[x, .int .i64 i] w fun e w' => e = .returned (.int .i64 1) ∧ w = w' := by
  have HX : Hid (NoM w x) := h
  clear h
  go_enter Try.func66, Try.ntmps66
  go_wp2_with (go_at_call 64; refine (mmade_no _ _ HX.out).mono ?_; rintro e w1 ⟨rfl, rfl⟩)
  go_ret
  exact ⟨rfl, rfl⟩

set_option maxHeartbeats 1000000 in
set_option maxRecDepth 100000 in
theorem mProduct_no (x : Value) (i j : Int) (w : World) (h : NoM w x) : Calls Try.prog 65 #[x, .int .i64 i, .int .i64 j] w fun e w' => e = .returned (.tuple #[.int .i64 0, .int .i64 1]) ∧ w = w' := by
  have HX : Hid (NoM w x) := h
  clear h
  go_enter Try.func65, Try.ntmps65
  go_wp2_with (go_at_call 66; refine (mcheck_no _ _ _ HX.out).mono ?_; rintro e w1 ⟨rfl, rfl⟩)
  go_ret2
  exact ⟨rfl, rfl⟩

set_option maxHeartbeats 1000000 in
set_option maxRecDepth 100000 in
theorem mPower_no (x : Value) (i k : Int) (w : World) (h : NoM w x) : Calls Try.prog 37 #[x, .int .i64 i, .int .u64 k] w fun e w' => e = .returned (.tuple #[.int .i64 0, .int .i64 1]) ∧ w = w' := by
  have HX : Hid (NoM w x) := h
  clear h
  go_enter Try.func37, Try.ntmps37
  go_wp2_with (go_at_call 66; refine (mcheck_no _ _ _ HX.out).mono ?_; rintro e w1 ⟨rfl, rfl⟩)
  go_ret2
  exact ⟨rfl, rfl⟩

end Go.Proofs.Ytflclnkaccbfcaa

namespace Go.Proofs.Ytflclnkaccbfcaa
open Go Go.RowKit Go.Lib Go.Maps
set_option linter.unusedVariables false
attribute [-instance] List.instBEq instBEqProd

theorem owE_ok {A : Aut} (h : owE A ByteArray.empty = 0) : Good A ∧ A.ac.length ≤ 64 := by
  unfold owE at h
  split at h
  · rename_i hc
    split at h
    · cases h
    · exact ⟨chkA_good hc, by omega⟩
  · cases h

theorem owE_good {A : Aut} (G : Good A) (h : A.ac.length ≤ 64) : owE A ByteArray.empty = 0 := by
  unfold owE
  rw [if_pos (by unfold chkA; rw [if_pos G]), if_neg (by omega)]
  exact chk_empty G

set_option maxHeartbeats 2000000 in
set_option maxRecDepth 100000 in
theorem find_bad (v : Value) (A : Aut) (w : World) (h : AR w v A) (hm : A.nx.length ≤ 9223372036854775806) (hm2 : A.ac.length ≤ 9223372036854775806) (hE : owE A ByteArray.empty ≠ 0) :
    Calls Try.prog 59 #[v] w fun e w' => e = .returned (.tuple #[.pointer none, .int .i64 (owE A ByteArray.empty)]) ∧ Below w.heap.size w w' := by
  obtain ⟨an, cn, aa, ca, e, h1, h2⟩ := h.is
  have HA : Hid (∀ w', Below w.heap.size w w' → AR w' v A) := fun w' hb => h.stay hb
  clear h h1 h2
  subst e
  obtain ⟨w0, hw0⟩ : ∃ w0, w0 = w.alloc (.cells #[.int .i64 A.k, .slice an A.nx.length cn, .slice aa A.ac.length ca] 26) := ⟨_, rfl⟩
  have HB0 : Hid (Below w.heap.size w w0) := by show Below _ _ _; rw [hw0]; exact below_new _ _
  have HW0 : Hid (w0 = w.alloc (.cells #[.int .i64 A.k, .slice an A.nx.length cn, .slice aa A.ac.length ca] 26)) := hw0
  obtain ⟨E, hEE⟩ : ∃ E, owE A ByteArray.empty = E := ⟨_, rfl⟩
  have HOW : Hid (∀ y, Below w.heap.size w y → Calls Try.prog 76 #[.agg #[.int .i64 A.k, .slice an A.nx.length cn, .slice aa A.ac.length ca], .string ByteArray.empty] y fun e w' => e = .returned (.tuple #[.agg #[.int .i64 0, .int .u64 0, .int .u64 0, .int .u64 0, .int .u64 0, .int .u64 0, .int .u64 0, .int .u64 0], .int .i64 E]) ∧ Below y.heap.size y w') := fun y hy => by
    have := ofWord_any _ A y (HA.out y hy) hm hm2 ByteArray.empty (by show 0 ≤ _; omega)
    unfold owV at this
    rw [if_neg hE, hEE] at this
    exact this
  rw [hEE] at hE ⊢
  have hq0 : (E != 0) = true := by rw [bne_iff_ne]; exact hE
  clear hw0 hEE hE
  go_enter Try.func59, Try.ntmps59
  go_wp2_with fail
  rw [← HW0.out]
  refine (HOW.out _ HB0.out).mono ?_
  rintro e w1 ⟨rfl, hB1⟩
  have HB1 : Hid (Below w.heap.size w w1) := go_on HB0.out hB1
  have HB2 : Hid (Below w.heap.size w (w1.alloc (.cells #[.int .i64 0, .int .u64 0, .int .u64 0, .int .u64 0, .int .u64 0, .int .u64 0, .int .u64 0, .int .u64 0] 119))) := go_on HB1.out (below_new _ _)
  clear hB1
  go_wp2_with fail
  go_ret2
  exact ⟨rfl, HB2.out⟩

/-- Build's error. -/
noncomputable def bdE (A : Aut) : Int := if owE A ByteArray.empty = 0 then (if (mEl A).isSome = true then 0 else 140) else owE A ByteArray.empty

/-- What Build answers. -/
def BdA (A : Aut) (w : World) (e : Ending) (w' : World) : Prop :=
  (bdE A ≠ 0 ∧ e = .returned (.tuple #[.pointer none, .int .i64 (bdE A)]) ∧ Below w.heap.size w w') ∨
  ∃ ob M N, e = .returned (.tuple #[.pointer (some ⟨ob, 0, none⟩), .int .i64 0]) ∧ Good A ∧ A.ac.length ≤ 64 ∧ mEl A = some (M, N) ∧ MO w' ob A M N ∧ Below w.heap.size w w'

set_option maxHeartbeats 2000000 in
set_option maxRecDepth 100000 in
theorem build_bad (v : Value) (A : Aut) (w : World) (h : AR w v A) (hm : A.nx.length ≤ 9223372036854775806) (hm2 : A.ac.length ≤ 9223372036854775806) (hE : owE A ByteArray.empty ≠ 0) :
    Calls Try.prog 33 #[v] w fun e w' => e = .returned (.tuple #[.pointer none, .int .i64 (owE A ByteArray.empty)]) ∧ Below w.heap.size w w' := by
  obtain ⟨an, cn, aa, ca, e, h1, h2⟩ := h.is
  have HA : Hid (∀ w', Below w.heap.size w w' → AR w' v A) := fun w' hb => h.stay hb
  clear h h1 h2
  subst e
  obtain ⟨w0, hw0⟩ : ∃ w0, w0 = w.alloc (.cells #[.int .i64 A.k, .slice an A.nx.length cn, .slice aa A.ac.length ca] 26) := ⟨_, rfl⟩
  have HB0 : Hid (Below w.heap.size w w0) := by show Below _ _ _; rw [hw0]; exact below_new _ _
  have HW0 : Hid (w0 = w.alloc (.cells #[.int .i64 A.k, .slice an A.nx.length cn, .slice aa A.ac.length ca] 26)) := hw0
  obtain ⟨E, hEE⟩ : ∃ E, owE A ByteArray.empty = E := ⟨_, rfl⟩
  have HFD : Hid (∀ y, Below w.heap.size w y → Calls Try.prog 59 #[.agg #[.int .i64 A.k, .slice an A.nx.length cn, .slice aa A.ac.length ca]] y fun e w' => e = .returned (.tuple #[.pointer none, .int .i64 E]) ∧ Below y.heap.size y w') := fun y hy => by
    have := find_bad _ A y (HA.out y hy) hm hm2 hE
    rw [hEE] at this
    exact this
  rw [hEE] at hE ⊢
  have hq0 : (E != 0) = true := by rw [bne_iff_ne]; exact hE
  clear hw0 hEE hE
  go_enter Try.func33, Try.ntmps33
  go_wp2_with fail
  rw [← HW0.out]
  refine (HFD.out _ HB0.out).mono ?_
  rintro e w1 ⟨rfl, hB1⟩
  have HB1 : Hid (Below w.heap.size w w1) := go_on HB0.out hB1
  clear hB1
  go_wp2_with fail
  go_ret2
  exact ⟨rfl, HB1.out⟩

theorem build_all (v : Value) (A : Aut) (w : World) (h : AR w v A) (hm : A.nx.length ≤ 9223372036854775806) (hm2 : A.ac.length ≤ 9223372036854775806) :
    Calls Try.prog 33 #[v] w (BdA A w) := by
  by_cases hE : owE A ByteArray.empty = 0
  · obtain ⟨G, h64⟩ := owE_ok hE
    refine (build_any v A w h G h64).mono ?_
    rintro e w' (⟨hn, rfl, hb⟩ | ⟨ob, M, N, rfl, he, hmo, hb⟩)
    · have e1 : bdE A = 140 := by unfold bdE; rw [if_pos hE, hn]; rfl
      exact .inl ⟨by rw [e1]; decide, by rw [e1], hb⟩
    · exact .inr ⟨ob, M, N, rfl, G, h64, he, hmo, hb⟩
  · refine (build_bad v A w h hm hm2 hE).mono ?_
    rintro e w' ⟨rfl, hb⟩
    have e1 : bdE A = owE A ByteArray.empty := by unfold bdE; rw [if_neg hE]
    exact .inl ⟨by rw [e1]; exact hE, by rw [e1], hb⟩

/-- What the law's built answers. -/
def BtQ (A : Aut) (w : World) (e : Ending) (w' : World) : Prop :=
  (e = .returned (.tuple #[.pointer none, .bool false]) ∧ Below w.heap.size w w') ∨
  ∃ ob M N, e = .returned (.tuple #[.pointer (some ⟨ob, 0, none⟩), .bool true]) ∧ Good A ∧ A.ac.length ≤ 64 ∧ mEl A = some (M, N) ∧ MO w' ob A M N ∧ Below w.heap.size w w'

end Go.Proofs.Ytflclnkaccbfcaa

namespace Go.Proofs.Ytflclnkaccbfcaa
open Go Go.RowKit Go.Lib
set_option linter.unusedVariables false

theorem lets_app (u v : ByteArray) : lets (u ++ v) = lets u ++ lets v := by
  unfold lets
  rw [← List.map_append]
  congr 1

theorem chk_app (k : Int) (h1 : 1 ≤ k) (h8 : k ≤ 8) (u v : ByteArray) : chk k (u ++ v) = 0 ↔ chk k u = 0 ∧ chk k v = 0 := by
  unfold chk
  have h : ¬ (k < 1 ∨ 8 < k) := by omega
  rw [if_neg h, if_neg h, if_neg h]
  simp only [ByteArray.data_append, Array.toList_append, List.all_append]
  by_cases a : u.data.toList.all (letterAt k) = true
  · by_cases b : v.data.toList.all (letterAt k) = true
    · simp [a, b]
    · simp [a, b]
  · simp [a]

theorem wb_get (u : List Nat) {i : Nat} (hi : i < (wb u).size) : (wb u)[i] = UInt8.ofNat (97 + u[i]'(by rw [wb_size] at hi; exact hi)) := by
  have hi' : i < ((u.map fun c => UInt8.ofNat (97 + c)).toArray).size := hi
  have : (wb u)[i] = ((u.map fun c => UInt8.ofNat (97 + c)).toArray)[i]'hi' := rfl
  refine this.trans ?_
  rw [List.getElem_toArray, List.getElem_map]

theorem ofNat97 {c : Nat} (h : c < 8) : (UInt8.ofNat (97 + c)).toNat = 97 + c := by
  rw [UInt8.toNat_ofNat']
  exact Nat.mod_eq_of_lt (by omega)

theorem lets_wb {k : Nat} (hk : k ≤ 8) {u : List Nat} (h : Lt k u) : lets (wb u) = u := by
  unfold lets wb
  rw [List.map_map]
  show u.map _ = u
  conv => rhs; rw [← List.map_id u]
  apply List.map_congr_left
  intro c hc
  have := h c hc
  show (UInt8.ofNat (97 + c)).toNat - 97 = c
  rw [ofNat97 (by omega)]
  omega

theorem wb_lts {k : Int} (h1 : 1 ≤ k) (h8 : k ≤ 8) {u : List Nat} (h : Lt k.toNat u) : Lts k (wb u) ∧ chk k (wb u) = 0 := by
  have hL : Lts k (wb u) := by
    intro i hi
    have hm := h (u[i]'(by rw [wb_size] at hi; exact hi)) (List.getElem_mem _)
    rw [wb_get u hi, ofNat97 (by omega)]
    omega
  refine ⟨hL, chk_ok k _ h1 h8 (fun i hi => ?_)⟩
  have := hL i hi
  simp only [letterAt, decide_eq_true_eq]
  omega

theorem Lts.ltn {k : Int} (h1 : 1 ≤ k) {b : ByteArray} (h : Lts k b) : Lt k.toNat (lets b) := fun c hc => by have := h.lt_all c hc; omega

theorem conv_one (y : World) (c z : Nat) (hc : c < 8) (hz : 97 + c = z) : Sem.run Try.prog (convert 110 9 (.slice (some ⟨y.heap.size, 0, none⟩) 1 1)) (y.alloc (.cells #[.int .u8 (z : Int)] 5)) = .ok (.string (wb [c])) (y.alloc (.cells #[.int .u8 (z : Int)] 5)) := by
  subst hz
  refine run_convert_bytes_back _ _ _ 5 ⟨y.heap.size, 0, none⟩ 1 [UInt8.ofNat (97 + c)] Try.underlying110 Try.underlying5 Try.underlying9 ?_
  intro j hj
  obtain rfl : j = 0 := by simp at hj; omega
  have := (RowAt.last y #[.int .u8 ((97 + c : Nat) : Int)] 5).cell 0
  refine this.trans ?_
  show some (Value.int .u8 ((97 + c : Nat) : Int)) = some (Value.int .u8 ((UInt8.ofNat (97 + c)).toNat : Int))
  rw [ofNat97 hc]

theorem mr_first (K : Nat) (N : List Nat) (c : Nat) : mr K N 0 [c] = N.getD c 0 := by rw [mr_one, Nat.zero_mul, Nat.zero_add]

end Go.Proofs.Ytflclnkaccbfcaa

namespace Go.Proofs.Ytflclnkaccbfcaa
open Go Go.RowKit Go.Lib Go.Maps
set_option linter.unusedVariables false
attribute [-instance] List.instBEq instBEqProd

end Go.Proofs.Ytflclnkaccbfcaa

namespace Go.Proofs.Ytflclnkaccbfcaa
set_option linter.unusedVariables false

/-- Is it an element? -/
def hasE (n : Nat) (i : Int) : Bool := decide (0 ≤ i ∧ i < n)
end Go.Proofs.Ytflclnkaccbfcaa

namespace Go.Proofs.Ytflclnkaccbfcaa
open Go Go.RowKit Go.Lib
set_option linter.unusedVariables false
attribute [-instance] List.instBEq instBEqProd

theorem idx_ltM {n m i j : Nat} (hi : i < m) (hj : j < n) : i * n + j < m * n := by
  have := Nat.mul_le_mul_right n (show i + 1 ≤ m from hi)
  rw [Nat.add_mul] at this
  omega

/-- The images as a text. -/
def ib (l : List Nat) : ByteArray := ⟨(l.map fun s => UInt8.ofNat s).toArray⟩

/-- All that the document's monoid leads to. -/
structure RP (w : World) (rb : Nat) (A : Aut) (M : List (List Nat)) (N : List Nat) (an : Option Addr) (cn : Nat) (aa : Option Addr) (ca gi ci gw cw gn cg : Nat) : Prop where
  box : w.heap[rb]? = some (.cells #[.int .i64 A.k, .slice an A.nx.length cn, .slice aa A.ac.length ca, .slice (some ⟨gi, 0, none⟩) M.length ci, .slice (some ⟨gw, 0, none⟩) M.length cw, .slice (some ⟨gn, 0, none⟩) N.length cg] 112 (0, 0))
  nx : SR w an (zC A.nx)
  ac : SR w aa (bC A.ac)
  li : gi < w.heap.size
  img : ∀ j, j < M.length → w.cell? ⟨gi, j, none⟩ = some (.string (ib (M.getD j [])))
  lv : gw < w.heap.size
  wds : ∀ j, j < M.length → w.cell? ⟨gw, j, none⟩ = some (.string (wb (lw A.k.toNat N j)))
  ln : gn < w.heap.size
  nxt : ∀ p, p < N.length → w.cell? ⟨gn, p, none⟩ = some (.int .i64 ((N.getD p 0 : Nat) : Int))
  mon : Mon A M N
/-- A monoid that the document's Build made lies in block rb. -/
def RF (w : World) (rb : Nat) (A : Aut) (M : List (List Nat)) (N : List Nat) : Prop := ∃ an cn aa ca gi ci gw cw gn cg, RP w rb A M N an cn aa ca gi ci gw cw gn cg
theorem RF.below {w w' : World} {rb : Nat} {A : Aut} {M : List (List Nat)} {N : List Nat} (h : RF w rb A M N) (hb : Below w.heap.size w w') : RF w' rb A M N := by
  obtain ⟨an, cn, aa, ca, gi, ci, gw, cw, gn, cg, h⟩ := h
  exact ⟨an, cn, aa, ca, gi, ci, gw, cw, gn, cg, ⟨(hb.block _ (Array.getElem?_eq_some_iff.1 h.box).1).trans h.box, h.nx.stay hb, h.ac.stay hb, Nat.lt_of_lt_of_le h.li hb.size, fun j hj => by rw [below_cellJ hb h.li]; exact h.img j hj, Nat.lt_of_lt_of_le h.lv hb.size, fun j hj => by rw [below_cellJ hb h.lv]; exact h.wds j hj, Nat.lt_of_lt_of_le h.ln hb.size, fun j hj => by rw [below_cellJ hb h.ln]; exact h.nxt j hj, h.mon⟩⟩

set_option maxHeartbeats 1000000 in
theorem rlen_any {w : World} {rb : Nat} {A : Aut} {M : List (List Nat)} {N : List Nat} (h : RF w rb A M N) : Calls Try.prog 54 #[.pointer (some ⟨rb, 0, none⟩)] w fun e w' => e = .returned (.int .i64 (M.length : Nat)) ∧ w = w' := by
  obtain ⟨an, cn, aa, ca, gi, ci, gw, cw, gn, cg, h⟩ := h
  have c4 : w.cell? ⟨rb, 4, none⟩ = some (.slice (some ⟨gw, 0, none⟩) M.length cw) := cell_at h.box rfl
  clear h
  go_enter Try.func54, Try.ntmps54
  go_wp2_with fail
  go_ret
  exact ⟨rfl, rfl⟩

set_option maxHeartbeats 1000000 in
theorem rhas_any {w : World} {rb : Nat} {A : Aut} {M : List (List Nat)} {N : List Nat} (h : RF w rb A M N) (i : Int) : Calls Try.prog 45 #[.pointer (some ⟨rb, 0, none⟩), .int .i64 i] w fun e w' => e = .returned (.bool (hasE M.length i)) ∧ w = w' := by
  obtain ⟨an, cn, aa, ca, gi, ci, gw, cw, gn, cg, h⟩ := h
  have c4 : w.cell? ⟨rb, 4, none⟩ = some (.slice (some ⟨gw, 0, none⟩) M.length cw) := cell_at h.box rfl
  clear h
  by_cases h0 : 0 ≤ i
  · have h0d : decide (0 ≤ i) = true := decide_eq_true h0
    by_cases h1 : i < (M.length : Int)
    · have HE : Hid (hasE M.length i = true) := decide_eq_true ⟨h0, h1⟩
      have h1d : decide (i < (M.length : Int)) = true := decide_eq_true h1
      go_enter Try.func45, Try.ntmps45
      go_wp2_with fail
      go_ret
      exact ⟨by rw [HE.out]; rfl, rfl⟩
    · have HE : Hid (hasE M.length i = false) := decide_eq_false (fun q => h1 q.2)
      have h1d : decide (i < (M.length : Int)) = false := decide_eq_false h1
      go_enter Try.func45, Try.ntmps45
      go_wp2_with fail
      go_ret
      exact ⟨by rw [HE.out]; rfl, rfl⟩
  · have h0d : decide (0 ≤ i) = false := decide_eq_false h0
    have HE : Hid (hasE M.length i = false) := decide_eq_false (fun q => h0 q.1)
    go_enter Try.func45, Try.ntmps45
    go_wp2_with fail
    go_ret
    exact ⟨by rw [HE.out]; rfl, rfl⟩

set_option maxHeartbeats 4000000 in
set_option maxRecDepth 100000 in
theorem rgoM_any {w : World} {rb : Nat} {A : Aut} {M : List (List Nat)} {N : List Nat} (h : RF w rb A M N) (i : Nat) (hi : i < M.length) (b : ByteArray) (hb : Lts A.k b) (hz : b.size ≤ 9223372036854775807) : Calls Try.prog 74 #[.pointer (some ⟨rb, 0, none⟩), .int .i64 i, .string b] w fun e w' => e = .returned (.int .i64 (mr A.k.toNat N i (lets b) : Nat)) ∧ Below w.heap.size w w' := by
  have H : Hid (RF w rb A M N) := h
  obtain ⟨an, cn, aa, ca, gi, ci, gw, cw, gn, cg, h⟩ := h
  have HBX : Hid (w.heap[rb]? = some (.cells #[.int .i64 A.k, .slice an A.nx.length cn, .slice aa A.ac.length ca, .slice (some ⟨gi, 0, none⟩) M.length ci, .slice (some ⟨gw, 0, none⟩) M.length cw, .slice (some ⟨gn, 0, none⟩) N.length cg] 112 (0, 0))) := h.box
  have HNX : Hid (gn < w.heap.size ∧ ∀ p, p < N.length → w.cell? ⟨gn, p, none⟩ = some (.int .i64 ((N.getD p 0 : Nat) : Int))) := ⟨h.ln, h.nxt⟩
  have HMon : Hid (Mon A M N) := h.mon
  have HL : Hid (Lts A.k b) := hb
  have HLt : Hid (Lt A.k.toNat (lets b)) := hb.ltn h.mon.G.k1
  have HI : Hid (i < M.length) := hi
  clear h hb hi
  go_enter Try.func74, Try.ntmps74
  go_wp2_with fail
  go_loopw [1, 7] (fun vs vi wr => ∃ q : Nat, vi = .int .i64 q ∧ q ≤ b.size ∧ vs = .int .i64 (mr A.k.toNat N i ((lets b).take q) : Nat) ∧ Below w.heap.size w wr) (fun _ vi _ => b.size - (Go.Lib.intOf vi).toNat)
  case atStart => exact ⟨0, rfl, Nat.zero_le _, rfl, Below.refl _ _⟩
  case round =>
    obtain ⟨q, rfl, hqn, rfl, hb⟩ := hrel
    have HB : Hid (Below w.heap.size w wr) := hb
    clear hb
    obtain ⟨t, ht⟩ : ∃ t, mr A.k.toNat N i ((lets b).take q) = t := ⟨_, rfl⟩
    have HTi : Hid (mr A.k.toNat N i ((lets b).take q) = t) := ht
    rw [ht]
    clear ht
    by_cases hlt : q < b.size
    · have hiI : (q : Int) < b.size := by omega
      obtain ⟨l1, l2⟩ := HL.out q hlt
      obtain ⟨c, hc⟩ : ∃ c, b[q].toNat - 97 = c := ⟨_, rfl⟩
      have hk1 := HMon.out.G.k1
      have hk8 := HMon.out.G.k8
      have hms := HMon.out.most
      have hcv : IntKind.u8.wrap ((b[q].toNat : Int) - 97) = (c : Int) := by rw [IntKind.wrap_u8]; omega
      have hcv2 : IntKind.i64.wrap (c : Int) = (c : Int) := by rw [IntKind.wrap_i64]; omega
      have hck : c < A.k.toNat := by omega
      have HC : Hid (b[q].toNat - 97 = c) := hc
      have htl : t < M.length := by rw [← HTi.out]; exact HMon.out.lt (fun x hx => HLt.out x (List.mem_of_mem_take hx)) HI.out
      have g1 : t * A.k.toNat + c < N.length := by rw [HMon.out.len]; exact idx_ltM htl hck
      have hcell := HNX.out.2 _ g1
      obtain ⟨D, hD⟩ : ∃ D, N.getD (t * A.k.toNat + c) 0 = D := ⟨_, rfl⟩
      have HNXT : Hid (D = mr A.k.toNat N i ((lets b).take (q + 1))) := by
        show _ = _
        rw [List.take_add_one, lets_at b q hlt, Option.toList_some, mr_app, HTi.out, mr_one, hc, hD]
      rw [hD] at hcell
      have hp : (t : Int) * A.k = ((t * A.k.toNat : Nat) : Int) := by rw [Int.natCast_mul]; congr 1; omega
      have hq : t * A.k.toNat ≤ 512 * 8 := Nat.mul_le_mul (by omega) (by omega)
      obtain ⟨p, hpp⟩ : ∃ p, t * A.k.toNat = p := ⟨_, rfl⟩
      rw [hpp] at hp hq hcell g1
      have hw1 : IntKind.i64.wrap ((t : Int) * A.k) = (p : Int) := by rw [hp, IntKind.wrap_i64]; omega
      obtain ⟨r, hqq⟩ : ∃ r, p + c = r := ⟨_, rfl⟩
      have hw2 : IntKind.i64.wrap ((p : Int) + c) = (r : Int) := by rw [IntKind.wrap_i64]; omega
      have hgl : (r : Int) < N.length := by omega
      rw [hqq] at hcell
      have hcell' : wr.cell? ⟨gn, r, none⟩ = some (.int .i64 (D : Int)) := by rw [below_cellJ HB.out HNX.out.1]; exact hcell
      have hbx' : wr.heap[rb]? = some (.cells #[.int .i64 A.k, .slice an A.nx.length cn, .slice aa A.ac.length ca, .slice (some ⟨gi, 0, none⟩) M.length ci, .slice (some ⟨gw, 0, none⟩) M.length cw, .slice (some ⟨gn, 0, none⟩) N.length cg] 112 (0, 0)) := (HB.out.block _ (Array.getElem?_eq_some_iff.1 HBX.out).1).trans HBX.out
      have S0 : wr.drew.cell? ⟨rb, 0, none⟩ = some (.int .i64 A.k) ∧ wr.drew.cell? ⟨rb, 5, none⟩ = some (.slice (some ⟨gn, 0, none⟩) N.length cg) ∧ wr.drew.cell? ⟨gn, r, none⟩ = some (.int .i64 (D : Int)) := ⟨cell_at (w := wr) hbx' rfl, cell_at (w := wr) hbx' rfl, hcell'⟩
      have HBD : Hid (Below w.heap.size w wr.drew) := HB.out.drew
      have HQ : Hid (q < b.size) := hlt
      clear hc l1 l2 hk8 hk1 hp hq hpp hqq g1 hcell hcell' hD htl hck hbx' hms
      go_wp2_with fail
      go_region_held3 (fun w' => w'.cell? ⟨rb, 0, none⟩ = some (.int .i64 A.k) ∧ w'.cell? ⟨rb, 5, none⟩ = some (.slice (some ⟨gn, 0, none⟩) N.length cg) ∧ w'.cell? ⟨gn, r, none⟩ = some (.int .i64 (D : Int))) (first | exact S0 | assumption) (fail)
      clear S0
      go_wp2_with fail
      go_roundw
      case rel => exact ⟨q + 1, by go_num, HQ.out, by rw [HNXT.out], HBD.out⟩
      case measure => have := HQ.out; simp [Go.Lib.intOf]; omega
    · have hiI : ¬ (q : Int) < b.size := by omega
      have HE : Hid ((lets b).take q = lets b) := List.take_of_length_le (by rw [lets_len]; omega)
      go_wp2_with fail
      go_ret
      exact ⟨by rw [← HTi.out, HE.out]; rfl, HB.out⟩

set_option maxHeartbeats 1000000 in
set_option maxRecDepth 100000 in
theorem rtimes_any {w : World} {rb : Nat} {A : Aut} {M : List (List Nat)} {N : List Nat} (h : RF w rb A M N) (i j : Nat) (hi : i < M.length) (hj : j < M.length) : Calls Try.prog 52 #[.pointer (some ⟨rb, 0, none⟩), .int .i64 i, .int .i64 j] w fun e w' => e = .returned (.int .i64 (pr A.k.toNat N i j : Nat)) ∧ Below w.heap.size w w' := by
  have H : Hid (RF w rb A M N) := h
  obtain ⟨an, cn, aa, ca, gi, ci, gw, cw, gn, cg, h⟩ := h
  have c4 : w.cell? ⟨rb, 4, none⟩ = some (.slice (some ⟨gw, 0, none⟩) M.length cw) := cell_at h.box rfl
  have hw := h.wds j hj
  have hlw := h.mon.lw j hj
  have hks := h.mon.G.k8
  have hk1 := h.mon.G.k1
  have hll := lw_len h.mon.fst j hj
  have hms := h.mon.most
  have HG : Hid (Calls Try.prog 74 #[.pointer (some ⟨rb, 0, none⟩), .int .i64 i, .string (wb (lw A.k.toNat N j))] w fun e w' => e = .returned (.int .i64 (pr A.k.toNat N i j : Nat)) ∧ Below w.heap.size w w') := by
    have := rgoM_any H.out i hi (wb (lw A.k.toNat N j)) (wb_lts hk1 hks hlw.1).1 (by rw [wb_size]; omega)
    rw [lets_wb (k := A.k.toNat) (by omega) hlw.1] at this
    exact this
  obtain ⟨X, hX⟩ : ∃ X, wb (lw A.k.toNat N j) = X := ⟨_, rfl⟩
  rw [hX] at hw HG
  have hjI : (j : Int) < M.length := by omega
  clear h hlw hks hk1 hll hms hX
  go_enter Try.func52, Try.ntmps52
  go_wp2_with fail
  refine HG.out.mono ?_
  rintro e w1 ⟨rfl, hb⟩
  go_wp2_with fail
  go_ret
  exact ⟨rfl, hb⟩

/-- What the document's Product answers. -/
def rpV (A : Aut) (n : Nat) (N : List Nat) (i j : Int) : Value := if hasE n i = true ∧ hasE n j = true then .tuple #[.int .i64 (pr A.k.toNat N i.toNat j.toNat : Nat), .int .i64 0] else .tuple #[.int .i64 0, .int .i64 11]

theorem hasE_of {n : Nat} {i : Int} (h : hasE n i = true) : ∃ k : Nat, i = k ∧ k < n := by
  have := of_decide_eq_true h
  exact ⟨i.toNat, by omega, by omega⟩

end Go.Proofs.Ytflclnkaccbfcaa
