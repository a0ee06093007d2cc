/- E19 E20 E21 E22 E23 E25 E32h E2 E42 E44, in one text. -/
import Derived.Test.YtflclnkaccbfcaaE18
import Derived.Shelf.LaysM
import Derived.Shelf.Strconv.Clone
import Derived.Test.YtflclnkaccbfcaaChk
import Derived.Lib.OthersKept
import Derived.Test.YtflclnkaccbfcaaJd
import Derived.Test.YtflclnkaccbfcaaE1
import Derived.Test.YtflclnkaccbfcaaAb
import Derived.Test.YtflclnkaccbfcaaJh
namespace Go.Proofs.Ytflclnkaccbfcaa
open Go Go.RowKit Go.Lib Go.Maps
set_option linter.unusedVariables false
attribute [-instance] List.instBEq instBEqProd

theorem eq_ptrM (a : Addr) (w : World) : (binOp .eql 22 (.pointer (some a)) (.pointer (some a))).run Try.prog w = .ok (.bool true) w := by
  simp only [binOp]
  simp only [Op.equal, Op.maxDepth]
  rw [show (10000 : Nat) = 9999 + 1 from rfl, Op.equalIn]
  simp [Sem.run_bind, run_underlying Try.underlying22, sameAddr]

set_option maxHeartbeats 1000000 in
set_option maxRecDepth 100000 in
theorem mmade_any {w : World} {ob : Nat} {A : Aut} {M : List (List Nat)} {N : List Nat} (h : MO w ob A M N) : Calls Try.prog 64 #[.pointer (some ⟨ob, 0, none⟩)] w fun e w' => e = .returned (.bool true) ∧ w = w' := by
  obtain ⟨base, bt, b, mb, gw, ga, R, n, a, c, d, vl, D, an, cn, aa, ca, h⟩ := h
  have h0 : w.cell? ⟨ob, 0, none⟩ = some (.pointer (some ⟨ob, 0, none⟩)) := cell_at h.box rfl
  have he := eq_ptrM ⟨ob, 0, none⟩ w
  clear h
  go_enter Try.func64, Try.ntmps64
  go_wp2_with fail
  go_ret
  exact ⟨rfl, rfl⟩

set_option maxHeartbeats 1000000 in
set_option maxRecDepth 100000 in
theorem mlen_any {w : World} {ob : Nat} {A : Aut} {M : List (List Nat)} {N : List Nat} (h : MO w ob A M N) : Calls Try.prog 34 #[.pointer (some ⟨ob, 0, none⟩)] w fun e w' => e = .returned (.int .i64 (M.length : Nat)) ∧ w = w' := by
  have H : Hid (MO w ob A M N) := h
  obtain ⟨base, bt, b, mb, gw, ga, R, n, a, c, d, vl, D, an, cn, aa, ca, h⟩ := h
  have h5 : w.cell? ⟨ob, 5, none⟩ = some (.slice (some ⟨gw, 0, none⟩) n n) := cell_at h.box rfl
  have HN : Hid (M.length = n) := h.num.1
  clear h
  go_enter Try.func34, Try.ntmps34
  go_wp2_with fail
  refine (mmade_any H.out).mono ?_
  rintro e w1 ⟨rfl, rfl⟩
  go_wp2_with fail
  go_ret
  exact ⟨by rw [HN.out]; rfl, rfl⟩

/-- What check answers. -/
def mck (n : Nat) (i : Int) : Int := if 0 ≤ i ∧ i < n then 0 else 11

set_option maxHeartbeats 1000000 in
set_option maxRecDepth 100000 in
theorem mcheck_any {w : World} {ob : Nat} {A : Aut} {M : List (List Nat)} {N : List Nat} (h : MO w ob A M N) (i : Int) : Calls Try.prog 66 #[.pointer (some ⟨ob, 0, none⟩), .int .i64 i] w fun e w' => e = .returned (.int .i64 (mck M.length i)) ∧ w = w' := by
  have H : Hid (MO w ob A M N) := h
  obtain ⟨base, bt, b, mb, gw, ga, R, n, a, c, d, vl, D, an, cn, aa, ca, h⟩ := h
  have h5 : w.cell? ⟨ob, 5, none⟩ = some (.slice (some ⟨gw, 0, none⟩) n n) := cell_at h.box rfl
  have HN : Hid (M.length = n) := h.num.1
  rw [h.num.1]
  clear h
  by_cases h0 : 0 ≤ i
  · by_cases h1 : i < n
    · have HE : Hid (mck n i = 0) := by show mck n i = 0; unfold mck; rw [if_pos ⟨h0, h1⟩]
      have h0' : decide (i < 0) = false := by simpa using h0
      have h1' : ¬ (n : Int) ≤ i := by omega
      have h1d : decide ((n : Int) ≤ i) = false := by simpa using h1
      go_enter Try.func66, Try.ntmps66
      go_wp2_with fail
      refine (mmade_any H.out).mono ?_
      rintro e w1 ⟨rfl, rfl⟩
      go_wp2_with fail
      go_ret
      exact ⟨ret_intJ HE.out.symm, rfl⟩
    · have HE : Hid (mck n i = 11) := by show mck n i = 11; unfold mck; rw [if_neg (fun q => h1 q.2)]
      have h0' : decide (i < 0) = false := by simpa using h0
      have h1' : (n : Int) ≤ i := by omega
      have h1d : decide ((n : Int) ≤ i) = true := by simpa using h1'
      go_enter Try.func66, Try.ntmps66
      go_wp2_with fail
      refine (mmade_any H.out).mono ?_
      rintro e w1 ⟨rfl, rfl⟩
      go_wp2_with fail
      go_ret
      exact ⟨ret_intJ HE.out.symm, rfl⟩
  · have HE : Hid (mck n i = 11) := by show mck n i = 11; unfold mck; rw [if_neg (fun q => h0 q.1)]
    have h0' : i < 0 := by omega
    have h0d : decide (i < 0) = true := by simpa using h0'
    go_enter Try.func66, Try.ntmps66
    go_wp2_with fail
    refine (mmade_any H.out).mono ?_
    rintro e w1 ⟨rfl, rfl⟩
    go_wp2_with fail
    go_ret
    exact ⟨ret_intJ HE.out.symm, rfl⟩

set_option maxHeartbeats 1000000 in
set_option maxRecDepth 100000 in
theorem mproduct_ok {w : World} {ob : Nat} {A : Aut} {M : List (List Nat)} {N : List Nat} (h : MO w ob A M N) (i j : Nat) (hi : i < M.length) (hj : j < M.length) : Calls Try.prog 65 #[.pointer (some ⟨ob, 0, none⟩), .int .i64 i, .int .i64 j] w fun e w' => e = .returned (.tuple #[.int .i64 (pr A.k.toNat N i j : Nat), .int .i64 0]) ∧ Below w.heap.size w w' := by
  have H : Hid (MO w ob A M N) := h
  have hmo := h
  obtain ⟨base, bt, b, mb, gw, ga, R, n, a, c, d, vl, D, an, cn, aa, ca, h⟩ := h
  have HP : Hid (pr A.k.toNat N i j < M.length) := h.mon.pr_lt hi hj
  have hnm := h.num
  have hms := h.mon.most
  have c11 : w.cell? ⟨ob, 11, none⟩ = some (.int .i64 (n : Int)) := cell_at h.box rfl
  have c12 : w.cell? ⟨ob, 12, none⟩ = some (.slice (some ⟨R, d, none⟩) c c) := cell_at h.box rfl
  have HCI : Hid (mck M.length i = 0) := by show mck _ _ = 0; unfold mck; rw [if_pos ⟨by omega, by omega⟩]
  have HCJ : Hid (mck M.length j = 0) := by show mck _ _ = 0; unfold mck; rw [if_pos ⟨by omega, by omega⟩]
  obtain ⟨q, hq⟩ : ∃ q, i * n = q := ⟨_, rfl⟩
  obtain ⟨v, hv⟩ : ∃ v, pr A.k.toNat N i j = v := ⟨_, rfl⟩
  have hn2 : n * n ≤ 512 * 512 := Nat.mul_le_mul (by omega) (by omega)
  have hqlt : q + j < c := by rw [← hq, ← hnm.2.2.1]; exact idx_lt (by omega) (by omega)
  have hcell := h.rt.prod (i := i) (j := j) (by omega) (by omega) trivial
  rw [hv, hnm.2.1, hnm.2.2.2, hq] at hcell
  rw [hv] at HP
  rw [hv]
  have HG : Hid (Calls Try.prog 67 #[.agg #[.int .i64 (n : Int), .slice (some ⟨R, d, none⟩) c c], .int .i64 i, .int .i64 j] w fun e w' => e = .returned (.int .i64 v) ∧ Below w.heap.size w w') := gat_any R d n i j c c q v hq hqlt (by have := HP.out; omega) (by omega) w hcell h.rt.lt
  clear h hmo hnm hcell hn2 hq hqlt hv
  go_enter Try.func65, Try.ntmps65
  go_wp2_with fail
  refine (mcheck_any H.out i).mono ?_
  rintro e w1 ⟨rfl, rfl⟩
  rw [HCI.out]
  go_wp2_with fail
  refine (mcheck_any H.out j).mono ?_
  rintro e w1 ⟨rfl, rfl⟩
  rw [HCJ.out]
  go_wp2_with fail
  refine HG.out.mono ?_
  rintro e w1 ⟨rfl, hb⟩
  go_wp2_with fail
  go_ret2
  exact ⟨rfl, hb⟩

end Go.Proofs.Ytflclnkaccbfcaa

namespace Go.Proofs.Ytflclnkaccbfcaa
open Go.RowKit Go.Lib Go.Shelf

end Go.Proofs.Ytflclnkaccbfcaa

namespace Go.Proofs.Ytflclnkaccbfcaa
open Go Go.RowKit Go.Lib Go.Maps
set_option linter.unusedVariables false
attribute [-instance] List.instBEq instBEqProd

def itP (w : World) (k : Nat) : Nat := match w.heap[k]? with | some (.stringIter _ p) => p | _ => 0

theorem itP_eq {w : World} {k : Nat} {s : ByteArray} {p : Nat} (h : w.heap[k]? = some (.stringIter s p)) : itP w k = p := by unfold itP; rw [h]

theorem it_below {n k : Nat} {w w1 : World} {s : ByteArray} {p : Nat} (h : Below n w w1) (hk : n ≤ k) : Below n w (w1.iterAt k s p) :=
  h.trans ⟨rfl, rfl, rfl, by simp [World.iterAt], fun j hj => iterAt_other _ _ _ _ _ (by omega)⟩

end Go.Proofs.Ytflclnkaccbfcaa

namespace Go.Proofs.Ytflclnkaccbfcaa
open Go Go.RowKit Go.Lib Go.Maps
set_option linter.unusedVariables false
attribute [-instance] List.instBEq instBEqProd

theorem num14_any (n : Int) (w : World) : Calls Try.prog 41 #[.int .i64 n] w fun e w' => e = .returned (.int .i64 n) ∧ w = w' := by
  go_enter Try.func41, Try.ntmps41
  go_wp2
  go_ret
  exact ⟨rfl, rfl⟩

/-- The automaton of (ab)*. -/
def pA : Aut := ⟨2, [1, 2, 2, 0, 2, 2], [true, false, false]⟩

theorem pA_good : Good pA := by
  refine ⟨by decide, by decide, by decide, by decide, by decide, ?_, ?_⟩
  · decide
  · decide

def pM : List (List Nat) := [[0, 1, 2], [1, 2, 2], [2, 0, 2], [2, 2, 2], [0, 2, 2], [2, 1, 2]]

def pN : List Nat := [1, 2, 3, 4, 5, 3, 3, 3, 1, 3, 3, 2]

theorem pA_el : mEl pA = some (pM, pN) := by decide +kernel

theorem pA_facts : pr 2 pN 4 1 = 1 ∧ mr 2 pN 0 [1, 1] = 3 ∧ lw 2 pN 3 = [0, 0] := by decide +kernel

/-- What Element answers. -/
def elV (A : Aut) (N : List Nat) (s : ByteArray) : Value := if chk A.k s = 0 then .tuple #[.int .i64 (mr A.k.toNat N 0 (lets s) : Nat), .int .i64 0] else .tuple #[.int .i64 0, .int .i64 (chk A.k s)]

set_option maxHeartbeats 1000000 in
set_option maxRecDepth 100000 in
theorem plain_any (w : World) : Calls Try.prog 38 #[] w fun e w' => ∃ v, e = .returned v ∧ AR w' v pA ∧ Below w.heap.size w w' := by
  obtain ⟨w3, hw3⟩ : ∃ w3, w3 = (((w.alloc (.cells #[.int .i64 2, .slice (some ⟨w.heap.size + 1, 0, none⟩) 6 6, .slice (some ⟨w.heap.size + 1 + 1, 0, none⟩) 3 3] 26)).alloc (.cells #[.int .i64 1, .int .i64 2, .int .i64 2, .int .i64 0, .int .i64 2, .int .i64 2] 3)).alloc (.cells #[.bool true, .bool false, .bool false] 4)) := ⟨_, rfl⟩
  have HW3 : Hid (w3 = (((w.alloc (.cells #[.int .i64 2, .slice (some ⟨w.heap.size + 1, 0, none⟩) 6 6, .slice (some ⟨w.heap.size + 1 + 1, 0, none⟩) 3 3] 26)).alloc (.cells #[.int .i64 1, .int .i64 2, .int .i64 2, .int .i64 0, .int .i64 2, .int .i64 2] 3)).alloc (.cells #[.bool true, .bool false, .bool false] 4))) := hw3
  have H0 : Hid (w3.heap[w.heap.size]? = some (.cells #[.int .i64 2, .slice (some ⟨w.heap.size + 1, 0, none⟩) 6 6, .slice (some ⟨w.heap.size + 1 + 1, 0, none⟩) 3 3] 26 (0, 0))) := by
    show _ = _
    rw [hw3, heap_allo (by simp; omega), heap_allo (by simp)]
    exact heap_last _ _
  have H1 : Hid (w3.heap[w.heap.size + 1]? = some (.cells #[.int .i64 1, .int .i64 2, .int .i64 2, .int .i64 0, .int .i64 2, .int .i64 2] 3 (0, 0))) := by
    show _ = _
    rw [hw3, heap_allo (by simp)]
    have := heap_last (w.alloc (.cells #[.int .i64 2, .slice (some ⟨w.heap.size + 1, 0, none⟩) 6 6, .slice (some ⟨w.heap.size + 1 + 1, 0, none⟩) 3 3] 26)) (.cells #[.int .i64 1, .int .i64 2, .int .i64 2, .int .i64 0, .int .i64 2, .int .i64 2] 3)
    rwa [World.size_alloc] at this
  have H2 : Hid (w3.heap[w.heap.size + 1 + 1]? = some (.cells #[.bool true, .bool false, .bool false] 4 (0, 0))) := by
    show _ = _
    rw [hw3]
    have := heap_last ((w.alloc (.cells #[.int .i64 2, .slice (some ⟨w.heap.size + 1, 0, none⟩) 6 6, .slice (some ⟨w.heap.size + 1 + 1, 0, none⟩) 3 3] 26)).alloc (.cells #[.int .i64 1, .int .i64 2, .int .i64 2, .int .i64 0, .int .i64 2, .int .i64 2] 3)) (.cells #[.bool true, .bool false, .bool false] 4)
    rwa [World.size_alloc, World.size_alloc] at this
  have HB : Hid (Below w.heap.size w w3) := by show Below _ _ _; rw [hw3]; exact go_on (go_on (below_new _ _) (below_new _ _)) (below_new _ _)
  clear hw3
  go_enter Try.func38, Try.ntmps38
  go_wp2_with fail
  rw [← HW3.out]
  refine bodyPost_ret (results_cell_row rfl _ _ w.heap.size 26 _ (0, 0) _ rfl H0.out Try.underlying26 rfl (by rw [Try.info_au]; rfl)) rfl ⟨_, rfl, ⟨_, _, _, _, rfl, ?_, ?_⟩, HB.out⟩
  · intro j u hj
    refine ⟨_, _, rfl, (Array.getElem?_eq_some_iff.1 H1.out).1, ?_⟩
    rw [Nat.zero_add, cell_of_row _ _ _ _ _ _ H1.out]
    rw [← hj]
    simp [pA, zC]
  · intro j u hj
    refine ⟨_, _, rfl, (Array.getElem?_eq_some_iff.1 H2.out).1, ?_⟩
    rw [Nat.zero_add, cell_of_row _ _ _ _ _ _ H2.out]
    rw [← hj]
    simp [pA, bC]

end Go.Proofs.Ytflclnkaccbfcaa

namespace Go.Proofs.Ytflclnkaccbfcaa
open Go Go.RowKit Go.Lib Go.Maps
set_option linter.unusedVariables false

/-- No monoid, or one whose mark is nil. -/
def NoM (w : World) (x : Value) : Prop := x = .pointer none ∨ ∃ b, x = .pointer (some ⟨b, 0, none⟩) ∧ b < w.heap.size ∧ w.cell? ⟨b, 0, none⟩ = some (.pointer none)

theorem NoM.below {w w' : World} {x : Value} (h : NoM w x) (hb : Below w.heap.size w w') : NoM w' x := by
  rcases h with h | ⟨b, h1, h2, h3⟩
  · exact .inl h
  · exact .inr ⟨b, h1, Nat.lt_of_lt_of_le h2 hb.size, by rw [below_cellJ hb h2]; exact h3⟩

theorem eq_nilM (a : Addr) (w : World) : (binOp .eql 22 (.pointer none) (.pointer (some a))).run Try.prog w = .ok (.bool false) w := by
  simp only [binOp]
  simp only [Op.equal, Op.maxDepth]
  rw [show (10000 : Nat) = 9999 + 1 from rfl, Op.equalIn]
  simp [Sem.run_bind, run_underlying Try.underlying22]

set_option maxHeartbeats 1000000 in
set_option maxRecDepth 100000 in
theorem mmade_no (x : Value) (w : World) (h : NoM w x) : Calls Try.prog 64 #[x] w fun e w' => e = .returned (.bool false) ∧ w = w' := by
  rcases h with rfl | ⟨b, rfl, hb, hc⟩
  · go_enter Try.func64, Try.ntmps64
    go_wp2_with fail
    go_ret
    exact ⟨rfl, rfl⟩
  · have heq := eq_nilM ⟨b, 0, none⟩ w
    go_enter Try.func64, Try.ntmps64
    go_wp2_with fail
    go_ret
    exact ⟨rfl, rfl⟩

set_option maxHeartbeats 1000000 in
set_option maxRecDepth 100000 in
theorem mlen_no (x : Value) (w : World) (h : NoM w x) : Calls Try.prog 34 #[x] w fun e w' => e = .returned (.int .i64 0) ∧ w = w' := by
  have HX : Hid (NoM w x) := h
  clear h
  go_enter Try.func34, Try.ntmps34
  go_wp2_with (go_at_call 64; refine (mmade_no _ _ HX.out).mono ?_; rintro e w1 ⟨rfl, rfl⟩)
  go_ret
  exact ⟨rfl, rfl⟩

set_option maxHeartbeats 1000000 in
set_option maxRecDepth 100000 in
theorem mcheck_no (x : Value) (i : Int) (w : World) (h : NoM w x) : Calls Try.prog 66 #[x, .int .i64 i] w fun e w' => e = .returned (.int .i64 1) ∧ w = w' := by
  have HX : Hid (NoM w x) := h
  clear h
  go_enter Try.func66, Try.ntmps66
  go_wp2_with (go_at_call 64; refine (mmade_no _ _ HX.out).mono ?_; rintro e w1 ⟨rfl, rfl⟩)
  go_ret
  exact ⟨rfl, rfl⟩

set_option maxHeartbeats 1000000 in
set_option maxRecDepth 100000 in
theorem mProduct_no (x : Value) (i j : Int) (w : World) (h : NoM w x) : Calls Try.prog 65 #[x, .int .i64 i, .int .i64 j] w fun e w' => e = .returned (.tuple #[.int .i64 0, .int .i64 1]) ∧ w = w' := by
  have HX : Hid (NoM w x) := h
  clear h
  go_enter Try.func65, Try.ntmps65
  go_wp2_with (go_at_call 66; refine (mcheck_no _ _ _ HX.out).mono ?_; rintro e w1 ⟨rfl, rfl⟩)
  go_ret2
  exact ⟨rfl, rfl⟩

set_option maxHeartbeats 1000000 in
set_option maxRecDepth 100000 in
theorem mPower_no (x : Value) (i k : Int) (w : World) (h : NoM w x) : Calls Try.prog 37 #[x, .int .i64 i, .int .u64 k] w fun e w' => e = .returned (.tuple #[.int .i64 0, .int .i64 1]) ∧ w = w' := by
  have HX : Hid (NoM w x) := h
  clear h
  go_enter Try.func37, Try.ntmps37
  go_wp2_with (go_at_call 66; refine (mcheck_no _ _ _ HX.out).mono ?_; rintro e w1 ⟨rfl, rfl⟩)
  go_ret2
  exact ⟨rfl, rfl⟩

end Go.Proofs.Ytflclnkaccbfcaa

namespace Go.Proofs.Ytflclnkaccbfcaa
open Go Go.RowKit Go.Lib Go.Maps
set_option linter.unusedVariables false
attribute [-instance] List.instBEq instBEqProd

theorem owE_ok {A : Aut} (h : owE A ByteArray.empty = 0) : Good A ∧ A.ac.length ≤ 64 := by
  unfold owE at h
  split at h
  · rename_i hc
    split at h
    · cases h
    · exact ⟨chkA_good hc, by omega⟩
  · cases h

theorem owE_good {A : Aut} (G : Good A) (h : A.ac.length ≤ 64) : owE A ByteArray.empty = 0 := by
  unfold owE
  rw [if_pos (by unfold chkA; rw [if_pos G]), if_neg (by omega)]
  exact chk_empty G

set_option maxHeartbeats 2000000 in
set_option maxRecDepth 100000 in
theorem find_bad (v : Value) (A : Aut) (w : World) (h : AR w v A) (hm : A.nx.length ≤ 9223372036854775806) (hm2 : A.ac.length ≤ 9223372036854775806) (hE : owE A ByteArray.empty ≠ 0) :
    Calls Try.prog 59 #[v] w fun e w' => e = .returned (.tuple #[.pointer none, .int .i64 (owE A ByteArray.empty)]) ∧ Below w.heap.size w w' := by
  obtain ⟨an, cn, aa, ca, e, h1, h2⟩ := h.is
  have HA : Hid (∀ w', Below w.heap.size w w' → AR w' v A) := fun w' hb => h.stay hb
  clear h h1 h2
  subst e
  obtain ⟨w0, hw0⟩ : ∃ w0, w0 = w.alloc (.cells #[.int .i64 A.k, .slice an A.nx.length cn, .slice aa A.ac.length ca] 26) := ⟨_, rfl⟩
  have HB0 : Hid (Below w.heap.size w w0) := by show Below _ _ _; rw [hw0]; exact below_new _ _
  have HW0 : Hid (w0 = w.alloc (.cells #[.int .i64 A.k, .slice an A.nx.length cn, .slice aa A.ac.length ca] 26)) := hw0
  obtain ⟨E, hEE⟩ : ∃ E, owE A ByteArray.empty = E := ⟨_, rfl⟩
  have HOW : Hid (∀ y, Below w.heap.size w y → Calls Try.prog 76 #[.agg #[.int .i64 A.k, .slice an A.nx.length cn, .slice aa A.ac.length ca], .string ByteArray.empty] y fun e w' => e = .returned (.tuple #[.agg #[.int .i64 0, .int .u64 0, .int .u64 0, .int .u64 0, .int .u64 0, .int .u64 0, .int .u64 0, .int .u64 0], .int .i64 E]) ∧ Below y.heap.size y w') := fun y hy => by
    have := ofWord_any _ A y (HA.out y hy) hm hm2 ByteArray.empty (by show 0 ≤ _; omega)
    unfold owV at this
    rw [if_neg hE, hEE] at this
    exact this
  rw [hEE] at hE ⊢
  have hq0 : (E != 0) = true := by rw [bne_iff_ne]; exact hE
  clear hw0 hEE hE
  go_enter Try.func59, Try.ntmps59
  go_wp2_with fail
  rw [← HW0.out]
  refine (HOW.out _ HB0.out).mono ?_
  rintro e w1 ⟨rfl, hB1⟩
  have HB1 : Hid (Below w.heap.size w w1) := go_on HB0.out hB1
  have HB2 : Hid (Below w.heap.size w (w1.alloc (.cells #[.int .i64 0, .int .u64 0, .int .u64 0, .int .u64 0, .int .u64 0, .int .u64 0, .int .u64 0, .int .u64 0] 119))) := go_on HB1.out (below_new _ _)
  clear hB1
  go_wp2_with fail
  go_ret2
  exact ⟨rfl, HB2.out⟩

/-- Build's error. -/
noncomputable def bdE (A : Aut) : Int := if owE A ByteArray.empty = 0 then (if (mEl A).isSome = true then 0 else 140) else owE A ByteArray.empty

/-- What Build answers. -/
def BdA (A : Aut) (w : World) (e : Ending) (w' : World) : Prop :=
  (bdE A ≠ 0 ∧ e = .returned (.tuple #[.pointer none, .int .i64 (bdE A)]) ∧ Below w.heap.size w w') ∨
  ∃ ob M N, e = .returned (.tuple #[.pointer (some ⟨ob, 0, none⟩), .int .i64 0]) ∧ Good A ∧ A.ac.length ≤ 64 ∧ mEl A = some (M, N) ∧ MO w' ob A M N ∧ Below w.heap.size w w'

set_option maxHeartbeats 2000000 in
set_option maxRecDepth 100000 in
theorem build_bad (v : Value) (A : Aut) (w : World) (h : AR w v A) (hm : A.nx.length ≤ 9223372036854775806) (hm2 : A.ac.length ≤ 9223372036854775806) (hE : owE A ByteArray.empty ≠ 0) :
    Calls Try.prog 33 #[v] w fun e w' => e = .returned (.tuple #[.pointer none, .int .i64 (owE A ByteArray.empty)]) ∧ Below w.heap.size w w' := by
  obtain ⟨an, cn, aa, ca, e, h1, h2⟩ := h.is
  have HA : Hid (∀ w', Below w.heap.size w w' → AR w' v A) := fun w' hb => h.stay hb
  clear h h1 h2
  subst e
  obtain ⟨w0, hw0⟩ : ∃ w0, w0 = w.alloc (.cells #[.int .i64 A.k, .slice an A.nx.length cn, .slice aa A.ac.length ca] 26) := ⟨_, rfl⟩
  have HB0 : Hid (Below w.heap.size w w0) := by show Below _ _ _; rw [hw0]; exact below_new _ _
  have HW0 : Hid (w0 = w.alloc (.cells #[.int .i64 A.k, .slice an A.nx.length cn, .slice aa A.ac.length ca] 26)) := hw0
  obtain ⟨E, hEE⟩ : ∃ E, owE A ByteArray.empty = E := ⟨_, rfl⟩
  have HFD : Hid (∀ y, Below w.heap.size w y → Calls Try.prog 59 #[.agg #[.int .i64 A.k, .slice an A.nx.length cn, .slice aa A.ac.length ca]] y fun e w' => e = .returned (.tuple #[.pointer none, .int .i64 E]) ∧ Below y.heap.size y w') := fun y hy => by
    have := find_bad _ A y (HA.out y hy) hm hm2 hE
    rw [hEE] at this
    exact this
  rw [hEE] at hE ⊢
  have hq0 : (E != 0) = true := by rw [bne_iff_ne]; exact hE
  clear hw0 hEE hE
  go_enter Try.func33, Try.ntmps33
  go_wp2_with fail
  rw [← HW0.out]
  refine (HFD.out _ HB0.out).mono ?_
  rintro e w1 ⟨rfl, hB1⟩
  have HB1 : Hid (Below w.heap.size w w1) := go_on HB0.out hB1
  clear hB1
  go_wp2_with fail
  go_ret2
  exact ⟨rfl, HB1.out⟩

theorem build_all (v : Value) (A : Aut) (w : World) (h : AR w v A) (hm : A.nx.length ≤ 9223372036854775806) (hm2 : A.ac.length ≤ 9223372036854775806) :
    Calls Try.prog 33 #[v] w (BdA A w) := by
  by_cases hE : owE A ByteArray.empty = 0
  · obtain ⟨G, h64⟩ := owE_ok hE
    refine (build_any v A w h G h64).mono ?_
    rintro e w' (⟨hn, rfl, hb⟩ | ⟨ob, M, N, rfl, he, hmo, hb⟩)
    · have e1 : bdE A = 140 := by unfold bdE; rw [if_pos hE, hn]; rfl
      exact .inl ⟨by rw [e1]; decide, by rw [e1], hb⟩
    · exact .inr ⟨ob, M, N, rfl, G, h64, he, hmo, hb⟩
  · refine (build_bad v A w h hm hm2 hE).mono ?_
    rintro e w' ⟨rfl, hb⟩
    have e1 : bdE A = owE A ByteArray.empty := by unfold bdE; rw [if_neg hE]
    exact .inl ⟨by rw [e1]; exact hE, by rw [e1], hb⟩

/-- What the law's built answers. -/
def BtQ (A : Aut) (w : World) (e : Ending) (w' : World) : Prop :=
  (e = .returned (.tuple #[.pointer none, .bool false]) ∧ Below w.heap.size w w') ∨
  ∃ ob M N, e = .returned (.tuple #[.pointer (some ⟨ob, 0, none⟩), .bool true]) ∧ Good A ∧ A.ac.length ≤ 64 ∧ mEl A = some (M, N) ∧ MO w' ob A M N ∧ Below w.heap.size w w'

end Go.Proofs.Ytflclnkaccbfcaa

namespace Go.Proofs.Ytflclnkaccbfcaa
set_option linter.unusedVariables false

/-- Is it an element? -/
def hasE (n : Nat) (i : Int) : Bool := decide (0 ≤ i ∧ i < n)
end Go.Proofs.Ytflclnkaccbfcaa

namespace Go.Proofs.Ytflclnkaccbfcaa
set_option linter.unusedVariables false

/-- First places rise. -/
theorem Mon.first {A : Aut} {M : List (List Nat)} {N : List Nat} (h : Mon A M N) {j : Nat} (h0 : 0 < j) (hj : j < M.length) : N[N.idxOf j]? = some j ∧ N.idxOf j / A.k.toNat < j ∧ ∀ q i, q < N.idxOf j → N[q]? = some i → i < j := by
  obtain ⟨p, hp, hq, hr⟩ := h.bi.fresh j h0 hj
  have e := idxOf_first hp (fun q hqp e => by have := hr q j hqp e; omega)
  rw [e]
  exact ⟨hp, hq, hr⟩
theorem slt_trans {u v w : List Nat} (h : slt u v) (g : slt v w) : slt u w := by
  refine ⟨sle_trans h.1 g.1, fun e => ?_⟩
  subst e
  exact h.2 (sle_anti h.1 g.1)
theorem slt_le {u v w : List Nat} (h : slt u v) (g : sle v w) : slt u w := by
  refine ⟨sle_trans h.1 g, fun e => ?_⟩
  subst e
  exact h.2 (sle_anti h.1 g)
theorem Mon.rise {A : Aut} {M : List (List Nat)} {N : List Nat} (h : Mon A M N) : ∀ j, j < M.length → ∀ i, i < j → slt (Go.Proofs.Ytflclnkaccbfcaa.lw A.k.toNat N i) (Go.Proofs.Ytflclnkaccbfcaa.lw A.k.toNat N j) := by
  intro j
  induction j using Nat.strongRecOn with
  | _ j ih =>
    intro hj i hij
    obtain ⟨a1, a2, a3⟩ := h.first (by omega) hj
    rw [lw_step h.fst (s := j) (by omega) hj]
    by_cases e : i = 0
    · subst e
      rw [lw_zero]
      exact slt_nil _ _
    · obtain ⟨b1, b2, b3⟩ := h.first (j := i) (by omega) (by omega)
      have hlt : N.idxOf i < N.idxOf j := by
        by_cases q : N.idxOf i < N.idxOf j
        · exact q
        · by_cases q2 : N.idxOf i = N.idxOf j
          · rw [q2, a1] at b1; simp at b1; omega
          · have := b3 _ _ (show N.idxOf j < N.idxOf i by omega) a1
            omega
      rw [lw_step h.fst (s := i) (by omega) (by omega)]
      have hd : N.idxOf i / A.k.toNat ≤ N.idxOf j / A.k.toNat := Nat.div_le_div_right (Nat.le_of_lt hlt)
      by_cases c : N.idxOf i / A.k.toNat = N.idxOf j / A.k.toNat
      · rw [c]
        apply slt_letter
        have e1 := Nat.div_add_mod (N.idxOf i) A.k.toNat
        have e2 := Nat.div_add_mod (N.idxOf j) A.k.toNat
        rw [c] at e1
        omega
      · exact slt_snoc (ih _ a2 (by omega) _ (by omega)) _ _
/-- A letter behind an element: no later word. -/
theorem Mon.step_le {A : Aut} {M : List (List Nat)} {N : List Nat} (h : Mon A M N) {x c : Nat} (hx : x < M.length) (hc : c < A.k.toNat) : sle (Go.Proofs.Ytflclnkaccbfcaa.lw A.k.toNat N (N.getD (x * A.k.toNat + c) 0)) (Go.Proofs.Ytflclnkaccbfcaa.lw A.k.toNat N x ++ [c]) := by
  obtain ⟨l, _, h2, hp⟩ := h.at hx hc
  obtain ⟨j, hj⟩ : ∃ j, N.getD (x * A.k.toNat + c) 0 = j := ⟨_, rfl⟩
  rw [hj] at h2 ⊢
  have hjl := (List.getElem?_eq_some_iff.1 h2).1
  by_cases e : j = 0
  · subst e; rw [lw_zero]; exact sle_nil _
  · obtain ⟨a1, a2, a3⟩ := h.first (j := j) (by omega) hjl
    have hle : N.idxOf j ≤ x * A.k.toNat + c := by
      by_cases q : N.idxOf j ≤ x * A.k.toNat + c
      · exact q
      · have hn : N[x * A.k.toNat + c]? = some j := by rw [← hj, List.getElem?_eq_getElem hp, getD_of (List.getElem?_eq_getElem hp)]
        have := a3 _ _ (by omega) hn
        omega
    rw [lw_step h.fst (s := j) (by omega) hjl]
    have e1 : (x * A.k.toNat + c) / A.k.toNat = x := by rw [Nat.mul_comm, Nat.mul_add_div (by omega), Nat.div_eq_of_lt hc]; rfl
    have e2 : (x * A.k.toNat + c) % A.k.toNat = c := by rw [Nat.mul_comm, Nat.mul_add_mod, Nat.mod_eq_of_lt hc]
    have hd : N.idxOf j / A.k.toNat ≤ x := by rw [← e1]; exact Nat.div_le_div_right hle
    by_cases q : N.idxOf j / A.k.toNat = x
    · rw [q]
      have e3 := Nat.div_add_mod (N.idxOf j) A.k.toNat
      rw [q] at e3
      by_cases q2 : N.idxOf j % A.k.toNat = c
      · rw [q2]; exact sle_refl _
      · refine (slt_letter _ ?_).1
        have : A.k.toNat * x = x * A.k.toNat := Nat.mul_comm _ _
        omega
    · exact (slt_snoc (h.rise x hx _ (by omega)) _ _).1
theorem snoc_ind {p : List Nat → Prop} (h0 : p []) (h1 : ∀ u c, p u → p (u ++ [c])) : ∀ u, p u := by
  intro u
  have : ∀ n u, u.length = n → p u := by
    intro n
    induction n with
    | zero => intro u hu; rw [List.length_eq_zero_iff.1 hu]; exact h0
    | succ n ih =>
      intro u hu
      have hne : u ≠ [] := by intro e; rw [e] at hu; simp at hu
      rw [← List.dropLast_concat_getLast hne]
      exact h1 _ _ (ih _ (by simp; omega))
  exact this _ u rfl
/-- No word ahead of an element's least word has that element. -/
theorem Mon.least {A : Aut} {M : List (List Nat)} {N : List Nat} (h : Mon A M N) : ∀ u, Lt A.k.toNat u → sle (Go.Proofs.Ytflclnkaccbfcaa.lw A.k.toNat N (mr A.k.toNat N 0 u)) u := by
  apply snoc_ind
  · intro _
    rw [mr_nil, lw_zero]
    exact sle_refl _
  · intro u c ih hu
    have := ih hu.left
    rw [mr_app, mr_one]
    exact sle_trans (h.step_le (h.lt hu.left h.pos) (hu.right c (by simp))) (sle_app this _)
theorem lxl_pre (a : List Nat) : ∀ {u v : List Nat}, lxl u v → lxl (a ++ u) (a ++ v) := by
  intro u v h
  exact lxl_app u v rfl (lxl_refl a) (fun _ => h)
theorem sle_pre (a : List Nat) {u v : List Nat} (h : sle u v) : sle (a ++ u) (a ++ v) := by
  rcases h with h | ⟨h, g⟩
  · exact .inl (by simp; omega)
  · exact .inr ⟨by simp; omega, lxl_pre a g⟩
/-- Pieces of least words are least words. -/
theorem Mon.piece {A : Aut} {M : List (List Nat)} {N : List Nat} (h : Mon A M N) {x : Nat} (hx : x < M.length) {a b c : List Nat} (e : Go.Proofs.Ytflclnkaccbfcaa.lw A.k.toNat N x = a ++ b ++ c) : Go.Proofs.Ytflclnkaccbfcaa.lw A.k.toNat N (mr A.k.toNat N 0 b) = b := by
  obtain ⟨hl, hw⟩ := h.lw x hx
  rw [e] at hl hw
  have hb : Lt A.k.toNat b := hl.left.right
  have hv := h.least b hb
  obtain ⟨hvl, hvw⟩ := h.lw _ (h.lt hb h.pos)
  obtain ⟨v, hvE⟩ : ∃ v, Go.Proofs.Ytflclnkaccbfcaa.lw A.k.toNat N (mr A.k.toNat N 0 b) = v := ⟨_, rfl⟩
  rw [hvE] at hv hvl hvw ⊢
  have hs : mr A.k.toNat N 0 (a ++ v ++ c) = x := by
    rw [mr_app, mr_app, ← hw, mr_app, mr_app]
    congr 1
    rw [← h.mr_pr (h.lt hl.left.left h.pos) hvl, ← h.mr_pr (h.lt hl.left.left h.pos) hb, hvw]
  have h1 := h.least (a ++ v ++ c) ((hl.left.left.app hvl).app hl.right)
  rw [hs, e] at h1
  have h2 : sle (a ++ v ++ c) (a ++ b ++ c) := sle_app (sle_pre a hv) c
  have := sle_anti h2 h1
  rw [List.append_left_inj, List.append_right_inj] at this
  exact this
end Go.Proofs.Ytflclnkaccbfcaa

namespace Go.Proofs.Ytflclnkaccbfcaa
set_option linter.unusedVariables false

theorem least_of {p : Nat → Prop} (h : ∃ n, p n) : ∃ n, p n ∧ ∀ m, m < n → ¬ p m := by
  obtain ⟨n, hn⟩ := h
  induction n using Nat.strongRecOn with
  | _ n ih =>
    by_cases c : ∃ m, m < n ∧ p m
    · obtain ⟨m, hm, hp⟩ := c
      exact ih m hm hp
    · exact ⟨n, hn, fun m hm hp => c ⟨m, hm, hp⟩⟩

/-- Each point has its tail and its ring. -/
theorem tr_ex {f : Nat → Nat} {n i : Nat} (h : ∀ i, i < n → f i < n) (hi : i < n) : ∃ t r, TR f i t r := by
  have h1 : ∃ b, ∃ a, a < b ∧ orb f i a = orb f i b := by
    apply Classical.byContradiction
    intro hc
    have := nodup_le n ((List.range (n + 1)).map (orb f i)) (map_nodup (fun a b hab hb e => hc ⟨b, a, hab, e⟩)) (fun x hx => by
      obtain ⟨k, _, rfl⟩ := List.mem_map.1 hx
      exact orb_lt h hi k)
    simp at this
    omega
  obtain ⟨b, ⟨a, hab, e⟩, hm⟩ := least_of h1
  refine ⟨a, b - a, ?_, ?_, by omega⟩
  · intro c d hcd hd q
    exact hm d (by omega) ⟨c, hcd, q⟩
  · rw [show a + (b - a) = b by omega, e]

/-- Multiplying by i from the right. -/
def rm (K : Nat) (N : List Nat) (i : Nat) : Nat → Nat := fun x => pr K N x i

/-- The power n of i. -/
def pwN (K : Nat) (N : List Nat) (i n : Nat) : Nat := orb (rm K N i) 0 n

theorem pwN_zero (K : Nat) (N : List Nat) (i : Nat) : pwN K N i 0 = 0 := rfl

theorem pwN_succ (K : Nat) (N : List Nat) (i n : Nat) : pwN K N i (n + 1) = pr K N (pwN K N i n) i := rfl

theorem Mon.rm_lt {A : Aut} {M : List (List Nat)} {N : List Nat} (h : Mon A M N) {i : Nat} (hi : i < M.length) : ∀ x, x < M.length → rm A.k.toNat N i x < M.length := fun x hx => h.pr_lt hx hi

theorem Mon.pw_lt {A : Aut} {M : List (List Nat)} {N : List Nat} (h : Mon A M N) {i : Nat} (hi : i < M.length) (n : Nat) : pwN A.k.toNat N i n < M.length := orb_lt (h.rm_lt hi) h.pos n

theorem Mon.pw_one {A : Aut} {M : List (List Nat)} {N : List Nat} (h : Mon A M N) {i : Nat} (hi : i < M.length) : pwN A.k.toNat N i 1 = i := h.one_pr hi

theorem Mon.pw_add {A : Aut} {M : List (List Nat)} {N : List Nat} (h : Mon A M N) {i : Nat} (hi : i < M.length) (a : Nat) : ∀ b, pwN A.k.toNat N i (a + b) = Go.Proofs.Ytflclnkaccbfcaa.pr A.k.toNat N (pwN A.k.toNat N i a) (pwN A.k.toNat N i b)
  | 0 => rfl
  | b + 1 => by rw [← Nat.add_assoc, pwN_succ, h.pw_add hi a b, h.assoc (h.pw_lt hi a) (h.pw_lt hi b) hi, pwN_succ]

theorem Mon.pw_mul {A : Aut} {M : List (List Nat)} {N : List Nat} (h : Mon A M N) {i : Nat} (hi : i < M.length) (a : Nat) : ∀ b, pwN A.k.toNat N (pwN A.k.toNat N i a) b = pwN A.k.toNat N i (a * b)
  | 0 => rfl
  | b + 1 => by rw [pwN_succ, h.pw_mul hi a b, Nat.mul_succ, h.pw_add hi]

theorem Mon.pw_idem {A : Aut} {M : List (List Nat)} {N : List Nat} (h : Mon A M N) {x : Nat} (hx : x < M.length) (e : Go.Proofs.Ytflclnkaccbfcaa.pr A.k.toNat N x x = x) : ∀ n, 1 ≤ n → pwN A.k.toNat N x n = x
  | 0, h0 => by omega
  | 1, _ => h.pw_one hx
  | n + 2, _ => by rw [pwN_succ, h.pw_idem hx e (n + 1) (by omega), e]

/-- w is the idempotent among i's powers. -/
def OmQ (K : Nat) (N : List Nat) (i w : Nat) : Prop := ∃ n, 1 ≤ n ∧ pwN K N i n = w ∧ pr K N w w = w

theorem Mon.om_uniq {A : Aut} {M : List (List Nat)} {N : List Nat} (h : Mon A M N) {i : Nat} (hi : i < M.length) {x y : Nat} (hx : OmQ A.k.toNat N i x) (hy : OmQ A.k.toNat N i y) : x = y := by
  obtain ⟨n, n1, rfl, hn⟩ := hx
  obtain ⟨m, m1, rfl, hm⟩ := hy
  rw [← h.pw_idem (h.pw_lt hi n) hn m m1, ← h.pw_idem (h.pw_lt hi m) hm n n1, h.pw_mul hi, h.pw_mul hi, Nat.mul_comm]

theorem Mon.om_lt {A : Aut} {M : List (List Nat)} {N : List Nat} (h : Mon A M N) {i : Nat} (hi : i < M.length) {x : Nat} (hx : OmQ A.k.toNat N i x) : x < M.length := by
  obtain ⟨n, _, rfl, _⟩ := hx
  exact h.pw_lt hi n

/-- A power is idempotent just from the index on, at multiples of the period. -/
theorem Mon.idem_iff {A : Aut} {M : List (List Nat)} {N : List Nat} (h : Mon A M N) {i : Nat} (hi : i < M.length) {t r : Nat} (R : TR (rm A.k.toNat N i) 0 t r) (n : Nat) (hn : 1 ≤ n) : Go.Proofs.Ytflclnkaccbfcaa.pr A.k.toNat N (pwN A.k.toNat N i n) (pwN A.k.toNat N i n) = pwN A.k.toNat N i n ↔ t ≤ n ∧ r ∣ n := by
  rw [← h.pw_add hi]
  exact R.iff n n hn

theorem Mon.om_ex {A : Aut} {M : List (List Nat)} {N : List Nat} (h : Mon A M N) {i : Nat} (hi : i < M.length) : ∃ n, 1 ≤ n ∧ n ≤ M.length ∧ Go.Proofs.Ytflclnkaccbfcaa.pr A.k.toNat N (pwN A.k.toNat N i n) (pwN A.k.toNat N i n) = pwN A.k.toNat N i n := by
  obtain ⟨t, r, R⟩ := tr_ex (h.rm_lt hi) h.pos
  have hle := R.le (h.rm_lt hi) h.pos
  have hr := R.pos
  by_cases ht : t = 0
  · exact ⟨r, hr, by omega, (h.idem_iff hi R r hr).2 ⟨by omega, Nat.dvd_refl _⟩⟩
  · have e := Nat.mod_add_div (t + r - 1) r
    have hm := Nat.mod_lt (t + r - 1) hr
    refine ⟨r * ((t + r - 1) / r), by omega, by omega, (h.idem_iff hi R _ (by omega)).2 ⟨by omega, Nat.dvd_mul_right _ _⟩⟩

/-- Powers of products, turned about. -/
theorem Mon.pw_turn {A : Aut} {M : List (List Nat)} {N : List Nat} (h : Mon A M N) {i j : Nat} (hi : i < M.length) (hj : j < M.length) : ∀ n, pwN A.k.toNat N (Go.Proofs.Ytflclnkaccbfcaa.pr A.k.toNat N i j) (n + 1) = Go.Proofs.Ytflclnkaccbfcaa.pr A.k.toNat N (Go.Proofs.Ytflclnkaccbfcaa.pr A.k.toNat N i (pwN A.k.toNat N (Go.Proofs.Ytflclnkaccbfcaa.pr A.k.toNat N j i) n)) j
  | 0 => by rw [h.pw_one (h.pr_lt hi hj)]; rfl
  | n + 1 => by
    have hji := h.pr_lt hj hi
    have hp := h.pw_lt hji n
    rw [pwN_succ, h.pw_turn hi hj n, pwN_succ, h.assoc (h.pr_lt hi hp) hj (h.pr_lt hi hj), ← h.assoc hj hi hj, ← h.assoc (h.pr_lt hi hp) hji hj, ← h.assoc hi hp hji]

theorem Mon.per_dvd {A : Aut} {M : List (List Nat)} {N : List Nat} (h : Mon A M N) {i j : Nat} (hi : i < M.length) (hj : j < M.length) {t r t' r' : Nat} (R : TR (rm A.k.toNat N (Go.Proofs.Ytflclnkaccbfcaa.pr A.k.toNat N i j)) 0 t r) (R' : TR (rm A.k.toNat N (Go.Proofs.Ytflclnkaccbfcaa.pr A.k.toNat N j i)) 0 t' r') : r ∣ r' := by
  have e : pwN A.k.toNat N (Go.Proofs.Ytflclnkaccbfcaa.pr A.k.toNat N i j) (t' + 1 + r') = pwN A.k.toNat N (Go.Proofs.Ytflclnkaccbfcaa.pr A.k.toNat N i j) (t' + 1) := by
    rw [show t' + 1 + r' = (t' + r') + 1 by omega, h.pw_turn hi hj, h.pw_turn hi hj]
    have : pwN A.k.toNat N (Go.Proofs.Ytflclnkaccbfcaa.pr A.k.toNat N j i) (t' + r') = pwN A.k.toNat N (Go.Proofs.Ytflclnkaccbfcaa.pr A.k.toNat N j i) t' := R'.back
    rw [this]
  exact ((R.iff _ _ R'.pos).1 e).2

theorem Mon.per_same {A : Aut} {M : List (List Nat)} {N : List Nat} (h : Mon A M N) {i j : Nat} (hi : i < M.length) (hj : j < M.length) {t r t' r' : Nat} (R : TR (rm A.k.toNat N (Go.Proofs.Ytflclnkaccbfcaa.pr A.k.toNat N i j)) 0 t r) (R' : TR (rm A.k.toNat N (Go.Proofs.Ytflclnkaccbfcaa.pr A.k.toNat N j i)) 0 t' r') : r = r' :=
  Nat.dvd_antisymm (h.per_dvd hi hj R R') (h.per_dvd hj hi R' R)

end Go.Proofs.Ytflclnkaccbfcaa

namespace Go.Proofs.Ytflclnkaccbfcaa
open Go Go.RowKit Go.Lib Go.Maps
set_option linter.unusedVariables false
attribute [-instance] List.instBEq instBEqProd

theorem SR.nat {w : World} {a : Option Addr} {xs : List Nat} (h : SR w a (nC xs)) {i : Nat} (hi : i < xs.length) : ∃ g o, a = some ⟨g, o, none⟩ ∧ g < w.heap.size ∧ w.cell? ⟨g, o + i, none⟩ = some (.int .i64 ((xs.getD i 0 : Nat) : Int)) :=
  h i _ (by simp [nC, hi, List.getD_eq_getElem?_getD])

/-- The product of elements one behind the other. -/
def prL (K : Nat) (N : List Nat) (L : List Nat) : Nat := L.foldl (pr K N) 0

theorem Mon.prL_lt {A : Aut} {M : List (List Nat)} {N : List Nat} (h : Mon A M N) {L : List Nat} (hL : ∀ x ∈ L, x < M.length) : prL A.k.toNat N L < M.length := by
  unfold prL
  have : ∀ (L : List Nat) (o : Nat), o < M.length → (∀ x ∈ L, x < M.length) → L.foldl (Go.Proofs.Ytflclnkaccbfcaa.pr A.k.toNat N) o < M.length := by
    intro L
    induction L with
    | nil => intro o ho _; exact ho
    | cons y L ih => intro o ho hL; exact ih _ (h.pr_lt ho (hL y (by simp))) (fun x hx => hL x (by simp [hx]))
  exact this L 0 h.pos hL

set_option maxHeartbeats 1000000 in
set_option maxRecDepth 100000 in
theorem iprod_any {w : World} {ob : Nat} {A : Aut} {M : List (List Nat)} {N : List Nat} (h : MO w ob A M N) (a : Option Addr) (cap : Nat) (L : List Nat) (hL : ∀ x ∈ L, x < M.length) (hS : SR w a (nC L)) (hm : L.length ≤ 9223372036854775806) :
    Calls Try.prog 55 #[.pointer (some ⟨ob, 0, none⟩), .slice a L.length cap] w fun e w' => e = .returned (.int .i64 (prL A.k.toNat N L : Nat)) ∧ Below w.heap.size w w' := by
  have HM : Hid (MO w ob A M N) := h
  have HMon : Hid (Mon A M N) := by
    obtain ⟨_, _, _, _, _, _, _, _, _, _, _, _, _, _, _, _, _, q⟩ := h
    exact q.mon
  have HL : Hid (∀ x ∈ L, x < M.length) := hL
  have HS : Hid (SR w a (nC L)) := hS
  clear h hL hS
  go_enter Try.func55, Try.ntmps55
  go_wp2_with fail
  go_loopw [5, 10] (fun vo vi wr => ∃ i : Nat, i ≤ L.length ∧ vi = .int .i64 i ∧ vo = .int .i64 (prL A.k.toNat N (L.take i) : Nat) ∧ Below w.heap.size w wr) (fun _ vi _ => L.length - (Go.Lib.intOf vi).toNat)
  case atStart => exact ⟨0, Nat.zero_le _, rfl, rfl, Below.refl _ _⟩
  case round =>
    obtain ⟨i, hi, rfl, rfl, hb⟩ := hrel
    have HB : Hid (Below w.heap.size w wr) := hb
    by_cases hlt : i < L.length
    · have hiI : (i : Int) < L.length := by omega
      obtain ⟨g, o, rfl, _, hc⟩ := (HS.out.stay hb).nat hlt
      obtain ⟨x, hx⟩ : ∃ x, L.getD i 0 = x := ⟨_, rfl⟩
      rw [hx] at hc
      have hxL : L[i]? = some x := by rw [List.getElem?_eq_getElem hlt, ← hx]; simp [hlt]
      have hxl : x < M.length := HL.out x (List.mem_of_getElem? hxL)
      have HT : Hid (pr A.k.toNat N (prL A.k.toNat N (L.take i)) x = prL A.k.toNat N (L.take (i + 1))) := by
        show _ = _
        rw [List.take_add_one, hxL]
        simp [prL]
      obtain ⟨y, hy⟩ : ∃ y, prL A.k.toNat N (L.take i) = y := ⟨_, rfl⟩
      have hyl : y < M.length := by rw [← hy]; exact HMon.out.prL_lt (fun z hz => HL.out z (List.mem_of_mem_take hz))
      rw [hy] at HT ⊢
      have HLT : Hid (i < L.length) := hlt
      clear hb hx hxL hy hlt
      go_wp2_with fail
      refine (mproduct_ok (HM.out.below HB.out) y x hyl hxl).mono ?_
      rintro e w1 ⟨rfl, hb1⟩
      rw [HT.out]
      have HB1 : Hid (Below w.heap.size w w1) := go_on HB.out hb1
      clear hb1 hc
      go_wp2_with fail
      go_roundw
      case rel => exact ⟨i + 1, HLT.out, by go_num, rfl, HB1.out⟩
      case measure => have := HLT.out; simp [Go.Lib.intOf]; omega
    · have hiI : ¬ (i : Int) < L.length := by omega
      have e : L.take i = L := List.take_of_length_le (by omega)
      rw [e]
      clear hb
      go_wp2_with fail
      go_ret
      exact ⟨rfl, HB.out⟩

theorem sr_new (w : World) (cs : List Nat) (t : Nat) : SR (w.alloc (.cells (nC cs).toArray t)) (some ⟨w.heap.size, 0, none⟩) (nC cs) := by
  intro i u hu
  refine ⟨_, _, rfl, by simp, ?_⟩
  rw [Nat.zero_add, cell_of_row _ _ _ _ _ _ (heap_last w _)]
  simpa using hu

theorem iprod_new {w : World} {ob : Nat} {A : Aut} {M : List (List Nat)} {N : List Nat} (h : MO w ob A M N) (L : List Nat) (hL : ∀ x ∈ L, x < M.length) (hm : L.length ≤ 100) (t : Nat) :
    Calls Try.prog 55 #[.pointer (some ⟨ob, 0, none⟩), .slice (some ⟨w.heap.size, 0, none⟩) L.length L.length] (w.alloc (.cells (nC L).toArray t)) fun e w' => e = .returned (.int .i64 (prL A.k.toNat N L : Nat)) ∧ Below w.heap.size w w' := by
  refine (iprod_any (h.below (below_new _ _)) _ _ L hL (sr_new w L t) (by omega)).mono ?_
  rintro e w1 ⟨rfl, hb⟩
  exact ⟨rfl, go_on (below_new _ _) hb⟩

theorem MO.mon {w : World} {ob : Nat} {A : Aut} {M : List (List Nat)} {N : List Nat} (h : MO w ob A M N) : Mon A M N := by
  obtain ⟨_, _, _, _, _, _, _, _, _, _, _, _, _, _, _, _, _, q⟩ := h
  exact q.mon

/-- Two and three factors. -/
theorem iprod_two {w : World} {ob : Nat} {A : Aut} {M : List (List Nat)} {N : List Nat} (h : MO w ob A M N) (x y : Nat) (hx : x < M.length) (hy : y < M.length) :
    Calls Try.prog 55 #[.pointer (some ⟨ob, 0, none⟩), .slice (some ⟨w.heap.size, 0, none⟩) 2 2] (w.alloc (.cells #[.int .i64 (x : Nat), .int .i64 (y : Nat)] 3)) fun e w' => e = .returned (.int .i64 (pr A.k.toNat N x y : Nat)) ∧ Below w.heap.size w w' := by
  have q := iprod_new h [x, y] (by simp; exact ⟨hx, hy⟩) (by simp) 3
  have e : prL A.k.toNat N [x, y] = pr A.k.toNat N x y := by show pr _ _ (pr _ _ 0 x) y = _; rw [h.mon.one_pr hx]
  rw [e] at q
  exact q

theorem iprod_three {w : World} {ob : Nat} {A : Aut} {M : List (List Nat)} {N : List Nat} (h : MO w ob A M N) (x y z : Nat) (hx : x < M.length) (hy : y < M.length) (hz : z < M.length) :
    Calls Try.prog 55 #[.pointer (some ⟨ob, 0, none⟩), .slice (some ⟨w.heap.size, 0, none⟩) 3 3] (w.alloc (.cells #[.int .i64 (x : Nat), .int .i64 (y : Nat), .int .i64 (z : Nat)] 3)) fun e w' => e = .returned (.int .i64 (pr A.k.toNat N (pr A.k.toNat N x y) z : Nat)) ∧ Below w.heap.size w w' := by
  have q := iprod_new h [x, y, z] (by simp; exact ⟨hx, hy, hz⟩) (by simp) 3
  have e : prL A.k.toNat N [x, y, z] = pr A.k.toNat N (pr A.k.toNat N x y) z := by show pr _ _ (pr _ _ (pr _ _ 0 x) y) z = _; rw [h.mon.one_pr hx]
  rw [e] at q
  exact q

/-- Is it idempotent? -/
def idE (K : Nat) (N : List Nat) (i : Nat) : Bool := decide (pr K N i i = i)

set_option maxHeartbeats 1000000 in
set_option maxRecDepth 100000 in
theorem isIdem_any {w : World} {ob : Nat} {A : Aut} {M : List (List Nat)} {N : List Nat} (h : MO w ob A M N) (i : Nat) (hi : i < M.length) :
    Calls Try.prog 44 #[.pointer (some ⟨ob, 0, none⟩), .int .i64 i] w fun e w' => e = .returned (.bool (idE A.k.toNat N i)) ∧ Below w.heap.size w w' := by
  have HP : Hid _ := iprod_two h i i hi hi
  obtain ⟨p, hp⟩ : ∃ p, pr A.k.toNat N i i = p := ⟨_, rfl⟩
  have HE : Hid (idE A.k.toNat N i = decide ((p : Int) = (i : Int))) := by
    show _ = _
    unfold idE
    rw [hp]
    congr 1
    apply propext
    omega
  rw [hp] at HP
  clear h hp
  go_enter Try.func44, Try.ntmps44
  go_wp2_with fail
  refine Calls.mono HP.out ?_
  rintro e w1 ⟨rfl, hb⟩
  have HB : Hid (Below w.heap.size w w1) := hb
  clear hb
  by_cases c : p = i
  · have c1 : ((p : Int) == (i : Int)) = true := by rw [beq_iff_eq]; omega
    have HE2 : Hid (idE A.k.toNat N i = true) := by show _ = _; rw [HE.out]; exact decide_eq_true (by omega)
    go_wp2_with fail
    go_ret
    exact ⟨by rw [HE2.out]; first | rfl | simp [c], HB.out⟩
  · have c1 : ((p : Int) == (i : Int)) = false := by rw [beq_eq_false_iff_ne]; omega
    have HE2 : Hid (idE A.k.toNat N i = false) := by show _ = _; rw [HE.out]; exact decide_eq_false (by omega)
    go_wp2_with fail
    go_ret
    exact ⟨by rw [HE2.out]; first | rfl | simp [c], HB.out⟩

/-- What check answers of some numbers. -/
def ick (n : Nat) (L : List Int) : Int := if L.all (hasE n) then 0 else 11

set_option maxHeartbeats 1000000 in
set_option maxRecDepth 100000 in
theorem icheck_any {w : World} {ob : Nat} {A : Aut} {M : List (List Nat)} {N : List Nat} (h : MO w ob A M N) (a : Option Addr) (cap : Nat) (L : List Int) (hS : SR w a (zC L)) (hm : L.length ≤ 9223372036854775806) :
    Calls Try.prog 43 #[.pointer (some ⟨ob, 0, none⟩), .slice a L.length cap] w fun e w' => e = .returned (.int .i64 (ick M.length L)) ∧ w = w' := by
  have HM : Hid (MO w ob A M N) := h
  have HS : Hid (SR w a (zC L)) := hS
  have hn0 : ((M.length : Int) == 0) = false := by rw [beq_eq_false_iff_ne]; have := h.mon.pos; omega
  have hn1 : ¬ (M.length : Int) = 0 := by have := h.mon.pos; omega
  have hn2 : ¬ M.length = 0 := by omega
  obtain ⟨n, hn⟩ : ∃ n, M.length = n := ⟨_, rfl⟩
  have HLN : Hid (Calls Try.prog 34 #[.pointer (some ⟨ob, 0, none⟩)] w fun e w' => e = .returned (.int .i64 (n : Nat)) ∧ w = w') := by
    have := mlen_any HM.out
    rw [hn] at this
    exact this
  rw [hn] at hn0 hn1 hn2 ⊢
  clear h hS hn
  go_enter Try.func43, Try.ntmps43
  go_wp2_with fail
  refine HLN.out.mono ?_
  rintro e w1 ⟨rfl, rfl⟩
  go_wp2_with fail
  go_loopw [14] (fun vi wr => ∃ i : Nat, i ≤ L.length ∧ vi = .int .i64 i ∧ (∀ j, j < i → hasE n (L.getD j 0) = true) ∧ wr = w) (fun vi _ => L.length - (Go.Lib.intOf vi).toNat)
  case atStart => exact ⟨0, Nat.zero_le _, rfl, fun j hj => by omega, rfl⟩
  case round =>
    obtain ⟨i, hi, rfl, hall, rfl⟩ := hrel
    have HA : Hid (∀ j, j < i → hasE n (L.getD j 0) = true) := hall
    clear hall
    by_cases hlt : i < L.length
    · have hiI : (i : Int) < L.length := by omega
      obtain ⟨g, o, rfl, _, hc⟩ := HS.out.int hlt
      have HLT : Hid (i < L.length) := hlt
      obtain ⟨x, hx⟩ : ∃ x, L.getD i 0 = x := ⟨_, rfl⟩
      have HX : Hid (L.getD i 0 = x) := hx
      have hxm : x ∈ L := by
        rw [← hx, List.getD_eq_getElem?_getD, List.getElem?_eq_getElem hlt]
        exact List.getElem_mem hlt
      have HXM : Hid (x ∈ L) := hxm
      rw [hx] at hc
      clear hx hxm hlt
      by_cases h0 : 0 ≤ x
      · have h0d : decide (x < 0) = false := by simpa using h0
        by_cases h1 : x < n
        · have h1d : decide ((n : Int) ≤ x) = false := by simpa using h1
          have h1' : ¬ (n : Int) ≤ x := by omega
          have HH : Hid (hasE n x = true) := decide_eq_true ⟨h0, h1⟩
          go_wp2_with fail
          go_roundw
          case rel =>
            refine ⟨i + 1, HLT.out, by go_num, fun j hj => ?_, trivial⟩
            by_cases e : j = i
            · rw [e, HX.out]; exact HH.out
            · exact HA.out j (by omega)
          case measure => have := HLT.out; simp [Go.Lib.intOf]; omega
        · have h1d : decide ((n : Int) ≤ x) = true := by simpa using h1
          have h1' : (n : Int) ≤ x := by omega
          have HE : Hid (ick n L = 11) := by
            show _ = _
            unfold ick
            rw [if_neg (fun q => ?_)]
            have := of_decide_eq_true (List.all_eq_true.1 q x HXM.out)
            omega
          go_wp2_with fail
          go_ret
          exact ⟨by rw [HE.out]; rfl, rfl⟩
      · have h0d : decide (x < 0) = true := by simpa using h0
        have h0' : x < 0 := by omega
        have HE : Hid (ick n L = 11) := by
          show _ = _
          unfold ick
          rw [if_neg (fun q => ?_)]
          have := of_decide_eq_true (List.all_eq_true.1 q x HXM.out)
          omega
        go_wp2_with fail
        go_ret
        exact ⟨by rw [HE.out]; rfl, rfl⟩
    · have hiI : ¬ (i : Int) < L.length := by omega
      have HE : Hid (ick n L = 0) := by
        show _ = _
        unfold ick
        rw [if_pos]
        rw [List.all_eq_true]
        intro x hx
        obtain ⟨j, hj, rfl⟩ := List.mem_iff_getElem.1 hx
        have := HA.out j (by omega)
        rw [List.getD_eq_getElem?_getD, List.getElem?_eq_getElem hj] at this
        exact this
      go_wp2_with fail
      go_ret
      exact ⟨by rw [HE.out]; rfl, rfl⟩

theorem sr_newZ (w : World) (cs : List Int) (t : Nat) : SR (w.alloc (.cells (zC cs).toArray t)) (some ⟨w.heap.size, 0, none⟩) (zC cs) := by
  intro i u hu
  refine ⟨_, _, rfl, by simp, ?_⟩
  rw [Nat.zero_add, cell_of_row _ _ _ _ _ _ (heap_last w _)]
  simpa using hu

theorem icheck_one {w : World} {ob : Nat} {A : Aut} {M : List (List Nat)} {N : List Nat} (h : MO w ob A M N) (i : Int) :
    Calls Try.prog 43 #[.pointer (some ⟨ob, 0, none⟩), .slice (some ⟨w.heap.size, 0, none⟩) 1 1] (w.alloc (.cells #[.int .i64 i] 3)) fun e w' => e = .returned (.int .i64 (if hasE M.length i = true then 0 else 11)) ∧ w' = w.alloc (.cells #[.int .i64 i] 3) := by
  have q := icheck_any (h.below (below_new _ _)) _ 1 [i] (sr_newZ w [i] 3) (by simp)
  refine q.mono ?_
  rintro e w1 ⟨rfl, rfl⟩
  refine ⟨?_, rfl⟩
  congr 2
  simp [ick]

theorem icheck_none {w : World} {ob : Nat} {A : Aut} {M : List (List Nat)} {N : List Nat} (h : MO w ob A M N) :
    Calls Try.prog 43 #[.pointer (some ⟨ob, 0, none⟩), .slice none 0 0] w fun e w' => e = .returned (.int .i64 0) ∧ w = w' := by
  have q := icheck_any h none 0 [] (SR.nil _ _) (by simp)
  exact q
end Go.Proofs.Ytflclnkaccbfcaa
