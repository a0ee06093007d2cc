/- monoid: isMade, check, Len, Product of a monoid that Build made. -/
import Derived.Test.YthmnoepjkobcmabE18
namespace Go.Proofs.Ythmnoepjkobcmab
open Go Go.RowKit Go.Lib Go.Maps
set_option linter.unusedVariables false
attribute [-instance] List.instBEq instBEqProd

theorem eq_ptrM (a : Addr) (w : World) : (binOp .eql 26 (.pointer (some a)) (.pointer (some a))).run Try.prog w = .ok (.bool true) w := by
  simp only [binOp]
  simp only [Op.equal, Op.maxDepth]
  rw [show (10000 : Nat) = 9999 + 1 from rfl, Op.equalIn]
  simp [Sem.run_bind, run_underlying Try.underlying26, sameAddr]
set_option maxHeartbeats 1000000 in
set_option maxRecDepth 100000 in
theorem mmade_any {w : World} {ob : Nat} {A : Aut} {M : List (List Nat)} {N : List Nat} (h : MO w ob A M N) : Calls Try.prog 22 #[.pointer (some ⟨ob, 0, none⟩)] w fun e w' => e = .returned (.bool true) ∧ w = w' := by
  obtain ⟨base, bt, b, mb, gw, ga, R, n, a, c, d, vl, D, an, cn, aa, ca, h⟩ := h
  have h0 : w.cell? ⟨ob, 0, none⟩ = some (.pointer (some ⟨ob, 0, none⟩)) := cell_at h.box rfl
  have he := eq_ptrM ⟨ob, 0, none⟩ w
  clear h
  go_enter Try.func22, Try.ntmps22
  go_wp2_with fail
  go_ret
  exact ⟨rfl, rfl⟩
set_option maxHeartbeats 1000000 in
set_option maxRecDepth 100000 in
theorem mlen_any {w : World} {ob : Nat} {A : Aut} {M : List (List Nat)} {N : List Nat} (h : MO w ob A M N) : Calls Try.prog 16 #[.pointer (some ⟨ob, 0, none⟩)] w fun e w' => e = .returned (.int .i64 (M.length : Nat)) ∧ w = w' := by
  have H : Hid (MO w ob A M N) := h
  obtain ⟨base, bt, b, mb, gw, ga, R, n, a, c, d, vl, D, an, cn, aa, ca, h⟩ := h
  have h5 : w.cell? ⟨ob, 5, none⟩ = some (.slice (some ⟨gw, 0, none⟩) n n) := cell_at h.box rfl
  have HN : Hid (M.length = n) := h.num.1
  clear h
  go_enter Try.func16, Try.ntmps16
  go_wp2_with fail
  refine (mmade_any H.out).mono ?_
  rintro e w1 ⟨rfl, rfl⟩
  go_wp2_with fail
  go_ret
  exact ⟨by rw [HN.out]; rfl, rfl⟩
/-- What check answers. -/
def mck (n : Nat) (i : Int) : Int := if 0 ≤ i ∧ i < n then 0 else 11
set_option maxHeartbeats 1000000 in
set_option maxRecDepth 100000 in
theorem mcheck_any {w : World} {ob : Nat} {A : Aut} {M : List (List Nat)} {N : List Nat} (h : MO w ob A M N) (i : Int) : Calls Try.prog 25 #[.pointer (some ⟨ob, 0, none⟩), .int .i64 i] w fun e w' => e = .returned (.int .i64 (mck M.length i)) ∧ w = w' := by
  have H : Hid (MO w ob A M N) := h
  obtain ⟨base, bt, b, mb, gw, ga, R, n, a, c, d, vl, D, an, cn, aa, ca, h⟩ := h
  have h5 : w.cell? ⟨ob, 5, none⟩ = some (.slice (some ⟨gw, 0, none⟩) n n) := cell_at h.box rfl
  have HN : Hid (M.length = n) := h.num.1
  rw [h.num.1]
  clear h
  by_cases h0 : 0 ≤ i
  · by_cases h1 : i < n
    · have HE : Hid (mck n i = 0) := by show mck n i = 0; unfold mck; rw [if_pos ⟨h0, h1⟩]
      have h0' : decide (i < 0) = false := by simpa using h0
      have h1' : ¬ (n : Int) ≤ i := by omega
      have h1d : decide ((n : Int) ≤ i) = false := by simpa using h1
      go_enter Try.func25, Try.ntmps25
      go_wp2_with fail
      refine (mmade_any H.out).mono ?_
      rintro e w1 ⟨rfl, rfl⟩
      go_wp2_with fail
      go_ret
      exact ⟨ret_intJ HE.out.symm, rfl⟩
    · have HE : Hid (mck n i = 11) := by show mck n i = 11; unfold mck; rw [if_neg (fun q => h1 q.2)]
      have h0' : decide (i < 0) = false := by simpa using h0
      have h1' : (n : Int) ≤ i := by omega
      have h1d : decide ((n : Int) ≤ i) = true := by simpa using h1'
      go_enter Try.func25, Try.ntmps25
      go_wp2_with fail
      refine (mmade_any H.out).mono ?_
      rintro e w1 ⟨rfl, rfl⟩
      go_wp2_with fail
      go_ret
      exact ⟨ret_intJ HE.out.symm, rfl⟩
  · have HE : Hid (mck n i = 11) := by show mck n i = 11; unfold mck; rw [if_neg (fun q => h0 q.1)]
    have h0' : i < 0 := by omega
    have h0d : decide (i < 0) = true := by simpa using h0'
    go_enter Try.func25, Try.ntmps25
    go_wp2_with fail
    refine (mmade_any H.out).mono ?_
    rintro e w1 ⟨rfl, rfl⟩
    go_wp2_with fail
    go_ret
    exact ⟨ret_intJ HE.out.symm, rfl⟩
set_option maxHeartbeats 1000000 in
set_option maxRecDepth 100000 in
theorem mproduct_ok {w : World} {ob : Nat} {A : Aut} {M : List (List Nat)} {N : List Nat} (h : MO w ob A M N) (i j : Nat) (hi : i < M.length) (hj : j < M.length) : Calls Try.prog 9 #[.pointer (some ⟨ob, 0, none⟩), .int .i64 i, .int .i64 j] w fun e w' => e = .returned (.tuple #[.int .i64 (pr A.k.toNat N i j : Nat), .int .i64 0]) ∧ Below w.heap.size w w' := by
  have H : Hid (MO w ob A M N) := h
  have hmo := h
  obtain ⟨base, bt, b, mb, gw, ga, R, n, a, c, d, vl, D, an, cn, aa, ca, h⟩ := h
  have HP : Hid (pr A.k.toNat N i j < M.length) := h.mon.pr_lt hi hj
  have hnm := h.num
  have hms := h.mon.most
  have c11 : w.cell? ⟨ob, 11, none⟩ = some (.int .i64 (n : Int)) := cell_at h.box rfl
  have c12 : w.cell? ⟨ob, 12, none⟩ = some (.slice (some ⟨R, d, none⟩) c c) := cell_at h.box rfl
  have HCI : Hid (mck M.length i = 0) := by show mck _ _ = 0; unfold mck; rw [if_pos ⟨by omega, by omega⟩]
  have HCJ : Hid (mck M.length j = 0) := by show mck _ _ = 0; unfold mck; rw [if_pos ⟨by omega, by omega⟩]
  obtain ⟨q, hq⟩ : ∃ q, i * n = q := ⟨_, rfl⟩
  obtain ⟨v, hv⟩ : ∃ v, pr A.k.toNat N i j = v := ⟨_, rfl⟩
  have hn2 : n * n ≤ 512 * 512 := Nat.mul_le_mul (by omega) (by omega)
  have hqlt : q + j < c := by rw [← hq, ← hnm.2.2.1]; exact idx_lt (by omega) (by omega)
  have hcell := h.rt.prod (i := i) (j := j) (by omega) (by omega) trivial
  rw [hv, hnm.2.1, hnm.2.2.2, hq] at hcell
  rw [hv] at HP
  rw [hv]
  have HG : Hid (Calls Try.prog 26 #[.agg #[.int .i64 (n : Int), .slice (some ⟨R, d, none⟩) c c], .int .i64 i, .int .i64 j] w fun e w' => e = .returned (.int .i64 v) ∧ Below w.heap.size w w') := gat_any R d n i j c c q v hq hqlt (by have := HP.out; omega) (by omega) w hcell h.rt.lt
  clear h hmo hnm hcell hn2 hq hqlt hv
  go_enter Try.func9, Try.ntmps9
  go_wp2_with fail
  refine (mcheck_any H.out i).mono ?_
  rintro e w1 ⟨rfl, rfl⟩
  rw [HCI.out]
  go_wp2_with fail
  refine (mcheck_any H.out j).mono ?_
  rintro e w1 ⟨rfl, rfl⟩
  rw [HCJ.out]
  go_wp2_with fail
  refine HG.out.mono ?_
  rintro e w1 ⟨rfl, hb⟩
  go_wp2_with fail
  go_ret2
  exact ⟨rfl, hb⟩
end Go.Proofs.Ythmnoepjkobcmab
