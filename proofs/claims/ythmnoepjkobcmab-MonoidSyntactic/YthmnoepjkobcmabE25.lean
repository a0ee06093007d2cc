/- monoid: find and Build of what is refused; the law's built; checkLetter, Right, Left of a monoid that Build made. -/
import Derived.Test.YthmnoepjkobcmabE22
namespace Go.Proofs.Ythmnoepjkobcmab
open Go Go.RowKit Go.Lib Go.Maps
set_option linter.unusedVariables false
attribute [-instance] List.instBEq instBEqProd

theorem owE_ok {A : Aut} (h : owE A ByteArray.empty = 0) : Good A ∧ A.ac.length ≤ 64 := by
  unfold owE at h
  split at h
  · rename_i hc
    split at h
    · cases h
    · exact ⟨chkA_good hc, by omega⟩
  · cases h
theorem owE_good {A : Aut} (G : Good A) (h : A.ac.length ≤ 64) : owE A ByteArray.empty = 0 := by
  unfold owE
  rw [if_pos (by unfold chkA; rw [if_pos G]), if_neg (by omega)]
  exact chk_empty G

set_option maxHeartbeats 2000000 in
set_option maxRecDepth 100000 in
theorem find_bad (v : Value) (A : Aut) (w : World) (h : AR w v A) (hm : A.nx.length ≤ 9223372036854775806) (hm2 : A.ac.length ≤ 9223372036854775806) (hE : owE A ByteArray.empty ≠ 0) :
    Calls Try.prog 37 #[v] w fun e w' => e = .returned (.tuple #[.pointer none, .int .i64 (owE A ByteArray.empty)]) ∧ Below w.heap.size w w' := by
  obtain ⟨an, cn, aa, ca, e, h1, h2⟩ := h.is
  have HA : Hid (∀ w', Below w.heap.size w w' → AR w' v A) := fun w' hb => h.stay hb
  clear h h1 h2
  subst e
  obtain ⟨w0, hw0⟩ : ∃ w0, w0 = w.alloc (.cells #[.int .i64 A.k, .slice an A.nx.length cn, .slice aa A.ac.length ca] 25) := ⟨_, rfl⟩
  have HB0 : Hid (Below w.heap.size w w0) := by show Below _ _ _; rw [hw0]; exact below_new _ _
  have HW0 : Hid (w0 = w.alloc (.cells #[.int .i64 A.k, .slice an A.nx.length cn, .slice aa A.ac.length ca] 25)) := hw0
  obtain ⟨E, hEE⟩ : ∃ E, owE A ByteArray.empty = E := ⟨_, rfl⟩
  have HOW : Hid (∀ y, Below w.heap.size w y → Calls Try.prog 55 #[.agg #[.int .i64 A.k, .slice an A.nx.length cn, .slice aa A.ac.length ca], .string ByteArray.empty] y fun e w' => e = .returned (.tuple #[.agg #[.int .i64 0, .int .u64 0, .int .u64 0, .int .u64 0, .int .u64 0, .int .u64 0, .int .u64 0, .int .u64 0], .int .i64 E]) ∧ Below y.heap.size y w') := fun y hy => by
    have := ofWord_any _ A y (HA.out y hy) hm hm2 ByteArray.empty (by show 0 ≤ _; omega)
    unfold owV at this
    rw [if_neg hE, hEE] at this
    exact this
  rw [hEE] at hE ⊢
  have hq0 : (E != 0) = true := by rw [bne_iff_ne]; exact hE
  clear hw0 hEE hE
  go_enter Try.func37, Try.ntmps37
  go_wp2_with fail
  rw [← HW0.out]
  refine (HOW.out _ HB0.out).mono ?_
  rintro e w1 ⟨rfl, hB1⟩
  have HB1 : Hid (Below w.heap.size w w1) := go_on HB0.out hB1
  have HB2 : Hid (Below w.heap.size w (w1.alloc (.cells #[.int .i64 0, .int .u64 0, .int .u64 0, .int .u64 0, .int .u64 0, .int .u64 0, .int .u64 0, .int .u64 0] 40))) := go_on HB1.out (below_new _ _)
  clear hB1
  go_wp2_with fail
  go_ret2
  exact ⟨rfl, HB2.out⟩

/-- Build's error. -/
noncomputable def bdE (A : Aut) : Int := if owE A ByteArray.empty = 0 then (if (mEl A).isSome = true then 0 else 140) else owE A ByteArray.empty

/-- What Build answers. -/
def BdA (A : Aut) (w : World) (e : Ending) (w' : World) : Prop :=
  (bdE A ≠ 0 ∧ e = .returned (.tuple #[.pointer none, .int .i64 (bdE A)]) ∧ Below w.heap.size w w') ∨
  ∃ ob M N, e = .returned (.tuple #[.pointer (some ⟨ob, 0, none⟩), .int .i64 0]) ∧ Good A ∧ A.ac.length ≤ 64 ∧ mEl A = some (M, N) ∧ MO w' ob A M N ∧ Below w.heap.size w w'

set_option maxHeartbeats 2000000 in
set_option maxRecDepth 100000 in
theorem build_bad (v : Value) (A : Aut) (w : World) (h : AR w v A) (hm : A.nx.length ≤ 9223372036854775806) (hm2 : A.ac.length ≤ 9223372036854775806) (hE : owE A ByteArray.empty ≠ 0) :
    Calls Try.prog 19 #[v] w fun e w' => e = .returned (.tuple #[.pointer none, .int .i64 (owE A ByteArray.empty)]) ∧ Below w.heap.size w w' := by
  obtain ⟨an, cn, aa, ca, e, h1, h2⟩ := h.is
  have HA : Hid (∀ w', Below w.heap.size w w' → AR w' v A) := fun w' hb => h.stay hb
  clear h h1 h2
  subst e
  obtain ⟨w0, hw0⟩ : ∃ w0, w0 = w.alloc (.cells #[.int .i64 A.k, .slice an A.nx.length cn, .slice aa A.ac.length ca] 25) := ⟨_, rfl⟩
  have HB0 : Hid (Below w.heap.size w w0) := by show Below _ _ _; rw [hw0]; exact below_new _ _
  have HW0 : Hid (w0 = w.alloc (.cells #[.int .i64 A.k, .slice an A.nx.length cn, .slice aa A.ac.length ca] 25)) := hw0
  obtain ⟨E, hEE⟩ : ∃ E, owE A ByteArray.empty = E := ⟨_, rfl⟩
  have HFD : Hid (∀ y, Below w.heap.size w y → Calls Try.prog 37 #[.agg #[.int .i64 A.k, .slice an A.nx.length cn, .slice aa A.ac.length ca]] y fun e w' => e = .returned (.tuple #[.pointer none, .int .i64 E]) ∧ Below y.heap.size y w') := fun y hy => by
    have := find_bad _ A y (HA.out y hy) hm hm2 hE
    rw [hEE] at this
    exact this
  rw [hEE] at hE ⊢
  have hq0 : (E != 0) = true := by rw [bne_iff_ne]; exact hE
  clear hw0 hEE hE
  go_enter Try.func19, Try.ntmps19
  go_wp2_with fail
  rw [← HW0.out]
  refine (HFD.out _ HB0.out).mono ?_
  rintro e w1 ⟨rfl, hB1⟩
  have HB1 : Hid (Below w.heap.size w w1) := go_on HB0.out hB1
  clear hB1
  go_wp2_with fail
  go_ret2
  exact ⟨rfl, HB1.out⟩

theorem build_all (v : Value) (A : Aut) (w : World) (h : AR w v A) (hm : A.nx.length ≤ 9223372036854775806) (hm2 : A.ac.length ≤ 9223372036854775806) :
    Calls Try.prog 19 #[v] w (BdA A w) := by
  by_cases hE : owE A ByteArray.empty = 0
  · obtain ⟨G, h64⟩ := owE_ok hE
    refine (build_any v A w h G h64).mono ?_
    rintro e w' (⟨hn, rfl, hb⟩ | ⟨ob, M, N, rfl, he, hmo, hb⟩)
    · have e1 : bdE A = 140 := by unfold bdE; rw [if_pos hE, hn]; rfl
      exact .inl ⟨by rw [e1]; decide, by rw [e1], hb⟩
    · exact .inr ⟨ob, M, N, rfl, G, h64, he, hmo, hb⟩
  · refine (build_bad v A w h hm hm2 hE).mono ?_
    rintro e w' ⟨rfl, hb⟩
    have e1 : bdE A = owE A ByteArray.empty := by unfold bdE; rw [if_neg hE]
    exact .inl ⟨by rw [e1]; exact hE, by rw [e1], hb⟩

/-- What the law's built answers. -/
def BtQ (A : Aut) (w : World) (e : Ending) (w' : World) : Prop :=
  (e = .returned (.tuple #[.pointer none, .bool false]) ∧ Below w.heap.size w w') ∨
  ∃ ob M N, e = .returned (.tuple #[.pointer (some ⟨ob, 0, none⟩), .bool true]) ∧ Good A ∧ A.ac.length ≤ 64 ∧ mEl A = some (M, N) ∧ MO w' ob A M N ∧ Below w.heap.size w w'

set_option maxHeartbeats 2000000 in
set_option maxRecDepth 100000 in
theorem built_any (v : Value) (A : Aut) (w : World) (h : AR w v A) (hm : A.nx.length ≤ 9223372036854775806) (hm2 : A.ac.length ≤ 9223372036854775806) :
    Calls Try.prog 5 #[v] w (BtQ A w) := by
  obtain ⟨an, cn, aa, ca, e, h1, h2⟩ := h.is
  have HA : Hid (∀ w', Below w.heap.size w w' → AR w' v A) := fun w' hb => h.stay hb
  clear h h1 h2
  subst e
  obtain ⟨w0, hw0⟩ : ∃ w0, w0 = w.alloc (.cells #[.int .i64 A.k, .slice an A.nx.length cn, .slice aa A.ac.length ca] 25) := ⟨_, rfl⟩
  have HB0 : Hid (Below w.heap.size w w0) := by show Below _ _ _; rw [hw0]; exact below_new _ _
  have HW0 : Hid (w0 = w.alloc (.cells #[.int .i64 A.k, .slice an A.nx.length cn, .slice aa A.ac.length ca] 25)) := hw0
  clear hw0
  go_enter Try.func5, Try.ntmps5
  go_wp2_with fail
  rw [← HW0.out]
  refine (build_all _ A _ (HA.out _ HB0.out) hm hm2).mono ?_
  rintro e w1 (⟨hne, rfl, hB1⟩ | ⟨ob, M, N, rfl, G, h64, hE, hmo, hB1⟩)
  · have HB1 : Hid (Below w.heap.size w w1) := go_on HB0.out hB1
    obtain ⟨E, hEE⟩ : ∃ E, bdE A = E := ⟨_, rfl⟩
    rw [hEE] at hne ⊢
    have hq0 : (E == 0) = false := by rw [beq_eq_false_iff_ne]; exact hne
    have hqd : decide (E = 0) = false := decide_eq_false hne
    clear hB1 hEE
    go_wp2_with fail
    refine (num14_any E w1).mono ?_
    rintro e w2 ⟨rfl, rfl⟩
    go_wp2_with fail
    go_ret2
    exact .inl ⟨rfl, HB1.out⟩
  · have HB1 : Hid (Below w.heap.size w w1) := go_on HB0.out hB1
    have HX : Hid (Good A ∧ A.ac.length ≤ 64 ∧ mEl A = some (M, N) ∧ MO w1 ob A M N) := ⟨G, h64, hE, hmo⟩
    clear hB1 G h64 hE hmo
    go_wp2_with fail
    refine (num14_any 0 w1).mono ?_
    rintro e w2 ⟨rfl, rfl⟩
    go_wp2_with fail
    go_ret2
    exact .inr ⟨ob, M, N, rfl, HX.out.1, HX.out.2.1, HX.out.2.2.1, HX.out.2.2.2, HB1.out⟩

end Go.Proofs.Ythmnoepjkobcmab
