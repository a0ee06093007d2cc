/- monoid: find and Build of what is refused; the law's built; checkLetter, Right, Left of a monoid that Build made. -/
import Derived.Test.YthmnoepjkobcmaaE22
namespace Go.Proofs.Ythmnoepjkobcmaa
open Go Go.RowKit Go.Lib Go.Maps
set_option linter.unusedVariables false
attribute [-instance] List.instBEq instBEqProd

theorem owE_ok {A : Aut} (h : owE A ByteArray.empty = 0) : Good A ∧ A.ac.length ≤ 64 := by
  unfold owE at h
  split at h
  · rename_i hc
    split at h
    · cases h
    · exact ⟨chkA_good hc, by omega⟩
  · cases h
theorem owE_good {A : Aut} (G : Good A) (h : A.ac.length ≤ 64) : owE A ByteArray.empty = 0 := by
  unfold owE
  rw [if_pos (by unfold chkA; rw [if_pos G]), if_neg (by omega)]
  exact chk_empty G
set_option maxHeartbeats 2000000 in
set_option maxRecDepth 100000 in
theorem find_bad (v : Value) (A : Aut) (w : World) (h : AR w v A) (hm : A.nx.length ≤ 9223372036854775806) (hm2 : A.ac.length ≤ 9223372036854775806) (hE : owE A ByteArray.empty ≠ 0) :
    Calls Try.prog 67 #[v] w fun e w' => e = .returned (.tuple #[.pointer none, .int .i64 (owE A ByteArray.empty)]) ∧ Below w.heap.size w w' := by
  obtain ⟨an, cn, aa, ca, e, h1, h2⟩ := h.is
  have HA : Hid (∀ w', Below w.heap.size w w' → AR w' v A) := fun w' hb => h.stay hb
  clear h h1 h2
  subst e
  obtain ⟨w0, hw0⟩ : ∃ w0, w0 = w.alloc (.cells #[.int .i64 A.k, .slice an A.nx.length cn, .slice aa A.ac.length ca] 26) := ⟨_, rfl⟩
  have HB0 : Hid (Below w.heap.size w w0) := by show Below _ _ _; rw [hw0]; exact below_new _ _
  have HW0 : Hid (w0 = w.alloc (.cells #[.int .i64 A.k, .slice an A.nx.length cn, .slice aa A.ac.length ca] 26)) := hw0
  obtain ⟨E, hEE⟩ : ∃ E, owE A ByteArray.empty = E := ⟨_, rfl⟩
  have HOW : Hid (∀ y, Below w.heap.size w y → Calls Try.prog 82 #[.agg #[.int .i64 A.k, .slice an A.nx.length cn, .slice aa A.ac.length ca], .string ByteArray.empty] y fun e w' => e = .returned (.tuple #[.agg #[.int .i64 0, .int .u64 0, .int .u64 0, .int .u64 0, .int .u64 0, .int .u64 0, .int .u64 0, .int .u64 0], .int .i64 E]) ∧ Below y.heap.size y w') := fun y hy => by
    have := ofWord_any _ A y (HA.out y hy) hm hm2 ByteArray.empty (by show 0 ≤ _; omega)
    unfold owV at this
    rw [if_neg hE, hEE] at this
    exact this
  rw [hEE] at hE ⊢
  have hq0 : (E != 0) = true := by rw [bne_iff_ne]; exact hE
  clear hw0 hEE hE
  go_enter Try.func67, Try.ntmps67
  go_wp2_with fail
  rw [← HW0.out]
  refine (HOW.out _ HB0.out).mono ?_
  rintro e w1 ⟨rfl, hB1⟩
  have HB1 : Hid (Below w.heap.size w w1) := go_on HB0.out hB1
  have HB2 : Hid (Below w.heap.size w (w1.alloc (.cells #[.int .i64 0, .int .u64 0, .int .u64 0, .int .u64 0, .int .u64 0, .int .u64 0, .int .u64 0, .int .u64 0] 52))) := go_on HB1.out (below_new _ _)
  clear hB1
  go_wp2_with fail
  go_ret2
  exact ⟨rfl, HB2.out⟩
/-- Build's error. -/
noncomputable def bdE (A : Aut) : Int := if owE A ByteArray.empty = 0 then (if (mEl A).isSome = true then 0 else 140) else owE A ByteArray.empty
/-- What Build answers. -/
def BdA (A : Aut) (w : World) (e : Ending) (w' : World) : Prop :=
  (bdE A ≠ 0 ∧ e = .returned (.tuple #[.pointer none, .int .i64 (bdE A)]) ∧ Below w.heap.size w w') ∨
  ∃ ob M N, e = .returned (.tuple #[.pointer (some ⟨ob, 0, none⟩), .int .i64 0]) ∧ Good A ∧ A.ac.length ≤ 64 ∧ mEl A = some (M, N) ∧ MO w' ob A M N ∧ Below w.heap.size w w'
set_option maxHeartbeats 2000000 in
set_option maxRecDepth 100000 in
theorem build_bad (v : Value) (A : Aut) (w : World) (h : AR w v A) (hm : A.nx.length ≤ 9223372036854775806) (hm2 : A.ac.length ≤ 9223372036854775806) (hE : owE A ByteArray.empty ≠ 0) :
    Calls Try.prog 41 #[v] w fun e w' => e = .returned (.tuple #[.pointer none, .int .i64 (owE A ByteArray.empty)]) ∧ Below w.heap.size w w' := by
  obtain ⟨an, cn, aa, ca, e, h1, h2⟩ := h.is
  have HA : Hid (∀ w', Below w.heap.size w w' → AR w' v A) := fun w' hb => h.stay hb
  clear h h1 h2
  subst e
  obtain ⟨w0, hw0⟩ : ∃ w0, w0 = w.alloc (.cells #[.int .i64 A.k, .slice an A.nx.length cn, .slice aa A.ac.length ca] 26) := ⟨_, rfl⟩
  have HB0 : Hid (Below w.heap.size w w0) := by show Below _ _ _; rw [hw0]; exact below_new _ _
  have HW0 : Hid (w0 = w.alloc (.cells #[.int .i64 A.k, .slice an A.nx.length cn, .slice aa A.ac.length ca] 26)) := hw0
  obtain ⟨E, hEE⟩ : ∃ E, owE A ByteArray.empty = E := ⟨_, rfl⟩
  have HFD : Hid (∀ y, Below w.heap.size w y → Calls Try.prog 67 #[.agg #[.int .i64 A.k, .slice an A.nx.length cn, .slice aa A.ac.length ca]] y fun e w' => e = .returned (.tuple #[.pointer none, .int .i64 E]) ∧ Below y.heap.size y w') := fun y hy => by
    have := find_bad _ A y (HA.out y hy) hm hm2 hE
    rw [hEE] at this
    exact this
  rw [hEE] at hE ⊢
  have hq0 : (E != 0) = true := by rw [bne_iff_ne]; exact hE
  clear hw0 hEE hE
  go_enter Try.func41, Try.ntmps41
  go_wp2_with fail
  rw [← HW0.out]
  refine (HFD.out _ HB0.out).mono ?_
  rintro e w1 ⟨rfl, hB1⟩
  have HB1 : Hid (Below w.heap.size w w1) := go_on HB0.out hB1
  clear hB1
  go_wp2_with fail
  go_ret2
  exact ⟨rfl, HB1.out⟩
theorem build_all (v : Value) (A : Aut) (w : World) (h : AR w v A) (hm : A.nx.length ≤ 9223372036854775806) (hm2 : A.ac.length ≤ 9223372036854775806) :
    Calls Try.prog 41 #[v] w (BdA A w) := by
  by_cases hE : owE A ByteArray.empty = 0
  · obtain ⟨G, h64⟩ := owE_ok hE
    refine (build_any v A w h G h64).mono ?_
    rintro e w' (⟨hn, rfl, hb⟩ | ⟨ob, M, N, rfl, he, hmo, hb⟩)
    · have e1 : bdE A = 140 := by unfold bdE; rw [if_pos hE, hn]; rfl
      exact .inl ⟨by rw [e1]; decide, by rw [e1], hb⟩
    · exact .inr ⟨ob, M, N, rfl, G, h64, he, hmo, hb⟩
  · refine (build_bad v A w h hm hm2 hE).mono ?_
    rintro e w' ⟨rfl, hb⟩
    have e1 : bdE A = owE A ByteArray.empty := by unfold bdE; rw [if_neg hE]
    exact .inl ⟨by rw [e1]; exact hE, by rw [e1], hb⟩
/-- What the law's built answers. -/
def BtQ (A : Aut) (w : World) (e : Ending) (w' : World) : Prop :=
  (e = .returned (.tuple #[.pointer none, .bool false]) ∧ Below w.heap.size w w') ∨
  ∃ ob M N, e = .returned (.tuple #[.pointer (some ⟨ob, 0, none⟩), .bool true]) ∧ Good A ∧ A.ac.length ≤ 64 ∧ mEl A = some (M, N) ∧ MO w' ob A M N ∧ Below w.heap.size w w'
set_option maxHeartbeats 2000000 in
set_option maxRecDepth 100000 in
theorem built_any (v : Value) (A : Aut) (w : World) (h : AR w v A) (hm : A.nx.length ≤ 9223372036854775806) (hm2 : A.ac.length ≤ 9223372036854775806) :
    Calls Try.prog 38 #[v] w (BtQ A w) := by
  obtain ⟨an, cn, aa, ca, e, h1, h2⟩ := h.is
  have HA : Hid (∀ w', Below w.heap.size w w' → AR w' v A) := fun w' hb => h.stay hb
  clear h h1 h2
  subst e
  obtain ⟨w0, hw0⟩ : ∃ w0, w0 = w.alloc (.cells #[.int .i64 A.k, .slice an A.nx.length cn, .slice aa A.ac.length ca] 26) := ⟨_, rfl⟩
  have HB0 : Hid (Below w.heap.size w w0) := by show Below _ _ _; rw [hw0]; exact below_new _ _
  have HW0 : Hid (w0 = w.alloc (.cells #[.int .i64 A.k, .slice an A.nx.length cn, .slice aa A.ac.length ca] 26)) := hw0
  clear hw0
  go_enter Try.func38, Try.ntmps38
  go_wp2_with fail
  rw [← HW0.out]
  refine (build_all _ A _ (HA.out _ HB0.out) hm hm2).mono ?_
  rintro e w1 (⟨hne, rfl, hB1⟩ | ⟨ob, M, N, rfl, G, h64, hE, hmo, hB1⟩)
  · have HB1 : Hid (Below w.heap.size w w1) := go_on HB0.out hB1
    obtain ⟨E, hEE⟩ : ∃ E, bdE A = E := ⟨_, rfl⟩
    rw [hEE] at hne ⊢
    have hq0 : (E == 0) = false := by rw [beq_eq_false_iff_ne]; exact hne
    have hqd : decide (E = 0) = false := decide_eq_false hne
    clear hB1 hEE
    go_wp2_with fail
    refine (num14_any E w1).mono ?_
    rintro e w2 ⟨rfl, rfl⟩
    go_wp2_with fail
    go_ret2
    exact .inl ⟨rfl, HB1.out⟩
  · have HB1 : Hid (Below w.heap.size w w1) := go_on HB0.out hB1
    have HX : Hid (Good A ∧ A.ac.length ≤ 64 ∧ mEl A = some (M, N) ∧ MO w1 ob A M N) := ⟨G, h64, hE, hmo⟩
    clear hB1 G h64 hE hmo
    go_wp2_with fail
    refine (num14_any 0 w1).mono ?_
    rintro e w2 ⟨rfl, rfl⟩
    go_wp2_with fail
    go_ret2
    exact .inr ⟨ob, M, N, rfl, HX.out.1, HX.out.2.1, HX.out.2.2.1, HX.out.2.2.2, HB1.out⟩
set_option maxHeartbeats 1000000 in
set_option maxRecDepth 100000 in
theorem mchkL_ok {w : World} {ob : Nat} {A : Aut} {M : List (List Nat)} {N : List Nat} (h : MO w ob A M N) (i c x : Nat) (hi : i < M.length) (hc : c < A.k.toNat) (hx : 97 + c = x) : Calls Try.prog 57 #[.pointer (some ⟨ob, 0, none⟩), .int .i64 i, .int .u8 x] w fun e w' => e = .returned (.int .i64 0) ∧ w = w' := by
  have H : Hid (MO w ob A M N) := h
  obtain ⟨base, bt, b, mb, gw, ga, R, n, a, cc, d, vl, D, an, cn, aa, ca, h⟩ := h
  have c1 : w.cell? ⟨ob, 1, none⟩ = some (.int .i64 A.k) := cell_at h.box rfl
  have hks := h.mon.G.ks
  have HCI : Hid (mck M.length i = 0) := by show mck _ _ = 0; unfold mck; rw [if_pos ⟨by omega, by omega⟩]
  have HPL : Hid (∀ y, Calls Try.prog 58 #[.int .i32 (x : Int)] y fun e w' => e = .returned (.int .i64 (c : Int)) ∧ y = w') := fun y => by
    have := mplace_any x (by omega) (by omega) y
    rw [show x - 97 = c by omega] at this
    exact this
  have e1 : IntKind.i32.wrap (x : Int) = (x : Int) := by rw [IntKind.wrap_i32]; omega
  have h0d : decide ((c : Int) < 0) = false := decide_eq_false (by omega)
  have h0' : ¬ (c : Int) < 0 := by omega
  have h1' : ¬ A.k ≤ (c : Int) := by omega
  have h1d : decide (A.k ≤ (c : Int)) = false := decide_eq_false h1'
  clear h hks
  go_enter Try.func57, Try.ntmps57
  go_wp2_with fail
  refine (mcheck_any H.out i).mono ?_
  rintro e w1 ⟨rfl, rfl⟩
  rw [HCI.out]
  go_wp2_with fail
  refine (HPL.out w).mono ?_
  rintro e w1 ⟨rfl, rfl⟩
  go_wp2_with fail
  go_ret
  exact ⟨rfl, rfl⟩
set_option maxHeartbeats 2000000 in
set_option maxRecDepth 100000 in
theorem mright_ok {w : World} {ob : Nat} {A : Aut} {M : List (List Nat)} {N : List Nat} (h : MO w ob A M N) (i c x : Nat) (hi : i < M.length) (hc : c < A.k.toNat) (hx : 97 + c = x) : Calls Try.prog 30 #[.pointer (some ⟨ob, 0, none⟩), .int .i64 i, .int .u8 x] w fun e w' => e = .returned (.tuple #[.int .i64 (N.getD (i * A.k.toNat + c) 0 : Nat), .int .i64 0]) ∧ Below w.heap.size w w' := by
  have H : Hid (MO w ob A M N) := h
  obtain ⟨base, bt, b, mb, gw, ga, R, n, a, cc, d, vl, D, an, cn, aa, ca, h⟩ := h
  have hks := h.mon.G.ks
  have hnm := h.num
  have hms := h.mon.most
  have hobl : ob < w.heap.size := (Array.getElem?_eq_some_iff.1 h.box).1
  have HBX : Hid (w.cell? ⟨ob, 7, none⟩ = some (.int .i64 (A.k.toNat : Int)) ∧ w.cell? ⟨ob, 8, none⟩ = some (.slice (some ⟨R, 0, none⟩) a a)) := ⟨cell_at h.box rfl, cell_at h.box rfl⟩
  have HPL : Hid (∀ y, Calls Try.prog 58 #[.int .i32 (x : Int)] y fun e w' => e = .returned (.int .i64 (c : Int)) ∧ y = w') := fun y => by
    have := mplace_any x (by omega) (by omega) y
    rw [show x - 97 = c by omega] at this
    exact this
  have e1 : IntKind.i32.wrap (x : Int) = (x : Int) := by rw [IntKind.wrap_i32]; omega
  have HCL : Hid (Calls Try.prog 57 #[.pointer (some ⟨ob, 0, none⟩), .int .i64 i, .int .u8 x] w fun e w' => e = .returned (.int .i64 0) ∧ w = w') := mchkL_ok H.out i c x hi hc hx
  obtain ⟨K, hK⟩ : ∃ K, A.k.toNat = K := ⟨_, rfl⟩
  obtain ⟨v, hv⟩ : ∃ v, N.getD (i * A.k.toNat + c) 0 = v := ⟨_, rfl⟩
  have hvn : v < n := by
    rw [← hv, ← hnm.1]
    exact h.mon.nl (by rw [h.mon.len]; exact idx_lt hi hc)
  obtain ⟨q, hq⟩ : ∃ q, i * K = q := ⟨_, rfl⟩
  have hqlt : q + c < a := by rw [← hq, ← hnm.2.1, hK]; exact idx_lt (by omega) (by omega)
  have hna : a ≤ 512 * 8 := by rw [← hnm.2.1]; exact Nat.mul_le_mul (by omega) (by omega)
  have hcell : w.cell? ⟨R, 0 + (q + c), none⟩ = some (.int .u16 v) := by
    have := h.rt.right (p := q + c) (by rw [hnm.2.1]; exact hqlt)
    rw [← hq, ← hK, hv] at this
    rw [Nat.zero_add, ← hq, ← hK]
    exact this
  rw [hK] at HBX
  rw [hv]
  have HGA : Hid (∀ y, Below w.heap.size w y → Calls Try.prog 51 #[.agg #[.int .i64 (K : Int), .slice (some ⟨R, 0, none⟩) a a], .int .i64 i, .int .i64 c] y fun e w' => e = .returned (.int .i64 v) ∧ Below y.heap.size y w') := fun y hy => by
    refine gat_any R 0 K i c a a q v hq hqlt (by omega) (by omega) y ?_ (Nat.lt_of_lt_of_le h.rt.lt hy.size)
    rw [below_cellJ hy h.rt.lt]
    exact hcell
  have HSK : Hid (∀ y y' : World, (y.cell? ⟨ob, 7, none⟩ = some (.int .i64 (K : Int)) ∧ y.cell? ⟨ob, 8, none⟩ = some (.slice (some ⟨R, 0, none⟩) a a)) → Below y.heap.size y y' → (y'.cell? ⟨ob, 7, none⟩ = some (.int .i64 (K : Int)) ∧ y'.cell? ⟨ob, 8, none⟩ = some (.slice (some ⟨R, 0, none⟩) a a))) := fun y y' hy hb => by
    have k1 : ob < y.heap.size := World.block_lt_of_cell? y ⟨ob, 7, none⟩ hy.1
    exact ⟨by rw [below_cellJ hb k1]; exact hy.1, by rw [below_cellJ hb k1]; exact hy.2⟩
  have S0 : ((w.drew).cell? ⟨ob, 7, none⟩ = some (.int .i64 (K : Int)) ∧ (w.drew).cell? ⟨ob, 8, none⟩ = some (.slice (some ⟨R, 0, none⟩) a a)) := HBX.out
  clear h hks hnm hms hq hqlt hna hcell hv hvn hK hx hi hc
  go_enter Try.func30, Try.ntmps30
  go_wp2_with fail
  refine HCL.out.mono ?_
  rintro e w1 ⟨rfl, rfl⟩
  go_wp2_with fail
  go_region_held3 (fun y => (y.cell? ⟨ob, 7, none⟩ = some (.int .i64 (K : Int)) ∧ y.cell? ⟨ob, 8, none⟩ = some (.slice (some ⟨R, 0, none⟩) a a))) (first | assumption | exact S0 | exact HSK.out _ _ (by assumption) (by assumption)) (first
    | (go_at_call 58; refine (HPL.out _).mono ?_; rintro e y1 ⟨rfl, rfl⟩)
    | (go_at_call 51; refine (HGA.out _ (Below.refl _ _).drew).mono ?_; rintro e y2 ⟨rfl, hy2⟩))
  have HB2 : Hid (Below w.heap.size w y2) := go_on (Below.refl _ _).drew hy2
  clear S0 hy2
  go_wp2_with fail
  go_ret2
  exact ⟨rfl, HB2.out⟩
set_option maxHeartbeats 2000000 in
set_option maxRecDepth 100000 in
theorem mleft_ok {w : World} {ob : Nat} {A : Aut} {M : List (List Nat)} {N : List Nat} (h : MO w ob A M N) (i c x : Nat) (hi : i < M.length) (hc : c < A.k.toNat) (hx : 97 + c = x) : Calls Try.prog 32 #[.pointer (some ⟨ob, 0, none⟩), .int .i64 i, .int .u8 x] w fun e w' => e = .returned (.tuple #[.int .i64 (pr A.k.toNat N (N.getD c 0) i : Nat), .int .i64 0]) ∧ Below w.heap.size w w' := by
  have H : Hid (MO w ob A M N) := h
  obtain ⟨base, bt, b, mb, gw, ga, R, n, a, cc, d, vl, D, an, cn, aa, ca, h⟩ := h
  have hks := h.mon.G.ks
  have hnm := h.num
  have hms := h.mon.most
  have hobl : ob < w.heap.size := (Array.getElem?_eq_some_iff.1 h.box).1
  have HBX : Hid (w.cell? ⟨ob, 9, none⟩ = some (.int .i64 (A.k.toNat : Int)) ∧ w.cell? ⟨ob, 10, none⟩ = some (.slice (some ⟨R, a, none⟩) a a)) := ⟨cell_at h.box rfl, cell_at h.box rfl⟩
  have HPL : Hid (∀ y, Calls Try.prog 58 #[.int .i32 (x : Int)] y fun e w' => e = .returned (.int .i64 (c : Int)) ∧ y = w') := fun y => by
    have := mplace_any x (by omega) (by omega) y
    rw [show x - 97 = c by omega] at this
    exact this
  have e1 : IntKind.i32.wrap (x : Int) = (x : Int) := by rw [IntKind.wrap_i32]; omega
  have HCL : Hid (Calls Try.prog 57 #[.pointer (some ⟨ob, 0, none⟩), .int .i64 i, .int .u8 x] w fun e w' => e = .returned (.int .i64 0) ∧ w = w') := mchkL_ok H.out i c x hi hc hx
  obtain ⟨K, hK⟩ : ∃ K, A.k.toNat = K := ⟨_, rfl⟩
  obtain ⟨v, hv⟩ : ∃ v, pr A.k.toNat N (N.getD c 0) i = v := ⟨_, rfl⟩
  have hvn : v < n := by
    rw [← hv, ← hnm.1]
    exact h.mon.pr_lt (h.mon.nl (by rw [h.mon.len]; have := idx_lt (m := M.length) h.mon.pos hc; omega)) hi
  obtain ⟨q, hq⟩ : ∃ q, i * K = q := ⟨_, rfl⟩
  have hqlt : q + c < a := by rw [← hq, ← hnm.2.1, hK]; exact idx_lt (by omega) (by omega)
  have hna : a ≤ 512 * 8 := by rw [← hnm.2.1]; exact Nat.mul_le_mul (by omega) (by omega)
  have hcell : w.cell? ⟨R, a + (q + c), none⟩ = some (.int .u16 v) := by
    have := h.rt.left (i := i) (c := c) (by omega) hc trivial
    rw [hnm.2.1, hv] at this
    rw [← hq, ← hK]
    exact this
  rw [hK] at HBX
  rw [hv]
  have HGA : Hid (∀ y, Below w.heap.size w y → Calls Try.prog 51 #[.agg #[.int .i64 (K : Int), .slice (some ⟨R, a, none⟩) a a], .int .i64 i, .int .i64 c] y fun e w' => e = .returned (.int .i64 v) ∧ Below y.heap.size y w') := fun y hy => by
    refine gat_any R a K i c a a q v hq hqlt (by omega) (by omega) y ?_ (Nat.lt_of_lt_of_le h.rt.lt hy.size)
    rw [below_cellJ hy h.rt.lt]
    exact hcell
  have HSK : Hid (∀ y y' : World, (y.cell? ⟨ob, 9, none⟩ = some (.int .i64 (K : Int)) ∧ y.cell? ⟨ob, 10, none⟩ = some (.slice (some ⟨R, a, none⟩) a a)) → Below y.heap.size y y' → (y'.cell? ⟨ob, 9, none⟩ = some (.int .i64 (K : Int)) ∧ y'.cell? ⟨ob, 10, none⟩ = some (.slice (some ⟨R, a, none⟩) a a))) := fun y y' hy hb => by
    have k1 : ob < y.heap.size := World.block_lt_of_cell? y ⟨ob, 9, none⟩ hy.1
    exact ⟨by rw [below_cellJ hb k1]; exact hy.1, by rw [below_cellJ hb k1]; exact hy.2⟩
  have S0 : ((w.drew).cell? ⟨ob, 9, none⟩ = some (.int .i64 (K : Int)) ∧ (w.drew).cell? ⟨ob, 10, none⟩ = some (.slice (some ⟨R, a, none⟩) a a)) := HBX.out
  clear h hks hnm hms hq hqlt hna hcell hv hvn hK hx hi hc
  go_enter Try.func32, Try.ntmps32
  go_wp2_with fail
  refine HCL.out.mono ?_
  rintro e w1 ⟨rfl, rfl⟩
  go_wp2_with fail
  go_region_held3 (fun y => (y.cell? ⟨ob, 9, none⟩ = some (.int .i64 (K : Int)) ∧ y.cell? ⟨ob, 10, none⟩ = some (.slice (some ⟨R, a, none⟩) a a))) (first | assumption | exact S0 | exact HSK.out _ _ (by assumption) (by assumption)) (first
    | (go_at_call 58; refine (HPL.out _).mono ?_; rintro e y1 ⟨rfl, rfl⟩)
    | (go_at_call 51; refine (HGA.out _ (Below.refl _ _).drew).mono ?_; rintro e y2 ⟨rfl, hy2⟩))
  have HB2 : Hid (Below w.heap.size w y2) := go_on (Below.refl _ _).drew hy2
  clear S0 hy2
  go_wp2_with fail
  go_ret2
  exact ⟨rfl, HB2.out⟩
end Go.Proofs.Ythmnoepjkobcmaa
