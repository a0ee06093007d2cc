/- Proved: eggboxlaw14.MonoidProducts answers true at every automaton's data a and all words u, v, w (P14.6): where Build makes a monoid and the words are over its letters, words one behind the other are products, products associate, 0 is the one, and Right and Left are the products with a letter's element; and the law's own automaton has the monoid that the law names. No condition. -/
import Derived.Test.YthmnoepjkobcmaaE25
import Derived.Test.YthmnoepjkobcmaaE26
import Derived.Test.YthmnoepjkobcmaaE28
import Derived.SizedLaws
namespace Go.Proofs.Ythmnoepjkobcmaa.monoidProducts
open Go Go.ChangeShapes Go.WideShapes Go.ChangeAt Go.RowKit Go.Lib
open Go.ChangeMaps (open_string shut_string)
set_option linter.unusedVariables false
attribute [-instance] List.instBEq instBEqProd

set_option maxHeartbeats 8000000 in
set_option maxRecDepth 100000 in
theorem walk (va : Value) (A : Aut) (u v x : ByteArray) (W : World) (ha : AR W va A) (hna : NilOk va) (hma : (A.nx.length + 2) * 8 ≤ 140737488355328) (hma2 : A.ac.length ≤ 140737488355328) (hu : u.size ≤ 140737488355327) (hv : v.size ≤ 140737488355327) (hx : x.size ≤ 140737488355327) :
    Calls Try.prog 7 #[va, .string u, .string v, .string x] W fun e w' => e = .returned (.bool true) ∧ Below W.heap.size W w' := by
  obtain ⟨an, cn, aa, ca, ea, _, _⟩ := ha.is
  have HAA : Hid (∀ y, Below W.heap.size W y → AR y va A) := fun y hy => ha.stay hy
  subst ea
  have HBT : Hid (∀ y, Below W.heap.size W y → Calls Try.prog 38 #[.agg #[.int .i64 A.k, .slice an A.nx.length cn, .slice aa A.ac.length ca]] y (BtQ A y)) := fun y hy => built_any _ A y (HAA.out y hy) (by omega) (by omega)
  obtain ⟨w0, hw0⟩ : ∃ w0, w0 = W.alloc (.cells #[.int .i64 A.k, .slice an A.nx.length cn, .slice aa A.ac.length ca] 26) := ⟨_, rfl⟩
  have HB0 : Hid (Below W.heap.size W w0) := by show Below _ _ _; rw [hw0]; exact below_new _ _
  have HR0 : Hid (RowAt w0 W.heap.size #[.int .i64 A.k, .slice an A.nx.length cn, .slice aa A.ac.length ca]) := by show RowAt _ _ _; rw [hw0]; exact RowAt.last _ _ _
  have HW0 : Hid (w0 = W.alloc (.cells #[.int .i64 A.k, .slice an A.nx.length cn, .slice aa A.ac.length ca] 26)) := hw0
  have hs1 : u.size + v.size ≤ 9223372036854775807 := by omega
  have hs1' : ¬ 9223372036854775807 < u.size + v.size := by omega
  have hs3 : u.size + v.size + x.size ≤ 9223372036854775807 := by omega
  have hs3' : ¬ 9223372036854775807 < u.size + v.size + x.size := by omega
  have hs2 : (u ++ v).size + x.size ≤ maxLen := by rw [ByteArray.size_append]; unfold maxLen; omega
  have HCK : Hid (∀ y, Calls Try.prog 39 #[.int .i64 A.k, .string (u ++ v ++ x)] y fun e w' => e = .returned (.int .i64 (chk A.k (u ++ v ++ x))) ∧ Below y.heap.size y w') := fun y => rcheck_any A.k _ y (by rw [ByteArray.size_append]; exact hs2)
  clear hs2
  have HSZ : Hid (u.size ≤ 9223372036854775807 ∧ v.size ≤ 9223372036854775807 ∧ x.size ≤ 9223372036854775807 ∧ (u ++ v).size ≤ 9223372036854775807) := ⟨by omega, by omega, by omega, by rw [ByteArray.size_append]; omega⟩
  clear ha hna hma hma2 hu hv hx hw0
  go_enter Try.func7, Try.ntmps7
  go_wp2_with fail
  rw [← HW0.out]
  refine (HBT.out _ HB0.out).mono ?_
  rintro e w1 (⟨rfl, hb⟩ | ⟨ob, M, N, rfl, G, h64, hE, hmo, hb⟩)
  · have HB1 : Hid (Below W.heap.size W w1) := go_on HB0.out hb
    clear hb
    go_wp2_with fail
    refine (live14_any _).mono ?_
    rintro e w2 ⟨rfl, hb⟩
    have HB2 : Hid (Below W.heap.size W w2) := go_on HB1.out hb
    clear hb
    go_wp2_with fail
    go_ret
    exact ⟨rfl, HB2.out⟩
  · have HB1 : Hid (Below W.heap.size W w1) := go_on HB0.out hb
    have HR1 : Hid (RowAt w1 W.heap.size #[.int .i64 A.k, .slice an A.nx.length cn, .slice aa A.ac.length ca]) := HR0.out.stay hb
    have HM1 : Hid (MO w1 ob A M N) := hmo
    have HMon : Hid (Mon A M N) := mon_of G h64 hE
    have HG : Hid (Good A) := G
    have cs := HR1.out.cell
    clear hb hmo G h64 hE
    go_wp2_with fail
    refine (HCK.out _).mono ?_
    rintro e w2 ⟨rfl, hb⟩
    have HB2 : Hid (Below W.heap.size W w2) := go_on HB1.out hb
    have HR2 : Hid (RowAt w2 W.heap.size #[.int .i64 A.k, .slice an A.nx.length cn, .slice aa A.ac.length ca]) := HR1.out.stay hb
    have HM2 : Hid (MO w2 ob A M N) := HM1.out.below hb
    clear hb cs HR1
    by_cases hc : chk A.k (u ++ v ++ x) = 0
    · have hk1 := HG.out.k1
      have hk8 := HG.out.k8
      obtain ⟨huv, hxc⟩ := (chk_app A.k hk1 hk8 _ _).1 hc
      obtain ⟨huc, hvc⟩ := (chk_app A.k hk1 hk8 _ _).1 huv
      have HU : Hid (Lt A.k.toNat (lets u)) := (chk_all huc).ltn hk1
      have HV : Hid (Lt A.k.toNat (lets v)) := (chk_all hvc).ltn hk1
      have HX : Hid (Lt A.k.toNat (lets x)) := (chk_all hxc).ltn hk1
      obtain ⟨X, hX⟩ : ∃ X, mr A.k.toNat N 0 (lets u) = X := ⟨_, rfl⟩
      obtain ⟨Y, hY⟩ : ∃ Y, mr A.k.toNat N 0 (lets v) = Y := ⟨_, rfl⟩
      obtain ⟨Z, hZ⟩ : ∃ Z, mr A.k.toNat N 0 (lets x) = Z := ⟨_, rfl⟩
      have hXl : X < M.length := by rw [← hX]; exact HMon.out.lt HU.out HMon.out.pos
      have hYl : Y < M.length := by rw [← hY]; exact HMon.out.lt HV.out HMon.out.pos
      have hZl : Z < M.length := by rw [← hZ]; exact HMon.out.lt HX.out HMon.out.pos
      have huvE : mr A.k.toNat N 0 (lets (u ++ v)) = pr A.k.toNat N X Y := by rw [lets_app, ← HMon.out.pr_app HU.out HV.out, hX, hY]
      have hasE : pr A.k.toNat N (pr A.k.toNat N X Y) Z = pr A.k.toNat N X (pr A.k.toNat N Y Z) := HMon.out.assoc hXl hYl hZl
      have hPl : pr A.k.toNat N X Y < M.length := HMon.out.pr_lt hXl hYl
      have hQl : pr A.k.toNat N Y Z < M.length := HMon.out.pr_lt hYl hZl
      have h0l : 0 < M.length := HMon.out.pos
      have h0X : pr A.k.toNat N 0 X = X := HMon.out.one_pr hXl
      have C1 : Hid (∀ y, MO y ob A M N → Calls Try.prog 13 #[.pointer (some ⟨ob, 0, none⟩), .string u] y fun e w' => e = .returned (.tuple #[.int .i64 (X : Nat), .int .i64 0]) ∧ Below y.heap.size y w') := fun y hy => by
        have := mElement_any hy u HSZ.out.1
        unfold elV at this
        rw [if_pos huc, hX] at this
        exact this
      have C2 : Hid (∀ y, MO y ob A M N → Calls Try.prog 13 #[.pointer (some ⟨ob, 0, none⟩), .string v] y fun e w' => e = .returned (.tuple #[.int .i64 (Y : Nat), .int .i64 0]) ∧ Below y.heap.size y w') := fun y hy => by
        have := mElement_any hy v HSZ.out.2.1
        unfold elV at this
        rw [if_pos hvc, hY] at this
        exact this
      have C3 : Hid (∀ y, MO y ob A M N → Calls Try.prog 13 #[.pointer (some ⟨ob, 0, none⟩), .string x] y fun e w' => e = .returned (.tuple #[.int .i64 (Z : Nat), .int .i64 0]) ∧ Below y.heap.size y w') := fun y hy => by
        have := mElement_any hy x HSZ.out.2.2.1
        unfold elV at this
        rw [if_pos hxc, hZ] at this
        exact this
      obtain ⟨P, hP⟩ : ∃ P, pr A.k.toNat N X Y = P := ⟨_, rfl⟩
      obtain ⟨Q, hQ⟩ : ∃ Q, pr A.k.toNat N Y Z = Q := ⟨_, rfl⟩
      rw [hP] at huvE hasE hPl
      rw [hQ] at hasE hQl
      obtain ⟨O, hO⟩ : ∃ O, pr A.k.toNat N P Z = O := ⟨_, rfl⟩
      rw [hO] at hasE
      have C4 : Hid (∀ y, MO y ob A M N → Calls Try.prog 13 #[.pointer (some ⟨ob, 0, none⟩), .string (u ++ v)] y fun e w' => e = .returned (.tuple #[.int .i64 (P : Nat), .int .i64 0]) ∧ Below y.heap.size y w') := fun y hy => by
        have := mElement_any hy (u ++ v) HSZ.out.2.2.2
        unfold elV at this
        rw [if_pos huv, huvE] at this
        exact this
      have C5 : Hid (∀ y, MO y ob A M N → Calls Try.prog 28 #[.pointer (some ⟨ob, 0, none⟩), .int .i64 (X : Nat), .int .i64 (Y : Nat)] y fun e w' => e = .returned (.tuple #[.int .i64 (P : Nat), .int .i64 0]) ∧ Below y.heap.size y w') := fun y hy => by
        have := mproduct_ok hy X Y hXl hYl
        rw [hP] at this
        exact this
      have C6 : Hid (∀ y, MO y ob A M N → Calls Try.prog 28 #[.pointer (some ⟨ob, 0, none⟩), .int .i64 (Y : Nat), .int .i64 (Z : Nat)] y fun e w' => e = .returned (.tuple #[.int .i64 (Q : Nat), .int .i64 0]) ∧ Below y.heap.size y w') := fun y hy => by
        have := mproduct_ok hy Y Z hYl hZl
        rw [hQ] at this
        exact this
      have C7 : Hid (∀ y, MO y ob A M N → Calls Try.prog 28 #[.pointer (some ⟨ob, 0, none⟩), .int .i64 (P : Nat), .int .i64 (Z : Nat)] y fun e w' => e = .returned (.tuple #[.int .i64 (O : Nat), .int .i64 0]) ∧ Below y.heap.size y w') := fun y hy => by
        have := mproduct_ok hy P Z hPl hZl
        rw [hO] at this
        exact this
      have C8 : Hid (∀ y, MO y ob A M N → Calls Try.prog 28 #[.pointer (some ⟨ob, 0, none⟩), .int .i64 (X : Nat), .int .i64 (Q : Nat)] y fun e w' => e = .returned (.tuple #[.int .i64 (O : Nat), .int .i64 0]) ∧ Below y.heap.size y w') := fun y hy => by
        have := mproduct_ok hy X Q hXl hQl
        rw [← hasE] at this
        exact this
      have C9 : Hid (∀ y, MO y ob A M N → Calls Try.prog 28 #[.pointer (some ⟨ob, 0, none⟩), .int .i64 0, .int .i64 (X : Nat)] y fun e w' => e = .returned (.tuple #[.int .i64 (X : Nat), .int .i64 0]) ∧ Below y.heap.size y w') := fun y hy => by
        have := mproduct_ok hy 0 X h0l hXl
        rw [h0X] at this
        exact this
      have C10 : Hid (∀ y, MO y ob A M N → Calls Try.prog 28 #[.pointer (some ⟨ob, 0, none⟩), .int .i64 (X : Nat), .int .i64 0] y fun e w' => e = .returned (.tuple #[.int .i64 (X : Nat), .int .i64 0]) ∧ Below y.heap.size y w') := fun y hy => by
        have := mproduct_ok hy X 0 hXl h0l
        rw [pr_one] at this
        exact this
      have HXl : Hid (X < M.length) := hXl
      have hkI : Hid ((A.k.toNat : Int) = A.k) := by show _ = _; omega
      have hk8' : Hid (A.k.toNat ≤ 8) := by show _ ≤ _; omega
      rw [hc]
      clear hc huv hxc huc hvc hX hY hZ hXl hYl hZl huvE hasE hPl hQl h0l h0X hP hQ hO hk1 hk8
      go_wp2_with fail
      refine (C1.out _ HM2.out).mono ?_
      rintro e w3 ⟨rfl, hb⟩
      have HB3 : Hid (Below W.heap.size W w3) := go_on HB2.out hb
      have HR3 : Hid (RowAt w3 W.heap.size #[.int .i64 A.k, .slice an A.nx.length cn, .slice aa A.ac.length ca]) := HR2.out.stay hb
      have HM3 : Hid (MO w3 ob A M N) := HM2.out.below hb
      clear hb
      go_wp2_with fail
      refine (C2.out _ HM3.out).mono ?_
      rintro e w4 ⟨rfl, hb⟩
      have HB4 : Hid (Below W.heap.size W w4) := go_on HB3.out hb
      have HR4 : Hid (RowAt w4 W.heap.size #[.int .i64 A.k, .slice an A.nx.length cn, .slice aa A.ac.length ca]) := HR3.out.stay hb
      have HM4 : Hid (MO w4 ob A M N) := HM3.out.below hb
      clear hb
      go_wp2_with fail
      refine (C3.out _ HM4.out).mono ?_
      rintro e w5 ⟨rfl, hb⟩
      have HB5 : Hid (Below W.heap.size W w5) := go_on HB4.out hb
      have HR5 : Hid (RowAt w5 W.heap.size #[.int .i64 A.k, .slice an A.nx.length cn, .slice aa A.ac.length ca]) := HR4.out.stay hb
      have HM5 : Hid (MO w5 ob A M N) := HM4.out.below hb
      clear hb
      go_wp2_with fail
      refine (C4.out _ HM5.out).mono ?_
      rintro e w6 ⟨rfl, hb⟩
      have HB6 : Hid (Below W.heap.size W w6) := go_on HB5.out hb
      have HR6 : Hid (RowAt w6 W.heap.size #[.int .i64 A.k, .slice an A.nx.length cn, .slice aa A.ac.length ca]) := HR5.out.stay hb
      have HM6 : Hid (MO w6 ob A M N) := HM5.out.below hb
      clear hb
      go_wp2_with fail
      refine (C5.out _ HM6.out).mono ?_
      rintro e w7 ⟨rfl, hb⟩
      have HB7 : Hid (Below W.heap.size W w7) := go_on HB6.out hb
      have HR7 : Hid (RowAt w7 W.heap.size #[.int .i64 A.k, .slice an A.nx.length cn, .slice aa A.ac.length ca]) := HR6.out.stay hb
      have HM7 : Hid (MO w7 ob A M N) := HM6.out.below hb
      clear hb
      go_wp2_with (first | (go_at_call 23; refine (num14_any _ _).mono ?_; rintro e yn ⟨rfl, hyn⟩; subst yn))
      refine (C6.out _ HM7.out).mono ?_
      rintro e w8 ⟨rfl, hb⟩
      have HB8 : Hid (Below W.heap.size W w8) := go_on HB7.out hb
      have HR8 : Hid (RowAt w8 W.heap.size #[.int .i64 A.k, .slice an A.nx.length cn, .slice aa A.ac.length ca]) := HR7.out.stay hb
      have HM8 : Hid (MO w8 ob A M N) := HM7.out.below hb
      clear hb
      go_wp2_with fail
      refine (C7.out _ HM8.out).mono ?_
      rintro e w9 ⟨rfl, hb⟩
      have HB9 : Hid (Below W.heap.size W w9) := go_on HB8.out hb
      have HR9 : Hid (RowAt w9 W.heap.size #[.int .i64 A.k, .slice an A.nx.length cn, .slice aa A.ac.length ca]) := HR8.out.stay hb
      have HM9 : Hid (MO w9 ob A M N) := HM8.out.below hb
      clear hb
      go_wp2_with fail
      refine (C8.out _ HM9.out).mono ?_
      rintro e w10 ⟨rfl, hb⟩
      have HB10 : Hid (Below W.heap.size W w10) := go_on HB9.out hb
      have HR10 : Hid (RowAt w10 W.heap.size #[.int .i64 A.k, .slice an A.nx.length cn, .slice aa A.ac.length ca]) := HR9.out.stay hb
      have HM10 : Hid (MO w10 ob A M N) := HM9.out.below hb
      clear hb
      go_wp2_with fail
      refine (C9.out _ HM10.out).mono ?_
      rintro e w11 ⟨rfl, hb⟩
      have HB11 : Hid (Below W.heap.size W w11) := go_on HB10.out hb
      have HR11 : Hid (RowAt w11 W.heap.size #[.int .i64 A.k, .slice an A.nx.length cn, .slice aa A.ac.length ca]) := HR10.out.stay hb
      have HM11 : Hid (MO w11 ob A M N) := HM10.out.below hb
      clear hb
      go_wp2_with fail
      refine (C10.out _ HM11.out).mono ?_
      rintro e w12 ⟨rfl, hb⟩
      have HB12 : Hid (Below W.heap.size W w12) := go_on HB11.out hb
      have HR12 : Hid (RowAt w12 W.heap.size #[.int .i64 A.k, .slice an A.nx.length cn, .slice aa A.ac.length ca]) := HR11.out.stay hb
      have HM12 : Hid (MO w12 ob A M N) := HM11.out.below hb
      clear hb
      go_wp2_with (first | (go_at_call 23; refine (num14_any _ _).mono ?_; rintro e yn ⟨rfl, hyn⟩; subst yn))
      go_loopw [26, 27, 28, 29, 30, 31, 32, 33, 34, 35, 36] (fun vi _ _ _ _ _ _ _ _ _ _ wr => ∃ c : Nat, vi = .int .i64 c ∧ c ≤ A.k.toNat ∧ Below W.heap.size W wr ∧ RowAt wr W.heap.size #[.int .i64 A.k, .slice an A.nx.length cn, .slice aa A.ac.length ca] ∧ MO wr ob A M N) (fun vi _ _ _ _ _ _ _ _ _ _ _ => A.k.toNat - (Go.Lib.intOf vi).toNat)
      case atStart => exact ⟨0, rfl, Nat.zero_le _, HB12.out, HR12.out, HM12.out⟩
      case round =>
        obtain ⟨c, rfl, hck, hb, hr, hmo⟩ := hrel
        have HB : Hid (Below W.heap.size W wr) := hb
        have HR : Hid (RowAt wr W.heap.size #[.int .i64 A.k, .slice an A.nx.length cn, .slice aa A.ac.length ca]) := hr
        have HM : Hid (MO wr ob A M N) := hmo
        have cs := hr.cell
        have hk8 := hk8'.out
        have hkE := hkI.out
        clear hb hr hmo
        by_cases hlt : c < A.k.toNat
        · have hcI : (c : Int) < A.k := by omega
          have HLT : Hid (c < A.k.toNat) := hlt
          obtain ⟨z, hz⟩ : ∃ z : Nat, 97 + c = z := ⟨_, rfl⟩
          have hw1 : IntKind.i64.wrap (97 + (c : Int)) = (z : Int) := by rw [IntKind.wrap_i64]; omega
          have hw2 : IntKind.u8.wrap (z : Int) = (z : Int) := by rw [IntKind.wrap_u8]; omega
          have hcv := conv_one wr c z (by omega) hz
          have HL1 : Hid (Lt A.k.toNat [c]) := Lt.one hlt
          obtain ⟨l, hl⟩ : ∃ l, N.getD c 0 = l := ⟨_, rfl⟩
          have hll : l < M.length := by rw [← hl, ← mr_first A.k.toNat]; exact HMon.out.lt HL1.out HMon.out.pos
          have hmX := HMon.out.mr_pr HXl.out HL1.out
          rw [mr_first, hl, mr_one] at hmX
          have D1 : Hid (∀ y, MO y ob A M N → Calls Try.prog 13 #[.pointer (some ⟨ob, 0, none⟩), .string (wb [c])] y fun e w' => e = .returned (.tuple #[.int .i64 (l : Nat), .int .i64 0]) ∧ Below y.heap.size y w') := fun y hy => by
            have := mElement_any hy (wb [c]) (by rw [wb_size]; show 1 ≤ _; omega)
            unfold elV at this
            rw [if_pos (wb_lts HG.out.k1 HG.out.k8 HL1.out).2, lets_wb hk8 HL1.out, mr_first, hl] at this
            exact this
          obtain ⟨r, hr⟩ : ∃ r, N.getD (X * A.k.toNat + c) 0 = r := ⟨_, rfl⟩
          have D2 : Hid (∀ y, MO y ob A M N → Calls Try.prog 30 #[.pointer (some ⟨ob, 0, none⟩), .int .i64 (X : Nat), .int .u8 (z : Nat)] y fun e w' => e = .returned (.tuple #[.int .i64 (r : Nat), .int .i64 0]) ∧ Below y.heap.size y w') := fun y hy => by
            have := mright_ok hy X c z HXl.out hlt hz
            rw [hr] at this
            exact this
          obtain ⟨b, hb⟩ : ∃ b, pr A.k.toNat N l X = b := ⟨_, rfl⟩
          have D3 : Hid (∀ y, MO y ob A M N → Calls Try.prog 32 #[.pointer (some ⟨ob, 0, none⟩), .int .i64 (X : Nat), .int .u8 (z : Nat)] y fun e w' => e = .returned (.tuple #[.int .i64 (b : Nat), .int .i64 0]) ∧ Below y.heap.size y w') := fun y hy => by
            have := mleft_ok hy X c z HXl.out hlt hz
            rw [hl, hb] at this
            exact this
          have D4 : Hid (∀ y, MO y ob A M N → Calls Try.prog 28 #[.pointer (some ⟨ob, 0, none⟩), .int .i64 (X : Nat), .int .i64 (l : Nat)] y fun e w' => e = .returned (.tuple #[.int .i64 (r : Nat), .int .i64 0]) ∧ Below y.heap.size y w') := fun y hy => by
            have := mproduct_ok hy X l HXl.out hll
            rw [hmX, hr] at this
            exact this
          have D5 : Hid (∀ y, MO y ob A M N → Calls Try.prog 28 #[.pointer (some ⟨ob, 0, none⟩), .int .i64 (l : Nat), .int .i64 (X : Nat)] y fun e w' => e = .returned (.tuple #[.int .i64 (b : Nat), .int .i64 0]) ∧ Below y.heap.size y w') := fun y hy => by
            have := mproduct_ok hy l X hll HXl.out
            rw [hb] at this
            exact this
          obtain ⟨v0, hv0⟩ : ∃ v0, v0 = wr.alloc (.cells #[.int .u8 (z : Int)] 5) := ⟨_, rfl⟩
          have VB0 : Hid (Below W.heap.size W v0) := by show Below _ _ _; rw [hv0]; exact go_on HB.out (below_new _ _)
          have VR0 : Hid (RowAt v0 W.heap.size #[.int .i64 A.k, .slice an A.nx.length cn, .slice aa A.ac.length ca]) := by show RowAt _ _ _; rw [hv0]; exact HR.out.stay (below_new _ _)
          have VM0 : Hid (MO v0 ob A M N) := by show MO _ _ _ _ _; rw [hv0]; exact HM.out.below (below_new _ _)
          have HV0 : Hid (v0 = wr.alloc (.cells #[.int .u8 (z : Int)] 5)) := hv0
          obtain ⟨SS, hSS⟩ : ∃ SS, wb [c] = SS := ⟨_, rfl⟩
          rw [hSS] at hcv D1
          clear hl hll hmX hr hb hv0 hSS hz hlt
          go_wp2_with fail
          rw [← HV0.out]
          refine (D1.out _ VM0.out).mono ?_
          rintro e v1 ⟨rfl, hb⟩
          have VB1 : Hid (Below W.heap.size W v1) := go_on VB0.out hb
          have VR1 : Hid (RowAt v1 W.heap.size #[.int .i64 A.k, .slice an A.nx.length cn, .slice aa A.ac.length ca]) := VR0.out.stay hb
          have VM1 : Hid (MO v1 ob A M N) := VM0.out.below hb
          clear hb
          go_wp2_with fail
          refine (D2.out _ VM1.out).mono ?_
          rintro e v2 ⟨rfl, hb⟩
          have VB2 : Hid (Below W.heap.size W v2) := go_on VB1.out hb
          have VR2 : Hid (RowAt v2 W.heap.size #[.int .i64 A.k, .slice an A.nx.length cn, .slice aa A.ac.length ca]) := VR1.out.stay hb
          have VM2 : Hid (MO v2 ob A M N) := VM1.out.below hb
          clear hb
          go_wp2_with fail
          refine (D3.out _ VM2.out).mono ?_
          rintro e v3 ⟨rfl, hb⟩
          have VB3 : Hid (Below W.heap.size W v3) := go_on VB2.out hb
          have VR3 : Hid (RowAt v3 W.heap.size #[.int .i64 A.k, .slice an A.nx.length cn, .slice aa A.ac.length ca]) := VR2.out.stay hb
          have VM3 : Hid (MO v3 ob A M N) := VM2.out.below hb
          clear hb
          go_wp2_with fail
          refine (D4.out _ VM3.out).mono ?_
          rintro e v4 ⟨rfl, hb⟩
          have VB4 : Hid (Below W.heap.size W v4) := go_on VB3.out hb
          have VR4 : Hid (RowAt v4 W.heap.size #[.int .i64 A.k, .slice an A.nx.length cn, .slice aa A.ac.length ca]) := VR3.out.stay hb
          have VM4 : Hid (MO v4 ob A M N) := VM3.out.below hb
          clear hb
          go_wp2_with fail
          refine (D5.out _ VM4.out).mono ?_
          rintro e v5 ⟨rfl, hb⟩
          have VB5 : Hid (Below W.heap.size W v5) := go_on VB4.out hb
          have VR5 : Hid (RowAt v5 W.heap.size #[.int .i64 A.k, .slice an A.nx.length cn, .slice aa A.ac.length ca]) := VR4.out.stay hb
          have VM5 : Hid (MO v5 ob A M N) := VM4.out.below hb
          clear hb
          go_wp2_with (first | (go_at_call 23; refine (num14_any _ _).mono ?_; rintro e yn ⟨rfl, hyn⟩; subst yn))
          go_roundw
          case rel => exact ⟨c + 1, by go_num, HLT.out, VB5.out, VR5.out, VM5.out⟩
          case measure => have := HLT.out; simp [Go.Lib.intOf]; omega
        · have hcI : ¬ (c : Int) < A.k := by omega
          clear hkE
          go_wp2_with fail
          refine (live14_any _).mono ?_
          rintro e wl ⟨rfl, hb⟩
          have HBl : Hid (Below W.heap.size W wl) := go_on HB.out hb
          clear hb
          go_wp2_with fail
          go_ret
          exact ⟨rfl, HBl.out⟩
    · obtain ⟨E, hEE⟩ : ∃ E, chk A.k (u ++ v ++ x) = E := ⟨_, rfl⟩
      rw [hEE] at hc ⊢
      have hq0 : (E != 0) = true := by rw [bne_iff_ne]; exact hc
      clear hEE
      go_wp2_with fail
      refine (live14_any _).mono ?_
      rintro e w3 ⟨rfl, hb⟩
      have HB3 : Hid (Below W.heap.size W w3) := go_on HB2.out hb
      clear hb
      go_wp2_with fail
      go_ret
      exact ⟨rfl, HB3.out⟩

/-! ### The row's step -/
theorem own : ownKnob Try.prog.godebug = none := by kernel_rfl
set_option maxRecDepth 100000 in
theorem lifted (os : Os) (started : os.Started) (H : Type) (enc : TypeId × Value → H) :
    ReturnsInHanded {} Try.checked os 7 .any (Rows.monoidProductsSpec.pre6 enc Try.prog Try.f7 Rows.monoidProductsRow.domain false) (Rows.monoidProductsSpec.post enc Try.prog Try.f7 false true false false) := by
  refine returnsInHanded_of_change_sized (C := Try.checked) own started (by kernel_rfl) Try.func7
    (ChangeSpec.witness6 (enc := enc) (C := Try.checked) false ⟨#[], #[.agg #[.int .i64 0, .slice none 0 0, .slice none 0 0], .string ByteArray.empty, .string ByteArray.empty, .string ByteArray.empty], []⟩ 8 (by kernel_rfl) (by kernel_rfl) (by kernel_rfl) (by kernel_rfl)) ?_
  intro W base args ds gs before hval0 hW hcnd hsz0 _
  have hval : ∀ (j : Nat) t v, Try.f7.params[j]? = some t → args[j]? = some v → Value.okWide Try.prog W .any base t v := hval0
  clear hval0
  have hsz : (DataW.weightsEach Try.prog (Try.f7.params.toList ++ Rows.monoidProductsSpec.plain.varTypes Try.prog) (ds ++ gs)).all (· ≤ reachBytes) = true := hsz0
  clear hsz0
  have hW' := hW
  obtain ⟨p, q, hA0, hV, rfl, hfz, hnd⟩ := hW
  have hA : DataW.TrodAll enc Try.prog W 0 (fun _ => true) true Try.f7.params.toList args.toList ds p := hA0
  rw [Try.params7] at hA hval hsz
  obtain ⟨v0, vs0, d0, ds0, p0, q0, hargs, rfl, rfl, h0, r0⟩ := trodAll_cons hA
  obtain ⟨v1, vs1, d1, ds1, p1, q1, rfl, rfl, rfl, h1, r1⟩ := trodAll_cons r0
  obtain ⟨v2, vs2, d2, ds2, p2, q2, rfl, rfl, rfl, h2, r2⟩ := trodAll_cons r1
  obtain ⟨v3, vs3, d3, ds3, p3, q3, rfl, rfl, rfl, h3, r3⟩ := trodAll_cons r2
  obtain ⟨rfl, rfl, rfl⟩ := trodAll_nil r3
  obtain rfl : args = #[v0, v1, v2, v3] := by cases args; simp_all
  obtain ⟨rfl, rfl⟩ := trodVars_none hV
  obtain ⟨a0, x0, n0, w0, dk0, dn0, da0, e0, y0, z0⟩ := open_auto (hval 0 26 v0 rfl rfl) h0
  have b0 := auto_bounds hsz (j := 0) rfl (by rw [e0]; rfl) y0 z0
  have g0 : ∀ x ∈ p0, x.block < W.heap.size := fun x hx => hW'.lt x (by simp [hx])
  obtain ⟨a1, rfl, rfl, rfl, w1⟩ := open_string Try.underlying9 (hval 1 9 v1 rfl rfl) h1
  have u1 : a1.size ≤ 140737488355327 := by
    have := sized_string hsz (j := 1) (t := 9) rfl rfl
    have e : a1.data.toList.length = a1.size := rfl
    simp only [reachBytes] at this
    omega
  obtain ⟨a2, rfl, rfl, rfl, w2⟩ := open_string Try.underlying9 (hval 2 9 v2 rfl rfl) h2
  have u2 : a2.size ≤ 140737488355327 := by
    have := sized_string hsz (j := 2) (t := 9) rfl rfl
    have e : a2.data.toList.length = a2.size := rfl
    simp only [reachBytes] at this
    omega
  obtain ⟨a3, rfl, rfl, rfl, w3⟩ := open_string Try.underlying9 (hval 3 9 v3 rfl rfl) h3
  have u3 : a3.size ≤ 140737488355327 := by
    have := sized_string hsz (j := 3) (t := 9) rfl rfl
    have e : a3.data.toList.length = a3.size := rfl
    simp only [reachBytes] at this
    omega
  clear hA0
  refine (walk v0 a0 a1 a2 a3 W x0 n0 b0.1 b0.2 u1 u2 u3).mono fun e W' ⟨he, bel⟩ => ?_
  subst he
  exact ⟨_, rfl, _, _, _, [], _, [], hW', trodAll_mk1 (shut_bool Try.underlying4 _), (trodAll_cons_mk (Below.trod Try.laidOut (by kernel_rfl) (of_decide_eq_true (by kernel_rfl)) h0 bel g0) (trodAll_cons_mk (shut_string Try.underlying9 w1) (trodAll_cons_mk (shut_string Try.underlying9 w2) (trodAll_cons_mk (shut_string Try.underlying9 w3) trodAll_mk0)))), rfl, bel.frame _, fun h => by cases h⟩

theorem over : Rows.monoidProductsRow.holds Try.pinned (OpenSpec.ofChange Rows.monoidProductsSpec) :=
  OpenClaim.holds_of_wide 7 Try.f7 rfl rfl rfl rfl rfl rfl rfl ⟨rfl, rfl, rfl, rfl, rfl⟩ rfl rfl rfl rfl rfl (by kernel_rfl) Try.func7 (by kernel_rfl)
    (of_decide_eq_true (by kernel_rfl)) (by unfold Func.isWrapper; first | (rw [if_pos (by decide +kernel)]; kernel_rfl) | (rw [if_neg (by decide +kernel)]; exact ⟨rfl, rfl⟩))
    (fun os started H enc _ => lifted os started H enc)

end Go.Proofs.Ythmnoepjkobcmaa.monoidProducts
namespace Go.Proofs.Ythmnoepjkobcmaa
/-- The given statement. -/
theorem monoidProducts_holds : Rows.MonoidProductsSaid := monoidProducts.over
end Go.Proofs.Ythmnoepjkobcmaa
