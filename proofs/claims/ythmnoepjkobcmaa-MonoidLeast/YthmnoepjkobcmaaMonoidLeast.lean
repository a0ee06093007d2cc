/- Proved: eggboxlaw14.MonoidLeast answers true at every automaton's data a, every word w and all from and to (P14.7): where Build makes a monoid and w is over its letters, the elements' words rise and lead back to them, no word ahead of an element's word has that element, and pieces of such words are such words; and the law's own automaton has the monoid that the law names. No condition. -/
import Derived.Test.YthmnoepjkobcmaaE25
import Derived.Test.YthmnoepjkobcmaaE26
import Derived.Test.YthmnoepjkobcmaaE27
import Derived.Test.YthmnoepjkobcmaaE28
import Derived.SizedLaws
namespace Go.Proofs.Ythmnoepjkobcmaa.monoidLeast
open Go Go.ChangeShapes Go.WideShapes Go.ChangeAt Go.RowKit Go.Lib
open Go.ChangeMaps (open_string shut_string)
set_option linter.unusedVariables false
attribute [-instance] List.instBEq instBEqProd

theorem wb_cut (l : List Nat) (a b : Nat) : (wb l).extract a b = wb ((l.drop a).take (b - a)) := by
  apply ByteArray.ext
  rw [ByteArray.data_extract]
  apply Array.ext'
  rw [Array.toList_extract, List.extract_eq_take_drop]
  show ((l.map fun c => UInt8.ofNat (97 + c)).drop a).take (b - a) = ((l.drop a).take (b - a)).map fun c => UInt8.ofNat (97 + c)
  rw [List.map_take, List.map_drop]

set_option maxHeartbeats 8000000 in
set_option maxRecDepth 100000 in
theorem walk (va : Value) (A : Aut) (x : ByteArray) (bf bt : Int) (W : World) (ha : AR W va A) (hna : NilOk va) (hma : (A.nx.length + 2) * 8 ≤ 140737488355328) (hma2 : A.ac.length ≤ 140737488355328) (hx : x.size ≤ 140737488355327) :
    Calls Try.prog 8 #[va, .string x, .int .i64 bf, .int .i64 bt] W fun e w' => e = .returned (.bool true) ∧ Below W.heap.size W w' := by
  obtain ⟨an, cn, aa, ca, ea, _, _⟩ := ha.is
  have HAA : Hid (∀ y, Below W.heap.size W y → AR y va A) := fun y hy => ha.stay hy
  subst ea
  have HBT : Hid (∀ y, Below W.heap.size W y → Calls Try.prog 38 #[.agg #[.int .i64 A.k, .slice an A.nx.length cn, .slice aa A.ac.length ca]] y (BtQ A y)) := fun y hy => built_any _ A y (HAA.out y hy) (by omega) (by omega)
  obtain ⟨w0, hw0⟩ : ∃ w0, w0 = W.alloc (.cells #[.int .i64 A.k, .slice an A.nx.length cn, .slice aa A.ac.length ca] 26) := ⟨_, rfl⟩
  have HB0 : Hid (Below W.heap.size W w0) := by show Below _ _ _; rw [hw0]; exact below_new _ _
  have HR0 : Hid (RowAt w0 W.heap.size #[.int .i64 A.k, .slice an A.nx.length cn, .slice aa A.ac.length ca]) := by show RowAt _ _ _; rw [hw0]; exact RowAt.last _ _ _
  have HW0 : Hid (w0 = W.alloc (.cells #[.int .i64 A.k, .slice an A.nx.length cn, .slice aa A.ac.length ca] 26)) := hw0
  have HCK : Hid (∀ y, Calls Try.prog 39 #[.int .i64 A.k, .string x] y fun e w' => e = .returned (.int .i64 (chk A.k x)) ∧ Below y.heap.size y w') := fun y => rcheck_any A.k _ y (by unfold maxLen; omega)
  have HSZ : Hid (x.size ≤ 9223372036854775807) := by show _ ≤ _; omega
  clear ha hna hma hma2 hx hw0
  go_enter Try.func8, Try.ntmps8
  go_wp2_with fail
  rw [← HW0.out]
  refine (HBT.out _ HB0.out).mono ?_
  rintro e w1 (⟨rfl, hb⟩ | ⟨ob, M, N, rfl, G, h64, hE, hmo, hb⟩)
  · have HB1 : Hid (Below W.heap.size W w1) := go_on HB0.out hb
    clear hb
    go_wp2_with fail
    refine (live14_any _).mono ?_
    rintro e w2 ⟨rfl, hb⟩
    have HB2 : Hid (Below W.heap.size W w2) := go_on HB1.out hb
    clear hb
    go_wp2_with fail
    go_ret
    exact ⟨rfl, HB2.out⟩
  · have HB1 : Hid (Below W.heap.size W w1) := go_on HB0.out hb
    have HR1 : Hid (RowAt w1 W.heap.size #[.int .i64 A.k, .slice an A.nx.length cn, .slice aa A.ac.length ca]) := HR0.out.stay hb
    have HM1 : Hid (MO w1 ob A M N) := hmo
    have HMon : Hid (Mon A M N) := mon_of G h64 hE
    have HG : Hid (Good A) := G
    have cs := HR1.out.cell
    clear hb hmo G h64 hE
    go_wp2_with fail
    refine (HCK.out _).mono ?_
    rintro e w2 ⟨rfl, hb⟩
    have HB2 : Hid (Below W.heap.size W w2) := go_on HB1.out hb
    have HM2 : Hid (MO w2 ob A M N) := HM1.out.below hb
    clear hb cs HR1 HR0
    by_cases hc : chk A.k x = 0
    · have hk1 := HG.out.k1
      have hk8 := HG.out.k8
      have HXL : Hid (Lts A.k x) := chk_all hc
      have HX : Hid (Lt A.k.toNat (lets x)) := (chk_all hc).ltn hk1
      have hkn : A.k.toNat ≤ 8 := by omega
      have HKN : Hid (A.k.toNat ≤ 8 ∧ 1 ≤ A.k ∧ A.k ≤ 8) := ⟨hkn, hk1, hk8⟩
      have HCX : Hid (chk A.k x = 0) := hc
      have HMS : Hid (M.length ≤ 512) := HMon.out.most
      have HEL : Hid (∀ y (b : List Nat), MO y ob A M N → Lt A.k.toNat b → b.length ≤ 9223372036854775807 → Calls Try.prog 13 #[.pointer (some ⟨ob, 0, none⟩), .string (wb b)] y fun e w' => e = .returned (.tuple #[.int .i64 (mr A.k.toNat N 0 b : Nat), .int .i64 0]) ∧ Below y.heap.size y w') := fun y b hy hb hl => by
        have := mElement_any hy (wb b) (by rw [wb_size]; exact hl)
        unfold elV at this
        rw [if_pos (wb_lts HKN.out.2.1 HKN.out.2.2 hb).2, lets_wb HKN.out.1 hb] at this
        exact this
      have HWL : Hid (∀ i, i < M.length → (Go.Proofs.Ythmnoepjkobcmaa.lw A.k.toNat N i).length ≤ 512) := fun i hi => by have := lw_len HMon.out.fst i hi; have := HMS.out; omega
      rw [hc]
      clear hc hk1 hk8 hkn
      go_wp2_with fail
      go_loopw [11, 12, 13, 14, 15, 16] (fun vl vi _ _ _ _ wr => ∃ i : Nat, vi = .int .i64 i ∧ i ≤ M.length ∧ vl = .string (wb (Go.Proofs.Ythmnoepjkobcmaa.lw A.k.toNat N (i - 1))) ∧ Below W.heap.size W wr ∧ MO wr ob A M N) (fun _ vi _ _ _ _ _ => M.length - (Go.Lib.intOf vi).toNat)
      case atStart => exact ⟨0, rfl, Nat.zero_le _, by rw [show 0 - 1 = 0 from rfl, lw_zero]; rfl, HB2.out, HM2.out⟩
      case round =>
        obtain ⟨i, rfl, hil, rfl, hb, hmo⟩ := hrel
        have HB : Hid (Below W.heap.size W wr) := hb
        have HM : Hid (MO wr ob A M N) := hmo
        have hms := HMS.out
        clear hb hmo
        by_cases hlt : i < M.length
        · have hiI : (i : Int) < M.length := by omega
          have HLT : Hid (i < M.length) := hlt
          obtain ⟨U, hU⟩ : ∃ U, wb (Go.Proofs.Ythmnoepjkobcmaa.lw A.k.toNat N i) = U := ⟨_, rfl⟩
          obtain ⟨T, hT⟩ : ∃ T, wb (Go.Proofs.Ythmnoepjkobcmaa.lw A.k.toNat N (i - 1)) = T := ⟨_, rfl⟩
          have hlw := HMon.out.lw i hlt
          have C1 : Hid (∀ y, MO y ob A M N → Calls Try.prog 12 #[.pointer (some ⟨ob, 0, none⟩), .int .i64 (i : Nat)] y fun e w' => e = .returned (.tuple #[.string U, .int .i64 0]) ∧ Below y.heap.size y w') := fun y hy => by
            have := mword_ok hy i HLT.out
            rw [hU] at this
            exact this
          have C2 : Hid (∀ y, MO y ob A M N → Calls Try.prog 13 #[.pointer (some ⟨ob, 0, none⟩), .string U] y fun e w' => e = .returned (.tuple #[.int .i64 (i : Nat), .int .i64 0]) ∧ Below y.heap.size y w') := fun y hy => by
            have := HEL.out y _ hy hlw.1 (by have := HWL.out i HLT.out; omega)
            rw [hU, hlw.2] at this
            exact this
          obtain ⟨O, hO⟩ : ∃ O, ord T U = O := ⟨_, rfl⟩
          have C3 : Hid (∀ y, Calls Try.prog 40 #[.string T, .string U] y fun e w' => e = .returned (.int .i64 O) ∧ w' = y) := fun y => by rw [← hO]; exact order_any T U y
          have hOn : 0 < i → O < 0 := fun h0 => by
            have hr := HMon.out.rise i hlt (i - 1) (by omega)
            have hlp := HMon.out.lw (i - 1) (by omega)
            have hs : ¬ sle (lets U) (lets T) := by
              rw [← hU, ← hT, lets_wb HKN.out.1 hlw.1, lets_wb HKN.out.1 hlp.1]
              intro q
              exact hr.2 (sle_anti hr.1 q)
            rw [← hO]
            refine (ord_sle (k := A.k) ?_ ?_).2 hs
            · rw [← hT]; exact (wb_lts HKN.out.2.1 HKN.out.2.2 hlp.1).1
            · rw [← hU]; exact (wb_lts HKN.out.2.1 HKN.out.2.2 hlw.1).1
          rw [hT]
          have HUE : Hid (wb (Go.Proofs.Ythmnoepjkobcmaa.lw A.k.toNat N (i + 1 - 1)) = U) := by show _ = _; rw [Nat.add_sub_cancel]; exact hU
          clear hlw hU hT hO
          go_wp2_with fail
          refine (mlen_any HM.out).mono ?_
          rintro e wl ⟨rfl, hq⟩
          subst hq
          go_wp2_with fail
          refine (C1.out _ HM.out).mono ?_
          rintro e v1 ⟨rfl, hb⟩
          have VB1 : Hid (Below W.heap.size W v1) := go_on HB.out hb
          have VM1 : Hid (MO v1 ob A M N) := HM.out.below hb
          clear hb
          go_wp2_with fail
          refine (C2.out _ VM1.out).mono ?_
          rintro e v2 ⟨rfl, hb⟩
          have VB2 : Hid (Below W.heap.size W v2) := go_on VB1.out hb
          have VM2 : Hid (MO v2 ob A M N) := VM1.out.below hb
          clear hb
          by_cases h0 : 0 < i
          · have h0I : (0 : Int) < i := by omega
            have h0d : decide ((0 : Int) < i) = true := decide_eq_true h0I
            have hOI : ¬ 0 ≤ O := by have := hOn h0; omega
            have hOd : decide (0 ≤ O) = false := decide_eq_false hOI
            clear hOn
            go_wp2_with (first | (go_at_call 23; refine (num14_any _ _).mono ?_; rintro e yn ⟨rfl, hyn⟩; subst yn) | (go_at_call 40; refine (C3.out _).mono ?_; rintro e yo ⟨rfl, hyo⟩; subst yo))
            go_roundw
            case rel => exact ⟨i + 1, by go_num, HLT.out, by rw [HUE.out], VB2.out, VM2.out⟩
            case measure => have := HLT.out; simp [Go.Lib.intOf]; omega
          · have h0I : ¬ (0 : Int) < i := by omega
            have h0d : decide ((0 : Int) < i) = false := decide_eq_false h0I
            clear hOn
            go_wp2_with (first | (go_at_call 23; refine (num14_any _ _).mono ?_; rintro e yn ⟨rfl, hyn⟩; subst yn) | (go_at_call 40; refine (C3.out _).mono ?_; rintro e yo ⟨rfl, hyo⟩; subst yo))
            go_roundw
            case rel => exact ⟨i + 1, by go_num, HLT.out, by rw [HUE.out], VB2.out, VM2.out⟩
            case measure => have := HLT.out; simp [Go.Lib.intOf]; omega
        · have hiI : ¬ (i : Int) < M.length := by omega
          obtain ⟨X, hX⟩ : ∃ X, mr A.k.toNat N 0 (lets x) = X := ⟨_, rfl⟩
          have hXl : X < M.length := by rw [← hX]; exact HMon.out.lt HX.out HMon.out.pos
          obtain ⟨U, hU⟩ : ∃ U, wb (Go.Proofs.Ythmnoepjkobcmaa.lw A.k.toNat N X) = U := ⟨_, rfl⟩
          have hlw := HMon.out.lw X hXl
          have hUl : U.size ≤ 512 := by rw [← hU, wb_size]; exact HWL.out X hXl
          have C1 : Hid (∀ y, MO y ob A M N → Calls Try.prog 13 #[.pointer (some ⟨ob, 0, none⟩), .string x] y fun e w' => e = .returned (.tuple #[.int .i64 (X : Nat), .int .i64 0]) ∧ Below y.heap.size y w') := fun y hy => by
            have := mElement_any hy x HSZ.out
            unfold elV at this
            rw [if_pos HCX.out, hX] at this
            exact this
          have C2 : Hid (∀ y, MO y ob A M N → Calls Try.prog 12 #[.pointer (some ⟨ob, 0, none⟩), .int .i64 (X : Nat)] y fun e w' => e = .returned (.tuple #[.string U, .int .i64 0]) ∧ Below y.heap.size y w') := fun y hy => by
            have := mword_ok hy X hXl
            rw [hU] at this
            exact this
          obtain ⟨O, hO⟩ : ∃ O, ord U x = O := ⟨_, rfl⟩
          have C3 : Hid (∀ y, Calls Try.prog 40 #[.string U, .string x] y fun e w' => e = .returned (.int .i64 O) ∧ w' = y) := fun y => by rw [← hO]; exact order_any U x y
          have HUL : Hid (Lts A.k U ∧ lets U = Go.Proofs.Ythmnoepjkobcmaa.lw A.k.toNat N X) := by rw [← hU]; exact ⟨(wb_lts HKN.out.2.1 HKN.out.2.2 hlw.1).1, lets_wb HKN.out.1 hlw.1⟩
          have hOn : ¬ 0 < O := by
            have hs : sle (lets U) (lets x) := by rw [HUL.out.2, ← hX]; exact HMon.out.least (lets x) HX.out
            rw [← hO]
            exact ord_le HUL.out.1 HXL.out hs
          have hOd : decide (0 < O) = false := decide_eq_false hOn
          have HXl : Hid (X < M.length) := hXl
          have HUW : Hid (U = wb (Go.Proofs.Ythmnoepjkobcmaa.lw A.k.toNat N X)) := hU.symm
          clear hlw hU hX hO hXl
          go_wp2_with fail
          refine (mlen_any HM.out).mono ?_
          rintro e wl ⟨rfl, hq⟩
          subst hq
          go_wp2_with fail
          refine (C1.out _ HM.out).mono ?_
          rintro e v1 ⟨rfl, hb⟩
          have VB1 : Hid (Below W.heap.size W v1) := go_on HB.out hb
          have VM1 : Hid (MO v1 ob A M N) := HM.out.below hb
          clear hb
          go_wp2_with fail
          refine (C2.out _ VM1.out).mono ?_
          rintro e v2 ⟨rfl, hb⟩
          have VB2 : Hid (Below W.heap.size W v2) := go_on VB1.out hb
          have VM2 : Hid (MO v2 ob A M N) := VM1.out.below hb
          clear hb
          by_cases f0 : bf < 0
          · have f0d : decide (bf < 0) = true := decide_eq_true f0
            go_wp2_with (first | (go_at_call 23; refine (num14_any _ _).mono ?_; rintro e yn ⟨rfl, hyn⟩; subst yn) | (go_at_call 40; refine (C3.out _).mono ?_; rintro e yo ⟨rfl, hyo⟩; subst yo) | (go_at_call 10; refine (live14_any _).mono ?_; rintro e v3 ⟨rfl, hb⟩; have VB3 : Hid (Below W.heap.size W v3) := go_on VB2.out hb; clear hb))
            go_ret
            exact ⟨rfl, VB3.out⟩
          by_cases f1 : bt < bf
          · have f0d : decide (bf < 0) = false := decide_eq_false f0
            have f1d : decide (bt < bf) = true := decide_eq_true f1
            go_wp2_with (first | (go_at_call 23; refine (num14_any _ _).mono ?_; rintro e yn ⟨rfl, hyn⟩; subst yn) | (go_at_call 40; refine (C3.out _).mono ?_; rintro e yo ⟨rfl, hyo⟩; subst yo) | (go_at_call 10; refine (live14_any _).mono ?_; rintro e v3 ⟨rfl, hb⟩; have VB3 : Hid (Below W.heap.size W v3) := go_on VB2.out hb; clear hb))
            go_ret
            exact ⟨rfl, VB3.out⟩
          by_cases f2 : (U.size : Int) < bt
          · have f0d : decide (bf < 0) = false := decide_eq_false f0
            have f1d : decide (bt < bf) = false := decide_eq_false f1
            have f2d : decide ((U.size : Int) < bt) = true := decide_eq_true f2
            go_wp2_with (first | (go_at_call 23; refine (num14_any _ _).mono ?_; rintro e yn ⟨rfl, hyn⟩; subst yn) | (go_at_call 40; refine (C3.out _).mono ?_; rintro e yo ⟨rfl, hyo⟩; subst yo) | (go_at_call 10; refine (live14_any _).mono ?_; rintro e v3 ⟨rfl, hb⟩; have VB3 : Hid (Below W.heap.size W v3) := go_on VB2.out hb; clear hb))
            go_ret
            exact ⟨rfl, VB3.out⟩
          obtain ⟨f, rfl⟩ : ∃ f : Nat, bf = f := ⟨bf.toNat, by omega⟩
          obtain ⟨g, rfl⟩ : ∃ g : Nat, bt = g := ⟨bt.toNat, by omega⟩
          have f0d : decide ((f : Int) < 0) = false := decide_eq_false f0
          have f1d : decide ((g : Int) < f) = false := decide_eq_false f1
          have f2d : decide ((U.size : Int) < g) = false := decide_eq_false f2
          obtain ⟨B, hB⟩ : ∃ B, ((Go.Proofs.Ythmnoepjkobcmaa.lw A.k.toNat N X).drop f).take (g - f) = B := ⟨_, rfl⟩
          have hBE : Go.Proofs.Ythmnoepjkobcmaa.lw A.k.toNat N X = (Go.Proofs.Ythmnoepjkobcmaa.lw A.k.toNat N X).take f ++ B ++ ((Go.Proofs.Ythmnoepjkobcmaa.lw A.k.toNat N X).drop f).drop (g - f) := by
            rw [← hB, List.append_assoc, List.take_append_drop, List.take_append_drop]
          have hpc := HMon.out.piece HXl.out hBE
          have hBL : Lt A.k.toNat B := fun c hc => (HMon.out.lw X HXl.out).1 c (by rw [hBE]; simp [hc])
          have hBl : B.length ≤ 9223372036854775807 := by
            have h1 := HWL.out X HXl.out
            have h2 : B.length ≤ (Go.Proofs.Ythmnoepjkobcmaa.lw A.k.toNat N X).length := by rw [← hB, List.length_take, List.length_drop]; omega
            omega
          have hUB : U.extract f g = wb B := by rw [HUW.out, wb_cut, hB]
          obtain ⟨Y, hY⟩ : ∃ Y, mr A.k.toNat N 0 B = Y := ⟨_, rfl⟩
          have hYl : Y < M.length := by rw [← hY]; exact HMon.out.lt hBL HMon.out.pos
          rw [hY] at hpc
          have D1 : Hid (∀ y, MO y ob A M N → Calls Try.prog 13 #[.pointer (some ⟨ob, 0, none⟩), .string (U.extract f g)] y fun e w' => e = .returned (.tuple #[.int .i64 (Y : Nat), .int .i64 0]) ∧ Below y.heap.size y w') := fun y hy => by
            have := HEL.out y _ hy hBL hBl
            rw [hY] at this
            rw [hUB]
            exact this
          have D2 : Hid (∀ y, MO y ob A M N → Calls Try.prog 12 #[.pointer (some ⟨ob, 0, none⟩), .int .i64 (Y : Nat)] y fun e w' => e = .returned (.tuple #[.string (U.extract f g), .int .i64 0]) ∧ Below y.heap.size y w') := fun y hy => by
            have := mword_ok hy Y hYl
            rw [hpc] at this
            rw [hUB]
            exact this
          clear hB hBE hpc hBL hBl hUB hY hYl
          go_wp2_with (first | (go_at_call 23; refine (num14_any _ _).mono ?_; rintro e yn ⟨rfl, hyn⟩; subst yn) | (go_at_call 40; refine (C3.out _).mono ?_; rintro e yo ⟨rfl, hyo⟩; subst yo))
          refine (D1.out _ VM2.out).mono ?_
          rintro e v3 ⟨rfl, hb⟩
          have VB3 : Hid (Below W.heap.size W v3) := go_on VB2.out hb
          have VM3 : Hid (MO v3 ob A M N) := VM2.out.below hb
          clear hb
          go_wp2_with fail
          refine (D2.out _ VM3.out).mono ?_
          rintro e v4 ⟨rfl, hb⟩
          have VB4 : Hid (Below W.heap.size W v4) := go_on VB3.out hb
          clear hb
          go_wp2_with (first | (go_at_call 23; refine (num14_any _ _).mono ?_; rintro e yn ⟨rfl, hyn⟩; subst yn) | (go_at_call 10; refine (live14_any _).mono ?_; rintro e v5 ⟨rfl, hb⟩; have VB5 : Hid (Below W.heap.size W v5) := go_on VB4.out hb; clear hb))
          go_ret
          exact ⟨rfl, VB5.out⟩
    · obtain ⟨E, hEE⟩ : ∃ E, chk A.k x = E := ⟨_, rfl⟩
      rw [hEE] at hc ⊢
      have hq0 : (E != 0) = true := by rw [bne_iff_ne]; exact hc
      clear hEE
      go_wp2_with fail
      refine (live14_any _).mono ?_
      rintro e w3 ⟨rfl, hb⟩
      have HB3 : Hid (Below W.heap.size W w3) := go_on HB2.out hb
      clear hb
      go_wp2_with fail
      go_ret
      exact ⟨rfl, HB3.out⟩

/-! ### The row's step -/
theorem own : ownKnob Try.prog.godebug = none := by kernel_rfl
set_option maxRecDepth 100000 in
theorem lifted (os : Os) (started : os.Started) (H : Type) (enc : TypeId × Value → H) :
    ReturnsInHanded {} Try.checked os 8 .any (Rows.monoidLeastSpec.pre6 enc Try.prog Try.f8 Rows.monoidLeastRow.domain false) (Rows.monoidLeastSpec.post enc Try.prog Try.f8 false true false false) := by
  refine returnsInHanded_of_change_sized (C := Try.checked) own started (by kernel_rfl) Try.func8
    (ChangeSpec.witness6 (enc := enc) (C := Try.checked) false ⟨#[], #[.agg #[.int .i64 0, .slice none 0 0, .slice none 0 0], .string ByteArray.empty, .int .i64 0, .int .i64 0], []⟩ 8 (by kernel_rfl) (by kernel_rfl) (by kernel_rfl) (by kernel_rfl)) ?_
  intro W base args ds gs before hval0 hW hcnd hsz0 _
  have hval : ∀ (j : Nat) t v, Try.f8.params[j]? = some t → args[j]? = some v → Value.okWide Try.prog W .any base t v := hval0
  clear hval0
  have hsz : (DataW.weightsEach Try.prog (Try.f8.params.toList ++ Rows.monoidLeastSpec.plain.varTypes Try.prog) (ds ++ gs)).all (· ≤ reachBytes) = true := hsz0
  clear hsz0
  have hW' := hW
  obtain ⟨p, q, hA0, hV, rfl, hfz, hnd⟩ := hW
  have hA : DataW.TrodAll enc Try.prog W 0 (fun _ => true) true Try.f8.params.toList args.toList ds p := hA0
  rw [Try.params8] at hA hval hsz
  obtain ⟨v0, vs0, d0, ds0, p0, q0, hargs, rfl, rfl, h0, r0⟩ := trodAll_cons hA
  obtain ⟨v1, vs1, d1, ds1, p1, q1, rfl, rfl, rfl, h1, r1⟩ := trodAll_cons r0
  obtain ⟨v2, vs2, d2, ds2, p2, q2, rfl, rfl, rfl, h2, r2⟩ := trodAll_cons r1
  obtain ⟨v3, vs3, d3, ds3, p3, q3, rfl, rfl, rfl, h3, r3⟩ := trodAll_cons r2
  obtain ⟨rfl, rfl, rfl⟩ := trodAll_nil r3
  obtain rfl : args = #[v0, v1, v2, v3] := by cases args; simp_all
  obtain ⟨rfl, rfl⟩ := trodVars_none hV
  obtain ⟨a0, x0, n0, w0, dk0, dn0, da0, e0, y0, z0⟩ := open_auto (hval 0 26 v0 rfl rfl) h0
  have b0 := auto_bounds hsz (j := 0) rfl (by rw [e0]; rfl) y0 z0
  have g0 : ∀ x ∈ p0, x.block < W.heap.size := fun x hx => hW'.lt x (by simp [hx])
  obtain ⟨a1, rfl, rfl, rfl, w1⟩ := open_string Try.underlying9 (hval 1 9 v1 rfl rfl) h1
  have u1 : a1.size ≤ 140737488355327 := by
    have := sized_string hsz (j := 1) (t := 9) rfl rfl
    have e : a1.data.toList.length = a1.size := rfl
    simp only [reachBytes] at this
    omega
  obtain ⟨a2, rfl, rfl, rfl, w2⟩ := open_int Try.underlying3 (hval 2 3 v2 rfl rfl) h2
  obtain ⟨a3, rfl, rfl, rfl, w3⟩ := open_int Try.underlying3 (hval 3 3 v3 rfl rfl) h3
  clear hA0
  refine (walk v0 a0 a1 a2 a3 W x0 n0 b0.1 b0.2 u1).mono fun e W' ⟨he, bel⟩ => ?_
  subst he
  exact ⟨_, rfl, _, _, _, [], _, [], hW', trodAll_mk1 (shut_bool Try.underlying4 _), (trodAll_cons_mk (Below.trod Try.laidOut (by kernel_rfl) (of_decide_eq_true (by kernel_rfl)) h0 bel g0) (trodAll_cons_mk (shut_string Try.underlying9 w1) (trodAll_cons_mk (shut_int Try.underlying3 w2) (trodAll_cons_mk (shut_int Try.underlying3 w3) trodAll_mk0)))), rfl, bel.frame _, fun h => by cases h⟩

theorem over : Rows.monoidLeastRow.holds Try.pinned (OpenSpec.ofChange Rows.monoidLeastSpec) :=
  OpenClaim.holds_of_wide 8 Try.f8 rfl rfl rfl rfl rfl rfl rfl ⟨rfl, rfl, rfl, rfl, rfl⟩ rfl rfl rfl rfl rfl (by kernel_rfl) Try.func8 (by kernel_rfl)
    (of_decide_eq_true (by kernel_rfl)) (by unfold Func.isWrapper; first | (rw [if_pos (by decide +kernel)]; kernel_rfl) | (rw [if_neg (by decide +kernel)]; exact ⟨rfl, rfl⟩))
    (fun os started H enc _ => lifted os started H enc)

end Go.Proofs.Ythmnoepjkobcmaa.monoidLeast
namespace Go.Proofs.Ythmnoepjkobcmaa
/-- The given statement. -/
theorem monoidLeast_holds : Rows.MonoidLeastSaid := monoidLeast.over
end Go.Proofs.Ythmnoepjkobcmaa
