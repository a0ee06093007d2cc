/- Proved: eggboxlaw16.IdemRegular answers true at every automaton's data a and every number i (P16.6): where Build makes a monoid, an element is regular just if Inverses finds some, just if an idempotent i j has it behind it; Inverses' elements rise and are inverses; idempotents are regular and among their own inverses; and the law's own monoid is as the law names it. No condition. -/
import Derived.Test.YtflclnkaccbfcaaW3
import Derived.Test.YtflclnkaccbfcaaW4
import Derived.Test.YtflclnkaccbfcaaE26
import Derived.ProofKit
import Derived.OpenShut
import Derived.ShutString
import Derived.ChangeOld
import Derived.SizedLaws
import Derived.Deep.RegionHeld
namespace Go.Proofs.Ytflclnkaccbfcaa.idemRegular
open Go Go.ChangeShapes Go.WideShapes Go.ChangeAt Go.RowKit Go.Lib
open Go.ChangeMaps (open_string shut_string)
set_option linter.unusedVariables false
attribute [-instance] List.instBEq instBEqProd


set_option maxHeartbeats 16000000 in
set_option maxRecDepth 100000 in
theorem walk (va : Value) (A : Aut) (a1 : Int) (W : World) (ha : AR W va A) (hna : NilOk va) (hma : (A.nx.length + 2) * 8 ≤ 140737488355328) (hma2 : A.ac.length ≤ 140737488355328) (h1 : I64 a1) :
    Calls Try.prog 7 #[va, .int .i64 a1] W fun e w' => e = .returned (.bool true) ∧ Below W.heap.size W w' := by
  obtain ⟨an, cn, aa, ca, ea, _, _⟩ := ha.is
  have HAA : Hid (∀ y, Below W.heap.size W y → AR y va A) := fun y hy => ha.stay hy
  subst ea
  have HBD : Hid (∀ y, Below W.heap.size W y → Calls Try.prog 33 #[.agg #[.int .i64 A.k, .slice an A.nx.length cn, .slice aa A.ac.length ca]] y (BdA A y)) := fun y hy => build_all _ A y (HAA.out y hy) (by omega) (by omega)
  obtain ⟨w0, hw0⟩ : ∃ w0, w0 = W.alloc (.cells #[.int .i64 A.k, .slice an A.nx.length cn, .slice aa A.ac.length ca] 26) := ⟨_, rfl⟩
  have HB0 : Hid (Below W.heap.size W w0) := by show Below _ _ _; rw [hw0]; exact below_new _ _
  have HW0 : Hid (w0 = W.alloc (.cells #[.int .i64 A.k, .slice an A.nx.length cn, .slice aa A.ac.length ca] 26)) := hw0
  clear ha hna hma hma2 hw0
  go_enter Try.func7, Try.ntmps7
  go_wp2_with fail
  rw [← HW0.out]
  refine (HBD.out _ HB0.out).mono ?_
  rintro e w1 (⟨hne, rfl, hb⟩ | ⟨ob, M, N, rfl, G, h64, hE, hmo, hb⟩)
  · have HB1 : Hid (Below W.heap.size W w1) := go_on HB0.out hb
    obtain ⟨E, hEE⟩ : ∃ E, bdE A = E := ⟨_, rfl⟩
    rw [hEE] at hne ⊢
    have hq0 : (E != 0) = true := by rw [bne_iff_ne]; exact hne
    have hqd : decide (E = 0) = false := decide_eq_false hne
    clear hb hEE
    go_wp2_with (first | (go_at_call 21; refine (num16_any _ _).mono ?_; rintro e yn ⟨rfl, hyn⟩; subst yn) | (go_at_call 10; refine (live16_any _).mono ?_; rintro e w2 ⟨rfl, hb2⟩; have HB2 : Hid (Below W.heap.size W w2) := go_on HB1.out hb2; clear hb2))
    go_ret
    exact ⟨rfl, HB2.out⟩
  · have HB1 : Hid (Below W.heap.size W w1) := go_on HB0.out hb
    have HM1 : Hid (MO w1 ob A M N) := hmo
    have HMon : Hid (Mon A M N) := mon_of G h64 hE
    have hnl := HMon.out.pos
    have hn5 := HMon.out.most
    have hn1 : ¬ (M.length : Int) < 1 := by omega
    have hn1d : decide ((M.length : Int) < 1) = false := decide_eq_false hn1
    have heq := eq_Mnil ⟨ob, 0, none⟩
    clear hb hmo G h64 hE
    go_wp2_with (first | (go_at_call 21; refine (num16_any _ _).mono ?_; rintro e yn ⟨rfl, hyn⟩; subst yn) | (go_at_call 34; refine (mlen_any HM1.out).mono ?_; rintro e yn ⟨rfl, hyn⟩; subst yn))
    clear heq hn1 hn1d
    refine (at16_any HM1.out a1 h1).mono ?_
    rintro e w2 ⟨⟨i, hi, rfl⟩, hb⟩
    have HB2 : Hid (Below W.heap.size W w2) := go_on HB1.out hb
    have HM2 : Hid (MO w2 ob A M N) := HM1.out.below hb
    clear hb
    go_wp2_with fail
    refine (iRegular_ok HM2.out i hi).mono ?_
    rintro e w3 ⟨rfl, hb⟩
    have HB3 : Hid (Below W.heap.size W w3) := go_on HB2.out hb
    have HM3 : Hid (MO w3 ob A M N) := HM2.out.below hb
    clear hb
    go_wp2_with fail
    refine (iInverses_ok HM3.out i hi).mono ?_
    rintro e w4 ⟨l, rfl, hl, hb⟩
    have HB4 : Hid (Below W.heap.size W w4) := go_on HB3.out hb
    have HM4 : Hid (MO w4 ob A M N) := HM3.out.below hb
    obtain ⟨la, lc, rfl⟩ := own_shape hl
    have HL0 : Hid (SR w4 la (nC (thL M.length (inE A.k.toNat N i)))) := own_sr hl
    clear hl
    clear hb
    go_wp2_with fail
    have CID : Hid (∀ u, MO u ob A M N → Calls Try.prog 12 #[.pointer (some ⟨ob, 0, none⟩), .int .i64 (i : Nat)] u fun e w' => e = .returned (.tuple #[.bool (idE A.k.toNat N i), .int .i64 0]) ∧ Below u.heap.size u w') := fun u hu => by
      have := iIdem_any hu (i : Int)
      unfold ipV at this
      rw [if_pos (show hasE M.length (i : Int) = true from decide_eq_true ⟨by omega, by omega⟩)] at this
      exact this
    refine (CID.out _ HM4.out).mono ?_
    rintro e w5 ⟨rfl, hb⟩
    have HB5 : Hid (Below W.heap.size W w5) := go_on HB4.out hb
    have HM5 : Hid (MO w5 ob A M N) := HM4.out.below hb
    have HL : Hid (SR w5 la (nC (thL M.length (inE A.k.toNat N i)))) := HL0.out.stay hb
    clear hb
    have hll := thL_len M.length (inE A.k.toNat N i)
    have HTL : Hid (∀ (a b u v : Nat), (thL M.length (inE A.k.toNat N i))[a]? = some u → (thL M.length (inE A.k.toNat N i))[b]? = some v → a < b → u < v) := fun a b u v ha hb hab => thL_lt _ _ ha hb hab
    have HTM : Hid (∀ v, v ∈ (thL M.length (inE A.k.toNat N i)) ↔ v < M.length ∧ inE A.k.toNat N i v = true) := fun v => mem_thL
    have HRI : Hid (rgE A.k.toNat M.length N i = true ↔ 0 < (thL M.length (inE A.k.toNat N i)).length) := reg_inv HMon.out hi
    have HRA : Hid (rgE A.k.toNat M.length N i = (List.range M.length).any (ahP A.k.toNat N i)) := reg_ah HMon.out hi
    have HON : Hid (idE A.k.toNat N i = true → rgE A.k.toNat M.length N i = true ∧ inE A.k.toNat N i i = true) := fun q => by
      have q1 := of_decide_eq_true q
      exact ⟨rgE_iff.2 ⟨i, hi, by rw [q1, q1]⟩, inE_iff.2 ⟨by rw [q1, q1], by rw [q1, q1]⟩⟩
    obtain ⟨T, hT⟩ : ∃ T, thL M.length (inE A.k.toNat N i) = T := ⟨_, rfl⟩
    rw [hT] at HL hll HTL HTM HRI ⊢
    obtain ⟨is, his⟩ : ∃ b, rgE A.k.toNat M.length N i = b := ⟨_, rfl⟩
    obtain ⟨one, hone⟩ : ∃ b, idE A.k.toNat N i = b := ⟨_, rfl⟩
    rw [his] at HRI HRA HON ⊢
    rw [hone] at HON ⊢
    clear hT his hone HL0
    have HB : Hid (Below W.heap.size W w5) := HB5.out
    have HMW : Hid (MO w5 ob A M N) := HM5.out
    cases is with
    | false =>
      cases one with
      | false =>
        have HAN : Hid ((List.range M.length).any (ahP A.k.toNat N i) = false) := HRA.out.symm
        have htl : T.length = 0 := by have := fun q => HRI.out.2 q; apply Classical.byContradiction; intro q; have := this (by omega); cases this
        have htd : decide (0 < T.length) = false := decide_eq_false (by omega)
        have htI : decide ((0 : Int) < (T.length : Int)) = false := decide_eq_false (by omega)
        -- no more to say
        go_wp2_with (first | (go_at_call 21; refine (num16_any _ _).mono ?_; rintro e yn ⟨rfl, hyn⟩; subst yn))
        clear htd htI
        go_loopw [4, 13, 14] (fun _ vo vk wr => ∃ k : Nat, k ≤ T.length ∧ vk = .int .i64 (k : Nat) ∧ vo = .bool (decide (i ∈ T.take k)) ∧ Below w5.heap.size w5 wr) (fun _ _ vk _ => T.length - (Go.Lib.intOf vk).toNat)
        case atStart => exact ⟨0, Nat.zero_le _, rfl, by simp, Below.refl _ _⟩
        case round =>
          obtain ⟨k, hk, rfl, rfl, hbr⟩ := hrel
          have HBr : Hid (Below w5.heap.size w5 wr) := hbr
          clear hbr
          by_cases hlt : k < T.length
          · have hkI : (k : Int) < (T.length : Int) := by omega
            omega
          · have hkI : ¬ (k : Int) < (T.length : Int) := by omega
            have e1 : T.take k = T := List.take_of_length_le (by omega)
            rw [e1]
            obtain ⟨ow, how⟩ : ∃ b, decide (i ∈ T) = b := ⟨_, rfl⟩
            rw [how]
            -- no more to say
            -- no more to say
            clear e1 how
            go_wp2_with fail
            go_loopw [15, 16, 17] (fun va vj _ wz => ∃ j : Nat, j ≤ M.length ∧ vj = .int .i64 (j : Nat) ∧ va = .bool ((List.range j).any (ahP A.k.toNat N i)) ∧ Below w5.heap.size w5 wz) (fun _ vj _ _ => M.length - (Go.Lib.intOf vj).toNat)
            case atStart => exact ⟨0, Nat.zero_le _, rfl, rfl, HBr.out⟩
            case round =>
              clear HBr
              obtain ⟨j, hj, rfl, rfl, hbr⟩ := hrel
              have HBz : Hid (Below w5.heap.size w5 wr) := hbr
              have HMz : Hid (MO wr ob A M N) := HMW.out.below hbr
              clear hbr
              by_cases hlt : j < M.length
              · have hjI : (j : Int) < (M.length : Int) := by omega
                have HLT : Hid (j < M.length) := hlt
                have hxl := HMon.out.pr_lt hi hlt
                obtain ⟨x, hx⟩ : ∃ x, pr A.k.toNat N i j = x := ⟨_, rfl⟩
                rw [hx] at hxl
                obtain ⟨p, hp⟩ : ∃ p, pr A.k.toNat N x x = p := ⟨_, rfl⟩
                obtain ⟨q, hq⟩ : ∃ q, pr A.k.toNat N x i = q := ⟨_, rfl⟩
                have HF : Hid (ahP A.k.toNat N i j = decide (p = x ∧ q = i)) := by show _ = _; unfold ahP; rw [hx, hp, hq]
                have HS : Hid ((List.range (j + 1)).any (ahP A.k.toNat N i) = ((List.range j).any (ahP A.k.toNat N i) || ahP A.k.toNat N i j)) := by show _ = _; rw [List.range_succ, List.any_append]; simp
                have TIJ : Hid (∀ y, MO y ob A M N → Calls Try.prog 36 #[.pointer (some ⟨ob, 0, none⟩), .int .i64 (i : Nat), .int .i64 (j : Nat)] y fun e w' => e = .returned (.int .i64 (x : Nat)) ∧ Below y.heap.size y w') := fun y hy => by
                  have := times16_any hy i j hi hlt
                  rw [hx] at this
                  exact this
                have TXX : Hid (∀ y, MO y ob A M N → Calls Try.prog 36 #[.pointer (some ⟨ob, 0, none⟩), .int .i64 (x : Nat), .int .i64 (x : Nat)] y fun e w' => e = .returned (.int .i64 (p : Nat)) ∧ Below y.heap.size y w') := fun y hy => by
                  have := times16_any hy x x hxl hxl
                  rw [hp] at this
                  exact this
                have TXI : Hid (∀ y, MO y ob A M N → Calls Try.prog 36 #[.pointer (some ⟨ob, 0, none⟩), .int .i64 (x : Nat), .int .i64 (i : Nat)] y fun e w' => e = .returned (.int .i64 (q : Nat)) ∧ Below y.heap.size y w') := fun y hy => by
                  have := times16_any hy x i hxl hi
                  rw [hq] at this
                  exact this
                clear hx hp hq hlt
                cases hA : (List.range j).any (ahP A.k.toNat N i) with
                | true =>
                  have HE : Hid ((List.range (j + 1)).any (ahP A.k.toNat N i) = true) := by show _ = _; rw [HS.out, hA]; rfl
                  clear hA
                  go_wp2_with (first | (go_at_call 34; refine (mlen_any HMz.out).mono ?_; rintro e yn ⟨rfl, hyn⟩; subst yn) | (go_at_call_of 36 ([Value.int .i64 (i : Nat), Value.int .i64 (j : Nat)] : List Value); refine (TIJ.out _ HMz.out).mono ?_; rintro e z1 ⟨rfl, hb⟩; have HBz1 : Hid (Below w5.heap.size w5 z1) := go_on HBz.out hb; have HMz1 : Hid (MO z1 ob A M N) := HMz.out.below hb; clear hb))
                  go_roundw
                  case rel => exact ⟨j + 1, HLT.out, by go_num, by rw [HE.out], HBz1.out⟩
                  case measure => have := HLT.out; simp [Go.Lib.intOf]; omega
                | false =>
                  by_cases c1 : p = x
                  · have c1a : ((p : Int) == (x : Int)) = true := by rw [beq_iff_eq]; omega
                    by_cases c2 : q = i
                    · have c2a : ((q : Int) == (i : Int)) = true := by rw [beq_iff_eq]; omega
                      have HE : Hid ((List.range (j + 1)).any (ahP A.k.toNat N i) = true) := by show _ = _; rw [HS.out, hA, HF.out]; simp [c1, c2]
                      clear hA c1 c2
                      go_wp2_with (first | (go_at_call 34; refine (mlen_any HMz.out).mono ?_; rintro e yn ⟨rfl, hyn⟩; subst yn) | (go_at_call_of 36 ([Value.int .i64 (i : Nat), Value.int .i64 (j : Nat)] : List Value); refine (TIJ.out _ HMz.out).mono ?_; rintro e z1 ⟨rfl, hb⟩; have HBz1 : Hid (Below w5.heap.size w5 z1) := go_on HBz.out hb; have HMz1 : Hid (MO z1 ob A M N) := HMz.out.below hb; clear hb) | (go_at_call_of 36 ([Value.int .i64 (x : Nat), Value.int .i64 (x : Nat)] : List Value); refine (TXX.out _ HMz1.out).mono ?_; rintro e z2 ⟨rfl, hb⟩; have HBz2 : Hid (Below w5.heap.size w5 z2) := go_on HBz1.out hb; have HMz2 : Hid (MO z2 ob A M N) := HMz1.out.below hb; clear hb) | (go_at_call_of 36 ([Value.int .i64 (x : Nat), Value.int .i64 (i : Nat)] : List Value); refine (TXI.out _ HMz2.out).mono ?_; rintro e z3 ⟨rfl, hb⟩; have HBz3 : Hid (Below w5.heap.size w5 z3) := go_on HBz2.out hb; have HMz3 : Hid (MO z3 ob A M N) := HMz2.out.below hb; clear hb))
                      go_roundw
                      case rel => exact ⟨j + 1, HLT.out, by go_num, by rw [HE.out], HBz3.out⟩
                      case measure => have := HLT.out; simp [Go.Lib.intOf]; omega
                    · have c2a : ((q : Int) == (i : Int)) = false := by rw [beq_eq_false_iff_ne]; omega
                      have HE : Hid ((List.range (j + 1)).any (ahP A.k.toNat N i) = false) := by show _ = _; rw [HS.out, hA, HF.out]; simp [c2]
                      clear hA c1 c2
                      go_wp2_with (first | (go_at_call 34; refine (mlen_any HMz.out).mono ?_; rintro e yn ⟨rfl, hyn⟩; subst yn) | (go_at_call_of 36 ([Value.int .i64 (i : Nat), Value.int .i64 (j : Nat)] : List Value); refine (TIJ.out _ HMz.out).mono ?_; rintro e z1 ⟨rfl, hb⟩; have HBz1 : Hid (Below w5.heap.size w5 z1) := go_on HBz.out hb; have HMz1 : Hid (MO z1 ob A M N) := HMz.out.below hb; clear hb) | (go_at_call_of 36 ([Value.int .i64 (x : Nat), Value.int .i64 (x : Nat)] : List Value); refine (TXX.out _ HMz1.out).mono ?_; rintro e z2 ⟨rfl, hb⟩; have HBz2 : Hid (Below w5.heap.size w5 z2) := go_on HBz1.out hb; have HMz2 : Hid (MO z2 ob A M N) := HMz1.out.below hb; clear hb) | (go_at_call_of 36 ([Value.int .i64 (x : Nat), Value.int .i64 (i : Nat)] : List Value); refine (TXI.out _ HMz2.out).mono ?_; rintro e z3 ⟨rfl, hb⟩; have HBz3 : Hid (Below w5.heap.size w5 z3) := go_on HBz2.out hb; have HMz3 : Hid (MO z3 ob A M N) := HMz2.out.below hb; clear hb))
                      go_roundw
                      case rel => exact ⟨j + 1, HLT.out, by go_num, by rw [HE.out], HBz3.out⟩
                      case measure => have := HLT.out; simp [Go.Lib.intOf]; omega
                  · have c1a : ((p : Int) == (x : Int)) = false := by rw [beq_eq_false_iff_ne]; omega
                    have HE : Hid ((List.range (j + 1)).any (ahP A.k.toNat N i) = false) := by show _ = _; rw [HS.out, hA, HF.out]; simp [c1]
                    clear hA c1
                    go_wp2_with (first | (go_at_call 34; refine (mlen_any HMz.out).mono ?_; rintro e yn ⟨rfl, hyn⟩; subst yn) | (go_at_call_of 36 ([Value.int .i64 (i : Nat), Value.int .i64 (j : Nat)] : List Value); refine (TIJ.out _ HMz.out).mono ?_; rintro e z1 ⟨rfl, hb⟩; have HBz1 : Hid (Below w5.heap.size w5 z1) := go_on HBz.out hb; have HMz1 : Hid (MO z1 ob A M N) := HMz.out.below hb; clear hb) | (go_at_call_of 36 ([Value.int .i64 (x : Nat), Value.int .i64 (x : Nat)] : List Value); refine (TXX.out _ HMz1.out).mono ?_; rintro e z2 ⟨rfl, hb⟩; have HBz2 : Hid (Below w5.heap.size w5 z2) := go_on HBz1.out hb; have HMz2 : Hid (MO z2 ob A M N) := HMz1.out.below hb; clear hb))
                    go_roundw
                    case rel => exact ⟨j + 1, HLT.out, by go_num, by rw [HE.out], HBz2.out⟩
                    case measure => have := HLT.out; simp [Go.Lib.intOf]; omega
              · have hjI : ¬ (j : Int) < (M.length : Int) := by omega
                have hjm : j = M.length := by omega
                have e2 : (List.range j).any (ahP A.k.toNat N i) = false := by rw [hjm]; exact HAN.out
                rw [e2]
                clear e2 hjm
                go_wp2_with (first | (go_at_call 34; refine (mlen_any HMz.out).mono ?_; rintro e yn ⟨rfl, hyn⟩; subst yn) | (go_at_call 10; refine (live16_any _).mono ?_; rintro e v3 ⟨rfl, hb⟩; have VB3 : Hid (Below W.heap.size W v3) := go_on (go_on HB.out HBz.out) hb; clear hb))
                go_ret
                exact ⟨rfl, VB3.out⟩
      | true => exact absurd (HON.out rfl).1 (by decide)
    | true =>
      cases one with
      | false =>
        have HAN : Hid ((List.range M.length).any (ahP A.k.toNat N i) = true) := HRA.out.symm
        have htl : 0 < T.length := HRI.out.1 rfl
        have htd : decide (0 < T.length) = true := decide_eq_true htl
        have htI : decide ((0 : Int) < (T.length : Int)) = true := decide_eq_true (by omega)
        -- no more to say
        go_wp2_with (first | (go_at_call 21; refine (num16_any _ _).mono ?_; rintro e yn ⟨rfl, hyn⟩; subst yn))
        clear htd htI
        go_loopw [4, 13, 14] (fun _ vo vk wr => ∃ k : Nat, k ≤ T.length ∧ vk = .int .i64 (k : Nat) ∧ vo = .bool (decide (i ∈ T.take k)) ∧ Below w5.heap.size w5 wr) (fun _ _ vk _ => T.length - (Go.Lib.intOf vk).toNat)
        case atStart => exact ⟨0, Nat.zero_le _, rfl, by simp, Below.refl _ _⟩
        case round =>
          obtain ⟨k, hk, rfl, rfl, hbr⟩ := hrel
          have HBr : Hid (Below w5.heap.size w5 wr) := hbr
          clear hbr
          by_cases hlt : k < T.length
          · have hkI : (k : Int) < (T.length : Int) := by omega
            have HLT : Hid (k < T.length) := hlt
            have HSR := HL.out.stay HBr.out
            obtain ⟨g, o, rfl, _, hcell⟩ := HSR.nat hlt
            have HSL : Hid (SR wr (some ⟨g, o, none⟩) (nC T)) := HSR
            obtain ⟨v, hv⟩ : ∃ v, T.getD k 0 = v := ⟨_, rfl⟩
            have hvL : T[k]? = some v := by rw [List.getElem?_eq_getElem hlt, ← hv]; simp [hlt]
            rw [hv] at hcell
            have HTK : Hid (i ∈ T.take (k + 1) ↔ i ∈ T.take k ∨ i = v) := by
              show _ ↔ _
              rw [List.take_add_one, hvL]
              simp
            have HMr : Hid (MO wr ob A M N) := HMW.out.below HBr.out
            clear hv hvL hlt HSR
            have HOO : Hid (∀ b : Bool, decide (i ∈ T.take k) = b → (b || decide ((v : Int) = (i : Int))) = decide (i ∈ T.take (k + 1))) := fun b q => by
              rw [← q]
              by_cases h1 : i ∈ T.take k
              · rw [decide_eq_true h1, decide_eq_true (HTK.out.2 (.inl h1))]; rfl
              · rw [decide_eq_false h1, Bool.false_or]
                by_cases h2 : v = i
                · rw [decide_eq_true (by omega), decide_eq_true (HTK.out.2 (.inr h2.symm))]
                · rw [decide_eq_false (by omega), decide_eq_false (fun q => by
                    rcases HTK.out.1 q with q | q
                    · exact h1 q
                    · exact h2 q.symm)]
            obtain ⟨ob0, hob⟩ : ∃ b, decide (i ∈ T.take k) = b := ⟨_, rfl⟩
            have HOB : Hid ((ob0 || decide ((v : Int) = (i : Int))) = decide (i ∈ T.take (k + 1))) := HOO.out ob0 hob
            rw [hob]
            clear hob HOO
            cases ob0 with
            | true =>
              go_wp2_with fail
              refine r15 HMr.out i hi T HTL.out HTM.out g o lc k HSL.out HLT.out hll _ _ (fun dst _ _ _ _ h => by cases dst <;> exact h) ?_
              rintro a y hy ⟨z100, z101, z102, z103, z104, z105, z106, z107, z108, z109, z110, z111, z112, z113, z114, z115, z116, z117, z118, z119, z120, z121, z122, z123, z124, z125, z126, z127, z128, z129, z130, z131, z132, z133, z134, z135, z136, z137, z138, z139, z140, z141, z142, z143, z144, z145, z146, z147, z148, z149, z150, z151, z152, z153, z154, z155, z156, z157, z158, z159, z160, z161, z162, rfl⟩
              have HY : Hid (Below wr.heap.size wr y) := hy
              clear hy
              go_wp2_with fail
              go_roundw
              case rel => exact ⟨k + 1, HLT.out, by go_num, by first | (rw [← HOB.out]; rfl) | (rw [← HOB.out]; simp), go_on HBr.out HY.out⟩
              case measure => have := HLT.out; simp [Go.Lib.intOf]; omega
            | false =>
              go_wp2_with fail
              refine r15 HMr.out i hi T HTL.out HTM.out g o lc k HSL.out HLT.out hll _ _ (fun dst _ _ _ _ h => by cases dst <;> exact h) ?_
              rintro a y hy ⟨z100, z101, z102, z103, z104, z105, z106, z107, z108, z109, z110, z111, z112, z113, z114, z115, z116, z117, z118, z119, z120, z121, z122, z123, z124, z125, z126, z127, z128, z129, z130, z131, z132, z133, z134, z135, z136, z137, z138, z139, z140, z141, z142, z143, z144, z145, z146, z147, z148, z149, z150, z151, z152, z153, z154, z155, z156, z157, z158, z159, z160, z161, z162, rfl⟩
              have HY : Hid (Below wr.heap.size wr y) := hy
              clear hy
              go_wp2_with fail
              go_roundw
              case rel => exact ⟨k + 1, HLT.out, by go_num, by first | (rw [← HOB.out]; rfl) | (rw [← HOB.out]; simp), go_on HBr.out HY.out⟩
              case measure => have := HLT.out; simp [Go.Lib.intOf]; omega

          · have hkI : ¬ (k : Int) < (T.length : Int) := by omega
            have e1 : T.take k = T := List.take_of_length_le (by omega)
            rw [e1]
            obtain ⟨ow, how⟩ : ∃ b, decide (i ∈ T) = b := ⟨_, rfl⟩
            rw [how]
            -- no more to say
            -- no more to say
            clear e1 how
            go_wp2_with fail
            go_loopw [15, 16, 17] (fun va vj _ wz => ∃ j : Nat, j ≤ M.length ∧ vj = .int .i64 (j : Nat) ∧ va = .bool ((List.range j).any (ahP A.k.toNat N i)) ∧ Below w5.heap.size w5 wz) (fun _ vj _ _ => M.length - (Go.Lib.intOf vj).toNat)
            case atStart => exact ⟨0, Nat.zero_le _, rfl, rfl, HBr.out⟩
            case round =>
              clear HBr
              obtain ⟨j, hj, rfl, rfl, hbr⟩ := hrel
              have HBz : Hid (Below w5.heap.size w5 wr) := hbr
              have HMz : Hid (MO wr ob A M N) := HMW.out.below hbr
              clear hbr
              by_cases hlt : j < M.length
              · have hjI : (j : Int) < (M.length : Int) := by omega
                have HLT : Hid (j < M.length) := hlt
                have hxl := HMon.out.pr_lt hi hlt
                obtain ⟨x, hx⟩ : ∃ x, pr A.k.toNat N i j = x := ⟨_, rfl⟩
                rw [hx] at hxl
                obtain ⟨p, hp⟩ : ∃ p, pr A.k.toNat N x x = p := ⟨_, rfl⟩
                obtain ⟨q, hq⟩ : ∃ q, pr A.k.toNat N x i = q := ⟨_, rfl⟩
                have HF : Hid (ahP A.k.toNat N i j = decide (p = x ∧ q = i)) := by show _ = _; unfold ahP; rw [hx, hp, hq]
                have HS : Hid ((List.range (j + 1)).any (ahP A.k.toNat N i) = ((List.range j).any (ahP A.k.toNat N i) || ahP A.k.toNat N i j)) := by show _ = _; rw [List.range_succ, List.any_append]; simp
                have TIJ : Hid (∀ y, MO y ob A M N → Calls Try.prog 36 #[.pointer (some ⟨ob, 0, none⟩), .int .i64 (i : Nat), .int .i64 (j : Nat)] y fun e w' => e = .returned (.int .i64 (x : Nat)) ∧ Below y.heap.size y w') := fun y hy => by
                  have := times16_any hy i j hi hlt
                  rw [hx] at this
                  exact this
                have TXX : Hid (∀ y, MO y ob A M N → Calls Try.prog 36 #[.pointer (some ⟨ob, 0, none⟩), .int .i64 (x : Nat), .int .i64 (x : Nat)] y fun e w' => e = .returned (.int .i64 (p : Nat)) ∧ Below y.heap.size y w') := fun y hy => by
                  have := times16_any hy x x hxl hxl
                  rw [hp] at this
                  exact this
                have TXI : Hid (∀ y, MO y ob A M N → Calls Try.prog 36 #[.pointer (some ⟨ob, 0, none⟩), .int .i64 (x : Nat), .int .i64 (i : Nat)] y fun e w' => e = .returned (.int .i64 (q : Nat)) ∧ Below y.heap.size y w') := fun y hy => by
                  have := times16_any hy x i hxl hi
                  rw [hq] at this
                  exact this
                clear hx hp hq hlt
                cases hA : (List.range j).any (ahP A.k.toNat N i) with
                | true =>
                  have HE : Hid ((List.range (j + 1)).any (ahP A.k.toNat N i) = true) := by show _ = _; rw [HS.out, hA]; rfl
                  clear hA
                  go_wp2_with (first | (go_at_call 34; refine (mlen_any HMz.out).mono ?_; rintro e yn ⟨rfl, hyn⟩; subst yn) | (go_at_call_of 36 ([Value.int .i64 (i : Nat), Value.int .i64 (j : Nat)] : List Value); refine (TIJ.out _ HMz.out).mono ?_; rintro e z1 ⟨rfl, hb⟩; have HBz1 : Hid (Below w5.heap.size w5 z1) := go_on HBz.out hb; have HMz1 : Hid (MO z1 ob A M N) := HMz.out.below hb; clear hb))
                  go_roundw
                  case rel => exact ⟨j + 1, HLT.out, by go_num, by rw [HE.out], HBz1.out⟩
                  case measure => have := HLT.out; simp [Go.Lib.intOf]; omega
                | false =>
                  by_cases c1 : p = x
                  · have c1a : ((p : Int) == (x : Int)) = true := by rw [beq_iff_eq]; omega
                    by_cases c2 : q = i
                    · have c2a : ((q : Int) == (i : Int)) = true := by rw [beq_iff_eq]; omega
                      have HE : Hid ((List.range (j + 1)).any (ahP A.k.toNat N i) = true) := by show _ = _; rw [HS.out, hA, HF.out]; simp [c1, c2]
                      clear hA c1 c2
                      go_wp2_with (first | (go_at_call 34; refine (mlen_any HMz.out).mono ?_; rintro e yn ⟨rfl, hyn⟩; subst yn) | (go_at_call_of 36 ([Value.int .i64 (i : Nat), Value.int .i64 (j : Nat)] : List Value); refine (TIJ.out _ HMz.out).mono ?_; rintro e z1 ⟨rfl, hb⟩; have HBz1 : Hid (Below w5.heap.size w5 z1) := go_on HBz.out hb; have HMz1 : Hid (MO z1 ob A M N) := HMz.out.below hb; clear hb) | (go_at_call_of 36 ([Value.int .i64 (x : Nat), Value.int .i64 (x : Nat)] : List Value); refine (TXX.out _ HMz1.out).mono ?_; rintro e z2 ⟨rfl, hb⟩; have HBz2 : Hid (Below w5.heap.size w5 z2) := go_on HBz1.out hb; have HMz2 : Hid (MO z2 ob A M N) := HMz1.out.below hb; clear hb) | (go_at_call_of 36 ([Value.int .i64 (x : Nat), Value.int .i64 (i : Nat)] : List Value); refine (TXI.out _ HMz2.out).mono ?_; rintro e z3 ⟨rfl, hb⟩; have HBz3 : Hid (Below w5.heap.size w5 z3) := go_on HBz2.out hb; have HMz3 : Hid (MO z3 ob A M N) := HMz2.out.below hb; clear hb))
                      go_roundw
                      case rel => exact ⟨j + 1, HLT.out, by go_num, by rw [HE.out], HBz3.out⟩
                      case measure => have := HLT.out; simp [Go.Lib.intOf]; omega
                    · have c2a : ((q : Int) == (i : Int)) = false := by rw [beq_eq_false_iff_ne]; omega
                      have HE : Hid ((List.range (j + 1)).any (ahP A.k.toNat N i) = false) := by show _ = _; rw [HS.out, hA, HF.out]; simp [c2]
                      clear hA c1 c2
                      go_wp2_with (first | (go_at_call 34; refine (mlen_any HMz.out).mono ?_; rintro e yn ⟨rfl, hyn⟩; subst yn) | (go_at_call_of 36 ([Value.int .i64 (i : Nat), Value.int .i64 (j : Nat)] : List Value); refine (TIJ.out _ HMz.out).mono ?_; rintro e z1 ⟨rfl, hb⟩; have HBz1 : Hid (Below w5.heap.size w5 z1) := go_on HBz.out hb; have HMz1 : Hid (MO z1 ob A M N) := HMz.out.below hb; clear hb) | (go_at_call_of 36 ([Value.int .i64 (x : Nat), Value.int .i64 (x : Nat)] : List Value); refine (TXX.out _ HMz1.out).mono ?_; rintro e z2 ⟨rfl, hb⟩; have HBz2 : Hid (Below w5.heap.size w5 z2) := go_on HBz1.out hb; have HMz2 : Hid (MO z2 ob A M N) := HMz1.out.below hb; clear hb) | (go_at_call_of 36 ([Value.int .i64 (x : Nat), Value.int .i64 (i : Nat)] : List Value); refine (TXI.out _ HMz2.out).mono ?_; rintro e z3 ⟨rfl, hb⟩; have HBz3 : Hid (Below w5.heap.size w5 z3) := go_on HBz2.out hb; have HMz3 : Hid (MO z3 ob A M N) := HMz2.out.below hb; clear hb))
                      go_roundw
                      case rel => exact ⟨j + 1, HLT.out, by go_num, by rw [HE.out], HBz3.out⟩
                      case measure => have := HLT.out; simp [Go.Lib.intOf]; omega
                  · have c1a : ((p : Int) == (x : Int)) = false := by rw [beq_eq_false_iff_ne]; omega
                    have HE : Hid ((List.range (j + 1)).any (ahP A.k.toNat N i) = false) := by show _ = _; rw [HS.out, hA, HF.out]; simp [c1]
                    clear hA c1
                    go_wp2_with (first | (go_at_call 34; refine (mlen_any HMz.out).mono ?_; rintro e yn ⟨rfl, hyn⟩; subst yn) | (go_at_call_of 36 ([Value.int .i64 (i : Nat), Value.int .i64 (j : Nat)] : List Value); refine (TIJ.out _ HMz.out).mono ?_; rintro e z1 ⟨rfl, hb⟩; have HBz1 : Hid (Below w5.heap.size w5 z1) := go_on HBz.out hb; have HMz1 : Hid (MO z1 ob A M N) := HMz.out.below hb; clear hb) | (go_at_call_of 36 ([Value.int .i64 (x : Nat), Value.int .i64 (x : Nat)] : List Value); refine (TXX.out _ HMz1.out).mono ?_; rintro e z2 ⟨rfl, hb⟩; have HBz2 : Hid (Below w5.heap.size w5 z2) := go_on HBz1.out hb; have HMz2 : Hid (MO z2 ob A M N) := HMz1.out.below hb; clear hb))
                    go_roundw
                    case rel => exact ⟨j + 1, HLT.out, by go_num, by rw [HE.out], HBz2.out⟩
                    case measure => have := HLT.out; simp [Go.Lib.intOf]; omega
              · have hjI : ¬ (j : Int) < (M.length : Int) := by omega
                have hjm : j = M.length := by omega
                have e2 : (List.range j).any (ahP A.k.toNat N i) = true := by rw [hjm]; exact HAN.out
                rw [e2]
                clear e2 hjm
                go_wp2_with (first | (go_at_call 34; refine (mlen_any HMz.out).mono ?_; rintro e yn ⟨rfl, hyn⟩; subst yn) | (go_at_call 10; refine (live16_any _).mono ?_; rintro e v3 ⟨rfl, hb⟩; have VB3 : Hid (Below W.heap.size W v3) := go_on (go_on HB.out HBz.out) hb; clear hb))
                go_ret
                exact ⟨rfl, VB3.out⟩
      | true =>
        have HAN : Hid ((List.range M.length).any (ahP A.k.toNat N i) = true) := HRA.out.symm
        have htl : 0 < T.length := HRI.out.1 rfl
        have htd : decide (0 < T.length) = true := decide_eq_true htl
        have htI : decide ((0 : Int) < (T.length : Int)) = true := decide_eq_true (by omega)
        have HOW : Hid (decide (i ∈ T) = true) := decide_eq_true ((HTM.out i).2 ⟨hi, (HON.out rfl).2⟩)
        go_wp2_with (first | (go_at_call 21; refine (num16_any _ _).mono ?_; rintro e yn ⟨rfl, hyn⟩; subst yn))
        clear htd htI
        go_loopw [4, 13, 14] (fun _ vo vk wr => ∃ k : Nat, k ≤ T.length ∧ vk = .int .i64 (k : Nat) ∧ vo = .bool (decide (i ∈ T.take k)) ∧ Below w5.heap.size w5 wr) (fun _ _ vk _ => T.length - (Go.Lib.intOf vk).toNat)
        case atStart => exact ⟨0, Nat.zero_le _, rfl, by simp, Below.refl _ _⟩
        case round =>
          obtain ⟨k, hk, rfl, rfl, hbr⟩ := hrel
          have HBr : Hid (Below w5.heap.size w5 wr) := hbr
          clear hbr
          by_cases hlt : k < T.length
          · have hkI : (k : Int) < (T.length : Int) := by omega
            have HLT : Hid (k < T.length) := hlt
            have HSR := HL.out.stay HBr.out
            obtain ⟨g, o, rfl, _, hcell⟩ := HSR.nat hlt
            have HSL : Hid (SR wr (some ⟨g, o, none⟩) (nC T)) := HSR
            obtain ⟨v, hv⟩ : ∃ v, T.getD k 0 = v := ⟨_, rfl⟩
            have hvL : T[k]? = some v := by rw [List.getElem?_eq_getElem hlt, ← hv]; simp [hlt]
            rw [hv] at hcell
            have HTK : Hid (i ∈ T.take (k + 1) ↔ i ∈ T.take k ∨ i = v) := by
              show _ ↔ _
              rw [List.take_add_one, hvL]
              simp
            have HMr : Hid (MO wr ob A M N) := HMW.out.below HBr.out
            clear hv hvL hlt HSR
            have HOO : Hid (∀ b : Bool, decide (i ∈ T.take k) = b → (b || decide ((v : Int) = (i : Int))) = decide (i ∈ T.take (k + 1))) := fun b q => by
              rw [← q]
              by_cases h1 : i ∈ T.take k
              · rw [decide_eq_true h1, decide_eq_true (HTK.out.2 (.inl h1))]; rfl
              · rw [decide_eq_false h1, Bool.false_or]
                by_cases h2 : v = i
                · rw [decide_eq_true (by omega), decide_eq_true (HTK.out.2 (.inr h2.symm))]
                · rw [decide_eq_false (by omega), decide_eq_false (fun q => by
                    rcases HTK.out.1 q with q | q
                    · exact h1 q
                    · exact h2 q.symm)]
            obtain ⟨ob0, hob⟩ : ∃ b, decide (i ∈ T.take k) = b := ⟨_, rfl⟩
            have HOB : Hid ((ob0 || decide ((v : Int) = (i : Int))) = decide (i ∈ T.take (k + 1))) := HOO.out ob0 hob
            rw [hob]
            clear hob HOO
            cases ob0 with
            | true =>
              go_wp2_with fail
              refine r15 HMr.out i hi T HTL.out HTM.out g o lc k HSL.out HLT.out hll _ _ (fun dst _ _ _ _ h => by cases dst <;> exact h) ?_
              rintro a y hy ⟨z100, z101, z102, z103, z104, z105, z106, z107, z108, z109, z110, z111, z112, z113, z114, z115, z116, z117, z118, z119, z120, z121, z122, z123, z124, z125, z126, z127, z128, z129, z130, z131, z132, z133, z134, z135, z136, z137, z138, z139, z140, z141, z142, z143, z144, z145, z146, z147, z148, z149, z150, z151, z152, z153, z154, z155, z156, z157, z158, z159, z160, z161, z162, rfl⟩
              have HY : Hid (Below wr.heap.size wr y) := hy
              clear hy
              go_wp2_with fail
              go_roundw
              case rel => exact ⟨k + 1, HLT.out, by go_num, by first | (rw [← HOB.out]; rfl) | (rw [← HOB.out]; simp), go_on HBr.out HY.out⟩
              case measure => have := HLT.out; simp [Go.Lib.intOf]; omega
            | false =>
              go_wp2_with fail
              refine r15 HMr.out i hi T HTL.out HTM.out g o lc k HSL.out HLT.out hll _ _ (fun dst _ _ _ _ h => by cases dst <;> exact h) ?_
              rintro a y hy ⟨z100, z101, z102, z103, z104, z105, z106, z107, z108, z109, z110, z111, z112, z113, z114, z115, z116, z117, z118, z119, z120, z121, z122, z123, z124, z125, z126, z127, z128, z129, z130, z131, z132, z133, z134, z135, z136, z137, z138, z139, z140, z141, z142, z143, z144, z145, z146, z147, z148, z149, z150, z151, z152, z153, z154, z155, z156, z157, z158, z159, z160, z161, z162, rfl⟩
              have HY : Hid (Below wr.heap.size wr y) := hy
              clear hy
              go_wp2_with fail
              go_roundw
              case rel => exact ⟨k + 1, HLT.out, by go_num, by first | (rw [← HOB.out]; rfl) | (rw [← HOB.out]; simp), go_on HBr.out HY.out⟩
              case measure => have := HLT.out; simp [Go.Lib.intOf]; omega

          · have hkI : ¬ (k : Int) < (T.length : Int) := by omega
            have e1 : T.take k = T := List.take_of_length_le (by omega)
            rw [e1]
            obtain ⟨ow, how⟩ : ∃ b, decide (i ∈ T) = b := ⟨_, rfl⟩
            rw [how]
            have how2 : ow = true := how.symm.trans HOW.out
            subst how2
            clear e1 how
            go_wp2_with fail
            go_loopw [15, 16, 17] (fun va vj _ wz => ∃ j : Nat, j ≤ M.length ∧ vj = .int .i64 (j : Nat) ∧ va = .bool ((List.range j).any (ahP A.k.toNat N i)) ∧ Below w5.heap.size w5 wz) (fun _ vj _ _ => M.length - (Go.Lib.intOf vj).toNat)
            case atStart => exact ⟨0, Nat.zero_le _, rfl, rfl, HBr.out⟩
            case round =>
              clear HBr
              obtain ⟨j, hj, rfl, rfl, hbr⟩ := hrel
              have HBz : Hid (Below w5.heap.size w5 wr) := hbr
              have HMz : Hid (MO wr ob A M N) := HMW.out.below hbr
              clear hbr
              by_cases hlt : j < M.length
              · have hjI : (j : Int) < (M.length : Int) := by omega
                have HLT : Hid (j < M.length) := hlt
                have hxl := HMon.out.pr_lt hi hlt
                obtain ⟨x, hx⟩ : ∃ x, pr A.k.toNat N i j = x := ⟨_, rfl⟩
                rw [hx] at hxl
                obtain ⟨p, hp⟩ : ∃ p, pr A.k.toNat N x x = p := ⟨_, rfl⟩
                obtain ⟨q, hq⟩ : ∃ q, pr A.k.toNat N x i = q := ⟨_, rfl⟩
                have HF : Hid (ahP A.k.toNat N i j = decide (p = x ∧ q = i)) := by show _ = _; unfold ahP; rw [hx, hp, hq]
                have HS : Hid ((List.range (j + 1)).any (ahP A.k.toNat N i) = ((List.range j).any (ahP A.k.toNat N i) || ahP A.k.toNat N i j)) := by show _ = _; rw [List.range_succ, List.any_append]; simp
                have TIJ : Hid (∀ y, MO y ob A M N → Calls Try.prog 36 #[.pointer (some ⟨ob, 0, none⟩), .int .i64 (i : Nat), .int .i64 (j : Nat)] y fun e w' => e = .returned (.int .i64 (x : Nat)) ∧ Below y.heap.size y w') := fun y hy => by
                  have := times16_any hy i j hi hlt
                  rw [hx] at this
                  exact this
                have TXX : Hid (∀ y, MO y ob A M N → Calls Try.prog 36 #[.pointer (some ⟨ob, 0, none⟩), .int .i64 (x : Nat), .int .i64 (x : Nat)] y fun e w' => e = .returned (.int .i64 (p : Nat)) ∧ Below y.heap.size y w') := fun y hy => by
                  have := times16_any hy x x hxl hxl
                  rw [hp] at this
                  exact this
                have TXI : Hid (∀ y, MO y ob A M N → Calls Try.prog 36 #[.pointer (some ⟨ob, 0, none⟩), .int .i64 (x : Nat), .int .i64 (i : Nat)] y fun e w' => e = .returned (.int .i64 (q : Nat)) ∧ Below y.heap.size y w') := fun y hy => by
                  have := times16_any hy x i hxl hi
                  rw [hq] at this
                  exact this
                clear hx hp hq hlt
                cases hA : (List.range j).any (ahP A.k.toNat N i) with
                | true =>
                  have HE : Hid ((List.range (j + 1)).any (ahP A.k.toNat N i) = true) := by show _ = _; rw [HS.out, hA]; rfl
                  clear hA
                  go_wp2_with (first | (go_at_call 34; refine (mlen_any HMz.out).mono ?_; rintro e yn ⟨rfl, hyn⟩; subst yn) | (go_at_call_of 36 ([Value.int .i64 (i : Nat), Value.int .i64 (j : Nat)] : List Value); refine (TIJ.out _ HMz.out).mono ?_; rintro e z1 ⟨rfl, hb⟩; have HBz1 : Hid (Below w5.heap.size w5 z1) := go_on HBz.out hb; have HMz1 : Hid (MO z1 ob A M N) := HMz.out.below hb; clear hb))
                  go_roundw
                  case rel => exact ⟨j + 1, HLT.out, by go_num, by rw [HE.out], HBz1.out⟩
                  case measure => have := HLT.out; simp [Go.Lib.intOf]; omega
                | false =>
                  by_cases c1 : p = x
                  · have c1a : ((p : Int) == (x : Int)) = true := by rw [beq_iff_eq]; omega
                    by_cases c2 : q = i
                    · have c2a : ((q : Int) == (i : Int)) = true := by rw [beq_iff_eq]; omega
                      have HE : Hid ((List.range (j + 1)).any (ahP A.k.toNat N i) = true) := by show _ = _; rw [HS.out, hA, HF.out]; simp [c1, c2]
                      clear hA c1 c2
                      go_wp2_with (first | (go_at_call 34; refine (mlen_any HMz.out).mono ?_; rintro e yn ⟨rfl, hyn⟩; subst yn) | (go_at_call_of 36 ([Value.int .i64 (i : Nat), Value.int .i64 (j : Nat)] : List Value); refine (TIJ.out _ HMz.out).mono ?_; rintro e z1 ⟨rfl, hb⟩; have HBz1 : Hid (Below w5.heap.size w5 z1) := go_on HBz.out hb; have HMz1 : Hid (MO z1 ob A M N) := HMz.out.below hb; clear hb) | (go_at_call_of 36 ([Value.int .i64 (x : Nat), Value.int .i64 (x : Nat)] : List Value); refine (TXX.out _ HMz1.out).mono ?_; rintro e z2 ⟨rfl, hb⟩; have HBz2 : Hid (Below w5.heap.size w5 z2) := go_on HBz1.out hb; have HMz2 : Hid (MO z2 ob A M N) := HMz1.out.below hb; clear hb) | (go_at_call_of 36 ([Value.int .i64 (x : Nat), Value.int .i64 (i : Nat)] : List Value); refine (TXI.out _ HMz2.out).mono ?_; rintro e z3 ⟨rfl, hb⟩; have HBz3 : Hid (Below w5.heap.size w5 z3) := go_on HBz2.out hb; have HMz3 : Hid (MO z3 ob A M N) := HMz2.out.below hb; clear hb))
                      go_roundw
                      case rel => exact ⟨j + 1, HLT.out, by go_num, by rw [HE.out], HBz3.out⟩
                      case measure => have := HLT.out; simp [Go.Lib.intOf]; omega
                    · have c2a : ((q : Int) == (i : Int)) = false := by rw [beq_eq_false_iff_ne]; omega
                      have HE : Hid ((List.range (j + 1)).any (ahP A.k.toNat N i) = false) := by show _ = _; rw [HS.out, hA, HF.out]; simp [c2]
                      clear hA c1 c2
                      go_wp2_with (first | (go_at_call 34; refine (mlen_any HMz.out).mono ?_; rintro e yn ⟨rfl, hyn⟩; subst yn) | (go_at_call_of 36 ([Value.int .i64 (i : Nat), Value.int .i64 (j : Nat)] : List Value); refine (TIJ.out _ HMz.out).mono ?_; rintro e z1 ⟨rfl, hb⟩; have HBz1 : Hid (Below w5.heap.size w5 z1) := go_on HBz.out hb; have HMz1 : Hid (MO z1 ob A M N) := HMz.out.below hb; clear hb) | (go_at_call_of 36 ([Value.int .i64 (x : Nat), Value.int .i64 (x : Nat)] : List Value); refine (TXX.out _ HMz1.out).mono ?_; rintro e z2 ⟨rfl, hb⟩; have HBz2 : Hid (Below w5.heap.size w5 z2) := go_on HBz1.out hb; have HMz2 : Hid (MO z2 ob A M N) := HMz1.out.below hb; clear hb) | (go_at_call_of 36 ([Value.int .i64 (x : Nat), Value.int .i64 (i : Nat)] : List Value); refine (TXI.out _ HMz2.out).mono ?_; rintro e z3 ⟨rfl, hb⟩; have HBz3 : Hid (Below w5.heap.size w5 z3) := go_on HBz2.out hb; have HMz3 : Hid (MO z3 ob A M N) := HMz2.out.below hb; clear hb))
                      go_roundw
                      case rel => exact ⟨j + 1, HLT.out, by go_num, by rw [HE.out], HBz3.out⟩
                      case measure => have := HLT.out; simp [Go.Lib.intOf]; omega
                  · have c1a : ((p : Int) == (x : Int)) = false := by rw [beq_eq_false_iff_ne]; omega
                    have HE : Hid ((List.range (j + 1)).any (ahP A.k.toNat N i) = false) := by show _ = _; rw [HS.out, hA, HF.out]; simp [c1]
                    clear hA c1
                    go_wp2_with (first | (go_at_call 34; refine (mlen_any HMz.out).mono ?_; rintro e yn ⟨rfl, hyn⟩; subst yn) | (go_at_call_of 36 ([Value.int .i64 (i : Nat), Value.int .i64 (j : Nat)] : List Value); refine (TIJ.out _ HMz.out).mono ?_; rintro e z1 ⟨rfl, hb⟩; have HBz1 : Hid (Below w5.heap.size w5 z1) := go_on HBz.out hb; have HMz1 : Hid (MO z1 ob A M N) := HMz.out.below hb; clear hb) | (go_at_call_of 36 ([Value.int .i64 (x : Nat), Value.int .i64 (x : Nat)] : List Value); refine (TXX.out _ HMz1.out).mono ?_; rintro e z2 ⟨rfl, hb⟩; have HBz2 : Hid (Below w5.heap.size w5 z2) := go_on HBz1.out hb; have HMz2 : Hid (MO z2 ob A M N) := HMz1.out.below hb; clear hb))
                    go_roundw
                    case rel => exact ⟨j + 1, HLT.out, by go_num, by rw [HE.out], HBz2.out⟩
                    case measure => have := HLT.out; simp [Go.Lib.intOf]; omega
              · have hjI : ¬ (j : Int) < (M.length : Int) := by omega
                have hjm : j = M.length := by omega
                have e2 : (List.range j).any (ahP A.k.toNat N i) = true := by rw [hjm]; exact HAN.out
                rw [e2]
                clear e2 hjm
                go_wp2_with (first | (go_at_call 34; refine (mlen_any HMz.out).mono ?_; rintro e yn ⟨rfl, hyn⟩; subst yn) | (go_at_call 10; refine (live16_any _).mono ?_; rintro e v3 ⟨rfl, hb⟩; have VB3 : Hid (Below W.heap.size W v3) := go_on (go_on HB.out HBz.out) hb; clear hb))
                go_ret
                exact ⟨rfl, VB3.out⟩

/-! ### The row's step -/
theorem own : ownKnob Try.prog.godebug = none := by kernel_rfl
set_option maxRecDepth 100000 in
theorem lifted (os : Os) (started : os.Started) (H : Type) (enc : TypeId × Value → H) :
    ReturnsInHanded {} Try.checked os 7 .any (Rows.idemRegularSpec.pre6 enc Try.prog Try.f7 Rows.idemRegularRow.domain false) (Rows.idemRegularSpec.post enc Try.prog Try.f7 false true false false) := by
  refine returnsInHanded_of_change_sized (C := Try.checked) own started (by kernel_rfl) Try.func7
    (ChangeSpec.witness6 (enc := enc) (C := Try.checked) false ⟨#[], #[.agg #[.int .i64 0, .slice none 0 0, .slice none 0 0], .int .i64 0], []⟩ 8 (by kernel_rfl) (by kernel_rfl) (by kernel_rfl) (by kernel_rfl)) ?_
  intro W base args ds gs before hval0 hW hcnd hsz0 _
  have hval : ∀ (j : Nat) t v, Try.f7.params[j]? = some t → args[j]? = some v → Value.okWide Try.prog W .any base t v := hval0
  clear hval0
  have hsz : (DataW.weightsEach Try.prog (Try.f7.params.toList ++ Rows.idemRegularSpec.plain.varTypes Try.prog) (ds ++ gs)).all (· ≤ reachBytes) = true := hsz0
  clear hsz0
  have hW' := hW
  obtain ⟨p, q, hA0, hV, rfl, hfz, hnd⟩ := hW
  have hA : DataW.TrodAll enc Try.prog W 0 (fun _ => true) true Try.f7.params.toList args.toList ds p := hA0
  rw [Try.params7] at hA hval hsz
  obtain ⟨v0, vs0, d0, ds0, p0, q0, hargs, rfl, rfl, h0, r0⟩ := trodAll_cons hA
  obtain ⟨v1, vs1, d1, ds1, p1, q1, rfl, rfl, rfl, h1, r1⟩ := trodAll_cons r0
  obtain ⟨rfl, rfl, rfl⟩ := trodAll_nil r1
  obtain rfl : args = #[v0, v1] := by cases args; simp_all
  obtain ⟨rfl, rfl⟩ := trodVars_none hV
  obtain ⟨a0, x0, n0, w0, dk0, dn0, da0, e0, y0, z0⟩ := open_auto (hval 0 26 v0 rfl rfl) h0
  have b0 := auto_bounds hsz (j := 0) rfl (by rw [e0]; rfl) y0 z0
  have g0 : ∀ x ∈ p0, x.block < W.heap.size := fun x hx => hW'.lt x (by simp [hx])
  obtain ⟨a1, rfl, rfl, rfl, w1⟩ := open_int Try.underlying3 (hval 1 3 v1 rfl rfl) h1
  clear hA0
  refine (walk v0 a0 a1 W x0 n0 b0.1 b0.2 (i64_of w1)).mono fun e W' ⟨he, bel⟩ => ?_
  subst he
  exact ⟨_, rfl, _, _, _, [], _, [], hW', trodAll_mk1 (shut_bool Try.underlying4 _), (trodAll_cons_mk (Below.trod Try.laidOut (by kernel_rfl) (of_decide_eq_true (by kernel_rfl)) h0 bel g0) (trodAll_cons_mk (shut_int Try.underlying3 w1) trodAll_mk0)), rfl, bel.frame _, fun h => by cases h⟩

theorem over : Rows.idemRegularRow.holds Try.pinned (OpenSpec.ofChange Rows.idemRegularSpec) :=
  OpenClaim.holds_of_wide 7 Try.f7 rfl rfl rfl rfl rfl rfl rfl ⟨rfl, rfl, rfl, rfl, rfl⟩ rfl rfl rfl rfl rfl (by kernel_rfl) Try.func7 (by kernel_rfl)
    (of_decide_eq_true (by kernel_rfl)) (by unfold Func.isWrapper; first | (rw [if_pos (by decide +kernel)]; kernel_rfl) | (rw [if_neg (by decide +kernel)]; exact ⟨rfl, rfl⟩))
    (fun os started H enc _ => lifted os started H enc)

end Go.Proofs.Ytflclnkaccbfcaa.idemRegular
namespace Go.Proofs.Ytflclnkaccbfcaa
/-- The given statement. -/
theorem idemRegular_holds : Rows.IdemRegularSaid := idemRegular.over
end Go.Proofs.Ytflclnkaccbfcaa
