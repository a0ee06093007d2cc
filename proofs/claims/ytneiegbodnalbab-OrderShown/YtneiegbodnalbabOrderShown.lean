/- Proved: eggboxlaw18.OrderShown answers true at every automaton's data a and all numbers i, j (P18.8): where Build makes a monoid, Context finds just where Leq says no, and Apart just where Same does; the words u, Word(i), v one behind the other are accepted, with Word(j) in the midst they are not, and Apart's words tell the two apart; and the law's own monoid is as the law names it. No condition. -/
import Derived.Test.YtneiegbodnalbabW4
import Derived.Test.YtneiegbodnalbabE26
import Derived.ProofKit
import Derived.OpenShut
import Derived.ShutString
import Derived.ChangeOld
import Derived.SizedLaws
namespace Go.Proofs.Ytneiegbodnalbab.orderShown
open Go Go.ChangeShapes Go.WideShapes Go.ChangeAt Go.RowKit Go.Lib
open Go.ChangeMaps (open_string shut_string)
set_option linter.unusedVariables false
attribute [-instance] List.instBEq instBEqProd

set_option maxHeartbeats 8000000 in
set_option maxRecDepth 100000 in
theorem walk (va : Value) (A : Aut) (a1 : Int) (a2 : Int) (W : World) (ha : AR W va A) (hna : NilOk va) (hma : (A.nx.length + 2) * 8 ≤ 140737488355328) (hma2 : A.ac.length ≤ 140737488355328) (h1 : I64 a1) (h2 : I64 a2) :
    Calls Try.prog 3 #[va, .int .i64 a1, .int .i64 a2] W fun e w' => e = .returned (.bool true) ∧ Below W.heap.size W w' := by
  obtain ⟨an, cn, aa, ca, ea, _, _⟩ := ha.is
  have HAA : Hid (∀ y, Below W.heap.size W y → AR y va A) := fun y hy => ha.stay hy
  subst ea
  have HBU : Hid (∀ y, Below W.heap.size W y → Calls Try.prog 4 #[.agg #[.int .i64 A.k, .slice an A.nx.length cn, .slice aa A.ac.length ca]] y (B18 A y)) := fun y hy => built18_any _ A y (HAA.out y hy) (by omega) (by omega)
  obtain ⟨w0, hw0⟩ : ∃ w0, w0 = W.alloc (.cells #[.int .i64 A.k, .slice an A.nx.length cn, .slice aa A.ac.length ca] 25) := ⟨_, rfl⟩
  have HB0 : Hid (Below W.heap.size W w0) := by show Below _ _ _; rw [hw0]; exact below_new _ _
  have HW0 : Hid (w0 = W.alloc (.cells #[.int .i64 A.k, .slice an A.nx.length cn, .slice aa A.ac.length ca] 25)) := hw0
  clear ha hna hma hma2 hw0
  go_enter Try.func3, Try.ntmps3
  go_wp2_with fail
  rw [← HW0.out]
  refine (HBU.out _ HB0.out).mono ?_
  rintro e w1 (⟨_, rfl, hb⟩ | ⟨ob, M, N, rfl, G, h64, hE, hmo, hb⟩)
  · have HB1 : Hid (Below W.heap.size W w1) := go_on HB0.out hb
    clear hb
    go_wp2_with fail
    refine (live18_any _).mono ?_
    rintro e w2 ⟨rfl, hb⟩
    have HB2 : Hid (Below W.heap.size W w2) := go_on HB1.out hb
    clear hb
    go_wp2_with fail
    go_ret
    exact ⟨rfl, HB2.out⟩
  have HB1 : Hid (Below W.heap.size W w1) := go_on HB0.out hb
  have HM1 : Hid (MO w1 ob A M N) := hmo
  have HMon : Hid (Mon A M N) := hmo.mon
  clear hb hmo G h64 hE
  go_wp2_with fail
  refine Calls.mono (at18_any HM1.out a1 h1) ?_
  rintro e w2 ⟨⟨i, hi, rfl⟩, hb⟩
  have HB2 : Hid (Below W.heap.size W w2) := go_on HB1.out hb
  have HM2 : Hid (MO w2 ob A M N) := HM1.out.below hb
  have HI : Hid (i < M.length) := hi
  clear hi
  clear hb
  go_wp2_with fail
  refine Calls.mono (at18_any HM2.out a2 h2) ?_
  rintro e w3 ⟨⟨j, hj, rfl⟩, hb⟩
  have HB3 : Hid (Below W.heap.size W w3) := go_on HB2.out hb
  have HM3 : Hid (MO w3 ob A M N) := HM2.out.below hb
  have HJ : Hid (j < M.length) := hj
  clear hj
  clear hb
  go_wp2_with fail
  refine Calls.mono (Leq_v HM3.out i j HI.out HJ.out) ?_
  rintro e w4 ⟨rfl, hb⟩
  have HB4 : Hid (Below W.heap.size W w4) := go_on HB3.out hb
  have HM4 : Hid (MO w4 ob A M N) := HM3.out.below hb
  clear hb
  go_wp2_with fail
  refine Calls.mono (Same_v HM4.out i j HI.out HJ.out) ?_
  rintro e w5 ⟨rfl, hb⟩
  have HB5 : Hid (Below W.heap.size W w5) := go_on HB4.out hb
  have HM5 : Hid (MO w5 ob A M N) := HM4.out.below hb
  clear hb
  go_wp2_with fail
  refine Calls.mono (Context_ok HM5.out i j HI.out HJ.out) ?_
  rintro e w6 ⟨L1, hv1, rfl, hb⟩
  have HB6 : Hid (Below W.heap.size W w6) := go_on HB5.out hb
  have HM6 : Hid (MO w6 ob A M N) := HM5.out.below hb
  have HV1 : Hid (AbV A L1) := hv1
  clear hb hv1
  cases hr1 : leO A M N (escB L1) tellE i j with
  | none =>
    have HL : Hid (lqV A M N i j = true) := by show _ = _; rw [← leq_val HMon.out HV1.out HI.out HJ.out]; exact leO_none HMon.out (esc_word HV1.out) HI.out HJ.out hr1
    clear hr1
    have HLE : Hid (∃ b, lqV A M N i j = b) := ⟨_, rfl⟩
    unfold ctV
    go_wp2_with fail
    refine Calls.mono (Apart_ok HM6.out i j HI.out HJ.out) ?_
    rintro e w7 ⟨L2, hv2, rfl, hb⟩
    have HB7 : Hid (Below W.heap.size W w7) := go_on HB6.out hb
    have HM7 : Hid (MO w7 ob A M N) := HM6.out.below hb
    have HV2 : Hid (AbV A L2) := hv2
    clear hb hv2
    cases hr2 : leO A M N (unlB L2) tellU i j with
    | none =>
      have HS : Hid ((lqV A M N i j && lqV A M N j i) = true) := by show _ = _; rw [← same_val HMon.out HV2.out HI.out HJ.out]; exact leO_none HMon.out (unl_word HV2.out) HI.out HJ.out hr2
      clear hr2
      obtain ⟨sm, hsm⟩ : ∃ b, (lqV A M N i j && lqV A M N j i) = b := ⟨_, rfl⟩
      rw [hsm]
      obtain rfl : sm = true := by rw [← hsm]; exact HS.out
      clear hsm
      unfold ctV
      go_wp2_with fail
      refine Calls.mono (mword_ok HM7.out i HI.out) ?_
      rintro e w8 ⟨rfl, hb⟩
      have HB8 : Hid (Below W.heap.size W w8) := go_on HB7.out hb
      have HM8 : Hid (MO w8 ob A M N) := HM7.out.below hb
      clear hb
      go_wp2_with fail
      refine Calls.mono (mword_ok HM8.out j HJ.out) ?_
      rintro e w9 ⟨rfl, hb⟩
      have HB9 : Hid (Below W.heap.size W w9) := go_on HB8.out hb
      have HM9 : Hid (MO w9 ob A M N) := HM8.out.below hb
      clear hb
      obtain ⟨lb, hlb⟩ : ∃ b, lqV A M N i j = b := ⟨_, rfl⟩
      rw [hlb]
      obtain rfl : lb = true := by rw [← hlb]; exact HL.out
      clear hlb
      obtain ⟨si, hsi⟩ : ∃ x, wb (lw A.k.toNat N i) = x := ⟨_, rfl⟩
      obtain ⟨sj, hsj⟩ : ∃ x, wb (lw A.k.toNat N j) = x := ⟨_, rfl⟩
      have hzi : si.size ≤ 512 := by rw [← hsi]; exact (wbs HMon.out HI.out).1
      have hzj : sj.size ≤ 512 := by rw [← hsj]; exact (wbs HMon.out HJ.out).1
      rw [hsi, hsj]
      clear hsi hsj hzi hzj
      go_wp2_with (first | (go_at_call 12; refine (num18_any _ _).mono ?_; rintro e yn ⟨rfl, hyn⟩; subst yn) | (go_at_call 5; refine (live18_any _).mono ?_; rintro e wv ⟨rfl, hb⟩; have HBV : Hid (Below W.heap.size W wv) := go_on HB9.out hb; clear hb))
      go_ret
      exact ⟨rfl, HBV.out⟩
    | some pq2 =>
      obtain ⟨p2, q2⟩ := pq2
      obtain ⟨ha2, hp2, hq2, ht2⟩ := leO_some hr2
      have HS : Hid ((lqV A M N i j && lqV A M N j i) = false) := by show _ = _; rw [← same_val HMon.out HV2.out HI.out HJ.out, ha2]; rfl
      have HP2 : Hid (p2 < M.length ∧ q2 < M.length) := ⟨hp2, hq2⟩
      have HT2 : Hid (tlB A N tellU p2 i j q2 = true) := ht2
      clear hr2 ha2 hp2 hq2 ht2
      obtain ⟨sm, hsm⟩ : ∃ b, (lqV A M N i j && lqV A M N j i) = b := ⟨_, rfl⟩
      rw [hsm]
      obtain rfl : sm = false := by rw [← hsm]; exact HS.out
      clear hsm
      unfold ctV
      go_wp2_with fail
      refine Calls.mono (mword_ok HM7.out i HI.out) ?_
      rintro e w8 ⟨rfl, hb⟩
      have HB8 : Hid (Below W.heap.size W w8) := go_on HB7.out hb
      have HM8 : Hid (MO w8 ob A M N) := HM7.out.below hb
      clear hb
      go_wp2_with fail
      refine Calls.mono (mword_ok HM8.out j HJ.out) ?_
      rintro e w9 ⟨rfl, hb⟩
      have HB9 : Hid (Below W.heap.size W w9) := go_on HB8.out hb
      have HM9 : Hid (MO w9 ob A M N) := HM8.out.below hb
      clear hb
      obtain ⟨lb, hlb⟩ : ∃ b, lqV A M N i j = b := ⟨_, rfl⟩
      rw [hlb]
      obtain rfl : lb = true := by rw [← hlb]; exact HL.out
      clear hlb
      obtain ⟨si, hsi⟩ : ∃ x, wb (lw A.k.toNat N i) = x := ⟨_, rfl⟩
      obtain ⟨sj, hsj⟩ : ∃ x, wb (lw A.k.toNat N j) = x := ⟨_, rfl⟩
      have hzi : si.size ≤ 512 := by rw [← hsi]; exact (wbs HMon.out HI.out).1
      have hzj : sj.size ≤ 512 := by rw [← hsj]; exact (wbs HMon.out HJ.out).1
      obtain ⟨su2, hsu2⟩ : ∃ x, wb (lw A.k.toNat N p2) = x := ⟨_, rfl⟩
      obtain ⟨sv2, hsv2⟩ : ∃ x, wb (lw A.k.toNat N q2) = x := ⟨_, rfl⟩
      have hzu2 : su2.size ≤ 512 := by rw [← hsu2]; exact (wbs HMon.out HP2.out.1).1
      have hzv2 : sv2.size ≤ 512 := by rw [← hsv2]; exact (wbs HMon.out HP2.out.2).1
      obtain ⟨ba2, hba2⟩ : ∃ b, aN A (stO A N (Go.Proofs.Ytneiegbodnalbab.pr A.k.toNat N (Go.Proofs.Ytneiegbodnalbab.pr A.k.toNat N p2 i) q2)) = b := ⟨_, rfl⟩
      obtain ⟨bb2, hbb2⟩ : ∃ b, aN A (stO A N (Go.Proofs.Ytneiegbodnalbab.pr A.k.toNat N (Go.Proofs.Ytneiegbodnalbab.pr A.k.toNat N p2 j) q2)) = b := ⟨_, rfl⟩
      have hT2 : tellU ba2 bb2 = true := by have q := HT2.out; unfold tlB at q; rwa [hba2, hbb2] at q
      have HINi2 : Hid (∀ y, MO y ob A M N → Calls Try.prog 13 #[.pointer (some ⟨ob, 0, none⟩), .string (su2 ++ si ++ sv2)] y fun e w' => e = .returned (.bool ba2) ∧ Below y.heap.size y w') := fun y hy => by
        have q := in3 hy HP2.out.1 HI.out HP2.out.2
        rwa [hsu2, hsi, hsv2, hba2] at q
      have hzi2a : su2.size + si.size ≤ 9223372036854775807 := by omega
      have hzi2b : ¬ 9223372036854775807 < su2.size + si.size := by omega
      have hzi2c : su2.size + si.size + sv2.size ≤ 9223372036854775807 := by omega
      have hzi2d : ¬ 9223372036854775807 < su2.size + si.size + sv2.size := by omega
      have HINj2 : Hid (∀ y, MO y ob A M N → Calls Try.prog 13 #[.pointer (some ⟨ob, 0, none⟩), .string (su2 ++ sj ++ sv2)] y fun e w' => e = .returned (.bool bb2) ∧ Below y.heap.size y w') := fun y hy => by
        have q := in3 hy HP2.out.1 HJ.out HP2.out.2
        rwa [hsu2, hsj, hsv2, hbb2] at q
      have hzj2a : su2.size + sj.size ≤ 9223372036854775807 := by omega
      have hzj2b : ¬ 9223372036854775807 < su2.size + sj.size := by omega
      have hzj2c : su2.size + sj.size + sv2.size ≤ 9223372036854775807 := by omega
      have hzj2d : ¬ 9223372036854775807 < su2.size + sj.size + sv2.size := by omega
      rw [hsi, hsj]
      rw [hsu2, hsv2]
      clear hsi hsj hzi hzj hsu2 hsv2 hzu2 hzv2 hba2 hbb2
      obtain rfl : bb2 = !ba2 := by cases ba2 <;> cases bb2 <;> simp [tellU] at hT2 <;> rfl
      cases ba2
      all_goals
        go_wp2_with (first | (go_at_call 12; refine (num18_any _ _).mono ?_; rintro e yn ⟨rfl, hyn⟩; subst yn) | (go_at_call_of 13 ([Value.string (su2 ++ si ++ sv2)] : List Value); refine (HINi2.out _ HM9.out).mono ?_; rintro e w10 ⟨rfl, hb⟩; have HB10 : Hid (Below W.heap.size W w10) := go_on HB9.out hb; have HM10 : Hid (MO w10 ob A M N) := HM9.out.below hb; clear hb) | (go_at_call_of 13 ([Value.string (su2 ++ sj ++ sv2)] : List Value); refine (HINj2.out _ HM10.out).mono ?_; rintro e w11 ⟨rfl, hb⟩; have HB11 : Hid (Below W.heap.size W w11) := go_on HB10.out hb; have HM11 : Hid (MO w11 ob A M N) := HM10.out.below hb; clear hb) | (go_at_call 5; refine (live18_any _).mono ?_; rintro e wv ⟨rfl, hb⟩; have HBV : Hid (Below W.heap.size W wv) := go_on HB11.out hb; clear hb))
        go_ret
        exact ⟨rfl, HBV.out⟩
  | some pq1 =>
    obtain ⟨p1, q1⟩ := pq1
    obtain ⟨ha1, hp1, hq1, ht1⟩ := leO_some hr1
    have HL : Hid (lqV A M N i j = false) := by show _ = _; rw [← leq_val HMon.out HV1.out HI.out HJ.out, ha1]; rfl
    have HP1 : Hid (p1 < M.length ∧ q1 < M.length) := ⟨hp1, hq1⟩
    have HT1 : Hid (tlB A N tellE p1 i j q1 = true) := ht1
    clear hr1 ha1 hp1 hq1 ht1
    unfold ctV
    go_wp2_with fail
    refine Calls.mono (Apart_ok HM6.out i j HI.out HJ.out) ?_
    rintro e w7 ⟨L2, hv2, rfl, hb⟩
    have HB7 : Hid (Below W.heap.size W w7) := go_on HB6.out hb
    have HM7 : Hid (MO w7 ob A M N) := HM6.out.below hb
    have HV2 : Hid (AbV A L2) := hv2
    clear hb hv2
    cases hr2 : leO A M N (unlB L2) tellU i j with
    | none =>
      have HS : Hid ((lqV A M N i j && lqV A M N j i) = true) := by show _ = _; rw [← same_val HMon.out HV2.out HI.out HJ.out]; exact leO_none HMon.out (unl_word HV2.out) HI.out HJ.out hr2
      clear hr2
      obtain ⟨sm, hsm⟩ : ∃ b, (lqV A M N i j && lqV A M N j i) = b := ⟨_, rfl⟩
      rw [hsm]
      obtain rfl : sm = true := by rw [← hsm]; exact HS.out
      clear hsm
      unfold ctV
      go_wp2_with fail
      refine Calls.mono (mword_ok HM7.out i HI.out) ?_
      rintro e w8 ⟨rfl, hb⟩
      have HB8 : Hid (Below W.heap.size W w8) := go_on HB7.out hb
      have HM8 : Hid (MO w8 ob A M N) := HM7.out.below hb
      clear hb
      go_wp2_with fail
      refine Calls.mono (mword_ok HM8.out j HJ.out) ?_
      rintro e w9 ⟨rfl, hb⟩
      have HB9 : Hid (Below W.heap.size W w9) := go_on HB8.out hb
      have HM9 : Hid (MO w9 ob A M N) := HM8.out.below hb
      clear hb
      obtain ⟨lb, hlb⟩ : ∃ b, lqV A M N i j = b := ⟨_, rfl⟩
      rw [hlb]
      obtain rfl : lb = false := by rw [← hlb]; exact HL.out
      clear hlb
      obtain ⟨si, hsi⟩ : ∃ x, wb (lw A.k.toNat N i) = x := ⟨_, rfl⟩
      obtain ⟨sj, hsj⟩ : ∃ x, wb (lw A.k.toNat N j) = x := ⟨_, rfl⟩
      have hzi : si.size ≤ 512 := by rw [← hsi]; exact (wbs HMon.out HI.out).1
      have hzj : sj.size ≤ 512 := by rw [← hsj]; exact (wbs HMon.out HJ.out).1
      obtain ⟨su1, hsu1⟩ : ∃ x, wb (lw A.k.toNat N p1) = x := ⟨_, rfl⟩
      obtain ⟨sv1, hsv1⟩ : ∃ x, wb (lw A.k.toNat N q1) = x := ⟨_, rfl⟩
      have hzu1 : su1.size ≤ 512 := by rw [← hsu1]; exact (wbs HMon.out HP1.out.1).1
      have hzv1 : sv1.size ≤ 512 := by rw [← hsv1]; exact (wbs HMon.out HP1.out.2).1
      obtain ⟨ba1, hba1⟩ : ∃ b, aN A (stO A N (Go.Proofs.Ytneiegbodnalbab.pr A.k.toNat N (Go.Proofs.Ytneiegbodnalbab.pr A.k.toNat N p1 i) q1)) = b := ⟨_, rfl⟩
      obtain ⟨bb1, hbb1⟩ : ∃ b, aN A (stO A N (Go.Proofs.Ytneiegbodnalbab.pr A.k.toNat N (Go.Proofs.Ytneiegbodnalbab.pr A.k.toNat N p1 j) q1)) = b := ⟨_, rfl⟩
      have hT1 : tellE ba1 bb1 = true := by have q := HT1.out; unfold tlB at q; rwa [hba1, hbb1] at q
      have HINi1 : Hid (∀ y, MO y ob A M N → Calls Try.prog 13 #[.pointer (some ⟨ob, 0, none⟩), .string (su1 ++ si ++ sv1)] y fun e w' => e = .returned (.bool ba1) ∧ Below y.heap.size y w') := fun y hy => by
        have q := in3 hy HP1.out.1 HI.out HP1.out.2
        rwa [hsu1, hsi, hsv1, hba1] at q
      have hzi1a : su1.size + si.size ≤ 9223372036854775807 := by omega
      have hzi1b : ¬ 9223372036854775807 < su1.size + si.size := by omega
      have hzi1c : su1.size + si.size + sv1.size ≤ 9223372036854775807 := by omega
      have hzi1d : ¬ 9223372036854775807 < su1.size + si.size + sv1.size := by omega
      have HINj1 : Hid (∀ y, MO y ob A M N → Calls Try.prog 13 #[.pointer (some ⟨ob, 0, none⟩), .string (su1 ++ sj ++ sv1)] y fun e w' => e = .returned (.bool bb1) ∧ Below y.heap.size y w') := fun y hy => by
        have q := in3 hy HP1.out.1 HJ.out HP1.out.2
        rwa [hsu1, hsj, hsv1, hbb1] at q
      have hzj1a : su1.size + sj.size ≤ 9223372036854775807 := by omega
      have hzj1b : ¬ 9223372036854775807 < su1.size + sj.size := by omega
      have hzj1c : su1.size + sj.size + sv1.size ≤ 9223372036854775807 := by omega
      have hzj1d : ¬ 9223372036854775807 < su1.size + sj.size + sv1.size := by omega
      rw [hsi, hsj]
      rw [hsu1, hsv1]
      clear hsi hsj hzi hzj hsu1 hsv1 hzu1 hzv1 hba1 hbb1
      obtain ⟨rfl, rfl⟩ : ba1 = true ∧ bb1 = false := by cases ba1 <;> cases bb1 <;> simp [tellE] at hT1 <;> exact ⟨rfl, rfl⟩
      go_wp2_with (first | (go_at_call 12; refine (num18_any _ _).mono ?_; rintro e yn ⟨rfl, hyn⟩; subst yn) | (go_at_call_of 13 ([Value.string (su1 ++ si ++ sv1)] : List Value); refine (HINi1.out _ HM9.out).mono ?_; rintro e w10 ⟨rfl, hb⟩; have HB10 : Hid (Below W.heap.size W w10) := go_on HB9.out hb; have HM10 : Hid (MO w10 ob A M N) := HM9.out.below hb; clear hb) | (go_at_call_of 13 ([Value.string (su1 ++ sj ++ sv1)] : List Value); refine (HINj1.out _ HM10.out).mono ?_; rintro e w11 ⟨rfl, hb⟩; have HB11 : Hid (Below W.heap.size W w11) := go_on HB10.out hb; have HM11 : Hid (MO w11 ob A M N) := HM10.out.below hb; clear hb) | (go_at_call 5; refine (live18_any _).mono ?_; rintro e wv ⟨rfl, hb⟩; have HBV : Hid (Below W.heap.size W wv) := go_on HB11.out hb; clear hb))
      go_ret
      exact ⟨rfl, HBV.out⟩
    | some pq2 =>
      obtain ⟨p2, q2⟩ := pq2
      obtain ⟨ha2, hp2, hq2, ht2⟩ := leO_some hr2
      have HS : Hid ((lqV A M N i j && lqV A M N j i) = false) := by show _ = _; rw [← same_val HMon.out HV2.out HI.out HJ.out, ha2]; rfl
      have HP2 : Hid (p2 < M.length ∧ q2 < M.length) := ⟨hp2, hq2⟩
      have HT2 : Hid (tlB A N tellU p2 i j q2 = true) := ht2
      clear hr2 ha2 hp2 hq2 ht2
      obtain ⟨sm, hsm⟩ : ∃ b, (lqV A M N i j && lqV A M N j i) = b := ⟨_, rfl⟩
      rw [hsm]
      obtain rfl : sm = false := by rw [← hsm]; exact HS.out
      clear hsm
      unfold ctV
      go_wp2_with fail
      refine Calls.mono (mword_ok HM7.out i HI.out) ?_
      rintro e w8 ⟨rfl, hb⟩
      have HB8 : Hid (Below W.heap.size W w8) := go_on HB7.out hb
      have HM8 : Hid (MO w8 ob A M N) := HM7.out.below hb
      clear hb
      go_wp2_with fail
      refine Calls.mono (mword_ok HM8.out j HJ.out) ?_
      rintro e w9 ⟨rfl, hb⟩
      have HB9 : Hid (Below W.heap.size W w9) := go_on HB8.out hb
      have HM9 : Hid (MO w9 ob A M N) := HM8.out.below hb
      clear hb
      obtain ⟨lb, hlb⟩ : ∃ b, lqV A M N i j = b := ⟨_, rfl⟩
      rw [hlb]
      obtain rfl : lb = false := by rw [← hlb]; exact HL.out
      clear hlb
      obtain ⟨si, hsi⟩ : ∃ x, wb (lw A.k.toNat N i) = x := ⟨_, rfl⟩
      obtain ⟨sj, hsj⟩ : ∃ x, wb (lw A.k.toNat N j) = x := ⟨_, rfl⟩
      have hzi : si.size ≤ 512 := by rw [← hsi]; exact (wbs HMon.out HI.out).1
      have hzj : sj.size ≤ 512 := by rw [← hsj]; exact (wbs HMon.out HJ.out).1
      obtain ⟨su1, hsu1⟩ : ∃ x, wb (lw A.k.toNat N p1) = x := ⟨_, rfl⟩
      obtain ⟨sv1, hsv1⟩ : ∃ x, wb (lw A.k.toNat N q1) = x := ⟨_, rfl⟩
      have hzu1 : su1.size ≤ 512 := by rw [← hsu1]; exact (wbs HMon.out HP1.out.1).1
      have hzv1 : sv1.size ≤ 512 := by rw [← hsv1]; exact (wbs HMon.out HP1.out.2).1
      obtain ⟨ba1, hba1⟩ : ∃ b, aN A (stO A N (Go.Proofs.Ytneiegbodnalbab.pr A.k.toNat N (Go.Proofs.Ytneiegbodnalbab.pr A.k.toNat N p1 i) q1)) = b := ⟨_, rfl⟩
      obtain ⟨bb1, hbb1⟩ : ∃ b, aN A (stO A N (Go.Proofs.Ytneiegbodnalbab.pr A.k.toNat N (Go.Proofs.Ytneiegbodnalbab.pr A.k.toNat N p1 j) q1)) = b := ⟨_, rfl⟩
      have hT1 : tellE ba1 bb1 = true := by have q := HT1.out; unfold tlB at q; rwa [hba1, hbb1] at q
      have HINi1 : Hid (∀ y, MO y ob A M N → Calls Try.prog 13 #[.pointer (some ⟨ob, 0, none⟩), .string (su1 ++ si ++ sv1)] y fun e w' => e = .returned (.bool ba1) ∧ Below y.heap.size y w') := fun y hy => by
        have q := in3 hy HP1.out.1 HI.out HP1.out.2
        rwa [hsu1, hsi, hsv1, hba1] at q
      have hzi1a : su1.size + si.size ≤ 9223372036854775807 := by omega
      have hzi1b : ¬ 9223372036854775807 < su1.size + si.size := by omega
      have hzi1c : su1.size + si.size + sv1.size ≤ 9223372036854775807 := by omega
      have hzi1d : ¬ 9223372036854775807 < su1.size + si.size + sv1.size := by omega
      have HINj1 : Hid (∀ y, MO y ob A M N → Calls Try.prog 13 #[.pointer (some ⟨ob, 0, none⟩), .string (su1 ++ sj ++ sv1)] y fun e w' => e = .returned (.bool bb1) ∧ Below y.heap.size y w') := fun y hy => by
        have q := in3 hy HP1.out.1 HJ.out HP1.out.2
        rwa [hsu1, hsj, hsv1, hbb1] at q
      have hzj1a : su1.size + sj.size ≤ 9223372036854775807 := by omega
      have hzj1b : ¬ 9223372036854775807 < su1.size + sj.size := by omega
      have hzj1c : su1.size + sj.size + sv1.size ≤ 9223372036854775807 := by omega
      have hzj1d : ¬ 9223372036854775807 < su1.size + sj.size + sv1.size := by omega
      obtain ⟨su2, hsu2⟩ : ∃ x, wb (lw A.k.toNat N p2) = x := ⟨_, rfl⟩
      obtain ⟨sv2, hsv2⟩ : ∃ x, wb (lw A.k.toNat N q2) = x := ⟨_, rfl⟩
      have hzu2 : su2.size ≤ 512 := by rw [← hsu2]; exact (wbs HMon.out HP2.out.1).1
      have hzv2 : sv2.size ≤ 512 := by rw [← hsv2]; exact (wbs HMon.out HP2.out.2).1
      obtain ⟨ba2, hba2⟩ : ∃ b, aN A (stO A N (Go.Proofs.Ytneiegbodnalbab.pr A.k.toNat N (Go.Proofs.Ytneiegbodnalbab.pr A.k.toNat N p2 i) q2)) = b := ⟨_, rfl⟩
      obtain ⟨bb2, hbb2⟩ : ∃ b, aN A (stO A N (Go.Proofs.Ytneiegbodnalbab.pr A.k.toNat N (Go.Proofs.Ytneiegbodnalbab.pr A.k.toNat N p2 j) q2)) = b := ⟨_, rfl⟩
      have hT2 : tellU ba2 bb2 = true := by have q := HT2.out; unfold tlB at q; rwa [hba2, hbb2] at q
      have HINi2 : Hid (∀ y, MO y ob A M N → Calls Try.prog 13 #[.pointer (some ⟨ob, 0, none⟩), .string (su2 ++ si ++ sv2)] y fun e w' => e = .returned (.bool ba2) ∧ Below y.heap.size y w') := fun y hy => by
        have q := in3 hy HP2.out.1 HI.out HP2.out.2
        rwa [hsu2, hsi, hsv2, hba2] at q
      have hzi2a : su2.size + si.size ≤ 9223372036854775807 := by omega
      have hzi2b : ¬ 9223372036854775807 < su2.size + si.size := by omega
      have hzi2c : su2.size + si.size + sv2.size ≤ 9223372036854775807 := by omega
      have hzi2d : ¬ 9223372036854775807 < su2.size + si.size + sv2.size := by omega
      have HINj2 : Hid (∀ y, MO y ob A M N → Calls Try.prog 13 #[.pointer (some ⟨ob, 0, none⟩), .string (su2 ++ sj ++ sv2)] y fun e w' => e = .returned (.bool bb2) ∧ Below y.heap.size y w') := fun y hy => by
        have q := in3 hy HP2.out.1 HJ.out HP2.out.2
        rwa [hsu2, hsj, hsv2, hbb2] at q
      have hzj2a : su2.size + sj.size ≤ 9223372036854775807 := by omega
      have hzj2b : ¬ 9223372036854775807 < su2.size + sj.size := by omega
      have hzj2c : su2.size + sj.size + sv2.size ≤ 9223372036854775807 := by omega
      have hzj2d : ¬ 9223372036854775807 < su2.size + sj.size + sv2.size := by omega
      rw [hsi, hsj]
      rw [hsu1, hsv1]
      rw [hsu2, hsv2]
      clear hsi hsj hzi hzj hsu1 hsv1 hzu1 hzv1 hba1 hbb1 hsu2 hsv2 hzu2 hzv2 hba2 hbb2
      obtain ⟨rfl, rfl⟩ : ba1 = true ∧ bb1 = false := by cases ba1 <;> cases bb1 <;> simp [tellE] at hT1 <;> exact ⟨rfl, rfl⟩
      obtain rfl : bb2 = !ba2 := by cases ba2 <;> cases bb2 <;> simp [tellU] at hT2 <;> rfl
      cases ba2
      all_goals
        go_wp2_with (first | (go_at_call 12; refine (num18_any _ _).mono ?_; rintro e yn ⟨rfl, hyn⟩; subst yn) | (go_at_call_of 13 ([Value.string (su1 ++ si ++ sv1)] : List Value); refine (HINi1.out _ HM9.out).mono ?_; rintro e w10 ⟨rfl, hb⟩; have HB10 : Hid (Below W.heap.size W w10) := go_on HB9.out hb; have HM10 : Hid (MO w10 ob A M N) := HM9.out.below hb; clear hb) | (go_at_call_of 13 ([Value.string (su1 ++ sj ++ sv1)] : List Value); refine (HINj1.out _ HM10.out).mono ?_; rintro e w11 ⟨rfl, hb⟩; have HB11 : Hid (Below W.heap.size W w11) := go_on HB10.out hb; have HM11 : Hid (MO w11 ob A M N) := HM10.out.below hb; clear hb) | (go_at_call_of 13 ([Value.string (su2 ++ si ++ sv2)] : List Value); refine (HINi2.out _ HM11.out).mono ?_; rintro e w12 ⟨rfl, hb⟩; have HB12 : Hid (Below W.heap.size W w12) := go_on HB11.out hb; have HM12 : Hid (MO w12 ob A M N) := HM11.out.below hb; clear hb) | (go_at_call_of 13 ([Value.string (su2 ++ sj ++ sv2)] : List Value); refine (HINj2.out _ HM12.out).mono ?_; rintro e w13 ⟨rfl, hb⟩; have HB13 : Hid (Below W.heap.size W w13) := go_on HB12.out hb; have HM13 : Hid (MO w13 ob A M N) := HM12.out.below hb; clear hb) | (go_at_call 5; refine (live18_any _).mono ?_; rintro e wv ⟨rfl, hb⟩; have HBV : Hid (Below W.heap.size W wv) := go_on HB13.out hb; clear hb))
        go_ret
        exact ⟨rfl, HBV.out⟩


/-! ### The row's step -/
theorem own : ownKnob Try.prog.godebug = none := by kernel_rfl
set_option maxRecDepth 100000 in
theorem lifted (os : Os) (started : os.Started) (H : Type) (enc : TypeId × Value → H) :
    ReturnsInHanded {} Try.checked os 3 .any (Rows.orderShownSpec.pre6 enc Try.prog Try.f3 Rows.orderShownRow.domain false) (Rows.orderShownSpec.post enc Try.prog Try.f3 false true false false) := by
  refine returnsInHanded_of_change_sized (C := Try.checked) own started (by kernel_rfl) Try.func3
    (ChangeSpec.witness6 (enc := enc) (C := Try.checked) false ⟨#[], #[.agg #[.int .i64 0, .slice none 0 0, .slice none 0 0], .int .i64 0, .int .i64 0], []⟩ 8 (by kernel_rfl) (by kernel_rfl) (by kernel_rfl) (by kernel_rfl)) ?_
  intro W base args ds gs before hval0 hW hcnd hsz0 _
  have hval : ∀ (j : Nat) t v, Try.f3.params[j]? = some t → args[j]? = some v → Value.okWide Try.prog W .any base t v := hval0
  clear hval0
  have hsz : (DataW.weightsEach Try.prog (Try.f3.params.toList ++ Rows.orderShownSpec.plain.varTypes Try.prog) (ds ++ gs)).all (· ≤ reachBytes) = true := hsz0
  clear hsz0
  have hW' := hW
  obtain ⟨p, q, hA0, hV, rfl, hfz, hnd⟩ := hW
  have hA : DataW.TrodAll enc Try.prog W 0 (fun _ => true) true Try.f3.params.toList args.toList ds p := hA0
  rw [Try.params3] at hA hval hsz
  obtain ⟨v0, vs0, d0, ds0, p0, q0, hargs, rfl, rfl, h0, r0⟩ := trodAll_cons hA
  obtain ⟨v1, vs1, d1, ds1, p1, q1, rfl, rfl, rfl, h1, r1⟩ := trodAll_cons r0
  obtain ⟨v2, vs2, d2, ds2, p2, q2, rfl, rfl, rfl, h2, r2⟩ := trodAll_cons r1
  obtain ⟨rfl, rfl, rfl⟩ := trodAll_nil r2
  obtain rfl : args = #[v0, v1, v2] := by cases args; simp_all
  obtain ⟨rfl, rfl⟩ := trodVars_none hV
  obtain ⟨a0, x0, n0, w0, dk0, dn0, da0, e0, y0, z0⟩ := open_auto (hval 0 25 v0 rfl rfl) h0
  have b0 := auto_bounds hsz (j := 0) rfl (by rw [e0]; rfl) y0 z0
  have g0 : ∀ x ∈ p0, x.block < W.heap.size := fun x hx => hW'.lt x (by simp [hx])
  obtain ⟨a1, rfl, rfl, rfl, w1⟩ := open_int Try.underlying3 (hval 1 3 v1 rfl rfl) h1
  obtain ⟨a2, rfl, rfl, rfl, w2⟩ := open_int Try.underlying3 (hval 2 3 v2 rfl rfl) h2
  clear hA0
  refine (walk v0 a0 a1 a2 W x0 n0 b0.1 b0.2 (i64_of w1) (i64_of w2)).mono fun e W' ⟨he, bel⟩ => ?_
  subst he
  exact ⟨_, rfl, _, _, _, [], _, [], hW', trodAll_mk1 (shut_bool Try.underlying4 _), (trodAll_cons_mk (Below.trod Try.laidOut (by kernel_rfl) (of_decide_eq_true (by kernel_rfl)) h0 bel g0) (trodAll_cons_mk (shut_int Try.underlying3 w1) (trodAll_cons_mk (shut_int Try.underlying3 w2) trodAll_mk0))), rfl, bel.frame _, fun h => by cases h⟩

theorem over : Rows.orderShownRow.holds Try.pinned (OpenSpec.ofChange Rows.orderShownSpec) :=
  OpenClaim.holds_of_wide 3 Try.f3 rfl rfl rfl rfl rfl rfl rfl ⟨rfl, rfl, rfl, rfl, rfl⟩ rfl rfl rfl rfl rfl (by kernel_rfl) Try.func3 (by kernel_rfl)
    (of_decide_eq_true (by kernel_rfl)) (by unfold Func.isWrapper; first | (rw [if_pos (by decide +kernel)]; kernel_rfl) | (rw [if_neg (by decide +kernel)]; exact ⟨rfl, rfl⟩))
    (fun os started H enc _ => lifted os started H enc)

end Go.Proofs.Ytneiegbodnalbab.orderShown
namespace Go.Proofs.Ytneiegbodnalbab
/-- The given statement. -/
theorem orderShown_holds : Rows.OrderShownSaid := orderShown.over
end Go.Proofs.Ytneiegbodnalbab
