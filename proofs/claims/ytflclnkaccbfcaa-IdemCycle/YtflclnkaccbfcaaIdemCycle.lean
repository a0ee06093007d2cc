/- Proved: eggboxlaw16.IdemCycle answers true at every automaton's data a and every number i (P16.5): where Build makes a monoid, the powers of an element are unlike up to the circle's end and then come back to the index, just one of them (the power 0 only where the index is 0) is idempotent, and it is Omega; Exponent is a multiple of the period and no less than the index, and that power is Omega; and the law's own monoid is as the law names it. No condition. -/
import Derived.Test.YtflclnkaccbfcaaW4
import Derived.Test.YtflclnkaccbfcaaW5
import Derived.Test.YtflclnkaccbfcaaW6
import Derived.Test.YtflclnkaccbfcaaE26
import Derived.Test.YtflclnkaccbfcaaW2
import Derived.ProofKit
import Derived.OpenShut
import Derived.ShutString
import Derived.ChangeOld
import Derived.SizedLaws
namespace Go.Proofs.Ytflclnkaccbfcaa.idemCycle
open Go Go.ChangeShapes Go.WideShapes Go.ChangeAt Go.RowKit Go.Lib
open Go.ChangeMaps (open_string shut_string)
set_option linter.unusedVariables false
attribute [-instance] List.instBEq instBEqProd

set_option maxHeartbeats 8000000 in
set_option maxRecDepth 100000 in
theorem walk (va : Value) (A : Aut) (a1 : Int) (W : World) (ha : AR W va A) (hna : NilOk va) (hma : (A.nx.length + 2) * 8 ≤ 140737488355328) (hma2 : A.ac.length ≤ 140737488355328) (h1 : I64 a1) :
    Calls Try.prog 6 #[va, .int .i64 a1] W fun e w' => e = .returned (.bool true) ∧ Below W.heap.size W w' := by
  obtain ⟨an, cn, aa, ca, ea, _, _⟩ := ha.is
  have HAA : Hid (∀ y, Below W.heap.size W y → AR y va A) := fun y hy => ha.stay hy
  subst ea
  have HBD : Hid (∀ y, Below W.heap.size W y → Calls Try.prog 33 #[.agg #[.int .i64 A.k, .slice an A.nx.length cn, .slice aa A.ac.length ca]] y (BdA A y)) := fun y hy => build_all _ A y (HAA.out y hy) (by omega) (by omega)
  obtain ⟨w0, hw0⟩ : ∃ w0, w0 = W.alloc (.cells #[.int .i64 A.k, .slice an A.nx.length cn, .slice aa A.ac.length ca] 26) := ⟨_, rfl⟩
  have HB0 : Hid (Below W.heap.size W w0) := by show Below _ _ _; rw [hw0]; exact below_new _ _
  have HW0 : Hid (w0 = W.alloc (.cells #[.int .i64 A.k, .slice an A.nx.length cn, .slice aa A.ac.length ca] 26)) := hw0
  clear ha hna hma hma2 hw0
  go_enter Try.func6, Try.ntmps6
  go_wp2_with fail
  rw [← HW0.out]
  refine (HBD.out _ HB0.out).mono ?_
  rintro e w1 (⟨hne, rfl, hb⟩ | ⟨ob, M, N, rfl, G, h64, hE, hmo, hb⟩)
  · have HB1 : Hid (Below W.heap.size W w1) := go_on HB0.out hb
    obtain ⟨E, hEE⟩ : ∃ E, bdE A = E := ⟨_, rfl⟩
    rw [hEE] at hne ⊢
    have hq0 : (E != 0) = true := by rw [bne_iff_ne]; exact hne
    have hqd : decide (E = 0) = false := decide_eq_false hne
    clear hb hEE
    go_wp2_with (first | (go_at_call 21; refine (num16_any _ _).mono ?_; rintro e yn ⟨rfl, hyn⟩; subst yn) | (go_at_call 10; refine (live16_any _).mono ?_; rintro e w2 ⟨rfl, hb2⟩; have HB2 : Hid (Below W.heap.size W w2) := go_on HB1.out hb2; clear hb2))
    go_ret
    exact ⟨rfl, HB2.out⟩
  · have HB1 : Hid (Below W.heap.size W w1) := go_on HB0.out hb
    have HM1 : Hid (MO w1 ob A M N) := hmo
    have HMon : Hid (Mon A M N) := mon_of G h64 hE
    have hnl := HMon.out.pos
    have hn5 := HMon.out.most
    have hn1 : ¬ (M.length : Int) < 1 := by omega
    have hn1d : decide ((M.length : Int) < 1) = false := decide_eq_false hn1
    have heq := eq_Mnil ⟨ob, 0, none⟩
    clear hb hmo G h64 hE
    go_wp2_with (first | (go_at_call 21; refine (num16_any _ _).mono ?_; rintro e yn ⟨rfl, hyn⟩; subst yn) | (go_at_call 34; refine (mlen_any HM1.out).mono ?_; rintro e yn ⟨rfl, hyn⟩; subst yn))
    clear heq hn1 hn1d
    have HQ1 : Hid (Below w1.heap.size w1 w1) := Below.refl _ _
    refine (at16_any HM1.out a1 h1).mono ?_
    rintro e w2 ⟨⟨i, hi, rfl⟩, hb⟩
    have HB2 : Hid (Below W.heap.size W w2) := go_on HB1.out hb
    have HM2 : Hid (MO w2 ob A M N) := HM1.out.below hb
    have HQ2 : Hid (Below w1.heap.size w1 w2) := go_on HQ1.out hb
    clear hb
    go_wp2_with fail
    refine (iCycle_any HM2.out i hi).mono ?_
    rintro e w3 ⟨⟨t, r, rfl, hR⟩, hb⟩
    have HB3 : Hid (Below W.heap.size W w3) := go_on HB2.out hb
    have HM3 : Hid (MO w3 ob A M N) := HM2.out.below hb
    have HQ3 : Hid (Below w1.heap.size w1 w3) := go_on HQ2.out hb
    have HR : Hid (TR (rm A.k.toNat N i) 0 t r) := hR
    clear hR
    clear hb
    go_wp2_with fail
    refine (omega_any HM3.out i hi).mono ?_
    rintro e w4 ⟨⟨x, rfl, hx⟩, hb⟩
    have HB4 : Hid (Below W.heap.size W w4) := go_on HB3.out hb
    have HM4 : Hid (MO w4 ob A M N) := HM3.out.below hb
    have HQ4 : Hid (Below w1.heap.size w1 w4) := go_on HQ3.out hb
    have HX : Hid (OmQ A.k.toNat N i x) := hx
    clear hx
    clear hb
    go_wp2_with fail
    refine (iExponent_any HM4.out).mono ?_
    rintro e w5 ⟨⟨S, l, hS, rfl⟩, hb⟩
    have HB5 : Hid (Below W.heap.size W w5) := go_on HB4.out hb
    have HM5 : Hid (MO w5 ob A M N) := HM4.out.below hb
    have HQ5 : Hid (Below w1.heap.size w1 w5) := go_on HQ4.out hb
    have HS : Hid (ExI A.k.toNat N M.length S l) := hS
    clear hS
    clear hb
    have hsm := HS.out.small HMon.out (Nat.le_refl _)
    have hxv := exV_facts hsm.1 hsm.2.2.1
    have hrs : r ∣ S := (HS.out.dvd S).1 (Nat.dvd_refl _) i hi t r HR.out
    have htl : t ≤ l := ((HS.out.max l).1 (Nat.le_refl _)).2 i hi t r HR.out
    obtain ⟨E, hE⟩ : ∃ E, exV S l = E := ⟨_, rfl⟩
    rw [hE] at hxv ⊢
    have hrE : r ∣ E := Nat.dvd_trans hrs hxv.2.2.2
    have HPW : Hid (pwN A.k.toNat N i E = x) := HMon.out.ex_om hi HR.out HX.out hxv.2.1 (by omega) hrE
    have htr := HR.out.le (HMon.out.rm_lt hi) hnl
    have hr1 := HR.out.pos
    have hxl : x < M.length := HMon.out.om_lt hi HX.out
    obtain ⟨c, hc1, hc2, hc3⟩ := HMon.out.cyc_one hi HR.out HX.out
    have HC2 : Hid (pwN A.k.toNat N i c = x) := hc2
    have HC3 : Hid (∀ k, k < t + r → (((0 < k ∨ t = 0) ∧ pr A.k.toNat N (pwN A.k.toNat N i k) (pwN A.k.toNat N i k) = pwN A.k.toNat N i k) ↔ k = c)) := hc3
    have HXX : Hid (pr A.k.toNat N x x = x) := by
      obtain ⟨_, _, _, q⟩ := HX.out
      exact q
    obtain ⟨tr, htre⟩ : ∃ tr, t + r = tr := ⟨_, rfl⟩
    have HTR : Hid (t + r = tr) := htre
    have e1 : IntKind.i64.wrap ((t : Int) + (r : Int)) = (tr : Int) := by rw [IntKind.wrap_i64]; omega
    have e2 : ¬ (t : Int) < 0 := by omega
    have e2d : decide ((t : Int) < 0) = false := decide_eq_false e2
    have e3 : ¬ (r : Int) < 1 := by omega
    have e3d : decide ((r : Int) < 1) = false := decide_eq_false e3
    have e4 : ¬ (M.length : Int) < (tr : Int) := by omega
    have e4d : decide ((M.length : Int) < (tr : Int)) = false := decide_eq_false e4
    have e5 : ¬ (E : Int) < 1 := by omega
    have e5d : decide ((E : Int) < 1) = false := decide_eq_false e5
    have e6 : (E : Int).tmod (r : Int) = 0 := Int.tmod_eq_zero_of_dvd (Int.natCast_dvd_natCast.2 hrE)
    have e6a : ¬ (r : Int) = 0 := by omega
    have e6b : ((r : Int) == 0) = false := by rw [beq_eq_false_iff_ne]; omega
    have e6c : ¬ r = 0 := by omega
    have e7 : ¬ (E : Int) < (t : Int) := by omega
    have e7d : decide ((E : Int) < (t : Int)) = false := decide_eq_false e7
    have hE2 : E < 363812868619200 + 1000 := by omega
    have e4n : ¬ M.length < tr := by omega
    have htr5 : tr ≤ 512 := by omega
    have e7n : ¬ E < t := by omega
    clear hc2 hc3 hsm hxv hrs htl hE hrE HS htre
    have HBB : Hid (Below w1.heap.size w1 w5) := HQ5.out
    go_wp2_with (first | (go_at_call 21; refine (num16_any _ _).mono ?_; rintro e yn ⟨rfl, hyn⟩; subst yn) | (go_at_call 34; refine (mlen_any HM5.out).mono ?_; rintro e yn ⟨rfl, hyn⟩; subst yn))
    clear e2 e2d e3 e3d e4 e4d e5 e5d e6 e6a e6b e6c e7 e7d e4n e7n
    obtain ⟨i0, hi0, hz0, hz1, hz2⟩ := info_parts Try.info_int
    go_loopw [4, 14, 15, 16, 17, 18] (fun _ vx vm vl vk _ wr => ∃ (k : Nat) (la : Option Addr) (lc : Nat), k ≤ tr ∧ vk = .int .i64 (k : Nat) ∧ vx = .int .i64 (pwN A.k.toNat N i k : Nat) ∧ vm = .int .i64 ((if c < k then 1 else 0 : Nat) : Int) ∧ vl = .slice la k lc ∧ wr.ownsRow w1.heap.size 3 1 (.slice la k lc) k (nC ((List.range k).map (pwN A.k.toNat N i))) ∧ Below w1.heap.size w1 wr) (fun _ _ _ _ vk _ _ => tr - (Go.Lib.intOf vk).toNat)
    case atStart => exact ⟨0, none, 0, Nat.zero_le _, rfl, rfl, rfl, rfl, World.ownsRow_nil _ _ _ _, HBB.out⟩
    case round =>
      obtain ⟨k, la, lc, hk, rfl, rfl, rfl, rfl, ho, hb1⟩ := hrel
      have HO : Hid (wr.ownsRow w1.heap.size 3 1 (.slice la k lc) k (nC ((List.range k).map (pwN A.k.toNat N i)))) := ho
      have HB : Hid (Below W.heap.size W wr) := go_on HB1.out hb1
      have HBr : Hid (Below w1.heap.size w1 wr) := hb1
      have HM : Hid (MO wr ob A M N) := HM1.out.below hb1
      clear ho hb1
      obtain ⟨p, hp⟩ : ∃ p, pwN A.k.toNat N i k = p := ⟨_, rfl⟩
      have HP : Hid (pwN A.k.toNat N i k = p) := hp
      have hpl : p < M.length := by rw [← hp]; exact HMon.out.pw_lt hi k
      obtain ⟨q, hq⟩ : ∃ q : Nat, (if c < k then 1 else 0 : Nat) = q := ⟨_, rfl⟩
      have HQ : Hid ((if c < k then 1 else 0 : Nat) = q) := hq
      rw [hp, hq]
      clear hp hq
      by_cases hlt : k < tr
      · have hkI : (k : Int) < (tr : Int) := by omega
        have HLT : Hid (k < tr) := hlt
        go_wp2_with fail
        go_loopw [4, 18] (fun _ vj wz => ∃ j : Nat, j ≤ k ∧ vj = .int .i64 (j : Nat) ∧ wz = wr) (fun _ vj _ => k - (Go.Lib.intOf vj).toNat)
        case atStart => exact ⟨0, Nat.zero_le _, rfl, rfl⟩
        case round =>
          obtain ⟨j, hj, rfl, hwz⟩ := hrel
          subst hwz
          by_cases hjk : j < k
          · have hjI : (j : Int) < (k : Int) := by omega
            have HJK : Hid (j < k) := hjk
            obtain ⟨g, o, rfl, _, hcell⟩ := (own_sr HO.out).nat (i := j) (by simp; exact hjk)
            have hv : ((List.range k).map (pwN A.k.toNat N i)).getD j 0 = pwN A.k.toNat N i j := by simp [hjk]
            rw [hv] at hcell
            obtain ⟨v, hve⟩ : ∃ v, pwN A.k.toNat N i j = v := ⟨_, rfl⟩
            rw [hve] at hcell
            have hne : v ≠ p := by
              rw [← hve, ← HP.out]
              exact HR.out.apart j k hjk (by have := HTR.out; omega)
            have hneI : ((v : Int) == (p : Int)) = false := by rw [beq_eq_false_iff_ne]; omega
            have hneI2 : ¬ (v : Int) = (p : Int) := by omega
            clear hv hve
            go_wp2_with fail
            go_roundw
            case rel => exact ⟨j + 1, HJK.out, by go_num, by trivial⟩
            case measure => have := HJK.out; simp [Go.Lib.intOf]; omega
          · have hjI : ¬ (j : Int) < (k : Int) := by omega
            clear hjk hj
            have HNX : Hid (pr A.k.toNat N p i = pwN A.k.toNat N i (k + 1)) := by show _ = _; rw [pwN_succ, HP.out]
            have hWs := HB.out.size
            have hW1 := HBr.out.size
            by_cases hk0 : 0 < k
            · have hk0I : (0 : Int) < (k : Int) := by omega
              have hk0d : decide ((0 : Int) < (k : Int)) = true := decide_eq_true hk0I
              by_cases hkc : k = c
              · have HPP : Hid (pr A.k.toNat N p p = p) := by
                  show _ = _
                  have := (HC3.out k (by have := HTR.out; omega)).2 hkc
                  rw [HP.out] at this
                  exact this.2
                have hpx : (p : Int) = (x : Int) := by rw [← HP.out, hkc, HC2.out]
                have hpx2 : ((p : Int) == (x : Int)) = true := by rw [beq_iff_eq]; exact hpx
                have hpx3 : p = x := by omega
                have HQ0 : Hid (q = 0) := by show _ = _; rw [← HQ.out, if_neg (by omega)]
                have HQ1 : Hid ((if c < k + 1 then 1 else 0 : Nat) = 1) := by show _ = _; rw [if_pos (by omega)]
                have hq0 := HQ0.out
                subst hq0
                subst hpx3
                clear hkc hpx hpx2
                have HAP : Hid (∀ (w4 : World) (v' : Value) oa4 oc4, v' = .slice oa4 (k + 1) oc4 → w4.ownsRow w1.heap.size 3 1 v' (k + 1) (nC ((List.range k).map (pwN A.k.toNat N i)) ++ [.int .i64 (p : Nat)]) → w4.ownsRow w1.heap.size 3 1 (.slice oa4 (k + 1) oc4) (k + 1) (nC ((List.range (k + 1)).map (pwN A.k.toNat N i)))) := fun w4 v' oa4 oc4 e h => by
                  rw [List.range_succ, List.map_append, nC_append, ← e]
                  rw [← HP.out] at h
                  exact h
                go_wp2_with (first | (at_builtin; refine wpList_append_own_at _ rfl _ _ 23 rfl w1.heap.size 3 i0 (.int .i64 0) 1 8 Try.underlying23 hi0 hz0 hz1 hz2 rfl (by decide) _ _ _ rfl (World.ownsRow.alloc HO.out _) ⟨wr.heap.size, 0, none⟩ 1 1 [.int .i64 (p : Nat)] rfl rfl (cell_one_new _ _ _) (by intro u hu; simp at hu; subst hu; rfl) (by unfold maxLen; omega) (by omega) (by simp; omega) ?_; intro v' w4 hown' hgrow _ hloc; obtain ⟨oa4, oc4, hsh⟩ := own_shape hown'; have HB4 : Hid (Below w1.heap.size w1 w4) := (go_on HBr.out (below_new _ _)).grown hgrow (by simp; omega) (fun k hk => (own_blk HO.out hk).1); have HO4 : Hid (w4.ownsRow w1.heap.size 3 1 (.slice oa4 (k + 1) oc4) (k + 1) (nC ((List.range (k + 1)).map (pwN A.k.toNat N i)))) := HAP.out w4 v' oa4 oc4 hsh hown'; have HM4 : Hid (MO w4 ob A M N) := HM1.out.below HB4.out; subst hsh; clear hown' hgrow hloc) | (go_at_call_of 36 ([Value.int .i64 (p : Nat), Value.int .i64 (p : Nat)] : List Value); refine (times16_any HM4.out p p hpl hpl).mono ?_; rintro e w5 ⟨rfl, hb⟩; rw [HPP.out]; have HB5 : Hid (Below w1.heap.size w1 w5) := go_on HB4.out hb; have HO5 : Hid (w5.ownsRow w1.heap.size 3 1 (.slice oa4 (k + 1) oc4) (k + 1) (nC ((List.range (k + 1)).map (pwN A.k.toNat N i)))) := own_below HO4.out hb; have HM5 : Hid (MO w5 ob A M N) := HM4.out.below hb; clear hb) | (go_at_call_of 36 ([Value.int .i64 (p : Nat), Value.int .i64 (i : Nat)] : List Value); refine (times16_any HM5.out p i hpl hi).mono ?_; rintro e w6 ⟨rfl, hb⟩; rw [HNX.out]; have HB6 : Hid (Below w1.heap.size w1 w6) := go_on HB5.out hb; have HO6 : Hid (w6.ownsRow w1.heap.size 3 1 (.slice oa4 (k + 1) oc4) (k + 1) (nC ((List.range (k + 1)).map (pwN A.k.toNat N i)))) := own_below HO5.out hb; clear hb))
                go_roundw
                case rel => exact ⟨k + 1, oa4, oc4, HLT.out, by go_num, rfl, by first | (rw [HQ1.out]; rfl) | rw [HQ1.out], rfl, HO6.out, HB6.out⟩
                case measure => have := HLT.out; simp [Go.Lib.intOf]; omega
              · have hPN : ¬ pr A.k.toNat N p p = p := fun e => hkc ((HC3.out k (by have := HTR.out; omega)).1 ⟨.inl hk0, by rw [HP.out]; exact e⟩)
                obtain ⟨p2, hp2⟩ : ∃ p2, pr A.k.toNat N p p = p2 := ⟨_, rfl⟩
                have HPP : Hid (pr A.k.toNat N p p = p2) := hp2
                rw [hp2] at hPN
                have hpn1 : ((p2 : Int) == (p : Int)) = false := by rw [beq_eq_false_iff_ne]; omega
                have hpn2 : ¬ (p2 : Int) = (p : Int) := by omega
                have HQ1 : Hid ((if c < k + 1 then 1 else 0 : Nat) = q) := by show _ = _; rw [← HQ.out]; congr 1; apply propext; omega
                clear hkc hp2
                have HAP : Hid (∀ (w4 : World) (v' : Value) oa4 oc4, v' = .slice oa4 (k + 1) oc4 → w4.ownsRow w1.heap.size 3 1 v' (k + 1) (nC ((List.range k).map (pwN A.k.toNat N i)) ++ [.int .i64 (p : Nat)]) → w4.ownsRow w1.heap.size 3 1 (.slice oa4 (k + 1) oc4) (k + 1) (nC ((List.range (k + 1)).map (pwN A.k.toNat N i)))) := fun w4 v' oa4 oc4 e h => by
                  rw [List.range_succ, List.map_append, nC_append, ← e]
                  rw [← HP.out] at h
                  exact h
                go_wp2_with (first | (at_builtin; refine wpList_append_own_at _ rfl _ _ 23 rfl w1.heap.size 3 i0 (.int .i64 0) 1 8 Try.underlying23 hi0 hz0 hz1 hz2 rfl (by decide) _ _ _ rfl (World.ownsRow.alloc HO.out _) ⟨wr.heap.size, 0, none⟩ 1 1 [.int .i64 (p : Nat)] rfl rfl (cell_one_new _ _ _) (by intro u hu; simp at hu; subst hu; rfl) (by unfold maxLen; omega) (by omega) (by simp; omega) ?_; intro v' w4 hown' hgrow _ hloc; obtain ⟨oa4, oc4, hsh⟩ := own_shape hown'; have HB4 : Hid (Below w1.heap.size w1 w4) := (go_on HBr.out (below_new _ _)).grown hgrow (by simp; omega) (fun k hk => (own_blk HO.out hk).1); have HO4 : Hid (w4.ownsRow w1.heap.size 3 1 (.slice oa4 (k + 1) oc4) (k + 1) (nC ((List.range (k + 1)).map (pwN A.k.toNat N i)))) := HAP.out w4 v' oa4 oc4 hsh hown'; have HM4 : Hid (MO w4 ob A M N) := HM1.out.below HB4.out; subst hsh; clear hown' hgrow hloc) | (go_at_call_of 36 ([Value.int .i64 (p : Nat), Value.int .i64 (p : Nat)] : List Value); refine (times16_any HM4.out p p hpl hpl).mono ?_; rintro e w5 ⟨rfl, hb⟩; rw [HPP.out]; have HB5 : Hid (Below w1.heap.size w1 w5) := go_on HB4.out hb; have HO5 : Hid (w5.ownsRow w1.heap.size 3 1 (.slice oa4 (k + 1) oc4) (k + 1) (nC ((List.range (k + 1)).map (pwN A.k.toNat N i)))) := own_below HO4.out hb; have HM5 : Hid (MO w5 ob A M N) := HM4.out.below hb; clear hb) | (go_at_call_of 36 ([Value.int .i64 (p : Nat), Value.int .i64 (i : Nat)] : List Value); refine (times16_any HM5.out p i hpl hi).mono ?_; rintro e w6 ⟨rfl, hb⟩; rw [HNX.out]; have HB6 : Hid (Below w1.heap.size w1 w6) := go_on HB5.out hb; have HO6 : Hid (w6.ownsRow w1.heap.size 3 1 (.slice oa4 (k + 1) oc4) (k + 1) (nC ((List.range (k + 1)).map (pwN A.k.toNat N i)))) := own_below HO5.out hb; clear hb))
                go_roundw
                case rel => exact ⟨k + 1, oa4, oc4, HLT.out, by go_num, rfl, by first | (rw [HQ1.out]; rfl) | rw [HQ1.out], rfl, HO6.out, HB6.out⟩
                case measure => have := HLT.out; simp [Go.Lib.intOf]; omega
            · have hkz : k = 0 := by omega
              subst hkz
              have hp0 : p = 0 := by rw [← HP.out]; rfl
              subst hp0
              by_cases ht0 : t = 0
              · have hc0 : 0 = c := (HC3.out 0 (by have := HTR.out; omega)).1 ⟨.inr ht0, HMon.out.one_pr hnl⟩
                have HPP : Hid (pr A.k.toNat N 0 0 = 0) := HMon.out.one_pr hnl
                have hpx3 : 0 = x := by rw [← HC2.out, ← hc0]; rfl
                have HQ0 : Hid (q = 0) := by show _ = _; rw [← HQ.out, if_neg (by omega)]
                have HQ1 : Hid ((if c < 0 + 1 then 1 else 0 : Nat) = 1) := by show _ = _; rw [if_pos (by omega)]
                have hq0 := HQ0.out
                subst hq0
                have ht0I : ((t : Int) == 0) = true := by rw [beq_iff_eq]; omega
                have hx0a : ((0 : Int) == (x : Int)) = true := by rw [beq_iff_eq]; omega
                have hx0b : ((0 : Int) != (x : Int)) = false := by rw [bne_eq_false_iff_eq]; omega
                clear hc0 hpx3 ht0
                have HT00 : Hid (∀ y, MO y ob A M N → Calls Try.prog 36 #[.pointer (some ⟨ob, 0, none⟩), .int .i64 0, .int .i64 0] y fun e w' => e = .returned (.int .i64 0) ∧ Below y.heap.size y w') := fun y hy => by
                  have := times16_any hy 0 0 hnl hnl
                  rw [HMon.out.one_pr hnl] at this
                  exact this
                have HT0i : Hid (∀ y, MO y ob A M N → Calls Try.prog 36 #[.pointer (some ⟨ob, 0, none⟩), .int .i64 0, .int .i64 (i : Nat)] y fun e w' => e = .returned (.int .i64 (pwN A.k.toNat N i (0 + 1) : Nat)) ∧ Below y.heap.size y w') := fun y hy => by
                  have := times16_any hy 0 i hnl hi
                  exact this
                have HAP : Hid (∀ (w4 : World) (v' : Value) oa4 oc4, v' = .slice oa4 (0 + 1) oc4 → w4.ownsRow w1.heap.size 3 1 v' (0 + 1) (nC ((List.range 0).map (pwN A.k.toNat N i)) ++ [.int .i64 (0 : Nat)]) → w4.ownsRow w1.heap.size 3 1 (.slice oa4 (0 + 1) oc4) (0 + 1) (nC ((List.range (0 + 1)).map (pwN A.k.toNat N i)))) := fun w4 v' oa4 oc4 e h => by
                  rw [List.range_succ, List.map_append, nC_append, ← e]
                  rw [← HP.out] at h
                  exact h
                go_wp2_with (first | (at_builtin; refine wpList_append_own_at _ rfl _ _ 23 rfl w1.heap.size 3 i0 (.int .i64 0) 1 8 Try.underlying23 hi0 hz0 hz1 hz2 rfl (by decide) _ _ _ rfl (World.ownsRow.alloc HO.out _) ⟨wr.heap.size, 0, none⟩ 1 1 [.int .i64 (0 : Nat)] rfl rfl (cell_one_new _ _ _) (by intro u hu; simp at hu; subst hu; rfl) (by unfold maxLen; omega) (by omega) (by simp; omega) ?_; intro v' w4 hown' hgrow _ hloc; obtain ⟨oa4, oc4, hsh⟩ := own_shape hown'; have HB4 : Hid (Below w1.heap.size w1 w4) := (go_on HBr.out (below_new _ _)).grown hgrow (by simp; omega) (fun k hk => (own_blk HO.out hk).1); have HO4 : Hid (w4.ownsRow w1.heap.size 3 1 (.slice oa4 (0 + 1) oc4) (0 + 1) (nC ((List.range (0 + 1)).map (pwN A.k.toNat N i)))) := HAP.out w4 v' oa4 oc4 hsh hown'; have HM4 : Hid (MO w4 ob A M N) := HM1.out.below HB4.out; subst hsh; clear hown' hgrow hloc) | (go_at_call_of 36 ([Value.int .i64 0, Value.int .i64 0] : List Value); refine (HT00.out _ HM4.out).mono ?_; rintro e w5 ⟨rfl, hb⟩; have HB5 : Hid (Below w1.heap.size w1 w5) := go_on HB4.out hb; have HO5 : Hid (w5.ownsRow w1.heap.size 3 1 (.slice oa4 (0 + 1) oc4) (0 + 1) (nC ((List.range (0 + 1)).map (pwN A.k.toNat N i)))) := own_below HO4.out hb; have HM5 : Hid (MO w5 ob A M N) := HM4.out.below hb; clear hb) | (go_at_call_of 36 ([Value.int .i64 0, Value.int .i64 (i : Nat)] : List Value); refine (HT0i.out _ HM5.out).mono ?_; rintro e w6 ⟨rfl, hb⟩; have HB6 : Hid (Below w1.heap.size w1 w6) := go_on HB5.out hb; have HO6 : Hid (w6.ownsRow w1.heap.size 3 1 (.slice oa4 (0 + 1) oc4) (0 + 1) (nC ((List.range (0 + 1)).map (pwN A.k.toNat N i)))) := own_below HO5.out hb; clear hb))
                go_roundw
                case rel => exact ⟨0 + 1, oa4, oc4, HLT.out, by go_num, rfl, by first | (rw [HQ1.out]; rfl) | rw [HQ1.out], rfl, HO6.out, HB6.out⟩
                case measure => have := HLT.out; simp [Go.Lib.intOf]; omega
              · have ht0I : ((t : Int) == 0) = false := by rw [beq_eq_false_iff_ne]; omega
                have ht0J : ¬ (t : Int) = 0 := by omega
                have hcn : ¬ 0 = c := fun e => by
                  have := ((HC3.out 0 (by have := HTR.out; omega)).2 e).1
                  omega
                have HQ1 : Hid ((if c < 0 + 1 then 1 else 0 : Nat) = q) := by show _ = _; rw [← HQ.out]; congr 1; apply propext; omega
                clear hcn
                have HT00 : Hid (∀ y, MO y ob A M N → Calls Try.prog 36 #[.pointer (some ⟨ob, 0, none⟩), .int .i64 0, .int .i64 0] y fun e w' => e = .returned (.int .i64 0) ∧ Below y.heap.size y w') := fun y hy => by
                  have := times16_any hy 0 0 hnl hnl
                  rw [HMon.out.one_pr hnl] at this
                  exact this
                have HT0i : Hid (∀ y, MO y ob A M N → Calls Try.prog 36 #[.pointer (some ⟨ob, 0, none⟩), .int .i64 0, .int .i64 (i : Nat)] y fun e w' => e = .returned (.int .i64 (pwN A.k.toNat N i (0 + 1) : Nat)) ∧ Below y.heap.size y w') := fun y hy => by
                  have := times16_any hy 0 i hnl hi
                  exact this
                have HAP : Hid (∀ (w4 : World) (v' : Value) oa4 oc4, v' = .slice oa4 (0 + 1) oc4 → w4.ownsRow w1.heap.size 3 1 v' (0 + 1) (nC ((List.range 0).map (pwN A.k.toNat N i)) ++ [.int .i64 (0 : Nat)]) → w4.ownsRow w1.heap.size 3 1 (.slice oa4 (0 + 1) oc4) (0 + 1) (nC ((List.range (0 + 1)).map (pwN A.k.toNat N i)))) := fun w4 v' oa4 oc4 e h => by
                  rw [List.range_succ, List.map_append, nC_append, ← e]
                  rw [← HP.out] at h
                  exact h
                go_wp2_with (first | (at_builtin; refine wpList_append_own_at _ rfl _ _ 23 rfl w1.heap.size 3 i0 (.int .i64 0) 1 8 Try.underlying23 hi0 hz0 hz1 hz2 rfl (by decide) _ _ _ rfl (World.ownsRow.alloc HO.out _) ⟨wr.heap.size, 0, none⟩ 1 1 [.int .i64 (0 : Nat)] rfl rfl (cell_one_new _ _ _) (by intro u hu; simp at hu; subst hu; rfl) (by unfold maxLen; omega) (by omega) (by simp; omega) ?_; intro v' w4 hown' hgrow _ hloc; obtain ⟨oa4, oc4, hsh⟩ := own_shape hown'; have HB4 : Hid (Below w1.heap.size w1 w4) := (go_on HBr.out (below_new _ _)).grown hgrow (by simp; omega) (fun k hk => (own_blk HO.out hk).1); have HO4 : Hid (w4.ownsRow w1.heap.size 3 1 (.slice oa4 (0 + 1) oc4) (0 + 1) (nC ((List.range (0 + 1)).map (pwN A.k.toNat N i)))) := HAP.out w4 v' oa4 oc4 hsh hown'; have HM4 : Hid (MO w4 ob A M N) := HM1.out.below HB4.out; subst hsh; clear hown' hgrow hloc) | (go_at_call_of 36 ([Value.int .i64 0, Value.int .i64 (i : Nat)] : List Value); refine (HT0i.out _ HM4.out).mono ?_; rintro e w6 ⟨rfl, hb⟩; have HB6 : Hid (Below w1.heap.size w1 w6) := go_on HB4.out hb; have HO6 : Hid (w6.ownsRow w1.heap.size 3 1 (.slice oa4 (0 + 1) oc4) (0 + 1) (nC ((List.range (0 + 1)).map (pwN A.k.toNat N i)))) := own_below HO4.out hb; clear hb))
                go_roundw
                case rel => exact ⟨0 + 1, oa4, oc4, HLT.out, by go_num, rfl, by first | (rw [HQ1.out]; rfl) | rw [HQ1.out], rfl, HO6.out, HB6.out⟩
                case measure => have := HLT.out; simp [Go.Lib.intOf]; omega
      · have hkI : ¬ (k : Int) < (tr : Int) := by omega
        have hkt : k = tr := by omega
        subst hkt
        have hxt : p = pwN A.k.toNat N i t := by rw [← HP.out, ← HTR.out]; exact HR.out.back
        obtain ⟨g, o, rfl, _, hcell⟩ := (own_sr HO.out).nat (i := t) (by simp; have := HTR.out; omega)
        have hv : ((List.range k).map (pwN A.k.toNat N i)).getD t 0 = p := by
          have : t < k := by have := HTR.out; omega
          rw [hxt]
          simp [this]
        rw [hv] at hcell
        have htI : (t : Int) < (k : Int) := by have := HTR.out; omega
        have hq1 : q = 1 := by rw [← HQ.out, if_pos (by have := HTR.out; omega)]
        subst hq1
        have hcv : IntKind.u64.wrap (E : Int) = (E : Int) := by rw [IntKind.wrap_u64]; omega
        have HPO : Hid (∀ y, MO y ob A M N → Calls Try.prog 37 #[.pointer (some ⟨ob, 0, none⟩), .int .i64 (i : Nat), .int .u64 (E : Nat)] y fun e w' => e = .returned (.tuple #[.int .i64 (x : Nat), .int .i64 0]) ∧ Below y.heap.size y w') := fun y hy => by
          have := mpower_ok hy i hi E (by omega)
          rw [HMon.out.pwE_pw hi, HPW.out] at this
          exact this
        clear hv hxt
        go_wp2_with fail
        refine (HPO.out _ HM.out).mono ?_
        rintro e v1 ⟨rfl, hb⟩
        have hcell2 : v1.cell? ⟨g, o + t, none⟩ = some (.int .i64 (p : Int)) := by rw [below_cellJ hb (World.block_lt_of_cell? _ _ hcell)]; exact hcell
        have VB1 : Hid (Below W.heap.size W v1) := go_on HB.out hb
        have VM1 : Hid (MO v1 ob A M N) := HM.out.below hb
        clear hb hcell
        have HTI : Hid (∀ y, MO y ob A M N → Calls Try.prog 36 #[.pointer (some ⟨ob, 0, none⟩), .int .i64 (x : Nat), .int .i64 (x : Nat)] y fun e w' => e = .returned (.int .i64 (x : Nat)) ∧ Below y.heap.size y w') := fun y hy => by
          have := times16_any hy x x hxl hxl
          rw [HXX.out] at this
          exact this
        go_wp2_with (first | (go_at_call 21; refine (num16_any _ _).mono ?_; rintro e yn ⟨rfl, hyn⟩; subst yn) | (go_at_call 36; refine (HTI.out _ VM1.out).mono ?_; rintro e v2 ⟨rfl, hb⟩; have VB2 : Hid (Below W.heap.size W v2) := go_on VB1.out hb; clear hb) | (go_at_call 10; refine (live16_any _).mono ?_; rintro e v3 ⟨rfl, hb⟩; have VB3 : Hid (Below W.heap.size W v3) := go_on VB2.out hb; clear hb))
        go_ret
        exact ⟨rfl, VB3.out⟩

/-! ### The row's step -/
theorem own : ownKnob Try.prog.godebug = none := by kernel_rfl
set_option maxRecDepth 100000 in
theorem lifted (os : Os) (started : os.Started) (H : Type) (enc : TypeId × Value → H) :
    ReturnsInHanded {} Try.checked os 6 .any (Rows.idemCycleSpec.pre6 enc Try.prog Try.f6 Rows.idemCycleRow.domain false) (Rows.idemCycleSpec.post enc Try.prog Try.f6 false true false false) := by
  refine returnsInHanded_of_change_sized (C := Try.checked) own started (by kernel_rfl) Try.func6
    (ChangeSpec.witness6 (enc := enc) (C := Try.checked) false ⟨#[], #[.agg #[.int .i64 0, .slice none 0 0, .slice none 0 0], .int .i64 0], []⟩ 8 (by kernel_rfl) (by kernel_rfl) (by kernel_rfl) (by kernel_rfl)) ?_
  intro W base args ds gs before hval0 hW hcnd hsz0 _
  have hval : ∀ (j : Nat) t v, Try.f6.params[j]? = some t → args[j]? = some v → Value.okWide Try.prog W .any base t v := hval0
  clear hval0
  have hsz : (DataW.weightsEach Try.prog (Try.f6.params.toList ++ Rows.idemCycleSpec.plain.varTypes Try.prog) (ds ++ gs)).all (· ≤ reachBytes) = true := hsz0
  clear hsz0
  have hW' := hW
  obtain ⟨p, q, hA0, hV, rfl, hfz, hnd⟩ := hW
  have hA : DataW.TrodAll enc Try.prog W 0 (fun _ => true) true Try.f6.params.toList args.toList ds p := hA0
  rw [Try.params6] at hA hval hsz
  obtain ⟨v0, vs0, d0, ds0, p0, q0, hargs, rfl, rfl, h0, r0⟩ := trodAll_cons hA
  obtain ⟨v1, vs1, d1, ds1, p1, q1, rfl, rfl, rfl, h1, r1⟩ := trodAll_cons r0
  obtain ⟨rfl, rfl, rfl⟩ := trodAll_nil r1
  obtain rfl : args = #[v0, v1] := by cases args; simp_all
  obtain ⟨rfl, rfl⟩ := trodVars_none hV
  obtain ⟨a0, x0, n0, w0, dk0, dn0, da0, e0, y0, z0⟩ := open_auto (hval 0 26 v0 rfl rfl) h0
  have b0 := auto_bounds hsz (j := 0) rfl (by rw [e0]; rfl) y0 z0
  have g0 : ∀ x ∈ p0, x.block < W.heap.size := fun x hx => hW'.lt x (by simp [hx])
  obtain ⟨a1, rfl, rfl, rfl, w1⟩ := open_int Try.underlying3 (hval 1 3 v1 rfl rfl) h1
  clear hA0
  refine (walk v0 a0 a1 W x0 n0 b0.1 b0.2 (i64_of w1)).mono fun e W' ⟨he, bel⟩ => ?_
  subst he
  exact ⟨_, rfl, _, _, _, [], _, [], hW', trodAll_mk1 (shut_bool Try.underlying4 _), (trodAll_cons_mk (Below.trod Try.laidOut (by kernel_rfl) (of_decide_eq_true (by kernel_rfl)) h0 bel g0) (trodAll_cons_mk (shut_int Try.underlying3 w1) trodAll_mk0)), rfl, bel.frame _, fun h => by cases h⟩

theorem over : Rows.idemCycleRow.holds Try.pinned (OpenSpec.ofChange Rows.idemCycleSpec) :=
  OpenClaim.holds_of_wide 6 Try.f6 rfl rfl rfl rfl rfl rfl rfl ⟨rfl, rfl, rfl, rfl, rfl⟩ rfl rfl rfl rfl rfl (by kernel_rfl) Try.func6 (by kernel_rfl)
    (of_decide_eq_true (by kernel_rfl)) (by unfold Func.isWrapper; first | (rw [if_pos (by decide +kernel)]; kernel_rfl) | (rw [if_neg (by decide +kernel)]; exact ⟨rfl, rfl⟩))
    (fun os started H enc _ => lifted os started H enc)

end Go.Proofs.Ytflclnkaccbfcaa.idemCycle
namespace Go.Proofs.Ytflclnkaccbfcaa
/-- The given statement. -/
theorem idemCycle_holds : Rows.IdemCycleSaid := idemCycle.over
end Go.Proofs.Ytflclnkaccbfcaa
