/- Proved: eggboxlaw01.WordRoots answers true at every k, x and n (P110), where they together hold at most 1048576 values and letters (the statement's second form): of a word over 1 to 8 letters, the word is its root's power, the root is its own root, and a power's root is its word's; its arguments read behind the call as before. -/
import Derived.Test.YtocdifclkopbcabRtm
import Derived.ProofKit
import Derived.OpenShut
import Derived.ShutString
import Derived.ChangeOld
import Derived.JoinedCond
namespace Go.Proofs.Ytocdifclkopbcab.wordRoots
open Go.ChangeShapes Go.WideShapes Go.ChangeAt Go.RowKit
open Go.ChangeMaps (open_string shut_string)
set_option linter.unusedVariables false

theorem str_toList (l : List UInt8) : (str l).toList = l := by rw [ByteArray.toList_eq, str_list]
theorem ext_str (U : List UInt8) (p : Nat) : (str U).extract 0 p = str (U.take p) := by
  apply ByteArray.ext
  simp [str]
theorem root_w (k : Nat) (U : List UInt8) (p : Nat) (w : World) (h1 : 1 ≤ k) (h8 : k ≤ 8) (hU : isW k U) (hs : U.length ≤ 17592186044416) (hp : IsRoot (str U) p) :
    Calls Try.prog 13 #[.int .i64 k, .string (str U)] w fun e w' => e = .returned (.tuple #[.string (str (U.take p)), .int .i64 ((U.length / p : Nat) : Int), .int .i64 0]) ∧ Below w.heap.size w w' := by
  have hl := (root_str U p hp).2.1
  have hl1 := (root_str U p hp).1
  refine (root_any k (str U) w (by rw [str_size]; omega) (chk_isW k U h1 h8 hU) (by rw [str_size]; omega)).mono ?_
  rintro e w' ⟨q, hq, rfl, b⟩
  have e : q = p := hq.unique hp
  subst e
  rw [ext_str, str_size]
  exact ⟨rfl, b⟩
theorem isW_take {k : Nat} {U : List UInt8} (h : isW k U) (n : Nat) : isW k (U.take n) := fun c hc => h c (List.mem_of_mem_take hc)
theorem isW_pow {k : Nat} {U : List UInt8} (h : isW k U) : ∀ n, isW k (powL U n)
  | 0 => fun c hc => by simp [powL] at hc
  | n + 1 => isW_append (isW_pow h n) h

set_option maxHeartbeats 8000000 in
set_option maxRecDepth 100000 in
theorem walk (a0 : Int) (a1 : ByteArray) (a2 : Int) (w0 : (Lit.int .i64 a0).wf = true) (w1 : a1.size ≤ 1048576) (w2 : (Lit.int .i64 a2).wf = true) (w : World) :
    Calls Try.prog 4 #[.int .i64 a0, .string a1, .int .i64 a2] w fun e w' => e = .returned (.bool true) ∧ Below w.heap.size w w' := by
  obtain ⟨h1, h8⟩ := lts_range a0
  have hm1 := Int.lt_tmod_of_pos a2 (b := 50) (by omega)
  have hm2 := Int.tmod_lt_of_pos a2 (b := 50) (by omega)
  clear w0 w2
  go_enter Try.func4, Try.ntmps4
  go_wp2_with fail
  refine (lettersL_any a0 _).mono ?_
  rintro e x0 ⟨rfl, rfl⟩
  generalize lts a0 = k at *
  go_wp2_with fail
  refine (over_w k a1 _ h1 h8 (by omega)).mono ?_
  rintro e x1 ⟨U, hU, lU, rfl, b1⟩
  have HU : Hid (isW k U) := hU
  have hUl : U.length ≤ 1048576 := by omega
  clear hU lU
  by_cases hUe : U = []
  · have HUE : Hid (U = []) := hUe
    have he : (str U).toList.isEmpty = true := by rw [str_toList, hUe]; rfl
    clear hUe
    go_wp2_with fail
    refine (root_none k (str U) _ (by rw [str_size]; omega) (.inr (by rw [str_size, HUE.out]; rfl))).mono ?_
    rintro e x2 ⟨rfl, b2⟩
    rw [chk_isW k U h1 h8 HU.out]
    go_wp2_with (go_at_call 9; refine (num_any _ _).mono ?_; rintro e y1 ⟨rfl, hy1⟩; subst y1)
    refine (knows_any _).mono ?_
    rintro e x3 ⟨rfl, b3⟩
    go_wp2_with fail
    go_ret
    exact ⟨rfl, go_on (go_on b1 b2) b3⟩
  · obtain ⟨p, hp⟩ := root_exists U hUe
    obtain ⟨p1, p2, p3, _, _⟩ := root_str U p hp
    have HP : Hid (IsRoot (str U) p) := hp
    have HUE : Hid (U ≠ []) := hUe
    have he : (str U).toList.isEmpty = false := by rw [str_toList]; simpa using hUe
    have hRl := root_take_len U p hp
    have hRe : (str (U.take p)).toList.isEmpty = false := by
      rw [str_toList]
      cases h : U.take p with
      | nil => rw [h] at hRl; simp at hRl; omega
      | cons a b => rfl
    obtain ⟨t, ht⟩ := p3
    have hdiv : U.length / p = t := by rw [ht]; exact Nat.mul_div_cancel_left t (by omega)
    have ht1 : 1 ≤ t := by
      rcases Nat.eq_zero_or_pos t with h | h
      · subst h; omega
      · exact h
    have HD : Hid (U.length / p = t) := hdiv
    have hprod : (t : Int) * (p : Int) = U.length := by
      have : ((p * t : Nat) : Int) = U.length := by rw [← ht]
      rw [Int.natCast_mul, Int.mul_comm] at this
      exact this
    have HLT : Hid (∀ i, i < U.length → lt' U i = lt' (U.take p) (i % p)) := root_letters U p hp
    have hszR : (str (U.take p)).size = p := by rw [str_size]; exact hRl
    have hszU : (str U).size = U.length := str_size U
    have htle : t ≤ U.length := by rw [ht]; exact Nat.le_mul_of_pos_left _ p1
    have HHT : Hid (U.length = p * t) := ht
    clear hp hUe hdiv ht hRl
    go_wp2_with fail
    refine (root_w k U p _ h1 h8 HU.out (by omega) HP.out).mono ?_
    rintro e x2 ⟨rfl, b2⟩
    rw [HD.out]
    generalize hR : U.take p = R at *
    have HR : Hid (U.take p = R) := hR
    clear hR
    go_wp2_with (go_at_call 9; refine (num_any _ _).mono ?_; rintro e y1 ⟨rfl, hy1⟩; subst y1)
    refine (knows_any _).mono ?_
    rintro e x3 ⟨rfl, b3⟩
    have hne : ((t : Int) * (p : Int) != (U.length : Int)) = false := by rw [bne_eq_false_iff_eq]; exact hprod
    have htw : IntKind.i64.wrap ((t : Int) * (p : Int)) = (t : Int) * (p : Int) := wrap_small _ (by omega) (by omega)
    have htd : decide ((t : Int) < 1) = false := by rw [decide_eq_false_iff_not]; omega
    go_wp2_with fail
    obtain ⟨m, hm, hm3, hm4⟩ : ∃ m : Nat, 1 + a2.tmod 50 % 50 = (m : Int) ∧ 1 ≤ m ∧ m ≤ 50 := ⟨(1 + a2.tmod 50 % 50).toNat, by omega, by omega, by omega⟩
    rw [hm]
    clear hm hm1 hm2 htw hne htd
    go_loopw [11] (fun vi wr => ∃ i q : Nat, vi = .int .i64 i ∧ i ≤ U.length ∧ wr = x3.drewN q) (fun vi _ => U.length - (intOf vi).toNat)
    case atStart => exact ⟨0, 0, rfl, Nat.zero_le _, rfl⟩
    case round =>
      obtain ⟨i, q, rfl, hi, rfl⟩ := hrel
      by_cases hlt : i < U.length
      · have hmp : i % p < p := Nat.mod_lt _ (by omega)
        have hsi : i < (str U).size := by omega
        have hsr : i % p < (str R).size := by omega
        have heq : (((str U)[i].toNat : Int) != ((str R)[i % p].toNat : Int)) = false := by
          have h := HLT.out i hlt
          rw [← at_str, ← at_str, ← at_eq _ _ hsi, ← at_eq _ _ hsr] at h
          rw [h, bne_eq_false_iff_eq]
        have hp0 : ((p : Int) == 0) = false := by rw [beq_eq_false_iff_ne]; omega
        have hiI : (i : Int) < U.length := by omega
        have hmI : (i : Int) % (p : Int) < p := Int.emod_lt_of_pos _ (by omega)
        have hm0 : 0 ≤ (i : Int) % (p : Int) := Int.emod_nonneg _ (by omega)
        go_wp2_with fail
        go_quiet (fail)
        go_wp2
        go_roundw
        case rel => exact ⟨i + 1, _, by go_num, by omega, rfl⟩
        case measure => simp [intOf]; omega
      · have HRR : Hid (IsRoot (str R) p ∧ R.take p = R ∧ R.length / p = 1) := by
          have hl : R.length = p := by rw [← str_size]; exact hszR
          obtain ⟨r, hr⟩ := root_exists R (fun h => by rw [h] at hl; simp at hl; omega)
          have e : r = p := root_root U p r HP.out (by rw [HR.out]; exact hr)
          subst e
          exact ⟨hr, List.take_of_length_le (by omega), by rw [hl]; exact Nat.div_self (by omega)⟩
        have HWR : Hid (isW k R) := by rw [← HR.out]; exact isW_take HU.out p
        have HB0 : Hid (Below x0.heap.size x0 (x3.drewN q)) := below_drewN (go_on (go_on b1 b2) b3) q
        clear HLT b1 b2 b3
        go_wp2_with fail
        refine (root_w k R p _ h1 h8 HWR.out (by rw [← str_size]; omega) HRR.out.1).mono ?_
        rintro e x4 ⟨rfl, b4⟩
        rw [HRR.out.2.1, HRR.out.2.2]
        have HB1 : Hid (Below x0.heap.size x0 x4) := go_on HB0.out b4
        clear b4 HB0 HRR
        by_cases hbig : 4096 / (U.length : Int) < (m : Int)
        · have HPE : Hid (powE U m = 6) := by
            show powE U m = 6
            unfold powE
            rw [if_neg (by omega), if_neg HUE.out, if_pos hbig]
          have hmm : (4096 : Int) < (m : Int) * (U.length : Int) := by
            have := Int.lt_mul_of_ediv_lt (a := 4096) (b := (m : Int)) (c := (U.length : Int)) (by omega) hbig
            exact this
          have hmw : IntKind.i64.wrap ((m : Int) * (U.length : Int)) = (m : Int) * (U.length : Int) := by
            have h1 : (m : Int) * (U.length : Int) ≤ 50 * 1048576 := Int.mul_le_mul (by omega) (by omega) (by omega) (by omega)
            exact wrap_small _ (by omega) (by omega)
          go_wp2_with fail
          refine (power_none k U m _ (chk_isW k U h1 h8 HU.out) (.inr (.inr hbig))).mono ?_
          rintro e x5 ⟨rfl, b5⟩
          rw [HPE.out]
          have HB2 : Hid (Below x0.heap.size x0 x5) := go_on HB1.out b5
          clear b5 HB1
          go_wp2_with (go_at_call 9; refine (num_any _ _).mono ?_; rintro e y1 ⟨rfl, hy1⟩; subst y1)
          go_ret
          exact ⟨rfl, HB2.out⟩
        · have HQ : Hid (m ≤ 4096 / U.length) := by
            have e : (4096 : Int) / (U.length : Int) = ((4096 / U.length : Nat) : Int) := by simp
            rw [e] at hbig
            show m ≤ 4096 / U.length
            omega
          have HPR : Hid (IsRoot (str (powL U m)) p ∧ (powL U m).take p = R ∧ (powL U m).length / p = t * m) := by
            have hl := powL_len U m
            have hpos : 0 < (powL U m).length := by rw [hl]; exact Nat.mul_pos (by omega) (by omega)
            obtain ⟨r, hr⟩ := root_exists (powL U m) (List.length_pos_iff.1 hpos)
            obtain ⟨e, et⟩ := power_root U m p r (by omega) HP.out hr
            subst e
            refine ⟨hr, by rw [et]; exact HR.out, ?_⟩
            rw [hl, HHT.out, Nat.mul_left_comm, Nat.mul_div_cancel_left _ (by omega), Nat.mul_comm]
          have HWP : Hid (isW k (powL U m)) := isW_pow HU.out m
          have hlenP : (str (powL U m)).size = m * U.length := by rw [str_size, powL_len]
          have HML : Hid (m * U.length ≤ 50 * 1048576) := Nat.mul_le_mul (by omega) (by omega)
          have hmw : IntKind.i64.wrap ((m : Int) * (U.length : Int)) = (m : Int) * (U.length : Int) := by
            have h1 : (m : Int) * (U.length : Int) ≤ 50 * 1048576 := Int.mul_le_mul (by omega) (by omega) (by omega) (by omega)
            have h2 : 0 ≤ (m : Int) * (U.length : Int) := Int.mul_nonneg (by omega) (by omega)
            exact wrap_small _ (by omega) (by omega)
          have htw : IntKind.i64.wrap ((t : Int) * (m : Int)) = (t : Int) * (m : Int) := by
            have h1 : (t : Int) * (m : Int) ≤ 1048576 * 50 := Int.mul_le_mul (by omega) (by omega) (by omega) (by omega)
            have h2 : 0 ≤ (t : Int) * (m : Int) := Int.mul_nonneg (by omega) (by omega)
            exact wrap_small _ (by omega) (by omega)
          clear hbig
          go_wp2_with fail
          refine (power_do k U m _ (chk_isW k U h1 h8 HU.out) HUE.out HQ.out).mono ?_
          rintro e x5 ⟨rfl, b5⟩
          have HB2 : Hid (Below x0.heap.size x0 x5) := go_on HB1.out b5
          clear b5 HB1
          go_wp2_with (go_at_call 9; refine (num_any _ _).mono ?_; rintro e y1 ⟨rfl, hy1⟩; subst y1)
          refine (root_w k (powL U m) p _ h1 h8 HWP.out (by rw [← str_size, hlenP]; have := HML.out; omega) HPR.out.1).mono ?_
          rintro e x6 ⟨rfl, b6⟩
          rw [HPR.out.2.1, HPR.out.2.2]
          have HB3 : Hid (Below x0.heap.size x0 x6) := go_on HB2.out b6
          clear b6 HB2
          go_wp2_with (go_at_call 9; refine (num_any _ _).mono ?_; rintro e y1 ⟨rfl, hy1⟩; subst y1)
          go_ret
          exact ⟨rfl, HB3.out⟩

/-! ### The row's step -/
theorem own : ownKnob Try.prog.godebug = none := by kernel_rfl
theorem contract (H : Type) (enc : TypeId × Value → H) (W : World) (base : Nat) (args : Array Value) (ds gs : List (DataW H)) (before : List MemPlace)
    (hval : ∀ (j : Nat) t v, Try.f4.params[j]? = some t → args[j]? = some v → Value.okWide Try.prog W .any base t v)
    (hW : DataW.Whole enc Try.prog Try.f4.params.toList Rows.wordRootsSpec.vars false W args.toList ds gs before) (hk : Rows.uptoSmall H (ds ++ gs) = true) :
    Calls Try.prog 4 args W fun e W' => ∃ v, e = .returned v ∧ Rows.wordRootsSpec.post enc Try.prog Try.f4 false true false false W args v W' := by
  have hW' := hW
  obtain ⟨p, q, hA0, hV, rfl, hfz, hnd⟩ := hW
  have hA : DataW.TrodAll enc Try.prog W 0 (fun _ => true) true Try.f4.params.toList args.toList ds p := hA0
  rw [Try.params4] at hA hval
  obtain ⟨v0, vs0, d0, ds0, p0, q0, hargs, rfl, rfl, h0, r0⟩ := trodAll_cons hA
  obtain ⟨v1, vs1, d1, ds1, p1, q1, rfl, rfl, rfl, h1, r1⟩ := trodAll_cons r0
  obtain ⟨v2, vs2, d2, ds2, p2, q2, rfl, rfl, rfl, h2, r2⟩ := trodAll_cons r1
  obtain ⟨rfl, rfl, rfl⟩ := trodAll_nil r2
  obtain rfl : args = #[v0, v1, v2] := by cases args; simp_all
  obtain ⟨rfl, rfl⟩ := trodVars_none hV
  obtain ⟨a0, rfl, rfl, rfl, w0⟩ := open_int Try.underlying3 (hval 0 3 v0 rfl rfl) h0
  obtain ⟨a1, rfl, rfl, rfl, w1⟩ := open_string Try.underlying9 (hval 1 9 v1 rfl rfl) h1
  obtain ⟨a2, rfl, rfl, rfl, w2⟩ := open_int Try.underlying3 (hval 2 3 v2 rfl rfl) h2
  have z0 := w0
  have z1 : a1.size ≤ 1048576 := by
    have h := of_decide_eq_true hk
    simp only [List.append_nil, Rows.uptoBulkAll, Rows.uptoBulk, Array.length_toList] at h
    have e : ∀ x : ByteArray, x.data.size = x.size := fun x => rfl
    simp only [e] at h
    omega
  have z2 := w2
  clear hA0
  refine (walk a0 a1 a2 z0 z1 z2 W).mono fun e W' ⟨he, bel⟩ => ?_
  subst he
  exact ⟨_, rfl, _, _, _, [], _, [], hW', trodAll_mk1 (shut_bool Try.underlying4 _), (trodAll_cons_mk (shut_int Try.underlying3 w0) (trodAll_cons_mk (shut_string Try.underlying9 w1) (trodAll_cons_mk (shut_int Try.underlying3 w2) trodAll_mk0))), rfl, bel.frame _, fun h => by cases h⟩

set_option maxRecDepth 100000 in
theorem lifted (os : Os) (started : os.Started) (H : Type) (enc : TypeId × Value → H) (F : Stop.Interp) :
    ReturnsInHanded {} Try.checked os 4 .any ((Rows.OpenSpec.upto Rows.wordRootsSpec).pre6 enc Try.prog Try.f4 Rows.wordRootsUptoRow.domain false) (((Rows.OpenSpec.upto Rows.wordRootsSpec).at F).post enc Try.prog Try.f4 false true false false) := by
  refine returnsInHanded_of_cond (C := Try.checked) (s := Rows.OpenSpec.upto Rows.wordRootsSpec) (k := Rows.uptoSmall) rfl own started (by kernel_rfl) Try.func4
    (OpenSpec.witness (enc := enc) (C := Try.checked) (s := Rows.OpenSpec.upto Rows.wordRootsSpec) (k := Rows.uptoSmall) rfl false ⟨#[], #[.int .i64 0, .string ByteArray.empty, .int .i64 0], []⟩ 8 (by kernel_rfl) (by kernel_rfl) (by kernel_rfl)
      (x := ([.lit (.int .i64 0), .lit (.string []), .lit (.int .i64 0)], [], [])) (by kernel_rfl) rfl (by kernel_rfl)) ?_
  intro W base args ds gs before hval hW _ hk _
  exact contract H enc W base args ds gs before hval hW hk

theorem over : Rows.wordRootsUptoRow.holds Try.pinned (Rows.OpenSpec.upto Rows.wordRootsSpec) :=
  OpenClaim.holds_of_cond 4 Try.f4 rfl rfl rfl rfl rfl rfl rfl ⟨rfl, rfl, rfl, rfl, rfl⟩ rfl rfl rfl rfl rfl (by kernel_rfl) Try.func4 (by kernel_rfl)
    (of_decide_eq_true (by kernel_rfl)) (by unfold Func.isWrapper; first | (rw [if_pos (by decide +kernel)]; kernel_rfl) | (rw [if_neg (by decide +kernel)]; exact ⟨rfl, rfl⟩))
    (fun os started H enc _ F => lifted os started H enc F)

end Go.Proofs.Ytocdifclkopbcab.wordRoots
namespace Go.Proofs.Ytocdifclkopbcab
/-- The given statement. -/
theorem wordRoots_holds : Rows.WordRootsUptoSaid := wordRoots.over
end Go.Proofs.Ytocdifclkopbcab
