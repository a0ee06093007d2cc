/- Proved: eggboxlaw01.WordRank answers true at every k, x, y and n (P107): over 1 to 8 letters, Rank of Nth(n) is n wherever Nth answers (and it does over two letters and more); the order of two words is that of their numbers; the next word has the next number, wherever these are answered; its arguments read behind the call as before. No condition but the form's own. -/
import Derived.Test.YtocdifclkopbcaaRkm
import Derived.ProofKit
import Derived.OpenShut
import Derived.ShutString
import Derived.ChangeOld
import Derived.SizedLaws
namespace Go.Proofs.Ytocdifclkopbcaa.wordRank
open Go.ChangeShapes Go.WideShapes Go.ChangeAt Go.RowKit
open Go.ChangeMaps (open_string shut_string)
set_option linter.unusedVariables false

set_option maxHeartbeats 8000000 in
set_option maxRecDepth 100000 in
theorem walk (a0 : Int) (a1 : ByteArray) (a2 : ByteArray) (a3 : Int) (w0 : (Lit.int .i64 a0).wf = true) (w1 : a1.size ≤ 140737488351232) (w2 : a2.size ≤ 140737488351232) (w3 : (Lit.int .u64 a3).wf = true) (w : World) :
    Calls Try.prog 7 #[.int .i64 a0, .string a1, .string a2, .int .u64 a3] w fun e w' => e = .returned (.bool true) ∧ Below w.heap.size w w' := by
  obtain ⟨h1, h8⟩ := lts_range a0
  have hn : 0 ≤ a3 ∧ a3 ≤ 18446744073709551615 := by simpa [Lit.wf, IntKind.min, IntKind.max, IntKind.signed, IntKind.bits] using w3
  obtain ⟨n, rfl⟩ := Int.eq_ofNat_of_zero_le hn.1
  have hn2 : n ≤ 18446744073709551615 := by omega
  clear hn w3 w0
  go_enter Try.func7, Try.ntmps7
  go_wp2_with fail
  refine (lettersL_any a0 _).mono ?_
  rintro e x0 ⟨rfl, rfl⟩
  generalize lts a0 = k at *
  go_wp2_with fail
  refine (over_w k a1 _ h1 h8 (by omega)).mono ?_
  rintro e x1 ⟨U, hU, lU, rfl, b1⟩
  have HU : Hid (isW k U) := hU
  have HLU : Hid (U.length = a1.size) := lU
  clear hU lU
  go_wp2_with fail
  refine (over_w k a2 _ h1 h8 (by omega)).mono ?_
  rintro e x2 ⟨V, hV, lV, rfl, b2⟩
  have HV : Hid (isW k V) := hV
  clear hV lV
  go_wp2_with fail
  refine (nth_any k n _ h1 h8 (by omega)).mono ?_
  rintro e x3 ⟨hnth, b3⟩
  have HB : Hid (Below x0.heap.size x0 x3) := go_on (go_on b1 b2) b3
  have HSH : Hid (2 ≤ k → (nthB k n).length ≤ 4096) := fun h => nth_short k n h (by omega)
  clear b1 b2 b3
  rcases hnth with ⟨hl, rfl⟩ | ⟨hl, rfl⟩
  case' inl =>
    go_wp2_with (go_at_call 11; refine (num_any _ _).mono ?_; rintro e y1 ⟨rfl, hy1⟩; subst y1)
    refine (rank_w k (nthW k n) _ h1 h8 (isW_nthW k n h1 h8)).mono ?_
    rintro e x4 ⟨hr, b4⟩
    rw [rank_nth k n h1 h8] at hr
    rcases hr with ⟨_, rfl⟩ | ⟨hr, _⟩
    case' inr => omega
    have HB2 : Hid (Below x0.heap.size x0 x4) := go_on HB.out b4
    clear b4 HB hl
    go_wp2_with (go_at_call 11; refine (num_any _ _).mono ?_; rintro e y1 ⟨rfl, hy1⟩; subst y1)
  case' inr =>
    have hk1 : k ≤ 1 := by
      rcases Nat.lt_or_ge k 2 with h | h
      · omega
      · have := HSH.out h; omega
    have HB2 : Hid (Below x0.heap.size x0 x3) := HB
    clear HB hl
    go_wp2_with (go_at_call 11; refine (num_any _ _).mono ?_; rintro e y1 ⟨rfl, hy1⟩; subst y1)
  all_goals
    clear HSH
    refine (rank_w k U _ h1 h8 HU.out).mono ?_
    rintro e x5 ⟨hrU, b5⟩
    have HB3 : Hid (Below x0.heap.size x0 x5) := go_on HB2.out b5
    clear b5 HB2
    have HRN : Hid (rankL k (nextL k U) = rankL k U + 1) := rank_next k h1 h8 U HU.out
    have HOR : Hid ((ordL U V = 0 ∧ rankL k U = rankL k V) ∨ (ordL U V = -1 ∧ rankL k U < rankL k V) ∨ (ordL U V = 1 ∧ rankL k V < rankL k U)) := ord_rank k h1 U V HU.out HV.out
    rcases hrU with ⟨hU1, rfl⟩ | ⟨hU1, rfl⟩
    case' inl =>
      go_wp2_with fail
      refine (rank_w k V _ h1 h8 HV.out).mono ?_
      rintro e x6 ⟨hrV, b6⟩
      have HB4 : Hid (Below x0.heap.size x0 x6) := go_on HB3.out b6
      clear b6 HB3
      rcases hrV with ⟨hV1, rfl⟩ | ⟨hV1, rfl⟩
      case' inl =>
        go_wp2_with fail
        refine (compare_w k U V _ h1 h8 HU.out HV.out).mono ?_
        rintro e x7 ⟨rfl, b7⟩
        have HB5 : Hid (Below x0.heap.size x0 x7) := go_on HB4.out b7
        clear b7 HB4
        generalize ordL U V = c at *
        generalize hra : rankL k U = a at *
        have HRA : Hid (rankL k U = a) := hra
        clear hra
        generalize rankL k V = b at *
        go_wp2_with (go_at_call 11; refine (num_any _ _).mono ?_; rintro e y1 ⟨rfl, hy1⟩; subst y1)
        refine (knows_any _).mono ?_
        rintro e x8 ⟨rfl, b8⟩
        have HB6 : Hid (Below x0.heap.size x0 x8) := go_on HB5.out b8
        clear b8 HB5
        rcases HOR.out with ⟨rfl, hab⟩ | ⟨rfl, hab⟩ | ⟨rfl, hab⟩
        case' inl =>
          have hab2 : ((a : Int) != (b : Int)) = false := by rw [bne_eq_false_iff_eq]; omega
          clear hab
          go_wp2_with (go_at_call 11; refine (num_any _ _).mono ?_; rintro e y1 ⟨rfl, hy1⟩; subst y1)
        case' inr.inl =>
          have hab2 : (a : Int) < b := by omega
          go_wp2_with (go_at_call 11; refine (num_any _ _).mono ?_; rintro e y1 ⟨rfl, hy1⟩; subst y1)
        case' inr.inr =>
          have hab2 : (b : Int) < a := by omega
          go_wp2_with (go_at_call 11; refine (num_any _ _).mono ?_; rintro e y1 ⟨rfl, hy1⟩; subst y1)
        all_goals
          refine (next_w k U _ h1 h8 HU.out (by rw [HLU.out]; omega)).mono ?_
          rintro e x9 ⟨hnx, b9⟩
          have HB7 : Hid (Below x0.heap.size x0 x9) := go_on HB6.out b9
          clear b9 HB6
          rcases hnx with ⟨hn1, rfl⟩ | ⟨hn1, hn3, rfl⟩
          case' inl =>
            go_wp2_with (go_at_call 11; refine (num_any _ _).mono ?_; rintro e y1 ⟨rfl, hy1⟩; subst y1)
            refine (rank_w k (nextL k U) _ h1 h8 (isW_next k h1 h8 U HU.out)).mono ?_
            rintro e x10 ⟨hrt, b10⟩
            have HB8 : Hid (Below x0.heap.size x0 x10) := go_on HB7.out b10
            clear b10 HB7
            rw [HRN.out] at hrt
            rcases hrt with ⟨ht1, rfl⟩ | ⟨ht1, rfl⟩
            case' inl =>
              have haI : (a : Int) + 1 ≤ 18446744073709551615 := by omega
              have hcst : (((a + 1 : Nat) : Int)) = (a : Int) + 1 := by omega
              rw [hcst]
              clear hcst
              go_wp2_with (go_at_call 11; refine (num_any _ _).mono ?_; rintro e y1 ⟨rfl, hy1⟩; subst y1)
            case' inr =>
              have haI : ((a : Int) == 18446744073709551615) = true := by rw [beq_iff_eq]; omega
              go_wp2_with (go_at_call 11; refine (num_any _ _).mono ?_; rintro e y1 ⟨rfl, hy1⟩; subst y1)
            all_goals
              go_ret
              exact ⟨rfl, HB8.out⟩
          case' inr =>
            have hl4 : (4096 : Int) ≤ ((str U).size : Int) := by rw [str_size]; omega
            go_wp2_with (go_at_call 11; refine (num_any _ _).mono ?_; rintro e y1 ⟨rfl, hy1⟩; subst y1)
            go_ret
            exact ⟨rfl, HB7.out⟩
      case' inr =>
        go_wp2_with fail
        refine (compare_w k U V _ h1 h8 HU.out HV.out).mono ?_
        rintro e x7 ⟨rfl, b7⟩
        have HB5 : Hid (Below x0.heap.size x0 x7) := go_on HB4.out b7
        clear b7 HB4
        generalize ordL U V = c at *
        go_wp2_with (go_at_call 11; refine (num_any _ _).mono ?_; rintro e y1 ⟨rfl, hy1⟩; subst y1)
        refine (knows_any _).mono ?_
        rintro e x8 ⟨rfl, b8⟩
        have HB6 : Hid (Below x0.heap.size x0 x8) := go_on HB5.out b8
        clear b8 HB5
        go_wp2_with (go_at_call 11; refine (num_any _ _).mono ?_; rintro e y1 ⟨rfl, hy1⟩; subst y1)
        go_ret
        exact ⟨rfl, HB6.out⟩
    case' inr =>
      go_wp2_with fail
      refine (rank_w k V _ h1 h8 HV.out).mono ?_
      rintro e x6 ⟨hrV, b6⟩
      have HB4 : Hid (Below x0.heap.size x0 x6) := go_on HB3.out b6
      clear b6 HB3
      rcases hrV with ⟨hV1, rfl⟩ | ⟨hV1, rfl⟩
      all_goals
        go_wp2_with fail
        refine (compare_w k U V _ h1 h8 HU.out HV.out).mono ?_
        rintro e x7 ⟨rfl, b7⟩
        have HB5 : Hid (Below x0.heap.size x0 x7) := go_on HB4.out b7
        clear b7 HB4
        generalize ordL U V = c at *
        go_wp2_with (go_at_call 11; refine (num_any _ _).mono ?_; rintro e y1 ⟨rfl, hy1⟩; subst y1)
        refine (knows_any _).mono ?_
        rintro e x8 ⟨rfl, b8⟩
        have HB6 : Hid (Below x0.heap.size x0 x8) := go_on HB5.out b8
        clear b8 HB5
        go_wp2_with (go_at_call 11; refine (num_any _ _).mono ?_; rintro e y1 ⟨rfl, hy1⟩; subst y1)
        go_ret
        exact ⟨rfl, HB6.out⟩

/-! ### The row's step -/
theorem own : ownKnob Try.prog.godebug = none := by kernel_rfl
set_option maxRecDepth 100000 in
theorem lifted (os : Os) (started : os.Started) (H : Type) (enc : TypeId × Value → H) :
    ReturnsInHanded {} Try.checked os 7 .any (Rows.wordRankSpec.pre6 enc Try.prog Try.f7 Rows.wordRankRow.domain false) (Rows.wordRankSpec.post enc Try.prog Try.f7 false true false false) := by
  refine returnsInHanded_of_change_sized (C := Try.checked) own started (by kernel_rfl) Try.func7
    (ChangeSpec.witness6 (enc := enc) (C := Try.checked) false ⟨#[], #[.int .i64 0, .string ByteArray.empty, .string ByteArray.empty, .int .u64 0], []⟩ 8 (by kernel_rfl) (by kernel_rfl) (by kernel_rfl) (by kernel_rfl)) ?_
  intro W base args ds gs before hval0 hW hcnd hsz0 _
  have hval : ∀ (j : Nat) t v, Try.f7.params[j]? = some t → args[j]? = some v → Value.okWide Try.prog W .any base t v := hval0
  clear hval0
  have hsz : (DataW.weightsEach Try.prog (Try.f7.params.toList ++ Rows.wordRankSpec.plain.varTypes Try.prog) (ds ++ gs)).all (· ≤ reachBytes) = true := hsz0
  clear hsz0
  have hW' := hW
  obtain ⟨p, q, hA0, hV, rfl, hfz, hnd⟩ := hW
  have hA : DataW.TrodAll enc Try.prog W 0 (fun _ => true) true Try.f7.params.toList args.toList ds p := hA0
  rw [Try.params7] at hA hval hsz
  obtain ⟨v0, vs0, d0, ds0, p0, q0, hargs, rfl, rfl, h0, r0⟩ := trodAll_cons hA
  obtain ⟨v1, vs1, d1, ds1, p1, q1, rfl, rfl, rfl, h1, r1⟩ := trodAll_cons r0
  obtain ⟨v2, vs2, d2, ds2, p2, q2, rfl, rfl, rfl, h2, r2⟩ := trodAll_cons r1
  obtain ⟨v3, vs3, d3, ds3, p3, q3, rfl, rfl, rfl, h3, r3⟩ := trodAll_cons r2
  obtain ⟨rfl, rfl, rfl⟩ := trodAll_nil r3
  obtain rfl : args = #[v0, v1, v2, v3] := by cases args; simp_all
  obtain ⟨rfl, rfl⟩ := trodVars_none hV
  obtain ⟨a0, rfl, rfl, rfl, w0⟩ := open_int Try.underlying3 (hval 0 3 v0 rfl rfl) h0
  obtain ⟨a1, rfl, rfl, rfl, w1⟩ := open_string Try.underlying9 (hval 1 9 v1 rfl rfl) h1
  obtain ⟨a2, rfl, rfl, rfl, w2⟩ := open_string Try.underlying9 (hval 2 9 v2 rfl rfl) h2
  obtain ⟨a3, rfl, rfl, rfl, w3⟩ := open_int Try.underlying32 (hval 3 32 v3 rfl rfl) h3
  have z0 := w0
  have z1 : a1.size ≤ 140737488351232 := by
    have := sized_string hsz (j := 1) (t := 9) rfl rfl
    simpa [reachBytes] using this
  have z2 : a2.size ≤ 140737488351232 := by
    have := sized_string hsz (j := 2) (t := 9) rfl rfl
    simpa [reachBytes] using this
  have z3 := w3
  clear hA0
  refine (walk a0 a1 a2 a3 z0 z1 z2 z3 W).mono fun e W' ⟨he, bel⟩ => ?_
  subst he
  exact ⟨_, rfl, _, _, _, [], _, [], hW', trodAll_mk1 (shut_bool Try.underlying4 _), (trodAll_cons_mk (shut_int Try.underlying3 w0) (trodAll_cons_mk (shut_string Try.underlying9 w1) (trodAll_cons_mk (shut_string Try.underlying9 w2) (trodAll_cons_mk (shut_int Try.underlying32 w3) trodAll_mk0)))), rfl, bel.frame _, fun h => by cases h⟩

theorem over : Rows.wordRankRow.holds Try.pinned (OpenSpec.ofChange Rows.wordRankSpec) :=
  OpenClaim.holds_of_wide 7 Try.f7 rfl rfl rfl rfl rfl rfl rfl ⟨rfl, rfl, rfl, rfl, rfl⟩ rfl rfl rfl rfl rfl (by kernel_rfl) Try.func7 (by kernel_rfl)
    (of_decide_eq_true (by kernel_rfl)) (by unfold Func.isWrapper; first | (rw [if_pos (by decide +kernel)]; kernel_rfl) | (rw [if_neg (by decide +kernel)]; exact ⟨rfl, rfl⟩))
    (fun os started H enc _ => lifted os started H enc)

end Go.Proofs.Ytocdifclkopbcaa.wordRank
namespace Go.Proofs.Ytocdifclkopbcaa
/-- The given statement. -/
theorem wordRank_holds : Rows.WordRankSaid := wordRank.over
end Go.Proofs.Ytocdifclkopbcaa
