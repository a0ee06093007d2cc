/- Proved: eggboxlaw01.WordFineWilf answers true at every k and x (P109), where x and k together hold at most 1048576 values and letters (the statement's second form): of a word over 1 to 8 letters, Periods answers a rising list of numbers from 1 to its length, its length among them, and with two periods also their greatest common divisor where the word is long enough (Fine and Wilf); its arguments read behind the call as before. -/
import Derived.Test.YtocdifclkopbcabGcd
import Derived.Test.YtocdifclkopbcabFwm
import Derived.ProofKit
import Derived.OpenShut
import Derived.ShutString
import Derived.ChangeOld
import Derived.JoinedCond
namespace Go.Proofs.Ytocdifclkopbcab.wordFineWilf
open Go.ChangeShapes Go.WideShapes Go.ChangeAt Go.RowKit
open Go.ChangeMaps (open_string shut_string)
set_option linter.unusedVariables false

theorem rise_get (l : List Nat) (h : l.Pairwise (· < ·)) (i j : Nat) (hj : j < i) (hi : i < l.length) : l.getD j 0 < l.getD i 0 := by
  have := List.pairwise_iff_getElem.1 h j i (by omega) hi hj
  simpa [hi, show j < l.length by omega] using this
theorem get_mem (l : List Nat) (i : Nat) (hi : i < l.length) : l.getD i 0 ∈ l := by simp [hi]

set_option maxHeartbeats 4000000 in
set_option maxRecDepth 100000 in
theorem walk (a0 : Int) (a1 : ByteArray) (w0 : (Lit.int .i64 a0).wf = true) (w1 : a1.size ≤ 1048576) (w : World) :
    Calls Try.prog 3 #[.int .i64 a0, .string a1] w fun e w' => e = .returned (.bool true) ∧ Below w.heap.size w w' := by
  obtain ⟨h1, h8⟩ := lts_range a0
  go_enter Try.func3, Try.ntmps3
  go_wp2_with fail
  refine (lettersL_any a0 _).mono ?_
  rintro e x0 ⟨rfl, rfl⟩
  generalize lts a0 = k at *
  go_wp2_with fail
  refine (over_w k a1 _ h1 h8 (by omega)).mono ?_
  rintro e x1 ⟨U, hU, lU, rfl, b1⟩
  have HU : Hid (isW k U) := hU
  have HLU : Hid (U.length = a1.size) := lU
  clear hU lU
  have HCK : Hid (chk (k : Int) (str U) = 0) := chk_isW k U h1 h8 HU.out
  have HPA : Hid (persA (k : Int) (str U) = pers (str U) (str U).size) := by show persA _ _ = _; unfold persA; rw [if_pos HCK.out]
  have hsz : (str U).size ≤ 1048576 := by rw [str_size, HLU.out]; exact w1
  generalize str U = S at *
  go_wp2_with fail
  refine (periods_any k S _ (by omega)).mono ?_
  rintro e x2 ⟨v, rfl, hown, b2⟩
  rw [HCK.out]
  rw [HPA.out] at hown
  have HM : Hid (∀ p, p ∈ pers S S.size ↔ 1 ≤ p ∧ p ≤ S.size ∧ perB S p = true) := mem_pers S S.size
  have HR : Hid ((pers S S.size).Pairwise (· < ·)) := pers_rise S S.size
  have HFW : Hid (∀ p q, p ∈ pers S S.size → q ∈ pers S S.size → p + q ≤ S.size + Nat.gcd p q → Nat.gcd p q ∈ pers S S.size) := fun p q => pers_fw S p q
  have hlen : (pers S S.size).length ≤ S.size := pers_le S S.size
  have HLAST : Hid (0 < S.size → S.size ∈ pers S S.size) := fun h => (mem_pers S S.size S.size).2 ⟨h, Nat.le_refl _, (perB_iff S S.size (Nat.le_refl _)).2 (fun i hi => by omega)⟩
  generalize pers S S.size = L at *
  clear HCK HPA HU HLU
  go_wp2_with fail
  refine (num_any _ _).mono ?_
  rintro e x3 ⟨rfl, rfl⟩
  go_wp2_with fail
  refine (knows_any _).mono ?_
  rintro e x4 ⟨rfl, b4⟩
  have hown4 := own_below hown b4
  clear hown
  have hin0 : ∀ x : Nat, Calls Try.prog 11 #[v, .int .i64 x] x4 fun e w' => e = .returned (.bool (decide (x ∈ L))) ∧ w' = x4 := fun x => in_any _ v L x x4 hown4 (by omega)
  have hin : ∀ x n : Nat, Calls Try.prog 11 #[v, .int .i64 x] (x4.drewN n) fun e w' => e = .returned (.bool (decide (x ∈ L))) ∧ w' = x4.drewN n := fun x n => in_any _ v L x (x4.drewN n) hown4 (by omega)
  obtain ⟨_, ad, cap, rfl, hcell⟩ := own_cells hown4
  have HIN0 : Hid _ := hin0
  have HIN : Hid _ := hin
  have HC : Hid _ := hcell
  clear hin hin0 hcell hown4
  by_cases hpos : 0 < S.size
  case' pos =>
    have hposI : (0 : Int) < S.size := by omega
    have HLI : Hid (decide (S.size ∈ L) = true) := by show decide _ = true; rw [decide_eq_true_iff]; exact HLAST.out hpos
    go_wp2_with fail
    refine (HIN0.out S.size).mono ?_
    rintro e x5 ⟨rfl, h5⟩
    subst x5
    rw [HLI.out]
    clear HLI
    go_wp2_with fail
  case' neg =>
    have hposI : decide ((0 : Int) < S.size) = false := by rw [decide_eq_false_iff_not]; omega
    go_wp2_with fail
  all_goals
    go_loopw [8] (fun vi wr => ∃ i q : Nat, vi = .int .i64 i ∧ i ≤ L.length ∧ wr = x4.drewN q) (fun vi _ => L.length - (intOf vi).toNat)
    case atStart => exact ⟨0, 0, rfl, Nat.zero_le _, rfl⟩
    case round =>
      obtain ⟨i, q, rfl, hi, rfl⟩ := hrel
      by_cases hlt : i < L.length
      · try (exfalso; omega)
        all_goals
          obtain ⟨g, rfl, ci⟩ := HC.out i hlt
          have hmi := get_mem L i hlt
          obtain ⟨x, hx⟩ : ∃ x, L.getD i 0 = x := ⟨_, rfl⟩
          rw [hx] at ci hmi
          have hx1 := ((HM.out x).1 hmi).1
          have hx2 := ((HM.out x).1 hmi).2.1
          have HXM : Hid (x ∈ L) := hmi
          have HX : Hid (L.getD i 0 = x) := hx
          clear hx hmi
          go_wp2_with fail
          go_loopw [9] (fun vj wr => ∃ j q : Nat, vj = .int .i64 j ∧ j ≤ i ∧ wr = x4.drewN q) (fun vj _ => i - (intOf vj).toNat)
          case atStart => exact ⟨0, q, rfl, Nat.zero_le _, rfl⟩
          case round =>
            obtain ⟨j, q2, rfl, hj, rfl⟩ := hrel
            by_cases hjt : j < i
            · obtain ⟨g', hg', cj⟩ := HC.out j (by omega)
              obtain rfl : g = g' := by simp at hg'; exact hg'
              have hmj := get_mem L j (by omega)
              have hlt2 := rise_get L HR.out i j hjt hlt
              rw [HX.out] at hlt2
              obtain ⟨y, hy⟩ : ∃ y, L.getD j 0 = y := ⟨_, rfl⟩
              rw [hy] at cj hmj hlt2
              have hy1 := ((HM.out y).1 hmj).1
              have HYM : Hid (y ∈ L) := hmj
              clear hy hmj hg'
              have hjl : j < L.length := by omega
              have hgle : Nat.gcd x y ≤ y := Nat.gcd_le_right x hy1
              go_wp2_with fail
              go_quiet (fail)
              go_wp2_with fail
              go_quiet ((go_at_call 12; exact quiet_add (gcd_any x y _ (by omega) (by omega))))
              by_cases hfw : x + y ≤ S.size + Nat.gcd x y
              · have hgI : (x : Int) + y - (Nat.gcd x y : Nat) ≤ S.size := by omega
                have HG : Hid (decide (Nat.gcd x y ∈ L) = true) := by show decide _ = true; rw [decide_eq_true_iff]; exact HFW.out x y HXM.out HYM.out hfw
                go_wp2_with fail
                go_quiet ((go_at_call 11; exact quiet_add_same (HG.out ▸ HIN.out (Nat.gcd x y) _)))
                go_wp2
                go_roundw
                case rel => exact ⟨j + 1, _, by go_num, by omega, rfl⟩
                case measure => simp [intOf]; omega
              · have hgI : decide ((x : Int) + y - (Nat.gcd x y : Nat) ≤ S.size) = false := by rw [decide_eq_false_iff_not]; omega
                go_wp2_with fail
                go_quiet (fail)
                go_wp2
                go_roundw
                case rel => exact ⟨j + 1, _, by go_num, by omega, rfl⟩
                case measure => simp [intOf]; omega
            · go_wp2
              go_roundw
              case rel => exact ⟨i + 1, _, by go_num, by omega, rfl⟩
              case measure => simp [intOf]; omega
      · go_wp2
        go_ret
        exact ⟨rfl, below_drewN (go_on (go_on b1 b2) b4) q⟩

/-! ### The row's step -/
theorem own : ownKnob Try.prog.godebug = none := by kernel_rfl
theorem contract (H : Type) (enc : TypeId × Value → H) (W : World) (base : Nat) (args : Array Value) (ds gs : List (DataW H)) (before : List MemPlace)
    (hval : ∀ (j : Nat) t v, Try.f3.params[j]? = some t → args[j]? = some v → Value.okWide Try.prog W .any base t v)
    (hW : DataW.Whole enc Try.prog Try.f3.params.toList Rows.wordFineWilfSpec.vars false W args.toList ds gs before) (hk : Rows.uptoSmall H (ds ++ gs) = true) :
    Calls Try.prog 3 args W fun e W' => ∃ v, e = .returned v ∧ Rows.wordFineWilfSpec.post enc Try.prog Try.f3 false true false false W args v W' := by
  have hW' := hW
  obtain ⟨p, q, hA0, hV, rfl, hfz, hnd⟩ := hW
  have hA : DataW.TrodAll enc Try.prog W 0 (fun _ => true) true Try.f3.params.toList args.toList ds p := hA0
  rw [Try.params3] at hA hval
  obtain ⟨v0, vs0, d0, ds0, p0, q0, hargs, rfl, rfl, h0, r0⟩ := trodAll_cons hA
  obtain ⟨v1, vs1, d1, ds1, p1, q1, rfl, rfl, rfl, h1, r1⟩ := trodAll_cons r0
  obtain ⟨rfl, rfl, rfl⟩ := trodAll_nil r1
  obtain rfl : args = #[v0, v1] := by cases args; simp_all
  obtain ⟨rfl, rfl⟩ := trodVars_none hV
  obtain ⟨a0, rfl, rfl, rfl, w0⟩ := open_int Try.underlying3 (hval 0 3 v0 rfl rfl) h0
  obtain ⟨a1, rfl, rfl, rfl, w1⟩ := open_string Try.underlying9 (hval 1 9 v1 rfl rfl) h1
  have z0 := w0
  have z1 : a1.size ≤ 1048576 := by
    have h := of_decide_eq_true hk
    simp only [List.append_nil, Rows.uptoBulkAll, Rows.uptoBulk, Array.length_toList] at h
    have e : ∀ x : ByteArray, x.data.size = x.size := fun x => rfl
    simp only [e] at h
    omega
  clear hA0
  refine (walk a0 a1 z0 z1 W).mono fun e W' ⟨he, bel⟩ => ?_
  subst he
  exact ⟨_, rfl, _, _, _, [], _, [], hW', trodAll_mk1 (shut_bool Try.underlying4 _), (trodAll_cons_mk (shut_int Try.underlying3 w0) (trodAll_cons_mk (shut_string Try.underlying9 w1) trodAll_mk0)), rfl, bel.frame _, fun h => by cases h⟩

set_option maxRecDepth 100000 in
theorem lifted (os : Os) (started : os.Started) (H : Type) (enc : TypeId × Value → H) (F : Stop.Interp) :
    ReturnsInHanded {} Try.checked os 3 .any ((Rows.OpenSpec.upto Rows.wordFineWilfSpec).pre6 enc Try.prog Try.f3 Rows.wordFineWilfUptoRow.domain false) (((Rows.OpenSpec.upto Rows.wordFineWilfSpec).at F).post enc Try.prog Try.f3 false true false false) := by
  refine returnsInHanded_of_cond (C := Try.checked) (s := Rows.OpenSpec.upto Rows.wordFineWilfSpec) (k := Rows.uptoSmall) rfl own started (by kernel_rfl) Try.func3
    (OpenSpec.witness (enc := enc) (C := Try.checked) (s := Rows.OpenSpec.upto Rows.wordFineWilfSpec) (k := Rows.uptoSmall) rfl false ⟨#[], #[.int .i64 0, .string ByteArray.empty], []⟩ 8 (by kernel_rfl) (by kernel_rfl) (by kernel_rfl)
      (x := ([.lit (.int .i64 0), .lit (.string [])], [], [])) (by kernel_rfl) rfl (by kernel_rfl)) ?_
  intro W base args ds gs before hval hW _ hk _
  exact contract H enc W base args ds gs before hval hW hk

theorem over : Rows.wordFineWilfUptoRow.holds Try.pinned (Rows.OpenSpec.upto Rows.wordFineWilfSpec) :=
  OpenClaim.holds_of_cond 3 Try.f3 rfl rfl rfl rfl rfl rfl rfl ⟨rfl, rfl, rfl, rfl, rfl⟩ rfl rfl rfl rfl rfl (by kernel_rfl) Try.func3 (by kernel_rfl)
    (of_decide_eq_true (by kernel_rfl)) (by unfold Func.isWrapper; first | (rw [if_pos (by decide +kernel)]; kernel_rfl) | (rw [if_neg (by decide +kernel)]; exact ⟨rfl, rfl⟩))
    (fun os started H enc _ F => lifted os started H enc F)

end Go.Proofs.Ytocdifclkopbcab.wordFineWilf
namespace Go.Proofs.Ytocdifclkopbcab
/-- The given statement. -/
theorem wordFineWilf_holds : Rows.WordFineWilfUptoSaid := wordFineWilf.over
end Go.Proofs.Ytocdifclkopbcab
