/- Proved: eggboxlaw01.WordPeriods answers true at every k and w (P106), where they together hold at most 1048576 values and letters (the statement's second form): word.Periods and word.Root answer what the document's Periods and Root answer, and two lists that Periods told are the caller's own: each can be written and grown without the other's turning; its arguments read behind the call as before. -/
import Derived.Test.YtocdifclkopbcaaApt
import Derived.ProofKit
import Derived.OpenShut
import Derived.ShutString
import Derived.ChangeOld
import Derived.JoinedCond
namespace Go.Proofs.Ytocdifclkopbcaa.wordPeriods
open Go.ChangeShapes Go.WideShapes Go.ChangeAt Go.RowKit
open Go.ChangeMaps (open_string shut_string)
set_option linter.unusedVariables false

theorem root_both (k : Int) (s : ByteArray) (hs : s.size ≤ 17592186044416) : ∃ (A : ByteArray) (T E : Int),
    (∀ w, Calls Try.prog 26 #[.int .i64 k, .string s] w fun e w' => e = .returned (.tuple #[.string A, .int .i64 T, .int .i64 E]) ∧ Below w.heap.size w w') ∧
    (∀ w, Calls Try.prog 28 #[.int .i64 k, .string s] w fun e w' => e = .returned (.tuple #[.string A, .int .i64 T, .int .i64 E]) ∧ Below w.heap.size w w') := by
  by_cases h : chk k s ≠ 0 ∨ s.size = 0
  · exact ⟨_, _, _, fun w => root_none k s w hs h, fun w => rroot_none k s w hs h⟩
  · have hc : chk k s = 0 := by
      rcases Int.lt_trichotomy (chk k s) 0 with g | g | g
      · exact absurd (.inl (by omega)) h
      · exact g
      · exact absurd (.inl (by omega)) h
    have h0 : 0 < s.size := by
      rcases Nat.eq_zero_or_pos s.size with g | g
      · exact absurd (.inr g) h
      · exact g
    have ex : ∀ d, d ≤ s.size → (∃ p, IsRoot s p) ∨ ∀ q, 1 ≤ q → q ≤ d → divP s q = false := by
      intro d
      induction d with
      | zero => intro _; exact .inr (fun q h1 h2 => by omega)
      | succ d ih =>
        intro hd
        rcases ih (by omega) with g | g
        · exact .inl g
        · cases hv : divP s (d + 1) with
          | false => exact .inr (fun q h1 h2 => by
              by_cases e : q = d + 1
              · rw [e]; exact hv
              · exact g q h1 (by omega))
          | true => exact .inl ⟨d + 1, by omega, hd, hv, fun q h1 h2 => g q h1 (by omega)⟩
    obtain ⟨p, hp⟩ : ∃ p, IsRoot s p := by
      rcases ex s.size (Nat.le_refl _) with g | g
      · exact g
      · have := g s.size h0 (Nat.le_refl _)
        rw [divP_all] at this
        exact absurd this (by simp)
    refine ⟨s.extract 0 p, ((s.size / p : Nat) : Int), 0, fun w => ?_, fun w => ?_⟩
    · refine (root_any k s w hs hc h0).mono ?_
      rintro e w' ⟨q, hq, rfl, b⟩
      rw [hq.unique hp]
      exact ⟨rfl, b⟩
    · refine (rroot_any k s w hs hc h0).mono ?_
      rintro e w' ⟨q, hq, rfl, b⟩
      rw [hq.unique hp]
      exact ⟨rfl, b⟩
theorem own_on {w w' : World} {B : Nat} {e : TypeId} {size n : Nat} {v : Value} {xs : List Value} (h : w.ownsRow B e size v n xs) (hb : Below w.heap.size w w') : w'.ownsRow B e size v n xs :=
  own_of_heap h (fun b hb' => hb.block b (h.lt b hb').2)
theorem persA_len (k : Int) (s : ByteArray) : (persA k s).length ≤ s.size := by
  unfold persA
  split
  · exact pers_le s s.size
  · simp

set_option maxHeartbeats 4000000 in
set_option maxRecDepth 100000 in
theorem walk (a0 : Int) (a1 : ByteArray) (w0 : (Lit.int .i64 a0).wf = true) (w1 : a1.size ≤ 1048576) (w : World) :
    Calls Try.prog 6 #[.int .i64 a0, .string a1] w fun e w' => e = .returned (.bool true) ∧ Below w.heap.size w w' := by
  obtain ⟨A, T, E, hR, hR'⟩ := root_both a0 a1 (by omega)
  have HR : Hid _ := hR
  have HR' : Hid _ := hR'
  have hPl := persA_len a0 a1
  clear hR hR' w0
  go_enter Try.func6, Try.ntmps6
  go_wp2_with fail
  refine (periods_any a0 a1 _ (by omega)).mono ?_
  rintro e x1 ⟨l, rfl, ol, b1⟩
  obtain ⟨la, lc, rfl⟩ := own_shape ol
  generalize hPP : persA a0 a1 = P at *
  have HP : Hid (persA a0 a1 = P) := hPP
  clear hPP
  have HOL : Hid (x1.ownsRow w.heap.size 3 1 (.slice la P.length lc) P.length (intCells P)) := ol
  clear ol
  go_wp2_with fail
  refine (periods_any a0 a1 _ (by omega)).mono ?_
  rintro e x2 ⟨m, rfl, om, b2⟩
  rw [HP.out] at om
  obtain ⟨ma, mc, rfl⟩ := own_shape om
  have HOM : Hid (x2.ownsRow x1.heap.size 3 1 (.slice ma P.length mc) P.length (intCells P)) := om
  clear om
  go_wp2_with fail
  refine (HR.out _).mono ?_
  rintro e x3 ⟨rfl, b3⟩
  go_wp2_with fail
  refine (rperiods_any a0 a1 _ (by omega)).mono ?_
  rintro e x4 ⟨v3, rfl, o3, b4⟩
  rw [HP.out] at o3
  obtain ⟨va, vc, rfl⟩ := own_shape o3
  have HO3 : Hid (x4.ownsRow x3.heap.size 3 1 (.slice va P.length vc) P.length (intCells P)) := o3
  clear o3
  go_wp2_with fail
  refine (HR'.out _).mono ?_
  rintro e x5 ⟨rfl, b5⟩
  have HL5 : Hid (x5.ownsRow w.heap.size 3 1 (.slice la P.length lc) P.length (intCells P)) := own_on (own_on (own_on (own_on HOL.out b2) b3) b4) b5
  have HM5 : Hid (x5.ownsRow x1.heap.size 3 1 (.slice ma P.length mc) P.length (intCells P)) := own_on (own_on (own_on HOM.out b3) b4) b5
  have HV5 : Hid (x5.ownsRow x3.heap.size 3 1 (.slice va P.length vc) P.length (intCells P)) := own_on HO3.out b5
  have HB5 : Hid (Below w.heap.size w x5) := b1.trans (((b2.trans ((b3.trans ((b4.trans (b5.mono b4.size)).mono b3.size)).mono b2.size)).mono b1.size))
  have hx1 : w.heap.size ≤ x1.heap.size := b1.size
  have HX1 : Hid (∀ b, (Value.slice la P.length lc).ownBlock = some b → b < x1.heap.size) := fun b hb => (HOL.out.lt b hb).2
  clear b2 b3 b4 b5 b1 HOL HOM HO3
  go_wp2_with fail
  refine (sameInts_any w.heap.size x3.heap.size _ _ P P _ HL5.out HV5.out (by omega)).mono ?_
  rintro e x6 ⟨rfl, q1, rfl⟩
  rw [decide_eq_true rfl]
  go_wp2_with fail
  refine (sameInts_any x1.heap.size x3.heap.size _ _ P P _ (own_draw HM5.out q1) (own_draw HV5.out q1) (by omega)).mono ?_
  rintro e x7 ⟨rfl, q2, rfl⟩
  rw [decide_eq_true rfl]
  go_wp2_with (go_at_call 11; refine (num_any _ _).mono ?_; rintro e y1 ⟨rfl, hy1⟩; subst y1)
  have HW : Hid (∀ o : Obj, ∀ q : Nat, ((x5.drewN q).alloc o).ownsRow w.heap.size 3 1 (.slice la P.length lc) P.length (intCells P)) := fun o q => (own_draw HL5.out q).alloc o
  have HN : Hid (∀ o : Obj, ∀ q : Nat, ((x5.drewN q).alloc o).ownsRow w.heap.size 3 1 (.slice ma P.length mc) P.length (intCells P)) := fun o q => own_mono ((own_draw HM5.out q).alloc o) hx1
  refine (apart_any w.heap.size x5.heap.size (fun i => if i = 0 then la else ma) (fun _ => P.length) (fun i => if i = 0 then lc else mc) (fun _ => P) ((x5.drewN (q1 + q2)).alloc (.cells #[.slice la P.length lc, .slice ma P.length mc] 47)) (by exact heap_alloc_new (x5.drewN (q1 + q2)) _) ?_ (fun _ _ => by omega) (fun _ _ => rfl) ?_ ?_).mono ?_
  · intro j hj
    match j, hj with
    | 0, _ => exact HW.out _ _
    | 1, _ => exact HN.out _ _
  · intro j j' hj hj' hne b hb hb'
    match j, j', hj, hj', hne with
    | 0, 0, _, _, hne => exact hne rfl
    | 1, 1, _, _, hne => exact hne rfl
    | 0, 1, _, _, _ =>
      have h1 := HX1.out b hb
      have h2 := (HM5.out.lt b hb').1
      omega
    | 1, 0, _, _, _ =>
      have h1 := HX1.out b hb'
      have h2 := (HM5.out.lt b hb).1
      omega
  · have := HB5.out.size
    simp
    omega
  rintro e x8 ⟨rfl, b8⟩
  have HB8 : Hid (Below w.heap.size w x8) := ((below_drewN HB5.out _).alloc (by have := HB5.out.size; simpa using this) _).trans b8
  clear b8 HW HN HL5 HM5 HV5
  go_wp2_with fail
  refine (knows_any _).mono ?_
  rintro e x9 ⟨rfl, b9⟩
  go_wp2
  go_ret
  exact ⟨rfl, HB8.out.trans (b9.mono HB8.out.size)⟩
/-! ### The row's step -/
theorem own : ownKnob Try.prog.godebug = none := by kernel_rfl
theorem contract (H : Type) (enc : TypeId × Value → H) (W : World) (base : Nat) (args : Array Value) (ds gs : List (DataW H)) (before : List MemPlace)
    (hval : ∀ (j : Nat) t v, Try.f6.params[j]? = some t → args[j]? = some v → Value.okWide Try.prog W .any base t v)
    (hW : DataW.Whole enc Try.prog Try.f6.params.toList Rows.wordPeriodsSpec.vars false W args.toList ds gs before) (hk : Rows.uptoSmall H (ds ++ gs) = true) :
    Calls Try.prog 6 args W fun e W' => ∃ v, e = .returned v ∧ Rows.wordPeriodsSpec.post enc Try.prog Try.f6 false true false false W args v W' := by
  have hW' := hW
  obtain ⟨p, q, hA0, hV, rfl, hfz, hnd⟩ := hW
  have hA : DataW.TrodAll enc Try.prog W 0 (fun _ => true) true Try.f6.params.toList args.toList ds p := hA0
  rw [Try.params6] at hA hval
  obtain ⟨v0, vs0, d0, ds0, p0, q0, hargs, rfl, rfl, h0, r0⟩ := trodAll_cons hA
  obtain ⟨v1, vs1, d1, ds1, p1, q1, rfl, rfl, rfl, h1, r1⟩ := trodAll_cons r0
  obtain ⟨rfl, rfl, rfl⟩ := trodAll_nil r1
  obtain rfl : args = #[v0, v1] := by cases args; simp_all
  obtain ⟨rfl, rfl⟩ := trodVars_none hV
  obtain ⟨a0, rfl, rfl, rfl, w0⟩ := open_int Try.underlying3 (hval 0 3 v0 rfl rfl) h0
  obtain ⟨a1, rfl, rfl, rfl, w1⟩ := open_string Try.underlying9 (hval 1 9 v1 rfl rfl) h1
  have z0 := w0
  have z1 : a1.size ≤ 1048576 := by
    have h := of_decide_eq_true hk
    simp only [List.append_nil, Rows.uptoBulkAll, Rows.uptoBulk, Array.length_toList] at h
    have e : ∀ x : ByteArray, x.data.size = x.size := fun x => rfl
    simp only [e] at h
    omega
  clear hA0
  refine (walk a0 a1 z0 z1 W).mono fun e W' ⟨he, bel⟩ => ?_
  subst he
  exact ⟨_, rfl, _, _, _, [], _, [], hW', trodAll_mk1 (shut_bool Try.underlying4 _), (trodAll_cons_mk (shut_int Try.underlying3 w0) (trodAll_cons_mk (shut_string Try.underlying9 w1) trodAll_mk0)), rfl, bel.frame _, fun h => by cases h⟩

set_option maxRecDepth 100000 in
theorem lifted (os : Os) (started : os.Started) (H : Type) (enc : TypeId × Value → H) (F : Stop.Interp) :
    ReturnsInHanded {} Try.checked os 6 .any ((Rows.OpenSpec.upto Rows.wordPeriodsSpec).pre6 enc Try.prog Try.f6 Rows.wordPeriodsUptoRow.domain false) (((Rows.OpenSpec.upto Rows.wordPeriodsSpec).at F).post enc Try.prog Try.f6 false true false false) := by
  refine returnsInHanded_of_cond (C := Try.checked) (s := Rows.OpenSpec.upto Rows.wordPeriodsSpec) (k := Rows.uptoSmall) rfl own started (by kernel_rfl) Try.func6
    (OpenSpec.witness (enc := enc) (C := Try.checked) (s := Rows.OpenSpec.upto Rows.wordPeriodsSpec) (k := Rows.uptoSmall) rfl false ⟨#[], #[.int .i64 0, .string ByteArray.empty], []⟩ 8 (by kernel_rfl) (by kernel_rfl) (by kernel_rfl)
      (x := ([.lit (.int .i64 0), .lit (.string [])], [], [])) (by kernel_rfl) rfl (by kernel_rfl)) ?_
  intro W base args ds gs before hval hW _ hk _
  exact contract H enc W base args ds gs before hval hW hk

theorem over : Rows.wordPeriodsUptoRow.holds Try.pinned (Rows.OpenSpec.upto Rows.wordPeriodsSpec) :=
  OpenClaim.holds_of_cond 6 Try.f6 rfl rfl rfl rfl rfl rfl rfl ⟨rfl, rfl, rfl, rfl, rfl⟩ rfl rfl rfl rfl rfl (by kernel_rfl) Try.func6 (by kernel_rfl)
    (of_decide_eq_true (by kernel_rfl)) (by unfold Func.isWrapper; first | (rw [if_pos (by decide +kernel)]; kernel_rfl) | (rw [if_neg (by decide +kernel)]; exact ⟨rfl, rfl⟩))
    (fun os started H enc _ F => lifted os started H enc F)

end Go.Proofs.Ytocdifclkopbcaa.wordPeriods
namespace Go.Proofs.Ytocdifclkopbcaa
/-- The given statement. -/
theorem wordPeriods_holds : Rows.WordPeriodsUptoSaid := wordPeriods.over
end Go.Proofs.Ytocdifclkopbcaa
