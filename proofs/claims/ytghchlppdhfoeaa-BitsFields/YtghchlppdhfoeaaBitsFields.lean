/- Proved: eggboxlaw02.BitsFields answers true at every set, place and worth (P2.7): bits.Field and bits.Put answer what the document's Field and Put answer; its arguments read behind the call as before. -/
import Derived.Test.YtghchlppdhfoeaaRp
import Derived.Test.YtghchlppdhfoeaaBk
import Derived.ProofKit
import Derived.OpenShut
import Derived.ShutString
import Derived.ChangeOld
import Derived.JoinedCond
namespace Go.Proofs.Ytghchlppdhfoeaa.bitsFields
open Go.ChangeShapes Go.WideShapes Go.ChangeAt Go.RowKit
set_option linter.unusedVariables false

theorem i64_bounds {n : Int} (h : (Lit.int .i64 n).wf = true) : -9223372036854775808 ≤ n ∧ n ≤ 9223372036854775807 := by
  simp [Lit.wf, IntKind.min, IntKind.max, IntKind.signed, IntKind.bits] at h
  exact h
theorem start2 {w w1 : World} {S P : Array Value} {s p : TypeId} (h : Below ((w.alloc (.cells S s)).alloc (.cells P p)).heap.size ((w.alloc (.cells S s)).alloc (.cells P p)) w1) :
    RowAt w1 w.heap.size S ∧ RowAt w1 (w.heap.size + 1) P := by
  refine ⟨((RowAt.last w S s).alloc _).stay h, ?_⟩
  have := (RowAt.last (w.alloc (.cells S s)) P p).stay h
  simpa using this

set_option maxHeartbeats 4000000 in
set_option maxRecDepth 100000 in
theorem walk (N : Nat) (a b : Int) (v : Nat) (hN : Fits N) (ha : (Lit.int .i64 a).wf = true) (hb : (Lit.int .i64 b).wf = true) (hv : v < 18446744073709551616) (w : World) :
    Calls Try.prog 5 #[setV N, placeV a b, .int .u64 v] w fun e w' => e = .returned (.bool true) ∧ Below w.heap.size w w' := by
  have HA : Hid _ := i64_bounds ha
  have HB : Hid _ := i64_bounds hb
  clear ha hb
  obtain ⟨F, FE, HF⟩ : ∃ F FE, Hid (fieldN N a b = F ∧ fieldE a b = FE) := ⟨_, _, rfl, rfl⟩
  obtain ⟨P, PE, HP⟩ : ∃ P PE, Hid (putN N a b v = P ∧ putE a b v = PE) := ⟨_, _, rfl, rfl⟩
  have hP := eq_same (word P)
  unfold setV cellsF placeV
  unfold cellsF at hP
  go_enter Try.func5, Try.ntmps5
  go_wp2_with (first
    | (go_at_call 8; refine (num_any _ _).mono ?_; rintro e wn ⟨rfl, rfl⟩)
    | (go_at_call 22; refine (field_any N a b _).mono ?_; rintro e w1 ⟨rfl, hb1⟩; rw [HF.out.1, HF.out.2]; obtain ⟨rs, rp⟩ := start2 hb1; have cs := RowAt.cell rs; have cp := RowAt.cell rp)
    | (go_at_call 23; refine (rfield_any N a b _ HA.out HB.out).mono ?_; rintro e w2 ⟨rfl, hb2⟩; rw [HF.out.1, HF.out.2]; have rs := RowAt.stay rs hb2; have rp := RowAt.stay rp hb2; have cs := RowAt.cell rs; have ds := RowAt.cellA rs; have cp := RowAt.cell rp; have dp := RowAt.cellA rp)
    | (go_at_call 24; refine (put_any N a b v hv _).mono ?_; rintro e w3 ⟨rfl, hb3⟩; rw [HP.out.1, HP.out.2]; unfold setV cellsF; have rs := RowAt.stay rs hb3; have rp := RowAt.stay rp hb3; have cs := RowAt.cell rs; have ds := RowAt.cellA rs; have cp := RowAt.cell rp; have dp := RowAt.cellA rp)
    | (go_at_call 25; refine (rput_any N hN a b v hv _ HA.out HB.out).mono ?_; rintro e w4 ⟨rfl, hb4⟩; rw [HP.out.1, HP.out.2]; unfold setV cellsF; have rs := RowAt.step rs hb4; have rp := RowAt.step rp hb4; have rc := RowAt.new hb4; have cs := RowAt.cell rs; have ds := RowAt.cellA rs; have cp := RowAt.cell rp; have dp := RowAt.cellA rp; have cc := RowAt.cell rc; have dc := RowAt.cellA rc)
    | (go_at_call 19; refine (live_any _).mono ?_; rintro e wl ⟨rfl, hbl⟩))
  go_ret
  exact ⟨rfl, go_new (go_new (go_on (go_on (go_on (((Below.refl _ _).alloc (Nat.le_refl _) _).alloc (by simp) _) hb1) hb2) hb3) hb4) hbl⟩

/-! ### The row's step -/
theorem own : ownKnob Try.prog.godebug = none := by kernel_rfl
set_option maxRecDepth 100000 in
theorem lifted (os : Os) (started : os.Started) (H : Type) (enc : TypeId × Value → H) :
    ReturnsInHanded {} Try.checked os 5 .any (Rows.bitsFieldsSpec.pre6 enc Try.prog Try.f5 Rows.bitsFieldsRow.domain false) (Rows.bitsFieldsSpec.post enc Try.prog Try.f5 false true false false) := by
  refine returnsInHanded_of_change (C := Try.checked) own started (by kernel_rfl) Try.func5
    (ChangeSpec.witness6 (enc := enc) (C := Try.checked) false ⟨#[], #[.agg #[.int .u64 0, .int .u64 0, .int .u64 0, .int .u64 0, .int .u64 0, .int .u64 0, .int .u64 0, .int .u64 0], .agg #[.int .i64 0, .int .i64 0], .int .u64 0], []⟩ 8 (by kernel_rfl) (by kernel_rfl) (by kernel_rfl) (by kernel_rfl)) ?_
  intro W base args ds gs before hval0 hW hcnd _
  have hval : ∀ (j : Nat) t v, Try.f5.params[j]? = some t → args[j]? = some v → Value.okWide Try.prog W .any base t v := hval0
  clear hval0
  have hW' := hW
  obtain ⟨p, q, hA0, hV, rfl, hfz, hnd⟩ := hW
  have hA : DataW.TrodAll enc Try.prog W 0 (fun _ => true) true Try.f5.params.toList args.toList ds p := hA0
  rw [Try.params5] at hA hval
  obtain ⟨v0, vs0, d0, ds0, p0, q0, hargs, rfl, rfl, h0, r0⟩ := trodAll_cons hA
  obtain ⟨v1, vs1, d1, ds1, p1, q1, rfl, rfl, rfl, h1, r1⟩ := trodAll_cons r0
  obtain ⟨v2, vs2, d2, ds2, p2, q2, rfl, rfl, rfl, h2, r2⟩ := trodAll_cons r1
  obtain ⟨rfl, rfl, rfl⟩ := trodAll_nil r2
  obtain rfl : args = #[v0, v1, v2] := by cases args; simp_all
  obtain ⟨rfl, rfl⟩ := trodVars_none hV
  obtain ⟨a0, rfl, rfl, rfl, w0⟩ := open_set (hval 0 24 v0 rfl rfl) h0
  obtain ⟨a1, b1, rfl, rfl, rfl, w1, x1⟩ := open_place (hval 1 43 v1 rfl rfl) h1
  obtain ⟨n2, rfl, rfl, rfl, x2⟩ := open_int Try.underlying22 (hval 2 22 v2 rfl rfl) h2
  obtain ⟨a2, rfl, w2⟩ := u64_nat x2
  have z0 := w0
  have z1 := w1
  have z2 := w2
  clear hA0
  refine (walk a0 a1 b1 a2 z0 w1 x1 z2 W).mono fun e W' ⟨he, bel⟩ => ?_
  subst he
  exact ⟨_, rfl, _, _, _, [], _, [], hW', trodAll_mk1 (shut_bool Try.underlying4 _), (trodAll_cons_mk (shut_set a0) (trodAll_cons_mk (shut_place w1 x1) (trodAll_cons_mk (shut_int Try.underlying22 x2) trodAll_mk0))), rfl, bel.frame _, fun h => by cases h⟩

theorem over : Rows.bitsFieldsRow.holds Try.pinned (OpenSpec.ofChange Rows.bitsFieldsSpec) :=
  OpenClaim.holds_of_wide 5 Try.f5 rfl rfl rfl rfl rfl rfl rfl ⟨rfl, rfl, rfl, rfl, rfl⟩ rfl rfl rfl rfl rfl (by kernel_rfl) Try.func5 (by kernel_rfl)
    (of_decide_eq_true (by kernel_rfl)) (by unfold Func.isWrapper; first | (rw [if_pos (by decide +kernel)]; kernel_rfl) | (rw [if_neg (by decide +kernel)]; exact ⟨rfl, rfl⟩))
    (fun os started H enc _ => lifted os started H enc)

end Go.Proofs.Ytghchlppdhfoeaa.bitsFields
namespace Go.Proofs.Ytghchlppdhfoeaa
/-- The given statement. -/
theorem bitsFields_holds : Rows.BitsFieldsSaid := bitsFields.over
end Go.Proofs.Ytghchlppdhfoeaa
