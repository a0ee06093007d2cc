/- Proved: eggboxlaw13.TransMakes answers true at every list l and any transformation's data t (P1302): trans.Make and trans.Check answer what the document's answer, with the same error, and what is handed in stays. No condition. -/
import Derived.Test.YthglficjhgpegaaCe
import Derived.Test.YthglficjhgpegaaCf
import Derived.Test.YthglficjhgpegaaLi
namespace Go.Proofs.Ythglficjhgpegaa.transMakes
open Go Go.ChangeShapes Go.WideShapes Go.ChangeAt Go.RowKit Go.Lib
open Go.ChangeMaps (open_string shut_string)
set_option linter.unusedVariables false

theorem reads_prefix {w : World} {a : Option Addr} {n cap : Nat} {xs ys : List Int} (h : Reads w (.slice a n cap) (xs ++ ys)) : Reads w (.slice a xs.length cap) xs := by
  obtain ⟨a', cap', hv, hr⟩ := h
  simp only [Value.slice.injEq] at hv
  obtain ⟨rfl, hn, rfl⟩ := hv
  refine ⟨a, cap, rfl, fun i hi => ?_⟩
  obtain ⟨g, o, e, hg, hc⟩ := hr i (by rw [List.length_append]; omega)
  refine ⟨g, o, e, hg, ?_⟩
  rw [hc, List.getD_eq_getElem?_getD, List.getD_eq_getElem?_getD, List.getElem?_append_left hi]
/-- What stays in the law's last statement. -/
structure SM (L : List (Nat × Int × (Nat → Nat))) (W : World) (B g n cap : Nat) (xs : List Int) (w' : World) : Prop where
  k : KG L W w'
  row : w'.ownsRow B 3 1 (.slice (some ⟨g, 0, none⟩) n cap) n (zC (xs ++ [-77, -78]))
theorem SM.call {L : List (Nat × Int × (Nat → Nat))} {W : World} {B g n cap : Nat} {xs : List Int} {w y : World} (h : SM L W B g n cap xs w) (hb : Below w.heap.size w y) : SM L W B g n cap xs y := ⟨h.k.call hb, own_below h.row hb⟩

set_option maxHeartbeats 16000000 in
set_option maxRecDepth 100000 in
theorem walk (v0 : Value) (a0 : List Int) (N1 : Int) (g1 : Nat → Nat) (W : World) (r0 : Reads W v0 a0) (b0 : ∀ x ∈ a0, I64 x) (n0 : ∀ c, v0 = .slice none 0 c → c = 0) (z0 : (a0.length + 2) * 8 ≤ 140737488355328) (x1 : W64 g1) (i1 : I64 N1) :
    Calls Try.prog 3 #[v0, .agg (trC N1 g1)] W fun e w' => e = .returned (.bool true) ∧ Below W.heap.size W w' := by
  obtain ⟨M, f, e0, q⟩ := mkV_two a0
  have HM : Hid (∀ w v, Reads w v a0 → Calls Try.prog 10 #[v] w fun e w' => e = .returned (.tuple #[.agg (trC M f), .int .i64 e0]) ∧ Below w.heap.size w w') := fun w v hr => by
    have := make_any v a0 w hr (by omega)
    rw [q] at this
    exact this
  have HR : Hid (∀ w v, Reads w v a0 → Calls Try.prog 11 #[v] w fun e w' => e = .returned (.tuple #[.agg (trC M f), .int .i64 e0]) ∧ Below w.heap.size w w') := fun w v hr => by
    have := rmake_any v a0 w hr (by omega)
    rw [q] at this
    exact this
  have HX : Hid (W64 g1) := x1
  have HV : Hid (Reads W v0 a0) := r0
  have HN0 : Hid (∀ c, v0 = .slice none 0 c → c = 0) := n0
  have HZ0 : Hid ((a0.length + 2) * 8 ≤ 140737488355328) := z0
  clear q x1 i1 r0 b0 n0 z0
  have HK1 : Hid (KG [(W.heap.size, N1, g1)] W (W.alloc (.cells (trC N1 g1) 26))) := (KG.new (L := []) ⟨fun p hp => by simp at hp, Below.refl _ _⟩ N1 g1)
  go_enter Try.func3, Try.ntmps3
  go_wp2_with (first
    | (refine wg_load rfl rfl (HK1.out.get (b := W.heap.size) (N := N1) (g := g1) (by simp)) rfl ?_)
    | (refine wg_eq rfl rfl rfl rfl ?_)
    | (go_at_call 12; refine (num13_any _ _).mono ?_; rintro e wn ⟨rfl, rfl⟩))
  refine (lent_any v0 a0 _ (HV.out.below HK1.out.below) HN0.out HZ0.out).mono ?_
  rintro e w2 ⟨g, cap, rfl, hO, hB⟩
  have HO1 : Hid (w2.ownsRow (W.heap.size + 1) 3 1 (.slice (some ⟨g, 0, none⟩) (a0.length + 2) cap) (a0.length + 2) (zC (a0 ++ [-77, -78]))) := by rw [World.size_alloc] at hO; exact hO
  clear hO
  have HK2 : Hid (KG [(W.heap.size, N1, g1)] W w2) := HK1.out.call hB
  clear hB HK1
  have HRD : Hid (Reads w2 (.slice (some ⟨g, 0, none⟩) a0.length cap) a0) := reads_prefix (n := a0.length + 2) (ys := [-77, -78]) (by apply own_reads (base := W.heap.size + 1); rw [List.length_append]; exact HO1.out)
  go_wp2_with (first
    | (refine wg_load rfl rfl (HK2.out.get (b := W.heap.size) (N := N1) (g := g1) (by simp)) rfl ?_)
    | (refine wg_eq rfl rfl rfl rfl ?_)
    | (go_at_call 12; refine (num13_any _ _).mono ?_; rintro e wn ⟨rfl, rfl⟩))
  refine (HM.out _ _ HRD.out).mono ?_
  rintro e w3 ⟨rfl, hB⟩
  have HJ3 : Hid (KG [(W.heap.size, N1, g1)] W w3) := HK2.out.call hB
  have HO2 : Hid (w3.ownsRow (W.heap.size + 1) 3 1 (.slice (some ⟨g, 0, none⟩) (a0.length + 2) cap) (a0.length + 2) (zC (a0 ++ [-77, -78]))) := own_below HO1.out hB
  clear hB HO1 HRD
  have hst := st_trNewG w3 M f
  have HO3 : Hid ((w3.alloc (.cells (trC M f) 26)).ownsRow (W.heap.size + 1) 3 1 (.slice (some ⟨g, 0, none⟩) (a0.length + 2) cap) (a0.length + 2) (zC (a0 ++ [-77, -78]))) := own_below HO2.out ((Below.refl _ _).alloc (Nat.le_refl _) _)
  have HK3 : Hid (KG [(w3.heap.size, M, f), (W.heap.size, N1, g1)] W (w3.alloc (.cells (trC M f) 26))) := HJ3.out.new _ _
  clear HJ3 HO2
  go_wp2_with (first
    | (refine wg_load rfl rfl (HK3.out.get (b := w3.heap.size) (N := M) (g := f) (by simp)) rfl ?_)
    | (refine wg_load rfl rfl (HK3.out.get (b := W.heap.size) (N := N1) (g := g1) (by simp)) rfl ?_)
    | (refine wg_eq rfl rfl rfl rfl ?_)
    | (go_at_call 12; refine (num13_any _ _).mono ?_; rintro e wn ⟨rfl, rfl⟩))
  clear hst
  refine (HR.out _ _ (HV.out.below HK3.out.below)).mono ?_
  rintro e w4 ⟨rfl, hB⟩
  have HJ4 : Hid (KG [(w3.heap.size, M, f), (W.heap.size, N1, g1)] W w4) := HK3.out.call hB
  have HO4 : Hid (w4.ownsRow (W.heap.size + 1) 3 1 (.slice (some ⟨g, 0, none⟩) (a0.length + 2) cap) (a0.length + 2) (zC (a0 ++ [-77, -78]))) := own_below HO3.out hB
  clear hB HO3
  have hst := st_trNewG w4 M f
  have HS : Hid (SM [(w4.heap.size, M, f), (w3.heap.size, M, f), (W.heap.size, N1, g1)] W (W.heap.size + 1) g (a0.length + 2) cap a0 (w4.alloc (.cells (trC M f) 26))) := ⟨HJ4.out.new _ _, own_below HO4.out ((Below.refl _ _).alloc (Nat.le_refl _) _)⟩
  clear HJ4 HO4 HK3
  go_wp2_with fail
  clear hst
  refine wp_region_held_drew (S := fun w' => SM [(w4.heap.size, M, f), (w3.heap.size, M, f), (W.heap.size, N1, g1)] W (W.heap.size + 1) g (a0.length + 2) cap a0 w') (by kernel_rfl) (HS.out.call ((Below.refl _ _).drew)) (fun hH0 => ?_)
  generalize (w4.alloc (.cells (trC M f) 26)).drew = y0 at hH0 ⊢
  refine wpAnyH_take (i := 0) (v := .agg (trC M f)) rfl (by kernel_rfl) (by kernel_rfl) (by kernel_rfl) (fun _ _ _ h => h) (Or.inl ⟨by rfl, ?_⟩) (by assumption) ?_
  · intro w' hS; exact ex_load_row (x := .tmp 6) rfl rfl (lv_tr (hS.k.get (b := w3.heap.size) (N := M) (g := f) (by simp)))
  refine wpAnyH_take (i := 1) (v := .agg (trC M f)) rfl (by kernel_rfl) (by kernel_rfl) (by kernel_rfl) (fun _ _ _ h => h) (Or.inl ⟨by rfl, ?_⟩) (by assumption) ?_
  · intro w' hS; exact ex_load_row (x := .tmp 8) rfl rfl (lv_tr (hS.k.get (b := w4.heap.size) (N := M) (g := f) (by simp)))
  refine wpAnyH_take (i := 2) (v := .bool true) rfl (by kernel_rfl) (by kernel_rfl) (by kernel_rfl) (fun _ _ _ h => h) (Or.inl ⟨by rfl, ?_⟩) (by assumption) ?_
  · intro w' hS; exact (ex_eql_trG (x := .tmp 22) (y := .tmp 23) (N := M) (M := M) (f := f) (g := f) rfl rfl rfl w').trans (by rw [same2_refl])
  refine wpAnyH_take (i := 3) (v := ?_) rfl (by kernel_rfl) (by kernel_rfl) (by kernel_rfl) (fun _ _ _ h => h) (Or.inl ⟨by rfl, ?_⟩) (by assumption) ?_
  rotate_left
  · intro w' hS; go_simp; (try with_reducible rfl)
  refine wpAnyH_take (i := 4) (v := ?_) rfl (by kernel_rfl) (by kernel_rfl) (by kernel_rfl) (fun _ _ _ h => h) (Or.inl ⟨by rfl, ?_⟩) (by assumption) ?_
  rotate_left
  · intro w' hS; go_simp; (try with_reducible rfl)
  refine wpAnyH_take (i := 6) (v := ?_) rfl (by kernel_rfl) (by kernel_rfl) (by kernel_rfl) (fun _ _ _ h => h) (Or.inl ⟨by rfl, ?_⟩) (by assumption) ?_
  rotate_left
  · intro w' hS; go_simp; (try with_reducible rfl)
  refine wpAnyH_ready (rs := [5]) (by kernel_rfl) (by simp) ?_
  refine AllReadyH.cons rfl (fun K hK => ?_) AllReadyH.nil
  go_simp
  refine (num13_any _ _).mono ?_
  rintro e yy ⟨rfl, rfl⟩
  go_wp2_with fail
  refine hK.out _ _ hH0 (fun hH1 => ?_)
  clear hK K
  refine wpAnyH_take (i := 7) (v := ?_) rfl (by kernel_rfl) (by kernel_rfl) (by kernel_rfl) (fun _ _ _ h => h) (Or.inl ⟨by rfl, ?_⟩) (by assumption) ?_
  rotate_left
  · intro w' hS; go_simp; (try with_reducible rfl)
  refine wpAnyH_take (i := 8) (v := ?_) rfl (by kernel_rfl) (by kernel_rfl) (by kernel_rfl) (fun _ _ _ h => h) (Or.inl ⟨by rfl, ?_⟩) (by assumption) ?_
  rotate_left
  · intro w' hS; go_simp; (try with_reducible rfl)
  refine wpAnyH_take (i := 9) (v := ?_) rfl (by kernel_rfl) (by kernel_rfl) (by kernel_rfl) (fun _ _ _ h => h) (Or.inl ⟨by rfl, ?_⟩) (by assumption) ?_
  rotate_left
  · intro w' hS; go_simp; (try with_reducible rfl)
  refine wpAnyH_take (i := 10) (v := .agg (trC N1 g1)) rfl (by kernel_rfl) (by kernel_rfl) (by kernel_rfl) (fun _ _ _ h => h) (Or.inl ⟨by rfl, ?_⟩) (by assumption) ?_
  · intro w' hS; exact ex_load_row (x := .tmp 3) rfl rfl (lv_tr (hS.k.get (b := W.heap.size) (N := N1) (g := g1) (by simp)))
  refine wpAnyH_take (i := 13) (v := .agg (trC N1 g1)) rfl (by kernel_rfl) (by kernel_rfl) (by kernel_rfl) (fun _ _ _ h => h) (Or.inl ⟨by rfl, ?_⟩) (by assumption) ?_
  · intro w' hS; exact ex_load_row (x := .tmp 3) rfl rfl (lv_tr (hS.k.get (b := W.heap.size) (N := N1) (g := g1) (by simp)))
  refine wpAnyH_ready (rs := [11]) (by kernel_rfl) (by simp) ?_
  refine AllReadyH.cons rfl (fun K hK => ?_) AllReadyH.nil
  go_simp
  refine (tcheck_any N1 g1 HX.out _).mono ?_
  rintro e y2 ⟨rfl, hB⟩
  have hN := hH1.call hB
  clear hB
  go_wp2_with fail
  refine hK.out _ _ hN (fun hH2 => ?_)
  clear hN
  clear hK K
  refine wpAnyH_ready (rs := [12]) (by kernel_rfl) (by simp) ?_
  refine AllReadyH.cons rfl (fun K hK => ?_) AllReadyH.nil
  go_simp
  refine (num13_any _ _).mono ?_
  rintro e yy ⟨rfl, rfl⟩
  go_wp2_with fail
  refine hK.out _ _ hH2 (fun hH3 => ?_)
  clear hK K
  refine wpAnyH_ready (rs := [14]) (by kernel_rfl) (by simp) ?_
  refine AllReadyH.cons rfl (fun K hK => ?_) AllReadyH.nil
  go_simp
  refine (rcheck_any N1 g1 HX.out _).mono ?_
  rintro e y4 ⟨rfl, hB⟩
  have hN := hH3.call hB
  clear hB
  go_wp2_with fail
  refine hK.out _ _ hN (fun hH4 => ?_)
  clear hN
  clear hK K
  refine wpAnyH_take (i := 15) (v := ?_) rfl (by kernel_rfl) (by kernel_rfl) (by kernel_rfl) (fun _ _ _ h => h) (Or.inl ⟨by rfl, ?_⟩) (by assumption) ?_
  rotate_left
  · intro w' hS; go_simp; (try with_reducible rfl)
  refine wpAnyH_take (i := 16) (v := ?_) rfl (by kernel_rfl) (by kernel_rfl) (by kernel_rfl) (fun _ _ _ h => h) (Or.inl ⟨by rfl, ?_⟩) (by assumption) ?_
  rotate_left
  · intro w' hS; go_simp; (try with_reducible rfl)
  refine wpAnyH_take (i := 17) (v := ?_) rfl (by kernel_rfl) (by kernel_rfl) (by kernel_rfl) (fun _ _ _ h => h) (Or.inl ⟨by rfl, ?_⟩) (by assumption) ?_
  rotate_left
  · intro w' hS; go_simp; (try with_reducible rfl)
  refine wpAnyH_take (i := 18) (v := ?_) rfl (by kernel_rfl) (by kernel_rfl) (by kernel_rfl) (fun _ _ _ h => h) (Or.inl ⟨by rfl, ?_⟩) (by assumption) ?_
  rotate_left
  · intro w' hS; go_simp; (try with_reducible rfl)
  refine wpAnyH_take (i := 19) (v := ?_) rfl (by kernel_rfl) (by kernel_rfl) (by kernel_rfl) (fun _ _ _ h => h) (Or.inl ⟨by rfl, ?_⟩) (by assumption) ?_
  rotate_left
  · intro w' hS; go_simp; (try with_reducible rfl)
  refine wpAnyH_ready (rs := [20]) (by kernel_rfl) (by simp) ?_
  refine AllReadyH.cons rfl (fun K hK => ?_) AllReadyH.nil
  go_simp
  refine (stay_any v0 a0 _ (HV.out.below hH4.k.below) (W.heap.size + 1) g cap (by have := HZ0.out; omega) hH4.row).mono ?_
  rintro e y5 ⟨rfl, hB⟩
  have hN := hH4.call hB
  clear hB
  go_wp2_with fail
  refine hK.out _ _ hN (fun hH5 => ?_)
  clear hN
  clear hK K
  refine wpAnyH_take (i := 21) (v := ?_) rfl (by kernel_rfl) (by kernel_rfl) (by kernel_rfl) (fun _ _ _ h => h) (Or.inl ⟨by rfl, ?_⟩) (by assumption) ?_
  rotate_left
  · intro w' hS; go_simp; (try with_reducible rfl)
  refine wpAnyH_take (i := 22) (v := ?_) rfl (by kernel_rfl) (by kernel_rfl) (by kernel_rfl) (fun _ _ _ h => h) (Or.inl ⟨by rfl, ?_⟩) (by assumption) ?_
  rotate_left
  · intro w' hS; go_simp; (try with_reducible rfl)
  refine wpAnyH_ready (rs := [23]) (by kernel_rfl) (by simp) ?_
  refine AllReadyH.cons rfl (fun K hK => ?_) AllReadyH.nil
  go_simp
  refine (knows13_any _).mono ?_
  rintro e y6 ⟨rfl, hB⟩
  have hN := hH5.call hB
  clear hB
  go_wp2_with fail
  refine hK.out _ _ hN (fun hH6 => ?_)
  clear hN
  clear hK K
  refine wpAnyH_take (i := 24) (v := ?_) rfl (by kernel_rfl) (by kernel_rfl) (by kernel_rfl) (fun _ _ _ h => h) (Or.inl ⟨by rfl, ?_⟩) (by assumption) ?_
  rotate_left
  · intro w' hS; go_simp; (try with_reducible rfl)
  refine wpAnyH_take (i := 25) (v := ?_) rfl (by kernel_rfl) (by kernel_rfl) (by kernel_rfl) (fun _ _ _ h => h) (Or.inl ⟨by rfl, ?_⟩) (by assumption) ?_
  rotate_left
  · intro w' hS; go_simp; (try with_reducible rfl)
  refine wpAnyH_done (by kernel_rfl) ?_ _
  go_wp2_with fail
  go_ret
  exact ⟨rfl, hH6.k.below⟩

/-! ### The row's step -/
theorem own : ownKnob Try.prog.godebug = none := by kernel_rfl
set_option maxRecDepth 100000 in
theorem lifted (os : Os) (started : os.Started) (H : Type) (enc : TypeId × Value → H) :
    ReturnsInHanded {} Try.checked os 3 .any (Rows.transMakesSpec.pre6 enc Try.prog Try.f3 Rows.transMakesRow.domain false) (Rows.transMakesSpec.post enc Try.prog Try.f3 false true false false) := by
  refine returnsInHanded_of_change_sized (C := Try.checked) own started (by kernel_rfl) Try.func3
    (ChangeSpec.witness6 (enc := enc) (C := Try.checked) false ⟨#[], #[.slice none 0 0, .agg #[.int .i64 0, .int .u64 0, .int .u64 0, .int .u64 0, .int .u64 0, .int .u64 0, .int .u64 0, .int .u64 0]], []⟩ 8 (by kernel_rfl) (by kernel_rfl) (by kernel_rfl) (by kernel_rfl)) ?_
  intro W base args ds gs before hval0 hW hcnd hsz0 _
  have hval : ∀ (j : Nat) t v, Try.f3.params[j]? = some t → args[j]? = some v → Value.okWide Try.prog W .any base t v := hval0
  clear hval0
  have hsz : (DataW.weightsEach Try.prog (Try.f3.params.toList ++ Rows.transMakesSpec.plain.varTypes Try.prog) (ds ++ gs)).all (· ≤ reachBytes) = true := hsz0
  clear hsz0
  have hW' := hW
  obtain ⟨p, q, hA0, hV, rfl, hfz, hnd⟩ := hW
  have hA : DataW.TrodAll enc Try.prog W 0 (fun _ => true) true Try.f3.params.toList args.toList ds p := hA0
  rw [Try.params3] at hA hval hsz
  obtain ⟨v0, vs0, d0, ds0, p0, q0, hargs, rfl, rfl, h0, r0⟩ := trodAll_cons hA
  obtain ⟨v1, vs1, d1, ds1, p1, q1, rfl, rfl, rfl, h1, r1⟩ := trodAll_cons r0
  obtain ⟨rfl, rfl, rfl⟩ := trodAll_nil r1
  obtain rfl : args = #[v0, v1] := by cases args; simp_all
  obtain ⟨rfl, rfl⟩ := trodVars_none hV
  obtain ⟨a0, w0, i0, x0, y0⟩ := open_listW (hval 0 22 v0 rfl rfl) h0
  have z0 : (a0.length + 2) * 8 ≤ 140737488355328 := by
    rcases y0 with ⟨_, rfl⟩ | ⟨e, s, rfl, hy⟩
    · decide
    · have := sized_slice hsz (j := 0) (t := 22) rfl rfl Try.underlying22
      rw [Try.bytes_int1] at this
      simp only [reachBytes] at this
      omega
  have g0 : ∀ x ∈ p0, x.block < W.heap.size := fun x hx => hW'.lt x (by simp [hx])
  obtain ⟨N1, a1, rfl, rfl, rfl, w1, x1⟩ := open_tr (hval 1 26 v1 rfl rfl) h1
  clear hA0
  refine (walk v0 a0 N1 a1 W w0 i0 x0 z0 x1 (i64_of w1)).mono fun e W' ⟨he, bel⟩ => ?_
  subst he
  exact ⟨_, rfl, _, _, _, [], _, [], hW', trodAll_mk1 (shut_bool Try.underlying4 _), (trodAll_cons_mk (Below.trod Try.laidOut (by kernel_rfl) (of_decide_eq_true (by kernel_rfl)) h0 bel g0) (trodAll_cons_mk (shut_tr w1 x1) trodAll_mk0)), rfl, bel.frame _, fun h => by cases h⟩

theorem over : Rows.transMakesRow.holds Try.pinned (OpenSpec.ofChange Rows.transMakesSpec) :=
  OpenClaim.holds_of_wide 3 Try.f3 rfl rfl rfl rfl rfl rfl rfl ⟨rfl, rfl, rfl, rfl, rfl⟩ rfl rfl rfl rfl rfl (by kernel_rfl) Try.func3 (by kernel_rfl)
    (of_decide_eq_true (by kernel_rfl)) (by unfold Func.isWrapper; first | (rw [if_pos (by decide +kernel)]; kernel_rfl) | (rw [if_neg (by decide +kernel)]; exact ⟨rfl, rfl⟩))
    (fun os started H enc _ => lifted os started H enc)

end Go.Proofs.Ythglficjhgpegaa.transMakes
namespace Go.Proofs.Ythglficjhgpegaa
/-- The given statement. -/
theorem transMakes_holds : Rows.TransMakesSaid := transMakes.over
end Go.Proofs.Ythglficjhgpegaa
