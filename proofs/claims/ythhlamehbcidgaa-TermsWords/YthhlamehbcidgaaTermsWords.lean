/- Proved: eggboxlaw19.TermsWords answers true (P19.7): Word answers what the document's own answers, word and error, of any letters, any side, any values and any omega; the side and the values that are handed in stay as they were -/
import Derived.Test.YthhlamehbcidgaaY16
import Derived.Test.YthhlamehbcidgaaW3
import Derived.ProofKit
import Derived.OpenShut
import Derived.ShutString
import Derived.ChangeOld
import Derived.JoinedCond
import Derived.SizedLaws
import Derived.Carry
import Derived.ChangeMaps5
namespace Go.Proofs.Ythhlamehbcidgaa.termsWords
open Go Go.ChangeShapes Go.WideShapes Go.ChangeAt Go.RowKit Go.Lib
open Go.ChangeMaps (open_string shut_string)
set_option linter.unusedVariables false
set_option linter.unusedSimpArgs false

theorem Try.laidOut : laidOutB Try.prog = true := by kernel_rfl
theorem own_sgr {w : World} {b : Nat} {v : Value} {L : List (Int × Nat)} (h : w.ownsRow b 81 2 v L.length (sgI L)) (hl : ∀ p ∈ L, p.2 < 256) : SgR w v L := by
  obtain ⟨a, c, rfl⟩ := own_shape h
  refine ⟨a, c, rfl, fun i hi => ?_⟩
  obtain ⟨g, cc, ev, -, -⟩ := World.ownsRow.form h (by omega)
  simp only [Value.slice.injEq] at ev
  obtain ⟨rfl, -, rfl⟩ := ev
  have q := sgI_at L i hi
  have h0 := h.cellAt (i * 2) (by omega)
  have h1 := h.cellAt (i * 2 + 1) (by omega)
  rw [q.1] at h0
  rw [q.2] at h1
  refine ⟨g, 0, rfl, (h.lt g rfl).2, by rw [Nat.zero_add]; exact h0, by rw [Nat.zero_add]; exact h1, ?_⟩
  rw [List.getD_eq_getElem?_getD, List.getElem?_eq_getElem hi, Option.getD_some]
  exact hl _ (List.getElem_mem hi)
set_option maxHeartbeats 8000000 in
set_option maxRecDepth 100000 in
theorem walk (k : Int) (v1 : Value) (L : List (Int × Nat)) (v2 : Value) (Ws : List ByteArray) (om : Int) (W : World) (hs : SgC W v1 L) (hn1 : NoCap v1) (hz1 : L.length * 16 ≤ 140737488355328) (hx : StR W v2 Ws) (hn2 : NoCap v2) (hz2 : Ws.length * 16 ≤ 140737488355328) (hq : ∀ j, j < Ws.length → (Ws.getD j ⟨#[]⟩).size ≤ maxLen) :
    Calls Try.prog 5 #[.int .i64 k, v1, v2, .int .i64 om] W fun e w' => e = .returned (.bool true) ∧ Below W.heap.size W w' := by
  obtain ⟨a1, c1, e1⟩ := hs.1.len
  obtain ⟨a2, c2, e2⟩ := hx.len
  subst e1 e2
  have HSG : Hid (SgR W (.slice a1 L.length c1) L) := hs.1
  have HLT : Hid (∀ p ∈ L, p.2 < 256) := hs.1.lt
  have HSX : Hid (StR W (.slice a2 Ws.length c2) Ws) := hx
  have HQ : Hid (∀ j, j < Ws.length → (Ws.getD j ⟨#[]⟩).size ≤ maxLen) := hq
  have HN1 : Hid (NoCap (.slice a1 L.length c1)) := hn1
  have HN2 : Hid (NoCap (.slice a2 Ws.length c2)) := hn2
  have HZ : Hid (L.length * 16 ≤ 140737488355328 ∧ Ws.length * 16 ≤ 140737488355328) := ⟨hz1, hz2⟩
  obtain ⟨i0, hi0, hp0, hp1, hp2⟩ := info_parts Try.info_sign
  obtain ⟨i1, hi1, hs0, hs1, hs2⟩ := info_parts Try.info_strT
  clear hs hx hq hn1 hn2 hz1 hz2
  go_enter Try.func5, Try.ntmps5
  go_wp2_with (first
    | (at_builtin
       refine wpList_plain rfl fun KQ hK => ?_
       have RL0 : Hid ((W.alloc (.cells #[] 81)).ownsRow W.heap.size 81 2 (.slice (some ⟨W.heap.size, 0, none⟩) 0 0) 0 []) := by show World.ownsRow _ _ _ _ _ _ _; have := World.ownsRow_made (base := W.heap.size) (e := 81) (size := 2) W #[] 0 (Nat.le_refl _) (by unfold maxLen; omega) rfl; simpa using this
       refine wp_append_sg _ _ 22 rfl W.heap.size 81 i0 (.agg #[.int .i64 0, .int .u8 0]) 16 Try.underlying22 hi0 hp0 hp1 hp2 rfl _ rfl RL0.out (.slice a1 L.length c1) rfl _ (HSG.out.below (below_new _ _)) HN1.out ⟨HZ.out.1, by have := HZ.out.1; omega⟩ (below_new _ _).size ?_
       intro v3 w3 ho hg hat
       obtain ⟨va3, vc3, rfl⟩ := own_shape ho
       have RX3 : Hid (w3.ownsRow W.heap.size 81 2 (.slice va3 L.length vc3) L.length (sgI L)) := ho
       have HB3 : Hid (Below W.heap.size W w3) := (below_new W (.cells #[] 81)).grown hg (below_new W (.cells #[] 81)).size (fun b hb => (RL0.out.lt b hb).1)
       clear ho hg hat
       refine hK _ _ ?_)
    | (at_builtin
       refine wpList_plain rfl fun KQ hK => ?_
       have RL0 : Hid ((w3.alloc (.cells #[] 9)).ownsRow w3.heap.size 9 1 (.slice (some ⟨w3.heap.size, 0, none⟩) 0 0) 0 []) := by show World.ownsRow _ _ _ _ _ _ _; have := World.ownsRow_made (base := w3.heap.size) (e := 9) (size := 1) w3 #[] 0 (Nat.le_refl _) (by unfold maxLen; omega) rfl; simpa using this
       refine wp_append_st _ _ 47 rfl w3.heap.size 9 i1 (.string ByteArray.empty) 16 Try.underlying47 hi1 hs0 hs1 hs2 rfl _ rfl RL0.out (.slice a2 Ws.length c2) rfl _ (HSX.out.below (go_on HB3.out (below_new _ _))) HN2.out ⟨HZ.out.2, by have := HZ.out.2; omega⟩ (below_new _ _).size ?_
       intro v4 w4 ho hg hat
       obtain ⟨va4, vc4, rfl⟩ := own_shape ho
       have RX4 : Hid (w4.ownsRow w3.heap.size 9 1 (.slice va4 Ws.length vc4) Ws.length (stI Ws)) := ho
       have HB34 : Hid (Below w3.heap.size w3 w4) := (below_new w3 (.cells #[] 9)).grown hg (below_new w3 (.cells #[] 9)).size (fun b hb => (RL0.out.lt b hb).1)
       clear ho hg hat
       refine hK _ _ ?_))
  have HB4 : Hid (Below W.heap.size W w4) := go_on HB3.out HB34.out
  have HS4 : Hid (SgR w4 (.slice va3 L.length vc3) L) := own_sgr (own_below RX3.out HB34.out) HLT.out
  have HX4 : Hid (StR w4 (.slice va4 Ws.length vc4) Ws) := own_str RX4.out
  have HPW : Hid (Calls Try.prog 23 #[.int .i64 k, .slice va3 L.length vc3, .slice va4 Ws.length vc4, .int .i64 om] w4 (WdQ k L Ws om w4)) := word_any k om _ _ L Ws w4 HS4.out (by have := HZ.out.1; omega) HX4.out (by have := HZ.out.2; omega)
  refine Calls.mono HPW.out ?_
  rintro e w5 ⟨rfl, hb5⟩
  have HB45 : Hid (Below w4.heap.size w4 w5) := hb5
  have HB5 : Hid (Below W.heap.size W w5) := go_on HB4.out hb5
  have HRW : Hid (Calls Try.prog 24 #[.int .i64 k, .slice a1 L.length c1, .slice a2 Ws.length c2, .int .i64 om] w5 (WdQ k L Ws om w5)) := rWord_any k om _ _ L Ws w5 (HSG.out.below HB5.out) (by have := HZ.out.1; omega) (HSX.out.below HB5.out) (by have := HZ.out.2; omega) HQ.out
  clear hb5 HPW
  unfold WdQ at HRW
  generalize wdE k L Ws om = er at HRW ⊢
  generalize str (wdU k L Ws om) = U at HRW ⊢
  go_wp2_with fail
  refine Calls.mono HRW.out ?_
  rintro e w6 ⟨rfl, hb6⟩
  have HB46 : Hid (Below w4.heap.size w4 w6) := go_on HB45.out hb6
  have HB6 : Hid (Below W.heap.size W w6) := go_on HB5.out hb6
  clear hb6 HRW
  go_wp2_with fail
  refine (num_any _ _).mono ?_
  rintro e w7 ⟨rfl, rfl⟩
  go_wp2_with fail
  refine (sides_same _ _ L _ (HS4.out.below HB46.out) (HSG.out.below HB6.out) (by have := HZ.out.1; omega)).mono ?_
  rintro e w8 ⟨rfl, hb8⟩
  have HB48 : Hid (Below w4.heap.size w4 w8) := go_on HB46.out hb8
  have HB8 : Hid (Below W.heap.size W w8) := go_on HB6.out hb8
  clear hb8
  go_wp2_with fail
  refine (words_same _ _ Ws _ (HX4.out.below HB48.out) (HSX.out.below HB8.out) (by have := HZ.out.2; omega)).mono ?_
  rintro e w9 ⟨rfl, hb9⟩
  have HB9 : Hid (Below W.heap.size W w9) := go_on HB8.out hb9
  clear hb9
  go_wp2_with fail
  refine (knows19_any _).mono ?_
  rintro e w10 ⟨rfl, hb10⟩
  have HB10 : Hid (Below W.heap.size W w10) := go_on HB9.out hb10
  clear hb10
  go_wp2_with fail
  go_ret
  exact ⟨rfl, HB10.out⟩


/-! ### The row's step -/
theorem own : ownKnob Try.prog.godebug = none := by kernel_rfl
set_option maxRecDepth 100000 in
theorem lifted (os : Os) (started : os.Started) (H : Type) (enc : TypeId × Value → H) :
    ReturnsInHanded {} Try.checked os 5 .any (Rows.termsWordsSpec.pre6 enc Try.prog Try.f5 Rows.termsWordsRow.domain false) (Rows.termsWordsSpec.post enc Try.prog Try.f5 false true false false) := by
  refine returnsInHanded_of_change_sized (C := Try.checked) own started (by kernel_rfl) Try.func5
    (ChangeSpec.witness6 (enc := enc) (C := Try.checked) false ⟨#[], #[.int .i64 0, .slice none 0 0, .slice none 0 0, .int .i64 0], []⟩ 8 (by kernel_rfl) (by kernel_rfl) (by kernel_rfl) (by kernel_rfl)) ?_
  intro W base args ds gs before hval0 hW hcnd hsz0 _
  have hval : ∀ (j : Nat) t v, Try.f5.params[j]? = some t → args[j]? = some v → Value.okWide Try.prog W .any base t v := hval0
  clear hval0
  have hsz : (DataW.weightsEach Try.prog (Try.f5.params.toList ++ Rows.termsWordsSpec.plain.varTypes Try.prog) (ds ++ gs)).all (· ≤ reachBytes) = true := hsz0
  clear hsz0
  have hW' := hW
  obtain ⟨p, q, hA0, hV, rfl, hfz, hnd⟩ := hW
  have hA : DataW.TrodAll enc Try.prog W 0 (fun _ => true) true Try.f5.params.toList args.toList ds p := hA0
  rw [Try.params5] at hA hval hsz
  obtain ⟨v0, vs0, d0, ds0, p0, q0, hargs, rfl, rfl, h0, r0⟩ := trodAll_cons hA
  obtain ⟨v1, vs1, d1, ds1, p1, q1, rfl, rfl, rfl, h1, r1⟩ := trodAll_cons r0
  obtain ⟨v2, vs2, d2, ds2, p2, q2, rfl, rfl, rfl, h2, r2⟩ := trodAll_cons r1
  obtain ⟨v3, vs3, d3, ds3, p3, q3, rfl, rfl, rfl, h3, r3⟩ := trodAll_cons r2
  obtain ⟨rfl, rfl, rfl⟩ := trodAll_nil r3
  obtain rfl : args = #[v0, v1, v2, v3] := by cases args; simp_all
  obtain ⟨rfl, rfl⟩ := trodVars_none hV
  obtain ⟨a0, rfl, rfl, rfl, w0⟩ := open_int Try.underlying3 (hval 0 3 v0 rfl rfl) h0
  obtain ⟨L1, x1, n1, m1, y1⟩ := open_side (hval 1 22 v1 rfl rfl) h1
  have z1 : L1.length * 16 ≤ 140737488355328 := by
    rcases y1 with ⟨_, rfl⟩ | ⟨e, s, rfl, hy⟩
    · decide
    · have := sized_slice hsz (j := 1) (t := 22) rfl rfl Try.underlying22
      rw [Try.bytes_sign] at this
      simp only [reachBytes] at this
      omega
  have g1 : ∀ x ∈ p1, x.block < W.heap.size := fun x hx => hW'.lt x (by simp [hx])
  obtain ⟨L2, x2, n2, m2, qq2, y2⟩ := open_words (hval 2 47 v2 rfl rfl) h2
  have z2 : L2.length * 16 ≤ 140737488355328 := by
    rcases y2 with ⟨_, rfl⟩ | ⟨e, s, rfl, hy⟩
    · decide
    · have := sized_slice hsz (j := 2) (t := 47) rfl rfl Try.underlying47
      rw [Try.bytes_str1] at this
      simp only [reachBytes] at this
      omega
  have g2 : ∀ x ∈ p2, x.block < W.heap.size := fun x hx => hW'.lt x (by simp [hx])
  obtain ⟨a3, rfl, rfl, rfl, w3⟩ := open_int Try.underlying3 (hval 3 3 v3 rfl rfl) h3
  clear hA0
  refine (walk a0 v1 L1 v2 L2 a3 W x1 n1 z1 x2 n2 z2 qq2).mono fun e W' ⟨he, bel⟩ => ?_
  subst he
  exact ⟨_, rfl, _, _, _, [], _, [], hW', trodAll_mk1 (shut_bool Try.underlying4 _), (trodAll_cons_mk (shut_int Try.underlying3 w0) (trodAll_cons_mk (Below.trod Try.laidOut (by kernel_rfl) (of_decide_eq_true (by kernel_rfl)) h1 bel g1) (trodAll_cons_mk (Below.trod Try.laidOut (by kernel_rfl) (of_decide_eq_true (by kernel_rfl)) h2 bel g2) (trodAll_cons_mk (shut_int Try.underlying3 w3) trodAll_mk0)))), rfl, bel.frame _, fun h => by cases h⟩

theorem over : Rows.termsWordsRow.holds Try.pinned (OpenSpec.ofChange Rows.termsWordsSpec) :=
  OpenClaim.holds_of_wide 5 Try.f5 rfl rfl rfl rfl rfl rfl rfl ⟨rfl, rfl, rfl, rfl, rfl⟩ rfl rfl rfl rfl rfl (by kernel_rfl) Try.func5 (by kernel_rfl)
    (of_decide_eq_true (by kernel_rfl)) (by unfold Func.isWrapper; first | (rw [if_pos (by decide +kernel)]; kernel_rfl) | (rw [if_neg (by decide +kernel)]; exact ⟨rfl, rfl⟩))
    (fun os started H enc _ => lifted os started H enc)

end Go.Proofs.Ythhlamehbcidgaa.termsWords
namespace Go.Proofs.Ythhlamehbcidgaa
/-- The given statement. -/
theorem termsWords_holds : Rows.TermsWordsSaid := termsWords.over
end Go.Proofs.Ythhlamehbcidgaa
