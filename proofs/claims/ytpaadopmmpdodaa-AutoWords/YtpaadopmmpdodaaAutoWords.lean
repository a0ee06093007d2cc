/- Proved: eggboxlaw08.AutoWords answers true at every k and every w (P8.5): auto.Word answers what the document's Word answers; its arguments read behind the call as before. -/
import Derived.Test.YtpaadopmmpdodaaQh
import Derived.Test.YtpaadopmmpdodaaJu
namespace Go.Proofs.Ytpaadopmmpdodaa.autoWords
open Go Go.ChangeShapes Go.WideShapes Go.ChangeAt Go.RowKit Go.Lib
open Go.ChangeMaps (open_string shut_string)
set_option linter.unusedVariables false

theorem rch_len {A : Aut} (G : Good A) {s : Nat} (hs : s < A.ac.length) (acc : Nat → Bool) : (rch A s acc).nx.length ≤ 32768 ∧ (rch A s acc).ac.length ≤ 4096 := by
  obtain ⟨m, n, R⟩ := rch_of G hs acc
  rw [R.is]
  simp only [List.length_map]
  have := R.nbound G
  omega
theorem wrA_len (k : Int) (b : ByteArray) : (wrA k b).nx.length ≤ 32768 ∧ (wrA k b).ac.length ≤ 4096 := by
  by_cases h : chk k b = 0
  · by_cases hb : 4094 < b.size
    · rw [(wrE_long h hb).2]; simp [zAut]
    · rw [(wrE_ok h hb).2]
      have hk := chk_k h
      exact rch_len (wAut_good (by omega) (by omega)) (by simp [wAut]) _
  · rw [(wrE_bad h).2]; simp [zAut]

set_option maxHeartbeats 8000000 in
set_option maxRecDepth 100000 in
theorem walk (k : Int) (b : ByteArray) (w : World) (hz : b.size ≤ maxLen) :
    Calls Try.prog 5 #[.int .i64 k, .string b] w fun e w' => e = .returned (.bool true) ∧ Below w.heap.size w w' := by
  have HZ : Hid (b.size ≤ maxLen) := hz
  have hz2 : b.size ≤ 9223372036854775807 := by unfold maxLen at hz; exact hz
  have hl := wrA_len k b
  obtain ⟨B, hB⟩ : ∃ B, wrA k b = B := ⟨_, rfl⟩
  obtain ⟨E, hE⟩ : ∃ E, wrE k b = E := ⟨_, rfl⟩
  have HP : Hid (Calls Try.prog 25 #[.int .i64 k, .string b] w (FQ B E w)) := by rw [← hB, ← hE]; exact word_any k b w hz2
  have HD : Hid (∀ y, Calls Try.prog 26 #[.int .i64 k, .string b] y (FQ B E y)) := fun y => by rw [← hB, ← hE]; exact rword_any k b y HZ.out
  rw [hB] at hl
  have HLN : Hid (B.nx.length ≤ 32768 ∧ B.ac.length ≤ 4096) := hl
  clear hz hz2 hl hB hE
  go_enter Try.func5, Try.ntmps5
  go_wp2_with fail
  refine HP.out.mono ?_
  rintro e w1 ⟨v1, rfl, ha1, hb1⟩
  have HA1 : Hid (AR w1 v1 B) := ha1.ar
  obtain ⟨n1, c1, a1, d1, rfl, _, _⟩ := ha1
  have HB1 : Hid (Below w.heap.size w w1) := hb1
  have R1 : RowAt (w1.alloc (.cells #[.int .i64 B.k, .slice n1 B.nx.length c1, .slice a1 B.ac.length d1] 25)) w1.heap.size #[.int .i64 B.k, .slice n1 B.nx.length c1, .slice a1 B.ac.length d1] := RowAt.last _ _ _
  have HR1 : Hid (RowAt (w1.alloc (.cells #[.int .i64 B.k, .slice n1 B.nx.length c1, .slice a1 B.ac.length d1] 25)) w1.heap.size #[.int .i64 B.k, .slice n1 B.nx.length c1, .slice a1 B.ac.length d1]) := R1
  clear hb1 HP R1
  go_wp2_with fail
  refine (HD.out _).mono ?_
  rintro e w2 ⟨v2, rfl, ha2, hb2⟩
  have HA2 : Hid (AR w2 v2 B) := ha2.ar
  obtain ⟨n2, c2, a2, d2, rfl, _, _⟩ := ha2
  have HB12 : Hid (Below w1.heap.size w1 w2) := go_on (below_new _ _) hb2
  have HR2 : Hid (RowAt w2 w1.heap.size #[.int .i64 B.k, .slice n1 B.nx.length c1, .slice a1 B.ac.length d1]) := HR1.out.stay hb2
  have cs1 : ∀ O o, (w2.alloc O).cell? ⟨w1.heap.size, o, none⟩ = (#[.int .i64 B.k, .slice n1 B.nx.length c1, .slice a1 B.ac.length d1] : Array Value)[o]? := fun O => (HR2.out.alloc O).cell
  have HSA : Hid (∀ y, Below w2.heap.size w2 y → Calls Try.prog 23 #[.agg #[.int .i64 B.k, .slice n1 B.nx.length c1, .slice a1 B.ac.length d1], .agg #[.int .i64 B.k, .slice n2 B.nx.length c2, .slice a2 B.ac.length d2]] y fun e w' => e = .returned (.bool true) ∧ Below y.heap.size y w') := fun y hy => sameAuto_any _ _ B y ((HA1.out.stay HB12.out).stay hy) (HA2.out.stay hy) (by have := HLN.out; omega) (by have := HLN.out; omega)
  clear hb2
  go_wp2_with (first
    | (go_at_call 23; refine (HSA.out _ (below_new _ _)).mono ?_; rintro e y1 ⟨rfl, hy1⟩; have HY1 : Hid (Below w.heap.size w y1) := go_on (go_on (go_on HB1.out HB12.out) (below_new _ _)) hy1; clear hy1)
    | (go_at_call 12; refine (num8_any _ _).mono ?_; rintro e y2 ⟨rfl, rfl⟩)
    | (go_at_call 16; refine (live8_any _).mono ?_; rintro e y3 ⟨rfl, hy3⟩; have HY3 : Hid (Below w.heap.size w y3) := go_on HY1.out hy3; clear hy3))
  go_ret
  exact ⟨rfl, HY3.out⟩

/-! ### The row's step -/
theorem own : ownKnob Try.prog.godebug = none := by kernel_rfl
set_option maxRecDepth 100000 in
theorem lifted (os : Os) (started : os.Started) (H : Type) (enc : TypeId × Value → H) :
    ReturnsInHanded {} Try.checked os 5 .any (Rows.autoWordsSpec.pre6 enc Try.prog Try.f5 Rows.autoWordsRow.domain false) (Rows.autoWordsSpec.post enc Try.prog Try.f5 false true false false) := by
  refine returnsInHanded_of_change_sized (C := Try.checked) own started (by kernel_rfl) Try.func5
    (ChangeSpec.witness6 (enc := enc) (C := Try.checked) false ⟨#[], #[.int .i64 0, .string ByteArray.empty], []⟩ 8 (by kernel_rfl) (by kernel_rfl) (by kernel_rfl) (by kernel_rfl)) ?_
  intro W base args ds gs before hval0 hW hcnd hsz0 _
  have hval : ∀ (j : Nat) t v, Try.f5.params[j]? = some t → args[j]? = some v → Value.okWide Try.prog W .any base t v := hval0
  clear hval0
  have hsz : (DataW.weightsEach Try.prog (Try.f5.params.toList ++ Rows.autoWordsSpec.plain.varTypes Try.prog) (ds ++ gs)).all (· ≤ reachBytes) = true := hsz0
  clear hsz0
  have hW' := hW
  obtain ⟨p, q, hA0, hV, rfl, hfz, hnd⟩ := hW
  have hA : DataW.TrodAll enc Try.prog W 0 (fun _ => true) true Try.f5.params.toList args.toList ds p := hA0
  rw [Try.params5] at hA hval hsz
  obtain ⟨v0, vs0, d0, ds0, p0, q0, hargs, rfl, rfl, h0, r0⟩ := trodAll_cons hA
  obtain ⟨v1, vs1, d1, ds1, p1, q1, rfl, rfl, rfl, h1, r1⟩ := trodAll_cons r0
  obtain ⟨rfl, rfl, rfl⟩ := trodAll_nil r1
  obtain rfl : args = #[v0, v1] := by cases args; simp_all
  obtain ⟨rfl, rfl⟩ := trodVars_none hV
  obtain ⟨a0, rfl, rfl, rfl, w0⟩ := open_int Try.underlying3 (hval 0 3 v0 rfl rfl) h0
  obtain ⟨a1, rfl, rfl, rfl, w1⟩ := open_string Try.underlying9 (hval 1 9 v1 rfl rfl) h1
  clear hA0
  refine (walk a0 a1 W  w1).mono fun e W' ⟨he, bel⟩ => ?_
  subst he
  exact ⟨_, rfl, _, _, _, [], _, [], hW', trodAll_mk1 (shut_bool Try.underlying4 _), (trodAll_cons_mk (shut_int Try.underlying3 w0) (trodAll_cons_mk (shut_string Try.underlying9 w1) trodAll_mk0)), rfl, bel.frame _, fun h => by cases h⟩

theorem over : Rows.autoWordsRow.holds Try.pinned (OpenSpec.ofChange Rows.autoWordsSpec) :=
  OpenClaim.holds_of_wide 5 Try.f5 rfl rfl rfl rfl rfl rfl rfl ⟨rfl, rfl, rfl, rfl, rfl⟩ rfl rfl rfl rfl rfl (by kernel_rfl) Try.func5 (by kernel_rfl)
    (of_decide_eq_true (by kernel_rfl)) (by unfold Func.isWrapper; first | (rw [if_pos (by decide +kernel)]; kernel_rfl) | (rw [if_neg (by decide +kernel)]; exact ⟨rfl, rfl⟩))
    (fun os started H enc _ => lifted os started H enc)

end Go.Proofs.Ytpaadopmmpdodaa.autoWords
namespace Go.Proofs.Ytpaadopmmpdodaa
/-- The given statement. -/
theorem autoWords_holds : Rows.AutoWordsSaid := autoWords.over
end Go.Proofs.Ytpaadopmmpdodaa
