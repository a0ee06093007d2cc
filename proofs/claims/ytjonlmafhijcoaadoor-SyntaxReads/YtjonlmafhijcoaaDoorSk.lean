/- Contract of syntax.Print: the walk. -/
import Derived.Test.YtjonlmafhijcoaaDoorSl
namespace Go.Proofs.YtjonlmafhijcoaaDoor
open Go Go.RowKit
set_option linter.unusedVariables false

/-- What Print answers. -/
def printV (k : Int) (ts : List Nd) : ByteArray × Int :=
  if checkV k ts ≠ 0 then (ByteArray.empty, checkV k ts) else match runW ts [] with
    | none => (ByteArray.empty, 40)
    | some ws => ((ws.getD 0 noWr).1, 0)
theorem check_zero {k : Int} {ts : List Nd} (h : checkV k ts = 0) : wrong ts = 0 := by
  unfold checkV at h
  split at h
  · cases h
  · split at h
    · next h1 => exact absurd h h1
    · next h1 => simpa using h1

set_option maxHeartbeats 16000000 in
set_option maxRecDepth 100000 in
theorem print_any (k : Int) (hk : -9223372036854775808 ≤ k ∧ k ≤ 9223372036854775807) (v : Value) (ts : List Nd) (w : World) (hv : NReads w v ts) (hm : ts.length ≤ 9223372036854775806) (hT : TTab w) (hP : PTab w) :
    Calls Tryd.prog 16 #[.int .i64 k, v] w fun e w' => e = .returned (.tuple #[.string (printV k ts).1, .int .i64 (printV k ts).2]) ∧ Below w.heap.size w w' := by
  have HV : Hid (NReads w v ts) := hv
  have HT : Hid (TTab w) := hT
  have HP : Hid (PTab w) := hP
  have hB := hT.pos
  obtain ⟨c, hc⟩ : ∃ c, checkV k ts = c := ⟨_, rfl⟩
  have HC : Hid (checkV k ts = c) := hc
  clear hT hP
  by_cases hc0 : c = 0
  · subst hc0
    have hw0 := check_zero hc
    obtain ⟨h4, hf⟩ := wrong_zero hw0
    have HF : Hid (freeN ts = some 1) := hf
    obtain ⟨av, cv, rfl, hrd⟩ := hv
    have HRD : Hid (∀ i, i < ts.length → ∃ g o, av = some ⟨g, o, none⟩ ∧ g < w.heap.size ∧ w.cell? ⟨g, o + i * 2, none⟩ = some (.int .i64 (ts.getD i (0, 0)).1) ∧ w.cell? ⟨g, o + i * 2 + 1, none⟩ = some (.int .u8 (ts.getD i (0, 0)).2)) := hrd
    have HPV : Hid (printV k ts = match runW ts [] with
      | none => (ByteArray.empty, 40)
      | some ws => ((ws.getD 0 noWr).1, 0)) := by show _ = _; rw [printV, hc]; rfl
    obtain ⟨i0, hi0, hz0, hz1, hz2⟩ := info_parts Tryd.info_written
    clear hrd hc hw0 hf
    go_enter Tryd.func16, Tryd.ntmps16
    go_wp2_with fail
    refine (check_any k hk _ ts _ HV.out hm HP.out).mono ?_
    rintro e w1 ⟨rfl, hb1⟩
    rw [HC.out]
    have HB1 : Hid (Below w.heap.size w w1) := hb1
    clear hb1
    go_wp2_with fail
    go_loopw [7, 20] (fun vf vi wr => ∃ (i : Nat) (ws : List Wr), i ≤ ts.length ∧ vi = .int .i64 i ∧ wr.ownsRow w.heap.size 62 2 vf ws.length (wrC ws) ∧ freeN (ts.take i) = some ws.length ∧ runW ts [] = runW (ts.drop i) ws ∧ SmallW ws ∧ Below w.heap.size w wr) (fun _ vi _ => ts.length - (intOf vi).toNat)
    case atStart => exact ⟨0, [], Nat.zero_le _, rfl, World.ownsRow_nil _ _ _ _, rfl, rfl, fun i => by simp [noWr], HB1.out⟩
    case round =>
      clear HB1
      obtain ⟨i, ws, hi, rfl, ho, hfr, hrun, hsm, hb⟩ := hrel
      obtain ⟨fa, fc, rfl⟩ := own_shape ho
      have HO : Hid (wr.ownsRow w.heap.size 62 2 (.slice fa ws.length fc) ws.length (wrC ws)) := ho
      have HRUN : Hid (runW ts [] = runW (ts.drop i) ws) := hrun
      have HSM : Hid (SmallW ws) := hsm
      have HB : Hid (Below w.heap.size w wr) := hb
      have hwl := free_le ts i hi ws.length hfr
      have HFR : Hid (freeN (ts.take i) = some ws.length) := hfr
      have hws := hb.size
      clear ho hrun hsm hb hfr
      by_cases hlt : i < ts.length
      · have hiI : (i : Int) < ts.length := by omega
        obtain ⟨cc, hcc, hgood, har, hnext⟩ := free_good HF.out hlt
        rw [HFR.out, Option.some.injEq] at hcc
        subst hcc
        have hhere := run_w_here hlt ws
        obtain ⟨g, o, rfl, hg, p1, p2⟩ := HRD.out i hlt
        obtain ⟨⟨kd, s⟩, hks⟩ : ∃ n, ts.getD i (0, 0) = n := ⟨_, rfl⟩
        rw [hks] at p1 p2 hgood har hnext hhere
        simp only at p1 p2 har
        have c1 : wr.cell? ⟨g, o + i * 2, none⟩ = some (.int .i64 kd) := by rw [below_cell HB.out hg]; exact p1
        have c2 : wr.cell? ⟨g, o + i * 2 + 1, none⟩ = some (.int .u8 s) := by rw [below_cell HB.out hg]; exact p2
        have HG : Hid (good (kd, s) = true) := hgood
        have HH : Hid (runW ts [] = if 1000 < (textF (kd, s) ws).size then none else runW (ts.drop (i + 1)) (pstep (kd, s) ws)) := HRUN.out.trans hhere
        have HNX : Hid (freeN (ts.take (i + 1)) = some (ws.length - arity kd + 1)) := hnext
        clear p1 p2 hks hhere hnext hgood
        go_wp2_with fail
        have hBA : Below wr.heap.size wr (wr.alloc (.cells #[.int .i64 kd, .int .u8 s] 56)) := (Below.refl _ _).alloc (Nat.le_refl _) _
        have HBA : Hid (Below wr.heap.size wr (wr.alloc (.cells #[.int .i64 kd, .int .u8 s] 56))) := hBA
        have RNB := RowAt.last wr #[.int .i64 kd, .int .u8 s] 56
        have HNB : Hid (RowAt (wr.alloc (.cells #[.int .i64 kd, .int .u8 s] 56)) wr.heap.size #[.int .i64 kd, .int .u8 s]) := RNB
        obtain ⟨X, hX⟩ : ∃ X, textF (kd, s) ws = X := ⟨_, rfl⟩
        have HX : Hid (textF (kd, s) ws = X) := hX
        clear hBA RNB hX c1 c2
        refine (textOf_any kd s HG.out _ ws _ (own_wreads (HO.out.alloc _)) (by omega) har HSM.out (HT.out.stay (go_on HB.out HBA.out))).mono ?_
        rintro e w2 ⟨rfl, hb2⟩
        rw [HX.out]
        rw [HX.out] at HH
        have HR2 := HNB.out.stay hb2
        have HB2 : Hid (Below w.heap.size w w2) := go_on (go_on HB.out HBA.out) hb2
        have HO2 : Hid (w2.ownsRow w.heap.size 62 2 (.slice fa ws.length fc) ws.length (wrC ws)) := own_below (own_below HO.out HBA.out) hb2
        have hp2 : wr.heap.size < w2.heap.size := HR2.lt
        have e0 : w2.cell? ⟨wr.heap.size, 0, none⟩ = some (.int .i64 kd) := HR2.cell 0
        have HLO : Hid (∀ b, (Value.slice fa (ws.length - arity kd) fc).ownBlock = some b → w.heap.size ≤ b ∧ b < wr.heap.size) := fun b hb => HO.out.lt b (by cases fa with
          | none => simp [Value.ownBlock] at hb
          | some x => exact hb)
        clear hb2 HR2 HNB
        by_cases hbig : 1000 < X.size
        · have hbI : (1000 : Int) < X.size := by omega
          have HPN : Hid (printV k ts = (ByteArray.empty, 40)) := by show _ = _; rw [HPV.out, HH.out, if_pos hbig]
          go_wp2_with fail
          go_ret2
          exact ⟨by rw [HPN.out]; rfl, HB2.out⟩
        · have hbI : ¬ (1000 : Int) < X.size := by omega
          obtain ⟨hk1, hk9⟩ := good_kind HG.out
          simp only at hk1 hk9
          obtain ⟨j, rfl⟩ : ∃ j : Nat, kd = j := ⟨kd.toNat, by omega⟩
          have hjI : (j : Int) < 10 := by omega
          have ct : w2.cell? ⟨0, j, none⟩ = some (.int .i64 (tight (j : Int) : Nat)) := by
            rw [below_cell HB2.out hB]; exact HT.out j (by omega)
          obtain ⟨tg, htg⟩ : ∃ tg, tight (j : Int) = tg := ⟨_, rfl⟩
          rw [htg] at ct
          obtain ⟨q, hq⟩ : ∃ q, ws.length - arity (j : Int) = q := ⟨_, rfl⟩
          have HPS : Hid (pstep ((j : Int), s) ws = ws.take q ++ [(X, tg)]) := by show _ = _; rw [pstep, HX.out]; simp only; rw [htg, hq]
          have HR3 : Hid (runW ts [] = runW (ts.drop (i + 1)) (pstep ((j : Int), s) ws)) := by show _ = _; rw [HH.out, if_neg hbig]
          have HSM3 : Hid (SmallW (pstep ((j : Int), s) ws)) := small_step HSM.out (by rw [HX.out]; exact hbig)
          obtain ⟨r, hr⟩ : ∃ r, arity (j : Int) = r := ⟨_, rfl⟩
          rw [hq] at HLO HNX
          rw [hr] at hq har ⊢
          have hqw : IntKind.i64.wrap ((ws.length : Int) - (r : Int)) = (q : Int) := by rw [IntKind.wrap_i64]; omega
          have HOC : Hid (w2.ownsRow w.heap.size 62 2 (.slice fa q fc) q (wrC (ws.take q))) := by
            have := own_cut2 HO2.out q (by omega)
            rw [wrC_take] at this
            exact this
          have hqc : (q : Int) ≤ fc := by
            obtain ⟨_, h2⟩ := HO2.out
            rcases h2 with ⟨h2, h3⟩ | ⟨g', cp, cur, e1, _, _, h3, _⟩
            · simp only [Value.slice.injEq] at h2; omega
            · simp only [Value.slice.injEq] at e1
              rw [e1.2.2]; omega
          have S0 : S5 w wr.heap.size j j tg w2.drew := ⟨e0, ct, hp2, HB2.out.drew⟩
          have hq4 : q ≤ 4000 := by omega
          have hql : (ws.take q).length = q := by simp; omega
          have HQL : Hid ((ws.take q).length = q) := hql
          have hnew : ∀ jj u, [Value.string X, Value.int .i64 (tg : Int)][jj]? = some u → (w2.drew.alloc (.cells #[.string X, .int .i64 (tg : Int)] 62)).cell? ((⟨w2.heap.size, 0, none⟩ : Addr).add jj) = some u := two_new w2.drew (.string X) (.int .i64 (tg : Int)) 62
          have HNEW : Hid _ := hnew
          clear e0 ct htg hr hq hql hnew
          go_wp2_with fail
          go_region_held3 (fun w' => S5 w wr.heap.size j j tg w') (first | exact S0 | assumption | exact s5_step hB (by assumption) (by assumption) | exact s5_alloc hB _ (by assumption) | exact s5_grown hB (by assumption) (by assumption) HLO.out) (first
            | (rw [if_pos (by rfl)]; refine wp_append_own _ _ _ 58 rfl w.heap.size 62 i0 (.agg #[.string ByteArray.empty, .int .i64 0]) 2 24 Tryd.underlying58 hi0 hz0 hz1 hz2 rfl (by decide) _ _ _ rfl ((own_drew HOC.out).alloc _) ⟨w2.heap.size, 0, none⟩ 1 1 [.string X, .int .i64 (tg : Int)] rfl rfl HNEW.out (by intro u hu; simp at hu; rcases hu with rfl | rfl <;> rfl) (by unfold maxLen; omega) (by omega) (by have h1 := HB2.out.size; have h2 : w2.drew.heap.size = w2.heap.size := rfl; simp; omega) ?_; intro v9 w9 ho9 hg9 _))
          all_goals (
            have hS : S5 w wr.heap.size j j tg w9 := by first | assumption | exact s5_grown hB (by assumption) (by assumption) HLO.out
            have HB9 : Hid (Below w.heap.size w w9) := hS.2.2.2
            have HO9 : Hid (w9.ownsRow w.heap.size 62 2 v9 (pstep ((j : Int), s) ws).length (wrC (pstep ((j : Int), s) ws))) := by
              show World.ownsRow _ _ _ _ _ _ _
              rw [HPS.out, wrC_append, List.length_append, HQL.out]
              exact ho9
            have HL9 : Hid (freeN (ts.take (i + 1)) = some (pstep ((j : Int), s) ws).length) := by
              show _ = _
              rw [HNX.out, HPS.out, List.length_append, HQL.out]; rfl
            clear ho9 hg9 hS S0
            go_wp2_with fail
            go_roundw
            case rel => exact ⟨i + 1, _, by omega, by go_num, HO9.out, HL9.out, HR3.out, HSM3.out, HB9.out⟩
            case measure => simp [intOf]; omega)
      · have hiI : ¬ (i : Int) < ts.length := by omega
        obtain rfl : i = ts.length := by omega
        have hl1 : ws.length = 1 := by
          have := HFR.out
          rw [List.take_length, HF.out, Option.some.injEq] at this
          exact this.symm
        have HPN : Hid (printV k ts = ((ws.getD 0 noWr).1, 0)) := by
          show _ = _
          rw [HPV.out, HRUN.out, List.drop_length]
          rfl
        obtain ⟨a', c', e', hc', hr'⟩ := own_wreads HO.out
        obtain ⟨g, o, e2, hg, p0, _⟩ := hr' 0 (by omega)
        simp only [Value.slice.injEq] at e'
        rw [e2] at e'
        obtain ⟨rfl, -, -⟩ := e'
        have z0 := HSM.out 0
        generalize (ws.getD 0 noWr).1 = X at *
        rw [Nat.zero_mul, Nat.add_zero] at p0
        rw [hl1] at *
        clear hr' e2
        go_wp2_with fail
        refine (sClone_any X _ (by omega)).mono ?_
        rintro e w2 ⟨rfl, hb2⟩
        have HB2 : Hid (Below w.heap.size w w2) := go_on HB.out hb2
        clear hb2
        go_wp2_with fail
        go_ret2
        exact ⟨by rw [HPN.out]; rfl, HB2.out⟩
  · have hcb : (c != 0) = true := by simpa using hc0
    have HPN : Hid (printV k ts = (ByteArray.empty, c)) := by show _ = _; rw [printV, hc, if_pos hc0]
    rw [HPN.out]
    clear hc hc0 hv
    go_enter Tryd.func16, Tryd.ntmps16
    go_wp2_with fail
    refine (check_any k hk _ ts _ HV.out hm HP.out).mono ?_
    rintro e w1 ⟨rfl, hb1⟩
    rw [HC.out]
    have HB1 : Hid (Below w.heap.size w w1) := hb1
    clear hb1
    go_wp2_with fail
    go_ret2
    exact ⟨rfl, HB1.out⟩
end Go.Proofs.YtjonlmafhijcoaaDoor
