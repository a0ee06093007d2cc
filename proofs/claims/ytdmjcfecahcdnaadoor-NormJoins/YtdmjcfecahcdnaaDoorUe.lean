/- The document's Normal, Is, One and Join; the program's told alike. The document's One and Join. -/
import Derived.Test.YtdmjcfecahcdnaaDoorUd
import Derived.Test.YtdmjcfecahcdnaaDoorXy
namespace Go.Proofs.YtdmjcfecahcdnaaDoor
open Go Go.RowKit
set_option linter.unusedVariables false

/-- What is answered: an error's number, and a list that is the call's own. -/
def JN (E : Int) (R : List Nd) (w : World) (e : Ending) (w' : World) : Prop := ∃ u, e = .returned (.tuple #[u, .int .i64 E]) ∧ w'.ownsRow w.heap.size 52 2 u R.length (ndC R) ∧ Below w.heap.size w w'
theorem jn_nil {E : Int} {w w' : World} {e : Ending} (h : e = .returned (.tuple #[.slice none 0 0, .int .i64 E])) (hb : Below w.heap.size w w') : JN E [] w e w' := ⟨_, h, World.ownsRow_nil _ _ _ _, hb⟩
/-- A normal form that may be too great. -/
def Fits (T : Tr) (E : Int) (R : List Nd) : Prop := (4000 < (nrm T).flat.length ∧ E = 6 ∧ R = []) ∨ ((nrm T).flat.length ≤ 4000 ∧ E = 0 ∧ R = (nrm T).flat)
theorem fits_ex (T : Tr) : ∃ E R, Fits T E R := by
  by_cases h : 4000 < (nrm T).flat.length
  · exact ⟨_, _, .inl ⟨h, rfl, rfl⟩⟩
  · exact ⟨_, _, .inr ⟨by omega, rfl, rfl⟩⟩
theorem jq_jn {T : Tr} {E : Int} {R : List Nd} (h : Fits T E R) {w w' : World} {e : Ending} (hq : JQ T w e w') : JN E R w e w' := by
  rcases h with ⟨h1, rfl, rfl⟩ | ⟨h1, rfl, rfl⟩
  · rcases hq with ⟨_, h2, h3⟩ | ⟨h2, _⟩
    · exact jn_nil h2 h3
    · omega
  · rcases hq with ⟨h2, _⟩ | ⟨_, hq⟩
    · omega
    · exact hq
def NormR (ts : List Nd) (E : Int) (R : List Nd) : Prop := (wrong ts ≠ 0 ∧ E = wrong ts ∧ R = []) ∨ ∃ T : Tr, T.ok ∧ T.flat = ts ∧ wrong ts = 0 ∧ E = 0 ∧ R = (nrm T).flat
theorem norm_ex (ts : List Nd) : ∃ E R, NormR ts E R := by
  by_cases h : wrong ts = 0
  · obtain ⟨T, ho, hT⟩ := nfL_of h
    exact ⟨_, _, .inr ⟨T, ho, hT, h, rfl, rfl⟩⟩
  · exact ⟨_, _, .inl ⟨h, rfl, rfl⟩⟩
def OneR (k : Int) (ts : List Nd) (E : Int) (R : List Nd) : Prop := (wrong ts ≠ 0 ∧ E = wrong ts ∧ R = []) ∨ ∃ T : Tr, T.ok ∧ T.flat = ts ∧ wrong ts = 0 ∧ Fits (.one (k, 0) T) E R
theorem one_ex (k : Int) (ts : List Nd) : ∃ E R, OneR k ts E R := by
  by_cases h : wrong ts = 0
  · obtain ⟨T, ho, hT⟩ := nfL_of h
    obtain ⟨E, R, hF⟩ := fits_ex (.one (k, 0) T)
    exact ⟨E, R, .inr ⟨T, ho, hT, h, hF⟩⟩
  · exact ⟨_, _, .inl ⟨h, rfl, rfl⟩⟩
def JoinR (k : Int) (a c : List Nd) (E : Int) (R : List Nd) : Prop := (wrong2 a c ≠ 0 ∧ E = wrong2 a c ∧ R = []) ∨ ∃ A C : Tr, A.ok ∧ C.ok ∧ A.flat = a ∧ C.flat = c ∧ wrong a = 0 ∧ wrong c = 0 ∧ Fits (.two (k, 0) A C) E R
theorem join_ex (k : Int) (a c : List Nd) : ∃ E R, JoinR k a c E R := by
  by_cases h : wrong2 a c = 0
  · have ha : wrong a = 0 := by unfold wrong2 at h; split at h <;> simp_all
    have hc : wrong c = 0 := by unfold wrong2 at h; rw [if_pos ha] at h; exact h
    obtain ⟨A, ho, hA⟩ := nfL_of ha
    obtain ⟨C, ho', hC⟩ := nfL_of hc
    obtain ⟨E, R, hF⟩ := fits_ex (.two (k, 0) A C)
    exact ⟨E, R, .inr ⟨A, C, ho, ho', hA, hC, ha, hc, hF⟩⟩
  · exact ⟨_, _, .inl ⟨h, rfl, rfl⟩⟩
/-! ### The program's -/

theorem normal_jn {ts : List Nd} {E : Int} {R : List Nd} (h : NormR ts E R) (a : Option Addr) (c : Nat) (w : World) (hv : NReads w (.slice a ts.length c) ts) (hm : ts.length ≤ 9223372036854775806) (hP : PTab w) : Calls Tryd.prog 10 #[.slice a ts.length c] w (JN E R w) := by
  rcases h with ⟨h0, rfl, rfl⟩ | ⟨T, ho, rfl, h0, rfl, rfl⟩
  · exact (normal_bad _ ts w hv hm hP h0).mono fun e w' hh => jn_nil hh.1 hh.2
  · exact normal_good T ho a c w hv hP h0

theorem is_jn {ts : List Nd} {E : Int} {R : List Nd} (h : NormR ts E R) (a : Option Addr) (c : Nat) (w : World) (hv : NReads w (.slice a ts.length c) ts) (hm : ts.length ≤ 9223372036854775806) (hP : PTab w) : Calls Tryd.prog 11 #[.slice a ts.length c] w fun e w' => e = .returned (.tuple #[.bool (E == 0 && decide (R = ts)), .int .i64 E]) ∧ Below w.heap.size w w' := by
  rcases h with ⟨h0, rfl, rfl⟩ | ⟨T, ho, rfl, h0, rfl, rfl⟩
  · have e : ((wrong ts == 0) && decide (([] : List Nd) = ts)) = false := by simp [h0]
    rw [e]
    exact is_bad _ ts w hv hm hP h0
  · have := is_good T ho a c w hv hP h0
    simpa using this

theorem starN_jn {ts : List Nd} {E : Int} {R : List Nd} (h : OneR 8 ts E R) (v : Value) (w : World) (hv : NReads w v ts) (hm : ts.length ≤ 9223372036854775806) (hP : PTab w) : Calls Tryd.prog 24 #[v] w (JN E R w) := by
  rcases h with ⟨h0, rfl, rfl⟩ | ⟨T, ho, rfl, h0, hF⟩
  · exact (starN_bad ts v w hv hm hP h0).mono fun e w' hh => jn_nil hh.1 hh.2
  · exact (starN_good T ho v w hv hP h0).mono fun e w' hh => jq_jn hF hh

theorem notN_jn {ts : List Nd} {E : Int} {R : List Nd} (h : OneR 9 ts E R) (v : Value) (w : World) (hv : NReads w v ts) (hm : ts.length ≤ 9223372036854775806) (hP : PTab w) : Calls Tryd.prog 25 #[v] w (JN E R w) := by
  rcases h with ⟨h0, rfl, rfl⟩ | ⟨T, ho, rfl, h0, hF⟩
  · exact (notN_bad ts v w hv hm hP h0).mono fun e w' hh => jn_nil hh.1 hh.2
  · exact (notN_good T ho v w hv hP h0).mono fun e w' hh => jq_jn hF hh

theorem unionN_jn {a c : List Nd} {E : Int} {R : List Nd} (h : JoinR 5 a c E R) (va vc : Value) (w : World) (hva : NReads w va a) (hvc : NReads w vc c) (ma : a.length ≤ 9223372036854775806) (mc : c.length ≤ 9223372036854775806) (hP : PTab w) : Calls Tryd.prog 19 #[va, vc] w (JN E R w) := by
  rcases h with ⟨h0, rfl, rfl⟩ | ⟨A, C, hA, hC, rfl, rfl, wA, wC, hF⟩
  · exact (union_bad a c va vc w hva hvc ma mc hP h0).mono fun e w' hh => jn_nil hh.1 hh.2
  · exact (union_good A C hA hC va vc w hva hvc hP wA wC).mono fun e w' hh => jq_jn hF hh

theorem interN_jn {a c : List Nd} {E : Int} {R : List Nd} (h : JoinR 6 a c E R) (va vc : Value) (w : World) (hva : NReads w va a) (hvc : NReads w vc c) (ma : a.length ≤ 9223372036854775806) (mc : c.length ≤ 9223372036854775806) (hP : PTab w) : Calls Tryd.prog 20 #[va, vc] w (JN E R w) := by
  rcases h with ⟨h0, rfl, rfl⟩ | ⟨A, C, hA, hC, rfl, rfl, wA, wC, hF⟩
  · exact (inter_bad a c va vc w hva hvc ma mc hP h0).mono fun e w' hh => jn_nil hh.1 hh.2
  · exact (inter_good A C hA hC va vc w hva hvc hP wA wC).mono fun e w' hh => jq_jn hF hh

theorem concatN_jn {a c : List Nd} {E : Int} {R : List Nd} (h : JoinR 7 a c E R) (va vc : Value) (w : World) (hva : NReads w va a) (hvc : NReads w vc c) (ma : a.length ≤ 9223372036854775806) (mc : c.length ≤ 9223372036854775806) (hP : PTab w) : Calls Tryd.prog 21 #[va, vc] w (JN E R w) := by
  rcases h with ⟨h0, rfl, rfl⟩ | ⟨A, C, hA, hC, rfl, rfl, wA, wC, hF⟩
  · exact (concatN_bad a c va vc w hva hvc ma mc hP h0).mono fun e w' hh => jn_nil hh.1 hh.2
  · exact (concatN_good A C hA hC va vc w hva hvc hP wA wC).mono fun e w' hh => jq_jn hF hh
/-! ### The document's -/

set_option maxHeartbeats 2000000 in
theorem rnormal_jn {ts : List Nd} {E : Int} {R : List Nd} (h : NormR ts E R) (a : Option Addr) (c : Nat) (w : World) (hv : NReads w (.slice a ts.length c) ts) (hm : ts.length ≤ 9223372036854775806) (hc : ts.length ≤ c) : Calls Tryd.prog 12 #[.slice a ts.length c] w (JN E R w) := by
  unfold JN
  have HV : Hid (NReads w (.slice a ts.length c) ts) := hv
  rcases h with ⟨h0, rfl, rfl⟩ | ⟨T, ho, hT, h0, rfl, rfl⟩
  · obtain ⟨x, hx⟩ : ∃ x, wrong ts = x := ⟨_, rfl⟩
    rw [hx] at h0 ⊢
    have hxb : (x != 0) = true := by simpa using h0
    have HX : Hid (wrong ts = x) := hx
    clear hx h0 hv
    go_enter Tryd.func12, Tryd.ntmps12
    go_wp2_with fail
    refine (rwrong_any _ ts _ HV.out hm).mono ?_
    rintro e w1 ⟨rfl, hb1⟩
    rw [HX.out]
    have HB1 : Hid (Below w.heap.size w w1) := hb1
    clear hb1
    go_wp2_with fail
    go_ret2
    exact ⟨_, rfl, World.ownsRow_nil _ _ _ _, HB1.out⟩
  · subst hT
    have h4 := (wrong_len h0).1
    have HX : Hid (wrong T.flat = 0) := h0
    have HF : Hid (Fc T) := form_any ho
    have HC : Hid (T.flat.length ≤ c ∧ T.flat.length ≤ 4000) := ⟨hc, h4⟩
    obtain ⟨R, hR⟩ : ∃ R, nrm T = R := ⟨_, rfl⟩
    unfold Fc at HF
    rw [hR] at HF ⊢
    clear h0 hv hc h4 hR ho
    go_enter Tryd.func12, Tryd.ntmps12
    go_wp2_with fail
    refine (rwrong_any _ T.flat _ HV.out hm).mono ?_
    rintro e w1 ⟨rfl, hb1⟩
    rw [HX.out]
    have HB1 : Hid (Below w.heap.size w w1) := hb1
    clear hb1
    go_wp2_with fail
    refine (HF.out _ _ _ (HV.out.stay HB1.out) HC.out.1 HC.out.2).mono ?_
    rintro e w2 ⟨u, rfl, ho2, hb2⟩
    have HO : Hid (w2.ownsRow w.heap.size 52 2 u R.flat.length (ndC R.flat)) := own_mono ho2 HB1.out.size
    have HB2 : Hid (Below w.heap.size w w2) := go_on HB1.out hb2
    clear ho2 hb2
    go_wp2_with fail
    go_ret2
    exact ⟨_, rfl, HO.out, HB2.out⟩

set_option maxHeartbeats 2000000 in
theorem ris_jn {ts : List Nd} {E : Int} {R : List Nd} (h : NormR ts E R) (a : Option Addr) (c : Nat) (w : World) (hv : NReads w (.slice a ts.length c) ts) (hm : ts.length ≤ 9223372036854775806) (hc : ts.length ≤ c) : Calls Tryd.prog 13 #[.slice a ts.length c] w fun e w' => e = .returned (.tuple #[.bool (E == 0 && decide (R = ts)), .int .i64 E]) ∧ Below w.heap.size w w' := by
  have HN : Hid (Calls Tryd.prog 12 #[.slice a ts.length c] w (JN E R w)) := rnormal_jn h a c w hv hm hc
  have HRL : Hid (R.length ≤ 4000) := by
    rcases h with ⟨h0, rfl, rfl⟩ | ⟨T, ho, rfl, h0, rfl, rfl⟩
    · show _ ≤ _; simp
    · show _ ≤ _; have := nrm_len ho; have := (wrong_len h0).1; omega
  have HV : Hid (NReads w (.slice a ts.length c) ts) := hv
  obtain ⟨b, hb⟩ : ∃ b, decide (R = ts) = b := ⟨_, rfl⟩
  have HS : Hid (∀ (v1 v2 : Value) (w : World), NReads w v1 R → NReads w v2 ts → Calls Tryd.prog 36 #[v1, v2] w fun e w' => e = .returned (.bool b) ∧ Below w.heap.size w w') := fun v1 v2 w h1 h2 => by
    have := rsame_any v1 v2 R ts w h1 h2 (by have := HRL.out; omega)
    rw [hb] at this
    exact this
  rw [hb]
  clear h hv hb
  by_cases hE : E = 0
  · subst hE
    go_enter Tryd.func13, Tryd.ntmps13
    go_wp2_with fail
    refine HN.out.mono ?_
    rintro e w1 ⟨u, rfl, ho1, hb1⟩
    have HU : Hid (NReads w1 u R) := own_nreads ho1
    have HB1 : Hid (Below w.heap.size w w1) := hb1
    clear ho1 hb1
    go_wp2_with fail
    refine (HS.out _ _ _ HU.out (HV.out.stay HB1.out)).mono ?_
    rintro e w2 ⟨rfl, hb2⟩
    have HB2 : Hid (Below w.heap.size w w2) := go_on HB1.out hb2
    clear hb2
    go_wp2_with fail
    go_ret2
    exact ⟨by simp, HB2.out⟩
  · have hEb : (E == 0) = false := by rw [beq_eq_false_iff_ne]; exact hE
    rw [hEb]
    go_enter Tryd.func13, Tryd.ntmps13
    go_wp2_with fail
    refine HN.out.mono ?_
    rintro e w1 ⟨u, rfl, ho1, hb1⟩
    have HB1 : Hid (Below w.heap.size w w1) := hb1
    clear ho1 hb1
    go_wp2_with fail
    go_ret2
    exact ⟨by simp, HB1.out⟩
end Go.Proofs.YtdmjcfecahcdnaaDoor

namespace Go.Proofs.YtdmjcfecahcdnaaDoor
open Go Go.RowKit
set_option linter.unusedVariables false

set_option maxHeartbeats 1000000 in
theorem rfits_any (T : Tr) (E : Int) (R : List Nd) (h : Fits T E R) (a : Option Addr) (c : Nat) (w0 w : World) (hb0 : Below w0.heap.size w0 w) (ho : w.ownsRow w0.heap.size 52 2 (.slice a (nrm T).flat.length c) (nrm T).flat.length (ndC (nrm T).flat)) (hl : (nrm T).flat.length ≤ 9000) :
    Calls Tryd.prog 39 #[.slice a (nrm T).flat.length c] w (JN E R w0) := by
  unfold JN
  have HO : Hid _ := ho
  have HB : Hid _ := hb0
  rcases h with ⟨h1, rfl, rfl⟩ | ⟨h1, rfl, rfl⟩
  · obtain ⟨N, hN⟩ : ∃ N, (nrm T).flat.length = N := ⟨_, rfl⟩
    rw [hN] at h1 hl ⊢
    have hI : (4000 : Int) < N := by omega
    clear ho hb0 hN
    go_enter Tryd.func39, Tryd.ntmps39
    go_wp2_with fail
    go_ret2
    exact ⟨_, rfl, World.ownsRow_nil _ _ _ _, HB.out⟩
  · obtain ⟨N, hN⟩ : ∃ N, (nrm T).flat.length = N := ⟨_, rfl⟩
    rw [hN] at h1 hl HO ⊢
    have hI : ¬ (4000 : Int) < N := by omega
    clear ho hb0 hN
    go_enter Tryd.func39, Tryd.ntmps39
    go_wp2_with fail
    go_ret2
    exact ⟨_, rfl, HO.out, HB.out⟩

set_option maxHeartbeats 1000000 in
theorem rboth_any (a c : List Nd) (va vc : Value) (w : World) (hva : NReads w va a) (hvc : NReads w vc c) (ma : a.length ≤ 9223372036854775806) (mc : c.length ≤ 9223372036854775806) :
    Calls Tryd.prog 38 #[va, vc] w fun e w' => e = .returned (.int .i64 (wrong2 a c)) ∧ Below w.heap.size w w' := by
  have HA : Hid (NReads w va a) := hva
  have HC : Hid (NReads w vc c) := hvc
  by_cases h0 : wrong a = 0
  · have HW : Hid (wrong a = 0) := h0
    rw [show wrong2 a c = wrong c by unfold wrong2; rw [if_pos h0]]
    clear hva hvc h0
    go_enter Tryd.func38, Tryd.ntmps38
    go_wp2_with fail
    refine (rwrong_any _ a _ HA.out ma).mono ?_
    rintro e w1 ⟨rfl, hb1⟩
    rw [HW.out]
    have HB1 : Hid (Below w.heap.size w w1) := hb1
    clear hb1
    go_wp2_with fail
    refine (rwrong_any _ c _ (HC.out.stay HB1.out) mc).mono ?_
    rintro e w2 ⟨rfl, hb2⟩
    have HB2 : Hid (Below w.heap.size w w2) := go_on HB1.out hb2
    clear hb2
    go_wp2_with fail
    go_ret
    exact ⟨rfl, HB2.out⟩
  · rw [show wrong2 a c = wrong a by unfold wrong2; rw [if_neg h0]]
    obtain ⟨x, hx⟩ : ∃ x, wrong a = x := ⟨_, rfl⟩
    rw [hx] at h0 ⊢
    have hxb : (x != 0) = true := by simpa using h0
    have HX : Hid (wrong a = x) := hx
    clear hva hvc h0 hx
    go_enter Tryd.func38, Tryd.ntmps38
    go_wp2_with fail
    refine (rwrong_any _ a _ HA.out ma).mono ?_
    rintro e w1 ⟨rfl, hb1⟩
    rw [HX.out]
    have HB1 : Hid (Below w.heap.size w w1) := hb1
    clear hb1
    go_wp2_with fail
    go_ret
    exact ⟨rfl, HB1.out⟩

set_option maxHeartbeats 2000000 in
theorem rone8_jn {ts : List Nd} {E : Int} {R : List Nd} (h : OneR 8 ts E R) (a : Option Addr) (c : Nat) (w : World) (hv : NReads w (.slice a ts.length c) ts) (hm : ts.length ≤ 9223372036854775806) (hc : ts.length ≤ c) : Calls Tryd.prog 26 #[.int .i64 8, .slice a ts.length c] w (JN E R w) := by
  have HV : Hid (NReads w (.slice a ts.length c) ts) := hv
  rcases h with ⟨h0, rfl, rfl⟩ | ⟨T, ho, hT, h0, hF⟩
  · unfold JN
    obtain ⟨x, hx⟩ : ∃ x, wrong ts = x := ⟨_, rfl⟩
    rw [hx] at h0 ⊢
    have hxb : (x != 0) = true := by simpa using h0
    have HX : Hid (wrong ts = x) := hx
    clear hx h0 hv
    go_enter Tryd.func26, Tryd.ntmps26
    go_wp2_with fail
    refine (rwrong_any _ ts _ HV.out hm).mono ?_
    rintro e w1 ⟨rfl, hb1⟩
    rw [HX.out]
    have HB1 : Hid (Below w.heap.size w w1) := hb1
    clear hb1
    go_wp2_with fail
    go_ret2
    exact ⟨_, rfl, World.ownsRow_nil _ _ _ _, HB1.out⟩
  · subst hT
    have h4 := (wrong_len h0).1
    have HX : Hid (wrong T.flat = 0) := h0
    have HF : Hid (Fc T) := form_any ho
    have HC : Hid (T.flat.length ≤ c ∧ T.flat.length ≤ 4000) := ⟨hc, h4⟩
    have hok := nrm_ok ho
    have hln := nrm_len ho
    have hE : nrm (.one (8, 0) T) = RS (nrm T) := by simp [nrm]
    have hll := RS_len (nrm T)
    have HFT : Hid (∀ (a : Option Addr) (c : Nat) (w' : World), Below w.heap.size w w' → w'.ownsRow w.heap.size 52 2 (.slice a (RS (nrm T)).flat.length c) (RS (nrm T)).flat.length (ndC (RS (nrm T)).flat) → Calls Tryd.prog 39 #[.slice a (RS (nrm T)).flat.length c] w' (JN E R w)) := fun a c w' h1 h2 => by
      have := rfits_any (.one (8, 0) T) E R hF a c w w' h1 (by rw [hE]; exact h2) (by rw [hE]; omega)
      rw [hE] at this
      exact this
    obtain ⟨N, hN⟩ : ∃ N, nrm T = N := ⟨_, rfl⟩
    unfold Fc at HF
    rw [hN] at HF HFT hok hln
    have HNO : Hid N.ok := hok.1
    have hNl : N.flat.length ≤ 4000 := by omega
    obtain ⟨X, hX⟩ : ∃ X, RS N = X := ⟨_, rfl⟩
    rw [hX] at HFT
    have HRU : Hid (∀ (v : Value) (w : World), NReads w v N.flat → Cap v → Calls Tryd.prog 42 #[v] w (Own w X)) := fun v w h1 h2 => by rw [← hX]; exact again_any N HNO.out v w h1 (by omega)
    unfold JN at HFT ⊢
    clear h0 hv hc h4 hN hX ho hok hln hE hll hF
    go_enter Tryd.func26, Tryd.ntmps26
    go_wp2_with fail
    refine (rwrong_any _ T.flat _ HV.out hm).mono ?_
    rintro e w1 ⟨rfl, hb1⟩
    rw [HX.out]
    have HB1 : Hid (Below w.heap.size w w1) := hb1
    clear hb1
    go_wp2_with fail
    refine (HF.out _ _ _ (HV.out.stay HB1.out) HC.out.1 HC.out.2).mono ?_
    rintro e w2 ⟨u, rfl, ho2, hb2⟩
    have HU : Hid (NReads w2 u N.flat) := own_nreads ho2
    have HK : Hid (Cap u) := own_cap ho2
    have HB2 : Hid (Below w.heap.size w w2) := go_on HB1.out hb2
    clear ho2 hb2
    go_wp2_with fail
    refine (HRU.out _ _ HU.out HK.out).mono ?_
    rintro e w3 ⟨u3, rfl, ho3, hb3⟩
    have ho3' := own_mono ho3 HB2.out.size
    have HB3 : Hid (Below w.heap.size w w3) := go_on HB2.out hb3
    obtain ⟨za, zc, rfl⟩ := own_shape ho3'
    have HO3 : Hid (w3.ownsRow w.heap.size 52 2 (.slice za X.flat.length zc) X.flat.length (ndC X.flat)) := ho3'
    clear ho3 ho3' hb3
    go_wp2_with fail
    refine (HFT.out _ _ _ HB3.out HO3.out).mono ?_
    rintro e w4 ⟨u4, rfl, ho4, hb4⟩
    have HO4 : Hid _ := ho4
    have HB4 : Hid _ := hb4
    clear ho4 hb4
    go_wp2_with fail
    go_ret2
    exact ⟨_, rfl, HO4.out, HB4.out⟩

set_option maxHeartbeats 2000000 in
theorem rone9_jn {ts : List Nd} {E : Int} {R : List Nd} (h : OneR 9 ts E R) (a : Option Addr) (c : Nat) (w : World) (hv : NReads w (.slice a ts.length c) ts) (hm : ts.length ≤ 9223372036854775806) (hc : ts.length ≤ c) : Calls Tryd.prog 26 #[.int .i64 9, .slice a ts.length c] w (JN E R w) := by
  have HV : Hid (NReads w (.slice a ts.length c) ts) := hv
  rcases h with ⟨h0, rfl, rfl⟩ | ⟨T, ho, hT, h0, hF⟩
  · unfold JN
    obtain ⟨x, hx⟩ : ∃ x, wrong ts = x := ⟨_, rfl⟩
    rw [hx] at h0 ⊢
    have hxb : (x != 0) = true := by simpa using h0
    have HX : Hid (wrong ts = x) := hx
    clear hx h0 hv
    go_enter Tryd.func26, Tryd.ntmps26
    go_wp2_with fail
    refine (rwrong_any _ ts _ HV.out hm).mono ?_
    rintro e w1 ⟨rfl, hb1⟩
    rw [HX.out]
    have HB1 : Hid (Below w.heap.size w w1) := hb1
    clear hb1
    go_wp2_with fail
    go_ret2
    exact ⟨_, rfl, World.ownsRow_nil _ _ _ _, HB1.out⟩
  · subst hT
    have h4 := (wrong_len h0).1
    have HX : Hid (wrong T.flat = 0) := h0
    have HF : Hid (Fc T) := form_any ho
    have HC : Hid (T.flat.length ≤ c ∧ T.flat.length ≤ 4000) := ⟨hc, h4⟩
    have hok := nrm_ok ho
    have hln := nrm_len ho
    have hE : nrm (.one (9, 0) T) = RN (nrm T) := by simp [nrm]
    have hll := RN_len (nrm T)
    have HFT : Hid (∀ (a : Option Addr) (c : Nat) (w' : World), Below w.heap.size w w' → w'.ownsRow w.heap.size 52 2 (.slice a (RN (nrm T)).flat.length c) (RN (nrm T)).flat.length (ndC (RN (nrm T)).flat) → Calls Tryd.prog 39 #[.slice a (RN (nrm T)).flat.length c] w' (JN E R w)) := fun a c w' h1 h2 => by
      have := rfits_any (.one (9, 0) T) E R hF a c w w' h1 (by rw [hE]; exact h2) (by rw [hE]; omega)
      rw [hE] at this
      exact this
    obtain ⟨N, hN⟩ : ∃ N, nrm T = N := ⟨_, rfl⟩
    unfold Fc at HF
    rw [hN] at HF HFT hok hln
    have HNO : Hid N.ok := hok.1
    have hNl : N.flat.length ≤ 4000 := by omega
    obtain ⟨X, hX⟩ : ∃ X, RN N = X := ⟨_, rfl⟩
    rw [hX] at HFT
    have HRU : Hid (∀ (v : Value) (w : World), NReads w v N.flat → Cap v → Calls Tryd.prog 43 #[v] w (Own w X)) := fun v w h1 h2 => by rw [← hX]; exact other_any N HNO.out v w h1 (by omega) h2
    unfold JN at HFT ⊢
    clear h0 hv hc h4 hN hX ho hok hln hE hll hF
    go_enter Tryd.func26, Tryd.ntmps26
    go_wp2_with fail
    refine (rwrong_any _ T.flat _ HV.out hm).mono ?_
    rintro e w1 ⟨rfl, hb1⟩
    rw [HX.out]
    have HB1 : Hid (Below w.heap.size w w1) := hb1
    clear hb1
    go_wp2_with fail
    refine (HF.out _ _ _ (HV.out.stay HB1.out) HC.out.1 HC.out.2).mono ?_
    rintro e w2 ⟨u, rfl, ho2, hb2⟩
    have HU : Hid (NReads w2 u N.flat) := own_nreads ho2
    have HK : Hid (Cap u) := own_cap ho2
    have HB2 : Hid (Below w.heap.size w w2) := go_on HB1.out hb2
    clear ho2 hb2
    go_wp2_with fail
    refine (HRU.out _ _ HU.out HK.out).mono ?_
    rintro e w3 ⟨u3, rfl, ho3, hb3⟩
    have ho3' := own_mono ho3 HB2.out.size
    have HB3 : Hid (Below w.heap.size w w3) := go_on HB2.out hb3
    obtain ⟨za, zc, rfl⟩ := own_shape ho3'
    have HO3 : Hid (w3.ownsRow w.heap.size 52 2 (.slice za X.flat.length zc) X.flat.length (ndC X.flat)) := ho3'
    clear ho3 ho3' hb3
    go_wp2_with fail
    refine (HFT.out _ _ _ HB3.out HO3.out).mono ?_
    rintro e w4 ⟨u4, rfl, ho4, hb4⟩
    have HO4 : Hid _ := ho4
    have HB4 : Hid _ := hb4
    clear ho4 hb4
    go_wp2_with fail
    go_ret2
    exact ⟨_, rfl, HO4.out, HB4.out⟩

set_option maxHeartbeats 4000000 in
theorem rjoin5_jn {a c : List Nd} {E : Int} {R : List Nd} (h : JoinR 5 a c E R) (xa xc : Option Addr) (ca cc : Nat) (w : World) (hva : NReads w (.slice xa a.length ca) a) (hvc : NReads w (.slice xc c.length cc) c) (ma : a.length ≤ 9223372036854775806) (mc : c.length ≤ 9223372036854775806) (ka : a.length ≤ ca) (kc : c.length ≤ cc) :
    Calls Tryd.prog 22 #[.int .i64 5, .slice xa a.length ca, .slice xc c.length cc] w (JN E R w) := by
  have HA : Hid (NReads w (.slice xa a.length ca) a) := hva
  have HC : Hid (NReads w (.slice xc c.length cc) c) := hvc
  have HBO : Hid (Calls Tryd.prog 38 #[.slice xa a.length ca, .slice xc c.length cc] w fun e w' => e = .returned (.int .i64 (wrong2 a c)) ∧ Below w.heap.size w w') := rboth_any a c _ _ w hva hvc ma mc
  rcases h with ⟨h0, rfl, rfl⟩ | ⟨A, C, hoA, hoC, eA, eC, wA, wC, hF⟩
  · unfold JN
    obtain ⟨x, hx⟩ : ∃ x, wrong2 a c = x := ⟨_, rfl⟩
    rw [hx] at h0 HBO ⊢
    have hxb : (x != 0) = true := by simpa using h0
    clear hx h0 hva hvc
    go_enter Tryd.func22, Tryd.ntmps22
    go_wp2_with fail
    refine HBO.out.mono ?_
    rintro e w1 ⟨rfl, hb1⟩
    have HB1 : Hid (Below w.heap.size w w1) := hb1
    clear hb1
    go_wp2_with fail
    go_ret2
    exact ⟨_, rfl, World.ownsRow_nil _ _ _ _, HB1.out⟩
  · have h2 : wrong2 a c = 0 := by unfold wrong2; rw [if_pos wA]; exact wC
    rw [h2] at HBO
    subst eA
    subst eC
    have hA4 := (wrong_len wA).1
    have hC4 := (wrong_len wC).1
    have hFA := form_any hoA
    have hFC := form_any hoC
    have hokA := nrm_ok hoA
    have hokC := nrm_ok hoC
    have hlA := nrm_len hoA
    have hlC := nrm_len hoC
    have hE : nrm (.two (5, 0) A C) = R2 5 (nrm A) (nrm C) := by simp [nrm]
    have hll := R2_len (k := 5) (by decide) hokA.1 hokA.2 hokC.1
    obtain ⟨NA, hNA⟩ : ∃ N, nrm A = N := ⟨_, rfl⟩
    obtain ⟨NC, hNC⟩ : ∃ N, nrm C = N := ⟨_, rfl⟩
    unfold Fc at hFA hFC
    rw [hNA] at hFA hokA hlA hE hll
    rw [hNC] at hFC hokC hlC hE hll
    obtain ⟨X, hX⟩ : ∃ X, R2 5 NA NC = X := ⟨_, rfl⟩
    rw [hX] at hE hll
    have HFT : Hid (∀ (a : Option Addr) (c : Nat) (w' : World), Below w.heap.size w w' → w'.ownsRow w.heap.size 52 2 (.slice a X.flat.length c) X.flat.length (ndC X.flat) → Calls Tryd.prog 39 #[.slice a X.flat.length c] w' (JN E R w)) := fun a c w' h1 h2 => by
      have := rfits_any (.two (5, 0) A C) E R hF a c w w' h1 (by rw [hE]; exact h2) (by rw [hE]; omega)
      rw [hE] at this
      exact this
    have HFA : Hid (∀ (w' : World), Below w.heap.size w w' → Calls Tryd.prog 35 #[.slice xa A.flat.length ca] w' (Own w' NA)) := fun w' hb => hFA _ _ w' (hva.stay hb) ka hA4
    have HFC : Hid (∀ (w' : World), Below w.heap.size w w' → Calls Tryd.prog 35 #[.slice xc C.flat.length cc] w' (Own w' NC)) := fun w' hb => hFC _ _ w' (hvc.stay hb) kc hC4
    have HRU : Hid (∀ (ra : Option Addr) (ca : Nat) (rb : Option Addr) (cb : Nat) (w : World), NReads w (.slice ra NA.flat.length ca) NA.flat → NReads w (.slice rb NC.flat.length cb) NC.flat → NA.flat.length ≤ ca → NC.flat.length ≤ cb → Calls Tryd.prog 41 #[.int .i64 5, .slice ra NA.flat.length ca, .slice rb NC.flat.length cb] w (Own w X)) := fun ra ca rb cb w h1 h2 h3 h4 => by rw [← hX]; exact several_any 5 (by decide) NA NC hokA.1 hokA.2 hokC.1 hokC.2 ra rb ca cb w h1 h2 h3 h4 (by omega)
    unfold JN at HFT ⊢
    clear hva hvc h2 wA wC hA4 hC4 hFA hFC hokA hokC hlA hlC hE hll hNA hNC hX hF hoA hoC
    go_enter Tryd.func22, Tryd.ntmps22
    go_wp2_with fail
    refine HBO.out.mono ?_
    rintro e w1 ⟨rfl, hb1⟩
    have HB1 : Hid (Below w.heap.size w w1) := hb1
    clear hb1
    go_wp2_with fail
    refine (HFA.out _ HB1.out).mono ?_
    rintro e w2 ⟨u2, rfl, ho2, hb2⟩
    obtain ⟨a2, c2, rfl⟩ := own_shape ho2
    have HU2 : Hid (NReads w2 (.slice a2 NA.flat.length c2) NA.flat) := own_nreads ho2
    have HK2 : Hid (NA.flat.length ≤ c2) := own_cap ho2 _ _ _ rfl
    have HB2 : Hid (Below w.heap.size w w2) := go_on HB1.out hb2
    clear ho2 hb2
    go_wp2_with fail
    refine (HFC.out _ HB2.out).mono ?_
    rintro e w3 ⟨u3, rfl, ho3, hb3⟩
    obtain ⟨a3, c3, rfl⟩ := own_shape ho3
    have HU3 : Hid (NReads w3 (.slice a3 NC.flat.length c3) NC.flat) := own_nreads ho3
    have HK3 : Hid (NC.flat.length ≤ c3) := own_cap ho3 _ _ _ rfl
    have HU23 : Hid (NReads w3 (.slice a2 NA.flat.length c2) NA.flat) := HU2.out.stay hb3
    have HB3 : Hid (Below w.heap.size w w3) := go_on HB2.out hb3
    clear ho3 hb3
    go_wp2_with fail
    refine (HRU.out _ _ _ _ _ HU23.out HU3.out HK2.out HK3.out).mono ?_
    rintro e w4 ⟨u4, rfl, ho4, hb4⟩
    have ho4' := own_mono ho4 HB3.out.size
    obtain ⟨za, zc, rfl⟩ := own_shape ho4'
    have HB4 : Hid (Below w.heap.size w w4) := go_on HB3.out hb4
    have HO4 : Hid (w4.ownsRow w.heap.size 52 2 (.slice za X.flat.length zc) X.flat.length (ndC X.flat)) := ho4'
    clear ho4 ho4' hb4
    go_wp2_with fail
    refine (HFT.out _ _ _ HB4.out HO4.out).mono ?_
    rintro e w5 ⟨u5, rfl, ho5, hb5⟩
    have HO5 : Hid _ := ho5
    have HB5 : Hid _ := hb5
    clear ho5 hb5
    go_wp2_with fail
    go_ret2
    exact ⟨_, rfl, HO5.out, HB5.out⟩

set_option maxHeartbeats 4000000 in
theorem rjoin6_jn {a c : List Nd} {E : Int} {R : List Nd} (h : JoinR 6 a c E R) (xa xc : Option Addr) (ca cc : Nat) (w : World) (hva : NReads w (.slice xa a.length ca) a) (hvc : NReads w (.slice xc c.length cc) c) (ma : a.length ≤ 9223372036854775806) (mc : c.length ≤ 9223372036854775806) (ka : a.length ≤ ca) (kc : c.length ≤ cc) :
    Calls Tryd.prog 22 #[.int .i64 6, .slice xa a.length ca, .slice xc c.length cc] w (JN E R w) := by
  have HA : Hid (NReads w (.slice xa a.length ca) a) := hva
  have HC : Hid (NReads w (.slice xc c.length cc) c) := hvc
  have HBO : Hid (Calls Tryd.prog 38 #[.slice xa a.length ca, .slice xc c.length cc] w fun e w' => e = .returned (.int .i64 (wrong2 a c)) ∧ Below w.heap.size w w') := rboth_any a c _ _ w hva hvc ma mc
  rcases h with ⟨h0, rfl, rfl⟩ | ⟨A, C, hoA, hoC, eA, eC, wA, wC, hF⟩
  · unfold JN
    obtain ⟨x, hx⟩ : ∃ x, wrong2 a c = x := ⟨_, rfl⟩
    rw [hx] at h0 HBO ⊢
    have hxb : (x != 0) = true := by simpa using h0
    clear hx h0 hva hvc
    go_enter Tryd.func22, Tryd.ntmps22
    go_wp2_with fail
    refine HBO.out.mono ?_
    rintro e w1 ⟨rfl, hb1⟩
    have HB1 : Hid (Below w.heap.size w w1) := hb1
    clear hb1
    go_wp2_with fail
    go_ret2
    exact ⟨_, rfl, World.ownsRow_nil _ _ _ _, HB1.out⟩
  · have h2 : wrong2 a c = 0 := by unfold wrong2; rw [if_pos wA]; exact wC
    rw [h2] at HBO
    subst eA
    subst eC
    have hA4 := (wrong_len wA).1
    have hC4 := (wrong_len wC).1
    have hFA := form_any hoA
    have hFC := form_any hoC
    have hokA := nrm_ok hoA
    have hokC := nrm_ok hoC
    have hlA := nrm_len hoA
    have hlC := nrm_len hoC
    have hE : nrm (.two (6, 0) A C) = R2 6 (nrm A) (nrm C) := by simp [nrm]
    have hll := R2_len (k := 6) (by decide) hokA.1 hokA.2 hokC.1
    obtain ⟨NA, hNA⟩ : ∃ N, nrm A = N := ⟨_, rfl⟩
    obtain ⟨NC, hNC⟩ : ∃ N, nrm C = N := ⟨_, rfl⟩
    unfold Fc at hFA hFC
    rw [hNA] at hFA hokA hlA hE hll
    rw [hNC] at hFC hokC hlC hE hll
    obtain ⟨X, hX⟩ : ∃ X, R2 6 NA NC = X := ⟨_, rfl⟩
    rw [hX] at hE hll
    have HFT : Hid (∀ (a : Option Addr) (c : Nat) (w' : World), Below w.heap.size w w' → w'.ownsRow w.heap.size 52 2 (.slice a X.flat.length c) X.flat.length (ndC X.flat) → Calls Tryd.prog 39 #[.slice a X.flat.length c] w' (JN E R w)) := fun a c w' h1 h2 => by
      have := rfits_any (.two (6, 0) A C) E R hF a c w w' h1 (by rw [hE]; exact h2) (by rw [hE]; omega)
      rw [hE] at this
      exact this
    have HFA : Hid (∀ (w' : World), Below w.heap.size w w' → Calls Tryd.prog 35 #[.slice xa A.flat.length ca] w' (Own w' NA)) := fun w' hb => hFA _ _ w' (hva.stay hb) ka hA4
    have HFC : Hid (∀ (w' : World), Below w.heap.size w w' → Calls Tryd.prog 35 #[.slice xc C.flat.length cc] w' (Own w' NC)) := fun w' hb => hFC _ _ w' (hvc.stay hb) kc hC4
    have HRU : Hid (∀ (ra : Option Addr) (ca : Nat) (rb : Option Addr) (cb : Nat) (w : World), NReads w (.slice ra NA.flat.length ca) NA.flat → NReads w (.slice rb NC.flat.length cb) NC.flat → NA.flat.length ≤ ca → NC.flat.length ≤ cb → Calls Tryd.prog 41 #[.int .i64 6, .slice ra NA.flat.length ca, .slice rb NC.flat.length cb] w (Own w X)) := fun ra ca rb cb w h1 h2 h3 h4 => by rw [← hX]; exact several_any 6 (by decide) NA NC hokA.1 hokA.2 hokC.1 hokC.2 ra rb ca cb w h1 h2 h3 h4 (by omega)
    unfold JN at HFT ⊢
    clear hva hvc h2 wA wC hA4 hC4 hFA hFC hokA hokC hlA hlC hE hll hNA hNC hX hF hoA hoC
    go_enter Tryd.func22, Tryd.ntmps22
    go_wp2_with fail
    refine HBO.out.mono ?_
    rintro e w1 ⟨rfl, hb1⟩
    have HB1 : Hid (Below w.heap.size w w1) := hb1
    clear hb1
    go_wp2_with fail
    refine (HFA.out _ HB1.out).mono ?_
    rintro e w2 ⟨u2, rfl, ho2, hb2⟩
    obtain ⟨a2, c2, rfl⟩ := own_shape ho2
    have HU2 : Hid (NReads w2 (.slice a2 NA.flat.length c2) NA.flat) := own_nreads ho2
    have HK2 : Hid (NA.flat.length ≤ c2) := own_cap ho2 _ _ _ rfl
    have HB2 : Hid (Below w.heap.size w w2) := go_on HB1.out hb2
    clear ho2 hb2
    go_wp2_with fail
    refine (HFC.out _ HB2.out).mono ?_
    rintro e w3 ⟨u3, rfl, ho3, hb3⟩
    obtain ⟨a3, c3, rfl⟩ := own_shape ho3
    have HU3 : Hid (NReads w3 (.slice a3 NC.flat.length c3) NC.flat) := own_nreads ho3
    have HK3 : Hid (NC.flat.length ≤ c3) := own_cap ho3 _ _ _ rfl
    have HU23 : Hid (NReads w3 (.slice a2 NA.flat.length c2) NA.flat) := HU2.out.stay hb3
    have HB3 : Hid (Below w.heap.size w w3) := go_on HB2.out hb3
    clear ho3 hb3
    go_wp2_with fail
    refine (HRU.out _ _ _ _ _ HU23.out HU3.out HK2.out HK3.out).mono ?_
    rintro e w4 ⟨u4, rfl, ho4, hb4⟩
    have ho4' := own_mono ho4 HB3.out.size
    obtain ⟨za, zc, rfl⟩ := own_shape ho4'
    have HB4 : Hid (Below w.heap.size w w4) := go_on HB3.out hb4
    have HO4 : Hid (w4.ownsRow w.heap.size 52 2 (.slice za X.flat.length zc) X.flat.length (ndC X.flat)) := ho4'
    clear ho4 ho4' hb4
    go_wp2_with fail
    refine (HFT.out _ _ _ HB4.out HO4.out).mono ?_
    rintro e w5 ⟨u5, rfl, ho5, hb5⟩
    have HO5 : Hid _ := ho5
    have HB5 : Hid _ := hb5
    clear ho5 hb5
    go_wp2_with fail
    go_ret2
    exact ⟨_, rfl, HO5.out, HB5.out⟩

set_option maxHeartbeats 4000000 in
theorem rjoin7_jn {a c : List Nd} {E : Int} {R : List Nd} (h : JoinR 7 a c E R) (xa xc : Option Addr) (ca cc : Nat) (w : World) (hva : NReads w (.slice xa a.length ca) a) (hvc : NReads w (.slice xc c.length cc) c) (ma : a.length ≤ 9223372036854775806) (mc : c.length ≤ 9223372036854775806) (ka : a.length ≤ ca) (kc : c.length ≤ cc) :
    Calls Tryd.prog 22 #[.int .i64 7, .slice xa a.length ca, .slice xc c.length cc] w (JN E R w) := by
  have HA : Hid (NReads w (.slice xa a.length ca) a) := hva
  have HC : Hid (NReads w (.slice xc c.length cc) c) := hvc
  have HBO : Hid (Calls Tryd.prog 38 #[.slice xa a.length ca, .slice xc c.length cc] w fun e w' => e = .returned (.int .i64 (wrong2 a c)) ∧ Below w.heap.size w w') := rboth_any a c _ _ w hva hvc ma mc
  rcases h with ⟨h0, rfl, rfl⟩ | ⟨A, C, hoA, hoC, eA, eC, wA, wC, hF⟩
  · unfold JN
    obtain ⟨x, hx⟩ : ∃ x, wrong2 a c = x := ⟨_, rfl⟩
    rw [hx] at h0 HBO ⊢
    have hxb : (x != 0) = true := by simpa using h0
    clear hx h0 hva hvc
    go_enter Tryd.func22, Tryd.ntmps22
    go_wp2_with fail
    refine HBO.out.mono ?_
    rintro e w1 ⟨rfl, hb1⟩
    have HB1 : Hid (Below w.heap.size w w1) := hb1
    clear hb1
    go_wp2_with fail
    go_ret2
    exact ⟨_, rfl, World.ownsRow_nil _ _ _ _, HB1.out⟩
  · have h2 : wrong2 a c = 0 := by unfold wrong2; rw [if_pos wA]; exact wC
    rw [h2] at HBO
    subst eA
    subst eC
    have hA4 := (wrong_len wA).1
    have hC4 := (wrong_len wC).1
    have hFA := form_any hoA
    have hFC := form_any hoC
    have hokA := nrm_ok hoA
    have hokC := nrm_ok hoC
    have hlA := nrm_len hoA
    have hlC := nrm_len hoC
    have hE : nrm (.two (7, 0) A C) = RC (nrm A) (nrm C) := by simp [nrm]
    have hll := RC_len (nrm A) (nrm C)
    obtain ⟨NA, hNA⟩ : ∃ N, nrm A = N := ⟨_, rfl⟩
    obtain ⟨NC, hNC⟩ : ∃ N, nrm C = N := ⟨_, rfl⟩
    unfold Fc at hFA hFC
    rw [hNA] at hFA hokA hlA hE hll
    rw [hNC] at hFC hokC hlC hE hll
    obtain ⟨X, hX⟩ : ∃ X, RC NA NC = X := ⟨_, rfl⟩
    rw [hX] at hE hll
    have HFT : Hid (∀ (a : Option Addr) (c : Nat) (w' : World), Below w.heap.size w w' → w'.ownsRow w.heap.size 52 2 (.slice a X.flat.length c) X.flat.length (ndC X.flat) → Calls Tryd.prog 39 #[.slice a X.flat.length c] w' (JN E R w)) := fun a c w' h1 h2 => by
      have := rfits_any (.two (7, 0) A C) E R hF a c w w' h1 (by rw [hE]; exact h2) (by rw [hE]; omega)
      rw [hE] at this
      exact this
    have HFA : Hid (∀ (w' : World), Below w.heap.size w w' → Calls Tryd.prog 35 #[.slice xa A.flat.length ca] w' (Own w' NA)) := fun w' hb => hFA _ _ w' (hva.stay hb) ka hA4
    have HFC : Hid (∀ (w' : World), Below w.heap.size w w' → Calls Tryd.prog 35 #[.slice xc C.flat.length cc] w' (Own w' NC)) := fun w' hb => hFC _ _ w' (hvc.stay hb) kc hC4
    have HRU : Hid (∀ (ra : Option Addr) (ca : Nat) (rb : Option Addr) (cb : Nat) (w : World), NReads w (.slice ra NA.flat.length ca) NA.flat → NReads w (.slice rb NC.flat.length cb) NC.flat → NA.flat.length ≤ ca → NC.flat.length ≤ cb → Calls Tryd.prog 40 #[.slice ra NA.flat.length ca, .slice rb NC.flat.length cb] w (Own w X)) := fun ra ca rb cb w h1 h2 h3 h4 => by rw [← hX]; exact behind_any hokA.1 hokA.2 NC _ _ w hokC.1 hokC.2 h1 h2 (fun a' n' c' e => by cases e; exact h3) (fun a' n' c' e => by cases e; exact h4) (by omega)
    unfold JN at HFT ⊢
    clear hva hvc h2 wA wC hA4 hC4 hFA hFC hokA hokC hlA hlC hE hll hNA hNC hX hF hoA hoC
    go_enter Tryd.func22, Tryd.ntmps22
    go_wp2_with fail
    refine HBO.out.mono ?_
    rintro e w1 ⟨rfl, hb1⟩
    have HB1 : Hid (Below w.heap.size w w1) := hb1
    clear hb1
    go_wp2_with fail
    refine (HFA.out _ HB1.out).mono ?_
    rintro e w2 ⟨u2, rfl, ho2, hb2⟩
    obtain ⟨a2, c2, rfl⟩ := own_shape ho2
    have HU2 : Hid (NReads w2 (.slice a2 NA.flat.length c2) NA.flat) := own_nreads ho2
    have HK2 : Hid (NA.flat.length ≤ c2) := own_cap ho2 _ _ _ rfl
    have HB2 : Hid (Below w.heap.size w w2) := go_on HB1.out hb2
    clear ho2 hb2
    go_wp2_with fail
    refine (HFC.out _ HB2.out).mono ?_
    rintro e w3 ⟨u3, rfl, ho3, hb3⟩
    obtain ⟨a3, c3, rfl⟩ := own_shape ho3
    have HU3 : Hid (NReads w3 (.slice a3 NC.flat.length c3) NC.flat) := own_nreads ho3
    have HK3 : Hid (NC.flat.length ≤ c3) := own_cap ho3 _ _ _ rfl
    have HU23 : Hid (NReads w3 (.slice a2 NA.flat.length c2) NA.flat) := HU2.out.stay hb3
    have HB3 : Hid (Below w.heap.size w w3) := go_on HB2.out hb3
    clear ho3 hb3
    go_wp2_with fail
    refine (HRU.out _ _ _ _ _ HU23.out HU3.out HK2.out HK3.out).mono ?_
    rintro e w4 ⟨u4, rfl, ho4, hb4⟩
    have ho4' := own_mono ho4 HB3.out.size
    obtain ⟨za, zc, rfl⟩ := own_shape ho4'
    have HB4 : Hid (Below w.heap.size w w4) := go_on HB3.out hb4
    have HO4 : Hid (w4.ownsRow w.heap.size 52 2 (.slice za X.flat.length zc) X.flat.length (ndC X.flat)) := ho4'
    clear ho4 ho4' hb4
    go_wp2_with fail
    refine (HFT.out _ _ _ HB4.out HO4.out).mono ?_
    rintro e w5 ⟨u5, rfl, ho5, hb5⟩
    have HO5 : Hid _ := ho5
    have HB5 : Hid _ := hb5
    clear ho5 hb5
    go_wp2_with fail
    go_ret2
    exact ⟨_, rfl, HO5.out, HB5.out⟩
end Go.Proofs.YtdmjcfecahcdnaaDoor
