/- Run and Accepts, program and document. -/
import Derived.Test.YtihjhkbbpphocaaJf
namespace Go.Proofs.Ytihjhkbbpphocaa
open Go Go.RowKit Go.Lib
set_option linter.unusedVariables false

theorem runE_bad {A : Aut} (h : chkA A = 80) (s : Int) (b : ByteArray) : runE A s b = 80 ∧ runV A s b = 0 := by
  have e : runE A s b = 80 := by unfold runE; rw [if_neg (by rw [h]; decide)]
  exact ⟨e, by unfold runV; rw [if_neg (by rw [e]; decide)]⟩
theorem runE_range {A : Aut} (h : chkA A = 0) {s : Int} (hs : s < 0 ∨ A.ac.length ≤ s) (b : ByteArray) : runE A s b = 11 ∧ runV A s b = 0 := by
  have e : runE A s b = 11 := by unfold runE; rw [if_pos h, if_pos hs]
  exact ⟨e, by unfold runV; rw [if_neg (by rw [e]; decide)]⟩
theorem runE_in {A : Aut} (h : chkA A = 0) {s : Int} (hs : ¬ (s < 0 ∨ A.ac.length ≤ s)) (b : ByteArray) : runE A s b = chk A.k b := by unfold runE; rw [if_pos h, if_neg hs]

set_option maxHeartbeats 2000000 in
set_option maxRecDepth 100000 in
theorem run_any (v : Value) (A : Aut) (w : World) (h : AR w v A) (hm : A.nx.length ≤ 9223372036854775806) (hm2 : A.ac.length ≤ 9223372036854775806) (s : Int) (b : ByteArray) (hz : b.size ≤ 9223372036854775807) :
    Calls Try.prog 49 #[v, .int .i64 s, .string b] w fun e w' => e = .returned (.tuple #[.int .i64 (runV A s b), .int .i64 (runE A s b)]) ∧ Below w.heap.size w w' := by
  obtain ⟨an, cn, aa, ca, e, h1, h2⟩ := h.is
  have HA : Hid (∀ w', Below w.heap.size w w' → AR w' v A) := fun w' hb => h.stay hb
  clear h h1 h2
  subst e
  have R1 : RowAt (w.alloc (.cells #[.int .i64 A.k, .slice an A.nx.length cn, .slice aa A.ac.length ca] 58)) w.heap.size #[.int .i64 A.k, .slice an A.nx.length cn, .slice aa A.ac.length ca] := RowAt.last _ _ _
  have HR1 : Hid _ := R1
  clear R1
  go_enter Try.func49, Try.ntmps49
  go_wp2_with fail
  refine (acheck_any _ A _ (HA.out _ (below_new _ _)) hm hm2).mono ?_
  rintro e w1 ⟨rfl, hb1⟩
  have HR2 : Hid (RowAt w1 w.heap.size #[.int .i64 A.k, .slice an A.nx.length cn, .slice aa A.ac.length ca]) := RowAt.stay HR1.out hb1
  have HB : Hid (Below w.heap.size w w1) := go_on (below_new _ _) hb1
  clear hb1
  have cs := HR2.out.cell
  rcases chkA_cases A with ⟨hG, hc⟩ | ⟨hG, hc⟩
  · rw [hc]
    have HC : Hid (chkA A = 0) := hc
    have HG : Hid (Good A) := hG
    clear hc hG
    by_cases s0 : s < 0
    · have HE : Hid (runE A s b = 11 ∧ runV A s b = 0) := runE_range HC.out (.inl s0) b
      go_wp2_with fail
      go_ret2
      exact ⟨ret_two (by rw [HE.out.2]; first | done | rfl) (by rw [HE.out.1]; first | done | rfl), HB.out⟩
    by_cases s1 : (A.ac.length : Int) ≤ s
    · have HE : Hid (runE A s b = 11 ∧ runV A s b = 0) := runE_range HC.out (.inr s1) b
      go_wp2_with fail
      go_ret2
      exact ⟨ret_two (by rw [HE.out.2]; first | done | rfl) (by rw [HE.out.1]; first | done | rfl), HB.out⟩
    have HE : Hid (runE A s b = chk A.k b) := runE_in HC.out (by omega) b
    obtain ⟨n, rfl⟩ : ∃ n : Nat, s = n := ⟨s.toNat, by omega⟩
    have hn : n < A.ac.length := by omega
    clear s0
    go_wp2_with fail
    refine (check_any _ _ _).mono ?_
    rintro e w2 ⟨rfl, hb2⟩
    have HB2 : Hid (Below w.heap.size w w2) := go_on HB.out hb2
    have cs2 := (HR2.out.stay hb2).cell
    clear hb2 cs
    rcases chk_cases (b := b) HG.out.k1 HG.out.k8 with hq | hq
    · have HV : Hid (runV A n b = goN A n (lets b)) := by
        show _ = _
        unfold runV
        rw [if_pos (by rw [HE.out, hq]), Int.toNat_natCast]
      have HL : Hid (Lts A.k b) := chk_all hq
      have HE2 : Hid (runE A n b = 0) := by show _ = _; rw [HE.out, hq]
      rw [hq]
      clear hq
      go_wp2_with fail
      refine (lead_any _ A _ (HA.out _ HB2.out) HG.out n hn b HL.out hz).mono ?_
      rintro e w3 ⟨rfl, hb3⟩
      have HB3 : Hid (Below w.heap.size w w3) := go_on HB2.out hb3
      clear hb3
      go_wp2_with fail
      go_ret2
      exact ⟨ret_two (by rw [HV.out]; first | done | rfl) (by rw [HE2.out]; first | done | rfl), HB3.out⟩
    · have HE2 : Hid (runE A n b = 21) := by show _ = _; rw [HE.out, hq]
      have HV : Hid (runV A n b = 0) := by
        show _ = _
        unfold runV
        rw [if_neg (by rw [HE2.out]; decide)]
      rw [hq]
      clear hq
      go_wp2_with fail
      go_ret2
      exact ⟨ret_two (by rw [HV.out]; first | done | rfl) (by rw [HE2.out]; first | done | rfl), HB2.out⟩
  · have HE : Hid (runE A s b = 80 ∧ runV A s b = 0) := runE_bad hc s b
    rw [hc]
    clear hc hG
    go_wp2_with fail
    go_ret2
    exact ⟨ret_two (by rw [HE.out.2]; first | done | rfl) (by rw [HE.out.1]; first | done | rfl), HB.out⟩

theorem accV_no {A : Aut} {b : ByteArray} (h : cwE A b ≠ 0) : accV A b = false := by unfold accV; rw [if_neg h]
theorem cwE_run {A : Aut} {b : ByteArray} : runE A 0 b = cwE A b := by
  unfold runE cwE
  rcases chkA_cases A with ⟨hG, hc⟩ | ⟨hG, hc⟩
  · rw [if_pos hc, if_pos hc, if_neg (by have := hG.n1; omega)]
  · rw [if_neg (by rw [hc]; decide), if_neg (by rw [hc]; decide)]
theorem cwE_good {A : Aut} {b : ByteArray} (h : cwE A b = 0) : Good A ∧ Lts A.k b := by
  unfold cwE at h
  split at h
  · rename_i h2
    exact ⟨chkA_good h2, chk_all h⟩
  · cases h

end Go.Proofs.Ytihjhkbbpphocaa
