/- Run and Accepts, program and document. -/
import Derived.Test.YtpaadopmmpdodaaJf
namespace Go.Proofs.Ytpaadopmmpdodaa
open Go Go.RowKit Go.Lib
set_option linter.unusedVariables false

theorem runE_bad {A : Aut} (h : chkA A = 80) (s : Int) (b : ByteArray) : runE A s b = 80 ∧ runV A s b = 0 := by
  have e : runE A s b = 80 := by unfold runE; rw [if_neg (by rw [h]; decide)]
  exact ⟨e, by unfold runV; rw [if_neg (by rw [e]; decide)]⟩
theorem runE_range {A : Aut} (h : chkA A = 0) {s : Int} (hs : s < 0 ∨ A.ac.length ≤ s) (b : ByteArray) : runE A s b = 11 ∧ runV A s b = 0 := by
  have e : runE A s b = 11 := by unfold runE; rw [if_pos h, if_pos hs]
  exact ⟨e, by unfold runV; rw [if_neg (by rw [e]; decide)]⟩
theorem runE_in {A : Aut} (h : chkA A = 0) {s : Int} (hs : ¬ (s < 0 ∨ A.ac.length ≤ s)) (b : ByteArray) : runE A s b = chk A.k b := by unfold runE; rw [if_pos h, if_neg hs]

set_option maxHeartbeats 2000000 in
set_option maxRecDepth 100000 in
theorem run_any (v : Value) (A : Aut) (w : World) (h : AR w v A) (hm : A.nx.length ≤ 9223372036854775806) (hm2 : A.ac.length ≤ 9223372036854775806) (s : Int) (b : ByteArray) (hz : b.size ≤ 9223372036854775807) :
    Calls Try.prog 8 #[v, .int .i64 s, .string b] w fun e w' => e = .returned (.tuple #[.int .i64 (runV A s b), .int .i64 (runE A s b)]) ∧ Below w.heap.size w w' := by
  obtain ⟨an, cn, aa, ca, e, h1, h2⟩ := h.is
  have HA : Hid (∀ w', Below w.heap.size w w' → AR w' v A) := fun w' hb => h.stay hb
  clear h h1 h2
  subst e
  have R1 : RowAt (w.alloc (.cells #[.int .i64 A.k, .slice an A.nx.length cn, .slice aa A.ac.length ca] 25)) w.heap.size #[.int .i64 A.k, .slice an A.nx.length cn, .slice aa A.ac.length ca] := RowAt.last _ _ _
  have HR1 : Hid _ := R1
  clear R1
  go_enter Try.func8, Try.ntmps8
  go_wp2_with fail
  refine (acheck_any _ A _ (HA.out _ (below_new _ _)) hm hm2).mono ?_
  rintro e w1 ⟨rfl, hb1⟩
  have HR2 : Hid (RowAt w1 w.heap.size #[.int .i64 A.k, .slice an A.nx.length cn, .slice aa A.ac.length ca]) := RowAt.stay HR1.out hb1
  have HB : Hid (Below w.heap.size w w1) := go_on (below_new _ _) hb1
  clear hb1
  have cs := HR2.out.cell
  rcases chkA_cases A with ⟨hG, hc⟩ | ⟨hG, hc⟩
  · rw [hc]
    have HC : Hid (chkA A = 0) := hc
    have HG : Hid (Good A) := hG
    clear hc hG
    by_cases s0 : s < 0
    · have HE : Hid (runE A s b = 11 ∧ runV A s b = 0) := runE_range HC.out (.inl s0) b
      go_wp2_with fail
      go_ret2
      exact ⟨ret_two (by rw [HE.out.2]; first | done | rfl) (by rw [HE.out.1]; first | done | rfl), HB.out⟩
    by_cases s1 : (A.ac.length : Int) ≤ s
    · have HE : Hid (runE A s b = 11 ∧ runV A s b = 0) := runE_range HC.out (.inr s1) b
      go_wp2_with fail
      go_ret2
      exact ⟨ret_two (by rw [HE.out.2]; first | done | rfl) (by rw [HE.out.1]; first | done | rfl), HB.out⟩
    have HE : Hid (runE A s b = chk A.k b) := runE_in HC.out (by omega) b
    obtain ⟨n, rfl⟩ : ∃ n : Nat, s = n := ⟨s.toNat, by omega⟩
    have hn : n < A.ac.length := by omega
    clear s0
    go_wp2_with fail
    refine (check_any _ _ _).mono ?_
    rintro e w2 ⟨rfl, hb2⟩
    have HB2 : Hid (Below w.heap.size w w2) := go_on HB.out hb2
    have cs2 := (HR2.out.stay hb2).cell
    clear hb2 cs
    rcases chk_cases (b := b) HG.out.k1 HG.out.k8 with hq | hq
    · have HV : Hid (runV A n b = goN A n (lets b)) := by
        show _ = _
        unfold runV
        rw [if_pos (by rw [HE.out, hq]), Int.toNat_natCast]
      have HL : Hid (Lts A.k b) := chk_all hq
      have HE2 : Hid (runE A n b = 0) := by show _ = _; rw [HE.out, hq]
      rw [hq]
      clear hq
      go_wp2_with fail
      refine (lead_any _ A _ (HA.out _ HB2.out) HG.out n hn b HL.out hz).mono ?_
      rintro e w3 ⟨rfl, hb3⟩
      have HB3 : Hid (Below w.heap.size w w3) := go_on HB2.out hb3
      clear hb3
      go_wp2_with fail
      go_ret2
      exact ⟨ret_two (by rw [HV.out]; first | done | rfl) (by rw [HE2.out]; first | done | rfl), HB3.out⟩
    · have HE2 : Hid (runE A n b = 21) := by show _ = _; rw [HE.out, hq]
      have HV : Hid (runV A n b = 0) := by
        show _ = _
        unfold runV
        rw [if_neg (by rw [HE2.out]; decide)]
      rw [hq]
      clear hq
      go_wp2_with fail
      go_ret2
      exact ⟨ret_two (by rw [HV.out]; first | done | rfl) (by rw [HE2.out]; first | done | rfl), HB2.out⟩
  · have HE : Hid (runE A s b = 80 ∧ runV A s b = 0) := runE_bad hc s b
    rw [hc]
    clear hc hG
    go_wp2_with fail
    go_ret2
    exact ⟨ret_two (by rw [HE.out.2]; first | done | rfl) (by rw [HE.out.1]; first | done | rfl), HB.out⟩

set_option maxHeartbeats 2000000 in
set_option maxRecDepth 100000 in
theorem rrun_any (v : Value) (A : Aut) (w : World) (h : AR w v A) (hm : A.nx.length ≤ 9223372036854775806) (hm2 : A.ac.length ≤ 9223372036854775806) (s : Int) (b : ByteArray) (hz : b.size ≤ maxLen) :
    Calls Try.prog 9 #[v, .int .i64 s, .string b] w fun e w' => e = .returned (.tuple #[.int .i64 (runV A s b), .int .i64 (runE A s b)]) ∧ Below w.heap.size w w' := by
  obtain ⟨an, cn, aa, ca, e, h1, h2⟩ := h.is
  have HA : Hid (∀ w', Below w.heap.size w w' → AR w' v A) := fun w' hb => h.stay hb
  clear h h1 h2
  subst e
  have HZ : Hid (b.size ≤ maxLen) := hz
  clear hz
  have R1 : RowAt (w.alloc (.cells #[.int .i64 A.k, .slice an A.nx.length cn, .slice aa A.ac.length ca] 25)) w.heap.size #[.int .i64 A.k, .slice an A.nx.length cn, .slice aa A.ac.length ca] := RowAt.last _ _ _
  have HR1 : Hid _ := R1
  clear R1
  go_enter Try.func9, Try.ntmps9
  go_wp2_with fail
  refine (racheck_any _ A _ (HA.out _ (below_new _ _)) hm hm2).mono ?_
  rintro e w1 ⟨rfl, hb1⟩
  have HR2 : Hid (RowAt w1 w.heap.size #[.int .i64 A.k, .slice an A.nx.length cn, .slice aa A.ac.length ca]) := RowAt.stay HR1.out hb1
  have HB : Hid (Below w.heap.size w w1) := go_on (below_new _ _) hb1
  clear hb1
  have cs := HR2.out.cell
  rcases chkA_cases A with ⟨hG, hc⟩ | ⟨hG, hc⟩
  · rw [hc]
    have HC : Hid (chkA A = 0) := hc
    have HG : Hid (Good A) := hG
    clear hc hG
    by_cases s0 : s < 0
    · have HE : Hid (runE A s b = 11 ∧ runV A s b = 0) := runE_range HC.out (.inl s0) b
      go_wp2_with fail
      go_ret2
      exact ⟨ret_two (by rw [HE.out.2]; first | done | rfl) (by rw [HE.out.1]; first | done | rfl), HB.out⟩
    by_cases s1 : (A.ac.length : Int) ≤ s
    · have HE : Hid (runE A s b = 11 ∧ runV A s b = 0) := runE_range HC.out (.inr s1) b
      go_wp2_with fail
      go_ret2
      exact ⟨ret_two (by rw [HE.out.2]; first | done | rfl) (by rw [HE.out.1]; first | done | rfl), HB.out⟩
    have HE : Hid (runE A s b = chk A.k b) := runE_in HC.out (by omega) b
    obtain ⟨n, rfl⟩ : ∃ n : Nat, s = n := ⟨s.toNat, by omega⟩
    have hn : n < A.ac.length := by omega
    clear s0
    go_wp2_with fail
    refine (rcheck_any _ _ _ HZ.out).mono ?_
    rintro e w2 ⟨rfl, hb2⟩
    have HB2 : Hid (Below w.heap.size w w2) := go_on HB.out hb2
    have cs2 := (HR2.out.stay hb2).cell
    clear hb2 cs
    rcases chk_cases (b := b) HG.out.k1 HG.out.k8 with hq | hq
    · have HV : Hid (runV A n b = goN A n (lets b)) := by
        show _ = _
        unfold runV
        rw [if_pos (by rw [HE.out, hq]), Int.toNat_natCast]
      have HL : Hid (Lts A.k b) := chk_all hq
      have HE2 : Hid (runE A n b = 0) := by show _ = _; rw [HE.out, hq]
      rw [hq]
      clear hq
      go_wp2_with fail
      refine (rgo_any _ A _ (HA.out _ HB2.out) HG.out n hn b HL.out (Nat.le_trans HZ.out (by decide))).mono ?_
      rintro e w3 ⟨rfl, hb3⟩
      have HB3 : Hid (Below w.heap.size w w3) := go_on HB2.out hb3
      clear hb3
      go_wp2_with fail
      go_ret2
      exact ⟨ret_two (by rw [HV.out]; first | done | rfl) (by rw [HE2.out]; first | done | rfl), HB3.out⟩
    · have HE2 : Hid (runE A n b = 21) := by show _ = _; rw [HE.out, hq]
      have HV : Hid (runV A n b = 0) := by
        show _ = _
        unfold runV
        rw [if_neg (by rw [HE2.out]; decide)]
      rw [hq]
      clear hq
      go_wp2_with fail
      go_ret2
      exact ⟨ret_two (by rw [HV.out]; first | done | rfl) (by rw [HE2.out]; first | done | rfl), HB2.out⟩
  · have HE : Hid (runE A s b = 80 ∧ runV A s b = 0) := runE_bad hc s b
    rw [hc]
    clear hc hG
    go_wp2_with fail
    go_ret2
    exact ⟨ret_two (by rw [HE.out.2]; first | done | rfl) (by rw [HE.out.1]; first | done | rfl), HB.out⟩

theorem accV_no {A : Aut} {b : ByteArray} (h : cwE A b ≠ 0) : accV A b = false := by unfold accV; rw [if_neg h]
theorem cwE_run {A : Aut} {b : ByteArray} : runE A 0 b = cwE A b := by
  unfold runE cwE
  rcases chkA_cases A with ⟨hG, hc⟩ | ⟨hG, hc⟩
  · rw [if_pos hc, if_pos hc, if_neg (by have := hG.n1; omega)]
  · rw [if_neg (by rw [hc]; decide), if_neg (by rw [hc]; decide)]
theorem cwE_good {A : Aut} {b : ByteArray} (h : cwE A b = 0) : Good A ∧ Lts A.k b := by
  unfold cwE at h
  split at h
  · rename_i h2
    exact ⟨chkA_good h2, chk_all h⟩
  · cases h

set_option maxHeartbeats 2000000 in
set_option maxRecDepth 100000 in
theorem accepts_any (v : Value) (A : Aut) (w : World) (h : AR w v A) (hm : A.nx.length ≤ 9223372036854775806) (hm2 : A.ac.length ≤ 9223372036854775806) (b : ByteArray) (hz : b.size ≤ 9223372036854775807) :
    Calls Try.prog 10 #[v, .string b] w fun e w' => e = .returned (.tuple #[.bool (accV A b), .int .i64 (cwE A b)]) ∧ Below w.heap.size w w' := by
  obtain ⟨an, cn, aa, ca, e, h1, h2⟩ := h.is
  have HA : Hid (∀ w', Below w.heap.size w w' → AR w' v A) := fun w' hb => h.stay hb
  have HC2 : Hid (SR w aa (bC A.ac)) := h2
  clear h h1 h2
  subst e
  have R1 : RowAt (w.alloc (.cells #[.int .i64 A.k, .slice an A.nx.length cn, .slice aa A.ac.length ca] 25)) w.heap.size #[.int .i64 A.k, .slice an A.nx.length cn, .slice aa A.ac.length ca] := RowAt.last _ _ _
  have HR1 : Hid _ := R1
  clear R1
  go_enter Try.func10, Try.ntmps10
  go_wp2_with fail
  refine (checkWord_any _ A _ (HA.out _ (below_new _ _)) hm hm2 b).mono ?_
  rintro e w1 ⟨rfl, hb1⟩
  have HR2 : Hid (RowAt w1 w.heap.size #[.int .i64 A.k, .slice an A.nx.length cn, .slice aa A.ac.length ca]) := RowAt.stay HR1.out hb1
  have HB : Hid (Below w.heap.size w w1) := go_on (below_new _ _) hb1
  clear hb1
  obtain ⟨E, hE⟩ : ∃ E, cwE A b = E := ⟨_, rfl⟩
  rw [hE]
  have HE : Hid (cwE A b = E) := hE
  clear hE
  have cs := HR2.out.cell
  by_cases e0 : E = 0
  · subst e0
    obtain ⟨G, L⟩ := cwE_good HE.out
    have hlt := goN_lt G (s := 0) (by have := G.n1; omega) (lets b) L.lt_all
    have HV : Hid (accV A b = aN A (goN A 0 (lets b))) := by show _ = _; unfold accV; rw [if_pos HE.out]
    obtain ⟨t, ht⟩ : ∃ t, goN A 0 (lets b) = t := ⟨_, rfl⟩
    rw [ht] at hlt HV
    have HT : Hid (goN A 0 (lets b) = t) := ht
    clear ht
    have HLD : Hid (∀ w', Below w.heap.size w w' → Calls Try.prog 33 #[.agg #[.int .i64 A.k, .slice an A.nx.length cn, .slice aa A.ac.length ca], .int .i64 0, .string b] w' fun e w2 => e = .returned (.int .i64 (t : Int)) ∧ Below w'.heap.size w' w2) := by
      intro w' hb'
      refine (lead_any _ A _ (HA.out _ hb') G 0 (by have := G.n1; omega) b L hz).mono ?_
      rintro e w2 ⟨rfl, hb2⟩
      exact ⟨by rw [HT.out], hb2⟩
    obtain ⟨g, o, rfl, hg, hcell⟩ := HC2.out.bool hlt
    have htI : (t : Int) < A.ac.length := by omega
    obtain ⟨d, hd⟩ : ∃ d, A.ac.getD t false = d := ⟨_, rfl⟩
    rw [hd] at hcell
    have HD : Hid (aN A t = d) := hd
    have hgw : g < w1.heap.size := Nat.lt_of_lt_of_le hg HB.out.size
    have hc1 : w1.cell? ⟨g, o + t, none⟩ = some (.bool d) := by rw [below_cell HB.out hg]; exact hcell
    have R2 := HR2.out
    have S0 : SB w1 w.heap.size #[.int .i64 A.k, .slice an A.nx.length cn, .slice (some ⟨g, o, none⟩) A.ac.length ca] w1.drew ∧ w1.drew.cell? ⟨g, o + t, none⟩ = some (.bool d) := ⟨sb_of R2 (Below.refl _ _).drew, hc1⟩
    have st : ∀ y1 y2, Below y1.heap.size y1 y2 → (SB w1 w.heap.size #[.int .i64 A.k, .slice an A.nx.length cn, .slice (some ⟨g, o, none⟩) A.ac.length ca] y1 ∧ y1.cell? ⟨g, o + t, none⟩ = some (.bool d)) → (SB w1 w.heap.size #[.int .i64 A.k, .slice an A.nx.length cn, .slice (some ⟨g, o, none⟩) A.ac.length ca] y2 ∧ y2.cell? ⟨g, o + t, none⟩ = some (.bool d)) :=
      fun y1 y2 hy h => ⟨sb_step R2 hy h.1, by rw [below_cell hy (Nat.lt_of_lt_of_le hgw h.1.2.size)]; exact h.2⟩
    have ST : Hid _ := st
    clear hd hcell G L hc1 st hgw
    go_wp2_with fail
    go_region_held3 (fun w' => SB w1 w.heap.size #[.int .i64 A.k, .slice an A.nx.length cn, .slice (some ⟨g, o, none⟩) A.ac.length ca] w' ∧ w'.cell? ⟨g, o + t, none⟩ = some (.bool d)) (first | exact S0 | assumption | exact ST.out _ _ (by assumption) (by assumption)) (first
      | (go_at_call 33; refine (HLD.out _ (go_on HB.out (And.right (And.left (by assumption))))).mono ?_; rintro e y2 ⟨rfl, hy2⟩))
    all_goals (
      have hS : SB w1 w.heap.size #[.int .i64 A.k, .slice an A.nx.length cn, .slice (some ⟨g, o, none⟩) A.ac.length ca] y2 ∧ y2.cell? ⟨g, o + t, none⟩ = some (.bool d) := by first | assumption | exact ST.out _ _ (by assumption) (by assumption)
      have HBy : Hid (Below w.heap.size w y2) := go_on HB.out hS.1.2
      clear hS S0
      go_wp2_with fail
      go_ret2
      exact ⟨ret_two (by rw [HV.out, HD.out]; first | done | rfl) (by rw [HE.out]; first | done | rfl), HBy.out⟩)
  · have HV : Hid (accV A b = false) := accV_no (by rw [HE.out]; exact e0)
    go_wp2_with fail
    go_ret2
    exact ⟨ret_two (by rw [HV.out]; first | done | rfl) (by rw [HE.out]; first | done | rfl), HB.out⟩

set_option maxHeartbeats 2000000 in
set_option maxRecDepth 100000 in
theorem raccepts_any (v : Value) (A : Aut) (w : World) (h : AR w v A) (hm : A.nx.length ≤ 9223372036854775806) (hm2 : A.ac.length ≤ 9223372036854775806) (b : ByteArray) (hz : b.size ≤ maxLen) :
    Calls Try.prog 11 #[v, .string b] w fun e w' => e = .returned (.tuple #[.bool (accV A b), .int .i64 (cwE A b)]) ∧ Below w.heap.size w w' := by
  obtain ⟨an, cn, aa, ca, e, h1, h2⟩ := h.is
  have HA : Hid (∀ w', Below w.heap.size w w' → AR w' v A) := fun w' hb => h.stay hb
  have HC2 : Hid (SR w aa (bC A.ac)) := h2
  clear h h1 h2
  subst e
  have HZ : Hid (b.size ≤ maxLen) := hz
  clear hz
  have R1 : RowAt (w.alloc (.cells #[.int .i64 A.k, .slice an A.nx.length cn, .slice aa A.ac.length ca] 25)) w.heap.size #[.int .i64 A.k, .slice an A.nx.length cn, .slice aa A.ac.length ca] := RowAt.last _ _ _
  have HR1 : Hid _ := R1
  clear R1
  go_enter Try.func11, Try.ntmps11
  go_wp2_with fail
  refine (rrun_any _ A _ (HA.out _ (below_new _ _)) hm hm2 0 b HZ.out).mono ?_
  rintro e w1 ⟨rfl, hb1⟩
  have HR2 : Hid (RowAt w1 w.heap.size #[.int .i64 A.k, .slice an A.nx.length cn, .slice aa A.ac.length ca]) := RowAt.stay HR1.out hb1
  have HB : Hid (Below w.heap.size w w1) := go_on (below_new _ _) hb1
  clear hb1
  rw [cwE_run]
  obtain ⟨V, hV⟩ : ∃ V, runV A 0 b = V := ⟨_, rfl⟩
  rw [hV]
  have HRV : Hid (runV A 0 b = V) := hV
  clear hV
  obtain ⟨E, hE⟩ : ∃ E, cwE A b = E := ⟨_, rfl⟩
  rw [hE]
  have HE : Hid (cwE A b = E) := hE
  clear hE
  have cs := HR2.out.cell
  by_cases e0 : E = 0
  · subst e0
    obtain ⟨G, L⟩ := cwE_good HE.out
    have hlt := goN_lt G (s := 0) (by have := G.n1; omega) (lets b) L.lt_all
    have HV : Hid (accV A b = aN A (goN A 0 (lets b))) := by show _ = _; unfold accV; rw [if_pos HE.out]
    obtain ⟨t, ht⟩ : ∃ t, goN A 0 (lets b) = t := ⟨_, rfl⟩
    rw [ht] at hlt HV
    have hVt : V = (t : Int) := by
      rw [← HRV.out]
      unfold runV
      rw [if_pos (by rw [cwE_run]; exact HE.out), ← ht]
      rfl
    subst hVt
    obtain ⟨g, o, rfl, hg, hcell⟩ := HC2.out.bool hlt
    have htI : (t : Int) < A.ac.length := by omega
    obtain ⟨d, hd⟩ : ∃ d, A.ac.getD t false = d := ⟨_, rfl⟩
    rw [hd] at hcell
    have HD : Hid (aN A t = d) := hd
    have hc1 : w1.cell? ⟨g, o + t, none⟩ = some (.bool d) := by rw [below_cell HB.out hg]; exact hcell
    clear hd hcell G L ht
    go_wp2_with fail
    go_ret2
    exact ⟨ret_two (by rw [HV.out, HD.out]; first | done | rfl) (by rw [HE.out]; first | done | rfl), HB.out⟩
  · have HV : Hid (accV A b = false) := accV_no (by rw [HE.out]; exact e0)
    go_wp2_with fail
    go_ret2
    exact ⟨ret_two (by rw [HV.out]; first | done | rfl) (by rw [HE.out]; first | done | rfl), HB.out⟩
end Go.Proofs.Ytpaadopmmpdodaa
