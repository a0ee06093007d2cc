/- Proved: the card of eggboxlaw05.NormSorted: it answers true at every list of nodes and every number (P504), with tree.partsOf as the program's text lays it: the members that norm.Members tells of a tree's union rise in the order of trees, each once, and joined again by norm.Union, from whichever member on, they are the tree's normal form; of any other list both calls tell the same error. -/
import Derived.Test.YtdmjcfecahcdnabDoorXz
import Derived.Test.YtdmjcfecahcdnabDoorXsm
import Derived.Test.YtdmjcfecahcdnabDoorTl
import Derived.Test.YtdmjcfecahcdnabDoorTm
import Derived.LaidMore
import Derived.Stop.Joined
import Derived.Lib.LaidTab
import Derived.SevenTiedAt
import Derived.ShutString
import Derived.ChangeMaps5
import Derived.Test.YtdmjcfecahcdnabDoorTie
import Derived.Test.YtdmjcfecahcdnabDoorCards
namespace Go.Proofs.YtdmjcfecahcdnabDoor.normSorted
open Go.ChangeShapes Go.WideShapes Go.ChangeAt Go.RowKit
open Go.ChangeMaps (open_string shut_string)
set_option linter.unusedVariables false

theorem wrong_tr {T : Tr} (ho : T.ok) (hl : T.flat.length ≤ 4000) : wrong T.flat = 0 := by
  unfold wrong
  rw [if_neg (by omega), if_pos (Tr.ok_free T ho)]
theorem nrm5 (A C : Tr) : nrm (.two (5, 0) A C) = R2 5 (nrm A) (nrm C) := by simp [nrm]
theorem map_getD (ms : List Tr) (i : Nat) (h : i < ms.length) : (ms.map Tr.flat).getD i [] = (ms.getD i tNone).flat := by
  rw [List.getD_eq_getElem?_getD, List.getElem?_map, List.getElem?_eq_getElem h, List.getD_eq_getElem?_getD, List.getElem?_eq_getElem h]
  rfl
theorem getD_mem' {M : List Tr} {i : Nat} (h : i < M.length) : M.getD i tNone ∈ M := by
  rw [List.getD_eq_getElem?_getD, List.getElem?_eq_getElem h]
  exact List.getElem_mem h
theorem ris_next {ms : List Tr} (h : Ris ms) {i : Nat} (hi : i + 1 < ms.length) : ct (ms.getD i tNone).flat (ms.getD (i + 1) tNone).flat < 0 := by
  rw [List.getD_eq_getElem?_getD, List.getD_eq_getElem?_getD, List.getElem?_eq_getElem hi, List.getElem?_eq_getElem (by omega)]
  exact List.pairwise_iff_getElem.1 h i (i + 1) (by omega) hi (by omega)

abbrev SD (W : World) (g i j : Nat) (u0 u1 : Value) (w' : World) : Prop := w'.cell? ⟨g, i, none⟩ = some u0 ∧ w'.cell? ⟨g, j, none⟩ = some u1 ∧ Below W.heap.size W w'
theorem sd_step {W : World} {g i j : Nat} {u0 u1 : Value} {w1 w2 : World} (h1 : g < W.heap.size) (hb : Below w1.heap.size w1 w2) (h : SD W g i j u0 u1 w1) : SD W g i j u0 u1 w2 := by
  have hs := h.2.2.size
  refine ⟨?_, ?_, go_on h.2.2 hb⟩
  · rw [below_cell hb (by omega)]; exact h.1
  · rw [below_cell hb (by omega)]; exact h.2.1
theorem sd_below {W : World} {g i j : Nat} {u0 u1 : Value} {w' : World} (h : SD W g i j u0 u1 w') : Below W.heap.size W w' := h.2.2

set_option maxHeartbeats 4000000 in
set_option maxRecDepth 100000 in
theorem walk_bad (v : Value) (ts : List Nd) (fr : Int) (w : World) (hv : NReads w v ts) (hl : ts.length ≤ 9223372036854775806) (hP : PTab w) (h0 : wrong ts ≠ 0) :
    Calls Tryd.prog 3 #[v, .int .i64 fr] w fun e w' => e = .returned (.bool true) ∧ Below w.heap.size w w' := by
  have HV : Hid (NReads w v ts) := hv
  have HP : Hid (PTab w) := hP
  have HM : Hid (∀ w', Below w.heap.size w w' → Calls Tryd.prog 4 #[.int .i64 5, v] w' (MQ (wrong ts) [] w')) := fun w' hb => members_bad 5 (.inl rfl) v ts w' (hv.stay hb) hl (hP.stay hb) h0
  have HN : Hid (∀ w', Below w.heap.size w w' → Calls Tryd.prog 5 #[v] w' fun e w9 => e = .returned (.tuple #[.slice none 0 0, .int .i64 (wrong ts)]) ∧ Below w'.heap.size w' w9) := fun w' hb => normal_bad v ts w' (hv.stay hb) hl (hP.stay hb) h0
  obtain ⟨x, hx⟩ : ∃ x, wrong ts = x := ⟨_, rfl⟩
  rw [hx] at h0 HM HN
  have hxb : (x != 0) = true := by simpa using h0
  clear hv hP hx h0
  go_enter Tryd.func3, Tryd.ntmps3
  go_wp2_with fail
  refine (HM.out _ (Below.refl _ _)).mono ?_
  rintro e w1 ⟨u, vs, rfl, htd, hb1⟩
  obtain ⟨ua, uc, rfl⟩ := htd.shape
  have HB1 : Hid (Below w.heap.size w w1) := hb1
  clear htd hb1
  go_wp2_with fail
  refine (HN.out _ HB1.out).mono ?_
  rintro e w2 ⟨rfl, hb2⟩
  have HB2 : Hid (Below w.heap.size w w2) := go_on HB1.out hb2
  clear hb2
  go_wp2_with fail
  refine (num5_any _ _).mono ?_
  rintro e w3 ⟨rfl, rfl⟩
  go_wp2_with fail
  refine (num5_any _ _).mono ?_
  rintro e w3' ⟨rfl, rfl⟩
  go_wp2_with fail
  refine (num5_any _ _).mono ?_
  rintro e w3'' ⟨rfl, rfl⟩
  go_wp2_with fail
  refine (knows5_any _ (HP.out.stay HB2.out)).mono ?_
  rintro e w4 ⟨rfl, hb4⟩
  have HB4 : Hid (Below w.heap.size w w4) := go_on HB2.out hb4
  clear hb4
  go_wp2_with fail
  go_ret
  exact ⟨rfl, HB4.out⟩

set_option maxHeartbeats 16000000 in
set_option maxRecDepth 100000 in
theorem walk_good (T : Tr) (ho : T.ok) (a : Option Addr) (cap : Nat) (fr : Int) (w : World) (hv : NReads w (.slice a T.flat.length cap) T.flat) (hP : PTab w) (h0 : wrong T.flat = 0) (hfr : (Lit.int .i64 fr).wf = true) :
    Calls Tryd.prog 3 #[.slice a T.flat.length cap, .int .i64 fr] w fun e w' => e = .returned (.bool true) ∧ Below w.heap.size w w' := by
  have HP : Hid (PTab w) := hP
  obtain ⟨hl4, _⟩ := wrong_zero h0
  have hok := nrm_ok ho
  have hln := nrm_len ho
  have HM : Hid (∀ w', Below w.heap.size w w' → Calls Tryd.prog 4 #[.int .i64 5, .slice a T.flat.length cap] w' (MQ 0 (Mb 5 (nrm T)) w')) := fun w' hb => members_good5 T ho a cap w' (hv.stay hb) (hP.stay hb) h0
  have HN : Hid (∀ w', Below w.heap.size w w' → Calls Tryd.prog 5 #[.slice a T.flat.length cap] w' fun e w9 => NQ T w' e w9) := fun w' hb => normal_good T ho a cap w' (hv.stay hb) (hP.stay hb) h0
  unfold NQ at HN
  obtain ⟨R, hR⟩ : ∃ R, nrm T = R := ⟨_, rfl⟩
  rw [hR] at HM HN hok hln
  have hmb := mb_mem (k := 5) (.inl rfl) hok.1 hok.2
  have hRl : R.flat.length ≤ 4000 := by omega
  have HACC : Hid (∀ s, (∀ i, (accM (Mb 5 R) s i).ok ∧ NF (accM (Mb 5 R) s i) ∧ (accM (Mb 5 R) s i).flat.length ≤ R.flat.length) ∧ accM (Mb 5 R) s (Mb 5 R).length = R) := fun s => acc_all hok.1 hok.2 s
  have HSP : Hid (∀ m ∈ Mb 5 R, m.ok ∧ NF m ∧ m.flat.length ≤ 4000) := fun m hm => by
    refine ⟨(hmb.2 m hm).2.2.2.2, (hmb.2 m hm).2.2.2.1, ?_⟩
    have hu : R ≠ unitK 5 := fun e => by
      have : Mb 5 R = [] := by unfold Mb; rw [if_pos e]
      rw [this] at hm; simp at hm
    have h1 := len_of_mb hok.1 hu
    have h2 : m.flat.length + 1 ≤ lens (Mb 5 R) := by
      have := lens_sub (List.singleton_sublist.2 hm)
      simpa [lens] using this
    omega
  have HML : Hid ((Mb 5 R).length ≤ 4000) := by
    show _ ≤ _
    by_cases hu : R = unitK 5
    · have : Mb 5 R = [] := by unfold Mb; rw [if_pos hu]
      rw [this]; simp
    · have h1 := len_of_mb hok.1 hu
      have h2 : (Mb 5 R).length ≤ lens (Mb 5 R) := by
        unfold lens
        generalize Mb 5 R = l
        induction l with
        | nil => simp
        | cons x l ih => simp at *; omega
      have h3 : 2 * (Mb 5 R).length ≤ lens (Mb 5 R) := by
        unfold lens
        generalize Mb 5 R = l
        induction l with
        | nil => simp
        | cons x l ih => have := x.len_pos; simp at *; omega
      omega
  have HRI : Hid (Ris (Mb 5 R)) := hmb.1
  obtain ⟨ms, hms⟩ : ∃ ms, Mb 5 R = ms := ⟨_, rfl⟩
  rw [hms] at HM HACC HSP HML HRI
  obtain ⟨n, hn⟩ : ∃ n, T.flat.length = n := ⟨_, rfl⟩
  rw [hn] at HM HN ⊢
  have hfr2 : -9223372036854775808 ≤ fr ∧ fr ≤ 9223372036854775807 := by
    simp [Lit.wf, IntKind.min, IntKind.max, IntKind.signed, IntKind.bits] at hfr
    omega
  clear hv hP h0 hn hok hln hmb hR hms ho hl4 hfr
  go_enter Tryd.func3, Tryd.ntmps3
  go_wp2_with fail
  refine (HM.out _ (Below.refl _ _)).mono ?_
  rintro e w1 ⟨u, vs, rfl, htd, hb1⟩
  obtain ⟨ua, uc, rfl⟩ := htd.shape
  have hpl : (ms.map Tr.flat).length = ms.length := by simp
  rw [hpl] at htd ⊢
  have HTD : Hid (Told3 w1 w.heap.size (.slice ua ms.length uc) vs (ms.map Tr.flat)) := htd
  have HB1 : Hid (Below w.heap.size w w1) := hb1
  clear htd hb1 hpl
  go_wp2_with fail
  refine (HN.out _ HB1.out).mono ?_
  rintro e w2 ⟨u2, rfl, ho2, hb2⟩
  obtain ⟨na, nc, rfl⟩ := own_shape ho2
  have HB2 : Hid (Below w.heap.size w w2) := go_on HB1.out hb2
  have HNR : Hid (NReads w2 (.slice na R.flat.length nc) R.flat) := own_nreads ho2
  have HT2 : Hid (Told3 w2 w.heap.size (.slice ua ms.length uc) vs (ms.map Tr.flat)) := HTD.out.stay hb2
  clear hb2 ho2 HTD
  go_wp2_with fail
  refine (num5_any _ _).mono ?_
  rintro e w3 ⟨rfl, rfl⟩
  go_wp2_with fail
  refine (knows5_any _ (HP.out.stay HB2.out)).mono ?_
  rintro e w4 ⟨rfl, hb4⟩
  have HB4 : Hid (Below w.heap.size w w4) := go_on HB2.out hb4
  have HN4 : Hid (NReads w4 (.slice na R.flat.length nc) R.flat) := HNR.out.stay hb4
  have HT4 : Hid (Told3 w4 w.heap.size (.slice ua ms.length uc) vs (ms.map Tr.flat)) := HT2.out.stay hb4
  clear hb4 HNR HT2
  obtain ⟨ua', uc', hue, hrd⟩ := HT4.out.reads
  have hml := HML.out
  have hmp : (ms.map Tr.flat).length = ms.length := by simp
  rw [hmp] at hrd hue
  cases hue
  have HRD : Hid (∀ i, i < ms.length → ∃ g u, ua = some ⟨g, 0, none⟩ ∧ g < w4.heap.size ∧ w4.cell? ⟨g, i, none⟩ = some u ∧ NReads w4 u (ms.getD i tNone).flat) := fun i hi => by
    obtain ⟨g, o, u, h1, h2, h3, h4⟩ := hrd i hi
    have ho : o = 0 := by
      obtain ⟨_, hh⟩ := HT4.out.list
      rcases hh with ⟨h5, _⟩ | ⟨g', cap', cur, h5, _⟩
      · simp only [Value.slice.injEq] at h5; rw [h1] at h5; simp at h5
      · simp only [Value.slice.injEq] at h5; rw [h1] at h5; simp at h5; exact h5.1.2
    subst ho
    rw [Nat.zero_add] at h3
    rw [map_getD ms i hi] at h4
    exact ⟨g, u, h1, h2, h3, h4⟩
  clear hrd hmp HM HN
  go_wp2_with fail
  go_loopw [9] (fun vi wr => ∃ i : Nat, 1 ≤ i ∧ (i ≤ ms.length ∨ i = 1) ∧ vi = .int .i64 i ∧ Below w4.heap.size w4 wr) (fun vi _ => ms.length + 1 - (intOf vi).toNat)
  case atStart => exact ⟨1, Nat.le_refl _, .inr rfl, rfl, Below.refl _ _⟩
  case round =>
    obtain ⟨i, hi1, hi2, rfl, hbr⟩ := hrel
    have HBR : Hid (Below w4.heap.size w4 wr) := hbr
    clear hbr
    by_cases hlt : i < ms.length
    · have hltI : (i : Int) < ms.length := by omega
      obtain ⟨k, hk⟩ : ∃ k, i = k + 1 := ⟨i - 1, by omega⟩
      obtain ⟨g, u0, rfl, hg, c0, n0⟩ := HRD.out k (by omega)
      obtain ⟨g', u1, e1, hg', c1, n1⟩ := HRD.out i hlt
      cases e1
      have HN0 : Hid (NReads wr u0 (ms.getD k tNone).flat) := n0.stay HBR.out
      have HN1 : Hid (NReads wr u1 (ms.getD i tNone).flat) := n1.stay HBR.out
      have hz := ris_next HRI.out (i := k) (by omega)
      rw [← hk] at hz
      have hlk : (ms.getD k tNone).flat.length ≤ 4000 := (HSP.out _ (getD_mem' (by omega))).2.2
      obtain ⟨p, hp⟩ : ∃ p, (ms.getD k tNone).flat = p := ⟨_, rfl⟩
      obtain ⟨q, hq⟩ : ∃ q, (ms.getD i tNone).flat = q := ⟨_, rfl⟩
      rw [hp] at HN0 hz hlk
      rw [hq] at HN1 hz
      obtain ⟨z, hzz⟩ : ∃ z, ct p q = z := ⟨_, rfl⟩
      rw [hzz] at hz
      have HZ : Hid (ct p q = z) := hzz
      have HLK : Hid (p.length ≤ 9223372036854775806) := by show _ ≤ _; omega
      have hgr : g < wr.heap.size := by have := HBR.out.size; omega
      have d0 : wr.cell? ⟨g, k, none⟩ = some u0 := by rw [below_cell HBR.out hg]; exact c0
      have d1 : wr.cell? ⟨g, i, none⟩ = some u1 := by rw [below_cell HBR.out hg]; exact c1
      have S0 : SD wr g k i u0 u1 wr.drew := ⟨d0, d1, (Below.refl _ _).drew⟩
      have hki : (k : Int) < ms.length := by omega
      have hwk : IntKind.i64.wrap ((i : Int) - 1) = (k : Int) := by rw [IntKind.wrap_i64]; omega
      have HLT : Hid (i < ms.length) := hlt
      clear c0 c1 n0 n1 hp hq hzz hlk hi1 hi2 d0 d1 hlt hk
      go_wp2_with fail
      go_region_held3 (fun w' => SD wr g k i u0 u1 w') (first | exact S0 | assumption | exact sd_step hgr (by assumption) (by assumption)) (first
        | (go_at_call 8; refine (rcompare_any _ _ p q _ (by exact HN0.out.stay (sd_below (g := g) (i := k) (j := i) (u0 := u0) (u1 := u1) (by first | exact S0 | assumption))) (by exact HN1.out.stay (sd_below (g := g) (i := k) (j := i) (u0 := u0) (u1 := u1) (by first | exact S0 | assumption))) HLK.out).mono ?_; rintro e y2 ⟨rfl, hb2⟩; rw [HZ.out]))
      all_goals (
        have hS : SD wr g k i u0 u1 y2 := by first | assumption | exact sd_step hgr (by assumption) (by assumption)
        have HBY : Hid (Below w4.heap.size w4 y2) := go_on HBR.out hS.2.2
        have hzn : ¬ (0 : Int) ≤ z := by omega
        clear hS S0 hb2
        go_wp2_with fail
        go_roundw
        case rel => exact ⟨i + 1, by omega, .inl (by have := HLT.out; omega), by go_num, HBY.out⟩
        case measure => have := HLT.out; simp [intOf]; omega)
    · have hltI : ¬ (i : Int) < ms.length := by omega
      clear hi1 hi2 hlt
      obtain ⟨s, hs⟩ : ∃ s, (fr.tmod (ms.length : Int) + ms.length).toNat = s := ⟨_, rfl⟩
      have HAC : Hid ((∀ i, (accM ms s i).ok ∧ NF (accM ms s i) ∧ (accM ms s i).flat.length ≤ R.flat.length) ∧ accM ms s ms.length = R) := HACC.out s
      have HB5 : Hid (Below w4.heap.size w4 (wr.alloc (.cells #[.int .i64 1, .int .u8 0] 33))) := HBR.out.alloc HBR.out.size _
      have HO5 : Hid (NReads (wr.alloc (.cells #[.int .i64 1, .int .u8 0] 33)) (.slice (some ⟨wr.heap.size, 0, none⟩) 1 1) tNone.flat) := row_reads (ts := tNone.flat) (heap_alloc_new wr _)
      clear HACC HRI HBR
      go_wp2_with fail
      go_loopw [10, 11] (fun vo vi wq => ∃ (i : Nat) (oa : Option Addr) (oc : Nat), i ≤ ms.length ∧ vi = .int .i64 i ∧ vo = .slice oa (accM ms s i).flat.length oc ∧ NReads wq vo (accM ms s i).flat ∧ Below w4.heap.size w4 wq) (fun _ vi _ => ms.length - (intOf vi).toNat)
      case atStart => exact ⟨0, _, _, Nat.zero_le _, rfl, rfl, HO5.out, HB5.out⟩
      case round =>
        clear HO5 HB5
        obtain ⟨i, oa, oc, hi, rfl, rfl, hnr, hbr⟩ := hrel
        have HBR : Hid (Below w4.heap.size w4 wr) := hbr
        have HA1 : Hid ((accM ms s i).ok ∧ NF (accM ms s i) ∧ (accM ms s i).flat.length ≤ 4000) := ⟨(HAC.out.1 i).1, (HAC.out.1 i).2.1, by have := (HAC.out.1 i).2.2; omega⟩
        have HA2 : Hid ((accM ms s (i + 1)).ok ∧ (accM ms s (i + 1)).flat.length ≤ 4000) := ⟨(HAC.out.1 (i + 1)).1, by have := (HAC.out.1 (i + 1)).2.2; omega⟩
        have HAE : Hid (accM ms s (i + 1) = R2 5 (ms.getD ((i + s) % ms.length) tNone) (accM ms s i)) := rfl
        have HA0 : Hid (i = ms.length → accM ms s i = R) := fun e => by rw [e]; exact HAC.out.2
        obtain ⟨A, hA⟩ : ∃ A, accM ms s i = A := ⟨_, rfl⟩
        rw [hA] at hnr HA1 HAE HA0 ⊢
        have HNR : Hid (NReads wr (.slice oa A.flat.length oc) A.flat) := hnr
        clear hnr hbr hA
        by_cases hlt2 : i < ms.length
        · have hltI2 : (i : Int) < ms.length := by omega
          obtain ⟨A2, hA2⟩ : ∃ A2, accM ms s (i + 1) = A2 := ⟨_, rfl⟩
          have HA2E : Hid (accM ms s (i + 1) = A2) := hA2
          rw [hA2] at HA2 HAE
          obtain ⟨q, hq⟩ : ∃ q, fr.tmod (ms.length : Int) = q := ⟨_, rfl⟩
          have hq1 := Int.lt_tmod_of_pos fr (b := (ms.length : Int)) (by omega)
          have hq2 := Int.tmod_lt_of_pos fr (b := (ms.length : Int)) (by omega)
          rw [hq] at hs hq1 hq2
          have hw1 : IntKind.i64.wrap q = q := by rw [IntKind.wrap_i64]; omega
          have hw2 : IntKind.i64.wrap (q + (ms.length : Int)) = (s : Int) := by rw [IntKind.wrap_i64]; omega
          obtain ⟨t, ht⟩ : ∃ t, i + s = t := ⟨_, rfl⟩
          have hw3 : IntKind.i64.wrap ((i : Int) + (s : Int)) = (t : Int) := by rw [IntKind.wrap_i64]; omega
          obtain ⟨at', hat⟩ : ∃ x, t % ms.length = x := ⟨_, rfl⟩
          have hw4 : (t : Int).tmod (ms.length : Int) = (at' : Int) := by
            rw [Int.tmod_eq_emod_of_nonneg (by omega), ← hat]; rfl
          have hatl : at' < ms.length := by rw [← hat]; exact Nat.mod_lt _ (by omega)
          have hatI : (at' : Int) < ms.length := by omega
          have hw5 : IntKind.i64.wrap (at' : Int) = (at' : Int) := by rw [IntKind.wrap_i64]; omega
          have hn0 : ¬ (ms.length : Int) = 0 := by omega
          have hn0b : ((ms.length : Int) == 0) = false := by rw [beq_eq_false_iff_ne]; exact hn0
          have HNX : Hid (A2 = R2 5 (ms.getD at' tNone) A) := by show _ = _; rw [HAE.out, ht, hat]
          obtain ⟨g, u, rfl, hg, hc, hn⟩ := HRD.out at' hatl
          have HM2 : Hid ((ms.getD at' tNone).ok ∧ NF (ms.getD at' tNone) ∧ (ms.getD at' tNone).flat.length ≤ 4000) := HSP.out _ (getD_mem' hatl)
          obtain ⟨m, hm⟩ : ∃ m, ms.getD at' tNone = m := ⟨_, rfl⟩
          rw [hm] at hn HM2 HNX
          have HNM : Hid (NReads wr u m.flat) := hn.stay HBR.out
          have cc : wr.cell? ⟨g, at', none⟩ = some u := by rw [below_cell HBR.out hg]; exact hc
          have HU5 : Hid (nrm (.two (5, 0) m A) = A2) := by show _ = _; rw [nrm5, nrm_nf HM2.out.1 HM2.out.2.1, nrm_nf HA1.out.1 HA1.out.2.1, HNX.out]
          have HLT2 : Hid (i < ms.length) := hlt2
          clear hs hq1 hq2 ht hat hn hm hc hA2 hlt2 hatl
          go_wp2_with fail
          refine (union_good m A HM2.out.1 HA1.out.1 _ _ _ HNM.out HNR.out (HP.out.stay (go_on HB4.out HBR.out)) (wrong_tr HM2.out.1 HM2.out.2.2) (wrong_tr HA1.out.1 HA1.out.2.2)).mono ?_
          rintro e w5 h5
          rcases h5 with ⟨h5, _, _⟩ | ⟨_, u5, rfl, ho5, hb5⟩
          · rw [HU5.out] at h5; exact absurd HA2.out.2 (by omega)
          rw [HU5.out] at ho5
          obtain ⟨pa, pc, rfl⟩ := own_shape ho5
          have HN5 : Hid (NReads w5 (.slice pa A2.flat.length pc) A2.flat) := own_nreads ho5
          have HB5 : Hid (Below w4.heap.size w4 w5) := go_on HBR.out hb5
          clear ho5 hb5 cc
          go_wp2_with fail
          refine (num5_any _ _).mono ?_
          rintro e w6 ⟨rfl, rfl⟩
          go_wp2_with fail
          go_roundw
          case rel => exact ⟨i + 1, pa, pc, by have := HLT2.out; omega, by go_num, by rw [HA2E.out], by rw [HA2E.out]; exact HN5.out, HB5.out⟩
          case measure => have := HLT2.out; simp [intOf]; omega
        · obtain rfl : i = ms.length := by omega
          have hltI2 : ¬ (ms.length : Int) < ms.length := by omega
          have HAR : Hid (A = R) := HA0.out rfl
          have HN6 : Hid (NReads wr (.slice na R.flat.length nc) R.flat) := HN4.out.stay HBR.out
          clear hlt2 hs
          go_wp2_with fail
          refine (num5_any _ _).mono ?_
          rintro e w6 ⟨rfl, rfl⟩
          go_wp2_with fail
          refine (same_any _ _ A.flat R.flat _ HNR.out HN6.out (by have := HA1.out.2.2; omega)).mono ?_
          rintro e w7 ⟨rfl, hb7⟩
          rw [HAR.out, decide_eq_true (Eq.refl R.flat)]
          have HB7 : Hid (Below w.heap.size w w7) := go_on (go_on HB4.out HBR.out) hb7
          clear hb7
          go_wp2_with fail
          go_ret
          exact ⟨rfl, HB7.out⟩

theorem walk (v : Value) (ts : List Nd) (fr : Int) (w : World) (hv : NReads w v ts) (hn : ∀ c, v = .slice none 0 c → c = 0) (hl : (ts.length + 2) * 16 ≤ 140737488355328) (hfr : (Lit.int .i64 fr).wf = true) (hP : PTab w) :
    Calls Tryd.prog 3 #[v, .int .i64 fr] w fun e w' => e = .returned (.bool true) ∧ Below w.heap.size w w' := by
  by_cases h0 : wrong ts = 0
  · obtain ⟨T, ho, hT⟩ := nfL_of h0
    subst hT
    obtain ⟨a, cap, rfl, _⟩ := id hv
    exact walk_good T ho a cap fr w hv hP h0 hfr
  · exact walk_bad v ts fr w hv (by omega) hP h0

/-! ### The row's step -/
theorem own : ownKnob Tryd.prog.godebug = none := by kernel_rfl
def laid1 : List (String × DataW Unit) := [("eggbox/tree.partsOf", Rows.laid_eggbox_tree_partsOf)]
def tabZ : List Int := [0, 0, 0, 0, 0, 2, 2, 2, 1, 1]
theorem gTab : Tryd.prog.globalNamed "eggbox/tree.partsOf" = some 0 := by kernel_rfl
theorem tTab : (Tryd.prog.globals[0]?).map (·.type) = some 74 := by kernel_rfl
theorem of_laid {W : World} (h : laidMetH Tryd.prog laid1 W) : PTab W := by
  rw [MakeChecks.laidMetH_plain _ _ _ (by kernel_rfl)] at h
  have ht : Lib.TabIs Tryd.prog W "eggbox/tree.partsOf" .i64 tabZ :=
    Lib.tabIs_of_head (rest := []) gTab tTab Tryd.underlying74 Tryd.underlying3 (by kernel_rfl) (by kernel_rfl) h
  intro j hj
  have := ht.cell gTab j hj
  rw [this]
  have hc : j = 0 ∨ j = 1 ∨ j = 2 ∨ j = 3 ∨ j = 4 ∨ j = 5 ∨ j = 6 ∨ j = 7 ∨ j = 8 ∨ j = 9 := by omega
  rcases hc with rfl | rfl | rfl | rfl | rfl | rfl | rfl | rfl | rfl | rfl <;> rfl
/-- The door's own heap meets the condition. -/
theorem door_met (os : Os) (args : Array Value) : laidMetH Tryd.prog laid1 ((World.doorLaid Tryd.prog 400 os).forCall (fun _ _ => 0) ⟨#[], args, []⟩).memory :=
  laidMetH_of_parts3 (fuel := 8) (laidMet_of_run' 8 (by kernel_rfl) (by kernel_rfl)) (by kernel_rfl) (by kernel_rfl)

set_option maxRecDepth 100000 in
theorem lifted (os : Os) (started : os.Started) (H : Type) (enc : TypeId × Value → H) :
    ReturnsInHanded {} Tryd.checked os 3 .any (fun w args => (Rows.normSortedSpec.pre enc Tryd.prog Tryd.f3 [] false w args ∧ laidMetH Tryd.prog laid1 w) ∧ sizedMet enc Tryd.prog Tryd.f3 (OpenSpec.ofChange Rows.normSortedSpec) false w args)
      (Rows.normSortedSpec.post enc Tryd.prog Tryd.f3 false true false false) := by
  refine returnsInHanded_of_change_and (C := Tryd.checked) (X := fun w _ => laidMetH Tryd.prog laid1 w) (fun _ _ _ hh h => h.of_heap hh) own started (by kernel_rfl) Tryd.func3
    (ChangeSpec.witness_shaped (enc := enc) (C := Tryd.checked) (os := os) (X := fun w _ => laidMetH Tryd.prog laid1 w) false (World.doorLaid Tryd.prog 400 os) #[.slice none 0 0, .int .i64 0] 8 rfl (World.shaped_of_RefB (by kernel_rfl) (by kernel_rfl)) (by kernel_rfl) (by kernel_rfl) (by kernel_rfl) (door_met os _)) ?_
  intro W base args ds gs before hval0 hW _ hsz0 hL _
  have hval : ∀ (j : Nat) t v, Tryd.f3.params[j]? = some t → args[j]? = some v → Value.okWide Tryd.prog W .any base t v := hval0
  have hW' := hW
  obtain ⟨p, q, hA0, hV, rfl, hfz, hnd⟩ := hW
  have hA : DataW.TrodAll enc Tryd.prog W 0 (fun _ => true) true Tryd.f3.params.toList args.toList ds p := hA0
  have hsz : (DataW.weightsEach Tryd.prog (Tryd.f3.params.toList ++ Rows.normSortedSpec.plain.varTypes Tryd.prog) (ds ++ gs)).all (· ≤ reachBytes) = true := hsz0
  rw [Tryd.params3] at hA hval hsz
  obtain ⟨v0, vs0, d0, ds0, p0, q0, hargs, rfl, rfl, h0, r0⟩ := trodAll_cons hA
  obtain ⟨v1, vs1, d1, ds1, p1, q1, rfl, rfl, rfl, h1, r1⟩ := trodAll_cons r0
  obtain ⟨rfl, rfl, rfl⟩ := trodAll_nil r1
  obtain rfl : args = #[v0, v1] := by cases args; simp_all
  obtain ⟨rfl, rfl⟩ := trodVars_none hV
  obtain ⟨a0, w0, x0, y0⟩ := open_nodes (hval 0 22 v0 rfl rfl) h0
  have s0 : (a0.length + 2) * 16 ≤ 140737488355328 := by
    rcases y0 with ⟨_, rfl⟩ | ⟨e, s, rfl, hy⟩
    · decide
    · have := sized_slice hsz (j := 0) (t := 22) rfl rfl Tryd.underlying22
      rw [Tryd.bytes_node] at this
      simp only [reachBytes] at this
      omega
  have z0 : a0.length ≤ 9223372036854775806 := by omega
  have g0 : ∀ x ∈ p0, x.block < W.heap.size := fun x hx => hW'.lt x (by simp [hx])
  obtain ⟨a1, rfl, rfl, rfl, w1⟩ := open_int Tryd.underlying3 (hval 1 3 v1 rfl rfl) h1
  have hTz := of_laid hL
  clear hA0 hval0
  refine (walk v0 a0 a1 W w0 x0 s0 w1 hTz).mono fun e W' ⟨he, bel⟩ => ?_
  subst he
  exact ⟨_, rfl, _, _, _, [], _, [], hW', trodAll_mk1 (shut_bool Tryd.underlying4 _), (trodAll_cons_mk (Below.trod Tryd.laidOut (by kernel_rfl) (of_decide_eq_true (by kernel_rfl)) h0 bel g0) (trodAll_cons_mk (shut_int Tryd.underlying3 w1) trodAll_mk0)), rfl, bel.frame _, fun h => by cases h⟩

theorem over : Rows.NormSortedSaid :=
  OpenClaim.holds_of_wide 3 Tryd.f3 rfl rfl rfl rfl rfl rfl rfl ⟨rfl, rfl, rfl, rfl, rfl⟩ rfl rfl rfl rfl rfl (by kernel_rfl) Tryd.func3 (by kernel_rfl)
    (of_decide_eq_true (by kernel_rfl)) (by unfold Func.isWrapper; first | (rw [if_pos (by decide +kernel)]; kernel_rfl) | (rw [if_neg (by decide +kernel)]; exact ⟨rfl, rfl⟩))
    (fun os started H enc _ => lifted os started H enc)

theorem card : Rows.NormSortedCardSaid :=
  Claim7.holds_tied_plain_at .later [] [.data] true (true, "82526ad665514265774614fc84625637d4acbe7579ab144ca67860757c34d333") false
    over (fun _ h => by cases h) (by kernel_rfl) (fun _ h => by cases h) normSorted_row_tie rfl ⟨rfl, rfl⟩ (by kernel_rfl) rfl
    (fun f fn hf hfn => by
      obtain rfl : f = 3 := Option.some.inj ((show Tryd.prog.funcNamed "eggbox/eggboxlaw05.NormSorted" = some 3 by kernel_rfl).symm.trans hf) |>.symm
      obtain rfl : fn = Tryd.f3 := (Option.some.inj (Tryd.func3.symm.trans hfn)).symm
      exact ⟨by kernel_rfl, fun j t ht => by
        rw [Tryd.params3] at ht
        have hm : t ∈ [22, 3] := by simpa using Array.mem_of_getElem? ht
        have hall : ([22, 3].all fun u => !Tryd.prog.wantsStandIn u) = true := by kernel_rfl
        exact (show Tryd.prog.wantsStandIn t = false by simpa using List.all_eq_true.1 hall t hm)⟩)
    (by kernel_rfl)

end Go.Proofs.YtdmjcfecahcdnabDoor.normSorted
namespace Go.Proofs.YtdmjcfecahcdnabDoor
/-- The given statement. -/
theorem normSorted_holds : Rows.NormSortedCardSaid := normSorted.card
end Go.Proofs.YtdmjcfecahcdnabDoor
