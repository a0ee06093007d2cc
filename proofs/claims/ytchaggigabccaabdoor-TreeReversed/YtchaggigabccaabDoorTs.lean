/- Contract of tree.heaviestWay at Stars' weight, and of tree.Stars, of a tree. -/
import Derived.Test.YtchaggigabccaabDoorTg
namespace Go.Proofs.YtchaggigabccaabDoor
open Go.RowKit

/-- Stars' weight. -/
def wtS (n : Nd) : Nat := if n.1 = 8 then 1 else 0
theorem wtS_le (n : Nd) : wtS n ≤ 1 := by unfold wtS; split <;> omega

set_option maxHeartbeats 400000 in
theorem stars1_any (n : Nd) (w : World) : Calls Tryd.prog 19 #[ndV n] w fun e w' => e = .returned (.int .i64 (wtS n : Nat)) ∧ Below w.heap.size w w' := by
  obtain ⟨k, s⟩ := n
  have hb : Below w.heap.size w (w.alloc (.cells #[.int .i64 k, .int .u8 s] 39)) := (Below.refl _ _).alloc (Nat.le_refl _) _
  have HB : Hid _ := hb
  clear hb
  unfold ndV
  by_cases h8 : k = 8
  · have HW : Hid (wtS (k, s) = 1) := by show _ = _; simp [wtS, h8]
    rw [HW.out]
    subst h8
    go_enter Tryd.func19, Tryd.ntmps19
    go_wp2
    go_ret
    exact ⟨rfl, HB.out⟩
  · have HW : Hid (wtS (k, s) = 0) := by show _ = _; simp [wtS, h8]
    rw [HW.out]
    have h8b : (k == 8) = false := by simpa using h8
    go_enter Tryd.func19, Tryd.ntmps19
    go_wp2
    go_ret
    exact ⟨rfl, HB.out⟩

set_option maxHeartbeats 4000000 in
set_option maxRecDepth 100000 in
theorem way_stars (v : Value) (ts : List Nd) (w : World) (hv : NReads w v ts) (hm : ts.length ≤ 4000) (hP : PTab w) (hok : wrong ts = 0) (hf : freeN ts = some 1) :
    Calls Tryd.prog 17 #[v, .func (.func 19) #[] #[]] w fun e w' => e = .returned (.tuple #[.int .i64 (((heavyN wtS ts).getD 0 0 : Nat) : Int), .int .i64 0]) ∧ Below w.heap.size w w' := by
  have HV : Hid (NReads w v ts) := hv
  have HP : Hid (PTab w) := hP
  have HX : Hid (wrong ts = 0) := hok
  have HFr : Hid (∀ i, i < ts.length → ∃ c, freeN (ts.take i) = some c ∧ good (ts.getD i (0, 0)) = true ∧ arity (ts.getD i (0, 0)).1 ≤ c ∧ freeN (ts.take (i + 1)) = some (c - arity (ts.getD i (0, 0)).1 + 1)) := fun i hi => free_good hf hi
  have HF : Hid (freeN ts = some 1) := hf
  obtain ⟨i0, hi, hz0, hz1, hz2⟩ := info_parts Tryd.info_int
  obtain ⟨a, cap, rfl, hr⟩ := hv
  have HR : Hid _ := hr
  clear hr hP hok hf
  go_enter Tryd.func17, Tryd.ntmps17
  go_wp2_with fail
  refine (treeError_any _ ts _ HV.out (by omega) HP.out).mono ?_
  rintro e w1 ⟨rfl, hb1⟩
  rw [HX.out]
  have HB1 : Hid (Below w.heap.size w w1) := hb1
  clear hb1
  go_wp2_with fail
  go_loopw [7, 21] (fun vf vi wr => ∃ i : Nat, i ≤ ts.length ∧ vi = .int .i64 i ∧ wr.ownsRow w.heap.size 3 1 vf (heavyN wtS (ts.take i)).length (nC (heavyN wtS (ts.take i))) ∧ freeN (ts.take i) = some (heavyN wtS (ts.take i)).length ∧ (∀ x ∈ heavyN wtS (ts.take i), x ≤ i) ∧ Below w.heap.size w wr) (fun _ vi _ => ts.length - (intOf vi).toNat)
  case atStart => exact ⟨0, Nat.zero_le _, rfl, by show World.ownsRow _ _ _ _ _ 0 []; exact World.ownsRow_nil _ _ _ _, rfl, fun x hx => by simp [heavyN, heavy] at hx, HB1.out⟩
  case round =>
    obtain ⟨i, hile, rfl, hown, hfc, hbd, hb⟩ := hrel
    have hst : ∀ h : i < ts.length, heavyN wtS (ts.take (i + 1)) = hpush wtS (ts.getD i (0, 0)) (heavyN wtS (ts.take i)) := fun h => heavy_take h
    by_cases hlt : i < ts.length
    · have hst2 := hst hlt
      have hiI : (i : Int) < ts.length := by omega
      obtain ⟨g, o, rfl, hg, h1, h2⟩ := HR.out i hlt
      obtain ⟨c', hc', hgood, har, hnext⟩ := HFr.out i hlt
      obtain ⟨F, hF⟩ : ∃ F, heavyN wtS (ts.take i) = F := ⟨_, rfl⟩
      rw [hF] at hown hfc hbd hst2
      obtain rfl : c' = F.length := by rw [hfc] at hc'; simpa using hc'.symm
      obtain ⟨⟨k, s⟩, hn⟩ : ∃ n, ts.getD i (0, 0) = n := ⟨_, rfl⟩
      rw [hn] at h1 h2 hgood har hnext hst2
      have c1 : wr.cell? ⟨g, o + i * 2, none⟩ = some (.int .i64 k) := by rw [below_cell hb hg]; exact h1
      have c2 : wr.cell? ⟨g, o + i * 2 + 1, none⟩ = some (.int .u8 s) := by rw [below_cell hb hg]; exact h2
      obtain ⟨hk1, hk9⟩ := good_kind hgood
      simp only at hk1 hk9
      obtain ⟨j, rfl⟩ : ∃ j : Nat, k = j := ⟨k.toNat, by omega⟩
      have hj9 : j < 10 := by omega
      have hjI : (j : Int) < 10 := by omega
      have hcp := HP.out.below hb HP.out.pos j hj9
      have hw0 : 0 < wr.heap.size := Nat.lt_of_lt_of_le HP.out.pos hb.size
      have hcp2 : ∀ O, (wr.alloc O).cell? ⟨0, j, none⟩ = some (.int .i64 (arity (j : Int) : Nat)) := fun O => by rw [below_cell ((Below.refl wr.heap.size wr).alloc (Nat.le_refl _) O) hw0]; exact hcp
      have HNX : Hid (heavyN wtS (ts.take (i + 1)) = F.take (F.length - arity (j : Int)) ++ [(F.drop (F.length - arity (j : Int))).foldl max 0 + wtS ((j : Int), s)] ∧ freeN (ts.take (i + 1)) = some (F.length - arity (j : Int) + 1)) := ⟨hst2, hnext⟩
      have HBD : Hid (∀ x ∈ heavyN wtS (ts.take (i + 1)), x ≤ i + 1) := by
        show ∀ x ∈ _, _
        rw [hst2]
        exact hpush_le (wtS_le _) hbd
      have HBF : Hid (∀ x ∈ F, x ≤ i) := hbd
      have hfl := free_le ts i hile _ hfc
      obtain ⟨r, hrd⟩ : ∃ r, arity (j : Int) = r := ⟨_, rfl⟩
      rw [hrd] at hcp2 HNX har
      obtain ⟨p, hp⟩ : ∃ p, F.length - r = p := ⟨_, rfl⟩
      have hpI : (F.length : Int) - (r : Int) = p := by omega
      have hpl : (p : Int) ≤ F.length := by omega
      rw [hp] at HNX
      obtain ⟨fa, fc, rfl⟩ := own_shape hown
      have HOW : Hid (wr.ownsRow w.heap.size 3 1 (.slice fa F.length fc) F.length (nC F)) := hown
      have HB : Hid (Below w.heap.size w wr) := hb
      have hfc0 : F.length ≤ fc := by
        obtain ⟨_, h⟩ := hown
        rcases h with ⟨h, h'⟩ | ⟨g', cp, cur, h, _, _, hcp, _⟩
        · omega
        · simp at h; omega
      have hfcI : (F.length : Int) ≤ fc := by omega
      have hpc : (p : Int) ≤ fc := by omega
      obtain ⟨t1, HT1⟩ : ∃ t1, Hid (wtS ((j : Int), s) = t1) := ⟨_, rfl⟩
      have ht1 : t1 ≤ 1 := by rw [← HT1.out]; exact wtS_le _
      rw [HT1.out] at HNX
      have hw1 : IntKind.i64.wrap (t1 : Int) = (t1 : Int) := IntWalk.i64_in _ (by omega)
      clear hst hst2 hnext hgood hn h1 h2 hcp hfc hc' hbd hown hb hF
      by_cases hr0 : r = 0
      · obtain rfl : p = F.length := by omega
        subst hr0
        have HE : Hid (heavyN wtS (ts.take (i + 1)) = F.take F.length ++ [t1]) := by
          show _ = _
          rw [HNX.out.1]
          simp
        by_cases hfe : fc = F.length
        · subst hfe
          go_wp2_with fail
          refine wp_loop_rounds 1 ?_
          rw [rounds_succ]
          go_wp2_with fail
          have HOC : Hid ((wr.alloc (.cells #[.int .i64 (j : Int), .int .u8 s] 39)).ownsRow w.heap.size 3 1 (.slice fa F.length F.length) F.length (nC (F.take F.length))) := own_cut (HOW.out.alloc _) F.length (by omega)
          have HLO : Hid (∀ k, (Value.slice fa F.length F.length).ownBlock = some k → w.heap.size ≤ k ∧ k < wr.heap.size) := fun k hk => by
            have := HOW.out.lt k (by cases fa <;> simp_all [Value.ownBlock])
            exact this
          have S0 : QS w wr.heap.size #[.int .i64 (j : Int), .int .u8 s] (wr.alloc (.cells #[.int .i64 (j : Int), .int .u8 s] 39)).drew := ⟨(RowAt.last wr #[.int .i64 (j : Int), .int .u8 s] 39).cell, by simp, (HB.out.alloc HB.out.size _).drew⟩
          generalize hWg : wr.alloc (.cells #[.int .i64 (j : Int), .int .u8 s] 39) = W at HOC S0 ⊢
          clear hWg
          go_region_held3 (fun w' => QS w wr.heap.size #[.int .i64 (j : Int), .int .u8 s] w') (first | exact S0 | assumption | exact qs_step (by assumption) (by assumption) | exact qs_alloc _ (by assumption) | exact qs_grown (by assumption) (by assumption) HLO.out) (first
            | (go_at_call 19; refine (stars1_any ((j : Int), s) _).mono ?_; rintro e y1 ⟨rfl, hy1⟩; rw [HT1.out])
            | (rw [if_pos (by rfl)]; refine wp_append_own _ _ _ 36 rfl w.heap.size 3 i0 (.int .i64 0) 1 8 Tryd.underlying36 hi hz0 hz1 hz2 rfl (by decide) _ _ _ rfl ((own_below (own_drew HOC.out) hy1).alloc _) ⟨y1.heap.size, 0, none⟩ 1 1 [.int .i64 (t1 : Int)] rfl rfl (cell_one_new _ _ _) (by intro u hu; simp at hu; subst hu; rfl) (by unfold maxLen; omega) (by omega) (by have := S0.2.2.size; have := hy1.size; simp at *; omega) ?_; intro v9 w9 ho9 hg9 _))
          all_goals go_wp2_with fail
          all_goals go_roundw
          case rel =>
            have hq : QS w wr.heap.size #[.int .i64 (j : Int), .int .u8 s] w9 := by assumption
            refine ⟨i + 1, by omega, by go_num, ?_, by rw [HNX.out.2, HE.out]; simp <;> omega, HBD.out, hq.2.2⟩
            rw [HE.out, nC_append]
            have hl9 : (F.take F.length ++ [t1]).length = F.length + 1 := by simp <;> omega
            rw [hl9]
            exact ho9
          case measure => simp [intOf]; omega
        · have hfe2 : (F.length : Int) < fc := by omega
          go_wp2_with fail
          refine wp_loop_rounds 1 ?_
          rw [rounds_succ]
          go_wp2_with fail
          have HOC : Hid ((wr.alloc (.cells #[.int .i64 (j : Int), .int .u8 s] 39)).ownsRow w.heap.size 3 1 (.slice fa F.length fc) F.length (nC (F.take F.length))) := own_cut (HOW.out.alloc _) F.length (by omega)
          have HLO : Hid (∀ k, (Value.slice fa F.length fc).ownBlock = some k → w.heap.size ≤ k ∧ k < wr.heap.size) := fun k hk => by
            have := HOW.out.lt k (by cases fa <;> simp_all [Value.ownBlock])
            exact this
          have S0 : QS w wr.heap.size #[.int .i64 (j : Int), .int .u8 s] (wr.alloc (.cells #[.int .i64 (j : Int), .int .u8 s] 39)).drew := ⟨(RowAt.last wr #[.int .i64 (j : Int), .int .u8 s] 39).cell, by simp, (HB.out.alloc HB.out.size _).drew⟩
          generalize hWg : wr.alloc (.cells #[.int .i64 (j : Int), .int .u8 s] 39) = W at HOC S0 ⊢
          clear hWg
          go_region_held3 (fun w' => QS w wr.heap.size #[.int .i64 (j : Int), .int .u8 s] w') (first | exact S0 | assumption | exact qs_step (by assumption) (by assumption) | exact qs_alloc _ (by assumption) | exact qs_grown (by assumption) (by assumption) HLO.out) (first
            | (go_at_call 19; refine (stars1_any ((j : Int), s) _).mono ?_; rintro e y1 ⟨rfl, hy1⟩; rw [HT1.out])
            | (rw [if_pos (by rfl)]; refine wp_append_own _ _ _ 36 rfl w.heap.size 3 i0 (.int .i64 0) 1 8 Tryd.underlying36 hi hz0 hz1 hz2 rfl (by decide) _ _ _ rfl ((own_below (own_drew HOC.out) hy1).alloc _) ⟨y1.heap.size, 0, none⟩ 1 1 [.int .i64 (t1 : Int)] rfl rfl (cell_one_new _ _ _) (by intro u hu; simp at hu; subst hu; rfl) (by unfold maxLen; omega) (by omega) (by have := S0.2.2.size; have := hy1.size; simp at *; omega) ?_; intro v9 w9 ho9 hg9 _))
          all_goals go_wp2_with fail
          all_goals go_roundw
          case rel =>
            have hq : QS w wr.heap.size #[.int .i64 (j : Int), .int .u8 s] w9 := by assumption
            refine ⟨i + 1, by omega, by go_num, ?_, by rw [HNX.out.2, HE.out]; simp <;> omega, HBD.out, hq.2.2⟩
            rw [HE.out, nC_append]
            have hl9 : (F.take F.length ++ [t1]).length = F.length + 1 := by simp <;> omega
            rw [hl9]
            exact ho9
          case measure => simp [intOf]; omega
      · have hpF : p < F.length := by omega
        have hpc2 : (p : Int) < fc := by omega
        obtain ⟨fg, rfl, hfgl, hfgb, _⟩ := own_ncell HOW.out p hpF
        obtain ⟨q, hq⟩ : ∃ q, (F.drop p).foldl max 0 = q := ⟨_, rfl⟩
        have hqi : q ≤ i := by
          rw [← hq]
          exact fold_le (m := i) (F.drop p) 0 (by omega) (fun y hy => HBF.out y (List.mem_of_mem_drop hy))
        have HE : Hid (heavyN wtS (ts.take (i + 1)) = F.take p ++ [q + t1]) := by
          show _ = _
          rw [HNX.out.1, hq]
        have HQ : Hid ((F.drop p).foldl max 0 = q) := hq
        have hqw : IntKind.i64.wrap ((q : Int) + (t1 : Int)) = ((q + t1 : Nat) : Int) := by rw [IntKind.wrap_i64]; omega
        clear hq
        have HFC : Hid (∀ t, t < F.length - p → (wr.alloc (.cells #[.int .i64 (j : Int), .int .u8 s] 39)).cell? ⟨fg, p + t, none⟩ = some (.int .i64 (((F.drop p).getD t 0 : Nat) : Int))) := fun t ht => by
          obtain ⟨g', e', _, _, hc⟩ := own_ncell (HOW.out.alloc (.cells #[.int .i64 (j : Int), .int .u8 s] 39)) (p + t) (by omega)
          cases e'
          rw [hc]
          simp [List.getD_eq_getElem?_getD, List.getElem?_drop]
        have HFL : Hid (∀ t, t < F.length - p → (F.drop p).getD t 0 ≤ i) := fun t ht => by
          refine HBF.out _ (List.mem_of_mem_drop (i := p) ?_)
          rw [List.getD_eq_getElem?_getD, List.getElem?_eq_getElem (by simp; omega)]
          exact List.getElem_mem _
        have HFd : Hid ((F.drop p).length = F.length - p) := by show _ = _; simp
        go_wp2_with fail
        go_loop [11, 13, 36] (fun vm _ vt => ∃ t : Nat, t ≤ F.length - p ∧ vt = .int .i64 t ∧ vm = .int .i64 ((((F.drop p).take t).foldl max 0 : Nat) : Int)) (fun _ _ vt => (F.length - p) - (intOf vt).toNat)
        case atStart => exact ⟨0, Nat.zero_le _, rfl, rfl⟩
        case round =>
          obtain ⟨t, htl, rfl, rfl⟩ := hrel
          by_cases ht : t < F.length - p
          · have htI : (t : Int) < ((F.length - p : Nat) : Int) := by omega
            have hcell := HFC.out t ht
            have hmax := fold_take (F.drop p) t (by rw [HFd.out]; omega)
            have hle1 := HFL.out t ht
            obtain ⟨x, hx⟩ : ∃ x, (F.drop p).getD t 0 = x := ⟨_, rfl⟩
            obtain ⟨y, hy⟩ : ∃ y, ((F.drop p).take t).foldl max 0 = y := ⟨_, rfl⟩
            rw [hx] at hcell hmax hle1
            rw [hy] at hmax
            rw [hy]
            have HM : Hid (((F.drop p).take (t + 1)).foldl max 0 = max y x) := hmax
            clear hmax hx hy
            go_wp2_with fail
            go_round
            case rel => exact ⟨t + 1, by omega, by go_num, by rw [HM.out]; congr 1; split <;> omega⟩
            case measure => simp [intOf]; omega
          · have htI : ¬ (t : Int) < ((F.length - p : Nat) : Int) := by omega
            obtain rfl : t = F.length - p := by omega
            rw [List.take_of_length_le (by rw [HFd.out]; omega), HQ.out]
            clear ht
            go_wp2_with fail
            have HOC : Hid ((wr.alloc (.cells #[.int .i64 (j : Int), .int .u8 s] 39)).ownsRow w.heap.size 3 1 (.slice (some ⟨fg, 0, none⟩) p fc) p (nC (F.take p))) := own_cut (HOW.out.alloc _) p (by omega)
            have HLO : Hid (∀ k, (Value.slice (some ⟨fg, 0, none⟩) p fc).ownBlock = some k → w.heap.size ≤ k ∧ k < wr.heap.size) := fun k hk => by
              have := HOW.out.lt k (by simpa [Value.ownBlock] using hk)
              exact this
            have S0 : QS w wr.heap.size #[.int .i64 (j : Int), .int .u8 s] (wr.alloc (.cells #[.int .i64 (j : Int), .int .u8 s] 39)).drew := ⟨(RowAt.last wr #[.int .i64 (j : Int), .int .u8 s] 39).cell, by simp, (HB.out.alloc HB.out.size _).drew⟩
            generalize hWg : wr.alloc (.cells #[.int .i64 (j : Int), .int .u8 s] 39) = W at HOC S0 ⊢
            clear hWg
            go_region_held3 (fun w' => QS w wr.heap.size #[.int .i64 (j : Int), .int .u8 s] w') (first | exact S0 | assumption | exact qs_step (by assumption) (by assumption) | exact qs_alloc _ (by assumption) | exact qs_grown (by assumption) (by assumption) HLO.out) (first
              | (go_at_call 19; refine (stars1_any ((j : Int), s) _).mono ?_; rintro e y1 ⟨rfl, hy1⟩; rw [HT1.out])
              | (rw [if_pos (by rfl)]; refine wp_append_own _ _ _ 36 rfl w.heap.size 3 i0 (.int .i64 0) 1 8 Tryd.underlying36 hi hz0 hz1 hz2 rfl (by decide) _ _ _ rfl ((own_below (own_drew HOC.out) hy1).alloc _) ⟨y1.heap.size, 0, none⟩ 1 1 [.int .i64 ((q + t1 : Nat) : Int)] rfl rfl (cell_one_new _ _ _) (by intro u hu; simp at hu; subst hu; rfl) (by unfold maxLen; omega) (by omega) (by have := S0.2.2.size; have := hy1.size; simp at *; omega) ?_; intro v9 w9 ho9 hg9 _))
            all_goals go_wp2_with fail
            all_goals go_roundw
            case rel =>
              have hq : QS w wr.heap.size #[.int .i64 (j : Int), .int .u8 s] w9 := by assumption
              refine ⟨i + 1, by omega, by go_num, ?_, by rw [HNX.out.2, HE.out]; simp <;> omega, HBD.out, hq.2.2⟩
              rw [HE.out, nC_append]
              have hl9 : (F.take p ++ [q + t1]).length = p + 1 := by simp <;> omega
              rw [hl9]
              exact ho9
            case measure => simp [intOf]; omega
    · have hiI : ¬ (i : Int) < ts.length := by omega
      obtain rfl : i = ts.length := by omega
      rw [List.take_length] at hown hfc hbd
      rw [HF.out] at hfc
      have hl1 : (heavyN wtS ts).length = 1 := by simpa using hfc.symm
      obtain ⟨fa, fc, rfl⟩ := own_shape hown
      obtain ⟨fg, rfl, _, _, hc0⟩ := own_ncell hown 0 (by omega)
      rw [hl1]
      have HB : Hid (Below w.heap.size w wr) := hb
      clear hown hfc hbd hst hlt hb
      go_wp2_with fail
      go_ret2
      exact ⟨rfl, HB.out⟩

set_option maxHeartbeats 1000000 in
theorem stars_any (v : Value) (ts : List Nd) (w : World) (hv : NReads w v ts) (hm : ts.length ≤ 4000) (hP : PTab w) (hok : wrong ts = 0) (hf : freeN ts = some 1) :
    Calls Tryd.prog 9 #[v] w fun e w' => e = .returned (.tuple #[.int .i64 (((heavyN wtS ts).getD 0 0 : Nat) : Int), .int .i64 0]) ∧ Below w.heap.size w w' := by
  have HV : Hid (NReads w v ts) := hv
  have HP : Hid (PTab w) := hP
  have HX : Hid (wrong ts = 0) := hok
  have HF : Hid (freeN ts = some 1) := hf
  clear hv hP hok hf
  go_enter Tryd.func9, Tryd.ntmps9
  go_wp2_with fail
  refine (way_stars v ts w HV.out hm HP.out HX.out HF.out).mono ?_
  rintro e w1 ⟨rfl, hb1⟩
  go_wp2_with fail
  go_ret2
  exact ⟨rfl, hb1⟩

set_option maxHeartbeats 1000000 in
set_option maxRecDepth 100000 in
theorem depth_bad (v : Value) (ts : List Nd) (w : World) (hv : NReads w v ts) (hm : ts.length ≤ 9223372036854775806) (hP : PTab w) (hbad : wrong ts ≠ 0) :
    Calls Tryd.prog 8 #[v] w fun e w' => e = .returned (.tuple #[.int .i64 0, .int .i64 (wrong ts)]) ∧ Below w.heap.size w w' := by
  have HV : Hid (NReads w v ts) := hv
  have HP : Hid (PTab w) := hP
  obtain ⟨x, HX⟩ : ∃ x, Hid (wrong ts = x) := ⟨_, rfl⟩
  rw [HX.out] at hbad
  have hxb : (x != 0) = true := by simpa using hbad
  clear hv hP hbad
  rw [HX.out]
  have HW : Hid (Calls Tryd.prog 17 #[v, .func (.func 18) #[] #[]] w fun e w' => e = .returned (.tuple #[.int .i64 0, .int .i64 x]) ∧ Below w.heap.size w w') := by
    show Calls _ _ _ _ _
    go_enter Tryd.func17, Tryd.ntmps17
    go_wp2_with fail
    refine (treeError_any v ts _ HV.out hm HP.out).mono ?_
    rintro e w1 ⟨rfl, hb1⟩
    rw [HX.out]
    go_wp2_with fail
    go_ret2
    exact ⟨rfl, hb1⟩
  go_enter Tryd.func8, Tryd.ntmps8
  go_wp2_with fail
  refine Calls.mono HW.out ?_
  rintro e w1 ⟨rfl, hb1⟩
  go_wp2_with fail
  go_ret2
  exact ⟨rfl, hb1⟩

set_option maxHeartbeats 1000000 in
set_option maxRecDepth 100000 in
theorem stars_bad (v : Value) (ts : List Nd) (w : World) (hv : NReads w v ts) (hm : ts.length ≤ 9223372036854775806) (hP : PTab w) (hbad : wrong ts ≠ 0) :
    Calls Tryd.prog 9 #[v] w fun e w' => e = .returned (.tuple #[.int .i64 0, .int .i64 (wrong ts)]) ∧ Below w.heap.size w w' := by
  have HV : Hid (NReads w v ts) := hv
  have HP : Hid (PTab w) := hP
  obtain ⟨x, HX⟩ : ∃ x, Hid (wrong ts = x) := ⟨_, rfl⟩
  rw [HX.out] at hbad
  have hxb : (x != 0) = true := by simpa using hbad
  clear hv hP hbad
  rw [HX.out]
  have HW : Hid (Calls Tryd.prog 17 #[v, .func (.func 19) #[] #[]] w fun e w' => e = .returned (.tuple #[.int .i64 0, .int .i64 x]) ∧ Below w.heap.size w w') := by
    show Calls _ _ _ _ _
    go_enter Tryd.func17, Tryd.ntmps17
    go_wp2_with fail
    refine (treeError_any v ts _ HV.out hm HP.out).mono ?_
    rintro e w1 ⟨rfl, hb1⟩
    rw [HX.out]
    go_wp2_with fail
    go_ret2
    exact ⟨rfl, hb1⟩
  go_enter Tryd.func9, Tryd.ntmps9
  go_wp2_with fail
  refine Calls.mono HW.out ?_
  rintro e w1 ⟨rfl, hb1⟩
  go_wp2_with fail
  go_ret2
  exact ⟨rfl, hb1⟩

end Go.Proofs.YtchaggigabccaabDoor
