/- Contract of the document's Put. -/
import Derived.Test.YtghchlppdhfoeaaRf
import Derived.Test.YtghchlppdhfoeaaBp
namespace Go.Proofs.Ytghchlppdhfoeaa
open Go.RowKit Go.Lib

theorem Cells8.stay {w w' : World} {b : Nat} {f : Nat → Nat} (h : Cells8 w b f) (hb : Below w.heap.size w w') : Cells8 w' b f := h.of_heap (hb.block b h.lt)
theorem mem_lst {N b : Nat} {x : Int} : x ∈ lst N b ↔ ∃ j : Nat, j < b ∧ N.testBit j = true ∧ x = j := by
  unfold lst
  simp only [List.mem_map, List.mem_filter, List.mem_range]
  constructor
  · rintro ⟨j, ⟨h1, h2⟩, rfl⟩; exact ⟨j, h1, h2, rfl⟩
  · rintro ⟨j, h1, h2, rfl⟩; exact ⟨j, ⟨h1, h2⟩, rfl⟩
/-- The set of its list is the set. -/
theorem of_lst {P : Nat} (hP : Fits P) : ofN (lst P 512) = P ∧ ofE (lst P 512) = 0 := by
  have e : (lst P 512).all inSet = true := by
    rw [List.all_eq_true]
    intro x hx
    obtain ⟨j, hj, _, rfl⟩ := mem_lst.1 hx
    simp [inSet]
    omega
  refine ⟨?_, by rw [ofE, if_pos e]⟩
  rw [ofN, if_pos e]
  apply Nat.eq_of_testBit_eq
  intro i
  rw [testBit_ofL, Bool.eq_iff_iff, decide_eq_true_iff]
  constructor
  · rintro ⟨x, hx, rfl⟩
    obtain ⟨j, _, h2, rfl⟩ := mem_lst.1 hx
    rw [Int.toNat_natCast]; exact h2
  · intro h
    refine ⟨(i : Int), mem_lst.2 ⟨i, ?_, h, rfl⟩, Int.toNat_natCast i⟩
    by_cases hi : i < 512
    · exact hi
    · rw [hP i (by omega)] at h; simp at h
theorem bit_eq (v j : Nat) (hv : v < 18446744073709551616) : ((bits .and .u64 ((v : Int) / 2 ^ j) 1) == 1) = v.testBit j := by
  have h1 : bits .and .u64 ((v : Int) / 2 ^ j) 1 = ((v / 2 ^ j &&& 1 : Nat) : Int) := and_u64 _ 1 (shr_cast _ _) rfl (shr_lt hv) (by decide)
  rw [h1, Nat.testBit_eq_decide_div_mod_eq, Nat.and_one_is_mod, Bool.eq_iff_iff]
  simp only [beq_iff_eq, decide_eq_true_eq]
  omega
theorem fits_putV {N a b v : Nat} (hv : v < 2 ^ b) (h : a + b ≤ 512) (hN : Fits N) : Fits (putV N a b v) := by
  intro i hi
  rw [testBit_putV _ _ _ _ _ hv, if_neg (by omega), hN i hi]
theorem PutAt.stay {w wr wr' : World} {f : Nat → Nat} (h : PutAt w f wr) (hb : Below wr.heap.size wr wr') : PutAt w f wr' := ⟨h.set.stay hb, h.res.stay hb, go_on h.below hb⟩
/-- What stands in the loop of the document's Put. -/
structure RPut (W : World) (P i : Nat) (v : Value) (wr : World) : Prop where
  row : wr.ownsRow W.heap.size 3 1 v (lst P i).length (zC (lst P i))
  below : Below W.heap.size W wr

set_option maxHeartbeats 4000000 in
set_option maxRecDepth 100000 in
theorem rput_any (N : Nat) (hN : Fits N) (a b : Int) (v : Nat) (hv : v < 18446744073709551616) (w : World) (ha : -9223372036854775808 ≤ a ∧ a ≤ 9223372036854775807) (hb : -9223372036854775808 ≤ b ∧ b ≤ 9223372036854775807) :
    Calls Try.prog 25 #[setV N, .int .i64 a, .int .i64 b, .int .u64 v] w fun e w' => e = .returned (.tuple #[setV (putN N a b v), .int .i64 (putE a b v)]) ∧ Below w.heap.size w w' := by
  have H0 : Hid (PutAt w (word N) ((w.alloc (.cells (cellsF (word N)) 24)).alloc (.cells #[.int .u64 0, .int .u64 0, .int .u64 0, .int .u64 0, .int .u64 0, .int .u64 0, .int .u64 0, .int .u64 0] 24))) := PutAt.start w N
  have H1 : Hid (RowAt ((w.alloc (.cells (cellsF (word N)) 24)).alloc (.cells #[.int .u64 0, .int .u64 0, .int .u64 0, .int .u64 0, .int .u64 0, .int .u64 0, .int .u64 0, .int .u64 0] 24)) w.heap.size (cellsF (word N))) := (RowAt.last w _ _).alloc _
  have HA : Hid _ := ha
  have HB : Hid _ := hb
  unfold setV cellsF
  unfold cellsF at H0 H1
  by_cases hF : isF a b = true
  · have hd2 : 1 ≤ b ∧ b ≤ 64 ∧ 0 ≤ a ∧ a ≤ 512 - b := of_decide_eq_true hF
    obtain ⟨at_, rfl⟩ : ∃ m : Nat, a = m := ⟨a.toNat, by omega⟩
    obtain ⟨wd, rfl⟩ : ∃ m : Nat, b = m := ⟨b.toNat, by omega⟩
    have h1 : 1 ≤ wd := by omega
    have h2 : wd ≤ 64 := by omega
    have h3 : at_ + wd ≤ 512 := by omega
    have HF : Hid _ := hF
    have hfE : fieldE at_ wd = 0 := by rw [fieldE, if_pos hF]
    have HFE : Hid _ := hfE
    have hwu : IntKind.u64.wrap (wd : Int) = wd := wrap_nat wd (by omega)
    clear hd2 hF ha hb hfE
    by_cases hvv : v < 2 ^ wd
    · have hdiv : (v : Int) / 2 ^ wd = 0 := by rw [shr_cast, Nat.div_eq_of_lt hvv]; rfl
      obtain ⟨P, hP⟩ : ∃ P, putV N at_ wd v = P := ⟨_, rfl⟩
      have HPG : Hid (putN N at_ wd v = P ∧ putE at_ wd v = 0 ∧ Fits P ∧ ∀ i, P.testBit i = if at_ ≤ i ∧ i < at_ + wd then v.testBit (i - at_) else N.testBit i) :=
        ⟨by rw [(put_good HF.out hvv).1, hP], (put_good (N := N) HF.out hvv).2, by rw [← hP]; exact fits_putV hvv h3 hN, fun i => by rw [← hP]; exact testBit_putV N at_ wd v i hvv⟩
      clear hP hvv
      obtain ⟨i0, hi, hz0, hz1, hz2⟩ := info_parts Try.info_int
      by_cases h64 : (wd : Int) < 64
      all_goals
        go_enter Try.func25, Try.ntmps25
        go_wp2_with fail
        refine (rfield_any N _ _ _ HA.out HB.out).mono ?_
        rintro e W ⟨rfl, hb1⟩
        rw [HFE.out]
        have H3 : Hid (RowAt W w.heap.size _) := H1.out.stay hb1
        have H4 : Hid (PutAt w (word N) W) := H0.out.stay hb1
        clear hb1 H1 H0
        go_wp2_with fail
        go_loopw [12, 13, 14] (fun l vk _ wr => ∃ (i : Nat), vk = .int .i64 i ∧ i ≤ 512 ∧ RPut W P i l wr) (fun _ vk _ _ => 512 - (intOf vk).toNat)
        case atStart => exact ⟨0, rfl, Nat.zero_le _, by show World.ownsRow _ _ _ _ _ 0 []; exact World.ownsRow_nil _ _ _ _, Below.refl _ _⟩
        case round =>
          obtain ⟨i, rfl, hi5, hown, hb⟩ := hrel
          obtain ⟨a, cap, rfl⟩ := own_shape hown
          have cs := (H3.out.stay hb).cell
          by_cases hlt : i < 512
          · have hiI : (i : Int) < 512 := by omega
            have hps := lst_succ P i
            have hpl := lst_le P i
            have hh : hasN N (i : Int) = N.testBit i := by rw [hasN, decide_eq_true (by omega), Bool.true_and, Int.toNat_natCast]
            have hbi := HPG.out.2.2.2 i
            have HH : Hid _ := hh
            clear hh
            obtain ⟨y, hy⟩ : ∃ y, P.testBit i = y := ⟨_, rfl⟩
            rw [hy] at hps hbi
            by_cases hin : at_ ≤ i ∧ i < at_ + wd
            · rw [if_pos hin] at hbi
              obtain ⟨j, hj⟩ : ∃ j, i - at_ = j := ⟨_, rfl⟩
              have hjI : (i : Int) - (at_ : Int) = (j : Int) := by omega
              have hj64 : j < 64 := by omega
              have hju : IntKind.u64.wrap (j : Int) = j := wrap_nat j (by omega)
              rw [hj] at hbi
              have hbv := bit_eq v j hv
              rw [← hbi] at hbv
              have g1 : (at_ : Int) ≤ i := by omega
              have g2 : (i : Int) < at_ + wd := by omega
              have HS : Hid _ := hps
              clear hps hbi hy hin hj
              go_wp2_with fail
              refine (rhas_any N _ _).mono ?_
              rintro e w2 ⟨rfl, hb2⟩
              have hown2 := own_below hown hb2
              have hb3 : Below W.heap.size W w2 := hb.trans (hb2.mono hb.size)
              clear hown hb hb2 cs
              cases y
              · go_wp2_with fail
                go_roundw
                case rel => exact ⟨i + 1, by go_num, by omega, by rw [HS.out]; simpa using hown2, hb3⟩
                case measure => simp [intOf]; omega
              · have HS2 : Hid (lst P (i + 1) = lst P i ++ [(i : Int)]) := by show _ = _; rw [HS.out]; rfl
                go_wp2_with (at_builtin; refine wpList_append_own _ rfl _ _ 34 rfl W.heap.size 3 i0 (.int .i64 0) 1 8 Try.underlying34 hi hz0 hz1 hz2 rfl (by decide) _ _ _ rfl (hown2.alloc _) ⟨w2.heap.size, 0, none⟩ 1 1 [.int .i64 (i : Int)] rfl rfl ?c1 ?c2 ?c3 ?c4 ?c5 ?_)
                case c1 => exact cell_one_new _ _ _
                case c2 => intro u hu; simp at hu; subst hu; rfl
                case c3 => unfold maxLen; omega
                case c4 => omega
                case c5 => have := hb3.size; simp; omega
                intro v' w4 hown' hgrow _
                have R : w4.ownsRow W.heap.size 3 1 v' (lst P (i + 1)).length (zC (lst P (i + 1))) := by
                  rw [HS2.out, zC_append, List.length_append]
                  exact hown'
                have hb4 : Below W.heap.size W w4 := (hb3.alloc hb3.size _).grown hgrow (by have := hb3.size; simp; omega) (fun g hg => (hown2.lt g hg).1)
                clear hown' hgrow hown2
                go_wp2
                go_roundw
                case rel => exact ⟨i + 1, by go_num, by omega, R, hb4⟩
                case measure => simp [intOf]; omega
            · rw [if_neg hin] at hbi
              have HS : Hid _ := hps
              have HH2 : Hid (hasN N (i : Int) = y) := by show _ = _; rw [HH.out, ← hbi]
              clear hps hbi hy
              by_cases g1 : (at_ : Int) ≤ i
              all_goals
                first
                  | (have g2 : ¬ (i : Int) < at_ + wd := by omega)
                  | skip
                clear hin
                go_wp2_with fail
                refine (rhas_any N _ _).mono ?_
                rintro e w2 ⟨rfl, hb2⟩
                rw [HH2.out]
                have hown2 := own_below hown hb2
                have hb3 : Below W.heap.size W w2 := hb.trans (hb2.mono hb.size)
                clear hown hb hb2 cs HH2
                cases y
                · go_wp2_with fail
                  go_roundw
                  case rel => exact ⟨i + 1, by go_num, by omega, by rw [HS.out]; simpa using hown2, hb3⟩
                  case measure => simp [intOf]; omega
                · have HS2 : Hid (lst P (i + 1) = lst P i ++ [(i : Int)]) := by show _ = _; rw [HS.out]; rfl
                  go_wp2_with (at_builtin; refine wpList_append_own _ rfl _ _ 34 rfl W.heap.size 3 i0 (.int .i64 0) 1 8 Try.underlying34 hi hz0 hz1 hz2 rfl (by decide) _ _ _ rfl (hown2.alloc _) ⟨w2.heap.size, 0, none⟩ 1 1 [.int .i64 (i : Int)] rfl rfl ?c1 ?c2 ?c3 ?c4 ?c5 ?_)
                  case c1 => exact cell_one_new _ _ _
                  case c2 => intro u hu; simp at hu; subst hu; rfl
                  case c3 => unfold maxLen; omega
                  case c4 => omega
                  case c5 => have := hb3.size; simp; omega
                  intro v' w4 hown' hgrow _
                  have R : w4.ownsRow W.heap.size 3 1 v' (lst P (i + 1)).length (zC (lst P (i + 1))) := by
                    rw [HS2.out, zC_append, List.length_append]
                    exact hown'
                  have hb4 : Below W.heap.size W w4 := (hb3.alloc hb3.size _).grown hgrow (by have := hb3.size; simp; omega) (fun g hg => (hown2.lt g hg).1)
                  clear hown' hgrow hown2
                  go_wp2
                  go_roundw
                  case rel => exact ⟨i + 1, by go_num, by omega, R, hb4⟩
                  case measure => simp [intOf]; omega
          · have : i = 512 := by omega
            subst this
            have H5 : Hid (PutAt w (word N) wr) := H4.out.stay hb
            have HR : Hid _ := own_reads hown
            have hpl := lst_le P 512
            clear hown hb cs
            go_wp2_with fail
            refine (rof_any _ _ _ HR.out (by omega)).mono ?_
            rintro e w5 ⟨rfl, hb5⟩
            rw [(of_lst HPG.out.2.2.1).1, (of_lst HPG.out.2.2.1).2]
            unfold setV cellsF
            have H6 : Hid (PutAt w (word N) w5) := H5.out.stay hb5
            obtain ⟨d0, d1, d2, d3, d4, d5, d6, d7⟩ := (H6.out.res).gets
            have f0 := (H6.out.res).frozen 0
            have f1 := (H6.out.res).frozen 1
            have f2 := (H6.out.res).frozen 2
            have f3 := (H6.out.res).frozen 3
            have f4 := (H6.out.res).frozen 4
            have f5 := (H6.out.res).frozen 5
            have f6 := (H6.out.res).frozen 6
            have f7 := (H6.out.res).frozen 7
            go_wp2_with fail
            obtain ⟨h8, hB⟩ := st8 H6.out.res H6.out.below (by omega) (word P) rfl rfl rfl rfl rfl rfl rfl rfl
            refine bodyPost_ret (results_set_tmp rfl rfl h8) rfl ⟨?_, hB⟩
            rw [HPG.out.1, HPG.out.2.1]
            rfl
    · have hdiv : ((v : Int) / 2 ^ wd != 0) = true := by
        rw [shr_cast]
        have : v / 2 ^ wd ≠ 0 := by
          intro h0
          rcases Nat.div_eq_zero_iff.1 h0 with h | h
          · exact absurd h (Nat.ne_of_gt (Nat.two_pow_pos _))
          · exact hvv h
        simp only [bne_iff_ne, ne_eq]
        omega
      have h64 : (wd : Int) < 64 := by
        by_cases h : wd = 64
        · subst h; omega
        · omega
      have HE : Hid _ := put_big (N := N) HF.out hvv
      clear hvv
      go_enter Try.func25, Try.ntmps25
      go_wp2_with fail
      refine (rfield_any N _ _ _ HA.out HB.out).mono ?_
      rintro e W ⟨rfl, hb1⟩
      rw [HFE.out]
      have H4 : Hid (PutAt w (word N) W) := H0.out.stay hb1
      clear hb1 H1 H0
      obtain ⟨d0, d1, d2, d3, d4, d5, d6, d7⟩ := (H4.out.res).gets
      have f0 := (H4.out.res).frozen 0
      have f1 := (H4.out.res).frozen 1
      have f2 := (H4.out.res).frozen 2
      have f3 := (H4.out.res).frozen 3
      have f4 := (H4.out.res).frozen 4
      have f5 := (H4.out.res).frozen 5
      have f6 := (H4.out.res).frozen 6
      have f7 := (H4.out.res).frozen 7
      go_wp2_with fail
      obtain ⟨h8, hB⟩ := st8 H4.out.res H4.out.below (by omega) (fun _ => 0) rfl rfl rfl rfl rfl rfl rfl rfl
      refine bodyPost_ret (results_set_tmp rfl rfl h8) rfl ⟨?_, hB⟩
      rw [HE.out.1, HE.out.2]
      exact ret_set (fun k _ => by simp [word])
  · have hfE : fieldE a b = 1 := by rw [fieldE, if_neg hF]
    have HFE : Hid _ := hfE
    have HE : Hid _ := put_bad (N := N) (v := v) hF
    clear hfE hF
    go_enter Try.func25, Try.ntmps25
    go_wp2_with fail
    refine (rfield_any N _ _ _ HA.out HB.out).mono ?_
    rintro e W ⟨rfl, hb1⟩
    rw [HFE.out]
    have H4 : Hid (PutAt w (word N) W) := H0.out.stay hb1
    clear hb1 H1 H0
    obtain ⟨d0, d1, d2, d3, d4, d5, d6, d7⟩ := (H4.out.res).gets
    have f0 := (H4.out.res).frozen 0
    have f1 := (H4.out.res).frozen 1
    have f2 := (H4.out.res).frozen 2
    have f3 := (H4.out.res).frozen 3
    have f4 := (H4.out.res).frozen 4
    have f5 := (H4.out.res).frozen 5
    have f6 := (H4.out.res).frozen 6
    have f7 := (H4.out.res).frozen 7
    go_wp2_with fail
    obtain ⟨h8, hB⟩ := st8 H4.out.res H4.out.below (by omega) (fun _ => 0) rfl rfl rfl rfl rfl rfl rfl rfl
    refine bodyPost_ret (results_set_tmp rfl rfl h8) rfl ⟨?_, hB⟩
    rw [HE.out.1, HE.out.2]
    exact ret_set (fun k _ => by simp [word])

end Go.Proofs.Ytghchlppdhfoeaa
