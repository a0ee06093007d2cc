/- Contracts of the document's period, Periods and Root. -/
import Derived.Test.YtocdifclkopbcaaRot
namespace Go.Proofs.Ytocdifclkopbcaa
open Go.RowKit

theorem ret_last (s : ByteArray) (h0 : 0 < s.size) : Ending.returned (.tuple #[.string s, .int .i64 1, .int .i64 0]) = .returned (.tuple #[.string (s.extract 0 s.size), .int .i64 ((s.size / s.size : Nat) : Int), .int .i64 0]) := by
  have e1 : s.extract 0 s.size = s := by
    apply ByteArray.ext
    have : s.size = s.data.size := rfl
    rw [this]
    simp
  have e2 : s.size / s.size = 1 := Nat.div_self h0
  rw [e1, e2]
  rfl

set_option maxHeartbeats 1000000 in
set_option maxRecDepth 100000 in
theorem period_any (s : ByteArray) (p : Nat) (w : World) (hs : s.size ≤ 17592186044416) (hp : p ≤ s.size) :
    Calls Try.prog 46 #[.string s, .int .i64 p] w fun e w' => e = .returned (.bool (perB s p)) ∧ ∃ q, w' = w.drewN q := by
  go_enter Try.func46, Try.ntmps46
  go_wp2_with fail
  go_loopw [5] (fun vi wr => ∃ i q : Nat, vi = .int .i64 i ∧ i ≤ s.size ∧ (∀ j, j < i → j + p < s.size → at' s j = at' s (j + p)) ∧ wr = w.drewN q) (fun vi _ => s.size - (intOf vi).toNat)
  case atStart => exact ⟨0, 0, rfl, Nat.zero_le _, fun j hj => by omega, rfl⟩
  case round =>
    obtain ⟨i, q, rfl, hi, hall, rfl⟩ := hrel
    have HA : Hid (∀ j, j < i → j + p < s.size → at' s j = at' s (j + p)) := hall
    clear hall
    by_cases hlt : i + p < s.size
    · have hI : (i : Int) + p < s.size := by omega
      have hI2 : (i : Int) < s.size := by omega
      have hI3 : 0 ≤ (i : Int) + p := by omega
      have hw : IntKind.i64.wrap ((i : Int) + p) = (i : Int) + p := wrap_small _ (by omega) (by omega)
      have hil : i < s.size := by omega
      by_cases he : at' s i = at' s (i + p)
      · have h3 : ((s[i].toNat : Int) != (s[i + p].toNat : Int)) = false := by
          rw [at_eq s i hil, at_eq s (i + p) hlt, he, bne_eq_false_iff_eq]
        have HE : Hid _ := he
        clear he
        go_wp2_with fail
        go_quiet (fail)
        go_wp2
        go_roundw
        case rel => exact ⟨i + 1, _, by go_num, by omega, fun j hj hjp => by
          by_cases e : j = i
          · rw [e]; exact HE.out
          · exact HA.out j (by omega) hjp, rfl⟩
        case measure => simp [intOf]; omega
      · have h3 : ((s[i].toNat : Int) != (s[i + p].toNat : Int)) = true := by
          rw [at_eq s i hil, at_eq s (i + p) hlt, bne_iff_ne]
          intro h
          exact he (UInt8.toNat_inj.1 (by omega))
        have HE : Hid (perB s p = false) := by
          show perB s p = false
          cases hb : perB s p with
          | false => rfl
          | true => exact absurd ((perB_iff s p hp).1 hb i hlt) he
        clear he
        go_wp2_with fail
        go_quiet (fail)
        go_wp2
        go_ret
        exact ⟨ret_bool HE.out.symm, _, drew_two w q nq⟩
    · have hI : ¬ (i : Int) + p < s.size := by omega
      have HE : Hid (perB s p = true) := (perB_iff s p hp).2 (fun j hj => HA.out j (by omega) hj)
      have hw : IntKind.i64.wrap ((i : Int) + p) = (i : Int) + p := wrap_small _ (by omega) (by omega)
      go_wp2_with fail
      go_ret
      exact ⟨ret_bool HE.out.symm, q, rfl⟩

set_option maxHeartbeats 1000000 in
set_option maxRecDepth 100000 in
theorem rperiods_any (k : Int) (s : ByteArray) (w : World) (hs : s.size ≤ 17592186044416) :
    Calls Try.prog 27 #[.int .i64 k, .string s] w fun e w' => ∃ v, e = .returned (.tuple #[v, .int .i64 (chk k s)]) ∧ w'.ownsRow w.heap.size 3 1 v (persA k s).length (intCells (persA k s)) ∧ Below w.heap.size w w' := by
  have HML : Hid (s.size ≤ maxLen) := by show s.size ≤ maxLen; unfold maxLen; omega
  by_cases h : chk k s = 0
  · have HP : Hid (persA k s = pers s s.size) := by show persA k s = pers s s.size; unfold persA; rw [if_pos h]
    have HH : Hid (chk k s = 0) := h
    clear h
    obtain ⟨i0, hi, hz0, hz1, hz2⟩ := info_parts Try.info_int
    go_enter Try.func27, Try.ntmps27
    go_wp2_with fail
    refine (rcheck_any k s _ HML.out).mono ?_
    rintro e w1 ⟨rfl, b1⟩
    rw [HH.out]
    go_wp2_with fail
    go_loopw [7, 8] (fun v vp wr => ∃ (k : Nat), vp = .int .i64 ((k : Int) + 1) ∧ k ≤ s.size ∧ wr.ownsRow w1.heap.size 3 1 v (pers s k).length (intCells (pers s k)) ∧ Below w1.heap.size w1 wr) (fun _ vp _ => s.size + 1 - (intOf vp).toNat)
    case atStart => exact ⟨0, by go_num, Nat.zero_le _, by show World.ownsRow _ _ _ _ _ 0 []; exact World.ownsRow_nil _ _ _ _, Below.refl _ _⟩
    case round =>
      obtain ⟨k', rfl, hk, hown, hb⟩ := hrel
      obtain ⟨a, cap, rfl⟩ := own_shape hown
      by_cases hlt : k' < s.size
      · have hps := pers_succ s k'
        have hpl := pers_le s k'
        have hpc : ∀ w', Calls Try.prog 46 #[.string s, .int .i64 ((k' : Int) + 1)] w' fun e w'' => e = .returned (.bool (perB s (k' + 1))) ∧ ∃ q, w'' = w'.drewN q := by
          intro w'
          have := period_any s (k' + 1) w' hs (by omega)
          rw [show (((k' + 1 : Nat)) : Int) = (k' : Int) + 1 by omega] at this
          exact this
        have HPC : Hid _ := hpc
        clear hpc
        by_cases hper : perB s (k' + 1) = true
        · rw [if_pos hper] at hps
          have HS : Hid _ := hps
          clear hps
          go_wp2_with fail
          refine (HPC.out _).mono ?_
          rintro e w3 ⟨rfl, q, rfl⟩
          rw [hper]
          go_wp2_with (at_builtin; refine wpList_append_own _ rfl _ _ 47 rfl w1.heap.size 3 i0 (.int .i64 0) 1 8 Try.underlying47 hi hz0 hz1 hz2 rfl (by decide) _ _ _ rfl ((own_draw hown q).alloc _) ⟨wr.heap.size, 0, none⟩ 1 1 [.int .i64 ((k' : Int) + 1)] rfl rfl ?c1 ?c2 ?c3 ?c4 ?c5 ?_)
          case c1 => exact cell_one_new _ _ _
          case c2 => intro u hu; simp at hu; subst hu; rfl
          case c3 => unfold maxLen; omega
          case c4 => omega
          case c5 => have := hb.size; simp; omega
          intro v' w4 hown' hgrow _
          have R : w4.ownsRow w1.heap.size 3 1 v' (pers s (k' + 1)).length (intCells (pers s (k' + 1))) := by
            rw [HS.out, intCells_append, List.length_append]
            exact hown'
          have hb2 : Below w1.heap.size w1 w4 := ((below_drewN hb q).alloc hb.size _).grown hgrow (by have := hb.size; simp; omega) (fun g hg => (hown.lt g hg).1)
          clear hown' hgrow hown
          go_wp2
          go_roundw
          case rel => exact ⟨k' + 1, by go_num, by omega, R, hb2⟩
          case measure => simp [intOf]; omega
        · have hper' : perB s (k' + 1) = false := by simpa using hper
          rw [hper', if_neg (by simp), List.append_nil] at hps
          have HS : Hid _ := hps
          clear hps hper
          go_wp2_with fail
          refine (HPC.out _).mono ?_
          rintro e w3 ⟨rfl, q, rfl⟩
          rw [hper']
          go_wp2_with fail
          go_roundw
          case rel => exact ⟨k' + 1, by go_num, by omega, by rw [HS.out]; exact own_draw hown q, below_drewN hb q⟩
          case measure => simp [intOf]; omega
      · have : k' = s.size := by omega
        subst this
        go_wp2
        go_ret2
        refine ⟨_, ret_tup rfl HH.out.symm, ?_, go_on b1 hb⟩
        rw [HP.out]
        exact own_mono hown b1.size
  · have HP : Hid (persA k s = []) := by show persA k s = []; unfold persA; rw [if_neg h]
    have hg : (chk k s != 0) = true := by simpa using h
    clear h
    go_enter Try.func27, Try.ntmps27
    go_wp2_with fail
    refine (rcheck_any k s _ HML.out).mono ?_
    rintro e w1 ⟨rfl, b1⟩
    go_wp2_with fail
    go_ret2
    exact ⟨_, rfl, by rw [HP.out]; exact World.ownsRow_nil _ _ _ _, b1⟩

set_option maxHeartbeats 1000000 in
set_option maxRecDepth 100000 in
theorem rroot_any (k : Int) (s : ByteArray) (w : World) (hs : s.size ≤ 17592186044416) (h : chk k s = 0) (h0 : 0 < s.size) :
    Calls Try.prog 28 #[.int .i64 k, .string s] w fun e w' => ∃ p, IsRoot s p ∧ e = .returned (.tuple #[.string (s.extract 0 p), .int .i64 ((s.size / p : Nat) : Int), .int .i64 0]) ∧ Below w.heap.size w w' := by
  have HML : Hid (s.size ≤ maxLen) := by show s.size ≤ maxLen; unfold maxLen; omega
  have HH : Hid (chk k s = 0) := h
  have he : s.toList.isEmpty = false := by
    rw [ByteArray.toList_eq]
    cases hd : s.data.toList with
    | nil => have := len_eq s; rw [hd] at this; simp at this; omega
    | cons a b => rfl
  clear h
  go_enter Try.func28, Try.ntmps28
  go_wp2_with fail
  refine (rcheck_any k s _ HML.out).mono ?_
  rintro e w1 ⟨rfl, b1⟩
  rw [HH.out]
  go_wp2_with fail
  go_loopw [8] (fun vk wr => ∃ (k q : Nat), vk = .int .i64 ((k : Int) + 1) ∧ k < s.size ∧ (∀ p, 1 ≤ p → p ≤ k → divP s p = false) ∧ wr = w1.drewN q) (fun vk _ => s.size + 1 - (intOf vk).toNat)
  case atStart => exact ⟨0, 0, by go_num, h0, fun p h1 h2 => by omega, rfl⟩
  case round =>
    obtain ⟨k', q, rfl, hk, hall, rfl⟩ := hrel
    have HA : Hid (∀ p, 1 ≤ p → p ≤ k' → divP s p = false) := hall
    clear hall
    by_cases hlast : k' + 1 < s.size
    · have hkI : (k' : Int) + 1 < s.size := by omega
      have HMI : Hid (((s.size : Int) % ((k' : Int) + 1)) = ((s.size % (k' + 1) : Nat) : Int)) := by show _ = _; simp
      have hpc : ∀ w', Calls Try.prog 46 #[.string s, .int .i64 ((k' : Int) + 1)] w' fun e w'' => e = .returned (.bool (perB s (k' + 1))) ∧ ∃ q, w'' = w'.drewN q := by
        intro w'
        have := period_any s (k' + 1) w' hs (by omega)
        rw [show (((k' + 1 : Nat)) : Int) = (k' : Int) + 1 by omega] at this
        exact this
      have HPC : Hid _ := hpc
      clear hpc
      by_cases hmod : s.size % (k' + 1) = 0
      · have hm : ((s.size : Int) % ((k' : Int) + 1) == 0) = true := by rw [HMI.out, beq_iff_eq]; omega
        by_cases hper : perB s (k' + 1) = true
        · have HRT : Hid (IsRoot s (k' + 1)) := ⟨by omega, by omega, by simp [divP, hmod, hper], fun p h1 h2 => HA.out p h1 (by omega)⟩
          clear hmod
          go_wp2_with fail
          refine (HPC.out _).mono ?_
          rintro e w3 ⟨rfl, q2, rfl⟩
          rw [hper]
          have hkI1 : (k' : Int) + 1 ≤ s.size := by omega
          have hq0 : ((k' : Int) + 1 == 0) = false := by rw [beq_eq_false_iff_ne]; omega
          have hd0 : 0 ≤ (s.size : Int) / ((k' : Int) + 1) := Int.ediv_nonneg (by omega) (by omega)
          have hd1 : (s.size : Int) / ((k' : Int) + 1) ≤ s.size := Int.ediv_le_self _ (by omega)
          go_wp2_with fail
          go_region
          all_goals go_wp2
          all_goals go_ret3
          all_goals exact ⟨k' + 1, HRT.out, ret_thr (by simp), (below_drewN b1 _).drew⟩
        · have hper' : perB s (k' + 1) = false := by simpa using hper
          have HD : Hid (divP s (k' + 1) = false) := by show divP s (k' + 1) = false; simp [divP, hper']
          clear hper
          go_wp2_with fail
          refine (HPC.out _).mono ?_
          rintro e w3 ⟨rfl, q2, rfl⟩
          rw [hper']
          go_wp2_with fail
          go_roundw
          case rel => exact ⟨k' + 1, _, by go_num, hlast, fun p h1 h2 => by
            by_cases e : p = k' + 1
            · rw [e]; exact HD.out
            · exact HA.out p h1 (by omega), rfl⟩
          case measure => simp [intOf]; omega
      · have hm : ((s.size : Int) % ((k' : Int) + 1) == 0) = false := by rw [HMI.out, beq_eq_false_iff_ne]; omega
        have HD : Hid (divP s (k' + 1) = false) := by show divP s (k' + 1) = false; simp [divP, hmod]
        clear hmod
        go_wp2_with fail
        go_roundw
        case rel => exact ⟨k' + 1, _, by go_num, hlast, fun p h1 h2 => by
          by_cases e : p = k' + 1
          · rw [e]; exact HD.out
          · exact HA.out p h1 (by omega), rfl⟩
        case measure => simp [intOf]; omega
    · have HE : Hid (k' + 1 = s.size) := by show k' + 1 = s.size; omega
      have hkI : ¬ (k' : Int) + 1 < s.size := by omega
      have HRT : Hid (IsRoot s s.size) := ⟨by omega, Nat.le_refl _, divP_all s, fun p h1 h2 => HA.out p h1 (by have := HE.out; omega)⟩
      go_wp2_with fail
      go_ret3
      exact ⟨s.size, HRT.out, ret_last s h0, below_drewN b1 _⟩

set_option maxHeartbeats 1000000 in
theorem rroot_none (k : Int) (s : ByteArray) (w : World) (hs : s.size ≤ 17592186044416) (h : chk k s ≠ 0 ∨ s.size = 0) :
    Calls Try.prog 28 #[.int .i64 k, .string s] w fun e w' => e = .returned (.tuple #[.string ⟨#[]⟩, .int .i64 0, .int .i64 (chk k s)]) ∧ Below w.heap.size w w' := by
  have HML : Hid (s.size ≤ maxLen) := by show s.size ≤ maxLen; unfold maxLen; omega
  by_cases hc : chk k s = 0
  · have HH : Hid (chk k s = 0) := hc
    have hz : s.size = 0 := by rcases h with h | h <;> omega
    have he : s.toList.isEmpty = true := by
      rw [ByteArray.toList_eq]
      have := len_eq s
      rw [hz] at this
      rw [List.eq_nil_of_length_eq_zero this]
      rfl
    clear hc h hz
    go_enter Try.func28, Try.ntmps28
    go_wp2_with fail
    refine (rcheck_any k s _ HML.out).mono ?_
    rintro e w1 ⟨rfl, b1⟩
    rw [HH.out]
    go_wp2_with fail
    go_ret3
    exact ⟨ret_three' HH.out.symm, b1⟩
  · have hg : (chk k s != 0) = true := by simpa using hc
    clear h hc
    go_enter Try.func28, Try.ntmps28
    go_wp2_with fail
    refine (rcheck_any k s _ HML.out).mono ?_
    rintro e w1 ⟨rfl, b1⟩
    go_wp2_with fail
    go_ret3
    exact ⟨rfl, b1⟩

end Go.Proofs.Ytocdifclkopbcaa
