/- Contract of the document's Rename. -/
import Derived.Test.YtchaggigabccaaaDoorQa
namespace Go.Proofs.YtchaggigabccaaaDoor
open Go Go.RowKit

theorem map_next (s : ByteArray) (ts : List Nd) (i : Nat) (h : i < ts.length) : (ts.take (i + 1)).map (ren s) = (ts.take i).map (ren s) ++ [ren s (ts.getD i (0, 0))] := by
  rw [List.take_add_one, List.getElem?_eq_getElem h, List.map_append]
  simp [List.getD_eq_getElem?_getD, List.getElem?_eq_getElem h]

set_option maxHeartbeats 8000000 in
set_option maxRecDepth 100000 in
theorem rrename_any (v : Value) (ts : List Nd) (s : ByteArray) (w : World) (hv : NReads w v ts) (hm : ts.length ≤ 9223372036854775806) :
    Calls Tryd.prog 32 #[v, .string s] w fun e w' => ∃ u, e = .returned (.tuple #[u, .int .i64 (renE s ts)]) ∧ w'.ownsRow w.heap.size 36 2 u (renT s ts).length (ndC (renT s ts)) ∧ Below w.heap.size w w' := by
  have HV : Hid (NReads w v ts) := hv
  by_cases hbad : wrong ts = 0
  · have HX : Hid (wrong ts = 0) := hbad
    obtain ⟨h4, hf⟩ := wrong_len hbad
    have hn1 := free_pos hf
    have HF : Hid (freeN ts = some 1) := hf
    obtain ⟨av, cv, rfl, hrd⟩ := hv
    have HRD : Hid (∀ i, i < ts.length → ∃ g o, av = some ⟨g, o, none⟩ ∧ g < w.heap.size ∧ w.cell? ⟨g, o + i * 2, none⟩ = some (.int .i64 (ts.getD i (0, 0)).1) ∧ w.cell? ⟨g, o + i * 2 + 1, none⟩ = some (.int .u8 (ts.getD i (0, 0)).2)) := hrd
    obtain ⟨i0, hi0, hz0, hz1, hz2⟩ := info_parts Tryd.info_node
    clear hrd hbad hf
    by_cases h8 : s.size = 8
    · have h8b : ((s.size : Int) != 8) = false := by rw [h8]; rfl
      go_enter Tryd.func32, Tryd.ntmps32
      go_wp2_with fail
      refine (rwrong_any _ ts _ HV.out hm).mono ?_
      rintro e w1 ⟨rfl, hb1⟩
      rw [HX.out]
      have HB1 : Hid (Below w.heap.size w w1) := hb1
      clear hb1
      go_wp2_with fail
      clear h8b
      go_loopw [7] (fun vi wr => ∃ i : Nat, i ≤ s.size ∧ vi = .int .i64 i ∧ (∀ j, j < i → isLet (bAt s j) = true) ∧ Below w.heap.size w wr) (fun vi _ => s.size - (intOf vi).toNat)
      case atStart => exact ⟨0, Nat.zero_le _, rfl, fun j hj => by omega, HB1.out⟩
      case round =>
        clear HB1
        obtain ⟨i, hi, rfl, hall, hb⟩ := hrel
        have HALL : Hid (∀ j, j < i → isLet (bAt s j) = true) := hall
        have HB : Hid (Below w.heap.size w wr) := hb
        clear hall hb
        by_cases hlt : i < s.size
        · have hiI : (i : Int) < s.size := by omega
          have hbt := bAt_get s i hlt
          have hbl := bAt_le s i
          obtain ⟨b, hbe⟩ : ∃ b, bAt s i = b := ⟨_, rfl⟩
          rw [hbe] at hbt hbl
          have hbt2 : (s[i].toNat : Int) = b := hbt.symm
          have HBE : Hid (bAt s i = b) := hbe
          have bad : isLet b = false → Hid (renE s ts = 21) := fun hl => by
            show _ = _
            unfold renE
            rw [if_neg (by simpa using HX.out), if_neg (by simpa using h8), lets_no hlt (by rw [HBE.out]; exact hl)]
            rfl
          have HBAD : Hid (isLet b = false → Hid (renE s ts = 21)) := bad
          clear hbt hbe bad
          by_cases hb1 : b < 97
          · have HE : Hid (renE s ts = 21) := HBAD.out (by simp [isLet]; omega)
            go_wp2_with fail
            go_ret2
            exact ⟨_, by rw [HE.out]; rfl, by rw [renT_no HE.out (by decide)]; exact World.ownsRow_nil _ _ _ _, HB.out⟩
          · by_cases hb2 : 104 < b
            · have HE : Hid (renE s ts = 21) := HBAD.out (by simp [isLet]; omega)
              go_wp2_with fail
              go_ret2
              exact ⟨_, by rw [HE.out]; rfl, by rw [renT_no HE.out (by decide)]; exact World.ownsRow_nil _ _ _ _, HB.out⟩
            · have HL : Hid (isLet (bAt s i) = true) := by show _ = _; rw [HBE.out]; simp [isLet]; omega
              go_wp2_with fail
              go_roundw
              case rel =>
                refine ⟨i + 1, by omega, by go_num, fun j hj => ?_, HB.out⟩
                by_cases hji : j < i
                · exact HALL.out j hji
                · obtain rfl : j = i := by omega
                  exact HL.out
              case measure => simp [intOf]; omega
        · have hiI : ¬ (i : Int) < s.size := by omega
          obtain rfl : i = s.size := by omega
          have HE : Hid (renE s ts = 0) := by
            show _ = _
            unfold renE
            rw [if_neg (by simpa using HX.out), if_neg (by simpa using h8), lets_all HALL.out]
            rfl
          have HLT : Hid (∀ i, i < ts.length → good (ts.getD i (0, 0)) = true) := fun i hi => by
            obtain ⟨_, _, h, _⟩ := free_good HF.out hi
            exact h
          go_wp2_with fail
          rename World => wo
          go_loopw [8, 9] (fun vo vi wr => ∃ i : Nat, i ≤ ts.length ∧ vi = .int .i64 i ∧ wr.ownsRow w.heap.size 36 2 vo i (ndC ((ts.take i).map (ren s))) ∧ Below w.heap.size w wr) (fun _ vi _ => ts.length - (intOf vi).toNat)
          case atStart => exact ⟨0, Nat.zero_le _, rfl, World.ownsRow_nil _ _ _ _, HB.out⟩
          case round =>
            clear HB
            obtain ⟨i, hi, rfl, ho, hb⟩ := hrel
            obtain ⟨oa, oc, rfl⟩ := own_shape ho
            obtain ⟨X, hX⟩ : ∃ X, (ts.take i).map (ren s) = X := ⟨_, rfl⟩
            rw [hX] at ho
            have HXX : Hid ((ts.take i).map (ren s) = X) := hX
            have HO : Hid (wr.ownsRow w.heap.size 36 2 (.slice oa i oc) i (ndC X)) := ho
            clear hX
            have HB : Hid (Below w.heap.size w wr) := hb
            have hws := hb.size
            clear ho hb
            by_cases hlt : i < ts.length
            · have hiI : (i : Int) < ts.length := by omega
              obtain ⟨g, o, rfl, hgl, hc1, hc2⟩ := HRD.out i hlt
              have hgood := HLT.out i hlt
              have hnext := map_next s ts i hlt
              rw [HXX.out] at hnext
              obtain ⟨⟨k, sg⟩, hks⟩ : ∃ n, ts.getD i (0, 0) = n := ⟨_, rfl⟩
              rw [hks] at hc1 hc2 hgood hnext
              simp only at hc1 hc2
              have c1 : wr.cell? ⟨g, o + i * 2, none⟩ = some (.int .i64 k) := by rw [below_cell HB.out hgl]; exact hc1
              have c2 : wr.cell? ⟨g, o + i * 2 + 1, none⟩ = some (.int .u8 sg) := by rw [below_cell HB.out hgl]; exact hc2
              clear hc1 hc2 hks
              by_cases h3 : k = 3
              · subst h3
                have hq : ∃ q : Nat, sg = 97 + (q : Int) ∧ q < 8 := by
                  simp only [good, if_true, isLet, decide_eq_true_eq] at hgood
                  exact ⟨(sg - 97).toNat, by omega, by omega⟩
                obtain ⟨q, rfl, hq8⟩ := hq
                have hqs : (q : Int) < s.size := by omega
                have hbq := bAt_get s q (by omega)
                have HREN : Hid ((ts.take (i + 1)).map (ren s) = X ++ [(3, bAt s q)]) := by
                  show _ = _
                  rw [hnext]
                  congr 2
                  simp only [ren, if_true]
                  congr 2
                  omega
                clear hgood hnext
                rw [hbq] at HREN
                clear hbq
                go_wp2_with (at_builtin; refine wpList_append_own _ rfl _ _ 22 rfl w.heap.size 36 i0 (.agg #[.int .i64 0, .int .u8 0]) 2 16 Tryd.underlying22 hi0 hz0 hz1 hz2 rfl (by decide) _ _ _ rfl ((HO.out.alloc _).alloc _) ⟨wr.heap.size + 1, 0, none⟩ 1 1 [.int .i64 3, .int .u8 (s[q].toNat : Int)] rfl rfl ?f1 ?f2 ?f3 ?f4 ?f5 ?_)
                case f1 => have := cell_two_new (wr.alloc (.cells #[.int .i64 3, .int .u8 (s[q].toNat : Int)] 36)) (.int .i64 3) (.int .u8 (s[q].toNat : Int)) 36; simpa using this
                case f2 => first | exact ⟨rfl, rfl⟩ | (intro u hu; simp at hu; rcases hu with rfl | rfl <;> rfl)
                case f3 => unfold maxLen; omega
                case f4 => omega
                case f5 => simp; omega
                intro v5 w5 ho5 hg5 _
                have HO5 : Hid (w5.ownsRow w.heap.size 36 2 v5 (i + 1) (ndC ((ts.take (i + 1)).map (ren s)))) := by
                  show World.ownsRow _ _ _ _ _ _ _
                  rw [HREN.out, ndC_append]
                  exact ho5
                have HB5 : Hid (Below w.heap.size w w5) := ((HB.out.alloc HB.out.size _).alloc (by simp; omega) _).grown hg5 (by simp; omega) (fun k' hk' => (HO.out.lt _ hk').1)
                clear ho5 hg5
                go_wp2_with fail
                go_roundw
                case rel => exact ⟨i + 1, by omega, by go_num, HO5.out, HB5.out⟩
                case measure => simp [intOf]; omega
              · have h3b : (k == 3) = false := by rw [beq_eq_false_iff_ne]; exact h3
                have HREN : Hid ((ts.take (i + 1)).map (ren s) = X ++ [(k, sg)]) := by
                  show _ = _
                  rw [hnext]
                  simp only [ren, if_neg h3]
                clear hgood hnext h3
                go_wp2_with (at_builtin; refine wpList_append_own _ rfl _ _ 22 rfl w.heap.size 36 i0 (.agg #[.int .i64 0, .int .u8 0]) 2 16 Tryd.underlying22 hi0 hz0 hz1 hz2 rfl (by decide) _ _ _ rfl ((HO.out.alloc _).alloc _) ⟨wr.heap.size + 1, 0, none⟩ 1 1 [.int .i64 k, .int .u8 sg] rfl rfl ?f1 ?f2 ?f3 ?f4 ?f5 ?_)
                case f1 => have := cell_two_new (wr.alloc (.cells #[.int .i64 k, .int .u8 sg] 36)) (.int .i64 k) (.int .u8 sg) 36; simpa using this
                case f2 => first | exact ⟨rfl, rfl⟩ | (intro u hu; simp at hu; rcases hu with rfl | rfl <;> rfl)
                case f3 => unfold maxLen; omega
                case f4 => omega
                case f5 => simp; omega
                intro v5 w5 ho5 hg5 _
                have HO5 : Hid (w5.ownsRow w.heap.size 36 2 v5 (i + 1) (ndC ((ts.take (i + 1)).map (ren s)))) := by
                  show World.ownsRow _ _ _ _ _ _ _
                  rw [HREN.out, ndC_append]
                  exact ho5
                have HB5 : Hid (Below w.heap.size w w5) := ((HB.out.alloc HB.out.size _).alloc (by simp; omega) _).grown hg5 (by simp; omega) (fun k' hk' => (HO.out.lt _ hk').1)
                clear ho5 hg5
                go_wp2_with fail
                go_roundw
                case rel => exact ⟨i + 1, by omega, by go_num, HO5.out, HB5.out⟩
                case measure => simp [intOf]; omega
            · have hiI : ¬ (i : Int) < ts.length := by omega
              obtain rfl : i = ts.length := by omega
              go_wp2_with fail
              go_ret2
              refine ⟨_, by rw [HE.out]; rfl, ?_, HB.out⟩
              have ho := HO.out
              rw [← HXX.out, List.take_length] at ho
              rw [renT, if_pos HE.out, List.length_map]
              exact ho
    · have h8b : ((s.size : Int) != 8) = true := by simp; omega
      have HE : Hid (renE s ts = 1) := by
        show _ = _
        unfold renE
        rw [if_neg (by simpa using HX.out), if_pos h8]
      clear h8
      go_enter Tryd.func32, Tryd.ntmps32
      go_wp2_with fail
      refine (rwrong_any _ ts _ HV.out hm).mono ?_
      rintro e w1 ⟨rfl, hb1⟩
      rw [HX.out]
      have HB1 : Hid (Below w.heap.size w w1) := hb1
      clear hb1
      go_wp2_with fail
      go_ret2
      exact ⟨_, by rw [HE.out]; rfl, by rw [renT_no HE.out (by decide)]; exact World.ownsRow_nil _ _ _ _, HB1.out⟩
  · obtain ⟨x, hx⟩ : ∃ x, wrong ts = x := ⟨_, rfl⟩
    have HE : Hid (renE s ts = x) := by
      show _ = _
      unfold renE
      rw [if_pos hbad, hx]
    rw [hx] at hbad
    have hxb : (x != 0) = true := by simpa using hbad
    have HX : Hid (wrong ts = x ∧ x ≠ 0) := ⟨hx, hbad⟩
    clear hx hbad hv
    go_enter Tryd.func32, Tryd.ntmps32
    go_wp2_with fail
    refine (rwrong_any _ ts _ HV.out hm).mono ?_
    rintro e w1 ⟨rfl, hb1⟩
    rw [HX.out.1]
    have HB1 : Hid (Below w.heap.size w w1) := hb1
    clear hb1
    go_wp2_with fail
    go_ret2
    exact ⟨_, by rw [HE.out]; rfl, by rw [renT_no HE.out HX.out.2]; exact World.ownsRow_nil _ _ _ _, HB1.out⟩
end Go.Proofs.YtchaggigabccaaaDoor
