/- Contracts of the document's Without. -/
import Derived.Test.YthjkfpgocidpeaaDoorDw
namespace Go.Proofs.YthjkfpgocidpeaaDoor
open Go.RowKit Go.Lib

theorem filter_take (xs : List Int) (m : Int) (c : Nat) (h : c < xs.length) : (xs.take (c + 1)).filter (fun x => decide (x ≠ m)) = (xs.take c).filter (fun x => decide (x ≠ m)) ++ if xs.getD c 0 ≠ m then [xs.getD c 0] else [] := by
  rw [List.take_add_one, List.filter_append]
  congr 1
  simp only [List.getElem?_eq_getElem h, Option.toList_some, List.getD_eq_getElem?_getD, Option.getD_some]
  by_cases hs : xs[c] = m <;> simp [hs]

set_option maxHeartbeats 4000000 in
set_option maxRecDepth 100000 in
theorem rwithout_any (N : Nat) (hN : Fits N) (i : Int) (w : World) :
    Calls Tryd.prog 12 #[setV N, .int .i64 i] w fun e w' => e = .returned (.tuple #[setV (withoutN N i), .int .i64 (oneE i)]) ∧ Below w.heap.size w w' := by
  have HA : Hid (ChAt w N ((w.alloc (.cells (cellsF (word N)) 25)).alloc (.cells (cellsF (fun _ => 0)) 25))) := ChAt.start w N
  by_cases hin : 0 ≤ i ∧ i < 512
  · obtain ⟨m, rfl⟩ : ∃ m : Nat, i = m := ⟨i.toNat, by omega⟩
    have hm0 : ¬ (m : Int) < 0 := by omega
    have hm5 : ¬ 512 ≤ (m : Int) := by omega
    obtain ⟨X, HX⟩ : ∃ X, Hid (withoutN N (m : Int) = X ∧ oneE (m : Int) = 0) := ⟨_, rfl, by unfold oneE; rw [if_pos hin]⟩
    have HO : Hid (ofN ((lst N 512).filter fun x => decide (x ≠ (m : Int))) = X ∧ ofE ((lst N 512).filter fun x => decide (x ≠ (m : Int))) = 0) := by
      show _ ∧ _
      have := without_lst hN m
      rw [← HX.out.1]
      unfold withoutN
      rw [if_pos hin, Int.toNat_natCast]
      exact this
    have hlen := lst_le N 512
    rw [HX.out.1, HX.out.2]
    clear hin
    unfold setV cellsF
    unfold cellsF at HA
    obtain ⟨i0, hi, hz0, hz1, hz2⟩ := info_parts Tryd.info_int
    go_enter Tryd.func12, Tryd.ntmps12
    go_wp2_with fail
    generalize hW : (w.alloc (.cells #[.int .u64 (word N 0 : Nat), .int .u64 (word N 1 : Nat), .int .u64 (word N 2 : Nat), .int .u64 (word N 3 : Nat), .int .u64 (word N 4 : Nat), .int .u64 (word N 5 : Nat), .int .u64 (word N 6 : Nat), .int .u64 (word N 7 : Nat)] 25)).alloc (.cells #[.int .u64 0, .int .u64 0, .int .u64 0, .int .u64 0, .int .u64 0, .int .u64 0, .int .u64 0, .int .u64 0] 25) = W
    have HB : Hid (ChAt w N W) := by
      show ChAt w N W
      rw [← hW]
      exact HA.out
    clear hW HA
    refine (rlist_any N _).mono ?_
    rintro e w1 ⟨v, rfl, hown, hb1⟩
    have HRd : Hid (Reads w1 v (lst N 512)) := own_reads hown
    have HC1 : Hid (ChAt w N w1) := HB.out.keep hb1
    obtain ⟨xs, hxs⟩ : ∃ xs, lst N 512 = xs := ⟨_, rfl⟩
    rw [hxs] at HRd hlen HO
    obtain ⟨aa, ca, hva, hrd⟩ := HRd.out
    subst hva
    have HRD : Hid _ := hrd
    clear hrd HRd hxs hown hb1 HB
    go_wp2_with fail
    go_loopw [6, 8] (fun vl vk wr => ∃ k : Nat, k ≤ xs.length ∧ vk = .int .i64 k ∧ wr.ownsRow w1.heap.size 3 1 vl ((xs.take k).filter fun x => decide (x ≠ (m : Int))).length (zC ((xs.take k).filter fun x => decide (x ≠ (m : Int)))) ∧ Below w1.heap.size w1 wr) (fun _ vk _ => xs.length - (intOf vk).toNat)
    case atStart => exact ⟨0, Nat.zero_le _, rfl, by show World.ownsRow _ _ _ _ _ 0 []; exact World.ownsRow_nil _ _ _ _, Below.refl _ _⟩
    case round =>
      obtain ⟨k, hk, rfl, hown, hb⟩ := hrel
      obtain ⟨a, cap, rfl⟩ := own_shape hown
      by_cases hlt : k < xs.length
      · have hkI : (k : Int) < xs.length := by omega
        obtain ⟨g, o, rfl, hg, hcell⟩ := HRD.out k hlt
        have hcell2 : wr.cell? ⟨g, o + k, none⟩ = some (.int .i64 (xs.getD k 0)) := by rw [below_cell hb hg]; exact hcell
        have hft := filter_take xs m k hlt
        have hfl : ((xs.take k).filter fun x => decide (x ≠ (m : Int))).length ≤ 512 := Nat.le_trans (List.length_filter_le _ _) (by rw [List.length_take]; omega)
        obtain ⟨x, hx⟩ : ∃ x, xs.getD k 0 = x := ⟨_, rfl⟩
        rw [hx] at hcell2 hft
        clear hx hcell
        have HF : Hid _ := hft
        clear hft
        obtain ⟨L, hL⟩ : ∃ L, (xs.take k).filter (fun x => decide (x ≠ (m : Int))) = L := ⟨_, rfl⟩
        rw [hL] at hown hfl HF
        rw [hL]
        clear hL
        by_cases hxm : x = m
        · subst hxm
          go_wp2_with fail
          go_roundw
          case rel => exact ⟨k + 1, by omega, by go_num, by rw [HF.out, if_neg (by simp), List.append_nil]; exact hown, hb⟩
          case measure => simp [intOf]; omega
        · have hne : (x != (m : Int)) = true := by simpa using hxm
          go_wp2_with (at_builtin; refine wpList_append_own _ rfl _ _ 22 rfl w1.heap.size 3 i0 (.int .i64 0) 1 8 Tryd.underlying22 hi hz0 hz1 hz2 rfl (by decide) _ _ _ rfl (hown.alloc _) ⟨wr.heap.size, 0, none⟩ 1 1 [.int .i64 x] rfl rfl ?c1 ?c2 ?c3 ?c4 ?c5 ?_)
          case c1 => exact cell_one_new _ _ _
          case c2 => intro u hu; simp at hu; subst hu; rfl
          case c3 => unfold maxLen; omega
          case c4 => omega
          case c5 => have := hb.size; simp; omega
          intro v' w4 hown' hgrow _
          have R : w4.ownsRow w1.heap.size 3 1 v' (L ++ [x]).length (zC (L ++ [x])) := by
            rw [zC_append, List.length_append]
            exact hown'
          have hb4 : Below w1.heap.size w1 w4 := (hb.alloc hb.size _).grown hgrow (by have := hb.size; simp; omega) (fun g hg => (hown.lt g hg).1)
          have HR4 : Hid _ := R
          have HB4 : Hid _ := hb4
          clear hown' hgrow hown R hb4 hb
          go_wp2_with fail
          go_roundw
          case rel => exact ⟨k + 1, by omega, by go_num, by rw [HF.out, if_pos hxm]; exact HR4.out, HB4.out⟩
          case measure => simp [intOf]; omega
      · have hkI : ¬ (k : Int) < xs.length := by omega
        obtain rfl : k = xs.length := by omega
        have hfl : ((xs.take xs.length).filter fun x => decide (x ≠ (m : Int))).length ≤ 512 := Nat.le_trans (List.length_filter_le _ _) (by rw [List.length_take]; omega)
        rw [List.take_length] at hown hfl
        rw [List.take_length]
        obtain ⟨L, hL⟩ : ∃ L, xs.filter (fun x => decide (x ≠ (m : Int))) = L := ⟨_, rfl⟩
        rw [hL] at hown hfl HO
        rw [hL]
        clear hL
        have HR : Hid (Reads wr (.slice a L.length cap) L) := own_reads hown
        have HC : Hid (ChAt w N wr) := HC1.out.keep hb
        have HFL : Hid (L.length ≤ 512) := hfl
        clear hown hb hfl hlt HRD
        go_wp2_with fail
        refine (rof_any _ L _ HR.out (by have := HFL.out; omega)).mono ?_
        rintro e w5 ⟨rfl, hb5⟩
        rw [HO.out.1, HO.out.2]
        unfold setV cellsF
        have HD : Hid (ChAt w N w5) := HC.out.keep hb5
        clear hb5
        obtain ⟨d0, d1, d2, d3, d4, d5, d6, d7⟩ := HD.out.res.gets
        have f0 := HD.out.res.frozen 0
        have f1 := HD.out.res.frozen 1
        have f2 := HD.out.res.frozen 2
        have f3 := HD.out.res.frozen 3
        have f4 := HD.out.res.frozen 4
        have f5 := HD.out.res.frozen 5
        have f6 := HD.out.res.frozen 6
        have f7 := HD.out.res.frozen 7
        go_wp2_with fail
        obtain ⟨h8, hB⟩ := st8 HD.out.res HD.out.below (show w.heap.size ≤ w.heap.size + 1 by omega) (word X) rfl rfl rfl rfl rfl rfl rfl rfl
        refine bodyPost_ret (results_set_tmp rfl rfl h8) rfl ⟨rfl, hB⟩
  · have HX : Hid (withoutN N i = 0 ∧ oneE i = 11) := by
      show _ ∧ _
      unfold withoutN oneE
      rw [if_neg hin, if_neg hin]
      exact ⟨rfl, rfl⟩
    have hor : i < 0 ∨ (¬ i < 0 ∧ 512 ≤ i) := by omega
    clear hin
    rw [HX.out.1, HX.out.2]
    unfold setV cellsF
    unfold cellsF at HA
    rcases hor with h1 | ⟨h0, h1⟩
    · go_enter Tryd.func12, Tryd.ntmps12
      go_wp2_with fail
      refine bodyPost_ret (results_set_tmp rfl rfl (f := fun _ => 0) HA.out.res) rfl ⟨?_, HA.out.below⟩
      exact ret_set (fun k _ => by simp [word])
    · go_enter Tryd.func12, Tryd.ntmps12
      go_wp2_with fail
      refine bodyPost_ret (results_set_tmp rfl rfl (f := fun _ => 0) HA.out.res) rfl ⟨?_, HA.out.below⟩
      exact ret_set (fun k _ => by simp [word])

end Go.Proofs.YthjkfpgocidpeaaDoor
