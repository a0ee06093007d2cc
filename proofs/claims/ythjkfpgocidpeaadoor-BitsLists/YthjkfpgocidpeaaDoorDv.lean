/- Contracts of the document's With and Without. -/
import Derived.Test.YthjkfpgocidpeaaDoorDw
namespace Go.Proofs.YthjkfpgocidpeaaDoor
open Go.RowKit Go.Lib

set_option maxHeartbeats 2000000 in
set_option maxRecDepth 100000 in
theorem rwith_any (N : Nat) (hN : Fits N) (i : Int) (w : World) :
    Calls Tryd.prog 10 #[setV N, .int .i64 i] w fun e w' => e = .returned (.tuple #[setV (withN N i), .int .i64 (oneE i)]) ∧ Below w.heap.size w w' := by
  have HA : Hid (ChAt w N ((w.alloc (.cells (cellsF (word N)) 25)).alloc (.cells (cellsF (fun _ => 0)) 25))) := ChAt.start w N
  obtain ⟨X, E, HX⟩ : ∃ X E, Hid (withN N i = X ∧ oneE i = E) := ⟨_, _, rfl, rfl⟩
  have HO : Hid (ofN (lst N 512 ++ [i]) = X ∧ ofE (lst N 512 ++ [i]) = E) := by
    show _ ∧ _
    rw [← HX.out.1, ← HX.out.2]
    exact with_lst hN i
  have hlen := lst_le N 512
  rw [HX.out.1, HX.out.2]
  unfold setV cellsF
  unfold cellsF at HA
  obtain ⟨i0, hi, hz0, hz1, hz2⟩ := info_parts Tryd.info_int
  go_enter Tryd.func10, Tryd.ntmps10
  go_wp2_with fail
  generalize hW : (w.alloc (.cells #[.int .u64 (word N 0 : Nat), .int .u64 (word N 1 : Nat), .int .u64 (word N 2 : Nat), .int .u64 (word N 3 : Nat), .int .u64 (word N 4 : Nat), .int .u64 (word N 5 : Nat), .int .u64 (word N 6 : Nat), .int .u64 (word N 7 : Nat)] 25)).alloc (.cells #[.int .u64 0, .int .u64 0, .int .u64 0, .int .u64 0, .int .u64 0, .int .u64 0, .int .u64 0, .int .u64 0] 25) = W
  have HB : Hid (ChAt w N W) := by
    show ChAt w N W
    rw [← hW]
    exact HA.out
  clear hW HA
  refine (rlist_any N _).mono ?_
  rintro e w1 ⟨v, rfl, hown, hb1⟩
  go_wp2_with (at_builtin; refine wpList_append_own _ rfl _ _ 22 rfl W.heap.size 3 i0 (.int .i64 0) 1 8 Tryd.underlying22 hi hz0 hz1 hz2 rfl (by decide) _ _ _ rfl (hown.alloc _) ⟨w1.heap.size, 0, none⟩ 1 1 [.int .i64 i] rfl rfl ?c1 ?c2 ?c3 ?c4 ?c5 ?_)
  case c1 => exact cell_one_new _ _ _
  case c2 => intro u hu; simp at hu; subst hu; rfl
  case c3 => unfold maxLen; omega
  case c4 => omega
  case c5 => have := hb1.size; simp; omega
  intro v' w4 hown' hgrow _
  have hb4 : Below W.heap.size W w4 := (hb1.alloc hb1.size _).grown hgrow (by have := hb1.size; simp; omega) (fun g hg => (hown.lt g hg).1)
  have HR : Hid (Reads w4 v' (lst N 512 ++ [i])) := own_reads (base := W.heap.size) (by rw [zC_append, List.length_append]; exact hown')
  have HC : Hid (ChAt w N w4) := HB.out.keep hb4
  clear hown' hgrow hown hb1 hb4
  go_wp2_with fail
  refine (rof_any v' _ _ HR.out (by simp; omega)).mono ?_
  rintro e w5 ⟨rfl, hb5⟩
  rw [HO.out.1, HO.out.2]
  unfold setV cellsF
  have HD : Hid (ChAt w N w5) := HC.out.keep hb5
  clear hb5
  obtain ⟨d0, d1, d2, d3, d4, d5, d6, d7⟩ := HD.out.res.gets
  have f0 := HD.out.res.frozen 0
  have f1 := HD.out.res.frozen 1
  have f2 := HD.out.res.frozen 2
  have f3 := HD.out.res.frozen 3
  have f4 := HD.out.res.frozen 4
  have f5 := HD.out.res.frozen 5
  have f6 := HD.out.res.frozen 6
  have f7 := HD.out.res.frozen 7
  go_wp2_with fail
  obtain ⟨h8, hB⟩ := st8 HD.out.res HD.out.below (show w.heap.size ≤ w.heap.size + 1 by omega) (word X) rfl rfl rfl rfl rfl rfl rfl rfl
  refine bodyPost_ret (results_set_tmp rfl rfl h8) rfl ⟨rfl, hB⟩

end Go.Proofs.YthjkfpgocidpeaaDoor
