/- BitsBack where n is neither 0 nor the least int. -/
import Derived.Test.YtghchlppdhfoeabMb
import Derived.Test.YtghchlppdhfoeabBe
import Derived.Deep.DeepCutAuto
namespace Go.Proofs.Ytghchlppdhfoeab
open Go.RowKit
set_option linter.unusedVariables false

set_option maxHeartbeats 16000000 in
set_option maxRecDepth 100000 in
theorem back_any (N : Nat) (n m : Int) (hN : Fits N) (hn3 : -9223372036854775807 ≤ n) (hn2 : n ≤ 9223372036854775807) (hm1 : -9223372036854775808 ≤ m) (hm2 : m ≤ 9223372036854775807) (hz : ¬ n = 0) (w : World) :
    Calls Try.prog 3 #[setV N, .int .i64 n, .int .i64 m] w fun e w' => e = .returned (.bool true) ∧ Below w.heap.size w w' := by
  obtain ⟨T, HT⟩ : ∃ T, Hid (shiftN N n = T) := ⟨_, rfl⟩
  have hTf : Fits T := by rw [← HT.out]; exact fits_shift hN _
  have r0 := RowAt.last w (cellsF (word N)) 24
  have BB := (Below.refl w.heap.size w).alloc (Nat.le_refl _) (.cells (cellsF (word N)) 24)
  unfold setV cellsF
  unfold cellsF at r0 BB
  obtain ⟨K, HK⟩ : ∃ K, Hid (shiftN T (-n) = K) := ⟨_, rfl⟩
  have hKf : Fits K := by rw [← HK.out]; exact fits_shift hTf _
  obtain ⟨c, HCt⟩ : ∃ c, Hid (cnt 512 T = c) := ⟨_, rfl⟩
  have HSz : Hid (cnt 512 K = c) := by show _ = _; rw [← HCt.out, ← HK.out, ← HT.out]; exact shift_size hN n
  have HSub : Hid (subN K N = true) := by show _ = _; rw [← HK.out, ← HT.out]; exact shift_sub hN n
  obtain ⟨X, HX⟩ : ∃ X, Hid (shiftN T m = X) := ⟨_, rfl⟩
  have hXX := eq_same (word X)
  unfold cellsF at hXX
  obtain ⟨sm, hsm⟩ : ∃ sm, wrap64 (n + m) = sm := ⟨_, rfl⟩
  have HSM : Hid (sm = n + m ∨ sm = n + m - 18446744073709551616 ∨ sm = n + m + 18446744073709551616) := by
    show _ ∨ _
    rw [← hsm]
    unfold wrap64
    omega
  have HSM2 : Hid (-9223372036854775808 ≤ sm ∧ sm ≤ 9223372036854775807) := by
    show _ ∧ _
    rw [← hsm]
    unfold wrap64
    omega
  have hsm' : IntKind.i64.wrap (n + m) = sm := by rw [IntWalk.i64_left]; exact hsm
  have hneg : (n == -n) = false := by rw [beq_eq_false_iff_ne]; omega
  go_enter Try.func3, Try.ntmps3
  go_wp2_with (first
    | (go_at_call_of 5 (Value.int IntKind.u64 ((word N 0 : Nat) : Int)); refine (shift_any N hN _ _).mono ?_; rintro e w1 ⟨rfl, hb1⟩; rw [HT.out]; unfold setV cellsF; have rs := RowAt.stay r0 hb1; have cs := RowAt.cell rs; have ds := RowAt.cellA rs; have BB := go_on BB hb1)
    | (go_at_call_of 5 (Value.int IntKind.u64 ((word T 0 : Nat) : Int)); refine (shift_any T hTf _ _).mono ?_; rintro e w2 ⟨rfl, hb2⟩; rw [HK.out]; unfold setV cellsF; have rs := RowAt.step rs hb2; have cs := RowAt.cell rs; have ds := RowAt.cellA rs; have rt := RowAt.new hb2; have ct := RowAt.cell rt; have dt := RowAt.cellA rt; have BB := go_new BB hb2))
  generalize hWd : w2.alloc (.cells #[.int .u64 (word K 0 : Nat), .int .u64 (word K 1 : Nat), .int .u64 (word K 2 : Nat), .int .u64 (word K 3 : Nat), .int .u64 (word K 4 : Nat), .int .u64 (word K 5 : Nat), .int .u64 (word K 6 : Nat), .int .u64 (word K 7 : Nat)] 24) = W
  have rk : RowAt W w2.heap.size #[.int .u64 (word K 0 : Nat), .int .u64 (word K 1 : Nat), .int .u64 (word K 2 : Nat), .int .u64 (word K 3 : Nat), .int .u64 (word K 4 : Nat), .int .u64 (word K 5 : Nat), .int .u64 (word K 6 : Nat), .int .u64 (word K 7 : Nat)] := by rw [← hWd]; exact RowAt.last _ _ _
  have rs : RowAt W w.heap.size #[.int .u64 (word N 0 : Nat), .int .u64 (word N 1 : Nat), .int .u64 (word N 2 : Nat), .int .u64 (word N 3 : Nat), .int .u64 (word N 4 : Nat), .int .u64 (word N 5 : Nat), .int .u64 (word N 6 : Nat), .int .u64 (word N 7 : Nat)] := by rw [← hWd]; exact rs.alloc _
  have rt : RowAt W w1.heap.size #[.int .u64 (word T 0 : Nat), .int .u64 (word T 1 : Nat), .int .u64 (word T 2 : Nat), .int .u64 (word T 3 : Nat), .int .u64 (word T 4 : Nat), .int .u64 (word T 5 : Nat), .int .u64 (word T 6 : Nat), .int .u64 (word T 7 : Nat)] := by rw [← hWd]; exact rt.alloc _
  have BB : Below w.heap.size w W := by rw [← hWd]; exact BB.alloc BB.size _
  clear hWd hb1 hb2 cs ds ct dt
  have rk := row_drew rk
  have rs := row_drew rs
  have rt := row_drew rt
  have BB := BB.drew
  have ck := RowAt.cell rk; have cs := RowAt.cell rs; have ct := RowAt.cell rt
  go_cut [40] (fun s40 wx => s40 = .bool false ∧ RowAt wx w.heap.size #[.int .u64 (word N 0 : Nat), .int .u64 (word N 1 : Nat), .int .u64 (word N 2 : Nat), .int .u64 (word N 3 : Nat), .int .u64 (word N 4 : Nat), .int .u64 (word N 5 : Nat), .int .u64 (word N 6 : Nat), .int .u64 (word N 7 : Nat)] ∧ RowAt wx w1.heap.size #[.int .u64 (word T 0 : Nat), .int .u64 (word T 1 : Nat), .int .u64 (word T 2 : Nat), .int .u64 (word T 3 : Nat), .int .u64 (word T 4 : Nat), .int .u64 (word T 5 : Nat), .int .u64 (word T 6 : Nat), .int .u64 (word T 7 : Nat)] ∧ Below w.heap.size w wx)
  case first =>
    go_region_with (first
      | (go_at_call_of 7 (Value.int IntKind.u64 ((word K 0 : Nat) : Int)); refine (size_any K _).mono ?_; rintro e w3 ⟨rfl, hb3⟩; rw [HSz.out]; have rs := RowAt.stay rs hb3; have cs := RowAt.cell rs; have ds := RowAt.cellA rs; have rt := RowAt.stay rt hb3; have ct := RowAt.cell rt; have dt := RowAt.cellA rt; have rk := RowAt.stay rk hb3; have ck := RowAt.cell rk; have dk := RowAt.cellA rk; have BB := go_on BB hb3)
      | (go_at_call_of 7 (Value.int IntKind.u64 ((word T 0 : Nat) : Int)); refine (size_any T _).mono ?_; rintro e w4 ⟨rfl, hb4⟩; rw [HCt.out]; have rs := RowAt.stay rs hb4; have cs := RowAt.cell rs; have ds := RowAt.cellA rs; have rt := RowAt.stay rt hb4; have ct := RowAt.cell rt; have dt := RowAt.cellA rt; have rk := RowAt.stay rk hb4; have ck := RowAt.cell rk; have dk := RowAt.cellA rk; have BB := go_on BB hb4)
      | (go_at_call 8; refine (subset_any K N hKf hN _).mono ?_; rintro e w5 ⟨rfl, hb5⟩; rw [HSub.out]; have rs := RowAt.stay rs hb5; have cs := RowAt.cell rs; have ds := RowAt.cellA rs; have rt := RowAt.stay rt hb5; have ct := RowAt.cell rt; have dt := RowAt.cellA rt; have rk := RowAt.stay rk hb5; have ck := RowAt.cell rk; have dk := RowAt.cellA rk; have BB := go_on BB hb5))
    all_goals (go_wp2_with fail; go_meet; exact ⟨rfl, rs, rt, BB⟩)
  case rest =>
    obtain ⟨rfl, rs, rt, BB⟩ := hcut
    have cs := RowAt.cell rs; have ct := RowAt.cell rt
    have rs0 := row_drew rs
    have rt0 := row_drew rt
    have BB0 := BB.drew
    have cs0 := RowAt.cell rs0; have ct0 := RowAt.cell rt0
    go_wp2_with (go_at_call 6; refine (live_any _).mono ?_; rintro e wl ⟨rfl, hbl⟩; have BB := go_on BB hbl)
    all_goals first
      | (go_ret; exact ⟨rfl, BB⟩)
      | (have rs := rs0; have rt := rt0; have BB := BB0
         go_region_with (first
           | (go_at_call_of 5 (Value.int IntKind.u64 ((word T 0 : Nat) : Int)); refine (shift_any T hTf m _).mono ?_; rintro e w6 ⟨rfl, hb6⟩; rw [HX.out]; unfold setV cellsF; have rs := RowAt.stay rs hb6; have cs := RowAt.cell rs; have ds := RowAt.cellA rs; have rt := RowAt.stay rt hb6; have ct := RowAt.cell rt; have dt := RowAt.cellA rt; have BB := go_on BB hb6)
           | (go_at_call_of 5 (Value.int IntKind.u64 ((word N 0 : Nat) : Int)); refine (shift_any N hN _ _).mono ?_; rintro e w7 ⟨rfl, hb7⟩; (first | rw [show shiftN N sm = X by (have h1 := HSM.out; have h2 := HSM2.out; rw [show sm = n + m by omega, ← HX.out, ← HT.out]; exact (shift_shift hN n m (by omega)).symm)] | rw [show shiftN N (n + m) = X by (have h1 := HSM.out; have h2 := HSM2.out; rw [show (n + m) = n + m by omega, ← HX.out, ← HT.out]; exact (shift_shift hN n m (by omega)).symm)]); unfold setV cellsF; have rs := RowAt.stay rs hb7; have cs := RowAt.cell rs; have ds := RowAt.cellA rs; have rt := RowAt.stay rt hb7; have ct := RowAt.cell rt; have dt := RowAt.cellA rt; have BB := go_on BB hb7)
           | (go_at_call 6; refine (live_any _).mono ?_; rintro e wl ⟨rfl, hbl⟩; have BB := go_on BB hbl))
         all_goals (go_wp2_with fail; go_ret; exact ⟨rfl, BB⟩))

end Go.Proofs.Ytghchlppdhfoeab
