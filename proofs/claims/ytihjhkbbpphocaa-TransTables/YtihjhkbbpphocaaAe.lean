/- trans: place, unpack, pack. -/
import Derived.Test.YtihjhkbbpphocaaAd
namespace Go.Proofs.Ytihjhkbbpphocaa
open Go Go.RowKit Go.Lib
set_option linter.unusedVariables false

theorem place_any (i : Nat) (hi : i < 64) (w : World) :
    Calls Try.prog 59 #[.int .i64 i] w fun e w' => e = .returned (.tuple #[.int .i64 ((i / 10 : Nat) : Int), .int .u64 ((6 * (i % 10) : Nat) : Int)]) ∧ w = w' := by
  have h1 : (i : Int).tdiv 10 = ((i / 10 : Nat) : Int) := by rw [Int.tdiv_eq_ediv_of_nonneg (by omega)]; omega
  have h2 : (i : Int).tmod 10 = ((i % 10 : Nat) : Int) := by rw [Int.tmod_eq_emod_of_nonneg (by omega)]; omega
  have h3 : IntKind.i64.wrap ((i / 10 : Nat) : Int) = ((i / 10 : Nat) : Int) := IntWalk.i64_in _ (by omega)
  have h4 : IntKind.i64.wrap ((i % 10 : Nat) * 6 : Int) = ((6 * (i % 10) : Nat) : Int) := by rw [IntWalk.i64_in _ (by omega)]; omega
  have h5 : IntKind.u64.wrap ((6 * (i % 10) : Nat) : Int) = ((6 * (i % 10) : Nat) : Int) := by rw [IntKind.wrap_u64]; omega
  obtain ⟨a, ha⟩ : ∃ a, i / 10 = a := ⟨_, rfl⟩
  obtain ⟨b, hb⟩ : ∃ b, i % 10 = b := ⟨_, rfl⟩
  obtain ⟨c, hc⟩ : ∃ c, 6 * b = c := ⟨_, rfl⟩
  rw [ha] at h1 h3 ⊢
  rw [hb] at h2 h4 h5 ⊢
  rw [hc] at h4 h5 ⊢
  clear ha hb hc
  go_enter Try.func59, Try.ntmps59
  go_wp2_with fail
  go_ret2
  exact ⟨rfl, rfl⟩
theorem dg_run (g : Nat → Nat) (i : Nat) (hx : g (i / 10) < 18446744073709551616) : bits .and .u64 ((g (i / 10) : Nat) / 2 ^ (6 * (i % 10)) : Int) 63 = ((dg g i : Nat) : Int) := by
  have e : ((g (i / 10) : Nat) / 2 ^ (6 * (i % 10)) : Int) = ((g (i / 10) / 2 ^ (6 * (i % 10)) : Nat) : Int) := by simp
  rw [e]
  have := bits_and_u64_nat (g (i / 10) / 2 ^ (6 * (i % 10))) 63 (Nat.lt_of_le_of_lt (Nat.div_le_self _ _) hx) (by decide)
  unfold dg
  rw [Nat.shiftRight_eq_div_pow]
  exact this
set_option maxHeartbeats 2000000 in
set_option maxRecDepth 100000 in
theorem unpack_any (n : Nat) (g : Nat → Nat) (hn : n ≤ 64) (hg : ∀ k, k < 7 → g k < 18446744073709551616) (w : World) :
    Calls Try.prog 60 #[trV n g] w fun e w' => e = .returned (mvV n (upto (dg g) n)) ∧ Below w.heap.size w w' := by
  have hz := Try.zero_mv
  have hsz := mvC_size 0 fun _ => 0
  have hne := mvC_ne 0 fun _ => 0
  have hn0 := trC_n n g
  have hst := st_mvNew ((w.alloc (.cells (trC n g) 26)).alloc (.cells (mvC 0 fun _ => 0) 79)) n
  simp only [World.size_alloc] at hst
  have H0 : Hid (Fill w (((w.alloc (.cells (trC n g) 26)).alloc (.cells (mvC 0 fun _ => 0) 79)).alloc (.cells (mvC n fun _ => 0) 79)) (w.heap.size + 1) (w.heap.size + 1 + 1) n (upto (dg g) 0) ∧
      TrAt (((w.alloc (.cells (trC n g) 26)).alloc (.cells (mvC 0 fun _ => 0) 79)).alloc (.cells (mvC n fun _ => 0) 79)) w.heap.size n g) := by
    refine ⟨⟨?_, ?_, ?_⟩, ?_⟩
    · unfold MvAt; rw [heap_allo (by simp)]
      have := heap_last (w.alloc (.cells (trC n g) 26)) (.cells (mvC 0 fun _ => 0) 79)
      simpa only [World.size_alloc] using this
    · have := heap_last ((w.alloc (.cells (trC n g) 26)).alloc (.cells (mvC 0 fun _ => 0) 79)) (.cells (mvC n fun _ => 0) 79)
      simp only [World.size_alloc] at this
      exact MvAt.congr (f := fun _ => 0) this (fun i _ => (upto_zero _ i).symm)
    · exact (((Below.refl _ _).alloc (Nat.le_refl _) _).alloc (by simp) _).alloc (by simp <;> omega) _
    · unfold TrAt; rw [heap_allo (by simp <;> omega), heap_allo (by simp)]; exact heap_last _ _
  unfold trV
  go_enter Try.func60, Try.ntmps60
  go_wp2_with fail
  clear hz hsz hne hst
  go_loopw [12, 4, 5, 6] (fun vi _ _ _ wr => ∃ i : Nat, vi = .int .i64 i ∧ i ≤ n ∧ Fill w wr (w.heap.size + 1) (w.heap.size + 1 + 1) n (upto (dg g) i) ∧ TrAt wr w.heap.size n g) (fun vi _ _ _ _ => n - (intOf vi).toNat)
  case atStart => exact ⟨0, rfl, Nat.zero_le _, H0.out⟩
  case round =>
    clear H0
    obtain ⟨i, rfl, hin, hF, hm1⟩ := hrel
    by_cases hlt : i < n
    · have hiI : (i : Int) < n := by omega
      have hi64 : (i : Int) < 64 := by omega
      have hk7 : i / 10 < 7 := by omega
      have hd := dg_run g i (hg _ hk7)
      have hd8 := u8_in (a := dg g i) (Nat.lt_trans (dg_lt g i) (by decide))
      have hfz := hF.out.frozen (1 + i)
      have hcl := hF.out.cell' (i := i) (by omega)
      have hc1 := hm1.cell' hk7
      have hpl := fun W => place_any i (by omega) W
      have HN : Hid (Fill w (wr.setCell ⟨w.heap.size + 1 + 1, 1 + i, none⟩ (.int .u8 (dg g i : Nat))) (w.heap.size + 1) (w.heap.size + 1 + 1) n (upto (dg g) (i + 1)) ∧ TrAt (wr.setCell ⟨w.heap.size + 1 + 1, 1 + i, none⟩ (.int .u8 (dg g i : Nat))) w.heap.size n g) := ⟨hF.put (by omega) (by omega) (by omega), hm1.of (heap_set_oth (by omega))⟩
      obtain ⟨k, hk⟩ : ∃ k, i / 10 = k := ⟨_, rfl⟩
      obtain ⟨c, hc⟩ : ∃ c, 6 * (i % 10) = c := ⟨_, rfl⟩
      obtain ⟨d, hde⟩ : ∃ d, dg g i = d := ⟨_, rfl⟩
      obtain ⟨x, hx⟩ : ∃ x, g k = x := ⟨_, rfl⟩
      have hc64 : c < 64 := by omega
      have hcI : (c : Int) < 64 := by omega
      rw [hk, hc, hde, hx] at hd
      rw [hk, hx] at hc1
      rw [hk] at hk7
      rw [hde] at hd8 HN
      have hkI : (k : Int) < 7 := by omega
      simp only [hk, hc] at hpl
      have HP : Hid (∀ W, Calls Try.prog 59 #[.int .i64 i] W fun e w' => e = .returned (.tuple #[.int .i64 (k : Int), .int .u64 (c : Int)]) ∧ W = w') := hpl
      clear hF hm1 hg hk hc hde hx hpl
      go_wp2_with (go_at_call 59; refine (HP.out _).mono ?_; rintro e w1 ⟨rfl, rfl⟩)
      go_roundw
      case rel => exact ⟨i + 1, by go_num, by omega, HN.out⟩
      case measure => simp [intOf]; omega
    · have hiI : ¬ (i : Int) < n := by omega
      have e : i = n := by omega
      have hs := st_mv (m := n) (g := upto (dg g) i) hF.res
      have hsz := mvC_size n (upto (dg g) i)
      have HF : Hid (Fill w wr (w.heap.size + 1) (w.heap.size + 1 + 1) n (upto (dg g) i)) := hF
      have HE : Hid (i = n) := e
      clear hF e hm1 hg
      go_wp2_with (refine wpList_load_row rfl 79 _ rfl (w.heap.size + 1 + 1) rfl 79 (mvC n (upto (dg g) i)) (0, 0) _ HF.out.out Try.underlying79 rfl (inf_mv _ _) ?_)
      refine bodyPost_ret (results_mv rfl rfl HF.out.res.row) rfl ⟨?_, below_row HF.out.below (by omega)⟩
      rw [HE.out]
end Go.Proofs.Ytihjhkbbpphocaa
