/- trans: pack. -/
import Derived.Test.YtihjhkbbpphocaaAe
namespace Go.Proofs.Ytihjhkbbpphocaa
open Go Go.RowKit Go.Lib
set_option linter.unusedVariables false

theorem Try.infoTr : (Try.prog.info? 26).map (·.size) = some 8 := by kernel_rfl
theorem trC_one (N : Int) (g : Nat → Nat) : (trC N g).all (·.oneCell') = true := by simp [trC, Value.oneCell']
theorem inf_tr (N : Int) (g : Nat → Nat) : (Try.prog.info? 26).map (·.size) = some (trC N g).size := by rw [Try.infoTr, trC_size]
theorem results_tr {fn : Func} {p : Tmp} (h : fn.results = #[.cell p 26]) {tmps : Array Value} {b : Nat} {N : Int} {g : Nat → Nat} {w : World} (hp : tmps.getD p undef = .pointer (some ⟨b, 0, none⟩)) (hc : TrAt w b N g) :
    (results fn tmps).run Try.prog w = .ok (trV N g) w :=
  results_cell_row h tmps w b 26 (trC N g) (0, 0) _ hp hc Try.underlying26 rfl (inf_tr N g)
theorem st_tr {w : World} {b : Nat} {N M : Int} {f g : Nat → Nat} (h : TrAt w b N f) : (storeCells ⟨b, 0, none⟩ (trC M g).toList 0).run Try.prog w = .ok () (w.setRow b (trC M g)) := st_row h rfl (trC_one M g)
theorem TrAt.row {w : World} {b : Nat} {N M : Int} {f g : Nat → Nat} (h : TrAt w b N f) : TrAt (w.setRow b (trC M g)) b M g := setRow_heap w b _ _ _ _ h
theorem shl_run {y c : Nat} (hy : y < 256) (hc : c ≤ 54) : IntKind.u64.wrap ((y : Int) * 2 ^ c) = ((y <<< c : Nat) : Int) := by
  have e : ((y : Int) * 2 ^ c) = ((y * 2 ^ c : Nat) : Int) := by simp
  have h := shl_lt hy hc
  rw [Nat.shiftLeft_eq] at h ⊢
  rw [e, IntKind.wrap_u64]
  omega
/-- What stands in the loop of pack. -/
structure PkAt (w wr : World) (r b s n : Nat) (f : Nat → Nat) (i : Nat) : Prop where
  res : TrAt wr r 0 (fun _ => 0)
  out : TrAt wr b n (pk f i)
  src : MvAt wr s n f
  below : Below w.heap.size w wr
theorem PkAt.drew {w wr : World} {r b s n i : Nat} {f : Nat → Nat} (h : PkAt w wr r b s n f i) : PkAt w wr.drew r b s n f i := ⟨h.res.of rfl, h.out.of rfl, h.src.of rfl, h.below.drew⟩
theorem PkAt.put {w wr : World} {r b s n i : Nat} {f : Nat → Nat} (h : PkAt w wr r b s n f i) (hrb : r ≠ b) (hsb : s ≠ b) (hb : w.heap.size ≤ b) (hi : i < 64) {v : Nat} (hv : pk f i (i / 10) ||| f i <<< (6 * (i % 10)) = v) : PkAt w (wr.setCell ⟨b, 1 + i / 10, none⟩ (.int .u64 (v : Nat))) r b s n f (i + 1) := by
  refine ⟨h.res.of (heap_set_oth hrb), ?_, h.src.of (heap_set_oth hsb), h.below.setCell (p := ⟨b, 1 + i / 10, none⟩) hb _⟩
  refine (h.out.set' v (by omega)).congr ?_
  intro k _
  rw [pk_succ, ← hv]
  by_cases q : k = i / 10
  · rw [if_pos q, if_pos q, q]
  · rw [if_neg q, if_neg q]

set_option maxHeartbeats 2000000 in
set_option maxRecDepth 100000 in
theorem pack_any (n : Nat) (f : Nat → Nat) (hn : n ≤ 64) (hf : ∀ i, i < n → f i < 64) (w : World) :
    Calls Try.prog 36 #[mvV n f] w fun e w' => e = .returned (trV n (pk f n)) ∧ Below w.heap.size w w' := by
  have hn0 := mvC_n n f
  have H0 : Hid (PkAt w (((w.alloc (.cells (mvC n f) 79)).alloc (.cells (trC 0 fun _ => 0) 26)).alloc (.cells (trC n fun _ => 0) 26)) (w.heap.size + 1) (w.heap.size + 1 + 1) w.heap.size n f 0) := by
    refine ⟨?_, ?_, ?_, ?_⟩
    · unfold TrAt; rw [heap_allo (by simp)]
      have := heap_last (w.alloc (.cells (mvC n f) 79)) (.cells (trC 0 fun _ => 0) 26)
      simpa only [World.size_alloc] using this
    · have := heap_last ((w.alloc (.cells (mvC n f) 79)).alloc (.cells (trC 0 fun _ => 0) 26)) (.cells (trC n fun _ => 0) 26)
      simp only [World.size_alloc] at this
      exact this
    · unfold MvAt; rw [heap_allo (by simp <;> omega), heap_allo (by simp)]; exact heap_last _ _
    · exact (((Below.refl _ _).alloc (Nat.le_refl _) _).alloc (by simp) _).alloc (by simp <;> omega) _
  unfold mvV
  unfold trC at H0
  go_enter Try.func36, Try.ntmps36
  go_wp2_with fail
  go_loopw [12, 4, 5, 6] (fun vi _ _ _ wr => ∃ i : Nat, vi = .int .i64 i ∧ i ≤ n ∧ PkAt w wr (w.heap.size + 1) (w.heap.size + 1 + 1) w.heap.size n f i) (fun vi _ _ _ _ => n - (intOf vi).toNat)
  case atStart => exact ⟨0, rfl, Nat.zero_le _, H0.out⟩
  case round =>
    clear H0
    obtain ⟨i, rfl, hin, hF⟩ := hrel
    by_cases hlt : i < n
    · have hiI : (i : Int) < n := by omega
      have hi64 : (i : Int) < 64 := by omega
      have hk7 : i / 10 < 7 := by omega
      have hsh := shl_run (y := f i) (c := 6 * (i % 10)) (by have := hf i hlt; omega) (by omega)
      have hor := bits_or_u64_nat (pk f i (i / 10)) (f i <<< (6 * (i % 10))) (Nat.lt_trans (pk_lt (fun j hj => by have := hf j (by omega); omega) _) (by decide)) (Nat.lt_trans (shl_lt (by have := hf i hlt; omega) (by omega)) (by decide))
      have hw64 : IntKind.u64.wrap ((f i : Nat) : Int) = ((f i : Nat) : Int) := by have := hf i hlt; rw [IntKind.wrap_u64]; omega
      have hfz := hF.out.frozen (1 + i / 10)
      have hcl := hF.out.cell' hk7
      have hc1 := hF.src.cell' (i := i) (by omega)
      have hpl := fun W => place_any i (by omega) W
      obtain ⟨v, hv⟩ : ∃ v, pk f i (i / 10) ||| f i <<< (6 * (i % 10)) = v := ⟨_, rfl⟩
      have HN : Hid (PkAt w (wr.setCell ⟨w.heap.size + 1 + 1, 1 + i / 10, none⟩ (.int .u64 (v : Nat))) (w.heap.size + 1) (w.heap.size + 1 + 1) w.heap.size n f (i + 1)) := hF.put (by omega) (by omega) (by omega) (by omega) hv
      rw [hv] at hor
      obtain ⟨k, hk⟩ : ∃ k, i / 10 = k := ⟨_, rfl⟩
      obtain ⟨c, hc⟩ : ∃ c, 6 * (i % 10) = c := ⟨_, rfl⟩
      obtain ⟨y, hy⟩ : ∃ y, f i = y := ⟨_, rfl⟩
      rw [hk] at hor hcl hk7 hfz HN
      rw [hc, hy] at hor
      rw [hc, hy] at hsh
      rw [hy] at hc1 hw64
      obtain ⟨z, hz⟩ : ∃ z, y <<< c = z := ⟨_, rfl⟩
      obtain ⟨x, hx⟩ : ∃ x, pk f i k = x := ⟨_, rfl⟩
      rw [hz] at hsh hor
      rw [hx] at hcl hor
      have hc64 : c < 64 := by omega
      have hcI : (c : Int) < 64 := by omega
      have hkI : (k : Int) < 7 := by omega
      simp only [hk, hc] at hpl
      have HP : Hid (∀ W, Calls Try.prog 59 #[.int .i64 i] W fun e w' => e = .returned (.tuple #[.int .i64 (k : Int), .int .u64 (c : Int)]) ∧ W = w') := hpl
      clear hF hf hk hc hy hz hx hv hpl
      go_wp2_with (go_at_call 59; refine (HP.out _).mono ?_; rintro e w1 ⟨rfl, rfl⟩)
      have HN2 := HN.out.drew
      have HN3 : Hid _ := HN2
      clear HN2
      go_region
      all_goals go_wp2_with fail
      all_goals go_roundw
      all_goals first
        | exact ⟨i + 1, by go_num, by omega, HN3.out⟩
        | exact ⟨i + 1, by go_num, by omega, HN.out⟩
        | (simp [intOf]; omega)
    · have hiI : ¬ (i : Int) < n := by omega
      have e : i = n := by omega
      have hs := st_tr (M := n) (g := pk f i) hF.res
      have HF : Hid (PkAt w wr (w.heap.size + 1) (w.heap.size + 1 + 1) w.heap.size n f i) := hF
      have HE : Hid (i = n) := e
      clear hF e hf
      go_wp2_with (refine wpList_load_row rfl 26 _ rfl (w.heap.size + 1 + 1) rfl 26 (trC n (pk f i)) (0, 0) _ HF.out.out Try.underlying26 rfl (inf_tr _ _) ?_)
      refine bodyPost_ret (results_tr rfl rfl HF.out.res.row) rfl ⟨?_, below_row HF.out.below (by omega)⟩
      rw [HE.out]
end Go.Proofs.Ytihjhkbbpphocaa
