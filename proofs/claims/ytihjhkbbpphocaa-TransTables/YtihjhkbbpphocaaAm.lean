/- trans: Cycle. -/
import Derived.Test.YtihjhkbbpphocaaAl
namespace Go.Proofs.Ytihjhkbbpphocaa
open Go Go.RowKit Go.Lib
set_option linter.unusedVariables false

/-- What Cycle answers of a transformation. -/
def CyQ (l : List Nat) (w : World) (e : Ending) (w' : World) : Prop := ∃ x p, Cyc l x p ∧ e = .returned (.tuple #[.int .i64 (x : Nat), .int .i64 (p : Nat), .int .i64 0]) ∧ Below w.heap.size w w'
structure CcAt (w wr : World) (b : Nat) (l : List Nat) : Prop where
  out : MvAt wr b l.length (im l)
  below : Below w.heap.size w wr
theorem CcAt.stay {w wr y : World} {b : Nat} {l : List Nat} (h : CcAt w wr b l) (hb : Below wr.heap.size wr y) : CcAt w y b l := ⟨h.out.of (hb.block _ h.out.lt), h.below.trans (hb.mono h.below.size)⟩

set_option maxHeartbeats 2000000 in
set_option maxRecDepth 100000 in
theorem cycle_bad (N : Int) (g : Nat → Nat) (hg : W64 g) (h : ¬ okT N g) (w : World) :
    Calls Try.prog 40 #[.agg (trC N g)] w fun e w' => e = .returned (.tuple #[.int .i64 0, .int .i64 0, .int .i64 130]) ∧ Below w.heap.size w w' := by
  have H1 : Hid ((w.alloc (.cells (trC N g) 26)).heap[w.heap.size]? = some (.cells (trC N g) 26 (0, 0))) := heap_last _ _
  have HB0 : Hid (Below w.heap.size w (w.alloc (.cells (trC N g) 26))) := (Below.refl _ _).alloc (Nat.le_refl _) _
  have HS0 : Hid ((w.alloc (.cells (trC N g) 26)).heap.size = w.heap.size + 1) := by show _ = _; simp
  have hz := Try.zero_mv
  have hne := mvC_ne 0 fun _ => 0
  have hsz := mvC_size 0 fun _ => 0
  go_enter Try.func40, Try.ntmps40
  go_wp2_with (refine wpList_load_row rfl 26 _ rfl (w.heap.size) rfl 26 (trC N g) (0, 0) _ (H1.out) Try.underlying26 rfl (rfl) ?_)
  refine (open_bad N g hg h _).mono ?_
  rintro e w1 ⟨rfl, hB1⟩
  have HB1 : Hid (Below w.heap.size w w1) := HB0.out.trans (hB1.mono (by rw [HS0.out]; omega))
  clear hB1
  have hst := mvz_st w1
  go_wp2_with fail
  go_ret3
  exact ⟨rfl, HB1.out.alloc HB1.out.size _⟩

set_option maxHeartbeats 4000000 in
set_option maxRecDepth 100000 in
theorem cycle_ok (l : List Nat) (hl : Tf l) (w : World) :
    Calls Try.prog 40 #[.agg (trC l.length (pk (im l) l.length))] w (CyQ l w) := by
  show Calls _ _ _ _ (CyQ l w)
  have H1 : Hid ((w.alloc (.cells (trC l.length (pk (im l) l.length)) 26)).heap[w.heap.size]? = some (.cells (trC l.length (pk (im l) l.length)) 26 (0, 0))) := heap_last _ _
  have HB0 : Hid (Below w.heap.size w (w.alloc (.cells (trC l.length (pk (im l) l.length)) 26))) := (Below.refl _ _).alloc (Nat.le_refl _) _
  have HS0 : Hid ((w.alloc (.cells (trC l.length (pk (im l) l.length)) 26)).heap.size = w.heap.size + 1) := by show _ = _; simp
  have hz := Try.zero_mv
  have hne := mvC_ne 0 fun _ => 0
  have hsz := mvC_size 0 fun _ => 0
  go_enter Try.func40, Try.ntmps40
  go_wp2_with (refine wpList_load_row rfl 26 _ rfl (w.heap.size) rfl 26 (trC l.length (pk (im l) l.length)) (0, 0) _ (H1.out) Try.underlying26 rfl (rfl) ?_)
  refine (open_ok l hl _).mono ?_
  rintro e w1 ⟨rfl, hB1⟩
  have HB1 : Hid (Below w.heap.size w w1) := HB0.out.trans (hB1.mono (by rw [HS0.out]; omega))
  clear hB1
  have hst := st_mvNew2 w1 l.length (im l)
  have hszl := mvC_size l.length (im l)
  have hmn := mvC_n' l.length (im l)
  have HC0 : Hid (CcAt w (w1.alloc (.cells (mvC l.length (im l)) 79)) w1.heap.size l) := ⟨mv_last _ _ _, HB1.out.alloc HB1.out.size _⟩
  go_wp2_with fail
  clear hst hszl hmn hz hne hsz
  go_loopw [19, 6, 7, 8, 2, 3] (fun vi _ _ _ vx vp wr => ∃ i x p : Nat, vi = .int .i64 i ∧ vx = .int .i64 x ∧ vp = .int .i64 p ∧ i ≤ l.length ∧ CY l i x p ∧ CcAt w wr w1.heap.size l) (fun vi _ _ _ _ _ _ => l.length - (intOf vi).toNat)
  case atStart => exact ⟨0, 0, 1, rfl, rfl, rfl, Nat.zero_le _, CY.zero hl, HC0.out⟩
  case round =>
    clear HC0
    obtain ⟨i, x, p, rfl, rfl, rfl, hin, hC, hF⟩ := hrel
    have HC : Hid (CY l i x p) := hC
    have HF : Hid (CcAt w wr w1.heap.size l) := hF
    clear hF
    by_cases hlt : i < l.length
    · have hiI : (i : Int) < l.length := by omega
      have hp1 := hC.pos
      have hp2 := hC.small hl
      have hx1 := hC.lt
      have hl64 := hl.le
      clear hC
      go_wp2_with (refine wpList_load_row rfl 79 _ rfl (w1.heap.size) rfl 79 (mvC l.length (im l)) (0, 0) _ (HF.out.out) Try.underlying79 rfl (inf_mv _ _) ?_)
      refine (walk_any l hl i hlt _).mono ?_
      rintro e y1 ⟨t, r, hT, rfl, hy1⟩
      have HN : Hid (CY l (i + 1) (max x t) (p / Nat.gcd p r * r)) := HC.out.next hl hlt hT
      have HF1 : Hid (CcAt w y1 w1.heap.size l) := HF.out.stay hy1
      have hle := hT.le hl.lt hlt
      have hr1 := hT.pos
      have hn2 := HN.out.small hl
      have hn1 := HN.out.pos
      clear hT hy1
      go_wp2_with fail
      all_goals
        refine (common_any p r _ (by omega) (by omega)).mono ?_
        rintro e y2 ⟨rfl, hy2⟩
        have HF2 : Hid (CcAt w y2 w1.heap.size l) := HF1.out.stay hy2
        have hgp : 0 < Nat.gcd p r := Nat.gcd_pos_of_pos_left _ hp1
        have hgd : Nat.gcd p r ∣ p := Nat.gcd_dvd_left p r
        have hgl : Nat.gcd p r ≤ p := Nat.le_of_dvd hp1 hgd
        obtain ⟨g, hgE⟩ : ∃ g, Nat.gcd p r = g := ⟨_, rfl⟩
        rw [hgE] at HN hn1 hn2 hgp hgl ⊢
        have hq1 : (p : Int).tdiv g = ((p / g : Nat) : Int) := by rw [Int.tdiv_eq_ediv_of_nonneg (by omega)]; exact (Int.natCast_ediv p g).symm
        have hpg : p / g ≤ p := Nat.div_le_self _ _
        obtain ⟨d, hdE⟩ : ∃ d, p / g = d := ⟨_, rfl⟩
        rw [hdE] at hq1 hpg HN hn1 hn2
        obtain ⟨z, hzE⟩ : ∃ z, d * r = z := ⟨_, rfl⟩
        have hzI : (d : Int) * r = (z : Int) := by rw [← hzE]; exact (Int.natCast_mul d r).symm
        rw [hzE] at HN hn1 hn2
        have hw1 : IntKind.i64.wrap (d : Int) = (d : Int) := IntWalk.i64_in _ (by omega)
        have hw2 : IntKind.i64.wrap (z : Int) = (z : Int) := IntWalk.i64_in _ (by omega)
        have hg0 : ((g : Int) == 0) = false := by rw [beq_eq_false_iff_ne]; omega
        have hg0' : ¬ (g : Int) = 0 := by omega
        clear hgE hdE hzE hy2 hgd
        go_wp2_with fail
      all_goals go_roundw
      all_goals first
        | exact ⟨i + 1, t, z, by go_num, rfl, rfl, by omega, by (have q := HN.out; have e : max x t = t := by omega); rwa [e] at q, HF2.out⟩
        | exact ⟨i + 1, x, z, by go_num, rfl, rfl, by omega, by (have q := HN.out; have e : max x t = x := by omega); rwa [e] at q, HF2.out⟩
        | (simp [intOf]; omega)
    · have hiI : ¬ (i : Int) < l.length := by omega
      have HI : Hid (i = l.length) := by show i = _; omega
      clear hC
      go_wp2_with fail
      go_ret3
      exact ⟨x, p, by have := HC.out; rw [HI.out] at this; exact this, rfl, HF.out.below⟩

end Go.Proofs.Ytihjhkbbpphocaa
