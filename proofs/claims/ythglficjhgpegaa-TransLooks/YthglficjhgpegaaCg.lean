/- trans: List, Kernel, Image. -/
import Derived.Test.YthglficjhgpegaaAx
import Derived.Test.YthglficjhgpegaaAz
namespace Go.Proofs.Ythglficjhgpegaa
open Go Go.RowKit Go.Lib
set_option linter.unusedVariables false

theorem fl_set {f : Nat → Nat} {n i : Nat} (h : i < n) : (tb (upto f i) n).set i (f i) = tb (upto f (i + 1)) n := by
  apply im_ext (by rw [List.length_set, tb_len, tb_len])
  intro j hj
  rw [List.length_set, tb_len] at hj
  rw [im_set (by rw [tb_len]; exact h), tb_im _ hj, tb_im _ hj, ← upto_succ]
theorem fl_zero (f : Nat → Nat) (n : Nat) : tb (upto f 0) n = List.replicate n 0 := by
  apply im_ext (by rw [tb_len, List.length_replicate])
  intro j hj
  rw [tb_len] at hj
  rw [tb_im _ hj, upto_zero]
  simp [im, hj]
theorem fl_end (l : List Nat) : tb (upto (im l) l.length) l.length = l := by rw [upto_im, tb_of]
theorem row_made (w : World) (n : Nat) (hn : n ≤ 64) : (w.alloc (.cells (madeCells #[.int .i64 0] n) 3)).ownsRow w.heap.size 3 1 (.slice (some ⟨w.heap.size, 0, none⟩) n n) n (zC (pI (List.replicate n 0))) := by
  refine ⟨by simp [zC, pI], .inr ⟨w.heap.size, n, madeCells #[.int .i64 0] n, rfl, Nat.le_refl _, heap_alloc_last _ _, Nat.le_refl _, by unfold maxLen; omega, ?_, ?_⟩⟩
  · simp [madeCells]
  · apply List.ext_getElem?
    intro j
    by_cases hj : j < n
    · simp [madeCells, zC, pI, hj, Nat.mod_one]
    · simp [madeCells, zC, pI, hj]
theorem own_keep1 {w w' : World} {B : Nat} {e : TypeId} {g n cap : Nat} {xs : List Value} (h : w.ownsRow B e 1 (.slice (some ⟨g, 0, none⟩) n cap) n xs) (hk : w'.heap[g]? = w.heap[g]?) : w'.ownsRow B e 1 (.slice (some ⟨g, 0, none⟩) n cap) n xs := by
  obtain ⟨a, b⟩ := h
  refine ⟨a, ?_⟩
  rcases b with b | ⟨g', cap', cur, e1, r, r2, r3⟩
  · exact .inl b
  · simp only [Value.slice.injEq, Option.some.injEq, Addr.mk.injEq] at e1
    obtain ⟨⟨rfl, _⟩, _, rfl⟩ := e1
    exact .inr ⟨g, cap, cur, rfl, r, by rw [hk]; exact r2, r3⟩
structure LsAt (w wr : World) (m g B : Nat) (l : List Nat) (i : Nat) : Prop where
  src : MvAt wr m l.length (im l)
  row : wr.ownsRow B 3 1 (.slice (some ⟨g, 0, none⟩) l.length l.length) l.length (zC (pI (tb (upto (im l) i) l.length)))
  below : Below w.heap.size w wr

set_option maxHeartbeats 2000000 in
set_option maxRecDepth 100000 in
theorem tlist_bad (N : Int) (g : Nat → Nat) (hg : W64 g) (h : ¬ okT N g) (w : World) :
    Calls Try.prog 17 #[.agg (trC N g)] w fun e w' => e = .returned (.tuple #[.slice none 0 0, .int .i64 130]) ∧ Below w.heap.size w w' := by
  have H1 : Hid (TrAt (w.alloc (.cells (trC N g) 26)) w.heap.size N g) := heap_last _ _
  have HB0 : Hid (Below w.heap.size w (w.alloc (.cells (trC N g) 26))) := (Below.refl _ _).alloc (Nat.le_refl _) _
  have hz := Try.zero_mv
  have hne := mvC_ne 0 fun _ => 0
  have hsz := mvC_size 0 fun _ => 0
  go_enter Try.func17, Try.ntmps17
  go_wp2_with (refine wpList_load_row rfl 26 _ rfl (w.heap.size) rfl 26 (trC N g) (0, 0) _ (H1.out) Try.underlying26 rfl (rfl) ?_)
  refine (open_bad N g hg h _).mono ?_
  rintro e w1 ⟨rfl, hB1⟩
  have HB1 : Hid (Below w.heap.size w w1) := HB0.out.trans (hB1.mono (by simp))
  clear hB1
  have hst := mvz_st w1
  go_wp2_with fail
  go_ret2
  exact ⟨rfl, HB1.out.alloc HB1.out.size _⟩

set_option maxHeartbeats 4000000 in
set_option maxRecDepth 100000 in
theorem tlist_ok (l : List Nat) (hl : Tf l) (w : World) :
    Calls Try.prog 17 #[.agg (tC l)] w fun e w' => ∃ g, e = .returned (.tuple #[.slice (some ⟨g, 0, none⟩) l.length l.length, .int .i64 0]) ∧ w'.ownsRow w.heap.size 3 1 (.slice (some ⟨g, 0, none⟩) l.length l.length) l.length (zC (pI l)) ∧ Below w.heap.size w w' := by
  obtain ⟨i0, hi, hz0, hz1, hz2⟩ := info_parts Try.info_int
  have H1 : Hid (TL (w.alloc (.cells (tC l) 26)) w.heap.size l) := heap_last _ _
  have HB0 : Hid (Below w.heap.size w (w.alloc (.cells (tC l) 26))) := (Below.refl _ _).alloc (Nat.le_refl _) _
  have hz := Try.zero_mv
  have hne := mvC_ne 0 fun _ => 0
  have hsz := mvC_size 0 fun _ => 0
  have hle := hl.le
  have hmk := fun w0 => run_make (P := Try.prog) w0 22 3 i0 (.int .i64 0) Try.underlying22 hi hz0 .i64 .i64 (l.length : Int) (l.length : Int) (by omega) (by omega) (by rw [hz2]; omega) (by omega)
  rw [hz1] at hmk
  simp only [Nat.mul_one] at hmk
  go_enter Try.func17, Try.ntmps17
  go_wp2_with (refine wl_load rfl rfl (H1.out) rfl ?_)
  refine (open_ok l hl _).mono ?_
  rintro e w1 ⟨rfl, hB1⟩
  have HB1 : Hid (Below w.heap.size w w1) := HB0.out.trans (hB1.mono (by simp))
  clear hB1
  have hst := st_mvNew2 w1 l.length (im l)
  have hszl := mvC_size l.length (im l)
  have hmn := mvC_n' l.length (im l)
  have HL0 : Hid (LsAt w ((w1.alloc (.cells (mvC l.length (im l)) 91)).alloc (.cells (madeCells #[.int .i64 0] l.length) 3)) w1.heap.size (w1.heap.size + 1) w.heap.size l 0) := by
    refine ⟨(mv_last w1 _ _).of (heap_allo (by simp) _), ?_, (HB1.out.alloc HB1.out.size _).alloc (by rw [World.size_alloc]; exact Nat.le_succ_of_le HB1.out.size) _⟩
    have := row_made (w1.alloc (.cells (mvC l.length (im l)) 91)) l.length hl.le
    rw [World.size_alloc] at this
    rw [fl_zero]
    exact own_mono this (Nat.le_succ_of_le HB1.out.size)
  go_wp2_with fail
  clear hst hszl hmn hz hne hsz hmk
  go_loopw [21, 7] (fun vi _ wr => ∃ i : Nat, vi = .int .i64 i ∧ i ≤ l.length ∧ LsAt w wr w1.heap.size (w1.heap.size + 1) w.heap.size l i) (fun vi _ _ => l.length - (intOf vi).toNat)
  case atStart => exact ⟨0, rfl, Nat.zero_le _, HL0.out⟩
  case round =>
    clear HL0
    obtain ⟨i, rfl, hin, hF⟩ := hrel
    have HF : Hid (LsAt w wr w1.heap.size (w1.heap.size + 1) w.heap.size l i) := hF
    by_cases hlt : i < l.length
    · have hiI : (i : Int) < l.length := by omega
      have hi64 : (i : Int) < 64 := by omega
      have hd64 := hl.lt64 i hlt
      have hc1 := hF.src.cell' (i := i) (by omega)
      have hwd : IntKind.i64.wrap ((im l i : Nat) : Int) = ((im l i : Nat) : Int) := IntWalk.i64_in _ (by omega)
      have hcl := (hF.row.cellAt i (by omega)).trans (pZ_get (by rw [tb_len]; omega))
      have hfz : wr.frozen? ⟨w1.heap.size + 1, i, none⟩ = false := hF.row.frozenAt i
      have hst := (hF.row.stored i (.int .i64 ((im l i : Nat) : Int))).1
      rw [← pZ_set, fl_set hlt] at hst
      have HN : Hid (LsAt w (wr.setCell ⟨w1.heap.size + 1, i, none⟩ (.int .i64 ((im l i : Nat) : Int))) w1.heap.size (w1.heap.size + 1) w.heap.size l (i + 1)) := ⟨hF.src.of (heap_set_oth (by omega)), hst, hF.below.setCell (p := ⟨w1.heap.size + 1, i, none⟩) ((hF.row.lt _ rfl).1) _⟩
      obtain ⟨d, hdE⟩ : ∃ d, im l i = d := ⟨_, rfl⟩
      obtain ⟨z, hzE⟩ : ∃ z, im (tb (upto (im l) i) l.length) i = z := ⟨_, rfl⟩
      rw [hdE] at hc1 hwd HN hd64
      rw [hzE] at hcl
      clear hF hdE hzE hst
      go_wp2_with fail
      go_roundw
      case rel => exact ⟨i + 1, by go_num, by omega, HN.out⟩
      case measure => simp [intOf]; omega
    · have hiI : ¬ (i : Int) < l.length := by omega
      have HE : Hid (i = l.length) := by show i = _; omega
      clear hF
      go_wp2_with fail
      go_ret2
      have h := HF.out.row
      rw [HE.out, fl_end] at h
      exact ⟨_, rfl, h, HF.out.below⟩

/-! ### Kernel -/
def KR (l : List Nat) (i k : Nat) : Prop := k ≤ i ∧ im l k = im l i ∧ ∀ j, j < k → im l j ≠ im l i
theorem KR.uniq {l : List Nat} {i k k' : Nat} (h : KR l i k) (h' : KR l i k') : k = k' := by
  rcases Nat.lt_trichotomy k k' with c | c | c
  · exact absurd h.2.1 (h'.2.2 k c)
  · exact c
  · exact absurd h'.2.1 (h.2.2 k' c)
def kr (l : List Nat) (i : Nat) : Nat := (List.range (i + 1)).findIdx (fun k => im l k == im l i)
theorem kr_spec (l : List Nat) (i : Nat) : KR l i (kr l i) := by
  have hex : ∃ x ∈ List.range (i + 1), (fun k => im l k == im l i) x = true := ⟨i, by simp, by simp⟩
  have hlt : kr l i < (List.range (i + 1)).length := List.findIdx_lt_length_of_exists hex
  have h1 := List.findIdx_getElem (w := hlt)
  have hlt' : kr l i < i + 1 := by simpa using hlt
  refine ⟨by omega, ?_, ?_⟩
  · have e : (List.range (i + 1))[kr l i] = kr l i := by simp
    have h1' : (im l ((List.range (i + 1))[kr l i]) == im l i) = true := h1
    rw [e] at h1'
    simpa using h1'
  · intro j hj q
    have hjl : j < (List.range (i + 1)).length := by simp; omega
    have := List.not_of_lt_findIdx (p := fun k => im l k == im l i) (xs := List.range (i + 1)) hj
    simp at this
    exact this q
theorem kr_le (l : List Nat) (i : Nat) : kr l i ≤ i := (kr_spec l i).1
theorem kr_same {l : List Nat} {i j : Nat} : kr l i = kr l j ↔ im l i = im l j := by
  constructor
  · intro h
    rw [← (kr_spec l i).2.1, ← (kr_spec l j).2.1, h]
  · intro h
    have hi := kr_spec l i
    have hj := kr_spec l j
    rcases Nat.lt_trichotomy (kr l i) (kr l j) with c | c | c
    · exact absurd (hi.2.1.trans h) (hj.2.2 _ c)
    · exact c
    · exact absurd (hj.2.1.trans h.symm) (hi.2.2 _ c)
def krL (l : List Nat) : List Nat := tb (kr l) l.length
theorem krL_len (l : List Nat) : (krL l).length = l.length := tb_len _ _
/-- The first i entries are the kernel's, the others the images. -/
def kmix (l : List Nat) (i j : Nat) : Nat := if j < i then kr l j else im l j
theorem kmix_set {l : List Nat} {i : Nat} (h : i < l.length) : (tb (kmix l i) l.length).set i (kr l i) = tb (kmix l (i + 1)) l.length := by
  apply im_ext (by rw [List.length_set, tb_len, tb_len])
  intro j hj
  rw [List.length_set, tb_len] at hj
  rw [im_set (by rw [tb_len]; exact h), tb_im _ hj, tb_im _ hj]
  unfold kmix
  by_cases e : j = i
  · rw [if_pos e, if_pos (by omega), e]
  · rw [if_neg e]
    by_cases q : j < i
    · rw [if_pos q, if_pos (by omega)]
    · rw [if_neg q, if_neg (by omega)]
theorem kmix_zero (l : List Nat) : tb (kmix l 0) l.length = l := by
  rw [show kmix l 0 = im l from by funext j; unfold kmix; rw [if_neg (by omega)], tb_of]
theorem kmix_end (l : List Nat) : tb (kmix l l.length) l.length = krL l := tb_congr (fun j hj => by unfold kmix; rw [if_pos hj])
/-- What the table of least points knows of the first i. -/
def KM (l : List Nat) (i : Nat) (m : Nat → Nat) : Prop := ∀ x, (m x = 0 ∧ ∀ k, k < i → im l k ≠ x) ∨ ∃ k, k < i ∧ m x = k + 1 ∧ im l k = x ∧ ∀ j, j < k → im l j ≠ x
theorem KM.zero (l : List Nat) : KM l 0 (fun _ => 0) := fun x => .inl ⟨rfl, fun k hk => absurd hk (by omega)⟩
theorem KM.new {l : List Nat} {i : Nat} {m : Nat → Nat} (h : KM l i m) (h0 : m (im l i) = 0) : KM l (i + 1) (fun j => if j = im l i then i + 1 else m j) ∧ kr l i = i := by
  have hno : ∀ k, k < i → im l k ≠ im l i := by
    rcases h (im l i) with ⟨_, q⟩ | ⟨k, _, q, _⟩
    · exact q
    · omega
  refine ⟨fun x => ?_, ?_⟩
  · by_cases e : x = im l i
    · refine .inr ⟨i, by omega, ?_, e.symm, fun j hj => by rw [e]; exact hno j hj⟩
      show (if x = im l i then i + 1 else m x) = i + 1
      rw [if_pos e]
    · have hm : (if x = im l i then i + 1 else m x) = m x := if_neg e
      show ((if x = im l i then i + 1 else m x) = 0 ∧ _) ∨ ∃ k, k < i + 1 ∧ (if x = im l i then i + 1 else m x) = k + 1 ∧ _
      rw [hm]
      rcases h x with ⟨q1, q2⟩ | ⟨k, q1, q2, q3, q4⟩
      · exact .inl ⟨q1, fun k hk => by
          by_cases c : k = i
          · rw [c]; exact fun z => e z.symm
          · exact q2 k (by omega)⟩
      · exact .inr ⟨k, by omega, q2, q3, q4⟩
  · exact (kr_spec l i).uniq ⟨Nat.le_refl _, rfl, hno⟩
theorem KM.old {l : List Nat} {i k : Nat} {m : Nat → Nat} (h : KM l i m) (h0 : m (im l i) = k + 1) : KM l (i + 1) m ∧ kr l i = k ∧ k < i := by
  have hk : k < i ∧ im l k = im l i ∧ ∀ j, j < k → im l j ≠ im l i := by
    rcases h (im l i) with ⟨q, _⟩ | ⟨k', q1, q2, q3, q4⟩
    · omega
    · have : k = k' := by omega
      subst this
      exact ⟨q1, q3, q4⟩
  refine ⟨fun x => ?_, (kr_spec l i).uniq ⟨by omega, hk.2.1, hk.2.2⟩, hk.1⟩
  rcases h x with ⟨q1, q2⟩ | ⟨k', q1, q2, q3, q4⟩
  · refine .inl ⟨q1, fun j hj => ?_⟩
    by_cases c : j = i
    · rw [c]
      intro z
      rw [← z, h0] at q1
      omega
    · exact q2 j (by omega)
  · exact .inr ⟨k', by omega, q2, q3, q4⟩
structure KnAt (w wr : World) (g b B : Nat) (l : List Nat) (i : Nat) (m : Nat → Nat) : Prop where
  tab : MtAt wr b m
  row : wr.ownsRow B 3 1 (.slice (some ⟨g, 0, none⟩) l.length l.length) l.length (zC (pI (tb (kmix l i) l.length)))
  below : Below w.heap.size w wr

set_option maxHeartbeats 4000000 in
set_option maxRecDepth 100000 in
theorem kernel_ok (l : List Nat) (hl : Tf l) (w : World) :
    Calls Try.prog 20 #[.agg (tC l)] w fun e w' => ∃ g, e = .returned (.tuple #[.slice (some ⟨g, 0, none⟩) l.length l.length, .int .i64 0]) ∧ w'.ownsRow w.heap.size 3 1 (.slice (some ⟨g, 0, none⟩) l.length l.length) l.length (zC (pI (krL l))) ∧ Below w.heap.size w w' := by
  have H1 : Hid (TL (w.alloc (.cells (tC l) 26)) w.heap.size l) := heap_last _ _
  have HB0 : Hid (Below w.heap.size w (w.alloc (.cells (tC l) 26))) := (Below.refl _ _).alloc (Nat.le_refl _) _
  have hle := hl.le
  go_enter Try.func20, Try.ntmps20
  go_wp2_with (refine wl_load rfl rfl (H1.out) rfl ?_)
  refine (tlist_ok l hl _).mono ?_
  rintro e w1 ⟨g, rfl, hO, hB1⟩
  have HB1 : Hid (Below w.heap.size w w1) := HB0.out.trans (hB1.mono (by simp))
  have hO' : w1.ownsRow w.heap.size 3 1 (.slice (some ⟨g, 0, none⟩) l.length l.length) l.length (zC (pI l)) := own_mono hO (by simp)
  have HK0 : Hid (KnAt w (w1.alloc (.cells (mtC fun _ => 0) 100)) g w1.heap.size w.heap.size l 0 (fun _ => 0)) := by
    refine ⟨heap_last _ _, ?_, HB1.out.alloc HB1.out.size _⟩
    rw [kmix_zero]
    exact own_below hO' ((Below.refl _ _).alloc (Nat.le_refl _) _)
  have HGL : Hid (g < w1.heap.size) := (hO'.lt g rfl).2
  clear hO hO' hB1
  go_wp2_with fail
  go_loopw [19, 7, 8] (fun vi _ _ wr => ∃ (i : Nat) (m : Nat → Nat), vi = .int .i64 i ∧ i ≤ l.length ∧ KM l i m ∧ KnAt w wr g w1.heap.size w.heap.size l i m) (fun vi _ _ _ => l.length - (intOf vi).toNat)
  case atStart => exact ⟨0, fun _ => 0, rfl, Nat.zero_le _, KM.zero l, HK0.out⟩
  case round =>
    clear HK0
    obtain ⟨i, m, rfl, hin, hM, hF⟩ := hrel
    have HF : Hid (KnAt w wr g w1.heap.size w.heap.size l i m) := hF
    by_cases hlt : i < l.length
    · have hiI : (i : Int) < l.length := by omega
      have hd64 := hl.lt64 i hlt
      have ex : im (tb (kmix l i) l.length) i = im l i := by rw [tb_im _ hlt]; unfold kmix; rw [if_neg (by omega)]
      have hcl := (hF.row.cellAt i (by omega)).trans (pZ_get (by rw [tb_len]; omega))
      rw [ex] at hcl
      have hfz : wr.frozen? ⟨g, i, none⟩ = false := hF.row.frozenAt i
      have hcm := hF.tab.cell hd64
      have hfm : wr.frozen? ⟨w1.heap.size, im l i, none⟩ = false := frozen_blk hF.tab _
      have hgw : w.heap.size ≤ g := (hF.row.lt _ rfl).1
      have hgl := HGL.out
      by_cases h0 : m (im l i) = 0
      · obtain ⟨hM2, hk⟩ := hM.new h0
        rw [h0] at hcm
        have hF1 : KnAt w (wr.setCell ⟨w1.heap.size, im l i, none⟩ (.int .i64 ((i + 1 : Nat) : Int))) g w1.heap.size w.heap.size l i (fun j => if j = im l i then i + 1 else m j) :=
          ⟨hF.tab.set _ hd64, own_keep1 hF.row (heap_set_oth (by omega)), hF.below.setCell (p := ⟨w1.heap.size, im l i, none⟩) (by have := HB1.out.size; exact this) _⟩
        have hcm2 := hF1.tab.cell hd64
        simp only [if_true] at hcm2
        have hcl2 := (hF1.row.cellAt i (by omega)).trans (pZ_get (by rw [tb_len]; omega))
        rw [ex] at hcl2
        have hfz2 : (wr.setCell ⟨w1.heap.size, im l i, none⟩ (.int .i64 ((i + 1 : Nat) : Int))).frozen? ⟨g, i, none⟩ = false := hF1.row.frozenAt i
        have hst := (hF1.row.stored i (.int .i64 ((kr l i : Nat) : Int))).1
        rw [← pZ_set, kmix_set hlt, hk] at hst
        have HN : Hid (KnAt w ((wr.setCell ⟨w1.heap.size, im l i, none⟩ (.int .i64 ((i + 1 : Nat) : Int))).setCell ⟨g, i, none⟩ (.int .i64 ((i : Nat) : Int))) g w1.heap.size w.heap.size l (i + 1) (fun j => if j = im l i then i + 1 else m j)) :=
          ⟨hF1.tab.of (heap_set_oth (by omega)), hst, hF1.below.setCell (p := ⟨g, i, none⟩) hgw _⟩
        have HM2 : Hid (KM l (i + 1) (fun j => if j = im l i then i + 1 else m j)) := hM2
        obtain ⟨d, hdE⟩ : ∃ d, im l i = d := ⟨_, rfl⟩
        obtain ⟨q, hqE⟩ : ∃ q, i + 1 = q := ⟨_, rfl⟩
        rw [hdE] at hcl hcm hfm hcm2 hcl2 hfz2 hd64
        rw [hqE] at hcm2 hcl2 hfz2
        have HN' : Hid (KnAt w ((wr.setCell ⟨w1.heap.size, d, none⟩ (.int .i64 (q : Int))).setCell ⟨g, i, none⟩ (.int .i64 ((i : Nat) : Int))) g w1.heap.size w.heap.size l (i + 1) (fun j => if j = im l i then i + 1 else m j)) := by
          have := HN.out
          rw [hdE, hqE] at this
          rw [hdE, hqE]
          exact this
        have hw1 : IntKind.i64.wrap ((i : Int) + 1) = (q : Int) := by rw [IntWalk.i64_in _ (by omega)]; omega
        have hw2 : IntKind.i64.wrap ((q : Int) - 1) = (i : Int) := by rw [IntWalk.i64_in _ (by omega)]; omega
        have hdI : (d : Int) < 64 := by omega
        have HQ : Hid (i + 1 = q) := hqE
        clear hF hF1 hM hM2 hst ex h0 hk hdE hqE HN
        go_wp2_with fail
        go_roundw
        case rel => exact ⟨i + 1, _, by rw [HQ.out], by omega, HM2.out, HN'.out⟩
        case measure => have := HQ.out; simp [intOf]; omega
      · obtain ⟨k, hkE⟩ : ∃ k, m (im l i) = k + 1 := ⟨m (im l i) - 1, by omega⟩
        obtain ⟨hM2, hk, hki⟩ := hM.old hkE
        rw [hkE] at hcm
        have hst := (hF.row.stored i (.int .i64 ((kr l i : Nat) : Int))).1
        rw [← pZ_set, kmix_set hlt, hk] at hst
        have HN : Hid (KnAt w (wr.setCell ⟨g, i, none⟩ (.int .i64 ((k : Nat) : Int))) g w1.heap.size w.heap.size l (i + 1) m) :=
          ⟨hF.tab.of (heap_set_oth (by omega)), hst, hF.below.setCell (p := ⟨g, i, none⟩) hgw _⟩
        have HM2 : Hid (KM l (i + 1) m) := hM2
        obtain ⟨d, hdE⟩ : ∃ d, im l i = d := ⟨_, rfl⟩
        obtain ⟨q, hqE⟩ : ∃ q, k + 1 = q := ⟨_, rfl⟩
        rw [hdE] at hcl hcm hfm hd64
        rw [hqE] at hcm
        have hw2 : IntKind.i64.wrap ((q : Int) - 1) = (k : Int) := by rw [IntWalk.i64_in _ (by omega)]; omega
        have hdI : (d : Int) < 64 := by omega
        have hq0 : ((q : Int) == 0) = false := by rw [beq_eq_false_iff_ne]; omega
        have hq0' : ¬ (q : Int) = 0 := by omega
        clear hF hM hM2 hst ex h0 hk hdE hqE hkE
        go_wp2_with fail
        go_roundw
        case rel => exact ⟨i + 1, m, by go_num, by omega, HM2.out, HN.out⟩
        case measure => simp [intOf]; omega
    · have hiI : ¬ (i : Int) < l.length := by omega
      have HE : Hid (i = l.length) := by show i = _; omega
      clear hF hM
      go_wp2_with fail
      go_ret2
      have h := HF.out.row
      rw [HE.out, kmix_end] at h
      exact ⟨_, rfl, h, HF.out.below⟩

end Go.Proofs.Ythglficjhgpegaa
