/- trans: Inverse. -/
import Derived.Test.YtihjhkbbpphocaaAn
namespace Go.Proofs.Ytihjhkbbpphocaa
open Go Go.RowKit Go.Lib
set_option linter.unusedVariables false

/-- No two points have one image. -/
def Inj (l : List Nat) : Prop := ∀ i j, i < l.length → j < l.length → im l i = im l j → i = j
/-- What leads back, of the first i points. -/
def bk (l : List Nat) : Nat → Nat → Nat
  | 0, _ => 0
  | i + 1, j => if j = im l i then i else bk l i j
theorem bk_succ (l : List Nat) (i : Nat) : bk l (i + 1) = fun j => if j = im l i then i else bk l i j := rfl
theorem bk_lt (l : List Nat) : ∀ (i j : Nat), bk l i j ≤ i - 1
  | 0, _ => by simp [bk]
  | i + 1, j => by
    have := bk_lt l i j
    rw [bk_succ]
    show (if j = im l i then i else bk l i j) ≤ _
    split <;> omega
theorem bk_im {l : List Nat} (h : Inj l) : ∀ {k i : Nat}, k ≤ l.length → i < k → bk l k (im l i) = i
  | 0, i, _, hi => by omega
  | k + 1, i, hk, hi => by
    show (if im l i = im l k then k else bk l k (im l i)) = i
    by_cases e : i = k
    · rw [e, if_pos rfl]
    · rw [if_neg (fun q => e (h i k (by omega) (by omega) q))]
      exact bk_im h (by omega) (by omega)
def inv (l : List Nat) : List Nat := tb (bk l l.length) l.length
theorem inv_len (l : List Nat) : (inv l).length = l.length := tb_len _ _
theorem inv_im {l : List Nat} (h : Inj l) (hl : Tf l) {i : Nat} (hi : i < l.length) : im (inv l) (im l i) = i := by
  unfold inv
  rw [tb_im _ (hl.lt i hi), bk_im h (Nat.le_refl _) hi]
theorem inv_tf {l : List Nat} (hl : Tf l) : Tf (inv l) := ⟨by rw [inv_len]; exact hl.pos, by rw [inv_len]; exact hl.le, fun i hi => by
  rw [inv_len] at hi ⊢
  unfold inv
  rw [tb_im _ hi]
  have := bk_lt l l.length i
  have := hl.pos
  omega⟩
theorem onto {l : List Nat} (h : Inj l) (hl : Tf l) {j : Nat} (hj : j < l.length) : ∃ i, i < l.length ∧ im l i = j := by
  by_cases q : ∃ i, i < l.length ∧ im l i = j
  · exact q
  · exfalso
    have hn : (j :: (List.range l.length).map (im l)).Nodup := by
      rw [List.nodup_cons]
      refine ⟨fun hm => ?_, ?_⟩
      · obtain ⟨i, hi, e⟩ := List.mem_map.1 hm
        exact q ⟨i, List.mem_range.1 hi, e⟩
      · exact map_nodup (fun a b hab hb e => by have := h a b (by omega) hb e; omega)
    have := nodup_le l.length _ hn (fun x hx => by
      rcases List.mem_cons.1 hx with rfl | hx
      · exact hj
      · obtain ⟨i, hi, rfl⟩ := List.mem_map.1 hx
        exact hl.lt i (List.mem_range.1 hi))
    simp at this
    omega
theorem im_inv {l : List Nat} (h : Inj l) (hl : Tf l) {j : Nat} (hj : j < l.length) : im l (im (inv l) j) = j := by
  obtain ⟨i, hi, rfl⟩ := onto h hl hj
  rw [inv_im h hl hi]
theorem inv_uniq {l m : List Nat} (h : Inj l) (hl : Tf l) (hm : m.length = l.length) (he : ∀ i, i < l.length → im m (im l i) = i) : inv l = m := by
  apply im_ext (by rw [inv_len, hm])
  intro j hj
  rw [inv_len] at hj
  obtain ⟨i, hi, rfl⟩ := onto h hl hj
  rw [inv_im h hl hi, he i hi]
theorem inv_inj {l : List Nat} (h : Inj l) (hl : Tf l) : Inj (inv l) := by
  intro i j hi hj e
  rw [inv_len] at hi hj
  rw [← im_inv h hl hi, ← im_inv h hl hj, e]
theorem inv_inv {l : List Nat} (h : Inj l) (hl : Tf l) : inv (inv l) = l := inv_uniq (inv_inj h hl) (inv_tf hl) (inv_len l).symm (fun i hi => by
  rw [inv_len] at hi
  exact im_inv h hl hi)
theorem cmp_inj {l m : List Nat} (hl : Tf l) (e : l.length = m.length) (h1 : Inj l) (h2 : Inj m) : Inj (cmp l m) := by
  intro i j hi hj q
  rw [cmp_len] at hi hj
  rw [cmp_im _ _ hi, cmp_im _ _ hj] at q
  exact h1 i j hi hj (h2 _ _ (e ▸ hl.lt i hi) (e ▸ hl.lt j hj) q)
theorem inv_cmp {l m : List Nat} (hl : Tf l) (hm : Tf m) (e : l.length = m.length) (h1 : Inj l) (h2 : Inj m) : inv (cmp l m) = cmp (inv m) (inv l) := by
  apply inv_uniq (cmp_inj hl e h1 h2) (cmp_tf hl hm e) (by rw [cmp_len, inv_len, cmp_len, e])
  intro i hi
  rw [cmp_len] at hi
  rw [cmp_im _ _ hi, cmp_im _ _ (by rw [inv_len]; exact hm.lt _ (e ▸ hl.lt i hi)), inv_im h2 hm (e ▸ hl.lt i hi), inv_im h1 hl hi]
theorem cmp_inv {l : List Nat} (hl : Tf l) (h : Inj l) : cmp l (inv l) = stl l.length := by
  apply im_ext (by rw [cmp_len, stl_len])
  intro i hi
  rw [cmp_len] at hi
  rw [cmp_im _ _ hi, inv_im h hl hi, stl_im hi]
theorem inj_cyc {l : List Nat} (hl : Tf l) (h : Inj l) {x p : Nat} (c : Cyc l x p) : x = 0 := by
  rcases Nat.eq_zero_or_pos x with q | q
  · exact q
  · exfalso
    have h1 := (c.pwr x p c.pos).2 ⟨Nat.le_refl _, Nat.dvd_refl _⟩
    have h2 : pwr l (x - 1 + p) = pwr l (x - 1) := by
      rw [pwr_eq_iff] at h1 ⊢
      intro i hi
      have := h1 i hi
      have e1 : x + p = (x - 1 + p) + 1 := by omega
      have e2 : x = (x - 1) + 1 := by omega
      rw [e1] at this
      conv at this => rhs; rw [e2]
      exact h _ _ (orb_lt hl.lt hi _) (orb_lt hl.lt hi _) this
    have := ((c.pwr (x - 1) p c.pos).1 h2).1
    omega
theorem bk_same {l : List Nat} (hl : Tf l) : same2 64 l.length l.length (upto (fun i => bk l l.length (im l i)) l.length) (im (stl l.length)) = true ↔ Inj l := by
  rw [same2_iff]
  constructor
  · rintro ⟨_, h⟩ i j hi hj e
    have hle := hl.le
    have h1 := h i (by omega)
    have h2 := h j (by omega)
    unfold upto at h1 h2
    rw [if_pos hi, stl_im hi] at h1
    rw [if_pos hj, stl_im hj] at h2
    have h1' : bk l l.length (im l i) = i := h1
    have h2' : bk l l.length (im l j) = j := h2
    rw [← h1', ← h2', e]
  · intro h
    refine ⟨rfl, fun k _ => ?_⟩
    unfold upto
    split
    · rename_i hk
      rw [stl_im hk]
      exact bk_im h (Nat.le_refl _) hk
    · rw [im_ge (by rw [stl_len]; omega)]
/-- What stands in Inverse: the answer's block, the images, what leads back. -/
structure IvAt (w wr : World) (m b : Nat) (l : List Nat) (f : Nat → Nat) : Prop where
  res : TrAt wr (w.heap.size + 1) 0 (fun _ => 0)
  src : MvAt wr m l.length (im l)
  out : MvAt wr b l.length f
  below : Below w.heap.size w wr
theorem IvAt.stay {w wr y : World} {m b : Nat} {l : List Nat} {f : Nat → Nat} (h : IvAt w wr m b l f) (hb : Below wr.heap.size wr y) : IvAt w y m b l f :=
  ⟨h.res.of (hb.block _ h.res.lt), h.src.of (hb.block _ h.src.lt), h.out.of (hb.block _ h.out.lt), h.below.trans (hb.mono h.below.size)⟩
theorem IvAt.drew {w wr : World} {m b : Nat} {l : List Nat} {f : Nat → Nat} (h : IvAt w wr m b l f) : IvAt w wr.drew m b l f := ⟨h.res.of rfl, h.src.of rfl, h.out.of rfl, h.below.drew⟩
theorem stl_mv (n : Nat) : mvL (stl n) = .agg (mvC n (im (stl n))) := by unfold mvL mvV; rw [stl_len]

set_option maxHeartbeats 2000000 in
set_option maxRecDepth 100000 in
theorem inverse_bad (N : Int) (g : Nat → Nat) (hg : W64 g) (h : ¬ okT N g) (w : World) :
    Calls Try.prog 44 #[.agg (trC N g)] w fun e w' => e = .returned (.tuple #[trZ, .int .i64 130]) ∧ Below w.heap.size w w' := by
  have HZ : Hid (TrAt ((w.alloc (.cells (trC N g) 26)).alloc (.cells #[.int .i64 0, .int .u64 0, .int .u64 0, .int .u64 0, .int .u64 0, .int .u64 0, .int .u64 0, .int .u64 0] 26)) (w.heap.size + 1) 0 (fun _ => 0)) := tr_z2 _ _
  have H1 : Hid (((w.alloc (.cells (trC N g) 26)).alloc (.cells #[.int .i64 0, .int .u64 0, .int .u64 0, .int .u64 0, .int .u64 0, .int .u64 0, .int .u64 0, .int .u64 0] 26)).heap[w.heap.size]? = some (.cells (trC N g) 26 (0, 0))) := by
    show _ = _
    rw [heap_allo (by simp)]; exact heap_last _ _
  have HB0 : Hid (Below w.heap.size w ((w.alloc (.cells (trC N g) 26)).alloc (.cells #[.int .i64 0, .int .u64 0, .int .u64 0, .int .u64 0, .int .u64 0, .int .u64 0, .int .u64 0, .int .u64 0] 26))) := ((Below.refl _ _).alloc (Nat.le_refl _) _).alloc (by simp) _
  have HS0 : Hid (((w.alloc (.cells (trC N g) 26)).alloc (.cells #[.int .i64 0, .int .u64 0, .int .u64 0, .int .u64 0, .int .u64 0, .int .u64 0, .int .u64 0, .int .u64 0] 26)).heap.size = w.heap.size + 2) := by show _ = _; simp
  have hz := Try.zero_mv
  have hne := mvC_ne 0 fun _ => 0
  have hsz := mvC_size 0 fun _ => 0
  go_enter Try.func44, Try.ntmps44
  go_wp2_with (refine wpList_load_row rfl 26 _ rfl (w.heap.size) rfl 26 (trC N g) (0, 0) _ (H1.out) Try.underlying26 rfl (rfl) ?_)
  refine (open_bad N g hg h _).mono ?_
  rintro e w1 ⟨rfl, hB1⟩
  have HB1 : Hid (Below w.heap.size w w1) := HB0.out.trans (hB1.mono (by rw [HS0.out]; omega))
  have HZ1 : Hid (TrAt w1 (w.heap.size + 1) 0 (fun _ => 0)) := HZ.out.of (hB1.block _ HZ.out.lt)
  clear hB1
  have hst := mvz_st w1
  have HZ2 : Hid (TrAt (w1.alloc (.cells (mvC 0 fun _ => 0) 79)) (w.heap.size + 1) 0 (fun _ => 0)) := HZ1.out.of (heap_allo HZ1.out.lt _)
  obtain ⟨c0, c1, c2, c3, c4, c5, c6, c7⟩ := (HZ2.out).gets
  have f0 := (HZ2.out).frozen 0
  have f1 := (HZ2.out).frozen 1
  have f2 := (HZ2.out).frozen 2
  have f3 := (HZ2.out).frozen 3
  have f4 := (HZ2.out).frozen 4
  have f5 := (HZ2.out).frozen 5
  have f6 := (HZ2.out).frozen 6
  have f7 := (HZ2.out).frozen 7
  go_wp2_with fail
  exact bodyPost_ret (results_tr_tmp rfl rfl (put8_at HZ2.out)) rfl ⟨rfl, put8_below (HB1.out.alloc HB1.out.size _) (by omega)⟩
/-- What Inverse answers of a transformation. -/
def ivV (l : List Nat) (e : Value) : Prop := (Inj l ∧ e = .tuple #[.agg (tC (inv l)), .int .i64 0]) ∨ (¬ Inj l ∧ e = .tuple #[trZ, .int .i64 130])
def IvQ (l : List Nat) (w : World) (e : Ending) (w' : World) : Prop := ∃ v, ivV l v ∧ e = .returned v ∧ Below w.heap.size w w'

set_option maxHeartbeats 4000000 in
set_option maxRecDepth 100000 in
theorem inverse_any (l : List Nat) (hl : Tf l) (w : World) :
    Calls Try.prog 44 #[.agg (tC l)] w (IvQ l w) := by
  show Calls _ _ #[.agg (trC l.length (pk (im l) l.length))] _ (IvQ l w)
  have HZ : Hid (TrAt ((w.alloc (.cells (trC l.length (pk (im l) l.length)) 26)).alloc (.cells #[.int .i64 0, .int .u64 0, .int .u64 0, .int .u64 0, .int .u64 0, .int .u64 0, .int .u64 0, .int .u64 0] 26)) (w.heap.size + 1) 0 (fun _ => 0)) := tr_z2 _ _
  have H1 : Hid (((w.alloc (.cells (trC l.length (pk (im l) l.length)) 26)).alloc (.cells #[.int .i64 0, .int .u64 0, .int .u64 0, .int .u64 0, .int .u64 0, .int .u64 0, .int .u64 0, .int .u64 0] 26)).heap[w.heap.size]? = some (.cells (trC l.length (pk (im l) l.length)) 26 (0, 0))) := by
    show _ = _
    rw [heap_allo (by simp)]; exact heap_last _ _
  have HB0 : Hid (Below w.heap.size w ((w.alloc (.cells (trC l.length (pk (im l) l.length)) 26)).alloc (.cells #[.int .i64 0, .int .u64 0, .int .u64 0, .int .u64 0, .int .u64 0, .int .u64 0, .int .u64 0, .int .u64 0] 26))) := ((Below.refl _ _).alloc (Nat.le_refl _) _).alloc (by simp) _
  have HS0 : Hid (((w.alloc (.cells (trC l.length (pk (im l) l.length)) 26)).alloc (.cells #[.int .i64 0, .int .u64 0, .int .u64 0, .int .u64 0, .int .u64 0, .int .u64 0, .int .u64 0, .int .u64 0] 26)).heap.size = w.heap.size + 2) := by show _ = _; simp
  have hz := Try.zero_mv
  have hne := mvC_ne 0 fun _ => 0
  have hsz := mvC_size 0 fun _ => 0
  go_enter Try.func44, Try.ntmps44
  go_wp2_with (refine wpList_load_row rfl 26 _ rfl (w.heap.size) rfl 26 (trC l.length (pk (im l) l.length)) (0, 0) _ (H1.out) Try.underlying26 rfl (rfl) ?_)
  refine (open_ok l hl _).mono ?_
  rintro e w1 ⟨rfl, hB1⟩
  have HB1 : Hid (Below w.heap.size w w1) := HB0.out.trans (hB1.mono (by rw [HS0.out]; omega))
  have HZ1 : Hid (TrAt w1 (w.heap.size + 1) 0 (fun _ => 0)) := HZ.out.of (hB1.block _ HZ.out.lt)
  have HS1 : Hid (w.heap.size + 2 ≤ w1.heap.size) := by have := hB1.size; rw [HS0.out] at this; exact this
  clear hB1
  have hst := st_mvNew2 w1 l.length (im l)
  have hszl := mvC_size l.length (im l)
  have hmn := mvC_n' l.length (im l)
  have hst2 := st_mvNew (w1.alloc (.cells (mvC l.length (im l)) 79)) l.length
  rw [World.size_alloc] at hst2
  have HI : Hid (IvAt w ((w1.alloc (.cells (mvC l.length (im l)) 79)).alloc (.cells (mvC l.length fun _ => 0) 79)) w1.heap.size (w1.heap.size + 1) l (bk l 0)) := by
    refine ⟨?_, ?_, ?_, (HB1.out.alloc HB1.out.size _).alloc (by rw [World.size_alloc]; exact Nat.le_succ_of_le HB1.out.size) _⟩
    · exact (HZ1.out.of (heap_allo HZ1.out.lt _)).of (heap_allo (by rw [World.size_alloc]; have := HZ1.out.lt; omega) _)
    · exact (mv_last w1 _ _).of (heap_allo (by simp) _)
    · exact mv_last2 _ _ _ _
  go_wp2_with fail
  clear hst hst2 hszl hmn hz hne hsz
  go_loopw [22, 7] (fun vi _ wr => ∃ i : Nat, vi = .int .i64 i ∧ i ≤ l.length ∧ IvAt w wr w1.heap.size (w1.heap.size + 1) l (bk l i)) (fun vi _ _ => l.length - (intOf vi).toNat)
  case atStart => exact ⟨0, rfl, Nat.zero_le _, HI.out⟩
  case round =>
    clear HI
    obtain ⟨i, rfl, hin, hF⟩ := hrel
    have HF : Hid (IvAt w wr w1.heap.size (w1.heap.size + 1) l (bk l i)) := hF
    by_cases hlt : i < l.length
    · have hle := hl.le
      have hiI : (i : Int) < l.length := by omega
      have hi64 : (i : Int) < 64 := by omega
      have hd64 := hl.lt64 i hlt
      have hc1 := hF.src.cell' (i := i) (by omega)
      have hw8 := u8_in (a := i) (by omega)
      have hcl := hF.out.cell' hd64
      have hfz := hF.out.frozen (1 + im l i)
      have HN : Hid (IvAt w (wr.setCell ⟨w1.heap.size + 1, 1 + im l i, none⟩ (.int .u8 (i : Int))) w1.heap.size (w1.heap.size + 1) l (bk l (i + 1))) := by
        refine ⟨hF.res.of (heap_set_oth (by have := HS1.out; omega)), hF.src.of (heap_set_oth (by omega)), ?_, hF.below.setCell (p := ⟨w1.heap.size + 1, 1 + im l i, none⟩) (by have := HS1.out; simp; omega) _⟩
        rw [bk_succ]
        exact hF.out.set' i hd64
      obtain ⟨d, hdE⟩ : ∃ d, im l i = d := ⟨_, rfl⟩
      rw [hdE] at hc1 hcl hfz HN hd64
      have hdI : (d : Int) < 64 := by omega
      clear hF hdE
      go_wp2_with fail
      go_roundw
      case rel => exact ⟨i + 1, by go_num, by omega, HN.out⟩
      case measure => simp [intOf]; omega
    · have hiI : ¬ (i : Int) < l.length := by omega
      have e : i = l.length := by omega
      rw [e] at HF
      have HIL : Hid (i = l.length) := e
      clear hF e
      go_wp2_with fail
      refine wp_region_held_drew (S := fun w' => IvAt w w' w1.heap.size (w1.heap.size + 1) l (bk l l.length)) (by kernel_rfl) HF.out.drew (fun hHeld => ?_)
      refine wpAnyH_take (i := 0) (v := .agg (mvC l.length (im l))) rfl (by kernel_rfl) (by kernel_rfl) (by kernel_rfl) (fun _ _ _ h => h) (Or.inl ⟨by rfl, ?_⟩) (by assumption) ?_
      · intro w' hS
        exact ex_load_row (x := .tmp 4) rfl rfl (lv_mv hS.src)
      refine wpAnyH_take (i := 1) (v := .agg (mvC l.length (bk l l.length))) rfl (by kernel_rfl) (by kernel_rfl) (by kernel_rfl) (fun _ _ _ h => h) (Or.inl ⟨by rfl, ?_⟩) (by assumption) ?_
      · intro w' hS
        exact ex_load_row (x := .tmp 6) rfl rfl (lv_mv hS.out)
      refine wpAnyH_take (i := 3) (v := .pointer (some ⟨w1.heap.size, 0, none⟩)) rfl (by kernel_rfl) (by kernel_rfl) (by kernel_rfl) (fun _ _ _ h => h) (Or.inl ⟨by rfl, ?_⟩) (by assumption) ?_
      · intro w' hS
        go_simp
      refine wpAnyH_take (i := 4) (v := .int .i64 (l.length : Int)) rfl (by kernel_rfl) (by kernel_rfl) (by kernel_rfl) (fun _ _ _ h => h) (Or.inl ⟨by rfl, ?_⟩) (by assumption) ?_
      · intro w' hS
        have hcn := hS.src.cellN
        clear hS
        go_simp
      refine wpAnyH_ready (rs := [2]) (by kernel_rfl) (by simp) ?_
      refine AllReadyH.cons rfl (fun K hK => ?_) AllReadyH.nil
      go_simp
      refine (then_any l.length l.length (im l) (bk l l.length) hl.le hl.lt64 _).mono ?_
      rintro e y1 ⟨rfl, hy1⟩
      unfold mvV
      go_wp2_with fail
      refine hK.out _ _ ?_ (fun hHeld2 => ?_)
      · exact hHeld.stay hy1
      clear hK K
      refine wpAnyH_ready (rs := [5]) (by kernel_rfl) (by simp) ?_
      refine AllReadyH.cons rfl (fun K hK => ?_) AllReadyH.nil
      go_simp
      refine (still_any l.length hl.le _).mono ?_
      rintro e y2 ⟨rfl, hy2⟩
      rw [stl_mv]
      go_wp2_with fail
      refine hK.out _ _ ?_ (fun hHeld3 => ?_)
      · exact hHeld2.stay hy2
      clear hK K
      refine wpAnyH_take (i := 6) (v := .bool (!same2 64 l.length l.length (upto (fun i => bk l l.length (im l i)) l.length) (im (stl l.length)))) rfl (by kernel_rfl) (by kernel_rfl) (by kernel_rfl) (fun _ _ _ h => h) (Or.inl ⟨by rfl, ?_⟩) (by assumption) ?_
      · intro w' hS
        exact ex_neq_mv (x := .tmp 36) (y := .tmp 39) rfl rfl rfl w'
      refine wpAnyH_done (by kernel_rfl) ?_ _
      simp only [Act.put]
      have HR : Hid (IvAt w y2 w1.heap.size (w1.heap.size + 1) l (bk l l.length)) := hHeld3
      by_cases hsm : same2 64 l.length l.length (upto (fun i => bk l l.length (im l i)) l.length) (im (stl l.length)) = true
      · have HE : Hid (Inj l) := (bk_same hl).1 hsm
        rw [hsm]
        clear hHeld hHeld2 hHeld3 hsm hy1 hy2
        go_wp2_with (refine wpList_load_row rfl 79 _ rfl (w1.heap.size + 1) rfl 79 (mvC l.length (bk l l.length)) (0, 0) _ (HR.out.out) Try.underlying79 rfl (inf_mv _ _) ?_)
        refine (pack_any l.length (bk l l.length) hl.le (fun i hi => by have := bk_lt l l.length i; have := hl.le; have := hl.pos; omega) _).mono ?_
        rintro e y3 ⟨rfl, hy3⟩
        have HR3 : Hid (IvAt w y3 w1.heap.size (w1.heap.size + 1) l (bk l l.length)) := HR.out.stay hy3
        have hs := st_tr (M := (l.length : Int)) (g := pk (bk l l.length) l.length) HR3.out.res
        clear hy3
        unfold trV
        go_wp2_with fail
        refine bodyPost_ret (results_tr_tmp rfl rfl HR3.out.res.row) rfl ⟨_, .inl ⟨HE.out, ?_⟩, rfl, below_row HR3.out.below (by omega)⟩
        have e : trV l.length (pk (bk l l.length) l.length) = .agg (tC (inv l)) := by
          unfold tC trV
          rw [inv_len]
          refine congrArg Value.agg (trC_congr ?_)
          intro k _
          apply pk_congr
          intro i hi
          unfold inv
          rw [tb_im _ hi]
        rw [← e]
        rfl
      · have HE : Hid (¬ Inj l) := fun h => hsm ((bk_same hl).2 h)
        have hsf : same2 64 l.length l.length (upto (fun i => bk l l.length (im l i)) l.length) (im (stl l.length)) = false := by simpa using hsm
        rw [hsf]
        clear hHeld hHeld2 hHeld3 hsm hsf hy1 hy2
        obtain ⟨c0, c1, c2, c3, c4, c5, c6, c7⟩ := (HR.out.res).gets
        have f0 := (HR.out.res).frozen 0
        have f1 := (HR.out.res).frozen 1
        have f2 := (HR.out.res).frozen 2
        have f3 := (HR.out.res).frozen 3
        have f4 := (HR.out.res).frozen 4
        have f5 := (HR.out.res).frozen 5
        have f6 := (HR.out.res).frozen 6
        have f7 := (HR.out.res).frozen 7
        go_wp2_with fail
        exact bodyPost_ret (results_tr_tmp rfl rfl (put8_at HR.out.res)) rfl ⟨_, .inr ⟨HE.out, rfl⟩, rfl, put8_below HR.out.below (by omega)⟩

end Go.Proofs.Ytihjhkbbpphocaa
