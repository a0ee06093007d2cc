/- The document's At, with. -/
import Derived.Test.YthglficjhgpegaaCn
import Derived.Test.YthglficjhgpegaaCc
namespace Go.Proofs.Ythglficjhgpegaa
open Go Go.RowKit Go.Lib
set_option linter.unusedVariables false

set_option maxHeartbeats 2000000 in
set_option maxRecDepth 100000 in
theorem rat_bad (N : Int) (g : Nat → Nat) (hg : W64 g) (h : ¬ okT N g) (i : Int) (w : World) :
    Calls Try.prog 22 #[.agg (trC N g), .int .i64 i] w fun e w' => e = .returned (.tuple #[.int .i64 0, .int .i64 130]) ∧ Below w.heap.size w w' := by
  have H1 : Hid (TrAt (w.alloc (.cells (trC N g) 26)) w.heap.size N g) := heap_last _ _
  have HB0 : Hid (Below w.heap.size w (w.alloc (.cells (trC N g) 26))) := (Below.refl _ _).alloc (Nat.le_refl _) _
  go_enter Try.func22, Try.ntmps22
  go_wp2_with (refine wpList_load_row rfl 26 _ rfl (w.heap.size) rfl 26 (trC N g) (0, 0) _ (H1.out) Try.underlying26 rfl (rfl) ?_)
  refine (rlist_bad N g hg h _).mono ?_
  rintro e w1 ⟨rfl, hB1⟩
  have HB1 : Hid (Below w.heap.size w w1) := HB0.out.trans (hB1.mono (by simp))
  clear hB1
  go_wp2_with fail
  go_ret2
  exact ⟨rfl, HB1.out⟩

set_option maxHeartbeats 2000000 in
set_option maxRecDepth 100000 in
theorem rat_ok (l : List Nat) (hl : Tf l) (i : Int) (w : World) :
    Calls Try.prog 22 #[.agg (tC l), .int .i64 i] w fun e w' => e = .returned (atV l i) ∧ Below w.heap.size w w' := by
  have H1 : Hid (TL (w.alloc (.cells (tC l) 26)) w.heap.size l) := heap_last _ _
  have HB0 : Hid (Below w.heap.size w (w.alloc (.cells (tC l) 26))) := (Below.refl _ _).alloc (Nat.le_refl _) _
  have hle := hl.le
  unfold atV
  by_cases h0 : 0 ≤ i
  · by_cases h1 : i < l.length
    · obtain ⟨k, rfl⟩ : ∃ k : Nat, i = k := ⟨i.toNat, by omega⟩
      rw [if_pos ⟨h0, h1⟩, Int.toNat_natCast]
      go_enter Try.func22, Try.ntmps22
      go_wp2_with (refine wl_load rfl rfl (H1.out) rfl ?_)
      refine (rlist_ok l hl _).mono ?_
      rintro e w1 ⟨v', rfl, hO, hB1⟩
      obtain ⟨ga, gcap, rfl⟩ := own_shape hO
      have HB1 : Hid (Below w.heap.size w w1) := HB0.out.trans (hB1.mono (by simp))
      obtain ⟨g, hga⟩ : ∃ g, ga = some ⟨g, 0, none⟩ := by
        rcases hO.2 with ⟨_, h0⟩ | ⟨g', cap', cur, hv, _⟩
        · omega
        · simp only [Value.slice.injEq] at hv
          exact ⟨g', hv.1⟩
      subst hga
      have hc := (hO.cellAt k (by omega)).trans (pZ_get (by omega))
      clear hB1 hO
      go_wp2_with fail
      go_ret2
      exact ⟨rfl, HB1.out⟩
    · rw [if_neg (fun h => h1 h.2)]
      go_enter Try.func22, Try.ntmps22
      go_wp2_with (refine wl_load rfl rfl (H1.out) rfl ?_)
      refine (rlist_ok l hl _).mono ?_
      rintro e w1 ⟨v', rfl, hO, hB1⟩
      obtain ⟨ga, gcap, rfl⟩ := own_shape hO
      have HB1 : Hid (Below w.heap.size w w1) := HB0.out.trans (hB1.mono (by simp))

      clear hB1 hO
      go_wp2_with fail
      go_ret2
      exact ⟨rfl, HB1.out⟩
  · rw [if_neg (fun h => h0 h.1)]
    by_cases hx : True
    · skip
      go_enter Try.func22, Try.ntmps22
      go_wp2_with (refine wl_load rfl rfl (H1.out) rfl ?_)
      refine (rlist_ok l hl _).mono ?_
      rintro e w1 ⟨v', rfl, hO, hB1⟩
      obtain ⟨ga, gcap, rfl⟩ := own_shape hO
      have HB1 : Hid (Below w.heap.size w w1) := HB0.out.trans (hB1.mono (by simp))

      clear hB1 hO
      go_wp2_with fail
      go_ret2
      exact ⟨rfl, HB1.out⟩
    · exact absurd trivial hx

/-- A point of a set of points: the first word alone. -/
theorem with_word {N i : Nat} (hi : i < 64) : ∀ k, k < 8 → (if k = 0 then word N 0 ||| 2 ^ i else word N k) = word (N ||| 2 ^ i) k := by
  intro k _
  rw [word_or_bit, show i / 64 = 0 from by omega, show i % 64 = i from by omega]
  by_cases h : k = 0
  · rw [if_pos h, if_pos h, h]
  · rw [if_neg h, if_neg h]
set_option maxHeartbeats 2000000 in
set_option maxRecDepth 100000 in
theorem rwith13_any (N i : Nat) (hi : i < 64) (w : World) :
    Calls Try.prog 50 #[setV N, .int .i64 i] w fun e w' => e = .returned (setV (N ||| 2 ^ i)) ∧ Below w.heap.size w w' := by
  have HA : Hid (Cells8 ((w.alloc (.cells (cellsF (word N)) 44)).alloc (.cells (cellsF (fun _ => 0)) 44)) w.heap.size (word N)) := (Cells8.last w _).alloc _
  have HC : Hid (Cells8 ((w.alloc (.cells (cellsF (word N)) 44)).alloc (.cells (cellsF (fun _ => 0)) 44)) (w.heap.size + 1) (fun _ => 0)) := by
    have := Cells8.last (w.alloc (.cells (cellsF (word N)) 44)) (fun _ => 0)
    rwa [World.size_alloc] at this
  have HB : Hid (Below w.heap.size w ((w.alloc (.cells (cellsF (word N)) 44)).alloc (.cells (cellsF (fun _ => 0)) 44))) := ((Below.refl _ _).alloc (Nat.le_refl _) _).alloc (by simp) _
  obtain ⟨W, hW⟩ : ∃ W, (w.alloc (.cells (cellsF (word N)) 44)).alloc (.cells (cellsF (fun _ => 0)) 44) = W := ⟨_, rfl⟩
  have hq : (i : Int).tdiv 64 = 0 := by rw [Int.tdiv_eq_ediv_of_nonneg (by omega)]; omega
  have hr : (i : Int).tmod 64 = i := by rw [Int.tmod_eq_emod_of_nonneg (by omega)]; omega
  have hsh : IntKind.u64.wrap (2 ^ i) = ((2 ^ i : Nat) : Int) := by
    have := wrap_nat (2 ^ i) (two_pow_lt _ (by omega))
    simpa using this
  have hiI : (i : Int) < 64 := by omega
  unfold setV
  unfold cellsF at hW HA HC HB
  unfold cellsF
  go_enter Try.func50, Try.ntmps50
  go_wp2_with fail
  have e0 : bits .or .u64 ((word N 0 : Nat) : Int) (2 ^ i) = ((word N 0 ||| 2 ^ i : Nat) : Int) := or_u64 _ (2 ^ i) rfl (by simp) (word_lt _ _) (two_pow_lt _ hi)
  rw [e0]
  have hC8 := Cells8.last (w.alloc (.cells (cellsF (fun k => if k = 0 then word N 0 ||| 2 ^ i else word N k)) 44)) (fun k => if k = 0 then word N 0 ||| 2 ^ i else word N k)
  rw [World.size_alloc] at hC8
  have hBl : Below w.heap.size w ((w.alloc (.cells (cellsF (fun k => if k = 0 then word N 0 ||| 2 ^ i else word N k)) 44)).alloc (.cells (cellsF (fun k => if k = 0 then word N 0 ||| 2 ^ i else word N k)) 44)) := ((Below.refl _ _).alloc (Nat.le_refl _) _).alloc (by simp) _
  exact bodyPost_ret (results_set rfl rfl hC8) rfl ⟨congrArg (fun c => Ending.returned (Value.agg c)) (cellsF_congr (with_word hi)), hBl⟩

/-- What stands in the loop of the document's Image and Fixed. -/
structure ImAt (w w1 wr : World) (N : Nat) : Prop where
  res : Cells8 wr (w.heap.size + 1) (fun _ => 0)
  out : Cells8 wr w1.heap.size (word N)
  below : Below w1.heap.size w1 wr
theorem ImAt.next {w w1 wr X : World} {N M : Nat} (h : ImAt w w1 wr N) (h1 : w.heap.size + 1 < w1.heap.size) (hb : Below wr.heap.size wr X) : ImAt w w1 (X.setRow w1.heap.size (cellsF (word M))) M := by
  have hC : Cells8 X w1.heap.size (word N) := h.out.of_heap (hb.block _ h.out.lt)
  have hB : Below w1.heap.size w1 (X.setRow w1.heap.size (cellsF (word M))) := below_row (h.below.trans (hb.mono h.below.size)) (Nat.le_refl _)
  exact ⟨(h.res.of_heap (h.below.block _ (by omega)).symm |>.of_heap (hB.block _ (by omega))), hC.row, hB⟩
theorem ofL_pI {l : List Nat} {i : Nat} (h : i < l.length) : ofL ((pI l).take (i + 1)) = ofL ((pI l).take i) ||| 2 ^ im l i := by
  rw [ofL_take_succ _ _ (by rw [pI_len]; exact h), pI_get h, Int.toNat_natCast]
theorem ofL_app (xs : List Int) (x : Nat) : ofL (xs ++ [(x : Int)]) = ofL xs ||| 2 ^ x := by simp [ofL, List.foldl_append]
/-- What the document's List answers, said of a list. -/
def RL (N : Int) (G : Nat → Nat) (l : List Nat) (E : Int) : Prop := ∀ X, Calls Try.prog 21 #[.agg (trC N G)] X fun e w' => ∃ v', e = .returned (.tuple #[v', .int .i64 E]) ∧ w'.ownsRow X.heap.size 3 1 v' l.length (zC (pI l)) ∧ Below X.heap.size X w'
theorem RL.ok {l : List Nat} (hl : Tf l) : RL l.length (pk (im l) l.length) l 0 := fun X => rlist_ok l hl X
theorem RL.bad {N : Int} {G : Nat → Nat} (hg : W64 G) (h : ¬ okT N G) : RL N G [] 130 := fun X => (rlist_bad N G hg h X).mono (fun e w' ⟨h1, h2⟩ => ⟨_, h1, World.ownsRow_nil _ _ _ _, h2⟩)

set_option maxHeartbeats 4000000 in
set_option maxRecDepth 100000 in
theorem rimage_gen (n : Int) (G : Nat → Nat) (l : List Nat) (E : Int) (hL : RL n G l E) (hle : l.length ≤ 64) (hlt64 : ∀ i, i < l.length → im l i < 64) (w : World) :
    Calls Try.prog 23 #[.agg (trC n G)] w fun e w' => e = .returned (.tuple #[.agg (cellsF (word (ofL ((pI l).take l.length)))), .int .i64 E]) ∧ Below w.heap.size w w' := by
  have H1 : Hid (TrAt ((w.alloc (.cells (trC n G) 26)).alloc (.cells (cellsF (fun _ => 0)) 44)) w.heap.size n G) := (heap_allo (by simp) _).trans (heap_last _ _)
  have HC : Hid (Cells8 ((w.alloc (.cells (trC n G) 26)).alloc (.cells (cellsF (fun _ => 0)) 44)) (w.heap.size + 1) (fun _ => 0)) := by
    have := Cells8.last (w.alloc (.cells (trC n G) 26)) (fun _ => 0)
    rwa [World.size_alloc] at this
  have HB0 : Hid (Below w.heap.size w ((w.alloc (.cells (trC n G) 26)).alloc (.cells (cellsF (fun _ => 0)) 44))) := ((Below.refl _ _).alloc (Nat.le_refl _) _).alloc (by simp) _
  unfold cellsF at H1 HC HB0
  go_enter Try.func23, Try.ntmps23
  go_wp2_with (refine wpList_load_row rfl 26 _ rfl (w.heap.size) rfl 26 (trC n G) (0, 0) _ (H1.out) Try.underlying26 rfl (rfl) ?_)
  refine (hL _).mono ?_
  rintro e w1 ⟨v', rfl, hO, hB1⟩
  clear hL
  obtain ⟨ga, gcap, rfl⟩ := own_shape hO
  have HB1 : Hid (Below w.heap.size w w1) := HB0.out.trans (hB1.mono (by simp <;> omega))
  have HC1 : Hid (Cells8 w1 (w.heap.size + 1) (fun _ => 0)) := HC.out.of_heap (hB1.block _ (by simp))
  have HO : Hid (∀ i, i < l.length → ∃ g, ga = some ⟨g, 0, none⟩ ∧ g < w1.heap.size ∧ w1.cell? ⟨g, i, none⟩ = some (.int .i64 ((im l i : Nat) : Int))) := by
    intro i hi
    obtain ⟨g, hga⟩ : ∃ g, ga = some ⟨g, 0, none⟩ := by
      rcases hO.2 with ⟨_, h0⟩ | ⟨g', cap', cur, hv, _⟩
      · omega
      · simp only [Value.slice.injEq] at hv
        exact ⟨g', hv.1⟩
    subst hga
    exact ⟨g, rfl, (hO.lt g rfl).2, (hO.cellAt i (by omega)).trans (pZ_get hi)⟩
  have HA0 : Hid (ImAt w w1 (w1.alloc (.cells (cellsF (fun _ => 0)) 44)) (ofL ((pI l).take 0))) := ⟨HC1.out.alloc _, (Cells8.last w1 (fun _ => 0)).congr (fun k _ => by simp [ofL, word]), (Below.refl _ _).alloc (Nat.le_refl _) _⟩
  unfold cellsF at HA0
  have HS : Hid (w.heap.size + 1 < w1.heap.size) := HC1.out.lt
  clear hB1 hO
  go_wp2_with fail
  go_loopw [7] (fun vi wr => ∃ i : Nat, vi = .int .i64 i ∧ i ≤ l.length ∧ ImAt w w1 wr (ofL ((pI l).take i))) (fun vi _ => l.length - (intOf vi).toNat)
  case atStart => exact ⟨0, rfl, Nat.zero_le _, HA0.out⟩
  case round =>
    clear HA0
    obtain ⟨i, rfl, hin, hA⟩ := hrel
    have HA : Hid (ImAt w w1 wr (ofL ((pI l).take i))) := hA
    clear hA
    by_cases hlt : i < l.length
    · have hiI : (i : Int) < l.length := by omega
      obtain ⟨g, rfl, hG, hc⟩ := HO.out i hlt
      rw [← below_cell (o := i) HA.out.below hG] at hc
      clear hG
      have hd64 := hlt64 i hlt
      have HE : Hid (ofL ((pI l).take (i + 1)) = ofL ((pI l).take i) ||| 2 ^ im l i) := ofL_pI hlt
      obtain ⟨d, hdE⟩ : ∃ d, im l i = d := ⟨_, rfl⟩
      obtain ⟨N, hN⟩ : ∃ N, ofL ((pI l).take i) = N := ⟨_, rfl⟩
      rw [hdE] at hc hd64 HE
      rw [hN] at HA HE
      clear hdE hN
      obtain ⟨c0, c1, c2, c3, c4, c5, c6, c7⟩ := HA.out.out.gets
      go_wp2_with fail
      go_region_with (go_at_call 50; refine (rwith13_any N d hd64 _).mono ?_; rintro e w2 ⟨rfl, hB2⟩; have HB2 : Hid (Below wr.heap.size wr w2) := (by first | exact hB2 | exact (Below.refl _ _).drew.trans hB2); clear hB2; have hs := st_setRow (g := word (N ||| 2 ^ d)) (HA.out.out.of_heap (HB2.out.block _ HA.out.out.lt)); have hsz := cellsF_size (word (N ||| 2 ^ d)); unfold setV)
      all_goals go_wp2_with fail
      all_goals go_roundw
      all_goals first
        | exact ⟨i + 1, by go_num, by omega, by rw [HE.out]; exact HA.out.next HS.out HB2.out⟩
        | (simp [intOf]; omega)
    · have hiI : ¬ (i : Int) < l.length := by omega
      obtain rfl : i = l.length := by omega
      obtain ⟨c0, c1, c2, c3, c4, c5, c6, c7⟩ := HA.out.out.gets
      obtain ⟨d0, d1, d2, d3, d4, d5, d6, d7⟩ := HA.out.res.gets
      have f0 := HA.out.res.frozen 0
      have f1 := HA.out.res.frozen 1
      have f2 := HA.out.res.frozen 2
      have f3 := HA.out.res.frozen 3
      have f4 := HA.out.res.frozen 4
      have f5 := HA.out.res.frozen 5
      have f6 := HA.out.res.frozen 6
      have f7 := HA.out.res.frozen 7
      have HBw : Hid (Below w.heap.size w wr) := HB1.out.trans (HA.out.below.mono HB1.out.size)
      go_wp2_with fail
      obtain ⟨h8, hB⟩ := st8 HA.out.res HBw.out (Nat.le_succ _) (word (ofL ((pI l).take l.length))) rfl rfl rfl rfl rfl rfl rfl rfl
      exact bodyPost_ret (results_set_tmp rfl rfl h8) rfl ⟨rfl, hB⟩

set_option maxHeartbeats 4000000 in
set_option maxRecDepth 100000 in
theorem rfixed_gen (n : Int) (G : Nat → Nat) (l : List Nat) (E : Int) (hL : RL n G l E) (hle : l.length ≤ 64) (hlt64 : ∀ i, i < l.length → im l i < 64) (w : World) :
    Calls Try.prog 53 #[.agg (trC n G)] w fun e w' => e = .returned (.tuple #[.agg (cellsF (word (ofL (pI (fxP l l.length))))), .int .i64 E]) ∧ Below w.heap.size w w' := by
  have H1 : Hid (TrAt ((w.alloc (.cells (trC n G) 26)).alloc (.cells (cellsF (fun _ => 0)) 44)) w.heap.size n G) := (heap_allo (by simp) _).trans (heap_last _ _)
  have HC : Hid (Cells8 ((w.alloc (.cells (trC n G) 26)).alloc (.cells (cellsF (fun _ => 0)) 44)) (w.heap.size + 1) (fun _ => 0)) := by
    have := Cells8.last (w.alloc (.cells (trC n G) 26)) (fun _ => 0)
    rwa [World.size_alloc] at this
  have HB0 : Hid (Below w.heap.size w ((w.alloc (.cells (trC n G) 26)).alloc (.cells (cellsF (fun _ => 0)) 44))) := ((Below.refl _ _).alloc (Nat.le_refl _) _).alloc (by simp) _
  unfold cellsF at H1 HC HB0
  go_enter Try.func53, Try.ntmps53
  go_wp2_with (refine wpList_load_row rfl 26 _ rfl (w.heap.size) rfl 26 (trC n G) (0, 0) _ (H1.out) Try.underlying26 rfl (rfl) ?_)
  refine (hL _).mono ?_
  rintro e w1 ⟨v', rfl, hO, hB1⟩
  clear hL
  obtain ⟨ga, gcap, rfl⟩ := own_shape hO
  have HB1 : Hid (Below w.heap.size w w1) := HB0.out.trans (hB1.mono (by simp <;> omega))
  have HC1 : Hid (Cells8 w1 (w.heap.size + 1) (fun _ => 0)) := HC.out.of_heap (hB1.block _ (by simp))
  have HO : Hid (∀ i, i < l.length → ∃ g, ga = some ⟨g, 0, none⟩ ∧ g < w1.heap.size ∧ w1.cell? ⟨g, i, none⟩ = some (.int .i64 ((im l i : Nat) : Int))) := by
    intro i hi
    obtain ⟨g, hga⟩ : ∃ g, ga = some ⟨g, 0, none⟩ := by
      rcases hO.2 with ⟨_, h0⟩ | ⟨g', cap', cur, hv, _⟩
      · omega
      · simp only [Value.slice.injEq] at hv
        exact ⟨g', hv.1⟩
    subst hga
    exact ⟨g, rfl, (hO.lt g rfl).2, (hO.cellAt i (by omega)).trans (pZ_get hi)⟩
  have HA0 : Hid (ImAt w w1 (w1.alloc (.cells (cellsF (fun _ => 0)) 44)) (ofL (pI (fxP l 0)))) := ⟨HC1.out.alloc _, (Cells8.last w1 (fun _ => 0)).congr (fun k _ => by simp [ofL, word, fxP, pI]), (Below.refl _ _).alloc (Nat.le_refl _) _⟩
  unfold cellsF at HA0
  have HS : Hid (w.heap.size + 1 < w1.heap.size) := HC1.out.lt
  clear hB1 hO
  go_wp2_with fail
  go_loopw [7] (fun vi wr => ∃ i : Nat, vi = .int .i64 i ∧ i ≤ l.length ∧ ImAt w w1 wr (ofL (pI (fxP l i)))) (fun vi _ => l.length - (intOf vi).toNat)
  case atStart => exact ⟨0, rfl, Nat.zero_le _, HA0.out⟩
  case round =>
    clear HA0
    obtain ⟨i, rfl, hin, hA⟩ := hrel
    have HA : Hid (ImAt w w1 wr (ofL (pI (fxP l i)))) := hA
    clear hA
    by_cases hlt : i < l.length
    · have hiI : (i : Int) < l.length := by omega
      obtain ⟨g, rfl, hG, hc⟩ := HO.out i hlt
      rw [← below_cell (o := i) HA.out.below hG] at hc
      clear hG
      have hd64 := hlt64 i hlt
      by_cases hf : im l i = i
      · have HE : Hid (ofL (pI (fxP l (i + 1))) = ofL (pI (fxP l i)) ||| 2 ^ i) := by
          show _ = _
          rw [fxP_yes hf, pI_append, ofL_app]
        rw [hf] at hc
        obtain ⟨d, hdE⟩ : ∃ d, i = d := ⟨_, rfl⟩
        obtain ⟨N, hN⟩ : ∃ N, ofL (pI (fxP l i)) = N := ⟨_, rfl⟩
        have hi64 : i < 64 := by omega
        rw [hN] at HA HE
        clear hN hf hd64
        subst hdE
        obtain ⟨c0, c1, c2, c3, c4, c5, c6, c7⟩ := HA.out.out.gets
        go_wp2_with fail
        refine (rwith13_any N i hi64 _).mono ?_
        rintro e w2 ⟨rfl, hB2⟩
        have HB2 : Hid (Below wr.heap.size wr w2) := (by first | exact hB2 | exact (Below.refl _ _).drew.trans hB2)
        clear hB2
        have hs := st_setRow (g := word (N ||| 2 ^ i)) (HA.out.out.of_heap (HB2.out.block _ HA.out.out.lt))
        have hsz := cellsF_size (word (N ||| 2 ^ i))
        unfold setV
        go_wp2_with fail
        go_roundw
        case rel => exact ⟨i + 1, by go_num, by omega, by rw [HE.out]; exact HA.out.next HS.out HB2.out⟩
        case measure => simp [intOf]; omega
      · have HE : Hid (ofL (pI (fxP l (i + 1))) = ofL (pI (fxP l i))) := by
          show _ = _
          rw [fxP_no hf]
        obtain ⟨d, hdE⟩ : ∃ d, im l i = d := ⟨_, rfl⟩
        rw [hdE] at hc hf hd64
        have hne : ((d : Int) == (i : Int)) = false := by rw [beq_eq_false_iff_ne]; omega
        have hne' : ¬ (d : Int) = (i : Int) := by omega
        clear hdE
        go_wp2_with fail
        go_roundw
        case rel => exact ⟨i + 1, by go_num, by omega, by rw [HE.out]; exact HA.out⟩
        case measure => simp [intOf]; omega
    · have hiI : ¬ (i : Int) < l.length := by omega
      obtain rfl : i = l.length := by omega
      obtain ⟨c0, c1, c2, c3, c4, c5, c6, c7⟩ := HA.out.out.gets
      obtain ⟨d0, d1, d2, d3, d4, d5, d6, d7⟩ := HA.out.res.gets
      have f0 := HA.out.res.frozen 0
      have f1 := HA.out.res.frozen 1
      have f2 := HA.out.res.frozen 2
      have f3 := HA.out.res.frozen 3
      have f4 := HA.out.res.frozen 4
      have f5 := HA.out.res.frozen 5
      have f6 := HA.out.res.frozen 6
      have f7 := HA.out.res.frozen 7
      have HBw : Hid (Below w.heap.size w wr) := HB1.out.trans (HA.out.below.mono HB1.out.size)
      go_wp2_with fail
      obtain ⟨h8, hB⟩ := st8 HA.out.res HBw.out (Nat.le_succ _) (word (ofL (pI (fxP l l.length)))) rfl rfl rfl rfl rfl rfl rfl rfl
      exact bodyPost_ret (results_set_tmp rfl rfl h8) rfl ⟨rfl, hB⟩

theorem rimage_ok (l : List Nat) (hl : Tf l) (w : World) :
    Calls Try.prog 23 #[.agg (tC l)] w fun e w' => e = .returned (.tuple #[.agg (cellsF (word (imN l))), .int .i64 0]) ∧ Below w.heap.size w w' := by
  have := rimage_gen _ _ l 0 (RL.ok hl) hl.le hl.lt64 w
  rw [← pI_len, List.take_length] at this
  rw [pI_len] at this
  exact this
theorem rimage_bad (N : Int) (g : Nat → Nat) (hg : W64 g) (h : ¬ okT N g) (w : World) :
    Calls Try.prog 23 #[.agg (trC N g)] w fun e w' => e = .returned (.tuple #[.agg (cellsF (fun _ => 0)), .int .i64 130]) ∧ Below w.heap.size w w' :=
  (rimage_gen _ _ [] 130 (RL.bad hg h) (by simp) (fun i hi => absurd hi (by simp)) w).mono (fun e w' ⟨h1, h2⟩ => ⟨h1.trans (ret_set (fun k _ => by simp [word, ofL, pI])), h2⟩)
theorem rfixed_ok (l : List Nat) (hl : Tf l) (w : World) :
    Calls Try.prog 53 #[.agg (tC l)] w fun e w' => e = .returned (.tuple #[.agg (cellsF (word (fxN l))), .int .i64 0]) ∧ Below w.heap.size w w' :=
  rfixed_gen _ _ l 0 (RL.ok hl) hl.le hl.lt64 w
theorem rfixed_bad (N : Int) (g : Nat → Nat) (hg : W64 g) (h : ¬ okT N g) (w : World) :
    Calls Try.prog 53 #[.agg (trC N g)] w fun e w' => e = .returned (.tuple #[.agg (cellsF (fun _ => 0)), .int .i64 130]) ∧ Below w.heap.size w w' :=
  (rfixed_gen _ _ [] 130 (RL.bad hg h) (by simp) (fun i hi => absurd hi (by simp)) w).mono (fun e w' ⟨h1, h2⟩ => ⟨h1.trans (ret_set (fun k _ => by simp [word, ofL, pI, fxP])), h2⟩)
end Go.Proofs.Ythglficjhgpegaa
