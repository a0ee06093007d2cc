/- Contract of tree.Reverse: the walk. -/
import Derived.Test.YtchaggigabccaaaDoorPb
namespace Go.Proofs.YtchaggigabccaaaDoor
open Go Go.RowKit

/-- What stands when m nodes are still to be written. -/
structure RevAt (ts R : List Nd) (w : World) (base G gs : Nat) (Z : List Nat) (m : Nat) (S : List (Nat × Tr)) (L : List Value) (wr : World) : Prop where
  frt : front S = R.take m
  placed : ∀ p ∈ S, Placed ts p
  row : WB wr G L
  len : L.length = ts.length * 2
  done : L.drop (m * 2) = ndC (R.drop m)
  sizes : IRow wr gs Z
  below : Below w.heap.size w wr
  roomy : base ≤ wr.heap.size
theorem WB.other {w : World} {g : Nat} {L : List Value} (h : WB w g L) {b i : Nat} (u : Value) (hb : g ≠ b) : WB (w.setCell ⟨b, i, none⟩ u) g L := (Below.heap_setCell _ _ _ _ hb).trans h
theorem IRow.other {w : World} {g : Nat} {L : List Nat} (h : IRow w g L) {b i : Nat} (u : Value) (hb : g ≠ b) : IRow (w.setCell ⟨b, i, none⟩ u) g L := (Below.heap_setCell _ _ _ _ hb).trans h
theorem WB.grown {w w' : World} {g : Nat} {L : List Value} {row : Option Nat} (h : WB w g L) (hg : w.grownBy w' row) (hne : row ≠ some g) : WB w' g L := (hg.block g h.lt (fun e => hne e.symm)).trans h
theorem IRow.grown {w w' : World} {g : Nat} {L : List Nat} {row : Option Nat} (h : IRow w g L) (hg : w.grownBy w' row) (hne : row ≠ some g) : IRow w' g L := (hg.block g h.lt (fun e => hne e.symm)).trans h
theorem below_set {B b : Nat} {w w1 : World} {i i' : Nat} {x y : Value} (h : Below B w w1) (hb : B ≤ b) : Below B w ((w1.setCell ⟨b, i, none⟩ x).setCell ⟨b, i', none⟩ y) :=
  (h.setCell (p := ⟨b, i, none⟩) hb _).setCell (p := ⟨b, i', none⟩) hb _
theorem WB.alloc {w : World} {g : Nat} {L : List Value} (h : WB w g L) (o : Obj) : WB (w.alloc o) g L := h.keep ((Below.refl _ _).alloc (Nat.le_refl _) o)

theorem RevAt.next {ts R : List Nd} {w : World} {base G gs : Nat} {Z : List Nat} {q e : Nat} {t : Tr} {S : List (Nat × Tr)} {L : List Value} {wr : World} (h : RevAt ts R w base G gs Z (q + 1) ((e, t) :: S) L wr) {k s : Int} (hr : t.root = (k, s)) (hq : q < ts.length) (hRl : R.length = ts.length) (hgs : gs ≠ G) (hw : w.heap.size ≤ G) :
    RevAt ts R w base G gs Z q (nextS e t S) ((L.set (q * 2) (.int .i64 k)).set (q * 2 + 1) (.int .u8 s)) ((wr.setCell ⟨G, q * 2, none⟩ (.int .i64 k)).setCell ⟨G, q * 2 + 1, none⟩ (.int .u8 s)) := by
  have hf := h.frt
  rw [front_next, hr] at hf
  have hl := congrArg List.length hf
  simp only [List.length_append, List.length_singleton, List.length_take] at hl
  have h1 : front (nextS e t S) = R.take q := by
    have := congrArg (List.take q) hf
    rw [List.take_take, Nat.min_eq_left (by omega), List.take_left' (by omega)] at this
    exact this
  have h2 : R[q]? = some (k, s) := by
    have := congrArg (fun l : List Nd => l[q]?) hf
    simp only [List.getElem?_take] at this
    rw [List.getElem?_append_right (by omega), if_pos (by omega), show q - (front (nextS e t S)).length = 0 by omega] at this
    exact this.symm
  refine ⟨h1, fun p hp => ?_, (h.row.set _ _).set _ _, by simpa using h.len, ?_, (h.sizes.other _ hgs).other _ hgs, below_set h.below hw, by simpa using h.roomy⟩
  · have hpl := h.placed (e, t) List.mem_cons_self
    have hS : ∀ p ∈ S, Placed ts p := fun p hp => h.placed p (List.mem_cons_of_mem _ hp)
    cases t with
    | zero n => exact hS p hp
    | one n a =>
      simp only [nextS, List.mem_cons] at hp
      rcases hp with rfl | hp
      · exact (placed_one hpl).2
      · exact hS p hp
    | two n a b =>
      simp only [nextS] at hp
      obtain ⟨_, hb, ha⟩ := placed_two hpl
      split at hp
      · simp only [List.mem_cons] at hp
        rcases hp with rfl | rfl | hp
        · exact ha
        · exact hb
        · exact hS p hp
      · simp only [List.mem_cons] at hp
        rcases hp with rfl | rfl | hp
        · exact hb
        · exact ha
        · exact hS p hp
  · have hLl := h.len
    rw [drop_set2 (by omega), show q * 2 + 2 = (q + 1) * 2 by omega, h.done]
    have hq2 : q < R.length := by omega
    rw [List.drop_eq_getElem_cons hq2]
    rw [List.getElem?_eq_getElem hq2, Option.some.injEq] at h2
    rw [h2]
    rfl
theorem RevAt.grown {ts R : List Nd} {w : World} {base G gs : Nat} {Z : List Nat} {q : Nat} {S : List (Nat × Tr)} {L : List Value} {wr w' : World} {row : Option Nat} (h : RevAt ts R w base G gs Z q S L wr) (hg : wr.grownBy w' row) (hne : ∀ k, row = some k → G < k ∧ gs < k ∧ w.heap.size ≤ k) : RevAt ts R w base G gs Z q S L w' :=
  ⟨h.frt, h.placed, h.row.grown hg (fun e => by have := hne _ e; omega), h.len, h.done, h.sizes.grown hg (fun e => by have := hne _ e; omega), h.below.grown hg h.below.size (fun k hk => (hne k hk).2.2), Nat.le_trans h.roomy hg.size⟩
theorem RevAt.alloc {ts R : List Nd} {w : World} {base G gs : Nat} {Z : List Nat} {q : Nat} {S : List (Nat × Tr)} {L : List Value} {wr : World} (h : RevAt ts R w base G gs Z q S L wr) (o : Obj) : RevAt ts R w base G gs Z q S L (wr.alloc o) :=
  ⟨h.frt, h.placed, h.row.alloc o, h.len, h.done, h.sizes.alloc o, h.below.alloc h.below.size o, by have := h.roomy; simp; omega⟩

set_option maxHeartbeats 8000000 in
set_option maxRecDepth 100000 in
theorem reverse_good (v : Value) (ts : List Nd) (w : World) (hv : NReads w v ts) (hP : PTab w) (t : Tr) (hok : t.ok) (hts : t.flat = ts) (h4 : ts.length ≤ 4000) :
    Calls Tryd.prog 29 #[v] w fun e w' => ∃ u, e = .returned (.tuple #[u, .int .i64 0]) ∧ w'.ownsRow w.heap.size 36 2 u ts.length (ndC t.rev.flat) ∧ Below w.heap.size w w' := by
  have hf : freeN ts = some 1 := by rw [← hts]; exact t.ok_free hok
  have hw0 : wrong ts = 0 := by rw [wrong, if_neg (by omega), if_pos hf]
  have hn1 := free_pos hf
  obtain ⟨R, hR⟩ : ∃ R, t.rev.flat = R := ⟨_, rfl⟩
  have hRl : R.length = ts.length := by rw [← hR, Tr.rev_len, hts]
  rw [hR]
  have HV : Hid (NReads w v ts) := hv
  have HP : Hid (PTab w) := hP
  have HW : Hid (wrong ts = 0) := hw0
  have HF : Hid (freeN ts = some 1) := hf
  have HT : Hid (t.ok ∧ t.flat = ts ∧ t.rev.flat = R) := ⟨hok, hts, hR⟩
  obtain ⟨av, cv, rfl, hrd⟩ := hv
  have HRD : Hid (∀ i, i < ts.length → ∃ g o, av = some ⟨g, o, none⟩ ∧ g < w.heap.size ∧ w.cell? ⟨g, o + i * 2, none⟩ = some (.int .i64 (ts.getD i (0, 0)).1) ∧ w.cell? ⟨g, o + i * 2 + 1, none⟩ = some (.int .u8 (ts.getD i (0, 0)).2)) := hrd
  obtain ⟨i0, hi0, hz0, hz1, hz2⟩ := info_parts Tryd.info_node
  obtain ⟨i1, hi1, hy0, hy1, hy2⟩ := info_parts Tryd.info_int
  have hmk := fun w0 => run_make (P := Tryd.prog) w0 22 36 i0 (.agg #[.int .i64 0, .int .u8 0]) Tryd.underlying22 hi0 hz0 .i64 .i64 ts.length ts.length (by omega) (by omega) (by rw [hz2]; omega) (by omega)
  rw [hz1] at hmk
  obtain ⟨Z0, hZ⟩ : ∃ Z : List Value, madeCells (Value.agg #[.int .i64 0, .int .u8 0]).cells ((ts.length : Int).toNat * 2) = Z.toArray := ⟨_, (Array.toArray_toList).symm⟩
  have hZl : Z0.length = ts.length * 2 := by
    have := size_madeCells (Value.agg #[.int .i64 0, .int .u8 0]).cells ((ts.length : Int).toNat * 2)
    rw [hZ] at this
    simpa using this
  rw [hZ] at hmk
  obtain ⟨n1, hn1e⟩ : ∃ n1, ts.length - 1 = n1 := ⟨_, rfl⟩
  have hnI : (ts.length : Int) - 1 = n1 := by omega
  clear hrd hP hw0 hf hok hts hR hi0 hz0 hz1 hz2 hZ
  go_enter Tryd.func29, Tryd.ntmps29
  go_wp2_with fail
  refine (treeError_any _ ts _ HV.out (by omega) HP.out).mono ?_
  rintro e w1 ⟨rfl, hb1⟩
  rw [HW.out]
  have HB1 : Hid (Below w.heap.size w w1) := hb1
  clear hb1
  go_wp2_with fail
  refine (sizes_any _ ts _ (HV.out.stay HB1.out) h4 HF.out (HP.out.stay HB1.out)).mono ?_
  rintro e w2 ⟨gs, Z, rfl, hgs, hrow, hZlen, hends, hb2⟩
  have HB2 : Hid (Below w.heap.size w w2) := go_on HB1.out hb2
  have HI2 : Hid (IRow w2 gs Z) := hrow
  have HE : Hid (∀ j, j ≤ ts.length → Ends Z j (stkN (ts.take j))) := hends
  have hgl := hrow.lt
  have hgw : w.heap.size ≤ gs := Nat.le_trans HB1.out.size hgs
  clear hb2 hrow hends hgs HB1
  go_wp2_with fail
  have HI4 : Hid (IRow ((w2.alloc (.cells Z0.toArray 36)).alloc (.cells #[.int .i64 (n1 : Int)] 3)) gs Z) := (HI2.out.alloc _).alloc _
  have HW4 : Hid (WB ((w2.alloc (.cells Z0.toArray 36)).alloc (.cells #[.int .i64 (n1 : Int)] 3)) w2.heap.size Z0) := WB.alloc (heap_alloc_new w2 _) _
  have HB4 : Hid (Below w.heap.size w ((w2.alloc (.cells Z0.toArray 36)).alloc (.cells #[.int .i64 (n1 : Int)] 3))) := (HB2.out.alloc HB2.out.size _).alloc (by have := HB2.out.size; simp; omega) _
  have HO4 : Hid (((w2.alloc (.cells Z0.toArray 36)).alloc (.cells #[.int .i64 (n1 : Int)] 3)).ownsRow (w2.heap.size + 1) 3 1 (.slice (some ⟨w2.heap.size + 1, 0, none⟩) 1 1) 1 (nC [n1])) := by
    have := World.ownsRow_lit (base := w2.heap.size + 1) (e := 3) (size := 1) (w2.alloc (.cells Z0.toArray 36)) #[.int .i64 (n1 : Int)] 1 (by simp) (by unfold maxLen; omega) rfl
    rw [World.size_alloc] at this
    exact this
  have hss : ((w2.alloc (.cells Z0.toArray 36)).alloc (.cells #[.int .i64 (n1 : Int)] 3)).heap.size = w2.heap.size + 2 := by simp
  generalize (w2.alloc (.cells Z0.toArray 36)).alloc (.cells #[.int .i64 (n1 : Int)] 3) = w4 at HI4 HW4 HB4 HO4 hss ⊢
  have HA4 : Hid (RevAt ts R w (w2.heap.size + 1) w2.heap.size gs Z ts.length [(n1, t)] Z0 w4) := by
    refine ⟨?_, fun p hp => ?_, HW4.out, hZl, ?_, HI4.out, HB4.out, by omega⟩
    · rw [List.take_of_length_le (by omega)]; exact HT.out.2.2
    · simp only [List.mem_singleton] at hp
      subst hp
      exact ⟨HT.out.1, by show n1 < _; omega, [], by show ts.take (n1 + 1) = _; rw [List.take_of_length_le (by omega), HT.out.2.1]; rfl⟩
    · rw [List.drop_of_length_le (by omega), List.drop_of_length_le (by omega)]; rfl
  obtain ⟨G, hG⟩ : ∃ G, w2.heap.size = G := ⟨_, rfl⟩
  rw [hG] at HA4 HO4 hgl ⊢
  have hGw : w.heap.size ≤ G := by rw [← hG]; exact HB2.out.size
  clear hss HI4 HW4 HB4 HI2 HB2 hG hmk hZl HT
  go_loopw [7, 8] (fun ve vi wr => ∃ (m : Nat) (S : List (Nat × Tr)) (L : List Value), m ≤ ts.length ∧ vi = .int .i64 ((m : Int) - 1) ∧ RevAt ts R w (G + 1) G gs Z m S L wr ∧ wr.ownsRow (G + 1) 3 1 ve S.length (nC (endsL S))) (fun _ vi _ => (intOf vi + 1).toNat)
  case atStart => exact ⟨ts.length, [(n1, t)], Z0, Nat.le_refl _, by rw [hnI], HA4.out, HO4.out⟩
  case round =>
    clear HA4 HO4
    obtain ⟨m, S, L, hm, rfl, hA, hO⟩ := hrel
    obtain ⟨ea, ec, rfl⟩ := own_shape hO
    have HA : Hid (RevAt ts R w (G + 1) G gs Z m S L wr) := hA
    have HO : Hid (wr.ownsRow (G + 1) 3 1 (.slice ea S.length ec) S.length (nC (endsL S))) := hO
    clear hA hO
    by_cases hm0 : m = 0
    · subst hm0
      have HFIN : Hid (L = ndC R) := by
        have := HA.out.done
        simp only [Nat.zero_mul, List.drop_zero] at this
        exact this
      have hneg : ¬ (0 : Int) ≤ ((0 : Nat) : Int) - 1 := by omega
      go_wp2_with fail
      go_ret2
      refine ⟨_, rfl, ?_, HA.out.below⟩
      have := HA.out.row
      rw [HFIN.out] at this
      exact this.owns hGw hRl h4
    · obtain ⟨q, rfl⟩ : ∃ q, m = q + 1 := ⟨m - 1, by omega⟩
      have hqI : ((q + 1 : Nat) : Int) - 1 = q := by omega
      rw [hqI]
      obtain ⟨⟨e, t0⟩, S', rfl⟩ : ∃ p S', S = p :: S' := by
        cases S with
        | nil =>
          have := congrArg List.length HA.out.frt
          simp only [front, List.length_nil, List.length_take] at this
          omega
        | cons p S' => exact ⟨p, S', rfl⟩
      have hpl := HA.out.placed (e, t0) List.mem_cons_self
      have hSl : S'.length + 1 ≤ 4000 := by
        have h1 := front_len_le ((e, t0) :: S')
        have h2 := congrArg List.length HA.out.frt
        simp only [List.length_take, List.length_cons] at h1 h2
        omega
      have hroot := placed_root hpl
      have hel : e < ts.length := hpl.2.1
      have HPL : Hid (Placed ts (e, t0)) := hpl
      obtain ⟨⟨k, s⟩, hks⟩ : ∃ n, t0.root = n := ⟨_, rfl⟩
      have HROOT : Hid (t0.root = (k, s)) := hks
      rw [hks] at hroot
      have hgood : good (k, s) = true := by
        have := free_good HF.out hel
        obtain ⟨_, _, h, _⟩ := this
        rwa [hroot] at h
      obtain ⟨hk1, hk9⟩ := good_kind hgood
      simp only at hk1 hk9
      obtain ⟨j, rfl⟩ : ∃ j : Nat, k = j := ⟨k.toNat, by omega⟩
      have hj9 : j < 10 := by omega
      have hjI : (j : Int) < 10 := by omega
      obtain ⟨g, o, rfl, hg, hc1, hc2⟩ := HRD.out e hel
      rw [hroot] at hc1 hc2
      obtain ⟨r, hr⟩ : ∃ r, arity (j : Int) = r := ⟨_, rfl⟩
      have HAR : Hid (arity (j : Int) = r) := hr
      obtain ⟨eg, rfl, hegl, hegG, hce⟩ := own_ncell HO.out S'.length (by simp)
      have hlast : (endsL ((e, t0) :: S')).getD S'.length 0 = e := by
        rw [endsL_cons, List.getD_eq_getElem?_getD, List.getElem?_append_right (by rw [endsL_len]; omega), endsL_len]
        simp
      rw [hlast] at hce
      have hl1 : ((((e, t0) :: S').length : Nat) : Int) - 1 = S'.length := by simp
      have hlc : (S'.length : Int) < (((e, t0) :: S').length : Nat) := by simp; omega
      have hcap : (S'.length : Int) ≤ ec := by
        obtain ⟨_, h⟩ := HO.out
        rcases h with ⟨h, _⟩ | ⟨g', cp, cur, hh, _, _, hcp, _⟩
        · simp at h
        · simp only [Value.slice.injEq] at hh
          obtain ⟨_, _, rfl⟩ := hh
          simp at hcp
          omega
      generalize hSln : ((e, t0) :: S').length = sl at *
      have w1 : wr.cell? ⟨g, o + e * 2, none⟩ = some (.int .i64 (j : Int)) := by rw [below_cell HA.out.below hg]; exact hc1
      have w2' : wr.cell? ⟨g, o + e * 2 + 1, none⟩ = some (.int .u8 s) := by rw [below_cell HA.out.below hg]; exact hc2
      have hqs : (q : Int) < ts.length := by omega
      have heI : (e : Int) < ts.length := by omega
      have g0 := HA.out.row.get (q * 2)
      have g1 := HA.out.row.get (q * 2 + 1)
      have hLl := HA.out.len
      rw [List.getElem?_eq_getElem (by omega)] at g0 g1
      have f0 := HA.out.row.frozen (q * 2)
      have f1 := HA.out.row.frozen (q * 2 + 1)
      obtain ⟨x0, hx0⟩ : ∃ x, L[q * 2]'(by omega) = x := ⟨_, rfl⟩
      obtain ⟨x1, hx1⟩ : ∃ x, L[q * 2 + 1]'(by omega) = x := ⟨_, rfl⟩
      rw [hx0] at g0
      rw [hx1] at g1
      have hG0 : 0 < G := Nat.lt_of_lt_of_le HP.out.pos hGw
      have cp : wr.cell? ⟨0, j, none⟩ = some (.int .i64 (r : Int)) := by
        have := HP.out.below HA.out.below HP.out.pos j hj9
        rw [HAR.out] at this
        exact this
      have HN : Hid (RevAt ts R w (G + 1) G gs Z q (nextS e t0 S') ((L.set (q * 2) (.int .i64 (j : Int))).set (q * 2 + 1) (.int .u8 s)) ((wr.setCell ⟨G, q * 2, none⟩ (.int .i64 (j : Int))).setCell ⟨G, q * 2 + 1, none⟩ (.int .u8 s))) := HA.out.next HROOT.out (by omega) hRl (by omega) hGw
      have HOC : Hid (((wr.setCell ⟨G, q * 2, none⟩ (.int .i64 (j : Int))).setCell ⟨G, q * 2 + 1, none⟩ (.int .u8 s)).ownsRow (G + 1) 3 1 (.slice (some ⟨eg, 0, none⟩) S'.length ec) S'.length (nC (endsL S'))) := by
        have h1 := own_cut HO.out S'.length (by omega)
        have e1 : (endsL ((e, t0) :: S')).take S'.length = endsL S' := by rw [endsL_cons, List.take_left' (endsL_len S')]
        rw [e1] at h1
        have hne : ∀ k, (Value.slice (some ⟨eg, 0, none⟩) S'.length ec).ownBlock = some k → k ≠ G := fun k hk => by
          simp only [Value.ownBlock, Option.some.injEq] at hk
          omega
        exact own_other (own_other h1 _ hne) _ hne
      clear hpl hks hgood hroot hr hlast hx0 hx1 hc1 hc2
      cases t0 with
      | zero n =>
        have hr0 : r = 0 := by
          have h1 := HPL.out.1.2
          have h2 : n = ((j : Int), s) := HROOT.out
          rw [h2] at h1
          rw [← HAR.out]; exact h1
        subst hr0
        go_wp2_with fail
        go_roundw
        case rel => exact ⟨q, _, _, by omega, by go_num, HN.out, HOC.out⟩
        case measure => simp [intOf] <;> omega
      | one n a =>
        have hr0 : r = 1 := by
          have h1 := HPL.out.1.2.1
          have h2 : n = ((j : Int), s) := HROOT.out
          rw [h2] at h1
          rw [← HAR.out]; exact h1
        subst hr0
        have he1 := (placed_one HPL.out).1
        obtain ⟨e1, he1e⟩ : ∃ e1, e - 1 = e1 := ⟨_, rfl⟩
        have heI1 : (e : Int) - 1 = e1 := by omega
        have HNX : Hid (endsL (nextS e (.one n a) S') = endsL S' ++ [e1]) := by show _ = _; rw [← he1e]; exact endsL_cons _ _
        have HNL : Hid ((nextS e (.one n a) S').length = S'.length + 1) := rfl
        have hws : G + 1 ≤ ((wr.setCell ⟨G, q * 2, none⟩ (.int .i64 (j : Int))).setCell ⟨G, q * 2 + 1, none⟩ (.int .u8 s)).heap.size := HN.out.roomy
        go_wp2_with (at_builtin; refine wpList_append_own _ rfl _ _ 64 rfl (G + 1) 3 i1 (.int .i64 0) 1 8 Tryd.underlying64 hi1 hy0 hy1 hy2 rfl (by decide) _ _ _ rfl (HOC.out.alloc _) ⟨wr.heap.size, 0, none⟩ 1 1 [.int .i64 (e1 : Int)] rfl rfl ?f1 ?f2 ?f3 ?f4 ?f5 ?_)
        case f1 => have := cell_one_new ((wr.setCell ⟨G, q * 2, none⟩ (.int .i64 (j : Int))).setCell ⟨G, q * 2 + 1, none⟩ (.int .u8 s)) (.int .i64 (e1 : Int)) 3; simpa using this
        case f2 => intro u hu; simp at hu; subst hu; rfl
        case f3 => unfold maxLen; omega
        case f4 => omega
        case f5 => simp at hws ⊢; omega
        intro v5 w5 ho5 hg5 _
        have HN5 : Hid (RevAt ts R w (G + 1) G gs Z q (nextS e (.one n a) S') ((L.set (q * 2) (.int .i64 (j : Int))).set (q * 2 + 1) (.int .u8 s)) w5) := (HN.out.alloc _).grown hg5 (fun k' hk' => by have := (HOC.out.lt _ hk').1; omega)
        have HO5 : Hid (w5.ownsRow (G + 1) 3 1 v5 (nextS e (.one n a) S').length (nC (endsL (nextS e (.one n a) S')))) := by
          show World.ownsRow _ _ _ _ _ _ _
          rw [HNX.out, HNL.out, nC_append]
          exact ho5
        clear ho5 hg5
        go_wp2_with fail
        go_roundw
        case rel => exact ⟨q, _, _, by omega, by go_num, HN5.out, HO5.out⟩
        case measure => simp [intOf] <;> omega
      | two n a b =>
        have hnj : n = ((j : Int), s) := HROOT.out
        have hr0 : r = 2 := by
          have h1 := HPL.out.1.2.1
          rw [hnj] at h1
          rw [← HAR.out]; exact h1
        subst hr0
        obtain ⟨he1, hplb, hpla⟩ := placed_two HPL.out
        obtain ⟨e1, he1e⟩ : ∃ e1, e - 1 = e1 := ⟨_, rfl⟩
        have heI1 : (e : Int) - 1 = e1 := by omega
        have hsz := placed_size hplb HE.out
        rw [he1e] at hsz
        have csz := HA.out.sizes.get hsz
        have hlbp := b.len_pos
        obtain ⟨lb, hlb⟩ : ∃ lb, b.flat.length = lb := ⟨_, rfl⟩
        rw [hlb] at csz he1 hlbp
        obtain ⟨e2, he2e⟩ : ∃ e2, e - 1 - b.flat.length = e2 := ⟨_, rfl⟩
        have heI2 : (e1 : Int) - lb = e2 := by omega
        have he1l : (e1 : Int) < ts.length := by omega
        have hws : G + 1 ≤ ((wr.setCell ⟨G, q * 2, none⟩ (.int .i64 (j : Int))).setCell ⟨G, q * 2 + 1, none⟩ (.int .u8 s)).heap.size := HN.out.roomy
        have hgsG : gs ≠ G := by omega
        by_cases h7 : j = 7
        · subst h7
          have HN7 : Hid (n.1 = 7) := by show _ = _; rw [hnj]; rfl
          clear hnj hplb hpla hsz
          have HNX : Hid (endsL (nextS e (.two n a b) S') = endsL S' ++ [e1, e2]) := by
            show _ = _
            rw [nextS, if_pos HN7.out, endsL_cons, endsL_cons, List.append_assoc, he2e, he1e]
            rfl
          have HNL : Hid ((nextS e (.two n a b) S').length = S'.length + 2) := by show _ = _; rw [nextS, if_pos HN7.out]; rfl
          go_wp2_with (at_builtin; refine wpList_append_own _ rfl _ _ 64 rfl (G + 1) 3 i1 (.int .i64 0) 1 8 Tryd.underlying64 hi1 hy0 hy1 hy2 rfl (by decide) _ _ _ rfl (HOC.out.alloc _) ⟨wr.heap.size, 0, none⟩ 2 2 [.int .i64 (e1 : Int), .int .i64 (e2 : Int)] rfl rfl ?f1 ?f2 ?f3 ?f4 ?f5 ?_)
          case f1 => have := cell_two_new ((wr.setCell ⟨G, q * 2, none⟩ (.int .i64 (7 : Int))).setCell ⟨G, q * 2 + 1, none⟩ (.int .u8 s)) (.int .i64 (e1 : Int)) (.int .i64 (e2 : Int)) 3; simpa using this
          case f2 => intro u hu; simp at hu; rcases hu with rfl | rfl <;> rfl
          case f3 => unfold maxLen; omega
          case f4 => omega
          case f5 => simp at hws ⊢; omega
          intro v5 w5 ho5 hg5 _
          have HN5 : Hid (RevAt ts R w (G + 1) G gs Z q (nextS e (.two n a b) S') ((L.set (q * 2) (.int .i64 (7 : Int))).set (q * 2 + 1) (.int .u8 s)) w5) := (HN.out.alloc _).grown hg5 (fun k' hk' => by have := (HOC.out.lt _ hk').1; omega)
          have HO5 : Hid (w5.ownsRow (G + 1) 3 1 v5 (nextS e (.two n a b) S').length (nC (endsL (nextS e (.two n a b) S')))) := by
            show World.ownsRow _ _ _ _ _ _ _
            rw [HNX.out, HNL.out, nC_append]
            exact ho5
          clear ho5 hg5
          go_wp2_with fail
          go_roundw
          case rel => exact ⟨q, _, _, by omega, by go_num, HN5.out, HO5.out⟩
          case measure => simp [intOf] <;> omega
        · have HN7 : Hid (¬ n.1 = 7) := by show ¬ _; rw [hnj]; show ¬ (j : Int) = 7; omega
          have h7b : ((j : Int) == 7) = false := by rw [beq_eq_false_iff_ne]; omega
          clear hnj hplb hpla hsz
          have HNX : Hid (endsL (nextS e (.two n a b) S') = endsL S' ++ [e2, e1]) := by
            show _ = _
            rw [nextS, if_neg HN7.out, endsL_cons, endsL_cons, List.append_assoc, he2e, he1e]
            rfl
          have HNL : Hid ((nextS e (.two n a b) S').length = S'.length + 2) := by show _ = _; rw [nextS, if_neg HN7.out]; rfl
          go_wp2_with (at_builtin; refine wpList_append_own _ rfl _ _ 64 rfl (G + 1) 3 i1 (.int .i64 0) 1 8 Tryd.underlying64 hi1 hy0 hy1 hy2 rfl (by decide) _ _ _ rfl (HOC.out.alloc _) ⟨wr.heap.size, 0, none⟩ 2 2 [.int .i64 (e2 : Int), .int .i64 (e1 : Int)] rfl rfl ?f1 ?f2 ?f3 ?f4 ?f5 ?_)
          case f1 => have := cell_two_new ((wr.setCell ⟨G, q * 2, none⟩ (.int .i64 (j : Int))).setCell ⟨G, q * 2 + 1, none⟩ (.int .u8 s)) (.int .i64 (e2 : Int)) (.int .i64 (e1 : Int)) 3; simpa using this
          case f2 => intro u hu; simp at hu; rcases hu with rfl | rfl <;> rfl
          case f3 => unfold maxLen; omega
          case f4 => omega
          case f5 => simp at hws ⊢; omega
          intro v5 w5 ho5 hg5 _
          have HN5 : Hid (RevAt ts R w (G + 1) G gs Z q (nextS e (.two n a b) S') ((L.set (q * 2) (.int .i64 (j : Int))).set (q * 2 + 1) (.int .u8 s)) w5) := (HN.out.alloc _).grown hg5 (fun k' hk' => by have := (HOC.out.lt _ hk').1; omega)
          have HO5 : Hid (w5.ownsRow (G + 1) 3 1 v5 (nextS e (.two n a b) S').length (nC (endsL (nextS e (.two n a b) S')))) := by
            show World.ownsRow _ _ _ _ _ _ _
            rw [HNX.out, HNL.out, nC_append]
            exact ho5
          clear ho5 hg5
          go_wp2_with fail
          go_roundw
          case rel => exact ⟨q, _, _, by omega, by go_num, HN5.out, HO5.out⟩
          case measure => simp [intOf] <;> omega
end Go.Proofs.YtchaggigabccaaaDoor
