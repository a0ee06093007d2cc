/- Contract of tree.Join, at every input. -/
import Derived.Test.YtchaggigabccaaaDoorTx
namespace Go.Proofs.YtchaggigabccaaaDoor
open Go Go.RowKit

/-- A list of lists of nodes, read. -/
def PReads (w : World) (v : Value) (ps : List (List Nd)) : Prop :=
  ∃ a cap, v = .slice a ps.length cap ∧ ∀ i, i < ps.length → ∃ g o u, a = some ⟨g, o, none⟩ ∧ g < w.heap.size ∧ w.cell? ⟨g, o + i, none⟩ = some u ∧ NReads w u (ps.getD i [])
theorem PReads.stay {w w' : World} {v : Value} {ps : List (List Nd)} (h : PReads w v ps) (hb : Below w.heap.size w w') : PReads w' v ps := by
  obtain ⟨a, c, e, hr⟩ := h
  refine ⟨a, c, e, fun i hi => ?_⟩
  obtain ⟨g, o, u, e, hg, h1, h2⟩ := hr i hi
  exact ⟨g, o, u, e, Nat.lt_of_lt_of_le hg hb.size, by rw [below_cell hb hg]; exact h1, h2.stay hb⟩
/-- The first error of the parts. -/
def ferr : List (List Nd) → Int
  | [] => 0
  | p :: ps => if wrong p = 0 then ferr ps else wrong p
def tot (ps : List (List Nd)) : Nat := ps.flatten.length
def joinE (n : Nd) (ps : List (List Nd)) : Int :=
  if good n = false then 30 else if ps.length ≠ arity n.1 then 1 else if ferr ps ≠ 0 then ferr ps else if 4000 < tot ps + 1 then 6 else 0
theorem wrong_len {ts : List Nd} (h : wrong ts = 0) : ts.length ≤ 4000 ∧ freeN ts = some 1 := by
  unfold wrong at h
  by_cases h0 : 4000 < ts.length
  · rw [if_pos h0] at h; cases h
  · rw [if_neg h0] at h
    by_cases h1 : freeN ts = some 1
    · exact ⟨by omega, h1⟩
    · rw [if_neg h1] at h; cases h
theorem take_next {ps : List (List Nd)} {i : Nat} (h : i < ps.length) : ps.take (i + 1) = ps.take i ++ [ps.getD i []] := by
  rw [List.take_add_one, List.getElem?_eq_getElem h]
  simp [List.getD_eq_getElem?_getD, List.getElem?_eq_getElem h]
theorem tot_next {ps : List (List Nd)} {i : Nat} (h : i < ps.length) : tot (ps.take (i + 1)) = tot (ps.take i) + (ps.getD i []).length := by
  rw [take_next h]; simp [tot]
theorem flat_next {ps : List (List Nd)} {i : Nat} (h : i < ps.length) : (ps.take (i + 1)).flatten = (ps.take i).flatten ++ ps.getD i [] := by
  rw [take_next h]; simp
theorem ferr_append (a b : List (List Nd)) (h : ferr a = 0) : ferr (a ++ b) = ferr b := by
  induction a with
  | nil => rfl
  | cons p a ih =>
    simp only [List.cons_append, ferr] at h ⊢
    by_cases hp : wrong p = 0
    · rw [if_pos hp] at h ⊢; exact ih h
    · rw [if_neg hp] at h; exact absurd h hp
theorem ferr_next {ps : List (List Nd)} {i : Nat} (h : i < ps.length) (h0 : ferr (ps.take i) = 0) : ferr (ps.take (i + 1)) = wrong (ps.getD i []) := by
  rw [take_next h, ferr_append _ _ h0]
  simp only [ferr]
  split
  · next h => exact h.symm
  · rfl
theorem ferr_stop {ps : List (List Nd)} {i : Nat} (h : i < ps.length) (h0 : ferr (ps.take i) = 0) (hw : wrong (ps.getD i []) ≠ 0) : ferr ps = wrong (ps.getD i []) := by
  have e : ps = ps.take i ++ (ps.getD i [] :: ps.drop (i + 1)) := by
    conv => lhs; rw [← List.take_append_drop i ps, List.drop_eq_getElem_cons h]
    simp [List.getD_eq_getElem?_getD, List.getElem?_eq_getElem h]
  rw [e, ferr_append _ _ h0]
  have e2 : (ps.take i ++ (ps.getD i [] :: ps.drop (i + 1))).getD i [] = ps.getD i [] := by rw [← e]
  rw [e2]
  simp only [ferr, if_neg hw]

set_option maxHeartbeats 4000000 in
set_option maxRecDepth 100000 in
theorem join_any (k s : Int) (v : Value) (ps : List (List Nd)) (w : World) (hv : PReads w v ps) (hm : ∀ i, (ps.getD i []).length ≤ 9223372036854775806) (hl : ps.length ≤ 9223372036854775806) (hP : PTab w) :
    Calls Tryd.prog 24 #[ndV (k, s), v] w fun e w' => ((joinE (k, s) ps ≠ 0 ∧ e = .returned (.tuple #[.slice none 0 0, .int .i64 (joinE (k, s) ps)])) ∨
      (joinE (k, s) ps = 0 ∧ ∃ u, e = .returned (.tuple #[u, .int .i64 0]) ∧ w'.ownsRow w.heap.size 36 2 u (ps.flatten ++ [(k, s)]).length (ndC (ps.flatten ++ [(k, s)])))) ∧ Below w.heap.size w w' := by
  have HV : Hid (PReads w v ps) := hv
  obtain ⟨a, cap, rfl, hr⟩ := hv
  have HR : Hid _ := hr
  have HP : Hid (PTab w) := hP
  have HM : Hid (∀ i, (ps.getD i []).length ≤ 9223372036854775806) := hm
  clear hr hP hm
  have BA : Hid (Below w.heap.size w (w.alloc (.cells #[.int .i64 k, .int .u8 s] 36))) := (Below.refl _ _).alloc (Nat.le_refl _) _
  have RN : Hid (NB (w.alloc (.cells #[.int .i64 k, .int .u8 s] 36)) w.heap.size k s) := NB.new w k s
  show Calls Tryd.prog 24 #[.agg #[.int .i64 k, .int .u8 s], .slice a ps.length cap] w _
  by_cases hg : good (k, s) = true
  · obtain ⟨hk1, hk9⟩ := good_kind hg
    simp only at hk1 hk9
    obtain ⟨j, rfl⟩ : ∃ j : Nat, k = j := ⟨k.toNat, by omega⟩
    have hj9 : j < 10 := by omega
    have hjI : (j : Int) < 10 := by omega
    have HG : Hid (good ((j : Int), s) = true) := hg
    have hal := arity_le (j : Int)
    obtain ⟨r, hrd⟩ : ∃ r, arity (j : Int) = r := ⟨_, rfl⟩
    have HRD : Hid (arity (j : Int) = r) := hrd
    rw [hrd] at hal
    clear hg hrd
    by_cases har : ps.length = r
    · have HAR : Hid (ps.length = r) := har
      have haI : ((ps.length : Int) != (r : Int)) = false := by simp [har]
      have hl2 : ps.length ≤ 2 := by omega
      clear har hal
      go_enter Tryd.func24, Tryd.ntmps24
      go_wp2_with fail
      refine (isNode_any ((j : Int), s) _).mono ?_
      rintro e w1 ⟨rfl, hb1⟩
      rw [HG.out]
      have HN : Hid (NB w1 w.heap.size j s) := RN.out.keep hb1
      have HB1 : Hid (Below w.heap.size w w1) := go_on BA.out hb1
      have c0 := HN.out.fst
      have cp : w1.cell? ⟨0, j, none⟩ = some (.int .i64 (r : Int)) := by
        have := HP.out.below HB1.out HP.out.pos j hj9
        rw [HRD.out] at this
        exact this
      clear hb1
      go_wp2_with fail
      clear c0 cp haI
      go_loopw [6, 26] (fun vn vi wr => ∃ i n : Nat, i ≤ ps.length ∧ vi = .int .i64 i ∧ vn = .int .i64 n ∧ n = tot (ps.take i) + 1 ∧ n ≤ i * 4000 + 1 ∧ ferr (ps.take i) = 0 ∧ (∀ m, m < i → wrong (ps.getD m []) = 0) ∧ NB wr w.heap.size j s ∧ Below w.heap.size w wr) (fun _ vi _ => ps.length - (intOf vi).toNat)
      case atStart => exact ⟨0, 1, Nat.zero_le _, rfl, rfl, rfl, by omega, rfl, fun m hm => by omega, HN.out, HB1.out⟩
      case round =>
        clear HN HB1
        obtain ⟨i, n, hi, rfl, rfl, hn, hn4, hfe, hall, hnb, hb⟩ := hrel
        have HT : Hid (n = tot (ps.take i) + 1) := hn
        have HFE : Hid (ferr (ps.take i) = 0) := hfe
        have HALL : Hid (∀ m, m < i → wrong (ps.getD m []) = 0) := hall
        have HNB : Hid (NB wr w.heap.size j s) := hnb
        have HB : Hid (Below w.heap.size w wr) := hb
        clear hn hfe hall hnb hb
        by_cases hlt : i < ps.length
        · have hiI : (i : Int) < ps.length := by omega
          obtain ⟨g, o, u, rfl, hgl, hc, hu⟩ := HR.out i hlt
          have cc : wr.cell? ⟨g, o + i, none⟩ = some u := by rw [below_cell HB.out hgl]; exact hc
          obtain ⟨p, hp⟩ : ∃ p, ps.getD i [] = p := ⟨_, rfl⟩
          rw [hp] at hu
          have HU : Hid (NReads w u p) := hu
          obtain ⟨au, cu, rfl, _⟩ := hu
          have hpm : p.length ≤ 9223372036854775806 := by rw [← hp]; exact HM.out i
          have HPE : Hid (ps.getD i [] = p) := hp
          clear hp hc
          go_wp2_with fail
          refine (treeError_any _ p _ (HU.out.stay HB.out) hpm (HP.out.stay HB.out)).mono ?_
          rintro e w2 ⟨rfl, hb2⟩
          have HB2 : Hid (Below w.heap.size w w2) := go_on HB.out hb2
          have HN2 : Hid (NB w2 w.heap.size j s) := HNB.out.keep hb2
          clear hb2
          by_cases hw : wrong p = 0
          · have HWR : Hid (wrong p = 0) := hw
            obtain ⟨hpl, hpf⟩ := wrong_len hw
            rw [hw]
            clear hw hpf
            go_wp2_with fail
            go_roundw
            case rel =>
              refine ⟨i + 1, n + p.length, by omega, by go_num, by go_num, ?_, by omega, ?_, ?_, HN2.out, HB2.out⟩
              · rw [tot_next hlt, HPE.out, HT.out]; omega
              · rw [ferr_next hlt HFE.out, HPE.out]; exact HWR.out
              · intro m hm
                by_cases hmi : m < i
                · exact HALL.out m hmi
                · obtain rfl : m = i := by omega
                  rw [HPE.out]; exact HWR.out
            case measure => simp [intOf]; omega
          · have HE : Hid (joinE ((j : Int), s) ps = wrong p) := by
              show _ = _
              have hs := ferr_stop hlt HFE.out (by rw [HPE.out]; exact hw)
              rw [HPE.out] at hs
              unfold joinE
              rw [HG.out, if_neg (by simp), if_neg (by rw [HRD.out]; simpa using HAR.out), hs, if_pos hw]
            have HNW : Hid (wrong p ≠ 0) := hw
            obtain ⟨x, hx⟩ : ∃ x, wrong p = x := ⟨_, rfl⟩
            have hxb : (x != 0) = true := by rw [← hx]; simpa using hw
            rw [hx] at HE HNW ⊢
            clear hw hx
            go_wp2_with fail
            go_ret2
            exact ⟨.inl ⟨by rw [HE.out]; exact HNW.out, by rw [HE.out]; rfl⟩, HB2.out⟩
        · have hiI : ¬ (i : Int) < ps.length := by omega
          obtain rfl : i = ps.length := by omega
          rw [List.take_length] at HT HFE
          by_cases hbig : 4000 < n
          · have hbI : (4000 : Int) < n := by omega
            have HE : Hid (joinE ((j : Int), s) ps = 6) := by
              show _ = _
              unfold joinE
              rw [HG.out, if_neg (by simp), if_neg (by rw [HRD.out]; simpa using HAR.out), HFE.out, if_neg (by simp), if_pos (by rw [← HT.out]; exact hbig)]
            go_wp2_with fail
            go_ret2
            exact ⟨.inl ⟨by rw [HE.out]; decide, by rw [HE.out]; rfl⟩, HB.out⟩
          · have hbI : ¬ (4000 : Int) < n := by omega
            have HE : Hid (joinE ((j : Int), s) ps = 0) := by
              show _ = _
              unfold joinE
              rw [HG.out, if_neg (by simp), if_neg (by rw [HRD.out]; simpa using HAR.out), HFE.out, if_neg (by simp), if_neg (by rw [← HT.out]; exact hbig)]
            obtain ⟨i0, hi0, hz0, hz1, hz2⟩ := info_parts Tryd.info_node
            have hmk := fun w0 => run_make (P := Tryd.prog) w0 22 36 i0 (.agg #[.int .i64 0, .int .u8 0]) Tryd.underlying22 hi0 hz0 .i64 .i64 n n (by omega) (by omega) (by rw [hz2]; omega) (by omega)
            rw [hz1] at hmk
            obtain ⟨Z, hZ⟩ : ∃ Z : List Value, madeCells (Value.agg #[.int .i64 0, .int .u8 0]).cells ((n : Int).toNat * 2) = Z.toArray := ⟨_, (Array.toArray_toList).symm⟩
            have hZl : Z.length = n * 2 := by
              have := size_madeCells (Value.agg #[.int .i64 0, .int .u8 0]).cells ((n : Int).toNat * 2)
              rw [hZ] at this
              simpa using this
            rw [hZ] at hmk
            have HZ : Hid (WB (wr.alloc (.cells Z.toArray 36)) wr.heap.size Z) := heap_alloc_new wr _
            have HNZ : Hid (NB (wr.alloc (.cells Z.toArray 36)) w.heap.size j s) := HNB.out.alloc _
            have HBZ : Hid (Below w.heap.size w (wr.alloc (.cells Z.toArray 36))) := HB.out.alloc HB.out.size _
            have hNlt : w.heap.size < wr.heap.size := HNB.out.lt
            clear hi0 hz0 hz1 hz2 hZ
            go_wp2_with fail
            generalize hWZ : wr.alloc (.cells Z.toArray 36) = wZ at HZ HNZ HBZ ⊢
            have HTS : Hid (∀ i, i < ps.length → 1 ≤ (ps.getD i []).length ∧ freeN (ps.getD i []) = some 1 ∧ (ps.getD i []).length ≤ 4000 ∧ tot (ps.take (i + 1)) < n) := fun i hi => by
              obtain ⟨h1, h2⟩ := wrong_len (HALL.out i hi)
              refine ⟨free_pos h2, h2, h1, ?_⟩
              have : tot (ps.take (i + 1)) ≤ tot ps := by
                unfold tot
                conv => rhs; rw [← List.take_append_drop (i + 1) ps, List.flatten_append]
                simp
              have := HT.out
              omega
            obtain ⟨G, hG⟩ : ∃ G, wr.heap.size = G := ⟨_, rfl⟩
            rw [hG] at HZ hNlt ⊢
            clear hWZ hG HALL HFE HB HNB hmk
            rename World => wo
            go_loopw [11, 46] (fun vt vi wr => ∃ (i t : Nat) (L : List Value), i ≤ ps.length ∧ vi = .int .i64 i ∧ vt = .int .i64 t ∧ t = tot (ps.take i) ∧ L.length = n * 2 ∧ L.take (t * 2) = ndC (ps.take i).flatten ∧ WB wr G L ∧ NB wr w.heap.size j s ∧ Below w.heap.size w wr) (fun _ vi _ => ps.length - (intOf vi).toNat)
            case atStart => exact ⟨0, 0, Z, Nat.zero_le _, rfl, rfl, rfl, hZl, by simp [ndC], HZ.out, HNZ.out, HBZ.out⟩
            case round =>
              clear HZ HNZ HBZ hZl
              obtain ⟨i, t, L, hi, rfl, rfl, ht, hL, hLt, hwb, hnb, hb⟩ := hrel
              have HT2 : Hid (t = tot (ps.take i)) := ht
              have HLT : Hid (L.take (t * 2) = ndC (ps.take i).flatten) := hLt
              have HWB : Hid (WB wr G L) := hwb
              have HNB : Hid (NB wr w.heap.size j s) := hnb
              have HB : Hid (Below w.heap.size w wr) := hb
              clear ht hLt hwb hnb hb
              by_cases hlt : i < ps.length
              · have hiI : (i : Int) < ps.length := by omega
                obtain ⟨g, o, u, rfl, hgl, hc, hu⟩ := HR.out i hlt
                have cc : wr.cell? ⟨g, o + i, none⟩ = some u := by rw [below_cell HB.out hgl]; exact hc
                obtain ⟨h1, h2, h3, h4⟩ := HTS.out i hlt
                have h5 := tot_next hlt
                obtain ⟨p, hp⟩ : ∃ p, ps.getD i [] = p := ⟨_, rfl⟩
                rw [hp] at hu h1 h2 h3 h5
                rw [h5, ← HT2.out] at h4
                have HU : Hid (NReads w u p) := hu
                obtain ⟨au, cu, rfl, hx⟩ := hu
                obtain ⟨g2, o2, rfl, _⟩ := hx 0 (by omega)
                clear hx
                have HPE : Hid (ps.getD i [] = p) := hp
                have HCS : Hid (∀ j u, (ndC p)[j]? = some u → wr.cell? ((⟨g2, o2, none⟩ : Addr).add j) = some u) := nreads_cells (HU.out.stay HB.out)
                have hcl := ndC_length p
                have hc1 := ndC_one p
                have htn : (t : Int) ≤ n := by omega
                have htn2 : ¬ t = n := by omega
                have H5 : Hid (tot (ps.take (i + 1)) = t + p.length) := by show _ = _; rw [h5, ← HT2.out]
                obtain ⟨w2, hrun, HW2, HB2⟩ : ∃ w2, (Builtin.copy_ #[22, 22] 3 #[.slice (some ⟨G, t * 2, none⟩) (n - t) (n - t), .slice (some ⟨g2, o2, none⟩) p.length cu]).run Tryd.prog wr = .ok (.int .i64 (p.length : Int)) w2 ∧ Hid (WB w2 G (splice L (t * 2) (ndC p))) ∧ Hid (Below G wr w2) := by
                  obtain ⟨i0, hi0, hz0, hz1, hz2⟩ := info_parts Tryd.info_node
                  have hg0 : wr.heap[G]? = some (.cells L.toArray 36 (0, 0)) := HWB.out
                  have hfit : t * 2 + (ndC p).length ≤ L.toArray.size := by rw [hcl]; simp; omega
                  have hr2 := run_copy2 (P := Tryd.prog) wr 22 22 3 36 G (t * 2) (n - t) (n - t) ⟨g2, o2, none⟩ p.length cu p.length L.toArray 36 (ndC p) Tryd.underlying22 (by rw [hi0]; simp [hz1]) hg0 (Nat.min_eq_left (by omega)) hcl HCS.out hfit hc1
                  refine ⟨_, hr2, ?_, below_setRow (Below.refl _ _) (Nat.le_refl _) _⟩
                  show WB _ _ _
                  unfold WB
                  have := setRow_heap wr G L.toArray (L.toArray.toList.take (t * 2) ++ ndC p ++ L.toArray.toList.drop (t * 2 + (ndC p).length)).toArray _ _ hg0
                  rw [this]
                  simp [splice]
                clear hp hc h2 h5
                go_wp2_with fail
                go_roundw
                case rel =>
                  refine ⟨i + 1, t + p.length, splice L (t * 2) (ndC p), by omega, by go_num, by go_num, H5.out.symm, ?_, ?_, HW2.out, ?_, ?_⟩
                  · rw [length_splice _ _ _ (by omega)]; exact hL
                  · have := take_splice (cs := ndC p) (by omega) HLT.out
                    rw [flat_next hlt, HPE.out, ndC_append, ← this, hcl]
                    congr 1; omega
                  · exact (HB2.out.block _ hNlt).trans HNB.out
                  · exact HB.out.trans (HB2.out.mono (by omega))
                case measure => simp [intOf]; omega
              · have hiI : ¬ (i : Int) < ps.length := by omega
                obtain rfl : i = ps.length := by omega
                rw [List.take_length] at HT2 HLT
                have htn : n = t + 1 := by rw [HT.out, HT2.out]
                have htl : (t : Int) < n := by omega
                have d0 := HNB.out.fst
                have d1 := HNB.out.snd
                have g0 := HWB.out.get (t * 2)
                have g1 := HWB.out.get (t * 2 + 1)
                rw [List.getElem?_eq_getElem (by omega)] at g0 g1
                have f0 := HWB.out.frozen (t * 2)
                have f1 := HWB.out.frozen (t * 2 + 1)
                obtain ⟨x0, hx0⟩ : ∃ x, L[t * 2]'(by omega) = x := ⟨_, rfl⟩
                obtain ⟨x1, hx1⟩ : ∃ x, L[t * 2 + 1]'(by omega) = x := ⟨_, rfl⟩
                rw [hx0] at g0
                rw [hx1] at g1
                have hWE := (HWB.out.set (t * 2) (.int .i64 (j : Int))).set (t * 2 + 1) (.int .u8 s)
                rw [list_end (by omega) HLT.out, show ndC ps.flatten ++ [Value.int .i64 (j : Int), Value.int .u8 s] = ndC (ps.flatten ++ [((j : Int), s)]) by rw [ndC_append]; rfl] at hWE
                have HWE : Hid _ := hWE
                have HBE : Hid (Below w.heap.size w ((wr.setCell ⟨G, t * 2, none⟩ (.int .i64 (j : Int))).setCell ⟨G, t * 2 + 1, none⟩ (.int .u8 s))) := (HB.out.setCell (p := ⟨G, t * 2, none⟩) (by show w.heap.size ≤ G; omega) _).setCell (p := ⟨G, t * 2 + 1, none⟩) (by show w.heap.size ≤ G; omega) _
                have htot : Hid (ps.flatten.length = t) := HT2.out.symm
                clear hx0 hx1 hWE
                go_wp2_with fail
                go_ret2
                refine ⟨.inr ⟨HE.out, _, rfl, ?_⟩, HBE.out⟩
                have hs0 : (List.map List.length ps).sum = t := by rw [← List.length_flatten]; exact htot.out
                rw [hs0]
                exact WB.owns HWE.out (by omega) (by rw [List.length_append, htot.out]; rfl) (by omega)
    · have HE : Hid (joinE ((j : Int), s) ps = 1) := by
        show _ = _
        unfold joinE
        rw [HG.out, if_neg (by simp), if_pos (by rw [HRD.out]; exact har)]
      have haI : ((ps.length : Int) != (r : Int)) = true := by simp; omega
      go_enter Tryd.func24, Tryd.ntmps24
      go_wp2_with fail
      refine (isNode_any ((j : Int), s) _).mono ?_
      rintro e w1 ⟨rfl, hb1⟩
      rw [HG.out]
      have HN : Hid (NB w1 w.heap.size j s) := RN.out.keep hb1
      have HB1 : Hid (Below w.heap.size w w1) := go_on BA.out hb1
      have c0 := HN.out.fst
      have cp : w1.cell? ⟨0, j, none⟩ = some (.int .i64 (r : Int)) := by
        have := HP.out.below HB1.out HP.out.pos j hj9
        rw [HRD.out] at this
        exact this
      clear hb1
      go_wp2_with fail
      go_ret2
      exact ⟨.inl ⟨by rw [HE.out]; decide, by rw [HE.out]; rfl⟩, HB1.out⟩
  · have hg4 : good (k, s) = false := by simpa using hg
    have HE : Hid (joinE (k, s) ps = 30) := by
      show _ = _
      unfold joinE
      rw [if_pos hg4]
    have HG : Hid (good (k, s) = false) := hg4
    clear hg hg4
    go_enter Tryd.func24, Tryd.ntmps24
    go_wp2_with fail
    refine (isNode_any (k, s) _).mono ?_
    rintro e w1 ⟨rfl, hb1⟩
    rw [HG.out]
    have HB1 : Hid (Below w.heap.size w w1) := go_on BA.out hb1
    clear hb1
    go_wp2_with fail
    go_ret2
    exact ⟨.inl ⟨by rw [HE.out]; decide, by rw [HE.out]; rfl⟩, HB1.out⟩
end Go.Proofs.YtchaggigabccaaaDoor
