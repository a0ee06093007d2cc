/- The normal form of a node with parts that are trees. -/
import Derived.Test.YtdmjcfecahcdnaaDoorXr
import Derived.Test.YtdmjcfecahcdnaaDoorTy
namespace Go.Proofs.YtdmjcfecahcdnaaDoor
open Go Go.RowKit
set_option linter.unusedVariables false

/-- What a join tells: too large, or the normal form. -/
def JQ (T : Tr) (w : World) (e : Ending) (w' : World) : Prop := (4000 < (nrm T).flat.length ∧ e = .returned (.tuple #[.slice none 0 0, .int .i64 6]) ∧ Below w.heap.size w w') ∨ ((nrm T).flat.length ≤ 4000 ∧ NQ T w e w')

set_option maxHeartbeats 8000000 in
set_option maxRecDepth 100000 in
theorem joined_good (k : Int) (ps : List (List Nd)) (T : Tr) (ho : T.ok) (hT : T.flat = ps.flatten ++ [(k, 0)]) (hps : ps.length ≤ 2) (hw : ∀ i, i < ps.length → wrong (ps.getD i []) = 0) (G0 pc : Nat) (w : World) (hP : PTab w) (hG0 : G0 < w.heap.size) (hr : ∀ i, i < ps.length → ∃ u, w.cell? ⟨G0, i, none⟩ = some u ∧ NReads w u (ps.getD i [])) :
    Calls Tryd.prog 37 #[.int .i64 k, .slice (some ⟨G0, 0, none⟩) ps.length pc] w fun e w' => JQ T w e w' := by
  have HR : Hid (∀ i, i < ps.length → ∃ u, w.cell? ⟨G0, i, none⟩ = some u ∧ NReads w u (ps.getD i [])) := hr
  have HW : Hid (∀ i, i < ps.length → wrong (ps.getD i []) = 0) := hw
  have HP : Hid (PTab w) := hP
  have HO : Hid T.ok := ho
  have HT : Hid (T.flat = ps.flatten ++ [(k, 0)]) := hT
  have HLE : Hid (∀ i, i < ps.length → 1 ≤ (ps.getD i []).length ∧ (ps.getD i []).length ≤ 4000) := fun i hi => by
    obtain ⟨h1, h2⟩ := wrong_len (hw i hi)
    exact ⟨free_pos h2, h1⟩
  have HTB : Hid (∀ i, i ≤ ps.length → tot (ps.take i) ≤ i * 4000) := fun i => by
    induction i with
    | zero => intro _; simp [tot]
    | succ i ih =>
      intro hi
      have h1 := ih (by omega)
      have h2 := tot_next (ps := ps) (i := i) (by omega)
      have h3 := (HLE.out i (by omega)).2
      rw [h2]
      omega
  clear hr hw hP ho hT
  go_enter Tryd.func37, Tryd.ntmps37
  go_wp2_with fail
  go_loopw [6, 17] (fun v6 v17 wr => ∃ i : Nat, i ≤ ps.length ∧ v6 = .int .i64 ((tot (ps.take i) + 1 : Nat) : Int) ∧ v17 = .int .i64 (i : Int) ∧ Below w.heap.size w wr) (fun _ v17 _ => ps.length - (intOf v17).toNat)
  case atStart => exact ⟨0, Nat.zero_le _, by simp [tot], rfl, Below.refl _ _⟩
  case round =>
    obtain ⟨i, hi, rfl, rfl, hbl⟩ := hrel
    have HB : Hid (Below w.heap.size w wr) := hbl
    clear hbl
    by_cases hlt : i < ps.length
    · have hiI : (i : Int) < ps.length := by omega
      obtain ⟨u, hu, hun⟩ := HR.out i hlt
      have cu : wr.cell? ⟨G0, i, none⟩ = some u := (World.cell?_of_block (a := ⟨G0, i, none⟩) (HB.out.block G0 hG0)).trans hu
      have hgl : G0 < wr.heap.size := Nat.lt_of_lt_of_le hG0 HB.out.size
      have HU : Hid (NReads w u (ps.getD i [])) := hun
      obtain ⟨au, cc, hue, _⟩ := id hun
      obtain ⟨pl, hpl⟩ : ∃ pl, (ps.getD i []).length = pl := ⟨_, rfl⟩
      have h3 := (HLE.out i hlt).2
      have h4 := HTB.out i hi
      have h5 := tot_next (ps := ps) (i := i) hlt
      rw [hpl] at hue h3 h5
      have hwr : IntKind.i64.wrap (((tot (ps.take i) + 1 : Nat) : Int) + (pl : Int)) = ((tot (ps.take (i + 1)) + 1 : Nat) : Int) := by rw [IntKind.wrap_i64, h5]; omega
      obtain ⟨t1, ht1⟩ : ∃ t1, tot (ps.take i) + 1 = t1 := ⟨_, rfl⟩
      obtain ⟨t2, ht2⟩ : ∃ t2, tot (ps.take (i + 1)) + 1 = t2 := ⟨_, rfl⟩
      rw [ht1, ht2] at hwr
      rw [ht1]
      have HT2 : Hid (tot (ps.take (i + 1)) + 1 = t2) := ht2
      subst hue
      clear hu hun h4 h5 ht1 ht2
      go_wp2_with fail
      refine (nerr_any _ _ _ (HU.out.stay HB.out) (by rw [hpl]; omega) (HP.out.stay HB.out)).mono ?_
      rintro e w1 ⟨rfl, hb1⟩
      rw [HW.out i hlt]
      have HB1 : Hid (Below w.heap.size w w1) := go_on HB.out hb1
      clear hb1 hpl
      go_wp2_with fail
      go_roundw
      case rel => exact ⟨i + 1, by omega, by rw [HT2.out], by go_num, HB1.out⟩
      case measure => simp [intOf]; omega
    · obtain rfl : i = ps.length := by omega
      have hiI : ¬ ((ps.length : Nat) : Int) < ps.length := by omega
      obtain ⟨n, hn⟩ : ∃ n, tot (ps.take ps.length) + 1 = n := ⟨_, rfl⟩
      rw [hn]
      have HNT : Hid (tot ps + 1 = n) := by have := hn; rw [List.take_length] at this; exact this
      have hnb : n ≤ 8001 := by have := HTB.out ps.length (Nat.le_refl _); omega
      have hn1 : 1 ≤ n := by omega
      clear hn
      obtain ⟨i0, hi0, hz0, hz1, hz2⟩ := info_parts Tryd.info_node
      have hmk := fun w0 => run_make (P := Tryd.prog) w0 22 52 i0 (.agg #[.int .i64 0, .int .u8 0]) Tryd.underlying22 hi0 hz0 .i64 .i64 n n (by omega) (by omega) (by rw [hz2]; omega) (by omega)
      rw [hz1] at hmk
      obtain ⟨Z, hZ⟩ : ∃ Z : List Value, madeCells (Value.agg #[.int .i64 0, .int .u8 0]).cells ((n : Int).toNat * 2) = Z.toArray := ⟨_, (Array.toArray_toList).symm⟩
      have hZl : Z.length = n * 2 := by
        have := size_madeCells (Value.agg #[.int .i64 0, .int .u8 0]).cells ((n : Int).toNat * 2)
        rw [hZ] at this
        simpa using this
      rw [hZ] at hmk
      have HZ : Hid (WB (wr.alloc (.cells Z.toArray 52)) wr.heap.size Z) := heap_alloc_new wr _
      have HBZ : Hid (Below w.heap.size w (wr.alloc (.cells Z.toArray 52))) := HB.out.alloc HB.out.size _
      have hGw : w.heap.size ≤ wr.heap.size := HB.out.size
      clear hi0 hz0 hz1 hz2 hZ
      go_wp2_with fail
      generalize hWZ : wr.alloc (.cells Z.toArray 52) = wZ at HZ HBZ ⊢
      have HTS : Hid (∀ i, i < ps.length → tot (ps.take (i + 1)) < n) := fun i hi => by
        have h1 : tot (ps.take (i + 1)) ≤ tot ps := by
          unfold tot
          conv => rhs; rw [← List.take_append_drop (i + 1) ps, List.flatten_append]
          simp
        have := HNT.out
        omega
      obtain ⟨G, hG⟩ : ∃ G, wr.heap.size = G := ⟨_, rfl⟩
      rw [hG] at HZ hGw ⊢
      clear hWZ hG HB hmk hiI hlt
      rename World => wo
      go_loopw [11, 35] (fun vt vi wr => ∃ (i t : Nat) (L : List Value), i ≤ ps.length ∧ vi = .int .i64 i ∧ vt = .int .i64 t ∧ t = tot (ps.take i) ∧ L.length = n * 2 ∧ L.take (t * 2) = ndC (ps.take i).flatten ∧ WB wr G L ∧ Below w.heap.size w wr) (fun _ vi _ => ps.length - (intOf vi).toNat)
      case atStart => exact ⟨0, 0, Z, Nat.zero_le _, rfl, rfl, rfl, hZl, by simp [ndC], HZ.out, HBZ.out⟩
      case round =>
        clear HZ HBZ hZl
        obtain ⟨i, t, L, hi, rfl, rfl, ht, hL, hLt, hwb, hb⟩ := hrel
        have HT2 : Hid (t = tot (ps.take i)) := ht
        have HLT : Hid (L.take (t * 2) = ndC (ps.take i).flatten) := hLt
        have HWB : Hid (WB wr G L) := hwb
        have HB : Hid (Below w.heap.size w wr) := hb
        clear ht hLt hwb hb
        by_cases hlt : i < ps.length
        · have hiI : (i : Int) < ps.length := by omega
          obtain ⟨u, hc, hu⟩ := HR.out i hlt
          have cc : wr.cell? ⟨G0, i, none⟩ = some u := (World.cell?_of_block (a := ⟨G0, i, none⟩) (HB.out.block G0 hG0)).trans hc
          obtain ⟨h1, h3⟩ := HLE.out i hlt
          have h4 := HTS.out i hlt
          have h5 := tot_next (ps := ps) (i := i) hlt
          obtain ⟨p, hp⟩ : ∃ p, ps.getD i [] = p := ⟨_, rfl⟩
          rw [hp] at hu h1 h3 h5
          rw [h5, ← HT2.out] at h4
          have HU : Hid (NReads w u p) := hu
          obtain ⟨au, cu, rfl, hx⟩ := hu
          obtain ⟨g2, o2, rfl, _⟩ := hx 0 (by omega)
          clear hx
          have HPE : Hid (ps.getD i [] = p) := hp
          have HCS : Hid (∀ j u, (ndC p)[j]? = some u → wr.cell? ((⟨g2, o2, none⟩ : Addr).add j) = some u) := nreads_cells (HU.out.stay HB.out)
          have hcl := ndC_length p
          have hc1 := ndC_one p
          have htn : (t : Int) ≤ n := by omega
          have htn2 : ¬ t = n := by omega
          have htn3 : ¬ n = t := by omega
          have H5 : Hid (tot (ps.take (i + 1)) = t + p.length) := by show _ = _; rw [h5, ← HT2.out]
          obtain ⟨w2, hrun, HW2, HB2⟩ : ∃ w2, (Builtin.copy_ #[22, 22] 3 #[.slice (some ⟨G, t * 2, none⟩) (n - t) (n - t), .slice (some ⟨g2, o2, none⟩) p.length cu]).run Tryd.prog wr = .ok (.int .i64 (p.length : Int)) w2 ∧ Hid (WB w2 G (splice L (t * 2) (ndC p))) ∧ Hid (Below G wr w2) := by
            obtain ⟨i0, hi0, hz0, hz1, hz2⟩ := info_parts Tryd.info_node
            have hg0 : wr.heap[G]? = some (.cells L.toArray 52 (0, 0)) := HWB.out
            have hfit : t * 2 + (ndC p).length ≤ L.toArray.size := by rw [hcl]; simp; omega
            have hr2 := run_copy2 (P := Tryd.prog) wr 22 22 3 52 G (t * 2) (n - t) (n - t) ⟨g2, o2, none⟩ p.length cu p.length L.toArray 52 (ndC p) Tryd.underlying22 (by rw [hi0]; simp [hz1]) hg0 (Nat.min_eq_left (by omega)) hcl HCS.out hfit hc1
            refine ⟨_, hr2, ?_, below_setRow (Below.refl _ _) (Nat.le_refl _) _⟩
            show WB _ _ _
            unfold WB
            have := setRow_heap wr G L.toArray (L.toArray.toList.take (t * 2) ++ ndC p ++ L.toArray.toList.drop (t * 2 + (ndC p).length)).toArray _ _ hg0
            rw [this]
            simp [splice]
          clear hp hc h5
          go_wp2_with fail
          go_roundw
          case rel =>
            refine ⟨i + 1, t + p.length, splice L (t * 2) (ndC p), by omega, by go_num, by go_num, H5.out.symm, ?_, ?_, HW2.out, ?_⟩
            · rw [length_splice _ _ _ (by omega)]; exact hL
            · have := take_splice (cs := ndC p) (by omega) HLT.out
              rw [flat_next hlt, HPE.out, ndC_append, ← this, hcl]
              congr 1; omega
            · exact HB.out.trans (HB2.out.mono (by omega))
          case measure => simp [intOf]; omega
        · have hiI : ¬ (i : Int) < ps.length := by omega
          obtain rfl : i = ps.length := by omega
          rw [List.take_length] at HT2 HLT
          have htn : n = t + 1 := by rw [← HNT.out, HT2.out]
          have htl : (t : Int) < n := by omega
          have g0 := HWB.out.get (t * 2)
          have g1 := HWB.out.get (t * 2 + 1)
          rw [List.getElem?_eq_getElem (by omega)] at g0 g1
          have f0 := HWB.out.frozen (t * 2)
          have f1 := HWB.out.frozen (t * 2 + 1)
          obtain ⟨x0, hx0⟩ : ∃ x, L[t * 2]'(by omega) = x := ⟨_, rfl⟩
          obtain ⟨x1, hx1⟩ : ∃ x, L[t * 2 + 1]'(by omega) = x := ⟨_, rfl⟩
          rw [hx0] at g0
          rw [hx1] at g1
          have hWE := (HWB.out.set (t * 2) (.int .i64 k)).set (t * 2 + 1) (.int .u8 0)
          rw [list_end (by omega) HLT.out, show ndC ps.flatten ++ [Value.int .i64 k, Value.int .u8 0] = ndC (ps.flatten ++ [(k, 0)]) by rw [ndC_append]; rfl, ← HT.out] at hWE
          have HWE : Hid (WB ((wr.setCell ⟨G, t * 2, none⟩ (.int .i64 k)).setCell ⟨G, t * 2 + 1, none⟩ (.int .u8 0)) G (ndC T.flat)) := hWE
          have HBE : Hid (Below w.heap.size w ((wr.setCell ⟨G, t * 2, none⟩ (.int .i64 k)).setCell ⟨G, t * 2 + 1, none⟩ (.int .u8 0))) := (HB.out.setCell (p := ⟨G, t * 2, none⟩) (by show w.heap.size ≤ G; omega) _).setCell (p := ⟨G, t * 2 + 1, none⟩) (by show w.heap.size ≤ G; omega) _
          have HTL : Hid (T.flat.length = n) := by
            show _ = _
            rw [HT.out, List.length_append, List.length_singleton]
            exact HNT.out
          have htl2 : t < n := by omega
          clear hx0 hx1 hWE htn
          go_wp2_with fail
          generalize (wr.setCell ⟨G, t * 2, none⟩ (.int .i64 k)).setCell ⟨G, t * 2 + 1, none⟩ (.int .u8 0) = w5 at HWE HBE ⊢
          have HNR : Hid (NReads w5 (.slice (some ⟨G, 0, none⟩) T.flat.length n) T.flat) := by
            refine ⟨some ⟨G, 0, none⟩, n, rfl, fun i hi => ⟨G, 0, rfl, HWE.out.lt, ?_, ?_⟩⟩
            · rw [Nat.zero_add, HWE.out.get]; exact ndC_fst _ i hi
            · rw [Nat.zero_add, HWE.out.get]; exact ndC_snd _ i hi
          have HNC := normal_any (some ⟨G, 0, none⟩) n T HO.out w5 HNR.out (by rw [HTL.out]; exact hnb)
          rw [HTL.out] at HNC
          clear g0 g1 f0 f1
          refine HNC.mono ?_
          rintro e w6 ⟨B, F, rfl, hf6, hb6⟩
          obtain ⟨hrow, hcB⟩ := FT.row hf6
          have hs5 := HBE.out.size
          have HO6 : Hid (w6.ownsRow w.heap.size 52 2 (.slice (some ⟨F.nb, 0, none⟩) (nrm T).flat.length F.nc) (nrm T).flat.length (ndC (nrm T).flat)) := own_mono hrow hs5
          have HB6 : Hid (Below w.heap.size w w6) := go_on HBE.out hb6
          obtain ⟨m, hm⟩ : ∃ m, (nrm T).flat.length = m := ⟨_, rfl⟩
          have HM : Hid ((nrm T).flat.length = m) := hm
          rw [hm] at hcB
          clear hrow hf6 hb6 HNC hm
          by_cases hbig : 4000 < m
          · have hbI : (4000 : Int) < m := by omega
            go_wp2_with fail
            go_ret2
            exact .inl ⟨by rw [HM.out]; exact hbig, rfl, HB6.out⟩
          · have hbI : ¬ (4000 : Int) < m := by omega
            go_wp2_with fail
            go_ret2
            exact .inr ⟨by rw [HM.out]; omega, _, rfl, by have := HO6.out; rw [HM.out] at this ⊢; exact this, HB6.out⟩
end Go.Proofs.YtdmjcfecahcdnaaDoor
