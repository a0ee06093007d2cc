/- Contracts of the document's Made and Join. -/
import Derived.Test.YtchaggigabccaaaDoorOc
namespace Go.Proofs.YtchaggigabccaaaDoor
open Go Go.RowKit

theorem tot_le {ps : List (List Nd)} (i : Nat) : tot (ps.take i) ≤ tot ps := by
  unfold tot
  conv => rhs; rw [← List.take_append_drop i ps, List.flatten_append]
  simp
theorem NB.grown {w w' : World} {b : Nat} {k s : Int} {row : Option Nat} (h : NB w b k s) (hg : w.grownBy w' row) (hne : row ≠ some b) : NB w' b k s :=
  (hg.block b h.lt (fun e => hne e.symm)).trans h

set_option maxHeartbeats 4000000 in
set_option maxRecDepth 100000 in
theorem made_any (k s : Int) (v : Value) (ps : List (List Nd)) (w : World) (hv : PReads w v ps) (hne : ∀ i, i < ps.length → 1 ≤ (ps.getD i []).length) (ht : tot ps + 1 ≤ 4000) (hl : ps.length ≤ 4000) :
    Calls Tryd.prog 46 #[ndV (k, s), v] w fun e w' => ∃ u, e = .returned u ∧ w'.ownsRow w.heap.size 36 2 u (ps.flatten ++ [(k, s)]).length (ndC (ps.flatten ++ [(k, s)])) ∧ Below w.heap.size w w' := by
  obtain ⟨i0, hi0, hz0, hz1, hz2⟩ := info_parts Tryd.info_node
  have HV : Hid (PReads w v ps) := hv
  obtain ⟨a, cap, rfl, hr⟩ := hv
  have HR : Hid _ := hr
  have HNE : Hid (∀ i, i < ps.length → 1 ≤ (ps.getD i []).length) := hne
  have BA : Hid (Below w.heap.size w (w.alloc (.cells #[.int .i64 k, .int .u8 s] 36))) := (Below.refl _ _).alloc (Nat.le_refl _) _
  have RN : Hid (NB (w.alloc (.cells #[.int .i64 k, .int .u8 s] 36)) w.heap.size k s) := NB.new w k s
  show Calls Tryd.prog 46 #[.agg #[.int .i64 k, .int .u8 s], .slice a ps.length cap] w _
  clear hr hne
  go_enter Tryd.func46, Tryd.ntmps46
  go_wp2_with fail
  go_loopw [5, 6] (fun vo vi wr => ∃ i : Nat, i ≤ ps.length ∧ vi = .int .i64 i ∧ wr.ownsRow (w.heap.size + 1) 36 2 vo (ps.take i).flatten.length (ndC (ps.take i).flatten) ∧ NB wr w.heap.size k s ∧ Below w.heap.size w wr) (fun _ vi _ => ps.length - (intOf vi).toNat)
  case atStart => exact ⟨0, Nat.zero_le _, rfl, World.ownsRow_nil _ _ _ _, RN.out, BA.out⟩
  case round =>
    clear RN BA
    obtain ⟨i, hi, rfl, ho, hnb, hb⟩ := hrel
    obtain ⟨X, hX⟩ : ∃ X, (ps.take i).flatten = X := ⟨_, rfl⟩
    rw [hX] at ho
    have hXl : X.length ≤ 4000 := by
      have := tot_le (ps := ps) i
      unfold tot at this
      rw [hX] at this
      unfold tot at ht
      omega
    have HX : Hid ((ps.take i).flatten = X) := hX
    obtain ⟨oa, oc, rfl⟩ := own_shape ho
    have HO : Hid (wr.ownsRow (w.heap.size + 1) 36 2 (.slice oa X.length oc) X.length (ndC X)) := ho
    have HNB : Hid (NB wr w.heap.size k s) := hnb
    have HB : Hid (Below w.heap.size w wr) := hb
    have hws : w.heap.size + 1 ≤ wr.heap.size := hnb.lt
    clear ho hnb hb hX
    by_cases hlt : i < ps.length
    · have hiI : (i : Int) < ps.length := by omega
      obtain ⟨g, o, u, rfl, hgl, hc, hu⟩ := HR.out i hlt
      have cc : wr.cell? ⟨g, o + i, none⟩ = some u := by rw [below_cell HB.out hgl]; exact hc
      obtain ⟨p, hp⟩ : ∃ p, ps.getD i [] = p := ⟨_, rfl⟩
      have hp1 := HNE.out i hlt
      have hpt := tot_next hlt
      have htl := tot_le (ps := ps) (i + 1)
      rw [hp] at hu hp1 hpt
      have hsum : X.length + p.length ≤ 4000 := by
        have e : tot (ps.take i) = X.length := by unfold tot; rw [HX.out]
        omega
      have HU : Hid (NReads wr u p) := hu.stay HB.out
      obtain ⟨au, cu, rfl, hx⟩ := hu
      obtain ⟨g2, o2, rfl, _⟩ := hx 0 (by omega)
      have HCS : Hid (∀ j u, (ndC p)[j]? = some u → wr.cell? ((⟨g2, o2, none⟩ : Addr).add j) = some u) := nreads_cells HU.out
      have hcl := ndC_length p
      have hc1 := ndC_one p
      have HF : Hid ((ps.take (i + 1)).flatten = X ++ p) := by show _ = _; rw [flat_next hlt, HX.out, hp]
      clear hx hc hp hpt htl
      go_wp2_with (at_builtin; refine wpList_append_own _ rfl _ _ 22 rfl (w.heap.size + 1) 36 i0 (.agg #[.int .i64 0, .int .u8 0]) 2 16 Tryd.underlying22 hi0 hz0 hz1 hz2 rfl (by decide) _ _ _ rfl HO.out ⟨g2, o2, none⟩ p.length cu (ndC p) rfl hcl HCS.out hc1 (by unfold maxLen; omega) (by omega) hws ?_)
      intro v2 w2 ho2 hg2 _
      have HO2 : Hid (w2.ownsRow (w.heap.size + 1) 36 2 v2 (X ++ p).length (ndC (X ++ p))) := by
        show World.ownsRow _ _ _ _ _ _ _
        rw [ndC_append, List.length_append]
        exact ho2
      have HNB2 : Hid (NB w2 w.heap.size k s) := HNB.out.grown hg2 (fun e => by have := (HO.out.lt _ e).1; omega)
      have HB2 : Hid (Below w.heap.size w w2) := HB.out.grown hg2 HB.out.size (fun k' hk' => by have := (HO.out.lt _ hk').1; omega)
      clear ho2 hg2
      go_wp2_with fail
      go_roundw
      case rel => exact ⟨i + 1, by omega, by go_num, by rw [HF.out]; exact HO2.out, HNB2.out, HB2.out⟩
      case measure => simp [intOf]; omega
    · have hiI : ¬ (i : Int) < ps.length := by omega
      obtain rfl : i = ps.length := by omega
      rw [List.take_length] at HX
      have c0 := HNB.out.fst
      have c1 := HNB.out.snd
      go_wp2_with (at_builtin; refine wpList_append_own _ rfl _ _ 22 rfl (w.heap.size + 1) 36 i0 (.agg #[.int .i64 0, .int .u8 0]) 2 16 Tryd.underlying22 hi0 hz0 hz1 hz2 rfl (by decide) _ _ _ rfl (HO.out.alloc _) ⟨wr.heap.size, 0, none⟩ 1 1 [.int .i64 k, .int .u8 s] rfl rfl ?f1 ?f2 ?f3 ?f4 ?f5 ?_)
      case f2 => exact ⟨rfl, rfl⟩
      case f3 => unfold maxLen; omega
      case f4 => omega
      case f5 => first | omega | (simp; omega)
      intro v2 w2 ho2 hg2 _
      have HO2 : Hid (w2.ownsRow w.heap.size 36 2 v2 (X ++ [(k, s)]).length (ndC (X ++ [(k, s)]))) := by
        show World.ownsRow _ _ _ _ _ _ _
        rw [ndC_append, List.length_append]
        exact own_mono ho2 (by omega)
      have HB2 : Hid (Below w.heap.size w w2) := (HB.out.alloc HB.out.size _).grown hg2 (by have := HB.out.size; simp; omega) (fun k' hk' => by have := (HO.out.lt _ hk').1; omega)
      clear ho2 hg2
      go_wp2_with fail
      go_ret
      refine ⟨_, rfl, ?_, HB2.out⟩
      rw [HX.out]
      exact HO2.out

set_option maxHeartbeats 4000000 in
set_option maxRecDepth 100000 in
theorem rjoin_any (k s : Int) (v : Value) (ps : List (List Nd)) (w : World) (hv : PReads w v ps) (hm : ∀ i, (ps.getD i []).length ≤ 9223372036854775806) (hl : ps.length ≤ 9223372036854775806) :
    Calls Tryd.prog 25 #[ndV (k, s), v] w fun e w' => ((joinE (k, s) ps ≠ 0 ∧ e = .returned (.tuple #[.slice none 0 0, .int .i64 (joinE (k, s) ps)])) ∨
      (joinE (k, s) ps = 0 ∧ ∃ u, e = .returned (.tuple #[u, .int .i64 0]) ∧ w'.ownsRow w.heap.size 36 2 u (ps.flatten ++ [(k, s)]).length (ndC (ps.flatten ++ [(k, s)])))) ∧ Below w.heap.size w w' := by
  have HV : Hid (PReads w v ps) := hv
  obtain ⟨a, cap, rfl, hr⟩ := hv
  have HR : Hid _ := hr
  have HM : Hid (∀ i, (ps.getD i []).length ≤ 9223372036854775806) := hm
  clear hr hm
  have BA : Hid (Below w.heap.size w (w.alloc (.cells #[.int .i64 k, .int .u8 s] 36))) := (Below.refl _ _).alloc (Nat.le_refl _) _
  have RN : Hid (NB (w.alloc (.cells #[.int .i64 k, .int .u8 s] 36)) w.heap.size k s) := NB.new w k s
  show Calls Tryd.prog 25 #[.agg #[.int .i64 k, .int .u8 s], .slice a ps.length cap] w _
  by_cases hg : good (k, s) = true
  · have HG : Hid (good (k, s) = true) := hg
    have hal := arity_le k
    obtain ⟨r, hrd⟩ : ∃ r, arity k = r := ⟨_, rfl⟩
    have HRD : Hid (arity k = r) := hrd
    rw [hrd] at hal
    clear hg hrd
    by_cases har : ps.length = r
    · have HAR : Hid (ps.length = r) := har
      have haI : ((ps.length : Int) != (r : Int)) = false := by simp [har]
      have hl2 : ps.length ≤ 2 := by omega
      clear har hal
      go_enter Tryd.func25, Tryd.ntmps25
      go_wp2_with fail
      refine (rgood_any (k, s) _).mono ?_
      rintro e w1 ⟨rfl, hb1⟩
      rw [HG.out]
      have HN : Hid (NB w1 w.heap.size k s) := RN.out.keep hb1
      have HB1 : Hid (Below w.heap.size w w1) := go_on BA.out hb1
      have c0 := HN.out.fst
      clear hb1
      go_wp2_with fail
      refine (rarity_any k _).mono ?_
      rintro e w2 ⟨rfl, rfl⟩
      rw [HRD.out]
      go_wp2_with fail
      clear c0 haI
      go_loopw [6, 7] (fun vn vi wr => ∃ i n : Nat, i ≤ ps.length ∧ vi = .int .i64 i ∧ vn = .int .i64 n ∧ n = tot (ps.take i) + 1 ∧ n ≤ i * 4000 + 1 ∧ ferr (ps.take i) = 0 ∧ (∀ m, m < i → wrong (ps.getD m []) = 0) ∧ NB wr w.heap.size k s ∧ Below w.heap.size w wr) (fun _ vi _ => ps.length - (intOf vi).toNat)
      case atStart => exact ⟨0, 1, Nat.zero_le _, rfl, rfl, rfl, by omega, rfl, fun m hm => by omega, HN.out, HB1.out⟩
      case round =>
        clear HN HB1
        obtain ⟨i, n, hi, rfl, rfl, hn, hn4, hfe, hall, hnb, hb⟩ := hrel
        have HT : Hid (n = tot (ps.take i) + 1) := hn
        have HFE : Hid (ferr (ps.take i) = 0) := hfe
        have HALL : Hid (∀ m, m < i → wrong (ps.getD m []) = 0) := hall
        have HNB : Hid (NB wr w.heap.size k s) := hnb
        have HB : Hid (Below w.heap.size w wr) := hb
        clear hn hfe hall hnb hb
        by_cases hlt : i < ps.length
        · have hiI : (i : Int) < ps.length := by omega
          obtain ⟨g, o, u, rfl, hgl, hc, hu⟩ := HR.out i hlt
          have cc : wr.cell? ⟨g, o + i, none⟩ = some u := by rw [below_cell HB.out hgl]; exact hc
          obtain ⟨p, hp⟩ : ∃ p, ps.getD i [] = p := ⟨_, rfl⟩
          rw [hp] at hu
          have HU : Hid (NReads w u p) := hu
          obtain ⟨au, cu, rfl, _⟩ := hu
          have hpm : p.length ≤ 9223372036854775806 := by rw [← hp]; exact HM.out i
          have HPE : Hid (ps.getD i [] = p) := hp
          have HCC : Hid (∀ w', Below w.heap.size w w' → w'.cell? ⟨g, o + i, none⟩ = some (.slice au p.length cu)) := fun w' hb' => by rw [below_cell hb' hgl]; exact hc
          clear hp hc
          go_wp2_with fail
          refine (rwrong_any _ p _ (HU.out.stay HB.out) hpm).mono ?_
          rintro e w2 ⟨rfl, hb2⟩
          have HB2 : Hid (Below w.heap.size w w2) := go_on HB.out hb2
          have HN2 : Hid (NB w2 w.heap.size k s) := HNB.out.keep hb2
          have cc2 := HCC.out w2 HB2.out
          clear hb2 cc
          by_cases hw : wrong p = 0
          · have HWR : Hid (wrong p = 0) := hw
            obtain ⟨hpl, hpf⟩ := wrong_len hw
            rw [hw]
            clear hw hpf
            go_wp2_with fail
            go_roundw
            case rel =>
              refine ⟨i + 1, n + p.length, by omega, by go_num, by go_num, ?_, by omega, ?_, ?_, HN2.out, HB2.out⟩
              · rw [tot_next hlt, HPE.out, HT.out]; omega
              · rw [ferr_next hlt HFE.out, HPE.out]; exact HWR.out
              · intro m hm
                by_cases hmi : m < i
                · exact HALL.out m hmi
                · obtain rfl : m = i := by omega
                  rw [HPE.out]; exact HWR.out
            case measure => simp [intOf]; omega
          · have HE : Hid (joinE (k, s) ps = wrong p) := by
              show _ = _
              have hs := ferr_stop hlt HFE.out (by rw [HPE.out]; exact hw)
              rw [HPE.out] at hs
              unfold joinE
              rw [HG.out, if_neg (by simp), if_neg (by rw [HRD.out]; simpa using HAR.out), hs, if_pos hw]
            have HNW : Hid (wrong p ≠ 0) := hw
            obtain ⟨x, hx⟩ : ∃ x, wrong p = x := ⟨_, rfl⟩
            have hxb : (x != 0) = true := by rw [← hx]; simpa using hw
            rw [hx] at HE HNW ⊢
            clear hw hx
            go_wp2_with fail
            go_ret2
            exact ⟨.inl ⟨by rw [HE.out]; exact HNW.out, by rw [HE.out]; rfl⟩, HB2.out⟩
        · have hiI : ¬ (i : Int) < ps.length := by omega
          obtain rfl : i = ps.length := by omega
          rw [List.take_length] at HT HFE
          by_cases hbig : 4000 < n
          · have hbI : (4000 : Int) < n := by omega
            have HE : Hid (joinE (k, s) ps = 6) := by
              show _ = _
              unfold joinE
              rw [HG.out, if_neg (by simp), if_neg (by rw [HRD.out]; simpa using HAR.out), HFE.out, if_neg (by simp), if_pos (by rw [← HT.out]; exact hbig)]
            go_wp2_with fail
            go_ret2
            exact ⟨.inl ⟨by rw [HE.out]; decide, by rw [HE.out]; rfl⟩, HB.out⟩
          · have hbI : ¬ (4000 : Int) < n := by omega
            have HE : Hid (joinE (k, s) ps = 0) := by
              show _ = _
              unfold joinE
              rw [HG.out, if_neg (by simp), if_neg (by rw [HRD.out]; simpa using HAR.out), HFE.out, if_neg (by simp), if_neg (by rw [← HT.out]; exact hbig)]
            have c0 := HNB.out.fst
            have c1 := HNB.out.snd
            go_wp2_with fail
            refine (made_any k s _ ps _ (HV.out.stay HB.out) (fun i hi => free_pos (wrong_len (HALL.out i hi)).2) (by rw [← HT.out]; omega) (by omega)).mono ?_
            rintro e w2 ⟨u, rfl, ho, hb2⟩
            have HO2 : Hid (w2.ownsRow wr.heap.size 36 2 u (ps.flatten ++ [(k, s)]).length (ndC (ps.flatten ++ [(k, s)]))) := ho
            have HB2 : Hid (Below w.heap.size w w2) := go_on HB.out hb2
            clear ho hb2
            go_wp2_with fail
            go_ret2
            exact ⟨.inr ⟨HE.out, _, rfl, own_mono HO2.out HB.out.size⟩, HB2.out⟩
    · have HE : Hid (joinE (k, s) ps = 1) := by
        show _ = _
        unfold joinE
        rw [HG.out, if_neg (by simp), if_pos (by rw [HRD.out]; exact har)]
      have haI : ((ps.length : Int) != (r : Int)) = true := by simp; omega
      go_enter Tryd.func25, Tryd.ntmps25
      go_wp2_with fail
      refine (rgood_any (k, s) _).mono ?_
      rintro e w1 ⟨rfl, hb1⟩
      rw [HG.out]
      have HN : Hid (NB w1 w.heap.size k s) := RN.out.keep hb1
      have HB1 : Hid (Below w.heap.size w w1) := go_on BA.out hb1
      have c0 := HN.out.fst
      clear hb1
      go_wp2_with fail
      refine (rarity_any k _).mono ?_
      rintro e w2 ⟨rfl, rfl⟩
      rw [HRD.out]
      go_wp2_with fail
      go_ret2
      exact ⟨.inl ⟨by rw [HE.out]; decide, by rw [HE.out]; rfl⟩, HB1.out⟩
  · have hg4 : good (k, s) = false := by simpa using hg
    have HE : Hid (joinE (k, s) ps = 30) := by
      show _ = _
      unfold joinE
      rw [if_pos hg4]
    have HG : Hid (good (k, s) = false) := hg4
    clear hg hg4
    go_enter Tryd.func25, Tryd.ntmps25
    go_wp2_with fail
    refine (rgood_any (k, s) _).mono ?_
    rintro e w1 ⟨rfl, hb1⟩
    rw [HG.out]
    have HB1 : Hid (Below w.heap.size w w1) := go_on BA.out hb1
    clear hb1
    go_wp2_with fail
    go_ret2
    exact ⟨.inl ⟨by rw [HE.out]; decide, by rw [HE.out]; rfl⟩, HB1.out⟩
end Go.Proofs.YtchaggigabccaaaDoor
