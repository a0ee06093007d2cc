/- The document's rule of Union and Inter is the program's. The document's Form is the normal form. The document's Form is the normal form (printed by tools/form2.py). -/
import Derived.Test.YtdmjcfecahcdnaaDoorUc
namespace Go.Proofs.YtdmjcfecahcdnaaDoor
open Go Go.RowKit
set_option linter.unusedVariables false

abbrev SC (W : World) (lg lo : Nat) (u : Value) (w' : World) : Prop := w'.cell? ⟨lg, lo, none⟩ = some u ∧ Below W.heap.size W w'
theorem sc_step {W : World} {lg lo : Nat} {u : Value} {w1 w2 : World} (h1 : lg < W.heap.size) (hb : Below w1.heap.size w1 w2) (h : SC W lg lo u w1) : SC W lg lo u w2 := by
  have hs := h.2.size
  refine ⟨?_, go_on h.2 hb⟩
  rw [below_cell hb (by omega)]; exact h.1
theorem sc_alloc {W : World} {lg lo : Nat} {u : Value} {w1 : World} (h1 : lg < W.heap.size) (o : Obj) (h : SC W lg lo u w1) : SC W lg lo u (w1.alloc o) := sc_step h1 ((Below.refl _ _).alloc (Nat.le_refl _) o) h
theorem sc_below {W : World} {lg lo : Nat} {u : Value} {w' : World} (h : SC W lg lo u w') : Below W.heap.size W w' := h.2
theorem lens_take (M : List Tr) (i : Nat) : lens (M.take i) ≤ lens M := by
  have : lens M = lens (M.take i) + lens (M.drop i) := by
    unfold lens
    rw [← List.sum_append, ← List.map_append, List.take_append_drop]
  omega
theorem takeT_next {M : List Tr} {i : Nat} (h : i < M.length) : M.take (i + 1) = M.take i ++ [M.getD i tNone] := by
  rw [List.take_succ_eq_append_getElem h, List.getD_eq_getElem?_getD, List.getElem?_eq_getElem h]
  rfl
theorem mem_len {M : List Tr} {m : Tr} (h : m ∈ M) : m.flat.length + 1 ≤ lens M := by
  unfold lens
  induction M with
  | nil => simp at h
  | cons x M ih =>
    rcases List.mem_cons.1 h with rfl | h
    · simp
    · have := ih h; simp at *; omega
theorem getD_mem {M : List Tr} {i : Nat} (h : i < M.length) : M.getD i tNone ∈ M := by
  rw [List.getD_eq_getElem?_getD, List.getElem?_eq_getElem h]
  exact List.getElem_mem h

set_option maxHeartbeats 16000000 in
set_option maxRecDepth 100000 in
theorem several_L (k k2 : Int) (hk : k = 5 ∧ k2 = 6 ∨ k = 6 ∧ k2 = 5) (x y : Tr) (hox : x.ok) (hoy : y.ok) (L : List Tr) (hL : Lst k x ++ Lst k y = L) (R : Tr) (hR1 : zeroK k ∈ L → R = zeroK k) (hR2 : zeroK k ∉ L → R = if insAll L = [] then unitK k else build k (insAll L))
    (ax ay : Option Addr) (cx cy : Nat) (w : World) (hx : NReads w (.slice ax x.flat.length cx) x.flat) (hy : NReads w (.slice ay y.flat.length cy) y.flat) (kx : x.flat.length ≤ cx) (ky : y.flat.length ≤ cy) (hl : x.flat.length + y.flat.length ≤ 8990) :
    Calls Tryd.prog 41 #[.int .i64 k, .slice ax x.flat.length cx, .slice ay y.flat.length cy] w (Own w R) := by
  unfold Own
  have hk1 : k = 5 ∨ k = 6 := by omega
  have HK2 : Hid (k2 = 5 ∨ k2 = 6) := by show _ ∨ _; omega
  have HUZ : Hid (unitK k2 = zeroK k) := by
    show _ = _
    rcases hk with ⟨rfl, rfl⟩ | ⟨rfl, rfl⟩ <;> rfl
  have hkw : IntKind.i64.wrap (11 - k) = k2 := by rcases hk with ⟨rfl, rfl⟩ | ⟨rfl, rfl⟩ <;> rfl
  have HLX : Hid (Lc 0 k x) := listed_any k hk1 hox
  have HLY : Hid (Lc 0 k y) := listed_any k hk1 hoy
  have HOL : Hid (Oks L) := by
    show Oks L
    rw [← hL]
    intro m hm
    rcases List.mem_append.1 hm with h | h
    · exact lst_ok hox m h
    · exact lst_ok hoy m h
  have l1 := lst_lens k x
  have l2 := lst_lens k y
  have hlens : lens L ≤ 8992 := by rw [← hL]; unfold lens at *; rw [List.map_append, List.sum_append]; omega
  have HLL : Hid (lens L ≤ 8992) := hlens
  have hLn : L.length ≤ 8990 := by rw [← hL, List.length_append]; omega
  have HML : Hid (∀ m ∈ L, m.flat.length ≤ 8991) := fun m hm => by have := mem_len hm; omega
  have HX : Hid (NReads w (.slice ax x.flat.length cx) x.flat) := hx
  have HY : Hid (NReads w (.slice ay y.flat.length cy) y.flat) := hy
  have HKX : Hid (x.flat.length ≤ cx ∧ y.flat.length ≤ cy ∧ x.flat.length ≤ 9000 ∧ y.flat.length ≤ 9000 ∧ (Lst k x).length + (Lst k y).length ≤ 9000) := ⟨kx, ky, by omega, by omega, by omega⟩
  have HL : Hid (Lst k x ++ Lst k y = L) := hL
  have HR1 : Hid (zeroK k ∈ L → R = zeroK k) := hR1
  have HR2 : Hid (zeroK k ∉ L → R = if insAll L = [] then unitK k else build k (insAll L)) := hR2
  have HSP := insAll_spec _ rfl HOL.out
  have HMO : Hid (Oks (insAll L)) := HSP.1
  have HMN : Hid (lens (insAll L) ≤ 8992) := by show _ ≤ _; have := HSP.2.2.2.2; omega
  have HIL : Hid (∀ i, (insAll (L.take i)).length ≤ 9000 ∧ ∀ m ∈ insAll (L.take i), m.flat.length ≤ 9000) := fun i => by
    have ho : Oks (L.take i) := fun m hm => HOL.out m (List.mem_of_mem_take hm)
    have sp := insAll_spec _ rfl ho
    refine ⟨?_, fun m hm => ?_⟩
    · have := sp.2.2.2.1
      rw [List.length_take] at this
      omega
    · have h1 := (sp.2.2.1 m).1 hm
      have := HML.out m (List.mem_of_mem_take h1)
      omega
  clear HSP hk hox hoy hL hR1 hR2 hx hy kx ky l1 l2 hlens
  have HD0 : Hid (TL 0 w w.heap.size (w.alloc (.cells #[] 22)) (.slice (some ⟨w.heap.size, 0, none⟩) 0 0) []) := tl_made 0 w w (Nat.le_refl _)
  have HB0 : Hid (Below w.heap.size w (w.alloc (.cells #[] 22))) := (Below.refl _ _).alloc (Nat.le_refl _) _
  obtain ⟨LX, hLX⟩ : ∃ L, Lst k x = L := ⟨_, rfl⟩
  obtain ⟨LY, hLY⟩ : ∃ L, Lst k y = L := ⟨_, rfl⟩
  have HCX : Hid (∀ w', Below w.heap.size w w' → Calls Tryd.prog 49 #[.int .i64 k, .slice ax x.flat.length cx] w' fun e w'' => ∃ u, e = .returned u ∧ TL 0 w w'.heap.size w'' u LX ∧ Below w'.heap.size w' w'') := fun w' hb => by
    rw [← hLX]; exact HLX.out w w' _ _ hb (NL.zero HX.out) HKX.out.1 HKX.out.2.2.1
  have HCY : Hid (∀ w', Below w.heap.size w w' → Calls Tryd.prog 49 #[.int .i64 k, .slice ay y.flat.length cy] w' fun e w'' => ∃ u, e = .returned u ∧ TL 0 w w'.heap.size w'' u LY ∧ Below w'.heap.size w' w'') := fun w' hb => by
    rw [← hLY]; exact HLY.out w w' _ _ hb (NL.zero HY.out) HKX.out.2.1 HKX.out.2.2.2.1
  rw [hLX, hLY] at HL
  rw [hLX, hLY] at HKX
  clear hLX hLY HLX HLY
  go_enter Tryd.func41, Tryd.ntmps41
  go_wp2_with fail
  refine (HCX.out _ HB0.out).mono ?_
  rintro e w1 ⟨r1, rfl, ht1, hb1⟩
  have HT1 : Hid (TL 0 w w.heap.size w1 r1 LX) := ht1.mono (by simp)
  have HB1 : Hid (Below w.heap.size w w1) := go_on HB0.out hb1
  have HD1 : Hid (TL 0 w w.heap.size w1 (.slice (some ⟨w.heap.size, 0, none⟩) 0 0) []) := HD0.out.below hb1
  clear ht1 hb1 HD0 HB0
  go_wp2_with (at_builtin; refine wpList_append_b rfl _ _ rfl w w.heap.size _ [] rfl HD1.out _ LX rfl HT1.out.rl (by have := HKX.out.2.2.2.2; simp; omega) HB1.out.size ?_)
  intro v2 w2 ht2 hb2
  have ht2 : TL 0 w w.heap.size w2 v2 LX := ht2
  have HB2 : Hid (Below w.heap.size w w2) := HB1.out.trans hb2
  obtain ⟨o2, d2, rfl⟩ := ht2.shape
  have HT2 : Hid (TL 0 w w.heap.size w2 (.slice o2 LX.length d2) LX) := ht2
  clear ht2 hb2 HD1 HT1
  go_wp2_with fail
  refine (HCY.out _ HB2.out).mono ?_
  rintro e w3 ⟨r3, rfl, ht3, hb3⟩
  have HT3 : Hid (TL 0 w w.heap.size w3 r3 LY) := ht3.mono HB2.out.size
  have HB3 : Hid (Below w.heap.size w w3) := go_on HB2.out hb3
  have HT23 : Hid (TL 0 w w.heap.size w3 (.slice o2 LX.length d2) LX) := HT2.out.below hb3
  clear ht3 hb3 HT2 HB2 HCX HCY
  go_wp2_with (at_builtin; refine wpList_append_b rfl _ _ rfl w w.heap.size _ LX rfl HT23.out _ LY rfl HT3.out.rl (by have := HKX.out.2.2.2.2; omega) HB3.out.size ?_)
  intro v4 w4 ht4 hb4
  rw [HL.out] at ht4
  have HB4 : Hid (Below w.heap.size w w4) := HB3.out.trans hb4
  obtain ⟨la, lc, rfl⟩ := ht4.shape
  have HT4 : Hid (TL 0 w w.heap.size w4 (.slice la L.length lc) L) := ht4
  clear ht4 hb4 HT3 HT23 HB3 HL
  have hLI : (L.length : Int) ≤ 8990 := by omega
  go_wp2_with fail
  go_loopw [8, 10] (fun vl vi wr => ∃ i : Nat, i ≤ L.length ∧ vi = .int .i64 i ∧ TL 0 w w4.heap.size wr vl (insAll (L.take i)) ∧ (∀ j, j < i → L.getD j tNone ≠ zeroK k) ∧ Below w4.heap.size w4 wr) (fun _ vi _ => L.length - (intOf vi).toNat)
  case atStart => exact ⟨0, Nat.zero_le _, rfl, tl_nil _ _ _ _, fun j hj => by omega, Below.refl _ _⟩
  case round =>
    obtain ⟨i, hi, rfl, hti, hne, hbr⟩ := hrel
    obtain ⟨ma, mc, rfl⟩ := hti.shape
    have HTI : Hid (TL 0 w w4.heap.size wr (.slice ma (insAll (L.take i)).length mc) (insAll (L.take i))) := hti
    have HNE : Hid (∀ j, j < i → L.getD j tNone ≠ zeroK k) := hne
    have HBR : Hid (Below w4.heap.size w4 wr) := hbr
    have HBW : Hid (Below w.heap.size w wr) := go_on HB4.out hbr
    clear hti hne hbr
    by_cases hlt : i < L.length
    · have hiI : (i : Int) < L.length := by omega
      obtain ⟨g, a', c', rfl, hg, _, hcell, hnr, hcc⟩ := HT4.out.get hlt
      have HOK : Hid ((L.getD i tNone).ok ∧ (L.getD i tNone).flat.length ≤ 8991) := ⟨HOL.out _ (getD_mem hlt), HML.out _ (getD_mem hlt)⟩
      have HNX : Hid (insAll (L.take (i + 1)) = ins (L.getD i tNone) (insAll (L.take i))) := by show _ = _; rw [takeT_next hlt, insAll_snoc]
      have HIM : Hid (L.getD i tNone ∈ L) := getD_mem hlt
      obtain ⟨t, hts⟩ : ∃ t, L.getD i tNone = t := ⟨_, rfl⟩
      rw [hts] at hcell hnr hcc HOK HNX HIM
      have HTS : Hid (L.getD i tNone = t) := hts
      have HNR : Hid (NReads w (.slice a' t.flat.length c') t.flat) := hnr.1
      have HCC : Hid (t.flat.length ≤ c') := hcc
      have HCE : Hid (∀ w', Below w4.heap.size w4 w' → w'.cell? ⟨g, i, none⟩ = some (.slice a' t.flat.length c')) := fun w' hb => by rw [below_cell hb hg]; exact hcell
      have cc := HCE.out wr HBR.out
      clear hts hcell hnr hcc
      obtain ⟨M, hM⟩ : ∃ M, insAll (L.take i) = M := ⟨_, rfl⟩
      rw [hM] at HTI HNX
      have HIL2 : Hid (M.length ≤ 9000 ∧ ∀ m ∈ M, m.flat.length ≤ 9000) := by rw [← hM]; exact HIL.out i
      rw [hM]
      clear hM
      by_cases hz : t = zeroK k
      · have HZ : Hid (decide (t = unitK k2) = true) := by show _ = _; rw [HUZ.out]; simpa using hz
        have HRE : Hid (R = t) := by show _ = _; rw [HR1.out (by rw [← hz]; exact HIM.out), hz]
        obtain ⟨i0, hi0, hz0, hz1, hz2⟩ := info_parts Tryd.info_node
        have hzl := ndC_length t.flat
        have h1c := ndC_one t.flat
        clear hz
        go_wp2_with fail
        refine (idle_any k2 HK2.out t HOK.out.1 true HZ.out _ _ _ (HNR.out.stay HBW.out) (by have := HOK.out.2; omega)).mono ?_
        rintro e w5 ⟨rfl, hb5⟩
        have HB5 : Hid (Below w.heap.size w w5) := go_on HBW.out hb5
        have cc5 := HCE.out w5 (go_on HBR.out hb5)
        clear hb5 cc
        obtain ⟨g2, o2', e2⟩ : ∃ g o, a' = some ⟨g, o, none⟩ := by
          obtain ⟨av, cp, e, hr⟩ := HNR.out
          obtain ⟨g, o, e', _⟩ := hr 0 t.len_pos
          cases e
          exact ⟨g, o, e'⟩
        subst e2
        have HO0 : Hid ((w5.alloc (.cells #[] 52)).ownsRow w5.heap.size 52 2 (.slice (some ⟨w5.heap.size, 0, none⟩) 0 0) 0 []) := World.ownsRow_made w5 #[] 0 (Nat.le_refl _) (by unfold maxLen; omega) rfl
        have HB6 : Hid (Below w.heap.size w (w5.alloc (.cells #[] 52))) := HB5.out.alloc HB5.out.size _
        have HN6 : Hid (∀ j u, (ndC t.flat)[j]? = some u → (w5.alloc (.cells #[] 52)).cell? ((⟨g2, o2', none⟩ : Addr).add j) = some u) := nreads_cells (HNR.out.stay HB6.out)
        have htl : t.flat.length ≤ 8991 := HOK.out.2
        have cc6 : (w5.alloc (.cells #[] 52)).cell? ⟨g, i, none⟩ = some (.slice (some ⟨g2, o2', none⟩) t.flat.length c') := by
          rw [World.cell?_alloc_some _ _ _ (by rw [cc5]; rfl)]; exact cc5
        go_wp2_with (at_builtin; refine wpList_append_own _ rfl _ _ 22 rfl w5.heap.size 52 i0 (.agg #[.int .i64 0, .int .u8 0]) 2 16 Tryd.underlying22 hi0 hz0 hz1 hz2 rfl (by decide) _ _ _ rfl HO0.out ⟨g2, o2', none⟩ t.flat.length c' (ndC t.flat) rfl hzl HN6.out h1c (by unfold maxLen; omega) (by omega) (by simp) ?_)
        intro v7 w7 ho7 hg7 _
        have HB7 : Hid (Below w.heap.size w w7) := HB6.out.grown hg7 HB6.out.size (fun k hk => Nat.le_trans HB5.out.size (HO0.out.lt k hk).1)
        have HO7 : Hid (w7.ownsRow w.heap.size 52 2 v7 t.flat.length (ndC t.flat)) := own_mono ho7 HB5.out.size
        clear ho7 hg7 cc5 cc6
        go_wp2_with fail
        go_ret
        exact ⟨_, rfl, by rw [HRE.out]; exact HO7.out, HB7.out⟩
      · have HZ : Hid (decide (t = unitK k2) = false) := by show _ = _; rw [HUZ.out]; simpa using hz
        have HZN : Hid (t ≠ zeroK k) := hz
        clear hz
        go_wp2_with fail
        refine (idle_any k2 HK2.out t HOK.out.1 false HZ.out _ _ _ (HNR.out.stay HBW.out) (by have := HOK.out.2; omega)).mono ?_
        rintro e w5 ⟨rfl, hb5⟩
        have HB5 : Hid (Below w4.heap.size w4 w5) := go_on HBR.out hb5
        have HBW5 : Hid (Below w.heap.size w w5) := go_on HBW.out hb5
        have HT5 : Hid (TL 0 w w4.heap.size w5 (.slice ma M.length mc) M) := HTI.out.below hb5
        have cc5 := HCE.out w5 HB5.out
        clear hb5 cc
        go_wp2_with fail
        refine (putT_any w w5 w4.heap.size M t _ _ _ HBW5.out HB4.out.size HB5.out.size HT5.out (NL.zero HNR.out) HCC.out HIL2.out.2 HIL2.out.1 (by have := HOK.out.2; omega)).mono ?_
        rintro e w6 ⟨u6, rfl, ht6, hb6⟩
        have HT6 : Hid (TL 0 w w4.heap.size w6 u6 (insAll (L.take (i + 1)))) := by show TL _ _ _ _ _ _; rw [HNX.out]; exact ht6
        have HB6 : Hid (Below w4.heap.size w4 w6) := go_on HB5.out hb6
        clear ht6 hb6 cc5
        go_wp2_with fail
        go_roundw
        case rel => exact ⟨i + 1, by omega, by go_num, HT6.out, fun j hj => by
          by_cases e : j < i
          · exact HNE.out j e
          · obtain rfl : j = i := by omega
            rw [HTS.out]; exact HZN.out, HB6.out⟩
        case measure => simp [intOf]; omega
    · obtain rfl : i = L.length := by omega
      have hiI : ¬ (L.length : Int) < L.length := by omega
      rw [List.take_length] at HTI ⊢
      have HNZ : Hid (zeroK k ∉ L) := fun hm => by
        obtain ⟨j, hj, e⟩ := List.mem_iff_getElem.1 hm
        refine HNE.out j hj ?_
        rw [List.getD_eq_getElem?_getD, List.getElem?_eq_getElem hj]
        exact e
      have HRE : Hid (R = if insAll L = [] then unitK k else build k (insAll L)) := HR2.out HNZ.out
      obtain ⟨M, hM⟩ : ∃ M, insAll L = M := ⟨_, rfl⟩
      rw [hM] at HTI HRE HMO HMN ⊢
      have hMn : M.length ≤ 9000 := by have := (HIL.out L.length).1; rw [List.take_length, hM] at this; exact this
      clear hM HNZ HNE HIL
      by_cases hm0 : M = []
      · subst hm0
        have HRE2 : Hid (R = unitK k) := by show _ = _; rw [HRE.out, if_pos rfl]
        rcases hk1 with rfl | rfl
        · go_wp2_with fail
          refine (rnone_any _).mono ?_
          rintro e w5 ⟨u, rfl, ho, hb⟩
          have HO : Hid (w5.ownsRow w.heap.size 52 2 u tNone.flat.length (ndC tNone.flat)) := own_mono ho HBW.out.size
          have HB : Hid (Below w.heap.size w w5) := go_on HBW.out hb
          clear ho hb
          go_wp2_with fail
          go_ret
          exact ⟨_, rfl, by rw [HRE2.out]; exact HO.out, HB.out⟩
        · go_wp2_with fail
          refine (rall_any _).mono ?_
          rintro e w5 ⟨u, rfl, ho, hb⟩
          have HO : Hid (w5.ownsRow w.heap.size 52 2 u tAll.flat.length (ndC tAll.flat)) := own_mono ho HBW.out.size
          have HB : Hid (Below w.heap.size w w5) := go_on HBW.out hb
          clear ho hb
          go_wp2_with fail
          go_ret
          exact ⟨_, rfl, by rw [HRE2.out]; exact HO.out, HB.out⟩
      · have HRE2 : Hid (R = build k M) := by show _ = _; rw [HRE.out, if_neg hm0]
        have hm1 : 0 < M.length := List.length_pos_iff.2 hm0
        have hmI : ((M.length : Int) == 0) = false := by rw [beq_eq_false_iff_ne]; omega
        have hmI2 : (0 : Int) < M.length := by omega
        obtain ⟨mg, a0, c0, rfl, hmg, _, hcell, hnr, hcc⟩ := HTI.out.get hm1
        have HN0 : Hid (M ≠ []) := hm0
        obtain ⟨m0, hm0e⟩ : ∃ m, M.getD 0 tNone = m := ⟨_, rfl⟩
        have HM0 : Hid (build k (M.take 1) = m0) := by
          show _ = _
          rw [← hm0e]
          cases M with
          | nil => exact absurd rfl hm0
          | cons m l => simp [build]
        have HM0L : Hid (m0.flat.length + 1 ≤ 8992) := by
          show _ ≤ _
          rw [← hm0e]
          have := mem_len (getD_mem hm1)
          have := HMN.out
          omega
        rw [hm0e] at hcell hnr hcc
        obtain ⟨g0, o0, e0⟩ : ∃ g o, a0 = some ⟨g, o, none⟩ := by
          obtain ⟨av, cp, e, hr⟩ := hnr.1
          obtain ⟨g, o, e', _⟩ := hr 0 m0.len_pos
          cases e
          exact ⟨g, o, e'⟩
        subst e0
        have HNR0 : Hid (NReads w (.slice (some ⟨g0, o0, none⟩) m0.flat.length c0) m0.flat) := hnr.1
        have HO0 : Hid ((wr.alloc (.cells #[] 52)).ownsRow wr.heap.size 52 2 (.slice (some ⟨wr.heap.size, 0, none⟩) 0 0) 0 []) := World.ownsRow_made wr #[] 0 (Nat.le_refl _) (by unfold maxLen; omega) rfl
        have HB6 : Hid (Below w.heap.size w (wr.alloc (.cells #[] 52))) := HBW.out.alloc HBW.out.size _
        have HN6 : Hid (∀ j u, (ndC m0.flat)[j]? = some u → (wr.alloc (.cells #[] 52)).cell? ((⟨g0, o0, none⟩ : Addr).add j) = some u) := nreads_cells (HNR0.out.stay HB6.out)
        have cc6 : (wr.alloc (.cells #[] 52)).cell? ⟨mg, 0, none⟩ = some (.slice (some ⟨g0, o0, none⟩) m0.flat.length c0) := by
          rw [World.cell?_alloc_some _ _ _ (by rw [hcell]; rfl)]; exact hcell
        obtain ⟨i0, hi0, hz0, hz1, hz2⟩ := info_parts Tryd.info_node
        have hzl := ndC_length m0.flat
        have h1c := ndC_one m0.flat
        have htl : m0.flat.length ≤ 8991 := by have := HM0L.out; omega
        clear hm0e hnr hcc hm0
        go_wp2_with (at_builtin; refine wpList_append_own _ rfl _ _ 22 rfl wr.heap.size 52 i0 (.agg #[.int .i64 0, .int .u8 0]) 2 16 Tryd.underlying22 hi0 hz0 hz1 hz2 rfl (by decide) _ _ _ rfl HO0.out ⟨g0, o0, none⟩ m0.flat.length c0 (ndC m0.flat) rfl hzl HN6.out h1c (by unfold maxLen; omega) (by omega) (by simp) ?_)
        intro v7 w7 ho7 hg7 _
        have hb7 : Below wr.heap.size wr w7 := ((Below.refl wr.heap.size wr).alloc (Nat.le_refl _) _).grown hg7 (by simp) (fun k hk => (HO0.out.lt k hk).1)
        have HB7 : Hid (Below w.heap.size w w7) := go_on HBW.out hb7
        have HO7 : Hid (w7.ownsRow w.heap.size 52 2 v7 m0.flat.length (ndC m0.flat)) := own_mono ho7 HBW.out.size
        have HT7 : Hid (TL 0 w w4.heap.size w7 (.slice (some ⟨mg, 0, none⟩) M.length mc) M) := HTI.out.below hb7
        clear ho7 hg7 hb7 cc6 hcell HO0 HB6 HN6 hzl h1c
        go_wp2_with fail
        go_loopw [11, 12] (fun vo vi wq => ∃ i : Nat, 1 ≤ i ∧ i ≤ M.length ∧ vi = .int .i64 i ∧ wq.ownsRow w.heap.size 52 2 vo (build k (M.take i)).flat.length (ndC (build k (M.take i)).flat) ∧ Below w7.heap.size w7 wq) (fun _ vi _ => M.length - (intOf vi).toNat)
        case atStart => exact ⟨1, Nat.le_refl _, hm1, rfl, by rw [HM0.out]; exact HO7.out, Below.refl _ _⟩
        case round =>
          clear HM0 HO7
          obtain ⟨i, hi1, hi, rfl, ho, hbq⟩ := hrel
          have HBQ : Hid (Below w7.heap.size w7 wr) := hbq
          have HBWQ : Hid (Below w.heap.size w wr) := go_on HB7.out hbq
          by_cases hlt : i < M.length
          · have hiI : (i : Int) < M.length := by omega
            have HLT : Hid (1 ≤ i ∧ i < M.length) := ⟨hi1, hlt⟩
            obtain ⟨b, hbd⟩ : ∃ b, build k (M.take i) = b := ⟨_, rfl⟩
            obtain ⟨mg', ai, ci, e1, hmg', _, hcell, hnr, hcc⟩ := HT7.out.get hlt
            cases e1
            obtain ⟨m, hme⟩ : ∃ m, M.getD i tNone = m := ⟨_, rfl⟩
            have HNX : Hid (build k (M.take (i + 1)) = .two (k, 0) b m) := by
              show _ = _
              rw [takeT_next hlt, build_snoc _ (by intro e; have := congrArg List.length e; rw [List.length_take, List.length_nil] at this; omega), hbd, hme]
            have hlen : b.flat.length + m.flat.length + 1 ≤ 8992 := by
              have h1 := len_build (k := k) (l := M.take (i + 1)) (by intro e; have := congrArg List.length e; rw [List.length_take, List.length_nil] at this; omega)
              have h2 := lens_take M (i + 1)
              have h3 := HMN.out
              rw [HNX.out] at h1
              simp [Tr.flat] at h1
              omega
            rw [hbd] at ho
            rw [hme] at hcell hnr hcc
            obtain ⟨va, vc, rfl⟩ := own_shape ho
            have HO : Hid (wr.ownsRow w.heap.size 52 2 (.slice va b.flat.length vc) b.flat.length (ndC b.flat)) := ho
            have HNB : Hid (NReads wr (.slice va b.flat.length vc) b.flat) := own_nreads ho
            have HNM : Hid (NReads wr (.slice ai m.flat.length ci) m.flat) := hnr.1.stay HBWQ.out
            have hmq : mg < wr.heap.size := by have := HBQ.out.size; omega
            have cq : wr.cell? ⟨mg, i, none⟩ = some (.slice ai m.flat.length ci) := by rw [below_cell HBQ.out hmg']; exact hcell
            have S0 : SC wr mg i (.slice ai m.flat.length ci) wr.drew := ⟨cq, (Below.refl _ _).drew⟩
            have HPB : Hid (1 ≤ b.flat.length ∧ 1 ≤ m.flat.length) := ⟨b.len_pos, m.len_pos⟩
            have HLN : Hid (tot [b.flat, m.flat] + 1 ≤ 9000) := by show _ ≤ _; rw [tot_two]; omega
            clear ho hbq hbd hcell hnr hcc hme hlen
            go_wp2_with fail
            go_region_held3 (fun w' => SC wr mg i (.slice ai m.flat.length ci) w') (first | exact S0 | assumption | exact sc_step hmq (by assumption) (by assumption) | exact sc_alloc hmq _ S0 | exact sc_alloc hmq _ (by assumption)) (first
              | (go_at_call 61; refine (rnode_any k _).mono ?_; rintro e y1 ⟨rfl, hbn⟩)
              | (go_at_call 60; refine (made_any k 0 _ [b.flat, m.flat] _ (by first | exact nr_lit2 (HNB.out.stay (go_on (Below.refl wr.heap.size wr).drew hbn)) (HNM.out.stay (go_on (Below.refl wr.heap.size wr).drew hbn)) | exact (nr_lit2 (w := wr) HNB.out HNM.out).stay (go_on (Below.refl _ _).drew hbn)) (two_pos HPB.out.1 HPB.out.2) HLN.out (by simp)).mono ?_; rintro e y2 ⟨um, rfl, hom, hbm⟩))
            all_goals (
              have hS : SC wr mg i (.slice ai m.flat.length ci) y2 := by first | assumption | exact sc_step hmq (by assumption) (by assumption)
              have HOM : Hid (y2.ownsRow w.heap.size 52 2 um (build k (M.take (i + 1))).flat.length (ndC (build k (M.take (i + 1))).flat)) := by
                show World.ownsRow _ _ _ _ _ _ _
                rw [HNX.out]
                have h := own_mono hom (show w.heap.size ≤ _ by
                  have h1 := HBWQ.out.size
                  have h2 := hbn.size
                  have h3 : wr.drew.heap.size = wr.heap.size := rfl
                  have h4 : (wr.alloc (.cells #[.slice va b.flat.length vc, .slice ai m.flat.length ci] 22)).drew.heap.size = (wr.alloc (.cells #[.slice va b.flat.length vc, .slice ai m.flat.length ci] 22)).heap.size := rfl
                  simp only [World.size_alloc] at *
                  omega)
                simpa [Tr.flat] using h
              have HBY : Hid (Below w7.heap.size w7 y2) := go_on HBQ.out hS.2
              clear hS S0 cq hom hbm hbn
              go_wp2_with fail
              go_roundw
              case rel => exact ⟨i + 1, by have := HLT.out; omega, by have := HLT.out; omega, by go_num, HOM.out, HBY.out⟩
              case measure => have := HLT.out; simp [intOf]; omega)
          · obtain rfl : i = M.length := by omega
            have hiI : ¬ (M.length : Int) < M.length := by omega
            rw [List.take_length] at ho
            have HOR : Hid (wr.ownsRow w.heap.size 52 2 u11 R.flat.length (ndC R.flat)) := by show World.ownsRow _ _ _ _ _ _ _; rw [HRE2.out]; exact ho
            clear ho hbq
            go_wp2_with fail
            go_ret
            exact ⟨_, rfl, HOR.out, HBWQ.out⟩

theorem several_any (k : Int) (hk : k = 5 ∨ k = 6) (x y : Tr) (hox : x.ok) (hx : NF x) (hoy : y.ok) (hy : NF y) (ax ay : Option Addr) (cx cy : Nat) (w : World) (hvx : NReads w (.slice ax x.flat.length cx) x.flat) (hvy : NReads w (.slice ay y.flat.length cy) y.flat) (kx : x.flat.length ≤ cx) (ky : y.flat.length ≤ cy) (hl : x.flat.length + y.flat.length ≤ 8990) :
    Calls Tryd.prog 41 #[.int .i64 k, .slice ax x.flat.length cx, .slice ay y.flat.length cy] w (Own w (R2 k x y)) := by
  have hz : zeroK k ∈ Lst k x ++ Lst k y ↔ x = zeroK k ∨ y = zeroK k := by rw [List.mem_append, lst_zero hk hox hx, lst_zero hk hoy hy]
  refine several_L k (11 - k) (by omega) x y hox hoy _ rfl _ (fun h => R2_zero (hz.1 h)) (fun h => ?_) ax ay cx cy w hvx hvy kx ky hl
  have h1 : x ≠ zeroK k := fun e => h (hz.2 (.inl e))
  have h2 : y ≠ zeroK k := fun e => h (hz.2 (.inr e))
  exact (sev_eq hk hox hx hoy hy h1 h2).symm
end Go.Proofs.YtdmjcfecahcdnaaDoor

namespace Go.Proofs.YtdmjcfecahcdnaaDoor
open Go Go.RowKit
set_option linter.unusedVariables false

def Fc (T : Tr) : Prop := ∀ (a : Option Addr) (c : Nat) (w : World), NReads w (.slice a T.flat.length c) T.flat → T.flat.length ≤ c → T.flat.length ≤ 4000 →
    Calls Tryd.prog 35 #[.slice a T.flat.length c] w (Own w (nrm T))
abbrev SQ (W : World) (rb : Nat) (k : Int) (lg lo : Nat) (u0 u1 : Value) (w' : World) : Prop := w'.cell? ⟨rb, 0, none⟩ = some (.int .i64 k) ∧ w'.cell? ⟨lg, lo, none⟩ = some u0 ∧ w'.cell? ⟨lg, lo + 1, none⟩ = some u1 ∧ Below W.heap.size W w'
theorem sq_step {W : World} {rb : Nat} {k : Int} {lg lo : Nat} {u0 u1 : Value} {w1 w2 : World} (h0 : rb < W.heap.size) (h1 : lg < W.heap.size) (hb : Below w1.heap.size w1 w2) (h : SQ W rb k lg lo u0 u1 w1) : SQ W rb k lg lo u0 u1 w2 := by
  have hs := h.2.2.2.size
  refine ⟨?_, ?_, ?_, go_on h.2.2.2 hb⟩
  · rw [below_cell hb (by omega)]; exact h.1
  · rw [below_cell hb (by omega)]; exact h.2.1
  · rw [below_cell hb (by omega)]; exact h.2.2.1
theorem sq_below {W : World} {rb : Nat} {k : Int} {lg lo : Nat} {u0 u1 : Value} {w' : World} (h : SQ W rb k lg lo u0 u1 w') : Below W.heap.size W w' := h.2.2.2

set_option maxHeartbeats 4000000 in
set_option maxRecDepth 100000 in
theorem form_zero (n : Nd) (hT : (Tr.zero n).ok) : Fc (.zero n) := by
  intro a c w hv hc hl
  unfold Own
  obtain ⟨k, s⟩ := n
  have HE : Hid (nrm (Tr.zero (k, s)) = .zero (k, s)) := rfl
  rw [HE.out]
  have HT : Hid ((Tr.zero (k, s)).ok) := hT
  have h5 : (k == 5) = false := by rw [beq_eq_false_iff_ne]; rintro rfl; have := hT.2; simp [arity] at this
  have h6 : (k == 6) = false := by rw [beq_eq_false_iff_ne]; rintro rfl; have := hT.2; simp [arity] at this
  have h7 : (k == 7) = false := by rw [beq_eq_false_iff_ne]; rintro rfl; have := hT.2; simp [arity] at this
  have h8 : (k == 8) = false := by rw [beq_eq_false_iff_ne]; rintro rfl; have := hT.2; simp [arity] at this
  have h9 : (k == 9) = false := by rw [beq_eq_false_iff_ne]; rintro rfl; have := hT.2; simp [arity] at this
  show Calls Tryd.prog 35 #[.slice a 1 c] w _
  have HV : Hid (NReads w (.slice a 1 c) (Tr.zero (k, s)).flat) := hv
  have HK : Hid (Cap (.slice a 1 c)) := fun a' n' c' e => by cases e; exact hc
  obtain ⟨av, cv, e, hrd⟩ := hv
  obtain ⟨g, o, rfl, hg, c1, c2⟩ := hrd 0 (by simp [Tr.flat])
  cases e
  simp only [Tr.flat, List.getD_cons_zero, Nat.zero_mul, Nat.add_zero] at c1 c2
  obtain ⟨i0, hi0, hz0, hz1, hz2⟩ := info_parts Tryd.info_node
  have HBA : Hid (Below w.heap.size w (w.alloc (.cells #[.int .i64 k, .int .u8 s] 52))) := (Below.refl _ _).alloc (Nat.le_refl _) _
  have HNA : Hid (NB (w.alloc (.cells #[.int .i64 k, .int .u8 s] 52)) w.heap.size k s) := NB.new w k s
  have hzl := ndC_length (Tr.zero (k, s)).flat
  have h1c := ndC_one (Tr.zero (k, s)).flat
  clear hrd hT hc hl
  go_enter Tryd.func35, Tryd.ntmps35
  go_wp2_with fail
  generalize w.alloc (.cells #[.int .i64 k, .int .u8 s] 52) = wA at HBA HNA ⊢
  refine (cutW_any 0 wA _ (Tr.zero (k, s)).flat _ (Below.refl _ _) (NL.zero (HV.out.stay HBA.out)) (by simp [Tr.flat]) (Tr.ok_free _ HT.out) HK.out).mono ?_
  rintro e w1 ⟨u, rfl, hp1, hb1⟩
  rw [cut_flat_zero HT.out] at hp1
  obtain ⟨ua, uc, rfl, _⟩ := hp1
  have HB1 : Hid (Below w.heap.size w w1) := go_on HBA.out hb1
  have d0 := (HNA.out.keep hb1).fst
  have HO0 : Hid ((w1.alloc (.cells #[] 52)).ownsRow w1.heap.size 52 2 (.slice (some ⟨w1.heap.size, 0, none⟩) 0 0) 0 []) := World.ownsRow_made w1 #[] 0 (Nat.le_refl _) (by unfold maxLen; omega) rfl
  have HB6 : Hid (Below w.heap.size w (w1.alloc (.cells #[] 52))) := HB1.out.alloc HB1.out.size _
  have HN6 : Hid (∀ j u, (ndC (Tr.zero (k, s)).flat)[j]? = some u → (w1.alloc (.cells #[] 52)).cell? ((⟨g, o, none⟩ : Addr).add j) = some u) := nreads_cells (HV.out.stay HB6.out)
  clear hb1 c1 c2
  go_wp2_with (at_builtin; refine wpList_append_own _ rfl _ _ 22 rfl w1.heap.size 52 i0 (.agg #[.int .i64 0, .int .u8 0]) 2 16 Tryd.underlying22 hi0 hz0 hz1 hz2 rfl (by decide) _ _ _ rfl HO0.out ⟨g, o, none⟩ 1 c (ndC (Tr.zero (k, s)).flat) rfl hzl HN6.out h1c (by unfold maxLen; omega) (by omega) (by simp) ?_)
  intro v7 w7 ho7 hg7 _
  have HB7 : Hid (Below w.heap.size w w7) := HB6.out.grown hg7 HB6.out.size (fun k hk => Nat.le_trans HB1.out.size (HO0.out.lt k hk).1)
  have HO7 : Hid (w7.ownsRow w.heap.size 52 2 v7 1 (ndC (Tr.zero (k, s)).flat)) := own_mono ho7 HB1.out.size
  clear ho7 hg7 d0
  go_wp2_with fail
  go_ret
  exact ⟨_, rfl, HO7.out, HB7.out⟩

set_option maxHeartbeats 4000000 in
set_option maxRecDepth 100000 in
theorem form_one (n : Nd) (A : Tr) (hT : (Tr.one n A).ok) (iA : Fc A) : Fc (.one n A) := by
  intro a c w hv hc hl
  unfold Own
  have hen := good_one hT.1 hT.2.1
  have hok := nrm_ok hT.2.2
  have hln := nrm_len hT.2.2
  have hlen : (Tr.one n A).flat.length = A.flat.length + 1 := by simp [Tr.flat]
  have HT : Hid ((Tr.one n A).ok) := hT
  have HV : Hid (NReads w (.slice a (Tr.one n A).flat.length c) (Tr.one n A).flat) := hv
  have HK : Hid (Cap (.slice a (Tr.one n A).flat.length c)) := fun a' n' c' e => by cases e; exact hc
  obtain ⟨av, cv, e, hrd⟩ := hv
  obtain ⟨g, o, rfl, hg, c1, c2⟩ := hrd ((Tr.one n A).flat.length - 1) (by omega)
  cases e
  rw [flat_last] at c1 c2
  obtain ⟨m, hm⟩ : ∃ m, (Tr.one n A).flat.length - 1 = m := ⟨_, rfl⟩
  rw [hm] at c1 c2
  obtain ⟨N, hN⟩ : ∃ N, (Tr.one n A).flat.length = N := ⟨_, rfl⟩
  have hmI : (N : Int) - 1 = m := by omega
  have hmN : (m : Int) < N := by omega
  have HN4 : Hid ((Tr.one n A).flat.length ≤ 9000) := by show _ ≤ _; omega
  have hA4 : A.flat.length ≤ 4000 := by omega
  have hN4 : N ≤ 4000 := by omega
  rw [hN] at HV HK ⊢
  have hk89 := ar1 hT.2.1
  obtain ⟨k, s⟩ := n
  have hs0 : s = 0 := by have := congrArg Prod.snd hen; exact this
  subst hs0
  have hc0 : (Tr.one (k, 0) A).root = (k, 0) := rfl
  rw [hc0] at c1 c2
  simp only at c1 c2 hk89
  have HIA : Hid (∀ a c w, NReads w (.slice a A.flat.length c) A.flat → A.flat.length ≤ c → Calls Tryd.prog 35 #[.slice a A.flat.length c] w (Own w (nrm A))) := fun a c w h1 h2 => iA a c w h1 h2 hA4
  have HBA : Hid (Below w.heap.size w (w.alloc (.cells #[.int .i64 k, .int .u8 0] 52))) := (Below.refl _ _).alloc (Nat.le_refl _) _
  have HNA : Hid (NB (w.alloc (.cells #[.int .i64 k, .int .u8 0] 52)) w.heap.size k 0) := NB.new w k 0
  obtain ⟨R, hR⟩ : ∃ R, nrm A = R := ⟨_, rfl⟩
  rw [hR] at HIA hok hln
  have HRO : Hid R.ok := hok.1
  have hRl : R.flat.length ≤ 4000 := by omega
  have HX : Hid (nrm (.one (k, 0) A) = if k = 8 then RS R else RN R) := by show _ = _; rw [nrm, hR]
  clear hrd hT hc hl iA hen hok hln hlen hm hN hc0 hR
  rcases hk89 with rfl | rfl
  · have HX2 : Hid (nrm (.one (8, 0) A) = RS R) := by show _ = _; rw [HX.out, if_pos rfl]
    rw [HX2.out]
    go_enter Tryd.func35, Tryd.ntmps35
    go_wp2_with fail
    generalize w.alloc (.cells #[.int .i64 8, .int .u8 0] 52) = wA at HBA HNA ⊢
    refine (cutW_any 0 wA _ (Tr.one (8, 0) A).flat _ (Below.refl _ _) (NL.zero (HV.out.stay HBA.out)) HN4.out (Tr.ok_free _ HT.out) HK.out).mono ?_
    rintro e w1 ⟨u, rfl, hp1, hb1⟩
    rw [cut_flat_one HT.out] at hp1
    obtain ⟨ua, uc, rfl, hpi⟩ := hp1
    obtain ⟨lg, lo, a0, c0, rfl, hlg, hl0, hu0, hk0⟩ := hpi 0 (by simp)
    rw [Nat.add_zero] at hl0
    simp only [List.getD_cons_zero] at hl0 hu0 hk0
    have HU0 : Hid (NReads w1 (.slice a0 A.flat.length c0) A.flat) := hu0.1.stay hb1
    have HK0 : Hid (A.flat.length ≤ c0) := hk0
    have HB1 : Hid (Below w.heap.size w w1) := go_on HBA.out hb1
    have d0 := (HNA.out.keep hb1).fst
    clear hb1 c1 c2 hpi hu0 hk0
    go_wp2_with fail
    refine (HIA.out _ _ _ HU0.out HK0.out).mono ?_
    rintro e w2 ⟨r, rfl, ho2, hb2⟩
    have HR2 : Hid (NReads w2 r R.flat) := own_nreads ho2
    have HB2 : Hid (Below w.heap.size w w2) := go_on HB1.out hb2
    clear ho2 hb2 d0 hl0
    go_wp2_with fail
    refine (again_any R HRO.out r _ HR2.out (by omega)).mono ?_
    rintro e w3 ⟨z, rfl, ho3, hb3⟩
    have HO3 : Hid (w3.ownsRow w.heap.size 52 2 z (RS R).flat.length (ndC (RS R).flat)) := own_mono ho3 HB2.out.size
    have HB3 : Hid (Below w.heap.size w w3) := go_on HB2.out hb3
    clear ho3 hb3
    go_wp2_with fail
    go_ret
    exact ⟨_, rfl, HO3.out, HB3.out⟩
  · have HX2 : Hid (nrm (.one (9, 0) A) = RN R) := by show _ = _; rw [HX.out, if_neg (by decide)]
    rw [HX2.out]
    go_enter Tryd.func35, Tryd.ntmps35
    go_wp2_with fail
    generalize w.alloc (.cells #[.int .i64 9, .int .u8 0] 52) = wA at HBA HNA ⊢
    refine (cutW_any 0 wA _ (Tr.one (9, 0) A).flat _ (Below.refl _ _) (NL.zero (HV.out.stay HBA.out)) HN4.out (Tr.ok_free _ HT.out) HK.out).mono ?_
    rintro e w1 ⟨u, rfl, hp1, hb1⟩
    rw [cut_flat_one HT.out] at hp1
    obtain ⟨ua, uc, rfl, hpi⟩ := hp1
    obtain ⟨lg, lo, a0, c0, rfl, hlg, hl0, hu0, hk0⟩ := hpi 0 (by simp)
    rw [Nat.add_zero] at hl0
    simp only [List.getD_cons_zero] at hl0 hu0 hk0
    have HU0 : Hid (NReads w1 (.slice a0 A.flat.length c0) A.flat) := hu0.1.stay hb1
    have HK0 : Hid (A.flat.length ≤ c0) := hk0
    have HB1 : Hid (Below w.heap.size w w1) := go_on HBA.out hb1
    have d0 := (HNA.out.keep hb1).fst
    clear hb1 c1 c2 hpi hu0 hk0
    go_wp2_with fail
    refine (HIA.out _ _ _ HU0.out HK0.out).mono ?_
    rintro e w2 ⟨r, rfl, ho2, hb2⟩
    have HR2 : Hid (NReads w2 r R.flat) := own_nreads ho2
    have HKR : Hid (Cap r) := own_cap ho2
    have HB2 : Hid (Below w.heap.size w w2) := go_on HB1.out hb2
    clear ho2 hb2 d0 hl0
    go_wp2_with fail
    refine (other_any R HRO.out r _ HR2.out (by omega) HKR.out).mono ?_
    rintro e w3 ⟨z, rfl, ho3, hb3⟩
    have HO3 : Hid (w3.ownsRow w.heap.size 52 2 z (RN R).flat.length (ndC (RN R).flat)) := own_mono ho3 HB2.out.size
    have HB3 : Hid (Below w.heap.size w w3) := go_on HB2.out hb3
    clear ho3 hb3
    go_wp2_with fail
    go_ret
    exact ⟨_, rfl, HO3.out, HB3.out⟩
end Go.Proofs.YtdmjcfecahcdnaaDoor

namespace Go.Proofs.YtdmjcfecahcdnaaDoor
open Go Go.RowKit
set_option linter.unusedVariables false


set_option maxHeartbeats 16000000 in
set_option maxRecDepth 100000 in
theorem form_two5 (A B : Tr) (hT : (Tr.two (5, 0) A B).ok) (iA : Fc A) (iB : Fc B) : Fc (.two (5, 0) A B) := by
  intro a c w hv hc hl
  unfold Own
  have hokA := nrm_ok hT.2.2.1
  have hokB := nrm_ok hT.2.2.2
  have hlnA := nrm_len hT.2.2.1
  have hlnB := nrm_len hT.2.2.2
  have hlen : (Tr.two (5, 0) A B).flat.length = A.flat.length + B.flat.length + 1 := by simp [Tr.flat]; omega
  have HT : Hid ((Tr.two (5, 0) A B).ok) := hT
  have HV : Hid (NReads w (.slice a (Tr.two (5, 0) A B).flat.length c) (Tr.two (5, 0) A B).flat) := hv
  have HK : Hid (Cap (.slice a (Tr.two (5, 0) A B).flat.length c)) := fun a' n' c' e => by cases e; exact hc
  obtain ⟨av, cv, e, hrd⟩ := hv
  obtain ⟨g, o, rfl, hg, c1, c2⟩ := hrd ((Tr.two (5, 0) A B).flat.length - 1) (by omega)
  cases e
  rw [flat_last] at c1 c2
  obtain ⟨m, hm⟩ : ∃ m, (Tr.two (5, 0) A B).flat.length - 1 = m := ⟨_, rfl⟩
  rw [hm] at c1 c2
  obtain ⟨N, hN⟩ : ∃ N, (Tr.two (5, 0) A B).flat.length = N := ⟨_, rfl⟩
  have hmI : (N : Int) - 1 = m := by omega
  have hmN : (m : Int) < N := by omega
  have HN4 : Hid ((Tr.two (5, 0) A B).flat.length ≤ 9000) := by show _ ≤ _; omega
  have hA4 : A.flat.length ≤ 4000 := by omega
  have hB4 : B.flat.length ≤ 4000 := by omega
  have hN4 : N ≤ 4000 := by omega
  rw [hN] at HV HK ⊢
  have hc0 : (Tr.two (5, 0) A B).root = (5, 0) := rfl
  rw [hc0] at c1 c2
  simp only at c1 c2
  have HBA : Hid (Below w.heap.size w (w.alloc (.cells #[.int .i64 5, .int .u8 0] 52))) := (Below.refl _ _).alloc (Nat.le_refl _) _
  have HNA : Hid (NB (w.alloc (.cells #[.int .i64 5, .int .u8 0] 52)) w.heap.size 5 0) := NB.new w 5 0
  have hXe : nrm (.two (5, 0) A B) = R2 5 (nrm A) (nrm B) := by
    rw [nrm]
    rw [if_neg (by decide)]
  obtain ⟨RA, hRA⟩ : ∃ R, nrm A = R := ⟨_, rfl⟩
  obtain ⟨RB, hRB⟩ : ∃ R, nrm B = R := ⟨_, rfl⟩
  rw [hRA, hRB] at hXe
  rw [hRA] at hokA hlnA
  rw [hRB] at hokB hlnB
  have HIA : Hid (∀ a c w, NReads w (.slice a A.flat.length c) A.flat → A.flat.length ≤ c → Calls Tryd.prog 35 #[.slice a A.flat.length c] w (Own w RA)) := fun a c w h1 h2 => by rw [← hRA]; exact iA a c w h1 h2 hA4
  have HIB : Hid (∀ a c w, NReads w (.slice a B.flat.length c) B.flat → B.flat.length ≤ c → Calls Tryd.prog 35 #[.slice a B.flat.length c] w (Own w RB)) := fun a c w h1 h2 => by rw [← hRB]; exact iB a c w h1 h2 hB4
  obtain ⟨X, hX⟩ : ∃ X, R2 5 RA RB = X := ⟨_, rfl⟩
  have HCS : Hid (∀ (ra : Option Addr) (ca : Nat) (rb : Option Addr) (cb : Nat) (w : World), NReads w (.slice ra RA.flat.length ca) RA.flat → NReads w (.slice rb RB.flat.length cb) RB.flat → RA.flat.length ≤ ca → RB.flat.length ≤ cb → Calls Tryd.prog 41 #[.int .i64 5, .slice ra RA.flat.length ca, .slice rb RB.flat.length cb] w (Own w X)) := fun ra ca rb cb w h1 h2 h3 h4 => by rw [← hX]; exact several_any 5 (by decide) RA RB hokA.1 hokA.2 hokB.1 hokB.2 ra rb ca cb w h1 h2 h3 h4 (by omega)
  rw [hXe, hX]
  clear hrd hT hc hl iA iB hokA hokB hlnA hlnB hlen hm hN hc0 hRA hRB hXe hX
  go_enter Tryd.func35, Tryd.ntmps35
  go_wp2_with fail
  generalize w.alloc (.cells #[.int .i64 5, .int .u8 0] 52) = wA at HBA HNA ⊢
  refine (cutW_any 0 wA _ (Tr.two (5, 0) A B).flat _ (Below.refl _ _) (NL.zero (HV.out.stay HBA.out)) HN4.out (Tr.ok_free _ HT.out) HK.out).mono ?_
  rintro e w1 ⟨u, rfl, hp1, hb1⟩
  rw [cut_flat_two HT.out] at hp1
  obtain ⟨ua, uc, rfl, hpi⟩ := hp1
  obtain ⟨lg, lo, a0, c0, rfl, hlg, hl0, hu0, hk0⟩ := hpi 0 (by simp)
  obtain ⟨lg', lo', a1, c1', e1, hlg', hl1, hu1, hk1⟩ := hpi 1 (by simp)
  cases e1
  rw [Nat.add_zero] at hl0
  simp only [List.getD_cons_zero, List.getD_cons_succ] at hl0 hu0 hk0 hl1 hu1 hk1
  have HU0 : Hid (NReads w1 (.slice a0 A.flat.length c0) A.flat) := hu0.1.stay hb1
  have HU1 : Hid (NReads w1 (.slice a1 B.flat.length c1') B.flat) := hu1.1.stay hb1
  have HK0 : Hid (A.flat.length ≤ c0) := hk0
  have HK1 : Hid (B.flat.length ≤ c1') := hk1
  have HB1 : Hid (Below w.heap.size w w1) := go_on HBA.out hb1
  have d0 := (HNA.out.keep hb1).fst
  have hrb : w.heap.size < w1.heap.size := (HNA.out.keep hb1).lt
  have S0 : SQ w1 w.heap.size 5 lg lo (.slice a0 A.flat.length c0) (.slice a1 B.flat.length c1') w1.drew := ⟨d0, hl0, hl1, (Below.refl _ _).drew⟩
  clear hb1 c1 c2 hpi hu0 hk0 hu1 hk1 hl0 hl1
  go_wp2_with fail
  go_region_held3 (fun w' => SQ w1 w.heap.size 5 lg lo (.slice a0 A.flat.length c0) (.slice a1 B.flat.length c1') w') (first | exact S0 | assumption | exact sq_step hrb hlg (by assumption) (by assumption)) (first
    | (go_at_call 41; refine (HCS.out _ _ _ _ _ (by exact (own_nreads ho0).stay hb5) (by exact own_nreads ho1) (by exact own_cap ho0 _ _ _ rfl) (by exact own_cap ho1 _ _ _ rfl)).mono ?_; rintro e y3 ⟨z, rfl, hoz, hbz⟩)
    | (go_at_call 35; have q := ho0; refine (HIB.out _ _ _ (by exact HU1.out.stay (sq_below (rb := w.heap.size) (k := 5) (lg := lg) (lo := lo) (u0 := .slice a0 A.flat.length c0) (u1 := .slice a1 B.flat.length c1') (by assumption))) HK1.out).mono ?_; rintro e y2 ⟨r1, rfl, ho1, hb5⟩; obtain ⟨ra1, rc1, hs1⟩ := own_shape ho1; subst hs1; clear q)
    | (go_at_call 35; refine (HIA.out _ _ _ (by exact HU0.out.stay (sq_below (rb := w.heap.size) (k := 5) (lg := lg) (lo := lo) (u0 := .slice a0 A.flat.length c0) (u1 := .slice a1 B.flat.length c1') (by first | exact S0 | assumption))) HK0.out).mono ?_; rintro e y1 ⟨r0, rfl, ho0, hb4⟩; obtain ⟨ra0, rc0, hs0⟩ := own_shape ho0; subst hs0))
  all_goals (
    have hS : SQ w1 w.heap.size 5 lg lo (.slice a0 A.flat.length c0) (.slice a1 B.flat.length c1') y3 := by first | assumption | exact sq_step hrb hlg (by assumption) (by assumption)
    have HO3 : Hid (y3.ownsRow w.heap.size 52 2 z X.flat.length (ndC X.flat)) := own_mono hoz (by
      have h1 := HB1.out.size
      have h2 := hb4.size
      have h3 := hb5.size
      have h4 : w1.drew.heap.size = w1.heap.size := rfl
      omega)
    have HB3 : Hid (Below w.heap.size w y3) := go_on HB1.out hS.2.2.2
    clear hS S0 hoz hbz ho0 ho1 hb4 hb5
    go_wp2_with fail
    go_ret
    exact ⟨_, rfl, HO3.out, HB3.out⟩)


set_option maxHeartbeats 16000000 in
set_option maxRecDepth 100000 in
theorem form_two6 (A B : Tr) (hT : (Tr.two (6, 0) A B).ok) (iA : Fc A) (iB : Fc B) : Fc (.two (6, 0) A B) := by
  intro a c w hv hc hl
  unfold Own
  have hokA := nrm_ok hT.2.2.1
  have hokB := nrm_ok hT.2.2.2
  have hlnA := nrm_len hT.2.2.1
  have hlnB := nrm_len hT.2.2.2
  have hlen : (Tr.two (6, 0) A B).flat.length = A.flat.length + B.flat.length + 1 := by simp [Tr.flat]; omega
  have HT : Hid ((Tr.two (6, 0) A B).ok) := hT
  have HV : Hid (NReads w (.slice a (Tr.two (6, 0) A B).flat.length c) (Tr.two (6, 0) A B).flat) := hv
  have HK : Hid (Cap (.slice a (Tr.two (6, 0) A B).flat.length c)) := fun a' n' c' e => by cases e; exact hc
  obtain ⟨av, cv, e, hrd⟩ := hv
  obtain ⟨g, o, rfl, hg, c1, c2⟩ := hrd ((Tr.two (6, 0) A B).flat.length - 1) (by omega)
  cases e
  rw [flat_last] at c1 c2
  obtain ⟨m, hm⟩ : ∃ m, (Tr.two (6, 0) A B).flat.length - 1 = m := ⟨_, rfl⟩
  rw [hm] at c1 c2
  obtain ⟨N, hN⟩ : ∃ N, (Tr.two (6, 0) A B).flat.length = N := ⟨_, rfl⟩
  have hmI : (N : Int) - 1 = m := by omega
  have hmN : (m : Int) < N := by omega
  have HN4 : Hid ((Tr.two (6, 0) A B).flat.length ≤ 9000) := by show _ ≤ _; omega
  have hA4 : A.flat.length ≤ 4000 := by omega
  have hB4 : B.flat.length ≤ 4000 := by omega
  have hN4 : N ≤ 4000 := by omega
  rw [hN] at HV HK ⊢
  have hc0 : (Tr.two (6, 0) A B).root = (6, 0) := rfl
  rw [hc0] at c1 c2
  simp only at c1 c2
  have HBA : Hid (Below w.heap.size w (w.alloc (.cells #[.int .i64 6, .int .u8 0] 52))) := (Below.refl _ _).alloc (Nat.le_refl _) _
  have HNA : Hid (NB (w.alloc (.cells #[.int .i64 6, .int .u8 0] 52)) w.heap.size 6 0) := NB.new w 6 0
  have hXe : nrm (.two (6, 0) A B) = R2 6 (nrm A) (nrm B) := by
    rw [nrm]
    rw [if_neg (by decide)]
  obtain ⟨RA, hRA⟩ : ∃ R, nrm A = R := ⟨_, rfl⟩
  obtain ⟨RB, hRB⟩ : ∃ R, nrm B = R := ⟨_, rfl⟩
  rw [hRA, hRB] at hXe
  rw [hRA] at hokA hlnA
  rw [hRB] at hokB hlnB
  have HIA : Hid (∀ a c w, NReads w (.slice a A.flat.length c) A.flat → A.flat.length ≤ c → Calls Tryd.prog 35 #[.slice a A.flat.length c] w (Own w RA)) := fun a c w h1 h2 => by rw [← hRA]; exact iA a c w h1 h2 hA4
  have HIB : Hid (∀ a c w, NReads w (.slice a B.flat.length c) B.flat → B.flat.length ≤ c → Calls Tryd.prog 35 #[.slice a B.flat.length c] w (Own w RB)) := fun a c w h1 h2 => by rw [← hRB]; exact iB a c w h1 h2 hB4
  obtain ⟨X, hX⟩ : ∃ X, R2 6 RA RB = X := ⟨_, rfl⟩
  have HCS : Hid (∀ (ra : Option Addr) (ca : Nat) (rb : Option Addr) (cb : Nat) (w : World), NReads w (.slice ra RA.flat.length ca) RA.flat → NReads w (.slice rb RB.flat.length cb) RB.flat → RA.flat.length ≤ ca → RB.flat.length ≤ cb → Calls Tryd.prog 41 #[.int .i64 6, .slice ra RA.flat.length ca, .slice rb RB.flat.length cb] w (Own w X)) := fun ra ca rb cb w h1 h2 h3 h4 => by rw [← hX]; exact several_any 6 (by decide) RA RB hokA.1 hokA.2 hokB.1 hokB.2 ra rb ca cb w h1 h2 h3 h4 (by omega)
  rw [hXe, hX]
  clear hrd hT hc hl iA iB hokA hokB hlnA hlnB hlen hm hN hc0 hRA hRB hXe hX
  go_enter Tryd.func35, Tryd.ntmps35
  go_wp2_with fail
  generalize w.alloc (.cells #[.int .i64 6, .int .u8 0] 52) = wA at HBA HNA ⊢
  refine (cutW_any 0 wA _ (Tr.two (6, 0) A B).flat _ (Below.refl _ _) (NL.zero (HV.out.stay HBA.out)) HN4.out (Tr.ok_free _ HT.out) HK.out).mono ?_
  rintro e w1 ⟨u, rfl, hp1, hb1⟩
  rw [cut_flat_two HT.out] at hp1
  obtain ⟨ua, uc, rfl, hpi⟩ := hp1
  obtain ⟨lg, lo, a0, c0, rfl, hlg, hl0, hu0, hk0⟩ := hpi 0 (by simp)
  obtain ⟨lg', lo', a1, c1', e1, hlg', hl1, hu1, hk1⟩ := hpi 1 (by simp)
  cases e1
  rw [Nat.add_zero] at hl0
  simp only [List.getD_cons_zero, List.getD_cons_succ] at hl0 hu0 hk0 hl1 hu1 hk1
  have HU0 : Hid (NReads w1 (.slice a0 A.flat.length c0) A.flat) := hu0.1.stay hb1
  have HU1 : Hid (NReads w1 (.slice a1 B.flat.length c1') B.flat) := hu1.1.stay hb1
  have HK0 : Hid (A.flat.length ≤ c0) := hk0
  have HK1 : Hid (B.flat.length ≤ c1') := hk1
  have HB1 : Hid (Below w.heap.size w w1) := go_on HBA.out hb1
  have d0 := (HNA.out.keep hb1).fst
  have hrb : w.heap.size < w1.heap.size := (HNA.out.keep hb1).lt
  have S0 : SQ w1 w.heap.size 6 lg lo (.slice a0 A.flat.length c0) (.slice a1 B.flat.length c1') w1.drew := ⟨d0, hl0, hl1, (Below.refl _ _).drew⟩
  clear hb1 c1 c2 hpi hu0 hk0 hu1 hk1 hl0 hl1
  go_wp2_with fail
  go_region_held3 (fun w' => SQ w1 w.heap.size 6 lg lo (.slice a0 A.flat.length c0) (.slice a1 B.flat.length c1') w') (first | exact S0 | assumption | exact sq_step hrb hlg (by assumption) (by assumption)) (first
    | (go_at_call 41; refine (HCS.out _ _ _ _ _ (by exact (own_nreads ho0).stay hb5) (by exact own_nreads ho1) (by exact own_cap ho0 _ _ _ rfl) (by exact own_cap ho1 _ _ _ rfl)).mono ?_; rintro e y3 ⟨z, rfl, hoz, hbz⟩)
    | (go_at_call 35; have q := ho0; refine (HIB.out _ _ _ (by exact HU1.out.stay (sq_below (rb := w.heap.size) (k := 6) (lg := lg) (lo := lo) (u0 := .slice a0 A.flat.length c0) (u1 := .slice a1 B.flat.length c1') (by assumption))) HK1.out).mono ?_; rintro e y2 ⟨r1, rfl, ho1, hb5⟩; obtain ⟨ra1, rc1, hs1⟩ := own_shape ho1; subst hs1; clear q)
    | (go_at_call 35; refine (HIA.out _ _ _ (by exact HU0.out.stay (sq_below (rb := w.heap.size) (k := 6) (lg := lg) (lo := lo) (u0 := .slice a0 A.flat.length c0) (u1 := .slice a1 B.flat.length c1') (by first | exact S0 | assumption))) HK0.out).mono ?_; rintro e y1 ⟨r0, rfl, ho0, hb4⟩; obtain ⟨ra0, rc0, hs0⟩ := own_shape ho0; subst hs0))
  all_goals (
    have hS : SQ w1 w.heap.size 6 lg lo (.slice a0 A.flat.length c0) (.slice a1 B.flat.length c1') y3 := by first | assumption | exact sq_step hrb hlg (by assumption) (by assumption)
    have HO3 : Hid (y3.ownsRow w.heap.size 52 2 z X.flat.length (ndC X.flat)) := own_mono hoz (by
      have h1 := HB1.out.size
      have h2 := hb4.size
      have h3 := hb5.size
      have h4 : w1.drew.heap.size = w1.heap.size := rfl
      omega)
    have HB3 : Hid (Below w.heap.size w y3) := go_on HB1.out hS.2.2.2
    clear hS S0 hoz hbz ho0 ho1 hb4 hb5
    go_wp2_with fail
    go_ret
    exact ⟨_, rfl, HO3.out, HB3.out⟩)


set_option maxHeartbeats 16000000 in
set_option maxRecDepth 100000 in
theorem form_two7 (A B : Tr) (hT : (Tr.two (7, 0) A B).ok) (iA : Fc A) (iB : Fc B) : Fc (.two (7, 0) A B) := by
  intro a c w hv hc hl
  unfold Own
  have hokA := nrm_ok hT.2.2.1
  have hokB := nrm_ok hT.2.2.2
  have hlnA := nrm_len hT.2.2.1
  have hlnB := nrm_len hT.2.2.2
  have hlen : (Tr.two (7, 0) A B).flat.length = A.flat.length + B.flat.length + 1 := by simp [Tr.flat]; omega
  have HT : Hid ((Tr.two (7, 0) A B).ok) := hT
  have HV : Hid (NReads w (.slice a (Tr.two (7, 0) A B).flat.length c) (Tr.two (7, 0) A B).flat) := hv
  have HK : Hid (Cap (.slice a (Tr.two (7, 0) A B).flat.length c)) := fun a' n' c' e => by cases e; exact hc
  obtain ⟨av, cv, e, hrd⟩ := hv
  obtain ⟨g, o, rfl, hg, c1, c2⟩ := hrd ((Tr.two (7, 0) A B).flat.length - 1) (by omega)
  cases e
  rw [flat_last] at c1 c2
  obtain ⟨m, hm⟩ : ∃ m, (Tr.two (7, 0) A B).flat.length - 1 = m := ⟨_, rfl⟩
  rw [hm] at c1 c2
  obtain ⟨N, hN⟩ : ∃ N, (Tr.two (7, 0) A B).flat.length = N := ⟨_, rfl⟩
  have hmI : (N : Int) - 1 = m := by omega
  have hmN : (m : Int) < N := by omega
  have HN4 : Hid ((Tr.two (7, 0) A B).flat.length ≤ 9000) := by show _ ≤ _; omega
  have hA4 : A.flat.length ≤ 4000 := by omega
  have hB4 : B.flat.length ≤ 4000 := by omega
  have hN4 : N ≤ 4000 := by omega
  rw [hN] at HV HK ⊢
  have hc0 : (Tr.two (7, 0) A B).root = (7, 0) := rfl
  rw [hc0] at c1 c2
  simp only at c1 c2
  have HBA : Hid (Below w.heap.size w (w.alloc (.cells #[.int .i64 7, .int .u8 0] 52))) := (Below.refl _ _).alloc (Nat.le_refl _) _
  have HNA : Hid (NB (w.alloc (.cells #[.int .i64 7, .int .u8 0] 52)) w.heap.size 7 0) := NB.new w 7 0
  have hXe : nrm (.two (7, 0) A B) = RC (nrm A) (nrm B) := by
    rw [nrm]
    rw [if_pos rfl]
  obtain ⟨RA, hRA⟩ : ∃ R, nrm A = R := ⟨_, rfl⟩
  obtain ⟨RB, hRB⟩ : ∃ R, nrm B = R := ⟨_, rfl⟩
  rw [hRA, hRB] at hXe
  rw [hRA] at hokA hlnA
  rw [hRB] at hokB hlnB
  have HIA : Hid (∀ a c w, NReads w (.slice a A.flat.length c) A.flat → A.flat.length ≤ c → Calls Tryd.prog 35 #[.slice a A.flat.length c] w (Own w RA)) := fun a c w h1 h2 => by rw [← hRA]; exact iA a c w h1 h2 hA4
  have HIB : Hid (∀ a c w, NReads w (.slice a B.flat.length c) B.flat → B.flat.length ≤ c → Calls Tryd.prog 35 #[.slice a B.flat.length c] w (Own w RB)) := fun a c w h1 h2 => by rw [← hRB]; exact iB a c w h1 h2 hB4
  obtain ⟨X, hX⟩ : ∃ X, RC RA RB = X := ⟨_, rfl⟩
  have HCS : Hid (∀ (ra : Option Addr) (ca : Nat) (rb : Option Addr) (cb : Nat) (w : World), NReads w (.slice ra RA.flat.length ca) RA.flat → NReads w (.slice rb RB.flat.length cb) RB.flat → RA.flat.length ≤ ca → RB.flat.length ≤ cb → Calls Tryd.prog 40 #[.slice ra RA.flat.length ca, .slice rb RB.flat.length cb] w (Own w X)) := fun ra ca rb cb w h1 h2 h3 h4 => by rw [← hX]; exact behind_any hokA.1 hokA.2 RB _ _ w hokB.1 hokB.2 h1 h2 (fun a' n' c' e => by cases e; exact h3) (fun a' n' c' e => by cases e; exact h4) (by omega)
  rw [hXe, hX]
  clear hrd hT hc hl iA iB hokA hokB hlnA hlnB hlen hm hN hc0 hRA hRB hXe hX
  go_enter Tryd.func35, Tryd.ntmps35
  go_wp2_with fail
  generalize w.alloc (.cells #[.int .i64 7, .int .u8 0] 52) = wA at HBA HNA ⊢
  refine (cutW_any 0 wA _ (Tr.two (7, 0) A B).flat _ (Below.refl _ _) (NL.zero (HV.out.stay HBA.out)) HN4.out (Tr.ok_free _ HT.out) HK.out).mono ?_
  rintro e w1 ⟨u, rfl, hp1, hb1⟩
  rw [cut_flat_two HT.out] at hp1
  obtain ⟨ua, uc, rfl, hpi⟩ := hp1
  obtain ⟨lg, lo, a0, c0, rfl, hlg, hl0, hu0, hk0⟩ := hpi 0 (by simp)
  obtain ⟨lg', lo', a1, c1', e1, hlg', hl1, hu1, hk1⟩ := hpi 1 (by simp)
  cases e1
  rw [Nat.add_zero] at hl0
  simp only [List.getD_cons_zero, List.getD_cons_succ] at hl0 hu0 hk0 hl1 hu1 hk1
  have HU0 : Hid (NReads w1 (.slice a0 A.flat.length c0) A.flat) := hu0.1.stay hb1
  have HU1 : Hid (NReads w1 (.slice a1 B.flat.length c1') B.flat) := hu1.1.stay hb1
  have HK0 : Hid (A.flat.length ≤ c0) := hk0
  have HK1 : Hid (B.flat.length ≤ c1') := hk1
  have HB1 : Hid (Below w.heap.size w w1) := go_on HBA.out hb1
  have d0 := (HNA.out.keep hb1).fst
  have hrb : w.heap.size < w1.heap.size := (HNA.out.keep hb1).lt
  have S0 : SQ w1 w.heap.size 7 lg lo (.slice a0 A.flat.length c0) (.slice a1 B.flat.length c1') w1.drew := ⟨d0, hl0, hl1, (Below.refl _ _).drew⟩
  clear hb1 c1 c2 hpi hu0 hk0 hu1 hk1 hl0 hl1
  go_wp2_with fail
  go_region_held3 (fun w' => SQ w1 w.heap.size 7 lg lo (.slice a0 A.flat.length c0) (.slice a1 B.flat.length c1') w') (first | exact S0 | assumption | exact sq_step hrb hlg (by assumption) (by assumption)) (first
    | (go_at_call 40; refine (HCS.out _ _ _ _ _ (by exact (own_nreads ho0).stay hb5) (by exact own_nreads ho1) (by exact own_cap ho0 _ _ _ rfl) (by exact own_cap ho1 _ _ _ rfl)).mono ?_; rintro e y3 ⟨z, rfl, hoz, hbz⟩)
    | (go_at_call 35; have q := ho0; refine (HIB.out _ _ _ (by exact HU1.out.stay (sq_below (rb := w.heap.size) (k := 7) (lg := lg) (lo := lo) (u0 := .slice a0 A.flat.length c0) (u1 := .slice a1 B.flat.length c1') (by assumption))) HK1.out).mono ?_; rintro e y2 ⟨r1, rfl, ho1, hb5⟩; obtain ⟨ra1, rc1, hs1⟩ := own_shape ho1; subst hs1; clear q)
    | (go_at_call 35; refine (HIA.out _ _ _ (by exact HU0.out.stay (sq_below (rb := w.heap.size) (k := 7) (lg := lg) (lo := lo) (u0 := .slice a0 A.flat.length c0) (u1 := .slice a1 B.flat.length c1') (by first | exact S0 | assumption))) HK0.out).mono ?_; rintro e y1 ⟨r0, rfl, ho0, hb4⟩; obtain ⟨ra0, rc0, hs0⟩ := own_shape ho0; subst hs0))
  all_goals (
    have hS : SQ w1 w.heap.size 7 lg lo (.slice a0 A.flat.length c0) (.slice a1 B.flat.length c1') y3 := by first | assumption | exact sq_step hrb hlg (by assumption) (by assumption)
    have HO3 : Hid (y3.ownsRow w.heap.size 52 2 z X.flat.length (ndC X.flat)) := own_mono hoz (by
      have h1 := HB1.out.size
      have h2 := hb4.size
      have h3 := hb5.size
      have h4 : w1.drew.heap.size = w1.heap.size := rfl
      omega)
    have HB3 : Hid (Below w.heap.size w y3) := go_on HB1.out hS.2.2.2
    clear hS S0 hoz hbz ho0 ho1 hb4 hb5
    go_wp2_with fail
    go_ret
    exact ⟨_, rfl, HO3.out, HB3.out⟩)

theorem form_any : ∀ {T : Tr}, T.ok → Fc T
  | .zero n, h => form_zero n h
  | .one n a, h => form_one n a h (form_any h.2.2)
  | .two n a b, h => by
    have iA := form_any h.2.2.1
    have iB := form_any h.2.2.2
    have en := good_two h.1 h.2.1
    have hk := ar2 h.2.1
    obtain ⟨k, s⟩ := n
    have hs : s = 0 := congrArg Prod.snd en
    subst hs
    have hk : k = 5 ∨ k = 6 ∨ k = 7 := hk
    rcases hk with rfl | rfl | rfl
    · exact form_two5 a b h iA iB
    · exact form_two6 a b h iA iB
    · exact form_two7 a b h iA iB
end Go.Proofs.YtdmjcfecahcdnaaDoor
