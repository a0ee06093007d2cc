/- Contract of deriv.By. -/
import Derived.Test.YtdgpajdlomihaaaGreatDoorQS
import Derived.Lib.OthersKept
import Derived.Laws.RangeAny
namespace Go.Proofs.YtdgpajdlomihaaaGreatDoor
open Go Go.RowKit Go.Lib
set_option linter.unusedVariables false

/-- The derivative of a normal form by a word, where all trees on the way fit. -/
noncomputable def dby : List Int → Tr → Option Tr
  | [], n => some n
  | c :: u, n => if @decide (fit c n) (Classical.propDecidable _) = true then dby u (drv c n) else none
theorem dby_fit {c : Int} {u : List Int} {n : Tr} (h : fit c n) : dby (c :: u) n = dby u (drv c n) := by
  rw [dby, if_pos (by exact @decide_eq_true _ (Classical.propDecidable _) h)]
theorem dby_not {c : Int} {u : List Int} {n : Tr} (h : ¬ fit c n) : dby (c :: u) n = none := by
  rw [dby, if_neg (fun e => h (@of_decide_eq_true _ (Classical.propDecidable _) e))]
theorem dby_append : ∀ (u v : List Int) (n : Tr), dby (u ++ v) n = (dby u n).bind (dby v)
  | [], v, n => rfl
  | c :: u, v, n => by
    by_cases h : fit c n
    · rw [List.cons_append, dby_fit h, dby_fit h, dby_append u v]
    · rw [List.cons_append, dby_not h, dby_not h]; rfl
theorem dby_ok : ∀ (u : List Int) {n R : Tr}, n.ok → NF n → n.flat.length ≤ 4000 → dby u n = some R → R.ok ∧ NF R ∧ R.flat.length ≤ 4000
  | [], n, R, ho, hn, hl, h => by
    have e : n = R := Option.some.inj h
    subst e
    exact ⟨ho, hn, hl⟩
  | c :: u, n, R, ho, hn, hl, h => by
    by_cases hf : fit c n
    · rw [dby_fit hf] at h
      have hd := drv_ok c (t := n) ho hn
      exact dby_ok u hd.1 hd.2 (fit_len c hf) h
    · rw [dby_not hf] at h; cases h
/-- Are all bytes letters? -/
def lett (s : ByteArray) : Bool := s.data.toList.all letM
theorem lett_at {s : ByteArray} (h : lett s = true) (i : Nat) (hi : i < s.size) : letM (s[i]'hi) = true := by
  unfold lett at h
  rw [List.all_eq_true] at h
  exact h _ (by rw [show s[i]'hi = s.data.toList[i]'(by simpa using hi) by rfl]; exact List.getElem_mem _)
theorem lett_of {s : ByteArray} (h : ∀ i (hi : i < s.size), letM (s[i]'hi) = true) : lett s = true := letM_all h
theorem lett_append (a b : ByteArray) : lett (a ++ b) = (lett a && lett b) := by
  unfold lett
  rw [show (a ++ b).data.toList = a.data.toList ++ b.data.toList by simp, List.all_append]
/-- What By answers. -/
def ByQ (ts : List Nd) (s : ByteArray) (w : World) (e : Ending) (w' : World) : Prop :=
  (wrong ts ≠ 0 ∧ e = .returned (.tuple #[.slice none 0 0, .int .i64 (wrong ts)]) ∧ Below w.heap.size w w') ∨
  (wrong ts = 0 ∧ lett s = false ∧ e = .returned (.tuple #[.slice none 0 0, .int .i64 21]) ∧ Below w.heap.size w w') ∨
  (wrong ts = 0 ∧ lett s = true ∧ ∃ T : Tr, T.ok ∧ T.flat = ts ∧
    ((dby (wl s) (nrm T) = none ∧ e = .returned (.tuple #[.slice none 0 0, .int .i64 6]) ∧ Below w.heap.size w w') ∨
     (∃ R u, dby (wl s) (nrm T) = some R ∧ e = .returned (.tuple #[u, .int .i64 0]) ∧ NO w.heap.size w' u R ∧ Below w.heap.size w w')))
def iterP (w : World) (k : Nat) : Nat := match w.heap[k]? with | some (.stringIter _ p) => p | _ => 0
theorem iterP_eq {w : World} {k : Nat} {s : ByteArray} {p : Nat} (h : w.heap[k]? = some (.stringIter s p)) : iterP w k = p := by unfold iterP; rw [h]
theorem lt_iter {w : World} {k : Nat} {s : ByteArray} {p : Nat} (h : w.heap[k]? = some (.stringIter s p)) : k < w.heap.size := (Array.getElem?_eq_some_iff.1 h).1
theorem iter_below {n k : Nat} {w w1 : World} {s : ByteArray} {p : Nat} (h : Below n w w1) (hk : n ≤ k) : Below n w (w1.iterAt k s p) :=
  h.trans ⟨rfl, rfl, rfl, by simp [World.iterAt], fun j hj => iterAt_other _ _ _ _ _ (by omega)⟩
theorem no_iter {lo k : Nat} {w : World} {s : ByteArray} {p p' : Nat} {u : Value} {x : Tr} (h : NO lo w u x) (hk : w.heap[k]? = some (.stringIter s p)) : NO lo (w.iterAt k s p') u x := by
  refine ⟨h.1, ?_⟩
  rcases h.2 with hn | ⟨g, cap, cur', rfl, hb, hgg, rest⟩
  · exact .inl hn
  · refine .inr ⟨g, cap, cur', rfl, hb, ?_, rest⟩
    rw [iterAt_other _ _ _ _ _ (fun e => by subst e; rw [hk] at hgg; cases hgg)]
    exact hgg
theorem wl_dropc {s : ByteArray} {p : Nat} (h : p < s.size) : (wl s).drop p = ((s[p]'h).toNat : Int) :: (wl s).drop (p + 1) := by
  have hl : p < (wl s).length := by rw [wl_len]; exact h
  rw [List.drop_eq_getElem_cons hl]
  congr 1
  have := wl_at s p h
  rw [List.getD_eq_getElem?_getD, List.getElem?_eq_getElem hl] at this
  exact this

set_option maxHeartbeats 8000000 in
set_option maxRecDepth 100000 in
theorem dBy_any (v : Value) (ts : List Nd) (s : ByteArray) (w : World) (hv : NReads w v ts) (hm : ts.length ≤ 9223372036854775806) (hP : PTab w) (hT : TzTab w) :
    Calls Tryz.prog 20 #[v, .string s] w (ByQ ts s w) := by
  by_cases h0 : wrong ts = 0
  · obtain ⟨T, ho, hTf⟩ := nfL_of h0
    subst hTf
    obtain ⟨va, vc, rfl, _⟩ := id hv
    have hn := nrm_ok (t := T) ho
    have hnl := nrm_len (t := T) ho
    have hl := (wrong_zero h0).1
    have HN : Hid (Calls Tryz.prog 21 #[.slice va T.flat.length vc] w fun e w' => NQ T w e w') := normal_good T ho _ _ w hv hP h0
    have HW : Hid (wrong T.flat = 0) := h0
    have HTO : Hid (T.ok ∧ (nrm T).ok ∧ NF (nrm T) ∧ (nrm T).flat.length ≤ 4000) := ⟨ho, hn.1, hn.2, by omega⟩
    have HP : Hid (PTab w) := hP
    have HT : Hid (TzTab w) := hT
    clear hv hP hT hn hnl ho h0 hl
    go_enter Tryz.func20, Tryz.ntmps20
    go_wp2_with fail
    refine HN.out.mono ?_
    rintro e w1 ⟨u, rfl, hou, hb1⟩
    have HB1 : Hid (Below w.heap.size w w1) := hb1
    have HU1 : Hid (NO w.heap.size w1 u (nrm T)) := hou
    clear hou hb1 HN
    go_wp2_with fail
    have HI0 : Hid ((w1.iter s 0).heap[w1.heap.size]? = some (.stringIter s 0) ∧ Below w1.heap.size w1 (w1.iter s 0)) := ⟨heap_alloc_new w1 _, (Below.refl _ _).alloc (Nat.le_refl _) _⟩
    go_loopw [] (fun wr => ∃ pos : Nat, wr.heap[w1.heap.size]? = some (.stringIter s pos) ∧ pos ≤ s.size ∧ (∀ i (hi : i < s.size), i < pos → letM (s[i]'hi) = true) ∧ Below w1.heap.size w1 wr) (fun wr => s.size - iterP wr w1.heap.size)
    case atStart => exact ⟨0, HI0.out.1, Nat.zero_le _, fun i hi h => by omega, HI0.out.2⟩
    case round =>
      obtain ⟨pos, hit, hp, hall, hb⟩ := hrel
      have HIT : Hid (wr.heap[w1.heap.size]? = some (.stringIter s pos)) := hit
      have HALL : Hid (∀ i (hi : i < s.size), i < pos → letM (s[i]'hi) = true) := hall
      have HBB : Hid (Below w1.heap.size w1 wr) := hb
      clear hall hb HI0
      by_cases hlt : pos < s.size
      · have HLT : Hid (pos < s.size) := hlt
        by_cases ha : letM (s[pos]'hlt) = true
        · have hrange : 97 ≤ (s[pos]'hlt).toNat ∧ (s[pos]'hlt).toNat ≤ 104 := by simpa [letM] using ha
          have hnx : ∀ ty, (Instr.next (.pointer (some ⟨w1.heap.size, 0, none⟩)) true ty).run Tryz.prog wr = .ok (.tuple #[.bool true, .int .i64 pos, .int .i32 (s[pos]'hlt).toNat]) (wr.iterAt w1.heap.size s (pos + 1)) := fun ty => run_next_ascii_at wr w1.heap.size s pos ty hit hlt (by omega)
          have HNI : Hid ((wr.iterAt w1.heap.size s (pos + 1)).heap[w1.heap.size]? = some (.stringIter s (pos + 1)) ∧ Below w1.heap.size w1 (wr.iterAt w1.heap.size s (pos + 1))) := ⟨iterAt_heap wr _ s pos (pos + 1) hit, iter_below HBB.out (Nat.le_refl _)⟩
          have HNA : Hid (∀ i (hi : i < s.size), i < pos + 1 → letM (s[i]'hi) = true) := fun i hi h => by
            by_cases c : i = pos
            · subst c; exact ha
            · exact HALL.out i hi (by omega)
          obtain ⟨b, hb⟩ : ∃ b, (s[pos]'hlt).toNat = b := ⟨_, rfl⟩
          rw [hb] at hnx hrange
          have HLR : Hid (∀ w2, Calls Tryz.prog 23 #[.int .i32 (b : Int)] w2 fun e w' => e = .returned (.bool true) ∧ w' = w2) := fun w2 => by
            have := disLetter_any (b : Int) w2
            rw [show isLet (b : Int) = true by simp [isLet]; omega] at this
            exact this
          clear hb ha hit hrange
          go_wp2_with fail
          refine (HLR.out _).mono ?_
          rintro e w2 ⟨rfl, rfl⟩
          go_wp2_with fail
          go_roundw
          case rel => exact ⟨pos + 1, HNI.out.1, HLT.out, HNA.out, HNI.out.2⟩
          case measure => rw [iterP_eq HNI.out.1, iterP_eq HIT.out]; have := HLT.out; omega
        · have hnx : ∀ ty, (Instr.next (.pointer (some ⟨w1.heap.size, 0, none⟩)) true ty).run Tryz.prog wr = .ok (.tuple #[.bool true, .int .i64 pos, .int .i32 (Utf8.decode s pos).1]) (wr.iterAt w1.heap.size s (pos + (Utf8.decode s pos).2)) := fun ty => run_next_any_at wr w1.heap.size s pos ty hit hlt
          have hnl : isLet ((Utf8.decode s pos).1 : Int) = false := by
            have hna : ¬ (97 ≤ (s[pos]'hlt).toNat ∧ (s[pos]'hlt).toNat ≤ 104) := by simpa [letM] using ha
            by_cases h128 : (s[pos]'hlt).toNat < 128
            · rw [show (Utf8.decode s pos) = ((s[pos]'hlt).toNat, 1) from decode_ascii s pos hlt h128]
              simp [isLet]
              omega
            · have := (decode_high s pos hlt (by omega)).1
              simp [isLet]
              omega
          have hle := decode_le s pos
          have HLS : Hid (lett s = false) := by
            show _ = _
            cases h : lett s with
            | false => rfl
            | true => exact absurd (lett_at h pos hlt) ha
          have HNB : Hid (Below w.heap.size w (wr.iterAt w1.heap.size s (pos + (Utf8.decode s pos).2))) := HB1.out.trans ((iter_below HBB.out (Nat.le_refl _)).mono HB1.out.size)
          obtain ⟨b, hb⟩ : ∃ b, (Utf8.decode s pos).1 = b := ⟨_, rfl⟩
          obtain ⟨q, hq⟩ : ∃ q, pos + (Utf8.decode s pos).2 = q := ⟨_, rfl⟩
          rw [hb] at hnx hnl hle
          rw [hq] at hnx HNB
          have HLR : Hid (∀ w2, Calls Tryz.prog 23 #[.int .i32 (b : Int)] w2 fun e w' => e = .returned (.bool false) ∧ w' = w2) := fun w2 => by
            have := disLetter_any (b : Int) w2
            rw [hnl] at this
            exact this
          clear hb hq ha hit hnl
          go_wp2_with fail
          refine (HLR.out _).mono ?_
          rintro e w2 ⟨rfl, rfl⟩
          go_wp2_with fail
          go_ret2
          exact .inr (.inl ⟨HW.out, HLS.out, rfl, HNB.out⟩)
      · have hnx : ∀ ty, (Instr.next (.pointer (some ⟨w1.heap.size, 0, none⟩)) true ty).run Tryz.prog wr = .ok (.tuple #[.bool false]) wr := fun ty => run_next_end_at wr w1.heap.size s pos ty hit hlt
        have HLS : Hid (lett s = true) := lett_of fun i hi => HALL.out i hi (by omega)
        have HU2 : Hid (NO w.heap.size wr u (nrm T)) := HU1.out.below HBB.out
        have HS1 : Hid (w1.heap.size ≤ wr.heap.size) := HBB.out.size
        have HBW : Hid (Below w.heap.size w wr) := go_on HB1.out HBB.out
        clear hit HIT HALL HBB HU1
        go_wp2_with fail
        obtain ⟨wo, rfl⟩ : ∃ x, x = wr := ⟨_, rfl⟩
        have HI0 : Hid ((wo.iter s 0).heap[wo.heap.size]? = some (.stringIter s 0) ∧ Below wo.heap.size wo (wo.iter s 0)) := ⟨heap_alloc_new wo _, (Below.refl _ _).alloc (Nat.le_refl _) _⟩
        go_loopw [6] (fun vn wr => ∃ (pos : Nat) (R : Tr) (v' : Value), v' = vn ∧ wr.heap[wo.heap.size]? = some (.stringIter s pos) ∧ pos ≤ s.size ∧ R.ok ∧ NF R ∧ R.flat.length ≤ 4000 ∧ NO w.heap.size wr v' R ∧ dby (wl s) (nrm T) = dby ((wl s).drop pos) R ∧ Below wo.heap.size wo wr) (fun _ wr => s.size - iterP wr wo.heap.size)
        case atStart => exact ⟨0, nrm T, u, rfl, HI0.out.1, Nat.zero_le _, HTO.out.2.1, HTO.out.2.2.1, HTO.out.2.2.2, HU2.out.below HI0.out.2, rfl, HI0.out.2⟩
        case round =>
          obtain ⟨pos, R, v', rfl, hit, hp, hro, hrn, hrl, hno, hdb, hb⟩ := hrel
          have HIT : Hid (wr.heap[wo.heap.size]? = some (.stringIter s pos)) := hit
          have HDB : Hid (dby (wl s) (nrm T) = dby ((wl s).drop pos) R) := hdb
          have HBB : Hid (Below wo.heap.size wo wr) := hb
          have HNO : Hid (NO w.heap.size wr v' R) := hno
          obtain ⟨ra, rc, rfl⟩ := own_one hno
          clear hdb hb hno
          by_cases hlt : pos < s.size
          · have HLT : Hid (pos < s.size) := hlt
            have ha := lett_at HLS.out pos hlt
            have hrange : 97 ≤ (s[pos]'hlt).toNat ∧ (s[pos]'hlt).toNat ≤ 104 := by simpa [letM] using ha
            have hnx : ∀ ty, (Instr.next (.pointer (some ⟨wo.heap.size, 0, none⟩)) true ty).run Tryz.prog wr = .ok (.tuple #[.bool true, .int .i64 pos, .int .i32 (s[pos]'hlt).toNat]) (wr.iterAt wo.heap.size s (pos + 1)) := fun ty => run_next_ascii_at wr wo.heap.size s pos ty hit hlt (by omega)
            have HNI : Hid ((wr.iterAt wo.heap.size s (pos + 1)).heap[wo.heap.size]? = some (.stringIter s (pos + 1)) ∧ Below wo.heap.size wo (wr.iterAt wo.heap.size s (pos + 1))) := ⟨iterAt_heap wr _ s pos (pos + 1) hit, iter_below HBB.out (Nat.le_refl _)⟩
            have HNN : Hid (NO w.heap.size (wr.iterAt wo.heap.size s (pos + 1)) (.slice ra R.flat.length rc) R) := no_iter HNO.out hit
            have hwd := wl_dropc hlt
            obtain ⟨b, hbb⟩ : ∃ b, (s[pos]'hlt).toNat = b := ⟨_, rfl⟩
            rw [hbb] at hnx hrange hwd
            have HWD : Hid ((wl s).drop pos = (b : Int) :: (wl s).drop (pos + 1)) := hwd
            have hbw : Below w.heap.size w (wr.iterAt wo.heap.size s (pos + 1)) := HBW.out.trans (HNI.out.2.mono HBW.out.size)
            have HDE : Hid (Calls Tryz.prog 24 #[.slice ra R.flat.length rc, .int .u8 (b : Int)] (wr.iterAt wo.heap.size s (pos + 1)) (RuJ (fit b R) (drv b R) (wr.iterAt wo.heap.size s (pos + 1)).heap.size (wr.iterAt wo.heap.size s (pos + 1)).heap.size (wr.iterAt wo.heap.size s (pos + 1)))) := derivative_any (b : Int) hro hrn hrl HNN.out.reads (own_cap HNN.out) (HP.out.stay hbw) (HT.out.stay hbw)
            have HRO : Hid (R.ok ∧ NF R) := ⟨hro, hrn⟩
            have HBWN : Hid (Below w.heap.size w (wr.iterAt wo.heap.size s (pos + 1))) := hbw
            obtain ⟨K, hK⟩ : ∃ K, R.flat.length = K := ⟨_, rfl⟩
            rw [hK] at HDE ⊢
            obtain ⟨wN, hwN⟩ : ∃ wN, wr.iterAt wo.heap.size s (pos + 1) = wN := ⟨_, rfl⟩
            rw [hwN] at hnx HNI HDE HBWN
            clear hbb ha hit hwd hbw hro hrn hK HNN hwN
            go_wp2_with fail
            refine HDE.out.mono ?_
            rintro e w3 (⟨hnf, rfl, hb3⟩ | ⟨hf, u3, rfl, hn3, hb3⟩)
            · have HNF : Hid (¬ fit b R) := hnf
              have HB3 : Hid (Below w.heap.size w w3) := go_on HBWN.out hb3
              clear hnf hb3
              go_wp2_with fail
              go_ret2
              refine .inr (.inr ⟨HW.out, HLS.out, T, HTO.out.1, rfl, .inl ⟨?_, rfl, HB3.out⟩⟩)
              rw [HDB.out, HWD.out]
              exact dby_not HNF.out
            · have HF : Hid (fit b R) := hf
              have HB3 : Hid (Below wN.heap.size wN w3) := hb3
              have HN3 : Hid (NO wN.heap.size w3 u3 (drv b R)) := hn3
              clear hf hb3 hn3
              go_wp2_with fail
              go_roundw
              case rel =>
                have hd := drv_ok (b : Int) (t := R) HRO.out.1 HRO.out.2
                have hlB := lt_iter HNI.out.1
                exact ⟨pos + 1, drv b R, u3, rfl, (HB3.out.block _ hlB).trans HNI.out.1, HLT.out, hd.1, hd.2, fit_len _ HF.out, HN3.out.mono HBWN.out.size, by rw [HDB.out, HWD.out, dby_fit HF.out], HNI.out.2.trans (HB3.out.mono HNI.out.2.size)⟩
              case measure =>
                have hlB := lt_iter HNI.out.1
                rw [iterP_eq ((HB3.out.block _ hlB).trans HNI.out.1), iterP_eq HIT.out]
                have := HLT.out
                omega
          · have hnx : ∀ ty, (Instr.next (.pointer (some ⟨wo.heap.size, 0, none⟩)) true ty).run Tryz.prog wr = .ok (.tuple #[.bool false]) wr := fun ty => run_next_end_at wr wo.heap.size s pos ty hit hlt
            have HPE : Hid (pos = s.size) := by show _ = _; omega
            clear hit
            go_wp2_with fail
            go_ret2
            refine .inr (.inr ⟨HW.out, HLS.out, T, HTO.out.1, rfl, .inr ⟨R, _, ?_, rfl, HNO.out, HBW.out.trans (HBB.out.mono HBW.out.size)⟩⟩)
            rw [HDB.out, HPE.out, ← wl_len, List.drop_length]
            rfl
  · have HN : Hid (Calls Tryz.prog 21 #[v] w fun e w' => e = .returned (.tuple #[.slice none 0 0, .int .i64 (wrong ts)]) ∧ Below w.heap.size w w') := normal_bad v ts w hv hm hP h0
    have HW : Hid (wrong ts ≠ 0) := h0
    obtain ⟨x, hx⟩ : ∃ x, wrong ts = x := ⟨_, rfl⟩
    have HX : Hid (wrong ts = x) := hx
    rw [hx] at HN h0
    have hxb : (x != 0) = true := by simpa using h0
    clear hv hP hT h0 hx
    go_enter Tryz.func20, Tryz.ntmps20
    go_wp2_with fail
    refine HN.out.mono ?_
    rintro e w1 ⟨rfl, hb1⟩
    have HB1 : Hid (Below w.heap.size w w1) := hb1
    clear hb1
    go_wp2_with fail
    go_ret2
    exact .inl ⟨HW.out, by rw [HX.out]; rfl, HB1.out⟩
end Go.Proofs.YtdgpajdlomihaaaGreatDoor
