/- Proved: the card of eggboxlaw07.DerivLike: it answers true at every number, every list of nodes and every text (P704, P705), with math/bits.deBruijn64tab and tree.partsOf as the program's text lays them: what deriv.Classes answers names for each letter the first one of its class, and two letters of one class may be put for one another at the beginning of any word; its arguments read behind the call as before. The card ties the variables to the pruned copy of the project that the seat holds. -/
import Derived.Test.YtdgpajdlomihaaaGreatDoorQEv
import Derived.Test.YtdgpajdlomihaaaGreatDoorQGe
import Derived.Test.YtdgpajdlomihaaaGreatDoorQTl
import Derived.Test.YtdgpajdlomihaaaGreatDoorQTn
import Derived.Laws.IdiomStrings
import Derived.LaidMore
import Derived.Laws.DeepStrings4
import Derived.Deep.DeepCutAuto
import Derived.Deep.RegionHeld3
import Derived.Stop.Joined
import Derived.Stop.LaidErr
import Derived.Lib.LaidTab
import Derived.SevenTiedAt
import Derived.ShutString
import Derived.ChangeMaps5
import Derived.Test.YtdgpajdlomihaaaGreatDoorTie
import Derived.Test.YtdgpajdlomihaaaGreatDoorCards
namespace Go.Proofs.YtdgpajdlomihaaaGreatDoor.derivLike
open Go.ChangeShapes Go.WideShapes Go.ChangeAt Go.RowKit
open Go.ChangeMaps (open_string shut_string)
set_option linter.unusedVariables false

theorem wl_cons (c : Int) (h0 : 97 ≤ c) (h1 : c ≤ 104) (s : ByteArray) : wl ((⟨#[UInt8.ofNat c.toNat]⟩ : ByteArray) ++ s) = c :: wl s := by
  have e : ((UInt8.ofNat c.toNat).toNat : Int) = c := by
    rw [UInt8.toNat_ofNat']
    omega
  have e2 : ((⟨#[UInt8.ofNat c.toNat]⟩ : ByteArray) ++ s).data.toList = UInt8.ofNat c.toNat :: s.data.toList := by simp
  unfold wl
  rw [e2, List.map_cons, e]
theorem run_one_byte (c : Int) (h0 : 97 ≤ c) (h1 : c ≤ 104) (W : World) : (convert 41 9 (.slice (some ⟨W.heap.size, 0, none⟩) 1 1)).run Tryz.prog (W.alloc (.cells #[.int .u8 c] 5)) = .ok (.string ⟨#[UInt8.ofNat c.toNat]⟩) (W.alloc (.cells #[.int .u8 c] 5)) := by
  have e : ((UInt8.ofNat c.toNat).toNat : Int) = c := by
    rw [UInt8.toNat_ofNat']
    omega
  refine run_convert_bytes_back _ _ _ 5 ⟨W.heap.size, 0, none⟩ 1 [UInt8.ofNat c.toNat] Tryz.underlying41 Tryz.underlying5 Tryz.underlying9 ?_
  intro j hj
  have hj0 : j = 0 := by simp at hj; omega
  subst hj0
  show _ = some (Value.int .u8 (((UInt8.ofNat c.toNat).toNat : Nat) : Int))
  rw [e]
  exact cell_one_new W _ _ 0 _ rfl
theorem says {T : Tr} (ho : T.ok) (c : Int) (u : List Int) : Lg (drv c (nrm T)) u ↔ Lg T (c :: u) := by
  have hn := nrm_ok (t := T) ho
  rw [drv_lg c hn.1 hn.2, nrm_lg ho]
/-- Two letters with the same derivative begin the same words. -/
theorem alike {T : Tr} (ho : T.ok) {c d : Int} (h : (drv c (nrm T)).flat = (drv d (nrm T)).flat) (u : List Int) : Lg T (c :: u) ↔ Lg T (d :: u) := by
  have hn := nrm_ok (t := T) ho
  rw [← says ho, ← says ho, flat_inj (drv_ok c hn.1 hn.2).1 (drv_ok d hn.1 hn.2).1 h]
/-- The first one of a class is its own first one. -/
theorem cls_twice {n : Tr} {f : List Nat} (h : Cls n f) {i : Nat} (hi : i < f.length) : f.getD (f.getD i 0) 0 = f.getD i 0 := by
  obtain ⟨h1, h2, h3⟩ := h i hi
  obtain ⟨h4, h5, h6⟩ := h (f.getD i 0) (by omega)
  by_cases c : f.getD (f.getD i 0) 0 < f.getD i 0
  · exact absurd (h5.trans h2) (h3 _ c)
  · omega
theorem ext_one (S : ByteArray) (i : Nat) (h : i < S.size) {c : Int} (hc : 97 ≤ c) (h8 : c ≤ 104) (e : (S[i]'h).toNat = c.toNat) : S.extract i (i + 1) = ⟨#[UInt8.ofNat c.toNat]⟩ := by
  have h1 : UInt8.ofNat c.toNat = S[i]'h := by
    apply UInt8.toNat_inj.1
    rw [e, UInt8.toNat_ofNat']
    omega
  rw [h1]
  have h2 : (S.extract i (i + 1)).size = 1 := by simp; omega
  apply ByteArray.ext_getElem
  · rw [h2]; rfl
  · intro j hj1 hj2
    have h0 : j = 0 := by omega
    subst h0
    rw [ByteArray.getElem_extract]
    rfl
theorem slice_i64 (s : ByteArray) (q : Nat) (h : q + 1 ≤ s.size) (w : World) :
    (Instr.slice 9 (.string s) (some (.int .i64 (q : Int))) (some (.int .i64 ((q : Int) + 1))) none).run Tryz.prog w = .ok (.string (s.extract q (q + 1))) w := by
  rw [run_slice_string_if _ _ _ _ _ _ _ Tryz.underlying9, if_pos (by omega), if_pos (by omega), show ((q : Int) + 1).toNat = q + 1 by omega, show ((q : Int)).toNat = q by omega]
theorem flS_size (f : List Nat) : (flS f).size = f.length := by
  show (List.toArray _).size = _
  simp
theorem flS_at {f : List Nat} (h8 : ∀ i ∈ f, i < 8) (i : Nat) (hi : i < f.length) (h : i < (flS f).size) : ((flS f)[i]'h).toNat = 97 + f.getD i 0 := by
  have e : (flS f)[i]'h = UInt8.ofNat (97 + f.getD i 0) := by
    show (List.toArray _)[i]'_ = _
    simp [List.getD_eq_getElem?_getD, List.getElem?_eq_getElem hi]
  rw [e, UInt8.toNat_ofNat']
  have := h8 _ (List.getElem_mem hi)
  have e2 : f.getD i 0 = f[i] := by rw [List.getD_eq_getElem?_getD, List.getElem?_eq_getElem hi]; rfl
  rw [e2]
  omega

set_option maxHeartbeats 8000000 in
set_option maxRecDepth 100000 in
theorem walk (k : Int) (v : Value) (ts : List Nd) (s : ByteArray) (w : World) (hk : (Lit.int .i64 k).wf = true) (hv : NReads w v ts) (hn0 : ∀ c, v = .slice none 0 c → c = 0) (hl : (ts.length + 2) * 16 ≤ 140737488355328) (hs : s.size ≤ 140737488355327) (hP : PTab w) (hT : TzTab w) :
    Calls Tryz.prog 8 #[.int .i64 k, v, .string s] w fun e w' => e = .returned (.bool true) ∧ Below w.heap.size w w' := by
  have HV : Hid (NReads w v ts) := hv
  have HP : Hid (PTab w) := hP
  have HT : Hid (TzTab w) := hT
  have HL : Hid (ts.length ≤ 9223372036854775806) := by show _ ≤ _; omega
  have HS : Hid (s.size ≤ 140737488355327) := hs
  obtain ⟨va, vc, hva, _⟩ := hv
  subst hva
  obtain ⟨r, hr⟩ : ∃ r, k.tmod 8 = r := ⟨_, rfl⟩
  have hr1 : -7 ≤ r := by rw [← hr]; have := Int.lt_tmod_of_pos k (show (0 : Int) < 8 by decide); omega
  have hr2 : r ≤ 7 := by rw [← hr]; have := Int.tmod_lt_of_pos k (show (0 : Int) < 8 by decide); omega
  have hrm : (r + 8).tmod 8 = (r + 8) % 8 := Int.tmod_eq_emod_of_nonneg (by omega)
  obtain ⟨kn, hkn⟩ : ∃ kn : Nat, 1 + r % 8 = kn := ⟨(1 + r % 8).toNat, by omega⟩
  have hkn1 : 1 ≤ kn := by omega
  have hkn8 : kn ≤ 8 := by omega
  have HDV : Hid (Calls Tryz.prog 17 #[.int .i64 (kn : Int), .slice va ts.length vc] w (ClQ (kn : Int) ts w)) := dClasses_any _ ts _ w HV.out HL.out HP.out HT.out
  clear hn0 hl hk hs hP hT
  go_enter Tryz.func8, Tryz.ntmps8
  go_wp2_with fail
  clear hkn hrm hr1 hr2 hr
  have HKN : Hid (1 ≤ kn ∧ kn ≤ 8) := ⟨hkn1, hkn8⟩
  refine HDV.out.mono ?_
  rintro e w1 (⟨h1, _⟩ | ⟨_, _, h1, rfl, hb1⟩ | ⟨_, _, hw0, T, ho, hTf, hq⟩)
  · omega
  · have hxb : (wrong ts != 0) = true := by simpa using h1
    obtain ⟨y, hy⟩ : ∃ y, wrong ts = y := ⟨_, rfl⟩
    rw [hy] at hxb ⊢
    have HB1 : Hid (Below w.heap.size w w1) := hb1
    clear hb1 h1 hy
    go_wp2_with fail
    refine (num7_any y _).mono ?_
    rintro e w2 ⟨rfl, rfl⟩
    go_wp2_with fail
    refine (knows7_any _ (HP.out.stay HB1.out) (HT.out.stay HB1.out)).mono ?_
    rintro e w2 ⟨rfl, hb2⟩
    have HB2 : Hid (Below w.heap.size w w2) := go_on HB1.out hb2
    clear hb2
    go_wp2_with fail
    go_ret
    exact ⟨rfl, HB2.out⟩
  · rcases hq with ⟨_, rfl, hb1⟩ | ⟨f, hfk, hfit, hcls, rfl, hb1⟩
    · have HB1 : Hid (Below w.heap.size w w1) := hb1
      clear hb1 hw0
      go_wp2_with fail
      refine (num7_any 6 _).mono ?_
      rintro e w2 ⟨rfl, rfl⟩
      go_wp2_with fail
      refine (knows7_any _ (HP.out.stay HB1.out) (HT.out.stay HB1.out)).mono ?_
      rintro e w2 ⟨rfl, hb2⟩
      have HB2 : Hid (Below w.heap.size w w2) := go_on HB1.out hb2
      clear hb2
      go_wp2_with fail
      go_ret
      exact ⟨rfl, HB2.out⟩
    · have HB1 : Hid (Below w.heap.size w w1) := hb1
      have hfl : f.length = kn := by omega
      have HFL : Hid (f.length = kn) := hfl
      have HCLS : Hid (Cls (nrm T) f) := hcls
      have HOK : Hid (T.ok ∧ T.flat = ts) := ⟨ho, hTf⟩
      have H8 : Hid (∀ i ∈ f, i < 8) := hcls.lt (by omega)
      obtain ⟨S, hS⟩ : ∃ S, flS f = S := ⟨_, rfl⟩
      have hsz : S.size = kn := by rw [← hS, flS_size, hfl]
      have HAT : Hid (∀ i (hi : i < kn) (h : i < S.size), (S[i]'h).toNat = 97 + f.getD i 0) := fun i hi h => by subst hS; exact flS_at (hcls.lt (by omega)) i (by omega) h
      rw [hS]
      clear hb1 hw0 hcls hfk hfit hS hfl ho hTf
      go_wp2_with fail
      refine (num7_any 0 _).mono ?_
      rintro e w2 ⟨rfl, rfl⟩
      go_wp2_with fail
      refine (knows7_any _ (HP.out.stay HB1.out) (HT.out.stay HB1.out)).mono ?_
      rintro e w2 ⟨rfl, hb2⟩
      have HB2 : Hid (Below w.heap.size w w2) := go_on HB1.out hb2
      clear hb2
      go_wp2_with fail
      go_loopw [9] (fun vi wr => ∃ i : Nat, vi = .int .i64 i ∧ i ≤ kn ∧ Below w.heap.size w wr) (fun vi _ => kn - (intOf vi).toNat)
      case atStart => exact ⟨0, rfl, Nat.zero_le _, HB2.out⟩
      case round =>
        obtain ⟨i, rfl, hik, hb⟩ := hrel
        have HB : Hid (Below w.heap.size w wr) := hb
        clear hb HB2 HB1
        by_cases hlt : i < kn
        · have hltI : (i : Int) < kn := by omega
          have hiS : i < S.size := by omega
          obtain ⟨j, hj⟩ : ∃ j, f.getD i 0 = j := ⟨_, rfl⟩
          have hc := HCLS.out i (by rw [HFL.out]; exact hlt)
          rw [hj] at hc
          obtain ⟨hji, hje, _⟩ := hc
          have HJE : Hid ((drv (97 + (j : Int)) (nrm T)).flat = (drv (97 + (i : Int)) (nrm T)).flat) := hje
          have hjS : j < S.size := by omega
          have hSi : (S[i]'hiS).toNat = 97 + j := by rw [HAT.out i hlt hiS, hj]
          have hSj : (S[j]'hjS).toNat = 97 + j := by
            rw [HAT.out j (by omega) hjS]
            have := cls_twice HCLS.out (i := i) (by rw [HFL.out]; exact hlt)
            rw [hj] at this
            rw [this]
          obtain ⟨c, hc⟩ : ∃ c : Int, 97 + (j : Int) = c := ⟨_, rfl⟩
          have HCJ : Hid (97 + (j : Int) = c) := hc
          have hx1 : ∀ w', (Instr.index 9 (.string S) (.int .i64 (i : Int))).run Tryz.prog w' = .ok (.int .u8 c) w' := fun w' => by
            rw [run_index_string w' _ _ _ _ Tryz.underlying9, dif_pos ⟨by omega, by omega⟩]
            simp only [Int.toNat_natCast]
            rw [hSi, ← hc]
            rfl
          have hx2 : ∀ w', (Instr.index 9 (.string S) (.int .u8 (j : Int))).run Tryz.prog w' = .ok (.int .u8 c) w' := fun w' => by
            rw [run_index_string w' _ _ _ _ Tryz.underlying9, dif_pos ⟨by omega, by omega⟩]
            simp only [Int.toNat_natCast]
            rw [hSj, ← hc]
            rfl
          have hc97 : ¬ c < 97 := by omega
          have hji' : ¬ (i : Int) < (j : Int) := by omega
          have hij : (j : Int) ≤ (i : Int) := by omega
          have hc0 : 97 ≤ c := by omega
          have hc8 : c ≤ 104 := by omega
          clear hje hc hSi hSj
          go_wp2_with fail
          have hc := HCJ.out
          have hcw : IntKind.u8.wrap (c - 97) = (j : Int) := by rw [IntKind.wrap_u8]; omega
          have hjw : IntKind.i64.wrap (j : Int) = (j : Int) := by rw [IntKind.wrap_i64]; omega
          clear hc
          have hd1 : decide (c < 97) = false := decide_eq_false (by omega)
          have hd2 : decide (i < j) = false := decide_eq_false (by omega)
          have hd3 : (c != c) = false := by simp
          go_cut [70] (fun s70 wx => s70 = .bool false ∧ Below w.heap.size w wx)
          case first =>
            go_region_held3 (fun w' => Below w.heap.size w w') (exact HB.out.drew) (fail)
            all_goals (go_wp2_with fail; go_meet; exact ⟨rfl, by assumption⟩)
          case rest =>
            obtain ⟨rfl, hbc⟩ := hcut
            have HBC : Hid (Below w.heap.size w wc) := hbc
            clear hbc hd1 hd2 hd3 hcw hjw hx1 hx2 hc97 hji' HB
            obtain ⟨d, hd⟩ : ∃ d : Int, 97 + (i : Int) = d := ⟨_, rfl⟩
            have HDI : Hid (97 + (i : Int) = d) := hd
            have hdw : IntKind.u8.wrap d = d := by rw [IntKind.wrap_u8]; omega
            have hdI : IntKind.i64.wrap d = d := by rw [IntKind.wrap_i64]; omega
            have hd0 : 97 ≤ d := by omega
            have hd8 : d ≤ 104 := by omega
            have hcv := run_one_byte d hd0 hd8 wc
            have HWL : Hid (wl ((⟨#[UInt8.ofNat d.toNat]⟩ : ByteArray) ++ s) = d :: wl s) := wl_cons d hd0 hd8 s
            have HSZ : Hid (((⟨#[UInt8.ofNat d.toNat]⟩ : ByteArray) ++ s).size ≤ 9223372036854775806) := by
              show _ ≤ _
              have h5 : ((⟨#[UInt8.ofNat d.toNat]⟩ : ByteArray) ++ s).size = 1 + s.size := by simp [ByteArray.size_append]; rfl
              rw [h5]
              have := HS.out
              omega
            obtain ⟨B, hB⟩ : ∃ B : ByteArray, B = ⟨#[UInt8.ofNat d.toNat]⟩ := ⟨_, rfl⟩
            rw [← hB] at hcv HSZ HWL
            have hB1 : B.size = 1 := by rw [hB]; rfl
            have hs9 : s.size ≤ 140737488355327 := HS.out
            have HAL : Hid (Below w.heap.size w (wc.alloc (.cells #[.int .u8 d] 5))) := HBC.out.alloc HBC.out.size _
            clear hB
            go_wp2_with fail
            refine (rMember6_any (B ++ s) (HV.out.stay HAL.out) HL.out HSZ.out).mono ?_
            rintro e w4 ⟨a, rfl, _, a2, hb4⟩
            have HB4 : Hid (Below w.heap.size w w4) := go_on HAL.out hb4
            obtain ⟨f1, hf1⟩ : ∃ f, endsE ts (B ++ s) 0 = f := ⟨_, rfl⟩
            rw [hf1] at a2 ⊢
            have HA : Hid (f1 = 0 → (a = true ↔ Lg T (d :: wl s))) := fun h => by rw [a2 h T HOK.out.1 HOK.out.2, HWL.out]
            clear hb4 a2 hf1 hcv HAL
            have hEX := ext_one S i hiS hc0 hc8 (by rw [HAT.out i hlt hiS, hj]; have := HCJ.out; omega)
            have hsl := slice_i64 S i (by omega) w4
            rw [hEX] at hsl
            have HWC : Hid (wl ((⟨#[UInt8.ofNat c.toNat]⟩ : ByteArray) ++ s) = c :: wl s) := wl_cons c hc0 hc8 s
            have HSC : Hid (((⟨#[UInt8.ofNat c.toNat]⟩ : ByteArray) ++ s).size ≤ 9223372036854775806) := by
              show _ ≤ _
              have h5 : ((⟨#[UInt8.ofNat c.toNat]⟩ : ByteArray) ++ s).size = 1 + s.size := by simp [ByteArray.size_append]; rfl
              rw [h5]
              have := HS.out
              omega
            obtain ⟨C, hC⟩ : ∃ C : ByteArray, C = ⟨#[UInt8.ofNat c.toNat]⟩ := ⟨_, rfl⟩
            rw [← hC] at hsl HSC HWC
            have hC1 : C.size = 1 := by rw [hC]; rfl
            clear hC hEX
            go_wp2_with fail
            refine (rMember6_any (C ++ s) (HV.out.stay HB4.out) HL.out HSC.out).mono ?_
            rintro e w5 ⟨b, rfl, _, b2, hb5⟩
            have HB5 : Hid (Below w.heap.size w w5) := go_on HB4.out hb5
            obtain ⟨g1, hg1⟩ : ∃ g, endsE ts (C ++ s) 0 = g := ⟨_, rfl⟩
            rw [hg1] at b2 ⊢
            have hab : f1 = 0 → g1 = 0 → a = b := fun hf hg => by
              rw [Bool.eq_iff_iff, HA.out hf, b2 hg T HOK.out.1 HOK.out.2, HWC.out, ← HDI.out, ← HCJ.out]
              exact alike HOK.out.1 HJE.out.symm _
            clear hb5 b2 hg1 HA hsl
            by_cases cf : f1 = 0
            · by_cases cg : g1 = 0
              · have := hab cf cg
                subst this
                subst cf
                subst cg
                go_wp2_with fail
                go_roundw
                case rel => exact ⟨i + 1, by go_num, hlt, HB5.out⟩
                case measure => simp [intOf]; omega
              · have hgb : (g1 == 0) = false := by simpa using cg
                subst cf
                clear hab cg
                go_wp2_with fail
                go_roundw
                case rel => exact ⟨i + 1, by go_num, hlt, HB5.out⟩
                case measure => simp [intOf]; omega
            · have hfb : (f1 == 0) = false := by simpa using cf
              clear hab cf
              go_wp2_with fail
              go_roundw
              case rel => exact ⟨i + 1, by go_num, hlt, HB5.out⟩
              case measure => simp [intOf]; omega
        · have hltI : ¬ (i : Int) < kn := by omega
          go_wp2_with fail
          go_ret
          exact ⟨rfl, HB.out⟩

/-! ### The row's step -/
theorem own : ownKnob Tryz.prog.godebug = none := by kernel_rfl
def laid1 : List (String × DataW Unit) := [("math/bits.deBruijn64tab", Rows.laid_math_bits_deBruijn64tab), ("eggbox/tree.partsOf", Rows.laid_eggbox_tree_partsOf)]
def tabZ : List Int := [0, 0, 0, 0, 0, 2, 2, 2, 1, 1]
def tabT : List Int := Lib.deBruijn64tab.map fun (z : Nat) => (z : Int)
theorem gTab : Tryz.prog.globalNamed "eggbox/tree.partsOf" = some 0 := by kernel_rfl
theorem tTab : (Tryz.prog.globals[0]?).map (·.type) = some 136 := by kernel_rfl
theorem gTz : Tryz.prog.globalNamed "math/bits.deBruijn64tab" = some 1 := by kernel_rfl
theorem tTz : (Tryz.prog.globals[1]?).map (·.type) = some 183 := by kernel_rfl
theorem of_laid {W : World} (h : laidMetH Tryz.prog laid1 W) : PTab W ∧ TzTab W := by
  rw [MakeChecks.laidMetH_plain _ _ _ (by kernel_rfl)] at h
  have h1 : Lib.TabIs Tryz.prog W "math/bits.deBruijn64tab" .u8 tabT :=
    Lib.tabIs_of_head (rest := [("eggbox/tree.partsOf", Rows.laid_eggbox_tree_partsOf)]) gTz tTz Tryz.underlying183 Tryz.underlying5 (by kernel_rfl) (by kernel_rfl) h
  have h2 : Lib.TabIs Tryz.prog W "eggbox/tree.partsOf" .i64 tabZ :=
    Lib.tabIs_of_head (rest := []) gTab tTab Tryz.underlying136 Tryz.underlying3 (by kernel_rfl) (by kernel_rfl) h.tail
  refine ⟨fun j hj => ?_, fun j hj => ?_⟩
  · have := h2.cell gTab j hj
    rw [this]
    have hc : j = 0 ∨ j = 1 ∨ j = 2 ∨ j = 3 ∨ j = 4 ∨ j = 5 ∨ j = 6 ∨ j = 7 ∨ j = 8 ∨ j = 9 := by omega
    rcases hc with rfl | rfl | rfl | rfl | rfl | rfl | rfl | rfl | rfl | rfl <;> rfl
  · have := h1.cell gTz j hj
    rw [this]
    have e : tabT.getD j 0 = ((Lib.deBruijn64tab.getD j 0 : Nat) : Int) := by
      unfold tabT
      rw [List.getD_eq_getElem?_getD, List.getElem?_map, List.getD_eq_getElem?_getD]
      cases Lib.deBruijn64tab[j]? <;> rfl
    rw [e]
/-- The door's own heap meets the condition. -/
theorem door_met (os : Os) (args : Array Value) : laidMetH Tryz.prog laid1 ((World.doorLaid Tryz.prog 400 os).forCall (fun _ _ => 0) ⟨#[], args, []⟩).memory :=
  laidMetH_of_parts3 (fuel := 8) (laidMet_of_run' 8 (by kernel_rfl) (by kernel_rfl)) (by kernel_rfl) (by kernel_rfl)

set_option maxRecDepth 100000 in
theorem lifted (os : Os) (started : os.Started) (H : Type) (enc : TypeId × Value → H) :
    ReturnsInHanded {} Tryz.checked os 8 .any (fun w args => (Rows.derivLikeSpec.pre enc Tryz.prog Tryz.f8 [] false w args ∧ laidMetH Tryz.prog laid1 w) ∧ sizedMet enc Tryz.prog Tryz.f8 (OpenSpec.ofChange Rows.derivLikeSpec) false w args)
      (Rows.derivLikeSpec.post enc Tryz.prog Tryz.f8 false true false false) := by
  refine returnsInHanded_of_change_and (C := Tryz.checked) (X := fun w _ => laidMetH Tryz.prog laid1 w) (fun _ _ _ hh h => h.of_heap hh) own started (by kernel_rfl) Tryz.func8
    (ChangeSpec.witness_shaped (enc := enc) (C := Tryz.checked) (os := os) (X := fun w _ => laidMetH Tryz.prog laid1 w) false (World.doorLaid Tryz.prog 400 os) #[.int .i64 0, .slice none 0 0, .string ByteArray.empty] 8 rfl (World.shaped_of_RefB (by kernel_rfl) (by kernel_rfl)) (by kernel_rfl) (by kernel_rfl) (by kernel_rfl) (door_met os _)) ?_
  intro W base args ds gs before hval0 hW _ hsz0 hL _
  have hval : ∀ (j : Nat) t v, Tryz.f8.params[j]? = some t → args[j]? = some v → Value.okWide Tryz.prog W .any base t v := hval0
  have hW' := hW
  obtain ⟨p, q, hA0, hV, rfl, hfz, hnd⟩ := hW
  have hA : DataW.TrodAll enc Tryz.prog W 0 (fun _ => true) true Tryz.f8.params.toList args.toList ds p := hA0
  have hsz : (DataW.weightsEach Tryz.prog (Tryz.f8.params.toList ++ Rows.derivLikeSpec.plain.varTypes Tryz.prog) (ds ++ gs)).all (· ≤ reachBytes) = true := hsz0
  rw [Tryz.params8] at hA hval hsz
  obtain ⟨v0, vs0, d0, ds0, p0, q0, hargs, rfl, rfl, h0, r0⟩ := trodAll_cons hA
  obtain ⟨v1, vs1, d1, ds1, p1, q1, rfl, rfl, rfl, h1, r1⟩ := trodAll_cons r0
  obtain ⟨v2, vs2, d2, ds2, p2, q2, rfl, rfl, rfl, h2, r2⟩ := trodAll_cons r1
  obtain ⟨rfl, rfl, rfl⟩ := trodAll_nil r2
  obtain rfl : args = #[v0, v1, v2] := by cases args; simp_all
  obtain ⟨rfl, rfl⟩ := trodVars_none hV
  obtain ⟨a0, rfl, rfl, rfl, w0⟩ := open_int Tryz.underlying3 (hval 0 3 v0 rfl rfl) h0
  obtain ⟨a1, w1, x1, y1⟩ := open_nodes (hval 1 22 v1 rfl rfl) h1
  have s1 : (a1.length + 2) * 16 ≤ 140737488355328 := by
    rcases y1 with ⟨_, rfl⟩ | ⟨e, s, rfl, hy⟩
    · decide
    · have := sized_slice hsz (j := 1) (t := 22) rfl rfl Tryz.underlying22
      rw [Tryz.bytes_node] at this
      simp only [reachBytes] at this
      omega
  have z1 : a1.length ≤ 9223372036854775806 := by omega
  have g1 : ∀ x ∈ p1, x.block < W.heap.size := fun x hx => hW'.lt x (by simp [hx])
  obtain ⟨a2, rfl, rfl, rfl, w2⟩ := open_string Tryz.underlying9 (hval 2 9 v2 rfl rfl) h2
  have u2 : a2.size ≤ 140737488355327 := by
    have := sized_string hsz (j := 2) (t := 9) rfl rfl
    have e : a2.data.toList.length = a2.size := rfl
    simp only [reachBytes] at this
    omega
  have hTz := of_laid hL
  clear hA0 hval0
  refine (walk a0 v1 a1 a2 W w0 w1 x1.1 s1 u2 hTz.1 hTz.2).mono fun e W' ⟨he, bel⟩ => ?_
  subst he
  exact ⟨_, rfl, _, _, _, [], _, [], hW', trodAll_mk1 (shut_bool Tryz.underlying4 _), (trodAll_cons_mk (shut_int Tryz.underlying3 w0) (trodAll_cons_mk (Below.trod Tryz.laidOut (by kernel_rfl) (of_decide_eq_true (by kernel_rfl)) h1 bel g1) (trodAll_cons_mk (shut_string Tryz.underlying9 w2) trodAll_mk0))), rfl, bel.frame _, fun h => by cases h⟩

theorem over : Rows.DerivLikeSaid :=
  OpenClaim.holds_of_wide 8 Tryz.f8 rfl rfl rfl rfl rfl rfl rfl ⟨rfl, rfl, rfl, rfl, rfl⟩ rfl rfl rfl rfl rfl (by kernel_rfl) Tryz.func8 (by kernel_rfl)
    (of_decide_eq_true (by kernel_rfl)) (by unfold Func.isWrapper; first | (rw [if_pos (by decide +kernel)]; kernel_rfl) | (rw [if_neg (by decide +kernel)]; exact ⟨rfl, rfl⟩))
    (fun os started H enc _ => lifted os started H enc)

theorem card : Rows.DerivLikeCardSaid :=
  Claim7.holds_tied_plain_at .later [] [.data, .data] true (true, "f1ddeb86a404e66433fc3edcced06eb03424df9f8f2b565ab381a835c8e8444c") false
    over (fun _ h => by cases h) (by kernel_rfl) (fun _ h => by cases h) derivLike_row_tie rfl ⟨rfl, rfl⟩ (by kernel_rfl) rfl
    (fun f fn hf hfn => by
      obtain rfl : f = 8 := Option.some.inj ((show Tryz.prog.funcNamed "eggbox/eggboxlaw07.DerivLike" = some 8 by kernel_rfl).symm.trans hf) |>.symm
      obtain rfl : fn = Tryz.f8 := (Option.some.inj (Tryz.func8.symm.trans hfn)).symm
      exact ⟨by kernel_rfl, fun j t ht => by
        rw [Tryz.params8] at ht
        have hm : t ∈ [3, 22, 9] := by simpa using Array.mem_of_getElem? ht
        have hall : ([3, 22, 9].all fun u => !Tryz.prog.wantsStandIn u) = true := by kernel_rfl
        exact (show Tryz.prog.wantsStandIn t = false by simpa using List.all_eq_true.1 hall t hm)⟩)
    (by kernel_rfl)

end Go.Proofs.YtdgpajdlomihaaaGreatDoor.derivLike
namespace Go.Proofs.YtdgpajdlomihaaaGreatDoor
/-- The given statement. -/
theorem derivLike_holds : Rows.DerivLikeCardSaid := derivLike.card
end Go.Proofs.YtdgpajdlomihaaaGreatDoor
