/- Contracts of the document's place and search, whatever start, step and good tell. -/
import Derived.Test.YtbfoamidnekoaabQc
import Derived.Test.YtbfoamidnekoaabJp
namespace Go.Proofs.Ytbfoamidnekoaab
open Go Go.RowKit Go.Lib Go.Maps
set_option linter.unusedVariables false

theorem Try.info_string : (Try.prog.info? 9).map (fun i => (i.zero, i.size, i.bytes)) = some (some (.string ByteArray.empty), 1, 16) := by kernel_rfl
theorem bytes_ne {x y : ByteArray} (h : ¬ x = y) : (x.toList == y.toList) = false := by
  rw [ByteArray.toList_eq, ByteArray.toList_eq]
  rw [beq_eq_false_iff_ne]
  intro e
  apply h
  apply ByteArray.ext
  exact Array.toList_inj.1 e

set_option maxHeartbeats 1000000 in
set_option maxRecDepth 100000 in
theorem place_any {S : Type} [DecidableEq S] (en : S → ByteArray) (ok : S → Prop) (hinj : ∀ a b, ok a → ok b → en a = en b → a = b) (a : Option Addr) (cap : Nat) (m : List S) (t : S) (w : World) (h : SR w a (tC en m)) (hm : ∀ s ∈ m, ok s) (ht : ok t) (hl : m.length ≤ 4096) :
    Calls Try.prog 53 #[.slice a m.length cap, .string (en t)] w fun e w' => e = .returned (.int .i64 (m.idxOf t : Nat)) ∧ w' = w := by
  have H : Hid (SR w a (tC en m)) := h
  have HI : Hid (∀ s ∈ m, (en s = en t ↔ s = t)) := fun s hs => ⟨hinj s t (hm s hs) ht, fun e => by rw [e]⟩
  clear h hinj hm ht
  go_enter Try.func53, Try.ntmps53
  go_wp2_with fail
  go_loopw [5] (fun vi wr => ∃ i : Nat, vi = .int .i64 i ∧ i ≤ m.length ∧ (∀ j, j < i → m[j]? ≠ some t) ∧ wr = w) (fun vi _ => m.length - (intOf vi).toNat)
  case atStart => exact ⟨0, rfl, Nat.zero_le _, fun j hj => by omega, rfl⟩
  case round =>
    obtain ⟨i, rfl, hi, hall, rfl⟩ := hrel
    have HA : Hid (∀ j, j < i → m[j]? ≠ some t) := hall
    clear hall
    by_cases hlt : i < m.length
    · have hiI : (i : Int) < m.length := by omega
      obtain ⟨s, hs⟩ : ∃ s, m[i]? = some s := ⟨_, List.getElem?_eq_getElem hlt⟩
      obtain ⟨g, o, rfl, hg, hc⟩ := H.out i (.string (en s)) (by simp [tC, hs])
      have HS : Hid (m[i]? = some s) := hs
      have hiff := HI.out s (List.mem_of_getElem? hs)
      clear hs
      by_cases e : en s = en t
      · have hst := hiff.1 e
        have HE : Hid (m.idxOf t = i) := by
          show _ = _
          rw [hst] at HS
          have hmem := List.mem_of_getElem? HS.out
          have h1 := List.idxOf_lt_length_of_mem hmem
          have h2 := idxOf_get hmem
          by_cases c : m.idxOf t < i
          · exact absurd h2 (HA.out _ c)
          · by_cases c2 : i < m.idxOf t
            · have h3 := List.not_of_lt_findIdx (p := (· == t)) (xs := m) (i := i) c2
              have h4 := HS.out
              rw [List.getElem?_eq_getElem hlt, Option.some.injEq] at h4
              rw [h4] at h3
              simp at h3
            · omega
        rw [e] at hc
        clear hiff e hst HS
        go_wp2_with fail
        go_ret
        exact ⟨ret_int (by rw [HE.out]), rfl⟩
      · have hne : s ≠ t := fun e2 => e (hiff.2 e2)
        have HN : Hid (m[i]? ≠ some t) := fun e2 => by rw [HS.out] at e2; exact hne (Option.some.inj e2)
        obtain ⟨x, hx⟩ : ∃ x, en s = x := ⟨_, rfl⟩
        obtain ⟨y, hy⟩ : ∃ y, en t = y := ⟨_, rfl⟩
        rw [hx] at hc e
        rw [hy] at e
        rw [hy]
        have hbe : (x.toList == y.toList) = false := bytes_ne e
        clear hiff hne hx hy
        go_wp2_with fail
        go_roundw
        case rel =>
          refine ⟨i + 1, by go_num, by omega, fun j hj => ?_, trivial⟩
          by_cases e2 : j = i
          · rw [e2]; exact HN.out
          · exact HA.out j (by omega)
        case measure => simp [intOf]; omega
    · have hiI : ¬ (i : Int) < m.length := by omega
      have hdi : decide ((i : Int) < m.length) = false := decide_eq_false hiI
      have HE : Hid (m.idxOf t = i) := by
        show _ = _
        have hnm : t ∉ m := fun hm => by
          obtain ⟨j, hj, e⟩ := List.mem_iff_getElem.1 hm
          exact HA.out j (by omega) (by rw [List.getElem?_eq_getElem hj, e])
        rw [List.idxOf_eq_length hnm]
        omega
      go_wp2_with fail
      go_ret
      exact ⟨ret_int (by rw [HE.out]), rfl⟩

/-- The space, its first two cells known. -/
abbrev spV (kind : Int) (K : Nat) (x2 x3 x4 x5 x6 : Value) : Array Value := #[.int .i64 kind, .int .i64 K, x2, x3, x4, x5, x6]

set_option maxHeartbeats 8000000 in
set_option maxRecDepth 100000 in
theorem rsearch_any {S : Type} [DecidableEq S] (w : World) (kind how : Int) (K : Nat) (x2 x3 x4 x5 x6 : Value) (hk : 1 ≤ K ∧ K ≤ 8) (en : S → ByteArray) (ok : S → Prop) (d : S → Nat → S) (x : S) (acc : S → Bool)
    (hinj : ∀ a b, ok a → ok b → en a = en b → a = b) (hokx : ok x) (hokd : ∀ s c, ok s → c < K → ok (d s c))
    (hS : ∀ w1, Below w.heap.size w w1 → Calls Try.prog 51 #[.agg #[.int .i64 kind, .int .i64 K, x2, x3, x4, x5, x6]] w1 fun e w2 => e = .returned (.string (en x)) ∧ Below w1.heap.size w1 w2)
    (hT : ∀ w1 s c, Below w.heap.size w w1 → ok s → c < K → Calls Try.prog 52 #[.agg #[.int .i64 kind, .int .i64 K, x2, x3, x4, x5, x6], .string (en s), .int .i64 (c : Nat)] w1 fun e w2 => e = .returned (.string (en (d s c))) ∧ Below w1.heap.size w1 w2)
    (hG : ∀ w1 s, Below w.heap.size w w1 → ok s → Calls Try.prog 54 #[.agg #[.int .i64 kind, .int .i64 K, x2, x3, x4, x5, x6], .string (en s), .int .i64 how] w1 fun e w2 => e = .returned (.bool (acc s)) ∧ Below w1.heap.size w1 w2) :
    Calls Try.prog 43 #[.agg #[.int .i64 kind, .int .i64 K, x2, x3, x4, x5, x6], .int .i64 how] w (SQ (bfs d K x) K acc w) := by
  have HS : Hid (∀ w1, Below w.heap.size w w1 → Calls Try.prog 51 #[.agg #[.int .i64 kind, .int .i64 K, x2, x3, x4, x5, x6]] w1 fun e w2 => e = .returned (.string (en x)) ∧ Below w1.heap.size w1 w2) := hS
  have HTT : Hid (∀ w1 s c, Below w.heap.size w w1 → ok s → c < K → Calls Try.prog 52 #[.agg #[.int .i64 kind, .int .i64 K, x2, x3, x4, x5, x6], .string (en s), .int .i64 (c : Nat)] w1 fun e w2 => e = .returned (.string (en (d s c))) ∧ Below w1.heap.size w1 w2) := hT
  have HG : Hid (∀ w1 s, Below w.heap.size w w1 → ok s → Calls Try.prog 54 #[.agg #[.int .i64 kind, .int .i64 K, x2, x3, x4, x5, x6], .string (en s), .int .i64 how] w1 fun e w2 => e = .returned (.bool (acc s)) ∧ Below w1.heap.size w1 w2) := hG
  have HPL : Hid (∀ (a : Option Addr) (cap : Nat) (m : List S) (t : S) (y : World), SR y a (tC en m) → (∀ s ∈ m, ok s) → ok t → m.length ≤ 4096 → Calls Try.prog 53 #[.slice a m.length cap, .string (en t)] y fun e w' => e = .returned (.int .i64 (m.idxOf t : Nat)) ∧ w' = y) := fun a cap m t y h1 h2 h3 h4 => place_any en ok hinj a cap m t y h1 h2 h3 h4
  have HOKX : Hid (ok x) := hokx
  have HOKD : Hid (∀ s c, ok s → c < K → ok (d s c)) := hokd
  obtain ⟨i0, hi, hz0, hz1, hz2⟩ := info_parts Try.info_int
  obtain ⟨i1, hj, hq0, hq1, hq2⟩ := info_parts Try.info_bool
  obtain ⟨i2, hs, hs0, hs1, hs2⟩ := info_parts Try.info_string
  obtain ⟨hk1, hk8⟩ := hk
  have hK7 : (K : Int) ≤ 8 := by omega
  obtain ⟨W, hW⟩ : ∃ W, W = (w.alloc (.cells #[.int .i64 kind, .int .i64 K, x2, x3, x4, x5, x6] 64)).alloc (.cells #[.int .i64 0, .slice none 0 0, .slice none 0 0] 25) := ⟨_, rfl⟩
  have HRX : Hid (RowAt W w.heap.size #[.int .i64 kind, .int .i64 K, x2, x3, x4, x5, x6]) := by
    show RowAt W w.heap.size _
    rw [hW]
    exact (RowAt.last _ _ _).alloc _
  have HB2 : Hid (Below w.heap.size w W) := by
    show Below w.heap.size w W
    rw [hW]
    exact go_on (below_new _ _) (below_new _ _)
  have HRES : Hid (W.heap[w.heap.size + 1]? = some (.cells #[.int .i64 0, .slice none 0 0, .slice none 0 0] 25 (0, 0))) := by
    show W.heap[w.heap.size + 1]? = _
    rw [hW]
    have := heap_alloc_last (w.alloc (.cells #[.int .i64 kind, .int .i64 K, x2, x3, x4, x5, x6] 64)) (.cells #[.int .i64 0, .slice none 0 0, .slice none 0 0] 25)
    simpa using this
  have HWE : Hid (W = (w.alloc (.cells #[.int .i64 kind, .int .i64 K, x2, x3, x4, x5, x6] 64)).alloc (.cells #[.int .i64 0, .slice none 0 0, .slice none 0 0] 25)) := hW
  clear hinj hS hT hG hokx hokd hW
  go_enter Try.func43, Try.ntmps43
  go_wp2_with fail
  rw [← HWE.out]
  refine (HS.out _ HB2.out).mono ?_
  rintro e w1 ⟨rfl, hb1⟩
  have cs1 := (HRX.out.stay hb1).cell
  have cs1a : ∀ O o, (w1.alloc O).cell? ⟨w.heap.size, o, none⟩ = (#[.int .i64 kind, .int .i64 K, x2, x3, x4, x5, x6] : Array Value)[o]? := fun O => ((HRX.out.stay hb1).alloc O).cell
  have HB1 : Hid (Below W.heap.size W w1) := hb1
  clear hb1
  go_wp2_with fail
  have hO0 : OD w #[.int .i64 kind, .int .i64 K, x2, x3, x4, x5, x6] (w.heap.size + 1) (w1.heap.size + 1) en ok d K x acc 0 0 [x] [] (.slice (some ⟨w1.heap.size, 0, none⟩) 1 1) (.slice none 0 0) (.slice none 0 0) 32768 ((w1.alloc (.cells #[.string (en x)] 9)).alloc (.cells #[.int .i64 K, .slice none 0 0, .slice none 0 0] 25)) := by
    have hsz := HB1.out.size
    have hlW : w.heap.size + 1 < W.heap.size := (Array.getElem?_eq_some_iff.1 HRES.out).1
    have k : ∀ b O, W.heap[b]? = some O → ((w1.alloc (.cells #[.string (en x)] 9)).alloc (.cells #[.int .i64 K, .slice none 0 0, .slice none 0 0] 25)).heap[b]? = some O := fun b O hb => by
      have hlt := (Array.getElem?_eq_some_iff.1 hb).1
      rw [(below_new _ _).block _ (by simp; omega), (below_new _ _).block _ (by omega), HB1.out.block _ hlt]
      exact hb
    have hbw : W.heap[w.heap.size]? = some (.cells #[.int .i64 kind, .int .i64 K, x2, x3, x4, x5, x6] 64 (0, 0)) := by
      rw [HWE.out, (below_new _ _).block _ (by simp)]
      exact heap_alloc_last _ _
    refine ⟨⟨k _ _ hbw, k _ _ HRES.out, ?_, ?_, World.ownsRow_nil _ _ _ _, World.ownsRow_nil _ _ _ _, by simp, ?_, by omega, by omega, by omega⟩, BI.start d K x, rfl, rfl, by simp, by simpa using HOKX.out⟩
    · have := heap_alloc_last (w1.alloc (.cells #[.string (en x)] 9)) (.cells #[.int .i64 K, .slice none 0 0, .slice none 0 0] 25)
      simpa using this
    · refine ⟨rfl, .inr ⟨w1.heap.size, 1, #[.string (en x)], rfl, by omega, ?_, Nat.le_refl _, by unfold maxLen; omega, rfl, rfl⟩⟩
      rw [(below_new _ _).block _ (by simp)]
      exact heap_alloc_last _ _
    · exact go_on (go_on (go_on HB2.out HB1.out) (below_new _ _)) (below_new _ _)
  have HO : Hid (OD w #[.int .i64 kind, .int .i64 K, x2, x3, x4, x5, x6] (w.heap.size + 1) (w1.heap.size + 1) en ok d K x acc 0 0 [x] [] (.slice (some ⟨w1.heap.size, 0, none⟩) 1 1) (.slice none 0 0) (.slice none 0 0) 32768 ((w1.alloc (.cells #[.string (en x)] 9)).alloc (.cells #[.int .i64 K, .slice none 0 0, .slice none 0 0] 25))) := hO0
  clear hO0 cs1 cs1a HRX HRES HWE
  go_loopw [6, 8] (fun vm vi wr => ∃ (i : Nat) (m : List S) (n : List Nat) (vn va : Value) (f : Nat), vi = .int .i64 i ∧ OD w #[.int .i64 kind, .int .i64 K, x2, x3, x4, x5, x6] (w.heap.size + 1) (w1.heap.size + 1) en ok d K x acc i 0 m n vm vn va f wr) (fun _ vi _ => 4097 - (intOf vi).toNat)
  case atStart => exact ⟨0, _, _, _, _, _, rfl, HO.out⟩
  case round =>
    clear HO
    obtain ⟨i, m, n, vn, va, f, rfl, hO⟩ := hrel
    obtain ⟨ma, mc, rfl⟩ := own_shape hO.sd.met
    have HO : Hid (OD w #[.int .i64 kind, .int .i64 K, x2, x3, x4, x5, x6] (w.heap.size + 1) (w1.heap.size + 1) en ok d K x acc i 0 m n (.slice ma m.length mc) vn va f wr) := hO
    have him := hO.sd.il
    have hml := hO.bi.most
    clear hO
    by_cases hlt : i < m.length
    · have hiI : (i : Int) < m.length := by omega
      go_wp2_with fail
      go_loopw [6, 9] (fun vm vc wr => ∃ (c : Nat) (m : List S) (n : List Nat) (vn va : Value) (f : Nat), vc = .int .i64 c ∧ c ≤ K ∧ i < m.length ∧ OD w #[.int .i64 kind, .int .i64 K, x2, x3, x4, x5, x6] (w.heap.size + 1) (w1.heap.size + 1) en ok d K x acc i c m n vm vn va f wr) (fun _ vc _ => K - (intOf vc).toNat)
      case atStart => exact ⟨0, m, n, vn, va, f, rfl, Nat.zero_le _, hlt, HO.out⟩
      case round =>
        obtain ⟨c, m2, n2, vn2, va2, f2, rfl, hcK, hi2, hO⟩ := hrel
        obtain ⟨ma2, mc2, rfl⟩ := own_shape hO.sd.met
        have HO2 : Hid (OD w #[.int .i64 kind, .int .i64 K, x2, x3, x4, x5, x6] (w.heap.size + 1) (w1.heap.size + 1) en ok d K x acc i c m2 n2 (.slice ma2 m2.length mc2) vn2 va2 f2 wr) := hO
        have hml2 := hO.bi.most
        have hs := List.getElem?_eq_getElem hi2
        obtain ⟨s, hsE⟩ : ∃ s, m2[i] = s := ⟨_, rfl⟩
        rw [hsE] at hs
        have HSI : Hid (m2[i]? = some s) := hs
        have HOKS : Hid (ok s) := hO.oks s (List.mem_of_getElem? hs)
        obtain ⟨g, o, rfl, hg, hcell⟩ := own_sr hO.sd.met i (.string (en s)) (by simp [tC, hs])
        have hi2I : (i : Int) < m2.length := by omega
        have HBW : Hid (Below w.heap.size w wr) := hO.sd.below
        have csb : ∀ o, wr.cell? ⟨w.heap.size, o, none⟩ = (#[.int .i64 kind, .int .i64 K, x2, x3, x4, x5, x6] : Array Value)[o]? := fun o => cell_of hO.sd.bx
        have hwlt : w.heap.size < wr.heap.size := (Array.getElem?_eq_some_iff.1 hO.sd.bx).1
        have RB : RowAt wr w.heap.size #[.int .i64 kind, .int .i64 K, x2, x3, x4, x5, x6] := ⟨hwlt, csb⟩
        obtain ⟨es, hes⟩ : ∃ es, en s = es := ⟨_, rfl⟩
        rw [hes] at hcell
        have HES : Hid (en s = es) := hes
        have kk : ∀ y1 y2, Below y1.heap.size y1 y2 → (SB wr w.heap.size #[.int .i64 kind, .int .i64 K, x2, x3, x4, x5, x6] y1 ∧ y1.cell? ⟨g, o + i, none⟩ = some (.string es)) → (SB wr w.heap.size #[.int .i64 kind, .int .i64 K, x2, x3, x4, x5, x6] y2 ∧ y2.cell? ⟨g, o + i, none⟩ = some (.string es)) :=
          fun y1 y2 hy h => ⟨sb_step RB hy h.1, by rw [below_cell hy (Nat.lt_of_lt_of_le hg h.1.2.size)]; exact h.2⟩
        have KK : Hid _ := kk
        have S0 : SB wr w.heap.size #[.int .i64 kind, .int .i64 K, x2, x3, x4, x5, x6] wr.drew ∧ wr.drew.cell? ⟨g, o + i, none⟩ = some (.string es) := ⟨sb_of RB (Below.refl _ _).drew, hcell⟩
        clear hO hs hsE kk hes
        by_cases hc : c < K
        · have hcI : (c : Int) < K := by omega
          obtain ⟨t, ht⟩ : ∃ t, d s c = t := ⟨_, rfl⟩
          have HT : Hid (d s c = t) := ht
          have hokt : ok t := ht ▸ HOKD.out s c HOKS.out hc
          have HST : Hid (∀ y, Below w.heap.size w y → Calls Try.prog 52 #[.agg #[.int .i64 kind, .int .i64 K, x2, x3, x4, x5, x6], .string es, .int .i64 (c : Int)] y fun e w2 => e = .returned (.string (en t)) ∧ Below y.heap.size y w2) := fun y hy => by
            have := HTT.out y s c hy HOKS.out hc
            rw [HES.out, HT.out] at this
            exact this
          clear ht
          go_wp2_with fail
          go_region_held3 (fun y => SB wr w.heap.size #[.int .i64 kind, .int .i64 K, x2, x3, x4, x5, x6] y ∧ y.cell? ⟨g, o + i, none⟩ = some (.string es)) (first | exact S0 | assumption | exact KK.out _ _ (by assumption) (by assumption)) (first
            | (go_at_call 52; refine (HST.out _ (go_on HBW.out (And.right (And.left (by assumption))))).mono ?_; rintro e y2 ⟨rfl, hy2⟩))
          all_goals (
            have hS : SB wr w.heap.size #[.int .i64 kind, .int .i64 K, x2, x3, x4, x5, x6] y2 ∧ y2.cell? ⟨g, o + i, none⟩ = some (.string es) := by first | assumption | exact KK.out _ _ (by assumption) (by assumption)
            have HO3 : Hid (OD w #[.int .i64 kind, .int .i64 K, x2, x3, x4, x5, x6] (w.heap.size + 1) (w1.heap.size + 1) en ok d K x acc i c m2 n2 (.slice (some ⟨g, o, none⟩) m2.length mc2) vn2 va2 f2 y2) := HO2.out.call hS.1.2
            have csb2 : ∀ o, y2.cell? ⟨w.heap.size, o, none⟩ = (#[.int .i64 kind, .int .i64 K, x2, x3, x4, x5, x6] : Array Value)[o]? := fun o => cell_of HO3.out.sd.bx
            obtain ⟨na, nc2, rfl⟩ := own_shape HO3.out.sd.nxt
            have ho1 : y2.cell? ⟨w1.heap.size + 1, 1, none⟩ = some (.slice na n2.length nc2) := cell_of HO3.out.sd.out
            have hnl : n2.length ≤ 32768 := by have := HO3.out.fu; omega
            have HPC : Hid (Calls Try.prog 53 #[.slice (some ⟨g, o, none⟩) m2.length mc2, .string (en t)] y2 fun e w' => e = .returned (.int .i64 (m2.idxOf t : Nat)) ∧ w' = y2) := HPL.out _ _ m2 t y2 (own_sr HO3.out.sd.met) HO3.out.oks hokt hml2
            clear hS S0 HO2 HBW hcell csb
            go_wp2_with fail
            refine HPC.out.mono ?_
            rintro e w3 ⟨rfl, rfl⟩
            clear HPC
            by_cases hin : t ∈ m2
            · obtain ⟨p, hp⟩ : ∃ p, m2.idxOf t = p := ⟨_, rfl⟩
              have hpl : p < m2.length := by rw [← hp]; exact List.idxOf_lt_length_of_mem hin
              have hpI : ¬ (p : Int) = m2.length := by omega
              rw [hp]
              have HP : Hid (m2.idxOf t = p) := hp
              have HIN : Hid (t ∈ m2) := hin
              clear hp hin
              go_wp2_with (at_builtin; refine wpList_append_own _ rfl _ _ 22 rfl w.heap.size 3 i0 (.int .i64 0) 1 8 Try.underlying22 hi hz0 hz1 hz2 rfl (by decide) _ _ _ rfl (HO3.out.sd.nxt.alloc _) ⟨w3.heap.size, 0, none⟩ 1 1 [.int .i64 (p : Int)] rfl rfl (cell_one_new _ _ _) (by intro u hu; simp at hu; subst hu; rfl) (by unfold maxLen; omega) (by omega) (by have := HO3.out.sd.below.size; simp; omega) ?_; intro v' w4 hown' hgrow _; obtain ⟨va', vc', rfl⟩ := own_shape hown'; have hout4 := HO3.out.sd.outN HO3.out.sd.nxt (by decide) hgrow; have hcs : w4.cell? ⟨w1.heap.size + 1, 1, none⟩ = some (.slice na n2.length nc2) := cell_of hout4; have hfz : w4.frozen? ⟨w1.heap.size + 1, 1, none⟩ = false := froz_of hout4; obtain ⟨f', hO5⟩ := HO3.out.old hc hk8 HSI.out (by rw [HT.out]; exact HIN.out) hgrow (by rw [HT.out, HP.out]; exact hown'); rw [HT.out, HP.out] at hO5; have HO5 : Hid _ := hO5; clear hO5 hown' hgrow hout4 ho1)
              go_roundw
              case rel => exact ⟨c + 1, m2, n2 ++ [p], _, va2, f', by go_num, by omega, hi2, HO5.out⟩
              case measure => simp [intOf]; omega
            · have hp : m2.idxOf t = m2.length := List.idxOf_eq_length hin
              rw [hp]
              have HIN : Hid (¬ t ∈ m2) := hin
              clear hp hin
              by_cases h4 : m2.length = 4096
              · have HR : Hid (bfs d K x = none) := by
                  show _ = _
                  obtain ⟨f', hf'⟩ := HO3.out.fuel hc hk8 hi2
                  rw [← HO3.out.go, hf', bgo_full hc HO3.out.nl HSI.out (by rw [HT.out]; exact HIN.out) h4]
                have h4I : (m2.length : Int) = 4096 := by omega
                have hr0 : w3.cell? ⟨w.heap.size + 1, 0, none⟩ = some (.int .i64 0) := cell_of HO3.out.sd.res
                have hr1 : w3.cell? ⟨w.heap.size + 1, 1, none⟩ = some (.slice none 0 0) := cell_of HO3.out.sd.res
                have hr2 : w3.cell? ⟨w.heap.size + 1, 2, none⟩ = some (.slice none 0 0) := cell_of HO3.out.sd.res
                have hf : ∀ j, w3.frozen? ⟨w.heap.size + 1, j, none⟩ = false := fun j => froz_of HO3.out.sd.res
                clear h4
                go_wp2_with fail
                have e1 : (((w3.setCell ⟨w.heap.size + 1, 0, none⟩ (.int .i64 0)).setCell ⟨w.heap.size + 1, 1, none⟩ (.slice none 0 0)).setCell ⟨w.heap.size + 1, 2, none⟩ (.slice none 0 0)).heap[w.heap.size + 1]? = some (.cells #[.int .i64 0, .slice none 0 0, .slice none 0 0] 25 (0, 0)) := heap_set (heap_set (heap_set HO3.out.sd.res))
                refine bodyPost_ret (results_auto rfl rfl e1 rfl) rfl (.inl ⟨HR.out, rfl, ?_⟩)
                exact ((HO3.out.sd.below.setCell (p := ⟨w.heap.size + 1, 0, none⟩) (by simp) _).setCell (p := ⟨w.heap.size + 1, 1, none⟩) (by simp) _).setCell (p := ⟨w.heap.size + 1, 2, none⟩) (by simp) _
              · have h4I : ¬ (m2.length : Int) = 4096 := by omega
                have HSD : Hid (SD w #[.int .i64 kind, .int .i64 K, x2, x3, x4, x5, x6] (w.heap.size + 1) (w1.heap.size + 1) en K acc m2 n2 i (.slice (some ⟨g, o, none⟩) m2.length mc2) (.slice na n2.length nc2) va2 w3) := HO3.out.sd
                go_wp2_with (first
                  | (at_builtin; refine wpList_append_own _ rfl _ _ 78 rfl w.heap.size 9 i2 (.string ByteArray.empty) 1 16 Try.underlying78 hs hs0 hs1 hs2 rfl (by decide) _ _ _ rfl (HSD.out.met.alloc _) ⟨w3.heap.size, 0, none⟩ 1 1 [.string (en t)] rfl rfl (cell_one_new _ _ _) (by intro u hu; simp at hu; subst hu; rfl) (by unfold maxLen; omega) (by omega) (by have := HSD.out.below.size; simp; omega) ?_; intro v6 w6 ho6 hg6 _; obtain ⟨va6, vc6, rfl⟩ := own_shape ho6; have HSD6 : Hid (SD w #[.int .i64 kind, .int .i64 K, x2, x3, x4, x5, x6] (w.heap.size + 1) (w1.heap.size + 1) en K acc (m2 ++ [t]) n2 i (.slice va6 (m2.length + 1) vc6) (.slice na n2.length nc2) va2 w6) := HSD.out.metd hg6 ho6; have HO6 : Hid (w6.ownsRow w.heap.size 9 1 (.slice va6 (m2.length + 1) vc6) (m2.length + 1) (tC en m2 ++ [.string (en t)])) := ho6; have HG6 : Hid ((w3.alloc (.cells #[.string (en t)] 9)).grownBy w6 (Value.slice (some ⟨g, o, none⟩) m2.length mc2).ownBlock) := hg6; have hq1 : w6.cell? ⟨w1.heap.size + 1, 1, none⟩ = some (.slice na n2.length nc2) := cell_of HSD6.out.out; clear ho6 hg6 ho1)
                  | (at_builtin; refine wpList_append_own _ rfl _ _ 22 rfl w.heap.size 3 i0 (.int .i64 0) 1 8 Try.underlying22 hi hz0 hz1 hz2 rfl (by decide) _ _ _ rfl (HSD6.out.nxt.alloc _) ⟨w6.heap.size, 0, none⟩ 1 1 [.int .i64 (m2.length : Int)] rfl rfl (cell_one_new _ _ _) (by intro u hu; simp at hu; subst hu; rfl) (by unfold maxLen; omega) (by omega) (by have := HSD6.out.below.size; simp; omega) ?_; intro v7 w7 ho7 hg7 _; obtain ⟨va7, vc7, rfl⟩ := own_shape ho7; have hout7 := HSD6.out.outN HSD6.out.nxt (by decide) hg7; have hcs : w7.cell? ⟨w1.heap.size + 1, 1, none⟩ = some (.slice na n2.length nc2) := cell_of hout7; have hfz : w7.frozen? ⟨w1.heap.size + 1, 1, none⟩ = false := froz_of hout7; obtain ⟨f', hO8⟩ := HO3.out.new (s := s) hc hk8 (by rw [HT.out]; exact hokt) HSI.out (by rw [HT.out]; exact HIN.out) h4 HG6.out (by rw [HT.out]; exact HO6.out) hg7 ho7; rw [HT.out] at hO8; have HO8 : Hid _ := hO8; clear hO8 ho7 hg7 hout7 hq1))
                go_roundw
                case rel => exact ⟨c + 1, m2 ++ [t], n2 ++ [m2.length], _, va2, f', by go_num, by omega, by simp; omega, HO8.out⟩
                case measure => simp [intOf]; omega)
        · have hcI : ¬ (c : Int) < K := by omega
          obtain rfl : c = K := by omega
          obtain ⟨aa, ac2, rfl⟩ := own_shape HO2.out.sd.acp
          have HGD : Hid (∀ y, Below w.heap.size w y → Calls Try.prog 54 #[.agg #[.int .i64 kind, .int .i64 c, x2, x3, x4, x5, x6], .string es, .int .i64 how] y fun e w2 => e = .returned (.bool (acc s)) ∧ Below y.heap.size y w2) := fun y hy => by
            have := HG.out y s hy HOKS.out
            rw [HES.out] at this
            exact this
          obtain ⟨b, hb⟩ : ∃ b, acc s = b := ⟨_, rfl⟩
          rw [hb] at HGD
          have HACC : Hid (acc s = b) := hb
          clear hb
          go_wp2_with fail
          go_region_held3 (fun y => SB wr w.heap.size #[.int .i64 kind, .int .i64 c, x2, x3, x4, x5, x6] y ∧ y.cell? ⟨g, o + i, none⟩ = some (.string es)) (first | exact S0 | assumption | exact KK.out _ _ (by assumption) (by assumption)) (first
            | (go_at_call 54; refine (HGD.out _ (go_on HBW.out (And.right (And.left (by assumption))))).mono ?_; rintro e y2 ⟨rfl, hy2⟩))
          all_goals (
            have hS : SB wr w.heap.size #[.int .i64 kind, .int .i64 c, x2, x3, x4, x5, x6] y2 ∧ y2.cell? ⟨g, o + i, none⟩ = some (.string es) := by first | assumption | exact KK.out _ _ (by assumption) (by assumption)
            have HO4 : Hid (OD w #[.int .i64 kind, .int .i64 c, x2, x3, x4, x5, x6] (w.heap.size + 1) (w1.heap.size + 1) en ok d c x acc i c m2 n2 (.slice (some ⟨g, o, none⟩) m2.length mc2) vn2 (.slice aa i ac2) f2 y2) := HO2.out.call hS.1.2
            have ho2 : y2.cell? ⟨w1.heap.size + 1, 2, none⟩ = some (.slice aa i ac2) := cell_of HO4.out.sd.out
            clear hS S0 HO2 hcell csb
            go_wp2_with (at_builtin; refine wpList_append_own _ rfl _ _ 23 rfl w.heap.size 4 i1 (.bool false) 1 1 Try.underlying23 hj hq0 hq1 hq2 rfl (by decide) _ _ _ rfl (HO4.out.sd.acp.alloc _) ⟨y2.heap.size, 0, none⟩ 1 1 [.bool b] rfl rfl (cell_one_new _ _ _) (by intro u hu; simp at hu; subst hu; rfl) (by unfold maxLen; omega) (by omega) (by have := HO4.out.sd.below.size; simp; omega) ?_; intro v9 w9 ho9 hg9 _; obtain ⟨va9, vc9, rfl⟩ := own_shape ho9; have hout9 := HO4.out.sd.outN HO4.out.sd.acp (by decide) hg9; have hcs : w9.cell? ⟨w1.heap.size + 1, 2, none⟩ = some (.slice aa i ac2) := cell_of hout9; have hfz : w9.frozen? ⟨w1.heap.size + 1, 2, none⟩ = false := froz_of hout9; have hO9 := HO4.out.next HSI.out hg9 (by rw [HACC.out]; exact ho9); have HO9 : Hid _ := hO9; clear hO9 ho9 hg9 hout9 ho2)
            go_roundw
            case rel => exact ⟨i + 1, m2, n2, vn2, _, f2, by go_num, HO9.out⟩
            case measure => simp [intOf]; omega)
    · have hiI : ¬ (i : Int) < m.length := by omega
      have HE : Hid (i = m.length) := by show i = m.length; omega
      obtain ⟨na, nc2, rfl⟩ := own_shape HO.out.sd.nxt
      obtain ⟨aa, ac2, rfl⟩ := own_shape HO.out.sd.acp
      have hr0 : wr.cell? ⟨w.heap.size + 1, 0, none⟩ = some (.int .i64 0) := cell_of HO.out.sd.res
      have hr1 : wr.cell? ⟨w.heap.size + 1, 1, none⟩ = some (.slice none 0 0) := cell_of HO.out.sd.res
      have hr2 : wr.cell? ⟨w.heap.size + 1, 2, none⟩ = some (.slice none 0 0) := cell_of HO.out.sd.res
      have hf : ∀ j, wr.frozen? ⟨w.heap.size + 1, j, none⟩ = false := fun j => froz_of HO.out.sd.res
      have ho0 : wr.cell? ⟨w1.heap.size + 1, 0, none⟩ = some (.int .i64 K) := cell_of HO.out.sd.out
      have ho1 : wr.cell? ⟨w1.heap.size + 1, 1, none⟩ = some (.slice na n.length nc2) := cell_of HO.out.sd.out
      have ho2 : wr.cell? ⟨w1.heap.size + 1, 2, none⟩ = some (.slice aa i ac2) := cell_of HO.out.sd.out
      go_wp2_with fail
      have hao : AO w.heap.size wr (.agg #[.int .i64 K, .slice na n.length nc2, .slice aa i ac2]) ⟨K, n.map fun (x : Nat) => (x : Int), m.map acc⟩ := by
        have h2 := HO.out.sd.acp
        rw [List.take_of_length_le (by rw [HE.out]; exact Nat.le_refl _)] at h2
        have h1 := HO.out.sd.nxt
        refine ⟨na, nc2, aa, ac2, by simp [HE.out], ?_, ?_⟩
        · simpa [nC_zC] using h1
        · rw [HE.out] at h2
          simpa using h2
      obtain ⟨f1, f2, f3⟩ := res_done (base := w.heap.size) (w0 := w) HO.out.sd.res hao HO.out.sd.below (by omega)
      refine bodyPost_ret (results_auto rfl rfl f1 rfl) rfl (.inr ⟨m, n, .slice na n.length nc2, .slice aa i ac2, ?_, rfl, ?_, ?_, f3⟩)
      · rw [← HO.out.go]
        exact bgo_end (by rw [HO.out.nl, HE.out]; omega)
      · obtain ⟨_, _, _, _, e, r1, r2⟩ := f2
        simp only [Value.agg.injEq] at e
        injection e with e
        simp at e
        obtain ⟨⟨rfl, _, rfl⟩, rfl, _, rfl⟩ := e
        simpa [nC_zC] using r1
      · obtain ⟨_, _, _, _, e, r1, r2⟩ := f2
        simp only [Value.agg.injEq] at e
        injection e with e
        simp at e
        obtain ⟨⟨rfl, _, rfl⟩, rfl, _, rfl⟩ := e
        rw [HE.out] at r2 ⊢
        simpa using r2
end Go.Proofs.Ytbfoamidnekoaab
