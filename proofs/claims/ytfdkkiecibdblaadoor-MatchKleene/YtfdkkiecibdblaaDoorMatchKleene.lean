/- Proved: the card of eggboxlaw06.MatchKleene: it answers true at every two lists of nodes and every text (P6.7), with math/bits.deBruijn64tab and tree.partsOf as the program's text lays them: by match.Member a star is the empty word, or its part and the star; a concatenation is by all cuts, and has its one and its nought; its arguments read behind the call as before. The card ties the variables to the pruned copy of the project that the seat holds. -/
import Derived.Test.YtfdkkiecibdblaaDoorGj
import Derived.Test.YtfdkkiecibdblaaDoorTn
import Derived.LaidMore
import Derived.Stop.Joined
import Derived.Stop.LaidErr
import Derived.Lib.LaidTab
import Derived.SevenTiedAt
import Derived.ShutString
import Derived.ChangeMaps5
import Derived.Test.YtfdkkiecibdblaaDoorTie
import Derived.Test.YtfdkkiecibdblaaDoorCards
namespace Go.Proofs.YtfdkkiecibdblaaDoor.matchKleene
open Go.ChangeShapes Go.WideShapes Go.ChangeAt Go.RowKit
open Go.ChangeMaps (open_string shut_string)
set_option linter.unusedVariables false

set_option maxHeartbeats 16000000 in
set_option maxRecDepth 100000 in
theorem walk (v : Value) (ts : List Nd) (v' : Value) (rs : List Nd) (s : ByteArray) (w : World) (hv : NReads w v ts) (hn0 : ∀ c, v = .slice none 0 c → c = 0) (hl : (ts.length + 2) * 16 ≤ 140737488355328) (hv' : NReads w v' rs) (hn0' : ∀ c, v' = .slice none 0 c → c = 0) (hl' : (rs.length + 2) * 16 ≤ 140737488355328) (hs : s.size ≤ 140737488355327) (hP : PTab w) (hT : TzTab w) :
    Calls Tryd.prog 7 #[v, v', .string s] w fun e w' => e = .returned (.bool true) ∧ Below w.heap.size w w' := by
  have HV : Hid (NReads w v ts) := hv
  have HV' : Hid (NReads w v' rs) := hv'
  have HP : Hid (PTab w) := hP
  have HT : Hid (TzTab w) := hT
  have HG : Hid (Calls Tryd.prog 21 #[v, .string s] w fun e w' => e = .returned (.bool (decide (wrong ts = 0 ∧ ts.length ≤ 1000 ∧ wordE s = 0))) ∧ Below w.heap.size w w') := good6_any s hv (by omega) (by omega)
  have HG' : Hid (∀ W, Below w.heap.size w W → Calls Tryd.prog 21 #[v', .string s] W fun e w' => e = .returned (.bool (decide (wrong rs = 0 ∧ rs.length ≤ 1000 ∧ wordE s = 0))) ∧ Below W.heap.size W w') := fun W hb => good6_any s (hv'.stay hb) (by omega) (by omega)
  clear hP hT hn0 hn0'
  obtain ⟨va, vc, hva, _⟩ := hv
  obtain ⟨va', vc', hva', _⟩ := hv'
  subst hva
  subst hva'
  obtain ⟨n, HN⟩ : ∃ n, Hid (ts.length = n) := ⟨_, rfl⟩
  obtain ⟨n', HN'⟩ : ∃ n, Hid (rs.length = n) := ⟨_, rfl⟩
  rw [HN.out] at HV HG ⊢
  rw [HN'.out] at HV' HG' ⊢
  by_cases hg : wrong ts = 0 ∧ n ≤ 1000 ∧ wordE s = 0
  rotate_left
  · rw [decide_eq_false hg] at HG
    clear hg
    go_enter Tryd.func7, Tryd.ntmps7
    go_wp2_with fail
    refine HG.out.mono ?_
    rintro e w1 ⟨rfl, hb1⟩
    have B1 : Hid (Below w.heap.size w w1) := hb1
    clear hb1
    go_wp2_with fail
    refine (live6_any _ (HP.out.stay B1.out) (HT.out.stay B1.out)).mono ?_
    rintro e w2 ⟨rfl, hb2⟩
    go_wp2_with fail
    go_ret
    exact ⟨rfl, go_on B1.out hb2⟩
  rw [decide_eq_true hg] at HG
  by_cases hg' : wrong rs = 0 ∧ n' ≤ 1000 ∧ wordE s = 0
  rotate_left
  · rw [decide_eq_false hg'] at HG'
    clear hg hg'
    go_enter Tryd.func7, Tryd.ntmps7
    go_wp2_with fail
    refine HG.out.mono ?_
    rintro e w1 ⟨rfl, hb1⟩
    have B1 : Hid (Below w.heap.size w w1) := hb1
    clear hb1
    go_wp2_with fail
    refine (HG'.out _ B1.out).mono ?_
    rintro e w2 ⟨rfl, hb2⟩
    have B2 : Hid (Below w.heap.size w w2) := go_on B1.out hb2
    clear hb2
    go_wp2_with fail
    refine (live6_any _ (HP.out.stay B2.out) (HT.out.stay B2.out)).mono ?_
    rintro e w3 ⟨rfl, hb3⟩
    go_wp2_with fail
    go_ret
    exact ⟨rfl, go_on B2.out hb3⟩
  rw [decide_eq_true hg'] at HG'
  obtain ⟨x, hx, hxf⟩ := tr_of _ ts (Nat.le_refl _) (wrong_zero hg.1).2
  obtain ⟨y, hy, hyf⟩ := tr_of _ rs (Nat.le_refl _) (wrong_zero hg'.1).2
  have HXY : Hid (x.ok ∧ y.ok ∧ x.flat.length ≤ 1000 ∧ y.flat.length ≤ 1000 ∧ wordE s = 0) := ⟨hx, hy, by rw [hxf, HN.out]; exact hg.2.1, by rw [hyf, HN'.out]; exact hg'.2.1, hg.2.2⟩
  have HRX : Hid (∀ W, Below w.heap.size w W → NReads W (.slice va n vc) x.flat) := fun W hb => by rw [hxf]; exact HV.out.stay hb
  have HRY : Hid (∀ W, Below w.heap.size w W → NReads W (.slice va' n' vc') y.flat) := fun W hb => by rw [hyf]; exact HV'.out.stay hb
  have HPT : Hid (∀ W, Below w.heap.size w W → PTab W ∧ TzTab W) := fun W hb => ⟨HP.out.stay hb, HT.out.stay hb⟩
  clear hg hg' hx hy hxf hyf HV HV' hl hl' hs HN HN'
  go_enter Tryd.func7, Tryd.ntmps7
  go_wp2_with fail
  refine HG.out.mono ?_
  rintro e w1 ⟨rfl, hb1⟩
  have B1 : Hid (Below w.heap.size w w1) := hb1
  clear hb1
  go_wp2_with fail
  refine (HG'.out _ B1.out).mono ?_
  rintro e w2 ⟨rfl, hb2⟩
  have B2 : Hid (Below w.heap.size w w2) := go_on B1.out hb2
  clear hb2 B1
  go_wp2_with fail
  refine (made2_any 7 (HRX.out _ B2.out) (HRY.out _ B2.out) (by have := HXY.out; omega)).mono ?_
  rintro e w3 ⟨u1, rfl, hu1, hb3⟩
  have B3 : Hid (Below w.heap.size w w3) := go_on B2.out hb3
  have R3 : Hid (NReads w3 u1 (Tr.two (7, 0) x y).flat) := hu1
  clear hb3 B2 hu1
  have HINX : Hid (∀ (r : ByteArray) (W : World), Below w.heap.size w W → wordE r = 0 → Calls Tryd.prog 23 #[.slice va n vc, .string r] W fun e w' => ∃ b : Bool, e = .returned (.bool b) ∧ (b = true ↔ Lg x (wl r)) ∧ Below W.heap.size W w') := fun r W hb hr => inT_any r (HRX.out _ hb) HXY.out.1 (by have := HXY.out; omega) hr (HPT.out _ hb).1 (HPT.out _ hb).2
  have HINY : Hid (∀ (r : ByteArray) (W : World), Below w.heap.size w W → wordE r = 0 → Calls Tryd.prog 23 #[.slice va' n' vc', .string r] W fun e w' => ∃ b : Bool, e = .returned (.bool b) ∧ (b = true ↔ Lg y (wl r)) ∧ Below W.heap.size W w') := fun r W hb hr => inT_any r (HRY.out _ hb) HXY.out.2.1 (by have := HXY.out; omega) hr (HPT.out _ hb).1 (HPT.out _ hb).2
  have hs5 : s.size ≤ 511 := wordE_zero HXY.out.2.2.2.2
  go_wp2_with fail
  go_loopw [9, 8] (fun vi vc wr => ∃ (i : Nat) (c : Bool), i ≤ s.size + 1 ∧ vi = .int .i64 (i : Int) ∧ vc = .bool c ∧ (c = true ↔ ∃ j, j < i ∧ Lg x ((wl s).take j) ∧ Lg y ((wl s).drop j)) ∧ Below w.heap.size w wr ∧ NReads wr u1 (Tr.two (7, 0) x y).flat) (fun vi _ _ => s.size + 1 - (intOf vi).toNat)
  case atStart => exact ⟨0, false, Nat.zero_le _, rfl, rfl, by simp, B3.out, R3.out⟩
  case round =>
    clear B3 R3
    obtain ⟨i, c, hi, rfl, rfl, hc, hb, hr⟩ := hrel
    have HC : Hid (c = true ↔ ∃ j, j < i ∧ Lg x ((wl s).take j) ∧ Lg y ((wl s).drop j)) := hc
    have B4 : Hid (Below w.heap.size w wr) := hb
    have R4 : Hid (NReads wr u1 (Tr.two (7, 0) x y).flat) := hr
    have HI : Hid (i ≤ s.size + 1) := hi
    clear hc hb hr
    by_cases hlt : i ≤ s.size
    · have hiI : (i : Int) ≤ s.size := by omega
      have HLT : Hid (i ≤ s.size) := hlt
      clear hi
      cases c with
      | true =>
        have HC2 : Hid (true = true ↔ ∃ j, j < i + 1 ∧ Lg x ((wl s).take j) ∧ Lg y ((wl s).drop j)) := by
          refine ⟨fun _ => ?_, fun _ => rfl⟩
          obtain ⟨j, h1, h2⟩ := HC.out.1 rfl
          exact ⟨j, by omega, h2⟩
        go_wp2_with fail
        go_roundw
        case rel => exact ⟨i + 1, true, by have := HLT.out; omega, by go_num, rfl, HC2.out, B4.out, R4.out⟩
        case measure => have := HLT.out; simp [intOf]; omega
      | false =>
        have HNO : Hid (¬ (∃ j, j < i ∧ Lg x ((wl s).take j) ∧ Lg y ((wl s).drop j))) := fun h => by simpa using HC.out.2 h
        go_wp2_with fail
        refine (HINX.out (s.extract 0 i) _ B4.out (wordE_extract HXY.out.2.2.2.2 _ _)).mono ?_
        rintro e w5 ⟨b, rfl, hbx, hb5⟩
        rw [wl_take s i HLT.out] at hbx
        have B5 : Hid (Below w.heap.size w w5) := go_on B4.out hb5
        have R5 : Hid (NReads w5 u1 (Tr.two (7, 0) x y).flat) := R4.out.stay hb5
        have HBX : Hid (b = true ↔ Lg x ((wl s).take i)) := hbx
        clear hbx hb5 B4 R4
        cases b with
        | false =>
          have HC2 : Hid (false = true ↔ ∃ j, j < i + 1 ∧ Lg x ((wl s).take j) ∧ Lg y ((wl s).drop j)) := by
            refine ⟨fun h => (by cases h), fun h => ?_⟩
            obtain ⟨j, h1, h2, h3⟩ := h
            by_cases e : j = i
            · subst e; exact HBX.out.2 h2
            · exact absurd ⟨j, by omega, h2, h3⟩ HNO.out
          go_wp2_with fail
          go_roundw
          case rel => exact ⟨i + 1, false, by have := HLT.out; omega, by go_num, rfl, HC2.out, B5.out, R5.out⟩
          case measure => have := HLT.out; simp [intOf]; omega
        | true =>
          go_wp2_with fail
          refine (HINY.out (s.extract i s.size) _ B5.out (wordE_extract HXY.out.2.2.2.2 _ _)).mono ?_
          rintro e w6 ⟨b', rfl, hby, hb6⟩
          rw [wl_drop s i HLT.out] at hby
          have B6 : Hid (Below w.heap.size w w6) := go_on B5.out hb6
          have R6 : Hid (NReads w6 u1 (Tr.two (7, 0) x y).flat) := R5.out.stay hb6
          have HC2 : Hid (b' = true ↔ ∃ j, j < i + 1 ∧ Lg x ((wl s).take j) ∧ Lg y ((wl s).drop j)) := by
            rw [hby]
            constructor
            · intro h; exact ⟨i, by omega, HBX.out.1 (by trivial), h⟩
            · rintro ⟨j, h1, h2, h3⟩
              by_cases e : j = i
              · subst e; exact h3
              · exact absurd ⟨j, by omega, h2, h3⟩ HNO.out
          clear hby hb6 B5 R5
          go_wp2_with fail
          go_roundw
          case rel => exact ⟨i + 1, b', by have := HLT.out; omega, by go_num, rfl, HC2.out, B6.out, R6.out⟩
          case measure => have := HLT.out; simp [intOf]; omega
    · obtain rfl : i = s.size + 1 := by omega
      have hiI : ¬ ((s.size + 1 : Nat) : Int) ≤ s.size := by omega
      have HCUT : Hid (c = true ↔ Lg (Tr.two (7, 0) x y) (wl s)) := by
        show c = true ↔ _
        rw [HC.out]
        simp only [Lg]
        constructor
        · rintro ⟨j, _, h2, h3⟩
          exact ⟨_, _, (List.take_append_drop j (wl s)).symm, h2, h3⟩
        · rintro ⟨a, b, e, h2, h3⟩
          have hl := congrArg List.length e
          rw [wl_len, List.length_append] at hl
          refine ⟨a.length, by omega, ?_, ?_⟩
          · rw [e, List.take_left' rfl]; exact h2
          · rw [e, List.drop_left' rfl]; exact h3
      clear HC HI hi hlt
      go_wp2_with fail
      refine (made1_any 8 (HRX.out _ B4.out) (by have := HXY.out; omega)).mono ?_
      rintro e w5 ⟨u2, rfl, hu2, hb5⟩
      have B5 : Hid (Below w.heap.size w w5) := go_on B4.out hb5
      have R5 : Hid (NReads w5 u1 (Tr.two (7, 0) x y).flat ∧ NReads w5 u2 (Tr.one (8, 0) x).flat) := ⟨R4.out.stay hb5, hu2⟩
      obtain ⟨sa, sc, hsa, _⟩ := hu2
      subst hsa
      obtain ⟨sn, HSN⟩ : ∃ n, Hid ((Tr.one (8, 0) x).flat.length = n) := ⟨_, rfl⟩
      rw [HSN.out] at R5 ⊢
      have HINS : Hid (∀ (r : ByteArray) (W : World), Below w.heap.size w W → NReads W (.slice sa sn sc) (Tr.one (8, 0) x).flat → wordE r = 0 → Calls Tryd.prog 23 #[.slice sa sn sc, .string r] W fun e w' => ∃ b : Bool, e = .returned (.bool b) ∧ (b = true ↔ Lg (Tr.one (8, 0) x) (wl r)) ∧ Below W.heap.size W w') := fun r W hb hv hr => inT_any r hv (ok_one HXY.out.1 (by simp)) (by rw [len_one]; have := HXY.out; omega) hr (HPT.out _ hb).1 (HPT.out _ hb).2
      clear hb5 B4 R4
      go_wp2_with fail
      go_loopw [12, 11] (fun vi vc wr => ∃ (i : Nat) (c : Bool), 1 ≤ i ∧ i ≤ s.size + 1 ∧ vi = .int .i64 (i : Int) ∧ vc = .bool c ∧ (c = true ↔ s.size = 0 ∨ ∃ j, 1 ≤ j ∧ j < i ∧ Lg x ((wl s).take j) ∧ Lg (Tr.one (8, 0) x) ((wl s).drop j)) ∧ Below w.heap.size w wr ∧ NReads wr u1 (Tr.two (7, 0) x y).flat ∧ NReads wr (.slice sa sn sc) (Tr.one (8, 0) x).flat) (fun vi _ _ => s.size + 1 - (intOf vi).toNat)
      case atStart => exact ⟨1, ((s.size : Int) == 0), Nat.le_refl _, by omega, rfl, rfl, by simp; omega, B5.out, R5.out.1, R5.out.2⟩
      case round =>
        clear B5 R5
        obtain ⟨i, d, hi1, hi, rfl, rfl, hc, hb, hr1, hr2⟩ := hrel
        have HC : Hid (d = true ↔ s.size = 0 ∨ ∃ j, 1 ≤ j ∧ j < i ∧ Lg x ((wl s).take j) ∧ Lg (Tr.one (8, 0) x) ((wl s).drop j)) := hc
        have B4 : Hid (Below w.heap.size w wr) := hb
        have R4 : Hid (NReads wr u1 (Tr.two (7, 0) x y).flat ∧ NReads wr (.slice sa sn sc) (Tr.one (8, 0) x).flat) := ⟨hr1, hr2⟩
        have HI : Hid (i ≤ s.size + 1) := hi
        have HI1 : Hid (1 ≤ i) := hi1
        clear hc hb hr1 hr2 hi1
        by_cases hlt : i ≤ s.size
        · have hiI : (i : Int) ≤ s.size := by omega
          have HLT : Hid (i ≤ s.size) := hlt
          clear hi
          cases d with
          | true =>
            have HC2 : Hid (true = true ↔ s.size = 0 ∨ ∃ j, 1 ≤ j ∧ j < i + 1 ∧ Lg x ((wl s).take j) ∧ Lg (Tr.one (8, 0) x) ((wl s).drop j)) := by
              refine ⟨fun _ => ?_, fun _ => rfl⟩
              rcases HC.out.1 rfl with h | ⟨j, h0, h1, h2⟩
              · exact .inl h
              · exact .inr ⟨j, h0, by omega, h2⟩
            go_wp2_with fail
            go_roundw
            case rel => exact ⟨i + 1, true, by omega, by have := HLT.out; omega, by go_num, rfl, HC2.out, B4.out, R4.out.1, R4.out.2⟩
            case measure => have := HLT.out; simp [intOf]; omega
          | false =>
            have HNO : Hid (¬ (s.size = 0 ∨ ∃ j, 1 ≤ j ∧ j < i ∧ Lg x ((wl s).take j) ∧ Lg (Tr.one (8, 0) x) ((wl s).drop j))) := fun h => by simpa using HC.out.2 h
            go_wp2_with fail
            refine (HINX.out (s.extract 0 i) _ B4.out (wordE_extract HXY.out.2.2.2.2 _ _)).mono ?_
            rintro e w5 ⟨b, rfl, hbx, hb5⟩
            rw [wl_take s i HLT.out] at hbx
            have B5 : Hid (Below w.heap.size w w5) := go_on B4.out hb5
            have R5 : Hid (NReads w5 u1 (Tr.two (7, 0) x y).flat ∧ NReads w5 (.slice sa sn sc) (Tr.one (8, 0) x).flat) := ⟨R4.out.1.stay hb5, R4.out.2.stay hb5⟩
            have HBX : Hid (b = true ↔ Lg x ((wl s).take i)) := hbx
            clear hbx hb5 B4 R4
            cases b with
            | false =>
              have HC2 : Hid (false = true ↔ s.size = 0 ∨ ∃ j, 1 ≤ j ∧ j < i + 1 ∧ Lg x ((wl s).take j) ∧ Lg (Tr.one (8, 0) x) ((wl s).drop j)) := by
                refine ⟨fun h => (by cases h), fun h => ?_⟩
                rcases h with h | ⟨j, h0, h1, h2, h3⟩
                · exact absurd (.inl h) HNO.out
                by_cases e : j = i
                · subst e; exact HBX.out.2 h2
                · exact absurd (.inr ⟨j, h0, by omega, h2, h3⟩) HNO.out
              go_wp2_with fail
              go_roundw
              case rel => exact ⟨i + 1, false, by omega, by have := HLT.out; omega, by go_num, rfl, HC2.out, B5.out, R5.out.1, R5.out.2⟩
              case measure => have := HLT.out; simp [intOf]; omega
            | true =>
              go_wp2_with fail
              refine (HINS.out (s.extract i s.size) _ B5.out R5.out.2 (wordE_extract HXY.out.2.2.2.2 _ _)).mono ?_
              rintro e w6 ⟨b', rfl, hby, hb6⟩
              rw [wl_drop s i HLT.out] at hby
              have B6 : Hid (Below w.heap.size w w6) := go_on B5.out hb6
              have R6 : Hid (NReads w6 u1 (Tr.two (7, 0) x y).flat ∧ NReads w6 (.slice sa sn sc) (Tr.one (8, 0) x).flat) := ⟨R5.out.1.stay hb6, R5.out.2.stay hb6⟩
              have HC2 : Hid (b' = true ↔ s.size = 0 ∨ ∃ j, 1 ≤ j ∧ j < i + 1 ∧ Lg x ((wl s).take j) ∧ Lg (Tr.one (8, 0) x) ((wl s).drop j)) := by
                rw [hby]
                constructor
                · intro h; exact .inr ⟨i, HI1.out, by omega, HBX.out.1 (by trivial), h⟩
                · rintro (h | ⟨j, h0, h1, h2, h3⟩)
                  · exact absurd (.inl h) HNO.out
                  by_cases e : j = i
                  · subst e; exact h3
                  · exact absurd (.inr ⟨j, h0, by omega, h2, h3⟩) HNO.out
              clear hby hb6 B5 R5
              go_wp2_with fail
              go_roundw
              case rel => exact ⟨i + 1, b', by omega, by have := HLT.out; omega, by go_num, rfl, HC2.out, B6.out, R6.out.1, R6.out.2⟩
              case measure => have := HLT.out; simp [intOf]; omega
        · obtain rfl : i = s.size + 1 := by omega
          have hiI : ¬ ((s.size + 1 : Nat) : Int) ≤ s.size := by omega
          have HAG : Hid (d = true ↔ Lg (Tr.one (8, 0) x) (wl s)) := by
            show d = true ↔ _
            rw [HC.out]
            have e1 : ∀ u, Lg (Tr.one (8, 0) x) u ↔ StL (Lg x) u := fun u => by simp [Lg]
            rw [e1, stl_iff]
            constructor
            · rintro (h | ⟨j, h0, h1, h2, h3⟩)
              · exact .inl (List.eq_nil_of_length_eq_zero (by rw [wl_len, h]))
              · refine .inr ⟨_, _, ?_, (List.take_append_drop j (wl s)).symm, h2, (e1 _).1 h3⟩
                intro e
                have := congrArg List.length e
                rw [List.length_take, wl_len, List.length_nil] at this
                omega
            · rintro (h | ⟨a, b, h0, e, h2, h3⟩)
              · exact .inl (by rw [← wl_len, h]; rfl)
              · have hl := congrArg List.length e
                rw [wl_len, List.length_append] at hl
                have hp : 1 ≤ a.length := by
                  cases a with
                  | nil => exact absurd rfl h0
                  | cons _ _ => simp
                refine .inr ⟨a.length, hp, by omega, ?_, ?_⟩
                · rw [e, List.take_left' rfl]; exact h2
                · rw [e, List.drop_left' rfl]; exact (e1 _).2 h3
          obtain ⟨tOne, hOne⟩ : ∃ t : Tr, t = Tr.zero (2, 0) := ⟨_, rfl⟩
          obtain ⟨tNo, hNo⟩ : ∃ t : Tr, t = Tr.zero (1, 0) := ⟨_, rfl⟩
          have HLIT : Hid ((∀ W : World, NReads (W.alloc (.cells #[.int .i64 2, .int .u8 0] 55)) (.slice (some ⟨W.heap.size, 0, none⟩) 1 1) tOne.flat) ∧ (∀ W : World, NReads (W.alloc (.cells #[.int .i64 1, .int .u8 0] 55)) (.slice (some ⟨W.heap.size, 0, none⟩) 1 1) tNo.flat)) := by
            subst hOne
            subst hNo
            refine ⟨fun W => ?_, fun W => ?_⟩
            · refine nreads_lit (ts := [(2, 0)]) 1 (heap_alloc_last W _) (fun i hi => ?_)
              have hc : i = 0 := by simp at hi; omega
              subst hc
              exact ⟨rfl, rfl⟩
            · refine nreads_lit (ts := [(1, 0)]) 1 (heap_alloc_last W _) (fun i hi => ?_)
              have hc : i = 0 := by simp at hi; omega
              subst hc
              exact ⟨rfl, rfl⟩
          have HTT : Hid (tOne.ok ∧ tNo.ok ∧ tOne.flat.length = 1 ∧ tNo.flat.length = 1 ∧ (∀ u, Lg (Tr.two (7, 0) x tOne) u ↔ Lg x u) ∧ (∀ u, ¬ Lg (Tr.two (7, 0) tNo x) u)) := by
            subst hOne
            subst hNo
            refine ⟨⟨by decide, by decide⟩, ⟨by decide, by decide⟩, rfl, rfl, fun u => ?_, fun u => ?_⟩
            · simp [Lg]
            · simp [Lg]
          clear hOne hNo HC HI hi hlt
          have HM2 : Hid (∀ W : World, Below w.heap.size w W → Calls Tryd.prog 25 #[.agg #[.int .i64 7, .int .u8 0], .slice (some ⟨W.heap.size + 1, 0, none⟩) 2 2] ((W.alloc (.cells #[.int .i64 2, .int .u8 0] 55)).alloc (.cells #[.slice va n vc, .slice (some ⟨W.heap.size, 0, none⟩) 1 1] 22)) fun e w' => ∃ u, e = .returned u ∧ NReads w' u (Tr.two (7, 0) x tOne).flat ∧ Below W.heap.size W w') := fun W hb => by
            have hb1 : Below w.heap.size w (W.alloc (.cells #[.int .i64 2, .int .u8 0] 55)) := hb.alloc hb.size _
            have h := made2_any 7 (HRX.out _ hb1) (HLIT.out.1 W) (by have := HXY.out; have := HTT.out.2.2.1; omega)
            have e : (W.alloc (.cells #[.int .i64 2, .int .u8 0] 55)).heap.size = W.heap.size + 1 := by simp
            rw [e] at h
            refine h.mono ?_
            rintro e w' ⟨u, h1, h2, h3⟩
            exact ⟨u, h1, h2, ((Below.refl _ _).alloc (Nat.le_refl _) _).trans (h3.mono (by omega))⟩
          have HM3 : Hid (∀ W : World, Below w.heap.size w W → Calls Tryd.prog 25 #[.agg #[.int .i64 7, .int .u8 0], .slice (some ⟨W.heap.size + 1, 0, none⟩) 2 2] ((W.alloc (.cells #[.int .i64 1, .int .u8 0] 55)).alloc (.cells #[.slice (some ⟨W.heap.size, 0, none⟩) 1 1, .slice va n vc] 22)) fun e w' => ∃ u, e = .returned u ∧ NReads w' u (Tr.two (7, 0) tNo x).flat ∧ Below W.heap.size W w') := fun W hb => by
            have hb1 : Below w.heap.size w (W.alloc (.cells #[.int .i64 1, .int .u8 0] 55)) := hb.alloc hb.size _
            have h := made2_any 7 (HLIT.out.2 W) (HRX.out _ hb1) (by have := HXY.out; have := HTT.out.2.2.2.1; omega)
            have e : (W.alloc (.cells #[.int .i64 1, .int .u8 0] 55)).heap.size = W.heap.size + 1 := by simp
            rw [e] at h
            refine h.mono ?_
            rintro e w' ⟨u, h1, h2, h3⟩
            exact ⟨u, h1, h2, ((Below.refl _ _).alloc (Nat.le_refl _) _).trans (h3.mono (by omega))⟩
          go_wp2_with fail
          refine (HM2.out _ B4.out).mono ?_
          rintro e w7 ⟨u3, rfl, hu3, hb7⟩
          have B7 : Hid (Below w.heap.size w w7) := go_on B4.out hb7
          have R7 : Hid (NReads w7 u1 (Tr.two (7, 0) x y).flat ∧ NReads w7 (.slice sa sn sc) (Tr.one (8, 0) x).flat ∧ NReads w7 u3 (Tr.two (7, 0) x tOne).flat) := ⟨R4.out.1.stay hb7, R4.out.2.stay hb7, hu3⟩
          clear hb7 B4 R4 hu3
          go_wp2_with fail
          refine (HM3.out _ B7.out).mono ?_
          rintro e w8 ⟨u4, rfl, hu4, hb8⟩
          have B8 : Hid (Below w.heap.size w w8) := go_on B7.out hb8
          have R8 : Hid (NReads w8 u1 (Tr.two (7, 0) x y).flat ∧ NReads w8 (.slice sa sn sc) (Tr.one (8, 0) x).flat ∧ NReads w8 u3 (Tr.two (7, 0) x tOne).flat ∧ NReads w8 u4 (Tr.two (7, 0) tNo x).flat) := ⟨R7.out.1.stay hb8, R7.out.2.1.stay hb8, R7.out.2.2.stay hb8, hu4⟩
          clear hb8 B7 R7 hu4
          go_wp2_with fail
          refine (inT_any s R8.out.1 (ok_two HXY.out.1 HXY.out.2.1 (by simp)) (by rw [len_two]; have := HXY.out; omega) HXY.out.2.2.2.2 (HPT.out _ B8.out).1 (HPT.out _ B8.out).2).mono ?_
          rintro e w9 ⟨b1, rfl, h1, hb9⟩
          obtain rfl : b1 = c := bool_eq h1 HCUT.out
          have B9 : Hid (Below w.heap.size w w9) := go_on B8.out hb9
          have R9 : Hid (NReads w9 (.slice sa sn sc) (Tr.one (8, 0) x).flat ∧ NReads w9 u3 (Tr.two (7, 0) x tOne).flat ∧ NReads w9 u4 (Tr.two (7, 0) tNo x).flat) := ⟨R8.out.2.1.stay hb9, R8.out.2.2.1.stay hb9, R8.out.2.2.2.stay hb9⟩
          clear hb9 B8 R8 h1
          go_wp2_with fail
          refine (HINS.out s _ B9.out R9.out.1 HXY.out.2.2.2.2).mono ?_
          rintro e w10 ⟨b2, rfl, h2, hb10⟩
          obtain rfl : b2 = d := bool_eq h2 HAG.out
          have B10 : Hid (Below w.heap.size w w10) := go_on B9.out hb10
          have R10 : Hid (NReads w10 u3 (Tr.two (7, 0) x tOne).flat ∧ NReads w10 u4 (Tr.two (7, 0) tNo x).flat) := ⟨R9.out.2.1.stay hb10, R9.out.2.2.stay hb10⟩
          clear hb10 B9 R9 h2
          go_wp2_with fail
          refine (inT_any s R10.out.1 (ok_two HXY.out.1 HTT.out.1 (by simp)) (by rw [len_two]; have := HXY.out; have := HTT.out.2.2.1; omega) HXY.out.2.2.2.2 (HPT.out _ B10.out).1 (HPT.out _ B10.out).2).mono ?_
          rintro e w11 ⟨b3, rfl, h3, hb11⟩
          have HB3 : Hid (b3 = true ↔ Lg x (wl s)) := h3.trans (HTT.out.2.2.2.2.1 _)
          have B11 : Hid (Below w.heap.size w w11) := go_on B10.out hb11
          have R11 : Hid (NReads w11 u4 (Tr.two (7, 0) tNo x).flat) := R10.out.2.stay hb11
          clear hb11 B10 R10 h3
          go_wp2_with fail
          refine (HINX.out s _ B11.out HXY.out.2.2.2.2).mono ?_
          rintro e w12 ⟨b4, rfl, h4, hb12⟩
          obtain rfl : b3 = b4 := bool_eq HB3.out h4
          have B12 : Hid (Below w.heap.size w w12) := go_on B11.out hb12
          have R12 : Hid (NReads w12 u4 (Tr.two (7, 0) tNo x).flat) := R11.out.stay hb12
          clear hb12 B11 R11 h4
          go_wp2_with fail
          refine (inT_any s R12.out (ok_two HTT.out.2.1 HXY.out.1 (by simp)) (by rw [len_two]; have := HXY.out; have := HTT.out.2.2.2.1; omega) HXY.out.2.2.2.2 (HPT.out _ B12.out).1 (HPT.out _ B12.out).2).mono ?_
          rintro e w13 ⟨b5, rfl, h5, hb13⟩
          obtain rfl : b5 = false := by
            cases b5 with
            | false => rfl
            | true => exact absurd (h5.1 rfl) (HTT.out.2.2.2.2.2 _)
          have B13 : Hid (Below w.heap.size w w13) := go_on B12.out hb13
          clear hb13 B12 R12 h5
          go_wp2_with fail
          refine (live6_any _ (HPT.out _ B13.out).1 (HPT.out _ B13.out).2).mono ?_
          rintro e w14 ⟨rfl, hb14⟩
          have B14 : Hid (Below w.heap.size w w14) := go_on B13.out hb14
          clear hb14
          go_wp2_with fail
          go_ret
          exact ⟨rfl, B14.out⟩
/-! ### The row's step -/
theorem own : ownKnob Tryd.prog.godebug = none := by kernel_rfl
def laid1 : List (String × DataW Unit) := [("math/bits.deBruijn64tab", Rows.laid_math_bits_deBruijn64tab), ("eggbox/tree.partsOf", Rows.laid_eggbox_tree_partsOf)]
def tabZ : List Int := [0, 0, 0, 0, 0, 2, 2, 2, 1, 1]
def tabT : List Int := Lib.deBruijn64tab.map fun (z : Nat) => (z : Int)
theorem gTab : Tryd.prog.globalNamed "eggbox/tree.partsOf" = some 1 := by kernel_rfl
theorem tTab : (Tryd.prog.globals[1]?).map (·.type) = some 103 := by kernel_rfl
theorem gTz : Tryd.prog.globalNamed "math/bits.deBruijn64tab" = some 2 := by kernel_rfl
theorem tTz : (Tryd.prog.globals[2]?).map (·.type) = some 112 := by kernel_rfl
theorem of_laid {W : World} (h : laidMetH Tryd.prog laid1 W) : PTab W ∧ TzTab W := by
  rw [MakeChecks.laidMetH_plain _ _ _ (by kernel_rfl)] at h
  have h1 : Lib.TabIs Tryd.prog W "math/bits.deBruijn64tab" .u8 tabT :=
    Lib.tabIs_of_head (rest := [("eggbox/tree.partsOf", Rows.laid_eggbox_tree_partsOf)]) gTz tTz Tryd.underlying112 Tryd.underlying5 (by kernel_rfl) (by kernel_rfl) h
  have h2 : Lib.TabIs Tryd.prog W "eggbox/tree.partsOf" .i64 tabZ :=
    Lib.tabIs_of_head (rest := []) gTab tTab Tryd.underlying103 Tryd.underlying3 (by kernel_rfl) (by kernel_rfl) h.tail
  refine ⟨fun j hj => ?_, fun j hj => ?_⟩
  · have := h2.cell gTab j hj
    rw [this]
    have hc : j = 0 ∨ j = 1 ∨ j = 2 ∨ j = 3 ∨ j = 4 ∨ j = 5 ∨ j = 6 ∨ j = 7 ∨ j = 8 ∨ j = 9 := by omega
    rcases hc with rfl | rfl | rfl | rfl | rfl | rfl | rfl | rfl | rfl | rfl <;> rfl
  · have := h1.cell gTz j hj
    rw [this]
    have e : tabT.getD j 0 = ((Lib.deBruijn64tab.getD j 0 : Nat) : Int) := by
      unfold tabT
      rw [List.getD_eq_getElem?_getD, List.getElem?_map, List.getD_eq_getElem?_getD]
      cases Lib.deBruijn64tab[j]? <;> rfl
    rw [e]
/-- The door's own heap meets the condition. -/
theorem door_met (os : Os) (args : Array Value) : laidMetH Tryd.prog laid1 ((World.doorLaid Tryd.prog 400 os).forCall (fun _ _ => 0) ⟨#[], args, []⟩).memory :=
  laidMetH_of_parts3 (fuel := 8) (laidMet_of_run' 8 (by kernel_rfl) (by kernel_rfl)) (by kernel_rfl) (by kernel_rfl)

set_option maxRecDepth 100000 in
theorem lifted (os : Os) (started : os.Started) (H : Type) (enc : TypeId × Value → H) :
    ReturnsInHanded {} Tryd.checked os 7 .any (fun w args => (Rows.matchKleeneSpec.pre enc Tryd.prog Tryd.f7 [] false w args ∧ laidMetH Tryd.prog laid1 w) ∧ sizedMet enc Tryd.prog Tryd.f7 (OpenSpec.ofChange Rows.matchKleeneSpec) false w args)
      (Rows.matchKleeneSpec.post enc Tryd.prog Tryd.f7 false true false false) := by
  refine returnsInHanded_of_change_and (C := Tryd.checked) (X := fun w _ => laidMetH Tryd.prog laid1 w) (fun _ _ _ hh h => h.of_heap hh) own started (by kernel_rfl) Tryd.func7
    (ChangeSpec.witness_shaped (enc := enc) (C := Tryd.checked) (os := os) (X := fun w _ => laidMetH Tryd.prog laid1 w) false (World.doorLaid Tryd.prog 400 os) #[.slice none 0 0, .slice none 0 0, .string ByteArray.empty] 8 rfl (World.shaped_of_RefB (by kernel_rfl) (by kernel_rfl)) (by kernel_rfl) (by kernel_rfl) (by kernel_rfl) (door_met os _)) ?_
  intro W base args ds gs before hval0 hW _ hsz0 hL _
  have hval : ∀ (j : Nat) t v, Tryd.f7.params[j]? = some t → args[j]? = some v → Value.okWide Tryd.prog W .any base t v := hval0
  have hW' := hW
  obtain ⟨p, q, hA0, hV, rfl, hfz, hnd⟩ := hW
  have hA : DataW.TrodAll enc Tryd.prog W 0 (fun _ => true) true Tryd.f7.params.toList args.toList ds p := hA0
  have hsz : (DataW.weightsEach Tryd.prog (Tryd.f7.params.toList ++ Rows.matchKleeneSpec.plain.varTypes Tryd.prog) (ds ++ gs)).all (· ≤ reachBytes) = true := hsz0
  rw [Tryd.params7] at hA hval hsz
  obtain ⟨v0, vs0, d0, ds0, p0, q0, hargs, rfl, rfl, h0, r0⟩ := trodAll_cons hA
  obtain ⟨v1, vs1, d1, ds1, p1, q1, rfl, rfl, rfl, h1, r1⟩ := trodAll_cons r0
  obtain ⟨v2, vs2, d2, ds2, p2, q2, rfl, rfl, rfl, h2, r2⟩ := trodAll_cons r1
  obtain ⟨rfl, rfl, rfl⟩ := trodAll_nil r2
  obtain rfl : args = #[v0, v1, v2] := by cases args; simp_all
  obtain ⟨rfl, rfl⟩ := trodVars_none hV
  obtain ⟨a0, w0, x0, y0⟩ := open_nodes (hval 0 22 v0 rfl rfl) h0
  have s0 : (a0.length + 2) * 16 ≤ 140737488355328 := by
    rcases y0 with ⟨_, rfl⟩ | ⟨e, s, rfl, hy⟩
    · decide
    · have := sized_slice hsz (j := 0) (t := 22) rfl rfl Tryd.underlying22
      rw [Tryd.bytes_node] at this
      simp only [reachBytes] at this
      omega
  have z0 : a0.length ≤ 9223372036854775806 := by omega
  have g0 : ∀ x ∈ p0, x.block < W.heap.size := fun x hx => hW'.lt x (by simp [hx])
  obtain ⟨a1, w1, x1, y1⟩ := open_nodes (hval 1 22 v1 rfl rfl) h1
  have s1 : (a1.length + 2) * 16 ≤ 140737488355328 := by
    rcases y1 with ⟨_, rfl⟩ | ⟨e, s, rfl, hy⟩
    · decide
    · have := sized_slice hsz (j := 1) (t := 22) rfl rfl Tryd.underlying22
      rw [Tryd.bytes_node] at this
      simp only [reachBytes] at this
      omega
  have z1 : a1.length ≤ 9223372036854775806 := by omega
  have g1 : ∀ x ∈ p1, x.block < W.heap.size := fun x hx => hW'.lt x (by simp [hx])
  obtain ⟨a2, rfl, rfl, rfl, w2⟩ := open_string Tryd.underlying9 (hval 2 9 v2 rfl rfl) h2
  have u2 : a2.size ≤ 140737488355327 := by
    have := sized_string hsz (j := 2) (t := 9) rfl rfl
    have e : a2.data.toList.length = a2.size := rfl
    simp only [reachBytes] at this
    omega
  have hTz := of_laid hL
  clear hA0 hval0
  refine (walk v0 a0 v1 a1 a2 W w0 x0.1 s0 w1 x1.1 s1 u2 hTz.1 hTz.2).mono fun e W' ⟨he, bel⟩ => ?_
  subst he
  exact ⟨_, rfl, _, _, _, [], _, [], hW', trodAll_mk1 (shut_bool Tryd.underlying4 _), (trodAll_cons_mk (Below.trod Tryd.laidOut (by kernel_rfl) (of_decide_eq_true (by kernel_rfl)) h0 bel g0) (trodAll_cons_mk (Below.trod Tryd.laidOut (by kernel_rfl) (of_decide_eq_true (by kernel_rfl)) h1 bel g1) (trodAll_cons_mk (shut_string Tryd.underlying9 w2) trodAll_mk0))), rfl, bel.frame _, fun h => by cases h⟩

theorem over : Rows.MatchKleeneSaid :=
  OpenClaim.holds_of_wide 7 Tryd.f7 rfl rfl rfl rfl rfl rfl rfl ⟨rfl, rfl, rfl, rfl, rfl⟩ rfl rfl rfl rfl rfl (by kernel_rfl) Tryd.func7 (by kernel_rfl)
    (of_decide_eq_true (by kernel_rfl)) (by unfold Func.isWrapper; first | (rw [if_pos (by decide +kernel)]; kernel_rfl) | (rw [if_neg (by decide +kernel)]; exact ⟨rfl, rfl⟩))
    (fun os started H enc _ => lifted os started H enc)

theorem card : Rows.MatchKleeneCardSaid :=
  Claim7.holds_tied_plain_at .later [] [.data, .data] true (true, "58895d4f7794a8d4f9f44ccc29c688554d73b9f3c6ecb6e7532dd0a19a11df0f") false
    over (fun _ h => by cases h) (by kernel_rfl) (fun _ h => by cases h) matchKleene_row_tie rfl ⟨rfl, rfl⟩ (by kernel_rfl) rfl
    (fun f fn hf hfn => by
      obtain rfl : f = 7 := Option.some.inj ((show Tryd.prog.funcNamed "eggbox/eggboxlaw06.MatchKleene" = some 7 by kernel_rfl).symm.trans hf) |>.symm
      obtain rfl : fn = Tryd.f7 := (Option.some.inj (Tryd.func7.symm.trans hfn)).symm
      exact ⟨by kernel_rfl, fun j t ht => by
        rw [Tryd.params7] at ht
        have hm : t ∈ [22, 22, 9] := by simpa using Array.mem_of_getElem? ht
        have hall : ([22, 22, 9].all fun u => !Tryd.prog.wantsStandIn u) = true := by kernel_rfl
        exact (show Tryd.prog.wantsStandIn t = false by simpa using List.all_eq_true.1 hall t hm)⟩)
    (by kernel_rfl)

end Go.Proofs.YtfdkkiecibdblaaDoor.matchKleene
namespace Go.Proofs.YtfdkkiecibdblaaDoor
/-- The given statement. -/
theorem matchKleene_holds : Rows.MatchKleeneCardSaid := matchKleene.card
end Go.Proofs.YtfdkkiecibdblaaDoor
