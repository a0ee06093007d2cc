/- The document's rules: concat, inter and union, each out of the one beneath it. -/
import Derived.Test.YtjonlmafhijcoaaDoorVl
namespace Go.Proofs.YtjonlmafhijcoaaDoor
open Go Go.RowKit
set_option linter.unusedVariables false

def mea (tx : ByteArray) (w : World) (B : Nat) : Nat := match w.cell? ⟨B, 3, none⟩ with
  | some (.int _ b) => if b < 0 then tx.size + 1 - atN w B else 0
  | _ => 0
theorem mea_eq {w : World} {B : Nat} {k : Int} {tx : ByteArray} {p : Nat} {bad : Int} (h : RD w B k tx p bad) : mea tx w B = if bad < 0 then tx.size + 1 - p else 0 := by
  unfold mea
  rw [h.cells.2.2.2, atN_eq h]
/-- At the head of a rule's loop. -/
def Left2 (k : Int) (tx : ByteArray) (lv : Nat) (p : Nat) (ns : List Nd) (q : Nat) (bad : Int) : Prop :=
  p ≤ q ∧ q ≤ tx.size ∧ ((bad = -1 ∧ ns.length + 1 ≤ 3 * (q - p) ∧ Fine k tx lv p ns q ∧ Skips tx q q ∧ Stop k (lv + 1) (sgn tx q)) ∨ (∃ z : Nat, bad = z ∧ ns.length ≤ 3 * (q - p) ∧ Bads k tx lv p z))
theorem left2_of {k : Int} {tx : ByteArray} {lv p q : Nat} {ns : List Nd} {bad : Int} (hlv : lv ≤ 3) (h : Left k tx (lv + 1) true p ns q bad) : Left2 k tx lv p ns q bad := by
  obtain ⟨h1, h2, h3⟩ := h
  refine ⟨h1, h2, ?_⟩
  rcases h3 with ⟨a, b, c, d⟩ | ⟨z, a, b, c⟩
  · exact .inl ⟨a, b, fine_down c (by omega) hlv (fun _ => .inl (by omega)), d rfl⟩
  · exact .inr ⟨z, a, b, bads_down c (by omega) hlv⟩

set_option maxHeartbeats 8000000 in
set_option maxRecDepth 100000 in
theorem concat_of {k : Int} (hk : 1 ≤ k ∧ k ≤ 8) {tx : ByteArray} (hx : tx.size ≤ 1000) {p : Nat} (hp : p ≤ tx.size) (hA : ∀ r, p ≤ r → r ≤ tx.size → Ruled k tx 54 4 true r) : Ruled k tx 50 3 true p := by
  intro w B hR
  have HA : Hid (∀ r, p ≤ r → r ≤ tx.size → Ruled k tx 54 4 true r) := hA
  have HR : Hid (RD w B k tx p (-1)) := hR
  have hBw := hR.lt
  clear hA hR
  go_enter Tryd.func50, Tryd.ntmps50
  go_wp2_with fail
  refine (HA.out p (Nat.le_refl _) hp w B HR.out).mono ?_
  rintro e w1 ⟨u, ns, q, bad, rfl, hr, hkp, ho, hl⟩
  have H1 : Hid (AtW k tx w B u ns q bad w1 ∧ Left2 k tx 3 p ns q bad) := ⟨⟨hr, hkp, ho⟩, left2_of (by decide) hl⟩
  clear hr hkp ho hl
  go_wp2_with fail
  go_loopw [3] (fun vt wr => ∃ ns q bad, AtW k tx w B vt ns q bad wr ∧ Left2 k tx 3 p ns q bad) (fun _ wr => mea tx wr B)
  case atStart => exact ⟨ns, q, bad, H1.out⟩
  case round =>
    clear H1
    obtain ⟨ns, q, bad, ⟨hr, hkp, ho⟩, hpq, hq, hl⟩ := hrel
    obtain ⟨c0, c1, c2, c3⟩ := hr.cells
    obtain ⟨ta, tc, rfl⟩ := own_shape ho
    have HRD : Hid (RD wr B k tx q bad) := hr
    have HRK : Hid (RK B w wr) := hkp
    have HO : Hid (wr.ownsRow w.heap.size 56 2 (.slice ta ns.length tc) ns.length (ndC ns)) := ho
    clear hr hkp ho
    rcases hl with ⟨rfl, hln, hf, hs, hst⟩ | ⟨z, rfl, hln, hb⟩
    · have HF : Hid (Fine k tx 3 p ns q) := hf
      have HST : Hid (Stop k 4 (sgn tx q)) := hst
      have HSK : Hid (Skips tx q q) := hs
      clear hf hst hs
      go_wp2_with fail
      refine (next_any _ B k tx q (-1) HRD.out hq hx).mono ?_
      rintro e w2 ⟨r, hsk, rfl, hr2, hk2⟩
      obtain rfl : r = q := HSK.out.only hsk
      obtain ⟨d0, d1, d2, d3⟩ := hr2.cells
      have f2 := hr2.frozen 2
      have HR2 : Hid (RD w2 B k tx r (-1)) := hr2
      have HK2 : Hid (RK B w w2) := HRK.out.trans hk2
      have HO2 : Hid (w2.ownsRow w.heap.size 56 2 (.slice ta ns.length tc) ns.length (ndC ns)) := hk2.own HO.out hBw
      have hws2 := HK2.out.size
      have hby := sgn_byte tx r
      obtain ⟨c, hc⟩ : ∃ c, sgn tx r = c := ⟨_, rfl⟩
      have HC : Hid (sgn tx r = c) := hc
      rw [hc] at hby
      rw [hc]
      clear hsk hr2 hk2 c0 c1 c2 c3
      go_wp2_with fail
      refine (begins_any w2 B k hk tx r (-1) HR2.out c hby).mono ?_
      rintro e w2' ⟨rfl, rfl⟩
      by_cases hbg : begB k c = true
      · rw [hbg]
        have HDU : Hid (Due k tx 3 p ns 7 false r) := due_cat HF.out HSK.out (by rw [HC.out]; exact hbg) hk.2
        clear hc hbg
        go_wp2_with fail
        refine (HA.out (r) (by omega) (by omega) w2' B HR2.out).mono ?_
        rintro e w3 ⟨u3, ms, q3, bad3, rfl, hr3, hk3, ho3, hrq, hq3, hl3⟩
        have hws0 := (HK2.out).size
        have HO3 : Hid (w3.ownsRow w.heap.size 56 2 u3 ms.length (ndC ms)) := own_mono ho3 hws0
        have HOt : Hid (w3.ownsRow w.heap.size 56 2 (.slice ta ns.length tc) ns.length (ndC ns)) := hk3.own (HO2.out) hBw
        have HK3 : Hid (RK B w w3) := (HK2.out).trans hk3
        have HR3 : Hid (RD w3 B k tx q3 bad3) := hr3
        have hml : ms.length ≤ 3 * (q3 - (r)) := by
          rcases hl3 with ⟨_, h, _⟩ | ⟨_, _, h, _⟩ <;> omega
        have HL3 : Hid ((bad3 = -1 ∧ ms.length + 1 ≤ 3 * (q3 - (r)) ∧ Fine k tx 4 (r) ms q3 ∧ (Skips tx q3 q3 ∧ Stop k 4 (sgn tx q3))) ∨ (∃ z : Nat, bad3 = z ∧ ms.length ≤ 3 * (q3 - (r)) ∧ Bads k tx 4 (r) z)) := hl3.imp (fun h => ⟨h.1, h.2.1, h.2.2.1, h.2.2.2 rfl⟩) id
        clear hr3 hk3 ho3 hl3 d0 d1 d2 d3 f2
        go_wp2_with fail
        refine (rjoin_any _ _ ns ms 7 _ _ _ HOt.out HO3.out (by omega)).mono ?_
        rintro e w5 ⟨v5, rfl, ho5, hb5⟩
        have hws5 := (HK3.out).size
        have hb5' : Below w.heap.size _ w5 := hb5.mono hws5
        have HO5 : Hid (w5.ownsRow w.heap.size 56 2 v5 (ns ++ ms ++ [(7, 0)]).length (ndC (ns ++ ms ++ [(7, 0)]))) := own_mono ho5 hws5
        have HR5 : Hid (RD w5 B k tx q3 bad3) := (HR3.out).keep hb5' hBw
        have HK5 : Hid (RK B w w5) := (HK3.out).more hb5'
        have HL5 : Hid (Left2 k tx 3 p (ns ++ ms ++ [(7, 0)]) q3 bad3) := by
          refine ⟨by omega, hq3, ?_⟩
          have hlen : (ns ++ ms ++ [((7 : Int), (0 : Int))]).length = ns.length + (ms).length + 1 := by rw [List.length_append, List.length_append]; rfl
          rcases HL3.out with ⟨h0, h1, h2, h3⟩ | ⟨z, h0, h1, h2⟩
          · refine .inl ⟨h0, by rw [hlen]; omega, ?_, h3⟩
            have := fine_join HDU.out (by decide) rfl h2
            simpa using this
          · exact .inr ⟨z, h0, by rw [hlen]; omega, bads_join HDU.out (by decide) rfl h2⟩
        have HM : Hid (mea tx w5 B < tx.size + 1 - r) := by
          show _ < _
          rw [mea_eq HR5.out]
          split
          · rcases HL3.out with ⟨h0, h1, _⟩ | ⟨z, h0, _⟩ <;> omega
          · omega
        clear ho5 hb5 hb5'
        go_wp2_with fail
        go_roundw
        case rel => exact ⟨_, q3, bad3, ⟨HR5.out, HK5.out, HO5.out⟩, HL5.out⟩
        case measure =>
          rw [mea_eq HRD.out]
          exact HM.out
      · have hbf : begB k c = false := by simpa using hbg
        have HBF : Hid (begB k c = false) := hbf
        rw [hbf]
        clear hbg hbf hc
        go_wp2_with fail
        go_ret
        exact ⟨_, ns, r, -1, rfl, HR2.out, HK2.out, HO2.out, by omega, by omega, .inl ⟨rfl, by omega, HF.out, fun _ => ⟨HSK.out, by have h0 := HST.out; rw [HC.out] at h0 ⊢; exact ⟨h0.1, fun _ => HBF.out, fun h => absurd h (by decide), fun h => absurd h (by decide)⟩⟩⟩⟩
    · have HBD : Hid (Bads k tx 3 p z) := hb
      have hzI : ¬ (z : Int) < 0 := by omega
      clear hb
      go_wp2_with fail
      go_ret
      exact ⟨_, ns, q, z, rfl, HRD.out, HRK.out, HO.out, hpq, hq, .inr ⟨z, rfl, hln, HBD.out⟩⟩

set_option maxHeartbeats 8000000 in
set_option maxRecDepth 100000 in
theorem inter_of {k : Int} (hk : 1 ≤ k ∧ k ≤ 8) {tx : ByteArray} (hx : tx.size ≤ 1000) {p : Nat} (hp : p ≤ tx.size) (hA : ∀ r, p ≤ r → r ≤ tx.size → Ruled k tx 50 3 true r) : Ruled k tx 36 2 true p := by
  intro w B hR
  have HA : Hid (∀ r, p ≤ r → r ≤ tx.size → Ruled k tx 50 3 true r) := hA
  have HR : Hid (RD w B k tx p (-1)) := hR
  have hBw := hR.lt
  clear hA hR
  go_enter Tryd.func36, Tryd.ntmps36
  go_wp2_with fail
  refine (HA.out p (Nat.le_refl _) hp w B HR.out).mono ?_
  rintro e w1 ⟨u, ns, q, bad, rfl, hr, hkp, ho, hl⟩
  have H1 : Hid (AtW k tx w B u ns q bad w1 ∧ Left2 k tx 2 p ns q bad) := ⟨⟨hr, hkp, ho⟩, left2_of (by decide) hl⟩
  clear hr hkp ho hl
  go_wp2_with fail
  go_loopw [3] (fun vt wr => ∃ ns q bad, AtW k tx w B vt ns q bad wr ∧ Left2 k tx 2 p ns q bad) (fun _ wr => mea tx wr B)
  case atStart => exact ⟨ns, q, bad, H1.out⟩
  case round =>
    clear H1
    obtain ⟨ns, q, bad, ⟨hr, hkp, ho⟩, hpq, hq, hl⟩ := hrel
    obtain ⟨c0, c1, c2, c3⟩ := hr.cells
    obtain ⟨ta, tc, rfl⟩ := own_shape ho
    have HRD : Hid (RD wr B k tx q bad) := hr
    have HRK : Hid (RK B w wr) := hkp
    have HO : Hid (wr.ownsRow w.heap.size 56 2 (.slice ta ns.length tc) ns.length (ndC ns)) := ho
    clear hr hkp ho
    rcases hl with ⟨rfl, hln, hf, hs, hst⟩ | ⟨z, rfl, hln, hb⟩
    · have HF : Hid (Fine k tx 2 p ns q) := hf
      have HST : Hid (Stop k 3 (sgn tx q)) := hst
      have HSK : Hid (Skips tx q q) := hs
      clear hf hst hs
      go_wp2_with fail
      refine (next_any _ B k tx q (-1) HRD.out hq hx).mono ?_
      rintro e w2 ⟨r, hsk, rfl, hr2, hk2⟩
      obtain rfl : r = q := HSK.out.only hsk
      obtain ⟨d0, d1, d2, d3⟩ := hr2.cells
      have f2 := hr2.frozen 2
      have HR2 : Hid (RD w2 B k tx r (-1)) := hr2
      have HK2 : Hid (RK B w w2) := HRK.out.trans hk2
      have HO2 : Hid (w2.ownsRow w.heap.size 56 2 (.slice ta ns.length tc) ns.length (ndC ns)) := hk2.own HO.out hBw
      have hws2 := HK2.out.size
      have hby := sgn_byte tx r
      obtain ⟨c, hc⟩ : ∃ c, sgn tx r = c := ⟨_, rfl⟩
      have HC : Hid (sgn tx r = c) := hc
      rw [hc] at hby
      rw [hc]
      clear hsk hr2 hk2 c0 c1 c2 c3
      by_cases h38 : c = 38
      · subst h38
        have hrl : r < tx.size := sgn_lt (by rw [hc]; decide)
        have hwr : IntKind.i64.wrap ((r : Int) + 1) = ((r + 1 : Nat) : Int) := by rw [IntKind.wrap_i64]; omega
        have HDU : Hid (Due k tx 2 p ns 6 false (r + 1)) := due_of HF.out (by decide) HSK.out hrl 6 false rfl (fun N T => by rw [HC.out]; rfl)
        clear hc
        go_wp2_with fail
        refine (HA.out (r + 1) (by omega) (by omega) (w2.setCell ⟨B, 2, none⟩ (.int .i64 ((r : Int) + 1))) B (HR2.out.set2 (r + 1))).mono ?_
        rintro e w3 ⟨u3, ms, q3, bad3, rfl, hr3, hk3, ho3, hrq, hq3, hl3⟩
        have hws0 := (HK2.out.set 2 (.int .i64 ((r : Int) + 1))).size
        have HO3 : Hid (w3.ownsRow w.heap.size 56 2 u3 ms.length (ndC ms)) := own_mono ho3 hws0
        have HOt : Hid (w3.ownsRow w.heap.size 56 2 (.slice ta ns.length tc) ns.length (ndC ns)) := hk3.own (own_set' HO2.out _ hBw) hBw
        have HK3 : Hid (RK B w w3) := (HK2.out.set 2 (.int .i64 ((r : Int) + 1))).trans hk3
        have HR3 : Hid (RD w3 B k tx q3 bad3) := hr3
        have hml : ms.length ≤ 3 * (q3 - (r + 1)) := by
          rcases hl3 with ⟨_, h, _⟩ | ⟨_, _, h, _⟩ <;> omega
        have HL3 : Hid ((bad3 = -1 ∧ ms.length + 1 ≤ 3 * (q3 - (r + 1)) ∧ Fine k tx 3 (r + 1) ms q3 ∧ (Skips tx q3 q3 ∧ Stop k 3 (sgn tx q3))) ∨ (∃ z : Nat, bad3 = z ∧ ms.length ≤ 3 * (q3 - (r + 1)) ∧ Bads k tx 3 (r + 1) z)) := hl3.imp (fun h => ⟨h.1, h.2.1, h.2.2.1, h.2.2.2 rfl⟩) id
        clear hr3 hk3 ho3 hl3 d0 d1 d2 d3 f2
        go_wp2_with fail
        refine (rjoin_any _ _ ns ms 6 _ _ _ HOt.out HO3.out (by omega)).mono ?_
        rintro e w5 ⟨v5, rfl, ho5, hb5⟩
        have hws5 := (HK3.out).size
        have hb5' : Below w.heap.size _ w5 := hb5.mono hws5
        have HO5 : Hid (w5.ownsRow w.heap.size 56 2 v5 (ns ++ ms ++ [(6, 0)]).length (ndC (ns ++ ms ++ [(6, 0)]))) := own_mono ho5 hws5
        have HR5 : Hid (RD w5 B k tx q3 bad3) := (HR3.out).keep hb5' hBw
        have HK5 : Hid (RK B w w5) := (HK3.out).more hb5'
        have HL5 : Hid (Left2 k tx 2 p (ns ++ ms ++ [(6, 0)]) q3 bad3) := by
          refine ⟨by omega, hq3, ?_⟩
          have hlen : (ns ++ ms ++ [((6 : Int), (0 : Int))]).length = ns.length + (ms).length + 1 := by rw [List.length_append, List.length_append]; rfl
          rcases HL3.out with ⟨h0, h1, h2, h3⟩ | ⟨z, h0, h1, h2⟩
          · refine .inl ⟨h0, by rw [hlen]; omega, ?_, h3⟩
            have := fine_join HDU.out (by decide) rfl h2
            simpa using this
          · exact .inr ⟨z, h0, by rw [hlen]; omega, bads_join HDU.out (by decide) rfl h2⟩
        have HM : Hid (mea tx w5 B < tx.size + 1 - r) := by
          show _ < _
          rw [mea_eq HR5.out]
          split
          · rcases HL3.out with ⟨h0, h1, _⟩ | ⟨z, h0, _⟩ <;> omega
          · omega
        clear ho5 hb5 hb5'
        go_wp2_with fail
        go_roundw
        case rel => exact ⟨_, q3, bad3, ⟨HR5.out, HK5.out, HO5.out⟩, HL5.out⟩
        case measure =>
          rw [mea_eq HRD.out]
          exact HM.out
      by_cases h45 : c = 45
      · subst h45
        have hrl : r < tx.size := sgn_lt (by rw [hc]; decide)
        have hwr : IntKind.i64.wrap ((r : Int) + 1) = ((r + 1 : Nat) : Int) := by rw [IntKind.wrap_i64]; omega
        have HDU : Hid (Due k tx 2 p ns 6 true (r + 1)) := due_of HF.out (by decide) HSK.out hrl 6 true rfl (fun N T => by rw [HC.out]; rfl)
        clear hc
        go_wp2_with fail
        refine (HA.out (r + 1) (by omega) (by omega) (w2.setCell ⟨B, 2, none⟩ (.int .i64 ((r : Int) + 1))) B (HR2.out.set2 (r + 1))).mono ?_
        rintro e w3 ⟨u3, ms, q3, bad3, rfl, hr3, hk3, ho3, hrq, hq3, hl3⟩
        have hws0 := (HK2.out.set 2 (.int .i64 ((r : Int) + 1))).size
        have HO3 : Hid (w3.ownsRow w.heap.size 56 2 u3 ms.length (ndC ms)) := own_mono ho3 hws0
        have HOt : Hid (w3.ownsRow w.heap.size 56 2 (.slice ta ns.length tc) ns.length (ndC ns)) := hk3.own (own_set' HO2.out _ hBw) hBw
        have HK3 : Hid (RK B w w3) := (HK2.out.set 2 (.int .i64 ((r : Int) + 1))).trans hk3
        have HR3 : Hid (RD w3 B k tx q3 bad3) := hr3
        have hml : ms.length ≤ 3 * (q3 - (r + 1)) := by
          rcases hl3 with ⟨_, h, _⟩ | ⟨_, _, h, _⟩ <;> omega
        have HL3 : Hid ((bad3 = -1 ∧ ms.length + 1 ≤ 3 * (q3 - (r + 1)) ∧ Fine k tx 3 (r + 1) ms q3 ∧ (Skips tx q3 q3 ∧ Stop k 3 (sgn tx q3))) ∨ (∃ z : Nat, bad3 = z ∧ ms.length ≤ 3 * (q3 - (r + 1)) ∧ Bads k tx 3 (r + 1) z)) := hl3.imp (fun h => ⟨h.1, h.2.1, h.2.2.1, h.2.2.2 rfl⟩) id
        clear hr3 hk3 ho3 hl3 d0 d1 d2 d3 f2
        go_wp2_with fail
        refine (rjoin_any _ _ ms [] 9 _ _ _ HO3.out (World.ownsRow_nil _ w.heap.size _ _) (by simp; omega)).mono ?_
        rintro e w4 ⟨v4, rfl, ho4, hb4⟩
        have hws4 := HK3.out.size
        have hb4' : Below w.heap.size _ w4 := hb4.mono hws4
        have HO4 : Hid (w4.ownsRow w.heap.size 56 2 v4 (ms ++ [((9 : Int), (0 : Int))]).length (ndC (ms ++ [((9 : Int), (0 : Int))]))) := by
          have := own_mono ho4 hws4
          rw [List.append_nil] at this
          exact this
        have HOt4 : Hid (w4.ownsRow w.heap.size 56 2 (.slice ta ns.length tc) ns.length (ndC ns)) := own_below HOt.out hb4
        have HR4 : Hid (RD w4 B k tx q3 bad3) := HR3.out.keep hb4' hBw
        have HK4 : Hid (RK B w w4) := HK3.out.more hb4'
        clear ho4 hb4 hb4'
        go_wp2_with fail
        refine (rjoin_any _ _ ns (ms ++ [((9 : Int), (0 : Int))]) 6 _ _ _ HOt4.out HO4.out (by simp; omega)).mono ?_
        rintro e w5 ⟨v5, rfl, ho5, hb5⟩
        have hws5 := (HK4.out).size
        have hb5' : Below w.heap.size _ w5 := hb5.mono hws5
        have HO5 : Hid (w5.ownsRow w.heap.size 56 2 v5 (ns ++ (ms ++ [((9 : Int), (0 : Int))]) ++ [(6, 0)]).length (ndC (ns ++ (ms ++ [((9 : Int), (0 : Int))]) ++ [(6, 0)]))) := own_mono ho5 hws5
        have HR5 : Hid (RD w5 B k tx q3 bad3) := (HR4.out).keep hb5' hBw
        have HK5 : Hid (RK B w w5) := (HK4.out).more hb5'
        have HL5 : Hid (Left2 k tx 2 p (ns ++ (ms ++ [((9 : Int), (0 : Int))]) ++ [(6, 0)]) q3 bad3) := by
          refine ⟨by omega, hq3, ?_⟩
          have hlen : (ns ++ (ms ++ [((9 : Int), (0 : Int))]) ++ [((6 : Int), (0 : Int))]).length = ns.length + ((ms ++ [((9 : Int), (0 : Int))])).length + 1 := by rw [List.length_append, List.length_append]; rfl
          rcases HL3.out with ⟨h0, h1, h2, h3⟩ | ⟨z, h0, h1, h2⟩
          · refine .inl ⟨h0, by rw [hlen]; rw [List.length_append]; simp only [List.length_singleton]; omega, ?_, h3⟩
            have := fine_join HDU.out (by decide) rfl h2
            simpa using this
          · exact .inr ⟨z, h0, by rw [hlen]; rw [List.length_append]; simp only [List.length_singleton]; omega, bads_join HDU.out (by decide) rfl h2⟩
        have HM : Hid (mea tx w5 B < tx.size + 1 - r) := by
          show _ < _
          rw [mea_eq HR5.out]
          split
          · rcases HL3.out with ⟨h0, h1, _⟩ | ⟨z, h0, _⟩ <;> omega
          · omega
        clear ho5 hb5 hb5'
        go_wp2_with fail
        go_roundw
        case rel => exact ⟨_, q3, bad3, ⟨HR5.out, HK5.out, HO5.out⟩, HL5.out⟩
        case measure =>
          rw [mea_eq HRD.out]
          exact HM.out
      · have b38 : (c != 38) = true := by simpa using h38
        have b45 : (c != 45) = true := by simpa using h45
        have HNE : Hid (c ≠ 38 ∧ c ≠ 45) := ⟨h38, h45⟩
        clear h38 h45 hc
        go_wp2_with fail
        go_ret
        exact ⟨_, ns, r, -1, rfl, HR2.out, HK2.out, HO2.out, by omega, by omega, .inl ⟨rfl, by omega, HF.out, fun _ => ⟨HSK.out, by have h0 := HST.out; rw [HC.out] at h0 ⊢; exact ⟨h0.1, fun _ => h0.2.1 (by decide), fun _ => HNE.out, fun h => absurd h (by decide)⟩⟩⟩⟩
    · have HBD : Hid (Bads k tx 2 p z) := hb
      have hzI : ¬ (z : Int) < 0 := by omega
      clear hb
      go_wp2_with fail
      go_ret
      exact ⟨_, ns, q, z, rfl, HRD.out, HRK.out, HO.out, hpq, hq, .inr ⟨z, rfl, hln, HBD.out⟩⟩

set_option maxHeartbeats 8000000 in
set_option maxRecDepth 100000 in
theorem union_of {k : Int} (hk : 1 ≤ k ∧ k ≤ 8) {tx : ByteArray} (hx : tx.size ≤ 1000) {p : Nat} (hp : p ≤ tx.size) (hA : ∀ r, p ≤ r → r ≤ tx.size → Ruled k tx 36 2 true r) : Ruled k tx 23 1 true p := by
  intro w B hR
  have HA : Hid (∀ r, p ≤ r → r ≤ tx.size → Ruled k tx 36 2 true r) := hA
  have HR : Hid (RD w B k tx p (-1)) := hR
  have hBw := hR.lt
  clear hA hR
  go_enter Tryd.func23, Tryd.ntmps23
  go_wp2_with fail
  refine (HA.out p (Nat.le_refl _) hp w B HR.out).mono ?_
  rintro e w1 ⟨u, ns, q, bad, rfl, hr, hkp, ho, hl⟩
  have H1 : Hid (AtW k tx w B u ns q bad w1 ∧ Left2 k tx 1 p ns q bad) := ⟨⟨hr, hkp, ho⟩, left2_of (by decide) hl⟩
  clear hr hkp ho hl
  go_wp2_with fail
  go_loopw [3] (fun vt wr => ∃ ns q bad, AtW k tx w B vt ns q bad wr ∧ Left2 k tx 1 p ns q bad) (fun _ wr => mea tx wr B)
  case atStart => exact ⟨ns, q, bad, H1.out⟩
  case round =>
    clear H1
    obtain ⟨ns, q, bad, ⟨hr, hkp, ho⟩, hpq, hq, hl⟩ := hrel
    obtain ⟨c0, c1, c2, c3⟩ := hr.cells
    obtain ⟨ta, tc, rfl⟩ := own_shape ho
    have HRD : Hid (RD wr B k tx q bad) := hr
    have HRK : Hid (RK B w wr) := hkp
    have HO : Hid (wr.ownsRow w.heap.size 56 2 (.slice ta ns.length tc) ns.length (ndC ns)) := ho
    clear hr hkp ho
    rcases hl with ⟨rfl, hln, hf, hs, hst⟩ | ⟨z, rfl, hln, hb⟩
    · have HF : Hid (Fine k tx 1 p ns q) := hf
      have HST : Hid (Stop k 2 (sgn tx q)) := hst
      have HSK : Hid (Skips tx q q) := hs
      clear hf hst hs
      go_wp2_with fail
      refine (next_any _ B k tx q (-1) HRD.out hq hx).mono ?_
      rintro e w2 ⟨r, hsk, rfl, hr2, hk2⟩
      obtain rfl : r = q := HSK.out.only hsk
      obtain ⟨d0, d1, d2, d3⟩ := hr2.cells
      have f2 := hr2.frozen 2
      have HR2 : Hid (RD w2 B k tx r (-1)) := hr2
      have HK2 : Hid (RK B w w2) := HRK.out.trans hk2
      have HO2 : Hid (w2.ownsRow w.heap.size 56 2 (.slice ta ns.length tc) ns.length (ndC ns)) := hk2.own HO.out hBw
      have hws2 := HK2.out.size
      have hby := sgn_byte tx r
      obtain ⟨c, hc⟩ : ∃ c, sgn tx r = c := ⟨_, rfl⟩
      have HC : Hid (sgn tx r = c) := hc
      rw [hc] at hby
      rw [hc]
      clear hsk hr2 hk2 c0 c1 c2 c3
      by_cases h124 : c = 124
      · subst h124
        have hrl : r < tx.size := sgn_lt (by rw [hc]; decide)
        have hwr : IntKind.i64.wrap ((r : Int) + 1) = ((r + 1 : Nat) : Int) := by rw [IntKind.wrap_i64]; omega
        have HDU : Hid (Due k tx 1 p ns 5 false (r + 1)) := due_of HF.out (by decide) HSK.out hrl 5 false rfl (fun N T => by rw [HC.out]; rfl)
        clear hc
        go_wp2_with fail
        refine (HA.out (r + 1) (by omega) (by omega) (w2.setCell ⟨B, 2, none⟩ (.int .i64 ((r : Int) + 1))) B (HR2.out.set2 (r + 1))).mono ?_
        rintro e w3 ⟨u3, ms, q3, bad3, rfl, hr3, hk3, ho3, hrq, hq3, hl3⟩
        have hws0 := (HK2.out.set 2 (.int .i64 ((r : Int) + 1))).size
        have HO3 : Hid (w3.ownsRow w.heap.size 56 2 u3 ms.length (ndC ms)) := own_mono ho3 hws0
        have HOt : Hid (w3.ownsRow w.heap.size 56 2 (.slice ta ns.length tc) ns.length (ndC ns)) := hk3.own (own_set' HO2.out _ hBw) hBw
        have HK3 : Hid (RK B w w3) := (HK2.out.set 2 (.int .i64 ((r : Int) + 1))).trans hk3
        have HR3 : Hid (RD w3 B k tx q3 bad3) := hr3
        have hml : ms.length ≤ 3 * (q3 - (r + 1)) := by
          rcases hl3 with ⟨_, h, _⟩ | ⟨_, _, h, _⟩ <;> omega
        have HL3 : Hid ((bad3 = -1 ∧ ms.length + 1 ≤ 3 * (q3 - (r + 1)) ∧ Fine k tx 2 (r + 1) ms q3 ∧ (Skips tx q3 q3 ∧ Stop k 2 (sgn tx q3))) ∨ (∃ z : Nat, bad3 = z ∧ ms.length ≤ 3 * (q3 - (r + 1)) ∧ Bads k tx 2 (r + 1) z)) := hl3.imp (fun h => ⟨h.1, h.2.1, h.2.2.1, h.2.2.2 rfl⟩) id
        clear hr3 hk3 ho3 hl3 d0 d1 d2 d3 f2
        go_wp2_with fail
        refine (rjoin_any _ _ ns ms 5 _ _ _ HOt.out HO3.out (by omega)).mono ?_
        rintro e w5 ⟨v5, rfl, ho5, hb5⟩
        have hws5 := (HK3.out).size
        have hb5' : Below w.heap.size _ w5 := hb5.mono hws5
        have HO5 : Hid (w5.ownsRow w.heap.size 56 2 v5 (ns ++ ms ++ [(5, 0)]).length (ndC (ns ++ ms ++ [(5, 0)]))) := own_mono ho5 hws5
        have HR5 : Hid (RD w5 B k tx q3 bad3) := (HR3.out).keep hb5' hBw
        have HK5 : Hid (RK B w w5) := (HK3.out).more hb5'
        have HL5 : Hid (Left2 k tx 1 p (ns ++ ms ++ [(5, 0)]) q3 bad3) := by
          refine ⟨by omega, hq3, ?_⟩
          have hlen : (ns ++ ms ++ [((5 : Int), (0 : Int))]).length = ns.length + (ms).length + 1 := by rw [List.length_append, List.length_append]; rfl
          rcases HL3.out with ⟨h0, h1, h2, h3⟩ | ⟨z, h0, h1, h2⟩
          · refine .inl ⟨h0, by rw [hlen]; omega, ?_, h3⟩
            have := fine_join HDU.out (by decide) rfl h2
            simpa using this
          · exact .inr ⟨z, h0, by rw [hlen]; omega, bads_join HDU.out (by decide) rfl h2⟩
        have HM : Hid (mea tx w5 B < tx.size + 1 - r) := by
          show _ < _
          rw [mea_eq HR5.out]
          split
          · rcases HL3.out with ⟨h0, h1, _⟩ | ⟨z, h0, _⟩ <;> omega
          · omega
        clear ho5 hb5 hb5'
        go_wp2_with fail
        go_roundw
        case rel => exact ⟨_, q3, bad3, ⟨HR5.out, HK5.out, HO5.out⟩, HL5.out⟩
        case measure =>
          rw [mea_eq HRD.out]
          exact HM.out
      · have b124 : (c == 124) = false := by simpa using h124
        have HNE : Hid (c ≠ 124) := h124
        clear h124 hc
        go_wp2_with fail
        go_ret
        exact ⟨_, ns, r, -1, rfl, HR2.out, HK2.out, HO2.out, by omega, by omega, .inl ⟨rfl, by omega, HF.out, fun _ => ⟨HSK.out, by have h0 := HST.out; rw [HC.out] at h0 ⊢; exact ⟨h0.1, fun _ => h0.2.1 (by decide), fun _ => h0.2.2.1 (by decide), fun _ => HNE.out⟩⟩⟩⟩
    · have HBD : Hid (Bads k tx 1 p z) := hb
      have hzI : ¬ (z : Int) < 0 := by omega
      clear hb
      go_wp2_with fail
      go_ret
      exact ⟨_, ns, q, z, rfl, HRD.out, HRK.out, HO.out, hpq, hq, .inr ⟨z, rfl, hln, HBD.out⟩⟩
end Go.Proofs.YtjonlmafhijcoaaDoor
