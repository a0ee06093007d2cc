/- The document's rules: post and prefix, out of atom. -/
import Derived.Test.YtjonlmafhijcoaaDoorVj
namespace Go.Proofs.YtjonlmafhijcoaaDoor
open Go Go.RowKit
set_option linter.unusedVariables false

theorem RK.more {B : Nat} {w a b : World} (h : RK B w a) (hb : Below w.heap.size a b) : RK B w b :=
  ⟨hb.os.trans h.os, hb.tape.trans h.tape, hb.output.trans h.output, Nat.le_trans h.size hb.size, fun j hj hB => (hb.block j hj).trans (h.block j hj hB)⟩
theorem RD.keep {w w' : World} {n B : Nat} {k : Int} {tx : ByteArray} {p : Nat} {bad : Int} (h : RD w B k tx p bad) (hb : Below n w w') (hB : B < n) : RD w' B k tx p bad := (hb.block B hB).trans h
theorem own_set' {w : World} {base : Nat} {e : TypeId} {size n : Nat} {v : Value} {xs : List Value} (h : w.ownsRow base e size v n xs) {B i : Nat} (u : Value) (hB : B < base) : (w.setCell ⟨B, i, none⟩ u).ownsRow base e size v n xs := own_set h u hB
/-- The world at a rule's loop. -/
def AtW (k : Int) (tx : ByteArray) (w : World) (B : Nat) (vt : Value) (ns : List Nd) (q : Nat) (bad : Int) (wr : World) : Prop :=
  RD wr B k tx q bad ∧ RK B w wr ∧ wr.ownsRow w.heap.size 56 2 vt ns.length (ndC ns)

set_option maxHeartbeats 8000000 in
set_option maxRecDepth 100000 in
theorem post_of {k : Int} {tx : ByteArray} (hx : tx.size ≤ 1000) {p : Nat} (hp : p ≤ tx.size) (hA : Ruled k tx 60 5 false p) : Ruled k tx 57 5 true p := by
  intro w B hR
  have HA : Hid (Ruled k tx 60 5 false p) := hA
  have HR : Hid (RD w B k tx p (-1)) := hR
  have hBw := hR.lt
  clear hA hR
  go_enter Tryd.func57, Tryd.ntmps57
  go_wp2_with fail
  refine (HA.out w B HR.out).mono ?_
  rintro e w1 ⟨u, ns, q, bad, rfl, hr, hkp, ho, hl⟩
  have H1 : Hid (AtW k tx w B u ns q bad w1 ∧ Left k tx 5 false p ns q bad) := ⟨⟨hr, hkp, ho⟩, hl⟩
  clear hr hkp ho hl
  go_wp2_with fail
  go_loopw [3] (fun vt wr => ∃ ns q bad, AtW k tx w B vt ns q bad wr ∧ Left k tx 5 false p ns q bad) (fun _ wr => tx.size - atN wr B)
  case atStart => exact ⟨ns, q, bad, H1.out⟩
  case round =>
    clear H1
    obtain ⟨ns, q, bad, ⟨hr, hkp, ho⟩, hpq, hq, hl⟩ := hrel
    obtain ⟨c0, c1, c2, c3⟩ := hr.cells
    obtain ⟨ta, tc, rfl⟩ := own_shape ho
    have HRD : Hid (RD wr B k tx q bad) := hr
    have HRK : Hid (RK B w wr) := hkp
    have HO : Hid (wr.ownsRow w.heap.size 56 2 (.slice ta ns.length tc) ns.length (ndC ns)) := ho
    clear hr hkp ho
    rcases hl with ⟨rfl, hln, hf, _⟩ | ⟨z, rfl, hln, hb⟩
    · have HF : Hid (Fine k tx 5 p ns q) := hf
      clear hf
      go_wp2_with fail
      refine (next_any _ B k tx q (-1) HRD.out hq hx).mono ?_
      rintro e w2 ⟨r, hsk, rfl, hr2, hk2⟩
      have hqr := hsk.1
      have hrs := hsk.2.1
      obtain ⟨d0, d1, d2, d3⟩ := hr2.cells
      have f2 := hr2.frozen 2
      have hby := sgn_byte tx r
      have HSK : Hid (Skips tx q r) := hsk
      have HR2 : Hid (RD w2 B k tx r (-1)) := hr2
      have HK2 : Hid (RK B w w2) := HRK.out.trans hk2
      have HO2 : Hid (w2.ownsRow w.heap.size 56 2 (.slice ta ns.length tc) ns.length (ndC ns)) := hk2.own HO.out hBw
      have hws2 := HK2.out.size
      obtain ⟨c, hc⟩ : ∃ c, sgn tx r = c := ⟨_, rfl⟩
      have HC : Hid (sgn tx r = c) := hc
      rw [hc]
      clear hsk hr2 hk2 c0 c1 c2 c3 hby
      by_cases h42 : c = 42
      · subst h42
        have hrl : r < tx.size := sgn_lt (by rw [hc]; decide)
        have hwr : IntKind.i64.wrap ((r : Int) + 1) = ((r + 1 : Nat) : Int) := by rw [IntKind.wrap_i64]; omega
        have HN : Hid ((w2.alloc (.cells #[.int .i64 8, .int .u8 0] 56)).ownsRow w2.heap.size 56 2 (.slice (some ⟨w2.heap.size, 0, none⟩) [((8 : Int), (0 : Int))].length 1) [((8 : Int), (0 : Int))].length (ndC [(8, 0)])) := own_new1 w2 _ _
        clear hc
        go_wp2_with (at_builtin; refine append_nodes rfl _ _ rfl w.heap.size _ _ _ rfl (HO2.out.alloc _) w2.heap.size _ [(8, 0)] rfl HN.out (by simp; omega) (by simp; omega) ?_)
        intro v4 w4 ho4 hb4
        have hb4' : Below w.heap.size w2 w4 := ((Below.refl _ _).alloc hws2 _).trans hb4
        have HO4 : Hid (w4.ownsRow w.heap.size 56 2 v4 (ns ++ [(8, 0)]).length (ndC (ns ++ [(8, 0)]))) := by
          show World.ownsRow _ _ _ _ _ _ _
          rw [ndC_append, List.length_append]
          exact ho4
        have HR4 : Hid (RD w4 B k tx r (-1)) := HR2.out.keep hb4' hBw
        have HK4 : Hid (RK B w w4) := HK2.out.more hb4'
        obtain ⟨e0, e1, e2, e3⟩ := HR4.out.cells
        have g2 := HR4.out.frozen 2
        clear ho4 hb4 hb4' d0 d1 d2 d3 f2
        go_wp2_with fail
        go_roundw
        case rel => exact ⟨_, r + 1, -1, ⟨HR4.out.set2 (r + 1), HK4.out.set _ _, own_set' HO4.out _ hBw⟩, by omega, by omega, .inl ⟨rfl, by rw [List.length_append]; simp only [List.length_singleton]; omega, fine_star HF.out HSK.out HC.out, fun h => by cases h⟩⟩
        case measure =>
          rw [atN_eq HRD.out]
          have h9 := atN_eq (HR4.out.set2 (r + 1))
          have h9' : atN (w4.setCell ⟨B, 2, none⟩ (.int .i64 ((r : Int) + 1))) B = r + 1 := h9
          rw [h9']
          omega
      by_cases h63 : c = 63
      · subst h63
        have hrl : r < tx.size := sgn_lt (by rw [hc]; decide)
        have hwr : IntKind.i64.wrap ((r : Int) + 1) = ((r + 1 : Nat) : Int) := by rw [IntKind.wrap_i64]; omega
        clear hc
        go_wp2_with fail
        refine (rleaf_any 2 0 _).mono ?_
        rintro e w3 ⟨v3, rfl, ho3, hb3⟩
        have HO3 : Hid (w3.ownsRow w2.heap.size 56 2 v3 [((2 : Int), (0 : Int))].length (ndC [(2, 0)])) := ho3
        have HOt : Hid (w3.ownsRow w.heap.size 56 2 (.slice ta ns.length tc) ns.length (ndC ns)) := own_below HO2.out hb3
        have hb3' : Below w.heap.size w2 w3 := hb3.mono hws2
        have HR3 : Hid (RD w3 B k tx r (-1)) := HR2.out.keep hb3' hBw
        have HK3 : Hid (RK B w w3) := HK2.out.more hb3'
        clear ho3 hb3 hb3'
        go_wp2_with fail
        refine (rjoin_any _ _ ns [(2, 0)] 5 _ _ _ HOt.out HO3.out (by simp; omega)).mono ?_
        rintro e w4 ⟨v4, rfl, ho4, hb4⟩
        have hws3 := HK3.out.size
        have hb4' : Below w.heap.size w3 w4 := hb4.mono hws3
        have HO4 : Hid (w4.ownsRow w.heap.size 56 2 v4 (ns ++ [(2, 0)] ++ [(5, 0)]).length (ndC (ns ++ [(2, 0)] ++ [(5, 0)]))) := own_mono ho4 hws3
        have HR4 : Hid (RD w4 B k tx r (-1)) := HR3.out.keep hb4' hBw
        have HK4 : Hid (RK B w w4) := HK3.out.more hb4'
        obtain ⟨e0, e1, e2, e3⟩ := HR4.out.cells
        have g2 := HR4.out.frozen 2
        clear ho4 hb4 hb4' d0 d1 d2 d3 f2
        go_wp2_with fail
        go_roundw
        case rel => exact ⟨_, r + 1, -1, ⟨HR4.out.set2 (r + 1), HK4.out.set _ _, own_set' HO4.out _ hBw⟩, by omega, by omega, .inl ⟨rfl, by rw [List.length_append, List.length_append]; simp only [List.length_singleton]; omega, fine_opt HF.out HSK.out HC.out, fun h => by cases h⟩⟩
        case measure =>
          rw [atN_eq HRD.out]
          have h9 := atN_eq (HR4.out.set2 (r + 1))
          have h9' : atN (w4.setCell ⟨B, 2, none⟩ (.int .i64 ((r : Int) + 1))) B = r + 1 := h9
          rw [h9']
          omega
      · have b42 : (c == 42) = false := by simpa using h42
        have b63 : (c == 63) = false := by simpa using h63
        have HST : Hid (c ≠ 42 ∧ c ≠ 63) := ⟨h42, h63⟩
        clear h42 h63 hc
        go_wp2_with fail
        go_ret
        exact ⟨_, ns, r, -1, rfl, HR2.out, HK2.out, HO2.out, by omega, by omega, .inl ⟨rfl, by omega, fine_skip HF.out HSK.out, fun _ => ⟨HSK.out.refl', by rw [HC.out]; exact ⟨HST.out, fun h => by omega, fun h => by omega, fun h => by omega⟩⟩⟩⟩
    · have HBD : Hid (Bads k tx 5 p z) := hb
      have hzI : ¬ (z : Int) < 0 := by omega
      clear hb
      go_wp2_with fail
      go_ret
      exact ⟨_, ns, q, z, rfl, HRD.out, HRK.out, HO.out, hpq, hq, .inr ⟨z, rfl, hln, HBD.out⟩⟩
end Go.Proofs.YtjonlmafhijcoaaDoor
