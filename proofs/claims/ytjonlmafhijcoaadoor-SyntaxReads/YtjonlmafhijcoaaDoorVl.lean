/- The document's rules: prefix, out of post. -/
import Derived.Test.YtjonlmafhijcoaaDoorVk
namespace Go.Proofs.YtjonlmafhijcoaaDoor
open Go Go.RowKit
set_option linter.unusedVariables false

set_option maxHeartbeats 8000000 in
set_option maxRecDepth 100000 in
theorem prefix_of {k : Int} {tx : ByteArray} (hx : tx.size ≤ 1000) {p : Nat} (hp : p ≤ tx.size) (hA : ∀ r, p ≤ r → r ≤ tx.size → Skips tx r r → sgn tx r ≠ 33 → Ruled k tx 57 5 true r) : Ruled k tx 54 4 true p := by
  intro w B hR
  have HA : Hid (∀ r, p ≤ r → r ≤ tx.size → Skips tx r r → sgn tx r ≠ 33 → Ruled k tx 57 5 true r) := hA
  have HR : Hid (RD w B k tx p (-1)) := hR
  have hBw := hR.lt
  clear hA hR
  go_enter Tryd.func54, Tryd.ntmps54
  go_wp2_with fail
  go_loopw [3] (fun vn wr => ∃ n q : Nat, vn = .int .i64 n ∧ p ≤ q ∧ q ≤ tx.size ∧ n ≤ q - p ∧ RD wr B k tx q (-1) ∧ RK B w wr ∧ ∀ N T, FF k tx p (true, N, T) = FF k tx q (true, N, List.replicate n (9, false) ++ T)) (fun _ wr => tx.size - atN wr B)
  case atStart => exact ⟨0, p, rfl, Nat.le_refl _, hp, Nat.zero_le _, HR.out, RK.refl _ _, fun N T => rfl⟩
  case round =>
    obtain ⟨n, q, rfl, hpq, hq, hn, hr, hkp, hff⟩ := hrel
    obtain ⟨c0, c1, c2, c3⟩ := hr.cells
    have HRD : Hid (RD wr B k tx q (-1)) := hr
    have HRK : Hid (RK B w wr) := hkp
    have HFF : Hid (∀ N T, FF k tx p (true, N, T) = FF k tx q (true, N, List.replicate n (9, false) ++ T)) := hff
    clear hr hkp hff
    go_wp2_with fail
    refine (next_any _ B k tx q (-1) HRD.out hq hx).mono ?_
    rintro e w2 ⟨r, hsk, rfl, hr2, hk2⟩
    have hqr := hsk.1
    have hrs := hsk.2.1
    obtain ⟨d0, d1, d2, d3⟩ := hr2.cells
    have f2 := hr2.frozen 2
    have HSK : Hid (Skips tx q r) := hsk
    have HR2 : Hid (RD w2 B k tx r (-1)) := hr2
    have HK2 : Hid (RK B w w2) := HRK.out.trans hk2
    have hws2 := HK2.out.size
    obtain ⟨c, hc⟩ : ∃ c, sgn tx r = c := ⟨_, rfl⟩
    have HC : Hid (sgn tx r = c) := hc
    rw [hc]
    clear hsk hr2 hk2 c0 c1 c2 c3
    by_cases h33 : c = 33
    · subst h33
      have hrl : r < tx.size := sgn_lt (by rw [hc]; decide)
      have hwr : IntKind.i64.wrap ((r : Int) + 1) = ((r + 1 : Nat) : Int) := by rw [IntKind.wrap_i64]; omega
      have hwn : IntKind.i64.wrap ((n : Int) + 1) = ((n + 1 : Nat) : Int) := by rw [IntKind.wrap_i64]; omega
      clear hc
      go_wp2_with fail
      go_roundw
      case rel => exact ⟨n + 1, r + 1, rfl, by omega, by omega, by omega, HR2.out.set2 (r + 1), HK2.out.set _ _, fun N T => nots_lead n N T (HFF.out N T) HSK.out HC.out⟩
      case measure =>
        rw [atN_eq HRD.out]
        have h9' : atN (w2.setCell ⟨B, 2, none⟩ (.int .i64 ((r : Int) + 1))) B = r + 1 := atN_eq (HR2.out.set2 (r + 1))
        rw [h9']
        omega
    · have b33 : (c == 33) = false := by simpa using h33
      have HN33 : Hid (sgn tx r ≠ 33) := by show _ ≠ _; rw [hc]; exact h33
      clear h33 hc
      go_wp2_with fail
      refine (HA.out r (by omega) hrs HSK.out.refl' HN33.out w2 B HR2.out).mono ?_
      rintro e w3 ⟨u3, ns, q3, bad, rfl, hr3, hk3, ho3, hrq, hq3, hl3⟩
      have HO3 : Hid (w3.ownsRow w.heap.size 56 2 u3 ns.length (ndC ns)) := own_mono ho3 hws2
      have HK3 : Hid (RK B w w3) := HK2.out.trans hk3
      have HR3 : Hid (RD w3 B k tx q3 bad) := hr3
      have HL3 : Hid ((bad = -1 ∧ ns.length + 1 ≤ 3 * (q3 - r) ∧ Fine k tx 5 r ns q3 ∧ (Skips tx q3 q3 ∧ Stop k 5 (sgn tx q3))) ∨ (∃ z : Nat, bad = z ∧ ns.length ≤ 3 * (q3 - r) ∧ Bads k tx 5 r z)) := hl3.imp (fun h => ⟨h.1, h.2.1, h.2.2.1, h.2.2.2 rfl⟩) id
      have HF2 : Hid (∀ N T, FF k tx p (true, N, T) = FF k tx r (true, N, List.replicate n (9, false) ++ T)) := fun N T => (HFF.out N T).trans (FF_skip HSK.out _)
      have hlen : ns.length ≤ 3 * (q3 - r) := by
        rcases hl3 with ⟨_, h, _⟩ | ⟨_, _, h, _⟩ <;> omega
      have hbad : bad = -1 ∨ 0 ≤ bad := by
        rcases hl3 with ⟨h, _⟩ | ⟨z, h, _⟩
        · exact .inl h
        · exact .inr (by omega)
      have hnp : n + p ≤ r := Nat.le_trans (Nat.add_le_of_le_sub hpq hn) hqr
      clear hr3 hk3 ho3 hl3 d0 d1 d2 d3 f2 HSK HR2 HK2 HFF HRD HRK HN33 b33 HC
      go_wp2_with fail
      go_loopw [3, 4] (fun vn vt wr => ∃ m j : Nat, vn = .int .i64 m ∧ m + j = n ∧ (bad ≠ -1 → j = 0) ∧ AtW k tx w B vt (ns ++ List.replicate j (9, 0)) q3 bad wr) (fun vn _ _ => (intOf vn).toNat)
      case atStart => exact ⟨n, 0, rfl, rfl, fun _ => rfl, HR3.out, HK3.out, by simpa using HO3.out⟩
      case round =>
        clear HO3 HK3 HR3
        obtain ⟨m, j, rfl, hmj, hj0, hr4, hk4, ho4⟩ := hrel
        obtain ⟨c0, c1, c2, c3⟩ := hr4.cells
        obtain ⟨ta, tc, rfl⟩ := own_shape ho4
        have HR4 : Hid (RD wr B k tx q3 bad) := hr4
        have HK4 : Hid (RK B w wr) := hk4
        have HO4 : Hid (wr.ownsRow w.heap.size 56 2 (.slice ta (ns ++ List.replicate j (9, 0)).length tc) (ns ++ List.replicate j (9, 0)).length (ndC (ns ++ List.replicate j (9, 0)))) := ho4
        have hws4 := hk4.size
        have hll : (ns ++ List.replicate j ((9 : Int), (0 : Int))).length ≤ 4000 := by rw [List.length_append, List.length_replicate]; omega
        clear hr4 hk4 ho4
        by_cases hgo : 0 < m ∧ bad = -1
        · obtain ⟨hm, rfl⟩ := hgo
          have hmI : (0 : Int) < m := by omega
          have hwm : IntKind.i64.wrap ((m : Int) - 1) = ((m - 1 : Nat) : Int) := by rw [IntKind.wrap_i64]; omega
          have HN : Hid ((wr.alloc (.cells #[.int .i64 9, .int .u8 0] 56)).ownsRow wr.heap.size 56 2 (.slice (some ⟨wr.heap.size, 0, none⟩) [((9 : Int), (0 : Int))].length 1) [((9 : Int), (0 : Int))].length (ndC [(9, 0)])) := own_new1 wr _ _
          have HLL : Hid ((ns ++ List.replicate j ((9 : Int), (0 : Int))).length ≤ 4000) := hll
          clear hll
          generalize hL : (ns ++ List.replicate j ((9 : Int), (0 : Int))) = L at *
          have HLE : Hid (ns ++ List.replicate j ((9 : Int), (0 : Int)) = L) := hL
          clear hL
          go_wp2_with (at_builtin; refine append_nodes rfl _ _ rfl w.heap.size _ _ _ rfl (HO4.out.alloc _) wr.heap.size _ [(9, 0)] rfl HN.out (by have := HLL.out; simp; omega) (by simp; omega) ?_)
          intro v5 w5 ho5 hb5
          have hb5' : Below w.heap.size wr w5 := ((Below.refl _ _).alloc hws4 _).trans hb5
          have HO5 : Hid (w5.ownsRow w.heap.size 56 2 v5 (ns ++ List.replicate (j + 1) (9, 0)).length (ndC (ns ++ List.replicate (j + 1) (9, 0)))) := by
            show World.ownsRow _ _ _ _ _ _ _
            rw [show List.replicate (j + 1) ((9 : Int), (0 : Int)) = List.replicate j (9, 0) ++ [(9, 0)] from List.replicate_succ', ← List.append_assoc, HLE.out, ndC_append, List.length_append]
            exact ho5
          have HR5 : Hid (RD w5 B k tx q3 (-1)) := HR4.out.keep hb5' hBw
          have HK5 : Hid (RK B w w5) := HK4.out.more hb5'
          clear ho5 hb5 hb5'
          go_wp2_with fail
          go_roundw
          case rel => exact ⟨m - 1, j + 1, rfl, by omega, fun h => absurd rfl h, HR5.out, HK5.out, HO5.out⟩
          case measure => simp [intOf]; omega
        · have HDN : Hid (¬ (0 < m ∧ bad = -1)) := hgo
          have HE : Hid (REnd k tx 4 true p w B (.returned (.slice ta (ns ++ List.replicate j (9, 0)).length tc)) wr) := by
            refine ⟨_, _, q3, bad, rfl, HR4.out, HK4.out, HO4.out, by omega, hq3, ?_⟩
            rcases HL3.out with ⟨rfl, h1, h2, h3⟩ | ⟨z, rfl, h1, h2⟩
            · have hm0 : m = 0 := by
                by_cases h : 0 < m
                · exact absurd ⟨h, rfl⟩ hgo
                · omega
              obtain rfl : j = n := by omega
              refine .inl ⟨rfl, by rw [List.length_append, List.length_replicate]; omega, fine_nots HF2.out h2, fun _ => ⟨h3.1, h3.2.1, fun h => by omega, fun h => by omega, fun h => by omega⟩⟩
            · obtain rfl : j = 0 := hj0 (by omega)
              refine .inr ⟨z, rfl, by rw [List.length_append, List.length_replicate]; omega, bads_nots HF2.out h2⟩
          generalize hL : (ns ++ List.replicate j ((9 : Int), (0 : Int))) = L at *
          by_cases hm : 0 < m
          · have hmI : (0 : Int) < m := by omega
            have hbn : ¬ bad < 0 := by
              rcases hbad with h | h
              · exact absurd ⟨hm, h⟩ hgo
              · omega
            clear hgo hbad hL
            go_wp2_with fail
            go_ret
            exact HE.out
          · have hmI : ¬ (0 : Int) < m := by omega
            clear hgo hbad hL
            go_wp2_with fail
            go_ret
            exact HE.out
end Go.Proofs.YtjonlmafhijcoaaDoor
