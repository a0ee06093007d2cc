/- The document's rules: atom, out of union; all of them, at every place. -/
import Derived.Test.YtjonlmafhijcoaaDoorVm
namespace Go.Proofs.YtjonlmafhijcoaaDoor
open Go Go.RowKit
set_option linter.unusedVariables false

set_option maxHeartbeats 8000000 in
set_option maxRecDepth 100000 in
theorem atom_of {k : Int} (hk : 1 ≤ k ∧ k ≤ 8) {tx : ByteArray} (hx : tx.size ≤ 1000) {p : Nat} (hp : p ≤ tx.size) (hs : Skips tx p p) (h33 : sgn tx p ≠ 33) (hA : ∀ r, p < r → r ≤ tx.size → Ruled k tx 23 1 true r) : Ruled k tx 60 5 false p := by
  intro w B hR
  have HA : Hid (∀ r, p < r → r ≤ tx.size → Ruled k tx 23 1 true r) := hA
  have HR : Hid (RD w B k tx p (-1)) := hR
  have HSK : Hid (Skips tx p p) := hs
  have hBw := hR.lt
  have hby := sgn_byte tx p
  obtain ⟨c, hc⟩ : ∃ c, sgn tx p = c := ⟨_, rfl⟩
  have HC : Hid (sgn tx p = c) := hc
  rw [hc] at hby h33
  clear hA hR hs
  go_enter Tryd.func60, Tryd.ntmps60
  go_wp2_with fail
  refine (next_any _ B k tx p (-1) HR.out hp hx).mono ?_
  rintro e w2 ⟨r, hsk, rfl, hr2, hk2⟩
  have hrp : p = r := (HSK.out.only hsk).symm
  subst hrp
  obtain ⟨d0, d1, d2, d3⟩ := hr2.cells
  have f2 := hr2.frozen 2
  have HR2 : Hid (RD w2 B k tx p (-1)) := hr2
  have HK2 : Hid (RK B w w2) := hk2
  have hws2 := HK2.out.size
  rw [hc]
  clear hsk hr2 hk2 HR
  go_wp2_with fail
  refine (begins_any w2 B k hk tx p (-1) HR2.out c hby).mono ?_
  rintro e w2' ⟨rfl, hw2⟩
  have hw2 := hw2.symm
  subst hw2
  by_cases hbg : begB k c = true
  · rw [hbg]
    have b33 : (c == 33) = false := by simpa using h33
    have hpl : p < tx.size := sgn_lt (by
      rw [hc]
      intro h0
      rw [h0] at hbg
      have hk8 := hk.2
      simp [begB, isL] at hbg)
    have hwr : IntKind.i64.wrap ((p : Int) + 1) = ((p + 1 : Nat) : Int) := by rw [IntKind.wrap_i64]; omega
    have HBG : Hid (begB k c = true) := hbg
    clear hbg hc
    by_cases h48 : c = 48
    · subst h48
      have HLF : Hid (∀ N T, beginS k (sgn tx p) N T = some (false, N ++ [(1, 0)], T)) := fun N T => by rw [HC.out]; rfl
      go_wp2_with fail
      refine (rleaf_any 1 0 _).mono ?_
      rintro e w3 ⟨u3, rfl, ho3, hb3⟩
      have HS2 := HK2.out.set 2 (.int .i64 ((p : Int) + 1))
      have hws3 := HS2.size
      have hb3' : Below w.heap.size _ w3 := hb3.mono hws3
      have HE : Hid (REnd k tx 5 false p w B (.returned u3) w3) :=
        ⟨u3, [(1, 0)], p + 1, -1, rfl, (HR2.out.set2 (p + 1)).keep hb3' hBw, HS2.more hb3', own_mono ho3 hws3, by omega, by omega, .inl ⟨rfl, by simp only [List.length_singleton]; omega, atom_leaf HSK.out hpl (1, 0) HLF.out, fun h => by cases h⟩⟩
      clear ho3 hb3 hb3' HS2
      go_wp2_with fail
      go_ret
      exact HE.out
    have b48 : (c == 48) = false := by simpa using h48
    by_cases h49 : c = 49
    · subst h49
      have HLF : Hid (∀ N T, beginS k (sgn tx p) N T = some (false, N ++ [(2, 0)], T)) := fun N T => by rw [HC.out]; rfl
      go_wp2_with fail
      refine (rleaf_any 2 0 _).mono ?_
      rintro e w3 ⟨u3, rfl, ho3, hb3⟩
      have HS2 := HK2.out.set 2 (.int .i64 ((p : Int) + 1))
      have hws3 := HS2.size
      have hb3' : Below w.heap.size _ w3 := hb3.mono hws3
      have HE : Hid (REnd k tx 5 false p w B (.returned u3) w3) :=
        ⟨u3, [(2, 0)], p + 1, -1, rfl, (HR2.out.set2 (p + 1)).keep hb3' hBw, HS2.more hb3', own_mono ho3 hws3, by omega, by omega, .inl ⟨rfl, by simp only [List.length_singleton]; omega, atom_leaf HSK.out hpl (2, 0) HLF.out, fun h => by cases h⟩⟩
      clear ho3 hb3 hb3' HS2
      go_wp2_with fail
      go_ret
      exact HE.out
    have b49 : (c == 49) = false := by simpa using h49
    by_cases h46 : c = 46
    · subst h46
      have HLF : Hid (∀ N T, beginS k (sgn tx p) N T = some (false, N ++ [(4, 0)], T)) := fun N T => by rw [HC.out]; rfl
      go_wp2_with fail
      refine (rleaf_any 4 0 _).mono ?_
      rintro e w3 ⟨u3, rfl, ho3, hb3⟩
      have HS2 := HK2.out.set 2 (.int .i64 ((p : Int) + 1))
      have hws3 := HS2.size
      have hb3' : Below w.heap.size _ w3 := hb3.mono hws3
      have HE : Hid (REnd k tx 5 false p w B (.returned u3) w3) :=
        ⟨u3, [(4, 0)], p + 1, -1, rfl, (HR2.out.set2 (p + 1)).keep hb3' hBw, HS2.more hb3', own_mono ho3 hws3, by omega, by omega, .inl ⟨rfl, by simp only [List.length_singleton]; omega, atom_leaf HSK.out hpl (4, 0) HLF.out, fun h => by cases h⟩⟩
      clear ho3 hb3 hb3' HS2
      go_wp2_with fail
      go_ret
      exact HE.out
    have b46 : (c == 46) = false := by simpa using h46
    by_cases h40 : c = 40
    · subst h40
      go_wp2_with fail
      refine (HA.out (p + 1) (by omega) (by omega) _ B (HR2.out.set2 (p + 1))).mono ?_
      rintro e w3 ⟨u3, ms, q3, bad3, rfl, hr3, hk3, ho3, hrq, hq3, hl3⟩
      have HS2 := HK2.out.set 2 (.int .i64 ((p : Int) + 1))
      have hws0 := HS2.size
      have HO3 : Hid (w3.ownsRow w.heap.size 56 2 u3 ms.length (ndC ms)) := own_mono ho3 hws0
      have HK3 : Hid (RK B w w3) := HS2.trans hk3
      have HR3 : Hid (RD w3 B k tx q3 bad3) := hr3
      obtain ⟨e0, e1, e2, e3⟩ := hr3.cells
      clear HS2 hr3 hk3 ho3 d0 d1 d2 d3 f2
      rcases hl3 with ⟨rfl, hm1, hm2, hm3⟩ | ⟨z, rfl, hm1, hm2⟩
      · have HF3 : Hid (Fine k tx 1 (p + 1) ms q3) := hm2
        have HS3 : Hid (Skips tx q3 q3 ∧ Stop k 1 (sgn tx q3)) := hm3 rfl
        clear hm2 hm3
        go_wp2_with fail
        refine (next_any _ B k tx q3 (-1) HR3.out hq3 hx).mono ?_
        rintro e w4 ⟨r4, hsk4, rfl, hr4, hk4⟩
        have hrp4 : q3 = r4 := (HS3.out.1.only hsk4).symm
        subst hrp4
        obtain ⟨g0, g1, g2, g3⟩ := hr4.cells
        have i2 := hr4.frozen 2
        have HR4 : Hid (RD w4 B k tx q3 (-1)) := hr4
        have HK4 : Hid (RK B w w4) := HK3.out.trans hk4
        have HO4 : Hid (w4.ownsRow w.heap.size 56 2 u3 ms.length (ndC ms)) := hk4.own HO3.out hBw
        obtain ⟨c4, hc4⟩ : ∃ c, sgn tx q3 = c := ⟨_, rfl⟩
        have HC4 : Hid (sgn tx q3 = c4) := hc4
        rw [hc4]
        clear hsk4 hr4 hk4 e0 e1 e2 e3 HR3 HK3 HO3
        by_cases h41 : c4 = 41
        · subst h41
          have hql : q3 < tx.size := sgn_lt (by rw [hc4]; decide)
          have hwq : IntKind.i64.wrap ((q3 : Int) + 1) = ((q3 + 1 : Nat) : Int) := by rw [IntKind.wrap_i64]; omega
          have HE : Hid (REnd k tx 5 false p w B (.returned u3) (w4.setCell ⟨B, 2, none⟩ (.int .i64 ((q3 : Int) + 1)))) :=
            ⟨u3, ms, q3 + 1, -1, rfl, HR4.out.set2 (q3 + 1), HK4.out.set 2 _, own_set' HO4.out _ hBw, by omega, by omega, .inl ⟨rfl, by omega, atom_open HSK.out HC.out HF3.out HS3.out.1 HC4.out, fun h => by cases h⟩⟩
          clear hc4
          go_wp2_with fail
          go_ret
          exact HE.out
        · have b41 : (c4 != 41) = true := by simpa using h41
          have HBD : Hid (Bads k tx 5 p q3) := atom_shut HSK.out HC.out HF3.out HS3.out.1 HS3.out.2 (by rw [hc4]; exact h41)
          clear hc4 h41
          go_wp2_with fail
          refine (broken_any _ B k tx q3 HR4.out hq3 hx).mono ?_
          rintro e w5 ⟨r5, hsk5, rfl, hr5, hk5⟩
          have hrp5 : q3 = r5 := (HS3.out.1.only hsk5).symm
          subst hrp5
          have HE : Hid (REnd k tx 5 false p w B (.returned (.slice none 0 0)) w5) :=
            ⟨_, [], q3, q3, rfl, hr5, HK4.out.trans hk5, World.ownsRow_nil _ _ _ _, by omega, hq3, .inr ⟨q3, rfl, Nat.zero_le _, HBD.out⟩⟩
          clear hsk5 hr5 hk5
          go_wp2_with fail
          go_ret
          exact HE.out
      · have hzI : ¬ (z : Int) < 0 := by omega
        have HE : Hid (REnd k tx 5 false p w B (.returned u3) w3) :=
          ⟨u3, ms, q3, z, rfl, HR3.out, HK3.out, HO3.out, by omega, hq3, .inr ⟨z, rfl, by omega, atom_within HSK.out HC.out hm2⟩⟩
        clear hm2
        go_wp2_with fail
        go_ret
        exact HE.out
    have b40 : (c == 40) = false := by simpa using h40
    have hL : 97 ≤ c ∧ c < 97 + k := by
      have := HBG.out
      unfold begB isL at this
      simp only [Bool.or_eq_true, decide_eq_true_eq, beq_iff_eq] at this
      omega
    have HL : Hid (97 ≤ c ∧ c < 97 + k) := hL
    clear hL h48 h49 h46 h40 h33
    have HLF : Hid (∀ N T, beginS k (sgn tx p) N T = some (false, N ++ [(3, c)], T)) := fun N T => by rw [HC.out]; exact (by have := HL.out; unfold beginS; rw [if_neg (by omega), if_neg (by omega), if_neg (by omega), if_neg (by omega), if_neg (by omega), if_pos (by omega)])
    go_wp2_with fail
    refine (rleaf_any 3 c _).mono ?_
    rintro e w3 ⟨u3, rfl, ho3, hb3⟩
    have HS2 := HK2.out.set 2 (.int .i64 ((p : Int) + 1))
    have hws3 := HS2.size
    have hb3' : Below w.heap.size _ w3 := hb3.mono hws3
    have HE : Hid (REnd k tx 5 false p w B (.returned u3) w3) :=
      ⟨u3, [(3, c)], p + 1, -1, rfl, (HR2.out.set2 (p + 1)).keep hb3' hBw, HS2.more hb3', own_mono ho3 hws3, by omega, by omega, .inl ⟨rfl, by simp only [List.length_singleton]; omega, atom_leaf HSK.out hpl (3, c) HLF.out, fun h => by cases h⟩⟩
    clear ho3 hb3 hb3' HS2
    go_wp2_with fail
    go_ret
    exact HE.out
  · have hbf : begB k c = false := by simpa using hbg
    have HBD : Hid (Bads k tx 5 p p) := atom_bad HSK.out (by rw [HC.out]; exact hbf)
    rw [hbf]
    clear hbg hbf hc
    go_wp2_with fail
    refine (broken_any _ B k tx p HR2.out hp hx).mono ?_
    rintro e w5 ⟨r5, hsk5, rfl, hr5, hk5⟩
    have hrp5 : p = r5 := (HSK.out.only hsk5).symm
    subst hrp5
    have HE : Hid (REnd k tx 5 false p w B (.returned (.slice none 0 0)) w5) :=
      ⟨_, [], p, p, rfl, hr5, HK2.out.trans hk5, World.ownsRow_nil _ _ _ _, by omega, hp, .inr ⟨p, rfl, Nat.zero_le _, HBD.out⟩⟩
    clear hsk5 hr5 hk5
    go_wp2_with fail
    go_ret
    exact HE.out
/-- All the rules, at every place. -/
theorem union_at {k : Int} (hk : 1 ≤ k ∧ k ≤ 8) {tx : ByteArray} (hx : tx.size ≤ 1000) : ∀ (m p : Nat), p ≤ tx.size → tx.size - p < m → Ruled k tx 23 1 true p
  | 0, p, hp, h => absurd h (by omega)
  | m + 1, p, hp, h => by
    have hU : ∀ r, p < r → r ≤ tx.size → Ruled k tx 23 1 true r := fun r h1 h2 => union_at hk hx m r h2 (by omega)
    have hAt : ∀ r, p ≤ r → r ≤ tx.size → Skips tx r r → sgn tx r ≠ 33 → Ruled k tx 60 5 false r := fun r h1 h2 h3 h4 => atom_of hk hx h2 h3 h4 (fun r' h5 h6 => hU r' (by omega) h6)
    have hPo : ∀ r, p ≤ r → r ≤ tx.size → Skips tx r r → sgn tx r ≠ 33 → Ruled k tx 57 5 true r := fun r h1 h2 h3 h4 => post_of hx h2 (hAt r h1 h2 h3 h4)
    have hPr : ∀ r, p ≤ r → r ≤ tx.size → Ruled k tx 54 4 true r := fun r h1 h2 => prefix_of hx h2 (fun r' h3 h4 h5 h6 => hPo r' (by omega) h4 h5 h6)
    have hCo : ∀ r, p ≤ r → r ≤ tx.size → Ruled k tx 50 3 true r := fun r h1 h2 => concat_of hk hx h2 (fun r' h3 h4 => hPr r' (by omega) h4)
    have hIn : ∀ r, p ≤ r → r ≤ tx.size → Ruled k tx 36 2 true r := fun r h1 h2 => inter_of hk hx h2 (fun r' h3 h4 => hCo r' (by omega) h4)
    exact union_of hk hx hp (fun r h1 h2 => hIn r h1 h2)
end Go.Proofs.YtjonlmafhijcoaaDoor
