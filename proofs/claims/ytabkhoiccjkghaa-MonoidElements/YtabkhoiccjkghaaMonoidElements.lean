/- Proved: eggboxlaw14.MonoidElements answers true at every automaton's data a, every int i, every word w and every power n (P14.1 to P14.3): where both build a monoid, Len, Letters, Auto, Element are the document's, and Word, Accept, Trans and Power of i too, or they are refused with ErrRange; what Auto answers is new each time; where none is built both refuse it alike. No condition. -/
import Derived.Test.YtabkhoiccjkghaaW3
import Derived.Test.YtabkhoiccjkghaaW1
import Derived.Test.YtabkhoiccjkghaaW2
import Derived.SizedLaws
import Derived.Deep.Cut
namespace Go.Proofs.Ytabkhoiccjkghaa.monoidElements
open Go Go.ChangeShapes Go.WideShapes Go.ChangeAt Go.RowKit Go.Lib
open Go.ChangeMaps (open_string shut_string)
set_option linter.unusedVariables false
attribute [-instance] List.instBEq instBEqProd

theorem u64_of {n : Int} (h : (Lit.int .u64 n).wf = true) : ∃ m : Nat, n = m ∧ m < 18446744073709551616 := by
  simp [Lit.wf, IntKind.min, IntKind.max, IntKind.signed, IntKind.bits] at h
  exact ⟨n.toNat, by omega, by omega⟩

/-- What Word, Accept, Power and Trans answer of i. -/
theorem looks (A : Aut) (M : List (List Nat)) (N : List Nat) (ob : Nat) (w : World) (hmo : ∀ y, Below w.heap.size w y → MO y ob A M N) (i : Int) (n : Nat) (hn : n < 18446744073709551616) :
    ∃ (E : Int) (su : ByteArray) (ba : Bool) (pp : Int) (l : List Nat),
      ((¬ hasE M.length i = true ∧ E = 11 ∧ su = ByteArray.empty ∧ ba = false ∧ pp = 0 ∧ l = []) ∨ (∃ k : Nat, i = k ∧ k < M.length ∧ hasE M.length i = true ∧ E = 0 ∧ su = wb (lw A.k.toNat N k) ∧ ba = acc A M k ∧ pp = (pwE A.k.toNat N 0 k n : Nat) ∧ l = M.getD k [])) ∧
      (∀ y, Below w.heap.size w y → Calls Try.prog 6 #[.pointer (some ⟨ob, 0, none⟩), .int .i64 i] y fun e w' => e = .returned (.tuple #[.string su, .int .i64 E]) ∧ Below y.heap.size y w') ∧
      (∀ y, Below w.heap.size w y → Calls Try.prog 8 #[.pointer (some ⟨ob, 0, none⟩), .int .i64 i] y fun e w' => e = .returned (.tuple #[.bool ba, .int .i64 E]) ∧ Below y.heap.size y w') ∧
      (∀ y, Below w.heap.size w y → Calls Try.prog 9 #[.pointer (some ⟨ob, 0, none⟩), .int .i64 i, .int .u64 n] y fun e w' => e = .returned (.tuple #[.int .i64 pp, .int .i64 E]) ∧ Below y.heap.size y w') ∧
      (∀ y, Below w.heap.size w y → Calls Try.prog 10 #[.pointer (some ⟨ob, 0, none⟩), .int .i64 i] y fun e w' => e = .returned (.tuple #[.agg (tC l), .int .i64 E]) ∧ Below y.heap.size y w') := by
  by_cases h : hasE M.length i = true
  · obtain ⟨k, rfl, hk⟩ := hasE_of h
    refine ⟨0, _, _, _, M.getD k [], .inr ⟨k, rfl, hk, h, rfl, rfl, rfl, rfl, rfl⟩, fun y hy => mword_ok (hmo y hy) k hk, fun y hy => (maccept_ok (hmo y hy) k hk).mono ?_, fun y hy => mpower_ok (hmo y hy) k hk n hn, fun y hy => mtrans_ok (hmo y hy) k _ (by rw [List.getD_eq_getElem?_getD, List.getElem?_eq_getElem hk]; rfl)⟩
    rintro e w' ⟨rfl, rfl⟩
    exact ⟨rfl, Below.refl _ _⟩
  · refine ⟨11, _, _, _, [], .inl ⟨h, rfl, rfl, rfl, rfl, rfl⟩, fun y hy => (mword_not (hmo y hy) h).mono ?_, fun y hy => (maccept_not (hmo y hy) h).mono ?_, fun y hy => (mpower_not (hmo y hy) h n).mono ?_, fun y hy => mtrans_not (hmo y hy) h⟩
    all_goals
      rintro e w' ⟨rfl, rfl⟩
      exact ⟨rfl, Below.refl _ _⟩

theorem el_two (A : Aut) (N : List Nat) (s : ByteArray) : ∃ x y : Int, elV A N s = .tuple #[.int .i64 x, .int .i64 y] := by
  unfold elV
  split
  · exact ⟨_, _, rfl⟩
  · exact ⟨_, _, rfl⟩

theorem six14 {i : Nat} (hi : i < 64) : (i : Int).tdiv 10 = ((i / 10 : Nat) : Int) ∧ (i : Int).tmod 10 = ((i % 10 : Nat) : Int) ∧ IntKind.i64.wrap ((i / 10 : Nat) : Int) = ((i / 10 : Nat) : Int) ∧ IntKind.i64.wrap ((i % 10 : Nat) : Int) = ((i % 10 : Nat) : Int) ∧ IntKind.i64.wrap (6 * ((i % 10 : Nat) : Int)) = ((6 * (i % 10) : Nat) : Int) ∧ IntKind.u64.wrap ((6 * (i % 10) : Nat) : Int) = ((6 * (i % 10) : Nat) : Int) := by
  refine ⟨?_, ?_, IntWalk.i64_in _ (by omega), IntWalk.i64_in _ (by omega), ?_, ?_⟩
  · rw [Int.tdiv_eq_ediv_of_nonneg (by omega)]; omega
  · rw [Int.tmod_eq_emod_of_nonneg (by omega)]; omega
  · rw [IntWalk.i64_in _ (by omega)]; omega
  · rw [IntKind.wrap_u64]; omega

set_option maxHeartbeats 16000000 in
set_option maxRecDepth 100000 in
theorem walk (v : Value) (A : Aut) (i : Int) (s : ByteArray) (n : Nat) (w : World) (h : AR w v A) (hn : NilOk v) (hm : (A.nx.length + 2) * 8 ≤ 140737488355328) (hm2 : A.ac.length ≤ 140737488355328) (hs : s.size ≤ 140737488355327) (hnn : n < 18446744073709551616) :
    Calls Try.prog 3 #[v, .int .i64 i, .string s, .int .u64 n] w fun e w' => e = .returned (.bool true) ∧ Below w.heap.size w w' := by
  obtain ⟨an, cn, aa, ca, e, h1, h2⟩ := h.is
  have HBO : Hid (∀ w', Below w.heap.size w w' → Calls Try.prog 4 #[v] w' (BoQ A w')) := fun w' hb => both14_any v A w' (h.stay hb) hn hm hm2
  have HAR : Hid (∀ y, Below w.heap.size w y → AR y v A) := fun y hy => h.stay hy
  have HN : Hid (n < 18446744073709551616) := hnn
  have HS : Hid (s.size ≤ 140737488355327) := hs
  have HM : Hid (A.nx.length ≤ 9223372036854775806 ∧ A.ac.length ≤ 9223372036854775806) := by show _ ∧ _; omega
  clear h h1 h2 hn hs hnn
  subst e
  go_enter Try.func3, Try.ntmps3
  go_wp2_with fail
  refine (HBO.out _ (below_new _ _)).mono ?_
  rintro e w1 (⟨_, rfl, hb⟩ | ⟨ob, rb, M, N, rfl, G, h64, hE, hmo, hrf, hb⟩)
  · have HB1 : Hid (Below w.heap.size w w1) := go_on (below_new _ _) hb
    clear hb
    go_wp2_with fail
    refine (live14_any w1).mono ?_
    rintro e w2 ⟨rfl, hb⟩
    have HB2 : Hid (Below w.heap.size w w2) := go_on HB1.out hb
    clear hb
    go_wp2_with fail
    go_ret
    exact ⟨rfl, HB2.out⟩
  · have HB1 : Hid (Below w.heap.size w w1) := go_on (below_new _ _) hb
    have HX1 : Hid (∀ y, Below w1.heap.size w1 y → RowAt y w.heap.size #[.int .i64 A.k, .slice an A.nx.length cn, .slice aa A.ac.length ca]) := fun y hy => ((RowAt.last _ _ _).stay hb).stay hy
    have HMO : Hid (∀ y, Below w1.heap.size w1 y → MO y ob A M N) := fun y hy => hmo.below hy
    have HRF : Hid (∀ y, Below w1.heap.size w1 y → RF y rb A M N) := fun y hy => hrf.below hy
    have HG : Hid (Good A ∧ A.ac.length ≤ 64) := ⟨G, h64⟩
    obtain ⟨E, su, ba, pp, l, hlk, c1, c2, c3, c4⟩ := looks A M N ob w1 HMO.out i n HN.out
    have HLK : Hid _ := hlk
    have C1 : Hid _ := c1
    have C2 : Hid _ := c2
    have C3 : Hid _ := c3
    have C4 : Hid _ := c4
    obtain ⟨ex, ee, hel⟩ := el_two A N s
    have HEL : Hid (elV A N s = .tuple #[.int .i64 ex, .int .i64 ee]) := hel
    have HR3 : Hid (∀ y, Below w1.heap.size w1 y → Calls Try.prog 11 #[.pointer (some ⟨rb, 0, none⟩), .string s] y fun e w' => e = .returned (.tuple #[.int .i64 ex, .int .i64 ee]) ∧ Below y.heap.size y w') := fun y hy => by
      have := rElement_any (HRF.out y hy) s (by have := HS.out; unfold maxLen; omega)
      rw [show (if chk A.k s = 0 then Value.tuple #[.int .i64 (mr A.k.toNat N 0 (lets s) : Nat), .int .i64 0] else .tuple #[.int .i64 0, .int .i64 (chk A.k s)]) = elV A N s from rfl, HEL.out] at this
      exact this
    have HNM : Hid (∀ y (n : Int), Calls Try.prog 17 #[.int .i64 n] y fun e w' => e = .returned (.int .i64 n) ∧ y = w') := fun y n => num14_any n y
    clear hb hmo hrf G h64 hE hlk c1 c2 c3 c4 hel HBO
    go_wp2_with fail
    refine (C1.out _ (Below.refl _ _)).mono ?_
    rintro e w2 ⟨rfl, hb⟩
    have HY2 : Hid (Below w1.heap.size w1 w2) := hb
    clear hb
    go_wp2_with fail
    refine (mElement_any (HMO.out _ HY2.out) s (by have := HS.out; omega)).mono ?_
    rw [HEL.out]
    rintro e w3 ⟨rfl, hb⟩
    have HY3 : Hid (Below w1.heap.size w1 w3) := go_on HY2.out hb
    clear hb
    go_wp2_with fail
    refine (C2.out _ HY3.out).mono ?_
    rintro e w4 ⟨rfl, hb⟩
    have HY4 : Hid (Below w1.heap.size w1 w4) := go_on HY3.out hb
    clear hb
    go_wp2_with fail
    refine (C3.out _ HY4.out).mono ?_
    rintro e w5 ⟨rfl, hb⟩
    have HY5 : Hid (Below w1.heap.size w1 w5) := go_on HY4.out hb
    clear hb
    go_wp2_with fail
    refine (C4.out _ HY5.out).mono ?_
    rintro e w6 ⟨rfl, hb⟩
    have HY6 : Hid (Below w1.heap.size w1 w6) := go_on HY5.out hb
    clear hb
    have hst := st_trNew w6 l
    obtain ⟨w7, hw7⟩ : ∃ w7, w7 = w6.alloc (.cells (tC l) 42) := ⟨_, rfl⟩
    have HY7 : Hid (Below w1.heap.size w1 w7) := by show Below _ _ _; rw [hw7]; exact go_on HY6.out (below_new _ _)
    obtain ⟨tb, htb⟩ : ∃ tb, w6.heap.size = tb := ⟨_, rfl⟩
    have HT : Hid (∀ y, Below w7.heap.size w7 y → TL y tb l) := fun y hy => by
      have h0 : TL w7 tb l := by rw [hw7, ← htb]; exact heap_last _ _
      exact (hy.block _ h0.lt).trans h0
    rw [← hw7, htb] at hst
    have hsz := tC_size l
    clear C1 C2 C3 C4 HY2 HY3 HY4 HY5
    go_wp2_with fail
    rw [← hw7]
    clear hst htb hw7
    refine (HR3.out _ HY7.out).mono ?_
    rintro e w8 ⟨rfl, hb⟩
    have HZ8 : Hid (Below w7.heap.size w7 w8) := hb
    have HY8 : Hid (Below w1.heap.size w1 w8) := go_on HY7.out hb
    clear hb HR3
    go_wp2_with fail
    have HLN : Hid (∀ y, Below w8.heap.size w8 y → Calls Try.prog 12 #[.pointer (some ⟨ob, 0, none⟩)] y fun e w' => e = .returned (.int .i64 (M.length : Nat)) ∧ y = w') := fun y hy => mlen_any (HMO.out y (go_on HY8.out hy))
    have HLR : Hid (∀ y, Below w8.heap.size w8 y → Calls Try.prog 13 #[.pointer (some ⟨rb, 0, none⟩)] y fun e w' => e = .returned (.int .i64 (M.length : Nat)) ∧ y = w') := fun y hy => rlen_any (HRF.out y (go_on HY8.out hy))
    have HLT : Hid (∀ y, Below w8.heap.size w8 y → Calls Try.prog 14 #[.pointer (some ⟨ob, 0, none⟩)] y fun e w' => e = .returned (.int .i64 A.k) ∧ y = w') := fun y hy => mletters_any (HMO.out y (go_on HY8.out hy))
    have HAU : Hid (∀ y, Below w1.heap.size w1 y → Calls Try.prog 16 #[.pointer (some ⟨ob, 0, none⟩)] y fun e w' => ∃ v, e = .returned v ∧ AW y.heap.size w' v A ∧ Below y.heap.size y w') := fun y hy => mauto_ok (HMO.out y hy) HG.out.1 HG.out.2
    have HSA : Hid (∀ y va, Below w1.heap.size w1 y → AR y va A → Calls Try.prog 15 #[va, .agg #[.int .i64 A.k, .slice an A.nx.length cn, .slice aa A.ac.length ca]] y fun e w' => e = .returned (.bool true) ∧ Below y.heap.size y w') := fun y va hy ha => sameAuto_any va _ A y ha (HAR.out y (go_on HB1.out hy)) HM.out.1 HM.out.2
    have S0 : Below w8.heap.size w8 w8.drew ∧ (∀ o, w8.drew.cell? ⟨w.heap.size, o, none⟩ = (#[.int .i64 A.k, .slice an A.nx.length cn, .slice aa A.ac.length ca] : Array Value)[o]?) := ⟨(Below.refl _ _).drew, (HX1.out w8 HY8.out).cell⟩
    have HSS : Hid (∀ y y', (Below w8.heap.size w8 y ∧ (∀ o, y.cell? ⟨w.heap.size, o, none⟩ = (#[.int .i64 A.k, .slice an A.nx.length cn, .slice aa A.ac.length ca] : Array Value)[o]?)) → Below y.heap.size y y' → (Below w8.heap.size w8 y' ∧ (∀ o, y'.cell? ⟨w.heap.size, o, none⟩ = (#[.int .i64 A.k, .slice an A.nx.length cn, .slice aa A.ac.length ca] : Array Value)[o]?))) := fun y y' hS hb => ⟨go_on hS.1 hb, (HX1.out y' (go_on HY8.out (go_on hS.1 hb))).cell⟩
    go_region_held3 (fun y => Below w8.heap.size w8 y ∧ (∀ o, y.cell? ⟨w.heap.size, o, none⟩ = (#[.int .i64 A.k, .slice an A.nx.length cn, .slice aa A.ac.length ca] : Array Value)[o]?)) (first | exact S0 | assumption | exact HSS.out _ _ (by assumption) (by assumption)) (first
      | (go_at_call 12; refine (HLN.out _ (And.left (by assumption))).mono ?_; rintro e yn ⟨rfl, rfl⟩)
      | (go_at_call 13; refine (HLR.out _ (And.left (by assumption))).mono ?_; rintro e yn ⟨rfl, rfl⟩)
      | (go_at_call 14; refine (HLT.out _ (And.left (by assumption))).mono ?_; rintro e yn ⟨rfl, rfl⟩)
      | (go_at_call 16; refine (HAU.out _ (go_on HY8.out (And.left (by assumption)))).mono ?_; rintro e ya ⟨va, rfl, hva, hya⟩; have hvr := hva.ar)
      | (go_at_call 15; refine (HSA.out _ va (go_on HY8.out (And.left (by assumption))) (by first | exact hvr | exact hvr.stay (by assumption))).mono ?_; rintro e yb ⟨rfl, hyb⟩)
      | (go_at_call 17; refine (HNM.out _ _).mono ?_; rintro e yn ⟨rfl, rfl⟩))
    all_goals (
      have hS : Below w8.heap.size w8 yb ∧ (∀ o, yb.cell? ⟨w.heap.size, o, none⟩ = (#[.int .i64 A.k, .slice an A.nx.length cn, .slice aa A.ac.length ca] : Array Value)[o]?) := by first | assumption | exact HSS.out _ _ (by assumption) (by assumption)
      have HZB : Hid (Below w7.heap.size w7 yb) := go_on HZ8.out hS.1
      have HYB : Hid (Below w1.heap.size w1 yb) := go_on HY8.out hS.1
      have HTB : Hid (TL yb tb l) := HT.out _ HZB.out
      have hlk := HLK.out
      clear HLK hS S0 HSS HLN HLR HLT hsz
      rcases hlk with ⟨hno, rfl, rfl, rfl, rfl, rfl⟩ | ⟨k, rfl, hk, hyes, rfl, rfl, rfl, rfl, rfl⟩
      · have HHA : Hid (Calls Try.prog 18 #[.pointer (some ⟨rb, 0, none⟩), .int .i64 i] yb fun e w' => e = .returned (.bool false) ∧ yb = w') := by
          have := rhas_any (HRF.out yb HYB.out) i
          rw [show hasE M.length i = false by simpa using hno] at this
          exact this
        have hsl : sameL [] [] = true := rfl
        go_wp2_with (first
          | (go_at_call 18; refine HHA.out.mono ?_; rintro e yn ⟨rfl, rfl⟩)
          | (go_at_call 17; refine (HNM.out _ _).mono ?_; rintro e yn ⟨rfl, rfl⟩)
          | (refine wl_load rfl rfl HTB.out rfl ?_)
          | (refine wl_eq (l := []) (m := []) rfl rfl rfl rfl ?_)
          | (go_at_call 5; refine (live14_any _).mono ?_; rintro e yl ⟨rfl, hb⟩; have HL : Hid (Below w1.heap.size w1 yl) := go_on HYB.out hb; clear hb))
        go_ret
        exact ⟨rfl, go_on HB1.out HL.out⟩
      · obtain ⟨an2, cn2, aa2, ca2, gi, ci, gw, cw, gn, cg, hrp⟩ := HRF.out yb HYB.out
        obtain ⟨b1, b2, b3⟩ := hrp.mon.byte hk
        have HIM : Hid (∀ y, Below yb.heap.size yb y → y.cell? ⟨rb, 3, none⟩ = some (.slice (some ⟨gi, 0, none⟩) M.length ci) ∧ y.cell? ⟨gi, k, none⟩ = some (.string (ib (M.getD k [])))) := fun y hy => ⟨by rw [below_cellJ hy (Array.getElem?_eq_some_iff.1 hrp.box).1]; exact cell_at hrp.box rfl, by rw [below_cellJ hy hrp.li]; exact hrp.img k hk⟩
        have w4 : yb.cell? ⟨rb, 4, none⟩ = some (.slice (some ⟨gw, 0, none⟩) M.length cw) := cell_at hrp.box rfl
        have w5 := hrp.wds k hk
        obtain ⟨X, hX⟩ : ∃ X, wb (lw A.k.toNat N k) = X := ⟨_, rfl⟩
        rw [hX] at w5
        obtain ⟨q, hq⟩ : ∃ q, acc A M k = q := ⟨_, rfl⟩
        obtain ⟨pw, hpw⟩ : ∃ pw, pwE A.k.toNat N 0 k n = pw := ⟨_, rfl⟩
        obtain ⟨l, hl⟩ : ∃ l, M.getD k [] = l := ⟨_, rfl⟩
        have HHA : Hid (Calls Try.prog 18 #[.pointer (some ⟨rb, 0, none⟩), .int .i64 k] yb fun e w' => e = .returned (.bool true) ∧ yb = w') := by
          have := rhas_any (HRF.out yb HYB.out) k
          rw [hyes] at this
          exact this
        have HIN : Hid (∀ y, Below w1.heap.size w1 y → Calls Try.prog 19 #[.pointer (some ⟨rb, 0, none⟩), .int .i64 k] y fun e w' => e = .returned (.bool q) ∧ Below y.heap.size y w') := fun y hy => by
          have := rIn_any (HRF.out y hy) k hk
          rw [hq] at this
          exact this
        have HRA : Hid (∀ y, Below w1.heap.size w1 y → Calls Try.prog 20 #[.pointer (some ⟨rb, 0, none⟩), .int .i64 k, .int .u64 n] y fun e w' => e = .returned (.int .i64 (pw : Nat)) ∧ Below y.heap.size y w') := fun y hy => by
          have := rraised_any (HRF.out y hy) k hk n HN.out
          rw [hpw] at this
          exact this
        rw [hl] at HT HTB HIM b1 b2
        rw [hX, hq, hpw]
        have HLN : Hid (l.length = A.ac.length) := b1
        have HB2 : Hid ((∀ x ∈ l, x < A.ac.length) ∧ A.ac.length ≤ 64) := ⟨b2, b3⟩
        have hkI : (k : Int) < M.length := by omega
        have HKI : Hid ((k : Int) < M.length) := hkI
        clear hrp b1 b2 hX hq hpw hl hyes hk
        go_wp2_with (first
          | (go_at_call 18; refine HHA.out.mono ?_; rintro e yn ⟨rfl, rfl⟩)
          | (go_at_call 17; refine (HNM.out _ _).mono ?_; rintro e yn ⟨rfl, rfl⟩)
          | (go_at_call 19; refine (HIN.out _ HYB.out).mono ?_; rintro e yi ⟨rfl, hb⟩; have HYI : Hid (Below yb.heap.size yb yi) := hb; clear hb)
          | (go_at_call 20; refine (HRA.out _ (go_on HYB.out HYI.out)).mono ?_; rintro e yr ⟨rfl, hb⟩; have HYR : Hid (Below yb.heap.size yb yr) := go_on HYI.out hb; clear hb; have ct := (TrAt.cellN (HT.out yr (go_on HZB.out HYR.out))); rw [HLN.out] at ct; have cb := (HX1.out yr (go_on HYB.out HYR.out)).cell))
        clear ct cb w4 w5
        have HYR1 : Hid (Below w1.heap.size w1 yr) := go_on HYB.out HYR.out
        go_loopw [25] (fun vi wr => ∃ i : Nat, vi = .int .i64 i ∧ i ≤ A.ac.length ∧ Below yr.heap.size yr wr) (fun vi _ => A.ac.length - (Go.RowKit.intOf vi).toNat)
        case atStart => exact ⟨0, rfl, Nat.zero_le _, Below.refl _ _⟩
        case round =>
          obtain ⟨i, rfl, hin, hB⟩ := hrel
          obtain ⟨wr5, h5⟩ : ∃ z, z = wr := ⟨_, rfl⟩
          subst h5
          have HB5 : Hid (Below yr.heap.size yr wr5) := hB
          have HT5 : Hid (TrAt wr5 tb l.length (pk (im l) l.length)) := HT.out wr5 (go_on HZB.out (go_on HYR.out hB))
          have ct := HT5.out.cellN
          rw [HLN.out] at ct
          clear hB
          by_cases hlt : i < A.ac.length
          · have hiI : (i : Int) < A.ac.length := by omega
            have hid : decide ((i : Int) < A.ac.length) = true := decide_eq_true hiI
            have h64 := HB2.out.2
            obtain ⟨j3, j4⟩ := HIM.out wr5 (go_on HYR.out HB5.out)
            have hli : i < l.length := by rw [HLN.out]; exact hlt
            have him : im l i < A.ac.length := by
              unfold im
              rw [List.getD_eq_getElem?_getD, List.getElem?_eq_getElem hli]
              exact HB2.out.1 _ (List.getElem_mem hli)
            obtain ⟨L, hL⟩ : ∃ L, ib l = L := ⟨_, rfl⟩
            have hLs : i < L.size := by rw [← hL, ib_size]; exact hli
            have hLi : L[i].toNat = im l i := by
              subst hL
              exact ib_get hLs (fun x hx => by have := HB2.out.1 x hx; omega)
            rw [hL] at j4
            have hLI : (i : Int) < L.size := by omega
            have hk7 : i / 10 < 7 := by omega
            obtain ⟨s1, s2, s3, s4, s5, s6⟩ := six14 (i := i) (by omega)
            have hpd : dg (pk (im l) l.length) i = im l i := dg_pk (fun j hj => by
              have : im l j < A.ac.length := by
                unfold im
                rw [List.getD_eq_getElem?_getD, List.getElem?_eq_getElem hj]
                exact HB2.out.1 _ (List.getElem_mem hj)
              omega) hli
            have hw64 : pk (im l) l.length (i / 10) < 18446744073709551616 := pk_w64 ⟨by rw [HLN.out]; omega, by rw [HLN.out]; omega, fun j hj => by
              unfold im
              rw [List.getD_eq_getElem?_getD, List.getElem?_eq_getElem hj, HLN.out]
              exact HB2.out.1 _ (List.getElem_mem hj)⟩ _ hk7
            have hd := dg_run (pk (im l) l.length) i hw64
            rw [hpd] at hd
            have hcl := HT5.out.cell' hk7
            obtain ⟨d, hde⟩ : ∃ d, im l i = d := ⟨_, rfl⟩
            rw [hde] at hd hLi him
            have hdw : IntKind.i64.wrap (d : Int) = (d : Int) := IntWalk.i64_in _ (by omega)
            obtain ⟨kk, hkk⟩ : ∃ kk, i / 10 = kk := ⟨_, rfl⟩
            obtain ⟨m, hm⟩ : ∃ m, i % 10 = m := ⟨_, rfl⟩
            rw [hm] at s2 s4 s5 s6 hd
            obtain ⟨c, hc⟩ : ∃ c, 6 * m = c := ⟨_, rfl⟩
            rw [hc] at s5 s6 hd
            rw [hkk] at s1 s3 hd hcl hk7
            obtain ⟨x, hx⟩ : ∃ x, pk (im l) l.length kk = x := ⟨_, rfl⟩
            rw [hx] at hd hcl
            have hc64 : c < 64 := by omega
            have hcI : (c : Int) < 64 := by omega
            have hkkI : (kk : Int) < 7 := by omega
            have hkI := HKI.out
            have S0 : wr5.drew.cell? ⟨tb, 1 + kk, none⟩ = some (.int .u64 (x : Nat)) ∧ wr5.drew.cell? ⟨rb, 3, none⟩ = some (.slice (some ⟨gi, 0, none⟩) M.length ci) ∧ wr5.drew.cell? ⟨gi, k, none⟩ = some (.string L) := ⟨hcl, j3, j4⟩
            clear hkk hm hde hc hx hpd hw64 him hli hL hcl j3 j4 h64
            go_wp2_with fail
            go_region_held3 (fun y => y.cell? ⟨tb, 1 + kk, none⟩ = some (.int .u64 (x : Nat)) ∧ y.cell? ⟨rb, 3, none⟩ = some (.slice (some ⟨gi, 0, none⟩) M.length ci) ∧ y.cell? ⟨gi, k, none⟩ = some (.string L)) (first | exact S0 | assumption) (fail)
            clear S0
            go_wp2_with fail
            go_roundw
            case rel => exact ⟨i + 1, by go_num, by omega, HB5.out.drew⟩
            case measure => simp [Go.RowKit.intOf]; omega
          · have hiI : ¬ (i : Int) < A.ac.length := by omega
            have hid : decide ((i : Int) < A.ac.length) = false := decide_eq_false hiI
            go_wp2_with fail
            obtain ⟨z0, hz0⟩ : ∃ z, z = wr5 := ⟨_, rfl⟩
            subst hz0
            have HYZ : Hid (Below w1.heap.size w1 z0) := go_on HYR1.out HB5.out
            clear ct hid hiI HT5 HB5
            refine (HAU.out _ HYZ.out).mono ?_
            rintro e y1 ⟨v1, rfl, ⟨an1, cn1, aa1, ca1, rfl, ho1, _⟩, hb⟩
            have hn0 : 0 < A.nx.length := by
              have := (HG.out.1.at (s := 0) (c := 0) (by have := HG.out.1.n1; omega) (by have := HG.out.1.k1; omega)).1
              omega
            have hn512 : A.nx.length ≤ 512 := by
              have h1 : (A.ac.length : Int) * A.k ≤ 64 * 8 := Int.mul_le_mul (by have := HG.out.2; omega) HG.out.1.k8 (by have := HG.out.1.k1; omega) (by omega)
              have := HG.out.1.len
              omega
            obtain ⟨g1, rfl⟩ := own_addr ho1 hn0
            have HO1 : Hid (y1.ownsRow z0.heap.size 3 1 (.slice (some ⟨g1, 0, none⟩) A.nx.length cn1) A.nx.length (zC A.nx)) := ho1
            have HC1 : Hid (Below z0.heap.size z0 y1) := hb
            clear ho1 hb
            obtain ⟨z1, hz1⟩ : ∃ z1, z1 = y1.alloc (.cells #[.int .i64 A.k, .slice (some ⟨g1, 0, none⟩) A.nx.length cn1, .slice aa1 A.ac.length ca1] 25) := ⟨_, rfl⟩
            have HZ1 : Hid (z1 = y1.alloc (.cells #[.int .i64 A.k, .slice (some ⟨g1, 0, none⟩) A.nx.length cn1, .slice aa1 A.ac.length ca1] 25)) := hz1
            have HE1 : Hid (Below y1.heap.size y1 z1) := by show Below _ _ _; rw [hz1]; exact below_new _ _
            obtain ⟨bc, hbc⟩ : ∃ bc, y1.heap.size = bc := ⟨_, rfl⟩
            have HR1 : Hid (RowAt z1 bc #[.int .i64 A.k, .slice (some ⟨g1, 0, none⟩) A.nx.length cn1, .slice aa1 A.ac.length ca1]) := by show RowAt _ _ _; rw [hz1, ← hbc]; exact RowAt.last _ _ _
            have HW1 : Hid (Below z0.heap.size z0 z1) := go_on HC1.out HE1.out
            clear hz1
            go_wp2_with fail
            rw [← HZ1.out]
            clear HZ1 hbc
            refine (HAU.out _ (go_on HYZ.out HW1.out)).mono ?_
            rintro e y2 ⟨v3, rfl, ⟨an3, cn3, aa3, ca3, rfl, ho3, _⟩, hb⟩
            obtain ⟨g3, rfl⟩ := own_addr ho3 hn0
            have hg13 : g1 < g3 := by
              have h1 := (HO1.out.lt g1 rfl).2
              have h2 := HE1.out.size
              have h3 := (ho3.lt g3 rfl).1
              omega
            have HO2 : Hid (y2.ownsRow z0.heap.size 3 1 (.slice (some ⟨g1, 0, none⟩) A.nx.length cn1) A.nx.length (zC A.nx)) := own_below (own_below HO1.out HE1.out) hb
            have HO3 : Hid (y2.ownsRow z0.heap.size 3 1 (.slice (some ⟨g3, 0, none⟩) A.nx.length cn3) A.nx.length (zC A.nx)) := own_mono ho3 HW1.out.size
            have HC2 : Hid (Below z0.heap.size z0 y2) := go_on HW1.out hb
            have HR2 : Hid (RowAt y2 bc #[.int .i64 A.k, .slice (some ⟨g1, 0, none⟩) A.nx.length cn1, .slice aa1 A.ac.length ca1]) := HR1.out.stay hb
            clear ho3 hb HO1
            obtain ⟨z2, hz2⟩ : ∃ z2, z2 = y2.alloc (.cells #[.int .i64 A.k, .slice (some ⟨g3, 0, none⟩) A.nx.length cn3, .slice aa3 A.ac.length ca3] 25) := ⟨_, rfl⟩
            have HZ2 : Hid (z2 = y2.alloc (.cells #[.int .i64 A.k, .slice (some ⟨g3, 0, none⟩) A.nx.length cn3, .slice aa3 A.ac.length ca3] 25)) := hz2
            have HE2 : Hid (Below y2.heap.size y2 z2) := by show Below _ _ _; rw [hz2]; exact below_new _ _
            obtain ⟨bd, hbd⟩ : ∃ bd, y2.heap.size = bd := ⟨_, rfl⟩
            have HRd : Hid (RowAt z2 bd #[.int .i64 A.k, .slice (some ⟨g3, 0, none⟩) A.nx.length cn3, .slice aa3 A.ac.length ca3]) := by show RowAt _ _ _; rw [hz2, ← hbd]; exact RowAt.last _ _ _
            have HRc : Hid (RowAt z2 bc #[.int .i64 A.k, .slice (some ⟨g1, 0, none⟩) A.nx.length cn1, .slice aa1 A.ac.length ca1]) := HR2.out.stay HE2.out
            have HW2 : Hid (Below z0.heap.size z0 z2) := go_on HC2.out HE2.out
            clear hz2
            go_upto_region 23 with fail
            rw [← HZ2.out]
            clear HZ2 hbd
            obtain ⟨y0, hy0⟩ : ∃ z, z = z2.drew := ⟨_, rfl⟩
            have qc : y0.cell? ⟨bc, 1, none⟩ = some (.slice (some ⟨g1, 0, none⟩) A.nx.length cn1) := by rw [hy0]; exact HRc.out.cell 1
            have qd : y0.cell? ⟨bd, 1, none⟩ = some (.slice (some ⟨g3, 0, none⟩) A.nx.length cn3) := by rw [hy0]; exact HRd.out.cell 1
            have HAP : Hid (Calls Try.prog 21 #[.slice (some ⟨y0.heap.size, 0, none⟩) 2 2] (y0.alloc (.cells #[.slice (some ⟨g1, 0, none⟩) A.nx.length cn1, .slice (some ⟨g3, 0, none⟩) A.nx.length cn3] 22)) fun e w' => e = .returned (.bool true) ∧ Below z0.heap.size (y0.alloc (.cells #[.slice (some ⟨g1, 0, none⟩) A.nx.length cn1, .slice (some ⟨g3, 0, none⟩) A.nx.length cn3] 22)) w') := by
              have hs := HW2.out.size
              refine apartZ ?_ ?_ ?_ ?_ hn512 hn512
              · rw [hy0]; exact own_below (own_below HO2.out HE2.out) (Below.refl _ _).drew
              · rw [hy0]; exact own_below (own_below HO3.out HE2.out) (Below.refl _ _).drew
              · intro b h1 h2
                simp only [Value.ownBlock, Option.some.injEq] at h1 h2
                omega
              · rw [hy0]; exact hs
            refine wp_region_L 15 (fun y => Below z0.heap.size z0 y) (by kernel_rfl) HW2.out.drew (fun hH0 => ?_)
            rw [← hy0] at hH0 ⊢
            clear hy0 hg13
            refine wpAnyL_take (i := 0) (oi := { dst := some 233, op := Go.Op.fieldAddr 25 (Go.Operand.tmp 26) 1, type := 0, pos := "law.go:75", after := #[], guard := none }) (v := ?_) rfl (by kernel_rfl) (by kernel_rfl) (by decide) (by kernel_rfl) (by kernel_rfl) (by kernel_rfl) (fun _ _ _ h => h) (Or.inl ⟨by rfl, ?_⟩) (by assumption) ?_
            rotate_left
            · intro w' hS; go_simp; (try with_reducible rfl)
            simp only [Act.put, List.setIfInBounds_toArray, List.set_cons_zero, List.set_cons_succ]
            refine wpAnyL_take (i := 2) (oi := { dst := some 235, op := Go.Op.fieldAddr 25 (Go.Operand.tmp 27) 1, type := 0, pos := "law.go:75", after := #[], guard := none }) (v := ?_) rfl (by kernel_rfl) (by kernel_rfl) (by decide) (by kernel_rfl) (by kernel_rfl) (by kernel_rfl) (fun _ _ _ h => h) (Or.inl ⟨by rfl, ?_⟩) (by assumption) ?_
            rotate_left
            · intro w' hS; go_simp; (try with_reducible rfl)
            simp only [Act.put, List.setIfInBounds_toArray, List.set_cons_zero, List.set_cons_succ]
            refine wpAnyL_ready (rs := [1, 3]) (by kernel_rfl) (by simp) ?_
            refine AllReadyL.cons rfl (fun KQ hK => ?_) (AllReadyL.cons rfl (fun KQ hK => ?_) AllReadyL.nil)
            · skip
              go_simp
              refine hK.out _ _ hH0 (fun hH1 => ?_)
              clear hK KQ
              refine wpAnyL_ready (rs := [3]) (by kernel_rfl) (by simp) ?_
              refine AllReadyL.cons rfl (fun KQ hK => ?_) AllReadyL.nil
              go_simp
              refine hK.out _ _ hH1 (fun hH2 => ?_)
              clear hK KQ
              refine wpAnyL_ready (rs := [4]) (by kernel_rfl) (by simp) ?_
              refine AllReadyL.cons rfl (fun KQ hK => ?_) AllReadyL.nil
              go_simp
              refine hK.out _ _ (go_on hH2 (below_new _ _)) (fun hH3 => ?_)
              clear hK KQ
              refine wpAnyL_ready (rs := [5]) (by kernel_rfl) (by simp) ?_
              refine AllReadyL.cons rfl (fun KQ hK => ?_) AllReadyL.nil
              go_simp
              refine Calls.mono (HAP.out) ?_
              rintro e y1 ⟨rfl, hb⟩
              have hN := hH3.trans hb
              clear hb
              go_wp2_with fail
              refine hK.out _ _ hN (fun hH4 => ?_)
              clear hN
              clear hK KQ
              refine wpAnyL_take (i := 6) (oi := { dst := some 239, op := Go.Op.move (Go.Operand.tmp 238), type := 4, pos := "law.go:75", after := #[{ on := 5, ground := Go.Ground.data }, { on := 5, ground := Go.Ground.chain }], guard := none }) (v := ?_) rfl (by kernel_rfl) (by kernel_rfl) (by decide) (by kernel_rfl) (by kernel_rfl) (by kernel_rfl) (fun _ _ _ h => h) (Or.inl ⟨by rfl, ?_⟩) (by assumption) ?_
              rotate_left
              · intro w' hS; go_simp; (try with_reducible rfl)
              simp only [Act.put, List.setIfInBounds_toArray, List.set_cons_zero, List.set_cons_succ]
              refine wpAnyL_take (i := 7) (oi := { dst := some 240, op := Go.Op.move (Go.Operand.tmp 9), type := 27, pos := "law.go:75", after := #[{ on := 6, ground := Go.Ground.guard }], guard := some (6, true) }) (v := ?_) rfl (by kernel_rfl) (by kernel_rfl) (by decide) (by kernel_rfl) (by kernel_rfl) (by kernel_rfl) (fun _ _ _ h => h) (Or.inl ⟨by rfl, ?_⟩) (by assumption) ?_
              rotate_left
              · intro w' hS; go_simp; (try with_reducible rfl)
              simp only [Act.put, List.setIfInBounds_toArray, List.set_cons_zero, List.set_cons_succ]
              refine wpAnyL_take (i := 9) (oi := { dst := some 242, op := Go.Op.load 25 (Go.Operand.tmp 4), type := 25, pos := "law.go:75", after := #[{ on := 6, ground := Go.Ground.guard }], guard := some (6, true) }) (v := .agg #[.int .i64 A.k, .slice an A.nx.length cn, .slice aa A.ac.length ca]) rfl (by kernel_rfl) (by kernel_rfl) (by decide) (by kernel_rfl) (by kernel_rfl) (by kernel_rfl) (fun _ _ _ h => h) (Or.inl ⟨by rfl, ?_⟩) (by assumption) ?_
              · intro w' hS; have hz := (HX1.out _ (go_on HYZ.out hS)).cell; go_simp
              simp only [Act.put, List.setIfInBounds_toArray, List.set_cons_zero, List.set_cons_succ]
              refine wpAnyL_ready (rs := [8]) (by kernel_rfl) (by simp) ?_
              refine AllReadyL.cons rfl (fun KQ hK => ?_) AllReadyL.nil
              go_simp
              refine Calls.mono (HAU.out _ (go_on HYZ.out hH4)) ?_
              rintro e y2 ⟨va, rfl, hva, hb⟩
              have hN := go_on hH4 hb
              have hvr : Hid (AR y2 va A) := hva.ar
              clear hva hb
              go_wp2_with fail
              refine hK.out _ _ hN (fun hH5 => ?_)
              clear hN
              clear hK KQ
              refine wpAnyL_ready (rs := [10]) (by kernel_rfl) (by simp) ?_
              refine AllReadyL.cons rfl (fun KQ hK => ?_) AllReadyL.nil
              go_simp
              refine Calls.mono (HSA.out _ va (go_on HYZ.out hH5) hvr.out) ?_
              rintro e y3 ⟨rfl, hb⟩
              have hN := go_on hH5 hb
              clear hb
              go_wp2_with fail
              refine hK.out _ _ hN (fun hH6 => ?_)
              clear hN
              clear hK KQ
              refine wpAnyL_take (i := 11) (oi := { dst := some 244, op := Go.Op.pick (Go.Operand.tmp 239) (Go.Operand.tmp 243) (Go.Operand.const (Go.Value.bool false)), type := 4, pos := "law.go:75", after := #[{ on := 6, ground := Go.Ground.data }, { on := 10, ground := Go.Ground.data }], guard := none }) (v := ?_) rfl (by kernel_rfl) (by kernel_rfl) (by decide) (by kernel_rfl) (by kernel_rfl) (by kernel_rfl) (fun _ _ _ h => h) (Or.inl ⟨by rfl, ?_⟩) (by assumption) ?_
              rotate_left
              · intro w' hS; go_simp; (try with_reducible rfl)
              simp only [Act.put, List.setIfInBounds_toArray, List.set_cons_zero, List.set_cons_succ]
              refine wpAnyL_take (i := 12) (oi := { dst := some 245, op := Go.Op.move (Go.Operand.tmp 244), type := 4, pos := "law.go:75", after := #[{ on := 11, ground := Go.Ground.data }, { on := 10, ground := Go.Ground.chain }], guard := none }) (v := ?_) rfl (by kernel_rfl) (by kernel_rfl) (by decide) (by kernel_rfl) (by kernel_rfl) (by kernel_rfl) (fun _ _ _ h => h) (Or.inl ⟨by rfl, ?_⟩) (by assumption) ?_
              rotate_left
              · intro w' hS; go_simp; (try with_reducible rfl)
              simp only [Act.put, List.setIfInBounds_toArray, List.set_cons_zero, List.set_cons_succ]
              refine wpAnyL_ready (rs := [13]) (by kernel_rfl) (by simp) ?_
              refine AllReadyL.cons rfl (fun KQ hK => ?_) AllReadyL.nil
              go_simp
              refine Calls.mono (live14_any _) ?_
              rintro e y4 ⟨rfl, hb⟩
              have hN := go_on hH6 hb
              clear hb
              go_wp2_with fail
              refine hK.out _ _ hN (fun hH7 => ?_)
              clear hN
              clear hK KQ
              refine wpAnyL_take (i := 14) (oi := { dst := some 247, op := Go.Op.pick (Go.Operand.tmp 245) (Go.Operand.tmp 246) (Go.Operand.const (Go.Value.bool false)), type := 4, pos := "law.go:75", after := #[{ on := 12, ground := Go.Ground.data }, { on := 13, ground := Go.Ground.data }], guard := none }) (v := ?_) rfl (by kernel_rfl) (by kernel_rfl) (by decide) (by kernel_rfl) (by kernel_rfl) (by kernel_rfl) (fun _ _ _ h => h) (Or.inl ⟨by rfl, ?_⟩) (by assumption) ?_
              rotate_left
              · intro w' hS; go_simp; (try with_reducible rfl)
              simp only [Act.put, List.setIfInBounds_toArray, List.set_cons_zero, List.set_cons_succ]
              refine wpAnyL_ready (rs := [15]) (by kernel_rfl) (by simp) ?_
              refine AllReadyL.last rfl (fun KQ hK => ?_)
              go_simp
              have HFIN : Hid (Below z0.heap.size z0 y4) := hH7
              refine hK.out _ _ ?_
              clear hK KQ
              refine wpAnyL_done (by kernel_rfl) ?_ _
              go_wp2_with fail
              go_ret
              exact ⟨rfl, go_on HB1.out (go_on HYZ.out HFIN.out)⟩
            · skip
              go_simp
              refine hK.out _ _ hH0 (fun hH1 => ?_)
              clear hK KQ
              refine wpAnyL_ready (rs := [1]) (by kernel_rfl) (by simp) ?_
              refine AllReadyL.cons rfl (fun KQ hK => ?_) AllReadyL.nil
              go_simp
              refine hK.out _ _ hH1 (fun hH2 => ?_)
              clear hK KQ
              refine wpAnyL_ready (rs := [4]) (by kernel_rfl) (by simp) ?_
              refine AllReadyL.cons rfl (fun KQ hK => ?_) AllReadyL.nil
              go_simp
              refine hK.out _ _ (go_on hH2 (below_new _ _)) (fun hH3 => ?_)
              clear hK KQ
              refine wpAnyL_ready (rs := [5]) (by kernel_rfl) (by simp) ?_
              refine AllReadyL.cons rfl (fun KQ hK => ?_) AllReadyL.nil
              go_simp
              refine Calls.mono (HAP.out) ?_
              rintro e y1 ⟨rfl, hb⟩
              have hN := hH3.trans hb
              clear hb
              go_wp2_with fail
              refine hK.out _ _ hN (fun hH4 => ?_)
              clear hN
              clear hK KQ
              refine wpAnyL_take (i := 6) (oi := { dst := some 239, op := Go.Op.move (Go.Operand.tmp 238), type := 4, pos := "law.go:75", after := #[{ on := 5, ground := Go.Ground.data }, { on := 5, ground := Go.Ground.chain }], guard := none }) (v := ?_) rfl (by kernel_rfl) (by kernel_rfl) (by decide) (by kernel_rfl) (by kernel_rfl) (by kernel_rfl) (fun _ _ _ h => h) (Or.inl ⟨by rfl, ?_⟩) (by assumption) ?_
              rotate_left
              · intro w' hS; go_simp; (try with_reducible rfl)
              simp only [Act.put, List.setIfInBounds_toArray, List.set_cons_zero, List.set_cons_succ]
              refine wpAnyL_take (i := 7) (oi := { dst := some 240, op := Go.Op.move (Go.Operand.tmp 9), type := 27, pos := "law.go:75", after := #[{ on := 6, ground := Go.Ground.guard }], guard := some (6, true) }) (v := ?_) rfl (by kernel_rfl) (by kernel_rfl) (by decide) (by kernel_rfl) (by kernel_rfl) (by kernel_rfl) (fun _ _ _ h => h) (Or.inl ⟨by rfl, ?_⟩) (by assumption) ?_
              rotate_left
              · intro w' hS; go_simp; (try with_reducible rfl)
              simp only [Act.put, List.setIfInBounds_toArray, List.set_cons_zero, List.set_cons_succ]
              refine wpAnyL_take (i := 9) (oi := { dst := some 242, op := Go.Op.load 25 (Go.Operand.tmp 4), type := 25, pos := "law.go:75", after := #[{ on := 6, ground := Go.Ground.guard }], guard := some (6, true) }) (v := .agg #[.int .i64 A.k, .slice an A.nx.length cn, .slice aa A.ac.length ca]) rfl (by kernel_rfl) (by kernel_rfl) (by decide) (by kernel_rfl) (by kernel_rfl) (by kernel_rfl) (fun _ _ _ h => h) (Or.inl ⟨by rfl, ?_⟩) (by assumption) ?_
              · intro w' hS; have hz := (HX1.out _ (go_on HYZ.out hS)).cell; go_simp
              simp only [Act.put, List.setIfInBounds_toArray, List.set_cons_zero, List.set_cons_succ]
              refine wpAnyL_ready (rs := [8]) (by kernel_rfl) (by simp) ?_
              refine AllReadyL.cons rfl (fun KQ hK => ?_) AllReadyL.nil
              go_simp
              refine Calls.mono (HAU.out _ (go_on HYZ.out hH4)) ?_
              rintro e y2 ⟨va, rfl, hva, hb⟩
              have hN := go_on hH4 hb
              have hvr : Hid (AR y2 va A) := hva.ar
              clear hva hb
              go_wp2_with fail
              refine hK.out _ _ hN (fun hH5 => ?_)
              clear hN
              clear hK KQ
              refine wpAnyL_ready (rs := [10]) (by kernel_rfl) (by simp) ?_
              refine AllReadyL.cons rfl (fun KQ hK => ?_) AllReadyL.nil
              go_simp
              refine Calls.mono (HSA.out _ va (go_on HYZ.out hH5) hvr.out) ?_
              rintro e y3 ⟨rfl, hb⟩
              have hN := go_on hH5 hb
              clear hb
              go_wp2_with fail
              refine hK.out _ _ hN (fun hH6 => ?_)
              clear hN
              clear hK KQ
              refine wpAnyL_take (i := 11) (oi := { dst := some 244, op := Go.Op.pick (Go.Operand.tmp 239) (Go.Operand.tmp 243) (Go.Operand.const (Go.Value.bool false)), type := 4, pos := "law.go:75", after := #[{ on := 6, ground := Go.Ground.data }, { on := 10, ground := Go.Ground.data }], guard := none }) (v := ?_) rfl (by kernel_rfl) (by kernel_rfl) (by decide) (by kernel_rfl) (by kernel_rfl) (by kernel_rfl) (fun _ _ _ h => h) (Or.inl ⟨by rfl, ?_⟩) (by assumption) ?_
              rotate_left
              · intro w' hS; go_simp; (try with_reducible rfl)
              simp only [Act.put, List.setIfInBounds_toArray, List.set_cons_zero, List.set_cons_succ]
              refine wpAnyL_take (i := 12) (oi := { dst := some 245, op := Go.Op.move (Go.Operand.tmp 244), type := 4, pos := "law.go:75", after := #[{ on := 11, ground := Go.Ground.data }, { on := 10, ground := Go.Ground.chain }], guard := none }) (v := ?_) rfl (by kernel_rfl) (by kernel_rfl) (by decide) (by kernel_rfl) (by kernel_rfl) (by kernel_rfl) (fun _ _ _ h => h) (Or.inl ⟨by rfl, ?_⟩) (by assumption) ?_
              rotate_left
              · intro w' hS; go_simp; (try with_reducible rfl)
              simp only [Act.put, List.setIfInBounds_toArray, List.set_cons_zero, List.set_cons_succ]
              refine wpAnyL_ready (rs := [13]) (by kernel_rfl) (by simp) ?_
              refine AllReadyL.cons rfl (fun KQ hK => ?_) AllReadyL.nil
              go_simp
              refine Calls.mono (live14_any _) ?_
              rintro e y4 ⟨rfl, hb⟩
              have hN := go_on hH6 hb
              clear hb
              go_wp2_with fail
              refine hK.out _ _ hN (fun hH7 => ?_)
              clear hN
              clear hK KQ
              refine wpAnyL_take (i := 14) (oi := { dst := some 247, op := Go.Op.pick (Go.Operand.tmp 245) (Go.Operand.tmp 246) (Go.Operand.const (Go.Value.bool false)), type := 4, pos := "law.go:75", after := #[{ on := 12, ground := Go.Ground.data }, { on := 13, ground := Go.Ground.data }], guard := none }) (v := ?_) rfl (by kernel_rfl) (by kernel_rfl) (by decide) (by kernel_rfl) (by kernel_rfl) (by kernel_rfl) (fun _ _ _ h => h) (Or.inl ⟨by rfl, ?_⟩) (by assumption) ?_
              rotate_left
              · intro w' hS; go_simp; (try with_reducible rfl)
              simp only [Act.put, List.setIfInBounds_toArray, List.set_cons_zero, List.set_cons_succ]
              refine wpAnyL_ready (rs := [15]) (by kernel_rfl) (by simp) ?_
              refine AllReadyL.last rfl (fun KQ hK => ?_)
              go_simp
              have HFIN : Hid (Below z0.heap.size z0 y4) := hH7
              refine hK.out _ _ ?_
              clear hK KQ
              refine wpAnyL_done (by kernel_rfl) ?_ _
              go_wp2_with fail
              go_ret
              exact ⟨rfl, go_on HB1.out (go_on HYZ.out HFIN.out)⟩)

/-! ### The row's step -/
theorem own : ownKnob Try.prog.godebug = none := by kernel_rfl
set_option maxRecDepth 100000 in
theorem lifted (os : Os) (started : os.Started) (H : Type) (enc : TypeId × Value → H) :
    ReturnsInHanded {} Try.checked os 3 .any (Rows.monoidElementsSpec.pre6 enc Try.prog Try.f3 Rows.monoidElementsRow.domain false) (Rows.monoidElementsSpec.post enc Try.prog Try.f3 false true false false) := by
  refine returnsInHanded_of_change_sized (C := Try.checked) own started (by kernel_rfl) Try.func3
    (ChangeSpec.witness6 (enc := enc) (C := Try.checked) false ⟨#[], #[.agg #[.int .i64 0, .slice none 0 0, .slice none 0 0], .int .i64 0, .string ByteArray.empty, .int .u64 0], []⟩ 8 (by kernel_rfl) (by kernel_rfl) (by kernel_rfl) (by kernel_rfl)) ?_
  intro W base args ds gs before hval0 hW hcnd hsz0 _
  have hval : ∀ (j : Nat) t v, Try.f3.params[j]? = some t → args[j]? = some v → Value.okWide Try.prog W .any base t v := hval0
  clear hval0
  have hsz : (DataW.weightsEach Try.prog (Try.f3.params.toList ++ Rows.monoidElementsSpec.plain.varTypes Try.prog) (ds ++ gs)).all (· ≤ reachBytes) = true := hsz0
  clear hsz0
  have hW' := hW
  obtain ⟨p, q, hA0, hV, rfl, hfz, hnd⟩ := hW
  have hA : DataW.TrodAll enc Try.prog W 0 (fun _ => true) true Try.f3.params.toList args.toList ds p := hA0
  rw [Try.params3] at hA hval hsz
  obtain ⟨v0, vs0, d0, ds0, p0, q0, hargs, rfl, rfl, h0, r0⟩ := trodAll_cons hA
  obtain ⟨v1, vs1, d1, ds1, p1, q1, rfl, rfl, rfl, h1, r1⟩ := trodAll_cons r0
  obtain ⟨v2, vs2, d2, ds2, p2, q2, rfl, rfl, rfl, h2, r2⟩ := trodAll_cons r1
  obtain ⟨v3, vs3, d3, ds3, p3, q3, rfl, rfl, rfl, h3, r3⟩ := trodAll_cons r2
  obtain ⟨rfl, rfl, rfl⟩ := trodAll_nil r3
  obtain rfl : args = #[v0, v1, v2, v3] := by cases args; simp_all
  obtain ⟨rfl, rfl⟩ := trodVars_none hV
  obtain ⟨a0, x0, n0, w0, dk0, dn0, da0, e0, y0, z0⟩ := open_auto (hval 0 25 v0 rfl rfl) h0
  have b0 := auto_bounds hsz (j := 0) rfl (by rw [e0]; rfl) y0 z0
  have g0 : ∀ x ∈ p0, x.block < W.heap.size := fun x hx => hW'.lt x (by simp [hx])
  obtain ⟨a1, rfl, rfl, rfl, w1⟩ := open_int Try.underlying3 (hval 1 3 v1 rfl rfl) h1
  obtain ⟨a2, rfl, rfl, rfl, w2⟩ := open_string Try.underlying9 (hval 2 9 v2 rfl rfl) h2
  have u2 : a2.size ≤ 140737488355327 := by
    have := sized_string hsz (j := 2) (t := 9) rfl rfl
    have e : a2.data.toList.length = a2.size := rfl
    simp only [reachBytes] at this
    omega
  obtain ⟨b3, rfl, rfl, rfl, w3⟩ := open_int Try.underlying26 (hval 3 26 v3 rfl rfl) h3
  obtain ⟨a3, rfl, x3⟩ := u64_of w3
  clear hA0
  refine (walk v0 a0 a1 a2 a3 W x0 n0 b0.1 b0.2 u2 x3).mono fun e W' ⟨he, bel⟩ => ?_
  subst he
  exact ⟨_, rfl, _, _, _, [], _, [], hW', trodAll_mk1 (shut_bool Try.underlying4 _), (trodAll_cons_mk (Below.trod Try.laidOut (by kernel_rfl) (of_decide_eq_true (by kernel_rfl)) h0 bel g0) (trodAll_cons_mk (shut_int Try.underlying3 w1) (trodAll_cons_mk (shut_string Try.underlying9 w2) (trodAll_cons_mk (shut_int Try.underlying26 w3) trodAll_mk0)))), rfl, bel.frame _, fun h => by cases h⟩

theorem over : Rows.monoidElementsRow.holds Try.pinned (OpenSpec.ofChange Rows.monoidElementsSpec) :=
  OpenClaim.holds_of_wide 3 Try.f3 rfl rfl rfl rfl rfl rfl rfl ⟨rfl, rfl, rfl, rfl, rfl⟩ rfl rfl rfl rfl rfl (by kernel_rfl) Try.func3 (by kernel_rfl)
    (of_decide_eq_true (by kernel_rfl)) (by unfold Func.isWrapper; first | (rw [if_pos (by decide +kernel)]; kernel_rfl) | (rw [if_neg (by decide +kernel)]; exact ⟨rfl, rfl⟩))
    (fun os started H enc _ => lifted os started H enc)

end Go.Proofs.Ytabkhoiccjkghaa.monoidElements
namespace Go.Proofs.Ytabkhoiccjkghaa
/-- The given statement. -/
theorem monoidElements_holds : Rows.MonoidElementsSaid := monoidElements.over
end Go.Proofs.Ytabkhoiccjkghaa
