/- Proved: the card of eggboxlaw03.TreeJoins: it answers true at every node and every list of lists of nodes (P304), with tree.partsOf as the program's text lays it: tree.Join answers what the document's Join answers, leaves what it was handed as it was, and what it answers is the caller's own. -/
import Derived.Test.YtchaggigabccaaaDoorOe
import Derived.Test.YtchaggigabccaaaDoorOp
import Derived.LaidMore
import Derived.Stop.Joined
import Derived.Lib.LaidTab
import Derived.SevenTiedAt
import Derived.Test.YtchaggigabccaaaDoorTie
import Derived.Test.YtchaggigabccaaaDoorCards
namespace Go.Proofs.YtchaggigabccaaaDoor.treeJoins
open Go.ChangeShapes Go.WideShapes Go.ChangeAt Go.RowKit
set_option linter.unusedVariables false

/-- What stands when i lent lists are written over. -/
structure Spoilt (w wB wr : World) (g : Nat → Nat) (i : Nat) : Prop where
  others : ∀ k, k < wB.heap.size → (∀ j, j < i → g j ≠ k) → wr.heap[k]? = wB.heap[k]?
  size : wB.heap.size ≤ wr.heap.size
  below : Below w.heap.size w wr
theorem Spoilt.stay {w wB w1 w2 : World} {g : Nat → Nat} {i : Nat} (h : Spoilt w wB w1 g i) (hb : Below w1.heap.size w1 w2) : Spoilt w wB w2 g i :=
  ⟨fun k hk hne => (hb.block k (Nat.lt_of_lt_of_le hk h.size)).trans (h.others k hk hne), Nat.le_trans h.size hb.size, go_on h.below hb⟩
theorem Spoilt.step {w wB w1 w2 : World} {g : Nat → Nat} {i : Nat} (h : Spoilt w wB w1 g i) (hg : w1.grownBy w2 (some (g i))) (hw : w.heap.size ≤ g i) : Spoilt w wB w2 g (i + 1) := by
  refine ⟨fun k hk hne => ?_, Nat.le_trans h.size hg.size, h.below.grown hg h.below.size (fun k hk => by simp only [Option.some.injEq] at hk; omega)⟩
  rw [hg.block k (Nat.lt_of_lt_of_le hk h.size) (fun e => by simp only [Option.some.injEq] at e; exact hne i (by omega) e.symm)]
  exact h.others k hk (fun j hj => hne j (by omega))
theorem Spoilt.own {w wB wr : World} {g : Nat → Nat} {i B : Nat} {e : TypeId} {size n : Nat} {v : Value} {xs : List Value} (h : Spoilt w wB wr g i) (ho : wB.ownsRow B e size v n xs) (hne : ∀ j, j < i → ∀ b, v.ownBlock = some b → g j ≠ b) : wr.ownsRow B e size v n xs :=
  own_of_heap ho (fun b hb => h.others b (ho.lt b hb).2 (fun j hj => hne j hj b hb))

set_option maxHeartbeats 16000000 in
set_option maxRecDepth 100000 in
theorem walk (k s : Int) (v : Value) (ps : List (List Nd)) (w : World) (hv : PIn w v ps) (hl : ps.length * 24 ≤ 140737488351232) (hs : ∀ i, ((ps.getD i []).length + 2) * 16 ≤ 140737488355328) (hP : PTab w) :
    Calls Tryd.prog 5 #[ndV (k, s), v] w fun e w' => e = .returned (.bool true) ∧ Below w.heap.size w w' := by
  obtain ⟨i0, hi0, hz0, hz1, hz2⟩ := info_parts Tryd.info_nodes
  have HVR : Hid (PReads w v ps) := hv.reads
  have HP : Hid (PTab w) := hP
  have HS : Hid (∀ i, ((ps.getD i []).length + 2) * 16 ≤ 140737488355328) := hs
  have HM : Hid (∀ i, (ps.getD i []).length ≤ 9223372036854775806) := fun i => by have := hs i; omega
  obtain ⟨av, cv, rfl, hr⟩ := hv
  have HR : Hid (∀ i, i < ps.length → ∃ g o u, av = some ⟨g, o, none⟩ ∧ g < w.heap.size ∧ w.cell? ⟨g, o + i, none⟩ = some u ∧ NReads w u (ps.getD i []) ∧ ∀ c, u = .slice none 0 c → c = 0) := hr
  have HBA : Hid (Below w.heap.size w (w.alloc (.cells #[.int .i64 k, .int .u8 s] 36))) := (Below.refl _ _).alloc (Nat.le_refl _) _
  have HNA : Hid (NB (w.alloc (.cells #[.int .i64 k, .int .u8 s] 36)) w.heap.size k s) := NB.new w k s
  show Calls Tryd.prog 5 #[.agg #[.int .i64 k, .int .u8 s], .slice av ps.length cv] w _
  clear hr hP hs
  go_enter Tryd.func5, Tryd.ntmps5
  go_wp2_with fail
  go_loopw [5, 6] (fun vl vi wr => ∃ (i : Nat) (g c : Nat → Nat), i ≤ ps.length ∧ vi = .int .i64 i ∧ Lents (w.heap.size + 1) wr g c ps i vl ∧ NB wr w.heap.size k s ∧ Below w.heap.size w wr) (fun _ vi _ => ps.length - (intOf vi).toNat)
  case atStart => exact ⟨0, fun _ => 0, fun _ => 0, Nat.zero_le _, rfl, ⟨World.ownsRow_nil _ _ _ _, fun j hj => by omega, fun j j' hj => by omega⟩, HNA.out, HBA.out⟩
  case round =>
    clear HNA HBA
    obtain ⟨i, g, c, hi, rfl, hL, hnb, hb⟩ := hrel
    obtain ⟨la, lc, rfl⟩ := own_shape hL.list
    have HL : Hid (Lents (w.heap.size + 1) wr g c ps i (.slice la i lc)) := hL
    have HNB : Hid (NB wr w.heap.size k s) := hnb
    have HB : Hid (Below w.heap.size w wr) := hb
    have hws : w.heap.size + 1 ≤ wr.heap.size := hnb.lt
    clear hL hnb hb
    by_cases hlt : i < ps.length
    · have hiI : (i : Int) < ps.length := by omega
      obtain ⟨g0, o0, u, rfl, hgl, hc, hu, hn0⟩ := HR.out i hlt
      have cc : wr.cell? ⟨g0, o0 + i, none⟩ = some u := by rw [below_cell HB.out hgl]; exact hc
      have hsi := HS.out i
      obtain ⟨p, hp⟩ : ∃ p, ps.getD i [] = p := ⟨_, rfl⟩
      rw [hp] at hu hsi
      have HU : Hid (NReads wr u p) := hu.stay HB.out
      have HPE : Hid (ps.getD i [] = p) := hp
      have HN0 : Hid (∀ c, u = .slice none 0 c → c = 0) := hn0
      clear hu hp hc hn0
      go_wp2_with fail
      refine (lent_any _ p _ HU.out HN0.out hsi).mono ?_
      rintro e w2 ⟨gn, cn, rfl, ho2, hb2⟩
      have HO2 : Hid (w2.ownsRow wr.heap.size 36 2 (.slice (some ⟨gn, 0, none⟩) (p.length + 2) cn) (p.length + 2) (ndC (p ++ [(-7, 0), (-8, 0)]))) := ho2
      have HB2 : Hid (Below wr.heap.size wr w2) := hb2
      have HLL : Hid (w2.ownsRow (w.heap.size + 1) 22 1 (.slice la i lc) i ((List.range i).map (lv g c ps))) := own_below HL.out.list hb2
      have hs2 := hb2.size
      clear ho2 hb2
      go_wp2_with (at_builtin; refine wpList_append_own _ rfl _ _ 37 rfl (w.heap.size + 1) 22 i0 (.slice none 0 0) 1 24 Tryd.underlying37 hi0 hz0 hz1 hz2 rfl (by decide) _ _ _ rfl (HLL.out.alloc _) ⟨w2.heap.size, 0, none⟩ 1 1 [.slice (some ⟨gn, 0, none⟩) p.length cn] rfl rfl ?f1 ?f2 ?f3 ?f4 ?f5 ?_)
      case f1 => exact cell_one_new _ _ _
      case f2 => intro u hu; simp at hu; subst hu; rfl
      case f3 => unfold maxLen; omega
      case f4 => omega
      case f5 => first | omega | (simp; omega)
      intro v3 w3 ho3 hg3 _
      have HL3 : Hid (Lents (w.heap.size + 1) w3 (fun j => if j = i then gn else g j) (fun j => if j = i then cn else c j) ps (i + 1) v3) := by
        refine HL.out.step hws HB2.out ?_ ?_ hg3
        · rw [HPE.out]; exact HO2.out
        · rw [HPE.out]; exact ho3
      have HNB3 : Hid (NB w3 w.heap.size k s) := ((HNB.out.keep HB2.out).alloc _).grown hg3 (fun e => by have := (HLL.out.lt _ e).1; omega)
      have HB3 : Hid (Below w.heap.size w w3) := ((go_on HB.out HB2.out).alloc (by omega) _).grown hg3 (by simp; omega) (fun k' hk' => by have := (HLL.out.lt _ hk').1; omega)
      clear ho3 hg3
      go_wp2_with fail
      go_roundw
      case rel => exact ⟨i + 1, _, _, by omega, by go_num, HL3.out, HNB3.out, HB3.out⟩
      case measure => simp [intOf]; omega
    · have hiI : ¬ (i : Int) < ps.length := by omega
      obtain rfl : i = ps.length := by omega
      obtain ⟨W3, hW3⟩ : ∃ W3, W3 = wr := ⟨_, rfl⟩
      subst hW3
      have c0 := HNB.out.fst
      have c1 := HNB.out.snd
      have hTl := joinT_len (k, s) ps
      obtain ⟨T, hT⟩ : ∃ T, joinT (k, s) ps = T := ⟨_, rfl⟩
      obtain ⟨E, hE⟩ : ∃ E, joinE (k, s) ps = E := ⟨_, rfl⟩
      have HTE : Hid (joinT (k, s) ps = T ∧ joinE (k, s) ps = E) := ⟨hT, hE⟩
      rw [hT] at hTl
      clear hT hE
      go_wp2_with fail
      refine (joinV k s _ ps _ HL.out.reads HM.out (by omega) (HP.out.stay HB.out)).mono ?_
      rintro e w4 ⟨t, rfl, ho4, hb4⟩
      rw [HTE.out.1] at ho4
      rw [HTE.out.2]
      have HT4 : Hid (w4.ownsRow W3.heap.size 36 2 t T.length (ndC T)) := ho4
      have HL4 : Hid (Lents (w.heap.size + 1) w4 g c ps ps.length (.slice la ps.length lc)) := HL.out.below hb4
      have HB4 : Hid (Below w.heap.size w w4) := go_on HB.out hb4
      have HN4 : Hid (NB w4 w.heap.size k s) := HNB.out.keep hb4
      have c0 := HN4.out.fst
      have c1 := HN4.out.snd
      have hs4 := hb4.size
      clear ho4 hb4
      go_wp2_with fail
      refine (joinV k s _ ps _ HL4.out.reads HM.out (by omega) (HP.out.stay HB4.out)).mono ?_
      rintro e w5 ⟨u, rfl, ho5, hb5⟩
      rw [HTE.out.1] at ho5
      rw [HTE.out.2]
      have HU5 : Hid (w5.ownsRow w4.heap.size 36 2 u T.length (ndC T)) := ho5
      have HT5 : Hid (w5.ownsRow W3.heap.size 36 2 t T.length (ndC T)) := own_below HT4.out hb5
      have HL5 : Hid (Lents (w.heap.size + 1) w5 g c ps ps.length (.slice la ps.length lc)) := HL4.out.below hb5
      have HB5 : Hid (Below w.heap.size w w5) := go_on HB4.out hb5
      have HN5 : Hid (NB w5 w.heap.size k s) := HN4.out.keep hb5
      have HTU : Hid (∀ b, t.ownBlock = some b → b < w4.heap.size) := fun b hb => (HT4.out.lt b hb).2
      have hgW : Hid (∀ j, j < ps.length → g j < W3.heap.size ∧ w.heap.size ≤ g j) := fun j hj => ⟨((HL.out.rows j hj).lt (g j) rfl).2, by have := ((HL.out.rows j hj).lt (g j) rfl).1; omega⟩
      have c0 := HN5.out.fst
      have c1 := HN5.out.snd
      have hs5 := hb5.size
      clear ho5 hb5 HL HL4 HT4 HB4 HN4 HNB
      go_wp2_with fail
      refine (rjoinV k s _ ps _ (HVR.out.stay HB5.out) HM.out (by omega)).mono ?_
      rintro e w6 ⟨q, rfl, ho6, hb6⟩
      rw [HTE.out.1] at ho6
      rw [HTE.out.2]
      have HQ6 : Hid (w6.ownsRow w5.heap.size 36 2 q T.length (ndC T)) := ho6
      have HU6 : Hid (w6.ownsRow w4.heap.size 36 2 u T.length (ndC T)) := own_below HU5.out hb6
      have HT6 : Hid (w6.ownsRow W3.heap.size 36 2 t T.length (ndC T)) := own_below HT5.out hb6
      have HL6 : Hid (Lents (w.heap.size + 1) w6 g c ps ps.length (.slice la ps.length lc)) := HL5.out.below hb6
      have HB6 : Hid (Below w.heap.size w w6) := go_on HB5.out hb6
      have hs6 := hb6.size
      clear ho6 hb6 HL5 HT5 HU5 HB5 HN5 c0 c1
      go_wp2_with fail
      refine (num_any _ _).mono ?_
      rintro e w7 ⟨rfl, rfl⟩
      go_wp2_with fail
      refine (same_any _ _ T T _ (own_nreads HT6.out) (own_nreads HQ6.out) (by omega)).mono ?_
      rintro e w8 ⟨rfl, hb8⟩
      rw [decide_eq_true (Eq.refl T)]
      have HQ8 : Hid (w8.ownsRow w5.heap.size 36 2 q T.length (ndC T)) := own_below HQ6.out hb8
      have HU8 : Hid (w8.ownsRow w4.heap.size 36 2 u T.length (ndC T)) := own_below HU6.out hb8
      have HT8 : Hid (w8.ownsRow W3.heap.size 36 2 t T.length (ndC T)) := own_below HT6.out hb8
      have HL8 : Hid (Lents (w.heap.size + 1) w8 g c ps ps.length (.slice la ps.length lc)) := HL6.out.below hb8
      have HB8 : Hid (Below w.heap.size w w8) := go_on HB6.out hb8
      have hs8 := hb8.size
      clear hb8 HQ6 HU6 HT6 HL6 HB6
      go_wp2_with fail
      refine (same_any _ _ T T _ (own_nreads HU8.out) (own_nreads HQ8.out) (by omega)).mono ?_
      rintro e w9 ⟨rfl, hb9⟩
      rw [decide_eq_true (Eq.refl T)]
      have HQ9 : Hid (w9.ownsRow w5.heap.size 36 2 q T.length (ndC T)) := own_below HQ8.out hb9
      have HU9 : Hid (w9.ownsRow w4.heap.size 36 2 u T.length (ndC T)) := own_below HU8.out hb9
      have HT9 : Hid (w9.ownsRow W3.heap.size 36 2 t T.length (ndC T)) := own_below HT8.out hb9
      have HL9 : Hid (Lents (w.heap.size + 1) w9 g c ps ps.length (.slice la ps.length lc)) := HL8.out.below hb9
      have HB9 : Hid (Below w.heap.size w w9) := go_on HB8.out hb9
      have hs9 := hb9.size
      clear hb9 HQ8 HU8 HT8 HL8 HB8
      go_wp2_with fail
      refine (knows_any _ (HP.out.stay HB9.out)).mono ?_
      rintro e wB ⟨rfl, hbB⟩
      have HQB : Hid (wB.ownsRow w5.heap.size 36 2 q T.length (ndC T)) := own_below HQ9.out hbB
      have HUB : Hid (wB.ownsRow w4.heap.size 36 2 u T.length (ndC T)) := own_below HU9.out hbB
      have HTB : Hid (wB.ownsRow W3.heap.size 36 2 t T.length (ndC T)) := own_below HT9.out hbB
      have HLB : Hid (Lents (w.heap.size + 1) wB g c ps ps.length (.slice la ps.length lc)) := HL9.out.below hbB
      have HBB : Hid (Below w.heap.size w wB) := go_on HB9.out hbB
      have hsB := hbB.size
      clear hbB HQ9 HU9 HT9 HL9 HB9
      obtain ⟨ta, tc, rfl⟩ := own_shape HTB.out
      obtain ⟨ua, uc, rfl⟩ := own_shape HUB.out
      obtain ⟨qa, qc, rfl⟩ := own_shape HQB.out
      go_wp2_with fail
      go_loopw [13] (fun vi wr => ∃ i : Nat, i ≤ ps.length ∧ vi = .int .i64 i ∧ Spoilt w wB wr g i) (fun vi _ => ps.length - (intOf vi).toNat)
      case atStart => exact ⟨0, Nat.zero_le _, rfl, ⟨fun _ _ _ => rfl, Nat.le_refl _, HBB.out⟩⟩
      case round =>
        obtain ⟨i, hi, rfl, hsp⟩ := hrel
        have HSP : Hid (Spoilt w wB wr g i) := hsp
        clear hsp
        by_cases hlt : i < ps.length
        · have hiI : (i : Int) < ps.length := by omega
          obtain ⟨g0, o0, u0, rfl, hgl, hc, hu, hn0⟩ := HR.out i hlt
          obtain ⟨G, cap', e6, hBG, hGl, hgG, hcG⟩ := HLB.out.cell i hlt
          simp only [Value.slice.injEq] at e6
          obtain ⟨rfl, -, rfl⟩ := e6
          have cc1 : wr.cell? ⟨G, i, none⟩ = some (lv g c ps i) := by
            rw [World.cell?_of_block (a := ⟨G, i, none⟩) (HSP.out.others G hGl (fun j hj => hgG j (by omega)))]; exact hcG
          have cc2 : wr.cell? ⟨g0, o0 + i, none⟩ = some u0 := by rw [below_cell HSP.out.below hgl]; exact hc
          have hGr : G < wr.heap.size := Nat.lt_of_lt_of_le hGl HSP.out.size
          have hgr : g0 < wr.heap.size := Nat.lt_of_lt_of_le hgl HSP.out.below.size
          have S0 : S2 wr ⟨G, i, none⟩ ⟨g0, o0 + i, none⟩ (.slice (some ⟨g i, 0, none⟩) (ps.getD i []).length (c i)) u0 wr.drew := ⟨cc1, cc2, (Below.refl _ _).drew⟩
          have hq1 : (⟨G, i, none⟩ : Addr).block < wr.heap.size := hGr
          have hq2 : (⟨g0, o0 + i, none⟩ : Addr).block < wr.heap.size := hgr
          have hrow := HLB.out.rows i hlt
          have hpm := HS.out i
          have hgi := (hgW.out i hlt).2
          obtain ⟨p, hp⟩ : ∃ p, ps.getD i [] = p := ⟨_, rfl⟩
          rw [hp] at hu S0 hrow hpm
          have HPE : Hid (ps.getD i [] = p) := hp
          have HU : Hid (NReads wr u0 p) := hu.stay HSP.out.below
          have HROW : Hid (wr.ownsRow (w.heap.size + 1) 36 2 (.slice (some ⟨g i, 0, none⟩) (p.length + 2) (c i)) (p.length + 2) (ndC (p ++ [(-7, 0), (-8, 0)]))) := HSP.out.own hrow (fun j hj b hb => by
            simp only [Value.ownBlock, Option.some.injEq] at hb
            rw [← hb]
            exact HLB.out.apart j i (by omega) hlt (by omega))
          have hlen : p.length + 2 ≤ 9223372036854775806 := by omega
          clear hu hp hc hn0 cc1 cc2 hrow hpm
          go_wp2_with fail
          go_region_held3 (fun w' => S2 wr ⟨G, i, none⟩ ⟨g0, o0 + i, none⟩ (.slice (some ⟨g i, 0, none⟩) p.length (c i)) u0 w') (first | exact S0 | assumption | exact s2_step hq1 hq2 (by assumption) (by assumption)) (first
            | (go_at_call 17; refine (stay_any u0 p _ (by exact HU.out.stay (by exact (And.right (And.right (by assumption))))) (w.heap.size + 1) (g i) (c i) hlen (by exact own_below HROW.out (by exact (And.right (And.right (by assumption)))))).mono ?_; rintro e y2 ⟨rfl, hy2⟩))
          all_goals (
            have hS : S2 wr ⟨G, i, none⟩ ⟨g0, o0 + i, none⟩ (.slice (some ⟨g i, 0, none⟩) p.length (c i)) u0 y2 := by first | assumption | exact s2_step hq1 hq2 (by assumption) (by assumption)
            have cy := hS.1
            have HSY : Hid (Spoilt w wB y2 g i) := HSP.out.stay hS.2.2
            have HRY : Hid (y2.ownsRow (w.heap.size + 1) 36 2 (.slice (some ⟨g i, 0, none⟩) (p.length + 2) (c i)) (p.length + 2) (ndC (p ++ [(-7, 0), (-8, 0)]))) := own_below HROW.out hS.2.2
            clear hS S0 HROW HU
            go_wp2_with fail
            refine (spoil_any (w.heap.size + 1) (g i) (p.length + 2) p.length (c i) (p ++ [(-7, 0), (-8, 0)]) _ HRY.out (by simp) (by omega) hlen (c i)).mono ?_
            rintro e w11 ⟨rfl, hg11⟩
            have HS11 : Hid (Spoilt w wB w11 g (i + 1)) := HSY.out.step hg11 hgi
            clear hg11
            go_wp2_with fail
            go_roundw
            case rel => exact ⟨i + 1, by omega, by go_num, HS11.out⟩
            case measure => simp [intOf]; omega)
        · have hiI : ¬ (i : Int) < ps.length := by omega
          obtain rfl : i = ps.length := by omega
          have HTr : Hid (wr.ownsRow W3.heap.size 36 2 (.slice ta T.length tc) T.length (ndC T)) := HSP.out.own HTB.out (fun j hj b hb => by have h1 := (HTB.out.lt b hb).1; have h2 := (hgW.out j hj).1; omega)
          have HUr : Hid (wr.ownsRow w4.heap.size 36 2 (.slice ua T.length uc) T.length (ndC T)) := HSP.out.own HUB.out (fun j hj b hb => by have h1 := (HUB.out.lt b hb).1; have h2 := (hgW.out j hj).1; omega)
          have HQr : Hid (wr.ownsRow w5.heap.size 36 2 (.slice qa T.length qc) T.length (ndC T)) := HSP.out.own HQB.out (fun j hj b hb => by have h1 := (HQB.out.lt b hb).1; have h2 := (hgW.out j hj).1; omega)
          have HBr : Hid (Below w.heap.size w wr) := HSP.out.below
          have hsr := HSP.out.size
          have hsW := HB.out.size
          clear HSP HTB HUB HQB HLB HBB
          go_wp2_with fail
          refine (same_any _ _ T T _ (own_nreads HTr.out) (own_nreads HQr.out) (by omega)).mono ?_
          rintro e w11 ⟨rfl, hb11⟩
          rw [decide_eq_true (Eq.refl T)]
          have HT11 : Hid (w11.ownsRow W3.heap.size 36 2 (.slice ta T.length tc) T.length (ndC T)) := own_below HTr.out hb11
          have HU11 : Hid (w11.ownsRow w4.heap.size 36 2 (.slice ua T.length uc) T.length (ndC T)) := own_below HUr.out hb11
          have HB11 : Hid (Below w.heap.size w w11) := go_on HBr.out hb11
          have hs11 := hb11.size
          clear hb11
          go_wp2_with fail
          have hTold : Told (w11.alloc (.cells #[.slice ta T.length tc, .slice ua T.length uc] 22)) W3.heap.size w11.heap.size [.slice ta T.length tc, .slice ua T.length uc] [T, T] := by
            refine ⟨rfl, heap_alloc_new w11 _, by omega, fun j hj => ?_, fun j j' hj hj' hne b hb hb' => ?_⟩
            · have hj : j < 2 := hj
              have hc : j = 0 ∨ j = 1 := by omega
              rcases hc with rfl | rfl
              · exact HT11.out.alloc _
              · exact own_mono (HU11.out.alloc _) (by omega)
            · have hj : j < 2 := hj
              have hj' : j' < 2 := hj'
              have hc : (j = 0 ∧ j' = 1) ∨ (j = 1 ∧ j' = 0) := by omega
              rcases hc with ⟨rfl, rfl⟩ | ⟨rfl, rfl⟩
              · have x := HTU.out b hb
                have y := (HU11.out.lt b hb').1
                omega
              · have x := HTU.out b hb'
                have y := (HU11.out.lt b hb).1
                omega
          have HBl : Hid (Below w.heap.size w (w11.alloc (.cells #[.slice ta T.length tc, .slice ua T.length uc] 22))) := HB11.out.alloc HB11.out.size _
          refine (apart_told hTold 2 (by simp; omega) (by simp) (by simp) (fun j hj => by
            have hj : j < 2 := hj
            have hc : j = 0 ∨ j = 1 := by omega
            rcases hc with rfl | rfl <;> (show T.length ≤ 1048576; omega))).mono ?_
          rintro e w12 ⟨rfl, hb12⟩
          have HB12 : Hid (Below w.heap.size w w12) := HBl.out.trans (hb12.mono hsW)
          clear hb12 hTold
          go_wp2_with fail
          go_ret
          exact ⟨rfl, HB12.out⟩
/-! ### The row's step -/
theorem own : ownKnob Tryd.prog.godebug = none := by kernel_rfl
def laid1 : List (String × DataW Unit) := [("eggbox/tree.partsOf", Rows.laid_eggbox_tree_partsOf)]
def tabZ : List Int := [0, 0, 0, 0, 0, 2, 2, 2, 1, 1]
theorem gTab : Tryd.prog.globalNamed "eggbox/tree.partsOf" = some 0 := by kernel_rfl
theorem tTab : (Tryd.prog.globals[0]?).map (·.type) = some 63 := by kernel_rfl
theorem of_laid {W : World} (h : laidMetH Tryd.prog laid1 W) : PTab W := by
  rw [MakeChecks.laidMetH_plain _ _ _ (by kernel_rfl)] at h
  have ht : Lib.TabIs Tryd.prog W "eggbox/tree.partsOf" .i64 tabZ :=
    Lib.tabIs_of_head (rest := []) gTab tTab Tryd.underlying63 Tryd.underlying3 (by kernel_rfl) (by kernel_rfl) h
  intro j hj
  have := ht.cell gTab j hj
  rw [this]
  have hc : j = 0 ∨ j = 1 ∨ j = 2 ∨ j = 3 ∨ j = 4 ∨ j = 5 ∨ j = 6 ∨ j = 7 ∨ j = 8 ∨ j = 9 := by omega
  rcases hc with rfl | rfl | rfl | rfl | rfl | rfl | rfl | rfl | rfl | rfl <;> rfl
/-- The door's own heap meets the condition. -/
theorem door_met (os : Os) (args : Array Value) : laidMetH Tryd.prog laid1 ((World.doorLaid Tryd.prog 400 os).forCall (fun _ _ => 0) ⟨#[], args, []⟩).memory :=
  laidMetH_of_parts3 (fuel := 8) (laidMet_of_run' 8 (by kernel_rfl) (by kernel_rfl)) (by kernel_rfl) (by kernel_rfl)

set_option maxRecDepth 100000 in
theorem lifted (os : Os) (started : os.Started) (H : Type) (enc : TypeId × Value → H) :
    ReturnsInHanded {} Tryd.checked os 5 .any (fun w args => (Rows.treeJoinsSpec.pre enc Tryd.prog Tryd.f5 [] false w args ∧ laidMetH Tryd.prog laid1 w) ∧ sizedMet enc Tryd.prog Tryd.f5 (OpenSpec.ofChange Rows.treeJoinsSpec) false w args)
      (Rows.treeJoinsSpec.post enc Tryd.prog Tryd.f5 false true false false) := by
  refine returnsInHanded_of_change_and (C := Tryd.checked) (X := fun w _ => laidMetH Tryd.prog laid1 w) (fun _ _ _ hh h => h.of_heap hh) own started (by kernel_rfl) Tryd.func5
    (ChangeSpec.witness_shaped (enc := enc) (C := Tryd.checked) (os := os) (X := fun w _ => laidMetH Tryd.prog laid1 w) false (World.doorLaid Tryd.prog 400 os) #[.agg #[.int .i64 0, .int .u8 0], .slice none 0 0] 8 rfl (World.shaped_of_RefB (by kernel_rfl) (by kernel_rfl)) (by kernel_rfl) (by kernel_rfl) (by kernel_rfl) (door_met os _)) ?_
  intro W base args ds gs before hval0 hW _ hsz0 hL _
  have hval : ∀ (j : Nat) t v, Tryd.f5.params[j]? = some t → args[j]? = some v → Value.okWide Tryd.prog W .any base t v := hval0
  have hW' := hW
  obtain ⟨p, q, hA0, hV, rfl, hfz, hnd⟩ := hW
  have hA : DataW.TrodAll enc Tryd.prog W 0 (fun _ => true) true Tryd.f5.params.toList args.toList ds p := hA0
  have hsz : (DataW.weightsEach Tryd.prog (Tryd.f5.params.toList ++ Rows.treeJoinsSpec.plain.varTypes Tryd.prog) (ds ++ gs)).all (· ≤ reachBytes) = true := hsz0
  rw [Tryd.params5] at hA hval hsz
  obtain ⟨v0, vs0, d0, ds0, p0, q0, hargs, rfl, rfl, h0, r0⟩ := trodAll_cons hA
  obtain ⟨v1, vs1, d1, ds1, p1, q1, rfl, rfl, rfl, h1, r1⟩ := trodAll_cons r0
  obtain ⟨rfl, rfl, rfl⟩ := trodAll_nil r1
  obtain rfl : args = #[v0, v1] := by cases args; simp_all
  obtain ⟨rfl, rfl⟩ := trodVars_none hV
  obtain ⟨a0, b0, rfl, rfl, rfl, w0, x0⟩ := open_node (hval 0 36 v0 rfl rfl) h0
  obtain ⟨a1, w1, y1⟩ := open_trees (hval 1 37 v1 rfl rfl) h1
  have z1 : a1.length * 24 ≤ 140737488351232 := by
    rcases y1 with ⟨_, rfl⟩ | ⟨e, s, rfl, hy, _⟩
    · decide
    · have := sized_slice hsz (j := 1) (t := 37) rfl rfl Tryd.underlying37
      rw [Tryd.bytes_nodes] at this
      simp only [reachBytes] at this
      omega
  have s1 : ∀ i, ((a1.getD i []).length + 2) * 16 ≤ 140737488355328 := by
    intro i
    by_cases hi : i < a1.length
    · rcases y1 with ⟨_, rfl⟩ | ⟨e, s, rfl, _, hy⟩
      · simp at hi
      · rcases hy i hi with h | ⟨e', s', h1, h2⟩
        · rw [h]; decide
        · have := sized_inner hsz (j := 1) (t := 37) rfl rfl Tryd.underlying37 Tryd.underlying22 h1
          rw [Tryd.bytes_node] at this
          simp only [reachBytes] at this
          omega
    · rw [List.getD_eq_getElem?_getD, List.getElem?_eq_none (by omega)]; decide
  have g1 : ∀ x ∈ p1, x.block < W.heap.size := fun x hx => hW'.lt x (by simp [hx])
  have hTz := of_laid hL
  clear hA0 hval0
  refine (walk a0 b0 v1 a1 W  w1 z1 s1 hTz).mono fun e W' ⟨he, bel⟩ => ?_
  subst he
  exact ⟨_, rfl, _, _, _, [], _, [], hW', trodAll_mk1 (shut_bool Tryd.underlying4 _), (trodAll_cons_mk (shut_node w0 x0) (trodAll_cons_mk (Below.trod Tryd.laidOut (by kernel_rfl) (of_decide_eq_true (by kernel_rfl)) h1 bel g1) trodAll_mk0)), rfl, bel.frame _, fun h => by cases h⟩

theorem over : Rows.TreeJoinsSaid :=
  OpenClaim.holds_of_wide 5 Tryd.f5 rfl rfl rfl rfl rfl rfl rfl ⟨rfl, rfl, rfl, rfl, rfl⟩ rfl rfl rfl rfl rfl (by kernel_rfl) Tryd.func5 (by kernel_rfl)
    (of_decide_eq_true (by kernel_rfl)) (by unfold Func.isWrapper; first | (rw [if_pos (by decide +kernel)]; kernel_rfl) | (rw [if_neg (by decide +kernel)]; exact ⟨rfl, rfl⟩))
    (fun os started H enc _ => lifted os started H enc)

theorem card : Rows.TreeJoinsCardSaid :=
  Claim7.holds_tied_plain_at .later [] [.data] true (true, "014b10a7dc2b80ed82ed1e55c7eae7f3da860af38cf5edac7383b099fbb40189") false
    over (fun _ h => by cases h) (by kernel_rfl) (fun _ h => by cases h) treeJoins_row_tie rfl ⟨rfl, rfl⟩ (by kernel_rfl) rfl
    (fun f fn hf hfn => by
      obtain rfl : f = 5 := Option.some.inj ((show Tryd.prog.funcNamed "eggbox/eggboxlaw03.TreeJoins" = some 5 by kernel_rfl).symm.trans hf) |>.symm
      obtain rfl : fn = Tryd.f5 := (Option.some.inj (Tryd.func5.symm.trans hfn)).symm
      exact ⟨by kernel_rfl, fun j t ht => by
        rw [Tryd.params5] at ht
        have hm : t ∈ [36, 37] := by simpa using Array.mem_of_getElem? ht
        have hall : ([36, 37].all fun u => !Tryd.prog.wantsStandIn u) = true := by kernel_rfl
        exact (show Tryd.prog.wantsStandIn t = false by simpa using List.all_eq_true.1 hall t hm)⟩)
    (by kernel_rfl)

end Go.Proofs.YtchaggigabccaaaDoor.treeJoins
namespace Go.Proofs.YtchaggigabccaaaDoor
/-- The given statement. -/
theorem treeJoins_holds : Rows.TreeJoinsCardSaid := treeJoins.card
end Go.Proofs.YtchaggigabccaaaDoor
