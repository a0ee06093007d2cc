/- Proved: the card of eggboxlaw07.DerivOn: it answers true at every list of nodes and every two texts (P706), with math/bits.deBruijn64tab and tree.partsOf as the program's text lays them: deriv.By of two words one behind the other is that by the one and then by the other; the derivative of a tree is that of its normal form, and is itself in normal form; its arguments read behind the call as before. The card ties the variables to the pruned copy of the project that the seat holds. -/
import Derived.Test.YtdgpajdlomihaaaGreatDoorQEt
import Derived.Test.YtdgpajdlomihaaaGreatDoorQTl
import Derived.Test.YtdgpajdlomihaaaGreatDoorQTn
import Derived.LaidMore
import Derived.Stop.Joined
import Derived.Stop.LaidErr
import Derived.Lib.LaidTab
import Derived.SevenTiedAt
import Derived.ShutString
import Derived.ChangeMaps5
import Derived.Test.YtdgpajdlomihaaaGreatDoorTie
import Derived.Test.YtdgpajdlomihaaaGreatDoorCards
namespace Go.Proofs.YtdgpajdlomihaaaGreatDoor.derivOn
open Go.ChangeShapes Go.WideShapes Go.ChangeAt Go.RowKit
open Go.ChangeMaps (open_string shut_string)
set_option linter.unusedVariables false

/-- What By answers, as a number and a list. -/
def ByR (ts : List Nd) (s : ByteArray) (k : Int) (ys : List Nd) : Prop :=
  (wrong ts ≠ 0 ∧ k = wrong ts ∧ ys = []) ∨ (wrong ts = 0 ∧ lett s = false ∧ k = 21 ∧ ys = []) ∨
  (wrong ts = 0 ∧ lett s = true ∧ ∃ T : Tr, T.ok ∧ T.flat = ts ∧ ((dby (wl s) (nrm T) = none ∧ k = 6 ∧ ys = []) ∨ ∃ R, dby (wl s) (nrm T) = some R ∧ k = 0 ∧ ys = R.flat))
theorem nil_reads (w : World) : NReads w (.slice none 0 0) [] := ⟨none, 0, rfl, fun i hi => by simp at hi⟩
theorem by_uni {ts : List Nd} {s : ByteArray} {w w' : World} {e : Ending} (h : ByQ ts s w e w') : ∃ u k ys, e = .returned (.tuple #[u, .int .i64 k]) ∧ ByR ts s k ys ∧ NReads w' u ys ∧ Below w.heap.size w w' := by
  rcases h with ⟨h1, rfl, hb⟩ | ⟨h1, h2, rfl, hb⟩ | ⟨h1, h2, T, ho, hT, ⟨h3, rfl, hb⟩ | ⟨R, u, h3, rfl, h4, hb⟩⟩
  · exact ⟨_, _, [], rfl, .inl ⟨h1, rfl, rfl⟩, nil_reads _, hb⟩
  · exact ⟨_, _, [], rfl, .inr (.inl ⟨h1, h2, rfl, rfl⟩), nil_reads _, hb⟩
  · exact ⟨_, _, [], rfl, .inr (.inr ⟨h1, h2, T, ho, hT, .inl ⟨h3, rfl, rfl⟩⟩), nil_reads _, hb⟩
  · exact ⟨_, _, R.flat, rfl, .inr (.inr ⟨h1, h2, T, ho, hT, .inr ⟨R, h3, rfl, rfl⟩⟩), h4.reads, hb⟩
/-- Where By answers a tree. -/
structure ByT (ts : List Nd) (s : ByteArray) (T R : Tr) : Prop where
  ok : T.ok
  flat : T.flat = ts
  let_ : lett s = true
  dby : dby (wl s) (nrm T) = some R
  rok : R.ok ∧ NF R ∧ R.flat.length ≤ 4000
  nok : (nrm T).ok ∧ NF (nrm T) ∧ (nrm T).flat.length ≤ 4000
  wt : wrong ts = 0
theorem by_zero {ts : List Nd} {s : ByteArray} {ys : List Nd} (h : ByR ts s 0 ys) : ∃ T R, ByT ts s T R ∧ ys = R.flat := by
  rcases h with ⟨h1, h2, _⟩ | ⟨_, _, h2, _⟩ | ⟨h1, h2, T, ho, hT, ⟨_, h3, _⟩ | ⟨R, h3, _, h4⟩⟩
  · exact absurd h2.symm h1
  · cases h2
  · cases h3
  · have hn := nrm_ok (t := T) ho
    have hl := nrm_len (t := T) ho
    have hw := (wrong_zero h1).1
    rw [← hT] at hw
    have hnl : (nrm T).flat.length ≤ 4000 := by omega
    exact ⟨T, R, ⟨ho, hT, h2, h3, dby_ok _ hn.1 hn.2 hnl h3, ⟨hn.1, hn.2, hnl⟩, h1⟩, h4⟩
theorem by_none {ts : List Nd} {s : ByteArray} {k : Int} {ys : List Nd} (h : ByR ts s k ys) (hk : k ≠ 0) : ys = [] := by
  rcases h with ⟨_, _, h⟩ | ⟨_, _, _, h⟩ | ⟨_, _, T, _, _, ⟨_, _, h⟩ | ⟨R, _, h, _⟩⟩
  · exact h
  · exact h
  · exact h
  · exact absurd h hk
theorem by_on {ts : List Nd} {u v : ByteArray} {T R : Tr} (h : ByT ts u T R) {k k' : Int} {ys ys' : List Nd} (h1 : ByR R.flat v k ys) (h2 : ByR ts (u ++ v) k' ys') : k' = k ∧ ys' = ys := by
  have hw : wrong R.flat = 0 := ok_wrong h.rok.1 h.rok.2.2
  have hlu : lett (u ++ v) = lett v := by rw [lett_append, h.let_, Bool.true_and]
  rcases h1 with ⟨a, _⟩ | ⟨_, a2, a3, a4⟩ | ⟨_, a2, T1, o1, f1, a5⟩
  · exact absurd hw a
  · rcases h2 with ⟨b, _⟩ | ⟨_, b2, b3, b4⟩ | ⟨_, b2, _⟩
    · exact absurd h.wt b
    · exact ⟨b3.trans a3.symm, b4.trans a4.symm⟩
    · rw [hlu, a2] at b2; cases b2
  · have e1 := flat_inj o1 h.rok.1 f1
    subst e1
    rcases h2 with ⟨b, _⟩ | ⟨_, b2, _⟩ | ⟨_, _, T2, o2, f2, b5⟩
    · exact absurd h.wt b
    · rw [hlu, a2] at b2; cases b2
    · have e2 := flat_inj o2 h.ok (f2.trans h.flat.symm)
      subst e2
      have hd : dby (wl (u ++ v)) (nrm T2) = dby (wl v) (nrm T1) := by
        rw [show wl (u ++ v) = wl u ++ wl v by simp [wl], dby_append, h.dby, nrm_nf h.rok.1 h.rok.2.1]
        rfl
      rw [hd] at b5
      rcases a5 with ⟨c1, c2, c3⟩ | ⟨R1, c1, c2, c3⟩ <;> rcases b5 with ⟨d1, d2, d3⟩ | ⟨R2, d1, d2, d3⟩
      · exact ⟨d2.trans c2.symm, d3.trans c3.symm⟩
      · rw [c1] at d1; cases d1
      · rw [c1] at d1; cases d1
      · rw [c1] at d1
        have e3 := Option.some.inj d1
        subst e3
        exact ⟨d2.trans c2.symm, d3.trans c3.symm⟩
theorem by_norm {ts : List Nd} {u : ByteArray} {T R : Tr} (h : ByT ts u T R) {k : Int} {ys : List Nd} (h1 : ByR (nrm T).flat u k ys) : k = 0 ∧ ys = R.flat := by
  have hw : wrong (nrm T).flat = 0 := ok_wrong h.nok.1 h.nok.2.2
  rcases h1 with ⟨a, _⟩ | ⟨_, a2, _⟩ | ⟨_, _, T1, o1, f1, a5⟩
  · exact absurd hw a
  · rw [h.let_] at a2; cases a2
  · have e1 := flat_inj o1 h.nok.1 f1
    subst e1
    rw [nrm_nf h.nok.1 h.nok.2.1, h.dby] at a5
    rcases a5 with ⟨c1, _⟩ | ⟨R1, c1, c2, c3⟩
    · cases c1
    · have e3 := Option.some.inj c1
      subst e3
      exact ⟨c2, c3⟩
theorem by_len {ts : List Nd} {s : ByteArray} {k : Int} {ys : List Nd} (h : ByR ts s k ys) : ys.length ≤ 4000 := by
  by_cases hk : k = 0
  · subst hk
    obtain ⟨T, R, h1, rfl⟩ := by_zero h
    exact h1.rok.2.2
  · rw [by_none h hk]; simp

set_option maxHeartbeats 8000000 in
set_option maxRecDepth 100000 in
theorem walk (v : Value) (ts : List Nd) (s1 : ByteArray) (s2 : ByteArray) (w : World) (hv : NReads w v ts) (hn0 : ∀ c, v = .slice none 0 c → c = 0) (hl : (ts.length + 2) * 16 ≤ 140737488355328) (hs1 : s1.size ≤ 140737488355327) (hs2 : s2.size ≤ 140737488355327) (hP : PTab w) (hT : TzTab w) :
    Calls Tryz.prog 6 #[v, .string s1, .string s2] w fun e w' => e = .returned (.bool true) ∧ Below w.heap.size w w' := by
  have HV : Hid (NReads w v ts) := hv
  have HP : Hid (PTab w) := hP
  have HT : Hid (TzTab w) := hT
  have HL : Hid (ts.length ≤ 9223372036854775806) := by show _ ≤ _; omega
  obtain ⟨va, vc, hva, _⟩ := hv
  subst hva
  have HBY : Hid (∀ w1 s, Below w.heap.size w w1 → Calls Tryz.prog 20 #[.slice va ts.length vc, .string s] w1 (ByQ ts s w1)) := fun w1 s hb => dBy_any _ ts s w1 (HV.out.stay hb) HL.out (HP.out.stay hb) (HT.out.stay hb)
  clear hn0 hl hP hT
  go_enter Tryz.func6, Tryz.ntmps6
  go_wp2_with fail
  refine (HBY.out _ _ (Below.refl _ _)).mono ?_
  rintro e w1 hq
  obtain ⟨u1, k1, ys1, rfl, hr1, hn1, hb1⟩ := by_uni hq
  have HB1 : Hid (Below w.heap.size w w1) := hb1
  have HR1 : Hid (ByR ts s1 k1 ys1) := hr1
  have HN1 : Hid (NReads w1 u1 ys1) := hn1
  clear hq hb1 hr1 hn1
  by_cases hk1 : k1 = 0
  · subst hk1
    obtain ⟨T, R, hby, hys⟩ := by_zero HR1.out
    subst hys
    have HT1 : Hid (ByT ts s1 T R) := hby
    clear hby HR1
    go_wp2_with fail
    refine (num7_any 0 _).mono ?_
    rintro e w2 ⟨rfl, rfl⟩
    go_wp2_with fail
    refine (knows7_any _ (HP.out.stay HB1.out) (HT.out.stay HB1.out)).mono ?_
    rintro e w2 ⟨rfl, hb2⟩
    have HB2 : Hid (Below w.heap.size w w2) := go_on HB1.out hb2
    have HN2 : Hid (NReads w2 u1 R.flat) := HN1.out.stay hb2
    clear hb2 HN1 HB1
    go_wp2_with fail
    refine (dBy_any _ _ s2 _ HN2.out (by have := HT1.out.rok.2.2; omega) (HP.out.stay HB2.out) (HT.out.stay HB2.out)).mono ?_
    rintro e w3 hq
    obtain ⟨u3, k3, ys3, rfl, hr3, hn3, hb3⟩ := by_uni hq
    have HB3 : Hid (Below w.heap.size w w3) := go_on HB2.out hb3
    have HR3 : Hid (ByR R.flat s2 k3 ys3) := hr3
    have HN3 : Hid (NReads w3 u3 ys3) := hn3
    have HA3 : Hid (NReads w3 u1 R.flat) := HN2.out.stay hb3
    clear hq hb3 hr3 hn3 HN2 HB2
    go_wp2_with fail
    refine (HBY.out _ _ HB3.out).mono ?_
    rintro e w4 hq
    obtain ⟨u4, k4, ys4, rfl, hr4, hn4, hb4⟩ := by_uni hq
    obtain ⟨rfl, rfl⟩ := by_on HT1.out HR3.out hr4
    have HB4 : Hid (Below w.heap.size w w4) := go_on HB3.out hb4
    have HN4 : Hid (NReads w4 u4 ys4) := hn4
    have HN3' : Hid (NReads w4 u3 ys4) := HN3.out.stay hb4
    have HA4 : Hid (NReads w4 u1 R.flat) := HA3.out.stay hb4
    have HY4 : Hid (ys4.length ≤ 4000) := by_len hr4
    clear hq hb4 hr4 hn4 HN3 HA3 HR3 HB3
    go_wp2_with fail
    refine (num7_any k4 _).mono ?_
    rintro e w5 ⟨rfl, rfl⟩
    go_wp2_with fail
    refine (num7_any k4 _).mono ?_
    rintro e w5 ⟨rfl, rfl⟩
    go_wp2_with fail
    refine (same_any _ _ _ _ _ HN3'.out HN4.out (by have := HY4.out; omega)).mono ?_
    rintro e w5 ⟨rfl, hb5⟩
    rw [decide_eq_true (show ys4 = ys4 from rfl)]
    have HB5 : Hid (Below w.heap.size w w5) := go_on HB4.out hb5
    have HA5 : Hid (NReads w5 u1 R.flat) := HA4.out.stay hb5
    clear hb5 HN4 HN3' HA4 HY4 HB4
    have HNO : Hid (Calls Tryz.prog 21 #[.slice va ts.length vc] w5 fun e w' => NQ T w5 e w') := by
      have hT := HT1.out.flat
      have h1 := HV.out.stay HB5.out
      rw [← hT] at h1 ⊢
      exact normal_good T HT1.out.ok _ _ w5 h1 (HP.out.stay HB5.out) (by rw [hT]; exact HT1.out.wt)
    go_wp2_with fail
    refine HNO.out.mono ?_
    rintro e w6 ⟨u6, rfl, ho6, hb6⟩
    have HB6 : Hid (Below w.heap.size w w6) := go_on HB5.out hb6
    have HA6 : Hid (NReads w6 u1 R.flat) := HA5.out.stay hb6
    have HN6 : Hid (NReads w6 u6 (nrm T).flat) := own_nreads ho6
    clear hb6 ho6 HNO HA5 HB5
    go_wp2_with fail
    refine (dBy_any _ _ s1 _ HN6.out (by have := HT1.out.nok.2.2; omega) (HP.out.stay HB6.out) (HT.out.stay HB6.out)).mono ?_
    rintro e w7 hq
    obtain ⟨u7, k7, ys7, rfl, hr7, hn7, hb7⟩ := by_uni hq
    obtain ⟨rfl, rfl⟩ := by_norm HT1.out hr7
    have HB7 : Hid (Below w.heap.size w w7) := go_on HB6.out hb7
    have HA7 : Hid (NReads w7 u1 R.flat) := HA6.out.stay hb7
    have HN7 : Hid (NReads w7 u7 R.flat) := hn7
    clear hq hb7 hr7 hn7 HA6 HN6 HB6
    obtain ⟨ra, rc, hru, _⟩ := id HA7.out
    subst hru
    have HIS : Hid (Calls Tryz.prog 22 #[.slice ra R.flat.length rc] w7 fun e w' => e = .returned (.tuple #[.bool true, .int .i64 0]) ∧ Below w7.heap.size w7 w') := by
      have := is_good R HT1.out.rok.1 ra rc w7 HA7.out (HP.out.stay HB7.out) (ok_wrong HT1.out.rok.1 HT1.out.rok.2.2)
      rw [decide_eq_true (show (nrm R).flat = R.flat by rw [nrm_nf HT1.out.rok.1 HT1.out.rok.2.1])] at this
      exact this
    go_wp2_with fail
    refine HIS.out.mono ?_
    rintro e w8 ⟨rfl, hb8⟩
    have HB8 : Hid (Below w.heap.size w w8) := go_on HB7.out hb8
    have HA8 : Hid (NReads w8 (.slice ra R.flat.length rc) R.flat) := HA7.out.stay hb8
    have HN8 : Hid (NReads w8 u7 R.flat) := HN7.out.stay hb8
    clear hb8 HIS HA7 HN7 HB7
    go_wp2_with fail
    refine (num7_any 0 _).mono ?_
    rintro e w9 ⟨rfl, rfl⟩
    go_wp2_with fail
    refine (num7_any 0 _).mono ?_
    rintro e w9 ⟨rfl, rfl⟩
    go_wp2_with fail
    refine (num7_any 0 _).mono ?_
    rintro e w9 ⟨rfl, rfl⟩
    go_wp2_with fail
    refine (same_any _ _ _ _ _ HN8.out HA8.out (by have := HT1.out.rok.2.2; omega)).mono ?_
    rintro e w9 ⟨rfl, hb9⟩
    rw [decide_eq_true (show R.flat = R.flat from rfl)]
    have HB9 : Hid (Below w.heap.size w w9) := go_on HB8.out hb9
    clear hb9
    go_wp2_with fail
    go_ret
    exact ⟨rfl, HB9.out⟩
  · have hnil := by_none HR1.out hk1
    subst hnil
    obtain ⟨ra, rc, hru, _⟩ := id HN1.out
    subst hru
    have hkb : (k1 != 0) = true := by simpa using hk1
    clear HR1 HN1 hk1
    rw [show ([] : List Nd).length = 0 from rfl]
    go_wp2_with fail
    refine (num7_any k1 _).mono ?_
    rintro e w2 ⟨rfl, rfl⟩
    go_wp2_with fail
    refine (knows7_any _ (HP.out.stay HB1.out) (HT.out.stay HB1.out)).mono ?_
    rintro e w2 ⟨rfl, hb2⟩
    have HB2 : Hid (Below w.heap.size w w2) := go_on HB1.out hb2
    clear hb2
    go_wp2_with fail
    go_ret
    exact ⟨rfl, HB2.out⟩

/-! ### The row's step -/
theorem own : ownKnob Tryz.prog.godebug = none := by kernel_rfl
def laid1 : List (String × DataW Unit) := [("math/bits.deBruijn64tab", Rows.laid_math_bits_deBruijn64tab), ("eggbox/tree.partsOf", Rows.laid_eggbox_tree_partsOf)]
def tabZ : List Int := [0, 0, 0, 0, 0, 2, 2, 2, 1, 1]
def tabT : List Int := Lib.deBruijn64tab.map fun (z : Nat) => (z : Int)
theorem gTab : Tryz.prog.globalNamed "eggbox/tree.partsOf" = some 0 := by kernel_rfl
theorem tTab : (Tryz.prog.globals[0]?).map (·.type) = some 136 := by kernel_rfl
theorem gTz : Tryz.prog.globalNamed "math/bits.deBruijn64tab" = some 1 := by kernel_rfl
theorem tTz : (Tryz.prog.globals[1]?).map (·.type) = some 183 := by kernel_rfl
theorem of_laid {W : World} (h : laidMetH Tryz.prog laid1 W) : PTab W ∧ TzTab W := by
  rw [MakeChecks.laidMetH_plain _ _ _ (by kernel_rfl)] at h
  have h1 : Lib.TabIs Tryz.prog W "math/bits.deBruijn64tab" .u8 tabT :=
    Lib.tabIs_of_head (rest := [("eggbox/tree.partsOf", Rows.laid_eggbox_tree_partsOf)]) gTz tTz Tryz.underlying183 Tryz.underlying5 (by kernel_rfl) (by kernel_rfl) h
  have h2 : Lib.TabIs Tryz.prog W "eggbox/tree.partsOf" .i64 tabZ :=
    Lib.tabIs_of_head (rest := []) gTab tTab Tryz.underlying136 Tryz.underlying3 (by kernel_rfl) (by kernel_rfl) h.tail
  refine ⟨fun j hj => ?_, fun j hj => ?_⟩
  · have := h2.cell gTab j hj
    rw [this]
    have hc : j = 0 ∨ j = 1 ∨ j = 2 ∨ j = 3 ∨ j = 4 ∨ j = 5 ∨ j = 6 ∨ j = 7 ∨ j = 8 ∨ j = 9 := by omega
    rcases hc with rfl | rfl | rfl | rfl | rfl | rfl | rfl | rfl | rfl | rfl <;> rfl
  · have := h1.cell gTz j hj
    rw [this]
    have e : tabT.getD j 0 = ((Lib.deBruijn64tab.getD j 0 : Nat) : Int) := by
      unfold tabT
      rw [List.getD_eq_getElem?_getD, List.getElem?_map, List.getD_eq_getElem?_getD]
      cases Lib.deBruijn64tab[j]? <;> rfl
    rw [e]
/-- The door's own heap meets the condition. -/
theorem door_met (os : Os) (args : Array Value) : laidMetH Tryz.prog laid1 ((World.doorLaid Tryz.prog 400 os).forCall (fun _ _ => 0) ⟨#[], args, []⟩).memory :=
  laidMetH_of_parts3 (fuel := 8) (laidMet_of_run' 8 (by kernel_rfl) (by kernel_rfl)) (by kernel_rfl) (by kernel_rfl)

set_option maxRecDepth 100000 in
theorem lifted (os : Os) (started : os.Started) (H : Type) (enc : TypeId × Value → H) :
    ReturnsInHanded {} Tryz.checked os 6 .any (fun w args => (Rows.derivOnSpec.pre enc Tryz.prog Tryz.f6 [] false w args ∧ laidMetH Tryz.prog laid1 w) ∧ sizedMet enc Tryz.prog Tryz.f6 (OpenSpec.ofChange Rows.derivOnSpec) false w args)
      (Rows.derivOnSpec.post enc Tryz.prog Tryz.f6 false true false false) := by
  refine returnsInHanded_of_change_and (C := Tryz.checked) (X := fun w _ => laidMetH Tryz.prog laid1 w) (fun _ _ _ hh h => h.of_heap hh) own started (by kernel_rfl) Tryz.func6
    (ChangeSpec.witness_shaped (enc := enc) (C := Tryz.checked) (os := os) (X := fun w _ => laidMetH Tryz.prog laid1 w) false (World.doorLaid Tryz.prog 400 os) #[.slice none 0 0, .string ByteArray.empty, .string ByteArray.empty] 8 rfl (World.shaped_of_RefB (by kernel_rfl) (by kernel_rfl)) (by kernel_rfl) (by kernel_rfl) (by kernel_rfl) (door_met os _)) ?_
  intro W base args ds gs before hval0 hW _ hsz0 hL _
  have hval : ∀ (j : Nat) t v, Tryz.f6.params[j]? = some t → args[j]? = some v → Value.okWide Tryz.prog W .any base t v := hval0
  have hW' := hW
  obtain ⟨p, q, hA0, hV, rfl, hfz, hnd⟩ := hW
  have hA : DataW.TrodAll enc Tryz.prog W 0 (fun _ => true) true Tryz.f6.params.toList args.toList ds p := hA0
  have hsz : (DataW.weightsEach Tryz.prog (Tryz.f6.params.toList ++ Rows.derivOnSpec.plain.varTypes Tryz.prog) (ds ++ gs)).all (· ≤ reachBytes) = true := hsz0
  rw [Tryz.params6] at hA hval hsz
  obtain ⟨v0, vs0, d0, ds0, p0, q0, hargs, rfl, rfl, h0, r0⟩ := trodAll_cons hA
  obtain ⟨v1, vs1, d1, ds1, p1, q1, rfl, rfl, rfl, h1, r1⟩ := trodAll_cons r0
  obtain ⟨v2, vs2, d2, ds2, p2, q2, rfl, rfl, rfl, h2, r2⟩ := trodAll_cons r1
  obtain ⟨rfl, rfl, rfl⟩ := trodAll_nil r2
  obtain rfl : args = #[v0, v1, v2] := by cases args; simp_all
  obtain ⟨rfl, rfl⟩ := trodVars_none hV
  obtain ⟨a0, w0, x0, y0⟩ := open_nodes (hval 0 22 v0 rfl rfl) h0
  have s0 : (a0.length + 2) * 16 ≤ 140737488355328 := by
    rcases y0 with ⟨_, rfl⟩ | ⟨e, s, rfl, hy⟩
    · decide
    · have := sized_slice hsz (j := 0) (t := 22) rfl rfl Tryz.underlying22
      rw [Tryz.bytes_node] at this
      simp only [reachBytes] at this
      omega
  have z0 : a0.length ≤ 9223372036854775806 := by omega
  have g0 : ∀ x ∈ p0, x.block < W.heap.size := fun x hx => hW'.lt x (by simp [hx])
  obtain ⟨a1, rfl, rfl, rfl, w1⟩ := open_string Tryz.underlying9 (hval 1 9 v1 rfl rfl) h1
  have u1 : a1.size ≤ 140737488355327 := by
    have := sized_string hsz (j := 1) (t := 9) rfl rfl
    have e : a1.data.toList.length = a1.size := rfl
    simp only [reachBytes] at this
    omega
  obtain ⟨a2, rfl, rfl, rfl, w2⟩ := open_string Tryz.underlying9 (hval 2 9 v2 rfl rfl) h2
  have u2 : a2.size ≤ 140737488355327 := by
    have := sized_string hsz (j := 2) (t := 9) rfl rfl
    have e : a2.data.toList.length = a2.size := rfl
    simp only [reachBytes] at this
    omega
  have hTz := of_laid hL
  clear hA0 hval0
  refine (walk v0 a0 a1 a2 W w0 x0.1 s0 u1 u2 hTz.1 hTz.2).mono fun e W' ⟨he, bel⟩ => ?_
  subst he
  exact ⟨_, rfl, _, _, _, [], _, [], hW', trodAll_mk1 (shut_bool Tryz.underlying4 _), (trodAll_cons_mk (Below.trod Tryz.laidOut (by kernel_rfl) (of_decide_eq_true (by kernel_rfl)) h0 bel g0) (trodAll_cons_mk (shut_string Tryz.underlying9 w1) (trodAll_cons_mk (shut_string Tryz.underlying9 w2) trodAll_mk0))), rfl, bel.frame _, fun h => by cases h⟩

theorem over : Rows.DerivOnSaid :=
  OpenClaim.holds_of_wide 6 Tryz.f6 rfl rfl rfl rfl rfl rfl rfl ⟨rfl, rfl, rfl, rfl, rfl⟩ rfl rfl rfl rfl rfl (by kernel_rfl) Tryz.func6 (by kernel_rfl)
    (of_decide_eq_true (by kernel_rfl)) (by unfold Func.isWrapper; first | (rw [if_pos (by decide +kernel)]; kernel_rfl) | (rw [if_neg (by decide +kernel)]; exact ⟨rfl, rfl⟩))
    (fun os started H enc _ => lifted os started H enc)

theorem card : Rows.DerivOnCardSaid :=
  Claim7.holds_tied_plain_at .later [] [.data, .data] true (true, "f1ddeb86a404e66433fc3edcced06eb03424df9f8f2b565ab381a835c8e8444c") false
    over (fun _ h => by cases h) (by kernel_rfl) (fun _ h => by cases h) derivOn_row_tie rfl ⟨rfl, rfl⟩ (by kernel_rfl) rfl
    (fun f fn hf hfn => by
      obtain rfl : f = 6 := Option.some.inj ((show Tryz.prog.funcNamed "eggbox/eggboxlaw07.DerivOn" = some 6 by kernel_rfl).symm.trans hf) |>.symm
      obtain rfl : fn = Tryz.f6 := (Option.some.inj (Tryz.func6.symm.trans hfn)).symm
      exact ⟨by kernel_rfl, fun j t ht => by
        rw [Tryz.params6] at ht
        have hm : t ∈ [22, 9, 9] := by simpa using Array.mem_of_getElem? ht
        have hall : ([22, 9, 9].all fun u => !Tryz.prog.wantsStandIn u) = true := by kernel_rfl
        exact (show Tryz.prog.wantsStandIn t = false by simpa using List.all_eq_true.1 hall t hm)⟩)
    (by kernel_rfl)

end Go.Proofs.YtdgpajdlomihaaaGreatDoor.derivOn
namespace Go.Proofs.YtdgpajdlomihaaaGreatDoor
/-- The given statement. -/
theorem derivOn_holds : Rows.DerivOnCardSaid := derivOn.card
end Go.Proofs.YtdgpajdlomihaaaGreatDoor
