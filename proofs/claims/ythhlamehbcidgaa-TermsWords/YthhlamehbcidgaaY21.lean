/- terms' reader where the text is wrong: side, identity. -/
import Derived.Test.YthhlamehbcidgaaY20
namespace Go.Proofs.Ythhlamehbcidgaa
open Go Go.RowKit Go.Lib
set_option linter.unusedVariables false

/-- What side and identity leave where they give up. -/
def BaQ (base rb : Nat) (s : ByteArray) (pl : Nat) (w : World) (e : Ending) (w' : World) : Prop := e = .panicked gaveUp ∧ ∃ v M, RD base w' rb s pl v M ∧ Only (fun b => b = rb) w w'

set_option maxHeartbeats 2000000 in
set_option maxRecDepth 100000 in
theorem side_bad {base rb : Nat} {s : ByteArray} (hs : s.size ≤ 1000) {w : World} {v : Value} {i : Nat} {L : Sg} (h : RD base w rb s i v L) {f pl : Nat} (hr : pwsE s f i [] = some pl) :
    Calls Try.prog 54 #[.pointer (some ⟨rb, 0, none⟩)] w (BaQ base rb s pl w) := by
  have t2 : w.cell? ⟨rb, 2, none⟩ = some v := cell_at h.box rfl
  have tf : ∀ j, w.frozen? ⟨rb, j, none⟩ = false := fun j => froz_of h.box
  obtain ⟨w1, hw1⟩ : ∃ w1, w1 = w.setCell ⟨rb, 2, none⟩ (.slice none 0 0) := ⟨_, rfl⟩
  have HW1 : Hid (w1 = w.setCell ⟨rb, 2, none⟩ (.slice none 0 0)) := hw1
  have HR1 : Hid (RD base w1 rb s i (.slice none 0 0) []) := by
    show RD _ _ _ _ _ _ _
    rw [hw1]
    exact ⟨heap_set h.box, World.ownsRow_nil _ _ _ _, h.lob, h.le⟩
  have HO1 : Hid (Only (fun b => b = rb) w w1) := by
    show Only _ _ _
    rw [hw1]
    exact (Only.of (Below.refl _ _)).set rfl
  have HP : Hid (Calls Try.prog 99 #[.pointer (some ⟨rb, 0, none⟩)] w1 fun e w' => e = .panicked gaveUp ∧ ∃ M, ST base rb s (.slice none 0 0) w1 pl M w') := powers_bad hs f w1 (.slice none 0 0) i [] pl HR1.out (by simp) hr
  clear h hw1 hr
  go_enter Try.func54, Try.ntmps54
  go_wp2_with fail
  rw [← HW1.out]
  refine HP.out.mono ?_
  rintro e w2 ⟨rfl, M, v2, hr2, ho2, hv2⟩
  refine ⟨rfl, rfl, v2, M, hr2, HO1.out.trans (ho2.mono (fun j _ hj => ?_))⟩
  rcases hj with e | e
  · exact e
  · cases e

/-- Where the reader gives up. -/
def idE (s : ByteArray) : Option Nat :=
  match pwsP s (s.size + 1) 0 [] with
  | none => pwsE s (s.size + 1) 0 []
  | some (j, L) =>
    let j1 := if seesB s ⟨#[60]⟩ j = true then j + 1 else j
    if isB s 61 j1 = true then (match pwsP s (s.size + 1) (j1 + 1) [] with
      | none => pwsE s (s.size + 1) (j1 + 1) []
      | some (k, R) => if k = s.size then none else some k) else some j1

set_option maxHeartbeats 8000000 in
set_option maxRecDepth 100000 in
theorem identity_bad {base rb : Nat} {s : ByteArray} (hs : s.size ≤ 1000) {w : World} {v : Value} {K : Sg} (h : RD base w rb s 0 v K) {pl : Nat} (hr : idE s = some pl) :
    Calls Try.prog 29 #[.pointer (some ⟨rb, 0, none⟩)] w (BaQ base rb s pl w) := by
  have HS : Hid (s.size ≤ 1000) := hs
  have HRBW : Hid (rb < w.heap.size) := h.lt
  obtain ⟨w0, hw0⟩ : ∃ w0, w0 = (w.alloc (.cells #[.slice none 0 0, .slice none 0 0, .bool false] 24)).alloc (.cells #[.slice none 0 0, .slice none 0 0, .bool false] 24) := ⟨_, rfl⟩
  have HW0 : Hid (w0 = (w.alloc (.cells #[.slice none 0 0, .slice none 0 0, .bool false] 24)).alloc (.cells #[.slice none 0 0, .slice none 0 0, .bool false] 24)) := hw0
  have hb0 : Below w.heap.size w w0 := by rw [hw0]; exact go_on (below_new _ _) (below_new _ _)
  have HR0 : Hid (RD base w0 rb s 0 v K) := h.below hb0
  have HX0 : Hid (IB w0 w.heap.size (.slice none 0 0) (.slice none 0 0) false) := by
    show IB _ _ _ _ _
    rw [hw0]
    exact (heap_allo (by simp) _).trans (heap_last _ _)
  have HY0 : Hid (IB w0 (w.heap.size + 1) (.slice none 0 0) (.slice none 0 0) false) := by
    show IB _ _ _ _ _
    rw [hw0]
    have := heap_last (w.alloc (.cells #[.slice none 0 0, .slice none 0 0, .bool false] 24)) (.cells #[.slice none 0 0, .slice none 0 0, .bool false] 24)
    rw [World.size_alloc] at this
    exact this
  have HO0 : Hid (Only (fun b => b = rb) w w0) := Only.of hb0
  have HSZ : Hid (w0.heap.size = w.heap.size + 2) := by show _ = _; rw [hw0]; simp
  clear h hw0 hb0 hs
  unfold idE at hr
  split at hr
  · go_enter Try.func29, Try.ntmps29
    go_wp2_with fail
    rw [← HW0.out]
    refine (side_bad HS.out HR0.out hr).mono ?_
    rintro e w1 ⟨rfl, v1, M1, hr1, ho1⟩
    exact ⟨rfl, rfl, v1, M1, hr1, HO0.out.trans ho1⟩
  rename_i j1 L1 hside1
  obtain ⟨lt, hlt⟩ : ∃ lt, seesB s ⟨#[60]⟩ j1 = lt := ⟨_, rfl⟩
  rw [hlt] at hr
  obtain ⟨j2, hj2⟩ : ∃ j2, (if lt = true then j1 + 1 else j1) = j2 := ⟨_, rfl⟩
  simp only [hj2] at hr
  have hpg1 := pwsP_pg _ 0 [] j1 L1 (Nat.zero_le _) hside1
  go_enter Try.func29, Try.ntmps29
  go_wp2_with fail
  rw [← HW0.out]
  refine (side_ok HS.out HR0.out hside1).mono ?_
  rintro e w1 ⟨vl, rfl, hr1, ho1, hv1⟩
  obtain ⟨a1, c1, rfl⟩ := own_shape hr1.row
  have hrb := HRBW.out
  have HR1 : Hid (RD base w1 rb s j1 (Value.slice a1 L1.length c1) L1) := hr1
  have HO1 : Hid (Only (fun b => b = rb) w w1) := HO0.out.trans ho1
  have HX1 : Hid (IB w1 w.heap.size (.slice none 0 0) (.slice none 0 0) false) := HX0.out.only ho1 (by omega)
  have HY1 : Hid (IB w1 (w.heap.size + 1) (.slice none 0 0) (.slice none 0 0) false) := HY0.out.only ho1 (by omega)
  have HV1 : Hid (∀ b, (Value.slice a1 L1.length c1).ownBlock = some b → w.heap.size + 2 ≤ b) := fun b hb => by
    rcases hv1 with e | ⟨x, e, hx⟩
    · rw [e] at hb; cases hb
    · rw [e] at hb; injection hb with hb; have := HSZ.out; omega
  have y0 : w1.cell? ⟨w.heap.size + 1, 0, none⟩ = some (.slice none 0 0) := cell_at HY1.out rfl
  have yf : ∀ j, w1.frozen? ⟨w.heap.size + 1, j, none⟩ = false := fun j => froz_of HY1.out
  obtain ⟨w2, hw2⟩ : ∃ w2, w2 = w1.setCell ⟨w.heap.size + 1, 0, none⟩ (Value.slice a1 L1.length c1) := ⟨_, rfl⟩
  have HW2 : Hid (w2 = w1.setCell ⟨w.heap.size + 1, 0, none⟩ (Value.slice a1 L1.length c1)) := hw2
  have hne1 : ∀ b, b ≠ w.heap.size + 1 → w2.heap[b]? = w1.heap[b]? := fun b hb => by rw [hw2]; exact heap_set_other hb
  have HR2 : Hid (RD base w2 rb s j1 (Value.slice a1 L1.length c1) L1) := ⟨(hne1 rb (by omega)).trans hr1.box, own_keep hr1.row (fun b cur hb hc => hne1 b (by have := HV1.out b hb; omega)), hr1.lob, hr1.le⟩
  have HX2 : Hid (IB w2 w.heap.size (.slice none 0 0) (.slice none 0 0) false) := (hne1 _ (by omega)).trans HX1.out
  have HY2 : Hid (IB w2 (w.heap.size + 1) (Value.slice a1 L1.length c1) (.slice none 0 0) false) := by show IB _ _ _ _ _; rw [hw2]; exact heap_set HY1.out
  have HO2 : Hid (Only (fun b => b = rb) w w2) := by
    have hz : Below 0 w w2 := by rw [hw2]; exact HO1.out.zero.setCell (p := ⟨w.heap.size + 1, 0, none⟩) (Nat.zero_le _) _
    exact ⟨hz, fun b hb hS => (hne1 b (by omega)).trans (HO1.out.block b hb hS)⟩
  clear hr1 ho1 hv1 hw2 hne1 HR0 HX0 HY0 HO0 HR1 HX1 HY1 HO1
  go_wp2_with fail
  rw [← HW2.out]
  clear y0 yf HW2 HW0
  refine (sees_any HR2.out ⟨#[60]⟩ HS.out).mono ?_
  rintro e w3 ⟨rfl, hb⟩
  rw [hlt]
  have HR3 : Hid (RD base w3 rb s j1 (Value.slice a1 L1.length c1) L1) := HR2.out.below hb
  have HX3 : Hid (IB w3 w.heap.size (.slice none 0 0) (.slice none 0 0) false) := (hb.block _ HX2.out.lt).trans HX2.out
  have HY3 : Hid (IB w3 (w.heap.size + 1) (Value.slice a1 L1.length c1) (.slice none 0 0) false) := (hb.block _ HY2.out.lt).trans HY2.out
  have HO3 : Hid (Only (fun b => b = rb) w w3) := HO2.out.trans (Only.of hb)
  clear hb HR2 HX2 HY2 HO2
  cases lt with
  | false =>
    have hj : j1 = j2 := by simpa using hj2
    subst hj
    obtain ⟨w4, hw4⟩ : ∃ w4, w4 = w3 := ⟨_, rfl⟩
    subst hw4
    have HR4 : Hid (RD base w4 rb s j1 (Value.slice a1 L1.length c1) L1) := HR3.out
    have HX4 : Hid (IB w4 w.heap.size (.slice none 0 0) (.slice none 0 0) false) := HX3.out
    have HY4 : Hid (IB w4 (w.heap.size + 1) (Value.slice a1 L1.length c1) (.slice none 0 0) false) := HY3.out
    have HO4 : Hid (Only (fun b => b = rb) w w4) := HO3.out
    clear HR3 HX3 HY3 HO3 hj2
    go_wp2_with fail
    split at hr
    case isFalse =>
      rename_i heq
      have hcl : isB s 61 j1 = false := by simpa using heq
      simp only [Option.some.injEq] at hr
      subst hr
      refine (take_bad HR4.out 61 HS.out hcl).mono ?_
      rintro e w5 ⟨rfl, hb⟩
      exact ⟨rfl, rfl, _, _, HR4.out.below hb, HO4.out.trans (Only.of hb)⟩
    rename_i heq
    obtain ⟨hq2, hcl⟩ := isB_at heq
    refine (take_ok HR4.out HS.out 61 hq2 hcl).mono ?_
    rintro e w5 ⟨rfl, hr5, ho5⟩
    have HR5 : Hid (RD base w5 rb s (j1 + 1) (Value.slice a1 L1.length c1) L1) := hr5
    have hvr : ∀ b, RS rb (Value.slice a1 L1.length c1) b → b = rb ∨ w.heap.size + 2 ≤ b := fun b hb => by
      rcases hb with e | e
      · exact .inl e
      · exact .inr (HV1.out b e)
    have HX5 : Hid (IB w5 w.heap.size (.slice none 0 0) (.slice none 0 0) false) := HX4.out.only ho5 (fun hh => by have := hvr _ hh; omega)
    have HY5 : Hid (IB w5 (w.heap.size + 1) (Value.slice a1 L1.length c1) (.slice none 0 0) false) := HY4.out.only ho5 (fun hh => by have := hvr _ hh; omega)
    have HO5 : Hid (Only (fun b => b = rb) w w5) := HO4.out.trans' ho5 (fun b hb => by have := hvr b hb; omega)
    clear hr5 ho5 hvr HR4 HX4 HY4 HO4
    go_wp2_with fail
    split at hr
    · refine (side_bad HS.out HR5.out hr).mono ?_
      rintro e w6 ⟨rfl, v6, M6, hr6, ho6⟩
      exact ⟨rfl, rfl, v6, M6, hr6, HO5.out.trans ho6⟩
    rename_i j3 R1 hside2
    split at hr
    · cases hr
    rename_i hend
    simp only [Option.some.injEq] at hr
    subst hr
    refine (side_ok HS.out HR5.out hside2).mono ?_
    rintro e w6 ⟨vr, rfl, hr6, ho6, hv6⟩
    obtain ⟨a2, c2, rfl⟩ := own_shape hr6.row
    have hs5 := HO5.out.size
    have HSZ5 : w.heap.size + 2 ≤ w5.heap.size := by have := (Array.getElem?_eq_some_iff.1 HY5.out).1; omega
    have HR6 : Hid (RD base w6 rb s j3 (Value.slice a2 R1.length c2) R1) := hr6
    have hvl : ∀ b, (Value.slice a1 L1.length c1).ownBlock = some b → ¬ (b = rb) := fun b hb e => by have := HV1.out b hb; omega
    have HL6 : Hid (w6.ownsRow base 81 2 (Value.slice a1 L1.length c1) L1.length (sgC L1)) := own_of HR5.out.row ho6 hvl
    have HX6 : Hid (IB w6 w.heap.size (.slice none 0 0) (.slice none 0 0) false) := HX5.out.only ho6 (by omega)
    have HY6 : Hid (IB w6 (w.heap.size + 1) (Value.slice a1 L1.length c1) (.slice none 0 0) false) := HY5.out.only ho6 (by omega)
    have HO6 : Hid (Only (fun b => b = rb) w w6) := HO5.out.trans ho6
    have HV6 : Hid ((∀ b, (Value.slice a2 R1.length c2).ownBlock = some b → w5.heap.size ≤ b) ∧ ∀ b, (Value.slice a1 L1.length c1).ownBlock = some b → b < w5.heap.size) := ⟨fun b hb => by
      rcases hv6 with e | ⟨x, e, hx⟩
      · rw [e] at hb; cases hb
      · rw [e] at hb; injection hb with hb; omega, fun b hb => (HR5.out.row.lt b hb).2⟩
    clear hr6 ho6 hv6 hvl
    have y1 : w6.cell? ⟨w.heap.size + 1, 1, none⟩ = some (.slice none 0 0) := cell_at HY6.out rfl
    have yf : ∀ j, w6.frozen? ⟨w.heap.size + 1, j, none⟩ = false := fun j => froz_of HY6.out
    obtain ⟨w7, hw7⟩ : ∃ w7, w7 = w6.setCell ⟨w.heap.size + 1, 1, none⟩ (Value.slice a2 R1.length c2) := ⟨_, rfl⟩
    have HW7 : Hid (w7 = w6.setCell ⟨w.heap.size + 1, 1, none⟩ (Value.slice a2 R1.length c2)) := hw7
    have hne7 : ∀ b, b ≠ w.heap.size + 1 → w7.heap[b]? = w6.heap[b]? := fun b hb => by rw [hw7]; exact heap_set_other hb
    have hbr : ∀ b, (Value.slice a2 R1.length c2).ownBlock = some b → b ≠ w.heap.size + 1 := fun b hb => by have := HV6.out.1 b hb; have := HSZ5; omega
    have hbl : ∀ b, (Value.slice a1 L1.length c1).ownBlock = some b → b ≠ w.heap.size + 1 := fun b hb => by have := HV1.out b hb; omega
    have HR7 : Hid (RD base w7 rb s j3 (Value.slice a2 R1.length c2) R1) := ⟨(hne7 rb (by omega)).trans HR6.out.box, own_keep HR6.out.row (fun b cur hb hc => hne7 b (hbr b hb)), HR6.out.lob, HR6.out.le⟩
    have HL7 : Hid (w7.ownsRow base 81 2 (Value.slice a1 L1.length c1) L1.length (sgC L1)) := own_keep HL6.out (fun b cur hb hc => hne7 b (hbl b hb))
    have HX7 : Hid (IB w7 w.heap.size (.slice none 0 0) (.slice none 0 0) false) := (hne7 _ (by omega)).trans HX6.out
    have HY7 : Hid (IB w7 (w.heap.size + 1) (Value.slice a1 L1.length c1) (Value.slice a2 R1.length c2) false) := by show IB _ _ _ _ _; rw [hw7]; exact heap_set HY6.out
    have HO7 : Hid (Only (fun b => b = rb) w w7) := by
      have hz : Below 0 w w7 := by rw [hw7]; exact HO6.out.zero.setCell (p := ⟨w.heap.size + 1, 1, none⟩) (Nat.zero_le _) _
      exact ⟨hz, fun b hb hS => (hne7 b (by omega)).trans (HO6.out.block b hb hS)⟩
    clear hw7 hne7 hbr hbl HR6 HL6 HX6 HY6 HO6
    go_upto_region 8 with fail
    rw [← HW7.out]
    clear y1 yf HW7
    have S0 : w7.drew.cell? ⟨rb, 0, none⟩ = some (.string s) ∧ w7.drew.cell? ⟨rb, 1, none⟩ = some (.int .i64 (j3 : Nat)) := ⟨cell_at HR7.out.box rfl, cell_at HR7.out.box rfl⟩
    have hlt3 : j3 < s.size := by have := HR7.out.le; omega
    have hnl : ((j3 : Int) < s.size) := by omega
    have hnd : decide ((j3 : Int) < s.size) = true := decide_eq_true hnl
    go_region_held3 (fun y => y.cell? ⟨rb, 0, none⟩ = some (.string s) ∧ y.cell? ⟨rb, 1, none⟩ = some (.int .i64 (j3 : Nat))) (first | exact S0 | assumption) (fail)
    clear S0
    go_wp2_with fail
    refine (giveUp_any _ _).mono ?_
    rintro e w8 ⟨rfl, rfl⟩
    exact ⟨rfl, rfl, _, _, HR7.out.below (Below.refl _ _).drew, HO7.out.trans (Only.of (Below.refl _ _).drew)⟩
  | true =>
    have hj : j1 + 1 = j2 := by simpa using hj2
    subst hj
    have t1 : w3.cell? ⟨rb, 1, none⟩ = some (.int .i64 (j1 : Nat)) := cell_at HR3.out.box rfl
    have tf : ∀ j, w3.frozen? ⟨rb, j, none⟩ = false := fun j => froz_of HR3.out.box
    have hjs := HR3.out.le
    have hs1000 := HS.out
    have hw1 : IntKind.i64.wrap ((j1 : Int) + 1) = ((j1 + 1 : Nat) : Int) := by rw [IntKind.wrap_i64]; omega
    have hlt1 := seesB_le hlt
    obtain ⟨wa, hwa⟩ : ∃ wa, wa = w3.setCell ⟨rb, 1, none⟩ (.int .i64 ((j1 + 1 : Nat) : Int)) := ⟨_, rfl⟩
    have HWA : Hid (wa = w3.setCell ⟨rb, 1, none⟩ (.int .i64 ((j1 : Int) + 1))) := hwa
    have HRA : Hid (RD base wa rb s (j1 + 1) (Value.slice a1 L1.length c1) L1) := by show RD _ _ _ _ _ _ _; rw [hwa]; exact HR3.out.move (by omega)
    have hna : ∀ b, b ≠ rb → wa.heap[b]? = w3.heap[b]? := fun b hb => by rw [hwa]; exact heap_set_other hb
    have HXA : Hid (IB wa w.heap.size (.slice none 0 0) (.slice none 0 0) false) := (hna _ (by omega)).trans HX3.out
    have HYA : Hid (IB wa (w.heap.size + 1) (Value.slice a1 L1.length c1) (.slice none 0 0) false) := (hna _ (by omega)).trans HY3.out
    have HOA : Hid (Only (fun b => b = rb) w wa) := by show Only _ _ _; rw [hwa]; exact HO3.out.set rfl
    have y2 : wa.cell? ⟨w.heap.size + 1, 2, none⟩ = some (.bool false) := cell_at HYA.out rfl
    have yf : ∀ j, wa.frozen? ⟨w.heap.size + 1, j, none⟩ = false := fun j => froz_of HYA.out
    obtain ⟨w4, hw4⟩ : ∃ w4, w4 = wa.setCell ⟨w.heap.size + 1, 2, none⟩ (.bool true) := ⟨_, rfl⟩
    have HW4 : Hid (w4 = wa.setCell ⟨w.heap.size + 1, 2, none⟩ (.bool true)) := hw4
    have hn4 : ∀ b, b ≠ w.heap.size + 1 → w4.heap[b]? = wa.heap[b]? := fun b hb => by rw [hw4]; exact heap_set_other hb
    have HR4 : Hid (RD base w4 rb s (j1 + 1) (Value.slice a1 L1.length c1) L1) := ⟨(hn4 rb (by omega)).trans HRA.out.box, own_keep HRA.out.row (fun b cur hb hc => hn4 b (by have := HV1.out b hb; omega)), HRA.out.lob, HRA.out.le⟩
    have HX4 : Hid (IB w4 w.heap.size (.slice none 0 0) (.slice none 0 0) false) := (hn4 _ (by omega)).trans HXA.out
    have HY4 : Hid (IB w4 (w.heap.size + 1) (Value.slice a1 L1.length c1) (.slice none 0 0) true) := by show IB _ _ _ _ _; rw [hw4]; exact heap_set HYA.out
    have HO4 : Hid (Only (fun b => b = rb) w w4) := by
      have hz : Below 0 w w4 := by rw [hw4]; exact HOA.out.zero.setCell (p := ⟨w.heap.size + 1, 2, none⟩) (Nat.zero_le _) _
      exact ⟨hz, fun b hb hS => (hn4 b (by omega)).trans (HOA.out.block b hb hS)⟩
    clear hwa hna hw4 hn4 HR3 HX3 HY3 HO3 HRA HXA HYA HOA hj2
    go_upto_region 5 with fail
    rw [← HWA.out]
    clear t1 tf HWA
    go_wp2_with fail
    rw [← HW4.out]
    clear y2 yf HW4
    split at hr
    case isFalse =>
      rename_i heq
      have hcl : isB s 61 (j1 + 1) = false := by simpa using heq
      simp only [Option.some.injEq] at hr
      subst hr
      refine (take_bad HR4.out 61 HS.out hcl).mono ?_
      rintro e w5 ⟨rfl, hb⟩
      exact ⟨rfl, rfl, _, _, HR4.out.below hb, HO4.out.trans (Only.of hb)⟩
    rename_i heq
    obtain ⟨hq2, hcl⟩ := isB_at heq
    refine (take_ok HR4.out HS.out 61 hq2 hcl).mono ?_
    rintro e w5 ⟨rfl, hr5, ho5⟩
    have HR5 : Hid (RD base w5 rb s ((j1 + 1) + 1) (Value.slice a1 L1.length c1) L1) := hr5
    have hvr : ∀ b, RS rb (Value.slice a1 L1.length c1) b → b = rb ∨ w.heap.size + 2 ≤ b := fun b hb => by
      rcases hb with e | e
      · exact .inl e
      · exact .inr (HV1.out b e)
    have HX5 : Hid (IB w5 w.heap.size (.slice none 0 0) (.slice none 0 0) false) := HX4.out.only ho5 (fun hh => by have := hvr _ hh; omega)
    have HY5 : Hid (IB w5 (w.heap.size + 1) (Value.slice a1 L1.length c1) (.slice none 0 0) true) := HY4.out.only ho5 (fun hh => by have := hvr _ hh; omega)
    have HO5 : Hid (Only (fun b => b = rb) w w5) := HO4.out.trans' ho5 (fun b hb => by have := hvr b hb; omega)
    clear hr5 ho5 hvr HR4 HX4 HY4 HO4
    go_wp2_with fail
    split at hr
    · refine (side_bad HS.out HR5.out hr).mono ?_
      rintro e w6 ⟨rfl, v6, M6, hr6, ho6⟩
      exact ⟨rfl, rfl, v6, M6, hr6, HO5.out.trans ho6⟩
    rename_i j3 R1 hside2
    split at hr
    · cases hr
    rename_i hend
    simp only [Option.some.injEq] at hr
    subst hr
    refine (side_ok HS.out HR5.out hside2).mono ?_
    rintro e w6 ⟨vr, rfl, hr6, ho6, hv6⟩
    obtain ⟨a2, c2, rfl⟩ := own_shape hr6.row
    have hs5 := HO5.out.size
    have HSZ5 : w.heap.size + 2 ≤ w5.heap.size := by have := (Array.getElem?_eq_some_iff.1 HY5.out).1; omega
    have HR6 : Hid (RD base w6 rb s j3 (Value.slice a2 R1.length c2) R1) := hr6
    have hvl : ∀ b, (Value.slice a1 L1.length c1).ownBlock = some b → ¬ (b = rb) := fun b hb e => by have := HV1.out b hb; omega
    have HL6 : Hid (w6.ownsRow base 81 2 (Value.slice a1 L1.length c1) L1.length (sgC L1)) := own_of HR5.out.row ho6 hvl
    have HX6 : Hid (IB w6 w.heap.size (.slice none 0 0) (.slice none 0 0) false) := HX5.out.only ho6 (by omega)
    have HY6 : Hid (IB w6 (w.heap.size + 1) (Value.slice a1 L1.length c1) (.slice none 0 0) true) := HY5.out.only ho6 (by omega)
    have HO6 : Hid (Only (fun b => b = rb) w w6) := HO5.out.trans ho6
    have HV6 : Hid ((∀ b, (Value.slice a2 R1.length c2).ownBlock = some b → w5.heap.size ≤ b) ∧ ∀ b, (Value.slice a1 L1.length c1).ownBlock = some b → b < w5.heap.size) := ⟨fun b hb => by
      rcases hv6 with e | ⟨x, e, hx⟩
      · rw [e] at hb; cases hb
      · rw [e] at hb; injection hb with hb; omega, fun b hb => (HR5.out.row.lt b hb).2⟩
    clear hr6 ho6 hv6 hvl
    have y1 : w6.cell? ⟨w.heap.size + 1, 1, none⟩ = some (.slice none 0 0) := cell_at HY6.out rfl
    have yf : ∀ j, w6.frozen? ⟨w.heap.size + 1, j, none⟩ = false := fun j => froz_of HY6.out
    obtain ⟨w7, hw7⟩ : ∃ w7, w7 = w6.setCell ⟨w.heap.size + 1, 1, none⟩ (Value.slice a2 R1.length c2) := ⟨_, rfl⟩
    have HW7 : Hid (w7 = w6.setCell ⟨w.heap.size + 1, 1, none⟩ (Value.slice a2 R1.length c2)) := hw7
    have hne7 : ∀ b, b ≠ w.heap.size + 1 → w7.heap[b]? = w6.heap[b]? := fun b hb => by rw [hw7]; exact heap_set_other hb
    have hbr : ∀ b, (Value.slice a2 R1.length c2).ownBlock = some b → b ≠ w.heap.size + 1 := fun b hb => by have := HV6.out.1 b hb; have := HSZ5; omega
    have hbl : ∀ b, (Value.slice a1 L1.length c1).ownBlock = some b → b ≠ w.heap.size + 1 := fun b hb => by have := HV1.out b hb; omega
    have HR7 : Hid (RD base w7 rb s j3 (Value.slice a2 R1.length c2) R1) := ⟨(hne7 rb (by omega)).trans HR6.out.box, own_keep HR6.out.row (fun b cur hb hc => hne7 b (hbr b hb)), HR6.out.lob, HR6.out.le⟩
    have HL7 : Hid (w7.ownsRow base 81 2 (Value.slice a1 L1.length c1) L1.length (sgC L1)) := own_keep HL6.out (fun b cur hb hc => hne7 b (hbl b hb))
    have HX7 : Hid (IB w7 w.heap.size (.slice none 0 0) (.slice none 0 0) false) := (hne7 _ (by omega)).trans HX6.out
    have HY7 : Hid (IB w7 (w.heap.size + 1) (Value.slice a1 L1.length c1) (Value.slice a2 R1.length c2) true) := by show IB _ _ _ _ _; rw [hw7]; exact heap_set HY6.out
    have HO7 : Hid (Only (fun b => b = rb) w w7) := by
      have hz : Below 0 w w7 := by rw [hw7]; exact HO6.out.zero.setCell (p := ⟨w.heap.size + 1, 1, none⟩) (Nat.zero_le _) _
      exact ⟨hz, fun b hb hS => (hne7 b (by omega)).trans (HO6.out.block b hb hS)⟩
    clear hw7 hne7 hbr hbl HR6 HL6 HX6 HY6 HO6
    go_upto_region 8 with fail
    rw [← HW7.out]
    clear y1 yf HW7
    have S0 : w7.drew.cell? ⟨rb, 0, none⟩ = some (.string s) ∧ w7.drew.cell? ⟨rb, 1, none⟩ = some (.int .i64 (j3 : Nat)) := ⟨cell_at HR7.out.box rfl, cell_at HR7.out.box rfl⟩
    have hlt3 : j3 < s.size := by have := HR7.out.le; omega
    have hnl : ((j3 : Int) < s.size) := by omega
    have hnd : decide ((j3 : Int) < s.size) = true := decide_eq_true hnl
    go_region_held3 (fun y => y.cell? ⟨rb, 0, none⟩ = some (.string s) ∧ y.cell? ⟨rb, 1, none⟩ = some (.int .i64 (j3 : Nat))) (first | exact S0 | assumption) (fail)
    clear S0
    go_wp2_with fail
    refine (giveUp_any _ _).mono ?_
    rintro e w8 ⟨rfl, rfl⟩
    exact ⟨rfl, rfl, _, _, HR7.out.below (Below.refl _ _).drew, HO7.out.trans (Only.of (Below.refl _ _).drew)⟩
end Go.Proofs.Ythhlamehbcidgaa
