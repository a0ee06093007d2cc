/- terms' reader: identity, where what is read is right. -/
import Derived.Test.YthhlamehbcidgaaY7
namespace Go.Proofs.Ythhlamehbcidgaa
open Go Go.RowKit Go.Lib
set_option linter.unusedVariables false

theorem Try.info_id : (Try.prog.info? 24).map (·.size) = some 3 := by kernel_rfl
/-- A box of three cells, as an identity's variable is. -/
def IB (w : World) (b : Nat) (l r : Value) (x : Bool) : Prop := w.heap[b]? = some (.cells #[l, r, .bool x] 24 (0, 0))
theorem IB.lt {w : World} {b : Nat} {l r : Value} {x : Bool} (h : IB w b l r x) : b < w.heap.size := (Array.getElem?_eq_some_iff.1 h).1
theorem IB.only {w w' : World} {b : Nat} {l r : Value} {x : Bool} {S : Nat → Prop} (h : IB w b l r x) (ho : Only S w w') (hS : ¬ S b) : IB w' b l r x := (ho.block b h.lt hS).trans h
theorem own_of {base : Nat} {w w' : World} {v : Value} {L : Sg} {S : Nat → Prop} (h : w.ownsRow base 81 2 v L.length (sgC L)) (ho : Only S w w') (hS : ∀ b, v.ownBlock = some b → ¬ S b) : w'.ownsRow base 81 2 v L.length (sgC L) := own_only h ho hS

theorem Only.trans' {S T : Nat → Prop} {a b c : World} (h : Only S a b) (g : Only T b c) (hT : ∀ j, T j → S j ∨ a.heap.size ≤ j) : Only S a c :=
  ⟨h.zero.trans (g.zero.mono (Nat.zero_le _)), fun j hj hS => by
    have hs := h.size
    rw [g.block j (by omega) (fun q => by rcases hT j q with e | e; exact hS e; omega), h.block j hj hS]⟩
/-- What identity answers. -/
def IdQ (base rb : Nat) (L R : Sg) (x : Bool) (w : World) (e : Ending) (w' : World) : Prop :=
  ∃ vl vr, e = .returned (.agg #[vl, vr, .bool x]) ∧ w'.ownsRow base 81 2 vl L.length (sgC L) ∧ w'.ownsRow base 81 2 vr R.length (sgC R) ∧ Only (fun b => b = rb) w w' ∧ (∀ b, vl.ownBlock = some b → w.heap.size ≤ b ∧ vr.ownBlock ≠ some b) ∧ ∀ b, vr.ownBlock = some b → w.heap.size ≤ b

set_option maxHeartbeats 8000000 in
set_option maxRecDepth 100000 in
theorem identity_ok {base rb : Nat} {s : ByteArray} (hs : s.size ≤ 1000) {w : World} {v : Value} {K : Sg} (h : RD base w rb s 0 v K) {L R : Sg} {x : Bool} (hr : idP s = some (L, R, x)) :
    Calls Try.prog 29 #[.pointer (some ⟨rb, 0, none⟩)] w (IdQ base rb L R x w) := by
  have HS : Hid (s.size ≤ 1000) := hs
  have HRBW : Hid (rb < w.heap.size) := h.lt
  unfold idP at hr
  split at hr
  · cases hr
  rename_i j1 L1 hside1
  obtain ⟨lt, hlt⟩ : ∃ lt, seesB s ⟨#[60]⟩ j1 = lt := ⟨_, rfl⟩
  rw [hlt] at hr
  obtain ⟨j2, hj2⟩ : ∃ j2, (if lt = true then j1 + 1 else j1) = j2 := ⟨_, rfl⟩
  simp only [hj2] at hr
  split at hr
  case isFalse => cases hr
  rename_i heq
  split at hr
  · cases hr
  rename_i j3 R1 hside2
  split at hr
  case isFalse => cases hr
  rename_i hend
  simp only [Option.some.injEq, Prod.mk.injEq] at hr
  obtain ⟨rfl, rfl, rfl⟩ := hr
  obtain ⟨hq2, hcl⟩ := isB_at heq
  have hpg1 := pwsP_pg _ 0 [] j1 L1 (Nat.zero_le _) hside1
  obtain ⟨w0, hw0⟩ : ∃ w0, w0 = (w.alloc (.cells #[.slice none 0 0, .slice none 0 0, .bool false] 24)).alloc (.cells #[.slice none 0 0, .slice none 0 0, .bool false] 24) := ⟨_, rfl⟩
  have HW0 : Hid (w0 = (w.alloc (.cells #[.slice none 0 0, .slice none 0 0, .bool false] 24)).alloc (.cells #[.slice none 0 0, .slice none 0 0, .bool false] 24)) := hw0
  have hb0 : Below w.heap.size w w0 := by rw [hw0]; exact go_on (below_new _ _) (below_new _ _)
  have HR0 : Hid (RD base w0 rb s 0 v K) := h.below hb0
  have HX0 : Hid (IB w0 w.heap.size (.slice none 0 0) (.slice none 0 0) false) := by
    show IB _ _ _ _ _
    rw [hw0]
    exact (heap_allo (by simp) _).trans (heap_last _ _)
  have HY0 : Hid (IB w0 (w.heap.size + 1) (.slice none 0 0) (.slice none 0 0) false) := by
    show IB _ _ _ _ _
    rw [hw0]
    have := heap_last (w.alloc (.cells #[.slice none 0 0, .slice none 0 0, .bool false] 24)) (.cells #[.slice none 0 0, .slice none 0 0, .bool false] 24)
    rw [World.size_alloc] at this
    exact this
  have HO0 : Hid (Only (fun b => b = rb) w w0) := Only.of hb0
  have HSZ : Hid (w0.heap.size = w.heap.size + 2) := by show _ = _; rw [hw0]; simp
  clear h hw0 hb0 hs
  go_enter Try.func29, Try.ntmps29
  go_wp2_with fail
  rw [← HW0.out]
  refine (side_ok HS.out HR0.out hside1).mono ?_
  rintro e w1 ⟨vl, rfl, hr1, ho1, hv1⟩
  obtain ⟨a1, c1, rfl⟩ := own_shape hr1.row
  have hrb := HRBW.out
  have HR1 : Hid (RD base w1 rb s j1 (Value.slice a1 L1.length c1) L1) := hr1
  have HO1 : Hid (Only (fun b => b = rb) w w1) := HO0.out.trans ho1
  have HX1 : Hid (IB w1 w.heap.size (.slice none 0 0) (.slice none 0 0) false) := HX0.out.only ho1 (by omega)
  have HY1 : Hid (IB w1 (w.heap.size + 1) (.slice none 0 0) (.slice none 0 0) false) := HY0.out.only ho1 (by omega)
  have HV1 : Hid (∀ b, (Value.slice a1 L1.length c1).ownBlock = some b → w.heap.size + 2 ≤ b) := fun b hb => by
    rcases hv1 with e | ⟨x, e, hx⟩
    · rw [e] at hb; cases hb
    · rw [e] at hb; injection hb with hb; have := HSZ.out; omega
  have y0 : w1.cell? ⟨w.heap.size + 1, 0, none⟩ = some (.slice none 0 0) := cell_at HY1.out rfl
  have yf : ∀ j, w1.frozen? ⟨w.heap.size + 1, j, none⟩ = false := fun j => froz_of HY1.out
  obtain ⟨w2, hw2⟩ : ∃ w2, w2 = w1.setCell ⟨w.heap.size + 1, 0, none⟩ (Value.slice a1 L1.length c1) := ⟨_, rfl⟩
  have HW2 : Hid (w2 = w1.setCell ⟨w.heap.size + 1, 0, none⟩ (Value.slice a1 L1.length c1)) := hw2
  have hne1 : ∀ b, b ≠ w.heap.size + 1 → w2.heap[b]? = w1.heap[b]? := fun b hb => by rw [hw2]; exact heap_set_other hb
  have HR2 : Hid (RD base w2 rb s j1 (Value.slice a1 L1.length c1) L1) := ⟨(hne1 rb (by omega)).trans hr1.box, own_keep hr1.row (fun b cur hb hc => hne1 b (by have := HV1.out b hb; omega)), hr1.lob, hr1.le⟩
  have HX2 : Hid (IB w2 w.heap.size (.slice none 0 0) (.slice none 0 0) false) := (hne1 _ (by omega)).trans HX1.out
  have HY2 : Hid (IB w2 (w.heap.size + 1) (Value.slice a1 L1.length c1) (.slice none 0 0) false) := by show IB _ _ _ _ _; rw [hw2]; exact heap_set HY1.out
  have HO2 : Hid (Only (fun b => b = rb) w w2) := by
    have hz : Below 0 w w2 := by rw [hw2]; exact HO1.out.zero.setCell (p := ⟨w.heap.size + 1, 0, none⟩) (Nat.zero_le _) _
    exact ⟨hz, fun b hb hS => (hne1 b (by omega)).trans (HO1.out.block b hb hS)⟩
  clear hr1 ho1 hv1 hw2 hne1 HR0 HX0 HY0 HO0 HR1 HX1 HY1 HO1
  go_wp2_with fail
  rw [← HW2.out]
  clear y0 yf HW2 HW0
  refine (sees_any HR2.out ⟨#[60]⟩ HS.out).mono ?_
  rintro e w3 ⟨rfl, hb⟩
  rw [hlt]
  have HR3 : Hid (RD base w3 rb s j1 (Value.slice a1 L1.length c1) L1) := HR2.out.below hb
  have HX3 : Hid (IB w3 w.heap.size (.slice none 0 0) (.slice none 0 0) false) := (hb.block _ HX2.out.lt).trans HX2.out
  have HY3 : Hid (IB w3 (w.heap.size + 1) (Value.slice a1 L1.length c1) (.slice none 0 0) false) := (hb.block _ HY2.out.lt).trans HY2.out
  have HO3 : Hid (Only (fun b => b = rb) w w3) := HO2.out.trans (Only.of hb)
  clear hb HR2 HX2 HY2 HO2
  cases lt with
  | false =>
    have hj : j1 = j2 := by simpa using hj2
    subst hj
    obtain ⟨w4, hw4⟩ : ∃ w4, w4 = w3 := ⟨_, rfl⟩
    subst hw4
    have HR4 : Hid (RD base w4 rb s j1 (Value.slice a1 L1.length c1) L1) := HR3.out
    have HX4 : Hid (IB w4 w.heap.size (.slice none 0 0) (.slice none 0 0) false) := HX3.out
    have HY4 : Hid (IB w4 (w.heap.size + 1) (Value.slice a1 L1.length c1) (.slice none 0 0) false) := HY3.out
    have HO4 : Hid (Only (fun b => b = rb) w w4) := HO3.out
    clear HR3 HX3 HY3 HO3 hj2
    go_wp2_with fail
    refine (take_ok HR4.out HS.out 61 hq2 hcl).mono ?_
    rintro e w5 ⟨rfl, hr5, ho5⟩
    have HR5 : Hid (RD base w5 rb s (j1 + 1) (Value.slice a1 L1.length c1) L1) := hr5
    have hvr : ∀ b, RS rb (Value.slice a1 L1.length c1) b → b = rb ∨ w.heap.size + 2 ≤ b := fun b hb => by
      rcases hb with e | e
      · exact .inl e
      · exact .inr (HV1.out b e)
    have HX5 : Hid (IB w5 w.heap.size (.slice none 0 0) (.slice none 0 0) false) := HX4.out.only ho5 (fun hh => by have := hvr _ hh; omega)
    have HY5 : Hid (IB w5 (w.heap.size + 1) (Value.slice a1 L1.length c1) (.slice none 0 0) false) := HY4.out.only ho5 (fun hh => by have := hvr _ hh; omega)
    have HO5 : Hid (Only (fun b => b = rb) w w5) := HO4.out.trans' ho5 (fun b hb => by have := hvr b hb; omega)
    clear hr5 ho5 hvr HR4 HX4 HY4 HO4
    go_wp2_with fail
    refine (side_ok HS.out HR5.out hside2).mono ?_
    rintro e w6 ⟨vr, rfl, hr6, ho6, hv6⟩
    obtain ⟨a2, c2, rfl⟩ := own_shape hr6.row
    have hs5 := HO5.out.size
    have HSZ5 : w.heap.size + 2 ≤ w5.heap.size := by have := (Array.getElem?_eq_some_iff.1 HY5.out).1; omega
    have HR6 : Hid (RD base w6 rb s j3 (Value.slice a2 R1.length c2) R1) := hr6
    have hvl : ∀ b, (Value.slice a1 L1.length c1).ownBlock = some b → ¬ (b = rb) := fun b hb e => by have := HV1.out b hb; omega
    have HL6 : Hid (w6.ownsRow base 81 2 (Value.slice a1 L1.length c1) L1.length (sgC L1)) := own_of HR5.out.row ho6 hvl
    have HX6 : Hid (IB w6 w.heap.size (.slice none 0 0) (.slice none 0 0) false) := HX5.out.only ho6 (by omega)
    have HY6 : Hid (IB w6 (w.heap.size + 1) (Value.slice a1 L1.length c1) (.slice none 0 0) false) := HY5.out.only ho6 (by omega)
    have HO6 : Hid (Only (fun b => b = rb) w w6) := HO5.out.trans ho6
    have HV6 : Hid ((∀ b, (Value.slice a2 R1.length c2).ownBlock = some b → w5.heap.size ≤ b) ∧ ∀ b, (Value.slice a1 L1.length c1).ownBlock = some b → b < w5.heap.size) := ⟨fun b hb => by
      rcases hv6 with e | ⟨x, e, hx⟩
      · rw [e] at hb; cases hb
      · rw [e] at hb; injection hb with hb; omega, fun b hb => (HR5.out.row.lt b hb).2⟩
    clear hr6 ho6 hv6 hvl
    have y1 : w6.cell? ⟨w.heap.size + 1, 1, none⟩ = some (.slice none 0 0) := cell_at HY6.out rfl
    have yf : ∀ j, w6.frozen? ⟨w.heap.size + 1, j, none⟩ = false := fun j => froz_of HY6.out
    obtain ⟨w7, hw7⟩ : ∃ w7, w7 = w6.setCell ⟨w.heap.size + 1, 1, none⟩ (Value.slice a2 R1.length c2) := ⟨_, rfl⟩
    have HW7 : Hid (w7 = w6.setCell ⟨w.heap.size + 1, 1, none⟩ (Value.slice a2 R1.length c2)) := hw7
    have hne7 : ∀ b, b ≠ w.heap.size + 1 → w7.heap[b]? = w6.heap[b]? := fun b hb => by rw [hw7]; exact heap_set_other hb
    have hbr : ∀ b, (Value.slice a2 R1.length c2).ownBlock = some b → b ≠ w.heap.size + 1 := fun b hb => by have := HV6.out.1 b hb; have := HSZ5; omega
    have hbl : ∀ b, (Value.slice a1 L1.length c1).ownBlock = some b → b ≠ w.heap.size + 1 := fun b hb => by have := HV1.out b hb; omega
    have HR7 : Hid (RD base w7 rb s j3 (Value.slice a2 R1.length c2) R1) := ⟨(hne7 rb (by omega)).trans HR6.out.box, own_keep HR6.out.row (fun b cur hb hc => hne7 b (hbr b hb)), HR6.out.lob, HR6.out.le⟩
    have HL7 : Hid (w7.ownsRow base 81 2 (Value.slice a1 L1.length c1) L1.length (sgC L1)) := own_keep HL6.out (fun b cur hb hc => hne7 b (hbl b hb))
    have HX7 : Hid (IB w7 w.heap.size (.slice none 0 0) (.slice none 0 0) false) := (hne7 _ (by omega)).trans HX6.out
    have HY7 : Hid (IB w7 (w.heap.size + 1) (Value.slice a1 L1.length c1) (Value.slice a2 R1.length c2) false) := by show IB _ _ _ _ _; rw [hw7]; exact heap_set HY6.out
    have HO7 : Hid (Only (fun b => b = rb) w w7) := by
      have hz : Below 0 w w7 := by rw [hw7]; exact HO6.out.zero.setCell (p := ⟨w.heap.size + 1, 1, none⟩) (Nat.zero_le _) _
      exact ⟨hz, fun b hb hS => (hne7 b (by omega)).trans (HO6.out.block b hb hS)⟩
    clear hw7 hne7 hbr hbl HR6 HL6 HX6 HY6 HO6
    go_upto_region 8 with fail
    rw [← HW7.out]
    clear y1 yf HW7
    have S0 : w7.drew.cell? ⟨rb, 0, none⟩ = some (.string s) ∧ w7.drew.cell? ⟨rb, 1, none⟩ = some (.int .i64 (j3 : Nat)) := ⟨cell_at HR7.out.box rfl, cell_at HR7.out.box rfl⟩
    have hnl : ¬ ((j3 : Int) < s.size) := by omega
    have hnd : decide ((j3 : Int) < s.size) = false := decide_eq_false hnl
    go_region_held3 (fun y => y.cell? ⟨rb, 0, none⟩ = some (.string s) ∧ y.cell? ⟨rb, 1, none⟩ = some (.int .i64 (j3 : Nat))) (first | exact S0 | assumption) (fail)
    clear S0
    have z0 : w7.drew.cell? ⟨w.heap.size + 1, 0, none⟩ = some (Value.slice a1 L1.length c1) := cell_at HY7.out rfl
    have z1 : w7.drew.cell? ⟨w.heap.size + 1, 1, none⟩ = some (Value.slice a2 R1.length c2) := cell_at HY7.out rfl
    have z2 : w7.drew.cell? ⟨w.heap.size + 1, 2, none⟩ = some (.bool false) := cell_at HY7.out rfl
    have u0 : w7.drew.cell? ⟨w.heap.size, 0, none⟩ = some (.slice none 0 0) := cell_at HX7.out rfl
    have u1 : w7.drew.cell? ⟨w.heap.size, 1, none⟩ = some (.slice none 0 0) := cell_at HX7.out rfl
    have u2 : w7.drew.cell? ⟨w.heap.size, 2, none⟩ = some (.bool false) := cell_at HX7.out rfl
    have uf : ∀ j, w7.drew.frozen? ⟨w.heap.size, j, none⟩ = false := fun j => froz_of HX7.out
    have p0 : w7.cell? ⟨w.heap.size, 0, none⟩ = some (.slice none 0 0) := u0
    have p1 : w7.cell? ⟨w.heap.size, 1, none⟩ = some (.slice none 0 0) := u1
    have p2 : w7.cell? ⟨w.heap.size, 2, none⟩ = some (.bool false) := u2
    have pf : ∀ j, w7.frozen? ⟨w.heap.size, j, none⟩ = false := uf
    go_wp2_with fail
    have HXD : w7.drew.heap[w.heap.size]? = some (.cells #[.slice none 0 0, .slice none 0 0, .bool false] 24 (0, 0)) := HX7.out
    have hn8 : ∀ b, b ≠ w.heap.size → (((w7.drew.setCell ⟨w.heap.size, 0, none⟩ (Value.slice a1 L1.length c1)).setCell ⟨w.heap.size, 1, none⟩ (Value.slice a2 R1.length c2)).setCell ⟨w.heap.size, 2, none⟩ (.bool false)).heap[b]? = w7.heap[b]? := fun b hb => by
      rw [heap_set_other hb, heap_set_other hb, heap_set_other hb]
      rfl
    have hlo : ∀ b, (Value.slice a1 L1.length c1).ownBlock = some b → b ≠ w.heap.size := fun b hb => by have := HV1.out b hb; omega
    have hro : ∀ b, (Value.slice a2 R1.length c2).ownBlock = some b → b ≠ w.heap.size := fun b hb => by have := HV6.out.1 b hb; have := HSZ5; omega
    refine bodyPost_ret (results_cell_row rfl _ _ w.heap.size 24 _ (0, 0) _ rfl (heap_set (heap_set (heap_set HXD))) Try.underlying24 rfl (by rw [Try.info_id]; rfl)) rfl ⟨(Value.slice a1 L1.length c1), (Value.slice a2 R1.length c2), rfl, own_keep HL7.out (fun b cur hb hc => hn8 b (hlo b hb)), own_keep HR7.out.row (fun b cur hb hc => hn8 b (hro b hb)), ⟨?_, fun b hb hS => (hn8 b (by omega)).trans (HO7.out.block b hb hS)⟩, fun b hb => ⟨by have := HV1.out b hb; omega, fun e => by have h1 := HV6.out.1 b e; have h2 := HV6.out.2 b hb; omega⟩, fun b hb => by have := HV6.out.1 b hb; have := HSZ5; omega⟩
    exact (((HO7.out.zero.trans ((Below.refl _ _ : Below w7.heap.size w7 w7).drew.mono (Nat.zero_le _))).setCell (p := ⟨w.heap.size, 0, none⟩) (Nat.zero_le _) _).setCell (p := ⟨w.heap.size, 1, none⟩) (Nat.zero_le _) _).setCell (p := ⟨w.heap.size, 2, none⟩) (Nat.zero_le _) _
  | true =>
    have hj : j1 + 1 = j2 := by simpa using hj2
    subst hj
    have t1 : w3.cell? ⟨rb, 1, none⟩ = some (.int .i64 (j1 : Nat)) := cell_at HR3.out.box rfl
    have tf : ∀ j, w3.frozen? ⟨rb, j, none⟩ = false := fun j => froz_of HR3.out.box
    have hjs := HR3.out.le
    have hs1000 := HS.out
    have hw1 : IntKind.i64.wrap ((j1 : Int) + 1) = ((j1 + 1 : Nat) : Int) := by rw [IntKind.wrap_i64]; omega
    have hlt1 := seesB_le hlt
    obtain ⟨wa, hwa⟩ : ∃ wa, wa = w3.setCell ⟨rb, 1, none⟩ (.int .i64 ((j1 + 1 : Nat) : Int)) := ⟨_, rfl⟩
    have HWA : Hid (wa = w3.setCell ⟨rb, 1, none⟩ (.int .i64 ((j1 : Int) + 1))) := hwa
    have HRA : Hid (RD base wa rb s (j1 + 1) (Value.slice a1 L1.length c1) L1) := by show RD _ _ _ _ _ _ _; rw [hwa]; exact HR3.out.move (by omega)
    have hna : ∀ b, b ≠ rb → wa.heap[b]? = w3.heap[b]? := fun b hb => by rw [hwa]; exact heap_set_other hb
    have HXA : Hid (IB wa w.heap.size (.slice none 0 0) (.slice none 0 0) false) := (hna _ (by omega)).trans HX3.out
    have HYA : Hid (IB wa (w.heap.size + 1) (Value.slice a1 L1.length c1) (.slice none 0 0) false) := (hna _ (by omega)).trans HY3.out
    have HOA : Hid (Only (fun b => b = rb) w wa) := by show Only _ _ _; rw [hwa]; exact HO3.out.set rfl
    have y2 : wa.cell? ⟨w.heap.size + 1, 2, none⟩ = some (.bool false) := cell_at HYA.out rfl
    have yf : ∀ j, wa.frozen? ⟨w.heap.size + 1, j, none⟩ = false := fun j => froz_of HYA.out
    obtain ⟨w4, hw4⟩ : ∃ w4, w4 = wa.setCell ⟨w.heap.size + 1, 2, none⟩ (.bool true) := ⟨_, rfl⟩
    have HW4 : Hid (w4 = wa.setCell ⟨w.heap.size + 1, 2, none⟩ (.bool true)) := hw4
    have hn4 : ∀ b, b ≠ w.heap.size + 1 → w4.heap[b]? = wa.heap[b]? := fun b hb => by rw [hw4]; exact heap_set_other hb
    have HR4 : Hid (RD base w4 rb s (j1 + 1) (Value.slice a1 L1.length c1) L1) := ⟨(hn4 rb (by omega)).trans HRA.out.box, own_keep HRA.out.row (fun b cur hb hc => hn4 b (by have := HV1.out b hb; omega)), HRA.out.lob, HRA.out.le⟩
    have HX4 : Hid (IB w4 w.heap.size (.slice none 0 0) (.slice none 0 0) false) := (hn4 _ (by omega)).trans HXA.out
    have HY4 : Hid (IB w4 (w.heap.size + 1) (Value.slice a1 L1.length c1) (.slice none 0 0) true) := by show IB _ _ _ _ _; rw [hw4]; exact heap_set HYA.out
    have HO4 : Hid (Only (fun b => b = rb) w w4) := by
      have hz : Below 0 w w4 := by rw [hw4]; exact HOA.out.zero.setCell (p := ⟨w.heap.size + 1, 2, none⟩) (Nat.zero_le _) _
      exact ⟨hz, fun b hb hS => (hn4 b (by omega)).trans (HOA.out.block b hb hS)⟩
    clear hwa hna hw4 hn4 HR3 HX3 HY3 HO3 HRA HXA HYA HOA hj2
    go_upto_region 5 with fail
    rw [← HWA.out]
    clear t1 tf HWA
    go_wp2_with fail
    rw [← HW4.out]
    clear y2 yf HW4
    refine (take_ok HR4.out HS.out 61 hq2 hcl).mono ?_
    rintro e w5 ⟨rfl, hr5, ho5⟩
    have HR5 : Hid (RD base w5 rb s ((j1 + 1) + 1) (Value.slice a1 L1.length c1) L1) := hr5
    have hvr : ∀ b, RS rb (Value.slice a1 L1.length c1) b → b = rb ∨ w.heap.size + 2 ≤ b := fun b hb => by
      rcases hb with e | e
      · exact .inl e
      · exact .inr (HV1.out b e)
    have HX5 : Hid (IB w5 w.heap.size (.slice none 0 0) (.slice none 0 0) false) := HX4.out.only ho5 (fun hh => by have := hvr _ hh; omega)
    have HY5 : Hid (IB w5 (w.heap.size + 1) (Value.slice a1 L1.length c1) (.slice none 0 0) true) := HY4.out.only ho5 (fun hh => by have := hvr _ hh; omega)
    have HO5 : Hid (Only (fun b => b = rb) w w5) := HO4.out.trans' ho5 (fun b hb => by have := hvr b hb; omega)
    clear hr5 ho5 hvr HR4 HX4 HY4 HO4
    go_wp2_with fail
    refine (side_ok HS.out HR5.out hside2).mono ?_
    rintro e w6 ⟨vr, rfl, hr6, ho6, hv6⟩
    obtain ⟨a2, c2, rfl⟩ := own_shape hr6.row
    have hs5 := HO5.out.size
    have HSZ5 : w.heap.size + 2 ≤ w5.heap.size := by have := (Array.getElem?_eq_some_iff.1 HY5.out).1; omega
    have HR6 : Hid (RD base w6 rb s j3 (Value.slice a2 R1.length c2) R1) := hr6
    have hvl : ∀ b, (Value.slice a1 L1.length c1).ownBlock = some b → ¬ (b = rb) := fun b hb e => by have := HV1.out b hb; omega
    have HL6 : Hid (w6.ownsRow base 81 2 (Value.slice a1 L1.length c1) L1.length (sgC L1)) := own_of HR5.out.row ho6 hvl
    have HX6 : Hid (IB w6 w.heap.size (.slice none 0 0) (.slice none 0 0) false) := HX5.out.only ho6 (by omega)
    have HY6 : Hid (IB w6 (w.heap.size + 1) (Value.slice a1 L1.length c1) (.slice none 0 0) true) := HY5.out.only ho6 (by omega)
    have HO6 : Hid (Only (fun b => b = rb) w w6) := HO5.out.trans ho6
    have HV6 : Hid ((∀ b, (Value.slice a2 R1.length c2).ownBlock = some b → w5.heap.size ≤ b) ∧ ∀ b, (Value.slice a1 L1.length c1).ownBlock = some b → b < w5.heap.size) := ⟨fun b hb => by
      rcases hv6 with e | ⟨x, e, hx⟩
      · rw [e] at hb; cases hb
      · rw [e] at hb; injection hb with hb; omega, fun b hb => (HR5.out.row.lt b hb).2⟩
    clear hr6 ho6 hv6 hvl
    have y1 : w6.cell? ⟨w.heap.size + 1, 1, none⟩ = some (.slice none 0 0) := cell_at HY6.out rfl
    have yf : ∀ j, w6.frozen? ⟨w.heap.size + 1, j, none⟩ = false := fun j => froz_of HY6.out
    obtain ⟨w7, hw7⟩ : ∃ w7, w7 = w6.setCell ⟨w.heap.size + 1, 1, none⟩ (Value.slice a2 R1.length c2) := ⟨_, rfl⟩
    have HW7 : Hid (w7 = w6.setCell ⟨w.heap.size + 1, 1, none⟩ (Value.slice a2 R1.length c2)) := hw7
    have hne7 : ∀ b, b ≠ w.heap.size + 1 → w7.heap[b]? = w6.heap[b]? := fun b hb => by rw [hw7]; exact heap_set_other hb
    have hbr : ∀ b, (Value.slice a2 R1.length c2).ownBlock = some b → b ≠ w.heap.size + 1 := fun b hb => by have := HV6.out.1 b hb; have := HSZ5; omega
    have hbl : ∀ b, (Value.slice a1 L1.length c1).ownBlock = some b → b ≠ w.heap.size + 1 := fun b hb => by have := HV1.out b hb; omega
    have HR7 : Hid (RD base w7 rb s j3 (Value.slice a2 R1.length c2) R1) := ⟨(hne7 rb (by omega)).trans HR6.out.box, own_keep HR6.out.row (fun b cur hb hc => hne7 b (hbr b hb)), HR6.out.lob, HR6.out.le⟩
    have HL7 : Hid (w7.ownsRow base 81 2 (Value.slice a1 L1.length c1) L1.length (sgC L1)) := own_keep HL6.out (fun b cur hb hc => hne7 b (hbl b hb))
    have HX7 : Hid (IB w7 w.heap.size (.slice none 0 0) (.slice none 0 0) false) := (hne7 _ (by omega)).trans HX6.out
    have HY7 : Hid (IB w7 (w.heap.size + 1) (Value.slice a1 L1.length c1) (Value.slice a2 R1.length c2) true) := by show IB _ _ _ _ _; rw [hw7]; exact heap_set HY6.out
    have HO7 : Hid (Only (fun b => b = rb) w w7) := by
      have hz : Below 0 w w7 := by rw [hw7]; exact HO6.out.zero.setCell (p := ⟨w.heap.size + 1, 1, none⟩) (Nat.zero_le _) _
      exact ⟨hz, fun b hb hS => (hne7 b (by omega)).trans (HO6.out.block b hb hS)⟩
    clear hw7 hne7 hbr hbl HR6 HL6 HX6 HY6 HO6
    go_upto_region 8 with fail
    rw [← HW7.out]
    clear y1 yf HW7
    have S0 : w7.drew.cell? ⟨rb, 0, none⟩ = some (.string s) ∧ w7.drew.cell? ⟨rb, 1, none⟩ = some (.int .i64 (j3 : Nat)) := ⟨cell_at HR7.out.box rfl, cell_at HR7.out.box rfl⟩
    have hnl : ¬ ((j3 : Int) < s.size) := by omega
    have hnd : decide ((j3 : Int) < s.size) = false := decide_eq_false hnl
    go_region_held3 (fun y => y.cell? ⟨rb, 0, none⟩ = some (.string s) ∧ y.cell? ⟨rb, 1, none⟩ = some (.int .i64 (j3 : Nat))) (first | exact S0 | assumption) (fail)
    clear S0
    have z0 : w7.drew.cell? ⟨w.heap.size + 1, 0, none⟩ = some (Value.slice a1 L1.length c1) := cell_at HY7.out rfl
    have z1 : w7.drew.cell? ⟨w.heap.size + 1, 1, none⟩ = some (Value.slice a2 R1.length c2) := cell_at HY7.out rfl
    have z2 : w7.drew.cell? ⟨w.heap.size + 1, 2, none⟩ = some (.bool true) := cell_at HY7.out rfl
    have u0 : w7.drew.cell? ⟨w.heap.size, 0, none⟩ = some (.slice none 0 0) := cell_at HX7.out rfl
    have u1 : w7.drew.cell? ⟨w.heap.size, 1, none⟩ = some (.slice none 0 0) := cell_at HX7.out rfl
    have u2 : w7.drew.cell? ⟨w.heap.size, 2, none⟩ = some (.bool false) := cell_at HX7.out rfl
    have uf : ∀ j, w7.drew.frozen? ⟨w.heap.size, j, none⟩ = false := fun j => froz_of HX7.out
    have p0 : w7.cell? ⟨w.heap.size, 0, none⟩ = some (.slice none 0 0) := u0
    have p1 : w7.cell? ⟨w.heap.size, 1, none⟩ = some (.slice none 0 0) := u1
    have p2 : w7.cell? ⟨w.heap.size, 2, none⟩ = some (.bool false) := u2
    have pf : ∀ j, w7.frozen? ⟨w.heap.size, j, none⟩ = false := uf
    go_wp2_with fail
    have HXD : w7.drew.heap[w.heap.size]? = some (.cells #[.slice none 0 0, .slice none 0 0, .bool false] 24 (0, 0)) := HX7.out
    have hn8 : ∀ b, b ≠ w.heap.size → (((w7.drew.setCell ⟨w.heap.size, 0, none⟩ (Value.slice a1 L1.length c1)).setCell ⟨w.heap.size, 1, none⟩ (Value.slice a2 R1.length c2)).setCell ⟨w.heap.size, 2, none⟩ (.bool true)).heap[b]? = w7.heap[b]? := fun b hb => by
      rw [heap_set_other hb, heap_set_other hb, heap_set_other hb]
      rfl
    have hlo : ∀ b, (Value.slice a1 L1.length c1).ownBlock = some b → b ≠ w.heap.size := fun b hb => by have := HV1.out b hb; omega
    have hro : ∀ b, (Value.slice a2 R1.length c2).ownBlock = some b → b ≠ w.heap.size := fun b hb => by have := HV6.out.1 b hb; have := HSZ5; omega
    refine bodyPost_ret (results_cell_row rfl _ _ w.heap.size 24 _ (0, 0) _ rfl (heap_set (heap_set (heap_set HXD))) Try.underlying24 rfl (by rw [Try.info_id]; rfl)) rfl ⟨(Value.slice a1 L1.length c1), (Value.slice a2 R1.length c2), rfl, own_keep HL7.out (fun b cur hb hc => hn8 b (hlo b hb)), own_keep HR7.out.row (fun b cur hb hc => hn8 b (hro b hb)), ⟨?_, fun b hb hS => (hn8 b (by omega)).trans (HO7.out.block b hb hS)⟩, fun b hb => ⟨by have := HV1.out b hb; omega, fun e => by have h1 := HV6.out.1 b e; have h2 := HV6.out.2 b hb; omega⟩, fun b hb => by have := HV6.out.1 b hb; have := HSZ5; omega⟩
    exact (((HO7.out.zero.trans ((Below.refl _ _ : Below w7.heap.size w7 w7).drew.mono (Nat.zero_le _))).setCell (p := ⟨w.heap.size, 0, none⟩) (Nat.zero_le _) _).setCell (p := ⟨w.heap.size, 1, none⟩) (Nat.zero_le _) _).setCell (p := ⟨w.heap.size, 2, none⟩) (Nat.zero_le _) _
end Go.Proofs.Ythhlamehbcidgaa
