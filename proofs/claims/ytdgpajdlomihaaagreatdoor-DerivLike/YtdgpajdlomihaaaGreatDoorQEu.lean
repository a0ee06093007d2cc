/- Contracts of Classes' own closure and of slices.IndexFunc over the derivatives found so far. -/
import Derived.Test.YtdgpajdlomihaaaGreatDoorQS
import Derived.Maps.AppendAt
namespace Go.Proofs.YtdgpajdlomihaaaGreatDoor
open Go Go.RowKit Go.Lib
set_option linter.unusedVariables false

set_option maxHeartbeats 1000000 in
set_option maxRecDepth 100000 in
theorem classes1_any {w : World} {b : Nat} {u d : Value} {x D : List Nd} (hb : Boxed w b 22 d) (hu : NReads w u x) (hd : NReads w d D) (hl : x.length ≤ 4000) :
    Calls Tryz.prog 29 #[u, .pointer (some ⟨b, 0, none⟩)] w fun e w' => e = .returned (.bool (decide (x = D))) ∧ Below w.heap.size w w' := by
  have hcell := hb.cell
  have HE : Hid (Calls Tryz.prog 30 #[u, d] w fun e w' => e = .returned (.bool (decide (x = D))) ∧ Below w.heap.size w w') := sequal_any _ _ _ _ w hu hd (by omega)
  obtain ⟨da, dc, rfl, _⟩ := hd
  clear hu hb
  go_enter Tryz.func29, Tryz.ntmps29
  go_wp2_with fail
  refine HE.out.mono ?_
  rintro e w1 ⟨rfl, hb1⟩
  have HB1 : Hid _ := hb1
  clear hb1
  go_wp2_with fail
  go_ret
  exact ⟨rfl, HB1.out⟩

/-- The first place of a list at which a tree stands. -/
def IxQ (L : List Tr) (D : Tr) (w : World) (e : Ending) (w' : World) : Prop := ∃ i : Nat, e = .returned (.int .i64 i) ∧ i < L.length ∧ (L.getD i tNone).flat = D.flat ∧ (∀ j, j < i → (L.getD j tNone).flat ≠ D.flat) ∧ Below w.heap.size w w'
def fCls (b : Nat) : Value := .func (.func 29) #[] #[.pointer (some ⟨b, 0, none⟩)]

set_option maxHeartbeats 4000000 in
set_option maxRecDepth 100000 in
theorem indexFunc_any {lo base b : Nat} {w : World} {v d : Value} {L : List Tr} {D : Tr} (hv : Prt lo w base v L) (hL : L.length ≤ 8) (hb : Boxed w b 22 d) (hd : NReads w d D.flat) (hm : ∃ i, i < L.length ∧ (L.getD i tNone).flat = D.flat) :
    Calls Tryz.prog 28 #[v, fCls b] w (IxQ L D w) := by
  obtain ⟨us, hul, hrow, hus⟩ := hv
  obtain ⟨va, vc, rfl⟩ := own_one hrow
  have HC : Hid (∀ w1 i, Below w.heap.size w w1 → i < L.length → ∃ g u, va = some ⟨g, 0, none⟩ ∧ w1.cell? ⟨g, i, none⟩ = some u ∧ Calls Tryz.prog 29 #[u, .pointer (some ⟨b, 0, none⟩)] w1 fun e w' => e = .returned (.bool (decide ((L.getD i tNone).flat = D.flat))) ∧ Below w1.heap.size w1 w') := by
    intro w1 i hb1 hi
    obtain ⟨u, h1, h2, h3⟩ := hus i (L.getD i tNone) (by rw [List.getD_eq_getElem?_getD, List.getElem?_eq_getElem hi]; rfl)
    rcases hrow.2 with ⟨_, h0⟩ | ⟨g, cap, cur, e, _, hg, _⟩
    · omega
    · simp only [Value.slice.injEq] at e
      obtain ⟨rfl, _⟩ := e
      have hc := hrow.cells (g := g) rfl i u h1
      rw [Addr.add_lit, Nat.zero_add] at hc
      exact ⟨g, u, rfl, by rw [below_cell hb1 (Array.getElem?_eq_some_iff.1 hg).1]; exact hc, classes1_any (boxed_below hb hb1 hb.lt) (h2.reads.stay hb1) (hd.stay hb1) h3⟩
  have HM : Hid (∃ i, i < L.length ∧ (L.getD i tNone).flat = D.flat) := hm
  clear hus hrow hul hm hd hb
  obtain ⟨n, hn⟩ : ∃ n, L.length = n := ⟨_, rfl⟩
  unfold fCls
  have HN : Hid (L.length = n) := hn
  rw [hn] at hL HC
  rw [hn]
  clear hn
  go_enter Tryz.func28, Tryz.ntmps28
  go_wp2_with fail
  go_loopw [8] (fun vi wr => ∃ (i : Nat), vi = .int .i64 i ∧ i ≤ n ∧ (∀ t, t < i → (L.getD t tNone).flat ≠ D.flat) ∧ Below w.heap.size w wr) (fun vi _ => n - (intOf vi).toNat)
  case atStart => exact ⟨0, rfl, Nat.zero_le _, fun t ht => by omega, Below.refl _ _⟩
  case round =>
    obtain ⟨i, rfl, hin, h1, hb⟩ := hrel
    have HB : Hid (Below w.heap.size w wr) := hb
    have H1 : Hid (∀ t, t < i → (L.getD t tNone).flat ≠ D.flat) := h1
    clear h1 hb
    have hlt : i < n := by
      obtain ⟨j, hj, he⟩ := HM.out
      rw [HN.out] at hj
      by_cases c : j < i
      · exact absurd he (H1.out j c)
      · omega
    have hltI : (i : Int) < n := by omega
    obtain ⟨g, u, e, hcell, hcall⟩ := HC.out wr i HB.out hlt
    subst e
    by_cases hx : (L.getD i tNone).flat = D.flat
    · rw [decide_eq_true hx] at hcall
      have HX : Hid ((L.getD i tNone).flat = D.flat) := hx
      have HCALL : Hid (Calls Tryz.prog 29 #[u, .pointer (some ⟨b, 0, none⟩)] wr fun e w' => e = .returned (.bool true) ∧ Below wr.heap.size wr w') := hcall
      clear hcall hx
      go_wp2_with fail
      refine HCALL.out.mono ?_
      rintro e w2 ⟨rfl, hb2⟩
      have HB2 : Hid (Below w.heap.size w w2) := go_on HB.out hb2
      clear hb2 HCALL
      go_wp2_with fail
      go_ret
      unfold IxQ
      refine ⟨i, ?_, by rw [HN.out]; exact hlt, HX.out, H1.out, HB2.out⟩
      rfl
    · rw [decide_eq_false hx] at hcall
      have HX : Hid (¬ (L.getD i tNone).flat = D.flat) := hx
      have HCALL : Hid (Calls Tryz.prog 29 #[u, .pointer (some ⟨b, 0, none⟩)] wr fun e w' => e = .returned (.bool false) ∧ Below wr.heap.size wr w') := hcall
      clear hcall hx
      go_wp2_with fail
      refine HCALL.out.mono ?_
      rintro e w2 ⟨rfl, hb2⟩
      have HB2 : Hid (Below w.heap.size w w2) := go_on HB.out hb2
      clear hb2 HCALL
      go_wp2_with fail
      go_roundw
      case rel =>
        refine ⟨i + 1, by go_num, by omega, fun t ht => ?_, HB2.out⟩
        by_cases c : t = i
        · rw [c]; exact HX.out
        · exact H1.out t (by omega)
      case measure => simp [intOf]; omega
end Go.Proofs.YtdgpajdlomihaaaGreatDoor
