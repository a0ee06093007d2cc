/- The printer: contract of syntax.textOf. -/
import Derived.Test.YtjonlmafhijcoaaDoorSh
namespace Go.Proofs.YtjonlmafhijcoaaDoor
open Go Go.RowKit
set_option linter.unusedVariables false

/-- A text that is written, and how tightly its root holds it. -/
abbrev Wr := ByteArray × Nat
def noWr : Wr := (ByteArray.empty, 0)
def WReads (w : World) (v : Value) (ws : List Wr) : Prop :=
  ∃ a cap, v = .slice a ws.length cap ∧ ws.length ≤ cap ∧ ∀ i, i < ws.length → ∃ g o, a = some ⟨g, o, none⟩ ∧ g < w.heap.size ∧ w.cell? ⟨g, o + i * 2, none⟩ = some (.string (ws.getD i noWr).1) ∧ w.cell? ⟨g, o + i * 2 + 1, none⟩ = some (.int .i64 ((ws.getD i noWr).2 : Int))
def lastW (ws : List Wr) : Wr := ws.getD (ws.length - 1) noWr
def prevW (ws : List Wr) : Wr := ws.getD (ws.length - 2) noWr
def byteS (s : Int) : ByteArray := { data := #[UInt8.ofNat s.toNat] }
/-- The text of a node behind what is written. -/
def textF (n : Nd) (ws : List Wr) : ByteArray :=
  if n.1 = 1 then { data := #[48] } else if n.1 = 2 then { data := #[49] } else if n.1 = 4 then { data := #[46] }
  else if n.1 = 8 then wth (lastW ws).1 (lastW ws).2 5 ++ { data := #[42] }
  else if n.1 = 9 then { data := #[33] } ++ wth (lastW ws).1 (lastW ws).2 4
  else if n.1 = 5 then pairT (prevW ws).1 (lastW ws).1 (prevW ws).2 (lastW ws).2 1 { data := #[124] }
  else if n.1 = 6 then pairT (prevW ws).1 (lastW ws).1 (prevW ws).2 (lastW ws).2 2 { data := #[38] }
  else if n.1 = 7 then pairT (prevW ws).1 (lastW ws).1 (prevW ws).2 (lastW ws).2 3 ByteArray.empty
  else byteS n.2

set_option maxHeartbeats 8000000 in
set_option maxRecDepth 100000 in
theorem textOf_any (k s : Int) (hgood : good (k, s) = true) (v : Value) (ws : List Wr) (w : World) (hv : WReads w v ws) (hl : ws.length ≤ 100000) (har : arity k ≤ ws.length) (hsz : ∀ i, (ws.getD i noWr).1.size ≤ 1000) (hT : TTab w) :
    Calls Tryd.prog 27 #[.agg #[.int .i64 k, .int .u8 s], v] w fun e w' => e = .returned (.tuple #[.string (textF (k, s) ws), .int .i64 (arity k : Nat)]) ∧ Below w.heap.size w w' := by
  obtain ⟨hk1, hk9⟩ := good_kind hgood
  simp only at hk1 hk9
  obtain ⟨a, cap, rfl, hcap, hr⟩ := hv
  have HR : Hid (∀ i, i < ws.length → ∃ g o, a = some ⟨g, o, none⟩ ∧ g < w.heap.size ∧ w.cell? ⟨g, o + i * 2, none⟩ = some (.string (ws.getD i noWr).1) ∧ w.cell? ⟨g, o + i * 2 + 1, none⟩ = some (.int .i64 ((ws.getD i noWr).2 : Int))) := hr
  have HS : Hid (∀ i, (ws.getD i noWr).1.size ≤ 1000) := hsz
  have BA : Hid (Below w.heap.size w (w.alloc (.cells #[.int .i64 k, .int .u8 s] 56))) := (Below.refl _ _).alloc (Nat.le_refl _) _
  have CT : Hid (∀ j : Nat, j < 10 → (w.alloc (.cells #[.int .i64 k, .int .u8 s] 56)).cell? ⟨0, j, none⟩ = some (.int .i64 (tight (j : Int) : Nat))) := fun j hj => by
    rw [below_cell BA.out hT.pos]; exact hT j hj
  clear hr hsz hT
  have hc : k = 1 ∨ k = 2 ∨ k = 3 ∨ k = 4 ∨ k = 5 ∨ k = 6 ∨ k = 7 ∨ k = 8 ∨ k = 9 := by omega
  rcases hc with rfl | rfl | rfl | rfl | rfl | rfl | rfl | rfl | rfl
  · have HE : Hid (textF (1, s) ws = { data := #[48] }) := rfl
    have ct : (w.alloc (.cells #[.int .i64 1, .int .u8 s] 56)).cell? ⟨0, 1, none⟩ = some (.int .i64 5) := CT.out 1 (by decide)
    rw [HE.out]
    go_enter Tryd.func27, Tryd.ntmps27
    go_wp2_with fail
    go_ret2
    exact ⟨rfl, BA.out⟩
  · have HE : Hid (textF (2, s) ws = { data := #[49] }) := rfl
    have ct : (w.alloc (.cells #[.int .i64 2, .int .u8 s] 56)).cell? ⟨0, 2, none⟩ = some (.int .i64 5) := CT.out 2 (by decide)
    rw [HE.out]
    go_enter Tryd.func27, Tryd.ntmps27
    go_wp2_with fail
    go_ret2
    exact ⟨rfl, BA.out⟩
  · have hlet : 97 ≤ s ∧ s ≤ 104 := by simpa [good, isLet] using hgood
    have ct : (w.alloc (.cells #[.int .i64 3, .int .u8 s] 56)).cell? ⟨0, 3, none⟩ = some (.int .i64 5) := CT.out 3 (by decide)
    have hen : Utf8.encode s = byteS s := by
      have hv : Utf8.valid s = true := by simp [Utf8.valid]; omega
      unfold Utf8.encode byteS
      simp only [hv, if_true]
      rw [if_pos (by omega)]
    have hw : IntKind.i32.wrap s = s := by simp [IntKind.wrap, IntKind.signed, IntKind.bits]; omega
    have HE : Hid (textF (3, s) ws = byteS s) := rfl
    rw [HE.out]
    go_enter Tryd.func27, Tryd.ntmps27
    go_wp2_with fail
    go_ret2
    exact ⟨rfl, BA.out⟩
  · have HE : Hid (textF (4, s) ws = { data := #[46] }) := rfl
    have ct : (w.alloc (.cells #[.int .i64 4, .int .u8 s] 56)).cell? ⟨0, 4, none⟩ = some (.int .i64 5) := CT.out 4 (by decide)
    rw [HE.out]
    go_enter Tryd.func27, Tryd.ntmps27
    go_wp2_with fail
    go_ret2
    exact ⟨rfl, BA.out⟩
  · have ct : (w.alloc (.cells #[.int .i64 5, .int .u8 s] 56)).cell? ⟨0, 5, none⟩ = some (.int .i64 1) := CT.out 5 (by decide)
    have har2 : 2 ≤ ws.length := har
    obtain ⟨l2, hl2⟩ : ∃ l2, ws.length = l2 + 2 := ⟨ws.length - 2, by omega⟩
    have HE : Hid (textF (5, s) ws = pairT (prevW ws).1 (lastW ws).1 (prevW ws).2 (lastW ws).2 1 { data := #[124] }) := rfl
    rw [HE.out]
    obtain ⟨g, o, rfl, hg, p0, p1⟩ := HR.out l2 (by omega)
    obtain ⟨g', o', e', hg', q0, q1⟩ := HR.out (l2 + 1) (by omega)
    cases e'
    have z0 := HS.out l2
    have z1 := HS.out (l2 + 1)
    have eP : prevW ws = ws.getD l2 noWr := by rw [prevW, hl2]; rfl
    have eL : lastW ws = ws.getD (l2 + 1) noWr := by rw [lastW, hl2]; rfl
    rw [eP, eL]
    generalize ws.getD l2 noWr = wp at *
    generalize ws.getD (l2 + 1) noWr = wq at *
    obtain ⟨x0, t0⟩ := wp
    obtain ⟨x1, t1⟩ := wq
    simp only at p0 p1 q0 q1 z0 z1 ⊢
    have d0 : (w.alloc (.cells #[.int .i64 5, .int .u8 s] 56)).cell? ⟨g, o + l2 * 2, none⟩ = some (.string x0) := by rw [below_cell BA.out hg]; exact p0
    have d1 : (w.alloc (.cells #[.int .i64 5, .int .u8 s] 56)).cell? ⟨g, o + l2 * 2 + 1, none⟩ = some (.int .i64 (t0 : Int)) := by rw [below_cell BA.out hg]; exact p1
    have d2 : (w.alloc (.cells #[.int .i64 5, .int .u8 s] 56)).cell? ⟨g, o + l2 * 2 + 2, none⟩ = some (.string x1) := by rw [below_cell BA.out hg, show o + l2 * 2 + 2 = o + (l2 + 1) * 2 by omega]; exact q0
    have d3 : (w.alloc (.cells #[.int .i64 5, .int .u8 s] 56)).cell? ⟨g, o + l2 * 2 + 2 + 1, none⟩ = some (.int .i64 (t1 : Int)) := by rw [below_cell BA.out hg, show o + l2 * 2 + 2 + 1 = o + (l2 + 1) * 2 + 1 by omega]; exact q1
    have hgA : g < (w.alloc (.cells #[.int .i64 5, .int .u8 s] 56)).heap.size := by simp; omega
    rw [hl2] at hcap hl ⊢
    have hlI : ((l2 + 2 : Nat) : Int) - 2 = l2 := by omega
    have hlc : (l2 : Int) ≤ cap := by omega
    have hlc2 : (l2 : Int) ≤ ((l2 + 2 : Nat) : Int) := by omega
    have hne : ¬ l2 = cap := by omega
    have D0 : Hid _ := d0
    have D1 : Hid _ := d1
    have D2 : Hid _ := d2
    have D3 : Hid _ := d3
    clear p0 p1 q0 q1 eP eL har har2 hl2 HE HR d0 d1 d2 d3
    go_enter Tryd.func27, Tryd.ntmps27
    go_wp2_with fail
    refine (pair_any x0 x1 { data := #[124] } t0 t1 1 (cap - l2) g (o + l2 * 2) z0 z1 (by decide) (by decide) _ hgA D0.out D1.out D2.out D3.out).mono ?_
    rintro e w2 ⟨rfl, hb2⟩
    have HB2 : Hid (Below w.heap.size w w2) := go_on BA.out hb2
    clear hb2
    go_wp2_with fail
    go_ret2
    exact ⟨rfl, HB2.out⟩
  · have ct : (w.alloc (.cells #[.int .i64 6, .int .u8 s] 56)).cell? ⟨0, 6, none⟩ = some (.int .i64 2) := CT.out 6 (by decide)
    have har2 : 2 ≤ ws.length := har
    obtain ⟨l2, hl2⟩ : ∃ l2, ws.length = l2 + 2 := ⟨ws.length - 2, by omega⟩
    have HE : Hid (textF (6, s) ws = pairT (prevW ws).1 (lastW ws).1 (prevW ws).2 (lastW ws).2 2 { data := #[38] }) := rfl
    rw [HE.out]
    obtain ⟨g, o, rfl, hg, p0, p1⟩ := HR.out l2 (by omega)
    obtain ⟨g', o', e', hg', q0, q1⟩ := HR.out (l2 + 1) (by omega)
    cases e'
    have z0 := HS.out l2
    have z1 := HS.out (l2 + 1)
    have eP : prevW ws = ws.getD l2 noWr := by rw [prevW, hl2]; rfl
    have eL : lastW ws = ws.getD (l2 + 1) noWr := by rw [lastW, hl2]; rfl
    rw [eP, eL]
    generalize ws.getD l2 noWr = wp at *
    generalize ws.getD (l2 + 1) noWr = wq at *
    obtain ⟨x0, t0⟩ := wp
    obtain ⟨x1, t1⟩ := wq
    simp only at p0 p1 q0 q1 z0 z1 ⊢
    have d0 : (w.alloc (.cells #[.int .i64 6, .int .u8 s] 56)).cell? ⟨g, o + l2 * 2, none⟩ = some (.string x0) := by rw [below_cell BA.out hg]; exact p0
    have d1 : (w.alloc (.cells #[.int .i64 6, .int .u8 s] 56)).cell? ⟨g, o + l2 * 2 + 1, none⟩ = some (.int .i64 (t0 : Int)) := by rw [below_cell BA.out hg]; exact p1
    have d2 : (w.alloc (.cells #[.int .i64 6, .int .u8 s] 56)).cell? ⟨g, o + l2 * 2 + 2, none⟩ = some (.string x1) := by rw [below_cell BA.out hg, show o + l2 * 2 + 2 = o + (l2 + 1) * 2 by omega]; exact q0
    have d3 : (w.alloc (.cells #[.int .i64 6, .int .u8 s] 56)).cell? ⟨g, o + l2 * 2 + 2 + 1, none⟩ = some (.int .i64 (t1 : Int)) := by rw [below_cell BA.out hg, show o + l2 * 2 + 2 + 1 = o + (l2 + 1) * 2 + 1 by omega]; exact q1
    have hgA : g < (w.alloc (.cells #[.int .i64 6, .int .u8 s] 56)).heap.size := by simp; omega
    rw [hl2] at hcap hl ⊢
    have hlI : ((l2 + 2 : Nat) : Int) - 2 = l2 := by omega
    have hlc : (l2 : Int) ≤ cap := by omega
    have hlc2 : (l2 : Int) ≤ ((l2 + 2 : Nat) : Int) := by omega
    have hne : ¬ l2 = cap := by omega
    have D0 : Hid _ := d0
    have D1 : Hid _ := d1
    have D2 : Hid _ := d2
    have D3 : Hid _ := d3
    clear p0 p1 q0 q1 eP eL har har2 hl2 HE HR d0 d1 d2 d3
    go_enter Tryd.func27, Tryd.ntmps27
    go_wp2_with fail
    refine (pair_any x0 x1 { data := #[38] } t0 t1 2 (cap - l2) g (o + l2 * 2) z0 z1 (by decide) (by decide) _ hgA D0.out D1.out D2.out D3.out).mono ?_
    rintro e w2 ⟨rfl, hb2⟩
    have HB2 : Hid (Below w.heap.size w w2) := go_on BA.out hb2
    clear hb2
    go_wp2_with fail
    go_ret2
    exact ⟨rfl, HB2.out⟩
  · have ct : (w.alloc (.cells #[.int .i64 7, .int .u8 s] 56)).cell? ⟨0, 7, none⟩ = some (.int .i64 3) := CT.out 7 (by decide)
    have har2 : 2 ≤ ws.length := har
    obtain ⟨l2, hl2⟩ : ∃ l2, ws.length = l2 + 2 := ⟨ws.length - 2, by omega⟩
    have HE : Hid (textF (7, s) ws = pairT (prevW ws).1 (lastW ws).1 (prevW ws).2 (lastW ws).2 3 ByteArray.empty) := rfl
    rw [HE.out]
    obtain ⟨g, o, rfl, hg, p0, p1⟩ := HR.out l2 (by omega)
    obtain ⟨g', o', e', hg', q0, q1⟩ := HR.out (l2 + 1) (by omega)
    cases e'
    have z0 := HS.out l2
    have z1 := HS.out (l2 + 1)
    have eP : prevW ws = ws.getD l2 noWr := by rw [prevW, hl2]; rfl
    have eL : lastW ws = ws.getD (l2 + 1) noWr := by rw [lastW, hl2]; rfl
    rw [eP, eL]
    generalize ws.getD l2 noWr = wp at *
    generalize ws.getD (l2 + 1) noWr = wq at *
    obtain ⟨x0, t0⟩ := wp
    obtain ⟨x1, t1⟩ := wq
    simp only at p0 p1 q0 q1 z0 z1 ⊢
    have d0 : (w.alloc (.cells #[.int .i64 7, .int .u8 s] 56)).cell? ⟨g, o + l2 * 2, none⟩ = some (.string x0) := by rw [below_cell BA.out hg]; exact p0
    have d1 : (w.alloc (.cells #[.int .i64 7, .int .u8 s] 56)).cell? ⟨g, o + l2 * 2 + 1, none⟩ = some (.int .i64 (t0 : Int)) := by rw [below_cell BA.out hg]; exact p1
    have d2 : (w.alloc (.cells #[.int .i64 7, .int .u8 s] 56)).cell? ⟨g, o + l2 * 2 + 2, none⟩ = some (.string x1) := by rw [below_cell BA.out hg, show o + l2 * 2 + 2 = o + (l2 + 1) * 2 by omega]; exact q0
    have d3 : (w.alloc (.cells #[.int .i64 7, .int .u8 s] 56)).cell? ⟨g, o + l2 * 2 + 2 + 1, none⟩ = some (.int .i64 (t1 : Int)) := by rw [below_cell BA.out hg, show o + l2 * 2 + 2 + 1 = o + (l2 + 1) * 2 + 1 by omega]; exact q1
    have hgA : g < (w.alloc (.cells #[.int .i64 7, .int .u8 s] 56)).heap.size := by simp; omega
    rw [hl2] at hcap hl ⊢
    have hlI : ((l2 + 2 : Nat) : Int) - 2 = l2 := by omega
    have hlc : (l2 : Int) ≤ cap := by omega
    have hlc2 : (l2 : Int) ≤ ((l2 + 2 : Nat) : Int) := by omega
    have hne : ¬ l2 = cap := by omega
    have D0 : Hid _ := d0
    have D1 : Hid _ := d1
    have D2 : Hid _ := d2
    have D3 : Hid _ := d3
    clear p0 p1 q0 q1 eP eL har har2 hl2 HE HR d0 d1 d2 d3
    go_enter Tryd.func27, Tryd.ntmps27
    go_wp2_with fail
    refine (pair_any x0 x1 ByteArray.empty t0 t1 3 (cap - l2) g (o + l2 * 2) z0 z1 (by decide) (by decide) _ hgA D0.out D1.out D2.out D3.out).mono ?_
    rintro e w2 ⟨rfl, hb2⟩
    have HB2 : Hid (Below w.heap.size w w2) := go_on BA.out hb2
    clear hb2
    go_wp2_with fail
    go_ret2
    exact ⟨rfl, HB2.out⟩
  · have ct : (w.alloc (.cells #[.int .i64 8, .int .u8 s] 56)).cell? ⟨0, 8, none⟩ = some (.int .i64 5) := CT.out 8 (by decide)
    have har2 : 1 ≤ ws.length := har
    obtain ⟨l1, hl1⟩ : ∃ l1, ws.length = l1 + 1 := ⟨ws.length - 1, by omega⟩
    have HE : Hid (textF (8, s) ws = wth (lastW ws).1 (lastW ws).2 5 ++ { data := #[42] }) := rfl
    rw [HE.out]
    obtain ⟨g, o, rfl, hg, p0, p1⟩ := HR.out l1 (by omega)
    have z0 := HS.out l1
    have eL : lastW ws = ws.getD l1 noWr := by rw [lastW, hl1]; rfl
    rw [eL]
    generalize ws.getD l1 noWr = wp at *
    obtain ⟨x0, t0⟩ := wp
    simp only at p0 p1 z0 ⊢
    have d0 : (w.alloc (.cells #[.int .i64 8, .int .u8 s] 56)).cell? ⟨g, o + l1 * 2, none⟩ = some (.string x0) := by rw [below_cell BA.out hg]; exact p0
    have d1 : (w.alloc (.cells #[.int .i64 8, .int .u8 s] 56)).cell? ⟨g, o + l1 * 2 + 1, none⟩ = some (.int .i64 (t0 : Int)) := by rw [below_cell BA.out hg]; exact p1
    have zy := wth_size x0 t0 5
    obtain ⟨y, hy⟩ : ∃ y, wth x0 t0 5 = y := ⟨_, rfl⟩
    have HY : Hid (wth x0 t0 5 = y) := hy
    rw [hy] at zy ⊢
    have k1 := fun W => run_string_add_sum (P := Tryd.prog) W y { data := #[42] } (by show y.size + 1 ≤ _; omega)
    rw [hl1] at hcap hl ⊢
    have hlI : ((l1 + 1 : Nat) : Int) - 1 = l1 := by omega
    have hlc2 : (l1 : Int) < ((l1 + 1 : Nat) : Int) := by omega
    clear p0 p1 eL har har2 hl1 HE HR hy
    go_enter Tryd.func27, Tryd.ntmps27
    go_wp2_with fail
    refine (within_any x0 t0 5 (by omega) _).mono ?_
    rintro e w2 ⟨rfl, hb2⟩
    rw [HY.out]
    have HB2 : Hid (Below w.heap.size w w2) := go_on BA.out hb2
    clear hb2
    go_wp2_with fail
    go_ret2
    exact ⟨rfl, HB2.out⟩
  · have ct : (w.alloc (.cells #[.int .i64 9, .int .u8 s] 56)).cell? ⟨0, 9, none⟩ = some (.int .i64 4) := CT.out 9 (by decide)
    have har2 : 1 ≤ ws.length := har
    obtain ⟨l1, hl1⟩ : ∃ l1, ws.length = l1 + 1 := ⟨ws.length - 1, by omega⟩
    have HE : Hid (textF (9, s) ws = { data := #[33] } ++ wth (lastW ws).1 (lastW ws).2 4) := rfl
    rw [HE.out]
    obtain ⟨g, o, rfl, hg, p0, p1⟩ := HR.out l1 (by omega)
    have z0 := HS.out l1
    have eL : lastW ws = ws.getD l1 noWr := by rw [lastW, hl1]; rfl
    rw [eL]
    generalize ws.getD l1 noWr = wp at *
    obtain ⟨x0, t0⟩ := wp
    simp only at p0 p1 z0 ⊢
    have d0 : (w.alloc (.cells #[.int .i64 9, .int .u8 s] 56)).cell? ⟨g, o + l1 * 2, none⟩ = some (.string x0) := by rw [below_cell BA.out hg]; exact p0
    have d1 : (w.alloc (.cells #[.int .i64 9, .int .u8 s] 56)).cell? ⟨g, o + l1 * 2 + 1, none⟩ = some (.int .i64 (t0 : Int)) := by rw [below_cell BA.out hg]; exact p1
    have zy := wth_size x0 t0 4
    obtain ⟨y, hy⟩ : ∃ y, wth x0 t0 4 = y := ⟨_, rfl⟩
    have HY : Hid (wth x0 t0 4 = y) := hy
    rw [hy] at zy ⊢
    have k1 := fun W => run_string_add_sum (P := Tryd.prog) W { data := #[33] } y (by show 1 + y.size ≤ _; omega)
    rw [hl1] at hcap hl ⊢
    have hlI : ((l1 + 1 : Nat) : Int) - 1 = l1 := by omega
    have hlc2 : (l1 : Int) < ((l1 + 1 : Nat) : Int) := by omega
    clear p0 p1 eL har har2 hl1 HE HR hy
    go_enter Tryd.func27, Tryd.ntmps27
    go_wp2_with fail
    refine (within_any x0 t0 4 (by omega) _).mono ?_
    rintro e w2 ⟨rfl, hb2⟩
    rw [HY.out]
    have HB2 : Hid (Below w.heap.size w w2) := go_on BA.out hb2
    clear hb2
    go_wp2_with fail
    go_ret2
    exact ⟨rfl, HB2.out⟩
end Go.Proofs.YtjonlmafhijcoaaDoor
