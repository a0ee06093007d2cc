/- terms.Parse where the text is right and the sides are too long. -/
import Derived.Test.YthhlamehbcidgaaY22
namespace Go.Proofs.Ythhlamehbcidgaa
open Go Go.RowKit Go.Lib
set_option linter.unusedVariables false

set_option maxHeartbeats 8000000 in
set_option maxRecDepth 100000 in
theorem parse_size {s : ByteArray} (hs : s.size ≤ 1000) {L R : Sg} {x : Bool} (hr : idP s = some (L, R, x)) (hbl : ∀ p ∈ L, p.2 < 256) (hbr : ∀ p ∈ R, p.2 < 256) (hll : (intS L).length ≤ 9223372036854775807 ∧ (intS R).length ≤ 9223372036854775807) {er : Int} (hck : ck2 (intS L) (intS R) = er) (her : er ≠ 0) (w : World) :
    Calls Try.prog 8 #[.string s] w (PbQ 0 er w) := by
  have hmf : ∀ (fn : Fn) (first cap : Array Value) (w : World), (Instr.makeFunc fn first cap).run Try.prog w = .ok (.func fn first cap) w := fun _ _ _ _ => rfl
  have hsI : ¬ ((1000 : Int) < s.size) := by omega
  have hsd : decide ((1000 : Int) < s.size) = false := decide_eq_false hsI
  obtain ⟨w5, hw5⟩ : ∃ w5, w5 = (((((w.alloc (.cells #[.slice none 0 0, .slice none 0 0, .bool false] 24)).alloc (.cells #[.int .i64 0] 3)).alloc (.cells #[.int .i64 0] 25)).alloc (.cells #[.string s, .int .i64 0, .slice none 0 0] 72)).alloc (.cells #[.pointer (some ⟨w.heap.size + 1 + 1 + 1, 0, none⟩)] 70)) := ⟨_, rfl⟩
  have HW5 : Hid (w5 = (((((w.alloc (.cells #[.slice none 0 0, .slice none 0 0, .bool false] 24)).alloc (.cells #[.int .i64 0] 3)).alloc (.cells #[.int .i64 0] 25)).alloc (.cells #[.string s, .int .i64 0, .slice none 0 0] 72)).alloc (.cells #[.pointer (some ⟨w.heap.size + 1 + 1 + 1, 0, none⟩)] 70))) := hw5
  have hb5 : Below w.heap.size w w5 := by rw [hw5]; exact go_on (go_on (go_on (go_on (below_new _ _) (below_new _ _)) (below_new _ _)) (below_new _ _)) (below_new _ _)
  have HB5 : Hid (Below w.heap.size w w5) := hb5
  have HSZ : Hid (w5.heap.size = w.heap.size + 5) := by show _ = _; rw [hw5]; simp
  have hA : IB w5 w.heap.size (.slice none 0 0) (.slice none 0 0) false := by
    rw [hw5]
    exact (heap_allo (by simp <;> omega) _).trans ((heap_allo (by simp <;> omega) _).trans ((heap_allo (by simp <;> omega) _).trans ((heap_allo (by simp) _).trans (heap_last _ _))))
  have hBc : w5.heap[w.heap.size + 1]? = some (.cells #[.int .i64 0] 3 (0, 0)) := by
    have h0 := heap_last (w.alloc (.cells #[.slice none 0 0, .slice none 0 0, .bool false] 24)) (.cells #[.int .i64 0] 3)
    rw [World.size_alloc] at h0
    rw [hw5]
    exact (heap_allo (by simp <;> omega) _).trans ((heap_allo (by simp <;> omega) _).trans ((heap_allo (by simp) _).trans h0))
  have hCc : w5.heap[w.heap.size + 1 + 1]? = some (.cells #[.int .i64 0] 25 (0, 0)) := by
    have h0 := heap_last ((w.alloc (.cells #[.slice none 0 0, .slice none 0 0, .bool false] 24)).alloc (.cells #[.int .i64 0] 3)) (.cells #[.int .i64 0] 25)
    rw [World.size_alloc, World.size_alloc] at h0
    rw [hw5]
    exact (heap_allo (by simp <;> omega) _).trans ((heap_allo (by simp) _).trans h0)
  have hD : RD w.heap.size w5 (w.heap.size + 1 + 1 + 1) s 0 (.slice none 0 0) [] := by
    have h0 := heap_last (((w.alloc (.cells #[.slice none 0 0, .slice none 0 0, .bool false] 24)).alloc (.cells #[.int .i64 0] 3)).alloc (.cells #[.int .i64 0] 25)) (.cells #[.string s, .int .i64 0, .slice none 0 0] 72)
    rw [World.size_alloc, World.size_alloc, World.size_alloc] at h0
    refine ⟨?_, World.ownsRow_nil _ _ _ _, by omega, Nat.zero_le _⟩
    rw [hw5]
    exact (heap_allo (by simp) _).trans h0
  have HID : Hid (Calls Try.prog 29 #[.pointer (some ⟨w.heap.size + 1 + 1 + 1, 0, none⟩)] w5 (IdQ w.heap.size (w.heap.size + 1 + 1 + 1) L R x w5)) := identity_ok hs hD hr
  have HA : Hid (IB w5 w.heap.size (.slice none 0 0) (.slice none 0 0) false) := hA
  have HBc : Hid (w5.heap[w.heap.size + 1]? = some (.cells #[.int .i64 0] 3 (0, 0))) := hBc
  have HCc : Hid (w5.heap[w.heap.size + 1 + 1]? = some (.cells #[.int .i64 0] 25 (0, 0))) := hCc
  have HCK : Hid (ck2 (intS L) (intS R) = er) := hck
  have HER : Hid (er ≠ 0) := her
  have HLT : Hid ((∀ p ∈ L, p.2 < 256) ∧ ∀ p ∈ R, p.2 < 256) := ⟨hbl, hbr⟩
  have HLEN : Hid ((intS L).length ≤ 9223372036854775807 ∧ (intS R).length ≤ 9223372036854775807) := hll
  clear hw5 hb5 hA hBc hCc hD hr hck hbl hbr hll her
  go_enter_defers Try.func8, Try.ntmps8
  go_wp2_with fail
  rw [← HW5.out]
  refine Calls.mono HID.out ?_
  rintro e w6 ⟨vl, vr, rfl, hl, hr, ho, hsep, hfr⟩
  obtain ⟨a1, c1, rfl⟩ := own_shape hl
  obtain ⟨a2, c2, rfl⟩ := own_shape hr
  have hA6 : IB w6 w.heap.size (.slice none 0 0) (.slice none 0 0) false := HA.out.only ho (by omega)
  have hB6 : w6.heap[w.heap.size + 1]? = some (.cells #[.int .i64 0] 3 (0, 0)) := (ho.block _ (by have := HSZ.out; omega) (by omega)).trans HBc.out
  have hC6 : w6.heap[w.heap.size + 1 + 1]? = some (.cells #[.int .i64 0] 25 (0, 0)) := (ho.block _ (by have := HSZ.out; omega) (by omega)).trans HCc.out
  have p0 : w6.cell? ⟨w.heap.size, 0, none⟩ = some (.slice none 0 0) := cell_at hA6 rfl
  have p1 : w6.cell? ⟨w.heap.size, 1, none⟩ = some (.slice none 0 0) := cell_at hA6 rfl
  have p2 : w6.cell? ⟨w.heap.size, 2, none⟩ = some (.bool false) := cell_at hA6 rfl
  have pf : ∀ j, w6.frozen? ⟨w.heap.size, j, none⟩ = false := fun j => froz_of hA6
  obtain ⟨w7, hw7⟩ : ∃ w7, w7 = ((w6.setCell ⟨w.heap.size, 0, none⟩ (.slice a1 L.length c1)).setCell ⟨w.heap.size, 1, none⟩ (.slice a2 R.length c2)).setCell ⟨w.heap.size, 2, none⟩ (.bool x) := ⟨_, rfl⟩
  have HW7 : Hid (w7 = ((w6.setCell ⟨w.heap.size, 0, none⟩ (.slice a1 L.length c1)).setCell ⟨w.heap.size, 1, none⟩ (.slice a2 R.length c2)).setCell ⟨w.heap.size, 2, none⟩ (.bool x)) := hw7
  have hn7 : ∀ b, b ≠ w.heap.size → w7.heap[b]? = w6.heap[b]? := fun b hb => by rw [hw7, heap_set_other hb, heap_set_other hb, heap_set_other hb]
  have hs5 := HSZ.out
  have hA7 : IB w7 w.heap.size (.slice a1 L.length c1) (.slice a2 R.length c2) x := by
    show _ = _
    rw [hw7]
    exact heap_set (heap_set (heap_set hA6))
  have HL7 : Hid (w7.ownsRow w.heap.size 81 2 (.slice a1 L.length c1) L.length (sgC L)) := own_keep hl (fun b cur hb hc => hn7 b (by have := (hsep b hb).1; omega))
  have HR7 : Hid (w7.ownsRow w.heap.size 81 2 (.slice a2 R.length c2) R.length (sgC R)) := own_keep hr (fun b cur hb hc => hn7 b (by have := hfr b hb; omega))
  have HB7 : Hid (w7.heap[w.heap.size + 1]? = some (.cells #[.int .i64 0] 3 (0, 0))) := (hn7 _ (by omega)).trans hB6
  have HC7 : Hid (w7.heap[w.heap.size + 1 + 1]? = some (.cells #[.int .i64 0] 25 (0, 0))) := (hn7 _ (by omega)).trans hC6
  have HA7 : Hid (IB w7 w.heap.size (.slice a1 L.length c1) (.slice a2 R.length c2) x) := hA7
  have HSEP : Hid ((∀ b, (Value.slice a1 L.length c1).ownBlock = some b → w5.heap.size ≤ b ∧ (Value.slice a2 R.length c2).ownBlock ≠ some b) ∧ ∀ b, (Value.slice a2 R.length c2).ownBlock = some b → w5.heap.size ≤ b) := ⟨hsep, hfr⟩
  have HBE7 : Hid (Below w.heap.size w w7) := by
    have h6 : Below w.heap.size w w6 := ho.below HB5.out (by omega) (fun j hj => by omega)
    show Below _ _ _
    rw [hw7]
    exact ((h6.setCell (p := ⟨w.heap.size, 0, none⟩) (Nat.le_refl _) _).setCell (p := ⟨w.heap.size, 1, none⟩) (Nat.le_refl _) _).setCell (p := ⟨w.heap.size, 2, none⟩) (Nat.le_refl _) _
  have HCH : Hid (Calls Try.prog 21 #[.agg #[.slice a1 L.length c1, .slice a2 R.length c2, .bool x]] w7 fun e w' => e = .returned (.int .i64 er) ∧ Below w7.heap.size w7 w') := by
    have := tCheck_any (.slice a1 L.length c1) (.slice a2 R.length c2) x (intS L) (intS R) w7 (row_sgr HL7.out HLT.out.1) (row_sgr HR7.out HLT.out.2) HLEN.out.1 HLEN.out.2
    rw [HCK.out] at this
    exact this
  clear hl hr ho hsep hfr hA6 hB6 hC6 hw7 hn7 hA7 HW5 HA HBc HCc HID
  go_wp2_with fail
  rw [← HW7.out]
  clear p0 p1 p2 pf HW7
  refine Calls.mono HCH.out ?_
  rintro e w8 ⟨rfl, hb8⟩
  have HA8 : Hid (IB w8 w.heap.size (.slice a1 L.length c1) (.slice a2 R.length c2) x) := (hb8.block _ HA7.out.lt).trans HA7.out
  have HB8 : Hid (w8.heap[w.heap.size + 1]? = some (.cells #[.int .i64 0] 3 (0, 0))) := (hb8.block _ (Array.getElem?_eq_some_iff.1 HB7.out).1).trans HB7.out
  have HC8 : Hid (w8.heap[w.heap.size + 1 + 1]? = some (.cells #[.int .i64 0] 25 (0, 0))) := (hb8.block _ (Array.getElem?_eq_some_iff.1 HC7.out).1).trans HC7.out
  have HL8 : Hid (w8.ownsRow w.heap.size 81 2 (.slice a1 L.length c1) L.length (sgC L)) := own_below HL7.out hb8
  have HR8 : Hid (w8.ownsRow w.heap.size 81 2 (.slice a2 R.length c2) R.length (sgC R)) := own_below HR7.out hb8
  have HBE8 : Hid (Below w.heap.size w w8) := go_on HBE7.out hb8
  have p0 : w8.cell? ⟨w.heap.size, 0, none⟩ = some (.slice a1 L.length c1) := cell_at HA8.out rfl
  have p1 : w8.cell? ⟨w.heap.size, 1, none⟩ = some (.slice a2 R.length c2) := cell_at HA8.out rfl
  have p2 : w8.cell? ⟨w.heap.size, 2, none⟩ = some (.bool x) := cell_at HA8.out rfl
  have pf : ∀ j, w8.frozen? ⟨w.heap.size, j, none⟩ = false := fun j => froz_of HA8.out
  have q0 : w8.cell? ⟨w.heap.size + 1, 0, none⟩ = some (.int .i64 0) := cell_at HB8.out rfl
  have qf : ∀ j, w8.frozen? ⟨w.heap.size + 1, j, none⟩ = false := fun j => froz_of HB8.out
  have r0 : w8.cell? ⟨w.heap.size + 1 + 1, 0, none⟩ = some (.int .i64 0) := cell_at HC8.out rfl
  have rf : ∀ j, w8.frozen? ⟨w.heap.size + 1 + 1, j, none⟩ = false := fun j => froz_of HC8.out
  clear hb8 HA7 HB7 HC7 HL7 HR7 HBE7 HCH
  have hneb : (er != 0) = true := by rw [bne_iff_ne]; exact HER.out
  have hned : decide (er ≠ 0) = true := decide_eq_true HER.out
  have hneq : ¬ er = 0 := HER.out
  obtain ⟨w9, hw9⟩ : ∃ w9, w9 = (w8.setCell ⟨w.heap.size + 1 + 1, 0, none⟩ (.int .i64 er)) := ⟨_, rfl⟩
  have HW9 : Hid (w9 = (w8.setCell ⟨w.heap.size + 1 + 1, 0, none⟩ (.int .i64 er))) := hw9
  have HA9 : Hid (IB w9 w.heap.size (.slice a1 L.length c1) (.slice a2 R.length c2) x) := by
    show _ = _
    rw [hw9]
    exact (heap_set_other (by omega)).trans HA8.out
  have HB9 : Hid (w9.heap[w.heap.size + 1]? = some (.cells #[.int .i64 0] 3 (0, 0))) := by
    show _ = _
    rw [hw9]
    exact (heap_set_other (by omega)).trans HB8.out
  have HC9 : Hid (w9.heap[w.heap.size + 1 + 1]? = some (.cells #[.int .i64 er] 25 (0, 0))) := by
    show _ = _
    rw [hw9]
    exact heap_set HC8.out
  have HBE9 : Hid (Below w.heap.size w w9) := by
    show Below _ _ _
    rw [hw9]
    exact HBE8.out.setCell (p := ⟨w.heap.size + 1 + 1, 0, none⟩) (by show w.heap.size ≤ w.heap.size + 1 + 1; omega) _
  clear hw9
  go_upto_region 7 with fail
  rw [← HW9.out]
  clear p0 p1 p2 pf q0 qf r0 rf
  have p0 : w9.drew.cell? ⟨w.heap.size, 0, none⟩ = some (.slice a1 L.length c1) := cell_at HA9.out rfl
  have p1 : w9.drew.cell? ⟨w.heap.size, 1, none⟩ = some (.slice a2 R.length c2) := cell_at HA9.out rfl
  have p2 : w9.drew.cell? ⟨w.heap.size, 2, none⟩ = some (.bool x) := cell_at HA9.out rfl
  have pf : ∀ j, w9.drew.frozen? ⟨w.heap.size, j, none⟩ = false := fun j => froz_of HA9.out
  have q0 : w9.drew.cell? ⟨w.heap.size + 1, 0, none⟩ = some (.int .i64 0) := cell_at HB9.out rfl
  have qf : ∀ j, w9.drew.frozen? ⟨w.heap.size + 1, j, none⟩ = false := fun j => froz_of HB9.out
  have r0 : w9.drew.cell? ⟨w.heap.size + 1 + 1, 0, none⟩ = some (.int .i64 er) := cell_at HC9.out rfl
  have rf : ∀ j, w9.drew.frozen? ⟨w.heap.size + 1 + 1, j, none⟩ = false := fun j => froz_of HC9.out
  have r9 : w9.cell? ⟨w.heap.size + 1 + 1, 0, none⟩ = some (.int .i64 er) := r0
  have p09 : w9.cell? ⟨w.heap.size, 0, none⟩ = some (.slice a1 L.length c1) := p0
  have p19 : w9.cell? ⟨w.heap.size, 1, none⟩ = some (.slice a2 R.length c2) := p1
  have p29 : w9.cell? ⟨w.heap.size, 2, none⟩ = some (.bool x) := p2
  have pf9 : ∀ j, w9.frozen? ⟨w.heap.size, j, none⟩ = false := pf
  have q09 : w9.cell? ⟨w.heap.size + 1, 0, none⟩ = some (.int .i64 0) := q0
  have qf9 : ∀ j, w9.frozen? ⟨w.heap.size + 1, j, none⟩ = false := qf
  have rf9 : ∀ j, w9.frozen? ⟨w.heap.size + 1 + 1, j, none⟩ = false := rf
  go_wp2_with fail
  go_region
  clear p0 p1 p2 pf q0 qf r0 rf r9 p09 p19 p29 pf9 q09 qf9 rf9
  go_wp2_with fail
  refine leaves_cons (f := 28) (args := #[.pointer (some ⟨w.heap.size + 1 + 1 + 1 + 1, 0, none⟩), .pointer (some ⟨w.heap.size, 0, none⟩), .pointer (some ⟨w.heap.size + 1, 0, none⟩), .pointer (some ⟨w.heap.size + 1 + 1, 0, none⟩)]) (by simp) (by simp [go_sem]) ?_
  refine (catch_idle _ _ _ _ _).mono ?_
  rintro e u' w'' ⟨rfl, rfl, rfl⟩
  obtain ⟨wG, hwG⟩ : ∃ wG, wG = ((((w9.setCell ⟨w.heap.size, 0, none⟩ (.slice none 0 0)).setCell ⟨w.heap.size, 1, none⟩ (.slice none 0 0)).setCell ⟨w.heap.size, 2, none⟩ (.bool false)).setCell ⟨w.heap.size + 1, 0, none⟩ (.int .i64 0)).setCell ⟨w.heap.size + 1 + 1, 0, none⟩ (.int .i64 er) := ⟨_, rfl⟩
  have hAG : wG.heap[w.heap.size]? = some (.cells #[.slice none 0 0, .slice none 0 0, .bool false] 24 (0, 0)) := by
    rw [hwG, heap_set_other (by omega), heap_set_other (by omega)]
    exact heap_set (heap_set (heap_set HA9.out))
  have hBG : wG.heap[w.heap.size + 1]? = some (.cells #[.int .i64 0] 3 (0, 0)) := by
    rw [hwG, heap_set_other (by omega)]
    have h0 : (((w9.setCell ⟨w.heap.size, 0, none⟩ (.slice none 0 0)).setCell ⟨w.heap.size, 1, none⟩ (.slice none 0 0)).setCell ⟨w.heap.size, 2, none⟩ (.bool false)).heap[w.heap.size + 1]? = some (.cells #[.int .i64 0] 3 (0, 0)) := by
      rw [heap_set_other (by omega), heap_set_other (by omega), heap_set_other (by omega)]
      exact HB9.out
    exact heap_set h0
  have hCG : wG.heap[w.heap.size + 1 + 1]? = some (.cells #[.int .i64 er] 25 (0, 0)) := by
    rw [hwG]
    have h0 : ((((w9.setCell ⟨w.heap.size, 0, none⟩ (.slice none 0 0)).setCell ⟨w.heap.size, 1, none⟩ (.slice none 0 0)).setCell ⟨w.heap.size, 2, none⟩ (.bool false)).setCell ⟨w.heap.size + 1, 0, none⟩ (.int .i64 0)).heap[w.heap.size + 1 + 1]? = some (.cells #[.int .i64 er] 25 (0, 0)) := by
      rw [heap_set_other (by omega), heap_set_other (by omega), heap_set_other (by omega), heap_set_other (by omega)]
      exact HC9.out
    exact heap_set h0
  have hbG : Below w.heap.size w wG := by
    rw [hwG]
    exact ((((HBE9.out.setCell (p := ⟨w.heap.size, 0, none⟩) (Nat.le_refl _) _).setCell (p := ⟨w.heap.size, 1, none⟩) (Nat.le_refl _) _).setCell (p := ⟨w.heap.size, 2, none⟩) (Nat.le_refl _) _).setCell (p := ⟨w.heap.size + 1, 0, none⟩) (by show w.heap.size ≤ w.heap.size + 1; omega) _).setCell (p := ⟨w.heap.size + 1 + 1, 0, none⟩) (by show w.heap.size ≤ w.heap.size + 1 + 1; omega) _
  obtain ⟨wF, hwF⟩ : ∃ wF, wF = wG.drew := ⟨_, rfl⟩
  have hAF : wF.heap[w.heap.size]? = some (.cells #[.slice none 0 0, .slice none 0 0, .bool false] 24 (0, 0)) := by rw [hwF]; exact hAG
  have hBF : wF.heap[w.heap.size + 1]? = some (.cells #[.int .i64 0] 3 (0, 0)) := by rw [hwF]; exact hBG
  have hCF : wF.heap[w.heap.size + 1 + 1]? = some (.cells #[.int .i64 er] 25 (0, 0)) := by rw [hwF]; exact hCG
  have hbF : Below w.heap.size w wF := by rw [hwF]; exact hbG.drew
  have hBc0 : wF.cell? ⟨w.heap.size + 1, 0, none⟩ = some (.int .i64 0) := cell_at hBF rfl
  have hCc0 : wF.cell? ⟨w.heap.size + 1 + 1, 0, none⟩ = some (.int .i64 er) := cell_at hCF rfl
  have hld := run_loadVar_row (P := Try.prog) wF w.heap.size 24 24 _ (0, 0) _ hAF Try.underlying24 rfl (by rw [Try.info_id]; rfl)
  rw [← hwG, ← hwF]
  clear hwF hwG
  refine ⟨.tuple #[.agg #[.slice none 0 0, .slice none 0 0, .bool false], .int .i64 0, .int .i64 er], ?_, rfl, hbF⟩
  have e0 : wF.cell? ⟨w.heap.size, 0, none⟩ = some (.slice none 0 0) := cell_at hAF rfl
  have e1 : wF.cell? ⟨w.heap.size, 1, none⟩ = some (.slice none 0 0) := cell_at hAF rfl
  have e2 : wF.cell? ⟨w.heap.size, 2, none⟩ = some (.bool false) := cell_at hAF rfl
  simp [results, Try.results8, asAddr, go_sem, hBc0, hCc0, e0, e1, e2]
end Go.Proofs.Ythhlamehbcidgaa
