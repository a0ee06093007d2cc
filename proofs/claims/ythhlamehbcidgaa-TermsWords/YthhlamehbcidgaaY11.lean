/- terms.Parse, where the text is right. -/
import Derived.Test.YthhlamehbcidgaaY10
import Derived.Defers
import Derived.Recover
import Derived.Tactics
import Derived.Tactics2
namespace Go.Proofs.Ythhlamehbcidgaa
open Go Go.RowKit Go.Lib
set_option linter.unusedVariables false

def intS (L : Sg) : List (Int × Nat) := L.map fun p => ((p.1 : Int), p.2)
theorem row_sgr {base : Nat} {w : World} {v : Value} {L : Sg} (h : w.ownsRow base 81 2 v L.length (sgC L)) (hb : ∀ p ∈ L, p.2 < 256) : SgR w v (intS L) := by
  obtain ⟨a, cap, rfl⟩ := own_shape h
  refine ⟨a, cap, by simp [intS], fun i hi => ?_⟩
  have hi' : i < L.length := by simpa [intS] using hi
  rcases h.2 with ⟨_, q⟩ | ⟨g, cap', cur, e, hbs, hc, q1, q2, q3, q4⟩
  · omega
  · simp only [Value.slice.injEq] at e
    obtain ⟨rfl, _, rfl⟩ := e
    have hsg : ∀ (L : Sg) (i : Nat) (hi : i < L.length), (sgC L)[i * 2]? = some (.int .i64 ((L[i].1 : Nat) : Int)) ∧ (sgC L)[i * 2 + 1]? = some (.int .u8 ((L[i].2 : Nat) : Int)) := by
      intro L
      induction L with
      | nil => intro i hi; simp at hi
      | cons a L ih =>
        intro i hi
        cases i with
        | zero => simp [sgC]
        | succ i =>
          have := ih i (by simpa using hi)
          unfold sgC at this ⊢
          rw [List.flatMap_cons]
          rw [show (i + 1) * 2 = i * 2 + 1 + 1 by omega]
          simpa using this
    obtain ⟨z1, z2⟩ := hsg L i hi'
    have hcell : ∀ j, j < L.length * 2 → w.cell? ⟨g, j, none⟩ = (sgC L)[j]? := fun j hj => by
      rw [cell_of_row _ _ _ _ _ _ hc, ← q4, List.getElem?_take, if_pos hj]
      simp
    have hgd : (intS L).getD i (0, 0) = ((L[i].1 : Int), L[i].2) := by
      rw [List.getD_eq_getElem?_getD, List.getElem?_eq_getElem hi]
      simp [intS]
    rw [hgd]
    refine ⟨g, 0, rfl, (Array.getElem?_eq_some_iff.1 hc).1, ?_, ?_, hb _ (List.getElem_mem hi')⟩
    · rw [Nat.zero_add, hcell _ (by omega), z1]
    · rw [Nat.zero_add, hcell _ (by omega), z2]

theorem catch_idle (p0 p1 p2 p3 : Value) (w : World) :
    CallsD Try.prog 28 #[p0, p1, p2, p3] .returning w fun e u' w' => e = .returned (.tuple #[]) ∧ u' = .returning ∧ w' = w := by
  refine callsD_of_wpS Try.func28 rfl fun c₀ cs hu => ?_
  apply wpS_seq
  apply wpS_region
  simp [wpOpsS, go_sem, recoverD, hu, Try.ntmps28, Exit.thenS]
  refine wpS_cond (t := false) (by simp [Act.eval, Array.replicate]) ?_
  simp only [Bool.false_eq_true, if_false]
  refine wpS_of_wp (wp_skip ?_)
  cases c₀
  simp_all [bodyPostS, results, Try.results28]

/-- What Parse answers of a text that is right. -/
def PaQ (L R : Sg) (x : Bool) (w : World) (e : Ending) (w' : World) : Prop :=
  ∃ vl vr, e = .returned (.tuple #[.agg #[vl, vr, .bool x], .int .i64 0, .int .i64 0]) ∧ w'.ownsRow w.heap.size 81 2 vl L.length (sgC L) ∧ w'.ownsRow w.heap.size 81 2 vr R.length (sgC R) ∧ Below w.heap.size w w' ∧ ∀ b, vl.ownBlock = some b → vr.ownBlock ≠ some b

set_option maxHeartbeats 8000000 in
set_option maxRecDepth 100000 in
theorem parse_ok {s : ByteArray} (hs : s.size ≤ 1000) {L R : Sg} {x : Bool} (hr : idP s = some (L, R, x)) (hbl : ∀ p ∈ L, p.2 < 256) (hbr : ∀ p ∈ R, p.2 < 256) (hck : ck2 (intS L) (intS R) = 0) (w : World) :
    Calls Try.prog 8 #[.string s] w (PaQ L R x w) := by
  have hmf : ∀ (fn : Fn) (first cap : Array Value) (w : World), (Instr.makeFunc fn first cap).run Try.prog w = .ok (.func fn first cap) w := fun _ _ _ _ => rfl
  have hsI : ¬ ((1000 : Int) < s.size) := by omega
  have hsd : decide ((1000 : Int) < s.size) = false := decide_eq_false hsI
  obtain ⟨w5, hw5⟩ : ∃ w5, w5 = (((((w.alloc (.cells #[.slice none 0 0, .slice none 0 0, .bool false] 24)).alloc (.cells #[.int .i64 0] 3)).alloc (.cells #[.int .i64 0] 25)).alloc (.cells #[.string s, .int .i64 0, .slice none 0 0] 72)).alloc (.cells #[.pointer (some ⟨w.heap.size + 1 + 1 + 1, 0, none⟩)] 70)) := ⟨_, rfl⟩
  have HW5 : Hid (w5 = (((((w.alloc (.cells #[.slice none 0 0, .slice none 0 0, .bool false] 24)).alloc (.cells #[.int .i64 0] 3)).alloc (.cells #[.int .i64 0] 25)).alloc (.cells #[.string s, .int .i64 0, .slice none 0 0] 72)).alloc (.cells #[.pointer (some ⟨w.heap.size + 1 + 1 + 1, 0, none⟩)] 70))) := hw5
  have hb5 : Below w.heap.size w w5 := by rw [hw5]; exact go_on (go_on (go_on (go_on (below_new _ _) (below_new _ _)) (below_new _ _)) (below_new _ _)) (below_new _ _)
  have HB5 : Hid (Below w.heap.size w w5) := hb5
  have HSZ : Hid (w5.heap.size = w.heap.size + 5) := by show _ = _; rw [hw5]; simp
  have hA : IB w5 w.heap.size (.slice none 0 0) (.slice none 0 0) false := by
    rw [hw5]
    exact (heap_allo (by simp <;> omega) _).trans ((heap_allo (by simp <;> omega) _).trans ((heap_allo (by simp <;> omega) _).trans ((heap_allo (by simp) _).trans (heap_last _ _))))
  have hBc : w5.heap[w.heap.size + 1]? = some (.cells #[.int .i64 0] 3 (0, 0)) := by
    have h0 := heap_last (w.alloc (.cells #[.slice none 0 0, .slice none 0 0, .bool false] 24)) (.cells #[.int .i64 0] 3)
    rw [World.size_alloc] at h0
    rw [hw5]
    exact (heap_allo (by simp <;> omega) _).trans ((heap_allo (by simp <;> omega) _).trans ((heap_allo (by simp) _).trans h0))
  have hCc : w5.heap[w.heap.size + 1 + 1]? = some (.cells #[.int .i64 0] 25 (0, 0)) := by
    have h0 := heap_last ((w.alloc (.cells #[.slice none 0 0, .slice none 0 0, .bool false] 24)).alloc (.cells #[.int .i64 0] 3)) (.cells #[.int .i64 0] 25)
    rw [World.size_alloc, World.size_alloc] at h0
    rw [hw5]
    exact (heap_allo (by simp <;> omega) _).trans ((heap_allo (by simp) _).trans h0)
  have hD : RD w.heap.size w5 (w.heap.size + 1 + 1 + 1) s 0 (.slice none 0 0) [] := by
    have h0 := heap_last (((w.alloc (.cells #[.slice none 0 0, .slice none 0 0, .bool false] 24)).alloc (.cells #[.int .i64 0] 3)).alloc (.cells #[.int .i64 0] 25)) (.cells #[.string s, .int .i64 0, .slice none 0 0] 72)
    rw [World.size_alloc, World.size_alloc, World.size_alloc] at h0
    refine ⟨?_, World.ownsRow_nil _ _ _ _, by omega, Nat.zero_le _⟩
    rw [hw5]
    exact (heap_allo (by simp) _).trans h0
  have HID : Hid (Calls Try.prog 29 #[.pointer (some ⟨w.heap.size + 1 + 1 + 1, 0, none⟩)] w5 (IdQ w.heap.size (w.heap.size + 1 + 1 + 1) L R x w5)) := identity_ok hs hD hr
  have HA : Hid (IB w5 w.heap.size (.slice none 0 0) (.slice none 0 0) false) := hA
  have HBc : Hid (w5.heap[w.heap.size + 1]? = some (.cells #[.int .i64 0] 3 (0, 0))) := hBc
  have HCc : Hid (w5.heap[w.heap.size + 1 + 1]? = some (.cells #[.int .i64 0] 25 (0, 0))) := hCc
  have HCK : Hid (ck2 (intS L) (intS R) = 0) := hck
  have HLT : Hid ((∀ p ∈ L, p.2 < 256) ∧ ∀ p ∈ R, p.2 < 256) := ⟨hbl, hbr⟩
  have HLEN : Hid ((intS L).length ≤ 9223372036854775807 ∧ (intS R).length ≤ 9223372036854775807) := by
    unfold ck2 at hck
    by_cases c : 400 < (intS L).length ∨ 400 < (intS R).length
    · rw [if_pos c] at hck; cases hck
    · show _ ∧ _; omega
  clear hw5 hb5 hA hBc hCc hD hr hck hbl hbr
  go_enter_defers Try.func8, Try.ntmps8
  go_wp2_with fail
  rw [← HW5.out]
  refine Calls.mono HID.out ?_
  rintro e w6 ⟨vl, vr, rfl, hl, hr, ho, hsep, hfr⟩
  obtain ⟨a1, c1, rfl⟩ := own_shape hl
  obtain ⟨a2, c2, rfl⟩ := own_shape hr
  have hA6 : IB w6 w.heap.size (.slice none 0 0) (.slice none 0 0) false := HA.out.only ho (by omega)
  have hB6 : w6.heap[w.heap.size + 1]? = some (.cells #[.int .i64 0] 3 (0, 0)) := (ho.block _ (by have := HSZ.out; omega) (by omega)).trans HBc.out
  have hC6 : w6.heap[w.heap.size + 1 + 1]? = some (.cells #[.int .i64 0] 25 (0, 0)) := (ho.block _ (by have := HSZ.out; omega) (by omega)).trans HCc.out
  have p0 : w6.cell? ⟨w.heap.size, 0, none⟩ = some (.slice none 0 0) := cell_at hA6 rfl
  have p1 : w6.cell? ⟨w.heap.size, 1, none⟩ = some (.slice none 0 0) := cell_at hA6 rfl
  have p2 : w6.cell? ⟨w.heap.size, 2, none⟩ = some (.bool false) := cell_at hA6 rfl
  have pf : ∀ j, w6.frozen? ⟨w.heap.size, j, none⟩ = false := fun j => froz_of hA6
  obtain ⟨w7, hw7⟩ : ∃ w7, w7 = ((w6.setCell ⟨w.heap.size, 0, none⟩ (.slice a1 L.length c1)).setCell ⟨w.heap.size, 1, none⟩ (.slice a2 R.length c2)).setCell ⟨w.heap.size, 2, none⟩ (.bool x) := ⟨_, rfl⟩
  have HW7 : Hid (w7 = ((w6.setCell ⟨w.heap.size, 0, none⟩ (.slice a1 L.length c1)).setCell ⟨w.heap.size, 1, none⟩ (.slice a2 R.length c2)).setCell ⟨w.heap.size, 2, none⟩ (.bool x)) := hw7
  have hn7 : ∀ b, b ≠ w.heap.size → w7.heap[b]? = w6.heap[b]? := fun b hb => by rw [hw7, heap_set_other hb, heap_set_other hb, heap_set_other hb]
  have hs5 := HSZ.out
  have hA7 : IB w7 w.heap.size (.slice a1 L.length c1) (.slice a2 R.length c2) x := by
    show _ = _
    rw [hw7]
    exact heap_set (heap_set (heap_set hA6))
  have HL7 : Hid (w7.ownsRow w.heap.size 81 2 (.slice a1 L.length c1) L.length (sgC L)) := own_keep hl (fun b cur hb hc => hn7 b (by have := (hsep b hb).1; omega))
  have HR7 : Hid (w7.ownsRow w.heap.size 81 2 (.slice a2 R.length c2) R.length (sgC R)) := own_keep hr (fun b cur hb hc => hn7 b (by have := hfr b hb; omega))
  have HB7 : Hid (w7.heap[w.heap.size + 1]? = some (.cells #[.int .i64 0] 3 (0, 0))) := (hn7 _ (by omega)).trans hB6
  have HC7 : Hid (w7.heap[w.heap.size + 1 + 1]? = some (.cells #[.int .i64 0] 25 (0, 0))) := (hn7 _ (by omega)).trans hC6
  have HA7 : Hid (IB w7 w.heap.size (.slice a1 L.length c1) (.slice a2 R.length c2) x) := hA7
  have HSEP : Hid ((∀ b, (Value.slice a1 L.length c1).ownBlock = some b → w5.heap.size ≤ b ∧ (Value.slice a2 R.length c2).ownBlock ≠ some b) ∧ ∀ b, (Value.slice a2 R.length c2).ownBlock = some b → w5.heap.size ≤ b) := ⟨hsep, hfr⟩
  have HBE7 : Hid (Below w.heap.size w w7) := by
    have h6 : Below w.heap.size w w6 := ho.below HB5.out (by omega) (fun j hj => by omega)
    show Below _ _ _
    rw [hw7]
    exact ((h6.setCell (p := ⟨w.heap.size, 0, none⟩) (Nat.le_refl _) _).setCell (p := ⟨w.heap.size, 1, none⟩) (Nat.le_refl _) _).setCell (p := ⟨w.heap.size, 2, none⟩) (Nat.le_refl _) _
  have HCH : Hid (Calls Try.prog 21 #[.agg #[.slice a1 L.length c1, .slice a2 R.length c2, .bool x]] w7 fun e w' => e = .returned (.int .i64 0) ∧ Below w7.heap.size w7 w') := by
    have := tCheck_any (.slice a1 L.length c1) (.slice a2 R.length c2) x (intS L) (intS R) w7 (row_sgr HL7.out HLT.out.1) (row_sgr HR7.out HLT.out.2) HLEN.out.1 HLEN.out.2
    rw [HCK.out] at this
    exact this
  clear hl hr ho hsep hfr hA6 hB6 hC6 hw7 hn7 hA7 HW5 HA HBc HCc HID
  go_wp2_with fail
  rw [← HW7.out]
  clear p0 p1 p2 pf HW7
  refine Calls.mono HCH.out ?_
  rintro e w8 ⟨rfl, hb8⟩
  have HA8 : Hid (IB w8 w.heap.size (.slice a1 L.length c1) (.slice a2 R.length c2) x) := (hb8.block _ HA7.out.lt).trans HA7.out
  have HB8 : Hid (w8.heap[w.heap.size + 1]? = some (.cells #[.int .i64 0] 3 (0, 0))) := (hb8.block _ (Array.getElem?_eq_some_iff.1 HB7.out).1).trans HB7.out
  have HC8 : Hid (w8.heap[w.heap.size + 1 + 1]? = some (.cells #[.int .i64 0] 25 (0, 0))) := (hb8.block _ (Array.getElem?_eq_some_iff.1 HC7.out).1).trans HC7.out
  have HL8 : Hid (w8.ownsRow w.heap.size 81 2 (.slice a1 L.length c1) L.length (sgC L)) := own_below HL7.out hb8
  have HR8 : Hid (w8.ownsRow w.heap.size 81 2 (.slice a2 R.length c2) R.length (sgC R)) := own_below HR7.out hb8
  have HBE8 : Hid (Below w.heap.size w w8) := go_on HBE7.out hb8
  have p0 : w8.cell? ⟨w.heap.size, 0, none⟩ = some (.slice a1 L.length c1) := cell_at HA8.out rfl
  have p1 : w8.cell? ⟨w.heap.size, 1, none⟩ = some (.slice a2 R.length c2) := cell_at HA8.out rfl
  have p2 : w8.cell? ⟨w.heap.size, 2, none⟩ = some (.bool x) := cell_at HA8.out rfl
  have pf : ∀ j, w8.frozen? ⟨w.heap.size, j, none⟩ = false := fun j => froz_of HA8.out
  have q0 : w8.cell? ⟨w.heap.size + 1, 0, none⟩ = some (.int .i64 0) := cell_at HB8.out rfl
  have qf : ∀ j, w8.frozen? ⟨w.heap.size + 1, j, none⟩ = false := fun j => froz_of HB8.out
  have r0 : w8.cell? ⟨w.heap.size + 1 + 1, 0, none⟩ = some (.int .i64 0) := cell_at HC8.out rfl
  have rf : ∀ j, w8.frozen? ⟨w.heap.size + 1 + 1, j, none⟩ = false := fun j => froz_of HC8.out
  clear hb8 HA7 HB7 HC7 HL7 HR7 HBE7 HCH
  go_wp2_with fail
  refine leaves_cons (f := 28) (args := #[.pointer (some ⟨w.heap.size + 1 + 1 + 1 + 1, 0, none⟩), .pointer (some ⟨w.heap.size, 0, none⟩), .pointer (some ⟨w.heap.size + 1, 0, none⟩), .pointer (some ⟨w.heap.size + 1 + 1, 0, none⟩)]) (by simp) (by simp [go_sem]) ?_
  refine (catch_idle _ _ _ _ _).mono ?_
  rintro e u' w'' ⟨rfl, rfl, rfl⟩
  obtain ⟨wF, hwF⟩ : ∃ wF, wF = (((((w8.setCell ⟨w.heap.size + 1 + 1, 0, none⟩ (.int .i64 0)).setCell ⟨w.heap.size, 0, none⟩ (.slice a1 L.length c1)).setCell ⟨w.heap.size, 1, none⟩ (.slice a2 R.length c2)).setCell ⟨w.heap.size, 2, none⟩ (.bool x)).setCell ⟨w.heap.size + 1, 0, none⟩ (.int .i64 0)).setCell ⟨w.heap.size + 1 + 1, 0, none⟩ (.int .i64 0) := ⟨_, rfl⟩
  have hs5 := HSZ.out
  have hAF : wF.heap[w.heap.size]? = some (.cells #[.slice a1 L.length c1, .slice a2 R.length c2, .bool x] 24 (0, 0)) := by
    rw [hwF, heap_set_other (by omega), heap_set_other (by omega)]
    have h0 : (w8.setCell ⟨w.heap.size + 1 + 1, 0, none⟩ (.int .i64 0)).heap[w.heap.size]? = some (.cells #[.slice a1 L.length c1, .slice a2 R.length c2, .bool x] 24 (0, 0)) := (heap_set_other (by omega)).trans HA8.out
    exact heap_set (heap_set (heap_set h0))
  have hBF : wF.heap[w.heap.size + 1]? = some (.cells #[.int .i64 0] 3 (0, 0)) := by
    rw [hwF, heap_set_other (by omega)]
    have h0 : ((((w8.setCell ⟨w.heap.size + 1 + 1, 0, none⟩ (.int .i64 0)).setCell ⟨w.heap.size, 0, none⟩ (.slice a1 L.length c1)).setCell ⟨w.heap.size, 1, none⟩ (.slice a2 R.length c2)).setCell ⟨w.heap.size, 2, none⟩ (.bool x)).heap[w.heap.size + 1]? = some (.cells #[.int .i64 0] 3 (0, 0)) := by
      rw [heap_set_other (by omega), heap_set_other (by omega), heap_set_other (by omega), heap_set_other (by omega)]
      exact HB8.out
    exact heap_set h0
  have hCF : wF.heap[w.heap.size + 1 + 1]? = some (.cells #[.int .i64 0] 25 (0, 0)) := by
    rw [hwF]
    have h0 : (((((w8.setCell ⟨w.heap.size + 1 + 1, 0, none⟩ (.int .i64 0)).setCell ⟨w.heap.size, 0, none⟩ (.slice a1 L.length c1)).setCell ⟨w.heap.size, 1, none⟩ (.slice a2 R.length c2)).setCell ⟨w.heap.size, 2, none⟩ (.bool x)).setCell ⟨w.heap.size + 1, 0, none⟩ (.int .i64 0)).heap[w.heap.size + 1 + 1]? = some (.cells #[.int .i64 0] 25 (0, 0)) := by
      rw [heap_set_other (by omega), heap_set_other (by omega), heap_set_other (by omega), heap_set_other (by omega)]
      exact heap_set HC8.out
    exact heap_set h0
  have hoth : ∀ b, b ≠ w.heap.size → b ≠ w.heap.size + 1 → b ≠ w.heap.size + 1 + 1 → wF.heap[b]? = w8.heap[b]? := fun b h1 h2 h3 => by
    rw [hwF, heap_set_other h3, heap_set_other h2, heap_set_other h1, heap_set_other h1, heap_set_other h1, heap_set_other h3]
  have hbF : Below w.heap.size w wF := by
    rw [hwF]
    exact (((((HBE8.out.setCell (p := ⟨w.heap.size + 1 + 1, 0, none⟩) (by show w.heap.size ≤ w.heap.size + 1 + 1; omega) _).setCell (p := ⟨w.heap.size, 0, none⟩) (Nat.le_refl _) _).setCell (p := ⟨w.heap.size, 1, none⟩) (Nat.le_refl _) _).setCell (p := ⟨w.heap.size, 2, none⟩) (Nat.le_refl _) _).setCell (p := ⟨w.heap.size + 1, 0, none⟩) (by show w.heap.size ≤ w.heap.size + 1; omega) _).setCell (p := ⟨w.heap.size + 1 + 1, 0, none⟩) (by show w.heap.size ≤ w.heap.size + 1 + 1; omega) _
  have hBc0 : wF.cell? ⟨w.heap.size + 1, 0, none⟩ = some (.int .i64 0) := cell_at hBF rfl
  have hCc0 : wF.cell? ⟨w.heap.size + 1 + 1, 0, none⟩ = some (.int .i64 0) := cell_at hCF rfl
  have hld := run_loadVar_row (P := Try.prog) wF w.heap.size 24 24 _ (0, 0) _ hAF Try.underlying24 rfl (by rw [Try.info_id]; rfl)
  rw [← hwF]
  clear hwF
  refine ⟨.tuple #[.agg #[.slice a1 L.length c1, .slice a2 R.length c2, .bool x], .int .i64 0, .int .i64 0], ?_, .slice a1 L.length c1, .slice a2 R.length c2, rfl, own_keep HL8.out (fun b cur hb hc => ?_), own_keep HR8.out (fun b cur hb hc => ?_), hbF, fun b hb => (HSEP.out.1 b hb).2⟩
  · have e0 : wF.cell? ⟨w.heap.size, 0, none⟩ = some (.slice a1 L.length c1) := cell_at hAF rfl
    have e1 : wF.cell? ⟨w.heap.size, 1, none⟩ = some (.slice a2 R.length c2) := cell_at hAF rfl
    have e2 : wF.cell? ⟨w.heap.size, 2, none⟩ = some (.bool x) := cell_at hAF rfl
    simp [results, Try.results8, asAddr, go_sem, hBc0, hCc0, e0, e1, e2]
  · have := (HSEP.out.1 b hb).1
    exact hoth b (by omega) (by omega) (by omega)
  · have := HSEP.out.2 b hb
    exact hoth b (by omega) (by omega) (by omega)
end Go.Proofs.Ythhlamehbcidgaa
