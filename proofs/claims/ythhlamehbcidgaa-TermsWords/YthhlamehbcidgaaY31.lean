/- An identity among a law's arguments: opened. -/
import Derived.Test.YthhlamehbcidgaaY9
import Derived.OpenShut
import Derived.ProofKit
import Derived.ShutString
import Derived.ChangeOld
import Derived.JoinedCond
import Derived.SizedLaws
import Derived.Carry
import Derived.Deep.Strs
import Derived.Deep.Grids
namespace Go.Proofs.Ythhlamehbcidgaa
open Go Go.ChangeShapes Go.WideShapes Go.ChangeAt Go.RowKit Go.Lib
set_option linter.unusedVariables false

theorem one_cell {cs : List Value} {d : Nat} {v : Value} (hd : d < cs.length) (h : (cs.drop d).take 1 = [v]) : cs[d]? = some v := by
  rw [List.drop_eq_getElem_cons hd, List.take_succ_cons, List.take_zero] at h
  injection h with h
  rw [List.getElem?_eq_getElem hd, h]
theorem Try.cells_int1 : Try.prog.cellsOf 3 = 1 := by kernel_rfl
theorem Try.cells_u81 : Try.prog.cellsOf 5 = 1 := by kernel_rfl
theorem Try.cells_bool1 : Try.prog.cellsOf 4 = 1 := by kernel_rfl
theorem Try.cells_sign : Try.prog.cellsOf 81 = 2 := by kernel_rfl
theorem Try.cells_signs : Try.prog.cellsOf 22 = 1 := by kernel_rfl
theorem Try.cells_ident : Try.prog.cellsOf 24 = 3 := by kernel_rfl
theorem u8_of {n : Int} (h : (Lit.int .u8 n).wf = true) : ∃ m : Nat, n = m ∧ m < 256 := by
  simp [Lit.wf, IntKind.min, IntKind.max, IntKind.signed, IntKind.bits] at h
  exact ⟨n.toNat, by omega, by omega⟩
theorem Try.sg_parts : ∃ fs : Array Field, ∃ f0 f1 : Field, Try.prog.underlying 81 = some (.struct fs) ∧ fs[0]? = some f0 ∧ fs[1]? = some f1 ∧ fs.size = 2 ∧ f0.type = 3 ∧ f0.offset = 0 ∧ f1.type = 5 ∧ f1.offset = 1 := ⟨_, _, _, Try.underlying81, rfl, rfl, rfl, rfl, rfl, rfl, rfl⟩
set_option maxRecDepth 100000 in
theorem sg_cells {H : Type} {enc : TypeId × Value → H} {w : World} {base : Nat} {spare : Nat → Bool} {held : Bool} {fuel : Nat} {cs : List Value} {y : DataW H × List MemPlace} (ht : DataW.trod enc Try.prog w base spare held fuel 81 cs = some y) :
    ∃ p : Int × Nat, p.2 < 256 ∧ cs[0]? = some (.int .i64 p.1) ∧ cs[1]? = some (.int .u8 (p.2 : Nat)) := by
  obtain ⟨fs, f0, f1, hu, e0, e1, hs, t0, o0, t1, o1⟩ := Try.sg_parts
  obtain ⟨xs, q, _, _, hlen, hxl, hfs⟩ := DataW.trod_struct hu ht
  rw [Try.cells_sign] at hlen
  have h0 := hfs 0 f0 e0
  have h1 := hfs 1 f1 e1
  rw [t0, o0, Try.cells_int1, List.getElem?_eq_getElem (by omega)] at h0
  rw [t1, o1, Try.cells_u81, List.getElem?_eq_getElem (by omega)] at h1
  obtain ⟨k, k0, _, _⟩ := DataW.trod_int Try.underlying3 h0
  obtain ⟨t, k2, _, wt⟩ := DataW.trod_int Try.underlying5 h1
  obtain ⟨c, rfl, hc⟩ := u8_of wt
  exact ⟨(k, c), hc, one_cell (by omega) k0, one_cell (by omega) k2⟩
set_option maxRecDepth 100000 in
theorem open_signs {H : Type} {enc : TypeId × Value → H} {w : World} {base : Nat} {spare : Nat → Bool} {held : Bool} {fuel : Nat} {v : Value} {y : DataW H × List MemPlace} (hf : DataW.trod enc Try.prog w base spare held fuel 22 [v] = some y) :
    ∃ L, SgR w v L ∧ L.length ≤ maxLen := by
  rcases Go.Deep.open_slice Try.underlying22 hf with ⟨hcs, hx⟩ | ⟨a', len', cap', m, n, D, Pl, hcs, hb, hl, hm, hmm, hx, hel⟩
  · simp at hcs
    subst hcs
    exact ⟨[], ⟨none, 0, rfl, fun i hi => by simp at hi⟩, Nat.zero_le _⟩
  · simp at hcs
    subst hcs
    have hle : len' ≤ m := by
      rw [hmm]
      split <;> omega
    have hp : ∀ i, i < len' → ∃ p : Int × Nat, ∃ g o, a' = ⟨g, o, none⟩ ∧ g < w.heap.size ∧ w.cell? ⟨g, o + i * 2, none⟩ = some (.int .i64 p.1) ∧ w.cell? ⟨g, o + i * 2 + 1, none⟩ = some (.int .u8 (p.2 : Nat)) ∧ p.2 < 256 := fun i hi => by
      obtain ⟨cs', hc, ht⟩ := hel i (by omega)
      rw [Try.cells_sign] at hc
      obtain ⟨hbb, hlen, hcell⟩ := World.cells?_some hc
      obtain ⟨p, hp, c0, c1⟩ := sg_cells ht
      obtain ⟨b, off, spot⟩ := a'
      have hspot : spot = none := by
        obtain ⟨cs0, hc1, _⟩ := hel 0 (by omega)
        rw [Try.cells_sign] at hc1
        obtain ⟨_, hl0, hcell0⟩ := World.cells?_some hc1
        have h00 := hcell0 0 (by decide)
        rw [List.getElem?_eq_getElem (by omega)] at h00
        have := World.cell?_spot h00
        simpa [Addr.add] using this
      subst hspot
      have x0 := hcell 0 (by decide)
      have x1 := hcell 1 (by decide)
      rw [c0] at x0
      rw [c1] at x1
      simp only [Addr.add_lit] at x0 x1
      exact ⟨p, b, off, rfl, World.block_lt_of_cell? w _ x0, x0, x1, hp⟩
    obtain ⟨F, hF⟩ : ∃ F : Nat → Int × Nat, ∀ i, i < len' → ∃ g o, a' = ⟨g, o, none⟩ ∧ g < w.heap.size ∧ w.cell? ⟨g, o + i * 2, none⟩ = some (.int .i64 (F i).1) ∧ w.cell? ⟨g, o + i * 2 + 1, none⟩ = some (.int .u8 ((F i).2 : Nat)) ∧ (F i).2 < 256 :=
      ⟨fun i => if h : i < len' then Classical.choose (hp i h) else (0, 0), fun i h => by
        simp only [dif_pos h]
        exact Classical.choose_spec (hp i h)⟩
    refine ⟨(List.range len').map F, ⟨some a', cap', by simp, fun i hi => ?_⟩, by simp; omega⟩
    have hi' : i < len' := by simpa using hi
    obtain ⟨g, o, rfl, hg, x0, x1, x2⟩ := hF i hi'
    have hgd : ((List.range len').map F).getD i (0, 0) = F i := by simp [List.getD_eq_getElem?_getD, hi']
    rw [hgd]
    exact ⟨g, o, rfl, hg, x0, x1, x2⟩
set_option maxRecDepth 100000 in
theorem open_ident {H : Type} {enc : TypeId × Value → H} {w : World} {held : Bool} {r : Reach} {b0 : Nat} {v : Value} {d : DataW H} {ps : List MemPlace} (hval : Value.okWide Try.prog w r b0 24 v) (hd : DataW.Trod enc Try.prog w 0 (fun _ => true) held 24 v d ps) :
    ∃ vl vr x L R, v = .agg #[vl, vr, .bool x] ∧ SgR w vl L ∧ SgR w vr R ∧ L.length ≤ maxLen ∧ R.length ≤ maxLen := by
  simp only [Value.okWide, Try.underlying24] at hval
  obtain ⟨cs, rfl, hsz, _⟩ := hval
  rw [Try.cells_ident] at hsz
  obtain ⟨fuel, hf⟩ := hd
  obtain ⟨y0, y1, y2, m, hx, _, h0, h1, h2⟩ := Go.Deep.trod_struct3 Try.underlying24 hf
  obtain ⟨c0, c1, c2, hcs⟩ : ∃ c0 c1 c2, cs = #[c0, c1, c2] := ⟨cs[0], cs[1], cs[2], by
    apply Array.ext_getElem?
    intro i
    have : i = 0 ∨ i = 1 ∨ i = 2 ∨ 3 ≤ i := by omega
    rcases this with rfl | rfl | rfl | hi
    · simp [hsz]
    · simp [hsz]
    · simp [hsz]
    · rw [Array.getElem?_eq_none (by omega), Array.getElem?_eq_none (by simp; omega)]⟩
  subst hcs
  simp only [Try.cells_signs, Try.cells_bool1, Value.cells] at h0 h1 h2
  have h0' : DataW.trod enc Try.prog w 0 (fun _ => true) held m 22 [c0] = some y0 := by simpa using h0
  have h1' : DataW.trod enc Try.prog w 0 (fun _ => true) held m 22 [c1] = some y1 := by simpa using h1
  obtain ⟨L, hL, lL⟩ := open_signs h0'
  obtain ⟨R, hR, lR⟩ := open_signs h1'
  obtain ⟨x, ex, _⟩ := DataW.trod_bool Try.underlying4 h2
  simp at ex
  subst ex
  exact ⟨c0, c1, x, L, R, rfl, hL, hR, lL, lR⟩
end Go.Proofs.Ythhlamehbcidgaa
