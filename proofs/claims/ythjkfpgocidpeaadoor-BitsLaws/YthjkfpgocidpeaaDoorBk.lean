/- How a row's arguments that are sets, places and uint64s are opened, and shut again. -/
import Derived.Test.YthjkfpgocidpeaaDoorBe
import Derived.OpenShut
namespace Go.Proofs.YthjkfpgocidpeaaDoor
open Go.RowKit Go.ChangeShapes

theorem Tryd.cells_set : Tryd.prog.cellsOf 25 = 8 := by kernel_rfl
theorem Tryd.cells_u64 : Tryd.prog.cellsOf 23 = 1 := by kernel_rfl
theorem u64_nat {n : Int} (h : (Lit.int .u64 n).wf = true) : ∃ m : Nat, n = m ∧ m < 18446744073709551616 := by
  simp [Lit.wf, IntKind.min, IntKind.max, IntKind.signed, IntKind.bits] at h
  exact ⟨n.toNat, by omega, by omega⟩
theorem nat_u64 {m : Nat} (h : m < 18446744073709551616) : (Lit.int .u64 (m : Int)).wf = true := by
  simp [Lit.wf, IntKind.min, IntKind.max, IntKind.signed, IntKind.bits]
  omega
variable {H : Type} {enc : TypeId × Value → H}
def setD (H : Type) (f : Nat → Nat) : DataW H := .agg [.lit (.int .u64 (f 0)), .lit (.int .u64 (f 1)), .lit (.int .u64 (f 2)), .lit (.int .u64 (f 3)), .lit (.int .u64 (f 4)), .lit (.int .u64 (f 5)), .lit (.int .u64 (f 6)), .lit (.int .u64 (f 7))]
theorem shut_set {w : World} {base : Nat} {spare : Nat → Bool} {held : Bool} (N : Nat) : DataW.Trod enc Tryd.prog w base spare held 25 (setV N) (setD H (word N)) [] := by
  refine ⟨2, ?_⟩
  have r8 : List.range 8 = [0, 1, 2, 3, 4, 5, 6, 7] := rfl
  have h := fun k => nat_u64 (word_lt N k)
  unfold setV cellsF setD
  simp [DataW.trod, Value.cells, Tryd.underlying25, Tryd.underlying23, Tryd.cells_set, Tryd.cells_u64, r8, h]
theorem open_set {w : World} {base : Nat} {spare : Nat → Bool} {held : Bool} {r : Reach} {b0 : Nat} {v : Value} {d : DataW H} {ps : List MemPlace} (hval : Value.okWide Tryd.prog w r b0 25 v) (hd : DataW.Trod enc Tryd.prog w base spare held 25 v d ps) :
    ∃ N, v = setV N ∧ d = setD H (word N) ∧ ps = [] ∧ Fits N := by
  simp only [Value.okWide, Tryd.underlying25] at hval
  obtain ⟨cs, rfl, hsz, _⟩ := hval
  obtain ⟨fuel, hf⟩ := hd
  obtain ⟨xs, m, _, hx, hl, hlen, hel⟩ := DataW.trod_array Tryd.underlying25 hf
  rw [Tryd.cells_set] at hsz
  have key : ∀ i, ∃ n : Nat, i < 8 → cs[i]? = some (.int .u64 (n : Int)) ∧ n < 18446744073709551616 ∧ xs[i]? = some (.lit (.int .u64 (n : Int)), []) := by
    intro i
    by_cases hi : i < 8
    · have he := hel i hi
      rw [Tryd.cells_u64, Nat.mul_one] at he
      have hx0 : xs[i]? = some (xs[i]'(by omega)) := List.getElem?_eq_getElem (by omega)
      rw [hx0] at he
      obtain ⟨n', h1, h2, h3⟩ := DataW.trod_int Tryd.underlying23 he
      obtain ⟨m', rfl, hm⟩ := u64_nat h3
      refine ⟨m', fun _ => ⟨?_, hm, ?_⟩⟩
      · have hc : cs[i]? = some (cs[i]'(by omega)) := Array.getElem?_eq_getElem (by omega)
        have h1' : (cs.toList.drop i).take 1 = [.int .u64 (m' : Int)] := h1
        rw [List.drop_eq_getElem_cons (by simp; omega)] at h1'
        simp at h1'
        rw [hc, h1']
      · rw [hx0, h2]
    · exact ⟨0, fun h => absurd h hi⟩
  obtain ⟨f, hfk⟩ := Classical.axiomOfChoice key
  obtain ⟨N, hN, hw⟩ := of_words f (fun k hk => (hfk k hk).2.1)
  have hcs : cs = cellsF (word N) := by
    apply Array.ext_getElem?
    intro i
    by_cases hi : i < 8
    · rw [(hfk i hi).1, cellsF_get _ hi, hw i hi]
    · rw [Array.getElem?_eq_none (by omega), Array.getElem?_eq_none (by rw [cellsF_size]; omega)]
  have hxs : xs = [(.lit (.int .u64 (word N 0)), []), (.lit (.int .u64 (word N 1)), []), (.lit (.int .u64 (word N 2)), []), (.lit (.int .u64 (word N 3)), []), (.lit (.int .u64 (word N 4)), []), (.lit (.int .u64 (word N 5)), []), (.lit (.int .u64 (word N 6)), []), (.lit (.int .u64 (word N 7)), [])] := by
    apply List.ext_getElem?
    intro i
    by_cases hi : i < 8
    · rw [(hfk i hi).2.2, ← hw i hi]
      rcases eight_cases hi with rfl | rfl | rfl | rfl | rfl | rfl | rfl | rfl <;> rfl
    · rw [List.getElem?_eq_none (by omega), List.getElem?_eq_none (by simp; omega)]
  rw [hxs] at hx
  simp only [Prod.mk.injEq] at hx
  refine ⟨N, by rw [hcs]; rfl, ?_, ?_, hN⟩
  · rw [hx.1]; rfl
  · rw [hx.2]; rfl

end Go.Proofs.YthjkfpgocidpeaaDoor
