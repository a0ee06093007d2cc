/- The laws' SameAuto (as in Qf, for a seat that has no Reach of the document); slices.Equal of ints and of bools. -/
import Derived.Test.YtggheiblgghpkaaMp
import Derived.Test.YtggheiblgghpkaaJt
import Derived.Deep.RegionHeld3
namespace Go.Proofs.Ytggheiblgghpkaa
open Go Go.RowKit Go.Lib
set_option linter.unusedVariables false

set_option maxHeartbeats 4000000 in
set_option maxRecDepth 100000 in
theorem sameAuto_any (u v : Value) (A : Aut) (w : World) (hu : AR w u A) (hv : AR w v A) (hm : A.nx.length ≤ 9223372036854775806) (hm2 : A.ac.length ≤ 9223372036854775806) :
    Calls Try.prog 29 #[u, v] w fun e w' => e = .returned (.bool true) ∧ Below w.heap.size w w' := by
  obtain ⟨an, cn, aa, ca, rfl, h1, h2⟩ := hu.is
  obtain ⟨bn, dn, ba, da, rfl, k1, k2⟩ := hv.is
  have HSA : Hid (∀ y, Below w.heap.size w y → Calls Try.prog 51 #[.slice an A.nx.length cn, .slice bn A.nx.length dn] y fun e w' => e = .returned (.bool true) ∧ Below y.heap.size y w') := fun y hy => same_any an bn cn dn A.nx y (h1.stay hy) (k1.stay hy) hm
  have H2 : Hid (SR w aa (bC A.ac)) := h2
  have K2 : Hid (SR w ba (bC A.ac)) := k2
  have R1 : RowAt (w.alloc (.cells #[.int .i64 A.k, .slice an A.nx.length cn, .slice aa A.ac.length ca] 25)) w.heap.size #[.int .i64 A.k, .slice an A.nx.length cn, .slice aa A.ac.length ca] := RowAt.last _ _ _
  have R2 := R1.alloc (.cells #[.int .i64 A.k, .slice bn A.nx.length dn, .slice ba A.ac.length da] 25)
  have R3 := RowAt.last (w.alloc (.cells #[.int .i64 A.k, .slice an A.nx.length cn, .slice aa A.ac.length ca] 25)) #[.int .i64 A.k, .slice bn A.nx.length dn, .slice ba A.ac.length da] 25
  rw [World.size_alloc] at R3
  have HR2 : Hid (RowAt ((w.alloc (.cells #[.int .i64 A.k, .slice an A.nx.length cn, .slice aa A.ac.length ca] 25)).alloc (.cells #[.int .i64 A.k, .slice bn A.nx.length dn, .slice ba A.ac.length da] 25)) w.heap.size #[.int .i64 A.k, .slice an A.nx.length cn, .slice aa A.ac.length ca]) := R2
  have HR3 : Hid (RowAt ((w.alloc (.cells #[.int .i64 A.k, .slice an A.nx.length cn, .slice aa A.ac.length ca] 25)).alloc (.cells #[.int .i64 A.k, .slice bn A.nx.length dn, .slice ba A.ac.length da] 25)) (w.heap.size + 1) #[.int .i64 A.k, .slice bn A.nx.length dn, .slice ba A.ac.length da]) := R3
  have HBW : Hid (∀ O O', Below w.heap.size w ((w.alloc O).alloc O')) := fun O O' => go_on (below_new _ _) (below_new _ _)
  clear hu hv h1 h2 k1 k2 R1 R2 R3
  go_enter Try.func29, Try.ntmps29
  go_wp2_with (first
    | (go_at_call 51; refine (HSA.out _ (HBW.out _ _)).mono ?_; rintro e y1 ⟨rfl, hy1⟩; have HA1 : Hid (RowAt y1 w.heap.size #[.int .i64 A.k, .slice an A.nx.length cn, .slice aa A.ac.length ca]) := RowAt.stay HR2.out hy1; have HA2 : Hid (RowAt y1 (w.heap.size + 1) #[.int .i64 A.k, .slice bn A.nx.length dn, .slice ba A.ac.length da]) := RowAt.stay HR3.out hy1; have cs1 := HA1.out.cell; have cs2 := HA2.out.cell; have HY : Hid (Below w.heap.size w y1) := go_on (HBW.out _ _) hy1; clear hy1))
  clear cs1 cs2
  go_loopw [5] (fun vi wr => ∃ i : Nat, vi = .int .i64 i ∧ i ≤ A.ac.length ∧ Below y1.heap.size y1 wr) (fun vi _ => A.ac.length - (intOf vi).toNat)
  case atStart => exact ⟨0, rfl, Nat.zero_le _, Below.refl _ _⟩
  case round =>
    obtain ⟨i, rfl, hi, hb⟩ := hrel
    have HB : Hid (Below y1.heap.size y1 wr) := hb
    have cs1 := (HA1.out.stay hb).cell
    have cs2 := (HA2.out.stay hb).cell
    by_cases hlt : i < A.ac.length
    · have hiI : (i : Int) < A.ac.length := by omega
      have hbw : Below w.heap.size w wr := go_on HY.out hb
      obtain ⟨ga, oa, rfl, _, c1⟩ := (H2.out.stay hbw).bool hlt
      obtain ⟨gb, ob, rfl, _, c2⟩ := (K2.out.stay hbw).bool hlt
      obtain ⟨x, hx⟩ : ∃ x, A.ac.getD i false = x := ⟨_, rfl⟩
      rw [hx] at c1 c2
      have S0 : (∀ o, wr.drew.cell? ⟨w.heap.size, o, none⟩ = (#[.int .i64 A.k, .slice an A.nx.length cn, .slice (some ⟨ga, oa, none⟩) A.ac.length ca] : Array Value)[o]?) ∧ (∀ o, wr.drew.cell? ⟨w.heap.size + 1, o, none⟩ = (#[.int .i64 A.k, .slice bn A.nx.length dn, .slice (some ⟨gb, ob, none⟩) A.ac.length da] : Array Value)[o]?) ∧ wr.drew.cell? ⟨ga, oa + i, none⟩ = some (.bool x) ∧ wr.drew.cell? ⟨gb, ob + i, none⟩ = some (.bool x) := ⟨cs1, cs2, c1, c2⟩
      clear hx hb hbw
      go_wp2_with fail
      clear cs1 cs2 c1 c2
      go_region_held3 (fun y => (∀ o, y.cell? ⟨w.heap.size, o, none⟩ = (#[.int .i64 A.k, .slice an A.nx.length cn, .slice (some ⟨ga, oa, none⟩) A.ac.length ca] : Array Value)[o]?) ∧ (∀ o, y.cell? ⟨w.heap.size + 1, o, none⟩ = (#[.int .i64 A.k, .slice bn A.nx.length dn, .slice (some ⟨gb, ob, none⟩) A.ac.length da] : Array Value)[o]?) ∧ y.cell? ⟨ga, oa + i, none⟩ = some (.bool x) ∧ y.cell? ⟨gb, ob + i, none⟩ = some (.bool x)) (first | exact S0 | assumption) (fail)
      all_goals (
        clear S0
        go_wp2_with fail
        go_roundw
        case rel => exact ⟨i + 1, by go_num, by omega, HB.out.drew⟩
        case measure => simp [intOf]; omega)
    · have hiI : ¬ (i : Int) < A.ac.length := by omega
      clear hb
      go_wp2_with fail
      go_ret
      exact ⟨rfl, go_on HY.out HB.out⟩

end Go.Proofs.Ytggheiblgghpkaa
