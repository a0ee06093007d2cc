/- slices.Index of bools; slices.Backward of numbers; auto.firstWays: the first places of the states. -/
import Derived.Test.YtggheiblgghpkaaJl
import Derived.Test.YtggheiblgghpkaaRg
namespace Go.Proofs.Ytggheiblgghpkaa
open Go Go.RowKit Go.Shelf Go.Lib
set_option linter.unusedVariables false

attribute [local go_sem] Oper.semAt_some

/-- What Index answers of true. -/
def ixB (bs : List Bool) : Int := if true ∈ bs then (bs.idxOf true : Int) else -1

set_option maxHeartbeats 1000000 in
set_option maxRecDepth 100000 in
theorem index_any (a : Option Addr) (cap : Nat) (bs : List Bool) (w : World) (h : SR w a (bC bs)) (hm : bs.length ≤ 9223372036854775806) :
    Calls Try.prog 77 #[.slice a bs.length cap, .bool true] w fun e w' => e = .returned (.int .i64 (ixB bs)) ∧ w' = w := by
  have H : Hid (SR w a (bC bs)) := h
  clear h
  go_enter Try.func77, Try.ntmps77
  go_wp2_with fail
  go_loopw [8] (fun vi wr => ∃ i : Nat, vi = .int .i64 i ∧ i ≤ bs.length ∧ (∀ t, t < i → bs[t]? = some false) ∧ wr = w) (fun vi _ => bs.length - (intOf vi).toNat)
  case atStart => exact ⟨0, rfl, Nat.zero_le _, fun t ht => by omega, rfl⟩
  case round =>
    obtain ⟨i, rfl, hi, hall, rfl⟩ := hrel
    have HA : Hid (∀ t, t < i → bs[t]? = some false) := hall
    clear hall
    by_cases hlt : i < bs.length
    · have hiI : (i : Int) < bs.length := by omega
      obtain ⟨g, o, rfl, hg, hc⟩ := H.out.bool hlt
      obtain ⟨d, hd⟩ : ∃ d, bs.getD i false = d := ⟨_, rfl⟩
      rw [hd] at hc
      have HD : Hid (bs[i]? = some d) := by
        show _ = _
        rw [List.getElem?_eq_getElem hlt]
        rw [List.getD_eq_getElem?_getD, List.getElem?_eq_getElem hlt, Option.getD_some] at hd
        rw [hd]
      clear hd
      cases d with
      | true =>
        have HE : Hid (ixB bs = (i : Int)) := by
          show _ = _
          unfold ixB
          rw [if_pos (List.mem_of_getElem? HD.out)]
          congr 1
          have hmem := List.mem_of_getElem? HD.out
          have h1 := List.idxOf_lt_length_of_mem hmem
          have h2 : bs[bs.idxOf true]? = some true := idxOf_get hmem
          by_cases c : bs.idxOf true < i
          · rw [HA.out _ c] at h2; cases h2
          · by_cases c2 : i < bs.idxOf true
            · have h3 := List.not_of_lt_findIdx (p := (· == true)) (xs := bs) (i := i) (by exact c2)
              have h4 := HD.out
              rw [List.getElem?_eq_getElem hlt, Option.some.injEq] at h4
              rw [h4] at h3
              simp at h3
            · omega
        go_wp2_with fail
        go_ret
        exact ⟨ret_int HE.out.symm, rfl⟩
      | false =>
        go_wp2_with fail
        go_roundw
        case rel =>
          refine ⟨i + 1, by go_num, by omega, fun t ht => ?_, trivial⟩
          by_cases e : t = i
          · rw [e]; exact HD.out
          · exact HA.out t (by omega)
        case measure => simp [intOf]; omega
    · have hiI : ¬ (i : Int) < bs.length := by omega
      have HE : Hid (ixB bs = -1) := by
        show _ = _
        unfold ixB
        rw [if_neg (fun hm => ?_)]
        obtain ⟨t, ht, e⟩ := List.mem_iff_getElem.1 hm
        have := HA.out t (by omega)
        rw [List.getElem?_eq_getElem ht, e] at this
        cases this
      go_wp2_with fail
      go_ret
      exact ⟨ret_int HE.out.symm, rfl⟩

/-- The values of round j. -/
def bwI (L : List Int) (j : Nat) : Array Value := #[.int .i64 ((L.length - 1 - j : Nat) : Int), .int .i64 (L.getD (L.length - 1 - j) 0)]

end Go.Proofs.Ytggheiblgghpkaa
