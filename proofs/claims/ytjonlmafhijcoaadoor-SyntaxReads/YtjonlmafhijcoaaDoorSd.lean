/- Contracts of the reader's begin, follow and step. -/
import Derived.Test.YtjonlmafhijcoaaDoorSc
namespace Go.Proofs.YtjonlmafhijcoaaDoor
open Go Go.RowKit
set_option linter.unusedVariables false
variable {tx : ByteArray} {ps : Nat}

/-- The reader's state: is a part due; the nodes; what waits, the last one first. -/
abbrev St := Bool × List Nd × List Wt
def beginS (k sg : Int) (ns : List Nd) (T : List Wt) : Option St :=
  if sg = 40 then some (true, ns, (0, false) :: T)
  else if sg = 33 then some (true, ns, (9, false) :: T)
  else if sg = 48 then some (false, ns ++ [(1, 0)], T)
  else if sg = 49 then some (false, ns ++ [(2, 0)], T)
  else if sg = 46 then some (false, ns ++ [(4, 0)], T)
  else if 97 ≤ sg ∧ sg < 97 + k then some (false, ns ++ [(3, sg)], T)
  else none
def joinS (j : Nat) (m : Bool) (ns : List Nd) (T : List Wt) : St := (true, (settleR (tight j) ns T).1, ((j : Int), m) :: (settleR (tight j) ns T).2)
def followS (k sg : Int) (ns : List Nd) (T : List Wt) : Option St :=
  if sg = 63 then some (false, ns ++ [(2, 0)] ++ [(5, 0)], T)
  else if sg = 42 then some (false, ns ++ [(8, 0)], T)
  else if sg = 45 then some (joinS 6 true ns T)
  else if sg = 38 then some (joinS 6 false ns T)
  else if sg = 124 then some (joinS 5 false ns T)
  else if sg = 41 then (if (settleR 1 ns T).2.isEmpty then none else some (false, (settleR 1 ns T).1, (settleR 1 ns T).2.tail))
  else beginS k sg (joinS 7 false ns T).2.1 (joinS 7 false ns T).2.2
def Ends3 (tx : ByteArray) (ps : Nat) (w0 w' : World) (B : Nat) (k : Int) (o : Option St) : Prop := ∀ s, o = some s → RX tx ps w0 w' B k s.1 s.2.1 s.2.2
theorem RX.below {w0 w : World} {B : Nat} {k : Int} {due : Bool} {ns : List Nd} {T : List Wt} (h : RX tx ps w0 w B k due ns T) : Below B w0 w := by
  obtain ⟨na, nc, wa, wc, h⟩ := h
  exact h.below
theorem ends_none {w0 w' : World} {B : Nat} {k : Int} {o : Option St} (h : o = none) : Ends3 tx ps w0 w' B k o := fun s hs => by rw [h] at hs; cases hs
theorem ends_some {w0 w' : World} {B : Nat} {k : Int} {o : Option St} {s : St} (h : o = some s) (hr : RX tx ps w0 w' B k s.1 s.2.1 s.2.2) : Ends3 tx ps w0 w' B k o := fun s' hs => by rw [h, Option.some.injEq] at hs; rw [← hs]; exact hr

set_option maxHeartbeats 8000000 in
set_option maxRecDepth 100000 in
theorem begin_r (w0 w : World) (B : Nat) (k : Int) (hk : 1 ≤ k ∧ k ≤ 8) (due : Bool) (ns : List Nd) (T : List Wt) (h : RX tx ps w0 w B k due ns T) (hn : ns.length + 2 * T.length ≤ 90000) (sg : Int) (hs : -2147483648 ≤ sg ∧ sg ≤ 2147483647) :
    Calls Tryd.prog 32 #[.pointer (some ⟨B, 0, none⟩), .int .i32 sg] w fun e w' => e = .returned (.bool (beginS k sg ns T).isSome) ∧ Ends3 tx ps w0 w' B k (beginS k sg ns T) ∧ Below B w0 w' := by
  have H : Hid (RX tx ps w0 w B k due ns T) := h
  have c0 : w.cell? ⟨B, 0, none⟩ = some (.int .i64 k) := by
    obtain ⟨na, nc, wa, wc, h⟩ := h
    exact h.cells.1
  have hTl : T.reverse.length ≤ 100000 := by rw [List.length_reverse]; omega
  clear h
  by_cases h40 : sg = 40
  · subst h40
    have HE : Hid (beginS k 40 ns T = some (true, ns, (0, false) :: T)) := by show _ = _; rw [beginS,  if_pos rfl]
    rw [HE.out]
    go_enter Tryd.func32, Tryd.ntmps32
    go_wp2_with fail
    refine (wait_any w0 _ B k due _ _ H.out hTl 0 false).mono ?_
    rintro e w2 ⟨rfl, hr⟩
    have HR : Hid (RX tx ps w0 w2 B k true ns ((0, false) :: T)) := by show RSt _ _ _ _ _ _ _ _ _; rw [List.reverse_cons]; exact hr
    clear hr
    go_wp2_with fail
    go_ret
    exact ⟨rfl, ends_some rfl HR.out, HR.out.below⟩
  by_cases h33 : sg = 33
  · subst h33
    have HE : Hid (beginS k 33 ns T = some (true, ns, (9, false) :: T)) := by show _ = _; rw [beginS, if_neg (by decide), if_pos rfl]
    rw [HE.out]
    go_enter Tryd.func32, Tryd.ntmps32
    go_wp2_with fail
    refine (wait_any w0 _ B k due _ _ H.out hTl 9 false).mono ?_
    rintro e w2 ⟨rfl, hr⟩
    have HR : Hid (RX tx ps w0 w2 B k true ns ((9, false) :: T)) := by show RSt _ _ _ _ _ _ _ _ _; rw [List.reverse_cons]; exact hr
    clear hr
    go_wp2_with fail
    go_ret
    exact ⟨rfl, ends_some rfl HR.out, HR.out.below⟩
  by_cases h48 : sg = 48
  · subst h48
    have HE : Hid (beginS k 48 ns T = some (false, ns ++ [(1, 0)], T)) := by show _ = _; rw [beginS, if_neg (by decide), if_neg (by decide), if_pos rfl]
    rw [HE.out]
    go_enter Tryd.func32, Tryd.ntmps32
    go_wp2_with fail
    refine (leaf_any w0 _ B k due _ _ H.out (by omega) 1 0).mono ?_
    rintro e w2 ⟨rfl, hr⟩
    have HR : Hid (RX tx ps w0 w2 B k false (ns ++ [(1, 0)]) T) := hr
    clear hr
    go_wp2_with fail
    go_ret
    exact ⟨rfl, ends_some rfl HR.out, HR.out.below⟩
  by_cases h49 : sg = 49
  · subst h49
    have HE : Hid (beginS k 49 ns T = some (false, ns ++ [(2, 0)], T)) := by show _ = _; rw [beginS, if_neg (by decide), if_neg (by decide), if_neg (by decide), if_pos rfl]
    rw [HE.out]
    go_enter Tryd.func32, Tryd.ntmps32
    go_wp2_with fail
    refine (leaf_any w0 _ B k due _ _ H.out (by omega) 2 0).mono ?_
    rintro e w2 ⟨rfl, hr⟩
    have HR : Hid (RX tx ps w0 w2 B k false (ns ++ [(2, 0)]) T) := hr
    clear hr
    go_wp2_with fail
    go_ret
    exact ⟨rfl, ends_some rfl HR.out, HR.out.below⟩
  by_cases h46 : sg = 46
  · subst h46
    have HE : Hid (beginS k 46 ns T = some (false, ns ++ [(4, 0)], T)) := by show _ = _; rw [beginS, if_neg (by decide), if_neg (by decide), if_neg (by decide), if_neg (by decide), if_pos rfl]
    rw [HE.out]
    go_enter Tryd.func32, Tryd.ntmps32
    go_wp2_with fail
    refine (leaf_any w0 _ B k due _ _ H.out (by omega) 4 0).mono ?_
    rintro e w2 ⟨rfl, hr⟩
    have HR : Hid (RX tx ps w0 w2 B k false (ns ++ [(4, 0)]) T) := hr
    clear hr
    go_wp2_with fail
    go_ret
    exact ⟨rfl, ends_some rfl HR.out, HR.out.below⟩
  have hb := fun (c : Int) (h : ¬ sg = c) => (beq_eq_false_iff_ne.2 h : (sg == c) = false)
  have b1 := hb 40 h40
  have b2 := hb 33 h33
  have b3 := hb 48 h48
  have b4 := hb 49 h49
  have b5 := hb 46 h46
  have hk1 : IntKind.i32.wrap k = k := by simp [IntKind.wrap, IntKind.signed, IntKind.bits]; omega
  have hk2 : IntKind.i32.wrap (97 + k) = 97 + k := by simp [IntKind.wrap, IntKind.signed, IntKind.bits]; omega
  by_cases h97 : sg < 97
  · have HE : Hid (beginS k sg ns T = none) := by show _ = _; rw [beginS, if_neg h40, if_neg h33, if_neg h48, if_neg h49, if_neg h46, if_neg (by omega)]
    rw [HE.out]
    clear h40 h33 h48 h49 h46 hb
    go_enter Tryd.func32, Tryd.ntmps32
    go_wp2_with fail
    go_ret
    exact ⟨rfl, ends_none rfl, H.out.below⟩
  · by_cases hge : 97 + k ≤ sg
    · have HE : Hid (beginS k sg ns T = none) := by show _ = _; rw [beginS, if_neg h40, if_neg h33, if_neg h48, if_neg h49, if_neg h46, if_neg (by omega)]
      rw [HE.out]
      clear h40 h33 h48 h49 h46 hb
      go_enter Tryd.func32, Tryd.ntmps32
      go_wp2_with fail
      go_ret
      exact ⟨rfl, ends_none rfl, H.out.below⟩
    · have HE : Hid (beginS k sg ns T = some (false, ns ++ [(3, sg)], T)) := by show _ = _; rw [beginS, if_neg h40, if_neg h33, if_neg h48, if_neg h49, if_neg h46, if_pos (by omega)]
      rw [HE.out]
      have hw8 : IntKind.u8.wrap sg = sg := by simp [IntKind.wrap, IntKind.signed, IntKind.bits]; omega
      clear h40 h33 h48 h49 h46 hb
      go_enter Tryd.func32, Tryd.ntmps32
      go_wp2_with fail
      refine (leaf_any w0 _ B k due _ _ H.out (by omega) 3 sg).mono ?_
      rintro e w2 ⟨rfl, hr⟩
      have HR : Hid (RX tx ps w0 w2 B k false (ns ++ [(3, sg)]) T) := hr
      clear hr
      go_wp2_with fail
      go_ret
      exact ⟨rfl, ends_some rfl HR.out, HR.out.below⟩
end Go.Proofs.YtjonlmafhijcoaaDoor
