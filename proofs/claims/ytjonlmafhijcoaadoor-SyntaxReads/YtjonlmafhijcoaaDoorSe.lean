/- Contracts of the reader's follow and step. -/
import Derived.Test.YtjonlmafhijcoaaDoorSd
namespace Go.Proofs.YtjonlmafhijcoaaDoor
open Go Go.RowKit
set_option linter.unusedVariables false
variable {tx : ByteArray} {ps : Nat}

set_option maxHeartbeats 8000000 in
set_option maxRecDepth 100000 in
theorem follow_r (w0 w : World) (B : Nat) (k : Int) (hk : 1 ≤ k ∧ k ≤ 8) (ns : List Nd) (T : List Wt) (h : RX tx ps w0 w B k false ns T) (hn : ns.length + 2 * T.length ≤ 80000) (hkw : KW T) (hT : TTab w0) (hB : 0 < B) (sg : Int) (hs : -2147483648 ≤ sg ∧ sg ≤ 2147483647) :
    Calls Tryd.prog 33 #[.pointer (some ⟨B, 0, none⟩), .int .i32 sg] w fun e w' => e = .returned (.bool (followS k sg ns T).isSome) ∧ Ends3 tx ps w0 w' B k (followS k sg ns T) ∧ Below B w0 w' := by
  have H : Hid (RX tx ps w0 w B k false ns T) := h
  have HT : Hid (TTab w0) := hT
  have HKW : Hid (KW T) := hkw
  clear h hT hkw
  by_cases h63 : sg = 63
  · subst h63
    have HE : Hid (followS k 63 ns T = some (false, ns ++ [(2, 0)] ++ [(5, 0)], T)) := by show _ = _; rw [followS, if_pos rfl]
    rw [HE.out]
    go_enter Tryd.func33, Tryd.ntmps33
    go_wp2_with fail
    refine (put_any w0 _ B k false _ _ H.out (by omega) 2).mono ?_
    rintro e w2 ⟨rfl, hr, _⟩
    have HR : Hid (RSt tx ps w0 w2 B k false (ns ++ [(2, 0)]) T.reverse) := hr
    clear hr
    go_wp2_with fail
    refine (put_any w0 _ B k false _ _ HR.out (by simp; omega) 5).mono ?_
    rintro e w3 ⟨rfl, hr, _⟩
    have HR3 : Hid (RX tx ps w0 w3 B k false (ns ++ [(2, 0)] ++ [(5, 0)]) T) := hr
    clear hr
    go_wp2_with fail
    go_ret
    exact ⟨rfl, ends_some rfl HR3.out, HR3.out.below⟩
  by_cases h42 : sg = 42
  · subst h42
    have HE : Hid (followS k 42 ns T = some (false, ns ++ [(8, 0)], T)) := by show _ = _; rw [followS, if_neg (by decide), if_pos rfl]
    rw [HE.out]
    go_enter Tryd.func33, Tryd.ntmps33
    go_wp2_with fail
    refine (put_any w0 _ B k false _ _ H.out (by omega) 8).mono ?_
    rintro e w3 ⟨rfl, hr, _⟩
    have HR3 : Hid (RX tx ps w0 w3 B k false (ns ++ [(8, 0)]) T) := hr
    clear hr
    go_wp2_with fail
    go_ret
    exact ⟨rfl, ends_some rfl HR3.out, HR3.out.below⟩
  by_cases h45 : sg = 45
  · subst h45
    have HE : Hid (followS k 45 ns T = some (joinS 6 true ns T)) := by show _ = _; rw [followS, if_neg (by decide), if_neg (by decide), if_pos rfl]
    rw [HE.out]
    go_enter Tryd.func33, Tryd.ntmps33
    go_wp2_with fail
    refine (join_r w0 _ B k false ns T H.out (by omega) HKW.out HT.out hB 6 (by decide) true).mono ?_
    rintro e w3 ⟨rfl, hr⟩
    have HR3 : Hid (RX tx ps w0 w3 B k true (joinS 6 true ns T).2.1 (joinS 6 true ns T).2.2) := hr
    clear hr
    go_wp2_with fail
    go_ret
    exact ⟨rfl, ends_some rfl HR3.out, HR3.out.below⟩
  by_cases h38 : sg = 38
  · subst h38
    have HE : Hid (followS k 38 ns T = some (joinS 6 false ns T)) := by show _ = _; rw [followS, if_neg (by decide), if_neg (by decide), if_neg (by decide), if_pos rfl]
    rw [HE.out]
    go_enter Tryd.func33, Tryd.ntmps33
    go_wp2_with fail
    refine (join_r w0 _ B k false ns T H.out (by omega) HKW.out HT.out hB 6 (by decide) false).mono ?_
    rintro e w3 ⟨rfl, hr⟩
    have HR3 : Hid (RX tx ps w0 w3 B k true (joinS 6 false ns T).2.1 (joinS 6 false ns T).2.2) := hr
    clear hr
    go_wp2_with fail
    go_ret
    exact ⟨rfl, ends_some rfl HR3.out, HR3.out.below⟩
  by_cases h124 : sg = 124
  · subst h124
    have HE : Hid (followS k 124 ns T = some (joinS 5 false ns T)) := by show _ = _; rw [followS, if_neg (by decide), if_neg (by decide), if_neg (by decide), if_neg (by decide), if_pos rfl]
    rw [HE.out]
    go_enter Tryd.func33, Tryd.ntmps33
    go_wp2_with fail
    refine (join_r w0 _ B k false ns T H.out (by omega) HKW.out HT.out hB 5 (by decide) false).mono ?_
    rintro e w3 ⟨rfl, hr⟩
    have HR3 : Hid (RX tx ps w0 w3 B k true (joinS 5 false ns T).2.1 (joinS 5 false ns T).2.2) := hr
    clear hr
    go_wp2_with fail
    go_ret
    exact ⟨rfl, ends_some rfl HR3.out, HR3.out.below⟩
  by_cases h41 : sg = 41
  · subst h41
    obtain ⟨n', T', he⟩ : ∃ n' T', settleR 1 ns T = (n', T') := ⟨_, _, rfl⟩
    have HS : Hid (settleR 1 ns T = (n', T')) := he
    have HE : Hid (followS k 41 ns T = if T'.isEmpty then none else some (false, n', T'.tail)) := by show _ = _; rw [followS, if_neg (by decide), if_neg (by decide), if_neg (by decide), if_neg (by decide), if_neg (by decide), if_pos rfl, he]
    rw [HE.out]
    clear he
    go_enter Tryd.func33, Tryd.ntmps33
    go_wp2_with fail
    refine (shut_r w0 _ B k false ns T H.out (by omega) HKW.out HT.out hB n' T' HS.out).mono ?_
    rintro e w3 ⟨rfl, hr⟩
    have HR3 : Hid (RX tx ps w0 w3 B k false n' T'.tail) := hr
    clear hr
    cases T' with
    | nil =>
      simp only [List.isEmpty_nil, Bool.not_true]
      go_wp2_with fail
      go_ret
      exact ⟨rfl, ends_none rfl, HR3.out.below⟩
    | cons p T' =>
      simp only [List.isEmpty_cons, Bool.not_false]
      go_wp2_with fail
      go_ret
      exact ⟨rfl, ends_some rfl HR3.out, HR3.out.below⟩
  have hb := fun (c : Int) (h : ¬ sg = c) => (beq_eq_false_iff_ne.2 h : (sg == c) = false)
  have b1 := hb 63 h63
  have b2 := hb 42 h42
  have b3 := hb 45 h45
  have b4 := hb 38 h38
  have b5 := hb 124 h124
  have b6 := hb 41 h41
  have HE : Hid (followS k sg ns T = beginS k sg (joinS 7 false ns T).2.1 (joinS 7 false ns T).2.2) := by show _ = _; rw [followS, if_neg h63, if_neg h42, if_neg h45, if_neg h38, if_neg h124, if_neg h41]
  rw [HE.out]
  have hss : (joinS 7 false ns T).2.1.length + 2 * (joinS 7 false ns T).2.2.length ≤ 90000 := by
    have := settle_size (tight ((7 : Nat) : Int)) T ns
    simp only [joinS, List.length_cons]
    omega
  obtain ⟨n7, T7, h7⟩ : ∃ n7 T7, (joinS 7 false ns T).2 = (n7, T7) := ⟨_, _, rfl⟩
  have H7 : Hid ((joinS 7 false ns T).2 = (n7, T7)) := h7
  rw [h7] at hss ⊢
  simp only at hss ⊢
  obtain ⟨o, ho⟩ : ∃ o, beginS k sg n7 T7 = o := ⟨_, rfl⟩
  have HO : Hid (beginS k sg n7 T7 = o) := ho
  rw [ho]
  clear h63 h42 h45 h38 h124 h41 hb h7 ho HE
  go_enter Tryd.func33, Tryd.ntmps33
  go_wp2_with fail
  refine (join_r w0 _ B k false ns T H.out (by omega) HKW.out HT.out hB 7 (by decide) false).mono ?_
  rintro e w3 ⟨rfl, hr⟩
  have HR3 : Hid (RX tx ps w0 w3 B k true n7 T7) := by
    have : RX tx ps w0 w3 B k true (joinS 7 false ns T).2.1 (joinS 7 false ns T).2.2 := hr
    rwa [H7.out] at this
  clear hr
  go_wp2_with fail
  refine (begin_r w0 _ B k hk true n7 T7 HR3.out hss sg hs).mono ?_
  rintro e w4 ⟨rfl, hr, hbl⟩
  rw [HO.out] at hr
  have HBL : Hid (Below B w0 w4) := hbl
  rw [HO.out]
  have HR4 : Hid (Ends3 tx ps w0 w4 B k o) := hr
  clear hr hbl
  go_wp2_with fail
  go_ret
  exact ⟨rfl, HR4.out, HBL.out⟩

set_option maxHeartbeats 4000000 in
set_option maxRecDepth 100000 in
theorem step_r (w0 w : World) (B : Nat) (k : Int) (due : Bool) (ns : List Nd) (T : List Wt) (h : RX tx ps w0 w B k due ns T) :
    Calls Tryd.prog 19 #[.pointer (some ⟨B, 0, none⟩)] w fun e w' => e = .returned (.func (Fn.func (if due then 32 else 33)) #[.pointer (some ⟨B, 0, none⟩)] #[]) ∧ w' = w := by
  obtain ⟨na, nc, wa, wc, hr⟩ := h
  have c1 := hr.cells.2.1
  clear hr
  cases due with
  | true =>
    go_enter Tryd.func19, Tryd.ntmps19
    go_wp2_with fail
    go_ret
    exact ⟨rfl, rfl⟩
  | false =>
    go_enter Tryd.func19, Tryd.ntmps19
    go_wp2_with fail
    go_ret
    exact ⟨rfl, rfl⟩
end Go.Proofs.YtjonlmafhijcoaaDoor
