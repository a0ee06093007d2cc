/- The document's printer: contracts of rank, at and Print. -/
import Derived.Test.YtogcnopmgfpojaaDoorVc
import Derived.Deep.DeepCutAuto
namespace Go.Proofs.YtogcnopmgfpojaaDoor
open Go Go.RowKit
set_option linter.unusedVariables false

/-- How tightly a kind binds. -/
def rankN (k : Int) : Nat := if k = 5 then 0 else if k = 6 then 1 else if k = 7 then 2 else if k = 9 then 3 else if k = 8 then 4 else 5
theorem rank_tight {k : Int} (h : 1 ≤ k ∧ k ≤ 9) {m : Nat} (hm : m ≤ 4) : rankN k < m ↔ tight k < m + 1 := by
  have hc : k = 1 ∨ k = 2 ∨ k = 3 ∨ k = 4 ∨ k = 5 ∨ k = 6 ∨ k = 7 ∨ k = 8 ∨ k = 9 := by omega
  rcases hc with rfl | rfl | rfl | rfl | rfl | rfl | rfl | rfl | rfl <;> simp [rankN, tight] <;> omega

set_option maxHeartbeats 2000000 in
set_option maxRecDepth 100000 in
theorem rank_any (k : Int) (w : World) :
    Calls Tryd.prog 31 #[.int .i64 k] w fun e w' => e = .returned (.int .i64 (rankN k : Nat)) ∧ w' = w := by
  by_cases h5 : k = 5
  · subst h5
    go_enter Tryd.func31, Tryd.ntmps31
    go_wp2_with fail
    go_ret
    exact ⟨rfl, rfl⟩
  by_cases h6 : k = 6
  · subst h6
    go_enter Tryd.func31, Tryd.ntmps31
    go_wp2_with fail
    go_ret
    exact ⟨rfl, rfl⟩
  by_cases h7 : k = 7
  · subst h7
    go_enter Tryd.func31, Tryd.ntmps31
    go_wp2_with fail
    go_ret
    exact ⟨rfl, rfl⟩
  by_cases h9 : k = 9
  · subst h9
    go_enter Tryd.func31, Tryd.ntmps31
    go_wp2_with fail
    go_ret
    exact ⟨rfl, rfl⟩
  by_cases h8 : k = 8
  · subst h8
    go_enter Tryd.func31, Tryd.ntmps31
    go_wp2_with fail
    go_ret
    exact ⟨rfl, rfl⟩
  have HE : Hid (rankN k = 5) := by show _ = _; unfold rankN; rw [if_neg h5, if_neg h6, if_neg h7, if_neg h9, if_neg h8]
  have b5 : (k == 5) = false := by simpa using h5
  have b6 : (k == 6) = false := by simpa using h6
  have b7 : (k == 7) = false := by simpa using h7
  have b9 : (k == 9) = false := by simpa using h9
  have b8 : (k == 8) = false := by simpa using h8
  rw [HE.out]
  clear h5 h6 h7 h8 h9
  go_enter Tryd.func31, Tryd.ntmps31
  go_wp2_with fail
  go_ret
  exact ⟨rfl, rfl⟩

set_option maxHeartbeats 2000000 in
set_option maxRecDepth 100000 in
theorem at_any (tx : ByteArray) (k : Int) (hk : 1 ≤ k ∧ k ≤ 9) (least : Nat) (hl : least ≤ 4) (hx : tx.size ≤ 100000) (w : World) :
    Calls Tryd.prog 30 #[.agg #[.string tx, .int .i64 k], .int .i64 (least : Int)] w fun e w' => e = .returned (.string (wth tx (tight k) (least + 1))) ∧ Below w.heap.size w w' := by
  have hb : Below w.heap.size w (w.alloc (.cells #[.string tx, .int .i64 k] 67)) := (Below.refl _ _).alloc (Nat.le_refl _) _
  have HB : Hid (Below w.heap.size w (w.alloc (.cells #[.string tx, .int .i64 k] 67))) := hb
  have hrt := rank_tight hk hl
  clear hb
  by_cases h : rankN k < least
  · have hI : (rankN k : Int) < least := by omega
    have h1 := fun W => run_string_add_sum (P := Tryd.prog) W { data := #[40] } tx (by show 1 + tx.size ≤ _; omega)
    have h2 := fun W => run_string_add_sum (P := Tryd.prog) W ({ data := #[40] } ++ tx) { data := #[41] } (by rw [ByteArray.size_append]; show 1 + tx.size + 1 ≤ _; omega)
    have HE : Hid (wth tx (tight k) (least + 1) = ({ data := #[40] } ++ tx) ++ { data := #[41] }) := by show _ = _; rw [wth, if_pos (hrt.1 h)]; rfl
    rw [HE.out]
    clear hrt
    go_enter Tryd.func30, Tryd.ntmps30
    go_wp2_with fail
    refine (rank_any k _).mono ?_
    rintro e w1 ⟨rfl, rfl⟩
    go_wp2_with fail
    go_ret
    exact ⟨rfl, HB.out⟩
  · have hI : ¬ (rankN k : Int) < least := by omega
    have HE : Hid (wth tx (tight k) (least + 1) = tx) := by show _ = _; rw [wth, if_neg (fun h' => h (hrt.2 h'))]
    rw [HE.out]
    clear hrt
    go_enter Tryd.func30, Tryd.ntmps30
    go_wp2_with fail
    refine (rank_any k _).mono ?_
    rintro e w1 ⟨rfl, rfl⟩
    go_wp2_with fail
    go_ret
    exact ⟨rfl, HB.out⟩
end Go.Proofs.YtogcnopmgfpojaaDoor
