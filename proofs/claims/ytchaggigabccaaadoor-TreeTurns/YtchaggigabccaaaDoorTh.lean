/- Contracts of tree.Depth (of a tree), of the law's num, Some and knows: it answers true. -/
import Derived.Test.YtchaggigabccaaaDoorTf
import Derived.Test.YtchaggigabccaaaDoorTg
import Derived.Deep.RegionHeld3
namespace Go.Proofs.YtchaggigabccaaaDoor
open Go.RowKit

theorem num_any (e0 : Int) (w : World) :
    Calls Tryd.prog 15 #[.int .i64 e0] w fun e w' => e = .returned (.int .i64 e0) ∧ w' = w := by
  go_enter Tryd.func15, Tryd.ntmps15
  go_wp2
  go_ret
  exact ⟨rfl, rfl⟩
/-- a b*. -/
def someT : List Nd := [(3, 97), (3, 98), (8, 0), (7, 0)]
def someA : Array Value := #[.int .i64 3, .int .u8 97, .int .i64 3, .int .u8 98, .int .i64 8, .int .u8 0, .int .i64 7, .int .u8 0]
theorem some_any (w : World) :
    Calls Tryd.prog 38 #[] w fun e w' => e = .returned (.slice (some ⟨w.heap.size, 0, none⟩) 4 4) ∧ w' = w.alloc (.cells someA 36) := by
  unfold someA
  go_enter Tryd.func38, Tryd.ntmps38
  go_wp2
  go_ret
  exact ⟨rfl, rfl⟩
theorem some_reads (w : World) : NReads (w.alloc (.cells someA 36)) (.slice (some ⟨w.heap.size, 0, none⟩) 4 4) someT := by
  refine ⟨_, 4, rfl, fun i hi => ⟨w.heap.size, 0, rfl, by simp, ?_, ?_⟩⟩
  · rw [(RowAt.last w someA 36).cell]
    have : i = 0 ∨ i = 1 ∨ i = 2 ∨ i = 3 := by simp [someT] at hi; omega
    rcases this with rfl | rfl | rfl | rfl <;> rfl
  · rw [(RowAt.last w someA 36).cell]
    have : i = 0 ∨ i = 1 ∨ i = 2 ∨ i = 3 := by simp [someT] at hi; omega
    rcases this with rfl | rfl | rfl | rfl <;> rfl
theorem some_mid (w : World) : NReads (w.alloc (.cells someA 36)) (.slice (some ⟨w.heap.size, 2, none⟩) 2 3) [(3, 98), (8, 0)] := by
  refine ⟨_, 3, rfl, fun i hi => ⟨w.heap.size, 2, rfl, by simp, ?_, ?_⟩⟩
  · rw [(RowAt.last w someA 36).cell]
    have : i = 0 ∨ i = 1 := by simp at hi; omega
    rcases this with rfl | rfl <;> rfl
  · rw [(RowAt.last w someA 36).cell]
    have : i = 0 ∨ i = 1 := by simp at hi; omega
    rcases this with rfl | rfl <;> rfl
theorem some_free : freeN someT = some 1 := by decide
theorem some_wrong : wrong someT = 0 := by decide
theorem some_stk : stkN (someT.take (someT.length - 1)) = [2, 1] := by decide
theorem some_depth : (heavyN (fun _ => 1) someT).getD 0 0 = 3 := by decide

set_option maxHeartbeats 1000000 in
theorem depth_any (v : Value) (ts : List Nd) (w : World) (hv : NReads w v ts) (hm : ts.length ≤ 4000) (hP : PTab w) (hok : wrong ts = 0) (hf : freeN ts = some 1) :
    Calls Tryd.prog 11 #[v] w fun e w' => e = .returned (.tuple #[.int .i64 (((heavyN (fun _ => 1) ts).getD 0 0 : Nat) : Int), .int .i64 0]) ∧ Below w.heap.size w w' := by
  have HV : Hid (NReads w v ts) := hv
  have HP : Hid (PTab w) := hP
  have HX : Hid (wrong ts = 0) := hok
  have HF : Hid (freeN ts = some 1) := hf
  clear hv hP hok hf
  go_enter Tryd.func11, Tryd.ntmps11
  go_wp2_with fail
  refine (way_depth v ts w HV.out hm HP.out HX.out HF.out).mono ?_
  rintro e w1 ⟨rfl, hb1⟩
  go_wp2_with fail
  go_ret2
  exact ⟨rfl, hb1⟩

/-- Two blocks hold what they hold; nothing below W's end is written. -/
abbrev M2 (W : World) (p1 p2 : Nat) (l1 l2 : Array Value) (w' : World) : Prop := (∀ o, w'.cell? ⟨p1, o, none⟩ = l1[o]?) ∧ (∀ o, w'.cell? ⟨p2, o, none⟩ = l2[o]?) ∧ Below W.heap.size W w'
theorem m2_of {W : World} {p1 p2 : Nat} {l1 l2 : Array Value} (r1 : RowAt W p1 l1) (r2 : RowAt W p2 l2) {w' : World} (h : Below W.heap.size W w') : M2 W p1 p2 l1 l2 w' := ⟨(r1.stay h).cell, (r2.stay h).cell, h⟩
theorem m2_below {W : World} {p1 p2 : Nat} {l1 l2 : Array Value} {w' : World} (h : M2 W p1 p2 l1 l2 w') : Below W.heap.size W w' := h.2.2
theorem m2_step {W : World} {p1 p2 : Nat} {l1 l2 : Array Value} (r1 : RowAt W p1 l1) (r2 : RowAt W p2 l2) {w1 w2 : World} (hb : Below w1.heap.size w1 w2) (h : M2 W p1 p2 l1 l2 w1) : M2 W p1 p2 l1 l2 w2 := m2_of r1 r2 (go_on h.2.2 hb)
theorem m2_alloc {W : World} {p1 p2 : Nat} {l1 l2 : Array Value} (r1 : RowAt W p1 l1) (r2 : RowAt W p2 l2) {w1 : World} (O : Obj) (h : M2 W p1 p2 l1 l2 w1) : M2 W p1 p2 l1 l2 (w1.alloc O) := m2_step r1 r2 ((Below.refl _ _).alloc (Nat.le_refl _) O) h

set_option maxHeartbeats 4000000 in
set_option maxRecDepth 100000 in
theorem knows_any (w : World) (hP : PTab w) :
    Calls Tryd.prog 18 #[] w fun e w' => e = .returned (.bool true) ∧ Below w.heap.size w w' := by
  have HP : Hid (PTab w) := hP
  clear hP
  have BA : Hid (Below w.heap.size w (w.alloc (.cells someA 36))) := (Below.refl _ _).alloc (Nat.le_refl _) _
  go_enter Tryd.func18, Tryd.ntmps18
  go_wp2_with fail
  refine (some_any _).mono ?_
  rintro e w1 ⟨rfl, rfl⟩
  go_wp2_with fail
  have hpt := parts_two (.slice (some ⟨w.heap.size, 0, none⟩) 4 4) someT (w.alloc (.cells someA 36)) (some_reads w) (by decide) (HP.out.stay BA.out) some_wrong some_free 7 0 rfl (by decide) 2 1 some_stk (by intro a n c h; simp at h; omega)
  refine hpt.mono ?_
  clear hpt
  rintro e w2 ⟨G, v1, v2, B, rfl, hG, hB, hPB, ho1, ho2, _, hb2⟩
  have HO2 : Hid (w2.ownsRow (w.heap.size + 1) 36 2 v2 2 (ndC [(3, 98), (8, 0)])) := by
    have h2 : w2.ownsRow (w.alloc (.cells someA 36)).heap.size 36 2 v2 2 (ndC [(3, 98), (8, 0)]) := ho2
    rw [World.size_alloc] at h2
    exact h2
  have HB2 : Hid (Below w.heap.size w w2) := go_on BA.out hb2
  have HPB : Hid (PB w2 G #[v1, v2]) := hPB
  have ho1' : w2.ownsRow B 36 2 v1 1 (ndC [(3, 97)]) := ho1
  obtain ⟨a1, c1, rfl⟩ := own_shape ho1'
  obtain ⟨a2, c2, rfl⟩ := own_shape HO2.out
  clear hb2 ho1 ho1' ho2 hPB hB
  unfold ndV
  go_wp2_with fail
  have RB := RowAt.last w2 #[.int .i64 7, .int .u8 0] 36
  have RG : RowAt (w2.alloc (.cells #[.int .i64 7, .int .u8 0] 36)) G #[.slice a1 1 c1, .slice a2 2 c2] := RowAt.alloc ⟨HPB.out.lt, HPB.out.get⟩ _
  have HB3 : Hid (Below w.heap.size w (w2.alloc (.cells #[.int .i64 7, .int .u8 0] 36))) := HB2.out.alloc HB2.out.size _
  generalize hWg : w2.alloc (.cells #[.int .i64 7, .int .u8 0] 36) = W3 at RB RG HB3 ⊢
  have HO3 : Hid (W3.ownsRow (w.heap.size + 1) 36 2 (.slice a2 2 c2) 2 (ndC [(3, 98), (8, 0)])) := by
    show World.ownsRow _ _ _ _ _ _ _
    rw [← hWg]
    exact HO2.out.alloc _
  clear hWg
  refine (some_any _).mono ?_
  rintro e w4 ⟨rfl, rfl⟩
  have BW : Hid (Below W3.heap.size W3 (W3.alloc (.cells someA 36))) := (Below.refl _ _).alloc (Nat.le_refl _) _
  go_wp2_with fail
  refine (depth_any _ someT _ (some_reads W3) (by decide) ((HP.out.stay HB3.out).stay BW.out) some_wrong some_free).mono ?_
  rintro e w5 ⟨rfl, hb5⟩
  rw [some_depth]
  have HB5 : Hid (Below W3.heap.size W3 w5) := go_on BW.out hb5
  have RB5 := RB.stay HB5.out
  have RG5 := RG.stay HB5.out
  have HO5 : Hid (w5.ownsRow (w.heap.size + 1) 36 2 (.slice a2 2 c2) 2 (ndC [(3, 98), (8, 0)])) := own_below HO3.out HB5.out
  have HBW : Hid (Below w.heap.size w w5) := go_on HB3.out HB5.out
  have S0 : M2 w5 w2.heap.size G #[.int .i64 7, .int .u8 0] #[.slice a1 1 c1, .slice a2 2 c2] w5.drew := m2_of RB5 RG5 (Below.refl _ _).drew
  clear hb5 RB RG
  go_wp2_with fail
  go_region_held3 (fun w' => M2 w5 w2.heap.size G #[.int .i64 7, .int .u8 0] #[.slice a1 1 c1, .slice a2 2 c2] w') (first | exact S0 | assumption | exact m2_step RB5 RG5 (by assumption) (by assumption) | exact m2_alloc RB5 RG5 _ (by assumption)) (first
    | (go_at_call 15; refine (num_any _ _).mono ?_; rintro e wn ⟨rfl, rfl⟩)
    | (go_at_call 38; refine (some_any _).mono ?_; rintro e y1 ⟨rfl, rfl⟩)
    | (go_at_call 26; refine (same_any _ _ [(3, 98), (8, 0)] [(3, 98), (8, 0)] _ (by exact own_nreads (base := w.heap.size + 1) (own_below HO5.out (m2_below (by assumption)))) (by exact some_mid _) (by decide)).mono ?_; rintro e y2 ⟨rfl, hy2⟩; rw [decide_eq_true rfl]))
  all_goals go_wp2_with fail
  all_goals go_ret
  all_goals exact ⟨rfl, go_on HBW.out (m2_below (by assumption))⟩

end Go.Proofs.YtchaggigabccaaaDoor
