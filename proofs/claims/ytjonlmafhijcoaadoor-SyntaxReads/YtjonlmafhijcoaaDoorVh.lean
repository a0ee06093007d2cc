/- The document's reader: its state, what its calls keep; contracts of next, broken, letter, begins, leaf. -/
import Derived.Test.YtjonlmafhijcoaaDoorVc
namespace Go.Proofs.YtjonlmafhijcoaaDoor
open Go Go.RowKit
set_option linter.unusedVariables false

/-- All blocks but B stay. -/
structure RK (B : Nat) (w w' : World) : Prop where
  os : w'.os = w.os
  tape : w'.tape = w.tape
  output : w'.output = w.output
  size : w.heap.size ≤ w'.heap.size
  block : ∀ j, j < w.heap.size → j ≠ B → w'.heap[j]? = w.heap[j]?
theorem RK.refl (B : Nat) (w : World) : RK B w w := ⟨rfl, rfl, rfl, Nat.le_refl _, fun _ _ _ => rfl⟩
theorem RK.trans {B : Nat} {a b c : World} (h : RK B a b) (k : RK B b c) : RK B a c :=
  ⟨k.os.trans h.os, k.tape.trans h.tape, k.output.trans h.output, Nat.le_trans h.size k.size, fun j hj hB => (k.block j (Nat.lt_of_lt_of_le hj h.size) hB).trans (h.block j hj hB)⟩
theorem RK.of {B : Nat} {w w' : World} (h : Below w.heap.size w w') : RK B w w' := ⟨h.os, h.tape, h.output, h.size, fun j hj _ => h.block j hj⟩
theorem RK.drew {B : Nat} {w w' : World} (h : RK B w w') : RK B w w'.drew := ⟨h.os, h.tape, h.output, h.size, h.block⟩
theorem RK.drewN {B : Nat} {w w' : World} (h : RK B w w') (q : Nat) : RK B w (w'.drewN q) := ⟨h.os, h.tape, h.output, h.size, h.block⟩
theorem RK.set {B : Nat} {w w' : World} (h : RK B w w') (i : Nat) (u : Value) : RK B w (w'.setCell ⟨B, i, none⟩ u) := by
  have hb : Below B w' (w'.setCell ⟨B, i, none⟩ u) := (Below.refl B w').setCell (p := ⟨B, i, none⟩) (Nat.le_refl _) u
  exact ⟨hb.os.trans h.os, hb.tape.trans h.tape, hb.output.trans h.output, Nat.le_trans h.size hb.size, fun j hj hB => (Below.heap_setCell _ _ _ _ hB).trans (h.block j hj hB)⟩
theorem RK.below {B : Nat} {w w' : World} (h : RK B w w') : Below B w w' ∨ w.heap.size ≤ B := by
  by_cases hB : w.heap.size ≤ B
  · exact .inr hB
  · exact .inl ⟨h.os, h.tape, h.output, h.size, fun j hj => h.block j (by omega) (by omega)⟩
/-- A row of the call's own that lies elsewhere stays. -/
theorem RK.own {B : Nat} {w w' : World} (h : RK B w w') {base : Nat} {e : TypeId} {size n : Nat} {v : Value} {xs : List Value} (ho : w.ownsRow base e size v n xs) (hB : B < base) : w'.ownsRow base e size v n xs :=
  own_keep ho (fun b hb => by
    have := ho.lt b hb
    exact h.block b this.2 (by omega))
/-- The reader: letters, text, how far it was read, where it broke. -/
def RD (w : World) (B : Nat) (k : Int) (tx : ByteArray) (p : Nat) (bad : Int) : Prop := w.heap[B]? = some (.cells #[.int .i64 k, .string tx, .int .i64 (p : Int), .int .i64 bad] 50 (0, 0))
theorem RD.cells {w : World} {B : Nat} {k : Int} {tx : ByteArray} {p : Nat} {bad : Int} (h : RD w B k tx p bad) : w.cell? ⟨B, 0, none⟩ = some (.int .i64 k) ∧ w.cell? ⟨B, 1, none⟩ = some (.string tx) ∧ w.cell? ⟨B, 2, none⟩ = some (.int .i64 (p : Int)) ∧ w.cell? ⟨B, 3, none⟩ = some (.int .i64 bad) := by
  unfold RD at h
  simp [World.cell?, h]
theorem RD.frozen {w : World} {B : Nat} {k : Int} {tx : ByteArray} {p : Nat} {bad : Int} (h : RD w B k tx p bad) (i : Nat) : w.frozen? ⟨B, i, none⟩ = false := by
  unfold RD at h
  simp [World.frozen?, h]
theorem RD.lt {w : World} {B : Nat} {k : Int} {tx : ByteArray} {p : Nat} {bad : Int} (h : RD w B k tx p bad) : B < w.heap.size := (Array.getElem?_eq_some_iff.1 h).1
theorem RD.set2 {w : World} {B : Nat} {k : Int} {tx : ByteArray} {p : Nat} {bad : Int} (h : RD w B k tx p bad) (q : Nat) : RD (w.setCell ⟨B, 2, none⟩ (.int .i64 (q : Int))) B k tx q bad := blk_set h _
theorem RD.set3 {w : World} {B : Nat} {k : Int} {tx : ByteArray} {p : Nat} {bad : Int} (h : RD w B k tx p bad) (q : Int) : RD (w.setCell ⟨B, 3, none⟩ (.int .i64 q)) B k tx p q := blk_set h _
theorem RD.stay {w w' : World} {B : Nat} {k : Int} {tx : ByteArray} {p : Nat} {bad : Int} (h : RD w B k tx p bad) (hb : Below w.heap.size w w') : RD w' B k tx p bad := (hb.block B h.lt).trans h
def atN (w : World) (B : Nat) : Nat := match w.cell? ⟨B, 2, none⟩ with
  | some (.int _ n) => n.toNat
  | _ => 0
theorem atN_eq {w : World} {B : Nat} {k : Int} {tx : ByteArray} {p : Nat} {bad : Int} (h : RD w B k tx p bad) : atN w B = p := by
  unfold atN
  rw [h.cells.2.2.1]
  simp
/-- Only blanks lie from p up to ahead of q, and none at q. -/
def Blank (tx : ByteArray) (p q : Nat) : Prop := ∀ j (hj : j < tx.size), p ≤ j → j < q → (tx[j]).toNat = 32
def Skips (tx : ByteArray) (p q : Nat) : Prop := p ≤ q ∧ q ≤ tx.size ∧ Blank tx p q ∧ ∀ hj : q < tx.size, (tx[q]).toNat ≠ 32
/-- The sign at a place; 0 at the end. -/
def sgn (tx : ByteArray) (p : Nat) : Int := if h : p < tx.size then ((tx[p]).toNat : Int) else 0

set_option maxHeartbeats 4000000 in
set_option maxRecDepth 100000 in
theorem next_any (w : World) (B : Nat) (k : Int) (tx : ByteArray) (p : Nat) (bad : Int) (h : RD w B k tx p bad) (hp : p ≤ tx.size) (hx : tx.size ≤ 1000) :
    Calls Tryd.prog 24 #[.pointer (some ⟨B, 0, none⟩)] w fun e w' => ∃ q, Skips tx p q ∧ e = .returned (.int .u8 (sgn tx q)) ∧ RD w' B k tx q bad ∧ RK B w w' := by
  have HR0 : Hid (RD w B k tx p bad) := h
  clear h
  go_enter Tryd.func24, Tryd.ntmps24
  go_wp2_with fail
  go_loopw [] (fun wr => ∃ q : Nat, p ≤ q ∧ q ≤ tx.size ∧ Blank tx p q ∧ RD wr B k tx q bad ∧ RK B w wr) (fun wr => tx.size - atN wr B)
  case atStart => exact ⟨p, Nat.le_refl _, hp, fun j hj h1 h2 => by omega, HR0.out, RK.refl _ _⟩
  case round =>
    clear HR0
    obtain ⟨q, hpq, hq, hbl, hrd, hrk⟩ := hrel
    have HBL : Hid (Blank tx p q) := hbl
    have HRD : Hid (RD wr B k tx q bad) := hrd
    have HRK : Hid (RK B w wr) := hrk
    obtain ⟨c0, c1, c2, c3⟩ := hrd.cells
    clear hbl hrd hrk
    by_cases hlt : q < tx.size
    · have hltI : (q : Int) < tx.size := by omega
      by_cases h32 : (tx[q]).toNat = 32
      · have hb32 : (((tx[q]).toNat : Int) == 32) = true := by rw [h32]; rfl
        have HB2 : Hid (Blank tx p (q + 1)) := fun j hj h1 h2 => by
          by_cases e : j = q
          · subst e; exact h32
          · exact HBL.out j hj h1 (by omega)
        clear h32
        have f2 := fun n => HRD.out.frozen n
        have hwr : IntKind.i64.wrap ((q : Int) + 1) = ((q + 1 : Nat) : Int) := by rw [IntKind.wrap_i64]; omega
        go_wp2_with fail
        go_region
        go_wp2_with fail
        go_roundw
        case rel => exact ⟨q + 1, by omega, by omega, HB2.out, RD.set2 (w := wr.drew) HRD.out (q + 1), (HRK.out.drew).set _ _⟩
        case measure =>
          have h9 : RD ((wr.setCell ⟨B, 2, none⟩ (.int .i64 ((q : Int) + 1))).drew) B k tx (q + 1) bad := RD.set2 (w := wr.drew) HRD.out (q + 1)
          rw [atN_eq h9, atN_eq HRD.out]
          omega
      · have hb32 : (((tx[q]).toNat : Int) == 32) = false := by rw [beq_eq_false_iff_ne]; omega
        have HSK : Hid (Skips tx p q) := ⟨hpq, hq, HBL.out, fun _ => h32⟩
        have HSG : Hid (sgn tx q = ((tx[q]).toNat : Int)) := by show _ = _; rw [sgn, dif_pos hlt]
        have hne : ((q : Int) == (tx.size : Int)) = false := by rw [beq_eq_false_iff_ne]; omega
        clear h32
        go_wp2_with fail
        go_region
        go_wp2_with fail
        go_region
        go_wp2_with fail
        go_region
        go_wp2_with fail
        go_ret
        exact ⟨q, HSK.out, by rw [HSG.out]; rfl, HRD.out, HRK.out.drew.drew.drew⟩
    · have hltI : ¬ (q : Int) < tx.size := by omega
      have heq : ((q : Int) == (tx.size : Int)) = true := by rw [beq_iff_eq]; omega
      have HSK : Hid (Skips tx p q) := ⟨hpq, hq, HBL.out, fun hj => absurd hj hlt⟩
      have HSG : Hid (sgn tx q = 0) := by show _ = _; rw [sgn, dif_neg hlt]
      go_wp2_with fail
      go_region
      go_wp2_with fail
      go_region
      go_wp2_with fail
      go_ret
      exact ⟨q, HSK.out, by rw [HSG.out]; rfl, HRD.out, HRK.out.drew.drew⟩

set_option maxHeartbeats 4000000 in
set_option maxRecDepth 100000 in
/-- It breaks here, if it did not before. -/
theorem broken_any (w : World) (B : Nat) (k : Int) (tx : ByteArray) (p : Nat) (h : RD w B k tx p (-1)) (hp : p ≤ tx.size) (hx : tx.size ≤ 1000) :
    Calls Tryd.prog 25 #[.pointer (some ⟨B, 0, none⟩)] w fun e w' => ∃ q, Skips tx p q ∧ e = .returned (.slice none 0 0) ∧ RD w' B k tx q (q : Int) ∧ RK B w w' := by
  have HR0 : Hid (RD w B k tx p (-1)) := h
  obtain ⟨c0, c1, c2, c3⟩ := h.cells
  clear h
  go_enter Tryd.func25, Tryd.ntmps25
  go_wp2_with fail
  refine (next_any w B k tx p (-1) HR0.out hp hx).mono ?_
  rintro e w1 ⟨q, hsk, rfl, hr, hk⟩
  have HR1 : Hid (RD w1 B k tx q (-1)) := hr
  have HSK : Hid (Skips tx p q ∧ RK B w w1) := ⟨hsk, hk⟩
  obtain ⟨d0, d1, d2, d3⟩ := hr.cells
  have f3 := hr.frozen 3
  clear hr hsk hk c0 c1 c2 c3
  go_wp2_with fail
  go_ret
  exact ⟨q, HSK.out.1, rfl, RD.set3 HR1.out q, HSK.out.2.set _ _⟩
/-- One of the first k letters. -/
def isL (k c : Int) : Bool := decide (97 ≤ c ∧ c < 97 + k)
/-- A sign that begins a part. -/
def begB (k c : Int) : Bool := isL k c || c == 48 || c == 49 || c == 46 || c == 40 || c == 33

set_option maxHeartbeats 4000000 in
set_option maxRecDepth 100000 in
theorem letter_any (w : World) (B : Nat) (k : Int) (hk : 1 ≤ k ∧ k ≤ 8) (tx : ByteArray) (p : Nat) (bad : Int) (h : RD w B k tx p bad) (c : Int) (hc : 0 ≤ c ∧ c ≤ 255) :
    Calls Tryd.prog 58 #[.pointer (some ⟨B, 0, none⟩), .int .u8 c] w fun e w' => e = .returned (.bool (isL k c)) ∧ w' = w := by
  obtain ⟨c0, c1, c2, c3⟩ := h.cells
  clear h
  by_cases h1 : 97 ≤ c
  · have hw : IntKind.u8.wrap (c - 97) = c - 97 := by rw [IntKind.wrap_u8]; omega
    have hw2 : IntKind.i64.wrap (c - 97) = c - 97 := by rw [IntKind.wrap_i64]; omega
    by_cases h2 : c - 97 < k
    · have HE : Hid (isL k c = true) := by show _ = _; unfold isL; rw [decide_eq_true]; omega
      rw [HE.out]
      go_enter Tryd.func58, Tryd.ntmps58
      go_wp2_with fail
      go_ret
      exact ⟨rfl, rfl⟩
    · have HE : Hid (isL k c = false) := by show _ = _; unfold isL; rw [decide_eq_false]; omega
      rw [HE.out]
      go_enter Tryd.func58, Tryd.ntmps58
      go_wp2_with fail
      go_ret
      exact ⟨rfl, rfl⟩
  · have HE : Hid (isL k c = false) := by show _ = _; unfold isL; rw [decide_eq_false]; omega
    rw [HE.out]
    go_enter Tryd.func58, Tryd.ntmps58
    go_wp2_with fail
    go_ret
    exact ⟨rfl, rfl⟩
set_option maxHeartbeats 4000000 in
set_option maxRecDepth 100000 in
theorem begins_any (w : World) (B : Nat) (k : Int) (hk : 1 ≤ k ∧ k ≤ 8) (tx : ByteArray) (p : Nat) (bad : Int) (h : RD w B k tx p bad) (c : Int) (hc : 0 ≤ c ∧ c ≤ 255) :
    Calls Tryd.prog 55 #[.pointer (some ⟨B, 0, none⟩), .int .u8 c] w fun e w' => e = .returned (.bool (begB k c)) ∧ w' = w := by
  obtain ⟨l, hl⟩ : ∃ l, isL k c = l := ⟨_, rfl⟩
  have HL : Hid (isL k c = l) := hl
  have HR : Hid (RD w B k tx p bad) := h
  clear hl h
  cases l with
  | true =>
    have HE : Hid (begB k c = true) := by show _ = _; unfold begB; rw [HL.out]; simp [*]
    rw [HE.out]
    go_enter Tryd.func55, Tryd.ntmps55
    go_wp2_with fail
    refine (letter_any w B k hk tx p bad HR.out c hc).mono ?_
    rintro e w1 ⟨rfl, rfl⟩
    rw [HL.out]
    go_wp2_with fail
    go_ret
    exact ⟨rfl, rfl⟩
  | false =>
    by_cases h48 : c = 48
    · have b48 : (c == 48) = true := by simpa using h48
      clear h48
      have HE : Hid (begB k c = true) := by show _ = _; unfold begB; rw [HL.out]; simp [*]
      rw [HE.out]
      go_enter Tryd.func55, Tryd.ntmps55
      go_wp2_with fail
      refine (letter_any w B k hk tx p bad HR.out c hc).mono ?_
      rintro e w1 ⟨rfl, rfl⟩
      rw [HL.out]
      go_wp2_with fail
      go_ret
      exact ⟨rfl, rfl⟩
    have b48 : (c == 48) = false := by simpa using h48
    clear h48
    by_cases h49 : c = 49
    · have b49 : (c == 49) = true := by simpa using h49
      clear h49
      have HE : Hid (begB k c = true) := by show _ = _; unfold begB; rw [HL.out]; simp [*]
      rw [HE.out]
      go_enter Tryd.func55, Tryd.ntmps55
      go_wp2_with fail
      refine (letter_any w B k hk tx p bad HR.out c hc).mono ?_
      rintro e w1 ⟨rfl, rfl⟩
      rw [HL.out]
      go_wp2_with fail
      go_ret
      exact ⟨rfl, rfl⟩
    have b49 : (c == 49) = false := by simpa using h49
    clear h49
    by_cases h46 : c = 46
    · have b46 : (c == 46) = true := by simpa using h46
      clear h46
      have HE : Hid (begB k c = true) := by show _ = _; unfold begB; rw [HL.out]; simp [*]
      rw [HE.out]
      go_enter Tryd.func55, Tryd.ntmps55
      go_wp2_with fail
      refine (letter_any w B k hk tx p bad HR.out c hc).mono ?_
      rintro e w1 ⟨rfl, rfl⟩
      rw [HL.out]
      go_wp2_with fail
      go_ret
      exact ⟨rfl, rfl⟩
    have b46 : (c == 46) = false := by simpa using h46
    clear h46
    by_cases h40 : c = 40
    · have b40 : (c == 40) = true := by simpa using h40
      clear h40
      have HE : Hid (begB k c = true) := by show _ = _; unfold begB; rw [HL.out]; simp [*]
      rw [HE.out]
      go_enter Tryd.func55, Tryd.ntmps55
      go_wp2_with fail
      refine (letter_any w B k hk tx p bad HR.out c hc).mono ?_
      rintro e w1 ⟨rfl, rfl⟩
      rw [HL.out]
      go_wp2_with fail
      go_ret
      exact ⟨rfl, rfl⟩
    have b40 : (c == 40) = false := by simpa using h40
    clear h40
    by_cases h33 : c = 33
    · have b33 : (c == 33) = true := by simpa using h33
      clear h33
      have HE : Hid (begB k c = true) := by show _ = _; unfold begB; rw [HL.out]; simp [*]
      rw [HE.out]
      go_enter Tryd.func55, Tryd.ntmps55
      go_wp2_with fail
      refine (letter_any w B k hk tx p bad HR.out c hc).mono ?_
      rintro e w1 ⟨rfl, rfl⟩
      rw [HL.out]
      go_wp2_with fail
      go_ret
      exact ⟨rfl, rfl⟩
    have b33 : (c == 33) = false := by simpa using h33
    clear h33
    have HE : Hid (begB k c = false) := by show _ = _; unfold begB; rw [HL.out]; simp [*]
    rw [HE.out]
    go_enter Tryd.func55, Tryd.ntmps55
    go_wp2_with fail
    refine (letter_any w B k hk tx p bad HR.out c hc).mono ?_
    rintro e w1 ⟨rfl, rfl⟩
    rw [HL.out]
    go_wp2_with fail
    go_ret
    exact ⟨rfl, rfl⟩
end Go.Proofs.YtjonlmafhijcoaaDoor
