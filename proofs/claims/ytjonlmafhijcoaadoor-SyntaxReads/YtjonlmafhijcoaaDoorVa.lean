/- Blanks: a blank more in a text changes neither nodes nor error, and the place by at most one. -/
import Derived.Test.YtjonlmafhijcoaaDoorSn
namespace Go.Proofs.YtjonlmafhijcoaaDoor
open Go Go.RowKit
set_option linter.unusedVariables false

def upR : Nat ⊕ St → Nat ⊕ St
  | .inl p => .inl (p + 1)
  | .inr s => .inr s
theorem run_up {k : Int} : ∀ (l : List UInt8) (pos : Nat) (s : St), runP k l (pos + 1) s = upR (runP k l pos s)
  | [], pos, s => rfl
  | b :: l, pos, s => by
    simp only [runP]
    split
    · exact run_up l (pos + 1) s
    · cases stepS k b.toNat s with
      | none => rfl
      | some s' => exact run_up l (pos + 1) s'
def nearR {A : Type} : Nat ⊕ A → Nat ⊕ A → Prop
  | .inl p, .inl q => q = p ∨ q = p + 1
  | .inr s, .inr s' => s' = s
  | _, _ => False
theorem run_blank {k : Int} : ∀ (a l : List UInt8) (pos : Nat) (s : St), nearR (runP k (a ++ l) pos s) (runP k (a ++ 32 :: l) pos s)
  | [], l, pos, s => by
    have h : runP k (32 :: l) pos s = runP k l (pos + 1) s := by simp [runP]
    rw [List.nil_append, List.nil_append, h, run_up]
    cases runP k l pos s <;> simp [nearR, upR]
  | b :: a, l, pos, s => by
    simp only [List.cons_append, runP]
    split
    · exact run_blank a l _ s
    · cases stepS k b.toNat s with
      | none => simp [nearR]
      | some s' => exact run_blank a l _ s'
theorem end_near {n : Nat} : ∀ (x y : Nat ⊕ St), nearR x y → nearR (endS n x) (endS (n + 1) y)
  | .inl p, .inl q, h => h
  | .inr s, .inr s', h => by
    obtain rfl : s' = s := h
    simp only [endS]
    by_cases h1 : s'.1 = true
    · simp [h1, nearR]
    · by_cases h2 : (settleR 1 s'.2.1 s'.2.2).2.isEmpty = true
      · simp only [h1, h2, if_true]; simp [nearR]
      · simp only [h1, h2]; simp [nearR]
  | .inl p, .inr s, h => h.elim
  | .inr p, .inl s, h => h.elim
theorem parse_blank {k : Int} {tx : ByteArray} {a l : List UInt8} {ty : ByteArray} (h : tx.data.toList = a ++ l) (h' : ty.data.toList = a ++ 32 :: l) : nearR (parseS k tx) (parseS k ty) := by
  have e : ty.size = tx.size + 1 := by
    have h1 : tx.data.toList.length = tx.size := by simp
    have h2 : ty.data.toList.length = ty.size := by simp
    rw [← h1, ← h2, h, h']; simp; omega
  unfold parseS
  rw [e, h, h']
  exact end_near _ _ (run_blank a l 0 _)
/-- The place that Parse tells. -/
def pplace (k : Int) (tx : ByteArray) : Nat :=
  if k < 1 ∨ 8 < k then 0 else if 1000 < tx.size then 0 else match parseS k tx with
    | .inl p => p
    | .inr _ => 0
theorem pcode_blank {k : Int} {tx ty : ByteArray} {a l : List UInt8} (hs : tx.size < 1000) (h : tx.data.toList = a ++ l) (h' : ty.data.toList = a ++ 32 :: l) : pcode k ty = pcode k tx ∧ (pplace k ty = pplace k tx ∨ pplace k ty = pplace k tx + 1) := by
  have e : ty.size = tx.size + 1 := by
    have h1 : tx.data.toList.length = tx.size := by simp
    have h2 : ty.data.toList.length = ty.size := by simp
    rw [← h1, ← h2, h, h']; simp; omega
  have hn := parse_blank (k := k) h h'
  unfold pcode pplace
  by_cases hk : k < 1 ∨ 8 < k
  · simp only [if_pos hk]; exact ⟨trivial, .inl trivial⟩
  · rw [if_neg hk, if_neg hk, if_neg hk, if_neg hk, if_neg (by omega), if_neg (by omega), if_neg (by omega), if_neg (by omega)]
    cases hx : parseS k tx with
    | inl p =>
      cases hy : parseS k ty with
      | inl q => rw [hx, hy] at hn; exact ⟨rfl, hn⟩
      | inr q => rw [hx, hy] at hn; exact hn.elim
    | inr p =>
      cases hy : parseS k ty with
      | inl q => rw [hx, hy] at hn; exact hn.elim
      | inr q =>
        rw [hx, hy] at hn
        obtain rfl : q = p := hn
        exact ⟨rfl, .inl rfl⟩
theorem run_le {k : Int} : ∀ (l : List UInt8) (pos : Nat) (s : St) (p : Nat), runP k l pos s = .inl p → p < pos + l.length
  | [], pos, s, p, h => by cases h
  | b :: l, pos, s, p, h => by
    rw [List.length_cons]
    simp only [runP] at h
    split at h
    · have := run_le l (pos + 1) s p h; omega
    · split at h
      · cases h; omega
      · next s' hs => have := run_le l (pos + 1) s' p h; omega
theorem pplace_le (k : Int) (tx : ByteArray) : pplace k tx ≤ 1000 := by
  unfold pplace
  split
  · omega
  split
  · omega
  split
  · next p h =>
    unfold parseS at h
    have hl : tx.data.toList.length = tx.size := by simp
    cases hr : runP k tx.data.toList 0 (true, [], []) with
    | inl q =>
      rw [hr] at h
      have := run_le _ _ _ _ hr
      have e : q = p := by simpa [endS] using h
      omega
    | inr s =>
      rw [hr] at h
      simp only [endS] at h
      have : tx.size = p := by
        split at h
        · exact Sum.inl.inj h
        · split at h
          · cases h
          · exact Sum.inl.inj h
      omega
  · omega
def PQ (k : Int) (tx : ByteArray) (w : World) (e : Ending) (w' : World) : Prop := ∃ u, e = .returned (.tuple #[u, .int .i64 (pplace k tx : Int), .int .i64 (pcode k tx).1]) ∧ w'.ownsRow w.heap.size 56 2 u (pcode k tx).2.length (ndC (pcode k tx).2) ∧ Below w.heap.size w w'

set_option maxHeartbeats 4000000 in
set_option maxRecDepth 100000 in
theorem parse_at (k : Int) (tx : ByteArray) (hx : tx.size ≤ 9223372036854775807) (w : World) (hT : TTab w) (hP : PTab w) :
    Calls Tryd.prog 9 #[.int .i64 k, .string tx] w fun e w' => PQ k tx w e w' := by
  by_cases hk : k < 1 ∨ 8 < k
  · have HE : Hid (pcode k tx = (20, [])) := by show _ = _; rw [pcode, if_pos hk]
    have HP : Hid (pplace k tx = 0) := by show _ = _; rw [pplace, if_pos hk]
    rcases hk with hk | hk
    · go_enter Tryd.func9, Tryd.ntmps9
      go_wp2_with fail
      go_ret3
      exact ⟨.slice none 0 0, by rw [HE.out, HP.out]; rfl, by rw [HE.out]; exact World.ownsRow_nil _ _ _ _, Below.refl _ _⟩
    · have hk1 : ¬ k < 1 := by omega
      go_enter Tryd.func9, Tryd.ntmps9
      go_wp2_with fail
      go_ret3
      exact ⟨.slice none 0 0, by rw [HE.out, HP.out]; rfl, by rw [HE.out]; exact World.ownsRow_nil _ _ _ _, Below.refl _ _⟩
  · by_cases hs : 1000 < tx.size
    · have HE : Hid (pcode k tx = (40, [])) := by show _ = _; rw [pcode, if_neg hk, if_pos hs]
      have HP : Hid (pplace k tx = 0) := by show _ = _; rw [pplace, if_neg hk, if_pos hs]
      have hk1 : ¬ k < 1 := by omega
      have hk8 : ¬ 8 < k := by omega
      have hsI : (1000 : Int) < tx.size := by omega
      clear hk
      go_enter Tryd.func9, Tryd.ntmps9
      go_wp2_with fail
      go_ret3
      exact ⟨.slice none 0 0, by rw [HE.out, HP.out]; rfl, by rw [HE.out]; exact World.ownsRow_nil _ _ _ _, Below.refl _ _⟩
    · refine (parse_any (tx := tx) k (by omega) w (by omega) hT hP).mono ?_
      rintro e w' ⟨h, hb⟩
      unfold ParseEnd at h
      unfold PQ
      rw [pcode, pplace, if_neg hk, if_neg hs, if_neg hk, if_neg hs]
      cases hp : parseS k tx with
      | inl p =>
        rw [hp] at h
        exact ⟨_, h, World.ownsRow_nil _ _ _ _, hb⟩
      | inr ns =>
        rw [hp] at h
        simp only at h ⊢
        by_cases hc : checkV k ns = 0
        · rw [if_pos hc] at h ⊢
          obtain ⟨u, he, ho⟩ := h
          exact ⟨u, he, ho, hb⟩
        · rw [if_neg hc] at h ⊢
          exact ⟨_, h, World.ownsRow_nil _ _ _ _, hb⟩
end Go.Proofs.YtjonlmafhijcoaaDoor
