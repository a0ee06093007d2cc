/- Words as bytes and as letters; the document's Order. -/
import Derived.Test.YthmnoepjkobcmaaE2
import Derived.Test.YthmnoepjkobcmaaJe
import Derived.Lib.Bytealg
namespace Go.Proofs.Ythmnoepjkobcmaa
open Go Go.RowKit
set_option linter.unusedVariables false

/-- What strings.Compare answers. -/
def sc (a b : ByteArray) : Int := Lib.compareBytes a.data.toList b.data.toList
/-- Length, then letters. -/
def ord (a b : ByteArray) : Int := if a.size < b.size then -1 else if b.size < a.size then 1 else sc a b

set_option maxHeartbeats 400000 in
set_option maxRecDepth 100000 in
theorem bcompare_any (a b : ByteArray) (w : World) :
    Calls Try.prog 81 #[.string a, .string b] w fun e w' => e = .returned (.int .i64 (sc a b)) ∧ w' = w := by
  go_enter Try.func81, Try.ntmps81
  go_wp2
  rw [run_callFunc_extern Try.func91 (by kernel_rfl) (by kernel_rfl) (by kernel_rfl) (e := Extern.BytealgCompare.compare) (by kernel_rfl), Lib.run_compareString]
  simp only [Result.andThen]
  rw [Oper.upon_value]
  go_wp2
  go_ret
  exact ⟨rfl, rfl⟩

set_option maxHeartbeats 400000 in
theorem scompare_any (a b : ByteArray) (w : World) :
    Calls Try.prog 66 #[.string a, .string b] w fun e w' => e = .returned (.int .i64 (sc a b)) ∧ w' = w := by
  go_enter Try.func66, Try.ntmps66
  go_wp2_with (go_at_call 81; refine (bcompare_any _ _ _).mono ?_; rintro e w1 ⟨rfl, rfl⟩)
  go_ret
  exact ⟨rfl, rfl⟩

set_option maxHeartbeats 400000 in
theorem order_any (u v : ByteArray) (w : World) :
    Calls Try.prog 40 #[.string u, .string v] w fun e w' => e = .returned (.int .i64 (ord u v)) ∧ w' = w := by
  by_cases h : u.size < v.size
  · have HF : Hid (ord u v = -1) := by show ord u v = -1; simp [ord, h]
    have h1 : ((u.size : Int) != v.size) = true := by rw [bne_iff_ne]; omega
    go_enter Try.func40, Try.ntmps40
    go_wp2
    go_ret
    exact ⟨ret_intJ HF.out.symm, rfl⟩
  by_cases g : v.size < u.size
  · have HF : Hid (ord u v = 1) := by show ord u v = 1; simp [ord, h, g]
    have h1 : ((u.size : Int) != v.size) = true := by rw [bne_iff_ne]; omega
    go_enter Try.func40, Try.ntmps40
    go_wp2
    go_ret
    exact ⟨ret_intJ HF.out.symm, rfl⟩
  have HF : Hid (ord u v = sc u v) := by show ord u v = sc u v; simp [ord, h, g]
  have h1 : ((u.size : Int) != v.size) = false := by rw [bne_eq_false_iff_eq]; omega
  go_enter Try.func40, Try.ntmps40
  go_wp2_with (go_at_call 66; refine (scompare_any _ _ _).mono ?_; rintro e w1 ⟨rfl, rfl⟩)
  go_ret
  exact ⟨ret_intJ HF.out.symm, rfl⟩

theorem cmp_lx : ∀ (u v : List UInt8), u.length = v.length → (∀ c ∈ u, 97 ≤ c.toNat) → (∀ c ∈ v, 97 ≤ c.toNat) → (Lib.compareBytes u v < 0 ↔ ¬ lxl (v.map fun c => c.toNat - 97) (u.map fun c => c.toNat - 97)) := by
  intro u
  induction u with
  | nil =>
    intro v hl _ _
    cases v with
    | nil => simp [Lib.compareBytes, lxl]
    | cons b v => simp at hl
  | cons a u ih =>
    intro v hl hu hv
    cases v with
    | nil => simp at hl
    | cons b v =>
      have ha := hu a (by simp)
      have hb := hv b (by simp)
      simp only [Lib.compareBytes, List.map_cons, lxl]
      by_cases q : a < b
      · have q' : a.toNat < b.toNat := UInt8.lt_iff_toNat_lt.1 q
        rw [if_pos q]
        constructor
        · intro _ z
          rcases z with z | ⟨z, _⟩ <;> omega
        · intro _; decide
      · have q' : ¬ a.toNat < b.toNat := fun z => q (UInt8.lt_iff_toNat_lt.2 z)
        rw [if_neg q]
        by_cases p : b < a
        · have p' : b.toNat < a.toNat := UInt8.lt_iff_toNat_lt.1 p
          rw [if_pos p]
          constructor
          · intro z; exact absurd z (by decide)
          · intro z; exact absurd (.inl (by omega)) z
        · have p' : ¬ b.toNat < a.toNat := fun z => p (UInt8.lt_iff_toNat_lt.2 z)
          rw [if_neg p, ih v (by simpa using hl) (fun c hc => hu c (by simp [hc])) (fun c hc => hv c (by simp [hc]))]
          constructor
          · intro z y
            rcases y with y | ⟨_, y⟩
            · omega
            · exact z y
          · intro z y
            exact z (.inr ⟨by omega, y⟩)
theorem Lts.all {k : Int} {b : ByteArray} (h : Lts k b) : ∀ c ∈ b.data.toList, 97 ≤ c.toNat := fun c hc => by
  obtain ⟨i, hi, rfl⟩ := List.mem_iff_getElem.1 hc
  have := h i (by simpa using hi)
  exact this.1
/-- Order, by letters. -/
theorem ord_sle {k : Int} {u v : ByteArray} (hu : Lts k u) (hv : Lts k v) : ord u v < 0 ↔ ¬ sle (lets v) (lets u) := by
  unfold ord sle
  rw [lets_len, lets_len]
  by_cases h1 : u.size < v.size
  · rw [if_pos h1]
    constructor
    · intro _ z; omega
    · intro _; decide
  · rw [if_neg h1]
    by_cases h2 : v.size < u.size
    · rw [if_pos h2]
      constructor
      · intro z; exact absurd z (by decide)
      · intro z; exact absurd (.inl h2) z
    · rw [if_neg h2]
      have hl : u.data.toList.length = v.data.toList.length := by
        have e1 : u.data.toList.length = u.size := by simp
        have e2 : v.data.toList.length = v.size := by simp
        omega
      show Lib.compareBytes u.data.toList v.data.toList < 0 ↔ _
      rw [cmp_lx _ _ hl hu.all hv.all]
      constructor
      · rintro z (y | ⟨_, y⟩)
        · omega
        · exact z y
      · intro z y
        exact z (.inr ⟨by omega, y⟩)
theorem cmp_gt : ∀ (u v : List UInt8), u.length = v.length → 0 < Lib.compareBytes u v → Lib.compareBytes v u < 0 := by
  intro u
  induction u with
  | nil =>
    intro v hl h
    cases v with
    | nil => simp [Lib.compareBytes] at h
    | cons b v => simp at hl
  | cons a u ih =>
    intro v hl h
    cases v with
    | nil => simp at hl
    | cons b v =>
      simp only [Lib.compareBytes] at h ⊢
      by_cases q : a < b
      · rw [if_pos q] at h
        exact absurd h (by decide)
      · rw [if_neg q] at h
        by_cases p : b < a
        · rw [if_pos p]
          decide
        · rw [if_neg p] at h
          rw [if_neg p, if_neg q]
          exact ih v (by simpa using hl) h
/-- Where no word is ahead of it, Order says so. -/
theorem ord_le {k : Int} {u v : ByteArray} (hu : Lts k u) (hv : Lts k v) (h : sle (lets u) (lets v)) : ¬ 0 < ord u v := by
  intro g
  have q : ord v u < 0 := by
    unfold ord at g ⊢
    by_cases h1 : u.size < v.size
    · rw [if_pos h1] at g
      exact absurd g (by decide)
    · rw [if_neg h1] at g
      by_cases h2 : v.size < u.size
      · rw [if_pos h2]
        decide
      · rw [if_neg h2] at g
        rw [if_neg h2, if_neg h1]
        have e1 : u.data.toList.length = u.size := by simp
        have e2 : v.data.toList.length = v.size := by simp
        exact cmp_gt _ _ (by omega) g
  exact (ord_sle hv hu).1 q h
end Go.Proofs.Ythmnoepjkobcmaa
