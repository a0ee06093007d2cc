/- What is written is read back (pure). -/
import Derived.Test.YthhlamehbcidgaaY26
namespace Go.Proofs.Ythhlamehbcidgaa
open Go Go.RowKit Go.Lib
set_option linter.unusedVariables false

/-- A text lies at a place. -/
def Lies (s : ByteArray) (i : Nat) (t : ByteArray) : Prop := ∀ j, j < t.size → s.data.toList[i + j]? = t.data.toList[j]?
theorem app_list (a b : ByteArray) : (a ++ b).data.toList = a.data.toList ++ b.data.toList := by
  rw [ByteArray.data_append, Array.toList_append]
theorem len_list (a : ByteArray) : a.data.toList.length = a.size := rfl
theorem Lies.left {s : ByteArray} {i : Nat} {a b : ByteArray} (h : Lies s i (a ++ b)) : Lies s i a := fun j hj => by
  have := h j (by rw [ByteArray.size_append]; omega)
  rw [app_list, List.getElem?_append_left (by rw [len_list]; exact hj)] at this
  exact this
theorem Lies.right {s : ByteArray} {i : Nat} {a b : ByteArray} (h : Lies s i (a ++ b)) : Lies s (i + a.size) b := fun j hj => by
  have := h (a.size + j) (by rw [ByteArray.size_append]; omega)
  rw [app_list, List.getElem?_append_right (by rw [len_list]; omega), len_list] at this
  rw [Nat.add_assoc, this]
  congr 1
  omega
theorem Lies.one {s : ByteArray} {i : Nat} {c : UInt8} (h : Lies s i ⟨#[c]⟩) : s.data.toList[i]? = some c := h 0 (by show 0 < 1; omega)
theorem at_lt {s : ByteArray} {i : Nat} {c : UInt8} (h : s.data.toList[i]? = some c) : i < s.size := by
  obtain ⟨h1, _⟩ := List.getElem?_eq_some_iff.1 h
  exact h1
theorem sees_c {s g : ByteArray} {i : Nat} {c : UInt8} (h : s.data.toList[i]? = some c) : seesB s g i = decide (0 ≤ Lib.indexByte g.data.toList c) := by
  unfold seesB
  rw [h]
theorem is_c {s : ByteArray} {i d : Nat} {c : UInt8} (h : s.data.toList[i]? = some c) : isB s d i = (c.toNat == d) := by
  unfold isB
  rw [h]
theorem skip_c {s : ByteArray} {i : Nat} {c : UInt8} (h : s.data.toList[i]? = some c) (hc : decide (0 ≤ Lib.indexByte (⟨#[32]⟩ : ByteArray).data.toList c) = false) : skip s i = i := skip_end (by rw [sees_c h, hc]; decide)
theorem letters : ∀ c, c < 256 → 0 ≤ plI c → c = 120 ∨ c = 121 ∨ c = 122 ∨ c = 116 := by decide +kernel

theorem atom_one {s : ByteArray} {i : Nat} (K : Sg) (h : s.data.toList[i]? = some 49) : rP s i K = rO s (skip s (i + 1)) (K ++ [(1, 0)]) := by
  rw [rP_at]
  unfold atomP
  rw [skip_c h (by decide), if_neg (by rw [sees_c h]; decide), if_neg (by rw [sees_c h]; decide), if_pos (by rw [is_c h]; decide)]
theorem atom_var {s : ByteArray} {i c : Nat} (K : Sg) (hc : c < 256) (hl : 0 ≤ plI c) (h : s.data.toList[i]? = some (UInt8.ofNat c)) : rP s i K = rO s (skip s (i + 1)) (K ++ [(2, c)]) := by
  have hb : byteN s i = c := by
    unfold byteN
    rw [h]
    simp [Nat.mod_eq_of_lt hc]
  rw [rP_at]
  unfold atomP
  have h32 : decide (0 ≤ Lib.indexByte (⟨#[32]⟩ : ByteArray).data.toList (UInt8.ofNat c)) = false := by rcases letters c hc hl with e | e | e | e <;> subst e <;> decide
  have hx : decide (0 ≤ Lib.indexByte bXYZ.data.toList (UInt8.ofNat c)) = true := by rcases letters c hc hl with e | e | e | e <;> subst e <;> decide
  rw [skip_c h h32, if_pos (by rw [sees_c h, hx]), hb]
/-- A part in brackets. -/
theorem atom_br {s : ByteArray} {i n : Nat} (K S : Sg) (h : s.data.toList[i]? = some 40) (hr : rS s (i + 1) K = rL s (skip s (i + 1 + n)) (K ++ S)) (he : s.data.toList[i + 1 + n]? = some 41) : rP s i K = rO s (skip s (i + (n + 2))) (K ++ S) := by
  have hlt := at_lt he
  have hin : rS s (i + 1) K = some (i + 1 + n, K ++ S) := by
    rw [hr, skip_c he (by decide), rL_at (by omega), if_neg (by rw [sees_c he]; decide)]
  rw [rP_at]
  unfold atomP
  rw [skip_c h (by decide), if_neg (by rw [sees_c h]; decide), if_pos (by rw [sees_c h]; decide), hin]
  simp only
  rw [if_pos (by rw [is_c he]; decide)]
  simp only
  rw [show i + 1 + n + 1 = i + (n + 2) by omega]
theorem om_c {s : ByteArray} {i : Nat} (K : Sg) (h : s.data.toList[i]? = some 94) (hw : s.data.toList[i + 1]? = some 119) : rO s (skip s i) K = rO s (skip s (i + 2)) (K ++ [(4, 0)]) := by
  have hl := at_lt h
  rw [skip_c h (by decide), rO_at (by omega), if_pos (by rw [sees_c h]; decide), if_pos (by rw [is_c hw]; decide)]
end Go.Proofs.Ythhlamehbcidgaa
