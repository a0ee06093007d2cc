/- The contracts at words over k letters: letters, over, Reverse and Compare as the outright laws call them. -/
import Derived.Test.YtocdifclkopbcaaTmt
namespace Go.Proofs.Ytocdifclkopbcaa
open Go.RowKit Go.Lib

theorem over_w (k : Nat) (s : ByteArray) (w : World) (h1 : 1 ≤ k) (h8 : k ≤ 8) (hs : s.size ≤ 140737488355328) :
    Calls Try.prog 32 #[.int .i64 k, .string s] w fun e w' => ∃ U, isW k U ∧ U.length = s.size ∧ e = .returned (.string (str U)) ∧ Below w.heap.size w w' := by
  refine (over_any k s w h1 h8 hs).mono ?_
  rintro e w' ⟨rfl, b⟩
  exact ⟨_, isW_ovr k s.data.toList h1 h8, by rw [ovr_length, len_eq], rfl, b⟩

theorem reverse_w (k : Nat) (U : List UInt8) (w : World) (h1 : 1 ≤ k) (h8 : k ≤ 8) (hU : isW k U) (hs : U.length ≤ 281474976710656) :
    Calls Try.prog 22 #[.int .i64 k, .string (str U)] w fun e w' => e = .returned (.tuple #[.string (str U.reverse), .int .i64 0]) ∧ Below w.heap.size w w' := by
  refine (reverse_any k (str U) w (by rw [str_size]; exact hs)).mono ?_
  rintro e w' ⟨rfl, b⟩
  rw [revA_isW k U h1 h8 hU, chk_isW k U h1 h8 hU]
  exact ⟨rfl, b⟩

theorem compare_w (k : Nat) (U V : List UInt8) (w : World) (h1 : 1 ≤ k) (h8 : k ≤ 8) (hU : isW k U) (hV : isW k V) :
    Calls Try.prog 9 #[.int .i64 k, .string (str U), .string (str V)] w fun e w' => e = .returned (.tuple #[.int .i64 (ordL U V), .int .i64 0]) ∧ Below w.heap.size w w' := by
  refine (compare_any k (str U) (str V) w).mono ?_
  rintro e w' ⟨rfl, b⟩
  obtain ⟨e1, e2⟩ := cmpN_isW k U V h1 h8 hU hV
  rw [e1, e2]
  exact ⟨rfl, b⟩

theorem str_append (a b : List UInt8) : str a ++ str b = str (a ++ b) := by
  apply ByteArray.ext
  simp [str]

theorem a_str (a : List UInt8) : (⟨#[97]⟩ : ByteArray) ++ str a = str (97 :: a) := by
  apply ByteArray.ext
  simp [str]

/-- One call behind the other. -/
theorem go_on {w a b : World} (h : Below w.heap.size w a) (k : Below a.heap.size a b) : Below w.heap.size w b := h.trans (k.mono h.size)

end Go.Proofs.Ytocdifclkopbcaa
