/- Words as bytes: of letters, of words one behind the other. -/
import Derived.Test.YthmnoepjkobcmabE12
import Derived.Test.YthmnoepjkobcmabJe
import Derived.Laws.IdiomStrings
namespace Go.Proofs.Ythmnoepjkobcmab
open Go Go.RowKit Go.Lib
set_option linter.unusedVariables false

theorem lets_app (u v : ByteArray) : lets (u ++ v) = lets u ++ lets v := by
  unfold lets
  rw [← List.map_append]
  congr 1
theorem chk_app (k : Int) (h1 : 1 ≤ k) (h8 : k ≤ 8) (u v : ByteArray) : chk k (u ++ v) = 0 ↔ chk k u = 0 ∧ chk k v = 0 := by
  unfold chk
  have h : ¬ (k < 1 ∨ 8 < k) := by omega
  rw [if_neg h, if_neg h, if_neg h]
  simp only [ByteArray.data_append, Array.toList_append, List.all_append]
  by_cases a : u.data.toList.all (letterAt k) = true
  · by_cases b : v.data.toList.all (letterAt k) = true
    · simp [a, b]
    · simp [a, b]
  · simp [a]
theorem wb_get (u : List Nat) {i : Nat} (hi : i < (wb u).size) : (wb u)[i] = UInt8.ofNat (97 + u[i]'(by rw [wb_size] at hi; exact hi)) := by
  have hi' : i < ((u.map fun c => UInt8.ofNat (97 + c)).toArray).size := hi
  have : (wb u)[i] = ((u.map fun c => UInt8.ofNat (97 + c)).toArray)[i]'hi' := rfl
  refine this.trans ?_
  rw [List.getElem_toArray, List.getElem_map]
theorem ofNat97 {c : Nat} (h : c < 8) : (UInt8.ofNat (97 + c)).toNat = 97 + c := by
  rw [UInt8.toNat_ofNat']
  exact Nat.mod_eq_of_lt (by omega)
theorem lets_wb {k : Nat} (hk : k ≤ 8) {u : List Nat} (h : Lt k u) : lets (wb u) = u := by
  unfold lets wb
  rw [List.map_map]
  show u.map _ = u
  conv => rhs; rw [← List.map_id u]
  apply List.map_congr_left
  intro c hc
  have := h c hc
  show (UInt8.ofNat (97 + c)).toNat - 97 = c
  rw [ofNat97 (by omega)]
  omega
theorem wb_lts {k : Int} (h1 : 1 ≤ k) (h8 : k ≤ 8) {u : List Nat} (h : Lt k.toNat u) : Lts k (wb u) ∧ chk k (wb u) = 0 := by
  have hL : Lts k (wb u) := by
    intro i hi
    have hm := h (u[i]'(by rw [wb_size] at hi; exact hi)) (List.getElem_mem _)
    rw [wb_get u hi, ofNat97 (by omega)]
    omega
  refine ⟨hL, chk_ok k _ h1 h8 (fun i hi => ?_)⟩
  have := hL i hi
  simp only [letterAt, decide_eq_true_eq]
  omega
theorem Lts.ltn {k : Int} (h1 : 1 ≤ k) {b : ByteArray} (h : Lts k b) : Lt k.toNat (lets b) := fun c hc => by have := h.lt_all c hc; omega
theorem conv_one (y : World) (c z : Nat) (hc : c < 8) (hz : 97 + c = z) : Sem.run Try.prog (convert 140 9 (.slice (some ⟨y.heap.size, 0, none⟩) 1 1)) (y.alloc (.cells #[.int .u8 (z : Int)] 5)) = .ok (.string (wb [c])) (y.alloc (.cells #[.int .u8 (z : Int)] 5)) := by
  subst hz
  refine run_convert_bytes_back _ _ _ 5 ⟨y.heap.size, 0, none⟩ 1 [UInt8.ofNat (97 + c)] Try.underlying140 Try.underlying5 Try.underlying9 ?_
  intro j hj
  obtain rfl : j = 0 := by simp at hj; omega
  have := (RowAt.last y #[.int .u8 ((97 + c : Nat) : Int)] 5).cell 0
  refine this.trans ?_
  show some (Value.int .u8 ((97 + c : Nat) : Int)) = some (Value.int .u8 ((UInt8.ofNat (97 + c)).toNat : Int))
  rw [ofNat97 hc]
theorem mr_first (K : Nat) (N : List Nat) (c : Nat) : mr K N 0 [c] = N.getD c 0 := by rw [mr_one, Nat.zero_mul, Nat.zero_add]
end Go.Proofs.Ythmnoepjkobcmab
