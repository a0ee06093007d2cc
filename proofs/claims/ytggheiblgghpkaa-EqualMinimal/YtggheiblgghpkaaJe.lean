/- Where a word leads: auto.lead and the document's Go; checkWord; Run and Accepts of both. -/
import Derived.Test.YtggheiblgghpkaaJd
namespace Go.Proofs.Ytggheiblgghpkaa
open Go Go.RowKit Go.Lib
set_option linter.unusedVariables false

/-- A word's letters, as numbers. -/
def lets (s : ByteArray) : List Nat := s.data.toList.map fun c => c.toNat - 97
theorem lets_len (s : ByteArray) : (lets s).length = s.size := by simp [lets]
theorem lets_at (s : ByteArray) (i : Nat) (hi : i < s.size) : (lets s)[i]? = some (s[i].toNat - 97) := by
  have h : i < s.data.toList.length := by simpa using hi
  unfold lets
  rw [List.getElem?_map, List.getElem?_eq_getElem h]
  rfl
/-- Where letters lead. -/
def goN (A : Aut) (s : Nat) (l : List Nat) : Nat := l.foldl (dN A) s
theorem goN_take (A : Aut) (s : Nat) (b : ByteArray) (i : Nat) (hi : i < b.size) : goN A s ((lets b).take (i + 1)) = dN A (goN A s ((lets b).take i)) (b[i].toNat - 97) := by
  rw [List.take_add_one, lets_at b i hi]
  simp [goN]
theorem goN_lt {A : Aut} (G : Good A) {s : Nat} (hs : s < A.ac.length) : ∀ l : List Nat, (∀ c ∈ l, (c : Int) < A.k) → goN A s l < A.ac.length := by
  intro l
  induction l generalizing s with
  | nil => intro _; exact hs
  | cons c l ih =>
    intro h
    exact ih (G.at hs (h c (by simp))).2.2 (fun x hx => h x (by simp [hx]))
/-- All letters of b are among the first k. -/
def Lts (k : Int) (b : ByteArray) : Prop := ∀ i (hi : i < b.size), 97 ≤ b[i].toNat ∧ (b[i].toNat : Int) < 97 + k
theorem chk_all {k : Int} {b : ByteArray} (h : chk k b = 0) : Lts k b := by
  intro i hi
  unfold chk at h
  split at h
  · cases h
  · split at h
    · rename_i h2
      have := List.all_eq_true.1 h2 b[i] (by exact List.getElem_mem (l := b.data.toList) (by simpa using hi))
      simp only [letterAt, decide_eq_true_eq] at this
      omega
    · cases h
theorem chk_cases {k : Int} {b : ByteArray} (h1 : 1 ≤ k) (h8 : k ≤ 8) : chk k b = 0 ∨ chk k b = 21 := by
  unfold chk
  rw [if_neg (by omega)]
  split
  · exact .inl rfl
  · exact .inr rfl
theorem Lts.lt {k : Int} {b : ByteArray} (h : Lts k b) (i : Nat) : ∀ c ∈ (lets b).take i, (c : Int) < k := by
  intro c hc
  have hc := List.mem_of_mem_take hc
  obtain ⟨j, hj, rfl⟩ := List.mem_iff_getElem.1 hc
  have hj' : j < b.size := by rw [← lets_len]; exact hj
  have h2 := h j hj'
  have e := lets_at b j hj'
  rw [List.getElem?_eq_getElem hj] at e
  simp only [Option.some.injEq] at e
  rw [e]
  omega
theorem Lts.lt_all {k : Int} {b : ByteArray} (h : Lts k b) : ∀ c ∈ lets b, (c : Int) < k := by
  have := h.lt (lets b).length
  rwa [List.take_length] at this
theorem run_lt {A : Aut} (G : Good A) {s : Nat} (hs : s < A.ac.length) {b : ByteArray} (h : Lts A.k b) (i : Nat) : goN A s ((lets b).take i) < A.ac.length := goN_lt G hs _ (h.lt i)

end Go.Proofs.Ytggheiblgghpkaa
