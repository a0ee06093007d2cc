/- Plain mathematics of the next word; rows of bytes in memory, by their cells. -/
import Derived.Test.YtocdifclkopbcaaRnk
namespace Go.Proofs.Ytocdifclkopbcaa
open Go.RowKit Go.Lib

/-- The next word, its letters from behind. -/
def incR (k : Nat) : List UInt8 → List UInt8
  | [] => [97]
  | c :: r => if c.toNat = 96 + k then 97 :: incR k r else UInt8.ofNat (c.toNat + 1) :: r
/-- The next word. -/
def nextL (k : Nat) (l : List UInt8) : List UInt8 := (incR k l.reverse).reverse
/-- The last letters from the place m on are all the last of the k letters. -/
def allLast (k : Nat) (l : List UInt8) (m : Nat) : Prop := ∀ j, m ≤ j → j < l.length → (l.getD j 0).toNat = 96 + k
theorem incR_last (k : Nat) : ∀ (a r : List UInt8), (∀ c ∈ a, c.toNat = 96 + k) → incR k (a ++ r) = List.replicate a.length 97 ++ incR k r
  | [], r, _ => by simp
  | c :: a, r, h => by
    have hc := h c (by simp)
    have ih := incR_last k a r (fun x hx => h x (by simp [hx]))
    simp only [List.cons_append, incR, if_pos hc, ih, List.length_cons, List.replicate_succ]
theorem drop_last (k : Nat) (l : List UInt8) (m : Nat) (h : allLast k l m) : ∀ c ∈ (l.drop m).reverse, c.toNat = 96 + k := by
  intro c hc
  rw [List.mem_reverse] at hc
  obtain ⟨j, hj, rfl⟩ := List.mem_iff_getElem.1 hc
  rw [List.length_drop] at hj
  have := h (m + j) (by omega) (by omega)
  rw [List.getElem_drop]
  simpa [List.getD_eq_getElem?_getD, show m + j < l.length by omega] using this
theorem nextL_all (k : Nat) (l : List UInt8) (h : allLast k l 0) : nextL k l = List.replicate (l.length + 1) 97 := by
  have := incR_last k l.reverse [] (by have := drop_last k l 0 h; simpa using this)
  rw [List.append_nil] at this
  unfold nextL
  rw [this]
  simp [incR, List.replicate_succ]
theorem nextL_at (k : Nat) (l : List UInt8) (q : Nat) (hq : q < l.length) (h : allLast k l (q + 1)) (hne : l[q].toNat ≠ 96 + k) :
    nextL k l = l.take q ++ UInt8.ofNat (l[q].toNat + 1) :: List.replicate (l.length - (q + 1)) 97 := by
  have e : l.reverse = (l.drop (q + 1)).reverse ++ l[q] :: (l.take q).reverse := by
    have : l = l.take q ++ (l[q] :: l.drop (q + 1)) := by rw [← List.drop_eq_getElem_cons hq, List.take_append_drop]
    conv => lhs; rw [this]
    simp
  unfold nextL
  rw [e, incR_last k _ _ (drop_last k l (q + 1) h)]
  simp [incR, hne]
/-- The number of a word whose letters come from behind. -/
def rankR (k : Nat) : List UInt8 → Nat
  | [] => 0
  | c :: r => rankR k r * k + (c.toNat - 96)
theorem rankL_R (k : Nat) (l : List UInt8) : rankL k l = rankR k l.reverse := by
  have : ∀ (r : List UInt8), rankL k r.reverse = rankR k r := by
    intro r
    induction r with
    | nil => rfl
    | cons c r ih => rw [List.reverse_cons, rankL_snoc, ih, rankR]
  have h := this l.reverse
  rw [List.reverse_reverse] at h
  exact h
theorem rankR_inc (k : Nat) (h1 : 1 ≤ k) (h8 : k ≤ 8) : ∀ (r : List UInt8), isW k r → rankR k (incR k r) = rankR k r + 1
  | [], _ => by simp [incR, rankR]
  | c :: r, h => by
    have hc := h c (by simp)
    have ih := rankR_inc k h1 h8 r (fun x hx => h x (by simp [hx]))
    by_cases e : c.toNat = 96 + k
    · have g : incR k (c :: r) = 97 :: incR k r := by simp only [incR, if_pos e]
      have t : (97 : UInt8).toNat = 97 := rfl
      rw [g]
      simp only [rankR, ih, Nat.add_mul, t]
      omega
    · have e2 : (UInt8.ofNat (c.toNat + 1)).toNat = c.toNat + 1 := by rw [UInt8.toNat_ofNat']; omega
      simp only [incR, if_neg e, rankR, e2]
      omega
theorem isW_inc (k : Nat) (h1 : 1 ≤ k) (h8 : k ≤ 8) : ∀ (r : List UInt8), isW k r → isW k (incR k r)
  | [], _ => by
    intro c hc
    simp [incR] at hc
    subst hc
    exact ⟨by decide, by show 97 < 97 + k; omega⟩
  | c :: r, h => by
    have hc := h c (by simp)
    have ih := isW_inc k h1 h8 r (fun x hx => h x (by simp [hx]))
    by_cases e : c.toNat = 96 + k
    · simp only [incR, if_pos e]
      exact isW_a h1 ih
    · have e2 : (UInt8.ofNat (c.toNat + 1)).toNat = c.toNat + 1 := by rw [UInt8.toNat_ofNat']; omega
      simp only [incR, if_neg e]
      intro x hx
      rcases List.mem_cons.1 hx with g | g
      · rw [g, e2]; omega
      · exact h x (by simp [g])
theorem rank_next (k : Nat) (h1 : 1 ≤ k) (h8 : k ≤ 8) (l : List UInt8) (h : isW k l) : rankL k (nextL k l) = rankL k l + 1 := by
  rw [rankL_R, rankL_R, nextL, List.reverse_reverse]
  exact rankR_inc k h1 h8 _ (isW_reverse h)
theorem isW_next (k : Nat) (h1 : 1 ≤ k) (h8 : k ≤ 8) (l : List UInt8) (h : isW k l) : isW k (nextL k l) := isW_reverse (isW_inc k h1 h8 _ (isW_reverse h))

/-- A row of bytes in block g: its first n cells are l; cap cells are there, none of them frozen. -/
structure BRow (w : World) (g cap : Nat) (l : List UInt8) : Prop where
  le : l.length ≤ cap
  cell : ∀ j c, l[j]? = some c → w.cell? ⟨g, j, none⟩ = some (.int .u8 c.toNat)
  there : ∀ j, j < cap → (w.cell? ⟨g, j, none⟩).isSome = true
  free : ∀ j, j < cap → w.frozen? ⟨g, j, none⟩ = false
theorem addr_add (g j : Nat) : (⟨g, 0, none⟩ : Addr).add j = ⟨g, j, none⟩ := by
  cases j with
  | zero => simp [Addr.add]
  | succ j => simp [Addr.add]
theorem BRow.string {w : World} {g cap : Nat} {l : List UInt8} (h : BRow w g cap l) (n : Nat) (hn : n = l.length) : (convert 65 9 (.slice (some ⟨g, 0, none⟩) n cap)).run Try.prog w = .ok (.string (str l)) w := by
  subst hn
  refine run_convert_bytes_back w _ _ 5 ⟨g, 0, none⟩ cap l Try.underlying65 Try.underlying5 Try.underlying9 ?_
  intro j hj
  rw [addr_add]
  exact h.cell j l[j] (by simp)
theorem cell_off (w : World) (g i j : Nat) (v : Value) (h : ¬ i = j) : (w.setCell ⟨g, i, none⟩ v).cell? ⟨g, j, none⟩ = w.cell? ⟨g, j, none⟩ :=
  World.cell?_setCell_other _ _ _ _ (fun he => h (congrArg Addr.off he))
theorem BRow.set {w : World} {g cap : Nat} {l : List UInt8} (h : BRow w g cap l) (i : Nat) (hi : i < l.length) (c : UInt8) : BRow (w.setCell ⟨g, i, none⟩ (.int .u8 c.toNat)) g cap (l.set i c) := by
  have hle := h.le
  refine ⟨by rw [List.length_set]; exact h.le, ?_, ?_, ?_⟩
  · intro j x hx
    rw [List.getElem?_set] at hx
    by_cases e : i = j
    · subst e
      rw [if_pos rfl, if_pos hi] at hx
      simp only [Option.some.injEq] at hx
      subst hx
      exact World.cell?_setCell_same' w _ _ (h.there i (by omega))
    · rw [if_neg e] at hx
      rw [cell_off w g i j _ e]
      exact h.cell j x hx
  · intro j hj
    by_cases e : i = j
    · subst e
      rw [World.cell?_setCell_same' w _ _ (h.there i hj)]
      rfl
    · rw [cell_off w g i j _ e]
      exact h.there j hj
  · intro j hj
    rw [World.frozen?_setCell]
    exact h.free j hj
theorem conv_row (l : List UInt8) (w : World) : ∃ cap w2, (convert 9 65 (.string (str l))).run Try.prog w = .ok (.slice (some ⟨w.heap.size, 0, none⟩) l.length cap) w2 ∧ BRow w2 w.heap.size cap l ∧ Below w.heap.size w w2 := by
  have h := run_bytes_of_string (P := Try.prog) w 9 65 5 (str l) Try.underlying9 Try.underlying65 Try.underlying5
  have hge := grownCap_ge w (str l).size 0 5
  rw [str_size] at h hge
  generalize grownCap w l.length 0 5 = cap at h hge
  have hN : (bytesRow (str l) cap).size = cap := by
    have e1 : (str l).data.size = l.length := by simp [str]
    have e2 := str_size l
    simp only [bytesRow, Array.size_append, Array.size_map, Array.size_replicate, e1, e2]
    omega
  rw [hN] at h
  refine ⟨cap, _, h, ⟨hge, ?_, ?_, ?_⟩, ((Below.refl _ w).drew).alloc (Nat.le_refl _) _⟩
  · intro j c hc
    have hj : j < l.length := (List.getElem?_eq_some_iff.1 hc).1
    have hj2 : j < (str l).data.size := by simpa [str] using hj
    have := World.cell?_alloc_mark w.drew (bytesRow (str l) cap) 5 (cap, cap + 1) j
    rw [bytesRow_at (str l) cap j hj2] at this
    have e : (str l).data[j] = c := by
      have := (List.getElem?_eq_some_iff.1 hc).2
      simpa [str] using this
    rw [e] at this
    exact this
  · intro j hj
    have := World.cell?_alloc_mark w.drew (bytesRow (str l) cap) 5 (cap, cap + 1) j
    show (World.cell? _ ⟨w.drew.heap.size, j, none⟩).isSome = true
    rw [this]
    simp [hN, hj]
  · intro j hj
    have := World.frozen?_alloc_mark w.drew (bytesRow (str l) cap) 5 cap (cap + 1) j
    show World.frozen? _ ⟨w.drew.heap.size, j, none⟩ = false
    rw [this]
    simp
    omega
/-- The row when the letters from m on have been turned into the first letter. -/
def turnTo (l : List UInt8) (m : Nat) : List UInt8 := l.take m ++ List.replicate (l.length - m) 97
theorem turnTo_len (l : List UInt8) (m : Nat) (h : m ≤ l.length) : (turnTo l m).length = l.length := by simp [turnTo]; omega
theorem turnTo_all (l : List UInt8) : turnTo l l.length = l := by simp [turnTo]
theorem turnTo_get (l : List UInt8) (q : Nat) (h : q < l.length) : (turnTo l (q + 1))[q]? = some l[q] := by
  unfold turnTo
  rw [List.getElem?_append_left (by simp; omega)]
  simp [h]
theorem turnTo_set (l : List UInt8) (q : Nat) (h : q < l.length) : (turnTo l (q + 1)).set q 97 = turnTo l q := by
  unfold turnTo
  rw [List.take_succ_eq_append_getElem h, List.append_assoc, List.set_append_right _ _ (by rw [List.length_take]; omega), List.length_take]
  have e : q - min q l.length = 0 := by omega
  rw [e, List.singleton_append, List.set_cons_zero, show l.length - q = (l.length - (q + 1)) + 1 by omega, List.replicate_succ]
theorem turnTo_put (l : List UInt8) (q : Nat) (h : q < l.length) (c : UInt8) : (turnTo l (q + 1)).set q c = l.take q ++ c :: List.replicate (l.length - (q + 1)) 97 := by
  unfold turnTo
  rw [List.take_succ_eq_append_getElem h, List.append_assoc, List.set_append_right _ _ (by rw [List.length_take]; omega), List.length_take]
  have e : q - min q l.length = 0 := by omega
  rw [e, List.singleton_append, List.set_cons_zero]

end Go.Proofs.Ytocdifclkopbcaa
