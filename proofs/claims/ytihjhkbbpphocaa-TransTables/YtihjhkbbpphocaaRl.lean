/- Contract of the document's List: the numbers of a set, rising, in memory of its own. -/
import Derived.Test.YtihjhkbbpphocaaRh
import Derived.Lib.UnsafeStr
import Derived.Deep.RegionWith
import Derived.Laws.IdiomStrings
import Derived.Maps.AppendAt
import Derived.Test.YtihjhkbbpphocaaBr
namespace Go.Proofs.Ytihjhkbbpphocaa
open Go.RowKit Go.Lib

theorem Try.info_intB : (Try.prog.info? 3).map (fun i => (i.zero, i.size, i.bytes)) = some (some (.int .i64 0), 1, 8) := by kernel_rfl
theorem own_shapeB {w : World} {base : Nat} {e : TypeId} {size n : Nat} {v : Value} {xs : List Value} (h : w.ownsRow base e size v n xs) : ∃ a cap, v = .slice a n cap := by
  obtain ⟨_, h⟩ := h
  rcases h with ⟨rfl, hn⟩ | ⟨g, cap, cur, rfl, _⟩
  · exact ⟨none, 0, by rw [hn]⟩
  · exact ⟨_, _, rfl⟩
theorem own_monoB {w : World} {base base' : Nat} {e : TypeId} {size n : Nat} {v : Value} {xs : List Value} (h : w.ownsRow base e size v n xs) (hb : base' ≤ base) : w.ownsRow base' e size v n xs := by
  obtain ⟨a, b⟩ := h
  refine ⟨a, ?_⟩
  rcases b with b | ⟨g, cap, cur, e, r, r2⟩
  · exact .inl b
  · exact .inr ⟨g, cap, cur, e, Nat.le_trans hb r, r2⟩
/-- A row that a call made stands behind a later call. -/
theorem own_belowB {w w' : World} {base : Nat} {e : TypeId} {size n : Nat} {v : Value} {xs : List Value} (h : w.ownsRow base e size v n xs) (hb : Below w.heap.size w w') : w'.ownsRow base e size v n xs := by
  obtain ⟨a, b⟩ := h
  refine ⟨a, ?_⟩
  rcases b with b | ⟨g, cap, cur, e1, r, r2, r3⟩
  · exact .inl b
  · exact .inr ⟨g, cap, cur, e1, r, by rw [hb.block g (Array.getElem?_eq_some_iff.1 r2).1]; exact r2, r3⟩
/-- Numbers as an int row's cells. -/
def zCB (l : List Int) : List Value := l.map fun n => Value.int .i64 n
theorem zC_appendB (a b : List Int) : zCB (a ++ b) = zCB a ++ zCB b := by simp [zCB]
theorem own_reads {w : World} {base : Nat} {v : Value} {l : List Int} (h : w.ownsRow base 3 1 v l.length (zCB l)) : Reads w v l := by
  obtain ⟨h0, h1⟩ := h
  rcases h1 with ⟨rfl, hn⟩ | ⟨g, cap, cur, rfl, r⟩
  · exact ⟨none, 0, by rw [hn], fun i hi => by omega⟩
  · have hown : w.ownsRow base 3 1 (.slice (some ⟨g, 0, none⟩) l.length cap) l.length (zCB l) := ⟨h0, .inr ⟨g, cap, cur, rfl, r⟩⟩
    refine ⟨some ⟨g, 0, none⟩, cap, rfl, fun i hi => ⟨g, 0, rfl, (Array.getElem?_eq_some_iff.1 r.2.1).1, ?_⟩⟩
    rw [Nat.zero_add, hown.cellAt i (by omega)]
    simp [zCB, hi]
/-- The numbers of N below b, rising. -/
def lstB (N b : Nat) : List Int := ((List.range b).filter fun j => N.testBit j).map fun (j : Nat) => (j : Int)
theorem lst_succ (N b : Nat) : lstB N (b + 1) = lstB N b ++ if N.testBit b then [(b : Int)] else [] := by
  unfold lstB
  rw [List.range_succ, List.filter_append, List.map_append]
  by_cases h : N.testBit b <;> simp [h]
theorem lst_length (N b : Nat) : (lstB N b).length = cntB b N := by simp [lstB, cntB]
theorem lst_le (N b : Nat) : (lstB N b).length ≤ b := by rw [lst_length]; exact cnt_leB b N
theorem lst_zero (N : Nat) : lstB N 0 = [] := rfl
theorem mem_lst {N b : Nat} {x : Int} : x ∈ lstB N b ↔ ∃ j : Nat, j < b ∧ N.testBit j = true ∧ x = j := by
  unfold lstB
  simp only [List.mem_map, List.mem_filter, List.mem_range]
  constructor
  · rintro ⟨j, ⟨h1, h2⟩, rfl⟩; exact ⟨j, h1, h2, rfl⟩
  · rintro ⟨j, h1, h2, rfl⟩; exact ⟨j, ⟨h1, h2⟩, rfl⟩
/-- The set of its list is the set. -/
theorem of_lst {P : Nat} (hP : Fits P) : ofN (lstB P 512) = P ∧ ofE (lstB P 512) = 0 := by
  have e : (lstB P 512).all inSet = true := by
    rw [List.all_eq_true]
    intro x hx
    obtain ⟨j, hj, _, rfl⟩ := mem_lst.1 hx
    simp [inSet]
    omega
  refine ⟨?_, by rw [ofE, if_pos e]⟩
  rw [ofN, if_pos e]
  apply Nat.eq_of_testBit_eq
  intro i
  rw [testBit_ofL, Bool.eq_iff_iff, decide_eq_true_iff]
  constructor
  · rintro ⟨x, hx, rfl⟩
    obtain ⟨j, _, h2, rfl⟩ := mem_lst.1 hx
    rw [Int.toNat_natCast]; exact h2
  · intro h
    refine ⟨(i : Int), mem_lst.2 ⟨i, ?_, h, rfl⟩, Int.toNat_natCast i⟩
    by_cases hi : i < 512
    · exact hi
    · rw [hP i (by omega)] at h; simp at h

end Go.Proofs.Ytihjhkbbpphocaa
