/- Contract of the document's List: the numbers of a set, rising, in memory of its own. -/
import Derived.Test.YthjkfpgocidpeaaDoorRh
import Derived.Lib.UnsafeStr
import Derived.Deep.RegionWith
import Derived.Laws.IdiomStrings
import Derived.Maps.AppendAt
import Derived.Test.YthjkfpgocidpeaaDoorBr
namespace Go.Proofs.YthjkfpgocidpeaaDoor
open Go.RowKit Go.Lib

theorem Tryd.info_int : (Tryd.prog.info? 3).map (fun i => (i.zero, i.size, i.bytes)) = some (some (.int .i64 0), 1, 8) := by kernel_rfl
theorem own_shape {w : World} {base : Nat} {e : TypeId} {size n : Nat} {v : Value} {xs : List Value} (h : w.ownsRow base e size v n xs) : ∃ a cap, v = .slice a n cap := by
  obtain ⟨_, h⟩ := h
  rcases h with ⟨rfl, hn⟩ | ⟨g, cap, cur, rfl, _⟩
  · exact ⟨none, 0, by rw [hn]⟩
  · exact ⟨_, _, rfl⟩
theorem own_mono {w : World} {base base' : Nat} {e : TypeId} {size n : Nat} {v : Value} {xs : List Value} (h : w.ownsRow base e size v n xs) (hb : base' ≤ base) : w.ownsRow base' e size v n xs := by
  obtain ⟨a, b⟩ := h
  refine ⟨a, ?_⟩
  rcases b with b | ⟨g, cap, cur, e, r, r2⟩
  · exact .inl b
  · exact .inr ⟨g, cap, cur, e, Nat.le_trans hb r, r2⟩
/-- A row that a call made stands behind a later call. -/
theorem own_below {w w' : World} {base : Nat} {e : TypeId} {size n : Nat} {v : Value} {xs : List Value} (h : w.ownsRow base e size v n xs) (hb : Below w.heap.size w w') : w'.ownsRow base e size v n xs := by
  obtain ⟨a, b⟩ := h
  refine ⟨a, ?_⟩
  rcases b with b | ⟨g, cap, cur, e1, r, r2, r3⟩
  · exact .inl b
  · exact .inr ⟨g, cap, cur, e1, r, by rw [hb.block g (Array.getElem?_eq_some_iff.1 r2).1]; exact r2, r3⟩
/-- Numbers as an int row's cells. -/
def zC (l : List Int) : List Value := l.map fun n => Value.int .i64 n
theorem zC_append (a b : List Int) : zC (a ++ b) = zC a ++ zC b := by simp [zC]
theorem own_reads {w : World} {base : Nat} {v : Value} {l : List Int} (h : w.ownsRow base 3 1 v l.length (zC l)) : Reads w v l := by
  obtain ⟨h0, h1⟩ := h
  rcases h1 with ⟨rfl, hn⟩ | ⟨g, cap, cur, rfl, r⟩
  · exact ⟨none, 0, by rw [hn], fun i hi => by omega⟩
  · have hown : w.ownsRow base 3 1 (.slice (some ⟨g, 0, none⟩) l.length cap) l.length (zC l) := ⟨h0, .inr ⟨g, cap, cur, rfl, r⟩⟩
    refine ⟨some ⟨g, 0, none⟩, cap, rfl, fun i hi => ⟨g, 0, rfl, (Array.getElem?_eq_some_iff.1 r.2.1).1, ?_⟩⟩
    rw [Nat.zero_add, hown.cellAt i (by omega)]
    simp [zC, hi]
/-- The numbers of N below b, rising. -/
def lst (N b : Nat) : List Int := ((List.range b).filter fun j => N.testBit j).map fun (j : Nat) => (j : Int)
theorem lst_succ (N b : Nat) : lst N (b + 1) = lst N b ++ if N.testBit b then [(b : Int)] else [] := by
  unfold lst
  rw [List.range_succ, List.filter_append, List.map_append]
  by_cases h : N.testBit b <;> simp [h]
theorem lst_length (N b : Nat) : (lst N b).length = cnt b N := by simp [lst, cnt]
theorem lst_le (N b : Nat) : (lst N b).length ≤ b := by rw [lst_length]; exact cnt_le b N
theorem lst_zero (N : Nat) : lst N 0 = [] := rfl
theorem mem_lst {N b : Nat} {x : Int} : x ∈ lst N b ↔ ∃ j : Nat, j < b ∧ N.testBit j = true ∧ x = j := by
  unfold lst
  simp only [List.mem_map, List.mem_filter, List.mem_range]
  constructor
  · rintro ⟨j, ⟨h1, h2⟩, rfl⟩; exact ⟨j, h1, h2, rfl⟩
  · rintro ⟨j, h1, h2, rfl⟩; exact ⟨j, ⟨h1, h2⟩, rfl⟩
/-- The set of its list is the set. -/
theorem of_lst {P : Nat} (hP : Fits P) : ofN (lst P 512) = P ∧ ofE (lst P 512) = 0 := by
  have e : (lst P 512).all inSet = true := by
    rw [List.all_eq_true]
    intro x hx
    obtain ⟨j, hj, _, rfl⟩ := mem_lst.1 hx
    simp [inSet]
    omega
  refine ⟨?_, by rw [ofE, if_pos e]⟩
  rw [ofN, if_pos e]
  apply Nat.eq_of_testBit_eq
  intro i
  rw [testBit_ofL, Bool.eq_iff_iff, decide_eq_true_iff]
  constructor
  · rintro ⟨x, hx, rfl⟩
    obtain ⟨j, _, h2, rfl⟩ := mem_lst.1 hx
    rw [Int.toNat_natCast]; exact h2
  · intro h
    refine ⟨(i : Int), mem_lst.2 ⟨i, ?_, h, rfl⟩, Int.toNat_natCast i⟩
    by_cases hi : i < 512
    · exact hi
    · rw [hP i (by omega)] at h; simp at h

set_option maxHeartbeats 2000000 in
set_option maxRecDepth 100000 in
theorem rlist_any (N : Nat) (w : World) :
    Calls Tryd.prog 17 #[setV N] w fun e w' => ∃ v, e = .returned v ∧ w'.ownsRow w.heap.size 3 1 v (lst N 512).length (zC (lst N 512)) ∧ Below w.heap.size w w' := by
  have H1 : Hid (RowAt (w.alloc (.cells (cellsF (word N)) 25)) w.heap.size (cellsF (word N))) := RowAt.last w _ _
  unfold setV cellsF
  unfold cellsF at H1
  obtain ⟨i0, hi, hz0, hz1, hz2⟩ := info_parts Tryd.info_int
  go_enter Tryd.func17, Tryd.ntmps17
  go_wp2_with fail
  generalize hW : w.alloc (.cells #[.int .u64 (word N 0 : Nat), .int .u64 (word N 1 : Nat), .int .u64 (word N 2 : Nat), .int .u64 (word N 3 : Nat), .int .u64 (word N 4 : Nat), .int .u64 (word N 5 : Nat), .int .u64 (word N 6 : Nat), .int .u64 (word N 7 : Nat)] 25) = W at H1 ⊢
  have HW : Hid (Below w.heap.size w W ∧ w.heap.size ≤ W.heap.size) := by
    show Below w.heap.size w W ∧ w.heap.size ≤ W.heap.size
    rw [← hW]
    exact ⟨(Below.refl _ _).alloc (Nat.le_refl _) _, by simp⟩
  clear hW
  go_loopw [3, 4] (fun v vk wr => ∃ (i : Nat), vk = .int .i64 i ∧ i ≤ 512 ∧ wr.ownsRow W.heap.size 3 1 v (lst N i).length (zC (lst N i)) ∧ Below W.heap.size W wr) (fun _ vk _ => 512 - (intOf vk).toNat)
  case atStart => exact ⟨0, rfl, Nat.zero_le _, by show World.ownsRow _ _ _ _ _ 0 []; exact World.ownsRow_nil _ _ _ _, Below.refl _ _⟩
  case round =>
    obtain ⟨i, rfl, hi5, hown, hb⟩ := hrel
    obtain ⟨a, cap, rfl⟩ := own_shape hown
    have cs := (H1.out.stay hb).cell
    by_cases hlt : i < 512
    · have hiI : (i : Int) < 512 := by omega
      have hps := lst_succ N i
      have hpl := lst_le N i
      have hh : hasN N (i : Int) = N.testBit i := by rw [hasN, decide_eq_true (by omega), Bool.true_and, Int.toNat_natCast]
      by_cases hbit : N.testBit i = true
      · rw [if_pos hbit] at hps
        rw [hbit] at hh
        have HS : Hid _ := hps
        have HH : Hid _ := hh
        clear hps hh hbit
        go_wp2_with fail
        refine (rhas_any N _ _).mono ?_
        rintro e w2 ⟨rfl, hb2⟩
        rw [HH.out]
        have hown2 := own_below hown hb2
        have hb3 : Below W.heap.size W w2 := hb.trans (hb2.mono hb.size)
        clear hown hb hb2 cs
        go_wp2_with (at_builtin; refine wpList_append_own _ rfl _ _ 22 rfl W.heap.size 3 i0 (.int .i64 0) 1 8 Tryd.underlying22 hi hz0 hz1 hz2 rfl (by decide) _ _ _ rfl (hown2.alloc _) ⟨w2.heap.size, 0, none⟩ 1 1 [.int .i64 (i : Int)] rfl rfl ?c1 ?c2 ?c3 ?c4 ?c5 ?_)
        case c1 => exact cell_one_new _ _ _
        case c2 => intro u hu; simp at hu; subst hu; rfl
        case c3 => unfold maxLen; omega
        case c4 => omega
        case c5 => have := hb3.size; simp; omega
        intro v' w4 hown' hgrow _
        have R : w4.ownsRow W.heap.size 3 1 v' (lst N (i + 1)).length (zC (lst N (i + 1))) := by
          rw [HS.out, zC_append, List.length_append]
          exact hown'
        have hb4 : Below W.heap.size W w4 := (hb3.alloc hb3.size _).grown hgrow (by have := hb3.size; simp; omega) (fun g hg => (hown2.lt g hg).1)
        clear hown' hgrow hown2
        go_wp2
        go_roundw
        case rel => exact ⟨i + 1, by go_num, by omega, R, hb4⟩
        case measure => simp [intOf]; omega
      · have hbit' : N.testBit i = false := by simpa using hbit
        rw [if_neg hbit, List.append_nil] at hps
        rw [hbit'] at hh
        have HS : Hid _ := hps
        have HH : Hid _ := hh
        clear hps hh hbit hbit'
        go_wp2_with (go_at_call 15; refine (rhas_any N _ _).mono ?_; rintro e w2 ⟨rfl, hb2⟩; rw [HH.out])
        go_roundw
        case rel => exact ⟨i + 1, by go_num, by omega, by rw [HS.out]; exact own_below hown hb2, hb.trans (hb2.mono hb.size)⟩
        case measure => simp [intOf]; omega
    · have : i = 512 := by omega
      subst this
      go_wp2
      go_ret
      exact ⟨_, rfl, own_mono hown HW.out.2, HW.out.1.trans (hb.mono HW.out.2)⟩

end Go.Proofs.YthjkfpgocidpeaaDoor
