/- Contract of word.Next at a word over k letters: ErrSize where the next word has more than 4096 letters; else the next word. -/
import Derived.Test.YtocdifclkopbcaaNmt
import Derived.ArgAppend
import Derived.Deep.RegionHeld
namespace Go.Proofs.Ytocdifclkopbcaa
open Go.RowKit

theorem incR_len (k : Nat) : ∀ r : List UInt8, r.length ≤ (incR k r).length
  | [] => by simp
  | c :: r => by
    have := incR_len k r
    by_cases e : c.toNat = 96 + k
    · simp only [incR, if_pos e, List.length_cons]; omega
    · simp only [incR, if_neg e, List.length_cons]; omega
theorem nextL_len (k : Nat) (l : List UInt8) : l.length ≤ (nextL k l).length := by
  have := incR_len k l.reverse
  simpa [nextL] using this
theorem byte_up (c : UInt8) (h : c.toNat < 255) : ((UInt8.ofNat (c.toNat + 1)).toNat : Int) = (c.toNat : Int) + 1 := by
  have : (UInt8.ofNat (c.toNat + 1)).toNat = c.toNat + 1 := by rw [UInt8.toNat_ofNat']; omega
  omega
theorem ret_ss {a b : ByteArray} {k : IntKind} {x : Int} (h : a = b) : Ending.returned (.tuple #[.string a, .int k x]) = .returned (.tuple #[.string b, .int k x]) := by rw [h]
theorem own_brow {w : World} {base : Nat} {v : Value} {l : List UInt8} (h : w.ownsRow base 5 1 v l.length (Lib.byteCells l)) : (convert 65 9 v).run Try.prog w = .ok (.string (str l)) w := run_string_own base v l w h
theorem below_setCells {B : Nat} {a w : World} (h : Below B a w) (b o : Nat) (vs : List Value) (hb : B ≤ b) : Below B a (w.setCells b o vs) := by
  induction vs generalizing w o with
  | nil => exact h
  | cons v vs ih => exact ih (h.setCell (p := ⟨b, o, none⟩) hb v) (o + 1)
theorem brow_room {w : World} {g cap : Nat} {l : List UInt8} (h : BRow w g cap l) (hc : l.length + 1 ≤ cap) (c : UInt8) : BRow (w.setCells g (0 + l.length * 1) [.int .u8 c.toNat]) g cap (l ++ [c]) := by
  have e : w.setCells g (0 + l.length * 1) [.int .u8 c.toNat] = w.setCell ⟨g, l.length, none⟩ (.int .u8 c.toNat) := by
    simp [World.setCells]
  rw [e]
  refine ⟨by simp; omega, ?_, ?_, ?_⟩
  · intro j x hx
    by_cases e : l.length = j
    · subst e
      rw [World.cell?_setCell_same' w _ _ (h.there _ (by omega))]
      simp at hx
      rw [hx]
    · rw [cell_off w g _ _ _ e]
      refine h.cell j x ?_
      have hj : j < (l ++ [c]).length := (List.getElem?_eq_some_iff.1 hx).1
      rw [List.length_append, List.length_singleton] at hj
      rw [List.getElem?_append_left (by omega)] at hx
      exact hx
  · intro j hj
    by_cases e : l.length = j
    · subst e
      rw [World.cell?_setCell_same' w _ _ (h.there _ hj)]
      rfl
    · rw [cell_off w g _ _ _ e]
      exact h.there j hj
  · intro j hj
    rw [World.frozen?_setCell]
    exact h.free j hj

theorem BRow.alloc {w : World} {g cap : Nat} {l : List UInt8} (h : BRow w g cap l) (o : Obj) (c : Array Value) (t : TypeId) (ho : o = .cells c t) : BRow (w.alloc o) g cap l := by
  have hle := h.le
  refine ⟨h.le, ?_, ?_, ?_⟩
  · intro j x hx
    have hj : j < l.length := (List.getElem?_eq_some_iff.1 hx).1
    rw [World.cell?_alloc_some _ _ _ (h.there j (by omega))]
    exact h.cell j x hx
  · intro j hj
    rw [World.cell?_alloc_some _ _ _ (h.there j hj)]
    exact h.there j hj
  · intro j hj
    subst ho
    rw [frozen?_alloc_cells]
    exact h.free j hj

set_option maxHeartbeats 2000000 in
set_option maxRecDepth 100000 in
theorem next_w (k : Nat) (U : List UInt8) (w : World) (h1 : 1 ≤ k) (h8 : k ≤ 8) (hU : isW k U) (hs : U.length ≤ 140737488355327) :
    Calls Try.prog 15 #[.int .i64 k, .string (str U)] w fun e w' =>
      (((nextL k U).length ≤ 4096 ∧ e = .returned (.tuple #[.string (str (nextL k U)), .int .i64 0])) ∨ (4096 < (nextL k U).length ∧ 4096 ≤ U.length ∧ e = .returned (.tuple #[.string ⟨#[]⟩, .int .i64 6]))) ∧ Below w.heap.size w w' := by
  have HC : Hid (chk (k : Int) (str U) = 0) := chk_isW k U h1 h8 hU
  have HU : Hid (isW k U) := hU
  have HLE : Hid (U.length ≤ (nextL k U).length) := nextL_len k U
  clear hU
  have hsz : ((str U).size : Int) = U.length := by rw [str_size]
  by_cases hbig : 4096 < U.length
  · have hbI : (4096 : Int) < U.length := by omega
    go_enter Try.func15, Try.ntmps15
    go_wp2_with fail
    refine (check_any _ _ _).mono ?_
    rintro e w1 ⟨rfl, b1⟩
    rw [HC.out]
    go_wp2_with fail
    go_ret2
    have := HLE.out
    exact ⟨.inr ⟨by omega, by omega, rfl⟩, b1⟩
  · have hbI : ¬ (4096 : Int) < U.length := by omega
    go_enter Try.func15, Try.ntmps15
    go_wp2_with fail
    refine (check_any _ _ _).mono ?_
    rintro e w1 ⟨rfl, b1⟩
    rw [HC.out]
    obtain ⟨cap, w2, hrun, hrow, b2⟩ := conv_row U w1
    have HROW : Hid (BRow w2 w1.heap.size cap U) := hrow
    clear hrow
    go_wp2_with fail
    clear hrun
    go_loopw [9] (fun vi wr => ∃ (m : Nat), vi = .int .i64 ((m : Int) - 1) ∧ m ≤ U.length ∧ allLast k U m ∧ BRow wr w1.heap.size cap (turnTo U m) ∧ Below w1.heap.size w1 wr) (fun vi _ => (intOf vi + 1).toNat)
    case atStart => exact ⟨U.length, by go_num, Nat.le_refl _, fun j h h' => by omega, by rw [turnTo_all]; exact HROW.out, b2⟩
    case round =>
      obtain ⟨m, rfl, hm, hall, hrow, hb⟩ := hrel
      have HA : Hid (allLast k U m) := hall
      have HR : Hid (BRow wr w1.heap.size cap (turnTo U m)) := hrow
      clear hall hrow
      by_cases hlt : 0 < m
      · obtain ⟨q, rfl⟩ : ∃ q, m = q + 1 := ⟨m - 1, by omega⟩
        have eq : (((q + 1 : Nat) : Int) - 1) = (q : Int) := by omega
        rw [eq]
        clear eq
        have hql : q < U.length := by omega
        have hc := HR.out.cell q U[q] (turnTo_get U q hql)
        have hle2 := HR.out.le
        rw [turnTo_len U (q + 1) (by omega)] at hle2
        have hf := HR.out.free q (by omega)
        have hcW := HU.out U[q] (List.getElem_mem hql)
        by_cases hl : U[q].toNat = 96 + k
        · have hb0 : ((U[q].toNat : Int) != 97 + (k : Int) - 1) = false := by rw [bne_eq_false_iff_eq]; omega
          have HL : Hid _ := hl
          clear hl
          go_wp2_with fail
          go_roundw
          case rel => exact ⟨q, by go_num, by omega, fun j h h' => by
            by_cases e : j = q
            · rw [e]; simpa [hql] using HL.out
            · exact HA.out j (by omega) h', by
            have := HR.out.set q (by rw [turnTo_len U (q + 1) (by omega)]; exact hql) 97
            rw [turnTo_set U q hql] at this
            exact this, hb.setCell (p := ⟨w1.heap.size, q, none⟩) (Nat.le_refl _) _⟩
          case measure => simp [intOf]
        · have hb0 : ((U[q].toNat : Int) != 97 + (k : Int) - 1) = true := by rw [bne_iff_ne]; omega
          have HL : Hid _ := hl
          clear hl
          have hset := HR.out.set q (by rw [turnTo_len U (q + 1) (by omega)]; exact hql) (UInt8.ofNat (U[q].toNat + 1))
          rw [turnTo_put U q hql, ← nextL_at k U q hql HA.out HL.out, byte_up _ (by omega)] at hset
          have HN : Hid ((nextL k U).length = U.length) := by
            show (nextL k U).length = U.length
            rw [nextL_at k U q hql HA.out HL.out]
            simp
            omega
          have hst := hset.string U.length HN.out.symm
          clear hset
          go_wp2_with fail
          go_ret2
          exact ⟨.inl ⟨by rw [HN.out]; omega, rfl⟩, go_on b1 (hb.setCell (p := ⟨w1.heap.size, q, none⟩) (Nat.le_refl _) _)⟩
      · have : m = 0 := by omega
        subst this
        have HN : Hid (nextL k U = List.replicate (U.length + 1) 97) := nextL_all k U HA.out
        by_cases h4 : U.length = 4096
        · have h4b : ((U.length : Int) == 4096) = true := by rw [beq_iff_eq]; omega
          go_wp2_with fail
          go_ret2
          exact ⟨.inr ⟨by rw [HN.out]; simp; omega, by omega, rfl⟩, go_on b1 hb⟩
        · have h4b : ((U.length : Int) == 4096) = false := by rw [beq_eq_false_iff_ne]; omega
          obtain ⟨i0, hi, hz0, hz1, hz2⟩ := info_parts Try.info_u8
          have ht : turnTo U 0 = List.replicate U.length 97 := by simp [turnTo]
          have HR2 : Hid (BRow wr w1.heap.size cap (List.replicate U.length 97)) := by rw [← ht]; exact HR.out
          clear ht
          go_wp2_with (at_builtin; refine wpList_append_arg _ rfl _ _ 65 rfl 5 i0 (.int .u8 0) 1 1 Try.underlying65 hi hz0 hz1 hz2 rfl (by decide) w1.heap.size 0 U.length cap (Lib.byteCells (List.replicate U.length 97)) rfl ?c0 ?c1 ⟨wr.heap.size, 0, none⟩ 1 1 [.int .u8 97] rfl rfl ?c2 ?c3 ?c4 ?c5 ?c6 ?c7 ?c8)
          case c0 => simp [Lib.byteCells]
          case c1 =>
            intro j u hj
            have h := HR2.out.alloc (.cells #[.int .u8 97] 5) #[.int .u8 97] 5 rfl
            have hjl : j < U.length := by
              have := (List.getElem?_eq_some_iff.1 hj).1
              simpa [Lib.byteCells] using this
            have e : (Lib.byteCells (List.replicate U.length 97))[j]? = some (Value.int .u8 97) := by simp [Lib.byteCells, hjl]
            rw [e] at hj
            simp only [Option.some.injEq] at hj
            subst hj
            rw [Nat.zero_add]
            exact h.cell j 97 (by simp [hjl])
          case c2 => exact cell_one_new _ _ _
          case c3 => intro u hu; simp at hu; subst hu; rfl
          case c4 =>
            intro hroom j hj
            have h := HR2.out.alloc (.cells #[.int .u8 97] 5) #[.int .u8 97] 5 rfl
            simp at hj
            subst hj
            have e : 0 + U.length * 1 + 0 = U.length := by omega
            rw [e]
            exact ⟨h.there _ (by omega), h.free _ (by omega)⟩
          case c5 => unfold maxLen; omega
          case c6 => omega
          case c7 =>
            intro hroom
            have h := HR2.out.alloc (.cells #[.int .u8 97] 5) #[.int .u8 97] 5 rfl
            have h2 := brow_room h (by rw [List.length_replicate]; exact hroom) 97
            rw [List.length_replicate, ← List.replicate_succ', ← HN.out] at h2
            rw [Nat.zero_add, Nat.mul_one] at h2
            have h3 : BRow ((wr.alloc (.cells #[.int .u8 97] 5)).setCells w1.heap.size U.length [.int .u8 97]) w1.heap.size cap (nextL k U) := h2
            have hst := h3.string (U.length + 1) (by rw [HN.out]; simp)
            clear h h2 h3
            go_wp2_with fail
            go_ret2
            exact ⟨.inl ⟨by rw [HN.out]; simp; omega, rfl⟩, go_on b1 (below_setCells (hb.alloc hb.size _) _ _ _ (Nat.le_refl _))⟩
          case c8 =>
            intro hroom v' w3 hown hgrow
            have hown2 : w3.ownsRow (wr.heap.size + 1) 5 1 v' (nextL k U).length (Lib.byteCells (nextL k U)) := by
              rw [HN.out, List.length_replicate, List.replicate_succ', Lib.byteCells_append]
              exact hown
            have hst := own_brow hown2
            have hb3 : Below w1.heap.size w1 w3 := (hb.alloc hb.size _).grown hgrow (by have := hb.size; simp; omega) (by simp)
            clear hown hown2 hgrow
            go_wp2_with fail
            go_ret2
            exact ⟨.inl ⟨by rw [HN.out]; simp; omega, rfl⟩, go_on b1 hb3⟩

end Go.Proofs.Ytocdifclkopbcaa
