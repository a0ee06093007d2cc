/- Contracts of word.periodOf and of the closure that it answers, and of word.Periods. No old memory is written. -/
import Derived.Test.YtocdifclkopbcaaOvl
namespace Go.Proofs.Ytocdifclkopbcaa
open Go.RowKit Go.Lib

/-- The closure's two captured variables stand, and the row that the first one leads to. -/
def PerEnv (s : ByteArray) (base bo bs : Nat) (w : World) : Prop :=
  ∃ g, w.heap[bo]? = some (.cells #[.slice (some ⟨g, 0, none⟩) (s.size + 1) (s.size + 1)] 47 (0, 0)) ∧ w.heap[bs]? = some (.cells #[.string s] 9 (0, 0)) ∧
    w.ownsRow base 3 1 (.slice (some ⟨g, 0, none⟩) (s.size + 1) (s.size + 1)) (s.size + 1) (zRow s s.size)
theorem PerEnv.below {s : ByteArray} {base bo bs B : Nat} {w w' : World} (h : PerEnv s base bo bs w) (hb : Below B w w') (hB : w.heap.size ≤ B) : PerEnv s base bo bs w' := by
  obtain ⟨g, h1, h2, h3⟩ := h
  have l1 : bo < w.heap.size := (Array.getElem?_eq_some_iff.1 h1).1
  have l2 : bs < w.heap.size := (Array.getElem?_eq_some_iff.1 h2).1
  refine ⟨g, by rw [hb.block bo (by omega)]; exact h1, by rw [hb.block bs (by omega)]; exact h2, ?_⟩
  have l3 := (h3.lt g rfl).2
  obtain ⟨a, b⟩ := h3
  refine ⟨a, ?_⟩
  rcases b with ⟨c, _⟩ | ⟨g', cap, cur, e, r⟩
  · simp at c
  · refine .inr ⟨g', cap, cur, e, ?_⟩
    have : g' = g := by simp at e; exact e.1.symm
    subst this
    rw [hb.block g' (by omega)]
    exact r
theorem PerEnv.drewN {s : ByteArray} {base bo bs : Nat} {w : World} (h : PerEnv s base bo bs w) (q : Nat) : PerEnv s base bo bs (w.drewN q) := h

/-- p is a period (of a p from 0 to the length). -/
def perB (s : ByteArray) (p : Nat) : Bool := decide (p + zAt s p = s.size)
theorem perB_iff (s : ByteArray) (p : Nat) (hp : p ≤ s.size) : perB s p = true ↔ isPer s p := by
  unfold perB
  rw [decide_eq_true_iff]
  exact per_iff s p hp
theorem ret_bool {a b : Bool} (h : a = b) : Ending.returned (.bool a) = .returned (.bool b) := by rw [h]

set_option maxHeartbeats 1000000 in
set_option maxRecDepth 100000 in
theorem closure_any (s : ByteArray) (pi : Int) (p base bo bs : Nat) (w : World) (hs : s.size ≤ 17592186044416) (hpi : pi = p) (hp : p ≤ s.size) (h : PerEnv s base bo bs w) :
    Calls Try.prog 55 #[.int .i64 pi, .pointer (some ⟨bo, 0, none⟩), .pointer (some ⟨bs, 0, none⟩)] w fun e w' => e = .returned (.bool (perB s p)) ∧ ∃ q, w' = w.drewN q := by
  subst hpi
  obtain ⟨g, h1, h2, h3⟩ := h
  have c1 := cell_of_one h1
  have c2 := cell_of_one h2
  have c3 := h3.cellAt p (by omega)
  rw [zRow_get s s.size p (by omega)] at c3
  have hz : (if p < s.size then zAt s p else 0) = zAt s p := by
    by_cases e : p < s.size
    · rw [if_pos e]
    · have : p = s.size := by omega
      rw [if_neg e, this, zAt_end]
  rw [hz] at c3
  have hzl := (zAt_spec s p hp).1
  clear h1 h2 h3 hz
  go_enter Try.func55, Try.ntmps55
  go_wp2_with fail
  go_quiet (fail)
  go_wp2
  go_ret
  refine ⟨ret_bool ?_, nq, rfl⟩
  unfold perB
  rw [Bool.eq_iff_iff, beq_iff_eq, decide_eq_true_iff]
  omega

set_option maxHeartbeats 1000000 in
set_option maxRecDepth 100000 in
theorem periodOf_any (s : ByteArray) (w : World) (hs : s.size ≤ 17592186044416) :
    Calls Try.prog 44 #[.string s] w fun e w' => ∃ bo bs, e = .returned (.func (.func 55) #[] #[.pointer (some ⟨bo, 0, none⟩), .pointer (some ⟨bs, 0, none⟩)]) ∧ PerEnv s w.heap.size bo bs w' ∧ Below w.heap.size w w' := by
  go_enter Try.func44, Try.ntmps44
  go_wp2_with fail
  refine (overlaps_any s _ hs).mono ?_
  rintro e w1 ⟨g, rfl, hown, hb⟩
  go_wp2_with fail
  go_ret
  have hsz : (w.alloc (.cells #[.string s] 9)).heap.size = w.heap.size + 1 := by simp
  rw [hsz] at hown hb
  have hs1 : w.heap.size + 1 ≤ w1.heap.size := by have := hb.size; rw [hsz] at this; exact this
  have hbe : Below w.heap.size w w1 := ((Below.refl _ w).alloc (Nat.le_refl _) _).trans (hb.mono (by omega))
  refine ⟨w1.heap.size, w.heap.size, rfl, ⟨g, ?_, ?_, ?_⟩, hbe.alloc (by omega) _⟩
  · exact heap_alloc_new _ _
  · rw [Below.heap_alloc _ _ _ (by omega), hb.block _ (by omega)]
    exact heap_alloc_new _ _
  · obtain ⟨a, b⟩ := hown.alloc (.cells #[.slice (some ⟨g, 0, none⟩) (s.size + 1) (s.size + 1)] 47)
    refine ⟨a, ?_⟩
    rcases b with b | ⟨g', cap, cur, e, r, r2⟩
    · exact .inl b
    · exact .inr ⟨g', cap, cur, e, by omega, r2⟩

/-- The periods up to k. -/
def pers (s : ByteArray) (k : Nat) : List Nat := ((List.range k).map (· + 1)).filter fun p => perB s p
theorem pers_succ (s : ByteArray) (k : Nat) : pers s (k + 1) = pers s k ++ (if perB s (k + 1) then [k + 1] else []) := by
  unfold pers
  rw [List.range_succ, List.map_append, List.filter_append]
  by_cases h : perB s (k + 1) <;> simp [h]
theorem pers_le (s : ByteArray) (k : Nat) : (pers s k).length ≤ k := by
  unfold pers
  refine Nat.le_trans (List.length_filter_le _ _) (by simp)
/-- Numbers as an int row's cells. -/
def intCells (l : List Nat) : List Value := l.map fun (n : Nat) => Value.int .i64 (n : Int)
theorem intCells_append (a b : List Nat) : intCells (a ++ b) = intCells a ++ intCells b := by simp [intCells]
/-- What Periods answers. -/
def persA (k : Int) (s : ByteArray) : List Nat := if chk k s = 0 then pers s s.size else []

theorem own_draw {w : World} {base : Nat} {e : TypeId} {size n : Nat} {v : Value} {xs : List Value} (h : w.ownsRow base e size v n xs) (q : Nat) : (w.drewN q).ownsRow base e size v n xs := h
theorem own_mono {w : World} {base base' : Nat} {e : TypeId} {size n : Nat} {v : Value} {xs : List Value} (h : w.ownsRow base e size v n xs) (hb : base' ≤ base) : w.ownsRow base' e size v n xs := by
  obtain ⟨a, b⟩ := h
  refine ⟨a, ?_⟩
  rcases b with b | ⟨g, cap, cur, e, r, r2⟩
  · exact .inl b
  · exact .inr ⟨g, cap, cur, e, Nat.le_trans hb r, r2⟩
theorem ret_tup {k : IntKind} {v v' : Value} {a b : Int} (h : v = v') (g : a = b) : Ending.returned (.tuple #[v, .int k a]) = .returned (.tuple #[v', .int k b]) := by rw [h, g]

set_option maxHeartbeats 1000000 in
set_option maxRecDepth 100000 in
theorem periods_any (k : Int) (s : ByteArray) (w : World) (hs : s.size ≤ 17592186044416) :
    Calls Try.prog 25 #[.int .i64 k, .string s] w fun e w' => ∃ v, e = .returned (.tuple #[v, .int .i64 (chk k s)]) ∧ w'.ownsRow w.heap.size 3 1 v (persA k s).length (intCells (persA k s)) ∧ Below w.heap.size w w' := by
  by_cases h : chk k s = 0
  · have HP : Hid (persA k s = pers s s.size) := by show persA k s = pers s s.size; unfold persA; rw [if_pos h]
    have HH : Hid (chk k s = 0) := h
    clear h
    obtain ⟨i0, hi, hz0, hz1, hz2⟩ := info_parts Try.info_int
    go_enter Try.func25, Try.ntmps25
    go_wp2_with fail
    refine (check_any k s _).mono ?_
    rintro e w1 ⟨rfl, b1⟩
    rw [HH.out]
    go_wp2_with fail
    refine (periodOf_any s _ hs).mono ?_
    rintro e w2 ⟨bo, bs, rfl, henv, b2⟩
    go_wp2_with fail
    go_loopw [8, 20] (fun v vk wr => ∃ (k : Nat), vk = .int .i64 k ∧ k ≤ s.size ∧ wr.ownsRow w2.heap.size 3 1 v (pers s k).length (intCells (pers s k)) ∧ Below w2.heap.size w2 wr) (fun _ vk _ => s.size - (intOf vk).toNat)
    case atStart => exact ⟨0, rfl, Nat.zero_le _, by show World.ownsRow _ _ _ _ _ 0 []; exact World.ownsRow_nil _ _ _ _, Below.refl _ _⟩
    case round =>
      obtain ⟨k', rfl, hk, hown, hb⟩ := hrel
      obtain ⟨a, cap, rfl⟩ := own_shape hown
      by_cases hlt : k' < s.size
      · have henv' := henv.below hb (Nat.le_refl _)
        have hps := pers_succ s k'
        have hpl := pers_le s k'
        by_cases hper : perB s (k' + 1) = true
        · rw [if_pos hper] at hps
          have HS : Hid _ := hps
          have HE : Hid _ := henv'
          clear hps henv'
          go_wp2_with fail
          refine (closure_any s _ (k' + 1) w1.heap.size bo bs _ hs (by omega) (by omega) HE.out).mono ?_
          rintro e w3 ⟨rfl, q, rfl⟩
          rw [hper]
          go_wp2_with (at_builtin; refine wpList_append_own _ rfl _ _ 47 rfl w2.heap.size 3 i0 (.int .i64 0) 1 8 Try.underlying47 hi hz0 hz1 hz2 rfl (by decide) _ _ _ rfl ((own_draw hown q).alloc _) ⟨wr.heap.size, 0, none⟩ 1 1 [.int .i64 ((k' : Int) + 1)] rfl rfl ?c1 ?c2 ?c3 ?c4 ?c5 ?_)
          case c1 => exact cell_one_new _ _ _
          case c2 => intro u hu; simp at hu; subst hu; rfl
          case c3 => unfold maxLen; omega
          case c4 => omega
          case c5 => have := hb.size; simp; omega
          intro v' w4 hown' hgrow _
          have R : w4.ownsRow w2.heap.size 3 1 v' (pers s (k' + 1)).length (intCells (pers s (k' + 1))) := by
            rw [HS.out, intCells_append, List.length_append]
            exact hown'
          have hb2 : Below w2.heap.size w2 w4 := ((below_drewN hb q).alloc hb.size _).grown hgrow (by have := hb.size; simp; omega) (fun g hg => (hown.lt g hg).1)
          clear hown' hgrow hown
          go_wp2
          go_roundw
          case rel => exact ⟨k' + 1, by go_num, by omega, R, hb2⟩
          case measure => simp [intOf]; omega
        · have hper' : perB s (k' + 1) = false := by simpa using hper
          rw [hper', if_neg (by simp), List.append_nil] at hps
          have HS : Hid _ := hps
          have HE : Hid _ := henv'
          clear hps henv' hper
          go_wp2_with fail
          refine (closure_any s _ (k' + 1) w1.heap.size bo bs _ hs (by omega) (by omega) HE.out).mono ?_
          rintro e w3 ⟨rfl, q, rfl⟩
          rw [hper']
          go_wp2_with fail
          go_roundw
          case rel => exact ⟨k' + 1, by go_num, by omega, by rw [HS.out]; exact own_draw hown q, below_drewN hb q⟩
          case measure => simp [intOf]; omega
      · have : k' = s.size := by omega
        subst this
        go_wp2
        go_ret2
        refine ⟨_, ret_tup rfl HH.out.symm, ?_, (b1.trans (b2.mono b1.size)).trans (hb.mono (Nat.le_trans b1.size b2.size))⟩
        rw [HP.out]
        exact own_mono hown (Nat.le_trans b1.size b2.size)
  · have HP : Hid (persA k s = []) := by show persA k s = []; unfold persA; rw [if_neg h]
    have hg : (chk k s != 0) = true := by simpa using h
    clear h
    go_enter Try.func25, Try.ntmps25
    go_wp2_with fail
    refine (check_any k s _).mono ?_
    rintro e w1 ⟨rfl, b1⟩
    go_wp2_with fail
    go_ret2
    exact ⟨_, rfl, by rw [HP.out]; exact World.ownsRow_nil _ _ _ _, b1⟩

end Go.Proofs.Ytocdifclkopbcaa
