/- Contracts of word.Compare and of the document's Compare: both answer Check's errors of u, then of v, and else the length-then-letter order; no old memory is written. -/
import Derived.Test.YtocdifclkopbcaaChk
import Derived.Lib.Bytealg
namespace Go.Proofs.Ytocdifclkopbcaa
open Go.RowKit

/-- What strings.Compare answers. -/
def sc (a b : ByteArray) : Int := Lib.compareBytes a.data.toList b.data.toList
/-- Length, then letters. -/
def ord (a b : ByteArray) : Int := if a.size < b.size then -1 else if b.size < a.size then 1 else sc a b

set_option maxHeartbeats 400000 in
set_option maxRecDepth 100000 in
theorem bcompare_any (a b : ByteArray) (w : World) :
    Calls Try.prog 48 #[.string a, .string b] w fun e w' => e = .returned (.int .i64 (sc a b)) ∧ w' = w := by
  go_enter Try.func48, Try.ntmps48
  go_wp2
  rw [run_callFunc_extern Try.func57 (by kernel_rfl) (by kernel_rfl) (by kernel_rfl) (e := Extern.BytealgCompare.compare) (by kernel_rfl), Lib.run_compareString]
  simp only [Result.andThen]
  rw [Oper.upon_value]
  go_wp2
  go_ret
  exact ⟨rfl, rfl⟩

set_option maxHeartbeats 400000 in
theorem scompare_any (a b : ByteArray) (w : World) :
    Calls Try.prog 35 #[.string a, .string b] w fun e w' => e = .returned (.int .i64 (sc a b)) ∧ w' = w := by
  go_enter Try.func35, Try.ntmps35
  go_wp2_with (go_at_call 48; refine (bcompare_any _ _ _).mono ?_; rintro e w1 ⟨rfl, rfl⟩)
  go_ret
  exact ⟨rfl, rfl⟩

/-- What cmp.Compare answers of two ints. -/
def ci (x y : Int) : Int := if x < y then -1 else if y < x then 1 else 0

set_option maxHeartbeats 400000 in
theorem ccompare_any (x y : Int) (w : World) :
    Calls Try.prog 34 #[.int .i64 x, .int .i64 y] w fun e w' => e = .returned (.int .i64 (ci x y)) ∧ w' = w := by
  by_cases h1 : x < y
  · have HC : Hid (ci x y = -1) := by show ci x y = -1; simp [ci, h1]
    go_enter Try.func34, Try.ntmps34
    go_wp2
    go_ret
    exact ⟨ret_int HC.out.symm, rfl⟩
  by_cases h2 : y < x
  · have HC : Hid (ci x y = 1) := by show ci x y = 1; simp [ci, h1, h2]
    go_enter Try.func34, Try.ntmps34
    go_wp2
    go_ret
    exact ⟨ret_int HC.out.symm, rfl⟩
  have HC : Hid (ci x y = 0) := by show ci x y = 0; simp [ci, h1, h2]
  go_enter Try.func34, Try.ntmps34
  go_wp2
  go_ret
  exact ⟨ret_int HC.out.symm, rfl⟩

set_option maxHeartbeats 400000 in
set_option maxRecDepth 100000 in
theorem cor_any (x y : Int) (b : Nat) (w : World) (c0 : w.cell? ⟨b, 0, none⟩ = some (.int .i64 x)) (c1 : w.cell? ⟨b, 1, none⟩ = some (.int .i64 y)) :
    Calls Try.prog 33 #[.slice (some ⟨b, 0, none⟩) 2 2] w fun e w' => e = .returned (.int .i64 (if x = 0 then y else x)) ∧ w' = w := by
  by_cases hx : x = 0
  · subst hx
    rw [if_pos rfl]
    by_cases hy : y = 0
    · subst hy
      go_enter Try.func33, Try.ntmps33
      go_wp2
      refine wp_loop_rounds 3 ?_
      rw [rounds_succ]
      go_wp2
      rw [rounds_succ]
      go_wp2
      rw [rounds_succ]
      go_wp2
      go_ret
      exact ⟨rfl, rfl⟩
    · have hy0 : (y != 0) = true := by simpa using hy
      go_enter Try.func33, Try.ntmps33
      go_wp2
      refine wp_loop_rounds 2 ?_
      rw [rounds_succ]
      go_wp2
      rw [rounds_succ]
      go_wp2
      go_ret
      exact ⟨rfl, rfl⟩
  · rw [if_neg hx]
    have hx0 : (x != 0) = true := by simpa using hx
    go_enter Try.func33, Try.ntmps33
    go_wp2
    refine wp_loop_rounds 1 ?_
    rw [rounds_succ]
    go_wp2
    go_ret
    exact ⟨rfl, rfl⟩

/-- The error that Compare answers: that of u, else that of v. -/
def cmpE (k : Int) (u v : ByteArray) : Int := if chk k u = 0 then chk k v else chk k u
/-- The number that Compare answers. -/
def cmpN (k : Int) (u v : ByteArray) : Int := if cmpE k u v = 0 then ord u v else 0
theorem ret_two {k l : IntKind} {a b c d : Int} (h : a = b) (g : c = d) : Ending.returned (.tuple #[.int k a, .int l c]) = .returned (.tuple #[.int k b, .int l d]) := by rw [h, g]
theorem cmp1 {k : Int} {u v : ByteArray} (h : chk k u ≠ 0) : cmpE k u v = chk k u ∧ cmpN k u v = 0 := by
  have e : cmpE k u v = chk k u := by unfold cmpE; rw [if_neg h]
  exact ⟨e, by unfold cmpN; rw [if_neg (by rw [e]; exact h)]⟩
theorem cmp2 {k : Int} {u v : ByteArray} (h : chk k u = 0) (g : chk k v ≠ 0) : cmpE k u v = chk k v ∧ cmpN k u v = 0 := by
  have e : cmpE k u v = chk k v := by unfold cmpE; rw [if_pos h]
  exact ⟨e, by unfold cmpN; rw [if_neg (by rw [e]; exact g)]⟩
theorem cmp3 {k : Int} {u v : ByteArray} (h : chk k u = 0) (g : chk k v = 0) : cmpE k u v = 0 ∧ cmpN k u v = ord u v := by
  have e : cmpE k u v = 0 := by unfold cmpE; rw [if_pos h]; exact g
  exact ⟨e, by unfold cmpN; rw [if_pos e]⟩
theorem or_ci (u v : ByteArray) : (if ci (u.size : Int) (v.size : Int) = 0 then sc u v else ci (u.size : Int) (v.size : Int)) = ord u v := by
  unfold ci ord
  by_cases h : u.size < v.size
  · have h' : (u.size : Int) < v.size := by omega
    simp [h, h']
  · have h' : ¬ (u.size : Int) < v.size := by omega
    by_cases g : v.size < u.size
    · have g' : (v.size : Int) < u.size := by omega
      simp [h, h', g, g']
    · have g' : ¬ (v.size : Int) < u.size := by omega
      simp [h, h', g, g']

set_option maxHeartbeats 1000000 in
set_option maxRecDepth 100000 in
theorem compare_any (k : Int) (u v : ByteArray) (w : World) :
    Calls Try.prog 9 #[.int .i64 k, .string u, .string v] w fun e w' => e = .returned (.tuple #[.int .i64 (cmpN k u v), .int .i64 (cmpE k u v)]) ∧ Below w.heap.size w w' := by
  by_cases h : chk k u = 0
  · by_cases g : chk k v = 0
    · have HF : Hid (cmpE k u v = 0 ∧ cmpN k u v = ord u v) := cmp3 h g
      have HH : Hid (chk k u = 0) := h
      have HG : Hid (chk k v = 0) := g
      clear h g
      go_enter Try.func9, Try.ntmps9
      go_wp2_with fail
      refine (check_any k u _).mono ?_
      rintro e w1 ⟨rfl, b1⟩
      rw [HH.out]
      go_wp2_with fail
      refine (check_any k v _).mono ?_
      rintro e w2 ⟨rfl, b2⟩
      rw [HG.out]
      go_wp2_with fail
      refine (ccompare_any _ _ _).mono ?_
      rintro e w3 ⟨rfl, rfl⟩
      go_wp2_with fail
      refine (scompare_any _ _ _).mono ?_
      rintro e w3 ⟨rfl, rfl⟩
      go_wp2_with fail
      refine (cor_any (ci ↑u.size ↑v.size) (sc u v) w3.heap.size _ (World.cell?_alloc_at _ _ _ _ rfl) (World.cell?_alloc_at _ _ _ _ rfl)).mono ?_
      rintro e w4 ⟨rfl, rfl⟩
      rw [or_ci]
      go_wp2_with fail
      go_ret2
      exact ⟨ret_two HF.out.2.symm HF.out.1.symm, (b1.trans (b2.mono b1.size)).alloc (Nat.le_trans b1.size b2.size) _⟩
    · have HF : Hid (cmpE k u v = chk k v ∧ cmpN k u v = 0) := cmp2 h g
      have HH : Hid (chk k u = 0) := h
      have hg : (chk k v != 0) = true := by simpa using g
      clear h g
      go_enter Try.func9, Try.ntmps9
      go_wp2_with fail
      refine (check_any k u _).mono ?_
      rintro e w1 ⟨rfl, b1⟩
      rw [HH.out]
      go_wp2_with fail
      refine (check_any k v _).mono ?_
      rintro e w2 ⟨rfl, b2⟩
      go_wp2_with fail
      go_ret2
      exact ⟨ret_two HF.out.2.symm HF.out.1.symm, b1.trans (b2.mono b1.size)⟩
  · have HF : Hid (cmpE k u v = chk k u ∧ cmpN k u v = 0) := cmp1 h
    have hg : (chk k u != 0) = true := by simpa using h
    clear h
    go_enter Try.func9, Try.ntmps9
    go_wp2_with fail
    refine (check_any k u _).mono ?_
    rintro e w1 ⟨rfl, b1⟩
    go_wp2_with fail
    go_ret2
    exact ⟨ret_two HF.out.2.symm HF.out.1.symm, b1⟩

set_option maxHeartbeats 400000 in
theorem order_any (u v : ByteArray) (w : World) :
    Calls Try.prog 36 #[.string u, .string v] w fun e w' => e = .returned (.int .i64 (ord u v)) ∧ w' = w := by
  by_cases h : u.size < v.size
  · have HF : Hid (ord u v = -1) := by show ord u v = -1; simp [ord, h]
    have h1 : ((u.size : Int) != v.size) = true := by rw [bne_iff_ne]; omega
    go_enter Try.func36, Try.ntmps36
    go_wp2
    go_ret
    exact ⟨ret_int HF.out.symm, rfl⟩
  by_cases g : v.size < u.size
  · have HF : Hid (ord u v = 1) := by show ord u v = 1; simp [ord, h, g]
    have h1 : ((u.size : Int) != v.size) = true := by rw [bne_iff_ne]; omega
    go_enter Try.func36, Try.ntmps36
    go_wp2
    go_ret
    exact ⟨ret_int HF.out.symm, rfl⟩
  have HF : Hid (ord u v = sc u v) := by show ord u v = sc u v; simp [ord, h, g]
  have h1 : ((u.size : Int) != v.size) = false := by rw [bne_eq_false_iff_eq]; omega
  go_enter Try.func36, Try.ntmps36
  go_wp2_with (go_at_call 35; refine (scompare_any _ _ _).mono ?_; rintro e w1 ⟨rfl, rfl⟩)
  go_ret
  exact ⟨ret_int HF.out.symm, rfl⟩

set_option maxHeartbeats 1000000 in
theorem rcompare_any (k : Int) (u v : ByteArray) (w : World) (hu : u.size ≤ maxLen) (hv : v.size ≤ maxLen) :
    Calls Try.prog 10 #[.int .i64 k, .string u, .string v] w fun e w' => e = .returned (.tuple #[.int .i64 (cmpN k u v), .int .i64 (cmpE k u v)]) ∧ Below w.heap.size w w' := by
  by_cases h : chk k u = 0
  · by_cases g : chk k v = 0
    · have HF : Hid (cmpE k u v = 0 ∧ cmpN k u v = ord u v) := cmp3 h g
      have HH : Hid (chk k u = 0) := h
      have HG : Hid (chk k v = 0) := g
      clear h g
      go_enter Try.func10, Try.ntmps10
      go_wp2_with fail
      refine (rcheck_any k u _ hu).mono ?_
      rintro e w1 ⟨rfl, b1⟩
      rw [HH.out]
      go_wp2_with fail
      refine (rcheck_any k v _ hv).mono ?_
      rintro e w2 ⟨rfl, b2⟩
      rw [HG.out]
      go_wp2_with fail
      refine (order_any _ _ _).mono ?_
      rintro e w3 ⟨rfl, rfl⟩
      go_wp2_with fail
      go_ret2
      exact ⟨ret_two HF.out.2.symm HF.out.1.symm, b1.trans (b2.mono b1.size)⟩
    · have HF : Hid (cmpE k u v = chk k v ∧ cmpN k u v = 0) := cmp2 h g
      have HH : Hid (chk k u = 0) := h
      have hg : (chk k v != 0) = true := by simpa using g
      clear h g
      go_enter Try.func10, Try.ntmps10
      go_wp2_with fail
      refine (rcheck_any k u _ hu).mono ?_
      rintro e w1 ⟨rfl, b1⟩
      rw [HH.out]
      go_wp2_with fail
      refine (rcheck_any k v _ hv).mono ?_
      rintro e w2 ⟨rfl, b2⟩
      go_wp2_with fail
      go_ret2
      exact ⟨ret_two HF.out.2.symm HF.out.1.symm, b1.trans (b2.mono b1.size)⟩
  · have HF : Hid (cmpE k u v = chk k u ∧ cmpN k u v = 0) := cmp1 h
    have hg : (chk k u != 0) = true := by simpa using h
    have hg2 : (chk k u == 0) = false := by simpa using h
    clear h
    go_enter Try.func10, Try.ntmps10
    go_wp2_with fail
    refine (rcheck_any k u _ hu).mono ?_
    rintro e w1 ⟨rfl, b1⟩
    go_wp2_with fail
    go_ret2
    exact ⟨ret_two HF.out.2.symm HF.out.1.symm, b1⟩

end Go.Proofs.Ytocdifclkopbcaa
