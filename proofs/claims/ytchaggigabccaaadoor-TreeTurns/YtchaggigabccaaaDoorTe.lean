/- The sizes of trees, as a stack tells them; contract of tree.sizes. -/
import Derived.Test.YtchaggigabccaaaDoorTb
import Derived.Test.YtchaggigabccaaaDoorTd
import Derived.Laws.OwnMore
namespace Go.Proofs.YtchaggigabccaaaDoor
open Go.RowKit

/-- The sizes of the trees that stand free, the last one first. -/
def stk : List Nd → List Nat → List Nat
  | [], s => s
  | n :: ts, s => stk ts (match arity n.1, s with
    | 0, s => 1 :: s
    | 1, a :: s => (1 + a) :: s
    | 2, a :: b :: s => (1 + a + b) :: s
    | _, s => s)
def stkN (ts : List Nd) : List Nat := stk ts []
def push (n : Nd) (s : List Nat) : List Nat := match arity n.1, s with
    | 0, s => 1 :: s
    | 1, a :: s => (1 + a) :: s
    | 2, a :: b :: s => (1 + a + b) :: s
    | _, s => s
theorem stk_append (a b : List Nd) (s : List Nat) : stk (a ++ b) s = stk b (stk a s) := by
  induction a generalizing s with
  | nil => rfl
  | cons n a ih => simp only [List.cons_append, stk]; rw [ih]
theorem stk_take {ts : List Nd} {i : Nat} (h : i < ts.length) : stkN (ts.take (i + 1)) = push (ts.getD i (0, 0)) (stkN (ts.take i)) := by
  unfold stkN
  rw [List.take_add_one, stk_append]
  simp only [List.getElem?_eq_getElem h, Option.toList_some, stk, List.getD_eq_getElem?_getD, Option.getD_some]
  rfl
/-- L tells, at the places where free trees end, their sizes. -/
def Ends (L : List Nat) : Nat → List Nat → Prop
  | p, [] => p = 0
  | p, s :: r => 1 ≤ s ∧ s ≤ p ∧ L[p - 1]? = some s ∧ Ends L (p - s) r
theorem Ends.mono {L M : List Nat} : ∀ {s : List Nat} {p : Nat}, Ends L p s → (∀ j, j < p → M[j]? = L[j]?) → Ends M p s
  | [], _, h, _ => h
  | _ :: _, p, ⟨h1, h2, h3, h4⟩, hm => ⟨h1, h2, by rw [hm (p - 1) (by omega)]; exact h3, Ends.mono h4 (fun j hj => hm j (by omega))⟩
/-- One node more: how many free trees there are, and their sizes. -/
theorem push_ends {n : Nd} {L : List Nat} {p f : Nat} {s : List Nat} (h : Ends L p s) (hs : s.length = f) (hf : arity n.1 ≤ f) :
    (push n s).length = f - arity n.1 + 1 ∧ ∃ v r, push n s = v :: r ∧ 1 ≤ v ∧ v ≤ p + 1 ∧ Ends L (p + 1 - v) r ∧
      ((arity n.1 = 0 ∧ v = 1) ∨ (arity n.1 = 1 ∧ ∃ a, L[p - 1]? = some a ∧ a + 1 ≤ p + 1 ∧ v = 1 + a ∧ 1 ≤ a) ∨ (arity n.1 = 2 ∧ ∃ a b, L[p - 1]? = some a ∧ 1 ≤ a ∧ 1 ≤ b ∧ L[p - 1 - a]? = some b ∧ v = 1 + a + b ∧ a + b ≤ p)) := by
  have hal := arity_le n.1
  have h3 : arity n.1 = 0 ∨ arity n.1 = 1 ∨ arity n.1 = 2 := by omega
  rcases h3 with h0 | h0 | h0
  · have e : push n s = 1 :: s := by unfold push; rw [h0]; rfl
    rw [e, h0]
    exact ⟨by simp [hs], 1, s, rfl, by omega, by omega, by simpa using h, .inl ⟨rfl, rfl⟩⟩
  · match s, hs, h with
    | a :: r, hs, ⟨h1, h2, h3, h4⟩ =>
      have e : push n (a :: r) = (1 + a) :: r := by unfold push; rw [h0]; rfl
      rw [e, h0]
      refine ⟨by simp at hs ⊢; omega, 1 + a, r, rfl, by omega, by omega, ?_, .inr (.inl ⟨rfl, a, h3, by omega, rfl, h1⟩)⟩
      rw [show p + 1 - (1 + a) = p - a by omega]
      exact h4
    | [], hs, _ => simp at hs; omega
  · match s, hs, h with
    | a :: b :: r, hs, ⟨h1, h2, h3, ⟨k1, k2, k3, k4⟩⟩ =>
      have e : push n (a :: b :: r) = (1 + a + b) :: r := by unfold push; rw [h0]; rfl
      rw [e, h0]
      refine ⟨by simp at hs ⊢; omega, 1 + a + b, r, rfl, by omega, by omega, ?_, .inr (.inr ⟨rfl, a, b, h3, h1, k1, ?_, rfl, by omega⟩)⟩
      · rw [show p + 1 - (1 + a + b) = p - a - b by omega]
        exact k4
      · rw [show p - 1 - a = p - a - 1 by omega]
        exact k3
    | [a], hs, _ => simp at hs; omega
    | [], hs, _ => simp at hs; omega

/-! ### A row of numbers in a block of its own -/
def iA (L : List Nat) : Array Value := (L.map fun (n : Nat) => Value.int .i64 (n : Int)).toArray
def IRow (w : World) (g : Nat) (L : List Nat) : Prop := w.heap[g]? = some (.cells (iA L) 3 (0, 0))
theorem IRow.lt {w : World} {g : Nat} {L : List Nat} (h : IRow w g L) : g < w.heap.size := (Array.getElem?_eq_some_iff.1 h).1
theorem IRow.get {w : World} {g i x : Nat} {L : List Nat} (h : IRow w g L) (hi : L[i]? = some x) : w.cell? ⟨g, i, none⟩ = some (.int .i64 (x : Int)) := by
  have h' : w.heap[g]? = some (.cells (iA L) 3 (0, 0)) := h
  simp [World.cell?, h', iA, hi]
theorem IRow.frozen {w : World} {g : Nat} {L : List Nat} (h : IRow w g L) (i : Nat) : w.frozen? ⟨g, i, none⟩ = false := by
  have h' : w.heap[g]? = some (.cells (iA L) 3 (0, 0)) := h
  simp [World.frozen?, h']
theorem IRow.set {w : World} {g i v : Nat} {L : List Nat} (h : IRow w g L) : IRow (w.setCell ⟨g, i, none⟩ (.int .i64 (v : Int))) g (L.set i v) := by
  have h' : w.heap[g]? = some (.cells (iA L) 3 (0, 0)) := h
  unfold IRow
  simp only [World.setCell]
  rw [Array.getElem?_modify, if_pos rfl, h']
  simp [iA, List.map_set]
theorem IRow.keep {w w' : World} {g : Nat} {L : List Nat} (h : IRow w g L) (hb : Below w.heap.size w w') : IRow w' g L := (hb.block g h.lt).trans h
theorem IRow.alloc {w : World} {g : Nat} {L : List Nat} (h : IRow w g L) (o : Obj) : IRow (w.alloc o) g L := h.keep ((Below.refl _ _).alloc (Nat.le_refl _) o)
theorem IRow.drew {w : World} {g : Nat} {L : List Nat} (h : IRow w g L) : IRow w.drew g L := h
theorem made_iA (n : Nat) : madeCells #[.int .i64 0] n = iA (List.replicate n 0) := by
  apply Array.ext_getElem?
  intro i
  unfold madeCells iA
  by_cases h : i < n
  · simp [h, Nat.mod_one]
  · simp [h]
theorem Tryd.info_int : (Tryd.prog.info? 3).map (fun i => (i.zero, i.size, i.bytes)) = some (some (.int .i64 0), 1, 8) := by kernel_rfl

/-- What stands ahead of round i of sizes. -/
structure SzAt (w : World) (g : Nat) (ts : List Nd) (i : Nat) (L : List Nat) (wr : World) : Prop where
  len : L.length = ts.length
  row : IRow wr g L
  ends : ∀ j, j ≤ i → Ends L j (stkN (ts.take j))
  below : Below w.heap.size w wr

theorem free_good {ts : List Nd} {i f : Nat} (h : freeN ts = some f) (hi : i < ts.length) : ∃ c, freeN (ts.take i) = some c ∧ good (ts.getD i (0, 0)) = true ∧ arity (ts.getD i (0, 0)).1 ≤ c ∧ freeN (ts.take (i + 1)) = some (c - arity (ts.getD i (0, 0)).1 + 1) := by
  have h1 : freeN (ts.take (i + 1)) ≠ none := fun h0 => by rw [free_stop h0] at h; cases h
  have h2 := free_take hi
  cases hc : freeN (ts.take i) with
  | none => rw [hc] at h2; exact absurd h2 h1
  | some c =>
    rw [hc, Option.bind_some] at h2
    by_cases hg : good (ts.getD i (0, 0)) = true ∧ arity (ts.getD i (0, 0)).1 ≤ c
    · rw [if_pos hg] at h2
      exact ⟨c, rfl, hg.1, hg.2, h2⟩
    · rw [if_neg hg] at h2
      exact absurd h2 h1

/-- How the size at a node's place comes about, part by part. -/
theorem steps {n : Nd} {L : List Nat} {i v : Nat} (h : (arity n.1 = 0 ∧ v = 1) ∨ (arity n.1 = 1 ∧ ∃ a, L[i - 1]? = some a ∧ a + 1 ≤ i + 1 ∧ v = 1 + a ∧ 1 ≤ a) ∨ (arity n.1 = 2 ∧ ∃ a b, L[i - 1]? = some a ∧ 1 ≤ a ∧ 1 ≤ b ∧ L[i - 1 - a]? = some b ∧ v = 1 + a + b ∧ a + b ≤ i)) :
    ∃ pv : Nat → Nat, pv 0 = 1 ∧ pv (arity n.1) = v ∧ ∀ j, j < arity n.1 → 1 ≤ pv j ∧ pv j ≤ i ∧ ∃ d, L[i - pv j]? = some d ∧ pv (j + 1) = pv j + d ∧ pv j + d ≤ i + 1 := by
  rcases h with ⟨h0, rfl⟩ | ⟨h0, a, ha, hb, rfl, hc⟩ | ⟨h0, a, b, ha, h1, h2, hb, rfl, hc⟩
  · exact ⟨fun _ => 1, rfl, rfl, fun j hj => by omega⟩
  · refine ⟨fun j => if j = 0 then 1 else 1 + a, rfl, by rw [h0]; rfl, fun j hj => ?_⟩
    obtain rfl : j = 0 := by omega
    exact ⟨by simp, by simp; omega, a, by simpa using ha, rfl, by simp; omega⟩
  · refine ⟨fun j => if j = 0 then 1 else if j = 1 then 1 + a else 1 + a + b, rfl, by rw [h0]; rfl, fun j hj => ?_⟩
    have : j = 0 ∨ j = 1 := by omega
    rcases this with rfl | rfl
    · exact ⟨by simp, by simp; omega, a, by simpa using ha, rfl, by simp; omega⟩
    · refine ⟨by simp, by simp; omega, b, ?_, rfl, by simp; omega⟩
      simp only [Nat.one_ne_zero, if_false, if_true]
      rw [show i - (1 + a) = i - 1 - a by omega]
      exact hb

set_option maxHeartbeats 4000000 in
set_option maxRecDepth 100000 in
theorem sizes_any (v : Value) (ts : List Nd) (w : World) (hv : NReads w v ts) (hm : ts.length ≤ 4000) (hf : freeN ts = some 1) (hP : PTab w) :
    Calls Tryd.prog 40 #[v] w fun e w' => ∃ g L, e = .returned (.slice (some ⟨g, 0, none⟩) ts.length ts.length) ∧ w.heap.size ≤ g ∧ IRow w' g L ∧ L.length = ts.length ∧ (∀ j, j ≤ ts.length → Ends L j (stkN (ts.take j))) ∧ Below w.heap.size w w' := by
  obtain ⟨a, cap, rfl, hr⟩ := hv
  have HR : Hid _ := hr
  have HP : Hid (PTab w) := hP
  have HFr : Hid (∀ i, i < ts.length → ∃ c, freeN (ts.take i) = some c ∧ good (ts.getD i (0, 0)) = true ∧ arity (ts.getD i (0, 0)).1 ≤ c ∧ freeN (ts.take (i + 1)) = some (c - arity (ts.getD i (0, 0)).1 + 1)) := fun i hi => free_good hf hi
  obtain ⟨i0, hi, hz0, hz1, hz2⟩ := info_parts Tryd.info_int
  have hmk := fun w0 => run_make (P := Tryd.prog) w0 64 3 i0 (.int .i64 0) Tryd.underlying64 hi hz0 .i64 .i64 (ts.length : Int) (ts.length : Int) (by omega) (by omega) (by rw [hz2]; omega) (by omega)
  rw [hz1] at hmk
  simp only [Nat.mul_one] at hmk
  clear hr hP hf
  go_enter Tryd.func40, Tryd.ntmps40
  go_wp2_with fail
  have hI0 : IRow (w.alloc (.cells (madeCells #[.int .i64 0] ts.length) 3)) w.heap.size (List.replicate ts.length 0) := by
    unfold IRow
    rw [← made_iA]
    exact heap_alloc_new w _
  have HI0 : Hid _ := hI0
  have HB0 : Hid (Below w.heap.size w (w.alloc (.cells (madeCells #[.int .i64 0] ts.length) 3))) := (Below.refl _ _).alloc (Nat.le_refl _) _
  clear hI0 hmk
  go_loopw [11] (fun vi wr => ∃ (i c : Nat) (L : List Nat), i ≤ ts.length ∧ vi = .int .i64 i ∧ SzAt w w.heap.size ts i L wr ∧ freeN (ts.take i) = some c ∧ (stkN (ts.take i)).length = c) (fun vi _ => ts.length - (intOf vi).toNat)
  case atStart => exact ⟨0, 0, _, Nat.zero_le _, rfl, ⟨by simp, HI0.out, fun j hj => by rw [show j = 0 by omega]; rfl, HB0.out⟩, rfl, rfl⟩
  case round =>
    obtain ⟨i, c, L, hile, rfl, hat, hfc, hsc⟩ := hrel
    have HA : Hid (SzAt w w.heap.size ts i L wr) := hat
    clear hat HI0
    by_cases hlt : i < ts.length
    · have hiI : (i : Int) < ts.length := by omega
      obtain ⟨g, o, rfl, hg, h1, h2⟩ := HR.out i hlt
      obtain ⟨c', hc', hgood, har, hnext⟩ := HFr.out i hlt
      obtain rfl : c' = c := by rw [hfc] at hc'; simpa using hc'.symm
      obtain ⟨hpl, vv, rr, hpush, hv1, hv2, hends, hcase⟩ := push_ends (HA.out.ends i (Nat.le_refl _)) hsc har
      have hst := stk_take hlt
      obtain ⟨pv, hp0, hpe, hpj⟩ := steps hcase
      obtain ⟨⟨k, s⟩, hn⟩ : ∃ n, ts.getD i (0, 0) = n := ⟨_, rfl⟩
      rw [hn] at h1 h2 hgood har hnext hpl hpush hst hpe hpj
      have c1 : wr.cell? ⟨g, o + i * 2, none⟩ = some (.int .i64 k) := by rw [below_cell HA.out.below hg]; exact h1
      have c2 : wr.cell? ⟨g, o + i * 2 + 1, none⟩ = some (.int .u8 s) := by rw [below_cell HA.out.below hg]; exact h2
      obtain ⟨hk1, hk9⟩ := good_kind hgood
      simp only at hk1 hk9
      obtain ⟨j, rfl⟩ : ∃ j : Nat, k = j := ⟨k.toNat, by omega⟩
      have hj9 : j < 10 := by omega
      have hjI : (j : Int) < 10 := by omega
      have hal := arity_le (j : Int)
      have HPr := HP.out.below HA.out.below HP.out.pos
      obtain ⟨r, hrd⟩ : ∃ r, arity (j : Int) = r := ⟨_, rfl⟩
      have hcp := HPr j hj9
      rw [hrd] at hcp hal hpl hpe hpj har hnext
      -- the row behind the first store, and the node's block
      have hgl := HA.out.row.lt
      have hw0 : 0 < wr.heap.size := Nat.lt_of_lt_of_le HP.out.pos HA.out.below.size
      have HNX : Hid (freeN (ts.take (i + 1)) = some (c' - r + 1) ∧ stkN (ts.take (i + 1)) = vv :: rr ∧ (stkN (ts.take (i + 1))).length = c' - r + 1) := ⟨hnext, by rw [hst, hpush], by rw [hst, hpl]⟩
      have HEN : Hid (Ends L (i + 1 - vv) rr ∧ 1 ≤ vv ∧ vv ≤ i + 1 ∧ pv r = vv ∧ pv 0 = 1) := ⟨hends, hv1, hv2, hpe, hp0⟩
      have HPJ : Hid (∀ j, j < r → 1 ≤ pv j ∧ pv j ≤ i ∧ ∃ d, L[i - pv j]? = some d ∧ pv (j + 1) = pv j + d ∧ pv j + d ≤ i + 1) := hpj
      have hri : L.length = ts.length := HA.out.len
      have hcg := HA.out.row.frozen i
      obtain ⟨old, hold⟩ : ∃ old, L[i]? = some old := ⟨_, List.getElem?_eq_getElem (by omega)⟩
      have hcc := HA.out.row.get hold
      clear hnext hst hpush hpl hends hv1 hv2 hpe hp0 hpj hcase hn h1 h2 hgood har hrd hfc hsc hc'
      have hcc2 : ∀ O, (wr.alloc O).cell? ⟨w.heap.size, i, none⟩ = some (.int .i64 (old : Int)) := fun O => by rw [below_cell ((Below.refl wr.heap.size wr).alloc (Nat.le_refl _) O) hgl]; exact hcc
      have hcg2 : ∀ O, (wr.alloc O).frozen? ⟨w.heap.size, i, none⟩ = false := fun O => (HA.out.row.alloc O).frozen i
      go_wp2_with fail
      have hR1 : IRow ((wr.setCell ⟨w.heap.size, i, none⟩ (.int .i64 1)).alloc (.cells #[.int .i64 (j : Int), .int .u8 s] 36)) w.heap.size (L.set i (pv 0)) := by
        rw [HEN.out.2.2.2.2]
        exact (HA.out.row.set (i := i) (v := 1)).alloc _
      have hB1 : Below w.heap.size w ((wr.setCell ⟨w.heap.size, i, none⟩ (.int .i64 1)).alloc (.cells #[.int .i64 (j : Int), .int .u8 s] 36)) :=
        (HA.out.below.setCell (p := ⟨w.heap.size, i, none⟩) (Nat.le_refl _) _).alloc (by have := HA.out.below.size; simp; omega) _
      have HR1 : Hid _ := hR1
      have HB1 : Hid _ := hB1
      clear hR1 hB1 hcc hcc2 hcg hcg2 c1 c2 hcp HPr
      have hiL : i < L.length := by omega
      clear hold
      rename World => wo
      go_loopw [23] (fun vt wr => ∃ t : Nat, t ≤ r ∧ vt = .int .i64 t ∧ IRow wr w.heap.size (L.set i (pv t)) ∧ Below w.heap.size w wr) (fun vt _ => r - (intOf vt).toNat)
      case atStart => exact ⟨0, Nat.zero_le _, rfl, HR1.out, HB1.out⟩
      case round =>
        obtain ⟨t, htr, rfl, hrow, hbt⟩ := hrel
        clear HR1 HB1
        by_cases htl : t < r
        · have htI : (t : Int) < r := by omega
          obtain ⟨hq1, hq2, d, hd, hnx, hle⟩ := HPJ.out t htl
          obtain ⟨p, hp⟩ : ∃ p, pv t = p := ⟨_, rfl⟩
          rw [hp] at hq1 hq2 hd hnx hle hrow
          obtain ⟨m, hm⟩ : ∃ m, i - p = m := ⟨_, rfl⟩
          rw [hm] at hd
          have hmI : (i : Int) - (p : Int) = (m : Int) := by omega
          have hmi : m < i := by omega
          have hmt : (m : Int) < ts.length := by omega
          have hmw : IntKind.i64.wrap (m : Int) = (m : Int) := IntWalk.i64_in _ (by omega)
          have hsw : IntKind.i64.wrap ((p : Int) + (d : Int)) = ((p + d : Nat) : Int) := by rw [IntKind.wrap_i64]; omega
          have k1 : wr.cell? ⟨w.heap.size, i, none⟩ = some (.int .i64 (p : Int)) := hrow.get (by simp [hiL])
          have k2 : wr.cell? ⟨w.heap.size, m, none⟩ = some (.int .i64 (d : Int)) := hrow.get (by rw [List.getElem?_set_ne (by omega)]; exact hd)
          have k3 := hrow.frozen i
          have HN : Hid (IRow (wr.setCell ⟨w.heap.size, i, none⟩ (.int .i64 ((p + d : Nat) : Int))) w.heap.size (L.set i (pv (t + 1))) ∧ Below w.heap.size w (wr.setCell ⟨w.heap.size, i, none⟩ (.int .i64 ((p + d : Nat) : Int)))) := by
            refine ⟨?_, hbt.setCell (p := ⟨w.heap.size, i, none⟩) (Nat.le_refl _) _⟩
            have := hrow.set (i := i) (v := p + d)
            rw [List.set_set] at this
            rw [hnx]
            exact this
          obtain ⟨q, hqd⟩ : ∃ q, p + d = q := ⟨_, rfl⟩
          rw [hqd] at hsw HN
          clear hrow hbt hp hm hd hnx hle hqd
          go_wp2_with fail
          go_region
          all_goals go_wp2_with fail
          all_goals go_roundw
          all_goals first
            | exact ⟨t + 1, by omega, by go_num, HN.out.1, HN.out.2.drew⟩
            | (simp [intOf]; omega)
        · have htI : ¬ (t : Int) < r := by omega
          obtain rfl : t = r := by omega
          have HRW : Hid (IRow wr w.heap.size (L.set i (pv t))) := hrow
          have HBT : Hid (Below w.heap.size w wr) := hbt
          clear hrow hbt
          go_wp2_with fail
          go_roundw
          case rel =>
            refine ⟨i + 1, c' - t + 1, L.set i (pv t), by omega, by go_num, ⟨by simp [HA.out.len], HRW.out, ?_, HBT.out⟩, HNX.out.1, HNX.out.2.2⟩
            intro j'' hj''
            by_cases hjl : j'' ≤ i
            · exact (HA.out.ends j'' hjl).mono (fun j' hj' => by rw [List.getElem?_set_ne (by omega)])
            · obtain rfl : j'' = i + 1 := by omega
              rw [HNX.out.2.1]
              obtain ⟨e1, e2, e3, e4, _⟩ := HEN.out
              refine ⟨e2, e3, ?_, ?_⟩
              · rw [e4]; simp [hiL]
              · refine e1.mono (fun j' hj' => ?_)
                rw [List.getElem?_set_ne (by omega)]
          case measure => simp [intOf]; omega
    · have hiI : ¬ (i : Int) < ts.length := by omega
      obtain rfl : i = ts.length := by omega
      clear hlt
      go_wp2_with fail
      go_ret
      exact ⟨_, rfl, Nat.le_refl _, L, HA.out.row, HA.out.len, HA.out.ends, HA.out.below⟩

end Go.Proofs.YtchaggigabccaaaDoor
