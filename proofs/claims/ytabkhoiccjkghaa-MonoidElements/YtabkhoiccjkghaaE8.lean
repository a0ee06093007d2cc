/- monoid: letterOf, letterSteps. -/
import Derived.Test.YtabkhoiccjkghaaE4
namespace Go.Proofs.Ytabkhoiccjkghaa
open Go Go.RowKit Go.Lib Go.Maps
set_option linter.unusedVariables false

theorem enc_letter : ∀ c : Nat, c < 26 → Utf8.encode (97 + (c : Int)) = ⟨#[UInt8.ofNat (97 + c)]⟩ := by decide
theorem letterOf_any (c : Nat) (h : c < 26) (w : World) : Calls Try.prog 61 #[.int .i64 c] w fun e w' => e = .returned (.string ⟨#[UInt8.ofNat (97 + c)]⟩) ∧ w = w' := by
  have he : Hid (Utf8.encode (97 + (c : Int)) = ⟨#[UInt8.ofNat (97 + c)]⟩) := enc_letter c h
  go_enter Try.func61, Try.ntmps61
  go_wp2_with fail
  go_ret
  exact ⟨congrArg (fun b => Ending.returned (.string b)) he.out, rfl⟩
theorem lets_one {c : Nat} (h : c < 26) : lets ⟨#[UInt8.ofNat (97 + c)]⟩ = [c] := by
  unfold lets
  simp only [List.map_cons, List.map_nil, UInt8.toNat_ofNat']
  rw [Nat.mod_eq_of_lt (by omega)]
  simp
theorem chk_one {A : Aut} (G : Good A) {c : Nat} (h : c < A.k.toNat) : chk A.k ⟨#[UInt8.ofNat (97 + c)]⟩ = 0 := by
  have hk := G.ks
  refine chk_ok _ _ G.k1 G.k8 (fun i hi => ?_)
  have hi0 : i = 0 := by
    have : i < 1 := hi
    omega
  subst hi0
  show letterAt A.k (UInt8.ofNat (97 + c)) = true
  unfold letterAt
  rw [UInt8.toNat_ofNat', Nat.mod_eq_of_lt (by omega)]
  simp
  omega
/-- What OfWord answers of a word over the automaton's letters. -/
theorem ofWord_ok {v : Value} {A : Aut} {w : World} (h : AR w v A) (G : Good A) (h64 : A.ac.length ≤ 64) (b : ByteArray) (hb : chk A.k b = 0) (hz : b.size ≤ 9223372036854775807) :
    Calls Try.prog 55 #[v, .string b] w fun e w' => e = .returned (.tuple #[.agg (tC (act A (lets b))), .int .i64 0]) ∧ Below w.heap.size w w' := by
  have hl := G.len
  have hk := G.k8
  have hk1 := G.k1
  have hmul : (A.ac.length : Int) * A.k ≤ 64 * 8 := Int.mul_le_mul (by omega) hk (by omega) (by omega)
  have := ofWord_any v A w h (by omega) (by omega) b hz
  have e : owE A b = 0 := by unfold owE; rw [if_pos (chkA_ok G), if_neg (by omega), hb]
  unfold owV at this
  rw [if_pos e] at this
  exact this

/-- The steps of the first i letters lie in block g. -/
def SP (w : World) (g : Nat) (A : Aut) (i : Nat) : Prop := ∃ cur : Array Value, w.heap[g]? = some (.cells cur 42 (0, 0)) ∧ cur.size = A.k.toNat * 8 ∧ ∀ c, c < i → ∀ j, j < 8 → cur[c * 8 + j]? = (tC (act A [c]))[j]?
theorem SP.keep {w w' : World} {g : Nat} {A : Aut} {i : Nat} (h : SP w g A i) (e : w'.heap[g]? = w.heap[g]?) : SP w' g A i := by
  obtain ⟨cur, h1, h2, h3⟩ := h
  exact ⟨cur, e.trans h1, h2, h3⟩
theorem SP.lt {w : World} {g : Nat} {A : Aut} {i : Nat} (h : SP w g A i) : g < w.heap.size := by
  obtain ⟨cur, h1, h2, h3⟩ := h
  exact (Array.getElem?_eq_some_iff.1 h1).1
theorem SP.cells {w : World} {g : Nat} {A : Aut} {i : Nat} (h : SP w g A i) {c : Nat} (hc : c < i) : ∀ j, j < 8 → w.cell? ⟨g, c * 8 + j, none⟩ = (tC (act A [c]))[j]? := by
  obtain ⟨cur, h1, h2, h3⟩ := h
  intro j hj
  rw [cell_of_row _ _ _ _ _ _ h1]
  exact h3 c hc j hj
structure SQG (w : World) (g : Nat) (A : Aut) (i : Nat) (y : World) : Prop where
  out : SP y g A i ∧ Below w.heap.size w y ∧ w.heap.size < g ∧ ∃ arr : Array Value, arr.size = 3 ∧ RowAt y w.heap.size arr
/-- The cells of a block. -/
def curOf (y : World) (g : Nat) : Array Value := match y.heap[g]? with
  | some (.cells cur _ _) => cur
  | _ => #[]
/-- Cells laid over those of a block, from a place on. -/
def pw (y : World) (g o : Nat) (cs : Array Value) : World := y.setRow g ((curOf y g).toList.take o ++ cs.toList ++ (curOf y g).toList.drop (o + cs.size)).toArray
theorem st_pw {y : World} {g o : Nat} {cur cs : Array Value} {t : TypeId} (h : y.heap[g]? = some (.cells cur t (0, 0))) (hs : o + cs.size ≤ cur.size) (h1 : cs.all (·.oneCell') = true) : (storeCells ⟨g, o, none⟩ cs.toList 0).run Try.prog y = .ok () (pw y g o cs) := by
  have := run_storeCells_at (P := Try.prog) g o t cs.toList 0 cur y h (by simpa using hs) (fun v hv => (Array.all_eq_true_iff_forall_mem.1 h1) v (by simpa using hv))
  rw [this]
  unfold pw curOf
  rw [h]
  simp
theorem pw_heap {y : World} {g o : Nat} {cur cs : Array Value} {t : TypeId} (h : y.heap[g]? = some (.cells cur t (0, 0))) : (pw y g o cs).heap[g]? = some (.cells (cur.toList.take o ++ cs.toList ++ cur.toList.drop (o + cs.size)).toArray t (0, 0)) := by
  unfold pw curOf
  rw [h]
  exact setRow_heap _ _ _ _ _ _ h
theorem pw_other {y : World} {g o j : Nat} {cs : Array Value} (h : j ≠ g) : (pw y g o cs).heap[j]? = y.heap[j]? := by
  unfold pw
  exact setRow_other _ _ _ _ h
theorem pw_below {B g o : Nat} {w y : World} {cs : Array Value} (h : Below B w y) (hg : B ≤ g) : Below B w (pw y g o cs) := by
  unfold pw
  exact below_row h hg
theorem pw_size {y : World} {g o : Nat} {cs : Array Value} : (pw y g o cs).heap.size = y.heap.size := by
  unfold pw
  rw [size_setRow]
theorem splice_get {cur cs : Array Value} {o : Nat} (hs : o + cs.size ≤ cur.size) (k : Nat) : (cur.toList.take o ++ cs.toList ++ cur.toList.drop (o + cs.size)).toArray[k]? = if k < o then cur[k]? else if k < o + cs.size then cs[k - o]? else cur[k]? := by
  have hl : (cur.toList.take o).length = o := by simp; omega
  rw [List.getElem?_toArray, List.append_assoc]
  by_cases h1 : k < o
  · rw [if_pos h1, List.getElem?_append_left (by omega), List.getElem?_take, if_pos h1, Array.getElem?_toList]
  · rw [if_neg h1, List.getElem?_append_right (by omega), hl]
    by_cases h2 : k < o + cs.size
    · rw [if_pos h2, List.getElem?_append_left (by simp; omega), Array.getElem?_toList]
    · rw [if_neg h2, List.getElem?_append_right (by simp; omega), List.getElem?_drop, Array.getElem?_toList]
      congr 1
      simp
      omega
theorem splice_size {cur cs : Array Value} {o : Nat} (hs : o + cs.size ≤ cur.size) : (cur.toList.take o ++ cs.toList ++ cur.toList.drop (o + cs.size)).toArray.size = cur.size := by
  simp
  omega
theorem SP.over {y : World} {g : Nat} {A : Aut} {i : Nat} {cs : Array Value} (h : SP y g A i) (hi : i < A.k.toNat) (h8 : cs.size = 8) : SP (pw y g (i * 8) cs) g A i := by
  obtain ⟨cur, h1, h2, h3⟩ := h
  refine ⟨_, pw_heap h1, by rw [splice_size (by omega)]; exact h2, fun c hc j hj => ?_⟩
  rw [splice_get (by omega), if_pos (by omega)]
  exact h3 c hc j hj
theorem SP.next {y : World} {g : Nat} {A : Aut} {i : Nat} (h : SP y g A i) (hi : i < A.k.toNat) : SP (pw y g (i * 8) (tC (act A [i]))) g A (i + 1) := by
  obtain ⟨cur, h1, h2, h3⟩ := h
  have h8 : (tC (act A [i])).size = 8 := rfl
  refine ⟨_, pw_heap h1, by rw [splice_size (by omega)]; exact h2, fun c hc j hj => ?_⟩
  rw [splice_get (by omega)]
  by_cases q : c = i
  · subst q
    rw [if_neg (by omega), if_pos (by omega)]
    congr 1
    omega
  · rw [if_pos (by omega)]
    exact h3 c (by omega) j hj

set_option maxHeartbeats 4000000 in
set_option maxRecDepth 100000 in
theorem letterSteps_any (v : Value) (A : Aut) (w : World) (h : AR w v A) (G : Good A) (h64 : A.ac.length ≤ 64) :
    Calls Try.prog 58 #[v] w fun e w' => ∃ g, e = .returned (.slice (some ⟨g, 0, none⟩) A.k.toNat A.k.toNat) ∧ Below w.heap.size w w' ∧ w.heap.size ≤ g ∧ SP w' g A A.k.toNat := by
  obtain ⟨an, cn, aa, ca, e, h1, h2⟩ := h.is
  have HA : Hid (∀ w', Below w.heap.size w w' → AR w' v A) := fun w' hb => h.stay hb
  clear h h1 h2
  subst e
  have hk := G.ks
  obtain ⟨i0, hi, hz0, hz1, hz2⟩ := info_parts Try.info_trL
  have HGd : Hid (Good A) := G
  have hcur : ∀ y, Below w.heap.size w y → RowAt y w.heap.size #[.int .i64 A.k, .slice an A.nx.length cn, .slice aa A.ac.length ca] → True := fun _ _ _ => trivial
  obtain ⟨w0, hw0⟩ : ∃ w0, w0 = w.alloc (.cells #[.int .i64 A.k, .slice an A.nx.length cn, .slice aa A.ac.length ca] 25) := ⟨_, rfl⟩
  have HB0 : Hid (Below w.heap.size w w0) := by show Below _ _ _; rw [hw0]; exact below_new _ _
  have HR0 : Hid (RowAt w0 w.heap.size #[.int .i64 A.k, .slice an A.nx.length cn, .slice aa A.ac.length ca]) := by show RowAt _ _ _; rw [hw0]; exact RowAt.last _ _ _
  have hs0 : w0.heap.size = w.heap.size + 1 := by rw [hw0]; simp
  have HW0 : Hid (w0 = w.alloc (.cells #[.int .i64 A.k, .slice an A.nx.length cn, .slice aa A.ac.length ca] 25)) := hw0
  clear hw0 hcur G
  go_enter Try.func58, Try.ntmps58
  go_wp2_with (at_make; rw [← HW0.out]; refine wpList_make_full _ rfl _ _ 99 rfl w.heap.size 42 i0 (.agg (trC 0 fun _ => 0)) 8 Try.underlying99 hi hz0 hz1 .i64 .i64 A.k A.k A.k.toNat rfl rfl hk.2.2.symm hk.2.2.symm (by rw [hz2]; omega) (by unfold maxLen; omega) (by omega) ?_; intro w1 hown hgr)
  have HS1 : Hid (SP w1 w0.heap.size A 0) := by
    rcases hown.2 with ⟨h1, _⟩ | ⟨g, cap, cur, h1, r1, r2, r3, r4⟩
    · cases h1
    · simp only [Value.slice.injEq, Option.some.injEq, Addr.mk.injEq] at h1
      obtain ⟨⟨rfl, _⟩, _, rfl⟩ := h1
      exact ⟨cur, r2, by omega, fun c hc => by omega⟩
  have HB1 : Hid (Below w.heap.size w w1) := HB0.out.grown hgr (by omega) (fun b hb => by cases hb)
  have HR1 : Hid (RowAt w1 w.heap.size #[.int .i64 A.k, .slice an A.nx.length cn, .slice aa A.ac.length ca]) := rowAt_keep HR0.out (by have := (Only.grown (S := fun _ => True) hgr (fun _ _ => trivial)).size; omega) (hgr.block _ (by omega) (by simp))
  rw [hs0] at HS1
  obtain ⟨g, hgE⟩ : ∃ g, w.heap.size + 1 = g := ⟨_, rfl⟩
  rw [hgE] at HS1
  rw [hgE]
  have hgw : w.heap.size < g := by omega
  clear hown hgr HB0 HR0 HW0 hgE hs0
  go_loopw [10, 4] (fun vi _ wr => ∃ i : Nat, vi = .int .i64 i ∧ i ≤ A.k.toNat ∧ SP wr g A i ∧ Below w.heap.size w wr ∧ RowAt wr w.heap.size #[.int .i64 A.k, .slice an A.nx.length cn, .slice aa A.ac.length ca]) (fun vi _ _ => A.k.toNat - (intOf vi).toNat)
  case atStart => exact ⟨0, rfl, Nat.zero_le _, HS1.out, HB1.out, HR1.out⟩
  case round =>
    clear HS1 HB1 HR1
    obtain ⟨i, rfl, hin, hS, hB, hR⟩ := hrel
    have HS : Hid (SP wr g A i) := hS
    have HB : Hid (Below w.heap.size w wr) := hB
    have HR : Hid (RowAt wr w.heap.size #[.int .i64 A.k, .slice an A.nx.length cn, .slice aa A.ac.length ca]) := hR
    clear hS hB hR
    by_cases hlt : i < A.k.toNat
    · have hiI : (i : Int) < A.k.toNat := by omega
      have HOW : Hid (∀ y, Below w.heap.size w y → Calls Try.prog 55 #[.agg #[.int .i64 A.k, .slice an A.nx.length cn, .slice aa A.ac.length ca], .string ⟨#[UInt8.ofNat (97 + i)]⟩] y fun e w' => e = .returned (.tuple #[.agg (tC (act A [i])), .int .i64 0]) ∧ Below y.heap.size y w') := fun y hy => by
        have := ofWord_ok (HA.out y hy) HGd.out h64 ⟨#[UInt8.ofNat (97 + i)]⟩ (chk_one HGd.out hlt) (by show 1 ≤ _; omega)
        rw [lets_one (by omega)] at this
        exact this
      obtain ⟨cs, hcs⟩ : ∃ cs, tC (act A [i]) = cs := ⟨_, rfl⟩
      have h8 : cs.size = 8 := by rw [← hcs]; rfl
      have hne : (cs = #[]) ↔ False := ⟨fun e => by rw [e] at h8; simp at h8, False.elim⟩
      have HC1 : Hid (cs.all (·.oneCell') = true) := by show _ = _; rw [← hcs]; exact tC_one _
      rw [hcs] at HOW
      have HCS : Hid (tC (act A [i]) = cs) := hcs
      obtain ⟨q, hq⟩ : ∃ q : ByteArray, (⟨#[UInt8.ofNat (97 + i)]⟩ : ByteArray) = q := ⟨_, rfl⟩
      have HLO : Hid (∀ y, Calls Try.prog 61 #[.int .i64 i] y fun e w' => e = .returned (.string q) ∧ y = w') := fun y => by
        have := letterOf_any i (by omega) y
        rw [hq] at this
        exact this
      rw [hq] at HOW
      have HQ : Hid (∀ y y', SQG w g A i y → Below y.heap.size y y' → SQG w g A i y') := fun y y' hy hb => by
        obtain ⟨a1, a2, a3, arr, a4, a5⟩ := SQG.out hy
        exact SQG.mk ⟨a1.keep (hb.block _ a1.lt), go_on a2 hb, a3, arr, a4, a5.stay hb⟩
      have HMK : Hid (∀ y, RowAt y w.heap.size #[.int .i64 A.k, .slice an A.nx.length cn, .slice aa A.ac.length ca] → SQG w g A i y → (SQG w g A i y ∧ (∀ o, y.cell? ⟨w.heap.size, o, none⟩ = (#[.int .i64 A.k, .slice an A.nx.length cn, .slice aa A.ac.length ca] : Array Value)[o]?) ∧ (storeCells ⟨g, i * 8, none⟩ cs.toList 0).run Try.prog y = .ok () (pw y g (i * 8) cs))) := fun y hr hy => by
        obtain ⟨cur, a1, a2, _⟩ := (SQG.out hy).1
        exact ⟨hy, hr.cell, st_pw a1 (by omega) HC1.out⟩
      have HSK : Hid (∀ y y', (SQG w g A i y ∧ (∀ o, y.cell? ⟨w.heap.size, o, none⟩ = (#[.int .i64 A.k, .slice an A.nx.length cn, .slice aa A.ac.length ca] : Array Value)[o]?) ∧ (storeCells ⟨g, i * 8, none⟩ cs.toList 0).run Try.prog y = .ok () (pw y g (i * 8) cs)) → Below y.heap.size y y' → (SQG w g A i y' ∧ (∀ o, y'.cell? ⟨w.heap.size, o, none⟩ = (#[.int .i64 A.k, .slice an A.nx.length cn, .slice aa A.ac.length ca] : Array Value)[o]?) ∧ (storeCells ⟨g, i * 8, none⟩ cs.toList 0).run Try.prog y' = .ok () (pw y' g (i * 8) cs))) := fun y y' hy hb => by
        have hq := SQG.out hy.1
        have hlt' : w.heap.size < y.heap.size := by have := hq.1.lt; omega
        refine HMK.out y' ⟨by have := hb.size; omega, fun o => by rw [below_cellJ hb hlt']; exact hy.2.1 o⟩ (HQ.out _ _ hy.1 hb)
      have HST : Hid (∀ y, (SQG w g A i y ∧ (∀ o, y.cell? ⟨w.heap.size, o, none⟩ = (#[.int .i64 A.k, .slice an A.nx.length cn, .slice aa A.ac.length ca] : Array Value)[o]?) ∧ (storeCells ⟨g, i * 8, none⟩ cs.toList 0).run Try.prog y = .ok () (pw y g (i * 8) cs)) → (SQG w g A i (pw y g (i * 8) cs) ∧ (∀ o, (pw y g (i * 8) cs).cell? ⟨w.heap.size, o, none⟩ = (#[.int .i64 A.k, .slice an A.nx.length cn, .slice aa A.ac.length ca] : Array Value)[o]?) ∧ (storeCells ⟨g, i * 8, none⟩ cs.toList 0).run Try.prog (pw y g (i * 8) cs) = .ok () (pw (pw y g (i * 8) cs) g (i * 8) cs))) := fun y hy => by
        have hq := SQG.out hy.1
        have hne : w.heap.size ≠ g := by omega
        have hrow : RowAt (pw y g (i * 8) cs) w.heap.size #[.int .i64 A.k, .slice an A.nx.length cn, .slice aa A.ac.length ca] := ⟨by rw [pw_size]; have := hq.1.lt; omega, fun o => by rw [← hy.2.1 o]; exact World.cell?_of_block (pw_other hne)⟩
        exact HMK.out _ hrow (SQG.mk ⟨hq.1.over hlt h8, pw_below hq.2.1 (by omega), hq.2.2.1, _, rfl, hrow⟩)
      have S0 : (SQG w g A i wr.drew ∧ (∀ o, wr.drew.cell? ⟨w.heap.size, o, none⟩ = (#[.int .i64 A.k, .slice an A.nx.length cn, .slice aa A.ac.length ca] : Array Value)[o]?) ∧ (storeCells ⟨g, i * 8, none⟩ cs.toList 0).run Try.prog wr.drew = .ok () (pw wr.drew g (i * 8) cs)) := HMK.out _ (HR.out.stay (Below.refl _ _).drew) (HQ.out wr _ (SQG.mk ⟨HS.out, HB.out, hgw, _, rfl, HR.out⟩) (Below.refl _ _).drew)
      clear hcs hq
      go_wp2_with fail
      go_region_held3 (fun y => (SQG w g A i y ∧ (∀ o, y.cell? ⟨w.heap.size, o, none⟩ = (#[.int .i64 A.k, .slice an A.nx.length cn, .slice aa A.ac.length ca] : Array Value)[o]?) ∧ (storeCells ⟨g, i * 8, none⟩ cs.toList 0).run Try.prog y = .ok () (pw y g (i * 8) cs))) (first | assumption | exact S0 | exact HSK.out _ _ (by assumption) (by assumption) | exact HST.out _ (by assumption)) (first | (go_at_call 61; refine (HLO.out _).mono ?_; rintro e y1 ⟨rfl, rfl⟩) | (go_at_call 55; refine (HOW.out _ HB.out.drew).mono ?_; rintro e y1 ⟨rfl, hy1⟩))
      have HY1 : Hid (Below w.heap.size w y1) := go_on (HB.out.drew) hy1
      have HSN : Hid (SP (pw y1 g (i * 8) cs) g A (i + 1)) := by
        have h1 : SP y1 g A i := HS.out.keep (hy1.block _ HS.out.lt)
        have := h1.next hlt
        rw [HCS.out] at this
        exact this
      have HRN : Hid (RowAt (pw y1 g (i * 8) cs) w.heap.size #[.int .i64 A.k, .slice an A.nx.length cn, .slice aa A.ac.length ca]) := by
        have h1 : RowAt y1 w.heap.size #[.int .i64 A.k, .slice an A.nx.length cn, .slice aa A.ac.length ca] := (HR.out.stay (Below.refl _ _).drew).stay hy1
        exact ⟨by rw [pw_size]; exact h1.lt, fun o => (World.cell?_of_block (pw_other (show w.heap.size ≠ g by omega))).trans (h1.cell o)⟩
      have HBN : Hid (Below w.heap.size w (pw y1 g (i * 8) cs)) := pw_below HY1.out (by omega)
      clear S0 hy1 HY1
      go_wp2_with fail
      go_roundw
      case rel => exact ⟨i + 1, by go_num, by omega, HSN.out, HBN.out, HRN.out⟩
      case measure => simp [intOf]; omega
    · have hiI : ¬ (i : Int) < A.k.toNat := by omega
      obtain rfl : i = A.k.toNat := by omega
      go_wp2_with fail
      go_ret
      exact ⟨g, rfl, HB.out, by omega, HS.out⟩
end Go.Proofs.Ytabkhoiccjkghaa
