/- Cy Cz, in one text. -/
import Derived.Test.YtihjhkbbpphocaaW2
import Derived.Test.YtihjhkbbpphocaaCk
import Derived.Test.YtihjhkbbpphocaaCl
namespace Go.Proofs.Ytihjhkbbpphocaa
open Go Go.RowKit Go.Lib Go.Maps
set_option linter.unusedVariables false
attribute [-instance] List.instBEq

def PS (b mb rb : Nat) (vl vd : Value) (j : Nat) : Prop := TS b mb vl j ∨ DS rb vd j
/-- Both tables in memory, apart from one another. -/
structure PB (B : Nat) (w : World) (b mb rb n : Nat) (vl vd : Value) (M : List (List Nat)) (D : DataW Unit) : Prop where
  t : TB B w b mb n vl M D
  d : RT B w rb n vd M
  k : NK D M
  sep : ∀ j, TS b mb vl j → ¬ DS rb vd j
theorem PB.only {B : Nat} {w w' : World} {b mb rb n : Nat} {vl vd : Value} {M : List (List Nat)} {D : DataW Unit} {T : Nat → Prop} (h : PB B w b mb rb n vl vd M D) (hb : Only T w w') (hs : ∀ j, PS b mb rb vl vd j → ¬ T j) : PB B w' b mb rb n vl vd M D :=
  ⟨h.t.only hb (fun j hj => hs j (.inl hj)), h.d.only hb (fun j hj => hs j (.inr hj)), h.k, h.sep⟩
theorem PB.below {B : Nat} {w w' : World} {b mb rb n : Nat} {vl vd : Value} {M : List (List Nat)} {D : DataW Unit} (h : PB B w b mb rb n vl vd M D) (hb : Below w.heap.size w w') : PB B w' b mb rb n vl vd M D := ⟨h.t.below hb, h.d.below hb, h.k, h.sep⟩
theorem PB.lt {B : Nat} {w : World} {b mb rb n : Nat} {vl vd : Value} {M : List (List Nat)} {D : DataW Unit} (h : PB B w b mb rb n vl vd M D) {j : Nat} (hj : PS b mb rb vl vd j) : B ≤ j ∧ j < w.heap.size := by
  rcases hj with hj | hj
  · exact h.t.ts hj
  · exact h.d.ds hj

/-- What the document's Put leaves, beside what the program's left. -/
def RPost (B rb n : Nat) (vd : Value) (M1 : List (List Nat)) (p : Int) (q : Bool) (E : Int) (w : World) (e : Ending) (w' : World) : Prop :=
  e = .returned (.tuple #[.int .i64 p, .bool q, .int .i64 E]) ∧ ∃ vd1, RT B w' rb n vd1 M1 ∧ Only (DS rb vd) w w' ∧ ∀ j, vd1.ownBlock = some j → vd.ownBlock = some j ∨ w.heap.size ≤ j
def TPost (B b mb rb n : Nat) (vl vd : Value) (M : List (List Nat)) (N : Int) (g : Nat → Nat) (p : Int) (q : Bool) (E : Int) (w : World) (e : Ending) (w' : World) : Prop :=
  e = .returned (.tuple #[.int .i64 p, .bool q, .int .i64 E]) ∧ ∃ vl1 M1 D1, TB B w' b mb n vl1 M1 D1 ∧ NK D1 M1 ∧ Only (TS b mb vl) w w' ∧ (∀ j, vl1.ownBlock = some j → vl.ownBlock = some j ∨ w.heap.size ≤ j) ∧
    ∀ y, RT B y rb n vd M → Calls Try.prog 53 #[.pointer (some ⟨rb, 0, none⟩), .agg (trC N g)] y (RPost B rb n vd M1 p q E y)

theorem put_both {B : Nat} {w : World} {b mb rb n : Nat} {vl vd : Value} {M : List (List Nat)} {D : DataW Unit} (h : PB B w b mb rb n vl vd M D) (N : Int) (g : Nat → Nat) (hg : W64 g) :
    ∃ (p : Int) (q : Bool) (E : Int), Calls Try.prog 52 #[.pointer (some ⟨b, 0, none⟩), .agg (trC N g)] w (TPost B b mb rb n vl vd M N g p q E w) := by
  by_cases hok : ckN N g = 0 ∧ N = n
  · obtain ⟨l, hl, hN, hgl⟩ : ∃ l : List Nat, Tf l ∧ N = l.length ∧ ∀ k, k < 7 → g k = pk (im l) l.length k := by
      have : okT N g := by
        by_cases q : okT N g
        · exact q
        · have := hok.1
          unfold ckN at this
          rw [if_neg q] at this
          cases this
      exact this.tf
    have hn : l.length = n := by omega
    have htc : trC N g = tC l := by subst hN; exact trC_congr hgl
    unfold TPost
    rw [htc]
    obtain ⟨x, q, hq⟩ := FQ.ex M (l.length : Int) (pk (im l) l.length)
    cases q with
    | true =>
      obtain ⟨hx, hi⟩ : l ∈ M ∧ M.idxOf l = x := by
        rcases hq with ⟨_, l2, h1, h2, h3⟩ | ⟨q, _⟩
        · have hm2 := List.mem_of_getElem? h1
          have e : l = l2 := by
            have := (sameL_iff (h.t.all l2 hm2).1 hl).1 h2
            exact this.symm
          subst e
          exact first_idx h1 h2 h3
        · cases q
      refine ⟨x, false, 0, (tput_old h.t hl hn hx hi).mono ?_⟩
      rintro e w' ⟨rfl, hb⟩
      refine ⟨rfl, vl, M, D, h.t.below hb, h.k, Only.of hb, fun j hj => .inl hj, fun y hy => (rtput_old hy hl hn hq rfl).mono ?_⟩
      rintro e w2 ⟨rfl, hb2⟩
      exact ⟨rfl, vd, hy.below hb2, Only.of hb2, fun j hj => .inl hj⟩
    | false =>
      have hno : l ∉ M := by
        rcases hq with ⟨q, _⟩ | ⟨_, _, h2⟩
        · cases q
        · intro hm
          have := h2 l hm
          rw [mt_self] at this
          cases this
      by_cases hf : M.length < 512
      · refine ⟨(M.length : Nat), true, 0, (tput_new h.t hl hn hno hf).mono ?_⟩
        rintro e w' ⟨vl', rfl, hT, hO, hv⟩
        refine ⟨rfl, vl', _, _, hT, h.k.put l _, hO, fun j hj => ?_, fun y hy => (rtput_new hy hl hn hq rfl hf).mono ?_⟩
        · rcases hv with e | ⟨x2, e, hx2⟩
          · exact .inl (e ▸ hj)
          · rw [e] at hj; injection hj with hj; exact .inr (by omega)
        · rintro e w2 ⟨vd', rfl, hR, hO2, hv2⟩
          refine ⟨rfl, vd', hR, hO2, fun j hj => ?_⟩
          rcases hv2 with e | ⟨x2, e, hx2⟩
          · exact .inl (e ▸ hj)
          · rw [e] at hj; injection hj with hj; exact .inr (by omega)
      · have h512 : M.length = 512 := by have := h.t.most; omega
        refine ⟨0, false, 2, (tput_full h.t hl hn hno (by omega)).mono ?_⟩
        rintro e w' ⟨rfl, hb⟩
        refine ⟨rfl, vl, M, D, h.t.below hb, h.k, Only.of hb, fun j hj => .inl hj, fun y hy => (rtput_full hy hl hn hq rfl h512).mono ?_⟩
        rintro e w2 ⟨rfl, hb2⟩
        exact ⟨rfl, vd, hy.below hb2, Only.of hb2, fun j hj => .inl hj⟩
  · refine ⟨0, false, 130, (tput_bad h.t hg hok).mono ?_⟩
    rintro e w' ⟨rfl, hb⟩
    refine ⟨rfl, vl, M, D, h.t.below hb, h.k, Only.of hb, fun j hj => .inl hj, fun y hy => (rput_bad hy hg hok).mono ?_⟩
    rintro e w2 ⟨rfl, hb2⟩
    exact ⟨rfl, vd, hy.below hb2, Only.of hb2, fun j hj => .inl hj⟩

theorem find_both {B : Nat} {w : World} {b mb rb n : Nat} {vl vd : Value} {M : List (List Nat)} {D : DataW Unit} (h : PB B w b mb rb n vl vd M D) {N : Int} {g : Nat → Nat} (hN : (Lit.int .i64 N).wf = true) (hg : W64 g) :
    ∃ (x : Nat) (q : Bool), (∀ y, Below w.heap.size w y → Calls Try.prog 54 #[.pointer (some ⟨b, 0, none⟩), .agg (trC N g)] y fun e w' => e = .returned (.tuple #[.int .i64 (x : Nat), .bool q]) ∧ Below y.heap.size y w') ∧
      (∀ y, Below w.heap.size w y → Calls Try.prog 55 #[.pointer (some ⟨rb, 0, none⟩), .agg (trC N g)] y fun e w' => e = .returned (.tuple #[.int .i64 (x : Nat), .bool q]) ∧ Below y.heap.size y w') := by
  obtain ⟨x, q, hq⟩ := FQ.ex M N g
  refine ⟨x, q, fun y hy => ?_, fun y hy => rtfind_any (h.below hy).d N g hq⟩
  rcases hq with ⟨rfl, l, h1, h2, h3⟩ | ⟨rfl, rfl, h2⟩
  · exact tfind_old (h.below hy).t h1 h2 h3
  · exact tfind_no (h.below hy).t h.k hN hg h2
theorem at_both {B : Nat} {w : World} {b mb rb n : Nat} {vl vd : Value} {M : List (List Nat)} {D : DataW Unit} (h : PB B w b mb rb n vl vd M D) (i : Int) :
    ∃ (N : Int) (g : Nat → Nat) (q : Bool), (∀ y, Below w.heap.size w y → Calls Try.prog 56 #[.pointer (some ⟨b, 0, none⟩), .int .i64 i] y fun e w' => e = .returned (.tuple #[.agg (trC N g), .bool q]) ∧ Below y.heap.size y w') ∧
      (∀ y, Below w.heap.size w y → Calls Try.prog 57 #[.pointer (some ⟨rb, 0, none⟩), .int .i64 i] y fun e w' => e = .returned (.tuple #[.agg (trC N g), .bool q]) ∧ Below y.heap.size y w') := by
  by_cases hi : i < 0 ∨ (M.length : Int) ≤ i
  · exact ⟨0, fun _ => 0, false, fun y hy => ttat_bad (h.below hy).t hi, fun y hy => rtat_bad (h.below hy).d hi⟩
  · obtain ⟨k, rfl⟩ : ∃ k : Nat, i = k := ⟨i.toNat, by omega⟩
    have hk : k < M.length := by omega
    have hl : M[k]? = some M[k] := List.getElem?_eq_getElem hk
    exact ⟨_, _, true, fun y hy => ttat_any (h.below hy).t hl, fun y hy => rtat_any (h.below hy).d hl⟩

/-- Both tables, or none. -/
def QP (B : Nat) (w : World) (x d : Value) (S : Nat → Prop) : Prop := (x = .pointer none ∧ d = .pointer none ∧ ∀ j, ¬ S j) ∨ ∃ b mb rb n vl vd M D, x = .pointer (some ⟨b, 0, none⟩) ∧ d = .pointer (some ⟨rb, 0, none⟩) ∧ PB B w b mb rb n vl vd M D ∧ ∀ j, S j ↔ PS b mb rb vl vd j
theorem QP.only {B : Nat} {w w' : World} {x d : Value} {S T : Nat → Prop} (h : QP B w x d S) (hb : Only T w w') (hs : ∀ j, S j → ¬ T j) : QP B w' x d S := by
  rcases h with h | ⟨b, mb, rb, n, vl, vd, M, D, h1, h2, h3, h4⟩
  · exact .inl h
  · exact .inr ⟨b, mb, rb, n, vl, vd, M, D, h1, h2, h3.only hb (fun j hj => hs j ((h4 j).2 hj)), h4⟩
theorem QP.lt {B : Nat} {w : World} {x d : Value} {S : Nat → Prop} (h : QP B w x d S) {j : Nat} (hj : S j) : B ≤ j ∧ j < w.heap.size := by
  rcases h with ⟨_, _, h⟩ | ⟨b, mb, rb, n, vl, vd, M, D, h1, h2, h3, h4⟩
  · exact absurd hj (h j)
  · exact h3.lt ((h4 j).1 hj)
def QA (B : Nat) (x d : Value) (S : Nat → Prop) (w : World) (e : Ending) (w' : World) : Prop :=
  e = .returned (.bool true) ∧ ∃ S', QP B w' x d S' ∧ Only S w w' ∧ ∀ j, S' j → S j ∨ w.heap.size ≤ j

/-- The cells of a call's data: its kind, the transformation, a number. -/
def opG (k N : Int) (g : Nat → Nat) (i : Int) : Array Value := #[.int .i64 k, .int .i64 N, .int .u64 (g 0 : Nat), .int .u64 (g 1 : Nat), .int .u64 (g 2 : Nat), .int .u64 (g 3 : Nat), .int .u64 (g 4 : Nat), .int .u64 (g 5 : Nat), .int .u64 (g 6 : Nat), .int .i64 i]

set_option maxHeartbeats 8000000 in
set_option maxRecDepth 100000 in
theorem asks_made {B : Nat} {w : World} {b mb rb n : Nat} {vl vd : Value} {M : List (List Nat)} {D : DataW Unit} (h : PB B w b mb rb n vl vd M D) (hB : B ≤ w.heap.size) (k N : Int) (g : Nat → Nat) (i : Int) (hN : (Lit.int .i64 N).wf = true) (hg : W64 g) :
    Calls Try.prog 32 #[.pointer (some ⟨b, 0, none⟩), .pointer (some ⟨rb, 0, none⟩), .agg (opG k N g i)] w fun e w' => e = .returned (.bool true) ∧ ∃ vl1 vd1 M1 D1, PB B w' b mb rb n vl1 vd1 M1 D1 ∧ Only (PS b mb rb vl vd) w w' ∧ ∀ j, PS b mb rb vl1 vd1 j → PS b mb rb vl vd j ∨ w.heap.size ≤ j := by
  obtain ⟨c2, hc2⟩ : ∃ c2, Value.int .u64 (g 0 : Nat) = c2 := ⟨_, rfl⟩
  obtain ⟨c3, hc3⟩ : ∃ c3, Value.int .u64 (g 1 : Nat) = c3 := ⟨_, rfl⟩
  obtain ⟨c4, hc4⟩ : ∃ c4, Value.int .u64 (g 2 : Nat) = c4 := ⟨_, rfl⟩
  obtain ⟨c5, hc5⟩ : ∃ c5, Value.int .u64 (g 3 : Nat) = c5 := ⟨_, rfl⟩
  obtain ⟨c6, hc6⟩ : ∃ c6, Value.int .u64 (g 4 : Nat) = c6 := ⟨_, rfl⟩
  obtain ⟨c7, hc7⟩ : ∃ c7, Value.int .u64 (g 5 : Nat) = c7 := ⟨_, rfl⟩
  obtain ⟨c8, hc8⟩ : ∃ c8, Value.int .u64 (g 6 : Nat) = c8 := ⟨_, rfl⟩
  have htr : trC N g = #[.int .i64 N, c2, c3, c4, c5, c6, c7, c8] := by unfold trC; rw [hc2, hc3, hc4, hc5, hc6, hc7, hc8]
  have hop : opG k N g i = #[.int .i64 k, .int .i64 N, c2, c3, c4, c5, c6, c7, c8, .int .i64 i] := by unfold opG; rw [hc2, hc3, hc4, hc5, hc6, hc7, hc8]
  rw [hop]
  clear hop hc2 hc3 hc4 hc5 hc6 hc7 hc8
  obtain ⟨w0, hw0⟩ : ∃ w0, w0 = w.alloc (.cells #[.int .i64 k, .int .i64 N, c2, c3, c4, c5, c6, c7, c8, .int .i64 i] 73) := ⟨_, rfl⟩
  have HW0 : Hid (w0 = w.alloc (.cells #[.int .i64 k, .int .i64 N, c2, c3, c4, c5, c6, c7, c8, .int .i64 i] 73)) := hw0
  have HB0 : Hid (Below w.heap.size w w0) := by show Below _ _ _; rw [hw0]; exact below_new _ _
  have HP0 : Hid (PB B w0 b mb rb n vl vd M D) := h.below HB0.out
  have HC0 : Hid (w0.heap[w.heap.size]? = some (.cells #[.int .i64 k, .int .i64 N, c2, c3, c4, c5, c6, c7, c8, .int .i64 i] 73 (0, 0))) := by show _ = _; rw [hw0]; exact heap_last _ _
  have HCS : Hid (∀ y : World, y.heap[w.heap.size]? = w0.heap[w.heap.size]? → ∀ o, y.cell? ⟨w.heap.size, o, none⟩ = (#[.int .i64 k, .int .i64 N, c2, c3, c4, c5, c6, c7, c8, .int .i64 i] : Array Value)[o]?) := fun y hy o => cell_of_row _ _ _ _ _ _ (hy.trans HC0.out)
  have HLT : Hid (w.heap.size < w0.heap.size) := (Array.getElem?_eq_some_iff.1 HC0.out).1
  have HP : Hid (PB B w b mb rb n vl vd M D) := h
  have HSAME : Hid (∀ y, Below w.heap.size w y → ∃ vl1 vd1 M1 D1, PB B y b mb rb n vl1 vd1 M1 D1 ∧ Only (PS b mb rb vl vd) w y ∧ ∀ j, PS b mb rb vl1 vd1 j → PS b mb rb vl vd j ∨ w.heap.size ≤ j) := fun y hy => ⟨vl, vd, M, D, HP.out.below hy, Only.of hy, fun j hj => .inl hj⟩
  clear hw0
  by_cases k1 : k = 1
  · subst k1
    obtain ⟨p, q, E, hput⟩ := put_both HP0.out N g hg
    have HPU : Hid _ := hput
    unfold TPost at HPU
    rw [htr] at HPU
    clear hput h
    go_enter Try.func32, Try.ntmps32
    go_wp2_with fail
    rw [← HW0.out]
    refine Calls.mono HPU.out ?_
    rintro e w1 ⟨rfl, vl1, M1, D1, hT1, hK1, hO1, hv1, hD⟩
    have hts : ∀ j, TS b mb vl j → j < w.heap.size := fun j hj => (HP.out.t.ts hj).2
    have cx := HCS.out w1 (hO1.block _ HLT.out (fun hj => Nat.lt_irrefl _ (hts _ hj)))
    have HR1 : Hid (RT B w1 rb n vd M) := HP0.out.d.only hO1 (fun j hj ht => HP.out.sep j ht hj)
    have HD : Hid _ := hD
    have HT1 : Hid (TB B w1 b mb n vl1 M1 D1) := hT1
    have HO1 : Hid (Only (TS b mb vl) w0 w1) := hO1
    have HK1 : Hid (NK D1 M1 ∧ ∀ j, vl1.ownBlock = some j → vl.ownBlock = some j ∨ w0.heap.size ≤ j) := ⟨hK1, hv1⟩
    clear hT1 hK1 hO1 hv1 hD hts
    go_wp2_with fail
    clear cx
    refine (HD.out w1 HR1.out).mono ?_
    rintro e w2 ⟨rfl, vd1, hR2, hO2, hv2⟩
    have HFIN : Hid (∃ vl1 vd1 M1 D1, PB B w2 b mb rb n vl1 vd1 M1 D1 ∧ Only (PS b mb rb vl vd) w w2 ∧ ∀ j, PS b mb rb vl1 vd1 j → PS b mb rb vl vd j ∨ w.heap.size ≤ j) := by
      have hs0 := HB0.out.size
      have hs1 := HO1.out.size
      have hdsep : ∀ j, TS b mb vl1 j → ¬ DS rb vd j := fun j hj hd => by
        have hd2 := HP.out.d.ds hd
        rcases hj with e | e | e
        · exact HP.out.sep j (.inl e) hd
        · exact HP.out.sep j (.inr (.inl e)) hd
        · rcases HK1.out.2 j e with q | q
          · exact HP.out.sep j (.inr (.inr q)) hd
          · omega
      have hT2 : TB B w2 b mb n vl1 M1 D1 := HT1.out.only hO2 hdsep
      refine ⟨vl1, vd1, M1, D1, ⟨hT2, hR2, HK1.out.1, fun j hj hd => ?_⟩, ?_, fun j hj => ?_⟩
      · rcases hd with e | e
        · exact hdsep j hj (.inl e)
        · rcases hv2 j e with q | q
          · exact hdsep j hj (.inr q)
          · have := (HT1.out.ts hj).2
            omega
      · exact ((Only.of HB0.out).trans (HO1.out.mono (fun j _ hj => .inl hj))).trans (hO2.mono (fun j _ hj => .inr hj))
      · rcases hj with (e | e | e) | (e | e)
        · exact .inl (.inl (.inl e))
        · exact .inl (.inl (.inr (.inl e)))
        · rcases HK1.out.2 j e with q | q
          · exact .inl (.inl (.inr (.inr q)))
          · exact .inr (by omega)
        · exact .inl (.inr (.inl e))
        · rcases hv2 j e with q | q
          · exact .inl (.inr (.inr q))
          · exact .inr (by omega)
    clear hR2 hO2 hv2
    go_wp2_with (go_at_call 10; refine (num13_any _ _).mono ?_; rintro e wn ⟨rfl, rfl⟩)
    go_ret
    exact ⟨rfl, HFIN.out⟩
  by_cases k2 : k = 2
  · subst k2
    obtain ⟨x, q, hf1, hf2⟩ := find_both HP0.out hN hg
    have HF1 : Hid _ := hf1
    have HF2 : Hid _ := hf2
    rw [htr] at HF1 HF2
    clear hf1 hf2 h
    go_enter Try.func32, Try.ntmps32
    go_wp2_with fail
    rw [← HW0.out]
    refine (HF1.out w0 (Below.refl _ _)).mono ?_
    rintro e w1 ⟨rfl, hB1⟩
    have HB1 : Hid (Below w0.heap.size w0 w1) := hB1
    have cx := HCS.out w1 (hB1.block _ HLT.out)
    clear hB1
    go_wp2_with fail
    clear cx
    refine (HF2.out w1 HB1.out).mono ?_
    rintro e w2 ⟨rfl, hB2⟩
    have HB2 : Hid (Below w.heap.size w w2) := go_on' HB0.out (go_on' HB1.out hB2)
    clear hB2
    go_wp2_with fail
    go_ret
    exact ⟨rfl, HSAME.out _ HB2.out⟩
  by_cases k3 : k = 3
  · subst k3
    obtain ⟨N2, g2, q, ha1, ha2⟩ := at_both HP0.out i
    have HA1 : Hid _ := ha1
    have HA2 : Hid _ := ha2
    clear ha1 ha2 h htr
    go_enter Try.func32, Try.ntmps32
    go_wp2_with fail
    rw [← HW0.out]
    refine (HA1.out w0 (Below.refl _ _)).mono ?_
    rintro e w1 ⟨rfl, hB1⟩
    have HB1 : Hid (Below w0.heap.size w0 (w1.alloc (.cells (trC N2 g2) 26))) := hB1.alloc hB1.size _
    have cx := HCS.out _ (HB1.out.block _ HLT.out)
    have hst := st_trNewG w1 N2 g2
    have hsz := trC_size N2 g2
    have HK : Hid (KG [(w1.heap.size, N2, g2)] w (w1.alloc (.cells (trC N2 g2) 26))) := KG.new (L := []) ⟨fun p hp => by simp at hp, go_on' HB0.out hB1⟩ _ _
    clear hB1
    go_wp2_with fail
    clear cx
    refine (HA2.out _ HB1.out).mono ?_
    rintro e w2 ⟨rfl, hB2⟩
    have HK2 : Hid (KG [(w2.heap.size, N2, g2), (w1.heap.size, N2, g2)] w (w2.alloc (.cells (trC N2 g2) 26))) := (HK.out.call hB2).new _ _
    clear hB2 hst
    have hst := st_trNewG w2 N2 g2
    have hs1 := same2_refl 7 N2 g2
    go_wp2_with (first
      | (refine wg_load rfl rfl (HK2.out.get (b := w2.heap.size) (N := N2) (g := g2) (by simp)) rfl ?_)
      | (refine wg_load rfl rfl (HK2.out.get (b := w1.heap.size) (N := N2) (g := g2) (by simp)) rfl ?_)
      | (refine wg_eq rfl rfl rfl rfl ?_))
    go_ret
    exact ⟨rfl, HSAME.out _ HK2.out.below⟩
  · have h1 : (k == 1) = false := by rw [beq_eq_false_iff_ne]; exact k1
    have h2 : (k == 2) = false := by rw [beq_eq_false_iff_ne]; exact k2
    have h3 : (k == 3) = false := by rw [beq_eq_false_iff_ne]; exact k3
    clear h htr
    go_enter Try.func32, Try.ntmps32
    go_wp2_with fail
    rw [← HW0.out]
    refine (tlen_any HP0.out.t).mono ?_
    rintro e w1 ⟨rfl, rfl⟩
    go_wp2_with fail
    refine (rtlen_any HP0.out.d).mono ?_
    rintro e w1 ⟨rfl, rfl⟩
    go_wp2_with fail
    go_ret
    exact ⟨rfl, HSAME.out _ HB0.out⟩

theorem asks_any {B : Nat} {w : World} {x d : Value} {S : Nat → Prop} (h : QP B w x d S) (hB : B ≤ w.heap.size) (k N : Int) (g : Nat → Nat) (i : Int) (hN : (Lit.int .i64 N).wf = true) (hg : W64 g) :
    Calls Try.prog 32 #[x, d, .agg (opG k N g i)] w (QA B x d S w) := by
  rcases h with ⟨rfl, rfl, h⟩ | ⟨b, mb, rb, n, vl, vd, M, D, rfl, rfl, h3, h4⟩
  · refine (asks_no _ k _ _ _ _ _ _ _ _ _ w (.inl rfl)).mono ?_
    rintro e w' ⟨rfl, hb⟩
    exact ⟨rfl, S, .inl ⟨rfl, rfl, h⟩, Only.of hb, fun j hj => .inl hj⟩
  · refine (asks_made h3 hB k N g i hN hg).mono ?_
    rintro e w' ⟨rfl, vl1, vd1, M1, D1, hP, hO, hn⟩
    refine ⟨rfl, PS b mb rb vl1 vd1, .inr ⟨b, mb, rb, n, vl1, vd1, M1, D1, rfl, rfl, hP, fun j => Iff.rfl⟩, hO.mono (fun j _ hj => (h4 j).2 hj), fun j hj => ?_⟩
    rcases hn j hj with q | q
    · exact .inl ((h4 j).2 q)
    · exact .inr q
theorem lens_any {B : Nat} {w : World} {x d : Value} {S : Nat → Prop} (h : QP B w x d S) : ∃ m : Int, (Calls Try.prog 33 #[x] w fun e w' => e = .returned (.int .i64 m) ∧ w = w') ∧ (Calls Try.prog 34 #[d] w fun e w' => e = .returned (.int .i64 m) ∧ w = w') := by
  rcases h with ⟨rfl, rfl, h⟩ | ⟨b, mb, rb, n, vl, vd, M, D, rfl, rfl, h3, h4⟩
  · exact ⟨0, len_no _ w (.inl rfl), rlen_no w⟩
  · exact ⟨_, tlen_any h3.t, rtlen_any h3.d⟩
end Go.Proofs.Ytihjhkbbpphocaa

namespace Go.Proofs.Ytihjhkbbpphocaa
open Go Go.ChangeShapes Go.WideShapes Go.ChangeAt Go.RowKit Go.Lib
set_option linter.unusedVariables false

theorem one_cell {cs : List Value} {d : Nat} {v : Value} (hd : d < cs.length) (h : (cs.drop d).take 1 = [v]) : cs[d]? = some v := by
  rw [List.drop_eq_getElem_cons hd, List.take_succ_cons, List.take_zero] at h
  injection h with h
  rw [List.getElem?_eq_getElem hd, h]

theorem tr_cells {H : Type} {enc : TypeId × Value → H} {w : World} {base : Nat} {spare : Nat → Bool} {held : Bool} {fuel : Nat} {cs : List Value} {y : DataW H × List MemPlace} (hf : DataW.trod enc Try.prog w base spare held fuel 26 cs = some y) :
    ∃ (N : Int) (g : Nat → Nat), (Lit.int .i64 N).wf = true ∧ W64 g ∧ ∀ j, j < 8 → cs[j]? = (trC N g)[j]? := by
  obtain ⟨f0, f1, hu, t0, o0, t1, o1⟩ := Try.und_tr
  obtain ⟨y0, y1, n, hx, hsz, h0, h1⟩ := trod_struct2 hu hf
  rw [Try.cells_tr] at hsz
  rw [t0, o0, Try.cells_int1B] at h0
  rw [t1, o1, Try.cells_a7] at h1
  obtain ⟨N, e0, e1, hN⟩ := DataW.trod_int Try.underlying3 h0
  obtain ⟨xs, m, _, hx1, hl, hlen, hel⟩ := DataW.trod_array Try.underlying24 h1
  have key : ∀ i, ∃ n : Nat, i < 7 → cs[i + 1]? = some (.int .u64 (n : Int)) ∧ n < 18446744073709551616 := by
    intro i
    by_cases hi : i < 7
    · have he := hel i hi
      rw [Try.cells_u64', Nat.mul_one] at he
      have hx0 : xs[i]? = some (xs[i]'(by omega)) := List.getElem?_eq_getElem (by omega)
      rw [hx0] at he
      obtain ⟨n', k1, k2, k3⟩ := DataW.trod_int Try.underlying23 he
      obtain ⟨m', rfl, hm⟩ := u64_of k3
      refine ⟨m', fun _ => ⟨?_, hm⟩⟩
      have hc : cs[i + 1]? = some (cs[i + 1]'(by omega)) := List.getElem?_eq_getElem (by omega)
      have k1' : ((((cs.drop 1).take 7).drop i).take 1) = [.int .u64 (m' : Int)] := k1
      rw [List.drop_take, List.drop_drop, List.take_take, Nat.min_eq_left (by omega), Nat.add_comm 1 i] at k1'
      exact one_cell (by omega) k1'
    · exact ⟨0, fun h => absurd h hi⟩
  obtain ⟨g, hgk⟩ := Classical.axiomOfChoice key
  have c0 : cs[0]? = some (.int .i64 N) := one_cell (by omega) e0
  refine ⟨N, g, hN, fun k hk => (hgk k hk).2, fun j hj => ?_⟩
  cases j with
  | zero => rw [c0, trC_n]
  | succ i => rw [(hgk i (by omega)).1, trC_get _ _ (by omega)]

/-- n calls' data, ten cells each, as they lie in memory. -/
def OR2 (w : World) (v : Value) (n : Nat) : Prop :=
  ∃ a cap, v = .slice a n cap ∧ ∀ i, i < n → ∃ g o k N t, ∃ f : Nat → Nat, a = some ⟨g, o, none⟩ ∧ g < w.heap.size ∧ (Lit.int .i64 N).wf = true ∧ W64 f ∧ ∀ j, j < 10 → w.cell? ⟨g, o + i * 10 + j, none⟩ = (opG k N f t)[j]?
theorem OR2.below {W w : World} {v : Value} {n : Nat} (h : OR2 W v n) (hb : Below W.heap.size W w) : OR2 w v n := by
  obtain ⟨a, cap, rfl, hr⟩ := h
  refine ⟨a, cap, rfl, fun i hi => ?_⟩
  obtain ⟨g, o, k, N, t, f, e, hg, h1, h2, hc⟩ := hr i hi
  exact ⟨g, o, k, N, t, f, e, Nat.lt_of_lt_of_le hg hb.size, h1, h2, fun j hj => by rw [below_cell hb hg]; exact hc j hj⟩
theorem Try.op_parts : ∃ fs : Array Field, ∃ f0 f1 f2 : Field, Try.prog.underlying 73 = some (.struct fs) ∧ fs[0]? = some f0 ∧ fs[1]? = some f1 ∧ fs[2]? = some f2 ∧ fs.size = 3 ∧ f0.type = 3 ∧ f0.offset = 0 ∧ f1.type = 26 ∧ f1.offset = 1 ∧ f2.type = 3 ∧ f2.offset = 9 := ⟨_, _, _, _, Try.underlying73, rfl, rfl, rfl, rfl, rfl, rfl, rfl, rfl, rfl, rfl⟩
set_option maxRecDepth 100000 in
theorem op_cells {H : Type} {enc : TypeId × Value → H} {w : World} {base : Nat} {spare : Nat → Bool} {held : Bool} {fuel : Nat} {cs : List Value} {y : DataW H × List MemPlace} (ht : DataW.trod enc Try.prog w base spare held fuel 73 cs = some y) :
    ∃ (k N t : Int) (f : Nat → Nat), (Lit.int .i64 N).wf = true ∧ W64 f ∧ ∀ j, j < 10 → cs[j]? = (opG k N f t)[j]? := by
  obtain ⟨fs, f0, f1, f2, hu, e0, e1, e2, hs, t0, o0, t1, o1, t2, o2⟩ := Try.op_parts
  obtain ⟨xs, q, _, _, hlen, hxl, hfs⟩ := DataW.trod_struct hu ht
  rw [Try.cells_op] at hlen
  have h0 := hfs 0 f0 e0
  have h1 := hfs 1 f1 e1
  have h2 := hfs 2 f2 e2
  rw [t0, o0, Try.cells_int1B, List.getElem?_eq_getElem (by omega)] at h0
  rw [t1, o1, Try.cells_tr, List.getElem?_eq_getElem (by omega)] at h1
  rw [t2, o2, Try.cells_int1B, List.getElem?_eq_getElem (by omega)] at h2
  obtain ⟨k, k0, _, _⟩ := DataW.trod_int Try.underlying3 h0
  obtain ⟨t, k2, _, _⟩ := DataW.trod_int Try.underlying3 h2
  obtain ⟨N, f, hN, hf, hc⟩ := tr_cells h1
  have c0 : cs[0]? = some (.int .i64 k) := one_cell (by omega) k0
  have c9 : cs[9]? = some (.int .i64 t) := one_cell (by omega) k2
  refine ⟨k, N, t, f, hN, hf, fun j hj => ?_⟩
  by_cases h9 : j = 9
  · subst h9; rw [c9]; rfl
  by_cases h0' : j = 0
  · subst h0'; rw [c0]; rfl
  obtain ⟨i, rfl⟩ : ∃ i, j = i + 1 := ⟨j - 1, by omega⟩
  have := hc i (by omega)
  rw [List.getElem?_take, if_pos (by omega), List.getElem?_drop] at this
  rw [Nat.add_comm i 1, this]
  have hi8 : i < 8 := by omega
  match i, hi8 with
  | 0, _ => rfl
  | 1, _ => rfl
  | 2, _ => rfl
  | 3, _ => rfl
  | 4, _ => rfl
  | 5, _ => rfl
  | 6, _ => rfl
  | 7, _ => rfl

set_option maxRecDepth 100000 in
theorem open_ops2 {H : Type} {enc : TypeId × Value → H} {w : World} {base : Nat} {spare : Nat → Bool} {held : Bool} {r : Reach} {b0 : Nat} {v : Value} {d : DataW H} {ps : List MemPlace} (hval : Value.okWide Try.prog w r b0 64 v) (hd : DataW.Trod enc Try.prog w base spare held 64 v d ps) :
    ∃ n, OR2 w v n ∧ n ≤ maxLen := by
  obtain ⟨a, len, cap, rfl⟩ := okWide_slice Try.underlying64 hval
  obtain ⟨fuel, hf⟩ := hd
  rcases Go.Deep.open_slice Try.underlying64 hf with ⟨hcs, hx⟩ | ⟨a', len', cap', m, n, D, Pl, hcs, hb, hl, hm, hmm, hx, hel⟩
  · simp [Value.cells] at hcs
    obtain ⟨rfl, rfl, rfl⟩ := hcs
    exact ⟨0, ⟨none, 0, rfl, fun i hi => by omega⟩, Nat.zero_le _⟩
  · simp [Value.cells] at hcs
    obtain ⟨rfl, rfl, rfl⟩ := hcs
    have hle : len ≤ m := by
      rw [hmm]
      split <;> omega
    refine ⟨len, ⟨some a', cap, rfl, fun i hi => ?_⟩, by omega⟩
    obtain ⟨cs', hc, ht⟩ := hel i (by omega)
    rw [Try.cells_op] at hc
    obtain ⟨hbb, hlen, hcell⟩ := World.cells?_some hc
    obtain ⟨k, N, t, f, hN, hf2, hcc⟩ := op_cells ht
    obtain ⟨b, off, spot⟩ := a'
    have hc0 := hcell 0 (by decide)
    rw [hcc 0 (by decide)] at hc0
    have hspot : spot = none := by
      obtain ⟨cs0, hc1, _⟩ := hel 0 (by omega)
      rw [Try.cells_op] at hc1
      obtain ⟨_, hl0, hcell0⟩ := World.cells?_some hc1
      have h00 := hcell0 0 (by decide)
      rw [List.getElem?_eq_getElem (by omega)] at h00
      have := World.cell?_spot h00
      simpa [Addr.add] using this
    subst hspot
    simp only [Addr.add_lit] at hc0 hcell
    refine ⟨b, off, k, N, t, f, rfl, World.block_lt_of_cell? w _ (hc0.trans (rfl : (opG k N f t)[0]? = some (.int .i64 k))), hN, hf2, fun j hj => ?_⟩
    have := hcell j hj
    rw [hcc j hj] at this
    exact this
end Go.Proofs.Ytihjhkbbpphocaa
