/- The parts of a tree; contract of tree.Parts. -/
import Derived.Test.YtchaggigabccaaaDoorTe
import Derived.Laws.ResultCell
namespace Go.Proofs.YtchaggigabccaaaDoor
open Go.RowKit

theorem results_cell_tmp_tmp {fn : Func} {p u u' : Tmp} {ty : TypeId} (h : fn.results = #[.cell p ty, .tmp u, .tmp u']) (tmps : Array Value) (P : Program) (w : World) :
    (results fn tmps).run P w =
      ((asAddr (tmps.getD p undef)).run P w).andThen fun a w₁ => ((loadVar ty a).run P w₁).andThen fun v w₂ => .ok (.tuple #[v, tmps.getD u undef, tmps.getD u' undef]) w₂ := by
  simp only [results, h]
  simp [Sem.run_bind, Result.andThen]
theorem load_node {w : World} {b : Nat} {x y : Value} (h0 : w.cell? ⟨b, 0, none⟩ = some x) (h1 : w.cell? ⟨b, 1, none⟩ = some y) : (loadVar 36 ⟨b, 0, none⟩).run Tryd.prog w = .ok (.agg #[x, y]) w := by
  have u3 := Tryd.underlying3
  have u4 := Tryd.underlying5
  have u5 := Tryd.underlying36
  go_simp
theorem results_node {fn : Func} {p u u' : Tmp} (h : fn.results = #[.cell p 36, .tmp u, .tmp u']) {tmps : Array Value} {b : Nat} {x y : Value} {w : World} (hp : tmps.getD p undef = .pointer (some ⟨b, 0, none⟩)) (h0 : w.cell? ⟨b, 0, none⟩ = some x) (h1 : w.cell? ⟨b, 1, none⟩ = some y) :
    (results fn tmps).run Tryd.prog w = .ok (.tuple #[.agg #[x, y], tmps.getD u undef, tmps.getD u' undef]) w := by
  rw [results_cell_tmp_tmp h]
  simp [hp, asAddr, load_node h0 h1, Result.andThen]

theorem push_len {n : Nd} {s : List Nat} {f : Nat} (hs : s.length = f) (hf : arity n.1 ≤ f) : (push n s).length = f - arity n.1 + 1 := by
  have hal := arity_le n.1
  have h3 : arity n.1 = 0 ∨ arity n.1 = 1 ∨ arity n.1 = 2 := by omega
  rcases h3 with h0 | h0 | h0
  · have e : push n s = 1 :: s := by unfold push; rw [h0]; rfl
    rw [e, h0]; simp [hs]
  · match s, hs with
    | a :: r, hs =>
      have e : push n (a :: r) = (1 + a) :: r := by unfold push; rw [h0]; rfl
      rw [e, h0]; simp at hs ⊢; omega
    | [], hs => simp at hs; omega
  · match s, hs with
    | a :: b :: r, hs =>
      have e : push n (a :: b :: r) = (1 + a + b) :: r := by unfold push; rw [h0]; rfl
      rw [e, h0]; simp at hs ⊢; omega
    | [a], hs => simp at hs; omega
    | [], hs => simp at hs; omega
theorem stk_len {ts : List Nd} : ∀ i, i ≤ ts.length → ∀ c, freeN (ts.take i) = some c → (stkN (ts.take i)).length = c
  | 0, _, c, h => by simp [freeN, frees] at h; simp [stkN, stk, ← h]
  | i + 1, hi, c, h => by
    rw [free_take (by omega)] at h
    cases hc : freeN (ts.take i) with
    | none => rw [hc] at h; simp at h
    | some f =>
      have ih := stk_len i (by omega) f hc
      rw [hc, Option.bind_some] at h
      by_cases hg : good (ts.getD i (0, 0)) = true ∧ arity (ts.getD i (0, 0)).1 ≤ f
      · rw [if_pos hg] at h
        rw [stk_take (by omega), push_len ih hg.2]
        simpa using h
      · rw [if_neg hg] at h; cases h
/-- The parts of a tree's root. -/
def cutL (ts : List Nd) : List (List Nd) :=
  match arity (ts.getD (ts.length - 1) (0, 0)).1, stkN (ts.take (ts.length - 1)) with
  | 1, _ => [ts.take (ts.length - 1)]
  | 2, _ :: b :: _ => [ts.take b, (ts.take (ts.length - 1)).drop b]
  | _, _ => []
/-- What is known of a tree's end. -/
theorem tree_end {ts : List Nd} (h : freeN ts = some 1) : 0 < ts.length ∧ good (ts.getD (ts.length - 1) (0, 0)) = true ∧ (stkN (ts.take (ts.length - 1))).length = arity (ts.getD (ts.length - 1) (0, 0)).1 := by
  have h0 : 0 < ts.length := by
    cases ts with
    | nil => simp [freeN, frees] at h
    | cons n t => simp
  obtain ⟨c, hc, hg, ha, hn⟩ := free_good h (i := ts.length - 1) (by omega)
  rw [show ts.length - 1 + 1 = ts.length by omega, List.take_length, h] at hn
  simp only [Option.some.injEq] at hn
  exact ⟨h0, hg, by rw [stk_len _ (by omega) c hc]; omega⟩

/-- A node in a block of its own. -/
def NB (w : World) (b : Nat) (k s : Int) : Prop := w.heap[b]? = some (.cells #[.int .i64 k, .int .u8 s] 36 (0, 0))
theorem NB.lt {w : World} {b : Nat} {k s : Int} (h : NB w b k s) : b < w.heap.size := (Array.getElem?_eq_some_iff.1 h).1
theorem NB.fst {w : World} {b : Nat} {k s : Int} (h : NB w b k s) : w.cell? ⟨b, 0, none⟩ = some (.int .i64 k) := by
  have h' : w.heap[b]? = some (.cells #[.int .i64 k, .int .u8 s] 36 (0, 0)) := h
  simp [World.cell?, h']
theorem NB.snd {w : World} {b : Nat} {k s : Int} (h : NB w b k s) : w.cell? ⟨b, 1, none⟩ = some (.int .u8 s) := by
  have h' : w.heap[b]? = some (.cells #[.int .i64 k, .int .u8 s] 36 (0, 0)) := h
  simp [World.cell?, h']
theorem NB.frozen {w : World} {b : Nat} {k s : Int} (h : NB w b k s) (i : Nat) : w.frozen? ⟨b, i, none⟩ = false := by
  have h' : w.heap[b]? = some (.cells #[.int .i64 k, .int .u8 s] 36 (0, 0)) := h
  simp [World.frozen?, h']
theorem NB.keep {w w' : World} {b : Nat} {k s : Int} (h : NB w b k s) (hb : Below w.heap.size w w') : NB w' b k s := (hb.block b h.lt).trans h
theorem NB.alloc {w : World} {b : Nat} {k s : Int} (h : NB w b k s) (o : Obj) : NB (w.alloc o) b k s := h.keep ((Below.refl _ _).alloc (Nat.le_refl _) o)
theorem NB.new (w : World) (k s : Int) : NB (w.alloc (.cells #[.int .i64 k, .int .u8 s] 36)) w.heap.size k s := heap_alloc_new w _
theorem NB.set {w : World} {b : Nat} {k s : Int} (h : NB w b k s) (k' s' : Int) : NB ((w.setCell ⟨b, 0, none⟩ (.int .i64 k')).setCell ⟨b, 1, none⟩ (.int .u8 s')) b k' s' := by
  have h' : w.heap[b]? = some (.cells #[.int .i64 k, .int .u8 s] 36 (0, 0)) := h
  unfold NB
  simp only [World.setCell]
  rw [Array.getElem?_modify, if_pos rfl, Array.getElem?_modify, if_pos rfl, h']
  rfl
theorem below_set2 {B : Nat} {w w1 : World} {b : Nat} (h : Below B w w1) (hb : B ≤ b) (x y : Value) : Below B w ((w1.setCell ⟨b, 0, none⟩ x).setCell ⟨b, 1, none⟩ y) :=
  (h.setCell (p := ⟨b, 0, none⟩) hb _).setCell (p := ⟨b, 1, none⟩) hb _
theorem nreads_part {w : World} {a : Option Addr} {cap lo hi : Nat} {ts : List Nd} (h : NReads w (.slice a ts.length cap) ts) (h0 : lo < hi) (h1 : hi ≤ ts.length) :
    ∃ g o, a = some ⟨g, o, none⟩ ∧ ∀ c, NReads w (.slice (some ⟨g, o + lo * 2, none⟩) (hi - lo) c) ((ts.take hi).drop lo) := by
  obtain ⟨a', c', e, hr⟩ := h
  simp only [Value.slice.injEq] at e
  obtain ⟨rfl, _, rfl⟩ := e
  obtain ⟨g, o, rfl, _⟩ := hr 0 (by omega)
  have hl : ((ts.take hi).drop lo).length = hi - lo := by simp; omega
  refine ⟨g, o, rfl, fun c => ⟨_, c, by rw [hl], fun i hi' => ?_⟩⟩
  rw [hl] at hi'
  obtain ⟨g', o', e, hg, c1, c2⟩ := hr (lo + i) (by omega)
  cases e
  have eg : ((ts.take hi).drop lo).getD i (0, 0) = ts.getD (lo + i) (0, 0) := by
    rw [List.getD_eq_getElem?_getD, List.getElem?_drop, List.getElem?_take, if_pos (by omega), ← List.getD_eq_getElem?_getD]
  rw [eg]
  exact ⟨g, o + lo * 2, rfl, hg, by rw [show o + lo * 2 + i * 2 = o + (lo + i) * 2 by omega]; exact c1, by rw [show o + lo * 2 + i * 2 + 1 = o + (lo + i) * 2 + 1 by omega]; exact c2⟩

set_option maxHeartbeats 4000000 in
set_option maxRecDepth 100000 in
theorem parts_bad (v : Value) (ts : List Nd) (w : World) (hv : NReads w v ts) (hm : ts.length ≤ 9223372036854775806) (hP : PTab w) (hbad : wrong ts ≠ 0) :
    Calls Tryd.prog 19 #[v] w fun e w' => e = .returned (.tuple #[ndV (0, 0), .slice none 0 0, .int .i64 (wrong ts)]) ∧ Below w.heap.size w w' := by
  have HV : Hid (NReads w v ts) := hv
  have HP : Hid (PTab w) := hP
  obtain ⟨x, hx⟩ : ∃ x, wrong ts = x := ⟨_, rfl⟩
  rw [hx] at hbad
  have hxb : (x != 0) = true := by simpa using hbad
  have HX : Hid (wrong ts = x) := hx
  have hb0 : Below w.heap.size w (w.alloc (.cells #[.int .i64 0, .int .u8 0] 36)) := (Below.refl _ _).alloc (Nat.le_refl _) _
  have HB0 : Hid _ := hb0
  have r0 := NB.new w 0 0
  clear hv hP hx hbad hb0
  go_enter Tryd.func19, Tryd.ntmps19
  go_wp2_with fail
  refine (treeError_any v ts _ (HV.out.stay HB0.out) hm (HP.out.stay HB0.out)).mono ?_
  rintro e w1 ⟨rfl, hb1⟩
  rw [HX.out]
  have HN : Hid (NB w1 w.heap.size 0 0) := r0.keep hb1
  have HB1 : Hid (Below w.heap.size w w1) := go_on HB0.out hb1
  have c0 := HN.out.fst
  have c1 := HN.out.snd
  have f0 := HN.out.frozen 0
  have f1 := HN.out.frozen 1
  clear r0 hb1
  go_wp2_with fail
  have hN2 := HN.out.set 0 0
  refine bodyPost_ret (results_node rfl rfl hN2.fst hN2.snd) rfl ⟨by rw [HX.out]; rfl, below_set2 HB1.out (Nat.le_refl _) _ _⟩

/-- A list of lists in a block of its own. -/
def PB (w : World) (b : Nat) (arr : Array Value) : Prop := w.heap[b]? = some (.cells arr 22 (0, 0))
theorem PB.lt {w : World} {b : Nat} {arr : Array Value} (h : PB w b arr) : b < w.heap.size := (Array.getElem?_eq_some_iff.1 h).1
theorem PB.get {w : World} {b : Nat} {arr : Array Value} (h : PB w b arr) (i : Nat) : w.cell? ⟨b, i, none⟩ = arr[i]? := by
  have h' : w.heap[b]? = some (.cells arr 22 (0, 0)) := h
  simp [World.cell?, h']
theorem PB.frozen {w : World} {b : Nat} {arr : Array Value} (h : PB w b arr) (i : Nat) : w.frozen? ⟨b, i, none⟩ = false := by
  have h' : w.heap[b]? = some (.cells arr 22 (0, 0)) := h
  simp [World.frozen?, h']
theorem PB.keep {w w' : World} {b : Nat} {arr : Array Value} (h : PB w b arr) (hb : Below w.heap.size w w') : PB w' b arr := (hb.block b h.lt).trans h
theorem PB.set {w : World} {b : Nat} {arr : Array Value} (h : PB w b arr) (i : Nat) (v : Value) : PB (w.setCell ⟨b, i, none⟩ v) b (arr.setIfInBounds i v) := by
  have h' : w.heap[b]? = some (.cells arr 22 (0, 0)) := h
  unfold PB
  simp only [World.setCell]
  rw [Array.getElem?_modify, if_pos rfl, h']
  rfl
theorem PB.new (w : World) (arr : Array Value) : PB (w.alloc (.cells arr 22)) w.heap.size arr := heap_alloc_new w _
theorem own_other {w : World} {base : Nat} {e : TypeId} {size n : Nat} {v : Value} {xs : List Value} (h : w.ownsRow base e size v n xs) {b i : Nat} (u : Value) (hb : ∀ k, v.ownBlock = some k → k ≠ b) : (w.setCell ⟨b, i, none⟩ u).ownsRow base e size v n xs := by
  obtain ⟨a, h⟩ := h
  refine ⟨a, ?_⟩
  rcases h with h | ⟨g, cap, cur, rfl, r, r2, r3⟩
  · exact .inl h
  · refine .inr ⟨g, cap, cur, rfl, r, ?_, r3⟩
    rw [Below.heap_setCell _ _ _ _ (fun e => hb g rfl e)]
    exact r2
theorem NB.other {w : World} {b : Nat} {k s : Int} (h : NB w b k s) {b' i : Nat} (u : Value) (hb : b ≠ b') : NB (w.setCell ⟨b', i, none⟩ u) b k s := (Below.heap_setCell _ _ _ _ hb).trans h
theorem Tryd.info_nodes : (Tryd.prog.info? 22).map (fun i => (i.zero, i.size, i.bytes)) = some (some (.slice none 0 0), 1, 24) := by kernel_rfl

set_option maxHeartbeats 4000000 in
set_option maxRecDepth 100000 in
theorem parts_zero (v : Value) (ts : List Nd) (w : World) (hv : NReads w v ts) (hm : ts.length ≤ 4000) (hP : PTab w) (hok : wrong ts = 0) (hf : freeN ts = some 1) (k s : Int) (hn : ts.getD (ts.length - 1) (0, 0) = (k, s)) (hr : arity k = 0) (hcap : ∀ a n c, v = .slice a n c → n ≤ c) :
    Calls Tryd.prog 19 #[v] w fun e w' => ∃ G, e = .returned (.tuple #[ndV (k, s), .slice (some ⟨G, 0, none⟩) 0 0, .int .i64 0]) ∧ Below w.heap.size w w' := by
  have HV : Hid (NReads w v ts) := hv
  have HP : Hid (PTab w) := hP
  obtain ⟨h0, hg, hsl⟩ := tree_end hf
  rw [hn] at hg hsl
  obtain ⟨hk1, hk9⟩ := good_kind hg
  simp only at hk1 hk9 hsl
  rw [hr] at hsl
  obtain ⟨j, rfl⟩ : ∃ j : Nat, k = j := ⟨k.toNat, by omega⟩
  have HX : Hid (wrong ts = 0) := hok
  have hb0 : Below w.heap.size w (w.alloc (.cells #[.int .i64 0, .int .u8 0] 36)) := (Below.refl _ _).alloc (Nat.le_refl _) _
  have HB0 : Hid (Below w.heap.size w (w.alloc (.cells #[.int .i64 0, .int .u8 0] 36))) := hb0
  have r0 := NB.new w 0 0
  have HF : Hid (freeN ts = some 1) := hf
  obtain ⟨av, cv, rfl, hrd⟩ := hv
  have hcv := hcap _ _ _ rfl
  clear hcap
  obtain ⟨g, o, rfl, hgl, hc1, hc2⟩ := hrd (ts.length - 1) (by omega)
  rw [hn] at hc1 hc2
  obtain ⟨n, hnd⟩ : ∃ n, ts.length - 1 = n := ⟨_, rfl⟩
  have hnI : (ts.length : Int) - 1 = n := by omega
  have hnl : (n : Int) < ts.length := by omega
  have hnl2 : n + 1 = ts.length := by omega
  rw [hnd] at hc1 hc2 hsl
  have hj9 : j < 10 := by omega
  have hjI : (j : Int) < 10 := by omega
  obtain ⟨i0, hi, hz0, hz1, hz2⟩ := info_parts Tryd.info_nodes
  have hmk := fun w0 => run_make (P := Tryd.prog) w0 37 22 i0 (.slice none 0 0) Tryd.underlying37 hi hz0 .i64 .i64 0 0 (by omega) (by omega) (by rw [hz2]; omega) (by omega)
  rw [hz1] at hmk
  have hmade : madeCells (Value.slice none 0 0).cells (((0 : Int)).toNat * 1) = #[] := by kernel_rfl
  rw [hmade] at hmk
  clear hP hok hb0 hrd hn hg hf hnd hmade hi hz0 hz1 hz2
  go_enter Tryd.func19, Tryd.ntmps19
  go_wp2_with fail
  refine (treeError_any _ ts _ (HV.out.stay HB0.out) (by omega) (HP.out.stay HB0.out)).mono ?_
  rintro e w1 ⟨rfl, hb1⟩
  rw [HX.out]
  have HN : Hid (NB w1 w.heap.size 0 0) := r0.keep hb1
  have HB1 : Hid (Below w.heap.size w w1) := go_on HB0.out hb1
  have d0 := HN.out.fst
  have d1 := HN.out.snd
  have f0 := HN.out.frozen 0
  have f1 := HN.out.frozen 1
  have e1 : w1.cell? ⟨g, o + n * 2, none⟩ = some (.int .i64 (j : Int)) := by rw [below_cell HB1.out hgl]; exact hc1
  have e2 : w1.cell? ⟨g, o + n * 2 + 1, none⟩ = some (.int .u8 s) := by rw [below_cell HB1.out hgl]; exact hc2
  have e3 : w1.cell? ⟨0, j, none⟩ = some (.int .i64 0) := by
    have := HP.out.below HB1.out HP.out.pos j hj9
    rw [hr] at this
    exact this
  clear r0 hb1 hc1 hc2
  go_wp2_with fail
  have HN2 : Hid (NB (((w1.setCell ⟨w.heap.size, 0, none⟩ (.int .i64 (j : Int))).setCell ⟨w.heap.size, 1, none⟩ (.int .u8 s)).alloc (.cells #[] 22)) w.heap.size j s) := (HN.out.set j s).alloc _
  have HPB : Hid (PB (((w1.setCell ⟨w.heap.size, 0, none⟩ (.int .i64 (j : Int))).setCell ⟨w.heap.size, 1, none⟩ (.int .u8 s)).alloc (.cells #[] 22)) w1.heap.size #[]) := by
    have := PB.new ((w1.setCell ⟨w.heap.size, 0, none⟩ (.int .i64 (j : Int))).setCell ⟨w.heap.size, 1, none⟩ (.int .u8 s)) #[]
    show PB _ _ _
    simpa using this
  have HB2 : Hid (Below w.heap.size w (((w1.setCell ⟨w.heap.size, 0, none⟩ (.int .i64 (j : Int))).setCell ⟨w.heap.size, 1, none⟩ (.int .u8 s)).alloc (.cells #[] 22))) := (below_set2 HB1.out (Nat.le_refl _) _ _).alloc (by have := HB1.out.size; simp; omega) _
  have hG1 : w.heap.size < w1.heap.size := HN.out.lt
  generalize hWg : (((w1.setCell ⟨w.heap.size, 0, none⟩ (.int .i64 (j : Int))).setCell ⟨w.heap.size, 1, none⟩ (.int .u8 s)).alloc (.cells #[] 22)) = W2 at HN2 HPB HB2 ⊢
  clear hWg d0 d1 f0 f1 e1 e2 e3 HN
  refine (sizes_any _ ts _ (HV.out.stay HB2.out) hm HF.out (HP.out.stay HB2.out)).mono ?_
  rintro e w3 ⟨gs, L, rfl, hge, hrow, hlen, hends, hb3⟩
  have HN3 : Hid (NB w3 w.heap.size j s) := HN2.out.keep hb3
  have HPB3 : Hid (PB w3 w1.heap.size #[]) := HPB.out.keep hb3
  have HB3 : Hid (Below w.heap.size w w3) := go_on HB2.out hb3
  have HRW : Hid (IRow w3 gs L) := hrow
  have hGlt := HPB.out.lt
  clear hb3 HN2 HPB HB2 hmk
  have d0 := HN3.out.fst
  have d1 := HN3.out.snd
  have f0 := HN3.out.frozen 0
  have f1 := HN3.out.frozen 1
  clear hends hrow hlen hsl
  go_wp2_with fail
  refine wp_loop_rounds 1 ?_
  rw [rounds_succ]
  go_wp2_with fail
  have hN8 := HN3.out.set j s
  have hB8 := below_set2 HB3.out (Nat.le_refl w.heap.size) (.int .i64 (j : Int)) (.int .u8 s)
  refine bodyPost_ret (results_node rfl rfl hN8.fst hN8.snd) rfl ?_
  exact ⟨w1.heap.size, rfl, hB8⟩

set_option maxHeartbeats 4000000 in
set_option maxRecDepth 100000 in
theorem parts_one (v : Value) (ts : List Nd) (w : World) (hv : NReads w v ts) (hm : ts.length ≤ 4000) (hP : PTab w) (hok : wrong ts = 0) (hf : freeN ts = some 1) (k s : Int) (hn : ts.getD (ts.length - 1) (0, 0) = (k, s)) (hr : arity k = 1) (hcap : ∀ a n c, v = .slice a n c → n ≤ c) :
    Calls Tryd.prog 19 #[v] w fun e w' => ∃ G v1, e = .returned (.tuple #[ndV (k, s), .slice (some ⟨G, 0, none⟩) 1 1, .int .i64 0]) ∧ w.heap.size ≤ G ∧ PB w' G #[v1] ∧ w'.ownsRow w.heap.size 36 2 v1 (ts.take (ts.length - 1)).length (ndC (ts.take (ts.length - 1))) ∧ Below w.heap.size w w' := by
  have HV : Hid (NReads w v ts) := hv
  have HP : Hid (PTab w) := hP
  obtain ⟨h0, hg, hsl⟩ := tree_end hf
  rw [hn] at hg hsl
  obtain ⟨hk1, hk9⟩ := good_kind hg
  simp only at hk1 hk9 hsl
  rw [hr] at hsl
  obtain ⟨j, rfl⟩ : ∃ j : Nat, k = j := ⟨k.toNat, by omega⟩
  have HX : Hid (wrong ts = 0) := hok
  have hb0 : Below w.heap.size w (w.alloc (.cells #[.int .i64 0, .int .u8 0] 36)) := (Below.refl _ _).alloc (Nat.le_refl _) _
  have HB0 : Hid (Below w.heap.size w (w.alloc (.cells #[.int .i64 0, .int .u8 0] 36))) := hb0
  have r0 := NB.new w 0 0
  have HF : Hid (freeN ts = some 1) := hf
  obtain ⟨av, cv, rfl, hrd⟩ := hv
  have hcv := hcap _ _ _ rfl
  clear hcap
  obtain ⟨g, o, rfl, hgl, hc1, hc2⟩ := hrd (ts.length - 1) (by omega)
  rw [hn] at hc1 hc2
  obtain ⟨n, hnd⟩ : ∃ n, ts.length - 1 = n := ⟨_, rfl⟩
  have hnI : (ts.length : Int) - 1 = n := by omega
  have hnl : (n : Int) < ts.length := by omega
  have hnl2 : n + 1 = ts.length := by omega
  rw [hnd] at hc1 hc2 hsl
  rw [hnd]
  have hj9 : j < 10 := by omega
  have hjI : (j : Int) < 10 := by omega
  obtain ⟨i0, hi, hz0, hz1, hz2⟩ := info_parts Tryd.info_nodes
  have hmk := fun w0 => run_make (P := Tryd.prog) w0 37 22 i0 (.slice none 0 0) Tryd.underlying37 hi hz0 .i64 .i64 1 1 (by omega) (by omega) (by rw [hz2]; omega) (by omega)
  rw [hz1] at hmk
  have hmade : madeCells (Value.slice none 0 0).cells (((1 : Int)).toNat * 1) = #[.slice none 0 0] := by kernel_rfl
  rw [hmade] at hmk
  clear hP hok hb0 hrd hn hg hf hnd hmade hi hz0 hz1 hz2
  go_enter Tryd.func19, Tryd.ntmps19
  go_wp2_with fail
  refine (treeError_any _ ts _ (HV.out.stay HB0.out) (by omega) (HP.out.stay HB0.out)).mono ?_
  rintro e w1 ⟨rfl, hb1⟩
  rw [HX.out]
  have HN : Hid (NB w1 w.heap.size 0 0) := r0.keep hb1
  have HB1 : Hid (Below w.heap.size w w1) := go_on HB0.out hb1
  have d0 := HN.out.fst
  have d1 := HN.out.snd
  have f0 := HN.out.frozen 0
  have f1 := HN.out.frozen 1
  have e1 : w1.cell? ⟨g, o + n * 2, none⟩ = some (.int .i64 (j : Int)) := by rw [below_cell HB1.out hgl]; exact hc1
  have e2 : w1.cell? ⟨g, o + n * 2 + 1, none⟩ = some (.int .u8 s) := by rw [below_cell HB1.out hgl]; exact hc2
  have e3 : w1.cell? ⟨0, j, none⟩ = some (.int .i64 1) := by
    have := HP.out.below HB1.out HP.out.pos j hj9
    rw [hr] at this
    exact this
  clear r0 hb1 hc1 hc2
  go_wp2_with fail
  have HN2 : Hid (NB (((w1.setCell ⟨w.heap.size, 0, none⟩ (.int .i64 (j : Int))).setCell ⟨w.heap.size, 1, none⟩ (.int .u8 s)).alloc (.cells #[.slice none 0 0] 22)) w.heap.size j s) := (HN.out.set j s).alloc _
  have HPB : Hid (PB (((w1.setCell ⟨w.heap.size, 0, none⟩ (.int .i64 (j : Int))).setCell ⟨w.heap.size, 1, none⟩ (.int .u8 s)).alloc (.cells #[.slice none 0 0] 22)) w1.heap.size #[.slice none 0 0]) := by
    have := PB.new ((w1.setCell ⟨w.heap.size, 0, none⟩ (.int .i64 (j : Int))).setCell ⟨w.heap.size, 1, none⟩ (.int .u8 s)) #[.slice none 0 0]
    show PB _ _ _
    simpa using this
  have HB2 : Hid (Below w.heap.size w (((w1.setCell ⟨w.heap.size, 0, none⟩ (.int .i64 (j : Int))).setCell ⟨w.heap.size, 1, none⟩ (.int .u8 s)).alloc (.cells #[.slice none 0 0] 22))) := (below_set2 HB1.out (Nat.le_refl _) _ _).alloc (by have := HB1.out.size; simp; omega) _
  have hG1 : w.heap.size < w1.heap.size := HN.out.lt
  generalize hWg : (((w1.setCell ⟨w.heap.size, 0, none⟩ (.int .i64 (j : Int))).setCell ⟨w.heap.size, 1, none⟩ (.int .u8 s)).alloc (.cells #[.slice none 0 0] 22)) = W2 at HN2 HPB HB2 ⊢
  clear hWg d0 d1 f0 f1 e1 e2 e3 HN
  refine (sizes_any _ ts _ (HV.out.stay HB2.out) hm HF.out (HP.out.stay HB2.out)).mono ?_
  rintro e w3 ⟨gs, L, rfl, hge, hrow, hlen, hends, hb3⟩
  have HN3 : Hid (NB w3 w.heap.size j s) := HN2.out.keep hb3
  have HPB3 : Hid (PB w3 w1.heap.size #[.slice none 0 0]) := HPB.out.keep hb3
  have HB3 : Hid (Below w.heap.size w w3) := go_on HB2.out hb3
  have HRW : Hid (IRow w3 gs L) := hrow
  have hGlt := HPB.out.lt
  clear hb3 HN2 HPB HB2 hmk
  have hE := hends n (by omega)
  obtain ⟨a, ha⟩ : ∃ a, stkN (ts.take n) = [a] := by
    match hh : stkN (ts.take n), hsl with
    | [a], _ => exact ⟨a, rfl⟩
  rw [ha] at hE
  obtain ⟨ha1, ha2, hLa, hab⟩ := hE
  obtain rfl : n = a := by have : n - a = 0 := hab; omega
  obtain ⟨m1, hm1⟩ : ∃ m1, n - 1 = m1 := ⟨_, rfl⟩
  have hm1I : (n : Int) - 1 = m1 := by omega
  have hm1l : (m1 : Int) < ts.length := by omega
  rw [hm1] at hLa
  have k1 := HRW.out.get hLa
  have hnc : (n : Int) ≤ cv := by omega
  clear hends hLa ha hsl hab hm1
  obtain ⟨X, hX⟩ : ∃ X, ts.take n = X := ⟨_, rfl⟩
  have hXl : X.length = n := by rw [← hX]; simp; omega
  have hRX : Hid (∀ w', Below w.heap.size w w' → NReads w' (.slice (some ⟨g, o, none⟩) n cv) X) := fun w' hb => by
    obtain ⟨g', o', e, h⟩ := nreads_part (HV.out.stay hb) (lo := 0) (hi := n) (by omega) (by omega)
    cases e
    have := h cv
    rw [List.drop_zero, hX] at this
    simpa using this
  have HXe : Hid (ts.take n = X) := hX
  clear hX
  go_wp2_with fail
  refine wp_loop_rounds 2 ?_
  rw [rounds_succ]
  go_wp2_with fail
  have hcl := clone_any ⟨g, o, none⟩ cv X w3 (by rw [hXl]; exact hRX.out _ HB3.out) (by omega)
  rw [hXl] at hcl
  refine hcl.mono ?_
  clear hcl
  rintro e w4 ⟨v1, rfl, hv1, ho4, hb4⟩
  obtain ⟨a1, c1, rfl⟩ := own_shape ho4
  have HO4 : Hid (w4.ownsRow w3.heap.size 36 2 (.slice a1 n c1) n (ndC X)) := ho4
  have HB4 : Hid (Below w.heap.size w w4) := go_on HB3.out hb4
  have HN4 : Hid (NB w4 w.heap.size j s) := HN3.out.keep hb4
  have HPB4 : Hid (PB w4 w1.heap.size #[.slice none 0 0]) := HPB3.out.keep hb4
  have hw3 : w1.heap.size < w3.heap.size := HPB3.out.lt
  have q1 := HPB4.out.get 0
  have q2 := HPB4.out.frozen 0
  clear ho4 hb4 k1 HN3 HPB3 HRW
  go_wp2_with fail
  have HN5 : Hid (NB (w4.setCell ⟨w1.heap.size, 0, none⟩ (.slice a1 n c1)) w.heap.size j s) := HN4.out.other _ (by omega)
  have HPB5 : Hid (PB (w4.setCell ⟨w1.heap.size, 0, none⟩ (.slice a1 n c1)) w1.heap.size #[.slice a1 n c1]) := HPB4.out.set 0 _
  have HO5 : Hid ((w4.setCell ⟨w1.heap.size, 0, none⟩ (.slice a1 n c1)).ownsRow w3.heap.size 36 2 (.slice a1 n c1) n (ndC X)) := own_other HO4.out _ (fun x hx => by have := (HO4.out.lt x hx).1; omega)
  have HB5 : Hid (Below w.heap.size w (w4.setCell ⟨w1.heap.size, 0, none⟩ (.slice a1 n c1))) := HB4.out.setCell (p := ⟨w1.heap.size, 0, none⟩) (by show w.heap.size ≤ w1.heap.size; omega) _
  generalize hWg5 : w4.setCell ⟨w1.heap.size, 0, none⟩ (.slice a1 n c1) = W5 at HN5 HPB5 HO5 HB5 ⊢
  clear hWg5 q1 q2 HN4 HPB4 HO4 HB4
  have d0 := HN5.out.fst
  have d1 := HN5.out.snd
  have f0 := HN5.out.frozen 0
  have f1 := HN5.out.frozen 1
  rw [rounds_succ]
  go_wp2_with fail
  have hN8 := HN5.out.set j s
  refine bodyPost_ret (results_node rfl rfl hN8.fst hN8.snd) rfl ?_
  have hL1 : w.heap.size ≤ w1.heap.size := by omega
  have hB8 := below_set2 HB5.out (Nat.le_refl w.heap.size) (.int .i64 (j : Int)) (.int .u8 s)
  refine ⟨w1.heap.size, .slice a1 n c1, rfl, hL1, ?_, ?_, hB8⟩
  · exact (Below.heap_setCell _ _ _ _ (by show w1.heap.size ≠ w.heap.size; omega)).trans ((Below.heap_setCell _ _ _ _ (by show w1.heap.size ≠ w.heap.size; omega)).trans HPB5.out)
  · rw [HXe.out, hXl]
    exact own_mono (own_other (own_other HO5.out _ (fun x hx => by have := (HO5.out.lt x hx).1; omega)) _ (fun x hx => by have := (HO5.out.lt x hx).1; omega)) (by omega)

set_option maxHeartbeats 4000000 in
set_option maxRecDepth 100000 in
theorem parts_two (v : Value) (ts : List Nd) (w : World) (hv : NReads w v ts) (hm : ts.length ≤ 4000) (hP : PTab w) (hok : wrong ts = 0) (hf : freeN ts = some 1) (k s : Int) (hn : ts.getD (ts.length - 1) (0, 0) = (k, s)) (hr : arity k = 2) (a b : Nat) (hstk : stkN (ts.take (ts.length - 1)) = [a, b]) (hcap : ∀ a n c, v = .slice a n c → n ≤ c) :
    Calls Tryd.prog 19 #[v] w fun e w' => ∃ G v1 v2 B, e = .returned (.tuple #[ndV (k, s), .slice (some ⟨G, 0, none⟩) 2 2, .int .i64 0]) ∧ w.heap.size ≤ G ∧ w.heap.size ≤ B ∧ PB w' G #[v1, v2] ∧ w'.ownsRow B 36 2 v1 (ts.take b).length (ndC (ts.take b)) ∧ w'.ownsRow w.heap.size 36 2 v2 ((ts.take (ts.length - 1)).drop b).length (ndC ((ts.take (ts.length - 1)).drop b)) ∧ (∀ x, v2.ownBlock = some x → x < B) ∧ Below w.heap.size w w' := by
  have HV : Hid (NReads w v ts) := hv
  have HP : Hid (PTab w) := hP
  obtain ⟨h0, hg, hsl⟩ := tree_end hf
  rw [hn] at hg hsl
  obtain ⟨hk1, hk9⟩ := good_kind hg
  simp only at hk1 hk9 hsl
  rw [hr] at hsl
  obtain ⟨j, rfl⟩ : ∃ j : Nat, k = j := ⟨k.toNat, by omega⟩
  have HX : Hid (wrong ts = 0) := hok
  have hb0 : Below w.heap.size w (w.alloc (.cells #[.int .i64 0, .int .u8 0] 36)) := (Below.refl _ _).alloc (Nat.le_refl _) _
  have HB0 : Hid (Below w.heap.size w (w.alloc (.cells #[.int .i64 0, .int .u8 0] 36))) := hb0
  have r0 := NB.new w 0 0
  have HF : Hid (freeN ts = some 1) := hf
  obtain ⟨av, cv, rfl, hrd⟩ := hv
  have hcv := hcap _ _ _ rfl
  clear hcap
  obtain ⟨g, o, rfl, hgl, hc1, hc2⟩ := hrd (ts.length - 1) (by omega)
  rw [hn] at hc1 hc2
  obtain ⟨n, hnd⟩ : ∃ n, ts.length - 1 = n := ⟨_, rfl⟩
  have hnI : (ts.length : Int) - 1 = n := by omega
  have hnl : (n : Int) < ts.length := by omega
  have hnl2 : n + 1 = ts.length := by omega
  rw [hnd] at hc1 hc2 hsl hstk
  rw [hnd]
  have hj9 : j < 10 := by omega
  have hjI : (j : Int) < 10 := by omega
  obtain ⟨i0, hi, hz0, hz1, hz2⟩ := info_parts Tryd.info_nodes
  have hmk := fun w0 => run_make (P := Tryd.prog) w0 37 22 i0 (.slice none 0 0) Tryd.underlying37 hi hz0 .i64 .i64 2 2 (by omega) (by omega) (by rw [hz2]; omega) (by omega)
  rw [hz1] at hmk
  have hmade : madeCells (Value.slice none 0 0).cells (((2 : Int)).toNat * 1) = #[.slice none 0 0, .slice none 0 0] := by kernel_rfl
  rw [hmade] at hmk
  clear hP hok hb0 hrd hn hg hf hnd hmade hi hz0 hz1 hz2
  go_enter Tryd.func19, Tryd.ntmps19
  go_wp2_with fail
  refine (treeError_any _ ts _ (HV.out.stay HB0.out) (by omega) (HP.out.stay HB0.out)).mono ?_
  rintro e w1 ⟨rfl, hb1⟩
  rw [HX.out]
  have HN : Hid (NB w1 w.heap.size 0 0) := r0.keep hb1
  have HB1 : Hid (Below w.heap.size w w1) := go_on HB0.out hb1
  have d0 := HN.out.fst
  have d1 := HN.out.snd
  have f0 := HN.out.frozen 0
  have f1 := HN.out.frozen 1
  have e1 : w1.cell? ⟨g, o + n * 2, none⟩ = some (.int .i64 (j : Int)) := by rw [below_cell HB1.out hgl]; exact hc1
  have e2 : w1.cell? ⟨g, o + n * 2 + 1, none⟩ = some (.int .u8 s) := by rw [below_cell HB1.out hgl]; exact hc2
  have e3 : w1.cell? ⟨0, j, none⟩ = some (.int .i64 2) := by
    have := HP.out.below HB1.out HP.out.pos j hj9
    rw [hr] at this
    exact this
  clear r0 hb1 hc1 hc2
  go_wp2_with fail
  have HN2 : Hid (NB (((w1.setCell ⟨w.heap.size, 0, none⟩ (.int .i64 (j : Int))).setCell ⟨w.heap.size, 1, none⟩ (.int .u8 s)).alloc (.cells #[.slice none 0 0, .slice none 0 0] 22)) w.heap.size j s) := (HN.out.set j s).alloc _
  have HPB : Hid (PB (((w1.setCell ⟨w.heap.size, 0, none⟩ (.int .i64 (j : Int))).setCell ⟨w.heap.size, 1, none⟩ (.int .u8 s)).alloc (.cells #[.slice none 0 0, .slice none 0 0] 22)) w1.heap.size #[.slice none 0 0, .slice none 0 0]) := by
    have := PB.new ((w1.setCell ⟨w.heap.size, 0, none⟩ (.int .i64 (j : Int))).setCell ⟨w.heap.size, 1, none⟩ (.int .u8 s)) #[.slice none 0 0, .slice none 0 0]
    show PB _ _ _
    simpa using this
  have HB2 : Hid (Below w.heap.size w (((w1.setCell ⟨w.heap.size, 0, none⟩ (.int .i64 (j : Int))).setCell ⟨w.heap.size, 1, none⟩ (.int .u8 s)).alloc (.cells #[.slice none 0 0, .slice none 0 0] 22))) := (below_set2 HB1.out (Nat.le_refl _) _ _).alloc (by have := HB1.out.size; simp; omega) _
  have hG1 : w.heap.size < w1.heap.size := HN.out.lt
  generalize hWg : (((w1.setCell ⟨w.heap.size, 0, none⟩ (.int .i64 (j : Int))).setCell ⟨w.heap.size, 1, none⟩ (.int .u8 s)).alloc (.cells #[.slice none 0 0, .slice none 0 0] 22)) = W2 at HN2 HPB HB2 ⊢
  clear hWg d0 d1 f0 f1 e1 e2 e3 HN
  refine (sizes_any _ ts _ (HV.out.stay HB2.out) hm HF.out (HP.out.stay HB2.out)).mono ?_
  rintro e w3 ⟨gs, L, rfl, hge, hrow, hlen, hends, hb3⟩
  have HN3 : Hid (NB w3 w.heap.size j s) := HN2.out.keep hb3
  have HPB3 : Hid (PB w3 w1.heap.size #[.slice none 0 0, .slice none 0 0]) := HPB.out.keep hb3
  have HB3 : Hid (Below w.heap.size w w3) := go_on HB2.out hb3
  have HRW : Hid (IRow w3 gs L) := hrow
  have hGlt := HPB.out.lt
  clear hb3 HN2 HPB HB2 hmk
  have hE := hends n (by omega)
  rw [hstk] at hE
  obtain ⟨ha1, ha2, hLa, hb1', hb2', hLb, hab⟩ := hE
  have hab' : a + b = n := by have : n - a - b = 0 := hab; omega
  obtain ⟨m1, hm1⟩ : ∃ m1, n - 1 = m1 := ⟨_, rfl⟩
  have hm1I : (n : Int) - 1 = m1 := by omega
  have hm1l : (m1 : Int) < ts.length := by omega
  obtain ⟨m2, hm2⟩ : ∃ m2, b - 1 = m2 := ⟨_, rfl⟩
  have hm2I : (b : Int) - 1 = m2 := by omega
  have hm2l : (m2 : Int) < ts.length := by omega
  rw [hm1] at hLa
  rw [show n - a - 1 = m2 by omega] at hLb
  have hnaI : (n : Int) - (a : Int) = b := by omega
  have k1 := HRW.out.get hLa
  have HK2 : Hid (L[m2]? = some b) := hLb
  have hbn : (b : Int) ≤ n := by omega
  have hab0 : n - b = a := by omega
  have hnc : (n : Int) ≤ cv := by omega
  clear hends hLa hLb hstk hsl hab
  obtain ⟨X, hX⟩ : ∃ X, (ts.take n).drop b = X := ⟨_, rfl⟩
  obtain ⟨Y, hY⟩ : ∃ Y, ts.take b = Y := ⟨_, rfl⟩
  have hXl : X.length = a := by rw [← hX]; simp; omega
  have hYl : Y.length = b := by rw [← hY]; simp; omega
  have hRX : Hid (∀ w', Below w.heap.size w w' → NReads w' (.slice (some ⟨g, o + b * 2, none⟩) a (cv - b)) X) := fun w' hb => by
    obtain ⟨g', o', e, h⟩ := nreads_part (HV.out.stay hb) (lo := b) (hi := n) (by omega) (by omega)
    cases e
    have := h (cv - b)
    rwa [hab0, hX] at this
  have hRY : Hid (∀ w', Below w.heap.size w w' → NReads w' (.slice (some ⟨g, o, none⟩) b cv) Y) := fun w' hb => by
    obtain ⟨g', o', e, h⟩ := nreads_part (HV.out.stay hb) (lo := 0) (hi := b) (by omega) (by omega)
    cases e
    have := h cv
    rw [List.drop_zero, hY] at this
    simpa using this
  have HXe : Hid ((ts.take n).drop b = X) := hX
  have HYe : Hid (ts.take b = Y) := hY
  clear hX hY
  go_wp2_with fail
  refine wp_loop_rounds 3 ?_
  rw [rounds_succ]
  go_wp2_with fail
  have hcl := clone_any ⟨g, o + b * 2, none⟩ (cv - b) X w3 (by rw [hXl]; exact hRX.out _ HB3.out) (by omega)
  rw [hXl] at hcl
  refine hcl.mono ?_
  clear hcl
  rintro e w4 ⟨v2, rfl, hv2, ho4, hb4⟩
  obtain ⟨a2, c2, rfl⟩ := own_shape ho4
  have HO4 : Hid (w4.ownsRow w3.heap.size 36 2 (.slice a2 a c2) a (ndC X)) := ho4
  have HB4 : Hid (Below w.heap.size w w4) := go_on HB3.out hb4
  have HN4 : Hid (NB w4 w.heap.size j s) := HN3.out.keep hb4
  have HPB4 : Hid (PB w4 w1.heap.size #[.slice none 0 0, .slice none 0 0]) := HPB3.out.keep hb4
  have HRW4 : Hid (IRow w4 gs L) := HRW.out.keep hb4
  have hw3 : w1.heap.size < w3.heap.size := HPB3.out.lt
  have q1 := HPB4.out.get 1
  have q2 := HPB4.out.frozen 1
  clear ho4 hb4 k1 HN3 HPB3 HRW
  go_wp2_with fail
  have HN5 : Hid (NB (w4.setCell ⟨w1.heap.size, 1, none⟩ (.slice a2 a c2)) w.heap.size j s) := HN4.out.other _ (by omega)
  have HPB5 : Hid (PB (w4.setCell ⟨w1.heap.size, 1, none⟩ (.slice a2 a c2)) w1.heap.size #[.slice none 0 0, .slice a2 a c2]) := HPB4.out.set 1 _
  have HRW5 : Hid (IRow (w4.setCell ⟨w1.heap.size, 1, none⟩ (.slice a2 a c2)) gs L) := (Below.heap_setCell _ _ _ _ (by show gs ≠ w1.heap.size; omega)).trans HRW4.out
  have HO5 : Hid ((w4.setCell ⟨w1.heap.size, 1, none⟩ (.slice a2 a c2)).ownsRow w3.heap.size 36 2 (.slice a2 a c2) a (ndC X)) := own_other HO4.out _ (fun x hx => by have := (HO4.out.lt x hx).1; omega)
  have HB5 : Hid (Below w.heap.size w (w4.setCell ⟨w1.heap.size, 1, none⟩ (.slice a2 a c2))) := HB4.out.setCell (p := ⟨w1.heap.size, 1, none⟩) (by show w.heap.size ≤ w1.heap.size; omega) _
  generalize hWg5 : w4.setCell ⟨w1.heap.size, 1, none⟩ (.slice a2 a c2) = W5 at HN5 HPB5 HRW5 HO5 HB5 ⊢
  clear hWg5 q1 q2 HN4 HPB4 HRW4 HO4 HB4
  have k2 := HRW5.out.get HK2.out
  rw [rounds_succ]
  go_wp2_with fail
  have hcl := clone_any ⟨g, o, none⟩ cv Y W5 (by rw [hYl]; exact hRY.out _ HB5.out) (by omega)
  rw [hYl] at hcl
  refine hcl.mono ?_
  clear hcl
  rintro e w6 ⟨v1, rfl, hv1, ho6, hb6⟩
  obtain ⟨a1, c1, rfl⟩ := own_shape ho6
  have HO6 : Hid (w6.ownsRow W5.heap.size 36 2 (.slice a1 b c1) b (ndC Y)) := ho6
  have HO7 : Hid (w6.ownsRow w3.heap.size 36 2 (.slice a2 a c2) a (ndC X)) := own_below HO5.out hb6
  have HLt : Hid (∀ x, (Value.slice a2 a c2).ownBlock = some x → x < W5.heap.size) := fun x hx => (HO5.out.lt x hx).2
  have HB6 : Hid (Below w.heap.size w w6) := go_on HB5.out hb6
  have HN6 : Hid (NB w6 w.heap.size j s) := HN5.out.keep hb6
  have HPB6 : Hid (PB w6 w1.heap.size #[.slice none 0 0, .slice a2 a c2]) := HPB5.out.keep hb6
  have hw5 : w1.heap.size < W5.heap.size := HPB5.out.lt
  have HW5 : Hid (w.heap.size ≤ W5.heap.size) := HB5.out.size
  have q1 := HPB6.out.get 0
  have q2 := HPB6.out.frozen 0
  clear ho6 hb6 k2 HN5 HPB5 HRW5 HO5 HB5
  go_wp2_with fail
  have HN7 : Hid (NB (w6.setCell ⟨w1.heap.size, 0, none⟩ (.slice a1 b c1)) w.heap.size j s) := HN6.out.other _ (by omega)
  have HPB7 : Hid (PB (w6.setCell ⟨w1.heap.size, 0, none⟩ (.slice a1 b c1)) w1.heap.size #[.slice a1 b c1, .slice a2 a c2]) := HPB6.out.set 0 _
  have HO8 : Hid ((w6.setCell ⟨w1.heap.size, 0, none⟩ (.slice a1 b c1)).ownsRow W5.heap.size 36 2 (.slice a1 b c1) b (ndC Y)) := own_other HO6.out _ (fun x hx => by have := (HO6.out.lt x hx).1; omega)
  have HO9 : Hid ((w6.setCell ⟨w1.heap.size, 0, none⟩ (.slice a1 b c1)).ownsRow w3.heap.size 36 2 (.slice a2 a c2) a (ndC X)) := own_other HO7.out _ (fun x hx => by have := (HO7.out.lt x hx).1; omega)
  have HB7 : Hid (Below w.heap.size w (w6.setCell ⟨w1.heap.size, 0, none⟩ (.slice a1 b c1))) := HB6.out.setCell (p := ⟨w1.heap.size, 0, none⟩) (by show w.heap.size ≤ w1.heap.size; omega) _
  generalize hWg7 : w6.setCell ⟨w1.heap.size, 0, none⟩ (.slice a1 b c1) = W7 at HN7 HPB7 HO8 HO9 HB7 ⊢
  clear hWg7 q1 q2 HN6 HPB6 HO6 HO7 HB6
  have d0 := HN7.out.fst
  have d1 := HN7.out.snd
  have f0 := HN7.out.frozen 0
  have f1 := HN7.out.frozen 1
  rw [rounds_succ]
  go_wp2_with fail
  have hN8 := HN7.out.set j s
  refine bodyPost_ret (results_node rfl rfl hN8.fst hN8.snd) rfl ?_
  have hL1 : w.heap.size ≤ w1.heap.size := by omega
  have hB8 := below_set2 HB7.out (Nat.le_refl w.heap.size) (.int .i64 (j : Int)) (.int .u8 s)
  refine ⟨w1.heap.size, .slice a1 b c1, .slice a2 a c2, W5.heap.size, rfl, hL1, HW5.out, ?_, ?_, ?_, HLt.out, hB8⟩
  · exact (Below.heap_setCell _ _ _ _ (by show w1.heap.size ≠ w.heap.size; omega)).trans ((Below.heap_setCell _ _ _ _ (by show w1.heap.size ≠ w.heap.size; omega)).trans HPB7.out)
  · rw [HYe.out, hYl]
    exact own_other (own_other HO8.out _ (fun x hx => by have := (HO8.out.lt x hx).1; omega)) _ (fun x hx => by have := (HO8.out.lt x hx).1; omega)
  · rw [HXe.out, hXl]
    exact own_mono (own_other (own_other HO9.out _ (fun x hx => by have := (HO9.out.lt x hx).1; omega)) _ (fun x hx => by have := (HO9.out.lt x hx).1; omega)) (by omega)

end Go.Proofs.YtchaggigabccaaaDoor
