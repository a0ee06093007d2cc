/- The program's forms: what stands in their block; trees at their places; the calls that only read. -/
import Derived.Test.YtdgpajdlomihaaaGreatDoorQXa
import Derived.Test.YtdgpajdlomihaaaGreatDoorQA
import Derived.Deep.RegionHeld3
import Derived.Deep.RegionLaw
namespace Go.Proofs.YtdgpajdlomihaaaGreatDoor
open Go Go.RowKit
set_option linter.unusedVariables false

/-! ### Trees at their places -/
def Tr.sz : Tr → List Nat
  | .zero _ => [1]
  | .one _ a => a.sz ++ [a.flat.length + 1]
  | .two _ a b => a.sz ++ b.sz ++ [a.flat.length + b.flat.length + 1]
abbrev Tr.len (t : Tr) : Nat := t.flat.length
theorem Tr.sz_len : ∀ t : Tr, t.sz.length = t.flat.length
  | .zero _ => rfl
  | .one _ a => by simp [Tr.sz, Tr.flat, Tr.sz_len a]
  | .two _ a b => by simp [Tr.sz, Tr.flat, Tr.sz_len a, Tr.sz_len b]
theorem Tr.sz_last (t : Tr) : ∃ X, t.sz = X ++ [t.flat.length] := by
  cases t with
  | zero n => exact ⟨[], rfl⟩
  | one n a => exact ⟨a.sz, by simp [Tr.sz, Tr.flat]⟩
  | two n a b => exact ⟨a.sz ++ b.sz, by simp [Tr.sz, Tr.flat]; omega⟩
def flatL (ts : List Tr) : List Nd := ts.flatMap Tr.flat
def szL (ts : List Tr) : List Nat := ts.flatMap Tr.sz
theorem flatL_append (a b : List Tr) : flatL (a ++ b) = flatL a ++ flatL b := List.flatMap_append
theorem szL_append (a b : List Tr) : szL (a ++ b) = szL a ++ szL b := List.flatMap_append
theorem szL_len (ts : List Tr) : (szL ts).length = (flatL ts).length := by
  induction ts with
  | nil => rfl
  | cons t ts ih =>
    have e1 : szL (t :: ts) = t.sz ++ szL ts := rfl
    have e2 : flatL (t :: ts) = t.flat ++ flatL ts := rfl
    rw [e1, e2, List.length_append, List.length_append, ih, t.sz_len]
/-- A tree stands from one place up to another. -/
structure At (N : List Nd) (Z : List Nat) (p e : Nat) (t : Tr) : Prop where
  end_ : e = p + t.flat.length
  nod : ∃ A C, N = A ++ t.flat ++ C ∧ A.length = p
  siz : ∃ A C, Z = A ++ t.sz ++ C ∧ A.length = p
theorem At.le {N : List Nd} {Z : List Nat} {p e : Nat} {t : Tr} (h : At N Z p e t) : p < e ∧ e ≤ N.length := by
  obtain ⟨A, C, rfl, rfl⟩ := h.nod
  have := h.end_
  have := t.len_pos
  simp only [List.length_append]; omega
theorem At.root {N : List Nd} {Z : List Nat} {p e : Nat} {t : Tr} (h : At N Z p e t) : N.getD (e - 1) (0, 0) = t.root := by
  obtain ⟨A, C, e1, rfl⟩ := h.nod
  obtain ⟨X, hX⟩ := t.flat_root
  have hl : t.flat.length = X.length + 1 := by rw [hX]; simp
  rw [e1, h.end_, hl, hX, List.getD_eq_getElem?_getD, show A ++ (X ++ [t.root]) ++ C = (A ++ X) ++ (t.root :: C) by simp, List.getElem?_append_right (by rw [List.length_append]; omega), List.length_append]
  rw [show A.length + (X.length + 1) - 1 - (A.length + X.length) = 0 by omega]
  rfl
theorem At.size {N : List Nd} {Z : List Nat} {p e : Nat} {t : Tr} (h : At N Z p e t) : Z[e - 1]? = some t.flat.length := by
  obtain ⟨A, C, e1, rfl⟩ := h.siz
  obtain ⟨X, hX⟩ := t.sz_last
  have hl : t.flat.length = X.length + 1 := by have := t.sz_len; rw [hX] at this; simp at this; omega
  rw [e1, h.end_, hX, show A ++ (X ++ [t.flat.length]) ++ C = (A ++ X) ++ (t.flat.length :: C) by simp, List.getElem?_append_right (by rw [List.length_append]; omega), List.length_append, show A.length + t.flat.length - 1 - (A.length + X.length) = 0 by omega]
  rfl
theorem At.take {N : List Nd} {Z : List Nat} {p e : Nat} {t : Tr} (h : At N Z p e t) : (N.drop p).take (e - p) = t.flat := by
  obtain ⟨A, C, rfl, rfl⟩ := h.nod
  rw [List.append_assoc, List.drop_left, h.end_, show A.length + t.flat.length - A.length = t.flat.length by omega, List.take_left]
theorem At.two {N : List Nd} {Z : List Nat} {p e : Nat} {n : Nd} {a b : Tr} (h : At N Z p e (.two n a b)) : ∃ q, At N Z p q a ∧ At N Z q (e - 1) b := by
  obtain ⟨A, C, e1, rfl⟩ := h.nod
  obtain ⟨A', C', e2, e3⟩ := h.siz
  have e4 := h.end_
  simp only [Tr.flat, List.length_append, List.length_singleton] at e1 e4
  simp only [Tr.sz] at e2
  exact ⟨A.length + a.flat.length, ⟨rfl, ⟨A, b.flat ++ [n] ++ C, by rw [e1]; simp, rfl⟩, ⟨A', b.sz ++ [a.flat.length + b.flat.length + 1] ++ C', by rw [e2]; simp, e3⟩⟩,
    ⟨by omega, ⟨A ++ a.flat, [n] ++ C, by rw [e1]; simp, by simp⟩, ⟨A' ++ a.sz, [a.flat.length + b.flat.length + 1] ++ C', by rw [e2]; simp, by simp [a.sz_len, e3]⟩⟩⟩
theorem At.one {N : List Nd} {Z : List Nat} {p e : Nat} {n : Nd} {a : Tr} (h : At N Z p e (.one n a)) : At N Z p (e - 1) a := by
  obtain ⟨A, C, e1, rfl⟩ := h.nod
  obtain ⟨A', C', e2, e3⟩ := h.siz
  have e4 := h.end_
  simp only [Tr.flat, List.length_append, List.length_singleton] at e1 e4
  simp only [Tr.sz] at e2
  exact ⟨by omega, ⟨A, [n] ++ C, by rw [e1]; simp, rfl⟩, ⟨A', [a.flat.length + 1] ++ C', by rw [e2]; simp, e3⟩⟩
theorem At.more {N M : List Nd} {Z Y : List Nat} {p e : Nat} {t : Tr} (h : At N Z p e t) : At (N ++ M) (Z ++ Y) p e t := by
  obtain ⟨A, C, e1, rfl⟩ := h.nod
  obtain ⟨A', C', e2, e3⟩ := h.siz
  exact ⟨h.end_, ⟨A, C ++ M, by rw [e1]; simp, rfl⟩, ⟨A', C' ++ Y, by rw [e2]; simp, e3⟩⟩
theorem at_stack (pre post : List Tr) (t : Tr) : At (flatL (pre ++ t :: post)) (szL (pre ++ t :: post)) (flatL pre).length ((flatL pre).length + t.flat.length) t :=
  ⟨rfl, ⟨flatL pre, flatL post, by rw [flatL_append]; simp [flatL], rfl⟩, ⟨szL pre, szL post, by rw [szL_append]; simp [szL], szL_len pre⟩⟩
/-- The last one, the last two. -/
theorem at_last (pre : List Tr) (t : Tr) : ∃ p e, At (flatL (pre ++ [t])) (szL (pre ++ [t])) p e t ∧ e = (flatL (pre ++ [t])).length ∧ p = (flatL pre).length :=
  ⟨_, _, at_stack pre [] t, by rw [flatL_append]; simp [flatL], rfl⟩
theorem at_last2 (pre : List Tr) (x y : Tr) : ∃ p q e, At (flatL (pre ++ [x, y])) (szL (pre ++ [x, y])) p q x ∧ At (flatL (pre ++ [x, y])) (szL (pre ++ [x, y])) q e y ∧ e = (flatL (pre ++ [x, y])).length ∧ p = (flatL pre).length := by
  have h1 := at_stack pre [y] x
  have h2 := at_stack (pre ++ [x]) [] y
  rw [show pre ++ [x] ++ [y] = pre ++ [x, y] by simp] at h2
  have e1 : (flatL (pre ++ [x])).length = (flatL pre).length + x.flat.length := by rw [flatL_append]; simp [flatL]
  rw [e1] at h2
  exact ⟨_, _, _, h1, h2, by rw [flatL_append]; simp [flatL]; omega, rfl⟩
/-! ### The forms in their block -/
def inC (Z : List Nat) : List Value := Z.map fun (n : Nat) => Value.int .i64 (n : Int)
theorem inC_append (a b : List Nat) : inC (a ++ b) = inC a ++ inC b := by simp [inC]
theorem inC_length (a : List Nat) : (inC a).length = a.length := by simp [inC]
structure Fb where
  nb : Nat
  nc : Nat
  sb : Nat
  sc : Nat
structure FS (base : Nat) (w : World) (B : Nat) (N : List Nd) (Z : List Nat) (F : Fb) : Prop where
  blk : w.heap[B]? = some (.cells #[.slice (some ⟨F.nb, 0, none⟩) N.length F.nc, .slice (some ⟨F.sb, 0, none⟩) Z.length F.sc] 68 (0, 0))
  nod : w.ownsRow base 51 2 (.slice (some ⟨F.nb, 0, none⟩) N.length F.nc) N.length (ndC N)
  siz : w.ownsRow base 3 1 (.slice (some ⟨F.sb, 0, none⟩) Z.length F.sc) Z.length (inC Z)
  from_ : base ≤ B
  len : Z.length = N.length
  small : N.length ≤ 100000
/-- All blocks stay but those of the forms. -/
structure FG (w w' : World) (B : Nat) (F F' : Fb) : Prop where
  os : w'.os = w.os
  tape : w'.tape = w.tape
  output : w'.output = w.output
  size : w.heap.size ≤ w'.heap.size
  block : ∀ j, j < w.heap.size → j ≠ B → j ≠ F.nb → j ≠ F.sb → w'.heap[j]? = w.heap[j]?
  nb : F'.nb = F.nb ∨ w.heap.size ≤ F'.nb
  sb : F'.sb = F.sb ∨ w.heap.size ≤ F'.sb
theorem FG.trans {a b c : World} {B : Nat} {F G H : Fb} (h : FG a b B F G) (k : FG b c B G H) : FG a c B F H := by
  have hs := h.size
  refine ⟨k.os.trans h.os, k.tape.trans h.tape, k.output.trans h.output, Nat.le_trans h.size k.size, fun j hj h1 h2 h3 => ?_, ?_, ?_⟩
  · refine (k.block j (by omega) h1 (fun e => ?_) (fun e => ?_)).trans (h.block j hj h1 h2 h3)
    · rcases h.nb with h4 | h4 <;> omega
    · rcases h.sb with h4 | h4 <;> omega
  · rcases k.nb with h4 | h4
    · rw [h4]; exact h.nb
    · right; omega
  · rcases k.sb with h4 | h4
    · rw [h4]; exact h.sb
    · right; omega
theorem FG.of {w w' : World} {B : Nat} {F : Fb} (h : Below w.heap.size w w') : FG w w' B F F := ⟨h.os, h.tape, h.output, h.size, fun j hj _ _ _ => h.block j hj, .inl rfl, .inl rfl⟩
theorem FS.lt {base : Nat} {w : World} {B : Nat} {N : List Nd} {Z : List Nat} {F : Fb} (h : FS base w B N Z F) : B < w.heap.size := (Array.getElem?_eq_some_iff.1 h.blk).1
theorem FS.stay {base : Nat} {w w' : World} {B : Nat} {N : List Nd} {Z : List Nat} {F : Fb} (h : FS base w B N Z F) (hb : Below w.heap.size w w') : FS base w' B N Z F :=
  ⟨(hb.block B h.lt).trans h.blk, own_below h.nod hb, own_below h.siz hb, h.from_, h.len, h.small⟩
theorem FS.cells {base : Nat} {w : World} {B : Nat} {N : List Nd} {Z : List Nat} {F : Fb} (h : FS base w B N Z F) :
    w.cell? ⟨B, 0, none⟩ = some (.slice (some ⟨F.nb, 0, none⟩) N.length F.nc) ∧ w.cell? ⟨B, 1, none⟩ = some (.slice (some ⟨F.sb, 0, none⟩) Z.length F.sc) := by
  have hb := h.blk
  refine ⟨?_, ?_⟩ <;> simp [World.cell?, hb]
theorem FS.frozen {base : Nat} {w : World} {B : Nat} {N : List Nd} {Z : List Nat} {F : Fb} (h : FS base w B N Z F) (i : Nat) : w.frozen? ⟨B, i, none⟩ = false := by
  have hb := h.blk
  simp [World.frozen?, hb]
theorem FS.lts {base : Nat} {w : World} {B : Nat} {N : List Nd} {Z : List Nat} {F : Fb} (h : FS base w B N Z F) : F.nb < w.heap.size ∧ F.sb < w.heap.size ∧ base ≤ F.nb ∧ base ≤ F.sb :=
  ⟨(h.nod.lt F.nb rfl).2, (h.siz.lt F.sb rfl).2, (h.nod.lt F.nb rfl).1, (h.siz.lt F.sb rfl).1⟩
theorem FS.caps {base : Nat} {w : World} {B : Nat} {N : List Nd} {Z : List Nat} {F : Fb} (h : FS base w B N Z F) : N.length ≤ F.nc ∧ Z.length ≤ F.sc ∧ F.nc ≤ maxLen ∧ F.sc ≤ maxLen := by
  obtain ⟨_, h1⟩ := h.nod
  obtain ⟨_, h2⟩ := h.siz
  rcases h1 with ⟨h1, _⟩ | ⟨g, cap, cur, e, r⟩
  · cases h1
  rcases h2 with ⟨h2, _⟩ | ⟨g', cap', cur', e', r'⟩
  · cases h2
  cases e
  cases e'
  exact ⟨r.2.2.1, r'.2.2.1, r.2.2.2.1, r'.2.2.2.1⟩
theorem FS.node {base : Nat} {w : World} {B : Nat} {N : List Nd} {Z : List Nat} {F : Fb} (h : FS base w B N Z F) (i : Nat) (hi : i < N.length) : w.cell? ⟨F.nb, i * 2, none⟩ = some (.int .i64 (N.getD i (0, 0)).1) ∧ w.cell? ⟨F.nb, i * 2 + 1, none⟩ = some (.int .u8 (N.getD i (0, 0)).2) := by
  rw [h.nod.cellAt (i * 2) (by omega), h.nod.cellAt (i * 2 + 1) (by omega)]
  exact ⟨ndC_fst N i hi, ndC_snd N i hi⟩
theorem FS.at_ {base : Nat} {w : World} {B : Nat} {N : List Nd} {Z : List Nat} {F : Fb} (h : FS base w B N Z F) (i x : Nat) (hi : Z[i]? = some x) : w.cell? ⟨F.sb, i, none⟩ = some (.int .i64 (x : Int)) := by
  have hl := (List.getElem?_eq_some_iff.1 hi).1
  rw [h.siz.cellAt i (by omega), inC, List.getElem?_map, hi]
  rfl
def spn (a b : Nat) : Value := .agg #[.int .i64 (a : Int), .int .i64 (b : Int)]
def fP (B : Nat) : Value := .pointer (some ⟨B, 0, none⟩)

set_option maxHeartbeats 4000000 in
set_option maxRecDepth 100000 in
theorem root_any (base : Nat) (w : World) (B : Nat) (N : List Nd) (Z : List Nat) (F : Fb) (h : FS base w B N Z F) (a b : Nat) (h1 : 1 ≤ b) (hb : b ≤ N.length) :
    Calls Tryz.prog 105 #[.pointer (some ⟨B, 0, none⟩), .agg #[.int .i64 (a : Int), .int .i64 (b : Int)]] w fun e w' => e = .returned (.int .i64 (N.getD (b - 1) (0, 0)).1) ∧ Below w.heap.size w w' := by
  have hlt := h.lt
  have hsm := h.small
  have hcp := h.caps
  obtain ⟨hnb, _, _, _⟩ := h.lts
  obtain ⟨c0, _⟩ := h.cells
  have hn := (h.node (b - 1) (by omega)).1
  clear h
  go_enter Tryz.func105, Tryz.ntmps105
  go_wp2_with fail
  have hwr : IntKind.i64.wrap ((b : Int) - 1) = ((b - 1 : Nat) : Int) := by rw [IntKind.wrap_i64]; omega
  go_region
  go_wp2_with fail
  go_ret
  exact ⟨by rw [List.getD_eq_getElem?_getD]; rfl, ((Below.refl _ _).alloc (Nat.le_refl _) _).drew⟩

set_option maxHeartbeats 4000000 in
set_option maxRecDepth 100000 in
theorem ending_any (base : Nat) (w : World) (B : Nat) (N : List Nd) (Z : List Nat) (F : Fb) (h : FS base w B N Z F) (b x : Nat) (h1 : 1 ≤ b) (hb : b ≤ N.length) (hx : Z[b - 1]? = some x) (hxb : x ≤ b) :
    Calls Tryz.prog 112 #[.pointer (some ⟨B, 0, none⟩), .int .i64 (b : Int)] w fun e w' => e = .returned (.agg #[.int .i64 ((b - x : Nat) : Int), .int .i64 (b : Int)]) ∧ Below w.heap.size w w' := by
  have hlt := h.lt
  have hsm := h.small
  have hcp := h.caps
  have hln := h.len
  obtain ⟨_, hsb, _, _⟩ := h.lts
  obtain ⟨_, c1⟩ := h.cells
  have hn := h.at_ (b - 1) x hx
  clear h hx
  go_enter Tryz.func112, Tryz.ntmps112
  go_wp2_with fail
  have hwr : IntKind.i64.wrap ((b : Int) - 1) = ((b - 1 : Nat) : Int) := by rw [IntKind.wrap_i64]; omega
  have hwr2 : IntKind.i64.wrap ((b : Int) - (x : Int)) = ((b - x : Nat) : Int) := by rw [IntKind.wrap_i64]; omega
  have hlI : ((b - 1 : Nat) : Int) < (Z.length : Int) := by omega
  have hlN : b - 1 < Z.length := by omega
  go_wp2_with fail
  refine bodyPost_ret (v := .agg #[.int .i64 ((b : Int) - x), .int .i64 (b : Int)]) (by simp [results, Tryz.results112, go_sem]) rfl ⟨?_, (Below.refl _ _).alloc (Nat.le_refl _) _⟩
  rw [show ((b - x : Nat) : Int) = (b : Int) - x by omega]

set_option maxHeartbeats 4000000 in
set_option maxRecDepth 100000 in
theorem list_any (base : Nat) (w : World) (B : Nat) (N : List Nd) (Z : List Nat) (F : Fb) (h : FS base w B N Z F) (a b : Nat) (hab : a < b) (hb : b ≤ N.length) :
    Calls Tryz.prog 88 #[.pointer (some ⟨B, 0, none⟩), .agg #[.int .i64 (a : Int), .int .i64 (b : Int)]] w fun e w' => ∃ v, e = .returned v ∧ NReads w' v ((N.drop a).take (b - a)) ∧ Below w.heap.size w w' := by
  have hlt := h.lt
  have hsm := h.small
  have hcp := h.caps
  obtain ⟨hnb, _, _, _⟩ := h.lts
  obtain ⟨c0, _⟩ := h.cells
  have HN : Hid (∀ i, i < N.length → w.cell? ⟨F.nb, i * 2, none⟩ = some (.int .i64 (N.getD i (0, 0)).1) ∧ w.cell? ⟨F.nb, i * 2 + 1, none⟩ = some (.int .u8 (N.getD i (0, 0)).2)) := h.node
  clear h
  go_enter Tryz.func88, Tryz.ntmps88
  go_wp2_with fail
  have hna : ¬ F.nc = a := by omega
  go_region
  go_wp2_with fail
  go_ret
  have HB : Below w.heap.size w ((w.alloc (.cells #[.int .i64 (a : Int), .int .i64 (b : Int)] 123)).drew) := ((Below.refl _ _).alloc (Nat.le_refl _) _).drew
  refine ⟨_, rfl, ?_, HB⟩
  have hl : ((N.drop a).take (b - a)).length = b - a := by simp; omega
  refine ⟨some ⟨F.nb, a * 2, none⟩, F.nc - a, by rw [hl]; simp, fun i hi => ⟨F.nb, a * 2, rfl, by have := HB.size; omega, ?_, ?_⟩⟩
  all_goals
    rw [hl] at hi
    have e : ((N.drop a).take (b - a)).getD i (0, 0) = N.getD (a + i) (0, 0) := by
      rw [List.getD_eq_getElem?_getD, List.getD_eq_getElem?_getD, List.getElem?_take, if_pos hi, List.getElem?_drop]
    rw [e, World.cell?_of_block (HB.block F.nb hnb)]
  · rw [show a * 2 + i * 2 = (a + i) * 2 by omega]; exact (HN.out (a + i) (by omega)).1
  · rw [show a * 2 + i * 2 + 1 = (a + i) * 2 + 1 by omega]; exact (HN.out (a + i) (by omega)).2
theorem rootT {base : Nat} {w : World} {B : Nat} {N : List Nd} {Z : List Nat} {F : Fb} (h : FS base w B N Z F) {p e : Nat} {t : Tr} (ht : At N Z p e t) :
    Calls Tryz.prog 105 #[.pointer (some ⟨B, 0, none⟩), .agg #[.int .i64 (p : Int), .int .i64 (e : Int)]] w fun e w' => e = .returned (.int .i64 t.root.1) ∧ Below w.heap.size w w' := by
  have h1 := ht.le
  have := root_any base w B N Z F h p e (by omega) h1.2
  rw [ht.root] at this
  exact this
theorem endingT {base : Nat} {w : World} {B : Nat} {N : List Nd} {Z : List Nat} {F : Fb} (h : FS base w B N Z F) {p e : Nat} {t : Tr} (ht : At N Z p e t) :
    Calls Tryz.prog 112 #[.pointer (some ⟨B, 0, none⟩), .int .i64 (e : Int)] w fun en w' => en = .returned (.agg #[.int .i64 (p : Int), .int .i64 (e : Int)]) ∧ Below w.heap.size w w' := by
  have h1 := ht.le
  have h2 := ht.end_
  have := ending_any base w B N Z F h e t.flat.length (by omega) h1.2 ht.size (by omega)
  rw [show e - t.flat.length = p by omega] at this
  exact this
theorem listT {base : Nat} {w : World} {B : Nat} {N : List Nd} {Z : List Nat} {F : Fb} (h : FS base w B N Z F) {p e : Nat} {t : Tr} (ht : At N Z p e t) :
    Calls Tryz.prog 88 #[.pointer (some ⟨B, 0, none⟩), .agg #[.int .i64 (p : Int), .int .i64 (e : Int)]] w fun en w' => ∃ v, en = .returned v ∧ NReads w' v t.flat ∧ Below w.heap.size w w' := by
  have h1 := ht.le
  have := list_any base w B N Z F h p e h1.1 h1.2
  rw [ht.take] at this
  exact this

/-- A span in a box. -/
def Bx (w : World) (b : Nat) (x y : Value) : Prop := w.heap[b]? = some (.cells #[x, y] 123 (0, 0))
theorem Bx.lt {w : World} {b : Nat} {x y : Value} (h : Bx w b x y) : b < w.heap.size := (Array.getElem?_eq_some_iff.1 h).1
theorem Bx.stay {w w' : World} {b : Nat} {x y : Value} (h : Bx w b x y) (hb : Below w.heap.size w w') : Bx w' b x y := (hb.block b h.lt).trans h
theorem Bx.new (w : World) (x y : Value) : Bx (w.alloc (.cells #[x, y] 123)) w.heap.size x y := heap_alloc_new w _
theorem Bx.cells {w : World} {b : Nat} {x y : Value} (h : Bx w b x y) : w.cell? ⟨b, 0, none⟩ = some x ∧ w.cell? ⟨b, 1, none⟩ = some y ∧ (∀ i, w.frozen? ⟨b, i, none⟩ = false) := by
  unfold Bx at h
  refine ⟨?_, ?_, fun i => ?_⟩
  · simp [World.cell?, h]
  · simp [World.cell?, h]
  · simp [World.frozen?, h]

theorem Tryz.info_span : (Tryz.prog.info? 123).map (·.size) = some 2 := by kernel_rfl
theorem load_span {w : World} {b : Nat} {x y : Value} (h : Bx w b x y) : (loadVar 123 ⟨b, 0, none⟩).run Tryz.prog w = .ok (.agg #[x, y]) w :=
  run_loadVar_row _ _ 123 123 #[x, y] (0, 0) _ h Tryz.underlying123 rfl Tryz.info_span
theorem results_sp2 {fn : Func} {p r : Tmp} (h : fn.results = #[.cell p 123, .cell r 123]) {tmps : Array Value} {b c : Nat} {x y u v : Value} {w : World} (hp : tmps.getD p undef = .pointer (some ⟨b, 0, none⟩)) (hr : tmps.getD r undef = .pointer (some ⟨c, 0, none⟩)) (hb : Bx w b x y) (hc : Bx w c u v) :
    (results fn tmps).run Tryz.prog w = .ok (.tuple #[.agg #[x, y], .agg #[u, v]]) w := by
  have hp' : tmps[p]?.getD undef = .pointer (some ⟨b, 0, none⟩) := by simpa using hp
  have hr' : tmps[r]?.getD undef = .pointer (some ⟨c, 0, none⟩) := by simpa using hr
  simp [results, h, go_sem, hp', hr', hb.cells.1, hb.cells.2.1, hc.cells.1, hc.cells.2.1, Result.andThen]
theorem blk_set2 {w : World} {B i : Nat} {arr : Array Value} {t : TypeId} (h : w.heap[B]? = some (.cells arr t (0, 0))) (u : Value) : (w.setCell ⟨B, i, none⟩ u).heap[B]? = some (.cells (arr.setIfInBounds i u) t (0, 0)) := by
  rw [setCell_eq_setRow w B i _ _ _ u h]
  exact setRow_heap w B _ _ _ _ h
theorem Bx.put {w : World} {b : Nat} {x y : Value} (h : Bx w b x y) (u v : Value) : Bx ((w.setCell ⟨b, 0, none⟩ u).setCell ⟨b, 1, none⟩ v) b u v := by
  have h1 := blk_set2 (i := 0) h u
  exact blk_set2 (i := 1) h1 v
theorem below_put {n b : Nat} {w w1 : World} (h : Below n w w1) (hb : n ≤ b) (u v : Value) : Below n w ((w1.setCell ⟨b, 0, none⟩ u).setCell ⟨b, 1, none⟩ v) :=
  (h.setCell (p := ⟨b, 0, none⟩) hb _).setCell (p := ⟨b, 1, none⟩) hb _
theorem Bx.off {w : World} {b c i : Nat} {x y u : Value} (h : Bx w b x y) (hc : b ≠ c) : Bx (w.setCell ⟨c, i, none⟩ u) b x y := (Below.heap_setCell _ _ _ _ hc).trans h

set_option maxHeartbeats 4000000 in
set_option maxRecDepth 100000 in
theorem pairT {base : Nat} {w : World} {B : Nat} {N : List Nd} {Z : List Nat} {F : Fb} (h : FS base w B N Z F) {p q e : Nat} {x y : Tr} (hx : At N Z p q x) (hy : At N Z q e y) :
    Calls Tryz.prog 113 #[.pointer (some ⟨B, 0, none⟩), .int .i64 (e : Int)] w fun en w' => en = .returned (.tuple #[.agg #[.int .i64 (p : Int), .int .i64 (q : Int)], .agg #[.int .i64 (q : Int), .int .i64 (e : Int)]]) ∧ Below w.heap.size w w' := by
  have hlt := h.lt
  have HF : Hid (FS base w B N Z F) := h
  have HX : Hid (At N Z p q x) := hx
  have HY : Hid (At N Z q e y) := hy
  clear h hx hy
  have hsz : ((w.alloc (.cells #[.int .i64 0, .int .i64 0] 123)).alloc (.cells #[.int .i64 0, .int .i64 0] 123)).heap.size = w.heap.size + 2 := by simp
  have HB0 : Hid (Below w.heap.size w ((w.alloc (.cells #[.int .i64 0, .int .i64 0] 123)).alloc (.cells #[.int .i64 0, .int .i64 0] 123))) := ((Below.refl _ _).alloc (Nat.le_refl _) _).alloc (by simp) _
  have R0 : Hid (Bx ((w.alloc (.cells #[.int .i64 0, .int .i64 0] 123)).alloc (.cells #[.int .i64 0, .int .i64 0] 123)) w.heap.size (.int .i64 0) (.int .i64 0)) := (Bx.new w _ _).stay ((Below.refl _ _).alloc (Nat.le_refl _) _)
  have R1 : Hid (Bx ((w.alloc (.cells #[.int .i64 0, .int .i64 0] 123)).alloc (.cells #[.int .i64 0, .int .i64 0] 123)) (w.heap.size + 1) (.int .i64 0) (.int .i64 0)) := by
    have := Bx.new (w.alloc (.cells #[.int .i64 0, .int .i64 0] 123)) (.int .i64 0) (.int .i64 0)
    rw [show (w.alloc (.cells #[.int .i64 0, .int .i64 0] 123)).heap.size = w.heap.size + 1 by simp] at this
    exact this
  go_enter Tryz.func113, Tryz.ntmps113
  go_wp2_with fail
  generalize (w.alloc (.cells #[.int .i64 0, .int .i64 0] 123)).alloc (.cells #[.int .i64 0, .int .i64 0] 123) = w0 at hsz HB0 R0 R1 ⊢
  refine (endingT (HF.out.stay HB0.out) HY.out).mono ?_
  rintro en w1 ⟨rfl, hb1⟩
  have hs1 := hb1.size
  have HB1 : Hid (Below w.heap.size w w1) := HB0.out.trans (hb1.mono (by omega))
  have R0 : Hid (Bx w1 w.heap.size (.int .i64 0) (.int .i64 0)) := R0.out.stay hb1
  have R1 : Hid (Bx w1 (w.heap.size + 1) (.int .i64 0) (.int .i64 0)) := R1.out.stay hb1
  obtain ⟨d0, d1, f1⟩ := R1.out.cells
  clear hb1 HB0
  go_wp2_with fail
  have HB2 : Hid (Below w.heap.size w ((w1.setCell ⟨w.heap.size + 1, 0, none⟩ (.int .i64 (q : Int))).setCell ⟨w.heap.size + 1, 1, none⟩ (.int .i64 (e : Int)))) := below_put HB1.out (by omega) _ _
  have S1 : Hid (Bx ((w1.setCell ⟨w.heap.size + 1, 0, none⟩ (.int .i64 (q : Int))).setCell ⟨w.heap.size + 1, 1, none⟩ (.int .i64 (e : Int))) (w.heap.size + 1) (.int .i64 (q : Int)) (.int .i64 (e : Int))) := R1.out.put _ _
  have S0 : Hid (Bx ((w1.setCell ⟨w.heap.size + 1, 0, none⟩ (.int .i64 (q : Int))).setCell ⟨w.heap.size + 1, 1, none⟩ (.int .i64 (e : Int))) w.heap.size (.int .i64 0) (.int .i64 0)) := (R0.out.off (by omega)).off (by omega)
  generalize (w1.setCell ⟨w.heap.size + 1, 0, none⟩ (.int .i64 (q : Int))).setCell ⟨w.heap.size + 1, 1, none⟩ (.int .i64 (e : Int)) = w2 at HB2 S0 S1 ⊢
  clear d0 d1 f1 R0 R1 HB1
  obtain ⟨c0, c1, f0⟩ := S0.out.cells
  obtain ⟨d0, d1, f1⟩ := S1.out.cells
  have g0 := S0.out.lt
  have g1 := S1.out.lt
  go_region_with (go_at_call 112; refine (endingT (HF.out.stay HB2.out.drew) HX.out).mono ?_; rintro en w3 ⟨rfl, hb3⟩; have T0 := (S0.out.stay (w := w2.drew) hb3).cells; have T1 := (S1.out.stay (w := w2.drew) hb3).cells)
  all_goals
    have hs2 := HB2.out.size
    have hs3 := hb3.size
    have HB3 : Below w.heap.size w w3 := HB2.out.drew.trans (hb3.mono hs2)
    have T0' : Bx w3 w.heap.size (.int .i64 0) (.int .i64 0) := S0.out.stay (w := w2.drew) hb3
    have T1' : Bx w3 (w.heap.size + 1) (.int .i64 (q : Int)) (.int .i64 (e : Int)) := S1.out.stay (w := w2.drew) hb3
    have HE : Hid (Below w.heap.size w ((((w3.setCell ⟨w.heap.size, 0, none⟩ (.int .i64 (p : Int))).setCell ⟨w.heap.size, 1, none⟩ (.int .i64 (q : Int))).setCell ⟨w.heap.size + 1, 0, none⟩ (.int .i64 (q : Int))).setCell ⟨w.heap.size + 1, 1, none⟩ (.int .i64 (e : Int)))) :=
      below_put (below_put HB3 (Nat.le_refl _) _ _) (by omega) _ _
    have U0 : Hid (Bx ((((w3.setCell ⟨w.heap.size, 0, none⟩ (.int .i64 (p : Int))).setCell ⟨w.heap.size, 1, none⟩ (.int .i64 (q : Int))).setCell ⟨w.heap.size + 1, 0, none⟩ (.int .i64 (q : Int))).setCell ⟨w.heap.size + 1, 1, none⟩ (.int .i64 (e : Int))) w.heap.size (.int .i64 (p : Int)) (.int .i64 (q : Int))) :=
      ((T0'.put _ _).off (by omega)).off (by omega)
    have U1 : Hid (Bx ((((w3.setCell ⟨w.heap.size, 0, none⟩ (.int .i64 (p : Int))).setCell ⟨w.heap.size, 1, none⟩ (.int .i64 (q : Int))).setCell ⟨w.heap.size + 1, 0, none⟩ (.int .i64 (q : Int))).setCell ⟨w.heap.size + 1, 1, none⟩ (.int .i64 (e : Int))) (w.heap.size + 1) (.int .i64 (q : Int)) (.int .i64 (e : Int))) :=
      ((T1'.off (by omega)).off (by omega)).put _ _
    clear T0 T1 T0' T1' HB3 hb3 c0 c1 f0 d0 d1 f1
    go_wp2_with fail
    exact bodyPost_ret (results_sp2 rfl rfl rfl U0.out U1.out) rfl ⟨rfl, HE.out⟩

set_option maxHeartbeats 4000000 in
set_option maxRecDepth 100000 in
theorem partsT {base : Nat} {w : World} {B : Nat} {N : List Nd} {Z : List Nat} {F : Fb} (h : FS base w B N Z F) {p q e : Nat} {x y : Tr} (hx : At N Z p q x) (hy : At N Z q (e - 1) y) (he : q < e) (a : Nat) :
    Calls Tryz.prog 126 #[.pointer (some ⟨B, 0, none⟩), .agg #[.int .i64 (a : Int), .int .i64 (e : Int)]] w fun en w' => en = .returned (.tuple #[.agg #[.int .i64 (p : Int), .int .i64 (q : Int)], .agg #[.int .i64 (q : Int), .int .i64 ((e - 1 : Nat) : Int)]]) ∧ Below w.heap.size w w' := by
  have hlt := h.lt
  have hle := hy.le
  have hsm := h.small
  have HF : Hid (FS base w B N Z F) := h
  have HX : Hid (At N Z p q x) := hx
  have HY : Hid (At N Z q (e - 1) y) := hy
  clear h hx hy
  obtain ⟨r, hr⟩ : ∃ r, e - 1 = r := ⟨_, rfl⟩
  rw [hr] at hle HY ⊢
  have hwr : IntKind.i64.wrap ((e : Int) - 1) = (r : Int) := by rw [IntKind.wrap_i64]; omega
  have hwr' : (e : Int) - 1 = (r : Int) := by omega
  clear hr
  have hsz : (((w.alloc (.cells #[.int .i64 (a : Int), .int .i64 (e : Int)] 123)).alloc (.cells #[.int .i64 0, .int .i64 0] 123)).alloc (.cells #[.int .i64 0, .int .i64 0] 123)).heap.size = w.heap.size + 3 := by simp
  have HB0 : Hid (Below w.heap.size w (((w.alloc (.cells #[.int .i64 (a : Int), .int .i64 (e : Int)] 123)).alloc (.cells #[.int .i64 0, .int .i64 0] 123)).alloc (.cells #[.int .i64 0, .int .i64 0] 123))) := (((Below.refl _ _).alloc (Nat.le_refl _) _).alloc (by simp) _).alloc (by simp; omega) _
  have R1 : Hid (Bx (((w.alloc (.cells #[.int .i64 (a : Int), .int .i64 (e : Int)] 123)).alloc (.cells #[.int .i64 0, .int .i64 0] 123)).alloc (.cells #[.int .i64 0, .int .i64 0] 123)) (w.heap.size + 1) (.int .i64 0) (.int .i64 0)) := by
    have := (Bx.new (w.alloc (.cells #[.int .i64 (a : Int), .int .i64 (e : Int)] 123)) (.int .i64 0) (.int .i64 0)).stay ((Below.refl _ _).alloc (Nat.le_refl _) (.cells #[.int .i64 0, .int .i64 0] 123))
    rw [show (w.alloc (.cells #[.int .i64 (a : Int), .int .i64 (e : Int)] 123)).heap.size = w.heap.size + 1 by simp] at this
    exact this
  have R2 : Hid (Bx (((w.alloc (.cells #[.int .i64 (a : Int), .int .i64 (e : Int)] 123)).alloc (.cells #[.int .i64 0, .int .i64 0] 123)).alloc (.cells #[.int .i64 0, .int .i64 0] 123)) (w.heap.size + 1 + 1) (.int .i64 0) (.int .i64 0)) := by
    have := Bx.new ((w.alloc (.cells #[.int .i64 (a : Int), .int .i64 (e : Int)] 123)).alloc (.cells #[.int .i64 0, .int .i64 0] 123)) (.int .i64 0) (.int .i64 0)
    rw [show ((w.alloc (.cells #[.int .i64 (a : Int), .int .i64 (e : Int)] 123)).alloc (.cells #[.int .i64 0, .int .i64 0] 123)).heap.size = w.heap.size + 1 + 1 by simp] at this
    exact this
  go_enter Tryz.func126, Tryz.ntmps126
  go_wp2_with fail
  generalize ((w.alloc (.cells #[.int .i64 (a : Int), .int .i64 (e : Int)] 123)).alloc (.cells #[.int .i64 0, .int .i64 0] 123)).alloc (.cells #[.int .i64 0, .int .i64 0] 123) = w0 at hsz HB0 R1 R2 ⊢
  refine (pairT (HF.out.stay HB0.out) HX.out HY.out).mono ?_
  rintro en w1 ⟨rfl, hb1⟩
  have hs1 := hb1.size
  have HB1 : Below w.heap.size w w1 := HB0.out.trans (hb1.mono (by omega))
  have S1 := R1.out.stay hb1
  have S2 := R2.out.stay hb1
  obtain ⟨c0, c1, f0⟩ := S1.cells
  obtain ⟨d0, d1, f1⟩ := S2.cells
  have HE : Hid (Below w.heap.size w ((((w1.setCell ⟨w.heap.size + 1, 0, none⟩ (.int .i64 (p : Int))).setCell ⟨w.heap.size + 1, 1, none⟩ (.int .i64 (q : Int))).setCell ⟨w.heap.size + 1 + 1, 0, none⟩ (.int .i64 (q : Int))).setCell ⟨w.heap.size + 1 + 1, 1, none⟩ (.int .i64 (r : Int)))) :=
    below_put (below_put HB1 (by omega) _ _) (by omega) _ _
  have U0 : Hid (Bx ((((w1.setCell ⟨w.heap.size + 1, 0, none⟩ (.int .i64 (p : Int))).setCell ⟨w.heap.size + 1, 1, none⟩ (.int .i64 (q : Int))).setCell ⟨w.heap.size + 1 + 1, 0, none⟩ (.int .i64 (q : Int))).setCell ⟨w.heap.size + 1 + 1, 1, none⟩ (.int .i64 (r : Int))) (w.heap.size + 1) (.int .i64 (p : Int)) (.int .i64 (q : Int))) :=
    ((S1.put _ _).off (by omega)).off (by omega)
  have U1 : Hid (Bx ((((w1.setCell ⟨w.heap.size + 1, 0, none⟩ (.int .i64 (p : Int))).setCell ⟨w.heap.size + 1, 1, none⟩ (.int .i64 (q : Int))).setCell ⟨w.heap.size + 1 + 1, 0, none⟩ (.int .i64 (q : Int))).setCell ⟨w.heap.size + 1 + 1, 1, none⟩ (.int .i64 (r : Int))) (w.heap.size + 1 + 1) (.int .i64 (q : Int)) (.int .i64 (r : Int))) :=
    ((S2.off (by omega)).off (by omega)).put _ _
  have g1 := S1.lt
  have g2 := S2.lt
  clear hb1 S1 S2 HB1
  go_wp2_with fail
  exact bodyPost_ret (results_sp2 rfl rfl rfl U0.out U1.out) rfl ⟨rfl, HE.out⟩

set_option maxHeartbeats 4000000 in
set_option maxRecDepth 100000 in
theorem lastT {base : Nat} {w : World} {B : Nat} {N : List Nd} {Z : List Nat} {F : Fb} (h : FS base w B N Z F) {p q e : Nat} {x y : Tr} (hx : At N Z p q x) (hy : At N Z q e y) (he : e = N.length) :
    Calls Tryz.prog 87 #[.pointer (some ⟨B, 0, none⟩)] w fun en w' => en = .returned (.tuple #[.agg #[.int .i64 (p : Int), .int .i64 (q : Int)], .agg #[.int .i64 (q : Int), .int .i64 (e : Int)]]) ∧ Below w.heap.size w w' := by
  have hlt := h.lt
  have HF : Hid (FS base w B N Z F) := h
  have HX : Hid (At N Z p q x) := hx
  have HY : Hid (At N Z q e y) := hy
  obtain ⟨b0, _⟩ := h.cells
  rw [← he] at b0
  clear h hx hy he
  have hsz : ((w.alloc (.cells #[.int .i64 0, .int .i64 0] 123)).alloc (.cells #[.int .i64 0, .int .i64 0] 123)).heap.size = w.heap.size + 2 := by simp
  have HB0 : Hid (Below w.heap.size w ((w.alloc (.cells #[.int .i64 0, .int .i64 0] 123)).alloc (.cells #[.int .i64 0, .int .i64 0] 123))) := ((Below.refl _ _).alloc (Nat.le_refl _) _).alloc (by simp) _
  have R0 : Hid (Bx ((w.alloc (.cells #[.int .i64 0, .int .i64 0] 123)).alloc (.cells #[.int .i64 0, .int .i64 0] 123)) w.heap.size (.int .i64 0) (.int .i64 0)) := (Bx.new w _ _).stay ((Below.refl _ _).alloc (Nat.le_refl _) _)
  have R1 : Hid (Bx ((w.alloc (.cells #[.int .i64 0, .int .i64 0] 123)).alloc (.cells #[.int .i64 0, .int .i64 0] 123)) (w.heap.size + 1) (.int .i64 0) (.int .i64 0)) := by
    have := Bx.new (w.alloc (.cells #[.int .i64 0, .int .i64 0] 123)) (.int .i64 0) (.int .i64 0)
    rw [show (w.alloc (.cells #[.int .i64 0, .int .i64 0] 123)).heap.size = w.heap.size + 1 by simp] at this
    exact this
  go_enter Tryz.func87, Tryz.ntmps87
  go_wp2_with fail
  generalize (w.alloc (.cells #[.int .i64 0, .int .i64 0] 123)).alloc (.cells #[.int .i64 0, .int .i64 0] 123) = w0 at hsz HB0 R0 R1 ⊢
  refine (pairT (HF.out.stay HB0.out) HX.out HY.out).mono ?_
  rintro en w1 ⟨rfl, hb1⟩
  have hs1 := hb1.size
  have HB1 : Below w.heap.size w w1 := HB0.out.trans (hb1.mono (by omega))
  have S1 := R0.out.stay hb1
  have S2 := R1.out.stay hb1
  obtain ⟨c0, c1, f0⟩ := S1.cells
  obtain ⟨d0, d1, f1⟩ := S2.cells
  have HE : Hid (Below w.heap.size w ((((w1.setCell ⟨w.heap.size, 0, none⟩ (.int .i64 (p : Int))).setCell ⟨w.heap.size, 1, none⟩ (.int .i64 (q : Int))).setCell ⟨w.heap.size + 1, 0, none⟩ (.int .i64 (q : Int))).setCell ⟨w.heap.size + 1, 1, none⟩ (.int .i64 (e : Int)))) :=
    below_put (below_put HB1 (by omega) _ _) (by omega) _ _
  have U0 : Hid (Bx ((((w1.setCell ⟨w.heap.size, 0, none⟩ (.int .i64 (p : Int))).setCell ⟨w.heap.size, 1, none⟩ (.int .i64 (q : Int))).setCell ⟨w.heap.size + 1, 0, none⟩ (.int .i64 (q : Int))).setCell ⟨w.heap.size + 1, 1, none⟩ (.int .i64 (e : Int))) w.heap.size (.int .i64 (p : Int)) (.int .i64 (q : Int))) :=
    ((S1.put _ _).off (by omega)).off (by omega)
  have U1 : Hid (Bx ((((w1.setCell ⟨w.heap.size, 0, none⟩ (.int .i64 (p : Int))).setCell ⟨w.heap.size, 1, none⟩ (.int .i64 (q : Int))).setCell ⟨w.heap.size + 1, 0, none⟩ (.int .i64 (q : Int))).setCell ⟨w.heap.size + 1, 1, none⟩ (.int .i64 (e : Int))) (w.heap.size + 1) (.int .i64 (q : Int)) (.int .i64 (e : Int))) :=
    ((S2.off (by omega)).off (by omega)).put _ _
  have g1 := S1.lt
  have g2 := S2.lt
  clear hb1 S1 S2 HB1
  go_wp2_with fail
  exact bodyPost_ret (results_sp2 rfl rfl rfl U0.out U1.out) rfl ⟨rfl, HE.out⟩
end Go.Proofs.YtdgpajdlomihaaaGreatDoor
