/- terms' reader in memory; strings.IndexByte; put. -/
import Derived.Test.YthhlamehbcidgaaY1
import Derived.Lib.Bytealg
import Derived.Laws.Externs
namespace Go.Proofs.Ythhlamehbcidgaa
open Go Go.RowKit Go.Lib
set_option linter.unusedVariables false

set_option maxHeartbeats 1000000 in
set_option maxRecDepth 100000 in
theorem slIndexByte_any (s : ByteArray) (c : Int) (w : World) : Calls Try.prog 122 #[.string s, .int .u8 c] w fun e w' => e = .returned (.int .i64 (Lib.indexByte s.data.toList c.toNat.toUInt8)) ∧ w = w' := by
  have hd : (callFunc 132 #[.string s, .int .u8 c]).run Try.prog w = .ok (.value (.int .i64 (Lib.indexByte s.data.toList c.toNat.toUInt8))) w := by
    rw [run_callFunc_extern Try.func132 (by kernel_rfl) (by kernel_rfl) (by kernel_rfl) (e := Extern.BytealgIndexByte.indexByte) (by kernel_rfl), Lib.run_indexByteString]
    rfl
  go_enter Try.func122, Try.ntmps122
  go_wp2_with fail
  go_ret
  exact ⟨rfl, rfl⟩
set_option maxHeartbeats 1000000 in
set_option maxRecDepth 100000 in
theorem indexByte_any (s : ByteArray) (c : Int) (w : World) : Calls Try.prog 100 #[.string s, .int .u8 c] w fun e w' => e = .returned (.int .i64 (Lib.indexByte s.data.toList c.toNat.toUInt8)) ∧ w = w' := by
  go_enter Try.func100, Try.ntmps100
  go_wp2_with (go_at_call 122; refine (slIndexByte_any _ _ _).mono ?_; rintro e w1 ⟨rfl, rfl⟩)
  go_ret
  exact ⟨rfl, rfl⟩

/-- Signs, cell by cell. -/
def sgC (L : List (Nat × Nat)) : List Value := L.flatMap fun p => [.int .i64 (p.1 : Nat), .int .u8 (p.2 : Nat)]
theorem sgC_len : ∀ L : List (Nat × Nat), (sgC L).length = L.length * 2
  | [] => rfl
  | a :: L => by
    have := sgC_len L
    unfold sgC at this ⊢
    rw [List.flatMap_cons, List.length_append, this, List.length_cons]
    simp
    omega
theorem sgC_snoc (L : List (Nat × Nat)) (p : Nat × Nat) : sgC (L ++ [p]) = sgC L ++ [.int .i64 (p.1 : Nat), .int .u8 (p.2 : Nat)] := by simp [sgC]
/-- A reader in memory: its text, its place, the signs so far. -/
structure RD (base : Nat) (w : World) (rb : Nat) (s : ByteArray) (i : Nat) (v : Value) (L : List (Nat × Nat)) : Prop where
  box : w.heap[rb]? = some (.cells #[.string s, .int .i64 (i : Nat), v] 72 (0, 0))
  row : w.ownsRow base 81 2 v L.length (sgC L)
  lob : base ≤ rb
  le : i ≤ s.size
/-- The reader's blocks. -/
def RS (rb : Nat) (v : Value) (j : Nat) : Prop := j = rb ∨ v.ownBlock = some j
theorem RD.lt {base : Nat} {w : World} {rb : Nat} {s : ByteArray} {i : Nat} {v : Value} {L : List (Nat × Nat)} (h : RD base w rb s i v L) : rb < w.heap.size := (Array.getElem?_eq_some_iff.1 h.box).1
theorem RD.below {base : Nat} {w w' : World} {rb : Nat} {s : ByteArray} {i : Nat} {v : Value} {L : List (Nat × Nat)} (h : RD base w rb s i v L) (hb : Below w.heap.size w w') : RD base w' rb s i v L :=
  ⟨(hb.block _ h.lt).trans h.box, own_below h.row hb, h.lob, h.le⟩
theorem RD.own_ne {base : Nat} {w : World} {rb : Nat} {s : ByteArray} {i : Nat} {v : Value} {L : List (Nat × Nat)} (h : RD base w rb s i v L) : v.ownBlock ≠ some rb := fun e => by
  obtain ⟨_, cur, hc⟩ := own_blk h.row e
  rw [h.box] at hc
  injection hc with hc
  injection hc with _ hc _
  exact absurd hc (by decide)
theorem RD.move {base : Nat} {w : World} {rb : Nat} {s : ByteArray} {i : Nat} {v : Value} {L : List (Nat × Nat)} (h : RD base w rb s i v L) {j : Nat} (hj : j ≤ s.size) : RD base (w.setCell ⟨rb, 1, none⟩ (.int .i64 (j : Nat))) rb s j v L :=
  ⟨heap_set h.box, own_keep h.row (fun b cur hb hc => heap_set_other (fun e => h.own_ne (e ▸ hb))), h.lob, hj⟩
theorem RD.only_set {base : Nat} {w : World} {rb : Nat} {s : ByteArray} {i : Nat} {v : Value} {L : List (Nat × Nat)} (h : RD base w rb s i v L) (x : Value) (o : Nat) : Only (RS rb v) w (w.setCell ⟨rb, o, none⟩ x) :=
  (Only.of (Below.refl _ _)).set (.inl rfl)

/-- Is the byte at the place one of these? -/
def seesB (s : ByteArray) (g : ByteArray) (i : Nat) : Bool := match s.data.toList[i]? with
  | some c => decide (0 ≤ Lib.indexByte g.data.toList c)
  | none => false
theorem seesB_lt {s g : ByteArray} {i : Nat} (h : i < s.size) : seesB s g i = decide (0 ≤ Lib.indexByte g.data.toList s[i]) := by
  have h' : i < s.data.toList.length := by simpa using h
  unfold seesB
  rw [List.getElem?_eq_getElem h']
  rfl
theorem seesB_end {s g : ByteArray} {i : Nat} (h : ¬ i < s.size) : seesB s g i = false := by
  have h' : ¬ i < s.data.toList.length := by simpa using h
  unfold seesB
  rw [List.getElem?_eq_none (by omega)]

/-- What put leaves. -/
def PutQ (base rb : Nat) (s : ByteArray) (i : Nat) (v : Value) (L : List (Nat × Nat)) (w : World) (e : Ending) (w' : World) : Prop :=
  e = .returned (.tuple #[]) ∧ ∃ v', RD base w' rb s i v' L ∧ Only (RS rb v) w w' ∧ (v'.ownBlock = v.ownBlock ∨ ∃ x, v'.ownBlock = some x ∧ w.heap.size ≤ x)
theorem Try.info_sign : (Try.prog.info? 81).map (fun i => (i.zero, i.size, i.bytes)) = some (some (.agg #[.int .i64 0, .int .u8 0]), 2, 16) := by kernel_rfl

set_option maxHeartbeats 2000000 in
set_option maxRecDepth 100000 in
theorem put_any {base : Nat} {w : World} {rb : Nat} {s : ByteArray} {i : Nat} {v : Value} {L : List (Nat × Nat)} (h : RD base w rb s i v L) (k c : Nat) (hL : L.length ≤ 1000000) :
    Calls Try.prog 121 #[.pointer (some ⟨rb, 0, none⟩), .int .i64 (k : Nat), .int .u8 (c : Nat)] w (PutQ base rb s i v (L ++ [(k, c)]) w) := by
  obtain ⟨a, cap, rfl⟩ := own_shape h.row
  obtain ⟨i0, hi, hz0, hz1, hz2⟩ := info_parts Try.info_sign
  have HR : Hid (∀ O, (w.alloc O).ownsRow base 81 2 (.slice a L.length cap) L.length (sgC L)) := fun O => h.row.alloc O
  have H : Hid (RD base w rb s i (.slice a L.length cap) L) := h
  have t2 : w.cell? ⟨rb, 2, none⟩ = some (.slice a L.length cap) := cell_at h.box rfl
  have KN : Hid (∀ (j : Nat) (u : Value), [Value.int .i64 (k : Nat), .int .u8 (c : Nat)][j]? = some u → (w.alloc (.cells #[.int .i64 (k : Nat), .int .u8 (c : Nat)] 81)).cell? ((⟨w.heap.size, 0, none⟩ : Addr).add j) = some u) := fun j u hu => by
    have hadd : (⟨w.heap.size, 0, none⟩ : Addr).add j = ⟨w.heap.size, j, none⟩ := by unfold Addr.add; split <;> simp_all
    rw [hadd]
    refine cell_at (heap_last w _) ?_
    simpa using hu
  have hb5 : base ≤ w.heap.size := by have h1 := h.lob; have h2 := h.lt; omega
  have hlt := h.lt
  have HNW : Hid (∀ (g7 c7 : Nat) (w7 : World) (o : Obj), w7.ownsRow base 81 2 (.slice (some ⟨g7, 0, none⟩) (L.length + 1) c7) (L.length + 1) (sgC L ++ [Value.int .i64 (k : Nat), .int .u8 (c : Nat)]) → (w.alloc o).grownBy w7 (Value.slice a L.length cap).ownBlock → ((Value.slice a L.length cap).ownBlock = some g7 ∨ g7 = (w.alloc o).heap.size) →
      w7.heap[rb]? = some (.cells #[.string s, .int .i64 (i : Nat), .slice a L.length cap] 72 (0, 0)) ∧ PutQ base rb s i (.slice a L.length cap) (L ++ [(k, c)]) w (.returned (.tuple #[])) (w7.setCell ⟨rb, 2, none⟩ (.slice (some ⟨g7, 0, none⟩) (L.length + 1) c7))) := fun g7 c7 w7 o ho hg hg7 => by
    have kk : ∀ j, j < w.heap.size → (Value.slice a L.length cap).ownBlock ≠ some j → w7.heap[j]? = w.heap[j]? := fun j hj h2 => by
      rw [hg.block j (by simp; omega) (fun e => h2 e.symm), (below_new w o).block j hj]
    have box7 := (kk rb H.out.lt H.out.own_ne).trans H.out.box
    refine ⟨box7, rfl, _, ⟨heap_set box7, ?_, H.out.lob, H.out.le⟩, ⟨?_, ?_⟩, ?_⟩
    · rw [sgC_snoc, List.length_append]
      refine own_keep ho (fun j cur hj hc => heap_set_other (fun e => ?_))
      rw [e, box7] at hc
      injection hc with hc
      injection hc with _ hc _
      exact absurd hc (by decide)
    · exact (((Below.refl 0 w).alloc (Nat.zero_le _) o).grown hg (by omega) (fun _ _ => Nat.zero_le _)).setCell (p := ⟨rb, 2, none⟩) (Nat.zero_le _) _
    · intro j hj hS
      unfold RS at hS
      rw [heap_set_other (fun e => hS (.inl e))]
      exact kk j hj (fun e => hS (.inr e))
    · rcases hg7 with q | q
      · exact .inl q.symm
      · exact .inr ⟨g7, rfl, by rw [q]; simp⟩
  clear h
  go_enter Try.func121, Try.ntmps121
  go_wp2_with (at_builtin; refine wpList_append_lies _ rfl _ _ 22 rfl base 81 i0 (.agg #[.int .i64 0, .int .u8 0]) 2 16 Try.underlying22 hi hz0 hz1 hz2 rfl (by decide) _ _ _ rfl (HR.out _) ⟨w.heap.size, 0, none⟩ 1 1 [.int .i64 (k : Nat), .int .u8 (c : Nat)] rfl rfl KN.out (by intro u hu; simp at hu; rcases hu with rfl | rfl <;> rfl) (by decide) (by unfold maxLen; omega) (by omega) (by simp; omega) (w.alloc (.cells #[.int .i64 (k : Nat), .int .u8 (c : Nat)] 81)).heap.size rfl ?_; intro g7 c7 w7 ho7 hg7 hl7 _; obtain ⟨hbx, hpq⟩ := HNW.out g7 c7 w7 _ ho7 hg7 hl7; have hcs : w7.cell? ⟨rb, 2, none⟩ = some (.slice a L.length cap) := cell_at hbx rfl; have hfz : w7.frozen? ⟨rb, 2, none⟩ = false := froz_of hbx; have HPQ : Hid _ := hpq; clear hpq hbx ho7 hg7 hl7)
  first
    | go_end0
    | skip
  exact ⟨rfl, HPQ.out.2⟩
end Go.Proofs.Ythhlamehbcidgaa
