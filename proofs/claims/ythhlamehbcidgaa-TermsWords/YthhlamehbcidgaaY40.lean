/- The document's text of a side. -/
import Derived.Test.YthhlamehbcidgaaY39
import Derived.Laws.IdiomStrings
namespace Go.Proofs.Ythhlamehbcidgaa
open Go Go.RowKit Go.Lib
set_option linter.unusedVariables false

theorem Tm.pc_size : ∀ t : Tm, t.pc.1.size ≤ 5 * t.sg.length
  | .one => by decide
  | .var c => by show 1 ≤ 5 * 1; decide
  | .om t => by
    have h1 := t.pc_size
    have h2 := brP_size t.pc
    have h3 : bOm.size = 2 := rfl
    rw [om_len]
    show (brP t.pc ++ bOm).size ≤ _
    rw [ByteArray.size_append]
    omega
  | .mul a b => by
    have h1 := a.pc_size
    have h2 := b.pc_size
    have h3 := brP_size b.pc
    rw [mul_len]
    show (a.pc.1 ++ brP b.pc).size ≤ _
    rw [ByteArray.size_append]
    omega
def TxC (t : Tm) : Prop := ∀ (v : Value) (w : World), TmC w v t → Calls Try.prog 36 #[v] w fun e w' => e = .returned (.string t.pc.1) ∧ Below w.heap.size w w'
theorem ba_assoc (a b c : ByteArray) : (a ++ b) ++ c = a ++ (b ++ c) := ByteArray.append_assoc
theorem om_pc3 (t : Tm) (h : t.root.1 = 3) : (Tm.om t).pc.1 = (⟨#[40]⟩ ++ t.pc.1) ++ ⟨#[41, 94, 119]⟩ := by
  show brP t.pc ++ bOm = _
  unfold brP
  rw [if_pos (by rw [Tm.pc_kind]; exact h), ba_assoc]
  rfl
theorem om_pc (t : Tm) (h : t.root.1 ≠ 3) : (Tm.om t).pc.1 = t.pc.1 ++ ⟨#[94, 119]⟩ := by
  show brP t.pc ++ bOm = _
  unfold brP
  rw [if_neg (by rw [Tm.pc_kind]; exact h)]
  rfl
theorem mul_pc3 (a b : Tm) (h : b.root.1 = 3) : (Tm.mul a b).pc.1 = ((a.pc.1 ++ ⟨#[40]⟩) ++ b.pc.1) ++ ⟨#[41]⟩ := by
  show a.pc.1 ++ brP b.pc = _
  unfold brP
  rw [if_pos (by rw [Tm.pc_kind]; exact h), ba_assoc, ba_assoc, ba_assoc]
  rfl
theorem mul_pc (a b : Tm) (h : b.root.1 ≠ 3) : (Tm.mul a b).pc.1 = a.pc.1 ++ b.pc.1 := by
  show a.pc.1 ++ brP b.pc = _
  unfold brP
  rw [if_neg (by rw [Tm.pc_kind]; exact h)]
theorem cat_ok {X L : ByteArray} (h : X.size + L.size ≤ 100000) (z : World) : (Op.stringOp .add X L).run Try.prog z = .ok (.string (X ++ L)) z :=
  run_cat (by have hmx : IntKind.i64.max = 9223372036854775807 := by decide
              omega) z

set_option maxHeartbeats 8000000 in
set_option maxRecDepth 100000 in
theorem text_any : ∀ t : Tm, t.sg.length ≤ 400 → TxC t
  | .one, hL => by
    intro v w h
    have HT : Hid (TmC w v (Tm.one)) := h
    obtain ⟨g, o, cap, rfl, hc, hg, c1, c2, c3⟩ := h.root
    rw [show (Tm.one).root = (1, 0) from rfl] at c1 c2 c3
    have hp := (Tm.one).sg_pos
    obtain ⟨w1, hw1⟩ : ∃ w1, w1 = w.alloc (.cells #[.int .i64 1, .int .u8 0] 81) := ⟨_, rfl⟩
    have HW1 : Hid (w1 = w.alloc (.cells #[.int .i64 1, .int .u8 0] 81)) := hw1
    have hb1 : Below w.heap.size w w1 := by rw [hw1]; exact below_new _ _
    have HX1 : Hid (w1.heap[w.heap.size]? = some (.cells #[.int .i64 1, .int .u8 0] 81 (0, 0))) := by show _ = _; rw [hw1]; exact heap_last _ _
    have HXL : Hid (w.heap.size < w1.heap.size) := (Array.getElem?_eq_some_iff.1 HX1.out).1
    have HB1 : Hid (Below w.heap.size w w1) := hb1
    have HCUT : Hid (Calls Try.prog 76 #[.slice (some ⟨g, o, none⟩) (Tm.one).sg.length cap] w1 fun e w' => e = .returned (.slice none 0 0) ∧ Below w1.heap.size w1 w') := cut_leaf .one rfl _ w1 (HT.out.below hb1) hL
    obtain ⟨n, hn⟩ : ∃ n, (Tm.one).sg.length = n := ⟨_, rfl⟩
    rw [hn] at c1 c2 HCUT hp hL ⊢
    have hw : IntKind.i64.wrap ((n : Int) - 1) = ((n - 1 : Nat) : Int) := by rw [IntKind.wrap_i64]; omega
    have hlt : ((n - 1 : Nat) : Int) < n := by omega
    have hrt : (Tm.one).root = (1, 0) := rfl
    clear h hn c3 hw1 hb1 hrt
    go_enter Try.func36, Try.ntmps36
    go_upto_region 2 with fail
    rw [← HW1.out]
    go_wp2_with fail
    clear c1 c2
    refine Calls.mono HCUT.out ?_
    rintro e w2 ⟨rfl, hb2⟩
    have x0 : w2.cell? ⟨w.heap.size, 0, none⟩ = some (.int .i64 1) := cell_at ((hb2.block _ HXL.out).trans HX1.out) rfl
    have HB2 : Hid (Below w.heap.size w w2) := go_on HB1.out hb2
    clear hb2
    go_wp2_with fail
    go_ret
    exact ⟨rfl, HB2.out⟩
  | .var c, hL => by
    intro v w h
    have HT : Hid (TmC w v (Tm.var c)) := h
    obtain ⟨g, o, cap, rfl, hc, hg, c1, c2, c3⟩ := h.root
    rw [show (Tm.var c).root = (2, c) from rfl] at c1 c2 c3
    have hp := (Tm.var c).sg_pos
    obtain ⟨w1, hw1⟩ : ∃ w1, w1 = w.alloc (.cells #[.int .i64 2, .int .u8 (c : Nat)] 81) := ⟨_, rfl⟩
    have HW1 : Hid (w1 = w.alloc (.cells #[.int .i64 2, .int .u8 (c : Nat)] 81)) := hw1
    have hb1 : Below w.heap.size w w1 := by rw [hw1]; exact below_new _ _
    have HX1 : Hid (w1.heap[w.heap.size]? = some (.cells #[.int .i64 2, .int .u8 (c : Nat)] 81 (0, 0))) := by show _ = _; rw [hw1]; exact heap_last _ _
    have HXL : Hid (w.heap.size < w1.heap.size) := (Array.getElem?_eq_some_iff.1 HX1.out).1
    have HB1 : Hid (Below w.heap.size w w1) := hb1
    have HCUT : Hid (Calls Try.prog 76 #[.slice (some ⟨g, o, none⟩) (Tm.var c).sg.length cap] w1 fun e w' => e = .returned (.slice none 0 0) ∧ Below w1.heap.size w1 w') := cut_leaf (.var c) rfl _ w1 (HT.out.below hb1) hL
    obtain ⟨n, hn⟩ : ∃ n, (Tm.var c).sg.length = n := ⟨_, rfl⟩
    rw [hn] at c1 c2 HCUT hp hL ⊢
    have hw : IntKind.i64.wrap ((n : Int) - 1) = ((n - 1 : Nat) : Int) := by rw [IntKind.wrap_i64]; omega
    have hlt : ((n - 1 : Nat) : Int) < n := by omega
    have hrt : (Tm.var c).root = (2, c) := rfl
    have HC3 : Hid (c < 256) := c3
    clear h hn c3 hw1 hb1 hrt
    go_enter Try.func36, Try.ntmps36
    go_upto_region 2 with fail
    rw [← HW1.out]
    go_wp2_with fail
    clear c1 c2
    refine Calls.mono HCUT.out ?_
    rintro e w2 ⟨rfl, hb2⟩
    have x0 : w2.cell? ⟨w.heap.size, 0, none⟩ = some (.int .i64 2) := cell_at ((hb2.block _ HXL.out).trans HX1.out) rfl
    have x1 : w2.cell? ⟨w.heap.size, 1, none⟩ = some (.int .u8 (c : Nat)) := cell_at ((hb2.block _ HXL.out).trans HX1.out) rfl
    have HB2 : Hid (Below w.heap.size w w2) := go_on HB1.out hb2
    have HB3 : Hid (Below w.heap.size w (w2.alloc (.cells #[.int .u8 (c : Nat)] 5))) := go_on HB2.out (below_new _ _)
    have hconv : Sem.run Try.prog (convert 106 9 (.slice (some ⟨w2.heap.size, 0, none⟩) 1 1)) (w2.alloc (.cells #[.int .u8 (c : Nat)] 5)) = .ok (.string ⟨#[UInt8.ofNat c]⟩) (w2.alloc (.cells #[.int .u8 (c : Nat)] 5)) :=
      run_convert_bytes_back (P := Try.prog) (w2.alloc (.cells #[.int .u8 (c : Nat)] 5)) 106 9 5 ⟨w2.heap.size, 0, none⟩ 1 [UInt8.ofNat c] Try.underlying106 Try.underlying5 Try.underlying9 (fun j hj => by
        have hj0 : j = 0 := by simpa using hj
        subst hj0
        have hadd : (⟨w2.heap.size, 0, none⟩ : Addr).add 0 = ⟨w2.heap.size, 0, none⟩ := by unfold Addr.add; simp
        rw [hadd, cell_of_row _ _ _ _ _ _ (heap_last w2 _)]
        simp [UInt8.toNat_ofNat', Nat.mod_eq_of_lt HC3.out])
    clear hb2
    go_wp2_with fail
    go_ret
    exact ⟨rfl, HB3.out⟩
  | .om t, hL => by
    have hlt0 : t.sg.length ≤ 400 := by rw [om_len] at hL; omega
    have IH : Hid (TxC t) := text_any t hlt0
    have hsz := t.pc_size
    intro v w h
    have HT : Hid (TmC w v (Tm.om t)) := h
    obtain ⟨g, o, cap, rfl, hc, hg, c1, c2, c3⟩ := h.root
    rw [show (Tm.om t).root = (4, 0) from rfl] at c1 c2 c3
    have hp := (Tm.om t).sg_pos
    obtain ⟨w1, hw1⟩ : ∃ w1, w1 = w.alloc (.cells #[.int .i64 4, .int .u8 0] 81) := ⟨_, rfl⟩
    have HW1 : Hid (w1 = w.alloc (.cells #[.int .i64 4, .int .u8 0] 81)) := hw1
    have hb1 : Below w.heap.size w w1 := by rw [hw1]; exact below_new _ _
    have HX1 : Hid (w1.heap[w.heap.size]? = some (.cells #[.int .i64 4, .int .u8 0] 81 (0, 0))) := by show _ = _; rw [hw1]; exact heap_last _ _
    have HXL : Hid (w.heap.size < w1.heap.size) := (Array.getElem?_eq_some_iff.1 HX1.out).1
    have HB1 : Hid (Below w.heap.size w w1) := hb1
    have HCUT : Hid (Calls Try.prog 76 #[.slice (some ⟨g, o, none⟩) (Tm.om t).sg.length cap] w1 fun e w' => ∃ v1, e = .returned (.slice (some ⟨w1.heap.size, 0, none⟩) 1 1) ∧ w'.heap[w1.heap.size]? = some (.cells #[v1] 22 (0, 0)) ∧ TmC w' v1 t ∧ Below w1.heap.size w1 w') := cut_om t _ w1 (HT.out.below hb1) hL
    obtain ⟨n, hn⟩ : ∃ n, (Tm.om t).sg.length = n := ⟨_, rfl⟩
    rw [hn] at c1 c2 HCUT hp hL ⊢
    have hw : IntKind.i64.wrap ((n : Int) - 1) = ((n - 1 : Nat) : Int) := by rw [IntKind.wrap_i64]; omega
    have hlt : ((n - 1 : Nat) : Int) < n := by omega
    have hrt : (Tm.om t).root = (4, 0) := rfl
    clear h hn c3 hw1 hb1 hrt
    go_enter Try.func36, Try.ntmps36
    go_upto_region 2 with fail
    rw [← HW1.out]
    go_wp2_with fail
    clear c1 c2
    refine Calls.mono HCUT.out ?_
    rintro e w2 ⟨v1, rfl, hp2, ht2, hb2⟩
    have HTX : Hid (Calls Try.prog 36 #[v1] w2 fun e w' => e = .returned (.string t.pc.1) ∧ Below w2.heap.size w2 w') := IH.out v1 w2 ht2
    have HTXd : Hid (∀ q, Calls Try.prog 36 #[v1] (w2.drewN q) fun e w' => e = .returned (.string t.pc.1) ∧ Below w2.heap.size w2 w') := fun q => by
      have hb : Below w2.heap.size w2 (w2.drewN q) := ⟨(Below.refl _ _ : Below w2.heap.size w2 w2).os, (Below.refl _ _ : Below w2.heap.size w2 w2).tape, (Below.refl _ _ : Below w2.heap.size w2 w2).output, (Below.refl _ _ : Below w2.heap.size w2 w2).size, (Below.refl _ _ : Below w2.heap.size w2 w2).block⟩
      exact (IH.out v1 _ (ht2.below hb)).mono fun e w' h => ⟨h.1, go_on hb h.2⟩
    obtain ⟨g1, o1, cap1, rfl, hc1, hg1, r1, -, -⟩ := ht2.root
    have hp1 := t.sg_pos
    have x0 : w2.cell? ⟨w.heap.size, 0, none⟩ = some (.int .i64 4) := cell_at ((hb2.block _ HXL.out).trans HX1.out) rfl
    have p0 : w2.cell? ⟨w1.heap.size, 0, none⟩ = some (.slice (some ⟨g1, o1, none⟩) t.sg.length cap1) := cell_at hp2 rfl
    have HB2 : Hid (Below w.heap.size w w2) := go_on HB1.out hb2
    obtain ⟨m, hm⟩ : ∃ m, t.sg.length = m := ⟨_, rfl⟩
    rw [hm] at hp1 r1 p0 hsz hlt0 HTX HTXd
    have hwm : IntKind.i64.wrap ((m : Int) - 1) = ((m - 1 : Nat) : Int) := by rw [IntKind.wrap_i64]; omega
    have hltm : ((m - 1 : Nat) : Int) < m := by omega
    clear hb2 hp2 ht2 hm
    by_cases hk : t.root.1 = 3
    · have hq := om_pc3 t hk
      have HQ : Hid ((Tm.om t).pc.1 = (⟨#[40]⟩ ++ t.pc.1) ++ ⟨#[41, 94, 119]⟩) := hq
      rw [hk] at r1
      have hcat1 := cat_ok (X := ⟨#[40]⟩) (L := t.pc.1) (by show 1 + _ ≤ _; omega)
      have hcat2 := cat_ok (X := ⟨#[40]⟩ ++ t.pc.1) (L := ⟨#[41, 94, 119]⟩) (by rw [ByteArray.size_append]; show (1 + _) + 3 ≤ _; omega)
      clear hq hk
      go_upto_region 9 with fail
      go_quiet (fail)
      go_wp2_with fail
      refine Calls.mono (HTXd.out _) ?_
      rintro e w3 ⟨rfl, hb3⟩
      have HB3 : Hid (Below w.heap.size w w3) := go_on HB2.out hb3
      clear hb3 x0 p0 r1
      go_wp2_with fail
      go_ret
      exact ⟨by rw [HQ.out]; rfl, HB3.out⟩
    · have hq := om_pc t hk
      have HQ : Hid ((Tm.om t).pc.1 = t.pc.1 ++ ⟨#[94, 119]⟩) := hq
      obtain ⟨k, hkk⟩ : ∃ k, t.root.1 = k := ⟨_, rfl⟩
      rw [hkk] at r1 hk
      have hkI : ¬ (k : Int) = 3 := by omega
      have hkb : ((k : Int) == 3) = false := beq_eq_false_iff_ne.2 hkI
      have hcat1 := cat_ok (X := t.pc.1) (L := ⟨#[94, 119]⟩) (by show _ + 2 ≤ _; omega)
      clear hq hk
      go_upto_region 9 with fail
      go_quiet (fail)
      go_wp2_with fail
      refine Calls.mono (HTXd.out _) ?_
      rintro e w3 ⟨rfl, hb3⟩
      have HB3 : Hid (Below w.heap.size w w3) := go_on HB2.out hb3
      clear hb3 x0 p0 r1
      go_wp2_with fail
      go_ret
      exact ⟨by rw [HQ.out]; rfl, HB3.out⟩
  | .mul a b, hL => by
    have hla : a.sg.length ≤ 400 ∧ b.sg.length ≤ 400 ∧ a.sg.length + b.sg.length ≤ 400 := by rw [mul_len] at hL; omega
    have IHA : Hid (TxC a) := text_any a hla.1
    have IHB : Hid (TxC b) := text_any b hla.2.1
    have hsza := a.pc_size
    have hszb := b.pc_size
    intro v w h
    have HT : Hid (TmC w v (Tm.mul a b)) := h
    obtain ⟨g, o, cap, rfl, hc, hg, c1, c2, c3⟩ := h.root
    rw [show (Tm.mul a b).root = (3, 0) from rfl] at c1 c2 c3
    have hp := (Tm.mul a b).sg_pos
    obtain ⟨w1, hw1⟩ : ∃ w1, w1 = w.alloc (.cells #[.int .i64 3, .int .u8 0] 81) := ⟨_, rfl⟩
    have HW1 : Hid (w1 = w.alloc (.cells #[.int .i64 3, .int .u8 0] 81)) := hw1
    have hb1 : Below w.heap.size w w1 := by rw [hw1]; exact below_new _ _
    have HX1 : Hid (w1.heap[w.heap.size]? = some (.cells #[.int .i64 3, .int .u8 0] 81 (0, 0))) := by show _ = _; rw [hw1]; exact heap_last _ _
    have HXL : Hid (w.heap.size < w1.heap.size) := (Array.getElem?_eq_some_iff.1 HX1.out).1
    have HB1 : Hid (Below w.heap.size w w1) := hb1
    have HCUT : Hid (Calls Try.prog 76 #[.slice (some ⟨g, o, none⟩) (Tm.mul a b).sg.length cap] w1 fun e w' => ∃ v1 v2, e = .returned (.slice (some ⟨w1.heap.size, 0, none⟩) 2 2) ∧ w'.heap[w1.heap.size]? = some (.cells #[v1, v2] 22 (0, 0)) ∧ TmC w' v1 a ∧ TmC w' v2 b ∧ Below w1.heap.size w1 w') := cut_mul a b _ w1 (HT.out.below hb1) hL
    obtain ⟨n, hn⟩ : ∃ n, (Tm.mul a b).sg.length = n := ⟨_, rfl⟩
    rw [hn] at c1 c2 HCUT hp hL ⊢
    have hw : IntKind.i64.wrap ((n : Int) - 1) = ((n - 1 : Nat) : Int) := by rw [IntKind.wrap_i64]; omega
    have hlt : ((n - 1 : Nat) : Int) < n := by omega
    have hrt : (Tm.mul a b).root = (3, 0) := rfl
    clear h hn c3 hw1 hb1 hrt
    go_enter Try.func36, Try.ntmps36
    go_upto_region 2 with fail
    rw [← HW1.out]
    go_wp2_with fail
    clear c1 c2
    refine Calls.mono HCUT.out ?_
    rintro e w2 ⟨v1, v2, rfl, hp2, ha2, ht2, hb2⟩
    have HTA : Hid (∀ y, Below w2.heap.size w2 y → Calls Try.prog 36 #[v1] y fun e w' => e = .returned (.string a.pc.1) ∧ Below y.heap.size y w') := fun y hy => IHA.out v1 y (ha2.below hy)
    have HTB : Hid (∀ y, Below w2.heap.size w2 y → Calls Try.prog 36 #[v2] y fun e w' => e = .returned (.string b.pc.1) ∧ Below y.heap.size y w') := fun y hy => IHB.out v2 y (ht2.below hy)
    obtain ⟨g2, o2, cap2, rfl, hc2, hg2, r1, -, -⟩ := ht2.root
    obtain ⟨g1, o1, cap1, rfl, hc1, hg1, -, -, -⟩ := ha2.root
    have hp1 := b.sg_pos
    have x0 : w2.cell? ⟨w.heap.size, 0, none⟩ = some (.int .i64 3) := cell_at ((hb2.block _ HXL.out).trans HX1.out) rfl
    have p0 : w2.cell? ⟨w1.heap.size, 0, none⟩ = some (.slice (some ⟨g1, o1, none⟩) a.sg.length cap1) := cell_at hp2 rfl
    have p1 : w2.cell? ⟨w1.heap.size, 1, none⟩ = some (.slice (some ⟨g2, o2, none⟩) b.sg.length cap2) := cell_at hp2 rfl
    have HPP : Hid (∀ y, Below w2.heap.size w2 y → y.cell? ⟨w1.heap.size, 0, none⟩ = some (.slice (some ⟨g1, o1, none⟩) a.sg.length cap1) ∧ y.cell? ⟨w1.heap.size, 1, none⟩ = some (.slice (some ⟨g2, o2, none⟩) b.sg.length cap2)) := fun y hy => ⟨by rw [below_cell hy (Array.getElem?_eq_some_iff.1 hp2).1]; exact p0, by rw [below_cell hy (Array.getElem?_eq_some_iff.1 hp2).1]; exact p1⟩
    have HB2 : Hid (Below w.heap.size w w2) := go_on HB1.out hb2
    obtain ⟨m, hm⟩ : ∃ m, b.sg.length = m := ⟨_, rfl⟩
    rw [hm] at hp1 r1 p1 hszb hla HTB HPP
    have hwm : IntKind.i64.wrap ((m : Int) - 1) = ((m - 1 : Nat) : Int) := by rw [IntKind.wrap_i64]; omega
    have hltm : ((m - 1 : Nat) : Int) < m := by omega
    have HDR : Hid (∀ q, Below w2.heap.size w2 (w2.drewN q)) := fun q => ⟨(Below.refl _ _ : Below w2.heap.size w2 w2).os, (Below.refl _ _ : Below w2.heap.size w2 w2).tape, (Below.refl _ _ : Below w2.heap.size w2 w2).output, (Below.refl _ _ : Below w2.heap.size w2 w2).size, (Below.refl _ _ : Below w2.heap.size w2 w2).block⟩
    clear hb2 hp2 ht2 ha2 hm
    by_cases hk : b.root.1 = 3
    · have hq := mul_pc3 a b hk
      have HQ : Hid ((Tm.mul a b).pc.1 = ((a.pc.1 ++ ⟨#[40]⟩) ++ b.pc.1) ++ ⟨#[41]⟩) := hq
      rw [hk] at r1
      have hcat1 := cat_ok (X := a.pc.1) (L := ⟨#[40]⟩) (by show _ + 1 ≤ _; omega)
      have hcat2 := cat_ok (X := a.pc.1 ++ ⟨#[40]⟩) (L := b.pc.1) (by rw [ByteArray.size_append]; show (_ + 1) + _ ≤ _; omega)
      have hcat3 := cat_ok (X := (a.pc.1 ++ ⟨#[40]⟩) ++ b.pc.1) (L := ⟨#[41]⟩) (by rw [ByteArray.size_append, ByteArray.size_append]; show ((_ + 1) + _) + 1 ≤ _; omega)
      clear hq hk
      go_upto_region 12 with fail
      go_quiet (fail)
      go_upto_region 13 with fail
      refine wp_region_held_drew (S := fun y => Below w2.heap.size w2 y) (by kernel_rfl) (HDR.out _).drew (fun hH0 => ?_)
      generalize (World.drew _) = y0 at hH0 ⊢
      clear x0 p0 p1 r1
      refine wpAnyH_take (i := 0) (oi := { dst := some 60, op := Go.Op.move (Go.Operand.tmp 4), type := 114, pos := "ref.go:240", after := #[], guard := none }) (v := ?_) rfl (by kernel_rfl) (by kernel_rfl) (by kernel_rfl) (fun _ _ _ h => h) (Or.inl ⟨by rfl, ?_⟩) (by assumption) ?_
      rotate_left
      · intro w' hS; go_simp; (try with_reducible rfl)
      simp only [Act.put, List.setIfInBounds_toArray, List.set_cons_zero, List.set_cons_succ]
      refine wpAnyH_take (i := 1) (oi := { dst := some 61, op := Go.Op.indexAddr 114 (Go.Operand.tmp 60) (Go.Operand.const (Go.Value.int Go.IntKind.i64 0)), type := 0, pos := "ref.go:240", after := #[{ on := 0, ground := Go.Ground.data }], guard := none }) (v := ?_) rfl (by kernel_rfl) (by kernel_rfl) (by kernel_rfl) (fun _ _ _ h => h) (Or.inl ⟨by rfl, ?_⟩) (by assumption) ?_
      rotate_left
      · intro w' hS; go_simp; (try with_reducible rfl)
      simp only [Act.put, List.setIfInBounds_toArray, List.set_cons_zero, List.set_cons_succ]
      refine wpAnyH_take (i := 2) (oi := { dst := some 62, op := Go.Op.load 22 (Go.Operand.tmp 61), type := 22, pos := "ref.go:240", after := #[{ on := 1, ground := Go.Ground.data }], guard := none }) (v := .slice (some ⟨g1, o1, none⟩) a.sg.length cap1) rfl (by kernel_rfl) (by kernel_rfl) (by kernel_rfl) (fun _ _ _ h => h) (Or.inl ⟨by rfl, ?_⟩) (by assumption) ?_
      · intro w' hS; have hz := (HPP.out w' hS).1; go_simp
      simp only [Act.put, List.setIfInBounds_toArray, List.set_cons_zero, List.set_cons_succ]
      refine wpAnyH_take (i := 5) (oi := { dst := some 65, op := Go.Op.move (Go.Operand.tmp 4), type := 114, pos := "ref.go:240", after := #[], guard := none }) (v := ?_) rfl (by kernel_rfl) (by kernel_rfl) (by kernel_rfl) (fun _ _ _ h => h) (Or.inl ⟨by rfl, ?_⟩) (by assumption) ?_
      rotate_left
      · intro w' hS; go_simp; (try with_reducible rfl)
      simp only [Act.put, List.setIfInBounds_toArray, List.set_cons_zero, List.set_cons_succ]
      refine wpAnyH_take (i := 6) (oi := { dst := some 66, op := Go.Op.indexAddr 114 (Go.Operand.tmp 65) (Go.Operand.const (Go.Value.int Go.IntKind.i64 1)), type := 0, pos := "ref.go:240", after := #[{ on := 5, ground := Go.Ground.data }], guard := none }) (v := ?_) rfl (by kernel_rfl) (by kernel_rfl) (by kernel_rfl) (fun _ _ _ h => h) (Or.inl ⟨by rfl, ?_⟩) (by assumption) ?_
      rotate_left
      · intro w' hS; go_simp; (try with_reducible rfl)
      simp only [Act.put, List.setIfInBounds_toArray, List.set_cons_zero, List.set_cons_succ]
      refine wpAnyH_take (i := 7) (oi := { dst := some 67, op := Go.Op.load 22 (Go.Operand.tmp 66), type := 22, pos := "ref.go:240", after := #[{ on := 6, ground := Go.Ground.data }], guard := none }) (v := .slice (some ⟨g2, o2, none⟩) m cap2) rfl (by kernel_rfl) (by kernel_rfl) (by kernel_rfl) (fun _ _ _ h => h) (Or.inl ⟨by rfl, ?_⟩) (by assumption) ?_
      · intro w' hS; have hz := (HPP.out w' hS).2; go_simp
      simp only [Act.put, List.setIfInBounds_toArray, List.set_cons_zero, List.set_cons_succ]
      refine wpAnyH_ready (rs := [3]) (by kernel_rfl) (by simp) ?_
      refine AllReadyH.cons rfl (fun K hK => ?_) AllReadyH.nil
      go_simp
      refine (HTA.out _ hH0).mono ?_
      rintro e y1 ⟨rfl, hB⟩
      have hN : Below w2.heap.size w2 y1 := go_on hH0 hB
      clear hB
      go_wp2_with fail
      refine hK.out _ _ hN (fun hH1 => ?_)
      clear hN
      clear hK K
      refine wpAnyH_take (i := 4) (oi := { dst := some 64, op := Go.Op.binOp Go.BinOp.add 9 (Go.Operand.tmp 63) (Go.Operand.const (Go.Value.string { data := #[40] })) 9, type := 9, pos := "ref.go:240", after := #[{ on := 3, ground := Go.Ground.data }], guard := none }) (v := .string (a.pc.1 ++ ⟨#[40]⟩)) rfl (by kernel_rfl) (by kernel_rfl) (by kernel_rfl) (fun _ _ _ h => h) (Or.inl ⟨by rfl, ?_⟩) (by assumption) ?_
      · intro w' hS; have hq := hcat1 w'; go_simp
      simp only [Act.put, List.setIfInBounds_toArray, List.set_cons_zero, List.set_cons_succ]
      refine wpAnyH_ready (rs := [8]) (by kernel_rfl) (by simp) ?_
      refine AllReadyH.cons rfl (fun K hK => ?_) AllReadyH.nil
      go_simp
      refine (HTB.out _ hH1).mono ?_
      rintro e y2 ⟨rfl, hB⟩
      have hN : Below w2.heap.size w2 y2 := go_on hH1 hB
      clear hB
      go_wp2_with fail
      refine hK.out _ _ hN (fun hH2 => ?_)
      clear hN
      clear hK K
      refine wpAnyH_take (i := 9) (oi := { dst := some 69, op := Go.Op.binOp Go.BinOp.add 9 (Go.Operand.tmp 64) (Go.Operand.tmp 68) 9, type := 9, pos := "ref.go:240", after := #[{ on := 4, ground := Go.Ground.data }, { on := 8, ground := Go.Ground.data }], guard := none }) (v := .string ((a.pc.1 ++ ⟨#[40]⟩) ++ b.pc.1)) rfl (by kernel_rfl) (by kernel_rfl) (by kernel_rfl) (fun _ _ _ h => h) (Or.inl ⟨by rfl, ?_⟩) (by assumption) ?_
      · intro w' hS; have hq := hcat2 w'; go_simp
      simp only [Act.put, List.setIfInBounds_toArray, List.set_cons_zero, List.set_cons_succ]
      refine wpAnyH_take (i := 10) (oi := { dst := some 70, op := Go.Op.binOp Go.BinOp.add 9 (Go.Operand.tmp 69) (Go.Operand.const (Go.Value.string { data := #[41] })) 9, type := 9, pos := "ref.go:240", after := #[{ on := 9, ground := Go.Ground.data }], guard := none }) (v := .string (((a.pc.1 ++ ⟨#[40]⟩) ++ b.pc.1) ++ ⟨#[41]⟩)) rfl (by kernel_rfl) (by kernel_rfl) (by kernel_rfl) (fun _ _ _ h => h) (Or.inl ⟨by rfl, ?_⟩) (by assumption) ?_
      · intro w' hS; have hq := hcat3 w'; go_simp
      simp only [Act.put, List.setIfInBounds_toArray, List.set_cons_zero, List.set_cons_succ]
      refine wpAnyH_take (i := 11) (oi := { dst := some 2, op := Go.Op.assign (Go.Operand.tmp 70), type := 9, pos := "ref.go:240", after := #[{ on := 10, ground := Go.Ground.data }, { on := 8, ground := Go.Ground.chain }, { on := 0, ground := Go.Ground.phase }, { on := 1, ground := Go.Ground.phase }, { on := 2, ground := Go.Ground.phase }, { on := 3, ground := Go.Ground.phase }, { on := 4, ground := Go.Ground.phase }, { on := 5, ground := Go.Ground.phase }, { on := 6, ground := Go.Ground.phase }, { on := 7, ground := Go.Ground.phase }, { on := 8, ground := Go.Ground.phase }, { on := 9, ground := Go.Ground.phase }, { on := 10, ground := Go.Ground.phase }], guard := none }) (v := ?_) rfl (by kernel_rfl) (by kernel_rfl) (by kernel_rfl) (fun _ _ _ h => h) (Or.inl ⟨by rfl, ?_⟩) (by assumption) ?_
      rotate_left
      · intro w' hS; go_simp; (try with_reducible rfl)
      simp only [Act.put, List.setIfInBounds_toArray, List.set_cons_zero, List.set_cons_succ]
      refine wpAnyH_done (by kernel_rfl) ?_ _
      go_wp2_with fail
      go_ret
      exact ⟨by rw [HQ.out]; rfl, go_on HB2.out hH2⟩
    · have hq := mul_pc a b hk
      have HQ : Hid ((Tm.mul a b).pc.1 = a.pc.1 ++ b.pc.1) := hq
      obtain ⟨k, hkk⟩ : ∃ k, b.root.1 = k := ⟨_, rfl⟩
      rw [hkk] at r1 hk
      have hkI : ¬ (k : Int) = 3 := by omega
      have hkb : ((k : Int) == 3) = false := beq_eq_false_iff_ne.2 hkI
      have hcat1 := cat_ok (X := a.pc.1) (L := b.pc.1) (by omega)
      clear hq hk
      go_upto_region 12 with fail
      go_quiet (fail)
      go_upto_region 14 with fail
      refine wp_region_held_drew (S := fun y => Below w2.heap.size w2 y) (by kernel_rfl) (HDR.out _).drew (fun hH0 => ?_)
      generalize (World.drew _) = y0 at hH0 ⊢
      clear x0 p0 p1 r1
      refine wpAnyH_take (i := 0) (oi := { dst := some 71, op := Go.Op.move (Go.Operand.tmp 4), type := 114, pos := "ref.go:242", after := #[], guard := none }) (v := ?_) rfl (by kernel_rfl) (by kernel_rfl) (by kernel_rfl) (fun _ _ _ h => h) (Or.inl ⟨by rfl, ?_⟩) (by assumption) ?_
      rotate_left
      · intro w' hS; go_simp; (try with_reducible rfl)
      simp only [Act.put, List.setIfInBounds_toArray, List.set_cons_zero, List.set_cons_succ]
      refine wpAnyH_take (i := 1) (oi := { dst := some 72, op := Go.Op.indexAddr 114 (Go.Operand.tmp 71) (Go.Operand.const (Go.Value.int Go.IntKind.i64 0)), type := 0, pos := "ref.go:242", after := #[{ on := 0, ground := Go.Ground.data }], guard := none }) (v := ?_) rfl (by kernel_rfl) (by kernel_rfl) (by kernel_rfl) (fun _ _ _ h => h) (Or.inl ⟨by rfl, ?_⟩) (by assumption) ?_
      rotate_left
      · intro w' hS; go_simp; (try with_reducible rfl)
      simp only [Act.put, List.setIfInBounds_toArray, List.set_cons_zero, List.set_cons_succ]
      refine wpAnyH_take (i := 2) (oi := { dst := some 73, op := Go.Op.load 22 (Go.Operand.tmp 72), type := 22, pos := "ref.go:242", after := #[{ on := 1, ground := Go.Ground.data }], guard := none }) (v := .slice (some ⟨g1, o1, none⟩) a.sg.length cap1) rfl (by kernel_rfl) (by kernel_rfl) (by kernel_rfl) (fun _ _ _ h => h) (Or.inl ⟨by rfl, ?_⟩) (by assumption) ?_
      · intro w' hS; have hz := (HPP.out w' hS).1; go_simp
      simp only [Act.put, List.setIfInBounds_toArray, List.set_cons_zero, List.set_cons_succ]
      refine wpAnyH_take (i := 4) (oi := { dst := some 75, op := Go.Op.move (Go.Operand.tmp 4), type := 114, pos := "ref.go:242", after := #[], guard := none }) (v := ?_) rfl (by kernel_rfl) (by kernel_rfl) (by kernel_rfl) (fun _ _ _ h => h) (Or.inl ⟨by rfl, ?_⟩) (by assumption) ?_
      rotate_left
      · intro w' hS; go_simp; (try with_reducible rfl)
      simp only [Act.put, List.setIfInBounds_toArray, List.set_cons_zero, List.set_cons_succ]
      refine wpAnyH_take (i := 5) (oi := { dst := some 76, op := Go.Op.indexAddr 114 (Go.Operand.tmp 75) (Go.Operand.const (Go.Value.int Go.IntKind.i64 1)), type := 0, pos := "ref.go:242", after := #[{ on := 4, ground := Go.Ground.data }], guard := none }) (v := ?_) rfl (by kernel_rfl) (by kernel_rfl) (by kernel_rfl) (fun _ _ _ h => h) (Or.inl ⟨by rfl, ?_⟩) (by assumption) ?_
      rotate_left
      · intro w' hS; go_simp; (try with_reducible rfl)
      simp only [Act.put, List.setIfInBounds_toArray, List.set_cons_zero, List.set_cons_succ]
      refine wpAnyH_take (i := 6) (oi := { dst := some 77, op := Go.Op.load 22 (Go.Operand.tmp 76), type := 22, pos := "ref.go:242", after := #[{ on := 5, ground := Go.Ground.data }], guard := none }) (v := .slice (some ⟨g2, o2, none⟩) m cap2) rfl (by kernel_rfl) (by kernel_rfl) (by kernel_rfl) (fun _ _ _ h => h) (Or.inl ⟨by rfl, ?_⟩) (by assumption) ?_
      · intro w' hS; have hz := (HPP.out w' hS).2; go_simp
      simp only [Act.put, List.setIfInBounds_toArray, List.set_cons_zero, List.set_cons_succ]
      refine wpAnyH_ready (rs := [3]) (by kernel_rfl) (by simp) ?_
      refine AllReadyH.cons rfl (fun K hK => ?_) AllReadyH.nil
      go_simp
      refine (HTA.out _ hH0).mono ?_
      rintro e y1 ⟨rfl, hB⟩
      have hN : Below w2.heap.size w2 y1 := go_on hH0 hB
      clear hB
      go_wp2_with fail
      refine hK.out _ _ hN (fun hH1 => ?_)
      clear hN
      clear hK K
      refine wpAnyH_ready (rs := [7]) (by kernel_rfl) (by simp) ?_
      refine AllReadyH.cons rfl (fun K hK => ?_) AllReadyH.nil
      go_simp
      refine (HTB.out _ hH1).mono ?_
      rintro e y2 ⟨rfl, hB⟩
      have hN : Below w2.heap.size w2 y2 := go_on hH1 hB
      clear hB
      go_wp2_with fail
      refine hK.out _ _ hN (fun hH2 => ?_)
      clear hN
      clear hK K
      refine wpAnyH_take (i := 8) (oi := { dst := some 79, op := Go.Op.binOp Go.BinOp.add 9 (Go.Operand.tmp 74) (Go.Operand.tmp 78) 9, type := 9, pos := "ref.go:242", after := #[{ on := 3, ground := Go.Ground.data }, { on := 7, ground := Go.Ground.data }], guard := none }) (v := .string (a.pc.1 ++ b.pc.1)) rfl (by kernel_rfl) (by kernel_rfl) (by kernel_rfl) (fun _ _ _ h => h) (Or.inl ⟨by rfl, ?_⟩) (by assumption) ?_
      · intro w' hS; have hq := hcat1 w'; go_simp
      simp only [Act.put, List.setIfInBounds_toArray, List.set_cons_zero, List.set_cons_succ]
      refine wpAnyH_take (i := 9) (oi := { dst := some 2, op := Go.Op.assign (Go.Operand.tmp 79), type := 9, pos := "ref.go:242", after := #[{ on := 8, ground := Go.Ground.data }, { on := 7, ground := Go.Ground.chain }, { on := 0, ground := Go.Ground.phase }, { on := 1, ground := Go.Ground.phase }, { on := 2, ground := Go.Ground.phase }, { on := 3, ground := Go.Ground.phase }, { on := 4, ground := Go.Ground.phase }, { on := 5, ground := Go.Ground.phase }, { on := 6, ground := Go.Ground.phase }, { on := 7, ground := Go.Ground.phase }, { on := 8, ground := Go.Ground.phase }], guard := none }) (v := ?_) rfl (by kernel_rfl) (by kernel_rfl) (by kernel_rfl) (fun _ _ _ h => h) (Or.inl ⟨by rfl, ?_⟩) (by assumption) ?_
      rotate_left
      · intro w' hS; go_simp; (try with_reducible rfl)
      simp only [Act.put, List.setIfInBounds_toArray, List.set_cons_zero, List.set_cons_succ]
      refine wpAnyH_done (by kernel_rfl) ?_ _
      go_wp2_with fail
      go_ret
      exact ⟨by rw [HQ.out]; rfl, go_on HB2.out hH2⟩
end Go.Proofs.Ythhlamehbcidgaa
