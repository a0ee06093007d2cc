/- terms.Turn: meaning[[]Sign].of, turned. -/
import Derived.Test.YthhlamehbcidgaaY43
namespace Go.Proofs.Ythhlamehbcidgaa
open Go Go.RowKit Go.Lib
set_option linter.unusedVariables false

theorem only_low {S : Nat → Prop} {w y z : World} (h : Only S w y) (hb : Below w.heap.size y z) : Only S w z :=
  ⟨h.zero.trans (hb.mono (Nat.zero_le _)), fun j hj hs => (hb.block j hj).trans (h.block j hj hs)⟩
/-- The walker of meaning[[]eggbox/api.Sign]. -/
abbrev NTl (LB : Nat) (w0 w : World) (F SB MB NX : Nat) (v : Value) (L : Sg) (n : Nat) : Prop := NT w0 w F SB MB NX (.func (Fn.func 71) #[] #[.pointer (some ⟨LB, 0, none⟩)]) (.func (Fn.func 72) #[] #[.pointer (some ⟨LB, 0, none⟩)]) (.func (Fn.func 73) #[] #[]) (.func (Fn.func 74) #[] #[]) (.func (Fn.func 104) #[] #[.pointer (some ⟨F, 0, none⟩), .pointer (some ⟨SB, 0, none⟩), .pointer (some ⟨MB, 0, none⟩), .pointer (some ⟨NX, 0, none⟩)]) v L n (LfE LB)
def NxL (t : Tm) : Prop := ∀ (w0 w : World) (F SB MB NX LB : Nat) (v : Value) (X Y : Sg), LB ≠ F → ((X ++ t.sg) ++ Y).length ≤ 400 → NTl LB w0 w F SB MB NX v ((X ++ t.sg) ++ Y) (X.length + t.sg.length) →
  Calls Try.prog 104 #[.pointer (some ⟨F, 0, none⟩), .pointer (some ⟨SB, 0, none⟩), .pointer (some ⟨MB, 0, none⟩), .pointer (some ⟨NX, 0, none⟩)] w fun e w' => ∃ u, e = .returned u ∧ VL w.heap.size u w' t ∧ NTl LB w0 w' F SB MB NX v ((X ++ t.sg) ++ Y) X.length ∧ Only (fun b => b = F) w w'

set_option maxHeartbeats 8000000 in
set_option maxRecDepth 100000 in
theorem NxL_any : ∀ t : Tm, NxL t
  | .one => by
    intro w0 w F SB MB NX LB v X Y hLB hLL h
    obtain ⟨L0, hL0⟩ : ∃ L0, (X ++ (Tm.one).sg) ++ Y = L0 := ⟨_, rfl⟩
    have hroot := root_at (Tm.one) X Y
    rw [show (Tm.one).root = (1, 0) from rfl] at hroot
    have hlen0 : L0.length = X.length + (Tm.one).sg.length + Y.length := by rw [← hL0, List.length_append, List.length_append]
    have hspos := (Tm.one).sg_pos
    rw [hL0] at h hroot hLL ⊢
    obtain ⟨n1, hn1⟩ : ∃ n1, X.length + (Tm.one).sg.length - 1 = n1 := ⟨_, rfl⟩
    obtain ⟨nX, hnX⟩ : ∃ nX, X.length = nX := ⟨_, rfl⟩
    have hnn : X.length + (Tm.one).sg.length = n1 + 1 := by omega
    have hn1l : n1 < L0.length := by omega
    rw [hn1] at hroot
    obtain ⟨nn, hn2⟩ : ∃ nn, n1 + 1 = nn := ⟨_, rfl⟩
    rw [hnn, hn2] at h
    rw [hnX]
    have XEQ : Hid (n1 = nX) := by
      show _ = _
      have h1 : (Tm.one).sg.length = 1 := rfl
      omega
    have HX : Hid (nX ≤ n1 ∧ n1 < L0.length ∧ L0.length ≤ 400) := by show _ ∧ _; omega
    have HEST : Hid (Est F (LfE LB)) := LfE.est hLB
    obtain ⟨w1, hw1⟩ : ∃ w1, w1 = w.setCell ⟨F, 0, none⟩ (.int .i64 (n1 : Nat)) := ⟨_, rfl⟩
    have HW1 : Hid (w1 = w.setCell ⟨F, 0, none⟩ (.int .i64 (n1 : Nat))) := hw1
    have HFL : Hid (F < w.heap.size) := h.fl
    have HN1 : Hid (NTl LB w0 w1 F SB MB NX v L0 n1) := by show NTl _ _ _ _ _ _ _ _ _ _; rw [hw1]; exact NT.step HEST.out h (by omega)
    have HO1 : Hid (Only (fun b => b = F) w w1) := by show Only _ _ _; rw [hw1]; exact (Only.of (S := fun b => b = F) (Below.refl w.heap.size w)).set rfl
    have hs1 : w1.heap.size = w.heap.size := by rw [hw1]; simp [World.setCell]
    have HS1 : Hid (w1.heap.size = w.heap.size) := hs1
    obtain ⟨a, cap, hv, hread⟩ := HN1.out.r.below HN1.out.b
    obtain ⟨g, o, hag, hg, hc1, hc2, hc3⟩ := hread n1 (by rw [intS_len]; exact hn1l)
    rw [intS_getD _ _ hn1l, hroot] at hc1 hc2 hc3
    have hlen : (intS L0).length = L0.length := intS_len L0
    rw [hlen] at hv
    subst hv hag
    have HCB : Hid ((1, 0).2 < 256) := hc3
    have f0 : w.cell? ⟨F, 0, none⟩ = some (.int .i64 (nn : Nat)) := cell_at h.f rfl
    have ff : ∀ j, w.frozen? ⟨F, j, none⟩ = false := fun j => froz_of h.f
    have hwr : IntKind.i64.wrap ((nn : Int) - 1) = (n1 : Int) := by rw [IntKind.wrap_i64]; omega
    have s0 : w1.cell? ⟨SB, 0, none⟩ = some (.slice (some ⟨g, o, none⟩) L0.length cap) := HN1.out.sc
    have fn1 : w1.cell? ⟨F, 0, none⟩ = some (.int .i64 (n1 : Int)) := cell_at HN1.out.f rfl
    have hnl : (n1 : Int) < L0.length := by omega
    obtain ⟨w2, hw2⟩ : ∃ w2, w2 = w1.alloc (.cells #[.int .i64 1, .int .u8 0] 81) := ⟨_, rfl⟩
    have HW2 : Hid (w2 = w1.alloc (.cells #[.int .i64 1, .int .u8 0] 81)) := hw2
    have hb2 : Below w1.heap.size w1 w2 := by rw [hw2]; exact below_new _ _
    have HN2 : Hid (NTl LB w0 w2 F SB MB NX (.slice (some ⟨g, o, none⟩) L0.length cap) L0 n1) := NT.call HEST.out HN1.out hb2
    have HO2 : Hid (Only (fun b => b = F) w w2) := HO1.out.trans (Only.of hb2)
    have HS2 : Hid (w.heap.size ≤ w2.heap.size) := HO2.out.size
    have HFL2 : Hid (F < w2.heap.size) := Nat.lt_of_lt_of_le HFL.out HS2.out
    have x0 : w2.cell? ⟨w1.heap.size, 0, none⟩ = some (.int .i64 1) := by rw [hw2]; exact cell_at (heap_last _ _) rfl
    have x1 : w2.cell? ⟨w1.heap.size, 1, none⟩ = some (.int .u8 0) := by rw [hw2]; exact cell_at (heap_last _ _) rfl
    clear hw1 hw2 hb2 h hread hroot hL0 hc3 hlen hlen0 hspos hnn hn1 hn1l hn2 hLL hs1
    have hm0 := HN2.out.c0
    have HCL : Hid (Calls Try.prog 71 #[.pointer (some ⟨LB, 0, none⟩)] w2 fun e w' => ∃ u, e = .returned u ∧ VL w2.heap.size u w' .one ∧ Below w2.heap.size w2 w') := tu2_any LB w2 HN2.out.ex
    go_enter Try.func104, Try.ntmps104
    go_upto_region 2 with fail
    rw [← HW1.out]
    clear f0 ff HW1
    go_upto_region 3 with fail
    rw [← HW2.out]
    clear s0 fn1 HW2 hc1 hc2
    go_wp2_with fail
    refine Calls.mono HCL.out ?_
    clear hm0
    rintro e y2 ⟨u, rfl, ho, hb⟩
    obtain ⟨_, _, rfl⟩ := own_shape ho
    have HOU : Hid _ := ho
    have HB : Hid (Below w2.heap.size w2 y2) := hb
    clear ho hb x0 x1
    go_wp2_with fail
    go_ret
    exact ⟨_, rfl, own_less HOU.out HS2.out, by have := NT.call HEST.out HN2.out HB.out; rw [XEQ.out] at this; exact this, HO2.out.trans (Only.of HB.out)⟩
  | .var c => by
    intro w0 w F SB MB NX LB v X Y hLB hLL h
    obtain ⟨L0, hL0⟩ : ∃ L0, (X ++ (Tm.var c).sg) ++ Y = L0 := ⟨_, rfl⟩
    have hroot := root_at (Tm.var c) X Y
    rw [show (Tm.var c).root = (2, c) from rfl] at hroot
    have hlen0 : L0.length = X.length + (Tm.var c).sg.length + Y.length := by rw [← hL0, List.length_append, List.length_append]
    have hspos := (Tm.var c).sg_pos
    rw [hL0] at h hroot hLL ⊢
    obtain ⟨n1, hn1⟩ : ∃ n1, X.length + (Tm.var c).sg.length - 1 = n1 := ⟨_, rfl⟩
    obtain ⟨nX, hnX⟩ : ∃ nX, X.length = nX := ⟨_, rfl⟩
    have hnn : X.length + (Tm.var c).sg.length = n1 + 1 := by omega
    have hn1l : n1 < L0.length := by omega
    rw [hn1] at hroot
    obtain ⟨nn, hn2⟩ : ∃ nn, n1 + 1 = nn := ⟨_, rfl⟩
    rw [hnn, hn2] at h
    rw [hnX]
    have XEQ : Hid (n1 = nX) := by
      show _ = _
      have h1 : (Tm.var c).sg.length = 1 := rfl
      omega
    have HX : Hid (nX ≤ n1 ∧ n1 < L0.length ∧ L0.length ≤ 400) := by show _ ∧ _; omega
    have HEST : Hid (Est F (LfE LB)) := LfE.est hLB
    obtain ⟨w1, hw1⟩ : ∃ w1, w1 = w.setCell ⟨F, 0, none⟩ (.int .i64 (n1 : Nat)) := ⟨_, rfl⟩
    have HW1 : Hid (w1 = w.setCell ⟨F, 0, none⟩ (.int .i64 (n1 : Nat))) := hw1
    have HFL : Hid (F < w.heap.size) := h.fl
    have HN1 : Hid (NTl LB w0 w1 F SB MB NX v L0 n1) := by show NTl _ _ _ _ _ _ _ _ _ _; rw [hw1]; exact NT.step HEST.out h (by omega)
    have HO1 : Hid (Only (fun b => b = F) w w1) := by show Only _ _ _; rw [hw1]; exact (Only.of (S := fun b => b = F) (Below.refl w.heap.size w)).set rfl
    have hs1 : w1.heap.size = w.heap.size := by rw [hw1]; simp [World.setCell]
    have HS1 : Hid (w1.heap.size = w.heap.size) := hs1
    obtain ⟨a, cap, hv, hread⟩ := HN1.out.r.below HN1.out.b
    obtain ⟨g, o, hag, hg, hc1, hc2, hc3⟩ := hread n1 (by rw [intS_len]; exact hn1l)
    rw [intS_getD _ _ hn1l, hroot] at hc1 hc2 hc3
    have hlen : (intS L0).length = L0.length := intS_len L0
    rw [hlen] at hv
    subst hv hag
    have HCB : Hid ((2, c).2 < 256) := hc3
    have f0 : w.cell? ⟨F, 0, none⟩ = some (.int .i64 (nn : Nat)) := cell_at h.f rfl
    have ff : ∀ j, w.frozen? ⟨F, j, none⟩ = false := fun j => froz_of h.f
    have hwr : IntKind.i64.wrap ((nn : Int) - 1) = (n1 : Int) := by rw [IntKind.wrap_i64]; omega
    have s0 : w1.cell? ⟨SB, 0, none⟩ = some (.slice (some ⟨g, o, none⟩) L0.length cap) := HN1.out.sc
    have fn1 : w1.cell? ⟨F, 0, none⟩ = some (.int .i64 (n1 : Int)) := cell_at HN1.out.f rfl
    have hnl : (n1 : Int) < L0.length := by omega
    obtain ⟨w2, hw2⟩ : ∃ w2, w2 = w1.alloc (.cells #[.int .i64 2, .int .u8 (c : Nat)] 81) := ⟨_, rfl⟩
    have HW2 : Hid (w2 = w1.alloc (.cells #[.int .i64 2, .int .u8 (c : Nat)] 81)) := hw2
    have hb2 : Below w1.heap.size w1 w2 := by rw [hw2]; exact below_new _ _
    have HN2 : Hid (NTl LB w0 w2 F SB MB NX (.slice (some ⟨g, o, none⟩) L0.length cap) L0 n1) := NT.call HEST.out HN1.out hb2
    have HO2 : Hid (Only (fun b => b = F) w w2) := HO1.out.trans (Only.of hb2)
    have HS2 : Hid (w.heap.size ≤ w2.heap.size) := HO2.out.size
    have HFL2 : Hid (F < w2.heap.size) := Nat.lt_of_lt_of_le HFL.out HS2.out
    have x0 : w2.cell? ⟨w1.heap.size, 0, none⟩ = some (.int .i64 2) := by rw [hw2]; exact cell_at (heap_last _ _) rfl
    have x1 : w2.cell? ⟨w1.heap.size, 1, none⟩ = some (.int .u8 (c : Nat)) := by rw [hw2]; exact cell_at (heap_last _ _) rfl
    clear hw1 hw2 hb2 h hread hroot hL0 hc3 hlen hlen0 hspos hnn hn1 hn1l hn2 hLL hs1
    have hm0 := HN2.out.c1
    have HCL : Hid (Calls Try.prog 72 #[.int .u8 (c : Nat), .pointer (some ⟨LB, 0, none⟩)] w2 fun e w' => ∃ u, e = .returned u ∧ VL w2.heap.size u w' (.var c) ∧ Below w2.heap.size w2 w') := tu3_any LB c w2 HN2.out.ex
    go_enter Try.func104, Try.ntmps104
    go_upto_region 2 with fail
    rw [← HW1.out]
    clear f0 ff HW1
    go_upto_region 3 with fail
    rw [← HW2.out]
    clear s0 fn1 HW2 hc1 hc2
    go_wp2_with fail
    refine Calls.mono HCL.out ?_
    clear hm0
    rintro e y2 ⟨u, rfl, ho, hb⟩
    obtain ⟨_, _, rfl⟩ := own_shape ho
    have HOU : Hid _ := ho
    have HB : Hid (Below w2.heap.size w2 y2) := hb
    clear ho hb x0 x1
    go_wp2_with fail
    go_ret
    exact ⟨_, rfl, own_less HOU.out HS2.out, by have := NT.call HEST.out HN2.out HB.out; rw [XEQ.out] at this; exact this, HO2.out.trans (Only.of HB.out)⟩
  | .om t => by
    have IH : Hid (NxL t) := NxL_any t
    intro w0 w F SB MB NX LB v X Y hLB hLL h
    obtain ⟨L0, hL0⟩ : ∃ L0, (X ++ (Tm.om t).sg) ++ Y = L0 := ⟨_, rfl⟩
    have hroot := root_at (Tm.om t) X Y
    rw [show (Tm.om t).root = (4, 0) from rfl] at hroot
    have hlen0 : L0.length = X.length + (Tm.om t).sg.length + Y.length := by rw [← hL0, List.length_append, List.length_append]
    have hspos := (Tm.om t).sg_pos
    have eL := om_at t X Y
    rw [hL0] at eL
    have HEL : Hid (L0 = (X ++ t.sg) ++ ((4, 0) :: Y)) := eL
    clear eL
    rw [hL0] at h hroot hLL ⊢
    obtain ⟨n1, hn1⟩ : ∃ n1, X.length + (Tm.om t).sg.length - 1 = n1 := ⟨_, rfl⟩
    obtain ⟨nX, hnX⟩ : ∃ nX, X.length = nX := ⟨_, rfl⟩
    have hnn : X.length + (Tm.om t).sg.length = n1 + 1 := by omega
    have hn1l : n1 < L0.length := by omega
    rw [hn1] at hroot
    obtain ⟨nn, hn2⟩ : ∃ nn, n1 + 1 = nn := ⟨_, rfl⟩
    rw [hnn, hn2] at h
    rw [hnX]
    have HNXL : Hid (X.length = nX) := hnX
    have HLT : Hid (nX + t.sg.length = n1) := by show _ = _; rw [om_len] at hnn; omega
    have HX : Hid (nX ≤ n1 ∧ n1 < L0.length ∧ L0.length ≤ 400) := by show _ ∧ _; omega
    have HEST : Hid (Est F (LfE LB)) := LfE.est hLB
    obtain ⟨w1, hw1⟩ : ∃ w1, w1 = w.setCell ⟨F, 0, none⟩ (.int .i64 (n1 : Nat)) := ⟨_, rfl⟩
    have HW1 : Hid (w1 = w.setCell ⟨F, 0, none⟩ (.int .i64 (n1 : Nat))) := hw1
    have HFL : Hid (F < w.heap.size) := h.fl
    have HN1 : Hid (NTl LB w0 w1 F SB MB NX v L0 n1) := by show NTl _ _ _ _ _ _ _ _ _ _; rw [hw1]; exact NT.step HEST.out h (by omega)
    have HO1 : Hid (Only (fun b => b = F) w w1) := by show Only _ _ _; rw [hw1]; exact (Only.of (S := fun b => b = F) (Below.refl w.heap.size w)).set rfl
    have hs1 : w1.heap.size = w.heap.size := by rw [hw1]; simp [World.setCell]
    have HS1 : Hid (w1.heap.size = w.heap.size) := hs1
    obtain ⟨a, cap, hv, hread⟩ := HN1.out.r.below HN1.out.b
    obtain ⟨g, o, hag, hg, hc1, hc2, hc3⟩ := hread n1 (by rw [intS_len]; exact hn1l)
    rw [intS_getD _ _ hn1l, hroot] at hc1 hc2 hc3
    have hlen : (intS L0).length = L0.length := intS_len L0
    rw [hlen] at hv
    subst hv hag
    have HCB : Hid ((4, 0).2 < 256) := hc3
    have f0 : w.cell? ⟨F, 0, none⟩ = some (.int .i64 (nn : Nat)) := cell_at h.f rfl
    have ff : ∀ j, w.frozen? ⟨F, j, none⟩ = false := fun j => froz_of h.f
    have hwr : IntKind.i64.wrap ((nn : Int) - 1) = (n1 : Int) := by rw [IntKind.wrap_i64]; omega
    have s0 : w1.cell? ⟨SB, 0, none⟩ = some (.slice (some ⟨g, o, none⟩) L0.length cap) := HN1.out.sc
    have fn1 : w1.cell? ⟨F, 0, none⟩ = some (.int .i64 (n1 : Int)) := cell_at HN1.out.f rfl
    have hnl : (n1 : Int) < L0.length := by omega
    obtain ⟨w2, hw2⟩ : ∃ w2, w2 = w1.alloc (.cells #[.int .i64 4, .int .u8 0] 81) := ⟨_, rfl⟩
    have HW2 : Hid (w2 = w1.alloc (.cells #[.int .i64 4, .int .u8 0] 81)) := hw2
    have hb2 : Below w1.heap.size w1 w2 := by rw [hw2]; exact below_new _ _
    have HN2 : Hid (NTl LB w0 w2 F SB MB NX (.slice (some ⟨g, o, none⟩) L0.length cap) L0 n1) := NT.call HEST.out HN1.out hb2
    have HO2 : Hid (Only (fun b => b = F) w w2) := HO1.out.trans (Only.of hb2)
    have HS2 : Hid (w.heap.size ≤ w2.heap.size) := HO2.out.size
    have HFL2 : Hid (F < w2.heap.size) := Nat.lt_of_lt_of_le HFL.out HS2.out
    have x0 : w2.cell? ⟨w1.heap.size, 0, none⟩ = some (.int .i64 4) := by rw [hw2]; exact cell_at (heap_last _ _) rfl
    have x1 : w2.cell? ⟨w1.heap.size, 1, none⟩ = some (.int .u8 0) := by rw [hw2]; exact cell_at (heap_last _ _) rfl
    clear hw1 hw2 hb2 h hread hroot hL0 hc3 hlen hlen0 hspos hnn hn1 hn1l hn2 hLL hs1
    have HB20 : Hid (Below w2.heap.size w2 w2.drew) := (Below.refl _ _).drew
    have HND : Hid (NTl LB w0 w2.drew F SB MB NX (.slice (some ⟨g, o, none⟩) L0.length cap) L0 n1) := NT.call HEST.out HN2.out HB20.out
    have HNX : Hid (Calls Try.prog 104 #[.pointer (some ⟨F, 0, none⟩), .pointer (some ⟨SB, 0, none⟩), .pointer (some ⟨MB, 0, none⟩), .pointer (some ⟨NX, 0, none⟩)] w2.drew fun e w' => ∃ u, e = .returned u ∧ VL w2.drew.heap.size u w' t ∧ NTl LB w0 w' F SB MB NX (.slice (some ⟨g, o, none⟩) L0.length cap) L0 nX ∧ Only (fun b => b = F) w2.drew w') := by
      have q := IH.out w0 w2.drew F SB MB NX LB (.slice (some ⟨g, o, none⟩) L0.length cap) X ((4, 0) :: Y) hLB (by rw [← HEL.out]; exact HX.out.2.2) (by rw [← HEL.out, HNXL.out, HLT.out]; exact HND.out)
      rw [← HEL.out, HNXL.out] at q
      exact q
    have S0 : w2.drew.cell? ⟨MB, 3, none⟩ = some (.func (Fn.func 74) #[] #[]) ∧ w2.drew.cell? ⟨NX, 0, none⟩ = some (.func (Fn.func 104) #[] #[.pointer (some ⟨F, 0, none⟩), .pointer (some ⟨SB, 0, none⟩), .pointer (some ⟨MB, 0, none⟩), .pointer (some ⟨NX, 0, none⟩)]) := ⟨HND.out.c3, HND.out.xc⟩
    go_enter Try.func104, Try.ntmps104
    go_upto_region 2 with fail
    rw [← HW1.out]
    clear f0 ff HW1
    go_upto_region 3 with fail
    rw [← HW2.out]
    clear s0 fn1 HW2 hc1 hc2
    go_upto_region 9 with fail
    clear x0 x1
    refine wp_region_held_drew (S := fun y => y.cell? ⟨MB, 3, none⟩ = some (.func (Fn.func 74) #[] #[]) ∧ y.cell? ⟨NX, 0, none⟩ = some (.func (Fn.func 104) #[] #[.pointer (some ⟨F, 0, none⟩), .pointer (some ⟨SB, 0, none⟩), .pointer (some ⟨MB, 0, none⟩), .pointer (some ⟨NX, 0, none⟩)])) (by kernel_rfl) S0 (fun hH0 => ?_)
    clear S0
    refine wpAnyH_take (i := 0) (oi := { dst := some 29, op := Go.Op.fieldAddr 121 (Go.Operand.tmp 2) 3, type := 0, pos := "side.go:111", after := #[], guard := none }) (v := ?_) rfl (by kernel_rfl) (by kernel_rfl) (by kernel_rfl) (fun _ _ _ h => h) (Or.inl ⟨by rfl, ?_⟩) (by assumption) ?_
    rotate_left
    · intro w' hS; go_simp; (try with_reducible rfl)
    simp only [Act.put, List.setIfInBounds_toArray, List.set_cons_zero, List.set_cons_succ]
    refine wpAnyH_take (i := 1) (oi := { dst := some 30, op := Go.Op.load 84 (Go.Operand.tmp 29), type := 84, pos := "side.go:111", after := #[{ on := 0, ground := Go.Ground.data }], guard := none }) (v := .func (Fn.func 74) #[] #[]) rfl (by kernel_rfl) (by kernel_rfl) (by kernel_rfl) (fun _ _ _ h => h) (Or.inl ⟨by rfl, ?_⟩) (by assumption) ?_
    · intro w' hS; obtain ⟨z0, z1⟩ := hS; go_simp
    simp only [Act.put, List.setIfInBounds_toArray, List.set_cons_zero, List.set_cons_succ]
    refine wpAnyH_take (i := 2) (oi := { dst := some 31, op := Go.Op.load 77 (Go.Operand.tmp 3), type := 77, pos := "side.go:111", after := #[], guard := none }) (v := .func (Fn.func 104) #[] #[.pointer (some ⟨F, 0, none⟩), .pointer (some ⟨SB, 0, none⟩), .pointer (some ⟨MB, 0, none⟩), .pointer (some ⟨NX, 0, none⟩)]) rfl (by kernel_rfl) (by kernel_rfl) (by kernel_rfl) (fun _ _ _ h => h) (Or.inl ⟨by rfl, ?_⟩) (by assumption) ?_
    · intro w' hS; obtain ⟨z0, z1⟩ := hS; go_simp
    simp only [Act.put, List.setIfInBounds_toArray, List.set_cons_zero, List.set_cons_succ]
    refine wpAnyH_ready (rs := [3]) (by kernel_rfl) (by simp) ?_
    refine AllReadyH.cons rfl (fun K hK => ?_) AllReadyH.nil
    go_simp
    refine Calls.mono HNX.out ?_
    rintro e y1 ⟨u, rfl, hu, hn1, ho1⟩
    obtain ⟨_, _, rfl⟩ := own_shape hu
    have HU1 : Hid _ := hu
    have HN3 : Hid (NTl LB w0 y1 F SB MB NX (.slice (some ⟨g, o, none⟩) L0.length cap) L0 nX) := hn1
    have HO3 : Hid (Only (fun b => b = F) w2 y1) := (Only.of (Below.refl _ _).drew).trans ho1
    have hN : y1.cell? ⟨MB, 3, none⟩ = some (.func (Fn.func 74) #[] #[]) ∧ y1.cell? ⟨NX, 0, none⟩ = some (.func (Fn.func 104) #[] #[.pointer (some ⟨F, 0, none⟩), .pointer (some ⟨SB, 0, none⟩), .pointer (some ⟨MB, 0, none⟩), .pointer (some ⟨NX, 0, none⟩)]) := ⟨hn1.c3, hn1.xc⟩
    clear hu hn1 ho1
    go_wp2_with fail
    refine hK.out _ _ hN (fun hH1 => ?_)
    clear hN
    clear hK K
    refine wpAnyH_ready (rs := [4]) (by kernel_rfl) (by simp) ?_
    refine AllReadyH.cons rfl (fun K hK => ?_) AllReadyH.nil
    go_simp
    have hc9 := tu5_any t w2.drew.heap.size _ y1 HU1.out HO3.out.size (by have h1 := HX.out; have h2 := HLT.out; omega)
    refine Calls.mono hc9 ?_
    clear hc9
    rintro e y2 ⟨u2, rfl, hu, hb⟩
    obtain ⟨_, _, rfl⟩ := own_shape hu
    have HOV : Hid _ := hu
    have HOV2 : Hid (Only (fun b => b = F) w2 y2) := only_low HO3.out hb
    have HNV : Hid (NTl LB w0 y2 F SB MB NX (.slice (some ⟨g, o, none⟩) L0.length cap) L0 nX) := NT.only HEST.out HN2.out HOV2.out ((hb.block F HFL2.out).trans HN3.out.f) (by have := HX.out; omega)
    have hN : y2.cell? ⟨MB, 3, none⟩ = some (.func (Fn.func 74) #[] #[]) ∧ y2.cell? ⟨NX, 0, none⟩ = some (.func (Fn.func 104) #[] #[.pointer (some ⟨F, 0, none⟩), .pointer (some ⟨SB, 0, none⟩), .pointer (some ⟨MB, 0, none⟩), .pointer (some ⟨NX, 0, none⟩)]) := ⟨HNV.out.c3, HNV.out.xc⟩
    clear hu hb
    go_wp2_with fail
    refine hK.out _ _ hN (fun hH2 => ?_)
    clear hN
    clear hK K
    refine wpAnyH_take (i := 5) (oi := { dst := some 4, op := Go.Op.assign (Go.Operand.tmp 33), type := 22, pos := "side.go:111", after := #[{ on := 4, ground := Go.Ground.data }, { on := 4, ground := Go.Ground.chain }, { on := 0, ground := Go.Ground.phase }, { on := 1, ground := Go.Ground.phase }, { on := 2, ground := Go.Ground.phase }, { on := 3, ground := Go.Ground.phase }, { on := 4, ground := Go.Ground.phase }], guard := none }) (v := ?_) rfl (by kernel_rfl) (by kernel_rfl) (by kernel_rfl) (fun _ _ _ h => h) (Or.inl ⟨by rfl, ?_⟩) (by assumption) ?_
    rotate_left
    · intro w' hS; go_simp; (try with_reducible rfl)
    simp only [Act.put, List.setIfInBounds_toArray, List.set_cons_zero, List.set_cons_succ]
    refine wpAnyH_done (by kernel_rfl) ?_ _
    go_wp2_with fail
    go_ret
    exact ⟨_, rfl, own_less HOV.out HS2.out, HNV.out, HO2.out.trans HOV2.out⟩
  | .mul a b => by
    have IHA : Hid (NxL a) := NxL_any a
    have IHB : Hid (NxL b) := NxL_any b
    intro w0 w F SB MB NX LB v X Y hLB hLL h
    obtain ⟨L0, hL0⟩ : ∃ L0, (X ++ (Tm.mul a b).sg) ++ Y = L0 := ⟨_, rfl⟩
    have hroot := root_at (Tm.mul a b) X Y
    rw [show (Tm.mul a b).root = (3, 0) from rfl] at hroot
    have hlen0 : L0.length = X.length + (Tm.mul a b).sg.length + Y.length := by rw [← hL0, List.length_append, List.length_append]
    have hspos := (Tm.mul a b).sg_pos
    have eL := mul_at a b X Y
    have eL2 := mul_at' a b X Y
    rw [hL0] at eL eL2
    have HEL : Hid (L0 = ((X ++ a.sg) ++ b.sg) ++ ((3, 0) :: Y)) := eL
    have HEL2 : Hid (L0 = (X ++ a.sg) ++ (b.sg ++ ((3, 0) :: Y))) := eL2
    clear eL eL2
    rw [hL0] at h hroot hLL ⊢
    obtain ⟨n1, hn1⟩ : ∃ n1, X.length + (Tm.mul a b).sg.length - 1 = n1 := ⟨_, rfl⟩
    obtain ⟨nX, hnX⟩ : ∃ nX, X.length = nX := ⟨_, rfl⟩
    have hnn : X.length + (Tm.mul a b).sg.length = n1 + 1 := by omega
    have hn1l : n1 < L0.length := by omega
    rw [hn1] at hroot
    obtain ⟨nn, hn2⟩ : ∃ nn, n1 + 1 = nn := ⟨_, rfl⟩
    rw [hnn, hn2] at h
    rw [hnX]
    obtain ⟨nA, hnA⟩ : ∃ nA, (X ++ a.sg).length = nA := ⟨_, rfl⟩
    have HNXL : Hid (X.length = nX) := hnX
    have HNAL : Hid ((X ++ a.sg).length = nA) := hnA
    have HLA : Hid (nX + a.sg.length = nA) := by show _ = _; rw [List.length_append] at hnA; omega
    have HLB : Hid (nA + b.sg.length = n1) := by show _ = _; rw [List.length_append] at hnA; rw [mul_len] at hnn; omega
    have HAB : Hid (b.sg.length + a.sg.length ≤ 400) := by show _ ≤ _; rw [mul_len] at hlen0; omega
    clear hnA
    have HX : Hid (nX ≤ n1 ∧ n1 < L0.length ∧ L0.length ≤ 400) := by show _ ∧ _; omega
    have HEST : Hid (Est F (LfE LB)) := LfE.est hLB
    obtain ⟨w1, hw1⟩ : ∃ w1, w1 = w.setCell ⟨F, 0, none⟩ (.int .i64 (n1 : Nat)) := ⟨_, rfl⟩
    have HW1 : Hid (w1 = w.setCell ⟨F, 0, none⟩ (.int .i64 (n1 : Nat))) := hw1
    have HFL : Hid (F < w.heap.size) := h.fl
    have HN1 : Hid (NTl LB w0 w1 F SB MB NX v L0 n1) := by show NTl _ _ _ _ _ _ _ _ _ _; rw [hw1]; exact NT.step HEST.out h (by omega)
    have HO1 : Hid (Only (fun b => b = F) w w1) := by show Only _ _ _; rw [hw1]; exact (Only.of (S := fun b => b = F) (Below.refl w.heap.size w)).set rfl
    have hs1 : w1.heap.size = w.heap.size := by rw [hw1]; simp [World.setCell]
    have HS1 : Hid (w1.heap.size = w.heap.size) := hs1
    obtain ⟨a, cap, hv, hread⟩ := HN1.out.r.below HN1.out.b
    obtain ⟨g, o, hag, hg, hc1, hc2, hc3⟩ := hread n1 (by rw [intS_len]; exact hn1l)
    rw [intS_getD _ _ hn1l, hroot] at hc1 hc2 hc3
    have hlen : (intS L0).length = L0.length := intS_len L0
    rw [hlen] at hv
    subst hv hag
    have HCB : Hid ((3, 0).2 < 256) := hc3
    have f0 : w.cell? ⟨F, 0, none⟩ = some (.int .i64 (nn : Nat)) := cell_at h.f rfl
    have ff : ∀ j, w.frozen? ⟨F, j, none⟩ = false := fun j => froz_of h.f
    have hwr : IntKind.i64.wrap ((nn : Int) - 1) = (n1 : Int) := by rw [IntKind.wrap_i64]; omega
    have s0 : w1.cell? ⟨SB, 0, none⟩ = some (.slice (some ⟨g, o, none⟩) L0.length cap) := HN1.out.sc
    have fn1 : w1.cell? ⟨F, 0, none⟩ = some (.int .i64 (n1 : Int)) := cell_at HN1.out.f rfl
    have hnl : (n1 : Int) < L0.length := by omega
    obtain ⟨w2, hw2⟩ : ∃ w2, w2 = w1.alloc (.cells #[.int .i64 3, .int .u8 0] 81) := ⟨_, rfl⟩
    have HW2 : Hid (w2 = w1.alloc (.cells #[.int .i64 3, .int .u8 0] 81)) := hw2
    have hb2 : Below w1.heap.size w1 w2 := by rw [hw2]; exact below_new _ _
    have HN2 : Hid (NTl LB w0 w2 F SB MB NX (.slice (some ⟨g, o, none⟩) L0.length cap) L0 n1) := NT.call HEST.out HN1.out hb2
    have HO2 : Hid (Only (fun b => b = F) w w2) := HO1.out.trans (Only.of hb2)
    have HS2 : Hid (w.heap.size ≤ w2.heap.size) := HO2.out.size
    have HFL2 : Hid (F < w2.heap.size) := Nat.lt_of_lt_of_le HFL.out HS2.out
    have x0 : w2.cell? ⟨w1.heap.size, 0, none⟩ = some (.int .i64 3) := by rw [hw2]; exact cell_at (heap_last _ _) rfl
    have x1 : w2.cell? ⟨w1.heap.size, 1, none⟩ = some (.int .u8 0) := by rw [hw2]; exact cell_at (heap_last _ _) rfl
    clear hw1 hw2 hb2 h hread hroot hL0 hc3 hlen hlen0 hspos hnn hn1 hn1l hn2 hLL hs1
    have HNXB : Hid (Calls Try.prog 104 #[.pointer (some ⟨F, 0, none⟩), .pointer (some ⟨SB, 0, none⟩), .pointer (some ⟨MB, 0, none⟩), .pointer (some ⟨NX, 0, none⟩)] w2 fun e w' => ∃ u, e = .returned u ∧ VL w2.heap.size u w' b ∧ NTl LB w0 w' F SB MB NX (.slice (some ⟨g, o, none⟩) L0.length cap) L0 nA ∧ Only (fun b => b = F) w2 w') := by
      have q := IHB.out w0 w2 F SB MB NX LB (.slice (some ⟨g, o, none⟩) L0.length cap) (X ++ a.sg) ((3, 0) :: Y) hLB (by rw [← HEL.out]; exact HX.out.2.2) (by rw [← HEL.out, HNAL.out, HLB.out]; exact HN2.out)
      rw [← HEL.out, HNAL.out] at q
      exact q
    have HNXA : Hid (∀ y, NTl LB w0 y F SB MB NX (.slice (some ⟨g, o, none⟩) L0.length cap) L0 nA → Calls Try.prog 104 #[.pointer (some ⟨F, 0, none⟩), .pointer (some ⟨SB, 0, none⟩), .pointer (some ⟨MB, 0, none⟩), .pointer (some ⟨NX, 0, none⟩)] y fun e w' => ∃ u, e = .returned u ∧ VL y.heap.size u w' a ∧ NTl LB w0 w' F SB MB NX (.slice (some ⟨g, o, none⟩) L0.length cap) L0 nX ∧ Only (fun b => b = F) y w') := fun y hy => by
      have q := IHA.out w0 y F SB MB NX LB (.slice (some ⟨g, o, none⟩) L0.length cap) X (b.sg ++ ((3, 0) :: Y)) hLB (by rw [← HEL2.out]; exact HX.out.2.2) (by rw [← HEL2.out, HNXL.out, HLA.out]; exact hy)
      rw [← HEL2.out, HNXL.out] at q
      exact q
    have hxc := HN2.out.xc
    go_enter Try.func104, Try.ntmps104
    go_upto_region 2 with fail
    rw [← HW1.out]
    clear f0 ff HW1
    go_upto_region 3 with fail
    rw [← HW2.out]
    clear s0 fn1 HW2 hc1 hc2
    go_wp2_with fail
    refine Calls.mono HNXB.out ?_
    rintro e ya ⟨u, rfl, hu, hna, hoa⟩
    obtain ⟨_, _, rfl⟩ := own_shape hu
    have HU : Hid _ := hu
    have HNA : Hid (NTl LB w0 ya F SB MB NX (.slice (some ⟨g, o, none⟩) L0.length cap) L0 nA) := hna
    have HOA : Hid (Only (fun b => b = F) w2 ya) := hoa
    clear hu hna hoa hxc x0 x1
    have HND : Hid (NTl LB w0 ya.drew F SB MB NX (.slice (some ⟨g, o, none⟩) L0.length cap) L0 nA) := NT.call HEST.out HNA.out (Below.refl _ _).drew
    have HOD : Hid (Only (fun b => b = F) ya ya.drew) := Only.of (Below.refl _ _).drew
    have S0 : ya.drew.cell? ⟨MB, 2, none⟩ = some (.func (Fn.func 73) #[] #[]) ∧ ya.drew.cell? ⟨NX, 0, none⟩ = some (.func (Fn.func 104) #[] #[.pointer (some ⟨F, 0, none⟩), .pointer (some ⟨SB, 0, none⟩), .pointer (some ⟨MB, 0, none⟩), .pointer (some ⟨NX, 0, none⟩)]) := ⟨HND.out.c2, HND.out.xc⟩
    have HNX : Hid _ := HNXA.out ya.drew HND.out
    go_upto_region 11 with fail
    refine wp_region_held_drew (S := fun y => y.cell? ⟨MB, 2, none⟩ = some (.func (Fn.func 73) #[] #[]) ∧ y.cell? ⟨NX, 0, none⟩ = some (.func (Fn.func 104) #[] #[.pointer (some ⟨F, 0, none⟩), .pointer (some ⟨SB, 0, none⟩), .pointer (some ⟨MB, 0, none⟩), .pointer (some ⟨NX, 0, none⟩)])) (by kernel_rfl) S0 (fun hH0 => ?_)
    clear S0
    refine wpAnyH_take (i := 0) (oi := { dst := some 36, op := Go.Op.fieldAddr 121 (Go.Operand.tmp 2) 2, type := 0, pos := "side.go:114", after := #[], guard := none }) (v := ?_) rfl (by kernel_rfl) (by kernel_rfl) (by kernel_rfl) (fun _ _ _ h => h) (Or.inl ⟨by rfl, ?_⟩) (by assumption) ?_
    rotate_left
    · intro w' hS; go_simp; (try with_reducible rfl)
    simp only [Act.put, List.setIfInBounds_toArray, List.set_cons_zero, List.set_cons_succ]
    refine wpAnyH_take (i := 1) (oi := { dst := some 37, op := Go.Op.load 119 (Go.Operand.tmp 36), type := 119, pos := "side.go:114", after := #[{ on := 0, ground := Go.Ground.data }], guard := none }) (v := .func (Fn.func 73) #[] #[]) rfl (by kernel_rfl) (by kernel_rfl) (by kernel_rfl) (fun _ _ _ h => h) (Or.inl ⟨by rfl, ?_⟩) (by assumption) ?_
    · intro w' hS; obtain ⟨z0, z1⟩ := hS; go_simp
    simp only [Act.put, List.setIfInBounds_toArray, List.set_cons_zero, List.set_cons_succ]
    refine wpAnyH_take (i := 2) (oi := { dst := some 38, op := Go.Op.load 77 (Go.Operand.tmp 3), type := 77, pos := "side.go:114", after := #[], guard := none }) (v := .func (Fn.func 104) #[] #[.pointer (some ⟨F, 0, none⟩), .pointer (some ⟨SB, 0, none⟩), .pointer (some ⟨MB, 0, none⟩), .pointer (some ⟨NX, 0, none⟩)]) rfl (by kernel_rfl) (by kernel_rfl) (by kernel_rfl) (fun _ _ _ h => h) (Or.inl ⟨by rfl, ?_⟩) (by assumption) ?_
    · intro w' hS; obtain ⟨z0, z1⟩ := hS; go_simp
    simp only [Act.put, List.setIfInBounds_toArray, List.set_cons_zero, List.set_cons_succ]
    refine wpAnyH_take (i := 4) (oi := { dst := some 40, op := Go.Op.move (Go.Operand.tmp 6), type := 22, pos := "side.go:114", after := #[], guard := none }) (v := ?_) rfl (by kernel_rfl) (by kernel_rfl) (by kernel_rfl) (fun _ _ _ h => h) (Or.inl ⟨by rfl, ?_⟩) (by assumption) ?_
    rotate_left
    · intro w' hS; go_simp; (try with_reducible rfl)
    simp only [Act.put, List.setIfInBounds_toArray, List.set_cons_zero, List.set_cons_succ]
    refine wpAnyH_ready (rs := [3]) (by kernel_rfl) (by simp) ?_
    refine AllReadyH.cons rfl (fun K hK => ?_) AllReadyH.nil
    go_simp
    refine Calls.mono HNX.out ?_
    rintro e y1 ⟨u1, rfl, hu, hn1, ho1⟩
    obtain ⟨_, _, rfl⟩ := own_shape hu
    have HU1 : Hid _ := hu
    have HN3 : Hid (NTl LB w0 y1 F SB MB NX (.slice (some ⟨g, o, none⟩) L0.length cap) L0 nX) := hn1
    have HOY : Hid (Only (fun b => b = F) ya y1) := HOD.out.trans ho1
    have HO3 : Hid (Only (fun b => b = F) w2 y1) := HOA.out.trans HOY.out
    have HU2 : Hid _ := VL.only HU.out HFL2.out HOY.out
    have hN : y1.cell? ⟨MB, 2, none⟩ = some (.func (Fn.func 73) #[] #[]) ∧ y1.cell? ⟨NX, 0, none⟩ = some (.func (Fn.func 104) #[] #[.pointer (some ⟨F, 0, none⟩), .pointer (some ⟨SB, 0, none⟩), .pointer (some ⟨MB, 0, none⟩), .pointer (some ⟨NX, 0, none⟩)]) := ⟨hn1.c2, hn1.xc⟩
    clear hu hn1 ho1
    go_wp2_with fail
    refine hK.out _ _ hN (fun hH1 => ?_)
    clear hN
    clear hK K
    refine wpAnyH_ready (rs := [5]) (by kernel_rfl) (by simp) ?_
    refine AllReadyH.cons rfl (fun K hK => ?_) AllReadyH.nil
    go_simp
    have hc9 := tu4_any a b w2.heap.size ya.drew.heap.size _ _ y1 HU1.out HU2.out HO3.out.size HAB.out
    refine Calls.mono hc9 ?_
    clear hc9
    rintro e y2 ⟨u2, rfl, hu, hb⟩
    obtain ⟨_, _, rfl⟩ := own_shape hu
    have HOV : Hid _ := hu
    have HOV2 : Hid (Only (fun b => b = F) w2 y2) := only_low HO3.out hb
    have HNV : Hid (NTl LB w0 y2 F SB MB NX (.slice (some ⟨g, o, none⟩) L0.length cap) L0 nX) := NT.only HEST.out HN2.out HOV2.out ((hb.block F HFL2.out).trans HN3.out.f) (by have := HX.out; omega)
    have hN : y2.cell? ⟨MB, 2, none⟩ = some (.func (Fn.func 73) #[] #[]) ∧ y2.cell? ⟨NX, 0, none⟩ = some (.func (Fn.func 104) #[] #[.pointer (some ⟨F, 0, none⟩), .pointer (some ⟨SB, 0, none⟩), .pointer (some ⟨MB, 0, none⟩), .pointer (some ⟨NX, 0, none⟩)]) := ⟨HNV.out.c2, HNV.out.xc⟩
    clear hu hb
    go_wp2_with fail
    refine hK.out _ _ hN (fun hH2 => ?_)
    clear hN
    clear hK K
    refine wpAnyH_take (i := 6) (oi := { dst := some 4, op := Go.Op.assign (Go.Operand.tmp 41), type := 22, pos := "side.go:114", after := #[{ on := 5, ground := Go.Ground.data }, { on := 5, ground := Go.Ground.chain }, { on := 0, ground := Go.Ground.phase }, { on := 1, ground := Go.Ground.phase }, { on := 2, ground := Go.Ground.phase }, { on := 3, ground := Go.Ground.phase }, { on := 4, ground := Go.Ground.phase }, { on := 5, ground := Go.Ground.phase }], guard := none }) (v := ?_) rfl (by kernel_rfl) (by kernel_rfl) (by kernel_rfl) (fun _ _ _ h => h) (Or.inl ⟨by rfl, ?_⟩) (by assumption) ?_
    rotate_left
    · intro w' hS; go_simp; (try with_reducible rfl)
    simp only [Act.put, List.setIfInBounds_toArray, List.set_cons_zero, List.set_cons_succ]
    refine wpAnyH_done (by kernel_rfl) ?_ _
    go_wp2_with fail
    go_ret
    exact ⟨_, rfl, own_less HOV.out HS2.out, HNV.out, HO2.out.trans HOV2.out⟩
end Go.Proofs.Ythhlamehbcidgaa
