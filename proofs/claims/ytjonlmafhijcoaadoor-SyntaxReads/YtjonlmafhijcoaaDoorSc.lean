/- Contracts of the reader's join, shut, end, begin, follow and step. -/
import Derived.Test.YtjonlmafhijcoaaDoorSb
namespace Go.Proofs.YtjonlmafhijcoaaDoor
open Go Go.RowKit
set_option linter.unusedVariables false
variable {tx : ByteArray} {ps : Nat}

theorem tight_le (k : Int) : tight k ≤ 5 := by unfold tight; repeat (first | omega | split)

set_option maxHeartbeats 4000000 in
set_option maxRecDepth 100000 in
theorem join_r (w0 w : World) (B : Nat) (k : Int) (due : Bool) (ns : List Nd) (T : List Wt) (h : RX tx ps w0 w B k due ns T) (hn : ns.length + 2 * T.length ≤ 90000) (hk : KW T) (hT : TTab w0) (hB : 0 < B) (j : Nat) (hj : j < 10) (m : Bool) :
    Calls Tryd.prog 46 #[.pointer (some ⟨B, 0, none⟩), .agg #[.int .i64 (j : Int), .bool m]] w fun e w' => e = .returned (.tuple #[]) ∧ RX tx ps w0 w' B k true (settleR (tight j) ns T).1 (((j : Int), m) :: (settleR (tight j) ns T).2) := by
  have HT : Hid (TTab w0) := hT
  have H : Hid (RX tx ps w0 (w.alloc (.cells #[.int .i64 (j : Int), .bool m] 80)) B k due ns T) := by
    obtain ⟨na, nc, wa, wc, h⟩ := h
    exact ⟨_, _, _, _, h.alloc _⟩
  have hBl : B < w.heap.size := by
    obtain ⟨na, nc, wa, wc, h⟩ := h
    exact h.lt
  have HBe : Hid (Below B w0 w) := by
    obtain ⟨na, nc, wa, wc, h⟩ := h
    exact h.below
  have HNB : Hid ((w.alloc (.cells #[.int .i64 (j : Int), .bool m] 80)).heap[w.heap.size]? = some (.cells #[.int .i64 (j : Int), .bool m] 80 (0, 0))) := heap_alloc_new w _
  have hjI : (j : Int) < 10 := by omega
  have ct2 : (w.alloc (.cells #[.int .i64 (j : Int), .bool m] 80)).cell? ⟨0, j, none⟩ = some (.int .i64 (tight (j : Int) : Nat)) := by
    rw [below_cell ((Below.refl w.heap.size w).alloc (Nat.le_refl _) _) (by omega), below_cell HBe.out hB]
    exact HT.out j hj
  have hss := settle_size (tight j) T ns
  have htl := tight_le (j : Int)
  obtain ⟨tg, htg⟩ : ∃ tg, tight (j : Int) = tg := ⟨_, rfl⟩
  rw [htg] at ct2 hss htl
  rw [htg]
  clear h hT htg
  go_enter Tryd.func46, Tryd.ntmps46
  go_wp2_with fail
  generalize w.alloc (.cells #[.int .i64 (j : Int), .bool m] 80) = wA at H HNB ct2 ⊢
  refine (settle_any w0 _ B k due ns T H.out (by omega) hk HT.out hB tg htl).mono ?_
  rintro e w2 ⟨rfl, hr2, hk2⟩
  have hb2 := hk2 _ _ _ HNB.out (by decide) (by omega)
  have e0 : w2.cell? ⟨w.heap.size, 0, none⟩ = some (.int .i64 (j : Int)) := by simp [World.cell?, hb2]
  have e1 : w2.cell? ⟨w.heap.size, 1, none⟩ = some (.bool m) := by simp [World.cell?, hb2]
  have HR2 : Hid (RX tx ps w0 w2 B k due (settleR tg ns T).1 (settleR tg ns T).2) := hr2
  clear hr2 hk2 hb2 ct2
  go_wp2_with fail
  refine (wait_any w0 _ B k due _ _ HR2.out (by rw [List.length_reverse]; omega) (j : Int) m).mono ?_
  rintro e w3 ⟨rfl, hr3⟩
  have HR3 : Hid (RX tx ps w0 w3 B k true (settleR tg ns T).1 (((j : Int), m) :: (settleR tg ns T).2)) := by
    show RSt _ _ _ _ _ _ _ _ _
    rw [List.reverse_cons]; exact hr3
  clear hr3
  go_wp2_with fail
  refine bodyPost_end (results_none rfl _ _ _) rfl ?_
  exact ⟨rfl, HR3.out⟩

set_option maxHeartbeats 4000000 in
set_option maxRecDepth 100000 in
theorem shut_r (w0 w : World) (B : Nat) (k : Int) (due : Bool) (ns : List Nd) (T : List Wt) (h : RX tx ps w0 w B k due ns T) (hn : ns.length + 2 * T.length ≤ 90000) (hk : KW T) (hT : TTab w0) (hB : 0 < B) (n' : List Nd) (T' : List Wt) (he : settleR 1 ns T = (n', T')) :
    Calls Tryd.prog 47 #[.pointer (some ⟨B, 0, none⟩)] w fun e w' => e = .returned (.bool (!T'.isEmpty)) ∧ RX tx ps w0 w' B k due n' T'.tail := by
  have HT : Hid (TTab w0) := hT
  have H : Hid (RX tx ps w0 w B k due ns T) := h
  have ct2 : w.cell? ⟨0, 5, none⟩ = some (.int .i64 1) := by
    obtain ⟨na, nc, wa, wc, h⟩ := h
    rw [below_cell h.below hB]
    exact HT.out 5 (by decide)
  have hss := settle_size 1 T ns
  have HE : Hid (settleR 1 ns T = (n', T')) := he
  rw [he] at hss
  simp only at hss
  clear h hT he
  go_enter Tryd.func47, Tryd.ntmps47
  go_wp2_with fail
  refine (settle_any w0 _ B k due ns T H.out (by omega) hk HT.out hB 1 (by decide)).mono ?_
  rintro e w2 ⟨rfl, hr2, hk2⟩
  rw [HE.out] at hr2
  obtain ⟨na, nc, wa, wc, hr⟩ := hr2
  have HR : Hid (RS tx ps w0 w2 B k due n' T'.reverse na nc wa wc) := hr
  have c3 := hr.cells.2.2.2
  have f3 := hr.frozen 3
  clear hk2 hr ct2
  cases T' with
  | nil =>
    simp only [List.reverse_nil, List.length_nil] at c3
    go_wp2_with fail
    go_ret
    exact ⟨rfl, _, _, _, _, HR.out⟩
  | cons p T' =>
    have hlen : (p :: T').reverse.length = T'.length + 1 := by simp
    rw [hlen] at c3
    have hlI : ((T'.length + 1 : Nat) : Int) - 1 = T'.length := by omega
    have hcI : (T'.length : Int) ≤ wc := by
      obtain ⟨_, h2⟩ := HR.out.wts
      rw [hlen] at h2
      rcases h2 with ⟨_, h2⟩ | ⟨g, cap, cur, e1, _, _, h3, _⟩
      · omega
      · simp only [Value.slice.injEq] at e1
        rw [e1.2.2]; omega
    have hneg : ¬ (T'.length : Int) < 0 := by omega
    have HP : Hid (RSt tx ps w0 (w2.setCell ⟨B, 3, none⟩ (.slice wa T'.length wc)) B k due n' T'.reverse) := by
      have := HR.out.pop T'.length (by rw [hlen]; omega)
      rw [List.reverse_cons, List.take_left' (by simp)] at this
      exact ⟨_, _, _, _, this⟩
    simp only [List.length_cons] at hss
    clear hlen
    go_wp2_with fail
    go_ret
    exact ⟨rfl, HP.out⟩

set_option maxHeartbeats 4000000 in
set_option maxRecDepth 100000 in
theorem end_due (w0 w : World) (B : Nat) (k : Int) (ns : List Nd) (T : List Wt) (h : RX tx ps w0 w B k true ns T) :
    Calls Tryd.prog 20 #[.pointer (some ⟨B, 0, none⟩)] w fun e w' => e = .returned (.bool false) ∧ w' = w := by
  obtain ⟨na, nc, wa, wc, hr⟩ := h
  have c1 := hr.cells.2.1
  clear hr
  go_enter Tryd.func20, Tryd.ntmps20
  go_wp2_with fail
  go_ret
  exact ⟨rfl, rfl⟩

set_option maxHeartbeats 4000000 in
set_option maxRecDepth 100000 in
theorem end_r (w0 w : World) (B : Nat) (k : Int) (ns : List Nd) (T : List Wt) (h : RX tx ps w0 w B k false ns T) (hn : ns.length + 2 * T.length ≤ 90000) (hk : KW T) (hT : TTab w0) (hB : 0 < B) (n' : List Nd) (T' : List Wt) (he : settleR 1 ns T = (n', T')) :
    Calls Tryd.prog 20 #[.pointer (some ⟨B, 0, none⟩)] w fun e w' => e = .returned (.bool T'.isEmpty) ∧ RX tx ps w0 w' B k false n' T' := by
  have HT : Hid (TTab w0) := hT
  have H : Hid (RX tx ps w0 w B k false ns T) := h
  have ct2 : w.cell? ⟨0, 5, none⟩ = some (.int .i64 1) := by
    obtain ⟨na, nc, wa, wc, h⟩ := h
    rw [below_cell h.below hB]
    exact HT.out 5 (by decide)
  have c1 : w.cell? ⟨B, 1, none⟩ = some (.bool false) := by
    obtain ⟨na, nc, wa, wc, h⟩ := h
    exact h.cells.2.1
  have hss := settle_size 1 T ns
  have HE : Hid (settleR 1 ns T = (n', T')) := he
  rw [he] at hss
  simp only at hss
  clear h hT he
  go_enter Tryd.func20, Tryd.ntmps20
  go_wp2_with fail
  refine (settle_any w0 _ B k false ns T H.out (by omega) hk HT.out hB 1 (by decide)).mono ?_
  rintro e w2 ⟨rfl, hr2, hk2⟩
  rw [HE.out] at hr2
  obtain ⟨na, nc, wa, wc, hr⟩ := hr2
  have HR : Hid (RS tx ps w0 w2 B k false n' T'.reverse na nc wa wc) := hr
  have c3 := hr.cells.2.2.2
  clear hk2 hr ct2 c1
  cases T' with
  | nil =>
    simp only [List.reverse_nil, List.length_nil] at c3
    go_wp2_with fail
    go_ret
    exact ⟨rfl, _, _, _, _, HR.out⟩
  | cons p T' =>
    have hlen : (p :: T').reverse.length = T'.length + 1 := by simp
    rw [hlen] at c3
    have hb : (((T'.length + 1 : Nat) : Int) == 0) = false := by rw [beq_eq_false_iff_ne]; omega
    go_wp2_with fail
    go_ret
    exact ⟨rfl, _, _, _, _, HR.out⟩
end Go.Proofs.YtjonlmafhijcoaaDoor
