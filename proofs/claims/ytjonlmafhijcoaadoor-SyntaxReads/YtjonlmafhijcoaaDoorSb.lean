/- Contracts of the reader's settle, join, shut and end. -/
import Derived.Test.YtjonlmafhijcoaaDoorSa
namespace Go.Proofs.YtjonlmafhijcoaaDoor
open Go Go.RowKit
set_option linter.unusedVariables false
variable {tx : ByteArray} {ps : Nat}

/-- What settle does; what waits, the last one first. -/
def settleR (least : Nat) : List Nd → List Wt → List Nd × List Wt
  | ns, [] => (ns, [])
  | ns, p :: T => if tight p.1 < least then (ns, p :: T) else settleR least (ns ++ ((if p.2 then [((9 : Int), (0 : Int))] else []) ++ [(p.1, 0)])) T
theorem settle_size (least : Nat) : ∀ (T : List Wt) (ns : List Nd), (settleR least ns T).1.length + 2 * (settleR least ns T).2.length ≤ ns.length + 2 * T.length
  | [], ns => by simp [settleR]
  | p :: T, ns => by
    unfold settleR
    split
    · simp
    · have h1 := settle_size least T (ns ++ ((if p.2 then [((9 : Int), (0 : Int))] else []) ++ [(p.1, 0)]))
      have h2 : (ns ++ ((if p.2 then [((9 : Int), (0 : Int))] else []) ++ [(p.1, 0)])).length ≤ ns.length + 2 := by
        split <;> simp
      rw [List.length_cons]
      omega
/-- All kinds that wait have their place in the table. -/
def KW (T : List Wt) : Prop := ∀ p ∈ T, 0 ≤ p.1 ∧ p.1 ≤ 9
theorem settle_kw (least : Nat) : ∀ (T : List Wt) (ns : List Nd), KW T → KW (settleR least ns T).2
  | [], ns, h => by simpa [settleR] using h
  | p :: T, ns, h => by
    unfold settleR
    split
    · exact h
    · exact settle_kw least T _ (fun q hq => h q (List.mem_cons_of_mem _ hq))
/-- The reader, what waits told from the last one on. -/
def RX (tx : ByteArray) (ps : Nat) (w0 w : World) (B : Nat) (k : Int) (due : Bool) (ns : List Nd) (T : List Wt) : Prop := RSt tx ps w0 w B k due ns T.reverse
theorem own_cut2 {w : World} {base : Nat} {e : TypeId} {xs : List Value} {a : Option Addr} {n cap : Nat} (h : w.ownsRow base e 2 (.slice a n cap) n xs) (p : Nat) (hp : p ≤ n) : w.ownsRow base e 2 (.slice a p cap) p (xs.take (p * 2)) := by
  obtain ⟨h0, h1⟩ := h
  refine ⟨by rw [List.length_take]; omega, ?_⟩
  rcases h1 with ⟨e1, hn⟩ | ⟨g, cp, cur, e1, r1, r2, r3, r4, r5, r6⟩
  · simp only [Value.slice.injEq] at e1
    obtain ⟨rfl, _, rfl⟩ := e1
    exact .inl ⟨by rw [show p = 0 by omega], by omega⟩
  · simp only [Value.slice.injEq] at e1
    obtain ⟨rfl, _, rfl⟩ := e1
    refine .inr ⟨g, cap, cur, rfl, r1, r2, by omega, r4, r5, ?_⟩
    rw [← r6, List.take_take]
    congr 1
    omega
theorem wtC_take (l : List Wt) (p : Nat) : (wtC l).take (p * 2) = wtC (l.take p) := by
  induction l generalizing p with
  | nil => simp [wtC]
  | cons x l ih =>
    cases p with
    | zero => simp [wtC]
    | succ p =>
      rw [show (p + 1) * 2 = p * 2 + 1 + 1 by omega]
      simp only [wtC, List.take_succ_cons, ih]
/-- The reader with one that waits less. -/
theorem RS.pop {w0 w : World} {B : Nat} {k : Int} {due : Bool} {ns : List Nd} {ws : List Wt} {na wa : Option Addr} {nc wc : Nat} (h : RS tx ps w0 w B k due ns ws na nc wa wc) (p : Nat) (hp : p ≤ ws.length) :
    RS tx ps w0 (w.setCell ⟨B, 3, none⟩ (.slice wa p wc)) B k due ns (ws.take p) na nc wa wc := by
  have hl : (ws.take p).length = p := by simp; omega
  have ho := own_cut2 h.wts p hp
  rw [wtC_take] at ho
  refine ⟨?_, own_set h.nod _ (by omega), own_set (by rw [hl]; exact ho) _ (by omega), h.below.setCell (p := ⟨B, 3, none⟩) (Nat.le_refl _) _, (Below.heap_setCell _ _ _ _ (by show B + 1 ≠ B; omega)).trans h.iter⟩
  rw [hl]
  exact blk_set h.blk _
theorem keeps_set {w : World} {B i : Nat} (u : Value) : Keeps w (w.setCell ⟨B, i, none⟩ u) B := fun j arr t hj _ hB => (Below.heap_setCell _ _ _ _ hB).trans hj
theorem keeps_alloc {w : World} {B : Nat} (o : Obj) : Keeps w (w.alloc o) B := fun j arr t hj _ _ => (Below.heap_alloc _ _ _ (Array.getElem?_eq_some_iff.1 hj).1).trans hj
theorem keeps_refl (w : World) (B : Nat) : Keeps w w B := fun _ _ _ h _ _ => h
def waitN (w : World) (B : Nat) : Nat := match w.cell? ⟨B, 3, none⟩ with
  | some (.slice _ n _) => n
  | _ => 0
theorem waitN_eq {w0 w : World} {B : Nat} {k : Int} {due : Bool} {ns : List Nd} {T : List Wt} (h : RX tx ps w0 w B k due ns T) : waitN w B = T.length := by
  obtain ⟨na, nc, wa, wc, h⟩ := h
  unfold waitN
  rw [h.cells.2.2.2]
  simp

set_option maxHeartbeats 8000000 in
set_option maxRecDepth 100000 in
theorem settle_any (w0 w : World) (B : Nat) (k : Int) (due : Bool) (ns : List Nd) (T : List Wt) (h : RX tx ps w0 w B k due ns T) (hn : ns.length + 2 * T.length ≤ 100000) (hk : KW T) (hT : TTab w0) (hB : 0 < B) (least : Nat) (hle : least ≤ 5) :
    Calls Tryd.prog 34 #[.pointer (some ⟨B, 0, none⟩), .int .i64 (least : Int)] w fun e w' => e = .returned (.tuple #[]) ∧ RX tx ps w0 w' B k due (settleR least ns T).1 (settleR least ns T).2 ∧ Keeps w w' B := by
  have HT : Hid (TTab w0) := hT
  have H : Hid (RX tx ps w0 w B k due ns T) := h
  clear h hT
  go_enter Tryd.func34, Tryd.ntmps34
  go_wp2_with fail
  go_loopw [] (fun wr => ∃ (ns' : List Nd) (T' : List Wt), RX tx ps w0 wr B k due ns' T' ∧ settleR least ns T = settleR least ns' T' ∧ ns'.length + 2 * T'.length ≤ 100000 ∧ KW T' ∧ Keeps w wr B) (fun wr => waitN wr B)
  case atStart => exact ⟨ns, T, H.out, rfl, hn, hk, keeps_refl _ _⟩
  case round =>
    obtain ⟨ns', T', hx, hse, hn', hk', hkp⟩ := hrel
    have HSE : Hid (settleR least ns T = settleR least ns' T') := hse
    have HKW : Hid (KW T') := hk'
    have HKP : Hid (Keeps w wr B) := hkp
    obtain ⟨na, nc, wa, wc, hrs⟩ := hx
    have HRS : Hid (RS tx ps w0 wr B k due ns' T'.reverse na nc wa wc) := hrs
    obtain ⟨c0, c1, c2, c3⟩ := hrs.cells
    clear hse hk' hkp hrs
    cases T' with
    | nil =>
      simp only [List.reverse_nil, List.length_nil] at c3
      go_wp2_with fail
      refine bodyPost_end (results_none rfl _ _ _) rfl ?_
      refine ⟨rfl, ?_, HKP.out⟩
      rw [HSE.out]
      exact ⟨_, _, _, _, HRS.out⟩
    | cons p T' =>
      obtain ⟨pk, pm⟩ := p
      have hkb := HKW.out (pk, pm) List.mem_cons_self
      simp only at hkb
      obtain ⟨j, rfl⟩ : ∃ j : Nat, pk = j := ⟨pk.toNat, by omega⟩
      have hj9 : j < 10 := by omega
      have hjI : (j : Int) < 10 := by omega
      have hlen : (((j : Int), pm) :: T').reverse.length = T'.length + 1 := by simp
      have hT' : T'.length ≤ 100000 := by simp only [List.length_cons] at hn'; omega
      have hn2 : ns'.length + 2 * T'.length + 2 ≤ 100000 := by simp only [List.length_cons] at hn'; omega
      rw [hlen] at c3
      have hrev : (((j : Int), pm) :: T').reverse = T'.reverse ++ [((j : Int), pm)] := by simp
      have hw := HRS.out.wts
      rw [hlen] at hw
      obtain ⟨wg, rfl⟩ : ∃ wg, wa = some ⟨wg, 0, none⟩ := by
        obtain ⟨_, h2⟩ := id hw
        rcases h2 with ⟨_, h2⟩ | ⟨g, cap, cur, e1, _⟩
        · omega
        · simp only [Value.slice.injEq] at e1
          exact ⟨g, e1.1⟩
      have hcapn : T'.length + 1 ≤ wc := by
        obtain ⟨_, h2⟩ := id hw
        rcases h2 with ⟨_, h2⟩ | ⟨g, cap, cur, e1, _, _, h3, _⟩
        · omega
        · simp only [Value.slice.injEq] at e1
          rw [e1.2.2]; exact h3
      have g0 := hw.cellAt (T'.length * 2) (by omega)
      have g1 := hw.cellAt (T'.length * 2 + 1) (by omega)
      have hgd : (((j : Int), pm) :: T').reverse.getD T'.length (0, false) = ((j : Int), pm) := by
        rw [hrev, List.getD_eq_getElem?_getD, List.getElem?_append_right (by simp)]; simp
      rw [(wtC_at _ T'.length (by rw [hlen]; omega)).1, hgd] at g0
      rw [(wtC_at _ T'.length (by rw [hlen]; omega)).2, hgd] at g1
      simp only at g0 g1
      have hwgB : B < wg := by have := (hw.lt wg rfl).1; omega
      have hlI : ((T'.length + 1 : Nat) : Int) - 1 = T'.length := by omega
      have hcI : (T'.length : Int) ≤ wc := by omega
      have ctt : wr.cell? ⟨0, j, none⟩ = some (.int .i64 (tight (j : Int) : Nat)) := by
        rw [below_cell HRS.out.below hB]; exact HT.out j hj9
      obtain ⟨tg, htg⟩ : ∃ tg, tight (j : Int) = tg := ⟨_, rfl⟩
      have HTG : Hid (tight (j : Int) = tg) := htg
      rw [htg] at ctt
      have hrB : B < wr.heap.size := HRS.out.lt
      have HRA : Hid (RS tx ps w0 (wr.alloc (.cells #[.int .i64 (j : Int), .bool pm] 80)) B k due ns' (((j : Int), pm) :: T').reverse na nc (some ⟨wg, 0, none⟩) wc) := HRS.out.alloc _
      have HKA : Hid (Keeps w (wr.alloc (.cells #[.int .i64 (j : Int), .bool pm] 80)) B) := HKP.out.trans (keeps_alloc _)
      have ct2 := fun O => (below_cell ((Below.refl wr.heap.size wr).alloc (Nat.le_refl _) O) (show 0 < wr.heap.size by omega) : (wr.alloc O).cell? ⟨0, j, none⟩ = _).trans ctt
      have d3 := fun O => (HRS.out.alloc O).cells.2.2.2
      simp only [hlen] at d3
      have f3 := fun O => (HRS.out.alloc O).frozen 3
      clear hw hgd hrev htg
      by_cases htl : tg < least
      · have htI : (tg : Int) < least := by omega
        have HST : Hid (settleR least ns' (((j : Int), pm) :: T') = (ns', ((j : Int), pm) :: T')) := by show _ = _; rw [settleR, if_pos (by rw [HTG.out]; exact htl)]
        go_wp2_with fail
        refine bodyPost_ret (results_none rfl _ _ _) rfl ?_
        refine ⟨rfl, ?_, HKA.out⟩
        rw [HSE.out, HST.out]
        exact ⟨_, _, _, _, HRA.out⟩
      · have htI : ¬ (tg : Int) < least := by omega
        have HST : Hid (settleR least ns' (((j : Int), pm) :: T') = settleR least (ns' ++ ((if pm then [((9 : Int), (0 : Int))] else []) ++ [((j : Int), 0)])) T') := by show _ = _; rw [settleR, if_neg (by rw [HTG.out]; exact htl)]
        have htk : (((j : Int), pm) :: T').reverse.take T'.length = T'.reverse := by
          rw [List.reverse_cons, List.take_left' (by simp)]
        have HRP : Hid (RSt tx ps w0 ((wr.setCell ⟨B, 3, none⟩ (.slice (some ⟨wg, 0, none⟩) T'.length wc)).alloc (.cells #[.int .i64 (j : Int), .bool pm] 80)) B k due ns' T'.reverse) := by
          have := (HRS.out.pop T'.length (by rw [hlen]; omega)).alloc (.cells #[.int .i64 (j : Int), .bool pm] 80)
          rw [htk] at this
          exact ⟨_, _, _, _, this⟩
        have HKQ : Hid (Keeps w ((wr.setCell ⟨B, 3, none⟩ (.slice (some ⟨wg, 0, none⟩) T'.length wc)).alloc (.cells #[.int .i64 (j : Int), .bool pm] 80)) B) := (HKP.out.trans (keeps_set _)).trans (keeps_alloc _)
        have HBW : Hid (((wr.setCell ⟨B, 3, none⟩ (.slice (some ⟨wg, 0, none⟩) T'.length wc)).alloc (.cells #[.int .i64 (j : Int), .bool pm] 80)).heap[wr.heap.size]? = some (.cells #[.int .i64 (j : Int), .bool pm] 80 (0, 0))) := by
          have := heap_alloc_new (wr.setCell ⟨B, 3, none⟩ (.slice (some ⟨wg, 0, none⟩) T'.length wc)) (.cells #[.int .i64 (j : Int), .bool pm] 80)
          show _ = _
          simpa using this
        have HKT : Hid (KW T') := fun q hq => HKW.out q (List.mem_cons_of_mem _ hq)
        have hWN : waitN wr B = T'.length + 1 := by rw [waitN_eq (T := ((j : Int), pm) :: T') ⟨_, _, _, _, HRS.out⟩]; rfl
        have HWN : Hid (waitN wr B = T'.length + 1) := hWN
        clear htk hlen hWN
        cases pm with
        | true =>
          go_wp2_with fail
          generalize hWQ : (wr.setCell ⟨B, 3, none⟩ (.slice (some ⟨wg, 0, none⟩) T'.length wc)).alloc (.cells #[.int .i64 (j : Int), .bool true] 80) = wQ at HRP HKQ HBW ⊢
          refine (put_any w0 _ B k due ns' _ HRP.out (by omega) 9).mono ?_
          rintro e w5 ⟨rfl, hr5, hk5⟩
          have HR5 : Hid (RSt tx ps w0 w5 B k due (ns' ++ [(9, 0)]) T'.reverse) := hr5
          have HK5 : Hid (Keeps w w5 B) := HKQ.out.trans hk5
          have hb5 := hk5 _ _ _ HBW.out (by decide) (by omega)
          have e0 : w5.cell? ⟨wr.heap.size, 0, none⟩ = some (.int .i64 (j : Int)) := by simp [World.cell?, hb5]
          clear hr5 hk5 hb5 hWQ
          go_wp2_with fail
          refine (put_any w0 _ B k due _ _ HR5.out (by simp; omega) (j : Int)).mono ?_
          rintro e w6 ⟨rfl, hr6, hk6⟩
          have HR6 : Hid (RX tx ps w0 w6 B k due (ns' ++ ([(9, 0)] ++ [((j : Int), 0)])) T') := by
            show RSt _ _ _ _ _ _ _ _ _
            rw [← List.append_assoc]; exact hr6
          have HK6 : Hid (Keeps w w6 B) := HK5.out.trans hk6
          clear hr6 hk6
          go_wp2_with fail
          go_roundw
          case rel => exact ⟨_, T', HR6.out, HSE.out.trans HST.out, by simp; omega, HKT.out, HK6.out⟩
          case measure => rw [waitN_eq HR6.out, HWN.out]; omega
        | false =>
          go_wp2_with fail
          generalize hWQ : (wr.setCell ⟨B, 3, none⟩ (.slice (some ⟨wg, 0, none⟩) T'.length wc)).alloc (.cells #[.int .i64 (j : Int), .bool false] 80) = wQ at HRP HKQ HBW ⊢
          refine (put_any w0 _ B k due ns' _ HRP.out (by omega) (j : Int)).mono ?_
          rintro e w6 ⟨rfl, hr6, hk6⟩
          have HR6 : Hid (RX tx ps w0 w6 B k due (ns' ++ ([] ++ [((j : Int), 0)])) T') := hr6
          have HK6 : Hid (Keeps w w6 B) := HKQ.out.trans hk6
          clear hr6 hk6 hWQ
          go_wp2_with fail
          go_roundw
          case rel => exact ⟨_, T', HR6.out, HSE.out.trans HST.out, by simp; omega, HKT.out, HK6.out⟩
          case measure => rw [waitN_eq HR6.out, HWN.out]; omega
end Go.Proofs.YtjonlmafhijcoaaDoor
