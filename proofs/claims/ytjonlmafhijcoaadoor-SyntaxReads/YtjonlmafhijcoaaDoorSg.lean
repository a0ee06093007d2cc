/- Contract of syntax.Parse. -/
import Derived.Test.YtjonlmafhijcoaaDoorSf
import Derived.Test.YtjonlmafhijcoaaDoorTv
namespace Go.Proofs.YtjonlmafhijcoaaDoor
open Go Go.RowKit Go.Lib
set_option linter.unusedVariables false
variable {tx : ByteArray} {ps : Nat}

theorem own_keep {w w' : World} {B : Nat} {e : TypeId} {size n : Nat} {v : Value} {xs : List Value} (h : w.ownsRow B e size v n xs) (hk : ∀ b, v.ownBlock = some b → w'.heap[b]? = w.heap[b]?) : w'.ownsRow B e size v n xs := by
  obtain ⟨a, b⟩ := h
  refine ⟨a, ?_⟩
  rcases b with b | ⟨g, cap, cur, e1, r, r2, r3⟩
  · exact .inl b
  · refine .inr ⟨g, cap, cur, e1, r, ?_, r3⟩
    rw [hk g (by rw [e1]; rfl)]
    exact r2
theorem iterAt_other (w : World) (j k : Nat) (s : ByteArray) (p : Nat) (h : j ≠ k) : (w.iterAt k s p).heap[j]? = w.heap[j]? := by
  simp only [World.iterAt, Array.getElem?_setIfInBounds]
  rw [if_neg (fun e => h e.symm)]
theorem RS.next {w0 w : World} {B : Nat} {k : Int} {due : Bool} {ns : List Nd} {ws : List Wt} {na wa : Option Addr} {nc wc : Nat} (h : RS tx ps w0 w B k due ns ws na nc wa wc) (p' : Nat) : RS tx p' w0 (w.iterAt (B + 1) tx p') B k due ns ws na nc wa wc := by
  have hne : ∀ {e : TypeId} {v : Value} {n : Nat} {xs : List Value}, w.ownsRow (B + 1) e 2 v n xs → ∀ b, v.ownBlock = some b → b ≠ B + 1 := fun ho b hb e => by
    obtain ⟨cur, hc⟩ := own_ty ho b hb
    rw [e, h.iter] at hc
    cases hc
  refine ⟨(iterAt_other _ _ _ _ _ (by omega)).trans h.blk, own_keep h.nod (fun b hb => iterAt_other _ _ _ _ _ (hne h.nod b hb)), own_keep h.wts (fun b hb => iterAt_other _ _ _ _ _ (hne h.wts b hb)), ?_, iterAt_heap w (B + 1) tx ps p' h.iter⟩
  exact h.below.trans ⟨rfl, rfl, rfl, by simp [World.iterAt], fun j hj => iterAt_other _ _ _ _ _ (by omega)⟩
theorem RX.next {w0 w : World} {B : Nat} {k : Int} {due : Bool} {ns : List Nd} {T : List Wt} (h : RX tx ps w0 w B k due ns T) (p' : Nat) : RX tx p' w0 (w.iterAt (B + 1) tx p') B k due ns T := by
  obtain ⟨na, nc, wa, wc, h⟩ := h
  exact ⟨na, nc, wa, wc, h.next p'⟩
/-- What Parse makes of a text: the place of the error, or the list of nodes. -/
def endS (n : Nat) : Nat ⊕ St → Nat ⊕ List Nd
  | .inl p => .inl p
  | .inr s => if s.1 then .inl n else if (settleR 1 s.2.1 s.2.2).2.isEmpty then .inr (settleR 1 s.2.1 s.2.2).1 else .inl n
def parseS (k : Int) (tx : ByteArray) : Nat ⊕ List Nd := endS tx.size (runP k tx.data.toList 0 (true, [], []))
/-- How it goes on behind a sign. -/
def onw (k : Int) (l : List UInt8) (pos : Nat) : Option St → Nat ⊕ St
  | none => .inl pos
  | some s' => runP k l (pos + 1) s'
theorem run_here {k : Int} {pos : Nat} (h : pos < tx.size) (s : St) : runP k (tx.data.toList.drop pos) pos s = if (tx[pos]).toNat = 32 then runP k (tx.data.toList.drop (pos + 1)) (pos + 1) s else onw k (tx.data.toList.drop (pos + 1)) pos (stepS k (tx[pos]).toNat s) := by
  have hl : pos < tx.data.toList.length := by simpa using h
  have e : tx.data.toList[pos] = tx[pos] := by rw [Array.getElem_toList]; rfl
  rw [List.drop_eq_getElem_cons hl, e]
  simp only [runP]
  split
  · rfl
  · cases stepS k (tx[pos]).toNat s <;> rfl
/-- What Parse answers. -/
def ParseEnd (k : Int) (tx : ByteArray) (w : World) (e : Ending) (w' : World) : Prop :=
  match parseS k tx with
  | .inl p => e = .returned (.tuple #[.slice none 0 0, .int .i64 (p : Int), .int .i64 41])
  | .inr ns => if checkV k ns = 0 then ∃ u, e = .returned (.tuple #[u, .int .i64 0, .int .i64 0]) ∧ w'.ownsRow w.heap.size 56 2 u ns.length (ndC ns) else e = .returned (.tuple #[.slice none 0 0, .int .i64 0, .int .i64 (checkV k ns)])

def iterN (w : World) (b : Nat) : Nat := match w.heap[b]? with
  | some (.stringIter _ p) => p
  | _ => 0
theorem iterN_eq {w0 w : World} {B : Nat} {k : Int} {due : Bool} {ns : List Nd} {T : List Wt} (h : RX tx ps w0 w B k due ns T) : iterN w (B + 1) = ps := by
  obtain ⟨na, nc, wa, wc, h⟩ := h
  unfold iterN
  rw [h.iter]
theorem rx_start (w : World) (k : Int) : RX tx 0 w ((w.alloc (.cells #[.int .i64 k, .bool true, .slice none 0 0, .slice none 0 0] 43)).iter tx 0) w.heap.size k true [] [] := by
  have hb : Below w.heap.size w ((w.alloc (.cells #[.int .i64 k, .bool true, .slice none 0 0, .slice none 0 0] 43)).iter tx 0) := ((Below.refl _ _).alloc (Nat.le_refl _) _).alloc (by simp) _
  have h1 := heap_alloc_new w (.cells #[.int .i64 k, .bool true, .slice none 0 0, .slice none 0 0] 43)
  have h2 := World.iter_heap (w.alloc (.cells #[.int .i64 k, .bool true, .slice none 0 0, .slice none 0 0] 43)) tx 0
  rw [World.size_alloc] at h2
  refine ⟨none, 0, none, 0, ?_, World.ownsRow_nil _ _ _ _, World.ownsRow_nil _ _ _ _, hb, h2⟩
  exact (Below.heap_alloc _ _ _ (by simp)).trans h1

set_option maxHeartbeats 8000000 in
set_option maxRecDepth 100000 in
theorem parse_any (k : Int) (hk : 1 ≤ k ∧ k ≤ 8) (w : World) (hx : tx.size ≤ 1000) (hT : TTab w) (hP : PTab w) :
    Calls Tryd.prog 9 #[.int .i64 k, .string tx] w fun e w' => ParseEnd k tx w e w' ∧ Below w.heap.size w w' := by
  have HT : Hid (TTab w) := hT
  have HP : Hid (PTab w) := hP
  have hB := hT.pos
  have hk1 : decide (k < 1) = false := by simp; omega
  have hk8 : decide (8 < k) = false := by simp; omega
  have hxI : ¬ (1000 : Int) < tx.size := by omega
  clear hT hP
  go_enter Tryd.func9, Tryd.ntmps9
  go_wp2_with fail
  have H0 : Hid (RX tx 0 w ((w.alloc (.cells #[.int .i64 k, .bool true, .slice none 0 0, .slice none 0 0] 43)).iter tx 0) w.heap.size k true [] []) := rx_start w k
  clear hk1 hk8 hxI
  go_loopw [] (fun wr => ∃ (pos : Nat) (s : St), RX tx pos w wr w.heap.size k s.1 s.2.1 s.2.2 ∧ pos ≤ tx.size ∧ runP k tx.data.toList 0 (true, [], []) = runP k (tx.data.toList.drop pos) pos s ∧ sizeS s ≤ 4 * pos ∧ KW s.2.2) (fun wr => tx.size - iterN wr (w.heap.size + 1))
  case atStart => exact ⟨0, (true, [], []), H0.out, Nat.zero_le _, rfl, Nat.le_refl _, fun q hq => absurd hq (by simp)⟩
  case round =>
    clear H0
    obtain ⟨pos, ⟨due, ns, T⟩, hr, hp, hrun, hsz, hkw⟩ := hrel
    simp only at hr hkw
    simp only [sizeS] at hsz
    have HR : Hid (RX tx pos w wr w.heap.size k due ns T) := hr
    have HRUN : Hid (runP k tx.data.toList 0 (true, [], []) = runP k (tx.data.toList.drop pos) pos (due, ns, T)) := hrun
    have HKW : Hid (KW T) := hkw
    have hit : wr.heap[w.heap.size + 1]? = some (.stringIter tx pos) := by
      obtain ⟨na, nc, wa, wc, h⟩ := hr
      exact h.iter
    clear hr hrun hkw
    by_cases hlt : pos < tx.size
    · by_cases ha : (tx[pos]'hlt).toNat < 128
      · have hnx : ∀ ty, (Instr.next (.pointer (some ⟨w.heap.size + 1, 0, none⟩)) true ty).run Tryd.prog wr = .ok (.tuple #[.bool true, .int .i64 pos, .int .i32 (tx[pos]'hlt).toNat]) (wr.iterAt (w.heap.size + 1) tx (pos + 1)) := fun ty => run_next_ascii_at wr (w.heap.size + 1) tx pos ty hit hlt ha
        have HRN : Hid (RX tx (pos + 1) w (wr.iterAt (w.heap.size + 1) tx (pos + 1)) w.heap.size k due ns T) := HR.out.next (pos + 1)
        have hhere := run_here (k := k) hlt (due, ns, T)
        obtain ⟨b, hb⟩ : ∃ b, (tx[pos]'hlt).toNat = b := ⟨_, rfl⟩
        rw [hb] at hnx hhere ha
        have HH : Hid (runP k (tx.data.toList.drop pos) pos (due, ns, T) = if b = 32 then runP k (tx.data.toList.drop (pos + 1)) (pos + 1) (due, ns, T) else onw k (tx.data.toList.drop (pos + 1)) pos (stepS k b (due, ns, T))) := hhere
        clear hb hhere hit
        by_cases h32 : b = 32
        · subst h32
          go_wp2_with fail
          go_roundw
          case rel => exact ⟨pos + 1, (due, ns, T), HRN.out, by omega, by rw [HRUN.out, HH.out, if_pos rfl], by simp only [sizeS]; omega, HKW.out⟩
          case measure => rw [iterN_eq HRN.out, iterN_eq HR.out]; omega
        · have h32b : ((b : Int) == 32) = false := by rw [beq_eq_false_iff_ne]; omega
          obtain ⟨o, ho⟩ : ∃ o, stepS k b (due, ns, T) = o := ⟨_, rfl⟩
          have HO : Hid (stepS k b (due, ns, T) = o) := ho
          have HRO : Hid (runP k tx.data.toList 0 (true, [], []) = onw k (tx.data.toList.drop (pos + 1)) pos o) := by show _ = _; rw [HRUN.out, HH.out, if_neg h32, ho]
          clear ho h32 HH
          go_wp2_with fail
          generalize wr.iterAt (w.heap.size + 1) tx (pos + 1) = wN at HRN ⊢
          refine (step_r w _ w.heap.size k due ns T HRN.out).mono ?_
          rintro e w2 ⟨rfl, rfl⟩
          cases due with
          | true =>
            simp only [if_true]
            go_wp2_with fail
            refine (begin_r w _ w.heap.size k hk true ns T HRN.out (by omega) (b : Int) (by omega)).mono ?_
            rintro e w3 ⟨rfl, hr3, hbl3⟩
            have HBl : Hid (Below w.heap.size w w3) := hbl3
            have hst : beginS k b ns T = o := HO.out
            rw [hst] at hr3 ⊢
            have HR3 : Hid (Ends3 tx (pos + 1) w w3 w.heap.size k o) := hr3
            clear hr3 hst hbl3
            cases o with
            | none =>
              have HPS : Hid (parseS k tx = .inl pos) := by show _ = _; rw [parseS, HRO.out]; rfl
              simp only [Option.isSome_none]
              go_wp2_with fail
              go_ret3
              exact ⟨by rw [ParseEnd, HPS.out]; rfl, HBl.out⟩
            | some s' =>
              obtain ⟨hs4, hk4⟩ := step_size HO.out HKW.out
              simp only [sizeS] at hs4
              simp only [Option.isSome_some]
              go_wp2_with fail
              go_roundw
              case rel => exact ⟨pos + 1, s', HR3.out s' rfl, by omega, HRO.out, by simp only [sizeS]; omega, hk4⟩
              case measure => rw [iterN_eq (HR3.out s' rfl), iterN_eq HR.out]; omega
          | false =>
            simp only [Bool.false_eq_true, if_false]
            go_wp2_with fail
            refine (follow_r w _ w.heap.size k hk ns T HRN.out (by omega) HKW.out HT.out hB (b : Int) (by omega)).mono ?_
            rintro e w3 ⟨rfl, hr3, hbl3⟩
            have HBl : Hid (Below w.heap.size w w3) := hbl3
            have hst : followS k b ns T = o := HO.out
            rw [hst] at hr3 ⊢
            have HR3 : Hid (Ends3 tx (pos + 1) w w3 w.heap.size k o) := hr3
            clear hr3 hst hbl3
            cases o with
            | none =>
              have HPS : Hid (parseS k tx = .inl pos) := by show _ = _; rw [parseS, HRO.out]; rfl
              simp only [Option.isSome_none]
              go_wp2_with fail
              go_ret3
              exact ⟨by rw [ParseEnd, HPS.out]; rfl, HBl.out⟩
            | some s' =>
              obtain ⟨hs4, hk4⟩ := step_size HO.out HKW.out
              simp only [sizeS] at hs4
              simp only [Option.isSome_some]
              go_wp2_with fail
              go_roundw
              case rel => exact ⟨pos + 1, s', HR3.out s' rfl, by omega, HRO.out, by simp only [sizeS]; omega, hk4⟩
              case measure => rw [iterN_eq (HR3.out s' rfl), iterN_eq HR.out]; omega
      · have hnx : ∀ ty, (Instr.next (.pointer (some ⟨w.heap.size + 1, 0, none⟩)) true ty).run Tryd.prog wr = .ok (.tuple #[.bool true, .int .i64 pos, .int .i32 (Utf8.decode tx pos).1]) (wr.iterAt (w.heap.size + 1) tx (pos + (Utf8.decode tx pos).2)) := fun ty => run_next_any_at wr (w.heap.size + 1) tx pos ty hit hlt
        have hhi := (decode_high tx pos hlt (by omega)).1
        have hle := decode_le tx pos
        have HRN : Hid (RX tx (pos + (Utf8.decode tx pos).2) w (wr.iterAt (w.heap.size + 1) tx (pos + (Utf8.decode tx pos).2)) w.heap.size k due ns T) := HR.out.next _
        have HPS : Hid (parseS k tx = .inl pos) := by
          show _ = _
          rw [parseS, HRUN.out, run_here (k := k) hlt (due, ns, T), if_neg (by omega), step_high hk.2 (by omega)]
          rfl
        obtain ⟨b, hb⟩ : ∃ b, (Utf8.decode tx pos).1 = b := ⟨_, rfl⟩
        obtain ⟨q, hq⟩ : ∃ q, pos + (Utf8.decode tx pos).2 = q := ⟨_, rfl⟩
        rw [hb] at hnx hhi hle
        rw [hq] at hnx HRN
        have h32b : ((b : Int) == 32) = false := by rw [beq_eq_false_iff_ne]; omega
        have HO : Hid (stepS k b (due, ns, T) = none) := step_high hk.2 (by omega) _
        clear hb hq hit ha
        go_wp2_with fail
        generalize wr.iterAt (w.heap.size + 1) tx q = wN at HRN ⊢
        refine (step_r w _ w.heap.size k due ns T HRN.out).mono ?_
        rintro e w2 ⟨rfl, rfl⟩
        cases due with
        | true =>
          simp only [if_true]
          go_wp2_with fail
          refine (begin_r w _ w.heap.size k hk true ns T HRN.out (by omega) (b : Int) (by omega)).mono ?_
          rintro e w3 ⟨rfl, hr3, hbl3⟩
          have HBl : Hid (Below w.heap.size w w3) := hbl3
          have hst : beginS k b ns T = none := HO.out
          rw [hst]
          clear hr3 hst hbl3
          simp only [Option.isSome_none]
          go_wp2_with fail
          go_ret3
          exact ⟨by rw [ParseEnd, HPS.out]; rfl, HBl.out⟩
        | false =>
          simp only [Bool.false_eq_true, if_false]
          go_wp2_with fail
          refine (follow_r w _ w.heap.size k hk ns T HRN.out (by omega) HKW.out HT.out hB (b : Int) (by omega)).mono ?_
          rintro e w3 ⟨rfl, hr3, hbl3⟩
          have HBl : Hid (Below w.heap.size w w3) := hbl3
          have hst : followS k b ns T = none := HO.out
          rw [hst]
          clear hr3 hst hbl3
          simp only [Option.isSome_none]
          go_wp2_with fail
          go_ret3
          exact ⟨by rw [ParseEnd, HPS.out]; rfl, HBl.out⟩
    · obtain rfl : pos = tx.size := by omega
      have hnx : ∀ ty, (Instr.next (.pointer (some ⟨w.heap.size + 1, 0, none⟩)) true ty).run Tryd.prog wr = .ok (.tuple #[.bool false]) wr := fun ty => run_next_end_at wr (w.heap.size + 1) tx tx.size ty hit hlt
      have HPS : Hid (parseS k tx = endS tx.size (.inr (due, ns, T))) := by
        show _ = _
        rw [parseS, HRUN.out, List.drop_of_length_le (by simp)]
        rfl
      clear hit
      cases due with
      | true =>
        go_wp2_with fail
        refine (end_due w _ w.heap.size k ns T HR.out).mono ?_
        rintro e w2 ⟨rfl, rfl⟩
        go_wp2_with fail
        go_ret3
        exact ⟨by rw [ParseEnd, HPS.out]; rfl, HR.out.below⟩
      | false =>
        obtain ⟨n', T', he⟩ : ∃ n' T', settleR 1 ns T = (n', T') := ⟨_, _, rfl⟩
        have HE : Hid (settleR 1 ns T = (n', T')) := he
        have hss := settle_size 1 T ns
        rw [he] at hss
        simp only at hss
        clear he
        go_wp2_with fail
        refine (end_r w _ w.heap.size k ns T HR.out (by omega) HKW.out HT.out hB n' T' HE.out).mono ?_
        rintro e w2 ⟨rfl, hr2⟩
        have HR2 : Hid (RX tx tx.size w w2 w.heap.size k false n' T') := hr2
        clear hr2
        cases T' with
        | cons p T' =>
          simp only [List.isEmpty_cons]
          have HP2 : Hid (parseS k tx = .inl tx.size) := by show _ = _; rw [HPS.out]; simp only [endS, HE.out]; rfl
          go_wp2_with fail
          go_ret3
          exact ⟨by rw [ParseEnd, HP2.out]; rfl, HR2.out.below⟩
        | nil =>
          simp only [List.isEmpty_nil]
          have HP2 : Hid (parseS k tx = .inr n') := by show _ = _; rw [HPS.out]; simp only [endS, HE.out]; rfl
          obtain ⟨na, nc, wa, wc, hrs⟩ := HR2.out
          have HRS : Hid (RS tx tx.size w w2 w.heap.size k false n' [] na nc wa wc) := hrs
          have c2 := hrs.cells.2.2.1
          have hwl := hrs.lt
          simp only [List.length_nil] at hss
          clear hrs
          obtain ⟨c, hc⟩ : ∃ c, checkV k n' = c := ⟨_, rfl⟩
          have HC : Hid (checkV k n' = c) := hc
          clear hc
          go_wp2_with fail
          refine (check_any k (by omega) _ n' _ (own_nreads HRS.out.nod) (by omega) (HP.out.stay HRS.out.below)).mono ?_
          rintro e w3 ⟨rfl, hb3⟩
          rw [HC.out]
          have HB3 : Hid (Below w.heap.size w w3) := go_on HRS.out.below hb3
          have HO3 : Hid (w3.ownsRow w.heap.size 56 2 (.slice na n'.length nc) n'.length (ndC n')) := own_mono (own_below HRS.out.nod hb3) (by omega)
          have c3 : w3.cell? ⟨w.heap.size, 2, none⟩ = some (.slice na n'.length nc) := by rw [below_cell hb3 hwl]; exact c2
          clear hb3 c2
          by_cases hc0 : c = 0
          · subst hc0
            go_wp2_with fail
            go_ret3
            refine ⟨?_, HB3.out⟩
            rw [ParseEnd, HP2.out]
            simp only
            rw [if_pos HC.out]
            exact ⟨_, rfl, HO3.out⟩
          · have hcb : (c != 0) = true := by simpa using hc0
            have HC0 : Hid (c ≠ 0) := hc0
            clear hc0
            go_wp2_with fail
            go_ret3
            refine ⟨?_, HB3.out⟩
            rw [ParseEnd, HP2.out]
            simp only
            rw [if_neg (by rw [HC.out]; exact HC0.out), HC.out]
            rfl
end Go.Proofs.YtjonlmafhijcoaaDoor
