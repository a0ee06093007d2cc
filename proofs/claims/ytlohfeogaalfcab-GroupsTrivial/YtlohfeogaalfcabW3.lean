/- Rz E74 E75, in one text. -/
import Derived.Deep.RegionHeld3
import Derived.Test.YtlohfeogaalfcabRows
import Derived.Test.YtlohfeogaalfcabW2
namespace Go.Proofs.Ytlohfeogaalfcab
open Go
set_option linter.unusedVariables false

section
variable {P : Program} {ops : Array Oper} {Q : Exit → Act → World → Prop} {md : Region.Mode} {S : World → Prop} {z : Nat}

/-- Whatever order is picked, and S holds behind each operation but z. -/
def wpAnyL (P : Program) (md : Region.Mode) (ops : Array Oper) (Q : Exit → Act → World → Prop) (S : World → Prop) (z : Nat) : Nat → Array Bool → Act → World → Prop
  | 0, listed, a, w => Region.ready md ops listed = [] ∧ Q .normal a w
  | fuel + 1, listed, a, w =>
    (Region.ready md ops listed = [] → Q .normal a w) ∧
    ∀ i ∈ Region.ready md ops listed, wpOp P ops Q i (fun a' w' => (i ≠ z → S w') ∧ wpAnyL P md ops Q S z fuel (listed.setIfInBounds i true) a' w') a w

theorem wpAny_of_L : ∀ (fuel : Nat) (listed : Array Bool) (a : Act) (w : World), wpAnyL P md ops Q S z fuel listed a w → wpAny P md ops Q fuel listed a w
  | 0, _, _, _, h => h
  | fuel + 1, _, _, _, h => ⟨h.1, fun i hi => wpOp_mono (fun a' w' h' => wpAny_of_L fuel _ a' w' h'.2) (h.2 i hi)⟩

/-- What has come up waits for nothing that has not. -/
def Cl (md : Region.Mode) (ops : Array Oper) (listed : Array Bool) : Prop := ∀ (j : Nat) (o : Oper), ops[j]? = some o → listed.getD j true = true → ∀ e ∈ o.after, Region.binds md e = true → listed.getD e.on false = true

def closedB (md : Region.Mode) (ops : Array Oper) (listed : Array Bool) : Bool := (List.range ops.size).all fun j => match ops[j]? with
  | some o => !(listed.getD j true) || o.after.all fun e => !(Region.binds md e) || listed.getD e.on false
  | none => true

theorem closed_spec {listed : Array Bool} (h : closedB md ops listed = true) : Cl md ops listed := by
  intro j o ho hl e he hb
  unfold closedB at h
  rw [List.all_eq_true] at h
  have := h j (List.mem_range.2 (Array.getElem?_eq_some_iff.1 ho).1)
  rw [ho] at this
  simp only [hl, Bool.not_true, Bool.false_or, Array.all_eq_true_iff_forall_mem] at this
  have := this e he
  rw [hb] at this
  simpa using this

/-- All others lead to z. -/
def chainB (md : Region.Mode) (ops : Array Oper) (z : Nat) : Bool := decide (z + 1 = ops.size) && (List.range z).all fun i => (List.range ops.size).any fun k => decide (i < k) && (match ops[k]? with
  | some o => o.after.any fun e => Region.binds md e && decide (e.on = i)
  | none => false)

theorem getD_tf {listed : Array Bool} {i : Nat} (h : listed.getD i false = true) : listed.getD i true = true := by
  unfold Array.getD at *
  split at h
  · rename_i hl
    rw [dif_pos hl]
    exact h
  · cases h

theorem all_listed {listed : Array Bool} (hC : chainB md ops z = true) (hcl : Cl md ops listed) (hz : z ∈ Region.ready md ops listed) : ∀ n i, z ≤ i + n → i < z → listed.getD i true = true := by
  unfold chainB at hC
  rw [Bool.and_eq_true, decide_eq_true_iff, List.all_eq_true] at hC
  obtain ⟨_, oz, hoz, haz⟩ := mem_ready.1 hz
  intro n
  induction n with
  | zero => intro i h1 h2; omega
  | succ n ih =>
    intro i h1 h2
    have := hC.2 i (List.mem_range.2 h2)
    rw [List.any_eq_true] at this
    obtain ⟨k, hk, hk2⟩ := this
    rw [List.mem_range] at hk
    rw [Bool.and_eq_true, decide_eq_true_iff] at hk2
    obtain ⟨hik, hk3⟩ := hk2
    cases ho : ops[k]? with
    | none => rw [ho] at hk3; cases hk3
    | some o =>
      rw [ho] at hk3
      simp only [Array.any_eq_true'] at hk3
      obtain ⟨e, he, hk4⟩ := hk3
      rw [Bool.and_eq_true, decide_eq_true_iff] at hk4
      obtain ⟨hb, rfl⟩ := hk4
      by_cases hkz : k = z
      · subst hkz
        rw [hoz, Option.some.injEq] at ho
        subst ho
        exact getD_tf (haz e he hb)
      · have := ih k (by omega) (by omega)
        exact getD_tf (hcl k o ho this e he hb)

theorem cl_step {listed : Array Bool} {j : Nat} (hcl : Cl md ops listed) (hj : j ∈ Region.ready md ops listed) : Cl md ops (listed.setIfInBounds j true) := by
  obtain ⟨_, oj, hoj, haj⟩ := mem_ready.1 hj
  have up : ∀ i, listed.getD i false = true → (listed.setIfInBounds j true).getD i false = true := fun i hi => by
    by_cases e : j = i
    · subst e
      unfold Array.getD at *
      split at hi
      · rename_i hl
        rw [dif_pos (by simpa using hl)]
        simp
      · cases hi
    · rw [getD_set_ne false e]; exact hi
  intro k o ho hl e he hb
  by_cases c : j = k
  · subst c
    rw [hoj, Option.some.injEq] at ho
    subst ho
    exact up _ (haj e he hb)
  · rw [getD_set_ne true c] at hl
    exact up _ (hcl k o ho hl e he hb)

theorem wpAnyL_first {i : Nat} {oi : Oper} {v : Value} (hC : chainB md ops z = true) (hiz : i < z) (hi : ops[i]? = some oi) (hsel : ∀ (j : Nat) (o : Oper) cs b, ops[j]? = some o → o.op ≠ .select cs b)
    (hQ : ∀ c a w, Q (.panic c) (a.put oi.dst v) w → Q (.panic c) a w) :
    ∀ (fuel : Nat) (listed : Array Bool) (a : Act) (w : World), Cl md ops listed →
      (∀ j oj, ops[j]? = some oj → j ≠ i → listed.getD j true = false → (∀ e ∈ oj.after, Region.binds md e = true → e.on ≠ i) → oi.apart ops oj = true) →
      i ∈ Region.ready md ops listed → YieldsIf P ops S oi v a → S w →
      wpAnyL P md ops Q S z fuel (listed.setIfInBounds i true) (a.put oi.dst v) w → wpAnyL P md ops Q S z (fuel + 1) listed a w := by
  intro fuel
  induction fuel with
  | zero =>
    intro listed a w hcl _ hr hy hS H
    refine ⟨fun h => (by rw [h] at hr; cases hr), fun j hj => ?_⟩
    by_cases hji : j = i
    · subst hji; exact hy.wpOp hi hS ⟨fun _ => hS, H⟩
    · have := ready_mono hj hji
      rw [H.1] at this
      cases this
  | succ fuel ih =>
    intro listed a w hcl hfree hr hy hS H
    refine ⟨fun h => (by rw [h] at hr; cases hr), fun j hj => ?_⟩
    by_cases hji : j = i
    · subst hji; exact hy.wpOp hi hS ⟨fun _ => hS, H⟩
    · have hjz : j ≠ z := fun e => by
        subst e
        have h1 := all_listed hC hcl hj j i (by omega) hiz
        rw [(mem_ready.1 hr).1] at h1
        cases h1
      have h1 := H.2 j (ready_mono hj hji)
      obtain ⟨hjun, oj, hoj, hall⟩ := mem_ready.1 hj
      have hnot : ∀ e ∈ oj.after, Region.binds md e = true → e.on ≠ i := fun e he hb heq => by
        have h1 := hall e he hb
        have h0 := (mem_ready.1 hr).1
        rw [heq] at h1
        rw [getD_tf h1] at h0
        cases h0
      have h2 := wpOp_putIf hoj (hfree j oj hoj hji hjun hnot) (fun cs b => hsel i oi cs b hi) (fun cs b => hsel j oj cs b hoj) hQ hy h1
      have hfree' : ∀ k ok, ops[k]? = some ok → k ≠ i → (listed.setIfInBounds j true).getD k true = false →
          (∀ e ∈ ok.after, Region.binds md e = true → e.on ≠ i) → oi.apart ops ok = true := fun k ok hk hki hun hno => by
        refine hfree k ok hk hki ?_ hno
        by_cases hjk : j = k
        · subst hjk; exact hjun
        · rw [getD_set_ne true hjk] at hun; exact hun
      refine wpOp_mono (fun a' w' h3 => ⟨h3.2.1, ih (listed.setIfInBounds j true) a' w' (cl_step hcl hj) hfree' (ready_mono hr (Ne.symm hji)) h3.1 (h3.2.1 hjz) ?_⟩) h2
      rw [Array.setIfInBounds_comm _ _ hji]
      exact h3.2.2

theorem wpAnyL_take {i : Nat} {oi : Oper} {v : Value} {fuel : Nat} {listed : Array Bool} {a : Act} {w : World} (hi : ops[i]? = some oi)
    (hC : chainB md ops z = true) (hcl : closedB md ops listed = true) (hiz : decide (i < z) = true)
    (hs : Region.noSelect ops = true) (hf : Region.free md ops listed i = true) (hr : (Region.ready md ops listed).contains i = true)
    (hQ : ∀ c a w, Q (.panic c) (a.put oi.dst v) w → Q (.panic c) a w) (hy : YieldsIf P ops S oi v a) (hS : S w)
    (h : wpAnyL P md ops Q S z fuel (listed.setIfInBounds i true) (a.put oi.dst v) w) : wpAnyL P md ops Q S z (fuel + 1) listed a w :=
  wpAnyL_first hC (of_decide_eq_true hiz) hi (Region.noSelect_spec hs) hQ fuel listed a w (closed_spec hcl) (Region.free_spec hi hf) (by simpa using hr) hy hS h

def AllReadyL (P : Program) (md : Region.Mode) (ops : Array Oper) (Q : Exit → Act → World → Prop) (S : World → Prop) (z fuel : Nat) (listed : Array Bool) (a : Act) (w : World) (rs : List Nat) : Prop :=
  ∀ i ∈ rs, wpOp P ops Q i (fun a' w' => (i ≠ z → S w') ∧ wpAnyL P md ops Q S z fuel (listed.setIfInBounds i true) a' w') a w

theorem AllReadyL.nil {fuel : Nat} {listed : Array Bool} {a : Act} {w : World} : AllReadyL P md ops Q S z fuel listed a w [] := fun _ h => by cases h

theorem AllReadyL.cons {fuel : Nat} {listed : Array Bool} {a : Act} {w : World} {i : Nat} {o : Oper} {rs : List Nat} (ho : ops[i]? = some o)
    (h : ∀ K' : Act → World → Prop, Shut (∀ a w, S w → (S w → wpAnyL P md ops Q S z fuel (listed.setIfInBounds i true) a w) → K' a w) → if Region.wanted o (yielded ops a.tmps) = true then Oper.wp P o a w K' Q else K' (a.put o.dst undef) w)
    (hs : AllReadyL P md ops Q S z fuel listed a w rs) : AllReadyL P md ops Q S z fuel listed a w (i :: rs) := fun j hj => by
  rcases List.mem_cons.1 hj with rfl | hj
  · exact wpOp_step ho (fun K' hK => h K' (fun a w hS hW => hK a w ⟨fun _ => hS, hW hS⟩))
  · exact hs j hj

/-- The last operation comes up: nothing is asked of the world behind it. -/
theorem AllReadyL.last {fuel : Nat} {listed : Array Bool} {a : Act} {w : World} {o : Oper} (ho : ops[z]? = some o)
    (h : ∀ K' : Act → World → Prop, Shut (∀ a w, wpAnyL P md ops Q S z fuel (listed.setIfInBounds z true) a w → K' a w) → if Region.wanted o (yielded ops a.tmps) = true then Oper.wp P o a w K' Q else K' (a.put o.dst undef) w) : AllReadyL P md ops Q S z fuel listed a w [z] := fun j hj => by
  rcases List.mem_cons.1 hj with rfl | hj
  · exact wpOp_step ho (fun K' hK => h K' (fun a w hW => hK a w ⟨fun q => absurd rfl q, hW⟩))
  · cases hj

theorem wpAnyL_ready {rs : List Nat} {fuel : Nat} {listed : Array Bool} {a : Act} {w : World} (hr : Region.ready md ops listed = rs) (hne : rs ≠ [])
    (h : AllReadyL P md ops Q S z fuel listed a w rs) : wpAnyL P md ops Q S z (fuel + 1) listed a w := ⟨fun h0 => absurd (hr ▸ h0) hne, hr ▸ h⟩

theorem wpAnyL_done {listed : Array Bool} {a : Act} {w : World} (hr : Region.ready md ops listed = []) (h : Q .normal a w) : ∀ fuel, wpAnyL P md ops Q S z fuel listed a w
  | 0 => ⟨hr, h⟩
  | _ + 1 => ⟨fun _ => h, by rw [hr]; simp⟩

/-- The beginning. -/
theorem wp_region_L (z : Nat) (S : World → Prop) {id : Nat} {a : Act} {w : World} (hm : P.follows .mixedOrders = true) (hS : S w.drew)
    (h : S w.drew → wpAnyL P .any ops Q S z ops.size (Array.replicate ops.size false) a w.drew) : (Code.region id ops true).wp P Q a w :=
  wp_region_any hm (wpAny_of_L _ _ _ _ (h hS))

end
end Go.Proofs.Ytlohfeogaalfcab

namespace Go.Proofs.Ytlohfeogaalfcab
open Go Go.RowKit Go.Lib Go.Maps
set_option linter.unusedVariables false
attribute [-instance] List.instBEq instBEqProd

/-- What a member's period and inverse are. -/
def PIk (K : Nat) (N : List Nat) (l P I : List Nat) (j : Nat) : Prop := (∃ t, TR (rm K N (l.getD j 0)) 0 t (P.getD j 0)) ∧ I.getD j 0 = plN l (pwN K N (l.getD j 0) (2 * P.getD j 0 - 1))

/-- What rollOf answers: a roll. -/
def RoL (K : Nat) (N : List Nat) (e : Nat) (l : List Nat) (w : World) (en : Ending) (w' : World) : Prop :=
  ∃ (gm cm mb pb ib : Nat) (D : DataW Unit) (P I : List Nat), en = .returned (.agg (roC gm l.length cm mb pb ib (plN l e : Nat))) ∧ PM l l.length D ∧
    OwnN w' w.heap.size (.slice (some ⟨gm, 0, none⟩) l.length cm) l ∧ w'.ownsMap Try.prog 3 (plainElem Try.prog 3) mb l.length D ∧ PR w' pb P [] ∧ PR w' ib I [] ∧ P.length = l.length ∧ I.length = l.length ∧
    (∀ j, j < l.length → PIk K N l P I j) ∧ w.heap.size ≤ gm ∧ w.heap.size ≤ mb ∧ w.heap.size ≤ pb ∧ w.heap.size ≤ ib ∧ Below w.heap.size w w'
def RoQ (K n : Nat) (N : List Nat) (e : Nat) (w : World) (en : Ending) (w' : World) : Prop := RoL K N e (thL n (hcE K N e)) w en w'

theorem roC_facts {y : World} {b gm n cm mb pb ib : Nat} {one : Int} (h : y.heap[b]? = some (.cells (roC gm n cm mb pb ib one) 117 (0, 0))) : (y.cell? ⟨b, 0, none⟩ = some (.slice (some ⟨gm, 0, none⟩) n cm) ∧ y.cell? ⟨b, 1, none⟩ = some (.map (some mb)) ∧ y.cell? ⟨b, 2, none⟩ = some (.slice (some ⟨pb, 0, none⟩) n n) ∧ y.cell? ⟨b, 3, none⟩ = some (.slice (some ⟨ib, 0, none⟩) n n) ∧ y.cell? ⟨b, 4, none⟩ = some (.int .i64 one)) ∧ ∀ o, y.frozen? ⟨b, o, none⟩ = false :=
  ⟨⟨cell_at h rfl, cell_at h rfl, cell_at h rfl, cell_at h rfl, cell_at h rfl⟩, fun o => frz_at h⟩

theorem RS.done {w : World} {l : List Nat} {gm cm tb mb pb ib : Nat} {D : DataW Unit} {P I : List Nat} {y : World} (h : RS w l gm cm tb mb pb ib l.length 0 D P I y) (X x0 x1 x2 x3 x4 : Value) :
    ((((((y.setCell ⟨tb, 4, none⟩ X).setCell ⟨w.heap.size, 0, none⟩ x0).setCell ⟨w.heap.size, 1, none⟩ x1).setCell ⟨w.heap.size, 2, none⟩ x2).setCell ⟨w.heap.size, 3, none⟩ x3).setCell ⟨w.heap.size, 4, none⟩ x4).heap[w.heap.size]? = some (.cells #[x0, x1, x2, x3, x4] 117 (0, 0)) ∧
    OwnN ((((((y.setCell ⟨tb, 4, none⟩ X).setCell ⟨w.heap.size, 0, none⟩ x0).setCell ⟨w.heap.size, 1, none⟩ x1).setCell ⟨w.heap.size, 2, none⟩ x2).setCell ⟨w.heap.size, 3, none⟩ x3).setCell ⟨w.heap.size, 4, none⟩ x4) w.heap.size (.slice (some ⟨gm, 0, none⟩) l.length cm) l ∧
    ((((((y.setCell ⟨tb, 4, none⟩ X).setCell ⟨w.heap.size, 0, none⟩ x0).setCell ⟨w.heap.size, 1, none⟩ x1).setCell ⟨w.heap.size, 2, none⟩ x2).setCell ⟨w.heap.size, 3, none⟩ x3).setCell ⟨w.heap.size, 4, none⟩ x4).ownsMap Try.prog 3 (plainElem Try.prog 3) mb l.length D ∧
    PR ((((((y.setCell ⟨tb, 4, none⟩ X).setCell ⟨w.heap.size, 0, none⟩ x0).setCell ⟨w.heap.size, 1, none⟩ x1).setCell ⟨w.heap.size, 2, none⟩ x2).setCell ⟨w.heap.size, 3, none⟩ x3).setCell ⟨w.heap.size, 4, none⟩ x4) pb P [] ∧
    PR ((((((y.setCell ⟨tb, 4, none⟩ X).setCell ⟨w.heap.size, 0, none⟩ x0).setCell ⟨w.heap.size, 1, none⟩ x1).setCell ⟨w.heap.size, 2, none⟩ x2).setCell ⟨w.heap.size, 3, none⟩ x3).setCell ⟨w.heap.size, 4, none⟩ x4) ib I [] ∧
    Below w.heap.size w ((((((y.setCell ⟨tb, 4, none⟩ X).setCell ⟨w.heap.size, 0, none⟩ x0).setCell ⟨w.heap.size, 1, none⟩ x1).setCell ⟨w.heap.size, 2, none⟩ x2).setCell ⟨w.heap.size, 3, none⟩ x3).setCell ⟨w.heap.size, 4, none⟩ x4) := by
  obtain ⟨f1, f2, f3, f4, f5, f6, f7, f8, f9⟩ := h.facts
  obtain ⟨n1, n2, n3, n4, n5, n6, n7, n8⟩ := h.ne
  have k : ∀ b, b ≠ tb → b ≠ w.heap.size → ((((((y.setCell ⟨tb, 4, none⟩ X).setCell ⟨w.heap.size, 0, none⟩ x0).setCell ⟨w.heap.size, 1, none⟩ x1).setCell ⟨w.heap.size, 2, none⟩ x2).setCell ⟨w.heap.size, 3, none⟩ x3).setCell ⟨w.heap.size, 4, none⟩ x4).heap[b]? = y.heap[b]? := fun b h1 h2 => (ro_oth h2 _ _ _ _ _).trans (heap_set_other h1)
  refine ⟨ro_set ((heap_set_other (Ne.symm f6)).trans h.rcx) _ _ _ _ _, h.mem.keep (k _ (Ne.symm f7) (by omega)), ?_, (k _ (Ne.symm f8) (by omega)).trans h.ps, (k _ (Ne.symm f9) (by omega)).trans h.is, ?_⟩
  · obtain ⟨es, clock, q, F, hs, hD⟩ := h.mp
    exact ⟨es, clock, (k _ f3 f1).trans q, F, hs, hD⟩
  · refine (((((h.bel.setCell (p := ⟨tb, 4, none⟩) ?_ _).setCell (p := ⟨w.heap.size, 0, none⟩) ?_ _).setCell (p := ⟨w.heap.size, 1, none⟩) ?_ _).setCell (p := ⟨w.heap.size, 2, none⟩) ?_ _).setCell (p := ⟨w.heap.size, 3, none⟩) ?_ _).setCell (p := ⟨w.heap.size, 4, none⟩) ?_ _
    · show w.heap.size ≤ tb; omega
    all_goals exact Nat.le_refl _

theorem results_roll {fn : Func} {p : Tmp} (h : fn.results = #[.cell p 117]) {tmps : Array Value} {b : Nat} {arr : Array Value} {w : World} (hp : tmps.getD p undef = .pointer (some ⟨b, 0, none⟩)) (hc : w.heap[b]? = some (.cells arr 117 (0, 0))) (hs : arr.size = 5) :
    (results fn tmps).run Try.prog w = .ok (.agg arr) w :=
  results_cell_row h tmps w b 117 arr (0, 0) _ hp hc Try.underlying117 rfl (by rw [Try.info_roll, hs])

set_option maxHeartbeats 8000000 in
set_option maxRecDepth 100000 in
theorem rollOf_any {w : World} {ob : Nat} {A : Aut} {M : List (List Nat)} {N : List Nat} (h : MO w ob A M N) (e : Nat) (he : e < M.length) (hee : pr A.k.toNat N e e = e) :
    Calls Try.prog 55 #[.pointer (some ⟨ob, 0, none⟩), .int .i64 (e : Nat)] w (RoQ A.k.toNat M.length N e w) := by
  obtain ⟨w0, hw0⟩ : ∃ w0, w0 = w.alloc (.cells roZ 117) := ⟨_, rfl⟩
  have HW0 : Hid (w0 = w.alloc (.cells roZ 117)) := hw0
  have HB0 : Hid (Below w.heap.size w w0) := by show Below _ _ _; rw [hw0]; exact below_new _ _
  have HR0 : Hid (w0.heap[w.heap.size]? = some (.cells roZ 117 (0, 0))) := by show _ = _; rw [hw0]; exact heap_last _ _
  have HZ0 : Hid (w0.heap.size = w.heap.size + 1) := by show _ = _; rw [hw0]; simp
  have HM : Hid (MO w0 ob A M N) := h.below HB0.out
  have HMON : Hid (Mon A M N) := h.mon
  have HMW : Hid (MO w ob A M N) := h
  have HE : Hid (e < M.length ∧ pr A.k.toNat N e e = e) := ⟨he, hee⟩
  have HI : Hid _ := membersAt_any HM.out e he hee
  have h512 := h.mon.most
  obtain ⟨l, hl⟩ : ∃ l, thL M.length (hcE A.k.toNat N e) = l := ⟨_, rfl⟩
  have HL : Hid (thL M.length (hcE A.k.toNat N e) = l) := hl
  have hl5 : l.length ≤ 512 := by rw [← hl]; exact Nat.le_trans (thL_len _ _) h512
  have HND : Hid (∀ i j, i < l.length → j < l.length → l.getD i 0 = l.getD j 0 → i = j) := by show ∀ i j, _; rw [← hl]; exact thL_nodup _ _
  have HLM : Hid (∀ j, j < l.length → l.getD j 0 < M.length) := fun j hj => by
    have : l.getD j 0 ∈ thL M.length (hcE A.k.toNat N e) := by rw [hl, List.getD_eq_getElem?_getD, List.getElem?_eq_getElem hj]; exact List.getElem_mem hj
    exact (mem_thL.1 this).1
  have hpos : 0 < l.length := by
    rw [← hl]
    refine List.length_pos_of_mem (a := e) (mem_thL.2 ⟨he, ?_⟩)
    unfold hcE
    rw [omE_true ⟨1, by omega, h.mon.pw_one he, hee⟩]
    unfold btE
    rw [hee, hee]
    simp
  unfold MmQ at HI
  unfold RoQ
  rw [hl] at HI
  rw [hl]
  clear h hw0 he hee hl h512
  obtain ⟨i0, hi0, hz0, hz1, hz2⟩ := info_parts Try.info_int
  have hmk := fun w0 => run_make (P := Try.prog) w0 22 3 i0 (.int .i64 0) Try.underlying22 hi0 hz0 .i64 .i64 (l.length : Int) (l.length : Int) (by omega) (by omega) (by rw [hz2]; omega) (by omega)
  rw [hz1] at hmk
  simp only [Nat.mul_one] at hmk
  clear hi0 hz0 hz1 hz2
  go_enter Try.func55, Try.ntmps55
  go_wp2_with fail
  rw [show (#[.slice none 0 0, .map none, .slice none 0 0, .slice none 0 0, .int .i64 0] : Array Value) = roZ from rfl, ← HW0.out]
  refine Calls.mono HI.out ?_
  rintro en w1 ⟨v, rfl, ho, hb⟩
  obtain ⟨gm, cm, rfl, hgm⟩ : ∃ gm cm, v = .slice (some ⟨gm, 0, none⟩) l.length cm ∧ w0.heap.size ≤ gm ∧ gm < w1.heap.size := by
    rcases ho.2 with ⟨_, q⟩ | ⟨g, cap, cur, q1, q2, q3, _⟩
    · omega
    · exact ⟨g, cap, q1, q2, (Array.getElem?_eq_some_iff.1 q3).1⟩
  have HO1 : Hid (OwnN w1 w.heap.size (.slice (some ⟨gm, 0, none⟩) l.length cm) l) := own_mono ho (by rw [HZ0.out]; omega)
  have HB1 : Hid (Below w0.heap.size w0 w1) := hb
  have HBW : Hid (Below w.heap.size w w1) := go_on HB0.out hb
  have HG : Hid (w.heap.size < gm ∧ gm < w1.heap.size) := ⟨by have := HZ0.out; omega, hgm.2⟩
  clear ho hb hgm HI
  go_upto_region 3 with fail
  go_cut [7] (fun v7 wx => ∃ tb mb pb ib : Nat, v7 = .pointer (some ⟨tb, 0, none⟩) ∧ ∃ wz, wz = wx ∧ RS w l gm cm tb mb pb ib 0 0 (.map []) (List.replicate l.length 0) (List.replicate l.length 0) wz)
  case first =>
    obtain ⟨y0, hy0⟩ : ∃ y0, y0 = w1.drew := ⟨_, rfl⟩
    have HY0 : Hid (y0 = w1.drew) := hy0
    have hys : w.heap.size < y0.heap.size := by
      rw [hy0]
      show w.heap.size < w1.heap.size
      have := HG.out; omega
    have HMK : Hid (∀ (y4 : World) (mb pb ib tb : Nat), Below y0.heap.size y0 y4 → y4.heap[mb]? = some (.map #[] 0) → y4.heap[pb]? = some (.cells (madeCells #[Value.int .i64 0] l.length) 3 (0, 0)) → y4.heap[ib]? = some (.cells (madeCells #[Value.int .i64 0] l.length) 3 (0, 0)) → y4.heap[tb]? = some (.cells roZ 117 (0, 0)) → y0.heap.size ≤ mb → y0.heap.size ≤ pb → y0.heap.size ≤ ib → y0.heap.size ≤ tb → pb ≠ ib → RS w l gm cm tb mb pb ib 0 0 (.map []) (List.replicate l.length 0) (List.replicate l.length 0) (((((y4.setCell ⟨tb, 0, none⟩ (.slice (some ⟨gm, 0, none⟩) l.length cm)).setCell ⟨tb, 1, none⟩ (.map (some mb))).setCell ⟨tb, 2, none⟩ (.slice (some ⟨pb, 0, none⟩) l.length l.length)).setCell ⟨tb, 3, none⟩ (.slice (some ⟨ib, 0, none⟩) l.length l.length)).setCell ⟨tb, 4, none⟩ (.int .i64 0))) := by
      intro y4 mb pb ib tb qb qm qp qi qt l1 l2 l3 l4 hne
      have hg := HG.out
      have hz0 := HZ0.out
      have hs1 := HB1.out.size
      have ys : y0.heap.size = w1.heap.size := by rw [HY0.out]; rfl
      have b1 : Below w.heap.size w y4 := go_on (by rw [HY0.out]; exact HBW.out.drew) qb
      have k : ∀ c, c < w1.heap.size → y4.heap[c]? = w1.heap[c]? := fun c hc => by
        rw [qb.block c (by omega), HY0.out]
        rfl
      have hmt : mb ≠ tb := blk_neO qm qt (by simp)
      have hpt : pb ≠ tb := blk_neO qp qt (by simp)
      have hit : ib ≠ tb := blk_neO qi qt (by simp)
      refine ⟨?_, (ro_oth (by omega) _ _ _ _ _).trans ((k _ (by omega)).trans ((HB1.out.block _ (by omega)).trans HR0.out)), HO1.out.keep ((ro_oth (by omega) _ _ _ _ _).trans (k _ (by omega))), ro_set qt _ _ _ _ _, ?_, ?_, ?_, by simp, by simp, by omega⟩
      · refine ((((b1.setCell (p := ⟨tb, 0, none⟩) ?_ _).setCell (p := ⟨tb, 1, none⟩) ?_ _).setCell (p := ⟨tb, 2, none⟩) ?_ _).setCell (p := ⟨tb, 3, none⟩) ?_ _).setCell (p := ⟨tb, 4, none⟩) ?_ _
        all_goals show w.heap.size ≤ tb; omega
      · exact ⟨#[], 0, (ro_oth hmt _ _ _ _ _).trans qm, ⟨by simp, Go.MapKept.stamped_empty 0, by simp⟩, Nat.le_refl _, rfl⟩
      · show _ = _
        rw [ro_oth hpt, qp, made_nC, List.append_nil]
      · show _ = _
        rw [ro_oth hit, qi, made_nC, List.append_nil]
    clear hy0
    refine wp_region_L 9 (fun y => True) (by kernel_rfl) trivial (fun hH0 => ?_)
    rw [← HY0.out]
    refine wpAnyL_take (i := 0) (oi := { dst := some 22, op := Go.Op.move (Go.Operand.tmp 5), type := 22, pos := "roll.go:23", after := #[], guard := none }) (v := ?_) rfl (by kernel_rfl) (by kernel_rfl) (by decide) (by kernel_rfl) (by kernel_rfl) (by kernel_rfl) (fun _ _ _ h => h) (Or.inl ⟨by rfl, ?_⟩) (by assumption) ?_
    rotate_left
    · intro w' hS; go_simp; (try with_reducible rfl)
    simp only [Act.put, List.setIfInBounds_toArray, List.set_cons_zero, List.set_cons_succ]
    refine wpAnyL_take (i := 1) (oi := { dst := some 23, op := Go.Op.move (Go.Operand.tmp 6), type := 3, pos := "roll.go:23", after := #[], guard := none }) (v := ?_) rfl (by kernel_rfl) (by kernel_rfl) (by decide) (by kernel_rfl) (by kernel_rfl) (by kernel_rfl) (fun _ _ _ h => h) (Or.inl ⟨by rfl, ?_⟩) (by assumption) ?_
    rotate_left
    · intro w' hS; go_simp; (try with_reducible rfl)
    simp only [Act.put, List.setIfInBounds_toArray, List.set_cons_zero, List.set_cons_succ]
    refine wpAnyL_take (i := 3) (oi := { dst := some 25, op := Go.Op.move (Go.Operand.tmp 6), type := 3, pos := "roll.go:23", after := #[], guard := none }) (v := ?_) rfl (by kernel_rfl) (by kernel_rfl) (by decide) (by kernel_rfl) (by kernel_rfl) (by kernel_rfl) (fun _ _ _ h => h) (Or.inl ⟨by rfl, ?_⟩) (by assumption) ?_
    rotate_left
    · intro w' hS; go_simp; (try with_reducible rfl)
    simp only [Act.put, List.setIfInBounds_toArray, List.set_cons_zero, List.set_cons_succ]
    refine wpAnyL_take (i := 5) (oi := { dst := some 27, op := Go.Op.move (Go.Operand.tmp 6), type := 3, pos := "roll.go:23", after := #[], guard := none }) (v := ?_) rfl (by kernel_rfl) (by kernel_rfl) (by decide) (by kernel_rfl) (by kernel_rfl) (by kernel_rfl) (fun _ _ _ h => h) (Or.inl ⟨by rfl, ?_⟩) (by assumption) ?_
    rotate_left
    · intro w' hS; go_simp; (try with_reducible rfl)
    simp only [Act.put, List.setIfInBounds_toArray, List.set_cons_zero, List.set_cons_succ]
    refine wpAnyL_ready (rs := [2, 4, 6, 8]) (by kernel_rfl) (by simp) ?_
    refine AllReadyL.cons rfl (fun KQ hK => ?_) (AllReadyL.cons rfl (fun KQ hK => ?_) (AllReadyL.cons rfl (fun KQ hK => ?_) (AllReadyL.cons rfl (fun KQ hK => ?_) AllReadyL.nil)))
    · skip
      go_simp
      refine hK.out _ (y0.alloc (.map #[] 0)) trivial (fun hH1 => ?_)
      clear hK KQ
      refine wpAnyL_ready (rs := [4, 6, 8]) (by kernel_rfl) (by simp) ?_
      refine AllReadyL.cons rfl (fun KQ hK => ?_) (AllReadyL.cons rfl (fun KQ hK => ?_) (AllReadyL.cons rfl (fun KQ hK => ?_) AllReadyL.nil))
      · skip
        go_simp
        refine hK.out _ _ trivial (fun hH2 => ?_)
        clear hK KQ
        refine wpAnyL_ready (rs := [6, 8]) (by kernel_rfl) (by simp) ?_
        refine AllReadyL.cons rfl (fun KQ hK => ?_) (AllReadyL.cons rfl (fun KQ hK => ?_) AllReadyL.nil)
        · skip
          go_simp
          refine hK.out _ _ trivial (fun hH3 => ?_)
          clear hK KQ
          refine wpAnyL_take (i := 7) (oi := { dst := some 29, op := Go.Op.build 117 #[(0, Go.Operand.tmp 22), (1, Go.Operand.tmp 24), (2, Go.Operand.tmp 26), (3, Go.Operand.tmp 28)], type := 117, pos := "roll.go:23", after := #[{ on := 0, ground := Go.Ground.data }, { on := 2, ground := Go.Ground.data }, { on := 4, ground := Go.Ground.data }, { on := 6, ground := Go.Ground.data }], guard := none }) (v := ?_) rfl (by kernel_rfl) (by kernel_rfl) (by decide) (by kernel_rfl) (by kernel_rfl) (by kernel_rfl) (fun _ _ _ h => h) (Or.inl ⟨by rfl, ?_⟩) (by assumption) ?_
          rotate_left
          · intro w' hS; go_simp; (try with_reducible rfl)
          simp only [Act.put, List.setIfInBounds_toArray, List.set_cons_zero, List.set_cons_succ]
          refine wpAnyL_ready (rs := [8]) (by kernel_rfl) (by simp) ?_
          refine AllReadyL.cons rfl (fun KQ hK => ?_) AllReadyL.nil
          go_simp
          refine hK.out _ _ trivial (fun hH4 => ?_)
          clear hK KQ
          refine wpAnyL_ready (rs := [9]) (by kernel_rfl) (by simp) ?_
          refine AllReadyL.last rfl (fun KQ hK => ?_)
          obtain ⟨q1, q2, q3, q4, qb⟩ := al4 y0 (.map #[] 0) (.cells (madeCells #[Value.int .i64 0] l.length) 3) (.cells (madeCells #[Value.int .i64 0] l.length) 3) (.cells #[.slice none 0 0, .map none, .slice none 0 0, .slice none 0 0, .int .i64 0] 117)
          generalize ((((y0.alloc (.map #[] 0)).alloc (.cells (madeCells #[Value.int .i64 0] l.length) 3)).alloc (.cells (madeCells #[Value.int .i64 0] l.length) 3)).alloc (.cells #[.slice none 0 0, .map none, .slice none 0 0, .slice none 0 0, .int .i64 0] 117)) = y4 at q1 q2 q3 q4 qb ⊢
          obtain ⟨⟨z0, z1, z2, z3, z4⟩, zf⟩ := roZ_facts q4
          have QM : Hid _ := q1
          have QP : Hid _ := q2
          have QI : Hid _ := q3
          have QT : Hid _ := q4
          have QB : Hid _ := qb
          clear q1 q2 q3 q4 qb
          go_simp
          refine hK.out _ _ ?_
          clear hK KQ
          refine wpAnyL_done (by kernel_rfl) ?_ _
          clear z0 z1 z2 z3 z4 zf
          go_wp2_with fail
          go_meet
          exact ⟨(y0.heap.size + 1 + 1 + 1), (y0.heap.size), (y0.heap.size + 1), (y0.heap.size + 1 + 1), rfl, _, rfl, HMK.out y4 (y0.heap.size) (y0.heap.size + 1) (y0.heap.size + 1 + 1) (y0.heap.size + 1 + 1 + 1) QB.out QM.out QP.out QI.out QT.out (by omega) (by omega) (by omega) (by omega) (by omega)⟩
        · skip
          go_simp
          refine hK.out _ _ trivial (fun hH3 => ?_)
          clear hK KQ
          refine wpAnyL_ready (rs := [6]) (by kernel_rfl) (by simp) ?_
          refine AllReadyL.cons rfl (fun KQ hK => ?_) AllReadyL.nil
          go_simp
          refine hK.out _ _ trivial (fun hH4 => ?_)
          clear hK KQ
          refine wpAnyL_take (i := 7) (oi := { dst := some 29, op := Go.Op.build 117 #[(0, Go.Operand.tmp 22), (1, Go.Operand.tmp 24), (2, Go.Operand.tmp 26), (3, Go.Operand.tmp 28)], type := 117, pos := "roll.go:23", after := #[{ on := 0, ground := Go.Ground.data }, { on := 2, ground := Go.Ground.data }, { on := 4, ground := Go.Ground.data }, { on := 6, ground := Go.Ground.data }], guard := none }) (v := ?_) rfl (by kernel_rfl) (by kernel_rfl) (by decide) (by kernel_rfl) (by kernel_rfl) (by kernel_rfl) (fun _ _ _ h => h) (Or.inl ⟨by rfl, ?_⟩) (by assumption) ?_
          rotate_left
          · intro w' hS; go_simp; (try with_reducible rfl)
          simp only [Act.put, List.setIfInBounds_toArray, List.set_cons_zero, List.set_cons_succ]
          refine wpAnyL_ready (rs := [9]) (by kernel_rfl) (by simp) ?_
          refine AllReadyL.last rfl (fun KQ hK => ?_)
          obtain ⟨q1, q2, q3, q4, qb⟩ := al4 y0 (.map #[] 0) (.cells (madeCells #[Value.int .i64 0] l.length) 3) (.cells #[.slice none 0 0, .map none, .slice none 0 0, .slice none 0 0, .int .i64 0] 117) (.cells (madeCells #[Value.int .i64 0] l.length) 3)
          generalize ((((y0.alloc (.map #[] 0)).alloc (.cells (madeCells #[Value.int .i64 0] l.length) 3)).alloc (.cells #[.slice none 0 0, .map none, .slice none 0 0, .slice none 0 0, .int .i64 0] 117)).alloc (.cells (madeCells #[Value.int .i64 0] l.length) 3)) = y4 at q1 q2 q3 q4 qb ⊢
          obtain ⟨⟨z0, z1, z2, z3, z4⟩, zf⟩ := roZ_facts q3
          have QM : Hid _ := q1
          have QP : Hid _ := q2
          have QI : Hid _ := q4
          have QT : Hid _ := q3
          have QB : Hid _ := qb
          clear q1 q2 q3 q4 qb
          go_simp
          refine hK.out _ _ ?_
          clear hK KQ
          refine wpAnyL_done (by kernel_rfl) ?_ _
          clear z0 z1 z2 z3 z4 zf
          go_wp2_with fail
          go_meet
          exact ⟨(y0.heap.size + 1 + 1), (y0.heap.size), (y0.heap.size + 1), (y0.heap.size + 1 + 1 + 1), rfl, _, rfl, HMK.out y4 (y0.heap.size) (y0.heap.size + 1) (y0.heap.size + 1 + 1 + 1) (y0.heap.size + 1 + 1) QB.out QM.out QP.out QI.out QT.out (by omega) (by omega) (by omega) (by omega) (by omega)⟩
      · skip
        go_simp
        refine hK.out _ _ trivial (fun hH2 => ?_)
        clear hK KQ
        refine wpAnyL_ready (rs := [4, 8]) (by kernel_rfl) (by simp) ?_
        refine AllReadyL.cons rfl (fun KQ hK => ?_) (AllReadyL.cons rfl (fun KQ hK => ?_) AllReadyL.nil)
        · skip
          go_simp
          refine hK.out _ _ trivial (fun hH3 => ?_)
          clear hK KQ
          refine wpAnyL_take (i := 7) (oi := { dst := some 29, op := Go.Op.build 117 #[(0, Go.Operand.tmp 22), (1, Go.Operand.tmp 24), (2, Go.Operand.tmp 26), (3, Go.Operand.tmp 28)], type := 117, pos := "roll.go:23", after := #[{ on := 0, ground := Go.Ground.data }, { on := 2, ground := Go.Ground.data }, { on := 4, ground := Go.Ground.data }, { on := 6, ground := Go.Ground.data }], guard := none }) (v := ?_) rfl (by kernel_rfl) (by kernel_rfl) (by decide) (by kernel_rfl) (by kernel_rfl) (by kernel_rfl) (fun _ _ _ h => h) (Or.inl ⟨by rfl, ?_⟩) (by assumption) ?_
          rotate_left
          · intro w' hS; go_simp; (try with_reducible rfl)
          simp only [Act.put, List.setIfInBounds_toArray, List.set_cons_zero, List.set_cons_succ]
          refine wpAnyL_ready (rs := [8]) (by kernel_rfl) (by simp) ?_
          refine AllReadyL.cons rfl (fun KQ hK => ?_) AllReadyL.nil
          go_simp
          refine hK.out _ _ trivial (fun hH4 => ?_)
          clear hK KQ
          refine wpAnyL_ready (rs := [9]) (by kernel_rfl) (by simp) ?_
          refine AllReadyL.last rfl (fun KQ hK => ?_)
          obtain ⟨q1, q2, q3, q4, qb⟩ := al4 y0 (.map #[] 0) (.cells (madeCells #[Value.int .i64 0] l.length) 3) (.cells (madeCells #[Value.int .i64 0] l.length) 3) (.cells #[.slice none 0 0, .map none, .slice none 0 0, .slice none 0 0, .int .i64 0] 117)
          generalize ((((y0.alloc (.map #[] 0)).alloc (.cells (madeCells #[Value.int .i64 0] l.length) 3)).alloc (.cells (madeCells #[Value.int .i64 0] l.length) 3)).alloc (.cells #[.slice none 0 0, .map none, .slice none 0 0, .slice none 0 0, .int .i64 0] 117)) = y4 at q1 q2 q3 q4 qb ⊢
          obtain ⟨⟨z0, z1, z2, z3, z4⟩, zf⟩ := roZ_facts q4
          have QM : Hid _ := q1
          have QP : Hid _ := q3
          have QI : Hid _ := q2
          have QT : Hid _ := q4
          have QB : Hid _ := qb
          clear q1 q2 q3 q4 qb
          go_simp
          refine hK.out _ _ ?_
          clear hK KQ
          refine wpAnyL_done (by kernel_rfl) ?_ _
          clear z0 z1 z2 z3 z4 zf
          go_wp2_with fail
          go_meet
          exact ⟨(y0.heap.size + 1 + 1 + 1), (y0.heap.size), (y0.heap.size + 1 + 1), (y0.heap.size + 1), rfl, _, rfl, HMK.out y4 (y0.heap.size) (y0.heap.size + 1 + 1) (y0.heap.size + 1) (y0.heap.size + 1 + 1 + 1) QB.out QM.out QP.out QI.out QT.out (by omega) (by omega) (by omega) (by omega) (by omega)⟩
        · skip
          go_simp
          refine hK.out _ _ trivial (fun hH3 => ?_)
          clear hK KQ
          refine wpAnyL_ready (rs := [4]) (by kernel_rfl) (by simp) ?_
          refine AllReadyL.cons rfl (fun KQ hK => ?_) AllReadyL.nil
          go_simp
          refine hK.out _ _ trivial (fun hH4 => ?_)
          clear hK KQ
          refine wpAnyL_take (i := 7) (oi := { dst := some 29, op := Go.Op.build 117 #[(0, Go.Operand.tmp 22), (1, Go.Operand.tmp 24), (2, Go.Operand.tmp 26), (3, Go.Operand.tmp 28)], type := 117, pos := "roll.go:23", after := #[{ on := 0, ground := Go.Ground.data }, { on := 2, ground := Go.Ground.data }, { on := 4, ground := Go.Ground.data }, { on := 6, ground := Go.Ground.data }], guard := none }) (v := ?_) rfl (by kernel_rfl) (by kernel_rfl) (by decide) (by kernel_rfl) (by kernel_rfl) (by kernel_rfl) (fun _ _ _ h => h) (Or.inl ⟨by rfl, ?_⟩) (by assumption) ?_
          rotate_left
          · intro w' hS; go_simp; (try with_reducible rfl)
          simp only [Act.put, List.setIfInBounds_toArray, List.set_cons_zero, List.set_cons_succ]
          refine wpAnyL_ready (rs := [9]) (by kernel_rfl) (by simp) ?_
          refine AllReadyL.last rfl (fun KQ hK => ?_)
          obtain ⟨q1, q2, q3, q4, qb⟩ := al4 y0 (.map #[] 0) (.cells (madeCells #[Value.int .i64 0] l.length) 3) (.cells #[.slice none 0 0, .map none, .slice none 0 0, .slice none 0 0, .int .i64 0] 117) (.cells (madeCells #[Value.int .i64 0] l.length) 3)
          generalize ((((y0.alloc (.map #[] 0)).alloc (.cells (madeCells #[Value.int .i64 0] l.length) 3)).alloc (.cells #[.slice none 0 0, .map none, .slice none 0 0, .slice none 0 0, .int .i64 0] 117)).alloc (.cells (madeCells #[Value.int .i64 0] l.length) 3)) = y4 at q1 q2 q3 q4 qb ⊢
          obtain ⟨⟨z0, z1, z2, z3, z4⟩, zf⟩ := roZ_facts q3
          have QM : Hid _ := q1
          have QP : Hid _ := q4
          have QI : Hid _ := q2
          have QT : Hid _ := q3
          have QB : Hid _ := qb
          clear q1 q2 q3 q4 qb
          go_simp
          refine hK.out _ _ ?_
          clear hK KQ
          refine wpAnyL_done (by kernel_rfl) ?_ _
          clear z0 z1 z2 z3 z4 zf
          go_wp2_with fail
          go_meet
          exact ⟨(y0.heap.size + 1 + 1), (y0.heap.size), (y0.heap.size + 1 + 1 + 1), (y0.heap.size + 1), rfl, _, rfl, HMK.out y4 (y0.heap.size) (y0.heap.size + 1 + 1 + 1) (y0.heap.size + 1) (y0.heap.size + 1 + 1) QB.out QM.out QP.out QI.out QT.out (by omega) (by omega) (by omega) (by omega) (by omega)⟩
      · skip
        go_simp
        refine hK.out _ _ trivial (fun hH2 => ?_)
        clear hK KQ
        refine wpAnyL_ready (rs := [4, 6]) (by kernel_rfl) (by simp) ?_
        refine AllReadyL.cons rfl (fun KQ hK => ?_) (AllReadyL.cons rfl (fun KQ hK => ?_) AllReadyL.nil)
        · skip
          go_simp
          refine hK.out _ _ trivial (fun hH3 => ?_)
          clear hK KQ
          refine wpAnyL_ready (rs := [6]) (by kernel_rfl) (by simp) ?_
          refine AllReadyL.cons rfl (fun KQ hK => ?_) AllReadyL.nil
          go_simp
          refine hK.out _ _ trivial (fun hH4 => ?_)
          clear hK KQ
          refine wpAnyL_take (i := 7) (oi := { dst := some 29, op := Go.Op.build 117 #[(0, Go.Operand.tmp 22), (1, Go.Operand.tmp 24), (2, Go.Operand.tmp 26), (3, Go.Operand.tmp 28)], type := 117, pos := "roll.go:23", after := #[{ on := 0, ground := Go.Ground.data }, { on := 2, ground := Go.Ground.data }, { on := 4, ground := Go.Ground.data }, { on := 6, ground := Go.Ground.data }], guard := none }) (v := ?_) rfl (by kernel_rfl) (by kernel_rfl) (by decide) (by kernel_rfl) (by kernel_rfl) (by kernel_rfl) (fun _ _ _ h => h) (Or.inl ⟨by rfl, ?_⟩) (by assumption) ?_
          rotate_left
          · intro w' hS; go_simp; (try with_reducible rfl)
          simp only [Act.put, List.setIfInBounds_toArray, List.set_cons_zero, List.set_cons_succ]
          refine wpAnyL_ready (rs := [9]) (by kernel_rfl) (by simp) ?_
          refine AllReadyL.last rfl (fun KQ hK => ?_)
          obtain ⟨q1, q2, q3, q4, qb⟩ := al4 y0 (.map #[] 0) (.cells #[.slice none 0 0, .map none, .slice none 0 0, .slice none 0 0, .int .i64 0] 117) (.cells (madeCells #[Value.int .i64 0] l.length) 3) (.cells (madeCells #[Value.int .i64 0] l.length) 3)
          generalize ((((y0.alloc (.map #[] 0)).alloc (.cells #[.slice none 0 0, .map none, .slice none 0 0, .slice none 0 0, .int .i64 0] 117)).alloc (.cells (madeCells #[Value.int .i64 0] l.length) 3)).alloc (.cells (madeCells #[Value.int .i64 0] l.length) 3)) = y4 at q1 q2 q3 q4 qb ⊢
          obtain ⟨⟨z0, z1, z2, z3, z4⟩, zf⟩ := roZ_facts q2
          have QM : Hid _ := q1
          have QP : Hid _ := q3
          have QI : Hid _ := q4
          have QT : Hid _ := q2
          have QB : Hid _ := qb
          clear q1 q2 q3 q4 qb
          go_simp
          refine hK.out _ _ ?_
          clear hK KQ
          refine wpAnyL_done (by kernel_rfl) ?_ _
          clear z0 z1 z2 z3 z4 zf
          go_wp2_with fail
          go_meet
          exact ⟨(y0.heap.size + 1), (y0.heap.size), (y0.heap.size + 1 + 1), (y0.heap.size + 1 + 1 + 1), rfl, _, rfl, HMK.out y4 (y0.heap.size) (y0.heap.size + 1 + 1) (y0.heap.size + 1 + 1 + 1) (y0.heap.size + 1) QB.out QM.out QP.out QI.out QT.out (by omega) (by omega) (by omega) (by omega) (by omega)⟩
        · skip
          go_simp
          refine hK.out _ _ trivial (fun hH3 => ?_)
          clear hK KQ
          refine wpAnyL_ready (rs := [4]) (by kernel_rfl) (by simp) ?_
          refine AllReadyL.cons rfl (fun KQ hK => ?_) AllReadyL.nil
          go_simp
          refine hK.out _ _ trivial (fun hH4 => ?_)
          clear hK KQ
          refine wpAnyL_take (i := 7) (oi := { dst := some 29, op := Go.Op.build 117 #[(0, Go.Operand.tmp 22), (1, Go.Operand.tmp 24), (2, Go.Operand.tmp 26), (3, Go.Operand.tmp 28)], type := 117, pos := "roll.go:23", after := #[{ on := 0, ground := Go.Ground.data }, { on := 2, ground := Go.Ground.data }, { on := 4, ground := Go.Ground.data }, { on := 6, ground := Go.Ground.data }], guard := none }) (v := ?_) rfl (by kernel_rfl) (by kernel_rfl) (by decide) (by kernel_rfl) (by kernel_rfl) (by kernel_rfl) (fun _ _ _ h => h) (Or.inl ⟨by rfl, ?_⟩) (by assumption) ?_
          rotate_left
          · intro w' hS; go_simp; (try with_reducible rfl)
          simp only [Act.put, List.setIfInBounds_toArray, List.set_cons_zero, List.set_cons_succ]
          refine wpAnyL_ready (rs := [9]) (by kernel_rfl) (by simp) ?_
          refine AllReadyL.last rfl (fun KQ hK => ?_)
          obtain ⟨q1, q2, q3, q4, qb⟩ := al4 y0 (.map #[] 0) (.cells #[.slice none 0 0, .map none, .slice none 0 0, .slice none 0 0, .int .i64 0] 117) (.cells (madeCells #[Value.int .i64 0] l.length) 3) (.cells (madeCells #[Value.int .i64 0] l.length) 3)
          generalize ((((y0.alloc (.map #[] 0)).alloc (.cells #[.slice none 0 0, .map none, .slice none 0 0, .slice none 0 0, .int .i64 0] 117)).alloc (.cells (madeCells #[Value.int .i64 0] l.length) 3)).alloc (.cells (madeCells #[Value.int .i64 0] l.length) 3)) = y4 at q1 q2 q3 q4 qb ⊢
          obtain ⟨⟨z0, z1, z2, z3, z4⟩, zf⟩ := roZ_facts q2
          have QM : Hid _ := q1
          have QP : Hid _ := q4
          have QI : Hid _ := q3
          have QT : Hid _ := q2
          have QB : Hid _ := qb
          clear q1 q2 q3 q4 qb
          go_simp
          refine hK.out _ _ ?_
          clear hK KQ
          refine wpAnyL_done (by kernel_rfl) ?_ _
          clear z0 z1 z2 z3 z4 zf
          go_wp2_with fail
          go_meet
          exact ⟨(y0.heap.size + 1), (y0.heap.size), (y0.heap.size + 1 + 1 + 1), (y0.heap.size + 1 + 1), rfl, _, rfl, HMK.out y4 (y0.heap.size) (y0.heap.size + 1 + 1 + 1) (y0.heap.size + 1 + 1) (y0.heap.size + 1) QB.out QM.out QP.out QI.out QT.out (by omega) (by omega) (by omega) (by omega) (by omega)⟩
    · skip
      go_simp
      refine hK.out _ _ trivial (fun hH1 => ?_)
      clear hK KQ
      refine wpAnyL_ready (rs := [2, 6, 8]) (by kernel_rfl) (by simp) ?_
      refine AllReadyL.cons rfl (fun KQ hK => ?_) (AllReadyL.cons rfl (fun KQ hK => ?_) (AllReadyL.cons rfl (fun KQ hK => ?_) AllReadyL.nil))
      · skip
        go_simp
        refine hK.out _ ((y0.alloc (.cells (madeCells #[Value.int .i64 0] l.length) 3)).alloc (.map #[] 0)) trivial (fun hH2 => ?_)
        clear hK KQ
        refine wpAnyL_ready (rs := [6, 8]) (by kernel_rfl) (by simp) ?_
        refine AllReadyL.cons rfl (fun KQ hK => ?_) (AllReadyL.cons rfl (fun KQ hK => ?_) AllReadyL.nil)
        · skip
          go_simp
          refine hK.out _ _ trivial (fun hH3 => ?_)
          clear hK KQ
          refine wpAnyL_take (i := 7) (oi := { dst := some 29, op := Go.Op.build 117 #[(0, Go.Operand.tmp 22), (1, Go.Operand.tmp 24), (2, Go.Operand.tmp 26), (3, Go.Operand.tmp 28)], type := 117, pos := "roll.go:23", after := #[{ on := 0, ground := Go.Ground.data }, { on := 2, ground := Go.Ground.data }, { on := 4, ground := Go.Ground.data }, { on := 6, ground := Go.Ground.data }], guard := none }) (v := ?_) rfl (by kernel_rfl) (by kernel_rfl) (by decide) (by kernel_rfl) (by kernel_rfl) (by kernel_rfl) (fun _ _ _ h => h) (Or.inl ⟨by rfl, ?_⟩) (by assumption) ?_
          rotate_left
          · intro w' hS; go_simp; (try with_reducible rfl)
          simp only [Act.put, List.setIfInBounds_toArray, List.set_cons_zero, List.set_cons_succ]
          refine wpAnyL_ready (rs := [8]) (by kernel_rfl) (by simp) ?_
          refine AllReadyL.cons rfl (fun KQ hK => ?_) AllReadyL.nil
          go_simp
          refine hK.out _ _ trivial (fun hH4 => ?_)
          clear hK KQ
          refine wpAnyL_ready (rs := [9]) (by kernel_rfl) (by simp) ?_
          refine AllReadyL.last rfl (fun KQ hK => ?_)
          obtain ⟨q1, q2, q3, q4, qb⟩ := al4 y0 (.cells (madeCells #[Value.int .i64 0] l.length) 3) (.map #[] 0) (.cells (madeCells #[Value.int .i64 0] l.length) 3) (.cells #[.slice none 0 0, .map none, .slice none 0 0, .slice none 0 0, .int .i64 0] 117)
          generalize ((((y0.alloc (.cells (madeCells #[Value.int .i64 0] l.length) 3)).alloc (.map #[] 0)).alloc (.cells (madeCells #[Value.int .i64 0] l.length) 3)).alloc (.cells #[.slice none 0 0, .map none, .slice none 0 0, .slice none 0 0, .int .i64 0] 117)) = y4 at q1 q2 q3 q4 qb ⊢
          obtain ⟨⟨z0, z1, z2, z3, z4⟩, zf⟩ := roZ_facts q4
          have QM : Hid _ := q2
          have QP : Hid _ := q1
          have QI : Hid _ := q3
          have QT : Hid _ := q4
          have QB : Hid _ := qb
          clear q1 q2 q3 q4 qb
          go_simp
          refine hK.out _ _ ?_
          clear hK KQ
          refine wpAnyL_done (by kernel_rfl) ?_ _
          clear z0 z1 z2 z3 z4 zf
          go_wp2_with fail
          go_meet
          exact ⟨(y0.heap.size + 1 + 1 + 1), (y0.heap.size + 1), (y0.heap.size), (y0.heap.size + 1 + 1), rfl, _, rfl, HMK.out y4 (y0.heap.size + 1) (y0.heap.size) (y0.heap.size + 1 + 1) (y0.heap.size + 1 + 1 + 1) QB.out QM.out QP.out QI.out QT.out (by omega) (by omega) (by omega) (by omega) (by omega)⟩
        · skip
          go_simp
          refine hK.out _ _ trivial (fun hH3 => ?_)
          clear hK KQ
          refine wpAnyL_ready (rs := [6]) (by kernel_rfl) (by simp) ?_
          refine AllReadyL.cons rfl (fun KQ hK => ?_) AllReadyL.nil
          go_simp
          refine hK.out _ _ trivial (fun hH4 => ?_)
          clear hK KQ
          refine wpAnyL_take (i := 7) (oi := { dst := some 29, op := Go.Op.build 117 #[(0, Go.Operand.tmp 22), (1, Go.Operand.tmp 24), (2, Go.Operand.tmp 26), (3, Go.Operand.tmp 28)], type := 117, pos := "roll.go:23", after := #[{ on := 0, ground := Go.Ground.data }, { on := 2, ground := Go.Ground.data }, { on := 4, ground := Go.Ground.data }, { on := 6, ground := Go.Ground.data }], guard := none }) (v := ?_) rfl (by kernel_rfl) (by kernel_rfl) (by decide) (by kernel_rfl) (by kernel_rfl) (by kernel_rfl) (fun _ _ _ h => h) (Or.inl ⟨by rfl, ?_⟩) (by assumption) ?_
          rotate_left
          · intro w' hS; go_simp; (try with_reducible rfl)
          simp only [Act.put, List.setIfInBounds_toArray, List.set_cons_zero, List.set_cons_succ]
          refine wpAnyL_ready (rs := [9]) (by kernel_rfl) (by simp) ?_
          refine AllReadyL.last rfl (fun KQ hK => ?_)
          obtain ⟨q1, q2, q3, q4, qb⟩ := al4 y0 (.cells (madeCells #[Value.int .i64 0] l.length) 3) (.map #[] 0) (.cells #[.slice none 0 0, .map none, .slice none 0 0, .slice none 0 0, .int .i64 0] 117) (.cells (madeCells #[Value.int .i64 0] l.length) 3)
          generalize ((((y0.alloc (.cells (madeCells #[Value.int .i64 0] l.length) 3)).alloc (.map #[] 0)).alloc (.cells #[.slice none 0 0, .map none, .slice none 0 0, .slice none 0 0, .int .i64 0] 117)).alloc (.cells (madeCells #[Value.int .i64 0] l.length) 3)) = y4 at q1 q2 q3 q4 qb ⊢
          obtain ⟨⟨z0, z1, z2, z3, z4⟩, zf⟩ := roZ_facts q3
          have QM : Hid _ := q2
          have QP : Hid _ := q1
          have QI : Hid _ := q4
          have QT : Hid _ := q3
          have QB : Hid _ := qb
          clear q1 q2 q3 q4 qb
          go_simp
          refine hK.out _ _ ?_
          clear hK KQ
          refine wpAnyL_done (by kernel_rfl) ?_ _
          clear z0 z1 z2 z3 z4 zf
          go_wp2_with fail
          go_meet
          exact ⟨(y0.heap.size + 1 + 1), (y0.heap.size + 1), (y0.heap.size), (y0.heap.size + 1 + 1 + 1), rfl, _, rfl, HMK.out y4 (y0.heap.size + 1) (y0.heap.size) (y0.heap.size + 1 + 1 + 1) (y0.heap.size + 1 + 1) QB.out QM.out QP.out QI.out QT.out (by omega) (by omega) (by omega) (by omega) (by omega)⟩
      · skip
        go_simp
        refine hK.out _ _ trivial (fun hH2 => ?_)
        clear hK KQ
        refine wpAnyL_ready (rs := [2, 8]) (by kernel_rfl) (by simp) ?_
        refine AllReadyL.cons rfl (fun KQ hK => ?_) (AllReadyL.cons rfl (fun KQ hK => ?_) AllReadyL.nil)
        · skip
          go_simp
          refine hK.out _ (((y0.alloc (.cells (madeCells #[Value.int .i64 0] l.length) 3)).alloc (.cells (madeCells #[Value.int .i64 0] l.length) 3)).alloc (.map #[] 0)) trivial (fun hH3 => ?_)
          clear hK KQ
          refine wpAnyL_take (i := 7) (oi := { dst := some 29, op := Go.Op.build 117 #[(0, Go.Operand.tmp 22), (1, Go.Operand.tmp 24), (2, Go.Operand.tmp 26), (3, Go.Operand.tmp 28)], type := 117, pos := "roll.go:23", after := #[{ on := 0, ground := Go.Ground.data }, { on := 2, ground := Go.Ground.data }, { on := 4, ground := Go.Ground.data }, { on := 6, ground := Go.Ground.data }], guard := none }) (v := ?_) rfl (by kernel_rfl) (by kernel_rfl) (by decide) (by kernel_rfl) (by kernel_rfl) (by kernel_rfl) (fun _ _ _ h => h) (Or.inl ⟨by rfl, ?_⟩) (by assumption) ?_
          rotate_left
          · intro w' hS; go_simp; (try with_reducible rfl)
          simp only [Act.put, List.setIfInBounds_toArray, List.set_cons_zero, List.set_cons_succ]
          refine wpAnyL_ready (rs := [8]) (by kernel_rfl) (by simp) ?_
          refine AllReadyL.cons rfl (fun KQ hK => ?_) AllReadyL.nil
          go_simp
          refine hK.out _ _ trivial (fun hH4 => ?_)
          clear hK KQ
          refine wpAnyL_ready (rs := [9]) (by kernel_rfl) (by simp) ?_
          refine AllReadyL.last rfl (fun KQ hK => ?_)
          obtain ⟨q1, q2, q3, q4, qb⟩ := al4 y0 (.cells (madeCells #[Value.int .i64 0] l.length) 3) (.cells (madeCells #[Value.int .i64 0] l.length) 3) (.map #[] 0) (.cells #[.slice none 0 0, .map none, .slice none 0 0, .slice none 0 0, .int .i64 0] 117)
          generalize ((((y0.alloc (.cells (madeCells #[Value.int .i64 0] l.length) 3)).alloc (.cells (madeCells #[Value.int .i64 0] l.length) 3)).alloc (.map #[] 0)).alloc (.cells #[.slice none 0 0, .map none, .slice none 0 0, .slice none 0 0, .int .i64 0] 117)) = y4 at q1 q2 q3 q4 qb ⊢
          obtain ⟨⟨z0, z1, z2, z3, z4⟩, zf⟩ := roZ_facts q4
          have QM : Hid _ := q3
          have QP : Hid _ := q1
          have QI : Hid _ := q2
          have QT : Hid _ := q4
          have QB : Hid _ := qb
          clear q1 q2 q3 q4 qb
          go_simp
          refine hK.out _ _ ?_
          clear hK KQ
          refine wpAnyL_done (by kernel_rfl) ?_ _
          clear z0 z1 z2 z3 z4 zf
          go_wp2_with fail
          go_meet
          exact ⟨(y0.heap.size + 1 + 1 + 1), (y0.heap.size + 1 + 1), (y0.heap.size), (y0.heap.size + 1), rfl, _, rfl, HMK.out y4 (y0.heap.size + 1 + 1) (y0.heap.size) (y0.heap.size + 1) (y0.heap.size + 1 + 1 + 1) QB.out QM.out QP.out QI.out QT.out (by omega) (by omega) (by omega) (by omega) (by omega)⟩
        · skip
          go_simp
          refine hK.out _ _ trivial (fun hH3 => ?_)
          clear hK KQ
          refine wpAnyL_ready (rs := [2]) (by kernel_rfl) (by simp) ?_
          refine AllReadyL.cons rfl (fun KQ hK => ?_) AllReadyL.nil
          go_simp
          refine hK.out _ ((((y0.alloc (.cells (madeCells #[Value.int .i64 0] l.length) 3)).alloc (.cells (madeCells #[Value.int .i64 0] l.length) 3)).alloc (.cells #[.slice none 0 0, .map none, .slice none 0 0, .slice none 0 0, .int .i64 0] 117)).alloc (.map #[] 0)) trivial (fun hH4 => ?_)
          clear hK KQ
          refine wpAnyL_take (i := 7) (oi := { dst := some 29, op := Go.Op.build 117 #[(0, Go.Operand.tmp 22), (1, Go.Operand.tmp 24), (2, Go.Operand.tmp 26), (3, Go.Operand.tmp 28)], type := 117, pos := "roll.go:23", after := #[{ on := 0, ground := Go.Ground.data }, { on := 2, ground := Go.Ground.data }, { on := 4, ground := Go.Ground.data }, { on := 6, ground := Go.Ground.data }], guard := none }) (v := ?_) rfl (by kernel_rfl) (by kernel_rfl) (by decide) (by kernel_rfl) (by kernel_rfl) (by kernel_rfl) (fun _ _ _ h => h) (Or.inl ⟨by rfl, ?_⟩) (by assumption) ?_
          rotate_left
          · intro w' hS; go_simp; (try with_reducible rfl)
          simp only [Act.put, List.setIfInBounds_toArray, List.set_cons_zero, List.set_cons_succ]
          refine wpAnyL_ready (rs := [9]) (by kernel_rfl) (by simp) ?_
          refine AllReadyL.last rfl (fun KQ hK => ?_)
          obtain ⟨q1, q2, q3, q4, qb⟩ := al4 y0 (.cells (madeCells #[Value.int .i64 0] l.length) 3) (.cells (madeCells #[Value.int .i64 0] l.length) 3) (.cells #[.slice none 0 0, .map none, .slice none 0 0, .slice none 0 0, .int .i64 0] 117) (.map #[] 0)
          generalize ((((y0.alloc (.cells (madeCells #[Value.int .i64 0] l.length) 3)).alloc (.cells (madeCells #[Value.int .i64 0] l.length) 3)).alloc (.cells #[.slice none 0 0, .map none, .slice none 0 0, .slice none 0 0, .int .i64 0] 117)).alloc (.map #[] 0)) = y4 at q1 q2 q3 q4 qb ⊢
          obtain ⟨⟨z0, z1, z2, z3, z4⟩, zf⟩ := roZ_facts q3
          have QM : Hid _ := q4
          have QP : Hid _ := q1
          have QI : Hid _ := q2
          have QT : Hid _ := q3
          have QB : Hid _ := qb
          clear q1 q2 q3 q4 qb
          go_simp
          refine hK.out _ _ ?_
          clear hK KQ
          refine wpAnyL_done (by kernel_rfl) ?_ _
          clear z0 z1 z2 z3 z4 zf
          go_wp2_with fail
          go_meet
          exact ⟨(y0.heap.size + 1 + 1), (y0.heap.size + 1 + 1 + 1), (y0.heap.size), (y0.heap.size + 1), rfl, _, rfl, HMK.out y4 (y0.heap.size + 1 + 1 + 1) (y0.heap.size) (y0.heap.size + 1) (y0.heap.size + 1 + 1) QB.out QM.out QP.out QI.out QT.out (by omega) (by omega) (by omega) (by omega) (by omega)⟩
      · skip
        go_simp
        refine hK.out _ _ trivial (fun hH2 => ?_)
        clear hK KQ
        refine wpAnyL_ready (rs := [2, 6]) (by kernel_rfl) (by simp) ?_
        refine AllReadyL.cons rfl (fun KQ hK => ?_) (AllReadyL.cons rfl (fun KQ hK => ?_) AllReadyL.nil)
        · skip
          go_simp
          refine hK.out _ (((y0.alloc (.cells (madeCells #[Value.int .i64 0] l.length) 3)).alloc (.cells #[.slice none 0 0, .map none, .slice none 0 0, .slice none 0 0, .int .i64 0] 117)).alloc (.map #[] 0)) trivial (fun hH3 => ?_)
          clear hK KQ
          refine wpAnyL_ready (rs := [6]) (by kernel_rfl) (by simp) ?_
          refine AllReadyL.cons rfl (fun KQ hK => ?_) AllReadyL.nil
          go_simp
          refine hK.out _ _ trivial (fun hH4 => ?_)
          clear hK KQ
          refine wpAnyL_take (i := 7) (oi := { dst := some 29, op := Go.Op.build 117 #[(0, Go.Operand.tmp 22), (1, Go.Operand.tmp 24), (2, Go.Operand.tmp 26), (3, Go.Operand.tmp 28)], type := 117, pos := "roll.go:23", after := #[{ on := 0, ground := Go.Ground.data }, { on := 2, ground := Go.Ground.data }, { on := 4, ground := Go.Ground.data }, { on := 6, ground := Go.Ground.data }], guard := none }) (v := ?_) rfl (by kernel_rfl) (by kernel_rfl) (by decide) (by kernel_rfl) (by kernel_rfl) (by kernel_rfl) (fun _ _ _ h => h) (Or.inl ⟨by rfl, ?_⟩) (by assumption) ?_
          rotate_left
          · intro w' hS; go_simp; (try with_reducible rfl)
          simp only [Act.put, List.setIfInBounds_toArray, List.set_cons_zero, List.set_cons_succ]
          refine wpAnyL_ready (rs := [9]) (by kernel_rfl) (by simp) ?_
          refine AllReadyL.last rfl (fun KQ hK => ?_)
          obtain ⟨q1, q2, q3, q4, qb⟩ := al4 y0 (.cells (madeCells #[Value.int .i64 0] l.length) 3) (.cells #[.slice none 0 0, .map none, .slice none 0 0, .slice none 0 0, .int .i64 0] 117) (.map #[] 0) (.cells (madeCells #[Value.int .i64 0] l.length) 3)
          generalize ((((y0.alloc (.cells (madeCells #[Value.int .i64 0] l.length) 3)).alloc (.cells #[.slice none 0 0, .map none, .slice none 0 0, .slice none 0 0, .int .i64 0] 117)).alloc (.map #[] 0)).alloc (.cells (madeCells #[Value.int .i64 0] l.length) 3)) = y4 at q1 q2 q3 q4 qb ⊢
          obtain ⟨⟨z0, z1, z2, z3, z4⟩, zf⟩ := roZ_facts q2
          have QM : Hid _ := q3
          have QP : Hid _ := q1
          have QI : Hid _ := q4
          have QT : Hid _ := q2
          have QB : Hid _ := qb
          clear q1 q2 q3 q4 qb
          go_simp
          refine hK.out _ _ ?_
          clear hK KQ
          refine wpAnyL_done (by kernel_rfl) ?_ _
          clear z0 z1 z2 z3 z4 zf
          go_wp2_with fail
          go_meet
          exact ⟨(y0.heap.size + 1), (y0.heap.size + 1 + 1), (y0.heap.size), (y0.heap.size + 1 + 1 + 1), rfl, _, rfl, HMK.out y4 (y0.heap.size + 1 + 1) (y0.heap.size) (y0.heap.size + 1 + 1 + 1) (y0.heap.size + 1) QB.out QM.out QP.out QI.out QT.out (by omega) (by omega) (by omega) (by omega) (by omega)⟩
        · skip
          go_simp
          refine hK.out _ _ trivial (fun hH3 => ?_)
          clear hK KQ
          refine wpAnyL_ready (rs := [2]) (by kernel_rfl) (by simp) ?_
          refine AllReadyL.cons rfl (fun KQ hK => ?_) AllReadyL.nil
          go_simp
          refine hK.out _ ((((y0.alloc (.cells (madeCells #[Value.int .i64 0] l.length) 3)).alloc (.cells #[.slice none 0 0, .map none, .slice none 0 0, .slice none 0 0, .int .i64 0] 117)).alloc (.cells (madeCells #[Value.int .i64 0] l.length) 3)).alloc (.map #[] 0)) trivial (fun hH4 => ?_)
          clear hK KQ
          refine wpAnyL_take (i := 7) (oi := { dst := some 29, op := Go.Op.build 117 #[(0, Go.Operand.tmp 22), (1, Go.Operand.tmp 24), (2, Go.Operand.tmp 26), (3, Go.Operand.tmp 28)], type := 117, pos := "roll.go:23", after := #[{ on := 0, ground := Go.Ground.data }, { on := 2, ground := Go.Ground.data }, { on := 4, ground := Go.Ground.data }, { on := 6, ground := Go.Ground.data }], guard := none }) (v := ?_) rfl (by kernel_rfl) (by kernel_rfl) (by decide) (by kernel_rfl) (by kernel_rfl) (by kernel_rfl) (fun _ _ _ h => h) (Or.inl ⟨by rfl, ?_⟩) (by assumption) ?_
          rotate_left
          · intro w' hS; go_simp; (try with_reducible rfl)
          simp only [Act.put, List.setIfInBounds_toArray, List.set_cons_zero, List.set_cons_succ]
          refine wpAnyL_ready (rs := [9]) (by kernel_rfl) (by simp) ?_
          refine AllReadyL.last rfl (fun KQ hK => ?_)
          obtain ⟨q1, q2, q3, q4, qb⟩ := al4 y0 (.cells (madeCells #[Value.int .i64 0] l.length) 3) (.cells #[.slice none 0 0, .map none, .slice none 0 0, .slice none 0 0, .int .i64 0] 117) (.cells (madeCells #[Value.int .i64 0] l.length) 3) (.map #[] 0)
          generalize ((((y0.alloc (.cells (madeCells #[Value.int .i64 0] l.length) 3)).alloc (.cells #[.slice none 0 0, .map none, .slice none 0 0, .slice none 0 0, .int .i64 0] 117)).alloc (.cells (madeCells #[Value.int .i64 0] l.length) 3)).alloc (.map #[] 0)) = y4 at q1 q2 q3 q4 qb ⊢
          obtain ⟨⟨z0, z1, z2, z3, z4⟩, zf⟩ := roZ_facts q2
          have QM : Hid _ := q4
          have QP : Hid _ := q1
          have QI : Hid _ := q3
          have QT : Hid _ := q2
          have QB : Hid _ := qb
          clear q1 q2 q3 q4 qb
          go_simp
          refine hK.out _ _ ?_
          clear hK KQ
          refine wpAnyL_done (by kernel_rfl) ?_ _
          clear z0 z1 z2 z3 z4 zf
          go_wp2_with fail
          go_meet
          exact ⟨(y0.heap.size + 1), (y0.heap.size + 1 + 1 + 1), (y0.heap.size), (y0.heap.size + 1 + 1), rfl, _, rfl, HMK.out y4 (y0.heap.size + 1 + 1 + 1) (y0.heap.size) (y0.heap.size + 1 + 1) (y0.heap.size + 1) QB.out QM.out QP.out QI.out QT.out (by omega) (by omega) (by omega) (by omega) (by omega)⟩
    · skip
      go_simp
      refine hK.out _ _ trivial (fun hH1 => ?_)
      clear hK KQ
      refine wpAnyL_ready (rs := [2, 4, 8]) (by kernel_rfl) (by simp) ?_
      refine AllReadyL.cons rfl (fun KQ hK => ?_) (AllReadyL.cons rfl (fun KQ hK => ?_) (AllReadyL.cons rfl (fun KQ hK => ?_) AllReadyL.nil))
      · skip
        go_simp
        refine hK.out _ ((y0.alloc (.cells (madeCells #[Value.int .i64 0] l.length) 3)).alloc (.map #[] 0)) trivial (fun hH2 => ?_)
        clear hK KQ
        refine wpAnyL_ready (rs := [4, 8]) (by kernel_rfl) (by simp) ?_
        refine AllReadyL.cons rfl (fun KQ hK => ?_) (AllReadyL.cons rfl (fun KQ hK => ?_) AllReadyL.nil)
        · skip
          go_simp
          refine hK.out _ _ trivial (fun hH3 => ?_)
          clear hK KQ
          refine wpAnyL_take (i := 7) (oi := { dst := some 29, op := Go.Op.build 117 #[(0, Go.Operand.tmp 22), (1, Go.Operand.tmp 24), (2, Go.Operand.tmp 26), (3, Go.Operand.tmp 28)], type := 117, pos := "roll.go:23", after := #[{ on := 0, ground := Go.Ground.data }, { on := 2, ground := Go.Ground.data }, { on := 4, ground := Go.Ground.data }, { on := 6, ground := Go.Ground.data }], guard := none }) (v := ?_) rfl (by kernel_rfl) (by kernel_rfl) (by decide) (by kernel_rfl) (by kernel_rfl) (by kernel_rfl) (fun _ _ _ h => h) (Or.inl ⟨by rfl, ?_⟩) (by assumption) ?_
          rotate_left
          · intro w' hS; go_simp; (try with_reducible rfl)
          simp only [Act.put, List.setIfInBounds_toArray, List.set_cons_zero, List.set_cons_succ]
          refine wpAnyL_ready (rs := [8]) (by kernel_rfl) (by simp) ?_
          refine AllReadyL.cons rfl (fun KQ hK => ?_) AllReadyL.nil
          go_simp
          refine hK.out _ _ trivial (fun hH4 => ?_)
          clear hK KQ
          refine wpAnyL_ready (rs := [9]) (by kernel_rfl) (by simp) ?_
          refine AllReadyL.last rfl (fun KQ hK => ?_)
          obtain ⟨q1, q2, q3, q4, qb⟩ := al4 y0 (.cells (madeCells #[Value.int .i64 0] l.length) 3) (.map #[] 0) (.cells (madeCells #[Value.int .i64 0] l.length) 3) (.cells #[.slice none 0 0, .map none, .slice none 0 0, .slice none 0 0, .int .i64 0] 117)
          generalize ((((y0.alloc (.cells (madeCells #[Value.int .i64 0] l.length) 3)).alloc (.map #[] 0)).alloc (.cells (madeCells #[Value.int .i64 0] l.length) 3)).alloc (.cells #[.slice none 0 0, .map none, .slice none 0 0, .slice none 0 0, .int .i64 0] 117)) = y4 at q1 q2 q3 q4 qb ⊢
          obtain ⟨⟨z0, z1, z2, z3, z4⟩, zf⟩ := roZ_facts q4
          have QM : Hid _ := q2
          have QP : Hid _ := q3
          have QI : Hid _ := q1
          have QT : Hid _ := q4
          have QB : Hid _ := qb
          clear q1 q2 q3 q4 qb
          go_simp
          refine hK.out _ _ ?_
          clear hK KQ
          refine wpAnyL_done (by kernel_rfl) ?_ _
          clear z0 z1 z2 z3 z4 zf
          go_wp2_with fail
          go_meet
          exact ⟨(y0.heap.size + 1 + 1 + 1), (y0.heap.size + 1), (y0.heap.size + 1 + 1), (y0.heap.size), rfl, _, rfl, HMK.out y4 (y0.heap.size + 1) (y0.heap.size + 1 + 1) (y0.heap.size) (y0.heap.size + 1 + 1 + 1) QB.out QM.out QP.out QI.out QT.out (by omega) (by omega) (by omega) (by omega) (by omega)⟩
        · skip
          go_simp
          refine hK.out _ _ trivial (fun hH3 => ?_)
          clear hK KQ
          refine wpAnyL_ready (rs := [4]) (by kernel_rfl) (by simp) ?_
          refine AllReadyL.cons rfl (fun KQ hK => ?_) AllReadyL.nil
          go_simp
          refine hK.out _ _ trivial (fun hH4 => ?_)
          clear hK KQ
          refine wpAnyL_take (i := 7) (oi := { dst := some 29, op := Go.Op.build 117 #[(0, Go.Operand.tmp 22), (1, Go.Operand.tmp 24), (2, Go.Operand.tmp 26), (3, Go.Operand.tmp 28)], type := 117, pos := "roll.go:23", after := #[{ on := 0, ground := Go.Ground.data }, { on := 2, ground := Go.Ground.data }, { on := 4, ground := Go.Ground.data }, { on := 6, ground := Go.Ground.data }], guard := none }) (v := ?_) rfl (by kernel_rfl) (by kernel_rfl) (by decide) (by kernel_rfl) (by kernel_rfl) (by kernel_rfl) (fun _ _ _ h => h) (Or.inl ⟨by rfl, ?_⟩) (by assumption) ?_
          rotate_left
          · intro w' hS; go_simp; (try with_reducible rfl)
          simp only [Act.put, List.setIfInBounds_toArray, List.set_cons_zero, List.set_cons_succ]
          refine wpAnyL_ready (rs := [9]) (by kernel_rfl) (by simp) ?_
          refine AllReadyL.last rfl (fun KQ hK => ?_)
          obtain ⟨q1, q2, q3, q4, qb⟩ := al4 y0 (.cells (madeCells #[Value.int .i64 0] l.length) 3) (.map #[] 0) (.cells #[.slice none 0 0, .map none, .slice none 0 0, .slice none 0 0, .int .i64 0] 117) (.cells (madeCells #[Value.int .i64 0] l.length) 3)
          generalize ((((y0.alloc (.cells (madeCells #[Value.int .i64 0] l.length) 3)).alloc (.map #[] 0)).alloc (.cells #[.slice none 0 0, .map none, .slice none 0 0, .slice none 0 0, .int .i64 0] 117)).alloc (.cells (madeCells #[Value.int .i64 0] l.length) 3)) = y4 at q1 q2 q3 q4 qb ⊢
          obtain ⟨⟨z0, z1, z2, z3, z4⟩, zf⟩ := roZ_facts q3
          have QM : Hid _ := q2
          have QP : Hid _ := q4
          have QI : Hid _ := q1
          have QT : Hid _ := q3
          have QB : Hid _ := qb
          clear q1 q2 q3 q4 qb
          go_simp
          refine hK.out _ _ ?_
          clear hK KQ
          refine wpAnyL_done (by kernel_rfl) ?_ _
          clear z0 z1 z2 z3 z4 zf
          go_wp2_with fail
          go_meet
          exact ⟨(y0.heap.size + 1 + 1), (y0.heap.size + 1), (y0.heap.size + 1 + 1 + 1), (y0.heap.size), rfl, _, rfl, HMK.out y4 (y0.heap.size + 1) (y0.heap.size + 1 + 1 + 1) (y0.heap.size) (y0.heap.size + 1 + 1) QB.out QM.out QP.out QI.out QT.out (by omega) (by omega) (by omega) (by omega) (by omega)⟩
      · skip
        go_simp
        refine hK.out _ _ trivial (fun hH2 => ?_)
        clear hK KQ
        refine wpAnyL_ready (rs := [2, 8]) (by kernel_rfl) (by simp) ?_
        refine AllReadyL.cons rfl (fun KQ hK => ?_) (AllReadyL.cons rfl (fun KQ hK => ?_) AllReadyL.nil)
        · skip
          go_simp
          refine hK.out _ (((y0.alloc (.cells (madeCells #[Value.int .i64 0] l.length) 3)).alloc (.cells (madeCells #[Value.int .i64 0] l.length) 3)).alloc (.map #[] 0)) trivial (fun hH3 => ?_)
          clear hK KQ
          refine wpAnyL_take (i := 7) (oi := { dst := some 29, op := Go.Op.build 117 #[(0, Go.Operand.tmp 22), (1, Go.Operand.tmp 24), (2, Go.Operand.tmp 26), (3, Go.Operand.tmp 28)], type := 117, pos := "roll.go:23", after := #[{ on := 0, ground := Go.Ground.data }, { on := 2, ground := Go.Ground.data }, { on := 4, ground := Go.Ground.data }, { on := 6, ground := Go.Ground.data }], guard := none }) (v := ?_) rfl (by kernel_rfl) (by kernel_rfl) (by decide) (by kernel_rfl) (by kernel_rfl) (by kernel_rfl) (fun _ _ _ h => h) (Or.inl ⟨by rfl, ?_⟩) (by assumption) ?_
          rotate_left
          · intro w' hS; go_simp; (try with_reducible rfl)
          simp only [Act.put, List.setIfInBounds_toArray, List.set_cons_zero, List.set_cons_succ]
          refine wpAnyL_ready (rs := [8]) (by kernel_rfl) (by simp) ?_
          refine AllReadyL.cons rfl (fun KQ hK => ?_) AllReadyL.nil
          go_simp
          refine hK.out _ _ trivial (fun hH4 => ?_)
          clear hK KQ
          refine wpAnyL_ready (rs := [9]) (by kernel_rfl) (by simp) ?_
          refine AllReadyL.last rfl (fun KQ hK => ?_)
          obtain ⟨q1, q2, q3, q4, qb⟩ := al4 y0 (.cells (madeCells #[Value.int .i64 0] l.length) 3) (.cells (madeCells #[Value.int .i64 0] l.length) 3) (.map #[] 0) (.cells #[.slice none 0 0, .map none, .slice none 0 0, .slice none 0 0, .int .i64 0] 117)
          generalize ((((y0.alloc (.cells (madeCells #[Value.int .i64 0] l.length) 3)).alloc (.cells (madeCells #[Value.int .i64 0] l.length) 3)).alloc (.map #[] 0)).alloc (.cells #[.slice none 0 0, .map none, .slice none 0 0, .slice none 0 0, .int .i64 0] 117)) = y4 at q1 q2 q3 q4 qb ⊢
          obtain ⟨⟨z0, z1, z2, z3, z4⟩, zf⟩ := roZ_facts q4
          have QM : Hid _ := q3
          have QP : Hid _ := q2
          have QI : Hid _ := q1
          have QT : Hid _ := q4
          have QB : Hid _ := qb
          clear q1 q2 q3 q4 qb
          go_simp
          refine hK.out _ _ ?_
          clear hK KQ
          refine wpAnyL_done (by kernel_rfl) ?_ _
          clear z0 z1 z2 z3 z4 zf
          go_wp2_with fail
          go_meet
          exact ⟨(y0.heap.size + 1 + 1 + 1), (y0.heap.size + 1 + 1), (y0.heap.size + 1), (y0.heap.size), rfl, _, rfl, HMK.out y4 (y0.heap.size + 1 + 1) (y0.heap.size + 1) (y0.heap.size) (y0.heap.size + 1 + 1 + 1) QB.out QM.out QP.out QI.out QT.out (by omega) (by omega) (by omega) (by omega) (by omega)⟩
        · skip
          go_simp
          refine hK.out _ _ trivial (fun hH3 => ?_)
          clear hK KQ
          refine wpAnyL_ready (rs := [2]) (by kernel_rfl) (by simp) ?_
          refine AllReadyL.cons rfl (fun KQ hK => ?_) AllReadyL.nil
          go_simp
          refine hK.out _ ((((y0.alloc (.cells (madeCells #[Value.int .i64 0] l.length) 3)).alloc (.cells (madeCells #[Value.int .i64 0] l.length) 3)).alloc (.cells #[.slice none 0 0, .map none, .slice none 0 0, .slice none 0 0, .int .i64 0] 117)).alloc (.map #[] 0)) trivial (fun hH4 => ?_)
          clear hK KQ
          refine wpAnyL_take (i := 7) (oi := { dst := some 29, op := Go.Op.build 117 #[(0, Go.Operand.tmp 22), (1, Go.Operand.tmp 24), (2, Go.Operand.tmp 26), (3, Go.Operand.tmp 28)], type := 117, pos := "roll.go:23", after := #[{ on := 0, ground := Go.Ground.data }, { on := 2, ground := Go.Ground.data }, { on := 4, ground := Go.Ground.data }, { on := 6, ground := Go.Ground.data }], guard := none }) (v := ?_) rfl (by kernel_rfl) (by kernel_rfl) (by decide) (by kernel_rfl) (by kernel_rfl) (by kernel_rfl) (fun _ _ _ h => h) (Or.inl ⟨by rfl, ?_⟩) (by assumption) ?_
          rotate_left
          · intro w' hS; go_simp; (try with_reducible rfl)
          simp only [Act.put, List.setIfInBounds_toArray, List.set_cons_zero, List.set_cons_succ]
          refine wpAnyL_ready (rs := [9]) (by kernel_rfl) (by simp) ?_
          refine AllReadyL.last rfl (fun KQ hK => ?_)
          obtain ⟨q1, q2, q3, q4, qb⟩ := al4 y0 (.cells (madeCells #[Value.int .i64 0] l.length) 3) (.cells (madeCells #[Value.int .i64 0] l.length) 3) (.cells #[.slice none 0 0, .map none, .slice none 0 0, .slice none 0 0, .int .i64 0] 117) (.map #[] 0)
          generalize ((((y0.alloc (.cells (madeCells #[Value.int .i64 0] l.length) 3)).alloc (.cells (madeCells #[Value.int .i64 0] l.length) 3)).alloc (.cells #[.slice none 0 0, .map none, .slice none 0 0, .slice none 0 0, .int .i64 0] 117)).alloc (.map #[] 0)) = y4 at q1 q2 q3 q4 qb ⊢
          obtain ⟨⟨z0, z1, z2, z3, z4⟩, zf⟩ := roZ_facts q3
          have QM : Hid _ := q4
          have QP : Hid _ := q2
          have QI : Hid _ := q1
          have QT : Hid _ := q3
          have QB : Hid _ := qb
          clear q1 q2 q3 q4 qb
          go_simp
          refine hK.out _ _ ?_
          clear hK KQ
          refine wpAnyL_done (by kernel_rfl) ?_ _
          clear z0 z1 z2 z3 z4 zf
          go_wp2_with fail
          go_meet
          exact ⟨(y0.heap.size + 1 + 1), (y0.heap.size + 1 + 1 + 1), (y0.heap.size + 1), (y0.heap.size), rfl, _, rfl, HMK.out y4 (y0.heap.size + 1 + 1 + 1) (y0.heap.size + 1) (y0.heap.size) (y0.heap.size + 1 + 1) QB.out QM.out QP.out QI.out QT.out (by omega) (by omega) (by omega) (by omega) (by omega)⟩
      · skip
        go_simp
        refine hK.out _ _ trivial (fun hH2 => ?_)
        clear hK KQ
        refine wpAnyL_ready (rs := [2, 4]) (by kernel_rfl) (by simp) ?_
        refine AllReadyL.cons rfl (fun KQ hK => ?_) (AllReadyL.cons rfl (fun KQ hK => ?_) AllReadyL.nil)
        · skip
          go_simp
          refine hK.out _ (((y0.alloc (.cells (madeCells #[Value.int .i64 0] l.length) 3)).alloc (.cells #[.slice none 0 0, .map none, .slice none 0 0, .slice none 0 0, .int .i64 0] 117)).alloc (.map #[] 0)) trivial (fun hH3 => ?_)
          clear hK KQ
          refine wpAnyL_ready (rs := [4]) (by kernel_rfl) (by simp) ?_
          refine AllReadyL.cons rfl (fun KQ hK => ?_) AllReadyL.nil
          go_simp
          refine hK.out _ _ trivial (fun hH4 => ?_)
          clear hK KQ
          refine wpAnyL_take (i := 7) (oi := { dst := some 29, op := Go.Op.build 117 #[(0, Go.Operand.tmp 22), (1, Go.Operand.tmp 24), (2, Go.Operand.tmp 26), (3, Go.Operand.tmp 28)], type := 117, pos := "roll.go:23", after := #[{ on := 0, ground := Go.Ground.data }, { on := 2, ground := Go.Ground.data }, { on := 4, ground := Go.Ground.data }, { on := 6, ground := Go.Ground.data }], guard := none }) (v := ?_) rfl (by kernel_rfl) (by kernel_rfl) (by decide) (by kernel_rfl) (by kernel_rfl) (by kernel_rfl) (fun _ _ _ h => h) (Or.inl ⟨by rfl, ?_⟩) (by assumption) ?_
          rotate_left
          · intro w' hS; go_simp; (try with_reducible rfl)
          simp only [Act.put, List.setIfInBounds_toArray, List.set_cons_zero, List.set_cons_succ]
          refine wpAnyL_ready (rs := [9]) (by kernel_rfl) (by simp) ?_
          refine AllReadyL.last rfl (fun KQ hK => ?_)
          obtain ⟨q1, q2, q3, q4, qb⟩ := al4 y0 (.cells (madeCells #[Value.int .i64 0] l.length) 3) (.cells #[.slice none 0 0, .map none, .slice none 0 0, .slice none 0 0, .int .i64 0] 117) (.map #[] 0) (.cells (madeCells #[Value.int .i64 0] l.length) 3)
          generalize ((((y0.alloc (.cells (madeCells #[Value.int .i64 0] l.length) 3)).alloc (.cells #[.slice none 0 0, .map none, .slice none 0 0, .slice none 0 0, .int .i64 0] 117)).alloc (.map #[] 0)).alloc (.cells (madeCells #[Value.int .i64 0] l.length) 3)) = y4 at q1 q2 q3 q4 qb ⊢
          obtain ⟨⟨z0, z1, z2, z3, z4⟩, zf⟩ := roZ_facts q2
          have QM : Hid _ := q3
          have QP : Hid _ := q4
          have QI : Hid _ := q1
          have QT : Hid _ := q2
          have QB : Hid _ := qb
          clear q1 q2 q3 q4 qb
          go_simp
          refine hK.out _ _ ?_
          clear hK KQ
          refine wpAnyL_done (by kernel_rfl) ?_ _
          clear z0 z1 z2 z3 z4 zf
          go_wp2_with fail
          go_meet
          exact ⟨(y0.heap.size + 1), (y0.heap.size + 1 + 1), (y0.heap.size + 1 + 1 + 1), (y0.heap.size), rfl, _, rfl, HMK.out y4 (y0.heap.size + 1 + 1) (y0.heap.size + 1 + 1 + 1) (y0.heap.size) (y0.heap.size + 1) QB.out QM.out QP.out QI.out QT.out (by omega) (by omega) (by omega) (by omega) (by omega)⟩
        · skip
          go_simp
          refine hK.out _ _ trivial (fun hH3 => ?_)
          clear hK KQ
          refine wpAnyL_ready (rs := [2]) (by kernel_rfl) (by simp) ?_
          refine AllReadyL.cons rfl (fun KQ hK => ?_) AllReadyL.nil
          go_simp
          refine hK.out _ ((((y0.alloc (.cells (madeCells #[Value.int .i64 0] l.length) 3)).alloc (.cells #[.slice none 0 0, .map none, .slice none 0 0, .slice none 0 0, .int .i64 0] 117)).alloc (.cells (madeCells #[Value.int .i64 0] l.length) 3)).alloc (.map #[] 0)) trivial (fun hH4 => ?_)
          clear hK KQ
          refine wpAnyL_take (i := 7) (oi := { dst := some 29, op := Go.Op.build 117 #[(0, Go.Operand.tmp 22), (1, Go.Operand.tmp 24), (2, Go.Operand.tmp 26), (3, Go.Operand.tmp 28)], type := 117, pos := "roll.go:23", after := #[{ on := 0, ground := Go.Ground.data }, { on := 2, ground := Go.Ground.data }, { on := 4, ground := Go.Ground.data }, { on := 6, ground := Go.Ground.data }], guard := none }) (v := ?_) rfl (by kernel_rfl) (by kernel_rfl) (by decide) (by kernel_rfl) (by kernel_rfl) (by kernel_rfl) (fun _ _ _ h => h) (Or.inl ⟨by rfl, ?_⟩) (by assumption) ?_
          rotate_left
          · intro w' hS; go_simp; (try with_reducible rfl)
          simp only [Act.put, List.setIfInBounds_toArray, List.set_cons_zero, List.set_cons_succ]
          refine wpAnyL_ready (rs := [9]) (by kernel_rfl) (by simp) ?_
          refine AllReadyL.last rfl (fun KQ hK => ?_)
          obtain ⟨q1, q2, q3, q4, qb⟩ := al4 y0 (.cells (madeCells #[Value.int .i64 0] l.length) 3) (.cells #[.slice none 0 0, .map none, .slice none 0 0, .slice none 0 0, .int .i64 0] 117) (.cells (madeCells #[Value.int .i64 0] l.length) 3) (.map #[] 0)
          generalize ((((y0.alloc (.cells (madeCells #[Value.int .i64 0] l.length) 3)).alloc (.cells #[.slice none 0 0, .map none, .slice none 0 0, .slice none 0 0, .int .i64 0] 117)).alloc (.cells (madeCells #[Value.int .i64 0] l.length) 3)).alloc (.map #[] 0)) = y4 at q1 q2 q3 q4 qb ⊢
          obtain ⟨⟨z0, z1, z2, z3, z4⟩, zf⟩ := roZ_facts q2
          have QM : Hid _ := q4
          have QP : Hid _ := q3
          have QI : Hid _ := q1
          have QT : Hid _ := q2
          have QB : Hid _ := qb
          clear q1 q2 q3 q4 qb
          go_simp
          refine hK.out _ _ ?_
          clear hK KQ
          refine wpAnyL_done (by kernel_rfl) ?_ _
          clear z0 z1 z2 z3 z4 zf
          go_wp2_with fail
          go_meet
          exact ⟨(y0.heap.size + 1), (y0.heap.size + 1 + 1 + 1), (y0.heap.size + 1 + 1), (y0.heap.size), rfl, _, rfl, HMK.out y4 (y0.heap.size + 1 + 1 + 1) (y0.heap.size + 1 + 1) (y0.heap.size) (y0.heap.size + 1) QB.out QM.out QP.out QI.out QT.out (by omega) (by omega) (by omega) (by omega) (by omega)⟩
    · skip
      go_simp
      refine hK.out _ _ trivial (fun hH1 => ?_)
      clear hK KQ
      refine wpAnyL_ready (rs := [2, 4, 6]) (by kernel_rfl) (by simp) ?_
      refine AllReadyL.cons rfl (fun KQ hK => ?_) (AllReadyL.cons rfl (fun KQ hK => ?_) (AllReadyL.cons rfl (fun KQ hK => ?_) AllReadyL.nil))
      · skip
        go_simp
        refine hK.out _ ((y0.alloc (.cells #[.slice none 0 0, .map none, .slice none 0 0, .slice none 0 0, .int .i64 0] 117)).alloc (.map #[] 0)) trivial (fun hH2 => ?_)
        clear hK KQ
        refine wpAnyL_ready (rs := [4, 6]) (by kernel_rfl) (by simp) ?_
        refine AllReadyL.cons rfl (fun KQ hK => ?_) (AllReadyL.cons rfl (fun KQ hK => ?_) AllReadyL.nil)
        · skip
          go_simp
          refine hK.out _ _ trivial (fun hH3 => ?_)
          clear hK KQ
          refine wpAnyL_ready (rs := [6]) (by kernel_rfl) (by simp) ?_
          refine AllReadyL.cons rfl (fun KQ hK => ?_) AllReadyL.nil
          go_simp
          refine hK.out _ _ trivial (fun hH4 => ?_)
          clear hK KQ
          refine wpAnyL_take (i := 7) (oi := { dst := some 29, op := Go.Op.build 117 #[(0, Go.Operand.tmp 22), (1, Go.Operand.tmp 24), (2, Go.Operand.tmp 26), (3, Go.Operand.tmp 28)], type := 117, pos := "roll.go:23", after := #[{ on := 0, ground := Go.Ground.data }, { on := 2, ground := Go.Ground.data }, { on := 4, ground := Go.Ground.data }, { on := 6, ground := Go.Ground.data }], guard := none }) (v := ?_) rfl (by kernel_rfl) (by kernel_rfl) (by decide) (by kernel_rfl) (by kernel_rfl) (by kernel_rfl) (fun _ _ _ h => h) (Or.inl ⟨by rfl, ?_⟩) (by assumption) ?_
          rotate_left
          · intro w' hS; go_simp; (try with_reducible rfl)
          simp only [Act.put, List.setIfInBounds_toArray, List.set_cons_zero, List.set_cons_succ]
          refine wpAnyL_ready (rs := [9]) (by kernel_rfl) (by simp) ?_
          refine AllReadyL.last rfl (fun KQ hK => ?_)
          obtain ⟨q1, q2, q3, q4, qb⟩ := al4 y0 (.cells #[.slice none 0 0, .map none, .slice none 0 0, .slice none 0 0, .int .i64 0] 117) (.map #[] 0) (.cells (madeCells #[Value.int .i64 0] l.length) 3) (.cells (madeCells #[Value.int .i64 0] l.length) 3)
          generalize ((((y0.alloc (.cells #[.slice none 0 0, .map none, .slice none 0 0, .slice none 0 0, .int .i64 0] 117)).alloc (.map #[] 0)).alloc (.cells (madeCells #[Value.int .i64 0] l.length) 3)).alloc (.cells (madeCells #[Value.int .i64 0] l.length) 3)) = y4 at q1 q2 q3 q4 qb ⊢
          obtain ⟨⟨z0, z1, z2, z3, z4⟩, zf⟩ := roZ_facts q1
          have QM : Hid _ := q2
          have QP : Hid _ := q3
          have QI : Hid _ := q4
          have QT : Hid _ := q1
          have QB : Hid _ := qb
          clear q1 q2 q3 q4 qb
          go_simp
          refine hK.out _ _ ?_
          clear hK KQ
          refine wpAnyL_done (by kernel_rfl) ?_ _
          clear z0 z1 z2 z3 z4 zf
          go_wp2_with fail
          go_meet
          exact ⟨(y0.heap.size), (y0.heap.size + 1), (y0.heap.size + 1 + 1), (y0.heap.size + 1 + 1 + 1), rfl, _, rfl, HMK.out y4 (y0.heap.size + 1) (y0.heap.size + 1 + 1) (y0.heap.size + 1 + 1 + 1) (y0.heap.size) QB.out QM.out QP.out QI.out QT.out (by omega) (by omega) (by omega) (by omega) (by omega)⟩
        · skip
          go_simp
          refine hK.out _ _ trivial (fun hH3 => ?_)
          clear hK KQ
          refine wpAnyL_ready (rs := [4]) (by kernel_rfl) (by simp) ?_
          refine AllReadyL.cons rfl (fun KQ hK => ?_) AllReadyL.nil
          go_simp
          refine hK.out _ _ trivial (fun hH4 => ?_)
          clear hK KQ
          refine wpAnyL_take (i := 7) (oi := { dst := some 29, op := Go.Op.build 117 #[(0, Go.Operand.tmp 22), (1, Go.Operand.tmp 24), (2, Go.Operand.tmp 26), (3, Go.Operand.tmp 28)], type := 117, pos := "roll.go:23", after := #[{ on := 0, ground := Go.Ground.data }, { on := 2, ground := Go.Ground.data }, { on := 4, ground := Go.Ground.data }, { on := 6, ground := Go.Ground.data }], guard := none }) (v := ?_) rfl (by kernel_rfl) (by kernel_rfl) (by decide) (by kernel_rfl) (by kernel_rfl) (by kernel_rfl) (fun _ _ _ h => h) (Or.inl ⟨by rfl, ?_⟩) (by assumption) ?_
          rotate_left
          · intro w' hS; go_simp; (try with_reducible rfl)
          simp only [Act.put, List.setIfInBounds_toArray, List.set_cons_zero, List.set_cons_succ]
          refine wpAnyL_ready (rs := [9]) (by kernel_rfl) (by simp) ?_
          refine AllReadyL.last rfl (fun KQ hK => ?_)
          obtain ⟨q1, q2, q3, q4, qb⟩ := al4 y0 (.cells #[.slice none 0 0, .map none, .slice none 0 0, .slice none 0 0, .int .i64 0] 117) (.map #[] 0) (.cells (madeCells #[Value.int .i64 0] l.length) 3) (.cells (madeCells #[Value.int .i64 0] l.length) 3)
          generalize ((((y0.alloc (.cells #[.slice none 0 0, .map none, .slice none 0 0, .slice none 0 0, .int .i64 0] 117)).alloc (.map #[] 0)).alloc (.cells (madeCells #[Value.int .i64 0] l.length) 3)).alloc (.cells (madeCells #[Value.int .i64 0] l.length) 3)) = y4 at q1 q2 q3 q4 qb ⊢
          obtain ⟨⟨z0, z1, z2, z3, z4⟩, zf⟩ := roZ_facts q1
          have QM : Hid _ := q2
          have QP : Hid _ := q4
          have QI : Hid _ := q3
          have QT : Hid _ := q1
          have QB : Hid _ := qb
          clear q1 q2 q3 q4 qb
          go_simp
          refine hK.out _ _ ?_
          clear hK KQ
          refine wpAnyL_done (by kernel_rfl) ?_ _
          clear z0 z1 z2 z3 z4 zf
          go_wp2_with fail
          go_meet
          exact ⟨(y0.heap.size), (y0.heap.size + 1), (y0.heap.size + 1 + 1 + 1), (y0.heap.size + 1 + 1), rfl, _, rfl, HMK.out y4 (y0.heap.size + 1) (y0.heap.size + 1 + 1 + 1) (y0.heap.size + 1 + 1) (y0.heap.size) QB.out QM.out QP.out QI.out QT.out (by omega) (by omega) (by omega) (by omega) (by omega)⟩
      · skip
        go_simp
        refine hK.out _ _ trivial (fun hH2 => ?_)
        clear hK KQ
        refine wpAnyL_ready (rs := [2, 6]) (by kernel_rfl) (by simp) ?_
        refine AllReadyL.cons rfl (fun KQ hK => ?_) (AllReadyL.cons rfl (fun KQ hK => ?_) AllReadyL.nil)
        · skip
          go_simp
          refine hK.out _ (((y0.alloc (.cells #[.slice none 0 0, .map none, .slice none 0 0, .slice none 0 0, .int .i64 0] 117)).alloc (.cells (madeCells #[Value.int .i64 0] l.length) 3)).alloc (.map #[] 0)) trivial (fun hH3 => ?_)
          clear hK KQ
          refine wpAnyL_ready (rs := [6]) (by kernel_rfl) (by simp) ?_
          refine AllReadyL.cons rfl (fun KQ hK => ?_) AllReadyL.nil
          go_simp
          refine hK.out _ _ trivial (fun hH4 => ?_)
          clear hK KQ
          refine wpAnyL_take (i := 7) (oi := { dst := some 29, op := Go.Op.build 117 #[(0, Go.Operand.tmp 22), (1, Go.Operand.tmp 24), (2, Go.Operand.tmp 26), (3, Go.Operand.tmp 28)], type := 117, pos := "roll.go:23", after := #[{ on := 0, ground := Go.Ground.data }, { on := 2, ground := Go.Ground.data }, { on := 4, ground := Go.Ground.data }, { on := 6, ground := Go.Ground.data }], guard := none }) (v := ?_) rfl (by kernel_rfl) (by kernel_rfl) (by decide) (by kernel_rfl) (by kernel_rfl) (by kernel_rfl) (fun _ _ _ h => h) (Or.inl ⟨by rfl, ?_⟩) (by assumption) ?_
          rotate_left
          · intro w' hS; go_simp; (try with_reducible rfl)
          simp only [Act.put, List.setIfInBounds_toArray, List.set_cons_zero, List.set_cons_succ]
          refine wpAnyL_ready (rs := [9]) (by kernel_rfl) (by simp) ?_
          refine AllReadyL.last rfl (fun KQ hK => ?_)
          obtain ⟨q1, q2, q3, q4, qb⟩ := al4 y0 (.cells #[.slice none 0 0, .map none, .slice none 0 0, .slice none 0 0, .int .i64 0] 117) (.cells (madeCells #[Value.int .i64 0] l.length) 3) (.map #[] 0) (.cells (madeCells #[Value.int .i64 0] l.length) 3)
          generalize ((((y0.alloc (.cells #[.slice none 0 0, .map none, .slice none 0 0, .slice none 0 0, .int .i64 0] 117)).alloc (.cells (madeCells #[Value.int .i64 0] l.length) 3)).alloc (.map #[] 0)).alloc (.cells (madeCells #[Value.int .i64 0] l.length) 3)) = y4 at q1 q2 q3 q4 qb ⊢
          obtain ⟨⟨z0, z1, z2, z3, z4⟩, zf⟩ := roZ_facts q1
          have QM : Hid _ := q3
          have QP : Hid _ := q2
          have QI : Hid _ := q4
          have QT : Hid _ := q1
          have QB : Hid _ := qb
          clear q1 q2 q3 q4 qb
          go_simp
          refine hK.out _ _ ?_
          clear hK KQ
          refine wpAnyL_done (by kernel_rfl) ?_ _
          clear z0 z1 z2 z3 z4 zf
          go_wp2_with fail
          go_meet
          exact ⟨(y0.heap.size), (y0.heap.size + 1 + 1), (y0.heap.size + 1), (y0.heap.size + 1 + 1 + 1), rfl, _, rfl, HMK.out y4 (y0.heap.size + 1 + 1) (y0.heap.size + 1) (y0.heap.size + 1 + 1 + 1) (y0.heap.size) QB.out QM.out QP.out QI.out QT.out (by omega) (by omega) (by omega) (by omega) (by omega)⟩
        · skip
          go_simp
          refine hK.out _ _ trivial (fun hH3 => ?_)
          clear hK KQ
          refine wpAnyL_ready (rs := [2]) (by kernel_rfl) (by simp) ?_
          refine AllReadyL.cons rfl (fun KQ hK => ?_) AllReadyL.nil
          go_simp
          refine hK.out _ ((((y0.alloc (.cells #[.slice none 0 0, .map none, .slice none 0 0, .slice none 0 0, .int .i64 0] 117)).alloc (.cells (madeCells #[Value.int .i64 0] l.length) 3)).alloc (.cells (madeCells #[Value.int .i64 0] l.length) 3)).alloc (.map #[] 0)) trivial (fun hH4 => ?_)
          clear hK KQ
          refine wpAnyL_take (i := 7) (oi := { dst := some 29, op := Go.Op.build 117 #[(0, Go.Operand.tmp 22), (1, Go.Operand.tmp 24), (2, Go.Operand.tmp 26), (3, Go.Operand.tmp 28)], type := 117, pos := "roll.go:23", after := #[{ on := 0, ground := Go.Ground.data }, { on := 2, ground := Go.Ground.data }, { on := 4, ground := Go.Ground.data }, { on := 6, ground := Go.Ground.data }], guard := none }) (v := ?_) rfl (by kernel_rfl) (by kernel_rfl) (by decide) (by kernel_rfl) (by kernel_rfl) (by kernel_rfl) (fun _ _ _ h => h) (Or.inl ⟨by rfl, ?_⟩) (by assumption) ?_
          rotate_left
          · intro w' hS; go_simp; (try with_reducible rfl)
          simp only [Act.put, List.setIfInBounds_toArray, List.set_cons_zero, List.set_cons_succ]
          refine wpAnyL_ready (rs := [9]) (by kernel_rfl) (by simp) ?_
          refine AllReadyL.last rfl (fun KQ hK => ?_)
          obtain ⟨q1, q2, q3, q4, qb⟩ := al4 y0 (.cells #[.slice none 0 0, .map none, .slice none 0 0, .slice none 0 0, .int .i64 0] 117) (.cells (madeCells #[Value.int .i64 0] l.length) 3) (.cells (madeCells #[Value.int .i64 0] l.length) 3) (.map #[] 0)
          generalize ((((y0.alloc (.cells #[.slice none 0 0, .map none, .slice none 0 0, .slice none 0 0, .int .i64 0] 117)).alloc (.cells (madeCells #[Value.int .i64 0] l.length) 3)).alloc (.cells (madeCells #[Value.int .i64 0] l.length) 3)).alloc (.map #[] 0)) = y4 at q1 q2 q3 q4 qb ⊢
          obtain ⟨⟨z0, z1, z2, z3, z4⟩, zf⟩ := roZ_facts q1
          have QM : Hid _ := q4
          have QP : Hid _ := q2
          have QI : Hid _ := q3
          have QT : Hid _ := q1
          have QB : Hid _ := qb
          clear q1 q2 q3 q4 qb
          go_simp
          refine hK.out _ _ ?_
          clear hK KQ
          refine wpAnyL_done (by kernel_rfl) ?_ _
          clear z0 z1 z2 z3 z4 zf
          go_wp2_with fail
          go_meet
          exact ⟨(y0.heap.size), (y0.heap.size + 1 + 1 + 1), (y0.heap.size + 1), (y0.heap.size + 1 + 1), rfl, _, rfl, HMK.out y4 (y0.heap.size + 1 + 1 + 1) (y0.heap.size + 1) (y0.heap.size + 1 + 1) (y0.heap.size) QB.out QM.out QP.out QI.out QT.out (by omega) (by omega) (by omega) (by omega) (by omega)⟩
      · skip
        go_simp
        refine hK.out _ _ trivial (fun hH2 => ?_)
        clear hK KQ
        refine wpAnyL_ready (rs := [2, 4]) (by kernel_rfl) (by simp) ?_
        refine AllReadyL.cons rfl (fun KQ hK => ?_) (AllReadyL.cons rfl (fun KQ hK => ?_) AllReadyL.nil)
        · skip
          go_simp
          refine hK.out _ (((y0.alloc (.cells #[.slice none 0 0, .map none, .slice none 0 0, .slice none 0 0, .int .i64 0] 117)).alloc (.cells (madeCells #[Value.int .i64 0] l.length) 3)).alloc (.map #[] 0)) trivial (fun hH3 => ?_)
          clear hK KQ
          refine wpAnyL_ready (rs := [4]) (by kernel_rfl) (by simp) ?_
          refine AllReadyL.cons rfl (fun KQ hK => ?_) AllReadyL.nil
          go_simp
          refine hK.out _ _ trivial (fun hH4 => ?_)
          clear hK KQ
          refine wpAnyL_take (i := 7) (oi := { dst := some 29, op := Go.Op.build 117 #[(0, Go.Operand.tmp 22), (1, Go.Operand.tmp 24), (2, Go.Operand.tmp 26), (3, Go.Operand.tmp 28)], type := 117, pos := "roll.go:23", after := #[{ on := 0, ground := Go.Ground.data }, { on := 2, ground := Go.Ground.data }, { on := 4, ground := Go.Ground.data }, { on := 6, ground := Go.Ground.data }], guard := none }) (v := ?_) rfl (by kernel_rfl) (by kernel_rfl) (by decide) (by kernel_rfl) (by kernel_rfl) (by kernel_rfl) (fun _ _ _ h => h) (Or.inl ⟨by rfl, ?_⟩) (by assumption) ?_
          rotate_left
          · intro w' hS; go_simp; (try with_reducible rfl)
          simp only [Act.put, List.setIfInBounds_toArray, List.set_cons_zero, List.set_cons_succ]
          refine wpAnyL_ready (rs := [9]) (by kernel_rfl) (by simp) ?_
          refine AllReadyL.last rfl (fun KQ hK => ?_)
          obtain ⟨q1, q2, q3, q4, qb⟩ := al4 y0 (.cells #[.slice none 0 0, .map none, .slice none 0 0, .slice none 0 0, .int .i64 0] 117) (.cells (madeCells #[Value.int .i64 0] l.length) 3) (.map #[] 0) (.cells (madeCells #[Value.int .i64 0] l.length) 3)
          generalize ((((y0.alloc (.cells #[.slice none 0 0, .map none, .slice none 0 0, .slice none 0 0, .int .i64 0] 117)).alloc (.cells (madeCells #[Value.int .i64 0] l.length) 3)).alloc (.map #[] 0)).alloc (.cells (madeCells #[Value.int .i64 0] l.length) 3)) = y4 at q1 q2 q3 q4 qb ⊢
          obtain ⟨⟨z0, z1, z2, z3, z4⟩, zf⟩ := roZ_facts q1
          have QM : Hid _ := q3
          have QP : Hid _ := q4
          have QI : Hid _ := q2
          have QT : Hid _ := q1
          have QB : Hid _ := qb
          clear q1 q2 q3 q4 qb
          go_simp
          refine hK.out _ _ ?_
          clear hK KQ
          refine wpAnyL_done (by kernel_rfl) ?_ _
          clear z0 z1 z2 z3 z4 zf
          go_wp2_with fail
          go_meet
          exact ⟨(y0.heap.size), (y0.heap.size + 1 + 1), (y0.heap.size + 1 + 1 + 1), (y0.heap.size + 1), rfl, _, rfl, HMK.out y4 (y0.heap.size + 1 + 1) (y0.heap.size + 1 + 1 + 1) (y0.heap.size + 1) (y0.heap.size) QB.out QM.out QP.out QI.out QT.out (by omega) (by omega) (by omega) (by omega) (by omega)⟩
        · skip
          go_simp
          refine hK.out _ _ trivial (fun hH3 => ?_)
          clear hK KQ
          refine wpAnyL_ready (rs := [2]) (by kernel_rfl) (by simp) ?_
          refine AllReadyL.cons rfl (fun KQ hK => ?_) AllReadyL.nil
          go_simp
          refine hK.out _ ((((y0.alloc (.cells #[.slice none 0 0, .map none, .slice none 0 0, .slice none 0 0, .int .i64 0] 117)).alloc (.cells (madeCells #[Value.int .i64 0] l.length) 3)).alloc (.cells (madeCells #[Value.int .i64 0] l.length) 3)).alloc (.map #[] 0)) trivial (fun hH4 => ?_)
          clear hK KQ
          refine wpAnyL_take (i := 7) (oi := { dst := some 29, op := Go.Op.build 117 #[(0, Go.Operand.tmp 22), (1, Go.Operand.tmp 24), (2, Go.Operand.tmp 26), (3, Go.Operand.tmp 28)], type := 117, pos := "roll.go:23", after := #[{ on := 0, ground := Go.Ground.data }, { on := 2, ground := Go.Ground.data }, { on := 4, ground := Go.Ground.data }, { on := 6, ground := Go.Ground.data }], guard := none }) (v := ?_) rfl (by kernel_rfl) (by kernel_rfl) (by decide) (by kernel_rfl) (by kernel_rfl) (by kernel_rfl) (fun _ _ _ h => h) (Or.inl ⟨by rfl, ?_⟩) (by assumption) ?_
          rotate_left
          · intro w' hS; go_simp; (try with_reducible rfl)
          simp only [Act.put, List.setIfInBounds_toArray, List.set_cons_zero, List.set_cons_succ]
          refine wpAnyL_ready (rs := [9]) (by kernel_rfl) (by simp) ?_
          refine AllReadyL.last rfl (fun KQ hK => ?_)
          obtain ⟨q1, q2, q3, q4, qb⟩ := al4 y0 (.cells #[.slice none 0 0, .map none, .slice none 0 0, .slice none 0 0, .int .i64 0] 117) (.cells (madeCells #[Value.int .i64 0] l.length) 3) (.cells (madeCells #[Value.int .i64 0] l.length) 3) (.map #[] 0)
          generalize ((((y0.alloc (.cells #[.slice none 0 0, .map none, .slice none 0 0, .slice none 0 0, .int .i64 0] 117)).alloc (.cells (madeCells #[Value.int .i64 0] l.length) 3)).alloc (.cells (madeCells #[Value.int .i64 0] l.length) 3)).alloc (.map #[] 0)) = y4 at q1 q2 q3 q4 qb ⊢
          obtain ⟨⟨z0, z1, z2, z3, z4⟩, zf⟩ := roZ_facts q1
          have QM : Hid _ := q4
          have QP : Hid _ := q3
          have QI : Hid _ := q2
          have QT : Hid _ := q1
          have QB : Hid _ := qb
          clear q1 q2 q3 q4 qb
          go_simp
          refine hK.out _ _ ?_
          clear hK KQ
          refine wpAnyL_done (by kernel_rfl) ?_ _
          clear z0 z1 z2 z3 z4 zf
          go_wp2_with fail
          go_meet
          exact ⟨(y0.heap.size), (y0.heap.size + 1 + 1 + 1), (y0.heap.size + 1 + 1), (y0.heap.size + 1), rfl, _, rfl, HMK.out y4 (y0.heap.size + 1 + 1 + 1) (y0.heap.size + 1 + 1) (y0.heap.size + 1) (y0.heap.size) QB.out QM.out QP.out QI.out QT.out (by omega) (by omega) (by omega) (by omega) (by omega)⟩
  case rest =>
    obtain ⟨tb, mb, pb, ib, rfl, wx, rfl, hRS⟩ := hcut
    have HRS : Hid (RS w l gm cm tb mb pb ib 0 0 (.map []) (List.replicate l.length 0) (List.replicate l.length 0) wx) := hRS
    clear hRS hmk
    go_wp2_with fail
    go_loopw [32] (fun vi wr => ∃ (i : Nat) (D : DataW Unit), i ≤ l.length ∧ vi = .int .i64 (i : Nat) ∧ PM l i D ∧ RS w l gm cm tb mb pb ib i 0 D (List.replicate l.length 0) (List.replicate l.length 0) wr) (fun vi _ => l.length - (Go.RowKit.intOf vi).toNat)
    case atStart => exact ⟨0, _, Nat.zero_le _, rfl, PM.empty l, HRS.out⟩
    case round =>
      clear HRS
      obtain ⟨i, D, hi, rfl, hpm, hrs⟩ := hrel
      have HRS : Hid (RS w l gm cm tb mb pb ib i 0 D (List.replicate l.length 0) (List.replicate l.length 0) wr) := hrs
      have HPM : Hid (PM l i D) := hpm
      by_cases hlt : i < l.length
      · have hiI : (i : Int) < l.length := by omega
        have HLT : Hid (i < l.length) := hlt
        obtain ⟨g, o, e1, _, hc⟩ := (own_sr hrs.mem).nat hlt
        simp only [Option.some.injEq, Addr.mk.injEq, and_true] at e1
        obtain ⟨rfl, rfl⟩ := e1
        rw [Nat.zero_add] at hc
        have ct : wr.cell? ⟨tb, 1, none⟩ = some (.map (some mb)) := cell_at hrs.tt rfl
        have hx := HLM.out i hlt
        have HX : Hid (∃ x, l.getD i 0 = x ∧ x < 512) := ⟨_, rfl, Nat.lt_of_lt_of_le hx HMON.out.most⟩
        obtain ⟨x, hx1, hx2⟩ := HX.out
        rw [hx1] at hc
        have HXE : Hid (l.getD i 0 = x) := hx1
        have hkey : keyOf Try.prog 3 (.int .i64 (x : Nat)) = some (.int .i64 (x : Nat)) := keyOf_int_mk Try.und_int (wfI (by omega))
        clear hlt hpm hrs hx hx1
        go_wp2_with (first
          | (at_mapUpdate; refine wpList_mapUpdate_own _ rfl _ _ _ 115 rfl 3 3 keyI Try.und_mapI _ mb i D rfl HRS.out.mp (by unfold maxLen; omega) _ _ _ rfl rfl hkey _ [] (plainElem_int Try.und_int (wfI (x := i) (by omega))) ?_; intro w5 hmo hmg))
        have HRS5 : Hid (RS w l gm cm tb mb pb ib (i + 1) 0 (D.put (.int .i64 (x : Nat)) (.lit (.int .i64 (i : Nat)))) (List.replicate l.length 0) (List.replicate l.length 0) w5) := HRS.out.put hmo hmg
        have HPM5 : Hid (PM l (i + 1) (D.put (.int .i64 (x : Nat)) (.lit (.int .i64 (i : Nat))))) := by
          have := HPM.out.put HND.out HRS.out.mp.isMap HLT.out
          rwa [HXE.out] at this
        clear hmo hmg hc ct hkey HRS
        go_wp2_with fail
        go_roundw
        case rel => exact ⟨i + 1, _, HLT.out, by go_num, HPM5.out, HRS5.out⟩
        case measure => have := HLT.out; simp [Go.RowKit.intOf]; omega
      · have hiI : ¬ (i : Int) < l.length := by omega
        have e1 : i = l.length := by omega
        rw [e1] at HPM HRS
        clear hpm hrs e1 hlt
        go_wp2_with fail
        go_loopw [44] (fun vi wr => ∃ (j : Nat) (P I : List Nat), j ≤ l.length ∧ vi = .int .i64 (j : Nat) ∧ RS w l gm cm tb mb pb ib l.length 0 D P I wr ∧ ∀ k, k < j → PIk A.k.toNat N l P I k) (fun vi _ => l.length - (Go.RowKit.intOf vi).toNat)
        case atStart => exact ⟨0, _, _, Nat.zero_le _, rfl, HRS.out, fun k hk => by omega⟩
        case round =>
          clear HRS hiI hi
          obtain ⟨j, P, I, hj, rfl, hrs, hpi⟩ := hrel
          have HRS : Hid (RS w l gm cm tb mb pb ib l.length 0 D P I _) := hrs
          have HPI : Hid (∀ k, k < j → PIk A.k.toNat N l P I k) := hpi
          clear hpi
          by_cases hlt : j < l.length
          · have hjI : (j : Int) < l.length := by omega
            have HLT : Hid (j < l.length) := hlt
            obtain ⟨g, o, e1, _, hc⟩ := (own_sr hrs.mem).nat hlt
            simp only [Option.some.injEq, Addr.mk.injEq, and_true] at e1
            obtain ⟨rfl, rfl⟩ := e1
            rw [Nat.zero_add] at hc
            have hx := HLM.out j hlt
            have HX : Hid (∃ x, l.getD j 0 = x ∧ x < M.length) := ⟨_, rfl, hx⟩
            obtain ⟨x, hx1, hx2⟩ := HX.out
            rw [hx1] at hc
            have HXE : Hid (l.getD j 0 = x) := hx1
            have HXL : Hid (x < M.length) := hx2
            have HCY : Hid _ := iCycle_any (HMW.out.below HRS.out.bel) x hx2
            clear hlt hrs hx hx1 hx2
            go_wp2_with fail
            refine Calls.mono HCY.out ?_
            rintro en w2 ⟨⟨t, r, rfl, htr⟩, hb⟩
            have HRS2 : Hid (RS w l gm cm tb mb pb ib l.length 0 D P I w2) := HRS.out.call hb
            have HTR : Hid (TR (rm A.k.toNat N x) 0 t r) := htr
            have hr1 := htr.pos
            have hr2 : r ≤ 512 := by
              have := htr.le (HMON.out.rm_lt HXL.out) HMON.out.pos
              have := HMON.out.most
              omega
            obtain ⟨q, hq⟩ : ∃ q : Nat, 2 * r - 1 = q := ⟨_, rfl⟩
            have HQ : Hid (2 * r - 1 = q) := hq
            have hw1 : IntKind.i64.wrap (2 * (r : Int)) = 2 * (r : Int) := by rw [IntKind.wrap_i64]; omega
            have hw2 : IntKind.i64.wrap (2 * (r : Int) - 1) = (q : Int) := by rw [IntKind.wrap_i64]; omega
            have hw3 : IntKind.u64.wrap (q : Int) = (q : Int) := by rw [IntKind.wrap_u64]; omega
            have HPW : Hid _ := mpower_ok (HMW.out.below HRS2.out.bel) x HXL.out q (by omega)
            clear htr hb hc HCY HRS
            go_wp2_with fail
            refine Calls.mono HPW.out ?_
            rintro en w3 ⟨rfl, hb⟩
            have HRS3 : Hid (RS w l gm cm tb mb pb ib l.length 0 D P I w3) := HRS2.out.call hb
            obtain ⟨X, hX⟩ : ∃ X, pwE A.k.toNat N 0 x q = X := ⟨_, rfl⟩
            have HXX : Hid (pwN A.k.toNat N x q = X) := by show _ = _; rw [← HMON.out.pwE_pw HXL.out]; exact hX
            have hXl : X < 1000000 := by
              have h1 : X < M.length := by rw [← HXX.out]; exact HMON.out.pw_lt HXL.out q
              have := HMON.out.most
              omega
            rw [hX]
            clear hb HPW HRS2 hw1 hw2 hw3 hq hX
            go_upto_region 14 with fail
            obtain ⟨y0, hy0⟩ : ∃ y0, y0 = w3.drew := ⟨_, rfl⟩
            have HR4 : Hid (RS w l gm cm tb mb pb ib l.length 0 D P I y0) := by show RS _ _ _ _ _ _ _ _ _ _ _ _ _ _; rw [hy0]; exact HRS3.out.call (Below.refl _ _).drew
            have hS0 : ∃ P3, RS w l gm cm tb mb pb ib l.length 0 D P3 I y0 := ⟨P, HR4.out⟩
            refine wp_region_L 14 (fun y => ∃ P3, RS w l gm cm tb mb pb ib l.length 0 D P3 I y) (by kernel_rfl) (by rw [← hy0]; exact hS0) (fun hH0 => ?_)
            rw [← hy0] at hH0 ⊢
            clear hS0 hy0
            refine wpAnyL_take (i := 0) (oi := { dst := some 66, op := Go.Op.fieldAddr 117 (Go.Operand.tmp 7) 2, type := 0, pos := "roll.go:31", after := #[], guard := none }) (v := ?_) rfl (by kernel_rfl) (by kernel_rfl) (by decide) (by kernel_rfl) (by kernel_rfl) (by kernel_rfl) (fun _ _ _ h => h) (Or.inl ⟨by rfl, ?_⟩) (by assumption) ?_
            rotate_left
            · intro w' hS; go_simp; (try with_reducible rfl)
            simp only [Act.put, List.setIfInBounds_toArray, List.set_cons_zero, List.set_cons_succ]
            refine wpAnyL_take (i := 1) (oi := { dst := some 67, op := Go.Op.load 22 (Go.Operand.tmp 66), type := 22, pos := "roll.go:31", after := #[{ on := 0, ground := Go.Ground.data }], guard := none }) (v := .slice (some ⟨pb, 0, none⟩) l.length l.length) rfl (by kernel_rfl) (by kernel_rfl) (by decide) (by kernel_rfl) (by kernel_rfl) (by kernel_rfl) (fun _ _ _ h => h) (Or.inl ⟨by rfl, ?_⟩) (by assumption) ?_
            · intro w' hS; obtain ⟨P3, hR⟩ := hS; have hz : w'.cell? ⟨tb, 2, none⟩ = some (.slice (some ⟨pb, 0, none⟩) l.length l.length) := cell_at (j := 2) hR.tt rfl; go_simp
            simp only [Act.put, List.setIfInBounds_toArray, List.set_cons_zero, List.set_cons_succ]
            refine wpAnyL_take (i := 2) (oi := { dst := some 68, op := Go.Op.move (Go.Operand.tmp 10), type := 3, pos := "roll.go:31", after := #[], guard := none }) (v := ?_) rfl (by kernel_rfl) (by kernel_rfl) (by decide) (by kernel_rfl) (by kernel_rfl) (by kernel_rfl) (fun _ _ _ h => h) (Or.inl ⟨by rfl, ?_⟩) (by assumption) ?_
            rotate_left
            · intro w' hS; go_simp; (try with_reducible rfl)
            simp only [Act.put, List.setIfInBounds_toArray, List.set_cons_zero, List.set_cons_succ]
            refine wpAnyL_take (i := 3) (oi := { dst := some 69, op := Go.Op.fieldAddr 117 (Go.Operand.tmp 7) 3, type := 0, pos := "roll.go:31", after := #[{ on := 12, ground := Go.Ground.gcOnly Go.Departure.lateStores }], guard := none }) (v := ?_) rfl (by kernel_rfl) (by kernel_rfl) (by decide) (by kernel_rfl) (by kernel_rfl) (by kernel_rfl) (fun _ _ _ h => h) (Or.inl ⟨by rfl, ?_⟩) (by assumption) ?_
            rotate_left
            · intro w' hS; go_simp; (try with_reducible rfl)
            simp only [Act.put, List.setIfInBounds_toArray, List.set_cons_zero, List.set_cons_succ]
            refine wpAnyL_take (i := 4) (oi := { dst := some 70, op := Go.Op.load 22 (Go.Operand.tmp 69), type := 22, pos := "roll.go:31", after := #[{ on := 3, ground := Go.Ground.data }, { on := 12, ground := Go.Ground.gcOnly Go.Departure.lateStores }], guard := none }) (v := .slice (some ⟨ib, 0, none⟩) l.length l.length) rfl (by kernel_rfl) (by kernel_rfl) (by decide) (by kernel_rfl) (by kernel_rfl) (by kernel_rfl) (fun _ _ _ h => h) (Or.inl ⟨by rfl, ?_⟩) (by assumption) ?_
            · intro w' hS; obtain ⟨P3, hR⟩ := hS; have hz : w'.cell? ⟨tb, 3, none⟩ = some (.slice (some ⟨ib, 0, none⟩) l.length l.length) := cell_at (j := 3) hR.tt rfl; go_simp
            simp only [Act.put, List.setIfInBounds_toArray, List.set_cons_zero, List.set_cons_succ]
            refine wpAnyL_take (i := 5) (oi := { dst := some 71, op := Go.Op.move (Go.Operand.tmp 10), type := 3, pos := "roll.go:31", after := #[{ on := 12, ground := Go.Ground.gcOnly Go.Departure.lateStores }], guard := none }) (v := ?_) rfl (by kernel_rfl) (by kernel_rfl) (by decide) (by kernel_rfl) (by kernel_rfl) (by kernel_rfl) (fun _ _ _ h => h) (Or.inl ⟨by rfl, ?_⟩) (by assumption) ?_
            rotate_left
            · intro w' hS; go_simp; (try with_reducible rfl)
            simp only [Act.put, List.setIfInBounds_toArray, List.set_cons_zero, List.set_cons_succ]
            refine wpAnyL_take (i := 6) (oi := { dst := some 72, op := Go.Op.move (Go.Operand.tmp 13), type := 3, pos := "roll.go:31", after := #[], guard := none }) (v := ?_) rfl (by kernel_rfl) (by kernel_rfl) (by decide) (by kernel_rfl) (by kernel_rfl) (by kernel_rfl) (fun _ _ _ h => h) (Or.inl ⟨by rfl, ?_⟩) (by assumption) ?_
            rotate_left
            · intro w' hS; go_simp; (try with_reducible rfl)
            simp only [Act.put, List.setIfInBounds_toArray, List.set_cons_zero, List.set_cons_succ]
            refine wpAnyL_take (i := 7) (oi := { dst := some 73, op := Go.Op.fieldAddr 117 (Go.Operand.tmp 7) 1, type := 0, pos := "roll.go:31", after := #[], guard := none }) (v := ?_) rfl (by kernel_rfl) (by kernel_rfl) (by decide) (by kernel_rfl) (by kernel_rfl) (by kernel_rfl) (fun _ _ _ h => h) (Or.inl ⟨by rfl, ?_⟩) (by assumption) ?_
            rotate_left
            · intro w' hS; go_simp; (try with_reducible rfl)
            simp only [Act.put, List.setIfInBounds_toArray, List.set_cons_zero, List.set_cons_succ]
            refine wpAnyL_take (i := 8) (oi := { dst := some 74, op := Go.Op.load 115 (Go.Operand.tmp 73), type := 115, pos := "roll.go:31", after := #[{ on := 7, ground := Go.Ground.data }], guard := none }) (v := .map (some mb)) rfl (by kernel_rfl) (by kernel_rfl) (by decide) (by kernel_rfl) (by kernel_rfl) (by kernel_rfl) (fun _ _ _ h => h) (Or.inl ⟨by rfl, ?_⟩) (by assumption) ?_
            · intro w' hS; obtain ⟨P3, hR⟩ := hS; have hz : w'.cell? ⟨tb, 1, none⟩ = some (.map (some mb)) := cell_at (j := 1) hR.tt rfl; go_simp
            simp only [Act.put, List.setIfInBounds_toArray, List.set_cons_zero, List.set_cons_succ]
            refine wpAnyL_take (i := 9) (oi := { dst := some 75, op := Go.Op.move (Go.Operand.tmp 15), type := 3, pos := "roll.go:31", after := #[], guard := none }) (v := ?_) rfl (by kernel_rfl) (by kernel_rfl) (by decide) (by kernel_rfl) (by kernel_rfl) (by kernel_rfl) (fun _ _ _ h => h) (Or.inl ⟨by rfl, ?_⟩) (by assumption) ?_
            rotate_left
            · intro w' hS; go_simp; (try with_reducible rfl)
            simp only [Act.put, List.setIfInBounds_toArray, List.set_cons_zero, List.set_cons_succ]
            refine wpAnyL_take (i := 10) (oi := { dst := some 76, op := Go.Op.lookup 115 (Go.Operand.tmp 74) (Go.Operand.tmp 75) false, type := 3, pos := "roll.go:31", after := #[{ on := 8, ground := Go.Ground.data }, { on := 9, ground := Go.Ground.data }], guard := none }) (v := .int .i64 (plN l X : Nat)) rfl (by kernel_rfl) (by kernel_rfl) (by decide) (by kernel_rfl) (by kernel_rfl) (by kernel_rfl) (fun _ _ _ h => h) (Or.inl ⟨by rfl, ?_⟩) (by assumption) ?_
            · intro w' hS; obtain ⟨P3, hR⟩ := hS; have hz := hR.look HPM.out HND.out X hXl; go_simp
            simp only [Act.put, List.setIfInBounds_toArray, List.set_cons_zero, List.set_cons_succ]
            refine wpAnyL_take (i := 11) (oi := { dst := some 77, op := Go.Op.indexAddr 22 (Go.Operand.tmp 67) (Go.Operand.tmp 68), type := 0, pos := "roll.go:31", after := #[{ on := 1, ground := Go.Ground.data }, { on := 2, ground := Go.Ground.data }, { on := 0, ground := Go.Ground.phase }, { on := 1, ground := Go.Ground.phase }, { on := 2, ground := Go.Ground.phase }, { on := 3, ground := Go.Ground.textOnly Go.Departure.lateStores }, { on := 4, ground := Go.Ground.textOnly Go.Departure.lateStores }, { on := 5, ground := Go.Ground.textOnly Go.Departure.lateStores }, { on := 6, ground := Go.Ground.phase }, { on := 7, ground := Go.Ground.textOnly Go.Departure.lateStores }, { on := 8, ground := Go.Ground.textOnly Go.Departure.lateStores }, { on := 9, ground := Go.Ground.textOnly Go.Departure.lateStores }, { on := 10, ground := Go.Ground.phase }], guard := none }) (v := ?_) rfl (by kernel_rfl) (by kernel_rfl) (by decide) (by kernel_rfl) (by kernel_rfl) (by kernel_rfl) (fun _ _ _ h => h) (Or.inl ⟨by rfl, ?_⟩) (by assumption) ?_
            rotate_left
            · intro w' hS; go_simp; (try with_reducible rfl)
            simp only [Act.put, List.setIfInBounds_toArray, List.set_cons_zero, List.set_cons_succ]
            refine wpAnyL_ready (rs := [12]) (by kernel_rfl) (by simp) ?_
            refine AllReadyL.cons rfl (fun KQ hK => ?_) AllReadyL.nil
            have hc := HR4.out.ps.cell (i := j) (by rw [HR4.out.pl]; exact HLT.out)
            have hf := HR4.out.ps.frz (o := j)
            go_simp
            have HR5 : Hid _ := HR4.out.setp HLT.out r
            refine hK.out _ _ ⟨_, HR5.out⟩ (fun hH1 => ?_)
            clear hc hf
            clear hK KQ
            refine wpAnyL_take (i := 13) (oi := { dst := some 78, op := Go.Op.indexAddr 22 (Go.Operand.tmp 70) (Go.Operand.tmp 71), type := 0, pos := "roll.go:31", after := #[{ on := 4, ground := Go.Ground.data }, { on := 5, ground := Go.Ground.data }, { on := 0, ground := Go.Ground.phase }, { on := 1, ground := Go.Ground.phase }, { on := 2, ground := Go.Ground.phase }, { on := 3, ground := Go.Ground.phase }, { on := 4, ground := Go.Ground.phase }, { on := 5, ground := Go.Ground.phase }, { on := 6, ground := Go.Ground.phase }, { on := 7, ground := Go.Ground.phase }, { on := 8, ground := Go.Ground.phase }, { on := 9, ground := Go.Ground.phase }, { on := 10, ground := Go.Ground.phase }, { on := 11, ground := Go.Ground.phase }, { on := 12, ground := Go.Ground.phase }], guard := none }) (v := ?_) rfl (by kernel_rfl) (by kernel_rfl) (by decide) (by kernel_rfl) (by kernel_rfl) (by kernel_rfl) (fun _ _ _ h => h) (Or.inl ⟨by rfl, ?_⟩) (by assumption) ?_
            rotate_left
            · intro w' hS; go_simp; (try with_reducible rfl)
            simp only [Act.put, List.setIfInBounds_toArray, List.set_cons_zero, List.set_cons_succ]
            refine wpAnyL_ready (rs := [14]) (by kernel_rfl) (by simp) ?_
            refine AllReadyL.last rfl (fun KQ hK => ?_)
            have hc := HR5.out.is.cell (i := j) (by rw [HR5.out.il]; exact HLT.out)
            have hf := HR5.out.is.frz (o := j)
            go_simp
            have HR6 : Hid _ := HR5.out.seti HLT.out (plN l X)
            refine hK.out _ _ ?_
            clear hc hf hH0 hH1
            clear hK KQ
            refine wpAnyL_done (by kernel_rfl) ?_ _
            have HN6 : Hid (∀ k, k < j + 1 → PIk A.k.toNat N l (P.set j r) (I.set j (plN l X)) k) := by
              intro k hk
              have hpl := HR4.out.pl
              have hil := HR4.out.il
              have hjl := HLT.out
              by_cases e : k = j
              · subst e
                have e1 : (P.set k r).getD k 0 = r := by rw [List.getD_eq_getElem?_getD, List.getElem?_set_self (by omega)]; rfl
                have e2 : (I.set k (plN l X)).getD k 0 = plN l X := by rw [List.getD_eq_getElem?_getD, List.getElem?_set_self (by omega)]; rfl
                refine ⟨⟨t, ?_⟩, ?_⟩
                · rw [e1, HXE.out]; exact HTR.out
                · rw [e1, e2, HXE.out, HQ.out, HXX.out]
              · have e1 : (P.set j r).getD k 0 = P.getD k 0 := by rw [List.getD_eq_getElem?_getD, List.getElem?_set_ne (by omega), ← List.getD_eq_getElem?_getD]
                have e2 : (I.set j (plN l X)).getD k 0 = I.getD k 0 := by rw [List.getD_eq_getElem?_getD, List.getElem?_set_ne (by omega), ← List.getD_eq_getElem?_getD]
                have := HPI.out k (by omega)
                unfold PIk at this ⊢
                rw [e1, e2]
                exact this
            go_wp2_with fail
            go_roundw
            case rel => exact ⟨j + 1, _, _, HLT.out, by go_num, HR6.out, HN6.out⟩
            case measure => have := HLT.out; simp [Go.RowKit.intOf]; omega
          · have hjI : ¬ (j : Int) < l.length := by omega
            have e1 : j = l.length := by omega
            rw [e1] at HPI
            have hlk := hrs.look HPM.out HND.out e (by have := HE.out.1; have := HMON.out.most; omega)
            obtain ⟨⟨c0, c1, c2, c3, c4⟩, f4⟩ := roC_facts hrs.tt
            obtain ⟨⟨z0, z1, z2, z3, z4⟩, zf⟩ := roZ_facts hrs.rcx
            have hne1 : w.heap.size ≠ tb := by have := hrs.ne; omega
            have hne2 : tb ≠ w.heap.size := by have := hrs.ne; omega
            obtain ⟨one, hone⟩ : ∃ one, plN l e = one := ⟨_, rfl⟩
            have HONE : Hid (plN l e = one) := hone
            rw [hone] at hlk
            have HDN : Hid _ := hrs.done (.int .i64 (one : Nat)) (.slice (some ⟨gm, 0, none⟩) l.length cm) (.map (some mb)) (.slice (some ⟨pb, 0, none⟩) l.length l.length) (.slice (some ⟨ib, 0, none⟩) l.length l.length) (.int .i64 (one : Nat))
            clear hrs hlt e1 hone
            go_wp2_with fail
            have hdn := HDN.out
            refine bodyPost_ret (results_roll rfl rfl hdn.1 rfl) rfl ?_
            obtain ⟨_, d2, d3, d4, d5, d6⟩ := hdn
            have hrs := HRS.out
            unfold RoL
            refine ⟨gm, cm, mb, pb, ib, D, P, I, ?_, HPM.out, d2, d3, d4, d5, hrs.pl, hrs.il, HPI.out, by have := hrs.ne; omega, by have := hrs.ne; omega, by have := hrs.ne; omega, by have := hrs.ne; omega, d6⟩
            rw [HONE.out]
            rfl
end Go.Proofs.Ytlohfeogaalfcab

namespace Go.Proofs.Ytlohfeogaalfcab
open Go Go.RowKit Go.Lib Go.Maps
set_option linter.unusedVariables false
attribute [-instance] List.instBEq instBEqProd

/-- Numbers of sixteen bits, as cells. -/
def hC (l : List Nat) : List Value := l.map fun (n : Nat) => Value.int .u16 (n : Int)
theorem hC_len (l : List Nat) : (hC l).length = l.length := by simp [hC]
theorem hC_append (a b : List Nat) : hC (a ++ b) = hC a ++ hC b := by simp [hC]

/-- One row of a group's table; the rows ahead of i. -/
def rwT (K : Nat) (N : List Nat) (l : List Nat) (x : Nat) : List Nat := l.map fun y => plN l (pr K N x y)
def tbT (K : Nat) (N : List Nat) (l : List Nat) (i : Nat) : List Nat := (l.take i).flatMap (rwT K N l)

theorem tbT_succ (K : Nat) (N : List Nat) (l : List Nat) (i : Nat) (hi : i < l.length) : tbT K N l (i + 1) = tbT K N l i ++ rwT K N l (l.getD i 0) := by
  unfold tbT
  rw [take_more hi, List.flatMap_append]
  simp

theorem rwT_len (K : Nat) (N : List Nat) (l : List Nat) (x : Nat) : (rwT K N l x).length = l.length := by simp [rwT]

theorem tbT_len (K : Nat) (N : List Nat) (l : List Nat) : ∀ i, i ≤ l.length → (tbT K N l i).length = i * l.length
  | 0, _ => by simp [tbT]
  | i + 1, h => by rw [tbT_succ K N l i (by omega), List.length_append, tbT_len K N l i (by omega), rwT_len, Nat.add_mul, Nat.one_mul]

theorem rwT_take (K : Nat) (N : List Nat) (l : List Nat) (x j : Nat) (hj : j < l.length) : (rwT K N l x).take (j + 1) = (rwT K N l x).take j ++ [plN l (pr K N x (l.getD j 0))] := by
  have : (rwT K N l x).getD j 0 = plN l (pr K N x (l.getD j 0)) := by
    unfold rwT
    rw [List.getD_eq_getElem?_getD, List.getElem?_map, List.getD_eq_getElem?_getD, List.getElem?_eq_getElem hj]
    rfl
  rw [take_more (by rw [rwT_len]; exact hj), this]

theorem plN_lt {l : List Nat} (hl : 0 < l.length) (x : Nat) : plN l x < l.length := by
  unfold plN
  by_cases h : x ∈ l
  · rw [if_pos h]
    exact List.findIdx_lt_length.2 ⟨x, h, by simp⟩
  · rw [if_neg h]; exact hl

theorem map_look {y : World} {mb : Nat} {l : List Nat} {D : DataW Unit} (h : y.ownsMap Try.prog 3 (plainElem Try.prog 3) mb l.length D) (hp : PM l l.length D) (hd : ∀ i j, i < l.length → j < l.length → l.getD i 0 = l.getD j 0 → i = j) (x : Nat) (hx : x < 1000000) :
    (Instr.lookup 115 (.map (some mb)) (.int .i64 (x : Nat)) false).run Try.prog y = .ok (.int .i64 (plN l x : Nat)) y := by
  obtain ⟨c, h1, h2, _⟩ := h.lookup_int (key := .int .i64 (x : Nat)) (kl := .int .i64 (x : Nat)) keyI Try.und_mapI Try.und_int (Try.zero_int _) (keyOf_int_mk Try.und_int (wfI (by omega)))
  rw [hp.all hd x] at h2
  simp only [DataW.lit.injEq, Lit.int.injEq, true_and] at h2
  rw [h1, h2]

theorem map_below {w y : World} {mb n : Nat} {D : DataW Unit} (h : w.ownsMap Try.prog 3 (plainElem Try.prog 3) mb n D) (hb : Below w.heap.size w y) : y.ownsMap Try.prog 3 (plainElem Try.prog 3) mb n D := by
  obtain ⟨es, clock, q, F, hs, hD⟩ := h
  exact ⟨es, clock, (hb.block _ (Array.getElem?_eq_some_iff.1 q).1).trans q, F, hs, hD⟩

/-- A row of sixteen bits of one's own. -/
def OwnH (w : World) (base : Nat) (v : Value) (L : List Nat) : Prop := w.ownsRow base 111 1 v L.length (hC L)

set_option maxHeartbeats 4000000 in
set_option maxRecDepth 100000 in
theorem products_any {w : World} {ob : Nat} {A : Aut} {M : List (List Nat)} {N : List Nat} (h : MO w ob A M N) (gb gm cm mb : Nat) (l : List Nat) (D : DataW Unit)
    (c1 : w.cell? ⟨gb, 1, none⟩ = some (.slice (some ⟨gm, 0, none⟩) l.length cm)) (c2 : w.cell? ⟨gb, 2, none⟩ = some (.map (some mb)))
    (hr : SR w (some ⟨gm, 0, none⟩) (nC l)) (hm : w.ownsMap Try.prog 3 (plainElem Try.prog 3) mb l.length D) (hp : PM l l.length D)
    (hd : ∀ i j, i < l.length → j < l.length → l.getD i 0 = l.getD j 0 → i = j) (h0 : 0 < l.length) (h5 : l.length ≤ 512) (hl : ∀ j, j < l.length → l.getD j 0 < M.length) :
    Calls Try.prog 56 #[.pointer (some ⟨gb, 1, none⟩), .pointer (some ⟨ob, 0, none⟩)] w fun e w' => ∃ v, e = .returned v ∧ OwnH w' w.heap.size v (tbT A.k.toNat N l l.length) ∧ Below w.heap.size w w' := by
  have hgl : gb < w.heap.size := by
    rcases Nat.lt_or_ge gb w.heap.size with q | q
    · exact q
    · simp [World.cell?, Array.getElem?_eq_none q] at c1
  have HM : Hid (MO w ob A M N) := h
  have HC1 : Hid (∀ y, Below w.heap.size w y → y.cell? ⟨gb, 1, none⟩ = some (.slice (some ⟨gm, 0, none⟩) l.length cm) ∧ y.cell? ⟨gb, 2, none⟩ = some (.map (some mb))) := fun y hy => ⟨by rw [below_cellJ hy hgl]; exact c1, by rw [below_cellJ hy hgl]; exact c2⟩
  have HR : Hid (∀ y j, Below w.heap.size w y → j < l.length → y.cell? ⟨gm, j, none⟩ = some (.int .i64 (l.getD j 0 : Nat))) := fun y j hy hj => by
    obtain ⟨g, o, e1, _, hc⟩ := (hr.stay hy).nat hj
    simp only [Option.some.injEq, Addr.mk.injEq, and_true] at e1
    obtain ⟨rfl, rfl⟩ := e1
    rwa [Nat.zero_add] at hc
  have HLK : Hid (∀ y x, Below w.heap.size w y → x < 1000000 → (Instr.lookup 115 (.map (some mb)) (.int .i64 (x : Nat)) false).run Try.prog y = .ok (.int .i64 (plN l x : Nat)) y) := fun y x hy hx => map_look (map_below hm hy) hp hd x hx
  have HL : Hid (∀ j, j < l.length → l.getD j 0 < M.length) := hl
  have HMO : Hid (M.length ≤ 512) := h.mon.most
  obtain ⟨i0, hi0, hz0, hz1, hz2⟩ := info_parts Try.info_u16
  obtain ⟨n2, hn2⟩ : ∃ n2, l.length * l.length = n2 := ⟨_, rfl⟩
  have hn2b : n2 ≤ 262144 := by rw [← hn2]; exact Nat.mul_le_mul h5 h5
  have hmul : IntKind.i64.wrap ((l.length : Int) * (l.length : Int)) = (n2 : Int) := by
    have e : ((l.length * l.length : Nat) : Int) = (l.length : Int) * (l.length : Int) := by simp
    rw [← e, hn2, IntKind.wrap_i64]
    omega
  have hmk := fun w0 => run_make (P := Try.prog) w0 46 111 i0 (.int .u16 0) Try.underlying46 hi0 hz0 .i64 .i64 (0 : Int) (n2 : Int) (by omega) (by omega) (by rw [hz2]; omega) (by omega)
  rw [hz1] at hmk
  simp only [Nat.mul_one] at hmk
  have d1 := c1
  obtain ⟨w0, hw0⟩ : ∃ w0, w0 = w.alloc (.cells (madeCells #[Value.int .u16 0] n2) 111) := ⟨_, rfl⟩
  have HB0 : Hid (Below w.heap.size w w0) := by show Below _ _ _; rw [hw0]; exact below_new _ _
  have d2 : (w.alloc (.cells (madeCells #[Value.int .u16 0] n2) 111)).cell? ⟨gb, 1, none⟩ = some (.slice (some ⟨gm, 0, none⟩) l.length cm) := by rw [← hw0]; exact (HC1.out w0 HB0.out).1
  have HO0 : Hid (OwnH w0 w.heap.size (.slice (some ⟨w.heap.size, 0, none⟩) 0 n2) []) := by
    refine ⟨rfl, .inr ⟨w.heap.size, n2, madeCells #[Value.int .u16 0] n2, rfl, Nat.le_refl _, by rw [hw0]; exact heap_last _ _, Nat.zero_le _, by unfold maxLen; omega, by simp [madeCells], by simp [hC]⟩⟩
  have HW0 : Hid (w0 = w.alloc (.cells (madeCells #[Value.int .u16 0] n2) 111)) := hw0
  have HN2 : Hid (l.length * l.length = n2) := hn2
  clear h hr hm hp hd hl hgl c1 c2 hw0 hn2
  go_enter Try.func56, Try.ntmps56
  go_wp2_with fail
  rw [← HW0.out]
  clear d1 d2 hmk hmul
  go_loopw [6, 27] (fun vo vi wr => ∃ (i : Nat) (oa : Option Addr) (oc : Nat), i ≤ l.length ∧ vi = .int .i64 (i : Nat) ∧ vo = .slice oa (tbT A.k.toNat N l i).length oc ∧ OwnH wr w.heap.size (.slice oa (tbT A.k.toNat N l i).length oc) (tbT A.k.toNat N l i) ∧ Below w.heap.size w wr) (fun _ vi _ => l.length - (Go.RowKit.intOf vi).toNat)
  case atStart => exact ⟨0, some ⟨w.heap.size, 0, none⟩, n2, Nat.zero_le _, rfl, rfl, HO0.out, HB0.out⟩
  case round =>
    clear HO0 HB0
    obtain ⟨i, oa, oc, hi, rfl, rfl, ho, hb⟩ := hrel
    have HO : Hid (OwnH wr w.heap.size (.slice oa (tbT A.k.toNat N l i).length oc) (tbT A.k.toNat N l i)) := ho
    have HB : Hid (Below w.heap.size w wr) := hb
    by_cases hlt : i < l.length
    · have hiI : (i : Int) < l.length := by omega
      have HLT : Hid (i < l.length) := hlt
      have hc := HR.out wr i hb hlt
      have d3 := (HC1.out wr hb).1
      have HX : Hid (∃ x, l.getD i 0 = x ∧ x < M.length) := ⟨_, rfl, HL.out i hlt⟩
      obtain ⟨x, hx1, hx2⟩ := HX.out
      rw [hx1] at hc
      have HXE : Hid (l.getD i 0 = x) := hx1
      have HXL : Hid (x < M.length) := hx2
      have HTL : Hid ((tbT A.k.toNat N l i).length + l.length ≤ n2) := by
        show _ ≤ _
        rw [tbT_len _ _ _ _ (by omega), ← HN2.out]
        have : (i + 1) * l.length ≤ l.length * l.length := Nat.mul_le_mul (by omega) (Nat.le_refl _)
        rw [Nat.add_mul, Nat.one_mul] at this
        exact this
      have HO1 : Hid (OwnH wr w.heap.size (.slice oa (tbT A.k.toNat N l i ++ (rwT A.k.toNat N l x).take 0).length oc) (tbT A.k.toNat N l i ++ (rwT A.k.toNat N l x).take 0)) := by
        show OwnH _ _ _ _
        rw [List.take_zero, List.append_nil]
        exact HO.out
      have HE0 : Hid ((tbT A.k.toNat N l i).length = (tbT A.k.toNat N l i ++ (rwT A.k.toNat N l x).take 0).length) := by show _ = _; rw [List.take_zero, List.append_nil]
      clear ho hb hlt hx1 hx2
      go_wp2_with fail
      go_loopw [6, 36] (fun vo vj wz => ∃ (j : Nat) (oa : Option Addr) (oc : Nat), j ≤ l.length ∧ vj = .int .i64 (j : Nat) ∧ vo = .slice oa (tbT A.k.toNat N l i ++ (rwT A.k.toNat N l x).take j).length oc ∧ OwnH wz w.heap.size (.slice oa (tbT A.k.toNat N l i ++ (rwT A.k.toNat N l x).take j).length oc) (tbT A.k.toNat N l i ++ (rwT A.k.toNat N l x).take j) ∧ Below w.heap.size w wz) (fun _ vj _ => l.length - (Go.RowKit.intOf vj).toNat)
      case atStart => exact ⟨0, oa, oc, Nat.zero_le _, rfl, by rw [← HE0.out], HO1.out, HB.out⟩
      case round =>
        clear HO HO1 HE0 HB hc d3
        obtain ⟨j, oa, oc, hj, rfl, rfl, ho, hb⟩ := hrel
        obtain ⟨T, hT⟩ : ∃ T, tbT A.k.toNat N l i ++ (rwT A.k.toNat N l x).take j = T := ⟨_, rfl⟩
        have HT : Hid (tbT A.k.toNat N l i ++ (rwT A.k.toNat N l x).take j = T) := hT
        rw [hT] at ho ⊢
        have HO : Hid (OwnH _ w.heap.size (.slice oa T.length oc) T) := ho
        have HB : Hid (Below w.heap.size w _) := hb
        have hTl : T.length + (l.length - j) ≤ n2 := by
          rw [← hT, List.length_append, List.length_take, rwT_len]
          have := HTL.out
          omega
        by_cases hlt : j < l.length
        · have hjI : (j : Int) < l.length := by omega
          have HLTj : Hid (j < l.length) := hlt
          have hc := HR.out _ j hb hlt
          have HY : Hid (∃ y, l.getD j 0 = y ∧ y < M.length) := ⟨_, rfl, HL.out j hlt⟩
          obtain ⟨y, hy1, hy2⟩ := HY.out
          rw [hy1] at hc
          have HYE : Hid (l.getD j 0 = y) := hy1
          have HP : Hid _ := mproduct_ok (HM.out.below hb) x y HXL.out hy2
          have HPL : Hid (pr A.k.toNat N x y < M.length) := HM.out.mon.pr_lt HXL.out hy2
          clear ho hb hlt hy1 hy2 hT
          go_wp2_with fail
          refine Calls.mono HP.out ?_
          rintro en w2 ⟨rfl, hb2⟩
          have HB2 : Hid (Below w.heap.size w w2) := go_on HB.out hb2
          have HO2 : Hid (OwnH w2 w.heap.size (.slice oa T.length oc) T) := own_below HO.out hb2
          have hs2 := HB2.out.size
          obtain ⟨X, hX⟩ : ∃ X, pr A.k.toNat N x y = X := ⟨_, rfl⟩
          have HXX : Hid (pr A.k.toNat N x y = X) := hX
          have hXb : X < 1000000 := by rw [← hX]; have := HPL.out; have := HMO.out; omega
          rw [hX]
          have hlk := HLK.out w2 X HB2.out hXb
          have d4 := (HC1.out w2 HB2.out).2
          obtain ⟨Z, hZ⟩ : ∃ Z, plN l X = Z := ⟨_, rfl⟩
          have HZ : Hid (plN l X = Z) := hZ
          have hZb : Z < 512 := by rw [← hZ]; have := plN_lt h0 X; omega
          rw [hZ] at hlk
          have hw16 : IntKind.u16.wrap (Z : Int) = (Z : Int) := by rw [IntKind.wrap_u16]; omega
          clear hb2 hX hZ hc HP
          go_wp2_with (first
            | (at_builtin; refine wpList_append_own_at _ rfl _ _ 46 rfl w.heap.size 111 i0 (.int .u16 0) 1 2 Try.underlying46 hi0 hz0 hz1 hz2 rfl (by decide) _ _ _ rfl (World.ownsRow.alloc HO2.out _) ⟨w2.heap.size, 0, none⟩ 1 1 [.int .u16 (Z : Int)] rfl rfl (cell_one_new _ _ _) (by intro u hu; simp at hu; subst hu; rfl) (by unfold maxLen; omega) (by omega) (by simp; omega) ?_; intro v' w4 hown' hgrow _ hloc))
          have HB4 : Hid (Below w.heap.size w w4) := (go_on HB2.out (below_new _ _)).grown hgrow (by simp; omega) (fun k hk => (own_blk HO2.out hk).1)
          obtain ⟨oa4, oc4, hsh⟩ := own_shape hown'
          have HTN : Hid (tbT A.k.toNat N l i ++ (rwT A.k.toNat N l x).take (j + 1) = T ++ [Z]) := by
            show _ = _
            rw [rwT_take _ _ _ _ _ HLTj.out, ← List.append_assoc, HT.out, HYE.out, HXX.out, HZ.out]
          have HO4 : Hid (OwnH w4 w.heap.size v' (T ++ [Z])) := by
            show OwnH _ _ _ _
            unfold OwnH
            rw [hC_append, List.length_append]
            exact hown'
          have HSH : Hid (v' = .slice oa4 (T ++ [Z]).length oc4) := by show _ = _; rw [List.length_append]; exact hsh
          clear hown' hgrow hloc hsh hlk d4
          go_wp2_with fail
          go_roundw
          case rel => exact ⟨j + 1, oa4, oc4, HLTj.out, by go_num, by rw [HTN.out]; exact HSH.out, by rw [HTN.out]; have q := HO4.out; rw [HSH.out] at q; exact q, HB4.out⟩
          case measure => have := HLTj.out; simp [Go.RowKit.intOf]; omega
        · have hjI : ¬ (j : Int) < l.length := by omega
          have HTE : Hid (tbT A.k.toNat N l (i + 1) = T) := by
            show _ = _
            rw [tbT_succ _ _ _ _ HLT.out, HXE.out, ← HT.out, List.take_of_length_le (by rw [rwT_len]; omega)]
          clear ho hb hlt hT
          go_wp2_with fail
          go_roundw
          case rel => exact ⟨i + 1, oa, oc, HLT.out, by go_num, by rw [HTE.out], by rw [HTE.out]; exact HO.out, HB.out⟩
          case measure => have := HLT.out; simp [Go.RowKit.intOf]; omega
    · have hiI : ¬ (i : Int) < l.length := by omega
      have e : i = l.length := by omega
      have HE : Hid (i = l.length) := e
      clear e ho hb hlt
      go_wp2_with fail
      go_ret
      exact ⟨_, rfl, by rw [← HE.out]; exact HO.out, HB.out⟩
end Go.Proofs.Ytlohfeogaalfcab
