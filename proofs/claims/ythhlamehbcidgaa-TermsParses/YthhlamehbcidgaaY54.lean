/- The document's Parse. -/
import Derived.Test.YthhlamehbcidgaaY53
import Derived.Test.YthhlamehbcidgaaY46
namespace Go.Proofs.Ythhlamehbcidgaa
open Go Go.RowKit Go.Lib
set_option linter.unusedVariables false
set_option linter.unusedSimpArgs false

theorem results_cell_tmp2 {fn : Func} {p u q : Tmp} {ty : TypeId} (h : fn.results = #[.cell p ty, .tmp u, .tmp q]) (tmps : Array Value) (P : Program) (w : World) :
    (results fn tmps).run P w =
      ((asAddr (tmps.getD p undef)).run P w).andThen fun a w₁ => ((loadVar ty a).run P w₁).andThen fun v w₂ => .ok (.tuple #[v, tmps.getD u undef, tmps.getD q undef]) w₂ := by
  simp only [results, h]
  simp [Sem.run_bind, Result.andThen]
theorem results_id2 {fn : Func} {p u q : Tmp} (h : fn.results = #[.cell p 24, .tmp u, .tmp q]) {tmps : Array Value} {b : Nat} {arr : Array Value} {w : World} (hp : tmps.getD p undef = .pointer (some ⟨b, 0, none⟩)) (hc : w.heap[b]? = some (.cells arr 24 (0, 0))) (hs : arr.size = 3) :
    (results fn tmps).run Try.prog w = .ok (.tuple #[.agg arr, tmps.getD u undef, tmps.getD q undef]) w := by
  have := run_loadVar_row w b 24 24 arr (0, 0) _ hc Try.underlying24 rfl (by rw [Try.info_id, hs])
  rw [results_cell_tmp2 h]
  simp [hp, asAddr, this, Result.andThen]
theorem pr_none {s : ByteArray} {k : Nat} (hs : s.size ≤ 1000) (h : idP s = none) (he : idE s = some k) : prS s = ([], [], false, k, 41) := by
  unfold prS
  rw [if_neg (by omega), h, he]
theorem id_one {s : ByteArray} (h : pwsP s (s.size + 1) 0 [] = none) : idP s = none ∧ idE s = pwsE s (s.size + 1) 0 [] := by
  constructor
  · unfold idP; rw [h]
  · unfold idE; rw [h]
def idM (s : ByteArray) (L : Sg) (x : Bool) (p : Nat) : Prop :=
  (idP s = match pwsP s (s.size + 1) p [] with
    | none => none
    | some (k, R) => if k = s.size then some (L, R, x) else none) ∧
  (idE s = match pwsP s (s.size + 1) p [] with
    | none => pwsE s (s.size + 1) p []
    | some (k, _) => if k = s.size then none else some k)
/-- What the byte behind the first side says. -/
theorem id_two {s : ByteArray} {j : Nat} {L : Sg} (h : pwsP s (s.size + 1) 0 [] = some (j, L)) (hj : j ≤ s.size) :
    (nxB s j = 61 → idM s L false (j + 1)) ∧ (nxB s j = 60 → isB s 61 (j + 1) = true → idM s L true (j + 1 + 1)) ∧ (nxB s j = 60 → ¬ isB s 61 (j + 1) = true → idP s = none ∧ idE s = some (j + 1)) ∧ (nxB s j ≠ 61 → nxB s j ≠ 60 → idP s = none ∧ idE s = some j) := by
  have hk := pws_skip h
  have h60 : seesB s ⟨#[60]⟩ j = (nxB s j == 60) := by
    have := nx_isB (c := 60) hj (by decide)
    rw [hk] at this
    rw [seesB_isB]
    exact this
  have h61 : isB s 61 j = (nxB s j == 61) := by
    have := nx_isB (c := 61) hj (by decide)
    rw [hk] at this
    exact this
  refine ⟨fun e => ?_, fun e e2 => ?_, fun e e2 => ?_, fun e e2 => ?_⟩
  · rw [e] at h60 h61
    have a1 : ¬ seesB s ⟨#[60]⟩ j = true := by rw [h60]; decide
    have a3 : seesB s ⟨#[60]⟩ j = false := by simpa using a1
    have a2 : isB s 61 j = true := by rw [h61]; rfl
    constructor
    · unfold idP; rw [h]; dsimp only; rw [if_neg a1, if_pos a2, a3]; cases pwsP s (s.size + 1) (j + 1) [] <;> rfl
    · unfold idE; rw [h]; dsimp only; rw [if_neg a1, if_pos a2]; cases pwsP s (s.size + 1) (j + 1) [] <;> rfl
  · rw [e] at h60
    have a1 : seesB s ⟨#[60]⟩ j = true := by rw [h60]; rfl
    constructor
    · unfold idP; rw [h]; dsimp only; rw [if_pos a1, if_pos e2, a1]; cases pwsP s (s.size + 1) (j + 1 + 1) [] <;> rfl
    · unfold idE; rw [h]; dsimp only; rw [if_pos a1, if_pos e2]; cases pwsP s (s.size + 1) (j + 1 + 1) [] <;> rfl
  · rw [e] at h60
    have a1 : seesB s ⟨#[60]⟩ j = true := by rw [h60]; rfl
    constructor
    · unfold idP; rw [h]; dsimp only; rw [if_pos a1, if_neg e2]
    · unfold idE; rw [h]; dsimp only; rw [if_pos a1, if_neg e2]
  · have a1 : ¬ seesB s ⟨#[60]⟩ j = true := by rw [h60, beq_eq_false_iff_ne.2 e2]; simp
    have a2 : ¬ isB s 61 j = true := by rw [h61, beq_eq_false_iff_ne.2 e]; simp
    constructor
    · unfold idP; rw [h]; dsimp only; rw [if_neg a1, if_neg a2]
    · unfold idE; rw [h]; dsimp only; rw [if_neg a1, if_neg a2]
/-- Parse's memory: the answer's box, the reader, the identity's box, the sides. -/
structure PS (w y : World) (s : ByteArray) (ib p : Nat) (bad : Bool) (vl vr : Value) (less : Bool) (L R : Sg) : Prop where
  d : DD y (w.heap.size + 1) s p bad
  j : y.heap[w.heap.size]? = some (.cells #[.slice none 0 0, .slice none 0 0, .bool false] 24 (0, 0))
  i : y.heap[ib]? = some (.cells #[vl, vr, .bool less] 24 (0, 0))
  ol : y.ownsRow (w.heap.size + 2) 81 2 vl L.length (sgC L)
  orr : y.ownsRow (w.heap.size + 2) 81 2 vr R.length (sgC R)
  lo : w.heap.size + 2 ≤ ib
  b : Below w.heap.size w y
theorem PS.base {w y : World} {s : ByteArray} {ib p : Nat} {bad : Bool} {vl vr : Value} {less : Bool} {L R : Sg} (h : PS w y s ib p bad vl vr less L R) : w.heap.size + 2 ≤ y.heap.size := by
  have h1 := (Array.getElem?_eq_some_iff.1 h.i).1
  have h2 := h.lo
  omega
theorem PS.step {w y y' : World} {s : ByteArray} {ib p p' : Nat} {bad bad' : Bool} {vl vr : Value} {less : Bool} {L R : Sg} (h : PS w y s ib p bad vl vr less L R) (hd : DD y' (w.heap.size + 1) s p' bad') (ho : OR (w.heap.size + 1) y y') : PS w y' s ib p' bad' vl vr less L R := by
  have hlo := h.lo
  exact ⟨hd, (ho.block _ (Array.getElem?_eq_some_iff.1 h.j).1 (by show ¬ w.heap.size = w.heap.size + 1; omega)).trans h.j, (ho.block _ (Array.getElem?_eq_some_iff.1 h.i).1 (by show ¬ ib = w.heap.size + 1; omega)).trans h.i, own_only h.ol ho (fun b hb e => by have := (own_blk h.ol hb).1; omega), own_only h.orr ho (fun b hb e => by have := (own_blk h.orr hb).1; omega), hlo, ho.below h.b (Nat.le_refl _) (fun j e => by rw [e]; omega)⟩
theorem PS.far {w y : World} {s : ByteArray} {ib p : Nat} {bad : Bool} {vl vr : Value} {less : Bool} {L R : Sg} (h : PS w y s ib p bad vl vr less L R) {v : Value} {n b : Nat} {cur : Array Value} (hc : y.heap[b]? = some (.cells cur 81 (0, 0))) : b ≠ ib := fun e => by
  rw [e, h.i] at hc
  injection hc with hc
  injection hc with _ hc _
  exact absurd hc (by decide)
theorem PS.right {w y : World} {s : ByteArray} {ib p : Nat} {bad : Bool} {vl vr u : Value} {less : Bool} {L R : Sg} (h : PS w y s ib p bad vl vr less L []) (hr : y.ownsRow (w.heap.size + 2) 81 2 u R.length (sgC R)) : PS w (y.setCell ⟨ib, 1, none⟩ u) s ib p bad vl u less L R := by
  have hlo := h.lo
  exact ⟨⟨(heap_set_other (by omega)).trans h.d.box, h.d.le⟩, (heap_set_other (by omega)).trans h.j, heap_set h.i, own_keep h.ol (fun b cur hb hc => heap_set_other (h.far (v := vl) (n := 0) hc)), own_keep hr (fun b cur hb hc => heap_set_other (h.far (v := vl) (n := 0) hc)), hlo, h.b.setCell (p := ⟨ib, 1, none⟩) (by show w.heap.size ≤ ib; omega) _⟩
theorem PS.order {w y : World} {s : ByteArray} {ib p : Nat} {bad : Bool} {vl vr : Value} {less : Bool} {L R : Sg} (h : PS w y s ib p bad vl vr less L R) : PS w (y.setCell ⟨ib, 2, none⟩ (.bool true)) s ib p bad vl vr true L R := by
  have hlo := h.lo
  exact ⟨⟨(heap_set_other (by omega)).trans h.d.box, h.d.le⟩, (heap_set_other (by omega)).trans h.j, heap_set h.i, own_keep h.ol (fun b cur hb hc => heap_set_other (h.far (v := vl) (n := 0) hc)), own_keep h.orr (fun b cur hb hc => heap_set_other (h.far (v := vl) (n := 0) hc)), hlo, h.b.setCell (p := ⟨ib, 2, none⟩) (by show w.heap.size ≤ ib; omega) _⟩

set_option maxHeartbeats 32000000 in
set_option maxRecDepth 100000 in
theorem rparse_pr (s : ByteArray) (w : World) : Calls Try.prog 9 #[.string s] w (PrQ s w) := by
  by_cases hs : s.size ≤ 1000
  rotate_left
  · have hsI : (1000 : Int) < s.size := by omega
    have hsd : decide ((1000 : Int) < s.size) = true := decide_eq_true hsI
    have HPR : Hid (prS s = ([], [], false, 0, 40)) := by show _ = _; unfold prS; rw [if_pos (by omega)]
    obtain ⟨w1, hw1⟩ : ∃ w1, w1 = w.alloc (.cells #[.slice none 0 0, .slice none 0 0, .bool false] 24) := ⟨_, rfl⟩
    have HW1 : Hid (w1 = w.alloc (.cells #[.slice none 0 0, .slice none 0 0, .bool false] 24)) := hw1
    have HJ1 : Hid (w1.heap[w.heap.size]? = some (.cells #[.slice none 0 0, .slice none 0 0, .bool false] 24 (0, 0))) := by show _ = _; rw [hw1]; exact heap_last _ _
    have HB1 : Hid (Below w.heap.size w w1) := by show Below _ _ _; rw [hw1]; exact below_new _ _
    have j0 := cell_at (j := 0) HJ1.out rfl
    have j1 := cell_at (j := 1) HJ1.out rfl
    have j2 := cell_at (j := 2) HJ1.out rfl
    have jf : ∀ j, w1.frozen? ⟨w.heap.size, j, none⟩ = false := fun j => froz_of HJ1.out
    clear hw1
    go_enter Try.func9, Try.ntmps9
    go_upto_region 1 with fail
    rw [← HW1.out]
    go_wp2_with fail
    refine bodyPost_ret (results_id2 rfl rfl (heap_set (heap_set (heap_set HJ1.out))) rfl) rfl ?_
    unfold PrQ
    rw [HPR.out]
    exact ⟨.slice none 0 0, .slice none 0 0, rfl, World.ownsRow_nil _ _ _ _, World.ownsRow_nil _ _ _ _, ((HB1.out.setCell (p := ⟨w.heap.size, 0, none⟩) (Nat.le_refl _) _).setCell (p := ⟨w.heap.size, 1, none⟩) (Nat.le_refl _) _).setCell (p := ⟨w.heap.size, 2, none⟩) (Nat.le_refl _) _⟩
  have hsI : ¬ (1000 : Int) < s.size := by omega
  have hsd : decide ((1000 : Int) < s.size) = false := decide_eq_false hsI
  obtain ⟨w2, hw2⟩ : ∃ w2, w2 = (w.alloc (.cells #[.slice none 0 0, .slice none 0 0, .bool false] 24)).alloc (.cells #[.string s, .int .i64 0, .bool false] 76) := ⟨_, rfl⟩
  have HW2 : Hid (w2 = (w.alloc (.cells #[.slice none 0 0, .slice none 0 0, .bool false] 24)).alloc (.cells #[.string s, .int .i64 0, .bool false] 76)) := hw2
  obtain ⟨hj2, hd2, hb2⟩ := two_new w _ _ w2 hw2
  have hs2 : w2.heap.size = w.heap.size + 2 := by rw [hw2]; simp [World.size_alloc]
  have HD2 : Hid (DD w2 (w.heap.size + 1) s 0 false ∧ w2.heap[w.heap.size]? = some (.cells #[.slice none 0 0, .slice none 0 0, .bool false] 24 (0, 0)) ∧ Below w.heap.size w w2 ∧ w2.heap.size = w.heap.size + 2) := ⟨⟨hd2, Nat.zero_le _⟩, hj2, hb2, hs2⟩
  have HSD : Hid (Calls Try.prog 30 #[.pointer (some ⟨w.heap.size + 1, 0, none⟩)] w2 (PdQ (pwsP s (s.size + 1) 0 []) (pwsE s (s.size + 1) 0 []) s 0 (w.heap.size + 1) w2)) := rside_any hs (s.size + 1) w2 0 HD2.out.1 (by omega)
  clear hw2 hj2 hd2 hb2 hs2
  go_enter Try.func9, Try.ntmps9
  go_upto_region 4 with fail
  rw [← HW2.out]
  clear HW2
  go_wp2_with fail
  refine Calls.mono HSD.out ?_
  rintro e w3 ⟨u, L, j, bad, rfl, hol, hd3, hon3, hpd⟩
  obtain ⟨e1, f1, rfl⟩ := own_shape hol
  obtain ⟨w4, hw4⟩ : ∃ w4, w4 = w3.alloc (.cells #[.slice e1 L.length f1, .slice none 0 0, .bool false] 24) := ⟨_, rfl⟩
  have HW4 : Hid (w4 = w3.alloc (.cells #[.slice e1 L.length f1, .slice none 0 0, .bool false] 24)) := hw4
  have hb4 : Below w3.heap.size w3 w4 := by rw [hw4]; exact below_new _ _
  have hi4 : w4.heap[w3.heap.size]? = some (.cells #[.slice e1 L.length f1, .slice none 0 0, .bool false] 24 (0, 0)) := by rw [hw4]; exact heap_last _ _
  have hsz := HD2.out.2.2.2
  have hon3s := hon3.size
  have HP4 : Hid (PS w w4 s w3.heap.size j bad (.slice e1 L.length f1) (.slice none 0 0) false L []) := by
    refine ⟨hd3.below hb4, ?_, hi4, own_below (own_mono hol (by omega)) hb4, World.ownsRow_nil _ _ _ _, by omega, ?_⟩
    · have h1 := (hon3.block w.heap.size (by omega) (by show ¬ w.heap.size = w.heap.size + 1; omega)).trans HD2.out.2.1
      exact (hb4.block _ (Array.getElem?_eq_some_iff.1 h1).1).trans h1
    · exact (hon3.below HD2.out.2.2.1 (Nat.le_refl _) (fun j e => by rw [e]; omega)).trans (hb4.mono (by omega))
  have hjle := hd3.le
  obtain ⟨ib, hib⟩ : ∃ ib, w3.heap.size = ib := ⟨_, rfl⟩
  have HIB : Hid (w3.heap.size = ib) := hib
  rw [hib] at HP4
  clear hol hd3 hon3 hw4 hb4 hi4 hsz hon3s hib
  go_upto_region 5 with fail
  rw [← HW4.out, HIB.out]
  clear HW4
  rcases hpd with ⟨rfl, hok⟩ | ⟨rfl, hok, her, -⟩
  rotate_left
  · have HPR0 : Hid (prS s = ([], [], false, j, 41)) := by
      have h1 := id_one hok
      exact pr_none hs h1.1 (h1.2.trans her)
    clear hok her
    have HP := HP4
    have HPR := HPR0
    have HPB : Hid (∀ nq, Below w.heap.size w (w4.drewN nq).drew) := fun nq => (HP.out.step (dd_drewN HP.out.d) or_drewN).b.drew
    have t2 : w4.cell? ⟨w.heap.size + 1, 2, none⟩ = some (.bool true) := cell_at HP.out.d.box rfl
    have t1 : w4.cell? ⟨w.heap.size + 1, 1, none⟩ = some (.int .i64 (j : Nat)) := cell_at HP.out.d.box rfl
    go_upto_region 18 with fail
    go_quiet (fail)
    go_upto_region 21 with fail
    refine wp_region_held_drew (S := fun z => z.heap[w.heap.size + 1]? = some (.cells #[.string s, .int .i64 (j : Nat), .bool true] 76 (0, 0)) ∧ Below w.heap.size w z) (by kernel_rfl) ⟨HP.out.d.box, HPB.out nq⟩ (fun hH0 => ?_)
    generalize hyy : World.drew _ = y0 at hH0 ⊢
    have HJ0 : Hid (y0.heap[w.heap.size]? = some (.cells #[.slice none 0 0, .slice none 0 0, .bool false] 24 (0, 0))) := by show _ = _; rw [← hyy]; exact HP.out.j
    have j0 := cell_at (j := 0) HJ0.out rfl
    have j1 := cell_at (j := 1) HJ0.out rfl
    have j2 := cell_at (j := 2) HJ0.out rfl
    have jf : ∀ j, y0.frozen? ⟨w.heap.size, j, none⟩ = false := fun j => froz_of HJ0.out
    clear hyy t2
    refine wpAnyH_take (i := 0) (oi := { dst := some 93, op := Go.Op.build 24 #[], type := 24, pos := "ref.go:216", after := #[], guard := none }) (v := ?_) rfl (by kernel_rfl) (by kernel_rfl) (by kernel_rfl) (fun _ _ _ h => h) (Or.inl ⟨by rfl, ?_⟩) (by assumption) ?_
    rotate_left
    · intro w' hS; go_simp; (try with_reducible rfl)
    simp only [Act.put, List.setIfInBounds_toArray, List.set_cons_zero, List.set_cons_succ]
    refine wpAnyH_take (i := 1) (oi := { dst := some 94, op := Go.Op.move (Go.Operand.tmp 5), type := 74, pos := "ref.go:216", after := #[{ on := 5, ground := Go.Ground.gcOnly Go.Departure.lateStores }], guard := none }) (v := ?_) rfl (by kernel_rfl) (by kernel_rfl) (by kernel_rfl) (fun _ _ _ h => h) (Or.inl ⟨by rfl, ?_⟩) (by assumption) ?_
    rotate_left
    · intro w' hS; go_simp; (try with_reducible rfl)
    simp only [Act.put, List.setIfInBounds_toArray, List.set_cons_zero, List.set_cons_succ]
    refine wpAnyH_take (i := 2) (oi := { dst := some 95, op := Go.Op.nilCheck (Go.Operand.tmp 94), type := 0, pos := "ref.go:216", after := #[{ on := 1, ground := Go.Ground.data }, { on := 5, ground := Go.Ground.gcOnly Go.Departure.lateStores }], guard := none }) (v := ?_) rfl (by kernel_rfl) (by kernel_rfl) (by kernel_rfl) (fun _ _ _ h => h) (Or.inl ⟨by rfl, ?_⟩) (by assumption) ?_
    rotate_left
    · intro w' hS; go_simp; (try with_reducible rfl)
    simp only [Act.put, List.setIfInBounds_toArray, List.set_cons_zero, List.set_cons_succ]
    refine wpAnyH_take (i := 3) (oi := { dst := some 96, op := Go.Op.fieldAddr 76 (Go.Operand.tmp 95) 1, type := 0, pos := "ref.go:216", after := #[{ on := 2, ground := Go.Ground.data }, { on := 5, ground := Go.Ground.gcOnly Go.Departure.lateStores }], guard := none }) (v := ?_) rfl (by kernel_rfl) (by kernel_rfl) (by kernel_rfl) (fun _ _ _ h => h) (Or.inl ⟨by rfl, ?_⟩) (by assumption) ?_
    rotate_left
    · intro w' hS; go_simp; (try with_reducible rfl)
    simp only [Act.put, List.setIfInBounds_toArray, List.set_cons_zero, List.set_cons_succ]
    refine wpAnyH_take (i := 4) (oi := { dst := some 97, op := Go.Op.load 3 (Go.Operand.tmp 96), type := 3, pos := "ref.go:216", after := #[{ on := 3, ground := Go.Ground.data }, { on := 5, ground := Go.Ground.gcOnly Go.Departure.lateStores }], guard := none }) (v := .int .i64 (j : Nat)) rfl (by kernel_rfl) (by kernel_rfl) (by kernel_rfl) (fun _ _ _ h => h) (Or.inl ⟨by rfl, ?_⟩) (by assumption) ?_
    · intro w' hS; have hz := cell_at (j := 1) hS.1 rfl; go_simp
    simp only [Act.put, List.setIfInBounds_toArray, List.set_cons_zero, List.set_cons_succ]
    refine wpAnyH_ready (rs := [5]) (by kernel_rfl) (by simp) ?_
    refine AllReadyH.cons rfl (fun K hK => ?_) AllReadyH.nil
    go_simp
    refine hK.out _ _ ⟨?_, ?_⟩ (fun hH1 => ?_)
    · rw [heap_set_other (by omega), heap_set_other (by omega), heap_set_other (by omega)]; exact hH0.1
    · exact ((hH0.2.setCell (p := ⟨w.heap.size, 0, none⟩) (Nat.le_refl _) _).setCell (p := ⟨w.heap.size, 1, none⟩) (Nat.le_refl _) _).setCell (p := ⟨w.heap.size, 2, none⟩) (Nat.le_refl _) _
    clear hK K
    refine wpAnyH_take (i := 6) (oi := { dst := some 3, op := Go.Op.assign (Go.Operand.tmp 97), type := 3, pos := "ref.go:216", after := #[{ on := 4, ground := Go.Ground.data }, { on := 5, ground := Go.Ground.chain }, { on := 0, ground := Go.Ground.phase }, { on := 1, ground := Go.Ground.phase }, { on := 2, ground := Go.Ground.phase }, { on := 3, ground := Go.Ground.phase }, { on := 4, ground := Go.Ground.phase }, { on := 5, ground := Go.Ground.phase }], guard := none }) (v := ?_) rfl (by kernel_rfl) (by kernel_rfl) (by kernel_rfl) (fun _ _ _ h => h) (Or.inl ⟨by rfl, ?_⟩) (by assumption) ?_
    rotate_left
    · intro w' hS; go_simp; (try with_reducible rfl)
    simp only [Act.put, List.setIfInBounds_toArray, List.set_cons_zero, List.set_cons_succ]
    refine wpAnyH_take (i := 7) (oi := { dst := some 4, op := Go.Op.assign (Go.Operand.const (Go.Value.int Go.IntKind.i64 41)), type := 3, pos := "ref.go:216", after := #[{ on := 6, ground := Go.Ground.chain }, { on := 0, ground := Go.Ground.phase }, { on := 1, ground := Go.Ground.phase }, { on := 2, ground := Go.Ground.phase }, { on := 3, ground := Go.Ground.phase }, { on := 4, ground := Go.Ground.phase }, { on := 5, ground := Go.Ground.phase }, { on := 6, ground := Go.Ground.phase }], guard := none }) (v := ?_) rfl (by kernel_rfl) (by kernel_rfl) (by kernel_rfl) (fun _ _ _ h => h) (Or.inl ⟨by rfl, ?_⟩) (by assumption) ?_
    rotate_left
    · intro w' hS; go_simp; (try with_reducible rfl)
    simp only [Act.put, List.setIfInBounds_toArray, List.set_cons_zero, List.set_cons_succ]
    refine wpAnyH_done (by kernel_rfl) ?_ _
    go_wp2_with fail
    refine bodyPost_ret (results_id2 rfl rfl (heap_set (heap_set (heap_set HJ0.out))) rfl) rfl ?_
    unfold PrQ
    rw [HPR.out]
    exact ⟨.slice none 0 0, .slice none 0 0, rfl, World.ownsRow_nil _ _ _ _, World.ownsRow_nil _ _ _ _, hH1.2⟩
  have hkj := pws_skip hok
  have HNX0 : Hid (Calls Try.prog 31 #[.pointer (some ⟨w.heap.size + 1, 0, none⟩)] w4 fun e w' => e = .returned (.int .u8 (nxB s j : Nat)) ∧ DD w' (w.heap.size + 1) s j false ∧ OR (w.heap.size + 1) w4 w') := by
    have := rnext_any HP4.out.d hs
    rw [hkj] at this
    exact this
  have HIT : Hid _ := id_two hok hjle
  have hne := nx_ne (s := s) (i := j) hjle
  rw [hkj] at hne
  obtain ⟨c, hc⟩ : ∃ c, nxB s j = c := ⟨_, rfl⟩
  rw [hc] at HNX0 HIT hne
  have t2 : w4.cell? ⟨w.heap.size + 1, 2, none⟩ = some (.bool false) := cell_at HP4.out.d.box rfl
  clear hok hkj hc
  by_cases h61 : c = 61
  · subst h61
    have HID : Hid (idM s L false (j + 1)) := HIT.out.1 rfl
    have hjl := (hne (by decide)).1
    clear HIT hne
    go_wp2_with fail
    refine Calls.mono HNX0.out ?_
    rintro e w5 ⟨rfl, hd5, hon5⟩
    have HP5 := HP4.out.step hd5 hon5
    obtain ⟨w6, hw6⟩ : ∃ w6, w6 = w5.setCell ⟨w.heap.size + 1, 1, none⟩ (.int .i64 ((j + 1 : Nat) : Int)) := ⟨_, rfl⟩
    have HW6 : Hid (w6 = w5.setCell ⟨w.heap.size + 1, 1, none⟩ (.int .i64 ((j : Int) + 1))) := hw6
    have HP6 : Hid (PS w w6 s ib (j + 1) false (.slice e1 L.length f1) (.slice none 0 0) false L []) := by
      show PS _ _ _ _ _ _ _ _ _ _ _
      rw [hw6]
      exact HP5.step (hd5.move hjl) or_set
    have t1 : w5.cell? ⟨w.heap.size + 1, 1, none⟩ = some (.int .i64 (j : Nat)) := cell_at hd5.box rfl
    have tf : ∀ j, w5.frozen? ⟨w.heap.size + 1, j, none⟩ = false := fun j => froz_of hd5.box
    have hwj : IntKind.i64.wrap ((j : Int) + 1) = ((j + 1 : Nat) : Int) := by rw [IntKind.wrap_i64]; omega
    clear hw6 HP5 hd5 hon5 t2
    go_upto_region 14 with fail
    rw [← HW6.out]
    clear t1 tf HW6 hwj
    have HSC : Hid (Calls Try.prog 30 #[.pointer (some ⟨w.heap.size + 1, 0, none⟩)] w6 (PdQ (pwsP s (s.size + 1) (j + 1) []) (pwsE s (s.size + 1) (j + 1) []) s (j + 1) (w.heap.size + 1) w6)) := rside_any hs (s.size + 1) w6 (j + 1) HP6.out.d (by omega)
    have t2 : w6.cell? ⟨w.heap.size + 1, 2, none⟩ = some (.bool false) := cell_at HP6.out.d.box rfl
    go_wp2_with fail
    refine Calls.mono HSC.out ?_
    rintro e z1 ⟨u2, R, k, bad2, rfl, hor2, hd2, hon2, hpd2⟩
    obtain ⟨e2, f2, rfl⟩ := own_shape hor2
    have HP1 := HP6.out.step hd2 hon2
    have HI1 : Hid (z1.heap[ib]? = some (.cells #[.slice e1 L.length f1, .slice none 0 0, .bool false] 24 (0, 0))) := HP1.i
    obtain ⟨z2, hz2⟩ : ∃ z2, z2 = z1.setCell ⟨ib, 1, none⟩ (.slice e2 R.length f2) := ⟨_, rfl⟩
    have HZ2 : Hid (z2 = z1.setCell ⟨ib, 1, none⟩ (.slice e2 R.length f2)) := hz2
    have HP2 : Hid (PS w z2 s ib k bad2 (.slice e1 L.length f1) (.slice e2 R.length f2) false L R) := by
      show PS _ _ _ _ _ _ _ _ _ _ _
      rw [hz2]
      exact HP1.right (own_mono hor2 HP6.out.base)
    have i1 : z1.cell? ⟨ib, 1, none⟩ = some (.slice none 0 0) := cell_at HI1.out rfl
    have jf : ∀ j, z1.frozen? ⟨ib, j, none⟩ = false := fun j => froz_of HI1.out
    have hkle := hd2.le
    clear hz2 HP1 hor2 hd2 hon2 t2
    go_upto_region 16 with fail
    rw [← HZ2.out]
    clear i1 jf HI1 HZ2
    rcases hpd2 with ⟨rfl, hok2⟩ | ⟨rfl, hok2, her2, -⟩
    rotate_left
    · have HPR0 : Hid (prS s = ([], [], false, k, 41)) := by
        have h1 := HID.out
        unfold idM at h1
        rw [hok2] at h1
        exact pr_none hs h1.1 (h1.2.trans her2)
      clear hok2 her2
      have HP := HP2
      have HPR := HPR0
      have HPB : Hid (∀ nq, Below w.heap.size w (z2.drewN nq).drew) := fun nq => (HP.out.step (dd_drewN HP.out.d) or_drewN).b.drew
      have t2 : z2.cell? ⟨w.heap.size + 1, 2, none⟩ = some (.bool true) := cell_at HP.out.d.box rfl
      have t1 : z2.cell? ⟨w.heap.size + 1, 1, none⟩ = some (.int .i64 (k : Nat)) := cell_at HP.out.d.box rfl
      go_upto_region 18 with fail
      go_quiet (fail)
      go_upto_region 21 with fail
      refine wp_region_held_drew (S := fun z => z.heap[w.heap.size + 1]? = some (.cells #[.string s, .int .i64 (k : Nat), .bool true] 76 (0, 0)) ∧ Below w.heap.size w z) (by kernel_rfl) ⟨HP.out.d.box, HPB.out nq⟩ (fun hH0 => ?_)
      generalize hyy : World.drew _ = y0 at hH0 ⊢
      have HJ0 : Hid (y0.heap[w.heap.size]? = some (.cells #[.slice none 0 0, .slice none 0 0, .bool false] 24 (0, 0))) := by show _ = _; rw [← hyy]; exact HP.out.j
      have j0 := cell_at (j := 0) HJ0.out rfl
      have j1 := cell_at (j := 1) HJ0.out rfl
      have j2 := cell_at (j := 2) HJ0.out rfl
      have jf : ∀ j, y0.frozen? ⟨w.heap.size, j, none⟩ = false := fun j => froz_of HJ0.out
      clear hyy t2
      refine wpAnyH_take (i := 0) (oi := { dst := some 93, op := Go.Op.build 24 #[], type := 24, pos := "ref.go:216", after := #[], guard := none }) (v := ?_) rfl (by kernel_rfl) (by kernel_rfl) (by kernel_rfl) (fun _ _ _ h => h) (Or.inl ⟨by rfl, ?_⟩) (by assumption) ?_
      rotate_left
      · intro w' hS; go_simp; (try with_reducible rfl)
      simp only [Act.put, List.setIfInBounds_toArray, List.set_cons_zero, List.set_cons_succ]
      refine wpAnyH_take (i := 1) (oi := { dst := some 94, op := Go.Op.move (Go.Operand.tmp 5), type := 74, pos := "ref.go:216", after := #[{ on := 5, ground := Go.Ground.gcOnly Go.Departure.lateStores }], guard := none }) (v := ?_) rfl (by kernel_rfl) (by kernel_rfl) (by kernel_rfl) (fun _ _ _ h => h) (Or.inl ⟨by rfl, ?_⟩) (by assumption) ?_
      rotate_left
      · intro w' hS; go_simp; (try with_reducible rfl)
      simp only [Act.put, List.setIfInBounds_toArray, List.set_cons_zero, List.set_cons_succ]
      refine wpAnyH_take (i := 2) (oi := { dst := some 95, op := Go.Op.nilCheck (Go.Operand.tmp 94), type := 0, pos := "ref.go:216", after := #[{ on := 1, ground := Go.Ground.data }, { on := 5, ground := Go.Ground.gcOnly Go.Departure.lateStores }], guard := none }) (v := ?_) rfl (by kernel_rfl) (by kernel_rfl) (by kernel_rfl) (fun _ _ _ h => h) (Or.inl ⟨by rfl, ?_⟩) (by assumption) ?_
      rotate_left
      · intro w' hS; go_simp; (try with_reducible rfl)
      simp only [Act.put, List.setIfInBounds_toArray, List.set_cons_zero, List.set_cons_succ]
      refine wpAnyH_take (i := 3) (oi := { dst := some 96, op := Go.Op.fieldAddr 76 (Go.Operand.tmp 95) 1, type := 0, pos := "ref.go:216", after := #[{ on := 2, ground := Go.Ground.data }, { on := 5, ground := Go.Ground.gcOnly Go.Departure.lateStores }], guard := none }) (v := ?_) rfl (by kernel_rfl) (by kernel_rfl) (by kernel_rfl) (fun _ _ _ h => h) (Or.inl ⟨by rfl, ?_⟩) (by assumption) ?_
      rotate_left
      · intro w' hS; go_simp; (try with_reducible rfl)
      simp only [Act.put, List.setIfInBounds_toArray, List.set_cons_zero, List.set_cons_succ]
      refine wpAnyH_take (i := 4) (oi := { dst := some 97, op := Go.Op.load 3 (Go.Operand.tmp 96), type := 3, pos := "ref.go:216", after := #[{ on := 3, ground := Go.Ground.data }, { on := 5, ground := Go.Ground.gcOnly Go.Departure.lateStores }], guard := none }) (v := .int .i64 (k : Nat)) rfl (by kernel_rfl) (by kernel_rfl) (by kernel_rfl) (fun _ _ _ h => h) (Or.inl ⟨by rfl, ?_⟩) (by assumption) ?_
      · intro w' hS; have hz := cell_at (j := 1) hS.1 rfl; go_simp
      simp only [Act.put, List.setIfInBounds_toArray, List.set_cons_zero, List.set_cons_succ]
      refine wpAnyH_ready (rs := [5]) (by kernel_rfl) (by simp) ?_
      refine AllReadyH.cons rfl (fun K hK => ?_) AllReadyH.nil
      go_simp
      refine hK.out _ _ ⟨?_, ?_⟩ (fun hH1 => ?_)
      · rw [heap_set_other (by omega), heap_set_other (by omega), heap_set_other (by omega)]; exact hH0.1
      · exact ((hH0.2.setCell (p := ⟨w.heap.size, 0, none⟩) (Nat.le_refl _) _).setCell (p := ⟨w.heap.size, 1, none⟩) (Nat.le_refl _) _).setCell (p := ⟨w.heap.size, 2, none⟩) (Nat.le_refl _) _
      clear hK K
      refine wpAnyH_take (i := 6) (oi := { dst := some 3, op := Go.Op.assign (Go.Operand.tmp 97), type := 3, pos := "ref.go:216", after := #[{ on := 4, ground := Go.Ground.data }, { on := 5, ground := Go.Ground.chain }, { on := 0, ground := Go.Ground.phase }, { on := 1, ground := Go.Ground.phase }, { on := 2, ground := Go.Ground.phase }, { on := 3, ground := Go.Ground.phase }, { on := 4, ground := Go.Ground.phase }, { on := 5, ground := Go.Ground.phase }], guard := none }) (v := ?_) rfl (by kernel_rfl) (by kernel_rfl) (by kernel_rfl) (fun _ _ _ h => h) (Or.inl ⟨by rfl, ?_⟩) (by assumption) ?_
      rotate_left
      · intro w' hS; go_simp; (try with_reducible rfl)
      simp only [Act.put, List.setIfInBounds_toArray, List.set_cons_zero, List.set_cons_succ]
      refine wpAnyH_take (i := 7) (oi := { dst := some 4, op := Go.Op.assign (Go.Operand.const (Go.Value.int Go.IntKind.i64 41)), type := 3, pos := "ref.go:216", after := #[{ on := 6, ground := Go.Ground.chain }, { on := 0, ground := Go.Ground.phase }, { on := 1, ground := Go.Ground.phase }, { on := 2, ground := Go.Ground.phase }, { on := 3, ground := Go.Ground.phase }, { on := 4, ground := Go.Ground.phase }, { on := 5, ground := Go.Ground.phase }, { on := 6, ground := Go.Ground.phase }], guard := none }) (v := ?_) rfl (by kernel_rfl) (by kernel_rfl) (by kernel_rfl) (fun _ _ _ h => h) (Or.inl ⟨by rfl, ?_⟩) (by assumption) ?_
      rotate_left
      · intro w' hS; go_simp; (try with_reducible rfl)
      simp only [Act.put, List.setIfInBounds_toArray, List.set_cons_zero, List.set_cons_succ]
      refine wpAnyH_done (by kernel_rfl) ?_ _
      go_wp2_with fail
      refine bodyPost_ret (results_id2 rfl rfl (heap_set (heap_set (heap_set HJ0.out))) rfl) rfl ?_
      unfold PrQ
      rw [HPR.out]
      exact ⟨.slice none 0 0, .slice none 0 0, rfl, World.ownsRow_nil _ _ _ _, World.ownsRow_nil _ _ _ _, hH1.2⟩
    have hkk := pws_skip hok2
    have HNX : Hid (Calls Try.prog 31 #[.pointer (some ⟨w.heap.size + 1, 0, none⟩)] z2 fun e w' => e = .returned (.int .u8 (nxB s k : Nat)) ∧ DD w' (w.heap.size + 1) s k false ∧ OR (w.heap.size + 1) z2 w') := by
      have := rnext_any HP2.out.d hs
      rw [hkk] at this
      exact this
    have HID2 : Hid (pwsP s (s.size + 1) (j + 1) [] = some (k, R)) := hok2
    have t2 : z2.cell? ⟨w.heap.size + 1, 2, none⟩ = some (.bool false) := cell_at HP2.out.d.box rfl
    have hend := nx_end (s := s) (i := k)
    have hne := nx_ne (s := s) (i := k) hkle
    rw [hkk] at hend hne
    obtain ⟨c2, hc2⟩ : ∃ c, nxB s k = c := ⟨_, rfl⟩
    rw [hc2] at HNX hend hne
    clear hok2 hkk hc2
    by_cases hz : c2 = 0
    rotate_left
    · have hzI : ¬ (c2 : Int) = 0 := by omega
      have hzb : ((c2 : Int) != 0) = true := by rw [bne_iff_ne]; exact hzI
      have hzd : decide ((c2 : Int) ≠ 0) = true := decide_eq_true hzI
      have HPR0 : Hid (prS s = ([], [], false, k, 41)) := by
        have h1 := HID.out
        unfold idM at h1
        rw [HID2.out] at h1
        have hks := (hne hz).1
        exact pr_none hs (h1.1.trans (if_neg (by omega))) (h1.2.trans (if_neg (by omega)))
      clear hz hend hne
      go_wp2_with fail
      refine Calls.mono HNX.out ?_
      rintro e z3 ⟨rfl, hd3, hon3⟩
      have HP3 := HP2.out.step hd3 hon3
      obtain ⟨z4, hz4⟩ : ∃ z4, z4 = z3.setCell ⟨w.heap.size + 1, 2, none⟩ (.bool true) := ⟨_, rfl⟩
      have HZ4 : Hid (z4 = z3.setCell ⟨w.heap.size + 1, 2, none⟩ (.bool true)) := hz4
      have HP4 : Hid (PS w z4 s ib k true (.slice e1 L.length f1) (.slice e2 R.length f2) false L R) := by
        show PS _ _ _ _ _ _ _ _ _ _ _
        rw [hz4]
        exact HP3.step hd3.spoilt or_set
      have u2' : z3.cell? ⟨w.heap.size + 1, 2, none⟩ = some (.bool false) := cell_at hd3.box rfl
      have uf : ∀ j, z3.frozen? ⟨w.heap.size + 1, j, none⟩ = false := fun j => froz_of hd3.box
      clear hz4 HP3 hd3 hon3 t2
      go_upto_region 18 with fail
      rw [← HZ4.out]
      clear u2' uf HZ4
      have HP := HP4
      have HPR := HPR0
      have HPB : Hid (∀ nq, Below w.heap.size w (z4.drewN nq).drew) := fun nq => (HP.out.step (dd_drewN HP.out.d) or_drewN).b.drew
      have t2 : z4.cell? ⟨w.heap.size + 1, 2, none⟩ = some (.bool true) := cell_at HP.out.d.box rfl
      have t1 : z4.cell? ⟨w.heap.size + 1, 1, none⟩ = some (.int .i64 (k : Nat)) := cell_at HP.out.d.box rfl
      go_upto_region 18 with fail
      go_quiet (fail)
      go_upto_region 21 with fail
      refine wp_region_held_drew (S := fun z => z.heap[w.heap.size + 1]? = some (.cells #[.string s, .int .i64 (k : Nat), .bool true] 76 (0, 0)) ∧ Below w.heap.size w z) (by kernel_rfl) ⟨HP.out.d.box, HPB.out nq⟩ (fun hH0 => ?_)
      generalize hyy : World.drew _ = y0 at hH0 ⊢
      have HJ0 : Hid (y0.heap[w.heap.size]? = some (.cells #[.slice none 0 0, .slice none 0 0, .bool false] 24 (0, 0))) := by show _ = _; rw [← hyy]; exact HP.out.j
      have j0 := cell_at (j := 0) HJ0.out rfl
      have j1 := cell_at (j := 1) HJ0.out rfl
      have j2 := cell_at (j := 2) HJ0.out rfl
      have jf : ∀ j, y0.frozen? ⟨w.heap.size, j, none⟩ = false := fun j => froz_of HJ0.out
      clear hyy t2
      refine wpAnyH_take (i := 0) (oi := { dst := some 93, op := Go.Op.build 24 #[], type := 24, pos := "ref.go:216", after := #[], guard := none }) (v := ?_) rfl (by kernel_rfl) (by kernel_rfl) (by kernel_rfl) (fun _ _ _ h => h) (Or.inl ⟨by rfl, ?_⟩) (by assumption) ?_
      rotate_left
      · intro w' hS; go_simp; (try with_reducible rfl)
      simp only [Act.put, List.setIfInBounds_toArray, List.set_cons_zero, List.set_cons_succ]
      refine wpAnyH_take (i := 1) (oi := { dst := some 94, op := Go.Op.move (Go.Operand.tmp 5), type := 74, pos := "ref.go:216", after := #[{ on := 5, ground := Go.Ground.gcOnly Go.Departure.lateStores }], guard := none }) (v := ?_) rfl (by kernel_rfl) (by kernel_rfl) (by kernel_rfl) (fun _ _ _ h => h) (Or.inl ⟨by rfl, ?_⟩) (by assumption) ?_
      rotate_left
      · intro w' hS; go_simp; (try with_reducible rfl)
      simp only [Act.put, List.setIfInBounds_toArray, List.set_cons_zero, List.set_cons_succ]
      refine wpAnyH_take (i := 2) (oi := { dst := some 95, op := Go.Op.nilCheck (Go.Operand.tmp 94), type := 0, pos := "ref.go:216", after := #[{ on := 1, ground := Go.Ground.data }, { on := 5, ground := Go.Ground.gcOnly Go.Departure.lateStores }], guard := none }) (v := ?_) rfl (by kernel_rfl) (by kernel_rfl) (by kernel_rfl) (fun _ _ _ h => h) (Or.inl ⟨by rfl, ?_⟩) (by assumption) ?_
      rotate_left
      · intro w' hS; go_simp; (try with_reducible rfl)
      simp only [Act.put, List.setIfInBounds_toArray, List.set_cons_zero, List.set_cons_succ]
      refine wpAnyH_take (i := 3) (oi := { dst := some 96, op := Go.Op.fieldAddr 76 (Go.Operand.tmp 95) 1, type := 0, pos := "ref.go:216", after := #[{ on := 2, ground := Go.Ground.data }, { on := 5, ground := Go.Ground.gcOnly Go.Departure.lateStores }], guard := none }) (v := ?_) rfl (by kernel_rfl) (by kernel_rfl) (by kernel_rfl) (fun _ _ _ h => h) (Or.inl ⟨by rfl, ?_⟩) (by assumption) ?_
      rotate_left
      · intro w' hS; go_simp; (try with_reducible rfl)
      simp only [Act.put, List.setIfInBounds_toArray, List.set_cons_zero, List.set_cons_succ]
      refine wpAnyH_take (i := 4) (oi := { dst := some 97, op := Go.Op.load 3 (Go.Operand.tmp 96), type := 3, pos := "ref.go:216", after := #[{ on := 3, ground := Go.Ground.data }, { on := 5, ground := Go.Ground.gcOnly Go.Departure.lateStores }], guard := none }) (v := .int .i64 (k : Nat)) rfl (by kernel_rfl) (by kernel_rfl) (by kernel_rfl) (fun _ _ _ h => h) (Or.inl ⟨by rfl, ?_⟩) (by assumption) ?_
      · intro w' hS; have hz := cell_at (j := 1) hS.1 rfl; go_simp
      simp only [Act.put, List.setIfInBounds_toArray, List.set_cons_zero, List.set_cons_succ]
      refine wpAnyH_ready (rs := [5]) (by kernel_rfl) (by simp) ?_
      refine AllReadyH.cons rfl (fun K hK => ?_) AllReadyH.nil
      go_simp
      refine hK.out _ _ ⟨?_, ?_⟩ (fun hH1 => ?_)
      · rw [heap_set_other (by omega), heap_set_other (by omega), heap_set_other (by omega)]; exact hH0.1
      · exact ((hH0.2.setCell (p := ⟨w.heap.size, 0, none⟩) (Nat.le_refl _) _).setCell (p := ⟨w.heap.size, 1, none⟩) (Nat.le_refl _) _).setCell (p := ⟨w.heap.size, 2, none⟩) (Nat.le_refl _) _
      clear hK K
      refine wpAnyH_take (i := 6) (oi := { dst := some 3, op := Go.Op.assign (Go.Operand.tmp 97), type := 3, pos := "ref.go:216", after := #[{ on := 4, ground := Go.Ground.data }, { on := 5, ground := Go.Ground.chain }, { on := 0, ground := Go.Ground.phase }, { on := 1, ground := Go.Ground.phase }, { on := 2, ground := Go.Ground.phase }, { on := 3, ground := Go.Ground.phase }, { on := 4, ground := Go.Ground.phase }, { on := 5, ground := Go.Ground.phase }], guard := none }) (v := ?_) rfl (by kernel_rfl) (by kernel_rfl) (by kernel_rfl) (fun _ _ _ h => h) (Or.inl ⟨by rfl, ?_⟩) (by assumption) ?_
      rotate_left
      · intro w' hS; go_simp; (try with_reducible rfl)
      simp only [Act.put, List.setIfInBounds_toArray, List.set_cons_zero, List.set_cons_succ]
      refine wpAnyH_take (i := 7) (oi := { dst := some 4, op := Go.Op.assign (Go.Operand.const (Go.Value.int Go.IntKind.i64 41)), type := 3, pos := "ref.go:216", after := #[{ on := 6, ground := Go.Ground.chain }, { on := 0, ground := Go.Ground.phase }, { on := 1, ground := Go.Ground.phase }, { on := 2, ground := Go.Ground.phase }, { on := 3, ground := Go.Ground.phase }, { on := 4, ground := Go.Ground.phase }, { on := 5, ground := Go.Ground.phase }, { on := 6, ground := Go.Ground.phase }], guard := none }) (v := ?_) rfl (by kernel_rfl) (by kernel_rfl) (by kernel_rfl) (fun _ _ _ h => h) (Or.inl ⟨by rfl, ?_⟩) (by assumption) ?_
      rotate_left
      · intro w' hS; go_simp; (try with_reducible rfl)
      simp only [Act.put, List.setIfInBounds_toArray, List.set_cons_zero, List.set_cons_succ]
      refine wpAnyH_done (by kernel_rfl) ?_ _
      go_wp2_with fail
      refine bodyPost_ret (results_id2 rfl rfl (heap_set (heap_set (heap_set HJ0.out))) rfl) rfl ?_
      unfold PrQ
      rw [HPR.out]
      exact ⟨.slice none 0 0, .slice none 0 0, rfl, World.ownsRow_nil _ _ _ _, World.ownsRow_nil _ _ _ _, hH1.2⟩
    subst hz
    clear hend hne
    go_wp2_with fail
    refine Calls.mono HNX.out ?_
    rintro e z3 ⟨rfl, hd3, hon3⟩
    have HP3 : Hid (PS w z3 s ib k false (.slice e1 L.length f1) (.slice e2 R.length f2) false L R) := HP2.out.step hd3 hon3
    have t0 : z3.cell? ⟨w.heap.size + 1, 0, none⟩ = some (.string s) := cell_at hd3.box rfl
    have t1 : z3.cell? ⟨w.heap.size + 1, 1, none⟩ = some (.int .i64 (k : Nat)) := cell_at hd3.box rfl
    have t3 : z3.cell? ⟨w.heap.size + 1, 2, none⟩ = some (.bool false) := cell_at hd3.box rfl
    have uf : ∀ j, z3.frozen? ⟨w.heap.size + 1, j, none⟩ = false := fun j => froz_of hd3.box
    clear hd3 hon3 t2
    by_cases hks : k < s.size
    · have hksI : (k : Int) < s.size := by omega
      have hksd : decide ((k : Int) < s.size) = true := decide_eq_true hksI
      have HPR0 : Hid (prS s = ([], [], false, k, 41)) := by
        have h1 := HID.out
        unfold idM at h1
        rw [HID2.out] at h1
        exact pr_none hs (h1.1.trans (if_neg (by omega))) (h1.2.trans (if_neg (by omega)))
      have HZ4 : Hid (∀ nq, PS w ((z3.drewN nq).setCell ⟨w.heap.size + 1, 2, none⟩ (.bool true)) s ib k true (.slice e1 L.length f1) (.slice e2 R.length f2) false L R) := fun nq => (HP3.out.step (dd_drewN HP3.out.d) or_drewN).step (dd_drewN HP3.out.d).spoilt or_set
      clear hks
      go_upto_region 18 with fail
      go_quiet (fail)
      go_upto_region 20 with fail
      obtain ⟨z4, hz4⟩ : ∃ z4, z4 = (z3.drewN nq).setCell ⟨w.heap.size + 1, 2, none⟩ (.bool true) := ⟨_, rfl⟩
      have HP4 : Hid (PS w z4 s ib k true (.slice e1 L.length f1) (.slice e2 R.length f2) false L R) := by
        show PS _ _ _ _ _ _ _ _ _ _ _
        rw [hz4]
        exact HZ4.out nq
      rw [← hz4]
      clear hz4 t0 t1 t3 uf
      have HP := HP4
      have HPR := HPR0
      have HPB : Hid (Below w.heap.size w z4.drew) := HP.out.b.drew
      have t2 : z4.cell? ⟨w.heap.size + 1, 2, none⟩ = some (.bool true) := cell_at HP.out.d.box rfl
      have t1 : z4.cell? ⟨w.heap.size + 1, 1, none⟩ = some (.int .i64 (k : Nat)) := cell_at HP.out.d.box rfl
      go_upto_region 21 with fail
      refine wp_region_held_drew (S := fun z => z.heap[w.heap.size + 1]? = some (.cells #[.string s, .int .i64 (k : Nat), .bool true] 76 (0, 0)) ∧ Below w.heap.size w z) (by kernel_rfl) ⟨HP.out.d.box, HPB.out⟩ (fun hH0 => ?_)
      generalize hyy : World.drew _ = y0 at hH0 ⊢
      have HJ0 : Hid (y0.heap[w.heap.size]? = some (.cells #[.slice none 0 0, .slice none 0 0, .bool false] 24 (0, 0))) := by show _ = _; rw [← hyy]; exact HP.out.j
      have j0 := cell_at (j := 0) HJ0.out rfl
      have j1 := cell_at (j := 1) HJ0.out rfl
      have j2 := cell_at (j := 2) HJ0.out rfl
      have jf : ∀ j, y0.frozen? ⟨w.heap.size, j, none⟩ = false := fun j => froz_of HJ0.out
      clear hyy t2
      refine wpAnyH_take (i := 0) (oi := { dst := some 93, op := Go.Op.build 24 #[], type := 24, pos := "ref.go:216", after := #[], guard := none }) (v := ?_) rfl (by kernel_rfl) (by kernel_rfl) (by kernel_rfl) (fun _ _ _ h => h) (Or.inl ⟨by rfl, ?_⟩) (by assumption) ?_
      rotate_left
      · intro w' hS; go_simp; (try with_reducible rfl)
      simp only [Act.put, List.setIfInBounds_toArray, List.set_cons_zero, List.set_cons_succ]
      refine wpAnyH_take (i := 1) (oi := { dst := some 94, op := Go.Op.move (Go.Operand.tmp 5), type := 74, pos := "ref.go:216", after := #[{ on := 5, ground := Go.Ground.gcOnly Go.Departure.lateStores }], guard := none }) (v := ?_) rfl (by kernel_rfl) (by kernel_rfl) (by kernel_rfl) (fun _ _ _ h => h) (Or.inl ⟨by rfl, ?_⟩) (by assumption) ?_
      rotate_left
      · intro w' hS; go_simp; (try with_reducible rfl)
      simp only [Act.put, List.setIfInBounds_toArray, List.set_cons_zero, List.set_cons_succ]
      refine wpAnyH_take (i := 2) (oi := { dst := some 95, op := Go.Op.nilCheck (Go.Operand.tmp 94), type := 0, pos := "ref.go:216", after := #[{ on := 1, ground := Go.Ground.data }, { on := 5, ground := Go.Ground.gcOnly Go.Departure.lateStores }], guard := none }) (v := ?_) rfl (by kernel_rfl) (by kernel_rfl) (by kernel_rfl) (fun _ _ _ h => h) (Or.inl ⟨by rfl, ?_⟩) (by assumption) ?_
      rotate_left
      · intro w' hS; go_simp; (try with_reducible rfl)
      simp only [Act.put, List.setIfInBounds_toArray, List.set_cons_zero, List.set_cons_succ]
      refine wpAnyH_take (i := 3) (oi := { dst := some 96, op := Go.Op.fieldAddr 76 (Go.Operand.tmp 95) 1, type := 0, pos := "ref.go:216", after := #[{ on := 2, ground := Go.Ground.data }, { on := 5, ground := Go.Ground.gcOnly Go.Departure.lateStores }], guard := none }) (v := ?_) rfl (by kernel_rfl) (by kernel_rfl) (by kernel_rfl) (fun _ _ _ h => h) (Or.inl ⟨by rfl, ?_⟩) (by assumption) ?_
      rotate_left
      · intro w' hS; go_simp; (try with_reducible rfl)
      simp only [Act.put, List.setIfInBounds_toArray, List.set_cons_zero, List.set_cons_succ]
      refine wpAnyH_take (i := 4) (oi := { dst := some 97, op := Go.Op.load 3 (Go.Operand.tmp 96), type := 3, pos := "ref.go:216", after := #[{ on := 3, ground := Go.Ground.data }, { on := 5, ground := Go.Ground.gcOnly Go.Departure.lateStores }], guard := none }) (v := .int .i64 (k : Nat)) rfl (by kernel_rfl) (by kernel_rfl) (by kernel_rfl) (fun _ _ _ h => h) (Or.inl ⟨by rfl, ?_⟩) (by assumption) ?_
      · intro w' hS; have hz := cell_at (j := 1) hS.1 rfl; go_simp
      simp only [Act.put, List.setIfInBounds_toArray, List.set_cons_zero, List.set_cons_succ]
      refine wpAnyH_ready (rs := [5]) (by kernel_rfl) (by simp) ?_
      refine AllReadyH.cons rfl (fun K hK => ?_) AllReadyH.nil
      go_simp
      refine hK.out _ _ ⟨?_, ?_⟩ (fun hH1 => ?_)
      · rw [heap_set_other (by omega), heap_set_other (by omega), heap_set_other (by omega)]; exact hH0.1
      · exact ((hH0.2.setCell (p := ⟨w.heap.size, 0, none⟩) (Nat.le_refl _) _).setCell (p := ⟨w.heap.size, 1, none⟩) (Nat.le_refl _) _).setCell (p := ⟨w.heap.size, 2, none⟩) (Nat.le_refl _) _
      clear hK K
      refine wpAnyH_take (i := 6) (oi := { dst := some 3, op := Go.Op.assign (Go.Operand.tmp 97), type := 3, pos := "ref.go:216", after := #[{ on := 4, ground := Go.Ground.data }, { on := 5, ground := Go.Ground.chain }, { on := 0, ground := Go.Ground.phase }, { on := 1, ground := Go.Ground.phase }, { on := 2, ground := Go.Ground.phase }, { on := 3, ground := Go.Ground.phase }, { on := 4, ground := Go.Ground.phase }, { on := 5, ground := Go.Ground.phase }], guard := none }) (v := ?_) rfl (by kernel_rfl) (by kernel_rfl) (by kernel_rfl) (fun _ _ _ h => h) (Or.inl ⟨by rfl, ?_⟩) (by assumption) ?_
      rotate_left
      · intro w' hS; go_simp; (try with_reducible rfl)
      simp only [Act.put, List.setIfInBounds_toArray, List.set_cons_zero, List.set_cons_succ]
      refine wpAnyH_take (i := 7) (oi := { dst := some 4, op := Go.Op.assign (Go.Operand.const (Go.Value.int Go.IntKind.i64 41)), type := 3, pos := "ref.go:216", after := #[{ on := 6, ground := Go.Ground.chain }, { on := 0, ground := Go.Ground.phase }, { on := 1, ground := Go.Ground.phase }, { on := 2, ground := Go.Ground.phase }, { on := 3, ground := Go.Ground.phase }, { on := 4, ground := Go.Ground.phase }, { on := 5, ground := Go.Ground.phase }, { on := 6, ground := Go.Ground.phase }], guard := none }) (v := ?_) rfl (by kernel_rfl) (by kernel_rfl) (by kernel_rfl) (fun _ _ _ h => h) (Or.inl ⟨by rfl, ?_⟩) (by assumption) ?_
      rotate_left
      · intro w' hS; go_simp; (try with_reducible rfl)
      simp only [Act.put, List.setIfInBounds_toArray, List.set_cons_zero, List.set_cons_succ]
      refine wpAnyH_done (by kernel_rfl) ?_ _
      go_wp2_with fail
      refine bodyPost_ret (results_id2 rfl rfl (heap_set (heap_set (heap_set HJ0.out))) rfl) rfl ?_
      unfold PrQ
      rw [HPR.out]
      exact ⟨.slice none 0 0, .slice none 0 0, rfl, World.ownsRow_nil _ _ _ _, World.ownsRow_nil _ _ _ _, hH1.2⟩
    have hksI : ¬ (k : Int) < s.size := by omega
    have hksd : decide ((k : Int) < s.size) = false := decide_eq_false hksI
    have HIDP : Hid (idP s = some (L, R, false)) := by
      have h1 := HID.out.1
      rw [HID2.out] at h1
      exact h1.trans (if_pos (by omega))
    have HLS : Hid (L.length ≤ 100000 ∧ R.length ≤ 100000) := by
      have := id_byt HIDP.out
      show _ ∧ _
      obtain ⟨_, _, b3, b4⟩ := this
      omega
    have hls := HLS.out
    have i0 : z3.cell? ⟨ib, 0, none⟩ = some (.slice e1 L.length f1) := cell_at HP3.out.i rfl
    have i1 : z3.cell? ⟨ib, 1, none⟩ = some (.slice e2 R.length f2) := cell_at HP3.out.i rfl
    have i2 : z3.cell? ⟨ib, 2, none⟩ = some (.bool false) := cell_at HP3.out.i rfl
    have j0 := cell_at (j := 0) HP3.out.j rfl
    have j1 := cell_at (j := 1) HP3.out.j rfl
    have j2 := cell_at (j := 2) HP3.out.j rfl
    have jf : ∀ j, z3.frozen? ⟨w.heap.size, j, none⟩ = false := fun j => froz_of HP3.out.j
    have HBD : Hid (∀ nq, Below w.heap.size w (z3.drewN nq)) := fun nq => (HP3.out.step (dd_drewN HP3.out.d) or_drewN).b
    clear hks
    by_cases q1 : 400 < L.length
    · have q1I : (400 : Int) < L.length := by omega
      have q1d : decide ((400 : Int) < L.length) = true := decide_eq_true q1I
      have HPR0 : Hid (prS s = ([], [], false, 0, 6)) := by show _ = _; unfold prS; rw [if_neg (by omega), HIDP.out]; simp only; rw [if_pos (.inl q1)]
      go_upto_region 18 with fail
      go_quiet (fail)
      go_wp2_with fail
      refine bodyPost_ret (results_id2 rfl rfl (heap_set (heap_set (heap_set (show (z3.drewN nq).heap[w.heap.size]? = _ from HP3.out.j)))) rfl) rfl ?_
      unfold PrQ
      rw [HPR0.out]
      exact ⟨.slice none 0 0, .slice none 0 0, rfl, World.ownsRow_nil _ _ _ _, World.ownsRow_nil _ _ _ _, (((HBD.out _).setCell (p := ⟨w.heap.size, 0, none⟩) (Nat.le_refl _) _).setCell (p := ⟨w.heap.size, 1, none⟩) (Nat.le_refl _) _).setCell (p := ⟨w.heap.size, 2, none⟩) (Nat.le_refl _) _⟩
    have q1I : ¬ (400 : Int) < L.length := by omega
    have q1d : decide ((400 : Int) < L.length) = false := decide_eq_false q1I
    by_cases q2 : 400 < R.length
    · have q2I : (400 : Int) < R.length := by omega
      have q2d : decide ((400 : Int) < R.length) = true := decide_eq_true q2I
      have HPR0 : Hid (prS s = ([], [], false, 0, 6)) := by show _ = _; unfold prS; rw [if_neg (by omega), HIDP.out]; simp only; rw [if_pos (.inr q2)]
      go_upto_region 18 with fail
      go_quiet (fail)
      go_wp2_with fail
      refine bodyPost_ret (results_id2 rfl rfl (heap_set (heap_set (heap_set (show (z3.drewN nq).heap[w.heap.size]? = _ from HP3.out.j)))) rfl) rfl ?_
      unfold PrQ
      rw [HPR0.out]
      exact ⟨.slice none 0 0, .slice none 0 0, rfl, World.ownsRow_nil _ _ _ _, World.ownsRow_nil _ _ _ _, (((HBD.out _).setCell (p := ⟨w.heap.size, 0, none⟩) (Nat.le_refl _) _).setCell (p := ⟨w.heap.size, 1, none⟩) (Nat.le_refl _) _).setCell (p := ⟨w.heap.size, 2, none⟩) (Nat.le_refl _) _⟩
    have q2I : ¬ (400 : Int) < R.length := by omega
    have q2d : decide ((400 : Int) < R.length) = false := decide_eq_false q2I
    have HPR0 : Hid (prS s = (L, R, false, 0, 0)) := by show _ = _; unfold prS; rw [if_neg (by omega), HIDP.out]; simp only; rw [if_neg (by omega)]
    go_upto_region 18 with fail
    go_quiet (fail)
    go_wp2_with fail
    refine bodyPost_ret (results_id2 rfl rfl (heap_set (heap_set (heap_set (show (z3.drewN nq).heap[w.heap.size]? = _ from HP3.out.j)))) rfl) rfl ?_
    unfold PrQ
    rw [HPR0.out]
    have hJ : ∀ b, w.heap.size + 2 ≤ b → ∀ (y : World) o v, (y.setCell ⟨w.heap.size, o, none⟩ v).heap[b]? = y.heap[b]? := fun b hb y o v => heap_set_other (by omega)
    refine ⟨.slice e1 L.length f1, .slice e2 R.length f2, rfl, own_mono (own_keep HP3.out.ol (fun b cur hb hc => ?_)) (by omega), own_mono (own_keep HP3.out.orr (fun b cur hb hc => ?_)) (by omega), (((HBD.out _).setCell (p := ⟨w.heap.size, 0, none⟩) (Nat.le_refl _) _).setCell (p := ⟨w.heap.size, 1, none⟩) (Nat.le_refl _) _).setCell (p := ⟨w.heap.size, 2, none⟩) (Nat.le_refl _) _⟩
    · have hb1 := (own_blk HP3.out.ol hb).1
      rw [hJ _ hb1, hJ _ hb1, hJ _ hb1]
      rfl
    · have hb1 := (own_blk HP3.out.orr hb).1
      rw [hJ _ hb1, hJ _ hb1, hJ _ hb1]
      rfl
  have h61I : ¬ (c : Int) = 61 := by omega
  have h61b : ((c : Int) == 61) = false := beq_eq_false_iff_ne.2 h61I
  have h61d : decide ((c : Int) = 61) = false := decide_eq_false h61I
  by_cases h60 : c = 60
  rotate_left
  · have h60I : ¬ (c : Int) = 60 := by omega
    have h60b : ((c : Int) == 60) = false := beq_eq_false_iff_ne.2 h60I
    have h60d : decide ((c : Int) = 60) = false := decide_eq_false h60I
    have HPR0 : Hid (prS s = ([], [], false, j, 41)) := by
      have h1 := HIT.out.2.2.2 h61 h60
      exact pr_none hs h1.1 h1.2
    clear HIT hne h60 h61
    go_wp2_with fail
    refine Calls.mono HNX0.out ?_
    rintro e w5 ⟨rfl, hd5, hon5⟩
    have HP5 := HP4.out.step hd5 hon5
    obtain ⟨w6, hw6⟩ : ∃ w6, w6 = w5.setCell ⟨w.heap.size + 1, 2, none⟩ (.bool true) := ⟨_, rfl⟩
    have HW6 : Hid (w6 = w5.setCell ⟨w.heap.size + 1, 2, none⟩ (.bool true)) := hw6
    have HP6 : Hid (PS w w6 s ib j true (.slice e1 L.length f1) (.slice none 0 0) false L []) := by
      show PS _ _ _ _ _ _ _ _ _ _ _
      rw [hw6]
      exact HP5.step hd5.spoilt or_set
    have t3 : w5.cell? ⟨w.heap.size + 1, 2, none⟩ = some (.bool false) := cell_at hd5.box rfl
    have tf : ∀ j, w5.frozen? ⟨w.heap.size + 1, j, none⟩ = false := fun j => froz_of hd5.box
    clear hw6 HP5 hd5 hon5 t2
    go_upto_region 14 with fail
    rw [← HW6.out]
    clear t3 tf HW6
    have HP := HP6
    have HPR := HPR0
    have HPB : Hid (∀ nq, Below w.heap.size w (w6.drewN nq).drew) := fun nq => (HP.out.step (dd_drewN HP.out.d) or_drewN).b.drew
    have t2 : w6.cell? ⟨w.heap.size + 1, 2, none⟩ = some (.bool true) := cell_at HP.out.d.box rfl
    have t1 : w6.cell? ⟨w.heap.size + 1, 1, none⟩ = some (.int .i64 (j : Nat)) := cell_at HP.out.d.box rfl
    go_upto_region 18 with fail
    go_quiet (fail)
    go_upto_region 21 with fail
    refine wp_region_held_drew (S := fun z => z.heap[w.heap.size + 1]? = some (.cells #[.string s, .int .i64 (j : Nat), .bool true] 76 (0, 0)) ∧ Below w.heap.size w z) (by kernel_rfl) ⟨HP.out.d.box, HPB.out nq⟩ (fun hH0 => ?_)
    generalize hyy : World.drew _ = y0 at hH0 ⊢
    have HJ0 : Hid (y0.heap[w.heap.size]? = some (.cells #[.slice none 0 0, .slice none 0 0, .bool false] 24 (0, 0))) := by show _ = _; rw [← hyy]; exact HP.out.j
    have j0 := cell_at (j := 0) HJ0.out rfl
    have j1 := cell_at (j := 1) HJ0.out rfl
    have j2 := cell_at (j := 2) HJ0.out rfl
    have jf : ∀ j, y0.frozen? ⟨w.heap.size, j, none⟩ = false := fun j => froz_of HJ0.out
    clear hyy t2
    refine wpAnyH_take (i := 0) (oi := { dst := some 93, op := Go.Op.build 24 #[], type := 24, pos := "ref.go:216", after := #[], guard := none }) (v := ?_) rfl (by kernel_rfl) (by kernel_rfl) (by kernel_rfl) (fun _ _ _ h => h) (Or.inl ⟨by rfl, ?_⟩) (by assumption) ?_
    rotate_left
    · intro w' hS; go_simp; (try with_reducible rfl)
    simp only [Act.put, List.setIfInBounds_toArray, List.set_cons_zero, List.set_cons_succ]
    refine wpAnyH_take (i := 1) (oi := { dst := some 94, op := Go.Op.move (Go.Operand.tmp 5), type := 74, pos := "ref.go:216", after := #[{ on := 5, ground := Go.Ground.gcOnly Go.Departure.lateStores }], guard := none }) (v := ?_) rfl (by kernel_rfl) (by kernel_rfl) (by kernel_rfl) (fun _ _ _ h => h) (Or.inl ⟨by rfl, ?_⟩) (by assumption) ?_
    rotate_left
    · intro w' hS; go_simp; (try with_reducible rfl)
    simp only [Act.put, List.setIfInBounds_toArray, List.set_cons_zero, List.set_cons_succ]
    refine wpAnyH_take (i := 2) (oi := { dst := some 95, op := Go.Op.nilCheck (Go.Operand.tmp 94), type := 0, pos := "ref.go:216", after := #[{ on := 1, ground := Go.Ground.data }, { on := 5, ground := Go.Ground.gcOnly Go.Departure.lateStores }], guard := none }) (v := ?_) rfl (by kernel_rfl) (by kernel_rfl) (by kernel_rfl) (fun _ _ _ h => h) (Or.inl ⟨by rfl, ?_⟩) (by assumption) ?_
    rotate_left
    · intro w' hS; go_simp; (try with_reducible rfl)
    simp only [Act.put, List.setIfInBounds_toArray, List.set_cons_zero, List.set_cons_succ]
    refine wpAnyH_take (i := 3) (oi := { dst := some 96, op := Go.Op.fieldAddr 76 (Go.Operand.tmp 95) 1, type := 0, pos := "ref.go:216", after := #[{ on := 2, ground := Go.Ground.data }, { on := 5, ground := Go.Ground.gcOnly Go.Departure.lateStores }], guard := none }) (v := ?_) rfl (by kernel_rfl) (by kernel_rfl) (by kernel_rfl) (fun _ _ _ h => h) (Or.inl ⟨by rfl, ?_⟩) (by assumption) ?_
    rotate_left
    · intro w' hS; go_simp; (try with_reducible rfl)
    simp only [Act.put, List.setIfInBounds_toArray, List.set_cons_zero, List.set_cons_succ]
    refine wpAnyH_take (i := 4) (oi := { dst := some 97, op := Go.Op.load 3 (Go.Operand.tmp 96), type := 3, pos := "ref.go:216", after := #[{ on := 3, ground := Go.Ground.data }, { on := 5, ground := Go.Ground.gcOnly Go.Departure.lateStores }], guard := none }) (v := .int .i64 (j : Nat)) rfl (by kernel_rfl) (by kernel_rfl) (by kernel_rfl) (fun _ _ _ h => h) (Or.inl ⟨by rfl, ?_⟩) (by assumption) ?_
    · intro w' hS; have hz := cell_at (j := 1) hS.1 rfl; go_simp
    simp only [Act.put, List.setIfInBounds_toArray, List.set_cons_zero, List.set_cons_succ]
    refine wpAnyH_ready (rs := [5]) (by kernel_rfl) (by simp) ?_
    refine AllReadyH.cons rfl (fun K hK => ?_) AllReadyH.nil
    go_simp
    refine hK.out _ _ ⟨?_, ?_⟩ (fun hH1 => ?_)
    · rw [heap_set_other (by omega), heap_set_other (by omega), heap_set_other (by omega)]; exact hH0.1
    · exact ((hH0.2.setCell (p := ⟨w.heap.size, 0, none⟩) (Nat.le_refl _) _).setCell (p := ⟨w.heap.size, 1, none⟩) (Nat.le_refl _) _).setCell (p := ⟨w.heap.size, 2, none⟩) (Nat.le_refl _) _
    clear hK K
    refine wpAnyH_take (i := 6) (oi := { dst := some 3, op := Go.Op.assign (Go.Operand.tmp 97), type := 3, pos := "ref.go:216", after := #[{ on := 4, ground := Go.Ground.data }, { on := 5, ground := Go.Ground.chain }, { on := 0, ground := Go.Ground.phase }, { on := 1, ground := Go.Ground.phase }, { on := 2, ground := Go.Ground.phase }, { on := 3, ground := Go.Ground.phase }, { on := 4, ground := Go.Ground.phase }, { on := 5, ground := Go.Ground.phase }], guard := none }) (v := ?_) rfl (by kernel_rfl) (by kernel_rfl) (by kernel_rfl) (fun _ _ _ h => h) (Or.inl ⟨by rfl, ?_⟩) (by assumption) ?_
    rotate_left
    · intro w' hS; go_simp; (try with_reducible rfl)
    simp only [Act.put, List.setIfInBounds_toArray, List.set_cons_zero, List.set_cons_succ]
    refine wpAnyH_take (i := 7) (oi := { dst := some 4, op := Go.Op.assign (Go.Operand.const (Go.Value.int Go.IntKind.i64 41)), type := 3, pos := "ref.go:216", after := #[{ on := 6, ground := Go.Ground.chain }, { on := 0, ground := Go.Ground.phase }, { on := 1, ground := Go.Ground.phase }, { on := 2, ground := Go.Ground.phase }, { on := 3, ground := Go.Ground.phase }, { on := 4, ground := Go.Ground.phase }, { on := 5, ground := Go.Ground.phase }, { on := 6, ground := Go.Ground.phase }], guard := none }) (v := ?_) rfl (by kernel_rfl) (by kernel_rfl) (by kernel_rfl) (fun _ _ _ h => h) (Or.inl ⟨by rfl, ?_⟩) (by assumption) ?_
    rotate_left
    · intro w' hS; go_simp; (try with_reducible rfl)
    simp only [Act.put, List.setIfInBounds_toArray, List.set_cons_zero, List.set_cons_succ]
    refine wpAnyH_done (by kernel_rfl) ?_ _
    go_wp2_with fail
    refine bodyPost_ret (results_id2 rfl rfl (heap_set (heap_set (heap_set HJ0.out))) rfl) rfl ?_
    unfold PrQ
    rw [HPR.out]
    exact ⟨.slice none 0 0, .slice none 0 0, rfl, World.ownsRow_nil _ _ _ _, World.ownsRow_nil _ _ _ _, hH1.2⟩
  subst h60
  have hjl := (hne (by decide)).1
  clear hne h61
  go_wp2_with fail
  refine Calls.mono HNX0.out ?_
  rintro e w5 ⟨rfl, hd5, hon5⟩
  have HP5 := HP4.out.step hd5 hon5
  obtain ⟨w6, hw6⟩ : ∃ w6, w6 = w5.setCell ⟨w.heap.size + 1, 1, none⟩ (.int .i64 ((j + 1 : Nat) : Int)) := ⟨_, rfl⟩
  have HW6 : Hid (w6 = w5.setCell ⟨w.heap.size + 1, 1, none⟩ (.int .i64 ((j : Int) + 1))) := hw6
  have HP6 : Hid (PS w w6 s ib (j + 1) false (.slice e1 L.length f1) (.slice none 0 0) false L []) := by
    show PS _ _ _ _ _ _ _ _ _ _ _
    rw [hw6]
    exact HP5.step (hd5.move hjl) or_set
  have HTK : Hid (Calls Try.prog 32 #[.pointer (some ⟨w.heap.size + 1, 0, none⟩), .int .u8 61] w6 fun e w' => e = .returned (.tuple #[]) ∧ TkD w6 (w.heap.size + 1) s (j + 1) 61 w') := rtake_any HP6.out.d hs 61
  have t1 : w5.cell? ⟨w.heap.size + 1, 1, none⟩ = some (.int .i64 (j : Nat)) := cell_at hd5.box rfl
  have tf : ∀ j, w5.frozen? ⟨w.heap.size + 1, j, none⟩ = false := fun j => froz_of hd5.box
  have hwj : IntKind.i64.wrap ((j : Int) + 1) = ((j + 1 : Nat) : Int) := by rw [IntKind.wrap_i64]; omega
  clear hw6 HP5 hd5 hon5 t2
  go_upto_region 12 with fail
  rw [← HW6.out]
  clear t1 tf HW6 hwj
  go_wp2_with fail
  refine Calls.mono HTK.out ?_
  rintro e w7 ⟨rfl, htk⟩
  unfold TkD at htk
  have HP7 := HP6.out.step htk.1 htk.2
  have hi7 := HP7.i
  obtain ⟨w8, hw8⟩ : ∃ w8, w8 = w7.setCell ⟨ib, 2, none⟩ (.bool true) := ⟨_, rfl⟩
  have HW8 : Hid (w8 = w7.setCell ⟨ib, 2, none⟩ (.bool true)) := hw8
  have i2 : w7.cell? ⟨ib, 2, none⟩ = some (.bool false) := cell_at hi7 rfl
  have tf : ∀ j, w7.frozen? ⟨ib, j, none⟩ = false := fun j => froz_of hi7
  have HP8 : Hid (PS w w8 s ib (if isB s 61 (j + 1) = true then j + 1 + 1 else j + 1) (if isB s 61 (j + 1) = true then false else true) (.slice e1 L.length f1) (.slice none 0 0) true L []) := by
    show PS _ _ _ _ _ _ _ _ _ _ _
    rw [hw8]
    exact HP7.order
  clear hw8 HP7 hi7 htk
  go_upto_region 14 with fail
  rw [← HW8.out]
  clear i2 tf HW8
  by_cases hb : isB s 61 (j + 1) = true
  · rw [if_pos hb, if_pos hb] at HP8
    have HID : Hid (idM s L true (j + 1 + 1)) := HIT.out.2.1 (by first | rfl | trivial) hb
    clear HIT hb
    have HSC : Hid (Calls Try.prog 30 #[.pointer (some ⟨w.heap.size + 1, 0, none⟩)] w8 (PdQ (pwsP s (s.size + 1) (j + 1 + 1) []) (pwsE s (s.size + 1) (j + 1 + 1) []) s (j + 1 + 1) (w.heap.size + 1) w8)) := rside_any hs (s.size + 1) w8 (j + 1 + 1) HP8.out.d (by omega)
    have t2 : w8.cell? ⟨w.heap.size + 1, 2, none⟩ = some (.bool false) := cell_at HP8.out.d.box rfl
    go_wp2_with fail
    refine Calls.mono HSC.out ?_
    rintro e z1 ⟨u2, R, k, bad2, rfl, hor2, hd2, hon2, hpd2⟩
    obtain ⟨e2, f2, rfl⟩ := own_shape hor2
    have HP1 := HP8.out.step hd2 hon2
    have HI1 : Hid (z1.heap[ib]? = some (.cells #[.slice e1 L.length f1, .slice none 0 0, .bool true] 24 (0, 0))) := HP1.i
    obtain ⟨z2, hz2⟩ : ∃ z2, z2 = z1.setCell ⟨ib, 1, none⟩ (.slice e2 R.length f2) := ⟨_, rfl⟩
    have HZ2 : Hid (z2 = z1.setCell ⟨ib, 1, none⟩ (.slice e2 R.length f2)) := hz2
    have HP2 : Hid (PS w z2 s ib k bad2 (.slice e1 L.length f1) (.slice e2 R.length f2) true L R) := by
      show PS _ _ _ _ _ _ _ _ _ _ _
      rw [hz2]
      exact HP1.right (own_mono hor2 HP8.out.base)
    have i1 : z1.cell? ⟨ib, 1, none⟩ = some (.slice none 0 0) := cell_at HI1.out rfl
    have jf : ∀ j, z1.frozen? ⟨ib, j, none⟩ = false := fun j => froz_of HI1.out
    have hkle := hd2.le
    clear hz2 HP1 hor2 hd2 hon2 t2
    go_upto_region 16 with fail
    rw [← HZ2.out]
    clear i1 jf HI1 HZ2
    rcases hpd2 with ⟨rfl, hok2⟩ | ⟨rfl, hok2, her2, -⟩
    rotate_left
    · have HPR0 : Hid (prS s = ([], [], false, k, 41)) := by
        have h1 := HID.out
        unfold idM at h1
        rw [hok2] at h1
        exact pr_none hs h1.1 (h1.2.trans her2)
      clear hok2 her2
      have HP := HP2
      have HPR := HPR0
      have HPB : Hid (∀ nq, Below w.heap.size w (z2.drewN nq).drew) := fun nq => (HP.out.step (dd_drewN HP.out.d) or_drewN).b.drew
      have t2 : z2.cell? ⟨w.heap.size + 1, 2, none⟩ = some (.bool true) := cell_at HP.out.d.box rfl
      have t1 : z2.cell? ⟨w.heap.size + 1, 1, none⟩ = some (.int .i64 (k : Nat)) := cell_at HP.out.d.box rfl
      go_upto_region 18 with fail
      go_quiet (fail)
      go_upto_region 21 with fail
      refine wp_region_held_drew (S := fun z => z.heap[w.heap.size + 1]? = some (.cells #[.string s, .int .i64 (k : Nat), .bool true] 76 (0, 0)) ∧ Below w.heap.size w z) (by kernel_rfl) ⟨HP.out.d.box, HPB.out nq⟩ (fun hH0 => ?_)
      generalize hyy : World.drew _ = y0 at hH0 ⊢
      have HJ0 : Hid (y0.heap[w.heap.size]? = some (.cells #[.slice none 0 0, .slice none 0 0, .bool false] 24 (0, 0))) := by show _ = _; rw [← hyy]; exact HP.out.j
      have j0 := cell_at (j := 0) HJ0.out rfl
      have j1 := cell_at (j := 1) HJ0.out rfl
      have j2 := cell_at (j := 2) HJ0.out rfl
      have jf : ∀ j, y0.frozen? ⟨w.heap.size, j, none⟩ = false := fun j => froz_of HJ0.out
      clear hyy t2
      refine wpAnyH_take (i := 0) (oi := { dst := some 93, op := Go.Op.build 24 #[], type := 24, pos := "ref.go:216", after := #[], guard := none }) (v := ?_) rfl (by kernel_rfl) (by kernel_rfl) (by kernel_rfl) (fun _ _ _ h => h) (Or.inl ⟨by rfl, ?_⟩) (by assumption) ?_
      rotate_left
      · intro w' hS; go_simp; (try with_reducible rfl)
      simp only [Act.put, List.setIfInBounds_toArray, List.set_cons_zero, List.set_cons_succ]
      refine wpAnyH_take (i := 1) (oi := { dst := some 94, op := Go.Op.move (Go.Operand.tmp 5), type := 74, pos := "ref.go:216", after := #[{ on := 5, ground := Go.Ground.gcOnly Go.Departure.lateStores }], guard := none }) (v := ?_) rfl (by kernel_rfl) (by kernel_rfl) (by kernel_rfl) (fun _ _ _ h => h) (Or.inl ⟨by rfl, ?_⟩) (by assumption) ?_
      rotate_left
      · intro w' hS; go_simp; (try with_reducible rfl)
      simp only [Act.put, List.setIfInBounds_toArray, List.set_cons_zero, List.set_cons_succ]
      refine wpAnyH_take (i := 2) (oi := { dst := some 95, op := Go.Op.nilCheck (Go.Operand.tmp 94), type := 0, pos := "ref.go:216", after := #[{ on := 1, ground := Go.Ground.data }, { on := 5, ground := Go.Ground.gcOnly Go.Departure.lateStores }], guard := none }) (v := ?_) rfl (by kernel_rfl) (by kernel_rfl) (by kernel_rfl) (fun _ _ _ h => h) (Or.inl ⟨by rfl, ?_⟩) (by assumption) ?_
      rotate_left
      · intro w' hS; go_simp; (try with_reducible rfl)
      simp only [Act.put, List.setIfInBounds_toArray, List.set_cons_zero, List.set_cons_succ]
      refine wpAnyH_take (i := 3) (oi := { dst := some 96, op := Go.Op.fieldAddr 76 (Go.Operand.tmp 95) 1, type := 0, pos := "ref.go:216", after := #[{ on := 2, ground := Go.Ground.data }, { on := 5, ground := Go.Ground.gcOnly Go.Departure.lateStores }], guard := none }) (v := ?_) rfl (by kernel_rfl) (by kernel_rfl) (by kernel_rfl) (fun _ _ _ h => h) (Or.inl ⟨by rfl, ?_⟩) (by assumption) ?_
      rotate_left
      · intro w' hS; go_simp; (try with_reducible rfl)
      simp only [Act.put, List.setIfInBounds_toArray, List.set_cons_zero, List.set_cons_succ]
      refine wpAnyH_take (i := 4) (oi := { dst := some 97, op := Go.Op.load 3 (Go.Operand.tmp 96), type := 3, pos := "ref.go:216", after := #[{ on := 3, ground := Go.Ground.data }, { on := 5, ground := Go.Ground.gcOnly Go.Departure.lateStores }], guard := none }) (v := .int .i64 (k : Nat)) rfl (by kernel_rfl) (by kernel_rfl) (by kernel_rfl) (fun _ _ _ h => h) (Or.inl ⟨by rfl, ?_⟩) (by assumption) ?_
      · intro w' hS; have hz := cell_at (j := 1) hS.1 rfl; go_simp
      simp only [Act.put, List.setIfInBounds_toArray, List.set_cons_zero, List.set_cons_succ]
      refine wpAnyH_ready (rs := [5]) (by kernel_rfl) (by simp) ?_
      refine AllReadyH.cons rfl (fun K hK => ?_) AllReadyH.nil
      go_simp
      refine hK.out _ _ ⟨?_, ?_⟩ (fun hH1 => ?_)
      · rw [heap_set_other (by omega), heap_set_other (by omega), heap_set_other (by omega)]; exact hH0.1
      · exact ((hH0.2.setCell (p := ⟨w.heap.size, 0, none⟩) (Nat.le_refl _) _).setCell (p := ⟨w.heap.size, 1, none⟩) (Nat.le_refl _) _).setCell (p := ⟨w.heap.size, 2, none⟩) (Nat.le_refl _) _
      clear hK K
      refine wpAnyH_take (i := 6) (oi := { dst := some 3, op := Go.Op.assign (Go.Operand.tmp 97), type := 3, pos := "ref.go:216", after := #[{ on := 4, ground := Go.Ground.data }, { on := 5, ground := Go.Ground.chain }, { on := 0, ground := Go.Ground.phase }, { on := 1, ground := Go.Ground.phase }, { on := 2, ground := Go.Ground.phase }, { on := 3, ground := Go.Ground.phase }, { on := 4, ground := Go.Ground.phase }, { on := 5, ground := Go.Ground.phase }], guard := none }) (v := ?_) rfl (by kernel_rfl) (by kernel_rfl) (by kernel_rfl) (fun _ _ _ h => h) (Or.inl ⟨by rfl, ?_⟩) (by assumption) ?_
      rotate_left
      · intro w' hS; go_simp; (try with_reducible rfl)
      simp only [Act.put, List.setIfInBounds_toArray, List.set_cons_zero, List.set_cons_succ]
      refine wpAnyH_take (i := 7) (oi := { dst := some 4, op := Go.Op.assign (Go.Operand.const (Go.Value.int Go.IntKind.i64 41)), type := 3, pos := "ref.go:216", after := #[{ on := 6, ground := Go.Ground.chain }, { on := 0, ground := Go.Ground.phase }, { on := 1, ground := Go.Ground.phase }, { on := 2, ground := Go.Ground.phase }, { on := 3, ground := Go.Ground.phase }, { on := 4, ground := Go.Ground.phase }, { on := 5, ground := Go.Ground.phase }, { on := 6, ground := Go.Ground.phase }], guard := none }) (v := ?_) rfl (by kernel_rfl) (by kernel_rfl) (by kernel_rfl) (fun _ _ _ h => h) (Or.inl ⟨by rfl, ?_⟩) (by assumption) ?_
      rotate_left
      · intro w' hS; go_simp; (try with_reducible rfl)
      simp only [Act.put, List.setIfInBounds_toArray, List.set_cons_zero, List.set_cons_succ]
      refine wpAnyH_done (by kernel_rfl) ?_ _
      go_wp2_with fail
      refine bodyPost_ret (results_id2 rfl rfl (heap_set (heap_set (heap_set HJ0.out))) rfl) rfl ?_
      unfold PrQ
      rw [HPR.out]
      exact ⟨.slice none 0 0, .slice none 0 0, rfl, World.ownsRow_nil _ _ _ _, World.ownsRow_nil _ _ _ _, hH1.2⟩
    have hkk := pws_skip hok2
    have HNX : Hid (Calls Try.prog 31 #[.pointer (some ⟨w.heap.size + 1, 0, none⟩)] z2 fun e w' => e = .returned (.int .u8 (nxB s k : Nat)) ∧ DD w' (w.heap.size + 1) s k false ∧ OR (w.heap.size + 1) z2 w') := by
      have := rnext_any HP2.out.d hs
      rw [hkk] at this
      exact this
    have HID2 : Hid (pwsP s (s.size + 1) (j + 1 + 1) [] = some (k, R)) := hok2
    have t2 : z2.cell? ⟨w.heap.size + 1, 2, none⟩ = some (.bool false) := cell_at HP2.out.d.box rfl
    have hend := nx_end (s := s) (i := k)
    have hne := nx_ne (s := s) (i := k) hkle
    rw [hkk] at hend hne
    obtain ⟨c2, hc2⟩ : ∃ c, nxB s k = c := ⟨_, rfl⟩
    rw [hc2] at HNX hend hne
    clear hok2 hkk hc2
    by_cases hz : c2 = 0
    rotate_left
    · have hzI : ¬ (c2 : Int) = 0 := by omega
      have hzb : ((c2 : Int) != 0) = true := by rw [bne_iff_ne]; exact hzI
      have hzd : decide ((c2 : Int) ≠ 0) = true := decide_eq_true hzI
      have HPR0 : Hid (prS s = ([], [], false, k, 41)) := by
        have h1 := HID.out
        unfold idM at h1
        rw [HID2.out] at h1
        have hks := (hne hz).1
        exact pr_none hs (h1.1.trans (if_neg (by omega))) (h1.2.trans (if_neg (by omega)))
      clear hz hend hne
      go_wp2_with fail
      refine Calls.mono HNX.out ?_
      rintro e z3 ⟨rfl, hd3, hon3⟩
      have HP3 := HP2.out.step hd3 hon3
      obtain ⟨z4, hz4⟩ : ∃ z4, z4 = z3.setCell ⟨w.heap.size + 1, 2, none⟩ (.bool true) := ⟨_, rfl⟩
      have HZ4 : Hid (z4 = z3.setCell ⟨w.heap.size + 1, 2, none⟩ (.bool true)) := hz4
      have HP4 : Hid (PS w z4 s ib k true (.slice e1 L.length f1) (.slice e2 R.length f2) true L R) := by
        show PS _ _ _ _ _ _ _ _ _ _ _
        rw [hz4]
        exact HP3.step hd3.spoilt or_set
      have u2' : z3.cell? ⟨w.heap.size + 1, 2, none⟩ = some (.bool false) := cell_at hd3.box rfl
      have uf : ∀ j, z3.frozen? ⟨w.heap.size + 1, j, none⟩ = false := fun j => froz_of hd3.box
      clear hz4 HP3 hd3 hon3 t2
      go_upto_region 18 with fail
      rw [← HZ4.out]
      clear u2' uf HZ4
      have HP := HP4
      have HPR := HPR0
      have HPB : Hid (∀ nq, Below w.heap.size w (z4.drewN nq).drew) := fun nq => (HP.out.step (dd_drewN HP.out.d) or_drewN).b.drew
      have t2 : z4.cell? ⟨w.heap.size + 1, 2, none⟩ = some (.bool true) := cell_at HP.out.d.box rfl
      have t1 : z4.cell? ⟨w.heap.size + 1, 1, none⟩ = some (.int .i64 (k : Nat)) := cell_at HP.out.d.box rfl
      go_upto_region 18 with fail
      go_quiet (fail)
      go_upto_region 21 with fail
      refine wp_region_held_drew (S := fun z => z.heap[w.heap.size + 1]? = some (.cells #[.string s, .int .i64 (k : Nat), .bool true] 76 (0, 0)) ∧ Below w.heap.size w z) (by kernel_rfl) ⟨HP.out.d.box, HPB.out nq⟩ (fun hH0 => ?_)
      generalize hyy : World.drew _ = y0 at hH0 ⊢
      have HJ0 : Hid (y0.heap[w.heap.size]? = some (.cells #[.slice none 0 0, .slice none 0 0, .bool false] 24 (0, 0))) := by show _ = _; rw [← hyy]; exact HP.out.j
      have j0 := cell_at (j := 0) HJ0.out rfl
      have j1 := cell_at (j := 1) HJ0.out rfl
      have j2 := cell_at (j := 2) HJ0.out rfl
      have jf : ∀ j, y0.frozen? ⟨w.heap.size, j, none⟩ = false := fun j => froz_of HJ0.out
      clear hyy t2
      refine wpAnyH_take (i := 0) (oi := { dst := some 93, op := Go.Op.build 24 #[], type := 24, pos := "ref.go:216", after := #[], guard := none }) (v := ?_) rfl (by kernel_rfl) (by kernel_rfl) (by kernel_rfl) (fun _ _ _ h => h) (Or.inl ⟨by rfl, ?_⟩) (by assumption) ?_
      rotate_left
      · intro w' hS; go_simp; (try with_reducible rfl)
      simp only [Act.put, List.setIfInBounds_toArray, List.set_cons_zero, List.set_cons_succ]
      refine wpAnyH_take (i := 1) (oi := { dst := some 94, op := Go.Op.move (Go.Operand.tmp 5), type := 74, pos := "ref.go:216", after := #[{ on := 5, ground := Go.Ground.gcOnly Go.Departure.lateStores }], guard := none }) (v := ?_) rfl (by kernel_rfl) (by kernel_rfl) (by kernel_rfl) (fun _ _ _ h => h) (Or.inl ⟨by rfl, ?_⟩) (by assumption) ?_
      rotate_left
      · intro w' hS; go_simp; (try with_reducible rfl)
      simp only [Act.put, List.setIfInBounds_toArray, List.set_cons_zero, List.set_cons_succ]
      refine wpAnyH_take (i := 2) (oi := { dst := some 95, op := Go.Op.nilCheck (Go.Operand.tmp 94), type := 0, pos := "ref.go:216", after := #[{ on := 1, ground := Go.Ground.data }, { on := 5, ground := Go.Ground.gcOnly Go.Departure.lateStores }], guard := none }) (v := ?_) rfl (by kernel_rfl) (by kernel_rfl) (by kernel_rfl) (fun _ _ _ h => h) (Or.inl ⟨by rfl, ?_⟩) (by assumption) ?_
      rotate_left
      · intro w' hS; go_simp; (try with_reducible rfl)
      simp only [Act.put, List.setIfInBounds_toArray, List.set_cons_zero, List.set_cons_succ]
      refine wpAnyH_take (i := 3) (oi := { dst := some 96, op := Go.Op.fieldAddr 76 (Go.Operand.tmp 95) 1, type := 0, pos := "ref.go:216", after := #[{ on := 2, ground := Go.Ground.data }, { on := 5, ground := Go.Ground.gcOnly Go.Departure.lateStores }], guard := none }) (v := ?_) rfl (by kernel_rfl) (by kernel_rfl) (by kernel_rfl) (fun _ _ _ h => h) (Or.inl ⟨by rfl, ?_⟩) (by assumption) ?_
      rotate_left
      · intro w' hS; go_simp; (try with_reducible rfl)
      simp only [Act.put, List.setIfInBounds_toArray, List.set_cons_zero, List.set_cons_succ]
      refine wpAnyH_take (i := 4) (oi := { dst := some 97, op := Go.Op.load 3 (Go.Operand.tmp 96), type := 3, pos := "ref.go:216", after := #[{ on := 3, ground := Go.Ground.data }, { on := 5, ground := Go.Ground.gcOnly Go.Departure.lateStores }], guard := none }) (v := .int .i64 (k : Nat)) rfl (by kernel_rfl) (by kernel_rfl) (by kernel_rfl) (fun _ _ _ h => h) (Or.inl ⟨by rfl, ?_⟩) (by assumption) ?_
      · intro w' hS; have hz := cell_at (j := 1) hS.1 rfl; go_simp
      simp only [Act.put, List.setIfInBounds_toArray, List.set_cons_zero, List.set_cons_succ]
      refine wpAnyH_ready (rs := [5]) (by kernel_rfl) (by simp) ?_
      refine AllReadyH.cons rfl (fun K hK => ?_) AllReadyH.nil
      go_simp
      refine hK.out _ _ ⟨?_, ?_⟩ (fun hH1 => ?_)
      · rw [heap_set_other (by omega), heap_set_other (by omega), heap_set_other (by omega)]; exact hH0.1
      · exact ((hH0.2.setCell (p := ⟨w.heap.size, 0, none⟩) (Nat.le_refl _) _).setCell (p := ⟨w.heap.size, 1, none⟩) (Nat.le_refl _) _).setCell (p := ⟨w.heap.size, 2, none⟩) (Nat.le_refl _) _
      clear hK K
      refine wpAnyH_take (i := 6) (oi := { dst := some 3, op := Go.Op.assign (Go.Operand.tmp 97), type := 3, pos := "ref.go:216", after := #[{ on := 4, ground := Go.Ground.data }, { on := 5, ground := Go.Ground.chain }, { on := 0, ground := Go.Ground.phase }, { on := 1, ground := Go.Ground.phase }, { on := 2, ground := Go.Ground.phase }, { on := 3, ground := Go.Ground.phase }, { on := 4, ground := Go.Ground.phase }, { on := 5, ground := Go.Ground.phase }], guard := none }) (v := ?_) rfl (by kernel_rfl) (by kernel_rfl) (by kernel_rfl) (fun _ _ _ h => h) (Or.inl ⟨by rfl, ?_⟩) (by assumption) ?_
      rotate_left
      · intro w' hS; go_simp; (try with_reducible rfl)
      simp only [Act.put, List.setIfInBounds_toArray, List.set_cons_zero, List.set_cons_succ]
      refine wpAnyH_take (i := 7) (oi := { dst := some 4, op := Go.Op.assign (Go.Operand.const (Go.Value.int Go.IntKind.i64 41)), type := 3, pos := "ref.go:216", after := #[{ on := 6, ground := Go.Ground.chain }, { on := 0, ground := Go.Ground.phase }, { on := 1, ground := Go.Ground.phase }, { on := 2, ground := Go.Ground.phase }, { on := 3, ground := Go.Ground.phase }, { on := 4, ground := Go.Ground.phase }, { on := 5, ground := Go.Ground.phase }, { on := 6, ground := Go.Ground.phase }], guard := none }) (v := ?_) rfl (by kernel_rfl) (by kernel_rfl) (by kernel_rfl) (fun _ _ _ h => h) (Or.inl ⟨by rfl, ?_⟩) (by assumption) ?_
      rotate_left
      · intro w' hS; go_simp; (try with_reducible rfl)
      simp only [Act.put, List.setIfInBounds_toArray, List.set_cons_zero, List.set_cons_succ]
      refine wpAnyH_done (by kernel_rfl) ?_ _
      go_wp2_with fail
      refine bodyPost_ret (results_id2 rfl rfl (heap_set (heap_set (heap_set HJ0.out))) rfl) rfl ?_
      unfold PrQ
      rw [HPR.out]
      exact ⟨.slice none 0 0, .slice none 0 0, rfl, World.ownsRow_nil _ _ _ _, World.ownsRow_nil _ _ _ _, hH1.2⟩
    subst hz
    clear hend hne
    go_wp2_with fail
    refine Calls.mono HNX.out ?_
    rintro e z3 ⟨rfl, hd3, hon3⟩
    have HP3 : Hid (PS w z3 s ib k false (.slice e1 L.length f1) (.slice e2 R.length f2) true L R) := HP2.out.step hd3 hon3
    have t0 : z3.cell? ⟨w.heap.size + 1, 0, none⟩ = some (.string s) := cell_at hd3.box rfl
    have t1 : z3.cell? ⟨w.heap.size + 1, 1, none⟩ = some (.int .i64 (k : Nat)) := cell_at hd3.box rfl
    have t3 : z3.cell? ⟨w.heap.size + 1, 2, none⟩ = some (.bool false) := cell_at hd3.box rfl
    have uf : ∀ j, z3.frozen? ⟨w.heap.size + 1, j, none⟩ = false := fun j => froz_of hd3.box
    clear hd3 hon3 t2
    by_cases hks : k < s.size
    · have hksI : (k : Int) < s.size := by omega
      have hksd : decide ((k : Int) < s.size) = true := decide_eq_true hksI
      have HPR0 : Hid (prS s = ([], [], false, k, 41)) := by
        have h1 := HID.out
        unfold idM at h1
        rw [HID2.out] at h1
        exact pr_none hs (h1.1.trans (if_neg (by omega))) (h1.2.trans (if_neg (by omega)))
      have HZ4 : Hid (∀ nq, PS w ((z3.drewN nq).setCell ⟨w.heap.size + 1, 2, none⟩ (.bool true)) s ib k true (.slice e1 L.length f1) (.slice e2 R.length f2) true L R) := fun nq => (HP3.out.step (dd_drewN HP3.out.d) or_drewN).step (dd_drewN HP3.out.d).spoilt or_set
      clear hks
      go_upto_region 18 with fail
      go_quiet (fail)
      go_upto_region 20 with fail
      obtain ⟨z4, hz4⟩ : ∃ z4, z4 = (z3.drewN nq).setCell ⟨w.heap.size + 1, 2, none⟩ (.bool true) := ⟨_, rfl⟩
      have HP4 : Hid (PS w z4 s ib k true (.slice e1 L.length f1) (.slice e2 R.length f2) true L R) := by
        show PS _ _ _ _ _ _ _ _ _ _ _
        rw [hz4]
        exact HZ4.out nq
      rw [← hz4]
      clear hz4 t0 t1 t3 uf
      have HP := HP4
      have HPR := HPR0
      have HPB : Hid (Below w.heap.size w z4.drew) := HP.out.b.drew
      have t2 : z4.cell? ⟨w.heap.size + 1, 2, none⟩ = some (.bool true) := cell_at HP.out.d.box rfl
      have t1 : z4.cell? ⟨w.heap.size + 1, 1, none⟩ = some (.int .i64 (k : Nat)) := cell_at HP.out.d.box rfl
      go_upto_region 21 with fail
      refine wp_region_held_drew (S := fun z => z.heap[w.heap.size + 1]? = some (.cells #[.string s, .int .i64 (k : Nat), .bool true] 76 (0, 0)) ∧ Below w.heap.size w z) (by kernel_rfl) ⟨HP.out.d.box, HPB.out⟩ (fun hH0 => ?_)
      generalize hyy : World.drew _ = y0 at hH0 ⊢
      have HJ0 : Hid (y0.heap[w.heap.size]? = some (.cells #[.slice none 0 0, .slice none 0 0, .bool false] 24 (0, 0))) := by show _ = _; rw [← hyy]; exact HP.out.j
      have j0 := cell_at (j := 0) HJ0.out rfl
      have j1 := cell_at (j := 1) HJ0.out rfl
      have j2 := cell_at (j := 2) HJ0.out rfl
      have jf : ∀ j, y0.frozen? ⟨w.heap.size, j, none⟩ = false := fun j => froz_of HJ0.out
      clear hyy t2
      refine wpAnyH_take (i := 0) (oi := { dst := some 93, op := Go.Op.build 24 #[], type := 24, pos := "ref.go:216", after := #[], guard := none }) (v := ?_) rfl (by kernel_rfl) (by kernel_rfl) (by kernel_rfl) (fun _ _ _ h => h) (Or.inl ⟨by rfl, ?_⟩) (by assumption) ?_
      rotate_left
      · intro w' hS; go_simp; (try with_reducible rfl)
      simp only [Act.put, List.setIfInBounds_toArray, List.set_cons_zero, List.set_cons_succ]
      refine wpAnyH_take (i := 1) (oi := { dst := some 94, op := Go.Op.move (Go.Operand.tmp 5), type := 74, pos := "ref.go:216", after := #[{ on := 5, ground := Go.Ground.gcOnly Go.Departure.lateStores }], guard := none }) (v := ?_) rfl (by kernel_rfl) (by kernel_rfl) (by kernel_rfl) (fun _ _ _ h => h) (Or.inl ⟨by rfl, ?_⟩) (by assumption) ?_
      rotate_left
      · intro w' hS; go_simp; (try with_reducible rfl)
      simp only [Act.put, List.setIfInBounds_toArray, List.set_cons_zero, List.set_cons_succ]
      refine wpAnyH_take (i := 2) (oi := { dst := some 95, op := Go.Op.nilCheck (Go.Operand.tmp 94), type := 0, pos := "ref.go:216", after := #[{ on := 1, ground := Go.Ground.data }, { on := 5, ground := Go.Ground.gcOnly Go.Departure.lateStores }], guard := none }) (v := ?_) rfl (by kernel_rfl) (by kernel_rfl) (by kernel_rfl) (fun _ _ _ h => h) (Or.inl ⟨by rfl, ?_⟩) (by assumption) ?_
      rotate_left
      · intro w' hS; go_simp; (try with_reducible rfl)
      simp only [Act.put, List.setIfInBounds_toArray, List.set_cons_zero, List.set_cons_succ]
      refine wpAnyH_take (i := 3) (oi := { dst := some 96, op := Go.Op.fieldAddr 76 (Go.Operand.tmp 95) 1, type := 0, pos := "ref.go:216", after := #[{ on := 2, ground := Go.Ground.data }, { on := 5, ground := Go.Ground.gcOnly Go.Departure.lateStores }], guard := none }) (v := ?_) rfl (by kernel_rfl) (by kernel_rfl) (by kernel_rfl) (fun _ _ _ h => h) (Or.inl ⟨by rfl, ?_⟩) (by assumption) ?_
      rotate_left
      · intro w' hS; go_simp; (try with_reducible rfl)
      simp only [Act.put, List.setIfInBounds_toArray, List.set_cons_zero, List.set_cons_succ]
      refine wpAnyH_take (i := 4) (oi := { dst := some 97, op := Go.Op.load 3 (Go.Operand.tmp 96), type := 3, pos := "ref.go:216", after := #[{ on := 3, ground := Go.Ground.data }, { on := 5, ground := Go.Ground.gcOnly Go.Departure.lateStores }], guard := none }) (v := .int .i64 (k : Nat)) rfl (by kernel_rfl) (by kernel_rfl) (by kernel_rfl) (fun _ _ _ h => h) (Or.inl ⟨by rfl, ?_⟩) (by assumption) ?_
      · intro w' hS; have hz := cell_at (j := 1) hS.1 rfl; go_simp
      simp only [Act.put, List.setIfInBounds_toArray, List.set_cons_zero, List.set_cons_succ]
      refine wpAnyH_ready (rs := [5]) (by kernel_rfl) (by simp) ?_
      refine AllReadyH.cons rfl (fun K hK => ?_) AllReadyH.nil
      go_simp
      refine hK.out _ _ ⟨?_, ?_⟩ (fun hH1 => ?_)
      · rw [heap_set_other (by omega), heap_set_other (by omega), heap_set_other (by omega)]; exact hH0.1
      · exact ((hH0.2.setCell (p := ⟨w.heap.size, 0, none⟩) (Nat.le_refl _) _).setCell (p := ⟨w.heap.size, 1, none⟩) (Nat.le_refl _) _).setCell (p := ⟨w.heap.size, 2, none⟩) (Nat.le_refl _) _
      clear hK K
      refine wpAnyH_take (i := 6) (oi := { dst := some 3, op := Go.Op.assign (Go.Operand.tmp 97), type := 3, pos := "ref.go:216", after := #[{ on := 4, ground := Go.Ground.data }, { on := 5, ground := Go.Ground.chain }, { on := 0, ground := Go.Ground.phase }, { on := 1, ground := Go.Ground.phase }, { on := 2, ground := Go.Ground.phase }, { on := 3, ground := Go.Ground.phase }, { on := 4, ground := Go.Ground.phase }, { on := 5, ground := Go.Ground.phase }], guard := none }) (v := ?_) rfl (by kernel_rfl) (by kernel_rfl) (by kernel_rfl) (fun _ _ _ h => h) (Or.inl ⟨by rfl, ?_⟩) (by assumption) ?_
      rotate_left
      · intro w' hS; go_simp; (try with_reducible rfl)
      simp only [Act.put, List.setIfInBounds_toArray, List.set_cons_zero, List.set_cons_succ]
      refine wpAnyH_take (i := 7) (oi := { dst := some 4, op := Go.Op.assign (Go.Operand.const (Go.Value.int Go.IntKind.i64 41)), type := 3, pos := "ref.go:216", after := #[{ on := 6, ground := Go.Ground.chain }, { on := 0, ground := Go.Ground.phase }, { on := 1, ground := Go.Ground.phase }, { on := 2, ground := Go.Ground.phase }, { on := 3, ground := Go.Ground.phase }, { on := 4, ground := Go.Ground.phase }, { on := 5, ground := Go.Ground.phase }, { on := 6, ground := Go.Ground.phase }], guard := none }) (v := ?_) rfl (by kernel_rfl) (by kernel_rfl) (by kernel_rfl) (fun _ _ _ h => h) (Or.inl ⟨by rfl, ?_⟩) (by assumption) ?_
      rotate_left
      · intro w' hS; go_simp; (try with_reducible rfl)
      simp only [Act.put, List.setIfInBounds_toArray, List.set_cons_zero, List.set_cons_succ]
      refine wpAnyH_done (by kernel_rfl) ?_ _
      go_wp2_with fail
      refine bodyPost_ret (results_id2 rfl rfl (heap_set (heap_set (heap_set HJ0.out))) rfl) rfl ?_
      unfold PrQ
      rw [HPR.out]
      exact ⟨.slice none 0 0, .slice none 0 0, rfl, World.ownsRow_nil _ _ _ _, World.ownsRow_nil _ _ _ _, hH1.2⟩
    have hksI : ¬ (k : Int) < s.size := by omega
    have hksd : decide ((k : Int) < s.size) = false := decide_eq_false hksI
    have HIDP : Hid (idP s = some (L, R, true)) := by
      have h1 := HID.out.1
      rw [HID2.out] at h1
      exact h1.trans (if_pos (by omega))
    have HLS : Hid (L.length ≤ 100000 ∧ R.length ≤ 100000) := by
      have := id_byt HIDP.out
      show _ ∧ _
      obtain ⟨_, _, b3, b4⟩ := this
      omega
    have hls := HLS.out
    have i0 : z3.cell? ⟨ib, 0, none⟩ = some (.slice e1 L.length f1) := cell_at HP3.out.i rfl
    have i1 : z3.cell? ⟨ib, 1, none⟩ = some (.slice e2 R.length f2) := cell_at HP3.out.i rfl
    have i2 : z3.cell? ⟨ib, 2, none⟩ = some (.bool true) := cell_at HP3.out.i rfl
    have j0 := cell_at (j := 0) HP3.out.j rfl
    have j1 := cell_at (j := 1) HP3.out.j rfl
    have j2 := cell_at (j := 2) HP3.out.j rfl
    have jf : ∀ j, z3.frozen? ⟨w.heap.size, j, none⟩ = false := fun j => froz_of HP3.out.j
    have HBD : Hid (∀ nq, Below w.heap.size w (z3.drewN nq)) := fun nq => (HP3.out.step (dd_drewN HP3.out.d) or_drewN).b
    clear hks
    by_cases q1 : 400 < L.length
    · have q1I : (400 : Int) < L.length := by omega
      have q1d : decide ((400 : Int) < L.length) = true := decide_eq_true q1I
      have HPR0 : Hid (prS s = ([], [], false, 0, 6)) := by show _ = _; unfold prS; rw [if_neg (by omega), HIDP.out]; simp only; rw [if_pos (.inl q1)]
      go_upto_region 18 with fail
      go_quiet (fail)
      go_wp2_with fail
      refine bodyPost_ret (results_id2 rfl rfl (heap_set (heap_set (heap_set (show (z3.drewN nq).heap[w.heap.size]? = _ from HP3.out.j)))) rfl) rfl ?_
      unfold PrQ
      rw [HPR0.out]
      exact ⟨.slice none 0 0, .slice none 0 0, rfl, World.ownsRow_nil _ _ _ _, World.ownsRow_nil _ _ _ _, (((HBD.out _).setCell (p := ⟨w.heap.size, 0, none⟩) (Nat.le_refl _) _).setCell (p := ⟨w.heap.size, 1, none⟩) (Nat.le_refl _) _).setCell (p := ⟨w.heap.size, 2, none⟩) (Nat.le_refl _) _⟩
    have q1I : ¬ (400 : Int) < L.length := by omega
    have q1d : decide ((400 : Int) < L.length) = false := decide_eq_false q1I
    by_cases q2 : 400 < R.length
    · have q2I : (400 : Int) < R.length := by omega
      have q2d : decide ((400 : Int) < R.length) = true := decide_eq_true q2I
      have HPR0 : Hid (prS s = ([], [], false, 0, 6)) := by show _ = _; unfold prS; rw [if_neg (by omega), HIDP.out]; simp only; rw [if_pos (.inr q2)]
      go_upto_region 18 with fail
      go_quiet (fail)
      go_wp2_with fail
      refine bodyPost_ret (results_id2 rfl rfl (heap_set (heap_set (heap_set (show (z3.drewN nq).heap[w.heap.size]? = _ from HP3.out.j)))) rfl) rfl ?_
      unfold PrQ
      rw [HPR0.out]
      exact ⟨.slice none 0 0, .slice none 0 0, rfl, World.ownsRow_nil _ _ _ _, World.ownsRow_nil _ _ _ _, (((HBD.out _).setCell (p := ⟨w.heap.size, 0, none⟩) (Nat.le_refl _) _).setCell (p := ⟨w.heap.size, 1, none⟩) (Nat.le_refl _) _).setCell (p := ⟨w.heap.size, 2, none⟩) (Nat.le_refl _) _⟩
    have q2I : ¬ (400 : Int) < R.length := by omega
    have q2d : decide ((400 : Int) < R.length) = false := decide_eq_false q2I
    have HPR0 : Hid (prS s = (L, R, true, 0, 0)) := by show _ = _; unfold prS; rw [if_neg (by omega), HIDP.out]; simp only; rw [if_neg (by omega)]
    go_upto_region 18 with fail
    go_quiet (fail)
    go_wp2_with fail
    refine bodyPost_ret (results_id2 rfl rfl (heap_set (heap_set (heap_set (show (z3.drewN nq).heap[w.heap.size]? = _ from HP3.out.j)))) rfl) rfl ?_
    unfold PrQ
    rw [HPR0.out]
    have hJ : ∀ b, w.heap.size + 2 ≤ b → ∀ (y : World) o v, (y.setCell ⟨w.heap.size, o, none⟩ v).heap[b]? = y.heap[b]? := fun b hb y o v => heap_set_other (by omega)
    refine ⟨.slice e1 L.length f1, .slice e2 R.length f2, rfl, own_mono (own_keep HP3.out.ol (fun b cur hb hc => ?_)) (by omega), own_mono (own_keep HP3.out.orr (fun b cur hb hc => ?_)) (by omega), (((HBD.out _).setCell (p := ⟨w.heap.size, 0, none⟩) (Nat.le_refl _) _).setCell (p := ⟨w.heap.size, 1, none⟩) (Nat.le_refl _) _).setCell (p := ⟨w.heap.size, 2, none⟩) (Nat.le_refl _) _⟩
    · have hb1 := (own_blk HP3.out.ol hb).1
      rw [hJ _ hb1, hJ _ hb1, hJ _ hb1]
      rfl
    · have hb1 := (own_blk HP3.out.orr hb).1
      rw [hJ _ hb1, hJ _ hb1, hJ _ hb1]
      rfl
  · rw [if_neg hb, if_neg hb] at HP8
    have HPR0 : Hid (prS s = ([], [], false, j + 1, 41)) := by
      have h1 := HIT.out.2.2.1 (by first | rfl | trivial) hb
      exact pr_none hs h1.1 h1.2
    clear HIT hb
    obtain ⟨j', hj'⟩ : ∃ j', j + 1 = j' := ⟨_, rfl⟩
    rw [hj'] at HP8 HPR0
    clear hj'
    have HP := HP8
    have HPR := HPR0
    have HPB : Hid (∀ nq, Below w.heap.size w (w8.drewN nq).drew) := fun nq => (HP.out.step (dd_drewN HP.out.d) or_drewN).b.drew
    have t2 : w8.cell? ⟨w.heap.size + 1, 2, none⟩ = some (.bool true) := cell_at HP.out.d.box rfl
    have t1 : w8.cell? ⟨w.heap.size + 1, 1, none⟩ = some (.int .i64 (j' : Nat)) := cell_at HP.out.d.box rfl
    go_upto_region 18 with fail
    go_quiet (fail)
    go_upto_region 21 with fail
    refine wp_region_held_drew (S := fun z => z.heap[w.heap.size + 1]? = some (.cells #[.string s, .int .i64 (j' : Nat), .bool true] 76 (0, 0)) ∧ Below w.heap.size w z) (by kernel_rfl) ⟨HP.out.d.box, HPB.out nq⟩ (fun hH0 => ?_)
    generalize hyy : World.drew _ = y0 at hH0 ⊢
    have HJ0 : Hid (y0.heap[w.heap.size]? = some (.cells #[.slice none 0 0, .slice none 0 0, .bool false] 24 (0, 0))) := by show _ = _; rw [← hyy]; exact HP.out.j
    have j0 := cell_at (j := 0) HJ0.out rfl
    have j1 := cell_at (j := 1) HJ0.out rfl
    have j2 := cell_at (j := 2) HJ0.out rfl
    have jf : ∀ j, y0.frozen? ⟨w.heap.size, j, none⟩ = false := fun j => froz_of HJ0.out
    clear hyy t2
    refine wpAnyH_take (i := 0) (oi := { dst := some 93, op := Go.Op.build 24 #[], type := 24, pos := "ref.go:216", after := #[], guard := none }) (v := ?_) rfl (by kernel_rfl) (by kernel_rfl) (by kernel_rfl) (fun _ _ _ h => h) (Or.inl ⟨by rfl, ?_⟩) (by assumption) ?_
    rotate_left
    · intro w' hS; go_simp; (try with_reducible rfl)
    simp only [Act.put, List.setIfInBounds_toArray, List.set_cons_zero, List.set_cons_succ]
    refine wpAnyH_take (i := 1) (oi := { dst := some 94, op := Go.Op.move (Go.Operand.tmp 5), type := 74, pos := "ref.go:216", after := #[{ on := 5, ground := Go.Ground.gcOnly Go.Departure.lateStores }], guard := none }) (v := ?_) rfl (by kernel_rfl) (by kernel_rfl) (by kernel_rfl) (fun _ _ _ h => h) (Or.inl ⟨by rfl, ?_⟩) (by assumption) ?_
    rotate_left
    · intro w' hS; go_simp; (try with_reducible rfl)
    simp only [Act.put, List.setIfInBounds_toArray, List.set_cons_zero, List.set_cons_succ]
    refine wpAnyH_take (i := 2) (oi := { dst := some 95, op := Go.Op.nilCheck (Go.Operand.tmp 94), type := 0, pos := "ref.go:216", after := #[{ on := 1, ground := Go.Ground.data }, { on := 5, ground := Go.Ground.gcOnly Go.Departure.lateStores }], guard := none }) (v := ?_) rfl (by kernel_rfl) (by kernel_rfl) (by kernel_rfl) (fun _ _ _ h => h) (Or.inl ⟨by rfl, ?_⟩) (by assumption) ?_
    rotate_left
    · intro w' hS; go_simp; (try with_reducible rfl)
    simp only [Act.put, List.setIfInBounds_toArray, List.set_cons_zero, List.set_cons_succ]
    refine wpAnyH_take (i := 3) (oi := { dst := some 96, op := Go.Op.fieldAddr 76 (Go.Operand.tmp 95) 1, type := 0, pos := "ref.go:216", after := #[{ on := 2, ground := Go.Ground.data }, { on := 5, ground := Go.Ground.gcOnly Go.Departure.lateStores }], guard := none }) (v := ?_) rfl (by kernel_rfl) (by kernel_rfl) (by kernel_rfl) (fun _ _ _ h => h) (Or.inl ⟨by rfl, ?_⟩) (by assumption) ?_
    rotate_left
    · intro w' hS; go_simp; (try with_reducible rfl)
    simp only [Act.put, List.setIfInBounds_toArray, List.set_cons_zero, List.set_cons_succ]
    refine wpAnyH_take (i := 4) (oi := { dst := some 97, op := Go.Op.load 3 (Go.Operand.tmp 96), type := 3, pos := "ref.go:216", after := #[{ on := 3, ground := Go.Ground.data }, { on := 5, ground := Go.Ground.gcOnly Go.Departure.lateStores }], guard := none }) (v := .int .i64 (j' : Nat)) rfl (by kernel_rfl) (by kernel_rfl) (by kernel_rfl) (fun _ _ _ h => h) (Or.inl ⟨by rfl, ?_⟩) (by assumption) ?_
    · intro w' hS; have hz := cell_at (j := 1) hS.1 rfl; go_simp
    simp only [Act.put, List.setIfInBounds_toArray, List.set_cons_zero, List.set_cons_succ]
    refine wpAnyH_ready (rs := [5]) (by kernel_rfl) (by simp) ?_
    refine AllReadyH.cons rfl (fun K hK => ?_) AllReadyH.nil
    go_simp
    refine hK.out _ _ ⟨?_, ?_⟩ (fun hH1 => ?_)
    · rw [heap_set_other (by omega), heap_set_other (by omega), heap_set_other (by omega)]; exact hH0.1
    · exact ((hH0.2.setCell (p := ⟨w.heap.size, 0, none⟩) (Nat.le_refl _) _).setCell (p := ⟨w.heap.size, 1, none⟩) (Nat.le_refl _) _).setCell (p := ⟨w.heap.size, 2, none⟩) (Nat.le_refl _) _
    clear hK K
    refine wpAnyH_take (i := 6) (oi := { dst := some 3, op := Go.Op.assign (Go.Operand.tmp 97), type := 3, pos := "ref.go:216", after := #[{ on := 4, ground := Go.Ground.data }, { on := 5, ground := Go.Ground.chain }, { on := 0, ground := Go.Ground.phase }, { on := 1, ground := Go.Ground.phase }, { on := 2, ground := Go.Ground.phase }, { on := 3, ground := Go.Ground.phase }, { on := 4, ground := Go.Ground.phase }, { on := 5, ground := Go.Ground.phase }], guard := none }) (v := ?_) rfl (by kernel_rfl) (by kernel_rfl) (by kernel_rfl) (fun _ _ _ h => h) (Or.inl ⟨by rfl, ?_⟩) (by assumption) ?_
    rotate_left
    · intro w' hS; go_simp; (try with_reducible rfl)
    simp only [Act.put, List.setIfInBounds_toArray, List.set_cons_zero, List.set_cons_succ]
    refine wpAnyH_take (i := 7) (oi := { dst := some 4, op := Go.Op.assign (Go.Operand.const (Go.Value.int Go.IntKind.i64 41)), type := 3, pos := "ref.go:216", after := #[{ on := 6, ground := Go.Ground.chain }, { on := 0, ground := Go.Ground.phase }, { on := 1, ground := Go.Ground.phase }, { on := 2, ground := Go.Ground.phase }, { on := 3, ground := Go.Ground.phase }, { on := 4, ground := Go.Ground.phase }, { on := 5, ground := Go.Ground.phase }, { on := 6, ground := Go.Ground.phase }], guard := none }) (v := ?_) rfl (by kernel_rfl) (by kernel_rfl) (by kernel_rfl) (fun _ _ _ h => h) (Or.inl ⟨by rfl, ?_⟩) (by assumption) ?_
    rotate_left
    · intro w' hS; go_simp; (try with_reducible rfl)
    simp only [Act.put, List.setIfInBounds_toArray, List.set_cons_zero, List.set_cons_succ]
    refine wpAnyH_done (by kernel_rfl) ?_ _
    go_wp2_with fail
    refine bodyPost_ret (results_id2 rfl rfl (heap_set (heap_set (heap_set HJ0.out))) rfl) rfl ?_
    unfold PrQ
    rw [HPR.out]
    exact ⟨.slice none 0 0, .slice none 0 0, rfl, World.ownsRow_nil _ _ _ _, World.ownsRow_nil _ _ _ _, hH1.2⟩
end Go.Proofs.Ythhlamehbcidgaa
