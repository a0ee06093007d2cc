/- The law's lent: an identity in memory of its own. -/
import Derived.Test.YthhlamehbcidgaaY46
import Derived.Laws.AppendOwnNone
namespace Go.Proofs.Ythhlamehbcidgaa
open Go Go.ChangeShapes Go.WideShapes Go.ChangeAt Go.RowKit Go.Lib
set_option linter.unusedVariables false
set_option linter.unusedSimpArgs false

def NoCap (v : Value) : Prop := ∀ n c, v = .slice none n c → c = 0
set_option maxRecDepth 100000 in
theorem open_signsE {H : Type} {enc : TypeId × Value → H} {w : World} {base : Nat} {spare : Nat → Bool} {held : Bool} {fuel : Nat} {v : Value} {y : DataW H × List MemPlace} (hf : DataW.trod enc Try.prog w base spare held fuel 22 [v] = some y) :
    ∃ L, SgC w v L ∧ NoCap v ∧ L.length ≤ maxLen ∧ ((y.1 = .nil ∧ L = []) ∨ ∃ e s, y.1 = .slice e s ∧ L.length ≤ e.length + s.length) := by
  rcases Go.Deep.open_slice Try.underlying22 hf with ⟨hcs, hx⟩ | ⟨a', len', cap', m, n, D, Pl, hcs, hb, hl, hm, hmm, hx, hel⟩
  · simp at hcs
    subst hcs
    exact ⟨[], ⟨⟨none, 0, rfl, fun i hi => by simp at hi⟩, fun a n c e => by simp only [Value.slice.injEq] at e; omega⟩, fun n c e => by simp only [Value.slice.injEq] at e; omega, Nat.zero_le _, .inl ⟨by rw [hx], rfl⟩⟩
  · simp at hcs
    subst hcs
    have hle : len' ≤ m := by
      rw [hmm]
      split <;> omega
    have hp : ∀ i, i < len' → ∃ p : Int × Nat, ∃ g o, a' = ⟨g, o, none⟩ ∧ g < w.heap.size ∧ w.cell? ⟨g, o + i * 2, none⟩ = some (.int .i64 p.1) ∧ w.cell? ⟨g, o + i * 2 + 1, none⟩ = some (.int .u8 (p.2 : Nat)) ∧ p.2 < 256 := fun i hi => by
      obtain ⟨cs', hc, ht⟩ := hel i (by omega)
      rw [Try.cells_sign] at hc
      obtain ⟨hbb, hlen, hcell⟩ := World.cells?_some hc
      obtain ⟨p, hp, c0, c1⟩ := sg_cells ht
      obtain ⟨b, off, spot⟩ := a'
      have hspot : spot = none := by
        obtain ⟨cs0, hc1, _⟩ := hel 0 (by omega)
        rw [Try.cells_sign] at hc1
        obtain ⟨_, hl0, hcell0⟩ := World.cells?_some hc1
        have h00 := hcell0 0 (by decide)
        rw [List.getElem?_eq_getElem (by omega)] at h00
        have := World.cell?_spot h00
        simpa [Addr.add] using this
      subst hspot
      have x0 := hcell 0 (by decide)
      have x1 := hcell 1 (by decide)
      rw [c0] at x0
      rw [c1] at x1
      simp only [Addr.add_lit] at x0 x1
      exact ⟨p, b, off, rfl, World.block_lt_of_cell? w _ x0, x0, x1, hp⟩
    obtain ⟨F, hF⟩ : ∃ F : Nat → Int × Nat, ∀ i, i < len' → ∃ g o, a' = ⟨g, o, none⟩ ∧ g < w.heap.size ∧ w.cell? ⟨g, o + i * 2, none⟩ = some (.int .i64 (F i).1) ∧ w.cell? ⟨g, o + i * 2 + 1, none⟩ = some (.int .u8 ((F i).2 : Nat)) ∧ (F i).2 < 256 :=
      ⟨fun i => if h : i < len' then Classical.choose (hp i h) else (0, 0), fun i h => by
        simp only [dif_pos h]
        exact Classical.choose_spec (hp i h)⟩
    refine ⟨(List.range len').map F, ⟨⟨some a', cap', by simp, fun i hi => ?_⟩, fun a n c e => by simp only [Value.slice.injEq] at e; omega⟩, (fun n c e => by simp at e), by simp; omega, .inr ⟨_, _, by rw [hx], by simp⟩⟩
    have hi' : i < len' := by simpa using hi
    obtain ⟨g, o, rfl, hg, x0, x1, x2⟩ := hF i hi'
    have hgd : ((List.range len').map F).getD i (0, 0) = F i := by simp [List.getD_eq_getElem?_getD, hi']
    rw [hgd]
    exact ⟨g, o, rfl, hg, x0, x1, x2⟩
set_option maxRecDepth 100000 in
theorem open_identE {H : Type} {enc : TypeId × Value → H} {w : World} {held : Bool} {r : Reach} {b0 : Nat} {v : Value} {d : DataW H} {ps : List MemPlace} (hval : Value.okWide Try.prog w r b0 24 v) (hd : DataW.Trod enc Try.prog w 0 (fun _ => true) held 24 v d ps) :
    ∃ vl vr x L R, v = .agg #[vl, vr, .bool x] ∧ SgC w vl L ∧ SgC w vr R ∧ NoCap vl ∧ NoCap vr ∧ L.length ≤ maxLen ∧ R.length ≤ maxLen ∧ ∃ d0 d1 d2, d = .agg [d0, d1, d2] ∧ ((d0 = .nil ∧ L = []) ∨ ∃ e s, d0 = .slice e s ∧ L.length ≤ e.length + s.length) ∧ ((d1 = .nil ∧ R = []) ∨ ∃ e s, d1 = .slice e s ∧ R.length ≤ e.length + s.length) := by
  simp only [Value.okWide, Try.underlying24] at hval
  obtain ⟨cs, rfl, hsz, _⟩ := hval
  rw [Try.cells_ident] at hsz
  obtain ⟨fuel, hf⟩ := hd
  obtain ⟨y0, y1, y2, m, hx, _, h0, h1, h2⟩ := Go.Deep.trod_struct3 Try.underlying24 hf
  obtain ⟨c0, c1, c2, hcs⟩ : ∃ c0 c1 c2, cs = #[c0, c1, c2] := ⟨cs[0], cs[1], cs[2], by
    apply Array.ext_getElem?
    intro i
    have : i = 0 ∨ i = 1 ∨ i = 2 ∨ 3 ≤ i := by omega
    rcases this with rfl | rfl | rfl | hi
    · simp [hsz]
    · simp [hsz]
    · simp [hsz]
    · rw [Array.getElem?_eq_none (by omega), Array.getElem?_eq_none (by simp; omega)]⟩
  subst hcs
  simp only [Try.cells_signs, Try.cells_bool1, Value.cells] at h0 h1 h2
  have h0' : DataW.trod enc Try.prog w 0 (fun _ => true) held m 22 [c0] = some y0 := by simpa using h0
  have h1' : DataW.trod enc Try.prog w 0 (fun _ => true) held m 22 [c1] = some y1 := by simpa using h1
  obtain ⟨L, hL, nL, lL, dL⟩ := open_signsE h0'
  obtain ⟨R, hR, nR, lR, dR⟩ := open_signsE h1'
  obtain ⟨x, ex, _⟩ := DataW.trod_bool Try.underlying4 h2
  simp at ex
  exact ⟨c0, c1, x, L, R, by rw [ex], hL, hR, nL, nR, lL, lR, _, _, _, congrArg Prod.fst hx, dL, dR⟩

theorem Try.bytes_sign : Try.prog.bytesOf 81 = 16 := by kernel_rfl
theorem ident_bounds {H : Type} {ts : List TypeId} {ds : List (DataW H)} (h : (DataW.weightsEach Try.prog ts ds).all (· ≤ reachBytes) = true) {j : Nat} {d0 d1 d2 : DataW H} (ht : ts[j]? = some 24) (hd : ds[j]? = some (.agg [d0, d1, d2])) {L R : List (Int × Nat)} (h1 : ((d0 = .nil ∧ L = []) ∨ ∃ e s, d0 = .slice e s ∧ L.length ≤ e.length + s.length)) (h2 : ((d1 = .nil ∧ R = []) ∨ ∃ e s, d1 = .slice e s ∧ R.length ≤ e.length + s.length)) :
    L.length * 16 ≤ 140737488355328 ∧ R.length * 16 ≤ 140737488355328 := by
  constructor
  · rcases h1 with ⟨_, e⟩ | ⟨e, s, rfl, hl⟩
    · rw [e]; decide
    · have := List.all_eq_true.1 h _ (DataW.weights_mem_each ht hd ((e.length + s.length) * 16) (by simp [DataW.weights, DataW.weightsEach, Try.underlying24, Try.underlying22, Try.bytes_sign]))
      have h7 : (e.length + s.length) * 16 ≤ reachBytes := by simpa using this
      simp only [reachBytes] at h7
      omega
  · rcases h2 with ⟨_, e⟩ | ⟨e, s, rfl, hl⟩
    · rw [e]; decide
    · have := List.all_eq_true.1 h _ (DataW.weights_mem_each ht hd ((e.length + s.length) * 16) (by simp [DataW.weights, DataW.weightsEach, Try.underlying24, Try.underlying22, Try.bytes_sign]))
      have h7 : (e.length + s.length) * 16 ≤ reachBytes := by simpa using this
      simp only [reachBytes] at h7
      omega

/-- Signs, cell by cell. -/
def sgI (L : List (Int × Nat)) : List Value := L.flatMap fun p => [.int .i64 p.1, .int .u8 (p.2 : Nat)]
theorem sgI_len : ∀ L : List (Int × Nat), (sgI L).length = L.length * 2
  | [] => rfl
  | a :: L => by
    have := sgI_len L
    unfold sgI at this ⊢
    rw [List.flatMap_cons, List.length_append, this, List.length_cons]
    simp
    omega
theorem sgI_int (A : Sg) : sgI (intS A) = sgC A := by
  unfold sgI intS sgC
  rw [List.flatMap_map]
theorem sgI_one (L : List (Int × Nat)) (u : Value) (hu : u ∈ sgI L) : u.oneCell' = true := by
  unfold sgI at hu
  rw [List.mem_flatMap] at hu
  obtain ⟨p, _, hp⟩ := hu
  simp at hp
  rcases hp with rfl | rfl <;> rfl
theorem sgI_at : ∀ (L : List (Int × Nat)) (i : Nat), i < L.length → (sgI L)[i * 2]? = some (.int .i64 (L.getD i (0, 0)).1) ∧ (sgI L)[i * 2 + 1]? = some (.int .u8 ((L.getD i (0, 0)).2 : Nat))
  | [], i, h => by simp at h
  | a :: L, 0, h => ⟨rfl, rfl⟩
  | a :: L, i + 1, h => by
    have h1 := sgI_at L i (by simpa using h)
    have e : sgI (a :: L) = .int .i64 a.1 :: .int .u8 (a.2 : Nat) :: sgI L := rfl
    rw [e, show (i + 1) * 2 = i * 2 + 1 + 1 by omega]
    simpa using h1
theorem sgr_cells {w : World} {a : Addr} {cap : Nat} {L : List (Int × Nat)} (h : SgR w (.slice (some a) L.length cap) L) : ∀ j u, (sgI L)[j]? = some u → w.cell? (a.add j) = some u := fun j u hj => by
  have hjl := (List.getElem?_eq_some_iff.1 hj).1
  rw [sgI_len] at hjl
  obtain ⟨a', cap', e, hr⟩ := h
  simp only [Value.slice.injEq] at e
  obtain ⟨rfl, _, rfl⟩ := e
  obtain ⟨g, o, e, hg, h1, h2, h3⟩ := hr (j / 2) (by omega)
  simp only [Option.some.injEq] at e
  subst e
  obtain ⟨q1, q2⟩ := sgI_at L (j / 2) (by omega)
  rw [Addr.add_lit]
  by_cases hm : j % 2 = 0
  · have e : j / 2 * 2 = j := by omega
    rw [e] at q1 h1
    rw [hj] at q1
    rw [h1, ← q1]
  · have e : j / 2 * 2 + 1 = j := by omega
    rw [e] at q2
    rw [show o + j / 2 * 2 + 1 = o + j by omega] at h2
    rw [hj] at q2
    rw [h2, ← q2]
/-- append(v, xs...) where v is an empty row of the call's own, xs nil or not. -/
theorem wp_append_sg {P : Program} {w : World} {o : Oper} {a : Act} {K : Act → World → Prop} {Q : Exit → Act → World → Prop} (s x : Operand) (t : TypeId)
    (ho : o.op = .call { callee := .builtin .append, args := #[s, x], argTypes := #[t, t] })
    (base : Nat) (e : TypeId) (i : TypeInfo) (z : Value) (bytes : Nat) (ht : P.underlying t = some (.slice e)) (hi : P.info? e = some i) (hz : i.zero = some z)
    (hsize : i.size = 2) (hby : i.bytes = bytes) (hzs : z.cells.size = 2)
    (v : Value) (hs : a.eval s = v) (hown : w.ownsRow base e 2 v 0 []) (vx : Value) (hx : a.eval x = vx) (L : List (Int × Nat)) (hsr : SgR w vx L) (hn : NoCap vx)
    (hbytes : L.length * bytes ≤ 140737488355328 ∧ L.length ≤ 9223372036854775000) (hbase : base ≤ w.heap.size)
    (h : ∀ v' w', w'.ownsRow base e 2 v' L.length (sgI L) → w.grownBy w' v.ownBlock → (v'.ownBlock = v.ownBlock ∨ v'.ownBlock = some w.heap.size) → K (a.put o.dst v') w') : o.wp P a w K Q := by
  obtain ⟨src, c, rfl⟩ := hsr.len
  cases src with
  | none =>
    have hu : L = [] := by
      cases L with
      | nil => rfl
      | cons u us =>
        obtain ⟨a', cap', e', hr⟩ := hsr
        obtain ⟨g, o, e2, _⟩ := hr 0 (by simp)
        simp only [Value.slice.injEq] at e'
        rw [← e'.1] at e2
        cases e2
    subst hu
    have hc := hn _ _ rfl
    subst hc
    have hrun := run_append_owned_none (P := P) (w := w) base t o.type e i 2 ht hi v 0 [] hown
    unfold Oper.wp
    simp only [List.length_nil] at hx
    simp [execOp, ho, resolve, invoke, builtin, hs, hx, hrun, Result.andThen]
    exact h v w hown ⟨rfl, rfl, rfl, Nat.le_refl _, fun _ _ _ => rfl⟩ (.inl rfl)
  | some ad =>
    obtain ⟨v', w', hr, h2, h3, _, h5⟩ := run_append_own_at (P := P) w base t o.type e i z 2 bytes ht hi hz hsize hby hzs (by decide) v 0 [] hown ad L.length c (sgI L) (sgI_len L) (sgr_cells hsr) (sgI_one L) (by unfold maxLen; have := hbytes.2; omega) (by simpa using hbytes.1) hbase
    unfold Oper.wp execOp
    simp only [ho, resolve, invoke, builtin, Sem.run_bind, Sem.run_pure, Result.andThen_ok, List.map_toArray, List.map_cons, List.map_nil, hs, hx, hr]
    exact h v' w' (by simpa using h2) h3 h5
theorem results_id1 {fn : Func} {p : Tmp} (h : fn.results = #[.cell p 24]) {tmps : Array Value} {b : Nat} {arr : Array Value} {w : World} (hp : tmps.getD p undef = .pointer (some ⟨b, 0, none⟩)) (hc : w.heap[b]? = some (.cells arr 24 (0, 0))) (hs : arr.size = 3) :
    (results fn tmps).run Try.prog w = .ok (.agg arr) w :=
  results_cell_row h _ _ b 24 _ (0, 0) _ hp hc Try.underlying24 rfl (by rw [Try.info_id, hs])
/-- What lent leaves. -/
def LnQ (L R : List (Int × Nat)) (x : Bool) (w : World) (e : Ending) (w' : World) : Prop := ∃ ul ur, e = .returned (.agg #[ul, ur, .bool x]) ∧ w'.ownsRow w.heap.size 81 2 ul L.length (sgI L) ∧ w'.ownsRow w.heap.size 81 2 ur R.length (sgI R) ∧ Below w.heap.size w w'

set_option maxHeartbeats 8000000 in
set_option maxRecDepth 100000 in
theorem lent_any (vl vr : Value) (x : Bool) (L R : List (Int × Nat)) (w : World) (hl : SgR w vl L) (hr : SgR w vr R) (hnl : NoCap vl) (hnr : NoCap vr) (hL : L.length * 16 ≤ 140737488355328) (hR : R.length * 16 ≤ 140737488355328) :
    Calls Try.prog 14 #[.agg #[vl, vr, .bool x]] w (LnQ L R x w) := by
  obtain ⟨a1, c1, e1⟩ := hl.len
  obtain ⟨a2, c2, e2⟩ := hr.len
  subst e1 e2
  obtain ⟨i0, hi, hz0, hz1, hz2⟩ := info_parts Try.info_sign
  obtain ⟨w1, hw1⟩ : ∃ w1, w1 = (w.alloc (.cells #[.slice a1 L.length c1, .slice a2 R.length c2, .bool x] 24)).alloc (.cells #[.slice none 0 0, .slice none 0 0, .bool false] 24) := ⟨_, rfl⟩
  have HW1 : Hid (w1 = (w.alloc (.cells #[.slice a1 L.length c1, .slice a2 R.length c2, .bool x] 24)).alloc (.cells #[.slice none 0 0, .slice none 0 0, .bool false] 24)) := hw1
  obtain ⟨hi1, hj1, hb1⟩ := two_new w _ _ w1 hw1
  have HBW : Hid (Below w.heap.size w w1) := hb1
  have HJL : Hid (w.heap.size + 1 < w1.heap.size) := (Array.getElem?_eq_some_iff.1 hj1).1
  have HII : Hid (∀ y, Below w1.heap.size w1 y → y.heap[w.heap.size]? = some (.cells #[.slice a1 L.length c1, .slice a2 R.length c2, .bool x] 24 (0, 0)) ∧ y.heap[w.heap.size + 1]? = some (.cells #[.slice none 0 0, .slice none 0 0, .bool false] 24 (0, 0))) := fun y hy => ⟨(hy.block _ (Array.getElem?_eq_some_iff.1 hi1).1).trans hi1, (hy.block _ (Array.getElem?_eq_some_iff.1 hj1).1).trans hj1⟩
  have HL : Hid ((∀ y, Below w1.heap.size w1 y → SgR y (.slice a1 L.length c1) L) ∧ NoCap (.slice a1 L.length c1) ∧ L.length * 16 ≤ 140737488355328 ∧ L.length ≤ 9223372036854775000) := ⟨fun y hy => (hl.below hb1).below hy, hnl, hL, by omega⟩
  have HR : Hid ((∀ y, Below w1.heap.size w1 y → SgR y (.slice a2 R.length c2) R) ∧ NoCap (.slice a2 R.length c2) ∧ R.length * 16 ≤ 140737488355328 ∧ R.length ≤ 9223372036854775000) := ⟨fun y hy => (hr.below hb1).below hy, hnr, hR, by omega⟩
  have S0 : Below w1.heap.size w1 w1.drew := (Below.refl _ _).drew
  clear hl hr hnl hnr hw1 hb1 hi1 hj1
  go_enter Try.func14, Try.ntmps14
  go_upto_region 1 with fail
  rw [← HW1.out]
  refine wp_region_L 11 (fun y => Below w1.heap.size w1 y) (by kernel_rfl) S0 (fun hH0 => ?_)
  clear S0
  generalize w1.drew = y0 at hH0 ⊢
  have HB0 : Hid (Below w1.heap.size w1 y0) := hH0
  refine wpAnyL_take (i := 1) (oi := { dst := some 4, op := Go.Op.fieldAddr 24 (Go.Operand.tmp 1) 0, type := 0, pos := "law.go:37", after := #[], guard := none }) (v := ?_) rfl (by kernel_rfl) (by kernel_rfl) (by decide) (by kernel_rfl) (by kernel_rfl) (by kernel_rfl) (fun _ _ _ h => h) (Or.inl ⟨by rfl, ?_⟩) (by assumption) ?_
  rotate_left
  · intro w' hS; go_simp; (try with_reducible rfl)
  simp only [Act.put, List.setIfInBounds_toArray, List.set_cons_zero, List.set_cons_succ]
  refine wpAnyL_take (i := 2) (oi := { dst := some 5, op := Go.Op.load 22 (Go.Operand.tmp 4), type := 22, pos := "law.go:37", after := #[{ on := 1, ground := Go.Ground.data }], guard := none }) (v := .slice a1 L.length c1) rfl (by kernel_rfl) (by kernel_rfl) (by decide) (by kernel_rfl) (by kernel_rfl) (by kernel_rfl) (fun _ _ _ h => h) (Or.inl ⟨by rfl, ?_⟩) (by assumption) ?_
  · intro w' hS; have hz := cell_at (j := 0) ((HII.out w' hS).1) rfl; go_simp
  simp only [Act.put, List.setIfInBounds_toArray, List.set_cons_zero, List.set_cons_succ]
  refine wpAnyL_take (i := 5) (oi := { dst := some 8, op := Go.Op.fieldAddr 24 (Go.Operand.tmp 1) 1, type := 0, pos := "law.go:37", after := #[], guard := none }) (v := ?_) rfl (by kernel_rfl) (by kernel_rfl) (by decide) (by kernel_rfl) (by kernel_rfl) (by kernel_rfl) (fun _ _ _ h => h) (Or.inl ⟨by rfl, ?_⟩) (by assumption) ?_
  rotate_left
  · intro w' hS; go_simp; (try with_reducible rfl)
  simp only [Act.put, List.setIfInBounds_toArray, List.set_cons_zero, List.set_cons_succ]
  refine wpAnyL_take (i := 6) (oi := { dst := some 9, op := Go.Op.load 22 (Go.Operand.tmp 8), type := 22, pos := "law.go:37", after := #[{ on := 5, ground := Go.Ground.data }], guard := none }) (v := .slice a2 R.length c2) rfl (by kernel_rfl) (by kernel_rfl) (by decide) (by kernel_rfl) (by kernel_rfl) (by kernel_rfl) (fun _ _ _ h => h) (Or.inl ⟨by rfl, ?_⟩) (by assumption) ?_
  · intro w' hS; have hz := cell_at (j := 1) ((HII.out w' hS).1) rfl; go_simp
  simp only [Act.put, List.setIfInBounds_toArray, List.set_cons_zero, List.set_cons_succ]
  refine wpAnyL_take (i := 8) (oi := { dst := some 11, op := Go.Op.fieldAddr 24 (Go.Operand.tmp 1) 2, type := 0, pos := "law.go:37", after := #[], guard := none }) (v := ?_) rfl (by kernel_rfl) (by kernel_rfl) (by decide) (by kernel_rfl) (by kernel_rfl) (by kernel_rfl) (fun _ _ _ h => h) (Or.inl ⟨by rfl, ?_⟩) (by assumption) ?_
  rotate_left
  · intro w' hS; go_simp; (try with_reducible rfl)
  simp only [Act.put, List.setIfInBounds_toArray, List.set_cons_zero, List.set_cons_succ]
  refine wpAnyL_take (i := 9) (oi := { dst := some 12, op := Go.Op.load 4 (Go.Operand.tmp 11), type := 4, pos := "law.go:37", after := #[{ on := 8, ground := Go.Ground.data }], guard := none }) (v := .bool x) rfl (by kernel_rfl) (by kernel_rfl) (by decide) (by kernel_rfl) (by kernel_rfl) (by kernel_rfl) (fun _ _ _ h => h) (Or.inl ⟨by rfl, ?_⟩) (by assumption) ?_
  · intro w' hS; have hz := cell_at (j := 2) ((HII.out w' hS).1) rfl; go_simp
  simp only [Act.put, List.setIfInBounds_toArray, List.set_cons_zero, List.set_cons_succ]
  refine wpAnyL_ready (rs := [0, 4]) (by kernel_rfl) (by simp) ?_
  refine AllReadyL.cons rfl (fun KQ hK => ?_) (AllReadyL.cons rfl (fun KQ hK => ?_) AllReadyL.nil)
  · skip
    go_simp
    have HB1 : Hid (Below w1.heap.size w1 (y0.alloc (.cells #[] 81))) := HB0.out.trans ((below_new _ _).mono HB0.out.size)
    have RL1 : Hid ((y0.alloc (.cells #[] 81)).ownsRow w1.heap.size 81 2 (.slice (some ⟨y0.heap.size, 0, none⟩) 0 0) 0 []) := by show World.ownsRow _ _ _ _ _ _ _; have := World.ownsRow_made (base := w1.heap.size) (e := 81) (size := 2) y0 #[] 0 HB0.out.size (by unfold maxLen; omega) rfl; simpa using this
    refine hK.out _ _ HB1.out (fun hH1 => ?_)
    clear hK KQ
    refine wpAnyL_ready (rs := [3, 4]) (by kernel_rfl) (by simp) ?_
    refine AllReadyL.cons rfl (fun KQ hK => ?_) (AllReadyL.cons rfl (fun KQ hK => ?_) AllReadyL.nil)
    · skip
      rw [if_pos (by rfl)]
      refine wp_append_sg _ _ 22 rfl w1.heap.size 81 i0 (.agg #[.int .i64 0, .int .u8 0]) 16 Try.underlying22 hi hz0 hz1 hz2 rfl _ rfl RL1.out (.slice a1 L.length c1) rfl _ (HL.out.1 _ HB1.out) HL.out.2.1 HL.out.2.2 HB1.out.size ?_
      intro v2 w2 ho hg hat
      obtain ⟨va2, vc2, rfl⟩ := own_shape ho
      have RL2 : Hid (w2.ownsRow w1.heap.size 81 2 (.slice va2 L.length vc2) L.length (sgI L)) := ho
      have HB2 : Hid (Below w1.heap.size w1 w2) := HB1.out.grown hg HB1.out.size (fun b hb => (RL1.out.lt b hb).1)
      refine hK.out _ _ HB2.out (fun hH2 => ?_)
      clear ho hg hat
      clear hK KQ
      refine wpAnyL_ready (rs := [4]) (by kernel_rfl) (by simp) ?_
      refine AllReadyL.cons rfl (fun KQ hK => ?_) AllReadyL.nil
      go_simp
      have HB3 : Hid (Below w1.heap.size w1 (w2.alloc (.cells #[] 81))) := HB2.out.trans ((below_new _ _).mono HB2.out.size)
      have RL3 : Hid ((w2.alloc (.cells #[] 81)).ownsRow w1.heap.size 81 2 (.slice va2 L.length vc2) L.length (sgI L)) := RL2.out.alloc _
      have HD3 : Hid ((.slice va2 L.length vc2 : Value).ownBlock ≠ some (w2.heap.size)) := fun e => by have := (RL2.out.lt _ e).2; simp at this
      have RR3 : Hid ((w2.alloc (.cells #[] 81)).ownsRow w1.heap.size 81 2 (.slice (some ⟨w2.heap.size, 0, none⟩) 0 0) 0 []) := by show World.ownsRow _ _ _ _ _ _ _; have := World.ownsRow_made (base := w1.heap.size) (e := 81) (size := 2) w2 #[] 0 HB2.out.size (by unfold maxLen; omega) rfl; simpa using this
      refine hK.out _ _ HB3.out (fun hH3 => ?_)
      clear hK KQ
      refine wpAnyL_ready (rs := [7]) (by kernel_rfl) (by simp) ?_
      refine AllReadyL.cons rfl (fun KQ hK => ?_) AllReadyL.nil
      rw [if_pos (by rfl)]
      refine wp_append_sg _ _ 22 rfl w1.heap.size 81 i0 (.agg #[.int .i64 0, .int .u8 0]) 16 Try.underlying22 hi hz0 hz1 hz2 rfl _ rfl RR3.out (.slice a2 R.length c2) rfl _ (HR.out.1 _ HB3.out) HR.out.2.1 HR.out.2.2 HB3.out.size ?_
      intro v4 w4 ho hg hat
      obtain ⟨va4, vc4, rfl⟩ := own_shape ho
      have RR4 : Hid (w4.ownsRow w1.heap.size 81 2 (.slice va4 R.length vc4) R.length (sgI R)) := ho
      have HB4 : Hid (Below w1.heap.size w1 w4) := HB3.out.grown hg HB3.out.size (fun b hb => (RR3.out.lt b hb).1)
      have RL4 : Hid (w4.ownsRow w1.heap.size 81 2 (.slice va2 L.length vc2) L.length (sgI L)) := RL3.out.kept hg (.inr HD3.out)
      refine hK.out _ _ HB4.out (fun hH4 => ?_)
      clear ho hg hat
      clear hK KQ
      refine wpAnyL_take (i := 10) (oi := { dst := some 13, op := Go.Op.build 24 #[(0, Go.Operand.tmp 6), (1, Go.Operand.tmp 10), (2, Go.Operand.tmp 12)], type := 24, pos := "law.go:37", after := #[{ on := 3, ground := Go.Ground.data }, { on := 7, ground := Go.Ground.data }, { on := 9, ground := Go.Ground.data }], guard := none }) (v := ?_) rfl (by kernel_rfl) (by kernel_rfl) (by decide) (by kernel_rfl) (by kernel_rfl) (by kernel_rfl) (fun _ _ _ h => h) (Or.inl ⟨by rfl, ?_⟩) (by assumption) ?_
      rotate_left
      · intro w' hS; go_simp; (try with_reducible rfl)
      simp only [Act.put, List.setIfInBounds_toArray, List.set_cons_zero, List.set_cons_succ]
      refine wpAnyL_ready (rs := [11]) (by kernel_rfl) (by simp) ?_
      refine AllReadyL.last rfl (fun KQ hK => ?_)
      have HJ2 : Hid (w4.heap[w.heap.size + 1]? = some (.cells #[.slice none 0 0, .slice none 0 0, .bool false] 24 (0, 0))) := (HII.out _ HB4.out).2
      have j0 := cell_at (j := 0) HJ2.out rfl
      have j1 := cell_at (j := 1) HJ2.out rfl
      have j2 := cell_at (j := 2) HJ2.out rfl
      have jf : ∀ j, w4.frozen? ⟨w.heap.size + 1, j, none⟩ = false := fun j => froz_of HJ2.out
      go_simp
      refine hK.out _ _ ?_
      clear hK KQ
      refine wpAnyL_done (by kernel_rfl) ?_ _
      go_wp2_with fail
      refine bodyPost_ret (results_id1 rfl rfl (heap_set (heap_set (heap_set HJ2.out))) rfl) rfl ⟨_, _, rfl, own_mono (own_keep RL4.out (fun b cur hb hc => ?_)) HBW.out.size, own_mono (own_keep RR4.out (fun b cur hb hc => ?_)) HBW.out.size, ?_⟩
      · have := (own_blk RL4.out hb).1; have hj := HJL.out; rw [heap_set_other (by omega), heap_set_other (by omega), heap_set_other (by omega)]
      · have := (own_blk RR4.out hb).1; have hj := HJL.out; rw [heap_set_other (by omega), heap_set_other (by omega), heap_set_other (by omega)]
      · exact (((go_on HBW.out HB4.out).setCell (p := ⟨w.heap.size + 1, 0, none⟩) (Nat.le_succ _) _).setCell (p := ⟨w.heap.size + 1, 1, none⟩) (Nat.le_succ _) _).setCell (p := ⟨w.heap.size + 1, 2, none⟩) (Nat.le_succ _) _
    · skip
      go_simp
      have HB2 : Hid (Below w1.heap.size w1 ((y0.alloc (.cells #[] 81)).alloc (.cells #[] 81))) := HB1.out.trans ((below_new _ _).mono HB1.out.size)
      have RL2 : Hid (((y0.alloc (.cells #[] 81)).alloc (.cells #[] 81)).ownsRow w1.heap.size 81 2 (.slice (some ⟨y0.heap.size, 0, none⟩) 0 0) 0 []) := RL1.out.alloc _
      have HD2 : Hid (some (y0.heap.size) ≠ some (y0.heap.size + 1)) := by show _ ≠ _; simp
      have RR2 : Hid (((y0.alloc (.cells #[] 81)).alloc (.cells #[] 81)).ownsRow w1.heap.size 81 2 (.slice (some ⟨y0.heap.size + 1, 0, none⟩) 0 0) 0 []) := by show World.ownsRow _ _ _ _ _ _ _; have := World.ownsRow_made (base := w1.heap.size) (e := 81) (size := 2) (y0.alloc (.cells #[] 81)) #[] 0 HB1.out.size (by unfold maxLen; omega) rfl; simpa using this
      refine hK.out _ _ HB2.out (fun hH2 => ?_)
      clear hK KQ
      refine wpAnyL_ready (rs := [3]) (by kernel_rfl) (by simp) ?_
      refine AllReadyL.cons rfl (fun KQ hK => ?_) AllReadyL.nil
      rw [if_pos (by rfl)]
      refine wp_append_sg _ _ 22 rfl w1.heap.size 81 i0 (.agg #[.int .i64 0, .int .u8 0]) 16 Try.underlying22 hi hz0 hz1 hz2 rfl _ rfl RL2.out (.slice a1 L.length c1) rfl _ (HL.out.1 _ HB2.out) HL.out.2.1 HL.out.2.2 HB2.out.size ?_
      intro v3 w3 ho hg hat
      obtain ⟨va3, vc3, rfl⟩ := own_shape ho
      have RL3 : Hid (w3.ownsRow w1.heap.size 81 2 (.slice va3 L.length vc3) L.length (sgI L)) := ho
      have HB3 : Hid (Below w1.heap.size w1 w3) := HB2.out.grown hg HB2.out.size (fun b hb => (RL2.out.lt b hb).1)
      have RR3 : Hid (w3.ownsRow w1.heap.size 81 2 (.slice (some ⟨y0.heap.size + 1, 0, none⟩) 0 0) 0 []) := RR2.out.kept hg (.inr (fun e => HD2.out (e.symm)))
      have HD3 : Hid ((Value.slice va3 L.length vc3).ownBlock ≠ some (y0.heap.size + 1)) := by
        rcases hat with q | q
        · show _ ≠ _; rw [q]; exact fun e => HD2.out (e)
        · show _ ≠ _; rw [q]; intro e; simp only [Option.some.injEq, World.size_alloc] at e; omega
      refine hK.out _ _ HB3.out (fun hH3 => ?_)
      clear ho hg hat
      clear hK KQ
      refine wpAnyL_ready (rs := [7]) (by kernel_rfl) (by simp) ?_
      refine AllReadyL.cons rfl (fun KQ hK => ?_) AllReadyL.nil
      rw [if_pos (by rfl)]
      refine wp_append_sg _ _ 22 rfl w1.heap.size 81 i0 (.agg #[.int .i64 0, .int .u8 0]) 16 Try.underlying22 hi hz0 hz1 hz2 rfl _ rfl RR3.out (.slice a2 R.length c2) rfl _ (HR.out.1 _ HB3.out) HR.out.2.1 HR.out.2.2 HB3.out.size ?_
      intro v4 w4 ho hg hat
      obtain ⟨va4, vc4, rfl⟩ := own_shape ho
      have RR4 : Hid (w4.ownsRow w1.heap.size 81 2 (.slice va4 R.length vc4) R.length (sgI R)) := ho
      have HB4 : Hid (Below w1.heap.size w1 w4) := HB3.out.grown hg HB3.out.size (fun b hb => (RR3.out.lt b hb).1)
      have RL4 : Hid (w4.ownsRow w1.heap.size 81 2 (.slice va3 L.length vc3) L.length (sgI L)) := RL3.out.kept hg (.inr HD3.out)
      refine hK.out _ _ HB4.out (fun hH4 => ?_)
      clear ho hg hat
      clear hK KQ
      refine wpAnyL_take (i := 10) (oi := { dst := some 13, op := Go.Op.build 24 #[(0, Go.Operand.tmp 6), (1, Go.Operand.tmp 10), (2, Go.Operand.tmp 12)], type := 24, pos := "law.go:37", after := #[{ on := 3, ground := Go.Ground.data }, { on := 7, ground := Go.Ground.data }, { on := 9, ground := Go.Ground.data }], guard := none }) (v := ?_) rfl (by kernel_rfl) (by kernel_rfl) (by decide) (by kernel_rfl) (by kernel_rfl) (by kernel_rfl) (fun _ _ _ h => h) (Or.inl ⟨by rfl, ?_⟩) (by assumption) ?_
      rotate_left
      · intro w' hS; go_simp; (try with_reducible rfl)
      simp only [Act.put, List.setIfInBounds_toArray, List.set_cons_zero, List.set_cons_succ]
      refine wpAnyL_ready (rs := [11]) (by kernel_rfl) (by simp) ?_
      refine AllReadyL.last rfl (fun KQ hK => ?_)
      have HJ2 : Hid (w4.heap[w.heap.size + 1]? = some (.cells #[.slice none 0 0, .slice none 0 0, .bool false] 24 (0, 0))) := (HII.out _ HB4.out).2
      have j0 := cell_at (j := 0) HJ2.out rfl
      have j1 := cell_at (j := 1) HJ2.out rfl
      have j2 := cell_at (j := 2) HJ2.out rfl
      have jf : ∀ j, w4.frozen? ⟨w.heap.size + 1, j, none⟩ = false := fun j => froz_of HJ2.out
      go_simp
      refine hK.out _ _ ?_
      clear hK KQ
      refine wpAnyL_done (by kernel_rfl) ?_ _
      go_wp2_with fail
      refine bodyPost_ret (results_id1 rfl rfl (heap_set (heap_set (heap_set HJ2.out))) rfl) rfl ⟨_, _, rfl, own_mono (own_keep RL4.out (fun b cur hb hc => ?_)) HBW.out.size, own_mono (own_keep RR4.out (fun b cur hb hc => ?_)) HBW.out.size, ?_⟩
      · have := (own_blk RL4.out hb).1; have hj := HJL.out; rw [heap_set_other (by omega), heap_set_other (by omega), heap_set_other (by omega)]
      · have := (own_blk RR4.out hb).1; have hj := HJL.out; rw [heap_set_other (by omega), heap_set_other (by omega), heap_set_other (by omega)]
      · exact (((go_on HBW.out HB4.out).setCell (p := ⟨w.heap.size + 1, 0, none⟩) (Nat.le_succ _) _).setCell (p := ⟨w.heap.size + 1, 1, none⟩) (Nat.le_succ _) _).setCell (p := ⟨w.heap.size + 1, 2, none⟩) (Nat.le_succ _) _
  · skip
    go_simp
    have HB1 : Hid (Below w1.heap.size w1 (y0.alloc (.cells #[] 81))) := HB0.out.trans ((below_new _ _).mono HB0.out.size)
    have RR1 : Hid ((y0.alloc (.cells #[] 81)).ownsRow w1.heap.size 81 2 (.slice (some ⟨y0.heap.size, 0, none⟩) 0 0) 0 []) := by show World.ownsRow _ _ _ _ _ _ _; have := World.ownsRow_made (base := w1.heap.size) (e := 81) (size := 2) y0 #[] 0 HB0.out.size (by unfold maxLen; omega) rfl; simpa using this
    refine hK.out _ _ HB1.out (fun hH1 => ?_)
    clear hK KQ
    refine wpAnyL_ready (rs := [0]) (by kernel_rfl) (by simp) ?_
    refine AllReadyL.cons rfl (fun KQ hK => ?_) AllReadyL.nil
    go_simp
    have HB2 : Hid (Below w1.heap.size w1 ((y0.alloc (.cells #[] 81)).alloc (.cells #[] 81))) := HB1.out.trans ((below_new _ _).mono HB1.out.size)
    have RR2 : Hid (((y0.alloc (.cells #[] 81)).alloc (.cells #[] 81)).ownsRow w1.heap.size 81 2 (.slice (some ⟨y0.heap.size, 0, none⟩) 0 0) 0 []) := RR1.out.alloc _
    have HD2 : Hid (some (y0.heap.size) ≠ some (y0.heap.size + 1)) := by show _ ≠ _; simp
    have RL2 : Hid (((y0.alloc (.cells #[] 81)).alloc (.cells #[] 81)).ownsRow w1.heap.size 81 2 (.slice (some ⟨y0.heap.size + 1, 0, none⟩) 0 0) 0 []) := by show World.ownsRow _ _ _ _ _ _ _; have := World.ownsRow_made (base := w1.heap.size) (e := 81) (size := 2) (y0.alloc (.cells #[] 81)) #[] 0 HB1.out.size (by unfold maxLen; omega) rfl; simpa using this
    refine hK.out _ _ HB2.out (fun hH2 => ?_)
    clear hK KQ
    refine wpAnyL_ready (rs := [3]) (by kernel_rfl) (by simp) ?_
    refine AllReadyL.cons rfl (fun KQ hK => ?_) AllReadyL.nil
    rw [if_pos (by rfl)]
    refine wp_append_sg _ _ 22 rfl w1.heap.size 81 i0 (.agg #[.int .i64 0, .int .u8 0]) 16 Try.underlying22 hi hz0 hz1 hz2 rfl _ rfl RL2.out (.slice a1 L.length c1) rfl _ (HL.out.1 _ HB2.out) HL.out.2.1 HL.out.2.2 HB2.out.size ?_
    intro v3 w3 ho hg hat
    obtain ⟨va3, vc3, rfl⟩ := own_shape ho
    have RL3 : Hid (w3.ownsRow w1.heap.size 81 2 (.slice va3 L.length vc3) L.length (sgI L)) := ho
    have HB3 : Hid (Below w1.heap.size w1 w3) := HB2.out.grown hg HB2.out.size (fun b hb => (RL2.out.lt b hb).1)
    have RR3 : Hid (w3.ownsRow w1.heap.size 81 2 (.slice (some ⟨y0.heap.size, 0, none⟩) 0 0) 0 []) := RR2.out.kept hg (.inr (fun e => HD2.out (e)))
    have HD3 : Hid ((Value.slice va3 L.length vc3).ownBlock ≠ some (y0.heap.size)) := by
      rcases hat with q | q
      · show _ ≠ _; rw [q]; exact fun e => HD2.out (e.symm)
      · show _ ≠ _; rw [q]; intro e; simp only [Option.some.injEq, World.size_alloc] at e; omega
    refine hK.out _ _ HB3.out (fun hH3 => ?_)
    clear ho hg hat
    clear hK KQ
    refine wpAnyL_ready (rs := [7]) (by kernel_rfl) (by simp) ?_
    refine AllReadyL.cons rfl (fun KQ hK => ?_) AllReadyL.nil
    rw [if_pos (by rfl)]
    refine wp_append_sg _ _ 22 rfl w1.heap.size 81 i0 (.agg #[.int .i64 0, .int .u8 0]) 16 Try.underlying22 hi hz0 hz1 hz2 rfl _ rfl RR3.out (.slice a2 R.length c2) rfl _ (HR.out.1 _ HB3.out) HR.out.2.1 HR.out.2.2 HB3.out.size ?_
    intro v4 w4 ho hg hat
    obtain ⟨va4, vc4, rfl⟩ := own_shape ho
    have RR4 : Hid (w4.ownsRow w1.heap.size 81 2 (.slice va4 R.length vc4) R.length (sgI R)) := ho
    have HB4 : Hid (Below w1.heap.size w1 w4) := HB3.out.grown hg HB3.out.size (fun b hb => (RR3.out.lt b hb).1)
    have RL4 : Hid (w4.ownsRow w1.heap.size 81 2 (.slice va3 L.length vc3) L.length (sgI L)) := RL3.out.kept hg (.inr HD3.out)
    refine hK.out _ _ HB4.out (fun hH4 => ?_)
    clear ho hg hat
    clear hK KQ
    refine wpAnyL_take (i := 10) (oi := { dst := some 13, op := Go.Op.build 24 #[(0, Go.Operand.tmp 6), (1, Go.Operand.tmp 10), (2, Go.Operand.tmp 12)], type := 24, pos := "law.go:37", after := #[{ on := 3, ground := Go.Ground.data }, { on := 7, ground := Go.Ground.data }, { on := 9, ground := Go.Ground.data }], guard := none }) (v := ?_) rfl (by kernel_rfl) (by kernel_rfl) (by decide) (by kernel_rfl) (by kernel_rfl) (by kernel_rfl) (fun _ _ _ h => h) (Or.inl ⟨by rfl, ?_⟩) (by assumption) ?_
    rotate_left
    · intro w' hS; go_simp; (try with_reducible rfl)
    simp only [Act.put, List.setIfInBounds_toArray, List.set_cons_zero, List.set_cons_succ]
    refine wpAnyL_ready (rs := [11]) (by kernel_rfl) (by simp) ?_
    refine AllReadyL.last rfl (fun KQ hK => ?_)
    have HJ2 : Hid (w4.heap[w.heap.size + 1]? = some (.cells #[.slice none 0 0, .slice none 0 0, .bool false] 24 (0, 0))) := (HII.out _ HB4.out).2
    have j0 := cell_at (j := 0) HJ2.out rfl
    have j1 := cell_at (j := 1) HJ2.out rfl
    have j2 := cell_at (j := 2) HJ2.out rfl
    have jf : ∀ j, w4.frozen? ⟨w.heap.size + 1, j, none⟩ = false := fun j => froz_of HJ2.out
    go_simp
    refine hK.out _ _ ?_
    clear hK KQ
    refine wpAnyL_done (by kernel_rfl) ?_ _
    go_wp2_with fail
    refine bodyPost_ret (results_id1 rfl rfl (heap_set (heap_set (heap_set HJ2.out))) rfl) rfl ⟨_, _, rfl, own_mono (own_keep RL4.out (fun b cur hb hc => ?_)) HBW.out.size, own_mono (own_keep RR4.out (fun b cur hb hc => ?_)) HBW.out.size, ?_⟩
    · have := (own_blk RL4.out hb).1; have hj := HJL.out; rw [heap_set_other (by omega), heap_set_other (by omega), heap_set_other (by omega)]
    · have := (own_blk RR4.out hb).1; have hj := HJL.out; rw [heap_set_other (by omega), heap_set_other (by omega), heap_set_other (by omega)]
    · exact (((go_on HBW.out HB4.out).setCell (p := ⟨w.heap.size + 1, 0, none⟩) (Nat.le_succ _) _).setCell (p := ⟨w.heap.size + 1, 1, none⟩) (Nat.le_succ _) _).setCell (p := ⟨w.heap.size + 1, 2, none⟩) (Nat.le_succ _) _
end Go.Proofs.Ythhlamehbcidgaa
