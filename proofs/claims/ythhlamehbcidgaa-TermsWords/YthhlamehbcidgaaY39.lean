/- Sides that may be cut; the document's Cut. -/
import Derived.Test.YthhlamehbcidgaaY38
import Derived.Test.YthhlamehbcidgaaY31
namespace Go.Proofs.Ythhlamehbcidgaa
open Go Go.ChangeShapes Go.WideShapes Go.ChangeAt Go.RowKit Go.Lib
set_option linter.unusedVariables false

/-- Its length is within its room. -/
def CapOk (v : Value) : Prop := ∀ a n c, v = .slice a n c → n ≤ c
def SgC (w : World) (v : Value) (L : List (Int × Nat)) : Prop := SgR w v L ∧ CapOk v
theorem SgC.below {w w' : World} {v : Value} {L : List (Int × Nat)} (h : SgC w v L) (hb : Below w.heap.size w w') : SgC w' v L := ⟨h.1.below hb, h.2⟩
set_option maxRecDepth 100000 in
theorem open_signsC {H : Type} {enc : TypeId × Value → H} {w : World} {base : Nat} {spare : Nat → Bool} {held : Bool} {fuel : Nat} {v : Value} {y : DataW H × List MemPlace} (hf : DataW.trod enc Try.prog w base spare held fuel 22 [v] = some y) :
    ∃ L, SgC w v L ∧ L.length ≤ maxLen := by
  rcases Go.Deep.open_slice Try.underlying22 hf with ⟨hcs, hx⟩ | ⟨a', len', cap', m, n, D, Pl, hcs, hb, hl, hm, hmm, hx, hel⟩
  · simp at hcs
    subst hcs
    exact ⟨[], ⟨⟨none, 0, rfl, fun i hi => by simp at hi⟩, fun a n c e => by simp only [Value.slice.injEq] at e; omega⟩, Nat.zero_le _⟩
  · simp at hcs
    subst hcs
    have hle : len' ≤ m := by
      rw [hmm]
      split <;> omega
    have hp : ∀ i, i < len' → ∃ p : Int × Nat, ∃ g o, a' = ⟨g, o, none⟩ ∧ g < w.heap.size ∧ w.cell? ⟨g, o + i * 2, none⟩ = some (.int .i64 p.1) ∧ w.cell? ⟨g, o + i * 2 + 1, none⟩ = some (.int .u8 (p.2 : Nat)) ∧ p.2 < 256 := fun i hi => by
      obtain ⟨cs', hc, ht⟩ := hel i (by omega)
      rw [Try.cells_sign] at hc
      obtain ⟨hbb, hlen, hcell⟩ := World.cells?_some hc
      obtain ⟨p, hp, c0, c1⟩ := sg_cells ht
      obtain ⟨b, off, spot⟩ := a'
      have hspot : spot = none := by
        obtain ⟨cs0, hc1, _⟩ := hel 0 (by omega)
        rw [Try.cells_sign] at hc1
        obtain ⟨_, hl0, hcell0⟩ := World.cells?_some hc1
        have h00 := hcell0 0 (by decide)
        rw [List.getElem?_eq_getElem (by omega)] at h00
        have := World.cell?_spot h00
        simpa [Addr.add] using this
      subst hspot
      have x0 := hcell 0 (by decide)
      have x1 := hcell 1 (by decide)
      rw [c0] at x0
      rw [c1] at x1
      simp only [Addr.add_lit] at x0 x1
      exact ⟨p, b, off, rfl, World.block_lt_of_cell? w _ x0, x0, x1, hp⟩
    obtain ⟨F, hF⟩ : ∃ F : Nat → Int × Nat, ∀ i, i < len' → ∃ g o, a' = ⟨g, o, none⟩ ∧ g < w.heap.size ∧ w.cell? ⟨g, o + i * 2, none⟩ = some (.int .i64 (F i).1) ∧ w.cell? ⟨g, o + i * 2 + 1, none⟩ = some (.int .u8 ((F i).2 : Nat)) ∧ (F i).2 < 256 :=
      ⟨fun i => if h : i < len' then Classical.choose (hp i h) else (0, 0), fun i h => by
        simp only [dif_pos h]
        exact Classical.choose_spec (hp i h)⟩
    refine ⟨(List.range len').map F, ⟨⟨some a', cap', by simp, fun i hi => ?_⟩, fun a n c e => by simp only [Value.slice.injEq] at e; omega⟩, by simp; omega⟩
    have hi' : i < len' := by simpa using hi
    obtain ⟨g, o, rfl, hg, x0, x1, x2⟩ := hF i hi'
    have hgd : ((List.range len').map F).getD i (0, 0) = F i := by simp [List.getD_eq_getElem?_getD, hi']
    rw [hgd]
    exact ⟨g, o, rfl, hg, x0, x1, x2⟩
set_option maxRecDepth 100000 in
theorem open_identC {H : Type} {enc : TypeId × Value → H} {w : World} {held : Bool} {r : Reach} {b0 : Nat} {v : Value} {d : DataW H} {ps : List MemPlace} (hval : Value.okWide Try.prog w r b0 24 v) (hd : DataW.Trod enc Try.prog w 0 (fun _ => true) held 24 v d ps) :
    ∃ vl vr x L R, v = .agg #[vl, vr, .bool x] ∧ SgC w vl L ∧ SgC w vr R ∧ L.length ≤ maxLen ∧ R.length ≤ maxLen := by
  simp only [Value.okWide, Try.underlying24] at hval
  obtain ⟨cs, rfl, hsz, _⟩ := hval
  rw [Try.cells_ident] at hsz
  obtain ⟨fuel, hf⟩ := hd
  obtain ⟨y0, y1, y2, m, hx, _, h0, h1, h2⟩ := Go.Deep.trod_struct3 Try.underlying24 hf
  obtain ⟨c0, c1, c2, hcs⟩ : ∃ c0 c1 c2, cs = #[c0, c1, c2] := ⟨cs[0], cs[1], cs[2], by
    apply Array.ext_getElem?
    intro i
    have : i = 0 ∨ i = 1 ∨ i = 2 ∨ 3 ≤ i := by omega
    rcases this with rfl | rfl | rfl | hi
    · simp [hsz]
    · simp [hsz]
    · simp [hsz]
    · rw [Array.getElem?_eq_none (by omega), Array.getElem?_eq_none (by simp; omega)]⟩
  subst hcs
  simp only [Try.cells_signs, Try.cells_bool1, Value.cells] at h0 h1 h2
  have h0' : DataW.trod enc Try.prog w 0 (fun _ => true) held m 22 [c0] = some y0 := by simpa using h0
  have h1' : DataW.trod enc Try.prog w 0 (fun _ => true) held m 22 [c1] = some y1 := by simpa using h1
  obtain ⟨L, hL, lL⟩ := open_signsC h0'
  obtain ⟨R, hR, lR⟩ := open_signsC h1'
  obtain ⟨x, ex, _⟩ := DataW.trod_bool Try.underlying4 h2
  simp at ex
  subst ex
  exact ⟨c0, c1, x, L, R, rfl, hL, hR, lL, lR⟩

/-- A side that isn't empty, with its place. -/
theorem SgC.at0 {w : World} {v : Value} {L : List (Int × Nat)} (h : SgC w v L) (h0 : 0 < L.length) : ∃ g o cap, v = .slice (some ⟨g, o, none⟩) L.length cap ∧ L.length ≤ cap ∧ g < w.heap.size ∧ ∀ i, i < L.length → w.cell? ⟨g, o + i * 2, none⟩ = some (.int .i64 (L.getD i (0, 0)).1) ∧ w.cell? ⟨g, o + i * 2 + 1, none⟩ = some (.int .u8 ((L.getD i (0, 0)).2 : Nat)) ∧ (L.getD i (0, 0)).2 < 256 := by
  obtain ⟨⟨a, cap, rfl, hr⟩, hc⟩ := h
  obtain ⟨g, o, rfl, hg, _⟩ := hr 0 h0
  refine ⟨g, o, cap, rfl, hc _ _ _ rfl, hg, fun i hi => ?_⟩
  obtain ⟨g', o', e, _, h1, h2, h3⟩ := hr i hi
  simp only [Option.some.injEq, Addr.mk.injEq] at e
  obtain ⟨rfl, rfl, _⟩ := e
  exact ⟨h1, h2, h3⟩
theorem SgC.sub {w : World} {g o cap : Nat} {L : List (Int × Nat)} (h : SgC w (.slice (some ⟨g, o, none⟩) L.length cap) L) {i j : Nat} (hij : i ≤ j) (hj : j ≤ L.length) : SgC w (.slice (some ⟨g, o + i * 2, none⟩) (j - i) (cap - i)) ((L.take j).drop i) := by
  have hl : ((L.take j).drop i).length = j - i := by rw [List.length_drop, List.length_take]; omega
  have hcap := h.2 _ _ _ rfl
  refine ⟨⟨_, _, by rw [hl], fun k hk => ?_⟩, fun a n c e => by simp only [Value.slice.injEq] at e; omega⟩
  obtain ⟨⟨a, cap', e, hr⟩, _⟩ := h
  simp only [Value.slice.injEq] at e
  obtain ⟨rfl, _, rfl⟩ := e
  obtain ⟨g', o', e, hg, h1, h2, h3⟩ := hr (i + k) (by omega)
  simp only [Option.some.injEq, Addr.mk.injEq] at e
  obtain ⟨rfl, rfl, _⟩ := e
  have hgd : ((L.take j).drop i).getD k (0, 0) = L.getD (i + k) (0, 0) := by
    rw [List.getD_eq_getElem?_getD, List.getD_eq_getElem?_getD, List.getElem?_drop, List.getElem?_take, if_pos (by omega)]
  rw [hgd]
  refine ⟨g, o + i * 2, rfl, hg, ?_, ?_, h3⟩
  · rw [show o + i * 2 + k * 2 = o + (i + k) * 2 by omega]; exact h1
  · rw [show o + i * 2 + k * 2 + 1 = o + (i + k) * 2 + 1 by omega]; exact h2
theorem intS_len (L : Sg) : (intS L).length = L.length := by simp [intS]
theorem intS_take (L : Sg) (n : Nat) : (intS L).take n = intS (L.take n) := by simp [intS, List.map_take]
theorem intS_drop (L : Sg) (n : Nat) : (intS L).drop n = intS (L.drop n) := by simp [intS, List.map_drop]
theorem intS_getD (L : Sg) (i : Nat) (hi : i < L.length) : (intS L).getD i (0, 0) = (((L.getD i (0, 0)).1 : Int), (L.getD i (0, 0)).2) := by
  simp [intS, List.getD_eq_getElem?_getD, hi]
/-- A term in memory. -/
def TmC (w : World) (v : Value) (t : Tm) : Prop := SgC w v (intS t.sg)
theorem TmC.root {w : World} {v : Value} {t : Tm} (h : TmC w v t) : ∃ g o cap, v = .slice (some ⟨g, o, none⟩) t.sg.length cap ∧ t.sg.length ≤ cap ∧ g < w.heap.size ∧ w.cell? ⟨g, o + (t.sg.length - 1) * 2, none⟩ = some (.int .i64 (t.root.1 : Nat)) ∧ w.cell? ⟨g, o + (t.sg.length - 1) * 2 + 1, none⟩ = some (.int .u8 (t.root.2 : Nat)) ∧ t.root.2 < 256 := by
  have hp := t.sg_pos
  obtain ⟨g, o, cap, rfl, h1, h2, h3⟩ := SgC.at0 h (by rw [intS_len]; exact hp)
  rw [intS_len] at h1
  obtain ⟨c1, c2, c3⟩ := h3 (t.sg.length - 1) (by rw [intS_len]; omega)
  rw [intS_getD _ _ (by omega), last_root] at c1 c2 c3
  exact ⟨g, o, cap, by rw [intS_len], h1, h2, c1, c2, c3⟩

set_option maxHeartbeats 4000000 in
set_option maxRecDepth 100000 in
theorem cut_leaf (t : Tm) (hk : t.kids = []) (v : Value) (w : World) (h : TmC w v t) (hL : t.sg.length ≤ 400) : Calls Try.prog 76 #[v] w fun e w' => e = .returned (.slice none 0 0) ∧ Below w.heap.size w w' := by
  obtain ⟨g, o, cap, rfl, hc, hg, c1, c2, -⟩ := h.root
  have har := t.ar
  rw [hk] at har
  have HAR : Hid (∀ y, Calls Try.prog 79 #[.int .i64 (t.root.1 : Nat)] y fun e w' => e = .returned (.int .i64 0) ∧ y = w') := fun y => by
    have := rarity_any (t.root.1 : Int) y
    rw [har] at this
    exact this
  have hp := t.sg_pos
  have hw : IntKind.i64.wrap ((t.sg.length : Int) - 1) = ((t.sg.length - 1 : Nat) : Int) := by rw [IntKind.wrap_i64]; omega
  have hlt : ((t.sg.length - 1 : Nat) : Int) < t.sg.length := by omega
  clear h har c2
  go_enter Try.func76, Try.ntmps76
  go_wp2_with fail
  refine (HAR.out _).mono ?_
  rintro e w3 ⟨rfl, rfl⟩
  go_wp2_with fail
  go_ret
  exact ⟨rfl, Below.refl _ _⟩

set_option maxHeartbeats 4000000 in
set_option maxRecDepth 100000 in
theorem cut_om (t : Tm) (v : Value) (w : World) (h : TmC w v (.om t)) (hL : (Tm.om t).sg.length ≤ 400) : Calls Try.prog 76 #[v] w fun e w' => ∃ v1, e = .returned (.slice (some ⟨w.heap.size, 0, none⟩) 1 1) ∧ w'.heap[w.heap.size]? = some (.cells #[v1] 22 (0, 0)) ∧ TmC w' v1 t ∧ Below w.heap.size w w' := by
  obtain ⟨g, o, cap, rfl, hc, hg, c1, c2, -⟩ := h.root
  have HAR : Hid (∀ y, Calls Try.prog 79 #[.int .i64 4] y fun e w' => e = .returned (.int .i64 1) ∧ y = w') := fun y => rarity_any 4 y
  have hp := (Tm.om t).sg_pos
  have hsl : (Tm.om t).sg.length = t.sg.length + 1 := om_len t
  have HSUB : Hid (TmC w (.slice (some ⟨g, o, none⟩) t.sg.length cap) t) := by
    have h2 := SgC.sub (i := 0) (j := t.sg.length) (by have := h; unfold TmC at this; rw [← intS_len] at this; exact this) (Nat.zero_le _) (by rw [intS_len]; omega)
    rw [List.drop_zero, intS_take, show ((Tm.om t).sg).take t.sg.length = t.sg from take_len_app _ _] at h2
    show SgC _ _ _
    simpa using h2
  rw [show (Tm.om t).root = (4, 0) from rfl] at c1
  rw [hsl] at c1 hc hL ⊢
  rw [Nat.add_sub_cancel] at c1
  have hw : IntKind.i64.wrap (((t.sg.length + 1 : Nat) : Int) - 1) = ((t.sg.length : Nat) : Int) := by rw [IntKind.wrap_i64]; omega
  have hlt : (t.sg.length : Int) < (t.sg.length + 1 : Nat) := by omega
  have hlc : (t.sg.length : Int) ≤ (cap : Int) := by omega
  have hcn : ¬ cap = 0 := by omega
  clear h c2 hsl
  go_enter Try.func76, Try.ntmps76
  go_wp2_with fail
  refine (HAR.out _).mono ?_
  rintro e w3 ⟨rfl, rfl⟩
  go_wp2_with fail
  go_ret
  exact ⟨_, rfl, heap_last _ _, HSUB.out.below (below_new _ _), below_new _ _⟩

set_option maxHeartbeats 8000000 in
set_option maxRecDepth 100000 in
theorem cut_mul (a b : Tm) (v : Value) (w : World) (h : TmC w v (.mul a b)) (hL : (Tm.mul a b).sg.length ≤ 400) : Calls Try.prog 76 #[v] w fun e w' => ∃ v1 v2, e = .returned (.slice (some ⟨w.heap.size, 0, none⟩) 2 2) ∧ w'.heap[w.heap.size]? = some (.cells #[v1, v2] 22 (0, 0)) ∧ TmC w' v1 a ∧ TmC w' v2 b ∧ Below w.heap.size w w' := by
  obtain ⟨g, o, cap, rfl, hc, hg, c1, c2, -⟩ := h.root
  have HAR : Hid (∀ k y, Calls Try.prog 79 #[.int .i64 k] y fun e w' => e = .returned (.int .i64 (arN k)) ∧ y = w') := fun k y => rarity_any k y
  have HAR3 : Hid (∀ y, Calls Try.prog 79 #[.int .i64 3] y fun e w' => e = .returned (.int .i64 2) ∧ y = w') := fun y => rarity_any 3 y
  have hp := (Tm.mul a b).sg_pos
  have hsl : (Tm.mul a b).sg.length = a.sg.length + b.sg.length + 1 := mul_len a b
  have hpa := a.sg_pos
  have hpb := b.sg_pos
  obtain ⟨n, hn⟩ : ∃ n, a.sg.length + b.sg.length = n := ⟨_, rfl⟩
  have HN : Hid (a.sg.length + b.sg.length = n) := hn
  have h' : SgC w (.slice (some ⟨g, o, none⟩) (intS (Tm.mul a b).sg).length cap) (intS (Tm.mul a b).sg) := by rw [intS_len]; exact h
  have HSA : Hid (TmC w (.slice (some ⟨g, o, none⟩) a.sg.length cap) a) := by
    have h2 := SgC.sub (i := 0) (j := a.sg.length) h' (Nat.zero_le _) (by rw [intS_len]; omega)
    rw [List.drop_zero, intS_take, show ((Tm.mul a b).sg).take a.sg.length = a.sg by show List.take _ ((a.sg ++ b.sg) ++ [(3, 0)]) = _; rw [List.append_assoc]; exact take_len_app _ _] at h2
    show SgC _ _ _
    simpa using h2
  have HSB : Hid (TmC w (.slice (some ⟨g, o + a.sg.length * 2, none⟩) (n - a.sg.length) (cap - a.sg.length)) b) := by
    have h2 := SgC.sub (i := a.sg.length) (j := n) h' (by omega) (by rw [intS_len]; omega)
    rw [intS_take, intS_drop, show (((Tm.mul a b).sg).take n).drop a.sg.length = b.sg by
      have := cut_start a b
      rw [hsl, Nat.add_sub_cancel, hn, Fo_one] at this
      rw [this]
      simp] at h2
    exact h2
  have HCELL : Hid (∀ i, i < n → w.cell? ⟨g, o + i * 2, none⟩ = some (.int .i64 (((Tm.mul a b).sg.getD i (0, 0)).1 : Nat))) := fun i hi => by
    obtain ⟨g', o', cap', e, _, _, h3⟩ := SgC.at0 h (by rw [intS_len]; exact hp)
    simp only [Value.slice.injEq, Option.some.injEq, Addr.mk.injEq] at e
    obtain ⟨⟨rfl, rfl, _⟩, _, rfl⟩ := e
    have := (h3 i (by rw [intS_len]; omega)).1
    rw [intS_getD _ _ (by omega)] at this
    exact this
  have HST : Hid ((Tm.mul a b).sg.take n = a.sg ++ Fo ([] ++ [b])) := by
    have := cut_start a b
    rw [hsl, Nat.add_sub_cancel, hn] at this
    exact this
  have HSL : Hid ((Tm.mul a b).sg.length = n + 1) := by show _ = _; omega
  have HPA : Hid (0 < a.sg.length) := hpa
  have HNN : Hid (n < 400) := by show _ < _; omega
  rw [show (Tm.mul a b).root = (3, 0) from rfl] at c1
  rw [hsl, hn] at c1 hc hL ⊢
  rw [Nat.add_sub_cancel] at c1
  have hw : IntKind.i64.wrap (((n + 1 : Nat) : Int) - 1) = (n : Int) := by rw [IntKind.wrap_i64]; omega
  have hw2 : IntKind.i64.wrap ((n : Int) - 1) = ((n - 1 : Nat) : Int) := by rw [IntKind.wrap_i64]; omega
  have hlt : (n : Int) < (n + 1 : Nat) := by omega
  have hlc : (n : Int) ≤ (cap : Int) := by omega
  clear h h' c2 hsl
  go_enter Try.func76, Try.ntmps76
  go_wp2_with fail
  refine (HAR3.out _).mono ?_
  rintro e w3 ⟨rfl, rfl⟩
  go_wp2_with fail
  go_loopw [4, 5] (fun vi vw wr => ∃ (i q : Nat) (ts : List Tm) (t : Tm), vi = .int .i64 (i : Nat) ∧ i < n ∧ vw = .int .i64 (q : Nat) ∧ q = ts.length + 1 ∧ (Tm.mul a b).sg.take (i + 1) = a.sg ++ Fo (ts ++ [t]) ∧ wr = w) (fun vi _ _ => (Go.RowKit.intOf vi).toNat)
  case atStart => exact ⟨n - 1, 1, [], b, rfl, by omega, rfl, rfl, by rw [show n - 1 + 1 = n by omega]; exact HST.out, rfl⟩
  case round =>
    obtain ⟨i, q, ts, t, rfl, hi, rfl, hq, htk, rfl⟩ := hrel
    obtain ⟨q1, q2, q3⟩ := cut_step htk (by have := HSL.out; omega)
    have hci := HCELL.out i hi
    rw [q1] at hci
    have hkl : t.kids.length ≤ 2 := by cases t <;> simp [Tm.kids]
    have htl : ts.length < i + 1 := by
      have h1 := Fo_len (ts ++ [t])
      have h2 : ((Tm.mul a b).sg.take (i + 1)).length ≤ i + 1 := by rw [List.length_take]; omega
      rw [htk, List.length_append] at h2
      rw [List.length_append] at h1
      simp only [List.length_singleton] at h1
      omega
    have HARK : Hid (∀ y, Calls Try.prog 79 #[.int .i64 (t.root.1 : Nat)] y fun e w' => e = .returned (.int .i64 (t.kids.length : Nat)) ∧ y = w') := fun y => by
      have := rarity_any (t.root.1 : Int) y
      rw [t.ar] at this
      exact this
    obtain ⟨p, hp⟩ : ∃ p, ts.length = p := ⟨_, rfl⟩
    obtain ⟨m, hm⟩ : ∃ m, t.kids.length = m := ⟨_, rfl⟩
    obtain ⟨r, hr⟩ : ∃ r, p + m = r := ⟨_, rfl⟩
    rw [hp] at hq htl
    rw [hm] at HARK hkl
    have HPM : Hid (ts.length = p ∧ t.kids.length = m ∧ p + m = r) := ⟨hp, hm, hr⟩
    have hw3 : IntKind.i64.wrap ((q : Int) - 1) = (p : Int) := by have := HNN.out; rw [IntKind.wrap_i64]; omega
    have hw4 : IntKind.i64.wrap ((p : Int) + (m : Int)) = (r : Int) := by have := HNN.out; rw [IntKind.wrap_i64]; omega
    have hiI : (i : Int) < ((n + 1 : Nat) : Int) := by omega
    have HQ : Hid ((Tm.mul a b).sg.take i = a.sg ++ Fo (ts ++ t.kids) ∧ i = (a.sg ++ Fo (ts ++ t.kids)).length) := ⟨q2, q3⟩
    have HI : Hid (i < n) := hi
    clear htk q1 q2 q3
    by_cases hz : r = 0
    · subst hz
      have hia : Hid (i = a.sg.length) := by
        show _ = _
        have h1 : ts ++ t.kids = [] := Fo_nil (by rw [List.length_append]; have := HPM.out; omega)
        have h2 := HQ.out.2
        rw [h1, List.length_append] at h2
        simpa [Fo] using h2
      have hi0 : (i : Int) ≤ (cap : Int) := by omega
      have hicap : ¬ cap = i := by omega
      have hin : (i : Int) ≤ (n : Int) := by omega
      have hsb : ((n : Int) - (i : Int)).toNat = n - i := by omega
      go_upto_region 8 with fail
      go_wp2_with fail
      refine (HARK.out _).mono ?_
      rintro e w3 ⟨rfl, rfl⟩
      go_upto_region 10 with fail
      refine wp_region_held_drew (S := fun y => Below wr.heap.size wr y) (by kernel_rfl) (Below.refl _ _).drew (fun hH0 => ?_)
      refine wpAnyH_take (i := 0) (oi := { dst := some 36, op := Go.Op.move (Go.Operand.tmp 0), type := 22, pos := "ref.go:102", after := #[], guard := none }) (v := ?_) rfl (by kernel_rfl) (by kernel_rfl) (by kernel_rfl) (fun _ _ _ h => h) (Or.inl ⟨by rfl, ?_⟩) (by assumption) ?_
      rotate_left
      · intro w' hS; go_simp; (try with_reducible rfl)
      simp only [Act.put, List.setIfInBounds_toArray, List.set_cons_zero, List.set_cons_succ]
      refine wpAnyH_take (i := 1) (oi := { dst := some 37, op := Go.Op.move (Go.Operand.tmp 4), type := 3, pos := "ref.go:102", after := #[], guard := none }) (v := ?_) rfl (by kernel_rfl) (by kernel_rfl) (by kernel_rfl) (fun _ _ _ h => h) (Or.inl ⟨by rfl, ?_⟩) (by assumption) ?_
      rotate_left
      · intro w' hS; go_simp; (try with_reducible rfl)
      simp only [Act.put, List.setIfInBounds_toArray, List.set_cons_zero, List.set_cons_succ]
      refine wpAnyH_take (i := 2) (oi := { dst := some 38, op := Go.Op.slice 22 (Go.Operand.tmp 36) none (some (Go.Operand.tmp 37)) none, type := 22, pos := "ref.go:102", after := #[{ on := 0, ground := Go.Ground.data }, { on := 1, ground := Go.Ground.data }], guard := none }) (v := ?_) rfl (by kernel_rfl) (by kernel_rfl) (by kernel_rfl) (fun _ _ _ h => h) (Or.inl ⟨by rfl, ?_⟩) (by assumption) ?_
      rotate_left
      · intro w' hS; go_simp; (try with_reducible rfl)
      simp only [Act.put, List.setIfInBounds_toArray, List.set_cons_zero, List.set_cons_succ]
      refine wpAnyH_take (i := 3) (oi := { dst := some 39, op := Go.Op.move (Go.Operand.tmp 0), type := 22, pos := "ref.go:102", after := #[], guard := none }) (v := ?_) rfl (by kernel_rfl) (by kernel_rfl) (by kernel_rfl) (fun _ _ _ h => h) (Or.inl ⟨by rfl, ?_⟩) (by assumption) ?_
      rotate_left
      · intro w' hS; go_simp; (try with_reducible rfl)
      simp only [Act.put, List.setIfInBounds_toArray, List.set_cons_zero, List.set_cons_succ]
      refine wpAnyH_take (i := 4) (oi := { dst := some 40, op := Go.Op.move (Go.Operand.tmp 4), type := 3, pos := "ref.go:102", after := #[], guard := none }) (v := ?_) rfl (by kernel_rfl) (by kernel_rfl) (by kernel_rfl) (fun _ _ _ h => h) (Or.inl ⟨by rfl, ?_⟩) (by assumption) ?_
      rotate_left
      · intro w' hS; go_simp; (try with_reducible rfl)
      simp only [Act.put, List.setIfInBounds_toArray, List.set_cons_zero, List.set_cons_succ]
      refine wpAnyH_take (i := 5) (oi := { dst := some 41, op := Go.Op.move (Go.Operand.tmp 3), type := 3, pos := "ref.go:102", after := #[], guard := none }) (v := ?_) rfl (by kernel_rfl) (by kernel_rfl) (by kernel_rfl) (fun _ _ _ h => h) (Or.inl ⟨by rfl, ?_⟩) (by assumption) ?_
      rotate_left
      · intro w' hS; go_simp; (try with_reducible rfl)
      simp only [Act.put, List.setIfInBounds_toArray, List.set_cons_zero, List.set_cons_succ]
      refine wpAnyH_take (i := 6) (oi := { dst := some 42, op := Go.Op.slice 22 (Go.Operand.tmp 39) (some (Go.Operand.tmp 40)) (some (Go.Operand.tmp 41)) none, type := 22, pos := "ref.go:102", after := #[{ on := 3, ground := Go.Ground.data }, { on := 4, ground := Go.Ground.data }, { on := 5, ground := Go.Ground.data }], guard := none }) (v := ?_) rfl (by kernel_rfl) (by kernel_rfl) (by kernel_rfl) (fun _ _ _ h => h) (Or.inl ⟨by rfl, ?_⟩) (by assumption) ?_
      rotate_left
      · intro w' hS; go_simp; (try with_reducible rfl)
      simp only [Act.put, List.setIfInBounds_toArray, List.set_cons_zero, List.set_cons_succ]
      refine wpAnyH_ready (rs := [7]) (by kernel_rfl) (by simp) ?_
      refine AllReadyH.cons rfl (fun K hK => ?_) AllReadyH.nil
      go_simp
      refine hK.out _ _ (go_on hH0 (below_new _ _)) (fun hH1 => ?_)
      clear hK K
      refine wpAnyH_take (i := 8) (oi := { dst := some 2, op := Go.Op.assign (Go.Operand.tmp 43), type := 114, pos := "ref.go:102", after := #[{ on := 7, ground := Go.Ground.data }, { on := 0, ground := Go.Ground.phase }, { on := 1, ground := Go.Ground.phase }, { on := 2, ground := Go.Ground.phase }, { on := 3, ground := Go.Ground.phase }, { on := 4, ground := Go.Ground.phase }, { on := 5, ground := Go.Ground.phase }, { on := 6, ground := Go.Ground.phase }, { on := 7, ground := Go.Ground.phase }], guard := none }) (v := ?_) rfl (by kernel_rfl) (by kernel_rfl) (by kernel_rfl) (fun _ _ _ h => h) (Or.inl ⟨by rfl, ?_⟩) (by assumption) ?_
      rotate_left
      · intro w' hS; go_simp; (try with_reducible rfl)
      simp only [Act.put, List.setIfInBounds_toArray, List.set_cons_zero, List.set_cons_succ]
      refine wpAnyH_done (by kernel_rfl) ?_ _
      go_wp2_with fail
      go_ret
      have e := hia.out
      subst e
      exact ⟨_, _, rfl, heap_last wr _, HSA.out.below hH1, HSB.out.below hH1, hH1⟩
    · have hzI : ¬ (r : Int) = 0 := by omega
      have hzb : ((r : Int) == 0) = false := beq_eq_false_iff_ne.2 hzI
      have hzd : decide ((r : Int) = 0) = false := decide_eq_false hzI
      obtain ⟨us, u, hus⟩ : ∃ us u, ts ++ t.kids = us ++ [u] := by
        rcases nil_or_snoc (ts ++ t.kids) with h1 | ⟨us, u, h1⟩
        · have := congrArg List.length h1
          rw [List.length_append] at this
          have h2 := HPM.out
          simp only [List.length_nil] at this
          omega
        · exact ⟨us, u, h1⟩
      have HUL : Hid (r = us.length + 1) := by
        show _ = _
        have := congrArg List.length hus
        rw [List.length_append, List.length_append] at this
        have h2 := HPM.out
        simp only [List.length_singleton] at this
        omega
      rw [hus] at HQ
      have hi1 : 1 ≤ i := by
        have h1 := HQ.out.2
        rw [List.length_append] at h1
        have := HPA.out
        omega
      have hw5 : IntKind.i64.wrap ((i : Int) - 1) = ((i - 1 : Nat) : Int) := by rw [IntKind.wrap_i64]; omega
      go_upto_region 8 with fail
      go_wp2_with fail
      refine (HARK.out _).mono ?_
      rintro e w3 ⟨rfl, rfl⟩
      go_wp2_with fail
      go_roundw
      case rel => exact ⟨i - 1, r, us, u, rfl, by omega, rfl, HUL.out, by rw [show i - 1 + 1 = i by omega]; exact HQ.out.1, trivial⟩
      case measure => simp [Go.RowKit.intOf]; omega
end Go.Proofs.Ythhlamehbcidgaa
