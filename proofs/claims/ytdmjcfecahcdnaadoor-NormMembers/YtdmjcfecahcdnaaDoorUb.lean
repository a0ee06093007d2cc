/- The document's rules on trees, and that they are the program's. The document's rules of Star and Not. The document's rule of Concat: its walks (printed by tools/behind.py). The document's rule of Concat is the program's. -/
import Derived.Test.YtdmjcfecahcdnaaDoorXa
import Derived.Test.YtdmjcfecahcdnaaDoorUa
namespace Go.Proofs.YtdmjcfecahcdnaaDoor
open Go Go.RowKit
set_option linter.unusedVariables false

/-- A form's members, as the document goes. -/
def Lst (k : Int) : Tr → List Tr
  | .zero n => if Tr.zero n = unitK k then [] else [.zero n]
  | .one n a => if Tr.one n a = unitK k then [] else [.one n a]
  | .two n a b => if n.1 = k then Lst k a ++ Lst k b else [.two n a b]
theorem two_unit (k : Int) (n : Nd) (a b : Tr) : Tr.two n a b ≠ unitK k := by unfold unitK; split <;> simp [tNone, tAll]
theorem two_zero (k : Int) (n : Nd) (a b : Tr) : Tr.two n a b ≠ zeroK k := by unfold zeroK; split <;> simp [tNone, tAll]
theorem nf_two {k : Int} (hk : k = 5 ∨ k = 6) {n : Nd} {a b : Tr} (ho : (Tr.two n a b).ok) (h : NF (.two n a b)) (hr : n.1 = k) : a ≠ unitK k ∧ b ≠ unitK k ∧ b.root.1 ≠ k ∧ a ≠ zeroK k ∧ b ≠ zeroK k := by
  have hM := h.2.2.2 (by omega)
  rw [hr] at hM
  have hb := hM.2 b (by simp)
  by_cases ha : a.root.1 = k
  · exact ⟨fun e => unit_root hk (e ▸ ha), hb.2.1, hb.1, fun e => zero_root hk (e ▸ ha), hb.2.2⟩
  · have := hM.2 a (by rw [spine_other ha]; simp)
    exact ⟨this.2.1, hb.2.1, hb.1, this.2.2, hb.2.2⟩
theorem Lst_mb {k : Int} (hk : k = 5 ∨ k = 6) : ∀ {x : Tr}, x.ok → NF x → Lst k x = Mb k x
  | .zero n, ho, h => rfl
  | .one n a, ho, h => rfl
  | .two n a b, ho, h => by
    unfold Lst
    by_cases hr : n.1 = k
    · have h1 := nf_two hk ho h hr
      rw [if_pos hr, Lst_mb hk ho.2.2.1 h.1, Lst_mb hk ho.2.2.2 h.2.1]
      unfold Mb
      rw [if_neg h1.1, if_neg h1.2.1, if_neg (two_unit k n a b), spine_other h1.2.2.1, spine, if_pos hr]
    · rw [if_neg hr]
      unfold Mb
      rw [if_neg (two_unit k n a b), spine, if_neg hr]
/-- One more into a rising row, once. -/
def ins (t : Tr) : List Tr → List Tr
  | [] => [t]
  | x :: l => if ct x.flat t.flat < 0 then x :: ins t l else if ct x.flat t.flat = 0 then x :: l else t :: x :: l
theorem ins_at {t : Tr} : ∀ {l : List Tr} (k : Nat), k ≤ l.length → (∀ j, j < k → ct (l.getD j tNone).flat t.flat < 0) → (k < l.length → ¬ ct (l.getD k tNone).flat t.flat < 0) →
    ins t l = if k < l.length ∧ ct (l.getD k tNone).flat t.flat = 0 then l else l.take k ++ t :: l.drop k
  | [], k, hk, h1, h2 => by simp [ins]
  | x :: l, 0, hk, h1, h2 => by
    have h2 : ¬ ct x.flat t.flat < 0 := h2 (by simp)
    rw [ins, if_neg h2]
    show (if ct x.flat t.flat = 0 then x :: l else t :: x :: l) = if 0 < (x :: l).length ∧ ct x.flat t.flat = 0 then x :: l else t :: x :: l
    by_cases e : ct x.flat t.flat = 0
    · rw [if_pos e, if_pos ⟨by simp, e⟩]
    · rw [if_neg e, if_neg (fun h => e h.2)]
  | x :: l, k + 1, hk, h1, h2 => by
    have h0 : ct x.flat t.flat < 0 := h1 0 (by omega)
    have ih := ins_at (t := t) (l := l) k (by simpa using hk) (fun j hj => h1 (j + 1) (by omega)) (fun h => h2 (by simpa using h))
    rw [ins, if_pos h0, ih]
    have e : ((x :: l).getD (k + 1) tNone) = l.getD k tNone := rfl
    rw [e]
    by_cases c : k < l.length ∧ ct (l.getD k tNone).flat t.flat = 0
    · rw [if_pos c, if_pos ⟨by simpa using c.1, c.2⟩]
    · rw [if_neg c, if_neg (fun h => c ⟨by simpa using h.1, h.2⟩)]
      rfl
theorem mem_ins {t : Tr} (ht : t.ok) : ∀ {l : List Tr}, Oks l → ∀ m, m ∈ ins t l ↔ m ∈ l ∨ m = t
  | [], _, m => by simp [ins]
  | x :: l, hl, m => by
    have ih := mem_ins ht (l := l) (fun m h => hl m (by simp [h])) m
    rw [ins]
    split
    · rw [List.mem_cons, ih, List.mem_cons]; grind
    · split
      · next e =>
        have e := (ct_eq (hl x (by simp)) ht).1 e
        rw [List.mem_cons]; grind
      · rw [List.mem_cons]; grind
theorem ris_ins {t : Tr} (ht : t.ok) : ∀ {l : List Tr}, Oks l → Ris l → Ris (ins t l)
  | [], _, _ => by simp [ins]
  | x :: l, hl, hr => by
    have hl' : Oks l := fun m h => hl m (by simp [h])
    obtain ⟨r1, r2⟩ := List.pairwise_cons.1 hr
    have ih := ris_ins ht hl' r2
    rw [ins]
    split
    · next h0 =>
      refine List.pairwise_cons.2 ⟨fun m hm => ?_, ih⟩
      rcases (mem_ins ht hl' m).1 hm with h | rfl
      · exact r1 m h
      · exact h0
    · split
      · exact hr
      · next h0 h1 =>
        have hg : Lt t x := ct_gt (by omega)
        refine List.pairwise_cons.2 ⟨fun m hm => ?_, hr⟩
        rcases List.mem_cons.1 hm with rfl | h
        · exact hg
        · exact Lt.trans hg (r1 m h)
def insAll (l : List Tr) : List Tr := l.foldl (fun a t => ins t a) []
theorem insAll_snoc (l : List Tr) (t : Tr) : insAll (l ++ [t]) = ins t (insAll l) := by simp [insAll, List.foldl_append]
theorem insAll_spec : ∀ (n : Nat) {l : List Tr}, l.length = n → Oks l → Oks (insAll l) ∧ Ris (insAll l) ∧ (∀ m, m ∈ insAll l ↔ m ∈ l) ∧ (insAll l).length ≤ l.length ∧ lens (insAll l) ≤ lens l
  | 0, l, hn, ho => by
    obtain rfl := List.eq_nil_of_length_eq_zero hn
    exact ⟨ho, by simp [insAll], by simp [insAll], by simp [insAll], by simp [insAll]⟩
  | n + 1, l, hn, ho => by
    rcases List.eq_nil_or_concat l with e | ⟨l', t, e⟩
    · subst e; simp at hn
    · rw [List.concat_eq_append] at e
      subst e
      have ho' : Oks l' := fun m h => ho m (by simp [h])
      have ht : t.ok := ho t (by simp)
      obtain ⟨i1, i2, i3, i4, i5⟩ := insAll_spec n (l := l') (by simpa using hn) ho'
      rw [insAll_snoc]
      have hm : ∀ m, m ∈ ins t (insAll l') ↔ m ∈ l' ++ [t] := fun m => by rw [mem_ins ht i1, i3, List.mem_append, List.mem_singleton]
      have hlen : ∀ {a : List Tr}, (ins t a).length ≤ a.length + 1 ∧ lens (ins t a) ≤ lens a + (t.flat.length + 1) := by
        intro a
        induction a with
        | nil => simp [ins, lens]
        | cons x a ih =>
          rw [ins]
          split
          · simp [lens] at *; omega
          · split <;> simp [lens] <;> omega
      have h1 := (hlen (a := insAll l')).1
      have h2 := (hlen (a := insAll l')).2
      have h3 : lens (l' ++ [t]) = lens l' + (t.flat.length + 1) := by simp [lens]
      exact ⟨fun m h => ho m ((hm m).1 h), ris_ins ht i1 i2, hm, by rw [List.length_append, List.length_singleton]; omega, by omega⟩
/-- The rule of Union and Inter, as the document goes. -/
theorem sev_eq {k : Int} (hk : k = 5 ∨ k = 6) {x y : Tr} (hox : x.ok) (hx : NF x) (hoy : y.ok) (hy : NF y) (zx : x ≠ zeroK k) (zy : y ≠ zeroK k) :
    (if insAll (Lst k x ++ Lst k y) = [] then unitK k else build k (insAll (Lst k x ++ Lst k y))) = R2 k x y := by
  have mx := mb_mem hk hox hx
  have my := mb_mem hk hoy hy
  have ho : Oks (Mb k x ++ Mb k y) := fun m h => by
    rcases List.mem_append.1 h with h | h
    · exact (mx.2 m h).2.2.2.2
    · exact (my.2 m h).2.2.2.2
  have hI := insAll_spec _ rfl ho
  rw [Lst_mb hk hox hx, Lst_mb hk hoy hy]
  obtain ⟨L, hL⟩ : ∃ L, insAll (Mb k x ++ Mb k y) = L := ⟨_, rfl⟩
  rw [hL] at hI ⊢
  obtain ⟨i1, i2, i3, i4, i5⟩ := hI
  by_cases uy : y = unitK k
  · rw [show R2 k x y = x by rw [R2_eq hk hox hx hoy, if_pos (.inr uy)]]
    have e : L = Mb k x := ris_ext i2 mx.1 (fun m => by rw [i3, show Mb k y = [] by unfold Mb; rw [if_pos uy]]; simp)
    rw [e]
    by_cases ux : x = unitK k
    · rw [show Mb k x = [] by unfold Mb; rw [if_pos ux], if_pos rfl]; exact ux.symm
    · rw [show Mb k x = spine k x by unfold Mb; rw [if_neg ux], if_neg (spine_ne k x), build_spine hox]
  · by_cases ux : x = unitK k
    · rw [show R2 k x y = y by rw [R2_eq hk hox hx hoy, if_neg (by simp [zx, uy]), if_pos (.inr ux)]]
      have e : L = Mb k y := ris_ext i2 my.1 (fun m => by rw [i3, show Mb k x = [] by unfold Mb; rw [if_pos ux]]; simp)
      rw [e, show Mb k y = spine k y by unfold Mb; rw [if_neg uy], if_neg (spine_ne k y), build_spine hoy]
    · rw [show R2 k x y = build k (mrg (spine k x) (spine k y)) by rw [R2_eq hk hox hx hoy, if_neg (by simp [zx, uy]), if_neg (by simp [zy, ux])]]
      have sx := spine_mem hk hox hx
      have sy := spine_mem hk hoy hy
      have e : L = mrg (spine k x) (spine k y) := ris_ext i2 (ris_mrg _ (Nat.le_refl _) (spine_ok hox) (spine_ok hoy) sx.1 sy.1) (fun m => by
        rw [i3, mem_mrg _ (Nat.le_refl _) (spine_ok hox) (spine_ok hoy), List.mem_append]
        unfold Mb
        rw [if_neg ux, if_neg uy])
      rw [e, if_neg (mrg_ne (spine_ne k x))]
/-- Where nothing is too great for the rule. -/
theorem lst_zero {k : Int} (hk : k = 5 ∨ k = 6) {x : Tr} (ho : x.ok) (h : NF x) : zeroK k ∈ Lst k x ↔ x = zeroK k := by
  rw [Lst_mb hk ho h]
  constructor
  · intro hm
    exact ((mb_mem hk ho h).2 _ hm).2.2.1 rfl
  · rintro rfl
    unfold Mb
    rw [if_neg (fun e => unit_zero k e.symm), spine_other (zero_root hk)]
    simp
theorem lst_ok {k : Int} : ∀ {x : Tr}, x.ok → Oks (Lst k x)
  | .zero n, h => by intro m hm; unfold Lst at hm; split at hm <;> simp at hm; rw [hm]; exact h
  | .one n a, h => by intro m hm; unfold Lst at hm; split at hm <;> simp at hm; rw [hm]; exact h
  | .two n a b, h => by
    intro m hm
    unfold Lst at hm
    split at hm
    · rcases List.mem_append.1 hm with e | e
      · exact lst_ok h.2.2.1 m e
      · exact lst_ok h.2.2.2 m e
    · simp at hm; rw [hm]; exact h
theorem lst_lens (k : Int) : ∀ (x : Tr), lens (Lst k x) ≤ x.flat.length + 1 ∧ (Lst k x).length ≤ x.flat.length
  | .zero n => by unfold Lst; split <;> simp [lens, Tr.flat]
  | .one n a => by unfold Lst; split <;> simp [lens, Tr.flat]
  | .two n a b => by
    have h1 := lst_lens k a
    have h2 := lst_lens k b
    unfold Lst
    split
    · simp only [lens, List.map_append, List.sum_append, List.length_append, Tr.flat, List.length_singleton] at *; omega
    · simp only [lens, List.map_cons, List.map_nil, List.sum_cons, List.sum_nil, Tr.flat, List.length_append, List.length_cons, List.length_nil] at *; omega
/-- The rule of Concat, as the document goes. -/
theorem RC_two {n : Nd} {a b y : Tr} (ho : (Tr.two n a b).ok) (h : NF (.two n a b)) (hn : n.1 = 7) (hoy : y.ok) (hy : NF y) : RC (.two n a b) y = RC a (RC b y) := by
  have e := nrm_nf ho h
  unfold nrm at e
  rw [if_pos hn, nrm_nf ho.2.2.1 h.1, nrm_nf ho.2.2.2 h.2.1] at e
  rw [← e]
  exact RC_assoc ho.2.2.1 h.1 ho.2.2.2 h.2.1 hoy hy
theorem RC_last {x y : Tr} (h1 : x ≠ tNone) (h2 : x ≠ tEmpty) (h3 : y ≠ tNone) (h4 : y ≠ tEmpty) (h7 : x.root.1 ≠ 7) : RC x y = cj x y := by
  rw [RC_main h1 h2 h3 h4, conc_other h7]; rfl
theorem root_none {t : Tr} (h : t.ok) : t.root.1 = 1 ↔ t = tNone := by
  constructor
  · intro e
    match t, h, e with
    | .zero (k, s), h, e =>
      have e : k = 1 := e
      subst e
      have := h.1
      simp [good] at this
      rw [this]; rfl
    | .one n a, h, e => have := h.2.1; have e : n.1 = 1 := e; rw [e] at this; simp [arity] at this
    | .two n a b, h, e => have := h.2.1; have e : n.1 = 1 := e; rw [e] at this; simp [arity] at this
  · rintro rfl; rfl
theorem root_empty {t : Tr} (h : t.ok) : t.root.1 = 2 ↔ t = tEmpty := by
  constructor
  · intro e
    match t, h, e with
    | .zero (k, s), h, e =>
      have e : k = 2 := e
      subst e
      have := h.1
      simp [good] at this
      rw [this]; rfl
    | .one n a, h, e => have := h.2.1; have e : n.1 = 2 := e; rw [e] at this; simp [arity] at this
    | .two n a b, h, e => have := h.2.1; have e : n.1 = 2 := e; rw [e] at this; simp [arity] at this
  · rintro rfl; rfl
theorem root_anyK {t : Tr} (h : t.ok) : t.root.1 = 4 ↔ t = tAny := by
  constructor
  · intro e
    match t, h, e with
    | .zero (k, s), h, e =>
      have e : k = 4 := e
      subst e
      have := h.1
      simp [good] at this
      rw [this]; rfl
    | .one n a, h, e => have := h.2.1; have e : n.1 = 4 := e; rw [e] at this; simp [arity] at this
    | .two n a b, h, e => have := h.2.1; have e : n.1 = 4 := e; rw [e] at this; simp [arity] at this
  · rintro rfl; rfl
theorem shape_two {t : Tr} (h : t.ok) (e : arity t.root.1 = 2) : ∃ n a b, t = .two n a b := by
  match t, h, e with
  | .zero n, h, e => have := h.2; have e : arity n.1 = 2 := e; omega
  | .one n a, h, e => have := h.2.1; have e : arity n.1 = 2 := e; omega
  | .two n a b, h, e => exact ⟨n, a, b, rfl⟩
theorem shape_one {t : Tr} (h : t.ok) (e : arity t.root.1 = 1) : ∃ n a, t = .one n a := by
  match t, h, e with
  | .zero n, h, e => have := h.2; have e : arity n.1 = 1 := e; omega
  | .one n a, h, e => exact ⟨n, a, rfl⟩
  | .two n a b, h, e => have := h.2.1; have e : arity n.1 = 1 := e; omega
end Go.Proofs.YtdmjcfecahcdnaaDoor

namespace Go.Proofs.YtdmjcfecahcdnaaDoor
open Go Go.RowKit
set_option linter.unusedVariables false

theorem ris_b (T : Tr) (v : Value) (k : Int) (b : Bool) (w : World) (hv : NReads w v T.flat) (hl : T.flat.length ≤ 9000) (hb : (T.root.1 == k) = b) :
    Calls Tryd.prog 57 #[v, .int .i64 k] w fun e w' => e = .returned (.bool b) ∧ w = w' := by
  have hp := T.len_pos
  obtain ⟨X, hX⟩ := T.flat_root
  have h := ris_any v T.flat (T.flat.length - 1) T.root.1 T.root.2 k w hv (by omega) (by omega) (by rw [hX]; simp)
  rw [hb] at h
  exact h.mono (fun e w' hh => ⟨hh.1, hh.2.symm⟩)

theorem risAll_b (T : Tr) (hT : T.ok) (v : Value) (b : Bool) (w : World) (hv : NReads w v T.flat) (hl : T.flat.length ≤ 9000) (hb : decide (T = tAll) = b) : Calls Tryd.prog 59 #[v] w fun e w' => e = .returned (.bool b) ∧ Below w.heap.size w w' := by
  have h := risAll_any T hT v w hv (by omega)
  rw [hb] at h
  exact h
theorem nr_lit1 {w : World} {v : Value} {p : List Nd} (h : NReads w v p) : PReads (w.alloc (.cells #[v] 22)) (.slice (some ⟨w.heap.size, 0, none⟩) 1 1) [p] := by
  refine ⟨_, _, rfl, fun i hi => ?_⟩
  have hi : i < 1 := hi
  obtain rfl : i = 0 := by omega
  exact ⟨w.heap.size, 0, v, rfl, (PB.new w #[v]).lt, by rw [(PB.new w #[v]).get]; rfl, h.stay ((Below.refl _ _).alloc (Nat.le_refl _) _)⟩
theorem nr_lit2 {w : World} {v v' : Value} {p q : List Nd} (h : NReads w v p) (h' : NReads w v' q) : PReads (w.alloc (.cells #[v, v'] 22)) (.slice (some ⟨w.heap.size, 0, none⟩) 2 2) [p, q] := by
  refine ⟨_, _, rfl, fun i hi => ?_⟩
  have hi : i < 2 := hi
  have hc : i = 0 ∨ i = 1 := by omega
  have hb : Below w.heap.size w (w.alloc (.cells #[v, v'] 22)) := (Below.refl _ _).alloc (Nat.le_refl _) _
  rcases hc with rfl | rfl
  · exact ⟨w.heap.size, 0, v, rfl, (PB.new w #[v, v']).lt, by rw [(PB.new w #[v, v']).get]; rfl, h.stay hb⟩
  · exact ⟨w.heap.size, 0, v', rfl, (PB.new w #[v, v']).lt, by rw [(PB.new w #[v, v']).get]; rfl, h'.stay hb⟩
/-- What is answered: a tree that is the call's own. -/
def Own (w : World) (T : Tr) (e : Ending) (w' : World) : Prop := ∃ u, e = .returned u ∧ w'.ownsRow w.heap.size 52 2 u T.flat.length (ndC T.flat) ∧ Below w.heap.size w w'

set_option maxHeartbeats 4000000 in
set_option maxRecDepth 100000 in
theorem again_any (T : Tr) (hT : T.ok) (v : Value) (w : World) (hv : NReads w v T.flat) (hl : T.flat.length ≤ 8990) :
    Calls Tryd.prog 42 #[v] w (Own w (RS T)) := by
  unfold Own
  have HV : Hid (NReads w v T.flat) := hv
  have HT : Hid T.ok := hT
  by_cases c1 : T = tNone
  · have HE : Hid (RS T = tEmpty) := by show _ = _; unfold RS; rw [if_pos (.inl c1)]
    have HR : Hid ((T.root.1 == 1) = true) := by rw [c1]; rfl
    rw [HE.out]
    clear hv hT c1
    go_enter Tryd.func42, Tryd.ntmps42
    go_wp2_with fail
    refine (ris_b T v 1 true _ HV.out (by omega) HR.out).mono ?_
    rintro e w1 ⟨rfl, rfl⟩
    go_wp2_with fail
    refine (rempty_any _).mono ?_
    rintro e w2 ⟨u, rfl, ho, hb⟩
    have HO : Hid _ := ho
    have HB : Hid _ := hb
    clear ho hb
    go_wp2_with fail
    go_ret
    exact ⟨_, rfl, HO.out, HB.out⟩
  by_cases c2 : T = tEmpty
  · have HE : Hid (RS T = tEmpty) := by show _ = _; unfold RS; rw [if_pos (.inr c2)]
    have HR : Hid ((T.root.1 == 1) = false ∧ (T.root.1 == 2) = true) := by rw [c2]; exact ⟨rfl, rfl⟩
    rw [HE.out]
    clear hv hT c1 c2
    go_enter Tryd.func42, Tryd.ntmps42
    go_wp2_with fail
    refine (ris_b T v 1 false _ HV.out (by omega) HR.out.1).mono ?_
    rintro e w1 ⟨rfl, rfl⟩
    go_wp2_with fail
    refine (ris_b T v 2 true _ HV.out (by omega) HR.out.2).mono ?_
    rintro e w1 ⟨rfl, rfl⟩
    go_wp2_with fail
    refine (rempty_any _).mono ?_
    rintro e w2 ⟨u, rfl, ho, hb⟩
    have HO : Hid _ := ho
    have HB : Hid _ := hb
    clear ho hb
    go_wp2_with fail
    go_ret
    exact ⟨_, rfl, HO.out, HB.out⟩
  have HR : Hid ((T.root.1 == 1) = false ∧ (T.root.1 == 2) = false) := by
    constructor <;> rw [beq_eq_false_iff_ne]
    · exact fun e => c1 ((root_none hT).1 e)
    · exact fun e => c2 ((root_empty hT).1 e)
  by_cases c8 : T.root.1 = 8
  · have HE : Hid (RS T = T) := by
      show _ = _; unfold RS; rw [if_neg (by simp [c1, c2]), if_neg (fun e => by rw [e] at c8; simp [tAny, Tr.root] at c8), if_pos (.inl c8)]
    have HR8 : Hid ((T.root.1 == 8) = true) := by rw [c8]; rfl
    rw [HE.out]
    obtain ⟨a, cap, rfl, hr⟩ := hv
    obtain ⟨g, o, rfl, _⟩ := hr 0 T.len_pos
    obtain ⟨i0, hi, hz0, hz1, hz2⟩ := info_parts Tryd.info_node
    have hzl := ndC_length T.flat
    have h1c := ndC_one T.flat
    have HO0 : Hid ((w.alloc (.cells #[] 52)).ownsRow w.heap.size 52 2 (.slice (some ⟨w.heap.size, 0, none⟩) 0 0) 0 []) := World.ownsRow_made w #[] 0 (Nat.le_refl _) (by unfold maxLen; omega) rfl
    have HB0 : Hid (Below w.heap.size w (w.alloc (.cells #[] 52))) := (Below.refl _ _).alloc (Nat.le_refl _) _
    have HN : Hid (∀ j u, (ndC T.flat)[j]? = some u → (w.alloc (.cells #[] 52)).cell? ((⟨g, o, none⟩ : Addr).add j) = some u) := nreads_cells (HV.out.stay HB0.out)
    clear hT c1 c2 c8 hr
    go_enter Tryd.func42, Tryd.ntmps42
    go_wp2_with fail
    refine (ris_b T _ 1 false _ HV.out (by omega) HR.out.1).mono ?_
    rintro e w1 ⟨rfl, rfl⟩
    go_wp2_with fail
    refine (ris_b T _ 2 false _ HV.out (by omega) HR.out.2).mono ?_
    rintro e w1 ⟨rfl, rfl⟩
    go_wp2_with fail
    refine (ris_b T _ 8 true _ HV.out (by omega) HR8.out).mono ?_
    rintro e w1 ⟨rfl, rfl⟩
    go_wp2_with (at_builtin; refine wpList_append_own _ rfl _ _ 22 rfl w.heap.size 52 i0 (.agg #[.int .i64 0, .int .u8 0]) 2 16 Tryd.underlying22 hi hz0 hz1 hz2 rfl (by decide) _ _ _ rfl HO0.out ⟨g, o, none⟩ T.flat.length cap (ndC T.flat) rfl hzl HN.out h1c (by unfold maxLen; omega) (by omega) (by simp) ?_)
    intro v2 w2 ho2 hg2 hn2
    have HB2 : Hid (Below w.heap.size w w2) := HB0.out.grown hg2 (by simp) (fun k hk => (HO0.out.lt k hk).1)
    have HO2 : Hid (w2.ownsRow w.heap.size 52 2 v2 T.flat.length (ndC T.flat)) := ho2
    clear ho2 hg2 hn2
    go_wp2_with fail
    go_ret
    exact ⟨_, rfl, HO2.out, HB2.out⟩
  have HR8 : Hid ((T.root.1 == 8) = false) := by show _ = _; rw [beq_eq_false_iff_ne]; exact c8
  by_cases c4 : T = tAny
  · have HE : Hid (RS T = tAll) := by show _ = _; unfold RS; rw [if_neg (by simp [c1, c2]), if_pos c4]
    have HR4 : Hid ((T.root.1 == 4) = true) := by rw [c4]; rfl
    rw [HE.out]
    clear hv hT c1 c2 c8 c4
    go_enter Tryd.func42, Tryd.ntmps42
    go_wp2_with fail
    refine (ris_b T v 1 false _ HV.out (by omega) HR.out.1).mono ?_
    rintro e w1 ⟨rfl, rfl⟩
    go_wp2_with fail
    refine (ris_b T v 2 false _ HV.out (by omega) HR.out.2).mono ?_
    rintro e w1 ⟨rfl, rfl⟩
    go_wp2_with fail
    refine (ris_b T v 8 false _ HV.out (by omega) HR8.out).mono ?_
    rintro e w1 ⟨rfl, rfl⟩
    go_wp2_with fail
    refine (ris_b T v 4 true _ HV.out (by omega) HR4.out).mono ?_
    rintro e w1 ⟨rfl, rfl⟩
    go_wp2_with fail
    refine (rall_any _).mono ?_
    rintro e w2 ⟨u, rfl, ho, hb⟩
    have HO : Hid _ := ho
    have HB : Hid _ := hb
    clear ho hb
    go_wp2_with fail
    go_ret
    exact ⟨_, rfl, HO.out, HB.out⟩
  have HR4 : Hid ((T.root.1 == 4) = false) := by show _ = _; rw [beq_eq_false_iff_ne]; exact fun e => c4 ((root_anyK hT).1 e)
  by_cases c9 : T = tAll
  · have HE : Hid (RS T = tAll) := by show _ = _; unfold RS; rw [if_neg (by simp [c1, c2]), if_neg c4, if_pos (.inr c9)]; exact c9
    have HR9 : Hid (decide (T = tAll) = true) := by show _ = _; simpa using c9
    rw [HE.out]
    clear hv hT c1 c2 c8 c4 c9
    go_enter Tryd.func42, Tryd.ntmps42
    go_wp2_with fail
    refine (ris_b T v 1 false _ HV.out (by omega) HR.out.1).mono ?_
    rintro e w1 ⟨rfl, rfl⟩
    go_wp2_with fail
    refine (ris_b T v 2 false _ HV.out (by omega) HR.out.2).mono ?_
    rintro e w1 ⟨rfl, rfl⟩
    go_wp2_with fail
    refine (ris_b T v 8 false _ HV.out (by omega) HR8.out).mono ?_
    rintro e w1 ⟨rfl, rfl⟩
    go_wp2_with fail
    refine (ris_b T v 4 false _ HV.out (by omega) HR4.out).mono ?_
    rintro e w1 ⟨rfl, rfl⟩
    go_wp2_with fail
    refine (risAll_b T HT.out v true _ HV.out (by omega) HR9.out).mono ?_
    rintro e w1 ⟨rfl, hb1⟩
    have HB1 : Hid (Below w.heap.size w w1) := hb1
    clear hb1
    go_wp2_with fail
    refine (rall_any _).mono ?_
    rintro e w2 ⟨u, rfl, ho, hb⟩
    have HO : Hid (w2.ownsRow w.heap.size 52 2 u tAll.flat.length (ndC tAll.flat)) := own_mono ho HB1.out.size
    have HB : Hid (Below w.heap.size w w2) := go_on HB1.out hb
    clear ho hb
    go_wp2_with fail
    go_ret
    exact ⟨_, rfl, HO.out, HB.out⟩
  have HR9 : Hid (decide (T = tAll) = false) := by show _ = _; simpa using c9
  have HE : Hid (RS T = .one (8, 0) T) := by show _ = _; unfold RS; rw [if_neg (by simp [c1, c2]), if_neg c4, if_neg (by simp [c8, c9])]
  rw [HE.out]
  obtain ⟨av, cp, rfl, _⟩ := hv
  clear hT c1 c2 c8 c4 c9
  go_enter Tryd.func42, Tryd.ntmps42
  go_wp2_with fail
  refine (ris_b T _ 1 false _ HV.out (by omega) HR.out.1).mono ?_
  rintro e w1 ⟨rfl, rfl⟩
  go_wp2_with fail
  refine (ris_b T _ 2 false _ HV.out (by omega) HR.out.2).mono ?_
  rintro e w1 ⟨rfl, rfl⟩
  go_wp2_with fail
  refine (ris_b T _ 8 false _ HV.out (by omega) HR8.out).mono ?_
  rintro e w1 ⟨rfl, rfl⟩
  go_wp2_with fail
  refine (ris_b T _ 4 false _ HV.out (by omega) HR4.out).mono ?_
  rintro e w1 ⟨rfl, rfl⟩
  go_wp2_with fail
  refine (risAll_b T HT.out _ false _ HV.out (by omega) HR9.out).mono ?_
  rintro e w1 ⟨rfl, hb1⟩
  have HB1 : Hid (Below w.heap.size w w1) := hb1
  clear hb1
  go_wp2_with fail
  refine (rnode_any 8 _).mono ?_
  rintro e w2 ⟨rfl, hb2⟩
  have HB2 : Hid (Below w.heap.size w w2) := go_on HB1.out hb2
  clear hb2
  go_wp2_with fail
  refine (made_any 8 0 _ [T.flat] _ (nr_lit1 (HV.out.stay HB2.out)) (one_pos T.len_pos) (by rw [tot_one]; omega) (by simp)).mono ?_
  rintro e w3 ⟨u, rfl, ho, hb⟩
  have HB3 : Hid (Below w.heap.size w w3) := go_on (HB2.out.alloc HB2.out.size _) hb
  have HO : Hid (w3.ownsRow w.heap.size 52 2 u (Tr.one (8, 0) T).flat.length (ndC (Tr.one (8, 0) T).flat)) := by
    have h := own_mono ho (show w.heap.size ≤ _ by have := HB2.out.size; simp only [World.size_alloc]; omega)
    show World.ownsRow _ _ _ _ _ _ _
    simpa [Tr.flat] using h
  clear ho hb
  go_wp2_with fail
  go_ret
  exact ⟨_, rfl, HO.out, HB3.out⟩

set_option maxHeartbeats 4000000 in
set_option maxRecDepth 100000 in
theorem other_any (T : Tr) (hT : T.ok) (v : Value) (w : World) (hv : NReads w v T.flat) (hl : T.flat.length ≤ 8990) (hcap : ∀ a n c, v = .slice a n c → n ≤ c) :
    Calls Tryd.prog 43 #[v] w (Own w (RN T)) := by
  unfold Own
  have HV : Hid (NReads w v T.flat) := hv
  have HT : Hid T.ok := hT
  by_cases c9 : T.root.1 = 9
  · obtain ⟨n, A, rfl⟩ := shape_one hT (by rw [c9]; rfl)
    have HE : Hid (RN (.one n A) = A) := by show _ = _; rw [RN, if_pos (show n.1 = 9 from c9)]
    have HR : Hid (((Tr.one n A).root.1 == 9) = true) := by rw [c9]; rfl
    rw [HE.out]
    have hlen : (Tr.one n A).flat.length = A.flat.length + 1 := by simp [Tr.flat]
    obtain ⟨a, cap, rfl, hr⟩ := hv
    have hcl := hcap _ _ _ rfl
    obtain ⟨g, o, rfl, _⟩ := hr 0 (Tr.one n A).len_pos
    obtain ⟨i0, hi, hz0, hz1, hz2⟩ := info_parts Tryd.info_node
    have hzl := ndC_length A.flat
    have h1c := ndC_one A.flat
    have HO0 : Hid ((w.alloc (.cells #[] 52)).ownsRow w.heap.size 52 2 (.slice (some ⟨w.heap.size, 0, none⟩) 0 0) 0 []) := World.ownsRow_made w #[] 0 (Nat.le_refl _) (by unfold maxLen; omega) rfl
    have HB0 : Hid (Below w.heap.size w (w.alloc (.cells #[] 52))) := (Below.refl _ _).alloc (Nat.le_refl _) _
    have HN : Hid (∀ j u, (ndC A.flat)[j]? = some u → (w.alloc (.cells #[] 52)).cell? ((⟨g, o, none⟩ : Addr).add j) = some u) := fun j u hj => nreads_cells (HV.out.stay HB0.out) j u (by
      rw [show (Tr.one n A).flat = A.flat ++ [n] from rfl, ndC_append, List.getElem?_append_left (by have := (List.getElem?_eq_some_iff.1 hj).1; exact this)]; exact hj)
    obtain ⟨m, hm⟩ : ∃ m, A.flat.length = m := ⟨_, rfl⟩
    have hN : (Tr.one n A).flat.length = m + 1 := by omega
    have hmI : (((m + 1 : Nat) : Int) - 1) = m := by omega
    have HM : Hid (A.flat.length = m) := hm
    rw [hN] at HV hcl hl
    have hmc : (m : Int) ≤ cap := by omega
    rw [hm] at hzl ⊢
    have hN2 : Hid (∀ w', NReads w' (.slice (some ⟨g, o, none⟩) (m + 1) cap) (Tr.one n A).flat → NReads w' (.slice (some ⟨g, o, none⟩) (Tr.one n A).flat.length cap) (Tr.one n A).flat) := fun w' h => by rw [hN]; exact h
    rw [hN]
    have hl9 : (Tr.one n A).flat.length ≤ 9000 := by omega
    clear hT c9 hr hlen hN hm hcap
    go_enter Tryd.func43, Tryd.ntmps43
    go_wp2_with fail
    refine (ris_b (.one n A) _ 9 true _ HV.out hl9 HR.out).mono ?_
    rintro e w1 ⟨rfl, rfl⟩
    go_wp2_with (at_builtin; refine wpList_append_own _ rfl _ _ 22 rfl w.heap.size 52 i0 (.agg #[.int .i64 0, .int .u8 0]) 2 16 Tryd.underlying22 hi hz0 hz1 hz2 rfl (by decide) _ _ _ rfl HO0.out ⟨g, o, none⟩ m cap (ndC A.flat) rfl hzl HN.out h1c (by unfold maxLen; omega) (by omega) (by simp) ?_)
    intro v2 w2 ho2 hg2 hn2
    have HB2 : Hid (Below w.heap.size w w2) := HB0.out.grown hg2 (by simp) (fun k hk => (HO0.out.lt k hk).1)
    have HO2 : Hid (w2.ownsRow w.heap.size 52 2 v2 m (ndC A.flat)) := ho2
    clear ho2 hg2 hn2
    go_wp2_with fail
    go_ret
    exact ⟨_, rfl, HO2.out, HB2.out⟩
  have HR : Hid ((T.root.1 == 9) = false) := by show _ = _; rw [beq_eq_false_iff_ne]; exact c9
  have HE : Hid (RN T = .one (9, 0) T) := by
    show _ = _
    cases T with
    | zero n => rfl
    | two n a b => rfl
    | one n a => rw [RN, if_neg (show ¬ n.1 = 9 from c9)]
  rw [HE.out]
  obtain ⟨av, cp, rfl, _⟩ := hv
  clear hT c9 hcap
  go_enter Tryd.func43, Tryd.ntmps43
  go_wp2_with fail
  refine (ris_b T _ 9 false _ HV.out (by omega) HR.out).mono ?_
  rintro e w1 ⟨rfl, rfl⟩
  go_wp2_with fail
  refine (rnode_any 9 _).mono ?_
  rintro e w2 ⟨rfl, hb2⟩
  have HB2 : Hid (Below w.heap.size w w2) := hb2
  clear hb2
  go_wp2_with fail
  refine (made_any 9 0 _ [T.flat] _ (nr_lit1 (HV.out.stay HB2.out)) (one_pos T.len_pos) (by rw [tot_one]; omega) (by simp)).mono ?_
  rintro e w3 ⟨u, rfl, ho, hb⟩
  have HB3 : Hid (Below w.heap.size w w3) := go_on (HB2.out.alloc HB2.out.size _) hb
  have HO : Hid (w3.ownsRow w.heap.size 52 2 u (Tr.one (9, 0) T).flat.length (ndC (Tr.one (9, 0) T).flat)) := by
    have h := own_mono ho (show w.heap.size ≤ _ by have := HB2.out.size; simp only [World.size_alloc]; omega)
    show World.ownsRow _ _ _ _ _ _ _
    simpa [Tr.flat] using h
  clear ho hb
  go_wp2_with fail
  go_ret
  exact ⟨_, rfl, HO.out, HB3.out⟩
end Go.Proofs.YtdmjcfecahcdnaaDoor

namespace Go.Proofs.YtdmjcfecahcdnaaDoor
open Go Go.RowKit
set_option linter.unusedVariables false

set_option maxHeartbeats 4000000 in
set_option maxRecDepth 100000 in
theorem behind_1 (X Y : Tr) (hoX : X.ok) (hoY : Y.ok) (vx vy : Value) (w : World) (hx : NReads w vx X.flat) (hy : NReads w vy Y.flat) (hl : X.flat.length + Y.flat.length ≤ 8990) (rX1 : (X.root.1 == 1) = true) :
    Calls Tryd.prog 40 #[vx, vy] w (Own w tNone) := by
  unfold Own
  have HX : Hid (NReads w vx X.flat) := hx
  have HY : Hid (NReads w vy Y.flat) := hy
  have HOX : Hid X.ok := hoX
  have HOY : Hid Y.ok := hoY
  have B0 : Hid (Below w.heap.size w w) := Below.refl _ _
  have HRX1 : Hid ((X.root.1 == 1) = true) := rX1
  obtain ⟨ax, cx, rfl, _⟩ := hx
  obtain ⟨ay, cy, rfl, _⟩ := hy
  clear hoX hoY rX1
  go_enter Tryd.func40, Tryd.ntmps40
  go_wp2_with fail
  refine (ris_b X _ 1 true _ (HX.out.stay B0.out) (by omega) HRX1.out).mono ?_
  rintro e w1 ⟨rfl, rfl⟩
  go_wp2_with fail
  refine (rnone_any _).mono ?_
  rintro e w2 ⟨u, rfl, ho, hb⟩
  have HO : Hid _ := ho
  have HB : Hid _ := hb
  clear ho hb
  go_wp2_with fail
  go_ret
  exact ⟨_, rfl, HO.out, HB.out⟩

set_option maxHeartbeats 4000000 in
set_option maxRecDepth 100000 in
theorem behind_2 (X Y : Tr) (hoX : X.ok) (hoY : Y.ok) (vx vy : Value) (w : World) (hx : NReads w vx X.flat) (hy : NReads w vy Y.flat) (hl : X.flat.length + Y.flat.length ≤ 8990) (rX1 : (X.root.1 == 1) = false) (rY1 : (Y.root.1 == 1) = true) :
    Calls Tryd.prog 40 #[vx, vy] w (Own w tNone) := by
  unfold Own
  have HX : Hid (NReads w vx X.flat) := hx
  have HY : Hid (NReads w vy Y.flat) := hy
  have HOX : Hid X.ok := hoX
  have HOY : Hid Y.ok := hoY
  have B0 : Hid (Below w.heap.size w w) := Below.refl _ _
  have HRX1 : Hid ((X.root.1 == 1) = false) := rX1
  have HRY1 : Hid ((Y.root.1 == 1) = true) := rY1
  obtain ⟨ax, cx, rfl, _⟩ := hx
  obtain ⟨ay, cy, rfl, _⟩ := hy
  clear hoX hoY rX1 rY1
  go_enter Tryd.func40, Tryd.ntmps40
  go_wp2_with fail
  refine (ris_b X _ 1 false _ (HX.out.stay B0.out) (by omega) HRX1.out).mono ?_
  rintro e w1 ⟨rfl, rfl⟩
  go_wp2_with fail
  refine (ris_b Y _ 1 true _ (HY.out.stay B0.out) (by omega) HRY1.out).mono ?_
  rintro e w1 ⟨rfl, rfl⟩
  go_wp2_with fail
  refine (rnone_any _).mono ?_
  rintro e w2 ⟨u, rfl, ho, hb⟩
  have HO : Hid _ := ho
  have HB : Hid _ := hb
  clear ho hb
  go_wp2_with fail
  go_ret
  exact ⟨_, rfl, HO.out, HB.out⟩

set_option maxHeartbeats 4000000 in
set_option maxRecDepth 100000 in
theorem behind_3 (X Y : Tr) (hoX : X.ok) (hoY : Y.ok) (vx vy : Value) (w : World) (hx : NReads w vx X.flat) (hy : NReads w vy Y.flat) (hl : X.flat.length + Y.flat.length ≤ 8990) (rX1 : (X.root.1 == 1) = false) (rY1 : (Y.root.1 == 1) = false) (rX2 : (X.root.1 == 2) = true) :
    Calls Tryd.prog 40 #[vx, vy] w (Own w Y) := by
  unfold Own
  have HX : Hid (NReads w vx X.flat) := hx
  have HY : Hid (NReads w vy Y.flat) := hy
  have HOX : Hid X.ok := hoX
  have HOY : Hid Y.ok := hoY
  have B0 : Hid (Below w.heap.size w w) := Below.refl _ _
  have HRX1 : Hid ((X.root.1 == 1) = false) := rX1
  have HRY1 : Hid ((Y.root.1 == 1) = false) := rY1
  have HRX2 : Hid ((X.root.1 == 2) = true) := rX2
  obtain ⟨av, cap, rfl, hr⟩ := hy
  obtain ⟨g, o, rfl, _⟩ := hr 0 Y.len_pos
  obtain ⟨i0, hi, hz0, hz1, hz2⟩ := info_parts Tryd.info_node
  have hzl := ndC_length Y.flat
  have h1c := ndC_one Y.flat
  have HN : Hid (∀ w', Below w.heap.size w w' → ∀ j u, (ndC Y.flat)[j]? = some u → w'.cell? ((⟨g, o, none⟩ : Addr).add j) = some u) := fun w' hb => nreads_cells (HY.out.stay hb)
  clear hr
  clear hoX hoY hx rX1 rY1 rX2
  go_enter Tryd.func40, Tryd.ntmps40
  go_wp2_with fail
  refine (ris_b X _ 1 false _ (HX.out.stay B0.out) (by omega) HRX1.out).mono ?_
  rintro e w1 ⟨rfl, rfl⟩
  go_wp2_with fail
  refine (ris_b Y _ 1 false _ (HY.out.stay B0.out) (by omega) HRY1.out).mono ?_
  rintro e w1 ⟨rfl, rfl⟩
  go_wp2_with fail
  refine (ris_b X _ 2 true _ (HX.out.stay B0.out) (by omega) HRX2.out).mono ?_
  rintro e w1 ⟨rfl, rfl⟩
  have HO0 : Hid ((w.alloc (.cells #[] 52)).ownsRow w.heap.size 52 2 (.slice (some ⟨w.heap.size, 0, none⟩) 0 0) 0 []) := World.ownsRow_made w #[] 0 (Nat.le_refl _) (by unfold maxLen; omega) rfl
  have HB0 : Hid (Below w.heap.size w (w.alloc (.cells #[] 52))) := B0.out.alloc B0.out.size _
  have HN0 : Hid _ := HN.out _ HB0.out
  go_wp2_with (at_builtin; refine wpList_append_own _ rfl _ _ 22 rfl w.heap.size 52 i0 (.agg #[.int .i64 0, .int .u8 0]) 2 16 Tryd.underlying22 hi hz0 hz1 hz2 rfl (by decide) _ _ _ rfl HO0.out ⟨g, o, none⟩ Y.flat.length cap (ndC Y.flat) rfl hzl HN0.out h1c (by unfold maxLen; omega) (by omega) (by simp) ?_)
  intro v2 w2 ho2 hg2 hn2
  have HB2 : Hid (Below w.heap.size w w2) := HB0.out.grown hg2 HB0.out.size (fun k hk => Nat.le_trans B0.out.size (HO0.out.lt k hk).1)
  have HO2 : Hid (w2.ownsRow w.heap.size 52 2 v2 Y.flat.length (ndC Y.flat)) := own_mono ho2 B0.out.size
  clear ho2 hg2 hn2
  go_wp2_with fail
  go_ret
  exact ⟨_, rfl, HO2.out, HB2.out⟩

set_option maxHeartbeats 4000000 in
set_option maxRecDepth 100000 in
theorem behind_4 (X Y : Tr) (hoX : X.ok) (hoY : Y.ok) (vx vy : Value) (w : World) (hx : NReads w vx X.flat) (hy : NReads w vy Y.flat) (hl : X.flat.length + Y.flat.length ≤ 8990) (rX1 : (X.root.1 == 1) = false) (rY1 : (Y.root.1 == 1) = false) (rX2 : (X.root.1 == 2) = false) (rY2 : (Y.root.1 == 2) = true) :
    Calls Tryd.prog 40 #[vx, vy] w (Own w X) := by
  unfold Own
  have HX : Hid (NReads w vx X.flat) := hx
  have HY : Hid (NReads w vy Y.flat) := hy
  have HOX : Hid X.ok := hoX
  have HOY : Hid Y.ok := hoY
  have B0 : Hid (Below w.heap.size w w) := Below.refl _ _
  have HRX1 : Hid ((X.root.1 == 1) = false) := rX1
  have HRY1 : Hid ((Y.root.1 == 1) = false) := rY1
  have HRX2 : Hid ((X.root.1 == 2) = false) := rX2
  have HRY2 : Hid ((Y.root.1 == 2) = true) := rY2
  obtain ⟨av, cap, rfl, hr⟩ := hx
  obtain ⟨g, o, rfl, _⟩ := hr 0 X.len_pos
  obtain ⟨i0, hi, hz0, hz1, hz2⟩ := info_parts Tryd.info_node
  have hzl := ndC_length X.flat
  have h1c := ndC_one X.flat
  have HN : Hid (∀ w', Below w.heap.size w w' → ∀ j u, (ndC X.flat)[j]? = some u → w'.cell? ((⟨g, o, none⟩ : Addr).add j) = some u) := fun w' hb => nreads_cells (HX.out.stay hb)
  clear hr
  clear hoX hoY hy rX1 rY1 rX2 rY2
  go_enter Tryd.func40, Tryd.ntmps40
  go_wp2_with fail
  refine (ris_b X _ 1 false _ (HX.out.stay B0.out) (by omega) HRX1.out).mono ?_
  rintro e w1 ⟨rfl, rfl⟩
  go_wp2_with fail
  refine (ris_b Y _ 1 false _ (HY.out.stay B0.out) (by omega) HRY1.out).mono ?_
  rintro e w1 ⟨rfl, rfl⟩
  go_wp2_with fail
  refine (ris_b X _ 2 false _ (HX.out.stay B0.out) (by omega) HRX2.out).mono ?_
  rintro e w1 ⟨rfl, rfl⟩
  go_wp2_with fail
  refine (ris_b Y _ 2 true _ (HY.out.stay B0.out) (by omega) HRY2.out).mono ?_
  rintro e w1 ⟨rfl, rfl⟩
  have HO0 : Hid ((w.alloc (.cells #[] 52)).ownsRow w.heap.size 52 2 (.slice (some ⟨w.heap.size, 0, none⟩) 0 0) 0 []) := World.ownsRow_made w #[] 0 (Nat.le_refl _) (by unfold maxLen; omega) rfl
  have HB0 : Hid (Below w.heap.size w (w.alloc (.cells #[] 52))) := B0.out.alloc B0.out.size _
  have HN0 : Hid _ := HN.out _ HB0.out
  go_wp2_with (at_builtin; refine wpList_append_own _ rfl _ _ 22 rfl w.heap.size 52 i0 (.agg #[.int .i64 0, .int .u8 0]) 2 16 Tryd.underlying22 hi hz0 hz1 hz2 rfl (by decide) _ _ _ rfl HO0.out ⟨g, o, none⟩ X.flat.length cap (ndC X.flat) rfl hzl HN0.out h1c (by unfold maxLen; omega) (by omega) (by simp) ?_)
  intro v2 w2 ho2 hg2 hn2
  have HB2 : Hid (Below w.heap.size w w2) := HB0.out.grown hg2 HB0.out.size (fun k hk => Nat.le_trans B0.out.size (HO0.out.lt k hk).1)
  have HO2 : Hid (w2.ownsRow w.heap.size 52 2 v2 X.flat.length (ndC X.flat)) := own_mono ho2 B0.out.size
  clear ho2 hg2 hn2
  go_wp2_with fail
  go_ret
  exact ⟨_, rfl, HO2.out, HB2.out⟩

set_option maxHeartbeats 4000000 in
set_option maxRecDepth 100000 in
theorem behind_6 (X Y : Tr) (hoX : X.ok) (hoY : Y.ok) (vx vy : Value) (w : World) (hx : NReads w vx X.flat) (hy : NReads w vy Y.flat) (hl : X.flat.length + Y.flat.length ≤ 8990) (rX1 : (X.root.1 == 1) = false) (rY1 : (Y.root.1 == 1) = false) (rX2 : (X.root.1 == 2) = false) (rY2 : (Y.root.1 == 2) = false) (rX7 : (X.root.1 == 7) = false) (aX : decide (X = tAll) = true) (aY : decide (Y = tAll) = true) :
    Calls Tryd.prog 40 #[vx, vy] w (Own w Y) := by
  unfold Own
  have HX : Hid (NReads w vx X.flat) := hx
  have HY : Hid (NReads w vy Y.flat) := hy
  have HOX : Hid X.ok := hoX
  have HOY : Hid Y.ok := hoY
  have B0 : Hid (Below w.heap.size w w) := Below.refl _ _
  have HRX1 : Hid ((X.root.1 == 1) = false) := rX1
  have HRY1 : Hid ((Y.root.1 == 1) = false) := rY1
  have HRX2 : Hid ((X.root.1 == 2) = false) := rX2
  have HRY2 : Hid ((Y.root.1 == 2) = false) := rY2
  have HRX7 : Hid ((X.root.1 == 7) = false) := rX7
  have HAX : Hid (decide (X = tAll) = true) := aX
  have HAY : Hid (decide (Y = tAll) = true) := aY
  obtain ⟨av, cap, rfl, hr⟩ := hy
  obtain ⟨g, o, rfl, _⟩ := hr 0 Y.len_pos
  obtain ⟨i0, hi, hz0, hz1, hz2⟩ := info_parts Tryd.info_node
  have hzl := ndC_length Y.flat
  have h1c := ndC_one Y.flat
  have HN : Hid (∀ w', Below w.heap.size w w' → ∀ j u, (ndC Y.flat)[j]? = some u → w'.cell? ((⟨g, o, none⟩ : Addr).add j) = some u) := fun w' hb => nreads_cells (HY.out.stay hb)
  clear hr
  clear hoX hoY hx rX1 rY1 rX2 rY2 rX7
  clear aX aY
  go_enter Tryd.func40, Tryd.ntmps40
  go_wp2_with fail
  refine (ris_b X _ 1 false _ (HX.out.stay B0.out) (by omega) HRX1.out).mono ?_
  rintro e w1 ⟨rfl, rfl⟩
  go_wp2_with fail
  refine (ris_b Y _ 1 false _ (HY.out.stay B0.out) (by omega) HRY1.out).mono ?_
  rintro e w1 ⟨rfl, rfl⟩
  go_wp2_with fail
  refine (ris_b X _ 2 false _ (HX.out.stay B0.out) (by omega) HRX2.out).mono ?_
  rintro e w1 ⟨rfl, rfl⟩
  go_wp2_with fail
  refine (ris_b Y _ 2 false _ (HY.out.stay B0.out) (by omega) HRY2.out).mono ?_
  rintro e w1 ⟨rfl, rfl⟩
  go_wp2_with fail
  refine (ris_b X _ 7 false _ (HX.out.stay B0.out) (by omega) HRX7.out).mono ?_
  rintro e w1 ⟨rfl, rfl⟩
  go_wp2_with fail
  refine (risAll_b X HOX.out _ true _ (HX.out.stay B0.out) (by omega) HAX.out).mono ?_
  rintro e w3 ⟨rfl, hb⟩
  have B1 : Hid (Below w.heap.size w w3) := go_on B0.out hb
  clear hb
  go_wp2_with fail
  refine (risAll_b Y HOY.out _ true _ (HY.out.stay B1.out) (by omega) HAY.out).mono ?_
  rintro e w4 ⟨rfl, hb⟩
  have B2 : Hid (Below w.heap.size w w4) := go_on B1.out hb
  clear hb
  have HO0 : Hid ((w4.alloc (.cells #[] 52)).ownsRow w4.heap.size 52 2 (.slice (some ⟨w4.heap.size, 0, none⟩) 0 0) 0 []) := World.ownsRow_made w4 #[] 0 (Nat.le_refl _) (by unfold maxLen; omega) rfl
  have HB0 : Hid (Below w.heap.size w (w4.alloc (.cells #[] 52))) := B2.out.alloc B2.out.size _
  have HN0 : Hid _ := HN.out _ HB0.out
  go_wp2_with (at_builtin; refine wpList_append_own _ rfl _ _ 22 rfl w4.heap.size 52 i0 (.agg #[.int .i64 0, .int .u8 0]) 2 16 Tryd.underlying22 hi hz0 hz1 hz2 rfl (by decide) _ _ _ rfl HO0.out ⟨g, o, none⟩ Y.flat.length cap (ndC Y.flat) rfl hzl HN0.out h1c (by unfold maxLen; omega) (by omega) (by simp) ?_)
  intro v2 w2 ho2 hg2 hn2
  have HB2 : Hid (Below w.heap.size w w2) := HB0.out.grown hg2 HB0.out.size (fun k hk => Nat.le_trans B2.out.size (HO0.out.lt k hk).1)
  have HO2 : Hid (w2.ownsRow w.heap.size 52 2 v2 Y.flat.length (ndC Y.flat)) := own_mono ho2 B2.out.size
  clear ho2 hg2 hn2
  go_wp2_with fail
  go_ret
  exact ⟨_, rfl, HO2.out, HB2.out⟩

set_option maxHeartbeats 4000000 in
set_option maxRecDepth 100000 in
theorem behind_7 (X Y : Tr) (hoX : X.ok) (hoY : Y.ok) (vx vy : Value) (w : World) (hx : NReads w vx X.flat) (hy : NReads w vy Y.flat) (hl : X.flat.length + Y.flat.length ≤ 8990) (rX1 : (X.root.1 == 1) = false) (rY1 : (Y.root.1 == 1) = false) (rX2 : (X.root.1 == 2) = false) (rY2 : (Y.root.1 == 2) = false) (rX7 : (X.root.1 == 7) = false) (aX : decide (X = tAll) = false) :
    Calls Tryd.prog 40 #[vx, vy] w (Own w (.two (7, 0) X Y)) := by
  unfold Own
  have HX : Hid (NReads w vx X.flat) := hx
  have HY : Hid (NReads w vy Y.flat) := hy
  have HOX : Hid X.ok := hoX
  have HOY : Hid Y.ok := hoY
  have B0 : Hid (Below w.heap.size w w) := Below.refl _ _
  have HRX1 : Hid ((X.root.1 == 1) = false) := rX1
  have HRY1 : Hid ((Y.root.1 == 1) = false) := rY1
  have HRX2 : Hid ((X.root.1 == 2) = false) := rX2
  have HRY2 : Hid ((Y.root.1 == 2) = false) := rY2
  have HRX7 : Hid ((X.root.1 == 7) = false) := rX7
  have HAX : Hid (decide (X = tAll) = false) := aX
  obtain ⟨ax, cx, rfl, _⟩ := hx
  obtain ⟨ay, cy, rfl, _⟩ := hy
  clear hoX hoY rX1 rY1 rX2 rY2 rX7
  clear aX
  go_enter Tryd.func40, Tryd.ntmps40
  go_wp2_with fail
  refine (ris_b X _ 1 false _ (HX.out.stay B0.out) (by omega) HRX1.out).mono ?_
  rintro e w1 ⟨rfl, rfl⟩
  go_wp2_with fail
  refine (ris_b Y _ 1 false _ (HY.out.stay B0.out) (by omega) HRY1.out).mono ?_
  rintro e w1 ⟨rfl, rfl⟩
  go_wp2_with fail
  refine (ris_b X _ 2 false _ (HX.out.stay B0.out) (by omega) HRX2.out).mono ?_
  rintro e w1 ⟨rfl, rfl⟩
  go_wp2_with fail
  refine (ris_b Y _ 2 false _ (HY.out.stay B0.out) (by omega) HRY2.out).mono ?_
  rintro e w1 ⟨rfl, rfl⟩
  go_wp2_with fail
  refine (ris_b X _ 7 false _ (HX.out.stay B0.out) (by omega) HRX7.out).mono ?_
  rintro e w1 ⟨rfl, rfl⟩
  go_wp2_with fail
  refine (risAll_b X HOX.out _ false _ (HX.out.stay B0.out) (by omega) HAX.out).mono ?_
  rintro e w3 ⟨rfl, hb⟩
  have B1 : Hid (Below w.heap.size w w3) := go_on B0.out hb
  clear hb
  go_wp2_with fail
  refine (rnode_any 7 _).mono ?_
  rintro e w5 ⟨rfl, hb5⟩
  have HB5 : Hid (Below w.heap.size w w5) := go_on B1.out hb5
  clear hb5
  go_wp2_with fail
  refine (made_any 7 0 _ [X.flat, Y.flat] _ (nr_lit2 (HX.out.stay HB5.out) (HY.out.stay HB5.out)) (two_pos X.len_pos Y.len_pos) (by rw [tot_two]; omega) (by simp)).mono ?_
  rintro e w6 ⟨u, rfl, ho, hb⟩
  have HB6 : Hid (Below w.heap.size w w6) := go_on (HB5.out.alloc HB5.out.size _) hb
  have HO : Hid (w6.ownsRow w.heap.size 52 2 u (Tr.two (7, 0) X Y).flat.length (ndC (Tr.two (7, 0) X Y).flat)) := by
    have h := own_mono ho (show w.heap.size ≤ _ by have := HB5.out.size; simp only [World.size_alloc]; omega)
    show World.ownsRow _ _ _ _ _ _ _
    simpa [Tr.flat] using h
  clear ho hb
  go_wp2_with fail
  go_ret
  exact ⟨_, rfl, HO.out, HB6.out⟩

set_option maxHeartbeats 4000000 in
set_option maxRecDepth 100000 in
theorem behind_8 (X Y : Tr) (hoX : X.ok) (hoY : Y.ok) (vx vy : Value) (w : World) (hx : NReads w vx X.flat) (hy : NReads w vy Y.flat) (hl : X.flat.length + Y.flat.length ≤ 8990) (rX1 : (X.root.1 == 1) = false) (rY1 : (Y.root.1 == 1) = false) (rX2 : (X.root.1 == 2) = false) (rY2 : (Y.root.1 == 2) = false) (rX7 : (X.root.1 == 7) = false) (rY7 : (Y.root.1 == 7) = false) (aX : decide (X = tAll) = true) (aY : decide (Y = tAll) = false) :
    Calls Tryd.prog 40 #[vx, vy] w (Own w (.two (7, 0) X Y)) := by
  unfold Own
  have HX : Hid (NReads w vx X.flat) := hx
  have HY : Hid (NReads w vy Y.flat) := hy
  have HOX : Hid X.ok := hoX
  have HOY : Hid Y.ok := hoY
  have B0 : Hid (Below w.heap.size w w) := Below.refl _ _
  have HRX1 : Hid ((X.root.1 == 1) = false) := rX1
  have HRY1 : Hid ((Y.root.1 == 1) = false) := rY1
  have HRX2 : Hid ((X.root.1 == 2) = false) := rX2
  have HRY2 : Hid ((Y.root.1 == 2) = false) := rY2
  have HRX7 : Hid ((X.root.1 == 7) = false) := rX7
  have HRY7 : Hid ((Y.root.1 == 7) = false) := rY7
  have HAX : Hid (decide (X = tAll) = true) := aX
  have HAY : Hid (decide (Y = tAll) = false) := aY
  obtain ⟨ax, cx, rfl, _⟩ := hx
  obtain ⟨ay, cy, rfl, _⟩ := hy
  clear hoX hoY rX1 rY1 rX2 rY2 rX7 rY7
  clear aX aY
  go_enter Tryd.func40, Tryd.ntmps40
  go_wp2_with fail
  refine (ris_b X _ 1 false _ (HX.out.stay B0.out) (by omega) HRX1.out).mono ?_
  rintro e w1 ⟨rfl, rfl⟩
  go_wp2_with fail
  refine (ris_b Y _ 1 false _ (HY.out.stay B0.out) (by omega) HRY1.out).mono ?_
  rintro e w1 ⟨rfl, rfl⟩
  go_wp2_with fail
  refine (ris_b X _ 2 false _ (HX.out.stay B0.out) (by omega) HRX2.out).mono ?_
  rintro e w1 ⟨rfl, rfl⟩
  go_wp2_with fail
  refine (ris_b Y _ 2 false _ (HY.out.stay B0.out) (by omega) HRY2.out).mono ?_
  rintro e w1 ⟨rfl, rfl⟩
  go_wp2_with fail
  refine (ris_b X _ 7 false _ (HX.out.stay B0.out) (by omega) HRX7.out).mono ?_
  rintro e w1 ⟨rfl, rfl⟩
  go_wp2_with fail
  refine (risAll_b X HOX.out _ true _ (HX.out.stay B0.out) (by omega) HAX.out).mono ?_
  rintro e w3 ⟨rfl, hb⟩
  have B1 : Hid (Below w.heap.size w w3) := go_on B0.out hb
  clear hb
  go_wp2_with fail
  refine (risAll_b Y HOY.out _ false _ (HY.out.stay B1.out) (by omega) HAY.out).mono ?_
  rintro e w4 ⟨rfl, hb⟩
  have B2 : Hid (Below w.heap.size w w4) := go_on B1.out hb
  clear hb
  go_wp2_with fail
  refine (ris_b Y _ 7 false _ (HY.out.stay B2.out) (by omega) HRY7.out).mono ?_
  rintro e w1 ⟨rfl, rfl⟩
  go_wp2_with fail
  refine (rnode_any 7 _).mono ?_
  rintro e w5 ⟨rfl, hb5⟩
  have HB5 : Hid (Below w.heap.size w w5) := go_on B2.out hb5
  clear hb5
  go_wp2_with fail
  refine (made_any 7 0 _ [X.flat, Y.flat] _ (nr_lit2 (HX.out.stay HB5.out) (HY.out.stay HB5.out)) (two_pos X.len_pos Y.len_pos) (by rw [tot_two]; omega) (by simp)).mono ?_
  rintro e w6 ⟨u, rfl, ho, hb⟩
  have HB6 : Hid (Below w.heap.size w w6) := go_on (HB5.out.alloc HB5.out.size _) hb
  have HO : Hid (w6.ownsRow w.heap.size 52 2 u (Tr.two (7, 0) X Y).flat.length (ndC (Tr.two (7, 0) X Y).flat)) := by
    have h := own_mono ho (show w.heap.size ≤ _ by have := HB5.out.size; simp only [World.size_alloc]; omega)
    show World.ownsRow _ _ _ _ _ _ _
    simpa [Tr.flat] using h
  clear ho hb
  go_wp2_with fail
  go_ret
  exact ⟨_, rfl, HO.out, HB6.out⟩

set_option maxHeartbeats 4000000 in
set_option maxRecDepth 100000 in
theorem behind_9 (X Y : Tr) (hoX : X.ok) (hoY : Y.ok) (vx vy : Value) (w : World) (hx : NReads w vx X.flat) (hy : NReads w vy Y.flat) (hl : X.flat.length + Y.flat.length ≤ 8990) (rX1 : (X.root.1 == 1) = false) (rY1 : (Y.root.1 == 1) = false) (rX2 : (X.root.1 == 2) = false) (rY2 : (Y.root.1 == 2) = false) (rX7 : (X.root.1 == 7) = false) (rY7 : (Y.root.1 == 7) = true) (aX : decide (X = tAll) = true) (aY : decide (Y = tAll) = false) (hcap : ∀ a n c, vy = .slice a n c → n ≤ c) (n : Nd) (A B : Tr) (eY : Y = .two n A B) (aA : decide (A = tAll) = true) :
    Calls Tryd.prog 40 #[vx, vy] w (Own w Y) := by
  unfold Own
  have HX : Hid (NReads w vx X.flat) := hx
  have HY : Hid (NReads w vy Y.flat) := hy
  have HOX : Hid X.ok := hoX
  have HOY : Hid Y.ok := hoY
  have B0 : Hid (Below w.heap.size w w) := Below.refl _ _
  have HRX1 : Hid ((X.root.1 == 1) = false) := rX1
  have HRY1 : Hid ((Y.root.1 == 1) = false) := rY1
  have HRX2 : Hid ((X.root.1 == 2) = false) := rX2
  have HRY2 : Hid ((Y.root.1 == 2) = false) := rY2
  have HRX7 : Hid ((X.root.1 == 7) = false) := rX7
  have HRY7 : Hid ((Y.root.1 == 7) = true) := rY7
  have HAX : Hid (decide (X = tAll) = true) := aX
  have HAY : Hid (decide (Y = tAll) = false) := aY
  have HCAP : Hid (∀ a n c, vy = .slice a n c → n ≤ c) := hcap
  have HAA : Hid (decide (A = tAll) = true) := aA
  subst eY
  have hlA : A.flat.length ≤ 8990 := by have : (Tr.two n A B).flat.length = A.flat.length + B.flat.length + 1 := by simp [Tr.flat]; omega
                                        omega
  obtain ⟨av, cap, rfl, hr⟩ := hy
  obtain ⟨g, o, rfl, _⟩ := hr 0 (Tr.two n A B).len_pos
  obtain ⟨i0, hi, hz0, hz1, hz2⟩ := info_parts Tryd.info_node
  have hzl := ndC_length (Tr.two n A B).flat
  have h1c := ndC_one (Tr.two n A B).flat
  have HN : Hid (∀ w', Below w.heap.size w w' → ∀ j u, (ndC (Tr.two n A B).flat)[j]? = some u → w'.cell? ((⟨g, o, none⟩ : Addr).add j) = some u) := fun w' hb => nreads_cells (HY.out.stay hb)
  clear hr
  clear hoX hoY hx rX1 rY1 rX2 rY2 rX7 rY7
  clear aX aY aA hcap
  go_enter Tryd.func40, Tryd.ntmps40
  go_wp2_with fail
  refine (ris_b X _ 1 false _ (HX.out.stay B0.out) (by omega) HRX1.out).mono ?_
  rintro e w1 ⟨rfl, rfl⟩
  go_wp2_with fail
  refine (ris_b (Tr.two n A B) _ 1 false _ (HY.out.stay B0.out) (by omega) HRY1.out).mono ?_
  rintro e w1 ⟨rfl, rfl⟩
  go_wp2_with fail
  refine (ris_b X _ 2 false _ (HX.out.stay B0.out) (by omega) HRX2.out).mono ?_
  rintro e w1 ⟨rfl, rfl⟩
  go_wp2_with fail
  refine (ris_b (Tr.two n A B) _ 2 false _ (HY.out.stay B0.out) (by omega) HRY2.out).mono ?_
  rintro e w1 ⟨rfl, rfl⟩
  go_wp2_with fail
  refine (ris_b X _ 7 false _ (HX.out.stay B0.out) (by omega) HRX7.out).mono ?_
  rintro e w1 ⟨rfl, rfl⟩
  go_wp2_with fail
  refine (risAll_b X HOX.out _ true _ (HX.out.stay B0.out) (by omega) HAX.out).mono ?_
  rintro e w3 ⟨rfl, hb⟩
  have B1 : Hid (Below w.heap.size w w3) := go_on B0.out hb
  clear hb
  go_wp2_with fail
  refine (risAll_b (Tr.two n A B) HOY.out _ false _ (HY.out.stay B1.out) (by omega) HAY.out).mono ?_
  rintro e w4 ⟨rfl, hb⟩
  have B2 : Hid (Below w.heap.size w w4) := go_on B1.out hb
  clear hb
  go_wp2_with fail
  refine (ris_b (Tr.two n A B) _ 7 true _ (HY.out.stay B2.out) (by omega) HRY7.out).mono ?_
  rintro e w1 ⟨rfl, rfl⟩
  go_wp2_with fail
  refine (cut_any _ (Tr.two n A B).flat _ (HY.out.stay B2.out) (by omega) (Tr.ok_free _ HOY.out) HCAP.out).mono ?_
  rintro e w7 ⟨u, rfl, hpr, hb7⟩
  have hp1 := hpr w7 (fun _ _ _ => rfl)
  rw [cut_flat_two HOY.out] at hp1
  obtain ⟨ua, uc, rfl, hpi⟩ := hp1
  obtain ⟨lg, lo, u0, rfl, hlg, hl0, hu0, hk0⟩ := hpi 0 (by simp)
  rw [Nat.add_zero] at hl0
  have HU0 : Hid (NReads w7 u0 A.flat) := hu0
  have HB7 : Hid (Below w.heap.size w w7) := go_on B2.out hb7
  clear hpr hb7 hpi hu0 hk0
  go_wp2_with fail
  refine (risAll_b A HOY.out.2.2.1 _ true _ HU0.out (by omega) HAA.out).mono ?_
  rintro e w8 ⟨rfl, hb8⟩
  have HB8 : Hid (Below w.heap.size w w8) := go_on HB7.out hb8
  clear hb8 hl0
  have HO0 : Hid ((w8.alloc (.cells #[] 52)).ownsRow w8.heap.size 52 2 (.slice (some ⟨w8.heap.size, 0, none⟩) 0 0) 0 []) := World.ownsRow_made w8 #[] 0 (Nat.le_refl _) (by unfold maxLen; omega) rfl
  have HB0 : Hid (Below w.heap.size w (w8.alloc (.cells #[] 52))) := HB8.out.alloc HB8.out.size _
  have HN0 : Hid _ := HN.out _ HB0.out
  go_wp2_with (at_builtin; refine wpList_append_own _ rfl _ _ 22 rfl w8.heap.size 52 i0 (.agg #[.int .i64 0, .int .u8 0]) 2 16 Tryd.underlying22 hi hz0 hz1 hz2 rfl (by decide) _ _ _ rfl HO0.out ⟨g, o, none⟩ (Tr.two n A B).flat.length cap (ndC (Tr.two n A B).flat) rfl hzl HN0.out h1c (by unfold maxLen; omega) (by omega) (by simp) ?_)
  intro v2 w2 ho2 hg2 hn2
  have HB2 : Hid (Below w.heap.size w w2) := HB0.out.grown hg2 HB0.out.size (fun k hk => Nat.le_trans HB8.out.size (HO0.out.lt k hk).1)
  have HO2 : Hid (w2.ownsRow w.heap.size 52 2 v2 (Tr.two n A B).flat.length (ndC (Tr.two n A B).flat)) := own_mono ho2 HB8.out.size
  clear ho2 hg2 hn2
  go_wp2_with fail
  go_ret
  exact ⟨_, rfl, HO2.out, HB2.out⟩

set_option maxHeartbeats 4000000 in
set_option maxRecDepth 100000 in
theorem behind_10 (X Y : Tr) (hoX : X.ok) (hoY : Y.ok) (vx vy : Value) (w : World) (hx : NReads w vx X.flat) (hy : NReads w vy Y.flat) (hl : X.flat.length + Y.flat.length ≤ 8990) (rX1 : (X.root.1 == 1) = false) (rY1 : (Y.root.1 == 1) = false) (rX2 : (X.root.1 == 2) = false) (rY2 : (Y.root.1 == 2) = false) (rX7 : (X.root.1 == 7) = false) (rY7 : (Y.root.1 == 7) = true) (aX : decide (X = tAll) = true) (aY : decide (Y = tAll) = false) (hcap : ∀ a n c, vy = .slice a n c → n ≤ c) (n : Nd) (A B : Tr) (eY : Y = .two n A B) (aA : decide (A = tAll) = false) :
    Calls Tryd.prog 40 #[vx, vy] w (Own w (.two (7, 0) X Y)) := by
  unfold Own
  have HX : Hid (NReads w vx X.flat) := hx
  have HY : Hid (NReads w vy Y.flat) := hy
  have HOX : Hid X.ok := hoX
  have HOY : Hid Y.ok := hoY
  have B0 : Hid (Below w.heap.size w w) := Below.refl _ _
  have HRX1 : Hid ((X.root.1 == 1) = false) := rX1
  have HRY1 : Hid ((Y.root.1 == 1) = false) := rY1
  have HRX2 : Hid ((X.root.1 == 2) = false) := rX2
  have HRY2 : Hid ((Y.root.1 == 2) = false) := rY2
  have HRX7 : Hid ((X.root.1 == 7) = false) := rX7
  have HRY7 : Hid ((Y.root.1 == 7) = true) := rY7
  have HAX : Hid (decide (X = tAll) = true) := aX
  have HAY : Hid (decide (Y = tAll) = false) := aY
  have HCAP : Hid (∀ a n c, vy = .slice a n c → n ≤ c) := hcap
  have HAA : Hid (decide (A = tAll) = false) := aA
  subst eY
  have hlA : A.flat.length ≤ 8990 := by have : (Tr.two n A B).flat.length = A.flat.length + B.flat.length + 1 := by simp [Tr.flat]; omega
                                        omega
  obtain ⟨ax, cx, rfl, _⟩ := hx
  obtain ⟨ay, cy, rfl, _⟩ := hy
  clear hoX hoY rX1 rY1 rX2 rY2 rX7 rY7
  clear aX aY aA hcap
  go_enter Tryd.func40, Tryd.ntmps40
  go_wp2_with fail
  refine (ris_b X _ 1 false _ (HX.out.stay B0.out) (by omega) HRX1.out).mono ?_
  rintro e w1 ⟨rfl, rfl⟩
  go_wp2_with fail
  refine (ris_b (Tr.two n A B) _ 1 false _ (HY.out.stay B0.out) (by omega) HRY1.out).mono ?_
  rintro e w1 ⟨rfl, rfl⟩
  go_wp2_with fail
  refine (ris_b X _ 2 false _ (HX.out.stay B0.out) (by omega) HRX2.out).mono ?_
  rintro e w1 ⟨rfl, rfl⟩
  go_wp2_with fail
  refine (ris_b (Tr.two n A B) _ 2 false _ (HY.out.stay B0.out) (by omega) HRY2.out).mono ?_
  rintro e w1 ⟨rfl, rfl⟩
  go_wp2_with fail
  refine (ris_b X _ 7 false _ (HX.out.stay B0.out) (by omega) HRX7.out).mono ?_
  rintro e w1 ⟨rfl, rfl⟩
  go_wp2_with fail
  refine (risAll_b X HOX.out _ true _ (HX.out.stay B0.out) (by omega) HAX.out).mono ?_
  rintro e w3 ⟨rfl, hb⟩
  have B1 : Hid (Below w.heap.size w w3) := go_on B0.out hb
  clear hb
  go_wp2_with fail
  refine (risAll_b (Tr.two n A B) HOY.out _ false _ (HY.out.stay B1.out) (by omega) HAY.out).mono ?_
  rintro e w4 ⟨rfl, hb⟩
  have B2 : Hid (Below w.heap.size w w4) := go_on B1.out hb
  clear hb
  go_wp2_with fail
  refine (ris_b (Tr.two n A B) _ 7 true _ (HY.out.stay B2.out) (by omega) HRY7.out).mono ?_
  rintro e w1 ⟨rfl, rfl⟩
  go_wp2_with fail
  refine (cut_any _ (Tr.two n A B).flat _ (HY.out.stay B2.out) (by omega) (Tr.ok_free _ HOY.out) HCAP.out).mono ?_
  rintro e w7 ⟨u, rfl, hpr, hb7⟩
  have hp1 := hpr w7 (fun _ _ _ => rfl)
  rw [cut_flat_two HOY.out] at hp1
  obtain ⟨ua, uc, rfl, hpi⟩ := hp1
  obtain ⟨lg, lo, u0, rfl, hlg, hl0, hu0, hk0⟩ := hpi 0 (by simp)
  rw [Nat.add_zero] at hl0
  have HU0 : Hid (NReads w7 u0 A.flat) := hu0
  have HB7 : Hid (Below w.heap.size w w7) := go_on B2.out hb7
  clear hpr hb7 hpi hu0 hk0
  go_wp2_with fail
  refine (risAll_b A HOY.out.2.2.1 _ false _ HU0.out (by omega) HAA.out).mono ?_
  rintro e w8 ⟨rfl, hb8⟩
  have HB8 : Hid (Below w.heap.size w w8) := go_on HB7.out hb8
  clear hb8 hl0
  go_wp2_with fail
  refine (rnode_any 7 _).mono ?_
  rintro e w5 ⟨rfl, hb5⟩
  have HB5 : Hid (Below w.heap.size w w5) := go_on HB8.out hb5
  clear hb5
  go_wp2_with fail
  refine (made_any 7 0 _ [X.flat, (Tr.two n A B).flat] _ (nr_lit2 (HX.out.stay HB5.out) (HY.out.stay HB5.out)) (two_pos X.len_pos (Tr.two n A B).len_pos) (by rw [tot_two]; omega) (by simp)).mono ?_
  rintro e w6 ⟨u, rfl, ho, hb⟩
  have HB6 : Hid (Below w.heap.size w w6) := go_on (HB5.out.alloc HB5.out.size _) hb
  have HO : Hid (w6.ownsRow w.heap.size 52 2 u (Tr.two (7, 0) X (Tr.two n A B)).flat.length (ndC (Tr.two (7, 0) X (Tr.two n A B)).flat)) := by
    have h := own_mono ho (show w.heap.size ≤ _ by have := HB5.out.size; simp only [World.size_alloc]; omega)
    show World.ownsRow _ _ _ _ _ _ _
    simpa [Tr.flat] using h
  clear ho hb
  go_wp2_with fail
  go_ret
  exact ⟨_, rfl, HO.out, HB6.out⟩

end Go.Proofs.YtdmjcfecahcdnaaDoor

namespace Go.Proofs.YtdmjcfecahcdnaaDoor
open Go Go.RowKit
set_option linter.unusedVariables false

abbrev Cap (v : Value) : Prop := ∀ a n c, v = .slice a n c → n ≤ c
theorem own_cap {w : World} {B : Nat} {e : TypeId} {s n : Nat} {v : Value} {xs : List Value} (h : w.ownsRow B e s v n xs) : Cap v := by
  intro a m c hv
  obtain ⟨_, h⟩ := h
  rcases h with ⟨h, _⟩ | ⟨g, cp, cur, h, _, _, hcp, _⟩
  · rw [h] at hv; cases hv; exact Nat.le_refl _
  · rw [h] at hv; cases hv; exact hcp
abbrev SP (W : World) (lg lo : Nat) (u0 u1 : Value) (w' : World) : Prop := w'.cell? ⟨lg, lo, none⟩ = some u0 ∧ w'.cell? ⟨lg, lo + 1, none⟩ = some u1 ∧ Below W.heap.size W w'
theorem sp_step {W : World} {lg lo : Nat} {u0 u1 : Value} {w1 w2 : World} (h1 : lg < W.heap.size) (hb : Below w1.heap.size w1 w2) (h : SP W lg lo u0 u1 w1) : SP W lg lo u0 u1 w2 := by
  have hs := h.2.2.size
  refine ⟨?_, ?_, go_on h.2.2 hb⟩
  · rw [below_cell hb (by omega)]; exact h.1
  · rw [below_cell hb (by omega)]; exact h.2.1
theorem sp_below {W : World} {lg lo : Nat} {u0 u1 : Value} {w' : World} (h : SP W lg lo u0 u1 w') : Below W.heap.size W w' := h.2.2
def Bh (X : Tr) : Prop := ∀ (Y : Tr) (vx vy : Value) (w : World), Y.ok → NF Y → NReads w vx X.flat → NReads w vy Y.flat → Cap vx → Cap vy → X.flat.length + Y.flat.length ≤ 8990 →
    Calls Tryd.prog 40 #[vx, vy] w (Own w (RC X Y))

set_option maxHeartbeats 16000000 in
set_option maxRecDepth 100000 in
theorem behind_5 (n : Nd) (A B Y : Tr) (hoX : (Tr.two n A B).ok) (hX : NF (.two n A B)) (iA : Bh A) (iB : Bh B) (hoY : Y.ok) (hY : NF Y) (vx vy : Value) (w : World) (hx : NReads w vx (Tr.two n A B).flat) (hy : NReads w vy Y.flat) (kx : Cap vx) (ky : Cap vy) (hl : (Tr.two n A B).flat.length + Y.flat.length ≤ 8990)
    (rX7 : (Tr.two n A B).root.1 = 7) (rY1 : (Y.root.1 == 1) = false) (rY2 : (Y.root.1 == 2) = false) :
    Calls Tryd.prog 40 #[vx, vy] w (Own w (RC (.two n A B) Y)) := by
  unfold Own
  have HX : Hid (NReads w vx (Tr.two n A B).flat) := hx
  have HY : Hid (NReads w vy Y.flat) := hy
  have HOX : Hid ((Tr.two n A B).ok) := hoX
  have HOY : Hid (Y.ok ∧ NF Y) := ⟨hoY, hY⟩
  have HNX : Hid (NF (.two n A B)) := hX
  have HIA : Hid (Bh A) := iA
  have HIB : Hid (Bh B) := iB
  have HKX : Hid (Cap vx) := kx
  have HKY : Hid (Cap vy) := ky
  have HRX : Hid (((Tr.two n A B).root.1 == 1) = false ∧ ((Tr.two n A B).root.1 == 2) = false ∧ ((Tr.two n A B).root.1 == 7) = true) := by rw [rX7]; exact ⟨rfl, rfl, rfl⟩
  have HRY : Hid ((Y.root.1 == 1) = false ∧ (Y.root.1 == 2) = false) := ⟨rY1, rY2⟩
  have HE : Hid (RC (.two n A B) Y = RC A (RC B Y)) := RC_two hoX hX rX7 hoY hY
  have HBL : Hid ((RC B Y).ok ∧ NF (RC B Y)) := RC_ok hoX.2.2.2 hX.2.1 hoY hY
  have hlen : (Tr.two n A B).flat.length = A.flat.length + B.flat.length + 1 := by simp [Tr.flat]; omega
  have hRl := RC_len B Y
  have l1 : (Tr.two n A B).flat.length ≤ 9000 := by omega
  have l2 : Y.flat.length ≤ 9000 := by omega
  have L3 : Hid (B.flat.length + Y.flat.length ≤ 8990) := by show _ ≤ _; omega
  have L4 : Hid (A.flat.length + (RC B Y).flat.length ≤ 8990) := by show _ ≤ _; omega
  rw [HE.out]
  obtain ⟨R1, hR1⟩ : ∃ R, RC B Y = R := ⟨_, rfl⟩
  obtain ⟨R2, hR2⟩ : ∃ R, RC A R1 = R := ⟨_, rfl⟩
  rw [hR1] at HBL L4 hRl ⊢
  rw [hR2]
  have HCB : Hid (∀ (u v : Value) (w' : World), NReads w' u B.flat → NReads w' v Y.flat → Cap u → Cap v → Calls Tryd.prog 40 #[u, v] w' (Own w' R1)) := fun u v w' h1 h2 h3 h4 => by
    rw [← hR1]; exact iB Y u v w' hoY hY h1 h2 h3 h4 L3.out
  have HCA : Hid (∀ (u v : Value) (w' : World), NReads w' u A.flat → NReads w' v R1.flat → Cap u → Cap v → Calls Tryd.prog 40 #[u, v] w' (Own w' R2)) := fun u v w' h1 h2 h3 h4 => by
    rw [← hR2]; exact iA R1 u v w' HBL.out.1 HBL.out.2 h1 h2 h3 h4 L4.out
  clear hR1 hR2 HE HBL hRl
  obtain ⟨ax, cx, rfl, _⟩ := hx
  obtain ⟨ay, cy, rfl, _⟩ := hy
  clear hoX hX iA iB hoY hY kx ky rX7 rY1 rY2 hlen
  go_enter Tryd.func40, Tryd.ntmps40
  go_wp2_with fail
  refine (ris_b (.two n A B) _ 1 false _ HX.out l1 HRX.out.1).mono ?_
  rintro e w1 ⟨rfl, rfl⟩
  go_wp2_with fail
  refine (ris_b Y _ 1 false _ HY.out l2 HRY.out.1).mono ?_
  rintro e w1 ⟨rfl, rfl⟩
  go_wp2_with fail
  refine (ris_b (.two n A B) _ 2 false _ HX.out l1 HRX.out.2.1).mono ?_
  rintro e w1 ⟨rfl, rfl⟩
  go_wp2_with fail
  refine (ris_b Y _ 2 false _ HY.out l2 HRY.out.2).mono ?_
  rintro e w1 ⟨rfl, rfl⟩
  go_wp2_with fail
  refine (ris_b (.two n A B) _ 7 true _ HX.out l1 HRX.out.2.2).mono ?_
  rintro e w1 ⟨rfl, rfl⟩
  go_wp2_with fail
  refine (cut_any _ (Tr.two n A B).flat _ HX.out l1 (Tr.ok_free _ HOX.out) HKX.out).mono ?_
  rintro e w7 ⟨u, rfl, hpr, hb7⟩
  have hp1 := hpr w7 (fun _ _ _ => rfl)
  rw [cut_flat_two HOX.out] at hp1
  obtain ⟨ua, uc, rfl, hpi⟩ := hp1
  obtain ⟨lg, lo, u0, rfl, hlg, hl0, hu0, hk0⟩ := hpi 0 (by simp)
  obtain ⟨lg', lo', u1, e1, hlg', hl1, hu1, hk1⟩ := hpi 1 (by simp)
  cases e1
  rw [Nat.add_zero] at hl0
  have HU0 : Hid (NReads w7 u0 A.flat) := hu0
  have HU1 : Hid (NReads w7 u1 B.flat) := hu1
  have HK0 : Hid (Cap u0) := hk0
  have HK1 : Hid (Cap u1) := hk1
  have HB7 : Hid (Below w.heap.size w w7) := hb7
  clear hpr hb7 hpi hu0 hk0 hu1 hk1
  go_wp2_with fail
  clear hl l1 l2
  have S0 : SP w7 lg lo u0 u1 w7.drew := ⟨hl0, hl1, (Below.refl _ _).drew⟩
  have HY7 : Hid (NReads w7 (.slice ay Y.flat.length cy) Y.flat) := HY.out.stay HB7.out
  clear hl0 hl1
  go_region_held3 (fun w' => SP w7 lg lo u0 u1 w') (first | exact S0 | assumption | exact sp_step hlg (by assumption) (by assumption)) (first
    | (go_at_call 40; have hor' := hor; refine (HCA.out u0 r _ (by exact HU0.out.stay (sp_below (lg := lg) (lo := lo) (u0 := u0) (u1 := u1) (by assumption))) (by exact own_nreads hor) HK0.out (own_cap hor)).mono ?_; rintro e y2 ⟨z, rfl, hoz, hbz⟩)
    | (go_at_call 40; refine (HCB.out u1 _ _ (by exact HU1.out.stay (sp_below (lg := lg) (lo := lo) (u0 := u0) (u1 := u1) (by assumption))) (by exact HY7.out.stay (sp_below (lg := lg) (lo := lo) (u0 := u0) (u1 := u1) (by assumption))) HK1.out HKY.out).mono ?_; rintro e y1 ⟨r, rfl, hor, hbr⟩))
  all_goals (
    have hS : SP w7 lg lo u0 u1 y2 := by first | assumption | exact sp_step hlg (by assumption) (by assumption)
    have HO : Hid (y2.ownsRow w.heap.size 52 2 z R2.flat.length (ndC R2.flat)) := own_mono hoz (by
      have h1 := HB7.out.size
      have h2 := hbr.size
      have h3 : w7.drew.heap.size = w7.heap.size := rfl
      omega)
    have HB9 : Hid (Below w.heap.size w y2) := go_on HB7.out hS.2.2
    clear hS S0
    go_wp2_with fail
    go_ret
    exact ⟨_, rfl, HO.out, HB9.out⟩)

theorem behind_base (X : Tr) (hoX : X.ok) (hX : NF X) (h7 : X.root.1 ≠ 7 ∨ X = tNone ∨ X = tEmpty) : Bh X := by
  intro Y vx vy w hoY hY hx hy kx ky hl
  by_cases x1 : X = tNone
  · have := behind_1 X Y hoX hoY vx vy w hx hy hl (by rw [x1]; rfl)
    rw [x1, RC_none_l]
    exact this
  have rx1 : (X.root.1 == 1) = false := by rw [beq_eq_false_iff_ne]; exact fun e => x1 ((root_none hoX).1 e)
  by_cases y1 : Y = tNone
  · have := behind_2 X Y hoX hoY vx vy w hx hy hl rx1 (by rw [y1]; rfl)
    rw [y1, RC_none_r]
    exact this
  have ry1 : (Y.root.1 == 1) = false := by rw [beq_eq_false_iff_ne]; exact fun e => y1 ((root_none hoY).1 e)
  by_cases x2 : X = tEmpty
  · have := behind_3 X Y hoX hoY vx vy w hx hy hl rx1 ry1 (by rw [x2]; rfl)
    rw [x2, RC_empty_l]
    exact this
  have rx2 : (X.root.1 == 2) = false := by rw [beq_eq_false_iff_ne]; exact fun e => x2 ((root_empty hoX).1 e)
  by_cases y2 : Y = tEmpty
  · have := behind_4 X Y hoX hoY vx vy w hx hy hl rx1 ry1 rx2 (by rw [y2]; rfl)
    rw [y2, RC_empty_r]
    exact this
  have ry2 : (Y.root.1 == 2) = false := by rw [beq_eq_false_iff_ne]; exact fun e => y2 ((root_empty hoY).1 e)
  have h7 : X.root.1 ≠ 7 := by
    rcases h7 with h | h | h
    · exact h
    · exact absurd h x1
    · exact absurd h x2
  have rx7 : (X.root.1 == 7) = false := by rw [beq_eq_false_iff_ne]; exact h7
  rw [RC_last x1 x2 y1 y2 h7]
  by_cases xa : X = tAll
  · by_cases ya : Y = tAll
    · have := behind_6 X Y hoX hoY vx vy w hx hy hl rx1 ry1 rx2 ry2 rx7 (by simpa using xa) (by simpa using ya)
      rw [cj, if_pos ⟨xa, by rw [ya]; rfl⟩]
      exact this
    · by_cases y7 : Y.root.1 = 7
      · obtain ⟨n, A, B, e⟩ := shape_two hoY (by rw [y7]; rfl)
        have en : n.1 = 7 := by rw [e] at y7; exact y7
        have ef : firstC Y = A := by rw [e, firstC, if_pos en]
        by_cases aA : A = tAll
        · have := behind_9 X Y hoX hoY vx vy w hx hy hl rx1 ry1 rx2 ry2 rx7 (by rw [y7]; rfl) (by simpa using xa) (by simpa using ya) ky n A B e (by simpa using aA)
          rw [cj, if_pos ⟨xa, by rw [ef]; exact aA⟩]
          exact this
        · have := behind_10 X Y hoX hoY vx vy w hx hy hl rx1 ry1 rx2 ry2 rx7 (by rw [y7]; rfl) (by simpa using xa) (by simpa using ya) ky n A B e (by simpa using aA)
          rw [cj, if_neg (fun h => aA (by rw [← ef]; exact h.2))]
          exact this
      · have := behind_8 X Y hoX hoY vx vy w hx hy hl rx1 ry1 rx2 ry2 rx7 (by rw [beq_eq_false_iff_ne]; exact y7) (by simpa using xa) (by simpa using ya)
        have ef : firstC Y = Y := by
          cases Y with
          | zero n => rfl
          | one n a => rfl
          | two n a b => rw [firstC, if_neg (show ¬ n.1 = 7 from y7)]
        rw [cj, if_neg (fun h => ya (by rw [← ef]; exact h.2))]
        exact this
  · have := behind_7 X Y hoX hoY vx vy w hx hy hl rx1 ry1 rx2 ry2 rx7 (by simpa using xa)
    rw [cj, if_neg (fun h => xa h.1)]
    exact this

theorem behind_any : ∀ {X : Tr}, X.ok → NF X → Bh X
  | .zero n, ho, h => behind_base _ ho h (.inl (fun e => by have := ho.2; have e : n.1 = 7 := e; rw [e] at this; simp [arity] at this))
  | .one n a, ho, h => behind_base _ ho h (.inl (fun e => by have := ho.2.1; have e : n.1 = 7 := e; rw [e] at this; simp [arity] at this))
  | .two n a b, ho, h => by
    by_cases e7 : n.1 = 7
    · have iA := behind_any ho.2.2.1 h.1
      have iB := behind_any ho.2.2.2 h.2.1
      intro Y vx vy w hoY hY hx hy kx ky hl
      have rx : ∀ k : Int, k ≠ 7 → ((Tr.two n a b).root.1 == k) = false := fun k hk => by rw [beq_eq_false_iff_ne]; show n.1 ≠ k; omega
      by_cases y1 : Y = tNone
      · have := behind_2 (.two n a b) Y ho hoY vx vy w hx hy hl (rx 1 (by decide)) (by rw [y1]; rfl)
        rw [y1, RC_none_r]
        exact this
      have ry1 : (Y.root.1 == 1) = false := by rw [beq_eq_false_iff_ne]; exact fun e => y1 ((root_none hoY).1 e)
      by_cases y2 : Y = tEmpty
      · have := behind_4 (.two n a b) Y ho hoY vx vy w hx hy hl (rx 1 (by decide)) ry1 (rx 2 (by decide)) (by rw [y2]; rfl)
        rw [y2, RC_empty_r]
        exact this
      have ry2 : (Y.root.1 == 2) = false := by rw [beq_eq_false_iff_ne]; exact fun e => y2 ((root_empty hoY).1 e)
      exact behind_5 n a b Y ho h iA iB hoY hY vx vy w hx hy kx ky hl e7 ry1 ry2
    · exact behind_base _ ho h (.inl e7)
end Go.Proofs.YtdmjcfecahcdnaaDoor
