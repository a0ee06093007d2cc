/- The document's turned: a side from behind. -/
import Derived.Test.YthhlamehbcidgaaY41
namespace Go.Proofs.Ythhlamehbcidgaa
open Go Go.RowKit Go.Lib
set_option linter.unusedVariables false

/-- A cut side's parts in memory. -/
def KR (w : World) (a : Option Addr) (K : List Tm) : Prop := ∀ j, j < K.length → ∃ G u, a = some ⟨G, 0, none⟩ ∧ G < w.heap.size ∧ w.cell? ⟨G, j, none⟩ = some u ∧ TmC w u (K.getD j .one)
theorem TmC.below {w w' : World} {v : Value} {t : Tm} (h : TmC w v t) (hb : Below w.heap.size w w') : TmC w' v t := SgC.below h hb
theorem KR.below {w w' : World} {a : Option Addr} {K : List Tm} (h : KR w a K) (hb : Below w.heap.size w w') : KR w' a K := fun j hj => by
  obtain ⟨G, u, rfl, h1, h2, h3⟩ := h j hj
  exact ⟨G, u, rfl, Nat.lt_of_lt_of_le h1 hb.size, by rw [below_cell hb h1]; exact h2, h3.below hb⟩
theorem cut_any (t : Tm) (v : Value) (w : World) (h : TmC w v t) (hL : t.sg.length ≤ 400) : Calls Try.prog 76 #[v] w fun e w' => ∃ a, e = .returned (.slice a t.kids.length t.kids.length) ∧ KR w' a t.kids ∧ Below w.heap.size w w' := by
  have leaf : t.kids = [] → Calls Try.prog 76 #[v] w fun e w' => ∃ a, e = .returned (.slice a t.kids.length t.kids.length) ∧ KR w' a t.kids ∧ Below w.heap.size w w' := fun hk => by
    rw [hk]
    exact (cut_leaf t hk v w h hL).mono fun e w' q => ⟨none, q.1, fun j hj => by simp at hj, q.2⟩
  cases t with
  | one => exact leaf rfl
  | var c => exact leaf rfl
  | om t =>
    refine (cut_om t v w h hL).mono fun e w' q => ?_
    obtain ⟨v1, e1, e2, e3, e4⟩ := q
    refine ⟨_, e1, fun j hj => ?_, e4⟩
    have hj0 : j = 0 := by have : j < 1 := hj; omega
    subst hj0
    exact ⟨_, v1, rfl, (Array.getElem?_eq_some_iff.1 e2).1, cell_at e2 rfl, e3⟩
  | mul a b =>
    refine (cut_mul a b v w h hL).mono fun e w' q => ?_
    obtain ⟨v1, v2, e1, e2, e3, e4, e5⟩ := q
    refine ⟨_, e1, fun j hj => ?_, e5⟩
    have hj0 : j = 0 ∨ j = 1 := by have : j < 2 := hj; omega
    rcases hj0 with rfl | rfl
    · exact ⟨_, v1, rfl, (Array.getElem?_eq_some_iff.1 e2).1, cell_at e2 rfl, e3⟩
    · exact ⟨_, v2, rfl, (Array.getElem?_eq_some_iff.1 e2).1, cell_at e2 rfl, e4⟩

/-- The parts from q on, from behind. -/
def trn (K : List Tm) (q : Nat) : Sg := (K.drop q).reverse.flatMap Tm.turn
theorem trn_end (K : List Tm) : trn K K.length = [] := by unfold trn; rw [List.drop_length]; rfl
theorem trn_step {K : List Tm} {q : Nat} (h : q < K.length) : trn K q = trn K (q + 1) ++ (K.getD q .one).turn := by
  unfold trn
  rw [List.drop_eq_getElem_cons h, List.reverse_cons, List.flatMap_append, List.getD_eq_getElem?_getD, List.getElem?_eq_getElem h]
  simp
theorem turn_eq (t : Tm) : t.turn = trn t.kids 0 ++ [t.root] := by
  cases t with
  | one => rfl
  | var c => rfl
  | om t => show t.turn ++ _ = (([t].reverse).flatMap Tm.turn) ++ _; simp; rfl
  | mul a b => show (b.turn ++ a.turn) ++ _ = (([a, b].reverse).flatMap Tm.turn) ++ _; simp; rfl
theorem trn_len (K : List Tm) (q : Nat) : (trn K q).length ≤ (Fo K).length := by
  have h1 : ∀ L : List Tm, (L.reverse.flatMap Tm.turn).length = (Fo L).length := fun L => by
    induction L with
    | nil => rfl
    | cons t L ih =>
      rw [List.reverse_cons, List.flatMap_append, List.length_append, ih]
      show _ = (t.sg ++ Fo L).length
      rw [List.length_append]
      simp [Tm.turn_len]
      omega
  unfold trn
  rw [h1]
  have h2 : (Fo K).length = (Fo (K.take q)).length + (Fo (K.drop q)).length := by
    rw [← List.length_append, ← Fo_app, List.take_append_drop]
  omega
theorem kid_len {t : Tm} {j : Nat} (h : j < t.kids.length) : (t.kids.getD j .one).sg.length < t.sg.length := by
  cases t with
  | one => simp [Tm.kids] at h
  | var c => simp [Tm.kids] at h
  | om t =>
    have hj0 : j = 0 := by have : j < 1 := h; omega
    subst hj0
    rw [om_len]
    show t.sg.length < _
    omega
  | mul a b =>
    have hj0 : j = 0 ∨ j = 1 := by have : j < 2 := h; omega
    rw [mul_len]
    rcases hj0 with rfl | rfl
    · show a.sg.length < _; omega
    · show b.sg.length < _; omega
theorem sgC_app (A B : Sg) : sgC (A ++ B) = sgC A ++ sgC B := by simp [sgC]
theorem sgC_one : ∀ (A : Sg) (u : Value), u ∈ sgC A → u.oneCell' = true := fun A u hu => by
  unfold sgC at hu
  rw [List.mem_flatMap] at hu
  obtain ⟨p, _, hp⟩ := hu
  simp at hp
  rcases hp with rfl | rfl <;> rfl
theorem own_less {w : World} {a b : Nat} {e : TypeId} {z n : Nat} {v : Value} {l : List Value} (h : w.ownsRow b e z v n l) (hab : a ≤ b) : w.ownsRow a e z v n l := by
  obtain ⟨h0, h⟩ := h
  rcases h with q | ⟨g, cap, cur, rfl, hb, h1, h2, h3, h4, h5⟩
  · exact ⟨h0, .inl q⟩
  · exact ⟨h0, .inr ⟨g, cap, cur, rfl, Nat.le_trans hab hb, h1, h2, h3, h4, h5⟩⟩
def TuC (f : FuncId) (t : Tm) : Prop := ∀ (v : Value) (w : World), TmC w v t → Calls Try.prog f #[v] w fun e w' => ∃ u, e = .returned u ∧ w'.ownsRow w.heap.size 81 2 u t.turn.length (sgC t.turn) ∧ Below w.heap.size w w'

set_option maxHeartbeats 8000000 in
set_option maxRecDepth 100000 in
theorem rturned_any : ∀ (d : Nat) (t : Tm), t.sg.length ≤ d → d ≤ 400 → TuC 38 t
  | 0, t, h, _ => by have := t.sg_pos; omega
  | d + 1, t, hd, h4 => by
    have IH : Hid (∀ j, j < t.kids.length → TuC 38 (t.kids.getD j .one)) := fun j hj => rturned_any d _ (by have := kid_len hj; omega) (by omega)
    intro v w h
    have HT : Hid (TmC w v t) := h
    obtain ⟨g, o, cap, rfl, hc, hg, c1, c2, c3⟩ := h.root
    have HCUT : Hid (Calls Try.prog 76 #[.slice (some ⟨g, o, none⟩) t.sg.length cap] w fun e w' => ∃ a, e = .returned (.slice a t.kids.length t.kids.length) ∧ KR w' a t.kids ∧ Below w.heap.size w w') := cut_any t _ w h (by omega)
    obtain ⟨i0, hi, hz0, hz1, hz2⟩ := info_parts Try.info_sign
    have hp := t.sg_pos
    have HLS : Hid (∀ q, (trn t.kids q).length ≤ 400) := fun q => by
      have h1 := trn_len t.kids q
      have h2 : t.sg.length = (Fo t.kids).length + 1 := by rw [t.sg_eq, List.length_append]; rfl
      omega
    have HKT : Hid (∀ j, j < t.kids.length → (t.kids.getD j .one).turn.length ≤ 400 ∧ 0 < (t.kids.getD j .one).turn.length) := fun j hj => by
      have := kid_len hj
      rw [Tm.turn_len]
      exact ⟨by omega, Tm.sg_pos _⟩
    obtain ⟨n, hn⟩ : ∃ n, t.sg.length = n := ⟨_, rfl⟩
    have HN : Hid (t.sg.length = n) := hn
    rw [hn] at c1 c2 HCUT hp ⊢
    have HC12 : Hid (w.cell? ⟨g, o + (n - 1) * 2, none⟩ = some (.int .i64 (t.root.1 : Nat)) ∧ w.cell? ⟨g, o + (n - 1) * 2 + 1, none⟩ = some (.int .u8 (t.root.2 : Nat)) ∧ g < w.heap.size) := ⟨c1, c2, hg⟩
    have hw : IntKind.i64.wrap ((n : Int) - 1) = ((n - 1 : Nat) : Int) := by rw [IntKind.wrap_i64]; omega
    have hlt : ((n - 1 : Nat) : Int) < n := by omega
    have HKL : Hid (t.kids.length ≤ 2) := by show _ ≤ _; cases t <;> simp [Tm.kids]
    obtain ⟨K, hK⟩ : ∃ K, t.kids = K := ⟨_, rfl⟩
    have HTU : Hid (t.turn = trn K 0 ++ [t.root]) := by have := turn_eq t; rw [hK] at this; exact this
    rw [hK] at IH HCUT HLS HKT HKL
    clear h hn c1 c2 c3 hK
    go_enter Try.func38, Try.ntmps38
    go_wp2_with fail
    refine Calls.mono HCUT.out ?_
    rintro e w2 ⟨pa, rfl, hkr, hb2⟩
    have HKR : Hid (KR w2 pa K) := hkr
    have HB2 : Hid (Below w.heap.size w w2) := hb2
    have hk2 := HKL.out
    have hwk : IntKind.i64.wrap ((K.length : Int) - 1) = (K.length : Int) - 1 := by rw [IntKind.wrap_i64]; omega
    clear hkr hb2
    go_wp2_with fail
    go_loopw [4, 5] (fun vo vi wr => ∃ q : Nat, vi = .int .i64 ((q : Int) - 1) ∧ q ≤ K.length ∧ wr.ownsRow w2.heap.size 81 2 vo (trn K q).length (sgC (trn K q)) ∧ Below w.heap.size w wr ∧ Below w2.heap.size w2 wr) (fun _ vi _ => (Go.RowKit.intOf vi + 1).toNat)
    case atStart => exact ⟨K.length, rfl, Nat.le_refl _, by rw [trn_end]; exact World.ownsRow_nil _ _ _ _, HB2.out, Below.refl _ _⟩
    case round =>
      obtain ⟨q, rfl, hq, ho, hb, hb'⟩ := hrel
      have HB : Hid (Below w.heap.size w wr ∧ Below w2.heap.size w2 wr) := ⟨hb, hb'⟩
      obtain ⟨va, vc, rfl⟩ := own_shape ho
      have HO : Hid (wr.ownsRow w2.heap.size 81 2 (.slice va (trn K q).length vc) (trn K q).length (sgC (trn K q))) := ho
      have hls := HLS.out q
      clear hb hb' ho
      by_cases hq0 : q = 0
      · subst hq0
        have h0 : decide ((0 : Int) ≤ -1) = false := rfl
        have k1 : wr.cell? ⟨g, o + (n - 1) * 2, none⟩ = some (.int .i64 (t.root.1 : Nat)) := by rw [below_cell (HB.out.1.mono (Nat.le_refl _)) HC12.out.2.2]; exact HC12.out.1
        have k2 : wr.cell? ⟨g, o + (n - 1) * 2 + 1, none⟩ = some (.int .u8 (t.root.2 : Nat)) := by rw [below_cell (HB.out.1.mono (Nat.le_refl _)) HC12.out.2.2]; exact HC12.out.2.1
        go_wp2_with (at_builtin; refine wpList_append_lies _ rfl _ _ 22 rfl w2.heap.size 81 i0 (.agg #[.int .i64 0, .int .u8 0]) 2 16 Try.underlying22 hi hz0 hz1 hz2 rfl (by decide) _ _ _ rfl (HO.out.alloc _) ⟨wr.heap.size, 0, none⟩ 1 1 [.int .i64 (t.root.1 : Nat), .int .u8 (t.root.2 : Nat)] rfl rfl (World.news_of_block (heap_last wr _)) (by intro u hu; simp at hu; rcases hu with rfl | rfl <;> rfl) (by decide) (by unfold maxLen; omega) (by omega) (by have := HB.out.2.size; simp; omega) (wr.alloc (.cells #[.int .i64 (t.root.1 : Nat), .int .u8 (t.root.2 : Nat)] 81)).heap.size rfl ?_; intro g7 c7 w7 ho7 hg7 hl7 _; have hb7 : Below w2.heap.size w2 w7 := (HB.out.2.alloc HB.out.2.size _).grown hg7 (by have := HB.out.2.size; simp; omega) (fun g hg => (HO.out.lt g hg).1); have HO7 : Hid (w7.ownsRow w2.heap.size 81 2 (.slice (some ⟨g7, 0, none⟩) ((trn K 0).length + 1) c7) t.turn.length (sgC t.turn)) := (by show World.ownsRow _ _ _ _ _ _ _; rw [HTU.out, sgC_snoc, List.length_append]; exact ho7); have HB7 : Hid _ := hb7; clear ho7 hg7 hl7 hb7)
        go_ret
        exact ⟨_, rfl, own_less HO7.out HB2.out.size, go_on HB2.out HB7.out⟩
      · have h0 : ((0 : Int) ≤ (q : Int) - 1) := by omega
        have h0d : decide ((0 : Int) ≤ (q : Int) - 1) = true := decide_eq_true h0
        obtain ⟨p, rfl⟩ : ∃ p, q = p + 1 := ⟨q - 1, by omega⟩
        obtain ⟨G, u, rfl, hG1, hG2, hG3⟩ := (HKR.out.below HB.out.2) p hq
        have HTP : Hid (Calls Try.prog 38 #[u] wr fun e w' => ∃ u', e = .returned u' ∧ w'.ownsRow wr.heap.size 81 2 u' (K.getD p .one).turn.length (sgC (K.getD p .one).turn) ∧ Below wr.heap.size wr w') := IH.out p hq u wr hG3
        obtain ⟨gu, ou, cu, eu, -, -, -, -, -⟩ := hG3.root
        have hpK : (p : Int) < K.length := by omega
        have hwp : IntKind.i64.wrap ((p : Int) - 1) = (p : Int) - 1 := by rw [IntKind.wrap_i64]; omega
        have HST : Hid (trn K p = trn K (p + 1) ++ (K.getD p .one).turn) := trn_step hq
        have hkt := HKT.out p hq
        subst eu
        clear hG1 hG3
        go_wp2_with fail
        refine Calls.mono HTP.out ?_
        rintro e w3 ⟨u3, rfl, ho3, hb3⟩
        obtain ⟨g3, c3, rfl, hg3, hl3⟩ := ho3.form hkt.2
        have HO3 : Hid (w3.ownsRow wr.heap.size 81 2 (.slice (some ⟨g3, 0, none⟩) (K.getD p .one).turn.length c3) (K.getD p .one).turn.length (sgC (K.getD p .one).turn)) := ho3
        have HB3 : Hid (Below w.heap.size w w3 ∧ Below w2.heap.size w2 w3 ∧ Below wr.heap.size wr w3) := ⟨go_on HB.out.1 hb3, go_on HB.out.2 hb3, hb3⟩
        have HOO : Hid (w3.ownsRow w2.heap.size 81 2 (.slice va (trn K (p + 1)).length vc) (trn K (p + 1)).length (sgC (trn K (p + 1)))) := own_below HO.out hb3
        clear ho3 hb3 hG2
        go_wp2_with (at_builtin; refine wpList_append_lies _ rfl _ _ 22 rfl w2.heap.size 81 i0 (.agg #[.int .i64 0, .int .u8 0]) 2 16 Try.underlying22 hi hz0 hz1 hz2 rfl (by decide) _ _ _ rfl HOO.out ⟨g3, 0, none⟩ (K.getD p .one).turn.length c3 (sgC (K.getD p .one).turn) rfl (by rw [sgC_len]) (fun j u hu => HO3.out.cells (g := g3) rfl j u hu) (sgC_one _) hkt.2 (by unfold maxLen; omega) (by omega) (HB3.out.2.1.size) w3.heap.size rfl ?_; intro g7 c7 w7 ho7 hg7 hl7 _; have hb7 : Below w2.heap.size w2 w7 := HB3.out.2.1.grown hg7 HB3.out.2.1.size (fun g hg => (HOO.out.lt g hg).1); have HO7 : Hid (w7.ownsRow w2.heap.size 81 2 (.slice (some ⟨g7, 0, none⟩) ((trn K (p + 1)).length + (K.getD p .one).turn.length) c7) (trn K p).length (sgC (trn K p))) := (by show World.ownsRow _ _ _ _ _ _ _; rw [HST.out, sgC_app, List.length_append]; exact ho7); have HB7 : Hid _ := hb7; clear ho7 hg7 hl7 hb7)
        go_roundw
        case rel => exact ⟨p, rfl, by omega, HO7.out, go_on HB2.out HB7.out, HB7.out⟩
        case measure => simp [Go.RowKit.intOf]
end Go.Proofs.Ythhlamehbcidgaa
