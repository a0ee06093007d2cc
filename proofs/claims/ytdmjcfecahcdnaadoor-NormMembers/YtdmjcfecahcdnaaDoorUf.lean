/- The document's Members. -/
import Derived.Test.YtdmjcfecahcdnaaDoorUd
import Derived.Test.YtdmjcfecahcdnaaDoorXz
namespace Go.Proofs.YtdmjcfecahcdnaaDoor
open Go Go.RowKit
set_option linter.unusedVariables false

theorem NL.kept {lo : Nat} {w w' : World} {v : Value} {ts : List Nd} (h : NL lo w v ts) (hs : w.heap.size ≤ w'.heap.size) (hk : ∀ k, lo ≤ k → k < w.heap.size → w'.heap[k]? = w.heap[k]?) : NL lo w' v ts := by
  obtain ⟨⟨a, c, rfl, hr⟩, h2⟩ := h
  refine ⟨⟨a, c, rfl, fun i hi => ?_⟩, h2⟩
  obtain ⟨g, o, e, hg, c1, c2⟩ := hr i hi
  have hl : lo ≤ g := h2 ⟨g, o, none⟩ _ _ (by rw [e])
  exact ⟨g, o, e, by omega, by rw [World.cell?_of_block (a := ⟨g, o + i * 2, none⟩) (hk g hl hg)]; exact c1, by rw [World.cell?_of_block (a := ⟨g, o + i * 2 + 1, none⟩) (hk g hl hg)]; exact c2⟩
/-- Lists read, from blocks that are not below base. -/
def PL (base : Nat) (w : World) (v : Value) (ps : List (List Nd)) : Prop :=
  ∃ a cap, v = .slice a ps.length cap ∧ ∀ i, i < ps.length → ∃ g o u, a = some ⟨g, o, none⟩ ∧ g < w.heap.size ∧ base ≤ g ∧ w.cell? ⟨g, o + i, none⟩ = some u ∧ NL base w u (ps.getD i [])
theorem PL.reads {base : Nat} {w : World} {v : Value} {ps : List (List Nd)} (h : PL base w v ps) : PReads w v ps := by
  obtain ⟨a, c, e, hr⟩ := h
  exact ⟨a, c, e, fun i hi => by obtain ⟨g, o, u, h1, h2, _, h3, h4⟩ := hr i hi; exact ⟨g, o, u, h1, h2, h3, h4.1⟩⟩
theorem PL.kept {base : Nat} {w w' : World} {v : Value} {ps : List (List Nd)} (h : PL base w v ps) (hs : w.heap.size ≤ w'.heap.size) (hk : ∀ k, base ≤ k → k < w.heap.size → w'.heap[k]? = w.heap[k]?) : PL base w' v ps := by
  obtain ⟨a, c, e, hr⟩ := h
  refine ⟨a, c, e, fun i hi => ?_⟩
  obtain ⟨g, o, u, h1, h2, h5, h3, h4⟩ := hr i hi
  exact ⟨g, o, u, h1, by omega, h5, by rw [World.cell?_of_block (a := ⟨g, o + i, none⟩) (hk g h5 h2)]; exact h3, h4.kept hs hk⟩
theorem PL.stay {base : Nat} {w w' : World} {v : Value} {ps : List (List Nd)} (h : PL base w v ps) (hb : Below w.heap.size w w') : PL base w' v ps := h.kept hb.size fun k _ hk => hb.block k hk
theorem TL.pl {lo base : Nat} {W w : World} {v : Value} {l : List Tr} (h : TL lo W base w v l) (hl : lo ≤ base) (hb : Below W.heap.size W w) : PL lo w v (l.map Tr.flat) := by
  obtain ⟨cs, hc, ho⟩ := h
  have ho' := ho
  obtain ⟨hlen, hh⟩ := ho
  rcases hh with ⟨rfl, h0⟩ | ⟨g, cap, cur, rfl, _⟩
  · obtain rfl := List.eq_nil_of_length_eq_zero h0
    exact ⟨none, 0, rfl, fun i hi => by simp at hi⟩
  · refine ⟨some ⟨g, 0, none⟩, cap, by rw [List.length_map], fun i hi => ?_⟩
    rw [List.length_map] at hi
    obtain ⟨a, c, e, h1, h2⟩ := hc.2 i l[i] (List.getElem?_eq_getElem hi)
    have hcell := ho'.cells (g := g) rfl i _ e
    rw [Addr.add_lit] at hcell
    have eg : (l.map Tr.flat).getD i [] = l[i].flat := by rw [List.getD_eq_getElem?_getD, List.getElem?_map, List.getElem?_eq_getElem hi]; rfl
    rw [eg]
    exact ⟨g, 0, _, rfl, (ho'.lt g rfl).2, by have := (ho'.lt g rfl).1; omega, hcell, h1.kept hb.size fun k _ hk => hb.block k hk⟩
def RQ (E : Int) (ms : List Tr) (w : World) (e : Ending) (w' : World) : Prop := ∃ v, e = .returned (.tuple #[v, .int .i64 E]) ∧ PL w.heap.size w' v (ms.map Tr.flat) ∧ Below w.heap.size w w'
theorem pl_nil (base : Nat) (w : World) : PL base w (.slice none 0 0) [] := ⟨none, 0, rfl, fun i hi => by simp at hi⟩

set_option maxHeartbeats 2000000 in
theorem rmembers_mq {k : Int} {ts : List Nd} {E : Int} {ms : List Tr} (h : MemR k ts E ms) (a : Option Addr) (c : Nat) (w : World) (hv : NReads w (.slice a ts.length c) ts) (hm : ts.length ≤ 9223372036854775806) (hc : ts.length ≤ c) : Calls Tryd.prog 28 #[.int .i64 k, .slice a ts.length c] w (RQ E ms w) := by
  unfold RQ
  have HV : Hid (NReads w (.slice a ts.length c) ts) := hv
  rcases h with ⟨h5, h6, rfl, rfl⟩ | ⟨hk, h0, rfl, rfl⟩ | ⟨hk, T, ho, hT, h0, rfl, rfl⟩
  · have b5 : (k != 5) = true := by simpa using h5
    have b6 : (k != 6) = true := by simpa using h6
    clear h5 h6 hv hc hm
    go_enter Tryd.func28, Tryd.ntmps28
    go_wp2_with fail
    go_ret2
    exact ⟨_, rfl, pl_nil _ _, Below.refl _ _⟩
  · obtain ⟨x, hx⟩ : ∃ x, wrong ts = x := ⟨_, rfl⟩
    rw [hx] at h0 ⊢
    have hxb : (x != 0) = true := by simpa using h0
    have HX : Hid (wrong ts = x) := hx
    clear hx h0 hv hc
    rcases hk with rfl | rfl
    all_goals
      go_enter Tryd.func28, Tryd.ntmps28
      go_wp2_with fail
      refine (rwrong_any _ ts _ HV.out hm).mono ?_
      rintro e w1 ⟨rfl, hb1⟩
      rw [HX.out]
      have HB1 : Hid (Below w.heap.size w w1) := hb1
      clear hb1
      go_wp2_with fail
      go_ret2
      exact ⟨_, rfl, pl_nil _ _, HB1.out⟩
  · subst hT
    have h4 := (wrong_len h0).1
    have HX : Hid (wrong T.flat = 0) := h0
    have HF : Hid (Fc T) := form_any ho
    have HC : Hid (T.flat.length ≤ c ∧ T.flat.length ≤ 4000) := ⟨hc, h4⟩
    have hok := nrm_ok ho
    have hln := nrm_len ho
    obtain ⟨R, hR⟩ : ∃ R, nrm T = R := ⟨_, rfl⟩
    unfold Fc at HF
    rw [hR] at HF hok hln ⊢
    have HLC : Hid (Lc w.heap.size k R) := listed_any k hk hok.1
    unfold Lc at HLC
    rw [Lst_mb hk hok.1 hok.2] at HLC
    obtain ⟨ms, hms⟩ : ∃ ms, Mb k R = ms := ⟨_, rfl⟩
    rw [hms] at HLC ⊢
    have hRl : R.flat.length ≤ 9000 := by omega
    clear h0 hv hc h4 hR ho hok hln hms
    rcases hk with rfl | rfl
    all_goals
      go_enter Tryd.func28, Tryd.ntmps28
      go_wp2_with fail
      refine (rwrong_any _ T.flat _ HV.out hm).mono ?_
      rintro e w1 ⟨rfl, hb1⟩
      rw [HX.out]
      have HB1 : Hid (Below w.heap.size w w1) := hb1
      clear hb1
      go_wp2_with fail
      refine (HF.out _ _ _ (HV.out.stay HB1.out) HC.out.1 HC.out.2).mono ?_
      rintro e w2 ⟨u, rfl, ho2, hb2⟩
      obtain ⟨ua, uc, rfl⟩ := own_shape ho2
      have HNL : Hid (NL w.heap.size w2 (.slice ua R.flat.length uc) R.flat) := ⟨own_nreads ho2, fun ad n c e => by
        have h1 := (ho2.lt ad.block (by cases e; rfl)).1
        have h2 := HB1.out.size
        omega⟩
      have HKU : Hid (R.flat.length ≤ uc) := own_cap ho2 _ _ _ rfl
      have HB2 : Hid (Below w.heap.size w w2) := go_on HB1.out hb2
      clear ho2 hb2
      go_wp2_with fail
      refine (HLC.out w2 w2 _ _ (Below.refl _ _) HNL.out HKU.out hRl).mono ?_
      rintro e w3 ⟨u3, rfl, ht3, hb3⟩
      have HPL : Hid (PL w.heap.size w3 u3 (ms.map Tr.flat)) := ht3.pl HB2.out.size hb3
      have HB3 : Hid (Below w.heap.size w w3) := go_on HB2.out hb3
      clear ht3 hb3
      go_wp2_with fail
      go_ret2
      exact ⟨_, rfl, HPL.out, HB3.out⟩
end Go.Proofs.YtdmjcfecahcdnaaDoor
