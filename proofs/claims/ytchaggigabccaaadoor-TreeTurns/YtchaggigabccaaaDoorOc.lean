/- tree.Parts and the document's Parts at every list, side by side; what was told is apart. -/
import Derived.Test.YtchaggigabccaaaDoorOb
namespace Go.Proofs.YtchaggigabccaaaDoor
open Go Go.RowKit

/-- A told list of lists, empty ones too. -/
def PT (w : World) (base : Nat) (v : Value) (ps : List (List Nd)) : Prop :=
  (ps = [] ∧ ∃ a c, v = .slice a 0 c) ∨ ∃ G vs, v = .slice (some ⟨G, 0, none⟩) ps.length ps.length ∧ 0 < ps.length ∧ Told w base G vs ps
theorem PT.reads {w : World} {base : Nat} {v : Value} {ps : List (List Nd)} (h : PT w base v ps) : PReads w v ps := by
  rcases h with ⟨rfl, a, c, rfl⟩ | ⟨G, vs, rfl, _, h⟩
  · exact ⟨a, c, rfl, fun i hi => absurd hi (by simp)⟩
  · exact h.reads _
theorem PT.kept {w w' : World} {base : Nat} {v : Value} {ps : List (List Nd)} (h : PT w base v ps) (hk : ∀ k, base ≤ k → k < w.heap.size → w'.heap[k]? = w.heap[k]?) : PT w' base v ps := by
  rcases h with h | ⟨G, vs, rfl, h0, h⟩
  · exact .inl h
  · exact .inr ⟨G, vs, rfl, h0, h.kept hk⟩
theorem PT.stay {w w' : World} {base : Nat} {v : Value} {ps : List (List Nd)} (h : PT w base v ps) (hb : Below w.heap.size w w') : PT w' base v ps := h.kept fun k _ hk => hb.block k hk
theorem apart_pt {w : World} {base : Nat} {v : Value} {ps : List (List Nd)} (h : PT w base v ps) (hB : base ≤ w.heap.size) (hN : ps.length ≤ 1048576) (hl : ∀ j, j < ps.length → (ps.getD j []).length ≤ 1048576) :
    Calls Tryd.prog 23 #[v] w fun e w' => e = .returned (.bool true) ∧ Below base w w' := by
  rcases h with ⟨rfl, a, c, rfl⟩ | ⟨G, vs, rfl, h0, h⟩
  · refine (apart_none a c w).mono ?_
    rintro e w' ⟨rfl, hb⟩
    exact ⟨rfl, hb.mono hB⟩
  · exact apart_told h _ hB h0 hN hl
/-- What Parts answers. -/
def rootV (ts : List Nd) : Nd := if wrong ts = 0 then ts.getD (ts.length - 1) (0, 0) else (0, 0)
def partsV (ts : List Nd) : List (List Nd) := if wrong ts = 0 then cutL ts else []
theorem told1 {w : World} {base G : Nat} {v1 : Value} {p : List Nd} (hG : base ≤ G) (h : PB w G #[v1]) (h1 : w.ownsRow base 36 2 v1 p.length (ndC p)) : Told w base G [v1] [p] := by
  refine ⟨rfl, h, hG, fun j hj => ?_, fun j j' hj hj' hne => ?_⟩
  · have hj : j < 1 := hj
    obtain rfl : j = 0 := by omega
    exact h1
  · have hj : j < 1 := hj
    have hj' : j' < 1 := hj'
    omega
theorem told2 {w : World} {base B G : Nat} {v1 v2 : Value} {p q : List Nd} (hG : base ≤ G) (hB : base ≤ B) (h : PB w G #[v1, v2]) (h1 : w.ownsRow B 36 2 v1 p.length (ndC p)) (h2 : w.ownsRow base 36 2 v2 q.length (ndC q)) (hlt : ∀ x, v2.ownBlock = some x → x < B) : Told w base G [v1, v2] [p, q] := by
  refine ⟨rfl, h, hG, fun j hj => ?_, fun j j' hj hj' hne b hb hb' => ?_⟩
  · have hj : j < 2 := hj
    have hc : j = 0 ∨ j = 1 := by omega
    rcases hc with rfl | rfl
    · exact own_mono h1 hB
    · exact h2
  · have hj : j < 2 := hj
    have hj' : j' < 2 := hj'
    have hc : (j = 0 ∧ j' = 1) ∨ (j = 1 ∧ j' = 0) := by omega
    rcases hc with ⟨rfl, rfl⟩ | ⟨rfl, rfl⟩
    · have x := (h1.lt b hb).1
      have y := hlt b hb'
      omega
    · have x := (h1.lt b hb').1
      have y := hlt b hb
      omega
theorem parts_any (v : Value) (ts : List Nd) (w : World) (hv : NReads w v ts) (hm : ts.length ≤ 9223372036854775806) (hP : PTab w) (hcap : ∀ a n c, v = .slice a n c → n ≤ c) :
    Calls Tryd.prog 19 #[v] w fun e w' => ∃ u, e = .returned (.tuple #[ndV (rootV ts), u, .int .i64 (wrong ts)]) ∧ PT w' w.heap.size u (partsV ts) ∧ Below w.heap.size w w' := by
  by_cases hok : wrong ts = 0
  · obtain ⟨h4, hf⟩ := wrong_len hok
    obtain ⟨⟨k, s⟩, hn⟩ : ∃ n, ts.getD (ts.length - 1) (0, 0) = n := ⟨_, rfl⟩
    obtain ⟨h0, hg, hsl⟩ := tree_end hf
    rw [hn] at hsl
    simp only at hsl
    have hal := arity_le k
    unfold rootV partsV
    rw [if_pos hok, if_pos hok, hok, hn]
    have hc : arity k = 0 ∨ arity k = 1 ∨ arity k = 2 := by omega
    rcases hc with hr | hr | hr
    · refine (parts_zero v ts w hv h4 hP hok hf k s hn hr hcap).mono ?_
      rintro e w' ⟨G, rfl, hb⟩
      exact ⟨_, rfl, .inl ⟨cut_zero hn hr, _, _, rfl⟩, hb⟩
    · refine (parts_one v ts w hv h4 hP hok hf k s hn hr hcap).mono ?_
      rintro e w' ⟨G, v1, rfl, hG, hp, ho, hb⟩
      rw [cut_one hn hr]
      exact ⟨_, rfl, .inr ⟨G, [v1], rfl, by simp, told1 hG hp ho⟩, hb⟩
    · rw [hr] at hsl
      obtain ⟨a, b, hstk⟩ : ∃ a b, stkN (ts.take (ts.length - 1)) = [a, b] := by
        match hh : stkN (ts.take (ts.length - 1)), hsl with
        | [a, b], _ => exact ⟨a, b, rfl⟩
      refine (parts_two v ts w hv h4 hP hok hf k s hn hr a b hstk hcap).mono ?_
      rintro e w' ⟨G, v1, v2, B, rfl, hG, hB, hp, ho1, ho2, hlt, hb⟩
      rw [cut_two hn hr hstk]
      exact ⟨_, rfl, .inr ⟨G, [v1, v2], rfl, by simp, told2 hG hB hp ho1 ho2 hlt⟩, hb⟩
  · unfold rootV partsV
    rw [if_neg hok, if_neg hok]
    refine (parts_bad v ts w hv hm hP hok).mono ?_
    rintro e w' ⟨rfl, hb⟩
    exact ⟨_, rfl, .inl ⟨rfl, _, _, rfl⟩, hb⟩
theorem rparts_any (v : Value) (ts : List Nd) (w : World) (hv : NReads w v ts) (hm : ts.length ≤ 9223372036854775806) (hcap : ∀ a n c, v = .slice a n c → n ≤ c) :
    Calls Tryd.prog 20 #[v] w fun e w' => ∃ u, e = .returned (.tuple #[ndV (rootV ts), u, .int .i64 (wrong ts)]) ∧ (∀ w'', (∀ k, k < w'.heap.size → v.ownBlock = some k ∨ w.heap.size ≤ k → w''.heap[k]? = w'.heap[k]?) → PReads w'' u (partsV ts)) ∧ Below w.heap.size w w' := by
  by_cases hok : wrong ts = 0
  · unfold rootV partsV
    rw [if_pos hok, if_pos hok, hok]
    exact rparts_good v ts w hv hok hcap
  · unfold rootV partsV
    rw [if_neg hok, if_neg hok]
    refine (rparts_bad v ts w hv hm hok).mono ?_
    rintro e w' ⟨rfl, hb⟩
    exact ⟨_, rfl, fun _ _ => ⟨_, _, rfl, fun i hi => absurd hi (by simp)⟩, hb⟩
theorem partsV_small (ts : List Nd) : (partsV ts).length ≤ 2 ∧ ∀ j, ((partsV ts).getD j []).length ≤ 4000 := by
  unfold partsV
  by_cases hok : wrong ts = 0
  · rw [if_pos hok]
    have h4 := (wrong_len hok).1
    unfold cutL
    split
    · refine ⟨by simp, fun j => ?_⟩
      cases j with
      | zero => simp; omega
      | succ j => simp
    · refine ⟨by simp, fun j => ?_⟩
      match j with
      | 0 => simp; omega
      | 1 => simp; omega
      | j + 2 => simp
    · exact ⟨by simp, fun j => by simp⟩
  · rw [if_neg hok]
    exact ⟨by simp, fun j => by simp⟩
end Go.Proofs.YtchaggigabccaaaDoor
