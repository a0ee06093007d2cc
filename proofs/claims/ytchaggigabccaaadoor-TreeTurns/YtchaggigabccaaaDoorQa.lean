/- Contracts of the document's turned, Reverse and Rename. -/
import Derived.Test.YtchaggigabccaaaDoorOd
import Derived.Test.YtchaggigabccaaaDoorPd
namespace Go.Proofs.YtchaggigabccaaaDoor
open Go Go.RowKit

/-- Lists, and where they lie, that are read alike as long as their blocks stay. -/
theorem cut_flat_one {n : Nd} {a : Tr} (h : (Tr.one n a).ok) : cutL (Tr.one n a).flat = [a.flat] := by
  have hl : (Tr.one n a).flat.length - 1 = a.flat.length := by simp [Tr.flat]
  have hn : (Tr.one n a).flat.getD ((Tr.one n a).flat.length - 1) (0, 0) = (n.1, n.2) := by
    rw [hl, Tr.flat, List.getD_eq_getElem?_getD, List.getElem?_append_right (Nat.le_refl _)]; simp
  rw [cut_one hn h.2.1, hl, Tr.flat, List.take_left]
theorem cut_flat_two {n : Nd} {a b : Tr} (h : (Tr.two n a b).ok) : cutL (Tr.two n a b).flat = [a.flat, b.flat] := by
  have hl : (Tr.two n a b).flat.length - 1 = (a.flat ++ b.flat).length := by simp [Tr.flat]
  have hn : (Tr.two n a b).flat.getD ((Tr.two n a b).flat.length - 1) (0, 0) = (n.1, n.2) := by
    rw [hl, Tr.flat, List.getD_eq_getElem?_getD, List.getElem?_append_right (Nat.le_refl _)]; simp
  have ht : (Tr.two n a b).flat.take ((Tr.two n a b).flat.length - 1) = a.flat ++ b.flat := by rw [hl, Tr.flat, List.take_left]
  have hstk : stkN ((Tr.two n a b).flat.take ((Tr.two n a b).flat.length - 1)) = [b.flat.length, a.flat.length] := by
    rw [ht, stkN, stk_append, Tr.stk_flat a h.2.2.1, Tr.stk_flat b h.2.2.2]
  rw [cut_two hn h.2.1 hstk, ht, List.drop_left]
  rw [Tr.flat, List.append_assoc, List.take_left]
theorem cut_flat_zero {n : Nd} (h : (Tr.zero n).ok) : cutL (Tr.zero n).flat = [] :=
  cut_zero (k := n.1) (s := n.2) rfl h.2
theorem flat_last (t : Tr) : t.flat.getD (t.flat.length - 1) (0, 0) = t.root := by
  obtain ⟨X, hX⟩ := t.flat_root
  rw [hX, List.getD_eq_getElem?_getD, List.getElem?_append_right (by simp)]
  simp

abbrev S3 (W : World) (B : Nat) (k s : Int) (ad : Addr) (u : Value) (w' : World) : Prop := w'.cell? ⟨B, 0, none⟩ = some (.int .i64 k) ∧ w'.cell? ⟨B, 1, none⟩ = some (.int .u8 s) ∧ w'.cell? ad = some u ∧ Below W.heap.size W w'
theorem s3_step {W : World} {B : Nat} {k s : Int} {ad : Addr} {u : Value} {w1 w2 : World} (h1 : B < W.heap.size) (h2 : ad.block < W.heap.size) (hb : Below w1.heap.size w1 w2) (h : S3 W B k s ad u w1) : S3 W B k s ad u w2 := by
  have hs := h.2.2.2.size
  refine ⟨?_, ?_, ?_, go_on h.2.2.2 hb⟩
  · rw [below_cell hb (by omega)]; exact h.1
  · rw [below_cell hb (by omega)]; exact h.2.1
  · rw [World.cell?_of_block (hb.block _ (Nat.lt_of_lt_of_le h2 hs))]; exact h.2.2.1
theorem s3_alloc {W : World} {B : Nat} {k s : Int} {ad : Addr} {u : Value} {w1 : World} (h1 : B < W.heap.size) (h2 : ad.block < W.heap.size) (O : Obj) (h : S3 W B k s ad u w1) : S3 W B k s ad u (w1.alloc O) := s3_step h1 h2 ((Below.refl _ _).alloc (Nat.le_refl _) O) h

theorem one_lit {w : World} {B : Nat} {v : Value} {p : List Nd} (h : w.ownsRow B 36 2 v p.length (ndC p)) : PReads (w.alloc (.cells #[v] 22)) (.slice (some ⟨w.heap.size, 0, none⟩) 1 1) [p] :=
  one_reads (PB.new w _) (h.alloc _)
theorem two_lit {w : World} {B C : Nat} {v v' : Value} {p q : List Nd} (h : w.ownsRow B 36 2 v p.length (ndC p)) (h' : w.ownsRow C 36 2 v' q.length (ndC q)) : PReads (w.alloc (.cells #[v, v'] 22)) (.slice (some ⟨w.heap.size, 0, none⟩) 2 2) [p, q] :=
  two_reads (PB.new w _) (h.alloc _) (h'.alloc _)
theorem one_pos {p : List Nd} (h : 1 ≤ p.length) : ∀ i, i < [p].length → 1 ≤ ([p].getD i []).length := fun i hi => by
  have hi : i < 1 := hi
  obtain rfl : i = 0 := by omega
  exact h
theorem two_pos {p q : List Nd} (h : 1 ≤ p.length) (h' : 1 ≤ q.length) : ∀ i, i < [p, q].length → 1 ≤ ([p, q].getD i []).length := fun i hi => by
  have hi : i < 2 := hi
  have hc : i = 0 ∨ i = 1 := by omega
  rcases hc with rfl | rfl
  · exact h
  · exact h'
theorem tot_one (p : List Nd) : tot [p] = p.length := by simp [tot]
theorem tot_two (p q : List Nd) : tot [p, q] = p.length + q.length := by simp [tot]
/-- What turned answers for a tree. -/
def Turns (t : Tr) : Prop := ∀ (v : Value) (w : World), NReads w v t.flat → t.flat.length ≤ 4000 → (∀ a n c, v = .slice a n c → n ≤ c) →
    Calls Tryd.prog 51 #[v] w fun e w' => ∃ u, e = .returned u ∧ w'.ownsRow w.heap.size 36 2 u t.flat.length (ndC t.rev.flat) ∧ Below w.heap.size w w'

set_option maxHeartbeats 16000000 in
set_option maxRecDepth 100000 in
theorem turns_zero (n : Nd) (hok : (Tr.zero n).ok) : Turns (.zero n) := by
  intro v w hv h4 hcap
  have HV : Hid (NReads w v (Tr.zero n).flat) := hv
  have HOK : Hid ((Tr.zero n).ok) := hok
  have HCAP : Hid (∀ a n c, v = .slice a n c → n ≤ c) := hcap
  obtain ⟨av, cv, rfl, hrd⟩ := hv
  obtain ⟨g, o, rfl, hgl, hc1, hc2⟩ := hrd 0 (by simp [Tr.flat])
  obtain ⟨k, s⟩ := n
  have hlen : (Tr.zero (k, s)).flat.length = 1 := rfl
  have HC : Hid (∀ w', Below w.heap.size w w' → w'.cell? ⟨g, o, none⟩ = some (.int .i64 k) ∧ w'.cell? ⟨g, o + 1, none⟩ = some (.int .u8 s)) := fun w' hb => ⟨by rw [below_cell hb hgl]; exact hc1, by rw [below_cell hb hgl]; exact hc2⟩
  rw [hlen]
  clear hrd hcap hok hc1 hc2
  go_enter Tryd.func51, Tryd.ntmps51
  go_wp2_with fail
  refine (cut_any _ (Tr.zero (k, s)).flat _ HV.out h4 (Tr.ok_free _ HOK.out) HCAP.out).mono ?_
  rintro e w1 ⟨u, rfl, hpr, hb1⟩
  have hp1 := hpr w1 (fun _ _ _ => rfl)
  rw [cut_flat_zero HOK.out] at hp1
  obtain ⟨ua, uc, rfl, _⟩ := hp1
  have HB1 : Hid (Below w.heap.size w w1) := hb1
  have c1 := (HC.out w1 hb1).1
  have c2 := (HC.out w1 hb1).2
  clear hpr hb1
  go_wp2_with fail
  have HB2 : Hid (Below w.heap.size w (w1.alloc (.cells #[.int .i64 k, .int .u8 s] 36))) := HB1.out.alloc HB1.out.size _
  refine (made_any k s _ [] _ ⟨_, _, rfl, fun i hi => absurd hi (by simp)⟩ (fun i hi => absurd hi (by simp)) (by simp [tot]) (by simp)).mono ?_
  rintro e w3 ⟨um, rfl, hom, hb3⟩
  have HO : Hid (w3.ownsRow w.heap.size 36 2 um 1 (ndC [(k, s)])) := own_mono hom HB2.out.size
  have HB3 : Hid (Below w.heap.size w w3) := go_on HB2.out hb3
  clear hom hb3
  go_wp2_with fail
  go_ret
  exact ⟨_, rfl, HO.out, HB3.out⟩

set_option maxHeartbeats 16000000 in
set_option maxRecDepth 100000 in
theorem turns_one (n : Nd) (a : Tr) (hok : (Tr.one n a).ok) (iha : Turns a) : Turns (.one n a) := by
  intro v w hv h4 hcap
  have HV : Hid (NReads w v (Tr.one n a).flat) := hv
  have HOK : Hid ((Tr.one n a).ok) := hok
  have HCAP : Hid (∀ a n c, v = .slice a n c → n ≤ c) := hcap
  have HIA : Hid (Turns a) := iha
  have hlen : (Tr.one n a).flat.length = a.flat.length + 1 := by simp [Tr.flat]
  have ha4 : a.flat.length ≤ 4000 := by omega
  obtain ⟨av, cv, rfl, hrd⟩ := hv
  obtain ⟨g, o, rfl, hgl, hc1, hc2⟩ := hrd ((Tr.one n a).flat.length - 1) (by omega)
  rw [flat_last] at hc1 hc2
  obtain ⟨k, s⟩ := n
  obtain ⟨m, hm⟩ : ∃ m, (Tr.one (k, s) a).flat.length - 1 = m := ⟨_, rfl⟩
  rw [hm] at hc1 hc2
  have HC : Hid (∀ w', Below w.heap.size w w' → w'.cell? ⟨g, o + m * 2, none⟩ = some (.int .i64 k) ∧ w'.cell? ⟨g, o + m * 2 + 1, none⟩ = some (.int .u8 s)) := fun w' hb => ⟨by rw [below_cell hb hgl]; exact hc1, by rw [below_cell hb hgl]; exact hc2⟩
  have HR : Hid ((Tr.one (k, s) a).rev.flat = [a.rev.flat].flatten ++ [(k, s)] ∧ (Tr.one (k, s) a).flat.length = ([a.rev.flat].flatten ++ [(k, s)]).length) := ⟨by simp [Tr.rev, Tr.flat], by simp [Tr.flat, Tr.rev_len]⟩
  have hRA := Tr.rev_len a
  have hRp := Tr.len_pos a
  obtain ⟨A, hA⟩ : ∃ A, a.rev.flat = A := ⟨_, rfl⟩
  have HA : Hid (a.rev.flat = A) := hA
  rw [hA] at hRA HR
  have HRA : Hid (A.length = a.flat.length) := hRA
  have hA1 : 1 ≤ A.length := by omega
  have hA4 : A.length + 1 ≤ 4000 := by omega
  obtain ⟨N, hN⟩ : ∃ N, (Tr.one (k, s) a).flat.length = N := ⟨_, rfl⟩
  have hmI : (N : Int) - 1 = m := by omega
  have hmN : (m : Int) < N := by omega
  have HN : Hid ((Tr.one (k, s) a).flat.length = N) := hN
  rw [hN] at HR h4 HCAP ⊢
  have HV2 : Hid (NReads w (.slice (some ⟨g, o, none⟩) N cv) (Tr.one (k, s) a).flat) := by have := HV.out; rwa [hN] at this
  clear hrd hcap hok hc1 hc2 iha HV hN hA hm hRA hlen
  go_enter Tryd.func51, Tryd.ntmps51
  go_wp2_with fail
  refine (cut_any _ (Tr.one (k, s) a).flat _ HV2.out (by rw [HN.out]; exact h4) (Tr.ok_free _ HOK.out) HCAP.out).mono ?_
  rintro e w1 ⟨u, rfl, hpr, hb1⟩
  have hp1 := hpr w1 (fun _ _ _ => rfl)
  rw [cut_flat_one HOK.out] at hp1
  obtain ⟨ua, uc, rfl, hpi⟩ := hp1
  obtain ⟨lg, lo, u0, rfl, hlg, hl0, hu0, hk0⟩ := hpi 0 (by simp)
  rw [Nat.add_zero] at hl0
  have HU0 : Hid (NReads w1 u0 a.flat) := hu0
  have HK0 : Hid (∀ a n c, u0 = .slice a n c → n ≤ c) := hk0
  have HB1 : Hid (Below w.heap.size w w1) := hb1
  have c1 := (HC.out w1 hb1).1
  have c2 := (HC.out w1 hb1).2
  clear hpr hb1 hpi hu0 hk0
  go_wp2_with fail
  have HBA : Hid (Below w1.heap.size w1 (w1.alloc (.cells #[.int .i64 k, .int .u8 s] 36))) := (Below.refl _ _).alloc (Nat.le_refl _) _
  have HNA : Hid (NB (w1.alloc (.cells #[.int .i64 k, .int .u8 s] 36)) w1.heap.size k s) := NB.new w1 k s
  have hwl : w1.heap.size < (w1.alloc (.cells #[.int .i64 k, .int .u8 s] 36)).heap.size := by simp
  generalize w1.alloc (.cells #[.int .i64 k, .int .u8 s] 36) = wA at HBA HNA hwl ⊢
  have hll : lg < wA.heap.size := by omega
  have cl : wA.cell? ⟨lg, lo, none⟩ = some u0 := by rw [below_cell HBA.out hlg]; exact hl0
  have S0 : S3 wA w1.heap.size k s ⟨lg, lo, none⟩ u0 wA.drew := ⟨HNA.out.fst, HNA.out.snd, cl, (Below.refl _ _).drew⟩
  have hq1 : w1.heap.size < wA.heap.size := hwl
  have hq2 : (⟨lg, lo, none⟩ : Addr).block < wA.heap.size := hll
  have HUA : Hid (NReads wA u0 a.flat) := HU0.out.stay HBA.out
  clear c1 c2 hl0
  go_region_held3 (fun w' => S3 wA w1.heap.size k s ⟨lg, lo, none⟩ u0 w') (first | exact S0 | assumption | exact s3_step hq1 hq2 (by assumption) (by assumption) | exact s3_alloc hq1 hq2 _ (by assumption)) (first
    | (go_at_call 51; refine (HIA.out u0 _ (by exact HUA.out.stay (And.right (And.right (And.right (by assumption))))) ha4 HK0.out).mono ?_; rintro e y1 ⟨ut, rfl, hot, hbt⟩; rw [HA.out, ← HRA.out] at hot; obtain ⟨ta, tc, hts⟩ := own_shape hot; subst hts)
    | (go_at_call 46; refine (made_any k s _ [A] _ (by exact one_lit hot) (one_pos hA1) (by rw [tot_one]; exact hA4) (by simp)).mono ?_; rintro e y2 ⟨um, rfl, hom, hbm⟩))
  all_goals (
    have hS : S3 wA w1.heap.size k s ⟨lg, lo, none⟩ u0 y2 := by first | assumption | exact s3_step hq1 hq2 (by assumption) (by assumption)
    have HO : Hid (y2.ownsRow w.heap.size 36 2 um N (ndC (Tr.one (k, s) a).rev.flat)) := by
      show World.ownsRow _ _ _ _ _ _ _
      rw [HR.out.1, HR.out.2]
      refine own_mono hom ?_
      have h1 := HB1.out.size
      have h2 := hbt.size
      have h3 : wA.drew.heap.size = wA.heap.size := rfl
      simp only [World.size_alloc]
      omega
    have HB2 : Hid (Below w.heap.size w y2) := go_on (go_on HB1.out HBA.out) hS.2.2.2
    clear hS S0
    go_wp2_with fail
    go_ret
    exact ⟨_, rfl, HO.out, HB2.out⟩)

set_option maxHeartbeats 16000000 in
set_option maxRecDepth 100000 in
theorem turns_two (n : Nd) (a b : Tr) (hok : (Tr.two n a b).ok) (iha : Turns a) (ihb : Turns b) : Turns (.two n a b) := by
  intro v w hv h4 hcap
  have HV : Hid (NReads w v (Tr.two n a b).flat) := hv
  have HOK : Hid ((Tr.two n a b).ok) := hok
  have HCAP : Hid (∀ a n c, v = .slice a n c → n ≤ c) := hcap
  have HIA : Hid (Turns a) := iha
  have HIB : Hid (Turns b) := ihb
  have hlen : (Tr.two n a b).flat.length = a.flat.length + b.flat.length + 1 := by simp [Tr.flat]; omega
  have ha4 : a.flat.length ≤ 4000 := by omega
  have hb4 : b.flat.length ≤ 4000 := by omega
  obtain ⟨av, cv, rfl, hrd⟩ := hv
  obtain ⟨g, o, rfl, hgl, hc1, hc2⟩ := hrd ((Tr.two n a b).flat.length - 1) (by omega)
  rw [flat_last] at hc1 hc2
  obtain ⟨k, s⟩ := n
  obtain ⟨m, hm⟩ : ∃ m, (Tr.two (k, s) a b).flat.length - 1 = m := ⟨_, rfl⟩
  rw [hm] at hc1 hc2
  have HC : Hid (∀ w', Below w.heap.size w w' → w'.cell? ⟨g, o + m * 2, none⟩ = some (.int .i64 k) ∧ w'.cell? ⟨g, o + m * 2 + 1, none⟩ = some (.int .u8 s)) := fun w' hb => ⟨by rw [below_cell hb hgl]; exact hc1, by rw [below_cell hb hgl]; exact hc2⟩
  have hRA := Tr.rev_len a
  have hRB := Tr.rev_len b
  have hRp := Tr.len_pos a
  have hRq := Tr.len_pos b
  obtain ⟨A, hA⟩ : ∃ A, a.rev.flat = A := ⟨_, rfl⟩
  obtain ⟨B, hB⟩ : ∃ B, b.rev.flat = B := ⟨_, rfl⟩
  have HA : Hid (a.rev.flat = A) := hA
  have HBe : Hid (b.rev.flat = B) := hB
  rw [hA] at hRA
  rw [hB] at hRB
  have HRA : Hid (A.length = a.flat.length) := hRA
  have HRB : Hid (B.length = b.flat.length) := hRB
  have hA1 : 1 ≤ A.length := by omega
  have hB1 : 1 ≤ B.length := by omega
  have hAB4 : A.length + B.length + 1 ≤ 4000 := by omega
  obtain ⟨N, hN⟩ : ∃ N, (Tr.two (k, s) a b).flat.length = N := ⟨_, rfl⟩
  have hmI : (N : Int) - 1 = m := by omega
  have hmN : (m : Int) < N := by omega
  have HN : Hid ((Tr.two (k, s) a b).flat.length = N) := hN
  have hNs : N = A.length + B.length + 1 := by omega
  rw [hN] at h4 HCAP ⊢
  have HV2 : Hid (NReads w (.slice (some ⟨g, o, none⟩) N cv) (Tr.two (k, s) a b).flat) := by have := HV.out; rwa [hN] at this
  have HNS : Hid (N = A.length + B.length + 1) := hNs
  clear hrd hcap hok hc1 hc2 iha ihb HV hN hA hB hm hRA hRB hlen hNs
  go_enter Tryd.func51, Tryd.ntmps51
  go_wp2_with fail
  refine (cut_any _ (Tr.two (k, s) a b).flat _ HV2.out (by rw [HN.out]; exact h4) (Tr.ok_free _ HOK.out) HCAP.out).mono ?_
  rintro e w1 ⟨u, rfl, hpr, hb1⟩
  have hp1 := hpr w1 (fun _ _ _ => rfl)
  rw [cut_flat_two HOK.out] at hp1
  obtain ⟨ua, uc, rfl, hpi⟩ := hp1
  obtain ⟨lg, lo, u0, rfl, hlg, hl0, hu0, hk0⟩ := hpi 0 (by simp)
  obtain ⟨lg', lo', u1, e1, hlg', hl1, hu1, hk1⟩ := hpi 1 (by simp)
  cases e1
  rw [Nat.add_zero] at hl0
  have HU0 : Hid (NReads w1 u0 a.flat) := hu0
  have HU1 : Hid (NReads w1 u1 b.flat) := hu1
  have HK0 : Hid (∀ a n c, u0 = .slice a n c → n ≤ c) := hk0
  have HK1 : Hid (∀ a n c, u1 = .slice a n c → n ≤ c) := hk1
  have HB1 : Hid (Below w.heap.size w w1) := hb1
  have HL : Hid (∀ w', Below w1.heap.size w1 w' → w'.cell? ⟨lg, lo, none⟩ = some u0 ∧ w'.cell? ⟨lg, lo + 1, none⟩ = some u1) := fun w' hb => ⟨by rw [below_cell hb hlg]; exact hl0, by rw [below_cell hb hlg]; exact hl1⟩
  have c1 := (HC.out w1 hb1).1
  have c2 := (HC.out w1 hb1).2
  have hd0 := fun O => (HL.out (w1.alloc O) ((Below.refl _ _).alloc (Nat.le_refl _) _)).1
  clear hpr hb1 hpi hu0 hu1 hk0 hk1 hl0 hl1
  go_wp2_with fail
  have HBA : Hid (Below w1.heap.size w1 (w1.alloc (.cells #[.int .i64 k, .int .u8 s] 36))) := (Below.refl _ _).alloc (Nat.le_refl _) _
  have HNA : Hid (NB (w1.alloc (.cells #[.int .i64 k, .int .u8 s] 36)) w1.heap.size k s) := NB.new w1 k s
  generalize w1.alloc (.cells #[.int .i64 k, .int .u8 s] 36) = wA at HBA HNA ⊢
  refine (HIA.out u0 _ (HU0.out.stay HBA.out) ha4 HK0.out).mono ?_
  rintro e w3 ⟨ut, rfl, hot, hbt⟩
  rw [HA.out, ← HRA.out] at hot
  obtain ⟨ta, tc, rfl⟩ := own_shape hot
  have HB3 : Hid (Below w1.heap.size w1 w3) := go_on HBA.out hbt
  have HN3 : Hid (NB w3 w1.heap.size k s) := HNA.out.keep hbt
  have HO3 : Hid (w3.ownsRow wA.heap.size 36 2 (.slice ta A.length tc) A.length (ndC A)) := hot
  have hd1 := (HL.out w3 HB3.out).2
  clear hot hbt hd0
  go_wp2_with fail
  refine (HIB.out u1 _ (HU1.out.stay HB3.out) hb4 HK1.out).mono ?_
  rintro e w4 ⟨uv, rfl, hov, hbv⟩
  rw [HBe.out, ← HRB.out] at hov
  obtain ⟨va, vc, rfl⟩ := own_shape hov
  have HB4 : Hid (Below w.heap.size w w4) := go_on (go_on HB1.out HB3.out) hbv
  have HN4 : Hid (NB w4 w1.heap.size k s) := HN3.out.keep hbv
  have HOA : Hid (w4.ownsRow wA.heap.size 36 2 (.slice ta A.length tc) A.length (ndC A)) := own_below HO3.out hbv
  have HOB : Hid (w4.ownsRow w3.heap.size 36 2 (.slice va B.length vc) B.length (ndC B)) := hov
  have d0 := HN4.out.fst
  have d1 := HN4.out.snd
  clear hov hbv hd1
  by_cases h7 : k = 7
  · subst h7
    have HR : Hid ((Tr.two (7, s) a b).rev.flat = [B, A].flatten ++ [(7, s)] ∧ N = ([B, A].flatten ++ [((7 : Int), s)]).length) := ⟨by simp [Tr.rev, Tr.flat, HA.out, HBe.out], by rw [HNS.out]; simp; omega⟩
    go_wp2_with fail
    refine (made_any 7 s _ [B, A] _ (two_lit HOB.out HOA.out) (two_pos hB1 hA1) (by rw [tot_two]; omega) (by simp)).mono ?_
    rintro e y5 ⟨um, rfl, hom, hb5⟩
    have HO : Hid (y5.ownsRow w.heap.size 36 2 um N (ndC (Tr.two (7, s) a b).rev.flat)) := by
      show World.ownsRow _ _ _ _ _ _ _
      rw [HR.out.1, HR.out.2]
      refine own_mono hom ?_
      have h1 := HB4.out.size
      simp only [World.size_alloc]
      omega
    have HB5 : Hid (Below w.heap.size w y5) := go_on (HB4.out.alloc HB4.out.size _) hb5
    clear hom hb5
    go_wp2_with fail
    go_ret
    exact ⟨_, rfl, HO.out, HB5.out⟩
  · have h7b : (k == 7) = false := by rw [beq_eq_false_iff_ne]; exact h7
    have HR : Hid ((Tr.two (k, s) a b).rev.flat = [A, B].flatten ++ [(k, s)] ∧ N = ([A, B].flatten ++ [(k, s)]).length) := ⟨by simp [Tr.rev, Tr.flat, HA.out, HBe.out, h7], by rw [HNS.out]; simp; omega⟩
    clear h7
    go_wp2_with fail
    refine (made_any k s _ [A, B] _ (two_lit HOA.out HOB.out) (two_pos hA1 hB1) (by rw [tot_two]; omega) (by simp)).mono ?_
    rintro e y5 ⟨um, rfl, hom, hb5⟩
    have HO : Hid (y5.ownsRow w.heap.size 36 2 um N (ndC (Tr.two (k, s) a b).rev.flat)) := by
      show World.ownsRow _ _ _ _ _ _ _
      rw [HR.out.1, HR.out.2]
      refine own_mono hom ?_
      have h1 := HB4.out.size
      simp only [World.size_alloc]
      omega
    have HB5 : Hid (Below w.heap.size w y5) := go_on (HB4.out.alloc HB4.out.size _) hb5
    clear hom hb5
    go_wp2_with fail
    go_ret
    exact ⟨_, rfl, HO.out, HB5.out⟩

theorem turned_any : ∀ t : Tr, t.ok → Turns t
  | .zero n, h => turns_zero n h
  | .one n a, h => turns_one n a h (turned_any a h.2.2)
  | .two n a b, h => turns_two n a b h (turned_any a h.2.2.1) (turned_any b h.2.2.2)

set_option maxHeartbeats 4000000 in
set_option maxRecDepth 100000 in
theorem rreverse_any (v : Value) (ts : List Nd) (w : World) (hv : NReads w v ts) (hm : ts.length ≤ 9223372036854775806) (hcap : ∀ a n c, v = .slice a n c → n ≤ c) (R : List Nd) (hR : (wrong ts ≠ 0 ∧ R = []) ∨ (wrong ts = 0 ∧ ∃ t : Tr, t.ok ∧ t.flat = ts ∧ R = t.rev.flat)) :
    Calls Tryd.prog 31 #[v] w fun e w' => ∃ u, e = .returned (.tuple #[u, .int .i64 (wrong ts)]) ∧ w'.ownsRow w.heap.size 36 2 u R.length (ndC R) ∧ Below w.heap.size w w' := by
  have HV : Hid (NReads w v ts) := hv
  have HCAP : Hid (∀ a n c, v = .slice a n c → n ≤ c) := hcap
  clear hv hcap
  rcases hR with ⟨hbad, rfl⟩ | ⟨h0, t, hok, hts, rfl⟩
  · obtain ⟨x, hx⟩ : ∃ x, wrong ts = x := ⟨_, rfl⟩
    rw [hx] at hbad
    have hxb : (x != 0) = true := by simpa using hbad
    have HX : Hid (wrong ts = x) := hx
    rw [hx]
    clear hx hbad
    go_enter Tryd.func31, Tryd.ntmps31
    go_wp2_with fail
    refine (rwrong_any _ ts _ HV.out hm).mono ?_
    rintro e w1 ⟨rfl, hb1⟩
    rw [HX.out]
    have HB1 : Hid (Below w.heap.size w w1) := hb1
    clear hb1
    go_wp2_with fail
    go_ret2
    exact ⟨_, rfl, World.ownsRow_nil _ _ _ _, HB1.out⟩
  · have HX : Hid (wrong ts = 0) := h0
    have HT : Hid (t.ok ∧ t.flat = ts) := ⟨hok, hts⟩
    have HL : Hid (t.rev.flat.length = t.flat.length) := Tr.rev_len t
    have h4 := (wrong_len h0).1
    rw [h0]
    clear h0 hok hts
    go_enter Tryd.func31, Tryd.ntmps31
    go_wp2_with fail
    refine (rwrong_any _ ts _ HV.out hm).mono ?_
    rintro e w1 ⟨rfl, hb1⟩
    rw [HX.out]
    have HB1 : Hid (Below w.heap.size w w1) := hb1
    clear hb1
    go_wp2_with fail
    refine (turned_any t HT.out.1 _ _ (by rw [HT.out.2]; exact HV.out.stay HB1.out) (by rw [HT.out.2]; exact h4) HCAP.out).mono ?_
    rintro e w2 ⟨u, rfl, ho, hb2⟩
    have HO : Hid (w2.ownsRow w.heap.size 36 2 u t.rev.flat.length (ndC t.rev.flat)) := by
      show World.ownsRow _ _ _ _ _ _ _
      rw [HL.out]
      exact own_mono ho HB1.out.size
    have HB2 : Hid (Below w.heap.size w w2) := go_on HB1.out hb2
    clear ho hb2
    go_wp2_with fail
    go_ret2
    exact ⟨_, rfl, HO.out, HB2.out⟩
end Go.Proofs.YtchaggigabccaaaDoor
