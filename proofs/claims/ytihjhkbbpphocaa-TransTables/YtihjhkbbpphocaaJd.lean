/- Contract of the document's Check; where a letter and a word lead in an automaton (program and document). -/
import Derived.Test.YtihjhkbbpphocaaJc
import Derived.Deep.RegionHeld3
import Derived.Deep.WholeRow
namespace Go.Proofs.Ytihjhkbbpphocaa
open Go Go.RowKit Go.Lib
set_option linter.unusedVariables false

set_option maxHeartbeats 1000000 in
set_option maxRecDepth 100000 in
theorem racheck_any (v : Value) (A : Aut) (w : World) (h : AR w v A) (hm : A.nx.length ≤ 9223372036854775806) (hm2 : A.ac.length ≤ 9223372036854775806) :
    Calls Try.prog 50 #[v] w fun e w' => e = .returned (.int .i64 (chkA A)) ∧ Below w.heap.size w w' := by
  obtain ⟨an, cn, aa, ca, rfl, h1, h2⟩ := h.is
  have H1 : Hid (SR w an (zC A.nx)) := h1
  clear h h1 h2
  obtain ⟨k, nx, ac⟩ := A
  simp only at H1 hm hm2 ⊢
  by_cases c1 : k < 1
  · have HE := chkA_no (A := ⟨k, nx, ac⟩) (fun g => by have := g.k1; simp at this; omega)
    rw [HE]
    clear HE
    go_enter Try.func50, Try.ntmps50
    go_wp2_with fail
    go_ret
    exact ⟨rfl, below_new _ _⟩
  by_cases c2 : 8 < k
  · have HE := chkA_no (A := ⟨k, nx, ac⟩) (fun g => by have := g.k8; simp at this; omega)
    rw [HE]
    clear HE
    go_enter Try.func50, Try.ntmps50
    go_wp2_with fail
    go_ret
    exact ⟨rfl, below_new _ _⟩
  have c1' : 1 ≤ k := by omega
  have c2' : k ≤ 8 := by omega
  have hd1 : decide (k < 1) = false := by simpa using c1'
  have hd8 : decide (8 < k) = false := by simpa using c2'
  clear c1 c2
  by_cases c3 : ac.length < 1
  · have HE := chkA_no (A := ⟨k, nx, ac⟩) (fun g => by have := g.n1; simp at this; omega)
    rw [HE]
    clear HE
    have c3' : (ac.length : Int) < 1 := by omega
    go_enter Try.func50, Try.ntmps50
    go_wp2_with fail
    go_ret
    exact ⟨rfl, below_new _ _⟩
  by_cases c4 : 4096 < ac.length
  · have HE := chkA_no (A := ⟨k, nx, ac⟩) (fun g => by have := g.n2; simp at this; omega)
    rw [HE]
    clear HE
    have c4' : (4096 : Int) < ac.length := by omega
    have c3' : ¬ (ac.length : Int) < 1 := by omega
    go_enter Try.func50, Try.ntmps50
    go_wp2_with fail
    go_ret
    exact ⟨rfl, below_new _ _⟩
  have c3' : ¬ (ac.length : Int) < 1 := by omega
  have c4' : ¬ (4096 : Int) < ac.length := by omega
  have hmul : (ac.length : Int) * k ≤ 4096 * 8 := Int.mul_le_mul (by omega) c2' (by omega) (by omega)
  have hmul0 : 0 ≤ (ac.length : Int) * k := Int.mul_nonneg (by omega) (by omega)
  obtain ⟨P, hP⟩ : ∃ P : Int, (ac.length : Int) * k = P := ⟨_, rfl⟩
  have hw : IntKind.i64.wrap ((ac.length : Int) * k) = P := by rw [hP, IntKind.wrap_i64]; omega
  by_cases c5 : (nx.length : Int) = P
  · have hw2 : IntKind.i64.wrap ((ac.length : Int) * k) = nx.length := by rw [hw, c5]
    have HP : Hid ((nx.length : Int) = ac.length * k) := by show (nx.length : Int) = ac.length * k; omega
    have HC : Hid (1 ≤ k ∧ k ≤ 8 ∧ 1 ≤ ac.length ∧ ac.length ≤ 4096) := by show 1 ≤ k ∧ k ≤ 8 ∧ 1 ≤ ac.length ∧ ac.length ≤ 4096; omega
    have HNB : Hid (nx.length ≤ 32768) := by show nx.length ≤ 32768; omega
    clear hP hmul hmul0 hw c5
    go_enter Try.func50, Try.ntmps50
    go_wp2_with fail
    clear hw2
    go_loopw [4] (fun vi wr => ∃ i : Nat, vi = .int .i64 i ∧ i ≤ nx.length ∧ (∀ t, t < i → 0 ≤ nx.getD t 0 ∧ nx.getD t 0 < ac.length) ∧ wr = w.alloc (.cells #[.int .i64 k, .slice an nx.length cn, .slice aa ac.length ca] 58)) (fun vi _ => nx.length - (intOf vi).toNat)
    case atStart => exact ⟨0, rfl, Nat.zero_le _, fun t ht => by omega, rfl⟩
    case round =>
      obtain ⟨i, rfl, hin, hall, rfl⟩ := hrel
      have HA : Hid (∀ t, t < i → 0 ≤ nx.getD t 0 ∧ nx.getD t 0 < ac.length) := hall
      have hnb := HNB.out
      clear hall
      by_cases hlt : i < nx.length
      · have hltI : (i : Int) < nx.length := by omega
        obtain ⟨g, o, rfl, hg, hc⟩ := H1.out.int hlt
        obtain ⟨x, hx⟩ : ∃ x, nx.getD i 0 = x := ⟨_, rfl⟩
        rw [hx] at hc
        have HX : Hid (nx.getD i 0 = x) := hx
        have hc' : (w.alloc (.cells #[.int .i64 k, .slice (some ⟨g, o, none⟩) nx.length cn, .slice aa ac.length ca] 58)).cell? ⟨g, o + i, none⟩ = some (.int .i64 x) := by rw [below_cellJ (below_new _ _) hg]; exact hc
        clear hx hc
        by_cases d1 : x < 0
        · have HE : Hid (chkA ⟨k, nx, ac⟩ = 80) := chkA_no (fun G => by have := G.lo i hlt; rw [HX.out] at this; omega)
          go_wp2_with fail
          go_ret
          exact ⟨ret_intJ HE.out.symm, below_new _ _⟩
        · by_cases d2 : (ac.length : Int) ≤ x
          · have HE : Hid (chkA ⟨k, nx, ac⟩ = 80) := chkA_no (fun G => by have := G.hi i hlt; rw [HX.out] at this; simp at this; omega)
            go_wp2_with fail
            go_ret
            exact ⟨ret_intJ HE.out.symm, below_new _ _⟩
          · go_wp2_with fail
            go_roundw
            case rel =>
              refine ⟨i + 1, by go_num, by omega, fun t ht => ?_, trivial⟩
              by_cases e : t = i
              · subst e; rw [HX.out]; omega
              · exact HA.out t (by omega)
            case measure => simp [intOf]; omega
      · have hltI : ¬ (i : Int) < nx.length := by omega
        have HE : Hid (chkA ⟨k, nx, ac⟩ = 0) := chkA_ok ⟨HC.out.1, HC.out.2.1, HC.out.2.2.1, HC.out.2.2.2, HP.out, fun t ht => (HA.out t (by simp at ht; omega)).1, fun t ht => (HA.out t (by simp at ht; omega)).2⟩
        go_wp2_with fail
        go_ret
        exact ⟨ret_intJ HE.out.symm, below_new _ _⟩
  · rw [chkA_no (A := ⟨k, nx, ac⟩) (fun g => by have := g.len; simp at this; omega)]
    clear hP hmul hmul0
    go_enter Try.func50, Try.ntmps50
    go_wp2_with fail
    go_ret
    exact ⟨rfl, below_new _ _⟩

/-- Block b holds the cells arr. -/
structure RowAt (w : World) (b : Nat) (arr : Array Value) : Prop where
  lt : b < w.heap.size
  cell : ∀ o, w.cell? ⟨b, o, none⟩ = arr[o]?
theorem RowAt.stay {w w' : World} {b : Nat} {arr : Array Value} (r : RowAt w b arr) (h : Below w.heap.size w w') : RowAt w' b arr :=
  ⟨Nat.lt_of_lt_of_le r.lt h.size, fun o => by rw [h.cell (p := ⟨b, o, none⟩) r.lt, r.cell]⟩
theorem RowAt.alloc {w : World} {b : Nat} {arr : Array Value} (r : RowAt w b arr) (O : Obj) : RowAt (w.alloc O) b arr := r.stay (below_new _ _)
theorem RowAt.last (w : World) (arr : Array Value) (t : TypeId) : RowAt (w.alloc (.cells arr t)) w.heap.size arr :=
  ⟨by simp, fun o => by simp only [World.cell?, heap_alloc_last]; rfl⟩
theorem RowAt.new {w w' : World} {arr : Array Value} {t : TypeId} (h : Below (w.alloc (.cells arr t)).heap.size (w.alloc (.cells arr t)) w') : RowAt w' w.heap.size arr := (RowAt.last w arr t).stay h
/-- A block's cells, and all below W, stay. -/
abbrev SB (W : World) (b : Nat) (arr : Array Value) (w' : World) : Prop := (∀ o, w'.cell? ⟨b, o, none⟩ = arr[o]?) ∧ Below W.heap.size W w'
theorem sb_of {W w' : World} {b : Nat} {arr : Array Value} (r : RowAt W b arr) (h : Below W.heap.size W w') : SB W b arr w' := ⟨(r.stay h).cell, h⟩
theorem sb_step {W w1 w2 : World} {b : Nat} {arr : Array Value} (r : RowAt W b arr) (hb : Below w1.heap.size w1 w2) (h : SB W b arr w1) : SB W b arr w2 := sb_of r (go_on h.2 hb)
theorem sb_drew {W w1 : World} {b : Nat} {arr : Array Value} (r : RowAt W b arr) (h : SB W b arr w1) : SB W b arr w1.drew := sb_of r h.2.drew

/-- Where the letter c leads from s. -/
def dN (A : Aut) (s c : Nat) : Nat := (A.nx.getD (s * A.k.toNat + c) 0).toNat
def aN (A : Aut) (s : Nat) : Bool := A.ac.getD s false
theorem Good.at {A : Aut} (h : Good A) {s c : Nat} (hs : s < A.ac.length) (hc : (c : Int) < A.k) : s * A.k.toNat + c < A.nx.length ∧ A.nx.getD (s * A.k.toNat + c) 0 = (dN A s c : Int) ∧ dN A s c < A.ac.length := by
  have hk := h.k1
  obtain ⟨K, hK⟩ : ∃ K : Nat, A.k = K := ⟨A.k.toNat, by omega⟩
  have hl := h.len
  rw [hK] at hl hc ⊢
  have e : ((K : Nat) : Int).toNat = K := by simp
  have hlN : A.nx.length = A.ac.length * K := by exact_mod_cast hl
  have hlt : s * K + c < A.nx.length := by
    rw [hlN]
    have := Nat.mul_le_mul_right K (show s + 1 ≤ A.ac.length from hs)
    rw [Nat.add_mul] at this
    have : c < K := by exact_mod_cast hc
    omega
  have h1 := h.lo _ hlt
  have h2 := h.hi _ hlt
  rw [e]
  unfold dN
  rw [hK, e]
  exact ⟨hlt, by omega, by omega⟩

set_option maxHeartbeats 1000000 in
set_option maxRecDepth 100000 in
theorem astep_any (v : Value) (A : Aut) (w : World) (h : AR w v A) (G : Good A) (s c : Nat) (hs : s < A.ac.length) (hc : (c : Int) < A.k) :
    Calls Try.prog 72 #[v, .int .i64 s, .int .i64 c] w fun e w' => e = .returned (.int .i64 (dN A s c)) ∧ Below w.heap.size w w' := by
  obtain ⟨an, cn, aa, ca, rfl, h1, h2⟩ := h.is
  obtain ⟨g1, g2, g3⟩ := G.at hs hc
  obtain ⟨g, o, rfl, hg, hcell⟩ := h1.int g1
  rw [g2] at hcell
  obtain ⟨D, hD⟩ : ∃ D, dN A s c = D := ⟨_, rfl⟩
  rw [hD] at hcell ⊢
  have hk1 := G.k1
  have hk8 := G.k8
  have hn2 := G.n2
  have hsI : (s : Int) ≤ 4095 := by omega
  have hp : (s : Int) * A.k = ((s * A.k.toNat : Nat) : Int) := by rw [Int.natCast_mul]; congr 1; omega
  have hq : s * A.k.toNat ≤ 4095 * 8 := Nat.mul_le_mul (by omega) (by omega)
  obtain ⟨p, hpp⟩ : ∃ p, s * A.k.toNat = p := ⟨_, rfl⟩
  rw [hpp] at hp hq hcell g1
  have hw1 : IntKind.i64.wrap ((s : Int) * A.k) = (p : Int) := by rw [hp, IntKind.wrap_i64]; omega
  have hw2 : IntKind.i64.wrap ((p : Int) + c) = ((p + c : Nat) : Int) := by rw [IntKind.wrap_i64]; omega
  have hgl : ((p + c : Nat) : Int) < A.nx.length := by omega
  have hcell' : (w.alloc (.cells #[.int .i64 A.k, .slice (some ⟨g, o, none⟩) A.nx.length cn, .slice aa A.ac.length ca] 58)).cell? ⟨g, o + (p + c), none⟩ = some (.int .i64 (D : Int)) := by rw [below_cellJ (below_new _ _) hg]; exact hcell
  obtain ⟨q, hqq⟩ : ∃ q, p + c = q := ⟨_, rfl⟩
  rw [hqq] at hw2 hgl hcell'
  obtain ⟨k, nx, ac⟩ := A
  simp only at hw1 hgl hcell' ⊢
  clear h h1 h2 g1 g2 g3 G hcell hD hp hq hpp hqq hs hc hk1 hk8 hn2 hsI
  go_enter Try.func72, Try.ntmps72
  go_wp2_with fail
  go_ret
  exact ⟨rfl, below_new _ _⟩
end Go.Proofs.Ytihjhkbbpphocaa
