/- Jj Jk Jl Jm Jn Rq Jo Jp Jq Jr Jsa, in one text. -/
import Derived.Test.YtihjhkbbpphocaaJi
import Derived.Deep.DeepCutAuto
import Derived.Deep.RegionLaw
import Derived.Test.YtihjhkbbpphocaaRg
import Derived.Test.YtihjhkbbpphocaaRows
import Derived.WalkKit
import Derived.WalkSpells
import Derived.WalkLawsBesides
import Derived.Lib.UnsafeStr
import Derived.Deep.RegionWith
import Derived.Laws.IdiomStrings
import Derived.Laws.AppendOwnNone
import Derived.Deep.QuietTactic
import Derived.Test.YtihjhkbbpphocaaJc
namespace Go.Proofs.Ytihjhkbbpphocaa
open Go Go.RowKit Go.Lib Go.Maps
set_option linter.unusedVariables false

theorem Try.info_auto : (Try.prog.info? 58).map (·.size) = some 3 := by kernel_rfl
theorem results_auto {fn : Func} {p u : Tmp} (h : fn.results = #[.cell p 58, .tmp u]) {tmps : Array Value} {b : Nat} {arr : Array Value} {w : World} (hp : tmps.getD p undef = .pointer (some ⟨b, 0, none⟩)) (hc : w.heap[b]? = some (.cells arr 58 (0, 0))) (hs : arr.size = 3) :
    (results fn tmps).run Try.prog w = .ok (.tuple #[.agg arr, tmps.getD u undef]) w := by
  rw [results_cell_tmp h]
  have := run_loadVar_row w b 58 58 arr (0, 0) _ hc Try.underlying58 rfl (by rw [Try.info_auto, hs])
  simp [hp, asAddr, this, Result.andThen]
abbrev ceI (s : Nat) : List Value := [.int .i64 (s : Int)]
abbrev klI (s : Nat) : Lit := .int .i64 (s : Int)
abbrev OI (w : World) (ok : Nat → Prop) (d : Nat → Nat → Nat) (K x : Nat) (acc : Nat → Bool) (i c : Nat) (m n : List Nat) (vm vn va : Value) (D : DataW Unit) (f : Nat) (wr : World) : Prop := OS w 3 1 ceI klI ok d K x acc i c m n vm vn va D f wr
theorem wfN {s : Nat} (h : s ≤ 9223372036854775807) : (Lit.int .i64 (s : Int)).wf = true := WalkArith.wf_i64 (by omega)

theorem flat_ceI (m : List Nat) : m.flatMap ceI = nC m := by
  induction m with
  | nil => rfl
  | cons a m ih => rw [List.flatMap_cons, ih]; rfl
theorem met_cell {w : World} {base : Nat} {a : Option Addr} {c : Nat} {m : List Nat} {i s : Nat} (h : w.ownsRow base 3 1 (.slice a m.length c) m.length (m.flatMap ceI)) (hi : m[i]? = some s) : ∃ g, a = some ⟨g, 0, none⟩ ∧ w.cell? ⟨g, i, none⟩ = some (.int .i64 (s : Int)) := by
  rw [flat_ceI] at h
  have hil := (List.getElem?_eq_some_iff.1 hi).1
  have h2 := h
  rcases h.2 with ⟨h1, h0⟩ | ⟨g, cap, cur, h1, _⟩
  · omega
  · simp only [Value.slice.injEq] at h1
    obtain ⟨rfl, _, rfl⟩ := h1
    refine ⟨g, rfl, ?_⟩
    rw [h2.cellAt i (by omega)]
    simp [nC, hi]
/-- The block out, behind an append to a row. -/
theorem SH.outN {S : Type} {w : World} {tS z : Nat} {ce : S → List Value} {K : Nat} {acc : S → Bool} {m : List S} {n : List Nat} {i : Nat} {vm vn va : Value} {wr w2 : World} {o : Obj} (h : SH w tS z ce K acc m n i vm vn va wr) {v : Value} {e : TypeId} {size k : Nat} {xs : List Value} (hv : wr.ownsRow w.heap.size e size v k xs) (he : e ≠ 58) (hg : (wr.alloc o).grownBy w2 v.ownBlock) :
    w2.heap[w.heap.size + 1]? = some (.cells #[.int .i64 K, vn, va] 58 (0, 0)) := by
  have hbig := h.big
  rw [hg.block _ (by simp; omega) (fun e1 => by
    obtain ⟨_, cur, hc⟩ := own_blk hv e1.symm
    have := h.out
    rw [hc] at this
    injection this with this
    injection this with _ this _
    exact he this), (below_new wr o).block _ (by omega)]
  exact h.out
theorem cell_of {w : World} {b j : Nat} {arr : Array Value} {t : TypeId} (h : w.heap[b]? = some (.cells arr t (0, 0))) : w.cell? ⟨b, j, none⟩ = arr[j]? := by simp [World.cell?, h]
theorem froz_of {w : World} {b j : Nat} {arr : Array Value} {t : TypeId} (h : w.heap[b]? = some (.cells arr t (0, 0))) : w.frozen? ⟨b, j, none⟩ = false := by simp [World.frozen?, h]
theorem oi_start {w w1 : World} {ok : Nat → Prop} {d : Nat → Nat → Nat} {K x : Nat} {acc : Nat → Bool} (hok : ok x)
    (hmo : w1.ownsMap Try.prog 3 (plainElem Try.prog 3) (w.heap.size + 3) 1 ((DataW.map [] : DataW Unit).put (klI x) (.lit (.int .i64 0))))
    (hmg : ((((w.alloc (.cells #[.int .i64 0, .slice none 0 0, .slice none 0 0] 58)).alloc (.cells #[.int .i64 K, .slice none 0 0, .slice none 0 0] 58)).alloc (.cells #[.int .i64 x] 3)).alloc (.map #[] 0)).grownBy w1 (some (w.heap.size + 3)))
    (hinj : ∀ a b, ok a → ok b → klI a = klI b → a = b) :
    OI w ok d K x acc 0 0 [x] [] (.slice (some ⟨w.heap.size + 2, 0, none⟩) 1 1) (.slice none 0 0) (.slice none 0 0) ((DataW.map [] : DataW Unit).put (klI x) (.lit (.int .i64 0))) 32768 w1 := by
  have k : ∀ b, b < w.heap.size + 3 → w1.heap[b]? = ((((w.alloc (.cells #[.int .i64 0, .slice none 0 0, .slice none 0 0] 58)).alloc (.cells #[.int .i64 K, .slice none 0 0, .slice none 0 0] 58)).alloc (.cells #[.int .i64 x] 3)).alloc (.map #[] 0)).heap[b]? := fun b hb => hmg.block b (by simp; omega) (by simp; omega)
  have kb : Below w.heap.size w ((((w.alloc (.cells #[.int .i64 0, .slice none 0 0, .slice none 0 0] 58)).alloc (.cells #[.int .i64 K, .slice none 0 0, .slice none 0 0] 58)).alloc (.cells #[.int .i64 x] 3)).alloc (.map #[] 0)) := ((((Below.refl _ w).alloc (Nat.le_refl _) _).alloc (by simp) _).alloc (by simp; omega) _).alloc (by simp; omega) _
  have e0 : w1.heap[w.heap.size]? = some (.cells #[.int .i64 0, .slice none 0 0, .slice none 0 0] 58 (0, 0)) := by
    rw [k _ (by omega), (below_new _ _).block _ (by simp; omega), (below_new _ _).block _ (by simp; omega), (below_new _ _).block _ (by simp)]
    exact heap_alloc_last _ _
  have e1 : w1.heap[w.heap.size + 1]? = some (.cells #[.int .i64 K, .slice none 0 0, .slice none 0 0] 58 (0, 0)) := by
    rw [k _ (by omega), (below_new _ _).block _ (by simp), (below_new _ _).block _ (by simp)]
    have := heap_alloc_last (w.alloc (.cells #[.int .i64 0, .slice none 0 0, .slice none 0 0] 58)) (.cells #[.int .i64 K, .slice none 0 0, .slice none 0 0] 58)
    simpa using this
  have e2 : w1.heap[w.heap.size + 2]? = some (.cells #[.int .i64 x] 3 (0, 0)) := by
    rw [k _ (by omega), (below_new _ _).block _ (by simp)]
    have := heap_alloc_last ((w.alloc (.cells #[.int .i64 0, .slice none 0 0, .slice none 0 0] 58)).alloc (.cells #[.int .i64 K, .slice none 0 0, .slice none 0 0] 58)) (.cells #[.int .i64 x] 3)
    simpa using this
  refine ⟨⟨e0, e1, map_blk hmo, ?_, World.ownsRow_nil _ _ _ _, World.ownsRow_nil _ _ _ _, ?_, by simp, kb.grown hmg (by simp; omega) (fun b hb => by simp at hb; omega)⟩, hmo, ?_, BI.start d K x, rfl, rfl, by simp, by simpa using hok⟩
  · exact ⟨rfl, .inr ⟨w.heap.size + 2, 1, #[.int .i64 x], rfl, by omega, e2, Nat.le_refl _, by unfold maxLen; omega, rfl, rfl⟩⟩
  · intro b _ h2; simp [Value.ownBlock] at h2
  · have := (MI.empty klI ok).put hinj isMap_empty (t := x) trivial hok (by simp)
    simpa using this

end Go.Proofs.Ytihjhkbbpphocaa

namespace Go.Proofs.Ytihjhkbbpphocaa
open Go Go.RowKit Go.Lib Go.Maps
set_option linter.unusedVariables false

theorem nodup_small : ∀ (N : Nat) (l : List Nat), l.Nodup → (∀ x ∈ l, x < N) → l.length ≤ N := by
  intro N
  induction N with
  | zero =>
    intro l _ h
    cases l with
    | nil => simp
    | cons a l => exact absurd (h a (by simp)) (by omega)
  | succ N ih =>
    intro l hn h
    have h1 := ih (l.erase N) (hn.erase N) (fun x hx => by
      have h2 := (List.Nodup.mem_erase_iff hn).1 hx
      have := h x h2.2
      have := h2.1
      omega)
    have h2 := List.length_erase (a := N) (l := l)
    split at h2 <;> omega
theorem bgo_total {d : Nat → Nat → Nat} {K N x : Nat} (hk : 1 ≤ K ∧ K ≤ 8) (hN : N ≤ 4096) (hd : ∀ s c, s < N → c < K → d s c < N) : ∀ (f : Nat) (m n : List Nat), BI d K x m n → (∀ s ∈ m, s < N) → ∃ M R, bgo d K f m n = some (M, R) ∧ ∀ s ∈ M, s < N := by
  intro f
  induction f with
  | zero => intro m n _ hm; exact ⟨m, n, rfl, hm⟩
  | succ f ih =>
    intro m n h hm
    by_cases c : n.length = m.length * K
    · exact ⟨m, n, bgo_end c, hm⟩
    · have hlt : n.length / K < m.length := by
        rw [Nat.div_lt_iff_lt_mul (by omega)]
        have := h.len
        omega
      have hi := List.getElem?_eq_getElem hlt
      have hn : n.length = n.length / K * K + n.length % K := by rw [Nat.mul_comm, Nat.div_add_mod]
      have hc : n.length % K < K := Nat.mod_lt _ (by omega)
      have hdN := hd m[n.length / K] (n.length % K) (hm _ (List.getElem_mem _)) hc
      by_cases ht : d m[n.length / K] (n.length % K) ∈ m
      · rw [bgo_old hc hn hi ht]
        exact ih _ _ (h.old hc hn hi ht) hm
      · have h4 : m.length ≠ 4096 := fun e => by
          have := nodup_small N (d m[n.length / K] (n.length % K) :: m) (List.nodup_cons.2 ⟨ht, h.nodup⟩) (fun y hy => by
            rcases List.mem_cons.1 hy with rfl | hy
            · exact hdN
            · exact hm y hy)
          simp at this
          omega
        rw [bgo_new hc hn hi ht h4]
        refine ih _ _ (h.new hc hn hi ht h4) (fun y hy => ?_)
        rcases List.mem_append.1 hy with hy | hy
        · exact hm y hy
        · simp at hy; subst hy; exact hdN
theorem Good.kn {A : Aut} (h : Good A) : 1 ≤ A.k.toNat ∧ A.k.toNat ≤ 8 ∧ ((A.k.toNat : Nat) : Int) = A.k := by
  have := h.k1
  have := h.k8
  omega
/-- The search over an automaton's own states has an end. -/
theorem bfs_some {A : Aut} (G : Good A) {s : Nat} (hs : s < A.ac.length) : ∃ m n, bfs (dN A) A.k.toNat s = some (m, n) ∧ ∀ x ∈ m, x < A.ac.length :=
  bgo_total ⟨G.kn.1, G.kn.2.1⟩ G.n2 (fun x c hx hc => (G.at hx (by have := G.kn.2.2; omega)).2.2) _ _ _ (BI.start _ _ s) (fun x hx => by simp at hx; subst hx; exact hs)
/-- The automaton in order of what is met from s. -/
def rch (A : Aut) (s : Nat) (acc : Nat → Bool) : Aut := match bfs (dN A) A.k.toNat s with
  | some (m, n) => ⟨A.k, n.map fun (x : Nat) => (x : Int), m.map acc⟩
  | none => ⟨0, [], []⟩
def zAut : Aut := ⟨0, [], []⟩
/-- An automaton in memory of the call's own. -/
def AO (base : Nat) (w : World) (v : Value) (B : Aut) : Prop := ∃ an cn aa ca, v = .agg #[.int .i64 B.k, .slice an B.nx.length cn, .slice aa B.ac.length ca] ∧ w.ownsRow base 3 1 (.slice an B.nx.length cn) B.nx.length (zC B.nx) ∧ w.ownsRow base 4 1 (.slice aa B.ac.length ca) B.ac.length (bC B.ac)
theorem AO.ar {base : Nat} {w : World} {v : Value} {B : Aut} (h : AO base w v B) : AR w v B := by
  obtain ⟨an, cn, aa, ca, e, h1, h2⟩ := h
  exact ⟨an, cn, aa, ca, e, own_sr h1, own_sr h2⟩
theorem AO.below {base : Nat} {w w' : World} {v : Value} {B : Aut} (h : AO base w v B) (hb : Below w.heap.size w w') : AO base w' v B := by
  obtain ⟨an, cn, aa, ca, e, h1, h2⟩ := h
  exact ⟨an, cn, aa, ca, e, own_below h1 hb, own_below h2 hb⟩
theorem AO.mono {base base' : Nat} {w : World} {v : Value} {B : Aut} (h : AO base w v B) (hb : base' ≤ base) : AO base' w v B := by
  obtain ⟨an, cn, aa, ca, e, h1, h2⟩ := h
  exact ⟨an, cn, aa, ca, e, own_mono h1 hb, own_mono h2 hb⟩
theorem AO.keep {base : Nat} {w w' : World} {v : Value} {B : Aut} (h : AO base w v B) (hk : ∀ (b : Nat) (cur : Array Value) (e : TypeId), e ≠ 58 → w.heap[b]? = some (.cells cur e (0, 0)) → w'.heap[b]? = w.heap[b]?) : AO base w' v B := by
  obtain ⟨an, cn, aa, ca, e, h1, h2⟩ := h
  exact ⟨an, cn, aa, ca, e, own_keep h1 (fun b cur _ hc => hk b cur _ (by decide) hc), own_keep h2 (fun b cur _ hc => hk b cur _ (by decide) hc)⟩
theorem AO.zero (base : Nat) (w : World) : AO base w (.agg #[.int .i64 0, .slice none 0 0, .slice none 0 0]) zAut := ⟨none, 0, none, 0, rfl, World.ownsRow_nil _ _ _ _, World.ownsRow_nil _ _ _ _⟩
/-- What a call that makes an automaton answers. -/
def FQ (B : Aut) (E : Int) (w : World) (e : Ending) (w' : World) : Prop := ∃ v', e = .returned (.tuple #[v', .int .i64 E]) ∧ AO w.heap.size w' v' B ∧ Below w.heap.size w w'
theorem sq_fq {A : Aut} (G : Good A) {s : Nat} (hs : s < A.ac.length) {acc : Nat → Bool} {w : World} {e : Ending} {w' : World} (h : SQ (bfs (dN A) A.k.toNat s) A.k.toNat acc w e w') : FQ (rch A s acc) 0 w e w' := by
  obtain ⟨m, n, hb, _⟩ := bfs_some G hs
  have hr : rch A s acc = ⟨A.k, n.map fun (x : Nat) => (x : Int), m.map acc⟩ := by unfold rch; rw [hb]
  rcases h with ⟨h, _⟩ | ⟨m', n', vn, va, h, he, h1, h2, h3⟩
  · rw [hb] at h; cases h
  · rw [hb] at h
    simp only [Option.some.injEq, Prod.mk.injEq] at h
    obtain ⟨rfl, rfl⟩ := h
    obtain ⟨an, cn, rfl⟩ := own_shape h1
    obtain ⟨aa, ca, rfl⟩ := own_shape h2
    rw [G.kn.2.2] at he
    refine ⟨_, he, ?_, h3⟩
    rw [hr]
    refine ⟨an, cn, aa, ca, ?_, ?_, ?_⟩
    · simp
    · simpa [nC_zC] using h1
    · simpa using h2

end Go.Proofs.Ytihjhkbbpphocaa

namespace Go.Proofs.Ytihjhkbbpphocaa
open Go Go.RowKit Go.Lib Go.Maps
set_option linter.unusedVariables false

/-- The answer's block is written. -/
theorem res_done {base b : Nat} {w0 w1 : World} {B : Aut} {x0 x1 x2 : Value} (hres : w1.heap[b]? = some (.cells #[.int .i64 0, .slice none 0 0, .slice none 0 0] 58 (0, 0))) (hao : AO base w1 (.agg #[x0, x1, x2]) B) (hb : Below base w0 w1) (hbb : base ≤ b) :
    (((w1.setCell ⟨b, 0, none⟩ x0).setCell ⟨b, 1, none⟩ x1).setCell ⟨b, 2, none⟩ x2).heap[b]? = some (.cells #[x0, x1, x2] 58 (0, 0)) ∧
    AO base (((w1.setCell ⟨b, 0, none⟩ x0).setCell ⟨b, 1, none⟩ x1).setCell ⟨b, 2, none⟩ x2) (.agg #[x0, x1, x2]) B ∧ Below base w0 (((w1.setCell ⟨b, 0, none⟩ x0).setCell ⟨b, 1, none⟩ x1).setCell ⟨b, 2, none⟩ x2) := by
  refine ⟨heap_set (heap_set (heap_set hres)), hao.keep (fun c cur e hne hc => ?_), ((hb.setCell (p := ⟨b, 0, none⟩) hbb _).setCell (p := ⟨b, 1, none⟩) hbb _).setCell (p := ⟨b, 2, none⟩) hbb _⟩
  have hne2 : c ≠ b := fun e2 => by
    rw [e2, hres] at hc
    injection hc with hc
    injection hc with _ hc _
    exact hne hc.symm
  rw [heap_set_other hne2, heap_set_other hne2, heap_set_other hne2]
/-- A block's cells and all below stay where another block is written. -/
theorem sb_set {W w1 : World} {b c j : Nat} {arr : Array Value} {x : Value} (h : SB W b arr w1) (hbc : b ≠ c) (hc : W.heap.size ≤ c) : SB W b arr (w1.setCell ⟨c, j, none⟩ x) := by
  refine ⟨fun o => ?_, h.2.setCell (p := ⟨c, j, none⟩) hc x⟩
  rw [World.cell?_of_block (heap_set_other hbc)]
  exact h.1 o
/-- What Ahead answers. -/
noncomputable def ahA (A : Aut) (b : ByteArray) : Aut := if cwE A b = 0 then rch A (goN A 0 (lets b)) (aN A) else zAut
noncomputable def notA (A : Aut) : Aut := if chkA A = 0 then rch A 0 (fun s => !aN A s) else zAut

noncomputable def reA (A : Aut) : Aut := if chkA A = 0 then rch A 0 (aN A) else zAut
theorem chk_emptyJ {k : Int} (h1 : 1 ≤ k) (h8 : k ≤ 8) : chk k ByteArray.empty = 0 := chk_ok k _ h1 h8 (fun i hi => by simp at hi)
theorem cwE_empty (A : Aut) : cwE A ByteArray.empty = chkA A := by
  unfold cwE
  rcases chkA_cases A with ⟨hG, hc⟩ | ⟨hG, hc⟩
  · rw [if_pos hc, hc, chk_emptyJ hG.k1 hG.k8]
  · rw [if_neg (by rw [hc]; decide), hc]
theorem ahA_empty (A : Aut) : ahA A ByteArray.empty = reA A := by
  unfold ahA reA
  rw [cwE_empty]
  rfl

end Go.Proofs.Ytihjhkbbpphocaa

namespace Go.Proofs.Ytihjhkbbpphocaa
open Go Go.RowKit Go.Shelf Go.Lib
set_option linter.unusedVariables false

attribute [local go_sem] Oper.semAt_some

/-- What Index answers of true. -/
def ixB (bs : List Bool) : Int := if true ∈ bs then (bs.idxOf true : Int) else -1

/-- The values of round j. -/
def bwI (L : List Int) (j : Nat) : Array Value := #[.int .i64 ((L.length - 1 - j : Nat) : Int), .int .i64 (L.getD (L.length - 1 - j) 0)]

end Go.Proofs.Ytihjhkbbpphocaa

namespace Go.Proofs.Ytihjhkbbpphocaa
open Go Go.RowKit Go.Shelf Go.Lib
set_option linter.unusedVariables false

attribute [local go_sem] Oper.semAt_some

/-- First places from p on. -/
def fwL (N : Nat) (n : List Nat) (p : Nat) : List Nat := (List.range N).map fun s => if s ∈ n.drop p then p + (n.drop p).idxOf s else 0
theorem fwL_len (N : Nat) (n : List Nat) (p : Nat) : (fwL N n p).length = N := by simp [fwL]
theorem fwL_start (N : Nat) (n : List Nat) : fwL N n n.length = List.replicate N 0 := by
  unfold fwL
  rw [List.drop_length]
  apply List.ext_getElem?
  intro i
  by_cases h : i < N
  · simp [h]
  · simp [h]
theorem fwL_step (N : Nat) (n : List Nat) (p x : Nat) (hp : n[p]? = some x) (hx : x < N) : fwL N n p = (fwL N n (p + 1)).set x p := by
  have hl := (List.getElem?_eq_some_iff.1 hp).1
  have e : n.drop p = x :: n.drop (p + 1) := by
    rw [List.drop_eq_getElem_cons hl]
    rw [List.getElem?_eq_getElem hl, Option.some.injEq] at hp
    rw [hp]
  apply List.ext_getElem?
  intro i
  rw [List.getElem?_set]
  unfold fwL
  by_cases h : i < N
  · simp only [List.getElem?_map, List.getElem?_range h, Option.map_some, List.length_map, List.length_range]
    by_cases c : x = i
    · subst c
      rw [if_pos rfl, if_pos h, e]
      simp
    · rw [if_neg c, e]
      congr 1
      by_cases c2 : i ∈ n.drop (p + 1)
      · rw [if_pos (List.mem_cons_of_mem _ c2), if_pos c2, List.idxOf_cons]
        have : (x == i) = false := by simpa using c
        rw [this]
        simp only [cond_false]
        omega
      · rw [if_neg (fun h2 => ?_), if_neg c2]
        rcases List.mem_cons.1 h2 with h2 | h2
        · exact c h2.symm
        · exact c2 h2
  · rw [List.getElem?_eq_none (by simp; omega)]
    by_cases c : x = i
    · omega
    · rw [if_neg c, List.getElem?_eq_none (by simp; omega)]
theorem fwL_at (N : Nat) (n : List Nat) (s : Nat) (hs : s < N) (hm : s ∈ n) : (fwL N n 0)[s]? = some (n.idxOf s) := by
  unfold fwL
  simp [hs, hm]
/-- Where W' differs from W is at block M alone, and above. -/
structure Ex1 (M : Nat) (W W' : World) : Prop where
  os : W'.os = W.os
  tape : W'.tape = W.tape
  output : W'.output = W.output
  size : W.heap.size ≤ W'.heap.size
  block : ∀ b, b < W.heap.size → b ≠ M → W'.heap[b]? = W.heap[b]?
theorem Ex1.refl (M : Nat) (W : World) : Ex1 M W W := ⟨rfl, rfl, rfl, Nat.le_refl _, fun _ _ _ => rfl⟩
theorem Ex1.grown {M : Nat} {W W1 W2 : World} {row : Option Nat} (h : Ex1 M W W1) (hg : W1.grownBy W2 row) (hr : ∀ k, row = some k → W.heap.size ≤ k) : Ex1 M W W2 :=
  ⟨hg.os.trans h.os, hg.tape.trans h.tape, hg.output.trans h.output, Nat.le_trans h.size hg.size, fun b hb hne => (hg.block b (Nat.lt_of_lt_of_le hb h.size) (fun e => by have := hr b e.symm; omega)).trans (h.block b hb hne)⟩
theorem Ex1.set {M j : Nat} {W W1 : World} (h : Ex1 M W W1) (v : Value) : Ex1 M W (W1.setCell ⟨M, j, none⟩ v) :=
  ⟨h.os, h.tape, h.output, by simpa [World.setCell] using h.size, fun b hb hne => (heap_set_other hne).trans (h.block b hb hne)⟩
theorem Ex1.below {M B : Nat} {w W W1 : World} (h : Ex1 M W W1) (hb : Below B w W) (hM : B ≤ M) (hB : B ≤ W.heap.size) : Below B w W1 :=
  ⟨h.os.trans hb.os, h.tape.trans hb.tape, h.output.trans hb.output, Nat.le_trans hb.size h.size, fun b hlt => (h.block b (by have := hb.size; omega) (by omega)).trans (hb.block b hlt)⟩

end Go.Proofs.Ytihjhkbbpphocaa

namespace Go.Proofs.Ytihjhkbbpphocaa
open Go.RowKit Go.Lib

/-- The first i and the last i places changed about. -/
def revTo (l : List UInt8) (i : Nat) : List UInt8 := List.ofFn (n := l.length) fun t => if t.val < i ∨ l.length ≤ t.val + i then l.getD (l.length - 1 - t.val) 0 else l.getD t.val 0
theorem revTo_length (l : List UInt8) (i : Nat) : (revTo l i).length = l.length := by simp [revTo]
theorem revTo_get (l : List UInt8) (i t : Nat) (h : t < l.length) : (revTo l i)[t]? = some (if t < i ∨ l.length ≤ t + i then l.getD (l.length - 1 - t) 0 else l.getD t 0) := by
  simp [revTo, h]
theorem revTo_zero (l : List UInt8) : revTo l 0 = l := by
  apply List.ext_getElem?
  intro t
  by_cases h : t < l.length
  · rw [revTo_get l 0 t h, if_neg (by omega)]
    simp [h]
  · rw [List.getElem?_eq_none (by rw [revTo_length]; omega), List.getElem?_eq_none (by omega)]
theorem revTo_end (l : List UInt8) (i : Nat) (h : l.length ≤ 2 * i + 1) : revTo l i = l.reverse := by
  apply List.ext_getElem?
  intro t
  by_cases ht : t < l.length
  · rw [revTo_get l i t ht, List.getElem?_reverse ht]
    have e : ∀ x, x < l.length → l[x]? = some (l.getD x 0) := fun x hx => by simp [hx]
    by_cases hc : t < i ∨ l.length ≤ t + i
    · rw [if_pos hc, e _ (by omega)]
    · rw [if_neg hc]
      have : l.length - 1 - t = t := by omega
      rw [this, e t ht]
  · rw [List.getElem?_eq_none (by rw [revTo_length]; omega), List.getElem?_eq_none (by simp; omega)]
theorem revTo_step (l : List UInt8) (i : Nat) (h : 2 * i + 1 < l.length) :
    revTo l (i + 1) = ((revTo l i).set i (l.getD (l.length - 1 - i) 0)).set (l.length - 1 - i) (l.getD i 0) := by
  apply List.ext_getElem?
  intro t
  by_cases ht : t < l.length
  · rw [revTo_get l (i + 1) t ht]
    simp only [List.getElem?_set, List.length_set, revTo_length]
    by_cases h1 : l.length - 1 - i = t
    · rw [if_pos h1, if_pos (by omega), if_pos (by omega)]
      have : l.length - 1 - t = i := by omega
      rw [this]
    · rw [if_neg h1]
      by_cases h2 : i = t
      · rw [if_pos h2, if_pos (by omega), if_pos (by omega)]
        rw [h2]
      · rw [if_neg h2, revTo_get l i t ht]
        by_cases h3 : t < i ∨ l.length ≤ t + i
        · rw [if_pos (by omega), if_pos h3]
        · rw [if_neg (by omega), if_neg h3]
  · rw [List.getElem?_eq_none (by rw [revTo_length]; omega), List.getElem?_eq_none (by simp [revTo_length]; omega)]

theorem byteCells_set (l : List UInt8) (i : Nat) (c : UInt8) : (byteCells l).set i (Value.int .u8 c.toNat) = byteCells (l.set i c) := by
  simp [byteCells, List.map_set]
theorem byteCells_get (l : List UInt8) (i : Nat) (c : UInt8) (h : l[i]? = some c) : (byteCells l)[i]? = some (Value.int .u8 c.toNat) := by
  simp [byteCells, h]

theorem swap_row {wr : World} {base g cap : Nat} {e : TypeId} {l : List UInt8} {i : Nat} (hown : wr.ownsRow base e 1 (.slice (some ⟨g, 0, none⟩) l.length cap) l.length (byteCells (revTo l i))) (h : 2 * i + 1 < l.length) :
    ((wr.setCell ⟨g, i, none⟩ (.int .u8 (l.getD (l.length - 1 - i) 0).toNat)).setCell ⟨g, l.length - 1 - i, none⟩ (.int .u8 (l.getD i 0).toNat)).ownsRow base e 1 (.slice (some ⟨g, 0, none⟩) l.length cap) l.length (byteCells (revTo l (i + 1))) := by
  have s := ((hown.stored i (.int .u8 (l.getD (l.length - 1 - i) 0).toNat)).1.stored (l.length - 1 - i) (.int .u8 (l.getD i 0).toNat)).1
  rw [byteCells_set, byteCells_set, ← revTo_step l i h] at s
  exact s

theorem digit_val (k q : Nat) (h1 : 1 ≤ k) (h8 : k ≤ 8) : (97 + (q : Int) % k) = ((UInt8.ofNat (97 + q % k)).toNat : Int) := by
  have : q % k < k := Nat.mod_lt _ (by omega)
  have e : (UInt8.ofNat (97 + q % k)).toNat = 97 + q % k := by
    rw [UInt8.toNat_ofNat']
    omega
  rw [e]
  omega
theorem own_snoc {w : World} {base n : Nat} {e : TypeId} {v : Value} {l : List UInt8} {c : UInt8} (h : w.ownsRow base e 1 v n (byteCells l ++ [Value.int .u8 (c.toNat : Int)])) : w.ownsRow base e 1 v n (byteCells (l ++ [c])) := by
  rw [byteCells_append]
  exact h

end Go.Proofs.Ytihjhkbbpphocaa

namespace Go.Proofs.Ytihjhkbbpphocaa
open Go Go.RowKit Go.Lib
set_option linter.unusedVariables false

/-- Letters as bytes. -/
def lB (l : List Nat) : List UInt8 := l.map fun c => UInt8.ofNat (97 + c)
theorem lB_append (a b : List Nat) : lB (a ++ b) = lB a ++ lB b := by simp [lB]
theorem lB_len (a : List Nat) : (lB a).length = a.length := by simp [lB]

end Go.Proofs.Ytihjhkbbpphocaa

namespace Go.Proofs.Ytihjhkbbpphocaa
open Go Go.RowKit Go.Lib
set_option linter.unusedVariables false

/-- What Least answers. -/
noncomputable def lsN (A : Aut) : List Nat := (reA A).nx.map Int.toNat
noncomputable def lsF (A : Aut) : Bool := decide (true ∈ (reA A).ac)
noncomputable def lsW (A : Aut) : ByteArray := if true ∈ (reA A).ac then ⟨(lB (lw A.k.toNat (lsN A) ((reA A).ac.idxOf true))).toArray⟩ else ByteArray.empty
/-- What is sure of what is met. -/
structure Rch (A : Aut) (s : Nat) (acc : Nat → Bool) (m n : List Nat) : Prop where
  bfs : bfs (dN A) A.k.toNat s = some (m, n)
  is : rch A s acc = ⟨A.k, n.map fun (x : Nat) => (x : Int), m.map acc⟩
  bi : BI (dN A) A.k.toNat s m n
  len : n.length = m.length * A.k.toNat
  lt : ∀ x ∈ m, x < A.ac.length
  nlt : ∀ x ∈ n, x < m.length
  m1 : 1 ≤ m.length
theorem rch_of {A : Aut} (G : Good A) {s : Nat} (hs : s < A.ac.length) (acc : Nat → Bool) : ∃ m n, Rch A s acc m n := by
  obtain ⟨m, n, hb, hm⟩ := bfs_some G hs
  obtain ⟨hbi, hl⟩ := bfs_sure ⟨G.kn.1, G.kn.2.1⟩ hb
  refine ⟨m, n, hb, by unfold rch; rw [hb], hbi, hl, hm, fun x hx => ?_, ?_⟩
  · obtain ⟨p, hp⟩ := List.mem_iff_getElem?.1 hx
    obtain ⟨t, _, ht⟩ := hbi.step p x hp
    exact (List.getElem?_eq_some_iff.1 ht).1
  · have := (List.getElem?_eq_some_iff.1 hbi.first).1
    omega
theorem Rch.nbound {A : Aut} {s : Nat} {acc : Nat → Bool} {m n : List Nat} (h : Rch A s acc m n) (G : Good A) : n.length ≤ 32768 ∧ 0 < n.length ∧ m.length ≤ 4096 := by
  have h1 := h.len
  have h2 := h.bi.most
  have h3 := Nat.mul_le_mul h2 G.kn.2.1
  have h4 := Nat.mul_le_mul h.m1 G.kn.1
  omega
theorem toNat_cast (n : List Nat) : (n.map fun (x : Nat) => (x : Int)).map Int.toNat = n := by
  rw [List.map_map]
  have : (Int.toNat ∘ fun (x : Nat) => (x : Int)) = id := by funext x; simp
  rw [this, List.map_id]
theorem ret_three {a b c x y z : Value} (h1 : a = x) (h2 : b = y) (h3 : c = z) : Ending.returned (.tuple #[a, b, c]) = .returned (.tuple #[x, y, z]) := by rw [h1, h2, h3]

end Go.Proofs.Ytihjhkbbpphocaa

namespace Go.Proofs.Ytihjhkbbpphocaa
open Go Go.RowKit Go.Lib
set_option linter.unusedVariables false

theorem results_auto1 {fn : Func} {p : Tmp} (h : fn.results = #[.cell p 58]) {tmps : Array Value} {b : Nat} {arr : Array Value} {w : World} (hp : tmps.getD p undef = .pointer (some ⟨b, 0, none⟩)) (hc : w.heap[b]? = some (.cells arr 58 (0, 0))) (hs : arr.size = 3) :
    (results fn tmps).run Try.prog w = .ok (.agg arr) w :=
  results_cell_row h tmps w b 58 arr (0, 0) _ hp hc Try.underlying58 rfl (by rw [Try.info_auto, hs])
/-- The examples' automaton. -/
def plA : Aut := ⟨2, [1, 0, 1, 1], [true, false]⟩
theorem plA_good : Good plA := ⟨by decide, by decide, by decide, by decide, by decide, by decide, by decide⟩

theorem pl_run : runV plA 0 ⟨#[98, 98, 97]⟩ = 1 ∧ runE plA 0 ⟨#[98, 98, 97]⟩ = 0 := by
  have hc : chk 2 ⟨#[98, 98, 97]⟩ = 0 := by decide +kernel
  have e : runE plA 0 ⟨#[98, 98, 97]⟩ = 0 := by
    rw [runE_in (chkA_ok plA_good) (by decide)]
    exact hc
  refine ⟨?_, e⟩
  unfold runV
  rw [if_pos e]
  decide +kernel
theorem pl_bfs : bfs (dN plA) 2 0 = some ([0, 1], [1, 0, 1, 1]) := by decide +kernel
theorem pl_not : notA plA = ⟨2, [1, 0, 1, 1], [false, true]⟩ := by
  unfold notA
  rw [if_pos (chkA_ok plA_good)]
  unfold rch
  have : bfs (dN plA) plA.k.toNat 0 = some ([0, 1], [1, 0, 1, 1]) := pl_bfs
  rw [this]
  rfl
def nlA : Aut := ⟨2, [1, 0, 1, 1], [false, true]⟩
theorem nlA_good : Good nlA := ⟨by decide, by decide, by decide, by decide, by decide, by decide, by decide⟩
theorem nl_re : reA nlA = ⟨2, [1, 0, 1, 1], [false, true]⟩ := by
  unfold reA
  rw [if_pos (chkA_ok nlA_good)]
  unfold rch
  have : bfs (dN nlA) nlA.k.toNat 0 = some ([0, 1], [1, 0, 1, 1]) := by decide +kernel
  rw [this]
  rfl
theorem nl_ls : lsW nlA = ⟨#[97]⟩ ∧ lsF nlA = true := by
  unfold lsW lsF lsN
  rw [nl_re]
  refine ⟨?_, rfl⟩
  rw [if_pos (by decide)]
  decide +kernel

end Go.Proofs.Ytihjhkbbpphocaa

namespace Go.Proofs.Ytihjhkbbpphocaa
open Go Go.RowKit Go.Lib
set_option linter.unusedVariables false

theorem two_new (w : World) (a b : Value) (t : TypeId) : ∀ j u, [a, b][j]? = some u → (w.alloc (.cells #[a, b] t)).cell? ((⟨w.heap.size, 0, none⟩ : Addr).add j) = some u := by
  intro j u hj
  rw [Addr.add_lit, (RowAt.last w #[a, b] t).cell, Nat.zero_add]
  simpa using hj

set_option maxHeartbeats 2000000 in
set_option maxRecDepth 100000 in
theorem lent_any (a : Option Addr) (cap : Nat) (xs : List Int) (w : World) (hr : SR w a (zC xs)) (hn0 : a = none → cap = 0) (hm : (xs.length + 2) * 8 ≤ 140737488355328) :
    Calls Try.prog 7 #[.slice a xs.length cap] w fun e w' => ∃ g cap, e = .returned (.slice (some ⟨g, 0, none⟩) xs.length cap) ∧
      w'.ownsRow w.heap.size 3 1 (.slice (some ⟨g, 0, none⟩) (xs.length + 2) cap) (xs.length + 2) (zC (xs ++ [-77, -78])) ∧ Below w.heap.size w w' := by
  obtain ⟨i0, hi, hz0, hz1, hz2⟩ := info_parts Try.info_int
  have HR : Hid (SR w a (zC xs)) := hr
  clear hr
  have hzl : (zC xs).length = xs.length := by simp [zC]
  have h1c : ∀ u ∈ zC xs, u.oneCell' = true := by
    intro u hu
    obtain ⟨z, _, rfl⟩ := List.mem_map.1 hu
    rfl
  have HO0 : Hid ((w.alloc (.cells #[] 3)).ownsRow w.heap.size 3 1 (.slice (some ⟨w.heap.size, 0, none⟩) 0 0) 0 []) := World.ownsRow_made w #[] 0 (Nat.le_refl _) (by unfold maxLen; omega) rfl
  have HB0 : Hid (Below w.heap.size w (w.alloc (.cells #[] 3))) := (Below.refl _ _).alloc (Nat.le_refl _) _
  have hn1 : xs.length ≤ 17592186044414 := by omega
  clear hm
  have second : ∀ (v2 : Value) (w2 : World), v2 ≠ .slice none 0 0 → w2.ownsRow w.heap.size 3 1 v2 xs.length (zC xs) → Below w.heap.size w w2 → ∀ (w3 : World) (v3 : Value), w3.ownsRow w.heap.size 3 1 v3 (xs.length + 2) (zC xs ++ [.int .i64 (-77), .int .i64 (-78)]) → (w2.alloc (.cells #[.int .i64 (-77), .int .i64 (-78)] 3)).grownBy w3 v2.ownBlock →
      ∃ g cap, v3 = .slice (some ⟨g, 0, none⟩) (xs.length + 2) cap ∧ xs.length + 2 ≤ cap ∧ w3.ownsRow w.heap.size 3 1 (.slice (some ⟨g, 0, none⟩) (xs.length + 2) cap) (xs.length + 2) (zC (xs ++ [-77, -78])) ∧ Below w.heap.size w w3 := by
    intro v2 w2 hv2 ho2 hb2 w3 v3 ho3 hg3
    have ho3' := ho3
    obtain ⟨hl3, h3⟩ := ho3'
    rcases h3 with ⟨_, h3⟩ | ⟨g, cp, cur, rfl, _, _, hcp, _⟩
    · omega
    · exact ⟨g, cp, rfl, hcp, by rw [zC_append]; exact ho3, (hb2.alloc hb2.size _).grown hg3 (by have := hb2.size; simp; omega) (fun k hk => (ho2.lt k hk).1)⟩
  have HS : Hid _ := second
  clear second
  cases a with
  | none =>
    obtain rfl : xs = [] := by
      cases xs with
      | nil => rfl
      | cons y t =>
        obtain ⟨g, o, h, _⟩ := HR.out.int (i := 0) (by simp)
        cases h
    obtain rfl : cap = 0 := hn0 rfl
    clear hn0
    go_enter Try.func7, Try.ntmps7
    go_wp2_with (first
      | (at_builtin; refine wpList_append_own_none rfl _ _ 22 rfl w.heap.size 3 i0 1 Try.underlying22 hi _ _ _ rfl HO0.out rfl ?_)
      | (at_builtin; refine wpList_append_own _ rfl _ _ 22 rfl w.heap.size 3 i0 (.int .i64 0) 1 8 Try.underlying22 hi hz0 hz1 hz2 rfl (by decide) _ _ _ rfl (HO0.out.alloc _) ⟨w.heap.size + 1, 0, none⟩ 2 2 [.int .i64 (-77), .int .i64 (-78)] rfl rfl ?c1 ?c2 ?c3 ?c4 ?c5 ?_))
    case c1 => have := two_new (w.alloc (.cells #[] 3)) (.int .i64 (-77)) (.int .i64 (-78)) 3; simpa using this
    case c2 => intro u hu; simp at hu; rcases hu with rfl | rfl <;> rfl
    case c3 => unfold maxLen; omega
    case c4 => omega
    case c5 => simp; omega
    intro v3 w3 ho3 hg3 _
    obtain ⟨g, cp, rfl, hcp, ho4, hb4⟩ := HS.out (.slice (some ⟨w.heap.size, 0, none⟩) 0 0) _ (by simp) HO0.out HB0.out w3 v3 ho3 hg3
    have HO4 : Hid (w3.ownsRow w.heap.size 3 1 (.slice (some ⟨g, 0, none⟩) (_ + 2) cp) (_ + 2) (zC (_ ++ [-77, -78]))) := ho4
    have HB4 : Hid _ := hb4
    clear ho3 hg3 ho4 hb4
    have hcI : (2 : Int) ≤ cp := by simp at hcp; omega
    go_wp2_with fail
    go_ret
    exact ⟨g, cp, rfl, HO4.out, HB4.out⟩
  | some ad =>
    clear hn0
    have hnews : ∀ j u, (zC xs)[j]? = some u → (w.alloc (.cells #[] 3)).cell? (ad.add j) = some u := by
      intro j u hj
      have hjl : j < xs.length := by have := (List.getElem?_eq_some_iff.1 hj).1; omega
      obtain ⟨g, o, e, hg, hc⟩ := HR.out j u hj
      cases e
      rw [Addr.add_lit, below_cellJ HB0.out hg]
      exact hc
    have HN : Hid _ := hnews
    clear hnews
    go_enter Try.func7, Try.ntmps7
    go_wp2_with (at_builtin; refine wpList_append_own _ rfl _ _ 22 rfl w.heap.size 3 i0 (.int .i64 0) 1 8 Try.underlying22 hi hz0 hz1 hz2 rfl (by decide) _ _ _ rfl HO0.out ad xs.length cap (zC xs) rfl (by omega) HN.out h1c (by unfold maxLen; omega) (by omega) (by simp) ?_)
    intro v2 w2 ho2 hg2 hn2
    have hb2 : Below w.heap.size w w2 := HB0.out.grown hg2 (by simp) (fun k hk => (HO0.out.lt k hk).1)
    have hv2 : v2 ≠ .slice none 0 0 := hn2
    obtain ⟨a2, c2, rfl⟩ := own_shape ho2
    have HO2 : Hid (w2.ownsRow w.heap.size 3 1 (.slice a2 xs.length c2) xs.length (zC xs)) := ho2
    have HB2 : Hid _ := hb2
    clear ho2 hg2 hn2 hb2
    go_wp2_with (at_builtin; refine wpList_append_own _ rfl _ _ 22 rfl w.heap.size 3 i0 (.int .i64 0) 1 8 Try.underlying22 hi hz0 hz1 hz2 rfl (by decide) _ _ _ rfl (HO2.out.alloc _) ⟨w2.heap.size, 0, none⟩ 2 2 [.int .i64 (-77), .int .i64 (-78)] rfl rfl ?c1 ?c2 ?c3 ?c4 ?c5 ?_)
    case c1 => exact two_new w2 (.int .i64 (-77)) (.int .i64 (-78)) 3
    case c2 => intro u hu; simp at hu; rcases hu with rfl | rfl <;> rfl
    case c3 => unfold maxLen; omega
    case c4 => omega
    case c5 => have := HB2.out.size; simp; omega
    intro v3 w3 ho3 hg3 _
    obtain ⟨g, cp, rfl, hcp, ho4, hb4⟩ := HS.out _ _ hv2 HO2.out HB2.out w3 v3 ho3 hg3
    have HO4 : Hid (w3.ownsRow w.heap.size 3 1 (.slice (some ⟨g, 0, none⟩) (_ + 2) cp) (_ + 2) (zC (_ ++ [-77, -78]))) := ho4
    have HB4 : Hid _ := hb4
    clear ho3 hg3 ho4 hb4
    have hcI : (xs.length : Int) ≤ cp := by omega
    have hcI2 : (xs.length : Int) + 2 ≤ cp := by omega
    go_wp2_with fail
    go_ret
    exact ⟨g, cp, rfl, HO4.out, HB4.out⟩

theorem drew_twice (w : World) (q n : Nat) : (w.drewN q).drewN n = w.drewN (q + n) := by simp [World.drewN, Nat.add_assoc]
theorem drewN_below (w : World) (q : Nat) : Below w.heap.size w (w.drewN q) := ⟨rfl, rfl, rfl, Nat.le_refl _, fun _ _ => rfl⟩

set_option maxHeartbeats 1000000 in
set_option maxRecDepth 100000 in
theorem same_any (a1 a2 : Option Addr) (c1 c2 : Nat) (xs : List Int) (w : World) (g1 : SR w a1 (zC xs)) (g2 : SR w a2 (zC xs)) (hm1 : xs.length ≤ 9223372036854775806) :
    Calls Try.prog 23 #[.slice a1 xs.length c1, .slice a2 xs.length c2] w fun e w' => e = .returned (.bool true) ∧ Below w.heap.size w w' := by
  have H1 : Hid (SR w a1 (zC xs)) := g1
  have H2 : Hid (SR w a2 (zC xs)) := g2
  clear g1 g2
  go_enter Try.func23, Try.ntmps23
  go_wp2_with fail
  go_loopw [5] (fun vi wr => ∃ i q : Nat, vi = .int .i64 i ∧ i ≤ xs.length ∧ wr = w.drewN q) (fun vi _ => xs.length - (intOf vi).toNat)
  case atStart => exact ⟨0, 0, rfl, Nat.zero_le _, rfl⟩
  case round =>
    obtain ⟨i, q, rfl, hi, rfl⟩ := hrel
    by_cases hlt : i < xs.length
    · obtain ⟨ga, oa, rfl, _, ca⟩ := H1.out.int hlt
      obtain ⟨gb, ob, rfl, _, cb⟩ := H2.out.int hlt
      obtain ⟨x, hx⟩ : ∃ x, xs.getD i 0 = x := ⟨_, rfl⟩
      rw [hx] at ca cb
      clear hx
      go_wp2_with fail
      go_quiet (fail)
      go_wp2
      go_roundw
      case rel => exact ⟨i + 1, _, by go_num, by omega, rfl⟩
      case measure => simp [intOf]; omega
    · have hiI : ¬ (i : Int) < xs.length := by omega
      go_wp2_with fail
      go_ret
      exact ⟨rfl, drewN_below w q⟩

theorem lent_sr {w : World} {base g cap : Nat} {xs : List Int} (ho : w.ownsRow base 3 1 (.slice (some ⟨g, 0, none⟩) (xs.length + 2) cap) (xs.length + 2) (zC (xs ++ [-77, -78]))) : SR w (some ⟨g, 0, none⟩) (zC xs) := by
  have h := own_sr ho
  intro i u hi
  exact h i u (by rw [zC_append, List.getElem?_append_left (List.getElem?_eq_some_iff.1 hi).1]; exact hi)

set_option maxHeartbeats 2000000 in
set_option maxRecDepth 100000 in
theorem stay_any (a2 : Option Addr) (c2 : Nat) (xs : List Int) (w : World) (hv : SR w a2 (zC xs)) (base g cap : Nat) (hm : xs.length + 2 ≤ 9223372036854775806)
    (ho : w.ownsRow base 3 1 (.slice (some ⟨g, 0, none⟩) (xs.length + 2) cap) (xs.length + 2) (zC (xs ++ [-77, -78]))) :
    Calls Try.prog 13 #[.slice (some ⟨g, 0, none⟩) xs.length cap, .slice a2 xs.length c2] w fun e w' => e = .returned (.bool true) ∧ Below w.heap.size w w' := by
  have HRx : Hid (SR w (some ⟨g, 0, none⟩) (zC xs)) := lent_sr ho
  have hcap : xs.length + 2 ≤ cap := by
    obtain ⟨_, h⟩ := ho
    rcases h with ⟨h, _⟩ | ⟨g', cp, cur, h, _, _, hcp, _⟩
    · simp at h
    · simp at h
      omega
  have hc1 : w.cell? ⟨g, xs.length, none⟩ = some (.int .i64 (-77)) := by
    rw [ho.cellAt xs.length (by omega)]
    simp [zC]
  have hc2 : w.cell? ⟨g, xs.length + 1, none⟩ = some (.int .i64 (-78)) := by
    rw [ho.cellAt (xs.length + 1) (by omega)]
    simp [zC]
  have hg : g < w.heap.size := (ho.lt g rfl).2
  have HRv : Hid (SR w a2 (zC xs)) := hv
  clear ho hv
  have hcI : (xs.length : Int) + 2 ≤ cap := by omega
  have hcI2 : (xs.length : Int) ≤ cap := by omega
  go_enter Try.func13, Try.ntmps13
  go_wp2_with fail
  refine (same_any _ _ _ _ xs _ HRx.out HRv.out (by omega)).mono ?_
  rintro e w1 ⟨rfl, hb1⟩
  have hd1 : w1.cell? ⟨g, xs.length, none⟩ = some (.int .i64 (-77)) := by rw [below_cellJ hb1 hg]; exact hc1
  have hd2 : w1.cell? ⟨g, xs.length + 1, none⟩ = some (.int .i64 (-78)) := by rw [below_cellJ hb1 hg]; exact hc2
  clear hc1 hc2
  go_wp2_with fail
  go_ret
  exact ⟨rfl, hb1⟩

end Go.Proofs.Ytihjhkbbpphocaa

namespace Go.Proofs.Ytihjhkbbpphocaa
open Go Go.RowKit Go.Lib
set_option linter.unusedVariables false

/-- append(v, xs...) where v is an empty row of the call's own, xs nil or not. -/
theorem wp_append_sr {P : Program} {w : World} {o : Oper} {a : Act} {K : Act → World → Prop} {Q : Exit → Act → World → Prop} (s x : Operand) (t : TypeId)
    (ho : o.op = .call { callee := .builtin .append, args := #[s, x], argTypes := #[t, t] })
    (base : Nat) (e : TypeId) (i : TypeInfo) (z : Value) (bytes : Nat) (ht : P.underlying t = some (.slice e)) (hi : P.info? e = some i) (hz : i.zero = some z)
    (hsize : i.size = 1) (hby : i.bytes = bytes) (hzs : z.cells.size = 1)
    (v : Value) (hs : a.eval s = v) (hown : w.ownsRow base e 1 v 0 []) (src : Option Addr) (c : Nat) (us : List Value) (hx : a.eval x = .slice src us.length c) (hsr : SR w src us) (hn : src = none → c = 0)
    (h1 : ∀ u ∈ us, u.oneCell' = true) (h63 : us.length ≤ maxLen) (hbytes : us.length * bytes ≤ 140737488355328) (hbase : base ≤ w.heap.size)
    (h : ∀ v' w', w'.ownsRow base e 1 v' us.length us → w.grownBy w' v.ownBlock → K (a.put o.dst v') w') : o.wp P a w K Q := by
  cases src with
  | none =>
    have hu : us = [] := by
      cases us with
      | nil => rfl
      | cons u us =>
        obtain ⟨g, o, e, _⟩ := hsr 0 u rfl
        cases e
    subst hu
    rw [hn rfl] at hx
    have hrun := run_append_owned_none (P := P) (w := w) base t o.type e i 1 ht hi v 0 [] hown
    unfold Oper.wp
    simp only [List.length_nil] at hx
    simp [execOp, ho, resolve, invoke, builtin, hs, hx, hrun, Result.andThen]
    exact h v w hown ⟨rfl, rfl, rfl, Nat.le_refl _, fun _ _ _ => rfl⟩
  | some ad =>
    refine wp_append_own w s x t ho base e i z 1 bytes ht hi hz hsize hby hzs (by decide) v 0 [] hs hown ad us.length c us hx (by simp) ?_ h1 (by simpa using h63) (by simpa using hbytes) hbase ?_
    · intro j u hj
      obtain ⟨g, o, e, hg, hc⟩ := hsr j u hj
      cases e
      rw [Addr.add_lit]
      exact hc
    · intro v' w' ho' hg' _
      exact h v' w' (by simpa using ho') hg'

end Go.Proofs.Ytihjhkbbpphocaa
