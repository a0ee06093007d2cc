/- Y58 Y59 Y60, in one text. -/
import Derived.Test.YthhlamehbcidgaaY57
import Derived.Test.YthhlamehbcidgaaY32
import Derived.Test.YthhlamehbcidgaaY40
import Derived.Test.YthhlamehbcidgaaY45
namespace Go.Proofs.Ythhlamehbcidgaa
open Go Go.RowKit Go.Lib
set_option linter.unusedVariables false
set_option linter.unusedSimpArgs false

def wdV (Ws : List ByteArray) (c : Nat) : List UInt8 := (Ws.getD (plI c).toNat ⟨#[]⟩).data.toList
def keep (U : List UInt8) : List UInt8 := if 4096 < U.length then [] else U
/-- What a side spells, as terms tells it: once a part is too long nothing of it counts. -/
def spW (Ws : List ByteArray) (om : Int) : Tm → List UInt8
  | .one => []
  | .var c => keep (wdV Ws c)
  | .om t => if spW Ws om t = [] then [] else if 4096 / ((spW Ws om t).length : Int) < om then [] else powL (spW Ws om t) om.toNat
  | .mul a b => keep (spW Ws om a ++ spW Ws om b)
/-- Are all parts short enough? -/
def spO (Ws : List ByteArray) (om : Int) : Tm → Bool
  | .one => true
  | .var c => decide ((wdV Ws c).length ≤ 4096)
  | .om t => spO Ws om t && (decide (spW Ws om t = []) || decide (om ≤ 4096 / ((spW Ws om t).length : Int)))
  | .mul a b => spO Ws om b && spO Ws om a && decide ((spW Ws om a ++ spW Ws om b).length ≤ 4096)
theorem keep_len (U : List UInt8) : (keep U).length ≤ 4096 := by
  unfold keep
  split
  · exact Nat.zero_le _
  · omega
theorem spW_len (Ws : List ByteArray) {om : Int} (h1 : 1 ≤ om) : ∀ t, (spW Ws om t).length ≤ 4096
  | .one => Nat.zero_le _
  | .var c => keep_len _
  | .mul a b => keep_len _
  | .om t => by
    rw [spW]
    split
    · exact Nat.zero_le _
    · split
      · exact Nat.zero_le _
      · rename_i h2 h3
        rw [powL_len]
        have hp : 0 < (spW Ws om t).length := List.length_pos_iff.2 h2
        obtain ⟨n, rfl⟩ : ∃ n : Nat, om = n := ⟨om.toNat, by omega⟩
        have h4 : n ≤ 4096 / (spW Ws (n : Int) t).length := by
          have e : (4096 : Int) / ((spW Ws (n : Int) t).length : Int) = ((4096 / (spW Ws (n : Int) t).length : Nat) : Int) := by simp
          rw [e] at h3
          omega
        have h5 := Nat.mul_le_mul_right (spW Ws (n : Int) t).length h4
        have h6 := Nat.div_mul_le_self 4096 (spW Ws (n : Int) t).length
        rw [Int.toNat_natCast]
        omega
/-- Are they words over k letters? -/
def okW (k : Int) (U : List UInt8) : Prop := ∀ x ∈ U, letterAt k x = true
theorem okW_chk {k : Int} {U : List UInt8} (h1 : 1 ≤ k) (h8 : k ≤ 8) (h : okW k U) : chk k (str U) = 0 := by
  unfold chk
  rw [if_neg (by omega), if_pos]
  rw [str_list, List.all_eq_true]
  exact h
theorem okW_pow {k : Int} {U : List UInt8} (h : okW k U) : ∀ n, okW k (powL U n)
  | 0 => fun x hx => by simp [powL] at hx
  | n + 1 => fun x hx => by
    rw [powL, List.mem_append] at hx
    rcases hx with hx | hx
    · exact okW_pow h n x hx
    · exact h x hx
theorem okW_keep {k : Int} {U : List UInt8} (h : okW k U) : okW k (keep U) := by
  unfold keep
  split
  · intro x hx; simp at hx
  · exact h
theorem okW_sp {k om : Int} {Ws : List ByteArray} : ∀ t : Tm, (∀ c, (2, c) ∈ t.sg → okW k (wdV Ws c)) → okW k (spW Ws om t)
  | .one, _ => fun x hx => by simp [spW] at hx
  | .var c, h => okW_keep (h c (List.mem_singleton.2 rfl))
  | .mul a b, h => okW_keep (fun x hx => by
    rw [List.mem_append] at hx
    rcases hx with hx | hx
    · exact okW_sp a (fun c hc => h c (by show _ ∈ (a.sg ++ b.sg) ++ _; simp [hc])) x hx
    · exact okW_sp b (fun c hc => h c (by show _ ∈ (a.sg ++ b.sg) ++ _; simp [hc])) x hx)
  | .om t, h => by
    have ht := okW_sp (om := om) t (fun c hc => h c (by show _ ∈ t.sg ++ _; simp [hc]))
    rw [spW]
    split
    · intro x hx; simp at hx
    · split
      · intro x hx; simp at hx
      · exact okW_pow ht _

/-- What spelt's closures lean on: q: all is short enough so far. -/
structure SE (w0 : World) (FB CB KB VB OB : Nat) (k om : Int) (vx : Value) (Ws : List ByteArray) (q : Bool) (w : World) : Prop where
  fb : w.heap[FB]? = some (.cells #[.bool q] 4 (0, 0))
  cb : w.cell? ⟨CB, 0, none⟩ = some (.func (Fn.func 81) #[] #[.pointer (some ⟨FB, 0, none⟩)]) ∧ CB < w.heap.size ∧ CB ≠ FB
  kb : w.cell? ⟨KB, 0, none⟩ = some (.int .i64 k) ∧ KB < w.heap.size ∧ KB ≠ FB
  vb : w.cell? ⟨VB, 0, none⟩ = some vx ∧ VB < w.heap.size ∧ VB ≠ FB
  ob : w.cell? ⟨OB, 0, none⟩ = some (.int .i64 om) ∧ OB < w.heap.size ∧ OB ≠ FB
  b : Below w0.heap.size w0 w
  lo : w0.heap.size ≤ FB
  rd : StR w0 vx Ws
theorem SE.fl {w0 : World} {FB CB KB VB OB : Nat} {k om : Int} {vx : Value} {Ws : List ByteArray} {q : Bool} {w : World} (h : SE w0 FB CB KB VB OB k om vx Ws q w) : FB < w.heap.size := (Array.getElem?_eq_some_iff.1 h.fb).1
theorem SE.row {w0 : World} {FB CB KB VB OB : Nat} {k om : Int} {vx : Value} {Ws : List ByteArray} {q : Bool} {w : World} {a : Option Addr} {n c g o p : Nat} {x : ByteArray} (h : SE w0 FB CB KB VB OB k om vx Ws q w) (hp : a = some ⟨g, o, none⟩ ∧ g < w0.heap.size ∧ w0.cell? ⟨g, o + p, none⟩ = some (.string x) ∧ vx = .slice a n c) : w.cell? ⟨g, o + p, none⟩ = some (.string x) := by
  rw [below_cell h.b hp.2.1]
  exact hp.2.2.1
/-- Other blocks than the flag's. -/
theorem SE.only {w0 : World} {FB CB KB VB OB : Nat} {k om : Int} {vx : Value} {Ws : List ByteArray} {q : Bool} {w w' : World} {S : Nat → Prop} (h : SE w0 FB CB KB VB OB k om vx Ws q w) (ho : Only S w w') (hS : ∀ b, S b → w0.heap.size ≤ b ∧ b ≠ FB ∧ b ≠ CB ∧ b ≠ KB ∧ b ≠ VB ∧ b ≠ OB) : SE w0 FB CB KB VB OB k om vx Ws q w' := by
  have hc : ∀ c, c < w.heap.size → ¬ S c → w'.cell? ⟨c, 0, none⟩ = w.cell? ⟨c, 0, none⟩ := fun c h1 h2 => World.cell?_of_block (ho.block c h1 h2)
  have hs := ho.size
  exact ⟨(ho.block _ h.fl (fun q => (hS _ q).2.1 rfl)).trans h.fb, ⟨by rw [hc _ h.cb.2.1 (fun q => (hS _ q).2.2.1 rfl)]; exact h.cb.1, by have := h.cb.2.1; omega, h.cb.2.2⟩, ⟨by rw [hc _ h.kb.2.1 (fun q => (hS _ q).2.2.2.1 rfl)]; exact h.kb.1, by have := h.kb.2.1; omega, h.kb.2.2⟩, ⟨by rw [hc _ h.vb.2.1 (fun q => (hS _ q).2.2.2.2.1 rfl)]; exact h.vb.1, by have := h.vb.2.1; omega, h.vb.2.2⟩, ⟨by rw [hc _ h.ob.2.1 (fun q => (hS _ q).2.2.2.2.2 rfl)]; exact h.ob.1, by have := h.ob.2.1; omega, h.ob.2.2⟩, ho.below h.b (Nat.le_refl _) (fun j q => (hS _ q).1), h.lo, h.rd⟩
theorem SE.below {w0 : World} {FB CB KB VB OB : Nat} {k om : Int} {vx : Value} {Ws : List ByteArray} {q : Bool} {w w' : World} (h : SE w0 FB CB KB VB OB k om vx Ws q w) (hb : Below w.heap.size w w') : SE w0 FB CB KB VB OB k om vx Ws q w' := h.only (S := fun _ => False) (Only.of hb) (fun b q => q.elim)
/-- The flag falls. -/
theorem SE.flag {w0 : World} {FB CB KB VB OB : Nat} {k om : Int} {vx : Value} {Ws : List ByteArray} {q q' : Bool} {w : World} (h : SE w0 FB CB KB VB OB k om vx Ws q w) : SE w0 FB CB KB VB OB k om vx Ws q' (w.setCell ⟨FB, 0, none⟩ (.bool q')) := by
  have hc : ∀ c, c ≠ FB → (w.setCell ⟨FB, 0, none⟩ (.bool q')).cell? ⟨c, 0, none⟩ = w.cell? ⟨c, 0, none⟩ := fun c h1 => World.cell?_of_block (heap_set_other h1)
  have hs : (w.setCell ⟨FB, 0, none⟩ (.bool q')).heap.size = w.heap.size := by simp [World.setCell]
  exact ⟨heap_set h.fb, ⟨by rw [hc _ h.cb.2.2]; exact h.cb.1, by rw [hs]; exact h.cb.2.1, h.cb.2.2⟩, ⟨by rw [hc _ h.kb.2.2]; exact h.kb.1, by rw [hs]; exact h.kb.2.1, h.kb.2.2⟩, ⟨by rw [hc _ h.vb.2.2]; exact h.vb.1, by rw [hs]; exact h.vb.2.1, h.vb.2.2⟩, ⟨by rw [hc _ h.ob.2.2]; exact h.ob.1, by rw [hs]; exact h.ob.2.1, h.ob.2.2⟩, h.b.setCell (p := ⟨FB, 0, none⟩) h.lo _, h.lo, h.rd⟩
/-- What a closure of spelt leaves. -/
def ClQ (w0 : World) (FB CB KB VB OB : Nat) (k om : Int) (vx : Value) (Ws : List ByteArray) (q : Bool) (U : List UInt8) (w : World) (e : Ending) (w' : World) : Prop := e = .returned (.string (str U)) ∧ SE w0 FB CB KB VB OB k om vx Ws q w' ∧ Only (fun b => b = FB) w w'
theorem str_keep (x : ByteArray) : str (keep x.data.toList) = if 4096 < x.size then ⟨#[]⟩ else x := by
  unfold keep
  have : x.data.toList.length = x.size := by simp
  rw [this]
  split <;> rfl

set_option maxHeartbeats 1000000 in
set_option maxRecDepth 100000 in
theorem kept_any {w0 : World} {FB CB KB VB OB : Nat} {k om : Int} {vx : Value} {Ws : List ByteArray} {q : Bool} {w : World} (h : SE w0 FB CB KB VB OB k om vx Ws q w) (x : ByteArray) :
    Calls Try.prog 81 #[.string x, .pointer (some ⟨FB, 0, none⟩)] w (ClQ w0 FB CB KB VB OB k om vx Ws (q && decide (x.size ≤ 4096)) (keep x.data.toList) w) := by
  have H : Hid (SE w0 FB CB KB VB OB k om vx Ws q w) := h
  have hk := str_keep x
  have t0 : w.cell? ⟨FB, 0, none⟩ = some (.bool q) := cell_at h.fb rfl
  have tf : ∀ j, w.frozen? ⟨FB, j, none⟩ = false := fun j => froz_of h.fb
  unfold ClQ
  rw [hk]
  clear h hk
  by_cases hb : 4096 < x.size
  · have hbI : (4096 : Int) < x.size := by omega
    have hbd : decide ((4096 : Int) < x.size) = true := decide_eq_true hbI
    have e : (q && decide (x.size ≤ 4096)) = false := by rw [decide_eq_false (by omega)]; cases q <;> rfl
    rw [if_pos hb, e]
    clear hb e
    go_enter Try.func81, Try.ntmps81
    go_wp2_with fail
    go_ret
    exact ⟨rfl, H.out.flag, (Only.of (Below.refl _ _)).set rfl⟩
  · have hbI : ¬ (4096 : Int) < x.size := by omega
    have hbd : decide ((4096 : Int) < x.size) = false := decide_eq_false hbI
    have e : (q && decide (x.size ≤ 4096)) = q := by rw [decide_eq_true (by omega)]; cases q <;> rfl
    rw [if_neg hb, e]
    clear hb e
    go_enter Try.func81, Try.ntmps81
    go_wp2_with fail
    go_ret
    exact ⟨rfl, H.out, Only.of (Below.refl _ _)⟩

set_option maxHeartbeats 1000000 in
set_option maxRecDepth 100000 in
theorem sp2_any {w0 : World} {FB CB KB VB OB : Nat} {k om : Int} {vx : Value} {Ws : List ByteArray} {q : Bool} {w : World} (h : SE w0 FB CB KB VB OB k om vx Ws q w) : Calls Try.prog 82 #[] w (ClQ w0 FB CB KB VB OB k om vx Ws (q && spO Ws om .one) (spW Ws om .one) w) := by
  have H : Hid (SE w0 FB CB KB VB OB k om vx Ws (q && spO Ws om .one) w) := by
    show SE _ _ _ _ _ _ _ _ _ _ (q && true) _
    rw [Bool.and_true]
    exact h
  clear h
  go_enter Try.func82, Try.ntmps82
  go_wp2_with fail
  go_ret
  exact ⟨rfl, H.out, Only.of (Below.refl _ _)⟩

set_option maxHeartbeats 4000000 in
set_option maxRecDepth 100000 in
theorem sp3_any {w0 : World} {FB CB KB VB OB : Nat} {k om : Int} {vx : Value} {Ws : List ByteArray} {q : Bool} {w : World} (h : SE w0 FB CB KB VB OB k om vx Ws q w) (c : Nat) (hc : c < 256) (h0 : 0 ≤ plI c) (hn : (plI c).toNat < Ws.length) :
    Calls Try.prog 83 #[.int .u8 (c : Nat), .pointer (some ⟨CB, 0, none⟩), .pointer (some ⟨VB, 0, none⟩)] w (ClQ w0 FB CB KB VB OB k om vx Ws (q && spO Ws om (.var c)) (spW Ws om (.var c)) w) := by
  obtain ⟨a2, c2, rfl, hr⟩ := h.rd
  obtain ⟨p, hpp⟩ : ∃ p, (plI c).toNat = p := ⟨_, rfl⟩
  have hpl : plI c = (p : Nat) := by omega
  obtain ⟨g, o, e, hg, x1⟩ := hr (plI c).toNat hn
  obtain ⟨x, hx⟩ : ∃ x, Ws.getD (plI c).toNat ⟨#[]⟩ = x := ⟨_, rfl⟩
  rw [hx, hpp] at x1
  rw [hpp] at hn
  subst e
  have HP : Hid (some (⟨g, o, none⟩ : Addr) = some ⟨g, o, none⟩ ∧ g < w0.heap.size ∧ w0.cell? ⟨g, o + p, none⟩ = some (.string x) ∧ Value.slice (some ⟨g, o, none⟩) Ws.length c2 = .slice (some ⟨g, o, none⟩) Ws.length c2) := ⟨rfl, hg, x1, rfl⟩
  have HPL : Hid (∀ y, Calls Try.prog 80 #[.int .u8 (c : Nat)] y fun e w' => e = .returned (.int .i64 (p : Nat)) ∧ y = w') := fun y => by
    have := place_any c hc y
    rw [hpl] at this
    exact this
  have hwd : wdV Ws c = x.data.toList := by unfold wdV; rw [hx]
  have HWD : Hid (spW Ws om (.var c) = keep x.data.toList ∧ spO Ws om (.var c) = decide (x.size ≤ 4096)) := by
    show keep (wdV Ws c) = _ ∧ decide ((wdV Ws c).length ≤ 4096) = _
    rw [hwd]
    have : x.data.toList.length = x.size := by simp
    rw [this]
    exact ⟨rfl, rfl⟩
  have HKP : Hid (Calls Try.prog 81 #[.string x, .pointer (some ⟨FB, 0, none⟩)] w.drew (ClQ w0 FB CB KB VB OB k om (.slice (some ⟨g, o, none⟩) Ws.length c2) Ws (q && decide (x.size ≤ 4096)) (keep x.data.toList) w.drew)) := kept_any (h.below (Below.refl _ _).drew) x
  have S0 : w.drew.cell? ⟨CB, 0, none⟩ = some (.func (Fn.func 81) #[] #[.pointer (some ⟨FB, 0, none⟩)]) ∧ w.drew.cell? ⟨VB, 0, none⟩ = some (.slice (some ⟨g, o, none⟩) Ws.length c2) ∧ w.drew.cell? ⟨g, o + p, none⟩ = some (.string x) := ⟨h.cb.1, h.vb.1, h.row HP.out⟩
  have hnI : (p : Int) < Ws.length := by omega
  rw [HWD.out.1, HWD.out.2]
  clear h hr hx hwd x1 hpl
  go_enter Try.func83, Try.ntmps83
  go_upto_region 1 with fail
  refine wp_region_held_drew (S := fun y => y.cell? ⟨CB, 0, none⟩ = some (.func (Fn.func 81) #[] #[.pointer (some ⟨FB, 0, none⟩)]) ∧ y.cell? ⟨VB, 0, none⟩ = some (.slice (some ⟨g, o, none⟩) Ws.length c2) ∧ y.cell? ⟨g, o + p, none⟩ = some (.string x)) (by kernel_rfl) S0 (fun hH0 => ?_)
  clear S0
  refine wpAnyH_take (i := 0) (oi := { dst := some 5, op := Go.Op.load 93 (Go.Operand.tmp 1), type := 93, pos := "terms.go:137", after := #[], guard := none }) (v := .func (Fn.func 81) #[] #[.pointer (some ⟨FB, 0, none⟩)]) rfl (by kernel_rfl) (by kernel_rfl) (by kernel_rfl) (fun _ _ _ h => h) (Or.inl ⟨by rfl, ?_⟩) (by assumption) ?_
  · intro w' hS; obtain ⟨z0, z1, z2⟩ := hS; go_simp
  simp only [Act.put, List.setIfInBounds_toArray, List.set_cons_zero, List.set_cons_succ]
  refine wpAnyH_take (i := 1) (oi := { dst := some 6, op := Go.Op.load 47 (Go.Operand.tmp 2), type := 47, pos := "terms.go:137", after := #[], guard := none }) (v := .slice (some ⟨g, o, none⟩) Ws.length c2) rfl (by kernel_rfl) (by kernel_rfl) (by kernel_rfl) (fun _ _ _ h => h) (Or.inl ⟨by rfl, ?_⟩) (by assumption) ?_
  · intro w' hS; obtain ⟨z0, z1, z2⟩ := hS; go_simp
  simp only [Act.put, List.setIfInBounds_toArray, List.set_cons_zero, List.set_cons_succ]
  refine wpAnyH_take (i := 2) (oi := { dst := some 7, op := Go.Op.move (Go.Operand.tmp 0), type := 5, pos := "terms.go:137", after := #[], guard := none }) (v := ?_) rfl (by kernel_rfl) (by kernel_rfl) (by kernel_rfl) (fun _ _ _ h => h) (Or.inl ⟨by rfl, ?_⟩) (by assumption) ?_
  rotate_left
  · intro w' hS; go_simp; (try with_reducible rfl)
  simp only [Act.put, List.setIfInBounds_toArray, List.set_cons_zero, List.set_cons_succ]
  refine wpAnyH_ready (rs := [3]) (by kernel_rfl) (by simp) ?_
  refine AllReadyH.cons rfl (fun K hK => ?_) AllReadyH.nil
  go_simp
  refine (HPL.out _).mono ?_
  rintro e yy ⟨rfl, rfl⟩
  go_wp2_with fail
  refine hK.out _ _ hH0 (fun hH0 => ?_)
  clear hK K
  refine wpAnyH_take (i := 4) (oi := { dst := some 9, op := Go.Op.indexAddr 47 (Go.Operand.tmp 6) (Go.Operand.tmp 8), type := 0, pos := "terms.go:137", after := #[{ on := 1, ground := Go.Ground.data }, { on := 3, ground := Go.Ground.data }], guard := none }) (v := ?_) rfl (by kernel_rfl) (by kernel_rfl) (by kernel_rfl) (fun _ _ _ h => h) (Or.inl ⟨by rfl, ?_⟩) (by assumption) ?_
  rotate_left
  · intro w' hS; go_simp; (try with_reducible rfl)
  simp only [Act.put, List.setIfInBounds_toArray, List.set_cons_zero, List.set_cons_succ]
  refine wpAnyH_take (i := 5) (oi := { dst := some 10, op := Go.Op.load 9 (Go.Operand.tmp 9), type := 9, pos := "terms.go:137", after := #[{ on := 4, ground := Go.Ground.data }], guard := none }) (v := .string x) rfl (by kernel_rfl) (by kernel_rfl) (by kernel_rfl) (fun _ _ _ h => h) (Or.inl ⟨by rfl, ?_⟩) (by assumption) ?_
  · intro w' hS; obtain ⟨z0, z1, z2⟩ := hS; go_simp
  simp only [Act.put, List.setIfInBounds_toArray, List.set_cons_zero, List.set_cons_succ]
  refine wpAnyH_ready (rs := [6]) (by kernel_rfl) (by simp) ?_
  refine AllReadyH.cons rfl (fun K hK => ?_) AllReadyH.nil
  go_simp
  refine Calls.mono HKP.out ?_
  rintro e y1 ⟨rfl, h1, ho1⟩
  have HE1 : Hid _ := h1
  have HO1 : Hid (Only (fun b => b = FB) w y1) := (Only.of (Below.refl _ _).drew).trans ho1
  have hN : y1.cell? ⟨CB, 0, none⟩ = some (.func (Fn.func 81) #[] #[.pointer (some ⟨FB, 0, none⟩)]) ∧ y1.cell? ⟨VB, 0, none⟩ = some (.slice (some ⟨g, o, none⟩) Ws.length c2) ∧ y1.cell? ⟨g, o + p, none⟩ = some (.string x) := ⟨h1.cb.1, h1.vb.1, h1.row ⟨rfl, HP.out.2.1, HP.out.2.2.1, rfl⟩⟩
  clear h1 ho1
  go_wp2_with fail
  refine hK.out _ _ hN (fun hH1 => ?_)
  clear hN
  clear hK K
  refine wpAnyH_take (i := 7) (oi := { dst := some 4, op := Go.Op.assign (Go.Operand.tmp 11), type := 9, pos := "terms.go:137", after := #[{ on := 6, ground := Go.Ground.data }, { on := 6, ground := Go.Ground.chain }, { on := 0, ground := Go.Ground.phase }, { on := 1, ground := Go.Ground.phase }, { on := 2, ground := Go.Ground.phase }, { on := 3, ground := Go.Ground.phase }, { on := 4, ground := Go.Ground.phase }, { on := 5, ground := Go.Ground.phase }, { on := 6, ground := Go.Ground.phase }], guard := none }) (v := ?_) rfl (by kernel_rfl) (by kernel_rfl) (by kernel_rfl) (fun _ _ _ h => h) (Or.inl ⟨by rfl, ?_⟩) (by assumption) ?_
  rotate_left
  · intro w' hS; go_simp; (try with_reducible rfl)
  simp only [Act.put, List.setIfInBounds_toArray, List.set_cons_zero, List.set_cons_succ]
  refine wpAnyH_done (by kernel_rfl) ?_ _
  go_wp2_with fail
  go_ret
  exact ⟨rfl, HE1.out, HO1.out⟩

set_option maxHeartbeats 4000000 in
set_option maxRecDepth 100000 in
theorem sp4_any {w0 : World} {FB CB KB VB OB : Nat} {k om : Int} {vx : Value} {Ws : List ByteArray} {q : Bool} {w : World} (h : SE w0 FB CB KB VB OB k om vx Ws q w) (A B : List UInt8) (hA : A.length ≤ 4096) (hB : B.length ≤ 4096) :
    Calls Try.prog 84 #[.string (str A), .string (str B), .pointer (some ⟨CB, 0, none⟩)] w (ClQ w0 FB CB KB VB OB k om vx Ws (q && decide ((A ++ B).length ≤ 4096)) (keep (A ++ B)) w) := by
  have hab : str A ++ str B = str (A ++ B) := by
    unfold str
    apply ByteArray.ext
    rw [ByteArray.data_append]
    simp
  have hcat := cat_ok (X := str A) (L := str B) (by rw [str_size, str_size]; omega)
  rw [hab] at hcat
  have t0 := h.cb.1
  have HKP : Hid (Calls Try.prog 81 #[.string (str (A ++ B)), .pointer (some ⟨FB, 0, none⟩)] w (ClQ w0 FB CB KB VB OB k om vx Ws (q && decide ((A ++ B).length ≤ 4096)) (keep (A ++ B)) w)) := by
    have := kept_any h (str (A ++ B))
    rw [str_list, str_size] at this
    exact this
  clear h hab
  go_enter Try.func84, Try.ntmps84
  go_wp2_with fail
  refine Calls.mono HKP.out ?_
  rintro e y1 ⟨rfl, h1, ho1⟩
  have HE1 : Hid _ := h1
  have HO1 : Hid _ := ho1
  clear h1 ho1 t0
  go_wp2_with fail
  go_ret
  exact ⟨rfl, HE1.out, HO1.out⟩

set_option maxHeartbeats 4000000 in
set_option maxRecDepth 100000 in
theorem sp5_any {w0 : World} {FB CB KB VB OB : Nat} {k om : Int} {vx : Value} {Ws : List ByteArray} {q : Bool} {w : World} (h : SE w0 FB CB KB VB OB k om vx Ws q w) (t : Tm) (hk : chk k (str (spW Ws om t)) = 0) (hom : 1 ≤ om) :
    Calls Try.prog 85 #[.string (str (spW Ws om t)), .pointer (some ⟨KB, 0, none⟩), .pointer (some ⟨OB, 0, none⟩), .pointer (some ⟨FB, 0, none⟩)] w (ClQ w0 FB CB KB VB OB k om vx Ws (q && (decide (spW Ws om t = []) || decide (om ≤ 4096 / ((spW Ws om t).length : Int)))) (spW Ws om (.om t)) w) := by
  have H : Hid (SE w0 FB CB KB VB OB k om vx Ws q w) := h
  have hsp : spW Ws om (.om t) = if spW Ws om t = [] then [] else if 4096 / ((spW Ws om t).length : Int) < om then [] else powL (spW Ws om t) om.toNat := rfl
  rw [hsp]
  obtain ⟨U, hU⟩ : ∃ U, spW Ws om t = U := ⟨_, rfl⟩
  rw [hU] at hk ⊢
  have t0 := h.kb.1
  have t1 := h.ob.1
  clear hU hsp h
  have hno : ∀ U' : List UInt8, (q && (decide (U = []) || decide (om ≤ 4096 / (U.length : Int)))) = q → (U = [] ∧ U' = [] ∨ (U ≠ [] ∧ ¬ 4096 / (U.length : Int) < om ∧ U' = powL U om.toNat)) → Calls Try.prog 85 #[.string (str U), .pointer (some ⟨KB, 0, none⟩), .pointer (some ⟨OB, 0, none⟩), .pointer (some ⟨FB, 0, none⟩)] w (ClQ w0 FB CB KB VB OB k om vx Ws q U' w) := fun U' _ hc => by
    have HPW : Hid (Calls Try.prog 86 #[.int .i64 k, .string (str U), .int .i64 om] w fun e w' => e = .returned (.tuple #[.string (str U'), .int .i64 0]) ∧ Below w.heap.size w w') := by
      rcases hc with ⟨hU, rfl⟩ | ⟨h1, h2, rfl⟩
      · have := power_none k U om w hk (.inr (.inl hU))
        have e : powrE U om = 0 := by unfold powrE; rw [if_neg (by omega), if_pos hU]
        rw [e] at this
        exact this
      · obtain ⟨n, rfl⟩ : ∃ n : Nat, om = n := ⟨om.toNat, by omega⟩
        have hn : n ≤ 4096 / U.length := by
          have e : (4096 : Int) / (U.length : Int) = ((4096 / U.length : Nat) : Int) := by simp
          rw [e] at h2
          omega
        have := power_do k U n w hk h1 hn
        exact this
    clear hc hk
    go_enter Try.func85, Try.ntmps85
    go_wp2_with fail
    refine Calls.mono HPW.out ?_
    rintro e y1 ⟨rfl, hb⟩
    have HB : Hid (Below w.heap.size w y1) := hb
    clear hb t0 t1
    go_wp2_with fail
    go_ret
    exact ⟨rfl, H.out.below HB.out, Only.of HB.out⟩
  by_cases hU : U = []
  · rw [if_pos hU]
    have e : (q && (decide (U = []) || decide (om ≤ 4096 / (U.length : Int)))) = q := by rw [decide_eq_true hU]; cases q <;> rfl
    rw [e]
    exact hno [] e (.inl ⟨hU, rfl⟩)
  · rw [if_neg hU]
    by_cases hb : 4096 / (U.length : Int) < om
    · rw [if_pos hb]
      have e : (q && (decide (U = []) || decide (om ≤ 4096 / (U.length : Int)))) = false := by rw [decide_eq_false hU, decide_eq_false (by omega)]; cases q <;> rfl
      rw [e]
      have HPW : Hid (Calls Try.prog 86 #[.int .i64 k, .string (str U), .int .i64 om] w fun e w' => e = .returned (.tuple #[.string ⟨#[]⟩, .int .i64 6]) ∧ Below w.heap.size w w') := by
        have := power_none k U om w hk (.inr (.inr hb))
        have e : powrE U om = 6 := by unfold powrE; rw [if_neg (by omega), if_neg hU, if_pos hb]
        rw [e] at this
        exact this
      have HF : Hid (∀ y, Below w.heap.size w y → y.cell? ⟨FB, 0, none⟩ = some (.bool q) ∧ ∀ j, y.frozen? ⟨FB, j, none⟩ = false) := fun y hy => ⟨cell_at (H.out.below hy).fb rfl, fun j => froz_of (H.out.below hy).fb⟩
      clear hno hk hb hU e
      go_enter Try.func85, Try.ntmps85
      go_wp2_with fail
      refine Calls.mono HPW.out ?_
      rintro e y1 ⟨rfl, hb⟩
      have HB : Hid (Below w.heap.size w y1) := hb
      obtain ⟨f0, f1⟩ := HF.out y1 hb
      clear hb t0 t1
      go_wp2_with fail
      go_ret
      exact ⟨rfl, (H.out.below HB.out).flag, (Only.of HB.out).set rfl⟩
    · rw [if_neg hb]
      have e : (q && (decide (U = []) || decide (om ≤ 4096 / (U.length : Int)))) = q := by rw [decide_eq_true (show om ≤ 4096 / (U.length : Int) by omega)]; simp
      rw [e]
      exact hno _ e (.inr ⟨hU, hb, rfl⟩)
end Go.Proofs.Ythhlamehbcidgaa

namespace Go.Proofs.Ythhlamehbcidgaa
open Go Go.RowKit Go.Lib
set_option linter.unusedVariables false

/-- All boxes are others. -/
structure Dst (F SB MB NX FB CB KB VB OB : Nat) : Prop where
  f : FB ≠ F ∧ CB ≠ F ∧ KB ≠ F ∧ VB ≠ F ∧ OB ≠ F
  m : SB ≠ FB ∧ MB ≠ FB ∧ NX ≠ FB
/-- The walker of meaning[string]. -/
abbrev NTs (w0 : World) (FB CB KB VB OB : Nat) (k om : Int) (vx : Value) (Ws : List ByteArray) (F SB MB NX : Nat) (v : Value) (L : Sg) (q : Bool) (w : World) (n : Nat) : Prop := NT w0 w F SB MB NX (.func (Fn.func 82) #[] #[]) (.func (Fn.func 83) #[] #[.pointer (some ⟨CB, 0, none⟩), .pointer (some ⟨VB, 0, none⟩)]) (.func (Fn.func 84) #[] #[.pointer (some ⟨CB, 0, none⟩)]) (.func (Fn.func 85) #[] #[.pointer (some ⟨KB, 0, none⟩), .pointer (some ⟨OB, 0, none⟩), .pointer (some ⟨FB, 0, none⟩)]) (.func (Fn.func 109) #[] #[.pointer (some ⟨F, 0, none⟩), .pointer (some ⟨SB, 0, none⟩), .pointer (some ⟨MB, 0, none⟩), .pointer (some ⟨NX, 0, none⟩)]) v L n (SE w0 FB CB KB VB OB k om vx Ws q)
theorem NTs.over {w0 : World} {FB CB KB VB OB : Nat} {k om : Int} {vx : Value} {Ws : List ByteArray} {F SB MB NX : Nat} {v : Value} {L : Sg} {q q' : Bool} {w w' : World} {n m : Nat} (hD : Dst F SB MB NX FB CB KB VB OB) (h : NTs w0 FB CB KB VB OB k om vx Ws F SB MB NX v L q w n) (ho : Only (fun b => b = F ∨ b = FB) w w') (hf : w'.heap[F]? = some (.cells #[.int .i64 (m : Nat)] 3 (0, 0))) (hm : m ≤ L.length) (he : SE w0 FB CB KB VB OB k om vx Ws q' w') : NTs w0 FB CB KB VB OB k om vx Ws F SB MB NX v L q' w' m := by
  have hc : ∀ c o, c < w.heap.size → c ≠ F → c ≠ FB → w'.cell? ⟨c, o, none⟩ = w.cell? ⟨c, o, none⟩ := fun c o h1 h2 h3 => World.cell?_of_block (ho.block c h1 (fun z => z.elim h2 h3))
  have hs := ho.size
  exact ⟨hf, by rw [hc _ _ h.sl h.ne.1 hD.m.1]; exact h.sc, by rw [hc _ _ h.ml h.ne.2.1 hD.m.2.1]; exact h.c0, by rw [hc _ _ h.ml h.ne.2.1 hD.m.2.1]; exact h.c1, by rw [hc _ _ h.ml h.ne.2.1 hD.m.2.1]; exact h.c2, by rw [hc _ _ h.ml h.ne.2.1 hD.m.2.1]; exact h.c3, by rw [hc _ _ h.xl h.ne.2.2 hD.m.2.2]; exact h.xc, Nat.lt_of_lt_of_le h.sl hs, Nat.lt_of_lt_of_le h.ml hs, Nat.lt_of_lt_of_le h.xl hs, h.ne, ho.below h.b (Nat.le_refl _) (fun j e => by rcases e with e | e; (· rw [e]; exact h.lo); (· rw [e]; exact h.ex.lo)), h.lo, h.r, hm, he⟩
theorem NTs.ext {w0 : World} {FB CB KB VB OB : Nat} {k om : Int} {vx : Value} {Ws : List ByteArray} {F SB MB NX : Nat} {v : Value} {L : Sg} {q : Bool} {w w' : World} {n : Nat} (hD : Dst F SB MB NX FB CB KB VB OB) (h : NTs w0 FB CB KB VB OB k om vx Ws F SB MB NX v L q w n) (ho : Only (fun b => b = F) w w') : SE w0 FB CB KB VB OB k om vx Ws q w' :=
  h.ex.only ho (fun b e => by
    have := h.lo
    have d := hD.f
    exact ⟨by omega, by omega, by omega, by omega, by omega, by omega⟩)
theorem NTs.step {w0 : World} {FB CB KB VB OB : Nat} {k om : Int} {vx : Value} {Ws : List ByteArray} {F SB MB NX : Nat} {v : Value} {L : Sg} {q : Bool} {w : World} {n m : Nat} (hD : Dst F SB MB NX FB CB KB VB OB) (h : NTs w0 FB CB KB VB OB k om vx Ws F SB MB NX v L q w n) (hm : m ≤ L.length) : NTs w0 FB CB KB VB OB k om vx Ws F SB MB NX v L q (w.setCell ⟨F, 0, none⟩ (.int .i64 (m : Nat))) m :=
  h.over hD ((Only.of (S := fun b => b = F ∨ b = FB) (Below.refl w.heap.size w)).set (.inl rfl)) (heap_set h.f) hm (h.ext hD ((Only.of (S := fun b => b = F) (Below.refl w.heap.size w)).set rfl))
theorem NTs.call {w0 : World} {FB CB KB VB OB : Nat} {k om : Int} {vx : Value} {Ws : List ByteArray} {F SB MB NX : Nat} {v : Value} {L : Sg} {q : Bool} {w w' : World} {n : Nat} (hD : Dst F SB MB NX FB CB KB VB OB) (h : NTs w0 FB CB KB VB OB k om vx Ws F SB MB NX v L q w n) (hb : Below w.heap.size w w') : NTs w0 FB CB KB VB OB k om vx Ws F SB MB NX v L q w' n :=
  h.over hD (Only.of hb) ((hb.block _ h.fl).trans h.f) h.le (h.ex.below hb)
theorem NTs.flag {w0 : World} {FB CB KB VB OB : Nat} {k om : Int} {vx : Value} {Ws : List ByteArray} {F SB MB NX : Nat} {v : Value} {L : Sg} {q q' : Bool} {w w' : World} {n : Nat} (hD : Dst F SB MB NX FB CB KB VB OB) (h : NTs w0 FB CB KB VB OB k om vx Ws F SB MB NX v L q w n) (hu : SE w0 FB CB KB VB OB k om vx Ws q' w') (ho : Only (fun b => b = FB) w w') : NTs w0 FB CB KB VB OB k om vx Ws F SB MB NX v L q' w' n :=
  h.over hD (ho.mono (fun j _ h => .inr h)) ((ho.block _ h.fl (fun e => hD.f.1 e.symm)).trans h.f) h.le hu
/-- What its variables must be. -/
def VOK (k : Int) (Ws : List ByteArray) (t : Tm) : Prop := ∀ c, (2, c) ∈ t.sg → 0 ≤ plI c ∧ (plI c).toNat < Ws.length ∧ okW k (wdV Ws c)
theorem VOK.chk {k om : Int} {Ws : List ByteArray} {t : Tm} (h : VOK k Ws t) (h1 : 1 ≤ k) (h8 : k ≤ 8) : chk k (str (spW Ws om t)) = 0 := okW_chk h1 h8 (okW_sp t (fun c hc => (h c hc).2.2))
def NxW (t : Tm) : Prop := ∀ (w0 w : World) (F SB MB NX FB CB KB VB OB : Nat) (k om : Int) (v vx : Value) (Ws : List ByteArray) (X Y : Sg) (q : Bool), 1 ≤ k → k ≤ 8 → 1 ≤ om → Dst F SB MB NX FB CB KB VB OB → VOK k Ws t → ((X ++ t.sg) ++ Y).length ≤ 400 → NTs w0 FB CB KB VB OB k om vx Ws F SB MB NX v ((X ++ t.sg) ++ Y) q w (X.length + t.sg.length) →
  Calls Try.prog 109 #[.pointer (some ⟨F, 0, none⟩), .pointer (some ⟨SB, 0, none⟩), .pointer (some ⟨MB, 0, none⟩), .pointer (some ⟨NX, 0, none⟩)] w fun e w' => e = .returned (.string (str (spW Ws om t))) ∧ NTs w0 FB CB KB VB OB k om vx Ws F SB MB NX v ((X ++ t.sg) ++ Y) (q && spO Ws om t) w' X.length ∧ Only (fun b => b = F ∨ b = FB) w w'

set_option maxHeartbeats 8000000 in
set_option maxRecDepth 100000 in
theorem NxW_any : ∀ t : Tm, NxW t
  | .one => by
    intro w0 w F SB MB NX FB CB KB VB OB k om v vx Ws X Y q hk1 hk8 hom hD hV hLL h
    obtain ⟨L0, hL0⟩ : ∃ L0, (X ++ (Tm.one).sg) ++ Y = L0 := ⟨_, rfl⟩
    have hroot := root_at (Tm.one) X Y
    rw [show (Tm.one).root = (1, 0) from rfl] at hroot
    have hlen0 : L0.length = X.length + (Tm.one).sg.length + Y.length := by rw [← hL0, List.length_append, List.length_append]
    have hspos := (Tm.one).sg_pos
    rw [hL0] at h hroot hLL ⊢
    obtain ⟨n1, hn1⟩ : ∃ n1, X.length + (Tm.one).sg.length - 1 = n1 := ⟨_, rfl⟩
    obtain ⟨nX, hnX⟩ : ∃ nX, X.length = nX := ⟨_, rfl⟩
    have hnn : X.length + (Tm.one).sg.length = n1 + 1 := by omega
    have hn1l : n1 < L0.length := by omega
    rw [hn1] at hroot
    obtain ⟨nn, hn2⟩ : ∃ nn, n1 + 1 = nn := ⟨_, rfl⟩
    rw [hnn, hn2] at h
    rw [hnX]
    have XEQ : Hid (n1 = nX) := by
      show _ = _
      have h1 : (Tm.one).sg.length = 1 := rfl
      omega
    have HX : Hid (nX ≤ n1 ∧ n1 < L0.length ∧ L0.length ≤ 400) := by show _ ∧ _; omega
    have HD : Hid (Dst F SB MB NX FB CB KB VB OB) := hD
    obtain ⟨w1, hw1⟩ : ∃ w1, w1 = w.setCell ⟨F, 0, none⟩ (.int .i64 (n1 : Nat)) := ⟨_, rfl⟩
    have HW1 : Hid (w1 = w.setCell ⟨F, 0, none⟩ (.int .i64 (n1 : Nat))) := hw1
    have HFL : Hid (F < w.heap.size) := h.fl
    have HO1 : Hid (Only (fun b => b = F ∨ b = FB) w w1) := by show Only _ _ _; rw [hw1]; exact (Only.of (S := fun b => b = F ∨ b = FB) (Below.refl w.heap.size w)).set (.inl rfl)
    have HN1 : Hid (NTs w0 FB CB KB VB OB k om vx Ws F SB MB NX v L0 q w1 n1) := by show NT _ _ _ _ _ _ _ _ _ _ _ _ _ _ _; rw [hw1]; exact NTs.step hD h (by omega)
    have hs1 : w1.heap.size = w.heap.size := by rw [hw1]; simp [World.setCell]
    obtain ⟨a, cap, hv, hread⟩ := HN1.out.r.below HN1.out.b
    obtain ⟨g, o, hag, hg, hc1, hc2, hc3⟩ := hread n1 (by rw [intS_len]; exact hn1l)
    rw [intS_getD _ _ hn1l, hroot] at hc1 hc2 hc3
    have hlen : (intS L0).length = L0.length := intS_len L0
    rw [hlen] at hv
    subst hv hag
    have HCB : Hid ((1, 0).2 < 256) := hc3
    have f0 : w.cell? ⟨F, 0, none⟩ = some (.int .i64 (nn : Nat)) := cell_at h.f rfl
    have ff : ∀ j, w.frozen? ⟨F, j, none⟩ = false := fun j => froz_of h.f
    have hwr : IntKind.i64.wrap ((nn : Int) - 1) = (n1 : Int) := by rw [IntKind.wrap_i64]; omega
    have s0 : w1.cell? ⟨SB, 0, none⟩ = some (.slice (some ⟨g, o, none⟩) L0.length cap) := HN1.out.sc
    have fn1 : w1.cell? ⟨F, 0, none⟩ = some (.int .i64 (n1 : Int)) := cell_at HN1.out.f rfl
    have hnl : (n1 : Int) < L0.length := by omega
    obtain ⟨w2, hw2⟩ : ∃ w2, w2 = w1.alloc (.cells #[.int .i64 1, .int .u8 0] 81) := ⟨_, rfl⟩
    have HW2 : Hid (w2 = w1.alloc (.cells #[.int .i64 1, .int .u8 0] 81)) := hw2
    have hb2 : Below w1.heap.size w1 w2 := by rw [hw2]; exact below_new _ _
    have HN2 : Hid (NTs w0 FB CB KB VB OB k om vx Ws F SB MB NX (.slice (some ⟨g, o, none⟩) L0.length cap) L0 q w2 n1) := NTs.call hD HN1.out hb2
    have HO2 : Hid (Only (fun b => b = F ∨ b = FB) w w2) := HO1.out.trans (Only.of hb2)
    have x0 : w2.cell? ⟨w1.heap.size, 0, none⟩ = some (.int .i64 1) := by rw [hw2]; exact cell_at (heap_last _ _) rfl
    have x1 : w2.cell? ⟨w1.heap.size, 1, none⟩ = some (.int .u8 0) := by rw [hw2]; exact cell_at (heap_last _ _) rfl
    clear hw1 hw2 hb2 h hread hroot hL0 hc3 hlen hlen0 hspos hnn hn1 hn1l hn2 hLL hs1 hD
    have hm0 := HN2.out.c0
    have HCL : Hid _ := sp2_any HN2.out.ex
    go_enter Try.func109, Try.ntmps109
    go_upto_region 2 with fail
    rw [← HW1.out]
    clear f0 ff HW1
    go_upto_region 3 with fail
    rw [← HW2.out]
    clear s0 fn1 HW2 hc1 hc2
    go_wp2_with fail
    refine Calls.mono HCL.out ?_
    clear hm0
    rintro e y2 ⟨rfl, hu, ho⟩
    have HOV : Hid (Only (fun b => b = F ∨ b = FB) w y2) := HO2.out.trans (ho.mono (fun j _ h => .inr h))
    have HNV : Hid (NTs w0 FB CB KB VB OB k om vx Ws F SB MB NX (.slice (some ⟨g, o, none⟩) L0.length cap) L0 _ y2 n1) := NTs.flag HD.out HN2.out hu ho
    clear hu ho x0 x1 HCL
    go_wp2_with fail
    go_ret
    exact ⟨rfl, by have := HNV.out; rw [XEQ.out] at this; exact this, HOV.out⟩
  | .var c => by
    intro w0 w F SB MB NX FB CB KB VB OB k om v vx Ws X Y q hk1 hk8 hom hD hV hLL h
    obtain ⟨L0, hL0⟩ : ∃ L0, (X ++ (Tm.var c).sg) ++ Y = L0 := ⟨_, rfl⟩
    have hroot := root_at (Tm.var c) X Y
    rw [show (Tm.var c).root = (2, c) from rfl] at hroot
    have hlen0 : L0.length = X.length + (Tm.var c).sg.length + Y.length := by rw [← hL0, List.length_append, List.length_append]
    have hspos := (Tm.var c).sg_pos
    rw [hL0] at h hroot hLL ⊢
    obtain ⟨n1, hn1⟩ : ∃ n1, X.length + (Tm.var c).sg.length - 1 = n1 := ⟨_, rfl⟩
    obtain ⟨nX, hnX⟩ : ∃ nX, X.length = nX := ⟨_, rfl⟩
    have hnn : X.length + (Tm.var c).sg.length = n1 + 1 := by omega
    have hn1l : n1 < L0.length := by omega
    rw [hn1] at hroot
    obtain ⟨nn, hn2⟩ : ∃ nn, n1 + 1 = nn := ⟨_, rfl⟩
    rw [hnn, hn2] at h
    rw [hnX]
    have XEQ : Hid (n1 = nX) := by
      show _ = _
      have h1 : (Tm.var c).sg.length = 1 := rfl
      omega
    have HX : Hid (nX ≤ n1 ∧ n1 < L0.length ∧ L0.length ≤ 400) := by show _ ∧ _; omega
    have HD : Hid (Dst F SB MB NX FB CB KB VB OB) := hD
    obtain ⟨w1, hw1⟩ : ∃ w1, w1 = w.setCell ⟨F, 0, none⟩ (.int .i64 (n1 : Nat)) := ⟨_, rfl⟩
    have HW1 : Hid (w1 = w.setCell ⟨F, 0, none⟩ (.int .i64 (n1 : Nat))) := hw1
    have HFL : Hid (F < w.heap.size) := h.fl
    have HO1 : Hid (Only (fun b => b = F ∨ b = FB) w w1) := by show Only _ _ _; rw [hw1]; exact (Only.of (S := fun b => b = F ∨ b = FB) (Below.refl w.heap.size w)).set (.inl rfl)
    have HN1 : Hid (NTs w0 FB CB KB VB OB k om vx Ws F SB MB NX v L0 q w1 n1) := by show NT _ _ _ _ _ _ _ _ _ _ _ _ _ _ _; rw [hw1]; exact NTs.step hD h (by omega)
    have hs1 : w1.heap.size = w.heap.size := by rw [hw1]; simp [World.setCell]
    obtain ⟨a, cap, hv, hread⟩ := HN1.out.r.below HN1.out.b
    obtain ⟨g, o, hag, hg, hc1, hc2, hc3⟩ := hread n1 (by rw [intS_len]; exact hn1l)
    rw [intS_getD _ _ hn1l, hroot] at hc1 hc2 hc3
    have hlen : (intS L0).length = L0.length := intS_len L0
    rw [hlen] at hv
    subst hv hag
    have HCB : Hid ((2, c).2 < 256) := hc3
    have f0 : w.cell? ⟨F, 0, none⟩ = some (.int .i64 (nn : Nat)) := cell_at h.f rfl
    have ff : ∀ j, w.frozen? ⟨F, j, none⟩ = false := fun j => froz_of h.f
    have hwr : IntKind.i64.wrap ((nn : Int) - 1) = (n1 : Int) := by rw [IntKind.wrap_i64]; omega
    have s0 : w1.cell? ⟨SB, 0, none⟩ = some (.slice (some ⟨g, o, none⟩) L0.length cap) := HN1.out.sc
    have fn1 : w1.cell? ⟨F, 0, none⟩ = some (.int .i64 (n1 : Int)) := cell_at HN1.out.f rfl
    have hnl : (n1 : Int) < L0.length := by omega
    obtain ⟨w2, hw2⟩ : ∃ w2, w2 = w1.alloc (.cells #[.int .i64 2, .int .u8 (c : Nat)] 81) := ⟨_, rfl⟩
    have HW2 : Hid (w2 = w1.alloc (.cells #[.int .i64 2, .int .u8 (c : Nat)] 81)) := hw2
    have hb2 : Below w1.heap.size w1 w2 := by rw [hw2]; exact below_new _ _
    have HN2 : Hid (NTs w0 FB CB KB VB OB k om vx Ws F SB MB NX (.slice (some ⟨g, o, none⟩) L0.length cap) L0 q w2 n1) := NTs.call hD HN1.out hb2
    have HO2 : Hid (Only (fun b => b = F ∨ b = FB) w w2) := HO1.out.trans (Only.of hb2)
    have x0 : w2.cell? ⟨w1.heap.size, 0, none⟩ = some (.int .i64 2) := by rw [hw2]; exact cell_at (heap_last _ _) rfl
    have x1 : w2.cell? ⟨w1.heap.size, 1, none⟩ = some (.int .u8 (c : Nat)) := by rw [hw2]; exact cell_at (heap_last _ _) rfl
    clear hw1 hw2 hb2 h hread hroot hL0 hc3 hlen hlen0 hspos hnn hn1 hn1l hn2 hLL hs1 hD
    have hm0 := HN2.out.c1
    have HCL : Hid _ := sp3_any HN2.out.ex c HCB.out (hV c (List.mem_singleton.2 rfl)).1 (hV c (List.mem_singleton.2 rfl)).2.1
    go_enter Try.func109, Try.ntmps109
    go_upto_region 2 with fail
    rw [← HW1.out]
    clear f0 ff HW1
    go_upto_region 3 with fail
    rw [← HW2.out]
    clear s0 fn1 HW2 hc1 hc2
    go_wp2_with fail
    refine Calls.mono HCL.out ?_
    clear hm0
    rintro e y2 ⟨rfl, hu, ho⟩
    have HOV : Hid (Only (fun b => b = F ∨ b = FB) w y2) := HO2.out.trans (ho.mono (fun j _ h => .inr h))
    have HNV : Hid (NTs w0 FB CB KB VB OB k om vx Ws F SB MB NX (.slice (some ⟨g, o, none⟩) L0.length cap) L0 _ y2 n1) := NTs.flag HD.out HN2.out hu ho
    clear hu ho x0 x1 HCL
    go_wp2_with fail
    go_ret
    exact ⟨rfl, by have := HNV.out; rw [XEQ.out] at this; exact this, HOV.out⟩
  | .om t => by
    have IH : Hid (NxW t) := NxW_any t
    intro w0 w F SB MB NX FB CB KB VB OB k om v vx Ws X Y q hk1 hk8 hom hD hV hLL h
    obtain ⟨L0, hL0⟩ : ∃ L0, (X ++ (Tm.om t).sg) ++ Y = L0 := ⟨_, rfl⟩
    have hroot := root_at (Tm.om t) X Y
    rw [show (Tm.om t).root = (4, 0) from rfl] at hroot
    have hlen0 : L0.length = X.length + (Tm.om t).sg.length + Y.length := by rw [← hL0, List.length_append, List.length_append]
    have hspos := (Tm.om t).sg_pos
    have eL := om_at t X Y
    rw [hL0] at eL
    have HEL : Hid (L0 = (X ++ t.sg) ++ ((4, 0) :: Y)) := eL
    clear eL
    rw [hL0] at h hroot hLL ⊢
    obtain ⟨n1, hn1⟩ : ∃ n1, X.length + (Tm.om t).sg.length - 1 = n1 := ⟨_, rfl⟩
    obtain ⟨nX, hnX⟩ : ∃ nX, X.length = nX := ⟨_, rfl⟩
    have hnn : X.length + (Tm.om t).sg.length = n1 + 1 := by omega
    have hn1l : n1 < L0.length := by omega
    rw [hn1] at hroot
    obtain ⟨nn, hn2⟩ : ∃ nn, n1 + 1 = nn := ⟨_, rfl⟩
    rw [hnn, hn2] at h
    rw [hnX]
    have HNXL : Hid (X.length = nX) := hnX
    have HLT : Hid (nX + t.sg.length = n1) := by show _ = _; rw [om_len] at hnn; omega
    have HX : Hid (nX ≤ n1 ∧ n1 < L0.length ∧ L0.length ≤ 400) := by show _ ∧ _; omega
    have HD : Hid (Dst F SB MB NX FB CB KB VB OB) := hD
    obtain ⟨w1, hw1⟩ : ∃ w1, w1 = w.setCell ⟨F, 0, none⟩ (.int .i64 (n1 : Nat)) := ⟨_, rfl⟩
    have HW1 : Hid (w1 = w.setCell ⟨F, 0, none⟩ (.int .i64 (n1 : Nat))) := hw1
    have HFL : Hid (F < w.heap.size) := h.fl
    have HO1 : Hid (Only (fun b => b = F ∨ b = FB) w w1) := by show Only _ _ _; rw [hw1]; exact (Only.of (S := fun b => b = F ∨ b = FB) (Below.refl w.heap.size w)).set (.inl rfl)
    have HN1 : Hid (NTs w0 FB CB KB VB OB k om vx Ws F SB MB NX v L0 q w1 n1) := by show NT _ _ _ _ _ _ _ _ _ _ _ _ _ _ _; rw [hw1]; exact NTs.step hD h (by omega)
    have hs1 : w1.heap.size = w.heap.size := by rw [hw1]; simp [World.setCell]
    obtain ⟨a, cap, hv, hread⟩ := HN1.out.r.below HN1.out.b
    obtain ⟨g, o, hag, hg, hc1, hc2, hc3⟩ := hread n1 (by rw [intS_len]; exact hn1l)
    rw [intS_getD _ _ hn1l, hroot] at hc1 hc2 hc3
    have hlen : (intS L0).length = L0.length := intS_len L0
    rw [hlen] at hv
    subst hv hag
    have HCB : Hid ((4, 0).2 < 256) := hc3
    have f0 : w.cell? ⟨F, 0, none⟩ = some (.int .i64 (nn : Nat)) := cell_at h.f rfl
    have ff : ∀ j, w.frozen? ⟨F, j, none⟩ = false := fun j => froz_of h.f
    have hwr : IntKind.i64.wrap ((nn : Int) - 1) = (n1 : Int) := by rw [IntKind.wrap_i64]; omega
    have s0 : w1.cell? ⟨SB, 0, none⟩ = some (.slice (some ⟨g, o, none⟩) L0.length cap) := HN1.out.sc
    have fn1 : w1.cell? ⟨F, 0, none⟩ = some (.int .i64 (n1 : Int)) := cell_at HN1.out.f rfl
    have hnl : (n1 : Int) < L0.length := by omega
    obtain ⟨w2, hw2⟩ : ∃ w2, w2 = w1.alloc (.cells #[.int .i64 4, .int .u8 0] 81) := ⟨_, rfl⟩
    have HW2 : Hid (w2 = w1.alloc (.cells #[.int .i64 4, .int .u8 0] 81)) := hw2
    have hb2 : Below w1.heap.size w1 w2 := by rw [hw2]; exact below_new _ _
    have HN2 : Hid (NTs w0 FB CB KB VB OB k om vx Ws F SB MB NX (.slice (some ⟨g, o, none⟩) L0.length cap) L0 q w2 n1) := NTs.call hD HN1.out hb2
    have HO2 : Hid (Only (fun b => b = F ∨ b = FB) w w2) := HO1.out.trans (Only.of hb2)
    have x0 : w2.cell? ⟨w1.heap.size, 0, none⟩ = some (.int .i64 4) := by rw [hw2]; exact cell_at (heap_last _ _) rfl
    have x1 : w2.cell? ⟨w1.heap.size, 1, none⟩ = some (.int .u8 0) := by rw [hw2]; exact cell_at (heap_last _ _) rfl
    clear hw1 hw2 hb2 h hread hroot hL0 hc3 hlen hlen0 hspos hnn hn1 hn1l hn2 hLL hs1 hD
    have hVt : VOK k Ws t := fun c hc => hV c (by show _ ∈ t.sg ++ _; simp [hc])
    have HCK : Hid (chk k (str (spW Ws om t)) = 0) := hVt.chk hk1 hk8
    have HOM : Hid (1 ≤ om) := hom
    have HB20 : Hid (Below w2.heap.size w2 w2.drew) := (Below.refl _ _).drew
    have HND : Hid (NTs w0 FB CB KB VB OB k om vx Ws F SB MB NX (.slice (some ⟨g, o, none⟩) L0.length cap) L0 q w2.drew n1) := NTs.call HD.out HN2.out HB20.out
    have HNX : Hid (Calls Try.prog 109 #[.pointer (some ⟨F, 0, none⟩), .pointer (some ⟨SB, 0, none⟩), .pointer (some ⟨MB, 0, none⟩), .pointer (some ⟨NX, 0, none⟩)] w2.drew fun e w' => e = .returned (.string (str (spW Ws om (t)))) ∧ NTs w0 FB CB KB VB OB k om vx Ws F SB MB NX (.slice (some ⟨g, o, none⟩) L0.length cap) L0 (q && spO Ws om (t)) w' nX ∧ Only (fun b => b = F ∨ b = FB) w2.drew w') := by
      have z := IH.out w0 w2.drew F SB MB NX FB CB KB VB OB k om (.slice (some ⟨g, o, none⟩) L0.length cap) vx Ws X ((4, 0) :: Y) q hk1 hk8 hom HD.out hVt (by rw [← HEL.out]; exact HX.out.2.2) (by rw [← HEL.out, HNXL.out, HLT.out]; exact HND.out)
      rw [← HEL.out, HNXL.out] at z
      exact z
    have S0 : w2.drew.cell? ⟨MB, 3, none⟩ = some (.func (Fn.func 85) #[] #[.pointer (some ⟨KB, 0, none⟩), .pointer (some ⟨OB, 0, none⟩), .pointer (some ⟨FB, 0, none⟩)]) ∧ w2.drew.cell? ⟨NX, 0, none⟩ = some (.func (Fn.func 109) #[] #[.pointer (some ⟨F, 0, none⟩), .pointer (some ⟨SB, 0, none⟩), .pointer (some ⟨MB, 0, none⟩), .pointer (some ⟨NX, 0, none⟩)]) := ⟨HND.out.c3, HND.out.xc⟩
    go_enter Try.func109, Try.ntmps109
    go_upto_region 2 with fail
    rw [← HW1.out]
    clear f0 ff HW1
    go_upto_region 3 with fail
    rw [← HW2.out]
    clear s0 fn1 HW2 hc1 hc2
    go_upto_region 9 with fail
    clear x0 x1
    refine wp_region_held_drew (S := fun y => y.cell? ⟨MB, 3, none⟩ = some (.func (Fn.func 85) #[] #[.pointer (some ⟨KB, 0, none⟩), .pointer (some ⟨OB, 0, none⟩), .pointer (some ⟨FB, 0, none⟩)]) ∧ y.cell? ⟨NX, 0, none⟩ = some (.func (Fn.func 109) #[] #[.pointer (some ⟨F, 0, none⟩), .pointer (some ⟨SB, 0, none⟩), .pointer (some ⟨MB, 0, none⟩), .pointer (some ⟨NX, 0, none⟩)])) (by kernel_rfl) S0 (fun hH0 => ?_)
    clear S0
    refine wpAnyH_take (i := 0) (oi := { dst := some 29, op := Go.Op.fieldAddr 129 (Go.Operand.tmp 2) 3, type := 0, pos := "side.go:111", after := #[], guard := none }) (v := ?_) rfl (by kernel_rfl) (by kernel_rfl) (by kernel_rfl) (fun _ _ _ h => h) (Or.inl ⟨by rfl, ?_⟩) (by assumption) ?_
    rotate_left
    · intro w' hS; go_simp; (try with_reducible rfl)
    simp only [Act.put, List.setIfInBounds_toArray, List.set_cons_zero, List.set_cons_succ]
    refine wpAnyH_take (i := 1) (oi := { dst := some 30, op := Go.Op.load 93 (Go.Operand.tmp 29), type := 93, pos := "side.go:111", after := #[{ on := 0, ground := Go.Ground.data }], guard := none }) (v := .func (Fn.func 85) #[] #[.pointer (some ⟨KB, 0, none⟩), .pointer (some ⟨OB, 0, none⟩), .pointer (some ⟨FB, 0, none⟩)]) rfl (by kernel_rfl) (by kernel_rfl) (by kernel_rfl) (fun _ _ _ h => h) (Or.inl ⟨by rfl, ?_⟩) (by assumption) ?_
    · intro w' hS; obtain ⟨z0, z1⟩ := hS; go_simp
    simp only [Act.put, List.setIfInBounds_toArray, List.set_cons_zero, List.set_cons_succ]
    refine wpAnyH_take (i := 2) (oi := { dst := some 31, op := Go.Op.load 108 (Go.Operand.tmp 3), type := 108, pos := "side.go:111", after := #[], guard := none }) (v := .func (Fn.func 109) #[] #[.pointer (some ⟨F, 0, none⟩), .pointer (some ⟨SB, 0, none⟩), .pointer (some ⟨MB, 0, none⟩), .pointer (some ⟨NX, 0, none⟩)]) rfl (by kernel_rfl) (by kernel_rfl) (by kernel_rfl) (fun _ _ _ h => h) (Or.inl ⟨by rfl, ?_⟩) (by assumption) ?_
    · intro w' hS; obtain ⟨z0, z1⟩ := hS; go_simp
    simp only [Act.put, List.setIfInBounds_toArray, List.set_cons_zero, List.set_cons_succ]
    refine wpAnyH_ready (rs := [3]) (by kernel_rfl) (by simp) ?_
    refine AllReadyH.cons rfl (fun K hK => ?_) AllReadyH.nil
    go_simp
    refine Calls.mono HNX.out ?_
    rintro e y1 ⟨rfl, hn1, ho1⟩
    have HN3 : Hid (NTs w0 FB CB KB VB OB k om vx Ws F SB MB NX (.slice (some ⟨g, o, none⟩) L0.length cap) L0 (q && spO Ws om t) y1 nX) := hn1
    have HO3 : Hid (Only (fun b => b = F ∨ b = FB) w y1) := HO2.out.trans ((Only.of (Below.refl _ _).drew).trans ho1)
    have hN : y1.cell? ⟨MB, 3, none⟩ = some (.func (Fn.func 85) #[] #[.pointer (some ⟨KB, 0, none⟩), .pointer (some ⟨OB, 0, none⟩), .pointer (some ⟨FB, 0, none⟩)]) ∧ y1.cell? ⟨NX, 0, none⟩ = some (.func (Fn.func 109) #[] #[.pointer (some ⟨F, 0, none⟩), .pointer (some ⟨SB, 0, none⟩), .pointer (some ⟨MB, 0, none⟩), .pointer (some ⟨NX, 0, none⟩)]) := ⟨hn1.c3, hn1.xc⟩
    have HC9 : Hid _ := sp5_any hn1.ex t HCK.out HOM.out
    clear hn1 ho1
    go_wp2_with fail
    refine hK.out _ _ hN (fun hH1 => ?_)
    clear hN
    clear hK K
    refine wpAnyH_ready (rs := [4]) (by kernel_rfl) (by simp) ?_
    refine AllReadyH.cons rfl (fun K hK => ?_) AllReadyH.nil
    go_simp
    refine Calls.mono HC9.out ?_
    rintro e y2 ⟨rfl, hu, ho⟩
    have HOV : Hid (Only (fun b => b = F ∨ b = FB) w y2) := HO3.out.trans (ho.mono (fun j _ h => .inr h))
    have HNV : Hid (NTs w0 FB CB KB VB OB k om vx Ws F SB MB NX (.slice (some ⟨g, o, none⟩) L0.length cap) L0 _ y2 nX) := NTs.flag HD.out HN3.out hu ho
    have hN : y2.cell? ⟨MB, 3, none⟩ = some (.func (Fn.func 85) #[] #[.pointer (some ⟨KB, 0, none⟩), .pointer (some ⟨OB, 0, none⟩), .pointer (some ⟨FB, 0, none⟩)]) ∧ y2.cell? ⟨NX, 0, none⟩ = some (.func (Fn.func 109) #[] #[.pointer (some ⟨F, 0, none⟩), .pointer (some ⟨SB, 0, none⟩), .pointer (some ⟨MB, 0, none⟩), .pointer (some ⟨NX, 0, none⟩)]) := ⟨HNV.out.c3, HNV.out.xc⟩
    clear hu ho HC9
    go_wp2_with fail
    refine hK.out _ _ hN (fun hH2 => ?_)
    clear hN
    clear hK K
    refine wpAnyH_take (i := 5) (oi := { dst := some 4, op := Go.Op.assign (Go.Operand.tmp 33), type := 9, pos := "side.go:111", after := #[{ on := 4, ground := Go.Ground.data }, { on := 4, ground := Go.Ground.chain }, { on := 0, ground := Go.Ground.phase }, { on := 1, ground := Go.Ground.phase }, { on := 2, ground := Go.Ground.phase }, { on := 3, ground := Go.Ground.phase }, { on := 4, ground := Go.Ground.phase }], guard := none }) (v := ?_) rfl (by kernel_rfl) (by kernel_rfl) (by kernel_rfl) (fun _ _ _ h => h) (Or.inl ⟨by rfl, ?_⟩) (by assumption) ?_
    rotate_left
    · intro w' hS; go_simp; (try with_reducible rfl)
    simp only [Act.put, List.setIfInBounds_toArray, List.set_cons_zero, List.set_cons_succ]
    refine wpAnyH_done (by kernel_rfl) ?_ _
    go_wp2_with fail
    go_ret
    exact ⟨rfl, by have := HNV.out; rw [Bool.and_assoc] at this; exact this, HOV.out⟩
  | .mul a b => by
    have IHA : Hid (NxW a) := NxW_any a
    have IHB : Hid (NxW b) := NxW_any b
    intro w0 w F SB MB NX FB CB KB VB OB k om v vx Ws X Y q hk1 hk8 hom hD hV hLL h
    obtain ⟨L0, hL0⟩ : ∃ L0, (X ++ (Tm.mul a b).sg) ++ Y = L0 := ⟨_, rfl⟩
    have hroot := root_at (Tm.mul a b) X Y
    rw [show (Tm.mul a b).root = (3, 0) from rfl] at hroot
    have hlen0 : L0.length = X.length + (Tm.mul a b).sg.length + Y.length := by rw [← hL0, List.length_append, List.length_append]
    have hspos := (Tm.mul a b).sg_pos
    have eL := mul_at a b X Y
    have eL2 := mul_at' a b X Y
    rw [hL0] at eL eL2
    have HEL : Hid (L0 = ((X ++ a.sg) ++ b.sg) ++ ((3, 0) :: Y)) := eL
    have HEL2 : Hid (L0 = (X ++ a.sg) ++ (b.sg ++ ((3, 0) :: Y))) := eL2
    clear eL eL2
    rw [hL0] at h hroot hLL ⊢
    obtain ⟨n1, hn1⟩ : ∃ n1, X.length + (Tm.mul a b).sg.length - 1 = n1 := ⟨_, rfl⟩
    obtain ⟨nX, hnX⟩ : ∃ nX, X.length = nX := ⟨_, rfl⟩
    have hnn : X.length + (Tm.mul a b).sg.length = n1 + 1 := by omega
    have hn1l : n1 < L0.length := by omega
    rw [hn1] at hroot
    obtain ⟨nn, hn2⟩ : ∃ nn, n1 + 1 = nn := ⟨_, rfl⟩
    rw [hnn, hn2] at h
    rw [hnX]
    obtain ⟨nA, hnA⟩ : ∃ nA, (X ++ a.sg).length = nA := ⟨_, rfl⟩
    have HNXL : Hid (X.length = nX) := hnX
    have HNAL : Hid ((X ++ a.sg).length = nA) := hnA
    have HLA : Hid (nX + a.sg.length = nA) := by show _ = _; rw [List.length_append] at hnA; omega
    have HLB : Hid (nA + b.sg.length = n1) := by show _ = _; rw [List.length_append] at hnA; rw [mul_len] at hnn; omega
    clear hnA
    have HX : Hid (nX ≤ n1 ∧ n1 < L0.length ∧ L0.length ≤ 400) := by show _ ∧ _; omega
    have HD : Hid (Dst F SB MB NX FB CB KB VB OB) := hD
    obtain ⟨w1, hw1⟩ : ∃ w1, w1 = w.setCell ⟨F, 0, none⟩ (.int .i64 (n1 : Nat)) := ⟨_, rfl⟩
    have HW1 : Hid (w1 = w.setCell ⟨F, 0, none⟩ (.int .i64 (n1 : Nat))) := hw1
    have HFL : Hid (F < w.heap.size) := h.fl
    have HO1 : Hid (Only (fun b => b = F ∨ b = FB) w w1) := by show Only _ _ _; rw [hw1]; exact (Only.of (S := fun b => b = F ∨ b = FB) (Below.refl w.heap.size w)).set (.inl rfl)
    have HN1 : Hid (NTs w0 FB CB KB VB OB k om vx Ws F SB MB NX v L0 q w1 n1) := by show NT _ _ _ _ _ _ _ _ _ _ _ _ _ _ _; rw [hw1]; exact NTs.step hD h (by omega)
    have hs1 : w1.heap.size = w.heap.size := by rw [hw1]; simp [World.setCell]
    obtain ⟨a, cap, hv, hread⟩ := HN1.out.r.below HN1.out.b
    obtain ⟨g, o, hag, hg, hc1, hc2, hc3⟩ := hread n1 (by rw [intS_len]; exact hn1l)
    rw [intS_getD _ _ hn1l, hroot] at hc1 hc2 hc3
    have hlen : (intS L0).length = L0.length := intS_len L0
    rw [hlen] at hv
    subst hv hag
    have HCB : Hid ((3, 0).2 < 256) := hc3
    have f0 : w.cell? ⟨F, 0, none⟩ = some (.int .i64 (nn : Nat)) := cell_at h.f rfl
    have ff : ∀ j, w.frozen? ⟨F, j, none⟩ = false := fun j => froz_of h.f
    have hwr : IntKind.i64.wrap ((nn : Int) - 1) = (n1 : Int) := by rw [IntKind.wrap_i64]; omega
    have s0 : w1.cell? ⟨SB, 0, none⟩ = some (.slice (some ⟨g, o, none⟩) L0.length cap) := HN1.out.sc
    have fn1 : w1.cell? ⟨F, 0, none⟩ = some (.int .i64 (n1 : Int)) := cell_at HN1.out.f rfl
    have hnl : (n1 : Int) < L0.length := by omega
    obtain ⟨w2, hw2⟩ : ∃ w2, w2 = w1.alloc (.cells #[.int .i64 3, .int .u8 0] 81) := ⟨_, rfl⟩
    have HW2 : Hid (w2 = w1.alloc (.cells #[.int .i64 3, .int .u8 0] 81)) := hw2
    have hb2 : Below w1.heap.size w1 w2 := by rw [hw2]; exact below_new _ _
    have HN2 : Hid (NTs w0 FB CB KB VB OB k om vx Ws F SB MB NX (.slice (some ⟨g, o, none⟩) L0.length cap) L0 q w2 n1) := NTs.call hD HN1.out hb2
    have HO2 : Hid (Only (fun b => b = F ∨ b = FB) w w2) := HO1.out.trans (Only.of hb2)
    have x0 : w2.cell? ⟨w1.heap.size, 0, none⟩ = some (.int .i64 3) := by rw [hw2]; exact cell_at (heap_last _ _) rfl
    have x1 : w2.cell? ⟨w1.heap.size, 1, none⟩ = some (.int .u8 0) := by rw [hw2]; exact cell_at (heap_last _ _) rfl
    clear hw1 hw2 hb2 h hread hroot hL0 hc3 hlen hlen0 hspos hnn hn1 hn1l hn2 hLL hs1 hD
    have hVa : VOK k Ws a := fun c hc => hV c (by show _ ∈ (a.sg ++ b.sg) ++ _; simp [hc])
    have hVb : VOK k Ws b := fun c hc => hV c (by show _ ∈ (a.sg ++ b.sg) ++ _; simp [hc])
    have HOM : Hid (1 ≤ om) := hom
    have HNXB : Hid (Calls Try.prog 109 #[.pointer (some ⟨F, 0, none⟩), .pointer (some ⟨SB, 0, none⟩), .pointer (some ⟨MB, 0, none⟩), .pointer (some ⟨NX, 0, none⟩)] w2 fun e w' => e = .returned (.string (str (spW Ws om (b)))) ∧ NTs w0 FB CB KB VB OB k om vx Ws F SB MB NX (.slice (some ⟨g, o, none⟩) L0.length cap) L0 (q && spO Ws om (b)) w' nA ∧ Only (fun b => b = F ∨ b = FB) w2 w') := by
      have z := IHB.out w0 w2 F SB MB NX FB CB KB VB OB k om (.slice (some ⟨g, o, none⟩) L0.length cap) vx Ws (X ++ a.sg) ((3, 0) :: Y) q hk1 hk8 hom HD.out hVb (by rw [← HEL.out]; exact HX.out.2.2) (by rw [← HEL.out, HNAL.out, HLB.out]; exact HN2.out)
      rw [← HEL.out, HNAL.out] at z
      exact z
    have HNXA : Hid (∀ y q', NTs w0 FB CB KB VB OB k om vx Ws F SB MB NX (.slice (some ⟨g, o, none⟩) L0.length cap) L0 q' y nA → Calls Try.prog 109 #[.pointer (some ⟨F, 0, none⟩), .pointer (some ⟨SB, 0, none⟩), .pointer (some ⟨MB, 0, none⟩), .pointer (some ⟨NX, 0, none⟩)] y fun e w' => e = .returned (.string (str (spW Ws om (a)))) ∧ NTs w0 FB CB KB VB OB k om vx Ws F SB MB NX (.slice (some ⟨g, o, none⟩) L0.length cap) L0 (q' && spO Ws om (a)) w' nX ∧ Only (fun b => b = F ∨ b = FB) y w') := fun y q' hy => by
      have z := IHA.out w0 y F SB MB NX FB CB KB VB OB k om (.slice (some ⟨g, o, none⟩) L0.length cap) vx Ws X (b.sg ++ ((3, 0) :: Y)) q' hk1 hk8 hom HD.out hVa (by rw [← HEL2.out]; exact HX.out.2.2) (by rw [← HEL2.out, HNXL.out, HLA.out]; exact hy)
      rw [← HEL2.out, HNXL.out] at z
      exact z
    have hxc := HN2.out.xc
    clear hVa hVb hV
    go_enter Try.func109, Try.ntmps109
    go_upto_region 2 with fail
    rw [← HW1.out]
    clear f0 ff HW1
    go_upto_region 3 with fail
    rw [← HW2.out]
    clear s0 fn1 HW2 hc1 hc2
    go_wp2_with fail
    refine Calls.mono HNXB.out ?_
    rintro e ya ⟨rfl, hna, hoa⟩
    have HNA : Hid (NTs w0 FB CB KB VB OB k om vx Ws F SB MB NX (.slice (some ⟨g, o, none⟩) L0.length cap) L0 (q && spO Ws om b) ya nA) := hna
    have HOA : Hid (Only (fun b => b = F ∨ b = FB) w ya) := HO2.out.trans hoa
    clear hna hoa hxc x0 x1
    have HND : Hid (NTs w0 FB CB KB VB OB k om vx Ws F SB MB NX (.slice (some ⟨g, o, none⟩) L0.length cap) L0 (q && spO Ws om b) ya.drew nA) := NTs.call HD.out HNA.out (Below.refl _ _).drew
    have HOD : Hid (Only (fun b => b = F ∨ b = FB) w ya.drew) := HOA.out.trans (Only.of (Below.refl _ _).drew)
    have S0 : ya.drew.cell? ⟨MB, 2, none⟩ = some (.func (Fn.func 84) #[] #[.pointer (some ⟨CB, 0, none⟩)]) ∧ ya.drew.cell? ⟨NX, 0, none⟩ = some (.func (Fn.func 109) #[] #[.pointer (some ⟨F, 0, none⟩), .pointer (some ⟨SB, 0, none⟩), .pointer (some ⟨MB, 0, none⟩), .pointer (some ⟨NX, 0, none⟩)]) := ⟨HND.out.c2, HND.out.xc⟩
    have HNX : Hid _ := HNXA.out ya.drew _ HND.out
    go_upto_region 11 with fail
    refine wp_region_held_drew (S := fun y => y.cell? ⟨MB, 2, none⟩ = some (.func (Fn.func 84) #[] #[.pointer (some ⟨CB, 0, none⟩)]) ∧ y.cell? ⟨NX, 0, none⟩ = some (.func (Fn.func 109) #[] #[.pointer (some ⟨F, 0, none⟩), .pointer (some ⟨SB, 0, none⟩), .pointer (some ⟨MB, 0, none⟩), .pointer (some ⟨NX, 0, none⟩)])) (by kernel_rfl) S0 (fun hH0 => ?_)
    clear S0
    refine wpAnyH_take (i := 0) (oi := { dst := some 36, op := Go.Op.fieldAddr 129 (Go.Operand.tmp 2) 2, type := 0, pos := "side.go:114", after := #[], guard := none }) (v := ?_) rfl (by kernel_rfl) (by kernel_rfl) (by kernel_rfl) (fun _ _ _ h => h) (Or.inl ⟨by rfl, ?_⟩) (by assumption) ?_
    rotate_left
    · intro w' hS; go_simp; (try with_reducible rfl)
    simp only [Act.put, List.setIfInBounds_toArray, List.set_cons_zero, List.set_cons_succ]
    refine wpAnyH_take (i := 1) (oi := { dst := some 37, op := Go.Op.load 126 (Go.Operand.tmp 36), type := 126, pos := "side.go:114", after := #[{ on := 0, ground := Go.Ground.data }], guard := none }) (v := .func (Fn.func 84) #[] #[.pointer (some ⟨CB, 0, none⟩)]) rfl (by kernel_rfl) (by kernel_rfl) (by kernel_rfl) (fun _ _ _ h => h) (Or.inl ⟨by rfl, ?_⟩) (by assumption) ?_
    · intro w' hS; obtain ⟨z0, z1⟩ := hS; go_simp
    simp only [Act.put, List.setIfInBounds_toArray, List.set_cons_zero, List.set_cons_succ]
    refine wpAnyH_take (i := 2) (oi := { dst := some 38, op := Go.Op.load 108 (Go.Operand.tmp 3), type := 108, pos := "side.go:114", after := #[], guard := none }) (v := .func (Fn.func 109) #[] #[.pointer (some ⟨F, 0, none⟩), .pointer (some ⟨SB, 0, none⟩), .pointer (some ⟨MB, 0, none⟩), .pointer (some ⟨NX, 0, none⟩)]) rfl (by kernel_rfl) (by kernel_rfl) (by kernel_rfl) (fun _ _ _ h => h) (Or.inl ⟨by rfl, ?_⟩) (by assumption) ?_
    · intro w' hS; obtain ⟨z0, z1⟩ := hS; go_simp
    simp only [Act.put, List.setIfInBounds_toArray, List.set_cons_zero, List.set_cons_succ]
    refine wpAnyH_take (i := 4) (oi := { dst := some 40, op := Go.Op.move (Go.Operand.tmp 6), type := 9, pos := "side.go:114", after := #[], guard := none }) (v := ?_) rfl (by kernel_rfl) (by kernel_rfl) (by kernel_rfl) (fun _ _ _ h => h) (Or.inl ⟨by rfl, ?_⟩) (by assumption) ?_
    rotate_left
    · intro w' hS; go_simp; (try with_reducible rfl)
    simp only [Act.put, List.setIfInBounds_toArray, List.set_cons_zero, List.set_cons_succ]
    refine wpAnyH_ready (rs := [3]) (by kernel_rfl) (by simp) ?_
    refine AllReadyH.cons rfl (fun K hK => ?_) AllReadyH.nil
    go_simp
    refine Calls.mono HNX.out ?_
    rintro e y1 ⟨rfl, hn1, ho1⟩
    have HN3 : Hid (NTs w0 FB CB KB VB OB k om vx Ws F SB MB NX (.slice (some ⟨g, o, none⟩) L0.length cap) L0 ((q && spO Ws om b) && spO Ws om a) y1 nX) := hn1
    have HO3 : Hid (Only (fun b => b = F ∨ b = FB) w y1) := HOD.out.trans ho1
    have hN : y1.cell? ⟨MB, 2, none⟩ = some (.func (Fn.func 84) #[] #[.pointer (some ⟨CB, 0, none⟩)]) ∧ y1.cell? ⟨NX, 0, none⟩ = some (.func (Fn.func 109) #[] #[.pointer (some ⟨F, 0, none⟩), .pointer (some ⟨SB, 0, none⟩), .pointer (some ⟨MB, 0, none⟩), .pointer (some ⟨NX, 0, none⟩)]) := ⟨hn1.c2, hn1.xc⟩
    have HC9 : Hid _ := sp4_any hn1.ex (spW Ws om a) (spW Ws om b) (spW_len Ws HOM.out a) (spW_len Ws HOM.out b)
    clear hn1 ho1
    go_wp2_with fail
    refine hK.out _ _ hN (fun hH1 => ?_)
    clear hN
    clear hK K
    refine wpAnyH_ready (rs := [5]) (by kernel_rfl) (by simp) ?_
    refine AllReadyH.cons rfl (fun K hK => ?_) AllReadyH.nil
    go_simp
    refine Calls.mono HC9.out ?_
    rintro e y2 ⟨rfl, hu, ho⟩
    have HOV : Hid (Only (fun b => b = F ∨ b = FB) w y2) := HO3.out.trans (ho.mono (fun j _ h => .inr h))
    have HNV : Hid (NTs w0 FB CB KB VB OB k om vx Ws F SB MB NX (.slice (some ⟨g, o, none⟩) L0.length cap) L0 _ y2 nX) := NTs.flag HD.out HN3.out hu ho
    have hN : y2.cell? ⟨MB, 2, none⟩ = some (.func (Fn.func 84) #[] #[.pointer (some ⟨CB, 0, none⟩)]) ∧ y2.cell? ⟨NX, 0, none⟩ = some (.func (Fn.func 109) #[] #[.pointer (some ⟨F, 0, none⟩), .pointer (some ⟨SB, 0, none⟩), .pointer (some ⟨MB, 0, none⟩), .pointer (some ⟨NX, 0, none⟩)]) := ⟨HNV.out.c2, HNV.out.xc⟩
    clear hu ho HC9
    go_wp2_with fail
    refine hK.out _ _ hN (fun hH2 => ?_)
    clear hN
    clear hK K
    refine wpAnyH_take (i := 6) (oi := { dst := some 4, op := Go.Op.assign (Go.Operand.tmp 41), type := 9, pos := "side.go:114", after := #[{ on := 5, ground := Go.Ground.data }, { on := 5, ground := Go.Ground.chain }, { on := 0, ground := Go.Ground.phase }, { on := 1, ground := Go.Ground.phase }, { on := 2, ground := Go.Ground.phase }, { on := 3, ground := Go.Ground.phase }, { on := 4, ground := Go.Ground.phase }, { on := 5, ground := Go.Ground.phase }], guard := none }) (v := ?_) rfl (by kernel_rfl) (by kernel_rfl) (by kernel_rfl) (fun _ _ _ h => h) (Or.inl ⟨by rfl, ?_⟩) (by assumption) ?_
    rotate_left
    · intro w' hS; go_simp; (try with_reducible rfl)
    simp only [Act.put, List.setIfInBounds_toArray, List.set_cons_zero, List.set_cons_succ]
    refine wpAnyH_done (by kernel_rfl) ?_ _
    go_wp2_with fail
    go_ret
    exact ⟨rfl, by have := HNV.out; rw [Bool.and_assoc, Bool.and_assoc, ← Bool.and_assoc (spO Ws om b)] at this; exact this, HOV.out⟩
end Go.Proofs.Ythhlamehbcidgaa

namespace Go.Proofs.Ythhlamehbcidgaa
open Go Go.RowKit Go.Lib
set_option linter.unusedVariables false

set_option maxHeartbeats 4000000 in
set_option maxRecDepth 100000 in
theorem of_string (A : Tm) (hL : A.sg.length ≤ 400) (w0 : World) (FB CB KB VB OB : Nat) (k om : Int) (v vx : Value) (Ws : List ByteArray) (q : Bool) (w : World) (hk1 : 1 ≤ k) (hk8 : k ≤ 8) (hom : 1 ≤ om) (hV : VOK k Ws A) (hv : SgR w0 v (intS A.sg)) (hE : SE w0 FB CB KB VB OB k om vx Ws q w) :
    Calls Try.prog 87 #[.agg #[.func (Fn.func 82) #[] #[], .func (Fn.func 83) #[] #[.pointer (some ⟨CB, 0, none⟩), .pointer (some ⟨VB, 0, none⟩)], .func (Fn.func 84) #[] #[.pointer (some ⟨CB, 0, none⟩)], .func (Fn.func 85) #[] #[.pointer (some ⟨KB, 0, none⟩), .pointer (some ⟨OB, 0, none⟩), .pointer (some ⟨FB, 0, none⟩)]], v] w fun e w' => e = .returned (.string (str (spW Ws om A))) ∧ SE w0 FB CB KB VB OB k om vx Ws (q && spO Ws om A) w' := by
  obtain ⟨a, cap, hva⟩ := hv.len
  rw [intS_len] at hva
  subst hva
  obtain ⟨W, hW⟩ : ∃ W, W = ((((w.alloc (.cells #[.func (Fn.func 82) #[] #[], .func (Fn.func 83) #[] #[.pointer (some ⟨CB, 0, none⟩), .pointer (some ⟨VB, 0, none⟩)], .func (Fn.func 84) #[] #[.pointer (some ⟨CB, 0, none⟩)], .func (Fn.func 85) #[] #[.pointer (some ⟨KB, 0, none⟩), .pointer (some ⟨OB, 0, none⟩), .pointer (some ⟨FB, 0, none⟩)]] 129)).alloc (.cells #[(.slice a A.sg.length cap)] 22)).alloc (.cells #[.int .i64 (A.sg.length : Nat)] 3)).alloc (.cells #[.nilFunc] 108)) := ⟨_, rfl⟩
  have HW : Hid (W = ((((w.alloc (.cells #[.func (Fn.func 82) #[] #[], .func (Fn.func 83) #[] #[.pointer (some ⟨CB, 0, none⟩), .pointer (some ⟨VB, 0, none⟩)], .func (Fn.func 84) #[] #[.pointer (some ⟨CB, 0, none⟩)], .func (Fn.func 85) #[] #[.pointer (some ⟨KB, 0, none⟩), .pointer (some ⟨OB, 0, none⟩), .pointer (some ⟨FB, 0, none⟩)]] 129)).alloc (.cells #[(.slice a A.sg.length cap)] 22)).alloc (.cells #[.int .i64 (A.sg.length : Nat)] 3)).alloc (.cells #[.nilFunc] 108))) := hW
  obtain ⟨h0, h1, h2, h3, hb⟩ := four _ _ _ _ _ _ hW
  have hs : W.heap.size = w.heap.size + 1 + 1 + 1 + 1 := by rw [hW]; simp [World.size_alloc]
  have u0 : W.cell? ⟨w.heap.size + 1 + 1 + 1, 0, none⟩ = some .nilFunc := cell_at h3 rfl
  have uf : ∀ j, W.frozen? ⟨w.heap.size + 1 + 1 + 1, j, none⟩ = false := fun j => froz_of h3
  obtain ⟨W1, hW1⟩ : ∃ W1, W1 = W.setCell ⟨w.heap.size + 1 + 1 + 1, 0, none⟩ (.func (Fn.func 109) #[] #[.pointer (some ⟨w.heap.size + 1 + 1, 0, none⟩), .pointer (some ⟨w.heap.size + 1, 0, none⟩), .pointer (some ⟨w.heap.size, 0, none⟩), .pointer (some ⟨w.heap.size + 1 + 1 + 1, 0, none⟩)]) := ⟨_, rfl⟩
  have HW1 : Hid (W1 = W.setCell ⟨w.heap.size + 1 + 1 + 1, 0, none⟩ (.func (Fn.func 109) #[] #[.pointer (some ⟨w.heap.size + 1 + 1, 0, none⟩), .pointer (some ⟨w.heap.size + 1, 0, none⟩), .pointer (some ⟨w.heap.size, 0, none⟩), .pointer (some ⟨w.heap.size + 1 + 1 + 1, 0, none⟩)])) := hW1
  have ho : ∀ b, b ≠ w.heap.size + 1 + 1 + 1 → W1.heap[b]? = W.heap[b]? := fun b hb => by rw [hW1]; exact heap_set_other hb
  have g4 : W1.heap[w.heap.size + 1 + 1 + 1]? = some (.cells #[(.func (Fn.func 109) #[] #[.pointer (some ⟨w.heap.size + 1 + 1, 0, none⟩), .pointer (some ⟨w.heap.size + 1, 0, none⟩), .pointer (some ⟨w.heap.size, 0, none⟩), .pointer (some ⟨w.heap.size + 1 + 1 + 1, 0, none⟩)])] 108 (0, 0)) := by rw [hW1]; exact heap_set h3
  have hs1 : W1.heap.size = W.heap.size := by rw [hW1]; simp [World.setCell]
  have hB : Below w.heap.size w W1 := by rw [hW1]; exact hb.setCell (p := ⟨w.heap.size + 1 + 1 + 1, 0, none⟩) (by show w.heap.size ≤ w.heap.size + 1 + 1 + 1; omega) _
  have hfl := hE.fl
  have hcl := hE.cb.2.1
  have hkl := hE.kb.2.1
  have hvl := hE.vb.2.1
  have hol := hE.ob.2.1
  have hbs := hE.b.size
  have HD : Hid (Dst (w.heap.size + 1 + 1) (w.heap.size + 1) w.heap.size (w.heap.size + 1 + 1 + 1) FB CB KB VB OB) := ⟨⟨by omega, by omega, by omega, by omega, by omega⟩, by omega, by omega, by omega⟩
  have HN : Hid (NTs w0 FB CB KB VB OB k om vx Ws (w.heap.size + 1 + 1) (w.heap.size + 1) w.heap.size (w.heap.size + 1 + 1 + 1) (.slice a A.sg.length cap) A.sg q W1 A.sg.length) :=
    ⟨(ho _ (by omega)).trans h2, cell_at ((ho _ (by omega)).trans h1) rfl, cell_at ((ho _ (by omega)).trans h0) rfl, cell_at ((ho _ (by omega)).trans h0) rfl, cell_at ((ho _ (by omega)).trans h0) rfl, cell_at ((ho _ (by omega)).trans h0) rfl, cell_at g4 rfl, by omega, by omega, by omega, ⟨by omega, by omega, by omega⟩, (hE.below hB).b, by omega, hv, Nat.le_refl _, hE.below hB⟩
  have HNX : Hid (Calls Try.prog 109 #[.pointer (some ⟨w.heap.size + 1 + 1, 0, none⟩), .pointer (some ⟨w.heap.size + 1, 0, none⟩), .pointer (some ⟨w.heap.size, 0, none⟩), .pointer (some ⟨w.heap.size + 1 + 1 + 1, 0, none⟩)] W1 fun e w' => e = .returned (.string (str (spW Ws om A))) ∧ NTs w0 FB CB KB VB OB k om vx Ws (w.heap.size + 1 + 1) (w.heap.size + 1) w.heap.size (w.heap.size + 1 + 1 + 1) (.slice a A.sg.length cap) A.sg (q && spO Ws om A) w' 0 ∧ Only (fun b => b = w.heap.size + 1 + 1 ∨ b = FB) W1 w') := by
    have z := NxW_any A w0 W1 (w.heap.size + 1 + 1) (w.heap.size + 1) w.heap.size (w.heap.size + 1 + 1 + 1) FB CB KB VB OB k om (.slice a A.sg.length cap) vx Ws [] [] q hk1 hk8 hom HD.out hV (by simpa using hL) (by simpa using HN.out)
    have z2 : Calls Try.prog 109 #[.pointer (some ⟨w.heap.size + 1 + 1, 0, none⟩), .pointer (some ⟨w.heap.size + 1, 0, none⟩), .pointer (some ⟨w.heap.size, 0, none⟩), .pointer (some ⟨w.heap.size + 1 + 1 + 1, 0, none⟩)] W1 fun e w' => e = .returned (.string (str (spW Ws om A))) ∧ NTs w0 FB CB KB VB OB k om vx Ws (w.heap.size + 1 + 1) (w.heap.size + 1) w.heap.size (w.heap.size + 1 + 1 + 1) (.slice a A.sg.length cap) A.sg (q && spO Ws om A) w' 0 ∧ Only (fun b => b = w.heap.size + 1 + 1 ∨ b = FB) W1 w' := by simpa using z
    exact z2
  have x4 : W1.cell? ⟨w.heap.size + 1 + 1 + 1, 0, none⟩ = some (.func (Fn.func 109) #[] #[.pointer (some ⟨w.heap.size + 1 + 1, 0, none⟩), .pointer (some ⟨w.heap.size + 1, 0, none⟩), .pointer (some ⟨w.heap.size, 0, none⟩), .pointer (some ⟨w.heap.size + 1 + 1 + 1, 0, none⟩)]) := cell_at g4 rfl
  clear hv hW h0 h1 h2 h3 hb hW1 ho g4 hs1 hB hs hE hfl hcl hkl hvl hol hbs
  go_enter Try.func87, Try.ntmps87
  go_upto_region 3 with fail
  rw [← HW.out]
  clear HW
  go_upto_region 4 with fail
  rw [← HW1.out]
  clear u0 uf HW1
  go_wp2_with fail
  refine Calls.mono HNX.out ?_
  rintro e y ⟨rfl, hn, hoo⟩
  have HE : Hid _ := hn.ex
  clear hn hoo x4
  go_wp2_with fail
  go_ret
  exact ⟨rfl, HE.out⟩

theorem results_tmp_bool {fn : Func} {t p : Tmp} (h : fn.results = #[.tmp t, .cell p 4]) {tmps : Array Value} {b : Nat} {q : Bool} {w : World} (hp : tmps.getD p undef = .pointer (some ⟨b, 0, none⟩)) (hc : w.cell? ⟨b, 0, none⟩ = some (.bool q)) :
    (results fn tmps).run Try.prog w = .ok (.tuple #[tmps.getD t undef, .bool q]) w := by
  have hagg := Try.isAgg4 w
  have hl : (loadVar 4 ⟨b, 0, none⟩).run Try.prog w = .ok (.bool q) w := by
    simp [loadVar, Sem.run_bind, hagg, hc]
  have e : (results fn tmps).run Try.prog w = ((asAddr (tmps.getD p undef)).run Try.prog w).andThen fun a w₁ => ((loadVar 4 a).run Try.prog w₁).andThen fun v w₂ => .ok (.tuple #[tmps.getD t undef, v]) w₂ := by
    simp only [results, h]
    simp [Sem.run_bind, Result.andThen]
  rw [e]
  simp [hp, asAddr, hl, Result.andThen]

set_option maxHeartbeats 4000000 in
set_option maxRecDepth 100000 in
theorem spelt_any (A : Tm) (hL : A.sg.length ≤ 400) (k om : Int) (v vx : Value) (Ws : List ByteArray) (w : World) (hk1 : 1 ≤ k) (hk8 : k ≤ 8) (hom : 1 ≤ om) (hV : VOK k Ws A) (hv : SgR w v (intS A.sg)) (hx : StR w vx Ws) :
    Calls Try.prog 44 #[.int .i64 k, v, vx, .int .i64 om] w fun e w' => e = .returned (.tuple #[.string (str (spW Ws om A)), .bool (spO Ws om A)]) ∧ Below w.heap.size w w' := by
  obtain ⟨a2, c2, hva⟩ := hx.len
  subst hva
  obtain ⟨a1, c1, hva⟩ := hv.len
  rw [intS_len] at hva
  subst hva
  obtain ⟨W3, hW3⟩ : ∃ W3, W3 = (((w.alloc (.cells #[.int .i64 k] 3)).alloc (.cells #[.slice a2 Ws.length c2] 47)).alloc (.cells #[.int .i64 om] 3)) := ⟨_, rfl⟩
  obtain ⟨W4, hW4⟩ : ∃ W4, W4 = W3.alloc (.cells #[.bool true] 4) := ⟨_, rfl⟩
  obtain ⟨h0, h1, h2, h3, hb⟩ := four w _ _ _ _ W4 (by rw [hW4, hW3])
  have hs4 : W4.heap.size = w.heap.size + 1 + 1 + 1 + 1 := by rw [hW4, hW3]; simp [World.size_alloc]
  obtain ⟨W5, hW5⟩ : ∃ W5, W5 = W4.alloc (.cells #[.func (Fn.func 81) #[] #[.pointer (some ⟨w.heap.size + 1 + 1 + 1, 0, none⟩)]] 93) := ⟨_, rfl⟩
  have HW5 : Hid (W5 = ((((((w.alloc (.cells #[.int .i64 k] 3)).alloc (.cells #[.slice a2 Ws.length c2] 47)).alloc (.cells #[.int .i64 om] 3)).alloc (.cells #[.bool true] 4))).alloc (.cells #[.func (Fn.func 81) #[] #[.pointer (some ⟨w.heap.size + 1 + 1 + 1, 0, none⟩)]] 93))) := by show _ = _; rw [hW5, hW4, hW3]
  have h4 : W5.heap[w.heap.size + 1 + 1 + 1 + 1]? = some (.cells #[.func (Fn.func 81) #[] #[.pointer (some ⟨w.heap.size + 1 + 1 + 1, 0, none⟩)]] 93 (0, 0)) := by
    have := heap_last W4 (.cells #[.func (Fn.func 81) #[] #[.pointer (some ⟨w.heap.size + 1 + 1 + 1, 0, none⟩)]] 93)
    rw [hs4, ← hW5] at this
    exact this
  have ho : ∀ b, b < W4.heap.size → W5.heap[b]? = W4.heap[b]? := fun b hb => by rw [hW5]; exact heap_allo hb _
  have hs5 : W5.heap.size = w.heap.size + 1 + 1 + 1 + 1 + 1 := by rw [hW5, World.size_alloc, hs4]
  have HE : Hid (SE w (w.heap.size + 1 + 1 + 1) (w.heap.size + 1 + 1 + 1 + 1) (w.heap.size) (w.heap.size + 1) (w.heap.size + 1 + 1) k om (.slice a2 Ws.length c2) Ws true W5) :=
    ⟨(ho _ (by omega)).trans h3, ⟨cell_at h4 rfl, by omega, by omega⟩, ⟨cell_at ((ho _ (by omega)).trans h0) rfl, by omega, by omega⟩, ⟨cell_at ((ho _ (by omega)).trans h1) rfl, by omega, by omega⟩, ⟨cell_at ((ho _ (by omega)).trans h2) rfl, by omega, by omega⟩, by rw [hW5]; exact go_on hb (below_new _ _), by omega, hx⟩
  have HO : Hid (Calls Try.prog 87 #[.agg #[.func (Fn.func 82) #[] #[], .func (Fn.func 83) #[] #[.pointer (some ⟨w.heap.size + 1 + 1 + 1 + 1, 0, none⟩), .pointer (some ⟨w.heap.size + 1, 0, none⟩)], .func (Fn.func 84) #[] #[.pointer (some ⟨w.heap.size + 1 + 1 + 1 + 1, 0, none⟩)], .func (Fn.func 85) #[] #[.pointer (some ⟨w.heap.size, 0, none⟩), .pointer (some ⟨w.heap.size + 1 + 1, 0, none⟩), .pointer (some ⟨w.heap.size + 1 + 1 + 1, 0, none⟩)]], .slice a1 A.sg.length c1] W5 fun e w' => e = .returned (.string (str (spW Ws om A))) ∧ SE w (w.heap.size + 1 + 1 + 1) (w.heap.size + 1 + 1 + 1 + 1) (w.heap.size) (w.heap.size + 1) (w.heap.size + 1 + 1) k om (.slice a2 Ws.length c2) Ws (true && spO Ws om A) w') := of_string A hL _ _ _ _ _ _ _ _ _ _ _ true W5 hk1 hk8 hom hV hv HE.out
  obtain ⟨b, hbb⟩ : ∃ b, spO Ws om A = b := ⟨_, rfl⟩
  rw [hbb] at HO ⊢
  clear hW3 hW4 hW5 h0 h1 h2 h3 h4 ho hs4 hs5 hb hv hx hV hbb
  go_enter Try.func44, Try.ntmps44
  go_upto_region 3 with fail
  rw [← HW5.out]
  clear HW5
  go_wp2_with fail
  refine Calls.mono HO.out ?_
  rintro e y ⟨rfl, hu⟩
  rw [Bool.true_and] at hu
  have hu2 := hu.below (Below.refl _ _).drew
  have HUF : Hid (SE w (w.heap.size + 1 + 1 + 1) (w.heap.size + 1 + 1 + 1 + 1) (w.heap.size) (w.heap.size + 1) (w.heap.size + 1 + 1) k om (.slice a2 Ws.length c2) Ws b (y.drew.setCell ⟨w.heap.size + 1 + 1 + 1, 0, none⟩ (.bool b))) := hu2.flag
  have S0 : y.drew.cell? ⟨w.heap.size + 1 + 1 + 1, 0, none⟩ = some (.bool b) ∧ (∀ j, y.drew.frozen? ⟨w.heap.size + 1 + 1 + 1, j, none⟩ = false) := ⟨cell_at hu2.fb rfl, fun j => froz_of hu2.fb⟩
  have HS1 : Hid ((y.drew.setCell ⟨w.heap.size + 1 + 1 + 1, 0, none⟩ (.bool b)).cell? ⟨w.heap.size + 1 + 1 + 1, 0, none⟩ = some (.bool b) ∧ (∀ j, (y.drew.setCell ⟨w.heap.size + 1 + 1 + 1, 0, none⟩ (.bool b)).frozen? ⟨w.heap.size + 1 + 1 + 1, j, none⟩ = false)) := ⟨cell_at HUF.out.fb rfl, fun j => froz_of HUF.out.fb⟩
  clear hu hu2
  go_upto_region 4 with fail
  refine wp_region_held_drew (S := fun y => y.cell? ⟨w.heap.size + 1 + 1 + 1, 0, none⟩ = some (.bool b) ∧ (∀ j, y.frozen? ⟨w.heap.size + 1 + 1 + 1, j, none⟩ = false)) (by kernel_rfl) S0 (fun hH0 => ?_)
  clear S0
  refine wpAnyH_take (i := 0) (oi := { dst := some 18, op := Go.Op.move (Go.Operand.tmp 8), type := 9, pos := "terms.go:147", after := #[], guard := none }) (v := ?_) rfl (by kernel_rfl) (by kernel_rfl) (by kernel_rfl) (fun _ _ _ h => h) (Or.inl ⟨by rfl, ?_⟩) (by assumption) ?_
  rotate_left
  · intro w' hS; go_simp; (try with_reducible rfl)
  simp only [Act.put, List.setIfInBounds_toArray, List.set_cons_zero, List.set_cons_succ]
  refine wpAnyH_take (i := 1) (oi := { dst := some 19, op := Go.Op.load 4 (Go.Operand.tmp 9), type := 4, pos := "terms.go:147", after := #[{ on := 2, ground := Go.Ground.gcOnly Go.Departure.lateStores }], guard := none }) (v := .bool b) rfl (by kernel_rfl) (by kernel_rfl) (by kernel_rfl) (fun _ _ _ h => h) (Or.inl ⟨by rfl, ?_⟩) (by assumption) ?_
  · intro w' hS; obtain ⟨z0, z1⟩ := hS; go_simp
  simp only [Act.put, List.setIfInBounds_toArray, List.set_cons_zero, List.set_cons_succ]
  refine wpAnyH_take (i := 2) (oi := { dst := some 8, op := Go.Op.assign (Go.Operand.tmp 18), type := 9, pos := "terms.go:147", after := #[{ on := 0, ground := Go.Ground.data }, { on := 0, ground := Go.Ground.phase }, { on := 1, ground := Go.Ground.textOnly Go.Departure.lateStores }], guard := none }) (v := ?_) rfl (by kernel_rfl) (by kernel_rfl) (by kernel_rfl) (fun _ _ _ h => h) (Or.inl ⟨by rfl, ?_⟩) (by assumption) ?_
  rotate_left
  · intro w' hS; go_simp; (try with_reducible rfl)
  simp only [Act.put, List.setIfInBounds_toArray, List.set_cons_zero, List.set_cons_succ]
  refine wpAnyH_ready (rs := [3]) (by kernel_rfl) (by simp) ?_
  refine AllReadyH.cons rfl (fun K hK => ?_) AllReadyH.nil
  go_simp
  refine hK.out _ _ HS1.out (fun hH1 => ?_)
  clear hK K
  refine wpAnyH_done (by kernel_rfl) ?_ _
  go_wp2_with fail
  refine bodyPost_ret (results_tmp_bool rfl rfl HS1.out.1) rfl ?_
  exact ⟨rfl, HUF.out.b⟩
end Go.Proofs.Ythhlamehbcidgaa
