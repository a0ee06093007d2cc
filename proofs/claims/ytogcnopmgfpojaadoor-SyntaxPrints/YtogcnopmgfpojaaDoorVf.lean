/- The document's Print. -/
import Derived.Test.YtogcnopmgfpojaaDoorVe
import Derived.Laws.BytesArg
namespace Go.Proofs.YtogcnopmgfpojaaDoor
open Go Go.RowKit
set_option linter.unusedVariables false

/-- What is written, node by node, up to a limit; pieces with their kinds. -/
abbrev Pc := ByteArray × Int
def noPc : Pc := (ByteArray.empty, 0)
def pcC : List Pc → List Value
  | [] => []
  | p :: l => .string p.1 :: .int .i64 p.2 :: pcC l
theorem pcC_append (a b : List Pc) : pcC (a ++ b) = pcC a ++ pcC b := by
  induction a with
  | nil => rfl
  | cons p a ih => simp [pcC, ih]
theorem pcC_at (l : List Pc) (i : Nat) (h : i < l.length) : (pcC l)[i * 2]? = some (.string (l.getD i noPc).1) ∧ (pcC l)[i * 2 + 1]? = some (.int .i64 (l.getD i noPc).2) := by
  induction l generalizing i with
  | nil => simp at h
  | cons p l ih =>
    cases i with
    | zero => exact ⟨rfl, rfl⟩
    | succ i =>
      have := ih i (by simpa using h)
      rw [show (i + 1) * 2 = i * 2 + 1 + 1 by omega]
      simpa [pcC] using this
theorem pcC_take (l : List Pc) (p : Nat) : (pcC l).take (p * 2) = pcC (l.take p) := by
  induction l generalizing p with
  | nil => simp [pcC]
  | cons q l ih =>
    cases p with
    | zero => simp [pcC]
    | succ p => rw [show (p + 1) * 2 = p * 2 + 1 + 1 by omega]; simp [pcC, ih]
def toW (l : List Pc) : List Wr := l.map fun p => (p.1, tight p.2)
/-- A slice of pieces, where its cells lie. -/
def PReads (w : World) (v : Value) (ws : List Pc) : Prop :=
  ∃ a cap, v = .slice a ws.length cap ∧ ws.length ≤ cap ∧ ∀ i, i < ws.length → ∃ g o, a = some ⟨g, o, none⟩ ∧ g < w.heap.size ∧ w.cell? ⟨g, o + i * 2, none⟩ = some (.string (ws.getD i noPc).1) ∧ w.cell? ⟨g, o + i * 2 + 1, none⟩ = some (.int .i64 (ws.getD i noPc).2)
theorem own_preads {w : World} {base : Nat} {a : Option Addr} {cap : Nat} {ws : List Pc} (h : w.ownsRow base 67 2 (.slice a ws.length cap) ws.length (pcC ws)) : PReads w (.slice a ws.length cap) ws := by
  by_cases h0 : ws.length = 0
  · have : ws = [] := List.eq_nil_of_length_eq_zero h0
    subst this
    exact ⟨a, cap, rfl, Nat.zero_le _, fun i hi => absurd hi (by simp)⟩
  · obtain ⟨_, h2⟩ := id h
    rcases h2 with ⟨_, h2⟩ | ⟨g, cp, cur, e1, _, hg, hc, _⟩
    · omega
    · simp only [Value.slice.injEq] at e1
      obtain ⟨rfl, _, rfl⟩ := e1
      refine ⟨_, cap, rfl, hc, fun i hi => ⟨g, 0, rfl, (Array.getElem?_eq_some_iff.1 hg).1, ?_, ?_⟩⟩
      · rw [Nat.zero_add, h.cellAt (i * 2) (by omega)]; exact (pcC_at ws i hi).1
      · rw [Nat.zero_add, h.cellAt (i * 2 + 1) (by omega)]; exact (pcC_at ws i hi).2
theorem pstep_toW {n : Nd} {ws : List Pc} {X : ByteArray} (hX : textF n (toW ws) = X) : pstep n (toW ws) = toW (ws.take (ws.length - arity n.1) ++ [(X, n.1)]) := by
  simp [pstep, toW, List.map_take]
  exact hX
theorem toW_last {ws : List Pc} (h : 1 ≤ ws.length) : lastW (toW ws) = ((ws.getD (ws.length - 1) noPc).1, tight (ws.getD (ws.length - 1) noPc).2) := by
  unfold lastW toW
  rw [List.length_map, List.getD_eq_getElem?_getD, List.getElem?_map, List.getD_eq_getElem?_getD, List.getElem?_eq_getElem (by omega)]
  rfl
theorem toW_prev {ws : List Pc} (h : 2 ≤ ws.length) : prevW (toW ws) = ((ws.getD (ws.length - 2) noPc).1, tight (ws.getD (ws.length - 2) noPc).2) := by
  unfold prevW toW
  rw [List.length_map, List.getD_eq_getElem?_getD, List.getElem?_map, List.getD_eq_getElem?_getD, List.getElem?_eq_getElem (by omega)]
  rfl
def runL (L : Nat) : List Nd → List Wr → Option (List Wr)
  | [], ws => some ws
  | n :: ts, ws => if L < (textF n ws).size then none else runL L ts (pstep n ws)
theorem Tryd.info_piece : (Tryd.prog.info? 67).map (fun i => (i.zero, i.size, i.bytes)) = some (some (.agg #[.string ByteArray.empty, .int .i64 0]), 2, 24) := by kernel_rfl
/-- What the document's Print answers. -/
def rprintV (k : Int) (ts : List Nd) : ByteArray × Int :=
  if checkV k ts ≠ 0 then (ByteArray.empty, checkV k ts) else match runL 2000 ts [] with
    | none => (ByteArray.empty, 40)
    | some ws => if 1000 < (ws.getD 0 noWr).1.size then (ByteArray.empty, 40) else ((ws.getD 0 noWr).1, 0)
theorem run_l_here {L : Nat} {ts : List Nd} {i : Nat} (h : i < ts.length) (ws : List Wr) : runL L (ts.drop i) ws = if L < (textF (ts.getD i (0, 0)) ws).size then none else runL L (ts.drop (i + 1)) (pstep (ts.getD i (0, 0)) ws) := by
  rw [List.drop_eq_getElem_cons h]
  have e : ts.getD i (0, 0) = ts[i] := by rw [List.getD_eq_getElem?_getD, List.getElem?_eq_getElem h]; rfl
  rw [e]
  rfl
def SmallP (ws : List Pc) : Prop := ∀ i, (ws.getD i noPc).1.size ≤ 2000 ∧ (i < ws.length → 1 ≤ (ws.getD i noPc).2 ∧ (ws.getD i noPc).2 ≤ 9)

theorem smallP_step {ws : List Pc} {q : Nat} {X : ByteArray} {kd : Int} (h : SmallP ws) (hX : X.size ≤ 2000) (hk : 1 ≤ kd ∧ kd ≤ 9) : SmallP (ws.take q ++ [(X, kd)]) := by
  intro i
  rw [List.getD_eq_getElem?_getD]
  by_cases hi : i < (ws.take q).length
  · have hi2 : i < q ∧ i < ws.length := by rw [List.length_take] at hi; omega
    rw [List.getElem?_append_left hi, List.getElem?_take, if_pos hi2.1, ← List.getD_eq_getElem?_getD]
    exact ⟨(h i).1, fun _ => (h i).2 hi2.2⟩
  · rw [List.getElem?_append_right (by omega)]
    by_cases h0 : i - (ws.take q).length = 0
    · rw [h0]; simp only [List.getElem?_cons_zero, Option.getD_some]; exact ⟨hX, fun _ => hk⟩
    · rw [List.getElem?_eq_none (by show 1 ≤ _; omega)]
      refine ⟨by show (0 : Nat) ≤ 2000; omega, fun hl => ?_⟩
      rw [List.length_append] at hl
      simp only [List.length_singleton] at hl
      omega

def pvAt (w : World) (p : Nat) : Value := (w.cell? ⟨p, 0, none⟩).getD (.string ByteArray.empty)
def PBlk (w : World) (p : Nat) (kd : Int) (v : Value) (n : Nat) (cs : List Value) (w' : World) : Prop := (∃ u, w'.heap[p]? = some (.cells #[u, .int .i64 kd] 67 (0, 0))) ∧ Below w.heap.size w w' ∧ w'.ownsRow w.heap.size 67 2 v n cs
abbrev S7 (w : World) (lg o0 o1 : Nat) (x0 x1 : ByteArray) (k0 k1 : Int) (g go : Nat) (kd : Int) (p : Nat) (v : Value) (n : Nat) (cs : List Value) (w' : World) : Prop :=
  w'.cell? ⟨lg, o0, none⟩ = some (.string x0) ∧ w'.cell? ⟨lg, o0 + 1, none⟩ = some (.int .i64 k0) ∧ w'.cell? ⟨lg, o1, none⟩ = some (.string x1) ∧ w'.cell? ⟨lg, o1 + 1, none⟩ = some (.int .i64 k1) ∧ w'.cell? ⟨g, go, none⟩ = some (.int .i64 kd) ∧ w'.frozen? ⟨p, 0, none⟩ = false ∧ w'.cell? ⟨p, 0, none⟩ = some (pvAt w' p) ∧ PBlk w p kd v n cs w'
theorem pblk_facts {w w' : World} {p : Nat} {kd : Int} {v : Value} {n : Nat} {cs : List Value} (h : PBlk w p kd v n cs w') : w'.frozen? ⟨p, 0, none⟩ = false ∧ w'.cell? ⟨p, 0, none⟩ = some (pvAt w' p) := by
  obtain ⟨⟨u, hu⟩, _⟩ := h
  have e : w'.cell? ⟨p, 0, none⟩ = some u := by simp [World.cell?, hu]
  exact ⟨by simp [World.frozen?, hu], by rw [pvAt, e]; rfl⟩
theorem s7_step {w : World} {lg o0 o1 : Nat} {x0 x1 : ByteArray} {k0 k1 : Int} {g go : Nat} {kd : Int} {p : Nat} {v : Value} {n : Nat} {cs : List Value} {w1 w2 : World} (hg : g < w.heap.size) (hlp : lg < p) (hb : Below w1.heap.size w1 w2) (h : S7 w lg o0 o1 x0 x1 k0 k1 g go kd p v n cs w1) : S7 w lg o0 o1 x0 x1 k0 k1 g go kd p v n cs w2 := by
  obtain ⟨a, b, c, d, e, f, f', ⟨u, hu⟩, hB, hO⟩ := h
  have hp : p < w1.heap.size := (Array.getElem?_eq_some_iff.1 hu).1
  have hs := hB.size
  have P : PBlk w p kd v n cs w2 := ⟨⟨u, (hb.block p hp).trans hu⟩, go_on hB hb, own_below hO hb⟩
  obtain ⟨f1, f2⟩ := pblk_facts P
  refine ⟨?_, ?_, ?_, ?_, ?_, f1, f2, P⟩
  · rw [below_cell hb (by omega)]; exact a
  · rw [below_cell hb (by omega)]; exact b
  · rw [below_cell hb (by omega)]; exact c
  · rw [below_cell hb (by omega)]; exact d
  · rw [below_cell hb (by omega)]; exact e
theorem cell_set_other (w : World) (a : Addr) (g o : Nat) (u : Value) (h : g ≠ a.block) : (w.setCell a u).cell? ⟨g, o, none⟩ = w.cell? ⟨g, o, none⟩ := by
  unfold World.cell?
  rw [Below.heap_setCell _ _ _ _ h]
theorem s7_set {w : World} {lg o0 o1 : Nat} {x0 x1 : ByteArray} {k0 k1 : Int} {g go : Nat} {kd : Int} {p : Nat} {v : Value} {n : Nat} {cs : List Value} {w1 : World} (hg : g < w.heap.size) (hlp : lg < p) (hwp : w.heap.size ≤ p) (hv : v.ownBlock = some lg) (u : Value) (h : S7 w lg o0 o1 x0 x1 k0 k1 g go kd p v n cs w1) : S7 w lg o0 o1 x0 x1 k0 k1 g go kd p v n cs (w1.setCell ⟨p, 0, none⟩ u) := by
  obtain ⟨a, b, c, d, e, f, f', ⟨u', hu⟩, hB, hO⟩ := h
  have P : PBlk w p kd v n cs (w1.setCell ⟨p, 0, none⟩ u) := ⟨⟨u, by rw [blk_set hu]; rfl⟩, hB.setCell (p := ⟨p, 0, none⟩) hwp _, ownsRow_setCell_other hO (by rw [hv]; intro hh; have h9 : lg = p := Option.some.inj hh; omega) _⟩
  obtain ⟨f1, f2⟩ := pblk_facts P
  refine ⟨?_, ?_, ?_, ?_, ?_, f1, f2, P⟩
  · rw [cell_set_other _ _ _ _ _ (by show lg ≠ p; omega)]; exact a
  · rw [cell_set_other _ _ _ _ _ (by show lg ≠ p; omega)]; exact b
  · rw [cell_set_other _ _ _ _ _ (by show lg ≠ p; omega)]; exact c
  · rw [cell_set_other _ _ _ _ _ (by show lg ≠ p; omega)]; exact d
  · rw [cell_set_other _ _ _ _ _ (by show g ≠ p; omega)]; exact e

set_option maxHeartbeats 16000000 in
set_option maxRecDepth 100000 in
theorem rprint_any (k : Int) (hk : -9223372036854775808 ≤ k ∧ k ≤ 9223372036854775807) (v : Value) (ts : List Nd) (w : World) (hv : NReads w v ts) (hm : ts.length ≤ 9223372036854775806) (hP : PTab w) :
    Calls Tryd.prog 17 #[.int .i64 k, v] w fun e w' => e = .returned (.tuple #[.string (rprintV k ts).1, .int .i64 (rprintV k ts).2]) ∧ Below w.heap.size w w' := by
  have HV : Hid (NReads w v ts) := hv
  have HP : Hid (PTab w) := hP
  obtain ⟨c, hc⟩ : ∃ c, checkV k ts = c := ⟨_, rfl⟩
  have HC : Hid (checkV k ts = c) := hc
  clear hP
  by_cases hc0 : c = 0
  · subst hc0
    have hw0 := check_zero hc
    obtain ⟨h4, hf⟩ := wrong_zero hw0
    have HF : Hid (freeN ts = some 1) := hf
    obtain ⟨av, cv, rfl, hrd⟩ := hv
    have HRD : Hid (∀ i, i < ts.length → ∃ g o, av = some ⟨g, o, none⟩ ∧ g < w.heap.size ∧ w.cell? ⟨g, o + i * 2, none⟩ = some (.int .i64 (ts.getD i (0, 0)).1) ∧ w.cell? ⟨g, o + i * 2 + 1, none⟩ = some (.int .u8 (ts.getD i (0, 0)).2)) := hrd
    have HPV : Hid (rprintV k ts = match runL 2000 ts [] with
      | none => (ByteArray.empty, 40)
      | some ws => if 1000 < (ws.getD 0 noWr).1.size then (ByteArray.empty, 40) else ((ws.getD 0 noWr).1, 0)) := by show _ = _; rw [rprintV, hc]; rfl
    obtain ⟨i0, hi0, hz0, hz1, hz2⟩ := info_parts Tryd.info_piece
    clear hrd hc hw0 hf
    go_enter Tryd.func17, Tryd.ntmps17
    go_wp2_with fail
    refine (rcheck_any k hk _ ts _ HV.out hm HP.out).mono ?_
    rintro e w1 ⟨rfl, hb1⟩
    rw [HC.out]
    have HB1 : Hid (Below w.heap.size w w1) := hb1
    clear hb1
    go_wp2_with fail
    go_loopw [7, 8] (fun vf vi wr => ∃ (i : Nat) (ws : List Pc), i ≤ ts.length ∧ vi = .int .i64 i ∧ wr.ownsRow w.heap.size 67 2 vf ws.length (pcC ws) ∧ freeN (ts.take i) = some ws.length ∧ runL 2000 ts [] = runL 2000 (ts.drop i) (toW ws) ∧ SmallP ws ∧ Below w.heap.size w wr) (fun _ vi _ => ts.length - (intOf vi).toNat)
    case atStart => exact ⟨0, [], Nat.zero_le _, rfl, World.ownsRow_nil _ _ _ _, rfl, rfl, fun i => by simp [noPc], HB1.out⟩
    case round =>
      clear HB1
      obtain ⟨i, ws, hi, rfl, ho, hfr, hrun, hsm, hb⟩ := hrel
      obtain ⟨fa, fc, rfl⟩ := own_shape ho
      have HO : Hid (wr.ownsRow w.heap.size 67 2 (.slice fa ws.length fc) ws.length (pcC ws)) := ho
      have HRUN : Hid (runL 2000 ts [] = runL 2000 (ts.drop i) (toW ws)) := hrun
      have HSM : Hid (SmallP ws) := hsm
      have HB : Hid (Below w.heap.size w wr) := hb
      have hwl := free_le ts i hi ws.length hfr
      have HFR : Hid (freeN (ts.take i) = some ws.length) := hfr
      have hws := hb.size
      clear ho hrun hsm hb hfr
      by_cases hlt : i < ts.length
      · have hiI : (i : Int) < ts.length := by omega
        obtain ⟨cc, hcc, hgood, har, hnext⟩ := free_good HF.out hlt
        rw [HFR.out, Option.some.injEq] at hcc
        subst hcc
        have hhere := run_l_here (L := 2000) hlt (toW ws)
        obtain ⟨g, o, rfl, hg, p1, p2⟩ := HRD.out i hlt
        obtain ⟨⟨kd, s⟩, hks⟩ : ∃ n, ts.getD i (0, 0) = n := ⟨_, rfl⟩
        rw [hks] at p1 p2 hgood har hnext hhere
        simp only at p1 p2 har
        have c1 : wr.cell? ⟨g, o + i * 2, none⟩ = some (.int .i64 kd) := by rw [below_cell HB.out hg]; exact p1
        have c2 : wr.cell? ⟨g, o + i * 2 + 1, none⟩ = some (.int .u8 s) := by rw [below_cell HB.out hg]; exact p2
        have HG : Hid (good (kd, s) = true) := hgood
        have HH : Hid (runL 2000 ts [] = if 2000 < (textF (kd, s) (toW ws)).size then none else runL 2000 (ts.drop (i + 1)) (pstep (kd, s) (toW ws))) := HRUN.out.trans hhere
        have HNX : Hid (freeN (ts.take (i + 1)) = some (ws.length - arity kd + 1)) := hnext
        clear p1 p2 hks hhere hnext hgood
        have d1 : (wr.alloc (.cells #[.string { data := #[] }, .int .i64 kd] 67)).cell? ⟨g, o + i * 2, none⟩ = some (.int .i64 kd) := by rw [below_cell ((Below.refl wr.heap.size wr).alloc (Nat.le_refl _) _) (by omega)]; exact c1
        have d2 : (wr.alloc (.cells #[.string { data := #[] }, .int .i64 kd] 67)).cell? ⟨g, o + i * 2 + 1, none⟩ = some (.int .u8 s) := by rw [below_cell ((Below.refl wr.heap.size wr).alloc (Nat.le_refl _) _) (by omega)]; exact c2
        obtain ⟨hk1, hk9⟩ := good_kind HG.out
        simp only at hk1 hk9
        have hcs : kd = 1 ∨ kd = 2 ∨ kd = 3 ∨ kd = 4 ∨ kd = 5 ∨ kd = 6 ∨ kd = 7 ∨ kd = 8 ∨ kd = 9 := by omega
        clear hk1 hk9
        rcases hcs with rfl | rfl | rfl | rfl | rfl | rfl | rfl | rfl | rfl
        · have HX : Hid (textF (1, s) (toW ws) = ({ data := #[48] } : ByteArray)) := rfl
          obtain ⟨q, hq⟩ : ∃ q, ws.length - 0 = q := ⟨_, rfl⟩
          have hql : (ws.take q).length = q := by rw [List.length_take]; omega
          have HQL : Hid ((ws.take q).length = q) := hql
          have HNX : Hid (freeN (ts.take (i + 1)) = some (q + 1)) := by have := HNX.out; show _ = _; rw [this, ← hq]; rfl
          have hXs : (({ data := #[48] } : ByteArray)).size ≤ 2000 := by decide
          have HR3 : Hid (runL 2000 ts [] = runL 2000 (ts.drop (i + 1)) (toW (ws.take q ++ [(({ data := #[48] } : ByteArray), (1 : Int))]))) := by
            have := HH.out
            show _ = _
            rw [this, HX.out, if_neg (by omega), pstep_toW HX.out]
            rw [show ws.length - arity ((1 : Int), s).1 = q from hq]
          obtain rfl : ws.length = q := by omega
          have HBQ : Hid (Below w.heap.size w (wr.alloc (.cells #[.string ({ data := #[48] } : ByteArray), .int .i64 1] 67))) := HB.out.alloc hws _
          have HOQ : Hid ((wr.alloc (.cells #[.string ({ data := #[48] } : ByteArray), .int .i64 1] 67)).ownsRow w.heap.size 67 2 (.slice fa ws.length fc) ws.length (pcC (ws.take ws.length))) := by
            rw [List.take_length]; exact HO.out.alloc _
          have hW4 : ws.length ≤ 4000 := by omega
          clear hq hql
          generalize hwl : ws.length = q at *
          go_wp2_with (at_builtin; refine (fun (h : True → _) => h trivial) ?_)
          intro _
          refine wpList_append_own _ rfl _ _ 65 rfl w.heap.size 67 i0 (.agg #[.string ByteArray.empty, .int .i64 0]) 2 24 Tryd.underlying65 hi0 hz0 hz1 hz2 rfl (by decide) _ _ _ rfl (HOQ.out.alloc _) ⟨wr.heap.size + 1, 0, none⟩ 1 1 [.string ({ data := #[48] } : ByteArray), .int .i64 1] rfl rfl ?c1k1 ?c2k1 ?c3k1 ?c4k1 ?c5k1 ?_
          case c1k1 => have h2 := two_new (wr.alloc (.cells #[.string ({ data := #[48] } : ByteArray), .int .i64 1] 67)) (.string ({ data := #[48] } : ByteArray)) (.int .i64 1) 67; rw [World.size_alloc] at h2; exact h2
          case c2k1 => intro u hu; simp at hu; rcases hu with rfl | rfl <;> rfl
          case c3k1 => unfold maxLen; omega
          case c4k1 => omega
          case c5k1 => have := HBQ.out.size; simp at this ⊢; omega
          intro v9 w9 ho9 hg9 _
          have HB9 : Hid (Below w.heap.size w w9) := (HBQ.out.alloc HBQ.out.size _).grown hg9 (by have := HBQ.out.size; simp at this ⊢; omega) (fun g hg => (HOQ.out.lt g hg).1)
          have HO9 : Hid (w9.ownsRow w.heap.size 67 2 v9 (ws.take q ++ [(({ data := #[48] } : ByteArray), (1 : Int))]).length (pcC (ws.take q ++ [(({ data := #[48] } : ByteArray), (1 : Int))]))) := by
            show World.ownsRow _ _ _ _ _ _ _
            rw [pcC_append, List.length_append, HQL.out]
            exact ho9
          clear ho9 hg9
          go_wp2_with fail
          go_roundw
          case rel => exact ⟨i + 1, _, by omega, by go_num, HO9.out, by rw [HNX.out, List.length_append, HQL.out]; rfl, HR3.out, smallP_step HSM.out (by first | exact hXs | decide) (by decide), HB9.out⟩
          case measure => simp [intOf]; omega
        · have HX : Hid (textF (2, s) (toW ws) = ({ data := #[49] } : ByteArray)) := rfl
          obtain ⟨q, hq⟩ : ∃ q, ws.length - 0 = q := ⟨_, rfl⟩
          have hql : (ws.take q).length = q := by rw [List.length_take]; omega
          have HQL : Hid ((ws.take q).length = q) := hql
          have HNX : Hid (freeN (ts.take (i + 1)) = some (q + 1)) := by have := HNX.out; show _ = _; rw [this, ← hq]; rfl
          have hXs : (({ data := #[49] } : ByteArray)).size ≤ 2000 := by decide
          have HR3 : Hid (runL 2000 ts [] = runL 2000 (ts.drop (i + 1)) (toW (ws.take q ++ [(({ data := #[49] } : ByteArray), (2 : Int))]))) := by
            have := HH.out
            show _ = _
            rw [this, HX.out, if_neg (by omega), pstep_toW HX.out]
            rw [show ws.length - arity ((2 : Int), s).1 = q from hq]
          obtain rfl : ws.length = q := by omega
          have HBQ : Hid (Below w.heap.size w (wr.alloc (.cells #[.string ({ data := #[49] } : ByteArray), .int .i64 2] 67))) := HB.out.alloc hws _
          have HOQ : Hid ((wr.alloc (.cells #[.string ({ data := #[49] } : ByteArray), .int .i64 2] 67)).ownsRow w.heap.size 67 2 (.slice fa ws.length fc) ws.length (pcC (ws.take ws.length))) := by
            rw [List.take_length]; exact HO.out.alloc _
          have hW4 : ws.length ≤ 4000 := by omega
          clear hq hql
          generalize hwl : ws.length = q at *
          go_wp2_with (at_builtin; refine (fun (h : True → _) => h trivial) ?_)
          intro _
          refine wpList_append_own _ rfl _ _ 65 rfl w.heap.size 67 i0 (.agg #[.string ByteArray.empty, .int .i64 0]) 2 24 Tryd.underlying65 hi0 hz0 hz1 hz2 rfl (by decide) _ _ _ rfl (HOQ.out.alloc _) ⟨wr.heap.size + 1, 0, none⟩ 1 1 [.string ({ data := #[49] } : ByteArray), .int .i64 2] rfl rfl ?c1k2 ?c2k2 ?c3k2 ?c4k2 ?c5k2 ?_
          case c1k2 => have h2 := two_new (wr.alloc (.cells #[.string ({ data := #[49] } : ByteArray), .int .i64 2] 67)) (.string ({ data := #[49] } : ByteArray)) (.int .i64 2) 67; rw [World.size_alloc] at h2; exact h2
          case c2k2 => intro u hu; simp at hu; rcases hu with rfl | rfl <;> rfl
          case c3k2 => unfold maxLen; omega
          case c4k2 => omega
          case c5k2 => have := HBQ.out.size; simp at this ⊢; omega
          intro v9 w9 ho9 hg9 _
          have HB9 : Hid (Below w.heap.size w w9) := (HBQ.out.alloc HBQ.out.size _).grown hg9 (by have := HBQ.out.size; simp at this ⊢; omega) (fun g hg => (HOQ.out.lt g hg).1)
          have HO9 : Hid (w9.ownsRow w.heap.size 67 2 v9 (ws.take q ++ [(({ data := #[49] } : ByteArray), (2 : Int))]).length (pcC (ws.take q ++ [(({ data := #[49] } : ByteArray), (2 : Int))]))) := by
            show World.ownsRow _ _ _ _ _ _ _
            rw [pcC_append, List.length_append, HQL.out]
            exact ho9
          clear ho9 hg9
          go_wp2_with fail
          go_roundw
          case rel => exact ⟨i + 1, _, by omega, by go_num, HO9.out, by rw [HNX.out, List.length_append, HQL.out]; rfl, HR3.out, smallP_step HSM.out (by first | exact hXs | decide) (by decide), HB9.out⟩
          case measure => simp [intOf]; omega
        · have HX : Hid (textF (3, s) (toW ws) = (byteS s)) := rfl
          obtain ⟨q, hq⟩ : ∃ q, ws.length - 0 = q := ⟨_, rfl⟩
          have hql : (ws.take q).length = q := by rw [List.length_take]; omega
          have HQL : Hid ((ws.take q).length = q) := hql
          have HNX : Hid (freeN (ts.take (i + 1)) = some (q + 1)) := by have := HNX.out; show _ = _; rw [this, ← hq]; rfl
          have hXs : ((byteS s)).size ≤ 2000 := by show (1 : Nat) ≤ 2000; omega
          have HR3 : Hid (runL 2000 ts [] = runL 2000 (ts.drop (i + 1)) (toW (ws.take q ++ [((byteS s), (3 : Int))]))) := by
            have := HH.out
            show _ = _
            rw [this, HX.out, if_neg (by omega), pstep_toW HX.out]
            rw [show ws.length - arity ((3 : Int), s).1 = q from hq]
          obtain rfl : ws.length = q := by omega
          have HBQ : Hid (Below w.heap.size w ((wr.alloc (.cells #[.string (byteS s), .int .i64 3] 67)).alloc (.cells #[.int .u8 s] 5))) := (HB.out.alloc hws _).alloc (by rw [World.size_alloc]; omega) _
          have HOQ : Hid (((wr.alloc (.cells #[.string (byteS s), .int .i64 3] 67)).alloc (.cells #[.int .u8 s] 5)).ownsRow w.heap.size 67 2 (.slice fa ws.length fc) ws.length (pcC (ws.take ws.length))) := by
            rw [List.take_length]; exact (HO.out.alloc _).alloc _
          have hW4 : ws.length ≤ 4000 := by omega
          clear hq hql
          generalize hwl : ws.length = q at *
          have hcv : Sem.run Tryd.prog (convert 68 9 (.slice (some ⟨wr.heap.size + 1, 0, none⟩) 1 1)) ((wr.alloc (.cells #[.string { data := #[] }, .int .i64 3] 67)).alloc (.cells #[.int .u8 s] 5)) = .ok (.string (byteS s)) ((wr.alloc (.cells #[.string { data := #[] }, .int .i64 3] 67)).alloc (.cells #[.int .u8 s] 5)) := by
            refine run_convert_bytes_arg _ 68 5 Tryd.underlying68 Tryd.underlying5 (wr.heap.size + 1) 0 1 1 [s] rfl ?_ 9 Tryd.underlying9
            intro i hi
            obtain rfl : i = 0 := by omega
            have := (RowAt.last (wr.alloc (.cells #[.string { data := #[] }, .int .i64 3] 67)) #[.int .u8 s] 5).cell 0
            rw [World.size_alloc] at this
            exact this
          have hbs : (byteS s).size = 1 := rfl
          go_wp2_with (at_builtin; refine (fun (h : True → _) => h trivial) ?_)
          intro _
          refine wpList_append_own _ rfl _ _ 65 rfl w.heap.size 67 i0 (.agg #[.string ByteArray.empty, .int .i64 0]) 2 24 Tryd.underlying65 hi0 hz0 hz1 hz2 rfl (by decide) _ _ _ rfl (HOQ.out.alloc _) ⟨wr.heap.size + 1 + 1, 0, none⟩ 1 1 [.string (byteS s), .int .i64 3] rfl rfl ?c1k3 ?c2k3 ?c3k3 ?c4k3 ?c5k3 ?_
          case c1k3 => have h2 := two_new ((wr.alloc (.cells #[.string (byteS s), .int .i64 3] 67)).alloc (.cells #[.int .u8 s] 5)) (.string (byteS s)) (.int .i64 3) 67; rw [World.size_alloc, World.size_alloc] at h2; exact h2
          case c2k3 => intro u hu; simp at hu; rcases hu with rfl | rfl <;> rfl
          case c3k3 => unfold maxLen; omega
          case c4k3 => omega
          case c5k3 => have := HBQ.out.size; simp at this ⊢; omega
          intro v9 w9 ho9 hg9 _
          have HB9 : Hid (Below w.heap.size w w9) := (HBQ.out.alloc HBQ.out.size _).grown hg9 (by have := HBQ.out.size; simp at this ⊢; omega) (fun g hg => (HOQ.out.lt g hg).1)
          have HO9 : Hid (w9.ownsRow w.heap.size 67 2 v9 (ws.take q ++ [((byteS s), (3 : Int))]).length (pcC (ws.take q ++ [((byteS s), (3 : Int))]))) := by
            show World.ownsRow _ _ _ _ _ _ _
            rw [pcC_append, List.length_append, HQL.out]
            exact ho9
          clear ho9 hg9
          go_wp2_with fail
          go_roundw
          case rel => exact ⟨i + 1, _, by omega, by go_num, HO9.out, by rw [HNX.out, List.length_append, HQL.out]; rfl, HR3.out, smallP_step HSM.out (by first | exact hXs | decide) (by decide), HB9.out⟩
          case measure => simp [intOf]; omega
        · have HX : Hid (textF (4, s) (toW ws) = ({ data := #[46] } : ByteArray)) := rfl
          obtain ⟨q, hq⟩ : ∃ q, ws.length - 0 = q := ⟨_, rfl⟩
          have hql : (ws.take q).length = q := by rw [List.length_take]; omega
          have HQL : Hid ((ws.take q).length = q) := hql
          have HNX : Hid (freeN (ts.take (i + 1)) = some (q + 1)) := by have := HNX.out; show _ = _; rw [this, ← hq]; rfl
          have hXs : (({ data := #[46] } : ByteArray)).size ≤ 2000 := by decide
          have HR3 : Hid (runL 2000 ts [] = runL 2000 (ts.drop (i + 1)) (toW (ws.take q ++ [(({ data := #[46] } : ByteArray), (4 : Int))]))) := by
            have := HH.out
            show _ = _
            rw [this, HX.out, if_neg (by omega), pstep_toW HX.out]
            rw [show ws.length - arity ((4 : Int), s).1 = q from hq]
          obtain rfl : ws.length = q := by omega
          have HBQ : Hid (Below w.heap.size w (wr.alloc (.cells #[.string ({ data := #[46] } : ByteArray), .int .i64 4] 67))) := HB.out.alloc hws _
          have HOQ : Hid ((wr.alloc (.cells #[.string ({ data := #[46] } : ByteArray), .int .i64 4] 67)).ownsRow w.heap.size 67 2 (.slice fa ws.length fc) ws.length (pcC (ws.take ws.length))) := by
            rw [List.take_length]; exact HO.out.alloc _
          have hW4 : ws.length ≤ 4000 := by omega
          clear hq hql
          generalize hwl : ws.length = q at *
          go_wp2_with (at_builtin; refine (fun (h : True → _) => h trivial) ?_)
          intro _
          refine wpList_append_own _ rfl _ _ 65 rfl w.heap.size 67 i0 (.agg #[.string ByteArray.empty, .int .i64 0]) 2 24 Tryd.underlying65 hi0 hz0 hz1 hz2 rfl (by decide) _ _ _ rfl (HOQ.out.alloc _) ⟨wr.heap.size + 1, 0, none⟩ 1 1 [.string ({ data := #[46] } : ByteArray), .int .i64 4] rfl rfl ?c1k4 ?c2k4 ?c3k4 ?c4k4 ?c5k4 ?_
          case c1k4 => have h2 := two_new (wr.alloc (.cells #[.string ({ data := #[46] } : ByteArray), .int .i64 4] 67)) (.string ({ data := #[46] } : ByteArray)) (.int .i64 4) 67; rw [World.size_alloc] at h2; exact h2
          case c2k4 => intro u hu; simp at hu; rcases hu with rfl | rfl <;> rfl
          case c3k4 => unfold maxLen; omega
          case c4k4 => omega
          case c5k4 => have := HBQ.out.size; simp at this ⊢; omega
          intro v9 w9 ho9 hg9 _
          have HB9 : Hid (Below w.heap.size w w9) := (HBQ.out.alloc HBQ.out.size _).grown hg9 (by have := HBQ.out.size; simp at this ⊢; omega) (fun g hg => (HOQ.out.lt g hg).1)
          have HO9 : Hid (w9.ownsRow w.heap.size 67 2 v9 (ws.take q ++ [(({ data := #[46] } : ByteArray), (4 : Int))]).length (pcC (ws.take q ++ [(({ data := #[46] } : ByteArray), (4 : Int))]))) := by
            show World.ownsRow _ _ _ _ _ _ _
            rw [pcC_append, List.length_append, HQL.out]
            exact ho9
          clear ho9 hg9
          go_wp2_with fail
          go_roundw
          case rel => exact ⟨i + 1, _, by omega, by go_num, HO9.out, by rw [HNX.out, List.length_append, HQL.out]; rfl, HR3.out, smallP_step HSM.out (by first | exact hXs | decide) (by decide), HB9.out⟩
          case measure => simp [intOf]; omega
        · have har : 2 ≤ ws.length := har
          obtain ⟨fa', fc', e', hfc, hrd⟩ := own_preads HO.out
          simp only [Value.slice.injEq] at e'
          obtain ⟨rfl, -, rfl⟩ := e'
          obtain ⟨lg, lo, rfl, hlg, a0, a1⟩ := hrd (ws.length - 2) (by omega)
          obtain ⟨lg', lo', e', -, b0, b1⟩ := hrd (ws.length - 1) (by omega)
          simp only [Option.some.injEq, Addr.mk.injEq] at e'
          obtain ⟨rfl, rfl, -⟩ := e'
          obtain ⟨hxs, hxk⟩ := HSM.out (ws.length - 2)
          have hxk := hxk (by omega)
          obtain ⟨hzs, hzk⟩ := HSM.out (ws.length - 1)
          have hzk := hzk (by omega)
          have hprev := toW_prev (ws := ws) (by omega)
          have hlast := toW_last (ws := ws) (by omega)
          obtain ⟨⟨x0, k0⟩, hxx⟩ : ∃ p, ws.getD (ws.length - 2) noPc = p := ⟨_, rfl⟩
          obtain ⟨⟨x1, k1⟩, hzz⟩ : ∃ p, ws.getD (ws.length - 1) noPc = p := ⟨_, rfl⟩
          rw [hxx] at a0 a1 hxs hxk hprev
          rw [hzz] at b0 b1 hzs hzk hlast
          simp only at a0 a1 hxs hxk hprev b0 b1 hzs hzk hlast
          obtain ⟨y0, hy0⟩ : ∃ y, wth x0 (tight k0) 1 = y := ⟨_, rfl⟩
          obtain ⟨y1, hy1⟩ : ∃ y, wth x1 (tight k1) 2 = y := ⟨_, rfl⟩
          have hys0 := wth_size x0 (tight k0) 1
          have hys1 := wth_size x1 (tight k1) 2
          rw [hy0] at hys0
          rw [hy1] at hys1
          obtain ⟨M, hM⟩ : ∃ X : ByteArray, y0 ++ { data := #[124] } = X := ⟨_, rfl⟩
          obtain ⟨X, hX⟩ : ∃ X : ByteArray, M ++ y1 = X := ⟨_, rfl⟩
          have hMs : M.size = y0.size + 1 := by rw [← hM, ByteArray.size_append]; rfl
          have ka := fun W => run_string_add_sum (P := Tryd.prog) W y0 { data := #[124] } (by rw [← ByteArray.size_append, hM]; omega)
          have kb := fun W => run_string_add_sum (P := Tryd.prog) W M y1 (by omega)
          have HX : Hid (textF (5, s) (toW ws) = X) := by
            show pairT (prevW _).1 (lastW _).1 (prevW _).2 (lastW _).2 1 _ = _
            rw [hlast, hprev]
            simp only [pairT]
            rw [hy0, hy1]
            rw [← hX, ← hM]
            all_goals rfl
          have HY : Hid (wth x0 (tight k0) 1 = y0 ∧ wth x1 (tight k1) 2 = y1) := ⟨hy0, hy1⟩
          rw [hM] at ka
          rw [hX] at kb
          obtain ⟨q, hq⟩ : ∃ q, ws.length - 2 = q := ⟨_, rfl⟩
          have hql : (ws.take q).length = q := by rw [List.length_take]; omega
          have HQL : Hid ((ws.take q).length = q) := hql
          have HNX : Hid (freeN (ts.take (i + 1)) = some (q + 1)) := by have := HNX.out; show _ = _; rw [this, ← hq]; rfl
          obtain ⟨q1, hq1⟩ : ∃ q1, ws.length - 1 = q1 := ⟨_, rfl⟩
          have hqI : IntKind.i64.wrap ((ws.length : Int) - 2) = (q : Int) := by rw [IntKind.wrap_i64]; omega
          have hqI1 : IntKind.i64.wrap ((ws.length : Int) - 1) = (q1 : Int) := by rw [IntKind.wrap_i64]; omega
          have hq2 : (q : Int) < ws.length := by omega
          have hq3 : (q1 : Int) < ws.length := by omega
          have hqc : (q : Int) ≤ fc := by omega
          rw [hq] at a0 a1
          rw [hq1] at b0 b1
          have hbA : Below wr.heap.size wr (wr.alloc (.cells #[.string { data := #[] }, .int .i64 5] 67)) := (Below.refl wr.heap.size wr).alloc (Nat.le_refl _) _
          have HPA : PBlk w wr.heap.size 5 (.slice (some ⟨lg, lo, none⟩) ws.length fc) ws.length (pcC ws) (wr.alloc (.cells #[.string { data := #[] }, .int .i64 5] 67)) := ⟨⟨_, heap_alloc_new wr _⟩, HB.out.alloc hws _, HO.out.alloc _⟩
          have S0 : S7 w lg (lo + q * 2) (lo + q1 * 2) x0 x1 k0 k1 g (o + i * 2) 5 wr.heap.size (.slice (some ⟨lg, lo, none⟩) ws.length fc) ws.length (pcC ws) (wr.alloc (.cells #[.string { data := #[] }, .int .i64 5] 67)).drew := by
            have HPD : PBlk w wr.heap.size 5 (.slice (some ⟨lg, lo, none⟩) ws.length fc) ws.length (pcC ws) (wr.alloc (.cells #[.string { data := #[] }, .int .i64 5] 67)).drew := ⟨HPA.1, HPA.2.1.drew, own_drew HPA.2.2⟩
            refine ⟨?_, ?_, ?_, ?_, d1, (pblk_facts HPD).1, (pblk_facts HPD).2, HPD⟩
            · exact (below_cell hbA hlg).trans a0
            · exact (below_cell hbA hlg).trans a1
            · exact (below_cell hbA hlg).trans b0
            · exact (below_cell hbA hlg).trans b1
          have hlp : lg < wr.heap.size := hlg
          have hre : ((0 : Nat) : Int) = 0 := rfl
          clear hrd hy0 hy1 hX hM hlast hprev a0 a1 b0 b1 hql hxx hzz HPA hbA
          go_upto_region 16 with fail
          go_cut [10] (fun vp wx => vp = .pointer (some ⟨wr.heap.size, 0, none⟩) ∧ ∃ w2, S7 w lg (lo + q * 2) (lo + q1 * 2) x0 x1 k0 k1 g (o + i * 2) 5 wr.heap.size (.slice (some ⟨lg, lo, none⟩) ws.length fc) ws.length (pcC ws) w2 ∧ wx = w2.setCell ⟨wr.heap.size, 0, none⟩ (.string X))
          case first =>
            go_region_held3 (fun w' => S7 w lg (lo + q * 2) (lo + q1 * 2) x0 x1 k0 k1 g (o + i * 2) 5 wr.heap.size (.slice (some ⟨lg, lo, none⟩) ws.length fc) ws.length (pcC ws) w') (first | exact S0 | assumption | exact s7_step hg hlp (by assumption) (by assumption) | exact s7_set hg hlp hws rfl _ (by assumption)) (first
              | (go_at_call 31; refine (rank_any 5 _).mono ?_; rintro e a1 ⟨rfl, rfl⟩; rw [show ((rankN 5 : Nat) : Int) = 0 from rfl])
              | (go_at_call_of 30 (Value.string x0); refine (at_any x0 k0 hxk 0 (by omega) (by omega) _).mono ?_; rintro e a1 ⟨rfl, ha1⟩; rw [HY.out.1])
              | (go_at_call 30; refine (at_any x1 k1 hzk 1 (by omega) (by omega) _).mono ?_; rintro e a2 ⟨rfl, ha2⟩; rw [HY.out.2]))
            all_goals go_wp2_with fail
            all_goals go_meet
            all_goals exact ⟨rfl, _, s7_step hg hlp (by assumption) (s7_step hg hlp (by assumption) S0), rfl⟩
          case rest =>
            obtain ⟨rfl, w2, hS, rfl⟩ := hcut
            obtain ⟨⟨u2, hblk⟩, hB2, hO2⟩ := hS.2.2.2.2.2.2.2
            have HB2 : Hid (Below w.heap.size w w2) := hB2
            have HO2 : Hid (w2.ownsRow w.heap.size 67 2 (.slice (some ⟨lg, lo, none⟩) ws.length fc) ws.length (pcC ws)) := hO2
            clear hS hB2 hO2 S0 d1 d2
            have f0 : w2.frozen? ⟨wr.heap.size, 0, none⟩ = false := by simp [World.frozen?, hblk]
            have e0 : w2.cell? ⟨wr.heap.size, 0, none⟩ = some u2 := by simp [World.cell?, hblk]
            have hbS := blk_set (i := 0) hblk (.string X)
            have s0 : (w2.setCell ⟨wr.heap.size, 0, none⟩ (.string X)).cell? ⟨wr.heap.size, 0, none⟩ = some (.string X) := by simp [World.cell?, hbS]
            have s1 : (w2.setCell ⟨wr.heap.size, 0, none⟩ (.string X)).cell? ⟨wr.heap.size, 1, none⟩ = some (.int .i64 5) := by simp [World.cell?, hbS]
            have HSS : Hid ((w2.setCell ⟨wr.heap.size, 0, none⟩ (.string X)).heap.size = w2.heap.size) := by show _ = _; simp
            have HBQ : Hid (Below w.heap.size w (w2.setCell ⟨wr.heap.size, 0, none⟩ (.string X))) := HB2.out.setCell (p := ⟨wr.heap.size, 0, none⟩) hws _
            have HOQ : Hid ((w2.setCell ⟨wr.heap.size, 0, none⟩ (.string X)).ownsRow w.heap.size 67 2 (.slice (some ⟨lg, lo, none⟩) q fc) q (pcC (ws.take q))) := by
              have := own_cut2 HO2.out q (by omega)
              rw [pcC_take] at this
              refine ownsRow_setCell_other this (fun hh => ?_) _
              have h9 := (HO.out.lt wr.heap.size hh).2
              omega
            have hq4 : q ≤ 4000 := by omega
            clear hblk hbS
            by_cases hbig : 2000 < X.size
            · have hbI : (2000 : Int) < X.size := by omega
              have HPN : Hid (rprintV k ts = (ByteArray.empty, 40)) := by show _ = _; rw [HPV.out, HH.out, HX.out, if_pos hbig]
              go_wp2_with fail
              go_ret2
              exact ⟨by rw [HPN.out]; rfl, HBQ.out⟩
            · have hbI : ¬ (2000 : Int) < X.size := by omega
              have hXs : X.size ≤ 2000 := by omega
              have HR3 : Hid (runL 2000 ts [] = runL 2000 (ts.drop (i + 1)) (toW (ws.take q ++ [(X, (5 : Int))]))) := by
                have := HH.out
                show _ = _
                rw [this, HX.out, if_neg hbig, pstep_toW HX.out]
                rw [show ws.length - arity ((5 : Int), s).1 = q from hq]
              clear hq hbig
              go_wp2_with (at_builtin; refine (fun (h : True → _) => h trivial) ?_)
              intro _
              refine wpList_append_own _ rfl _ _ 65 rfl w.heap.size 67 i0 (.agg #[.string ByteArray.empty, .int .i64 0]) 2 24 Tryd.underlying65 hi0 hz0 hz1 hz2 rfl (by decide) _ _ _ rfl (HOQ.out.alloc _) ⟨w2.heap.size, 0, none⟩ 1 1 [.string X, .int .i64 5] rfl rfl ?c1k5 ?c2k5 ?c3k5 ?c4k5 ?c5k5 ?_
              case c1k5 => have h2 := two_new (w2.setCell ⟨wr.heap.size, 0, none⟩ (.string X)) (.string X) (.int .i64 5) 67; rw [HSS.out] at h2; exact h2
              case c2k5 => intro u hu; simp at hu; rcases hu with rfl | rfl <;> rfl
              case c3k5 => unfold maxLen; omega
              case c4k5 => omega
              case c5k5 => have := HBQ.out.size; simp at this ⊢; omega
              intro v9 w9 ho9 hg9 _
              have HB9 : Hid (Below w.heap.size w w9) := (HBQ.out.alloc HBQ.out.size _).grown hg9 (by have := HBQ.out.size; simp at this ⊢; omega) (fun g hg => (HOQ.out.lt g hg).1)
              have HO9 : Hid (w9.ownsRow w.heap.size 67 2 v9 (ws.take q ++ [(X, (5 : Int))]).length (pcC (ws.take q ++ [(X, (5 : Int))]))) := by
                show World.ownsRow _ _ _ _ _ _ _
                rw [pcC_append, List.length_append, HQL.out]
                exact ho9
              clear ho9 hg9
              go_wp2_with fail
              go_roundw
              case rel => exact ⟨i + 1, _, by omega, by go_num, HO9.out, by rw [HNX.out, List.length_append, HQL.out]; rfl, HR3.out, smallP_step HSM.out (by first | exact hXs | decide) (by decide), HB9.out⟩
              case measure => simp [intOf]; omega
        · have har : 2 ≤ ws.length := har
          obtain ⟨fa', fc', e', hfc, hrd⟩ := own_preads HO.out
          simp only [Value.slice.injEq] at e'
          obtain ⟨rfl, -, rfl⟩ := e'
          obtain ⟨lg, lo, rfl, hlg, a0, a1⟩ := hrd (ws.length - 2) (by omega)
          obtain ⟨lg', lo', e', -, b0, b1⟩ := hrd (ws.length - 1) (by omega)
          simp only [Option.some.injEq, Addr.mk.injEq] at e'
          obtain ⟨rfl, rfl, -⟩ := e'
          obtain ⟨hxs, hxk⟩ := HSM.out (ws.length - 2)
          have hxk := hxk (by omega)
          obtain ⟨hzs, hzk⟩ := HSM.out (ws.length - 1)
          have hzk := hzk (by omega)
          have hprev := toW_prev (ws := ws) (by omega)
          have hlast := toW_last (ws := ws) (by omega)
          obtain ⟨⟨x0, k0⟩, hxx⟩ : ∃ p, ws.getD (ws.length - 2) noPc = p := ⟨_, rfl⟩
          obtain ⟨⟨x1, k1⟩, hzz⟩ : ∃ p, ws.getD (ws.length - 1) noPc = p := ⟨_, rfl⟩
          rw [hxx] at a0 a1 hxs hxk hprev
          rw [hzz] at b0 b1 hzs hzk hlast
          simp only at a0 a1 hxs hxk hprev b0 b1 hzs hzk hlast
          obtain ⟨y0, hy0⟩ : ∃ y, wth x0 (tight k0) 2 = y := ⟨_, rfl⟩
          obtain ⟨y1, hy1⟩ : ∃ y, wth x1 (tight k1) 3 = y := ⟨_, rfl⟩
          have hys0 := wth_size x0 (tight k0) 2
          have hys1 := wth_size x1 (tight k1) 3
          rw [hy0] at hys0
          rw [hy1] at hys1
          obtain ⟨M, hM⟩ : ∃ X : ByteArray, y0 ++ { data := #[38] } = X := ⟨_, rfl⟩
          obtain ⟨X, hX⟩ : ∃ X : ByteArray, M ++ y1 = X := ⟨_, rfl⟩
          have hMs : M.size = y0.size + 1 := by rw [← hM, ByteArray.size_append]; rfl
          have ka := fun W => run_string_add_sum (P := Tryd.prog) W y0 { data := #[38] } (by rw [← ByteArray.size_append, hM]; omega)
          have kb := fun W => run_string_add_sum (P := Tryd.prog) W M y1 (by omega)
          have HX : Hid (textF (6, s) (toW ws) = X) := by
            show pairT (prevW _).1 (lastW _).1 (prevW _).2 (lastW _).2 2 _ = _
            rw [hlast, hprev]
            simp only [pairT]
            rw [hy0, hy1]
            rw [← hX, ← hM]
            all_goals rfl
          have HY : Hid (wth x0 (tight k0) 2 = y0 ∧ wth x1 (tight k1) 3 = y1) := ⟨hy0, hy1⟩
          rw [hM] at ka
          rw [hX] at kb
          obtain ⟨q, hq⟩ : ∃ q, ws.length - 2 = q := ⟨_, rfl⟩
          have hql : (ws.take q).length = q := by rw [List.length_take]; omega
          have HQL : Hid ((ws.take q).length = q) := hql
          have HNX : Hid (freeN (ts.take (i + 1)) = some (q + 1)) := by have := HNX.out; show _ = _; rw [this, ← hq]; rfl
          obtain ⟨q1, hq1⟩ : ∃ q1, ws.length - 1 = q1 := ⟨_, rfl⟩
          have hqI : IntKind.i64.wrap ((ws.length : Int) - 2) = (q : Int) := by rw [IntKind.wrap_i64]; omega
          have hqI1 : IntKind.i64.wrap ((ws.length : Int) - 1) = (q1 : Int) := by rw [IntKind.wrap_i64]; omega
          have hq2 : (q : Int) < ws.length := by omega
          have hq3 : (q1 : Int) < ws.length := by omega
          have hqc : (q : Int) ≤ fc := by omega
          rw [hq] at a0 a1
          rw [hq1] at b0 b1
          have hbA : Below wr.heap.size wr (wr.alloc (.cells #[.string { data := #[] }, .int .i64 6] 67)) := (Below.refl wr.heap.size wr).alloc (Nat.le_refl _) _
          have HPA : PBlk w wr.heap.size 6 (.slice (some ⟨lg, lo, none⟩) ws.length fc) ws.length (pcC ws) (wr.alloc (.cells #[.string { data := #[] }, .int .i64 6] 67)) := ⟨⟨_, heap_alloc_new wr _⟩, HB.out.alloc hws _, HO.out.alloc _⟩
          have S0 : S7 w lg (lo + q * 2) (lo + q1 * 2) x0 x1 k0 k1 g (o + i * 2) 6 wr.heap.size (.slice (some ⟨lg, lo, none⟩) ws.length fc) ws.length (pcC ws) (wr.alloc (.cells #[.string { data := #[] }, .int .i64 6] 67)).drew := by
            have HPD : PBlk w wr.heap.size 6 (.slice (some ⟨lg, lo, none⟩) ws.length fc) ws.length (pcC ws) (wr.alloc (.cells #[.string { data := #[] }, .int .i64 6] 67)).drew := ⟨HPA.1, HPA.2.1.drew, own_drew HPA.2.2⟩
            refine ⟨?_, ?_, ?_, ?_, d1, (pblk_facts HPD).1, (pblk_facts HPD).2, HPD⟩
            · exact (below_cell hbA hlg).trans a0
            · exact (below_cell hbA hlg).trans a1
            · exact (below_cell hbA hlg).trans b0
            · exact (below_cell hbA hlg).trans b1
          have hlp : lg < wr.heap.size := hlg
          have hre : ((1 : Nat) : Int) = 1 := rfl
          clear hrd hy0 hy1 hX hM hlast hprev a0 a1 b0 b1 hql hxx hzz HPA hbA
          go_upto_region 16 with fail
          go_cut [10] (fun vp wx => vp = .pointer (some ⟨wr.heap.size, 0, none⟩) ∧ ∃ w2, S7 w lg (lo + q * 2) (lo + q1 * 2) x0 x1 k0 k1 g (o + i * 2) 6 wr.heap.size (.slice (some ⟨lg, lo, none⟩) ws.length fc) ws.length (pcC ws) w2 ∧ wx = w2.setCell ⟨wr.heap.size, 0, none⟩ (.string X))
          case first =>
            go_region_held3 (fun w' => S7 w lg (lo + q * 2) (lo + q1 * 2) x0 x1 k0 k1 g (o + i * 2) 6 wr.heap.size (.slice (some ⟨lg, lo, none⟩) ws.length fc) ws.length (pcC ws) w') (first | exact S0 | assumption | exact s7_step hg hlp (by assumption) (by assumption) | exact s7_set hg hlp hws rfl _ (by assumption)) (first
              | (go_at_call 31; refine (rank_any 6 _).mono ?_; rintro e a1 ⟨rfl, rfl⟩; rw [show ((rankN 6 : Nat) : Int) = 1 from rfl])
              | (go_at_call_of 30 (Value.string x0); refine (at_any x0 k0 hxk 1 (by omega) (by omega) _).mono ?_; rintro e a1 ⟨rfl, ha1⟩; rw [HY.out.1])
              | (go_at_call 30; refine (at_any x1 k1 hzk 2 (by omega) (by omega) _).mono ?_; rintro e a2 ⟨rfl, ha2⟩; rw [HY.out.2]))
            all_goals go_wp2_with fail
            all_goals go_meet
            all_goals exact ⟨rfl, _, s7_step hg hlp (by assumption) (s7_step hg hlp (by assumption) S0), rfl⟩
          case rest =>
            obtain ⟨rfl, w2, hS, rfl⟩ := hcut
            obtain ⟨⟨u2, hblk⟩, hB2, hO2⟩ := hS.2.2.2.2.2.2.2
            have HB2 : Hid (Below w.heap.size w w2) := hB2
            have HO2 : Hid (w2.ownsRow w.heap.size 67 2 (.slice (some ⟨lg, lo, none⟩) ws.length fc) ws.length (pcC ws)) := hO2
            clear hS hB2 hO2 S0 d1 d2
            have f0 : w2.frozen? ⟨wr.heap.size, 0, none⟩ = false := by simp [World.frozen?, hblk]
            have e0 : w2.cell? ⟨wr.heap.size, 0, none⟩ = some u2 := by simp [World.cell?, hblk]
            have hbS := blk_set (i := 0) hblk (.string X)
            have s0 : (w2.setCell ⟨wr.heap.size, 0, none⟩ (.string X)).cell? ⟨wr.heap.size, 0, none⟩ = some (.string X) := by simp [World.cell?, hbS]
            have s1 : (w2.setCell ⟨wr.heap.size, 0, none⟩ (.string X)).cell? ⟨wr.heap.size, 1, none⟩ = some (.int .i64 6) := by simp [World.cell?, hbS]
            have HSS : Hid ((w2.setCell ⟨wr.heap.size, 0, none⟩ (.string X)).heap.size = w2.heap.size) := by show _ = _; simp
            have HBQ : Hid (Below w.heap.size w (w2.setCell ⟨wr.heap.size, 0, none⟩ (.string X))) := HB2.out.setCell (p := ⟨wr.heap.size, 0, none⟩) hws _
            have HOQ : Hid ((w2.setCell ⟨wr.heap.size, 0, none⟩ (.string X)).ownsRow w.heap.size 67 2 (.slice (some ⟨lg, lo, none⟩) q fc) q (pcC (ws.take q))) := by
              have := own_cut2 HO2.out q (by omega)
              rw [pcC_take] at this
              refine ownsRow_setCell_other this (fun hh => ?_) _
              have h9 := (HO.out.lt wr.heap.size hh).2
              omega
            have hq4 : q ≤ 4000 := by omega
            clear hblk hbS
            by_cases hbig : 2000 < X.size
            · have hbI : (2000 : Int) < X.size := by omega
              have HPN : Hid (rprintV k ts = (ByteArray.empty, 40)) := by show _ = _; rw [HPV.out, HH.out, HX.out, if_pos hbig]
              go_wp2_with fail
              go_ret2
              exact ⟨by rw [HPN.out]; rfl, HBQ.out⟩
            · have hbI : ¬ (2000 : Int) < X.size := by omega
              have hXs : X.size ≤ 2000 := by omega
              have HR3 : Hid (runL 2000 ts [] = runL 2000 (ts.drop (i + 1)) (toW (ws.take q ++ [(X, (6 : Int))]))) := by
                have := HH.out
                show _ = _
                rw [this, HX.out, if_neg hbig, pstep_toW HX.out]
                rw [show ws.length - arity ((6 : Int), s).1 = q from hq]
              clear hq hbig
              go_wp2_with (at_builtin; refine (fun (h : True → _) => h trivial) ?_)
              intro _
              refine wpList_append_own _ rfl _ _ 65 rfl w.heap.size 67 i0 (.agg #[.string ByteArray.empty, .int .i64 0]) 2 24 Tryd.underlying65 hi0 hz0 hz1 hz2 rfl (by decide) _ _ _ rfl (HOQ.out.alloc _) ⟨w2.heap.size, 0, none⟩ 1 1 [.string X, .int .i64 6] rfl rfl ?c1k6 ?c2k6 ?c3k6 ?c4k6 ?c5k6 ?_
              case c1k6 => have h2 := two_new (w2.setCell ⟨wr.heap.size, 0, none⟩ (.string X)) (.string X) (.int .i64 6) 67; rw [HSS.out] at h2; exact h2
              case c2k6 => intro u hu; simp at hu; rcases hu with rfl | rfl <;> rfl
              case c3k6 => unfold maxLen; omega
              case c4k6 => omega
              case c5k6 => have := HBQ.out.size; simp at this ⊢; omega
              intro v9 w9 ho9 hg9 _
              have HB9 : Hid (Below w.heap.size w w9) := (HBQ.out.alloc HBQ.out.size _).grown hg9 (by have := HBQ.out.size; simp at this ⊢; omega) (fun g hg => (HOQ.out.lt g hg).1)
              have HO9 : Hid (w9.ownsRow w.heap.size 67 2 v9 (ws.take q ++ [(X, (6 : Int))]).length (pcC (ws.take q ++ [(X, (6 : Int))]))) := by
                show World.ownsRow _ _ _ _ _ _ _
                rw [pcC_append, List.length_append, HQL.out]
                exact ho9
              clear ho9 hg9
              go_wp2_with fail
              go_roundw
              case rel => exact ⟨i + 1, _, by omega, by go_num, HO9.out, by rw [HNX.out, List.length_append, HQL.out]; rfl, HR3.out, smallP_step HSM.out (by first | exact hXs | decide) (by decide), HB9.out⟩
              case measure => simp [intOf]; omega
        · have har : 2 ≤ ws.length := har
          obtain ⟨fa', fc', e', hfc, hrd⟩ := own_preads HO.out
          simp only [Value.slice.injEq] at e'
          obtain ⟨rfl, -, rfl⟩ := e'
          obtain ⟨lg, lo, rfl, hlg, a0, a1⟩ := hrd (ws.length - 2) (by omega)
          obtain ⟨lg', lo', e', -, b0, b1⟩ := hrd (ws.length - 1) (by omega)
          simp only [Option.some.injEq, Addr.mk.injEq] at e'
          obtain ⟨rfl, rfl, -⟩ := e'
          obtain ⟨hxs, hxk⟩ := HSM.out (ws.length - 2)
          have hxk := hxk (by omega)
          obtain ⟨hzs, hzk⟩ := HSM.out (ws.length - 1)
          have hzk := hzk (by omega)
          have hprev := toW_prev (ws := ws) (by omega)
          have hlast := toW_last (ws := ws) (by omega)
          obtain ⟨⟨x0, k0⟩, hxx⟩ : ∃ p, ws.getD (ws.length - 2) noPc = p := ⟨_, rfl⟩
          obtain ⟨⟨x1, k1⟩, hzz⟩ : ∃ p, ws.getD (ws.length - 1) noPc = p := ⟨_, rfl⟩
          rw [hxx] at a0 a1 hxs hxk hprev
          rw [hzz] at b0 b1 hzs hzk hlast
          simp only at a0 a1 hxs hxk hprev b0 b1 hzs hzk hlast
          obtain ⟨y0, hy0⟩ : ∃ y, wth x0 (tight k0) 3 = y := ⟨_, rfl⟩
          obtain ⟨y1, hy1⟩ : ∃ y, wth x1 (tight k1) 4 = y := ⟨_, rfl⟩
          have hys0 := wth_size x0 (tight k0) 3
          have hys1 := wth_size x1 (tight k1) 4
          rw [hy0] at hys0
          rw [hy1] at hys1
          obtain ⟨M, hM⟩ : ∃ X : ByteArray, y0 ++ { data := #[] } = X := ⟨_, rfl⟩
          obtain ⟨X, hX⟩ : ∃ X : ByteArray, M ++ y1 = X := ⟨_, rfl⟩
          have hMs : M.size = y0.size + 0 := by rw [← hM, ByteArray.size_append]; rfl
          have ka := fun W => run_string_add_sum (P := Tryd.prog) W y0 { data := #[] } (by rw [← ByteArray.size_append, hM]; omega)
          have kb := fun W => run_string_add_sum (P := Tryd.prog) W M y1 (by omega)
          have HX : Hid (textF (7, s) (toW ws) = X) := by
            show pairT (prevW _).1 (lastW _).1 (prevW _).2 (lastW _).2 3 _ = _
            rw [hlast, hprev]
            simp only [pairT]
            rw [hy0, hy1]
            rw [← hX, ← hM]
            all_goals rfl
          have HY : Hid (wth x0 (tight k0) 3 = y0 ∧ wth x1 (tight k1) 4 = y1) := ⟨hy0, hy1⟩
          rw [hM] at ka
          rw [hX] at kb
          obtain ⟨q, hq⟩ : ∃ q, ws.length - 2 = q := ⟨_, rfl⟩
          have hql : (ws.take q).length = q := by rw [List.length_take]; omega
          have HQL : Hid ((ws.take q).length = q) := hql
          have HNX : Hid (freeN (ts.take (i + 1)) = some (q + 1)) := by have := HNX.out; show _ = _; rw [this, ← hq]; rfl
          obtain ⟨q1, hq1⟩ : ∃ q1, ws.length - 1 = q1 := ⟨_, rfl⟩
          have hqI : IntKind.i64.wrap ((ws.length : Int) - 2) = (q : Int) := by rw [IntKind.wrap_i64]; omega
          have hqI1 : IntKind.i64.wrap ((ws.length : Int) - 1) = (q1 : Int) := by rw [IntKind.wrap_i64]; omega
          have hq2 : (q : Int) < ws.length := by omega
          have hq3 : (q1 : Int) < ws.length := by omega
          have hqc : (q : Int) ≤ fc := by omega
          rw [hq] at a0 a1
          rw [hq1] at b0 b1
          have hbA : Below wr.heap.size wr (wr.alloc (.cells #[.string { data := #[] }, .int .i64 7] 67)) := (Below.refl wr.heap.size wr).alloc (Nat.le_refl _) _
          have HPA : PBlk w wr.heap.size 7 (.slice (some ⟨lg, lo, none⟩) ws.length fc) ws.length (pcC ws) (wr.alloc (.cells #[.string { data := #[] }, .int .i64 7] 67)) := ⟨⟨_, heap_alloc_new wr _⟩, HB.out.alloc hws _, HO.out.alloc _⟩
          have S0 : S7 w lg (lo + q * 2) (lo + q1 * 2) x0 x1 k0 k1 g (o + i * 2) 7 wr.heap.size (.slice (some ⟨lg, lo, none⟩) ws.length fc) ws.length (pcC ws) (wr.alloc (.cells #[.string { data := #[] }, .int .i64 7] 67)).drew := by
            have HPD : PBlk w wr.heap.size 7 (.slice (some ⟨lg, lo, none⟩) ws.length fc) ws.length (pcC ws) (wr.alloc (.cells #[.string { data := #[] }, .int .i64 7] 67)).drew := ⟨HPA.1, HPA.2.1.drew, own_drew HPA.2.2⟩
            refine ⟨?_, ?_, ?_, ?_, d1, (pblk_facts HPD).1, (pblk_facts HPD).2, HPD⟩
            · exact (below_cell hbA hlg).trans a0
            · exact (below_cell hbA hlg).trans a1
            · exact (below_cell hbA hlg).trans b0
            · exact (below_cell hbA hlg).trans b1
          have hlp : lg < wr.heap.size := hlg
          have hre : ((2 : Nat) : Int) = 2 := rfl
          clear hrd hy0 hy1 hX hM hlast hprev a0 a1 b0 b1 hql hxx hzz HPA hbA
          go_upto_region 16 with fail
          go_cut [10] (fun vp wx => vp = .pointer (some ⟨wr.heap.size, 0, none⟩) ∧ ∃ w2, S7 w lg (lo + q * 2) (lo + q1 * 2) x0 x1 k0 k1 g (o + i * 2) 7 wr.heap.size (.slice (some ⟨lg, lo, none⟩) ws.length fc) ws.length (pcC ws) w2 ∧ wx = w2.setCell ⟨wr.heap.size, 0, none⟩ (.string X))
          case first =>
            go_region_held3 (fun w' => S7 w lg (lo + q * 2) (lo + q1 * 2) x0 x1 k0 k1 g (o + i * 2) 7 wr.heap.size (.slice (some ⟨lg, lo, none⟩) ws.length fc) ws.length (pcC ws) w') (first | exact S0 | assumption | exact s7_step hg hlp (by assumption) (by assumption) | exact s7_set hg hlp hws rfl _ (by assumption)) (first
              | (go_at_call 31; refine (rank_any 7 _).mono ?_; rintro e a1 ⟨rfl, rfl⟩; rw [show ((rankN 7 : Nat) : Int) = 2 from rfl])
              | (go_at_call_of 30 (Value.string x0); refine (at_any x0 k0 hxk 2 (by omega) (by omega) _).mono ?_; rintro e a1 ⟨rfl, ha1⟩; rw [HY.out.1])
              | (go_at_call 30; refine (at_any x1 k1 hzk 3 (by omega) (by omega) _).mono ?_; rintro e a2 ⟨rfl, ha2⟩; rw [HY.out.2]))
            all_goals go_wp2_with fail
            all_goals go_meet
            all_goals exact ⟨rfl, _, s7_step hg hlp (by assumption) (s7_step hg hlp (by assumption) S0), rfl⟩
          case rest =>
            obtain ⟨rfl, w2, hS, rfl⟩ := hcut
            obtain ⟨⟨u2, hblk⟩, hB2, hO2⟩ := hS.2.2.2.2.2.2.2
            have HB2 : Hid (Below w.heap.size w w2) := hB2
            have HO2 : Hid (w2.ownsRow w.heap.size 67 2 (.slice (some ⟨lg, lo, none⟩) ws.length fc) ws.length (pcC ws)) := hO2
            clear hS hB2 hO2 S0 d1 d2
            have f0 : w2.frozen? ⟨wr.heap.size, 0, none⟩ = false := by simp [World.frozen?, hblk]
            have e0 : w2.cell? ⟨wr.heap.size, 0, none⟩ = some u2 := by simp [World.cell?, hblk]
            have hbS := blk_set (i := 0) hblk (.string X)
            have s0 : (w2.setCell ⟨wr.heap.size, 0, none⟩ (.string X)).cell? ⟨wr.heap.size, 0, none⟩ = some (.string X) := by simp [World.cell?, hbS]
            have s1 : (w2.setCell ⟨wr.heap.size, 0, none⟩ (.string X)).cell? ⟨wr.heap.size, 1, none⟩ = some (.int .i64 7) := by simp [World.cell?, hbS]
            have HSS : Hid ((w2.setCell ⟨wr.heap.size, 0, none⟩ (.string X)).heap.size = w2.heap.size) := by show _ = _; simp
            have HBQ : Hid (Below w.heap.size w (w2.setCell ⟨wr.heap.size, 0, none⟩ (.string X))) := HB2.out.setCell (p := ⟨wr.heap.size, 0, none⟩) hws _
            have HOQ : Hid ((w2.setCell ⟨wr.heap.size, 0, none⟩ (.string X)).ownsRow w.heap.size 67 2 (.slice (some ⟨lg, lo, none⟩) q fc) q (pcC (ws.take q))) := by
              have := own_cut2 HO2.out q (by omega)
              rw [pcC_take] at this
              refine ownsRow_setCell_other this (fun hh => ?_) _
              have h9 := (HO.out.lt wr.heap.size hh).2
              omega
            have hq4 : q ≤ 4000 := by omega
            clear hblk hbS
            by_cases hbig : 2000 < X.size
            · have hbI : (2000 : Int) < X.size := by omega
              have HPN : Hid (rprintV k ts = (ByteArray.empty, 40)) := by show _ = _; rw [HPV.out, HH.out, HX.out, if_pos hbig]
              go_wp2_with fail
              go_ret2
              exact ⟨by rw [HPN.out]; rfl, HBQ.out⟩
            · have hbI : ¬ (2000 : Int) < X.size := by omega
              have hXs : X.size ≤ 2000 := by omega
              have HR3 : Hid (runL 2000 ts [] = runL 2000 (ts.drop (i + 1)) (toW (ws.take q ++ [(X, (7 : Int))]))) := by
                have := HH.out
                show _ = _
                rw [this, HX.out, if_neg hbig, pstep_toW HX.out]
                rw [show ws.length - arity ((7 : Int), s).1 = q from hq]
              clear hq hbig
              go_wp2_with (at_builtin; refine (fun (h : True → _) => h trivial) ?_)
              intro _
              refine wpList_append_own _ rfl _ _ 65 rfl w.heap.size 67 i0 (.agg #[.string ByteArray.empty, .int .i64 0]) 2 24 Tryd.underlying65 hi0 hz0 hz1 hz2 rfl (by decide) _ _ _ rfl (HOQ.out.alloc _) ⟨w2.heap.size, 0, none⟩ 1 1 [.string X, .int .i64 7] rfl rfl ?c1k7 ?c2k7 ?c3k7 ?c4k7 ?c5k7 ?_
              case c1k7 => have h2 := two_new (w2.setCell ⟨wr.heap.size, 0, none⟩ (.string X)) (.string X) (.int .i64 7) 67; rw [HSS.out] at h2; exact h2
              case c2k7 => intro u hu; simp at hu; rcases hu with rfl | rfl <;> rfl
              case c3k7 => unfold maxLen; omega
              case c4k7 => omega
              case c5k7 => have := HBQ.out.size; simp at this ⊢; omega
              intro v9 w9 ho9 hg9 _
              have HB9 : Hid (Below w.heap.size w w9) := (HBQ.out.alloc HBQ.out.size _).grown hg9 (by have := HBQ.out.size; simp at this ⊢; omega) (fun g hg => (HOQ.out.lt g hg).1)
              have HO9 : Hid (w9.ownsRow w.heap.size 67 2 v9 (ws.take q ++ [(X, (7 : Int))]).length (pcC (ws.take q ++ [(X, (7 : Int))]))) := by
                show World.ownsRow _ _ _ _ _ _ _
                rw [pcC_append, List.length_append, HQL.out]
                exact ho9
              clear ho9 hg9
              go_wp2_with fail
              go_roundw
              case rel => exact ⟨i + 1, _, by omega, by go_num, HO9.out, by rw [HNX.out, List.length_append, HQL.out]; rfl, HR3.out, smallP_step HSM.out (by first | exact hXs | decide) (by decide), HB9.out⟩
              case measure => simp [intOf]; omega
        · have har : 1 ≤ ws.length := har
          obtain ⟨fa', fc', e', hfc, hrd⟩ := own_preads HO.out
          simp only [Value.slice.injEq] at e'
          obtain ⟨rfl, -, rfl⟩ := e'
          obtain ⟨lg, lo, rfl, hlg, x0, x1⟩ := hrd (ws.length - 1) (by omega)
          obtain ⟨hxs, hxk⟩ := HSM.out (ws.length - 1)
          have hxk := hxk (by omega)
          have hlast := toW_last (ws := ws) (by omega)
          obtain ⟨⟨x, kx⟩, hxx⟩ : ∃ p, ws.getD (ws.length - 1) noPc = p := ⟨_, rfl⟩
          rw [hxx] at x0 x1 hxs hxk hlast
          simp only at x0 x1 hxs hxk hlast
          obtain ⟨y, hy⟩ : ∃ y, wth x (tight kx) 5 = y := ⟨_, rfl⟩
          have hys := wth_size x (tight kx) 5
          rw [hy] at hys
          have k1 := fun W => run_string_add_sum (P := Tryd.prog) W y { data := #[42] } (by show y.size + 1 ≤ _; omega)
          obtain ⟨X, hX⟩ : ∃ X : ByteArray, y ++ { data := #[42] } = X := ⟨_, rfl⟩
          have HX : Hid (textF (8, s) (toW ws) = X) := by
            show wth (lastW _).1 (lastW _).2 5 ++ _ = _
            rw [hlast]
            simp only
            rw [hy]
            exact hX
          have HY : Hid (wth x (tight kx) 5 = y) := hy
          rw [hX] at k1
          obtain ⟨q, hq⟩ : ∃ q, ws.length - 1 = q := ⟨_, rfl⟩
          have hql : (ws.take q).length = q := by rw [List.length_take]; omega
          have HQL : Hid ((ws.take q).length = q) := hql
          have HNX : Hid (freeN (ts.take (i + 1)) = some (q + 1)) := by have := HNX.out; show _ = _; rw [this, ← hq]; rfl
          have hqI : IntKind.i64.wrap ((ws.length : Int) - 1) = (q : Int) := by rw [IntKind.wrap_i64]; omega
          have hq1 : (q : Int) < ws.length := by omega
          have hqc : (q : Int) ≤ fc := by omega
          rw [hq] at x0 x1
          have y0 : (wr.alloc (.cells #[.string { data := #[] }, .int .i64 8] 67)).cell? ⟨lg, lo + q * 2, none⟩ = some (.string x) := by rw [below_cell ((Below.refl wr.heap.size wr).alloc (Nat.le_refl _) _) (by omega)]; exact x0
          have y1 : (wr.alloc (.cells #[.string { data := #[] }, .int .i64 8] 67)).cell? ⟨lg, lo + q * 2 + 1, none⟩ = some (.int .i64 kx) := by rw [below_cell ((Below.refl wr.heap.size wr).alloc (Nat.le_refl _) _) (by omega)]; exact x1
          have HPB : Hid (RowAt (wr.alloc (.cells #[.string { data := #[] }, .int .i64 8] 67)) wr.heap.size #[.string { data := #[] }, .int .i64 8]) := RowAt.last _ _ _
          have HBA : Hid (Below w.heap.size w (wr.alloc (.cells #[.string { data := #[] }, .int .i64 8] 67))) := HB.out.alloc hws _
          have HOA : Hid ((wr.alloc (.cells #[.string { data := #[] }, .int .i64 8] 67)).ownsRow w.heap.size 67 2 (.slice (some ⟨lg, lo, none⟩) ws.length fc) ws.length (pcC ws)) := HO.out.alloc _
          clear hrd hy hX hlast x0 x1 hql hxx
          go_wp2_with fail
          refine (at_any x kx hxk 4 (by omega) (by omega) _).mono ?_
          rintro e w2 ⟨rfl, hb2⟩
          rw [HY.out]
          have HB2 : Hid (Below w.heap.size w w2) := go_on HBA.out hb2
          have HO2 : Hid (w2.ownsRow w.heap.size 67 2 (.slice (some ⟨lg, lo, none⟩) ws.length fc) ws.length (pcC ws)) := own_below HOA.out hb2
          have hblk : w2.heap[wr.heap.size]? = some (.cells #[.string { data := #[] }, .int .i64 8] 67 (0, 0)) := (hb2.block _ (by simp)).trans (heap_alloc_new wr _)
          clear hb2 d1 d2 y0 y1
          have f0 : w2.frozen? ⟨wr.heap.size, 0, none⟩ = false := by simp [World.frozen?, hblk]
          have e0 : w2.cell? ⟨wr.heap.size, 0, none⟩ = some (.string { data := #[] }) := by simp [World.cell?, hblk]
          have hbS := blk_set (i := 0) hblk (.string X)
          have s0 : (w2.setCell ⟨wr.heap.size, 0, none⟩ (.string X)).cell? ⟨wr.heap.size, 0, none⟩ = some (.string X) := by simp [World.cell?, hbS]
          have s1 : (w2.setCell ⟨wr.heap.size, 0, none⟩ (.string X)).cell? ⟨wr.heap.size, 1, none⟩ = some (.int .i64 8) := by simp [World.cell?, hbS]
          have HSS : Hid ((w2.setCell ⟨wr.heap.size, 0, none⟩ (.string X)).heap.size = w2.heap.size) := by show _ = _; simp
          have HBQ : Hid (Below w.heap.size w (w2.setCell ⟨wr.heap.size, 0, none⟩ (.string X))) := HB2.out.setCell (p := ⟨wr.heap.size, 0, none⟩) hws _
          have HOQ : Hid ((w2.setCell ⟨wr.heap.size, 0, none⟩ (.string X)).ownsRow w.heap.size 67 2 (.slice (some ⟨lg, lo, none⟩) q fc) q (pcC (ws.take q))) := by
            have := own_cut2 HO2.out q (by omega)
            rw [pcC_take] at this
            refine ownsRow_setCell_other this (fun hh => ?_) _
            have h9 := (HO.out.lt wr.heap.size hh).2
            omega
          have hq4 : q ≤ 4000 := by omega
          clear hblk hbS
          by_cases hbig : 2000 < X.size
          · have hbI : (2000 : Int) < X.size := by omega
            have HPN : Hid (rprintV k ts = (ByteArray.empty, 40)) := by show _ = _; rw [HPV.out, HH.out, HX.out, if_pos hbig]
            go_wp2_with fail
            go_ret2
            exact ⟨by rw [HPN.out]; rfl, HBQ.out⟩
          · have hbI : ¬ (2000 : Int) < X.size := by omega
            have hXs : X.size ≤ 2000 := by omega
            have HR3 : Hid (runL 2000 ts [] = runL 2000 (ts.drop (i + 1)) (toW (ws.take q ++ [(X, (8 : Int))]))) := by
              have := HH.out
              show _ = _
              rw [this, HX.out, if_neg hbig, pstep_toW HX.out]
              rw [show ws.length - arity ((8 : Int), s).1 = q from hq]
            clear hq hbig
            go_wp2_with (at_builtin; refine (fun (h : True → _) => h trivial) ?_)
            intro _
            refine wpList_append_own _ rfl _ _ 65 rfl w.heap.size 67 i0 (.agg #[.string ByteArray.empty, .int .i64 0]) 2 24 Tryd.underlying65 hi0 hz0 hz1 hz2 rfl (by decide) _ _ _ rfl (HOQ.out.alloc _) ⟨w2.heap.size, 0, none⟩ 1 1 [.string X, .int .i64 8] rfl rfl ?c1k8 ?c2k8 ?c3k8 ?c4k8 ?c5k8 ?_
            case c1k8 => have h2 := two_new (w2.setCell ⟨wr.heap.size, 0, none⟩ (.string X)) (.string X) (.int .i64 8) 67; rw [HSS.out] at h2; exact h2
            case c2k8 => intro u hu; simp at hu; rcases hu with rfl | rfl <;> rfl
            case c3k8 => unfold maxLen; omega
            case c4k8 => omega
            case c5k8 => have := HBQ.out.size; simp at this ⊢; omega
            intro v9 w9 ho9 hg9 _
            have HB9 : Hid (Below w.heap.size w w9) := (HBQ.out.alloc HBQ.out.size _).grown hg9 (by have := HBQ.out.size; simp at this ⊢; omega) (fun g hg => (HOQ.out.lt g hg).1)
            have HO9 : Hid (w9.ownsRow w.heap.size 67 2 v9 (ws.take q ++ [(X, (8 : Int))]).length (pcC (ws.take q ++ [(X, (8 : Int))]))) := by
              show World.ownsRow _ _ _ _ _ _ _
              rw [pcC_append, List.length_append, HQL.out]
              exact ho9
            clear ho9 hg9
            go_wp2_with fail
            go_roundw
            case rel => exact ⟨i + 1, _, by omega, by go_num, HO9.out, by rw [HNX.out, List.length_append, HQL.out]; rfl, HR3.out, smallP_step HSM.out (by first | exact hXs | decide) (by decide), HB9.out⟩
            case measure => simp [intOf]; omega
        · have har : 1 ≤ ws.length := har
          obtain ⟨fa', fc', e', hfc, hrd⟩ := own_preads HO.out
          simp only [Value.slice.injEq] at e'
          obtain ⟨rfl, -, rfl⟩ := e'
          obtain ⟨lg, lo, rfl, hlg, x0, x1⟩ := hrd (ws.length - 1) (by omega)
          obtain ⟨hxs, hxk⟩ := HSM.out (ws.length - 1)
          have hxk := hxk (by omega)
          have hlast := toW_last (ws := ws) (by omega)
          obtain ⟨⟨x, kx⟩, hxx⟩ : ∃ p, ws.getD (ws.length - 1) noPc = p := ⟨_, rfl⟩
          rw [hxx] at x0 x1 hxs hxk hlast
          simp only at x0 x1 hxs hxk hlast
          obtain ⟨y, hy⟩ : ∃ y, wth x (tight kx) 4 = y := ⟨_, rfl⟩
          have hys := wth_size x (tight kx) 4
          rw [hy] at hys
          have k1 := fun W => run_string_add_sum (P := Tryd.prog) W { data := #[33] } y (by show 1 + y.size ≤ _; omega)
          obtain ⟨X, hX⟩ : ∃ X : ByteArray, { data := #[33] } ++ y = X := ⟨_, rfl⟩
          have HX : Hid (textF (9, s) (toW ws) = X) := by
            show _ ++ wth (lastW _).1 (lastW _).2 4 = _
            rw [hlast]
            simp only
            rw [hy]
            exact hX
          have HY : Hid (wth x (tight kx) 4 = y) := hy
          rw [hX] at k1
          obtain ⟨q, hq⟩ : ∃ q, ws.length - 1 = q := ⟨_, rfl⟩
          have hql : (ws.take q).length = q := by rw [List.length_take]; omega
          have HQL : Hid ((ws.take q).length = q) := hql
          have HNX : Hid (freeN (ts.take (i + 1)) = some (q + 1)) := by have := HNX.out; show _ = _; rw [this, ← hq]; rfl
          have hqI : IntKind.i64.wrap ((ws.length : Int) - 1) = (q : Int) := by rw [IntKind.wrap_i64]; omega
          have hq1 : (q : Int) < ws.length := by omega
          have hqc : (q : Int) ≤ fc := by omega
          rw [hq] at x0 x1
          have y0 : (wr.alloc (.cells #[.string { data := #[] }, .int .i64 9] 67)).cell? ⟨lg, lo + q * 2, none⟩ = some (.string x) := by rw [below_cell ((Below.refl wr.heap.size wr).alloc (Nat.le_refl _) _) (by omega)]; exact x0
          have y1 : (wr.alloc (.cells #[.string { data := #[] }, .int .i64 9] 67)).cell? ⟨lg, lo + q * 2 + 1, none⟩ = some (.int .i64 kx) := by rw [below_cell ((Below.refl wr.heap.size wr).alloc (Nat.le_refl _) _) (by omega)]; exact x1
          have HPB : Hid (RowAt (wr.alloc (.cells #[.string { data := #[] }, .int .i64 9] 67)) wr.heap.size #[.string { data := #[] }, .int .i64 9]) := RowAt.last _ _ _
          have HBA : Hid (Below w.heap.size w (wr.alloc (.cells #[.string { data := #[] }, .int .i64 9] 67))) := HB.out.alloc hws _
          have HOA : Hid ((wr.alloc (.cells #[.string { data := #[] }, .int .i64 9] 67)).ownsRow w.heap.size 67 2 (.slice (some ⟨lg, lo, none⟩) ws.length fc) ws.length (pcC ws)) := HO.out.alloc _
          clear hrd hy hX hlast x0 x1 hql hxx
          go_wp2_with fail
          refine (at_any x kx hxk 3 (by omega) (by omega) _).mono ?_
          rintro e w2 ⟨rfl, hb2⟩
          rw [HY.out]
          have HB2 : Hid (Below w.heap.size w w2) := go_on HBA.out hb2
          have HO2 : Hid (w2.ownsRow w.heap.size 67 2 (.slice (some ⟨lg, lo, none⟩) ws.length fc) ws.length (pcC ws)) := own_below HOA.out hb2
          have hblk : w2.heap[wr.heap.size]? = some (.cells #[.string { data := #[] }, .int .i64 9] 67 (0, 0)) := (hb2.block _ (by simp)).trans (heap_alloc_new wr _)
          clear hb2 d1 d2 y0 y1
          have f0 : w2.frozen? ⟨wr.heap.size, 0, none⟩ = false := by simp [World.frozen?, hblk]
          have e0 : w2.cell? ⟨wr.heap.size, 0, none⟩ = some (.string { data := #[] }) := by simp [World.cell?, hblk]
          have hbS := blk_set (i := 0) hblk (.string X)
          have s0 : (w2.setCell ⟨wr.heap.size, 0, none⟩ (.string X)).cell? ⟨wr.heap.size, 0, none⟩ = some (.string X) := by simp [World.cell?, hbS]
          have s1 : (w2.setCell ⟨wr.heap.size, 0, none⟩ (.string X)).cell? ⟨wr.heap.size, 1, none⟩ = some (.int .i64 9) := by simp [World.cell?, hbS]
          have HSS : Hid ((w2.setCell ⟨wr.heap.size, 0, none⟩ (.string X)).heap.size = w2.heap.size) := by show _ = _; simp
          have HBQ : Hid (Below w.heap.size w (w2.setCell ⟨wr.heap.size, 0, none⟩ (.string X))) := HB2.out.setCell (p := ⟨wr.heap.size, 0, none⟩) hws _
          have HOQ : Hid ((w2.setCell ⟨wr.heap.size, 0, none⟩ (.string X)).ownsRow w.heap.size 67 2 (.slice (some ⟨lg, lo, none⟩) q fc) q (pcC (ws.take q))) := by
            have := own_cut2 HO2.out q (by omega)
            rw [pcC_take] at this
            refine ownsRow_setCell_other this (fun hh => ?_) _
            have h9 := (HO.out.lt wr.heap.size hh).2
            omega
          have hq4 : q ≤ 4000 := by omega
          clear hblk hbS
          by_cases hbig : 2000 < X.size
          · have hbI : (2000 : Int) < X.size := by omega
            have HPN : Hid (rprintV k ts = (ByteArray.empty, 40)) := by show _ = _; rw [HPV.out, HH.out, HX.out, if_pos hbig]
            go_wp2_with fail
            go_ret2
            exact ⟨by rw [HPN.out]; rfl, HBQ.out⟩
          · have hbI : ¬ (2000 : Int) < X.size := by omega
            have hXs : X.size ≤ 2000 := by omega
            have HR3 : Hid (runL 2000 ts [] = runL 2000 (ts.drop (i + 1)) (toW (ws.take q ++ [(X, (9 : Int))]))) := by
              have := HH.out
              show _ = _
              rw [this, HX.out, if_neg hbig, pstep_toW HX.out]
              rw [show ws.length - arity ((9 : Int), s).1 = q from hq]
            clear hq hbig
            go_wp2_with (at_builtin; refine (fun (h : True → _) => h trivial) ?_)
            intro _
            refine wpList_append_own _ rfl _ _ 65 rfl w.heap.size 67 i0 (.agg #[.string ByteArray.empty, .int .i64 0]) 2 24 Tryd.underlying65 hi0 hz0 hz1 hz2 rfl (by decide) _ _ _ rfl (HOQ.out.alloc _) ⟨w2.heap.size, 0, none⟩ 1 1 [.string X, .int .i64 9] rfl rfl ?c1k9 ?c2k9 ?c3k9 ?c4k9 ?c5k9 ?_
            case c1k9 => have h2 := two_new (w2.setCell ⟨wr.heap.size, 0, none⟩ (.string X)) (.string X) (.int .i64 9) 67; rw [HSS.out] at h2; exact h2
            case c2k9 => intro u hu; simp at hu; rcases hu with rfl | rfl <;> rfl
            case c3k9 => unfold maxLen; omega
            case c4k9 => omega
            case c5k9 => have := HBQ.out.size; simp at this ⊢; omega
            intro v9 w9 ho9 hg9 _
            have HB9 : Hid (Below w.heap.size w w9) := (HBQ.out.alloc HBQ.out.size _).grown hg9 (by have := HBQ.out.size; simp at this ⊢; omega) (fun g hg => (HOQ.out.lt g hg).1)
            have HO9 : Hid (w9.ownsRow w.heap.size 67 2 v9 (ws.take q ++ [(X, (9 : Int))]).length (pcC (ws.take q ++ [(X, (9 : Int))]))) := by
              show World.ownsRow _ _ _ _ _ _ _
              rw [pcC_append, List.length_append, HQL.out]
              exact ho9
            clear ho9 hg9
            go_wp2_with fail
            go_roundw
            case rel => exact ⟨i + 1, _, by omega, by go_num, HO9.out, by rw [HNX.out, List.length_append, HQL.out]; rfl, HR3.out, smallP_step HSM.out (by first | exact hXs | decide) (by decide), HB9.out⟩
            case measure => simp [intOf]; omega
      · have hiI : ¬ (i : Int) < ts.length := by omega
        obtain rfl : i = ts.length := by omega
        have hl1 : ws.length = 1 := by
          have := HFR.out
          rw [List.take_length, HF.out, Option.some.injEq] at this
          exact this.symm
        obtain ⟨a', c', e', hc', hr'⟩ := own_preads HO.out
        obtain ⟨g, o, e2, hg, p0, _⟩ := hr' 0 (by omega)
        simp only [Value.slice.injEq] at e'
        rw [e2] at e'
        obtain ⟨rfl, -, -⟩ := e'
        obtain ⟨X, hX⟩ : ∃ X, (ws.getD 0 noPc).1 = X := ⟨_, rfl⟩
        rw [hX] at p0
        have hPN : rprintV k ts = if 1000 < X.size then (ByteArray.empty, 40) else (X, 0) := by
          rw [HPV.out, HRUN.out, List.drop_length]
          show (if 1000 < ((toW ws).getD 0 noWr).1.size then _ else _) = _
          have : ((toW ws).getD 0 noWr).1 = X := by
            rw [← hX]
            unfold toW
            rw [List.getD_eq_getElem?_getD, List.getElem?_map, List.getD_eq_getElem?_getD, List.getElem?_eq_getElem (by omega)]
            rfl
          rw [this]
        have HPN : Hid (rprintV k ts = if 1000 < X.size then (ByteArray.empty, 40) else (X, 0)) := hPN
        rw [Nat.zero_mul, Nat.add_zero] at p0
        have hlI : (ws.length : Int) = 1 := by omega
        clear hr' e2 hX hPN
        by_cases hbig : 1000 < X.size
        · have hbI : (1000 : Int) < X.size := by omega
          have HPF : Hid (rprintV k ts = (ByteArray.empty, 40)) := by show _ = _; rw [HPN.out, if_pos hbig]
          go_wp2_with fail
          go_ret2
          exact ⟨by rw [HPF.out]; rfl, HB.out⟩
        · have hbI : ¬ (1000 : Int) < X.size := by omega
          have HPF : Hid (rprintV k ts = (X, 0)) := by show _ = _; rw [HPN.out, if_neg hbig]
          go_wp2_with fail
          go_ret2
          exact ⟨by rw [HPF.out]; rfl, HB.out⟩
  · have hcb : (c != 0) = true := by simpa using hc0
    have HPN : Hid (rprintV k ts = (ByteArray.empty, c)) := by show _ = _; rw [rprintV, hc, if_pos hc0]
    rw [HPN.out]
    clear hc hc0 hv
    go_enter Tryd.func17, Tryd.ntmps17
    go_wp2_with fail
    refine (rcheck_any k hk _ ts _ HV.out hm HP.out).mono ?_
    rintro e w1 ⟨rfl, hb1⟩
    rw [HC.out]
    have HB1 : Hid (Below w.heap.size w w1) := hb1
    clear hb1
    go_wp2_with fail
    go_ret2
    exact ⟨rfl, HB1.out⟩
end Go.Proofs.YtogcnopmgfpojaaDoor
