/- Y62 Y61 Y63 Y64, in one text. -/
import Derived.Shelf.LaysM
import Derived.Shelf.Strconv.Clone
import Derived.Test.YthhlamehbcidgaaY57
import Derived.Test.YthhlamehbcidgaaW1
import Derived.Test.YthhlamehbcidgaaY55
import Derived.Test.YthhlamehbcidgaaY46
namespace Go.Proofs.Ythhlamehbcidgaa
open Go.RowKit Go.Lib Go.Shelf

def renClone : Go.Shelf.Ren := ⟨fun | 316 => 88 | n => n, fun | 9 => 9 | 3 => 3 | 4 => 4 | 37 => 106 | 0 => 0 | 127 => 146 | 5 => 5 | n => n, fun | n => n⟩
theorem laysClone : Go.Proofs.LaysM.n316 Try.prog renClone := {
  mixed := by kernel_rfl
  f316 := Try.func88.trans (congrArg some (by kernel_rfl))
  t0 := Try.underlying0
  a0 := Try.isAgg0
  z0 := Try.sizeOf0
  v0 := Try.zeroValue0
  t3 := Try.underlying3
  a3 := Try.isAgg3
  z3 := Try.sizeOf3
  v3 := Try.zeroValue3
  t4 := Try.underlying4
  a4 := Try.isAgg4
  z4 := Try.sizeOf4
  v4 := Try.zeroValue4
  t9 := Try.underlying9
  a9 := Try.isAgg9
  z9 := Try.sizeOf9
  v9 := Try.zeroValue9
  t37 := Try.underlying106
  a37 := Try.isAgg106
  z37 := Try.sizeOf106
  v37 := Try.zeroValue106
  t127 := Try.underlying146
  a127 := Try.isAgg146
  z127 := Try.sizeOf146
  v127 := Try.zeroValue146
  t5 := Try.underlying5
  a5 := Try.isAgg5
  z5 := Try.sizeOf5
  v5 := Try.zeroValue5
  i0 := by kernel_rfl
  i3 := by kernel_rfl
  i4 := by kernel_rfl
  i5 := by kernel_rfl
  i9 := by kernel_rfl
  i37 := by kernel_rfl
  i127 := by kernel_rfl }
theorem slClone_any (s : ByteArray) (w : World) (h : s.size ≤ 281474976710656) :
    Calls Try.prog 88 #[.string s] w fun e w' => e = .returned (.string s) ∧ Below w.heap.size w w' := Any.stringslite_Clone laysClone s w h

set_option maxHeartbeats 400000 in
theorem sClone_any (s : ByteArray) (w : World) (h : s.size ≤ 281474976710656) :
    Calls Try.prog 45 #[.string s] w fun e w' => e = .returned (.string s) ∧ Below w.heap.size w w' := by
  go_enter Try.func45, Try.ntmps45
  go_wp2_with (go_at_call 88; refine (slClone_any s _ h).mono ?_; rintro e w1 ⟨rfl, b1⟩)
  go_ret
  exact ⟨rfl, b1⟩
end Go.Proofs.Ythhlamehbcidgaa

namespace Go.Proofs.Ythhlamehbcidgaa
open Go Go.RowKit Go.Lib
set_option linter.unusedVariables false

theorem cv_zero {bs : List UInt8} {n : Nat} {mv : Nat → Int} (h : cvE bs n mv = 0) : ∀ b ∈ bs, plN b < n ∧ mv (plN b) = 0 := by
  unfold cvE at h
  split at h
  · omega
  · rename_i h1
    intro b hb
    refine ⟨Nat.lt_of_not_le (fun h2 => h1 (List.any_eq_true.2 ⟨b, hb, decide_eq_true h2⟩)), ?_⟩
    cases hf : (bs.map fun b => mv (plN b)).find? fun e => e != 0 with
    | none =>
      rw [List.find?_eq_none] at hf
      have := hf _ (List.mem_map.2 ⟨b, hb, rfl⟩)
      simpa using this
    | some e =>
      rw [hf] at h
      have := List.find?_some hf
      simp at this h
      exact absurd h this
theorem runS_gd : ∀ (L : List (Int × Nat)) (q d : Int), runS q L = some d → ∀ p ∈ L, gdS p.1 p.2 = true
  | [], _, _, _, p, hp => by simp at hp
  | (a, n) :: L, q, d, h, p, hp => by
    rw [runS] at h
    split at h
    · rename_i h1
      rcases List.mem_cons.1 hp with rfl | hp
      · exact h1.1
      · exact runS_gd L _ d h p hp
    · simp at h
theorem sideB_gd {L : List (Int × Nat)} (h : sideB L = true) : ∀ p ∈ L, gdS p.1 p.2 = true := by
  unfold sideB at h
  split at h
  · rename_i q hq
    exact runS_gd L 0 q hq
  · simp at h
theorem pl_xyz : ∀ c : Fin 256, 0 ≤ plI c.val → c.val.toUInt8 ∈ xyz4 ∧ c.val.toUInt8.toNat = c.val := by decide +kernel
theorem chk_okW {k : Int} {x : ByteArray} (h1 : 1 ≤ k) (h8 : k ≤ 8) (h : chk k x = 0) : okW k x.data.toList := by
  unfold chk at h
  rw [if_neg (by omega)] at h
  split at h
  · rename_i h2
    exact fun c hc => List.all_eq_true.1 h2 c hc
  · omega
theorem vok_of {L : List (Int × Nat)} {k : Int} {Ws : List ByteArray} (h1 : 1 ≤ k) (h8 : k ≤ 8) (hs : sideB L = true) (hb : ∀ p ∈ L, p.2 < 256) (h : (cvE (vbs [L] 4) Ws.length (fun p => chk k (Ws.getD p ⟨#[]⟩))) = 0) : VOK k Ws (tmOf L) := by
  intro c hc
  have hm : ((2 : Int), c) ∈ L := by
    rw [tmOf_sg hs]
    exact List.mem_map.2 ⟨(2, c), hc, rfl⟩
  have hg := sideB_gd hs _ hm
  have h0 : 0 ≤ plI c := by
    unfold gdS at hg
    simpa using hg
  have hlt := hb _ hm
  obtain ⟨hx, he⟩ := pl_xyz ⟨c, hlt⟩ h0
  simp only at hx he
  have hv : c.toUInt8 ∈ vbs [L] 4 := by
    unfold vbs
    rw [List.mem_filter]
    refine ⟨hx, ?_⟩
    rw [he]
    simp only [List.any_cons, List.any_nil, Bool.or_false]
    unfold occ
    rw [List.any_eq_true]
    exact ⟨_, hm, by simp⟩
  obtain ⟨h2, h3⟩ := cv_zero h _ hv
  have e : plN c.toUInt8 = (plI c).toNat := by unfold plN; rw [he]
  rw [e] at h2 h3
  exact ⟨h0, h2, chk_okW h1 h8 h3⟩
theorem SgR.lt {w : World} {v : Value} {L : List (Int × Nat)} (h : SgR w v L) : ∀ p ∈ L, p.2 < 256 := by
  intro p hp
  obtain ⟨i, hi, e⟩ := List.getElem_of_mem hp
  obtain ⟨a, cap, _, hr⟩ := h
  obtain ⟨_, _, _, _, _, _, h3⟩ := hr i hi
  rw [List.getD_eq_getElem?_getD, List.getElem?_eq_getElem hi, Option.getD_some, e] at h3
  exact h3
/-- What Word tells. -/
noncomputable def wdE (k : Int) (L : List (Int × Nat)) (Ws : List ByteArray) (om : Int) : Int :=
  if k < 1 ∨ 8 < k then 20 else if ck1 L ≠ 0 then ck1 L else if om < 1 then 1 else if (cvE (vbs [L] 4) Ws.length (fun p => chk k (Ws.getD p ⟨#[]⟩))) ≠ 0 then (cvE (vbs [L] 4) Ws.length (fun p => chk k (Ws.getD p ⟨#[]⟩))) else if spO Ws om (tmOf L) = true then 0 else 6
noncomputable def wdU (k : Int) (L : List (Int × Nat)) (Ws : List ByteArray) (om : Int) : List UInt8 := if wdE k L Ws om = 0 then spW Ws om (tmOf L) else []
def WdQ (k : Int) (L : List (Int × Nat)) (Ws : List ByteArray) (om : Int) (w : World) (e : Ending) (w' : World) : Prop := e = .returned (.tuple #[.string (str (wdU k L Ws om)), .int .i64 (wdE k L Ws om)]) ∧ Below w.heap.size w w'
theorem WdQ.err {k : Int} {L : List (Int × Nat)} {Ws : List ByteArray} {om er : Int} {w w' : World} (h : wdE k L Ws om = er) (h0 : er ≠ 0) (hb : Below w.heap.size w w') : WdQ k L Ws om w (.returned (.tuple #[.string ⟨#[]⟩, .int .i64 er])) w' := by
  refine ⟨?_, hb⟩
  unfold wdU
  rw [if_neg (by rw [h]; exact h0), h]
  rfl
/-- What stays while Word goes on. -/
structure WS (w : World) (k : Int) (y : World) : Prop where
  b : Below w.heap.size w y
  k : y.cell? ⟨w.heap.size, 0, none⟩ = some (.int .i64 k)
  l : w.heap.size < y.heap.size
theorem WS.on {w y z : World} {k : Int} (h : WS w k y) (hb : Below y.heap.size y z) : WS w k z := ⟨go_on h.b hb, by rw [below_cell hb h.l]; exact h.k, Nat.lt_of_lt_of_le h.l hb.size⟩

set_option maxHeartbeats 8000000 in
set_option maxRecDepth 100000 in
theorem word_any (k om : Int) (v vx : Value) (L : List (Int × Nat)) (Ws : List ByteArray) (w : World) (hv : SgR w v L) (hL : L.length ≤ 9223372036854775000) (hx : StR w vx Ws) (hW : Ws.length ≤ 9223372036854775000) :
    Calls Try.prog 23 #[.int .i64 k, v, vx, .int .i64 om] w (WdQ k L Ws om w) := by
  obtain ⟨a1, c1, e1⟩ := hv.len
  obtain ⟨a2, c2, e2⟩ := hx.len
  subst e1 e2
  have HSG : Hid (SgR w (.slice a1 L.length c1) L) := hv
  have HSX : Hid (StR w (.slice a2 Ws.length c2) Ws) := hx
  have HP0 : Hid (WS w k (w.alloc (.cells #[.int .i64 k] 3))) := ⟨below_new _ _, cell_at (heap_last _ _) rfl, by simp [World.size_alloc]⟩
  clear hv hx
  by_cases hk : k < 1 ∨ 8 < k
  · have HE : Hid (wdE k L Ws om = 20) := by show _ = _; unfold wdE; rw [if_pos hk]
    have hch : chk k ⟨#[]⟩ = 20 := chk_bad _ _ hk
    have HL : Hid (∀ y, Calls Try.prog 41 #[.int .i64 k, .string ⟨#[]⟩] y fun e w' => e = .returned (.int .i64 20) ∧ Below y.heap.size y w') := fun y => by rw [← hch]; exact check_any k _ y
    clear hk hch
    go_enter Try.func23, Try.ntmps23
    go_wp2_with fail
    refine Calls.mono (HL.out _) ?_
    rintro e w1 ⟨rfl, hb1⟩
    have HP1 : Hid (WS w k w1) := HP0.out.on hb1
    have k1 := HP1.out.k
    clear hb1
    go_wp2_with fail
    go_ret2
    exact WdQ.err HE.out (by decide) HP1.out.b
  have hk1 : 1 ≤ k := by omega
  have hk8 : k ≤ 8 := by omega
  have hch : chk k ⟨#[]⟩ = 0 := chk_ok _ _ hk1 hk8 (fun i hi => absurd hi (by show ¬ i < 0; omega))
  have HL : Hid (∀ y, Calls Try.prog 41 #[.int .i64 k, .string ⟨#[]⟩] y fun e w' => e = .returned (.int .i64 0) ∧ Below y.heap.size y w') := fun y => by rw [← hch]; exact check_any k _ y
  have HCH : Hid (∀ y, WS w k y → Calls Try.prog 39 #[.slice (some ⟨y.heap.size, 0, none⟩) 1 1] (y.alloc (.cells #[.slice a1 L.length c1] 22)) fun e w' => e = .returned (.int .i64 (ck1 L)) ∧ Below y.heap.size y w') := fun y hy => by
    have hbn := below_new y (.cells #[.slice a1 L.length c1] 22)
    rw [← ckN_one]
    refine (checkN_any y.heap.size [.slice a1 L.length c1] [L] 1 _ ⟨heap_last _ _, rfl, fun j hj => ?_⟩ (by show 1 ≤ 40000; decide)).mono ?_
    · have hj0 : j = 0 := by have : j < 1 := hj; omega
      subst hj0
      exact ⟨(HSG.out.below hy.b).below hbn, hL⟩
    · rintro e w' ⟨rfl, hb⟩
      exact ⟨rfl, go_on hbn hb⟩
  clear hch
  by_cases hc : ck1 L = 0
  rotate_left
  · have HE : Hid (wdE k L Ws om = ck1 L) := by show _ = _; unfold wdE; rw [if_neg hk, if_pos hc]
    obtain ⟨er, her⟩ : ∃ er, ck1 L = er := ⟨_, rfl⟩
    rw [her] at HE hc
    have HC : Hid (∀ y, WS w k y → Calls Try.prog 39 #[.slice (some ⟨y.heap.size, 0, none⟩) 1 1] (y.alloc (.cells #[.slice a1 L.length c1] 22)) fun e w' => e = .returned (.int .i64 er) ∧ Below y.heap.size y w') := fun y hy => by
      have := HCH.out y hy
      rw [her] at this
      exact this
    have HER : Hid (er ≠ 0) := hc
    have hneb : (er != 0) = true := by rw [bne_iff_ne]; exact hc
    have hned : decide (er ≠ 0) = true := decide_eq_true hc
    clear her HCH hk hk1 hk8
    go_enter Try.func23, Try.ntmps23
    go_wp2_with fail
    refine Calls.mono (HL.out _) ?_
    rintro e w1 ⟨rfl, hb1⟩
    have HP1 : Hid (WS w k w1) := HP0.out.on hb1
    have k1 := HP1.out.k
    clear hb1
    go_wp2_with fail
    refine Calls.mono (HC.out _ HP1.out) ?_
    rintro e w2 ⟨rfl, hb2⟩
    have HP2 : Hid (WS w k w2) := HP1.out.on hb2
    clear hb2 k1
    go_wp2_with fail
    go_ret2
    exact WdQ.err HE.out HER.out HP2.out.b
  have HC : Hid (∀ y, WS w k y → Calls Try.prog 39 #[.slice (some ⟨y.heap.size, 0, none⟩) 1 1] (y.alloc (.cells #[.slice a1 L.length c1] 22)) fun e w' => e = .returned (.int .i64 0) ∧ Below y.heap.size y w') := fun y hy => by
    have := HCH.out y hy
    rw [hc] at this
    exact this
  clear HCH
  by_cases ho : om < 1
  · have HE : Hid (wdE k L Ws om = 1) := by show _ = _; unfold wdE; rw [if_neg hk, if_neg (by rw [hc]; decide), if_pos ho]
    have hod : decide (om < 1) = true := decide_eq_true ho
    clear hk hk1 hk8 hc
    go_enter Try.func23, Try.ntmps23
    go_wp2_with fail
    refine Calls.mono (HL.out _) ?_
    rintro e w1 ⟨rfl, hb1⟩
    have HP1 : Hid (WS w k w1) := HP0.out.on hb1
    have k1 := HP1.out.k
    clear hb1
    go_wp2_with fail
    refine Calls.mono (HC.out _ HP1.out) ?_
    rintro e w2 ⟨rfl, hb2⟩
    have HP2 : Hid (WS w k w2) := HP1.out.on hb2
    clear hb2 k1
    go_wp2_with fail
    go_ret2
    exact WdQ.err HE.out (by decide) HP2.out.b
  have hod : decide (om < 1) = false := decide_eq_false ho
  have HVC : Hid (∀ y, WS w k y → Calls Try.prog 43 #[.slice a1 L.length c1, .slice a2 Ws.length c2, .func (Fn.func 42) #[] #[.pointer (some ⟨w.heap.size, 0, none⟩)]] y fun e w' => e = .returned (.int .i64 (cvE (vbs [L] 4) Ws.length (fun p => chk k (Ws.getD p ⟨#[]⟩)))) ∧ Below y.heap.size y w') := fun y hy => checkVS_any _ _ L Ws k _ y (HSG.out.below hy.b) hL (HSX.out.below hy.b) hW hy.k hy.l
  by_cases hcv : (cvE (vbs [L] 4) Ws.length (fun p => chk k (Ws.getD p ⟨#[]⟩))) = 0
  rotate_left
  · have HE : Hid (wdE k L Ws om = (cvE (vbs [L] 4) Ws.length (fun p => chk k (Ws.getD p ⟨#[]⟩)))) := by show _ = _; unfold wdE; rw [if_neg hk, if_neg (by rw [hc]; decide), if_neg ho, if_pos hcv]
    obtain ⟨er, her⟩ : ∃ er, (cvE (vbs [L] 4) Ws.length (fun p => chk k (Ws.getD p ⟨#[]⟩))) = er := ⟨_, rfl⟩
    rw [her] at HE hcv
    have HV : Hid (∀ y, WS w k y → Calls Try.prog 43 #[.slice a1 L.length c1, .slice a2 Ws.length c2, .func (Fn.func 42) #[] #[.pointer (some ⟨w.heap.size, 0, none⟩)]] y fun e w' => e = .returned (.int .i64 er) ∧ Below y.heap.size y w') := fun y hy => by
      have := HVC.out y hy
      rw [her] at this
      exact this
    have HER : Hid (er ≠ 0) := hcv
    have hneb : (er != 0) = true := by rw [bne_iff_ne]; exact hcv
    have hned : decide (er ≠ 0) = true := decide_eq_true hcv
    clear her HVC hk hk1 hk8 hc
    go_enter Try.func23, Try.ntmps23
    go_wp2_with fail
    refine Calls.mono (HL.out _) ?_
    rintro e w1 ⟨rfl, hb1⟩
    have HP1 : Hid (WS w k w1) := HP0.out.on hb1
    have k1 := HP1.out.k
    clear hb1
    go_wp2_with fail
    refine Calls.mono (HC.out _ HP1.out) ?_
    rintro e w2 ⟨rfl, hb2⟩
    have HP2 : Hid (WS w k w2) := HP1.out.on hb2
    clear hb2 k1
    go_wp2_with fail
    refine Calls.mono (HV.out _ HP2.out) ?_
    rintro e w3 ⟨rfl, hb3⟩
    have HP3 : Hid (WS w k w3) := HP2.out.on hb3
    have k3 := HP3.out.k
    clear hb3
    go_wp2_with fail
    go_ret2
    exact WdQ.err HE.out HER.out HP3.out.b
  have HV : Hid (∀ y, WS w k y → Calls Try.prog 43 #[.slice a1 L.length c1, .slice a2 Ws.length c2, .func (Fn.func 42) #[] #[.pointer (some ⟨w.heap.size, 0, none⟩)]] y fun e w' => e = .returned (.int .i64 0) ∧ Below y.heap.size y w') := fun y hy => by
    have := HVC.out y hy
    rw [hcv] at this
    exact this
  have hck : ¬ 400 < L.length ∧ sideB L = true := by
    unfold ck1 at hc
    split at hc
    · omega
    · rename_i h4
      split at hc
      · rename_i h5; exact ⟨h4, h5⟩
      · omega
  have hVOK := vok_of hk1 hk8 hck.2 HSG.out.lt hcv
  have es := tmOf_sg hck.2
  have hl : (tmOf L).sg.length = L.length := by have := congrArg List.length es; rw [intS_len] at this; omega
  have hom : 1 ≤ om := by omega
  obtain ⟨U, hU⟩ : ∃ U, spW Ws om (tmOf L) = U := ⟨_, rfl⟩
  obtain ⟨b, hb⟩ : ∃ b, spO Ws om (tmOf L) = b := ⟨_, rfl⟩
  have hUl : U.length ≤ 4096 := by rw [← hU]; exact spW_len Ws hom _
  have HSP : Hid (∀ y, WS w k y → Calls Try.prog 44 #[.int .i64 k, .slice a1 L.length c1, .slice a2 Ws.length c2, .int .i64 om] y fun e w' => e = .returned (.tuple #[.string (str U), .bool b]) ∧ Below y.heap.size y w') := fun y hy => by
    rw [← hU, ← hb]
    exact spelt_any (tmOf L) (by omega) k om _ _ Ws y hk1 hk8 hom hVOK (es ▸ (HSG.out.below hy.b)) (HSX.out.below hy.b)
  have HCL : Hid (∀ y, Calls Try.prog 45 #[.string (str U)] y fun e w' => e = .returned (.string (str U)) ∧ Below y.heap.size y w') := fun y => sClone_any _ y (by rw [str_size]; omega)
  have hE0 : wdE k L Ws om = if b = true then 0 else 6 := by unfold wdE; rw [if_neg hk, if_neg (by rw [hc]; decide), if_neg ho, if_neg (by rw [hcv]; decide), hb]
  have hU0 : b = true → wdU k L Ws om = U := fun h => by unfold wdU; rw [hE0, if_pos h, if_pos rfl, hU]
  clear HVC hVOK es hl hU hb hck hc hcv hk hk1 hk8 hom
  cases b with
  | false =>
    have HE : Hid (wdE k L Ws om = 6) := hE0
    clear hE0 hU0
    go_enter Try.func23, Try.ntmps23
    go_wp2_with fail
    refine Calls.mono (HL.out _) ?_
    rintro e w1 ⟨rfl, hb1⟩
    have HP1 : Hid (WS w k w1) := HP0.out.on hb1
    have k1 := HP1.out.k
    clear hb1
    go_wp2_with fail
    refine Calls.mono (HC.out _ HP1.out) ?_
    rintro e w2 ⟨rfl, hb2⟩
    have HP2 : Hid (WS w k w2) := HP1.out.on hb2
    clear hb2 k1
    go_wp2_with fail
    refine Calls.mono (HV.out _ HP2.out) ?_
    rintro e w3 ⟨rfl, hb3⟩
    have HP3 : Hid (WS w k w3) := HP2.out.on hb3
    have k3 := HP3.out.k
    clear hb3
    go_wp2_with fail
    refine Calls.mono (HSP.out _ HP3.out) ?_
    rintro e w4 ⟨rfl, hb4⟩
    have HP4 : Hid (WS w k w4) := HP3.out.on hb4
    clear hb4 k3
    go_wp2_with fail
    go_ret2
    exact WdQ.err HE.out (by decide) HP4.out.b
  | true =>
    have HE : Hid (wdU k L Ws om = U ∧ wdE k L Ws om = 0) := ⟨hU0 rfl, hE0⟩
    clear hE0 hU0
    go_enter Try.func23, Try.ntmps23
    go_wp2_with fail
    refine Calls.mono (HL.out _) ?_
    rintro e w1 ⟨rfl, hb1⟩
    have HP1 : Hid (WS w k w1) := HP0.out.on hb1
    have k1 := HP1.out.k
    clear hb1
    go_wp2_with fail
    refine Calls.mono (HC.out _ HP1.out) ?_
    rintro e w2 ⟨rfl, hb2⟩
    have HP2 : Hid (WS w k w2) := HP1.out.on hb2
    clear hb2 k1
    go_wp2_with fail
    refine Calls.mono (HV.out _ HP2.out) ?_
    rintro e w3 ⟨rfl, hb3⟩
    have HP3 : Hid (WS w k w3) := HP2.out.on hb3
    have k3 := HP3.out.k
    clear hb3
    go_wp2_with fail
    refine Calls.mono (HSP.out _ HP3.out) ?_
    rintro e w4 ⟨rfl, hb4⟩
    have HP4 : Hid (WS w k w4) := HP3.out.on hb4
    clear hb4 k3
    go_wp2_with fail
    refine Calls.mono (HCL.out _) ?_
    rintro e w5 ⟨rfl, hb5⟩
    have HP5 : Hid (WS w k w5) := HP4.out.on hb5
    clear hb5
    go_wp2_with fail
    go_ret2
    exact ⟨by rw [HE.out.1, HE.out.2]; rfl, HP5.out.b⟩
end Go.Proofs.Ythhlamehbcidgaa

namespace Go.Proofs.Ythhlamehbcidgaa
open Go Go.RowKit Go.Lib
set_option linter.unusedVariables false

/-- One sign moves the stack. -/
def stp (S : List Tm) (p : Nat × Nat) : List Tm :=
  if p.1 = 1 then S ++ [.one] else if p.1 = 2 then S ++ [.var p.2] else if p.1 = 4 then S.dropLast ++ [.om (S.getLastD .one)]
  else S.dropLast.dropLast ++ [.mul (S.dropLast.getLastD .one) (S.getLastD .one)]
/-- What the stack must be where a sign comes. -/
def lc (S : List Tm) (p : Nat × Nat) : Prop :=
  p.1 = 1 ∨ p.1 = 2 ∨ (p.1 = 4 ∧ ∃ S' t, S = S' ++ [t]) ∨ (p.1 = 3 ∧ ∃ S' a b, S = S' ++ [a] ++ [b])
def Gd : List Tm → Sg → Prop
  | _, [] => True
  | S, p :: l => lc S p ∧ Gd (stp S p) l
theorem stp_om (S : List Tm) (t : Tm) (c : Nat) : stp (S ++ [t]) (4, c) = S ++ [.om t] := by simp [stp]
theorem stp_mul (S : List Tm) (a b : Tm) (c : Nat) : stp (S ++ [a] ++ [b]) (3, c) = S ++ [.mul a b] := by
  simp only [stp]
  rw [if_neg (by decide), if_neg (by decide), if_neg (by decide), List.dropLast_concat, List.dropLast_concat]
  simp
theorem stp_tm : ∀ (t : Tm) (S : List Tm), t.sg.foldl stp S = S ++ [t]
  | .one, S => rfl
  | .var c, S => rfl
  | .om t, S => by
    show (t.sg ++ [(4, 0)]).foldl stp S = _
    rw [List.foldl_append, stp_tm t S]
    exact stp_om S t 0
  | .mul a b, S => by
    show ((a.sg ++ b.sg) ++ [(3, 0)]).foldl stp S = _
    rw [List.foldl_append, List.foldl_append, stp_tm a S, stp_tm b]
    exact stp_mul S a b 0
theorem Gd_tm : ∀ (t : Tm) (S : List Tm) (l : Sg), Gd (S ++ [t]) l → Gd S (t.sg ++ l)
  | .one, S, l, h => ⟨.inl rfl, h⟩
  | .var c, S, l, h => ⟨.inr (.inl rfl), h⟩
  | .om t, S, l, h => by
    show Gd S ((t.sg ++ [(4, 0)]) ++ l)
    rw [List.append_assoc]
    refine Gd_tm t S _ ⟨.inr (.inr (.inl ⟨rfl, S, t, rfl⟩)), ?_⟩
    rw [stp_om]
    exact h
  | .mul a b, S, l, h => by
    show Gd S (((a.sg ++ b.sg) ++ [(3, 0)]) ++ l)
    rw [List.append_assoc, List.append_assoc]
    refine Gd_tm a S _ (Gd_tm b _ _ ⟨.inr (.inr (.inr ⟨rfl, S, a, b, rfl⟩)), ?_⟩)
    show Gd (stp (S ++ [a] ++ [b]) (3, 0)) l
    rw [stp_mul]
    exact h
theorem Gd_side (t : Tm) : Gd [] t.sg := by
  have := Gd_tm t [] [] trivial
  rwa [List.append_nil] at this
theorem Gd_at : ∀ (l : Sg) (S : List Tm) (i : Nat), Gd S l → i < l.length → lc ((l.take i).foldl stp S) (l.getD i (0, 0)) ∧ (l.take (i + 1)).foldl stp S = stp ((l.take i).foldl stp S) (l.getD i (0, 0))
  | [], _, _, _, h => by simp at h
  | p :: l, S, 0, h, _ => ⟨h.1, rfl⟩
  | p :: l, S, i + 1, h, hi => by
    have := Gd_at l (stp S p) i h.2 (by simpa using hi)
    simpa using this
def stk (A : Tm) (i : Nat) : List Tm := (A.sg.take i).foldl stp []
theorem stk_end (A : Tm) : stk A A.sg.length = [A] := by
  unfold stk
  rw [List.take_length, stp_tm]
  rfl
/-- Something on the stack is too long. -/
def Bd (Ws : List ByteArray) (om : Int) (S : List Tm) : Prop := ∃ t ∈ S, spO Ws om t = false
theorem spO_om {Ws : List ByteArray} {om : Int} {t : Tm} (h : spO Ws om t = false) : spO Ws om (.om t) = false := by simp [spO, h]
theorem spO_mulL {Ws : List ByteArray} {om : Int} {a b : Tm} (h : spO Ws om a = false) : spO Ws om (.mul a b) = false := by simp [spO, h]
theorem spO_mulR {Ws : List ByteArray} {om : Int} {a b : Tm} (h : spO Ws om b = false) : spO Ws om (.mul a b) = false := by simp [spO, h]
theorem Bd_stp {Ws : List ByteArray} {om : Int} {S : List Tm} {p : Nat × Nat} (hl : lc S p) (h : Bd Ws om S) : Bd Ws om (stp S p) := by
  obtain ⟨t, ht, hb⟩ := h
  obtain ⟨k, c⟩ := p
  rcases hl with h1 | h1 | ⟨h1, S', u, rfl⟩ | ⟨h1, S', a, b, rfl⟩ <;> (simp only at h1; subst h1)
  · exact ⟨t, by simp [stp, ht], hb⟩
  · exact ⟨t, by simp [stp, ht], hb⟩
  · rw [stp_om]
    rcases List.mem_append.1 ht with h2 | h2
    · exact ⟨t, by simp [h2], hb⟩
    · have : t = u := by simpa using h2
      subst this
      exact ⟨_, List.mem_append_right _ (List.mem_singleton.2 rfl), spO_om hb⟩
  · rw [stp_mul]
    rcases List.mem_append.1 ht with h2 | h2
    · rcases List.mem_append.1 h2 with h3 | h3
      · exact ⟨t, by simp [h3], hb⟩
      · have : t = a := by simpa using h3
        subst this
        exact ⟨_, List.mem_append_right _ (List.mem_singleton.2 rfl), spO_mulL hb⟩
    · have : t = b := by simpa using h2
      subst this
      exact ⟨_, List.mem_append_right _ (List.mem_singleton.2 rfl), spO_mulR hb⟩
theorem Bd_fold {Ws : List ByteArray} {om : Int} : ∀ (l : Sg) (S : List Tm), Gd S l → Bd Ws om S → Bd Ws om (l.foldl stp S)
  | [], S, _, h => h
  | p :: l, S, hg, h => Bd_fold l _ hg.2 (Bd_stp hg.1 h)
theorem Gd_drop : ∀ (l : Sg) (S : List Tm) (i : Nat), Gd S l → Gd ((l.take i).foldl stp S) (l.drop i)
  | [], S, i, h => by simp [Gd]
  | p :: l, S, 0, h => h
  | p :: l, S, i + 1, h => by
    have := Gd_drop l (stp S p) i h.2
    simpa using this
/-- A part that is too long spoils the whole. -/
theorem stk_bad {A : Tm} {Ws : List ByteArray} {om : Int} {i : Nat} (h : Bd Ws om (stk A i)) : spO Ws om A = false := by
  have h1 := Bd_fold (A.sg.drop i) _ (Gd_drop A.sg [] i (Gd_side A)) h
  rw [← List.foldl_append, List.take_append_drop, stp_tm] at h1
  obtain ⟨t, ht, hb⟩ := h1
  have : t = A := by simpa using ht
  rw [← this]
  exact hb
theorem stk_next (A : Tm) (i : Nat) (hi : i < A.sg.length) : lc (stk A i) (A.sg.getD i (0, 0)) ∧ stk A (i + 1) = stp (stk A i) (A.sg.getD i (0, 0)) := Gd_at A.sg [] i (Gd_side A) hi
/-- The stack's words. -/
def wds (Ws : List ByteArray) (om : Int) (S : List Tm) : List Value := S.map fun t => .string (str (spW Ws om t))
theorem wds_len (Ws : List ByteArray) (om : Int) (S : List Tm) : (wds Ws om S).length = S.length := by simp [wds]
theorem stp_len (S : List Tm) (p : Nat × Nat) (h : lc S p) : (stp S p).length ≤ S.length + 1 := by
  obtain ⟨k, c⟩ := p
  rcases h with h1 | h1 | ⟨h1, S', u, rfl⟩ | ⟨h1, S', a, b, rfl⟩ <;> (simp only at h1; subst h1)
  · simp [stp]
  · simp [stp]
  · rw [stp_om]; simp
  · rw [stp_mul]; simp
theorem stk_len (A : Tm) : ∀ i, i ≤ A.sg.length → (stk A i).length ≤ i
  | 0, _ => by simp [stk]
  | i + 1, h => by
    obtain ⟨h1, h2⟩ := stk_next A i (by omega)
    rw [h2]
    have := stp_len _ _ h1
    have := stk_len A i (by omega)
    omega
theorem var_at (A : Tm) {i c : Nat} (hi : i < A.sg.length) (h : A.sg.getD i (0, 0) = (2, c)) : (2, c) ∈ A.sg := by
  rw [List.getD_eq_getElem?_getD, List.getElem?_eq_getElem hi, Option.getD_some] at h
  rw [← h]
  exact List.getElem_mem hi
end Go.Proofs.Ythhlamehbcidgaa

namespace Go.Proofs.Ythhlamehbcidgaa
open Go Go.RowKit Go.Lib
set_option linter.unusedVariables false

theorem Try.info_strT : (Try.prog.info? 9).map (fun i => (i.zero, i.size, i.bytes)) = some (some (.string ByteArray.empty), 1, 16) := by kernel_rfl
theorem own_last {w : World} {b g m c : Nat} {e : TypeId} {xs : List Value} {x : Value} (h : w.ownsRow b e 1 (.slice (some ⟨g, 0, none⟩) (m + 1) c) (m + 1) (xs ++ [x])) (hm : xs.length = m) : w.cell? ⟨g, m, none⟩ = some x := by
  rw [h.cellAt m (by omega), List.getElem?_append_right (by omega), hm, Nat.sub_self]
  rfl
theorem own_cutS {w : World} {B : Nat} {e : TypeId} {g n c : Nat} {xs : List Value} (h : w.ownsRow B e 1 (.slice (some ⟨g, 0, none⟩) n c) n xs) (m : Nat) (hm : m ≤ n) : w.ownsRow B e 1 (.slice (some ⟨g, 0, none⟩) m c) m (xs.take m) := by
  obtain ⟨hl, hh⟩ := h
  refine ⟨by rw [List.length_take]; omega, ?_⟩
  rcases hh with ⟨hh, _⟩ | ⟨g', c', cur, e1, r1, r2, r3, r4, r5, r6⟩
  · cases hh
  · cases e1
    refine .inr ⟨g, c, cur, rfl, r1, r2, by omega, r4, r5, ?_⟩
    rw [← r6, List.take_take, Nat.mul_one, Nat.mul_one, Nat.min_eq_left hm]
theorem own_cap {w : World} {B : Nat} {e : TypeId} {g n c : Nat} {xs : List Value} (h : w.ownsRow B e 1 (.slice (some ⟨g, 0, none⟩) n c) n xs) : n ≤ c := by
  rcases h.2 with ⟨hh, _⟩ | ⟨g', c', cur, e1, r1, r2, r3, r4, r5, r6⟩
  · cases hh
  · cases e1
    exact r3
theorem set_last {xs : List Value} {x y : Value} {m : Nat} (hm : xs.length = m) : (xs ++ [x]).set m y = xs ++ [y] := by
  subst hm
  rw [List.set_append_right _ _ (Nat.le_refl _), Nat.sub_self]
  rfl
theorem take_lastS {xs : List Value} {x y : Value} {m : Nat} (hm : xs.length = m) : (xs ++ [x] ++ [y]).take (m + 1) = xs ++ [x] := by
  have h : (xs ++ [x]).length = m + 1 := by simp [hm]
  rw [← h, List.take_left']
  rfl
theorem wds_snoc (Ws : List ByteArray) (om : Int) (S : List Tm) (t : Tm) : wds Ws om (S ++ [t]) = wds Ws om S ++ [.string (str (spW Ws om t))] := by simp [wds]
/-- The document's stack in memory. -/
structure HS (w : World) (A : Tm) (Ws : List ByteArray) (om : Int) (i : Nat) (vh : Value) (y : World) : Prop where
  r : y.ownsRow w.heap.size 9 1 vh (stk A i).length (wds Ws om (stk A i))
  ok : ∀ t ∈ stk A i, spO Ws om t = true
  b : Below w.heap.size w y

def RsQ (A : Tm) (Ws : List ByteArray) (om : Int) (w : World) (e : Ending) (w' : World) : Prop := e = .returned (.tuple #[.string (str (if spO Ws om A = true then spW Ws om A else [])), .bool (spO Ws om A)]) ∧ Below w.heap.size w w'
theorem RsQ.no {A : Tm} {Ws : List ByteArray} {om : Int} {w w' : World} (h : spO Ws om A = false) (hb : Below w.heap.size w w') : RsQ A Ws om w (.returned (.tuple #[.string ⟨#[]⟩, .bool false])) w' := by
  refine ⟨?_, hb⟩
  rw [h]
  rfl
theorem RsQ.yes {A : Tm} {Ws : List ByteArray} {om : Int} {w w' : World} (h : spO Ws om A = true) (hb : Below w.heap.size w w') : RsQ A Ws om w (.returned (.tuple #[.string (str (spW Ws om A)), .bool true])) w' := by
  refine ⟨?_, hb⟩
  rw [h]
  rfl

set_option maxHeartbeats 8000000 in
set_option maxRecDepth 100000 in
theorem rspelt_any (A : Tm) (hL : A.sg.length ≤ 400) (k om : Int) (v vx : Value) (Ws : List ByteArray) (w : World) (hom : 1 ≤ om) (hV : VOK k Ws A) (hv : SgR w v (intS A.sg)) (hx : StR w vx Ws) (hW : Ws.length ≤ 9223372036854775000) :
    Calls Try.prog 49 #[v, vx, .int .i64 om] w (RsQ A Ws om w) := by
  obtain ⟨a2, c2, e2⟩ := hx.len
  subst e2
  obtain ⟨a1, c1, e1, hread⟩ := id hv
  rw [intS_len] at e1 hread
  subst e1
  have hpos := A.sg_pos
  obtain ⟨g, o, hag, -, -⟩ := hread 0 hpos
  subst hag
  have HC : Hid (∀ y i, Below w.heap.size w y → i < A.sg.length → y.cell? ⟨g, o + i * 2, none⟩ = some (.int .i64 ((A.sg.getD i (0, 0)).1 : Nat)) ∧ y.cell? ⟨g, o + i * 2 + 1, none⟩ = some (.int .u8 ((A.sg.getD i (0, 0)).2 : Nat)) ∧ (A.sg.getD i (0, 0)).2 < 256) := fun y i hy hi => by
    obtain ⟨g', o', hag, hg, hc1, hc2, hc3⟩ := hread i hi
    simp only [Option.some.injEq, Addr.mk.injEq] at hag
    obtain ⟨rfl, rfl, -⟩ := hag
    rw [intS_getD _ _ hi] at hc1 hc2 hc3
    exact ⟨by rw [below_cell hy hg]; exact hc1, by rw [below_cell hy hg]; exact hc2, hc3⟩
  have HX : Hid (StR w (.slice a2 Ws.length c2) Ws) := hx
  have HV : Hid (VOK k Ws A) := hV
  have HXR : Hid (∀ p, p < Ws.length → ∃ gx ox, a2 = some ⟨gx, ox, none⟩ ∧ gx < w.heap.size ∧ w.cell? ⟨gx, ox + p, none⟩ = some (.string (Ws.getD p ⟨#[]⟩))) := fun p hp => by
    obtain ⟨ax, cx, ex, hrx⟩ := hx
    simp only [Value.slice.injEq] at ex
    obtain ⟨rfl, -, rfl⟩ := ex
    exact hrx p hp
  obtain ⟨i0, hi0, hz0, hz1, hz2⟩ := info_parts Try.info_strT
  obtain ⟨n, hn⟩ : ∃ n, A.sg.length = n := ⟨_, rfl⟩
  have HN : Hid (A.sg.length = n) := hn
  rw [hn] at HC hL hpos ⊢
  clear hx hV hv hread hn
  go_enter Try.func49, Try.ntmps49
  go_wp2_with fail
  go_loopw [8, 9, 10, 11, 12] (fun vh vi _ _ _ wr => ∃ i : Nat, vi = .int .i64 (i : Nat) ∧ i ≤ n ∧ HS w A Ws om i vh wr) (fun _ vi _ _ _ _ => n - (Go.RowKit.intOf vi).toNat)
  case atStart => exact ⟨0, rfl, Nat.zero_le _, ⟨World.ownsRow_nil _ _ _ _, fun t ht => by simp [stk] at ht, Below.refl _ _⟩⟩
  case round =>
    obtain ⟨i, rfl, hi, hh⟩ := hrel
    obtain ⟨ah, ch, rfl⟩ := own_shape hh.r
    have HB : Hid (Below w.heap.size w wr) := hh.b
    have HK : Hid (∀ t ∈ stk A i, spO Ws om t = true) := hh.ok
    have hlen := stk_len A i (by have := HN.out; omega)
    obtain ⟨m, hm⟩ : ∃ m, (stk A i).length = m := ⟨_, rfl⟩
    have HML : Hid ((stk A i).length = m) := hm
    have hr := hh.r
    rw [hm] at hr hlen ⊢
    have HR1 : Hid (wr.ownsRow w.heap.size 9 1 (.slice ah m ch) m (wds Ws om (stk A i))) := hr
    have HBW : Hid (Below w.heap.size w wr) := hh.b
    clear hr hh hm
    by_cases hlt : i < n
    · have hiI : (i : Int) < n := by omega
      have hid : decide ((i : Int) < n) = true := decide_eq_true hiI
      have HLT : Hid (i < n) := hlt
      have hw1 : IntKind.i64.wrap ((i : Int) + 1) = ((i + 1 : Nat) : Int) := by rw [IntKind.wrap_i64]; omega
      have hwm : IntKind.i64.wrap (((m + 1 : Nat) : Int) - 1) = (m : Nat) := by rw [IntKind.wrap_i64]; omega
      have hwm' : IntKind.i64.wrap ((m : Int) + 1 - 1) = (m : Nat) := by rw [IntKind.wrap_i64]; omega
      obtain ⟨hlc, hst⟩ := stk_next A i (by rw [HN.out]; exact hlt)
      obtain ⟨k0, k1, k2⟩ := HC.out wr i HBW.out hlt
      have HVA : Hid (∀ c, A.sg.getD i (0, 0) = (2, c) → (2, c) ∈ A.sg) := fun c h => var_at A (by rw [HN.out]; exact hlt) h
      obtain ⟨⟨kk, kc⟩, hp⟩ : ∃ p, A.sg.getD i (0, 0) = p := ⟨_, rfl⟩
      rw [hp] at hlc hst k0 k1 k2 HVA
      simp only at k0 k1 k2
      clear hp hlt
      rcases hlc with h1 | h1 | ⟨h1, S', t, hS⟩ | ⟨h1, S', a, b, hS⟩ <;> (simp only at h1; subst h1)
      · have HST : Hid (stk A (i + 1) = stk A i ++ [.one]) := hst
        have HOK : Hid (∀ t ∈ stk A (i + 1), spO Ws om t = true) := by
          show ∀ t ∈ stk A (i + 1), _
          rw [HST.out]
          intro t ht
          rcases List.mem_append.1 ht with h | h
          · exact HK.out t h
          · have e : t = .one := by simpa using h
            subst e
            rfl
        clear hst
        go_wp2_with (at_builtin; refine wpList_append_lies _ rfl _ _ 47 rfl w.heap.size 9 i0 (.string ByteArray.empty) 1 16 Try.underlying47 hi0 hz0 hz1 hz2 rfl (by decide) _ _ _ rfl (HR1.out.alloc _) ⟨wr.heap.size, 0, none⟩ 1 1 [.string ⟨#[]⟩] rfl rfl (World.news_of_block (heap_last wr _)) (by intro u hu; simp at hu; subst hu; rfl) (by decide) (by unfold maxLen; omega) (by omega) (by have := HBW.out.size; simp; omega) (wr.alloc (.cells #[.string ⟨#[]⟩] 9)).heap.size rfl ?_; intro g7 c7 w7 ho7 hg7 hl7 _; have HR7 : Hid (w7.ownsRow w.heap.size 9 1 (.slice (some ⟨g7, 0, none⟩) (m + 1) c7) (m + 1) (wds Ws om (stk A i) ++ [.string ⟨#[]⟩])) := ho7; have HB7 : Hid (Below w.heap.size w w7) := (HBW.out.alloc HBW.out.size _).grown hg7 (by have := HBW.out.size; simp; omega) (fun g hg => (HR1.out.lt g hg).1); have t7 : w7.cell? ⟨g7, m, none⟩ = some (.string ⟨#[]⟩) := (own_last HR7.out (by rw [wds_len]; exact HML.out)); clear ho7 hg7 hl7)
        go_roundw
        case rel => exact ⟨i + 1, rfl, HLT.out, ⟨by rw [HST.out]; rw [List.length_append, HML.out]; show World.ownsRow _ _ _ _ _ (m + 1) (wds Ws om (stk A i ++ [.one])); rw [wds_snoc]; exact HR7.out, HOK.out, HB7.out⟩⟩
        case measure => have := HLT.out; simp [Go.RowKit.intOf]; omega
      · have HST : Hid (stk A (i + 1) = stk A i ++ [.var kc]) := hst
        have hpv := HV.out kc (HVA.out kc rfl)
        obtain ⟨p, hpp⟩ : ∃ p, (plI kc).toNat = p := ⟨_, rfl⟩
        have hpl : plI kc = (p : Nat) := by omega
        rw [hpp] at hpv
        obtain ⟨x, hx⟩ : ∃ x, Ws.getD p ⟨#[]⟩ = x := ⟨_, rfl⟩
        obtain ⟨gx, ox, hax, hgx, hcx⟩ := HXR.out p hpv.2.1
        subst hax
        have xc : wr.cell? ⟨gx, ox + p, none⟩ = some (.string x) := by rw [below_cell HBW.out hgx, ← hx]; exact hcx
        have HPL : Hid (∀ y, Calls Try.prog 89 #[.int .u8 (kc : Nat)] y fun e w' => e = .returned (.int .i64 (p : Nat)) ∧ y = w') := fun y => by
          have := rplace_any kc k2 y
          rw [hpl] at this
          exact this
        have hwd : wdV Ws kc = x.data.toList := by unfold wdV; rw [hpp, hx]
        have hxl : x.data.toList.length = x.size := by simp
        have hpI : (p : Int) < Ws.length := by omega
        by_cases hbig : 4096 < x.size
        · have hbI : (4096 : Int) < x.size := by omega
          have hbd : decide ((4096 : Int) < x.size) = true := decide_eq_true hbI
          have HF : Hid (spO Ws om A = false) := stk_bad (i := i + 1) ⟨.var kc, by rw [HST.out]; simp, by show decide ((wdV Ws kc).length ≤ 4096) = false; rw [hwd, hxl]; exact decide_eq_false (by omega)⟩
          clear hst hpv hpp hpl hx hgx hcx hwd hxl hbig
          go_wp2_with (first | (go_at_call 89; refine (HPL.out _).mono ?_; rintro e w5 ⟨rfl, rfl⟩) | (at_builtin; refine wpList_append_lies _ rfl _ _ 47 rfl w.heap.size 9 i0 (.string ByteArray.empty) 1 16 Try.underlying47 hi0 hz0 hz1 hz2 rfl (by decide) _ _ _ rfl (HR1.out.alloc _) ⟨wr.heap.size, 0, none⟩ 1 1 [.string x] rfl rfl (World.news_of_block (heap_last wr _)) (by intro u hu; simp at hu; subst hu; rfl) (by decide) (by unfold maxLen; omega) (by omega) (by have := HBW.out.size; simp; omega) (wr.alloc (.cells #[.string x] 9)).heap.size rfl ?_; intro g7 c7 w7 ho7 hg7 hl7 _; have HR7 : Hid (w7.ownsRow w.heap.size 9 1 (.slice (some ⟨g7, 0, none⟩) (m + 1) c7) (m + 1) (wds Ws om (stk A i) ++ [.string x])) := ho7; have HB7 : Hid (Below w.heap.size w w7) := (HBW.out.alloc HBW.out.size _).grown hg7 (by have := HBW.out.size; simp; omega) (fun g hg => (HR1.out.lt g hg).1); have t7 : w7.cell? ⟨g7, m, none⟩ = some (.string x) := (own_last HR7.out (by rw [wds_len]; exact HML.out)); clear ho7 hg7 hl7))
          go_ret2
          exact RsQ.no HF.out HB7.out
        · have hbI : ¬ (4096 : Int) < x.size := by omega
          have hbd : decide ((4096 : Int) < x.size) = false := decide_eq_false hbI
          have HSO : Hid (spO Ws om (.var kc) = true) := by show decide ((wdV Ws kc).length ≤ 4096) = true; rw [hwd, hxl]; exact decide_eq_true (by omega)
          have HXE : Hid (str (spW Ws om (.var kc)) = x) := by
            show str (keep (wdV Ws kc)) = x
            rw [hwd, str_keep, if_neg hbig]
          have HOK : Hid (∀ t ∈ stk A (i + 1), spO Ws om t = true) := by
            show ∀ t ∈ stk A (i + 1), _
            rw [HST.out]
            intro t0 ht
            rcases List.mem_append.1 ht with h | h
            · exact HK.out t0 h
            · have e : t0 = .var kc := by simpa using h
              subst e
              exact HSO.out
          clear hst hpv hpp hpl hx hgx hcx hwd hxl hbig
          go_wp2_with (first | (go_at_call 89; refine (HPL.out _).mono ?_; rintro e w5 ⟨rfl, rfl⟩) | (at_builtin; refine wpList_append_lies _ rfl _ _ 47 rfl w.heap.size 9 i0 (.string ByteArray.empty) 1 16 Try.underlying47 hi0 hz0 hz1 hz2 rfl (by decide) _ _ _ rfl (HR1.out.alloc _) ⟨wr.heap.size, 0, none⟩ 1 1 [.string x] rfl rfl (World.news_of_block (heap_last wr _)) (by intro u hu; simp at hu; subst hu; rfl) (by decide) (by unfold maxLen; omega) (by omega) (by have := HBW.out.size; simp; omega) (wr.alloc (.cells #[.string x] 9)).heap.size rfl ?_; intro g7 c7 w7 ho7 hg7 hl7 _; have HR7 : Hid (w7.ownsRow w.heap.size 9 1 (.slice (some ⟨g7, 0, none⟩) (m + 1) c7) (m + 1) (wds Ws om (stk A i) ++ [.string x])) := ho7; have HB7 : Hid (Below w.heap.size w w7) := (HBW.out.alloc HBW.out.size _).grown hg7 (by have := HBW.out.size; simp; omega) (fun g hg => (HR1.out.lt g hg).1); have t7 : w7.cell? ⟨g7, m, none⟩ = some (.string x) := (own_last HR7.out (by rw [wds_len]; exact HML.out)); clear ho7 hg7 hl7))
          go_roundw
          case rel => exact ⟨i + 1, rfl, HLT.out, ⟨by rw [HST.out]; rw [List.length_append, HML.out]; show World.ownsRow _ _ _ _ _ (m + 1) (wds Ws om (stk A i ++ [.var kc])); rw [wds_snoc]; rw [HXE.out]; exact HR7.out, HOK.out, HB7.out⟩⟩
          case measure => have := HLT.out; simp [Go.RowKit.intOf]; omega
      · have HST : Hid (stk A (i + 1) = S' ++ [.om t]) := by show _ = _; rw [hst, hS]; exact stp_om S' t kc
        have HKT : Hid (spO Ws om t = true) := HK.out t (by rw [hS]; simp)
        have HKS : Hid (∀ t0 ∈ S', spO Ws om t0 = true) := fun t0 h => HK.out t0 (by rw [hS]; simp [h])
        obtain ⟨m', hm'⟩ : ∃ m', S'.length = m' := ⟨_, rfl⟩
        have em : m = m' + 1 := by rw [← HML.out, hS, ← hm']; simp
        subst em
        obtain ⟨gh, cc, ev, -, -⟩ := World.ownsRow.form HR1.out (by omega)
        simp only [Value.slice.injEq] at ev
        obtain ⟨rfl, -, rfl⟩ := ev
        have HSL : Hid (S'.length = m') := hm'
        have hr1 : wr.ownsRow w.heap.size 9 1 (.slice (some ⟨gh, 0, none⟩) (m' + 1) ch) (m' + 1) (wds Ws om (stk A i)) := HR1.out
        rw [hS] at hr1
        rw [wds_snoc] at hr1
        obtain ⟨U, hU⟩ : ∃ U, spW Ws om t = U := ⟨_, rfl⟩
        have hsp : spW Ws om (.om t) = if U = [] then [] else if 4096 / (U.length : Int) < om then [] else powL U om.toNat := by rw [← hU]; rfl
        have hso : spO Ws om (.om t) = (true && (decide (U = []) || decide (om ≤ 4096 / (U.length : Int)))) := by rw [← hU, ← HKT.out]; rfl
        rw [hU] at hr1
        have HR2 : Hid (wr.ownsRow w.heap.size 9 1 (.slice (some ⟨gh, 0, none⟩) (m' + 1) ch) (m' + 1) (wds Ws om S' ++ [.string (str U)])) := hr1
        have tl : wr.cell? ⟨gh, m', none⟩ = some (.string (str U)) := own_last hr1 (by rw [wds_len]; exact hm')
        have hsz := str_size U
        have hUl : U.length ≤ 4096 := by rw [← hU]; exact spW_len Ws hom t
        have hwq : IntKind.i64.wrap (((m' + 1 : Nat) : Int) - 1) = (m' : Nat) := by rw [IntKind.wrap_i64]; omega
        have hwq' : IntKind.i64.wrap ((m' : Int) + 1 - 1) = (m' : Nat) := by rw [IntKind.wrap_i64]; omega
        have hmI : (m' : Int) < ((m' + 1 : Nat) : Int) := by omega
        clear hU hr1 hm' hS hst
        by_cases h0 : U = []
        · have hz : U.length = 0 := by rw [h0]; rfl
          have HSO : Hid (spO Ws om (.om t) = true) := by show _ = _; rw [hso, decide_eq_true h0]; rfl
          have HSP : Hid (spW Ws om (.om t) = U) := by show _ = _; rw [hsp, if_pos h0, h0]
          have HOK : Hid (∀ t ∈ stk A (i + 1), spO Ws om t = true) := by
            show ∀ t ∈ stk A (i + 1), _
            rw [HST.out]
            intro t0 ht
            rcases List.mem_append.1 ht with h | h
            · exact HKS.out t0 h
            · have e : t0 = .om t := by simpa using h
              subst e
              exact HSO.out
          rw [hz] at hsz
          clear h0 hsp hso hz
          go_wp2_with fail
          go_roundw
          case rel => exact ⟨i + 1, rfl, HLT.out, ⟨by rw [HST.out]; rw [List.length_append, HSL.out]; show World.ownsRow _ _ _ _ _ (m' + 1) (wds Ws om (S' ++ [.om t])); rw [wds_snoc]; rw [HSP.out]; exact HR2.out, HOK.out, HBW.out⟩⟩
          case measure => have := HLT.out; simp [Go.RowKit.intOf]; omega
        · have hpos2 : 0 < U.length := List.length_pos_iff.2 h0
          have hd0 : 0 ≤ (4096 : Int) / (U.length : Int) := Int.ediv_nonneg (by omega) (by omega)
          have hd1 : (4096 : Int) / (U.length : Int) ≤ 4096 := Int.ediv_le_self _ (by omega)
          by_cases hq : 4096 / (U.length : Int) < om
          · have HF : Hid (spO Ws om A = false) := stk_bad (i := i + 1) ⟨.om t, by rw [HST.out]; simp, by rw [hso, decide_eq_false h0, decide_eq_false (by omega)]; rfl⟩
            have hqd : decide (4096 / (U.length : Int) < om) = true := decide_eq_true hq
            clear h0 hsp hso
            go_wp2_with fail
            go_ret2
            exact RsQ.no HF.out HBW.out
          · have HSO : Hid (spO Ws om (.om t) = true) := by show _ = _; rw [hso, decide_eq_true (show om ≤ 4096 / (U.length : Int) by omega)]; simp
            have hqd : decide (4096 / (U.length : Int) < om) = false := decide_eq_false hq
            obtain ⟨V, hV⟩ : ∃ V, spW Ws om (.om t) = V := ⟨_, rfl⟩
            have HVE : Hid (spW Ws om (.om t) = V) := hV
            have hVl : V.length ≤ 4096 := by rw [← hV]; exact spW_len Ws hom _
            have hvz := str_size V
            have HREP : Hid (∀ y, Calls Try.prog 90 #[.string (str U), .int .i64 om] y fun e w' => e = .returned (.string (str V)) ∧ Below y.heap.size y w') := fun y => by
              obtain ⟨c, hc⟩ : ∃ c : Nat, om = c := ⟨om.toNat, by omega⟩
              have hv2 : V = powL U c := by rw [← hV, hsp, if_neg h0, if_neg hq, hc]; rfl
              have hvl2 : c * U.length ≤ 4096 := by rw [← powL_len, ← hv2]; exact hVl
              have := repeat_any (str U) c y (by omega) (by rw [hsz, Nat.mul_comm]; omega)
              rw [str_list, repeat_pow, ← hv2, ← hc] at this
              exact this
            have HOK : Hid (∀ t ∈ stk A (i + 1), spO Ws om t = true) := by
              show ∀ t ∈ stk A (i + 1), _
              rw [HST.out]
              intro t0 ht
              rcases List.mem_append.1 ht with h | h
              · exact HKS.out t0 h
              · have e : t0 = .om t := by simpa using h
                subst e
                exact HSO.out
            have hbd : decide ((4096 : Int) < (V.length : Int)) = false := decide_eq_false (by omega)
            have hbn : ¬ (4096 : Int) < (V.length : Int) := by omega
            clear h0 hsp hso hV hVl
            go_wp2_with fail
            refine Calls.mono (HREP.out _) ?_
            rintro e w5 ⟨rfl, hb5⟩
            have HB5 : Hid (Below wr.heap.size wr w5) := hb5
            have HR5 := own_below HR2.out hb5
            obtain ⟨w8, hw8⟩ : ∃ w8, w8 = w5.setCell ⟨gh, m', none⟩ (.string (str V)) := ⟨_, rfl⟩
            have HW8 : Hid (w8 = w5.setCell ⟨gh, m', none⟩ (.string (str V))) := hw8
            have HR8 : Hid (w8.ownsRow w.heap.size 9 1 (.slice (some ⟨gh, 0, none⟩) (m' + 1) ch) (m' + 1) (wds Ws om S' ++ [.string (str V)])) := by
              have q := (World.ownsRow.stored HR5 m' (.string (str V))).1
              rw [set_last (by rw [wds_len]; exact HSL.out)] at q
              show World.ownsRow _ _ _ _ _ _ _
              rw [hw8]
              exact q
            have HB8 : Hid (Below w.heap.size w w8) := by show Below _ _ _; rw [hw8]; exact (go_on HBW.out HB5.out).setCell (p := ⟨gh, m', none⟩) (HR1.out.lt gh rfl).1 _
            have t8 : w8.cell? ⟨gh, m', none⟩ = some (.string (str V)) := own_last HR8.out (by rw [wds_len]; exact HSL.out)
            have f8 : ∀ j, w5.frozen? ⟨gh, j, none⟩ = false := fun j => HR5.frozenAt j
            have t5 : ∃ z, w5.cell? ⟨gh, m', none⟩ = some z := ⟨_, own_last HR5 (by rw [wds_len]; exact HSL.out)⟩
            obtain ⟨z5, t5⟩ := t5
            clear hw8 hb5 tl HR5
            go_upto_region 21 with fail
            rw [← HW8.out]
            clear f8 t5
            go_wp2_with fail
            go_roundw
            case rel => exact ⟨i + 1, rfl, HLT.out, ⟨by rw [HST.out]; rw [List.length_append, HSL.out]; show World.ownsRow _ _ _ _ _ (m' + 1) (wds Ws om (S' ++ [.om t])); rw [wds_snoc]; rw [HVE.out]; exact HR8.out, HOK.out, HB8.out⟩⟩
            case measure => have := HLT.out; simp [Go.RowKit.intOf]; omega
      · have HST : Hid (stk A (i + 1) = S' ++ [.mul a b]) := by show _ = _; rw [hst, hS]; exact stp_mul S' a b kc
        have HKA : Hid (spO Ws om a = true) := HK.out a (by rw [hS]; simp)
        have HKB : Hid (spO Ws om b = true) := HK.out b (by rw [hS]; simp)
        have HKS : Hid (∀ t0 ∈ S', spO Ws om t0 = true) := fun t0 h => HK.out t0 (by rw [hS]; simp [h])
        obtain ⟨m', hm'⟩ : ∃ m', S'.length = m' := ⟨_, rfl⟩
        have em : m = m' + 2 := by rw [← HML.out, hS, ← hm']; simp
        subst em
        obtain ⟨gh, cc, ev, -, -⟩ := World.ownsRow.form HR1.out (by omega)
        simp only [Value.slice.injEq] at ev
        obtain ⟨rfl, -, rfl⟩ := ev
        have HSL : Hid (S'.length = m') := hm'
        have hr1 : wr.ownsRow w.heap.size 9 1 (.slice (some ⟨gh, 0, none⟩) (m' + 2) ch) (m' + 2) (wds Ws om (stk A i)) := HR1.out
        rw [hS] at hr1
        rw [wds_snoc, wds_snoc] at hr1
        obtain ⟨U, hU⟩ : ∃ U, spW Ws om a = U := ⟨_, rfl⟩
        obtain ⟨V, hV⟩ : ∃ V, spW Ws om b = V := ⟨_, rfl⟩
        have hsp : spW Ws om (.mul a b) = keep (U ++ V) := by rw [← hU, ← hV]; rfl
        have hso : spO Ws om (.mul a b) = (true && true && decide ((U ++ V).length ≤ 4096)) := by rw [← hU, ← hV, ← HKA.out]; show (spO Ws om b && spO Ws om a && _) = _; rw [HKA.out, HKB.out]
        rw [hU, hV] at hr1
        have hUl : U.length ≤ 4096 := by rw [← hU]; exact spW_len Ws hom a
        have hVl : V.length ≤ 4096 := by rw [← hV]; exact spW_len Ws hom b
        have hrd := own_below hr1 (Below.refl _ _).drew
        have hcap : m' + 2 ≤ ch := own_cap hrd
        have hcI : ((m' + 1 : Nat) : Int) ≤ ch := by omega
        have hcut := own_cutS hrd (m' + 1) (by omega)
        rw [take_lastS (by rw [wds_len]; exact hm')] at hcut
        have hab : str U ++ str V = str (U ++ V) := by
          unfold str
          apply ByteArray.ext
          rw [ByteArray.data_append]
          simp
        have hcat := cat_ok (X := str U) (L := str V) (by rw [str_size, str_size]; omega)
        rw [hab] at hcat
        obtain ⟨X, hX⟩ : ∃ X, U ++ V = X := ⟨_, rfl⟩
        rw [hX] at hcat hsp hso hab
        have hxz := str_size X
        have S0 : wr.drew.cell? ⟨gh, m', none⟩ = some (.string (str U)) ∧ wr.drew.cell? ⟨gh, m' + 1, none⟩ = some (.string (str V)) := ⟨own_last hcut (by rw [wds_len]; exact hm'), own_last hrd (by rw [List.length_append, wds_len, hm']; rfl)⟩
        obtain ⟨w8, hw8⟩ : ∃ w8, w8 = wr.drew.setCell ⟨gh, m', none⟩ (.string (str X)) := ⟨_, rfl⟩
        have HW8 : Hid (w8 = wr.drew.setCell ⟨gh, m', none⟩ (.string (str X))) := hw8
        have HR8 : Hid (w8.ownsRow w.heap.size 9 1 (.slice (some ⟨gh, 0, none⟩) (m' + 1) ch) (m' + 1) (wds Ws om S' ++ [.string (str X)])) := by
          have q := (World.ownsRow.stored hcut m' (.string (str X))).1
          rw [set_last (by rw [wds_len]; exact HSL.out)] at q
          show World.ownsRow _ _ _ _ _ _ _
          rw [hw8]
          exact q
        have HB8 : Hid (Below w.heap.size w w8) := by show Below _ _ _; rw [hw8]; exact HBW.out.drew.setCell (p := ⟨gh, m', none⟩) (HR1.out.lt gh rfl).1 _
        have t8 : w8.cell? ⟨gh, m', none⟩ = some (.string (str X)) := own_last HR8.out (by rw [wds_len]; exact HSL.out)
        have f8 : ∀ j, wr.drew.frozen? ⟨gh, j, none⟩ = false := fun j => hcut.frozenAt j
        have t5 : ∃ z, wr.drew.cell? ⟨gh, m', none⟩ = some z := ⟨_, own_last hcut (by rw [wds_len]; exact HSL.out)⟩
        obtain ⟨z5, t5⟩ := t5
        have hwa : IntKind.i64.wrap (((m' + 2 : Nat) : Int) - 2) = (m' : Nat) := by rw [IntKind.wrap_i64]; omega
        have hwb : IntKind.i64.wrap ((m' : Int) + 2 - 2) = (m' : Nat) := by rw [IntKind.wrap_i64]; omega
        have hwc : IntKind.i64.wrap (((m' + 2 : Nat) : Int) - 1) = ((m' + 1 : Nat) : Int) := by rw [IntKind.wrap_i64]; omega
        have hwd : IntKind.i64.wrap ((m' : Int) + 2 - 1) = ((m' + 1 : Nat) : Int) := by rw [IntKind.wrap_i64]; omega
        have hwe : IntKind.i64.wrap (((m' + 1 : Nat) : Int) - 1) = (m' : Nat) := by rw [IntKind.wrap_i64]; omega
        have hwz : IntKind.i64.wrap (m' : Int) = (m' : Nat) := by rw [IntKind.wrap_i64]; omega
        have hwy : IntKind.i64.wrap ((m' : Int) + 1) = ((m' + 1 : Nat) : Int) := by rw [IntKind.wrap_i64]; omega
        have hlx : (m' : Int) < (m' : Int) + 2 := by omega
        have hly : (0 : Int) ≤ (m' : Int) + 1 := by omega
        have hlz : (m' : Int) + 1 < (m' : Int) + 2 := by omega
        have hlu : (m' : Int) + 1 ≤ ch := by omega
        have hwf : IntKind.i64.wrap ((m' : Int) + 1 - 1) = (m' : Nat) := by rw [IntKind.wrap_i64]; omega
        clear hU hV hr1 hm' hS hst hrd hcut hw8 hwm hwm'
        by_cases hbig : 4096 < X.length
        · have HF : Hid (spO Ws om A = false) := stk_bad (i := i + 1) ⟨.mul a b, by rw [HST.out]; simp, by rw [hso, decide_eq_false (by omega)]; rfl⟩
          have hbI : (4096 : Int) < (X.length : Int) := by omega
          have hbd : decide ((4096 : Int) < (X.length : Int)) = true := decide_eq_true hbI
          clear hsp hso hbig
          go_upto_region 18 with fail
          refine wp_region_held_drew (S := fun y => y.cell? ⟨gh, m', none⟩ = some (.string (str U)) ∧ y.cell? ⟨gh, m' + 1, none⟩ = some (.string (str V))) (by kernel_rfl) S0 (fun hH0 => ?_)
          clear S0
          refine wpAnyH_take (i := 0) (oi := { dst := some 74, op := Go.Op.move (Go.Operand.tmp 8), type := 47, pos := "ref.go:380", after := #[], guard := none }) (v := ?_) rfl (by kernel_rfl) (by kernel_rfl) (by kernel_rfl) (fun _ _ _ h => h) (Or.inl ⟨by rfl, ?_⟩) (by assumption) ?_
          rotate_left
          · intro w' hS; go_simp; (try with_reducible rfl)
          simp only [Act.put, List.setIfInBounds_toArray, List.set_cons_zero, List.set_cons_succ]
          refine wpAnyH_take (i := 1) (oi := { dst := some 75, op := Go.Op.move (Go.Operand.tmp 10), type := 3, pos := "ref.go:380", after := #[], guard := none }) (v := ?_) rfl (by kernel_rfl) (by kernel_rfl) (by kernel_rfl) (fun _ _ _ h => h) (Or.inl ⟨by rfl, ?_⟩) (by assumption) ?_
          rotate_left
          · intro w' hS; go_simp; (try with_reducible rfl)
          simp only [Act.put, List.setIfInBounds_toArray, List.set_cons_zero, List.set_cons_succ]
          refine wpAnyH_take (i := 2) (oi := { dst := some 76, op := Go.Op.binOp Go.BinOp.sub 3 (Go.Operand.tmp 75) (Go.Operand.const (Go.Value.int Go.IntKind.i64 2)) 3, type := 3, pos := "ref.go:380", after := #[{ on := 1, ground := Go.Ground.data }], guard := none }) (v := ?_) rfl (by kernel_rfl) (by kernel_rfl) (by kernel_rfl) (fun _ _ _ h => h) (Or.inl ⟨by rfl, ?_⟩) (by assumption) ?_
          rotate_left
          · intro w' hS; go_simp; (try with_reducible rfl)
          simp only [Act.put, List.setIfInBounds_toArray, List.set_cons_zero, List.set_cons_succ]
          refine wpAnyH_take (i := 3) (oi := { dst := some 77, op := Go.Op.indexAddr 47 (Go.Operand.tmp 74) (Go.Operand.tmp 76), type := 0, pos := "ref.go:380", after := #[{ on := 0, ground := Go.Ground.data }, { on := 2, ground := Go.Ground.data }], guard := none }) (v := ?_) rfl (by kernel_rfl) (by kernel_rfl) (by kernel_rfl) (fun _ _ _ h => h) (Or.inl ⟨by rfl, ?_⟩) (by assumption) ?_
          rotate_left
          · intro w' hS; go_simp; (try with_reducible rfl)
          simp only [Act.put, List.setIfInBounds_toArray, List.set_cons_zero, List.set_cons_succ]
          refine wpAnyH_take (i := 4) (oi := { dst := some 78, op := Go.Op.load 9 (Go.Operand.tmp 77), type := 9, pos := "ref.go:380", after := #[{ on := 3, ground := Go.Ground.data }], guard := none }) (v := .string (str U)) rfl (by kernel_rfl) (by kernel_rfl) (by kernel_rfl) (fun _ _ _ h => h) (Or.inl ⟨by rfl, ?_⟩) (by assumption) ?_
          · intro w' hS; obtain ⟨z0, z1⟩ := hS; go_simp
          simp only [Act.put, List.setIfInBounds_toArray, List.set_cons_zero, List.set_cons_succ]
          refine wpAnyH_take (i := 5) (oi := { dst := some 79, op := Go.Op.move (Go.Operand.tmp 8), type := 47, pos := "ref.go:380", after := #[], guard := none }) (v := ?_) rfl (by kernel_rfl) (by kernel_rfl) (by kernel_rfl) (fun _ _ _ h => h) (Or.inl ⟨by rfl, ?_⟩) (by assumption) ?_
          rotate_left
          · intro w' hS; go_simp; (try with_reducible rfl)
          simp only [Act.put, List.setIfInBounds_toArray, List.set_cons_zero, List.set_cons_succ]
          refine wpAnyH_take (i := 6) (oi := { dst := some 80, op := Go.Op.move (Go.Operand.tmp 10), type := 3, pos := "ref.go:380", after := #[], guard := none }) (v := ?_) rfl (by kernel_rfl) (by kernel_rfl) (by kernel_rfl) (fun _ _ _ h => h) (Or.inl ⟨by rfl, ?_⟩) (by assumption) ?_
          rotate_left
          · intro w' hS; go_simp; (try with_reducible rfl)
          simp only [Act.put, List.setIfInBounds_toArray, List.set_cons_zero, List.set_cons_succ]
          refine wpAnyH_take (i := 7) (oi := { dst := some 81, op := Go.Op.binOp Go.BinOp.sub 3 (Go.Operand.tmp 80) (Go.Operand.const (Go.Value.int Go.IntKind.i64 1)) 3, type := 3, pos := "ref.go:380", after := #[{ on := 6, ground := Go.Ground.data }], guard := none }) (v := ?_) rfl (by kernel_rfl) (by kernel_rfl) (by kernel_rfl) (fun _ _ _ h => h) (Or.inl ⟨by rfl, ?_⟩) (by assumption) ?_
          rotate_left
          · intro w' hS; go_simp; (try with_reducible rfl)
          simp only [Act.put, List.setIfInBounds_toArray, List.set_cons_zero, List.set_cons_succ]
          refine wpAnyH_take (i := 8) (oi := { dst := some 82, op := Go.Op.indexAddr 47 (Go.Operand.tmp 79) (Go.Operand.tmp 81), type := 0, pos := "ref.go:380", after := #[{ on := 5, ground := Go.Ground.data }, { on := 7, ground := Go.Ground.data }], guard := none }) (v := ?_) rfl (by kernel_rfl) (by kernel_rfl) (by kernel_rfl) (fun _ _ _ h => h) (Or.inl ⟨by rfl, ?_⟩) (by assumption) ?_
          rotate_left
          · intro w' hS; go_simp; (try with_reducible rfl)
          simp only [Act.put, List.setIfInBounds_toArray, List.set_cons_zero, List.set_cons_succ]
          refine wpAnyH_take (i := 9) (oi := { dst := some 83, op := Go.Op.load 9 (Go.Operand.tmp 82), type := 9, pos := "ref.go:380", after := #[{ on := 8, ground := Go.Ground.data }], guard := none }) (v := .string (str V)) rfl (by kernel_rfl) (by kernel_rfl) (by kernel_rfl) (fun _ _ _ h => h) (Or.inl ⟨by rfl, ?_⟩) (by assumption) ?_
          · intro w' hS; obtain ⟨z0, z1⟩ := hS; go_simp
          simp only [Act.put, List.setIfInBounds_toArray, List.set_cons_zero, List.set_cons_succ]
          refine wpAnyH_take (i := 10) (oi := { dst := some 84, op := Go.Op.binOp Go.BinOp.add 9 (Go.Operand.tmp 78) (Go.Operand.tmp 83) 9, type := 9, pos := "ref.go:380", after := #[{ on := 4, ground := Go.Ground.data }, { on := 9, ground := Go.Ground.data }], guard := none }) (v := ?_) rfl (by kernel_rfl) (by kernel_rfl) (by kernel_rfl) (fun _ _ _ h => h) (Or.inl ⟨by rfl, ?_⟩) (by assumption) ?_
          rotate_left
          · intro w' hS; go_simp; (try with_reducible rfl)
          simp only [Act.put, List.setIfInBounds_toArray, List.set_cons_zero, List.set_cons_succ]
          refine wpAnyH_take (i := 11) (oi := { dst := some 12, op := Go.Op.assign (Go.Operand.tmp 84), type := 9, pos := "ref.go:380", after := #[{ on := 10, ground := Go.Ground.data }, { on := 0, ground := Go.Ground.phase }, { on := 1, ground := Go.Ground.phase }, { on := 2, ground := Go.Ground.phase }, { on := 3, ground := Go.Ground.phase }, { on := 4, ground := Go.Ground.phase }, { on := 5, ground := Go.Ground.phase }, { on := 6, ground := Go.Ground.phase }, { on := 7, ground := Go.Ground.phase }, { on := 8, ground := Go.Ground.phase }, { on := 9, ground := Go.Ground.phase }, { on := 10, ground := Go.Ground.phase }], guard := none }) (v := ?_) rfl (by kernel_rfl) (by kernel_rfl) (by kernel_rfl) (fun _ _ _ h => h) (Or.inl ⟨by rfl, ?_⟩) (by assumption) ?_
          rotate_left
          · intro w' hS; go_simp; (try with_reducible rfl)
          simp only [Act.put, List.setIfInBounds_toArray, List.set_cons_zero, List.set_cons_succ]
          refine wpAnyH_done (by kernel_rfl) ?_ _
          go_upto_region 21 with fail
          rw [show (wr.setCell ⟨gh, m', none⟩ (.string (str X))).drew = w8 from HW8.out.symm]
          clear f8 t5
          go_wp2_with fail
          go_ret2
          exact RsQ.no HF.out HB8.out
        · have HSO : Hid (spO Ws om (.mul a b) = true) := by show _ = _; rw [hso, decide_eq_true (by omega)]; rfl
          have HXE : Hid (spW Ws om (.mul a b) = X) := by show _ = _; rw [hsp]; unfold keep; rw [if_neg hbig]
          have hbI : ¬ (4096 : Int) < (X.length : Int) := by omega
          have hbd : decide ((4096 : Int) < (X.length : Int)) = false := decide_eq_false hbI
          have HOK : Hid (∀ t ∈ stk A (i + 1), spO Ws om t = true) := by
            show ∀ t ∈ stk A (i + 1), _
            rw [HST.out]
            intro t0 ht
            rcases List.mem_append.1 ht with h | h
            · exact HKS.out t0 h
            · have e : t0 = .mul a b := by simpa using h
              subst e
              exact HSO.out
          clear hsp hso hbig
          go_upto_region 18 with fail
          refine wp_region_held_drew (S := fun y => y.cell? ⟨gh, m', none⟩ = some (.string (str U)) ∧ y.cell? ⟨gh, m' + 1, none⟩ = some (.string (str V))) (by kernel_rfl) S0 (fun hH0 => ?_)
          clear S0
          refine wpAnyH_take (i := 0) (oi := { dst := some 74, op := Go.Op.move (Go.Operand.tmp 8), type := 47, pos := "ref.go:380", after := #[], guard := none }) (v := ?_) rfl (by kernel_rfl) (by kernel_rfl) (by kernel_rfl) (fun _ _ _ h => h) (Or.inl ⟨by rfl, ?_⟩) (by assumption) ?_
          rotate_left
          · intro w' hS; go_simp; (try with_reducible rfl)
          simp only [Act.put, List.setIfInBounds_toArray, List.set_cons_zero, List.set_cons_succ]
          refine wpAnyH_take (i := 1) (oi := { dst := some 75, op := Go.Op.move (Go.Operand.tmp 10), type := 3, pos := "ref.go:380", after := #[], guard := none }) (v := ?_) rfl (by kernel_rfl) (by kernel_rfl) (by kernel_rfl) (fun _ _ _ h => h) (Or.inl ⟨by rfl, ?_⟩) (by assumption) ?_
          rotate_left
          · intro w' hS; go_simp; (try with_reducible rfl)
          simp only [Act.put, List.setIfInBounds_toArray, List.set_cons_zero, List.set_cons_succ]
          refine wpAnyH_take (i := 2) (oi := { dst := some 76, op := Go.Op.binOp Go.BinOp.sub 3 (Go.Operand.tmp 75) (Go.Operand.const (Go.Value.int Go.IntKind.i64 2)) 3, type := 3, pos := "ref.go:380", after := #[{ on := 1, ground := Go.Ground.data }], guard := none }) (v := ?_) rfl (by kernel_rfl) (by kernel_rfl) (by kernel_rfl) (fun _ _ _ h => h) (Or.inl ⟨by rfl, ?_⟩) (by assumption) ?_
          rotate_left
          · intro w' hS; go_simp; (try with_reducible rfl)
          simp only [Act.put, List.setIfInBounds_toArray, List.set_cons_zero, List.set_cons_succ]
          refine wpAnyH_take (i := 3) (oi := { dst := some 77, op := Go.Op.indexAddr 47 (Go.Operand.tmp 74) (Go.Operand.tmp 76), type := 0, pos := "ref.go:380", after := #[{ on := 0, ground := Go.Ground.data }, { on := 2, ground := Go.Ground.data }], guard := none }) (v := ?_) rfl (by kernel_rfl) (by kernel_rfl) (by kernel_rfl) (fun _ _ _ h => h) (Or.inl ⟨by rfl, ?_⟩) (by assumption) ?_
          rotate_left
          · intro w' hS; go_simp; (try with_reducible rfl)
          simp only [Act.put, List.setIfInBounds_toArray, List.set_cons_zero, List.set_cons_succ]
          refine wpAnyH_take (i := 4) (oi := { dst := some 78, op := Go.Op.load 9 (Go.Operand.tmp 77), type := 9, pos := "ref.go:380", after := #[{ on := 3, ground := Go.Ground.data }], guard := none }) (v := .string (str U)) rfl (by kernel_rfl) (by kernel_rfl) (by kernel_rfl) (fun _ _ _ h => h) (Or.inl ⟨by rfl, ?_⟩) (by assumption) ?_
          · intro w' hS; obtain ⟨z0, z1⟩ := hS; go_simp
          simp only [Act.put, List.setIfInBounds_toArray, List.set_cons_zero, List.set_cons_succ]
          refine wpAnyH_take (i := 5) (oi := { dst := some 79, op := Go.Op.move (Go.Operand.tmp 8), type := 47, pos := "ref.go:380", after := #[], guard := none }) (v := ?_) rfl (by kernel_rfl) (by kernel_rfl) (by kernel_rfl) (fun _ _ _ h => h) (Or.inl ⟨by rfl, ?_⟩) (by assumption) ?_
          rotate_left
          · intro w' hS; go_simp; (try with_reducible rfl)
          simp only [Act.put, List.setIfInBounds_toArray, List.set_cons_zero, List.set_cons_succ]
          refine wpAnyH_take (i := 6) (oi := { dst := some 80, op := Go.Op.move (Go.Operand.tmp 10), type := 3, pos := "ref.go:380", after := #[], guard := none }) (v := ?_) rfl (by kernel_rfl) (by kernel_rfl) (by kernel_rfl) (fun _ _ _ h => h) (Or.inl ⟨by rfl, ?_⟩) (by assumption) ?_
          rotate_left
          · intro w' hS; go_simp; (try with_reducible rfl)
          simp only [Act.put, List.setIfInBounds_toArray, List.set_cons_zero, List.set_cons_succ]
          refine wpAnyH_take (i := 7) (oi := { dst := some 81, op := Go.Op.binOp Go.BinOp.sub 3 (Go.Operand.tmp 80) (Go.Operand.const (Go.Value.int Go.IntKind.i64 1)) 3, type := 3, pos := "ref.go:380", after := #[{ on := 6, ground := Go.Ground.data }], guard := none }) (v := ?_) rfl (by kernel_rfl) (by kernel_rfl) (by kernel_rfl) (fun _ _ _ h => h) (Or.inl ⟨by rfl, ?_⟩) (by assumption) ?_
          rotate_left
          · intro w' hS; go_simp; (try with_reducible rfl)
          simp only [Act.put, List.setIfInBounds_toArray, List.set_cons_zero, List.set_cons_succ]
          refine wpAnyH_take (i := 8) (oi := { dst := some 82, op := Go.Op.indexAddr 47 (Go.Operand.tmp 79) (Go.Operand.tmp 81), type := 0, pos := "ref.go:380", after := #[{ on := 5, ground := Go.Ground.data }, { on := 7, ground := Go.Ground.data }], guard := none }) (v := ?_) rfl (by kernel_rfl) (by kernel_rfl) (by kernel_rfl) (fun _ _ _ h => h) (Or.inl ⟨by rfl, ?_⟩) (by assumption) ?_
          rotate_left
          · intro w' hS; go_simp; (try with_reducible rfl)
          simp only [Act.put, List.setIfInBounds_toArray, List.set_cons_zero, List.set_cons_succ]
          refine wpAnyH_take (i := 9) (oi := { dst := some 83, op := Go.Op.load 9 (Go.Operand.tmp 82), type := 9, pos := "ref.go:380", after := #[{ on := 8, ground := Go.Ground.data }], guard := none }) (v := .string (str V)) rfl (by kernel_rfl) (by kernel_rfl) (by kernel_rfl) (fun _ _ _ h => h) (Or.inl ⟨by rfl, ?_⟩) (by assumption) ?_
          · intro w' hS; obtain ⟨z0, z1⟩ := hS; go_simp
          simp only [Act.put, List.setIfInBounds_toArray, List.set_cons_zero, List.set_cons_succ]
          refine wpAnyH_take (i := 10) (oi := { dst := some 84, op := Go.Op.binOp Go.BinOp.add 9 (Go.Operand.tmp 78) (Go.Operand.tmp 83) 9, type := 9, pos := "ref.go:380", after := #[{ on := 4, ground := Go.Ground.data }, { on := 9, ground := Go.Ground.data }], guard := none }) (v := ?_) rfl (by kernel_rfl) (by kernel_rfl) (by kernel_rfl) (fun _ _ _ h => h) (Or.inl ⟨by rfl, ?_⟩) (by assumption) ?_
          rotate_left
          · intro w' hS; go_simp; (try with_reducible rfl)
          simp only [Act.put, List.setIfInBounds_toArray, List.set_cons_zero, List.set_cons_succ]
          refine wpAnyH_take (i := 11) (oi := { dst := some 12, op := Go.Op.assign (Go.Operand.tmp 84), type := 9, pos := "ref.go:380", after := #[{ on := 10, ground := Go.Ground.data }, { on := 0, ground := Go.Ground.phase }, { on := 1, ground := Go.Ground.phase }, { on := 2, ground := Go.Ground.phase }, { on := 3, ground := Go.Ground.phase }, { on := 4, ground := Go.Ground.phase }, { on := 5, ground := Go.Ground.phase }, { on := 6, ground := Go.Ground.phase }, { on := 7, ground := Go.Ground.phase }, { on := 8, ground := Go.Ground.phase }, { on := 9, ground := Go.Ground.phase }, { on := 10, ground := Go.Ground.phase }], guard := none }) (v := ?_) rfl (by kernel_rfl) (by kernel_rfl) (by kernel_rfl) (fun _ _ _ h => h) (Or.inl ⟨by rfl, ?_⟩) (by assumption) ?_
          rotate_left
          · intro w' hS; go_simp; (try with_reducible rfl)
          simp only [Act.put, List.setIfInBounds_toArray, List.set_cons_zero, List.set_cons_succ]
          refine wpAnyH_done (by kernel_rfl) ?_ _
          go_upto_region 21 with fail
          rw [show (wr.setCell ⟨gh, m', none⟩ (.string (str X))).drew = w8 from HW8.out.symm]
          clear f8 t5
          go_wp2_with fail
          go_roundw
          case rel => exact ⟨i + 1, rfl, HLT.out, ⟨by rw [HST.out]; rw [List.length_append, HSL.out]; show World.ownsRow _ _ _ _ _ (m' + 1) (wds Ws om (S' ++ [.mul a b])); rw [wds_snoc]; rw [HXE.out]; exact HR8.out, HOK.out, HB8.out⟩⟩
          case measure => have := HLT.out; simp [Go.RowKit.intOf]; omega
    · have ei : i = n := by omega
      subst ei
      have hiI : ¬ (i : Int) < i := by omega
      have es : stk A i = [A] := by have := stk_end A; rw [HN.out] at this; exact this
      have em : m = 1 := by rw [← HML.out, es]; rfl
      subst em
      obtain ⟨gh, cc, ev, -, -⟩ := World.ownsRow.form HR1.out (by omega)
      simp only [Value.slice.injEq] at ev
      obtain ⟨rfl, -, rfl⟩ := ev
      have hr1 : wr.ownsRow w.heap.size 9 1 (.slice (some ⟨gh, 0, none⟩) 1 ch) 1 (wds Ws om (stk A i)) := HR1.out
      rw [es] at hr1
      have t0 : wr.cell? ⟨gh, 0, none⟩ = some (.string (str (spW Ws om A))) := by rw [hr1.cellAt 0 (by omega)]; rfl
      have HSO : Hid (spO Ws om A = true) := HK.out A (by rw [es]; simp)
      clear hr1 es
      go_wp2_with fail
      go_ret2
      exact RsQ.yes HSO.out HBW.out
end Go.Proofs.Ythhlamehbcidgaa
