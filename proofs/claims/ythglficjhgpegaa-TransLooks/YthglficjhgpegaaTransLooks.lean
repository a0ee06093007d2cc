/- Proved: eggboxlaw13.TransLooks answers true at any transformation's data t and every number i (P1303, P1304): List, At, Image, Kernel, Fixed, Cycle and Inverse of trans answer what the document's answer, with the same error, and the lists that List and Kernel answer share nothing. No condition. -/
import Derived.Test.YthglficjhgpegaaCs
import Derived.Test.YthglficjhgpegaaAr
namespace Go.Proofs.Ythglficjhgpegaa.transLooks
open Go Go.ChangeShapes Go.WideShapes Go.ChangeAt Go.RowKit Go.Lib
open Go.ChangeMaps (open_string shut_string)
set_option linter.unusedVariables false

theorem zI (l : List Nat) : zC (pI l) = intCells l := by simp [zC, pI, intCells]
def LsQ (xs : List Nat) (E : Int) (w : World) (e : Ending) (w' : World) : Prop := ∃ v, e = .returned (.tuple #[v, .int .i64 E]) ∧ w'.ownsRow w.heap.size 3 1 v xs.length (zC (pI xs)) ∧ Below w.heap.size w w'
set_option maxHeartbeats 16000000 in
set_option maxRecDepth 100000 in
theorem looks_gen (N : Int) (g : Nat → Nat) (i : Int) (l ks : List Nat) (hl : l.length ≤ 64) (hks : ks.length = l.length) (E : Int) (x eA : Int) (F : Nat → Nat)
    (hL : ∀ w, Calls Try.prog 17 #[.agg (trC N g)] w (LsQ l E w))
    (hA : ∀ w, Calls Try.prog 18 #[.agg (trC N g), .int .i64 i] w fun e w' => e = .returned (.tuple #[.int .i64 x, .int .i64 eA]) ∧ Below w.heap.size w w')
    (hM : ∀ w, Calls Try.prog 19 #[.agg (trC N g)] w fun e w' => e = .returned (.tuple #[.agg (cellsF F), .int .i64 E]) ∧ Below w.heap.size w w')
    (hK : ∀ w, Calls Try.prog 20 #[.agg (trC N g)] w (LsQ ks E w))
    (kL : ∀ w, Calls Try.prog 21 #[.agg (trC N g)] w (LsQ l E w))
    (kA : ∀ w, Calls Try.prog 22 #[.agg (trC N g), .int .i64 i] w fun e w' => e = .returned (.tuple #[.int .i64 x, .int .i64 eA]) ∧ Below w.heap.size w w')
    (kM : ∀ w, Calls Try.prog 23 #[.agg (trC N g)] w fun e w' => e = .returned (.tuple #[.agg (cellsF F), .int .i64 E]) ∧ Below w.heap.size w w')
    (kK : ∀ w, Calls Try.prog 24 #[.agg (trC N g)] w (LsQ ks E w))
    (hT : ∀ w, Calls Try.prog 26 #[.agg (trC N g)] w fun e w' => e = .returned (.bool true) ∧ Below w.heap.size w w') (W : World) :
    Calls Try.prog 4 #[.agg (trC N g), .int .i64 i] W fun e w' => e = .returned (.bool true) ∧ Below W.heap.size W w' := by
  have HL : Hid _ := hL
  have HA : Hid _ := hA
  have HM : Hid _ := hM
  have HKn : Hid _ := hK
  have LL : Hid _ := kL
  have LA : Hid _ := kA
  have LM : Hid _ := kM
  have LKn : Hid _ := kK
  have HT : Hid _ := hT
  have HLE : Hid (l.length ≤ 64 ∧ ks.length = l.length) := ⟨hl, hks⟩
  clear hL hA hM hK kL kA kM kK hT hl hks
  have hszF := cellsF_size F
  have HK1 : Hid (KS [(W.heap.size, N, g)] [] W (W.alloc (.cells (trC N g) 26))) := ⟨KG.new (L := []) ⟨fun p hp => by simp at hp, Below.refl _ _⟩ N g, fun p hp => by simp at hp⟩
  go_enter Try.func4, Try.ntmps4
  go_wp2_with (first
    | (refine wg_load rfl rfl (HK1.out.get (b := W.heap.size) (N := N) (g := g) (by simp)) rfl ?_)
    | (refine ws_eq rfl rfl rfl rfl ?_)
    | (go_at_call 12; refine (num13_any _ _).mono ?_; rintro e wn ⟨rfl, rfl⟩))
  refine (HL.out _).mono ?_
  rintro e w2 ⟨vl, rfl, hO, hB⟩
  have Ol : Hid (w2.ownsRow W.heap.size 3 1 vl l.length (zC (pI l))) := own_mono hO HK1.out.tr.below.size
  have HX : Hid (∀ b, vl.ownBlock = some b → b < w2.heap.size) := fun b hb => (hO.lt b hb).2
  have HJ2 : Hid (KS [(W.heap.size, N, g)] [] W w2) := HK1.out.call hB
  have HXS : Hid (w2.heap.size ≤ w2.heap.size) := Nat.le_refl _
  clear hB hO HK1
  obtain ⟨al, cl, rfl⟩ := own_shape Ol.out
  go_wp2_with (first
    | (refine wg_load rfl rfl (HJ2.out.get (b := W.heap.size) (N := N) (g := g) (by simp)) rfl ?_)
    | (refine ws_eq rfl rfl rfl rfl ?_)
    | (go_at_call 12; refine (num13_any _ _).mono ?_; rintro e wn ⟨rfl, rfl⟩))
  try clear hst
  refine (HA.out _).mono ?_
  rintro e w3 ⟨rfl, hB⟩
  have Oln : Hid (w3.ownsRow W.heap.size 3 1 (.slice al l.length cl) l.length (zC (pI l))) := own_below Ol.out hB
  clear Ol
  have HXSn : Hid (w2.heap.size ≤ w3.heap.size) := Nat.le_trans HXS.out hB.size
  clear HXS
  have HXS := HXSn
  clear HXSn
  have HJ3 : Hid (KS [(W.heap.size, N, g)] [] W w3) := HJ2.out.call hB
  clear hB HJ2
  go_wp2_with (first
    | (refine wg_load rfl rfl (HJ3.out.get (b := W.heap.size) (N := N) (g := g) (by simp)) rfl ?_)
    | (refine ws_eq rfl rfl rfl rfl ?_)
    | (go_at_call 12; refine (num13_any _ _).mono ?_; rintro e wn ⟨rfl, rfl⟩))
  try clear hst
  refine (HM.out _).mono ?_
  rintro e w4 ⟨rfl, hB⟩
  have Olnn : Hid (w4.ownsRow W.heap.size 3 1 (.slice al l.length cl) l.length (zC (pI l))) := own_below Oln.out hB
  clear Oln
  have HXSn : Hid (w2.heap.size ≤ w4.heap.size) := Nat.le_trans HXS.out hB.size
  clear HXS
  have HXS := HXSn
  clear HXSn
  have HJ4 : Hid (KS [(W.heap.size, N, g)] [] W w4) := HJ3.out.call hB
  clear hB HJ3
  have hst := st_setNew w4 F
  have HK4 : Hid (KS [(W.heap.size, N, g)] [(w4.heap.size, F)] W (w4.alloc (.cells (cellsF F) 44))) := HJ4.out.newS _
  clear HJ4
  have Olnnn : Hid ((w4.alloc (.cells (cellsF F) 44)).ownsRow W.heap.size 3 1 (.slice al l.length cl) l.length (zC (pI l))) := Olnn.out.alloc _
  clear Olnn
  have HXSn : Hid (w2.heap.size ≤ (w4.alloc (.cells (cellsF F) 44)).heap.size) := Nat.le_trans HXS.out (by simp)
  clear HXS
  have HXS := HXSn
  clear HXSn
  go_wp2_with (first
    | (refine wg_load rfl rfl (HK4.out.get (b := W.heap.size) (N := N) (g := g) (by simp)) rfl ?_)
    | (refine ws_load rfl rfl (HK4.out.getS (b := w4.heap.size) (f := F) (by simp)) rfl ?_)
    | (refine ws_eq rfl rfl rfl rfl ?_)
    | (go_at_call 12; refine (num13_any _ _).mono ?_; rintro e wn ⟨rfl, rfl⟩))
  try clear hst
  refine (HKn.out _).mono ?_
  rintro e w5 ⟨vk, rfl, hO, hB⟩
  have HY : Hid (∀ b, vk.ownBlock = some b → w2.heap.size ≤ b) := fun b hb => Nat.le_trans HXS.out (hO.lt b hb).1
  have Olnnnn : Hid (w5.ownsRow W.heap.size 3 1 (.slice al l.length cl) l.length (zC (pI l))) := own_below Olnnn.out hB
  clear Olnnn
  have Ok : Hid (w5.ownsRow W.heap.size 3 1 vk ks.length (zC (pI ks))) := own_mono hO HK4.out.tr.below.size
  have HJ5 : Hid (KS [(W.heap.size, N, g)] [(w4.heap.size, F)] W w5) := HK4.out.call hB
  have HXSn : Hid (w2.heap.size ≤ w5.heap.size) := Nat.le_trans HXS.out hB.size
  clear HXS
  have HXS := HXSn
  clear HXSn
  clear hB hO HK4
  obtain ⟨ak, ck, rfl⟩ := own_shape Ok.out
  go_wp2_with (first
    | (refine wg_load rfl rfl (HJ5.out.get (b := W.heap.size) (N := N) (g := g) (by simp)) rfl ?_)
    | (refine ws_load rfl rfl (HJ5.out.getS (b := w4.heap.size) (f := F) (by simp)) rfl ?_)
    | (refine ws_eq rfl rfl rfl rfl ?_)
    | (go_at_call 12; refine (num13_any _ _).mono ?_; rintro e wn ⟨rfl, rfl⟩))
  try clear hst
  refine (LL.out _).mono ?_
  rintro e w6 ⟨vm, rfl, hO, hB⟩
  have Olnnnnn : Hid (w6.ownsRow W.heap.size 3 1 (.slice al l.length cl) l.length (zC (pI l))) := own_below Olnnnn.out hB
  clear Olnnnn
  have Okn : Hid (w6.ownsRow W.heap.size 3 1 (.slice ak ks.length ck) ks.length (zC (pI ks))) := own_below Ok.out hB
  clear Ok
  have Om : Hid (w6.ownsRow W.heap.size 3 1 vm l.length (zC (pI l))) := own_mono hO HJ5.out.tr.below.size
  have HJ6 : Hid (KS [(W.heap.size, N, g)] [(w4.heap.size, F)] W w6) := HJ5.out.call hB
  have HXSn : Hid (w2.heap.size ≤ w6.heap.size) := Nat.le_trans HXS.out hB.size
  clear HXS
  have HXS := HXSn
  clear HXSn
  clear hB hO HJ5
  obtain ⟨am, cm, rfl⟩ := own_shape Om.out
  go_wp2_with (first
    | (refine wg_load rfl rfl (HJ6.out.get (b := W.heap.size) (N := N) (g := g) (by simp)) rfl ?_)
    | (refine ws_load rfl rfl (HJ6.out.getS (b := w4.heap.size) (f := F) (by simp)) rfl ?_)
    | (refine ws_eq rfl rfl rfl rfl ?_)
    | (go_at_call 12; refine (num13_any _ _).mono ?_; rintro e wn ⟨rfl, rfl⟩))
  try clear hst
  refine (LA.out _).mono ?_
  rintro e w7 ⟨rfl, hB⟩
  have Olnnnnnn : Hid (w7.ownsRow W.heap.size 3 1 (.slice al l.length cl) l.length (zC (pI l))) := own_below Olnnnnn.out hB
  clear Olnnnnn
  have Oknn : Hid (w7.ownsRow W.heap.size 3 1 (.slice ak ks.length ck) ks.length (zC (pI ks))) := own_below Okn.out hB
  clear Okn
  have Omn : Hid (w7.ownsRow W.heap.size 3 1 (.slice am l.length cm) l.length (zC (pI l))) := own_below Om.out hB
  clear Om
  have HXSn : Hid (w2.heap.size ≤ w7.heap.size) := Nat.le_trans HXS.out hB.size
  clear HXS
  have HXS := HXSn
  clear HXSn
  have HJ7 : Hid (KS [(W.heap.size, N, g)] [(w4.heap.size, F)] W w7) := HJ6.out.call hB
  clear hB HJ6
  go_wp2_with (first
    | (refine wg_load rfl rfl (HJ7.out.get (b := W.heap.size) (N := N) (g := g) (by simp)) rfl ?_)
    | (refine ws_load rfl rfl (HJ7.out.getS (b := w4.heap.size) (f := F) (by simp)) rfl ?_)
    | (refine ws_eq rfl rfl rfl rfl ?_)
    | (go_at_call 12; refine (num13_any _ _).mono ?_; rintro e wn ⟨rfl, rfl⟩))
  try clear hst
  refine (LM.out _).mono ?_
  rintro e w8 ⟨rfl, hB⟩
  have Olnnnnnnn : Hid (w8.ownsRow W.heap.size 3 1 (.slice al l.length cl) l.length (zC (pI l))) := own_below Olnnnnnn.out hB
  clear Olnnnnnn
  have Oknnn : Hid (w8.ownsRow W.heap.size 3 1 (.slice ak ks.length ck) ks.length (zC (pI ks))) := own_below Oknn.out hB
  clear Oknn
  have Omnn : Hid (w8.ownsRow W.heap.size 3 1 (.slice am l.length cm) l.length (zC (pI l))) := own_below Omn.out hB
  clear Omn
  have HXSn : Hid (w2.heap.size ≤ w8.heap.size) := Nat.le_trans HXS.out hB.size
  clear HXS
  have HXS := HXSn
  clear HXSn
  have HJ8 : Hid (KS [(W.heap.size, N, g)] [(w4.heap.size, F)] W w8) := HJ7.out.call hB
  clear hB HJ7
  have hst := st_setNew w8 F
  have HK8 : Hid (KS [(W.heap.size, N, g)] [(w8.heap.size, F), (w4.heap.size, F)] W (w8.alloc (.cells (cellsF F) 44))) := HJ8.out.newS _
  clear HJ8
  have Olnnnnnnnn : Hid ((w8.alloc (.cells (cellsF F) 44)).ownsRow W.heap.size 3 1 (.slice al l.length cl) l.length (zC (pI l))) := Olnnnnnnn.out.alloc _
  clear Olnnnnnnn
  have Oknnnn : Hid ((w8.alloc (.cells (cellsF F) 44)).ownsRow W.heap.size 3 1 (.slice ak ks.length ck) ks.length (zC (pI ks))) := Oknnn.out.alloc _
  clear Oknnn
  have Omnnn : Hid ((w8.alloc (.cells (cellsF F) 44)).ownsRow W.heap.size 3 1 (.slice am l.length cm) l.length (zC (pI l))) := Omnn.out.alloc _
  clear Omnn
  have HXSn : Hid (w2.heap.size ≤ (w8.alloc (.cells (cellsF F) 44)).heap.size) := Nat.le_trans HXS.out (by simp)
  clear HXS
  have HXS := HXSn
  clear HXSn
  go_wp2_with (first
    | (refine wg_load rfl rfl (HK8.out.get (b := W.heap.size) (N := N) (g := g) (by simp)) rfl ?_)
    | (refine ws_load rfl rfl (HK8.out.getS (b := w8.heap.size) (f := F) (by simp)) rfl ?_)
    | (refine ws_load rfl rfl (HK8.out.getS (b := w4.heap.size) (f := F) (by simp)) rfl ?_)
    | (refine ws_eq rfl rfl rfl rfl ?_)
    | (go_at_call 12; refine (num13_any _ _).mono ?_; rintro e wn ⟨rfl, rfl⟩))
  try clear hst
  refine (LKn.out _).mono ?_
  rintro e w9 ⟨vq, rfl, hO, hB⟩
  have Olnnnnnnnnn : Hid (w9.ownsRow W.heap.size 3 1 (.slice al l.length cl) l.length (zC (pI l))) := own_below Olnnnnnnnn.out hB
  clear Olnnnnnnnn
  have Oknnnnn : Hid (w9.ownsRow W.heap.size 3 1 (.slice ak ks.length ck) ks.length (zC (pI ks))) := own_below Oknnnn.out hB
  clear Oknnnn
  have Omnnnn : Hid (w9.ownsRow W.heap.size 3 1 (.slice am l.length cm) l.length (zC (pI l))) := own_below Omnnn.out hB
  clear Omnnn
  have Oq : Hid (w9.ownsRow W.heap.size 3 1 vq ks.length (zC (pI ks))) := own_mono hO HK8.out.tr.below.size
  have HJ9 : Hid (KS [(W.heap.size, N, g)] [(w8.heap.size, F), (w4.heap.size, F)] W w9) := HK8.out.call hB
  have HXSn : Hid (w2.heap.size ≤ w9.heap.size) := Nat.le_trans HXS.out hB.size
  clear HXS
  have HXS := HXSn
  clear HXSn
  clear hB hO HK8
  obtain ⟨aq, cq, rfl⟩ := own_shape Oq.out
  go_wp2_with (first
    | (refine wg_load rfl rfl (HJ9.out.get (b := W.heap.size) (N := N) (g := g) (by simp)) rfl ?_)
    | (refine ws_load rfl rfl (HJ9.out.getS (b := w8.heap.size) (f := F) (by simp)) rfl ?_)
    | (refine ws_load rfl rfl (HJ9.out.getS (b := w4.heap.size) (f := F) (by simp)) rfl ?_)
    | (refine ws_eq rfl rfl rfl rfl ?_)
    | (go_at_call 12; refine (num13_any _ _).mono ?_; rintro e wn ⟨rfl, rfl⟩))
  refine (same_any _ _ (pI l) _ (by apply own_reads (base := _); rw [pI_len]; exact Olnnnnnnnnn.out) (by apply own_reads (base := _); rw [pI_len]; exact Omnnnn.out) (by rw [pI_len]; have := HLE.out; omega)).mono ?_
  rintro e w10 ⟨rfl, hB⟩
  have Olnnnnnnnnnn : Hid (w10.ownsRow W.heap.size 3 1 (.slice al l.length cl) l.length (zC (pI l))) := own_below Olnnnnnnnnn.out hB
  clear Olnnnnnnnnn
  have Oknnnnnn : Hid (w10.ownsRow W.heap.size 3 1 (.slice ak ks.length ck) ks.length (zC (pI ks))) := own_below Oknnnnn.out hB
  clear Oknnnnn
  have Omnnnnn : Hid (w10.ownsRow W.heap.size 3 1 (.slice am l.length cm) l.length (zC (pI l))) := own_below Omnnnn.out hB
  clear Omnnnn
  have Oqn : Hid (w10.ownsRow W.heap.size 3 1 (.slice aq ks.length cq) ks.length (zC (pI ks))) := own_below Oq.out hB
  clear Oq
  have HJ10 : Hid (KS [(W.heap.size, N, g)] [(w8.heap.size, F), (w4.heap.size, F)] W w10) := HJ9.out.call hB
  clear hB HJ9
  go_wp2_with (first
    | (refine wg_load rfl rfl (HJ10.out.get (b := W.heap.size) (N := N) (g := g) (by simp)) rfl ?_)
    | (refine ws_load rfl rfl (HJ10.out.getS (b := w8.heap.size) (f := F) (by simp)) rfl ?_)
    | (refine ws_load rfl rfl (HJ10.out.getS (b := w4.heap.size) (f := F) (by simp)) rfl ?_)
    | (refine ws_eq rfl rfl rfl rfl ?_)
    | (go_at_call 12; refine (num13_any _ _).mono ?_; rintro e wn ⟨rfl, rfl⟩))
  refine (same_any _ _ (pI ks) _ (by apply own_reads (base := _); rw [pI_len]; exact Oknnnnnn.out) (by apply own_reads (base := _); rw [pI_len]; exact Oqn.out) (by rw [pI_len]; have := HLE.out; omega)).mono ?_
  rintro e w11 ⟨rfl, hB⟩
  have Olnnnnnnnnnnn : Hid (w11.ownsRow W.heap.size 3 1 (.slice al l.length cl) l.length (zC (pI l))) := own_below Olnnnnnnnnnn.out hB
  clear Olnnnnnnnnnn
  have Oknnnnnnn : Hid (w11.ownsRow W.heap.size 3 1 (.slice ak ks.length ck) ks.length (zC (pI ks))) := own_below Oknnnnnn.out hB
  clear Oknnnnnn
  have Omnnnnnn : Hid (w11.ownsRow W.heap.size 3 1 (.slice am l.length cm) l.length (zC (pI l))) := own_below Omnnnnn.out hB
  clear Omnnnnn
  have Oqnn : Hid (w11.ownsRow W.heap.size 3 1 (.slice aq ks.length cq) ks.length (zC (pI ks))) := own_below Oqn.out hB
  clear Oqn
  have HJ11 : Hid (KS [(W.heap.size, N, g)] [(w8.heap.size, F), (w4.heap.size, F)] W w11) := HJ10.out.call hB
  clear hB HJ10
  go_wp2_with (first
    | (refine wg_load rfl rfl (HJ11.out.get (b := W.heap.size) (N := N) (g := g) (by simp)) rfl ?_)
    | (refine ws_load rfl rfl (HJ11.out.getS (b := w8.heap.size) (f := F) (by simp)) rfl ?_)
    | (refine ws_load rfl rfl (HJ11.out.getS (b := w4.heap.size) (f := F) (by simp)) rfl ?_)
    | (refine ws_eq rfl rfl rfl rfl ?_)
    | (go_at_call 12; refine (num13_any _ _).mono ?_; rintro e wn ⟨rfl, rfl⟩))
  refine (HT.out _).mono ?_
  rintro e w12 ⟨rfl, hB⟩
  have Olnnnnnnnnnnnn : Hid (w12.ownsRow W.heap.size 3 1 (.slice al l.length cl) l.length (zC (pI l))) := own_below Olnnnnnnnnnnn.out hB
  clear Olnnnnnnnnnnn
  have Oknnnnnnnn : Hid (w12.ownsRow W.heap.size 3 1 (.slice ak ks.length ck) ks.length (zC (pI ks))) := own_below Oknnnnnnn.out hB
  clear Oknnnnnnn
  have Omnnnnnnn : Hid (w12.ownsRow W.heap.size 3 1 (.slice am l.length cm) l.length (zC (pI l))) := own_below Omnnnnnn.out hB
  clear Omnnnnnn
  have Oqnnn : Hid (w12.ownsRow W.heap.size 3 1 (.slice aq ks.length cq) ks.length (zC (pI ks))) := own_below Oqnn.out hB
  clear Oqnn
  have HJ12 : Hid (KS [(W.heap.size, N, g)] [(w8.heap.size, F), (w4.heap.size, F)] W w12) := HJ11.out.call hB
  clear hB HJ11
  go_wp2_with (first
    | (refine wg_load rfl rfl (HJ12.out.get (b := W.heap.size) (N := N) (g := g) (by simp)) rfl ?_)
    | (refine ws_load rfl rfl (HJ12.out.getS (b := w8.heap.size) (f := F) (by simp)) rfl ?_)
    | (refine ws_load rfl rfl (HJ12.out.getS (b := w4.heap.size) (f := F) (by simp)) rfl ?_)
    | (refine ws_eq rfl rfl rfl rfl ?_)
    | (go_at_call 12; refine (num13_any _ _).mono ?_; rintro e wn ⟨rfl, rfl⟩))
  refine (apart_any W.heap.size w12.heap.size (fun j => if j = 0 then al else ak) (fun j => if j = 0 then l.length else ks.length) (fun j => if j = 0 then cl else ck) (fun j => if j = 0 then l else ks) (w12.alloc (.cells #[.slice al l.length cl, .slice ak ks.length ck] 22)) (by exact heap_alloc_new w12 _) ?_ ?_ ?_ ?_ ?_).mono ?_
  · intro j hj
    match j, hj with
    | 0, _ => exact (by have := Olnnnnnnnnnnnn.out; rw [zI] at this; exact this.alloc _)
    | 1, _ => exact (by have := Oknnnnnnnn.out; rw [zI] at this; exact this.alloc _)
  · intro j hj
    have := HLE.out
    match j, hj with
    | 0, _ => show l.length ≤ _; omega
    | 1, _ => show ks.length ≤ _; omega
  · intro j hj
    match j, hj with
    | 0, _ => rfl
    | 1, _ => rfl
  · intro j j' hj hj' hne b hb hb'
    match j, j', hj, hj', hne with
    | 0, 0, _, _, hne => exact hne rfl
    | 1, 1, _, _, hne => exact hne rfl
    | 0, 1, _, _, _ =>
      have h1 := HX.out b hb
      have h2 := HY.out b hb'
      omega
    | 1, 0, _, _, _ =>
      have h1 := HX.out b hb'
      have h2 := HY.out b hb
      omega
  · have := HJ12.out.tr.below.size; simp; omega
  rintro e wy ⟨rfl, hB⟩
  have HBy : Hid (Below W.heap.size W wy) := (HJ12.out.tr.below.alloc HJ12.out.tr.below.size _).trans hB
  clear hB HJ12 Olnnnnnnnnnnnn Oknnnnnnnn Omnnnnnnn Oqnnn HX HY HXS
  go_wp2_with fail
  refine (knows13_any _).mono ?_
  rintro e wx ⟨rfl, hB⟩
  have HBx : Hid (Below W.heap.size W wx) := HBy.out.trans (hB.mono HBy.out.size)
  clear hB
  go_wp2_with fail
  go_ret
  exact ⟨rfl, HBx.out⟩
theorem lsq_ok {l : List Nat} (hl : Tf l) (w : World) : Calls Try.prog 17 #[.agg (tC l)] w (LsQ l 0 w) := (tlist_ok l hl w).mono (fun e w' ⟨_, h1, h2, h3⟩ => ⟨_, h1, h2, h3⟩)
theorem iv_yes {l : List Nat} {w w' : World} {e : Ending} (hI : Inj l) (h : IvQ l w e w') : e = .returned (.tuple #[.agg (trC ((inv l).length : Int) (pk (im (inv l)) (inv l).length)), .int .i64 0]) ∧ Below w.heap.size w w' := by
  obtain ⟨v, hv, h1, h2⟩ := h
  rcases hv with ⟨_, r⟩ | ⟨n, _⟩
  · exact ⟨by rw [h1, r]; rfl, h2⟩
  · exact absurd hI n
theorem iv_no {l : List Nat} {w w' : World} {e : Ending} (hI : ¬ Inj l) (h : IvQ l w e w') : e = .returned (.tuple #[.agg (trC 0 (fun _ => 0)), .int .i64 130]) ∧ Below w.heap.size w w' := by
  obtain ⟨v, hv, h1, h2⟩ := h
  rcases hv with ⟨n, _⟩ | ⟨_, r⟩
  · exact absurd n hI
  · exact ⟨by rw [h1, r]; rfl, h2⟩
theorem walk (N0 : Int) (g0 : Nat → Nat) (a1 : Int) (W : World) (x0 : W64 g0) (i0 : I64 N0) (h1 : I64 a1) :
    Calls Try.prog 4 #[.agg (trC N0 g0), .int .i64 a1] W fun e w' => e = .returned (.bool true) ∧ Below W.heap.size W w' := by
  by_cases h : okT N0 g0
  · obtain ⟨l, hl, e⟩ : ∃ l, Tf l ∧ trC N0 g0 = trC l.length (pk (im l) l.length) := by
      have q := dgl_tr h
      unfold trL trV at q
      simp only [Value.agg.injEq] at q
      exact ⟨_, dgl_tf h, q⟩
    rw [e]
    obtain ⟨x, eA, q⟩ : ∃ x eA, atV l a1 = .tuple #[.int .i64 x, .int .i64 eA] := by
      unfold atV
      split
      · exact ⟨_, _, rfl⟩
      · exact ⟨_, _, rfl⟩
    have kr : (krL l).length = l.length := krL_len l
    refine looks_gen _ _ a1 l (krL l) hl.le kr 0 x eA (word (imN l)) (fun w => lsq_ok hl w) (fun w => by have := tat_ok l hl a1 w; rw [q] at this; exact this) (fun w => image_ok l hl w)
      (fun w => (kernel_ok l hl w).mono (fun e w' ⟨_, h1, h2, h3⟩ => ⟨_, h1, by rw [kr]; exact h2, h3⟩)) (fun w => rlist_ok l hl w) (fun w => by have := rat_ok l hl a1 w; rw [q] at this; exact this) (fun w => rimage_ok l hl w)
      (fun w => (rkernel_ok l hl w).mono (fun e w' ⟨_, h1, h2, h3⟩ => ⟨_, h1, by rw [kr]; exact h2, h3⟩)) (fun w => ?_) W
    have cy : ∀ (Q : Prop), True := fun _ => trivial
    by_cases hI : Inj l
    · exact turns_gen _ _ (word (fxN l)) 0 (fun x p => ∃ a b : Nat, x = a ∧ p = b ∧ Cyc l a b) (fun a b c d ⟨a1, b1, e1, e2, c1⟩ ⟨a2, b2, e3, e4, c2⟩ => by obtain ⟨q1, q2⟩ := c1.uniq c2; subst e1 e2 e3 e4; rw [q1, q2]; exact ⟨rfl, rfl⟩) 0 ((inv l).length : Int) (pk (im (inv l)) (inv l).length) 0
        (fun w => fixed_ok l hl w) (fun w => (cycle_ok l hl w).mono (fun e w' ⟨a, b, c, h1, h2⟩ => ⟨⟨_, _, ⟨a, b, rfl, rfl, c⟩, h1⟩, h2⟩))
        (fun w => (inverse_any l hl w).mono (fun e w' h => iv_yes hI h))
        (fun w => rfixed_ok l hl w) (fun w => (rcycle_ok l hl w).mono (fun e w' ⟨a, b, c, h1, h2⟩ => ⟨⟨_, _, ⟨a, b, rfl, rfl, c⟩, h1⟩, h2⟩))
        (fun w => (rinverse_ok l hl w).mono (fun e w' h => iv_yes hI h)) w
    · exact turns_gen _ _ (word (fxN l)) 0 (fun x p => ∃ a b : Nat, x = a ∧ p = b ∧ Cyc l a b) (fun a b c d ⟨a1, b1, e1, e2, c1⟩ ⟨a2, b2, e3, e4, c2⟩ => by obtain ⟨q1, q2⟩ := c1.uniq c2; subst e1 e2 e3 e4; rw [q1, q2]; exact ⟨rfl, rfl⟩) 0 0 (fun _ => 0) 130
        (fun w => fixed_ok l hl w) (fun w => (cycle_ok l hl w).mono (fun e w' ⟨a, b, c, h1, h2⟩ => ⟨⟨_, _, ⟨a, b, rfl, rfl, c⟩, h1⟩, h2⟩))
        (fun w => (inverse_any l hl w).mono (fun e w' h => iv_no hI h))
        (fun w => rfixed_ok l hl w) (fun w => (rcycle_ok l hl w).mono (fun e w' ⟨a, b, c, h1, h2⟩ => ⟨⟨_, _, ⟨a, b, rfl, rfl, c⟩, h1⟩, h2⟩))
        (fun w => (rinverse_ok l hl w).mono (fun e w' h => iv_no hI h)) w
  · have nil0 : ∀ (w w' : World), w'.ownsRow w.heap.size 3 1 (.slice none 0 0) ([] : List Nat).length (zC (pI [])) := fun w w' => World.ownsRow_nil _ _ _ _
    refine looks_gen N0 g0 a1 [] [] (by simp) rfl 130 0 130 (fun _ => 0) (fun w => (tlist_bad N0 g0 x0 h w).mono (fun e w' ⟨h1, h2⟩ => ⟨_, h1, nil0 _ _, h2⟩)) (fun w => tat_bad N0 g0 x0 h a1 w) (fun w => image_bad N0 g0 x0 h w)
      (fun w => (kernel_bad N0 g0 x0 h w).mono (fun e w' ⟨h1, h2⟩ => ⟨_, h1, nil0 _ _, h2⟩)) (fun w => (rlist_bad N0 g0 x0 h w).mono (fun e w' ⟨h1, h2⟩ => ⟨_, h1, nil0 _ _, h2⟩)) (fun w => rat_bad N0 g0 x0 h a1 w) (fun w => rimage_bad N0 g0 x0 h w)
      (fun w => (rkernel_bad N0 g0 x0 h w).mono (fun e w' ⟨v, h1, h2, h3⟩ => ⟨v, h1, h2, h3⟩)) (fun w => ?_) W
    exact turns_gen _ _ (fun _ => 0) 130 (fun x p => x = 0 ∧ p = 0) (fun a b c d h1 h2 => ⟨h1.1.trans h2.1.symm, h1.2.trans h2.2.symm⟩) 130 0 (fun _ => 0) 130
      (fun w => fixed_bad N0 g0 x0 h w) (fun w => (cycle_bad N0 g0 x0 h w).mono (fun e w' ⟨h1, h2⟩ => ⟨⟨_, _, ⟨rfl, rfl⟩, h1⟩, h2⟩)) (fun w => inverse_bad N0 g0 x0 h w)
      (fun w => rfixed_bad N0 g0 x0 h w) (fun w => (rcycle_bad N0 g0 x0 h w).mono (fun e w' ⟨h1, h2⟩ => ⟨⟨_, _, ⟨rfl, rfl⟩, h1⟩, h2⟩)) (fun w => rinverse_bad N0 g0 x0 h w) w

/-! ### The row's step -/
theorem own : ownKnob Try.prog.godebug = none := by kernel_rfl
set_option maxRecDepth 100000 in
theorem lifted (os : Os) (started : os.Started) (H : Type) (enc : TypeId × Value → H) :
    ReturnsInHanded {} Try.checked os 4 .any (Rows.transLooksSpec.pre6 enc Try.prog Try.f4 Rows.transLooksRow.domain false) (Rows.transLooksSpec.post enc Try.prog Try.f4 false true false false) := by
  refine returnsInHanded_of_change_sized (C := Try.checked) own started (by kernel_rfl) Try.func4
    (ChangeSpec.witness6 (enc := enc) (C := Try.checked) false ⟨#[], #[.agg #[.int .i64 0, .int .u64 0, .int .u64 0, .int .u64 0, .int .u64 0, .int .u64 0, .int .u64 0, .int .u64 0], .int .i64 0], []⟩ 8 (by kernel_rfl) (by kernel_rfl) (by kernel_rfl) (by kernel_rfl)) ?_
  intro W base args ds gs before hval0 hW hcnd hsz0 _
  have hval : ∀ (j : Nat) t v, Try.f4.params[j]? = some t → args[j]? = some v → Value.okWide Try.prog W .any base t v := hval0
  clear hval0
  have hsz : (DataW.weightsEach Try.prog (Try.f4.params.toList ++ Rows.transLooksSpec.plain.varTypes Try.prog) (ds ++ gs)).all (· ≤ reachBytes) = true := hsz0
  clear hsz0
  have hW' := hW
  obtain ⟨p, q, hA0, hV, rfl, hfz, hnd⟩ := hW
  have hA : DataW.TrodAll enc Try.prog W 0 (fun _ => true) true Try.f4.params.toList args.toList ds p := hA0
  rw [Try.params4] at hA hval hsz
  obtain ⟨v0, vs0, d0, ds0, p0, q0, hargs, rfl, rfl, h0, r0⟩ := trodAll_cons hA
  obtain ⟨v1, vs1, d1, ds1, p1, q1, rfl, rfl, rfl, h1, r1⟩ := trodAll_cons r0
  obtain ⟨rfl, rfl, rfl⟩ := trodAll_nil r1
  obtain rfl : args = #[v0, v1] := by cases args; simp_all
  obtain ⟨rfl, rfl⟩ := trodVars_none hV
  obtain ⟨N0, a0, rfl, rfl, rfl, w0, x0⟩ := open_tr (hval 0 26 v0 rfl rfl) h0
  obtain ⟨a1, rfl, rfl, rfl, w1⟩ := open_int Try.underlying3 (hval 1 3 v1 rfl rfl) h1
  clear hA0
  refine (walk N0 a0 a1 W x0 (i64_of w0) (i64_of w1)).mono fun e W' ⟨he, bel⟩ => ?_
  subst he
  exact ⟨_, rfl, _, _, _, [], _, [], hW', trodAll_mk1 (shut_bool Try.underlying4 _), (trodAll_cons_mk (shut_tr w0 x0) (trodAll_cons_mk (shut_int Try.underlying3 w1) trodAll_mk0)), rfl, bel.frame _, fun h => by cases h⟩

theorem over : Rows.transLooksRow.holds Try.pinned (OpenSpec.ofChange Rows.transLooksSpec) :=
  OpenClaim.holds_of_wide 4 Try.f4 rfl rfl rfl rfl rfl rfl rfl ⟨rfl, rfl, rfl, rfl, rfl⟩ rfl rfl rfl rfl rfl (by kernel_rfl) Try.func4 (by kernel_rfl)
    (of_decide_eq_true (by kernel_rfl)) (by unfold Func.isWrapper; first | (rw [if_pos (by decide +kernel)]; kernel_rfl) | (rw [if_neg (by decide +kernel)]; exact ⟨rfl, rfl⟩))
    (fun os started H enc _ => lifted os started H enc)

end Go.Proofs.Ythglficjhgpegaa.transLooks
namespace Go.Proofs.Ythglficjhgpegaa
/-- The given statement. -/
theorem transLooks_holds : Rows.TransLooksSaid := transLooks.over
end Go.Proofs.Ythglficjhgpegaa
