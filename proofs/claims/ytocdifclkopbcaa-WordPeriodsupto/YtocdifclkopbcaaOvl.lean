/- Contract of word.overlaps: the row that it makes tells of each place, the end included, how many letters from there on are those from the beginning on. No old memory is written. -/
import Derived.Test.YtocdifclkopbcaaNth
import Derived.Test.YtocdifclkopbcaaZmt
import Derived.Deep.QuietTactic
import Derived.BigQuiet
namespace Go.Proofs.Ytocdifclkopbcaa
open Go.RowKit Go.Lib

theorem Try.info_int : (Try.prog.info? 3).map (fun i => (i.zero, i.size, i.bytes)) = some (some (.int .i64 0), 1, 8) := by kernel_rfl

/-- The row when the first k places are told. -/
def zRow (s : ByteArray) (k : Nat) : List Value := (List.range (s.size + 1)).map fun t => Value.int .i64 ((if t < k then zAt s t else 0 : Nat) : Int)
theorem zRow_length (s : ByteArray) (k : Nat) : (zRow s k).length = s.size + 1 := by simp [zRow]
theorem zRow_get (s : ByteArray) (k t : Nat) (h : t < s.size + 1) : (zRow s k)[t]? = some (Value.int .i64 ((if t < k then zAt s t else 0 : Nat) : Int)) := by simp [zRow, h]
theorem zRow_zero (s : ByteArray) : zRow s 0 = List.replicate (s.size + 1) (Value.int .i64 0) := by
  apply List.ext_getElem?
  intro t
  by_cases h : t < s.size + 1
  · rw [zRow_get s 0 t h, List.getElem?_replicate, if_pos h]; simp
  · rw [List.getElem?_eq_none (by rw [zRow_length]; omega), List.getElem?_eq_none (by simp; omega)]
theorem zRow_set (s : ByteArray) (k : Nat) : (zRow s k).set k (Value.int .i64 (zAt s k : Nat)) = zRow s (k + 1) := by
  apply List.ext_getElem?
  intro t
  by_cases h : t < s.size + 1
  · rw [List.getElem?_set, zRow_get s (k + 1) t h, zRow_length]
    by_cases e : k = t
    · subst e; rw [if_pos rfl, if_pos h, if_pos (by omega)]
    · rw [if_neg e, zRow_get s k t h]
      by_cases g : t < k
      · rw [if_pos g, if_pos (by omega)]
      · rw [if_neg g, if_neg (by omega)]
  · rw [List.getElem?_eq_none (by simp [zRow_length]; omega), List.getElem?_eq_none (by rw [zRow_length]; omega)]

/-- What is known of from and to when k places are told. -/
def Far (s : ByteArray) (k f t : Nat) : Prop := t ≤ s.size ∧ ((f = 0 ∧ t = 0) ∨ (0 < f ∧ f < k ∧ t = f + zAt s f))

theorem far_copy {s : ByteArray} {f t k n : Nat} (h : Far s k f t) (hf : 0 < f) (hn1 : n ≤ zAt s (k - f)) (hn2 : k + n ≤ t) : ∀ u, u < n → at' s u = at' s (k + u) := by
  rcases h.2 with ⟨a, b⟩ | ⟨a, b, c⟩
  · omega
  · exact zAt_copy s f t k n b (by omega) h.1 hn1 hn2
theorem far_stay {s : ByteArray} {f t k : Nat} (h : Far s k f t) : Far s (k + 1) f t := by
  refine ⟨h.1, ?_⟩
  rcases h.2 with ⟨a, b⟩ | ⟨a, b, c⟩
  · exact .inl ⟨a, b⟩
  · exact .inr ⟨a, by omega, c⟩
theorem far_new {s : ByteArray} {k n : Nat} (hk : k + n ≤ s.size) (h0 : 0 < k) (hn : n = zAt s k) : Far s (k + 1) k (k + n) := ⟨hk, .inr ⟨h0, by omega, by omega⟩⟩
theorem own_told {s : ByteArray} {wr : World} {base g cap k n : Nat} {e : TypeId} (hown : wr.ownsRow base e 1 (.slice (some ⟨g, 0, none⟩) (s.size + 1) cap) (s.size + 1) (zRow s k)) (hn : n = zAt s k) (q : Nat) :
    ((wr.drewN q).setCell ⟨g, k, none⟩ (.int .i64 n)).ownsRow base e 1 (.slice (some ⟨g, 0, none⟩) (s.size + 1) cap) (s.size + 1) (zRow s (k + 1)) := by
  have h : (wr.drewN q).ownsRow base e 1 (.slice (some ⟨g, 0, none⟩) (s.size + 1) cap) (s.size + 1) (zRow s k) := hown
  have r := (h.stored k (.int .i64 n)).1
  rw [hn, zRow_set] at r
  rw [hn]
  exact r
theorem wrap_small (x : Int) (h0 : -9223372036854775808 ≤ x) (h1 : x ≤ 9223372036854775807) : IntKind.i64.wrap x = x := by
  unfold IntKind.wrap
  simp [IntKind.signed, IntKind.bits]
  omega

set_option maxHeartbeats 1000000 in
set_option maxRecDepth 100000 in
theorem overlaps_any (s : ByteArray) (w : World) (hs : s.size ≤ 17592186044416) :
    Calls Try.prog 54 #[.string s] w fun e w' => ∃ g, e = .returned (.slice (some ⟨g, 0, none⟩) (s.size + 1) (s.size + 1)) ∧ w'.ownsRow w.heap.size 3 1 (.slice (some ⟨g, 0, none⟩) (s.size + 1) (s.size + 1)) (s.size + 1) (zRow s s.size) ∧ Below w.heap.size w w' := by
  obtain ⟨i0, hi, hz0, hz1, hz2⟩ := info_parts Try.info_int
  go_enter Try.func54, Try.ntmps54
  go_wp2_with (at_make; refine wpList_make_full _ rfl _ _ 47 rfl w.heap.size 3 i0 (.int .i64 0) 1 Try.underlying47 hi hz0 hz1 .i64 .i64 _ _ (s.size + 1) rfl rfl ?d1 ?d2 ?d3 ?d4 ?d5 ?_)
  case d1 => omega
  case d2 => omega
  case d3 => rw [hz2]; omega
  case d4 => unfold maxLen; omega
  case d5 => exact Nat.le_refl _
  intro w1 hown hgrow
  have h0 : (madeCells #[Value.int .i64 0] (s.size + 1)).toList = zRow s 0 := by
    rw [zRow_zero]
    exact toList_madeCells_one _ _
  rw [h0] at hown
  have hb : Below w.heap.size w w1 := (Below.refl _ _).grown hgrow (Nat.le_refl _) (by simp)
  clear hgrow h0
  go_wp2_with fail
  go_loopw [4, 5, 14] (fun vf vt vk wr => ∃ (f t k : Nat), vf = .int .i64 f ∧ vt = .int .i64 t ∧ vk = .int .i64 k ∧ k ≤ s.size ∧ Far s k f t ∧ wr.ownsRow w.heap.size 3 1 (.slice (some ⟨w.heap.size, 0, none⟩) (s.size + 1) (s.size + 1)) (s.size + 1) (zRow s k) ∧ Below w.heap.size w wr)
    (fun _ _ vk _ => s.size - (intOf vk).toNat)
  case atStart => exact ⟨0, 0, 0, rfl, rfl, rfl, Nat.zero_le _, ⟨Nat.zero_le _, .inl ⟨rfl, rfl⟩⟩, hown, hb⟩
  case round =>
    obtain ⟨f, t, k, rfl, rfl, rfl, hk, hfar, hown, hb⟩ := hrel
    have HF : Hid (Far s k f t) := hfar
    have ht : t ≤ s.size := hfar.1
    have hft : f ≤ t := by rcases hfar.2 with ⟨a, b⟩ | ⟨a, b, c⟩ <;> omega
    have hfk : f ≤ k := by rcases hfar.2 with ⟨a, b⟩ | ⟨a, b, c⟩ <;> omega
    clear hfar
    by_cases hlt : k < s.size
    · have hfr := hown.frozenAt k
      have hck := hown.cellAt k (by omega)
      rw [zRow_get s k k (by omega), if_neg (by omega)] at hck
      have hcases : ¬ k < t ∨ (k < t ∧ 0 < f ∧ t - k < zAt s (k - f)) ∨ (k < t ∧ 0 < f ∧ zAt s (k - f) ≤ t - k) := by
        rcases HF.out.2 with ⟨a, b⟩ | ⟨a, b, c⟩ <;> omega
      have hcc : ∀ i, i < k → wr.cell? ⟨w.heap.size, i, none⟩ = some (.int .i64 (zAt s i : Nat)) := by
        intro i hi
        have hc := hown.cellAt i (by omega)
        rw [zRow_get s k i (by omega), if_pos hi] at hc
        exact hc
      have HCC : Hid _ := hcc
      clear hcc
      rcases hcases with ha | ⟨ha, hf0, hm⟩ | ⟨ha, hf0, hm⟩
      case' inl =>
        go_wp2_with fail
      case' inr.inl =>
        have hc := HCC.out (k - f) (by omega)
        go_wp2_with fail
      case' inr.inr =>
        have hc := HCC.out (k - f) (by omega)
        go_wp2_with fail
      all_goals
        go_loopw [7] (fun vn w2 => ∃ n q : Nat, vn = .int .i64 n ∧ k + n ≤ s.size ∧ (∀ u, u < n → at' s u = at' s (k + u)) ∧ w2 = wr.drewN q) (fun vn _ => s.size - (intOf vn).toNat)
        case atStart =>
          first
            | exact ⟨0, 0, rfl, by omega, fun u hu => by omega, rfl⟩
            | exact ⟨t - k, 0, congrArg (Value.int .i64) (by omega), by omega, far_copy HF.out hf0 (by omega) (by omega), rfl⟩
            | exact ⟨zAt s (k - f), 0, rfl, by omega, far_copy HF.out hf0 (by omega) (by omega), rfl⟩
        case round =>
          obtain ⟨n, q, rfl, hkn, hall, rfl⟩ := hrel
          have HA : Hid (∀ u, u < n → at' s u = at' s (k + u)) := hall
          clear hall
          have hw : IntKind.i64.wrap ((k : Int) + n) = (k : Int) + n := wrap_small _ (by omega) (by omega)
          have h10 : 0 ≤ (k : Int) + n := by omega
          by_cases hgo : k + n < s.size ∧ at' s n = at' s (k + n)
          · obtain ⟨h1, h2⟩ := hgo
            have h3 : ((s[n].toNat : Int) == (s[k + n].toNat : Int)) = true := by
              rw [at_eq s n (by omega), at_eq s (k + n) h1, h2, beq_iff_eq]
            have H2 : Hid (at' s n = at' s (k + n)) := h2
            clear h2
            have h1I : (k : Int) + n < s.size := by omega
            have h1n : (n : Int) < s.size := by omega
            go_wp2_with fail
            go_quiet (fail)
            go_wp2
            go_roundw
            case rel => exact ⟨n + 1, _, by go_num, by omega, fun u hu => by
              by_cases e : u = n
              · rw [e]; exact H2.out
              · exact HA.out u (by omega), rfl⟩
            case measure => simp [intOf]; omega
          · have HZ : Hid (n = zAt s k) := zAt_eq s k n hkn HA.out (fun h1 h2 => hgo ⟨h1, h2⟩)
            have hup : (¬ 0 < k) ∨ (0 < k ∧ t < k + n) ∨ (0 < k ∧ ¬ t < k + n) := by omega
            have hex : (¬ k + n < s.size) ∨ (k + n < s.size ∧ at' s n ≠ at' s (k + n)) := by
              by_cases h1 : k + n < s.size
              · exact .inr ⟨h1, fun h2 => hgo ⟨h1, h2⟩⟩
              · exact .inl h1
            clear hgo
            rcases hex with h1 | ⟨h1, h2⟩
            case' inl =>
              have hd : decide ((k : Int) + n < s.size) = false := by simp; omega
              go_wp2_with fail
              go_quiet (fail)
            case' inr =>
              have h3 : ((s[n].toNat : Int) == (s[k + n].toNat : Int)) = false := by
                rw [at_eq s n (by omega), at_eq s (k + n) h1, beq_eq_false_iff_ne]
                intro h
                exact h2 (UInt8.toNat_inj.1 (by omega))
              have h1I : (k : Int) + n < s.size := by omega
              have h1n : (n : Int) < s.size := by omega
              clear h2
              go_wp2_with fail
              go_quiet (fail)
            all_goals
              rcases hup with h4 | ⟨h4, h5⟩ | ⟨h4, h5⟩
              · try (exfalso; omega)
                all_goals
                  have h6 : decide ((0 : Int) < k) = false := by simp; omega
                  go_wp2
                  go_roundw
                  case rel => exact ⟨f, t, k + 1, rfl, rfl, by go_num, by omega, far_stay HF.out, own_told hown HZ.out _, (below_drewN hb _).setCell (p := ⟨w.heap.size, k, none⟩) (Nat.le_refl _) _⟩
                  case measure => simp [intOf]; omega
              · try (exfalso; omega)
                all_goals
                  have h6 : (0 : Int) < k := by omega
                  have h7 : (t : Int) < (k : Int) + n := by omega
                  go_wp2
                  go_roundw
                  case rel => exact ⟨k, k + n, k + 1, rfl, by go_num, by go_num, by omega, far_new hkn h4 HZ.out, own_told hown HZ.out _, (below_drewN hb _).setCell (p := ⟨w.heap.size, k, none⟩) (Nat.le_refl _) _⟩
                  case measure => simp [intOf]; omega
              · try (exfalso; omega)
                all_goals
                  have h6 : (0 : Int) < k := by omega
                  have h7 : ¬ (t : Int) < (k : Int) + n := by omega
                  go_wp2
                  go_roundw
                  case rel => exact ⟨f, t, k + 1, rfl, rfl, by go_num, by omega, far_stay HF.out, own_told hown HZ.out _, (below_drewN hb _).setCell (p := ⟨w.heap.size, k, none⟩) (Nat.le_refl _) _⟩
                  case measure => simp [intOf]; omega
    · have : k = s.size := by omega
      subst this
      go_wp2
      go_ret
      exact ⟨w.heap.size, rfl, hown, hb⟩

end Go.Proofs.Ytocdifclkopbcaa
