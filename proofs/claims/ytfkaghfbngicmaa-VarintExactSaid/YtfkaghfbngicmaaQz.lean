/- Write of the document's own answers, and the forms in their order. No conditions. -/
import Derived.Test.YtfkaghfbngicmaaQy
namespace Go.Proofs.Ytfkaghfbngicmaa
open Go.RowKit Go.Shelf

theorem pow128_mono {i j : Nat} (h : i ≤ j) : 128 ^ i ≤ 128 ^ j := Nat.pow_le_pow_right (by omega) h
theorem len1_spec {v : Nat} (hv : v < 34359738368) : v < 128 ^ len1 v ∧ ∀ j, j < len1 v → 1 ≤ j → ¬ v < 128 ^ j := by
  unfold len1
  split
  · exact ⟨‹_›, fun j h1 h2 => by omega⟩
  split
  · exact ⟨‹_›, fun j h1 h2 => by obtain rfl : j = 1 := by omega
                                  assumption⟩
  split
  · exact ⟨‹_›, fun j h1 h2 => by
      obtain rfl | rfl : j = 1 ∨ j = 2 := by omega
      · assumption
      · assumption⟩
  split
  · exact ⟨‹_›, fun j h1 h2 => by
      obtain rfl | rfl | rfl : j = 1 ∨ j = 2 ∨ j = 3 := by omega
      · assumption
      · assumption
      · assumption⟩
  · refine ⟨by simpa using hv, fun j h1 h2 => ?_⟩
    obtain rfl | rfl | rfl | rfl : j = 1 ∨ j = 2 ∨ j = 3 ∨ j = 4 := by omega
    · assumption
    · assumption
    · assumption
    · assumption
/-- The forms by increasing length: from the normal one on. -/
theorem formsN_eq {v : Nat} (hv : v < 34359738368) : ∀ n, formsN v n = (List.range (n + 1 - len1 v)).map fun j => formV v (len1 v + j)
  | 0 => by
    have := len1_le v
    rw [show 0 + 1 - len1 v = 0 by omega]
    rfl
  | n + 1 => by
    have h1 := len1_le v
    have hs := len1_spec hv
    rw [formsN_succ, formsN_eq hv n]
    by_cases h : v < 128 ^ (n + 1)
    · rw [if_pos h]
      have hk : len1 v ≤ n + 1 := by
        rcases Nat.lt_or_ge (n + 1) (len1 v) with h2 | h2
        · exact absurd h (hs.2 (n + 1) h2 (by omega))
        · exact h2
      rw [show n + 1 + 1 - len1 v = (n + 1 - len1 v) + 1 by omega, List.range_succ, List.map_append]
      congr 1
      simp only [List.map_cons, List.map_nil]
      rw [show len1 v + (n + 1 - len1 v) = n + 1 by omega]
    · rw [if_neg h, List.append_nil]
      have hk : n + 1 < len1 v := by
        rcases Nat.lt_or_ge (n + 1) (len1 v) with h2 | h2
        · exact h2
        · exact absurd (Nat.lt_of_lt_of_le hs.1 (pow128_mono h2)) h
      rw [show n + 1 - len1 v = 0 by omega, show n + 1 + 1 - len1 v = 0 by omega]
theorem formsN_num {v : Nat} (hv : v < 34359738368) : (formsN v 5).length = 6 - len1 v := by rw [formsN_eq hv]; simp
theorem formsN_get {v : Nat} (hv : v < 34359738368) (j : Nat) (h : j < 6 - len1 v) : (formsN v 5)[j]? = some (formV v (len1 v + j)) := by
  rw [formsN_eq hv]
  simp [h]

theorem LL.at_ {w : World} {base : Nat} {s : Value} {L : List (List Nat)} {vs : List Value} (h : LL w base s L vs) (i : Nat) (F : List Nat) (hF : L[i]? = some F) (h1 : 1 ≤ F.length) :
    ∃ gs cs g c, s = .slice (some ⟨gs, 0, none⟩) L.length cs ∧ L.length ≤ cs ∧ cs ≤ 9223372036854775807 ∧ w.cell? ⟨gs, i, none⟩ = some (.slice (some ⟨g, 0, none⟩) F.length c) ∧ w.ownsRow base 5 1 (.slice (some ⟨g, 0, none⟩) F.length c) F.length (u8s F) ∧ base ≤ gs ∧ F.length ≤ c ∧ c ≤ 9223372036854775807 := by
  have hi := (List.getElem?_eq_some_iff.1 hF).1
  obtain ⟨gs, cs, rfl, hb, hc1, hc2, _⟩ := own_slice h.row (by omega)
  obtain ⟨v, hv⟩ : ∃ v, vs[i]? = some v := ⟨_, List.getElem?_eq_getElem (by rw [h.len]; exact hi)⟩
  obtain ⟨hr, _⟩ := h.each i v F hv hF
  obtain ⟨g, c, rfl, _, hc3, hc4, _⟩ := own_slice hr h1
  refine ⟨gs, cs, g, c, rfl, hc1, hc2, ?_, hr, hb, hc3, hc4⟩
  have := h.row.cells rfl i _ hv
  rw [Addr.add_lit] at this
  simpa using this

set_option maxRecDepth 100000 in
set_option maxHeartbeats 1600000 in
theorem rwrite_ok (v : Nat) (hv : v < 34359738368) (w : World) : Calls Try.prog 13 #[.int .i64 v] w fun e w' => ∃ g c, e = .returned (.tuple #[.slice (some ⟨g, 0, none⟩) (len1 v) c, .int .i64 0]) ∧ w'.ownsRow w.heap.size 5 1 (.slice (some ⟨g, 0, none⟩) (len1 v) c) (len1 v) (u8s (formV v (len1 v))) ∧ len1 v ≤ c ∧ c ≤ 9223372036854775807 ∧ Below w.heap.size w w' := by
  have HA := fun w => Lib.hid (allowed_any ((v : Nat) : Int) w)
  rw [(okV_iff _).2 (by omega)] at HA
  have HF := fun w => Lib.hid (rforms_ok v hv w)
  have h1 := len1_le v
  have hget := formsN_get hv 0 (by omega)
  rw [Nat.add_zero] at hget
  have HG := Lib.hid hget
  obtain ⟨k, hk⟩ : ∃ k, len1 v = k := ⟨_, rfl⟩
  rw [hk] at h1 HG ⊢
  clear hget hk
  go_enter Try.func13, Try.ntmps13
  go_wp2_with (go_at_call 27; refine (HA _).out.mono ?_; rintro e w' ⟨rfl, rfl⟩)
  refine (HF _).out.mono ?_
  rintro e w1 ⟨s, vs, rfl, hll, hb1⟩
  obtain ⟨gs, cs, g, c, rfl, hc1, hc2, hcell, hrow, _, hc3, hc4⟩ := hll.at_ 0 _ HG.out (by rw [formV_len]; omega)
  have hpos := (List.getElem?_eq_some_iff.1 HG.out).1
  rw [formV_len] at hcell hrow hc3
  have HROW := Lib.hid hrow
  have HB := Lib.hid hb1
  have hn5 : 0 < (formsN v 5).length := hpos
  obtain ⟨n5, e5⟩ : ∃ n5, (formsN v 5).length = n5 := ⟨_, rfl⟩
  rw [e5] at hn5 hc1 ⊢
  have hn5i : (0 : Int) < ((n5 : Nat) : Int) := by omega
  clear hll hrow hb1 hpos e5
  go_wp2
  go_ret2
  exact ⟨g, c, rfl, HROW.out, hc3, hc4, HB.out⟩

set_option maxRecDepth 100000 in
set_option maxHeartbeats 1600000 in
theorem rwrite_bad (v : Int) (hv : okV v = false) (w : World) : Calls Try.prog 13 #[.int .i64 v] w fun e w' => e = .returned (.tuple #[.slice none 0 0, .int .i64 3]) ∧ w = w' := by
  have HA := fun w => Lib.hid (allowed_any v w)
  rw [hv] at HA
  clear hv
  go_enter Try.func13, Try.ntmps13
  go_wp2_with (go_at_call 27; refine (HA _).out.mono ?_; rintro e w' ⟨rfl, rfl⟩)
  go_ret2
  exact ⟨rfl, rfl⟩
end Go.Proofs.Ytfkaghfbngicmaa
