/- What a start's bytes count, and whether a whole one is allowed. Conditions: the bytes, at most five, lie in memory. -/
import Derived.Test.YtfkaghfbngicmaaQd
namespace Go.Proofs.Ytfkaghfbngicmaa
open Go.RowKit Go.Shelf

set_option maxRecDepth 100000 in
set_option maxHeartbeats 3200000 in
theorem sum_any (A : Option Addr) (n c : Nat) (b : Bool) (B : List Nat) (w : World) (hs : SrcAt w (.slice A n c) B) (hn : n = B.length) (h5 : n ≤ 5) (h256 : ∀ x ∈ B, x < 256) :
    Calls Try.prog 30 #[.agg #[.slice A n c, .bool b]] w fun e w' => e = .returned (.int .i64 ((sumV B : Nat) : Int)) ∧ Below w.heap.size w w' := by
  have hal : Below w.heap.size w (w.alloc (.cells #[.slice A n c, .bool b] 57)) := (Below.refl _ _).alloc (Nat.le_refl _) _
  have hs2 := hs.below hal hs.lt
  obtain ⟨R, hR⟩ : ∃ R, sumV B = R := ⟨_, rfl⟩
  rw [hR]
  have HR := Lib.hid hR
  have HS := Lib.hid hs2
  have HN := Lib.hid hn
  have HAL := Lib.hid hal
  have H256 := Lib.hid h256
  have HW := fun i hi w => Lib.hid (weight_any i hi w)
  clear hR hs hs2 hn hal h256
  go_enter Try.func30, Try.ntmps30
  go_wp2
  go_loop [3, 9] (fun x3 x9 => ∃ k : Nat, k ≤ n ∧ x9 = .int .i64 ((k : Nat) : Int) ∧ x3 = .int .i64 ((sumV (B.take k) : Nat) : Int)) (fun _ x9 => n - (intOf x9).toNat)
  case atStart => exact ⟨0, Nat.zero_le _, rfl, by simp [sumV]⟩
  case round =>
    obtain ⟨k, hk, rfl, rfl⟩ := hrel
    by_cases hlt : k < n
    · have hkB : k < B.length := by rw [← HN.out]; exact hlt
      obtain ⟨a, rfl, hcell⟩ := src_byte HS.out k hkB
      have hx256 := H256.out _ (List.getElem_mem hkB)
      have hsn := sumV_snoc B k hkB
      have hlt2 := sumV_lt (B.take k)
      rw [List.length_take, Nat.min_eq_left (by omega)] at hlt2
      obtain ⟨S, hS⟩ : ∃ S, sumV (B.take k) = S := ⟨_, rfl⟩
      rw [hS] at hsn hlt2 ⊢
      obtain ⟨x, hx⟩ : ∃ x, B[k] = x := ⟨_, rfl⟩
      rw [hx] at hcell hsn hx256
      have HSN := Lib.hid hsn
      have hlti : ((k : Nat) : Int) < ((n : Nat) : Int) := by omega
      clear hx hS hsn
      obtain ⟨P, hP⟩ : ∃ P, 128 ^ k = P := ⟨_, rfl⟩
      have hP1 : P * 128 ≤ 34359738368 := by
        have : 128 ^ (k + 1) ≤ 128 ^ 5 := Nat.pow_le_pow_right (by omega) (by omega)
        rw [Nat.pow_succ, hP] at this
        exact this
      have HWk := fun w => Lib.hid (weight_any k (by omega) w)
      rw [hP] at HWk hlt2
      have HP := Lib.hid hP
      have hm1 : 0 ≤ ((x : Nat) : Int) % 128 * ((P : Nat) : Int) := Int.mul_nonneg (by omega) (by omega)
      have hm2 : ((x : Nat) : Int) % 128 * ((P : Nat) : Int) ≤ 127 * ((P : Nat) : Int) := Int.mul_le_mul_of_nonneg_right (by omega) (by omega)
      clear hP
      go_wp2_with (go_at_call 33; refine ((HWk _).out).mono ?_; rintro e w' ⟨rfl, rfl⟩)
      go_round
      case rel => exact ⟨k + 1, by omega, by go_num, by rw [HSN.out, HP.out]; go_num⟩
      case measure => simp [intOf]; omega
    · obtain rfl : k = n := by omega
      go_wp2
      go_ret
      refine ⟨ret_int' ?_, HAL.out⟩
      rw [← HR.out, List.take_of_length_le (by have := HN.out; omega)]

/-- What lies in the cells of a start. -/
theorem allow_true (L : List Nat) : allowB true L = true := by simp [allowB]

set_option maxRecDepth 100000 in
set_option maxHeartbeats 1600000 in
theorem allow_any (A : Option Addr) (n c : Nat) (b loose : Bool) (B : List Nat) (w : World) (hs : SrcAt w (.slice A n c) B) (hn : n = B.length) (h1 : 1 ≤ n) (h5 : n ≤ 5) (h256 : ∀ x ∈ B, x < 256) :
    Calls Try.prog 29 #[.agg #[.slice A n c, .bool b], .bool loose] w fun e w' => e = .returned (.bool (allowB loose B)) ∧ Below w.heap.size w w' := by
  have hal : Below w.heap.size w (w.alloc (.cells #[.slice A n c, .bool b] 57)) := (Below.refl _ _).alloc (Nat.le_refl _) _
  have hs2 := hs.below hal hs.lt
  obtain ⟨R, hR⟩ : ∃ R, allowB loose B = R := ⟨_, rfl⟩
  rw [hR]
  have hlast : B.getLastD 0 = B[n - 1]'(by omega) := by
    subst hn; rw [List.getLastD_eq_getLast?, List.getLast?_eq_getElem?, List.getElem?_eq_getElem (by omega)]; rfl
  have hR2 : R = (loose || decide (n = 1) || decide (0 < B[n - 1]'(by omega))) := by rw [← hR, ← hlast]; unfold allowB; rw [← hn]
  obtain ⟨a, rfl, hcell⟩ := src_byte hs2 (n - 1) (by omega)
  obtain ⟨x, hx⟩ : ∃ x, B[n - 1]'(by omega) = x := ⟨_, rfl⟩
  rw [hx] at hcell hR2
  have HR := Lib.hid hR2
  have HAL := Lib.hid hal
  clear hR hs hs2 hn hal h256 hlast hx hR2
  cases loose with
  | true =>
    have : R = true := by rw [HR.out]; rfl
    subst this
    go_enter Try.func29, Try.ntmps29
    go_wp2
    go_ret
    exact ⟨rfl, HAL.out⟩
  | false =>
    by_cases h : n = 1
    · have : R = true := by rw [HR.out]; simp [h]
      subst this
      subst h
      go_enter Try.func29, Try.ntmps29
      go_wp2
      go_ret
      exact ⟨rfl, HAL.out⟩
    · have hRx : R = decide (0 < x) := by rw [HR.out]; simp [h]
      have hn2 : 2 ≤ n := by omega
      have hz : ((((n : Nat) : Int) - 1) == 0) = false := by simp; omega
      have HRX := Lib.hid hRx
      clear h HR hRx
      go_enter Try.func29, Try.ntmps29
      go_wp2
      go_ret
      refine ⟨ret_bool' ?_, HAL.out⟩
      rw [HRX.out]
end Go.Proofs.Ytfkaghfbngicmaa
