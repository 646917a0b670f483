/- Read of the document's own answers. Conditions: the bytes lie in memory. -/
import Derived.Test.YtfkaghfbngicmaaQf
namespace Go.Proofs.Ytfkaghfbngicmaa
open Go.RowKit Go.Shelf

theorem lowI_take : ∀ (B : List Nat) (n : Nat), lowI (B.take n) = min (lowI B) n
  | [], n => by simp [lowI]
  | c :: r, 0 => by simp [lowI]
  | c :: r, n + 1 => by
    simp only [List.take_succ_cons, lowI]
    split
    · simp
    · rw [lowI_take r n]; omega
theorem beg_hit {B : List Nat} {i : Nat} (h5 : i < 5) (hi : i < B.length) (h : lowI B = i) : begW B = true ∧ begL B = B.take (i + 1) := by
  unfold begW begL
  rw [lowI_take, h, List.length_take]
  rw [show min i 5 = i by omega]
  have hc : i < min 5 B.length := by omega
  exact ⟨decide_eq_true hc, if_pos hc⟩
theorem beg_none {B : List Nat} (h : 5 ≤ lowI B ∨ lowI B = B.length) : begW B = false ∧ begL B = B.take 5 := by
  unfold begW begL
  have hle := lowI_le B
  rw [lowI_take, List.length_take]
  have hc : ¬ min (lowI B) 5 < min 5 B.length := by omega
  exact ⟨decide_eq_false hc, if_neg hc⟩

theorem readC_short {B : List Nat} {loose : Bool} (h : lowI B = B.length) (h5 : B.length < 5) : readC B loose = (0, 0, 4) := by
  unfold readC
  rw [(beg_none (.inr h)).1, (beg_none (.inr h)).2, List.length_take, if_pos ⟨rfl, by omega⟩]
theorem readC_five {B : List Nat} {loose : Bool} (h : 5 ≤ lowI B) : readC B loose = (0, 0, 6) := by
  have hle := lowI_le B
  unfold readC
  rw [(beg_none (.inl h)).1, (beg_none (.inl h)).2, List.length_take, if_neg (by omega), if_pos (.inl rfl)]
theorem readC_hit {B : List Nat} {loose : Bool} {i : Nat} (h5 : i < 5) (hi : i < B.length) (h : lowI B = i) :
    readC B loose = if loose = true ∨ i = 0 ∨ 0 < B[i] then (sumV (B.take (i + 1)), i + 1, 0) else (0, 0, 6) := by
  obtain ⟨h1, h2⟩ := beg_hit h5 hi h
  have hl : (B.take (i + 1)).length = i + 1 := by rw [List.length_take]; omega
  have hlast : (B.take (i + 1)).getLastD 0 = B[i] := by
    rw [List.getLastD_eq_getLast?, List.getLast?_eq_getElem?, hl]
    simp [List.getElem?_take, hi]
  unfold readC allowB
  rw [h1, h2, hl, hlast]
  rw [if_neg (by simp)]
  by_cases hc : loose = true ∨ i = 0 ∨ 0 < B[i]
  · rw [if_pos hc, if_neg (by
      rcases hc with hc | hc | hc
      · simp [hc]
      · simp [hc]
      · simp [hc])]
  · rw [if_neg hc, if_pos]
    refine .inr ?_
    have h1 : loose = false := by cases loose with | true => exact absurd (.inl rfl) hc | false => rfl
    have h2 : ¬ i + 1 = 1 := fun e => hc (.inr (.inl (by omega)))
    have h3 : ¬ 0 < B[i] := fun e => hc (.inr (.inr e))
    simp [h1, h3]
    omega

theorem byte_zero (x : Nat) : (((x : Nat) : Int) == 0) = decide (x = 0) := by
  rw [Bool.eq_iff_iff]; simp

set_option maxRecDepth 100000 in
set_option maxHeartbeats 6400000 in
theorem rread_any (A : Option Addr) (N C : Nat) (loose : Bool) (B : List Nat) (w : World) (hs : SrcAt w (.slice A N C) B) (hN : N = B.length) (hl : N ≤ 9223372036854775807) (h256 : ∀ x ∈ B, x < 256) :
    Calls Try.prog 15 #[.slice A N C, .bool loose] w fun e w' => e = .returned (.tuple #[.int .i64 ((readC B loose).1 : Nat), .int .i64 ((readC B loose).2.1 : Nat), .int .i64 ((readC B loose).2.2 : Nat)]) ∧ w = w' := by
  obtain ⟨R, hR⟩ : ∃ R, readC B loose = R := ⟨_, rfl⟩
  rw [hR]
  have HR := Lib.hid hR
  have HS := Lib.hid hs
  have HN := Lib.hid hN
  have H256 := Lib.hid h256
  clear hR hs hN h256
  go_enter Try.func15, Try.ntmps15
  go_wp2
  go_loop [7, 8, 9] (fun x7 x8 x9 => ∃ k : Nat, k ≤ 5 ∧ k ≤ N ∧ x9 = .int .i64 ((k : Nat) : Int) ∧ x7 = .int .i64 ((sumV (B.take k) : Nat) : Int) ∧ x8 = .int .i64 ((128 ^ k : Nat) : Int) ∧ k ≤ lowI B) (fun _ _ x9 => 5 - (intOf x9).toNat)
  case atStart => exact ⟨0, by omega, Nat.zero_le _, rfl, by simp [sumV], rfl, Nat.zero_le _⟩
  case round =>
    obtain ⟨k, hk5, hkN, rfl, rfl, rfl, hlo⟩ := hrel
    by_cases hlt : k < 5
    · by_cases he : k = N
      · subst he
        have hlw : lowI B = B.length := by have := lowI_le B; have := HN.out; omega
        have hR2 : R = (0, 0, 4) := by rw [← HR.out]; exact readC_short hlw (by have := HN.out; omega)
        subst hR2
        have hki : ((k : Nat) : Int) < 5 := by omega
        have HLO := Lib.hid hlo
        clear hlo hlw
        obtain ⟨S, hS⟩ : ∃ S, sumV (B.take k) = S := ⟨_, rfl⟩
        obtain ⟨P, hP⟩ : ∃ P, 128 ^ k = P := ⟨_, rfl⟩
        rw [hS, hP]
        clear hS hP
        go_wp2
        go_ret3
        exact ⟨rfl, rfl⟩
      · have hkN' : k < N := by omega
        have hkB : k < B.length := by rw [← HN.out]; exact hkN'
        obtain ⟨a, rfl, hcell⟩ := src_byte HS.out k hkB
        have hx256 := H256.out _ (List.getElem_mem hkB)
        have hsn := sumV_snoc B k hkB
        have hlt2 := sumV_lt (B.take k)
        rw [List.length_take, Nat.min_eq_left (by omega)] at hlt2
        have hhit := fun h => readC_hit (loose := loose) hlt hkB h
        have hh := lowI_hit B k hkB hlo
        have hm := lowI_miss B k hkB hlo
        rw [hsn] at hhit
        rw [HR.out] at hhit
        obtain ⟨S, hS⟩ : ∃ S, sumV (B.take k) = S := ⟨_, rfl⟩
        rw [hS] at hsn hlt2 hhit ⊢
        obtain ⟨x, hx⟩ : ∃ x, B[k] = x := ⟨_, rfl⟩
        rw [hx] at hcell hsn hx256 hh hm hhit
        obtain ⟨P, hP⟩ : ∃ P, 128 ^ k = P := ⟨_, rfl⟩
        have hPs : 128 ^ (k + 1) = P * 128 := by rw [Nat.pow_succ, hP]
        have hP1 : P * 128 ≤ 34359738368 := by
          rw [← hPs]
          exact pow5 (by omega)
        rw [hP] at hlt2 hsn hhit ⊢
        have HSN := Lib.hid hsn
        have HPS := Lib.hid hPs
        have HP := Lib.hid hP
        have hm1 : 0 ≤ ((x : Nat) : Int) % 128 * ((P : Nat) : Int) := Int.mul_nonneg (by omega) (by omega)
        have hm2 : ((x : Nat) : Int) % 128 * ((P : Nat) : Int) ≤ 127 * ((P : Nat) : Int) := Int.mul_le_mul_of_nonneg_right (by omega) (by omega)
        have hki : ((k : Nat) : Int) < 5 := by omega
        have hne : (((k : Nat) : Int) == ((N : Nat) : Int)) = false := by simp; omega
        clear hx hS hsn hP hPs
        by_cases hc : x < 128
        · have hlw := hh hc
          have hR2 := hhit hlw
          have HR2 := Lib.hid hR2
          clear hhit hh hm hlo hlw hR2
          by_cases h0 : k = 0
          · have hR3 : R = (S + x % 128 * P, k + 1, 0) := by rw [HR2.out, if_pos (.inr (.inl h0))]
            subst hR3
            have hk0 : k ≤ 0 := by omega
            have hk0' : ((k : Nat) : Int) ≤ 0 := by omega
            clear HR HR2 h0
            go_wp2
            go_ret3
            exact ⟨ret_iii (by go_num) (by go_num) rfl, rfl⟩
          · have hk0 : 0 < k := by omega
            have hk0' : (0 : Int) < ((k : Nat) : Int) := by omega
            by_cases hx0 : x = 0
            · have hz : (((x : Nat) : Int) == 0) = true := by rw [byte_zero]; simpa using hx0
              cases loose with
              | true =>
                have hR3 : R = (S + x % 128 * P, k + 1, 0) := by rw [HR2.out, if_pos (.inl rfl)]
                subst hR3
                clear HR HR2 h0 hx0
                go_wp2
                go_ret3
                exact ⟨ret_iii (by go_num) (by go_num) rfl, rfl⟩
              | false =>
                have hR3 : R = (0, 0, 6) := by rw [HR2.out, if_neg (by simp; omega)]
                subst hR3
                clear HR HR2 h0 hx0
                go_wp2
                go_ret3
                exact ⟨rfl, rfl⟩
            · have hz : (((x : Nat) : Int) == 0) = false := by rw [byte_zero]; simpa using hx0
              have hR3 : R = (S + x % 128 * P, k + 1, 0) := by rw [HR2.out, if_pos (.inr (.inr (by omega)))]
              subst hR3
              clear HR HR2 h0 hx0
              go_wp2
              go_ret3
              exact ⟨ret_iii (by go_num) (by go_num) rfl, rfl⟩
        · have hlw := hm hc
          have HLW := Lib.hid hlw
          clear hhit hh hm hlo hlw
          go_wp2
          go_round
          case rel => exact ⟨k + 1, by omega, by omega, by go_num, by rw [HSN.out]; go_num, by rw [HPS.out]; go_num, HLW.out⟩
          case measure => simp [intOf]; omega
    · obtain rfl : k = 5 := by omega
      have hR2 : R = (0, 0, 6) := by rw [← HR.out]; exact readC_five hlo
      subst hR2
      clear hlo
      obtain ⟨S, hS⟩ : ∃ S, sumV (B.take 5) = S := ⟨_, rfl⟩
      obtain ⟨P, hP⟩ : ∃ P, 128 ^ 5 = P := ⟨_, rfl⟩
      rw [hS, hP]
      clear hS hP
      go_wp2
      go_ret3
      exact ⟨rfl, rfl⟩
end Go.Proofs.Ytfkaghfbngicmaa
