/- Begins of the document's own answers. Conditions: the bytes lie in memory. -/
import Derived.Test.YtfkaghfbngicmaaQt
import Derived.Test.YtfkaghfbngicmaaQh
namespace Go.Proofs.Ytfkaghfbngicmaa
open Go.RowKit Go.Shelf

theorem beginsB_long {B : List Nat} {loose : Bool} {lo hi : Int} (h : 5 < B.length) : beginsB B loose lo hi = false := by
  unfold beginsB
  have h1 := begL_len B
  split
  · rw [decide_eq_false (show ¬ (begL B).length = B.length by omega)]; rfl
  · rename_i hw
    have hn : begL B = B.take 5 := by
      unfold begL
      unfold begW at hw
      rw [if_neg (by simpa using hw)]
    rw [if_pos (by rw [hn, List.length_take]; omega)]
theorem beginsB_hit {B : List Nat} {loose : Bool} {lo hi : Int} {i : Nat} (h5 : i < 5) (hi' : i < B.length) (h : lowI B = i) :
    beginsB B loose lo hi = (decide (i + 1 = B.length) && (loose || decide (i = 0) || decide (0 < B[i])) && decide (lo ≤ ((sumV (B.take (i + 1)) : Nat) : Int)) && decide (((sumV (B.take (i + 1)) : Nat) : Int) ≤ hi)) := by
  obtain ⟨h1, h2⟩ := beg_hit h5 hi' h
  have hl : (B.take (i + 1)).length = i + 1 := by rw [List.length_take]; omega
  have hlast : (B.take (i + 1)).getLastD 0 = B[i] := by
    rw [List.getLastD_eq_getLast?, List.getLast?_eq_getElem?, hl]
    simp [List.getElem?_take, hi']
  unfold beginsB allowB
  rw [if_pos h1, h2, hl, hlast]
  have e : decide (i + 1 = 1) = decide (i = 0) := by rw [Bool.eq_iff_iff]; simp
  rw [e]
theorem beginsB_end {B : List Nat} {loose : Bool} {lo hi : Int} (h5 : B.length ≤ 5) (h : lowI B = B.length) :
    beginsB B loose lo hi = if B.length = 5 then false else decide (upV (leadV loose B.length (sumV B : Nat) (128 ^ B.length : Nat)) lo (128 ^ B.length : Nat) ≤ hi) := by
  obtain ⟨h1, h2⟩ := beg_none (.inr h)
  unfold beginsB
  rw [if_neg (by rw [h1]; simp), h2, List.take_of_length_le h5]

set_option maxRecDepth 100000 in
set_option maxHeartbeats 1600000 in
theorem rbegins_bad (A : Option Addr) (N C : Nat) (loose : Bool) (lo hi : Int) (w : World) (h : rangeV lo hi = false) :
    Calls Try.prog 19 #[.slice A N C, .bool loose, .int .i64 lo, .int .i64 hi] w fun e w' => e = .returned (.tuple #[.bool false, .int .i64 2]) ∧ w = w' := by
  have HA := fun w => Lib.hid (allowed_any hi w)
  by_cases h1 : lo < 0
  · clear h
    go_enter Try.func19, Try.ntmps19
    go_wp2_with fail
    go_ret2
    exact ⟨rfl, rfl⟩
  · by_cases h2 : hi < lo
    · clear h
      go_enter Try.func19, Try.ntmps19
      go_wp2_with fail
      go_ret2
      exact ⟨rfl, rfl⟩
    · have h3 : okV hi = false := by
        rw [← Bool.not_eq_true, rangeV_iff] at h
        rw [okV_not]
        omega
      rw [h3] at HA
      clear h h3
      go_enter Try.func19, Try.ntmps19
      go_wp2_with fail
      refine (HA _).out.mono ?_
      rintro e w' ⟨rfl, rfl⟩
      go_wp2
      go_ret2
      exact ⟨rfl, rfl⟩

theorem ret_bi {a b : Bool} {c d : Int} (h : a = b) (k : c = d) : Ending.returned (.tuple #[.bool a, .int .i64 c]) = .returned (.tuple #[.bool b, .int .i64 d]) := by rw [h, k]

set_option maxRecDepth 100000 in
set_option maxHeartbeats 6400000 in
theorem rbegins_ok (A : Option Addr) (N C : Nat) (loose : Bool) (B : List Nat) (lo hi : Int) (w : World) (h : rangeV lo hi = true) (hs : SrcAt w (.slice A N C) B) (hN : N = B.length) (hl : N ≤ 9223372036854775807) (h256 : ∀ x ∈ B, x < 256) :
    Calls Try.prog 19 #[.slice A N C, .bool loose, .int .i64 lo, .int .i64 hi] w fun e w' => e = .returned (.tuple #[.bool (beginsB B loose lo hi), .int .i64 0]) ∧ w = w' := by
  have HA := fun w => Lib.hid (allowed_any hi w)
  obtain ⟨r1, r2, r3⟩ := (rangeV_iff lo hi).1 h
  rw [(okV_iff hi).2 (by omega)] at HA
  obtain ⟨R, hR⟩ : ∃ R, beginsB B loose lo hi = R := ⟨_, rfl⟩
  rw [hR]
  have HR := Lib.hid hR
  have HS := Lib.hid hs
  have HN := Lib.hid hN
  have H256 := Lib.hid h256
  clear hR hs hN h256 h
  by_cases hlong : 5 < N
  · have hR2 : R = false := by rw [← HR.out]; exact beginsB_long (by rw [← HN.out]; exact hlong)
    subst hR2
    go_enter Try.func19, Try.ntmps19
    go_wp2_with fail
    refine (HA _).out.mono ?_
    rintro e w' ⟨rfl, rfl⟩
    go_wp2
    go_ret2
    exact ⟨rfl, rfl⟩
  · have hN5 : N ≤ 5 := by omega
    clear hlong
    go_enter Try.func19, Try.ntmps19
    go_wp2_with fail
    refine (HA _).out.mono ?_
    rintro e w' ⟨rfl, rfl⟩
    go_wp2
    go_loop [10, 11, 12] (fun x7 x8 x9 => ∃ k : Nat, k ≤ N ∧ x9 = .int .i64 ((k : Nat) : Int) ∧ x7 = .int .i64 ((sumV (B.take k) : Nat) : Int) ∧ x8 = .int .i64 ((128 ^ k : Nat) : Int) ∧ k ≤ lowI B) (fun _ _ x9 => N - (intOf x9).toNat)
    case atStart => exact ⟨0, Nat.zero_le _, rfl, by simp [sumV], rfl, Nat.zero_le _⟩
    case round =>
      obtain ⟨k, hkN, rfl, rfl, rfl, hlo⟩ := hrel
      by_cases hlt : k < N
      · have hkB : k < B.length := by rw [← HN.out]; exact hlt
        obtain ⟨a, rfl, hcell⟩ := src_byte HS.out k hkB
        have hx256 := H256.out _ (List.getElem_mem hkB)
        have hsn := sumV_snoc B k hkB
        have hlt2 := sumV_lt (B.take k)
        rw [List.length_take, Nat.min_eq_left (by omega)] at hlt2
        have hhit := fun h => beginsB_hit (loose := loose) (lo := lo) (hi := hi) (show k < 5 by omega) hkB h
        have hh := lowI_hit B k hkB hlo
        have hm := lowI_miss B k hkB hlo
        rw [hsn, HR.out, ← HN.out] at hhit
        obtain ⟨S, hS⟩ : ∃ S, sumV (B.take k) = S := ⟨_, rfl⟩
        rw [hS] at hsn hlt2 hhit ⊢
        obtain ⟨x, hx⟩ : ∃ x, B[k] = x := ⟨_, rfl⟩
        rw [hx] at hcell hsn hx256 hh hm hhit
        obtain ⟨P, hP⟩ : ∃ P, 128 ^ k = P := ⟨_, rfl⟩
        have hPs : 128 ^ (k + 1) = P * 128 := by rw [Nat.pow_succ, hP]
        have hP1 : P * 128 ≤ 34359738368 := by
          rw [← hPs]
          exact pow5 (by omega)
        rw [hP] at hlt2 hsn hhit ⊢
        have HSN := Lib.hid hsn
        have HPS := Lib.hid hPs
        have HP := Lib.hid hP
        have hm1 : 0 ≤ ((x : Nat) : Int) % 128 * ((P : Nat) : Int) := Int.mul_nonneg (by omega) (by omega)
        have hm2 : ((x : Nat) : Int) % 128 * ((P : Nat) : Int) ≤ 127 * ((P : Nat) : Int) := Int.mul_le_mul_of_nonneg_right (by omega) (by omega)
        have hki : ((k : Nat) : Int) < ((N : Nat) : Int) := by omega
        clear hx hS hsn hP hPs
        by_cases hc : x < 128
        · have hlw := hh hc
          have hR2 := hhit hlw
          have HR2 := Lib.hid hR2
          clear hhit hh hm hlo hlw hR2
          by_cases hlast : k + 1 = N
          · have he1 : (((k : Nat) : Int) == ((N : Nat) : Int) - 1) = true := by simp; omega
            by_cases hal : (loose || decide (k = 0) || decide (0 < x)) = true
            · have HR3 := Lib.hid (show R = (decide (lo ≤ ((S + x % 128 * P : Nat) : Int)) && decide (((S + x % 128 * P : Nat) : Int) ≤ hi)) by rw [HR2.out, hal, decide_eq_true hlast]; simp)
              cases loose with
              | true =>
                clear HR HR2 hal hlast
                go_wp2
                all_goals
                  go_ret2
                  refine ⟨ret_bi ?_ rfl, rfl⟩
                  rw [HR3.out, Bool.eq_iff_iff]
                  simp [*]
                  try omega
              | false =>
                by_cases h0 : k = 0
                · have hz : (((k : Nat) : Int) == 0) = true := by simpa using h0
                  clear HR HR2 hal hlast h0
                  go_wp2
                  all_goals
                    go_ret2
                    refine ⟨ret_bi ?_ rfl, rfl⟩
                    rw [HR3.out, Bool.eq_iff_iff]
                    simp [*]
                    try omega
                · have hz : (((k : Nat) : Int) == 0) = false := by simpa using h0
                  have hx0 : 0 < x := by simpa [h0] using hal
                  clear HR HR2 hal hlast h0
                  go_wp2
                  all_goals
                    go_ret2
                    refine ⟨ret_bi ?_ rfl, rfl⟩
                    rw [HR3.out, Bool.eq_iff_iff]
                    simp [*]
                    try omega
            · have hal' : (loose || decide (k = 0) || decide (0 < x)) = false := by simpa using hal
              have hR3 : R = false := by rw [HR2.out, hal']; simp
              have h0 : loose = false ∧ k ≠ 0 ∧ x = 0 := by simpa [and_assoc] using hal'
              obtain ⟨rfl, h0, hx0⟩ := h0
              subst hR3
              have hz : (((k : Nat) : Int) == 0) = false := by simpa using h0
              have hx0' : x ≤ 0 := by omega
              clear HR HR2 hal hal' hlast h0 hx0
              go_wp2
              go_ret2
              exact ⟨rfl, rfl⟩
          · have he1 : (((k : Nat) : Int) == ((N : Nat) : Int) - 1) = false := by simp; omega
            have hR3 : R = false := by rw [HR2.out, decide_eq_false hlast]; rfl
            subst hR3
            clear HR HR2 hlast
            go_wp2
            go_ret2
            exact ⟨rfl, rfl⟩
        · have hlw := hm hc
          have HLW := Lib.hid hlw
          clear hhit hh hm hlo hlw
          go_wp2
          go_round
          case rel => exact ⟨k + 1, by omega, by go_num, by rw [HSN.out]; go_num, by rw [HPS.out]; go_num, HLW.out⟩
          case measure => simp [intOf]; omega
      · obtain rfl : k = N := by omega
        have hlw : lowI B = B.length := by have := lowI_le B; have := HN.out; omega
        have hend := beginsB_end (loose := loose) (lo := lo) (hi := hi) (by rw [← HN.out]; exact hN5) hlw
        have hlt2 := sumV_lt B
        have htk : B.take k = B := List.take_of_length_le (by have := HN.out; omega)
        rw [HR.out] at hend
        rw [← HN.out] at hend hlt2
        rw [htk]
        clear hlo hlw htk HR
        by_cases h5 : k = 5
        · rw [if_pos h5] at hend
          subst hend
          subst h5
          obtain ⟨S, hS⟩ : ∃ S, sumV B = S := ⟨_, rfl⟩
          obtain ⟨P, hP⟩ : ∃ P, 128 ^ 5 = P := ⟨_, rfl⟩
          rw [hS, hP]
          clear hS hP hlt2
          go_wp2
          go_ret2
          exact ⟨rfl, rfl⟩
        · rw [if_neg h5] at hend
          have h5' : (((k : Nat) : Int) == 5) = false := by simp; omega
          have hP5 : 128 ^ k ≤ 128 ^ 4 := Nat.pow_le_pow_right (by omega) (by omega)
          have hP1 := pow_pos' k
          obtain ⟨S, hS⟩ : ∃ S, sumV B = S := ⟨_, rfl⟩
          obtain ⟨P, hP⟩ : ∃ P, 128 ^ k = P := ⟨_, rfl⟩
          rw [hS, hP] at hend hlt2
          rw [hP] at hP5 hP1
          rw [hS, hP]
          obtain ⟨s, hs0⟩ : ∃ s : Int, ((S : Nat) : Int) = s := ⟨_, rfl⟩
          obtain ⟨p, hp0⟩ : ∃ p : Int, ((P : Nat) : Int) = p := ⟨_, rfl⟩
          rw [hs0, hp0] at hend ⊢
          have hs1 : 0 ≤ s ∧ s < p ∧ 1 ≤ p ∧ p ≤ 268435456 := by omega
          obtain ⟨hs1, hs2, hp1, hp2⟩ := hs1
          have HE := Lib.hid hend
          clear hS hP hs0 hp0 hlt2 hP5 hP1 hend h5
          obtain ⟨f1, f2, f3⟩ := up_facts (lo - s + p - 1) p hp1
          obtain ⟨g1, g2, g3⟩ := up_facts (lo - (s + p) + p - 1) p hp1
          go_wp2
          all_goals
            go_ret2
            refine ⟨ret_bi ?_ rfl, rfl⟩
            rw [HE.out]
            first
              | (rw [lead_a loose k s p (by first | exact .inl ‹_› | exact .inr (by omega))]; first | rw [up_a (by omega)] | rw [up_b (by omega)])
              | (rw [lead_b loose k s p (by simpa using ‹¬ loose = true›) (by omega)]; first | rw [up_a (by omega)] | rw [up_b (by omega)])
end Go.Proofs.Ytfkaghfbngicmaa
