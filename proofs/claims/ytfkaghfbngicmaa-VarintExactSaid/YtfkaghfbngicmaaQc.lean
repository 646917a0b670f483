/- What bytes begin with: IndexFunc, begin. Conditions: the bytes lie in memory. -/
import Derived.Test.YtfkaghfbngicmaaQb
namespace Go.Proofs.Ytfkaghfbngicmaa
open Go.RowKit Go.Shelf

set_option maxRecDepth 100000 in
set_option maxHeartbeats 800000 in
theorem low_any (c : Nat) (w : World) : Calls Try.prog 38 #[.int .u8 c] w fun e w' => e = .returned (.bool (decide (c < 128))) ∧ w = w' := by
  go_enter Try.func38, Try.ntmps38
  go_wp2
  all_goals (go_ret; refine ⟨ret_bool' ?_, rfl⟩; rw [Bool.eq_iff_iff]; simp [*]; try omega)

def lowC (B : List Nat) : Int := if lowI B < B.length then ((lowI B : Nat) : Int) else -1

set_option maxRecDepth 100000 in
set_option maxHeartbeats 1600000 in
theorem idx_any (A : Option Addr) (n c : Nat) (B : List Nat) (w : World) (hs : SrcAt w (.slice A n c) B) (hn : n = B.length) (hl : n ≤ 9223372036854775807) :
    Calls Try.prog 37 #[.slice A n c, .func (.func 38) #[] #[]] w fun e w' => e = .returned (.int .i64 (lowC B)) ∧ w = w' := by
  obtain ⟨R, hR⟩ : ∃ R, lowC B = R := ⟨_, rfl⟩
  rw [hR]
  have HR := Lib.hid hR
  have HS := Lib.hid hs
  have HN := Lib.hid hn
  clear hR hs hn
  go_enter Try.func37, Try.ntmps37
  go_wp2
  go_loop [8] (fun x8 => ∃ k : Nat, k ≤ n ∧ x8 = .int .i64 ((k : Nat) : Int) ∧ k ≤ lowI B) (fun x8 => n - (intOf x8).toNat)
  case atStart => exact ⟨0, Nat.zero_le _, rfl, Nat.zero_le _⟩
  case round =>
    obtain ⟨k, hk, rfl, hlo⟩ := hrel
    by_cases hlt : k < n
    · have hkB : k < B.length := by rw [← HN.out]; exact hlt
      obtain ⟨a, rfl, hcell⟩ := src_byte HS.out k hkB
      have hh := lowI_hit B k hkB hlo
      have hm := lowI_miss B k hkB hlo
      obtain ⟨x, hx⟩ : ∃ x, B[k] = x := ⟨_, rfl⟩
      rw [hx] at hcell hh hm
      have HL := fun w => Lib.hid (low_any x w)
      have HLO := Lib.hid hlo
      have hlti : ((k : Nat) : Int) < ((n : Nat) : Int) := by omega
      by_cases hc : x < 128
      · have he := hh hc
        have HE := Lib.hid he
        have hd : decide (x < 128) = true := by simpa using hc
        simp only [hd] at HL
        clear hh hm hx hlo he hc hd
        go_wp2_with (go_at_call 38; refine ((HL _).out).mono ?_; rintro e w' ⟨rfl, rfl⟩)
        go_ret
        refine ⟨ret_int' ?_, rfl⟩
        rw [← HR.out]
        unfold lowC
        rw [HE.out, if_pos hkB]
      · have he := hm hc
        have HE := Lib.hid he
        have hd : decide (x < 128) = false := by simpa using hc
        simp only [hd] at HL
        clear hh hm hx hlo he hc hd
        go_wp2_with (go_at_call 38; refine ((HL _).out).mono ?_; rintro e w' ⟨rfl, rfl⟩)
        go_round
        case rel => exact ⟨k + 1, by omega, by go_num, HE.out⟩
        case measure => simp [intOf]; omega
    · obtain rfl : k = n := by omega
      have HLO := Lib.hid hlo
      clear hlo
      go_wp2
      go_ret
      refine ⟨ret_int' ?_, rfl⟩
      rw [← HR.out]
      unfold lowC
      have := lowI_le B
      have h1 := HLO.out
      have h2 := HN.out
      rw [if_neg (by omega)]
end Go.Proofs.Ytfkaghfbngicmaa
